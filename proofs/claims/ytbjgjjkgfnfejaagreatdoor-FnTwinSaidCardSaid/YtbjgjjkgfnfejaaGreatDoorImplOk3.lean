/-
  The document's model of ProgOk (spec.ProgOk and what it calls) answers the plain function progOk; it writes to nothing that was there.
-/
import Derived.Test.YtbjgjjkgfnfejaaGreatDoorRFV
import Derived.Deep.RegionHeld3
namespace Go.Proofs.YtbjgjjkgfnfejaaGreatDoor
set_option maxHeartbeats 2000000
open Go.RowKit
theorem qT (n lo hi:Int) (w:World) :
 Calls Tryz.prog 42 #[zI n,zI lo,zI hi] w fun e w'=>e=.returned (.bool (qC n lo hi))/\w'=w:=by
 go_enter Tryz.func42,Tryz.ntmps42
 by_cases h:lo<=n
 ·go_wp2
  go_ret
  exact⟨zo (by simp[qC,h]),rfl⟩
 ·go_wp2
  go_ret
  exact⟨zo (by rw[eq_comm,qc];omega),rfl⟩
theorem zd3 (ap:Option Addr) (nm cp:Nat) (x t:Int) (ao:Option Addr) (no co:Nat) (k a:Int) (w:World) (ht0:0<=t) (JU:t<=4) (hnm:nm<=maxLen) (hno:no<=maxLen) :
 Calls Tryz.prog 125 #[.agg #[.slice ap nm cp],.agg #[zI x,zI t,.slice ao no co],.agg #[zI k,zI a]] w fun e w'=>e=.returned (.bool (kg nm no t k a))/\zO w w':=by
 unfold maxLen at hnm hno
 have hB:∀o1 o2 o3,zO w (((w.alloc o1).alloc o2).alloc o3):=fun o1 o2 o3=>((zR _ _).alloc (by simp) _).alloc (by simp;omega) _
 by_cases h1:k=1
 ·subst h1
  go_enter Tryz.func125,Tryz.ntmps125
  go_wp2_with (go_at_call 42;refine(qT _ _ _ _).mono ?_;rintro e w' ⟨rfl,rfl⟩)
  go_ret
  exact⟨rfl,hB _ _ _⟩
 by_cases h2:k=2
 ·subst h2
  go_enter Tryz.func125,Tryz.ntmps125
  go_wp2_with (go_at_call 42;refine(qT _ _ _ _).mono ?_;rintro e w' ⟨rfl,rfl⟩)
  go_ret
  exact⟨rfl,hB _ _ _⟩
 by_cases h3:k=3
 ·subst h3
  go_enter Tryz.func125,Tryz.ntmps125
  go_wp2_with (go_at_call 42;refine(qT _ _ _ _).mono ?_;rintro e w' ⟨rfl,rfl⟩)
  go_ret
  exact⟨rfl,hB _ _ _⟩
 by_cases h7:k=7
 ·subst h7
  go_enter Tryz.func125,Tryz.ntmps125
  go_wp2_with (go_at_call 42;refine(qT _ _ _ _).mono ?_;rintro e w' ⟨rfl,rfl⟩)
  go_ret
  exact⟨rfl,hB _ _ _⟩
 by_cases h8:k=8
 ·subst h8
  go_enter Tryz.func125,Tryz.ntmps125
  go_wp2_with (go_at_call 42;refine(qT _ _ _ _).mono ?_;rintro e w' ⟨rfl,rfl⟩)
  go_ret
  exact⟨rfl,hB _ _ _⟩
 by_cases h9:k=9
 ·subst h9
  go_enter Tryz.func125,Tryz.ntmps125
  go_wp2_with (go_at_call 42;refine(qT _ _ _ _).mono ?_;rintro e w' ⟨rfl,rfl⟩)
  go_ret
  exact⟨rfl,hB _ _ _⟩
 by_cases Uw:k=13
 ·subst Uw
  go_enter Tryz.func125,Tryz.ntmps125
  go_wp2_with (go_at_call 42;refine(qT _ _ _ _).mono ?_;rintro e w' ⟨rfl,rfl⟩)
  go_ret
  exact⟨rfl,hB _ _ _⟩
 by_cases K1:k=14
 ·subst K1
  go_enter Tryz.func125,Tryz.ntmps125
  go_wp2_with (go_at_call 42;refine(qT _ _ _ _).mono ?_;rintro e w' ⟨rfl,rfl⟩)
  go_ret
  exact⟨rfl,hB _ _ _⟩
 rw[XI nm no t k a h1 h2 h3 h7 h8 h9 Uw K1]
 have e1:=zG.2 h1
 have e2:=zG.2 h2
 have e3:=zG.2 h3
 have e7:=zG.2 h7
 have e8:=zG.2 h8
 have e9:=zG.2 h9
 have e13:=zG.2 Uw
 have e14:=zG.2 K1
 clear h1 h2 h3 h7 h8 h9 Uw K1
 cases hk:qC k 1 18
 all_goals
  go_enter Tryz.func125,Tryz.ntmps125
  go_wp2_with (go_at_call 42;refine(qT _ _ _ _).mono ?_;rintro e w' ⟨rfl,rfl⟩)
  go_ret
  exact⟨rfl,hB _ _ _⟩
theorem UI (ap:Option Addr) (nm cp:Nat) (x t:Int) (vo:Value) (ops:yH) (w:World) (h:yo w vo ops) (hnm:nm<=maxLen) :
 Calls Tryz.prog 82 #[.agg #[.slice ap nm cp],.agg #[zI x,zI t,vo]] w fun e w'=>e=.returned (.bool (qd nm (x,t,ops)))/\zO w w':=by
 obtain⟨ao,co,rfl,hl,hc⟩:=h
 have hl':=hl
 have hB:∀o1 o2,zO w ((w.alloc o1).alloc o2):=fun o1 o2=>(zR _ _).alloc (by simp) _
 unfold maxLen at hl
 cases h1:qC x 0 2
 ·rw[QB h1]
  go_enter Tryz.func82,Tryz.ntmps82
  go_wp2_with (go_at_call 42;refine(qT _ _ _ _).mono ?_;rintro e w' ⟨rfl,rfl⟩)
  go_ret
  exact⟨rfl,hB _ _⟩
 cases h2:qC t x 4
 ·rw[QC h2]
  go_enter Tryz.func82,Tryz.ntmps82
  go_wp2_with (go_at_call 42;refine(qT _ _ _ _).mono ?_;rintro e w' ⟨rfl,rfl⟩)
  go_ret
  exact⟨rfl,hB _ _⟩
 by_cases h3:ops.length<=14
 case neg =>
  rw[Kx h3]
  have h3':(14:Int)<ops.length:=by omega
  go_enter Tryz.func82,Tryz.ntmps82
  go_wp2_with (go_at_call 42;refine(qT _ _ _ _).mono ?_;rintro e w' ⟨rfl,rfl⟩)
  go_ret
  exact⟨rfl,hB _ _⟩
 have H:Hid (∀b,VZ nm t ops=b->qd nm (x,t,ops)=b):=fun b hb=>VU h1 h2 h3 hb
 have ht:=zF.1 h2
 have hx:=zF.1 h1
 have h3':¬(14:Int)<ops.length:=by omega
 go_enter Tryz.func82,Tryz.ntmps82
 go_wp2_with (go_at_call 42;refine(qT _ _ _ _).mono ?_;rintro e w' ⟨rfl,rfl⟩)
 clear h1 h2 hB
 go_loopg [5] ops.length (fun g i wr=>∃k:Nat,k<=ops.length/\g=ops.length - k/\i=zI k/\Y8 w wr (.slice ap nm cp) x t (.slice ao ops.length co)/\∀j,(hj:j<ops.length)->j<k->kg nm ops.length t ops[j].1 ops[j].2=true)
 case atStart=>exact⟨0,Nat.zero_le _,rfl,rfl,Y8.new _ _ _ _ _ _ _,fun j _ h=>absurd h yB⟩
 case round =>
  obtain⟨k,hk,rfl,rfl,Vf,hall⟩:=hrel
  have HA:Hid (∀j,(hj:j<ops.length)->j<k->kg nm ops.length t ops[j].1 ops[j].2=true):=hall
  clear hall
  obtain⟨bp,ba,bb,bc,hb⟩:=id Vf
  by_cases yz:k<ops.length
  ·obtain⟨b,o,rfl,c0,c1⟩:=hc k yz
   have d0:=zc hb c0
   have d1:=zc hb c1
   clear c0 c1 hc
   have uW:(k:Int)<(ops.length:Int):=by omega
   go_wp2_with fail
   go_region_held3 (fun w'=>w'.cell? (zH w.heap.size 0)=some (.slice ap nm cp)/\w'.cell? (zH (w.heap.size+1) 0)=some (zI x)/\w'.cell? (zH (w.heap.size+1) 1)=some (zI t)/\w'.cell? (zH (w.heap.size+1) 2)=some (zK b o ops.length co)/\w'.cell? (zH b (o+k * 2))=some (zI ops[k].1)/\w'.cell? (zH b (o+k * 2+1))=some (zI ops[k].2))
    (first | go_keep | (refine⟨zc qa ?_,zc qa ?_,zc qa ?_,zc qa ?_,zc qa ?_,zc qa ?_⟩ <;> assumption))
    ((go_at_call 125;refine(zd3 _ _ _ _ _ _ _ _ _ _ _ (by omega) (by omega) hnm hl').mono ?_;rintro e w1 ⟨rfl,qa⟩))
   have ze6:Y8 w w1 (.slice ap nm cp) x t (zK b o ops.length co):=(Vf.go zS.drew).go qa
   clear qa Vf bp ba bb bc hb d0 d1
   cases hq:kg nm ops.length t ops[k].1 ops[k].2
   ·have HF:Hid (qd nm (x,t,ops)=false):=H.out _ (WZ yz hq)
    go_wp2
    go_ret
    exact⟨zo HF.out.symm,ze6.below⟩
   ·have HQ:Hid (kg nm ops.length t ops[k].1 ops[k].2=true):=hq
    go_wp2
    go_roundg (ops.length - (k+1))
    case measure=>omega
    case rel =>
     refine⟨k+1,by omega,rfl,by go_num,ze6,fun j hj hjk=>?_⟩
     by_cases e:j=k
     ·subst e;exact HQ.out
     ·exact HA.out j hj (by omega)
  ·obtain rfl:k=ops.length:=by omega
   go_wp2
   go_ret
   exact⟨zo (H.out _ (V0 fun i hi=>HA.out i hi hi)).symm,hb⟩
theorem KO (v:Value) (ms:zM) (w:World) (h:yD w v ms) :
 Calls Tryz.prog 41 #[.agg #[v]] w fun e w'=>e=.returned (.bool (yr ms))/\zO w w':=by
 obtain⟨a,cap,rfl,hl,hc⟩:=h
 have hl':=hl
 have hB:∀o1,zO w (w.alloc o1):=fun o1=>zR _ _
 unfold maxLen at hl
 cases h1:qC ms.length 1 4
 ·rw[show yr ms=false by simp[yr,h1]]
  go_enter Tryz.func41,Tryz.ntmps41
  go_wp2_with (go_at_call 42;refine(qT _ _ _ _).mono ?_;rintro e w' ⟨rfl,rfl⟩)
  go_ret
  exact⟨rfl,hB _⟩
 have hlen:=zF.1 h1
 have zdH:0<ms.length:=by omega
 have Qi:(ms.getD 0 (0,0,[])).1=ms[0].1:=by simp[zdH]
 obtain⟨b,o,vo0,rfl,c0,c1,c2,c3⟩:=hc 0 zdH
 have e0:w.cell? (zH b o)=some (zI ms[0].1):=by simpa using c0
 have hblt:=World.block_lt_of_cell? _ _ e0
 have E0:∀o1,(w.alloc o1).cell? (zH b o)=some (zI ms[0].1):=fun o1=>zc (hB o1) e0
 clear c0 c1 c2 c3 e0 hblt
 cases h2:(ms[0].1 == 0)
 ·rw[show yr ms=false by simp only[yr,h1,Qi,h2];rfl]
  have h2':(ms[0].1 != 0)=true:=by simp only[bne,h2];rfl
  go_enter Tryz.func41,Tryz.ntmps41
  go_wp2_with (go_at_call 42;refine(qT _ _ _ _).mono ?_;rintro e w' ⟨rfl,rfl⟩)
  go_ret
  exact⟨rfl,hB _⟩
 have H:Hid (yr ms=ms.all (qd ms.length)):=by
  show yr ms=_
  simp only[yr,h1,Qi,h2,Bool.true_and]
 have h2':(ms[0].1 != 0)=false:=by simp only[bne,h2];rfl
 go_enter Tryz.func41,Tryz.ntmps41
 go_wp2_with (go_at_call 42;refine(qT _ _ _ _).mono ?_;rintro e w' ⟨rfl,rfl⟩)
 clear h1 h2 h2' Qi hB E0
 go_loopg [3] ms.length (fun g i wr=>∃k:Nat,k<=ms.length/\g=ms.length - k/\i=zI k/\wr.cell? (zH w.heap.size 0)=some (zK b o ms.length cap)/\zO w wr/\∀j,(hj:j<ms.length)->j<k->qd ms.length ms[j]=true)
 case atStart=>exact⟨0,Nat.zero_le _,rfl,rfl,by simp[go_sem],zR _ _,fun j _ h=>absurd h yB⟩
 case round =>
  obtain⟨k,hk,rfl,rfl,bp,hb,hall⟩:=hrel
  have HA:Hid (∀j,(hj:j<ms.length)->j<k->qd ms.length ms[j]=true):=hall
  clear hall
  have vJ:=hb.size
  by_cases yz:k<ms.length
  ·obtain⟨b',o',vo,Xw,c0,c1,c2,c3⟩:=hc k yz
   obtain⟨rfl,rfl⟩:b=b'/\o=o':=by simpa using Xw
   have d0:=zc hb c0
   have d1:=zc hb c1
   have d2:=zc hb c2
   have d3:=(c3.below hb).below zS.drew
   clear c0 c1 c2 c3 hc Xw
   obtain⟨ao,co,j5,_⟩:=id d3
   rw[j5] at d2 d3
   clear j5
   have uW:(k:Int)<(ms.length:Int):=by omega
   go_wp2_with fail
   go_region_held3 (fun w'=>w'.cell? (zH w.heap.size 0)=some (zK b o ms.length cap)/\w'.cell? (zH b (o+k * 3))=some (zI ms[k].1)/\w'.cell? (zH b (o+k * 3+1))=some (zI ms[k].2.1)/\w'.cell? (zH b (o+k * 3+2))=some (.slice ao ms[k].2.2.length co))
    (first | go_keep | (refine⟨zc qa ?_,zc qa ?_,zc qa ?_,zc qa ?_⟩ <;> assumption))
    ((go_at_call 82;refine(UI _ _ _ _ _ _ _ _ d3 hl').mono ?_;rintro e w1 ⟨rfl,qa⟩))
   have bp1:=zc qa bp
   have yL:zO w w1:=hb.drew.trans (qa.mono vJ)
   clear qa bp hb d0 d1 d2 d3
   cases hq:qd ms.length (ms[k].1,ms[k].2.1,ms[k].2.2)
   ·have HF:Hid (yr ms=false):=H.out.trans (QR yz hq)
    go_wp2
    go_ret
    exact⟨zo HF.out.symm,yL⟩
   ·have HQ:Hid (qd ms.length ms[k]=true):=hq
    go_wp2
    go_roundg (ms.length - (k+1))
    case measure=>omega
    case rel =>
     refine⟨k+1,by omega,rfl,by go_num,bp1,yL,fun j hj hjk=>?_⟩
     by_cases e:j=k
     ·subst e;exact HQ.out
     ·exact HA.out j hj (by omega)
  ·obtain rfl:k=ms.length:=by omega
   go_wp2
   go_ret
   exact⟨zo (H.out.trans (Xr fun i hi=>HA.out i hi hi)).symm,hb⟩
theorem yc (n size:Int) (w:World) :
 Calls Tryz.prog 58 #[zI n,zI size] w fun e w'=>e=.returned (.bool (qC n 0 (size - 1)))/\w'=w:=by
 go_enter Tryz.func58,Tryz.ntmps58
 by_cases h:0<=n
 ·go_wp2
  go_ret
  exact⟨zo (by rw[Bool.eq_iff_iff,zF,decide_eq_true_iff];omega),rfl⟩
 ·go_wp2
  go_ret
  exact⟨zo (by rw[eq_comm,qc];omega),rfl⟩
theorem jm (k:Int) (w:World) :
 Calls Tryz.prog 123 #[zI k] w fun e w'=>e=.returned (.bool (qC k 1 18))/\w'=w:=by
 go_enter Tryz.func123,Tryz.ntmps123
 by_cases h:1<=k
 ·go_wp2
  go_ret
  exact⟨zo (by rw[Bool.eq_iff_iff,zF,decide_eq_true_iff];omega),rfl⟩
 ·go_wp2
  go_ret
  exact⟨zo (by rw[eq_comm,qc];omega),rfl⟩
def UR (k:Int):Nat :=
 if k=1 then 210 else if k=2\/k=3 then 211 else if k=7\/k=8 then 212 else if k=9 then 213
 else if k=13\/k=14 then 214 else 215
theorem VY (k:Int) (h1:¬k=1) (h2:¬k=2) (h3:¬k=3) (h7:¬k=7) (h8:¬k=8) (h9:¬k=9) (Uw:¬k=13) (K1:¬k=14):UR k=215:=by
 simp[UR,h1,h2,h3,h7,h8,h9,Uw,K1]
theorem zeh (k:Int):(UR k=210/\k=1)\/(UR k=211/\(k=2\/k=3))\/(UR k=212/\(k=7\/k=8))\/(UR k=213/\k=9) \/
 (UR k=214/\(k=13\/k=14))\/(UR k=215/\¬k=1/\¬k=2/\¬k=3/\¬k=7/\¬k=8/\¬k=9/\¬k=13/\¬k=14):=by
 by_cases h1:k=1
 ·subst h1;exact .inl ⟨rfl,rfl⟩
 by_cases h2:k=2
 ·subst h2;exact .inr (.inl ⟨rfl,.inl rfl⟩)
 by_cases h3:k=3
 ·subst h3;exact .inr (.inl ⟨rfl,.inr rfl⟩)
 by_cases h7:k=7
 ·subst h7;exact .inr (.inr (.inl ⟨rfl,.inl rfl⟩))
 by_cases h8:k=8
 ·subst h8;exact .inr (.inr (.inl ⟨rfl,.inr rfl⟩))
 by_cases h9:k=9
 ·subst h9;exact .inr (.inr (.inr (.inl ⟨rfl,rfl⟩)))
 by_cases Uw:k=13
 ·subst Uw;exact .inr (.inr (.inr (.inr (.inl ⟨rfl,.inl rfl⟩))))
 by_cases K1:k=14
 ·subst K1;exact .inr (.inr (.inr (.inr (.inl ⟨rfl,.inr rfl⟩))))
 exact .inr (.inr (.inr (.inr (.inr ⟨VY k h1 h2 h3 h7 h8 h9 Uw K1,h1,h2,h3,h7,h8,h9,Uw,K1⟩))))
theorem Vp (k a:Int) (w:World) :
 Calls Tryz.prog 124 #[.agg #[zI k,zI a]] w fun e w'=>e=.returned (.iface (UR k) (zI a))/\zO w w':=by
 have hB:∀o1,zO w (w.alloc o1):=fun o1=>zR _ _
 by_cases h1:k=1
 ·subst h1
  go_enter Tryz.func124,Tryz.ntmps124
  go_wp2
  go_ret
  exact⟨rfl,hB _⟩
 by_cases h2:k=2
 ·subst h2
  go_enter Tryz.func124,Tryz.ntmps124
  go_wp2
  go_ret
  exact⟨rfl,hB _⟩
 by_cases h3:k=3
 ·subst h3
  go_enter Tryz.func124,Tryz.ntmps124
  go_wp2
  go_ret
  exact⟨rfl,hB _⟩
 by_cases h7:k=7
 ·subst h7
  go_enter Tryz.func124,Tryz.ntmps124
  go_wp2
  go_ret
  exact⟨rfl,hB _⟩
 by_cases h8:k=8
 ·subst h8
  go_enter Tryz.func124,Tryz.ntmps124
  go_wp2
  go_ret
  exact⟨rfl,hB _⟩
 by_cases h9:k=9
 ·subst h9
  go_enter Tryz.func124,Tryz.ntmps124
  go_wp2
  go_ret
  exact⟨rfl,hB _⟩
 by_cases Uw:k=13
 ·subst Uw
  go_enter Tryz.func124,Tryz.ntmps124
  go_wp2
  go_ret
  exact⟨rfl,hB _⟩
 by_cases K1:k=14
 ·subst K1
  go_enter Tryz.func124,Tryz.ntmps124
  go_wp2
  go_ret
  exact⟨rfl,hB _⟩
 rw[VY k h1 h2 h3 h7 h8 h9 Uw K1]
 have e1:=zG.2 h1
 have e2:=zG.2 h2
 have e3:=zG.2 h3
 have e7:=zG.2 h7
 have e8:=zG.2 h8
 have e9:=zG.2 h9
 have e13:=zG.2 Uw
 have e14:=zG.2 K1
 clear h1 h2 h3 h7 h8 h9 Uw K1
 go_enter Tryz.func124,Tryz.ntmps124
 go_wp2
 go_ret
 exact⟨rfl,hB _⟩
section
variable (a:Int) (ap:Option Addr) (nm cp:Nat) (x t:Int) (ao:Option Addr) (no co:Nat) (w:World)
theorem WV:Calls Tryz.prog 230 #[zI a,.agg #[.slice ap nm cp],.agg #[zI x,zI t,.slice ao no co]] w fun e w'=>e=.returned (.bool (qC a 0 99))/\zO w w':=by
 go_enter Tryz.func230,Tryz.ntmps230
 go_wp2_with (go_at_call 58;refine(yc _ _ _).mono ?_;rintro e w' ⟨rfl,rfl⟩)
 go_ret
 exact⟨rfl,(zR _ _).alloc (by simp) _⟩
theorem U2:Calls Tryz.prog 231 #[zI a,.agg #[.slice ap nm cp],.agg #[zI x,zI t,.slice ao no co]] w fun e w'=>e=.returned (.bool (qC a 0 (t - 1)))/\zO w w':=by
 go_enter Tryz.func231,Tryz.ntmps231
 go_wp2_with (go_at_call 58;refine(yc _ _ _).mono ?_;rintro e w' ⟨rfl,rfl⟩)
 go_ret
 exact⟨rfl,(zR _ _).alloc (by simp) _⟩
theorem Vs:Calls Tryz.prog 232 #[zI a,.agg #[.slice ap nm cp],.agg #[zI x,zI t,.slice ao no co]] w fun e w'=>e=.returned (.bool (qC a 0 ((no:Int) - 1)))/\zO w w':=by
 go_enter Tryz.func232,Tryz.ntmps232
 go_wp2_with (go_at_call 58;refine(yc _ _ _).mono ?_;rintro e w' ⟨rfl,rfl⟩)
 go_ret
 exact⟨rfl,(zR _ _).alloc (by simp) _⟩
theorem Ky:Calls Tryz.prog 233 #[zI a,.agg #[.slice ap nm cp],.agg #[zI x,zI t,.slice ao no co]] w fun e w'=>e=.returned (.bool (qC a 0 ((nm:Int) - 1)))/\zO w w':=by
 go_enter Tryz.func233,Tryz.ntmps233
 go_wp2_with (go_at_call 58;refine(yc _ _ _).mono ?_;rintro e w' ⟨rfl,rfl⟩)
 go_ret
 exact⟨rfl,(zR _ _).alloc (by simp) _⟩
theorem UT:Calls Tryz.prog 234 #[zI a,.agg #[.slice ap nm cp],.agg #[zI x,zI t,.slice ao no co]] w fun e w'=>e=.returned (.bool (qC a 0 3))/\zO w w':=by
 go_enter Tryz.func234,Tryz.ntmps234
 go_wp2_with (go_at_call 58;refine(yc _ _ _).mono ?_;rintro e w' ⟨rfl,rfl⟩)
 go_ret
 exact⟨rfl,(zR _ _).alloc (by simp) _⟩
theorem zby:Calls Tryz.prog 235 #[zI a,.agg #[.slice ap nm cp],.agg #[zI x,zI t,.slice ao no co]] w fun e w'=>e=.returned (.bool (a == 0))/\zO w w':=by
 go_enter Tryz.func235,Tryz.ntmps235
 go_wp2
 go_ret
 exact⟨rfl,(zR _ _).alloc (by simp) _⟩
end
theorem Tryz.run_num (a : Int) (w : World) : (method 364 210 (zI a) "loop.example/gemel/impl.fits").run Tryz.prog w = .ok (230, zI a) w := by kernel_rfl
theorem Tryz.run_temp (a : Int) (w : World) : (method 364 211 (zI a) "loop.example/gemel/impl.fits").run Tryz.prog w = .ok (231, zI a) w := by kernel_rfl
theorem Tryz.run_place (a : Int) (w : World) : (method 364 212 (zI a) "loop.example/gemel/impl.fits").run Tryz.prog w = .ok (232, zI a) w := by kernel_rfl
theorem Tryz.run_method (a : Int) (w : World) : (method 364 213 (zI a) "loop.example/gemel/impl.fits").run Tryz.prog w = .ok (233, zI a) w := by kernel_rfl
theorem Tryz.run_peek (a : Int) (w : World) : (method 364 214 (zI a) "loop.example/gemel/impl.fits").run Tryz.prog w = .ok (234, zI a) w := by kernel_rfl
theorem Tryz.run_no (a : Int) (w : World) : (method 364 215 (zI a) "loop.example/gemel/impl.fits").run Tryz.prog w = .ok (235, zI a) w := by kernel_rfl
theorem zcQ {nm:Nat} {x t:Int} {ops:yH} (h:x<0):qd nm (x,t,ops)=false:=QB (qc.2 (by omega))
theorem zcR {nm:Nat} {x t:Int} {ops:yH} (h:2<x):qd nm (x,t,ops)=false:=QB (qc.2 (by omega))
theorem zcP {nm:Nat} {x t:Int} {ops:yH} (h:t<x):qd nm (x,t,ops)=false:=QC (qc.2 (by omega))
theorem zcO {nm:Nat} {x t:Int} {ops:yH} (h:4<t):qd nm (x,t,ops)=false:=QC (qc.2 (by omega))
set_option maxRecDepth 100000 in
theorem UM (ap:Option Addr) (nm cp:Nat) (x t:Int) (vo:Value) (ops:yH) (w:World) (h:yo w vo ops) :
 Calls Tryz.prog 81 #[.agg #[.slice ap nm cp],.agg #[zI x,zI t,vo]] w fun e w'=>e=.returned (.bool (qd nm (x,t,ops)))/\zO w w':=by
 obtain⟨ao,co,rfl,hl,hc⟩:=h
 have hl':=hl
 have hB:∀o1 o2,zO w ((w.alloc o1).alloc o2):=fun o1 o2=>(zR _ _).alloc (by simp) _
 unfold maxLen at hl
 by_cases Qi:x<0
 ·rw[zcQ Qi]
  go_enter Tryz.func81,Tryz.ntmps81
  go_wp2
  go_ret
  exact⟨rfl,hB _ _⟩
 by_cases wk:2<x
 ·rw[zcR wk]
  go_enter Tryz.func81,Tryz.ntmps81
  go_wp2
  go_ret
  exact⟨rfl,hB _ _⟩
 by_cases htx:t<x
 ·rw[zcP htx]
  go_enter Tryz.func81,Tryz.ntmps81
  go_wp2
  go_ret
  exact⟨rfl,hB _ _⟩
 by_cases JU:4<t
 ·rw[zcO JU]
  go_enter Tryz.func81,Tryz.ntmps81
  go_wp2
  go_ret
  exact⟨rfl,hB _ _⟩
 by_cases h3:ops.length<=14
 case neg =>
  rw[Kx h3]
  have h3':(14:Int)<ops.length:=by omega
  go_enter Tryz.func81,Tryz.ntmps81
  go_wp2
  go_ret
  exact⟨rfl,hB _ _⟩
 have H:Hid (∀b,VZ nm t ops=b->qd nm (x,t,ops)=b):=fun b hb=>VU (zF.2 (by omega)) (zF.2 (by omega)) h3 hb
 have h3':¬(14:Int)<ops.length:=by omega
 go_enter Tryz.func81,Tryz.ntmps81
 go_wp2
 clear hB
 go_loopg [36] ops.length (fun g i wr=>∃k:Nat,k<=ops.length/\g=ops.length - k/\i=zI k/\Y8 w wr (.slice ap nm cp) x t (.slice ao ops.length co)/\∀j,(hj:j<ops.length)->j<k->kg nm ops.length t ops[j].1 ops[j].2=true)
 case atStart=>exact⟨0,Nat.zero_le _,rfl,rfl,Y8.new _ _ _ _ _ _ _,fun j _ h=>absurd h yB⟩
 case round =>
  obtain⟨k,hk,rfl,rfl,Vf,hall⟩:=hrel
  have HA:Hid (∀j,(hj:j<ops.length)->j<k->kg nm ops.length t ops[j].1 ops[j].2=true):=hall
  clear hall
  obtain⟨bp,ba,bb,bc,hb⟩:=id Vf
  have vJ:=hb.size
  by_cases yz:k<ops.length
  ·obtain⟨b,o,rfl,c0,c1⟩:=hc k yz
   have d0:=zc hb c0
   have d1:=zc hb c1
   clear c0 c1 hc
   have uW:(k:Int)<(ops.length:Int):=by omega
   have HO:Hid (∀b',kg nm ops.length t ops[k].1 ops[k].2=b'->(b'=false->qd nm (x,t,ops)=false)/\(b'=true->∀j,(hj:j<ops.length)->j<k+1->kg nm ops.length t ops[j].1 ops[j].2=true)):=fun b' hb'=>⟨fun e=>H.out _ (WZ yz (hb'.trans e)),fun e j hj hjk=>by
    by_cases e':j=k
    ·subst e';exact hb'.trans e
    ·exact HA.out j hj (by omega)⟩
   clear H HA
   generalize ops[k].1=kk at *
   generalize ops[k].2=aa at *
   go_wp2_with fail
   have q0:(wr.alloc (.cells #[.int .i64 kk,.int .i64 aa] 70)).cell? (zH wr.heap.size 0)=some (.int .i64 kk):=by simp[go_sem]
   have q1:(wr.alloc (.cells #[.int .i64 kk,.int .i64 aa] 70)).cell? (zH wr.heap.size 1)=some (.int .i64 aa):=by simp[go_sem]
   have Zd:=Vf.go (zR _ (.cells #[.int .i64 kk,.int .i64 aa] 70))
   clear Vf bp ba bb bc d0 d1 hb
   generalize wr.alloc (.cells #[.int .i64 kk,.int .i64 aa] 70)=W2 at *
   obtain⟨bp,ba,bb,bc,hb⟩:=id Zd
   have hop:=fun w=>Vp kk aa w
   cases hk18:qC kk 1 18
   ·have HF:Hid (qd nm (x,t,ops)=false):=(HO.out _ (WY hk18)).1 rfl
    clear hop
    go_region_with (go_at_call 123;refine(jm _ _).mono ?_;rintro e w' ⟨rfl,rfl⟩)
    all_goals
     go_wp2
     go_ret
     exact⟨zo HF.out.symm,Zd.below.drew⟩
   ·rcases zeh kk with⟨hT,hkk⟩ | ⟨hT,hkk⟩ | ⟨hT,hkk⟩ | ⟨hT,hkk⟩ | ⟨hT,hkk⟩ | ⟨hT,hkk⟩
    ·have HV:Hid (kg nm ops.length t kk aa=qC aa 0 99):=by subst hkk;exact rfl
     rw[hT] at hop
     have HP:Hid (∀w,Calls _ _ _ w _):=hop
     have hm:=Tryz.run_num aa
     clear hop hkk hT
     go_region_held3 (fun w'=>w'.cell? (zH w.heap.size 0)=some (.slice ap nm cp)/\w'.cell? (zH (w.heap.size+1) 0)=some (zI x)/\w'.cell? (zH (w.heap.size+1) 1)=some (zI t)/\w'.cell? (zH (w.heap.size+1) 2)=some (zK b o ops.length co)/\w'.cell? (zH wr.heap.size 0)=some (zI kk)/\w'.cell? (zH wr.heap.size 1)=some (zI aa))
      (first | go_keep | (refine⟨zc yL ?_,zc yL ?_,zc yL ?_,zc yL ?_,zc yL ?_,zc yL ?_⟩ <;> assumption) | (refine⟨zc qa ?_,zc qa ?_,zc qa ?_,zc qa ?_,zc qa ?_,zc qa ?_⟩ <;> assumption))
      ((first | (go_at_call 123;refine(jm _ _).mono ?_;rintro e w' ⟨rfl,rfl⟩) | (go_at_call 124;refine(HP.out _).mono ?_;rintro e w1 ⟨rfl,qa⟩) | (go_at_call 230;refine(WV _ _ _ _ _ _ _ _ _ _).mono ?_;rintro e w2 ⟨rfl,wG⟩;have yL:=qa.trans (wG.mono qa.size))))
     have uK:=(Zd.go zS.drew).go yL
     clear wG yL qa Zd bp ba bb bc hb q0 q1 hm HP
     cases hq:qC aa 0 99
     ·have HF:Hid (qd nm (x,t,ops)=false):=(HO.out _ (HV.out.trans hq)).1 rfl
      clear HV
      go_wp2
      go_ret
      exact⟨zo HF.out.symm,uK.below⟩
     ·have HQ:Hid (∀j,(hj:j<ops.length)->j<k+1->kg nm ops.length t ops[j].1 ops[j].2=true):=(HO.out _ (HV.out.trans hq)).2 rfl
      clear HV
      go_wp2
      go_roundg (ops.length - (k+1))
      case measure=>omega
      case rel=>exact⟨k+1,by omega,rfl,by go_num,uK,HQ.out⟩
    ·have HV:Hid (kg nm ops.length t kk aa=qC aa 0 (t - 1)):=by rcases hkk with rfl | rfl <;> exact rfl
     rw[hT] at hop
     have HP:Hid (∀w,Calls _ _ _ w _):=hop
     have hm:=Tryz.run_temp aa
     clear hop hkk hT
     go_region_held3 (fun w'=>w'.cell? (zH w.heap.size 0)=some (.slice ap nm cp)/\w'.cell? (zH (w.heap.size+1) 0)=some (zI x)/\w'.cell? (zH (w.heap.size+1) 1)=some (zI t)/\w'.cell? (zH (w.heap.size+1) 2)=some (zK b o ops.length co)/\w'.cell? (zH wr.heap.size 0)=some (zI kk)/\w'.cell? (zH wr.heap.size 1)=some (zI aa))
      (first | go_keep | (refine⟨zc yL ?_,zc yL ?_,zc yL ?_,zc yL ?_,zc yL ?_,zc yL ?_⟩ <;> assumption) | (refine⟨zc qa ?_,zc qa ?_,zc qa ?_,zc qa ?_,zc qa ?_,zc qa ?_⟩ <;> assumption))
      ((first | (go_at_call 123;refine(jm _ _).mono ?_;rintro e w' ⟨rfl,rfl⟩) | (go_at_call 124;refine(HP.out _).mono ?_;rintro e w1 ⟨rfl,qa⟩) | (go_at_call 231;refine(U2 _ _ _ _ _ _ _ _ _ _).mono ?_;rintro e w2 ⟨rfl,wG⟩;have yL:=qa.trans (wG.mono qa.size))))
     have uK:=(Zd.go zS.drew).go yL
     clear wG yL qa Zd bp ba bb bc hb q0 q1 hm HP
     cases hq:qC aa 0 (t - 1)
     ·have HF:Hid (qd nm (x,t,ops)=false):=(HO.out _ (HV.out.trans hq)).1 rfl
      clear HV
      go_wp2
      go_ret
      exact⟨zo HF.out.symm,uK.below⟩
     ·have HQ:Hid (∀j,(hj:j<ops.length)->j<k+1->kg nm ops.length t ops[j].1 ops[j].2=true):=(HO.out _ (HV.out.trans hq)).2 rfl
      clear HV
      go_wp2
      go_roundg (ops.length - (k+1))
      case measure=>omega
      case rel=>exact⟨k+1,by omega,rfl,by go_num,uK,HQ.out⟩
    ·have HV:Hid (kg nm ops.length t kk aa=qC aa 0 ((ops.length:Int) - 1)):=by rcases hkk with rfl | rfl <;> exact rfl
     rw[hT] at hop
     have HP:Hid (∀w,Calls _ _ _ w _):=hop
     have hm:=Tryz.run_place aa
     clear hop hkk hT
     go_region_held3 (fun w'=>w'.cell? (zH w.heap.size 0)=some (.slice ap nm cp)/\w'.cell? (zH (w.heap.size+1) 0)=some (zI x)/\w'.cell? (zH (w.heap.size+1) 1)=some (zI t)/\w'.cell? (zH (w.heap.size+1) 2)=some (zK b o ops.length co)/\w'.cell? (zH wr.heap.size 0)=some (zI kk)/\w'.cell? (zH wr.heap.size 1)=some (zI aa))
      (first | go_keep | (refine⟨zc yL ?_,zc yL ?_,zc yL ?_,zc yL ?_,zc yL ?_,zc yL ?_⟩ <;> assumption) | (refine⟨zc qa ?_,zc qa ?_,zc qa ?_,zc qa ?_,zc qa ?_,zc qa ?_⟩ <;> assumption))
      ((first | (go_at_call 123;refine(jm _ _).mono ?_;rintro e w' ⟨rfl,rfl⟩) | (go_at_call 124;refine(HP.out _).mono ?_;rintro e w1 ⟨rfl,qa⟩) | (go_at_call 232;refine(Vs _ _ _ _ _ _ _ _ _ _).mono ?_;rintro e w2 ⟨rfl,wG⟩;have yL:=qa.trans (wG.mono qa.size))))
     have uK:=(Zd.go zS.drew).go yL
     clear wG yL qa Zd bp ba bb bc hb q0 q1 hm HP
     cases hq:qC aa 0 ((ops.length:Int) - 1)
     ·have HF:Hid (qd nm (x,t,ops)=false):=(HO.out _ (HV.out.trans hq)).1 rfl
      clear HV
      go_wp2
      go_ret
      exact⟨zo HF.out.symm,uK.below⟩
     ·have HQ:Hid (∀j,(hj:j<ops.length)->j<k+1->kg nm ops.length t ops[j].1 ops[j].2=true):=(HO.out _ (HV.out.trans hq)).2 rfl
      clear HV
      go_wp2
      go_roundg (ops.length - (k+1))
      case measure=>omega
      case rel=>exact⟨k+1,by omega,rfl,by go_num,uK,HQ.out⟩
    ·have HV:Hid (kg nm ops.length t kk aa=qC aa 0 ((nm:Int) - 1)):=by subst hkk;exact rfl
     rw[hT] at hop
     have HP:Hid (∀w,Calls _ _ _ w _):=hop
     have hm:=Tryz.run_method aa
     clear hop hkk hT
     go_region_held3 (fun w'=>w'.cell? (zH w.heap.size 0)=some (.slice ap nm cp)/\w'.cell? (zH (w.heap.size+1) 0)=some (zI x)/\w'.cell? (zH (w.heap.size+1) 1)=some (zI t)/\w'.cell? (zH (w.heap.size+1) 2)=some (zK b o ops.length co)/\w'.cell? (zH wr.heap.size 0)=some (zI kk)/\w'.cell? (zH wr.heap.size 1)=some (zI aa))
      (first | go_keep | (refine⟨zc yL ?_,zc yL ?_,zc yL ?_,zc yL ?_,zc yL ?_,zc yL ?_⟩ <;> assumption) | (refine⟨zc qa ?_,zc qa ?_,zc qa ?_,zc qa ?_,zc qa ?_,zc qa ?_⟩ <;> assumption))
      ((first | (go_at_call 123;refine(jm _ _).mono ?_;rintro e w' ⟨rfl,rfl⟩) | (go_at_call 124;refine(HP.out _).mono ?_;rintro e w1 ⟨rfl,qa⟩) | (go_at_call 233;refine(Ky _ _ _ _ _ _ _ _ _ _).mono ?_;rintro e w2 ⟨rfl,wG⟩;have yL:=qa.trans (wG.mono qa.size))))
     have uK:=(Zd.go zS.drew).go yL
     clear wG yL qa Zd bp ba bb bc hb q0 q1 hm HP
     cases hq:qC aa 0 ((nm:Int) - 1)
     ·have HF:Hid (qd nm (x,t,ops)=false):=(HO.out _ (HV.out.trans hq)).1 rfl
      clear HV
      go_wp2
      go_ret
      exact⟨zo HF.out.symm,uK.below⟩
     ·have HQ:Hid (∀j,(hj:j<ops.length)->j<k+1->kg nm ops.length t ops[j].1 ops[j].2=true):=(HO.out _ (HV.out.trans hq)).2 rfl
      clear HV
      go_wp2
      go_roundg (ops.length - (k+1))
      case measure=>omega
      case rel=>exact⟨k+1,by omega,rfl,by go_num,uK,HQ.out⟩
    ·have HV:Hid (kg nm ops.length t kk aa=qC aa 0 3):=by rcases hkk with rfl | rfl <;> exact rfl
     rw[hT] at hop
     have HP:Hid (∀w,Calls _ _ _ w _):=hop
     have hm:=Tryz.run_peek aa
     clear hop hkk hT
     go_region_held3 (fun w'=>w'.cell? (zH w.heap.size 0)=some (.slice ap nm cp)/\w'.cell? (zH (w.heap.size+1) 0)=some (zI x)/\w'.cell? (zH (w.heap.size+1) 1)=some (zI t)/\w'.cell? (zH (w.heap.size+1) 2)=some (zK b o ops.length co)/\w'.cell? (zH wr.heap.size 0)=some (zI kk)/\w'.cell? (zH wr.heap.size 1)=some (zI aa))
      (first | go_keep | (refine⟨zc yL ?_,zc yL ?_,zc yL ?_,zc yL ?_,zc yL ?_,zc yL ?_⟩ <;> assumption) | (refine⟨zc qa ?_,zc qa ?_,zc qa ?_,zc qa ?_,zc qa ?_,zc qa ?_⟩ <;> assumption))
      ((first | (go_at_call 123;refine(jm _ _).mono ?_;rintro e w' ⟨rfl,rfl⟩) | (go_at_call 124;refine(HP.out _).mono ?_;rintro e w1 ⟨rfl,qa⟩) | (go_at_call 234;refine(UT _ _ _ _ _ _ _ _ _ _).mono ?_;rintro e w2 ⟨rfl,wG⟩;have yL:=qa.trans (wG.mono qa.size))))
     have uK:=(Zd.go zS.drew).go yL
     clear wG yL qa Zd bp ba bb bc hb q0 q1 hm HP
     cases hq:qC aa 0 3
     ·have HF:Hid (qd nm (x,t,ops)=false):=(HO.out _ (HV.out.trans hq)).1 rfl
      clear HV
      go_wp2
      go_ret
      exact⟨zo HF.out.symm,uK.below⟩
     ·have HQ:Hid (∀j,(hj:j<ops.length)->j<k+1->kg nm ops.length t ops[j].1 ops[j].2=true):=(HO.out _ (HV.out.trans hq)).2 rfl
      clear HV
      go_wp2
      go_roundg (ops.length - (k+1))
      case measure=>omega
      case rel=>exact⟨k+1,by omega,rfl,by go_num,uK,HQ.out⟩
    ·have HV:Hid (kg nm ops.length t kk aa=(aa == 0)):=by obtain⟨h1,h2,h3,h7,h8,h9,Uw,K1⟩:=hkk;show _=_;rw[XI _ _ _ _ _ h1 h2 h3 h7 h8 h9 Uw K1,hk18];rfl
     rw[hT] at hop
     have HP:Hid (∀w,Calls _ _ _ w _):=hop
     have hm:=Tryz.run_no aa
     clear hop hkk hT
     go_region_held3 (fun w'=>w'.cell? (zH w.heap.size 0)=some (.slice ap nm cp)/\w'.cell? (zH (w.heap.size+1) 0)=some (zI x)/\w'.cell? (zH (w.heap.size+1) 1)=some (zI t)/\w'.cell? (zH (w.heap.size+1) 2)=some (zK b o ops.length co)/\w'.cell? (zH wr.heap.size 0)=some (zI kk)/\w'.cell? (zH wr.heap.size 1)=some (zI aa))
      (first | go_keep | (refine⟨zc yL ?_,zc yL ?_,zc yL ?_,zc yL ?_,zc yL ?_,zc yL ?_⟩ <;> assumption) | (refine⟨zc qa ?_,zc qa ?_,zc qa ?_,zc qa ?_,zc qa ?_,zc qa ?_⟩ <;> assumption))
      ((first | (go_at_call 123;refine(jm _ _).mono ?_;rintro e w' ⟨rfl,rfl⟩) | (go_at_call 124;refine(HP.out _).mono ?_;rintro e w1 ⟨rfl,qa⟩) | (go_at_call 235;refine(zby _ _ _ _ _ _ _ _ _ _).mono ?_;rintro e w2 ⟨rfl,wG⟩;have yL:=qa.trans (wG.mono qa.size))))
     have uK:=(Zd.go zS.drew).go yL
     clear wG yL qa Zd bp ba bb bc hb q0 q1 hm HP
     cases hq:(aa == 0)
     ·have HF:Hid (qd nm (x,t,ops)=false):=(HO.out _ (HV.out.trans hq)).1 rfl
      clear HV
      go_wp2
      go_ret
      exact⟨zo HF.out.symm,uK.below⟩
     ·have HQ:Hid (∀j,(hj:j<ops.length)->j<k+1->kg nm ops.length t ops[j].1 ops[j].2=true):=(HO.out _ (HV.out.trans hq)).2 rfl
      clear HV
      go_wp2
      go_roundg (ops.length - (k+1))
      case measure=>omega
      case rel=>exact⟨k+1,by omega,rfl,by go_num,uK,HQ.out⟩
  ·obtain rfl:k=ops.length:=by omega
   go_wp2
   go_ret
   exact⟨zo (H.out _ (V0 fun i hi=>HA.out i hi hi)).symm,hb⟩
theorem uc (v:Value) (ms:zM) (w:World) (h:yD w v ms) :
 Calls Tryz.prog 38 #[.agg #[v]] w fun e w'=>e=.returned (.bool (yr ms))/\zO w w':=by
 obtain⟨a,cap,rfl,hl,hc⟩:=h
 have hl':=hl
 have hB:∀o1,zO w (w.alloc o1):=fun o1=>zR _ _
 unfold maxLen at hl
 by_cases hz:ms.length=0
 ·rw[show yr ms=false by simp only[yr];rw[qc.2 (by omega)];rfl]
  have hz':((ms.length:Int) == 0)=true:=by rw[beq_iff_eq];omega
  go_enter Tryz.func38,Tryz.ntmps38
  go_wp2
  go_ret
  exact⟨rfl,hB _⟩
 have hz':((ms.length:Int) == 0)=false:=by rw[zG];omega
 by_cases h4:4<(ms.length:Int)
 ·rw[show yr ms=false by simp only[yr];rw[qc.2 (by omega)];rfl]
  go_enter Tryz.func38,Tryz.ntmps38
  go_wp2
  go_ret
  exact⟨rfl,hB _⟩
 have h1:qC ms.length 1 4=true:=zF.2 (by omega)
 have zdH:0<ms.length:=by omega
 have Qi:(ms.getD 0 (0,0,[])).1=ms[0].1:=by simp[zdH]
 obtain⟨b,o,vo0,rfl,c0,c1,c2,c3⟩:=hc 0 zdH
 have e0:w.cell? (zH b o)=some (zI ms[0].1):=by simpa using c0
 have E0:∀o1,(w.alloc o1).cell? (zH b o)=some (zI ms[0].1):=fun o1=>zc (hB o1) e0
 clear c0 c1 c2 c3 e0
 have h0z:(0:Int)<ms.length:=by omega
 cases h2:(ms[0].1 == 0)
 ·rw[show yr ms=false by simp only[yr,h1,Qi,h2];rfl]
  have h2':(ms[0].1 != 0)=true:=by simp only[bne,h2];rfl
  clear h1 Qi
  go_enter Tryz.func38,Tryz.ntmps38
  go_wp2
  go_ret
  exact⟨rfl,hB _⟩
 have H:Hid (yr ms=ms.all (qd ms.length)):=by
  show yr ms=_
  simp only[yr,h1,Qi,h2,Bool.true_and]
 have h2':(ms[0].1 != 0)=false:=by simp only[bne,h2];rfl
 clear h1 Qi
 go_enter Tryz.func38,Tryz.ntmps38
 go_wp2
 clear h2 h2' hB E0
 go_loopg [26] ms.length (fun g i wr=>∃k:Nat,k<=ms.length/\g=ms.length - k/\i=zI k/\wr.cell? (zH w.heap.size 0)=some (zK b o ms.length cap)/\zO w wr/\∀j,(hj:j<ms.length)->j<k->qd ms.length ms[j]=true)
 case atStart=>exact⟨0,Nat.zero_le _,rfl,rfl,by simp[go_sem],zR _ _,fun j _ h=>absurd h yB⟩
 case round =>
  obtain⟨k,hk,rfl,rfl,bp,hb,hall⟩:=hrel
  have HA:Hid (∀j,(hj:j<ms.length)->j<k->qd ms.length ms[j]=true):=hall
  clear hall
  have vJ:=hb.size
  by_cases yz:k<ms.length
  ·obtain⟨b',o',vo,Xw,c0,c1,c2,c3⟩:=hc k yz
   obtain⟨rfl,rfl⟩:b=b'/\o=o':=by simpa using Xw
   have d0:=zc hb c0
   have d1:=zc hb c1
   have d2:=zc hb c2
   have d3:=c3.below hb
   clear c0 c1 c2 c3 hc Xw
   obtain⟨ao,co,j5,_⟩:=id d3
   rw[j5] at d2 d3
   clear j5
   have uW:(k:Int)<(ms.length:Int):=by omega
   have bp':∀o1,(wr.alloc o1).cell? (zH w.heap.size 0)=some (zK b o ms.length cap):=fun o1=>zc (zR _ _) bp
   have D3:∀o1,yo (wr.alloc o1) (.slice ao ms[k].2.2.length co) ms[k].2.2:=fun o1=>d3.below (zR _ _)
   clear d3
   go_wp2_with fail
   refine(UM _ _ _ _ _ _ _ _ (D3 _)).mono ?_
   rintro e w1 ⟨rfl,qa⟩
   have bp1:=zc qa (bp' _)
   have yL:zO w w1:=(hb.alloc vJ _).trans (qa.mono (by simp;omega))
   clear qa bp bp' D3 hb d0 d1 d2
   cases hq:qd ms.length (ms[k].1,ms[k].2.1,ms[k].2.2)
   ·have HF:Hid (yr ms=false):=H.out.trans (QR yz hq)
    go_wp2
    go_ret
    exact⟨zo HF.out.symm,yL⟩
   ·have HQ:Hid (qd ms.length ms[k]=true):=hq
    go_wp2
    go_roundg (ms.length - (k+1))
    case measure=>omega
    case rel =>
     refine⟨k+1,by omega,rfl,by go_num,bp1,yL,fun j hj hjk=>?_⟩
     by_cases e:j=k
     ·subst e;exact HQ.out
     ·exact HA.out j hj (by omega)
  ·obtain rfl:k=ms.length:=by omega
   go_wp2
   go_ret
   exact⟨zo (H.out.trans (Xr fun i hi=>HA.out i hi hi)).symm,hb⟩
end Go.Proofs.YtbjgjjkgfnfejaaGreatDoor
