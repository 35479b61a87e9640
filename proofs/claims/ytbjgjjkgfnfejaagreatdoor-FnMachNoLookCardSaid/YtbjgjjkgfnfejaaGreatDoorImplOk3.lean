/-
  The document's model of ProgOk (spec.ProgOk and what it calls) answers the plain function progOk; it writes to nothing that was there.
-/
import Derived.Test.YtbjgjjkgfnfejaaGreatDoorRFV
import Derived.Deep.RegionHeld3
namespace Go.Proofs.YtbjgjjkgfnfejaaGreatDoor
set_option maxHeartbeats 2000000
open Go.RowKit
theorem xk (n lo hi:Int) (w:World) :
 Calls Tryz.prog 42 #[zI n,zI lo,zI hi] w fun e w'=>e=.returned (.bool (qy n lo hi))/\w'=w:=by
 go_enter Tryz.func42,Tryz.ntmps42
 by_cases h:lo<=n
 ·go_wp2
  go_ret
  exact⟨zp (by simp[qy,h]),rfl⟩
 ·go_wp2
  go_ret
  exact⟨zp (by rw[eq_comm,qw];omega),rfl⟩
theorem zfm (ap:Option Addr) (nm cp:Nat) (x t:Int) (ao:Option Addr) (no co:Nat) (k a:Int) (w:World) (ht0:0<=t) (K0:t<=4) (hnm:nm<=maxLen) (hno:no<=maxLen) :
 Calls Tryz.prog 125 #[.agg #[.slice ap nm cp],.agg #[zI x,zI t,.slice ao no co],.agg #[zI k,zI a]] w fun e w'=>e=.returned (.bool (jm nm no t k a))/\zO w w':=by
 unfold maxLen at hnm hno
 have hB:∀o1 o2 o3,zO w (((w.alloc o1).alloc o2).alloc o3):=fun o1 o2 o3=>((zR _ _).alloc (by simp) _).alloc (by simp;omega) _
 by_cases h1:k=1
 ·subst h1
  go_enter Tryz.func125,Tryz.ntmps125
  go_wp2_with (go_at_call 42;refine(xk _ _ _ _).mono ?_;rintro e w' ⟨rfl,rfl⟩)
  go_ret
  exact⟨rfl,hB _ _ _⟩
 by_cases h2:k=2
 ·subst h2
  go_enter Tryz.func125,Tryz.ntmps125
  go_wp2_with (go_at_call 42;refine(xk _ _ _ _).mono ?_;rintro e w' ⟨rfl,rfl⟩)
  go_ret
  exact⟨rfl,hB _ _ _⟩
 by_cases h3:k=3
 ·subst h3
  go_enter Tryz.func125,Tryz.ntmps125
  go_wp2_with (go_at_call 42;refine(xk _ _ _ _).mono ?_;rintro e w' ⟨rfl,rfl⟩)
  go_ret
  exact⟨rfl,hB _ _ _⟩
 by_cases h7:k=7
 ·subst h7
  go_enter Tryz.func125,Tryz.ntmps125
  go_wp2_with (go_at_call 42;refine(xk _ _ _ _).mono ?_;rintro e w' ⟨rfl,rfl⟩)
  go_ret
  exact⟨rfl,hB _ _ _⟩
 by_cases h8:k=8
 ·subst h8
  go_enter Tryz.func125,Tryz.ntmps125
  go_wp2_with (go_at_call 42;refine(xk _ _ _ _).mono ?_;rintro e w' ⟨rfl,rfl⟩)
  go_ret
  exact⟨rfl,hB _ _ _⟩
 by_cases h9:k=9
 ·subst h9
  go_enter Tryz.func125,Tryz.ntmps125
  go_wp2_with (go_at_call 42;refine(xk _ _ _ _).mono ?_;rintro e w' ⟨rfl,rfl⟩)
  go_ret
  exact⟨rfl,hB _ _ _⟩
 by_cases Wn:k=13
 ·subst Wn
  go_enter Tryz.func125,Tryz.ntmps125
  go_wp2_with (go_at_call 42;refine(xk _ _ _ _).mono ?_;rintro e w' ⟨rfl,rfl⟩)
  go_ret
  exact⟨rfl,hB _ _ _⟩
 by_cases KR:k=14
 ·subst KR
  go_enter Tryz.func125,Tryz.ntmps125
  go_wp2_with (go_at_call 42;refine(xk _ _ _ _).mono ?_;rintro e w' ⟨rfl,rfl⟩)
  go_ret
  exact⟨rfl,hB _ _ _⟩
 rw[Jj nm no t k a h1 h2 h3 h7 h8 h9 Wn KR]
 have e1:=zG.2 h1
 have e2:=zG.2 h2
 have e3:=zG.2 h3
 have e7:=zG.2 h7
 have e8:=zG.2 h8
 have e9:=zG.2 h9
 have e13:=zG.2 Wn
 have e14:=zG.2 KR
 clear h1 h2 h3 h7 h8 h9 Wn KR
 cases hk:qy k 1 18
 all_goals
  go_enter Tryz.func125,Tryz.ntmps125
  go_wp2_with (go_at_call 42;refine(xk _ _ _ _).mono ?_;rintro e w' ⟨rfl,rfl⟩)
  go_ret
  exact⟨rfl,hB _ _ _⟩
theorem WD (ap:Option Addr) (nm cp:Nat) (x t:Int) (vo:Value) (ops:yH) (w:World) (h:yi w vo ops) (hnm:nm<=maxLen) :
 Calls Tryz.prog 82 #[.agg #[.slice ap nm cp],.agg #[zI x,zI t,vo]] w fun e w'=>e=.returned (.bool (qe nm (x,t,ops)))/\zO w w':=by
 obtain⟨ao,co,rfl,hl,hc⟩:=h
 have hl':=hl
 have hB:∀o1 o2,zO w ((w.alloc o1).alloc o2):=fun o1 o2=>(zR _ _).alloc (by simp) _
 unfold maxLen at hl
 cases h1:qy x 0 2
 ·rw[Q0 h1]
  go_enter Tryz.func82,Tryz.ntmps82
  go_wp2_with (go_at_call 42;refine(xk _ _ _ _).mono ?_;rintro e w' ⟨rfl,rfl⟩)
  go_ret
  exact⟨rfl,hB _ _⟩
 cases h2:qy t x 4
 ·rw[Q1 h2]
  go_enter Tryz.func82,Tryz.ntmps82
  go_wp2_with (go_at_call 42;refine(xk _ _ _ _).mono ?_;rintro e w' ⟨rfl,rfl⟩)
  go_ret
  exact⟨rfl,hB _ _⟩
 by_cases h3:ops.length<=14
 case neg =>
  rw[Vf h3]
  have h3':(14:Int)<ops.length:=by omega
  go_enter Tryz.func82,Tryz.ntmps82
  go_wp2_with (go_at_call 42;refine(xk _ _ _ _).mono ?_;rintro e w' ⟨rfl,rfl⟩)
  go_ret
  exact⟨rfl,hB _ _⟩
 have H:Hid (∀b,Xx nm t ops=b->qe nm (x,t,ops)=b):=fun b hb=>Jf h1 h2 h3 hb
 have ht:=zx.1 h2
 have hx:=zx.1 h1
 have h3':¬(14:Int)<ops.length:=by omega
 go_enter Tryz.func82,Tryz.ntmps82
 go_wp2_with (go_at_call 42;refine(xk _ _ _ _).mono ?_;rintro e w' ⟨rfl,rfl⟩)
 clear h1 h2 hB
 go_loopg [5] ops.length (fun g i wr=>∃k:Nat,k<=ops.length/\g=ops.length - k/\i=zI k/\Qs w wr (.slice ap nm cp) x t (.slice ao ops.length co)/\∀j,(hj:j<ops.length)->j<k->jm nm ops.length t ops[j].1 ops[j].2=true)
 case atStart=>exact⟨0,Nat.zero_le _,rfl,rfl,Qs.new _ _ _ _ _ _ _,fun j _ h=>absurd h yB⟩
 case round =>
  obtain⟨k,hk,rfl,rfl,V7,hall⟩:=hrel
  have HA:Hid (∀j,(hj:j<ops.length)->j<k->jm nm ops.length t ops[j].1 ops[j].2=true):=hall
  clear hall
  obtain⟨bp,ba,bb,bc,hb⟩:=id V7
  by_cases yt:k<ops.length
  ·obtain⟨b,o,rfl,c0,c1⟩:=hc k yt
   have d0:=zc hb c0
   have d1:=zc hb c1
   clear c0 c1 hc
   have v7:(k:Int)<(ops.length:Int):=by omega
   go_wp2_with fail
   go_region_held3 (fun w'=>w'.cell? (zH w.heap.size 0)=some (.slice ap nm cp)/\w'.cell? (zH (w.heap.size+1) 0)=some (zI x)/\w'.cell? (zH (w.heap.size+1) 1)=some (zI t)/\w'.cell? (zH (w.heap.size+1) 2)=some (zK b o ops.length co)/\w'.cell? (zH b (o+k * 2))=some (zI ops[k].1)/\w'.cell? (zH b (o+k * 2+1))=some (zI ops[k].2))
    (first | go_keep | (refine⟨zc qk ?_,zc qk ?_,zc qk ?_,zc qk ?_,zc qk ?_,zc qk ?_⟩ <;> assumption))
    ((go_at_call 125;refine(zfm _ _ _ _ _ _ _ _ _ _ _ (by omega) (by omega) hnm hl').mono ?_;rintro e w1 ⟨rfl,qk⟩))
   have zgy:Qs w w1 (.slice ap nm cp) x t (zK b o ops.length co):=(V7.go zS.drew).go qk
   clear qk V7 bp ba bb bc hb d0 d1
   cases hq:jm nm ops.length t ops[k].1 ops[k].2
   ·have HF:Hid (qe nm (x,t,ops)=false):=H.out _ (za5 yt hq)
    go_wp2
    go_ret
    exact⟨zp HF.out.symm,zgy.below⟩
   ·have HQ:Hid (jm nm ops.length t ops[k].1 ops[k].2=true):=hq
    go_wp2
    go_roundg (ops.length - (k+1))
    case measure=>omega
    case rel =>
     refine⟨k+1,by omega,rfl,by go_num,zgy,fun j hj hjk=>?_⟩
     by_cases e:j=k
     ·subst e;exact HQ.out
     ·exact HA.out j hj (by omega)
  ·obtain rfl:k=ops.length:=by omega
   go_wp2
   go_ret
   exact⟨zp (H.out _ (UO fun i hi=>HA.out i hi hi)).symm,hb⟩
theorem VG (v:Value) (ms:zM) (w:World) (h:yD w v ms) :
 Calls Tryz.prog 41 #[.agg #[v]] w fun e w'=>e=.returned (.bool (yn ms))/\zO w w':=by
 obtain⟨a,cap,rfl,hl,hc⟩:=h
 have hl':=hl
 have hB:∀o1,zO w (w.alloc o1):=fun o1=>zR _ _
 unfold maxLen at hl
 cases h1:qy ms.length 1 4
 ·rw[show yn ms=false by simp[yn,h1]]
  go_enter Tryz.func41,Tryz.ntmps41
  go_wp2_with (go_at_call 42;refine(xk _ _ _ _).mono ?_;rintro e w' ⟨rfl,rfl⟩)
  go_ret
  exact⟨rfl,hB _⟩
 have hlen:=zx.1 h1
 have zeY:0<ms.length:=by omega
 have QA:(ms.getD 0 (0,0,[])).1=ms[0].1:=by simp[zeY]
 obtain⟨b,o,vo0,rfl,c0,c1,c2,c3⟩:=hc 0 zeY
 have e0:w.cell? (zH b o)=some (zI ms[0].1):=by simpa using c0
 have hblt:=World.block_lt_of_cell? _ _ e0
 have E0:∀o1,(w.alloc o1).cell? (zH b o)=some (zI ms[0].1):=fun o1=>zc (hB o1) e0
 clear c0 c1 c2 c3 e0 hblt
 cases h2:(ms[0].1 == 0)
 ·rw[show yn ms=false by simp only[yn,h1,QA,h2];rfl]
  have h2':(ms[0].1 != 0)=true:=by simp only[bne,h2];rfl
  go_enter Tryz.func41,Tryz.ntmps41
  go_wp2_with (go_at_call 42;refine(xk _ _ _ _).mono ?_;rintro e w' ⟨rfl,rfl⟩)
  go_ret
  exact⟨rfl,hB _⟩
 have H:Hid (yn ms=ms.all (qe ms.length)):=by
  show yn ms=_
  simp only[yn,h1,QA,h2,Bool.true_and]
 have h2':(ms[0].1 != 0)=false:=by simp only[bne,h2];rfl
 go_enter Tryz.func41,Tryz.ntmps41
 go_wp2_with (go_at_call 42;refine(xk _ _ _ _).mono ?_;rintro e w' ⟨rfl,rfl⟩)
 clear h1 h2 h2' QA hB E0
 go_loopg [3] ms.length (fun g i wr=>∃k:Nat,k<=ms.length/\g=ms.length - k/\i=zI k/\wr.cell? (zH w.heap.size 0)=some (zK b o ms.length cap)/\zO w wr/\∀j,(hj:j<ms.length)->j<k->qe ms.length ms[j]=true)
 case atStart=>exact⟨0,Nat.zero_le _,rfl,rfl,by simp[go_sem],zR _ _,fun j _ h=>absurd h yB⟩
 case round =>
  obtain⟨k,hk,rfl,rfl,bp,hb,hall⟩:=hrel
  have HA:Hid (∀j,(hj:j<ms.length)->j<k->qe ms.length ms[j]=true):=hall
  clear hall
  have un:=hb.size
  by_cases yt:k<ms.length
  ·obtain⟨b',o',vo,Kv,c0,c1,c2,c3⟩:=hc k yt
   obtain⟨rfl,rfl⟩:b=b'/\o=o':=by simpa using Kv
   have d0:=zc hb c0
   have d1:=zc hb c1
   have d2:=zc hb c2
   have d3:=(c3.below hb).below zS.drew
   clear c0 c1 c2 c3 hc Kv
   obtain⟨ao,co,jw,_⟩:=id d3
   rw[jw] at d2 d3
   clear jw
   have v7:(k:Int)<(ms.length:Int):=by omega
   go_wp2_with fail
   go_region_held3 (fun w'=>w'.cell? (zH w.heap.size 0)=some (zK b o ms.length cap)/\w'.cell? (zH b (o+k * 3))=some (zI ms[k].1)/\w'.cell? (zH b (o+k * 3+1))=some (zI ms[k].2.1)/\w'.cell? (zH b (o+k * 3+2))=some (.slice ao ms[k].2.2.length co))
    (first | go_keep | (refine⟨zc qk ?_,zc qk ?_,zc qk ?_,zc qk ?_⟩ <;> assumption))
    ((go_at_call 82;refine(WD _ _ _ _ _ _ _ _ d3 hl').mono ?_;rintro e w1 ⟨rfl,qk⟩))
   have bp1:=zc qk bp
   have yE:zO w w1:=hb.drew.trans (qk.mono un)
   clear qk bp hb d0 d1 d2 d3
   cases hq:qe ms.length (ms[k].1,ms[k].2.1,ms[k].2.2)
   ·have HF:Hid (yn ms=false):=H.out.trans (Kr yt hq)
    go_wp2
    go_ret
    exact⟨zp HF.out.symm,yE⟩
   ·have HQ:Hid (qe ms.length ms[k]=true):=hq
    go_wp2
    go_roundg (ms.length - (k+1))
    case measure=>omega
    case rel =>
     refine⟨k+1,by omega,rfl,by go_num,bp1,yE,fun j hj hjk=>?_⟩
     by_cases e:j=k
     ·subst e;exact HQ.out
     ·exact HA.out j hj (by omega)
  ·obtain rfl:k=ms.length:=by omega
   go_wp2
   go_ret
   exact⟨zp (H.out.trans (XT fun i hi=>HA.out i hi hi)).symm,hb⟩
theorem zZ (n size:Int) (w:World) :
 Calls Tryz.prog 58 #[zI n,zI size] w fun e w'=>e=.returned (.bool (qy n 0 (size - 1)))/\w'=w:=by
 go_enter Tryz.func58,Tryz.ntmps58
 by_cases h:0<=n
 ·go_wp2
  go_ret
  exact⟨zp (by rw[Bool.eq_iff_iff,zx,decide_eq_true_iff];omega),rfl⟩
 ·go_wp2
  go_ret
  exact⟨zp (by rw[eq_comm,qw];omega),rfl⟩
theorem jl (k:Int) (w:World) :
 Calls Tryz.prog 123 #[zI k] w fun e w'=>e=.returned (.bool (qy k 1 18))/\w'=w:=by
 go_enter Tryz.func123,Tryz.ntmps123
 by_cases h:1<=k
 ·go_wp2
  go_ret
  exact⟨zp (by rw[Bool.eq_iff_iff,zx,decide_eq_true_iff];omega),rfl⟩
 ·go_wp2
  go_ret
  exact⟨zp (by rw[eq_comm,qw];omega),rfl⟩
def WP (k:Int):Nat :=
 if k=1 then 210 else if k=2\/k=3 then 211 else if k=7\/k=8 then 212 else if k=9 then 213
 else if k=13\/k=14 then 214 else 215
theorem UN (k:Int) (h1:¬k=1) (h2:¬k=2) (h3:¬k=3) (h7:¬k=7) (h8:¬k=8) (h9:¬k=9) (Wn:¬k=13) (KR:¬k=14):WP k=215:=by
 simp[WP,h1,h2,h3,h7,h8,h9,Wn,KR]
theorem zfz (k:Int):(WP k=210/\k=1)\/(WP k=211/\(k=2\/k=3))\/(WP k=212/\(k=7\/k=8))\/(WP k=213/\k=9) \/
 (WP k=214/\(k=13\/k=14))\/(WP k=215/\¬k=1/\¬k=2/\¬k=3/\¬k=7/\¬k=8/\¬k=9/\¬k=13/\¬k=14):=by
 by_cases h1:k=1
 ·subst h1;exact .inl ⟨rfl,rfl⟩
 by_cases h2:k=2
 ·subst h2;exact .inr (.inl ⟨rfl,.inl rfl⟩)
 by_cases h3:k=3
 ·subst h3;exact .inr (.inl ⟨rfl,.inr rfl⟩)
 by_cases h7:k=7
 ·subst h7;exact .inr (.inr (.inl ⟨rfl,.inl rfl⟩))
 by_cases h8:k=8
 ·subst h8;exact .inr (.inr (.inl ⟨rfl,.inr rfl⟩))
 by_cases h9:k=9
 ·subst h9;exact .inr (.inr (.inr (.inl ⟨rfl,rfl⟩)))
 by_cases Wn:k=13
 ·subst Wn;exact .inr (.inr (.inr (.inr (.inl ⟨rfl,.inl rfl⟩))))
 by_cases KR:k=14
 ·subst KR;exact .inr (.inr (.inr (.inr (.inl ⟨rfl,.inr rfl⟩))))
 exact .inr (.inr (.inr (.inr (.inr ⟨UN k h1 h2 h3 h7 h8 h9 Wn KR,h1,h2,h3,h7,h8,h9,Wn,KR⟩))))
theorem Ui (k a:Int) (w:World) :
 Calls Tryz.prog 124 #[.agg #[zI k,zI a]] w fun e w'=>e=.returned (.iface (WP k) (zI a))/\zO w w':=by
 have hB:∀o1,zO w (w.alloc o1):=fun o1=>zR _ _
 by_cases h1:k=1
 ·subst h1
  go_enter Tryz.func124,Tryz.ntmps124
  go_wp2
  go_ret
  exact⟨rfl,hB _⟩
 by_cases h2:k=2
 ·subst h2
  go_enter Tryz.func124,Tryz.ntmps124
  go_wp2
  go_ret
  exact⟨rfl,hB _⟩
 by_cases h3:k=3
 ·subst h3
  go_enter Tryz.func124,Tryz.ntmps124
  go_wp2
  go_ret
  exact⟨rfl,hB _⟩
 by_cases h7:k=7
 ·subst h7
  go_enter Tryz.func124,Tryz.ntmps124
  go_wp2
  go_ret
  exact⟨rfl,hB _⟩
 by_cases h8:k=8
 ·subst h8
  go_enter Tryz.func124,Tryz.ntmps124
  go_wp2
  go_ret
  exact⟨rfl,hB _⟩
 by_cases h9:k=9
 ·subst h9
  go_enter Tryz.func124,Tryz.ntmps124
  go_wp2
  go_ret
  exact⟨rfl,hB _⟩
 by_cases Wn:k=13
 ·subst Wn
  go_enter Tryz.func124,Tryz.ntmps124
  go_wp2
  go_ret
  exact⟨rfl,hB _⟩
 by_cases KR:k=14
 ·subst KR
  go_enter Tryz.func124,Tryz.ntmps124
  go_wp2
  go_ret
  exact⟨rfl,hB _⟩
 rw[UN k h1 h2 h3 h7 h8 h9 Wn KR]
 have e1:=zG.2 h1
 have e2:=zG.2 h2
 have e3:=zG.2 h3
 have e7:=zG.2 h7
 have e8:=zG.2 h8
 have e9:=zG.2 h9
 have e13:=zG.2 Wn
 have e14:=zG.2 KR
 clear h1 h2 h3 h7 h8 h9 Wn KR
 go_enter Tryz.func124,Tryz.ntmps124
 go_wp2
 go_ret
 exact⟨rfl,hB _⟩
section
variable (a:Int) (ap:Option Addr) (nm cp:Nat) (x t:Int) (ao:Option Addr) (no co:Nat) (w:World)
theorem za1:Calls Tryz.prog 230 #[zI a,.agg #[.slice ap nm cp],.agg #[zI x,zI t,.slice ao no co]] w fun e w'=>e=.returned (.bool (qy a 0 99))/\zO w w':=by
 go_enter Tryz.func230,Tryz.ntmps230
 go_wp2_with (go_at_call 58;refine(zZ _ _ _).mono ?_;rintro e w' ⟨rfl,rfl⟩)
 go_ret
 exact⟨rfl,(zR _ _).alloc (by simp) _⟩
theorem zac:Calls Tryz.prog 231 #[zI a,.agg #[.slice ap nm cp],.agg #[zI x,zI t,.slice ao no co]] w fun e w'=>e=.returned (.bool (qy a 0 (t - 1)))/\zO w w':=by
 go_enter Tryz.func231,Tryz.ntmps231
 go_wp2_with (go_at_call 58;refine(zZ _ _ _).mono ?_;rintro e w' ⟨rfl,rfl⟩)
 go_ret
 exact⟨rfl,(zR _ _).alloc (by simp) _⟩
theorem Ul:Calls Tryz.prog 232 #[zI a,.agg #[.slice ap nm cp],.agg #[zI x,zI t,.slice ao no co]] w fun e w'=>e=.returned (.bool (qy a 0 ((no:Int) - 1)))/\zO w w':=by
 go_enter Tryz.func232,Tryz.ntmps232
 go_wp2_with (go_at_call 58;refine(zZ _ _ _).mono ?_;rintro e w' ⟨rfl,rfl⟩)
 go_ret
 exact⟨rfl,(zR _ _).alloc (by simp) _⟩
theorem Vg:Calls Tryz.prog 233 #[zI a,.agg #[.slice ap nm cp],.agg #[zI x,zI t,.slice ao no co]] w fun e w'=>e=.returned (.bool (qy a 0 ((nm:Int) - 1)))/\zO w w':=by
 go_enter Tryz.func233,Tryz.ntmps233
 go_wp2_with (go_at_call 58;refine(zZ _ _ _).mono ?_;rintro e w' ⟨rfl,rfl⟩)
 go_ret
 exact⟨rfl,(zR _ _).alloc (by simp) _⟩
theorem WT:Calls Tryz.prog 234 #[zI a,.agg #[.slice ap nm cp],.agg #[zI x,zI t,.slice ao no co]] w fun e w'=>e=.returned (.bool (qy a 0 3))/\zO w w':=by
 go_enter Tryz.func234,Tryz.ntmps234
 go_wp2_with (go_at_call 58;refine(zZ _ _ _).mono ?_;rintro e w' ⟨rfl,rfl⟩)
 go_ret
 exact⟨rfl,(zR _ _).alloc (by simp) _⟩
theorem zcv:Calls Tryz.prog 235 #[zI a,.agg #[.slice ap nm cp],.agg #[zI x,zI t,.slice ao no co]] w fun e w'=>e=.returned (.bool (a == 0))/\zO w w':=by
 go_enter Tryz.func235,Tryz.ntmps235
 go_wp2
 go_ret
 exact⟨rfl,(zR _ _).alloc (by simp) _⟩
end
theorem Tryz.run_num (a : Int) (w : World) : (method 364 210 (zI a) "loop.example/gemel/impl.fits").run Tryz.prog w = .ok (230, zI a) w := by kernel_rfl
theorem Tryz.run_temp (a : Int) (w : World) : (method 364 211 (zI a) "loop.example/gemel/impl.fits").run Tryz.prog w = .ok (231, zI a) w := by kernel_rfl
theorem Tryz.run_place (a : Int) (w : World) : (method 364 212 (zI a) "loop.example/gemel/impl.fits").run Tryz.prog w = .ok (232, zI a) w := by kernel_rfl
theorem Tryz.run_method (a : Int) (w : World) : (method 364 213 (zI a) "loop.example/gemel/impl.fits").run Tryz.prog w = .ok (233, zI a) w := by kernel_rfl
theorem Tryz.run_peek (a : Int) (w : World) : (method 364 214 (zI a) "loop.example/gemel/impl.fits").run Tryz.prog w = .ok (234, zI a) w := by kernel_rfl
theorem Tryz.run_no (a : Int) (w : World) : (method 364 215 (zI a) "loop.example/gemel/impl.fits").run Tryz.prog w = .ok (235, zI a) w := by kernel_rfl
theorem zdZ {nm:Nat} {x t:Int} {ops:yH} (h:x<0):qe nm (x,t,ops)=false:=Q0 (qw.2 (by omega))
theorem zd0 {nm:Nat} {x t:Int} {ops:yH} (h:2<x):qe nm (x,t,ops)=false:=Q0 (qw.2 (by omega))
theorem zdY {nm:Nat} {x t:Int} {ops:yH} (h:t<x):qe nm (x,t,ops)=false:=Q1 (qw.2 (by omega))
theorem zdX {nm:Nat} {x t:Int} {ops:yH} (h:4<t):qe nm (x,t,ops)=false:=Q1 (qw.2 (by omega))
set_option maxRecDepth 100000 in
theorem WL (ap:Option Addr) (nm cp:Nat) (x t:Int) (vo:Value) (ops:yH) (w:World) (h:yi w vo ops) :
 Calls Tryz.prog 81 #[.agg #[.slice ap nm cp],.agg #[zI x,zI t,vo]] w fun e w'=>e=.returned (.bool (qe nm (x,t,ops)))/\zO w w':=by
 obtain⟨ao,co,rfl,hl,hc⟩:=h
 have hl':=hl
 have hB:∀o1 o2,zO w ((w.alloc o1).alloc o2):=fun o1 o2=>(zR _ _).alloc (by simp) _
 unfold maxLen at hl
 by_cases QA:x<0
 ·rw[zdZ QA]
  go_enter Tryz.func81,Tryz.ntmps81
  go_wp2
  go_ret
  exact⟨rfl,hB _ _⟩
 by_cases uW:2<x
 ·rw[zd0 uW]
  go_enter Tryz.func81,Tryz.ntmps81
  go_wp2
  go_ret
  exact⟨rfl,hB _ _⟩
 by_cases htx:t<x
 ·rw[zdY htx]
  go_enter Tryz.func81,Tryz.ntmps81
  go_wp2
  go_ret
  exact⟨rfl,hB _ _⟩
 by_cases K0:4<t
 ·rw[zdX K0]
  go_enter Tryz.func81,Tryz.ntmps81
  go_wp2
  go_ret
  exact⟨rfl,hB _ _⟩
 by_cases h3:ops.length<=14
 case neg =>
  rw[Vf h3]
  have h3':(14:Int)<ops.length:=by omega
  go_enter Tryz.func81,Tryz.ntmps81
  go_wp2
  go_ret
  exact⟨rfl,hB _ _⟩
 have H:Hid (∀b,Xx nm t ops=b->qe nm (x,t,ops)=b):=fun b hb=>Jf (zx.2 (by omega)) (zx.2 (by omega)) h3 hb
 have h3':¬(14:Int)<ops.length:=by omega
 go_enter Tryz.func81,Tryz.ntmps81
 go_wp2
 clear hB
 go_loopg [36] ops.length (fun g i wr=>∃k:Nat,k<=ops.length/\g=ops.length - k/\i=zI k/\Qs w wr (.slice ap nm cp) x t (.slice ao ops.length co)/\∀j,(hj:j<ops.length)->j<k->jm nm ops.length t ops[j].1 ops[j].2=true)
 case atStart=>exact⟨0,Nat.zero_le _,rfl,rfl,Qs.new _ _ _ _ _ _ _,fun j _ h=>absurd h yB⟩
 case round =>
  obtain⟨k,hk,rfl,rfl,V7,hall⟩:=hrel
  have HA:Hid (∀j,(hj:j<ops.length)->j<k->jm nm ops.length t ops[j].1 ops[j].2=true):=hall
  clear hall
  obtain⟨bp,ba,bb,bc,hb⟩:=id V7
  have un:=hb.size
  by_cases yt:k<ops.length
  ·obtain⟨b,o,rfl,c0,c1⟩:=hc k yt
   have d0:=zc hb c0
   have d1:=zc hb c1
   clear c0 c1 hc
   have v7:(k:Int)<(ops.length:Int):=by omega
   have HO:Hid (∀b',jm nm ops.length t ops[k].1 ops[k].2=b'->(b'=false->qe nm (x,t,ops)=false)/\(b'=true->∀j,(hj:j<ops.length)->j<k+1->jm nm ops.length t ops[j].1 ops[j].2=true)):=fun b' hb'=>⟨fun e=>H.out _ (za5 yt (hb'.trans e)),fun e j hj hjk=>by
    by_cases e':j=k
    ·subst e';exact hb'.trans e
    ·exact HA.out j hj (by omega)⟩
   clear H HA
   generalize ops[k].1=kk at *
   generalize ops[k].2=aa at *
   go_wp2_with fail
   have q0:(wr.alloc (.cells #[.int .i64 kk,.int .i64 aa] 70)).cell? (zH wr.heap.size 0)=some (.int .i64 kk):=by simp[go_sem]
   have q1:(wr.alloc (.cells #[.int .i64 kk,.int .i64 aa] 70)).cell? (zH wr.heap.size 1)=some (.int .i64 aa):=by simp[go_sem]
   have Zl:=V7.go (zR _ (.cells #[.int .i64 kk,.int .i64 aa] 70))
   clear V7 bp ba bb bc d0 d1 hb
   generalize wr.alloc (.cells #[.int .i64 kk,.int .i64 aa] 70)=W2 at *
   obtain⟨bp,ba,bb,bc,hb⟩:=id Zl
   have hop:=fun w=>Ui kk aa w
   cases hk18:qy kk 1 18
   ·have HF:Hid (qe nm (x,t,ops)=false):=(HO.out _ (za4 hk18)).1 rfl
    clear hop
    go_region_with (go_at_call 123;refine(jl _ _).mono ?_;rintro e w' ⟨rfl,rfl⟩)
    all_goals
     go_wp2
     go_ret
     exact⟨zp HF.out.symm,Zl.below.drew⟩
   ·rcases zfz kk with⟨hT,hkk⟩ | ⟨hT,hkk⟩ | ⟨hT,hkk⟩ | ⟨hT,hkk⟩ | ⟨hT,hkk⟩ | ⟨hT,hkk⟩
    ·have HV:Hid (jm nm ops.length t kk aa=qy aa 0 99):=by subst hkk;exact rfl
     rw[hT] at hop
     have HP:Hid (∀w,Calls _ _ _ w _):=hop
     have hm:=Tryz.run_num aa
     clear hop hkk hT
     go_region_held3 (fun w'=>w'.cell? (zH w.heap.size 0)=some (.slice ap nm cp)/\w'.cell? (zH (w.heap.size+1) 0)=some (zI x)/\w'.cell? (zH (w.heap.size+1) 1)=some (zI t)/\w'.cell? (zH (w.heap.size+1) 2)=some (zK b o ops.length co)/\w'.cell? (zH wr.heap.size 0)=some (zI kk)/\w'.cell? (zH wr.heap.size 1)=some (zI aa))
      (first | go_keep | (refine⟨zc yE ?_,zc yE ?_,zc yE ?_,zc yE ?_,zc yE ?_,zc yE ?_⟩ <;> assumption) | (refine⟨zc qk ?_,zc qk ?_,zc qk ?_,zc qk ?_,zc qk ?_,zc qk ?_⟩ <;> assumption))
      ((first | (go_at_call 123;refine(jl _ _).mono ?_;rintro e w' ⟨rfl,rfl⟩) | (go_at_call 124;refine(HP.out _).mono ?_;rintro e w1 ⟨rfl,qk⟩) | (go_at_call 230;refine(za1 _ _ _ _ _ _ _ _ _ _).mono ?_;rintro e w2 ⟨rfl,wI⟩;have yE:=qk.trans (wI.mono qk.size))))
     have uQ:=(Zl.go zS.drew).go yE
     clear wI yE qk Zl bp ba bb bc hb q0 q1 hm HP
     cases hq:qy aa 0 99
     ·have HF:Hid (qe nm (x,t,ops)=false):=(HO.out _ (HV.out.trans hq)).1 rfl
      clear HV
      go_wp2
      go_ret
      exact⟨zp HF.out.symm,uQ.below⟩
     ·have HQ:Hid (∀j,(hj:j<ops.length)->j<k+1->jm nm ops.length t ops[j].1 ops[j].2=true):=(HO.out _ (HV.out.trans hq)).2 rfl
      clear HV
      go_wp2
      go_roundg (ops.length - (k+1))
      case measure=>omega
      case rel=>exact⟨k+1,by omega,rfl,by go_num,uQ,HQ.out⟩
    ·have HV:Hid (jm nm ops.length t kk aa=qy aa 0 (t - 1)):=by rcases hkk with rfl | rfl <;> exact rfl
     rw[hT] at hop
     have HP:Hid (∀w,Calls _ _ _ w _):=hop
     have hm:=Tryz.run_temp aa
     clear hop hkk hT
     go_region_held3 (fun w'=>w'.cell? (zH w.heap.size 0)=some (.slice ap nm cp)/\w'.cell? (zH (w.heap.size+1) 0)=some (zI x)/\w'.cell? (zH (w.heap.size+1) 1)=some (zI t)/\w'.cell? (zH (w.heap.size+1) 2)=some (zK b o ops.length co)/\w'.cell? (zH wr.heap.size 0)=some (zI kk)/\w'.cell? (zH wr.heap.size 1)=some (zI aa))
      (first | go_keep | (refine⟨zc yE ?_,zc yE ?_,zc yE ?_,zc yE ?_,zc yE ?_,zc yE ?_⟩ <;> assumption) | (refine⟨zc qk ?_,zc qk ?_,zc qk ?_,zc qk ?_,zc qk ?_,zc qk ?_⟩ <;> assumption))
      ((first | (go_at_call 123;refine(jl _ _).mono ?_;rintro e w' ⟨rfl,rfl⟩) | (go_at_call 124;refine(HP.out _).mono ?_;rintro e w1 ⟨rfl,qk⟩) | (go_at_call 231;refine(zac _ _ _ _ _ _ _ _ _ _).mono ?_;rintro e w2 ⟨rfl,wI⟩;have yE:=qk.trans (wI.mono qk.size))))
     have uQ:=(Zl.go zS.drew).go yE
     clear wI yE qk Zl bp ba bb bc hb q0 q1 hm HP
     cases hq:qy aa 0 (t - 1)
     ·have HF:Hid (qe nm (x,t,ops)=false):=(HO.out _ (HV.out.trans hq)).1 rfl
      clear HV
      go_wp2
      go_ret
      exact⟨zp HF.out.symm,uQ.below⟩
     ·have HQ:Hid (∀j,(hj:j<ops.length)->j<k+1->jm nm ops.length t ops[j].1 ops[j].2=true):=(HO.out _ (HV.out.trans hq)).2 rfl
      clear HV
      go_wp2
      go_roundg (ops.length - (k+1))
      case measure=>omega
      case rel=>exact⟨k+1,by omega,rfl,by go_num,uQ,HQ.out⟩
    ·have HV:Hid (jm nm ops.length t kk aa=qy aa 0 ((ops.length:Int) - 1)):=by rcases hkk with rfl | rfl <;> exact rfl
     rw[hT] at hop
     have HP:Hid (∀w,Calls _ _ _ w _):=hop
     have hm:=Tryz.run_place aa
     clear hop hkk hT
     go_region_held3 (fun w'=>w'.cell? (zH w.heap.size 0)=some (.slice ap nm cp)/\w'.cell? (zH (w.heap.size+1) 0)=some (zI x)/\w'.cell? (zH (w.heap.size+1) 1)=some (zI t)/\w'.cell? (zH (w.heap.size+1) 2)=some (zK b o ops.length co)/\w'.cell? (zH wr.heap.size 0)=some (zI kk)/\w'.cell? (zH wr.heap.size 1)=some (zI aa))
      (first | go_keep | (refine⟨zc yE ?_,zc yE ?_,zc yE ?_,zc yE ?_,zc yE ?_,zc yE ?_⟩ <;> assumption) | (refine⟨zc qk ?_,zc qk ?_,zc qk ?_,zc qk ?_,zc qk ?_,zc qk ?_⟩ <;> assumption))
      ((first | (go_at_call 123;refine(jl _ _).mono ?_;rintro e w' ⟨rfl,rfl⟩) | (go_at_call 124;refine(HP.out _).mono ?_;rintro e w1 ⟨rfl,qk⟩) | (go_at_call 232;refine(Ul _ _ _ _ _ _ _ _ _ _).mono ?_;rintro e w2 ⟨rfl,wI⟩;have yE:=qk.trans (wI.mono qk.size))))
     have uQ:=(Zl.go zS.drew).go yE
     clear wI yE qk Zl bp ba bb bc hb q0 q1 hm HP
     cases hq:qy aa 0 ((ops.length:Int) - 1)
     ·have HF:Hid (qe nm (x,t,ops)=false):=(HO.out _ (HV.out.trans hq)).1 rfl
      clear HV
      go_wp2
      go_ret
      exact⟨zp HF.out.symm,uQ.below⟩
     ·have HQ:Hid (∀j,(hj:j<ops.length)->j<k+1->jm nm ops.length t ops[j].1 ops[j].2=true):=(HO.out _ (HV.out.trans hq)).2 rfl
      clear HV
      go_wp2
      go_roundg (ops.length - (k+1))
      case measure=>omega
      case rel=>exact⟨k+1,by omega,rfl,by go_num,uQ,HQ.out⟩
    ·have HV:Hid (jm nm ops.length t kk aa=qy aa 0 ((nm:Int) - 1)):=by subst hkk;exact rfl
     rw[hT] at hop
     have HP:Hid (∀w,Calls _ _ _ w _):=hop
     have hm:=Tryz.run_method aa
     clear hop hkk hT
     go_region_held3 (fun w'=>w'.cell? (zH w.heap.size 0)=some (.slice ap nm cp)/\w'.cell? (zH (w.heap.size+1) 0)=some (zI x)/\w'.cell? (zH (w.heap.size+1) 1)=some (zI t)/\w'.cell? (zH (w.heap.size+1) 2)=some (zK b o ops.length co)/\w'.cell? (zH wr.heap.size 0)=some (zI kk)/\w'.cell? (zH wr.heap.size 1)=some (zI aa))
      (first | go_keep | (refine⟨zc yE ?_,zc yE ?_,zc yE ?_,zc yE ?_,zc yE ?_,zc yE ?_⟩ <;> assumption) | (refine⟨zc qk ?_,zc qk ?_,zc qk ?_,zc qk ?_,zc qk ?_,zc qk ?_⟩ <;> assumption))
      ((first | (go_at_call 123;refine(jl _ _).mono ?_;rintro e w' ⟨rfl,rfl⟩) | (go_at_call 124;refine(HP.out _).mono ?_;rintro e w1 ⟨rfl,qk⟩) | (go_at_call 233;refine(Vg _ _ _ _ _ _ _ _ _ _).mono ?_;rintro e w2 ⟨rfl,wI⟩;have yE:=qk.trans (wI.mono qk.size))))
     have uQ:=(Zl.go zS.drew).go yE
     clear wI yE qk Zl bp ba bb bc hb q0 q1 hm HP
     cases hq:qy aa 0 ((nm:Int) - 1)
     ·have HF:Hid (qe nm (x,t,ops)=false):=(HO.out _ (HV.out.trans hq)).1 rfl
      clear HV
      go_wp2
      go_ret
      exact⟨zp HF.out.symm,uQ.below⟩
     ·have HQ:Hid (∀j,(hj:j<ops.length)->j<k+1->jm nm ops.length t ops[j].1 ops[j].2=true):=(HO.out _ (HV.out.trans hq)).2 rfl
      clear HV
      go_wp2
      go_roundg (ops.length - (k+1))
      case measure=>omega
      case rel=>exact⟨k+1,by omega,rfl,by go_num,uQ,HQ.out⟩
    ·have HV:Hid (jm nm ops.length t kk aa=qy aa 0 3):=by rcases hkk with rfl | rfl <;> exact rfl
     rw[hT] at hop
     have HP:Hid (∀w,Calls _ _ _ w _):=hop
     have hm:=Tryz.run_peek aa
     clear hop hkk hT
     go_region_held3 (fun w'=>w'.cell? (zH w.heap.size 0)=some (.slice ap nm cp)/\w'.cell? (zH (w.heap.size+1) 0)=some (zI x)/\w'.cell? (zH (w.heap.size+1) 1)=some (zI t)/\w'.cell? (zH (w.heap.size+1) 2)=some (zK b o ops.length co)/\w'.cell? (zH wr.heap.size 0)=some (zI kk)/\w'.cell? (zH wr.heap.size 1)=some (zI aa))
      (first | go_keep | (refine⟨zc yE ?_,zc yE ?_,zc yE ?_,zc yE ?_,zc yE ?_,zc yE ?_⟩ <;> assumption) | (refine⟨zc qk ?_,zc qk ?_,zc qk ?_,zc qk ?_,zc qk ?_,zc qk ?_⟩ <;> assumption))
      ((first | (go_at_call 123;refine(jl _ _).mono ?_;rintro e w' ⟨rfl,rfl⟩) | (go_at_call 124;refine(HP.out _).mono ?_;rintro e w1 ⟨rfl,qk⟩) | (go_at_call 234;refine(WT _ _ _ _ _ _ _ _ _ _).mono ?_;rintro e w2 ⟨rfl,wI⟩;have yE:=qk.trans (wI.mono qk.size))))
     have uQ:=(Zl.go zS.drew).go yE
     clear wI yE qk Zl bp ba bb bc hb q0 q1 hm HP
     cases hq:qy aa 0 3
     ·have HF:Hid (qe nm (x,t,ops)=false):=(HO.out _ (HV.out.trans hq)).1 rfl
      clear HV
      go_wp2
      go_ret
      exact⟨zp HF.out.symm,uQ.below⟩
     ·have HQ:Hid (∀j,(hj:j<ops.length)->j<k+1->jm nm ops.length t ops[j].1 ops[j].2=true):=(HO.out _ (HV.out.trans hq)).2 rfl
      clear HV
      go_wp2
      go_roundg (ops.length - (k+1))
      case measure=>omega
      case rel=>exact⟨k+1,by omega,rfl,by go_num,uQ,HQ.out⟩
    ·have HV:Hid (jm nm ops.length t kk aa=(aa == 0)):=by obtain⟨h1,h2,h3,h7,h8,h9,Wn,KR⟩:=hkk;show _=_;rw[Jj _ _ _ _ _ h1 h2 h3 h7 h8 h9 Wn KR,hk18];rfl
     rw[hT] at hop
     have HP:Hid (∀w,Calls _ _ _ w _):=hop
     have hm:=Tryz.run_no aa
     clear hop hkk hT
     go_region_held3 (fun w'=>w'.cell? (zH w.heap.size 0)=some (.slice ap nm cp)/\w'.cell? (zH (w.heap.size+1) 0)=some (zI x)/\w'.cell? (zH (w.heap.size+1) 1)=some (zI t)/\w'.cell? (zH (w.heap.size+1) 2)=some (zK b o ops.length co)/\w'.cell? (zH wr.heap.size 0)=some (zI kk)/\w'.cell? (zH wr.heap.size 1)=some (zI aa))
      (first | go_keep | (refine⟨zc yE ?_,zc yE ?_,zc yE ?_,zc yE ?_,zc yE ?_,zc yE ?_⟩ <;> assumption) | (refine⟨zc qk ?_,zc qk ?_,zc qk ?_,zc qk ?_,zc qk ?_,zc qk ?_⟩ <;> assumption))
      ((first | (go_at_call 123;refine(jl _ _).mono ?_;rintro e w' ⟨rfl,rfl⟩) | (go_at_call 124;refine(HP.out _).mono ?_;rintro e w1 ⟨rfl,qk⟩) | (go_at_call 235;refine(zcv _ _ _ _ _ _ _ _ _ _).mono ?_;rintro e w2 ⟨rfl,wI⟩;have yE:=qk.trans (wI.mono qk.size))))
     have uQ:=(Zl.go zS.drew).go yE
     clear wI yE qk Zl bp ba bb bc hb q0 q1 hm HP
     cases hq:(aa == 0)
     ·have HF:Hid (qe nm (x,t,ops)=false):=(HO.out _ (HV.out.trans hq)).1 rfl
      clear HV
      go_wp2
      go_ret
      exact⟨zp HF.out.symm,uQ.below⟩
     ·have HQ:Hid (∀j,(hj:j<ops.length)->j<k+1->jm nm ops.length t ops[j].1 ops[j].2=true):=(HO.out _ (HV.out.trans hq)).2 rfl
      clear HV
      go_wp2
      go_roundg (ops.length - (k+1))
      case measure=>omega
      case rel=>exact⟨k+1,by omega,rfl,by go_num,uQ,HQ.out⟩
  ·obtain rfl:k=ops.length:=by omega
   go_wp2
   go_ret
   exact⟨zp (H.out _ (UO fun i hi=>HA.out i hi hi)).symm,hb⟩
theorem YM (v:Value) (ms:zM) (w:World) (h:yD w v ms) :
 Calls Tryz.prog 38 #[.agg #[v]] w fun e w'=>e=.returned (.bool (yn ms))/\zO w w':=by
 obtain⟨a,cap,rfl,hl,hc⟩:=h
 have hl':=hl
 have hB:∀o1,zO w (w.alloc o1):=fun o1=>zR _ _
 unfold maxLen at hl
 by_cases hz:ms.length=0
 ·rw[show yn ms=false by simp only[yn];rw[qw.2 (by omega)];rfl]
  have hz':((ms.length:Int) == 0)=true:=by rw[beq_iff_eq];omega
  go_enter Tryz.func38,Tryz.ntmps38
  go_wp2
  go_ret
  exact⟨rfl,hB _⟩
 have hz':((ms.length:Int) == 0)=false:=by rw[zG];omega
 by_cases h4:4<(ms.length:Int)
 ·rw[show yn ms=false by simp only[yn];rw[qw.2 (by omega)];rfl]
  go_enter Tryz.func38,Tryz.ntmps38
  go_wp2
  go_ret
  exact⟨rfl,hB _⟩
 have h1:qy ms.length 1 4=true:=zx.2 (by omega)
 have zeY:0<ms.length:=by omega
 have QA:(ms.getD 0 (0,0,[])).1=ms[0].1:=by simp[zeY]
 obtain⟨b,o,vo0,rfl,c0,c1,c2,c3⟩:=hc 0 zeY
 have e0:w.cell? (zH b o)=some (zI ms[0].1):=by simpa using c0
 have E0:∀o1,(w.alloc o1).cell? (zH b o)=some (zI ms[0].1):=fun o1=>zc (hB o1) e0
 clear c0 c1 c2 c3 e0
 have h0z:(0:Int)<ms.length:=by omega
 cases h2:(ms[0].1 == 0)
 ·rw[show yn ms=false by simp only[yn,h1,QA,h2];rfl]
  have h2':(ms[0].1 != 0)=true:=by simp only[bne,h2];rfl
  clear h1 QA
  go_enter Tryz.func38,Tryz.ntmps38
  go_wp2
  go_ret
  exact⟨rfl,hB _⟩
 have H:Hid (yn ms=ms.all (qe ms.length)):=by
  show yn ms=_
  simp only[yn,h1,QA,h2,Bool.true_and]
 have h2':(ms[0].1 != 0)=false:=by simp only[bne,h2];rfl
 clear h1 QA
 go_enter Tryz.func38,Tryz.ntmps38
 go_wp2
 clear h2 h2' hB E0
 go_loopg [26] ms.length (fun g i wr=>∃k:Nat,k<=ms.length/\g=ms.length - k/\i=zI k/\wr.cell? (zH w.heap.size 0)=some (zK b o ms.length cap)/\zO w wr/\∀j,(hj:j<ms.length)->j<k->qe ms.length ms[j]=true)
 case atStart=>exact⟨0,Nat.zero_le _,rfl,rfl,by simp[go_sem],zR _ _,fun j _ h=>absurd h yB⟩
 case round =>
  obtain⟨k,hk,rfl,rfl,bp,hb,hall⟩:=hrel
  have HA:Hid (∀j,(hj:j<ms.length)->j<k->qe ms.length ms[j]=true):=hall
  clear hall
  have un:=hb.size
  by_cases yt:k<ms.length
  ·obtain⟨b',o',vo,Kv,c0,c1,c2,c3⟩:=hc k yt
   obtain⟨rfl,rfl⟩:b=b'/\o=o':=by simpa using Kv
   have d0:=zc hb c0
   have d1:=zc hb c1
   have d2:=zc hb c2
   have d3:=c3.below hb
   clear c0 c1 c2 c3 hc Kv
   obtain⟨ao,co,jw,_⟩:=id d3
   rw[jw] at d2 d3
   clear jw
   have v7:(k:Int)<(ms.length:Int):=by omega
   have bp':∀o1,(wr.alloc o1).cell? (zH w.heap.size 0)=some (zK b o ms.length cap):=fun o1=>zc (zR _ _) bp
   have D3:∀o1,yi (wr.alloc o1) (.slice ao ms[k].2.2.length co) ms[k].2.2:=fun o1=>d3.below (zR _ _)
   clear d3
   go_wp2_with fail
   refine(WL _ _ _ _ _ _ _ _ (D3 _)).mono ?_
   rintro e w1 ⟨rfl,qk⟩
   have bp1:=zc qk (bp' _)
   have yE:zO w w1:=(hb.alloc un _).trans (qk.mono (by simp;omega))
   clear qk bp bp' D3 hb d0 d1 d2
   cases hq:qe ms.length (ms[k].1,ms[k].2.1,ms[k].2.2)
   ·have HF:Hid (yn ms=false):=H.out.trans (Kr yt hq)
    go_wp2
    go_ret
    exact⟨zp HF.out.symm,yE⟩
   ·have HQ:Hid (qe ms.length ms[k]=true):=hq
    go_wp2
    go_roundg (ms.length - (k+1))
    case measure=>omega
    case rel =>
     refine⟨k+1,by omega,rfl,by go_num,bp1,yE,fun j hj hjk=>?_⟩
     by_cases e:j=k
     ·subst e;exact HQ.out
     ·exact HA.out j hj (by omega)
  ·obtain rfl:k=ms.length:=by omega
   go_wp2
   go_ret
   exact⟨zp (H.out.trans (XT fun i hi=>HA.out i hi hi)).symm,hb⟩
end Go.Proofs.YtbjgjjkgfnfejaaGreatDoor
