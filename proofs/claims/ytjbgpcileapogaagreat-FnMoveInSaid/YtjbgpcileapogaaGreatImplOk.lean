/-
  The document's model of ProgOk (spec.ProgOk and what it calls) answers the plain function progOk; it writes to nothing that was there.
-/
import Derived.Test.YtjbgpcileapogaaGreatProg
import Derived.Test.YtjbgpcileapogaaGreatPlain
import Derived.Deep.RegionHeld3
namespace Go.Proofs.YtjbgpcileapogaaGreat
open Go.RowKit
theorem yv (n lo hi:Int) (w:World) :
 Calls Tryz.prog 57 #[.int .i64 n,.int .i64 lo,.int .i64 hi] w fun e w'=>e=.returned (.bool (yO n lo hi))/\w'=w:=by
 go_enter Tryz.func57,Tryz.ntmps57
 by_cases h:lo<=n
 ·go_wp2
  go_ret
  exact⟨zm (by simp[yO,h]),rfl⟩
 ·go_wp2
  go_ret
  exact⟨zm (by rw[eq_comm,qI];omega),rfl⟩
set_option maxHeartbeats 1000000 in
theorem zci (ap:Option Addr) (nm cp:Nat) (x t:Int) (ao:Option Addr) (no co:Nat) (k a:Int) (w:World) (ht0:0<=t) (X7:t<=4) (hnm:nm<=maxLen) (hno:no<=maxLen) :
 Calls Tryz.prog 162 #[.agg #[.slice ap nm cp],.agg #[.int .i64 x,.int .i64 t,.slice ao no co],.agg #[.int .i64 k,.int .i64 a]] w fun e w'=>e=.returned (.bool (qR nm no t k a))/\Below w.heap.size w w':=by
 unfold maxLen at hnm hno
 have hB:∀o1 o2 o3,Below w.heap.size w (((w.alloc o1).alloc o2).alloc o3):=fun o1 o2 o3=>((zB _ _).alloc (by simp) _).alloc (by simp;omega) _
 by_cases h1:k=1
 ·subst h1
  go_enter Tryz.func162,Tryz.ntmps162
  go_wp2_with (go_at_call 57;refine(yv _ _ _ _).mono ?_;rintro e w' ⟨rfl,rfl⟩)
  go_ret
  exact⟨rfl,hB _ _ _⟩
 by_cases h2:k=2
 ·subst h2
  go_enter Tryz.func162,Tryz.ntmps162
  go_wp2_with (go_at_call 57;refine(yv _ _ _ _).mono ?_;rintro e w' ⟨rfl,rfl⟩)
  go_ret
  exact⟨rfl,hB _ _ _⟩
 by_cases h3:k=3
 ·subst h3
  go_enter Tryz.func162,Tryz.ntmps162
  go_wp2_with (go_at_call 57;refine(yv _ _ _ _).mono ?_;rintro e w' ⟨rfl,rfl⟩)
  go_ret
  exact⟨rfl,hB _ _ _⟩
 by_cases h7:k=7
 ·subst h7
  go_enter Tryz.func162,Tryz.ntmps162
  go_wp2_with (go_at_call 57;refine(yv _ _ _ _).mono ?_;rintro e w' ⟨rfl,rfl⟩)
  go_ret
  exact⟨rfl,hB _ _ _⟩
 by_cases h8:k=8
 ·subst h8
  go_enter Tryz.func162,Tryz.ntmps162
  go_wp2_with (go_at_call 57;refine(yv _ _ _ _).mono ?_;rintro e w' ⟨rfl,rfl⟩)
  go_ret
  exact⟨rfl,hB _ _ _⟩
 by_cases h9:k=9
 ·subst h9
  go_enter Tryz.func162,Tryz.ntmps162
  go_wp2_with (go_at_call 57;refine(yv _ _ _ _).mono ?_;rintro e w' ⟨rfl,rfl⟩)
  go_ret
  exact⟨rfl,hB _ _ _⟩
 by_cases Vi:k=13
 ·subst Vi
  go_enter Tryz.func162,Tryz.ntmps162
  go_wp2_with (go_at_call 57;refine(yv _ _ _ _).mono ?_;rintro e w' ⟨rfl,rfl⟩)
  go_ret
  exact⟨rfl,hB _ _ _⟩
 by_cases J8:k=14
 ·subst J8
  go_enter Tryz.func162,Tryz.ntmps162
  go_wp2_with (go_at_call 57;refine(yv _ _ _ _).mono ?_;rintro e w' ⟨rfl,rfl⟩)
  go_ret
  exact⟨rfl,hB _ _ _⟩
 rw[QK nm no t k a h1 h2 h3 h7 h8 h9 Vi J8]
 have e1:=zG.2 h1
 have e2:=zG.2 h2
 have e3:=zG.2 h3
 have e7:=zG.2 h7
 have e8:=zG.2 h8
 have e9:=zG.2 h9
 have e13:=zG.2 Vi
 have e14:=zG.2 J8
 clear h1 h2 h3 h7 h8 h9 Vi J8
 cases hk:yO k 1 18
 all_goals
  go_enter Tryz.func162,Tryz.ntmps162
  go_wp2_with (go_at_call 57;refine(yv _ _ _ _).mono ?_;rintro e w' ⟨rfl,rfl⟩)
  go_ret
  exact⟨rfl,hB _ _ _⟩
set_option maxHeartbeats 1000000 in
theorem Vs (ap:Option Addr) (nm cp:Nat) (x t:Int) (vo:Value) (ops:zL) (w:World) (h:zR w vo ops) (hnm:nm<=maxLen) :
 Calls Tryz.prog 121 #[.agg #[.slice ap nm cp],.agg #[.int .i64 x,.int .i64 t,vo]] w fun e w'=>e=.returned (.bool (yG nm (x,t,ops)))/\Below w.heap.size w w':=by
 obtain⟨ao,co,rfl,hl,hc⟩:=h
 have hl':=hl
 have hB:∀o1 o2,Below w.heap.size w ((w.alloc o1).alloc o2):=fun o1 o2=>(zB _ _).alloc (by simp) _
 unfold maxLen at hl
 cases h1:yO x 0 2
 ·rw[Yt h1]
  go_enter Tryz.func121,Tryz.ntmps121
  go_wp2_with (go_at_call 57;refine(yv _ _ _ _).mono ?_;rintro e w' ⟨rfl,rfl⟩)
  go_ret
  exact⟨rfl,hB _ _⟩
 cases h2:yO t x 4
 ·rw[Yu h2]
  go_enter Tryz.func121,Tryz.ntmps121
  go_wp2_with (go_at_call 57;refine(yv _ _ _ _).mono ?_;rintro e w' ⟨rfl,rfl⟩)
  go_ret
  exact⟨rfl,hB _ _⟩
 by_cases h3:ops.length<=14
 case neg =>
  rw[JF h3]
  have h3':(14:Int)<ops.length:=by omega
  go_enter Tryz.func121,Tryz.ntmps121
  go_wp2_with (go_at_call 57;refine(yv _ _ _ _).mono ?_;rintro e w' ⟨rfl,rfl⟩)
  go_ret
  exact⟨rfl,hB _ _⟩
 have H:Hid (∀b,Qd nm t ops=b->yG nm (x,t,ops)=b):=fun b hb=>QI h1 h2 h3 hb
 have ht:=zH.1 h2
 have hx:=zH.1 h1
 have h3':¬(14:Int)<ops.length:=by omega
 go_enter Tryz.func121,Tryz.ntmps121
 go_wp2_with (go_at_call 57;refine(yv _ _ _ _).mono ?_;rintro e w' ⟨rfl,rfl⟩)
 clear h1 h2 hB
 go_loopg [5] ops.length (fun g i wr=>∃k:Nat,k<=ops.length/\g=ops.length - k/\i=.int .i64 k/\ZY w wr (.slice ap nm cp) x t (.slice ao ops.length co)/\∀j,(hj:j<ops.length)->j<k->qR nm ops.length t ops[j].1 ops[j].2=true)
 case atStart=>exact⟨0,Nat.zero_le _,rfl,rfl,ZY.new _ _ _ _ _ _ _,fun j _ h=>absurd h zF⟩
 case round =>
  obtain⟨k,hk,rfl,rfl,Wz,hall⟩:=hrel
  have HA:Hid (∀j,(hj:j<ops.length)->j<k->qR nm ops.length t ops[j].1 ops[j].2=true):=hall
  clear hall
  obtain⟨bp,ba,bb,bc,hb⟩:=id Wz
  by_cases hlt:k<ops.length
  ·obtain⟨b,o,rfl,c0,c1⟩:=hc k hlt
   have d0:=zc hb c0
   have d1:=zc hb c1
   clear c0 c1 hc
   have hkz:(k:Int)<(ops.length:Int):=by omega
   go_wp2_with fail
   go_region_held3 (fun w'=>w'.cell? ⟨w.heap.size,0,none⟩=some (.slice ap nm cp)/\w'.cell? ⟨w.heap.size+1,0,none⟩=some (.int .i64 x)/\w'.cell? ⟨w.heap.size+1,1,none⟩=some (.int .i64 t)/\w'.cell? ⟨w.heap.size+1,2,none⟩=some (.slice (some ⟨b,o,none⟩) ops.length co)/\w'.cell? ⟨b,o+k * 2,none⟩=some (.int .i64 ops[k].1)/\w'.cell? ⟨b,o+k * 2+1,none⟩=some (.int .i64 ops[k].2))
    (first | go_keep | (refine⟨zc hb1 ?_,zc hb1 ?_,zc hb1 ?_,zc hb1 ?_,zc hb1 ?_,zc hb1 ?_⟩ <;> assumption))
    ((go_at_call 162;refine(zci _ _ _ _ _ _ _ _ _ _ _ (by omega) (by omega) hnm hl').mono ?_;rintro e w1 ⟨rfl,hb1⟩))
   have zdo:ZY w w1 (.slice ap nm cp) x t (.slice (some ⟨b,o,none⟩) ops.length co):=(Wz.go zC.drew).go hb1
   clear hb1 Wz bp ba bb bc hb d0 d1
   cases hq:qR nm ops.length t ops[k].1 ops[k].2
   ·have HF:Hid (yG nm (x,t,ops)=false):=H.out _ (UO hlt hq)
    go_wp2
    go_ret
    exact⟨zm HF.out.symm,zdo.below⟩
   ·have HQ:Hid (qR nm ops.length t ops[k].1 ops[k].2=true):=hq
    go_wp2
    go_roundg (ops.length - (k+1))
    case measure=>omega
    case rel =>
     refine⟨k+1,by omega,rfl,by go_num,zdo,fun j hj hjk=>?_⟩
     by_cases e:j=k
     ·subst e;exact HQ.out
     ·exact HA.out j hj (by omega)
  ·obtain rfl:k=ops.length:=by omega
   go_wp2
   go_ret
   exact⟨zm (H.out _ (KQ fun i hi=>HA.out i hi hi)).symm,hb⟩
set_option maxHeartbeats 1000000 in
theorem uQ (v:Value) (ms:zM) (w:World) (h:yy w v ms) :
 Calls Tryz.prog 56 #[.agg #[v]] w fun e w'=>e=.returned (.bool (yt ms))/\Below w.heap.size w w':=by
 obtain⟨a,zp,rfl,hl,hc⟩:=h
 have hl':=hl
 have hB:∀o1,Below w.heap.size w (w.alloc o1):=fun o1=>zB _ _
 unfold maxLen at hl
 cases h1:yO ms.length 1 4
 ·rw[show yt ms=false by simp[yt,h1]]
  go_enter Tryz.func56,Tryz.ntmps56
  go_wp2_with (go_at_call 57;refine(yv _ _ _ _).mono ?_;rintro e w' ⟨rfl,rfl⟩)
  go_ret
  exact⟨rfl,hB _⟩
 have hlen:=zH.1 h1
 have zbR:0<ms.length:=by omega
 have hx0:(ms.getD 0 (0,0,[])).1=ms[0].1:=by simp[zbR]
 obtain⟨b,o,vo0,rfl,c0,c1,c2,c3⟩:=hc 0 zbR
 have e0:w.cell? ⟨b,o,none⟩=some (.int .i64 ms[0].1):=by simpa using c0
 have hblt:=World.block_lt_of_cell? _ _ e0
 have E0:∀o1,(w.alloc o1).cell? ⟨b,o,none⟩=some (.int .i64 ms[0].1):=fun o1=>zc (hB o1) e0
 clear c0 c1 c2 c3 e0 hblt
 cases h2:(ms[0].1 == 0)
 ·rw[show yt ms=false by simp only[yt,h1,hx0,h2];rfl]
  have h2':(ms[0].1 != 0)=true:=by simp only[bne,h2];rfl
  go_enter Tryz.func56,Tryz.ntmps56
  go_wp2_with (go_at_call 57;refine(yv _ _ _ _).mono ?_;rintro e w' ⟨rfl,rfl⟩)
  go_ret
  exact⟨rfl,hB _⟩
 have H:Hid (yt ms=ms.all (yG ms.length)):=by
  show yt ms=_
  simp only[yt,h1,hx0,h2,Bool.true_and]
 have h2':(ms[0].1 != 0)=false:=by simp only[bne,h2];rfl
 go_enter Tryz.func56,Tryz.ntmps56
 go_wp2_with (go_at_call 57;refine(yv _ _ _ _).mono ?_;rintro e w' ⟨rfl,rfl⟩)
 clear h1 h2 h2' hx0 hB E0
 go_loopg [3] ms.length (fun g i wr=>∃k:Nat,k<=ms.length/\g=ms.length - k/\i=.int .i64 k/\wr.cell? ⟨w.heap.size,0,none⟩=some (.slice (some ⟨b,o,none⟩) ms.length zp)/\Below w.heap.size w wr/\∀j,(hj:j<ms.length)->j<k->yG ms.length ms[j]=true)
 case atStart=>exact⟨0,Nat.zero_le _,rfl,rfl,by simp[go_sem],zB _ _,fun j _ h=>absurd h zF⟩
 case round =>
  obtain⟨k,hk,rfl,rfl,bp,hb,hall⟩:=hrel
  have HA:Hid (∀j,(hj:j<ms.length)->j<k->yG ms.length ms[j]=true):=hall
  clear hall
  have hsz:=hb.size
  by_cases hlt:k<ms.length
  ·obtain⟨b',o',vo,Z2,c0,c1,c2,c3⟩:=hc k hlt
   obtain⟨rfl,rfl⟩:b=b'/\o=o':=by simpa using Z2
   have d0:=zc hb c0
   have d1:=zc hb c1
   have d2:=zc hb c2
   have d3:=(c3.below hb).below zC.drew
   clear c0 c1 c2 c3 hc Z2
   obtain⟨ao,co,xz,_⟩:=id d3
   rw[xz] at d2 d3
   clear xz
   have hkz:(k:Int)<(ms.length:Int):=by omega
   go_wp2_with fail
   go_region_held3 (fun w'=>w'.cell? ⟨w.heap.size,0,none⟩=some (.slice (some ⟨b,o,none⟩) ms.length zp)/\w'.cell? ⟨b,o+k * 3,none⟩=some (.int .i64 ms[k].1)/\w'.cell? ⟨b,o+k * 3+1,none⟩=some (.int .i64 ms[k].2.1)/\w'.cell? ⟨b,o+k * 3+2,none⟩=some (.slice ao ms[k].2.2.length co))
    (first | go_keep | (refine⟨zc hb1 ?_,zc hb1 ?_,zc hb1 ?_,zc hb1 ?_⟩ <;> assumption))
    ((go_at_call 121;refine(Vs _ _ _ _ _ _ _ _ d3 hl').mono ?_;rintro e w1 ⟨rfl,hb1⟩))
   have bp1:=zc hb1 bp
   have hb2:Below w.heap.size w w1:=hb.drew.trans (hb1.mono hsz)
   clear hb1 bp hb d0 d1 d2 d3
   cases hq:yG ms.length (ms[k].1,ms[k].2.1,ms[k].2.2)
   ·have HF:Hid (yt ms=false):=H.out.trans (YL hlt hq)
    go_wp2
    go_ret
    exact⟨zm HF.out.symm,hb2⟩
   ·have HQ:Hid (yG ms.length ms[k]=true):=hq
    go_wp2
    go_roundg (ms.length - (k+1))
    case measure=>omega
    case rel =>
     refine⟨k+1,by omega,rfl,by go_num,bp1,hb2,fun j hj hjk=>?_⟩
     by_cases e:j=k
     ·subst e;exact HQ.out
     ·exact HA.out j hj (by omega)
  ·obtain rfl:k=ms.length:=by omega
   go_wp2
   go_ret
   exact⟨zm (H.out.trans (Ya fun i hi=>HA.out i hi hi)).symm,hb⟩
theorem yd (n size:Int) (w:World) :
 Calls Tryz.prog 61 #[.int .i64 n,.int .i64 size] w fun e w'=>e=.returned (.bool (yO n 0 (size - 1)))/\w'=w:=by
 go_enter Tryz.func61,Tryz.ntmps61
 by_cases h:0<=n
 ·go_wp2
  go_ret
  exact⟨zm (by rw[Bool.eq_iff_iff,zH,decide_eq_true_iff];omega),rfl⟩
 ·go_wp2
  go_ret
  exact⟨zm (by rw[eq_comm,qI];omega),rfl⟩
theorem kI (k:Int) (w:World) :
 Calls Tryz.prog 166 #[.int .i64 k] w fun e w'=>e=.returned (.bool (yO k 1 18))/\w'=w:=by
 go_enter Tryz.func166,Tryz.ntmps166
 by_cases h:1<=k
 ·go_wp2
  go_ret
  exact⟨zm (by rw[Bool.eq_iff_iff,zH,decide_eq_true_iff];omega),rfl⟩
 ·go_wp2
  go_ret
  exact⟨zm (by rw[eq_comm,qI];omega),rfl⟩
def VC (k:Int):Nat :=
 if k=1 then 238 else if k=2\/k=3 then 239 else if k=7\/k=8 then 240 else if k=9 then 241
 else if k=13\/k=14 then 242 else 243
theorem KP (k:Int) (h1:¬k=1) (h2:¬k=2) (h3:¬k=3) (h7:¬k=7) (h8:¬k=8) (h9:¬k=9) (Vi:¬k=13) (J8:¬k=14):VC k=243:=by
 simp[VC,h1,h2,h3,h7,h8,h9,Vi,J8]
theorem zct (k:Int):(VC k=238/\k=1)\/(VC k=239/\(k=2\/k=3))\/(VC k=240/\(k=7\/k=8))\/(VC k=241/\k=9) \/
 (VC k=242/\(k=13\/k=14))\/(VC k=243/\¬k=1/\¬k=2/\¬k=3/\¬k=7/\¬k=8/\¬k=9/\¬k=13/\¬k=14):=by
 by_cases h1:k=1
 ·subst h1;exact .inl ⟨rfl,rfl⟩
 by_cases h2:k=2
 ·subst h2;exact .inr (.inl ⟨rfl,.inl rfl⟩)
 by_cases h3:k=3
 ·subst h3;exact .inr (.inl ⟨rfl,.inr rfl⟩)
 by_cases h7:k=7
 ·subst h7;exact .inr (.inr (.inl ⟨rfl,.inl rfl⟩))
 by_cases h8:k=8
 ·subst h8;exact .inr (.inr (.inl ⟨rfl,.inr rfl⟩))
 by_cases h9:k=9
 ·subst h9;exact .inr (.inr (.inr (.inl ⟨rfl,rfl⟩)))
 by_cases Vi:k=13
 ·subst Vi;exact .inr (.inr (.inr (.inr (.inl ⟨rfl,.inl rfl⟩))))
 by_cases J8:k=14
 ·subst J8;exact .inr (.inr (.inr (.inr (.inl ⟨rfl,.inr rfl⟩))))
 exact .inr (.inr (.inr (.inr (.inr ⟨KP k h1 h2 h3 h7 h8 h9 Vi J8,h1,h2,h3,h7,h8,h9,Vi,J8⟩))))
set_option maxHeartbeats 1000000 in
theorem Km (k a:Int) (w:World) :
 Calls Tryz.prog 167 #[.agg #[.int .i64 k,.int .i64 a]] w fun e w'=>e=.returned (.iface (VC k) (.int .i64 a))/\Below w.heap.size w w':=by
 have hB:∀o1,Below w.heap.size w (w.alloc o1):=fun o1=>zB _ _
 by_cases h1:k=1
 ·subst h1
  go_enter Tryz.func167,Tryz.ntmps167
  go_wp2
  go_ret
  exact⟨rfl,hB _⟩
 by_cases h2:k=2
 ·subst h2
  go_enter Tryz.func167,Tryz.ntmps167
  go_wp2
  go_ret
  exact⟨rfl,hB _⟩
 by_cases h3:k=3
 ·subst h3
  go_enter Tryz.func167,Tryz.ntmps167
  go_wp2
  go_ret
  exact⟨rfl,hB _⟩
 by_cases h7:k=7
 ·subst h7
  go_enter Tryz.func167,Tryz.ntmps167
  go_wp2
  go_ret
  exact⟨rfl,hB _⟩
 by_cases h8:k=8
 ·subst h8
  go_enter Tryz.func167,Tryz.ntmps167
  go_wp2
  go_ret
  exact⟨rfl,hB _⟩
 by_cases h9:k=9
 ·subst h9
  go_enter Tryz.func167,Tryz.ntmps167
  go_wp2
  go_ret
  exact⟨rfl,hB _⟩
 by_cases Vi:k=13
 ·subst Vi
  go_enter Tryz.func167,Tryz.ntmps167
  go_wp2
  go_ret
  exact⟨rfl,hB _⟩
 by_cases J8:k=14
 ·subst J8
  go_enter Tryz.func167,Tryz.ntmps167
  go_wp2
  go_ret
  exact⟨rfl,hB _⟩
 rw[KP k h1 h2 h3 h7 h8 h9 Vi J8]
 have e1:=zG.2 h1
 have e2:=zG.2 h2
 have e3:=zG.2 h3
 have e7:=zG.2 h7
 have e8:=zG.2 h8
 have e9:=zG.2 h9
 have e13:=zG.2 Vi
 have e14:=zG.2 J8
 clear h1 h2 h3 h7 h8 h9 Vi J8
 go_enter Tryz.func167,Tryz.ntmps167
 go_wp2
 go_ret
 exact⟨rfl,hB _⟩
section
variable (a:Int) (ap:Option Addr) (nm cp:Nat) (x t:Int) (ao:Option Addr) (no co:Nat) (w:World)
theorem UK:Calls Tryz.prog 218 #[.int .i64 a,.agg #[.slice ap nm cp],.agg #[.int .i64 x,.int .i64 t,.slice ao no co]] w fun e w'=>e=.returned (.bool (yO a 0 99))/\Below w.heap.size w w':=by
 go_enter Tryz.func218,Tryz.ntmps218
 go_wp2_with (go_at_call 61;refine(yd _ _ _).mono ?_;rintro e w' ⟨rfl,rfl⟩)
 go_ret
 exact⟨rfl,(zB _ _).alloc (by simp) _⟩
theorem VN:Calls Tryz.prog 219 #[.int .i64 a,.agg #[.slice ap nm cp],.agg #[.int .i64 x,.int .i64 t,.slice ao no co]] w fun e w'=>e=.returned (.bool (yO a 0 (t - 1)))/\Below w.heap.size w w':=by
 go_enter Tryz.func219,Tryz.ntmps219
 go_wp2_with (go_at_call 61;refine(yd _ _ _).mono ?_;rintro e w' ⟨rfl,rfl⟩)
 go_ret
 exact⟨rfl,(zB _ _).alloc (by simp) _⟩
theorem Ko:Calls Tryz.prog 220 #[.int .i64 a,.agg #[.slice ap nm cp],.agg #[.int .i64 x,.int .i64 t,.slice ao no co]] w fun e w'=>e=.returned (.bool (yO a 0 ((no:Int) - 1)))/\Below w.heap.size w w':=by
 go_enter Tryz.func220,Tryz.ntmps220
 go_wp2_with (go_at_call 61;refine(yd _ _ _).mono ?_;rintro e w' ⟨rfl,rfl⟩)
 go_ret
 exact⟨rfl,(zB _ _).alloc (by simp) _⟩
theorem JG:Calls Tryz.prog 221 #[.int .i64 a,.agg #[.slice ap nm cp],.agg #[.int .i64 x,.int .i64 t,.slice ao no co]] w fun e w'=>e=.returned (.bool (yO a 0 ((nm:Int) - 1)))/\Below w.heap.size w w':=by
 go_enter Tryz.func221,Tryz.ntmps221
 go_wp2_with (go_at_call 61;refine(yd _ _ _).mono ?_;rintro e w' ⟨rfl,rfl⟩)
 go_ret
 exact⟨rfl,(zB _ _).alloc (by simp) _⟩
theorem VG:Calls Tryz.prog 222 #[.int .i64 a,.agg #[.slice ap nm cp],.agg #[.int .i64 x,.int .i64 t,.slice ao no co]] w fun e w'=>e=.returned (.bool (yO a 0 3))/\Below w.heap.size w w':=by
 go_enter Tryz.func222,Tryz.ntmps222
 go_wp2_with (go_at_call 61;refine(yd _ _ _).mono ?_;rintro e w' ⟨rfl,rfl⟩)
 go_ret
 exact⟨rfl,(zB _ _).alloc (by simp) _⟩
theorem WX:Calls Tryz.prog 223 #[.int .i64 a,.agg #[.slice ap nm cp],.agg #[.int .i64 x,.int .i64 t,.slice ao no co]] w fun e w'=>e=.returned (.bool (a == 0))/\Below w.heap.size w w':=by
 go_enter Tryz.func223,Tryz.ntmps223
 go_wp2
 go_ret
 exact⟨rfl,(zB _ _).alloc (by simp) _⟩
end
theorem Tryz.run_num (a : Int) (w : World) : (method 381 238 (.int .i64 a) "loop.example/gemel/impl.fits").run Tryz.prog w = .ok (218, .int .i64 a) w := by kernel_rfl
theorem Tryz.run_temp (a : Int) (w : World) : (method 381 239 (.int .i64 a) "loop.example/gemel/impl.fits").run Tryz.prog w = .ok (219, .int .i64 a) w := by kernel_rfl
theorem Tryz.run_place (a : Int) (w : World) : (method 381 240 (.int .i64 a) "loop.example/gemel/impl.fits").run Tryz.prog w = .ok (220, .int .i64 a) w := by kernel_rfl
theorem Tryz.run_method (a : Int) (w : World) : (method 381 241 (.int .i64 a) "loop.example/gemel/impl.fits").run Tryz.prog w = .ok (221, .int .i64 a) w := by kernel_rfl
theorem Tryz.run_peek (a : Int) (w : World) : (method 381 242 (.int .i64 a) "loop.example/gemel/impl.fits").run Tryz.prog w = .ok (222, .int .i64 a) w := by kernel_rfl
theorem Tryz.run_no (a : Int) (w : World) : (method 381 243 (.int .i64 a) "loop.example/gemel/impl.fits").run Tryz.prog w = .ok (223, .int .i64 a) w := by kernel_rfl
theorem za7 {nm:Nat} {x t:Int} {ops:zL} (h:x<0):yG nm (x,t,ops)=false:=Yt (qI.2 (by omega))
theorem za8 {nm:Nat} {x t:Int} {ops:zL} (h:2<x):yG nm (x,t,ops)=false:=Yt (qI.2 (by omega))
theorem za6 {nm:Nat} {x t:Int} {ops:zL} (h:t<x):yG nm (x,t,ops)=false:=Yu (qI.2 (by omega))
theorem za5 {nm:Nat} {x t:Int} {ops:zL} (h:4<t):yG nm (x,t,ops)=false:=Yu (qI.2 (by omega))
set_option maxRecDepth 100000 in
set_option maxHeartbeats 2000000 in
theorem Vz (ap:Option Addr) (nm cp:Nat) (x t:Int) (vo:Value) (ops:zL) (w:World) (h:zR w vo ops) :
 Calls Tryz.prog 128 #[.agg #[.slice ap nm cp],.agg #[.int .i64 x,.int .i64 t,vo]] w fun e w'=>e=.returned (.bool (yG nm (x,t,ops)))/\Below w.heap.size w w':=by
 obtain⟨ao,co,rfl,hl,hc⟩:=h
 have hl':=hl
 have hB:∀o1 o2,Below w.heap.size w ((w.alloc o1).alloc o2):=fun o1 o2=>(zB _ _).alloc (by simp) _
 unfold maxLen at hl
 by_cases hx0:x<0
 ·rw[za7 hx0]
  go_enter Tryz.func128,Tryz.ntmps128
  go_wp2
  go_ret
  exact⟨rfl,hB _ _⟩
 by_cases hx2:2<x
 ·rw[za8 hx2]
  go_enter Tryz.func128,Tryz.ntmps128
  go_wp2
  go_ret
  exact⟨rfl,hB _ _⟩
 by_cases htx:t<x
 ·rw[za6 htx]
  go_enter Tryz.func128,Tryz.ntmps128
  go_wp2
  go_ret
  exact⟨rfl,hB _ _⟩
 by_cases X7:4<t
 ·rw[za5 X7]
  go_enter Tryz.func128,Tryz.ntmps128
  go_wp2
  go_ret
  exact⟨rfl,hB _ _⟩
 by_cases h3:ops.length<=14
 case neg =>
  rw[JF h3]
  have h3':(14:Int)<ops.length:=by omega
  go_enter Tryz.func128,Tryz.ntmps128
  go_wp2
  go_ret
  exact⟨rfl,hB _ _⟩
 have H:Hid (∀b,Qd nm t ops=b->yG nm (x,t,ops)=b):=fun b hb=>QI (zH.2 (by omega)) (zH.2 (by omega)) h3 hb
 have h3':¬(14:Int)<ops.length:=by omega
 go_enter Tryz.func128,Tryz.ntmps128
 go_wp2
 clear hB
 go_loopg [36] ops.length (fun g i wr=>∃k:Nat,k<=ops.length/\g=ops.length - k/\i=.int .i64 k/\ZY w wr (.slice ap nm cp) x t (.slice ao ops.length co)/\∀j,(hj:j<ops.length)->j<k->qR nm ops.length t ops[j].1 ops[j].2=true)
 case atStart=>exact⟨0,Nat.zero_le _,rfl,rfl,ZY.new _ _ _ _ _ _ _,fun j _ h=>absurd h zF⟩
 case round =>
  obtain⟨k,hk,rfl,rfl,Wz,hall⟩:=hrel
  have HA:Hid (∀j,(hj:j<ops.length)->j<k->qR nm ops.length t ops[j].1 ops[j].2=true):=hall
  clear hall
  obtain⟨bp,ba,bb,bc,hb⟩:=id Wz
  have hsz:=hb.size
  by_cases hlt:k<ops.length
  ·obtain⟨b,o,rfl,c0,c1⟩:=hc k hlt
   have d0:=zc hb c0
   have d1:=zc hb c1
   clear c0 c1 hc
   have hkz:(k:Int)<(ops.length:Int):=by omega
   have HO:Hid (∀b',qR nm ops.length t ops[k].1 ops[k].2=b'->(b'=false->yG nm (x,t,ops)=false)/\(b'=true->∀j,(hj:j<ops.length)->j<k+1->qR nm ops.length t ops[j].1 ops[j].2=true)):=fun b' hb'=>⟨fun e=>H.out _ (UO hlt (hb'.trans e)),fun e j hj hjk=>by
    by_cases e':j=k
    ·subst e';exact hb'.trans e
    ·exact HA.out j hj (by omega)⟩
   clear H HA
   generalize ops[k].1=kk at *
   generalize ops[k].2=aa at *
   go_wp2_with fail
   have q0:(wr.alloc (.cells #[.int .i64 kk,.int .i64 aa] 33)).cell? ⟨wr.heap.size,0,none⟩=some (.int .i64 kk):=by simp[go_sem]
   have q1:(wr.alloc (.cells #[.int .i64 kk,.int .i64 aa] 33)).cell? ⟨wr.heap.size,1,none⟩=some (.int .i64 aa):=by simp[go_sem]
   have uX:=Wz.go (zB _ (.cells #[.int .i64 kk,.int .i64 aa] 33))
   clear Wz bp ba bb bc d0 d1 hb
   generalize wr.alloc (.cells #[.int .i64 kk,.int .i64 aa] 33)=W2 at *
   obtain⟨bp,ba,bb,bc,hb⟩:=id uX
   have hop:=fun w=>Km kk aa w
   cases hk18:yO kk 1 18
   ·have HF:Hid (yG nm (x,t,ops)=false):=(HO.out _ (UN hk18)).1 rfl
    clear hop
    go_region_with (go_at_call 166;refine(kI _ _).mono ?_;rintro e w' ⟨rfl,rfl⟩)
    all_goals
     go_wp2
     go_ret
     exact⟨zm HF.out.symm,uX.below.drew⟩
   ·rcases zct kk with⟨hT,hkk⟩ | ⟨hT,hkk⟩ | ⟨hT,hkk⟩ | ⟨hT,hkk⟩ | ⟨hT,hkk⟩ | ⟨hT,hkk⟩
    ·have HV:Hid (qR nm ops.length t kk aa=yO aa 0 99):=by subst hkk;exact rfl
     rw[hT] at hop
     have HP:Hid (∀w,Calls _ _ _ w _):=hop
     have hm:=Tryz.run_num aa
     clear hop hkk hT
     go_region_held3 (fun w'=>w'.cell? ⟨w.heap.size,0,none⟩=some (.slice ap nm cp)/\w'.cell? ⟨w.heap.size+1,0,none⟩=some (.int .i64 x)/\w'.cell? ⟨w.heap.size+1,1,none⟩=some (.int .i64 t)/\w'.cell? ⟨w.heap.size+1,2,none⟩=some (.slice (some ⟨b,o,none⟩) ops.length co)/\w'.cell? ⟨wr.heap.size,0,none⟩=some (.int .i64 kk)/\w'.cell? ⟨wr.heap.size,1,none⟩=some (.int .i64 aa))
      (first | go_keep | (refine⟨zc hb2 ?_,zc hb2 ?_,zc hb2 ?_,zc hb2 ?_,zc hb2 ?_,zc hb2 ?_⟩ <;> assumption) | (refine⟨zc hb1 ?_,zc hb1 ?_,zc hb1 ?_,zc hb1 ?_,zc hb1 ?_,zc hb1 ?_⟩ <;> assumption))
      ((first | (go_at_call 166;refine(kI _ _).mono ?_;rintro e w' ⟨rfl,rfl⟩) | (go_at_call 167;refine(HP.out _).mono ?_;rintro e w1 ⟨rfl,hb1⟩) | (go_at_call 218;refine(UK _ _ _ _ _ _ _ _ _ _).mono ?_;rintro e w2 ⟨rfl,hb2'⟩;have hb2:=hb1.trans (hb2'.mono hb1.size))))
     have vW:=(uX.go zC.drew).go hb2
     clear hb2' hb2 hb1 uX bp ba bb bc hb q0 q1 hm HP
     cases hq:yO aa 0 99
     ·have HF:Hid (yG nm (x,t,ops)=false):=(HO.out _ (HV.out.trans hq)).1 rfl
      clear HV
      go_wp2
      go_ret
      exact⟨zm HF.out.symm,vW.below⟩
     ·have HQ:Hid (∀j,(hj:j<ops.length)->j<k+1->qR nm ops.length t ops[j].1 ops[j].2=true):=(HO.out _ (HV.out.trans hq)).2 rfl
      clear HV
      go_wp2
      go_roundg (ops.length - (k+1))
      case measure=>omega
      case rel=>exact⟨k+1,by omega,rfl,by go_num,vW,HQ.out⟩
    ·have HV:Hid (qR nm ops.length t kk aa=yO aa 0 (t - 1)):=by rcases hkk with rfl | rfl <;> exact rfl
     rw[hT] at hop
     have HP:Hid (∀w,Calls _ _ _ w _):=hop
     have hm:=Tryz.run_temp aa
     clear hop hkk hT
     go_region_held3 (fun w'=>w'.cell? ⟨w.heap.size,0,none⟩=some (.slice ap nm cp)/\w'.cell? ⟨w.heap.size+1,0,none⟩=some (.int .i64 x)/\w'.cell? ⟨w.heap.size+1,1,none⟩=some (.int .i64 t)/\w'.cell? ⟨w.heap.size+1,2,none⟩=some (.slice (some ⟨b,o,none⟩) ops.length co)/\w'.cell? ⟨wr.heap.size,0,none⟩=some (.int .i64 kk)/\w'.cell? ⟨wr.heap.size,1,none⟩=some (.int .i64 aa))
      (first | go_keep | (refine⟨zc hb2 ?_,zc hb2 ?_,zc hb2 ?_,zc hb2 ?_,zc hb2 ?_,zc hb2 ?_⟩ <;> assumption) | (refine⟨zc hb1 ?_,zc hb1 ?_,zc hb1 ?_,zc hb1 ?_,zc hb1 ?_,zc hb1 ?_⟩ <;> assumption))
      ((first | (go_at_call 166;refine(kI _ _).mono ?_;rintro e w' ⟨rfl,rfl⟩) | (go_at_call 167;refine(HP.out _).mono ?_;rintro e w1 ⟨rfl,hb1⟩) | (go_at_call 219;refine(VN _ _ _ _ _ _ _ _ _ _).mono ?_;rintro e w2 ⟨rfl,hb2'⟩;have hb2:=hb1.trans (hb2'.mono hb1.size))))
     have vW:=(uX.go zC.drew).go hb2
     clear hb2' hb2 hb1 uX bp ba bb bc hb q0 q1 hm HP
     cases hq:yO aa 0 (t - 1)
     ·have HF:Hid (yG nm (x,t,ops)=false):=(HO.out _ (HV.out.trans hq)).1 rfl
      clear HV
      go_wp2
      go_ret
      exact⟨zm HF.out.symm,vW.below⟩
     ·have HQ:Hid (∀j,(hj:j<ops.length)->j<k+1->qR nm ops.length t ops[j].1 ops[j].2=true):=(HO.out _ (HV.out.trans hq)).2 rfl
      clear HV
      go_wp2
      go_roundg (ops.length - (k+1))
      case measure=>omega
      case rel=>exact⟨k+1,by omega,rfl,by go_num,vW,HQ.out⟩
    ·have HV:Hid (qR nm ops.length t kk aa=yO aa 0 ((ops.length:Int) - 1)):=by rcases hkk with rfl | rfl <;> exact rfl
     rw[hT] at hop
     have HP:Hid (∀w,Calls _ _ _ w _):=hop
     have hm:=Tryz.run_place aa
     clear hop hkk hT
     go_region_held3 (fun w'=>w'.cell? ⟨w.heap.size,0,none⟩=some (.slice ap nm cp)/\w'.cell? ⟨w.heap.size+1,0,none⟩=some (.int .i64 x)/\w'.cell? ⟨w.heap.size+1,1,none⟩=some (.int .i64 t)/\w'.cell? ⟨w.heap.size+1,2,none⟩=some (.slice (some ⟨b,o,none⟩) ops.length co)/\w'.cell? ⟨wr.heap.size,0,none⟩=some (.int .i64 kk)/\w'.cell? ⟨wr.heap.size,1,none⟩=some (.int .i64 aa))
      (first | go_keep | (refine⟨zc hb2 ?_,zc hb2 ?_,zc hb2 ?_,zc hb2 ?_,zc hb2 ?_,zc hb2 ?_⟩ <;> assumption) | (refine⟨zc hb1 ?_,zc hb1 ?_,zc hb1 ?_,zc hb1 ?_,zc hb1 ?_,zc hb1 ?_⟩ <;> assumption))
      ((first | (go_at_call 166;refine(kI _ _).mono ?_;rintro e w' ⟨rfl,rfl⟩) | (go_at_call 167;refine(HP.out _).mono ?_;rintro e w1 ⟨rfl,hb1⟩) | (go_at_call 220;refine(Ko _ _ _ _ _ _ _ _ _ _).mono ?_;rintro e w2 ⟨rfl,hb2'⟩;have hb2:=hb1.trans (hb2'.mono hb1.size))))
     have vW:=(uX.go zC.drew).go hb2
     clear hb2' hb2 hb1 uX bp ba bb bc hb q0 q1 hm HP
     cases hq:yO aa 0 ((ops.length:Int) - 1)
     ·have HF:Hid (yG nm (x,t,ops)=false):=(HO.out _ (HV.out.trans hq)).1 rfl
      clear HV
      go_wp2
      go_ret
      exact⟨zm HF.out.symm,vW.below⟩
     ·have HQ:Hid (∀j,(hj:j<ops.length)->j<k+1->qR nm ops.length t ops[j].1 ops[j].2=true):=(HO.out _ (HV.out.trans hq)).2 rfl
      clear HV
      go_wp2
      go_roundg (ops.length - (k+1))
      case measure=>omega
      case rel=>exact⟨k+1,by omega,rfl,by go_num,vW,HQ.out⟩
    ·have HV:Hid (qR nm ops.length t kk aa=yO aa 0 ((nm:Int) - 1)):=by subst hkk;exact rfl
     rw[hT] at hop
     have HP:Hid (∀w,Calls _ _ _ w _):=hop
     have hm:=Tryz.run_method aa
     clear hop hkk hT
     go_region_held3 (fun w'=>w'.cell? ⟨w.heap.size,0,none⟩=some (.slice ap nm cp)/\w'.cell? ⟨w.heap.size+1,0,none⟩=some (.int .i64 x)/\w'.cell? ⟨w.heap.size+1,1,none⟩=some (.int .i64 t)/\w'.cell? ⟨w.heap.size+1,2,none⟩=some (.slice (some ⟨b,o,none⟩) ops.length co)/\w'.cell? ⟨wr.heap.size,0,none⟩=some (.int .i64 kk)/\w'.cell? ⟨wr.heap.size,1,none⟩=some (.int .i64 aa))
      (first | go_keep | (refine⟨zc hb2 ?_,zc hb2 ?_,zc hb2 ?_,zc hb2 ?_,zc hb2 ?_,zc hb2 ?_⟩ <;> assumption) | (refine⟨zc hb1 ?_,zc hb1 ?_,zc hb1 ?_,zc hb1 ?_,zc hb1 ?_,zc hb1 ?_⟩ <;> assumption))
      ((first | (go_at_call 166;refine(kI _ _).mono ?_;rintro e w' ⟨rfl,rfl⟩) | (go_at_call 167;refine(HP.out _).mono ?_;rintro e w1 ⟨rfl,hb1⟩) | (go_at_call 221;refine(JG _ _ _ _ _ _ _ _ _ _).mono ?_;rintro e w2 ⟨rfl,hb2'⟩;have hb2:=hb1.trans (hb2'.mono hb1.size))))
     have vW:=(uX.go zC.drew).go hb2
     clear hb2' hb2 hb1 uX bp ba bb bc hb q0 q1 hm HP
     cases hq:yO aa 0 ((nm:Int) - 1)
     ·have HF:Hid (yG nm (x,t,ops)=false):=(HO.out _ (HV.out.trans hq)).1 rfl
      clear HV
      go_wp2
      go_ret
      exact⟨zm HF.out.symm,vW.below⟩
     ·have HQ:Hid (∀j,(hj:j<ops.length)->j<k+1->qR nm ops.length t ops[j].1 ops[j].2=true):=(HO.out _ (HV.out.trans hq)).2 rfl
      clear HV
      go_wp2
      go_roundg (ops.length - (k+1))
      case measure=>omega
      case rel=>exact⟨k+1,by omega,rfl,by go_num,vW,HQ.out⟩
    ·have HV:Hid (qR nm ops.length t kk aa=yO aa 0 3):=by rcases hkk with rfl | rfl <;> exact rfl
     rw[hT] at hop
     have HP:Hid (∀w,Calls _ _ _ w _):=hop
     have hm:=Tryz.run_peek aa
     clear hop hkk hT
     go_region_held3 (fun w'=>w'.cell? ⟨w.heap.size,0,none⟩=some (.slice ap nm cp)/\w'.cell? ⟨w.heap.size+1,0,none⟩=some (.int .i64 x)/\w'.cell? ⟨w.heap.size+1,1,none⟩=some (.int .i64 t)/\w'.cell? ⟨w.heap.size+1,2,none⟩=some (.slice (some ⟨b,o,none⟩) ops.length co)/\w'.cell? ⟨wr.heap.size,0,none⟩=some (.int .i64 kk)/\w'.cell? ⟨wr.heap.size,1,none⟩=some (.int .i64 aa))
      (first | go_keep | (refine⟨zc hb2 ?_,zc hb2 ?_,zc hb2 ?_,zc hb2 ?_,zc hb2 ?_,zc hb2 ?_⟩ <;> assumption) | (refine⟨zc hb1 ?_,zc hb1 ?_,zc hb1 ?_,zc hb1 ?_,zc hb1 ?_,zc hb1 ?_⟩ <;> assumption))
      ((first | (go_at_call 166;refine(kI _ _).mono ?_;rintro e w' ⟨rfl,rfl⟩) | (go_at_call 167;refine(HP.out _).mono ?_;rintro e w1 ⟨rfl,hb1⟩) | (go_at_call 222;refine(VG _ _ _ _ _ _ _ _ _ _).mono ?_;rintro e w2 ⟨rfl,hb2'⟩;have hb2:=hb1.trans (hb2'.mono hb1.size))))
     have vW:=(uX.go zC.drew).go hb2
     clear hb2' hb2 hb1 uX bp ba bb bc hb q0 q1 hm HP
     cases hq:yO aa 0 3
     ·have HF:Hid (yG nm (x,t,ops)=false):=(HO.out _ (HV.out.trans hq)).1 rfl
      clear HV
      go_wp2
      go_ret
      exact⟨zm HF.out.symm,vW.below⟩
     ·have HQ:Hid (∀j,(hj:j<ops.length)->j<k+1->qR nm ops.length t ops[j].1 ops[j].2=true):=(HO.out _ (HV.out.trans hq)).2 rfl
      clear HV
      go_wp2
      go_roundg (ops.length - (k+1))
      case measure=>omega
      case rel=>exact⟨k+1,by omega,rfl,by go_num,vW,HQ.out⟩
    ·have HV:Hid (qR nm ops.length t kk aa=(aa == 0)):=by obtain⟨h1,h2,h3,h7,h8,h9,Vi,J8⟩:=hkk;show _=_;rw[QK _ _ _ _ _ h1 h2 h3 h7 h8 h9 Vi J8,hk18];rfl
     rw[hT] at hop
     have HP:Hid (∀w,Calls _ _ _ w _):=hop
     have hm:=Tryz.run_no aa
     clear hop hkk hT
     go_region_held3 (fun w'=>w'.cell? ⟨w.heap.size,0,none⟩=some (.slice ap nm cp)/\w'.cell? ⟨w.heap.size+1,0,none⟩=some (.int .i64 x)/\w'.cell? ⟨w.heap.size+1,1,none⟩=some (.int .i64 t)/\w'.cell? ⟨w.heap.size+1,2,none⟩=some (.slice (some ⟨b,o,none⟩) ops.length co)/\w'.cell? ⟨wr.heap.size,0,none⟩=some (.int .i64 kk)/\w'.cell? ⟨wr.heap.size,1,none⟩=some (.int .i64 aa))
      (first | go_keep | (refine⟨zc hb2 ?_,zc hb2 ?_,zc hb2 ?_,zc hb2 ?_,zc hb2 ?_,zc hb2 ?_⟩ <;> assumption) | (refine⟨zc hb1 ?_,zc hb1 ?_,zc hb1 ?_,zc hb1 ?_,zc hb1 ?_,zc hb1 ?_⟩ <;> assumption))
      ((first | (go_at_call 166;refine(kI _ _).mono ?_;rintro e w' ⟨rfl,rfl⟩) | (go_at_call 167;refine(HP.out _).mono ?_;rintro e w1 ⟨rfl,hb1⟩) | (go_at_call 223;refine(WX _ _ _ _ _ _ _ _ _ _).mono ?_;rintro e w2 ⟨rfl,hb2'⟩;have hb2:=hb1.trans (hb2'.mono hb1.size))))
     have vW:=(uX.go zC.drew).go hb2
     clear hb2' hb2 hb1 uX bp ba bb bc hb q0 q1 hm HP
     cases hq:(aa == 0)
     ·have HF:Hid (yG nm (x,t,ops)=false):=(HO.out _ (HV.out.trans hq)).1 rfl
      clear HV
      go_wp2
      go_ret
      exact⟨zm HF.out.symm,vW.below⟩
     ·have HQ:Hid (∀j,(hj:j<ops.length)->j<k+1->qR nm ops.length t ops[j].1 ops[j].2=true):=(HO.out _ (HV.out.trans hq)).2 rfl
      clear HV
      go_wp2
      go_roundg (ops.length - (k+1))
      case measure=>omega
      case rel=>exact⟨k+1,by omega,rfl,by go_num,vW,HQ.out⟩
  ·obtain rfl:k=ops.length:=by omega
   go_wp2
   go_ret
   exact⟨zm (H.out _ (KQ fun i hi=>HA.out i hi hi)).symm,hb⟩
set_option maxHeartbeats 1000000 in
theorem Zq (v:Value) (ms:zM) (w:World) (h:yy w v ms) :
 Calls Tryz.prog 70 #[.agg #[v]] w fun e w'=>e=.returned (.bool (yt ms))/\Below w.heap.size w w':=by
 obtain⟨a,zp,rfl,hl,hc⟩:=h
 have hl':=hl
 have hB:∀o1,Below w.heap.size w (w.alloc o1):=fun o1=>zB _ _
 unfold maxLen at hl
 by_cases hz:ms.length=0
 ·rw[show yt ms=false by simp only[yt];rw[qI.2 (by omega)];rfl]
  have hz':((ms.length:Int) == 0)=true:=by rw[beq_iff_eq];omega
  go_enter Tryz.func70,Tryz.ntmps70
  go_wp2
  go_ret
  exact⟨rfl,hB _⟩
 have hz':((ms.length:Int) == 0)=false:=by rw[zG];omega
 by_cases h4:4<(ms.length:Int)
 ·rw[show yt ms=false by simp only[yt];rw[qI.2 (by omega)];rfl]
  go_enter Tryz.func70,Tryz.ntmps70
  go_wp2
  go_ret
  exact⟨rfl,hB _⟩
 have h1:yO ms.length 1 4=true:=zH.2 (by omega)
 have zbR:0<ms.length:=by omega
 have hx0:(ms.getD 0 (0,0,[])).1=ms[0].1:=by simp[zbR]
 obtain⟨b,o,vo0,rfl,c0,c1,c2,c3⟩:=hc 0 zbR
 have e0:w.cell? ⟨b,o,none⟩=some (.int .i64 ms[0].1):=by simpa using c0
 have E0:∀o1,(w.alloc o1).cell? ⟨b,o,none⟩=some (.int .i64 ms[0].1):=fun o1=>zc (hB o1) e0
 clear c0 c1 c2 c3 e0
 have h0z:(0:Int)<ms.length:=by omega
 cases h2:(ms[0].1 == 0)
 ·rw[show yt ms=false by simp only[yt,h1,hx0,h2];rfl]
  have h2':(ms[0].1 != 0)=true:=by simp only[bne,h2];rfl
  clear h1 hx0
  go_enter Tryz.func70,Tryz.ntmps70
  go_wp2
  go_ret
  exact⟨rfl,hB _⟩
 have H:Hid (yt ms=ms.all (yG ms.length)):=by
  show yt ms=_
  simp only[yt,h1,hx0,h2,Bool.true_and]
 have h2':(ms[0].1 != 0)=false:=by simp only[bne,h2];rfl
 clear h1 hx0
 go_enter Tryz.func70,Tryz.ntmps70
 go_wp2
 clear h2 h2' hB E0
 go_loopg [26] ms.length (fun g i wr=>∃k:Nat,k<=ms.length/\g=ms.length - k/\i=.int .i64 k/\wr.cell? ⟨w.heap.size,0,none⟩=some (.slice (some ⟨b,o,none⟩) ms.length zp)/\Below w.heap.size w wr/\∀j,(hj:j<ms.length)->j<k->yG ms.length ms[j]=true)
 case atStart=>exact⟨0,Nat.zero_le _,rfl,rfl,by simp[go_sem],zB _ _,fun j _ h=>absurd h zF⟩
 case round =>
  obtain⟨k,hk,rfl,rfl,bp,hb,hall⟩:=hrel
  have HA:Hid (∀j,(hj:j<ms.length)->j<k->yG ms.length ms[j]=true):=hall
  clear hall
  have hsz:=hb.size
  by_cases hlt:k<ms.length
  ·obtain⟨b',o',vo,Z2,c0,c1,c2,c3⟩:=hc k hlt
   obtain⟨rfl,rfl⟩:b=b'/\o=o':=by simpa using Z2
   have d0:=zc hb c0
   have d1:=zc hb c1
   have d2:=zc hb c2
   have d3:=c3.below hb
   clear c0 c1 c2 c3 hc Z2
   obtain⟨ao,co,xz,_⟩:=id d3
   rw[xz] at d2 d3
   clear xz
   have hkz:(k:Int)<(ms.length:Int):=by omega
   have bp':∀o1,(wr.alloc o1).cell? ⟨w.heap.size,0,none⟩=some (.slice (some ⟨b,o,none⟩) ms.length zp):=fun o1=>zc (zB _ _) bp
   have D3:∀o1,zR (wr.alloc o1) (.slice ao ms[k].2.2.length co) ms[k].2.2:=fun o1=>d3.below (zB _ _)
   clear d3
   go_wp2_with fail
   refine(Vz _ _ _ _ _ _ _ _ (D3 _)).mono ?_
   rintro e w1 ⟨rfl,hb1⟩
   have bp1:=zc hb1 (bp' _)
   have hb2:Below w.heap.size w w1:=(hb.alloc hsz _).trans (hb1.mono (by simp;omega))
   clear hb1 bp bp' D3 hb d0 d1 d2
   cases hq:yG ms.length (ms[k].1,ms[k].2.1,ms[k].2.2)
   ·have HF:Hid (yt ms=false):=H.out.trans (YL hlt hq)
    go_wp2
    go_ret
    exact⟨zm HF.out.symm,hb2⟩
   ·have HQ:Hid (yG ms.length ms[k]=true):=hq
    go_wp2
    go_roundg (ms.length - (k+1))
    case measure=>omega
    case rel =>
     refine⟨k+1,by omega,rfl,by go_num,bp1,hb2,fun j hj hjk=>?_⟩
     by_cases e:j=k
     ·subst e;exact HQ.out
     ·exact HA.out j hj (by omega)
  ·obtain rfl:k=ms.length:=by omega
   go_wp2
   go_ret
   exact⟨zm (H.out.trans (Ya fun i hi=>HA.out i hi hi)).symm,hb⟩
end Go.Proofs.YtjbgpcileapogaaGreat
