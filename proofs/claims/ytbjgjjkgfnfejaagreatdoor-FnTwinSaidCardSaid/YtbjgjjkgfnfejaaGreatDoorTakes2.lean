/-
  OpTakes, the document's model and the program: both answer the plain function takesOf; they write to nothing that was there. The program reads its table opForms: where that table lies as its text lays it.
-/
import Derived.Test.YtbjgjjkgfnfejaaGreatDoorImplOk3
import Derived.BigQuiet
namespace Go.Proofs.YtbjgjjkgfnfejaaGreatDoor
set_option maxHeartbeats 4000000
open Go.RowKit
def tk (k:Int):Int:=if k=3\/k=4\/k=8\/k=10\/k=16\/k=12\/k=13\/k=17\/k=18 then 1 else if k=5\/k=6\/k=14\/k=15 then 2 else 0
def lv (k:Int):Int:=if k=1\/k=2\/k=5\/k=6\/k=9\/k=11\/k=12\/k=13\/k=15\/k=17\/k=18 then 1 else 0
def yv (ms:zM) (k a:Int):Int × Int :=
 if k=9 then(if qC a 0 ((ms.length:Int) - 1) then((ms.getD a.toNat (0,0,[])).1,1) else(0,0)) else(tk k,lv k)
theorem zcg {k:Int} (h:¬(1<=k/\k<=18)):tk k=0:=by
 unfold tk
 have h1:¬(k=3\/k=4\/k=8\/k=10\/k=16\/k=12\/k=13\/k=17\/k=18):=by omega
 have h2:¬(k=5\/k=6\/k=14\/k=15):=by omega
 rw[if_neg h1,if_neg h2]
theorem zb7 {k:Int} (h:¬(1<=k/\k<=18)):lv k=0:=by
 unfold lv
 have h1:¬(k=1\/k=2\/k=5\/k=6\/k=9\/k=11\/k=12\/k=13\/k=15\/k=17\/k=18):=by omega
 rw[if_neg h1]
theorem ui {ms:zM} {a:Nat} (h:a<ms.length):yv ms 9 a=(ms[a].1,1):=by
 simp only[yv,if_true]
 rw[zF.2 (by omega)]
 simp[h]
theorem KR {ms:zM} {a:Int} (h:qC a 0 ((ms.length:Int) - 1)=false):yv ms 9 a=(0,0):=by
 simp[yv,h]
def TabAt (w:World):Prop:=∀k:Nat,k<19->(∃s,w.cell? (zH 0 (k * 3))=some (.string s))/\w.cell? (zH 0 (k * 3+1))=some (zI (tk k))/\w.cell? (zH 0 (k * 3+2))=some (zI (lv k))
theorem TabAt.below {w w':World} (h:TabAt w) (hb:zO w w'):TabAt w':=fun k hk=>by
 obtain⟨⟨s,h0⟩,h1,h2⟩:=h k hk
 exact⟨⟨s,zc hb h0⟩,zc hb h1,zc hb h2⟩
theorem ZN {B:Nat} {a w:World} (h:Below B a w):∀n,Below B a (w.drewN n)
 | 0=>h
 | n+1=>by
  have:=ZN h n
  exact⟨this.os,this.tape,this.output,this.size,this.block⟩
theorem zd2 {k:Int} (h1:1<=k) (h2:k<=18) (h9:¬k=9):k=1\/k=2\/k=3\/k=4\/k=5\/k=6\/k=7\/k=8\/k=10\/k=11\/k=12\/k=13\/k=14\/k=15\/k=16\/k=17\/k=18:=by omega
theorem zeB (v:Value) (ms:zM) (k a:Int) (w:World) (h:yD w v ms) :
 Calls Tryz.prog 167 #[.agg #[v],.agg #[zI k,zI a]] w fun e w'=>e=.returned (.tuple #[zI (yv ms k a).1,zI (yv ms k a).2])/\zO w w':=by
 obtain⟨ad,cap,rfl,hl,hc⟩:=h
 have hB:∀o1 o2,zO w ((w.alloc o1).alloc o2):=fun o1 o2=>(zR _ _).alloc (by simp) _
 unfold maxLen at hl
 by_cases h9:k=9
 ·subst h9
  cases hin:qC a 0 ((ms.length:Int) - 1)
  ·rw[KR hin]
   go_enter Tryz.func167,Tryz.ntmps167
   go_wp2_with (go_at_call 42;refine(qT _ _ _ _).mono ?_;rintro e w' ⟨rfl,rfl⟩)
   go_ret2
   exact⟨rfl,hB _ _⟩
  ·have hr:=zF.1 hin
   obtain⟨n,rfl⟩:=Int.eq_ofNat_of_zero_le hr.1
   have hn:n<ms.length:=by omega
   rw[ui hn]
   obtain⟨b,o,vo,rfl,c0,c1,c2,c3⟩:=hc n hn
   have e0:∀o1 o2,((w.alloc o1).alloc o2).cell? (zH b (o+n * 3))=some (zI ms[n].1):=fun o1 o2=>zc (hB o1 o2) c0
   have hnz:(n:Int)<ms.length:=by omega
   clear c0 c1 c2 c3 hc hr
   go_enter Tryz.func167,Tryz.ntmps167
   go_wp2_with (go_at_call 42;refine(qT _ _ _ _).mono ?_;rintro e w' ⟨rfl,rfl⟩)
   go_ret2
   exact⟨rfl,hB _ _⟩
 by_cases hk:1<=k/\k<=18
 ·have hT:yv ms k a=(tk k,lv k):=by simp[yv,h9]
  rw[hT]
  clear hc hT
  rcases zd2 hk.1 hk.2 h9 with rfl | rfl | rfl | rfl | rfl | rfl | rfl | rfl | rfl | rfl | rfl | rfl | rfl | rfl | rfl | rfl | rfl
  all_goals
   clear hk h9
   go_enter Tryz.func167,Tryz.ntmps167
   go_wp2
   go_ret2
   exact⟨rfl,hB _ _⟩
 ·have hT:yv ms k a=(0,0):=by
   simp only[yv,h9,if_false,zcg hk,zb7 hk]
  rw[hT]
  clear hc hT
  have e1:(k == 1)=false:=zG.2 (by omega)
  have e2:(k == 2)=false:=zG.2 (by omega)
  have e3:(k == 3)=false:=zG.2 (by omega)
  have e4:(k == 4)=false:=zG.2 (by omega)
  have e5:(k == 5)=false:=zG.2 (by omega)
  have e6:(k == 6)=false:=zG.2 (by omega)
  have e7:(k == 7)=false:=zG.2 (by omega)
  have e8:(k == 8)=false:=zG.2 (by omega)
  have e9:(k == 9)=false:=zG.2 (by omega)
  have e10:(k == 10)=false:=zG.2 (by omega)
  have e11:(k == 11)=false:=zG.2 (by omega)
  have e12:(k == 12)=false:=zG.2 (by omega)
  have e13:(k == 13)=false:=zG.2 (by omega)
  have e14:(k == 14)=false:=zG.2 (by omega)
  have e15:(k == 15)=false:=zG.2 (by omega)
  have e16:(k == 16)=false:=zG.2 (by omega)
  have e17:(k == 17)=false:=zG.2 (by omega)
  have e18:(k == 18)=false:=zG.2 (by omega)
  clear hk h9
  go_enter Tryz.func167,Tryz.ntmps167
  go_wp2
  go_ret2
  exact⟨rfl,hB _ _⟩
theorem Qj (v:Value) (ms:zM) (k a:Int) (w:World) (h:yD w v ms) (ht:TabAt w) :
 Calls Tryz.prog 144 #[.agg #[v],.agg #[zI k,zI a]] w fun e w'=>e=.returned (.tuple #[zI (yv ms k a).1,zI (yv ms k a).2])/\zO w w':=by
 obtain⟨ad,cap,rfl,hl,hc⟩:=h
 have hB:∀o1 o2,zO w ((w.alloc o1).alloc o2):=fun o1 o2=>(zR _ _).alloc (by simp) _
 have hB3:∀o1 o2 o3,zO w (((w.alloc o1).alloc o2).alloc o3):=fun o1 o2 o3=>(hB o1 o2).alloc (by simp;omega) _
 unfold maxLen at hl
 cases hk:qC k 1 18
 ·have hk':=qc.1 hk
  have hT:yv ms k a=(0,0):=by
   have h9:¬k=9:=by omega
   simp only[yv,h9,if_false,zcg hk',zb7 hk']
  rw[hT]
  clear hc hT ht
  go_enter Tryz.func144,Tryz.ntmps144
  go_wp2_with (go_at_call 123;refine(jm _ _).mono ?_;rintro e w' ⟨rfl,rfl⟩)
  go_ret2
  exact⟨rfl,hB _ _⟩
 have hr:=zF.1 hk
 obtain⟨n,rfl⟩:=Int.eq_ofNat_of_zero_le (show 0<=k by omega)
 obtain⟨⟨s,t0⟩,t1,t2⟩:=ht n (by omega)
 have T0:∀o1 o2,((w.alloc o1).alloc o2).cell? (zH 0 (n * 3))=some (.string s):=fun o1 o2=>zc (hB o1 o2) t0
 have T1:∀o1 o2,((w.alloc o1).alloc o2).cell? (zH 0 (n * 3+1))=some (zI (tk n)):=fun o1 o2=>zc (hB o1 o2) t1
 have T2:∀o1 o2,((w.alloc o1).alloc o2).cell? (zH 0 (n * 3+2))=some (zI (lv n)):=fun o1 o2=>zc (hB o1 o2) t2
 have hn19:(n:Int)<19:=by omega
 clear t0 t1 t2 ht hr
 cases h9:((n:Int) == 9)
 ·have hT:yv ms n a=(tk n,lv n):=by
   rw[zG] at h9
   simp only[yv,h9,if_false]
  have h9':((n:Int) != 9)=true:=by simp only[bne,h9];rfl
  rw[hT]
  clear hc hT
  go_enter Tryz.func144,Tryz.ntmps144
  go_wp2_with (go_at_call 123;refine(jm _ _).mono ?_;rintro e w' ⟨rfl,rfl⟩)
  go_quiet (fail)
  go_wp2
  go_ret2
  exact⟨rfl,ZN (hB3 _ _ _) _⟩
 obtain rfl:n=9:=by rw[beq_iff_eq] at h9;omega
 cases hin:qC a 0 ((ms.length:Int) - 1)
 ·rw[show yv ms ((9:Nat):Int) a=(0,0) from KR hin]
  go_enter Tryz.func144,Tryz.ntmps144
  go_wp2_with (first | (go_at_call 123;refine(jm _ _).mono ?_;rintro e w' ⟨rfl,rfl⟩) | (go_at_call 58;refine(yc _ _ _).mono ?_;rintro e w' ⟨rfl,rfl⟩))
  go_ret2
  exact⟨rfl,hB3 _ _ _⟩
 ·have hra:=zF.1 hin
  obtain⟨m,rfl⟩:=Int.eq_ofNat_of_zero_le hra.1
  have hm:m<ms.length:=by omega
  rw[show yv ms ((9:Nat):Int) m=(ms[m].1,1) from ui hm]
  obtain⟨b,o,vo,rfl,c0,c1,c2,c3⟩:=hc m hm
  have e0:∀o1 o2 o3,(((w.alloc o1).alloc o2).alloc o3).cell? (zH b (o+m * 3))=some (zI ms[m].1):=fun o1 o2 o3=>zc (hB3 o1 o2 o3) c0
  have hmz:(m:Int)<ms.length:=by omega
  clear c0 c1 c2 c3 hc hra
  go_enter Tryz.func144,Tryz.ntmps144
  go_wp2_with (first | (go_at_call 123;refine(jm _ _).mono ?_;rintro e w' ⟨rfl,rfl⟩) | (go_at_call 58;refine(yc _ _ _).mono ?_;rintro e w' ⟨rfl,rfl⟩))
  go_quiet (fail)
  go_wp2
  go_ret2
  exact⟨rfl,ZN (hB3 _ _ _) _⟩
end Go.Proofs.YtbjgjjkgfnfejaaGreatDoor
