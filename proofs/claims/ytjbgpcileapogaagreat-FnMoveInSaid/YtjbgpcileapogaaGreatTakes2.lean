/-
  OpTakes, the document's model and the program: both answer the plain function takesOf; they write to nothing that was there. The program reads its table opForms: where that table lies as its text lays it.
-/
import Derived.Test.YtjbgpcileapogaaGreatImplOk
import Derived.BigQuiet
namespace Go.Proofs.YtjbgpcileapogaaGreat
open Go.RowKit
def tk (k:Int):Int:=if k=3\/k=4\/k=8\/k=10\/k=16\/k=12\/k=13\/k=17\/k=18 then 1 else if k=5\/k=6\/k=14\/k=15 then 2 else 0
def lv (k:Int):Int:=if k=1\/k=2\/k=5\/k=6\/k=9\/k=11\/k=12\/k=13\/k=15\/k=17\/k=18 then 1 else 0
def yI (ms:zM) (k a:Int):Int × Int :=
 if k=9 then(if yO a 0 ((ms.length:Int) - 1) then((ms.getD a.toNat (0,0,[])).1,1) else(0,0)) else(tk k,lv k)
theorem zdg {k:Int} (h:¬(1<=k/\k<=18)):tk k=0:=by
 unfold tk
 have h1:¬(k=3\/k=4\/k=8\/k=10\/k=16\/k=12\/k=13\/k=17\/k=18):=by omega
 have h2:¬(k=5\/k=6\/k=14\/k=15):=by omega
 rw[if_neg h1,if_neg h2]
theorem zc3 {k:Int} (h:¬(1<=k/\k<=18)):lv k=0:=by
 unfold lv
 have h1:¬(k=1\/k=2\/k=5\/k=6\/k=9\/k=11\/k=12\/k=13\/k=15\/k=17\/k=18):=by omega
 rw[if_neg h1]
theorem wJ {ms:zM} {a:Nat} (h:a<ms.length):yI ms 9 a=(ms[a].1,1):=by
 simp only[yI,if_true]
 rw[zH.2 (by omega)]
 simp[h]
theorem zan {ms:zM} {a:Int} (h:yO a 0 ((ms.length:Int) - 1)=false):yI ms 9 a=(0,0):=by
 simp[yI,h]
theorem zch {k:Int} (h1:1<=k) (h2:k<=18) (h9:¬k=9):k=1\/k=2\/k=3\/k=4\/k=5\/k=6\/k=7\/k=8\/k=10\/k=11\/k=12\/k=13\/k=14\/k=15\/k=16\/k=17\/k=18:=by omega
set_option maxHeartbeats 4000000 in
theorem Kq (v:Value) (ms:zM) (k a:Int) (w:World) (h:yy w v ms) :
 Calls Tryz.prog 178 #[.agg #[v],.agg #[.int .i64 k,.int .i64 a]] w fun e w'=>e=.returned (.tuple #[.int .i64 (yI ms k a).1,.int .i64 (yI ms k a).2])/\Below w.heap.size w w':=by
 obtain⟨ad,zp,rfl,hl,hc⟩:=h
 have hB:∀o1 o2,Below w.heap.size w ((w.alloc o1).alloc o2):=fun o1 o2=>(zB _ _).alloc (by simp) _
 unfold maxLen at hl
 by_cases h9:k=9
 ·subst h9
  cases hin:yO a 0 ((ms.length:Int) - 1)
  ·rw[zan hin]
   go_enter Tryz.func178,Tryz.ntmps178
   go_wp2_with (go_at_call 57;refine(yv _ _ _ _).mono ?_;rintro e w' ⟨rfl,rfl⟩)
   go_ret2
   exact⟨rfl,hB _ _⟩
  ·have hr:=zH.1 hin
   obtain⟨n,rfl⟩:=Int.eq_ofNat_of_zero_le hr.1
   have hn:n<ms.length:=by omega
   rw[wJ hn]
   obtain⟨b,o,vo,rfl,c0,c1,c2,c3⟩:=hc n hn
   have e0:∀o1 o2,((w.alloc o1).alloc o2).cell? ⟨b,o+n * 3,none⟩=some (.int .i64 ms[n].1):=fun o1 o2=>zc (hB o1 o2) c0
   have hnz:(n:Int)<ms.length:=by omega
   clear c0 c1 c2 c3 hc hr
   go_enter Tryz.func178,Tryz.ntmps178
   go_wp2_with (go_at_call 57;refine(yv _ _ _ _).mono ?_;rintro e w' ⟨rfl,rfl⟩)
   go_ret2
   exact⟨rfl,hB _ _⟩
 by_cases hk:1<=k/\k<=18
 ·have hT:yI ms k a=(tk k,lv k):=by simp[yI,h9]
  rw[hT]
  clear hc hT
  rcases zch hk.1 hk.2 h9 with rfl | rfl | rfl | rfl | rfl | rfl | rfl | rfl | rfl | rfl | rfl | rfl | rfl | rfl | rfl | rfl | rfl
  all_goals
   clear hk h9
   go_enter Tryz.func178,Tryz.ntmps178
   go_wp2
   go_ret2
   exact⟨rfl,hB _ _⟩
 ·have hT:yI ms k a=(0,0):=by
   simp only[yI,h9,if_false,zdg hk,zc3 hk]
  rw[hT]
  clear hc hT
  have e1:(k == 1)=false:=zG.2 (by omega)
  have e2:(k == 2)=false:=zG.2 (by omega)
  have e3:(k == 3)=false:=zG.2 (by omega)
  have e4:(k == 4)=false:=zG.2 (by omega)
  have e5:(k == 5)=false:=zG.2 (by omega)
  have e6:(k == 6)=false:=zG.2 (by omega)
  have e7:(k == 7)=false:=zG.2 (by omega)
  have e8:(k == 8)=false:=zG.2 (by omega)
  have e9:(k == 9)=false:=zG.2 (by omega)
  have e10:(k == 10)=false:=zG.2 (by omega)
  have e11:(k == 11)=false:=zG.2 (by omega)
  have e12:(k == 12)=false:=zG.2 (by omega)
  have e13:(k == 13)=false:=zG.2 (by omega)
  have e14:(k == 14)=false:=zG.2 (by omega)
  have e15:(k == 15)=false:=zG.2 (by omega)
  have e16:(k == 16)=false:=zG.2 (by omega)
  have e17:(k == 17)=false:=zG.2 (by omega)
  have e18:(k == 18)=false:=zG.2 (by omega)
  clear hk h9
  go_enter Tryz.func178,Tryz.ntmps178
  go_wp2
  go_ret2
  exact⟨rfl,hB _ _⟩
end Go.Proofs.YtjbgpcileapogaaGreat
