/-
  The comparisons that the exact laws make of values, calls and heaps: eqVal, eqValS, eqCall, eqCallS, eqHeap answer true where both hold the same; they write to nothing that was there.
-/
import Derived.Test.YtbjgjjkgfnfejaaGreatDoorRFV
import Derived.Deep.RegionWith
namespace Go.Proofs.YtbjgjjkgfnfejaaGreatDoor
open Go.RowKit
def ZO (vt vs:Value) (c:Cl):Array Value:=#[zI c.m,zI c.pc,vt,vs,zI c.zi,.bool c.zv]
theorem zcc {x y:Bool} (h:x=y):Ending.returned (.bool x)=.returned (.bool y):=by rw[h]
set_option maxHeartbeats 1000000 in
theorem zbt (v v':Value) (ops ops':yH) (w:World) (h:yo w v ops) (h':yo w v' ops') :
 Calls Tryz.prog 21 #[v,v'] w fun e w'=>e=.returned (.bool (decide (ops=ops')))/\zO w w':=by
 obtain⟨a,cap,rfl,hl,hc⟩:=h
 obtain⟨a',cap',rfl,hl',hc'⟩:=h'
 unfold maxLen at hl hl'
 by_cases hn:ops.length=ops'.length
 ·have HN:Hid (ops.length=ops'.length):=hn
  rw[<-hn] at hl' ⊢
  have HC':Hid (∀i,(h:i<ops'.length)->∃b o,a'=some ⟨b,o,none⟩/\w.cell? (zH b (o+i * 2))=some (zI ops'[i].1)/\w.cell? (zH b (o+i * 2+1))=some (zI ops'[i].2)):=hc'
  clear hn hc'
  go_enter Tryz.func21,Tryz.ntmps21
  go_wp2
  go_loopg [5] ops.length (fun g i wr=>∃k:Nat,k<=ops.length/\g=ops.length - k/\i=zI k/\zO w wr/\Hid (∀j,(hj:j<ops.length)->(hj':j<ops'.length)->j<k->ops[j]=ops'[j]))
  case atStart=>exact⟨0,Nat.zero_le _,rfl,rfl,zS,fun j _ _ h=>absurd h yB⟩
  case round =>
   obtain⟨k,hk,rfl,rfl,hb,HA⟩:=hrel
   by_cases yz:k<ops.length
   ·have hlt':k<ops'.length:=by have:=HN.out;omega
    obtain⟨b,o,rfl,c0,c1⟩:=hc k yz
    obtain⟨b',o',rfl,c0',c1'⟩:=HC'.out k hlt'
    have d0:=zc hb c0
    have d1:=zc hb c1
    have d0':=zc hb c0'
    have d1':=zc hb c1'
    clear c0 c1 c0' c1' hc HC'
    have uW:(k:Int)<(ops.length:Int):=by omega
    have HNE:Hid (ops[k]≠ops'[k]->decide (ops=ops')=false):=fun e=>by
     rw[decide_eq_false_iff_not]
     intro h
     subst h
     exact e rfl
    have HQ:Hid (ops[k]=ops'[k]->∀j,(hj:j<ops.length)->(hj':j<ops'.length)->j<k+1->ops[j]=ops'[j]):=fun e j hj hj' hjk=>by
     by_cases h:j=k
     ·subst h;exact e
     ·exact HA.out j hj hj' (by omega)
    clear HA
    generalize ops[k]=u1 at *
    generalize ops'[k]=u2 at *
    obtain⟨k1,a1⟩:=u1
    obtain⟨k2,a2⟩:=u2
    simp only at d0 d1 d0' d1'
    by_cases hk12:k1=k2/\a1=a2
    ·obtain⟨rfl,rfl⟩:=hk12
     have HR:=HQ.out rfl
     have HR':Hid (∀j,(hj:j<ops.length)->(hj':j<ops'.length)->j<k+1->ops[j]=ops'[j]):=HR
     clear HR HQ HNE
     go_wp2_with fail
     go_region_with (fail)
     all_goals
      have yL:zO w wr.drew:=hb.drew
      clear hb d0 d1 d0' d1'
      go_wp2
      go_roundg (ops.length - (k+1))
      case measure=>omega
      case rel=>exact⟨k+1,by omega,rfl,by go_num,yL,HR'⟩
    ·have HE:Hid (decide (ops=ops')=false):=HNE.out (fun e=>hk12 (by cases e;exact⟨rfl,rfl⟩))
     have hkb:(k1 == k2 && a1 == a2)=false:=by
      cases h:(k1 == k2 && a1 == a2)
      ·rfl
      ·rw[Bool.and_eq_true,beq_iff_eq,beq_iff_eq] at h
       exact absurd h hk12
     clear HQ HNE hk12
     cases hkk:(k1 == k2)
     ·clear hkb
      go_wp2_with fail
      go_region_with (fail)
      all_goals
       go_wp2
       go_ret
       exact⟨zcc HE.out.symm,hb.drew⟩
     ·have haa:(a1 == a2)=false:=by rw[hkk] at hkb;simpa using hkb
      clear hkb
      go_wp2_with fail
      go_region_with (fail)
      all_goals
       go_wp2
       go_ret
       exact⟨zcc HE.out.symm,hb.drew⟩
   ·clear hc HC'
    obtain rfl:k=ops.length:=by omega
    go_wp2
    go_ret
    refine⟨zcc (decide_eq_true ?_).symm,hb⟩
    exact List.ext_getElem HN.out fun i h1 h2=>HA.out i h1 h2 h1
 ·have hz:(ops.length:Int)≠(ops'.length:Int):=by omega
  have HE:Hid (decide (ops=ops')=false):=by
   show _=_
   rw[decide_eq_false_iff_not]
   intro e
   exact hn (by rw[e])
  go_enter Tryz.func21,Tryz.ntmps21
  go_wp2
  go_ret
  exact⟨zcc HE.out.symm,zS⟩
end Go.Proofs.YtbjgjjkgfnfejaaGreatDoor
