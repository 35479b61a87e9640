/-
  Who looks at no call has none to say: where no operation comes to its own call, no value is a call, ever.
-/
import Derived.Test.YtbjgjjkgfnfejaaGreatDoorStepT
namespace Go.Proofs.YtbjgjjkgfnfejaaGreatDoor
open Go.RowKit
def ZS (l:yH):Prop:=∀v∈l,v.1≠2
def ZR (h:Hp):Prop:=(∀c∈h.ze,ZS c.zh/\ZS c.zf)/\ZS h.zm
theorem ZS.nil:ZS []:=fun _ h=>by cases h
theorem ZS.app {a b:yH} (ha:ZS a) (hb:ZS b):ZS (a ++ b):=fun v hv=>by
 rcases List.mem_append.1 hv with h | h
 ·exact ha v h
 ·exact hb v h
theorem ZS.one {v:Int × Int} (h:v.1≠2):ZS [v]:=fun u hu=>by
 obtain rfl:u=v:=by simpa using hu
 exact h
theorem ZS.getD {l:yH} (h:ZS l) (k:Nat):(l.getD k (0,0)).1≠2:=by
 by_cases hk:k<l.length
 ·rw[show l.getD k (0,0)=l[k] by simp[hk]]
  exact h _ (List.getElem_mem hk)
 ·rw[show l.getD k (0,0)=(0,0) by simp[Nat.le_of_not_lt hk]]
  decide
theorem ZS.drop {l:yH} (h:ZS l) (k:Nat):ZS (l.drop k):=fun v hv=>h v (List.mem_of_mem_drop hv)
theorem ZS.take {l:yH} (h:ZS l) (k:Nat):ZS (l.take k):=fun v hv=>h v (List.mem_of_mem_take hv)
theorem ZS.set {l:yH} (h:ZS l) (k:Nat) {v:Int × Int} (hv:v.1≠2):ZS (l.set k v):=fun u hu=>by
 rcases List.mem_or_eq_of_mem_set hu with h' | rfl
 ·exact h u h'
 ·exact hv
theorem ZR.cur {h:Hp} (n:ZR h):ZS (qm h).zh/\ZS (qm h).zf:=by
 unfold qm
 by_cases hk:h.now.toNat<h.ze.length
 ·rw[show h.ze.getD h.now.toNat Cl.none=h.ze[h.now.toNat] by simp[hk]]
  exact n.1 _ (List.getElem_mem hk)
 ·rw[show h.ze.getD h.now.toNat Cl.none=Cl.none by simp[Nat.le_of_not_lt hk]]
  exact⟨ZS.nil,ZS.nil⟩
theorem ZR.set {h:Hp} (n:ZR h) {c:Cl} (ht:ZS c.zh) (hs:ZS c.zf):ZR (setH h c):=⟨fun u hu=>by
 rcases List.mem_or_eq_of_mem_set hu with h' | rfl
 ·exact n.1 u h'
 ·exact⟨ht,hs⟩,n.2⟩
theorem ZR.push {h:Hp} (n:ZR h) {v:Int × Int} (hv:v.1≠2):ZR (qK h v):=n.set n.cur.1 (n.cur.2.app (ZS.one hv))
theorem ZR.leave {h:Hp} (n:ZR h):ZR (yo h):=n.set (c:=u9 (qm h)) n.cur.1 ZS.nil
theorem ZR.code {h:Hp} (n:ZR h) (k:Int):ZR (Zf h k):=n
theorem ZR.say {h:Hp} (n:ZR h) {v:Int × Int} (hv:v.1≠2):ZR (YV h v):=⟨n.1,n.2.app (ZS.one (by rw[show Up h v=v from if_neg hv];exact hv))⟩
theorem ZR.call {h:Hp} (n:ZR h) (ms:Ms) (m:Int) {args:yH} (ha:ZS args):ZR (Yf ms h m args):=by
 unfold Yf
 split
 ·exact n
 ·refine⟨fun c hc=>?_,n.2⟩
  rcases List.mem_append.1 hc with h' | h'
  ·exact n.1 c h'
  ·obtain rfl:=List.mem_singleton.1 h'
   refine⟨ha.app fun v hv=>?_,ZS.nil⟩
   rw[(List.mem_replicate.1 hv).2]
   decide
theorem zgL (b:Bool):(J2 b).1≠2:=by unfold J2;simp
theorem j7 {c:Prop} [Decidable c] {a b:Hp} (ha:c->ZR a) (hb:¬c->ZR b):ZR (if c then a else b):=by
 by_cases h:c
 ·rw[if_pos h];exact ha h
 ·rw[if_neg h];exact hb h
theorem ZR.do {h:Hp} (n:ZR h) (ms:Ms) {k a:Int} {args:yH} (ha:ZS args) (hk:k≠11) (ho:qZ k args=true):ZR (doH ms h k a args):=by
 have hx:=ha.getD 0
 have hy:=ha.getD 1
 have ze5:¬(k=12\/k=13\/k=14\/k=15\/k=17\/k=18):=fun q=>by
  unfold qZ at ho
  rw[if_neg (by omega),if_pos q] at ho
  exact hx (by simpa using ho)
 have one:∀z:Int,((1:Int),z).1≠2:=fun _=>by simp
 have hret:ZR (zcC h (args.getD 0 (0,0))):=j7 (fun _=>(n.leave.say hx).code 1) fun _=>n.leave.push hx
 unfold doH
 exact j7 (fun _=>n.push (one _)) fun _=>j7 (fun _=>n.push (one _)) fun _=>j7 (fun _=>n.push (zgL _)) fun _=>j7 (fun _=>n.push (n.cur.1.getD _)) fun _ =>
  j7 (fun _=>n.set (n.cur.1.set _ hx) n.cur.2) fun _=>j7 (fun _=>n.set n.cur.1 n.cur.2) fun _=>j7 (fun _=>j7 (fun _=>n.set n.cur.1 n.cur.2) fun _=>n) fun _ =>
  j7 (fun _=>n.call ms a ha) fun _=>j7 (fun _=>hret) fun _=>j7 (fun e=>absurd e hk) fun _=>j7 (fun e=>absurd (by omega) ze5) fun _ =>
  j7 (fun e=>absurd (by omega) ze5) fun _=>j7 (fun e=>absurd (by omega) ze5) fun _=>j7 (fun _=>n.say hx) fun _=>n
def XQ (ms:Ms):Prop:=∀m∈ms,∀op∈m.2.2,op.1≠11
theorem zgf {ms:Ms} (hn:XQ ms) (c:Cl):(xZ ms c).1≠11:=by
 unfold xZ
 by_cases hm:c.m.toNat<ms.length
 ·rw[show ms.getD c.m.toNat (0,0,[])=ms[c.m.toNat] by simp[hm]]
  by_cases hp:c.pc.toNat<ms[c.m.toNat].2.2.length
  ·rw[show ms[c.m.toNat].2.2.getD c.pc.toNat (0,0)=ms[c.m.toNat].2.2[c.pc.toNat] by simp[hp]]
   exact hn _ (List.getElem_mem hm) _ (List.getElem_mem hp)
  ·rw[show ms[c.m.toNat].2.2.getD c.pc.toNat (0,0)=(0,0) by simp[Nat.le_of_not_lt hp]]
   decide
 ·rw[show ms.getD c.m.toNat (0,0,[])=(0,0,[]) by simp[Nat.le_of_not_lt hm]]
  simp
theorem ZR.step {ms:Ms} {h:Hp} (n:ZR h) (hn:XQ ms):ZR (xU ms h):=by
 unfold xU
 refine j7 (fun _=>n) fun _=>j7 (fun _=>n) fun _=>j7 (fun _=>n) fun h3=>?_
 exact ZR.do (ZR.set n (c:={qm h with zf:=(qm h).zf.take _,pc:=(qm h).pc+1}) n.cur.1 (n.cur.2.take _)) ms (n.cur.2.drop _) (zgf hn _) (by simpa using h3)
theorem ZR.run {ms:Ms} (hn:XQ ms):∀(k:Nat) {h:Hp},ZR h->ZR (qi ms k h)
 | 0,_,n=>n
 | k+1,h,n=>by
  unfold qi
  split
  ·exact ZR.run hn k (n.step hn)
  ·exact n
theorem Good.few {ms:Ms} {h:Hp} (g:Good ms h):∀v∈h.zm,Few v:=by
 intro v hv
 have hp:=g.head.p
 have h1:=List.all_eq_true.1 g.head.zm v hv
 unfold yn at hp
 simp only[Bool.and_eq_true,zx] at hp
 have hm:=hp.1.1
 unfold qW at h1
 unfold Few
 split at h1
 ·have:=beq_iff_eq.1 h1
  omega
 ·split at h1
  ·rw[zx] at h1;omega
  ·split at h1
   ·rw[zx] at h1;omega
   ·cases h1
end Go.Proofs.YtbjgjjkgfnfejaaGreatDoor
