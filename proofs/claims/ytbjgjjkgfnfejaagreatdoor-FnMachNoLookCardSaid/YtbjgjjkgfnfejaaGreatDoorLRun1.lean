/-
  The program's heap at work: an operation is done, whichever it is.
-/
import Derived.Test.YtbjgjjkgfnfejaaGreatDoorPgBack
import Derived.Test.YtbjgjjkgfnfejaaGreatDoorLStep4
namespace Go.Proofs.YtbjgjjkgfnfejaaGreatDoor
set_option maxRecDepth 100000
open Go.RowKit
variable {B:Nat} {w w':World} {bl br:Nat} {vp j9 qa:Value} {C D:Nat->Nat} {T:Nat->Value × Value} {h h':Hp}
theorem Vb {k:Int} (h:1<=k/\k<=18):k=1\/k=2\/k=3\/k=4\/k=5\/k=6\/k=7\/k=8\/k=9\/k=10\/k=11\/k=12\/k=13\/k=14\/k=15\/k=16\/k=17\/k=18:=by omega
theorem XD {n a:Int} (h:qW n 1 a=true):0<=a/\a<=999:=by
 unfold qW at h
 rw[if_neg (by decide),if_pos rfl,zx] at h
 exact h
theorem zcR {n a:Int} (h:qW n 0 a=true):a=0:=by
 unfold qW at h
 rw[if_pos rfl,beq_iff_eq] at h
 exact h
theorem kI.len {ms:Ms} {j:Nat} {k a:Int} {args:yH} (d:kI ms h j k a args) (h9:k≠9):(args.length:Int)=tk k:=by
 have:=d.takes
 rw[jC h9] at this
 exact this
theorem kI.temp {ms:Ms} {j:Nat} {k a:Int} {args:yH} (d:kI ms h j k a args) (hk:k=2\/k=3):0<=a/\a<((h.ze[j]'d.lt).zh.length:Int):=by
 obtain⟨m,hm,hcm,hop⟩:=d.op
 unfold jm at hop
 rw[if_neg (by omega),if_pos hk,zx] at hop
 have ht:=(d.g.cl j d.lt).t
 rw[hcm,Int.toNat_natCast,xo hm] at ht
 omega
theorem kI.peek {ms:Ms} {j:Nat} {k a:Int} {args:yH} (d:kI ms h j k a args) (hk:k=13\/k=14):0<=a:=by
 obtain⟨m,hm,hcm,hop⟩:=d.op
 unfold jm at hop
 rw[if_neg (by omega),if_neg (by omega),if_neg (by omega),if_neg (by omega),if_pos hk,zx] at hop
 omega
theorem kI.meth {ms:Ms} {j:Nat} {a:Int} {args:yH} (d:kI ms h j 9 a args):0<=a/\a<(ms.length:Int):=by
 obtain⟨m,hm,hcm,hop⟩:=d.op
 unfold jm at hop
 rw[if_neg (by decide),if_neg (by decide),if_neg (by decide),if_pos rfl,zx] at hop
 omega
theorem kI.backs {ms:Ms} {j:Nat} {a:Int} {args:yH} (d:kI ms h j 15 a args) {i:Nat} (hi:i<h.ze.length) (hd:h.ze[i].zy=false):(∃l,xj h.ze h.now l/\i∈l/\l.length<=h.ze.length)/\(qo h.ze.length h i).now=(i:Int)/\(qo h.ze.length h i).ze.length=h.ze.length/\∀hb:i<(qo h.ze.length h i).ze.length,(qo h.ze.length h i).ze[i].zf.length<=1000:=by
 obtain⟨l,hw⟩:=d.g.w
 have hbl:i∈l:=hw.all _ hi hd
 have h6:∀hb:i<h.ze.length,h.ze[i].zf.length<6:=fun hb=>by
  have hw2:=hw
  rw[d.now] at hw2
  obtain⟨_,t,rfl,_⟩:=hw2.head
  rcases List.mem_cons.1 hbl with q | q
  ·have:=d.free (by rw[jC (by decide)];rfl)
   simp only[q]
   exact this
  ·exact hw.room _ (by simpa using q) hb
 obtain⟨r1,_,r3,r4,r5⟩:=Good.back h.ze.length h _ l d.g d.code hw hbl hw.len h6
 exact⟨⟨l,hw,hbl,hw.len⟩,r3,r4,fun hb=>by have:=(r5 hb).1;omega⟩
variable {B:Nat} {w w':World} {bl br:Nat} {vp j9 qa:Value} {C D:Nat->Nat} {T:Nat->Value × Value} {h h':Hp}
theorem zbp (sa:Option Addr) (L sc:Nat):sliced sa 0 L sc 2=.slice sa L sc:=by
 unfold sliced
 cases sa with
 | none=>simp
 | some a=>by_cases e:sc=0 <;> simp[e,Addr.add]
theorem zaI {kk:Int} (hk:1<=kk/\kk<=18) {v:Value} (hv:Zh[kk.toNat]?=some v) (W:World):(Instr.index 194 (.agg Zh.toArray) (zI kk)).run Tryz.prog W=.ok v W:=by
 rcases Vb hk with rfl | rfl | rfl | rfl | rfl | rfl | rfl | rfl | rfl | rfl | rfl | rfl | rfl | rfl | rfl | rfl | rfl | rfl
 all_goals
  obtain rfl:_=v:=Option.some.inj hv
  kernel_rfl
theorem zau {kk:Int} (hk:1<=kk/\kk<=18) {K:Nat} (hv:Zh[kk.toNat]?=some (.func (.func K) #[] #[])) (args:Array Value) (W:World):(callFunc K args).run Tryz.prog W=.ok (.enter K args) W:=by
 rcases Vb hk with rfl | rfl | rfl | rfl | rfl | rfl | rfl | rfl | rfl | rfl | rfl | rfl | rfl | rfl | rfl | rfl | rfl | rfl
 ·have e:=Option.some.inj hv
  injection e with e1
  injection e1 with e2
  subst e2
  exact Tryz.call146 args W
 ·have e:=Option.some.inj hv
  injection e with e1
  injection e1 with e2
  subst e2
  exact Tryz.call147 args W
 ·have e:=Option.some.inj hv
  injection e with e1
  injection e1 with e2
  subst e2
  exact Tryz.call148 args W
 ·have e:=Option.some.inj hv
  injection e with e1
  injection e1 with e2
  subst e2
  exact Tryz.call149 args W
 ·have e:=Option.some.inj hv
  injection e with e1
  injection e1 with e2
  subst e2
  exact Tryz.call150 args W
 ·have e:=Option.some.inj hv
  injection e with e1
  injection e1 with e2
  subst e2
  exact Tryz.call151 args W
 ·have e:=Option.some.inj hv
  injection e with e1
  injection e1 with e2
  subst e2
  exact Tryz.call152 args W
 ·have e:=Option.some.inj hv
  injection e with e1
  injection e1 with e2
  subst e2
  exact Tryz.call153 args W
 ·have e:=Option.some.inj hv
  injection e with e1
  injection e1 with e2
  subst e2
  exact Tryz.call154 args W
 ·have e:=Option.some.inj hv
  injection e with e1
  injection e1 with e2
  subst e2
  exact Tryz.call155 args W
 ·have e:=Option.some.inj hv
  injection e with e1
  injection e1 with e2
  subst e2
  exact Tryz.call156 args W
 ·have e:=Option.some.inj hv
  injection e with e1
  injection e1 with e2
  subst e2
  exact Tryz.call157 args W
 ·have e:=Option.some.inj hv
  injection e with e1
  injection e1 with e2
  subst e2
  exact Tryz.call158 args W
 ·have e:=Option.some.inj hv
  injection e with e1
  injection e1 with e2
  subst e2
  exact Tryz.call159 args W
 ·have e:=Option.some.inj hv
  injection e with e1
  injection e1 with e2
  subst e2
  exact Tryz.call160 args W
 ·have e:=Option.some.inj hv
  injection e with e1
  injection e1 with e2
  subst e2
  exact Tryz.call161 args W
 ·have e:=Option.some.inj hv
  injection e with e1
  injection e1 with e2
  subst e2
  exact Tryz.call162 args W
 ·have e:=Option.some.inj hv
  injection e with e1
  injection e1 with e2
  subst e2
  exact Tryz.call163 args W
theorem Tk.new {P:Nat->Prop} {v:Value} {args:yH} {b:Nat} (hr:zl b w v args) (hP:∀g,P g->g<b):Tk P w v args :=
 ⟨hr.at,fun g e=>⟨(hr.lt g e).2,fun hg=>by have:=(hr.lt g e).1;have:=hP g hg;omega⟩⟩
def JZ (B:Nat) (w:World) (vp:Value) (ms:Ms):Prop:=∃w0:World,w0.heap.size=B/\Below B w0 w/\yD w0 vp ms/\TabAt w0
theorem JZ.meths {ms:Ms} (e:JZ B w vp ms):yD w vp ms:=by
 obtain⟨w0,rfl,hb,hM,_⟩:=e
 exact hM.below hb
theorem JZ.tab {ms:Ms} (e:JZ B w vp ms):TabAt w:=by
 obtain⟨w0,rfl,hb,_,hT⟩:=e
 exact hT.below hb
theorem JZ.go {ms:Ms} (e:JZ B w vp ms) (h:Below B w w'):JZ B w' vp ms:=by
 obtain⟨w0,hz,hb,hM,hT⟩:=e
 exact⟨w0,hz,hb.trans h,hM,hT⟩
variable {B:Nat} {w w':World} {bl br:Nat} {vp j9 qa:Value} {C D:Nat->Nat} {T:Nat->Value × Value} {h h':Hp}
variable {B:Nat} {w w':World} {bl br:Nat} {vp j9 qa:Value} {C D:Nat->Nat} {T:Nat->Value × Value} {h h':Hp}
end Go.Proofs.YtbjgjjkgfnfejaaGreatDoor
