/-
  What draws: the reader l6Rd and its pick. pick answers a number from 0 to n-1 and moves the reader on by one; nothing else that was there turns.
-/
import Derived.Test.YtbjgjjkgfnfejaaGreatDoorRFV
import Derived.BigQuiet
namespace Go.Proofs.YtbjgjjkgfnfejaaGreatDoor
open Go.RowKit
structure Rd (w:World) (b:Nat) (a:Option Addr) (len cap p:Nat):Prop where
 s:w.cell? (zH b 0)=some (.slice a len cap)
 p:w.cell? (zH b 1)=some (zI p)
 f:w.frozen? (zH b 1)=false
 l:len<=2000
 c:∀i,i<len->∃b' o x,a=some ⟨b',o,none⟩/\b'≠b/\w.cell? (zH b' (o+i))=some (.int .u8 x)/\0<=x/\x<=255
theorem Rd.next {w:World} {b:Nat} {a:Option Addr} {len cap p q:Nat} (h:Rd w b a len cap p):Rd (w.setCell (zH b 1) (zI q)) b a len cap q:=by
 have h1:=h.p
 refine⟨?_,?_,?_,h.l,fun i hi=>?_⟩
 ·rw[World.cell?_setCell_other _ _ _ _ (fun e=>by have:=congrArg Addr.off e;simp at this)];exact h.s
 ·exact World.cell?_setCell_same _ _ _ h1
 ·rw[World.frozen?_setCell];exact h.f
 ·obtain⟨b',o,x,ha,hb,hc,hx⟩:=h.c i hi
  exact⟨b',o,x,ha,hb,by rw[World.cell?_setCell_other _ _ _ _ (fun e=>by have:=congrArg Addr.block e;simp at this;exact hb this.symm)];exact hc,hx⟩
theorem Rd.drewN {w:World} {b:Nat} {a:Option Addr} {len cap p:Nat} (h:Rd w b a len cap p) (n:Nat):Rd (w.drewN n) b a len cap p:=⟨h.s,h.p,h.f,h.l,h.c⟩
theorem Qs (w:World) (b:Nat) (v:Value):w.grownBy (w.setCell (zH b 1) v) (some b) :=
 ⟨rfl,rfl,rfl,by simp[World.setCell],fun k _ hk=>Below.heap_setCell _ _ _ _ (fun e=>hk (by rw[e]))⟩
theorem zU {w w1 w2:World} {b:Nat} (h:w.grownBy w1 (some b)) (k:w1.grownBy w2 (some b)):w.grownBy w2 (some b) :=
 ⟨k.os.trans h.os,k.tape.trans h.tape,k.output.trans h.output,Nat.le_trans h.size k.size,fun i hi hn=>(k.block i (Nat.lt_of_lt_of_le hi h.size) hn).trans (h.block i hi hn)⟩
theorem ky {w w1:World} {b:Option Nat} (h:w.grownBy w1 b) (n:Nat):w.grownBy (w1.drewN n) b:=⟨h.os,h.tape,h.output,h.size,h.block⟩
theorem ze1 (a b:Nat) (ha:a<1099511627776) (hb:b<1099511627776):bits .xor .i64 (a:Int) (b:Int)=((a ^^^ b:Nat):Int):=by
 have hx:a ^^^ b<2 ^ 40:=Nat.xor_lt_two_pow (by omega) (by omega)
 have h1:(BitVec.ofInt 64 (a:Int)).toNat=a:=by
  rw[BitVec.ofInt_natCast,BitVec.toNat_ofNat];exact Nat.mod_eq_of_lt (by omega)
 have h2:(BitVec.ofInt 64 (b:Int)).toNat=b:=by
  rw[BitVec.ofInt_natCast,BitVec.toNat_ofNat];exact Nat.mod_eq_of_lt (by omega)
 show IntKind.i64.wrap ((BitVec.ofInt 64 (a:Int) ^^^ BitVec.ofInt 64 (b:Int)).toNat:Int)=_
 rw[BitVec.toNat_xor,h1,h2,IntKind.wrap_i64]
 omega
theorem zbV {x:Int} (h0:0<=x) (h1:x<1099511627776):0<=bits .xor .i64 x (x / 64):=by
 obtain⟨a,rfl⟩:=Int.eq_ofNat_of_zero_le h0
 obtain⟨b,hb⟩:=Int.eq_ofNat_of_zero_le (show 0<=(a:Int) / 64 by omega)
 rw[hb,ze1 a b (by omega) (by omega)]
 omega
theorem zfs {x n:Int} (h0:0<=x) (hn:1<=n):0<=x.tmod n/\x.tmod n<n:=by
 rw[Int.tmod_eq_emod_of_nonneg h0]
 exact⟨Int.emod_nonneg _ (by omega),Int.emod_lt_of_pos _ (by omega)⟩
set_option maxHeartbeats 1000000 in
theorem KE (w:World) (b:Nat) (a:Option Addr) (len cap p:Nat) (n:Int) (hr:Rd w b a len cap p) (hp:p<=1000000) (h1:1<=n) (h2:n<=1000000) :
 Calls Tryz.prog 79 #[zJ b 0,zI n] w fun e w'=>∃(x:Int) (m:Nat),e=.returned (zI x)/\0<=x/\x<n/\w'=(w.setCell (zH b 1) (zI ((p:Int)+1))).drewN m:=by
 have hl:=hr.l
 have hs:=hr.s
 have hpc:=hr.p
 have hf:=hr.f
 have hN:∀v,(w.setCell (zH b 1) v).cell? (zH b 0)=some (.slice a len cap):=fun v=>by
  rw[World.cell?_setCell_other _ _ _ _ (fun e=>by have:=congrArg Addr.off e;simp at this)];exact hs
 by_cases hz:len=0
 ·subst hz
  go_enter Tryz.func79,Tryz.ntmps79
  go_wp2
  go_ret
  exact⟨0,0,rfl,by omega,by omega,rfl⟩
 ·have hz':((len:Int) == 0)=false:=by rw[zG];omega
  by_cases hpl:p<len
  ·obtain⟨b',o,x,rfl,hb',hc,Qi,Z5⟩:=hr.c p hpl
   have hpz:(p:Int)<(len:Int):=by omega
   have hC:∀v,(w.setCell (zH b 1) v).cell? (zH b' (o+p))=some (.int .u8 x):=fun v=>by
    rw[World.cell?_setCell_other _ _ _ _ (fun e=>by have:=congrArg Addr.block e;simp at this;exact hb' this.symm)];exact hc
   clear hc
   clear hr
   go_enter Tryz.func79,Tryz.ntmps79
   go_wp2
   go_ret
   exact⟨_,0,rfl,Int.emod_nonneg _ (by omega),Int.emod_lt_of_pos _ (by omega),rfl⟩
  ·have hlp:0<len:=by omega
   obtain⟨i1,hi1,hi1l⟩:∃i1:Nat,(p:Int) % (len:Int)=(i1:Int)/\i1<len:=⟨p % len,by omega,Nat.mod_lt _ hlp⟩
   obtain⟨i2,K3,hi2l⟩:∃i2:Nat,((p:Int) * 7+3) % (len:Int)=(i2:Int)/\i2<len:=⟨(p * 7+3) % len,by rw[show(p:Int) * 7+3=((p * 7+3:Nat):Int) by omega];exact(Int.natCast_emod _ _).symm,Nat.mod_lt _ hlp⟩
   obtain⟨b',o,x1,rfl,hb',hc1,Z5,hx1'⟩:=hr.c i1 hi1l
   obtain⟨b2,o2,x2,Xw,yL,hc2,wk,hx2'⟩:=hr.c i2 hi2l
   obtain⟨rfl,rfl⟩:b'=b2/\o=o2:=by simpa using Xw
   have hC1:∀v,(w.setCell (zH b 1) v).cell? (zH b' (o+i1))=some (.int .u8 x1):=fun v=>by
    rw[World.cell?_setCell_other _ _ _ _ (fun e=>by have:=congrArg Addr.block e;simp at this;exact hb' this.symm)];exact hc1
   have hC2:∀v,(w.setCell (zH b 1) v).cell? (zH b' (o+i2))=some (.int .u8 x2):=fun v=>by
    rw[World.cell?_setCell_other _ _ _ _ (fun e=>by have:=congrArg Addr.block e;simp at this;exact hb' this.symm)];exact hc2
   have hi1z:(i1:Int)<len:=by omega
   have hi2z:(i2:Int)<len:=by omega
   have hq0:0<=(p:Int) / len:=Int.ediv_nonneg (by omega) (by omega)
   have hq1:(p:Int) / len<=p:=Int.ediv_le_self _ (by omega)
   have hpz:¬(p:Int)<(len:Int):=by omega
   clear hr hc1 hc2 Xw
   go_enter Tryz.func79,Tryz.ntmps79
   go_wp2
   go_quiet (fail)
   go_wp2
   go_ret
   have hX:=zfs (n:=n) (zbV (x:=x1 * 131+x2 * 1117 + ↑p * 29 + ↑p / ↑len * 53) (by omega) (by omega)) h1
   exact⟨_,_,rfl,hX.1,hX.2,rfl⟩
theorem qe (w:World) (b:Nat) (a:Option Addr) (len cap p:Nat) (n:Int) (hr:Rd w b a len cap p) (hp:p<=1000000) (h1:1<=n) (h2:n<=1000000) :
 Calls Tryz.prog 79 #[zJ b 0,zI n] w fun e w'=>∃x:Int,e=.returned (zI x)/\0<=x/\x<n/\Rd w' b a len cap (p+1)/\w.grownBy w' (some b):=by
 refine(KE w b a len cap p n hr hp h1 h2).mono ?_
 rintro e w' ⟨x,m,rfl,Qi,Z5,rfl⟩
 exact⟨x,rfl,Qi,Z5,(hr.next (q:=p+1)).drewN m,ky (Qs _ _ _) m⟩
end Go.Proofs.YtbjgjjkgfnfejaaGreatDoor
