/-
  From what the statement reads to what the walks ask: an argument that reads as bytes lies in memory as bytes.
-/
import Derived.Test.YtbjgjjkgfnfejaaGreatDoorDraw11
import Derived.Test.YtbjgjjkgfnfejaaGreatDoorOpen
namespace Go.Proofs.YtbjgjjkgfnfejaaGreatDoor
open Go.ChangeShapes Go.WideShapes Go.Deep
section
variable {H:Type} {enc:TypeId × Value->H} {P:Program} {w:World} {base:Nat} {spare:Nat->Bool} {held:Bool}
theorem J2 {t e:TypeId} {fuel:Nat} {v:Value} {x:DataW H × List MemPlace} (ht:P.underlying t=some (.slice e)) (he:P.underlying e=some (.int .u8)) (ce:P.cellsOf e=1)
 (h:DataW.trod enc P w base spare held fuel t [v]=some x):∃a len cap,v=.slice a len cap/\BytesAt w a len cap:=by
 rcases open_slice ht h with⟨hcs,_⟩ | ⟨a,len,cap,m,n,D,Pl,hcs,_,hl,hm,hmm,_,hx⟩
 ·exact⟨none,0,0,by simpa using hcs,Nat.le_refl _,Nat.zero_le _,fun i hi=>absurd hi yB⟩
 ·have hlm:len<=m:=by rw[hmm];split <;> omega
  refine⟨some a,len,cap,by simpa using hcs,hl,hm,?_⟩
  have each:∀i,i<len->∃y:Int,w.cell? (a.add i)=some (.int .u8 y)/\0<=y/\y<=255:=by
   intro i hi
   obtain⟨cs',h1,h2⟩:=hx i (by omega)
   rw[ce] at h1
   obtain⟨_,hlen,hcell⟩:=World.cells?_some h1
   obtain⟨y,rfl,_,hwf⟩:=DataW.trod_int he h2
   have q0:=hcell 0 (by omega)
   rw[add_add] at q0
   have hr:0<=y/\y<=255:=by
    have h2:(decide (IntKind.u8.min<=y) && decide (y<=IntKind.u8.max))=true:=hwf
    rw[Bool.and_eq_true] at h2
    exact⟨of_decide_eq_true h2.1,of_decide_eq_true h2.2⟩
   exact⟨y,by simpa using q0,hr.1,hr.2⟩
  intro i hi
  obtain⟨y,hy,Vj,K4⟩:=each i hi
  obtain⟨y',hy',_⟩:=each 0 (by omega)
  obtain⟨b,o,rfl⟩:=zem hy'
  rw[add_plain] at hy
  exact⟨b,o,y,rfl,hy,Vj,K4⟩
end
end Go.Proofs.YtbjgjjkgfnfejaaGreatDoor
