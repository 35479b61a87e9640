/-
  A region that draws its order, whose operations read what was there and whose callees add memory alone: walked once, in the order of the text (the class of worlds: all that were added to).
-/
import Derived.Test.YtbjgjjkgfnfejaaGreatDoorRFV
import Derived.Deep.QuietTactic
namespace Go.Proofs.YtbjgjjkgfnfejaaGreatDoor
open Go.RowKit
def Gr (W w:World):Prop:=zO W w
theorem Gr.drew {W w:World} (h:Gr W w):Gr W w.drew:=Below.drew h
theorem Gr.refl (W:World):Gr W W:=Below.refl _ _
theorem Gr.cell {W:World} {p:Addr} {v:Value} (h:W.cell? p=some v):∀w,Gr W w->w.cell? p=some v:=fun _ hw=>zc hw h
theorem Gr.to {W w:World} (h:Gr W w):zO W w:=h
structure WQ (P:Program) (ops:Array Oper) (C:World->Prop) (Q:Act->Prop) (l:List Oper) (a:Act):Prop where
 out:wpQuiet P ops C Q l a
theorem WQ.nil {P:Program} {ops:Array Oper} {C:World->Prop} {Q:Act->Prop} {a:Act} (h:Q a):WQ P ops C Q [] a:=⟨wpQuiet_nil h⟩
theorem WQ.step {P:Program} {ops:Array Oper} {C:World->Prop} {Q:Act->Prop} {a:Act} {o:Oper} {rest:List Oper}
 (h:∀K:Act->Prop,(∀a,WQ P ops C Q rest a->K a)->if Region.wanted o (yielded ops a.tmps)=true then o.quiet P a C K else K (a.put o.dst undef)):WQ P ops C Q (o :: rest) a :=
 ⟨wpQuiet_step fun K hK=>h K fun a ha=>hK a ha.out⟩
theorem WQ.region {P:Program} {W:World} {id:Nat} {Q:Exit->Act->World->Prop} {a:Act} {l:List Oper} (hm:P.follows .mixedOrders=true) (hB:Region.lexB .any l.toArray=true)
 (h:WQ P l.toArray (Gr W) (fun a'=>∀w',Gr W w'->Q .normal a' w') l a):(Code.region id l.toArray true).wp P Q a W :=
 wp_region_quiet (C:=Gr W) hm hB (Gr.refl W).drew h.out
theorem qu {C:World->Prop} {X:Value} {K:Value->Prop} (h:K X):∃v,(∀w,C w->X=v)/\K v:=⟨X,fun _ _=>rfl,h⟩
theorem yE {C:World->Prop} {P:Program} {f:FuncId} {args:Array Value} {X:Value} {K:Value->Prop} (hc:∀w,C w->Calls P f args w fun e w''=>e=.returned X/\C w'') (h:K X):∃v,(∀w,C w->Calls P f args w fun e w''=>e=.returned v/\C w'')/\K v:=⟨X,hc,h⟩
theorem jq {P:Program} {f:FuncId} {args:Array Value} {X:Value} {W:World} (h:∀w,zO W w->Calls P f args w fun e w'=>e=.returned X/\zO w w'):∀w,Gr W w->Calls P f args w fun e w''=>e=.returned X/\Gr W w'' :=
 fun w hw=>(h w hw).mono fun _ _ ⟨he,hb⟩=>⟨he,Below.trans hw (hb.mono (Below.size hw))⟩
end Go.Proofs.YtbjgjjkgfnfejaaGreatDoor
