/-
  What holds while the blocks from B on stay (From); rows that are filled one element behind the other (Cop). Nothing of the translation is used here.
-/
import Derived.Test.YtbjgjjkgfnfejaaGreatDoorIntsM
import Derived.Lib.LazyBuf
namespace Go.Proofs.YtbjgjjkgfnfejaaGreatDoor
open Go.RowKit
def From (B:Nat) (w:World) (R:World->Prop):Prop :=
 ∀w'':World,w.heap.size<=w''.heap.size->(∀g,B<=g->g<w.heap.size->w''.heap[g]?=w.heap[g]?)->R w''
theorem From.here {B:Nat} {w:World} {R:World->Prop} (h:From B w R):R w:=h w zD fun _ _ _=>rfl
theorem From.mono {B B':Nat} {w:World} {R:World->Prop} (h:From B w R) (hB:B'<=B):From B' w R:=fun w'' hs hk=>h w'' hs fun g h1 h2=>hk g (Nat.le_trans hB h1) h2
theorem From.imp {B:Nat} {w:World} {R R':World->Prop} (h:From B w R) (hR:∀w'',R w''->R' w''):From B w R':=fun w'' hs hk=>hR _ (h w'' hs hk)
theorem From.below {B:Nat} {w w':World} {R:World->Prop} (h:From B w R) (hb:zO w w'):From B w' R :=
 fun w'' hs hk=>h w'' (Nat.le_trans hb.size hs) fun g h1 h2=>(hk g h1 (Nat.lt_of_lt_of_le h2 hb.size)).trans (hb.block g h2)
theorem From.wr {B:Nat} {T:Nat->Prop} {w w':World} {R:World->Prop} (h:From B w R) (hw:Wr T w w') (hT:∀g,B<=g->¬T g):From B w' R :=
 fun w'' hs hk=>h w'' (Nat.le_trans hw.size hs) fun g h1 h2=>(hk g h1 (Nat.lt_of_lt_of_le h2 hw.size)).trans (hw.block g h2 (hT g h1))
theorem From.wr1 {B k:Nat} {w w':World} {R:World->Prop} (h:From B w R) (hw:Wr (fun g=>g=k) w w') (hk:k<B):From B w' R:=h.wr hw fun g h1 e=>by omega
theorem From.and {B:Nat} {w:World} {R R':World->Prop} (h:From B w R) (h':From B w R'):From B w (fun w''=>R w''/\R' w''):=fun w'' hs hk=>⟨h w'' hs hk,h' w'' hs hk⟩
theorem Bx.from {B g:Nat} {w:World} {t:TypeId} {l:List Value} (h:Bx w g t l) (hB:B<=g):From B w (fun w''=>Bx w'' g t l):=fun _ _ hk=>h.kept (hk g hB h.lt)
theorem yo.from {B g n c:Nat} {w:World} {xs:yH} (h:yo w (zK g 0 n c) xs) (hB:B<=g):From B w (fun w''=>yo w'' (zK g 0 n c) xs):=by
 intro w'' _ hk
 obtain⟨a,cap,hv,hl,hc⟩:=h
 refine⟨a,cap,hv,hl,fun i hi=>?_⟩
 obtain⟨b,o,ha,h0,h1⟩:=hc i hi
 have hbg:b=g:=by
  rw[ha] at hv
  injection hv with h1 _ _
  injection h1 with h1
  injection h1 with h1 _
  exact h1.symm
 have e:=hk b (by omega) (World.block_lt_of_cell? _ _ h0)
 exact⟨b,o,ha,by rw[World.cell?_of_block (a:=⟨b,o+i * 2,none⟩) e];exact h0,by rw[World.cell?_of_block (a:=⟨b,o+i * 2+1,none⟩) e];exact h1⟩
theorem Wr.cells {g:Nat} {w:World}:∀(vs:List Value) (o:Nat) (w':World),Wr (fun k=>k=g) w w'->Wr (fun k=>k=g) w (w'.setCells g o vs)
 | [],_,_,h=>h
 | v :: r,o,_,h=>Wr.cells r (o+1) _ (h.set1 (o:=o) v)
def RowTo (w:World) (g:Nat) (t:TypeId) (n sz k:Nat) (z:List Value) (c:Nat->List Value):Prop :=
 w.rowIs g t (n * sz) fun j=>if j<k * sz then(c (j / sz)).getD (j % sz) default else z.getD (j % sz) default
def Cop (w wr:World) (t:TypeId) (n sz k:Nat) (z:List Value) (E:Nat->List Value->World->Prop):Prop :=
 ∃c,zO w wr/\RowTo wr w.heap.size t n sz k z c/\∀i,i<k->(c i).length=sz/\From (w.heap.size+1) wr (E i (c i))
end Go.Proofs.YtbjgjjkgfnfejaaGreatDoor
