/-
  MoveIn of the program: a heap's calls are things of their own, the one that runs is put on the first page.
-/
import Derived.Test.YtbjgjjkgfnfejaaGreatDoorMKeepC
import Derived.Test.YtbjgjjkgfnfejaaGreatDoorTrim
namespace Go.Proofs.YtbjgjjkgfnfejaaGreatDoor
open Go.RowKit
theorem yj.from {B:Nat} {ρ:Nat->Rl} {w w':World} {P:Lay} (h:yj B ρ w P) (hs:w.heap.size<=w'.heap.size) (hk:∀g,B<=g->g<w.heap.size->w'.heap[g]?=w.heap[g]?):yj B ρ w' P:=fun r=>by
 cases r with
 | other=>trivial
 | live =>
  obtain⟨h1,h2,h3⟩:=h .live
  exact⟨h1.kept (hk _ h3 h1.lt),h2,h3⟩
 | zd =>
  obtain⟨h1,h2⟩:=h .zd
  exact⟨h1.kept hs fun g e=>hk g (h1.lt g e).1 (h1.lt g e).2,h2⟩
 | zh i =>
  intro hi
  obtain⟨h1,h2⟩:=h (.zh i) hi
  exact⟨h1.kept hs fun g e=>hk g (h1.lt g e).1 (h1.lt g e).2,h2⟩
 | order =>
  obtain⟨h1,h2⟩:=h .order
  exact⟨h1.kept hs fun g e=>hk g (h1.lt g e).1 (h1.lt g e).2,h2⟩
 | ze =>
  obtain⟨h1,h2,h3⟩:=h .ze
  exact⟨h1.kept (hk _ h3 h1.lt),h2,h3⟩
 | body k =>
  intro hi
  obtain⟨h1,h2,h3⟩:=h (.body k) hi
  exact⟨h1.kept (hk _ h3 h1.lt),h2,h3⟩
 | zg k =>
  intro hi
  obtain⟨h1,h2⟩:=h (.zg k) hi
  exact⟨h1.kept hs fun g e=>hk g (h1.lt g e).1 (h1.lt g e).2,h2⟩
 | zf k =>
  intro hi
  obtain⟨h1,h2⟩:=h (.zf k) hi
  exact⟨h1.kept hs fun g e=>hk g (h1.lt g e).1 (h1.lt g e).2,h2⟩
end Go.Proofs.YtbjgjjkgfnfejaaGreatDoor
