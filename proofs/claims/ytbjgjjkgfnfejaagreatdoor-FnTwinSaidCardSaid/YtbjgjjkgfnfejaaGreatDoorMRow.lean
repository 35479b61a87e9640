/-
  Rows of elements of any size: one element more, just laid into a block of its own, is appended. Nothing of the translation is used here.
-/
import Derived.Test.YtbjgjjkgfnfejaaGreatDoorMLive
import Derived.Test.YtbjgjjkgfnfejaaGreatDoorMFrom
namespace Go.Proofs.YtbjgjjkgfnfejaaGreatDoor
open Go.RowKit
theorem yg.slice {B sz n:Nat} {w:World} {v:Value} {xs:List Value} (h:yg B sz w v n xs):∃a cap,v=.slice a n cap/\n<=maxLen:=by
 rcases h.2 with⟨rfl,e⟩ | ⟨g,off,cap,hv,_,_,hl,hc,_⟩
 ·exact⟨none,0,by rw[e],by rw[e];omega⟩
 ·exact⟨_,cap,hv,by omega⟩
theorem yg.mono {B B' sz n:Nat} {w:World} {v:Value} {xs:List Value} (h:yg B sz w v n xs) (hB:B'<=B):yg B' sz w v n xs:=by
 refine⟨h.1,?_⟩
 rcases h.2 with h | ⟨g,off,cap,rfl,hg,h3⟩
 ·exact .inl h
 ·exact .inr ⟨g,off,cap,rfl,by omega,h3⟩
theorem yg.form {B sz n:Nat} {w:World} {v:Value} {xs:List Value} (h:yg B sz w v n xs) (hn:0<n):∃g off cap,v=zK g off n cap/\B<=g/\g<w.heap.size:=by
 rcases h.2 with⟨_,e⟩ | ⟨g,off,cap,hv,hB,hg,_⟩
 ·omega
 ·exact⟨g,off,cap,hv,hB,hg⟩
theorem yg.cell {B sz n g off cap m:Nat} {w:World} {xs:List Value} (h:yg B sz w (zK g off m cap) n xs) {j:Nat} {u:Value} (hj:xs[j]?=some u):w.cell? (zH g (off+j))=some u/\w.frozen? (zH g (off+j))=false:=by
 obtain⟨yz,hu⟩:=List.getElem?_eq_some_iff.1 hj
 rcases h.2 with⟨h,_⟩ | ⟨g',off',cap',hv,_,_,hl,_,hsp,hx⟩
 ·cases h
 ·cases hv
  refine⟨by rw[hx j yz,hu],(hsp j ?_).2⟩
  have:=h.1
  have:=Nat.mul_le_mul_right sz hl
  omega
theorem yg.set {B sz n g off cap m:Nat} {w:World} {xs:List Value} (h:yg B sz w (zK g off m cap) n xs) (j:Nat) (u:Value):yg B sz (w.setCell (zH g (off+j)) u) (zK g off m cap) n (xs.set j u):=by
 refine⟨by rw[List.length_set];exact h.1,?_⟩
 rcases h.2 with⟨h,_⟩ | ⟨g',off',cap',hv,hB,hg,hl,hm,hsp,hx⟩
 ·cases h
 ·cases hv
  refine .inr ⟨g,off,cap,rfl,hB,by rw[World.size_setCell];exact hg,hl,hm,fun i hi=>?_,fun i hi=>?_⟩
  ·rw[World.frozen?_setCell]
   refine⟨?_,(hsp i hi).2⟩
   by_cases e:i=j
   ·subst e
    obtain⟨u0,Jx⟩:=Option.isSome_iff_exists.1 (hsp i hi).1
    rw[World.cell?_setCell_same _ _ _ Jx]
    rfl
   ·rw[World.cell?_setCell_other _ _ _ _ (fun q=>e (by have:=congrArg Addr.off q;simp at this;omega))]
    exact(hsp i hi).1
  ·rw[List.length_set] at hi
   have hc:i<cap * sz:=by have:=h.1;have:=Nat.mul_le_mul_right sz hl;omega
   by_cases e:i=j
   ·subst e
    obtain⟨u0,Jx⟩:=Option.isSome_iff_exists.1 (hsp i hc).1
    rw[World.cell?_setCell_same _ _ _ Jx]
    simp
   ·rw[World.cell?_setCell_other _ _ _ _ (fun q=>e (by have:=congrArg Addr.off q;simp at this;omega)),List.getElem_set_ne (Ne.symm e)]
    exact hx i hi
theorem yg.wr {B sz n:Nat} {T:Nat->Prop} {w w':World} {v:Value} {xs:List Value} (h:yg B sz w v n xs) (hw:Wr T w w') (hT:∀g,v.ownBlock=some g->¬T g):yg B sz w' v n xs:=h.kept hw.size fun g e=>hw.block g (h.lt g e).2 (hT g e)
theorem yg.grown {B sz n:Nat} {w w':World} {v:Value} {xs:List Value} {q:Option Nat} (h:yg B sz w v n xs) (hg:w.grownBy w' q) (hq:∀g,v.ownBlock=some g->q≠some g):yg B sz w' v n xs:=h.kept hg.size fun g e=>hg.block g (h.lt g e).2 fun e2=>hq g e e2.symm
theorem yf.grown {B:Nat} {w w':World} {v:Value} {xs:List Int} {q:Option Nat} (h:yf B w v xs) (hg:w.grownBy w' q) (hq:∀g,v.ownBlock=some g->q≠some g):yf B w' v xs:=h.kept hg.size fun g e=>hg.block g (h.lt g e).2 fun e2=>hq g e e2.symm
theorem vu {P:Program} {t ty e:TypeId} {i:TypeInfo} {z:Value} {B sz:Nat} (ht:P.underlying t=some (.slice e)) (hi:P.info? e=some i) (hz:i.zero=some z) (hs:i.size=sz) (hzs:z.cells.size=sz) (hby:i.bytes<=1000)
 {w:World} {v:Value} {n:Nat} {xs:List Value} (zy:yg B sz w v n xs) (cs:List Value) (hcs:cs.length=sz) (h1:∀u∈cs,u.oneCell'=true) (H c:Nat) (hx:∀j u,cs[j]?=some u->w.cell? (zH H j)=some u) (hL:n<=2900000) (hB:B<=w.heap.size) :
 ∃v' w',(Builtin.append_ #[t,t] ty #[v,zK H 0 1 c]).run P w=.ok v' w'/\yg B sz w' v' (n+1) (xs ++ cs)/\w.grownBy w' v.ownBlock/\(v'.ownBlock=v.ownBlock\/v'.ownBlock=some w.heap.size):=by
 have QQ:Src P sz t (zK H 0 1 c) 1 cs w:=Src.ofSlice w ht ⟨H,0,none⟩ 1 c cs (by omega) (fun j u hu=>by rw[Addr.add_lit,Nat.zero_add];exact hx j u hu) h1
 subst hs
 exact j7 (P:=P) (ty:=ty) ht hi hz hzs hby zy _ 1 cs QQ (by omega) hB
theorem VA {P:Program} {t e:TypeId} {i:TypeInfo} {z:Value} {B sz:Nat} (ht:P.underlying t=some (.slice e)) (hi:P.info? e=some i) (hz:i.zero=some z) (hs:i.size=sz) (hzs:z.cells.size=sz) (hby:i.bytes<=1000)
 {ops:Array Oper} {rest:List Oper} {o:Oper} {act:Act} {Q:Exit->Act->World->Prop} (w:World) (hgd:o.guard=none) (s y:Operand)
 (ho:o.op=.call {callee:=.builtin .append,args:=#[s,y],argTypes:=#[t,t]}) (v:Value) (n:Nat) (xs cs:List Value) (hs':act.eval s=v) (H c:Nat) (hy:act.eval y=zK H 0 1 c) (zy:yg B sz w v n xs) (hcs:cs.length=sz)
 (h1:∀u∈cs,u.oneCell'=true) (hx:∀j u,cs[j]?=some u->w.cell? (zH H j)=some u) (hL:n<=2900000) (hB:B<=w.heap.size)
 (h:∀v' w',yg B sz w' v' (n+1) (xs ++ cs)->w.grownBy w' v.ownBlock->(v'.ownBlock=v.ownBlock\/v'.ownBlock=some w.heap.size)->wpList P ops Q rest (act.put o.dst v') w') :
 wpList P ops Q (o :: rest) act w:=by
 obtain⟨v',w',hr,h3,h4,h5⟩:=vu (ty:=o.type) ht hi hz hs hzs hby zy cs hcs h1 H c hx hL hB
 refine wpList_plain hgd fun K hK=>?_
 unfold Oper.wp execOp
 simp only[ho,resolve,invoke,builtin,Sem.run_bind,Sem.run_pure,Result.andThen_ok,List.map_toArray,List.map_cons,List.map_nil,hs',hy,hr]
 exact hK _ _ (h v' w' h3 h4 h5)
end Go.Proofs.YtbjgjjkgfnfejaaGreatDoor
