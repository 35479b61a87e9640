/-
  Proved: whatever two rows of bytes are handed in, the law FnTwinSaid returns true, and its arguments, and the table opForms, read afterwards as they read before; the table lies as the program's text lays it (tied by the card).
-/
import Derived.Test.YtbjgjjkgfnfejaaGreatDoorCards
import Derived.Test.YtbjgjjkgfnfejaaGreatDoorTie
import Derived.Test.YtbjgjjkgfnfejaaGreatDoorLawPTwinSaid
import Derived.Test.YtbjgjjkgfnfejaaGreatDoorOpenBytes
import Derived.ProofKit
import Derived.OpenShut
import Derived.LaidMore
import Derived.WalkSmall
namespace Go.Proofs.YtbjgjjkgfnfejaaGreatDoor
set_option maxRecDepth 100000
open Go.ChangeShapes Go.WideShapes Go.ChangeAt Go.RowKit Go.Deep
theorem own:ownKnob Tryz.prog.godebug=none:=by kernel_rfl
theorem laidOut:laidOutB Tryz.prog=true:=by kernel_rfl
theorem Tryz.cellsU:Tryz.prog.cellsOf 5=1:=by kernel_rfl
theorem Tryz.cellsI:Tryz.prog.cellsOf 3=1:=by kernel_rfl
theorem gTab : Tryz.prog.globalNamed "loop.example/gemel/impl.opForms" = some 0 := by kernel_rfl
theorem gTabType:(Tryz.prog.globals[0]?).map (·.type)=some 234:=by kernel_rfl
theorem cellsTab:Tryz.prog.cellsOf 233=3:=by kernel_rfl
theorem cellsStr:Tryz.prog.cellsOf 9=1:=by kernel_rfl
def RowIs (D:List (DataW Unit)) (i:Nat):Prop:=∃s,D[i]?=some (.agg [.lit (.string s),.lit (.int .i64 (tk i)),.lit (.int .i64 (lv i))])
def tabRows:List (DataW Unit):=match Rows.laid_loop_example_gemel_impl_opForms (H:=Unit) with
 | .agg l=>l
 | _=>[]
theorem tabRows_is:Rows.laid_loop_example_gemel_impl_opForms (H:=Unit)=.agg tabRows:=rfl
theorem tab_rows:∀i:Nat,i<19->RowIs tabRows i:=by
 intro i hi
 match i,hi with
 | 0,_=>exact⟨_,rfl⟩
 | 1,_=>exact⟨_,rfl⟩
 | 2,_=>exact⟨_,rfl⟩
 | 3,_=>exact⟨_,rfl⟩
 | 4,_=>exact⟨_,rfl⟩
 | 5,_=>exact⟨_,rfl⟩
 | 6,_=>exact⟨_,rfl⟩
 | 7,_=>exact⟨_,rfl⟩
 | 8,_=>exact⟨_,rfl⟩
 | 9,_=>exact⟨_,rfl⟩
 | 10,_=>exact⟨_,rfl⟩
 | 11,_=>exact⟨_,rfl⟩
 | 12,_=>exact⟨_,rfl⟩
 | 13,_=>exact⟨_,rfl⟩
 | 14,_=>exact⟨_,rfl⟩
 | 15,_=>exact⟨_,rfl⟩
 | 16,_=>exact⟨_,rfl⟩
 | 17,_=>exact⟨_,rfl⟩
 | 18,_=>exact⟨_,rfl⟩
 | n+19,h=>exact absurd h (by omega)
theorem tab_of_trod {enc : TypeId × Value -> Unit} {W : World} {sp : Nat -> Bool} {hd : Bool} {fuel : Nat} {cs : Array Value} {p : List MemPlace} (hv : W.var? Tryz.prog "loop.example/gemel/impl.opForms" = some cs)
 (h:DataW.trod enc Tryz.prog W 0 sp hd fuel 234 cs.toList=some (.agg tabRows,p)):TabAt W:=by
 obtain⟨xs,m,_,hx,hlen,hn,hel⟩:=DataW.trod_array Tryz.underlying234 h
 simp only[Prod.mk.injEq,DataW.agg.injEq] at hx
 intro i hi
 have hxi:i<xs.length:=by omega
 have hi':=hel i hi
 rw[cellsTab,List.getElem?_eq_getElem hxi] at hi'
 obtain⟨s,zT⟩:=tab_rows i hi
 rw[hx.1,List.getElem?_map,List.getElem?_eq_getElem hxi,Option.map_some,Option.some.injEq] at zT
 obtain⟨y0,y1,y2,n,hy,Wa,r0,r1,r2⟩:=trod_struct3 Tryz.underlying233 hi'
 rw[hy] at zT
 simp only[DataW.agg.injEq,List.cons.injEq,and_true] at zT
 generalize hcs3:(cs.toList.drop (i * 3)).take 3=l3 at Wa r0 r1 r2
 rw[cellsTab] at Wa
 match l3,Wa with
 | [u0,u1,u2],_ =>
  have r0':DataW.trod enc Tryz.prog W 0 sp hd n 9 [u0]=some y0:=by simpa [cellsStr] using r0
  have r1':DataW.trod enc Tryz.prog W 0 sp hd n 3 [u1]=some y1:=by simpa [Tryz.cellsI] using r1
  have r2':DataW.trod enc Tryz.prog W 0 sp hd n 3 [u2]=some y2:=by simpa [Tryz.cellsI] using r2
  obtain⟨s0,e0,f0,_⟩:=DataW.trod_string Tryz.underlying9 r0'
  obtain⟨n1,e1,f1,_⟩:=DataW.trod_int Tryz.underlying3 r1'
  obtain⟨n2,e2,f2,_⟩:=DataW.trod_int Tryz.underlying3 r2'
  rw[f0,f1,f2] at zT
  simp at e0 e1 e2
  have g1:n1=tk i:=by simpa using zT.2.1
  have g2:n2=lv i:=by simpa using zT.2.2
  have key:∀j,j<3->cs[i * 3+j]?=[u0,u1,u2][j]?:=by
   intro j hj
   rw[<-hcs3,List.getElem?_take_of_lt hj,List.getElem?_drop]
   simp
  have c:=fun j=>World.var?_cell gTab hv (i * 3+j)
  refine⟨⟨s0,?_⟩,?_,?_⟩
  ·have:=(c 0).trans (key 0 (by decide));simpa [e0] using this
  ·have:=(c 1).trans (key 1 (by decide));simpa [e1,g1] using this
  ·have:=(c 2).trans (key 2 (by decide));simpa [e2,g2] using this
theorem tab_of_laid {W:World} (h:laidMetH Tryz.prog Rows.fnTwinSaidRow.laid W):TabAt W:=by
 rw[MakeChecks.laidMetH_plain _ _ _ (by kernel_rfl)] at h
 obtain⟨ps,⟨g0,t0,cs0,f0,p0,q0,hg0,ht0,hv0,hd0,_,_⟩,_,_⟩:=h
 obtain rfl:=Option.some.inj (gTab.symm.trans hg0)
 obtain rfl:=Option.some.inj (gTabType.symm.trans ht0)
 exact tab_of_trod hv0 (by rw[<-tabRows_is];exact hd0)
theorem door_met (os:Os) (args:Array Value):laidMetH Tryz.prog Rows.fnTwinSaidRow.laid ((World.doorLaid Tryz.prog 400 os).forCall (fun _ _=>0) ⟨#[],args,[]⟩).memory :=
 laidMetH_of_parts3 (fuel:=8) (laidMet_of_run' 8 (by kernel_rfl) (by kernel_rfl)) (by kernel_rfl) (by kernel_rfl)
theorem lifted (os:Os) (started:os.Started) (H:Type) (enc:TypeId × Value->H) :
 ReturnsInHanded {} Tryz.checked os 6 .any (fun w args=>(Rows.fnTwinSaidSpec.pre enc Tryz.prog Tryz.f6 [] false w args/\laidMetH Tryz.prog Rows.fnTwinSaidRow.laid w)/\sizedMet enc Tryz.prog Tryz.f6 (OpenSpec.ofChange Rows.fnTwinSaidSpec) false w args)
  (Rows.fnTwinSaidSpec.post enc Tryz.prog Tryz.f6 false true false false):=by
 refine returnsInHanded_of_change_and (C:=Tryz.checked) (X:=fun w _=>laidMetH Tryz.prog Rows.fnTwinSaidRow.laid w) (fun _ _ _ hh h=>h.of_heap hh) own started (by kernel_rfl) Tryz.func6
  (ChangeSpec.witness_shaped (enc:=enc) (C:=Tryz.checked) (os:=os) (X:=fun w _=>laidMetH Tryz.prog Rows.fnTwinSaidRow.laid w) false (World.doorLaid Tryz.prog 400 os) #[zQ,zQ] 8 rfl (World.shaped_of_RefB (by kernel_rfl) (by kernel_rfl)) (by kernel_rfl) (by kernel_rfl) (by kernel_rfl) (door_met os _)) ?_
 intro W base args ds gs before zfc hW _ _ hL _
 have hval:∀(j:Nat) t v,Tryz.f6.params[j]?=some t->args[j]?=some v->Value.okWide Tryz.prog W .any base t v:=zfc
 have hW':=hW
 obtain⟨p,q,hA0,hV,rfl,_,_⟩:=hW
 have hA:DataW.TrodAll enc Tryz.prog W 0 (fun _=>true) true Tryz.f6.params.toList args.toList ds p:=hA0
 rw[Tryz.params6] at hA hval
 obtain⟨v0,vs0,d0,ds0,p0,q0,hargs,rfl,rfl,h0,r0⟩:=trodAll_cons hA
 obtain⟨v1,vs1,d1,ds1,p1,q1,rfl,rfl,rfl,h1,r1⟩:=trodAll_cons r0
 obtain⟨rfl,rfl,rfl⟩:=trodAll_nil r1
 obtain rfl:args=#[v0,v1]:=by cases args;simp_all
 obtain⟨g,t,cs,fuel,d,pv,rfl,hg,ht,hcs,htr,rfl⟩:=trodVars_one hV
 have k0:=h0
 have k1:=h1
 have lt0:∀x∈p0,x.block<W.heap.size:=by obtain⟨m,hm⟩:=k0;exact DataW.trod_lt m _ _ _ hm
 have lt1:∀x∈p1,x.block<W.heap.size:=by obtain⟨m,hm⟩:=k1;exact DataW.trod_lt m _ _ _ hm
 have ltv:∀x∈pv,x.block<W.heap.size:=DataW.trod_lt _ _ _ _ htr
 obtain rfl:=Option.some.inj (gTab.symm.trans hg)
 obtain rfl:=Option.some.inj (gTabType.symm.trans ht)
 have kv:DataW.Trod enc Tryz.prog W 0 (fun _=>true) true 234 (.agg cs) d pv:=⟨fuel,htr⟩
 obtain⟨a,len,cap,rfl,hbytes⟩:∃a len cap,v0=.slice a len cap/\BytesAt W a len cap:=by
  obtain⟨a1,l1,c1,rfl⟩:=okWide_slice Tryz.underlying22 (hval 0 22 v0 rfl rfl)
  obtain⟨fuel',hf⟩:=h0
  exact J2 Tryz.underlying22 Tryz.underlying5 Tryz.cellsU (by simpa [Value.cells] using hf)
 obtain⟨a',len',cap',rfl,zbY⟩:∃a len cap,v1=.slice a len cap/\BytesAt W a len cap:=by
  obtain⟨a1,l1,c1,rfl⟩:=okWide_slice Tryz.underlying22 (hval 1 22 v1 rfl rfl)
  obtain⟨fuel',hf⟩:=h1
  exact J2 Tryz.underlying22 Tryz.underlying5 Tryz.cellsU (by simpa [Value.cells] using hf)
 have hc2:len'<=9223372036854775807:=by
  have x1:=zbY.1
  have x2:=zbY.2.1
  unfold maxLen at x2
  omega
 have hT:=tab_of_laid hL
 have hgB:0<W.heap.size:=World.block_lt_of_cell? _ _ (hT 0 (by decide)).2.1
 clear hA0 zfc
 refine(Xc W a len cap a' len' cap' hbytes hc2 hT).mono fun e W' ⟨he,bel⟩=>?_
 subst he
 obtain⟨fv,hfv⟩:=Below.trod laidOut (by kernel_rfl) (of_decide_eq_true (by kernel_rfl)) kv bel ltv
 refine⟨_,rfl,_,_,_,[],p0 ++ (p1 ++ []),MemPlace.row ⟨0,0,none⟩ cs.size ++ pv,hW',trodAll_mk1 (shut_bool Tryz.underlying4 _),
  (trodAll_cons_mk (Below.trod laidOut (by kernel_rfl) (of_decide_eq_true (by kernel_rfl)) k0 bel lt0) (trodAll_cons_mk (Below.trod laidOut (by kernel_rfl) (of_decide_eq_true (by kernel_rfl)) k1 bel lt1) trodAll_mk0)),
  trodVars_mk1 gTab gTabType (var?_below bel gTab hgB hcs) hfv,bel.frame _,fun h=>by cases h⟩
theorem zm:Rows.FnTwinSaidSaid :=
 OpenClaim.holds_of_wide 6 Tryz.f6 rfl rfl rfl rfl rfl rfl rfl ⟨rfl,rfl,rfl,rfl,rfl⟩ rfl rfl rfl rfl rfl (by kernel_rfl) Tryz.func6 (by kernel_rfl)
  (of_decide_eq_true (by kernel_rfl)) (by unfold Func.isWrapper;first | (rw[if_pos (by decide +kernel)];kernel_rfl) | (rw[if_neg (by decide +kernel)];exact⟨rfl,rfl⟩))
  (fun os started H enc _=>lifted os started H enc)
theorem plain (f : FuncId) (fn : Func) (hf : Tryz.pinned.checked.prog.funcNamed "loop.example/gemel/laws.FnTwinSaid" = some f) (hfn : Tryz.pinned.checked.prog.funcs[f]? = some fn) :
 false=Tryz.pinned.checked.prog.looks []/\∀(j:Nat) t,fn.params[j]?=some t->Tryz.pinned.checked.prog.wantsStandIn t=false:=by
 obtain rfl : f = 6 := Option.some.inj ((show Tryz.prog.funcNamed "loop.example/gemel/laws.FnTwinSaid" = some 6 by kernel_rfl).symm.trans hf) |>.symm
 obtain rfl:fn=Tryz.f6:=(Option.some.inj (Tryz.func6.symm.trans hfn)).symm
 refine⟨by kernel_rfl,fun j t ht=>?_⟩
 rw[Tryz.params6] at ht
 have hm:=Array.mem_of_getElem? ht
 simp at hm
 subst hm
 exact(show Tryz.prog.wantsStandIn 22=false by kernel_rfl)
theorem fnTwinSaid_card:Rows.FnTwinSaidCardSaid :=
 Claim7.holds_tied_plain_at .later [] _ _ _ _ zm (fun _ h=>by cases h) (by kernel_rfl) (fun _ h=>by cases h) fnTwinSaid_row_tie rfl ⟨rfl,rfl⟩ (by kernel_rfl) rfl plain (by kernel_rfl)
#print axioms fnTwinSaid_card
end Go.Proofs.YtbjgjjkgfnfejaaGreatDoor
