/-
  A number is taken out of a row of numbers: slices.Delete of one.
-/
import Derived.Deep.DeepCutAuto
import Derived.Test.YtbjgjjkgfnfejaaGreatDoorIntsM
import Derived.Deep.RegionLaw
namespace Go.Proofs.YtbjgjjkgfnfejaaGreatDoor
set_option maxHeartbeats 4000000
set_option maxRecDepth 100000
open Go.RowKit
theorem wU (g:Nat):∀(vs:List Value) (o:Nat) (W:World),(W.setCells g o vs).heap.size=W.heap.size
 | [],_,_=>rfl
 | v :: r,o,W=>by rw[World.setCells,wU g r];simp[World.setCell]
theorem Yc (g:Nat):∀(vs:List Value) (o:Nat) (W:World) (k:Nat),k≠g->(W.setCells g o vs).heap[k]?=W.heap[k]?
 | [],_,_,_,_=>rfl
 | v :: r,o,W,k,hk=>by rw[World.setCells,Yc g r _ _ _ hk];exact Below.heap_setCell _ _ _ _ hk
theorem YE (g:Nat):∀(vs:List Value) (o:Nat) (W:World),(W.setCells g o vs).os=W.os/\(W.setCells g o vs).tape=W.tape/\(W.setCells g o vs).output=W.output
 | [],_,_=>⟨rfl,rfl,rfl⟩
 | v :: r,o,W=>by rw[World.setCells];exact YE g r _ _
theorem Vu {P:Program} {t ty e:TypeId} {i:TypeInfo} {B:Nat} (ht:P.underlying t=some (.slice e)) (hi:P.info? e=some i) (hs:i.size=1)
 {w:World} {g off cap k m:Nat} {xs M:List Int} (h:yf B w (zK g off xs.length cap) xs) (ad:Addr) (c:Nat) (hm:M.length=m) (hnews:∀j,(h:j<M.length)->w.cell? (ad.add j)=some (zI M[j])) (hk:k+m<=xs.length) :
 (Builtin.append_ #[t,t] ty #[zK g off k cap,.slice (some ad) m c]).run P w=.ok (zK g off (k+m) cap) (w.setCells g (off+k) (M.map fun x=>zI x)) /\
  yf B (w.setCells g (off+k) (M.map fun x=>zI x)) (zK g off xs.length cap) (xs.take k ++ M ++ xs.drop (k+m))/\w.grownBy (w.setCells g (off+k) (M.map fun x=>zI x)) (some g):=by
 rcases h with⟨h,_⟩ | ⟨g',off',cap',hv,hBg,hg,hl,hmx,hsp,hx⟩
 ·cases h
 injection hv with h1 _ h3
 injection h1 with h1
 injection h1 with h1 h2 _
 subst h1 h2 h3
 have hnews':∀j u,(M.map fun x=>Value.int .i64 x)[j]?=some u->w.cell? (ad.add j)=some u:=by
  intro j u hu
  rw[List.getElem?_map] at hu
  by_cases hj:j<M.length
  ·rw[List.getElem?_eq_getElem hj] at hu
   rw[hnews j hj]
   simpa using hu
  ·rw[List.getElem?_eq_none (by omega)] at hu;simp at hu
 have h1:∀u∈(M.map fun x=>Value.int .i64 x),u.oneCell'=true:=by
  intro u hu
  simp at hu
  obtain⟨x,_,rfl⟩:=hu
  rfl
 have hc:∀j,j<(M.map fun x=>Value.int .i64 x).length->(w.cell? (zH g (off+k * i.size+j))).isSome=true:=fun j hj=>by
  rw[vy] at hj
  have:=(hsp (k+j) (by omega)).1
  rwa [hs,Nat.mul_one,Nat.add_assoc]
 have hf:∀j,j<(M.map fun x=>Value.int .i64 x).length->w.frozen? (zH g (off+k * i.size+j))=false:=fun j hj=>by
  rw[vy] at hj
  have:=(hsp (k+j) (by omega)).2
  rwa [hs,Nat.mul_one,Nat.add_assoc]
 have hr:=run_append_room_cells (P:=P) w t ty e i ht hi g off k cap ad m c _ (by simp[hs,hm]) hnews' h1 (by omega) hc hf
 rw[hs,Nat.mul_one] at hr hc
 have hlen:(xs.take k ++ M ++ xs.drop (k+m)).length=xs.length:=by simp[List.length_take,List.length_drop];omega
 refine⟨hr,.inr ⟨g,off,cap,by rw[hlen],hBg,by rw[wU];exact hg,by rw[hlen];exact hl,hmx,fun j hj=>?_,fun j hj=>?_⟩,?_⟩
 ·rw[World.frozen?_setCells]
  refine⟨?_,(hsp j hj).2⟩
  by_cases hin:k<=j/\j<k+M.length
  ·have:=World.cell?_setCells_in g (M.map fun x=>Value.int .i64 x) (off+k) w hc (j - k) (by simp;omega)
   rw[show off+k+(j - k)=off+j by omega] at this
   rw[this];rfl
  ·rw[World.cell?_setCells_out g _ _ _ _ (fun _ _=>by simp;omega)]
   exact(hsp j hj).1
 ·have hj':j<xs.length:=by rw[<-hlen];exact hj
  by_cases hin:k<=j/\j<k+M.length
  ·have:=World.cell?_setCells_in g (M.map fun x=>Value.int .i64 x) (off+k) w hc (j - k) (by simp;omega)
   rw[show off+k+(j - k)=off+j by omega] at this
   rw[this]
   have:(xs.take k ++ M ++ xs.drop (k+m))[j]?=M[j - k]?:=by
    rw[List.getElem?_append_left (by simp;omega),List.getElem?_append_right (by simp;omega)]
    simp[Nat.min_eq_left (show k<=xs.length by omega)]
   rw[List.getElem?_eq_getElem hj,List.getElem?_eq_getElem (by omega)] at this
   injection this with this
   rw[this,List.getElem_map]
  ·rw[World.cell?_setCells_out g _ _ _ _ (fun _ _=>by simp;omega),hx j hj']
   have:(xs.take k ++ M ++ xs.drop (k+m))[j]?=xs[j]?:=by
    by_cases yz:j<k
    ·rw[List.getElem?_append_left (by simp;omega),List.getElem?_append_left (by simp;omega),List.getElem?_take_of_lt yz]
    ·rw[List.getElem?_append_right (by simp;omega),List.getElem?_drop]
     congr 1
     simp
     omega
   rw[List.getElem?_eq_getElem hj,List.getElem?_eq_getElem hj'] at this
   injection this with this
   rw[this]
 ·have hr:=YE g (M.map fun x=>Value.int .i64 x) (off+k) w
  exact⟨hr.1,hr.2.1,hr.2.2,by rw[wU];exact Nat.le_refl _,fun q _ hq=>Yc g _ _ _ _ fun e=>hq (by rw[e])⟩
theorem Tryz.infoIntO:(Tryz.prog.info? 3).map (fun i=>(i.zero,i.size,i.bytes))=some (some (zI 0),1,8):=by kernel_rfl
theorem yf.short {B:Nat} {w:World} {g off cap:Nat} {xs:List Int} {n:Nat} (h:yf B w (zK g off xs.length cap) xs) (hn:n<=xs.length):yf B w (zK g off n cap) (xs.take n):=by
 rcases h with⟨h,_⟩ | ⟨g',off',cap',hv,hBg,hg,hl,hmx,hsp,hx⟩
 ·cases h
 injection hv with h1 _ h3
 injection h1 with h1
 injection h1 with h1 h2 _
 subst h1 h2 h3
 refine .inr ⟨g,off,cap,by simp[Nat.min_eq_left hn],hBg,hg,by simp;omega,hmx,hsp,fun j hj=>?_⟩
 have hj':j<xs.length:=by simp at hj;omega
 rw[hx j hj']
 simp
theorem yf.parts {B:Nat} {w:World} {g off cap:Nat} {xs:List Int} (h:yf B w (zK g off xs.length cap) xs):B<=g/\g<w.heap.size/\xs.length<=cap/\cap<=maxLen/\∀i,i<cap->(w.cell? (zH g (off+i))).isSome=true/\w.frozen? (zH g (off+i))=false:=by
 rcases h with⟨h,_⟩ | ⟨g',off',cap',hv,hBg,hg,hl,hmx,hsp,hx⟩
 ·cases h
 injection hv with h1 _ h3
 injection h1 with h1
 injection h1 with h1 h2 _
 subst h1 h2 h3
 exact⟨hBg,hg,hl,hmx,hsp⟩
theorem VJ {P:Program} {o:Oper} {y:Nat->Option Bool} {a:Act} {w w':World} {v:Value} {K:Act->World->Prop} {Q:Exit->Act->World->Prop} {E:Prop} (hg:Region.wanted o y=true) (hr:(execOp a.eval o).run P w=.ok (.value v) w') (hK:K (a.put o.dst v) w') :
 if Region.wanted o y=true then Oper.wp P o a w K Q else E:=by
 rw[if_pos hg]
 unfold Oper.wp
 rw[hr]
 exact hK
theorem vD {P:Program} {t:TypeId} {o:Oper} {act:Act} {w w':World} {s x:Operand} {v xv v':Value} (ho:o.op=.call {callee:=.builtin .append,args:=#[s,x],argTypes:=#[t,t]}) (hs:act.eval s=v) (hx:act.eval x=xv)
 (hr:(Builtin.append_ #[t,t] o.type #[v,xv]).run P w=.ok v' w'):(execOp act.eval o).run P w=.ok (.value v') w':=by
 unfold execOp
 simp only[ho,resolve,invoke,builtin,Sem.run_bind,Sem.run_pure,Result.andThen_ok,List.map_toArray,List.map_cons,List.map_nil,hs,hx,hr]
theorem XQ (B:Nat) (g off cap i m:Nat) (xs:List Int) (w:World) (hn:xs.length=m+1) (h:yf B w (zK g off xs.length cap) xs) (hi:i<=m) :
 Calls Tryz.prog 121 #[zK g off (m+1) cap,zI (i:Int),zI ((i:Int)+1)] w fun e w'=>e=.returned (zK g off m cap)/\yf B w' (zK g off m cap) (xs.take i ++ xs.drop (i+1))/\w.grownBy w' (some g):=by
 obtain⟨hB,hg,hl,hmx,hsp⟩:=h.parts
 unfold maxLen at hmx
 have HX9:yf B w.drew (zK g off xs.length cap) xs:=h
 have hiz:(i:Int)<(m:Int)+1:=by omega
 have qF:((i:Int) == (i:Int)+1)=false:=zG.2 (by omega)
 have hic:i<=cap:=by omega
 have hq0:(0:Int)<=(i:Int)+1:=by omega
 have hq1:(i:Int)+1<=(m:Int)+1:=by omega
 have hw1:((i:Int)+1).toNat=i+1:=by omega
 obtain⟨i0,hii,jT,xF,kf⟩:=info_parts Tryz.infoIntO
 obtain⟨AD,hAD⟩:∃AD:Addr,(if cap=i+1 then(⟨g,off,none⟩:Addr) else⟨g,off+(i+1),none⟩)=AD:=⟨_,rfl⟩
 have hsrc:∀j,(hj:j<(xs.drop (i+1)).length)->w.drew.cell? (AD.add j)=some (zI (xs.drop (i+1))[j]):=fun j hj=>by
  have WD:i+1+j<xs.length:=by simp at hj;omega
  have:=(HX9.cell WD).1
  rw[<-hAD,if_neg (by omega),Addr.add_lit,List.getElem_drop,Nat.add_assoc off (i+1) j]
  exact this
 have hdl:(xs.drop (i+1)).length=m - i:=by rw[List.length_drop,hn];omega
 obtain⟨hrun,zT,hgr⟩:=Vu (P:=Tryz.prog) (t:=30) (ty:=30) Tryz.underlying30 hii xF HX9 AD (cap - (i+1)) hdl hsrc (k:=i) (by omega)
 obtain⟨W1,hW1⟩:∃W1,w.drew.setCells g (off+i) ((xs.drop (i+1)).map fun x=>Value.int .i64 x)=W1:=⟨_,rfl⟩
 rw[hW1] at hrun zT hgr
 have e1:i+(m - i)=m:=by omega
 rw[e1] at hrun zT
 obtain⟨YS,hYS⟩:∃YS,xs.take i ++ xs.drop (i+1)=YS:=⟨_,rfl⟩
 have hyl:YS.length=m:=by rw[<-hYS];simp;omega
 have hzl:(xs.drop m).length=1:=by simp;omega
 obtain⟨z,hz⟩:∃z,xs.drop m=[z]:=by
  match xs.drop m,hzl with
  | [z],_=>exact⟨z,rfl⟩
 rw[hYS,hz] at zT
 have hfl:(YS ++ [z]).length=m+1:=by simp[hyl]
 have yN:yf B W1 (zK g off (YS ++ [z]).length cap) (YS ++ [z]):=by rw[hfl,<-hn];exact zT
 have hset:=yf.set (i:=m) (n:=(YS ++ [z]).length) yN (by rw[hfl];omega) 0
 have hse:(YS ++ [z]).set m 0=YS ++ [0]:=by rw[<-hyl];simp
 rw[hse] at hset
 have hlast:yf B (W1.setCell (zH g (off+m)) (zI 0)) (zK g off m cap) YS:=by
  have h9:(YS ++ [z]).length=(YS ++ [0]).length:=by simp
  rw[h9] at hset
  have:=hset.short (n:=m) (by simp;omega)
  rwa [List.take_left' hyl] at this
 obtain⟨_,_,_,_,hsp2⟩:=yN.parts
 have hclr:=Go.Lib.run_clear_slice (P:=Tryz.prog) W1 30 3 0 (zI 0) Tryz.underlying30 (fun w=>by kernel_rfl) rfl rfl g (off+m) 1 (cap - m) (by omega) (fun j hj=>by have hj0:j=0:=(by omega);subst hj0;exact(hsp2 m (by omega)).1) (fun j hj=>by have hj0:j=0:=(by omega);subst hj0;exact(hsp2 m (by omega)).2)
 have hsc:W1.setCells g (off+m) (List.replicate 1 (zI 0))=W1.setCell (zH g (off+m)) (zI 0):=rfl
 rw[hsc] at hclr
 have HFIN:Hid (yf B (W1.setCell (zH g (off+m)) (zI 0)) (zK g off m cap) YS):=hlast
 have HG2:Hid (w.grownBy (W1.setCell (zH g (off+m)) (zI 0)) (some g)):=by
  refine⟨hgr.os,hgr.tape,hgr.output,?_,fun k hk qF=>?_⟩
  ·rw[World.size_setCell];exact hgr.size
  ·rw[Below.heap_setCell _ _ _ _ (fun e=>qF (by rw[e]))];exact hgr.block k hk qF
 have hmc:m+1<=cap:=by omega
 have hm0:(0:Int)<=(m:Int):=by omega
 have Qh:(m:Int)<=(m:Int)+1:=by omega
 have QP:((m:Int)+1).toNat=m+1:=by omega
 have VL:(m:Int)+1<=(cap:Int):=by omega
 have Wb:(0:Int)<=(m:Int)+1:=by omega
 have hm5:m+1 - m=1:=by omega
 rw[hYS]
 clear zT hgr hW1 hsrc hdl hYS hyl hzl hz hfl yN hset hse hlast hsp2 hsc hsp HX9 h e1 hn hg hl
 go_enter Tryz.func121,Tryz.ntmps121
 by_cases hcap:cap=i+1
 ·have him:i=m:=by omega
  subst him
  rw[if_pos hcap] at hAD
  subst hcap hAD
  simp only[Nat.sub_self] at hrun
  rw[show i+1 - i=1 by omega] at hclr
  go_wp2_with fail
  go_region_law (refine VJ rfl (vD rfl (by go_simp) (by go_simp) hrun) ?_)
  all_goals
   clear hrun
   go_wp2
   go_ret
   exact⟨rfl,HFIN.out,HG2.out⟩
 ·rw[if_neg hcap] at hAD
  subst hAD
  go_wp2_with fail
  go_region_law (refine VJ rfl (vD rfl (by go_simp) (by go_simp) hrun) ?_)
  all_goals
   clear hrun
   go_wp2
   go_ret
   exact⟨rfl,HFIN.out,HG2.out⟩
theorem yf.made {B:Nat} {w:World} {e:TypeId} (hB:B<=w.heap.size):yf B (w.alloc (.cells #[] e)) (.slice (some ⟨w.heap.size,0,none⟩) 0 0) [] :=
 .inr ⟨w.heap.size,0,0,rfl,hB,by simp,Nat.le_refl _,Nat.zero_le _,fun i hi=>by simp at hi,fun i hi=>by simp at hi⟩
theorem K9 (v:Value) (xs:List Int) (w:World) (h:vU w v xs) (hl:xs.length<=1000) :
 Calls Tryz.prog 84 #[v] w fun e w'=>∃v',e=.returned v'/\yf w.heap.size w' v' xs/\zO w w':=by
 obtain⟨a,c,rfl,hlm,hc⟩:=id h
 have hnil:∀(W:World) (a:Option Addr) (n c:Nat),(binOp .eql 30 (.slice a n c) (zQ)).run Tryz.prog W=.ok (.bool a.isNone) W:=fun W a n c=>Lib.run_eql_slice_nil W _ _ a n c 0 0 Tryz.underlying30
 cases a with
 | none =>
  have hx:xs=[]:=by
   cases xs with
   | nil=>rfl
   | cons y t=>obtain⟨b,o,e,_⟩:=hc 0 (by simp);cases e
  subst hx
  go_enter Tryz.func84,Tryz.ntmps84
  go_wp2
  go_ret
  exact⟨_,rfl,yf.nil _ _,zS⟩
 | some ad =>
  obtain⟨i0,hii,jT,xF,kf⟩:=info_parts Tryz.infoIntO
  have N1:=zR w (.cells #[] 3)
  have mk:=yf.made (B:=w.heap.size) (w:=w) (e:=3) zD
  have h1:=h.below N1
  have hnews:∀j,(hj:j<xs.length)->(w.alloc (.cells #[] 3)).cell? (ad.add j)=some (.int .i64 xs[j]):=fun j hj=>by
   obtain⟨a2,c2,e2,_,hc2⟩:=h1
   cases e2
   obtain⟨b,o,e3,e4⟩:=hc2 j hj
   cases e3
   rw[Addr.add_lit]
   exact e4
  go_enter Tryz.func84,Tryz.ntmps84
  go_wp2_with (at_builtin;refine QS Tryz.underlying30 hii jT xF kf _ (by rfl) _ _ (by rfl) _ [] (by rfl) mk ad xs.length c xs rfl (by rfl) hnews (.inr ⟨_,_,_,rfl⟩) (by simp;omega) N1.size ?_;intro g2 Xg cp2 w2 yN qA yL;rw[List.nil_append] at yN)
  have B2:=N1.grown qA N1.size (fun q e=>(mk.lt q e).1)
  simp only[List.length_nil,Nat.zero_add] at yN
  clear qA yL
  go_ret
  exact⟨_,rfl,yN,B2⟩
end Go.Proofs.YtbjgjjkgfnfejaaGreatDoor
