/-
  HeapNew of the program: the first call of a program that is ok, in memory of its own; else nothing.
-/
import Derived.Test.YtjbgpcileapogaaGreatRunPlain
import Derived.Test.YtjbgpcileapogaaGreatSMem2
namespace Go.Proofs.YtjbgpcileapogaaGreat
open Go.RowKit
def kr (ms:zM):Nat:=(ms.getD 0 (0,0,[])).2.1.toNat
def uJ (ms:zM):Hp :=
 if yt ms=true then⟨[⟨0,0,List.replicate (kr ms) (0,0),[],-1,false⟩],0,1,[],0⟩ else⟨[],0,0,[],0⟩
theorem Jo {ms:zM} (h:yt ms=true):∃hl:0<ms.length,0<=ms[0].2.1/\ms[0].2.1<=4/\(kr ms:Int)=ms[0].2.1/\kr ms<=4:=by
 unfold yt at h
 simp only[Bool.and_eq_true] at h
 have hl:=zH.1 h.1.1
 have h0:0<ms.length:=by omega
 have ha:=List.all_eq_true.1 h.2 _ (List.getElem_mem h0)
 unfold yG at ha
 simp only[Bool.and_eq_true] at ha
 have a1:=zH.1 ha.1.1.1
 have a2:=zH.1 ha.1.1.2
 have e:kr ms=(ms[0].2.1).toNat:=by simp[kr,h0]
 exact⟨h0,by omega,by omega,by rw[e];omega,by rw[e];omega⟩
theorem yJ.none (B:Nat) (w:World):yJ B w (.slice none 0 0) (.slice none 0 0) ⟨[],0,0,[],0⟩ (fun _=>(.slice none 0 0,.slice none 0 0)) :=
 ⟨⟨.inl ⟨rfl,rfl⟩,fun i hi=>absurd hi zF,fun q hq=>by simp at hq⟩,zj.nil _ _,fun g e=>by simp[Value.ownBlock] at e⟩
set_option maxRecDepth 100000 in
set_option maxHeartbeats 2000000 in
theorem QS (vp:Value) (ms:zM) (w:World) (h:yy w vp ms) :
 Calls Tryz.prog 109 #[.agg #[vp]] w fun e w'=>Below w.heap.size w w'/\∃vc vs,e=.returned (.tuple #[.agg (yn vc vs (uJ ms)),.bool (yt ms)])/\∀w'':World,w'.heap.size<=w''.heap.size->(∀g,w.heap.size<=g->g<w'.heap.size->w''.heap[g]?=w'.heap[g]?)->qa w'' vc vs (uJ ms):=by
 obtain⟨a,zp,rfl,hl,hc⟩:=id h
 have hA:Below w.heap.size w ((w.alloc (.cells #[.slice a ms.length zp] 25)).alloc (.cells #[.slice none 0 0,.int .i64 0,.int .i64 0,.slice none 0 0,.int .i64 0] 29)):=(zB _ _).alloc (by simp) _
 have bp:((w.alloc (.cells #[.slice a ms.length zp] 25)).alloc (.cells #[.slice none 0 0,.int .i64 0,.int .i64 0,.slice none 0 0,.int .i64 0] 29)).cell? ⟨w.heap.size,0,none⟩=some (.slice a ms.length zp):=by simp[go_sem]
 have bh:=qG (w.alloc (.cells #[.slice a ms.length zp] 25)) 29 (.slice none 0 0) (.int .i64 0) (.int .i64 0) (.slice none 0 0) (.int .i64 0)
 simp only[World.size_alloc] at bh
 go_enter Tryz.func109,Tryz.ntmps109
 go_wp2_with fail
 generalize (w.alloc (.cells #[.slice a ms.length zp] 25)).alloc (.cells #[.slice none 0 0,.int .i64 0,.int .i64 0,.slice none 0 0,.int .i64 0] 29)=W0 at *
 have z0:=hA.size
 refine(uQ _ ms _ (h.below hA)).mono ?_
 rintro e w1 ⟨rfl,hb1⟩
 have B1:Below w.heap.size w w1:=hA.trans (hb1.mono z0)
 have bp1:=zc hb1 bp
 have bh1:=zz hb1 bh
 have z1:=B1.size
 have hbz:=bh1.lt
 clear hb1 bp bh hA z0
 obtain⟨⟨x0,x1,x2,x3,x4⟩,⟨f0,f1,f2,f3,f4⟩⟩:=zJ bh1
 by_cases hpf:yt ms=false
 ·have hN:Hid (uJ ms=⟨[],0,0,[],0⟩):=by show uJ ms=_;simp[uJ,hpf]
  have R9:=j9 (jD (jC (j8 (jj bh1 (.slice none 0 0)) (.int .i64 0)) (.int .i64 0)) (.slice none 0 0)) (.int .i64 0)
  have B9:=((((B1.setCell (p:=⟨w.heap.size+1,0,none⟩) (Nat.le_succ _) (.slice none 0 0)).setCell (p:=⟨w.heap.size+1,1,none⟩) (Nat.le_succ _) (.int .i64 0)).setCell (p:=⟨w.heap.size+1,2,none⟩) (Nat.le_succ _) (.int .i64 0)).setCell (p:=⟨w.heap.size+1,3,none⟩) (Nat.le_succ _) (.slice none 0 0)).setCell (p:=⟨w.heap.size+1,4,none⟩) (Nat.le_succ _) (.int .i64 0)
  go_wp2
  generalize ((((w1.setCell ⟨w.heap.size+1,0,none⟩ (.slice none 0 0)).setCell ⟨w.heap.size+1,1,none⟩ (.int .i64 0)).setCell ⟨w.heap.size+1,2,none⟩ (.int .i64 0)).setCell ⟨w.heap.size+1,3,none⟩ (.slice none 0 0)).setCell ⟨w.heap.size+1,4,none⟩ (.int .i64 0)=W9 at *
  obtain⟨⟨q0,q1,q2,q3,q4⟩,_⟩:=zJ R9
  exact bodyPost_ret (v:=.tuple #[.agg #[.slice none 0 0,.int .i64 0,.int .i64 0,.slice none 0 0,.int .i64 0],.bool false]) (by simp[results,Tryz.results109,go_sem,q0,q1,q2,q3,q4]) rfl ⟨B9,.slice none 0 0,.slice none 0 0,by rw[hN.out,hpf];rfl,fun _ _ _=>by rw[hN.out];exact(yJ.none 0 _).at⟩
 have hp:yt ms=true:=by simpa using hpf
 clear hpf
 obtain⟨hl0,ht0,X7,hte,htn⟩:=Jo hp
 have hm1:=h.below B1
 have HN:Hid (uJ ms=⟨[⟨0,0,List.replicate (kr ms) (0,0),[],-1,false⟩],0,1,[],0⟩):=by show uJ ms=_;unfold uJ;rw[if_pos hp]
 have hm2:=hm1.below (zB _ (.cells #[] 98))
 have mk:=(zj.made (B:=0) (w:=w1) (e:=98) zE).at
 have bh2:=zz (zB _ (.cells #[] 98)) bh1
 have B2:=B1.alloc z1 (.cells #[] 98)
 have z2:=B2.size
 have hz12:w1.heap.size<=(w1.alloc (.cells #[] 98)).heap.size:=by simp
 clear x0 x1 x2 x3 x4 f0 f1 f2 f3 f4
 go_wp2_with fail
 generalize w1.alloc (.cells #[] 98)=w2 at *
 refine(Zt _ _ ms 0 [] (-1) (kr ms) _ hm2 hl0 hte.symm (by omega) mk (by simp)).mono ?_
 rintro e w3 ⟨vt,vs,rfl,ht3,hs3,_,hb3⟩
 obtain⟨at',XD,xZ,_⟩:=ht3.slice
 obtain⟨as',cs',hvs,_⟩:=hs3.slice
 subst xZ hvs
 unfold qt
 simp only[List.nil_append,List.length_nil,Nat.sub_zero,List.length_replicate] at ht3 hs3 ⊢
 generalize kr ms=t at *
 have B3:Below w.heap.size w w3:=B2.trans (hb3.mono z2)
 have bh3:=zz hb3 bh2
 have z3:=B3.size
 have hz23:=hb3.size
 have N5:∀o1 o2,Below w3.heap.size w3 ((w3.alloc o1).alloc o2):=fun o1 o2=>(zB _ _).alloc (by simp) _
 have R5:Hid (∀o1 o2,((w3.alloc o1).alloc o2).rowIs (w.heap.size+1) 29 5 (jQ (.slice none 0 0) (.int .i64 0) (.int .i64 0) (.slice none 0 0) (.int .i64 0))):=fun o1 o2=>zz (N5 o1 o2) bh3
 have x0':=fun o1 o2=>(zJ (R5.out o1 o2)).1.1
 have Wl:=fun o1 o2=>(zJ (R5.out o1 o2)).1.2.1
 have x2':=fun o1 o2=>(zJ (R5.out o1 o2)).1.2.2.1
 have x3':=fun o1 o2=>(zJ (R5.out o1 o2)).1.2.2.2.1
 have x4':=fun o1 o2=>(zJ (R5.out o1 o2)).1.2.2.2.2
 have f0':=fun o1 o2=>(zJ (R5.out o1 o2)).2.1
 have f1':=fun o1 o2=>(zJ (R5.out o1 o2)).2.2.1
 have f2':=fun o1 o2=>(zJ (R5.out o1 o2)).2.2.2.1
 have f3':=fun o1 o2=>(zJ (R5.out o1 o2)).2.2.2.2.1
 have f4':=fun o1 o2=>(zJ (R5.out o1 o2)).2.2.2.2.2
 clear hb3 bh2 B2 z2 mk hm1 hm2 hc bh1
 go_wp2_with fail
 have R3:=R5.out (.cells #[.int .i64 0,.int .i64 0,.slice at' t XD,.slice as' 0 cs',.int .i64 (-1),.bool false] 37) (.cells #[] 98)
 have N3:=N5 (.cells #[.int .i64 0,.int .i64 0,.slice at' t XD,.slice as' 0 cs',.int .i64 (-1),.bool false] 37) (.cells #[] 98)
 have S3:=(jx w3 37 (.int .i64 0) (.int .i64 0) (.slice at' t XD) (.slice as' 0 cs') (.int .i64 (-1)) (.bool false)).alloc (.cells #[] 98)
 have M3:=zj.made (B:=w2.heap.size) (w:=w3.alloc (.cells #[.int .i64 0,.int .i64 0,.slice at' t XD,.slice as' 0 cs',.int .i64 (-1),.bool false] 37)) (e:=98) (by simp;omega)
 simp only[World.size_alloc] at M3
 have P3:=ht3.below N3
 have Q3:=hs3.below N3
 have B5:=B3.trans (N3.mono z3)
 clear x0' Wl x2' x3' x4' f0' f1' f2' f3' f4' R5 N5
 generalize (w3.alloc (.cells #[.int .i64 0,.int .i64 0,.slice at' t XD,.slice as' 0 cs',.int .i64 (-1),.bool false] 37)).alloc (.cells #[] 98)=W3 at *
 have hne:∀{v:Value} {xs:zL},zj w2.heap.size W3 v xs->v.ownBlock≠some (w.heap.size+1):=fun hv e=>by have:=(hv.lt _ e).1;omega
 have nt:=hne P3
 have ns:=hne Q3
 have nm:=hne M3
 have keep:∀{v:Value} {xs:zL},zj w2.heap.size W3 v xs->zj w2.heap.size (((((W3.setCell ⟨w.heap.size+1,0,none⟩ (.slice (some ⟨w3.heap.size,0,none⟩) 1 1)).setCell ⟨w.heap.size+1,1,none⟩ (.int .i64 0)).setCell ⟨w.heap.size+1,2,none⟩ (.int .i64 1)).setCell ⟨w.heap.size+1,3,none⟩ (.slice (some ⟨w3.heap.size+1,0,none⟩) 0 0)).setCell ⟨w.heap.size+1,4,none⟩ (.int .i64 0)) v xs:=fun hv =>
  ((((hv.set_other (p:=⟨w.heap.size+1,0,none⟩) _ (hne hv)).set_other (p:=⟨w.heap.size+1,1,none⟩) _ (hne hv)).set_other (p:=⟨w.heap.size+1,2,none⟩) _ (hne hv)).set_other (p:=⟨w.heap.size+1,3,none⟩) _ (hne hv)).set_other (p:=⟨w.heap.size+1,4,none⟩) _ (hne hv)
 have P9:=keep P3
 have Q9:=keep Q3
 have M9:=keep M3
 have R9:=j9 (jD (jC (j8 (jj R3 (.slice (some ⟨w3.heap.size,0,none⟩) 1 1)) (.int .i64 0)) (.int .i64 1)) (.slice (some ⟨w3.heap.size+1,0,none⟩) 0 0)) (.int .i64 0)
 have B9:=((((B5.setCell (p:=⟨w.heap.size+1,0,none⟩) (Nat.le_succ _) (.slice (some ⟨w3.heap.size,0,none⟩) 1 1)).setCell (p:=⟨w.heap.size+1,1,none⟩) (Nat.le_succ _) (.int .i64 0)).setCell (p:=⟨w.heap.size+1,2,none⟩) (Nat.le_succ _) (.int .i64 1)).setCell (p:=⟨w.heap.size+1,3,none⟩) (Nat.le_succ _) (.slice (some ⟨w3.heap.size+1,0,none⟩) 0 0)).setCell (p:=⟨w.heap.size+1,4,none⟩) (Nat.le_succ _) (.int .i64 0)
 have hw3:=bh3.lt
 have S9:=vN (k:=w.heap.size+1) (o:=4) (vN (k:=w.heap.size+1) (o:=3) (vN (k:=w.heap.size+1) (o:=2) (vN (k:=w.heap.size+1) (o:=1) (vN (k:=w.heap.size+1) (o:=0) S3 (by omega) (.slice (some ⟨w3.heap.size,0,none⟩) 1 1)) (by omega) (.int .i64 0)) (by omega) (.int .i64 1)) (by omega) (.slice (some ⟨w3.heap.size+1,0,none⟩) 0 0)) (by omega) (.int .i64 0)
 clear keep hne
 generalize ((((W3.setCell ⟨w.heap.size+1,0,none⟩ (.slice (some ⟨w3.heap.size,0,none⟩) 1 1)).setCell ⟨w.heap.size+1,1,none⟩ (.int .i64 0)).setCell ⟨w.heap.size+1,2,none⟩ (.int .i64 1)).setCell ⟨w.heap.size+1,3,none⟩ (.slice (some ⟨w3.heap.size+1,0,none⟩) 0 0)).setCell ⟨w.heap.size+1,4,none⟩ (.int .i64 0)=W9 at *
 obtain⟨⟨q0,q1,q2,q3,q4⟩,_⟩:=zJ R9
 have O9:∀W:World,W9.heap.size<=W.heap.size->(∀g,w.heap.size<=g->g<W9.heap.size->W.heap[g]?=W9.heap[g]?)->qa W (.slice (some ⟨w3.heap.size,0,none⟩) 1 1) (.slice (some ⟨w3.heap.size+1,0,none⟩) 0 0) ⟨[⟨0,0,List.replicate t (0,0),[],-1,false⟩],0,1,[],0⟩:=by
  intro W hz hk
  obtain⟨⟨c0,c1,c2,c3,c4,c5⟩,_⟩:=zZ (S9.of_block (hk _ (by omega) S9.lt))
  have P':=P9.kept hz (fun g e=>hk g (by have:=(P9.lt g e).1;omega) (P9.lt g e).2)
  have Q':=Q9.kept hz (fun g e=>hk g (by have:=(Q9.lt g e).1;omega) (Q9.lt g e).2)
  have M':=M9.kept hz (fun g e=>hk g (by have:=(M9.lt g e).1;omega) (M9.lt g e).2)
  exact⟨⟨_,1,rfl,by unfold maxLen;simp,fun i hi=>by
   obtain rfl:i=0:=by simpa using hi
   exact⟨w3.heap.size,0,_,_,rfl,c0,c1,c2,c3,c4,c5,P'.at,Q'.at⟩⟩,M'.at⟩
 exact bodyPost_ret (v:=.tuple #[.agg #[.slice (some ⟨w3.heap.size,0,none⟩) 1 1,.int .i64 0,.int .i64 1,.slice (some ⟨w3.heap.size+1,0,none⟩) 0 0,.int .i64 0],.bool true]) (by simp[results,Tryz.results109,go_sem,q0,q1,q2,q3,q4]) rfl ⟨B9,_,_,by rw[HN.out,hp];rfl,by rw[HN.out];exact O9⟩
theorem zaG (l:List Nat) (i:Nat) (h:i<(ug l).length):(ug l)[i]=((l[i]'(by simpa [ug] using h):Nat):Int):=by simp[ug]
theorem zbz {ops:Array Oper} {rest:List Oper} {o:Oper} {act:Act} {Q:Exit->Act->World->Prop} (w:World) (hgd:o.guard=none) (s x:Operand)
 (ho:o.op=.call {callee:=.builtin .append,args:=#[s,x],argTypes:=#[39,39]}) (B:Nat) (v:Value) (L:List Int) (hs:act.eval s=v) (zx:zO B w v L) (k:Int) (H c:Nat) (hH:w.heap.size=H)
 (hx:act.eval x=.slice (some ⟨H,0,none⟩) 1 c) (hL:L.length<=900000) (hB:B<=H)
 (h:∀g off zp w',zO B w' (.slice (some ⟨g,off,none⟩) (L.length+1) zp) (L ++ [k])->w.grownBy w' v.ownBlock->(v.ownBlock=some g\/H<=g)->g<w'.heap.size ->
  wpList Tryz.prog ops Q rest (act.put o.dst (.slice (some ⟨g,off,none⟩) (L.length+1) zp)) w') :
 wpList Tryz.prog ops Q (o :: rest) act (w.alloc (.cells #[.int .i64 k] 3)):=by
 obtain⟨i0,hi,hz0,hz1,hz2⟩:=info_parts Tryz.infoInt2
 exact Jc Tryz.underlying39 hi hz0 hz1 hz2 w hgd s x ho v L hs zx k H c hH hx hL hB h
def Hp.short (h:Hp):Prop:=h.za.length<=1000/\∀i,(hi:i<h.za.length)->h.za[i].zg.length<=1000/\h.za[i].ze.length<=1000
theorem jc.nil (n:Nat):jc n []:=⟨by simp,fun p hp=>by cases hp⟩
theorem ZQ {ms:zM} (h:yt ms=true):uJ ms=⟨[⟨0,0,List.replicate (kr ms) (0,0),[],-1,false⟩],0,1,[],0⟩:=if_pos h
theorem zbx (n:Int) (k:Nat):yk n (List.replicate k (0,0))=true:=by
 refine wO fun i hi=>?_
 simp[yN]
theorem zcr {ms:zM} (h:yt ms=true):ym ms (uJ ms)=true:=by
 obtain⟨hl,h0,h4,ht,_⟩:=Jo h
 have hg:ms.getD 0 (0,0,[])=ms[0]:=by simp[hl]
 rw[ZQ h]
 have hv:=zbx 1 (kr ms)
 have hz:yk 1 []=true:=rfl
 have hz2:yk (ms.length:Int) []=true:=rfl
 have hm:yO 0 0 ((ms.length:Int) - 1)=true:=zH.2 ⟨by omega,by omega⟩
 have hpc:yO 0 0 (ms[0].2.2.length:Int)=true:=zH.2 ⟨by omega,by omega⟩
 have hc:yT ms 1 ⟨0,0,List.replicate (kr ms) (0,0),[],-1,false⟩=true:=by
  have a2:yO (-1) (-1) 0=true:=by decide
  have hg2:ms[0]?=some ms[0]:=List.getElem?_eq_getElem hl
  simp[yT,hg2,ht,hm,hpc,hv,hz,a2]
 have he:kZ ⟨[⟨0,0,List.replicate (kr ms) (0,0),[],-1,false⟩],0,1,[],0⟩=true:=by
  simp[kZ,yg,yR,yY,wb]
 have hd:qw ms ⟨[⟨0,0,List.replicate (kr ms) (0,0),[],-1,false⟩],0,1,[],0⟩=true:=by
  have a1:yO 0 (-1) (1 - 1)=true:=by decide
  have a2:yO 1 1 30=true:=by decide
  have a3:yO 0 0 3=true:=by decide
  simp[qw,h,hz2,a2,a3]
  exact a1
 simp only[ym,hd,he,List.all_cons,List.all_nil,List.length_cons,List.length_nil,Nat.zero_add,hc,Bool.and_self]
theorem SM.push {A:Nat->Prop} {B:Nat} {w W0 w2:World} {bo:Nat} {vp vs:Value} {g off n zp:Nat} {ms:zM} {h:Hp} {V:Nat->Value × Value} (k:SM A B w bo vp (.slice (some ⟨g,off,none⟩) n zp) vs ms h V) {j:Nat} (hj:j<h.za.length) {v':Value} {st:zL} (hB:B<=w.heap.size)
 (hW:Below w.heap.size w W0) (hg:W0.grownBy w2 (V j).2.ownBlock) (hr:zj B w2 v' st) (hv:v'.ownBlock=(V j).2.ownBlock\/v'.ownBlock=some W0.heap.size) :
 (∃V',SM A B (w2.setCell ⟨g,off+j * 6+3,none⟩ v') bo vp (.slice (some ⟨g,off,none⟩) n zp) vs ms {h with za:=h.za.set j {h.za[j] with ze:=st}} V')/\Cm A B w (w2.setCell ⟨g,off+j * 6+3,none⟩ v'):=by
 have hz0:=hW.size
 have hz2:=hg.size
 have hgB:=(k.own.c.lt (g:=g) (.inl rfl)).1
 have hs:=(k.own.c.lists j hj).2
 have hbl:∀q,q<w.heap.size->(V j).2.ownBlock≠some q->w2.heap[q]?=w.heap[q]?:=fun q hq hn=>(hg.block q (by omega) (fun e=>hn e.symm)).trans (hW.block q hq)
 have b2:Below B w w2:=⟨hg.os.trans hW.os,hg.tape.trans hW.tape,hg.output.trans hW.output,by omega,fun q hq=>hbl q (by omega) (fun e=>by have:=(hs.lt q e).1;omega)⟩
 have b3:=b2.setCell (p:=⟨g,off+j * 6+3,none⟩) hgB v'
 have r:=k.put hj (QM k.own.c hj v' st (by omega) hbl hr (fun q e=>by
  rcases hv with x | x
  ·exact .inl (by rw[<-x];exact e)
  ·rw[x] at e;cases e;exact .inr hz0)) b3
 exact⟨⟨_,r.1⟩,r.2⟩
theorem vi {h:Hp} {j:Nat} (hn:h.now=j) (hj:j<h.za.length) (x:Int × Int):xN h x={h with za:=h.za.set j {h.za[j] with ze:=h.za[j].ze ++ [x]}}:=by
 have e:h.now.toNat=j:=by omega
 unfold xN jw
 rw[xC hn hj,e]
theorem VK {h:Hp} {j:Nat} (hn:h.now=j) (c:Cl):jw h c={h with za:=h.za.set j c}:=by
 have e:h.now.toNat=j:=by omega
 unfold jw
 rw[e]
theorem zcl {α β:Type} {f:α->β} {l:List α} {k:Nat} (h:k<l.length):(l.take k).map f ++ [f l[k]]=(l.take (k+1)).map f:=by
 rw[List.take_add_one,List.getElem?_eq_getElem h,List.map_append]
 rfl
set_option maxRecDepth 100000 in
set_option maxHeartbeats 2000000 in
theorem Xf (vt vs:Value) (c:Cl) (w:World) (ht:zR w vt c.zg) (hs:zR w vs c.ze) (hb:c.zg.length<=1000/\c.ze.length<=1000) :
 Calls Tryz.prog 65 #[.agg (qt vt vs c)] w fun e w'=>∃Ku vs',e=.returned (.agg (qt Ku vs' c))/\zj w.heap.size w' Ku c.zg/\zj w.heap.size w' vs' c.ze/\(∀g,Ku.ownBlock=some g->vs'.ownBlock≠some g)/\Below w.heap.size w w':=by
 obtain⟨at',XD,xZ⟩:=ht.shape
 obtain⟨as',cs',hvs⟩:=hs.shape
 subst xZ hvs
 unfold qt
 obtain⟨hb1,hb2⟩:=hb
 have hA:Below w.heap.size w ((w.alloc (.cells #[.int .i64 c.m,.int .i64 c.pc,.slice at' c.zg.length XD,.slice as' c.ze.length cs',.int .i64 c.zf,.bool c.zv] 37)).alloc (.cells #[.int .i64 0,.int .i64 0,.slice none 0 0,.slice none 0 0,.int .i64 0,.bool false] 37)):=(zB _ _).alloc (by simp) _
 have bc:=(jx w 37 (.int .i64 c.m) (.int .i64 c.pc) (.slice at' c.zg.length XD) (.slice as' c.ze.length cs') (.int .i64 c.zf) (.bool c.zv)).alloc (.cells #[.int .i64 0,.int .i64 0,.slice none 0 0,.slice none 0 0,.int .i64 0,.bool false] 37)
 have bz:=jx (w.alloc (.cells #[.int .i64 c.m,.int .i64 c.pc,.slice at' c.zg.length XD,.slice as' c.ze.length cs',.int .i64 c.zf,.bool c.zv] 37)) 37 (.int .i64 0) (.int .i64 0) (.slice none 0 0) (.slice none 0 0) (.int .i64 0) (.bool false)
 simp only[World.size_alloc] at bz
 go_enter Tryz.func65,Tryz.ntmps65
 go_upto_region 1 with fail
 generalize (w.alloc (.cells #[.int .i64 c.m,.int .i64 c.pc,.slice at' c.zg.length XD,.slice as' c.ze.length cs',.int .i64 c.zf,.bool c.zv] 37)).alloc (.cells #[.int .i64 0,.int .i64 0,.slice none 0 0,.slice none 0 0,.int .i64 0,.bool false] 37)=W1 at *
 have zA:=hA.size
 have yA:=bz.lt
 have N1:=zB W1 (.cells #[] 98)
 have mk1:=zj.made (B:=W1.heap.size) (w:=W1) (e:=98) zD
 have ht1:=(ht.below hA).below N1
 have bc1:=zz N1 bc
 have Wq:=zz N1 bz
 obtain⟨⟨x0,x1,x2,x3,x4,x5⟩,xf⟩:=zZ bc1
 clear xf
 go_upto_region 2 with(at_builtin;refine qM _ (by rfl) _ _ (by rfl) W1.heap.size _ _ [] c.zg (by rfl) (by rfl) mk1 ht1 (by simp;omega) N1.size ?_;intro v2 w2 hrow2 hg2 hbk2;rw[List.nil_append] at hrow2;obtain⟨a2,c2,hv2,_⟩:=hrow2.slice;subst hv2;have bc2:=bc1.of_block (hg2.block w.heap.size bc1.lt (fun e=>by have:=(mk1.lt _ e.symm).1;omega));have bz2:=Wq.of_block (hg2.block (w.heap.size+1) Wq.lt (fun e=>by have:=(mk1.lt _ e.symm).1;omega));obtain⟨⟨y0,y1,y2,y3,y4,y5⟩,k0,k1,k2,k3,k4,k5⟩:=zZ bc2)
 have B2:Below w.heap.size w w2:=(hA.trans (N1.mono zA)).grown hg2 (by have:=N1.size;omega) (fun q e=>by have:=(mk1.lt q e).1;omega)
 have hz2:W1.heap.size<=w2.heap.size:=Nat.le_trans N1.size hg2.size
 clear hg2 hbk2 mk1 ht1 bc1 Wq N1 x0 x1 x2 x3 x4 x5 y0 y1 y2 y3 y4 y5 k0 k1 k2 k3 k4 k5 bc bz hA
 have hne2:(Value.slice a2 c.zg.length c2).ownBlock≠some w.heap.size:=fun e=>by have:=(hrow2.lt _ e).1;omega
 have P3:=hrow2.set_other (p:=⟨w.heap.size,2,none⟩) (.slice a2 c.zg.length c2) hne2
 have bc3:=ZB bc2 (.slice a2 c.zg.length c2)
 have bz3:=vN (k:=w.heap.size) (o:=2) bz2 (by omega) (.slice a2 c.zg.length c2)
 have B3:=B2.setCell (p:=⟨w.heap.size,2,none⟩) zD (.slice a2 c.zg.length c2)
 have hz3:W1.heap.size<=(w2.setCell ⟨w.heap.size,2,none⟩ (.slice a2 c.zg.length c2)).heap.size:=by simp[World.setCell];exact hz2
 generalize w2.setCell ⟨w.heap.size,2,none⟩ (.slice a2 c.zg.length c2)=w3 at *
 clear bc2 bz2 B2 hrow2
 have N3:=zB w3 (.cells #[] 98)
 have mk3:=zj.made (B:=w3.heap.size) (w:=w3) (e:=98) zD
 have hs3:=(hs.below B3).below N3
 have bc4:=zz N3 bc3
 have bz4:=zz N3 bz3
 have P4:=P3.below N3
 have z3:=B3.size
 obtain⟨⟨x0,x1,x2,x3,x4,x5⟩,xf⟩:=zZ bc4
 clear xf
 go_upto_region 3 with(at_builtin;refine qM _ (by rfl) _ _ (by rfl) w3.heap.size _ _ [] c.ze (by rfl) (by rfl) mk3 hs3 (by simp;omega) N3.size ?_;intro v5 w5 yo hg5 hbk5;rw[List.nil_append] at yo;obtain⟨a5,c5,hv5,_⟩:=yo.slice;subst hv5;have bc5:=bc4.of_block (hg5.block w.heap.size bc4.lt (fun e=>by have:=(mk3.lt _ e.symm).1;omega));have bz5:=bz4.of_block (hg5.block (w.heap.size+1) bz4.lt (fun e=>by have:=(mk3.lt _ e.symm).1;omega));obtain⟨⟨y0,y1,y2,y3,y4,y5⟩,k0,k1,k2,k3,k4,k5⟩:=zZ bc5)
 have B5:Below w.heap.size w w5:=(B3.trans (N3.mono z3)).grown hg5 (by have:=N3.size;omega) (fun q e=>by have:=(mk3.lt q e).1;omega)
 have P5:=P4.kept hg5.size fun q e=>hg5.block q (P4.lt q e).2 (fun e2=>by have h1:=(mk3.lt _ e2.symm).1;have h2:=(P3.lt q e).2;omega)
 have hap:∀q,(Value.slice a2 c.zg.length c2).ownBlock=some q->(Value.slice a5 c.ze.length c5).ownBlock≠some q:=fun q e e2=>by have h1:=(P3.lt q e).2;have h2:=(yo.lt q e2).1;omega
 clear hg5 hbk5 mk3 hs3 bc4 bz4 N3 x0 x1 x2 x3 x4 x5 y0 y1 y2 y3 y4 y5 k0 k1 k2 k3 k4 k5 bc3 bz3 P3 P4 B3
 have hne5:(Value.slice a5 c.ze.length c5).ownBlock≠some w.heap.size:=fun e=>by have:=(yo.lt _ e).1;omega
 have P6:=P5.set_other (p:=⟨w.heap.size,3,none⟩) (.slice a5 c.ze.length c5) hne2
 have Q6:=yo.set_other (p:=⟨w.heap.size,3,none⟩) (.slice a5 c.ze.length c5) hne5
 have bc6:=ZC bc5 (.slice a5 c.ze.length c5)
 have bz6:=vN (k:=w.heap.size) (o:=3) bz5 (by omega) (.slice a5 c.ze.length c5)
 have B6:=B5.setCell (p:=⟨w.heap.size,3,none⟩) zD (.slice a5 c.ze.length c5)
 generalize w5.setCell ⟨w.heap.size,3,none⟩ (.slice a5 c.ze.length c5)=w6 at *
 clear P5 yo bc5 bz5 B5
 have nt1:(Value.slice a2 c.zg.length c2).ownBlock≠some (w.heap.size+1):=fun e=>by have:=(P6.lt _ e).1;omega
 have ns1:(Value.slice a5 c.ze.length c5).ownBlock≠some (w.heap.size+1):=fun e=>by have:=(Q6.lt _ e).1;omega
 obtain⟨⟨x0,x1,x2,x3,x4,x5⟩,xf⟩:=zZ bc6
 obtain⟨⟨y0,y1,y2,y3,y4,y5⟩,k0,k1,k2,k3,k4,k5⟩:=zZ bz6
 clear xf
 have R9:=JY (ZD (ZC (ZB (Qj (JX bz6 (.int .i64 c.m)) (.int .i64 c.pc)) (.slice a2 c.zg.length c2)) (.slice a5 c.ze.length c5)) (.int .i64 c.zf)) (.bool c.zv)
 have P9:=(((((P6.set_other (p:=⟨w.heap.size+1,0,none⟩) (.int .i64 c.m) nt1).set_other (p:=⟨w.heap.size+1,1,none⟩) (.int .i64 c.pc) nt1).set_other (p:=⟨w.heap.size+1,2,none⟩) (.slice a2 c.zg.length c2) nt1).set_other (p:=⟨w.heap.size+1,3,none⟩) (.slice a5 c.ze.length c5) nt1).set_other (p:=⟨w.heap.size+1,4,none⟩) (.int .i64 c.zf) nt1).set_other (p:=⟨w.heap.size+1,5,none⟩) (.bool c.zv) nt1
 have Q9:=(((((Q6.set_other (p:=⟨w.heap.size+1,0,none⟩) (.int .i64 c.m) ns1).set_other (p:=⟨w.heap.size+1,1,none⟩) (.int .i64 c.pc) ns1).set_other (p:=⟨w.heap.size+1,2,none⟩) (.slice a2 c.zg.length c2) ns1).set_other (p:=⟨w.heap.size+1,3,none⟩) (.slice a5 c.ze.length c5) ns1).set_other (p:=⟨w.heap.size+1,4,none⟩) (.int .i64 c.zf) ns1).set_other (p:=⟨w.heap.size+1,5,none⟩) (.bool c.zv) ns1
 have B9:=(((((B6.setCell (p:=⟨w.heap.size+1,0,none⟩) (Nat.le_succ _) (.int .i64 c.m)).setCell (p:=⟨w.heap.size+1,1,none⟩) (Nat.le_succ _) (.int .i64 c.pc)).setCell (p:=⟨w.heap.size+1,2,none⟩) (Nat.le_succ _) (.slice a2 c.zg.length c2)).setCell (p:=⟨w.heap.size+1,3,none⟩) (Nat.le_succ _) (.slice a5 c.ze.length c5)).setCell (p:=⟨w.heap.size+1,4,none⟩) (Nat.le_succ _) (.int .i64 c.zf)).setCell (p:=⟨w.heap.size+1,5,none⟩) (Nat.le_succ _) (.bool c.zv)
 go_wp2
 generalize (((((w6.setCell ⟨w.heap.size+1,0,none⟩ (.int .i64 c.m)).setCell ⟨w.heap.size+1,1,none⟩ (.int .i64 c.pc)).setCell ⟨w.heap.size+1,2,none⟩ (.slice a2 c.zg.length c2)).setCell ⟨w.heap.size+1,3,none⟩ (.slice a5 c.ze.length c5)).setCell ⟨w.heap.size+1,4,none⟩ (.int .i64 c.zf)).setCell ⟨w.heap.size+1,5,none⟩ (.bool c.zv)=W9 at *
 obtain⟨⟨q0,q1,q2,q3,q4,q5⟩,_⟩:=zZ R9
 exact bodyPost_ret (v:=.agg #[.int .i64 c.m,.int .i64 c.pc,.slice a2 c.zg.length c2,.slice a5 c.ze.length c5,.int .i64 c.zf,.bool c.zv]) (by simp[results,Tryz.results65,go_sem,q0,q1,q2,q3,q4,q5]) rfl ⟨_,_,rfl,P9.mono (by omega),Q9.mono (by omega),hap,B9⟩
theorem qo.cl {w:World} {a:Option Addr} {n c:Nat} {cs:List Cl} (h:qo w (.slice a n c) cs) {p:Nat} (hp:p<cs.length):∃b o vt vs,a=some ⟨b,o,none⟩/\J9 w b (o+p * 6) vt vs cs[p]:=by
 obtain⟨a',c',e,_,hc⟩:=h
 obtain⟨b,o,vt,vs,rfl,hx⟩:=hc p hp
 injection e with e1 e2 e3
 exact⟨b,o,vt,vs,e1,hx⟩
end Go.Proofs.YtjbgpcileapogaaGreat
namespace Go.Proofs.YtjbgpcileapogaaGreat
open Go.RowKit
def XU (n:Nat) (ps:List Nat):List Int:=(List.range n).map fun(p:Nat)=>qg ps p
theorem ub (n:Nat) (ps:List Nat):(XU n ps).length=n:=by simp[XU]
theorem Ql (n:Nat) (ps:List Nat) (p:Nat) (h:p<(XU n ps).length):(XU n ps)[p]=qg ps p:=by simp[XU]
theorem zbt {n:Nat} {ps:List Nat} {p:Nat} (hp:p<n) (h:qg ps p=-1):(XU n ps).set p (ps.length:Int)=XU n (ps ++ [p]):=by
 refine List.ext_getElem (by simp[XU]) fun i h1 h2=>?_
 rw[Ql,WY h]
 by_cases e:i=p
 ·subst e;simp
 ·rw[List.getElem_set_ne (Ne.symm e),Ql,if_neg (by omega)]
def two (x0 x1:Value):Nat->Value:=fun i=>if i=0 then x0 else x1
theorem VQ (w:World) (t:TypeId) (x0 x1:Value):(w.alloc (.cells #[x0,x1] t)).rowIs w.heap.size t 2 (two x0 x1) :=
 ⟨_,Go.Deep.blk_alloc_new _ _,rfl,fun i hi=>by match i,hi with | 0,_=>rfl | 1,_=>rfl⟩
theorem kh {w:World} {g:Nat} {t:TypeId} {x0 x1:Value} (h:w.rowIs g t 2 (two x0 x1)):(w.cell? ⟨g,0,none⟩=some x0/\w.cell? ⟨g,1,none⟩=some x1)/\(w.frozen? ⟨g,0,none⟩=false/\w.frozen? ⟨g,1,none⟩=false) :=
 ⟨⟨h.cell (i:=0) (by decide),h.cell (i:=1) (by decide)⟩,h.frozen 0,h.frozen 1⟩
theorem U6 {w:World} {g:Nat} {t:TypeId} {x0 x1:Value} (h:w.rowIs g t 2 (two x0 x1)) (v:Value):(w.setCell ⟨g,0,none⟩ v).rowIs g t 2 (two v x1) :=
 (h.set 0 v).congr fun i hi=>by match i,hi with | 0,_=>rfl | 1,_=>rfl
structure Qs (A:Nat->Prop) (B bo n:Nat) (ps:List Nat) (vp vn:Value) (w:World):Prop where
 le:B<=bo
 box:w.rowIs bo 125 2 (two vp vn)
 p:zO B w vp (ug ps)
 n:zO B w vn (XU n ps)
 pb:vp.ownBlock≠some bo
 nb:vn.ownBlock≠some bo
 pn:∀g,vp.ownBlock=some g->vn.ownBlock≠some g
 av:∀g,A g->g≠bo/\g<w.heap.size/\vp.ownBlock≠some g/\vn.ownBlock≠some g
structure Came (A:Nat->Prop) (B:Nat) (w w':World):Prop where
 b:Below B w w'
 a:∀g,A g->w'.heap[g]?=w.heap[g]?
theorem Came.refl (A:Nat->Prop) (B:Nat) (w:World):Came A B w w:=⟨zC,fun _ _=>rfl⟩
theorem Came.trans {A:Nat->Prop} {B:Nat} {a b c:World} (h:Came A B a b) (k:Came A B b c):Came A B a c :=
 ⟨h.b.trans k.b,fun g hg=>(k.a g hg).trans (h.a g hg)⟩
set_option maxRecDepth 100000 in
set_option maxHeartbeats 2000000 in
theorem Jh (A:Nat->Prop) (B bo n:Nat) (ps:List Nat) (vp vn:Value) (p:Int) (w:World) (h:Qs A B bo n ps vp vn w) (hps:jc n ps) (hn:n<=1000) :
 Calls Tryz.prog 139 #[.pointer (some ⟨bo,0,none⟩),.int .i64 p] w fun e w'=>e=.returned (.tuple #[])/\(∃vp',Qs A B bo n (xm n ps p) vp' vn w')/\Came A B w w':=by
 obtain⟨ap,cp,hvp,_⟩:=h.p.slice
 obtain⟨an,cn,XG,_⟩:=h.n.slice
 rw[qP] at hvp
 rw[ub] at XG
 subst hvp XG
 have hpl:=hps.len
 obtain⟨⟨x0,x1⟩,f0,f1⟩:=kh h.box
 by_cases hI:yO p 0 ((n:Int) - 1)=false
 ·have hE:Hid (xm n ps p=ps):=zaW (fun e=>by have:yO p 0 ((n:Int) - 1)=true:=zH.2 (by omega);rw[hI] at this;cases this)
  go_enter Tryz.func139,Tryz.ntmps139
  go_wp2_with (go_at_call 61;refine(yd _ _ _).mono ?_;rintro e w' ⟨rfl,hw⟩;obtain rfl:=hw.symm;rw[hI])
  go_end0
  exact⟨rfl,⟨_,by rw[hE.out];exact h⟩,Came.refl _ _ _⟩
 have hI':yO p 0 ((n:Int) - 1)=true:=by simpa using hI
 clear hI
 have hI2:=zH.1 hI'
 obtain⟨k,rfl⟩:=Int.eq_ofNat_of_zero_le hI2.1
 have hk:k<n:=by omega
 have hkz:(k:Int)<(n:Int):=by omega
 obtain⟨gn,on,c1,e1,hgB,hgn⟩:=h.n.form (by rw[ub];omega)
 obtain rfl:an=some ⟨gn,on,none⟩:=by injection e1
 clear e1
 obtain⟨d1,fd⟩:=h.n.cell (i:=k) (by rw[ub];exact hk)
 rw[Ql] at d1
 by_cases hN:qg ps k=-1
 ·rw[hN] at d1
  have hE:Hid (xm n ps k=ps ++ [k]):=zaX hk hN
  have hset:=h.n.set k (by rw[ub];exact hk) (ps.length:Int)
  rw[zbt hk hN] at hset
  have hpo:=h.pn
  have hbn:bo≠gn:=fun e=>h.nb (by rw[e];rfl)
  have HPB:Hid ((Value.slice ap ps.length cp).ownBlock≠some bo):=h.pb
  have hle:=h.le
  have hp2:=h.p.set_other (p:=⟨gn,on+k,none⟩) (.int .i64 (ps.length:Int)) (fun e=>hpo _ e rfl)
  have Up:(w.setCell ⟨gn,on+k,none⟩ (.int .i64 (ps.length:Int))).rowIs bo 125 2 (two (.slice ap ps.length cp) (.slice (some ⟨gn,on,none⟩) n cn)):=h.box.of_block (Below.heap_setCell _ _ _ _ hbn)
  have HAV:Hid (∀g,A g->g≠bo/\g<w.heap.size/\(Value.slice ap ps.length cp).ownBlock≠some g/\(Value.slice (some ⟨gn,on,none⟩) n cn).ownBlock≠some g):=h.av
  have C2:Came A B w (w.setCell ⟨gn,on+k,none⟩ (.int .i64 (ps.length:Int))):=⟨(Below.refl B w).setCell (p:=⟨gn,on+k,none⟩) hgB _,fun g hg=>Below.heap_setCell _ _ _ _ (fun e=>(h.av g hg).2.2.2 (by rw[e];rfl))⟩
  have hz2:(w.setCell ⟨gn,on+k,none⟩ (.int .i64 (ps.length:Int))).heap.size=w.heap.size:=by simp[World.setCell]
  go_enter Tryz.func139,Tryz.ntmps139
  go_upto_region 1 with(go_at_call 61;refine(yd _ _ _).mono ?_;rintro e w' ⟨rfl,hw⟩;obtain rfl:=hw.symm;rw[hI'])
  obtain⟨⟨y0,y1⟩,g0,g1⟩:=kh Up
  go_region_held3 (fun w'=>w'.cell? ⟨bo,0,none⟩=some (.slice ap ps.length cp)/\w'.cell? ⟨bo,1,none⟩=some (.slice (some ⟨gn,on,none⟩) n cn))
   (first | exact⟨y0,y1⟩ | exact⟨x0,x1⟩ | go_keep)
   (fail)
  have zdz:=hset.below zC.drew
  have hp3:=hp2.below zC.drew
  have hbx3:=zz zC.drew Up
  have C3:Came A B w (w.setCell ⟨gn,on+k,none⟩ (.int .i64 (ps.length:Int))).drew:=⟨C2.b.drew,C2.a⟩
  have hz3:(w.setCell ⟨gn,on+k,none⟩ (.int .i64 (ps.length:Int))).drew.heap.size≥w.heap.size:=Nat.le_of_eq hz2.symm
  have HBO:Hid (bo<w.heap.size):=h.box.lt
  clear hset hp2 Up C2 hz2 y0 y1 g0 g1 x0 x1 f0 f1 d1 fd h
  generalize (w.setCell ⟨gn,on+k,none⟩ (.int .i64 (ps.length:Int))).drew=w3 at *
  obtain⟨⟨x0,x1⟩,f0,f1⟩:=kh hbx3
  have Z2:=HBO.out
  go_wp2_with (at_builtin;refine zbz _ (by rfl) _ _ (by rfl) B _ (ug ps) (by rfl) hp3 (k:Int) _ _ rfl (by rfl) (by rw[qP];omega) (by omega) ?_;intro g4 o4 c4 w4 hrow4 hg4 hb4 hlt4;have hbx4:=hbx3.of_block (hg4.block bo hbx3.lt (fun e=>HPB.out e.symm));obtain⟨⟨q0,q1⟩,m0,m1⟩:=kh hbx4)
  have hz4:=hg4.size
  have hbg:g4≠bo:=fun e=>by
   rcases hb4 with h4 | h4
   ·exact HPB.out (by rw[h4,e])
   ·omega
  rw[KN,<-hE.out] at hrow4
  have zdA:=zdz.kept hg4.size fun q e=>hg4.block q (zdz.lt q e).2 (fun e2=>hpo q e2.symm e)
  refine bodyPost_end (results_none rfl _ _ _) rfl ⟨rfl,⟨_,⟨hle,U6 hbx4 _,hrow4.set_other _ (fun e=>by simp[Value.ownBlock] at e;omega),?_,fun e=>by simp[Value.ownBlock] at e;omega,fun e=>by simp[Value.ownBlock] at e;omega,fun q e e2=>?_,fun q hq=>?_⟩⟩,⟨?_,fun q hq=>?_⟩⟩
  ·rw[<-hE.out] at zdA
   exact zdA.set_other _ (fun e=>by simp[Value.ownBlock] at e;omega)
  ·simp[Value.ownBlock] at e e2
   subst e e2
   rcases hb4 with h4 | h4
   ·exact hpo _ h4 rfl
   ·omega
  ·obtain⟨a1,a2,a3,a4⟩:=HAV.out q hq
   refine⟨a1,by simp[World.setCell];omega,fun e=>?_,a4⟩
   simp[Value.ownBlock] at e
   subst e
   rcases hb4 with h4 | h4
   ·exact a3 h4
   ·omega
  ·exact(C3.b.grown hg4 (by omega) (fun q e=>(hp3.lt q e).1)).setCell (p:=⟨bo,0,none⟩) hle _
  ·obtain⟨a1,a2,a3,a4⟩:=HAV.out q hq
   rw[Below.heap_setCell _ _ _ _ a1,hg4.block q (by omega) (fun e=>a3 e.symm)]
   exact C3.a q hq
 ·have hE:Hid (xm n ps k=ps):=zbD hN
  go_enter Tryz.func139,Tryz.ntmps139
  go_wp2_with (go_at_call 61;refine(yd _ _ _).mono ?_;rintro e w' ⟨rfl,hw⟩;obtain rfl:=hw.symm;rw[hI'])
  go_end0
  exact⟨rfl,⟨_,by rw[hE.out];exact h⟩,Came.refl _ _ _⟩
end Go.Proofs.YtjbgpcileapogaaGreat
namespace Go.Proofs.YtjbgpcileapogaaGreat
open Go.RowKit
theorem Qs.alloc {A:Nat->Prop} {B bo n:Nat} {ps:List Nat} {vp vn:Value} {w:World} (h:Qs A B bo n ps vp vn w) (o:Obj):Qs A B bo n ps vp vn (w.alloc o) :=
 have hb:=zB w o
 ⟨h.le,zz hb h.box,h.p.below hb,h.n.below hb,h.pb,h.nb,h.pn,fun g hg=>⟨(h.av g hg).1,by have:=(h.av g hg).2.1;simp;omega,(h.av g hg).2.2⟩⟩
theorem Came.alloc {A:Nat->Prop} {B:Nat} {w w':World} (h:Came A B w w') (hb:B<=w'.heap.size) (hA:∀g,A g->g<w'.heap.size) (o:Obj):Came A B w (w'.alloc o) :=
 ⟨h.b.alloc hb o,fun g hg=>(Below.heap_alloc _ _ _ (hA g hg)).trans (h.a g hg)⟩
set_option maxRecDepth 100000 in
set_option maxHeartbeats 2000000 in
theorem Zg (A:Nat->Prop) (B bo n:Nat) (ps:List Nat) (vp vn vl:Value) (vals:zL) (w0 w:World) (h:Qs A B bo n ps vp vn w) (hps:jc n ps) (hn:n<=1000) (hl:zR w0 vl vals) (hb:Below w0.heap.size w0 w) (h0:w0.heap.size<=B) :
 Calls Tryz.prog 140 #[.pointer (some ⟨bo,0,none⟩),vl] w fun e w'=>e=.returned (.tuple #[])/\(∃vp',Qs A B bo n (comeV n ps vals) vp' vn w')/\Came A B w w':=by
 obtain⟨al,cl,rfl,hll,hc⟩:=hl
 unfold maxLen at hll
 go_enter Tryz.func140,Tryz.ntmps140
 go_wp2
 go_loopg [8] vals.length (fun g i wr=>∃k:Nat,k<=vals.length/\g=vals.length - k/\i=.int .i64 k/\(∃vp',Qs A B bo n (comeV n ps (vals.take k)) vp' vn wr)/\Came A B w wr)
 case atStart=>exact⟨0,Nat.zero_le _,rfl,rfl,⟨vp,h⟩,Came.refl _ _ _⟩
 case round =>
  obtain⟨k,hk,rfl,rfl,⟨vp1,hO⟩,hC⟩:=hrel
  have hP:jc n (comeV n ps (vals.take k)):=hps.comeV _
  by_cases hlt:k<vals.length
  ·obtain⟨b,o,e1,c0,c1⟩:=hc k hlt
   subst e1
   have hb2:Below w0.heap.size w0 wr:=hb.trans (hC.b.mono h0)
   have d0:=zc hb2 c0
   have d1:=zc hb2 c1
   have hkz:(k:Int)<(vals.length:Int):=by omega
   have hst:=Wt (n:=n) (ps:=ps) hlt
   have hOA:=hO.alloc (.cells #[.int .i64 vals[k].1,.int .i64 vals[k].2] 98)
   have hCA:=hC.alloc (Nat.le_trans hO.le (Nat.le_of_lt hO.box.lt)) (fun g hg=>(hO.av g hg).2.1) (.cells #[.int .i64 vals[k].1,.int .i64 vals[k].2] 98)
   generalize hvk:vals[k]=x at *
   clear hvk c0 c1
   by_cases hkd:x.1=2
   ·rw[if_pos hkd] at hst
    rw[hkd] at d0 hOA hCA
    have HST:Hid (comeV n ps (vals.take (k+1))=xm n (comeV n ps (vals.take k)) x.2):=hst
    clear hst hO hC
    go_wp2_with fail
    refine(Jh A B bo n _ vp1 vn x.2 _ hOA hP hn).mono ?_
    rintro e w2 ⟨rfl,⟨vp2,hO2⟩,hC2⟩
    have hC3:=hCA.trans hC2
    rw[<-HST.out] at hO2
    clear hOA hCA hC2
    go_wp2
    go_roundg (vals.length - (k+1))
    case measure=>omega
    case rel=>exact⟨k+1,by omega,rfl,by go_num,⟨vp2,hO2⟩,hC3⟩
   ·rw[if_neg hkd] at hst
    rw[<-hst] at hOA
    clear hst hO hC
    go_wp2
    go_roundg (vals.length - (k+1))
    case measure=>omega
    case rel=>exact⟨k+1,by omega,rfl,by go_num,⟨vp1,hOA⟩,hCA⟩
  ·obtain rfl:k=vals.length:=by omega
   rw[List.take_length] at hO
   go_wp2
   go_end0
   exact⟨rfl,⟨vp1,hO⟩,hC⟩
set_option maxRecDepth 100000 in
set_option maxHeartbeats 2000000 in
theorem Qb (A:Nat->Prop) (B bo n:Nat) (ps:List Nat) (vp vn:Value) (p:Int) (w:World) (h:Qs A B bo n ps vp vn w) (hps:jc n ps) (hn:n<=1000) :
 Calls Tryz.prog 141 #[.pointer (some ⟨bo,0,none⟩),.int .i64 p] w fun e w'=>e=.returned (.int .i64 (qg ps p))/\w'=w:=by
 obtain⟨an,cn,XG,_⟩:=h.n.slice
 rw[ub] at XG
 subst XG
 obtain⟨⟨x0,x1⟩,f0,f1⟩:=kh h.box
 by_cases hI:yO p 0 ((n:Int) - 1)=false
 ·have hE:Hid (qg ps p=-1):=wF (fun i hi e=>by
   have:=hps.lt _ (List.getElem_mem hi)
   have h2:yO p 0 ((n:Int) - 1)=true:=zH.2 (by omega)
   rw[hI] at h2;cases h2)
  go_enter Tryz.func141,Tryz.ntmps141
  go_wp2_with (go_at_call 61;refine(yd _ _ _).mono ?_;rintro e w' ⟨rfl,hw⟩;obtain rfl:=hw.symm;rw[hI])
  go_ret
  exact⟨by rw[hE.out];rfl,rfl⟩
 have hI':yO p 0 ((n:Int) - 1)=true:=by simpa using hI
 clear hI
 have hI2:=zH.1 hI'
 obtain⟨k,rfl⟩:=Int.eq_ofNat_of_zero_le hI2.1
 have hk:k<n:=by omega
 have hkz:(k:Int)<(n:Int):=by omega
 obtain⟨gn,on,c1,e1,hgB,hgn⟩:=h.n.form (by rw[ub];omega)
 obtain rfl:an=some ⟨gn,on,none⟩:=by injection e1
 clear e1
 obtain⟨d1,fd⟩:=h.n.cell (i:=k) (by rw[ub];exact hk)
 rw[Ql] at d1
 go_enter Tryz.func141,Tryz.ntmps141
 go_wp2_with (go_at_call 61;refine(yd _ _ _).mono ?_;rintro e w' ⟨rfl,hw⟩;obtain rfl:=hw.symm;rw[hI'])
 go_ret
 exact⟨rfl,rfl⟩
theorem vj {a b:Int} (h:a=b):Ending.returned (.int .i64 a)=Ending.returned (.int .i64 b):=by rw[h]
def Kg (xs:List Int) (v:Int):Int:=match xs.findIdx? (fun x=>x == v) with | some i=>(i:Int) | none=>-1
theorem Jv {xs:List Int} {v:Int} {k:Nat} (hk:k<xs.length) (he:xs[k]=v) (hno:∀j,(hj:j<xs.length)->j<k->xs[j]≠v):Kg xs v=(k:Int):=by
 have:xs.findIdx? (fun x=>x == v)=some k:=by
  rw[List.findIdx?_eq_some_iff_getElem]
  exact⟨hk,by simp[he],fun j hj=>by simp[hno j (by omega) hj]⟩
 unfold Kg
 rw[this]
theorem KI {xs:List Int} {v:Int} (hno:∀j,(hj:j<xs.length)->xs[j]≠v):Kg xs v=-1:=by
 have:xs.findIdx? (fun x=>x == v)=none:=by
  rw[List.findIdx?_eq_none_iff]
  intro x hx
  obtain⟨j,hj,rfl⟩:=List.getElem_of_mem hx
  simp[hno j hj]
 unfold Kg
 rw[this]
theorem zcf {xs:List Int} {v:Int}:decide (0<=Kg xs v)=decide (v∈xs):=by
 by_cases h:v∈xs
 ·obtain⟨j,hj,e⟩:=List.getElem_of_mem h
  have hs:(xs.findIdx? (fun x=>x == v)).isSome=true:=by
   rw[List.findIdx?_isSome]
   exact List.any_eq_true.2 ⟨v,h,by simp⟩
  obtain⟨i,hi⟩:=Option.isSome_iff_exists.1 hs
  unfold Kg
  rw[hi]
  simp[h]
 ·have:=KI (xs:=xs) (v:=v) (fun j hj e=>h (e ▸ List.getElem_mem hj))
  rw[this]
  simp[h]
set_option maxRecDepth 100000 in
set_option maxHeartbeats 4000000 in
theorem Zb (v:Value) (xs:List Int) (x:Int) (w:World) (h:jO w v xs) :
 Calls Tryz.prog 117 #[v,.int .i64 x] w fun e w'=>e=.returned (.int .i64 (Kg xs x))/\w'=w:=by
 obtain⟨a,zp,rfl,hl,hc⟩:=h
 unfold maxLen at hl
 go_enter Tryz.func117,Tryz.ntmps117
 go_wp2
 go_loopg [5,8] xs.length (fun g _ i wr=>∃k:Nat,k<=xs.length/\g=xs.length - k/\i=.int .i64 k/\wr=w/\∀j,(hj:j<xs.length)->j<k->xs[j]≠x)
 case atStart=>exact⟨0,Nat.zero_le _,rfl,rfl,rfl,fun j _ h=>absurd h zF⟩
 case round =>
  obtain⟨k,hk,rfl,rfl,hw,hall⟩:=hrel
  obtain rfl:=hw.symm
  have H:Hid (∀j,(hj:j<xs.length)->j<k->xs[j]≠x):=hall
  clear hall hw
  by_cases hlt:k<xs.length
  ·obtain⟨b,o,rfl,c0⟩:=hc k hlt
   have hkz:(k:Int)<(xs.length:Int):=by omega
   by_cases he:xs[k]=x
   ·have HE:Hid (Kg xs x=(k:Int)):=Jv hlt he H.out
    rw[he] at c0
    go_wp2
    go_ret
    exact⟨vj HE.out.symm,rfl⟩
   ·have hne:(x == xs[k])=false:=by simp;exact fun e=>he e.symm
    have HN:Hid (∀j,(hj:j<xs.length)->j<k+1->xs[j]≠x):=fun j hj hjk=>by
     by_cases e:j=k
     ·subst e;exact he
     ·exact H.out j hj (by omega)
    have hne2:¬(x=xs[k]):=fun e=>he e.symm
    clear H
    go_wp2
    go_roundg (xs.length - (k+1))
    case measure=>omega
    case rel=>exact⟨k+1,by omega,rfl,by go_num,rfl,HN.out⟩
  ·obtain rfl:k=xs.length:=by omega
   have HE:Hid (Kg xs x=-1):=KI fun j hj=>H.out j hj hj
   go_wp2
   go_ret
   exact⟨vj HE.out.symm,rfl⟩
theorem YD (v:Value) (xs:List Int) (x:Int) (w:World) (h:jO w v xs) :
 Calls Tryz.prog 129 #[v,.int .i64 x] w fun e w'=>e=.returned (.bool (decide (x∈xs)))/\w'=w:=by
 obtain⟨a,zp,hv⟩:=h.shape
 subst hv
 go_enter Tryz.func129,Tryz.ntmps129
 go_wp2_with (go_at_call 117;refine(Zb _ xs _ _ h).mono ?_;rintro e w' ⟨rfl,hw⟩;obtain rfl:=hw.symm)
 go_ret
 exact⟨zm zcf,rfl⟩
def ua (ts:List Tw) (k:Nat):Nat:=((ts.take k).filter fun t=>t.page == -1).length
theorem WZ {ts:List Tw} {k:Nat} (h:k<ts.length):ua ts (k+1)=ua ts k+(if ts[k].page=-1 then 1 else 0):=by
 unfold ua
 rw[List.take_add_one,List.getElem?_eq_getElem h,List.filter_append]
 simp only[Option.toList_some,List.length_append]
 by_cases e:ts[k].page=-1 <;> simp[e]
theorem UM (ts:List Tw) (k:Nat):ua ts k<=k:=by
 unfold ua
 exact Nat.le_trans (List.length_filter_le _ _) (by simp;omega)
def vB (m:Mc):Nat:=zY m.zd+ua m.zh m.zh.length
set_option maxRecDepth 100000 in
set_option maxHeartbeats 4000000 in
theorem V9 (vp vo vt vs:Value) (m:Mc) (w:World) (h:yF w vp vo vt vs m) (hn:m.zd.length<=1048576) (hf:zY m.zd<=1099511627776) (htn:m.zh.length<=1099511627776) :
 Calls Tryz.prog 74 #[.agg (zI vp vo vt vs m).toArray] w fun e w'=>e=.returned (.int .i64 (vB m:Int))/\Below w.heap.size w w':=by
 obtain⟨ap,cp,hvp,hlp,hcp⟩:=id h.p
 obtain⟨ao,co,xz,hlo,hco⟩:=id h.o
 obtain⟨at',ct,xZ,hlt',hct⟩:=id h.t
 obtain⟨as',cs,hvs⟩:=h.s.shape
 subst hvp xz xZ hvs
 unfold zI
 go_enter Tryz.func74,Tryz.ntmps74
 go_upto_region 1 with fail
 refine ye (fun W=>Below w.heap.size w W/\Bx W w.heap.size 42 [.int .i64 m.cells,.slice ap m.zd.length cp,.slice ao m.order.length co,.int .i64 m.now,.slice at' m.zh.length ct,.int .i64 m.born,.slice as' m.zl.length cs,.int .i64 m.code]) ⟨zB _ _,Bx.new w _ _⟩ ?_
 rintro W ⟨hb,hm⟩
 obtain⟨⟨m0,m1,m2,m3,m4,m5,m6,m7⟩,_⟩:=xy hm
 have HF:=uG _ _ _ _ m W (h.below hb) hn hf
 unfold zI at HF
 have zb:=hb.size
 go_wp2_with fail
 refine HF.mono ?_
 rintro e W1 ⟨rfl,t1⟩
 have hb1:=hb.trans (t1.mono zb)
 have hm1:=hm.below t1
 have z1:=hb1.size
 have HC:Hid (vB m=zY m.zd+ua m.zh m.zh.length):=rfl
 clear HF t1 hm hb zb m0 m1 m2 m3 m4 m5 m6 m7
 obtain⟨⟨_,_,_,_,m4,_,_,_⟩,_⟩:=xy hm1
 go_wp2_with fail
 go_loopg [3,5,11] m.zh.length (fun g n _ i wr=>∃k:Nat,k<=m.zh.length/\g=m.zh.length - k/\i=.int .i64 k/\n=.int .i64 ((zY m.zd+ua m.zh k:Nat):Int)/\Below w.heap.size w wr)
 case atStart=>exact⟨0,Nat.zero_le _,rfl,rfl,by simp[ua],hb1⟩
 case round =>
  clear m4 hm1 hb1 z1
  obtain⟨k,hk,rfl,rfl,rfl,hb⟩:=hrel
  by_cases hlt:k<m.zh.length
  ·obtain⟨b,o,vt,vs,rfl,Z3⟩:=hct k hlt
   obtain⟨d0,d1,d2,d3,d4,d5,d6,d7,dt,ds⟩:=Z3.below hb
   obtain⟨a1,k1,e1⟩:=dt.shape
   obtain⟨a2,k2,e2⟩:=ds.shape
   rw[e1] at d4
   rw[e2] at d5
   have hkz:(k:Int)<(m.zh.length:Int):=by omega
   have hof:=WZ hlt
   have hol:=UM m.zh k
   have zb:=hb.size
   have HB2:Hid (∀o,Below w.heap.size w (wr.alloc o)):=fun o=>hb.alloc zb _
   clear e1 e2 dt ds Z3 hct
   obtain⟨n,hn'⟩:∃n,zY m.zd+ua m.zh k=n:=⟨_,rfl⟩
   have hnb:n<=2199023255552:=by omega
   by_cases hp:m.zh[k].page=-1
   ·rw[if_pos hp] at hof
    have HN:Hid (zY m.zd+ua m.zh (k+1)=n+1):=by show _=_;omega
    rw[hp] at d0
    rw[hn']
    clear hof hn' hol hb
    go_wp2
    go_roundg (m.zh.length - (k+1))
    case measure=>omega
    case rel=>exact⟨k+1,by omega,rfl,by go_num,by rw[HN.out];simp,HB2.out _⟩
   ·rw[if_neg hp] at hof
    have HN:Hid (zY m.zd+ua m.zh (k+1)=n):=by show _=_;omega
    have hpe:(m.zh[k].page == -1)=false:=by simpa using hp
    rw[hn']
    clear hof hn' hol hb
    go_wp2
    go_roundg (m.zh.length - (k+1))
    case measure=>omega
    case rel=>exact⟨k+1,by omega,rfl,by go_num,by rw[HN.out],HB2.out _⟩
  ·obtain rfl:k=m.zh.length:=by omega
   go_wp2
   go_ret
   exact⟨vj (by rw[HC.out]),hb⟩
def ju (m:Mc):Bool:=decide (m.order.length=m.zd.length) && (List.range m.zd.length).all fun i=>decide ((i:Int)∈m.order)
theorem zbh {m:Mc} {k:Nat} (hk:k<m.zd.length) (h:¬((k:Int)∈m.order)):ju m=false:=by
 unfold ju
 rw[Bool.and_eq_false_iff]
 right
 rw[List.all_eq_false]
 exact⟨k,List.mem_range.2 hk,by simpa using h⟩
theorem zaa {m:Mc} (hl:m.order.length=m.zd.length) (h:∀k,k<m.zd.length->(k:Int)∈m.order):ju m=true:=by
 unfold ju
 rw[Bool.and_eq_true_iff]
 exact⟨by simpa using hl,List.all_eq_true.2 fun k hk=>by simpa using h k (List.mem_range.1 hk)⟩
set_option maxRecDepth 100000 in
set_option maxHeartbeats 4000000 in
theorem UQ (vp vo vt vs:Value) (m:Mc) (w:World) (h:yF w vp vo vt vs m) :
 Calls Tryz.prog 71 #[.agg (zI vp vo vt vs m).toArray] w fun e w'=>e=.returned (.bool (ju m))/\Below w.heap.size w w':=by
 obtain⟨ap,cp,hvp,hlp,hcp⟩:=id h.p
 obtain⟨ao,co,xz,hlo,hco⟩:=id h.o
 obtain⟨at',ct,xZ,hlt',hct⟩:=id h.t
 obtain⟨as',cs,hvs⟩:=h.s.shape
 subst hvp xz xZ hvs
 unfold zI
 unfold maxLen at hlp hlo
 have HO:=h.o
 go_enter Tryz.func71,Tryz.ntmps71
 go_upto_region 1 with fail
 refine ye (fun W=>Below w.heap.size w W/\Bx W w.heap.size 42 [.int .i64 m.cells,.slice ap m.zd.length cp,.slice ao m.order.length co,.int .i64 m.now,.slice at' m.zh.length ct,.int .i64 m.born,.slice as' m.zl.length cs,.int .i64 m.code]) ⟨zB _ _,Bx.new w _ _⟩ ?_
 rintro W ⟨hb,hm⟩
 obtain⟨⟨m0,m1,m2,m3,m4,m5,m6,m7⟩,_⟩:=xy hm
 have HOW:Hid (jO W (.slice ao m.order.length co) m.order):=HO.below hb
 by_cases hle:m.order.length=m.zd.length
 case neg =>
  have HE:Hid (ju m=false):=by show _=_;unfold ju;simp[hle]
  have hlz:¬((m.order.length:Int)=(m.zd.length:Int)):=by omega
  go_wp2
  go_ret
  exact⟨zm HE.out.symm,hb⟩
 have HLE:Hid (m.order.length=m.zd.length):=hle
 rw[hle] at m2 HOW
 clear hle
 go_wp2_with fail
 go_loopg [3,14] m.zd.length (fun g _ i wr=>∃k:Nat,k<=m.zd.length/\g=m.zd.length - k/\i=.int .i64 k/\wr=W/\∀j,j<k->(j:Int)∈m.order)
 case atStart=>exact⟨0,Nat.zero_le _,rfl,rfl,rfl,fun j h=>absurd h zF⟩
 case round =>
  obtain⟨k,hk,rfl,rfl,hw,hall⟩:=hrel
  obtain rfl:=hw.symm
  have H:Hid (∀j,j<k->(j:Int)∈m.order):=hall
  clear hall hw
  by_cases hlt:k<m.zd.length
  ·have hkz:(k:Int)<(m.zd.length:Int):=by omega
   obtain⟨f,hf⟩:∃f,decide ((k:Int)∈m.order)=f:=⟨_,rfl⟩
   have HC:=YD _ m.order (k:Int) W HOW.out
   rw[hf] at HC
   go_wp2_with fail
   refine HC.mono ?_
   rintro e W1 ⟨rfl,hw⟩
   obtain rfl:=hw.symm
   clear hw HC
   cases f
   ·have HE:Hid (ju m=false):=zbh hlt (by simpa using hf)
    go_wp2
    go_ret
    exact⟨zm HE.out.symm,hb⟩
   ·have HN:Hid (∀j,j<k+1->(j:Int)∈m.order):=fun j hj=>by
     by_cases e:j=k
     ·subst e;simpa using hf
     ·exact H.out j (by omega)
    clear hf H
    go_wp2
    go_roundg (m.zd.length - (k+1))
    case measure=>omega
    case rel=>exact⟨k+1,by omega,rfl,by go_num,rfl,HN.out⟩
  ·obtain rfl:k=m.zd.length:=by omega
   have HE:Hid (ju m=true):=zaa HLE.out H.out
   go_wp2
   go_ret
   exact⟨zm HE.out.symm,hb⟩
theorem Ub (a:Option Addr) (n c:Nat) (w:World) (hn:n<=1099511627776):Calls Tryz.prog 132 #[.slice a n c] w fun e w'=>e=.returned (.int .i64 ((10+n:Nat):Int))/\w'=w:=by
 go_enter Tryz.func132,Tryz.ntmps132
 go_wp2
 go_ret
 exact⟨vj (by omega),rfl⟩
theorem Uh:∀(l A:List Int),l.Nodup->(∀k∈l,k∈A)->l.length<=A.length
 | [],_,_,_=>Nat.zero_le _
 | x :: l,A,hn,hA=>by
  have hx:x∈A:=hA x (List.mem_cons_self ..)
  obtain⟨hx1,hn1⟩:=List.nodup_cons.1 hn
  have:=Uh l (A.erase x) hn1 fun k hk=>(List.mem_erase_of_ne (show k≠x from fun e=>hx1 (by rw[<-e];exact hk))).2 (hA k (List.mem_cons_of_mem _ hk))
  rw[List.length_erase_of_mem hx] at this
  have h0:0<A.length:=List.length_pos_of_mem hx
  simp only[List.length_cons]
  omega
theorem zcu {m:Mc} (h:ju m=true) {x:Int} (hx:x∈m.order):0<=x/\x<(m.zd.length:Int):=by
 unfold ju at h
 rw[Bool.and_eq_true_iff] at h
 have hl:m.order.length=m.zd.length:=by simpa using h.1
 have ha:=List.all_eq_true.1 h.2
 by_cases hr:0<=x/\x<(m.zd.length:Int)
 ·exact hr
 ·exfalso
  have hnd:((List.range m.zd.length).map fun i:Nat=>(i:Int)).Nodup:=by
   refine List.Pairwise.map _ (fun a b hab e=>hab (by omega)) List.nodup_range
  have hmem:∀k∈(List.range m.zd.length).map fun i:Nat=>(i:Int),k∈m.order:=fun k hk=>by
   obtain⟨i,hi,rfl⟩:=List.mem_map.1 hk
   simpa using ha i hi
  have hnx:x∉(List.range m.zd.length).map fun i:Nat=>(i:Int):=fun hk=>by
   obtain⟨i,hi,rfl⟩:=List.mem_map.1 hk
   exact hr ⟨by omega,by have:=List.mem_range.1 hi;omega⟩
  have:=Uh (x :: (List.range m.zd.length).map fun i:Nat=>(i:Int)) m.order (List.nodup_cons.2 ⟨hnx,hnd⟩) (fun k hk=>by
   rcases List.mem_cons.1 hk with rfl | hk
   ·exact hx
   ·exact hmem k hk)
  simp at this
  omega
theorem ZJ {B:Nat} {w0 w:World} (h:Below B w0 w) (n:Nat):Below B w0 (w.drewN n):=⟨h.os,h.tape,h.output,h.size,h.block⟩
def Pg.none:Pg:=⟨-1,[]⟩
def uK (m:Mc) (i:Int):Pg:=m.zd.getD i.toNat Pg.none
theorem kB {m:Mc} {k:Nat} (h:k<m.zd.length):uK m (k:Int)=m.zd[k]:=by simp[uK,h]
def XM (m:Mc):Bool:=m.now == -1 || (m.now == m.order.getD (m.order.length - 1) 0 && decide (0<(uK m m.now).zk.length))
set_option maxRecDepth 100000 in
set_option maxHeartbeats 4000000 in
theorem zbc (vp vo vt vs:Value) (m:Mc) (w:World) (h:yF w vp vo vt vs m) (ho:ju m=true) (hp1:1<=m.zd.length) :
 Calls Tryz.prog 72 #[.agg (zI vp vo vt vs m).toArray] w fun e w'=>e=.returned (.bool (XM m))/\Below w.heap.size w w':=by
 have HLEQ:Hid (m.order.length=m.zd.length):=by show _=_;unfold ju at ho;rw[Bool.and_eq_true_iff] at ho;simpa using ho.1
 have HIN:Hid (∀x∈m.order,0<=x/\x<(m.zd.length:Int)):=fun x hx=>zcu ho hx
 clear ho
 obtain⟨ap,cp,hvp,hlp,hcp⟩:=id h.p
 obtain⟨ao,co,xz,hlo,hco⟩:=id h.o
 obtain⟨at',ct,xZ,hlt',hct⟩:=id h.t
 obtain⟨as',cs,hvs⟩:=h.s.shape
 subst hvp xz xZ hvs
 unfold zI
 unfold maxLen at hlp hlo
 go_enter Tryz.func72,Tryz.ntmps72
 go_upto_region 1 with fail
 refine ye (fun W=>Below w.heap.size w W/\Bx W w.heap.size 42 [.int .i64 m.cells,.slice ap m.zd.length cp,.slice ao m.order.length co,.int .i64 m.now,.slice at' m.zh.length ct,.int .i64 m.born,.slice as' m.zl.length cs,.int .i64 m.code]) ⟨zB _ _,Bx.new w _ _⟩ ?_
 rintro W ⟨hb,hm⟩
 obtain⟨⟨m0,m1,m2,m3,m4,m5,m6,m7⟩,_⟩:=xy hm
 by_cases QB:m.now=-1
 ·have HE:Hid (XM m=true):=by show _=_;unfold XM;rw[QB];rfl
  rw[QB] at m3
  go_wp2
  go_ret
  exact⟨zm HE.out.symm,hb⟩
 have hne:(m.now == -1)=false:=by simpa using QB
 obtain⟨q,hq⟩:∃q,m.order.length=q+1:=⟨m.order.length - 1,by have:=HLEQ.out;omega⟩
 have hql:q<m.order.length:=by omega
 obtain⟨b,o,hao,c0⟩:=hco q hql
 subst hao
 have d0:=zc hb c0
 have HL:Hid (m.order.getD (m.order.length - 1) 0=m.order[q]):=by show _=_;rw[hq];simp[hql]
 have hrng:=HIN.out _ (List.getElem_mem hql)
 obtain⟨last,hla⟩:∃l,m.order[q]=l:=⟨_,rfl⟩
 rw[hla] at HL d0 hrng
 have hq1:((m.order.length:Int)) - 1=(q:Int):=by omega
 have hqz:(q:Int)<(m.order.length:Int):=by omega
 have hwq:IntKind.i64.wrap ((m.order.length:Int) - 1)=(q:Int):=by rw[IntKind.wrap_i64];omega
 have hbl:b<w.heap.size:=World.block_lt_of_cell? _ _ c0
 clear hla c0 hco hq hq1
 obtain⟨k,hk⟩:=Int.eq_ofNat_of_zero_le hrng.1
 subst hk
 have hkl:k<m.zd.length:=by omega
 obtain⟨b2,o2,vf,hap,jN⟩:=hcp k hkl
 subst hap
 obtain⟨af,cf,Z4⟩:=jN.f.shape
 have e1:=zc hb jN.c1
 rw[Z4] at e1
 obtain⟨nf,hnf⟩:∃nf,m.zd[k].zk.length=nf:=⟨_,rfl⟩
 have HPG:Hid ((uK m (k:Int)).zk.length=nf):=by show _=_;rw[kB hkl,hnf]
 rw[hnf] at e1
 clear hnf jN hcp Z4
 have hkz:(k:Int)<(m.zd.length:Int):=by omega
 by_cases hnl:m.now=(k:Int)
 ·have HE:Hid (XM m=decide (0<nf)):=by show _=_;unfold XM;rw[hne,HL.out,hnl,HPG.out];simp
  rw[hnl] at m3 hne
  go_wp2_with fail
  go_quiet (fail)
  go_wp2
  go_ret
  exact⟨zm HE.out.symm,ZJ hb _⟩
 ·have HE:Hid (XM m=false):=by show _=_;unfold XM;rw[hne,HL.out];simp[hnl]
  have hnl2:(m.now == (k:Int))=false:=by simpa using hnl
  go_wp2_with fail
  go_quiet (fail)
  go_wp2
  go_ret
  exact⟨zm HE.out.symm,ZJ hb _⟩
end Go.Proofs.YtjbgpcileapogaaGreat
