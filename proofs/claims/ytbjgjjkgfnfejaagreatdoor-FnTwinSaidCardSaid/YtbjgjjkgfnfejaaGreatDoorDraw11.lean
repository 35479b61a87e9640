/-
  What draws: a program that is written into: one of its operations, one of its methods' numbers, one of its rows of operations cut short.
-/
import Derived.Test.YtbjgjjkgfnfejaaGreatDoorDraw7
import Derived.Test.YtbjgjjkgfnfejaaGreatDoorIntsM
namespace Go.Proofs.YtbjgjjkgfnfejaaGreatDoor
set_option maxHeartbeats 4000000
set_option maxRecDepth 100000
open Go.RowKit
theorem za2 (L:List (Int × Int × Value)):∀(i:Nat) (h:i<L.length) (x:Int),xQ (L.set i (x,L[i].2.1,L[i].2.2))=(xQ L).set (i * 3) (zI x):=by
 induction L with
 | nil=>intro i h;exact absurd h yB
 | cons a l ih =>
  intro i h x
  cases i with
  | zero=>rfl
  | succ i =>
   have:=ih i (by simpa using h) x
   rw[show(i+1) * 3=(i * 3)+3 by omega]
   simp only[List.set_cons_succ,List.getElem_cons_succ]
   show [Value.int .i64 a.1,zI a.2.1,a.2.2] ++ xQ _=([Value.int .i64 a.1,zI a.2.1,a.2.2] ++ xQ l).set (i * 3+3) _
   rw[this]
   rfl
theorem za3 (L:List (Int × Int × Value)):∀(i:Nat) (h:i<L.length) (x:Int),xQ (L.set i (L[i].1,x,L[i].2.2))=(xQ L).set (i * 3+1) (zI x):=by
 induction L with
 | nil=>intro i h;exact absurd h yB
 | cons a l ih =>
  intro i h x
  cases i with
  | zero=>rfl
  | succ i =>
   have:=ih i (by simpa using h) x
   rw[show(i+1) * 3+1=(i * 3+1)+3 by omega]
   simp only[List.set_cons_succ,List.getElem_cons_succ]
   show [Value.int .i64 a.1,zI a.2.1,a.2.2] ++ xQ _=([Value.int .i64 a.1,zI a.2.1,a.2.2] ++ xQ l).set (i * 3+1+3) _
   rw[this]
   rfl
theorem za4 (L:List (Int × Int × Value)):∀(i:Nat) (h:i<L.length) (x:Value),xQ (L.set i (L[i].1,L[i].2.1,x))=(xQ L).set (i * 3+2) x:=by
 induction L with
 | nil=>intro i h;exact absurd h yB
 | cons a l ih =>
  intro i h x
  cases i with
  | zero=>rfl
  | succ i =>
   have:=ih i (by simpa using h) x
   rw[show(i+1) * 3+2=(i * 3+2)+3 by omega]
   simp only[List.set_cons_succ,List.getElem_cons_succ]
   show [Value.int .i64 a.1,zI a.2.1,a.2.2] ++ xQ _=([Value.int .i64 a.1,zI a.2.1,a.2.2] ++ xQ l).set (i * 3+2+3) _
   rw[this]
   rfl
theorem jY.frozen {B:Nat} {w:World} {g n c:Nat} {ms:List (Int × Int × Value)} (h:jY B w (zK g 0 n c) ms) (j:Nat):w.frozen? (zH g j)=false:=by
 rcases h.2 with⟨e,_⟩ | ⟨g',cap',cur,e,_,hg,_⟩
 ·cases e
 ·cases e
  unfold World.frozen?;rw[hg];simp
theorem yh.frozen {B:Nat} {w:World} {g n c:Nat} {L:yH} (h:yh B w (zK g 0 n c) L) (j:Nat):w.frozen? (zH g j)=false:=by
 rcases h.2 with⟨e,_⟩ | ⟨g',cap',cur,e,_,hg,_⟩
 ·cases e
 ·cases e
  unfold World.frozen?;rw[hg];simp
theorem yh.cell {B:Nat} {w:World} {g n c:Nat} {L:yH} (h:yh B w (zK g 0 n c) L) (i:Nat) (hi:i<L.length) :
 w.cell? (zH g (i * 2))=some (zI L[i].1)/\w.cell? (zH g (i * 2+1))=some (zI L[i].2):=by
 have k0:=World.ownsRow.cells h (g:=g) rfl _ _ (Q3 L i hi).1
 have k1:=World.ownsRow.cells h (g:=g) rfl _ _ (Q3 L i hi).2
 rw[Addr.add_lit,Nat.zero_add] at k0 k1
 exact⟨k0,k1⟩
theorem yh.room {B:Nat} {w:World} {g n c:Nat} {L:yH} (h:yh B w (zK g 0 n c) L):n<=c:=by
 rcases h.2 with⟨e,_⟩ | ⟨g',cap',cur,e,_,hg,hc,_⟩
 ·cases e
 ·cases e;exact hc
theorem zcy (L:yH):∀(i:Nat) (h:i<L.length) (x:Int),ua (L.set i (x,L[i].2))=(ua L).set (i * 2) (zI x):=by
 induction L with
 | nil=>intro i h;exact absurd h yB
 | cons a l ih =>
  intro i h x
  cases i with
  | zero=>rfl
  | succ i =>
   have:=ih i (by simpa using h) x
   rw[show(i+1) * 2=(i * 2)+2 by omega]
   simp only[List.set_cons_succ,List.getElem_cons_succ]
   show [Value.int .i64 a.1,zI a.2] ++ ua _=([Value.int .i64 a.1,zI a.2] ++ ua l).set (i * 2+2) _
   rw[this]
   rfl
theorem yh.setK {B:Nat} {w:World} {g c:Nat} {L:yH} (h:yh B w (zK g 0 L.length c) L) (i:Nat) (hi:i<L.length) (x:Int) :
 yh B (w.setCell (zH g (i * 2)) (zI x)) (zK g 0 L.length c) (L.set i (x,L[i].2))/\w.grownBy (w.setCell (zH g (i * 2)) (zI x)) (some g):=by
 obtain⟨s1,s2⟩:=World.ownsRow.stored h (i * 2) (zI x)
 refine⟨?_,s2⟩
 show World.ownsRow _ _ _ _ _ _ _
 rw[List.length_set,zcy L i hi x]
 exact s1
theorem yh.take {B:Nat} {w:World} {g c:Nat} {L:yH} (h:yh B w (zK g 0 L.length c) L) (n:Nat) (hn:n<=L.length):yh B w (zK g 0 n c) (L.take n):=by
 rcases h.2 with⟨e,_⟩ | ⟨g',cap',cur,e,hB,hg,hc,hm,hs,ht⟩
 ·cases e
 ·cases e
  have hl:(L.take n).length=n:=by simp[hn]
  have hf:ua (L.take n)=(ua L).take (n * 2):=by
   have h1:=Ys (L.take n) (L.drop n)
   rw[List.take_append_drop] at h1
   have h2:(ua (L.take n)).length=n * 2:=by rw[Zb,hl]
   have h3:=List.take_left' (l₂:=ua (L.drop n)) h2
   rw[<-h1] at h3
   exact h3.symm
  refine⟨by rw[Zb],.inr ⟨g,c,cur,by rw[hl],hB,hg,by rw[hl];omega,hm,hs,?_⟩⟩
  rw[hl,hf,<-ht,List.take_take,Nat.min_eq_left (by omega)]
namespace PS
variable {w0 w w' W:World} {b:Nat} {a:Option Addr} {len cap p q g:Nat} {va:Value} {xs:List Int} {v v':Value} {ms ms':List MM}
theorem below (h:PS w0 w b a len cap p g va xs v ms) (hb:zO w w'):PS w0 w' b a len cap p g va xs v ms:=by
 have hN:=Yo hb none
 obtain⟨p0,h0⟩:=h.r0
 exact⟨Rd.kept h0 h.rd h.gr.size hN (fun g e=>by cases e),xi h.gr hN (fun g e=>by cases e),h.args.kept hN (fun g e=>by cases e),qk h.box hN (by simp),h.own,h.row.kept hN (fun g e=>by cases e),qk h.res hN (by simp),h.r0⟩
theorem rowWrite (h:PS w0 w b a len cap p g va xs v ms) (hg:w.grownBy w' v.ownBlock) (hr:jY w0.heap.size w' v (ms'.map MM.tri)) (ho:∀m∈ms',yh w0.heap.size w m.2.2.1 m.2.2.2)
 (hd:ms'.Pairwise fun m n=>∀g,m.2.2.1.ownBlock=some g->n.2.2.1.ownBlock≠some g):PS w0 w' b a len cap p g va xs v ms':=by
 obtain⟨h1,h2,h3,h4,h5,h6⟩:=h.appended hg
 exact⟨h1,h2,h3,h4,h.own,⟨hr,fun m hm=>h6 _ _ (ho m hm),hd⟩,h5,h.r0⟩
theorem dis_set {ms:List MM} (h:ms.Pairwise fun m n=>∀g,m.2.2.1.ownBlock=some g->n.2.2.1.ownBlock≠some g) (k:Nat) (hk:k<ms.length) (m':MM) (hm:m'.2.2.1.ownBlock=ms[k].2.2.1.ownBlock) :
 (ms.set k m').Pairwise fun m n=>∀g,m.2.2.1.ownBlock=some g->n.2.2.1.ownBlock≠some g:=by
 rw[List.pairwise_iff_getElem] at h ⊢
 intro i j hi hj hij
 have hi':i<ms.length:=by simpa using hi
 have hj':j<ms.length:=by simpa using hj
 have:=h i j hi' hj' hij
 simp only[List.getElem_set]
 by_cases e1:k=i
 ·subst e1
  rw[if_pos rfl,if_neg (by omega),hm]
  exact this
 ·rw[if_neg e1]
  by_cases e2:k=j
  ·subst e2
   rw[if_pos rfl,hm]
   exact this
  ·rw[if_neg e2]
   exact this
theorem read {gm n c gk ck ln:Nat} (h:PS w0 w b a len cap p g va xs (zK gm 0 n c) ms) (k:Nat) (hk:k<ms.length) (hv:ms[k].2.2.1=zK gk 0 ln ck) (hl:ms[k].2.2.2.length=ln) (i:Nat) (hi:i<ln) :
 w.cell? (zH g 0)=some (zK gm 0 n c)/\w.frozen? (zH g 0)=false/\(∃x,w.cell? (zH gm (k * 3))=some (zI x))/\(∃x,w.cell? (zH gm (k * 3+1))=some (zI x))/\w.cell? (zH gm (k * 3+2))=some (zK gk 0 ln ck) /\
 w.frozen? (zH gm (k * 3))=false/\w.frozen? (zH gm (k * 3+1))=false/\w.frozen? (zH gm (k * 3+2))=false /\
 (∃x,w.cell? (zH gk (i * 2))=some (zI x))/\(∃x,w.cell? (zH gk (i * 2+1))=some (zI x))/\w.frozen? (zH gk (i * 2))=false/\w.frozen? (zH gk (i * 2+1))=false:=by
 have cs:=h.row.row.cell k (by simpa using hk)
 rw[vk.ofMap hk,hv] at cs
 have hok:=h.row.ops _ (List.getElem_mem hk)
 rw[hv] at hok
 have oc:=hok.cell i (by omega)
 exact⟨h.c0,h.f0,⟨_,cs.1⟩,⟨_,cs.2.1⟩,cs.2.2,h.row.row.frozen _,h.row.row.frozen _,h.row.row.frozen _,⟨_,oc.1⟩,⟨_,oc.2⟩,hok.frozen _,hok.frozen _⟩
theorem opsWrite (h:PS w0 w b a len cap p g va xs v ms) (k:Nat) (hk:k<ms.length) {gk:Nat} (hv:ms[k].2.2.1.ownBlock=some gk) (hg:w.grownBy w' (some gk)) {L':yH} (ho:yh w0.heap.size w' ms[k].2.2.1 L') :
 PS w0 w' b a len cap p g va xs v (ms.set k (ms[k].1,ms[k].2.1,ms[k].2.2.1,L')):=by
 have hop:=h.row.ops _ (List.getElem_mem hk)
 have e:∀j,some gk=some j->w0.heap.size<=j:=fun j e=>by cases e;exact(hop.lt _ hv).1
 have hmap:(ms.set k (ms[k].1,ms[k].2.1,ms[k].2.2.1,L')).map MM.tri=ms.map MM.tri:=by
  rw[List.map_set]
  have:MM.tri (ms[k].1,ms[k].2.1,ms[k].2.2.1,L')=(ms.map MM.tri)[k]'(by simpa using hk):=by simp[MM.tri]
  rw[this,List.set_getElem_self]
 obtain⟨p0,h0⟩:=h.r0
 refine⟨Rd.kept h0 h.rd h.gr.size hg e,xi h.gr hg e,h.args.kept hg (fun j e hj=>by cases e;exact zeS h.args hop _ hj hv),qk h.box hg (fun e=>ZX h.box hop (by decide) (by rw[hv];exact e.symm)),h.own,⟨?_,?_,dis_set h.row.dis k hk _ rfl⟩,qk h.res hg (fun e=>ZX h.res hop (by decide) (by rw[hv];exact e.symm)),h.r0⟩
 ·rw[hmap]
  exact h.row.row.kept hg (fun j e hj=>by cases e;exact zb9 h.row.row hop _ hj hv)
 ·intro m hm
  obtain⟨i,hi,rfl⟩:=List.mem_iff_getElem.1 hm
  have hi':i<ms.length:=by simpa using hi
  rw[List.getElem_set]
  by_cases e:k=i
  ·rw[if_pos e];exact ho
  ·rw[if_neg e]
   refine(h.row.ops _ (List.getElem_mem hi')).kept hg (fun j ej hj=>?_)
   cases ej
   have hp:=List.pairwise_iff_getElem.1 h.row.dis
   rcases Nat.lt_or_gt_of_ne e with e | e
   ·exact hp k i hk hi' e _ hv hj
   ·exact hp i k hi' hk e _ hj hv
theorem opBoth (h:PS w0 w b a len cap p g va xs v ms) (k:Nat) (hk:k<ms.length) {gk c:Nat} (hv:ms[k].2.2.1=zK gk 0 ms[k].2.2.2.length c) (i:Nat) (hi:i<ms[k].2.2.2.length) (x y:Int) :
 ∃L',L'.length=ms[k].2.2.2.length/\PS w0 ((w.setCell (zH gk (i * 2)) (zI x)).setCell (zH gk (i * 2+1)) (zI y)) b a len cap p g va xs v (ms.set k (ms[k].1,ms[k].2.1,ms[k].2.2.1,L')):=by
 have hop:=h.row.ops _ (List.getElem_mem hk)
 rw[hv] at hop
 obtain⟨s1,s2⟩:=hop.setK i hi x
 have hop':yh w0.heap.size (w.setCell (zH gk (i * 2)) (zI x)) (zK gk 0 (ms[k].2.2.2.set i (x,ms[k].2.2.2[i].2)).length c) (ms[k].2.2.2.set i (x,ms[k].2.2.2[i].2)):=by rw[List.length_set];exact s1
 obtain⟨_,_,t1,t2⟩:=hop'.setA i (by simpa using hi) y
 have st:w.grownBy ((w.setCell (zH gk (i * 2)) (zI x)).setCell (zH gk (i * 2+1)) (zI y)) (some gk):=⟨rfl,rfl,rfl,by simp[World.setCell],fun j hj hn=>(t2.block j (by simpa [World.setCell] using hj) hn).trans (s2.block j hj hn)⟩
 refine⟨_,?_,h.opsWrite k hk (gk:=gk) (by rw[hv];rfl) st (L':=(ms[k].2.2.2.set i (x,ms[k].2.2.2[i].2)).set i ((ms[k].2.2.2.set i (x,ms[k].2.2.2[i].2))[i]'(by simpa using hi) |>.1,y)) ?_⟩
 ·simp
 ·rw[hv];simpa only [List.length_set] using t1
theorem opA (h:PS w0 w b a len cap p g va xs v ms) (k:Nat) (hk:k<ms.length) {gk c:Nat} (hv:ms[k].2.2.1=zK gk 0 ms[k].2.2.2.length c) (i:Nat) (hi:i<ms[k].2.2.2.length) (y:Int) :
 ∃L',L'.length=ms[k].2.2.2.length/\PS w0 (w.setCell (zH gk (i * 2+1)) (zI y)) b a len cap p g va xs v (ms.set k (ms[k].1,ms[k].2.1,ms[k].2.2.1,L')):=by
 have hop:=h.row.ops _ (List.getElem_mem hk)
 rw[hv] at hop
 obtain⟨_,_,t1,t2⟩:=hop.setA i hi y
 exact⟨_,by simp,h.opsWrite k hk (gk:=gk) (by rw[hv];rfl) t2 (L':=ms[k].2.2.2.set i (ms[k].2.2.2[i].1,y)) (by rw[hv];exact t1)⟩
theorem mem_set_ops (h:PS w0 w b a len cap p g va xs v ms) (k:Nat) (m':MM) (hm:yh w0.heap.size w m'.2.2.1 m'.2.2.2):∀m∈ms.set k m',yh w0.heap.size w m.2.2.1 m.2.2.2:=by
 intro m hm'
 rcases List.mem_or_eq_of_mem_set hm' with hm' | rfl
 ·exact h.row.ops m hm'
 ·exact hm
theorem mArgs {gm n c:Nat} (h:PS w0 w b a len cap p g va xs (zK gm 0 n c) ms) (hn:n=ms.length) (k:Nat) (hk:k<ms.length) (x:Int) :
 PS w0 (w.setCell (zH gm (k * 3)) (zI x)) b a len cap p g va xs (zK gm 0 n c) (ms.set k (x,ms[k].2.1,ms[k].2.2.1,ms[k].2.2.2)):=by
 subst hn
 have zT:w.ownsRow w0.heap.size 68 3 (zK gm 0 ms.length c) ms.length (xQ (ms.map MM.tri)):=by have:=h.row.row;unfold jY at this;rwa [List.length_map] at this
 obtain⟨s1,s2⟩:=World.ownsRow.stored zT (k * 3) (zI x)
 refine h.rowWrite s2 ?_ (h.mem_set_ops k _ (h.row.ops ms[k] (List.getElem_mem hk))) (dis_set h.row.dis k hk _ rfl)
 unfold jY
 rw[List.length_map,List.length_set,List.map_set]
 have:=za2 (ms.map MM.tri) k (by simpa using hk) x
 rw[vk.ofMap hk] at this
 rw[show MM.tri (x,ms[k].2.1,ms[k].2.2.1,ms[k].2.2.2)=(x,ms[k].2.1,ms[k].2.2.1) from rfl,this]
 exact s1
theorem mTemps {gm n c:Nat} (h:PS w0 w b a len cap p g va xs (zK gm 0 n c) ms) (hn:n=ms.length) (k:Nat) (hk:k<ms.length) (x:Int) :
 PS w0 (w.setCell (zH gm (k * 3+1)) (zI x)) b a len cap p g va xs (zK gm 0 n c) (ms.set k (ms[k].1,x,ms[k].2.2.1,ms[k].2.2.2)):=by
 subst hn
 have zT:w.ownsRow w0.heap.size 68 3 (zK gm 0 ms.length c) ms.length (xQ (ms.map MM.tri)):=by have:=h.row.row;unfold jY at this;rwa [List.length_map] at this
 obtain⟨s1,s2⟩:=World.ownsRow.stored zT (k * 3+1) (zI x)
 refine h.rowWrite s2 ?_ (h.mem_set_ops k _ (h.row.ops ms[k] (List.getElem_mem hk))) (dis_set h.row.dis k hk _ rfl)
 unfold jY
 rw[List.length_map,List.length_set,List.map_set]
 have:=za3 (ms.map MM.tri) k (by simpa using hk) x
 rw[vk.ofMap hk] at this
 rw[show MM.tri (ms[k].1,x,ms[k].2.2.1,ms[k].2.2.2)=(ms[k].1,x,ms[k].2.2.1) from rfl,this]
 exact s1
theorem mCut {gm n c gk ck:Nat} (h:PS w0 w b a len cap p g va xs (zK gm 0 n c) ms) (hn:n=ms.length) (k:Nat) (hk:k<ms.length) (hv:ms[k].2.2.1=zK gk 0 ms[k].2.2.2.length ck) (i:Nat) (hi:i<=ms[k].2.2.2.length) :
 PS w0 (w.setCell (zH gm (k * 3+2)) (zK gk 0 i ck)) b a len cap p g va xs (zK gm 0 n c) (ms.set k (ms[k].1,ms[k].2.1,zK gk 0 i ck,ms[k].2.2.2.take i)):=by
 subst hn
 have zT:w.ownsRow w0.heap.size 68 3 (zK gm 0 ms.length c) ms.length (xQ (ms.map MM.tri)):=by have:=h.row.row;unfold jY at this;rwa [List.length_map] at this
 obtain⟨s1,s2⟩:=World.ownsRow.stored zT (k * 3+2) (zK gk 0 i ck)
 have hop:=h.row.ops _ (List.getElem_mem hk)
 rw[hv] at hop
 refine h.rowWrite s2 ?_ (h.mem_set_ops k _ (hop.take i hi)) (dis_set h.row.dis k hk _ (by rw[hv];rfl))
 unfold jY
 rw[List.length_map,List.length_set,List.map_set]
 have:=za4 (ms.map MM.tri) k (by simpa using hk) (zK gk 0 i ck)
 rw[vk.ofMap hk] at this
 rw[show MM.tri (ms[k].1,ms[k].2.1,zK gk 0 i ck,ms[k].2.2.2.take i)=(ms[k].1,ms[k].2.1,zK gk 0 i ck) from rfl,this]
 exact s1
end PS
theorem WN (w:World) (b:Nat) (a:Option Addr) (len cap p:Nat) (hr:Rd w b a len cap p) (hp:p+10<=1000000) (B:Nat) (hbB:b<B) (vp:Value) (ms0:List MM) (hsrc:vk B w vp ms0) (hl2:2<=ms0.length) (UB:ms0.length<=4) (hmo:∀m∈ms0,zcS m) :
 Calls Tryz.prog 80 #[zJ b 0,.agg #[vp]] w fun e w'=>∃(v:Value) (ms:List MM) (p':Nat),e=.returned (.agg #[v])/\vk w.heap.size w' v ms/\ms.length<=7/\(∀m∈ms,m.2.2.2.length<=14)/\p<=p'/\p'<=p+10/\Rd w' b a len cap p'/\w.grownBy w' (some b):=by
 have hbw:b<w.heap.size:=World.block_lt_of_cell? _ _ hr.s
 have hrB:=hr.alloc (.cells #[vp] 25)
 have zbh:(w.alloc (.cells #[vp] 25)).heap.size=w.heap.size+1:=by simp
 have hgB:=qh (kz w (some b)) (.cells #[vp] 25)
 have hsB:=hsrc.kept (World.grownBy_alloc w (.cells #[vp] 25) none) (fun g e=>by cases e)
 have pbB:=wO w vp
 have hP:PS (w.alloc (.cells #[vp] 25)) (((w.alloc (.cells #[vp] 25)).alloc (.cells #[.slice none 0 0] 25)).alloc (.cells #[.slice none 0 0] 25)) b a len cap p (w.heap.size+1+1) (.slice none 0 0) [] (.slice none 0 0) []:=by
  refine⟨(hrB.alloc _).alloc _,qh (qh (kz _ _) _) _,World.ownsRow_nil _ _ _ _,?_,?_,vk.nil _ _,?_,⟨p,hrB⟩⟩
  ·have:=wO ((w.alloc (.cells #[vp] 25)).alloc (.cells #[.slice none 0 0] 25)) (.slice none 0 0)
   simpa using this
  ·simp
  ·exact(wO (w.alloc (.cells #[vp] 25)) (.slice none 0 0)).alloc _
 obtain⟨gS,cS,hvS⟩:=hsrc.shape1 (by omega)
 subst hvS
 have pc:=pbB.cell (i:=0) (by decide)
 clear hsrc pbB
 go_enter Tryz.func80,Tryz.ntmps80
 go_wp2_with fail
 generalize (((w.alloc (.cells #[.slice (some ⟨gS,0,none⟩) ms0.length cS] 25)).alloc (.cells #[.slice none 0 0] 25)).alloc (.cells #[.slice none 0 0] 25))=W2 at hP ⊢
 generalize w.alloc (.cells #[.slice (some ⟨gS,0,none⟩) ms0.length cS] 25)=W at *
 go_loopg [6] ms0.length (fun d i wr=>∃(k:Nat) (v:Value) (ms:List MM),k<=ms0.length/\d=ms0.length - k/\i=zI k/\ms.length=k/\(∀m∈ms,zcS m)/\PS W wr b a len cap p (w.heap.size+1+1) (zQ) [] v ms)
 case atStart=>exact⟨0,_,[],Nat.zero_le _,rfl,rfl,rfl,by simp,hP⟩
 case round =>
  obtain⟨k,v,ms,hk,rfl,rfl,HML,Vg,Z4⟩:=hrel
  have wX:Hid (ms.length=k):=HML
  clear HML
  have Wb:ms.length<=4:=by have:=wX.out;omega
  have zdY:=Z4.gr.size
  have QQ:=hsB.low Z4.gr hbB
  have pcr:=Z4.gr.cell pc (by simp;omega)
  have ob:=Z4.c0
  have of:=Z4.f0
  clear hP
  by_cases yz:k<ms0.length
  ·have uW:(k:Int)<(ms0.length:Int):=by omega
   have hok:=QQ.ops _ (List.getElem_mem yz)
   have cs:=QQ.row.cell k (by simpa using yz)
   rw[vk.ofMap yz] at cs
   have hmk:=hmo _ (List.getElem_mem yz)
   generalize ms0[k]=m0 at hok cs hmk
   obtain⟨A,T,vo,L⟩:=m0
   simp only[] at hok cs
   obtain⟨d0,d1,d2⟩:=cs
   obtain⟨hL2,hL14⟩:2<=L.length/\L.length<=14:=hmk
   obtain⟨go,co,j5⟩:=hok.shape1 (by omega)
   subst j5
   obtain⟨aV,cV,UH⟩:=Z4.row.shape
   subst UH
   have bm:=QW wr A T (zK go 0 L.length co)
   have om:=yh.made (wr.alloc (.cells #[.int .i64 A,.int .i64 T,.slice (some ⟨go,0,none⟩) L.length co] 68))
   have hok2:=World.ownsRow.alloc (World.ownsRow.alloc hok (.cells #[.int .i64 A,.int .i64 T,.slice (some ⟨go,0,none⟩) L.length co] 68)) (.cells #[] 70)
   simp only[World.size_alloc] at om
   go_upto_region 7 with(at_builtin;refine ut _ (by rfl) _ _ (by rfl) _ _ [] (by rfl) om L go _ (by rfl) (World.ownsRow.cells hok2 rfl) (by omega) (by simp;omega) (by simp) ?_;intro g2 cp2 w2 yN qA hB2 Xy;have bm2:=qk (bm.alloc (.cells #[] 70)) qA (by simp[Value.ownBlock]);have x2:=bm2.cell (i:=2) (by decide);have y2:=bm2.frozen 2)
   simp only[List.length_nil,Nat.zero_add,List.nil_append] at yN
   have hBel:zO wr (w2.setCell (zH wr.heap.size 2) (zK g2 0 L.length cp2)) :=
    (((zR _ _).alloc (by simp) _).grown qA (by simp;omega) (fun k e=>by simp[Value.ownBlock] at e;omega)).setCell zD _
   have hP3:=Z4.below hBel
   have yT:yh wr.heap.size (w2.setCell (zH wr.heap.size 2) (zK g2 0 L.length cp2)) (zK g2 0 L.length cp2) L :=
    (yN.mono (Nat.le_succ _)).kept (xj w2 wr.heap.size 2 _) (fun q hq hk=>by cases hq;exact YA bm2 yN (by decide) hk)
   have bm3:=(bm2.set 2 (zK g2 0 L.length cp2))
   generalize w2.setCell (zH wr.heap.size 2) (zK g2 0 L.length cp2)=w3 at *
   have e0:w3.cell? (zH wr.heap.size 0)=some (zI A):=bm3.cell (i:=0) (by decide)
   have e1:w3.cell? (zH wr.heap.size 1)=some (zI T):=bm3.cell (i:=1) (by decide)
   have e2:w3.cell? (zH wr.heap.size 2)=some (zK g2 0 L.length cp2):=bm3.cell (i:=2) (by decide)
   have HD:Hid (∀m∈ms,∀k,m.2.2.1.ownBlock=some k->k<wr.heap.size):=fun m hm k e=>((Z4.row.ops m hm).lt k e).2
   have o3:=hP3.c0
   have Vi:=hP3.gr.size
   clear bm om hok hok2 qA bm2 x2 y2 hB2 Xy yN Z4 ob of hBel bm3 d0 d1 d2 pcr QQ
   go_wp2_with (at_builtin;refine QU _ (by rfl) _ _ (by rfl) W.heap.size _ (ms.map MM.tri) (by rfl) (World.ownsRow.alloc hP3.row.row _) [(A,T,zK g2 0 L.length cp2)] (by simp;exact⟨_,_,_,rfl⟩) ⟨w3.heap.size,0,none⟩ _ (by rfl) (World.news_of_block (Go.Deep.blk_alloc_new w3 _)) (by simp) (by simp;omega) (by simp;omega) ?_;intro g5 cp5 w5 yt wW hB5 zbb;have hap:=(hP3.alloc _).appended wW;have q0:=hap.2.2.2.1.cell (i:=0) (by decide);have f0:=hap.2.2.2.1.frozen 0)
   simp only[List.length_map,List.length_cons,List.length_nil,Nat.zero_add] at yt
   have hPY:=(hP3.alloc _).stored wW yt (World.ownsRow.alloc (yT.mono zdY) _) (fun m hm j e e'=>by have:=HD.out m hm j e;have:=(yT.lt j e').1;omega)
   have hmo2:∀m∈ms ++ [((A,T,zK g2 0 L.length cp2,L):MM)],zcS m:=fun m hm=>by
    rcases List.mem_append.1 hm with hm | hm
    ·exact Vg m hm
    ·simp at hm;subst hm;exact⟨hL2,hL14⟩
   clear hap q0 f0 wW yt hB5 zbb hP3 HD yT o3 e0 e1 e2
   go_wp2
   go_roundg (ms0.length - (k+1))
   case measure=>omega
   case rel=>exact⟨k+1,_,_,by omega,rfl,by go_num,by have:=wX.out;simp;omega,hmo2,hPY⟩
  ·obtain rfl:k=ms0.length:=by omega
   obtain⟨gm,cm,hvm⟩:=Z4.row.shape1 (by have:=wX.out;omega)
   subst hvm
   have QP:2<=ms.length:=by have:=wX.out;omega
   clear wX hsB hmo hl2 UB QQ pc hk yz
   go_wp2_with fail
   refine(qe _ _ _ _ _ _ (ms.length:Int) Z4.rd (by omega) (by omega) (by omega)).mono ?_
   rintro e w6 ⟨x,rfl,Qi,Z5,jc,ke⟩
   have hP6:=Z4.pick jc ke
   clear Z4 jc ke ob of pcr
   obtain⟨k,rfl⟩:=Int.eq_ofNat_of_zero_le Qi
   have hk:k<ms.length:=by omega
   have hok:=hP6.row.ops _ (List.getElem_mem hk)
   have hmk:=Vg _ (List.getElem_mem hk)
   obtain⟨gk,ck,hvk⟩:=hok.shape1 (by have:=hmk.1;omega)
   obtain⟨ln,hln⟩:∃ln,ms[k].2.2.2.length=ln:=⟨_,rfl⟩
   rw[hln] at hvk
   have HV:Hid (ms[k].2.2.1=zK gk 0 ln ck):=hvk
   have HL:Hid (ms[k].2.2.2.length=ln):=hln
   have hL2:2<=ln:=by have:=hmk.1;rw[hln] at this;exact this
   have hL14:ln<=14:=by have:=hmk.2;rw[hln] at this;exact this
   have uW:(k:Int)<(ms.length:Int):=by omega
   rw[hvk] at hok
   have hlc:ln<=ck:=hok.room
   clear hvk hln hok hmk
   obtain⟨t0,t1,⟨z2,t2⟩,⟨z3,t3⟩,t4,t5,t6,t7,⟨z8,t8⟩,⟨z9,t9⟩,t10,t11⟩:=hP6.read k hk HV.out HL.out 0 (by omega)
   go_wp2_with fail
   refine(qe _ _ _ _ _ _ (ln:Int) hP6.rd (by omega) (by omega) (by omega)).mono ?_
   rintro e w7 ⟨x,rfl,Qi,Z5,Yi,hg7⟩
   have hP7:=hP6.pick Yi hg7
   clear hP6 Yi hg7 t0 t1 t2 t3 t4 t5 t6 t7 t8 t9 t10 t11
   obtain⟨i,rfl⟩:=Int.eq_ofNat_of_zero_le Qi
   have hi:i<ln:=by omega
   have hiz:(i:Int)<(ln:Int):=by omega
   have hick:i<=ck:=by omega
   go_wp2_with fail
   refine(qe _ _ _ _ _ _ 6 hP7.rd (by omega) (by omega) (by omega)).mono ?_
   rintro e w8 ⟨x,rfl,Qi,Z5,WH,hg8⟩
   have hP8:=hP7.pick WH hg8
   clear hP7 WH hg8
   have Qu:=hP8.drew
   obtain⟨t0,t1,⟨z2,t2⟩,⟨z3,t3⟩,t4,t5,t6,t7,⟨z8,t8⟩,⟨z9,t9⟩,t10,t11⟩:=hP8.read k hk HV.out HL.out i hi
   by_cases hx_0:x=0
   ·subst hx_0
    go_wp2_with fail
    go_region_law ((go_simp;go_at_call 79;refine(qe _ _ _ _ _ _ 20 Qu.rd (by omega) (by omega) (by omega)).mono ?_;rintro e w9 ⟨y,rfl,Vj,K4,Kp,QO⟩;have hP9:=Qu.pick Kp QO;obtain⟨s0,s1,⟨z2,s2⟩,⟨z3,s3⟩,s4,s5,s6,s7,⟨z8,s8⟩,⟨z9,s9⟩,s10,s11⟩:=hP9.read k hk HV.out HL.out i hi))
    all_goals
     obtain⟨L',hL',Zy⟩:=hP9.opBoth k hk (by rw[HL.out];exact HV.out) i (by rw[HL.out];exact hi) y 0
     have hF7:(ms.set k (ms[k].1,ms[k].2.1,ms[k].2.2.1,L')).length<=7:=by simp;omega
     have Kg:∀m∈ms.set k (ms[k].1,ms[k].2.1,ms[k].2.2.1,L'),m.2.2.2.length<=14:=fun m hm=>by
      rcases List.mem_or_eq_of_mem_set hm with hm | rfl
      ·exact(Vg m hm).2
      ·have:=HL.out;show L'.length<=14;omega
     go_upto_region 25 with fail
     generalize (w9.setCell (zH gk (i * 2)) (zI y)).setCell (zH gk (i * 2+1)) (zI 0)=wF at *
     clear s0 s1 s2 s3 s4 s5 s6 s7 s8 s9 s10 s11 hP9 Kp QO hP8 Qu t0 t1 t2 t3 t4 t5 t6 t7 t8 t9 t10 t11
     have hFs:=Zy.gr.size
     have c0:=Zy.c0
     have r0:=Zy.res.cell (i:=0) (by decide)
     have rf:=Zy.res.frozen 0
     have hF:=Zy.final
     rw[zbh] at hF r0 rf
     clear Zy
     go_wp2
     generalize wF.setCell (zH (w.heap.size+1) 0) (zK gm 0 ms.length cm)=W3 at hF ⊢
     obtain⟨h1,h2,h3,dF⟩:=hF
     exact bodyPost_ret (v:=.agg #[(zK gm 0 ms.length cm)]) (by simp[results,Tryz.results80,go_sem,dF]) rfl ⟨_,_,_,rfl,h1.mono (Nat.le_succ _),hF7,Kg,by omega,by omega,h2,zU hgB h3⟩
   have ex_0:(x == 0)=false:=zG.2 hx_0
   by_cases hx_1:x=1
   ·subst hx_1
    go_wp2_with fail
    go_region_law ((go_simp;go_at_call 79;refine(qe _ _ _ _ _ _ 20 Qu.rd (by omega) (by omega) (by omega)).mono ?_;rintro e w9 ⟨y,rfl,Vj,K4,Kp,QO⟩;have hP9:=Qu.pick Kp QO;obtain⟨s0,s1,⟨z2,s2⟩,⟨z3,s3⟩,s4,s5,s6,s7,⟨z8,s8⟩,⟨z9,s9⟩,s10,s11⟩:=hP9.read k hk HV.out HL.out i hi))
    all_goals
     obtain⟨L',hL',Zy⟩:=hP9.opA k hk (by rw[HL.out];exact HV.out) i (by rw[HL.out];exact hi) (IntKind.i64.wrap (y - 1))
     have hF7:(ms.set k (ms[k].1,ms[k].2.1,ms[k].2.2.1,L')).length<=7:=by simp;omega
     have Kg:∀m∈ms.set k (ms[k].1,ms[k].2.1,ms[k].2.2.1,L'),m.2.2.2.length<=14:=fun m hm=>by
      rcases List.mem_or_eq_of_mem_set hm with hm | rfl
      ·exact(Vg m hm).2
      ·have:=HL.out;show L'.length<=14;omega
     go_upto_region 25 with fail
     generalize w9.setCell (zH gk (i * 2+1)) (zI (IntKind.i64.wrap (y - 1)))=wF at *
     clear s0 s1 s2 s3 s4 s5 s6 s7 s8 s9 s10 s11 hP9 Kp QO hP8 Qu t0 t1 t2 t3 t4 t5 t6 t7 t8 t9 t10 t11
     have hFs:=Zy.gr.size
     have c0:=Zy.c0
     have r0:=Zy.res.cell (i:=0) (by decide)
     have rf:=Zy.res.frozen 0
     have hF:=Zy.final
     rw[zbh] at hF r0 rf
     clear Zy
     go_wp2
     generalize wF.setCell (zH (w.heap.size+1) 0) (zK gm 0 ms.length cm)=W3 at hF ⊢
     obtain⟨h1,h2,h3,dF⟩:=hF
     exact bodyPost_ret (v:=.agg #[(zK gm 0 ms.length cm)]) (by simp[results,Tryz.results80,go_sem,dF]) rfl ⟨_,_,_,rfl,h1.mono (Nat.le_succ _),hF7,Kg,by omega,by omega,h2,zU hgB h3⟩
   have ex_1:(x == 1)=false:=zG.2 hx_1
   by_cases hx_2:x=2
   ·subst hx_2
    go_wp2_with fail
    go_region_law ((go_simp;go_at_call 79;refine(qe _ _ _ _ _ _ 7 Qu.rd (by omega) (by omega) (by omega)).mono ?_;rintro e w9 ⟨y,rfl,Vj,K4,Kp,QO⟩;have hP9:=Qu.pick Kp QO;obtain⟨s0,s1,⟨z2,s2⟩,⟨z3,s3⟩,s4,s5,s6,s7,⟨z8,s8⟩,⟨z9,s9⟩,s10,s11⟩:=hP9.read k hk HV.out HL.out i hi))
    all_goals
     have Zy:=hP9.mTemps rfl k hk (IntKind.i64.wrap (y - 1))
     have hF7:(ms.set k (ms[k].1,IntKind.i64.wrap (y - 1),ms[k].2.2.1,ms[k].2.2.2)).length<=7:=by simp;omega
     have Kg:∀m∈ms.set k (ms[k].1,IntKind.i64.wrap (y - 1),ms[k].2.2.1,ms[k].2.2.2),m.2.2.2.length<=14:=fun m hm=>by
      rcases List.mem_or_eq_of_mem_set hm with hm | rfl
      ·exact(Vg m hm).2
      ·have:=HL.out;show ms[k].2.2.2.length<=14;omega
     go_upto_region 25 with fail
     generalize w9.setCell (zH gm (k * 3+1)) (zI (IntKind.i64.wrap (y - 1)))=wF at *
     clear s0 s1 s2 s3 s4 s5 s6 s7 s8 s9 s10 s11 hP9 Kp QO hP8 Qu t0 t1 t2 t3 t4 t5 t6 t7 t8 t9 t10 t11
     have hFs:=Zy.gr.size
     have c0:=Zy.c0
     have r0:=Zy.res.cell (i:=0) (by decide)
     have rf:=Zy.res.frozen 0
     have hF:=Zy.final
     rw[zbh] at hF r0 rf
     clear Zy
     go_wp2
     generalize wF.setCell (zH (w.heap.size+1) 0) (zK gm 0 ms.length cm)=W3 at hF ⊢
     obtain⟨h1,h2,h3,dF⟩:=hF
     exact bodyPost_ret (v:=.agg #[(zK gm 0 ms.length cm)]) (by simp[results,Tryz.results80,go_sem,dF]) rfl ⟨_,_,_,rfl,h1.mono (Nat.le_succ _),hF7,Kg,by omega,by omega,h2,zU hgB h3⟩
   have ex_2:(x == 2)=false:=zG.2 hx_2
   by_cases hx_3:x=3
   ·subst hx_3
    go_wp2_with fail
    go_region_law ((go_simp;go_at_call 79;refine(qe _ _ _ _ _ _ 4 Qu.rd (by omega) (by omega) (by omega)).mono ?_;rintro e w9 ⟨y,rfl,Vj,K4,Kp,QO⟩;have hP9:=Qu.pick Kp QO;obtain⟨s0,s1,⟨z2,s2⟩,⟨z3,s3⟩,s4,s5,s6,s7,⟨z8,s8⟩,⟨z9,s9⟩,s10,s11⟩:=hP9.read k hk HV.out HL.out i hi))
    all_goals
     have Zy:=hP9.mArgs rfl k hk y
     have hF7:(ms.set k (y,ms[k].2.1,ms[k].2.2.1,ms[k].2.2.2)).length<=7:=by simp;omega
     have Kg:∀m∈ms.set k (y,ms[k].2.1,ms[k].2.2.1,ms[k].2.2.2),m.2.2.2.length<=14:=fun m hm=>by
      rcases List.mem_or_eq_of_mem_set hm with hm | rfl
      ·exact(Vg m hm).2
      ·have:=HL.out;show ms[k].2.2.2.length<=14;omega
     go_upto_region 25 with fail
     generalize w9.setCell (zH gm (k * 3)) (zI y)=wF at *
     clear s0 s1 s2 s3 s4 s5 s6 s7 s8 s9 s10 s11 hP9 Kp QO hP8 Qu t0 t1 t2 t3 t4 t5 t6 t7 t8 t9 t10 t11
     have hFs:=Zy.gr.size
     have c0:=Zy.c0
     have r0:=Zy.res.cell (i:=0) (by decide)
     have rf:=Zy.res.frozen 0
     have hF:=Zy.final
     rw[zbh] at hF r0 rf
     clear Zy
     go_wp2
     generalize wF.setCell (zH (w.heap.size+1) 0) (zK gm 0 ms.length cm)=W3 at hF ⊢
     obtain⟨h1,h2,h3,dF⟩:=hF
     exact bodyPost_ret (v:=.agg #[(zK gm 0 ms.length cm)]) (by simp[results,Tryz.results80,go_sem,dF]) rfl ⟨_,_,_,rfl,h1.mono (Nat.le_succ _),hF7,Kg,by omega,by omega,h2,zU hgB h3⟩
   have ex_3:(x == 3)=false:=zG.2 hx_3
   by_cases hx_4:x=4
   ·subst hx_4
    go_wp2_with fail
    go_region
    all_goals
     have Zy:PS W (w8.setCell (zH gm (k * 3+2)) (zK gk 0 i ck)).drew b a len cap (p+1+1+1) (w.heap.size+1+1) (zQ) [] (zK gm 0 ms.length cm) (ms.set k (ms[k].1,ms[k].2.1,zK gk 0 i ck,ms[k].2.2.2.take i)):=Qu.mCut rfl k hk (by rw[HL.out];exact HV.out) i (by rw[HL.out];omega)
     have hF7:(ms.set k (ms[k].1,ms[k].2.1,zK gk 0 i ck,ms[k].2.2.2.take i)).length<=7:=by simp;omega
     have Kg:∀m∈ms.set k (ms[k].1,ms[k].2.1,zK gk 0 i ck,ms[k].2.2.2.take i),m.2.2.2.length<=14:=fun m hm=>by
      rcases List.mem_or_eq_of_mem_set hm with hm | rfl
      ·exact(Vg m hm).2
      ·have:=HL.out;show(ms[k].2.2.2.take i).length<=14;simp;omega
     go_upto_region 25 with fail
     generalize (w8.setCell (zH gm (k * 3+2)) (zK gk 0 i ck)).drew=wF at *
     clear hP8 Qu t0 t1 t2 t3 t4 t5 t6 t7 t8 t9 t10 t11
     have hFs:=Zy.gr.size
     have c0:=Zy.c0
     have r0:=Zy.res.cell (i:=0) (by decide)
     have rf:=Zy.res.frozen 0
     have hF:=Zy.final
     rw[zbh] at hF r0 rf
     clear Zy
     go_wp2
     generalize wF.setCell (zH (w.heap.size+1) 0) (zK gm 0 ms.length cm)=W3 at hF ⊢
     obtain⟨h1,h2,h3,dF⟩:=hF
     exact bodyPost_ret (v:=.agg #[(zK gm 0 ms.length cm)]) (by simp[results,Tryz.results80,go_sem,dF]) rfl ⟨_,_,_,rfl,h1.mono (Nat.le_succ _),hF7,Kg,by omega,by omega,h2,zU hgB h3⟩
   have ex_4:(x == 4)=false:=zG.2 hx_4
   go_wp2_with fail
   clear t0 t1 t2 t3 t4 t5 t6 t7 t8 t9 t10 t11 Qu HV HL hk uW hi hiz
   go_loopg [10] 3 (fun d i wr=>∃(k:Nat) (v:Value) (ms:List MM),k<=3/\d=3 - k/\i=zI k/\ms.length<=4+k/\(∀m∈ms,m.2.2.2.length<=14)/\PS W wr b a len cap (p+1+1+1) (w.heap.size+1+1) (zQ) [] v ms)
   case atStart=>exact⟨0,_,ms,Nat.zero_le _,rfl,rfl,Wb,fun m hm=>(Vg m hm).2,hP8⟩
   case round =>
    obtain⟨k,v,ms,hk,rfl,rfl,hl7,hl14,Z4⟩:=hrel
    have zdY:=Z4.gr.size
    obtain⟨aV,cV,UH⟩:=Z4.row.shape
    subst UH
    by_cases yz:k<3
    ·have uW:(k:Int)<3:=by omega
     have ob:=Z4.c0
     go_wp2_with (at_builtin;refine QU _ (by rfl) _ _ (by rfl) W.heap.size _ (ms.map MM.tri) (by rfl) (World.ownsRow.alloc Z4.row.row _) [(0,0,zQ)] (by simp;exact⟨_,_,_,rfl⟩) ⟨wr.heap.size,0,none⟩ _ (by rfl) (World.news_of_block (Go.Deep.blk_alloc_new wr _)) (by simp) (by simp;omega) (by simp;omega) ?_;intro g5 cp5 w5 yt wW hB5 zbb;have hap:=(Z4.alloc _).appended wW;have q0:=hap.2.2.2.1.cell (i:=0) (by decide);have f0:=hap.2.2.2.1.frozen 0)
     simp only[List.length_map,List.length_cons,List.length_nil,Nat.zero_add] at yt
     have hPY:=(Z4.alloc _).stored wW yt (yh.nil _ _) (fun m hm j e e'=>by cases e')
     have hl14':∀m∈ms ++ [((0,0,zQ,[]):MM)],m.2.2.2.length<=14:=fun m hm=>by
      rcases List.mem_append.1 hm with hm | hm
      ·exact hl14 m hm
      ·simp at hm;subst hm;simp
     clear hap q0 f0 wW yt hB5 zbb Z4 ob
     go_wp2
     go_roundg (3 - (k+1))
     case measure=>omega
     case rel=>exact⟨k+1,_,_,by omega,rfl,by go_num,by simp;omega,hl14',hPY⟩
    ·obtain rfl:k=3:=by omega
     have Zy:=Z4
     have hF7:ms.length<=7:=hl7
     have Kg:=hl14
     clear Z4
     have hFs:=Zy.gr.size
     have c0:=Zy.c0
     have r0:=Zy.res.cell (i:=0) (by decide)
     have rf:=Zy.res.frozen 0
     have hF:=Zy.final
     rw[zbh] at hF r0 rf
     clear Zy
     go_wp2
     generalize wr.setCell (zH (w.heap.size+1) 0) (.slice aV ms.length cV)=W3 at hF ⊢
     obtain⟨h1,h2,h3,dF⟩:=hF
     exact bodyPost_ret (v:=.agg #[(.slice aV ms.length cV)]) (by simp[results,Tryz.results80,go_sem,dF]) rfl ⟨_,_,_,rfl,h1.mono (Nat.le_succ _),hF7,Kg,by omega,by omega,h2,zU hgB h3⟩
def BytesAt (w:World) (a:Option Addr) (len cap:Nat):Prop :=
 len<=cap/\cap<=maxLen/\∀i,i<len->∃b o x,a=some ⟨b,o,none⟩/\w.cell? (zH b (o+i))=some (.int .u8 x)/\0<=x/\x<=255
theorem BytesAt.below {w w':World} {a:Option Addr} {len cap:Nat} (h:BytesAt w a len cap) (hb:zO w w'):BytesAt w' a len cap:=by
 refine⟨h.1,h.2.1,fun i hi=>?_⟩
 obtain⟨b,o,x,ha,hc,hx⟩:=h.2.2 i hi
 exact⟨b,o,x,ha,zc hb hc,hx⟩
theorem zeo {w:World} {a:Option Addr} {len cap n:Nat} (h:BytesAt w a len cap) (hn:n<=len) (WG:n<=2000):Rd (w.alloc (.cells #[.slice a n cap,.int .i64 0] 131)) w.heap.size a n cap 0:=by
 refine⟨by simp[go_sem],by simp[go_sem],by simp[go_sem],WG,fun i hi=>?_⟩
 obtain⟨b,o,x,ha,hc,hx⟩:=h.2.2 i (by omega)
 have:=World.block_lt_of_cell? _ _ hc
 exact⟨b,o,x,ha,by simp at this;omega,zc (zR _ _) hc,hx⟩
theorem zbk (w:World) (a:Option Addr) (len cap:Nat) (h:BytesAt w a len cap) :
 Calls Tryz.prog 35 #[.slice a len cap] w fun e w'=>∃n,e=.returned (zJ w.heap.size 0)/\Rd w' w.heap.size a n cap 0/\w'.heap.size=w.heap.size+1/\zO w w':=by
 have hc:=h.1
 have hm:=h.2.1
 unfold maxLen at hm
 by_cases hl:2000<len
 ·have hlz:(2000:Int)<(len:Int):=by omega
  have h20:2000<=cap:=by omega
  obtain⟨b,o,x,ha,_⟩:=h.2.2 0 (by omega)
  subst ha
  have HB:Hid (BytesAt w (some ⟨b,o,none⟩) len cap):=h
  clear h
  go_enter Tryz.func35,Tryz.ntmps35
  go_wp2
  go_ret
  exact⟨2000,rfl,zeo HB.out (by omega) (by omega),by simp,zR _ _⟩
 ·have hlz:(len:Int)<=2000:=by omega
  have HB:Hid (BytesAt w a len cap):=h
  clear h
  go_enter Tryz.func35,Tryz.ntmps35
  go_wp2
  go_ret
  exact⟨len,rfl,zeo HB.out zD (by omega),by simp,zR _ _⟩
structure vR (B:Nat) (w:World) (v:Value) (ms:List MM):Prop where
 row:vk B w v ms
 few:ms.length<=7
 ops:∀m∈ms,m.2.2.2.length<=14
theorem vR.kept {B:Nat} {w w':World} {v:Value} {ms:List MM} (h:vR B w v ms) {b:Nat} (hg:w.grownBy w' (some b)) (hb:b<B):vR B w' v ms:=⟨h.row.low hg hb,h.few,h.ops⟩
theorem vR.below {B:Nat} {w w':World} {v:Value} {ms:List MM} (h:vR B w v ms) (hb:zO w w'):vR B w' v ms:=⟨h.row.kept (Yo hb none) (fun g e=>by cases e),h.few,h.ops⟩
theorem vR.mono {B B':Nat} {w:World} {v:Value} {ms:List MM} (h:vR B w v ms) (hB:B'<=B):vR B' w v ms:=⟨h.row.mono hB,h.few,h.ops⟩
theorem vR.meths {B:Nat} {w:World} {v:Value} {ms:List MM} (h:vR B w v ms):yD w v (uE ms) :=
 h.row.meths (by have:=h.few;unfold maxLen;omega) (fun m hm=>by have:=h.ops m hm;unfold maxLen;omega)
theorem zbl (w:World) (b:Nat) (a:Option Addr) (len cap p:Nat) (hr:Rd w b a len cap p) (hp:p+500<=1000000) :
 Calls Tryz.prog 36 #[zJ b 0] w fun e w'=>∃(v:Value) (ms:List MM) (p':Nat),e=.returned (.agg #[v])/\vR w.heap.size w' v ms/\p<=p'/\p'<=p+500/\Rd w' b a len cap p'/\w.grownBy w' (some b):=by
 have hbw:b<w.heap.size:=World.block_lt_of_cell? _ _ hr.s
 have YX:=hr.alloc (.cells #[.slice none 0 0] 25)
 have g2:=qh (kz w (some b)) (.cells #[.slice none 0 0] 25)
 have r2:=wO w (.slice none 0 0)
 have z2:(w.alloc (.cells #[.slice none 0 0] 25)).heap.size=w.heap.size+1:=by simp
 go_enter Tryz.func36,Tryz.ntmps36
 go_wp2_with fail
 generalize w.alloc (.cells #[.slice none 0 0] 25)=w2 at *
 refine(WP _ _ _ _ _ _ YX (by omega)).mono ?_
 rintro e w3 ⟨v3,ms3,p3,rfl,hp3,hl2,UB,hmo,hq3,hq3',JT,j9⟩
 have r3:=qk r2 j9 (by simp;omega)
 have g3:=zU g2 j9
 have z3:=j9.size
 obtain⟨aV,cV,UH⟩:=hp3.shape
 subst UH
 clear YX j9 r2 g2
 go_wp2_with fail
 have hA4:=World.grownBy_alloc w3 (.cells #[.slice aV ms3.length cV] 25) none
 have r4:=r3.alloc (.cells #[.slice aV ms3.length cV] 25)
 have Ko:=JT.alloc (.cells #[.slice aV ms3.length cV] 25)
 have hp4:=hp3.kept hA4 (fun g e=>by cases e)
 have g4:=qh g3 (.cells #[.slice aV ms3.length cV] 25)
 have x4:=wO w3 (.slice aV ms3.length cV)
 have z4:(w3.alloc (.cells #[.slice aV ms3.length cV] 25)).heap.size=w3.heap.size+1:=by simp
 generalize w3.alloc (.cells #[.slice aV ms3.length cV] 25)=w4 at *
 refine(qe _ _ _ _ _ _ 12 Ko (by omega) (by omega) (by omega)).mono ?_
 rintro e w5 ⟨x,rfl,Qi,Z5,hr5,wW⟩
 have r5:=qk r4 wW (by simp;omega)
 have hp5:=hp4.low wW (by omega)
 have g5:=zU g4 wW
 have z5:=wW.size
 have x5:=(qk x4 wW (by simp;omega)).cell (i:=0) (by decide)
 clear hA4 r3 r4 JT Ko hp3 hp4 g3 g4 wW x4
 by_cases hx:x=0
 ·subst hx
  go_wp2_with fail
  refine(WN _ _ _ _ _ _ hr5 (by omega) w2.heap.size (by omega) _ ms3 hp5 hl2 UB hmo).mono ?_
  rintro e w6 ⟨v6,ms6,p6,rfl,hp6,hf6,ho6,hq6,hq6',hr6,ke⟩
  have r6:=qk r5 ke (by simp;omega)
  have g6:=zU g5 ke
  have z6:=ke.size
  have rc:=r6.cell (i:=0) (by decide)
  have rf:=r6.frozen 0
  obtain⟨aW,cW,hvW⟩:=hp6.shape
  subst hvW
  have k7:=xj w6 w.heap.size 0 (.slice aW ms6.length cW)
  have D6:vR w.heap.size (w6.setCell (zH w.heap.size 0) (.slice aW ms6.length cW)) (.slice aW ms6.length cW) ms6:=(vR.kept ⟨hp6,hf6,ho6⟩ k7 (by omega)).mono (by omega)
  have hr7:=Rd.kept hr hr6 (by omega) k7 (fun g e=>by cases e;exact Nat.le_refl _)
  have g7:=xi g6 k7 (fun g e=>by cases e;exact Nat.le_refl _)
  have d7:=World.cell?_setCell_same w6 ⟨w.heap.size,0,none⟩ (.slice aW ms6.length cW) rc
  clear hr5 hp5 r5 hr6 ke hp6 g5 g6 x5 r6 k7
  go_wp2
  generalize w6.setCell (zH w.heap.size 0) (.slice aW ms6.length cW)=W3 at *
  exact bodyPost_ret (v:=.agg #[.slice aW ms6.length cW]) (by simp[results,Tryz.results36,go_sem,d7]) rfl ⟨_,_,_,rfl,D6,by omega,by omega,hr7,g7⟩
 ·have ex:(x == 0)=false:=zG.2 hx
  have rc:=r5.cell (i:=0) (by decide)
  have rf:=r5.frozen 0
  have k7:=xj w5 w.heap.size 0 (.slice aV ms3.length cV)
  have D6:vR w.heap.size (w5.setCell (zH w.heap.size 0) (.slice aV ms3.length cV)) (.slice aV ms3.length cV) ms3:=(vR.kept ⟨hp5,by omega,fun m hm=>(hmo m hm).2⟩ k7 (by omega)).mono (by omega)
  have hr7:=Rd.kept hr hr5 (by omega) k7 (fun g e=>by cases e;exact Nat.le_refl _)
  have g7:=xi g5 k7 (fun g e=>by cases e;exact Nat.le_refl _)
  have d7:=World.cell?_setCell_same w5 ⟨w.heap.size,0,none⟩ (.slice aV ms3.length cV) rc
  clear hr5 hp5 r5 g5 k7
  go_wp2
  generalize w5.setCell (zH w.heap.size 0) (.slice aV ms3.length cV)=W3 at *
  exact bodyPost_ret (v:=.agg #[.slice aV ms3.length cV]) (by simp[results,Tryz.results36,go_sem,d7]) rfl ⟨_,_,_,rfl,D6,by omega,by omega,hr7,g7⟩
theorem UK (w:World) (b:Nat) (a:Option Addr) (len cap p:Nat) (hr:Rd w b a len cap p) (hp:p+100<=1000000) :
 Calls Tryz.prog 37 #[zJ b 0] w fun e w'=>∃r c:Int,e=.returned (.tuple #[zI r,zI c])/\(-1<=r/\r<=6)/\(0<=c/\c<=61)/\Rd w' b a len cap (p+3)/\w.grownBy w' (some b):=by
 have hbl:b<w.heap.size:=World.block_lt_of_cell? _ _ hr.s
 go_enter Tryz.func37,Tryz.ntmps37
 go_wp2_with fail
 refine(qe _ _ _ _ _ _ 20 hr (by omega) (by omega) (by omega)).mono ?_
 rintro e W ⟨x,rfl,Qi,Z5,hrW,hgW⟩
 have hbW:b<W.heap.size:=Nat.lt_of_lt_of_le hbl hgW.size
 have HGW:Hid (w.grownBy W (some b)):=hgW
 have HR:Hid (Rd W b a len cap (p+1)):=hrW
 clear hgW hrW hr
 by_cases hx:x=0
 ·subst hx
  have HA2:Hid (∀i,i<3->∃y:Int,0<=y/\y<=61/\∀V:World,(V.alloc (.cells #[.int .i64 13,.int .i64 61,.int .i64 20] 3)).cell? (zH V.heap.size i)=some (.int .i64 y)/\(V.alloc (.cells #[.int .i64 13,.int .i64 61,.int .i64 20] 3)).drew.cell? (zH V.heap.size i)=some (.int .i64 y)):=fun i hi=>by
   rcases(by omega:i=0\/i=1\/i=2) with rfl | rfl | rfl
   ·exact⟨13,by decide,by decide,fun V=>⟨by simp[go_sem],by simp[go_sem]⟩⟩
   ·exact⟨61,by decide,by decide,fun V=>⟨by simp[go_sem],by simp[go_sem]⟩⟩
   ·exact⟨20,by decide,by decide,fun V=>⟨by simp[go_sem],by simp[go_sem]⟩⟩
  have HRd:Rd W.drew b a len cap (p+1):=Rd.heap HR.out rfl
  have HRa:∀o,Rd (W.alloc o).drew b a len cap (p+1):=fun o=>Rd.heap (HR.out.alloc o) rfl
  have HNE:Hid (∀V:World,W.heap.size<=V.heap.size->some V.heap.size≠some b):=fun V hV e=>by injection e with e;omega
  have HGA1:Hid (∀o,W.grownBy (W.alloc o).drew (some b)):=fun o=>ky (World.grownBy_alloc W o (some b)) 1
  have HGD:Hid (W.grownBy W.drew (some b)):=ky (World.grownBy.refl W (some b)) 1
  go_wp2_with fail
  go_region_law (first
   | (have hh:=xP;clear hh;fail)
   | (go_simp;go_at_call 79;have hh:=xS;clear hh;refine(qe _ _ _ _ _ _ 3 (by first | with_reducible exact xS | with_reducible exact xS.alloc _) (by omega) (by omega) (by omega)).mono ?_;rintro e w2 ⟨x2,rfl,hx20,hx21,xP,qA⟩;obtain⟨i2,rfl⟩:=Int.eq_ofNat_of_zero_le hx20;obtain⟨y,Vj,K4,HV⟩:=HA2.out i2 (by omega);have HV1:=fun V=>(HV V).1;have HV2:=fun V=>(HV V).2;have hGA:=fun V:World=>World.grownBy_alloc V (.cells #[.int .i64 13,.int .i64 61,.int .i64 20] 3) (some b);first
    | (with_reducible have q2:=qA.cell (Yh.cell (HV2 W) (HNE.out W zD)) (HNE.out W zD);with_reducible have HG:=zU (HGA1.out _) (zU Yh qA))
    | (with_reducible have q2:=qA.cell (HV1 w1) (HNE.out w1 (by omega));with_reducible have HG:=zU HGD.out (zU Yh (zU (hGA w1) qA)))
    | (with_reducible have HG:=zU HGD.out (zU Yh qA);have HV3:=HV1))
   | (go_simp;go_at_call 79;refine(qe _ _ _ _ _ _ 7 (by first | with_reducible exact HRd | with_reducible exact HRa _) (by omega) (by omega) (by omega)).mono ?_;rintro e w1 ⟨x1,rfl,hx10,hx11,xS,Yh⟩;have xF:W.heap.size<=w1.heap.size:=(by have:=Yh.size;simp at this;omega)))
  all_goals
   have hw:IntKind.i64.wrap (x1 - 1)=x1 - 1:=by rw[IntKind.wrap_i64];omega
   go_wp2
   first
    | exact bodyPost_ret (v:=.tuple #[zI (IntKind.i64.wrap (x1 - 1)),zI y]) (by simp[results,Tryz.results37,go_sem]) rfl ⟨_,y,by rw[hw],by omega,by omega,xP,zU HGW.out HG⟩
    | exact bodyPost_ret (v:=.tuple #[zI (IntKind.i64.wrap (x1 - 1)),zI y]) (by simp[results,Tryz.results37,go_sem]) rfl ⟨_,y,by rw[hw],by omega,by omega,xP.alloc _,zU HGW.out (zU HG (hGA _))⟩
 ·have hxb:(x == 0)=false:=zG.2 hx
  have HA2:Hid (∀i,i<6->∃y:Int,0<=y/\y<=61/\∀V:World,(V.alloc (.cells #[.int .i64 14,.int .i64 14,.int .i64 20,.int .i64 28,.int .i64 30,.int .i64 60] 3)).cell? (zH V.heap.size i)=some (.int .i64 y)/\(V.alloc (.cells #[.int .i64 14,.int .i64 14,.int .i64 20,.int .i64 28,.int .i64 30,.int .i64 60] 3)).drew.cell? (zH V.heap.size i)=some (.int .i64 y)):=fun i hi=>by
   rcases(by omega:i=0\/i=1\/i=2\/i=3\/i=4\/i=5) with rfl | rfl | rfl | rfl | rfl | rfl
   ·exact⟨14,by decide,by decide,fun V=>⟨by simp[go_sem],by simp[go_sem]⟩⟩
   ·exact⟨14,by decide,by decide,fun V=>⟨by simp[go_sem],by simp[go_sem]⟩⟩
   ·exact⟨20,by decide,by decide,fun V=>⟨by simp[go_sem],by simp[go_sem]⟩⟩
   ·exact⟨28,by decide,by decide,fun V=>⟨by simp[go_sem],by simp[go_sem]⟩⟩
   ·exact⟨30,by decide,by decide,fun V=>⟨by simp[go_sem],by simp[go_sem]⟩⟩
   ·exact⟨60,by decide,by decide,fun V=>⟨by simp[go_sem],by simp[go_sem]⟩⟩
  have HRd:Rd W.drew b a len cap (p+1):=Rd.heap HR.out rfl
  have HRa:∀o,Rd (W.alloc o).drew b a len cap (p+1):=fun o=>Rd.heap (HR.out.alloc o) rfl
  have HNE:Hid (∀V:World,W.heap.size<=V.heap.size->some V.heap.size≠some b):=fun V hV e=>by injection e with e;omega
  have HGA1:Hid (∀o,W.grownBy (W.alloc o).drew (some b)):=fun o=>ky (World.grownBy_alloc W o (some b)) 1
  have HGD:Hid (W.grownBy W.drew (some b)):=ky (World.grownBy.refl W (some b)) 1
  go_wp2_with fail
  go_region_law (first
   | (have hh:=xP;clear hh;fail)
   | (go_simp;go_at_call 79;have hh:=xS;clear hh;refine(qe _ _ _ _ _ _ 6 (by first | with_reducible exact xS | with_reducible exact xS.alloc _) (by omega) (by omega) (by omega)).mono ?_;rintro e w2 ⟨x2,rfl,hx20,hx21,xP,qA⟩;obtain⟨i2,rfl⟩:=Int.eq_ofNat_of_zero_le hx20;obtain⟨y,Vj,K4,HV⟩:=HA2.out i2 (by omega);have HV1:=fun V=>(HV V).1;have HV2:=fun V=>(HV V).2;have hGA:=fun V:World=>World.grownBy_alloc V (.cells #[.int .i64 14,.int .i64 14,.int .i64 20,.int .i64 28,.int .i64 30,.int .i64 60] 3) (some b);first
    | (with_reducible have q2:=qA.cell (Yh.cell (HV2 W) (HNE.out W zD)) (HNE.out W zD);with_reducible have HG:=zU (HGA1.out _) (zU Yh qA))
    | (with_reducible have q2:=qA.cell (HV1 w1) (HNE.out w1 (by omega));with_reducible have HG:=zU HGD.out (zU Yh (zU (hGA w1) qA)))
    | (with_reducible have HG:=zU HGD.out (zU Yh qA);have HV3:=HV1))
   | (go_simp;go_at_call 79;refine(qe _ _ _ _ _ _ 4 (by first | with_reducible exact HRd | with_reducible exact HRa _) (by omega) (by omega) (by omega)).mono ?_;rintro e w1 ⟨x1,rfl,hx10,hx11,xS,Yh⟩;have xF:W.heap.size<=w1.heap.size:=(by have:=Yh.size;simp at this;omega)))
  all_goals
   have hw:IntKind.i64.wrap (1+x1)=1+x1:=by rw[IntKind.wrap_i64];omega
   go_wp2
   first
    | exact bodyPost_ret (v:=.tuple #[zI (IntKind.i64.wrap (1+x1)),zI y]) (by simp[results,Tryz.results37,go_sem]) rfl ⟨_,y,by rw[hw],by omega,by omega,xP,zU HGW.out HG⟩
    | exact bodyPost_ret (v:=.tuple #[zI (IntKind.i64.wrap (1+x1)),zI y]) (by simp[results,Tryz.results37,go_sem]) rfl ⟨_,y,by rw[hw],by omega,by omega,xP.alloc _,zU HGW.out (zU HG (hGA _))⟩
theorem Xs {w w':World} {g b:Nat} {t:TypeId} {l:List Value} (h:Bx w g t l) (hg:w.grownBy w' (some b)) (qF:b≠g):Bx w' g t l:=h.grown hg fun e=>qF (by injection e)
theorem Jt (w:World) (a:Option Addr) (len cap:Nat) (h:BytesAt w a len cap) :
 Calls Tryz.prog 11 #[.slice a len cap] w fun e w'=>∃(v:Value) (ms:List MM) (r c:Int),e=.returned (.tuple #[.agg #[v],zI r,zI c])/\(-1<=r/\r<=6)/\(0<=c/\c<=61)/\vR w.heap.size w' v ms/\zO w w':=by
 go_enter Tryz.func11,Tryz.ntmps11
 go_upto_region 1 with fail
 refine ym (fun W=>zO w W/\Bx W w.heap.size 25 [.slice none 0 0]/\W.heap.size=w.heap.size+1) ⟨zR _ _,Bx.new w _ _,by simp⟩ ?_
 rintro W1 ⟨B1,x1,z1⟩
 go_wp2_with fail
 refine(zbk _ a len cap (h.below B1)).mono ?_
 rintro e w2 ⟨n,rfl,YX,z2,yL⟩
 have B2:zO w w2:=B1.trans (yL.mono (by omega))
 have x2:=x1.below yL
 rw[z1] at YX ⊢
 clear B1 x1 yL
 go_wp2_with fail
 refine(zbl _ _ _ _ _ _ YX (by omega)).mono ?_
 rintro e w3 ⟨v,ms,p3,rfl,D3,hq3,hq3',JT,j9⟩
 have x3:=Xs x2 j9 (by omega)
 have B3:zO w w3:=B2.grown j9 (by omega) (fun k e=>by cases e;omega)
 have z3:=j9.size
 obtain⟨aX,cX,hvX⟩:=D3.row.shape
 subst hvX
 clear YX x2 B2 j9
 go_upto_region 3 with fail
 refine ym (fun W=>zO w W/\Bx W w.heap.size 25 [zQ]/\Bx W w3.heap.size 25 [.slice aX ms.length cX]/\vR w2.heap.size W (.slice aX ms.length cX) ms/\Rd W (w.heap.size+1) a n cap p3/\W.heap.size=w3.heap.size+1)
  ⟨B3.alloc (by have:=B3.size;omega) _,x3.alloc _,Bx.new _ _ _,D3.below (zR _ _),JT.alloc _,by simp⟩ ?_
 rintro W4 ⟨B4,x4,y4,D4,Ko,z4⟩
 clear B3 x3 D3 JT
 go_wp2_with fail
 refine(UK _ _ _ _ _ _ Ko (by omega)).mono ?_
 rintro e w5 ⟨r,c,rfl,hR,hC,hr5,wW⟩
 have x5:=Xs x4 wW (by omega)
 have y5:=Xs y4 wW (by omega)
 have B5:zO w w5:=B4.grown wW (by omega) (fun k e=>by cases e;omega)
 have D5:=D4.kept wW (by omega)
 have z5:=wW.size
 have c0:=y5.cell 0 rfl
 have xc:=x5.cell 0 rfl
 have xf:=x5.frozen 0
 clear Ko hr5 wW D4 B4 x4 y4
 go_upto_region 4 with fail
 go_wp2_with fail
 refine xU (fun W=>zO w W/\Bx W w.heap.size 25 [.slice aX ms.length cX]/\vR w.heap.size W (.slice aX ms.length cX) ms)
  ⟨B5.setCell (p:=zH w.heap.size 0) zD _,x5.set 0 _,?_⟩ ?_
 ·exact(D5.kept (xj w5 w.heap.size 0 _) (by omega)).mono (by omega)
 rintro W6 ⟨B6,x6,D6⟩
 have d6:=x6.cell 0 rfl
 exact bodyPost_ret (v:=.tuple #[.agg #[.slice aX ms.length cX],zI r,zI c]) (by simp[results,Tryz.results11,go_sem,d6]) rfl ⟨_,_,r,c,rfl,hR,hC,D6,B6⟩
end Go.Proofs.YtbjgjjkgfnfejaaGreatDoor
