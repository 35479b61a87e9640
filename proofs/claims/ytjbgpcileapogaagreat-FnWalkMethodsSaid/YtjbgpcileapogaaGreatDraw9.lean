/-
  What draws: rows of numbers, rows of methods, and words for a program that is being drawn.
-/
import Derived.Test.YtjbgpcileapogaaGreatDraw7
namespace Go.Proofs.YtjbgpcileapogaaGreat
open Go.RowKit
theorem Tryz.infoInt':(Tryz.prog.info? 3).map (fun i=>(i.zero,i.size,i.bytes))=some (some (.int .i64 0),1,8):=by kernel_rfl
def NumRow (B:Nat) (w:World) (v:Value) (xs:List Int):Prop:=w.ownsRow B 3 1 v xs.length (xs.map fun x=>Value.int .i64 x)
theorem NumRow.one (w:World) (x:Int):NumRow w.heap.size (w.alloc (.cells #[.int .i64 x] 3)) (.slice (some ⟨w.heap.size,0,none⟩) 1 1) [x] :=
  ⟨rfl,.inr ⟨w.heap.size,1,#[.int .i64 x],rfl,Nat.le_refl _,Go.Deep.blk_alloc_new _ _,Nat.le_refl _,by unfold maxLen;omega,rfl,rfl⟩⟩
theorem NumRow.mono {B B':Nat} {w:World} {v:Value} {xs:List Int} (h:NumRow B w v xs) (hB:B'≤B):NumRow B' w v xs:=by
  obtain⟨h1,h2⟩:=h
  refine⟨h1,?_⟩
  rcases h2 with h2 | ⟨g,cap,cur,hv,hg,r⟩
  · exact .inl h2
  · exact .inr ⟨g,cap,cur,hv,by omega,r⟩
theorem NumRow.lt {B:Nat} {w:World} {v:Value} {xs:List Int} (h:NumRow B w v xs):∀k,v.ownBlock=some k→B≤k∧k<w.heap.size:=World.ownsRow.lt h
theorem NumRow.kept {B:Nat} {w w':World} {v:Value} {xs:List Int} {row:Option Nat} (h:NumRow B w v xs) (hg:w.grownBy w' row) (hne:∀g,row=some g→v.ownBlock≠some g):NumRow B w' v xs :=
  World.ownsRow.kept h hg (by
    cases row with
    | none=>cases hv:v.ownBlock with
      | none=>exact .inl rfl
      | some g=>exact .inr (by simp)
    | some g=>exact .inr (hne g rfl))
theorem NumRow.shape1 {B:Nat} {w:World} {v:Value} {xs:List Int} (h:NumRow B w v xs) (hn:1≤xs.length):∃g c,v=.slice (some ⟨g,0,none⟩) xs.length c:=by
  obtain⟨_,h2⟩:=h
  rcases h2 with⟨rfl,hn'⟩ | ⟨g,cap,cur,rfl,_⟩
  · omega
  · exact⟨_,_,rfl⟩
theorem NumRow.cell {B:Nat} {w:World} {g n c:Nat} {xs:List Int} (h:NumRow B w (.slice (some ⟨g,0,none⟩) n c) xs) (i:Nat) (hi:i<xs.length):w.cell? ⟨g,i,none⟩=some (.int .i64 xs[i]):=by
  have:=World.ownsRow.cells h (g:=g) rfl i (.int .i64 xs[i]) (by simp[hi])
  rwa [Addr.add_lit,Nat.zero_add] at this
theorem append_num {ops:Array Oper} {rest:List Oper} {o:Oper} {act:Act} {Q:Exit→Act→World→Prop} (w:World) (hgd:o.guard=none) (s x:Operand)
    (ho:o.op=.call {callee:=.builtin .append,args:=#[s,x],argTypes:=#[39,39]}) (B:Nat) (v:Value) (L:List Int) (hs:act.eval s=v) (hown:NumRow B w v L) (k:Int) (c:Nat)
    (hx:act.eval x=.slice (some ⟨w.heap.size,0,none⟩) 1 c) (hL:L.length≤900) (hB:B≤w.heap.size)
    (h:∀g cap w',NumRow B w' (.slice (some ⟨g,0,none⟩) (L.length+1) cap) (L ++ [k])→(w.alloc (.cells #[.int .i64 k] 3)).grownBy w' v.ownBlock→B≤g→g<w'.heap.size →
      wpList Tryz.prog ops Q rest (act.put o.dst (.slice (some ⟨g,0,none⟩) (L.length+1) cap)) w') :
    wpList Tryz.prog ops Q (o :: rest) act (w.alloc (.cells #[.int .i64 k] 3)):=by
  obtain⟨i0,hi,hz0,hz1,hz2⟩:=info_parts Tryz.infoInt'
  refine wpList_append_lies _ hgd s x 39 ho B 3 i0 _ 1 8 Tryz.underlying39 hi hz0 hz1 hz2 rfl (by omega) v L.length (L.map fun x=>Value.int .i64 x) hs (World.ownsRow.alloc hown _) ⟨w.heap.size,0,none⟩ 1 c [.int .i64 k] hx rfl
    (World.news_of_block (Go.Deep.blk_alloc_new w _)) (by simp[Value.oneCell']) (by omega) (by unfold maxLen;omega) (by omega) (by simp;omega) _ rfl ?_
  intro g cap w' h1 h2 h3 h4
  refine h g cap w' ?_ h2 ?_ h4
  · unfold NumRow
    simp only[List.length_append,List.map_append,List.length_cons,List.length_nil,List.map_cons,List.map_nil,Nat.zero_add]
    exact h1
  · rcases h3 with h3 | h3
    · exact(hown.lt g h3).1
    · simp at h3;omega
def flat3 (ms:List (Int × Int × Value)):List Value:=ms.flatMap fun m=>[.int .i64 m.1,.int .i64 m.2.1,m.2.2]
theorem flat3_append (a b:List (Int × Int × Value)):flat3 (a ++ b)=flat3 a ++ flat3 b:=by simp[flat3]
theorem flat3_length (a:List (Int × Int × Value)):(flat3 a).length=a.length * 3:=by
  induction a with
  | nil=>rfl
  | cons x l ih=>simp[flat3] at ih ⊢;omega
theorem flat3_at (a:List (Int × Int × Value)):∀(i:Nat) (h:i<a.length),(flat3 a)[i * 3]?=some (.int .i64 a[i].1)∧(flat3 a)[i * 3+1]?=some (.int .i64 a[i].2.1)∧(flat3 a)[i * 3+2]?=some a[i].2.2:=by
  induction a with
  | nil=>intro i h;exact absurd h (Nat.not_lt_zero _)
  | cons x l ih =>
    intro i h
    cases i with
    | zero=>exact⟨rfl,rfl,rfl⟩
    | succ i =>
      have:=ih i (by simpa using h)
      rw[show(i+1) * 3=i * 3+3 by omega]
      exact this
def IsSlice (v:Value):Prop:=∃a l c,v=.slice a l c
theorem flat3_one_cell (M:List (Int × Int × Value)) (hM:∀m∈M,IsSlice m.2.2):∀u∈flat3 M,u.oneCell'=true:=by
  intro u hu
  simp only[flat3,List.mem_flatMap] at hu
  obtain⟨x,hx',hx⟩:=hu
  simp at hx
  rcases hx with rfl | rfl | rfl
  · rfl
  · rfl
  · obtain⟨a,l,c,h⟩:=hM x hx'
    rw[h];rfl
def MRow (B:Nat) (w:World) (v:Value) (ms:List (Int × Int × Value)):Prop:=w.ownsRow B 48 3 v ms.length (flat3 ms)
theorem MRow.nil (B:Nat) (w:World):MRow B w (.slice none 0 0) []:=World.ownsRow_nil _ _ _ _
theorem MRow.mono {B B':Nat} {w:World} {v:Value} {ms:List (Int × Int × Value)} (h:MRow B w v ms) (hB:B'≤B):MRow B' w v ms:=by
  obtain⟨h1,h2⟩:=h
  refine⟨h1,?_⟩
  rcases h2 with h2 | ⟨g,cap,cur,hv,hg,r⟩
  · exact .inl h2
  · exact .inr ⟨g,cap,cur,hv,by omega,r⟩
theorem MRow.lt {B:Nat} {w:World} {v:Value} {ms:List (Int × Int × Value)} (h:MRow B w v ms):∀k,v.ownBlock=some k→B≤k∧k<w.heap.size:=World.ownsRow.lt h
theorem MRow.kept {B:Nat} {w w':World} {v:Value} {ms:List (Int × Int × Value)} {row:Option Nat} (h:MRow B w v ms) (hg:w.grownBy w' row) (hne:∀g,row=some g→v.ownBlock≠some g):MRow B w' v ms :=
  World.ownsRow.kept h hg (by
    cases row with
    | none=>cases hv:v.ownBlock with
      | none=>exact .inl rfl
      | some g=>exact .inr (by simp)
    | some g=>exact .inr (hne g rfl))
theorem MRow.shape {B:Nat} {w:World} {v:Value} {ms:List (Int × Int × Value)} (h:MRow B w v ms):∃a c,v=.slice a ms.length c:=by
  obtain⟨_,h2⟩:=h
  rcases h2 with⟨rfl,hn⟩ | ⟨g,cap,cur,rfl,_⟩
  · exact⟨none,0,by rw[hn]⟩
  · exact⟨_,_,rfl⟩
theorem MRow.shape1 {B:Nat} {w:World} {v:Value} {ms:List (Int × Int × Value)} (h:MRow B w v ms) (hn:1≤ms.length):∃g c,v=.slice (some ⟨g,0,none⟩) ms.length c:=by
  obtain⟨_,h2⟩:=h
  rcases h2 with⟨rfl,hn'⟩ | ⟨g,cap,cur,rfl,_⟩
  · omega
  · exact⟨_,_,rfl⟩
theorem MRow.cell {B:Nat} {w:World} {g n c:Nat} {ms:List (Int × Int × Value)} (h:MRow B w (.slice (some ⟨g,0,none⟩) n c) ms) (i:Nat) (hi:i<ms.length) :
    w.cell? ⟨g,i * 3,none⟩=some (.int .i64 ms[i].1)∧w.cell? ⟨g,i * 3+1,none⟩=some (.int .i64 ms[i].2.1)∧w.cell? ⟨g,i * 3+2,none⟩=some ms[i].2.2:=by
  have h3:=flat3_at ms i hi
  have k0:=World.ownsRow.cells h (g:=g) rfl _ _ h3.1
  have k1:=World.ownsRow.cells h (g:=g) rfl _ _ h3.2.1
  have k2:=World.ownsRow.cells h (g:=g) rfl _ _ h3.2.2
  rw[Addr.add_lit,Nat.zero_add] at k0 k1 k2
  exact⟨k0,k1,k2⟩
theorem mrow_ne {w:World} {B B':Nat} {v v':Value} {ms:List (Int × Int × Value)} {L:List (Int × Int)} (hr:MRow B w v ms) (h:OpsRow B' w v' L):∀g,v.ownBlock=some g→v'.ownBlock≠some g:=by
  intro g e e'
  rcases hr.2 with⟨rfl,_⟩ | ⟨g1,cap,cur,rfl,_,hh,_⟩
  · cases e
  · rcases h.2 with⟨rfl,_⟩ | ⟨g2,cap',cur',rfl,_,hh',_⟩
    · cases e'
    · simp[Value.ownBlock] at e e'
      subst e;subst e'
      rw[hh] at hh'
      simp at hh'
theorem nrow_ne' {w:World} {B B':Nat} {v v':Value} {xs:List Int} {ms:List (Int × Int × Value)} (hr:NumRow B w v xs) (h:MRow B' w v' ms):∀g,v.ownBlock=some g→v'.ownBlock≠some g:=by
  intro g e e'
  rcases hr.2 with⟨rfl,_⟩ | ⟨g1,cap,cur,rfl,_,hh,_⟩
  · cases e
  · rcases h.2 with⟨rfl,_⟩ | ⟨g2,cap',cur',rfl,_,hh',_⟩
    · cases e'
    · simp[Value.ownBlock] at e e'
      subst e;subst e'
      rw[hh] at hh'
      simp at hh'
theorem append_meths {ops:Array Oper} {rest:List Oper} {o:Oper} {act:Act} {Q:Exit→Act→World→Prop} (w:World) (hgd:o.guard=none) (s x:Operand)
    (ho:o.op=.call {callee:=.builtin .append,args:=#[s,x],argTypes:=#[23,23]}) (B:Nat) (v:Value) (L:List (Int × Int × Value)) (hs:act.eval s=v) (hown:MRow B w v L) (M:List (Int × Int × Value)) (hM1:∀m∈M,IsSlice m.2.2) (ad:Addr) (c:Nat)
    (hx:act.eval x=.slice (some ad) M.length c) (hnews:∀j u,(flat3 M)[j]?=some u→w.cell? (ad.add j)=some u) (hM:0<M.length) (hL:L.length+M.length≤1000) (hB:B≤w.heap.size)
    (h:∀g cap w',MRow B w' (.slice (some ⟨g,0,none⟩) (L.length+M.length) cap) (L ++ M)→w.grownBy w' v.ownBlock→B≤g→g<w'.heap.size →
      wpList Tryz.prog ops Q rest (act.put o.dst (.slice (some ⟨g,0,none⟩) (L.length+M.length) cap)) w') :
    wpList Tryz.prog ops Q (o :: rest) act w:=by
  obtain⟨i0,hi,hz0,hz1,hz2⟩:=info_parts Tryz.infoMeth
  refine wpList_append_lies _ hgd s x 23 ho B 48 i0 _ 3 40 Tryz.underlying23 hi hz0 hz1 hz2 rfl (by omega) v L.length (flat3 L) hs hown ad M.length c (flat3 M) hx (flat3_length M)
    hnews (flat3_one_cell M hM1) hM (by unfold maxLen;omega) (by omega) hB w.heap.size rfl ?_
  intro g cap w' h1 h2 h3 h4
  refine h g cap w' ?_ h2 ?_ h4
  · unfold MRow
    rw[flat3_append,List.length_append]
    exact h1
  · rcases h3 with h3 | h3
    · exact(hown.lt g h3).1
    · omega
theorem step_meths {ops:Array Oper} {o:Oper} {act:Act} {K:Act→World→Prop} {Q:Exit→Act→World→Prop} {E:Prop} (w:World) (hgd:o.guard=none) (s x:Operand)
    (ho:o.op=.call {callee:=.builtin .append,args:=#[s,x],argTypes:=#[23,23]}) (B:Nat) (v:Value) (L:List (Int × Int × Value)) (hs:act.eval s=v) (hown:MRow B w v L) (M:List (Int × Int × Value)) (hM1:∀m∈M,IsSlice m.2.2) (ad:Addr) (c:Nat)
    (hx:act.eval x=.slice (some ad) M.length c) (hnews:∀j u,(flat3 M)[j]?=some u→w.cell? (ad.add j)=some u) (hM:0<M.length) (hL:L.length+M.length≤1000) (hB:B≤w.heap.size)
    (h:∀g cap w',MRow B w' (.slice (some ⟨g,0,none⟩) (L.length+M.length) cap) (L ++ M)→w.grownBy w' v.ownBlock→B≤g→g<w'.heap.size →
      K (act.put o.dst (.slice (some ⟨g,0,none⟩) (L.length+M.length) cap)) w') :
    if Region.wanted o (yielded ops act.tmps)=true then Oper.wp Tryz.prog o act w K Q else E:=by
  obtain⟨i0,hi,hz0,hz1,hz2⟩:=info_parts Tryz.infoMeth
  refine step_append_lies _ hgd s x 23 ho B 48 i0 _ 3 40 Tryz.underlying23 hi hz0 hz1 hz2 rfl (by omega) v L.length (flat3 L) hs hown ad M.length c (flat3 M) hx (flat3_length M)
    hnews (flat3_one_cell M hM1) hM (by unfold maxLen;omega) (by omega) hB w.heap.size rfl ?_
  intro g cap w' h1 h2 h3 h4
  refine h g cap w' ?_ h2 ?_ h4
  · unfold MRow
    rw[flat3_append,List.length_append]
    exact h1
  · rcases h3 with h3 | h3
    · exact(hown.lt g h3).1
    · omega
abbrev MM:=Int × Int × Value × List (Int × Int)
def MM.tri (m:MM):Int × Int × Value:=(m.1,m.2.1,m.2.2.1)
structure PRow (B:Nat) (w:World) (v:Value) (ms:List MM):Prop where
  row:MRow B w v (ms.map MM.tri)
  ops:∀m∈ms,OpsRow B w m.2.2.1 m.2.2.2
  dis:ms.Pairwise fun m n=>∀g,m.2.2.1.ownBlock=some g→n.2.2.1.ownBlock≠some g
theorem PRow.nil (B:Nat) (w:World):PRow B w (.slice none 0 0) []:=⟨MRow.nil _ _,by simp,.nil⟩
theorem PRow.shape {B:Nat} {w:World} {v:Value} {ms:List MM} (h:PRow B w v ms):∃a c,v=.slice a ms.length c:=by
  obtain⟨a,c,e⟩:=h.row.shape
  exact⟨a,c,by simpa using e⟩
theorem PRow.shape1 {B:Nat} {w:World} {v:Value} {ms:List MM} (h:PRow B w v ms) (hn:1≤ms.length):∃g c,v=.slice (some ⟨g,0,none⟩) ms.length c:=by
  obtain⟨a,c,e⟩:=h.row.shape1 (by simpa using hn)
  exact⟨a,c,by simpa using e⟩
theorem PRow.mono {B B':Nat} {w:World} {v:Value} {ms:List MM} (h:PRow B w v ms) (hB:B'≤B):PRow B' w v ms:=⟨h.row.mono hB,fun m hm=>(h.ops m hm).mono hB,h.dis⟩
theorem PRow.kept {B:Nat} {w w':World} {v:Value} {ms:List MM} {row:Option Nat} (h:PRow B w v ms) (hg:w.grownBy w' row) (hne:∀g,row=some g→v.ownBlock≠some g∧∀m∈ms,m.2.2.1.ownBlock≠some g):PRow B w' v ms :=
  ⟨h.row.kept hg (fun g e=>(hne g e).1),fun m hm=>(h.ops m hm).kept hg (fun g e=>(hne g e).2 m hm),h.dis⟩
theorem PRow.low {B:Nat} {w w':World} {v:Value} {ms:List MM} {b:Nat} (h:PRow B w v ms) (hg:w.grownBy w' (some b)) (hb:b<B):PRow B w' v ms :=
  h.kept hg fun g e=>by
    cases e
    exact⟨fun k=>by have:=(h.row.lt _ k).1;omega,fun m hm k=>by have:=((h.ops m hm).lt _ k).1;omega⟩
theorem PRow.ofMap {ms:List MM} {i:Nat} (hi:i<ms.length):(ms.map MM.tri)[i]'(by simpa using hi)=(ms[i].1,ms[i].2.1,ms[i].2.2.1):=by simp[MM.tri]
theorem OpsRow.at {B:Nat} {w:World} {v:Value} {L:List (Int × Int)} (h:OpsRow B w v L) (hl:L.length≤maxLen):OpsAt w v L:=by
  rcases h.2 with⟨rfl,hn⟩ | ⟨g,cap,cur,rfl,_⟩
  · have:L=[]:=List.length_eq_zero_iff.1 hn
    subst this
    exact⟨none,0,rfl,Nat.zero_le _,fun i hi=>absurd hi (Nat.not_lt_zero _)⟩
  · refine⟨some ⟨g,0,none⟩,cap,rfl,hl,fun i hi=>⟨g,0,rfl,?_,?_⟩⟩
    · have:=World.ownsRow.cells h (g:=g) rfl _ _ (flat_at L i hi).1
      rwa [Addr.add_lit] at this
    · have:=World.ownsRow.cells h (g:=g) rfl _ _ (flat_at L i hi).2
      rw[Addr.add_lit] at this
      simpa using this
def plainOf (ms:List MM):List (Int × Int × List (Int × Int)):=ms.map fun m=>(m.1,m.2.1,m.2.2.2)
theorem PRow.meths {B:Nat} {w:World} {v:Value} {ms:List MM} (h:PRow B w v ms) (hl:ms.length≤maxLen) (ho:∀m∈ms,m.2.2.2.length≤maxLen):MethsAt w v (plainOf ms):=by
  rcases h.row.2 with⟨rfl,hn⟩ | ⟨g,cap,cur,hv,_⟩
  · have:ms=[]:=by simpa using hn
    subst this
    exact⟨none,0,rfl,Nat.zero_le _,fun i hi=>absurd hi (Nat.not_lt_zero _)⟩
  · subst hv
    refine⟨some ⟨g,0,none⟩,cap,by simp[plainOf],by simpa [plainOf] using hl,fun i hi=>?_⟩
    have hi':i<ms.length:=by simpa [plainOf] using hi
    have c:=h.row.cell i (by simpa using hi')
    rw[PRow.ofMap hi'] at c
    refine⟨g,0,ms[i].2.2.1,rfl,?_,?_,?_,?_⟩
    · simp only[plainOf,List.getElem_map,Nat.zero_add];exact c.1
    · simp only[plainOf,List.getElem_map,Nat.zero_add];exact c.2.1
    · simp only[Nat.zero_add];exact c.2.2
    · simp only[plainOf,List.getElem_map];exact(h.ops _ (List.getElem_mem hi')).at (ho _ (List.getElem_mem hi'))
theorem pbox_new (w:World) (v:Value):(w.alloc (.cells #[v] 25)).rowIs w.heap.size 25 1 (fun _=>v) :=
  ⟨_,Go.Deep.blk_alloc_new _ _,rfl,fun i hi=>by match i,hi with | 0,_=>rfl⟩
theorem row_ne_ops {w:World} {g:Nat} {t:TypeId} {n:Nat} {f:Nat→Value} {B:Nat} {v:Value} {L:List (Int × Int)} (hr:w.rowIs g t n f) (h:OpsRow B w v L) (ht:t≠33):v.ownBlock≠some g:=row_ne hr h ht
theorem row_ne_meths {w:World} {g:Nat} {t:TypeId} {n:Nat} {f:Nat→Value} {B:Nat} {v:Value} {L:List (Int × Int × Value)} (hr:w.rowIs g t n f) (h:MRow B w v L) (ht:t≠48):v.ownBlock≠some g:=by
  intro e
  obtain⟨c,hc,_⟩:=hr
  rcases h.2 with⟨rfl,_⟩ | ⟨g',cap,cur,rfl,_,hh,_⟩
  · cases e
  · simp[Value.ownBlock] at e
    subst e
    rw[hc] at hh
    simp at hh
    exact ht hh.2
theorem row_ne_nums {w:World} {g:Nat} {t:TypeId} {n:Nat} {f:Nat→Value} {B:Nat} {v:Value} {L:List Int} (hr:w.rowIs g t n f) (h:NumRow B w v L) (ht:t≠3):v.ownBlock≠some g:=by
  intro e
  obtain⟨c,hc,_⟩:=hr
  rcases h.2 with⟨rfl,_⟩ | ⟨g',cap,cur,rfl,_,hh,_⟩
  · cases e
  · simp[Value.ownBlock] at e
    subst e
    rw[hc] at hh
    simp at hh
    exact ht hh.2
theorem after_append_num {w0 w w':World} {b:Nat} {a:Option Addr} {len cap p0 p:Nat} {v:Value} {L:List Int} {o:Obj} (h0:Rd w0 b a len cap p0) (hr:Rd w b a len cap p) (hg:w0.grownBy w (some b)) (hown:NumRow w0.heap.size w v L) {g:Nat} {f:Nat→Value} (hres:w.rowIs g 25 1 f)
    (hg2:(w.alloc o).grownBy w' v.ownBlock):Rd w' b a len cap p∧w0.grownBy w' (some b)∧w'.rowIs g 25 1 f:=by
  have hrow:∀g,v.ownBlock=some g→w0.heap.size≤g:=fun g e=>(hown.lt g e).1
  have hA:=World.grownBy_alloc w o v.ownBlock
  have hA2:w.grownBy w' v.ownBlock:=⟨hg2.os.trans hA.os,hg2.tape.trans hA.tape,hg2.output.trans hA.output,Nat.le_trans hA.size hg2.size,fun i hi hn=>(hg2.block i (Nat.lt_of_lt_of_le hi hA.size) hn).trans (hA.block i hi hn)⟩
  exact⟨Rd.kept h0 hr hg.size hA2 hrow,grown_own hg hA2 hrow,row_kept hres hA2 (fun e=>row_ne_nums hres hown (by decide) e.symm)⟩
structure PS (w0 w:World) (b:Nat) (a:Option Addr) (len cap p g:Nat) (va:Value) (xs:List Int) (v:Value) (ms:List MM):Prop where
  rd:Rd w b a len cap p
  gr:w0.grownBy w (some b)
  args:NumRow w0.heap.size w va xs
  box:w.rowIs g 25 1 (fun _=>v)
  own:w0.heap.size<g
  row:PRow w0.heap.size w v ms
  res:w.rowIs w0.heap.size 25 1 (fun _=>.slice none 0 0)
  r0:∃p0,Rd w0 b a len cap p0
namespace PS
variable {w0 w w' W:World} {b:Nat} {a:Option Addr} {len cap p q g:Nat} {va:Value} {xs:List Int} {v v':Value} {ms ms':List MM}
theorem blt (h:PS w0 w b a len cap p g va xs v ms):b<w0.heap.size:=by obtain⟨_,h0⟩:=h.r0;exact World.block_lt_of_cell? _ _ h0.s
theorem c0 (h:PS w0 w b a len cap p g va xs v ms):w.cell? ⟨g,0,none⟩=some v:=h.box.cell (by decide)
theorem f0 (h:PS w0 w b a len cap p g va xs v ms):w.frozen? ⟨g,0,none⟩=false:=h.box.frozen 0
theorem pick (h:PS w0 w b a len cap p g va xs v ms) (hrd:Rd w' b a len cap q) (hg:w.grownBy w' (some b)):PS w0 w' b a len cap q g va xs v ms :=
  ⟨hrd,grown_trans h.gr hg,h.args.kept hg (fun k e hk=>by cases e;have:=(h.args.lt _ hk).1;have:=h.blt;omega),row_kept h.box hg (by have:=h.own;have:=h.blt;simp;omega),h.own,h.row.low hg h.blt,row_kept h.res hg (by have:=h.blt;simp;omega),h.r0⟩
theorem drew (h:PS w0 w b a len cap p g va xs v ms):PS w0 w.drew b a len cap p g va xs v ms:=⟨Rd.heap h.rd rfl,⟨h.gr.os,h.gr.tape,h.gr.output,h.gr.size,h.gr.block⟩,h.args,h.box,h.own,⟨h.row.row,h.row.ops,h.row.dis⟩,h.res,h.r0⟩
theorem alloc (h:PS w0 w b a len cap p g va xs v ms) (o:Obj):PS w0 (w.alloc o) b a len cap p g va xs v ms:=by
  have hA:=World.grownBy_alloc w o none
  exact⟨h.rd.alloc o,grown_alloc h.gr o,World.ownsRow.alloc h.args o,row_kept h.box hA (by simp),h.own,h.row.kept hA (fun g e=>by cases e),row_kept h.res hA (by simp),h.r0⟩
theorem appended (h:PS w0 w b a len cap p g va xs v ms) (hg2:w.grownBy w' v.ownBlock):Rd w' b a len cap p∧w0.grownBy w' (some b)∧NumRow w0.heap.size w' va xs∧w'.rowIs g 25 1 (fun _=>v)∧w'.rowIs w0.heap.size 25 1 (fun _=>.slice none 0 0)∧∀u L,OpsRow w0.heap.size w u L→OpsRow w0.heap.size w' u L:=by
  have hrow:∀k,v.ownBlock=some k→w0.heap.size≤k:=fun k e=>(h.row.row.lt k e).1
  obtain⟨p0,h0⟩:=h.r0
  exact⟨Rd.kept h0 h.rd h.gr.size hg2 hrow,grown_own h.gr hg2 hrow,h.args.kept hg2 (fun k e hk=>nrow_ne' h.args h.row.row k hk e),row_kept h.box hg2 (fun e=>row_ne_meths h.box h.row.row (by decide) e.symm),row_kept h.res hg2 (fun e=>row_ne_meths h.res h.row.row (by decide) e.symm),
    fun u L hu=>hu.kept hg2 (fun k e hk=>mrow_ne h.row.row hu k e hk)⟩
theorem stored (h:PS w0 w b a len cap p g va xs v ms) (hg2:w.grownBy w' v.ownBlock) {A T:Int} {vo:Value} {L:List (Int × Int)} (hrow':MRow w0.heap.size w' v' (ms.map MM.tri ++ [(A,T,vo)])) (ho:OpsRow w0.heap.size w vo L) (hd:∀m∈ms,∀k,m.2.2.1.ownBlock=some k→vo.ownBlock≠some k) :
    PS w0 (w'.setCell ⟨g,0,none⟩ v') b a len cap p g va xs v' (ms ++ [(A,T,vo,L)]):=by
  obtain⟨h1,h2,h3,h4,h5,h6⟩:=h.appended hg2
  have hown:=h.own
  have k:=grown_set w' g 0 v'
  have e:∀k,some g=some k→w0.heap.size≤k:=fun k e=>by cases e;omega
  obtain⟨p0,h0⟩:=h.r0
  have hmr:MRow w0.heap.size w' v' ((ms ++ [(A,T,vo,L)]).map MM.tri):=by simpa [MM.tri] using hrow'
  have hops:∀m∈ms ++ [((A,T,vo,L):MM)],OpsRow w0.heap.size w' m.2.2.1 m.2.2.2:=by
    intro m hm
    rcases List.mem_append.1 hm with hm | hm
    · exact h6 _ _ (h.row.ops m hm)
    · simp at hm;subst hm;exact h6 _ _ ho
  refine⟨Rd.kept h0 h1 h2.size k e,grown_own h2 k e,h3.kept k (fun q hq hk=>by cases hq;exact row_ne_nums h4 h3 (by decide) hk),(h4.set 0 v').congr (fun i hi=>?_),hown,
    ⟨hmr.kept k (fun q hq hk=>by cases hq;exact row_ne_meths h4 hmr (by decide) hk),fun m hm=>(hops m hm).kept k (fun q hq hk=>by cases hq;exact row_ne_ops h4 (hops m hm) (by decide) hk),?_⟩,row_kept h5 k (by simp;omega),h.r0⟩
  · match i,hi with | 0,_=>simp
  · exact List.pairwise_append.2 ⟨h.row.dis,by simp,fun m hm n hn=>by simp at hn;subst hn;exact hd m hm⟩
theorem final (h:PS w0 w b a len cap p g va xs v ms):PRow w0.heap.size (w.setCell ⟨w0.heap.size,0,none⟩ v) v ms∧Rd (w.setCell ⟨w0.heap.size,0,none⟩ v) b a len cap p∧w0.grownBy (w.setCell ⟨w0.heap.size,0,none⟩ v) (some b)∧(w.setCell ⟨w0.heap.size,0,none⟩ v).cell? ⟨w0.heap.size,0,none⟩=some v:=by
  have k:=grown_set w w0.heap.size 0 v
  have e:∀k,some w0.heap.size=some k→w0.heap.size≤k:=fun k e=>by cases e;exact Nat.le_refl _
  obtain⟨p0,h0⟩:=h.r0
  refine⟨h.row.kept k (fun q e=>by cases e;exact⟨row_ne_meths h.res h.row.row (by decide),fun m hm=>row_ne_ops h.res (h.row.ops m hm) (by decide)⟩),Rd.kept h0 h.rd h.gr.size k e,grown_own h.gr k e,?_⟩
  exact World.cell?_setCell_same _ _ _ (h.res.cell (i:=0) (by decide))
end PS
def mmOk (m:MM):Prop:=2≤m.2.2.2.length∧m.2.2.2.length≤14
theorem prog_fit {ms:List MM} {xs:List Int} (hl:ms.length=xs.length) (h1:1≤xs.length) (h4:xs.length≤4) (h0:xs[0]?=some 0) (hw:∀i,(hi:i<ms.length)→methOk xs.length (ms[i].1,ms[i].2.1,ms[i].2.2.2)=true∧xs[i]?=some ms[i].1):progOk (plainOf ms)=true:=by
  have hpl:(plainOf ms).length=xs.length:=by simp[plainOf,hl]
  have hm0:0<ms.length:=by omega
  have e0:ms[0].1=0:=by
    have:=(hw 0 hm0).2
    rw[h0] at this
    exact(Option.some.inj this).symm
  unfold progOk
  rw[hpl]
  simp only[Bool.and_eq_true]
  refine⟨⟨inR_true.2 ⟨by omega,by omega⟩,?_⟩,all_of fun i hi=>?_⟩
  · have e:(plainOf ms).getD 0 (0,0,[])=(ms[0].1,ms[0].2.1,ms[0].2.2.2):=by simp[plainOf,hm0]
    rw[e,beq_iff_eq]
    exact e0
  · have hi':i<ms.length:=by rw[hpl] at hi;omega
    have e:(plainOf ms)[i]=(ms[i].1,ms[i].2.1,ms[i].2.2.2):=by simp[plainOf]
    rw[e]
    exact(hw i hi').1
set_option maxRecDepth 100000 in
set_option maxHeartbeats 4000000 in
theorem l71Prog_fit (w:World) (b:Nat) (a:Option Addr) (len cap p:Nat) (hr:Rd w b a len cap p) (hp:p+400≤1000000) :
    Calls Tryz.prog 108 #[.pointer (some ⟨b,0,none⟩)] w fun e w'=>∃(v:Value) (ms:List MM) (p':Nat),e=.returned (.agg #[v])∧PRow w.heap.size w' v ms∧2≤ms.length∧ms.length≤4∧(∀m∈ms,mmOk m)∧p≤p'∧p'≤p+400∧Rd w' b a len cap p'∧w.grownBy w' (some b)∧progOk (plainOf ms)=true:=by
  have hbw:b<w.heap.size:=World.block_lt_of_cell? _ _ hr.s
  have hrA:=hr.alloc (.cells #[.slice none 0 0] 25)
  have hgA:=grown_alloc (grown_refl w (some b)) (.cells #[.slice none 0 0] 25)
  have resA:=pbox_new w (.slice none 0 0)
  have nB:=NumRow.one (w.alloc (.cells #[.slice none 0 0] 25)) 0
  have hrB:=hrA.alloc (.cells #[.int .i64 0] 3)
  have hgB:=grown_alloc hgA (.cells #[.int .i64 0] 3)
  have resB:=resA.alloc (.cells #[.int .i64 0] 3)
  simp only[World.size_alloc] at nB
  replace nB:=nB.mono (Nat.le_succ _)
  clear hrA hgA resA
  go_enter Tryz.func108,Tryz.ntmps108
  go_wp2_with fail
  generalize (w.alloc (.cells #[.slice none 0 0] 25)).alloc (.cells #[.int .i64 0] 3)=W0 at *
  have hszB:=hgB.size
  refine(pick_any _ _ _ _ _ _ _ hrB (by omega) (by omega) (by omega)).mono ?_
  rintro e w1 ⟨x,rfl,hx0,hx1,hrd1,hg1⟩
  have n1:=nB.kept hg1 (fun k e hk=>by cases e;have:=(nB.lt _ hk).1;omega)
  have res1:=row_kept resB hg1 (by simp;omega)
  have hgr1:=grown_trans hgB hg1
  clear hrB hgB hg1 nB resB
  obtain⟨m,rfl⟩:=Int.eq_ofNat_of_zero_le hx0
  go_wp2_with fail
  go_loopg [3,4] (m+1) (fun d va n wr=>∃(xs:List Int) (k q:Nat),d=k∧n=.int .i64 k∧NumRow w.heap.size wr va xs∧xs.length+k=m+2∧1≤xs.length∧(∀i,(hi:i<xs.length)→0≤xs[i]∧xs[i]≤2)∧p+1≤q∧q≤p+xs.length∧Rd wr b a len cap q∧w.grownBy wr (some b)∧wr.rowIs w.heap.size 25 1 (fun _=>.slice none 0 0)∧Hid (xs[0]?=some 0))
  case atStart=>exact⟨[0],m+1,p+1,rfl,by go_num,n1,by simp;omega,by simp,by simp,by omega,by simp,hrd1,hgr1,res1,rfl⟩
  case round =>
    obtain⟨xs,k,q,hgk,rfl,hn,hlen,hl1,hxs,hq,hq',hrd,hgr,hres,H0⟩:=hrel
    replace hgk:=hgk.symm
    subst hgk
    by_cases hk:0<k
    · have hkz:(0:Int)<(k:Int):=by omega
      have hsz:=hgr.size
      go_wp2_with fail
      refine(pick_any _ _ _ _ _ _ _ hrd (by omega) (by omega) (by omega)).mono ?_
      rintro e w2 ⟨y,rfl,hy0,hy1,hrd2,hg2⟩
      have hn2:=hn.kept hg2 (fun k e hk=>by cases e;have:=(hn.lt _ hk).1;omega)
      have hres2:=row_kept hres hg2 (by simp;omega)
      have hgr2:=grown_trans hgr hg2
      have hsz2:=hgr2.size
      clear hn hrd hgr hres hg2
      go_wp2_with (at_builtin;refine append_num _ (by rfl) _ _ (by rfl) _ _ xs (by rfl) hn2 _ _ (by rfl) (by omega) (by omega) ?_;intro g3 cp3 w3 hn3 hg3 hB3 hlt3)
      obtain⟨hrd3,hgr3,hres3⟩:=after_append_num hr hrd2 hgr2 hn2 hres2 hg3
      clear hn2 hrd2 hgr2 hres2 hg3 hB3 hlt3
      go_wp2
      go_roundg (k - 1)
      case measure=>omega
      case rel=>exact⟨xs ++ [y],k - 1,q+1,rfl,by first | go_num | (simp;omega),by simpa using hn3,by simp;omega,by simp,fun i hi=>by
        rw[List.getElem_append]
        split
        · exact hxs _ _
        · simp;omega,by omega,by simp;omega,hrd3,hgr3,hres3,by show _=_;rw[List.getElem?_append_left (by omega)];exact H0.out⟩
    · obtain rfl:k=0:=by omega
      have hsz:=hgr.size
      have hP:PS w (wr.alloc (.cells #[.slice none 0 0] 25)) b a len cap q wr.heap.size u3 xs (.slice none 0 0) []:=by
        refine⟨hrd.alloc _,grown_alloc hgr _,World.ownsRow.alloc hn _,pbox_new _ _,?_,PRow.nil _ _,hres.alloc _,⟨p,hr⟩⟩
        have:=hres.lt;omega
      obtain⟨ga,ca,hva⟩:=hn.shape1 hl1
      subst hva
      have hxl:Hid (xs.length=m+2):=by show xs.length=m+2;omega
      clear hn hrd hgr hlen n1 hrd1 hgr1 res1 hres
      go_wp2_with fail
      generalize wr.alloc (.cells #[.slice none 0 0] 25)=W1 at *
      generalize wr.heap.size=gB at *
      go_loopg [6] xs.length (fun d i wq=>∃(k q':Nat) (v:Value) (ms:List MM),k≤xs.length∧d=xs.length - k∧i=.int .i64 k∧ms.length=k∧(∀m∈ms,mmOk m)∧q≤q'∧q'≤q+70 * k∧PS w wq b a len cap q' gB (.slice (some ⟨ga,0,none⟩) xs.length ca) xs v ms∧Hid (∀i,(hi:i<ms.length)→methOk xs.length (ms[i].1,ms[i].2.1,ms[i].2.2.2)=true∧xs[i]?=some ms[i].1))
      case atStart=>exact⟨0,q,_,[],Nat.zero_le _,rfl,rfl,rfl,by simp,by omega,by omega,hP,fun i hi=>absurd hi (Nat.not_lt_zero _)⟩
      case round =>
        obtain⟨k,q',v,ms,hk,rfl,rfl,HML,hmo,hqq,hqq',hPS,HW⟩:=hrel
        have hml:Hid (ms.length=k):=HML
        clear HML
        have hm4:ms.length≤4:=by have:=hml.out;have:=hxl.out;omega
        by_cases hlt:k<xs.length
        · have hkz:(k:Int)<(xs.length:Int):=by omega
          have c0:=hPS.c0
          have hszr:=hPS.gr.size
          obtain⟨aV,cV,hvV⟩:=hPS.row.shape
          subst hvV
          have HD:Hid (∀m∈ms,∀k,m.2.2.1.ownBlock=some k→k<wr.heap.size):=fun m hm k e=>((hPS.row.ops m hm).lt k e).2
          have HX:Hid (∀i,(hi:i<xs.length)→wr.cell? ⟨ga,i,none⟩=some (.int .i64 xs[i])∧0≤xs[i]∧xs[i]≤2):=fun i hi=>⟨hPS.args.cell i hi,hxs i hi⟩
          have hgab:ga≠b:=by have:=(hPS.args.lt ga rfl).1;omega
          have hPd:=hPS.drew
          clear hxs hPS
          have hl4:xs.length≤4:=by have:=hxl.out;omega
          go_wp2_with fail
          go_region_law (first
            | (refine step_meths _ (by rfl) _ _ (by rfl) w.heap.size _ (ms.map MM.tri) (by rfl) (World.ownsRow.alloc hP4.row.row _) [(A,T,vo)] (by simp;exact hsl) ⟨w4.heap.size,0,none⟩ _ (by rfl) (World.news_of_block (Go.Deep.blk_alloc_new w4 _)) (by simp) (by simp;omega) (by have:=hP4.gr.size;simp;omega) ?_;intro g5 cp5 w5 hrow5 hg5 hB5 hlt5;have hap:=(hP4.alloc _).appended hg5;have q0:=hap.2.2.2.1.cell (i:=0) (by decide);have e0:=hap.2.2.2.1.frozen 0)
            | (go_simp;go_at_call 158;refine(l71Method_fit _ _ _ _ _ _ ga _ xs k hPd.rd (by omega) HX.out hgab hlt hl4).mono ?_;rintro e w4 ⟨A,T,vo,L,q4,rfl,hrow4,hL2,hL14,hA0,hA2,hT1,hT4,hq4,hq4',hrd4,hg4,hAx,hAT,hOps⟩;have HM:Hid (methOk xs.length (A,T,L)=true∧xs[k]?=some A):=⟨methOk_of (inR_true.2 ⟨hA0,hA2⟩) (inR_true.2 ⟨hAT,hT4⟩) hL14 hOps,by rw[hAx];exact List.getElem?_eq_getElem _⟩;clear hAx hAT hOps;have hP4:=hPd.pick hrd4 hg4;have k0:=hP4.c0;have k0':=(fun o=>cell_below ((Below.refl _ _).alloc (Nat.le_refl _) o) k0);have hsl:IsSlice vo:=by obtain⟨a1,c1,h1⟩:=hrow4.shape;exact⟨_,_,_,h1⟩))
          all_goals
            simp only[List.length_map,List.length_cons,List.length_nil,Nat.zero_add] at hrow5
            have hPY:=(hP4.alloc _).stored hg5 hrow5 (World.ownsRow.alloc (hrow4.mono (by simpa using hszr)) _) (fun m hm j e e'=>by have:=HD.out m hm j e;have:=(hrow4.lt j e').1;simp at this;omega)
            have hmo':∀m∈ms ++ [((A,T,vo,L):MM)],mmOk m:=fun m hm=>by
              rcases List.mem_append.1 hm with hm | hm
              · exact hmo m hm
              · simp at hm;subst hm;exact⟨hL2,hL14⟩
            have HW':Hid (∀i,(hi:i<(ms ++ [((A,T,vo,L):MM)]).length)→methOk xs.length ((ms ++ [((A,T,vo,L):MM)])[i].1,(ms ++ [((A,T,vo,L):MM)])[i].2.1,(ms ++ [((A,T,vo,L):MM)])[i].2.2.2)=true∧xs[i]?=some (ms ++ [((A,T,vo,L):MM)])[i].1):=by
              intro i hi
              by_cases e:i<ms.length
              · rw[List.getElem_append_left e]
                exact HW.out i e
              · have e2:i=ms.length:=by simp at hi;omega
                subst e2
                rw[List.getElem_append_right (Nat.le_refl _)]
                simp only[Nat.sub_self,List.getElem_cons_zero]
                rw[hml.out]
                exact HM.out
            clear HW HM
            clear hap q0 e0 hg5 hrow5 hB5 hlt5 k0 k0' hP4 hrd4 hg4 hPd HX HD hrow4
            go_wp2
            go_roundg (xs.length - (k+1))
            case measure=>omega
            case rel=>exact⟨k+1,q4,_,_,by omega,rfl,by go_num,by have:=hml.out;simp;omega,hmo',by omega,by omega,hPY,HW'⟩
        · obtain rfl:k=xs.length:=by omega
          have c0:=hPS.c0
          have r0:=hPS.res.cell (i:=0) (by decide)
          have rf:=hPS.res.frozen 0
          have HPK:Hid (progOk (plainOf ms)=true):=prog_fit hml.out (by omega) (by have:=hml.out;omega) H0.out HW.out
          have hF:=hPS.final
          obtain⟨aV,cV,hvV⟩:=hPS.row.shape
          subst hvV
          clear hPS
          go_wp2
          generalize wr.setCell ⟨w.heap.size,0,none⟩ (.slice aV ms.length cV)=W3 at hF ⊢
          obtain⟨h1,h2,h3,d0⟩:=hF
          exact bodyPost_ret (v:=.agg #[.slice aV ms.length cV]) (by simp[results,Tryz.results108,go_sem,d0]) rfl ⟨_,_,_,rfl,h1,by have:=hml.out;have:=hxl.out;omega,hm4,hmo,by omega,by have:=hxl.out;omega,h2,h3,HPK.out⟩
def BytesAt (w:World) (a:Option Addr) (len cap:Nat):Prop :=
  len≤cap∧cap≤maxLen∧∀i,i<len→∃b o x,a=some ⟨b,o,none⟩∧w.cell? ⟨b,o+i,none⟩=some (.int .u8 x)∧0≤x∧x≤255
theorem BytesAt.below {w w':World} {a:Option Addr} {len cap:Nat} (h:BytesAt w a len cap) (hb:Below w.heap.size w w'):BytesAt w' a len cap:=by
  refine⟨h.1,h.2.1,fun i hi=>?_⟩
  obtain⟨b,o,x,ha,hc,hx⟩:=h.2.2 i hi
  exact⟨b,o,x,ha,cell_below hb hc,hx⟩
theorem rd_new {w:World} {a:Option Addr} {len cap n:Nat} (h:BytesAt w a len cap) (hn:n≤len) (hn2:n≤2000):Rd (w.alloc (.cells #[.slice a n cap,.int .i64 0] 155)) w.heap.size a n cap 0:=by
  refine⟨by simp[go_sem],by simp[go_sem],by simp[go_sem],hn2,fun i hi=>?_⟩
  obtain⟨b,o,x,ha,hc,hx⟩:=h.2.2 i (by omega)
  have:=World.block_lt_of_cell? _ _ hc
  exact⟨b,o,x,ha,by simp at this;omega,cell_below ((Below.refl _ _).alloc (Nat.le_refl _) _) hc,hx⟩
set_option maxRecDepth 100000 in
theorem l6Open_any (w:World) (a:Option Addr) (len cap:Nat) (h:BytesAt w a len cap) :
    Calls Tryz.prog 43 #[.slice a len cap] w fun e w'=>∃n,e=.returned (.pointer (some ⟨w.heap.size,0,none⟩))∧Rd w' w.heap.size a n cap 0∧w'.heap.size=w.heap.size+1∧Below w.heap.size w w':=by
  have hc:=h.1
  have hm:=h.2.1
  unfold maxLen at hm
  by_cases hl:2000<len
  · have hlz:(2000:Int)<(len:Int):=by omega
    have h20:2000≤cap:=by omega
    obtain⟨b,o,x,ha,_⟩:=h.2.2 0 (by omega)
    subst ha
    have HB:Hid (BytesAt w (some ⟨b,o,none⟩) len cap):=h
    clear h
    go_enter Tryz.func43,Tryz.ntmps43
    go_wp2
    go_ret
    exact⟨2000,rfl,rd_new HB.out (by omega) (by omega),by simp,(Below.refl _ _).alloc (Nat.le_refl _) _⟩
  · have hlz:(len:Int)≤2000:=by omega
    have HB:Hid (BytesAt w a len cap):=h
    clear h
    go_enter Tryz.func43,Tryz.ntmps43
    go_wp2
    go_ret
    exact⟨len,rfl,rd_new HB.out (Nat.le_refl _) (by omega),by simp,(Below.refl _ _).alloc (Nat.le_refl _) _⟩
structure Drawn (B:Nat) (w:World) (v:Value) (ms:List MM):Prop where
  row:PRow B w v ms
  few:ms.length≤7
  ops:∀m∈ms,m.2.2.2.length≤14
theorem Drawn.kept {B:Nat} {w w':World} {v:Value} {ms:List MM} (h:Drawn B w v ms) {b:Nat} (hg:w.grownBy w' (some b)) (hb:b<B):Drawn B w' v ms:=⟨h.row.low hg hb,h.few,h.ops⟩
theorem Drawn.below {B:Nat} {w w':World} {v:Value} {ms:List MM} (h:Drawn B w v ms) (hb:Below w.heap.size w w'):Drawn B w' v ms:=⟨h.row.kept (below_grown hb none) (fun g e=>by cases e),h.few,h.ops⟩
end Go.Proofs.YtjbgpcileapogaaGreat
