/-
  What draws, the small pieces: operations are gathered in rows of their own; l71Args, l71End, l71Look, l71Ops answer some operations (we need not know which), and but for the reader's place nothing that was there turns.
-/
import Derived.Test.YtjbgpcileapogaaGreatDraw1
import Derived.Test.YtjbgpcileapogaaGreatRFT
import Derived.Deep.AppendLies
import Derived.Deep.RegionHeld3
namespace Go.Proofs.YtjbgpcileapogaaGreat
open Go.RowKit
def flat (ops:List (Int × Int)):List Value:=ops.flatMap fun o=>[.int .i64 o.1,.int .i64 o.2]
theorem flat_append (a b:List (Int × Int)):flat (a ++ b)=flat a ++ flat b:=by simp[flat]
theorem flat_length (a:List (Int × Int)):(flat a).length=a.length * 2:=by
  induction a with
  | nil=>rfl
  | cons x l ih=>simp[flat] at ih ⊢;omega
theorem flat_at (a:List (Int × Int)):∀(i:Nat) (h:i<a.length),(flat a)[i * 2]?=some (.int .i64 a[i].1)∧(flat a)[i * 2+1]?=some (.int .i64 a[i].2):=by
  induction a with
  | nil=>intro i h;exact absurd h (Nat.not_lt_zero _)
  | cons x l ih =>
    intro i h
    cases i with
    | zero=>exact⟨rfl,rfl⟩
    | succ i =>
      have:=ih i (by simpa using h)
      rw[show(i+1) * 2=i * 2+2 by omega]
      exact this
def OpsRow (B:Nat) (w:World) (v:Value) (ops:List (Int × Int)):Prop:=w.ownsRow B 33 2 v ops.length (flat ops)
theorem OpsRow.nil (B:Nat) (w:World):OpsRow B w (.slice none 0 0) []:=World.ownsRow_nil _ _ _ _
theorem OpsRow.made (w:World):OpsRow w.heap.size (w.alloc (.cells #[] 33)) (.slice (some ⟨w.heap.size,0,none⟩) 0 0) [] :=
  ⟨rfl,.inr ⟨w.heap.size,0,#[],rfl,Nat.le_refl _,Go.Deep.blk_alloc_new _ _,Nat.le_refl _,Nat.zero_le _,rfl,rfl⟩⟩
theorem OpsRow.mono {B B':Nat} {w:World} {v:Value} {ops:List (Int × Int)} (h:OpsRow B w v ops) (hB:B'≤B):OpsRow B' w v ops:=by
  obtain⟨h1,h2⟩:=h
  refine⟨h1,?_⟩
  rcases h2 with h2 | ⟨g,cap,cur,hv,hg,r⟩
  · exact .inl h2
  · exact .inr ⟨g,cap,cur,hv,by omega,r⟩
theorem OpsRow.kept {B:Nat} {w w':World} {v:Value} {ops:List (Int × Int)} {row:Option Nat} (h:OpsRow B w v ops) (hg:w.grownBy w' row) (hne:∀g,row=some g→v.ownBlock≠some g):OpsRow B w' v ops :=
  World.ownsRow.kept h hg (by
    cases row with
    | none=>cases hv:v.ownBlock with
      | none=>exact .inl rfl
      | some g=>exact .inr (by simp)
    | some g=>exact .inr (hne g rfl))
theorem OpsRow.lt {B:Nat} {w:World} {v:Value} {ops:List (Int × Int)} (h:OpsRow B w v ops):∀k,v.ownBlock=some k→B≤k∧k<w.heap.size:=World.ownsRow.lt h
theorem Rd.kept {w0 w w':World} {b:Nat} {a:Option Addr} {len cap p0 p:Nat} {row:Option Nat} (h0:Rd w0 b a len cap p0) (h:Rd w b a len cap p) (hsz:w0.heap.size≤w.heap.size) (k:w.grownBy w' row) (hrow:∀g,row=some g→w0.heap.size≤g):Rd w' b a len cap p:=by
  have hb:b<w0.heap.size:=World.block_lt_of_cell? _ _ h0.s
  have ne:∀q,q<w0.heap.size→some q≠row:=fun q hq e=>by have:=hrow q e.symm;omega
  refine⟨k.cell h.s (ne b hb),k.cell h.p (ne b hb),?_,h.l,fun i hi=>?_⟩
  · rw[World.frozen?_of_block (k.block b (by omega) (ne b hb))];exact h.f
  · obtain⟨b0,o0,x0,e0,_,hc0,_⟩:=h0.c i hi
    have hlt:=World.block_lt_of_cell? _ _ hc0
    obtain⟨b',o,x,e1,hb',hc,hx⟩:=h.c i hi
    have hbb:b'=b0:=by
      rw[e0] at e1
      injection e1 with e1
      injection e1 with e1 _
      exact e1.symm
    subst hbb
    exact⟨b',o,x,e1,hb',k.cell hc (ne b' hlt),hx⟩
theorem grown_own {w0 w w':World} {b:Nat} {row:Option Nat} (h:w0.grownBy w (some b)) (k:w.grownBy w' row) (hrow:∀g,row=some g→w0.heap.size≤g):w0.grownBy w' (some b) :=
  ⟨k.os.trans h.os,k.tape.trans h.tape,k.output.trans h.output,Nat.le_trans h.size k.size,fun i hi hn=>(k.block i (Nat.lt_of_lt_of_le hi h.size) (fun e=>by have:=hrow i e.symm;omega)).trans (h.block i hi hn)⟩
theorem grown_refl (w:World) (b:Option Nat):w.grownBy w b:=⟨rfl,rfl,rfl,Nat.le_refl _,fun _ _ _=>rfl⟩
theorem grown_alloc {w w1:World} {b:Option Nat} (h:w.grownBy w1 b) (o:Obj):w.grownBy (w1.alloc o) b :=
  ⟨h.os,h.tape,h.output,by have:=h.size;simp;omega,fun k hk hn=>(Below.heap_alloc _ _ _ (by have:=h.size;omega)).trans (h.block k hk hn)⟩
theorem grown_set (w:World) (g o:Nat) (v:Value):w.grownBy (w.setCell ⟨g,o,none⟩ v) (some g) :=
  ⟨rfl,rfl,rfl,by simp[World.setCell],fun k _ hk=>Below.heap_setCell _ _ _ _ (fun e=>hk (by rw[e]))⟩
theorem after_set2 {w0 w:World} {b g:Nat} {a:Option Addr} {len cap p0 p:Nat} (h0:Rd w0 b a len cap p0) (hr:Rd w b a len cap p) (hg:w0.grownBy w (some b)) (hgb:w0.heap.size≤g) (o1 o2:Nat) (v1 v2:Value) :
    Rd ((w.setCell ⟨g,o1,none⟩ v1).setCell ⟨g,o2,none⟩ v2) b a len cap p∧w0.grownBy ((w.setCell ⟨g,o1,none⟩ v1).setCell ⟨g,o2,none⟩ v2) (some b):=by
  have k1:=grown_set w g o1 v1
  have k2:=grown_set (w.setCell ⟨g,o1,none⟩ v1) g o2 v2
  have hrow:∀q,some g=some q→w0.heap.size≤q:=fun q e=>by cases e;exact hgb
  have r1:=Rd.kept h0 hr hg.size k1 hrow
  have g1:=grown_own hg k1 hrow
  exact⟨Rd.kept h0 r1 g1.size k2 hrow,grown_own g1 k2 hrow⟩
theorem flat_one_cell (M:List (Int × Int)):∀u∈flat M,u.oneCell'=true:=by
  intro u hu
  simp only[flat,List.mem_flatMap] at hu
  obtain⟨x,_,hx⟩:=hu
  simp at hx
  rcases hx with rfl | rfl <;> rfl
theorem append_ops {ops:Array Oper} {rest:List Oper} {o:Oper} {act:Act} {Q:Exit→Act→World→Prop} (w:World) (hgd:o.guard=none) (s x:Operand)
    (ho:o.op=.call {callee:=.builtin .append,args:=#[s,x],argTypes:=#[46,46]}) (B:Nat) (v:Value) (L:List (Int × Int)) (hs:act.eval s=v) (hown:OpsRow B w v L) (M:List (Int × Int)) (gb c:Nat)
    (hx:act.eval x=.slice (some ⟨gb,0,none⟩) M.length c) (hnews:∀j u,(flat M)[j]?=some u→w.cell? ((⟨gb,0,none⟩:Addr).add j)=some u) (hM:0<M.length) (hL:L.length+M.length≤1000) (hB:B≤w.heap.size)
    (h:∀g cap w',OpsRow B w' (.slice (some ⟨g,0,none⟩) (L.length+M.length) cap) (L ++ M)→w.grownBy w' v.ownBlock→B≤g→g<w'.heap.size →
      wpList Tryz.prog ops Q rest (act.put o.dst (.slice (some ⟨g,0,none⟩) (L.length+M.length) cap)) w') :
    wpList Tryz.prog ops Q (o :: rest) act w:=by
  obtain⟨i0,hi,hz0,hz1,hz2⟩:=info_parts Tryz.infoOp
  refine wpList_append_lies _ hgd s x 46 ho B 33 i0 _ 2 16 Tryz.underlying46 hi hz0 hz1 hz2 rfl (by omega) v L.length (flat L) hs hown ⟨gb,0,none⟩ M.length c (flat M) hx (flat_length M)
    hnews (flat_one_cell M) hM (by unfold maxLen;omega) (by omega) hB w.heap.size rfl ?_
  intro g cap w' h1 h2 h3 h4
  refine h g cap w' ?_ h2 ?_ h4
  · unfold OpsRow
    rw[flat_append,List.length_append]
    exact h1
  · rcases h3 with h3 | h3
    · exact(hown.lt g h3).1
    · omega
theorem step_ops {ops:Array Oper} {o:Oper} {act:Act} {K:Act→World→Prop} {Q:Exit→Act→World→Prop} {E:Prop} (w:World) (hgd:o.guard=none) (s x:Operand)
    (ho:o.op=.call {callee:=.builtin .append,args:=#[s,x],argTypes:=#[46,46]}) (B:Nat) (v:Value) (L:List (Int × Int)) (hs:act.eval s=v) (hown:OpsRow B w v L) (M:List (Int × Int)) (gb c:Nat)
    (hx:act.eval x=.slice (some ⟨gb,0,none⟩) M.length c) (hnews:∀j u,(flat M)[j]?=some u→w.cell? ((⟨gb,0,none⟩:Addr).add j)=some u) (hM:0<M.length) (hL:L.length+M.length≤1000) (hB:B≤w.heap.size)
    (h:∀g cap w',OpsRow B w' (.slice (some ⟨g,0,none⟩) (L.length+M.length) cap) (L ++ M)→w.grownBy w' v.ownBlock→B≤g→g<w'.heap.size →
      K (act.put o.dst (.slice (some ⟨g,0,none⟩) (L.length+M.length) cap)) w') :
    if Region.wanted o (yielded ops act.tmps)=true then Oper.wp Tryz.prog o act w K Q else E:=by
  obtain⟨i0,hi,hz0,hz1,hz2⟩:=info_parts Tryz.infoOp
  refine step_append_lies _ hgd s x 46 ho B 33 i0 _ 2 16 Tryz.underlying46 hi hz0 hz1 hz2 rfl (by omega) v L.length (flat L) hs hown ⟨gb,0,none⟩ M.length c (flat M) hx (flat_length M)
    hnews (flat_one_cell M) hM (by unfold maxLen;omega) (by omega) hB w.heap.size rfl ?_
  intro g cap w' h1 h2 h3 h4
  refine h g cap w' ?_ h2 ?_ h4
  · unfold OpsRow
    rw[flat_append,List.length_append]
    exact h1
  · rcases h3 with h3 | h3
    · exact(hown.lt g h3).1
    · omega
theorem append_op {ops:Array Oper} {rest:List Oper} {o:Oper} {act:Act} {Q:Exit→Act→World→Prop} (w:World) (hgd:o.guard=none) (s x:Operand)
    (ho:o.op=.call {callee:=.builtin .append,args:=#[s,x],argTypes:=#[46,46]}) (B:Nat) (v:Value) (L:List (Int × Int)) (hs:act.eval s=v) (hown:OpsRow B w v L) (k q:Int) (c:Nat)
    (hx:act.eval x=.slice (some ⟨w.heap.size,0,none⟩) 1 c) (hL:L.length≤900) (hB:B≤w.heap.size)
    (h:∀g cap w',OpsRow B w' (.slice (some ⟨g,0,none⟩) (L.length+1) cap) (L ++ [(k,q)])→(w.alloc (.cells #[.int .i64 k,.int .i64 q] 33)).grownBy w' v.ownBlock→B≤g→g<w'.heap.size →
      wpList Tryz.prog ops Q rest (act.put o.dst (.slice (some ⟨g,0,none⟩) (L.length+1) cap)) w') :
    wpList Tryz.prog ops Q (o :: rest) act (w.alloc (.cells #[.int .i64 k,.int .i64 q] 33)) :=
  append_ops _ hgd s x ho B v L hs (World.ownsRow.alloc hown _) [(k,q)] w.heap.size c hx (World.news_of_block (Go.Deep.blk_alloc_new w _)) (by simp) (by simp;omega) (by simp;omega) h
theorem after_append {w0 w w':World} {b:Nat} {a:Option Addr} {len cap p0 p:Nat} {v:Value} {L:List (Int × Int)} {o:Obj} (h0:Rd w0 b a len cap p0) (hr:Rd w b a len cap p) (hg:w0.grownBy w (some b)) (hown:OpsRow w0.heap.size w v L)
    (hg2:(w.alloc o).grownBy w' v.ownBlock):Rd w' b a len cap p∧w0.grownBy w' (some b):=by
  have hrow:∀g,v.ownBlock=some g→w0.heap.size≤g:=fun g e=>(hown.lt g e).1
  have hA:=World.grownBy_alloc w o v.ownBlock
  have hA2:w.grownBy w' v.ownBlock:=⟨hg2.os.trans hA.os,hg2.tape.trans hA.tape,hg2.output.trans hA.output,Nat.le_trans hA.size hg2.size,fun i hi hn=>(hg2.block i (Nat.lt_of_lt_of_le hi hA.size) hn).trans (hA.block i hi hn)⟩
  exact⟨Rd.kept h0 hr hg.size hA2 hrow,grown_own hg hA2 hrow⟩
def Fit (nm:Nat) (t:Int) (o:Int × Int):Prop:=o.1≠7∧o.1≠8∧opOk nm 0 t o.1 o.2=true
def Fits (nm:Nat) (t:Int) (l:List (Int × Int)):Prop:=∀o∈l,Fit nm t o
theorem Fits.nil {nm:Nat} {t:Int}:Fits nm t []:=fun _ h=>by cases h
theorem Fits.append {nm:Nat} {t:Int} {l m:List (Int × Int)} (h:Fits nm t l) (k:Fits nm t m):Fits nm t (l ++ m):=fun o e=>by
  rcases List.mem_append.1 e with e | e
  · exact h o e
  · exact k o e
theorem Fits.one {nm:Nat} {t:Int} {o:Int × Int} (h:Fit nm t o):Fits nm t [o]:=fun q e=>by
  have:=List.mem_singleton.1 e
  rw[this]
  exact h
theorem Fits.snoc {nm:Nat} {t:Int} {l:List (Int × Int)} {o:Int × Int} (h:Fits nm t l) (k:Fit nm t o):Fits nm t (l ++ [o]):=h.append (.one k)
theorem fit_num {nm:Nat} {t a:Int} (h0:0≤a) (h1:a≤99):Fit nm t (1,a):=⟨by simp,by simp,by rw[opOk_1];exact inR_true.2 ⟨h0,h1⟩⟩
theorem fit_temp {nm:Nat} {t a:Int} (h0:0≤a) (h1:a<t):Fit nm t (2,a):=⟨by simp,by simp,by rw[opOk_2];exact inR_true.2 ⟨h0,by omega⟩⟩
theorem fit_set {nm:Nat} {t a:Int} (h0:0≤a) (h1:a<t):Fit nm t (3,a):=⟨by simp,by simp,by rw[opOk_3];exact inR_true.2 ⟨h0,by omega⟩⟩
theorem fit_call {nm:Nat} {t a:Int} (h0:0≤a) (h1:a<(nm:Int)):Fit nm t (9,a):=⟨by simp,by simp,by rw[opOk_9];exact inR_true.2 ⟨h0,by omega⟩⟩
theorem fit_peek {nm:Nat} {t a:Int} (h0:0≤a) (h1:a<4):Fit nm t (13,a):=⟨by simp,by simp,by rw[opOk_13];exact inR_true.2 ⟨h0,by omega⟩⟩
theorem fit_poke {nm:Nat} {t a:Int} (h0:0≤a) (h1:a<4):Fit nm t (14,a):=⟨by simp,by simp,by rw[opOk_14];exact inR_true.2 ⟨h0,by omega⟩⟩
theorem fit_4 {nm:Nat} {t:Int}:Fit nm t (4,0):=⟨by simp,by simp,rfl⟩
theorem fit_5 {nm:Nat} {t:Int}:Fit nm t (5,0):=⟨by simp,by simp,rfl⟩
theorem fit_6 {nm:Nat} {t:Int}:Fit nm t (6,0):=⟨by simp,by simp,rfl⟩
theorem fit_10 {nm:Nat} {t:Int}:Fit nm t (10,0):=⟨by simp,by simp,rfl⟩
theorem fit_11 {nm:Nat} {t:Int}:Fit nm t (11,0):=⟨by simp,by simp,rfl⟩
theorem fit_12 {nm:Nat} {t:Int}:Fit nm t (12,0):=⟨by simp,by simp,rfl⟩
theorem fit_15 {nm:Nat} {t:Int}:Fit nm t (15,0):=⟨by simp,by simp,rfl⟩
theorem fit_16 {nm:Nat} {t:Int}:Fit nm t (16,0):=⟨by simp,by simp,rfl⟩
theorem fit_17 {nm:Nat} {t:Int}:Fit nm t (17,0):=⟨by simp,by simp,rfl⟩
theorem fit_18 {nm:Nat} {t:Int}:Fit nm t (18,0):=⟨by simp,by simp,rfl⟩
set_option maxHeartbeats 1000000 in
theorem l71Args_fit (w:World) (b:Nat) (a:Option Addr) (len cap p:Nat) (n t:Int) (hr:Rd w b a len cap p) (hp:p+4≤1000000) (hn0:0≤n) (hn2:n≤2) (ht1:1≤t) (ht4:t≤4) :
    Calls Tryz.prog 188 #[.pointer (some ⟨b,0,none⟩),.int .i64 n,.int .i64 t] w fun e w'=>∃v ops p',e=.returned v∧OpsRow w.heap.size w' v ops∧(ops.length:Int)=n∧p≤p'∧p'≤p+4∧Rd w' b a len cap p'∧w.grownBy w' (some b)∧∀nm,Fits nm t ops:=by
  obtain⟨m,rfl⟩:=Int.eq_ofNat_of_zero_le hn0
  have hbw:b<w.heap.size:=World.block_lt_of_cell? _ _ hr.s
  go_enter Tryz.func188,Tryz.ntmps188
  go_wp2
  go_loopg [7,8] m (fun g v i wr=>∃(L:List (Int × Int)) (q:Nat),L.length≤m∧g=m - L.length∧i=.int .i64 L.length∧OpsRow w.heap.size wr v L∧p≤q∧q≤p+2 * L.length∧Rd wr b a len cap q∧w.grownBy wr (some b)∧Hid (∀nm,Fits nm t L))
  case atStart=>exact⟨[],p,Nat.zero_le _,rfl,rfl,OpsRow.made w,Nat.le_refl _,by simp,Rd.kept hr hr (Nat.le_refl _) (World.grownBy_alloc w _ none) (fun g e=>by cases e),grown_alloc (grown_refl _ _) _,fun _=>Fits.nil⟩
  case round =>
    obtain⟨L,q,hk,rfl,rfl,hrow,hpq,hqp,hrd,hgr,HF⟩:=hrel
    by_cases hlt:L.length<m
    · have hkz:(L.length:Int)<(m:Int):=by omega
      have hsz:=hgr.size
      go_wp2_with fail
      refine(pick_any _ _ _ _ _ _ _ hrd (by omega) (by omega) (by omega)).mono ?_
      rintro e w1 ⟨x,rfl,hx0,hx1,hrd1,hg1⟩
      have hrow1:OpsRow w.heap.size w1 _ L:=hrow.kept hg1 (fun g e h=>by cases e;have:=hrow.lt _ h;omega)
      have hgr1:=grown_trans hgr hg1
      have hsz1:=hgr1.size
      clear hrow hrd hgr hg1
      by_cases h0:x=0
      · subst h0
        go_wp2_with (at_builtin;refine append_op _ (by rfl) _ _ (by rfl) _ _ L (by rfl) hrow1 _ _ _ (by rfl) (by omega) (by omega) ?_;intro g cp w2 hrow2 hg2 hBg hglt)
        obtain⟨hrd2,hgr2⟩:=after_append hr hrd1 hgr1 hrow1 hg2
        clear hg2 hBg hglt hrow1 hrd1 hgr1
        go_wp2
        go_roundg (m - (L.length+1))
        case measure=>omega
        case rel=>exact⟨_,q+1,by simp;omega,by simp,by simp,hrow2,by omega,by simp;omega,hrd2,hgr2,fun nm=>(HF.out nm).snoc fit_11⟩
      have e0:(x == 0)=false:=beq_eq_false_iff_ne.2 h0
      by_cases h1:x=1
      · subst h1
        go_wp2_with fail
        refine(pick_any _ _ _ _ _ _ _ hrd1 (by omega) (by omega) (by omega)).mono ?_
        rintro e w3 ⟨y,rfl,hy0,hy1,hrd3,hg3⟩
        have hrow3:OpsRow w.heap.size w3 _ L:=hrow1.kept hg3 (fun g e h=>by cases e;have:=hrow1.lt _ h;omega)
        have hgr3:=grown_trans hgr1 hg3
        have hsz3:=hgr3.size
        clear hrow1 hrd1 hgr1 hg3 hsz1
        go_wp2_with (at_builtin;refine append_op _ (by rfl) _ _ (by rfl) _ _ L (by rfl) hrow3 _ _ _ (by rfl) (by omega) (by omega) ?_;intro g cp w2 hrow2 hg2 hBg hglt)
        obtain⟨hrd2,hgr2⟩:=after_append hr hrd3 hgr3 hrow3 hg2
        clear hg2 hBg hglt hrow3 hrd3 hgr3
        go_wp2
        go_roundg (m - (L.length+1))
        case measure=>omega
        case rel=>exact⟨_,q+1+1,by simp;omega,by simp,by simp,hrow2,by omega,by simp;omega,hrd2,hgr2,fun nm=>(HF.out nm).snoc (fit_num hy0 (by omega))⟩
      · have e1:(x == 1)=false:=beq_eq_false_iff_ne.2 h1
        go_wp2_with fail
        refine(pick_any _ _ _ _ _ _ _ hrd1 (by omega) (by omega) (by omega)).mono ?_
        rintro e w3 ⟨y,rfl,hy0,hy1,hrd3,hg3⟩
        have hrow3:OpsRow w.heap.size w3 _ L:=hrow1.kept hg3 (fun g e h=>by cases e;have:=hrow1.lt _ h;omega)
        have hgr3:=grown_trans hgr1 hg3
        have hsz3:=hgr3.size
        clear hrow1 hrd1 hgr1 hg3 hsz1
        go_wp2_with (at_builtin;refine append_op _ (by rfl) _ _ (by rfl) _ _ L (by rfl) hrow3 _ _ _ (by rfl) (by omega) (by omega) ?_;intro g cp w2 hrow2 hg2 hBg hglt)
        obtain⟨hrd2,hgr2⟩:=after_append hr hrd3 hgr3 hrow3 hg2
        clear hg2 hBg hglt hrow3 hrd3 hgr3
        go_wp2
        go_roundg (m - (L.length+1))
        case measure=>omega
        case rel=>exact⟨_,q+1+1,by simp;omega,by simp,by simp,hrow2,by omega,by simp;omega,hrd2,hgr2,fun nm=>(HF.out nm).snoc (fit_temp hy0 hy1)⟩
    · obtain rfl:m=L.length:=by omega
      go_wp2
      go_ret
      exact⟨_,L,q,rfl,hrow,rfl,hpq,by omega,hrd,hgr,HF.out⟩
set_option maxHeartbeats 1000000 in
theorem l71End_fit (w:World) (b:Nat) (a:Option Addr) (len cap p:Nat) (t:Int) (hr:Rd w b a len cap p) (hp:p+2≤1000000) (ht1:1≤t) (ht4:t≤4) :
    Calls Tryz.prog 187 #[.pointer (some ⟨b,0,none⟩),.int .i64 t] w fun e w'=>∃(k q:Int) (p':Nat),e=.returned (.agg #[.int .i64 k,.int .i64 q])∧p≤p'∧p'≤p+2∧Rd w' b a len cap p'∧w.grownBy w' (some b)∧∀nm,Fit nm t (k,q):=by
  have hbw:b<w.heap.size:=World.block_lt_of_cell? _ _ hr.s
  have hrA:=Rd.kept hr hr (Nat.le_refl _) (World.grownBy_alloc w (.cells #[.int .i64 0,.int .i64 0] 33) none) (fun g e=>by cases e)
  have hgA:=grown_alloc (grown_refl w (some b)) (.cells #[.int .i64 0,.int .i64 0] 33)
  have c0:(w.alloc (.cells #[.int .i64 0,.int .i64 0] 33)).rowIs w.heap.size 33 2 (fun _=>.int .i64 0):=⟨_,Go.Deep.blk_alloc_new _ _,rfl,fun i hi=>by match i,hi with | 0,_=>rfl | 1,_=>rfl⟩
  go_enter Tryz.func187,Tryz.ntmps187
  go_wp2_with fail
  generalize w.alloc (.cells #[.int .i64 0,.int .i64 0] 33)=W0 at *
  have hsz:=hgA.size
  refine(pick_any _ _ _ _ _ _ _ hrA (by omega) (by omega) (by omega)).mono ?_
  rintro e w1 ⟨x,rfl,hx0,hx1,hrd1,hg1⟩
  have c1:w1.rowIs w.heap.size 33 2 (fun _=>.int .i64 0):=c0.of_block (hg1.block _ c0.lt (by simp;omega))
  have hgr1:=grown_trans hgA hg1
  clear hrA hgA hg1 c0
  by_cases h0:x=0
  · subst h0
    obtain⟨f0,f1,c0',c1'⟩:w1.frozen? ⟨w.heap.size,0,none⟩=false∧w1.frozen? ⟨w.heap.size,1,none⟩=false∧w1.cell? ⟨w.heap.size,0,none⟩=some (.int .i64 0)∧w1.cell? ⟨w.heap.size,1,none⟩=some (.int .i64 0):=⟨c1.frozen 0,c1.frozen 1,c1.cell (by omega),c1.cell (by omega)⟩
    have R:=fun v1 v2=>after_set2 hr hrd1 hgr1 (Nat.le_refl _) 0 1 v1 v2
    clear c1 hrd1 hgr1
    go_wp2
    exact bodyPost_ret (v:=.agg #[.int .i64 4,.int .i64 0]) (by simp[results,Tryz.results187,go_sem,c0',c1']) rfl ⟨_,_,_,rfl,by omega,by omega,(R _ _).1,(R _ _).2,fun _=>fit_4⟩
  have e0:(x == 0)=false:=beq_eq_false_iff_ne.2 h0
  by_cases h1:x=1
  · subst h1
    obtain⟨f0,f1,c0',c1'⟩:w1.frozen? ⟨w.heap.size,0,none⟩=false∧w1.frozen? ⟨w.heap.size,1,none⟩=false∧w1.cell? ⟨w.heap.size,0,none⟩=some (.int .i64 0)∧w1.cell? ⟨w.heap.size,1,none⟩=some (.int .i64 0):=⟨c1.frozen 0,c1.frozen 1,c1.cell (by omega),c1.cell (by omega)⟩
    have R:=fun v1 v2=>after_set2 hr hrd1 hgr1 (Nat.le_refl _) 0 1 v1 v2
    clear c1 hrd1 hgr1
    go_wp2
    exact bodyPost_ret (v:=.agg #[.int .i64 16,.int .i64 0]) (by simp[results,Tryz.results187,go_sem,c0',c1']) rfl ⟨_,_,_,rfl,by omega,by omega,(R _ _).1,(R _ _).2,fun _=>fit_16⟩
  have e1:(x == 1)=false:=beq_eq_false_iff_ne.2 h1
  by_cases h2:x=2
  · subst h2
    obtain⟨f0,f1,c0',c1'⟩:w1.frozen? ⟨w.heap.size,0,none⟩=false∧w1.frozen? ⟨w.heap.size,1,none⟩=false∧w1.cell? ⟨w.heap.size,0,none⟩=some (.int .i64 0)∧w1.cell? ⟨w.heap.size,1,none⟩=some (.int .i64 0):=⟨c1.frozen 0,c1.frozen 1,c1.cell (by omega),c1.cell (by omega)⟩
    have R:=fun v1 v2=>after_set2 hr hrd1 hgr1 (Nat.le_refl _) 0 1 v1 v2
    clear c1 hrd1 hgr1
    go_wp2
    exact bodyPost_ret (v:=.agg #[.int .i64 16,.int .i64 0]) (by simp[results,Tryz.results187,go_sem,c0',c1']) rfl ⟨_,_,_,rfl,by omega,by omega,(R _ _).1,(R _ _).2,fun _=>fit_16⟩
  have e2:(x == 2)=false:=beq_eq_false_iff_ne.2 h2
  have hsz1:=hgr1.size
  go_wp2_with fail
  refine(pick_any _ _ _ _ _ _ _ hrd1 (by omega) (by omega) (by omega)).mono ?_
  rintro e w3 ⟨y,rfl,hy0,hy1,hrd3,hg3⟩
  have c3:w3.rowIs w.heap.size 33 2 (fun _=>.int .i64 0):=c1.of_block (hg3.block _ c1.lt (by simp;omega))
  have hgr3:=grown_trans hgr1 hg3
  clear hrd1 hgr1 hg3 c1
  obtain⟨f0,f1,c0',c1'⟩:w3.frozen? ⟨w.heap.size,0,none⟩=false∧w3.frozen? ⟨w.heap.size,1,none⟩=false∧w3.cell? ⟨w.heap.size,0,none⟩=some (.int .i64 0)∧w3.cell? ⟨w.heap.size,1,none⟩=some (.int .i64 0):=⟨c3.frozen 0,c3.frozen 1,c3.cell (by omega),c3.cell (by omega)⟩
  have R:=fun v1 v2=>after_set2 hr hrd3 hgr3 (Nat.le_refl _) 0 1 v1 v2
  clear c3 hrd3 hgr3
  go_wp2
  exact bodyPost_ret (v:=.agg #[.int .i64 3,.int .i64 y]) (by simp[results,Tryz.results187,go_sem,c0',c1']) rfl ⟨_,_,_,rfl,by omega,by omega,(R _ _).1,(R _ _).2,fun _=>fit_set hy0 hy1⟩
theorem below_grown {w w':World} (h:Below w.heap.size w w') (b:Option Nat):w.grownBy w' b:=⟨h.os,h.tape,h.output,h.size,fun k hk _=>h.block k hk⟩
theorem append_cell {w W w':World} {v:Value} {L:List (Int × Int)} {B:Nat} (hown:OpsRow B w v L) (hg2:W.grownBy w' v.ownBlock) {p:Addr} (hp:p.block<B) (hW:Below w.heap.size w W) {u:Value} (h:w.cell? p=some u):w'.cell? p=some u :=
  hg2.cell (cell_below hW h) (fun e=>by have:=hown.lt _ e.symm;omega)
theorem append_below {w0 w W w':World} {v:Value} {L:List (Int × Int)} (hown:OpsRow w0.heap.size w v L) (hg2:W.grownBy w' v.ownBlock) (hW:Below w.heap.size w W) (hb:Below w0.heap.size w0 w):Below w0.heap.size w0 w' :=
  (hb.trans (hW.mono hb.size)).grown hg2 (Nat.le_trans hb.size hW.size) (fun k e=>(hown.lt k e).1)
def pairUp:List Int→List (Int × Int)
  | x :: y :: l=>(x,y) :: pairUp l
  | _=>[]
theorem pairUp_snoc:∀(k:Nat) (xs:List Int) (h:2 * k+1<xs.length),pairUp (xs.take (2 * k+2))=pairUp (xs.take (2 * k)) ++ [(xs[2 * k],xs[2 * k+1])]
  | 0,x :: y :: l,_=>by simp[pairUp]
  | k+1,x :: y :: l,h=>by
    have e1:2 * (k+1)+2=(2 * k+2)+2:=by omega
    have e2:2 * (k+1)=2 * k+2:=by omega
    have ih:=pairUp_snoc k l (by simp at h;omega)
    simp only[e2,List.take_succ_cons,pairUp,ih,List.getElem_cons_succ,List.cons_append]
  | _,[],h=>by simp at h
  | _,[x],h=>by simp at h
theorem pairUp_end:∀(k:Nat) (xs:List Int),xs.length≤2 * k+1→pairUp (xs.take (2 * k))=pairUp xs
  | 0,[],_=>rfl
  | 0,[x],_=>rfl
  | 0,x :: y :: l,h=>by simp at h
  | k+1,[],_=>rfl
  | k+1,[x],_=>by
    have e2:2 * (k+1)=2 * k+2:=by omega
    simp only[e2,List.take_succ_cons,List.take_nil]
  | k+1,x :: y :: l,h=>by
    have e2:2 * (k+1)=2 * k+2:=by omega
    have ih:=pairUp_end k l (by simp at h;omega)
    simp only[e2,List.take_succ_cons,pairUp,ih]
set_option maxRecDepth 100000 in
set_option maxHeartbeats 1000000 in
theorem l71Ops_fit (w:World) (g cap:Nat) (xs:List Int) (hx:∀i,(hi:i<xs.length)→w.cell? ⟨g,i,none⟩=some (.int .i64 xs[i])) (hl:xs.length≤20) :
    Calls Tryz.prog 186 #[.slice (some ⟨g,0,none⟩) xs.length cap] w fun e w'=>∃v ops,e=.returned v∧OpsRow w.heap.size w' v ops∧ops.length * 2≤xs.length∧xs.length≤ops.length * 2+1∧Below w.heap.size w w'∧ops=pairUp xs:=by
  go_enter Tryz.func186,Tryz.ntmps186
  go_wp2
  go_loopg [3,4] xs.length (fun d v i wr=>∃(L:List (Int × Int)) (k:Nat),k≤xs.length∧d=xs.length - k∧i=.int .i64 k∧OpsRow w.heap.size wr v L∧Below w.heap.size w wr∧Hid (k=L.length * 2∧L=pairUp (xs.take (2 * L.length))))
  case atStart=>exact⟨[],0,Nat.zero_le _,rfl,rfl,OpsRow.made w,(Below.refl _ _).alloc (Nat.le_refl _) _,rfl,rfl⟩
  case round =>
    obtain⟨L,k,hk,rfl,rfl,hrow,hb,HK⟩:=hrel
    by_cases hlt:k+1<xs.length
    · have hkz:(k:Int)+1<(xs.length:Int):=by omega
      have hkz0:(k:Int)<(xs.length:Int):=by omega
      have hk0:(0:Int)≤(k:Int):=by omega
      have hk1:(0:Int)≤(k:Int)+1:=by omega
      have hw:IntKind.i64.wrap ((k:Int)+1)=(k:Int)+1:=by rw[IntKind.wrap_i64];omega
      have d0:=cell_below hb (hx k (by omega))
      have d1:=cell_below hb (hx (k+1) (by omega))
      have hsz:=hb.size
      have hgw:g<w.heap.size:=World.block_lt_of_cell? _ _ (hx k (by omega))
      have hLl:L.length≤20:=by have:=HK.out.1;omega
      have HP:Hid (∀y0 y1,xs[k]?=some y0→xs[k+1]?=some y1→L ++ [(y0,y1)]=pairUp (xs.take (2 * (L ++ [(y0,y1)]).length))):=by
        intro y0 y1 e0 e1
        obtain⟨hk2,hL2⟩:=HK.out
        have ek:k=2 * L.length:=by omega
        have e2:2 * (L ++ [(y0,y1)]).length=2 * L.length+2:=by simp;omega
        have g0:=List.getElem?_eq_some_iff.1 (ek ▸ e0)
        have g1:=List.getElem?_eq_some_iff.1 (ek ▸ e1)
        rw[e2,pairUp_snoc L.length xs (by omega),←hL2,g0.2,g1.2]
      have HP0:Hid (xs[k]?=some xs[k]):=List.getElem?_eq_getElem (by omega)
      have HP1:Hid (xs[k+1]?=some xs[k+1]):=List.getElem?_eq_getElem (by omega)
      have HPP:Hid (L ++ [(xs[k],xs[k+1])]=pairUp (xs.take (2 * (L ++ [(xs[k],xs[k+1])]).length))):=HP.out _ _ HP0.out HP1.out
      clear HP HP0 HP1
      generalize xs[k]=x0 at d0 HPP
      generalize xs[k+1]=x1 at d1 HPP
      go_wp2_with fail
      go_region_held3 (fun w'=>w'.cell? ⟨g,k,none⟩=some (.int .i64 x0)∧w'.cell? ⟨g,k+1,none⟩=some (.int .i64 x1))
        (first | exact⟨append_cell hrow hg2 hgw ((Below.refl _ _).alloc (Nat.le_refl _) _).drew d0,append_cell hrow hg2 hgw ((Below.refl _ _).alloc (Nat.le_refl _) _).drew d1⟩ | go_keep)
        ((refine step_ops _ (by rfl) _ _ (by rfl) w.heap.size _ L (by rfl) (World.ownsRow.alloc hrow _) [(x0,x1)] wr.heap.size _ (by rfl) (World.news_of_block (Go.Deep.blk_alloc_new wr _)) (by simp) (by simp;omega) (by simp;omega) ?_;intro g' cp w2 hrow2 hg2 hBg hglt))
      have hb2:Below w.heap.size w w2:=append_below hrow hg2 ((Below.refl _ _).alloc (Nat.le_refl _) _).drew hb
      have HK2:Hid (k+2=(L ++ [(x0,x1)]).length * 2∧L ++ [(x0,x1)]=pairUp (xs.take (2 * (L ++ [(x0,x1)]).length))):=by have:=HK.out.1;exact⟨by simp;omega,HPP.out⟩
      clear hg2 hrow hb d0 d1 HK HPP hBg hglt hw
      go_wp2
      go_roundg (xs.length - (k+2))
      case measure=>omega
      case rel=>exact⟨_,k+2,by omega,rfl,by go_num,hrow2,hb2,HK2⟩
    · go_wp2
      go_ret
      exact⟨_,L,rfl,hrow,by have:=HK.out.1;omega,by have:=HK.out.1;omega,hb,by rw[←pairUp_end L.length xs (by have:=HK.out.1;omega)];exact HK.out.2⟩
theorem opsLitF {w0 w:World} {b:Nat} {a:Option Addr} {len cap p0 p:Nat} (h0:Rd w0 b a len cap p0) (hr:Rd w b a len cap p) (hg:w0.grownBy w (some b)) (xs:List Int) (cs:Array Value) (t:TypeId) (c:Nat) (hcs:cs=(xs.map fun x=>Value.int .i64 x).toArray) (hl:xs.length≤20) :
    Calls Tryz.prog 186 #[.slice (some ⟨w.heap.size,0,none⟩) xs.length c] (w.alloc (.cells cs t)) fun e w'=>∃v ops,e=.returned v∧OpsRow w0.heap.size w' v ops∧ops.length * 2≤xs.length∧xs.length≤ops.length * 2+1∧Rd w' b a len cap p∧w0.grownBy w' (some b)∧ops=pairUp xs:=by
  subst hcs
  refine(l71Ops_fit _ w.heap.size c xs (fun i hi=>?_) hl).mono ?_
  · simp[hi]
  · rintro e w' ⟨v,ops,rfl,hrow,hlen,hlen',hb,hpu⟩
    have hA:=World.grownBy_alloc w (.cells (xs.map fun x=>Value.int .i64 x).toArray t) none
    have hN:w.grownBy w' none:=⟨hb.os.trans hA.os,hb.tape.trans hA.tape,hb.output.trans hA.output,Nat.le_trans hA.size hb.size,fun i hi hn=>(hb.block i (Nat.lt_of_lt_of_le hi hA.size)).trans (hA.block i hi hn)⟩
    exact⟨v,ops,rfl,hrow.mono (by have:=hg.size;simp;omega),hlen,hlen',Rd.kept h0 hr hg.size hN (fun g e=>by cases e),grown_own hg hN (fun g e=>by cases e),hpu⟩
theorem pickIn {w0 w:World} {b:Nat} {a:Option Addr} {len cap p0 p:Nat} (h0:Rd w0 b a len cap p0) (hg:w0.grownBy w (some b)) (hr:Rd w b a len cap p) (n:Int) (hp:p≤1000000) (h1:1≤n) (h2:n≤1000000) :
    Calls Tryz.prog 111 #[.pointer (some ⟨b,0,none⟩),.int .i64 n] w fun e w'=>∃x:Int,e=.returned (.int .i64 x)∧0≤x∧x<n∧Rd w' b a len cap (p+1)∧w0.grownBy w' (some b)∧∀v L,OpsRow w0.heap.size w v L→OpsRow w0.heap.size w' v L:=by
  have hb:b<w0.heap.size:=World.block_lt_of_cell? _ _ h0.s
  refine(pick_any _ _ _ _ _ _ _ hr hp h1 h2).mono ?_
  rintro e w' ⟨x,rfl,hx0,hx1,hrd,hgr⟩
  exact⟨x,rfl,hx0,hx1,hrd,grown_trans hg hgr,fun v L h=>h.kept hgr (fun g e k=>by cases e;have:=h.lt _ k;omega)⟩
set_option maxRecDepth 100000 in
set_option maxHeartbeats 1000000 in
theorem l71Look_fit (w:World) (b:Nat) (a:Option Addr) (len cap p:Nat) (t:Int) (hr:Rd w b a len cap p) (hp:p+4≤1000000) (ht1:1≤t) (ht4:t≤4) :
    Calls Tryz.prog 189 #[.pointer (some ⟨b,0,none⟩),.int .i64 t] w fun e w'=>∃v ops p',e=.returned v∧OpsRow w.heap.size w' v ops∧ops.length≤3∧1≤ops.length∧p≤p'∧p'≤p+4∧Rd w' b a len cap p'∧w.grownBy w' (some b)∧∀nm,Fits nm t ops:=by
  go_enter Tryz.func189,Tryz.ntmps189
  go_wp2_with fail
  refine(opsLitF hr hr (grown_refl _ _) [11,0] _ _ _ rfl (by decide)).mono ?_
  rintro e w1 ⟨v1,ops1,rfl,hrow1,hl1,hm1,hrd1,hgr1,hpu⟩
  have HF:Hid (∀nm,Fits nm t ops1):=fun nm=>by rw[hpu];exact .one fit_11
  clear hpu
  go_wp2_with fail
  refine(pickIn hr hgr1 hrd1 _ (by omega) (by omega) (by omega)).mono ?_
  rintro e w2 ⟨x,rfl,hx0,hx1,hrd2,hgr2,hkp⟩
  have hrow2:=hkp _ _ hrow1
  clear hkp hrow1 hrd1 hgr1
  simp only[List.length_cons,List.length_nil] at hl1 hm1
  have hr1:=hr
  by_cases h0:x=0
  · subst h0
    go_wp2_with fail
    refine(pickIn hr hgr2 hrd2 _ (by omega) (by omega) (by omega)).mono ?_
    rintro e w3 ⟨u,rfl,hu0,hu1,hrd3,hgr3,_⟩
    clear hrow2 hrd2 hgr2
    go_wp2_with fail
    refine(opsLitF hr hrd3 hgr3 [2,u] _ _ _ rfl (by simp)).mono ?_
    rintro e w4 ⟨v4,ops4,rfl,hrow4,hl4,hm4,hrd4',hgr4,hpu⟩
    have HF:Hid (∀nm,Fits nm t ops4):=fun nm=>by rw[hpu];exact .one (fit_temp hu0 hu1)
    clear hpu
    simp only[List.length_cons,List.length_nil] at hl4 hm4
    obtain⟨q4,hq4,hq4',hrd4⟩:∃q4,p+1≤q4∧q4≤p+2∧Rd w4 b a len cap q4:=⟨_,by omega,by omega,hrd4'⟩
    clear hrd4' hrd3 hgr3
    clear hr1
    go_wp2_with fail
    refine(pickIn hr hgr4 hrd4 _ (by omega) (by omega) (by omega)).mono ?_
    rintro e w5 ⟨y,rfl,hy0,hy1,hrd5,hgr5,hkp⟩
    have hrow5:=hkp _ _ hrow4
    have hsz5:=hgr5.size
    clear hkp hrow4 hrd4 hgr4
    by_cases k0:y=0
    · subst k0
      go_wp2_with (at_builtin;refine append_op _ (by rfl) _ _ (by rfl) _ _ ops4 (by rfl) hrow5 _ _ _ (by rfl) (by omega) (by omega) ?_;intro g cp w6 hrow6 hg6 hBg hglt)
      obtain⟨hrd6,hgr6⟩:=after_append hr hrd5 hgr5 hrow5 hg6
      clear hg6 hBg hglt
      go_wp2
      go_ret
      exact⟨_,_,_,rfl,hrow6,by simp;omega,by simp,by omega,by omega,hrd6,hgr6,fun nm=>(HF.out nm).snoc fit_12⟩
    have f0:(y == 0)=false:=beq_eq_false_iff_ne.2 k0
    by_cases k1:y=1
    · subst k1
      go_wp2_with fail
      refine(pickIn hr hgr5 hrd5 _ (by omega) (by omega) (by omega)).mono ?_
      rintro e w7 ⟨z,rfl,hz0,hz1,hrd7,hgr7,hkp⟩
      have hrow7:=hkp _ _ hrow5
      have hsz7:=hgr7.size
      clear hkp hrow5 hrd5 hgr5
      go_wp2_with (at_builtin;refine append_op _ (by rfl) _ _ (by rfl) _ _ ops4 (by rfl) hrow7 _ _ _ (by rfl) (by omega) (by omega) ?_;intro g cp w6 hrow6 hg6 hBg hglt)
      obtain⟨hrd6,hgr6⟩:=after_append hr hrd7 hgr7 hrow7 hg6
      clear hg6 hBg hglt
      go_wp2
      go_ret
      exact⟨_,_,_,rfl,hrow6,by simp;omega,by simp,by omega,by omega,hrd6,hgr6,fun nm=>(HF.out nm).snoc (fit_peek hz0 hz1)⟩
    have f1:(y == 1)=false:=beq_eq_false_iff_ne.2 k1
    by_cases k2:y=2
    · subst k2
      go_wp2_with fail
      refine(pickIn hr hgr5 hrd5 _ (by omega) (by omega) (by omega)).mono ?_
      rintro e w7 ⟨z,rfl,hz0,hz1,hrd7,hgr7,hkp⟩
      have hrow7:=hkp _ _ hrow5
      have hsz7:=hgr7.size
      clear hkp hrow5 hrd5 hgr5
      go_wp2_with (at_builtin;refine append_op _ (by rfl) _ _ (by rfl) _ _ ops4 (by rfl) hrow7 _ _ _ (by rfl) (by omega) (by omega) ?_;intro g cp w6 hrow6 hg6 hBg hglt)
      obtain⟨hrd6,hgr6⟩:=after_append hr hrd7 hgr7 hrow7 hg6
      clear hg6 hBg hglt
      go_wp2
      go_ret
      exact⟨_,_,_,rfl,hrow6,by simp;omega,by simp,by omega,by omega,hrd6,hgr6,fun nm=>(HF.out nm).snoc (fit_peek hz0 hz1)⟩
    have f2:(y == 2)=false:=beq_eq_false_iff_ne.2 k2
    by_cases k3:y=3
    · subst k3
      go_wp2_with (at_builtin;refine append_op _ (by rfl) _ _ (by rfl) _ _ ops4 (by rfl) hrow5 _ _ _ (by rfl) (by omega) (by omega) ?_;intro g cp w6 hrow6 hg6 hBg hglt)
      obtain⟨hrd6,hgr6⟩:=after_append hr hrd5 hgr5 hrow5 hg6
      clear hg6 hBg hglt
      go_wp2
      go_ret
      exact⟨_,_,_,rfl,hrow6,by simp;omega,by simp,by omega,by omega,hrd6,hgr6,fun nm=>(HF.out nm).snoc fit_17⟩
    have f3:(y == 3)=false:=beq_eq_false_iff_ne.2 k3
    by_cases k4:y=4
    · subst k4
      go_wp2_with (at_builtin;refine append_op _ (by rfl) _ _ (by rfl) _ _ ops4 (by rfl) hrow5 _ _ _ (by rfl) (by omega) (by omega) ?_;intro g cp w6 hrow6 hg6 hBg hglt)
      obtain⟨hrd6,hgr6⟩:=after_append hr hrd5 hgr5 hrow5 hg6
      clear hg6 hBg hglt
      go_wp2
      go_ret
      exact⟨_,_,_,rfl,hrow6,by simp;omega,by simp,by omega,by omega,hrd6,hgr6,fun nm=>(HF.out nm).snoc fit_18⟩
    have f4:(y == 4)=false:=beq_eq_false_iff_ne.2 k4
    go_wp2
    go_ret
    exact⟨_,_,_,rfl,hrow5,by omega,by omega,by omega,by omega,hrd5,hgr5,fun nm=>HF.out nm⟩
  have e0:(x == 0)=false:=beq_eq_false_iff_ne.2 h0
  by_cases h1:x=1
  · subst h1
    go_wp2_with fail
    refine(opsLitF hr hrd2 hgr2 [11,0,12,0] _ _ _ rfl (by simp)).mono ?_
    rintro e w4 ⟨v4,ops4,rfl,hrow4,hl4,hm4,hrd4',hgr4,hpu⟩
    have HF:Hid (∀nm,Fits nm t ops4):=fun nm=>by rw[hpu];exact Fits.append (.one fit_11) (.one fit_12)
    clear hpu
    simp only[List.length_cons,List.length_nil] at hl4 hm4
    obtain⟨q4,hq4,hq4',hrd4⟩:∃q4,p+1≤q4∧q4≤p+2∧Rd w4 b a len cap q4:=⟨_,by omega,by omega,hrd4'⟩
    clear hrd4' hrow2 hrd2 hgr2
    clear hr1
    go_wp2_with fail
    refine(pickIn hr hgr4 hrd4 _ (by omega) (by omega) (by omega)).mono ?_
    rintro e w5 ⟨y,rfl,hy0,hy1,hrd5,hgr5,hkp⟩
    have hrow5:=hkp _ _ hrow4
    have hsz5:=hgr5.size
    clear hkp hrow4 hrd4 hgr4
    by_cases k0:y=0
    · subst k0
      go_wp2_with (at_builtin;refine append_op _ (by rfl) _ _ (by rfl) _ _ ops4 (by rfl) hrow5 _ _ _ (by rfl) (by omega) (by omega) ?_;intro g cp w6 hrow6 hg6 hBg hglt)
      obtain⟨hrd6,hgr6⟩:=after_append hr hrd5 hgr5 hrow5 hg6
      clear hg6 hBg hglt
      go_wp2
      go_ret
      exact⟨_,_,_,rfl,hrow6,by simp;omega,by simp,by omega,by omega,hrd6,hgr6,fun nm=>(HF.out nm).snoc fit_12⟩
    have f0:(y == 0)=false:=beq_eq_false_iff_ne.2 k0
    by_cases k1:y=1
    · subst k1
      go_wp2_with fail
      refine(pickIn hr hgr5 hrd5 _ (by omega) (by omega) (by omega)).mono ?_
      rintro e w7 ⟨z,rfl,hz0,hz1,hrd7,hgr7,hkp⟩
      have hrow7:=hkp _ _ hrow5
      have hsz7:=hgr7.size
      clear hkp hrow5 hrd5 hgr5
      go_wp2_with (at_builtin;refine append_op _ (by rfl) _ _ (by rfl) _ _ ops4 (by rfl) hrow7 _ _ _ (by rfl) (by omega) (by omega) ?_;intro g cp w6 hrow6 hg6 hBg hglt)
      obtain⟨hrd6,hgr6⟩:=after_append hr hrd7 hgr7 hrow7 hg6
      clear hg6 hBg hglt
      go_wp2
      go_ret
      exact⟨_,_,_,rfl,hrow6,by simp;omega,by simp,by omega,by omega,hrd6,hgr6,fun nm=>(HF.out nm).snoc (fit_peek hz0 hz1)⟩
    have f1:(y == 1)=false:=beq_eq_false_iff_ne.2 k1
    by_cases k2:y=2
    · subst k2
      go_wp2_with fail
      refine(pickIn hr hgr5 hrd5 _ (by omega) (by omega) (by omega)).mono ?_
      rintro e w7 ⟨z,rfl,hz0,hz1,hrd7,hgr7,hkp⟩
      have hrow7:=hkp _ _ hrow5
      have hsz7:=hgr7.size
      clear hkp hrow5 hrd5 hgr5
      go_wp2_with (at_builtin;refine append_op _ (by rfl) _ _ (by rfl) _ _ ops4 (by rfl) hrow7 _ _ _ (by rfl) (by omega) (by omega) ?_;intro g cp w6 hrow6 hg6 hBg hglt)
      obtain⟨hrd6,hgr6⟩:=after_append hr hrd7 hgr7 hrow7 hg6
      clear hg6 hBg hglt
      go_wp2
      go_ret
      exact⟨_,_,_,rfl,hrow6,by simp;omega,by simp,by omega,by omega,hrd6,hgr6,fun nm=>(HF.out nm).snoc (fit_peek hz0 hz1)⟩
    have f2:(y == 2)=false:=beq_eq_false_iff_ne.2 k2
    by_cases k3:y=3
    · subst k3
      go_wp2_with (at_builtin;refine append_op _ (by rfl) _ _ (by rfl) _ _ ops4 (by rfl) hrow5 _ _ _ (by rfl) (by omega) (by omega) ?_;intro g cp w6 hrow6 hg6 hBg hglt)
      obtain⟨hrd6,hgr6⟩:=after_append hr hrd5 hgr5 hrow5 hg6
      clear hg6 hBg hglt
      go_wp2
      go_ret
      exact⟨_,_,_,rfl,hrow6,by simp;omega,by simp,by omega,by omega,hrd6,hgr6,fun nm=>(HF.out nm).snoc fit_17⟩
    have f3:(y == 3)=false:=beq_eq_false_iff_ne.2 k3
    by_cases k4:y=4
    · subst k4
      go_wp2_with (at_builtin;refine append_op _ (by rfl) _ _ (by rfl) _ _ ops4 (by rfl) hrow5 _ _ _ (by rfl) (by omega) (by omega) ?_;intro g cp w6 hrow6 hg6 hBg hglt)
      obtain⟨hrd6,hgr6⟩:=after_append hr hrd5 hgr5 hrow5 hg6
      clear hg6 hBg hglt
      go_wp2
      go_ret
      exact⟨_,_,_,rfl,hrow6,by simp;omega,by simp,by omega,by omega,hrd6,hgr6,fun nm=>(HF.out nm).snoc fit_18⟩
    have f4:(y == 4)=false:=beq_eq_false_iff_ne.2 k4
    go_wp2
    go_ret
    exact⟨_,_,_,rfl,hrow5,by omega,by omega,by omega,by omega,hrd5,hgr5,fun nm=>HF.out nm⟩
  have e1:(x == 1)=false:=beq_eq_false_iff_ne.2 h1
  by_cases h2:x=2
  · subst h2
    go_wp2_with fail
    refine(opsLitF hr hrd2 hgr2 [11,0,12,0] _ _ _ rfl (by simp)).mono ?_
    rintro e w4 ⟨v4,ops4,rfl,hrow4,hl4,hm4,hrd4',hgr4,hpu⟩
    have HF:Hid (∀nm,Fits nm t ops4):=fun nm=>by rw[hpu];exact Fits.append (.one fit_11) (.one fit_12)
    clear hpu
    simp only[List.length_cons,List.length_nil] at hl4 hm4
    obtain⟨q4,hq4,hq4',hrd4⟩:∃q4,p+1≤q4∧q4≤p+2∧Rd w4 b a len cap q4:=⟨_,by omega,by omega,hrd4'⟩
    clear hrd4' hrow2 hrd2 hgr2
    clear hr1
    go_wp2_with fail
    refine(pickIn hr hgr4 hrd4 _ (by omega) (by omega) (by omega)).mono ?_
    rintro e w5 ⟨y,rfl,hy0,hy1,hrd5,hgr5,hkp⟩
    have hrow5:=hkp _ _ hrow4
    have hsz5:=hgr5.size
    clear hkp hrow4 hrd4 hgr4
    by_cases k0:y=0
    · subst k0
      go_wp2_with (at_builtin;refine append_op _ (by rfl) _ _ (by rfl) _ _ ops4 (by rfl) hrow5 _ _ _ (by rfl) (by omega) (by omega) ?_;intro g cp w6 hrow6 hg6 hBg hglt)
      obtain⟨hrd6,hgr6⟩:=after_append hr hrd5 hgr5 hrow5 hg6
      clear hg6 hBg hglt
      go_wp2
      go_ret
      exact⟨_,_,_,rfl,hrow6,by simp;omega,by simp,by omega,by omega,hrd6,hgr6,fun nm=>(HF.out nm).snoc fit_12⟩
    have f0:(y == 0)=false:=beq_eq_false_iff_ne.2 k0
    by_cases k1:y=1
    · subst k1
      go_wp2_with fail
      refine(pickIn hr hgr5 hrd5 _ (by omega) (by omega) (by omega)).mono ?_
      rintro e w7 ⟨z,rfl,hz0,hz1,hrd7,hgr7,hkp⟩
      have hrow7:=hkp _ _ hrow5
      have hsz7:=hgr7.size
      clear hkp hrow5 hrd5 hgr5
      go_wp2_with (at_builtin;refine append_op _ (by rfl) _ _ (by rfl) _ _ ops4 (by rfl) hrow7 _ _ _ (by rfl) (by omega) (by omega) ?_;intro g cp w6 hrow6 hg6 hBg hglt)
      obtain⟨hrd6,hgr6⟩:=after_append hr hrd7 hgr7 hrow7 hg6
      clear hg6 hBg hglt
      go_wp2
      go_ret
      exact⟨_,_,_,rfl,hrow6,by simp;omega,by simp,by omega,by omega,hrd6,hgr6,fun nm=>(HF.out nm).snoc (fit_peek hz0 hz1)⟩
    have f1:(y == 1)=false:=beq_eq_false_iff_ne.2 k1
    by_cases k2:y=2
    · subst k2
      go_wp2_with fail
      refine(pickIn hr hgr5 hrd5 _ (by omega) (by omega) (by omega)).mono ?_
      rintro e w7 ⟨z,rfl,hz0,hz1,hrd7,hgr7,hkp⟩
      have hrow7:=hkp _ _ hrow5
      have hsz7:=hgr7.size
      clear hkp hrow5 hrd5 hgr5
      go_wp2_with (at_builtin;refine append_op _ (by rfl) _ _ (by rfl) _ _ ops4 (by rfl) hrow7 _ _ _ (by rfl) (by omega) (by omega) ?_;intro g cp w6 hrow6 hg6 hBg hglt)
      obtain⟨hrd6,hgr6⟩:=after_append hr hrd7 hgr7 hrow7 hg6
      clear hg6 hBg hglt
      go_wp2
      go_ret
      exact⟨_,_,_,rfl,hrow6,by simp;omega,by simp,by omega,by omega,hrd6,hgr6,fun nm=>(HF.out nm).snoc (fit_peek hz0 hz1)⟩
    have f2:(y == 2)=false:=beq_eq_false_iff_ne.2 k2
    by_cases k3:y=3
    · subst k3
      go_wp2_with (at_builtin;refine append_op _ (by rfl) _ _ (by rfl) _ _ ops4 (by rfl) hrow5 _ _ _ (by rfl) (by omega) (by omega) ?_;intro g cp w6 hrow6 hg6 hBg hglt)
      obtain⟨hrd6,hgr6⟩:=after_append hr hrd5 hgr5 hrow5 hg6
      clear hg6 hBg hglt
      go_wp2
      go_ret
      exact⟨_,_,_,rfl,hrow6,by simp;omega,by simp,by omega,by omega,hrd6,hgr6,fun nm=>(HF.out nm).snoc fit_17⟩
    have f3:(y == 3)=false:=beq_eq_false_iff_ne.2 k3
    by_cases k4:y=4
    · subst k4
      go_wp2_with (at_builtin;refine append_op _ (by rfl) _ _ (by rfl) _ _ ops4 (by rfl) hrow5 _ _ _ (by rfl) (by omega) (by omega) ?_;intro g cp w6 hrow6 hg6 hBg hglt)
      obtain⟨hrd6,hgr6⟩:=after_append hr hrd5 hgr5 hrow5 hg6
      clear hg6 hBg hglt
      go_wp2
      go_ret
      exact⟨_,_,_,rfl,hrow6,by simp;omega,by simp,by omega,by omega,hrd6,hgr6,fun nm=>(HF.out nm).snoc fit_18⟩
    have f4:(y == 4)=false:=beq_eq_false_iff_ne.2 k4
    go_wp2
    go_ret
    exact⟨_,_,_,rfl,hrow5,by omega,by omega,by omega,by omega,hrd5,hgr5,fun nm=>HF.out nm⟩
  have e2:(x == 2)=false:=beq_eq_false_iff_ne.2 h2
  obtain⟨q4,hq4,hq4',hrd4⟩:∃q4,p+1≤q4∧q4≤p+2∧Rd w2 b a len cap q4:=⟨_,by omega,by omega,hrd2⟩
  have hrow4:=hrow2
  have hgr4:=hgr2
  have hl4:=hl1
  clear hrow2 hgr2 hrd2
  clear hr1
  go_wp2_with fail
  refine(pickIn hr hgr4 hrd4 _ (by omega) (by omega) (by omega)).mono ?_
  rintro e w5 ⟨y,rfl,hy0,hy1,hrd5,hgr5,hkp⟩
  have hrow5:=hkp _ _ hrow4
  have hsz5:=hgr5.size
  clear hkp hrow4 hrd4 hgr4
  by_cases k0:y=0
  · subst k0
    go_wp2_with (at_builtin;refine append_op _ (by rfl) _ _ (by rfl) _ _ ops1 (by rfl) hrow5 _ _ _ (by rfl) (by omega) (by omega) ?_;intro g cp w6 hrow6 hg6 hBg hglt)
    obtain⟨hrd6,hgr6⟩:=after_append hr hrd5 hgr5 hrow5 hg6
    clear hg6 hBg hglt
    go_wp2
    go_ret
    exact⟨_,_,_,rfl,hrow6,by simp;omega,by simp,by omega,by omega,hrd6,hgr6,fun nm=>(HF.out nm).snoc fit_12⟩
  have f0:(y == 0)=false:=beq_eq_false_iff_ne.2 k0
  by_cases k1:y=1
  · subst k1
    go_wp2_with fail
    refine(pickIn hr hgr5 hrd5 _ (by omega) (by omega) (by omega)).mono ?_
    rintro e w7 ⟨z,rfl,hz0,hz1,hrd7,hgr7,hkp⟩
    have hrow7:=hkp _ _ hrow5
    have hsz7:=hgr7.size
    clear hkp hrow5 hrd5 hgr5
    go_wp2_with (at_builtin;refine append_op _ (by rfl) _ _ (by rfl) _ _ ops1 (by rfl) hrow7 _ _ _ (by rfl) (by omega) (by omega) ?_;intro g cp w6 hrow6 hg6 hBg hglt)
    obtain⟨hrd6,hgr6⟩:=after_append hr hrd7 hgr7 hrow7 hg6
    clear hg6 hBg hglt
    go_wp2
    go_ret
    exact⟨_,_,_,rfl,hrow6,by simp;omega,by simp,by omega,by omega,hrd6,hgr6,fun nm=>(HF.out nm).snoc (fit_peek hz0 hz1)⟩
  have f1:(y == 1)=false:=beq_eq_false_iff_ne.2 k1
  by_cases k2:y=2
  · subst k2
    go_wp2_with fail
    refine(pickIn hr hgr5 hrd5 _ (by omega) (by omega) (by omega)).mono ?_
    rintro e w7 ⟨z,rfl,hz0,hz1,hrd7,hgr7,hkp⟩
    have hrow7:=hkp _ _ hrow5
    have hsz7:=hgr7.size
    clear hkp hrow5 hrd5 hgr5
    go_wp2_with (at_builtin;refine append_op _ (by rfl) _ _ (by rfl) _ _ ops1 (by rfl) hrow7 _ _ _ (by rfl) (by omega) (by omega) ?_;intro g cp w6 hrow6 hg6 hBg hglt)
    obtain⟨hrd6,hgr6⟩:=after_append hr hrd7 hgr7 hrow7 hg6
    clear hg6 hBg hglt
    go_wp2
    go_ret
    exact⟨_,_,_,rfl,hrow6,by simp;omega,by simp,by omega,by omega,hrd6,hgr6,fun nm=>(HF.out nm).snoc (fit_peek hz0 hz1)⟩
  have f2:(y == 2)=false:=beq_eq_false_iff_ne.2 k2
  by_cases k3:y=3
  · subst k3
    go_wp2_with (at_builtin;refine append_op _ (by rfl) _ _ (by rfl) _ _ ops1 (by rfl) hrow5 _ _ _ (by rfl) (by omega) (by omega) ?_;intro g cp w6 hrow6 hg6 hBg hglt)
    obtain⟨hrd6,hgr6⟩:=after_append hr hrd5 hgr5 hrow5 hg6
    clear hg6 hBg hglt
    go_wp2
    go_ret
    exact⟨_,_,_,rfl,hrow6,by simp;omega,by simp,by omega,by omega,hrd6,hgr6,fun nm=>(HF.out nm).snoc fit_17⟩
  have f3:(y == 3)=false:=beq_eq_false_iff_ne.2 k3
  by_cases k4:y=4
  · subst k4
    go_wp2_with (at_builtin;refine append_op _ (by rfl) _ _ (by rfl) _ _ ops1 (by rfl) hrow5 _ _ _ (by rfl) (by omega) (by omega) ?_;intro g cp w6 hrow6 hg6 hBg hglt)
    obtain⟨hrd6,hgr6⟩:=after_append hr hrd5 hgr5 hrow5 hg6
    clear hg6 hBg hglt
    go_wp2
    go_ret
    exact⟨_,_,_,rfl,hrow6,by simp;omega,by simp,by omega,by omega,hrd6,hgr6,fun nm=>(HF.out nm).snoc fit_18⟩
  have f4:(y == 4)=false:=beq_eq_false_iff_ne.2 k4
  go_wp2
  go_ret
  exact⟨_,_,_,rfl,hrow5,by omega,by omega,by omega,by omega,hrd5,hgr5,fun nm=>HF.out nm⟩
end Go.Proofs.YtjbgpcileapogaaGreat
