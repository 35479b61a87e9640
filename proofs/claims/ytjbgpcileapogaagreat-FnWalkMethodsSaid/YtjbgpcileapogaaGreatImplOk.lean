/-
  The document's model of ProgOk (spec.ProgOk and what it calls) answers the plain function progOk; it writes to nothing that was there.
-/
import Derived.Test.YtjbgpcileapogaaGreatProg
import Derived.Test.YtjbgpcileapogaaGreatRFT
import Derived.Deep.RegionHeld3
import Derived.Deep.RegionWith
namespace Go.Proofs.YtjbgpcileapogaaGreat
open Go.RowKit
theorem l6In_any (n lo hi:Int) (w:World) :
    Calls Tryz.prog 57 #[.int .i64 n,.int .i64 lo,.int .i64 hi] w fun e w'=>e=.returned (.bool (inR n lo hi))∧w'=w:=by
  go_enter Tryz.func57,Tryz.ntmps57
  by_cases h:lo≤n
  · go_wp2
    go_ret
    exact⟨ret_bool (by simp[inR,h]),rfl⟩
  · go_wp2
    go_ret
    exact⟨ret_bool (by rw[eq_comm,inR_false];omega),rfl⟩
set_option maxHeartbeats 1000000 in
theorem l1Op_any (ap:Option Addr) (nm cp:Nat) (x t:Int) (ao:Option Addr) (no co:Nat) (k a:Int) (w:World) (ht0:0≤t) (ht4:t≤4) (hnm:nm≤maxLen) (hno:no≤maxLen) :
    Calls Tryz.prog 162 #[.agg #[.slice ap nm cp],.agg #[.int .i64 x,.int .i64 t,.slice ao no co],.agg #[.int .i64 k,.int .i64 a]] w fun e w'=>e=.returned (.bool (opOk nm no t k a))∧Below w.heap.size w w':=by
  unfold maxLen at hnm hno
  have hB:∀o1 o2 o3,Below w.heap.size w (((w.alloc o1).alloc o2).alloc o3):=fun o1 o2 o3=>(((Below.refl _ _).alloc (Nat.le_refl _) _).alloc (by simp) _).alloc (by simp;omega) _
  by_cases h1:k=1
  · subst h1
    go_enter Tryz.func162,Tryz.ntmps162
    go_wp2_with (go_at_call 57;refine(l6In_any _ _ _ _).mono ?_;rintro e w' ⟨rfl,rfl⟩)
    go_ret
    exact⟨rfl,hB _ _ _⟩
  by_cases h2:k=2
  · subst h2
    go_enter Tryz.func162,Tryz.ntmps162
    go_wp2_with (go_at_call 57;refine(l6In_any _ _ _ _).mono ?_;rintro e w' ⟨rfl,rfl⟩)
    go_ret
    exact⟨rfl,hB _ _ _⟩
  by_cases h3:k=3
  · subst h3
    go_enter Tryz.func162,Tryz.ntmps162
    go_wp2_with (go_at_call 57;refine(l6In_any _ _ _ _).mono ?_;rintro e w' ⟨rfl,rfl⟩)
    go_ret
    exact⟨rfl,hB _ _ _⟩
  by_cases h7:k=7
  · subst h7
    go_enter Tryz.func162,Tryz.ntmps162
    go_wp2_with (go_at_call 57;refine(l6In_any _ _ _ _).mono ?_;rintro e w' ⟨rfl,rfl⟩)
    go_ret
    exact⟨rfl,hB _ _ _⟩
  by_cases h8:k=8
  · subst h8
    go_enter Tryz.func162,Tryz.ntmps162
    go_wp2_with (go_at_call 57;refine(l6In_any _ _ _ _).mono ?_;rintro e w' ⟨rfl,rfl⟩)
    go_ret
    exact⟨rfl,hB _ _ _⟩
  by_cases h9:k=9
  · subst h9
    go_enter Tryz.func162,Tryz.ntmps162
    go_wp2_with (go_at_call 57;refine(l6In_any _ _ _ _).mono ?_;rintro e w' ⟨rfl,rfl⟩)
    go_ret
    exact⟨rfl,hB _ _ _⟩
  by_cases h13:k=13
  · subst h13
    go_enter Tryz.func162,Tryz.ntmps162
    go_wp2_with (go_at_call 57;refine(l6In_any _ _ _ _).mono ?_;rintro e w' ⟨rfl,rfl⟩)
    go_ret
    exact⟨rfl,hB _ _ _⟩
  by_cases h14:k=14
  · subst h14
    go_enter Tryz.func162,Tryz.ntmps162
    go_wp2_with (go_at_call 57;refine(l6In_any _ _ _ _).mono ?_;rintro e w' ⟨rfl,rfl⟩)
    go_ret
    exact⟨rfl,hB _ _ _⟩
  rw[opOk_else nm no t k a h1 h2 h3 h7 h8 h9 h13 h14]
  have e1:=beq_eq_false_iff_ne.2 h1
  have e2:=beq_eq_false_iff_ne.2 h2
  have e3:=beq_eq_false_iff_ne.2 h3
  have e7:=beq_eq_false_iff_ne.2 h7
  have e8:=beq_eq_false_iff_ne.2 h8
  have e9:=beq_eq_false_iff_ne.2 h9
  have e13:=beq_eq_false_iff_ne.2 h13
  have e14:=beq_eq_false_iff_ne.2 h14
  clear h1 h2 h3 h7 h8 h9 h13 h14
  cases hk:inR k 1 18
  all_goals
    go_enter Tryz.func162,Tryz.ntmps162
    go_wp2_with (go_at_call 57;refine(l6In_any _ _ _ _).mono ?_;rintro e w' ⟨rfl,rfl⟩)
    go_ret
    exact⟨rfl,hB _ _ _⟩
set_option maxHeartbeats 1000000 in
theorem l1Method_any (ap:Option Addr) (nm cp:Nat) (x t:Int) (vo:Value) (ops:List (Int × Int)) (w:World) (h:OpsAt w vo ops) (hnm:nm≤maxLen) :
    Calls Tryz.prog 121 #[.agg #[.slice ap nm cp],.agg #[.int .i64 x,.int .i64 t,vo]] w fun e w'=>e=.returned (.bool (methOk nm (x,t,ops)))∧Below w.heap.size w w':=by
  obtain⟨ao,co,rfl,hl,hc⟩:=h
  have hl':=hl
  have hB:∀o1 o2,Below w.heap.size w ((w.alloc o1).alloc o2):=fun o1 o2=>((Below.refl _ _).alloc (Nat.le_refl _) _).alloc (by simp) _
  unfold maxLen at hl
  cases h1:inR x 0 2
  · rw[methOk_no1 h1]
    go_enter Tryz.func121,Tryz.ntmps121
    go_wp2_with (go_at_call 57;refine(l6In_any _ _ _ _).mono ?_;rintro e w' ⟨rfl,rfl⟩)
    go_ret
    exact⟨rfl,hB _ _⟩
  cases h2:inR t x 4
  · rw[methOk_no2 h2]
    go_enter Tryz.func121,Tryz.ntmps121
    go_wp2_with (go_at_call 57;refine(l6In_any _ _ _ _).mono ?_;rintro e w' ⟨rfl,rfl⟩)
    go_ret
    exact⟨rfl,hB _ _⟩
  by_cases h3:ops.length≤14
  case neg =>
    rw[methOk_no3 h3]
    have h3':(14:Int)<ops.length:=by omega
    go_enter Tryz.func121,Tryz.ntmps121
    go_wp2_with (go_at_call 57;refine(l6In_any _ _ _ _).mono ?_;rintro e w' ⟨rfl,rfl⟩)
    go_ret
    exact⟨rfl,hB _ _⟩
  have H:Hid (∀b,opsOk nm t ops=b→methOk nm (x,t,ops)=b):=fun b hb=>methOk_of h1 h2 h3 hb
  have ht:=inR_true.1 h2
  have hx:=inR_true.1 h1
  have h3':¬(14:Int)<ops.length:=by omega
  go_enter Tryz.func121,Tryz.ntmps121
  go_wp2_with (go_at_call 57;refine(l6In_any _ _ _ _).mono ?_;rintro e w' ⟨rfl,rfl⟩)
  clear h1 h2 hB
  go_loopg [5] ops.length (fun g i wr=>∃k:Nat,k≤ops.length∧g=ops.length - k∧i=.int .i64 k∧Boxes w wr (.slice ap nm cp) x t (.slice ao ops.length co)∧∀j,(hj:j<ops.length)→j<k→opOk nm ops.length t ops[j].1 ops[j].2=true)
  case atStart=>exact⟨0,Nat.zero_le _,rfl,rfl,Boxes.new _ _ _ _ _ _ _,fun j _ h=>absurd h (Nat.not_lt_zero _)⟩
  case round =>
    obtain⟨k,hk,rfl,rfl,hbox,hall⟩:=hrel
    have HA:Hid (∀j,(hj:j<ops.length)→j<k→opOk nm ops.length t ops[j].1 ops[j].2=true):=hall
    clear hall
    obtain⟨bp,ba,bb,bc,hb⟩:=id hbox
    by_cases hlt:k<ops.length
    · obtain⟨b,o,rfl,c0,c1⟩:=hc k hlt
      have d0:=cell_below hb c0
      have d1:=cell_below hb c1
      clear c0 c1 hc
      have hkz:(k:Int)<(ops.length:Int):=by omega
      go_wp2_with fail
      go_region_held3 (fun w'=>w'.cell? ⟨w.heap.size,0,none⟩=some (.slice ap nm cp)∧w'.cell? ⟨w.heap.size+1,0,none⟩=some (.int .i64 x)∧w'.cell? ⟨w.heap.size+1,1,none⟩=some (.int .i64 t)∧w'.cell? ⟨w.heap.size+1,2,none⟩=some (.slice (some ⟨b,o,none⟩) ops.length co)∧w'.cell? ⟨b,o+k * 2,none⟩=some (.int .i64 ops[k].1)∧w'.cell? ⟨b,o+k * 2+1,none⟩=some (.int .i64 ops[k].2))
        (first | go_keep | (refine⟨cell_below hb1 ?_,cell_below hb1 ?_,cell_below hb1 ?_,cell_below hb1 ?_,cell_below hb1 ?_,cell_below hb1 ?_⟩ <;> assumption))
        ((go_at_call 162;refine(l1Op_any _ _ _ _ _ _ _ _ _ _ _ (by omega) (by omega) hnm hl').mono ?_;rintro e w1 ⟨rfl,hb1⟩))
      have hbox1:Boxes w w1 (.slice ap nm cp) x t (.slice (some ⟨b,o,none⟩) ops.length co):=(hbox.go (Below.refl _ _).drew).go hb1
      clear hb1 hbox bp ba bb bc hb d0 d1
      cases hq:opOk nm ops.length t ops[k].1 ops[k].2
      · have HF:Hid (methOk nm (x,t,ops)=false):=H.out _ (opsOk_no hlt hq)
        go_wp2
        go_ret
        exact⟨ret_bool HF.out.symm,hbox1.below⟩
      · have HQ:Hid (opOk nm ops.length t ops[k].1 ops[k].2=true):=hq
        go_wp2
        go_roundg (ops.length - (k+1))
        case measure=>omega
        case rel =>
          refine⟨k+1,by omega,rfl,by go_num,hbox1,fun j hj hjk=>?_⟩
          by_cases e:j=k
          · subst e;exact HQ.out
          · exact HA.out j hj (by omega)
    · obtain rfl:k=ops.length:=by omega
      go_wp2
      go_ret
      exact⟨ret_bool (H.out _ (opsOk_yes fun i hi=>HA.out i hi hi)).symm,hb⟩
set_option maxHeartbeats 1000000 in
theorem specProgOk_any (v:Value) (ms:List (Int × Int × List (Int × Int))) (w:World) (h:MethsAt w v ms) :
    Calls Tryz.prog 56 #[.agg #[v]] w fun e w'=>e=.returned (.bool (progOk ms))∧Below w.heap.size w w':=by
  obtain⟨a,cap,rfl,hl,hc⟩:=h
  have hl':=hl
  have hB:∀o1,Below w.heap.size w (w.alloc o1):=fun o1=>(Below.refl _ _).alloc (Nat.le_refl _) _
  unfold maxLen at hl
  cases h1:inR ms.length 1 4
  · rw[show progOk ms=false by simp[progOk,h1]]
    go_enter Tryz.func56,Tryz.ntmps56
    go_wp2_with (go_at_call 57;refine(l6In_any _ _ _ _).mono ?_;rintro e w' ⟨rfl,rfl⟩)
    go_ret
    exact⟨rfl,hB _⟩
  have hlen:=inR_true.1 h1
  have h0lt:0<ms.length:=by omega
  have hx0:(ms.getD 0 (0,0,[])).1=ms[0].1:=by simp[h0lt]
  obtain⟨b,o,vo0,rfl,c0,c1,c2,c3⟩:=hc 0 h0lt
  have e0:w.cell? ⟨b,o,none⟩=some (.int .i64 ms[0].1):=by simpa using c0
  have hblt:=World.block_lt_of_cell? _ _ e0
  have E0:∀o1,(w.alloc o1).cell? ⟨b,o,none⟩=some (.int .i64 ms[0].1):=fun o1=>cell_below (hB o1) e0
  clear c0 c1 c2 c3 e0 hblt
  cases h2:(ms[0].1 == 0)
  · rw[show progOk ms=false by simp only[progOk,h1,hx0,h2];rfl]
    have h2':(ms[0].1 != 0)=true:=by simp only[bne,h2];rfl
    go_enter Tryz.func56,Tryz.ntmps56
    go_wp2_with (go_at_call 57;refine(l6In_any _ _ _ _).mono ?_;rintro e w' ⟨rfl,rfl⟩)
    go_ret
    exact⟨rfl,hB _⟩
  have H:Hid (progOk ms=ms.all (methOk ms.length)):=by
    show progOk ms=_
    simp only[progOk,h1,hx0,h2,Bool.true_and]
  have h2':(ms[0].1 != 0)=false:=by simp only[bne,h2];rfl
  go_enter Tryz.func56,Tryz.ntmps56
  go_wp2_with (go_at_call 57;refine(l6In_any _ _ _ _).mono ?_;rintro e w' ⟨rfl,rfl⟩)
  clear h1 h2 h2' hx0 hB E0
  go_loopg [3] ms.length (fun g i wr=>∃k:Nat,k≤ms.length∧g=ms.length - k∧i=.int .i64 k∧wr.cell? ⟨w.heap.size,0,none⟩=some (.slice (some ⟨b,o,none⟩) ms.length cap)∧Below w.heap.size w wr∧∀j,(hj:j<ms.length)→j<k→methOk ms.length ms[j]=true)
  case atStart=>exact⟨0,Nat.zero_le _,rfl,rfl,by simp[go_sem],(Below.refl _ _).alloc (Nat.le_refl _) _,fun j _ h=>absurd h (Nat.not_lt_zero _)⟩
  case round =>
    obtain⟨k,hk,rfl,rfl,bp,hb,hall⟩:=hrel
    have HA:Hid (∀j,(hj:j<ms.length)→j<k→methOk ms.length ms[j]=true):=hall
    clear hall
    have hsz:=hb.size
    by_cases hlt:k<ms.length
    · obtain⟨b',o',vo,hbo,c0,c1,c2,c3⟩:=hc k hlt
      obtain⟨rfl,rfl⟩:b=b'∧o=o':=by simpa using hbo
      have d0:=cell_below hb c0
      have d1:=cell_below hb c1
      have d2:=cell_below hb c2
      have d3:=(c3.below hb).below (Below.refl _ _).drew
      clear c0 c1 c2 c3 hc hbo
      obtain⟨ao,co,hvo,_⟩:=id d3
      rw[hvo] at d2 d3
      clear hvo
      have hkz:(k:Int)<(ms.length:Int):=by omega
      go_wp2_with fail
      go_region_held3 (fun w'=>w'.cell? ⟨w.heap.size,0,none⟩=some (.slice (some ⟨b,o,none⟩) ms.length cap)∧w'.cell? ⟨b,o+k * 3,none⟩=some (.int .i64 ms[k].1)∧w'.cell? ⟨b,o+k * 3+1,none⟩=some (.int .i64 ms[k].2.1)∧w'.cell? ⟨b,o+k * 3+2,none⟩=some (.slice ao ms[k].2.2.length co))
        (first | go_keep | (refine⟨cell_below hb1 ?_,cell_below hb1 ?_,cell_below hb1 ?_,cell_below hb1 ?_⟩ <;> assumption))
        ((go_at_call 121;refine(l1Method_any _ _ _ _ _ _ _ _ d3 hl').mono ?_;rintro e w1 ⟨rfl,hb1⟩))
      have bp1:=cell_below hb1 bp
      have hb2:Below w.heap.size w w1:=hb.drew.trans (hb1.mono hsz)
      clear hb1 bp hb d0 d1 d2 d3
      cases hq:methOk ms.length (ms[k].1,ms[k].2.1,ms[k].2.2)
      · have HF:Hid (progOk ms=false):=H.out.trans (all_not hlt hq)
        go_wp2
        go_ret
        exact⟨ret_bool HF.out.symm,hb2⟩
      · have HQ:Hid (methOk ms.length ms[k]=true):=hq
        go_wp2
        go_roundg (ms.length - (k+1))
        case measure=>omega
        case rel =>
          refine⟨k+1,by omega,rfl,by go_num,bp1,hb2,fun j hj hjk=>?_⟩
          by_cases e:j=k
          · subst e;exact HQ.out
          · exact HA.out j hj (by omega)
    · obtain rfl:k=ms.length:=by omega
      go_wp2
      go_ret
      exact⟨ret_bool (H.out.trans (all_of fun i hi=>HA.out i hi hi)).symm,hb⟩
theorem isPlace_any (n size:Int) (w:World) :
    Calls Tryz.prog 61 #[.int .i64 n,.int .i64 size] w fun e w'=>e=.returned (.bool (inR n 0 (size - 1)))∧w'=w:=by
  go_enter Tryz.func61,Tryz.ntmps61
  by_cases h:0≤n
  · go_wp2
    go_ret
    exact⟨ret_bool (by rw[Bool.eq_iff_iff,inR_true,decide_eq_true_iff];omega),rfl⟩
  · go_wp2
    go_ret
    exact⟨ret_bool (by rw[eq_comm,inR_false];omega),rfl⟩
theorem isKind_any (k:Int) (w:World) :
    Calls Tryz.prog 166 #[.int .i64 k] w fun e w'=>e=.returned (.bool (inR k 1 18))∧w'=w:=by
  go_enter Tryz.func166,Tryz.ntmps166
  by_cases h:1≤k
  · go_wp2
    go_ret
    exact⟨ret_bool (by rw[Bool.eq_iff_iff,inR_true,decide_eq_true_iff];omega),rfl⟩
  · go_wp2
    go_ret
    exact⟨ret_bool (by rw[eq_comm,inR_false];omega),rfl⟩
def opTy (k:Int):Nat :=
  if k=1 then 238 else if k=2∨k=3 then 239 else if k=7∨k=8 then 240 else if k=9 then 241
  else if k=13∨k=14 then 242 else 243
theorem opTy_else (k:Int) (h1:¬k=1) (h2:¬k=2) (h3:¬k=3) (h7:¬k=7) (h8:¬k=8) (h9:¬k=9) (h13:¬k=13) (h14:¬k=14):opTy k=243:=by
  simp[opTy,h1,h2,h3,h7,h8,h9,h13,h14]
theorem opTy_six (k:Int):(opTy k=238∧k=1)∨(opTy k=239∧(k=2∨k=3))∨(opTy k=240∧(k=7∨k=8))∨(opTy k=241∧k=9) ∨
    (opTy k=242∧(k=13∨k=14))∨(opTy k=243∧¬k=1∧¬k=2∧¬k=3∧¬k=7∧¬k=8∧¬k=9∧¬k=13∧¬k=14):=by
  by_cases h1:k=1
  · subst h1;exact .inl ⟨rfl,rfl⟩
  by_cases h2:k=2
  · subst h2;exact .inr (.inl ⟨rfl,.inl rfl⟩)
  by_cases h3:k=3
  · subst h3;exact .inr (.inl ⟨rfl,.inr rfl⟩)
  by_cases h7:k=7
  · subst h7;exact .inr (.inr (.inl ⟨rfl,.inl rfl⟩))
  by_cases h8:k=8
  · subst h8;exact .inr (.inr (.inl ⟨rfl,.inr rfl⟩))
  by_cases h9:k=9
  · subst h9;exact .inr (.inr (.inr (.inl ⟨rfl,rfl⟩)))
  by_cases h13:k=13
  · subst h13;exact .inr (.inr (.inr (.inr (.inl ⟨rfl,.inl rfl⟩))))
  by_cases h14:k=14
  · subst h14;exact .inr (.inr (.inr (.inr (.inl ⟨rfl,.inr rfl⟩))))
  exact .inr (.inr (.inr (.inr (.inr ⟨opTy_else k h1 h2 h3 h7 h8 h9 h13 h14,h1,h2,h3,h7,h8,h9,h13,h14⟩))))
set_option maxHeartbeats 1000000 in
theorem operandOf_any (k a:Int) (w:World) :
    Calls Tryz.prog 167 #[.agg #[.int .i64 k,.int .i64 a]] w fun e w'=>e=.returned (.iface (opTy k) (.int .i64 a))∧Below w.heap.size w w':=by
  have hB:∀o1,Below w.heap.size w (w.alloc o1):=fun o1=>(Below.refl _ _).alloc (Nat.le_refl _) _
  by_cases h1:k=1
  · subst h1
    go_enter Tryz.func167,Tryz.ntmps167
    go_wp2
    go_ret
    exact⟨rfl,hB _⟩
  by_cases h2:k=2
  · subst h2
    go_enter Tryz.func167,Tryz.ntmps167
    go_wp2
    go_ret
    exact⟨rfl,hB _⟩
  by_cases h3:k=3
  · subst h3
    go_enter Tryz.func167,Tryz.ntmps167
    go_wp2
    go_ret
    exact⟨rfl,hB _⟩
  by_cases h7:k=7
  · subst h7
    go_enter Tryz.func167,Tryz.ntmps167
    go_wp2
    go_ret
    exact⟨rfl,hB _⟩
  by_cases h8:k=8
  · subst h8
    go_enter Tryz.func167,Tryz.ntmps167
    go_wp2
    go_ret
    exact⟨rfl,hB _⟩
  by_cases h9:k=9
  · subst h9
    go_enter Tryz.func167,Tryz.ntmps167
    go_wp2
    go_ret
    exact⟨rfl,hB _⟩
  by_cases h13:k=13
  · subst h13
    go_enter Tryz.func167,Tryz.ntmps167
    go_wp2
    go_ret
    exact⟨rfl,hB _⟩
  by_cases h14:k=14
  · subst h14
    go_enter Tryz.func167,Tryz.ntmps167
    go_wp2
    go_ret
    exact⟨rfl,hB _⟩
  rw[opTy_else k h1 h2 h3 h7 h8 h9 h13 h14]
  have e1:=beq_eq_false_iff_ne.2 h1
  have e2:=beq_eq_false_iff_ne.2 h2
  have e3:=beq_eq_false_iff_ne.2 h3
  have e7:=beq_eq_false_iff_ne.2 h7
  have e8:=beq_eq_false_iff_ne.2 h8
  have e9:=beq_eq_false_iff_ne.2 h9
  have e13:=beq_eq_false_iff_ne.2 h13
  have e14:=beq_eq_false_iff_ne.2 h14
  clear h1 h2 h3 h7 h8 h9 h13 h14
  go_enter Tryz.func167,Tryz.ntmps167
  go_wp2
  go_ret
  exact⟨rfl,hB _⟩
section
variable (a:Int) (ap:Option Addr) (nm cp:Nat) (x t:Int) (ao:Option Addr) (no co:Nat) (w:World)
theorem numFits_any:Calls Tryz.prog 218 #[.int .i64 a,.agg #[.slice ap nm cp],.agg #[.int .i64 x,.int .i64 t,.slice ao no co]] w fun e w'=>e=.returned (.bool (inR a 0 99))∧Below w.heap.size w w':=by
  go_enter Tryz.func218,Tryz.ntmps218
  go_wp2_with (go_at_call 61;refine(isPlace_any _ _ _).mono ?_;rintro e w' ⟨rfl,rfl⟩)
  go_ret
  exact⟨rfl,((Below.refl _ _).alloc (Nat.le_refl _) _).alloc (by simp) _⟩
theorem tempFits_any:Calls Tryz.prog 219 #[.int .i64 a,.agg #[.slice ap nm cp],.agg #[.int .i64 x,.int .i64 t,.slice ao no co]] w fun e w'=>e=.returned (.bool (inR a 0 (t - 1)))∧Below w.heap.size w w':=by
  go_enter Tryz.func219,Tryz.ntmps219
  go_wp2_with (go_at_call 61;refine(isPlace_any _ _ _).mono ?_;rintro e w' ⟨rfl,rfl⟩)
  go_ret
  exact⟨rfl,((Below.refl _ _).alloc (Nat.le_refl _) _).alloc (by simp) _⟩
theorem placeFits_any:Calls Tryz.prog 220 #[.int .i64 a,.agg #[.slice ap nm cp],.agg #[.int .i64 x,.int .i64 t,.slice ao no co]] w fun e w'=>e=.returned (.bool (inR a 0 ((no:Int) - 1)))∧Below w.heap.size w w':=by
  go_enter Tryz.func220,Tryz.ntmps220
  go_wp2_with (go_at_call 61;refine(isPlace_any _ _ _).mono ?_;rintro e w' ⟨rfl,rfl⟩)
  go_ret
  exact⟨rfl,((Below.refl _ _).alloc (Nat.le_refl _) _).alloc (by simp) _⟩
theorem methodFits_any:Calls Tryz.prog 221 #[.int .i64 a,.agg #[.slice ap nm cp],.agg #[.int .i64 x,.int .i64 t,.slice ao no co]] w fun e w'=>e=.returned (.bool (inR a 0 ((nm:Int) - 1)))∧Below w.heap.size w w':=by
  go_enter Tryz.func221,Tryz.ntmps221
  go_wp2_with (go_at_call 61;refine(isPlace_any _ _ _).mono ?_;rintro e w' ⟨rfl,rfl⟩)
  go_ret
  exact⟨rfl,((Below.refl _ _).alloc (Nat.le_refl _) _).alloc (by simp) _⟩
theorem peekFits_any:Calls Tryz.prog 222 #[.int .i64 a,.agg #[.slice ap nm cp],.agg #[.int .i64 x,.int .i64 t,.slice ao no co]] w fun e w'=>e=.returned (.bool (inR a 0 3))∧Below w.heap.size w w':=by
  go_enter Tryz.func222,Tryz.ntmps222
  go_wp2_with (go_at_call 61;refine(isPlace_any _ _ _).mono ?_;rintro e w' ⟨rfl,rfl⟩)
  go_ret
  exact⟨rfl,((Below.refl _ _).alloc (Nat.le_refl _) _).alloc (by simp) _⟩
theorem noFits_any:Calls Tryz.prog 223 #[.int .i64 a,.agg #[.slice ap nm cp],.agg #[.int .i64 x,.int .i64 t,.slice ao no co]] w fun e w'=>e=.returned (.bool (a == 0))∧Below w.heap.size w w':=by
  go_enter Tryz.func223,Tryz.ntmps223
  go_wp2
  go_ret
  exact⟨rfl,((Below.refl _ _).alloc (Nat.le_refl _) _).alloc (by simp) _⟩
end
theorem Tryz.run_num (a : Int) (w : World) : (method 381 238 (.int .i64 a) "loop.example/gemel/impl.fits").run Tryz.prog w = .ok (218, .int .i64 a) w := by kernel_rfl
theorem Tryz.run_temp (a : Int) (w : World) : (method 381 239 (.int .i64 a) "loop.example/gemel/impl.fits").run Tryz.prog w = .ok (219, .int .i64 a) w := by kernel_rfl
theorem Tryz.run_place (a : Int) (w : World) : (method 381 240 (.int .i64 a) "loop.example/gemel/impl.fits").run Tryz.prog w = .ok (220, .int .i64 a) w := by kernel_rfl
theorem Tryz.run_method (a : Int) (w : World) : (method 381 241 (.int .i64 a) "loop.example/gemel/impl.fits").run Tryz.prog w = .ok (221, .int .i64 a) w := by kernel_rfl
theorem Tryz.run_peek (a : Int) (w : World) : (method 381 242 (.int .i64 a) "loop.example/gemel/impl.fits").run Tryz.prog w = .ok (222, .int .i64 a) w := by kernel_rfl
theorem Tryz.run_no (a : Int) (w : World) : (method 381 243 (.int .i64 a) "loop.example/gemel/impl.fits").run Tryz.prog w = .ok (223, .int .i64 a) w := by kernel_rfl
theorem methOk_x0 {nm:Nat} {x t:Int} {ops:List (Int × Int)} (h:x<0):methOk nm (x,t,ops)=false:=methOk_no1 (inR_false.2 (by omega))
theorem methOk_x2 {nm:Nat} {x t:Int} {ops:List (Int × Int)} (h:2<x):methOk nm (x,t,ops)=false:=methOk_no1 (inR_false.2 (by omega))
theorem methOk_tx {nm:Nat} {x t:Int} {ops:List (Int × Int)} (h:t<x):methOk nm (x,t,ops)=false:=methOk_no2 (inR_false.2 (by omega))
theorem methOk_t4 {nm:Nat} {x t:Int} {ops:List (Int × Int)} (h:4<t):methOk nm (x,t,ops)=false:=methOk_no2 (inR_false.2 (by omega))
set_option maxRecDepth 100000 in
set_option maxHeartbeats 2000000 in
theorem methodOk_any (ap:Option Addr) (nm cp:Nat) (x t:Int) (vo:Value) (ops:List (Int × Int)) (w:World) (h:OpsAt w vo ops) :
    Calls Tryz.prog 128 #[.agg #[.slice ap nm cp],.agg #[.int .i64 x,.int .i64 t,vo]] w fun e w'=>e=.returned (.bool (methOk nm (x,t,ops)))∧Below w.heap.size w w':=by
  obtain⟨ao,co,rfl,hl,hc⟩:=h
  have hl':=hl
  have hB:∀o1 o2,Below w.heap.size w ((w.alloc o1).alloc o2):=fun o1 o2=>((Below.refl _ _).alloc (Nat.le_refl _) _).alloc (by simp) _
  unfold maxLen at hl
  by_cases hx0:x<0
  · rw[methOk_x0 hx0]
    go_enter Tryz.func128,Tryz.ntmps128
    go_wp2
    go_ret
    exact⟨rfl,hB _ _⟩
  by_cases hx2:2<x
  · rw[methOk_x2 hx2]
    go_enter Tryz.func128,Tryz.ntmps128
    go_wp2
    go_ret
    exact⟨rfl,hB _ _⟩
  by_cases htx:t<x
  · rw[methOk_tx htx]
    go_enter Tryz.func128,Tryz.ntmps128
    go_wp2
    go_ret
    exact⟨rfl,hB _ _⟩
  by_cases ht4:4<t
  · rw[methOk_t4 ht4]
    go_enter Tryz.func128,Tryz.ntmps128
    go_wp2
    go_ret
    exact⟨rfl,hB _ _⟩
  by_cases h3:ops.length≤14
  case neg =>
    rw[methOk_no3 h3]
    have h3':(14:Int)<ops.length:=by omega
    go_enter Tryz.func128,Tryz.ntmps128
    go_wp2
    go_ret
    exact⟨rfl,hB _ _⟩
  have H:Hid (∀b,opsOk nm t ops=b→methOk nm (x,t,ops)=b):=fun b hb=>methOk_of (inR_true.2 (by omega)) (inR_true.2 (by omega)) h3 hb
  have h3':¬(14:Int)<ops.length:=by omega
  go_enter Tryz.func128,Tryz.ntmps128
  go_wp2
  clear hB
  go_loopg [36] ops.length (fun g i wr=>∃k:Nat,k≤ops.length∧g=ops.length - k∧i=.int .i64 k∧Boxes w wr (.slice ap nm cp) x t (.slice ao ops.length co)∧∀j,(hj:j<ops.length)→j<k→opOk nm ops.length t ops[j].1 ops[j].2=true)
  case atStart=>exact⟨0,Nat.zero_le _,rfl,rfl,Boxes.new _ _ _ _ _ _ _,fun j _ h=>absurd h (Nat.not_lt_zero _)⟩
  case round =>
    obtain⟨k,hk,rfl,rfl,hbox,hall⟩:=hrel
    have HA:Hid (∀j,(hj:j<ops.length)→j<k→opOk nm ops.length t ops[j].1 ops[j].2=true):=hall
    clear hall
    obtain⟨bp,ba,bb,bc,hb⟩:=id hbox
    have hsz:=hb.size
    by_cases hlt:k<ops.length
    · obtain⟨b,o,rfl,c0,c1⟩:=hc k hlt
      have d0:=cell_below hb c0
      have d1:=cell_below hb c1
      clear c0 c1 hc
      have hkz:(k:Int)<(ops.length:Int):=by omega
      have HO:Hid (∀b',opOk nm ops.length t ops[k].1 ops[k].2=b'→(b'=false→methOk nm (x,t,ops)=false)∧(b'=true→∀j,(hj:j<ops.length)→j<k+1→opOk nm ops.length t ops[j].1 ops[j].2=true)):=fun b' hb'=>⟨fun e=>H.out _ (opsOk_no hlt (hb'.trans e)),fun e j hj hjk=>by
        by_cases e':j=k
        · subst e';exact hb'.trans e
        · exact HA.out j hj (by omega)⟩
      clear H HA
      generalize ops[k].1=kk at *
      generalize ops[k].2=aa at *
      go_wp2_with fail
      have q0:(wr.alloc (.cells #[.int .i64 kk,.int .i64 aa] 33)).cell? ⟨wr.heap.size,0,none⟩=some (.int .i64 kk):=by simp[go_sem]
      have q1:(wr.alloc (.cells #[.int .i64 kk,.int .i64 aa] 33)).cell? ⟨wr.heap.size,1,none⟩=some (.int .i64 aa):=by simp[go_sem]
      have hbox2:=hbox.go ((Below.refl _ _).alloc (Nat.le_refl _) (.cells #[.int .i64 kk,.int .i64 aa] 33))
      clear hbox bp ba bb bc d0 d1 hb
      generalize wr.alloc (.cells #[.int .i64 kk,.int .i64 aa] 33)=W2 at *
      obtain⟨bp,ba,bb,bc,hb⟩:=id hbox2
      have hop:=fun w=>operandOf_any kk aa w
      cases hk18:inR kk 1 18
      · have HF:Hid (methOk nm (x,t,ops)=false):=(HO.out _ (opOk_noKind hk18)).1 rfl
        clear hop
        go_region_with (go_at_call 166;refine(isKind_any _ _).mono ?_;rintro e w' ⟨rfl,rfl⟩)
        all_goals
          go_wp2
          go_ret
          exact⟨ret_bool HF.out.symm,hbox2.below.drew⟩
      · rcases opTy_six kk with⟨hT,hkk⟩ | ⟨hT,hkk⟩ | ⟨hT,hkk⟩ | ⟨hT,hkk⟩ | ⟨hT,hkk⟩ | ⟨hT,hkk⟩
        · have HV:Hid (opOk nm ops.length t kk aa=inR aa 0 99):=by subst hkk;exact rfl
          rw[hT] at hop
          have HP:Hid (∀w,Calls _ _ _ w _):=hop
          have hm:=Tryz.run_num aa
          clear hop hkk hT
          go_region_held3 (fun w'=>w'.cell? ⟨w.heap.size,0,none⟩=some (.slice ap nm cp)∧w'.cell? ⟨w.heap.size+1,0,none⟩=some (.int .i64 x)∧w'.cell? ⟨w.heap.size+1,1,none⟩=some (.int .i64 t)∧w'.cell? ⟨w.heap.size+1,2,none⟩=some (.slice (some ⟨b,o,none⟩) ops.length co)∧w'.cell? ⟨wr.heap.size,0,none⟩=some (.int .i64 kk)∧w'.cell? ⟨wr.heap.size,1,none⟩=some (.int .i64 aa))
            (first | go_keep | (refine⟨cell_below hb2 ?_,cell_below hb2 ?_,cell_below hb2 ?_,cell_below hb2 ?_,cell_below hb2 ?_,cell_below hb2 ?_⟩ <;> assumption) | (refine⟨cell_below hb1 ?_,cell_below hb1 ?_,cell_below hb1 ?_,cell_below hb1 ?_,cell_below hb1 ?_,cell_below hb1 ?_⟩ <;> assumption))
            ((first | (go_at_call 166;refine(isKind_any _ _).mono ?_;rintro e w' ⟨rfl,rfl⟩) | (go_at_call 167;refine(HP.out _).mono ?_;rintro e w1 ⟨rfl,hb1⟩) | (go_at_call 218;refine(numFits_any _ _ _ _ _ _ _ _ _ _).mono ?_;rintro e w2 ⟨rfl,hb2'⟩;have hb2:=hb1.trans (hb2'.mono hb1.size))))
          have hbox3:=(hbox2.go (Below.refl _ _).drew).go hb2
          clear hb2' hb2 hb1 hbox2 bp ba bb bc hb q0 q1 hm HP
          cases hq:inR aa 0 99
          · have HF:Hid (methOk nm (x,t,ops)=false):=(HO.out _ (HV.out.trans hq)).1 rfl
            clear HV
            go_wp2
            go_ret
            exact⟨ret_bool HF.out.symm,hbox3.below⟩
          · have HQ:Hid (∀j,(hj:j<ops.length)→j<k+1→opOk nm ops.length t ops[j].1 ops[j].2=true):=(HO.out _ (HV.out.trans hq)).2 rfl
            clear HV
            go_wp2
            go_roundg (ops.length - (k+1))
            case measure=>omega
            case rel=>exact⟨k+1,by omega,rfl,by go_num,hbox3,HQ.out⟩
        · have HV:Hid (opOk nm ops.length t kk aa=inR aa 0 (t - 1)):=by rcases hkk with rfl | rfl <;> exact rfl
          rw[hT] at hop
          have HP:Hid (∀w,Calls _ _ _ w _):=hop
          have hm:=Tryz.run_temp aa
          clear hop hkk hT
          go_region_held3 (fun w'=>w'.cell? ⟨w.heap.size,0,none⟩=some (.slice ap nm cp)∧w'.cell? ⟨w.heap.size+1,0,none⟩=some (.int .i64 x)∧w'.cell? ⟨w.heap.size+1,1,none⟩=some (.int .i64 t)∧w'.cell? ⟨w.heap.size+1,2,none⟩=some (.slice (some ⟨b,o,none⟩) ops.length co)∧w'.cell? ⟨wr.heap.size,0,none⟩=some (.int .i64 kk)∧w'.cell? ⟨wr.heap.size,1,none⟩=some (.int .i64 aa))
            (first | go_keep | (refine⟨cell_below hb2 ?_,cell_below hb2 ?_,cell_below hb2 ?_,cell_below hb2 ?_,cell_below hb2 ?_,cell_below hb2 ?_⟩ <;> assumption) | (refine⟨cell_below hb1 ?_,cell_below hb1 ?_,cell_below hb1 ?_,cell_below hb1 ?_,cell_below hb1 ?_,cell_below hb1 ?_⟩ <;> assumption))
            ((first | (go_at_call 166;refine(isKind_any _ _).mono ?_;rintro e w' ⟨rfl,rfl⟩) | (go_at_call 167;refine(HP.out _).mono ?_;rintro e w1 ⟨rfl,hb1⟩) | (go_at_call 219;refine(tempFits_any _ _ _ _ _ _ _ _ _ _).mono ?_;rintro e w2 ⟨rfl,hb2'⟩;have hb2:=hb1.trans (hb2'.mono hb1.size))))
          have hbox3:=(hbox2.go (Below.refl _ _).drew).go hb2
          clear hb2' hb2 hb1 hbox2 bp ba bb bc hb q0 q1 hm HP
          cases hq:inR aa 0 (t - 1)
          · have HF:Hid (methOk nm (x,t,ops)=false):=(HO.out _ (HV.out.trans hq)).1 rfl
            clear HV
            go_wp2
            go_ret
            exact⟨ret_bool HF.out.symm,hbox3.below⟩
          · have HQ:Hid (∀j,(hj:j<ops.length)→j<k+1→opOk nm ops.length t ops[j].1 ops[j].2=true):=(HO.out _ (HV.out.trans hq)).2 rfl
            clear HV
            go_wp2
            go_roundg (ops.length - (k+1))
            case measure=>omega
            case rel=>exact⟨k+1,by omega,rfl,by go_num,hbox3,HQ.out⟩
        · have HV:Hid (opOk nm ops.length t kk aa=inR aa 0 ((ops.length:Int) - 1)):=by rcases hkk with rfl | rfl <;> exact rfl
          rw[hT] at hop
          have HP:Hid (∀w,Calls _ _ _ w _):=hop
          have hm:=Tryz.run_place aa
          clear hop hkk hT
          go_region_held3 (fun w'=>w'.cell? ⟨w.heap.size,0,none⟩=some (.slice ap nm cp)∧w'.cell? ⟨w.heap.size+1,0,none⟩=some (.int .i64 x)∧w'.cell? ⟨w.heap.size+1,1,none⟩=some (.int .i64 t)∧w'.cell? ⟨w.heap.size+1,2,none⟩=some (.slice (some ⟨b,o,none⟩) ops.length co)∧w'.cell? ⟨wr.heap.size,0,none⟩=some (.int .i64 kk)∧w'.cell? ⟨wr.heap.size,1,none⟩=some (.int .i64 aa))
            (first | go_keep | (refine⟨cell_below hb2 ?_,cell_below hb2 ?_,cell_below hb2 ?_,cell_below hb2 ?_,cell_below hb2 ?_,cell_below hb2 ?_⟩ <;> assumption) | (refine⟨cell_below hb1 ?_,cell_below hb1 ?_,cell_below hb1 ?_,cell_below hb1 ?_,cell_below hb1 ?_,cell_below hb1 ?_⟩ <;> assumption))
            ((first | (go_at_call 166;refine(isKind_any _ _).mono ?_;rintro e w' ⟨rfl,rfl⟩) | (go_at_call 167;refine(HP.out _).mono ?_;rintro e w1 ⟨rfl,hb1⟩) | (go_at_call 220;refine(placeFits_any _ _ _ _ _ _ _ _ _ _).mono ?_;rintro e w2 ⟨rfl,hb2'⟩;have hb2:=hb1.trans (hb2'.mono hb1.size))))
          have hbox3:=(hbox2.go (Below.refl _ _).drew).go hb2
          clear hb2' hb2 hb1 hbox2 bp ba bb bc hb q0 q1 hm HP
          cases hq:inR aa 0 ((ops.length:Int) - 1)
          · have HF:Hid (methOk nm (x,t,ops)=false):=(HO.out _ (HV.out.trans hq)).1 rfl
            clear HV
            go_wp2
            go_ret
            exact⟨ret_bool HF.out.symm,hbox3.below⟩
          · have HQ:Hid (∀j,(hj:j<ops.length)→j<k+1→opOk nm ops.length t ops[j].1 ops[j].2=true):=(HO.out _ (HV.out.trans hq)).2 rfl
            clear HV
            go_wp2
            go_roundg (ops.length - (k+1))
            case measure=>omega
            case rel=>exact⟨k+1,by omega,rfl,by go_num,hbox3,HQ.out⟩
        · have HV:Hid (opOk nm ops.length t kk aa=inR aa 0 ((nm:Int) - 1)):=by subst hkk;exact rfl
          rw[hT] at hop
          have HP:Hid (∀w,Calls _ _ _ w _):=hop
          have hm:=Tryz.run_method aa
          clear hop hkk hT
          go_region_held3 (fun w'=>w'.cell? ⟨w.heap.size,0,none⟩=some (.slice ap nm cp)∧w'.cell? ⟨w.heap.size+1,0,none⟩=some (.int .i64 x)∧w'.cell? ⟨w.heap.size+1,1,none⟩=some (.int .i64 t)∧w'.cell? ⟨w.heap.size+1,2,none⟩=some (.slice (some ⟨b,o,none⟩) ops.length co)∧w'.cell? ⟨wr.heap.size,0,none⟩=some (.int .i64 kk)∧w'.cell? ⟨wr.heap.size,1,none⟩=some (.int .i64 aa))
            (first | go_keep | (refine⟨cell_below hb2 ?_,cell_below hb2 ?_,cell_below hb2 ?_,cell_below hb2 ?_,cell_below hb2 ?_,cell_below hb2 ?_⟩ <;> assumption) | (refine⟨cell_below hb1 ?_,cell_below hb1 ?_,cell_below hb1 ?_,cell_below hb1 ?_,cell_below hb1 ?_,cell_below hb1 ?_⟩ <;> assumption))
            ((first | (go_at_call 166;refine(isKind_any _ _).mono ?_;rintro e w' ⟨rfl,rfl⟩) | (go_at_call 167;refine(HP.out _).mono ?_;rintro e w1 ⟨rfl,hb1⟩) | (go_at_call 221;refine(methodFits_any _ _ _ _ _ _ _ _ _ _).mono ?_;rintro e w2 ⟨rfl,hb2'⟩;have hb2:=hb1.trans (hb2'.mono hb1.size))))
          have hbox3:=(hbox2.go (Below.refl _ _).drew).go hb2
          clear hb2' hb2 hb1 hbox2 bp ba bb bc hb q0 q1 hm HP
          cases hq:inR aa 0 ((nm:Int) - 1)
          · have HF:Hid (methOk nm (x,t,ops)=false):=(HO.out _ (HV.out.trans hq)).1 rfl
            clear HV
            go_wp2
            go_ret
            exact⟨ret_bool HF.out.symm,hbox3.below⟩
          · have HQ:Hid (∀j,(hj:j<ops.length)→j<k+1→opOk nm ops.length t ops[j].1 ops[j].2=true):=(HO.out _ (HV.out.trans hq)).2 rfl
            clear HV
            go_wp2
            go_roundg (ops.length - (k+1))
            case measure=>omega
            case rel=>exact⟨k+1,by omega,rfl,by go_num,hbox3,HQ.out⟩
        · have HV:Hid (opOk nm ops.length t kk aa=inR aa 0 3):=by rcases hkk with rfl | rfl <;> exact rfl
          rw[hT] at hop
          have HP:Hid (∀w,Calls _ _ _ w _):=hop
          have hm:=Tryz.run_peek aa
          clear hop hkk hT
          go_region_held3 (fun w'=>w'.cell? ⟨w.heap.size,0,none⟩=some (.slice ap nm cp)∧w'.cell? ⟨w.heap.size+1,0,none⟩=some (.int .i64 x)∧w'.cell? ⟨w.heap.size+1,1,none⟩=some (.int .i64 t)∧w'.cell? ⟨w.heap.size+1,2,none⟩=some (.slice (some ⟨b,o,none⟩) ops.length co)∧w'.cell? ⟨wr.heap.size,0,none⟩=some (.int .i64 kk)∧w'.cell? ⟨wr.heap.size,1,none⟩=some (.int .i64 aa))
            (first | go_keep | (refine⟨cell_below hb2 ?_,cell_below hb2 ?_,cell_below hb2 ?_,cell_below hb2 ?_,cell_below hb2 ?_,cell_below hb2 ?_⟩ <;> assumption) | (refine⟨cell_below hb1 ?_,cell_below hb1 ?_,cell_below hb1 ?_,cell_below hb1 ?_,cell_below hb1 ?_,cell_below hb1 ?_⟩ <;> assumption))
            ((first | (go_at_call 166;refine(isKind_any _ _).mono ?_;rintro e w' ⟨rfl,rfl⟩) | (go_at_call 167;refine(HP.out _).mono ?_;rintro e w1 ⟨rfl,hb1⟩) | (go_at_call 222;refine(peekFits_any _ _ _ _ _ _ _ _ _ _).mono ?_;rintro e w2 ⟨rfl,hb2'⟩;have hb2:=hb1.trans (hb2'.mono hb1.size))))
          have hbox3:=(hbox2.go (Below.refl _ _).drew).go hb2
          clear hb2' hb2 hb1 hbox2 bp ba bb bc hb q0 q1 hm HP
          cases hq:inR aa 0 3
          · have HF:Hid (methOk nm (x,t,ops)=false):=(HO.out _ (HV.out.trans hq)).1 rfl
            clear HV
            go_wp2
            go_ret
            exact⟨ret_bool HF.out.symm,hbox3.below⟩
          · have HQ:Hid (∀j,(hj:j<ops.length)→j<k+1→opOk nm ops.length t ops[j].1 ops[j].2=true):=(HO.out _ (HV.out.trans hq)).2 rfl
            clear HV
            go_wp2
            go_roundg (ops.length - (k+1))
            case measure=>omega
            case rel=>exact⟨k+1,by omega,rfl,by go_num,hbox3,HQ.out⟩
        · have HV:Hid (opOk nm ops.length t kk aa=(aa == 0)):=by obtain⟨h1,h2,h3,h7,h8,h9,h13,h14⟩:=hkk;show _=_;rw[opOk_else _ _ _ _ _ h1 h2 h3 h7 h8 h9 h13 h14,hk18];rfl
          rw[hT] at hop
          have HP:Hid (∀w,Calls _ _ _ w _):=hop
          have hm:=Tryz.run_no aa
          clear hop hkk hT
          go_region_held3 (fun w'=>w'.cell? ⟨w.heap.size,0,none⟩=some (.slice ap nm cp)∧w'.cell? ⟨w.heap.size+1,0,none⟩=some (.int .i64 x)∧w'.cell? ⟨w.heap.size+1,1,none⟩=some (.int .i64 t)∧w'.cell? ⟨w.heap.size+1,2,none⟩=some (.slice (some ⟨b,o,none⟩) ops.length co)∧w'.cell? ⟨wr.heap.size,0,none⟩=some (.int .i64 kk)∧w'.cell? ⟨wr.heap.size,1,none⟩=some (.int .i64 aa))
            (first | go_keep | (refine⟨cell_below hb2 ?_,cell_below hb2 ?_,cell_below hb2 ?_,cell_below hb2 ?_,cell_below hb2 ?_,cell_below hb2 ?_⟩ <;> assumption) | (refine⟨cell_below hb1 ?_,cell_below hb1 ?_,cell_below hb1 ?_,cell_below hb1 ?_,cell_below hb1 ?_,cell_below hb1 ?_⟩ <;> assumption))
            ((first | (go_at_call 166;refine(isKind_any _ _).mono ?_;rintro e w' ⟨rfl,rfl⟩) | (go_at_call 167;refine(HP.out _).mono ?_;rintro e w1 ⟨rfl,hb1⟩) | (go_at_call 223;refine(noFits_any _ _ _ _ _ _ _ _ _ _).mono ?_;rintro e w2 ⟨rfl,hb2'⟩;have hb2:=hb1.trans (hb2'.mono hb1.size))))
          have hbox3:=(hbox2.go (Below.refl _ _).drew).go hb2
          clear hb2' hb2 hb1 hbox2 bp ba bb bc hb q0 q1 hm HP
          cases hq:(aa == 0)
          · have HF:Hid (methOk nm (x,t,ops)=false):=(HO.out _ (HV.out.trans hq)).1 rfl
            clear HV
            go_wp2
            go_ret
            exact⟨ret_bool HF.out.symm,hbox3.below⟩
          · have HQ:Hid (∀j,(hj:j<ops.length)→j<k+1→opOk nm ops.length t ops[j].1 ops[j].2=true):=(HO.out _ (HV.out.trans hq)).2 rfl
            clear HV
            go_wp2
            go_roundg (ops.length - (k+1))
            case measure=>omega
            case rel=>exact⟨k+1,by omega,rfl,by go_num,hbox3,HQ.out⟩
    · obtain rfl:k=ops.length:=by omega
      go_wp2
      go_ret
      exact⟨ret_bool (H.out _ (opsOk_yes fun i hi=>HA.out i hi hi)).symm,hb⟩
set_option maxHeartbeats 1000000 in
theorem implProgOk_any (v:Value) (ms:List (Int × Int × List (Int × Int))) (w:World) (h:MethsAt w v ms) :
    Calls Tryz.prog 70 #[.agg #[v]] w fun e w'=>e=.returned (.bool (progOk ms))∧Below w.heap.size w w':=by
  obtain⟨a,cap,rfl,hl,hc⟩:=h
  have hl':=hl
  have hB:∀o1,Below w.heap.size w (w.alloc o1):=fun o1=>(Below.refl _ _).alloc (Nat.le_refl _) _
  unfold maxLen at hl
  by_cases hz:ms.length=0
  · rw[show progOk ms=false by simp only[progOk];rw[inR_false.2 (by omega)];rfl]
    have hz':((ms.length:Int) == 0)=true:=by rw[beq_iff_eq];omega
    go_enter Tryz.func70,Tryz.ntmps70
    go_wp2
    go_ret
    exact⟨rfl,hB _⟩
  have hz':((ms.length:Int) == 0)=false:=by rw[beq_eq_false_iff_ne];omega
  by_cases h4:4<(ms.length:Int)
  · rw[show progOk ms=false by simp only[progOk];rw[inR_false.2 (by omega)];rfl]
    go_enter Tryz.func70,Tryz.ntmps70
    go_wp2
    go_ret
    exact⟨rfl,hB _⟩
  have h1:inR ms.length 1 4=true:=inR_true.2 (by omega)
  have h0lt:0<ms.length:=by omega
  have hx0:(ms.getD 0 (0,0,[])).1=ms[0].1:=by simp[h0lt]
  obtain⟨b,o,vo0,rfl,c0,c1,c2,c3⟩:=hc 0 h0lt
  have e0:w.cell? ⟨b,o,none⟩=some (.int .i64 ms[0].1):=by simpa using c0
  have E0:∀o1,(w.alloc o1).cell? ⟨b,o,none⟩=some (.int .i64 ms[0].1):=fun o1=>cell_below (hB o1) e0
  clear c0 c1 c2 c3 e0
  have h0z:(0:Int)<ms.length:=by omega
  cases h2:(ms[0].1 == 0)
  · rw[show progOk ms=false by simp only[progOk,h1,hx0,h2];rfl]
    have h2':(ms[0].1 != 0)=true:=by simp only[bne,h2];rfl
    clear h1 hx0
    go_enter Tryz.func70,Tryz.ntmps70
    go_wp2
    go_ret
    exact⟨rfl,hB _⟩
  have H:Hid (progOk ms=ms.all (methOk ms.length)):=by
    show progOk ms=_
    simp only[progOk,h1,hx0,h2,Bool.true_and]
  have h2':(ms[0].1 != 0)=false:=by simp only[bne,h2];rfl
  clear h1 hx0
  go_enter Tryz.func70,Tryz.ntmps70
  go_wp2
  clear h2 h2' hB E0
  go_loopg [26] ms.length (fun g i wr=>∃k:Nat,k≤ms.length∧g=ms.length - k∧i=.int .i64 k∧wr.cell? ⟨w.heap.size,0,none⟩=some (.slice (some ⟨b,o,none⟩) ms.length cap)∧Below w.heap.size w wr∧∀j,(hj:j<ms.length)→j<k→methOk ms.length ms[j]=true)
  case atStart=>exact⟨0,Nat.zero_le _,rfl,rfl,by simp[go_sem],(Below.refl _ _).alloc (Nat.le_refl _) _,fun j _ h=>absurd h (Nat.not_lt_zero _)⟩
  case round =>
    obtain⟨k,hk,rfl,rfl,bp,hb,hall⟩:=hrel
    have HA:Hid (∀j,(hj:j<ms.length)→j<k→methOk ms.length ms[j]=true):=hall
    clear hall
    have hsz:=hb.size
    by_cases hlt:k<ms.length
    · obtain⟨b',o',vo,hbo,c0,c1,c2,c3⟩:=hc k hlt
      obtain⟨rfl,rfl⟩:b=b'∧o=o':=by simpa using hbo
      have d0:=cell_below hb c0
      have d1:=cell_below hb c1
      have d2:=cell_below hb c2
      have d3:=c3.below hb
      clear c0 c1 c2 c3 hc hbo
      obtain⟨ao,co,hvo,_⟩:=id d3
      rw[hvo] at d2 d3
      clear hvo
      have hkz:(k:Int)<(ms.length:Int):=by omega
      have bp':∀o1,(wr.alloc o1).cell? ⟨w.heap.size,0,none⟩=some (.slice (some ⟨b,o,none⟩) ms.length cap):=fun o1=>cell_below ((Below.refl _ _).alloc (Nat.le_refl _) _) bp
      have D3:∀o1,OpsAt (wr.alloc o1) (.slice ao ms[k].2.2.length co) ms[k].2.2:=fun o1=>d3.below ((Below.refl _ _).alloc (Nat.le_refl _) _)
      clear d3
      go_wp2_with fail
      refine(methodOk_any _ _ _ _ _ _ _ _ (D3 _)).mono ?_
      rintro e w1 ⟨rfl,hb1⟩
      have bp1:=cell_below hb1 (bp' _)
      have hb2:Below w.heap.size w w1:=(hb.alloc hsz _).trans (hb1.mono (by simp;omega))
      clear hb1 bp bp' D3 hb d0 d1 d2
      cases hq:methOk ms.length (ms[k].1,ms[k].2.1,ms[k].2.2)
      · have HF:Hid (progOk ms=false):=H.out.trans (all_not hlt hq)
        go_wp2
        go_ret
        exact⟨ret_bool HF.out.symm,hb2⟩
      · have HQ:Hid (methOk ms.length ms[k]=true):=hq
        go_wp2
        go_roundg (ms.length - (k+1))
        case measure=>omega
        case rel =>
          refine⟨k+1,by omega,rfl,by go_num,bp1,hb2,fun j hj hjk=>?_⟩
          by_cases e:j=k
          · subst e;exact HQ.out
          · exact HA.out j hj (by omega)
    · obtain rfl:k=ms.length:=by omega
      go_wp2
      go_ret
      exact⟨ret_bool (H.out.trans (all_of fun i hi=>HA.out i hi hi)).symm,hb⟩
end Go.Proofs.YtjbgpcileapogaaGreat
