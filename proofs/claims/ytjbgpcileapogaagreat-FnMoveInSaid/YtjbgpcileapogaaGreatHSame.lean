/-
  The comparisons that the exact laws make of values, calls and heaps: eqVal, eqValS, eqCall, eqCallS, eqHeap answer true where both hold the same; they write to nothing that was there.
-/
import Derived.Test.YtjbgpcileapogaaGreatRFT
import Derived.Deep.RegionWith
namespace Go.Proofs.YtjbgpcileapogaaGreat
open Go.RowKit
def qt (vt vs:Value) (c:Cl):Array Value:=#[.int .i64 c.m,.int .i64 c.pc,vt,vs,.int .i64 c.zf,.bool c.zv]
set_option maxHeartbeats 400000 in
theorem vX (v v':Value) (ops:zL) (w:World) (h:zR w v ops) (h':zR w v' ops) :
 Calls Tryz.prog 67 #[v,v'] w fun e w'=>e=.returned (.bool true)/\Below w.heap.size w w':=by
 obtain⟨a,zp,rfl,hl,hc⟩:=h
 obtain⟨a',cap',rfl,_,hc'⟩:=h'
 unfold maxLen at hl
 go_enter Tryz.func67,Tryz.ntmps67
 go_wp2
 go_loopg [5] ops.length (fun g i wr=>∃k:Nat,k<=ops.length/\g=ops.length - k/\i=.int .i64 k/\Below w.heap.size w wr)
 case atStart=>exact⟨0,Nat.zero_le _,rfl,rfl,zC⟩
 case round =>
  obtain⟨k,hk,rfl,rfl,hb⟩:=hrel
  by_cases hlt:k<ops.length
  ·obtain⟨b,o,rfl,c0,c1⟩:=hc k hlt
   obtain⟨b',o',rfl,c0',c1'⟩:=hc' k hlt
   have d0:=zc hb c0
   have d1:=zc hb c1
   have d0':=zc hb c0'
   have d1':=zc hb c1'
   clear c0 c1 c0' c1' hc hc'
   have hkz:(k:Int)<(ops.length:Int):=by omega
   go_wp2_with fail
   go_region_with (fail)
   all_goals
    have hb2:Below w.heap.size w wr.drew:=hb.drew
    clear hb d0 d1 d0' d1'
    go_wp2
    go_roundg (ops.length - (k+1))
    case measure=>omega
    case rel=>exact⟨k+1,by omega,rfl,by go_num,hb2⟩
  ·go_wp2
   go_ret
   exact⟨rfl,hb⟩
set_option maxHeartbeats 1000000 in
theorem Xk (c:Cl) (vt vs Ku vs':Value) (w:World) (ht:zR w vt c.zg) (hs:zR w vs c.ze) (ht':zR w Ku c.zg) (hs':zR w vs' c.ze) :
 Calls Tryz.prog 69 #[.agg (qt vt vs c),.agg (qt Ku vs' c)] w fun e w'=>e=.returned (.bool true)/\Below w.heap.size w w':=by
 unfold qt
 obtain⟨a1,k1,h1⟩:=ht.shape
 obtain⟨a2,k2,h2⟩:=hs.shape
 obtain⟨a3,k3,h3⟩:=ht'.shape
 obtain⟨a4,k4,h4⟩:=hs'.shape
 subst h1 h2 h3 h4
 have hA:Below w.heap.size w ((w.alloc (.cells #[.int .i64 c.m,.int .i64 c.pc,.slice a1 c.zg.length k1,.slice a2 c.ze.length k2,.int .i64 c.zf,.bool c.zv] 37)).alloc (.cells #[.int .i64 c.m,.int .i64 c.pc,.slice a3 c.zg.length k3,.slice a4 c.ze.length k4,.int .i64 c.zf,.bool c.zv] 37)):=(zB _ _).alloc (by simp) _
 have x3:((w.alloc (.cells #[.int .i64 c.m,.int .i64 c.pc,.slice a1 c.zg.length k1,.slice a2 c.ze.length k2,.int .i64 c.zf,.bool c.zv] 37)).alloc (.cells #[.int .i64 c.m,.int .i64 c.pc,.slice a3 c.zg.length k3,.slice a4 c.ze.length k4,.int .i64 c.zf,.bool c.zv] 37)).cell? ⟨w.heap.size,3,none⟩=some (.slice a2 c.ze.length k2):=by simp[go_sem]
 have x4:((w.alloc (.cells #[.int .i64 c.m,.int .i64 c.pc,.slice a1 c.zg.length k1,.slice a2 c.ze.length k2,.int .i64 c.zf,.bool c.zv] 37)).alloc (.cells #[.int .i64 c.m,.int .i64 c.pc,.slice a3 c.zg.length k3,.slice a4 c.ze.length k4,.int .i64 c.zf,.bool c.zv] 37)).cell? ⟨w.heap.size,4,none⟩=some (.int .i64 c.zf):=by simp[go_sem]
 have x5:((w.alloc (.cells #[.int .i64 c.m,.int .i64 c.pc,.slice a1 c.zg.length k1,.slice a2 c.ze.length k2,.int .i64 c.zf,.bool c.zv] 37)).alloc (.cells #[.int .i64 c.m,.int .i64 c.pc,.slice a3 c.zg.length k3,.slice a4 c.ze.length k4,.int .i64 c.zf,.bool c.zv] 37)).cell? ⟨w.heap.size,5,none⟩=some (.bool c.zv):=by simp[go_sem]
 have y3:((w.alloc (.cells #[.int .i64 c.m,.int .i64 c.pc,.slice a1 c.zg.length k1,.slice a2 c.ze.length k2,.int .i64 c.zf,.bool c.zv] 37)).alloc (.cells #[.int .i64 c.m,.int .i64 c.pc,.slice a3 c.zg.length k3,.slice a4 c.ze.length k4,.int .i64 c.zf,.bool c.zv] 37)).cell? ⟨w.heap.size+1,3,none⟩=some (.slice a4 c.ze.length k4):=by simp[go_sem]
 have y4:((w.alloc (.cells #[.int .i64 c.m,.int .i64 c.pc,.slice a1 c.zg.length k1,.slice a2 c.ze.length k2,.int .i64 c.zf,.bool c.zv] 37)).alloc (.cells #[.int .i64 c.m,.int .i64 c.pc,.slice a3 c.zg.length k3,.slice a4 c.ze.length k4,.int .i64 c.zf,.bool c.zv] 37)).cell? ⟨w.heap.size+1,4,none⟩=some (.int .i64 c.zf):=by simp[go_sem]
 have y5:((w.alloc (.cells #[.int .i64 c.m,.int .i64 c.pc,.slice a1 c.zg.length k1,.slice a2 c.ze.length k2,.int .i64 c.zf,.bool c.zv] 37)).alloc (.cells #[.int .i64 c.m,.int .i64 c.pc,.slice a3 c.zg.length k3,.slice a4 c.ze.length k4,.int .i64 c.zf,.bool c.zv] 37)).cell? ⟨w.heap.size+1,5,none⟩=some (.bool c.zv):=by simp[go_sem]
 go_enter Tryz.func69,Tryz.ntmps69
 go_wp2_with fail
 generalize (w.alloc (.cells #[.int .i64 c.m,.int .i64 c.pc,.slice a1 c.zg.length k1,.slice a2 c.ze.length k2,.int .i64 c.zf,.bool c.zv] 37)).alloc (.cells #[.int .i64 c.m,.int .i64 c.pc,.slice a3 c.zg.length k3,.slice a4 c.ze.length k4,.int .i64 c.zf,.bool c.zv] 37)=W0 at *
 refine(vX _ _ c.zg _ (ht.below hA) (ht'.below hA)).mono ?_
 rintro e w1 ⟨rfl,hb1⟩
 have hB1:Below w.heap.size w w1:=hA.trans (hb1.mono hA.size)
 have X3:=zc hb1 x3
 have X4:=zc hb1 x4
 have X5:=zc hb1 x5
 have Y3:=zc hb1 y3
 have Y4:=zc hb1 y4
 have Y5:=zc hb1 y5
 clear hb1 hA x3 x4 x5 y3 y4 y5
 have z1:=hB1.size
 go_wp2_with fail
 refine(vX _ _ c.ze _ (hs.below hB1) (hs'.below hB1)).mono ?_
 rintro e w2 ⟨rfl,hb2⟩
 have hB2:Below w.heap.size w w2:=hB1.trans (hb2.mono z1)
 have p4:=zc hb2 X4
 have p5:=zc hb2 X5
 have q4:=zc hb2 Y4
 have q5:=zc hb2 Y5
 clear hb2 X3 X4 X5 Y3 Y4 Y5
 go_wp2
 go_ret
 exact⟨rfl,hB2⟩
set_option maxHeartbeats 2000000 in
theorem Vw (v v':Value) (cs:List Cl) (w:World) (h:qo w v cs) (h':qo w v' cs) :
 Calls Tryz.prog 24 #[v,v'] w fun e w'=>e=.returned (.bool true)/\Below w.heap.size w w':=by
 obtain⟨a,zp,rfl,hl,hc⟩:=h
 obtain⟨a',cap',rfl,_,hc'⟩:=h'
 unfold maxLen at hl
 go_enter Tryz.func24,Tryz.ntmps24
 go_wp2
 go_loopg [5] cs.length (fun g i wr=>∃k:Nat,k<=cs.length/\g=cs.length - k/\i=.int .i64 k/\Below w.heap.size w wr)
 case atStart=>exact⟨0,Nat.zero_le _,rfl,rfl,zC⟩
 case round =>
  obtain⟨k,hk,rfl,rfl,hb⟩:=hrel
  by_cases hlt:k<cs.length
  ·obtain⟨b,o,vt,vs,rfl,hcl⟩:=hc k hlt
   obtain⟨b',o',Ku,vs',rfl,hcl'⟩:=hc' k hlt
   obtain⟨d0,d1,d2,d3,d4,d5,dt,ds⟩:=hcl.below hb
   obtain⟨d0',d1',d2',d3',d4',d5',dt',ds'⟩:=hcl'.below hb
   obtain⟨a1,k1,h1⟩:=dt.shape
   obtain⟨a2,k2,h2⟩:=ds.shape
   obtain⟨a3,k3,h3⟩:=dt'.shape
   obtain⟨a4,k4,h4⟩:=ds'.shape
   rw[h1] at d2 dt
   rw[h2] at d3 ds
   rw[h3] at d2' dt'
   rw[h4] at d3' ds'
   clear h1 h2 h3 h4 hcl hcl' hc hc'
   have hkz:(k:Int)<(cs.length:Int):=by omega
   have hsz:=hb.size
   have DT:zR wr.drew _ _:=dt.below zC.drew
   have DS:zR wr.drew _ _:=ds.below zC.drew
   have DT':zR wr.drew _ _:=dt'.below zC.drew
   have DS':zR wr.drew _ _:=ds'.below zC.drew
   clear dt ds dt' ds'
   go_wp2_with fail
   go_region_with (go_at_call 69;refine(Xk cs[k] _ _ _ _ _ DT DS DT' DS').mono ?_;rintro e w1 ⟨rfl,hb1⟩)
   all_goals
    have hb2:Below w.heap.size w w1:=hb.drew.trans (hb1.mono hsz)
    clear hb hb1 d0 d1 d0' d1' d2 d2' d3 d3' d4 d4' d5 d5' DT DS DT' DS'
    go_wp2
    go_roundg (cs.length - (k+1))
    case measure=>omega
    case rel=>exact⟨k+1,by omega,rfl,by go_num,hb2⟩
  ·go_wp2
   go_ret
   exact⟨rfl,hb⟩
end Go.Proofs.YtjbgpcileapogaaGreat
