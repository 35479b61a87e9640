/-
  The comparisons that the drawn laws make of values, calls and heaps: lmVals, lmCall, lmCalls, lmHeap answer true where both hold the same; they write to nothing that was there.
-/
import Derived.Test.YtbjgjjkgfnfejaaGreatDoorLmVals
namespace Go.Proofs.YtbjgjjkgfnfejaaGreatDoor
set_option maxHeartbeats 2000000
open Go.RowKit
theorem JN (v v':Value) (ops:yH) (w:World) (h:yi w v ops) (h':yi w v' ops) :
 Calls Tryz.prog 21 #[v,v'] w fun e w'=>e=.returned (.bool true)/\zO w w':=by
 obtain⟨a,cap,rfl,hl,hc⟩:=h
 obtain⟨a',cap',rfl,_,hc'⟩:=h'
 unfold maxLen at hl
 go_enter Tryz.func21,Tryz.ntmps21
 go_wp2
 go_loopg [5] ops.length (fun g i wr=>∃k:Nat,k<=ops.length/\g=ops.length - k/\i=zI k/\zO w wr)
 case atStart=>exact⟨0,Nat.zero_le _,rfl,rfl,zS⟩
 case round =>
  obtain⟨k,hk,rfl,rfl,hb⟩:=hrel
  by_cases yt:k<ops.length
  ·obtain⟨b,o,rfl,c0,c1⟩:=hc k yt
   obtain⟨b',o',rfl,c0',c1'⟩:=hc' k yt
   have d0:=zc hb c0
   have d1:=zc hb c1
   have d0':=zc hb c0'
   have d1':=zc hb c1'
   clear c0 c1 c0' c1' hc hc'
   have v7:(k:Int)<(ops.length:Int):=by omega
   go_wp2_with fail
   go_region_with (fail)
   all_goals
    have yE:zO w wr.drew:=hb.drew
    clear hb d0 d1 d0' d1'
    go_wp2
    go_roundg (ops.length - (k+1))
    case measure=>omega
    case rel=>exact⟨k+1,by omega,rfl,by go_num,yE⟩
  ·go_wp2
   go_ret
   exact⟨rfl,hb⟩
theorem zaR (c:Cl) (vt vs U4 vs':Value) (w:World) (ht:yi w vt c.zh) (hs:yi w vs c.zf) (ht':yi w U4 c.zh) (hs':yi w vs' c.zf) :
 Calls Tryz.prog 55 #[.agg (kC vt vs c),.agg (kC U4 vs' c)] w fun e w'=>e=.returned (.bool true)/\zO w w':=by
 unfold kC
 obtain⟨a1,k1,h1⟩:=ht.shape
 obtain⟨a2,k2,h2⟩:=hs.shape
 obtain⟨a3,k3,h3⟩:=ht'.shape
 obtain⟨a4,k4,h4⟩:=hs'.shape
 subst h1 h2 h3 h4
 have hA:zO w ((w.alloc (.cells #[.int .i64 c.m,.int .i64 c.pc,.slice a1 c.zh.length k1,.slice a2 c.zf.length k2,.int .i64 c.zi,.bool c.zy] 96)).alloc (.cells #[.int .i64 c.m,.int .i64 c.pc,.slice a3 c.zh.length k3,.slice a4 c.zf.length k4,.int .i64 c.zi,.bool c.zy] 96)):=(zR _ _).alloc (by simp) _
 have x3:((w.alloc (.cells #[.int .i64 c.m,.int .i64 c.pc,.slice a1 c.zh.length k1,.slice a2 c.zf.length k2,.int .i64 c.zi,.bool c.zy] 96)).alloc (.cells #[.int .i64 c.m,.int .i64 c.pc,.slice a3 c.zh.length k3,.slice a4 c.zf.length k4,.int .i64 c.zi,.bool c.zy] 96)).cell? (zH w.heap.size 3)=some (.slice a2 c.zf.length k2):=by simp[go_sem]
 have x4:((w.alloc (.cells #[.int .i64 c.m,.int .i64 c.pc,.slice a1 c.zh.length k1,.slice a2 c.zf.length k2,.int .i64 c.zi,.bool c.zy] 96)).alloc (.cells #[.int .i64 c.m,.int .i64 c.pc,.slice a3 c.zh.length k3,.slice a4 c.zf.length k4,.int .i64 c.zi,.bool c.zy] 96)).cell? (zH w.heap.size 4)=some (.int .i64 c.zi):=by simp[go_sem]
 have x5:((w.alloc (.cells #[.int .i64 c.m,.int .i64 c.pc,.slice a1 c.zh.length k1,.slice a2 c.zf.length k2,.int .i64 c.zi,.bool c.zy] 96)).alloc (.cells #[.int .i64 c.m,.int .i64 c.pc,.slice a3 c.zh.length k3,.slice a4 c.zf.length k4,.int .i64 c.zi,.bool c.zy] 96)).cell? (zH w.heap.size 5)=some (.bool c.zy):=by simp[go_sem]
 have y3:((w.alloc (.cells #[.int .i64 c.m,.int .i64 c.pc,.slice a1 c.zh.length k1,.slice a2 c.zf.length k2,.int .i64 c.zi,.bool c.zy] 96)).alloc (.cells #[.int .i64 c.m,.int .i64 c.pc,.slice a3 c.zh.length k3,.slice a4 c.zf.length k4,.int .i64 c.zi,.bool c.zy] 96)).cell? (zH (w.heap.size+1) 3)=some (.slice a4 c.zf.length k4):=by simp[go_sem]
 have y4:((w.alloc (.cells #[.int .i64 c.m,.int .i64 c.pc,.slice a1 c.zh.length k1,.slice a2 c.zf.length k2,.int .i64 c.zi,.bool c.zy] 96)).alloc (.cells #[.int .i64 c.m,.int .i64 c.pc,.slice a3 c.zh.length k3,.slice a4 c.zf.length k4,.int .i64 c.zi,.bool c.zy] 96)).cell? (zH (w.heap.size+1) 4)=some (.int .i64 c.zi):=by simp[go_sem]
 have y5:((w.alloc (.cells #[.int .i64 c.m,.int .i64 c.pc,.slice a1 c.zh.length k1,.slice a2 c.zf.length k2,.int .i64 c.zi,.bool c.zy] 96)).alloc (.cells #[.int .i64 c.m,.int .i64 c.pc,.slice a3 c.zh.length k3,.slice a4 c.zf.length k4,.int .i64 c.zi,.bool c.zy] 96)).cell? (zH (w.heap.size+1) 5)=some (.bool c.zy):=by simp[go_sem]
 go_enter Tryz.func55,Tryz.ntmps55
 go_wp2_with fail
 generalize (w.alloc (.cells #[.int .i64 c.m,.int .i64 c.pc,.slice a1 c.zh.length k1,.slice a2 c.zf.length k2,.int .i64 c.zi,.bool c.zy] 96)).alloc (.cells #[.int .i64 c.m,.int .i64 c.pc,.slice a3 c.zh.length k3,.slice a4 c.zf.length k4,.int .i64 c.zi,.bool c.zy] 96)=W0 at *
 refine(JN _ _ c.zh _ (ht.below hA) (ht'.below hA)).mono ?_
 rintro e w1 ⟨rfl,qk⟩
 have hB1:zO w w1:=hA.trans (qk.mono hA.size)
 have X3:=zc qk x3
 have X4:=zc qk x4
 have X5:=zc qk x5
 have Y3:=zc qk y3
 have Y4:=zc qk y4
 have Y5:=zc qk y5
 clear qk hA x3 x4 x5 y3 y4 y5
 have z1:=hB1.size
 go_wp2_with fail
 refine(JN _ _ c.zf _ (hs.below hB1) (hs'.below hB1)).mono ?_
 rintro e w2 ⟨rfl,yE⟩
 have hB2:zO w w2:=hB1.trans (yE.mono z1)
 have p4:=zc yE X4
 have p5:=zc yE X5
 have q4:=zc yE Y4
 have q5:=zc yE Y5
 clear yE X3 X4 X5 Y3 Y4 Y5
 go_wp2
 go_ret
 exact⟨rfl,hB2⟩
theorem WH (v v':Value) (cs:List Cl) (w:World) (h:xz w v cs) (h':xz w v' cs) :
 Calls Tryz.prog 22 #[v,v'] w fun e w'=>e=.returned (.bool true)/\zO w w':=by
 obtain⟨a,cap,rfl,hl,hc⟩:=h
 obtain⟨a',cap',rfl,_,hc'⟩:=h'
 unfold maxLen at hl
 go_enter Tryz.func22,Tryz.ntmps22
 go_wp2
 go_loopg [5] cs.length (fun g i wr=>∃k:Nat,k<=cs.length/\g=cs.length - k/\i=zI k/\zO w wr)
 case atStart=>exact⟨0,Nat.zero_le _,rfl,rfl,zS⟩
 case round =>
  obtain⟨k,hk,rfl,rfl,hb⟩:=hrel
  by_cases yt:k<cs.length
  ·obtain⟨b,o,vt,vs,rfl,hcl⟩:=hc k yt
   obtain⟨b',o',U4,vs',rfl,hcl'⟩:=hc' k yt
   obtain⟨d0,d1,d2,d3,d4,d5,dt,ds⟩:=hcl.below hb
   obtain⟨d0',d1',d2',d3',d4',d5',dt',ds'⟩:=hcl'.below hb
   obtain⟨a1,k1,h1⟩:=dt.shape
   obtain⟨a2,k2,h2⟩:=ds.shape
   obtain⟨a3,k3,h3⟩:=dt'.shape
   obtain⟨a4,k4,h4⟩:=ds'.shape
   rw[h1] at d2 dt
   rw[h2] at d3 ds
   rw[h3] at d2' dt'
   rw[h4] at d3' ds'
   clear h1 h2 h3 h4 hcl hcl' hc hc'
   have v7:(k:Int)<(cs.length:Int):=by omega
   have un:=hb.size
   have DT:yi wr.drew _ _:=dt.below zS.drew
   have DS:yi wr.drew _ _:=ds.below zS.drew
   have DT':yi wr.drew _ _:=dt'.below zS.drew
   have DS':yi wr.drew _ _:=ds'.below zS.drew
   clear dt ds dt' ds'
   go_wp2_with fail
   go_region_with (go_at_call 55;refine(zaR cs[k] _ _ _ _ _ DT DS DT' DS').mono ?_;rintro e w1 ⟨rfl,qk⟩)
   all_goals
    have yE:zO w w1:=hb.drew.trans (qk.mono un)
    clear hb qk d0 d1 d0' d1' d2 d2' d3 d3' d4 d4' d5 d5' DT DS DT' DS'
    go_wp2
    go_roundg (cs.length - (k+1))
    case measure=>omega
    case rel=>exact⟨k+1,by omega,rfl,by go_num,yE⟩
  ·go_wp2
   go_ret
   exact⟨rfl,hb⟩
end Go.Proofs.YtbjgjjkgfnfejaaGreatDoor
