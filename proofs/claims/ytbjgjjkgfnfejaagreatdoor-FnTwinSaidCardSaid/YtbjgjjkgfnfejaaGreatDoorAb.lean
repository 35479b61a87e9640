import Derived.Below
namespace Go.Proofs.YtbjgjjkgfnfejaaGreatDoor
open Go.RowKit
theorem zR (w:World) (c):Below w.heap.size w (w.alloc c):=(Below.refl _ _).alloc (Nat.le_refl _) _
theorem zS {B} {w:World}:Below B w w:=Below.refl _ _
theorem zD {n:Nat}:n<=n:=Nat.le_refl n
theorem zY {n:Nat}:0<=n:=Nat.zero_le n
theorem yB {n:Nat}:¬n<0:=Nat.not_lt_zero n
theorem zG {α} [BEq α] [LawfulBEq α] {a b:α}:(a==b)=false ↔ a≠b:=beq_eq_false_iff_ne
abbrev zI (x:Int):Value:=.int .i64 x
abbrev zH (b o:Nat):Addr:=⟨b,o,none⟩
abbrev zJ (b o:Nat):Value:=.pointer (some ⟨b,o,none⟩)
abbrev zK (b o n c:Nat):Value:=.slice (some ⟨b,o,none⟩) n c
abbrev zQ:Value:=.slice none 0 0
abbrev zO (w v:World):Prop:=Below w.heap.size w v
abbrev zP:=Int × Int × List (Int × Int)
abbrev yH:=List (Int × Int)
abbrev zM:=List zP
end Go.Proofs.YtbjgjjkgfnfejaaGreatDoor
