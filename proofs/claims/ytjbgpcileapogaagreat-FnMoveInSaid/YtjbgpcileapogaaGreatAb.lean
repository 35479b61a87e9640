import Derived.Below
namespace Go.Proofs.YtjbgpcileapogaaGreat
open Go.RowKit
theorem zB (w:World) (c):Below w.heap.size w (w.alloc c):=(Below.refl _ _).alloc (Nat.le_refl _) _
theorem zC {B} {w:World}:Below B w w:=Below.refl _ _
theorem zD {n:Nat}:n<=n:=Nat.le_refl n
theorem zE {n:Nat}:0<=n:=Nat.zero_le n
theorem zF {n:Nat}:¬n<0:=Nat.not_lt_zero n
theorem zG {α} [BEq α] [LawfulBEq α] {a b:α}:(a==b)=false ↔ a≠b:=beq_eq_false_iff_ne
abbrev zP:=Int × Int × List (Int × Int)
abbrev zL:=List (Int × Int)
abbrev zM:=List zP
end Go.Proofs.YtjbgpcileapogaaGreat
