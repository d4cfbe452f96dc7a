/-
  An empty slice of bytes that is made with room.
-/
import Derived.Test.YtnnhnlabkbjacaaDoorElts
import Derived.Test.YtnnhnlabkbjacaaDoorOwn2
import Derived.Laws.MakeOwn
namespace Go.Proofs.YtnnhnlabkbjacaaDoor
open Go.ChangeShapes Go.WideShapes Go.ChangeAt Go.RowKit
/-- An empty slice with room. -/
theorem mk0 {ops : Array Oper} {Q : Exit → Act → World → Prop} {a : Act} {w : World} {rest : List Oper} {dst : Option Tmp} {ty : TypeId} {pos : String} {after : Array Edge} {x y : Operand} {n : Nat} (hn : n ≤ 10000)
    (hx : a.eval x = .int .i64 0) (hy : a.eval y = .int .i64 (n : Int)) (h : ∀ v w', Own 5 .u8 w' w.heap.size v [] → Below w.heap.size w w' → wpList Tryd.prog ops Q rest (a.put dst v) w') :
    wpList Tryd.prog ops Q (⟨dst, .makeSlice 22 x y, ty, pos, after, none⟩ :: rest) a w := by
  obtain ⟨i, hi, hz, h1, h2⟩ := eltB.inf
  obtain ⟨w', hr, ho, hg⟩ := run_make_own (P := Tryd.prog) w w.heap.size 22 5 i (.int .u8 0) 1 eltB.und hi hz h1 .i64 .i64 n (Nat.le_trans (Nat.mul_le_mul h2 hn) (by omega)) (by unfold maxLen; omega) (Nat.le_refl _)
  refine wpList_plain rfl fun K hK => ?_
  unfold Oper.wp execOp
  simp only [Sem.run_bind, hx, hy, hr, Result.andThen_ok]
  exact hK _ _ (h _ w' ho (below_none (Below.refl _ _) hg (Nat.le_refl _)))
end Go.Proofs.YtnnhnlabkbjacaaDoor
