/-
  Rows of n bytes loaded in a drawn region that makes a variable.
-/
import Derived.Test.YtfnepbkgmopjcaaAr
import Derived.Test.YtfnepbkgmopjcaaRegOne
namespace Go.Proofs.Ytfnepbkgmopjcaa
open Go.ChangeShapes Go.WideShapes Go.ChangeAt Go.RowKit
section
variable {ops : Array Oper} {a : Act} {rest : List Oper} {dst : Option Tmp} {ty : TypeId} {pos : String} {after : Array Edge} {x : Operand} {g o n : Nat} {f : Nat → Nat} {T : TypeId} {C : World → Prop} {Qk : Act → Prop} {gd : Option (Nat × Bool)}
theorem bldA (hT : ArT T n) (hwt : Region.wanted ⟨dst, .load T x, ty, pos, after, gd⟩ (yielded ops a.tmps) = true) (hx : a.eval x = .pointer (some ⟨g, o, none⟩)) (hb : ∀ w, C w → w.rangeAt g o (ar n f).toList) (h : wpB Try.prog ops C Qk rest (a.put dst (.agg (ar n f)))) :
    wpB Try.prog ops C Qk (⟨dst, .load T x, ty, pos, after, gd⟩ :: rest) a :=
  wpB_val hwt (fun w hw => gives_value (w' := w) (by simp only [execOp, hx, Sem.run_bind, run_ldm hT (hb w hw), Result.andThen_ok, Sem.run_pure]) ⟨hw, Below.refl _ _⟩) h
end
end Go.Proofs.Ytfnepbkgmopjcaa
