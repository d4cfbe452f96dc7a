/-
  The type of slices of bytes; '==' of two tags.
-/
import Derived.Test.YtnnhnlabkbjacaaDoorAppZ
import Derived.Test.YtnnhnlabkbjacaaDoorEqT
namespace Go.Proofs.YtnnhnlabkbjacaaDoor
open Go.ChangeShapes Go.WideShapes Go.ChangeAt Go.RowKit
theorem eltB : Elt 22 5 .u8 := elt_of Tryd.underlying22 (by kernel_rfl) (by kernel_rfl) (by kernel_rfl)
theorem eqg_tag : Tryd.prog.eqGuardType Tryd.prog.depth 43 = false := by kernel_rfl
theorem eq_tag (f g : Nat → Nat) (w : World) : (Op.equalIn 10000 43 (.agg (tag f)) (.agg (tag g))).run Tryd.prog w = .ok (eqT f g) w :=
  run_equalIn_row (P := Tryd.prog) (d := 9998) (t := 43) (e := 5) (k := .u8) (n := 32) (f := fun k => f k) (g := fun k => g k) Tryd.underlying43 Tryd.underlying5 (by kernel_rfl) w
theorem eq_tag_self (f : Nat → Nat) (w : World) : (Op.equalIn 10000 43 (.agg (tag f)) (.agg (tag f))).run Tryd.prog w = .ok true w := by
  rw [eq_tag, eqT_self]
theorem klt {ops : Array Oper} {a : Act} {rest : List Oper} {dst : Option Tmp} {ty : TypeId} {pos : String} {after : Array Edge} {x : Operand} {g : Nat} {f : Nat → Nat} {C : World → Prop} {Qk : Act → Prop} {gd : Option (Nat × Bool)}
    (hwt : Region.wanted ⟨dst, .load 43 x, ty, pos, after, gd⟩ (yielded ops a.tmps) = true) (hx : a.eval x = .pointer (some ⟨g, 0, none⟩)) (hb : ∀ w, C w → Blk w g 43 (tag f)) (h : wpK Tryd.prog ops C Qk rest (a.put dst (.agg (tag f)))) :
    wpK Tryd.prog ops C Qk (⟨dst, .load 43 x, ty, pos, after, gd⟩ :: rest) a :=
  wpK_val hwt (fun w hw => gives_value (w' := w) (by
    have h1 : w.rangeAt g 0 (tag f).toList := fun j v hj => by
      rw [Array.getElem?_toList] at hj
      rw [Nat.zero_add, (hb w hw).cell]
      exact hj
    have := run_loadAt_mid (P := Tryd.prog) w g 0 43 (tag f).toList _ h1 Tryd.underlying43 rfl (info_tag.trans (by rw [Array.length_toList, size_tag]))
    rw [Array.toArray_toList] at this
    simp only [execOp, hx, Sem.run_bind, this, Result.andThen_ok, Sem.run_pure]) hw) h
end Go.Proofs.YtnnhnlabkbjacaaDoor
