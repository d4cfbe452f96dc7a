/-
  Whole digests and prefixes loaded in a region that draws its order; an empty digest built behind a guard.
-/
import Derived.Test.YtcpoccahneppiaaDoorShaAhead
namespace Go.Proofs.YtcpoccahneppiaaDoor
open Go.ChangeShapes Go.WideShapes Go.ChangeAt Go.RowKit
section
variable {ops : Array Oper} {a : Act} {w : World} {rest : List Oper} {dst : Option Tmp} {ty : TypeId} {pos : String} {after : Array Edge} {x : Operand} {g m : Nat} {f : Nat → Nat} {b : Bool} {C : World → Prop} {Qk : Act → Prop} {gd : Option (Nat × Bool)}
theorem blk_range {t : TypeId} {cs : Array Value} (hb : Blk w g t cs) : w.rangeAt g 0 cs.toList := fun j v hj => by
  rw [Array.getElem?_toList] at hj
  rw [Nat.zero_add, hb.cell]
  exact hj
theorem run_ldt (hb : Blk w g 34 (tag f)) : (Instr.loadAt 34 (.pointer (some ⟨g, 0, none⟩))).run Tryd.prog w = .ok (.agg (tag f)) w := by
  have := run_loadAt_mid (P := Tryd.prog) w g 0 34 (tag f).toList _ (blk_range hb) Tryd.underlying34 rfl (info_tag.trans (by rw [Array.length_toList, size_tag]))
  rwa [Array.toArray_toList] at this
theorem run_ldp (hb : Blk w g 29 (pre f m b)) : (Instr.loadAt 29 (.pointer (some ⟨g, 0, none⟩))).run Tryd.prog w = .ok (.agg (pre f m b)) w := by
  have := run_loadAt_mid (P := Tryd.prog) w g 0 29 (pre f m b).toList _ (blk_range hb) Tryd.underlying29 rfl (info_pre.trans (by rw [Array.length_toList, size_pre]))
  rwa [Array.toArray_toList] at this
theorem klt (hwt : Region.wanted ⟨dst, .load 34 x, ty, pos, after, gd⟩ (yielded ops a.tmps) = true) (hx : a.eval x = .pointer (some ⟨g, 0, none⟩)) (hb : ∀ w, C w → Blk w g 34 (tag f)) (h : wpK Tryd.prog ops C Qk rest (a.put dst (.agg (tag f)))) :
    wpK Tryd.prog ops C Qk (⟨dst, .load 34 x, ty, pos, after, gd⟩ :: rest) a :=
  wpK_val hwt (fun w hw => gives_value (w' := w) (by simp only [execOp, hx, Sem.run_bind, run_ldt (hb w hw), Result.andThen_ok, Sem.run_pure]) hw) h
theorem klpw (hwt : Region.wanted ⟨dst, .load 29 x, ty, pos, after, gd⟩ (yielded ops a.tmps) = true) (hx : a.eval x = .pointer (some ⟨g, 0, none⟩)) (hb : ∀ w, C w → Blk w g 29 (pre f m b)) (h : wpK Tryd.prog ops C Qk rest (a.put dst (.agg (pre f m b)))) :
    wpK Tryd.prog ops C Qk (⟨dst, .load 29 x, ty, pos, after, gd⟩ :: rest) a :=
  wpK_val hwt (fun w hw => gives_value (w' := w) (by simp only [execOp, hx, Sem.run_bind, run_ldp (hb w hw), Result.andThen_ok, Sem.run_pure]) hw) h
end
end Go.Proofs.YtcpoccahneppiaaDoor
