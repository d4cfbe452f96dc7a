/-
  Contract of (sha.Prefix).Size over this translation.
-/
import Derived.Test.YtcpoccahneppiaaDoorShaPre
namespace Go.Proofs.YtcpoccahneppiaaDoor
open Go.ChangeShapes Go.WideShapes Go.ChangeAt Go.RowKit
theorem size_any (f : Nat → Nat) (m : Nat) (b : Bool) (w : World) :
    Calls Tryd.prog 14 #[.agg (pre f m b)] w fun e w' => e = .returned (.int .i64 m) ∧ Below w.heap.size w w' := by
  go_enter Tryd.func14, Tryd.ntmps14
  go_upto_region 1 with fail
  generalize hw3 : World.alloc w _ = w3
  have b1 : Blk w3 w.heap.size 29 (pre f m b) := by rw [← hw3]; exact Blk.top rfl rfl
  have hb : Below w.heap.size w w3 := by rw [← hw3]; exact (Below.refl _ _).alloc (Nat.le_refl _) _
  clear hw3
  have c8 := b1.pre8
  go_wp2_with fail
  go_ret
  exact ⟨rfl, hb⟩
end Go.Proofs.YtcpoccahneppiaaDoor
