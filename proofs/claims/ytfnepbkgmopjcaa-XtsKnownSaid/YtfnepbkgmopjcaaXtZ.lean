/-
  Contracts of Seal and Open of what New did not make.
-/
import Derived.Test.YtfnepbkgmopjcaaXtV
namespace Go.Proofs.Ytfnepbkgmopjcaa
open Go.ChangeShapes Go.WideShapes Go.ChangeAt Go.RowKit
open AesM (Bt Q16)
open AesP (tBk wr_nat Cip cip_lt)
namespace XtP
attribute [local go_sem] Gives
theorem built_zs (w : World) : (Instr.build 28 #[]).run Try.prog w = .ok (.agg (ar 64 fun _ => 0)) w := run_build w _ _ _ (by kernel_rfl)
section
variable {ops : Array Oper} {Q : Exit → Act → World → Prop} {a : Act} {w : World} {rest : List Oper} {dst : Option Tmp} {ty : TypeId} {pos : String} {after : Array Edge}
theorem bld_zs (h : wpList Try.prog ops Q rest (a.put dst (.agg (ar 64 fun _ => 0))) w) : wpList Try.prog ops Q (⟨dst, .build 28 #[], ty, pos, after, none⟩ :: rest) a w := bld_none built_zs h
end
set_option maxRecDepth 100000 in
theorem sealing_nil (f : Nat → Nat) (n : Nat) (w : World) :
    Calls Try.prog 10 #[.pointer none, .int .u64 n, .agg (ar 64 f)] w fun e w' => e = .returned (.agg (ar 64 fun _ => 0)) ∧ Below w.heap.size w w' := by
  go_enter Try.func10, Try.ntmps10
  go_upto_region 1 with (with_reducible apply alA tSec)
  generalize hw1 : World.alloc (World.alloc w _) _ = w1
  have b2 : Blk w1 (w.heap.size + 1) 28 (ar 64 fun _ => 0) := by rw [← hw1]; exact Blk.top rfl (by simp)
  have hb : Below w.heap.size w w1 := by rw [← hw1]; exact ((Below.refl _ _).alloc (Nat.le_refl _) _).alloc (by simp) _
  clear hw1
  go_wp2_with fail
  refine (made_nil w1).mono ?_
  rintro e w' ⟨rfl, rfl⟩
  go_wp2_with (first | (with_reducible apply bld_zs) | ((with_reducible apply stA tSec); rfl; rfl; exact b2))
  apply ret_ar tSec Try.results10
  · rfl
  · rfl
  · exact b2.setRow_same _
  exact ⟨rfl, below_setRow hb (by omega) _⟩
set_option maxRecDepth 100000 in
theorem sealing_emp (f : Nat → Nat) (n g : Nat) (w : World) (hm : Emp w g) :
    Calls Try.prog 10 #[.pointer (some ⟨g, 0, none⟩), .int .u64 n, .agg (ar 64 f)] w fun e w' => e = .returned (.agg (ar 64 fun _ => 0)) ∧ Below w.heap.size w w' := by
  have HM := hid hm
  have hg := Blk.lt hm
  clear hm
  go_enter Try.func10, Try.ntmps10
  go_upto_region 1 with (with_reducible apply alA tSec)
  generalize hw1 : World.alloc (World.alloc w _) _ = w1
  have b2 : Blk w1 (w.heap.size + 1) 28 (ar 64 fun _ => 0) := by rw [← hw1]; exact Blk.top rfl (by simp)
  have hb : Below w.heap.size w w1 := by rw [← hw1]; exact ((Below.refl _ _).alloc (Nat.le_refl _) _).alloc (by simp) _
  have hm1 := hid (show Emp w1 g from Blk.below HM.out hb hg)
  clear hw1 HM
  go_wp2_with fail
  refine (made_emp g w1 hm1.out).mono ?_
  rintro e w' ⟨rfl, rfl⟩
  go_wp2_with (first | (with_reducible apply bld_zs) | ((with_reducible apply stA tSec); rfl; rfl; exact b2))
  apply ret_ar tSec Try.results10
  · rfl
  · rfl
  · exact b2.setRow_same _
  exact ⟨rfl, below_setRow hb (by omega) _⟩
set_option maxRecDepth 100000 in
theorem opening_nil (f : Nat → Nat) (n : Nat) (w : World) :
    Calls Try.prog 12 #[.pointer none, .int .u64 n, .agg (ar 64 f)] w fun e w' => e = .returned (.agg (ar 64 fun _ => 0)) ∧ Below w.heap.size w w' := by
  go_enter Try.func12, Try.ntmps12
  go_upto_region 1 with (with_reducible apply alA tSec)
  generalize hw1 : World.alloc (World.alloc w _) _ = w1
  have b2 : Blk w1 (w.heap.size + 1) 28 (ar 64 fun _ => 0) := by rw [← hw1]; exact Blk.top rfl (by simp)
  have hb : Below w.heap.size w w1 := by rw [← hw1]; exact ((Below.refl _ _).alloc (Nat.le_refl _) _).alloc (by simp) _
  clear hw1
  go_wp2_with fail
  refine (made_nil w1).mono ?_
  rintro e w' ⟨rfl, rfl⟩
  go_wp2_with (first | (with_reducible apply bld_zs) | ((with_reducible apply stA tSec); rfl; rfl; exact b2))
  apply ret_ar tSec Try.results12
  · rfl
  · rfl
  · exact b2.setRow_same _
  exact ⟨rfl, below_setRow hb (by omega) _⟩
set_option maxRecDepth 100000 in
theorem opening_emp (f : Nat → Nat) (n g : Nat) (w : World) (hm : Emp w g) :
    Calls Try.prog 12 #[.pointer (some ⟨g, 0, none⟩), .int .u64 n, .agg (ar 64 f)] w fun e w' => e = .returned (.agg (ar 64 fun _ => 0)) ∧ Below w.heap.size w w' := by
  have HM := hid hm
  have hg := Blk.lt hm
  clear hm
  go_enter Try.func12, Try.ntmps12
  go_upto_region 1 with (with_reducible apply alA tSec)
  generalize hw1 : World.alloc (World.alloc w _) _ = w1
  have b2 : Blk w1 (w.heap.size + 1) 28 (ar 64 fun _ => 0) := by rw [← hw1]; exact Blk.top rfl (by simp)
  have hb : Below w.heap.size w w1 := by rw [← hw1]; exact ((Below.refl _ _).alloc (Nat.le_refl _) _).alloc (by simp) _
  have hm1 := hid (show Emp w1 g from Blk.below HM.out hb hg)
  clear hw1 HM
  go_wp2_with fail
  refine (made_emp g w1 hm1.out).mono ?_
  rintro e w' ⟨rfl, rfl⟩
  go_wp2_with (first | (with_reducible apply bld_zs) | ((with_reducible apply stA tSec); rfl; rfl; exact b2))
  apply ret_ar tSec Try.results12
  · rfl
  · rfl
  · exact b2.setRow_same _
  exact ⟨rfl, below_setRow hb (by omega) _⟩
end XtP
end Go.Proofs.Ytfnepbkgmopjcaa
