/-
  The contract of casematelaw02.works.
-/
import Derived.Test.YteoccdcebgcdmaaParOf
namespace Go.Proofs.Yteoccdcebgcdmaa
open Go.ChangeShapes Go.WideShapes Go.ChangeAt Go.RowKit
attribute [local go_sem] Gives eqg_sec
attribute [local go_sem high] run_eql_sec run_neq_sec
theorem secs_Secs {w : World} {g n B : Nat} {t : TypeId} {F : Nat → Nat → Nat} (hb : Blk w g t (secs n F)) (hB : g < B) : Secs w B (some ⟨g, 0, none⟩) n F :=
  fun _ => ⟨g, 0, rfl, hB, fun i hi => range_secs hb hi⟩
def two : Nat → Nat → Nat := fun i => [fun _ => 1, fun _ => 2].getD i fun _ => 0
theorem two_lt : ∀ i k, two i k < 256
  | 0, _ => (by decide : 1 < 256)
  | 1, _ => (by decide : 2 < 256)
  | _ + 2, _ => (by decide : 0 < 256)
theorem two_P : ∀ k, k < 64 → PP two 2 k = (fun _ => 3) k := fun k _ => by simp [PP, two]
theorem two_Q : ∀ k, k < 64 → QQ two 2 k = (fun _ => 5) k := fun k _ => by
  show (0 ^^^ GfM.mul (GfM.pw 0) 1) ^^^ GfM.mul (GfM.pw 1) 2 = 5
  decide +kernel
set_option maxRecDepth 100000 in
theorem works_any (w : World) :
    Calls Try.prog 16 #[] w fun e w' => e = .returned (.bool true) ∧ Below w.heap.size w w' := by
  go_enter Try.func16, Try.ntmps16
  go_wp2_with fail
  refine (filled_any 1 _).mono ?_
  rintro e w1 ⟨rfl, hb1⟩
  go_wp2_with fail
  refine (filled_any 2 _).mono ?_
  rintro e w2 ⟨rfl, hb2⟩
  go_wp2_with ((with_reducible apply wlit two [fun _ => 1, fun _ => 2]); rfl; rfl; decide; decide; rfl)
  generalize hw3 : World.alloc w2 _ = w3
  have bb : Blk w3 w2.heap.size 25 (secs 2 two) := by rw [← hw3]; exact Blk.top rfl rfl
  have hb : Below w.heap.size w w3 := by rw [← hw3]; exact (hb1.trans (hb2.mono hb1.size)).alloc (Nat.le_trans hb1.size hb2.size) _
  clear hw3
  refine (of_some _ 2 2 two two_lt (by omega) (by omega) w3 (secs_Secs bb bb.lt)).mono ?_
  rintro e w4 ⟨rfl, hb'⟩
  have hb4 := hb.trans (hb'.mono hb.size)
  clear hb' bb hb hb1 hb2
  rw [sec_ext two_P, sec_ext two_Q]
  go_wp2_with (first | ((with_reducible apply stx); rfl; rfl; exact (Blk.top zlit rfl).alloc _) | ((with_reducible apply stx); rfl; rfl; exact (Blk.top zlit (by simp)).setRow_other (by omega) _))
  generalize hw5 : World.setRow (World.setRow (World.alloc (World.alloc w4 _) _) _ _) _ _ = w5
  have p1 : Blk w5 w4.heap.size 25 (sec fun _ => 3) := by rw [← hw5]; exact (((Blk.top zlit rfl).alloc _).setRow_same _).setRow_other (by omega) _
  have p2 : Blk w5 (w4.heap.size + 1) 25 (sec fun _ => 5) := by rw [← hw5]; exact ((Blk.top zlit (by simp)).setRow_other (by omega) _).setRow_same _
  have hb : Below w.heap.size w w5 := by rw [← hw5]; exact below_setRow (below_setRow ((hb4.alloc hb4.size _).alloc (by have := hb4.size; simp; omega) _) hb4.size _) (by have := hb4.size; omega) _
  clear hw5 hb4
  have e3 := eqS_yes (f := fun _ => 3) (g := fun _ => 3) fun _ _ => rfl
  have e5 := eqS_yes (f := fun _ => 5) (g := fun _ => 5) fun _ _ => rfl
  go_wp2_with fail
  refine wp_region_tail (C := fun w' => Below w5.heap.size w5 w') 13 (by kernel_rfl) (by kernel_rfl) (by kernel_rfl) (Below.refl _ _).drew ?_
  simp only [List.take_succ_cons, List.take_zero, List.drop_succ_cons, List.drop_zero]
  apply wpK_val
  · rfl
  · intro w' hw'
    go_simp
    first | exact rfl | exact ⟨rfl, hw'⟩
  simp only [Act.put, List.setIfInBounds_toArray, List.set_cons_succ, List.set_cons_zero]
  apply wpK_val
  · rfl
  · intro w' hw'
    go_simp
    first | exact rfl | exact ⟨rfl, hw'⟩
  simp only [Act.put, List.setIfInBounds_toArray, List.set_cons_succ, List.set_cons_zero]
  apply wpK_val
  · rfl
  · intro w' hw'
    go_simp
    first | exact rfl | exact ⟨rfl, hw'⟩
  simp only [Act.put, List.setIfInBounds_toArray, List.set_cons_succ, List.set_cons_zero]
  apply kld
  · rfl
  · rfl
  · exact fun w' hw' => p1.below hw' p1.lt
  simp only [Act.put, List.setIfInBounds_toArray, List.set_cons_succ, List.set_cons_zero]
  apply wpK_val
  · rfl
  · intro w' hw'
    go_simp
    exact (filled_any 3 _).mono fun e w'' ⟨he, hb'⟩ => ⟨he, hw'.trans (hb'.mono hw'.size)⟩
  simp only [Act.put, List.setIfInBounds_toArray, List.set_cons_succ, List.set_cons_zero]
  apply wpK_val
  · rfl
  · intro w' hw'
    go_simp
    first | exact rfl | exact ⟨rfl, hw'⟩
  simp only [Act.put, List.setIfInBounds_toArray, List.set_cons_succ, List.set_cons_zero]
  apply wpK_val
  · rfl
  · intro w' hw'
    go_simp
    first | exact rfl | exact ⟨rfl, hw'⟩
  simp only [Act.put, List.setIfInBounds_toArray, List.set_cons_succ, List.set_cons_zero]
  apply wpK_val
  · rfl
  · intro w' hw'
    go_simp
    first | exact rfl | exact ⟨rfl, hw'⟩
  simp only [Act.put, List.setIfInBounds_toArray, List.set_cons_succ, List.set_cons_zero]
  apply kld
  · rfl
  · rfl
  · exact fun w' hw' => p2.below hw' p2.lt
  simp only [Act.put, List.setIfInBounds_toArray, List.set_cons_succ, List.set_cons_zero]
  apply wpK_val
  · rfl
  · intro w' hw'
    go_simp
    exact (filled_any 5 _).mono fun e w'' ⟨he, hb'⟩ => ⟨he, hw'.trans (hb'.mono hw'.size)⟩
  simp only [Act.put, List.setIfInBounds_toArray, List.set_cons_succ, List.set_cons_zero]
  apply wpK_val
  · rfl
  · intro w' hw'
    go_simp
    first | exact rfl | exact ⟨rfl, hw'⟩
  simp only [Act.put, List.setIfInBounds_toArray, List.set_cons_succ, List.set_cons_zero]
  apply wpK_val
  · rfl
  · intro w' hw'
    go_simp
    first | exact rfl | exact ⟨rfl, hw'⟩
  simp only [Act.put, List.setIfInBounds_toArray, List.set_cons_succ, List.set_cons_zero]
  apply wpK_val
  · rfl
  · intro w' hw'
    go_simp
    first | exact rfl | exact ⟨rfl, hw'⟩
  simp only [Act.put, List.setIfInBounds_toArray, List.set_cons_succ, List.set_cons_zero]
  refine wpK_nil fun w6 hw6 => ?_
  go_wp2_with fail
  go_ret
  exact ⟨rfl, hb.trans (hw6.mono hb.size)⟩
end Go.Proofs.Yteoccdcebgcdmaa
