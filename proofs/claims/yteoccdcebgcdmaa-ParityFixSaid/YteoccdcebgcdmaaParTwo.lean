/-
  The contract of parity.twoUnknowns.
-/
import Derived.Test.YteoccdcebgcdmaaParClos
namespace Go.Proofs.Yteoccdcebgcdmaa
open Go.ChangeShapes Go.WideShapes Go.ChangeAt Go.RowKit
attribute [local go_sem] Gives
def twoX (i j : Nat) (s q : Nat → Nat) : Nat → Nat := fun k => GfM.mul (GfM.inv (GfM.pw i ^^^ GfM.pw j)) (q k ^^^ GfM.mul (GfM.pw j) (s k))
def twoY (i j : Nat) (s q : Nat → Nat) : Nat → Nat := fun k => s k ^^^ twoX i j s q k
theorem pw_apart {i j : Nat} (hi : i < 255) (hj : j < 255) (h : i ≠ j) : GfM.pw i ^^^ GfM.pw j ≠ 0 := fun e => h (GfM.pw_inj hi hj (GfM.xor_eq_zero e))
set_option maxRecDepth 100000 in
theorem two_any (i j : Nat) (s q : Nat → Nat) (hi : i < 64) (hj : j < 64) (hij : i ≠ j) (hs : ∀ k, s k < 256) (hq : ∀ k, q k < 256) (w : World) :
    Calls Try.prog 45 #[.int .i64 i, .int .i64 j, .agg (sec s), .agg (sec q)] w fun e w' => e = .returned (.tuple #[.agg (sec (twoX i j s q)), .agg (sec (twoY i j s q))]) ∧ Below w.heap.size w w' := by
  have HS := hid hs
  have HQ := hid hq
  clear hs hq
  have hx := GfM.xor_lt (pwI_lt i) (pwI_lt j)
  have hne : pwI i ^^^ pwI j ≠ 0 := by rw [pwI_nat, pwI_nat]; exact pw_apart (by omega) (by omega) hij
  have HE : RowKit.Hid (pwI i = GfM.pw i ∧ pwI j = GfM.pw j) := hid ⟨pwI_nat i, pwI_nat j⟩
  have hl := GfM.inv_lt (pwI i ^^^ pwI j)
  go_enter Try.func45, Try.ntmps45
  go_wp2_with fail
  generalize hw3 : World.alloc (World.alloc (World.alloc (World.alloc w _) _) _) _ = w3
  have b1 : Blk w3 w.heap.size 25 (sec s) := by rw [← hw3]; exact (((Blk.top rfl rfl).alloc _).alloc _).alloc _
  have b2 : Blk w3 (w.heap.size + 1) 25 (sec q) := by rw [← hw3]; exact ((Blk.top rfl (by simp)).alloc _).alloc _
  have b3 : Blk w3 (w.heap.size + 1 + 1) 25 (sec fun _ => 0) := by rw [← hw3]; exact (Blk.top zlit (by simp)).alloc _
  have b4 : Blk w3 (w.heap.size + 1 + 1 + 1) 25 (sec fun _ => 0) := by rw [← hw3]; exact Blk.top zlit (by simp)
  have hb : Below w.heap.size w w3 := by rw [← hw3]; exact ((((Below.refl _ _).alloc (Nat.le_refl _) _).alloc (by simp) _).alloc (by simp; omega) _).alloc (by simp; omega) _
  clear hw3
  refine (pow_any _ _).mono ?_
  rintro e w' ⟨rfl, rfl⟩
  go_wp2_with fail
  refine (pow_any _ _).mono ?_
  rintro e w' ⟨rfl, rfl⟩
  go_wp2_with fail
  rw [u8_xor_nat _ _ (pwI_lt i) (pwI_lt j)]
  refine (inv_any _ hx hne _).mono ?_
  rintro e w' ⟨rfl, rfl⟩
  go_wp2_with fail
  refine wp_region_tail (C := fun w' => Below w3.heap.size w3 w') 8 (by kernel_rfl) (by kernel_rfl) (by kernel_rfl) (Below.refl _ _).drew ?_
  simp only [List.take_succ_cons, List.take_zero, List.drop_succ_cons, List.drop_zero]
  apply wpK_val
  · rfl
  · intro w' hw'
    go_simp
    first | exact rfl | exact ⟨rfl, hw'⟩
  simp only [Act.put, List.setIfInBounds_toArray, List.set_cons_succ, List.set_cons_zero]
  apply kld
  · rfl
  · rfl
  · exact fun w' hw' => b2.below hw' b2.lt
  simp only [Act.put, List.setIfInBounds_toArray, List.set_cons_succ, List.set_cons_zero]
  apply wpK_val
  · rfl
  · intro w' hw'
    go_simp
    first | exact rfl | exact ⟨rfl, hw'⟩
  simp only [Act.put, List.setIfInBounds_toArray, List.set_cons_succ, List.set_cons_zero]
  apply wpK_val
  · rfl
  · intro w' hw'
    go_simp
    exact (pow_any _ _).mono fun e w'' ⟨he, hb'⟩ => ⟨he, by subst hb'; exact hw'⟩
  simp only [Act.put, List.setIfInBounds_toArray, List.set_cons_succ, List.set_cons_zero]
  apply kld
  · rfl
  · rfl
  · exact fun w' hw' => b1.below hw' b1.lt
  simp only [Act.put, List.setIfInBounds_toArray, List.set_cons_succ, List.set_cons_zero]
  apply wpK_val
  · rfl
  · intro w' hw'
    go_simp
    exact (scale_any _ _ (pwI_lt _) HS.out _).mono fun e w'' ⟨he, hb'⟩ => ⟨he, hw'.trans (hb'.mono hw'.size)⟩
  simp only [Act.put, List.setIfInBounds_toArray, List.set_cons_succ, List.set_cons_zero]
  apply wpK_val
  · rfl
  · intro w' hw'
    go_simp
    exact (add_any _ _ HQ.out (fun _ => GfM.mul_lt (pwI_lt _)) _).mono fun e w'' ⟨he, hb'⟩ => ⟨he, hw'.trans (hb'.mono hw'.size)⟩
  simp only [Act.put, List.setIfInBounds_toArray, List.set_cons_succ, List.set_cons_zero]
  apply wpK_val
  · rfl
  · intro w' hw'
    go_simp
    exact (scale_any _ _ hl (fun k => GfM.xor_lt (HQ.out k) (GfM.mul_lt (pwI_lt _))) _).mono fun e w'' ⟨he, hb'⟩ => ⟨he, hw'.trans (hb'.mono hw'.size)⟩
  simp only [Act.put, List.setIfInBounds_toArray, List.set_cons_succ, List.set_cons_zero]
  refine wpK_nil fun w4 hw4 => ?_
  have c1 := b1.below hw4 b1.lt
  have c3 := b3.below hw4 b3.lt
  have c4 := b4.below hw4 b4.lt
  have hb4 := hb.trans (hw4.mono hb.size)
  have e1 : (fun k => GfM.mul (GfM.inv (pwI i ^^^ pwI j)) (q k ^^^ GfM.mul (pwI j) (s k))) = twoX i j s q := by funext k; unfold twoX; rw [HE.out.1, HE.out.2]
  rw [e1]
  have HX : RowKit.Hid (∀ k, twoX i j s q k < 256) := hid fun k => GfM.mul_lt (GfM.inv_lt _)
  clear b1 b2 b3 b4 hb hw4 e1 hx hne hl
  go_wp2_with ((with_reducible apply stx); rfl; rfl; assumption)
  generalize hw5 : World.setRow w4 _ _ = w5
  have d1 : Blk w5 w.heap.size 25 (sec s) := by rw [← hw5]; exact c1.setRow_other (by omega) _
  have d3 : Blk w5 (w.heap.size + 1 + 1) 25 (sec (twoX i j s q)) := by rw [← hw5]; exact c3.setRow_same _
  have d4 : Blk w5 (w.heap.size + 1 + 1 + 1) 25 (sec fun _ => 0) := by rw [← hw5]; exact c4.setRow_other (by omega) _
  have hd : Below w.heap.size w w5 := by rw [← hw5]; exact below_setRow hb4 (by omega) _
  clear hw5 c1 c3 c4 hb4
  refine wp_region_tail (C := fun w' => Below w5.heap.size w5 w') 5 (by kernel_rfl) (by kernel_rfl) (by kernel_rfl) (Below.refl _ _).drew ?_
  simp only [List.take_succ_cons, List.take_zero, List.drop_succ_cons, List.drop_zero]
  apply kld
  · rfl
  · rfl
  · exact fun w' hw' => d3.below hw' d3.lt
  simp only [Act.put, List.setIfInBounds_toArray, List.set_cons_succ, List.set_cons_zero]
  apply kld
  · rfl
  · rfl
  · exact fun w' hw' => d1.below hw' d1.lt
  simp only [Act.put, List.setIfInBounds_toArray, List.set_cons_succ, List.set_cons_zero]
  apply kld
  · rfl
  · rfl
  · exact fun w' hw' => d3.below hw' d3.lt
  simp only [Act.put, List.setIfInBounds_toArray, List.set_cons_succ, List.set_cons_zero]
  apply wpK_val
  · rfl
  · intro w' hw'
    go_simp
    exact (add_any _ _ HS.out HX.out _).mono fun e w'' ⟨he, hb'⟩ => ⟨he, hw'.trans (hb'.mono hw'.size)⟩
  simp only [Act.put, List.setIfInBounds_toArray, List.set_cons_succ, List.set_cons_zero]
  apply kst_id
  · rfl
  · rfl
  · rfl
  · exact fun w' hw' => d3.below hw' d3.lt
  simp only [Act.put]
  refine wpK_nil fun w6 hw6 => ?_
  have c3 := d3.below hw6 d3.lt
  have c4 := d4.below hw6 d4.lt
  have hc := hd.trans (hw6.mono hd.size)
  clear d1 d3 d4 hd hw6
  go_wp2_with ((with_reducible apply stx); rfl; rfl; assumption)
  apply ret_sec2 Try.results45
  · rfl
  · rfl
  · rfl
  · exact c3.setRow_other (by omega) _
  · exact c4.setRow_same _
  exact ⟨rfl, below_setRow hc (by omega) _⟩
end Go.Proofs.Yteoccdcebgcdmaa
