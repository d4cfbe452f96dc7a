/-
  Contract of aes.New.
-/
import Derived.Test.YtfnepbkgmopjcaaAesC
namespace Go.Proofs.Ytfnepbkgmopjcaa
open Go.ChangeShapes Go.WideShapes Go.ChangeAt Go.RowKit
open AesM (Bt)
attribute [local go_sem] Gives
namespace AesP
set_option maxHeartbeats 400000 in
set_option maxRecDepth 100000 in
theorem new_any (k : Nat → Nat) (hk : Bt k) (w : World) :
    Calls Try.prog 17 #[.agg (ar 32 k)] w fun e w' => ∃ g, e = .returned (.pointer (some ⟨g, 0, none⟩)) ∧ w.heap.size ≤ g ∧ Cip w' g (AesM.ks k) false ∧ Below w.heap.size w w' := by
  have HK := hid hk
  clear hk
  go_enter Try.func17, Try.ntmps17
  go_wp2_with fail
  generalize hw1 : World.alloc w _ = w1
  have b1 : Blk w1 w.heap.size 23 (ar 32 k) := by rw [← hw1]; exact Blk.new _ _ _
  have hb : Below w.heap.size w w1 := by rw [← hw1]; exact (Below.refl _ _).alloc (Nat.le_refl _) _
  clear hw1
  refine (box_any _).mono ?_
  rintro e w2 ⟨rfl, h2⟩
  have d1 := b1.below h2 b1.lt
  have hb2 := hb.trans (h2.mono hb.size)
  clear b1 hb h2
  have hg1 : w.heap.size < w2.heap.size := d1.lt
  have hz : Blk (w2.alloc (.cells (cip true (fun _ => 0) AesM.boxF (fun _ => 0) 0) 74)) w2.heap.size 74 (cip true (fun _ => 0) AesM.boxF (fun _ => 0) 0) := Blk.new _ _ _
  obtain ⟨g, hg⟩ : ∃ g, g = w2.heap.size := ⟨_, rfl⟩
  go_upto_region 2 with ((with_reducible apply bldC); rfl; rfl)
  rw [← hg] at hz hg1 ⊢
  generalize hw3 : World.alloc w2 _ = w3 at hz ⊢
  have D1 := hid (show Blk w3 w.heap.size 23 (ar 32 k) by rw [← hw3]; exact d1.alloc _)
  have DB := hid (show Below w.heap.size w w3 by rw [← hw3]; exact hb2.alloc (by omega) _)
  have DZ := hid hz
  have HG := hid hg1
  have hg3 : g < w3.heap.size := hz.lt
  clear hw3 hz d1 hb2 hg hg1
  refine wp_region_tail (C := fun w' => Below w3.heap.size w3 w') 8 (by kernel_rfl) (by kernel_rfl) (by kernel_rfl) (Below.refl _ _).drew ?_
  simp only [List.take_succ_cons, List.take_zero, List.drop_succ_cons, List.drop_zero]
  apply wpK_val
  · rfl
  · intro w' hw'
    go_simp
    first | exact rfl | exact ⟨rfl, hw'⟩
  simp only [Act.put, List.setIfInBounds_toArray, List.set_cons_succ, List.set_cons_zero]
  apply kldA tKey
  · rfl
  · rfl
  · exact fun w' hw' => (D1.out.below hw' D1.out.lt).head
  simp only [Act.put, List.setIfInBounds_toArray, List.set_cons_succ, List.set_cons_zero]
  apply wpK_val
  · rfl
  · intro w' hw'
    go_simp
    first | exact rfl | exact ⟨rfl, hw'⟩
  simp only [Act.put, List.setIfInBounds_toArray, List.set_cons_succ, List.set_cons_zero]
  apply wpK_val
  · rfl
  · intro w' hw'
    go_simp
    first | exact rfl | exact ⟨rfl, hw'⟩
  simp only [Act.put, List.setIfInBounds_toArray, List.set_cons_succ, List.set_cons_zero]
  apply wpK_val
  · rfl
  · intro w' hw'
    go_simp
    first | exact rfl | exact ⟨rfl, hw'⟩
  simp only [Act.put, List.setIfInBounds_toArray, List.set_cons_succ, List.set_cons_zero]
  apply wpK_val
  · rfl
  · intro w' hw'
    go_simp
    exact (keys_any k AesM.boxF HK.out AesM.boxF_lt g 241 w' (Nat.lt_of_lt_of_le hg3 hw'.size) (range_below (cip_box DZ.out) hw' hg3)).mono fun e w2 h => ⟨h.1, hw'.trans (h.2.mono hw'.size)⟩
  simp only [Act.put, List.setIfInBounds_toArray, List.set_cons_succ, List.set_cons_zero]
  apply wpK_val
  · rfl
  · intro w' hw'
    go_simp
    first | exact rfl | exact ⟨rfl, hw'⟩
  simp only [Act.put, List.setIfInBounds_toArray, List.set_cons_succ, List.set_cons_zero]
  apply wpK_val
  · rfl
  · intro w' hw'
    go_simp
    first | exact rfl | exact ⟨rfl, hw'⟩
  simp only [Act.put, List.setIfInBounds_toArray, List.set_cons_succ, List.set_cons_zero]
  refine wpK_nil fun w5 hw5 => ?_
  have r := DZ.out.below hw5 hg3
  have rb := DB.out.trans (hw5.mono DB.out.size)
  clear D1 DB DZ hw5
  go_wp2_with ((with_reducible apply stC tKs); rfl; rfl; exact r; omega)
  obtain ⟨x1, xb⟩ := cip_setK r (AesM.W AesM.boxF k)
  have e : cip true (AesM.W AesM.boxF k) AesM.boxF (fun _ => 0) 0 = cip true (AesM.ks k) AesM.boxF (fun _ => 0) 0 := row_ext fun j _ => by
    unfold cipC
    by_cases h0 : j = 0
    · rw [if_pos h0, if_pos h0]
    · rw [if_neg h0, if_neg h0]
      by_cases h1 : j < 241
      · rw [if_pos h1, if_pos h1]
        unfold AesM.ks
        rw [if_pos (by omega)]
      · rw [if_neg h1, if_neg h1]
  rw [e] at x1
  have h9 := HG.out
  have hb9 := rb.trans (xb.mono (by omega))
  generalize World.setCells _ _ _ _ = w9 at x1 hb9 ⊢
  go_ret
  exact ⟨g, rfl, by omega, x1, hb9⟩
end AesP
end Go.Proofs.Ytfnepbkgmopjcaa
