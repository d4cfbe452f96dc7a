/-
  The law AesApart.
-/
import Derived.Test.YtbgpboplpdljoaaAesCl
namespace Go.Proofs.Ytbgpboplpdljoaa
open Go.ChangeShapes Go.WideShapes Go.ChangeAt Go.RowKit
open AesM (Bt ls Q16)
attribute [local go_sem] Gives GivesE
namespace AesP
set_option maxHeartbeats 800000 in
set_option maxRecDepth 100000 in
theorem apart_law (k f g : Nat → Nat) (hk : Bt k) (hf : Bt f) (hg : Bt g) (W : World) :
    Calls Try.prog 7 #[.agg (ar 32 k), .agg (ar 16 f), .agg (ar 16 g)] W fun e w' => e = .returned (.bool true) ∧ Below W.heap.size W w' := by
  have HK := hid hk
  have HF := hid hf
  have HG := hid hg
  have HKK := hid (AesM.ks_bt hk)
  clear hk hf hg
  go_enter Try.func7, Try.ntmps7
  go_upto_region 1 with fail
  generalize hw1 : World.alloc (World.alloc (World.alloc W _) _) _ = w1
  have b0 := hid (show Blk w1 W.heap.size 23 (ar 32 k) by rw [← hw1]; exact ((Blk.new _ _ _).alloc _).alloc _)
  have b1 := hid (show Blk w1 (W.heap.size + 1) 24 (ar 16 f) by rw [← hw1]; exact (Blk.top rfl (by simp)).alloc _)
  have b2 := hid (show Blk w1 (W.heap.size + 2) 24 (ar 16 g) by rw [← hw1]; exact Blk.top rfl (by simp))
  have hb := hid (show Below W.heap.size W w1 by rw [← hw1]; exact (((Below.refl _ _).alloc (Nat.le_refl _) _).alloc (by simp) _).alloc (by simp; omega) _)
  clear hw1
  go_wp2_with ((with_reducible apply ldA tKey); rfl; exact b0.out)
  refine (new_any k HK.out w1).mono ?_
  rintro e w2 ⟨c, rfl, hc1, hc2, h2⟩
  have d1 := hid (b1.out.below h2 b1.out.lt)
  have d2 := hid (b2.out.below h2 b2.out.lt)
  have n1 : W.heap.size + 1 ∉ [c] := by have := b2.out.lt; simp; omega
  have n2 : W.heap.size + 2 ∉ [c] := by have := b2.out.lt; simp; omega
  have hcl : Cl W w2 [c] (AesM.ks k) w2 := Cl.start (fun g hg => by rw [List.mem_singleton] at hg; subst hg; exact ⟨⟨_, hc2⟩, Nat.le_trans hb.out.size hc1⟩) (hb.out.trans (h2.mono hb.out.size))
  have HCL := hid hcl
  have mc : c ∈ [c] := List.mem_singleton.2 rfl
  clear b0 b1 b2 hb hc1 hc2 h2 hcl
  go_wp2_with fail
  obtain ⟨eq, heq⟩ : ∃ eq, eqA 16 f g = eq := ⟨_, rfl⟩
  have HEQ := hid heq
  clear heq
  refine wp_region_tail (C := Cl W w2 [c] (AesM.ks k)) 28 (by kernel_rfl) (by kernel_rfl) (by kernel_rfl) HCL.out.drew ?_
  simp only [List.take_succ_cons, List.take_zero, List.drop_succ_cons, List.drop_zero]
  apply wpK_val
  · rfl
  · intro w' hw'
    go_simp
    first | exact rfl | exact ⟨rfl, hw'⟩
  simp only [Act.put, List.setIfInBounds_toArray, List.set_cons_succ, List.set_cons_zero]
  apply kldA tBk
  · rfl
  · rfl
  · exact fun w' hw' => (hw'.blk d1.out n1).head
  simp only [Act.put, List.setIfInBounds_toArray, List.set_cons_succ, List.set_cons_zero]
  apply wpK_val
  · rfl
  · intro w' hw'
    go_simp
    exact hw'.sealing mc HKK.out HF.out
  simp only [Act.put, List.setIfInBounds_toArray, List.set_cons_succ, List.set_cons_zero]
  apply wpK_val
  · rfl
  · intro w' hw'
    go_simp
    first | exact rfl | exact ⟨rfl, hw'⟩
  simp only [Act.put, List.setIfInBounds_toArray, List.set_cons_succ, List.set_cons_zero]
  apply kldA tBk
  · rfl
  · rfl
  · exact fun w' hw' => (hw'.blk d2.out n2).head
  simp only [Act.put, List.setIfInBounds_toArray, List.set_cons_succ, List.set_cons_zero]
  apply wpK_val
  · rfl
  · intro w' hw'
    go_simp
    exact hw'.sealing mc HKK.out HG.out
  simp only [Act.put, List.setIfInBounds_toArray, List.set_cons_succ, List.set_cons_zero]
  apply keqA eq
  · rfl
  · rfl
  · rfl
  · exact (eqA_seal HKK.out HF.out HG.out).trans HEQ.out
  simp only [Act.put, List.setIfInBounds_toArray, List.set_cons_succ, List.set_cons_zero]
  apply kldA tBk
  · rfl
  · rfl
  · exact fun w' hw' => (hw'.blk d1.out n1).head
  simp only [Act.put, List.setIfInBounds_toArray, List.set_cons_succ, List.set_cons_zero]
  apply kldA tBk
  · rfl
  · rfl
  · exact fun w' hw' => (hw'.blk d2.out n2).head
  simp only [Act.put, List.setIfInBounds_toArray, List.set_cons_succ, List.set_cons_zero]
  apply keqA eq
  · rfl
  · rfl
  · rfl
  · exact HEQ.out
  simp only [Act.put, List.setIfInBounds_toArray, List.set_cons_succ, List.set_cons_zero]
  apply wpK_val
  · rfl
  · intro w' hw'
    go_simp
    first | exact rfl | exact ⟨rfl, hw'⟩
  simp only [Act.put, List.setIfInBounds_toArray, List.set_cons_succ, List.set_cons_zero]
  apply wpK_val
  · rfl
  · intro w' hw'
    go_simp
    first | exact rfl | exact ⟨rfl, hw'⟩
  simp only [Act.put, List.setIfInBounds_toArray, List.set_cons_succ, List.set_cons_zero]
  apply wpK_val
  · rfl
  · intro w' hw'
    go_simp
    first | exact rfl | exact ⟨rfl, hw'⟩
  simp only [Act.put, List.setIfInBounds_toArray, List.set_cons_succ, List.set_cons_zero]
  apply kldA tBk
  · rfl
  · rfl
  · exact fun w' hw' => (hw'.blk d1.out n1).head
  simp only [Act.put, List.setIfInBounds_toArray, List.set_cons_succ, List.set_cons_zero]
  apply wpK_val
  · rfl
  · intro w' hw'
    go_simp
    exact hw'.open' mc HKK.out HF.out
  simp only [Act.put, List.setIfInBounds_toArray, List.set_cons_succ, List.set_cons_zero]
  apply wpK_val
  · rfl
  · intro w' hw'
    go_simp
    first | exact rfl | exact ⟨rfl, hw'⟩
  simp only [Act.put, List.setIfInBounds_toArray, List.set_cons_succ, List.set_cons_zero]
  apply kldA tBk
  · rfl
  · rfl
  · exact fun w' hw' => (hw'.blk d2.out n2).head
  simp only [Act.put, List.setIfInBounds_toArray, List.set_cons_succ, List.set_cons_zero]
  apply wpK_val
  · rfl
  · intro w' hw'
    go_simp
    exact hw'.open' mc HKK.out HG.out
  simp only [Act.put, List.setIfInBounds_toArray, List.set_cons_succ, List.set_cons_zero]
  apply keqA eq
  · rfl
  · rfl
  · rfl
  · exact (eqA_open HKK.out HF.out HG.out).trans HEQ.out
  simp only [Act.put, List.setIfInBounds_toArray, List.set_cons_succ, List.set_cons_zero]
  apply kldA tBk
  · rfl
  · rfl
  · exact fun w' hw' => (hw'.blk d1.out n1).head
  simp only [Act.put, List.setIfInBounds_toArray, List.set_cons_succ, List.set_cons_zero]
  apply kldA tBk
  · rfl
  · rfl
  · exact fun w' hw' => (hw'.blk d2.out n2).head
  simp only [Act.put, List.setIfInBounds_toArray, List.set_cons_succ, List.set_cons_zero]
  apply keqA eq
  · rfl
  · rfl
  · rfl
  · exact HEQ.out
  simp only [Act.put, List.setIfInBounds_toArray, List.set_cons_succ, List.set_cons_zero]
  apply wpK_val
  · rfl
  · intro w' hw'
    go_simp
    first | exact rfl | exact ⟨rfl, hw'⟩
  simp only [Act.put, List.setIfInBounds_toArray, List.set_cons_succ, List.set_cons_zero]
  apply wpK_val
  · rfl
  · intro w' hw'
    go_simp
    first | exact rfl | exact ⟨rfl, hw'⟩
  simp only [Act.put, List.setIfInBounds_toArray, List.set_cons_succ, List.set_cons_zero]
  apply wpK_val
  · rfl
  · intro w' hw'
    go_simp
    first | exact rfl | exact ⟨rfl, hw'⟩
  simp only [Act.put, List.setIfInBounds_toArray, List.set_cons_succ, List.set_cons_zero]
  apply wpK_val
  · rfl
  · intro w' hw'
    go_simp
    exact hw'.awake
  simp only [Act.put, List.setIfInBounds_toArray, List.set_cons_succ, List.set_cons_zero]
  apply wpK_val
  · rfl
  · intro w' hw'
    go_simp
    first | exact rfl | exact ⟨rfl, hw'⟩
  simp only [Act.put, List.setIfInBounds_toArray, List.set_cons_succ, List.set_cons_zero]
  apply wpK_val
  · rfl
  · intro w' hw'
    go_simp
    first | exact rfl | exact ⟨rfl, hw'⟩
  simp only [Act.put, List.setIfInBounds_toArray, List.set_cons_succ, List.set_cons_zero]
  refine wpK_nil fun w5 hw5 => ?_
  have rb := hw5.2.2.1
  clear d1 d2 HCL hw5
  go_wp2_with fail
  go_ret
  exact ⟨rfl, rb⟩
end AesP
end Go.Proofs.Ytbgpboplpdljoaa
