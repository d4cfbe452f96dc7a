/-
  The walk of HmacSame.
-/
import Derived.Test.YtfgmgfniolmpkaaDoorHSame
namespace Go.Proofs.YtfgmgfniolmpkaaDoor
open Go.ChangeShapes Go.WideShapes Go.ChangeAt Go.RowKit
attribute [local go_sem] Gives
/-- Nothing happened, or an order was drawn. -/
def Dre (w w' : World) : Prop := Drew w w' ∨ w' = w
section
variable {w w' w'' : World}
theorem Dre.refl (w : World) : Dre w w := .inr rfl
theorem Dre.blk {g : Nat} {t : TypeId} {cs : Array Value} (h : Dre w w') (hb : Blk w g t cs) : Blk w' g t cs := by
  rcases h with h | h
  · exact h.blk hb
  · rw [h]; exact hb
theorem Dre.below {B : Nat} {a : World} (h : Dre w w') (hb : Below B a w) : Below B a w' := by
  rcases h with h | h
  · exact h.below hb
  · rw [h]; exact hb
theorem Dre.then (h : Dre w w') (h2 : Drew w' w'') : Dre w w'' := by
  rcases h with h | h
  · obtain ⟨a, ha⟩ := h
    obtain ⟨b, hb⟩ := h2
    exact .inl ⟨a + b, by rw [hb, ha]; simp⟩
  · rw [← h]; exact .inl h2
end
theorem eqN_succ (n : Nat) (f g : Nat → Int) : eqN (n + 1) f g = (eqN n f g && (f n == g n)) := by
  unfold eqN
  rw [List.range_succ, List.all_append]
  simp
set_option maxHeartbeats 400000 in
set_option maxRecDepth 100000 in
theorem hsame_law (f g : Nat → Nat) (hf : ∀ k, f k < 256) (hg : ∀ k, g k < 256) (w : World) (hS : Salts w) :
    Calls Tryd.prog 6 #[.agg (tag f), .agg (tag g)] w fun e w' => e = .returned (.bool true) ∧ Below w.heap.size w w' := by
  have HF := hid hf
  have HG := hid hg
  have SA := hid hS
  clear hf hg hS
  go_enter Tryd.func6, Tryd.ntmps6
  go_upto_region 3 with fail
  generalize hw3 : World.alloc (World.alloc w _) _ = w3
  have b1 : Blk w3 w.heap.size 25 (tag f) := by rw [← hw3]; exact (Blk.top rfl rfl).alloc _
  have b2 : Blk w3 (w.heap.size + 1) 25 (tag g) := by rw [← hw3]; exact Blk.top rfl (by simp)
  have hb : Below w.heap.size w w3 := by rw [← hw3]; exact ((Below.refl _ _).alloc (Nat.le_refl _) _).alloc (by simp) _
  clear hw3
  have B1 := hid b1
  have B2 := hid b2
  have BEL := hid hb
  clear b1 b2 hb
  go_loopw [5, 6] (fun u v wr => ∃ (k : Nat) (s : Bool), k ≤ 32 ∧ v = .int .i64 k ∧ u = .bool s ∧ Hid (s = eqN k (fun k => f k) fun k => g k) ∧ Hid (Dre w3 wr)) (fun _ v _ => 32 - (intOf v).toNat)
  case atStart => exact ⟨0, true, by omega, rfl, rfl, hid rfl, hid (.inr rfl)⟩
  case round =>
    obtain ⟨k, s, hk, rfl, rfl, hs, hw⟩ := hrel
    have b1 := hw.out.blk B1.out
    have b2 := hw.out.blk B2.out
    have hb := hw.out.below BEL.out
    by_cases hlt : k < 32
    · have tk : (k : Int) < 32 := by omega
      have Q1 := hid ((b1.cell k).trans (get_tag hlt))
      have Q2 := hid ((b2.cell k).trans (get_tag hlt))
      clear b1 b2 hb
      cases s with
      | true =>
        go_wp2_with fail
        refine wp_region_tail (C := Drew wr) 10 (by kernel_rfl) (by kernel_rfl) (by kernel_rfl) (Drew.refl _) ?_
        simp only [List.take_succ_cons, List.take_zero, List.drop_succ_cons, List.drop_zero]
        apply wpK_val
        · rfl
        · intro w' hw'
          go_simp
          first | exact rfl | exact ⟨rfl, hw'⟩
        simp only [Act.put, List.setIfInBounds_toArray, List.set_cons_succ, List.set_cons_zero]
        apply wpK_val
        · rfl
        · intro w' hw'
          go_simp
          first | exact rfl | exact ⟨rfl, hw'⟩
        simp only [Act.put, List.setIfInBounds_toArray, List.set_cons_succ, List.set_cons_zero]
        apply wpK_val
        · rfl
        · intro w' hw'
          go_simp
          first | exact rfl | exact ⟨rfl, hw'⟩
        simp only [Act.put, List.setIfInBounds_toArray, List.set_cons_succ, List.set_cons_zero]
        apply wpK_val
        · rfl
        · intro w' hw'
          go_simp
          first | exact rfl | exact ⟨rfl, hw'⟩
        simp only [Act.put, List.setIfInBounds_toArray, List.set_cons_succ, List.set_cons_zero]
        apply wpK_val
        · rfl
        · intro w' hw'
          have hcell := hw'.cell Q1.out
          go_simp
          first | exact rfl | exact ⟨rfl, hw'⟩
        simp only [Act.put, List.setIfInBounds_toArray, List.set_cons_succ, List.set_cons_zero]
        apply wpK_val
        · rfl
        · intro w' hw'
          go_simp
          first | exact rfl | exact ⟨rfl, hw'⟩
        simp only [Act.put, List.setIfInBounds_toArray, List.set_cons_succ, List.set_cons_zero]
        apply wpK_val
        · rfl
        · intro w' hw'
          go_simp
          first | exact rfl | exact ⟨rfl, hw'⟩
        simp only [Act.put, List.setIfInBounds_toArray, List.set_cons_succ, List.set_cons_zero]
        apply wpK_val
        · rfl
        · intro w' hw'
          have hcell := hw'.cell Q2.out
          go_simp
          first | exact rfl | exact ⟨rfl, hw'⟩
        simp only [Act.put, List.setIfInBounds_toArray, List.set_cons_succ, List.set_cons_zero]
        apply wpK_val
        · rfl
        · intro w' hw'
          go_simp
          first | exact rfl | exact ⟨rfl, hw'⟩
        simp only [Act.put, List.setIfInBounds_toArray, List.set_cons_succ, List.set_cons_zero]
        apply wpK_val
        · rfl
        · intro w' hw'
          go_simp
          first | exact rfl | exact ⟨rfl, hw'⟩
        simp only [Act.put, List.setIfInBounds_toArray, List.set_cons_succ, List.set_cons_zero]
        refine wpK_nil fun w5 hw5 => ?_
        go_wp2_with fail
        go_roundw
        case rel => exact ⟨k + 1, _, by omega, by go_num, rfl, hid (by rw [eqN_succ, ← hs.out, Bool.true_and]), hid (hw.out.then hw5)⟩
        case measure => simp [intOf]; omega
      | false =>
        go_wp2_with fail
        refine wp_region_tail (C := Drew wr) 10 (by kernel_rfl) (by kernel_rfl) (by kernel_rfl) (Drew.refl _) ?_
        simp only [List.take_succ_cons, List.take_zero, List.drop_succ_cons, List.drop_zero]
        apply wpK_val
        · rfl
        · intro w' hw'
          go_simp
          first | exact rfl | exact ⟨rfl, hw'⟩
        simp only [Act.put, List.setIfInBounds_toArray, List.set_cons_succ, List.set_cons_zero]
        apply wpK_val
        · rfl
        · intro w' hw'
          go_simp
          first | exact rfl | exact ⟨rfl, hw'⟩
        simp only [Act.put, List.setIfInBounds_toArray, List.set_cons_succ, List.set_cons_zero]
        apply wpK_not
        · rfl
        simp only [Act.put, List.setIfInBounds_toArray, List.set_cons_succ, List.set_cons_zero]
        apply wpK_not
        · rfl
        simp only [Act.put, List.setIfInBounds_toArray, List.set_cons_succ, List.set_cons_zero]
        apply wpK_not
        · rfl
        simp only [Act.put, List.setIfInBounds_toArray, List.set_cons_succ, List.set_cons_zero]
        apply wpK_not
        · rfl
        simp only [Act.put, List.setIfInBounds_toArray, List.set_cons_succ, List.set_cons_zero]
        apply wpK_not
        · rfl
        simp only [Act.put, List.setIfInBounds_toArray, List.set_cons_succ, List.set_cons_zero]
        apply wpK_not
        · rfl
        simp only [Act.put, List.setIfInBounds_toArray, List.set_cons_succ, List.set_cons_zero]
        apply wpK_not
        · rfl
        simp only [Act.put, List.setIfInBounds_toArray, List.set_cons_succ, List.set_cons_zero]
        apply wpK_val
        · rfl
        · intro w' hw'
          go_simp
          first | exact rfl | exact ⟨rfl, hw'⟩
        simp only [Act.put, List.setIfInBounds_toArray, List.set_cons_succ, List.set_cons_zero]
        refine wpK_nil fun w5 hw5 => ?_
        go_wp2_with fail
        go_roundw
        case rel => exact ⟨k + 1, _, by omega, by go_num, rfl, hid (by rw [eqN_succ, ← hs.out, Bool.false_and]), hid (hw.out.then hw5)⟩
        case measure => simp [intOf]; omega
    · have tk : decide ((k : Int) < 32) = false := by simp; omega
      obtain rfl : k = 32 := by omega
      have hsE : s = eqT f g := hs.out
      have HSE := hid hsE
      clear hsE hs
      have HB := hid hb
      clear hb
      go_wp2_with (first | ((with_reducible apply ldtg); rfl; rfl; exact b1) | ((with_reducible apply ldtg); rfl; rfl; exact b2))
      refine (same_any f g HF.out HG.out wr).mono ?_
      rintro e w4 ⟨rfl, h4⟩
      rw [← HSE.out]
      have b2' := b2.below h4 b2.lt
      have HB4 := hid (HB.out.trans (h4.mono HB.out.size))
      clear h4 b1 b2 HB
      go_wp2_with ((with_reducible apply ldtg); rfl; rfl; exact b2')
      refine (same_any g g HG.out HG.out w4).mono ?_
      rintro e w5 ⟨rfl, h5⟩
      rw [eqT_self]
      have HB5 := hid (HB4.out.trans (h5.mono HB4.out.size))
      clear h5 b2' HB4
      go_wp2_with fail
      refine (works_any w5 (SA.out.on HB5.out)).mono ?_
      rintro e w6 ⟨rfl, h6⟩
      have HB6 := hid (HB5.out.trans (h6.mono HB5.out.size))
      clear h6 HB5
      go_wp2_with fail
      go_ret
      exact ⟨rfl, HB6.out⟩
end Go.Proofs.YtfgmgfniolmpkaaDoor
