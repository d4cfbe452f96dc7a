/-
  The contracts of parity.places, parity.Right, casemateref02.Right.
-/
import Derived.Test.YteoccdcebgcdmaaRefPQ
namespace Go.Proofs.Yteoccdcebgcdmaa
open Go.ChangeShapes Go.WideShapes Go.ChangeAt Go.RowKit
attribute [local go_sem] Gives eqg_sec
attribute [local go_sem high] run_eql_sec run_neq_sec
theorem places_any (A : Option Addr) (m cap : Nat) (hn : m ≤ 1000000) (w : World) :
    Calls Try.prog 28 #[.slice A (m + 2) cap] w fun e w' => e = .returned (.tuple #[.int .i64 (m : Int), .int .i64 ((m : Int) + 1)]) ∧ w = w' := by
  go_enter Try.func28, Try.ntmps28
  go_wp2_with fail
  go_ret2
  exact ⟨by simp, rfl⟩
/-- P2.2, of less than 3 columns, or more than 64. -/
theorem right_few (A : Option Addr) (n cap : Nat) (hn : n < 3 ∨ 64 < n) (hm : n ≤ 1000000000000000) (w : World) :
    Calls Try.prog 13 #[.slice A n cap] w fun e w' => e = .returned (.bool false) ∧ w = w' := by
  rcases hn with h | h
  · go_enter Try.func13, Try.ntmps13
    go_wp2_with fail
    go_ret
    exact ⟨rfl, rfl⟩
  · have h3 : ¬ n < 3 := by omega
    go_enter Try.func13, Try.ntmps13
    go_wp2_with fail
    go_ret
    exact ⟨rfl, rfl⟩
def rightB (m : Nat) (F : Nat → Nat → Nat) : Bool := eqS (PP F m) (F m) && eqS (QQ F m) (F (m + 1))
set_option maxRecDepth 100000 in
theorem right_mid (A : Option Addr) (m cap : Nat) (F : Nat → Nat → Nat) (hF : ∀ i k, F i k < 256) (h1 : 1 ≤ m) (h2 : m ≤ 62) (hc : m + 2 ≤ cap) (w : World) (hs : Secs w w.heap.size A (m + 2) F) :
    Calls Try.prog 13 #[.slice A (m + 2) cap] w fun e w' => e = .returned (.bool (rightB m F)) ∧ Below w.heap.size w w' := by
  have HF := hid hF
  have HS := hid hs
  clear hF hs
  obtain ⟨b, o, rfl, hB, hr⟩ := HS.out (by omega)
  have HS2 : RowKit.Hid (Secs w w.heap.size (some ⟨b, o, none⟩) m F) := hid fun _ => ⟨b, o, rfl, hB, fun i hi => hr i (by omega)⟩
  have r1 := hr m (by omega)
  have r2 := hr (m + 1) (by omega)
  clear hr
  go_enter Try.func13, Try.ntmps13
  go_wp2_with fail
  refine (places_any (some ⟨b, o, none⟩) m cap (by omega) _).mono ?_
  rintro e w' ⟨rfl, rfl⟩
  go_wp2_with fail
  refine (sums_any (some ⟨b, o, none⟩) m cap F HF.out (by omega) _ HS2.out).mono ?_
  rintro e w4 ⟨rfl, hb⟩
  have hb' := hb.size
  have q1 := rangeAt_below r1 hb hB
  have q2 := rangeAt_below r2 hb hB
  clear r1 r2
  go_wp2_with (first | ((with_reducible apply stx); rfl; rfl; exact (Blk.top zlit rfl).alloc _) | ((with_reducible apply stx); rfl; rfl; exact (Blk.top zlit (by simp)).setRow_other (by omega) _))
  generalize hw5 : World.setRow (World.setRow (World.alloc (World.alloc w4 _) _) _ _) _ _ = w5
  have p1 : Blk w5 w4.heap.size 25 (sec (PP F m)) := by rw [← hw5]; exact (((Blk.top zlit rfl).alloc _).setRow_same _).setRow_other (by omega) _
  have p2 : Blk w5 (w4.heap.size + 1) 25 (sec (QQ F m)) := by rw [← hw5]; exact ((Blk.top zlit (by simp)).setRow_other (by omega) _).setRow_same _
  have hc : Below w.heap.size w4 w5 := by rw [← hw5]; exact below_setRow (below_setRow (((Below.refl _ _).alloc hb' _).alloc (by simp; omega) _) hb' _) (by omega) _
  have q1 := rangeAt_below q1 hc hB
  have q2 := rangeAt_below q2 hc hB
  have hd := hb.trans hc
  clear hw5 hc hb
  go_wp2_with fail
  have tm : (m : Int) < (m : Int) + 2 := by omega
  have tm1 : (m : Int) + 1 < (m : Int) + 2 := by omega
  cases e1 : eqS (PP F m) (F m) with
  | false =>
    have HN : RowKit.Hid (rightB m F = false) := by unfold rightB; rw [e1]; exact hid rfl
    refine wp_region_tail (C := fun w' => Below w5.heap.size w5 w') 15 (by kernel_rfl) (by kernel_rfl) (by kernel_rfl) (Below.refl _ _).drew ?_
    simp only [List.take_succ_cons, List.take_zero, List.drop_succ_cons, List.drop_zero]
    apply kld
    · rfl
    · rfl
    · exact fun w' hw' => p1.below hw' p1.lt
    simp only [Act.put, List.setIfInBounds_toArray, List.set_cons_succ, List.set_cons_zero]
    apply wpK_val
    · rfl
    · intro w' hw'
      go_simp
      first | exact rfl | exact ⟨rfl, hw'⟩
    simp only [Act.put, List.setIfInBounds_toArray, List.set_cons_succ, List.set_cons_zero]
    apply wpK_val
    · rfl
    · intro w' hw'
      go_simp
      first | exact rfl | exact ⟨rfl, hw'⟩
    simp only [Act.put, List.setIfInBounds_toArray, List.set_cons_succ, List.set_cons_zero]
    apply wpK_val
    · rfl
    · intro w' hw'
      go_simp
      first | exact rfl | exact ⟨rfl, hw'⟩
    simp only [Act.put, List.setIfInBounds_toArray, List.set_cons_succ, List.set_cons_zero]
    apply kldm
    · rfl
    · rfl
    · exact fun w' hw' => rangeAt_below q1 hw' (by have := hd.size; omega)
    simp only [Act.put, List.setIfInBounds_toArray, List.set_cons_succ, List.set_cons_zero]
    apply wpK_val
    · rfl
    · intro w' hw'
      go_simp
      first | exact rfl | exact ⟨rfl, hw'⟩
    simp only [Act.put, List.setIfInBounds_toArray, List.set_cons_succ, List.set_cons_zero]
    apply wpK_val
    · rfl
    · intro w' hw'
      go_simp
      first | exact rfl | exact ⟨rfl, hw'⟩
    simp only [Act.put, List.setIfInBounds_toArray, List.set_cons_succ, List.set_cons_zero]
    apply wpK_not
    · rfl
    simp only [Act.put, List.setIfInBounds_toArray, List.set_cons_succ, List.set_cons_zero]
    apply wpK_not
    · rfl
    simp only [Act.put, List.setIfInBounds_toArray, List.set_cons_succ, List.set_cons_zero]
    apply wpK_not
    · rfl
    simp only [Act.put, List.setIfInBounds_toArray, List.set_cons_succ, List.set_cons_zero]
    apply wpK_not
    · rfl
    simp only [Act.put, List.setIfInBounds_toArray, List.set_cons_succ, List.set_cons_zero]
    apply wpK_not
    · rfl
    simp only [Act.put, List.setIfInBounds_toArray, List.set_cons_succ, List.set_cons_zero]
    apply wpK_not
    · rfl
    simp only [Act.put, List.setIfInBounds_toArray, List.set_cons_succ, List.set_cons_zero]
    apply wpK_val
    · rfl
    · intro w' hw'
      go_simp
      first | exact rfl | exact ⟨rfl, hw'⟩
    simp only [Act.put, List.setIfInBounds_toArray, List.set_cons_succ, List.set_cons_zero]
    apply wpK_val
    · rfl
    · intro w' hw'
      go_simp
      first | exact rfl | exact ⟨rfl, hw'⟩
    simp only [Act.put, List.setIfInBounds_toArray, List.set_cons_succ, List.set_cons_zero]
    refine wpK_nil fun w6 hw6 => ?_
    go_wp2_with fail
    go_ret
    exact ⟨by rw [HN.out]; rfl, hd.trans (hw6.mono hd.size)⟩
  | true =>
    have HN : RowKit.Hid (rightB m F = eqS (QQ F m) (F (m + 1))) := by unfold rightB; rw [e1, Bool.true_and]; exact hid rfl
    refine wp_region_tail (C := fun w' => Below w5.heap.size w5 w') 15 (by kernel_rfl) (by kernel_rfl) (by kernel_rfl) (Below.refl _ _).drew ?_
    simp only [List.take_succ_cons, List.take_zero, List.drop_succ_cons, List.drop_zero]
    apply kld
    · rfl
    · rfl
    · exact fun w' hw' => p1.below hw' p1.lt
    simp only [Act.put, List.setIfInBounds_toArray, List.set_cons_succ, List.set_cons_zero]
    apply wpK_val
    · rfl
    · intro w' hw'
      go_simp
      first | exact rfl | exact ⟨rfl, hw'⟩
    simp only [Act.put, List.setIfInBounds_toArray, List.set_cons_succ, List.set_cons_zero]
    apply wpK_val
    · rfl
    · intro w' hw'
      go_simp
      first | exact rfl | exact ⟨rfl, hw'⟩
    simp only [Act.put, List.setIfInBounds_toArray, List.set_cons_succ, List.set_cons_zero]
    apply wpK_val
    · rfl
    · intro w' hw'
      go_simp
      first | exact rfl | exact ⟨rfl, hw'⟩
    simp only [Act.put, List.setIfInBounds_toArray, List.set_cons_succ, List.set_cons_zero]
    apply kldm
    · rfl
    · rfl
    · exact fun w' hw' => rangeAt_below q1 hw' (by have := hd.size; omega)
    simp only [Act.put, List.setIfInBounds_toArray, List.set_cons_succ, List.set_cons_zero]
    apply wpK_val
    · rfl
    · intro w' hw'
      go_simp
      first | exact rfl | exact ⟨rfl, hw'⟩
    simp only [Act.put, List.setIfInBounds_toArray, List.set_cons_succ, List.set_cons_zero]
    apply wpK_val
    · rfl
    · intro w' hw'
      go_simp
      first | exact rfl | exact ⟨rfl, hw'⟩
    simp only [Act.put, List.setIfInBounds_toArray, List.set_cons_succ, List.set_cons_zero]
    apply kld
    · rfl
    · rfl
    · exact fun w' hw' => p2.below hw' p2.lt
    simp only [Act.put, List.setIfInBounds_toArray, List.set_cons_succ, List.set_cons_zero]
    apply wpK_val
    · rfl
    · intro w' hw'
      go_simp
      first | exact rfl | exact ⟨rfl, hw'⟩
    simp only [Act.put, List.setIfInBounds_toArray, List.set_cons_succ, List.set_cons_zero]
    apply wpK_val
    · rfl
    · intro w' hw'
      go_simp
      first | exact rfl | exact ⟨rfl, hw'⟩
    simp only [Act.put, List.setIfInBounds_toArray, List.set_cons_succ, List.set_cons_zero]
    apply wpK_val
    · rfl
    · intro w' hw'
      go_simp
      first | exact rfl | exact ⟨rfl, hw'⟩
    simp only [Act.put, List.setIfInBounds_toArray, List.set_cons_succ, List.set_cons_zero]
    apply kldm
    · rfl
    · rfl
    · exact fun w' hw' => rangeAt_below q2 hw' (by have := hd.size; omega)
    simp only [Act.put, List.setIfInBounds_toArray, List.set_cons_succ, List.set_cons_zero]
    apply wpK_val
    · rfl
    · intro w' hw'
      go_simp
      first | exact rfl | exact ⟨rfl, hw'⟩
    simp only [Act.put, List.setIfInBounds_toArray, List.set_cons_succ, List.set_cons_zero]
    apply wpK_val
    · rfl
    · intro w' hw'
      go_simp
      first | exact rfl | exact ⟨rfl, hw'⟩
    simp only [Act.put, List.setIfInBounds_toArray, List.set_cons_succ, List.set_cons_zero]
    apply wpK_val
    · rfl
    · intro w' hw'
      go_simp
      first | exact rfl | exact ⟨rfl, hw'⟩
    simp only [Act.put, List.setIfInBounds_toArray, List.set_cons_succ, List.set_cons_zero]
    refine wpK_nil fun w6 hw6 => ?_
    go_wp2_with fail
    go_ret
    exact ⟨by rw [HN.out]; rfl, hd.trans (hw6.mono hd.size)⟩
/-- The document's answer: of less than 3 columns, or more than 64. -/
theorem rright_few (A : Option Addr) (n cap : Nat) (hn : n < 3 ∨ 64 < n) (hm : n ≤ 1000000000000000) (w : World) :
    Calls Try.prog 14 #[.slice A n cap] w fun e w' => e = .returned (.bool false) ∧ w = w' := by
  rcases hn with h | h
  · have t1 : (n : Int) - 2 < 1 := by omega
    go_enter Try.func14, Try.ntmps14
    go_wp2_with fail
    go_ret
    exact ⟨rfl, rfl⟩
  · have h3 : ¬ (n : Int) - 2 < 1 := by omega
    have h4 : 62 < (n : Int) - 2 := by omega
    go_enter Try.func14, Try.ntmps14
    go_wp2_with fail
    go_ret
    exact ⟨rfl, rfl⟩
theorem rightB_no {m k : Nat} {F : Nat → Nat → Nat} (hk : k < 64) (h : F m k ≠ PP F m k ∨ F (m + 1) k ≠ QQ F m k) : rightB m F = false := by
  unfold rightB
  rcases h with h | h
  · rw [eqS_no fun e => h (e k hk).symm]; rfl
  · rw [eqS_no (f := QQ F m) fun e => h (e k hk).symm, Bool.and_false]
theorem rightB_yes {m : Nat} {F : Nat → Nat → Nat} (h : ∀ k, k < 64 → F m k = PP F m k ∧ F (m + 1) k = QQ F m k) : rightB m F = true := by
  unfold rightB
  rw [eqS_yes fun k hk => (h k hk).1.symm, eqS_yes fun k hk => (h k hk).2.symm]; rfl
set_option maxRecDepth 100000 in
set_option maxHeartbeats 1600000 in
theorem rright_mid (A : Option Addr) (m cap : Nat) (F : Nat → Nat → Nat) (hF : ∀ i k, F i k < 256) (h1 : 1 ≤ m) (h2 : m ≤ 62) (hc : m + 2 ≤ cap) (w : World) (hs : Secs w w.heap.size A (m + 2) F) :
    Calls Try.prog 14 #[.slice A (m + 2) cap] w fun e w' => e = .returned (.bool (rightB m F)) ∧ Below w.heap.size w w' := by
  have HF := hid hF
  have HS := hid hs
  clear hF hs
  obtain ⟨b, o, rfl, hB, hr⟩ := HS.out (by omega)
  have HS2 : RowKit.Hid (Secs w w.heap.size (some ⟨b, o, none⟩) m F) := hid fun _ => ⟨b, o, rfl, hB, fun i hi => hr i (by omega)⟩
  have r1 := hr m (by omega)
  have r2 := hr (m + 1) (by omega)
  clear hr
  have t1 : ¬ (m : Int) + 2 - 2 < 1 := by omega
  go_enter Try.func14, Try.ntmps14
  go_wp2_with fail
  clear t1
  have tm : (m : Int) < (m : Int) + 2 := by omega
  have tm1 : (m : Int) + 1 < (m : Int) + 2 := by omega
  have tc : m ≤ cap := by omega
  go_loopw [4] (fun i wr => ∃ k : Nat, k ≤ 64 ∧ i = .int .i64 k ∧ Below w.heap.size w wr ∧ Hid (∀ j, j < k → F m j = PP F m j ∧ F (m + 1) j = QQ F m j)) (fun i _ => 64 - (intOf i).toNat)
  case atStart => exact ⟨0, by omega, rfl, Below.refl _ _, hid fun j hj => absurd hj (by omega)⟩
  case round =>
    obtain ⟨k, hk, rfl, hb, H⟩ := hrel
    by_cases hlt : k < 64
    · have c1 := rangeAt_cell r1 hlt
      have c2 := rangeAt_cell r2 hlt
      go_wp2_with fail
      by_cases e1 : F m k = PP F m k
      · have t1 := nat_ne_no e1
        have E1 := hid e1
        clear e1
        by_cases e2 : F (m + 1) k = QQ F m k
        · have t2 := nat_ne_no e2
          have E2 := hid e2
          clear e2
          refine wp_region_tail (C := fun w' => Below w.heap.size w w') 27 (by kernel_rfl) (by kernel_rfl) (by kernel_rfl) hb.drew ?_
          simp only [List.take_succ_cons, List.take_zero, List.drop_succ_cons, List.drop_zero]
          apply wpK_val
          · rfl
          · intro w' hw'
            go_simp
            first | exact rfl | exact ⟨rfl, hw'⟩
          simp only [Act.put, List.setIfInBounds_toArray, List.set_cons_succ, List.set_cons_zero]
          apply wpK_val
          · rfl
          · intro w' hw'
            go_simp
            first | exact rfl | exact ⟨rfl, hw'⟩
          simp only [Act.put, List.setIfInBounds_toArray, List.set_cons_succ, List.set_cons_zero]
          apply wpK_val
          · rfl
          · intro w' hw'
            go_simp
            first | exact rfl | exact ⟨rfl, hw'⟩
          simp only [Act.put, List.setIfInBounds_toArray, List.set_cons_succ, List.set_cons_zero]
          apply wpK_val
          · rfl
          · intro w' hw'
            go_simp
            first | exact rfl | exact ⟨rfl, hw'⟩
          simp only [Act.put, List.setIfInBounds_toArray, List.set_cons_succ, List.set_cons_zero]
          apply wpK_val
          · rfl
          · intro w' hw'
            go_simp
            first | exact rfl | exact ⟨rfl, hw'⟩
          simp only [Act.put, List.setIfInBounds_toArray, List.set_cons_succ, List.set_cons_zero]
          apply wpK_val
          · rfl
          · intro w' hw'
            have hcell := (hw'.cell (p := ⟨b, o + m * 64 + k, none⟩) hB).trans c1
            go_simp
            first | exact rfl | exact ⟨rfl, hw'⟩
          simp only [Act.put, List.setIfInBounds_toArray, List.set_cons_succ, List.set_cons_zero]
          apply wpK_val
          · rfl
          · intro w' hw'
            go_simp
            first | exact rfl | exact ⟨rfl, hw'⟩
          simp only [Act.put, List.setIfInBounds_toArray, List.set_cons_succ, List.set_cons_zero]
          apply wpK_val
          · rfl
          · intro w' hw'
            go_simp
            first | exact rfl | exact ⟨rfl, hw'⟩
          simp only [Act.put, List.setIfInBounds_toArray, List.set_cons_succ, List.set_cons_zero]
          apply wpK_val
          · rfl
          · intro w' hw'
            go_simp
            first | exact rfl | exact ⟨rfl, hw'⟩
          simp only [Act.put, List.setIfInBounds_toArray, List.set_cons_succ, List.set_cons_zero]
          apply wpK_val
          · rfl
          · intro w' hw'
            go_simp
            first | exact rfl | exact ⟨rfl, hw'⟩
          simp only [Act.put, List.setIfInBounds_toArray, List.set_cons_succ, List.set_cons_zero]
          apply wpK_val
          · rfl
          · intro w' hw'
            go_simp
            exact (rP_any (some ⟨b, o, none⟩) m cap k F HF.out (by omega) hlt _ ((HS2.out.below hw' (Nat.le_refl _)).more hw'.size)).mono fun e w'' ⟨he, hb'⟩ => ⟨he, by subst hb'; exact hw'⟩
          simp only [Act.put, List.setIfInBounds_toArray, List.set_cons_succ, List.set_cons_zero]
          apply wpK_val
          · rfl
          · intro w' hw'
            go_simp
            first | exact rfl | exact ⟨rfl, hw'⟩
          simp only [Act.put, List.setIfInBounds_toArray, List.set_cons_succ, List.set_cons_zero]
          apply wpK_val
          · rfl
          · intro w' hw'
            go_simp
            first | exact rfl | exact ⟨rfl, hw'⟩
          simp only [Act.put, List.setIfInBounds_toArray, List.set_cons_succ, List.set_cons_zero]
          apply wpK_val
          · rfl
          · intro w' hw'
            go_simp
            first | exact rfl | exact ⟨rfl, hw'⟩
          simp only [Act.put, List.setIfInBounds_toArray, List.set_cons_succ, List.set_cons_zero]
          apply wpK_val
          · rfl
          · intro w' hw'
            go_simp
            first | exact rfl | exact ⟨rfl, hw'⟩
          simp only [Act.put, List.setIfInBounds_toArray, List.set_cons_succ, List.set_cons_zero]
          apply wpK_val
          · rfl
          · intro w' hw'
            have x1 : IntKind.i64.wrap ((m : Int) + 1) = (m : Int) + 1 := IntWalk.i64_in _ (by omega)
            go_simp
            first | exact rfl | exact ⟨rfl, hw'⟩
          simp only [Act.put, List.setIfInBounds_toArray, List.set_cons_succ, List.set_cons_zero]
          apply wpK_val
          · rfl
          · intro w' hw'
            go_simp
            first | exact rfl | exact ⟨rfl, hw'⟩
          simp only [Act.put, List.setIfInBounds_toArray, List.set_cons_succ, List.set_cons_zero]
          apply wpK_val
          · rfl
          · intro w' hw'
            have x2 : (0 : Int) ≤ (m : Int) + 1 := by omega
            have x3 : ((m : Int) + 1).toNat = m + 1 := by omega
            go_simp
            first | exact rfl | exact ⟨rfl, hw'⟩
          simp only [Act.put, List.setIfInBounds_toArray, List.set_cons_succ, List.set_cons_zero]
          apply wpK_val
          · rfl
          · intro w' hw'
            go_simp
            first | exact rfl | exact ⟨rfl, hw'⟩
          simp only [Act.put, List.setIfInBounds_toArray, List.set_cons_succ, List.set_cons_zero]
          apply wpK_val
          · rfl
          · intro w' hw'
            have hcell := (hw'.cell (p := ⟨b, o + (m + 1) * 64 + k, none⟩) hB).trans c2
            go_simp
            first | exact rfl | exact ⟨rfl, hw'⟩
          simp only [Act.put, List.setIfInBounds_toArray, List.set_cons_succ, List.set_cons_zero]
          apply wpK_val
          · rfl
          · intro w' hw'
            go_simp
            first | exact rfl | exact ⟨rfl, hw'⟩
          simp only [Act.put, List.setIfInBounds_toArray, List.set_cons_succ, List.set_cons_zero]
          apply wpK_val
          · rfl
          · intro w' hw'
            go_simp
            first | exact rfl | exact ⟨rfl, hw'⟩
          simp only [Act.put, List.setIfInBounds_toArray, List.set_cons_succ, List.set_cons_zero]
          apply wpK_val
          · rfl
          · intro w' hw'
            go_simp
            first | exact rfl | exact ⟨rfl, hw'⟩
          simp only [Act.put, List.setIfInBounds_toArray, List.set_cons_succ, List.set_cons_zero]
          apply wpK_val
          · rfl
          · intro w' hw'
            go_simp
            first | exact rfl | exact ⟨rfl, hw'⟩
          simp only [Act.put, List.setIfInBounds_toArray, List.set_cons_succ, List.set_cons_zero]
          apply wpK_val
          · rfl
          · intro w' hw'
            go_simp
            exact (rQ_any (some ⟨b, o, none⟩) m cap k F HF.out (by omega) hlt _ ((HS2.out.below hw' (Nat.le_refl _)).more hw'.size)).mono fun e w'' ⟨he, ⟨j, hb'⟩⟩ => ⟨he, by subst hb'; exact below_drewN hw' _⟩
          simp only [Act.put, List.setIfInBounds_toArray, List.set_cons_succ, List.set_cons_zero]
          apply wpK_val
          · rfl
          · intro w' hw'
            go_simp
            first | exact rfl | exact ⟨rfl, hw'⟩
          simp only [Act.put, List.setIfInBounds_toArray, List.set_cons_succ, List.set_cons_zero]
          apply wpK_val
          · rfl
          · intro w' hw'
            go_simp
            first | exact rfl | exact ⟨rfl, hw'⟩
          simp only [Act.put, List.setIfInBounds_toArray, List.set_cons_succ, List.set_cons_zero]
          refine wpK_nil fun w6 hw6 => ?_
          go_wp2_with fail
          exact ⟨⟨k + 1, by omega, by go_num, hw6, hid fun j hj => by
            rcases Nat.lt_or_ge j k with h | h
            · exact H.out j h
            · obtain rfl : j = k := by omega
              exact ⟨E1.out, E2.out⟩⟩, by simp [intOf]; omega⟩
        · have t2 := nat_ne_yes e2
          have HN := hid (rightB_no hlt (.inr e2))
          clear e2
          refine wp_region_tail (C := fun w' => Below w.heap.size w w') 27 (by kernel_rfl) (by kernel_rfl) (by kernel_rfl) hb.drew ?_
          simp only [List.take_succ_cons, List.take_zero, List.drop_succ_cons, List.drop_zero]
          apply wpK_val
          · rfl
          · intro w' hw'
            go_simp
            first | exact rfl | exact ⟨rfl, hw'⟩
          simp only [Act.put, List.setIfInBounds_toArray, List.set_cons_succ, List.set_cons_zero]
          apply wpK_val
          · rfl
          · intro w' hw'
            go_simp
            first | exact rfl | exact ⟨rfl, hw'⟩
          simp only [Act.put, List.setIfInBounds_toArray, List.set_cons_succ, List.set_cons_zero]
          apply wpK_val
          · rfl
          · intro w' hw'
            go_simp
            first | exact rfl | exact ⟨rfl, hw'⟩
          simp only [Act.put, List.setIfInBounds_toArray, List.set_cons_succ, List.set_cons_zero]
          apply wpK_val
          · rfl
          · intro w' hw'
            go_simp
            first | exact rfl | exact ⟨rfl, hw'⟩
          simp only [Act.put, List.setIfInBounds_toArray, List.set_cons_succ, List.set_cons_zero]
          apply wpK_val
          · rfl
          · intro w' hw'
            go_simp
            first | exact rfl | exact ⟨rfl, hw'⟩
          simp only [Act.put, List.setIfInBounds_toArray, List.set_cons_succ, List.set_cons_zero]
          apply wpK_val
          · rfl
          · intro w' hw'
            have hcell := (hw'.cell (p := ⟨b, o + m * 64 + k, none⟩) hB).trans c1
            go_simp
            first | exact rfl | exact ⟨rfl, hw'⟩
          simp only [Act.put, List.setIfInBounds_toArray, List.set_cons_succ, List.set_cons_zero]
          apply wpK_val
          · rfl
          · intro w' hw'
            go_simp
            first | exact rfl | exact ⟨rfl, hw'⟩
          simp only [Act.put, List.setIfInBounds_toArray, List.set_cons_succ, List.set_cons_zero]
          apply wpK_val
          · rfl
          · intro w' hw'
            go_simp
            first | exact rfl | exact ⟨rfl, hw'⟩
          simp only [Act.put, List.setIfInBounds_toArray, List.set_cons_succ, List.set_cons_zero]
          apply wpK_val
          · rfl
          · intro w' hw'
            go_simp
            first | exact rfl | exact ⟨rfl, hw'⟩
          simp only [Act.put, List.setIfInBounds_toArray, List.set_cons_succ, List.set_cons_zero]
          apply wpK_val
          · rfl
          · intro w' hw'
            go_simp
            first | exact rfl | exact ⟨rfl, hw'⟩
          simp only [Act.put, List.setIfInBounds_toArray, List.set_cons_succ, List.set_cons_zero]
          apply wpK_val
          · rfl
          · intro w' hw'
            go_simp
            exact (rP_any (some ⟨b, o, none⟩) m cap k F HF.out (by omega) hlt _ ((HS2.out.below hw' (Nat.le_refl _)).more hw'.size)).mono fun e w'' ⟨he, hb'⟩ => ⟨he, by subst hb'; exact hw'⟩
          simp only [Act.put, List.setIfInBounds_toArray, List.set_cons_succ, List.set_cons_zero]
          apply wpK_val
          · rfl
          · intro w' hw'
            go_simp
            first | exact rfl | exact ⟨rfl, hw'⟩
          simp only [Act.put, List.setIfInBounds_toArray, List.set_cons_succ, List.set_cons_zero]
          apply wpK_val
          · rfl
          · intro w' hw'
            go_simp
            first | exact rfl | exact ⟨rfl, hw'⟩
          simp only [Act.put, List.setIfInBounds_toArray, List.set_cons_succ, List.set_cons_zero]
          apply wpK_val
          · rfl
          · intro w' hw'
            go_simp
            first | exact rfl | exact ⟨rfl, hw'⟩
          simp only [Act.put, List.setIfInBounds_toArray, List.set_cons_succ, List.set_cons_zero]
          apply wpK_val
          · rfl
          · intro w' hw'
            go_simp
            first | exact rfl | exact ⟨rfl, hw'⟩
          simp only [Act.put, List.setIfInBounds_toArray, List.set_cons_succ, List.set_cons_zero]
          apply wpK_val
          · rfl
          · intro w' hw'
            have x1 : IntKind.i64.wrap ((m : Int) + 1) = (m : Int) + 1 := IntWalk.i64_in _ (by omega)
            go_simp
            first | exact rfl | exact ⟨rfl, hw'⟩
          simp only [Act.put, List.setIfInBounds_toArray, List.set_cons_succ, List.set_cons_zero]
          apply wpK_val
          · rfl
          · intro w' hw'
            go_simp
            first | exact rfl | exact ⟨rfl, hw'⟩
          simp only [Act.put, List.setIfInBounds_toArray, List.set_cons_succ, List.set_cons_zero]
          apply wpK_val
          · rfl
          · intro w' hw'
            have x2 : (0 : Int) ≤ (m : Int) + 1 := by omega
            have x3 : ((m : Int) + 1).toNat = m + 1 := by omega
            go_simp
            first | exact rfl | exact ⟨rfl, hw'⟩
          simp only [Act.put, List.setIfInBounds_toArray, List.set_cons_succ, List.set_cons_zero]
          apply wpK_val
          · rfl
          · intro w' hw'
            go_simp
            first | exact rfl | exact ⟨rfl, hw'⟩
          simp only [Act.put, List.setIfInBounds_toArray, List.set_cons_succ, List.set_cons_zero]
          apply wpK_val
          · rfl
          · intro w' hw'
            have hcell := (hw'.cell (p := ⟨b, o + (m + 1) * 64 + k, none⟩) hB).trans c2
            go_simp
            first | exact rfl | exact ⟨rfl, hw'⟩
          simp only [Act.put, List.setIfInBounds_toArray, List.set_cons_succ, List.set_cons_zero]
          apply wpK_val
          · rfl
          · intro w' hw'
            go_simp
            first | exact rfl | exact ⟨rfl, hw'⟩
          simp only [Act.put, List.setIfInBounds_toArray, List.set_cons_succ, List.set_cons_zero]
          apply wpK_val
          · rfl
          · intro w' hw'
            go_simp
            first | exact rfl | exact ⟨rfl, hw'⟩
          simp only [Act.put, List.setIfInBounds_toArray, List.set_cons_succ, List.set_cons_zero]
          apply wpK_val
          · rfl
          · intro w' hw'
            go_simp
            first | exact rfl | exact ⟨rfl, hw'⟩
          simp only [Act.put, List.setIfInBounds_toArray, List.set_cons_succ, List.set_cons_zero]
          apply wpK_val
          · rfl
          · intro w' hw'
            go_simp
            first | exact rfl | exact ⟨rfl, hw'⟩
          simp only [Act.put, List.setIfInBounds_toArray, List.set_cons_succ, List.set_cons_zero]
          apply wpK_val
          · rfl
          · intro w' hw'
            go_simp
            exact (rQ_any (some ⟨b, o, none⟩) m cap k F HF.out (by omega) hlt _ ((HS2.out.below hw' (Nat.le_refl _)).more hw'.size)).mono fun e w'' ⟨he, ⟨j, hb'⟩⟩ => ⟨he, by subst hb'; exact below_drewN hw' _⟩
          simp only [Act.put, List.setIfInBounds_toArray, List.set_cons_succ, List.set_cons_zero]
          apply wpK_val
          · rfl
          · intro w' hw'
            go_simp
            first | exact rfl | exact ⟨rfl, hw'⟩
          simp only [Act.put, List.setIfInBounds_toArray, List.set_cons_succ, List.set_cons_zero]
          apply wpK_val
          · rfl
          · intro w' hw'
            go_simp
            first | exact rfl | exact ⟨rfl, hw'⟩
          simp only [Act.put, List.setIfInBounds_toArray, List.set_cons_succ, List.set_cons_zero]
          refine wpK_nil fun w6 hw6 => ?_
          go_wp2_with fail
          go_ret
          exact ⟨by rw [HN.out]; rfl, hw6⟩
      · have t1 := nat_ne_yes e1
        have HN := hid (rightB_no hlt (.inl e1))
        clear e1
        refine wp_region_tail (C := fun w' => Below w.heap.size w w') 27 (by kernel_rfl) (by kernel_rfl) (by kernel_rfl) hb.drew ?_
        simp only [List.take_succ_cons, List.take_zero, List.drop_succ_cons, List.drop_zero]
        apply wpK_val
        · rfl
        · intro w' hw'
          go_simp
          first | exact rfl | exact ⟨rfl, hw'⟩
        simp only [Act.put, List.setIfInBounds_toArray, List.set_cons_succ, List.set_cons_zero]
        apply wpK_val
        · rfl
        · intro w' hw'
          go_simp
          first | exact rfl | exact ⟨rfl, hw'⟩
        simp only [Act.put, List.setIfInBounds_toArray, List.set_cons_succ, List.set_cons_zero]
        apply wpK_val
        · rfl
        · intro w' hw'
          go_simp
          first | exact rfl | exact ⟨rfl, hw'⟩
        simp only [Act.put, List.setIfInBounds_toArray, List.set_cons_succ, List.set_cons_zero]
        apply wpK_val
        · rfl
        · intro w' hw'
          go_simp
          first | exact rfl | exact ⟨rfl, hw'⟩
        simp only [Act.put, List.setIfInBounds_toArray, List.set_cons_succ, List.set_cons_zero]
        apply wpK_val
        · rfl
        · intro w' hw'
          go_simp
          first | exact rfl | exact ⟨rfl, hw'⟩
        simp only [Act.put, List.setIfInBounds_toArray, List.set_cons_succ, List.set_cons_zero]
        apply wpK_val
        · rfl
        · intro w' hw'
          have hcell := (hw'.cell (p := ⟨b, o + m * 64 + k, none⟩) hB).trans c1
          go_simp
          first | exact rfl | exact ⟨rfl, hw'⟩
        simp only [Act.put, List.setIfInBounds_toArray, List.set_cons_succ, List.set_cons_zero]
        apply wpK_val
        · rfl
        · intro w' hw'
          go_simp
          first | exact rfl | exact ⟨rfl, hw'⟩
        simp only [Act.put, List.setIfInBounds_toArray, List.set_cons_succ, List.set_cons_zero]
        apply wpK_val
        · rfl
        · intro w' hw'
          go_simp
          first | exact rfl | exact ⟨rfl, hw'⟩
        simp only [Act.put, List.setIfInBounds_toArray, List.set_cons_succ, List.set_cons_zero]
        apply wpK_val
        · rfl
        · intro w' hw'
          go_simp
          first | exact rfl | exact ⟨rfl, hw'⟩
        simp only [Act.put, List.setIfInBounds_toArray, List.set_cons_succ, List.set_cons_zero]
        apply wpK_val
        · rfl
        · intro w' hw'
          go_simp
          first | exact rfl | exact ⟨rfl, hw'⟩
        simp only [Act.put, List.setIfInBounds_toArray, List.set_cons_succ, List.set_cons_zero]
        apply wpK_val
        · rfl
        · intro w' hw'
          go_simp
          exact (rP_any (some ⟨b, o, none⟩) m cap k F HF.out (by omega) hlt _ ((HS2.out.below hw' (Nat.le_refl _)).more hw'.size)).mono fun e w'' ⟨he, hb'⟩ => ⟨he, by subst hb'; exact hw'⟩
        simp only [Act.put, List.setIfInBounds_toArray, List.set_cons_succ, List.set_cons_zero]
        apply wpK_val
        · rfl
        · intro w' hw'
          go_simp
          first | exact rfl | exact ⟨rfl, hw'⟩
        simp only [Act.put, List.setIfInBounds_toArray, List.set_cons_succ, List.set_cons_zero]
        apply wpK_val
        · rfl
        · intro w' hw'
          go_simp
          first | exact rfl | exact ⟨rfl, hw'⟩
        simp only [Act.put, List.setIfInBounds_toArray, List.set_cons_succ, List.set_cons_zero]
        apply wpK_not
        · rfl
        simp only [Act.put, List.setIfInBounds_toArray, List.set_cons_succ, List.set_cons_zero]
        apply wpK_not
        · rfl
        simp only [Act.put, List.setIfInBounds_toArray, List.set_cons_succ, List.set_cons_zero]
        apply wpK_not
        · rfl
        simp only [Act.put, List.setIfInBounds_toArray, List.set_cons_succ, List.set_cons_zero]
        apply wpK_not
        · rfl
        simp only [Act.put, List.setIfInBounds_toArray, List.set_cons_succ, List.set_cons_zero]
        apply wpK_not
        · rfl
        simp only [Act.put, List.setIfInBounds_toArray, List.set_cons_succ, List.set_cons_zero]
        apply wpK_not
        · rfl
        simp only [Act.put, List.setIfInBounds_toArray, List.set_cons_succ, List.set_cons_zero]
        apply wpK_not
        · rfl
        simp only [Act.put, List.setIfInBounds_toArray, List.set_cons_succ, List.set_cons_zero]
        apply wpK_not
        · rfl
        simp only [Act.put, List.setIfInBounds_toArray, List.set_cons_succ, List.set_cons_zero]
        apply wpK_not
        · rfl
        simp only [Act.put, List.setIfInBounds_toArray, List.set_cons_succ, List.set_cons_zero]
        apply wpK_not
        · rfl
        simp only [Act.put, List.setIfInBounds_toArray, List.set_cons_succ, List.set_cons_zero]
        apply wpK_not
        · rfl
        simp only [Act.put, List.setIfInBounds_toArray, List.set_cons_succ, List.set_cons_zero]
        apply wpK_not
        · rfl
        simp only [Act.put, List.setIfInBounds_toArray, List.set_cons_succ, List.set_cons_zero]
        apply wpK_not
        · rfl
        simp only [Act.put, List.setIfInBounds_toArray, List.set_cons_succ, List.set_cons_zero]
        apply wpK_val
        · rfl
        · intro w' hw'
          go_simp
          first | exact rfl | exact ⟨rfl, hw'⟩
        simp only [Act.put, List.setIfInBounds_toArray, List.set_cons_succ, List.set_cons_zero]
        refine wpK_nil fun w6 hw6 => ?_
        go_wp2_with fail
        go_ret
        exact ⟨by rw [HN.out]; rfl, hw6⟩
    · have HN := hid (rightB_yes fun j hj => H.out j (by omega))
      clear H
      go_wp2_with fail
      go_ret
      exact ⟨by rw [HN.out]; rfl, hb⟩
end Go.Proofs.Yteoccdcebgcdmaa
