/-
  The contracts of parity.places, parity.Right, casemateref02.Right.
  Slices of sectors that a call makes for itself: append, and what is read of them.
  P2.1, P2.2 of any number of sectors: both sides' answers.
  Slices of ints; the closures of parity.Fix; the library's ContainsFunc, IndexFunc, Clone at its types.
  Lists of ints (of any sign) of the call's own; append to them.
  The different numbers of a list, rising (no text of the program).
  A region that draws its order and makes two new variables ('x, y := f(), g()'): their addresses hang on the order; all else does not.
  The contract of casemateref02.Unlike.
  The contract of parity.twoUnknowns.
  Slices of bytes, told as lists.
  Worlds behind draws alone, and behind one new row.
  Worlds that differ in one block, and in new ones.
-/
import Derived.Test.YtlbfjnddbdpdpaaMrg1
import Derived.Laws.AppendOwnNone
import Derived.WalkSpells
import Derived.Laws.AppendOwn
import Derived.Deep.Cut
import Derived.Test.YtlbfjnddbdpdpaaRows
import Derived.ProofKit
import Derived.OpenShut
import Derived.StillTailTactics
import Derived.Outline
set_option linter.unusedVariables false
set_option linter.unusedSimpArgs false
set_option maxRecDepth 100000
namespace Go.Proofs.Ytlbfjnddbdpdpaa
open Go.ChangeShapes Go.WideShapes Go.ChangeAt Go.RowKit
attribute [local go_sem] Gives eqg_sec
attribute [local go_sem high] run_eql_sec run_neq_sec
theorem places_any (A : Option Addr) (m cap : Nat) (hn : m ≤ 1000000) (w : World) :
    Calls Try.prog 64 #[.slice A (m + 2) cap] w fun e w' => e = .returned (.tuple #[.int .i64 (m : Int), .int .i64 ((m : Int) + 1)]) ∧ w = w' := by
  go_enter Try.func64, Try.ntmps64
  go_wp2_with fail
  go_ret2
  exact ⟨by simp, rfl⟩
/-- P2.2, of less than 3 columns, or more than 64. -/
theorem right_few (A : Option Addr) (n cap : Nat) (hn : n < 3 ∨ 64 < n) (hm : n ≤ 1000000000000000) (w : World) :
    Calls Try.prog 43 #[.slice A n cap] w fun e w' => e = .returned (.bool false) ∧ w = w' := by
  rcases hn with h | h
  · go_enter Try.func43, Try.ntmps43
    go_wp2_with fail
    go_ret
    exact ⟨rfl, rfl⟩
  · have h3 : ¬ n < 3 := by omega
    go_enter Try.func43, Try.ntmps43
    go_wp2_with fail
    go_ret
    exact ⟨rfl, rfl⟩
def rightB (m : Nat) (F : Nat → Nat → Nat) : Bool := eqS (PP F m) (F m) && eqS (QQ F m) (F (m + 1))
set_option maxRecDepth 100000 in
theorem right_mid (A : Option Addr) (m cap : Nat) (F : Nat → Nat → Nat) (hF : ∀ i k, F i k < 256) (h1 : 1 ≤ m) (h2 : m ≤ 62) (hc : m + 2 ≤ cap) (w : World) (hs : Secs w w.heap.size A (m + 2) F) :
    Calls Try.prog 43 #[.slice A (m + 2) cap] w fun e w' => e = .returned (.bool (rightB m F)) ∧ Below w.heap.size w w' := by
  have HF := hid hF
  have HS := hid hs
  clear hF hs
  obtain ⟨b, o, rfl, hB, hr⟩ := HS.out (by omega)
  have HS2 : RowKit.Hid (Secs w w.heap.size (some ⟨b, o, none⟩) m F) := hid fun _ => ⟨b, o, rfl, hB, fun i hi => hr i (by omega)⟩
  have r1 := hr m (by omega)
  have r2 := hr (m + 1) (by omega)
  clear hr
  go_enter Try.func43, Try.ntmps43
  go_wp2_with fail
  refine (places_any (some ⟨b, o, none⟩) m cap (by omega) _).mono ?_
  rintro e w' ⟨rfl, rfl⟩
  go_wp2_with fail
  refine (sums_any (some ⟨b, o, none⟩) m cap F HF.out (by omega) _ HS2.out).mono ?_
  rintro e w4 ⟨rfl, hb⟩
  have hb' := hb.size
  have q1 := rangeAt_below r1 hb hB
  have q2 := rangeAt_below r2 hb hB
  clear r1 r2
  go_wp2_with (first | ((with_reducible apply stx); rfl; rfl; exact (Blk.top zlit rfl).alloc _) | ((with_reducible apply stx); rfl; rfl; exact (Blk.top zlit (by simp)).setRow_other (by omega) _))
  generalize hw5 : World.setRow (World.setRow (World.alloc (World.alloc w4 _) _) _ _) _ _ = w5
  have p1 : Blk w5 w4.heap.size 32 (sec (PP F m)) := by rw [← hw5]; exact (((Blk.top zlit rfl).alloc _).setRow_same _).setRow_other (by omega) _
  have p2 : Blk w5 (w4.heap.size + 1) 32 (sec (QQ F m)) := by rw [← hw5]; exact ((Blk.top zlit (by simp)).setRow_other (by omega) _).setRow_same _
  have hc : Below w.heap.size w4 w5 := by rw [← hw5]; exact below_setRow (below_setRow (((Below.refl _ _).alloc hb' _).alloc (by simp; omega) _) hb' _) (by omega) _
  have q1 := rangeAt_below q1 hc hB
  have q2 := rangeAt_below q2 hc hB
  have hd := hb.trans hc
  clear hw5 hc hb
  go_wp2_with fail
  have tm : (m : Int) < (m : Int) + 2 := by omega
  have tm1 : (m : Int) + 1 < (m : Int) + 2 := by omega
  cases e1 : eqS (PP F m) (F m) with
  | false =>
    have HN : RowKit.Hid (rightB m F = false) := by unfold rightB; rw [e1]; exact hid rfl
    refine wp_region_tail (C := fun w' => Below w5.heap.size w5 w') 15 (by kernel_rfl) (by kernel_rfl) (by kernel_rfl) (Below.refl _ _).drew ?_
    simp only [List.take_succ_cons, List.take_zero, List.drop_succ_cons, List.drop_zero]
    apply kld
    · rfl
    · rfl
    · exact fun w' hw' => p1.below hw' p1.lt
    simp only [Act.put, List.setIfInBounds_toArray, List.set_cons_succ, List.set_cons_zero]
    apply wpK_val
    · rfl
    · intro w' hw'
      go_simp
      first | exact rfl | exact ⟨rfl, hw'⟩
    simp only [Act.put, List.setIfInBounds_toArray, List.set_cons_succ, List.set_cons_zero]
    apply wpK_val
    · rfl
    · intro w' hw'
      go_simp
      first | exact rfl | exact ⟨rfl, hw'⟩
    simp only [Act.put, List.setIfInBounds_toArray, List.set_cons_succ, List.set_cons_zero]
    apply wpK_val
    · rfl
    · intro w' hw'
      go_simp
      first | exact rfl | exact ⟨rfl, hw'⟩
    simp only [Act.put, List.setIfInBounds_toArray, List.set_cons_succ, List.set_cons_zero]
    apply kldm
    · rfl
    · rfl
    · exact fun w' hw' => rangeAt_below q1 hw' (by have := hd.size; omega)
    simp only [Act.put, List.setIfInBounds_toArray, List.set_cons_succ, List.set_cons_zero]
    apply wpK_val
    · rfl
    · intro w' hw'
      go_simp
      first | exact rfl | exact ⟨rfl, hw'⟩
    simp only [Act.put, List.setIfInBounds_toArray, List.set_cons_succ, List.set_cons_zero]
    apply wpK_val
    · rfl
    · intro w' hw'
      go_simp
      first | exact rfl | exact ⟨rfl, hw'⟩
    simp only [Act.put, List.setIfInBounds_toArray, List.set_cons_succ, List.set_cons_zero]
    apply wpK_not
    · rfl
    simp only [Act.put, List.setIfInBounds_toArray, List.set_cons_succ, List.set_cons_zero]
    apply wpK_not
    · rfl
    simp only [Act.put, List.setIfInBounds_toArray, List.set_cons_succ, List.set_cons_zero]
    apply wpK_not
    · rfl
    simp only [Act.put, List.setIfInBounds_toArray, List.set_cons_succ, List.set_cons_zero]
    apply wpK_not
    · rfl
    simp only [Act.put, List.setIfInBounds_toArray, List.set_cons_succ, List.set_cons_zero]
    apply wpK_not
    · rfl
    simp only [Act.put, List.setIfInBounds_toArray, List.set_cons_succ, List.set_cons_zero]
    apply wpK_not
    · rfl
    simp only [Act.put, List.setIfInBounds_toArray, List.set_cons_succ, List.set_cons_zero]
    apply wpK_val
    · rfl
    · intro w' hw'
      go_simp
      first | exact rfl | exact ⟨rfl, hw'⟩
    simp only [Act.put, List.setIfInBounds_toArray, List.set_cons_succ, List.set_cons_zero]
    apply wpK_val
    · rfl
    · intro w' hw'
      go_simp
      first | exact rfl | exact ⟨rfl, hw'⟩
    simp only [Act.put, List.setIfInBounds_toArray, List.set_cons_succ, List.set_cons_zero]
    refine wpK_nil fun w6 hw6 => ?_
    go_wp2_with fail
    go_ret
    exact ⟨by rw [HN.out]; rfl, hd.trans (hw6.mono hd.size)⟩
  | true =>
    have HN : RowKit.Hid (rightB m F = eqS (QQ F m) (F (m + 1))) := by unfold rightB; rw [e1, Bool.true_and]; exact hid rfl
    refine wp_region_tail (C := fun w' => Below w5.heap.size w5 w') 15 (by kernel_rfl) (by kernel_rfl) (by kernel_rfl) (Below.refl _ _).drew ?_
    simp only [List.take_succ_cons, List.take_zero, List.drop_succ_cons, List.drop_zero]
    apply kld
    · rfl
    · rfl
    · exact fun w' hw' => p1.below hw' p1.lt
    simp only [Act.put, List.setIfInBounds_toArray, List.set_cons_succ, List.set_cons_zero]
    apply wpK_val
    · rfl
    · intro w' hw'
      go_simp
      first | exact rfl | exact ⟨rfl, hw'⟩
    simp only [Act.put, List.setIfInBounds_toArray, List.set_cons_succ, List.set_cons_zero]
    apply wpK_val
    · rfl
    · intro w' hw'
      go_simp
      first | exact rfl | exact ⟨rfl, hw'⟩
    simp only [Act.put, List.setIfInBounds_toArray, List.set_cons_succ, List.set_cons_zero]
    apply wpK_val
    · rfl
    · intro w' hw'
      go_simp
      first | exact rfl | exact ⟨rfl, hw'⟩
    simp only [Act.put, List.setIfInBounds_toArray, List.set_cons_succ, List.set_cons_zero]
    apply kldm
    · rfl
    · rfl
    · exact fun w' hw' => rangeAt_below q1 hw' (by have := hd.size; omega)
    simp only [Act.put, List.setIfInBounds_toArray, List.set_cons_succ, List.set_cons_zero]
    apply wpK_val
    · rfl
    · intro w' hw'
      go_simp
      first | exact rfl | exact ⟨rfl, hw'⟩
    simp only [Act.put, List.setIfInBounds_toArray, List.set_cons_succ, List.set_cons_zero]
    apply wpK_val
    · rfl
    · intro w' hw'
      go_simp
      first | exact rfl | exact ⟨rfl, hw'⟩
    simp only [Act.put, List.setIfInBounds_toArray, List.set_cons_succ, List.set_cons_zero]
    apply kld
    · rfl
    · rfl
    · exact fun w' hw' => p2.below hw' p2.lt
    simp only [Act.put, List.setIfInBounds_toArray, List.set_cons_succ, List.set_cons_zero]
    apply wpK_val
    · rfl
    · intro w' hw'
      go_simp
      first | exact rfl | exact ⟨rfl, hw'⟩
    simp only [Act.put, List.setIfInBounds_toArray, List.set_cons_succ, List.set_cons_zero]
    apply wpK_val
    · rfl
    · intro w' hw'
      go_simp
      first | exact rfl | exact ⟨rfl, hw'⟩
    simp only [Act.put, List.setIfInBounds_toArray, List.set_cons_succ, List.set_cons_zero]
    apply wpK_val
    · rfl
    · intro w' hw'
      go_simp
      first | exact rfl | exact ⟨rfl, hw'⟩
    simp only [Act.put, List.setIfInBounds_toArray, List.set_cons_succ, List.set_cons_zero]
    apply kldm
    · rfl
    · rfl
    · exact fun w' hw' => rangeAt_below q2 hw' (by have := hd.size; omega)
    simp only [Act.put, List.setIfInBounds_toArray, List.set_cons_succ, List.set_cons_zero]
    apply wpK_val
    · rfl
    · intro w' hw'
      go_simp
      first | exact rfl | exact ⟨rfl, hw'⟩
    simp only [Act.put, List.setIfInBounds_toArray, List.set_cons_succ, List.set_cons_zero]
    apply wpK_val
    · rfl
    · intro w' hw'
      go_simp
      first | exact rfl | exact ⟨rfl, hw'⟩
    simp only [Act.put, List.setIfInBounds_toArray, List.set_cons_succ, List.set_cons_zero]
    apply wpK_val
    · rfl
    · intro w' hw'
      go_simp
      first | exact rfl | exact ⟨rfl, hw'⟩
    simp only [Act.put, List.setIfInBounds_toArray, List.set_cons_succ, List.set_cons_zero]
    refine wpK_nil fun w6 hw6 => ?_
    go_wp2_with fail
    go_ret
    exact ⟨by rw [HN.out]; rfl, hd.trans (hw6.mono hd.size)⟩
/-- The document's answer: of less than 3 columns, or more than 64. -/
theorem rright_few (A : Option Addr) (n cap : Nat) (hn : n < 3 ∨ 64 < n) (hm : n ≤ 1000000000000000) (w : World) :
    Calls Try.prog 44 #[.slice A n cap] w fun e w' => e = .returned (.bool false) ∧ w = w' := by
  rcases hn with h | h
  · have t1 : (n : Int) - 2 < 1 := by omega
    go_enter Try.func44, Try.ntmps44
    go_wp2_with fail
    go_ret
    exact ⟨rfl, rfl⟩
  · have h3 : ¬ (n : Int) - 2 < 1 := by omega
    have h4 : 62 < (n : Int) - 2 := by omega
    go_enter Try.func44, Try.ntmps44
    go_wp2_with fail
    go_ret
    exact ⟨rfl, rfl⟩
theorem rightB_no {m k : Nat} {F : Nat → Nat → Nat} (hk : k < 64) (h : F m k ≠ PP F m k ∨ F (m + 1) k ≠ QQ F m k) : rightB m F = false := by
  unfold rightB
  rcases h with h | h
  · rw [eqS_no fun e => h (e k hk).symm]; rfl
  · rw [eqS_no (f := QQ F m) fun e => h (e k hk).symm, Bool.and_false]
theorem rightB_yes {m : Nat} {F : Nat → Nat → Nat} (h : ∀ k, k < 64 → F m k = PP F m k ∧ F (m + 1) k = QQ F m k) : rightB m F = true := by
  unfold rightB
  rw [eqS_yes fun k hk => (h k hk).1.symm, eqS_yes fun k hk => (h k hk).2.symm]; rfl
set_option maxRecDepth 100000 in
set_option maxHeartbeats 1600000 in
theorem rright_mid (A : Option Addr) (m cap : Nat) (F : Nat → Nat → Nat) (hF : ∀ i k, F i k < 256) (h1 : 1 ≤ m) (h2 : m ≤ 62) (hc : m + 2 ≤ cap) (w : World) (hs : Secs w w.heap.size A (m + 2) F) :
    Calls Try.prog 44 #[.slice A (m + 2) cap] w fun e w' => e = .returned (.bool (rightB m F)) ∧ Below w.heap.size w w' := by
  have HF := hid hF
  have HS := hid hs
  clear hF hs
  obtain ⟨b, o, rfl, hB, hr⟩ := HS.out (by omega)
  have HS2 : RowKit.Hid (Secs w w.heap.size (some ⟨b, o, none⟩) m F) := hid fun _ => ⟨b, o, rfl, hB, fun i hi => hr i (by omega)⟩
  have r1 := hr m (by omega)
  have r2 := hr (m + 1) (by omega)
  clear hr
  have t1 : ¬ (m : Int) + 2 - 2 < 1 := by omega
  go_enter Try.func44, Try.ntmps44
  go_wp2_with fail
  clear t1
  have tm : (m : Int) < (m : Int) + 2 := by omega
  have tm1 : (m : Int) + 1 < (m : Int) + 2 := by omega
  have tc : m ≤ cap := by omega
  go_loopw [4] (fun i wr => ∃ k : Nat, k ≤ 64 ∧ i = .int .i64 k ∧ Below w.heap.size w wr ∧ Hid (∀ j, j < k → F m j = PP F m j ∧ F (m + 1) j = QQ F m j)) (fun i _ => 64 - (intOf i).toNat)
  case atStart => exact ⟨0, by omega, rfl, Below.refl _ _, hid fun j hj => absurd hj (by omega)⟩
  case round =>
    obtain ⟨k, hk, rfl, hb, H⟩ := hrel
    by_cases hlt : k < 64
    · have c1 := rangeAt_cell r1 hlt
      have c2 := rangeAt_cell r2 hlt
      go_wp2_with fail
      by_cases e1 : F m k = PP F m k
      · have t1 := nat_ne_no e1
        have E1 := hid e1
        clear e1
        by_cases e2 : F (m + 1) k = QQ F m k
        · have t2 := nat_ne_no e2
          have E2 := hid e2
          clear e2
          refine wp_region_tail (C := fun w' => Below w.heap.size w w') 27 (by kernel_rfl) (by kernel_rfl) (by kernel_rfl) hb.drew ?_
          simp only [List.take_succ_cons, List.take_zero, List.drop_succ_cons, List.drop_zero]
          apply wpK_val
          · rfl
          · intro w' hw'
            go_simp
            first | exact rfl | exact ⟨rfl, hw'⟩
          simp only [Act.put, List.setIfInBounds_toArray, List.set_cons_succ, List.set_cons_zero]
          apply wpK_val
          · rfl
          · intro w' hw'
            go_simp
            first | exact rfl | exact ⟨rfl, hw'⟩
          simp only [Act.put, List.setIfInBounds_toArray, List.set_cons_succ, List.set_cons_zero]
          apply wpK_val
          · rfl
          · intro w' hw'
            go_simp
            first | exact rfl | exact ⟨rfl, hw'⟩
          simp only [Act.put, List.setIfInBounds_toArray, List.set_cons_succ, List.set_cons_zero]
          apply wpK_val
          · rfl
          · intro w' hw'
            go_simp
            first | exact rfl | exact ⟨rfl, hw'⟩
          simp only [Act.put, List.setIfInBounds_toArray, List.set_cons_succ, List.set_cons_zero]
          apply wpK_val
          · rfl
          · intro w' hw'
            go_simp
            first | exact rfl | exact ⟨rfl, hw'⟩
          simp only [Act.put, List.setIfInBounds_toArray, List.set_cons_succ, List.set_cons_zero]
          apply wpK_val
          · rfl
          · intro w' hw'
            have hcell := (hw'.cell (p := ⟨b, o + m * 64 + k, none⟩) hB).trans c1
            go_simp
            first | exact rfl | exact ⟨rfl, hw'⟩
          simp only [Act.put, List.setIfInBounds_toArray, List.set_cons_succ, List.set_cons_zero]
          apply wpK_val
          · rfl
          · intro w' hw'
            go_simp
            first | exact rfl | exact ⟨rfl, hw'⟩
          simp only [Act.put, List.setIfInBounds_toArray, List.set_cons_succ, List.set_cons_zero]
          apply wpK_val
          · rfl
          · intro w' hw'
            go_simp
            first | exact rfl | exact ⟨rfl, hw'⟩
          simp only [Act.put, List.setIfInBounds_toArray, List.set_cons_succ, List.set_cons_zero]
          apply wpK_val
          · rfl
          · intro w' hw'
            go_simp
            first | exact rfl | exact ⟨rfl, hw'⟩
          simp only [Act.put, List.setIfInBounds_toArray, List.set_cons_succ, List.set_cons_zero]
          apply wpK_val
          · rfl
          · intro w' hw'
            go_simp
            first | exact rfl | exact ⟨rfl, hw'⟩
          simp only [Act.put, List.setIfInBounds_toArray, List.set_cons_succ, List.set_cons_zero]
          apply wpK_val
          · rfl
          · intro w' hw'
            go_simp
            exact (rP_any (some ⟨b, o, none⟩) m cap k F HF.out (by omega) hlt _ ((HS2.out.below hw' (Nat.le_refl _)).more hw'.size)).mono fun e w'' ⟨he, hb'⟩ => ⟨he, by subst hb'; exact hw'⟩
          simp only [Act.put, List.setIfInBounds_toArray, List.set_cons_succ, List.set_cons_zero]
          apply wpK_val
          · rfl
          · intro w' hw'
            go_simp
            first | exact rfl | exact ⟨rfl, hw'⟩
          simp only [Act.put, List.setIfInBounds_toArray, List.set_cons_succ, List.set_cons_zero]
          apply wpK_val
          · rfl
          · intro w' hw'
            go_simp
            first | exact rfl | exact ⟨rfl, hw'⟩
          simp only [Act.put, List.setIfInBounds_toArray, List.set_cons_succ, List.set_cons_zero]
          apply wpK_val
          · rfl
          · intro w' hw'
            go_simp
            first | exact rfl | exact ⟨rfl, hw'⟩
          simp only [Act.put, List.setIfInBounds_toArray, List.set_cons_succ, List.set_cons_zero]
          apply wpK_val
          · rfl
          · intro w' hw'
            go_simp
            first | exact rfl | exact ⟨rfl, hw'⟩
          simp only [Act.put, List.setIfInBounds_toArray, List.set_cons_succ, List.set_cons_zero]
          apply wpK_val
          · rfl
          · intro w' hw'
            have x1 : IntKind.i64.wrap ((m : Int) + 1) = (m : Int) + 1 := IntWalk.i64_in _ (by omega)
            go_simp
            first | exact rfl | exact ⟨rfl, hw'⟩
          simp only [Act.put, List.setIfInBounds_toArray, List.set_cons_succ, List.set_cons_zero]
          apply wpK_val
          · rfl
          · intro w' hw'
            go_simp
            first | exact rfl | exact ⟨rfl, hw'⟩
          simp only [Act.put, List.setIfInBounds_toArray, List.set_cons_succ, List.set_cons_zero]
          apply wpK_val
          · rfl
          · intro w' hw'
            have x2 : (0 : Int) ≤ (m : Int) + 1 := by omega
            have x3 : ((m : Int) + 1).toNat = m + 1 := by omega
            go_simp
            first | exact rfl | exact ⟨rfl, hw'⟩
          simp only [Act.put, List.setIfInBounds_toArray, List.set_cons_succ, List.set_cons_zero]
          apply wpK_val
          · rfl
          · intro w' hw'
            go_simp
            first | exact rfl | exact ⟨rfl, hw'⟩
          simp only [Act.put, List.setIfInBounds_toArray, List.set_cons_succ, List.set_cons_zero]
          apply wpK_val
          · rfl
          · intro w' hw'
            have hcell := (hw'.cell (p := ⟨b, o + (m + 1) * 64 + k, none⟩) hB).trans c2
            go_simp
            first | exact rfl | exact ⟨rfl, hw'⟩
          simp only [Act.put, List.setIfInBounds_toArray, List.set_cons_succ, List.set_cons_zero]
          apply wpK_val
          · rfl
          · intro w' hw'
            go_simp
            first | exact rfl | exact ⟨rfl, hw'⟩
          simp only [Act.put, List.setIfInBounds_toArray, List.set_cons_succ, List.set_cons_zero]
          apply wpK_val
          · rfl
          · intro w' hw'
            go_simp
            first | exact rfl | exact ⟨rfl, hw'⟩
          simp only [Act.put, List.setIfInBounds_toArray, List.set_cons_succ, List.set_cons_zero]
          apply wpK_val
          · rfl
          · intro w' hw'
            go_simp
            first | exact rfl | exact ⟨rfl, hw'⟩
          simp only [Act.put, List.setIfInBounds_toArray, List.set_cons_succ, List.set_cons_zero]
          apply wpK_val
          · rfl
          · intro w' hw'
            go_simp
            first | exact rfl | exact ⟨rfl, hw'⟩
          simp only [Act.put, List.setIfInBounds_toArray, List.set_cons_succ, List.set_cons_zero]
          apply wpK_val
          · rfl
          · intro w' hw'
            go_simp
            exact (rQ_any (some ⟨b, o, none⟩) m cap k F HF.out (by omega) hlt _ ((HS2.out.below hw' (Nat.le_refl _)).more hw'.size)).mono fun e w'' ⟨he, ⟨j, hb'⟩⟩ => ⟨he, by subst hb'; exact below_drewN hw' _⟩
          simp only [Act.put, List.setIfInBounds_toArray, List.set_cons_succ, List.set_cons_zero]
          apply wpK_val
          · rfl
          · intro w' hw'
            go_simp
            first | exact rfl | exact ⟨rfl, hw'⟩
          simp only [Act.put, List.setIfInBounds_toArray, List.set_cons_succ, List.set_cons_zero]
          apply wpK_val
          · rfl
          · intro w' hw'
            go_simp
            first | exact rfl | exact ⟨rfl, hw'⟩
          simp only [Act.put, List.setIfInBounds_toArray, List.set_cons_succ, List.set_cons_zero]
          refine wpK_nil fun w6 hw6 => ?_
          go_wp2_with fail
          exact ⟨⟨k + 1, by omega, by go_num, hw6, hid fun j hj => by
            rcases Nat.lt_or_ge j k with h | h
            · exact H.out j h
            · obtain rfl : j = k := by omega
              exact ⟨E1.out, E2.out⟩⟩, by simp [intOf]; omega⟩
        · have t2 := nat_ne_yes e2
          have HN := hid (rightB_no hlt (.inr e2))
          clear e2
          refine wp_region_tail (C := fun w' => Below w.heap.size w w') 27 (by kernel_rfl) (by kernel_rfl) (by kernel_rfl) hb.drew ?_
          simp only [List.take_succ_cons, List.take_zero, List.drop_succ_cons, List.drop_zero]
          apply wpK_val
          · rfl
          · intro w' hw'
            go_simp
            first | exact rfl | exact ⟨rfl, hw'⟩
          simp only [Act.put, List.setIfInBounds_toArray, List.set_cons_succ, List.set_cons_zero]
          apply wpK_val
          · rfl
          · intro w' hw'
            go_simp
            first | exact rfl | exact ⟨rfl, hw'⟩
          simp only [Act.put, List.setIfInBounds_toArray, List.set_cons_succ, List.set_cons_zero]
          apply wpK_val
          · rfl
          · intro w' hw'
            go_simp
            first | exact rfl | exact ⟨rfl, hw'⟩
          simp only [Act.put, List.setIfInBounds_toArray, List.set_cons_succ, List.set_cons_zero]
          apply wpK_val
          · rfl
          · intro w' hw'
            go_simp
            first | exact rfl | exact ⟨rfl, hw'⟩
          simp only [Act.put, List.setIfInBounds_toArray, List.set_cons_succ, List.set_cons_zero]
          apply wpK_val
          · rfl
          · intro w' hw'
            go_simp
            first | exact rfl | exact ⟨rfl, hw'⟩
          simp only [Act.put, List.setIfInBounds_toArray, List.set_cons_succ, List.set_cons_zero]
          apply wpK_val
          · rfl
          · intro w' hw'
            have hcell := (hw'.cell (p := ⟨b, o + m * 64 + k, none⟩) hB).trans c1
            go_simp
            first | exact rfl | exact ⟨rfl, hw'⟩
          simp only [Act.put, List.setIfInBounds_toArray, List.set_cons_succ, List.set_cons_zero]
          apply wpK_val
          · rfl
          · intro w' hw'
            go_simp
            first | exact rfl | exact ⟨rfl, hw'⟩
          simp only [Act.put, List.setIfInBounds_toArray, List.set_cons_succ, List.set_cons_zero]
          apply wpK_val
          · rfl
          · intro w' hw'
            go_simp
            first | exact rfl | exact ⟨rfl, hw'⟩
          simp only [Act.put, List.setIfInBounds_toArray, List.set_cons_succ, List.set_cons_zero]
          apply wpK_val
          · rfl
          · intro w' hw'
            go_simp
            first | exact rfl | exact ⟨rfl, hw'⟩
          simp only [Act.put, List.setIfInBounds_toArray, List.set_cons_succ, List.set_cons_zero]
          apply wpK_val
          · rfl
          · intro w' hw'
            go_simp
            first | exact rfl | exact ⟨rfl, hw'⟩
          simp only [Act.put, List.setIfInBounds_toArray, List.set_cons_succ, List.set_cons_zero]
          apply wpK_val
          · rfl
          · intro w' hw'
            go_simp
            exact (rP_any (some ⟨b, o, none⟩) m cap k F HF.out (by omega) hlt _ ((HS2.out.below hw' (Nat.le_refl _)).more hw'.size)).mono fun e w'' ⟨he, hb'⟩ => ⟨he, by subst hb'; exact hw'⟩
          simp only [Act.put, List.setIfInBounds_toArray, List.set_cons_succ, List.set_cons_zero]
          apply wpK_val
          · rfl
          · intro w' hw'
            go_simp
            first | exact rfl | exact ⟨rfl, hw'⟩
          simp only [Act.put, List.setIfInBounds_toArray, List.set_cons_succ, List.set_cons_zero]
          apply wpK_val
          · rfl
          · intro w' hw'
            go_simp
            first | exact rfl | exact ⟨rfl, hw'⟩
          simp only [Act.put, List.setIfInBounds_toArray, List.set_cons_succ, List.set_cons_zero]
          apply wpK_val
          · rfl
          · intro w' hw'
            go_simp
            first | exact rfl | exact ⟨rfl, hw'⟩
          simp only [Act.put, List.setIfInBounds_toArray, List.set_cons_succ, List.set_cons_zero]
          apply wpK_val
          · rfl
          · intro w' hw'
            go_simp
            first | exact rfl | exact ⟨rfl, hw'⟩
          simp only [Act.put, List.setIfInBounds_toArray, List.set_cons_succ, List.set_cons_zero]
          apply wpK_val
          · rfl
          · intro w' hw'
            have x1 : IntKind.i64.wrap ((m : Int) + 1) = (m : Int) + 1 := IntWalk.i64_in _ (by omega)
            go_simp
            first | exact rfl | exact ⟨rfl, hw'⟩
          simp only [Act.put, List.setIfInBounds_toArray, List.set_cons_succ, List.set_cons_zero]
          apply wpK_val
          · rfl
          · intro w' hw'
            go_simp
            first | exact rfl | exact ⟨rfl, hw'⟩
          simp only [Act.put, List.setIfInBounds_toArray, List.set_cons_succ, List.set_cons_zero]
          apply wpK_val
          · rfl
          · intro w' hw'
            have x2 : (0 : Int) ≤ (m : Int) + 1 := by omega
            have x3 : ((m : Int) + 1).toNat = m + 1 := by omega
            go_simp
            first | exact rfl | exact ⟨rfl, hw'⟩
          simp only [Act.put, List.setIfInBounds_toArray, List.set_cons_succ, List.set_cons_zero]
          apply wpK_val
          · rfl
          · intro w' hw'
            go_simp
            first | exact rfl | exact ⟨rfl, hw'⟩
          simp only [Act.put, List.setIfInBounds_toArray, List.set_cons_succ, List.set_cons_zero]
          apply wpK_val
          · rfl
          · intro w' hw'
            have hcell := (hw'.cell (p := ⟨b, o + (m + 1) * 64 + k, none⟩) hB).trans c2
            go_simp
            first | exact rfl | exact ⟨rfl, hw'⟩
          simp only [Act.put, List.setIfInBounds_toArray, List.set_cons_succ, List.set_cons_zero]
          apply wpK_val
          · rfl
          · intro w' hw'
            go_simp
            first | exact rfl | exact ⟨rfl, hw'⟩
          simp only [Act.put, List.setIfInBounds_toArray, List.set_cons_succ, List.set_cons_zero]
          apply wpK_val
          · rfl
          · intro w' hw'
            go_simp
            first | exact rfl | exact ⟨rfl, hw'⟩
          simp only [Act.put, List.setIfInBounds_toArray, List.set_cons_succ, List.set_cons_zero]
          apply wpK_val
          · rfl
          · intro w' hw'
            go_simp
            first | exact rfl | exact ⟨rfl, hw'⟩
          simp only [Act.put, List.setIfInBounds_toArray, List.set_cons_succ, List.set_cons_zero]
          apply wpK_val
          · rfl
          · intro w' hw'
            go_simp
            first | exact rfl | exact ⟨rfl, hw'⟩
          simp only [Act.put, List.setIfInBounds_toArray, List.set_cons_succ, List.set_cons_zero]
          apply wpK_val
          · rfl
          · intro w' hw'
            go_simp
            exact (rQ_any (some ⟨b, o, none⟩) m cap k F HF.out (by omega) hlt _ ((HS2.out.below hw' (Nat.le_refl _)).more hw'.size)).mono fun e w'' ⟨he, ⟨j, hb'⟩⟩ => ⟨he, by subst hb'; exact below_drewN hw' _⟩
          simp only [Act.put, List.setIfInBounds_toArray, List.set_cons_succ, List.set_cons_zero]
          apply wpK_val
          · rfl
          · intro w' hw'
            go_simp
            first | exact rfl | exact ⟨rfl, hw'⟩
          simp only [Act.put, List.setIfInBounds_toArray, List.set_cons_succ, List.set_cons_zero]
          apply wpK_val
          · rfl
          · intro w' hw'
            go_simp
            first | exact rfl | exact ⟨rfl, hw'⟩
          simp only [Act.put, List.setIfInBounds_toArray, List.set_cons_succ, List.set_cons_zero]
          refine wpK_nil fun w6 hw6 => ?_
          go_wp2_with fail
          go_ret
          exact ⟨by rw [HN.out]; rfl, hw6⟩
      · have t1 := nat_ne_yes e1
        have HN := hid (rightB_no hlt (.inl e1))
        clear e1
        refine wp_region_tail (C := fun w' => Below w.heap.size w w') 27 (by kernel_rfl) (by kernel_rfl) (by kernel_rfl) hb.drew ?_
        simp only [List.take_succ_cons, List.take_zero, List.drop_succ_cons, List.drop_zero]
        apply wpK_val
        · rfl
        · intro w' hw'
          go_simp
          first | exact rfl | exact ⟨rfl, hw'⟩
        simp only [Act.put, List.setIfInBounds_toArray, List.set_cons_succ, List.set_cons_zero]
        apply wpK_val
        · rfl
        · intro w' hw'
          go_simp
          first | exact rfl | exact ⟨rfl, hw'⟩
        simp only [Act.put, List.setIfInBounds_toArray, List.set_cons_succ, List.set_cons_zero]
        apply wpK_val
        · rfl
        · intro w' hw'
          go_simp
          first | exact rfl | exact ⟨rfl, hw'⟩
        simp only [Act.put, List.setIfInBounds_toArray, List.set_cons_succ, List.set_cons_zero]
        apply wpK_val
        · rfl
        · intro w' hw'
          go_simp
          first | exact rfl | exact ⟨rfl, hw'⟩
        simp only [Act.put, List.setIfInBounds_toArray, List.set_cons_succ, List.set_cons_zero]
        apply wpK_val
        · rfl
        · intro w' hw'
          go_simp
          first | exact rfl | exact ⟨rfl, hw'⟩
        simp only [Act.put, List.setIfInBounds_toArray, List.set_cons_succ, List.set_cons_zero]
        apply wpK_val
        · rfl
        · intro w' hw'
          have hcell := (hw'.cell (p := ⟨b, o + m * 64 + k, none⟩) hB).trans c1
          go_simp
          first | exact rfl | exact ⟨rfl, hw'⟩
        simp only [Act.put, List.setIfInBounds_toArray, List.set_cons_succ, List.set_cons_zero]
        apply wpK_val
        · rfl
        · intro w' hw'
          go_simp
          first | exact rfl | exact ⟨rfl, hw'⟩
        simp only [Act.put, List.setIfInBounds_toArray, List.set_cons_succ, List.set_cons_zero]
        apply wpK_val
        · rfl
        · intro w' hw'
          go_simp
          first | exact rfl | exact ⟨rfl, hw'⟩
        simp only [Act.put, List.setIfInBounds_toArray, List.set_cons_succ, List.set_cons_zero]
        apply wpK_val
        · rfl
        · intro w' hw'
          go_simp
          first | exact rfl | exact ⟨rfl, hw'⟩
        simp only [Act.put, List.setIfInBounds_toArray, List.set_cons_succ, List.set_cons_zero]
        apply wpK_val
        · rfl
        · intro w' hw'
          go_simp
          first | exact rfl | exact ⟨rfl, hw'⟩
        simp only [Act.put, List.setIfInBounds_toArray, List.set_cons_succ, List.set_cons_zero]
        apply wpK_val
        · rfl
        · intro w' hw'
          go_simp
          exact (rP_any (some ⟨b, o, none⟩) m cap k F HF.out (by omega) hlt _ ((HS2.out.below hw' (Nat.le_refl _)).more hw'.size)).mono fun e w'' ⟨he, hb'⟩ => ⟨he, by subst hb'; exact hw'⟩
        simp only [Act.put, List.setIfInBounds_toArray, List.set_cons_succ, List.set_cons_zero]
        apply wpK_val
        · rfl
        · intro w' hw'
          go_simp
          first | exact rfl | exact ⟨rfl, hw'⟩
        simp only [Act.put, List.setIfInBounds_toArray, List.set_cons_succ, List.set_cons_zero]
        apply wpK_val
        · rfl
        · intro w' hw'
          go_simp
          first | exact rfl | exact ⟨rfl, hw'⟩
        simp only [Act.put, List.setIfInBounds_toArray, List.set_cons_succ, List.set_cons_zero]
        apply wpK_not
        · rfl
        simp only [Act.put, List.setIfInBounds_toArray, List.set_cons_succ, List.set_cons_zero]
        apply wpK_not
        · rfl
        simp only [Act.put, List.setIfInBounds_toArray, List.set_cons_succ, List.set_cons_zero]
        apply wpK_not
        · rfl
        simp only [Act.put, List.setIfInBounds_toArray, List.set_cons_succ, List.set_cons_zero]
        apply wpK_not
        · rfl
        simp only [Act.put, List.setIfInBounds_toArray, List.set_cons_succ, List.set_cons_zero]
        apply wpK_not
        · rfl
        simp only [Act.put, List.setIfInBounds_toArray, List.set_cons_succ, List.set_cons_zero]
        apply wpK_not
        · rfl
        simp only [Act.put, List.setIfInBounds_toArray, List.set_cons_succ, List.set_cons_zero]
        apply wpK_not
        · rfl
        simp only [Act.put, List.setIfInBounds_toArray, List.set_cons_succ, List.set_cons_zero]
        apply wpK_not
        · rfl
        simp only [Act.put, List.setIfInBounds_toArray, List.set_cons_succ, List.set_cons_zero]
        apply wpK_not
        · rfl
        simp only [Act.put, List.setIfInBounds_toArray, List.set_cons_succ, List.set_cons_zero]
        apply wpK_not
        · rfl
        simp only [Act.put, List.setIfInBounds_toArray, List.set_cons_succ, List.set_cons_zero]
        apply wpK_not
        · rfl
        simp only [Act.put, List.setIfInBounds_toArray, List.set_cons_succ, List.set_cons_zero]
        apply wpK_not
        · rfl
        simp only [Act.put, List.setIfInBounds_toArray, List.set_cons_succ, List.set_cons_zero]
        apply wpK_not
        · rfl
        simp only [Act.put, List.setIfInBounds_toArray, List.set_cons_succ, List.set_cons_zero]
        apply wpK_val
        · rfl
        · intro w' hw'
          go_simp
          first | exact rfl | exact ⟨rfl, hw'⟩
        simp only [Act.put, List.setIfInBounds_toArray, List.set_cons_succ, List.set_cons_zero]
        refine wpK_nil fun w6 hw6 => ?_
        go_wp2_with fail
        go_ret
        exact ⟨by rw [HN.out]; rfl, hw6⟩
    · have HN := hid (rightB_yes fun j hj => H.out j (by omega))
      clear H
      go_wp2_with fail
      go_ret
      exact ⟨by rw [HN.out]; rfl, hb⟩
end Go.Proofs.Ytlbfjnddbdpdpaa
set_option maxRecDepth 100000
namespace Go.Proofs.Ytlbfjnddbdpdpaa
open Go.ChangeShapes Go.WideShapes Go.ChangeAt Go.RowKit
/-- n sectors F, and behind them those of G. -/
def catF (n : Nat) (F G : Nat → Nat → Nat) : Nat → Nat → Nat := fun i => if i < n then F i else G (i - n)
theorem secs_cat {n m : Nat} {F G : Nat → Nat → Nat} : (secs n F).toList ++ (secs m G).toList = (secs (n + m) (catF n F G)).toList := by
  apply List.ext_getElem?
  intro j
  rw [List.getElem?_append, Array.length_toList, size_secs, Array.getElem?_toList, Array.getElem?_toList, Array.getElem?_toList]
  unfold secs
  rw [get_row, get_row, get_row]
  by_cases h : j < n * 64
  · rw [if_pos h, if_pos h, if_pos (by omega)]
    unfold catF
    rw [if_pos (by omega)]
  · rw [if_neg h]
    by_cases h2 : j < (n + m) * 64
    · rw [if_pos h2, if_pos (by omega)]
      unfold catF
      rw [if_neg (by omega), show (j - n * 64) / 64 = j / 64 - n by omega, show (j - n * 64) % 64 = j % 64 by omega]
    · rw [if_neg h2, if_neg (by omega)]
/-- v is a slice of n sectors F, in a row of its own from block B on. -/
def OwnS (w : World) (B : Nat) (v : Value) (n : Nat) (F : Nat → Nat → Nat) : Prop := w.ownsRow B 32 64 v n (secs n F).toList
theorem bytes_sec : (Try.prog.info? 32).map (·.bytes) = some 64 := by kernel_rfl
theorem parts_sec : ∃ (i : TypeInfo) (z : Value), Try.prog.info? 32 = some i ∧ i.zero = some z ∧ i.size = 64 ∧ i.bytes = 64 ∧ z.cells.size = 64 := by
  have hi : ∃ ie, Try.prog.info? 32 = some ie := ⟨_, rfl⟩
  obtain ⟨i, hi⟩ := hi
  have h1 := info_sec
  have h2 := bytes_sec
  have h3 : ((Try.prog.info? 32).bind (·.zero)).map (·.cells.size) = some 64 := by kernel_rfl
  rw [hi] at h1 h2 h3
  simp only [Option.map_some, Option.some.injEq, Option.bind_some] at h1 h2 h3
  cases hz : i.zero with
  | none => rw [hz] at h3; cases h3
  | some z => rw [hz] at h3; exact ⟨i, z, hi, hz, h1, h2, by simpa using h3⟩
section
variable {w w' : World} {B n : Nat} {v : Value} {F : Nat → Nat → Nat}
theorem OwnS.mono (h : OwnS w B v n F) {G : Nat → Nat → Nat} (he : ∀ i k, i < n → k < 64 → G i k = F i k) : OwnS w B v n G := by unfold OwnS; rw [secs_ext he]; exact h
theorem OwnS.empty (w : World) (hB : B ≤ w.heap.size) (F : Nat → Nat → Nat) : OwnS (w.alloc (.cells #[] 32)) B (.slice (some ⟨w.heap.size, 0, none⟩) 0 0) 0 F := by
  have h0 : (secs 0 F).toList = [] := by
    apply List.eq_nil_of_length_eq_zero
    rw [Array.length_toList, size_secs]
  unfold OwnS
  rw [h0]
  exact World.ownsRow_made w #[] 0 hB (Nat.zero_le _) rfl
/-- As one reads it: block g, from its first cell on. -/
theorem OwnS.form (h : OwnS w B v n F) (h0 : v ≠ .slice none 0 0) : ∃ g cap, v = .slice (some ⟨g, 0, none⟩) n cap ∧ B ≤ g ∧ g < w.heap.size ∧ n ≤ cap ∧ (∀ i, i < n → w.rangeAt g (0 + i * 64) (sec (F i)).toList) := by
  rcases h.2 with ⟨h', _⟩ | ⟨g, cap, cur, hv, hB, hg, hnc, hcm, hcs, ht⟩
  · exact absurd h' h0
  · refine ⟨g, cap, hv, hB, Blk.lt (t := 32) (cs := cur) hg, hnc, fun i hi j u hj => ?_⟩
    obtain ⟨hj64, rfl⟩ := get_sec_list hj
    rw [cell_of_row w g _ cur _ _ hg]
    have h1 : (secs n F).toList[i * 64 + j]? = some (.int .u8 (F i j)) := by rw [Array.getElem?_toList]; exact get_secs hi hj64
    rw [← ht, List.getElem?_take_of_lt (by omega), Array.getElem?_toList] at h1
    rw [Nat.zero_add]; exact h1
theorem OwnS.kept {row : Option Nat} (h : OwnS w B v n F) (hg : w.grownBy w' row) (hne : v.ownBlock = none ∨ v.ownBlock ≠ row) : OwnS w' B v n F := World.ownsRow.kept h hg hne
theorem OwnS.below {k : Nat} (h : OwnS w B v n F) (hb : Below k w w') (hk : w.heap.size ≤ k) : OwnS w' B v n F :=
  World.ownsRow.kept (row := none) h ⟨hb.os, hb.tape, hb.output, hb.size, fun i hi _ => hb.block i (by omega)⟩ (by
    cases v.ownBlock with
    | none => exact .inl rfl
    | some g => exact .inr (fun e => by cases e))
end
section
variable {ops : Array Oper} {Q : Exit → Act → World → Prop} {a : Act} {w : World} {rest : List Oper} {dst : Option Tmp} {ty : TypeId} {pos : String} {after : Array Edge} {s x : Operand} {n m c B : Nat} {v : Value} {F G : Nat → Nat → Nat}
/-- append of another slice's sectors to one of the call's own. -/
theorem wapp {ad : Addr} {B' : Nat} (hs : a.eval s = v) (hx : a.eval x = .slice (some ad) m c) (hown : OwnS w B v n F) (hrd : Secs w B' (some ad) m G) (hsz : n + m ≤ 1000000) (hB : B ≤ w.heap.size)
    (h : ∀ v' w', OwnS w' B v' (n + m) (catF n F G) → w.grownBy w' v.ownBlock → (v' = .slice none 0 0 ↔ v = .slice none 0 0 ∧ m = 0) → wpList Try.prog ops Q rest (a.put dst v') w') :
    wpList Try.prog ops Q (⟨dst, .call { callee := .builtin .append, args := #[s, x], argTypes := #[53, 53] }, ty, pos, after, none⟩ :: rest) a w := by
  obtain ⟨i, z, hi, hz, h1, h2, h3⟩ := parts_sec
  refine wpList_append_own w rfl s x 53 rfl B 32 i z 64 64 Try.underlying53 hi hz h1 h2 h3 (by omega) v n _ hs hown ad m c (secs m G).toList hx (by rw [Array.length_toList, size_secs]) ?_ ?_
    (by unfold maxLen; omega) (by omega) hB ?_
  · intro j u hj
    have hjm : j < m * 64 := by
      have := (List.getElem?_eq_some_iff.1 hj).1
      rwa [Array.length_toList, size_secs] at this
    have h4 : (secs m G).toList[j / 64 * 64 + j % 64]? = some (.int .u8 (G (j / 64) (j % 64))) := by
      rw [Array.getElem?_toList]; exact get_secs (by omega) (Nat.mod_lt _ (by omega))
    rw [show j / 64 * 64 + j % 64 = j by omega, hj] at h4
    obtain ⟨b, o, e, _, hr⟩ := hrd (by omega)
    obtain rfl : ad = ⟨b, o, none⟩ := Option.some.inj e
    have h5 := hr (j / 64) (by omega) (j % 64) u (by rw [h4, Array.getElem?_toList]; exact get_sec (Nat.mod_lt _ (by omega)))
    rw [Addr.add_mid]
    rwa [show o + j / 64 * 64 + j % 64 = o + j by omega] at h5
  · intro u hu
    have := (Array.all_eq_true_iff_forall_mem.1 (secs_one (n := m) (F := G))) u (by simpa using hu)
    exact this
  · intro v' w' h4 h5 h6
    rw [secs_cat] at h4
    exact h v' w' h4 h5 h6
theorem wapp_none (hs : a.eval s = v) (hx : a.eval x = .slice none 0 0) (hown : OwnS w B v n F) (h : wpList Try.prog ops Q rest (a.put dst v) w) :
    wpList Try.prog ops Q (⟨dst, .call { callee := .builtin .append, args := #[s, x], argTypes := #[53, 53] }, ty, pos, after, none⟩ :: rest) a w := by
  obtain ⟨i, z, hi, hz, h1, h2, h3⟩ := parts_sec
  refine wpList_plain rfl fun K hK => ?_
  unfold Oper.wp execOp
  have := run_append_owned_none (P := Try.prog) w B 53 ty 32 i 64 Try.underlying53 hi v n _ hown
  simp only [resolve, invoke, builtin, Sem.run_bind, Sem.run_pure, Result.andThen_ok, List.map_toArray, List.map_cons, List.map_nil, hs, hx, this]
  exact hK _ _ h
end
/-- What a copy of up to m sectors is. -/
def SomeOwn (w : World) (n : Nat) (F : Nat → Nat → Nat) (e : Ending) (w' : World) : Prop := ∃ g cap : Nat, e = .returned (.slice (some ⟨g, 0, none⟩) n cap) ∧ OwnS w' w.heap.size (.slice (some ⟨g, 0, none⟩) n cap) n F ∧ Below w.heap.size w w'
end Go.Proofs.Ytlbfjnddbdpdpaa
set_option maxRecDepth 100000
namespace Go.Proofs.Ytlbfjnddbdpdpaa
open Go.ChangeShapes Go.WideShapes Go.ChangeAt Go.RowKit
def ofP (n : Nat) (F : Nat → Nat → Nat) : Nat → Nat := if n = 0 ∨ 62 < n then fun _ => 0 else PP F n
def ofQ (n : Nat) (F : Nat → Nat → Nat) : Nat → Nat := if n = 0 ∨ 62 < n then fun _ => 0 else QQ F n
def ofE (n : Nat) : Int := if n = 0 then 2 else if 62 < n then 3 else 0
def rightA (n : Nat) (F : Nat → Nat → Nat) : Bool := if 3 ≤ n ∧ n ≤ 64 then rightB (n - 2) F else false
section
variable (A : Option Addr) (n cap : Nat) (F : Nat → Nat → Nat) (hF : ∀ i k, F i k < 256) (hn : n ≤ 1000) (hc : n ≤ cap) (w : World) (hs : Secs w w.heap.size A n F)
include hF hn hs
theorem of_any : Calls Try.prog 45 #[.slice A n cap] w fun e w' => e = .returned (.tuple #[.agg (sec (ofP n F)), .agg (sec (ofQ n F)), .int .i64 (ofE n)]) ∧ Below w.heap.size w w' := by
  unfold ofP ofQ ofE
  by_cases h0 : n = 0
  · subst h0; simp only [true_or, if_true]; exact of_none A cap w
  · by_cases h1 : 62 < n
    · simp only [h0, h1, or_true, if_true, if_false]; exact of_long A n cap h1 (by omega) w
    · simp only [h0, h1, or_false, if_false]; exact of_some A n cap F hF (by omega) (by omega) w hs
end
section
variable (A : Option Addr) (n cap : Nat) (F : Nat → Nat → Nat) (hF : ∀ i k, F i k < 256) (hn : n ≤ 1000) (hc : n ≤ cap) (w : World) (hs : Secs w w.heap.size A n F)
include hF hn hs hc
theorem right_any : Calls Try.prog 43 #[.slice A n cap] w fun e w' => e = .returned (.bool (rightA n F)) ∧ Below w.heap.size w w' := by
  unfold rightA
  by_cases h : 3 ≤ n ∧ n ≤ 64
  · rw [if_pos h]
    obtain ⟨m, rfl⟩ : ∃ m, n = m + 2 := ⟨n - 2, by omega⟩
    exact right_mid A m cap F hF (by omega) (by omega) hc w hs
  · rw [if_neg h]
    exact (right_few A n cap (by omega) (by omega) w).mono fun e w' ⟨h1, h2⟩ => ⟨h1, by subst h2; exact Below.refl _ _⟩
theorem rright_any : Calls Try.prog 44 #[.slice A n cap] w fun e w' => e = .returned (.bool (rightA n F)) ∧ Below w.heap.size w w' := by
  unfold rightA
  by_cases h : 3 ≤ n ∧ n ≤ 64
  · rw [if_pos h]
    obtain ⟨m, rfl⟩ : ∃ m, n = m + 2 := ⟨n - 2, by omega⟩
    exact rright_mid A m cap F hF (by omega) (by omega) hc w hs
  · rw [if_neg h]
    exact (rright_few A n cap (by omega) (by omega) w).mono fun e w' ⟨h1, h2⟩ => ⟨h1, by subst h2; exact Below.refl _ _⟩
end
theorem OwnS.secs {w : World} {B g n cap : Nat} {F : Nat → Nat → Nat} (h : OwnS w B (.slice (some ⟨g, 0, none⟩) n cap) n F) : Secs w w.heap.size (some ⟨g, 0, none⟩) n F ∧ n ≤ cap := by
  obtain ⟨g', cap', e, _, hl, hc, hr⟩ := h.form (fun e => by cases e)
  simp only [Value.slice.injEq, Option.some.injEq, Addr.mk.injEq, and_true, true_and] at e
  obtain ⟨rfl, rfl⟩ := e
  exact ⟨fun _ => ⟨g, 0, rfl, hl, hr⟩, hc⟩
end Go.Proofs.Ytlbfjnddbdpdpaa
set_option maxRecDepth 100000
namespace Go.Proofs.Ytlbfjnddbdpdpaa
open Go.ChangeShapes Go.WideShapes Go.ChangeAt Go.RowKit
/-- A slice of n ints, in one row below block B. -/
def Ints (w : World) (B : Nat) (A : Option Addr) (n : Nat) (L : Nat → Int) : Prop :=
  0 < n → ∃ b o, A = some ⟨b, o, none⟩ ∧ b < B ∧ ∀ i, i < n → w.cell? ⟨b, o + i, none⟩ = some (.int .i64 (L i))
theorem Ints.below {B B' n : Nat} {w w' : World} {A : Option Addr} {L : Nat → Int} (h : Ints w B A n L) (hb : Below B' w w') (hB : B ≤ B') : Ints w' B A n L := fun hn => by
  obtain ⟨b, o, rfl, hl, hr⟩ := h hn
  exact ⟨b, o, rfl, hl, fun i hi => (hb.cell (p := ⟨b, o + i, none⟩) (by show b < B'; omega)).trans (hr i hi)⟩
theorem Ints.more {B B' n : Nat} {w : World} {A : Option Addr} {L : Nat → Int} (h : Ints w B A n L) (hB : B ≤ B') : Ints w B' A n L := fun hn => by
  obtain ⟨b, o, rfl, hl, hr⟩ := h hn
  exact ⟨b, o, rfl, by omega, hr⟩
/-- No column's number, of N columns. -/
def outB (N : Nat) (x : Int) : Bool := decide (x < 0) || decide ((N : Int) ≤ x)
theorem outside_any (x : Int) (g N c : Nat) (A : Option Addr) (w : World) (hc : w.cell? ⟨g, 0, none⟩ = some (.slice A N c)) :
    Calls Try.prog 46 #[.int .i64 x, .pointer (some ⟨g, 0, none⟩)] w fun e w' => e = .returned (.bool (outB N x)) ∧ w = w' := by
  rcases Int.lt_or_le x 0 with h0 | h0
  · have HN : RowKit.Hid (outB N x = true) := by unfold outB; simp [h0]; exact hid trivial
    have t1 : decide (x < 0) = true := by simp [h0]
    go_enter Try.func46, Try.ntmps46
    go_wp2_with fail
    go_ret
    exact ⟨by rw [HN.out]; rfl, rfl⟩
  · have t1 : decide (x < 0) = false := by simp; omega
    have HN : RowKit.Hid (outB N x = decide ((N : Int) ≤ x)) := by unfold outB; rw [t1, Bool.false_or]; exact hid rfl
    go_enter Try.func46, Try.ntmps46
    go_wp2_with fail
    go_ret
    exact ⟨by rw [HN.out]; rfl, rfl⟩
/-- Is one of the first n no column's? -/
def anyOut (N n : Nat) (L : Nat → Int) : Bool := (List.range n).any fun i => outB N (L i)
theorem anyOut_no {N n : Nat} {L : Nat → Int} (h : ∀ i, i < n → outB N (L i) = false) : anyOut N n L = false := by
  unfold anyOut
  rw [List.any_eq_false]
  intro i hi
  rw [h i (List.mem_range.1 hi)]
  simp
theorem anyOut_yes {N n i : Nat} {L : Nat → Int} (hi : i < n) (h : outB N (L i) = true) : anyOut N n L = true := List.any_eq_true.2 ⟨i, List.mem_range.2 hi, h⟩
def IndexPost (N n : Nat) (L : Nat → Int) (w : World) (e : Ending) (w' : World) : Prop := w = w' ∧ ((anyOut N n L = true ∧ ∃ i : Nat, e = .returned (.int .i64 i) ∧ i < n) ∨ (anyOut N n L = false ∧ e = .returned (.int .i64 (-1))))
theorem index_any (A A' : Option Addr) (n c g N c' : Nat) (L : Nat → Int) (hn : n ≤ 1000000) (w : World) (hs : Ints w w.heap.size A n L) (hc : w.cell? ⟨g, 0, none⟩ = some (.slice A' N c')) :
    Calls Try.prog 66 #[.slice A n c, .func (.func 46) #[] #[.pointer (some ⟨g, 0, none⟩)]] w (IndexPost N n L w) := by
  have HS := hid hs
  have HC := hid hc
  clear hs hc
  go_enter Try.func66, Try.ntmps66
  go_wp2_with fail
  go_loop [8] (fun i => ∃ j : Nat, j ≤ n ∧ i = .int .i64 j ∧ Hid (∀ i, i < j → outB N (L i) = false)) (fun i => n - (intOf i).toNat)
  case atStart => exact ⟨0, by omega, rfl, hid fun i hi => absurd hi (by omega)⟩
  case round =>
    obtain ⟨j, hj, rfl, H⟩ := hrel
    by_cases hlt : j < n
    · obtain ⟨b, o, rfl, hB, hr⟩ := HS.out (by omega)
      have c1 := hr j hlt
      clear hr
      go_wp2_with fail
      refine (outside_any (L j) g N c' A' w HC.out).mono ?_
      rintro e w' ⟨rfl, rfl⟩
      cases ho : outB N (L j) with
      | true =>
        have HN : RowKit.Hid (anyOut N n L = true) := hid (anyOut_yes hlt ho)
        go_wp2_with fail
        go_ret
        exact ⟨rfl, .inl ⟨HN.out, j, rfl, hlt⟩⟩
      | false =>
        have HO := hid ho
        go_wp2_with fail
        go_round
        case rel => exact ⟨j + 1, by omega, by go_num, hid fun i hi => by
          rcases Nat.lt_or_ge i j with h | h
          · exact H.out i h
          · obtain rfl : i = j := by omega
            exact HO.out⟩
        case measure => simp [intOf]; omega
    · obtain rfl : j = n := by omega
      have HN := hid (anyOut_no H.out)
      clear H
      go_wp2_with fail
      go_ret
      exact ⟨rfl, .inr ⟨HN.out, rfl⟩⟩
theorem contains_any (A A' : Option Addr) (n c g N c' : Nat) (L : Nat → Int) (hn : n ≤ 1000000) (w : World) (hs : Ints w w.heap.size A n L) (hc : w.cell? ⟨g, 0, none⟩ = some (.slice A' N c')) :
    Calls Try.prog 47 #[.slice A n c, .func (.func 46) #[] #[.pointer (some ⟨g, 0, none⟩)]] w fun e w' => e = .returned (.bool (anyOut N n L)) ∧ w = w' := by
  have HS := hid hs
  have HC := hid hc
  clear hs hc
  go_enter Try.func47, Try.ntmps47
  go_wp2_with fail
  refine (index_any A A' n c g N c' L hn w HS.out HC.out).mono ?_
  rintro e w' ⟨rfl, ⟨h1, i, rfl, hi⟩ | ⟨h1, rfl⟩⟩
  · have HN := hid h1
    clear h1
    have t1 : (0 : Int) ≤ (i : Int) := by omega
    go_wp2_with fail
    go_ret
    exact ⟨by rw [HN.out]; simp, rfl⟩
  · have HN := hid h1
    clear h1
    go_wp2_with fail
    go_ret
    exact ⟨by rw [HN.out]; rfl, rfl⟩

/-! ### Which columns are lost -/
def marks (n : Nat) (L : Nat → Int) (j : Nat) : Bool := (List.range n).any fun i => L i == (j : Int)
theorem marks_iff {n : Nat} {L : Nat → Int} {j : Nat} : marks n L j = true ↔ ∃ i, i < n ∧ L i = (j : Int) := by
  unfold marks
  rw [List.any_eq_true]
  constructor
  · rintro ⟨i, hi, h⟩; exact ⟨i, List.mem_range.1 hi, beq_iff_eq.1 h⟩
  · rintro ⟨i, hi, h⟩; exact ⟨i, List.mem_range.2 hi, beq_iff_eq.2 h⟩
theorem marks_succ {n : Nat} {L : Nat → Int} {j : Nat} : marks (n + 1) L j = (marks n L j || (L n == (j : Int))) := by
  unfold marks
  rw [List.range_succ, List.any_append]
  simp
theorem marks_same {n x : Nat} {L : Nat → Int} (hx : L n = (x : Int)) (h : marks n L x = true) : marks (n + 1) L = marks n L := by
  funext j
  rw [marks_succ, hx]
  by_cases e : x = j
  · subst e; rw [h, Bool.true_or]
  · have : ((x : Int) == (j : Int)) = false := by rw [beq_eq_false_iff_ne]; omega
    rw [this, Bool.or_false]
theorem marks_new {n x : Nat} {L : Nat → Int} (hx : L n = (x : Int)) (j : Nat) : marks (n + 1) L j = if j = x then true else marks n L j := by
  rw [marks_succ, hx]
  by_cases e : j = x
  · subst e; simp
  · have : ((x : Int) == (j : Int)) = false := by rw [beq_eq_false_iff_ne]; omega
    rw [this, Bool.or_false, if_neg e]
/-- How many columns are lost. -/
def cntM (M : Nat → Bool) : Nat := (List.range 64).countP M
theorem cntM_le (M : Nat → Bool) : cntM M ≤ 64 := by
  have := List.countP_le_length (p := M) (l := List.range 64)
  simpa [cntM] using this
theorem cntM_new {n x : Nat} {L : Nat → Int} (hx : L n = (x : Int)) (h64 : x < 64) (h : marks n L x = false) : cntM (marks (n + 1) L) = cntM (marks n L) + 1 := by
  unfold cntM
  refine (countP_one (i := x) ?_ h (fun j hj => ?_) List.nodup_range (List.mem_range.2 h64)).symm
  · rw [marks_new hx, if_pos rfl]
  · rw [marks_new hx, if_neg hj]
theorem info_marks : (Try.prog.info? 107).map (·.size) = some 64 := by kernel_rfl
theorem zmarks : (#[.bool false, .bool false, .bool false, .bool false, .bool false, .bool false, .bool false, .bool false, .bool false, .bool false, .bool false, .bool false, .bool false, .bool false, .bool false, .bool false, .bool false, .bool false, .bool false, .bool false, .bool false, .bool false, .bool false, .bool false, .bool false, .bool false, .bool false, .bool false, .bool false, .bool false, .bool false, .bool false, .bool false, .bool false, .bool false, .bool false, .bool false, .bool false, .bool false, .bool false, .bool false, .bool false, .bool false, .bool false, .bool false, .bool false, .bool false, .bool false, .bool false, .bool false, .bool false, .bool false, .bool false, .bool false, .bool false, .bool false, .bool false, .bool false, .bool false, .bool false, .bool false, .bool false, .bool false, .bool false] : Array Value) = row 64 fun j => .bool (marks 0 (fun _ => 0) j) := by rfl
theorem marks_zero (L : Nat → Int) : (row 64 fun j => Value.bool (marks 0 L j)) = row 64 fun j => .bool (marks 0 (fun _ => 0) j) := row_ext fun _ _ => rfl
def FinderPost (n : Nat) (L : Nat → Int) (w : World) (e : Ending) (w' : World) : Prop :=
  e = .returned (.tuple #[.func (.func 67) #[] #[.pointer (some ⟨w.heap.size, 0, none⟩)], .int .i64 (cntM (marks n L) : Nat)]) ∧ Blk w' w.heap.size 107 (row 64 fun j => .bool (marks n L j)) ∧ Below w.heap.size w w'
set_option maxRecDepth 100000 in
theorem finder_any (A : Option Addr) (n c : Nat) (L : Nat → Int) (hn : n ≤ 1000000) (hL : ∀ i, i < n → 0 ≤ L i ∧ L i < 64) (w : World) (hs : Ints w w.heap.size A n L) :
    Calls Try.prog 48 #[.slice A n c] w (FinderPost n L w) := by
  have HS := hid hs
  have HL := hid hL
  clear hs hL
  have hmf : ∀ (fn : Fn) (first cap : Array Value) (w : World), (Instr.makeFunc fn first cap).run Try.prog w = .ok (.func fn first cap) w := fun _ _ _ _ => rfl
  go_enter Try.func48, Try.ntmps48
  go_wp2_with fail
  generalize hw3 : World.alloc w _ = w3
  have b1 : Blk w3 w.heap.size 107 (row 64 fun j => .bool (marks 0 L j)) := by rw [← hw3, marks_zero]; exact Blk.top zmarks rfl
  have hb : Below w.heap.size w w3 := by rw [← hw3]; exact (Below.refl _ _).alloc (Nat.le_refl _) _
  clear hw3
  go_loopw [3, 9] (fun k i wr => ∃ j : Nat, j ≤ n ∧ i = .int .i64 j ∧ k = .int .i64 (cntM (marks j L) : Nat) ∧ Blk wr w.heap.size 107 (row 64 fun l => .bool (marks j L l)) ∧ Below w.heap.size w wr) (fun _ i _ => n - (intOf i).toNat)
  case atStart => exact ⟨0, by omega, rfl, rfl, b1, hb⟩
  case round =>
    obtain ⟨j, hj, rfl, rfl, b1, hb⟩ := hrel
    have hcnt := cntM_le (marks j L)
    by_cases hlt : j < n
    · obtain ⟨b, o, rfl, hB, hr⟩ := HS.out (by omega)
      have c1 : wr.cell? ⟨b, o + j, none⟩ = some (.int .i64 (L j)) := (hb.cell (p := ⟨b, o + j, none⟩) hB).trans (hr j hlt)
      clear hr
      obtain ⟨h0, h64⟩ := HL.out j hlt
      obtain ⟨x, hx⟩ := Int.eq_ofNat_of_zero_le h0
      have hx' : x < 64 := by omega
      rw [hx] at c1
      have HX := hid hx
      clear hx h0 h64
      have c2 : wr.cell? ⟨w.heap.size, x, none⟩ = some (.bool (marks j L x)) := by rw [b1.cell]; exact get_row_lt hx'
      have c3 := b1.frozen x
      cases hm : marks j L x with
      | true =>
        have HM := hid hm
        rw [hm] at c2
        clear hm
        go_wp2_with fail
        have e := marks_same HX.out HM.out
        exact ⟨⟨j + 1, by omega, by go_num, by rw [e], by rw [e]; exact b1, hb⟩, by simp [intOf]; omega⟩
      | false =>
        have HM := hid hm
        rw [hm] at c2
        clear hm
        go_wp2_with fail
        have e := cntM_new HX.out hx' HM.out
        refine ⟨⟨j + 1, by omega, by go_num, by rw [e]; go_num, ?_, hb.setCell (by simp) _⟩, by simp [intOf]; omega⟩
        have h := b1.setCell_same x (.bool true)
        rw [row_set] at h
        rw [row_ext (f := fun l => .bool (marks (j + 1) L l)) fun l _ => ?_]
        · exact h
        · show Value.bool (marks (j + 1) L l) = _
          rw [marks_new HX.out]
          by_cases e : l = x <;> simp [e]
    · obtain rfl : j = n := by omega
      go_wp2_with fail
      go_ret2
      exact ⟨rfl, b1, hb⟩
theorem lost_any (g j : Nat) (M : Nat → Bool) (hj : j < 64) (w : World) (hb : Blk w g 107 (row 64 fun l => .bool (M l))) :
    Calls Try.prog 67 #[.int .i64 j, .pointer (some ⟨g, 0, none⟩)] w fun e w' => e = .returned (.bool (M j)) ∧ w = w' := by
  have c1 : w.cell? ⟨g, j, none⟩ = some (.bool (M j)) := by rw [hb.cell]; exact get_row_lt hj
  go_enter Try.func67, Try.ntmps67
  go_wp2_with fail
  go_ret
  exact ⟨rfl, rfl⟩
set_option maxRecDepth 100000 in
theorem clone_any (b o n cap : Nat) (F : Nat → Nat → Nat) (hn : n ≤ 1000) (w : World) (hs : Secs w w.heap.size (some ⟨b, o, none⟩) n F) :
    Calls Try.prog 36 #[.slice (some ⟨b, o, none⟩) n cap] w (SomeOwn w n F) := by
  have HS : RowKit.Hid (Secs (w.alloc (.cells #[] 32)) w.heap.size (some ⟨b, o, none⟩) n F) := hid (hs.below ((Below.refl _ _).alloc (Nat.le_refl _) _) (Nat.le_refl _))
  clear hs
  have qT : ∀ (w : World) (a : Option Addr) (n c n' c' : Nat), (binOp .eql 53 (.slice a n c) (.slice none n' c')).run Try.prog w = .ok (.bool a.isNone) w := fun w a n c n' c' => Lib.run_eql_slice_nil w _ _ a n c n' c' Try.underlying53
  go_enter Try.func36, Try.ntmps36
  go_wp2_with ((with_reducible apply wapp (v := .slice (some ⟨w.heap.size, 0, none⟩) 0 0)); rfl; rfl; exact OwnS.empty w (Nat.le_refl _) F; exact HS.out; omega; (simp); intro v' w1 own grow hnil)
  obtain ⟨g, cap', rfl, _⟩ := OwnS.form own (fun e => by have := (hnil.1 e).1; cases this)
  go_wp2_with fail
  go_ret
  exact ⟨g, cap', by simp, by rw [Nat.zero_add] at own; exact own.mono fun i k _ _ => by simp [catF], ((Below.refl _ _).alloc (Nat.le_refl _) _).grown grow (by simp) (fun k e => by simp [Value.ownBlock] at e; omega)⟩
end Go.Proofs.Ytlbfjnddbdpdpaa
set_option maxRecDepth 100000
namespace Go.Proofs.Ytlbfjnddbdpdpaa
open Go.ChangeShapes Go.WideShapes Go.ChangeAt Go.RowKit
def zs (l : List Int) : List Value := l.map fun x => Value.int .i64 x
theorem zs_length (l : List Int) : (zs l).length = l.length := List.length_map _
theorem zs_append (l m : List Int) : zs (l ++ m) = zs l ++ zs m := List.map_append
theorem zs_get {l : List Int} {i : Nat} (h : i < l.length) : (zs l)[i]? = some (.int .i64 (l.getD i 0)) := by
  unfold zs
  rw [List.getElem?_map, List.getElem?_eq_getElem h]
  simp [List.getD, h]
/-- The list l stands at A. -/
def IntL (w : World) (B : Nat) (A : Option Addr) (l : List Int) : Prop := Ints w B A l.length fun i => l.getD i 0
def OwnZ (w : World) (B : Nat) (v : Value) (l : List Int) : Prop := w.ownsRow B 3 1 v l.length (zs l)
section
variable {w w' : World} {B : Nat} {v : Value} {l : List Int}
theorem OwnZ.nil : OwnZ w B (.slice none 0 0) [] := World.ownsRow_nil w B 3 1
theorem IntL.empt {A : Option Addr} (h : l.length = 0) : IntL w B A l := fun hn => absurd hn (by omega)
theorem IntL.below {B' : Nat} {A : Option Addr} (h : IntL w B A l) (hb : Below B' w w') (hB : B ≤ B') : IntL w' B A l := Ints.below h hb hB
theorem OwnZ.form (h : OwnZ w B v l) : (v = .slice none 0 0 ∧ l = []) ∨ ∃ g cap, v = .slice (some ⟨g, 0, none⟩) l.length cap ∧ B ≤ g ∧ g < w.heap.size ∧ l.length ≤ cap ∧ cap ≤ maxLen ∧ IntL w w.heap.size (some ⟨g, 0, none⟩) l := by
  rcases h.2 with ⟨h', h0⟩ | ⟨g, cap, cur, hv, hB, hg, hnc, hcm, hcs, ht⟩
  · exact .inl ⟨h', List.eq_nil_of_length_eq_zero h0⟩
  · have hlt : g < w.heap.size := Blk.lt (t := 3) (cs := cur) hg
    refine .inr ⟨g, cap, hv, hB, hlt, hnc, hcm, fun _ => ⟨g, 0, rfl, hlt, fun i hi => ?_⟩⟩
    rw [Nat.zero_add, cell_of_row w g _ cur _ _ hg]
    have h1 := zs_get hi
    rw [← ht, List.getElem?_take_of_lt (by omega), Array.getElem?_toList] at h1
    exact h1
theorem OwnZ.any (h : OwnZ w B v l) : ∃ A cap, v = .slice A l.length cap ∧ l.length ≤ cap ∧ cap ≤ maxLen ∧ (A = none → cap = 0) ∧ IntL w w.heap.size A l := by
  rcases h.form with ⟨rfl, rfl⟩ | ⟨g, cap, rfl, _, _, h1, h2, h3⟩
  · exact ⟨.none, 0, rfl, Nat.le_refl _, Nat.zero_le _, fun _ => rfl, IntL.empt rfl⟩
  · exact ⟨_, cap, rfl, h1, h2, fun h => (by cases h), h3⟩
theorem OwnZ.below (h : OwnZ w B v l) (hb : Below w.heap.size w w') : OwnZ w' B v l := by
  refine ⟨h.1, ?_⟩
  rcases h.2 with h' | ⟨g, cap, cur, hv, hB, hg, hr⟩
  · exact .inl h'
  · exact .inr ⟨g, cap, cur, hv, hB, Blk.below (t := 3) (cs := cur) hg hb (Blk.lt (t := 3) (cs := cur) hg), hr⟩
theorem OwnZ.lower {B' : Nat} (h : OwnZ w B v l) (hB : B' ≤ B) : OwnZ w B' v l := by
  refine ⟨h.1, ?_⟩
  rcases h.2 with h' | ⟨g, cap, cur, hv, hg, hr⟩
  · exact .inl h'
  · exact .inr ⟨g, cap, cur, hv, by omega, hr⟩
theorem OwnZ.alloc (h : OwnZ w B v l) (o : Obj) : OwnZ (w.alloc o) B v l := World.ownsRow.alloc h o
end
theorem below_grownZ {B B' : Nat} {w0 w w' w1 : World} {v : Value} {l : List Int} (hb : Below B w0 w) (hg : w.grownBy w' v.ownBlock) (ho : OwnZ w1 B' v l) (hB : B ≤ B') (hs : B ≤ w0.heap.size) : Below B w0 w' :=
  hb.grown hg (Nat.le_trans hs hb.size) fun g h => Nat.le_trans hB (World.ownsRow.lt ho g h).1
theorem IntL.grown {w w' w0 : World} {A : Option Addr} {B B' : Nat} {v : Value} {l m : List Int} (h : IntL w B' A m) (hg : w.grownBy w' v.ownBlock) (ho : OwnZ w0 B v l) (hlt : B' ≤ B) : IntL w' B' A m := fun hn => by
  obtain ⟨b, o, rfl, hl, hr⟩ := h hn
  exact ⟨b, o, rfl, hl, fun i hi => hg.cell (hr i hi) fun e' => by have := (World.ownsRow.lt ho b e'.symm).1; omega⟩
/-- A change of another block leaves it. -/
theorem OwnZ.only {w w' : World} {B g : Nat} {v : Value} {l : List Int} (h : OwnZ w B v l) (ho : w.grownBy w' (some g)) (hg : g < B) : OwnZ w' B v l :=
  World.ownsRow.kept h ho (by
    cases e : v.ownBlock with
    | none => exact .inl rfl
    | some k => exact .inr (fun e2 => by injection e2 with e2; have := (World.ownsRow.lt h k e).1; omega))
theorem IntL.only {w w' : World} {B g : Nat} {A : Option Addr} {l : List Int} (h : IntL w B A l) (ho : w.grownBy w' (some g)) (hg : B ≤ g) : IntL w' B A l := fun hn => by
  obtain ⟨b, o, rfl, hl, hr⟩ := h hn
  exact ⟨b, o, rfl, hl, fun i hi => ho.cell (hr i hi) fun e' => by injection e' with e'; simp at e'; omega⟩
theorem IntL.take {w : World} {B k : Nat} {A : Option Addr} {l : List Int} (h : IntL w B A l) : IntL w B A (l.take k) := fun hn => by
  rw [List.length_take] at hn
  obtain ⟨b, o, rfl, hl, hr⟩ := h (by omega)
  refine ⟨b, o, rfl, hl, fun i hi => ?_⟩
  rw [List.length_take] at hi
  rw [hr i (by omega)]
  simp only [List.getD_eq_getElem?_getD]
  rw [List.getElem?_take_of_lt (by omega)]
theorem IntL.drop {w : World} {B k g : Nat} {l : List Int} (h : IntL w B (some ⟨g, 0, none⟩) l) : IntL w B (some ⟨g, k, none⟩) (l.drop k) := fun hn => by
  rw [List.length_drop] at hn
  obtain ⟨b, o, e, hl, hr⟩ := h (by omega)
  simp only [Option.some.injEq, Addr.mk.injEq, and_true] at e
  obtain ⟨rfl, rfl⟩ := e
  refine ⟨g, k, rfl, hl, fun i hi => ?_⟩
  rw [List.length_drop] at hi
  have := hr (k + i) (by omega)
  rw [Nat.zero_add] at this
  rw [this]
  simp only [List.getD_eq_getElem?_getD]
  rw [List.getElem?_drop]
section
variable {ops : Array Oper} {Q : Exit → Act → World → Prop} {a : Act} {w : World} {rest : List Oper} {dst : Option Tmp} {ty : TypeId} {pos : String} {after : Array Edge} {s x : Operand} {m c B B' : Nat} {v : Value} {l kk : List Int} {ad : Addr}
theorem und_ints : Try.prog.underlying 39 = some (.slice 3) := Try.underlying39
theorem inf_int : ∃ i : TypeInfo, Try.prog.info? 3 = some i ∧ i.zero = some (.int .i64 0) ∧ i.size = 1 ∧ i.bytes ≤ 8 := by
  have hi : ∃ ie, Try.prog.info? 3 = some ie := ⟨_, rfl⟩
  obtain ⟨i, hi⟩ := hi
  have h1 : (Try.prog.info? 3).map (·.size) = some 1 := by kernel_rfl
  have h2 : (Try.prog.info? 3).map (fun i => decide (i.bytes ≤ 8)) = some true := by kernel_rfl
  have h3 : (Try.prog.info? 3).bind (·.zero) = some (.int .i64 0) := by kernel_rfl
  rw [hi] at h1 h2 h3
  simp only [Option.map_some, Option.some.injEq, decide_eq_true_eq, Option.bind_some] at h1 h2 h3
  exact ⟨i, hi, h3, h1, h2⟩
theorem run_appz (hown : OwnZ w B v l) (hrd : IntL w B' (some ad) kk) (hk : kk.length = m) (hsz : l.length + m ≤ 1000000) (hB : B ≤ w.heap.size) :
    ∃ v' w', (Builtin.append_ #[39, 39] ty #[v, .slice (some ad) m c]).run Try.prog w = .ok v' w' ∧ OwnZ w' B v' (l ++ kk) ∧ w.grownBy w' v.ownBlock := by
  obtain ⟨i, hi, hz, h1, h2⟩ := inf_int
  subst hk
  obtain ⟨v', w', hr, ho, hg, _⟩ := run_append_own (P := Try.prog) w B 39 ty 3 i (.int .i64 0) 1 i.bytes und_ints hi hz h1 rfl rfl (by decide) v l.length _ hown ad kk.length c (zs kk) (by rw [zs_length, Nat.mul_one])
    (fun j u hj => by
      have hjm : j < kk.length := by
        have := (List.getElem?_eq_some_iff.1 hj).1
        rwa [zs_length] at this
      obtain ⟨b, o, e', _, hr⟩ := hrd (by omega)
      obtain rfl : ad = ⟨b, o, none⟩ := Option.some.inj e'
      rw [zs_get hjm] at hj
      rw [Addr.add_mid, hr j hjm]
      exact hj)
    (fun u hu => by
      obtain ⟨y, _, rfl⟩ := List.mem_map.1 hu
      rfl)
    (by unfold maxLen; omega) (Nat.le_trans (Nat.mul_le_mul hsz h2) (by omega)) hB
  refine ⟨v', w', hr, ?_, hg⟩
  unfold OwnZ
  rw [List.length_append, zs_append]
  exact ho
/-- append of ints to a list of the call's own. -/
theorem wappz {A : Option Addr} (hs : a.eval s = v) (hx : a.eval x = .slice A m c) (h0 : A = none → m = 0 ∧ c = 0) (hown : OwnZ w B v l) (hrd : IntL w B' A kk) (hk : kk.length = m) (hsz : l.length + m ≤ 1000000) (hB : B ≤ w.heap.size)
    (h : ∀ v' w', OwnZ w' B v' (l ++ kk) → w.grownBy w' v.ownBlock → wpList Try.prog ops Q rest (a.put dst v') w') :
    wpList Try.prog ops Q (⟨dst, .call { callee := .builtin .append, args := #[s, x], argTypes := #[39, 39] }, ty, pos, after, none⟩ :: rest) a w := by
  cases A with
  | some ad =>
    obtain ⟨v', w', hr, h1, h2⟩ := run_appz (ty := ty) (c := c) hown hrd hk hsz hB
    refine wpList_plain rfl fun K hK => ?_
    unfold Oper.wp execOp
    simp only [resolve, invoke, builtin, Sem.run_bind, Sem.run_pure, Result.andThen_ok, List.map_toArray, List.map_cons, List.map_nil, hs, hx, hr]
    exact hK _ _ (h v' w' h1 h2)
  | none =>
    obtain ⟨rfl, rfl⟩ := h0 rfl
    obtain rfl := List.eq_nil_of_length_eq_zero hk
    rw [List.append_nil] at h
    obtain ⟨i, hi, hz, h1, h2⟩ := inf_int
    refine wpList_plain rfl fun K hK => ?_
    unfold Oper.wp execOp
    have := run_append_owned_none (P := Try.prog) w B 39 ty 3 i 1 und_ints hi v l.length _ hown
    simp only [resolve, invoke, builtin, Sem.run_bind, Sem.run_pure, Result.andThen_ok, List.map_toArray, List.map_cons, List.map_nil, hs, hx, this]
    exact hK _ _ (h v w hown ⟨rfl, rfl, rfl, Nat.le_refl _, fun _ _ _ => rfl⟩)
end
/-- A literal of one int. -/
theorem ints_one {w : World} {t : TypeId} {x : Int} {B : Nat} (hB : w.heap.size < B) : IntL (w.alloc (.cells #[.int .i64 x] t)) B (some ⟨w.heap.size, 0, none⟩) [x] := fun _ =>
  ⟨w.heap.size, 0, rfl, hB, fun i hi => by
    obtain rfl : i = 0 := by simp at hi; omega
    rw [(Blk.top (t := t) rfl rfl).cell]; rfl⟩
end Go.Proofs.Ytlbfjnddbdpdpaa
set_option maxRecDepth 100000
namespace Go.Proofs.Ytlbfjnddbdpdpaa
/-- x put into its place in a rising list, if it is not there. -/
def insU (x : Int) : List Int → List Int
  | [] => [x]
  | y :: t => if y < x then y :: insU x t else if y = x then y :: t else x :: y :: t
/-- How many stand ahead of x. -/
def lead (x : Int) : List Int → Nat
  | [] => 0
  | y :: t => if y < x then lead x t + 1 else 0
def uniq (l : List Int) : List Int := l.foldl (fun o x => insU x o) []
theorem lead_le (x : Int) : ∀ l : List Int, lead x l ≤ l.length
  | [] => Nat.le_refl _
  | y :: t => by
    unfold lead
    split
    · have := lead_le x t; simp; omega
    · simp
theorem lead_low (x : Int) : ∀ (l : List Int) (k : Nat), k < lead x l → l.getD k 0 < x
  | [], k, h => by simp [lead] at h
  | y :: t, k, h => by
    unfold lead at h
    split at h
    · rename_i hy
      match k with
      | 0 => simpa using hy
      | k + 1 => simpa using lead_low x t k (by omega)
    · omega
theorem lead_at (x : Int) : ∀ l : List Int, lead x l < l.length → x ≤ l.getD (lead x l) 0
  | [], h => by simp [lead] at h
  | y :: t, h => by
    unfold lead at h ⊢
    split at h
    · rename_i hy
      rw [if_pos hy]
      simpa using lead_at x t (by simpa using h)
    · rename_i hy
      rw [if_neg hy]
      simp; omega
theorem insU_there (x : Int) : ∀ l : List Int, lead x l < l.length → l.getD (lead x l) 0 = x → insU x l = l
  | [], h, _ => by simp [lead] at h
  | y :: t, h, e => by
    unfold lead at h e
    unfold insU
    split at h
    · rename_i hy
      rw [if_pos hy] at e ⊢
      rw [insU_there x t (by simpa using h) (by simpa using e)]
    · rename_i hy
      rw [if_neg hy] at e ⊢
      rw [if_pos (by simpa using e)]
theorem insU_new (x : Int) : ∀ l : List Int, ¬ (lead x l < l.length ∧ l.getD (lead x l) 0 = x) → insU x l = l.take (lead x l) ++ x :: l.drop (lead x l)
  | [], _ => rfl
  | y :: t, h => by
    unfold lead at h ⊢
    unfold insU
    split
    · rename_i hy
      rw [if_pos hy] at h
      rw [insU_new x t (by simpa using h)]
      rfl
    · rename_i hy
      rw [if_neg hy] at h
      rw [if_neg (by simpa using h)]
      rfl
theorem mem_insU (x z : Int) : ∀ l : List Int, z ∈ insU x l ↔ z = x ∨ z ∈ l
  | [] => by simp [insU]
  | y :: t => by
    unfold insU
    split
    · rw [List.mem_cons, mem_insU x z t, List.mem_cons]
      constructor
      · rintro (h | h | h)
        · exact .inr (.inl h)
        · exact .inl h
        · exact .inr (.inr h)
      · rintro (h | h | h)
        · exact .inr (.inl h)
        · exact .inl h
        · exact .inr (.inr h)
    · split
      · rename_i h
        subst h
        simp
      · simp
theorem up_insU (x : Int) : ∀ l : List Int, l.Pairwise (· < ·) → (insU x l).Pairwise (· < ·)
  | [], _ => by simp [insU]
  | y :: t, h => by
    have h' := List.pairwise_cons.1 h
    unfold insU
    split
    · rename_i hy
      refine List.pairwise_cons.2 ⟨fun z hz => ?_, up_insU x t h'.2⟩
      rcases (mem_insU x z t).1 hz with rfl | hz
      · exact hy
      · exact h'.1 z hz
    · rename_i hy
      split
      · exact h
      · refine List.pairwise_cons.2 ⟨fun z hz => ?_, h⟩
        rcases List.mem_cons.1 hz with rfl | hz
        · omega
        · have := h'.1 z hz; omega
theorem uniq_go (l : List Int) : ∀ o : List Int, o.Pairwise (· < ·) → (l.foldl (fun o x => insU x o) o).Pairwise (· < ·) ∧ ∀ z, z ∈ l.foldl (fun o x => insU x o) o ↔ z ∈ o ∨ z ∈ l := by
  induction l with
  | nil => exact fun o h => ⟨h, fun z => by simp⟩
  | cons x t ih =>
    intro o h
    have := ih (insU x o) (up_insU x o h)
    refine ⟨this.1, fun z => ?_⟩
    rw [List.foldl_cons, this.2 z, mem_insU, List.mem_cons]
    constructor
    · rintro ((h | h) | h)
      · exact .inr (.inl h)
      · exact .inl h
      · exact .inr (.inr h)
    · rintro (h | h | h)
      · exact .inl (.inr h)
      · exact .inl (.inl h)
      · exact .inr h
theorem uniq_up (l : List Int) : (uniq l).Pairwise (· < ·) := (uniq_go l [] .nil).1
theorem mem_uniq {l : List Int} {z : Int} : z ∈ uniq l ↔ z ∈ l := by have := (uniq_go l [] .nil).2 z; simpa [uniq] using this
theorem uniq_snoc (l : List Int) (x : Int) : uniq (l ++ [x]) = insU x (uniq l) := by unfold uniq; rw [List.foldl_append]; rfl
theorem insU_length (x : Int) : ∀ l : List Int, (insU x l).length ≤ l.length + 1
  | [] => by simp [insU]
  | y :: t => by
    have := insU_length x t
    unfold insU
    split
    · simp; omega
    · split <;> simp
theorem uniq_length (l : List Int) : (uniq l).length ≤ l.length := by
  suffices h : ∀ (l o : List Int), (l.foldl (fun o x => insU x o) o).length ≤ o.length + l.length by simpa [uniq] using h l []
  intro l
  induction l with
  | nil => simp
  | cons x t ih => intro o; have := ih (insU x o); have := insU_length x o; simp; omega
/-- Two rising lists of the same numbers are the same. -/
theorem up_same : ∀ {l m : List Int}, l.Pairwise (· < ·) → m.Pairwise (· < ·) → (∀ z, z ∈ l ↔ z ∈ m) → l = m
  | [], [], _, _, _ => rfl
  | [], y :: t, _, _, h => by have := (h y).2 (by simp); simp at this
  | x :: s, [], _, _, h => by have := (h x).1 (by simp); simp at this
  | x :: s, y :: t, hl, hm, h => by
    have hl' := List.pairwise_cons.1 hl
    have hm' := List.pairwise_cons.1 hm
    have e : x = y := by
      have h1 := (h x).1 (by simp)
      have h2 := (h y).2 (by simp)
      rcases List.mem_cons.1 h1 with e | e
      · exact e
      · rcases List.mem_cons.1 h2 with e' | e'
        · exact e'.symm
        · have := hm'.1 x e; have := hl'.1 y e'; omega
    subst e
    rw [up_same hl'.2 hm'.2 fun z => ?_]
    constructor
    · intro hz
      have := (h z).1 (List.mem_cons_of_mem _ hz)
      rcases List.mem_cons.1 this with rfl | h'
      · have := hl'.1 z hz; omega
      · exact h'
    · intro hz
      have := (h z).2 (List.mem_cons_of_mem _ hz)
      rcases List.mem_cons.1 this with rfl | h'
      · have := hm'.1 z hz; omega
      · exact h'
end Go.Proofs.Ytlbfjnddbdpdpaa
set_option maxRecDepth 100000
namespace Go.Proofs.Ytlbfjnddbdpdpaa
open Go.RowKit
section
variable {P : Program} {ops : Array Oper}
/-- The operations in the order of the text; each hands on a world of the class, in which all that was there stands. -/
def wpB (P : Program) (ops : Array Oper) (C : World → Prop) (Q : Act → Prop) : List Oper → Act → Prop
  | [], a => Q a
  | o :: rest, a => ∃ v, ((Region.wanted o (yielded ops a.tmps) = true ∧ ∀ w, C w → Gives P o a w v fun w' => C w' ∧ Below w.heap.size w w') ∨ (Region.wanted o (yielded ops a.tmps) = false ∧ v = undef)) ∧ wpB P ops C Q rest (a.put o.dst v)
section
variable {C : World → Prop} {Qk : Act → Prop} {o : Oper} {rest : List Oper} {a : Act} {v : Value}
theorem wpB_nil (h : Qk a) : wpB P ops C Qk [] a := h
theorem wpB_val (hw : Region.wanted o (yielded ops a.tmps) = true) (h1 : ∀ w, C w → Gives P o a w v fun w' => C w' ∧ Below w.heap.size w w') (h2 : wpB P ops C Qk rest (a.put o.dst v)) : wpB P ops C Qk (o :: rest) a := ⟨v, .inl ⟨hw, h1⟩, h2⟩
end
theorem wpB_vals {C : World → Prop} {Qk : Act → Prop} : ∀ (l : List Oper) (a : Act), wpB P ops C Qk l a → ∃ vals : Nat → Value, Qk (lexF l vals l.length a) ∧
    ∀ i o, l[i]? = some o → ((Region.wanted o (yielded ops (lexF l vals i a).tmps) = true ∧ ∀ w, C w → Gives P o (lexF l vals i a) w (vals i) fun w' => C w' ∧ Below w.heap.size w w') ∨ (Region.wanted o (yielded ops (lexF l vals i a).tmps) = false ∧ vals i = undef))
  | [], a, h => ⟨fun _ => undef, h, fun i o hi => by simp at hi⟩
  | o :: l, a, h => by
    obtain ⟨v, h1, h2⟩ := h
    obtain ⟨vals, hq, hs⟩ := wpB_vals l _ h2
    refine ⟨fun j => match j with | 0 => v | j + 1 => vals j, ?_, fun i o' hi => ?_⟩
    · rw [List.length_cons, lexF_cons]; exact hq
    · cases i with
      | zero =>
        simp only [List.getElem?_cons_zero, Option.some.injEq] at hi
        subst hi
        exact h1
      | succ i =>
        rw [lexF_cons]
        exact hs i o' (by simpa using hi)
theorem lexF_congr {l l' : List Oper} {v v' : Nat → Value} : ∀ {i : Nat} {a : Act}, (∀ j, j < i → l[j]? = l'[j]? ∧ v j = v' j) → lexF l v i a = lexF l' v' i a
  | 0, _, _ => rfl
  | i + 1, a, h => by
    simp only [lexF, lexF_congr (i := i) (a := a) fun j hj => h j (by omega), (h i (by omega)).1, (h i (by omega)).2]
theorem gives_mono {o : Oper} {a : Act} {w : World} {v : Value} {R R' : World → Prop} (h : Gives P o a w v R) (hr : ∀ w', R w' → R' w') : Gives P o a w v R' := by
  unfold Gives at *
  generalize (execOp a.eval o).run P w = r at *
  cases r with
  | ok n w' =>
    cases n <;> simp only at h ⊢
    case value u => exact ⟨h.1, hr _ h.2⟩
    case skip => exact ⟨h.1, hr _ h.2⟩
    case enter f args => exact h.mono fun e w'' ⟨he, hR⟩ => ⟨he, hr _ hR⟩
  | halt x w' => exact h
def ptr (b : Nat) : Value := .pointer (some ⟨b, 0, none⟩)
theorem wp_region_new2 {id : Nat} {Q : Exit → Act → World → Prop} {C : World → Prop} {a : Act} {w : World} {l : List Oper} (n : Nat) (T : TypeId) (z : Array Value) (d1 d2 : Tmp) {t1 t2 : TypeId} {p1 p2 : String} {e1 e2 : Array Edge}
    (hl1 : l[n]? = some ⟨some d1, .alloc T, t1, p1, e1, none⟩) (hl2 : l[n + 1]? = some ⟨some d2, .alloc T, t2, p2, e2, none⟩)
    (hm : P.follows .mixedOrders = true) (ht : tidy l.toArray = true) (hB : tailB l.toArray (n + 2) = true)
    (ha : ∀ w, (Instr.alloc T true (.tuple #[])).run P w = .ok (.pointer (some ⟨w.heap.size, 0, none⟩)) (w.alloc (.cells z T)))
    (hC : C w.drew) (hCa : ∀ w, C w → C (w.alloc (.cells z T))) (hCs : ∀ w', C w' → w.heap.size ≤ w'.heap.size)
    (h : wpB P l.toArray C (fun a' => ∀ b1 b2 w', b1 ≠ b2 → C w' → Blk w' b1 T z → Blk w' b2 T z → w.heap.size ≤ b1 → w.heap.size ≤ b2 →
      wpList P l.toArray Q (l.drop (n + 2)) ((a'.put (some d1) (ptr b1)).put (some d2) (ptr b2)) w') (l.take n) a) : (Code.region id l.toArray true).wp P Q a w := by
  obtain ⟨vals, hq, hs⟩ := wpB_vals _ _ h
  have hln : n + 1 < l.length := (List.getElem?_eq_some_iff.1 hl2).1
  have hlen : (l.take n).length = n := by rw [List.length_take]; omega
  let V : Nat × Nat → Nat → Value := fun γ i => if i = n then ptr γ.1 else if i = n + 1 then ptr γ.2 else vals i
  have hV : ∀ γ i, i < n → V γ i = vals i := fun γ i hi => by show (if _ then _ else _) = _; rw [if_neg (by omega), if_neg (by omega)]
  have hfr : ∀ γ i, i ≤ n → lexF (l.take (n + 2)) (V γ) i a = lexF (l.take n) vals i a := fun γ i hi => lexF_congr fun j hj =>
    ⟨by rw [List.getElem?_take_of_lt (by omega), List.getElem?_take_of_lt (by omega)], hV γ j (by omega)⟩
  refine region_core (Γ := Nat × Nat) (C := fun γ L w' => C w' ∧ (L.getD n false = true → Blk w' γ.1 T z ∧ w.heap.size ≤ γ.1) ∧ (L.getD (n + 1) false = true → Blk w' γ.2 T z ∧ w.heap.size ≤ γ.2) ∧
      (L.getD n false = true → L.getD (n + 1) false = true → γ.1 ≠ γ.2)) (n + 2) hm ht hB (0, 0)
    ⟨hC, (fun h => by rw [getD_replicate_false] at h; cases h), (fun h => by rw [getD_replicate_false] at h; cases h), (fun h => by rw [getD_replicate_false] at h; cases h)⟩ V ?_ ?_
  · intro i o hi γ L w' hsz hr ⟨hC', g1, g2, g3⟩
    have hilt : i < n + 2 := by
      have := (List.getElem?_eq_some_iff.1 hi).1
      rw [List.length_take] at this; omega
    rw [List.getElem?_take_of_lt hilt] at hi
    have hun := getD_both (mem_ready.1 hr).1
    rcases Nat.lt_or_ge i n with hin | hin
    · -- no allocation
      have hset : ∀ k, k ≠ i → (L.setIfInBounds i true).getD k false = L.getD k false := fun k hk => getD_set_ne false (Ne.symm hk)
      refine ⟨γ, fun _ _ => rfl, ?_⟩
      rw [hfr γ i (by omega), hV γ i hin]
      simp only [hset n (by omega), hset (n + 1) (by omega)]
      rcases hs i o (by rw [List.getElem?_take_of_lt hin]; exact hi) with ⟨h1, h2⟩ | ⟨h1, h2⟩
      · exact .inl ⟨h1, gives_mono (h2 w' hC') fun w'' ⟨h3, h4⟩ => ⟨h3, fun e => ⟨(g1 e).1.below h4 (g1 e).1.lt, (g1 e).2⟩, fun e => ⟨(g2 e).1.below h4 (g2 e).1.lt, (g2 e).2⟩, g3⟩⟩
      · exact .inr ⟨h1, h2, hC', g1, g2, g3⟩
    · have hw : ∀ b : Act, (execOp b.eval ⟨some d1, .alloc T, t1, p1, e1, none⟩).run P w' = .ok (.value (.pointer (some ⟨w'.heap.size, 0, none⟩))) (w'.alloc (.cells z T)) := fun b => by
        simp only [execOp, Sem.run_bind, ha w', Result.andThen_ok, Sem.run_pure]
      have hw2 : ∀ b : Act, (execOp b.eval ⟨some d2, .alloc T, t2, p2, e2, none⟩).run P w' = .ok (.value (.pointer (some ⟨w'.heap.size, 0, none⟩))) (w'.alloc (.cells z T)) := fun b => by
        simp only [execOp, Sem.run_bind, ha w', Result.andThen_ok, Sem.run_pure]
      by_cases hi1 : i = n
      · subst hi1
        obtain rfl : _ = o := Option.some.inj (hl1.symm.trans hi)
        refine ⟨(w'.heap.size, γ.2), fun j hj => ?_, .inl ⟨rfl, ?_⟩⟩
        · have hjn : j ≠ i := fun e => by subst e; rw [hun] at hj; cases hj
          simp only [V, if_neg hjn]
        · refine gives_value (w' := w'.alloc (.cells z T)) ?_ ?_
          · rw [hw]
            simp only [V, if_pos]; rfl
          · refine ⟨hCa _ hC', fun _ => ⟨Blk.new _ _ _, hCs _ hC'⟩, fun e => ?_, fun _ e => ?_⟩
            · rw [getD_set_ne false (by omega)] at e
              exact ⟨(g2 e).1.alloc _, (g2 e).2⟩
            · rw [getD_set_ne false (by omega)] at e
              have := (g2 e).1.lt
              exact Nat.ne_of_gt this
      · obtain rfl : i = n + 1 := by omega
        obtain rfl : _ = o := Option.some.inj (hl2.symm.trans hi)
        refine ⟨(γ.1, w'.heap.size), fun j hj => ?_, .inl ⟨rfl, ?_⟩⟩
        · have hj2 : j ≠ n + 1 := fun e => by subst e; rw [hun] at hj; cases hj
          simp only [V, if_neg hj2]
        · refine gives_value (w' := w'.alloc (.cells z T)) ?_ ?_
          · rw [hw2]
            simp only [V, if_neg (show ¬ n + 1 = n by omega), if_pos]; rfl
          · refine ⟨hCa _ hC', fun e => ?_, fun _ => ⟨Blk.new _ _ _, hCs _ hC'⟩, fun e _ => ?_⟩
            · rw [getD_set_ne false (by omega)] at e
              exact ⟨(g1 e).1.alloc _, (g1 e).2⟩
            · rw [getD_set_ne false (by omega)] at e
              have := (g1 e).1.lt
              exact Nat.ne_of_lt this
  · intro γ L w' hall ⟨hC', g1, g2, g3⟩
    have h1 := hall n (by omega)
    have h2 := hall (n + 1) (by omega)
    have hl2' : (l.take (n + 2)).length = n + 2 := by rw [List.length_take]; omega
    rw [hl2']
    have hput : lexF (l.take (n + 2)) (V γ) (n + 2) a = ((lexF (l.take n) vals n a).put (some d1) (ptr γ.1)).put (some d2) (ptr γ.2) := by
      rw [lexF, lexF, hfr γ n (Nat.le_refl n), List.getElem?_take_of_lt (by omega), List.getElem?_take_of_lt (by omega), hl1, hl2]
      simp only [V, if_neg (show ¬ n + 1 = n by omega), if_pos, Option.bind_some]
    rw [hput]
    rw [hlen] at hq
    exact hq γ.1 γ.2 w' (g3 h1 h2) hC' (g1 h1).1 (g2 h2).1 (g1 h1).2 (g2 h2).2
end
end Go.Proofs.Ytlbfjnddbdpdpaa
set_option maxRecDepth 100000
namespace Go.Proofs.Ytlbfjnddbdpdpaa
open Go.ChangeShapes Go.WideShapes Go.ChangeAt Go.RowKit
attribute [local go_sem] Gives
set_option maxRecDepth 100000 in
set_option maxHeartbeats 1500000 in
theorem runlike_any (A : Option Addr) (n c : Nat) (l : List Int) (hl : l.length = n) (hn : n ≤ 1000) (w : World) (hs : IntL w w.heap.size A l) :
    Calls Try.prog 51 #[.slice A n c] w fun e w' => ∃ v, e = .returned v ∧ OwnZ w' w.heap.size v (uniq l) ∧ Below w.heap.size w w' := by
  have HS := hid hs
  have HL := hid hl
  clear hs hl
  go_enter Try.func51, Try.ntmps51
  go_wp2_with fail
  go_loopw [3, 4] (fun o i wr => ∃ (j : Nat) (v : Value), j ≤ n ∧ i = .int .i64 j ∧ o = v ∧ Hid (OwnZ wr w.heap.size v (uniq (l.take j))) ∧ Hid (Below w.heap.size w wr)) (fun _ i _ => n - (intOf i).toNat)
  case atStart => exact ⟨0, _, by omega, rfl, rfl, hid OwnZ.nil, hid (Below.refl _ _)⟩
  case round =>
    obtain ⟨w1, hw1⟩ : ∃ w1, w1 = wr := ⟨_, rfl⟩
    subst hw1
    obtain ⟨j, v, hj, rfl, rfl, hO, hb⟩ := hrel
    by_cases hlt : j < n
    · have tj : (j : Int) < (n : Int) := by omega
      obtain ⟨b, o, rfl, hB, hr⟩ := (HS.out.below hb.out (Nat.le_refl _)) (by rw [HL.out]; omega)
      have hr := hid (show w1.cell? ⟨b, o + j, none⟩ = some (.int .i64 (l.getD j 0)) from hr j (by rw [HL.out]; omega))
      have HX := hid (show uniq (l.take (j + 1)) = insU (l.getD j 0) (uniq (l.take j)) by
        have hjl : j < l.length := by rw [HL.out]; exact hlt
        rw [← uniq_snoc, List.take_add_one, List.getElem?_eq_getElem hjl, List.getD_eq_getElem?_getD, List.getElem?_eq_getElem hjl]; rfl)
      have HN := hid (show (uniq (l.take j)).length ≤ 1000 from Nat.le_trans (uniq_length _) (by rw [List.length_take]; omega))
      revert HX HN hO hr
      generalize uniq (l.take j) = out
      generalize l.getD j 0 = x
      intro hO hr HX HN
      have HB := hid (show b < w1.heap.size from Nat.lt_of_lt_of_le hB hb.out.size)
      have hb0 : 0 ≤ (j : Int) := by omega
      rcases hO.out.form with ⟨rfl, rfl⟩ | ⟨g, cap, rfl, _, hg, hc1, hc2, hO2⟩
      · have HU := hid (show insU x [] = [x] from rfl)
        go_wp2_with fail
        go_loopw [5] (fun k wk => k = .int .i64 0 ∧ Hid (Below w1.heap.size w1 wk)) (fun _ _ => 0)
        case atStart => exact ⟨rfl, hid (Below.refl _ _)⟩
        case round =>
          obtain ⟨rfl, hbk⟩ := hrel
          go_wp2_with fail
          refine wp_region_tail (C := fun w' => Below w1.heap.size w1 w') 15 (by kernel_rfl) (by kernel_rfl) (by kernel_rfl) (hbk.out).drew ?_
          simp only [List.take_succ_cons, List.take_zero, List.drop_succ_cons, List.drop_zero]
          apply wpK_val
          · rfl
          · intro w' hw'
            go_simp
            first | exact rfl | exact ⟨rfl, hw'⟩
          simp only [Act.put, List.setIfInBounds_toArray, List.set_cons_succ, List.set_cons_zero]
          apply wpK_val
          · rfl
          · intro w' hw'
            go_simp
            first | exact rfl | exact ⟨rfl, hw'⟩
          simp only [Act.put, List.setIfInBounds_toArray, List.set_cons_succ, List.set_cons_zero]
          apply wpK_val
          · rfl
          · intro w' hw'
            go_simp
            first | exact rfl | exact ⟨rfl, hw'⟩
          simp only [Act.put, List.setIfInBounds_toArray, List.set_cons_succ, List.set_cons_zero]
          apply wpK_val
          · rfl
          · intro w' hw'
            go_simp
            first | exact rfl | exact ⟨rfl, hw'⟩
          simp only [Act.put, List.setIfInBounds_toArray, List.set_cons_succ, List.set_cons_zero]
          apply wpK_val
          · rfl
          · intro w' hw'
            go_simp
            first | exact rfl | exact ⟨rfl, hw'⟩
          simp only [Act.put, List.setIfInBounds_toArray, List.set_cons_succ, List.set_cons_zero]
          apply wpK_not
          · rfl
          simp only [Act.put, List.setIfInBounds_toArray, List.set_cons_succ, List.set_cons_zero]
          apply wpK_not
          · rfl
          simp only [Act.put, List.setIfInBounds_toArray, List.set_cons_succ, List.set_cons_zero]
          apply wpK_not
          · rfl
          simp only [Act.put, List.setIfInBounds_toArray, List.set_cons_succ, List.set_cons_zero]
          apply wpK_not
          · rfl
          simp only [Act.put, List.setIfInBounds_toArray, List.set_cons_succ, List.set_cons_zero]
          apply wpK_not
          · rfl
          simp only [Act.put, List.setIfInBounds_toArray, List.set_cons_succ, List.set_cons_zero]
          apply wpK_not
          · rfl
          simp only [Act.put, List.setIfInBounds_toArray, List.set_cons_succ, List.set_cons_zero]
          apply wpK_not
          · rfl
          simp only [Act.put, List.setIfInBounds_toArray, List.set_cons_succ, List.set_cons_zero]
          apply wpK_not
          · rfl
          simp only [Act.put, List.setIfInBounds_toArray, List.set_cons_succ, List.set_cons_zero]
          apply wpK_not
          · rfl
          simp only [Act.put, List.setIfInBounds_toArray, List.set_cons_succ, List.set_cons_zero]
          apply wpK_val
          · rfl
          · intro w' hw'
            go_simp
            first | exact rfl | exact ⟨rfl, hw'⟩
          simp only [Act.put, List.setIfInBounds_toArray, List.set_cons_succ, List.set_cons_zero]
          refine wpK_nil fun w3 hw3 => ?_
          go_wp2_with fail
          refine wp_region_tail (C := fun w' => Below w1.heap.size w1 w') 15 (by kernel_rfl) (by kernel_rfl) (by kernel_rfl) (hw3).drew ?_
          simp only [List.take_succ_cons, List.take_zero, List.drop_succ_cons, List.drop_zero]
          apply wpK_val
          · rfl
          · intro w' hw'
            go_simp
            first | exact rfl | exact ⟨rfl, hw'⟩
          simp only [Act.put, List.setIfInBounds_toArray, List.set_cons_succ, List.set_cons_zero]
          apply wpK_val
          · rfl
          · intro w' hw'
            go_simp
            first | exact rfl | exact ⟨rfl, hw'⟩
          simp only [Act.put, List.setIfInBounds_toArray, List.set_cons_succ, List.set_cons_zero]
          apply wpK_val
          · rfl
          · intro w' hw'
            go_simp
            first | exact rfl | exact ⟨rfl, hw'⟩
          simp only [Act.put, List.setIfInBounds_toArray, List.set_cons_succ, List.set_cons_zero]
          apply wpK_val
          · rfl
          · intro w' hw'
            go_simp
            first | exact rfl | exact ⟨rfl, hw'⟩
          simp only [Act.put, List.setIfInBounds_toArray, List.set_cons_succ, List.set_cons_zero]
          apply wpK_val
          · rfl
          · intro w' hw'
            go_simp
            first | exact rfl | exact ⟨rfl, hw'⟩
          simp only [Act.put, List.setIfInBounds_toArray, List.set_cons_succ, List.set_cons_zero]
          apply wpK_not
          · rfl
          simp only [Act.put, List.setIfInBounds_toArray, List.set_cons_succ, List.set_cons_zero]
          apply wpK_not
          · rfl
          simp only [Act.put, List.setIfInBounds_toArray, List.set_cons_succ, List.set_cons_zero]
          apply wpK_not
          · rfl
          simp only [Act.put, List.setIfInBounds_toArray, List.set_cons_succ, List.set_cons_zero]
          apply wpK_not
          · rfl
          simp only [Act.put, List.setIfInBounds_toArray, List.set_cons_succ, List.set_cons_zero]
          apply wpK_not
          · rfl
          simp only [Act.put, List.setIfInBounds_toArray, List.set_cons_succ, List.set_cons_zero]
          apply wpK_not
          · rfl
          simp only [Act.put, List.setIfInBounds_toArray, List.set_cons_succ, List.set_cons_zero]
          apply wpK_not
          · rfl
          simp only [Act.put, List.setIfInBounds_toArray, List.set_cons_succ, List.set_cons_zero]
          apply wpK_not
          · rfl
          simp only [Act.put, List.setIfInBounds_toArray, List.set_cons_succ, List.set_cons_zero]
          apply wpK_not
          · rfl
          simp only [Act.put, List.setIfInBounds_toArray, List.set_cons_succ, List.set_cons_zero]
          apply wpK_val
          · rfl
          · intro w' hw'
            go_simp
            first | exact rfl | exact ⟨rfl, hw'⟩
          simp only [Act.put, List.setIfInBounds_toArray, List.set_cons_succ, List.set_cons_zero]
          refine wpK_nil fun w4 hw4 => ?_
          have w4r := Below.refl w4.heap.size w4
          have B5 := hid w4r
          clear w4r
          have O5 := hid (OwnZ.nil (w := w4) (B := w4.heap.size))
          have c5 := (hw4.cell (p := ⟨b, o + j, none⟩) HB.out).trans hr.out
          have A5 := hid (OwnZ.alloc O5.out (.cells #[.int .i64 x] 3))
          have I5 := hid (ints_one (w := w4) (t := 3) (x := x) (B := w4.heap.size + 1) (Nat.lt_succ_self _))
          have Z5 := hid (show w4.heap.size ≤ (w4.alloc (.cells #[.int .i64 x] 3)).heap.size by rw [World.size_alloc]; have := B5.out.size; omega)
          have L5 := hid (show ([] : List Int).length + 1 ≤ 1000000 by decide)
          skip
          go_upto_region 12 with ((with_reducible apply wappz (l := []) (kk := [x])); rfl; rfl; exact (fun h => by cases h); exact A5.out; exact I5.out; rfl; exact L5.out; exact Z5.out; intro v2 w6 o6 g6)
          have B6 := hid (below_grownZ (B5.out.alloc B5.out.size (.cells #[.int .i64 x] 3)) g6 A5.out (Nat.le_refl _) (Nat.le_refl _))
          have O6 := hid o6
          clear o6 g6 c5
          have Z6 := hid (B6.out.size)
          go_wp2_with ((with_reducible apply wappz (l := [] ++ [x]) (kk := [])); rfl; rfl; exact (fun _ => ⟨rfl, rfl⟩); exact O6.out; exact (IntL.empt (w := w6) (B := w6.heap.size) rfl); rfl; (simp); exact Z6.out; intro v3 w7 o7 g7)
          have B7 := hid (below_grownZ B6.out g7 O6.out (Nat.le_refl _) (Nat.le_refl _))
          have O7 := hid o7
          clear o7 g7
          have HZ := hid (show w.heap.size ≤ w4.heap.size from Nat.le_trans hb.out.size hw4.size)
          exact ⟨⟨j + 1, v3, by omega, by go_num, rfl, hid (by rw [HX.out, HU.out]; exact (by simpa using O7.out.lower HZ.out)), hid (hb.out.trans ((hw4.trans (B7.out.mono hw4.size)).mono hb.out.size))⟩, by simp [intOf]; omega⟩
      · have HO2 := hid hO2
        generalize hm : out.length = m at *
        have HM := hid hm
        clear hm hO2
        have HN := HN.out
        go_wp2_with fail
        go_loopw [5] (fun k wk => ∃ k' : Nat, k' ≤ lead x out ∧ k = .int .i64 k' ∧ Hid (Below w1.heap.size w1 wk)) (fun k _ => lead x out - (intOf k).toNat)
        case atStart => exact ⟨0, by omega, rfl, hid (Below.refl _ _)⟩
        case round =>
          obtain ⟨k', hk', rfl, hbk⟩ := hrel
          have HLE := lead_le x out
          rw [HM.out] at HLE
          by_cases hkm : k' < m
          · have tk : (k' : Int) < (m : Int) := by omega
            have C2 := hid (show w1.cell? ⟨g, k', none⟩ = some (.int .i64 (out.getD k' 0)) by
              obtain ⟨b2, o2, e2, _, hr2⟩ := HO2.out (by rw [HM.out]; omega)
              have := hr2 k' (by rw [HM.out]; exact hkm)
              simp only [Option.some.injEq, Addr.mk.injEq, and_true] at e2
              obtain ⟨rfl, rfl⟩ := e2
              rwa [Nat.zero_add] at this)
            by_cases hlow : k' < lead x out
            · have t1 : out.getD k' 0 < x := lead_low x out k' hlow
              revert C2 t1
              generalize out.getD k' 0 = y
              intro C2 t1
              go_wp2_with fail
              refine wp_region_tail (C := fun w' => Below w1.heap.size w1 w') 15 (by kernel_rfl) (by kernel_rfl) (by kernel_rfl) (hbk.out).drew ?_
              simp only [List.take_succ_cons, List.take_zero, List.drop_succ_cons, List.drop_zero]
              apply wpK_val
              · rfl
              · intro w' hw'
                go_simp
                first | exact rfl | exact ⟨rfl, hw'⟩
              simp only [Act.put, List.setIfInBounds_toArray, List.set_cons_succ, List.set_cons_zero]
              apply wpK_val
              · rfl
              · intro w' hw'
                go_simp
                first | exact rfl | exact ⟨rfl, hw'⟩
              simp only [Act.put, List.setIfInBounds_toArray, List.set_cons_succ, List.set_cons_zero]
              apply wpK_val
              · rfl
              · intro w' hw'
                go_simp
                first | exact rfl | exact ⟨rfl, hw'⟩
              simp only [Act.put, List.setIfInBounds_toArray, List.set_cons_succ, List.set_cons_zero]
              apply wpK_val
              · rfl
              · intro w' hw'
                go_simp
                first | exact rfl | exact ⟨rfl, hw'⟩
              simp only [Act.put, List.setIfInBounds_toArray, List.set_cons_succ, List.set_cons_zero]
              apply wpK_val
              · rfl
              · intro w' hw'
                go_simp
                first | exact rfl | exact ⟨rfl, hw'⟩
              simp only [Act.put, List.setIfInBounds_toArray, List.set_cons_succ, List.set_cons_zero]
              apply wpK_val
              · rfl
              · intro w' hw'
                go_simp
                first | exact rfl | exact ⟨rfl, hw'⟩
              simp only [Act.put, List.setIfInBounds_toArray, List.set_cons_succ, List.set_cons_zero]
              apply wpK_val
              · rfl
              · intro w' hw'
                go_simp
                first | exact rfl | exact ⟨rfl, hw'⟩
              simp only [Act.put, List.setIfInBounds_toArray, List.set_cons_succ, List.set_cons_zero]
              apply wpK_val
              · rfl
              · intro w' hw'
                go_simp
                first | exact rfl | exact ⟨rfl, hw'⟩
              simp only [Act.put, List.setIfInBounds_toArray, List.set_cons_succ, List.set_cons_zero]
              apply wpK_val
              · rfl
              · intro w' hw'
                have hcell := (hw'.cell (p := ⟨g, k', none⟩) hg).trans C2.out
                go_simp
                first | exact rfl | exact ⟨rfl, hw'⟩
              simp only [Act.put, List.setIfInBounds_toArray, List.set_cons_succ, List.set_cons_zero]
              apply wpK_val
              · rfl
              · intro w' hw'
                go_simp
                first | exact rfl | exact ⟨rfl, hw'⟩
              simp only [Act.put, List.setIfInBounds_toArray, List.set_cons_succ, List.set_cons_zero]
              apply wpK_val
              · rfl
              · intro w' hw'
                go_simp
                first | exact rfl | exact ⟨rfl, hw'⟩
              simp only [Act.put, List.setIfInBounds_toArray, List.set_cons_succ, List.set_cons_zero]
              apply wpK_val
              · rfl
              · intro w' hw'
                go_simp
                first | exact rfl | exact ⟨rfl, hw'⟩
              simp only [Act.put, List.setIfInBounds_toArray, List.set_cons_succ, List.set_cons_zero]
              apply wpK_val
              · rfl
              · intro w' hw'
                have hcell := (hw'.cell (p := ⟨b, o + j, none⟩) HB.out).trans hr.out
                go_simp
                first | exact rfl | exact ⟨rfl, hw'⟩
              simp only [Act.put, List.setIfInBounds_toArray, List.set_cons_succ, List.set_cons_zero]
              apply wpK_val
              · rfl
              · intro w' hw'
                go_simp
                first | exact rfl | exact ⟨rfl, hw'⟩
              simp only [Act.put, List.setIfInBounds_toArray, List.set_cons_succ, List.set_cons_zero]
              apply wpK_val
              · rfl
              · intro w' hw'
                go_simp
                first | exact rfl | exact ⟨rfl, hw'⟩
              simp only [Act.put, List.setIfInBounds_toArray, List.set_cons_succ, List.set_cons_zero]
              refine wpK_nil fun w3 hw3 => ?_
              go_wp2_with fail
              exact ⟨⟨k' + 1, by omega, by go_num, hid hw3⟩, by simp [intOf]; omega⟩
            · obtain rfl : k' = lead x out := by omega
              have t1 : ¬ out.getD (lead x out) 0 < x := by have := lead_at x out (by rw [HM.out]; exact hkm); omega
              have T2 := hid (insU_there x out (by rw [HM.out]; exact hkm))
              have T3 := hid (insU_new x out)
              revert C2 t1 T2 T3
              generalize hy : out.getD (lead x out) 0 = y
              generalize hq : lead x out = q at *
              intro C2 t1 T2 T3
              have HQ := hid hq
              clear hy hq
              by_cases hyx : y = x
              · have te : (y == x) = true := by rw [hyx]; simp
                have HYX := hid hyx
                clear hyx
                go_wp2_with fail
                refine wp_region_tail (C := fun w' => Below w1.heap.size w1 w') 15 (by kernel_rfl) (by kernel_rfl) (by kernel_rfl) (hbk.out).drew ?_
                simp only [List.take_succ_cons, List.take_zero, List.drop_succ_cons, List.drop_zero]
                apply wpK_val
                · rfl
                · intro w' hw'
                  go_simp
                  first | exact rfl | exact ⟨rfl, hw'⟩
                simp only [Act.put, List.setIfInBounds_toArray, List.set_cons_succ, List.set_cons_zero]
                apply wpK_val
                · rfl
                · intro w' hw'
                  go_simp
                  first | exact rfl | exact ⟨rfl, hw'⟩
                simp only [Act.put, List.setIfInBounds_toArray, List.set_cons_succ, List.set_cons_zero]
                apply wpK_val
                · rfl
                · intro w' hw'
                  go_simp
                  first | exact rfl | exact ⟨rfl, hw'⟩
                simp only [Act.put, List.setIfInBounds_toArray, List.set_cons_succ, List.set_cons_zero]
                apply wpK_val
                · rfl
                · intro w' hw'
                  go_simp
                  first | exact rfl | exact ⟨rfl, hw'⟩
                simp only [Act.put, List.setIfInBounds_toArray, List.set_cons_succ, List.set_cons_zero]
                apply wpK_val
                · rfl
                · intro w' hw'
                  go_simp
                  first | exact rfl | exact ⟨rfl, hw'⟩
                simp only [Act.put, List.setIfInBounds_toArray, List.set_cons_succ, List.set_cons_zero]
                apply wpK_val
                · rfl
                · intro w' hw'
                  go_simp
                  first | exact rfl | exact ⟨rfl, hw'⟩
                simp only [Act.put, List.setIfInBounds_toArray, List.set_cons_succ, List.set_cons_zero]
                apply wpK_val
                · rfl
                · intro w' hw'
                  go_simp
                  first | exact rfl | exact ⟨rfl, hw'⟩
                simp only [Act.put, List.setIfInBounds_toArray, List.set_cons_succ, List.set_cons_zero]
                apply wpK_val
                · rfl
                · intro w' hw'
                  go_simp
                  first | exact rfl | exact ⟨rfl, hw'⟩
                simp only [Act.put, List.setIfInBounds_toArray, List.set_cons_succ, List.set_cons_zero]
                apply wpK_val
                · rfl
                · intro w' hw'
                  have hcell := (hw'.cell (p := ⟨g, q, none⟩) hg).trans C2.out
                  go_simp
                  first | exact rfl | exact ⟨rfl, hw'⟩
                simp only [Act.put, List.setIfInBounds_toArray, List.set_cons_succ, List.set_cons_zero]
                apply wpK_val
                · rfl
                · intro w' hw'
                  go_simp
                  first | exact rfl | exact ⟨rfl, hw'⟩
                simp only [Act.put, List.setIfInBounds_toArray, List.set_cons_succ, List.set_cons_zero]
                apply wpK_val
                · rfl
                · intro w' hw'
                  go_simp
                  first | exact rfl | exact ⟨rfl, hw'⟩
                simp only [Act.put, List.setIfInBounds_toArray, List.set_cons_succ, List.set_cons_zero]
                apply wpK_val
                · rfl
                · intro w' hw'
                  go_simp
                  first | exact rfl | exact ⟨rfl, hw'⟩
                simp only [Act.put, List.setIfInBounds_toArray, List.set_cons_succ, List.set_cons_zero]
                apply wpK_val
                · rfl
                · intro w' hw'
                  have hcell := (hw'.cell (p := ⟨b, o + j, none⟩) HB.out).trans hr.out
                  go_simp
                  first | exact rfl | exact ⟨rfl, hw'⟩
                simp only [Act.put, List.setIfInBounds_toArray, List.set_cons_succ, List.set_cons_zero]
                apply wpK_val
                · rfl
                · intro w' hw'
                  go_simp
                  first | exact rfl | exact ⟨rfl, hw'⟩
                simp only [Act.put, List.setIfInBounds_toArray, List.set_cons_succ, List.set_cons_zero]
                apply wpK_val
                · rfl
                · intro w' hw'
                  go_simp
                  first | exact rfl | exact ⟨rfl, hw'⟩
                simp only [Act.put, List.setIfInBounds_toArray, List.set_cons_succ, List.set_cons_zero]
                refine wpK_nil fun w3 hw3 => ?_
                go_wp2_with fail
                refine wp_region_tail (C := fun w' => Below w1.heap.size w1 w') 15 (by kernel_rfl) (by kernel_rfl) (by kernel_rfl) (hw3).drew ?_
                simp only [List.take_succ_cons, List.take_zero, List.drop_succ_cons, List.drop_zero]
                apply wpK_val
                · rfl
                · intro w' hw'
                  go_simp
                  first | exact rfl | exact ⟨rfl, hw'⟩
                simp only [Act.put, List.setIfInBounds_toArray, List.set_cons_succ, List.set_cons_zero]
                apply wpK_val
                · rfl
                · intro w' hw'
                  go_simp
                  first | exact rfl | exact ⟨rfl, hw'⟩
                simp only [Act.put, List.setIfInBounds_toArray, List.set_cons_succ, List.set_cons_zero]
                apply wpK_val
                · rfl
                · intro w' hw'
                  go_simp
                  first | exact rfl | exact ⟨rfl, hw'⟩
                simp only [Act.put, List.setIfInBounds_toArray, List.set_cons_succ, List.set_cons_zero]
                apply wpK_val
                · rfl
                · intro w' hw'
                  go_simp
                  first | exact rfl | exact ⟨rfl, hw'⟩
                simp only [Act.put, List.setIfInBounds_toArray, List.set_cons_succ, List.set_cons_zero]
                apply wpK_val
                · rfl
                · intro w' hw'
                  go_simp
                  first | exact rfl | exact ⟨rfl, hw'⟩
                simp only [Act.put, List.setIfInBounds_toArray, List.set_cons_succ, List.set_cons_zero]
                apply wpK_val
                · rfl
                · intro w' hw'
                  go_simp
                  first | exact rfl | exact ⟨rfl, hw'⟩
                simp only [Act.put, List.setIfInBounds_toArray, List.set_cons_succ, List.set_cons_zero]
                apply wpK_val
                · rfl
                · intro w' hw'
                  go_simp
                  first | exact rfl | exact ⟨rfl, hw'⟩
                simp only [Act.put, List.setIfInBounds_toArray, List.set_cons_succ, List.set_cons_zero]
                apply wpK_val
                · rfl
                · intro w' hw'
                  go_simp
                  first | exact rfl | exact ⟨rfl, hw'⟩
                simp only [Act.put, List.setIfInBounds_toArray, List.set_cons_succ, List.set_cons_zero]
                apply wpK_val
                · rfl
                · intro w' hw'
                  have hcell := (hw'.cell (p := ⟨g, q, none⟩) hg).trans C2.out
                  go_simp
                  first | exact rfl | exact ⟨rfl, hw'⟩
                simp only [Act.put, List.setIfInBounds_toArray, List.set_cons_succ, List.set_cons_zero]
                apply wpK_val
                · rfl
                · intro w' hw'
                  go_simp
                  first | exact rfl | exact ⟨rfl, hw'⟩
                simp only [Act.put, List.setIfInBounds_toArray, List.set_cons_succ, List.set_cons_zero]
                apply wpK_val
                · rfl
                · intro w' hw'
                  go_simp
                  first | exact rfl | exact ⟨rfl, hw'⟩
                simp only [Act.put, List.setIfInBounds_toArray, List.set_cons_succ, List.set_cons_zero]
                apply wpK_val
                · rfl
                · intro w' hw'
                  go_simp
                  first | exact rfl | exact ⟨rfl, hw'⟩
                simp only [Act.put, List.setIfInBounds_toArray, List.set_cons_succ, List.set_cons_zero]
                apply wpK_val
                · rfl
                · intro w' hw'
                  have hcell := (hw'.cell (p := ⟨b, o + j, none⟩) HB.out).trans hr.out
                  go_simp
                  first | exact rfl | exact ⟨rfl, hw'⟩
                simp only [Act.put, List.setIfInBounds_toArray, List.set_cons_succ, List.set_cons_zero]
                apply wpK_val
                · rfl
                · intro w' hw'
                  go_simp
                  first | exact rfl | exact ⟨rfl, hw'⟩
                simp only [Act.put, List.setIfInBounds_toArray, List.set_cons_succ, List.set_cons_zero]
                apply wpK_val
                · rfl
                · intro w' hw'
                  go_simp
                  first | exact rfl | exact ⟨rfl, hw'⟩
                simp only [Act.put, List.setIfInBounds_toArray, List.set_cons_succ, List.set_cons_zero]
                refine wpK_nil fun w4 hw4 => ?_
                go_wp2_with fail
                exact ⟨⟨j + 1, _, by omega, by go_num, rfl, hid (by rw [HX.out, T2.out HYX.out]; exact hO.out.below (hw4.mono (Nat.le_refl _))), hid (hb.out.trans (hw4.mono hb.out.size))⟩, by simp [intOf]; omega⟩
              · have te : (y == x) = false := by simpa using hyx
                have HU := hid (T3.out fun h => hyx h.2)
                clear hyx
                go_wp2_with fail
                refine wp_region_tail (C := fun w' => Below w1.heap.size w1 w') 15 (by kernel_rfl) (by kernel_rfl) (by kernel_rfl) (hbk.out).drew ?_
                simp only [List.take_succ_cons, List.take_zero, List.drop_succ_cons, List.drop_zero]
                apply wpK_val
                · rfl
                · intro w' hw'
                  go_simp
                  first | exact rfl | exact ⟨rfl, hw'⟩
                simp only [Act.put, List.setIfInBounds_toArray, List.set_cons_succ, List.set_cons_zero]
                apply wpK_val
                · rfl
                · intro w' hw'
                  go_simp
                  first | exact rfl | exact ⟨rfl, hw'⟩
                simp only [Act.put, List.setIfInBounds_toArray, List.set_cons_succ, List.set_cons_zero]
                apply wpK_val
                · rfl
                · intro w' hw'
                  go_simp
                  first | exact rfl | exact ⟨rfl, hw'⟩
                simp only [Act.put, List.setIfInBounds_toArray, List.set_cons_succ, List.set_cons_zero]
                apply wpK_val
                · rfl
                · intro w' hw'
                  go_simp
                  first | exact rfl | exact ⟨rfl, hw'⟩
                simp only [Act.put, List.setIfInBounds_toArray, List.set_cons_succ, List.set_cons_zero]
                apply wpK_val
                · rfl
                · intro w' hw'
                  go_simp
                  first | exact rfl | exact ⟨rfl, hw'⟩
                simp only [Act.put, List.setIfInBounds_toArray, List.set_cons_succ, List.set_cons_zero]
                apply wpK_val
                · rfl
                · intro w' hw'
                  go_simp
                  first | exact rfl | exact ⟨rfl, hw'⟩
                simp only [Act.put, List.setIfInBounds_toArray, List.set_cons_succ, List.set_cons_zero]
                apply wpK_val
                · rfl
                · intro w' hw'
                  go_simp
                  first | exact rfl | exact ⟨rfl, hw'⟩
                simp only [Act.put, List.setIfInBounds_toArray, List.set_cons_succ, List.set_cons_zero]
                apply wpK_val
                · rfl
                · intro w' hw'
                  go_simp
                  first | exact rfl | exact ⟨rfl, hw'⟩
                simp only [Act.put, List.setIfInBounds_toArray, List.set_cons_succ, List.set_cons_zero]
                apply wpK_val
                · rfl
                · intro w' hw'
                  have hcell := (hw'.cell (p := ⟨g, q, none⟩) hg).trans C2.out
                  go_simp
                  first | exact rfl | exact ⟨rfl, hw'⟩
                simp only [Act.put, List.setIfInBounds_toArray, List.set_cons_succ, List.set_cons_zero]
                apply wpK_val
                · rfl
                · intro w' hw'
                  go_simp
                  first | exact rfl | exact ⟨rfl, hw'⟩
                simp only [Act.put, List.setIfInBounds_toArray, List.set_cons_succ, List.set_cons_zero]
                apply wpK_val
                · rfl
                · intro w' hw'
                  go_simp
                  first | exact rfl | exact ⟨rfl, hw'⟩
                simp only [Act.put, List.setIfInBounds_toArray, List.set_cons_succ, List.set_cons_zero]
                apply wpK_val
                · rfl
                · intro w' hw'
                  go_simp
                  first | exact rfl | exact ⟨rfl, hw'⟩
                simp only [Act.put, List.setIfInBounds_toArray, List.set_cons_succ, List.set_cons_zero]
                apply wpK_val
                · rfl
                · intro w' hw'
                  have hcell := (hw'.cell (p := ⟨b, o + j, none⟩) HB.out).trans hr.out
                  go_simp
                  first | exact rfl | exact ⟨rfl, hw'⟩
                simp only [Act.put, List.setIfInBounds_toArray, List.set_cons_succ, List.set_cons_zero]
                apply wpK_val
                · rfl
                · intro w' hw'
                  go_simp
                  first | exact rfl | exact ⟨rfl, hw'⟩
                simp only [Act.put, List.setIfInBounds_toArray, List.set_cons_succ, List.set_cons_zero]
                apply wpK_val
                · rfl
                · intro w' hw'
                  go_simp
                  first | exact rfl | exact ⟨rfl, hw'⟩
                simp only [Act.put, List.setIfInBounds_toArray, List.set_cons_succ, List.set_cons_zero]
                refine wpK_nil fun w3 hw3 => ?_
                go_wp2_with fail
                refine wp_region_tail (C := fun w' => Below w1.heap.size w1 w') 15 (by kernel_rfl) (by kernel_rfl) (by kernel_rfl) (hw3).drew ?_
                simp only [List.take_succ_cons, List.take_zero, List.drop_succ_cons, List.drop_zero]
                apply wpK_val
                · rfl
                · intro w' hw'
                  go_simp
                  first | exact rfl | exact ⟨rfl, hw'⟩
                simp only [Act.put, List.setIfInBounds_toArray, List.set_cons_succ, List.set_cons_zero]
                apply wpK_val
                · rfl
                · intro w' hw'
                  go_simp
                  first | exact rfl | exact ⟨rfl, hw'⟩
                simp only [Act.put, List.setIfInBounds_toArray, List.set_cons_succ, List.set_cons_zero]
                apply wpK_val
                · rfl
                · intro w' hw'
                  go_simp
                  first | exact rfl | exact ⟨rfl, hw'⟩
                simp only [Act.put, List.setIfInBounds_toArray, List.set_cons_succ, List.set_cons_zero]
                apply wpK_val
                · rfl
                · intro w' hw'
                  go_simp
                  first | exact rfl | exact ⟨rfl, hw'⟩
                simp only [Act.put, List.setIfInBounds_toArray, List.set_cons_succ, List.set_cons_zero]
                apply wpK_val
                · rfl
                · intro w' hw'
                  go_simp
                  first | exact rfl | exact ⟨rfl, hw'⟩
                simp only [Act.put, List.setIfInBounds_toArray, List.set_cons_succ, List.set_cons_zero]
                apply wpK_val
                · rfl
                · intro w' hw'
                  go_simp
                  first | exact rfl | exact ⟨rfl, hw'⟩
                simp only [Act.put, List.setIfInBounds_toArray, List.set_cons_succ, List.set_cons_zero]
                apply wpK_val
                · rfl
                · intro w' hw'
                  go_simp
                  first | exact rfl | exact ⟨rfl, hw'⟩
                simp only [Act.put, List.setIfInBounds_toArray, List.set_cons_succ, List.set_cons_zero]
                apply wpK_val
                · rfl
                · intro w' hw'
                  go_simp
                  first | exact rfl | exact ⟨rfl, hw'⟩
                simp only [Act.put, List.setIfInBounds_toArray, List.set_cons_succ, List.set_cons_zero]
                apply wpK_val
                · rfl
                · intro w' hw'
                  have hcell := (hw'.cell (p := ⟨g, q, none⟩) hg).trans C2.out
                  go_simp
                  first | exact rfl | exact ⟨rfl, hw'⟩
                simp only [Act.put, List.setIfInBounds_toArray, List.set_cons_succ, List.set_cons_zero]
                apply wpK_val
                · rfl
                · intro w' hw'
                  go_simp
                  first | exact rfl | exact ⟨rfl, hw'⟩
                simp only [Act.put, List.setIfInBounds_toArray, List.set_cons_succ, List.set_cons_zero]
                apply wpK_val
                · rfl
                · intro w' hw'
                  go_simp
                  first | exact rfl | exact ⟨rfl, hw'⟩
                simp only [Act.put, List.setIfInBounds_toArray, List.set_cons_succ, List.set_cons_zero]
                apply wpK_val
                · rfl
                · intro w' hw'
                  go_simp
                  first | exact rfl | exact ⟨rfl, hw'⟩
                simp only [Act.put, List.setIfInBounds_toArray, List.set_cons_succ, List.set_cons_zero]
                apply wpK_val
                · rfl
                · intro w' hw'
                  have hcell := (hw'.cell (p := ⟨b, o + j, none⟩) HB.out).trans hr.out
                  go_simp
                  first | exact rfl | exact ⟨rfl, hw'⟩
                simp only [Act.put, List.setIfInBounds_toArray, List.set_cons_succ, List.set_cons_zero]
                apply wpK_val
                · rfl
                · intro w' hw'
                  go_simp
                  first | exact rfl | exact ⟨rfl, hw'⟩
                simp only [Act.put, List.setIfInBounds_toArray, List.set_cons_succ, List.set_cons_zero]
                apply wpK_val
                · rfl
                · intro w' hw'
                  go_simp
                  first | exact rfl | exact ⟨rfl, hw'⟩
                simp only [Act.put, List.setIfInBounds_toArray, List.set_cons_succ, List.set_cons_zero]
                refine wpK_nil fun w4 hw4 => ?_
                skip
                have R1 := hid (show IntL w4 w1.heap.size (some ⟨g, 0, none⟩) (out.take q) from (HO2.out.below hw4 (Nat.le_refl _)).take)
                have R1L := hid (show (out.take q).length = q by rw [List.length_take, HM.out]; omega)
                go_upto_region 11 with ((with_reducible apply wappz (l := []) (kk := out.take q)); rfl; rfl; exact (fun h => by cases h); exact (OwnZ.nil (w := w4) (B := w4.heap.size)); exact R1.out; exact R1L.out; (simp; omega); exact Nat.le_refl _; intro v1 w5 o5 g5)
                have B5 := hid (below_grownZ (Below.refl w4.heap.size w4) g5 (OwnZ.nil (w := w4) (B := w4.heap.size)) (Nat.le_refl _) (Nat.le_refl _))
                have O5 := hid o5
                rw [List.nil_append] at O5
                have BW5 := hid (hw4.trans (B5.out.mono hw4.size))
                have c5 := (BW5.out.cell (p := ⟨b, o + j, none⟩) HB.out).trans hr.out
                have A5 := hid (OwnZ.alloc O5.out (.cells #[.int .i64 x] 3))
                have I5 := hid (ints_one (w := w5) (t := 3) (x := x) (B := w5.heap.size + 1) (Nat.lt_succ_self _))
                have Z5 := hid (show w4.heap.size ≤ (w5.alloc (.cells #[.int .i64 x] 3)).heap.size by rw [World.size_alloc]; have := B5.out.size; omega)
                have L5 := hid (show (out.take q).length + 1 ≤ 1000000 by rw [R1L.out]; omega)
                clear o5 g5
                go_upto_region 12 with ((with_reducible apply wappz (l := out.take q) (kk := [x])); rfl; rfl; exact (fun h => by cases h); exact A5.out; exact I5.out; rfl; exact L5.out; exact Z5.out; intro v2 w6 o6 g6)
                have B6 := hid (below_grownZ (B5.out.alloc B5.out.size (.cells #[.int .i64 x] 3)) g6 A5.out (Nat.le_refl _) (Nat.le_refl _))
                have O6 := hid o6
                clear o6 g6 c5
                have Z6 := hid (B6.out.size)
                have R3 := hid (show IntL w6 w1.heap.size (some ⟨g, q, none⟩) (out.drop q) from (HO2.out.below (hw4.trans (B6.out.mono hw4.size)) (Nat.le_refl _)).drop)
                have R3L := hid (show (out.drop q).length = m - q by rw [List.length_drop, HM.out])
                have L6 := hid (show (out.take q ++ [x]).length + (m - q) ≤ 1000000 by rw [List.length_append, R1L.out]; simp; omega)
                go_wp2_with ((with_reducible apply wappz (l := out.take q ++ [x]) (kk := out.drop q)); rfl; rfl; exact (fun h => by cases h); exact O6.out; exact R3.out; exact R3L.out; exact L6.out; exact Z6.out; intro v3 w7 o7 g7)
                have B7 := hid (below_grownZ B6.out g7 O6.out (Nat.le_refl _) (Nat.le_refl _))
                have O7 := hid o7
                clear o7 g7
                have HZ := hid (show w.heap.size ≤ w4.heap.size from Nat.le_trans hb.out.size hw4.size)
                exact ⟨⟨j + 1, v3, by omega, by go_num, rfl, hid (by rw [HX.out, HU.out]; exact (by simpa using O7.out.lower HZ.out)), hid (hb.out.trans ((hw4.trans (B7.out.mono hw4.size)).mono hb.out.size))⟩, by simp [intOf]; omega⟩
          · have hkl : k' = lead x out := by omega
            have hkm' : k' = m := by omega
            have HU := hid (insU_new x out fun h => by rw [HM.out] at h; omega)
            rw [← hkl] at HU
            clear hkl hk'
            have tk : ¬ ((k' : Int) < (m : Int)) := by omega
            have tk2 : decide ((k' : Int) < (m : Int)) = false := by simp; omega
            have hle2 : k' ≤ m := by omega
            have HKM := hid hkm'
            clear hkm'
            go_wp2_with fail
            refine wp_region_tail (C := fun w' => Below w1.heap.size w1 w') 15 (by kernel_rfl) (by kernel_rfl) (by kernel_rfl) (hbk.out).drew ?_
            simp only [List.take_succ_cons, List.take_zero, List.drop_succ_cons, List.drop_zero]
            apply wpK_val
            · rfl
            · intro w' hw'
              go_simp
              first | exact rfl | exact ⟨rfl, hw'⟩
            simp only [Act.put, List.setIfInBounds_toArray, List.set_cons_succ, List.set_cons_zero]
            apply wpK_val
            · rfl
            · intro w' hw'
              go_simp
              first | exact rfl | exact ⟨rfl, hw'⟩
            simp only [Act.put, List.setIfInBounds_toArray, List.set_cons_succ, List.set_cons_zero]
            apply wpK_val
            · rfl
            · intro w' hw'
              go_simp
              first | exact rfl | exact ⟨rfl, hw'⟩
            simp only [Act.put, List.setIfInBounds_toArray, List.set_cons_succ, List.set_cons_zero]
            apply wpK_val
            · rfl
            · intro w' hw'
              go_simp
              first | exact rfl | exact ⟨rfl, hw'⟩
            simp only [Act.put, List.setIfInBounds_toArray, List.set_cons_succ, List.set_cons_zero]
            apply wpK_val
            · rfl
            · intro w' hw'
              go_simp
              first | exact rfl | exact ⟨rfl, hw'⟩
            simp only [Act.put, List.setIfInBounds_toArray, List.set_cons_succ, List.set_cons_zero]
            apply wpK_not
            · rfl
            simp only [Act.put, List.setIfInBounds_toArray, List.set_cons_succ, List.set_cons_zero]
            apply wpK_not
            · rfl
            simp only [Act.put, List.setIfInBounds_toArray, List.set_cons_succ, List.set_cons_zero]
            apply wpK_not
            · rfl
            simp only [Act.put, List.setIfInBounds_toArray, List.set_cons_succ, List.set_cons_zero]
            apply wpK_not
            · rfl
            simp only [Act.put, List.setIfInBounds_toArray, List.set_cons_succ, List.set_cons_zero]
            apply wpK_not
            · rfl
            simp only [Act.put, List.setIfInBounds_toArray, List.set_cons_succ, List.set_cons_zero]
            apply wpK_not
            · rfl
            simp only [Act.put, List.setIfInBounds_toArray, List.set_cons_succ, List.set_cons_zero]
            apply wpK_not
            · rfl
            simp only [Act.put, List.setIfInBounds_toArray, List.set_cons_succ, List.set_cons_zero]
            apply wpK_not
            · rfl
            simp only [Act.put, List.setIfInBounds_toArray, List.set_cons_succ, List.set_cons_zero]
            apply wpK_not
            · rfl
            simp only [Act.put, List.setIfInBounds_toArray, List.set_cons_succ, List.set_cons_zero]
            apply wpK_val
            · rfl
            · intro w' hw'
              go_simp
              first | exact rfl | exact ⟨rfl, hw'⟩
            simp only [Act.put, List.setIfInBounds_toArray, List.set_cons_succ, List.set_cons_zero]
            refine wpK_nil fun w3 hw3 => ?_
            go_wp2_with fail
            refine wp_region_tail (C := fun w' => Below w1.heap.size w1 w') 15 (by kernel_rfl) (by kernel_rfl) (by kernel_rfl) (hw3).drew ?_
            simp only [List.take_succ_cons, List.take_zero, List.drop_succ_cons, List.drop_zero]
            apply wpK_val
            · rfl
            · intro w' hw'
              go_simp
              first | exact rfl | exact ⟨rfl, hw'⟩
            simp only [Act.put, List.setIfInBounds_toArray, List.set_cons_succ, List.set_cons_zero]
            apply wpK_val
            · rfl
            · intro w' hw'
              go_simp
              first | exact rfl | exact ⟨rfl, hw'⟩
            simp only [Act.put, List.setIfInBounds_toArray, List.set_cons_succ, List.set_cons_zero]
            apply wpK_val
            · rfl
            · intro w' hw'
              go_simp
              first | exact rfl | exact ⟨rfl, hw'⟩
            simp only [Act.put, List.setIfInBounds_toArray, List.set_cons_succ, List.set_cons_zero]
            apply wpK_val
            · rfl
            · intro w' hw'
              go_simp
              first | exact rfl | exact ⟨rfl, hw'⟩
            simp only [Act.put, List.setIfInBounds_toArray, List.set_cons_succ, List.set_cons_zero]
            apply wpK_val
            · rfl
            · intro w' hw'
              go_simp
              first | exact rfl | exact ⟨rfl, hw'⟩
            simp only [Act.put, List.setIfInBounds_toArray, List.set_cons_succ, List.set_cons_zero]
            apply wpK_not
            · rfl
            simp only [Act.put, List.setIfInBounds_toArray, List.set_cons_succ, List.set_cons_zero]
            apply wpK_not
            · rfl
            simp only [Act.put, List.setIfInBounds_toArray, List.set_cons_succ, List.set_cons_zero]
            apply wpK_not
            · rfl
            simp only [Act.put, List.setIfInBounds_toArray, List.set_cons_succ, List.set_cons_zero]
            apply wpK_not
            · rfl
            simp only [Act.put, List.setIfInBounds_toArray, List.set_cons_succ, List.set_cons_zero]
            apply wpK_not
            · rfl
            simp only [Act.put, List.setIfInBounds_toArray, List.set_cons_succ, List.set_cons_zero]
            apply wpK_not
            · rfl
            simp only [Act.put, List.setIfInBounds_toArray, List.set_cons_succ, List.set_cons_zero]
            apply wpK_not
            · rfl
            simp only [Act.put, List.setIfInBounds_toArray, List.set_cons_succ, List.set_cons_zero]
            apply wpK_not
            · rfl
            simp only [Act.put, List.setIfInBounds_toArray, List.set_cons_succ, List.set_cons_zero]
            apply wpK_not
            · rfl
            simp only [Act.put, List.setIfInBounds_toArray, List.set_cons_succ, List.set_cons_zero]
            apply wpK_val
            · rfl
            · intro w' hw'
              go_simp
              first | exact rfl | exact ⟨rfl, hw'⟩
            simp only [Act.put, List.setIfInBounds_toArray, List.set_cons_succ, List.set_cons_zero]
            refine wpK_nil fun w4 hw4 => ?_
            skip
            have R1 := hid (show IntL w4 w1.heap.size (some ⟨g, 0, none⟩) (out.take k') from (HO2.out.below hw4 (Nat.le_refl _)).take)
            have R1L := hid (show (out.take k').length = k' by rw [List.length_take, HM.out]; exact Nat.min_eq_left hle2)
            go_upto_region 11 with ((with_reducible apply wappz (l := []) (kk := out.take k')); rfl; rfl; exact (fun h => by cases h); exact (OwnZ.nil (w := w4) (B := w4.heap.size)); exact R1.out; exact R1L.out; (simp; omega); exact Nat.le_refl _; intro v1 w5 o5 g5)
            have B5 := hid (below_grownZ (Below.refl w4.heap.size w4) g5 (OwnZ.nil (w := w4) (B := w4.heap.size)) (Nat.le_refl _) (Nat.le_refl _))
            have O5 := hid o5
            rw [List.nil_append] at O5
            have BW5 := hid (hw4.trans (B5.out.mono hw4.size))
            have c5 := (BW5.out.cell (p := ⟨b, o + j, none⟩) HB.out).trans hr.out
            have A5 := hid (OwnZ.alloc O5.out (.cells #[.int .i64 x] 3))
            have I5 := hid (ints_one (w := w5) (t := 3) (x := x) (B := w5.heap.size + 1) (Nat.lt_succ_self _))
            have Z5 := hid (show w4.heap.size ≤ (w5.alloc (.cells #[.int .i64 x] 3)).heap.size by rw [World.size_alloc]; have := B5.out.size; omega)
            have L5 := hid (show (out.take k').length + 1 ≤ 1000000 by rw [R1L.out]; omega)
            clear o5 g5
            go_upto_region 12 with ((with_reducible apply wappz (l := out.take k') (kk := [x])); rfl; rfl; exact (fun h => by cases h); exact A5.out; exact I5.out; rfl; exact L5.out; exact Z5.out; intro v2 w6 o6 g6)
            have B6 := hid (below_grownZ (B5.out.alloc B5.out.size (.cells #[.int .i64 x] 3)) g6 A5.out (Nat.le_refl _) (Nat.le_refl _))
            have O6 := hid o6
            clear o6 g6 c5
            have Z6 := hid (B6.out.size)
            have HD : out.drop k' = [] := List.drop_of_length_le (by rw [HM.out]; have := HKM.out; omega)
            have HU := hid (show insU x out = out.take k' ++ x :: [] by rw [HU.out, HD])
            have L6 := hid (show (out.take k' ++ [x]).length + (m - k') ≤ 1000000 by rw [List.length_append, R1L.out]; simp; omega)
            have M0 := hid (show ([] : List Int).length = m - k' by have := HKM.out; simp; omega)
            clear HD
            go_wp2_with ((with_reducible apply wappz (l := out.take k' ++ [x]) (kk := [])); rfl; rfl; (first | exact (fun h => by cases h) | exact (fun h => by split at h <;> cases h)); exact O6.out; exact (IntL.empt (w := w6) (B := w6.heap.size) rfl); (first | exact M0.out | rfl); (first | exact L6.out | (rw [List.length_append, R1L.out]; simp; omega)); exact Z6.out; intro v3 w7 o7 g7)
            have B7 := hid (below_grownZ B6.out g7 O6.out (Nat.le_refl _) (Nat.le_refl _))
            have O7 := hid o7
            clear o7 g7
            have HZ := hid (show w.heap.size ≤ w4.heap.size from Nat.le_trans hb.out.size hw4.size)
            exact ⟨⟨j + 1, v3, by omega, by go_num, rfl, hid (by rw [HX.out, HU.out]; exact (by simpa using O7.out.lower HZ.out)), hid (hb.out.trans ((hw4.trans (B7.out.mono hw4.size)).mono hb.out.size))⟩, by simp [intOf]; omega⟩
    · obtain rfl : j = n := by omega
      have tj : ¬ ((j : Int) < (j : Int)) := by omega
      go_wp2_with fail
      go_ret
      rw [List.take_of_length_le (by rw [HL.out]; omega)] at hO
      exact ⟨_, rfl, hO.out, hb.out⟩
end Go.Proofs.Ytlbfjnddbdpdpaa
set_option maxRecDepth 100000
namespace Go.Proofs.Ytlbfjnddbdpdpaa
open Go.ChangeShapes Go.WideShapes Go.ChangeAt Go.RowKit
attribute [local go_sem] Gives
def twoX (i j : Nat) (s q : Nat → Nat) : Nat → Nat := fun k => GfM.mul (GfM.inv (GfM.pw i ^^^ GfM.pw j)) (q k ^^^ GfM.mul (GfM.pw j) (s k))
def twoY (i j : Nat) (s q : Nat → Nat) : Nat → Nat := fun k => s k ^^^ twoX i j s q k
theorem pw_apart {i j : Nat} (hi : i < 255) (hj : j < 255) (h : i ≠ j) : GfM.pw i ^^^ GfM.pw j ≠ 0 := fun e => h (GfM.pw_inj hi hj (GfM.xor_eq_zero e))
set_option maxRecDepth 100000 in
theorem two_any (i j : Nat) (s q : Nat → Nat) (hi : i < 64) (hj : j < 64) (hij : i ≠ j) (hs : ∀ k, s k < 256) (hq : ∀ k, q k < 256) (w : World) :
    Calls Try.prog 68 #[.int .i64 i, .int .i64 j, .agg (sec s), .agg (sec q)] w fun e w' => e = .returned (.tuple #[.agg (sec (twoX i j s q)), .agg (sec (twoY i j s q))]) ∧ Below w.heap.size w w' := by
  have HS := hid hs
  have HQ := hid hq
  clear hs hq
  have hx := GfM.xor_lt (pwI_lt i) (pwI_lt j)
  have hne : pwI i ^^^ pwI j ≠ 0 := by rw [pwI_nat, pwI_nat]; exact pw_apart (by omega) (by omega) hij
  have HE : RowKit.Hid (pwI i = GfM.pw i ∧ pwI j = GfM.pw j) := hid ⟨pwI_nat i, pwI_nat j⟩
  have hl := GfM.inv_lt (pwI i ^^^ pwI j)
  go_enter Try.func68, Try.ntmps68
  go_wp2_with fail
  generalize hw3 : World.alloc (World.alloc (World.alloc (World.alloc w _) _) _) _ = w3
  have b1 : Blk w3 w.heap.size 32 (sec s) := by rw [← hw3]; exact (((Blk.top rfl rfl).alloc _).alloc _).alloc _
  have b2 : Blk w3 (w.heap.size + 1) 32 (sec q) := by rw [← hw3]; exact ((Blk.top rfl (by simp)).alloc _).alloc _
  have b3 : Blk w3 (w.heap.size + 1 + 1) 32 (sec fun _ => 0) := by rw [← hw3]; exact (Blk.top zlit (by simp)).alloc _
  have b4 : Blk w3 (w.heap.size + 1 + 1 + 1) 32 (sec fun _ => 0) := by rw [← hw3]; exact Blk.top zlit (by simp)
  have hb : Below w.heap.size w w3 := by rw [← hw3]; exact ((((Below.refl _ _).alloc (Nat.le_refl _) _).alloc (by simp) _).alloc (by simp; omega) _).alloc (by simp; omega) _
  clear hw3
  refine (pow_any _ _).mono ?_
  rintro e w' ⟨rfl, rfl⟩
  go_wp2_with fail
  refine (pow_any _ _).mono ?_
  rintro e w' ⟨rfl, rfl⟩
  go_wp2_with fail
  rw [u8_xor_nat _ _ (pwI_lt i) (pwI_lt j)]
  refine (inv_any _ hx hne _).mono ?_
  rintro e w' ⟨rfl, rfl⟩
  go_wp2_with fail
  refine wp_region_tail (C := fun w' => Below w3.heap.size w3 w') 8 (by kernel_rfl) (by kernel_rfl) (by kernel_rfl) (Below.refl _ _).drew ?_
  simp only [List.take_succ_cons, List.take_zero, List.drop_succ_cons, List.drop_zero]
  apply wpK_val
  · rfl
  · intro w' hw'
    go_simp
    first | exact rfl | exact ⟨rfl, hw'⟩
  simp only [Act.put, List.setIfInBounds_toArray, List.set_cons_succ, List.set_cons_zero]
  apply kld
  · rfl
  · rfl
  · exact fun w' hw' => b2.below hw' b2.lt
  simp only [Act.put, List.setIfInBounds_toArray, List.set_cons_succ, List.set_cons_zero]
  apply wpK_val
  · rfl
  · intro w' hw'
    go_simp
    first | exact rfl | exact ⟨rfl, hw'⟩
  simp only [Act.put, List.setIfInBounds_toArray, List.set_cons_succ, List.set_cons_zero]
  apply wpK_val
  · rfl
  · intro w' hw'
    go_simp
    exact (pow_any _ _).mono fun e w'' ⟨he, hb'⟩ => ⟨he, by subst hb'; exact hw'⟩
  simp only [Act.put, List.setIfInBounds_toArray, List.set_cons_succ, List.set_cons_zero]
  apply kld
  · rfl
  · rfl
  · exact fun w' hw' => b1.below hw' b1.lt
  simp only [Act.put, List.setIfInBounds_toArray, List.set_cons_succ, List.set_cons_zero]
  apply wpK_val
  · rfl
  · intro w' hw'
    go_simp
    exact (scale_any _ _ (pwI_lt _) HS.out _).mono fun e w'' ⟨he, hb'⟩ => ⟨he, hw'.trans (hb'.mono hw'.size)⟩
  simp only [Act.put, List.setIfInBounds_toArray, List.set_cons_succ, List.set_cons_zero]
  apply wpK_val
  · rfl
  · intro w' hw'
    go_simp
    exact (add_any _ _ HQ.out (fun _ => GfM.mul_lt (pwI_lt _)) _).mono fun e w'' ⟨he, hb'⟩ => ⟨he, hw'.trans (hb'.mono hw'.size)⟩
  simp only [Act.put, List.setIfInBounds_toArray, List.set_cons_succ, List.set_cons_zero]
  apply wpK_val
  · rfl
  · intro w' hw'
    go_simp
    exact (scale_any _ _ hl (fun k => GfM.xor_lt (HQ.out k) (GfM.mul_lt (pwI_lt _))) _).mono fun e w'' ⟨he, hb'⟩ => ⟨he, hw'.trans (hb'.mono hw'.size)⟩
  simp only [Act.put, List.setIfInBounds_toArray, List.set_cons_succ, List.set_cons_zero]
  refine wpK_nil fun w4 hw4 => ?_
  have c1 := b1.below hw4 b1.lt
  have c3 := b3.below hw4 b3.lt
  have c4 := b4.below hw4 b4.lt
  have hb4 := hb.trans (hw4.mono hb.size)
  have e1 : (fun k => GfM.mul (GfM.inv (pwI i ^^^ pwI j)) (q k ^^^ GfM.mul (pwI j) (s k))) = twoX i j s q := by funext k; unfold twoX; rw [HE.out.1, HE.out.2]
  rw [e1]
  have HX : RowKit.Hid (∀ k, twoX i j s q k < 256) := hid fun k => GfM.mul_lt (GfM.inv_lt _)
  clear b1 b2 b3 b4 hb hw4 e1 hx hne hl
  go_wp2_with ((with_reducible apply stx); rfl; rfl; assumption)
  generalize hw5 : World.setRow w4 _ _ = w5
  have d1 : Blk w5 w.heap.size 32 (sec s) := by rw [← hw5]; exact c1.setRow_other (by omega) _
  have d3 : Blk w5 (w.heap.size + 1 + 1) 32 (sec (twoX i j s q)) := by rw [← hw5]; exact c3.setRow_same _
  have d4 : Blk w5 (w.heap.size + 1 + 1 + 1) 32 (sec fun _ => 0) := by rw [← hw5]; exact c4.setRow_other (by omega) _
  have hd : Below w.heap.size w w5 := by rw [← hw5]; exact below_setRow hb4 (by omega) _
  clear hw5 c1 c3 c4 hb4
  refine wp_region_tail (C := fun w' => Below w5.heap.size w5 w') 5 (by kernel_rfl) (by kernel_rfl) (by kernel_rfl) (Below.refl _ _).drew ?_
  simp only [List.take_succ_cons, List.take_zero, List.drop_succ_cons, List.drop_zero]
  apply kld
  · rfl
  · rfl
  · exact fun w' hw' => d3.below hw' d3.lt
  simp only [Act.put, List.setIfInBounds_toArray, List.set_cons_succ, List.set_cons_zero]
  apply kld
  · rfl
  · rfl
  · exact fun w' hw' => d1.below hw' d1.lt
  simp only [Act.put, List.setIfInBounds_toArray, List.set_cons_succ, List.set_cons_zero]
  apply kld
  · rfl
  · rfl
  · exact fun w' hw' => d3.below hw' d3.lt
  simp only [Act.put, List.setIfInBounds_toArray, List.set_cons_succ, List.set_cons_zero]
  apply wpK_val
  · rfl
  · intro w' hw'
    go_simp
    exact (add_any _ _ HS.out HX.out _).mono fun e w'' ⟨he, hb'⟩ => ⟨he, hw'.trans (hb'.mono hw'.size)⟩
  simp only [Act.put, List.setIfInBounds_toArray, List.set_cons_succ, List.set_cons_zero]
  apply kst_id
  · rfl
  · rfl
  · rfl
  · exact fun w' hw' => d3.below hw' d3.lt
  simp only [Act.put]
  refine wpK_nil fun w6 hw6 => ?_
  have c3 := d3.below hw6 d3.lt
  have c4 := d4.below hw6 d4.lt
  have hc := hd.trans (hw6.mono hd.size)
  clear d1 d3 d4 hd hw6
  go_wp2_with ((with_reducible apply stx); rfl; rfl; assumption)
  apply ret_sec2 Try.results68
  · rfl
  · rfl
  · rfl
  · exact c3.setRow_other (by omega) _
  · exact c4.setRow_same _
  exact ⟨rfl, below_setRow hc (by omega) _⟩
end Go.Proofs.Ytlbfjnddbdpdpaa
set_option maxRecDepth 100000
namespace Go.Proofs.Ytlbfjnddbdpdpaa
open Go.ChangeShapes Go.WideShapes Go.ChangeAt Go.RowKit
/-- A slice of the bytes of l, in one row below block B. -/
def Byt (w : World) (B : Nat) (A : Option Addr) (l : List Nat) : Prop :=
  0 < l.length → ∃ b o, A = some ⟨b, o, none⟩ ∧ b < B ∧ ∀ i, i < l.length → w.cell? ⟨b, o + i, none⟩ = some (.int .u8 (l.getD i 0 : Nat))
theorem Byt.below {B B' : Nat} {w w' : World} {A : Option Addr} {l : List Nat} (h : Byt w B A l) (hb : Below B' w w') (hB : B ≤ B') : Byt w' B A l := fun hn => by
  obtain ⟨b, o, rfl, hl, hr⟩ := h hn
  exact ⟨b, o, rfl, hl, fun i hi => (hb.cell (p := ⟨b, o + i, none⟩) (by show b < B'; omega)).trans (hr i hi)⟩
theorem Byt.more {B B' : Nat} {w : World} {A : Option Addr} {l : List Nat} (h : Byt w B A l) (hB : B ≤ B') : Byt w B' A l := fun hn => by
  obtain ⟨b, o, rfl, hl, hr⟩ := h hn
  exact ⟨b, o, rfl, by omega, hr⟩
def B256 (l : List Nat) : Prop := ∀ x ∈ l, x < 256
theorem B256.take {l : List Nat} (h : B256 l) (n : Nat) : B256 (l.take n) := fun x hx => h x (List.mem_of_mem_take hx)
theorem B256.drop {l : List Nat} (h : B256 l) (n : Nat) : B256 (l.drop n) := fun x hx => h x (List.mem_of_mem_drop hx)
theorem B256.append {l k : List Nat} (h : B256 l) (h' : B256 k) : B256 (l ++ k) := fun x hx => (List.mem_append.1 hx).elim (h x) (h' x)
theorem getD_take {l : List Nat} {n i : Nat} (h : i < n) : (l.take n).getD i 0 = l.getD i 0 := by
  rw [List.getD_eq_getElem?_getD, List.getD_eq_getElem?_getD, List.getElem?_take_of_lt h]
theorem getD_drop {l : List Nat} {n i : Nat} : (l.drop n).getD i 0 = l.getD (n + i) 0 := by
  rw [List.getD_eq_getElem?_getD, List.getD_eq_getElem?_getD, List.getElem?_drop]
theorem Byt.take {w : World} {B : Nat} {A : Option Addr} {l : List Nat} (h : Byt w B A l) (n : Nat) : Byt w B A (l.take n) := fun hn => by
  rw [List.length_take] at hn
  obtain ⟨b, o, rfl, hl, hr⟩ := h (by omega)
  refine ⟨b, o, rfl, hl, fun i hi => ?_⟩
  rw [List.length_take] at hi
  rw [getD_take (by omega)]
  exact hr i (by omega)
theorem Byt.drop {w : World} {B b o : Nat} {l : List Nat} (h : Byt w B (some ⟨b, o, none⟩) l) (n : Nat) : Byt w B (some ⟨b, o + n, none⟩) (l.drop n) := fun hn => by
  rw [List.length_drop] at hn
  obtain ⟨b', o', e, hl, hr⟩ := h (by omega)
  cases e
  refine ⟨b, o + n, rfl, hl, fun i hi => ?_⟩
  rw [List.length_drop] at hi
  rw [getD_drop, Nat.add_assoc]
  exact hr (n + i) (by omega)
theorem Byt.none {w : World} {B : Nat} {A : Option Addr} {l : List Nat} (h : l.length = 0) : Byt w B A l := fun hn => by omega
def lenOf : Value → Nat
  | .slice _ n _ => n
  | _ => 0
theorem nums_at {l : List Nat} {i : Nat} (h : i < l.length) : l.getD i 0 = l[i] := by
  rw [List.getD_eq_getElem?_getD, List.getElem?_eq_getElem h]; rfl
end Go.Proofs.Ytlbfjnddbdpdpaa
set_option maxRecDepth 100000
namespace Go.Proofs.Ytlbfjnddbdpdpaa
open Go.ChangeShapes Go.WideShapes Go.ChangeAt Go.RowKit
def Drew (w w' : World) : Prop := ∃ k, w' = w.drewN k
theorem Drew.refl (w : World) : Drew w w.drew := ⟨1, rfl⟩
theorem Drew.cell {w w' : World} (h : Drew w w') {p : Addr} {v : Value} (hc : w.cell? p = some v) : w'.cell? p = some v := by
  obtain ⟨k, rfl⟩ := h; exact hc
theorem Drew.blk {w w' : World} (h : Drew w w') {g : Nat} {t : TypeId} {cs : Array Value} (hc : Blk w g t cs) : Blk w' g t cs := by
  obtain ⟨k, rfl⟩ := h; exact hc
theorem Drew.below {B : Nat} {a w w' : World} (h : Drew w w') (hb : Below B a w) : Below B a w' := by
  obtain ⟨k, rfl⟩ := h; exact below_drewN hb k
theorem Drew.heap {w w' : World} (h : Drew w w') : w'.heap = w.heap := by obtain ⟨k, rfl⟩ := h; rfl
/-- The worlds of a region in which one new row is made. -/
def Put (w : World) (o : Obj) (bb : Bool) (w' : World) : Prop := match bb with
  | false => Drew w w'
  | true => ∃ w7, Drew w w7 ∧ w' = w7.alloc o
theorem Put.cell {w w' : World} {o : Obj} {bb : Bool} (h : Put w o bb w') {p : Addr} {v : Value} (hp : p.block < w.heap.size) (hc : w.cell? p = some v) : w'.cell? p = some v := by
  cases bb with
  | false => exact Drew.cell h hc
  | true =>
    obtain ⟨w7, h7, rfl⟩ := h
    exact (((Below.refl w7.heap.size w7).alloc (Nat.le_refl _) _).cell (by rw [h7.heap]; exact hp)).trans (h7.cell hc)
theorem Drew.trans {w w' w'' : World} (h : Drew w w') (h2 : Drew w' w'') : Drew w w'' := by
  obtain ⟨a, ha⟩ := h
  obtain ⟨b, hb⟩ := h2
  exact ⟨a + b, by rw [hb, ha]; simp⟩
end Go.Proofs.Ytlbfjnddbdpdpaa
set_option maxRecDepth 100000
namespace Go.Proofs.Ytlbfjnddbdpdpaa
open Go.ChangeShapes Go.WideShapes Go.ChangeAt Go.RowKit
theorem cell_other {w : World} {p q : Addr} {v : Value} (h : q.block ≠ p.block) : (w.setCell p v).cell? q = w.cell? q := by
  unfold World.cell?
  rw [Below.heap_setCell w p v q.block h]
/-! ### Only block g has turned -/
theorem only_refl (w : World) (g : Nat) : w.grownBy w (some g) := ⟨rfl, rfl, rfl, Nat.le_refl _, fun _ _ _ => rfl⟩
theorem only_trans {a b c : World} {g : Nat} (h : a.grownBy b (some g)) (k : b.grownBy c (some g)) : a.grownBy c (some g) :=
  ⟨k.os.trans h.os, k.tape.trans h.tape, k.output.trans h.output, Nat.le_trans h.size k.size, fun i hi hne => (k.block i (Nat.lt_of_lt_of_le hi h.size) hne).trans (h.block i hi hne)⟩
theorem only_of_below {a b : World} {g B : Nat} (k : Below B a b) (hB : a.heap.size ≤ B) : a.grownBy b (some g) :=
  ⟨k.os, k.tape, k.output, k.size, fun i hi _ => k.block i (by omega)⟩
theorem only_below {a b c : World} {g B : Nat} (h : a.grownBy b (some g)) (k : Below B b c) (hB : a.heap.size ≤ B) : a.grownBy c (some g) :=
  ⟨k.os.trans h.os, k.tape.trans h.tape, k.output.trans h.output, Nat.le_trans h.size k.size, fun i hi hne => (k.block i (by omega)).trans (h.block i hi hne)⟩
theorem only_cell {a b : World} {g : Nat} (h : a.grownBy b (some g)) (i : Nat) (v : Value) : a.grownBy (b.setCell ⟨g, i, none⟩ v) (some g) :=
  ⟨h.os, h.tape, h.output, by simpa using h.size, fun k hk hne => (Below.heap_setCell b ⟨g, i, none⟩ v k (fun e => hne (by rw [e]))).trans (h.block k hk hne)⟩
theorem only_drew {a b c : World} {g : Nat} (h : a.grownBy b (some g)) (k : Drew b c) : a.grownBy c (some g) := by
  obtain ⟨n, rfl⟩ := k; exact ⟨h.os, h.tape, h.output, h.size, h.block⟩
theorem only_Below {a b : World} {g B : Nat} (h : a.grownBy b (some g)) (hB : B ≤ g) (hs : B ≤ a.heap.size) : Below B a b :=
  ⟨h.os, h.tape, h.output, h.size, fun i hi => h.block i (by omega) (fun e => by injection e; omega)⟩
theorem Blk.only {a b : World} {g k : Nat} {t : TypeId} {cs : Array Value} (h : Blk a k t cs) (ho : a.grownBy b (some g)) (hne : k ≠ g) : Blk b k t cs := (ho.block k h.lt (fun e => hne (by injection e))).trans h
end Go.Proofs.Ytlbfjnddbdpdpaa
