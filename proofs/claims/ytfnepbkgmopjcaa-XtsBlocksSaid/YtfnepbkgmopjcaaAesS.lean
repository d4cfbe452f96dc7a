/-
  Contracts of aes' small functions: double, from, bits.RotateLeft8; add, each, turn, turnBack, mix, mixBack.
-/
import Derived.Test.YtfnepbkgmopjcaaAr
import Derived.Test.YtfnepbkgmopjcaaAesN
import Derived.WalkKit
import Derived.ProofKit
import Derived.OpenShut
import Derived.StillTailTactics
import Derived.Outline
import Derived.Deep.WholeRow
namespace Go.Proofs.Ytfnepbkgmopjcaa
open Go.ChangeShapes Go.WideShapes Go.ChangeAt Go.RowKit
open AesM (Bt)
namespace AesP
attribute [local go_sem] Gives
theorem tSt : ArT 59 16 := ⟨by kernel_rfl, ⟨_, Try.underlying59, rfl⟩, (zero_of_info (P := Try.prog) (t := 59) (v := .agg (ar 16 fun _ => 0)) (n := 16) (by kernel_rfl)).1⟩
theorem tBk : ArT 35 16 := ⟨by kernel_rfl, ⟨_, Try.underlying35, rfl⟩, (zero_of_info (P := Try.prog) (t := 35) (v := .agg (ar 16 fun _ => 0)) (n := 16) (by kernel_rfl)).1⟩
theorem tTb : ArT 57 256 := ⟨by kernel_rfl, ⟨_, Try.underlying57, rfl⟩, (zero_of_info (P := Try.prog) (t := 57) (v := .agg (ar 256 fun _ => 0)) (n := 256) (by kernel_rfl)).1⟩
theorem wr_nat {x : Int} {j : Nat} (h : x = j) (hj : j < 9223372036854775808) : IntKind.i64.wrap x = (j : Int) := by rw [h]; exact IntWalk.i64_in _ (by omega)
theorem double_any (a : Nat) (ha : a < 256) (w : World) :
    Calls Try.prog 47 #[.int .u8 a] w fun e w' => e = .returned (.int .u8 (AesM.dbl a : Nat)) ∧ w = w' := by
  have H : bits .xor .u8 ((a : Int) * 2 % 256) ((a : Int) / 128 * 27) = ((AesM.dbl a : Nat) : Int) := by
    have h1 : ((a : Int) * 2 % 256) = ((a * 2 % 256 : Nat) : Int) := by omega
    have h2 : ((a : Int) / 128 * 27) = ((a / 128 * 27 : Nat) : Int) := by omega
    rw [h1, h2]
    exact u8_xor_nat _ _ (by omega) (by omega)
  go_enter Try.func47, Try.ntmps47
  go_wp2_with fail
  go_ret
  exact ⟨rfl, rfl⟩
theorem from_any (n : Nat) (hn : n < 16) (w : World) :
    Calls Try.prog 48 #[.int .i64 n] w fun e w' => e = .returned (.int .i64 (AesM.from' n : Nat)) ∧ w = w' := by
  have H : (((n : Int) + 4 * ((n : Int) % 4)) % 16) = ((AesM.from' n : Nat) : Int) := by unfold AesM.from'; omega
  go_enter Try.func48, Try.ntmps48
  go_wp2_with fail
  go_ret
  exact ⟨rfl, rfl⟩
set_option maxRecDepth 100000 in
theorem rot_any (b i : Nat) (hb : b < 256) (hi : 1 ≤ i) (hi4 : i ≤ 4) (w : World) :
    Calls Try.prog 45 #[.int .u8 b, .int .i64 i] w fun e w' => e = .returned (.int .u8 (AesM.rl b i : Nat)) ∧ w = w' := by
  have H : bits .or .u8 ((b : Int) * 2 ^ i % 256) ((b : Int) / 2 ^ (8 - i)) = ((AesM.rl b i : Nat) : Int) := by
    have h1 : ((b : Int) * 2 ^ i % 256) = ((b * 2 ^ i % 256 : Nat) : Int) := by norm_cast
    have h2 : ((b : Int) / 2 ^ (8 - i)) = ((b / 2 ^ (8 - i) : Nat) : Int) := by norm_cast
    rw [h1, h2]
    exact u8_or_nat _ _ (Nat.mod_lt _ (by omega)) (Nat.lt_of_le_of_lt (Nat.div_le_self _ _) hb)
  have m1 : bits .and .u64 1 7 = 1 := by decide
  have m2 : bits .and .u64 2 7 = 2 := by decide
  have m3 : bits .and .u64 3 7 = 3 := by decide
  have m4 : bits .and .u64 4 7 = 4 := by decide
  obtain rfl | rfl | rfl | rfl : i = 1 ∨ i = 2 ∨ i = 3 ∨ i = 4 := by omega
  all_goals
    simp only [Nat.reduceSub, Int.reducePow] at H
    go_enter Try.func45, Try.ntmps45
    go_wp2_with fail
    go_ret
    exact ⟨rfl, rfl⟩
set_option maxRecDepth 100000 in
theorem add_any (f g : Nat → Nat) (hf : Bt f) (hg : Bt g) (w : World) :
    Calls Try.prog 30 #[.agg (ar 16 f), .agg (ar 16 g)] w fun e w' => e = .returned (.agg (ar 16 (AesM.add f g))) ∧ Below w.heap.size w w' := by
  have HF := hid hf
  have HG := hid hg
  clear hf hg
  go_enter Try.func30, Try.ntmps30
  go_wp2_with (with_reducible apply alA tSt)
  generalize hw3 : World.alloc (World.alloc (World.alloc w _) _) _ = w3
  have b1 : Blk w3 w.heap.size 59 (ar 16 f) := by rw [← hw3]; exact ((Blk.new _ _ _).alloc _).alloc _
  have b2 : Blk w3 (w.heap.size + 1) 59 (ar 16 g) := by rw [← hw3]; exact (Blk.top rfl (by simp)).alloc _
  have b3 : Blk w3 (w.heap.size + 1 + 1) 59 (ar 16 fun _ => 0) := by rw [← hw3]; exact Blk.top rfl (by simp)
  have hb : Below w.heap.size w w3 := by rw [← hw3]; exact (((Below.refl _ _).alloc (Nat.le_refl _) _).alloc (by simp) _).alloc (by simp; omega) _
  clear hw3
  go_loopw [6] (fun i wr => ∃ k : Nat, k ≤ 16 ∧ i = .int .i64 k ∧ Blk wr w.heap.size 59 (ar 16 (upTo k f fun j => f j ^^^ g j)) ∧ Blk wr (w.heap.size + 1) 59 (ar 16 g) ∧ Blk wr (w.heap.size + 1 + 1) 59 (ar 16 fun _ => 0) ∧ Below w.heap.size w wr) (fun i _ => 16 - (intOf i).toNat)
  case atStart => exact ⟨0, by omega, rfl, by rw [upTo_zero]; exact b1, b2, b3, hb⟩
  case round =>
    clear b1 b2 b3 hb
    obtain ⟨k, hk, rfl, b1, b2, b3, hb⟩ := hrel
    by_cases hlt : k < 16
    · have c1 : wr.cell? ⟨w.heap.size, k, none⟩ = some (.int .u8 (f k : Nat)) := by rw [b1.cell, get_ar hlt, upTo_at]
      have c2 : wr.cell? ⟨w.heap.size + 1, k, none⟩ = some (.int .u8 (g k : Nat)) := by rw [b2.cell, get_ar hlt]
      have c3 := b1.frozen k
      go_wp2_with fail
      go_still_tail 8, (by kernel_rfl)
      change wpList _ _ _ _ _ wr.drew
      rw [u8_xor_nat _ _ (HF.out k) (HG.out k)]
      go_wp2_with fail
      go_roundw
      case rel => exact ⟨k + 1, by omega, by go_num, upTo_step (b1.setCell_same k _).drew, (b2.setCell_other (by simp) _).drew, (b3.setCell_other (by simp; omega) _).drew, (hb.setCell (by simp) _).drew⟩
      case measure => simp [intOf]; omega
    · have hs : Blk wr w.heap.size 59 (ar 16 (AesM.add f g)) := by rw [upTo_all (by omega)] at b1; exact b1
      clear b1
      go_wp2_with (first | ((with_reducible apply ldA tSt); rfl; assumption) | ((with_reducible apply stA tSt); rfl; rfl; assumption))
      apply ret_ar tSt Try.results30
      · rfl
      · rfl
      · exact b3.setRow_same _
      exact ⟨rfl, below_setRow hb (by omega) _⟩
theorem uSt : Try.prog.underlying 59 = some (.array 16 5) := Try.underlying59
theorem uTb : Try.prog.underlying 57 = some (.array 256 5) := Try.underlying57
set_option maxRecDepth 100000 in
theorem each_any (f T : Nat → Nat) (hf : Bt f) (g o : Nat) (w : World) (hg : g < w.heap.size) (hT : w.rangeAt g o (ar 256 T).toList) :
    Calls Try.prog 33 #[.agg (ar 16 f), .pointer (some ⟨g, o, none⟩)] w fun e w' => e = .returned (.agg (ar 16 (AesM.each f T))) ∧ Below w.heap.size w w' := by
  have HF := hid hf
  have HT : ∀ k, k < 256 → w.cell? ⟨g, o + k, none⟩ = some (.int .u8 (T k : Nat)) := fun k hk => hT k _ (by rw [Array.getElem?_toList, get_ar hk])
  have HT := hid HT
  clear hf hT
  go_enter Try.func33, Try.ntmps33
  go_upto_region 1 with (with_reducible apply alA tSt)
  generalize hw3 : World.alloc (World.alloc w _) _ = w3
  have b1 : Blk w3 w.heap.size 59 (ar 16 f) := by rw [← hw3]; exact (Blk.new _ _ _).alloc _
  have b3 : Blk w3 (w.heap.size + 1) 59 (ar 16 fun _ => 0) := by rw [← hw3]; exact Blk.top rfl (by simp)
  have hb : Below w.heap.size w w3 := by rw [← hw3]; exact ((Below.refl _ _).alloc (Nat.le_refl _) _).alloc (by simp) _
  clear hw3
  go_wp2_with ((with_reducible apply ldA tSt); rfl; exact b1)
  go_loopw [8] (fun i wr => ∃ k : Nat, k ≤ 16 ∧ i = .int .i64 k ∧ Blk wr w.heap.size 59 (ar 16 (upTo k f fun j => T (f j))) ∧ Blk wr (w.heap.size + 1) 59 (ar 16 fun _ => 0) ∧ Below w.heap.size w wr) (fun i _ => 16 - (intOf i).toNat)
  case atStart => exact ⟨0, by omega, rfl, by rw [upTo_zero]; exact b1, b3, hb⟩
  case round =>
    clear b1 b3 hb
    obtain ⟨k, hk, rfl, b1, b3, hb⟩ := hrel
    by_cases hlt : k < 16
    · have tk : (k : Int) < 16 := by omega
      have hI := fun w => run_index_ar (f := f) uSt hlt w
      have c1 : wr.cell? ⟨w.heap.size, k, none⟩ = some (.int .u8 (f k : Nat)) := by rw [b1.cell, get_ar hlt, upTo_at]
      have hfk := HF.out k
      have hfi : ((f k : Nat) : Int) < 256 := by omega
      have c2 : wr.cell? ⟨g, o + f k, none⟩ = some (.int .u8 (T (f k) : Nat)) := (hb.cell hg).trans (HT.out _ hfk)
      have c3 := b1.frozen k
      go_wp2_with fail
      go_roundw
      case rel => exact ⟨k + 1, by omega, by go_num, upTo_step (b1.setCell_same k _), b3.setCell_other (by simp) _, hb.setCell (by simp) _⟩
      case measure => simp [intOf]; omega
    · have tk : decide ((k : Int) < 16) = false := by simp; omega
      have hs : Blk wr w.heap.size 59 (ar 16 (AesM.each f T)) := by rw [upTo_all (by omega)] at b1; exact b1
      clear b1
      go_wp2_with (first | ((with_reducible apply ldA tSt); rfl; assumption) | ((with_reducible apply stA tSt); rfl; rfl; assumption))
      apply ret_ar tSt Try.results33
      · rfl
      · rfl
      · exact b3.setRow_same _
      exact ⟨rfl, below_setRow hb (by omega) _⟩
set_option maxRecDepth 100000 in
theorem turn_any (f : Nat → Nat) (w : World) :
    Calls Try.prog 32 #[.agg (ar 16 f)] w fun e w' => e = .returned (.agg (ar 16 (AesM.turn f))) ∧ Below w.heap.size w w' := by
  go_enter Try.func32, Try.ntmps32
  go_wp2_with (with_reducible apply alA tSt)
  generalize hw3 : World.alloc (World.alloc (World.alloc w _) _) _ = w3
  have b1 : Blk w3 w.heap.size 59 (ar 16 f) := by rw [← hw3]; exact ((Blk.new _ _ _).alloc _).alloc _
  have b2 : Blk w3 (w.heap.size + 1) 59 (ar 16 fun _ => 0) := by rw [← hw3]; exact (Blk.top rfl (by simp)).alloc _
  have b3 : Blk w3 (w.heap.size + 2) 59 (ar 16 fun _ => 0) := by rw [← hw3]; exact Blk.top rfl (by simp)
  have hb : Below w.heap.size w w3 := by rw [← hw3]; exact (((Below.refl _ _).alloc (Nat.le_refl _) _).alloc (by simp) _).alloc (by simp; omega) _
  clear hw3
  go_loopw [5] (fun i wr => ∃ k : Nat, k ≤ 16 ∧ i = .int .i64 k ∧ Blk wr w.heap.size 59 (ar 16 f) ∧ Blk wr (w.heap.size + 1) 59 (ar 16 fun _ => 0) ∧ Blk wr (w.heap.size + 2) 59 (ar 16 (upTo k (fun _ => 0) (AesM.turn f))) ∧ Below w.heap.size w wr) (fun i _ => 16 - (intOf i).toNat)
  case atStart => exact ⟨0, by omega, rfl, b1, b2, by rw [upTo_zero]; exact b3, hb⟩
  case round =>
    clear b1 b2 b3 hb
    obtain ⟨k, hk, rfl, b1, b2, b3, hb⟩ := hrel
    by_cases hlt : k < 16
    · have tk : (k : Int) < 16 := by omega
      have hfl := AesM.from_lt k
      have hfi : ((AesM.from' k : Nat) : Int) < 16 := by omega
      have c1 : wr.cell? ⟨w.heap.size, AesM.from' k, none⟩ = some (.int .u8 (f (AesM.from' k) : Nat)) := by rw [b1.cell, get_ar hfl]
      have c2 : wr.cell? ⟨w.heap.size + 2, k, none⟩ = some (.int .u8 (0 : Nat)) := by rw [b3.cell, get_ar hlt, upTo_at]
      have c3 := b3.frozen k
      go_wp2_with ((with_reducible refine (from_any k hlt _).mono ?_); rintro e w' ⟨rfl, rfl⟩)
      go_roundw
      case rel => exact ⟨k + 1, by omega, by go_num, b1.setCell_other (by simp; omega) _, b2.setCell_other (by simp) _, upTo_step (b3.setCell_same k _), hb.setCell (by simp; omega) _⟩
      case measure => simp [intOf]; omega
    · have tk : decide ((k : Int) < 16) = false := by simp; omega
      rw [upTo_all (by omega)] at b3
      clear b1
      go_wp2_with (first | ((with_reducible apply ldA tSt); rfl; assumption) | ((with_reducible apply stA tSt); rfl; rfl; assumption))
      apply ret_ar tSt Try.results32
      · rfl
      · rfl
      · exact b2.setRow_same _
      exact ⟨rfl, below_setRow hb (by omega) _⟩
def backTo (k : Nat) (f : Nat → Nat) : Nat → Nat := fun j => if AesM.goes j < k then f (AesM.goes j) else 0
theorem backTo_step {w : World} {b k : Nat} {t : TypeId} {f : Nat → Nat} (hk : k < 16) (hb : Blk w b t ((ar 16 (backTo k f)).setIfInBounds (AesM.from' k) (.int .u8 (f k : Nat)))) : Blk w b t (ar 16 (backTo (k + 1) f)) := by
  rw [ar_set] at hb
  rw [ar_ext (g := fun j => if j = AesM.from' k then f k else backTo k f j) fun j hj => ?_]
  · exact hb
  · unfold backTo
    by_cases e : j = AesM.from' k
    · subst e
      rw [AesM.goes_from k hk]; simp
    · have h2 : AesM.goes j ≠ k := fun h => e (by rw [← h, AesM.from_goes j hj])
      simp only [e, if_false]
      by_cases h3 : AesM.goes j < k
      · rw [if_pos h3, if_pos (by omega)]
      · rw [if_neg h3, if_neg (by omega)]
theorem backTo_all {f : Nat → Nat} : ar 16 (backTo 16 f) = ar 16 (AesM.back f) := ar_ext fun j _ => by unfold backTo; rw [if_pos (AesM.goes_lt j)]; rfl
set_option maxRecDepth 100000 in
theorem back_any (f : Nat → Nat) (w : World) :
    Calls Try.prog 42 #[.agg (ar 16 f)] w fun e w' => e = .returned (.agg (ar 16 (AesM.back f))) ∧ Below w.heap.size w w' := by
  go_enter Try.func42, Try.ntmps42
  go_wp2_with (with_reducible apply alA tSt)
  generalize hw3 : World.alloc (World.alloc (World.alloc w _) _) _ = w3
  have b1 : Blk w3 w.heap.size 59 (ar 16 f) := by rw [← hw3]; exact ((Blk.new _ _ _).alloc _).alloc _
  have b2 : Blk w3 (w.heap.size + 1) 59 (ar 16 fun _ => 0) := by rw [← hw3]; exact (Blk.top rfl (by simp)).alloc _
  have b3 : Blk w3 (w.heap.size + 2) 59 (ar 16 fun _ => 0) := by rw [← hw3]; exact Blk.top rfl (by simp)
  have hb : Below w.heap.size w w3 := by rw [← hw3]; exact (((Below.refl _ _).alloc (Nat.le_refl _) _).alloc (by simp) _).alloc (by simp; omega) _
  clear hw3
  go_loopw [5] (fun i wr => ∃ k : Nat, k ≤ 16 ∧ i = .int .i64 k ∧ Blk wr w.heap.size 59 (ar 16 f) ∧ Blk wr (w.heap.size + 1) 59 (ar 16 fun _ => 0) ∧ Blk wr (w.heap.size + 2) 59 (ar 16 (backTo k f)) ∧ Below w.heap.size w wr) (fun i _ => 16 - (intOf i).toNat)
  case atStart => exact ⟨0, by omega, rfl, b1, b2, b3, hb⟩
  case round =>
    clear b1 b2 b3 hb
    obtain ⟨k, hk, rfl, b1, b2, b3, hb⟩ := hrel
    by_cases hlt : k < 16
    · have tk : (k : Int) < 16 := by omega
      have hfl := AesM.from_lt k
      have hfi : ((AesM.from' k : Nat) : Int) < 16 := by omega
      have C1 : wr.cell? ⟨w.heap.size, k, none⟩ = some (.int .u8 (f k : Nat)) := by rw [b1.cell, get_ar hlt]
      have C1 := hid C1
      go_wp2_with fail
      refine wp_region_tail (C := Drew wr) 6 (by kernel_rfl) (by kernel_rfl) (by kernel_rfl) (Drew.refl _) ?_
      simp only [List.take_succ_cons, List.take_zero, List.drop_succ_cons, List.drop_zero]
      apply wpK_val
      · rfl
      · intro w' hw'
        go_simp
        first | exact rfl | exact ⟨rfl, hw'⟩
      simp only [Act.put, List.setIfInBounds_toArray, List.set_cons_succ, List.set_cons_zero]
      apply wpK_val
      · rfl
      · intro w' hw'
        go_simp
        exact (from_any k hlt w').mono fun e w2 h => by obtain ⟨he, rfl⟩ := h; exact ⟨he, hw'⟩
      simp only [Act.put, List.setIfInBounds_toArray, List.set_cons_succ, List.set_cons_zero]
      apply wpK_val
      · rfl
      · intro w' hw'
        go_simp
        first | exact rfl | exact ⟨rfl, hw'⟩
      simp only [Act.put, List.setIfInBounds_toArray, List.set_cons_succ, List.set_cons_zero]
      apply wpK_val
      · rfl
      · intro w' hw'
        go_simp
        first | exact rfl | exact ⟨rfl, hw'⟩
      simp only [Act.put, List.setIfInBounds_toArray, List.set_cons_succ, List.set_cons_zero]
      apply wpK_val
      · rfl
      · intro w' hw'
        have hcell := hw'.cell C1.out
        go_simp
        first | exact rfl | exact ⟨rfl, hw'⟩
      simp only [Act.put, List.setIfInBounds_toArray, List.set_cons_succ, List.set_cons_zero]
      apply wpK_val
      · rfl
      · intro w' hw'
        go_simp
        first | exact rfl | exact ⟨rfl, hw'⟩
      simp only [Act.put, List.setIfInBounds_toArray, List.set_cons_succ, List.set_cons_zero]
      refine wpK_nil fun w5 hw5 => ?_
      have r1 := hid (hw5.blk b1)
      have r2 := hid (hw5.blk b2)
      have r3 := hid (hw5.blk b3)
      have rb := hid (hw5.below hb)
      have f3 := r3.out.frozen (AesM.from' k)
      have c3 := (r3.out.cell (AesM.from' k)).trans (get_ar hfl)
      clear b1 b2 b3 hb C1 hw5
      go_wp2_with fail
      go_roundw
      case rel => exact ⟨k + 1, by omega, by go_num, r1.out.setCell_other (by simp; omega) _, r2.out.setCell_other (by simp) _, backTo_step hlt (r3.out.setCell_same _ _), rb.out.setCell (by simp; omega) _⟩
      case measure => simp [intOf]; omega
    · have tk : decide ((k : Int) < 16) = false := by simp; omega
      obtain rfl : k = 16 := by omega
      rw [backTo_all] at b3
      clear b1
      go_wp2_with (first | ((with_reducible apply ldA tSt); rfl; assumption) | ((with_reducible apply stA tSt); rfl; rfl; assumption))
      apply ret_ar tSt Try.results42
      · rfl
      · rfl
      · exact b2.setRow_same _
      exact ⟨rfl, below_setRow hb (by omega) _⟩
end AesP
end Go.Proofs.Ytfnepbkgmopjcaa
