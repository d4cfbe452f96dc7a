/-
  Contracts of parity's small functions (add, scale), and of casematelaw02.filled.
-/
import Derived.Test.YteoccdcebgcdmaaRows
import Derived.Test.YteoccdcebgcdmaaParKit
import Derived.Test.YteoccdcebgcdmaaGfField
import Derived.WalkKit
import Derived.ProofKit
import Derived.OpenShut
import Derived.StillTailTactics
import Derived.Outline
namespace Go.Proofs.Yteoccdcebgcdmaa
open Go.ChangeShapes Go.WideShapes Go.ChangeAt Go.RowKit
/-- A loop over a sector's bytes: behind k rounds the first k are turned. -/
def upto (k : Nat) (f h : Nat → Nat) : Nat → Nat := fun j => if j < k then h j else f j
theorem upto_zero {f h : Nat → Nat} : upto 0 f h = f := by funext j; simp [upto]
theorem upto_at {k : Nat} {f h : Nat → Nat} : upto k f h k = f k := by simp [upto]
theorem upto_step {w : World} {b k : Nat} {t : TypeId} {f h : Nat → Nat} (hb : Blk w b t ((sec (upto k f h)).setIfInBounds k (.int .u8 (h k : Nat)))) : Blk w b t (sec (upto (k + 1) f h)) := by
  rw [sec_set] at hb
  rw [sec_ext (f := upto (k + 1) f h) fun j _ => ?_]
  · exact hb
  · unfold upto
    by_cases e : j = k
    · subst e; simp
    · simp only [e, if_false]
      by_cases h2 : j < k
      · rw [if_pos h2, if_pos (by omega)]
      · rw [if_neg h2, if_neg (by omega)]
theorem upto_all {f h : Nat → Nat} {k : Nat} (hk : 64 ≤ k) : sec (upto k f h) = sec h := sec_ext fun j hj => by unfold upto; rw [if_pos (by omega)]
set_option maxRecDepth 100000 in
theorem add_any (f g : Nat → Nat) (hf : ∀ k, f k < 256) (hg : ∀ k, g k < 256) (w : World) :
    Calls Try.prog 38 #[.agg (sec f), .agg (sec g)] w fun e w' => e = .returned (.agg (sec fun k => f k ^^^ g k)) ∧ Below w.heap.size w w' := by
  have HF := hid hf
  have HG := hid hg
  clear hf hg
  go_enter Try.func38, Try.ntmps38
  go_wp2_with fail
  generalize hw3 : World.alloc (World.alloc (World.alloc w _) _) _ = w3
  have b1 : Blk w3 w.heap.size 25 (sec f) := by rw [← hw3]; exact ((Blk.new _ _ _).alloc _).alloc _
  have b2 : Blk w3 (w.heap.size + 1) 25 (sec g) := by rw [← hw3]; exact (Blk.top rfl (by simp)).alloc _
  have b3 : Blk w3 (w.heap.size + 1 + 1) 25 (sec fun _ => 0) := by rw [← hw3]; exact Blk.top zlit (by simp)
  have hb : Below w.heap.size w w3 := by rw [← hw3]; exact (((Below.refl _ _).alloc (Nat.le_refl _) _).alloc (by simp) _).alloc (by simp; omega) _
  clear hw3
  go_loopw [6] (fun i wr => ∃ k : Nat, k ≤ 64 ∧ i = .int .i64 k ∧ Blk wr w.heap.size 25 (sec (upto k f fun j => f j ^^^ g j)) ∧ Blk wr (w.heap.size + 1) 25 (sec g) ∧ Blk wr (w.heap.size + 1 + 1) 25 (sec fun _ => 0) ∧ Below w.heap.size w wr) (fun i _ => 64 - (intOf i).toNat)
  case atStart => exact ⟨0, by omega, rfl, by rw [upto_zero]; exact b1, b2, b3, hb⟩
  case round =>
    obtain ⟨k, hk, rfl, b1, b2, b3, hb⟩ := hrel
    by_cases hlt : k < 64
    · have c1 : wr.cell? ⟨w.heap.size, k, none⟩ = some (.int .u8 (f k : Nat)) := by rw [b1.cell, get_sec hlt, upto_at]
      have c2 : wr.cell? ⟨w.heap.size + 1, k, none⟩ = some (.int .u8 (g k : Nat)) := by rw [b2.cell, get_sec hlt]
      have c3 := b1.frozen k
      go_wp2_with fail
      go_still_tail 8, (by kernel_rfl)
      change wpList _ _ _ _ _ wr.drew
      rw [u8_xor_nat _ _ (HF.out k) (HG.out k)]
      go_wp2_with fail
      go_roundw
      case rel => exact ⟨k + 1, by omega, by go_num, upto_step (b1.setCell_same k _).drew, (b2.setCell_other (by simp) _).drew, (b3.setCell_other (by simp; omega) _).drew, (hb.setCell (by simp) _).drew⟩
      case measure => simp [intOf]; omega
    · have hs : Blk wr w.heap.size 25 (sec fun k => f k ^^^ g k) := by rw [upto_all (by omega)] at b1; exact b1
      clear b1
      go_wp2_with (first | ((with_reducible apply ld); rfl; assumption) | ((with_reducible apply stx); rfl; rfl; assumption))
      apply ret_sec Try.results38
      · rfl
      · rfl
      · exact b3.setRow_same _
      exact ⟨rfl, below_setRow hb (by omega) _⟩
set_option maxRecDepth 100000 in
theorem scale_any (c : Nat) (f : Nat → Nat) (hc : c < 256) (hf : ∀ k, f k < 256) (w : World) :
    Calls Try.prog 39 #[.int .u8 c, .agg (sec f)] w fun e w' => e = .returned (.agg (sec fun k => GfM.mul c (f k))) ∧ Below w.heap.size w w' := by
  have HF := hid hf
  clear hf
  go_enter Try.func39, Try.ntmps39
  go_wp2_with fail
  generalize hw3 : World.alloc (World.alloc w _) _ = w3
  have b1 : Blk w3 w.heap.size 25 (sec f) := by rw [← hw3]; exact (Blk.new _ _ _).alloc _
  have b3 : Blk w3 (w.heap.size + 1) 25 (sec fun _ => 0) := by rw [← hw3]; exact Blk.top zlit (by simp)
  have hb : Below w.heap.size w w3 := by rw [← hw3]; exact ((Below.refl _ _).alloc (Nat.le_refl _) _).alloc (by simp) _
  clear hw3
  go_loopw [6] (fun i wr => ∃ k : Nat, k ≤ 64 ∧ i = .int .i64 k ∧ Blk wr w.heap.size 25 (sec (upto k f fun j => GfM.mul c (f j))) ∧ Blk wr (w.heap.size + 1) 25 (sec fun _ => 0) ∧ Below w.heap.size w wr) (fun i _ => 64 - (intOf i).toNat)
  case atStart => exact ⟨0, by omega, rfl, by rw [upto_zero]; exact b1, b3, hb⟩
  case round =>
    obtain ⟨k, hk, rfl, b1, b3, hb⟩ := hrel
    by_cases hlt : k < 64
    · have c1 : wr.cell? ⟨w.heap.size, k, none⟩ = some (.int .u8 (f k : Nat)) := by rw [b1.cell, get_sec hlt, upto_at]
      have c3 := b1.frozen k
      go_wp2_with ((with_reducible refine (mul_any _ _ hc (HF.out k) _).mono ?_); rintro e w' ⟨rfl, rfl⟩)
      go_roundw
      case rel => exact ⟨k + 1, by omega, by go_num, upto_step (b1.setCell_same k _), b3.setCell_other (by simp) _, hb.setCell (by simp) _⟩
      case measure => simp [intOf]; omega
    · have hs : Blk wr w.heap.size 25 (sec fun k => GfM.mul c (f k)) := by rw [upto_all (by omega)] at b1; exact b1
      clear b1
      go_wp2_with (first | ((with_reducible apply ld); rfl; assumption) | ((with_reducible apply stx); rfl; rfl; assumption))
      apply ret_sec Try.results39
      · rfl
      · rfl
      · exact b3.setRow_same _
      exact ⟨rfl, below_setRow hb (by omega) _⟩
end Go.Proofs.Yteoccdcebgcdmaa
