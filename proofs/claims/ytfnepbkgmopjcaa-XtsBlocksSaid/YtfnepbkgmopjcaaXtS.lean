/-
  Contracts of xts.add, xts.Double.
-/
import Derived.Test.YtfnepbkgmopjcaaXtM
import Derived.Test.YtfnepbkgmopjcaaAesX
namespace Go.Proofs.Ytfnepbkgmopjcaa
open Go.ChangeShapes Go.WideShapes Go.ChangeAt Go.RowKit
open AesM (Bt Q16)
open AesP (tBk wr_nat)
namespace XtP
attribute [local go_sem] Gives
set_option maxRecDepth 100000 in
theorem add_any (f g : Nat → Nat) (hf : Bt f) (hg : Bt g) (w : World) :
    Calls Try.prog 34 #[.agg (ar 16 f), .agg (ar 16 g)] w fun e w' => e = .returned (.agg (ar 16 (AesM.add f g))) ∧ Below w.heap.size w w' := by
  have HF := hid hf
  have HG := hid hg
  clear hf hg
  go_enter Try.func34, Try.ntmps34
  go_wp2_with (with_reducible apply alA tBk)
  generalize hw3 : World.alloc (World.alloc (World.alloc w _) _) _ = w3
  have b1 : Blk w3 w.heap.size 35 (ar 16 f) := by rw [← hw3]; exact ((Blk.new _ _ _).alloc _).alloc _
  have b2 : Blk w3 (w.heap.size + 1) 35 (ar 16 g) := by rw [← hw3]; exact (Blk.top rfl (by simp)).alloc _
  have b3 : Blk w3 (w.heap.size + 1 + 1) 35 (ar 16 fun _ => 0) := by rw [← hw3]; exact Blk.top rfl (by simp)
  have hb : Below w.heap.size w w3 := by rw [← hw3]; exact (((Below.refl _ _).alloc (Nat.le_refl _) _).alloc (by simp) _).alloc (by simp; omega) _
  clear hw3
  go_loopw [6] (fun i wr => ∃ k : Nat, k ≤ 16 ∧ i = .int .i64 k ∧ Blk wr w.heap.size 35 (ar 16 (upTo k f fun j => f j ^^^ g j)) ∧ Blk wr (w.heap.size + 1) 35 (ar 16 g) ∧ Blk wr (w.heap.size + 1 + 1) 35 (ar 16 fun _ => 0) ∧ Below w.heap.size w wr) (fun i _ => 16 - (intOf i).toNat)
  case atStart => exact ⟨0, by omega, rfl, by rw [upTo_zero]; exact b1, b2, b3, hb⟩
  case round =>
    clear b1 b2 b3 hb
    obtain ⟨k, hk, rfl, b1, b2, b3, hb⟩ := hrel
    by_cases hlt : k < 16
    · have c1 : wr.cell? ⟨w.heap.size, k, none⟩ = some (.int .u8 (f k : Nat)) := by rw [b1.cell, get_ar hlt, upTo_at]
      have c2 : wr.cell? ⟨w.heap.size + 1, k, none⟩ = some (.int .u8 (g k : Nat)) := by rw [b2.cell, get_ar hlt]
      have c3 := b1.frozen k
      go_wp2_with fail
      go_still_tail 8, (by kernel_rfl)
      change wpList _ _ _ _ _ wr.drew
      rw [u8_xor_nat _ _ (HF.out k) (HG.out k)]
      go_wp2_with fail
      go_roundw
      case rel => exact ⟨k + 1, by omega, by go_num, upTo_step (b1.setCell_same k _).drew, (b2.setCell_other (by simp) _).drew, (b3.setCell_other (by simp; omega) _).drew, (hb.setCell (by simp) _).drew⟩
      case measure => simp [intOf]; omega
    · have hs : Blk wr w.heap.size 35 (ar 16 (AesM.add f g)) := by rw [upTo_all (by omega)] at b1; exact b1
      clear b1
      go_wp2_with (first | ((with_reducible apply ldA tBk); rfl; assumption) | ((with_reducible apply stA tBk); rfl; rfl; assumption))
      apply ret_ar tBk Try.results34
      · rfl
      · rfl
      · exact b3.setRow_same _
      exact ⟨rfl, below_setRow hb (by omega) _⟩
/-- What the loop makes of byte i. -/
def mv (t : Nat → Nat) (i : Nat) : Nat := (t i * 2 % 256) ^^^ (if i = 0 then 0 else t (i - 1) / 128)
def outOf (t : Nat → Nat) (k : Nat) : Nat := if k = 0 then 0 else t (k - 1) / 128
theorem outOf_lt {t : Nat → Nat} (h : Bt t) (k : Nat) : outOf t k < 2 := by
  unfold outOf
  have := h (k - 1)
  split <;> omega
set_option maxHeartbeats 400000 in
set_option maxRecDepth 100000 in
theorem double_any (t : Nat → Nat) (ht : Bt t) (w : World) :
    Calls Try.prog 15 #[.agg (ar 16 t)] w fun e w' => e = .returned (.agg (ar 16 (XtM.dbl t))) ∧ Below w.heap.size w w' := by
  have HT := hid ht
  clear ht
  go_enter Try.func15, Try.ntmps15
  go_upto_region 3 with (with_reducible apply alA tBk)
  generalize hw3 : World.alloc (World.alloc (World.alloc w _) _) _ = w3
  have b1 : Blk w3 w.heap.size 35 (ar 16 t) := by rw [← hw3]; exact ((Blk.new _ _ _).alloc _).alloc _
  have b2 : Blk w3 (w.heap.size + 1) 35 (ar 16 fun _ => 0) := by rw [← hw3]; exact (Blk.top rfl (by simp)).alloc _
  have b3 : Blk w3 (w.heap.size + 1 + 1) 35 (ar 16 fun _ => 0) := by rw [← hw3]; exact Blk.top rfl (by simp)
  have hb : Below w.heap.size w w3 := by rw [← hw3]; exact (((Below.refl _ _).alloc (Nat.le_refl _) _).alloc (by simp) _).alloc (by simp; omega) _
  clear hw3
  go_wp2_with ((with_reducible apply ldA tBk); rfl; exact b1)
  go_loopw [4, 8] (fun o i wr => ∃ k : Nat, k ≤ 16 ∧ i = .int .i64 k ∧ o = .int .u8 (outOf t k : Nat) ∧ Blk wr (w.heap.size + 1) 35 (ar 16 fun _ => 0) ∧ Blk wr (w.heap.size + 1 + 1) 35 (ar 16 (upTo k (fun _ => 0) (mv t))) ∧ Below w.heap.size w wr) (fun _ i _ => 16 - (intOf i).toNat)
  case atStart => exact ⟨0, by omega, rfl, rfl, b2, by rw [upTo_zero]; exact b3, hb⟩
  case round =>
    clear b1 b2 b3 hb
    obtain ⟨k, hk, rfl, rfl, b2, b3, hb⟩ := hrel
    by_cases hlt : k < 16
    · have tk : (k : Int) < 16 := by omega
      have c1 := run_index_ar (T := 35) (f := t) Try.underlying35 hlt
      have c3 := b3.frozen k
      have e3 := (b3.cell k).trans (get_ar hlt)
      have H : bits .or .u8 ((t k : Int) * 2 % 256) ((outOf t k : Nat) : Int) = ((mv t k : Nat) : Int) := by
        rw [show ((t k : Int) * 2 % 256) = ((t k * 2 % 256 : Nat) : Int) by omega, u8_or_nat _ _ (Nat.mod_lt _ (by omega)) (Nat.lt_trans (outOf_lt HT.out k) (by omega)), XtM.or_low _ (HT.out k) _ (outOf_lt HT.out k)]; rfl
      have H7 : (t k : Int) / 128 = ((outOf t (k + 1) : Nat) : Int) := by unfold outOf; rw [if_neg (by omega), Nat.add_sub_cancel]; omega
      go_wp2_with fail
      go_roundw
      case rel => exact ⟨k + 1, by omega, by go_num, rfl, b2.setCell_other (by simp) _, upTo_step (b3.setCell_same k _), hb.setCell (by simp; omega) _⟩
      case measure => simp [intOf]; omega
    · have tk : decide ((k : Int) < 16) = false := by simp; omega
      obtain rfl : k = 16 := by omega
      rw [upTo_all (by omega)] at b3
      have c3 : wr.cell? ⟨w.heap.size + 1 + 1, 0, none⟩ = some (.int .u8 (mv t 0 : Nat)) := by rw [b3.cell, get_ar (by omega)]
      have f3 := b3.frozen 0
      have HX : bits .xor .u8 ((mv t 0 : Nat) : Int) (((outOf t 16 : Nat) : Int) * 135 % 256) = ((XtM.dbl t 0 : Nat) : Int) := by
        have := outOf_lt HT.out 16
        have h1 : ((outOf t 16 : Nat) : Int) * 135 % 256 = ((outOf t 16 * 135 : Nat) : Int) := by omega
        have h2 : mv t 0 < 256 := by unfold mv; simp only [if_true, Nat.xor_zero]; exact Nat.mod_lt _ (by omega)
        rw [h1, u8_xor_nat _ _ h2 (by omega)]
        unfold mv XtM.dbl XtM.low outOf
        simp
      go_upto_region 10 with fail
      generalize hw5 : World.setCell wr _ _ = w5
      have d2 : Blk w5 (w.heap.size + 1) 35 (ar 16 fun _ => 0) := by rw [← hw5]; exact b2.setCell_other (by simp) _
      have d3 : Blk w5 (w.heap.size + 1 + 1) 35 (ar 16 (XtM.dbl t)) := by
        rw [← hw5]
        have h := b3.setCell_same 0 (.int .u8 (XtM.dbl t 0 : Nat))
        rw [ar_set, ar_ext (g := XtM.dbl t) fun j _ => ?_] at h
        · exact h
        · by_cases e : j = 0
          · rw [if_pos e, e]
          · rw [if_neg e]; unfold mv XtM.dbl XtM.low; rw [if_neg e, if_neg e]
      have db : Below w.heap.size w w5 := by rw [← hw5]; exact hb.setCell (by simp; omega) _
      clear hw5 b2 b3 hb c3 f3 HX
      go_wp2_with (first | ((with_reducible apply ldA tBk); rfl; assumption) | ((with_reducible apply stA tBk); rfl; rfl; assumption))
      apply ret_ar tBk Try.results15
      · rfl
      · rfl
      · exact d2.setRow_same _
      exact ⟨rfl, below_setRow db (by omega) _⟩
end XtP
end Go.Proofs.Ytfnepbkgmopjcaa
