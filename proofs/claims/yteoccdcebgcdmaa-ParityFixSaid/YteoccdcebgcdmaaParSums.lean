/-
  P and Q of a list of sectors: the contract of parity.sums.
-/
import Derived.Test.YteoccdcebgcdmaaParAdd
namespace Go.Proofs.Yteoccdcebgcdmaa
open Go.ChangeShapes Go.WideShapes Go.ChangeAt Go.RowKit
/-- A slice of n sectors, F i the i-th, in one row below block B. -/
def Secs (w : World) (B : Nat) (A : Option Addr) (n : Nat) (F : Nat → Nat → Nat) : Prop :=
  0 < n → ∃ b o, A = some ⟨b, o, none⟩ ∧ b < B ∧ ∀ i, i < n → w.rangeAt b (o + i * 64) (sec (F i)).toList
theorem rangeAt_below {B b o : Nat} {w w' : World} {cs : List Value} (h : w.rangeAt b o cs) (hb : Below B w w') (hl : b < B) : w'.rangeAt b o cs := fun j v hv => (hb.cell (p := ⟨b, o + j, none⟩) hl).trans (h j v hv)
theorem Secs.below {B B' n : Nat} {w w' : World} {A : Option Addr} {F : Nat → Nat → Nat} (h : Secs w B A n F) (hb : Below B' w w') (hB : B ≤ B') : Secs w' B A n F := fun hn => by
  obtain ⟨b, o, rfl, hl, hr⟩ := h hn
  exact ⟨b, o, rfl, hl, fun i hi => rangeAt_below (hr i hi) hb (by omega)⟩
theorem Secs.more {B B' n : Nat} {w : World} {A : Option Addr} {F : Nat → Nat → Nat} (h : Secs w B A n F) (hB : B ≤ B') : Secs w B' A n F := fun hn => by
  obtain ⟨b, o, rfl, hl, hr⟩ := h hn
  exact ⟨b, o, rfl, by omega, hr⟩
/-- The sum of the first n, byte by byte; and that of them times 2 to the i. -/
def PP (F : Nat → Nat → Nat) : Nat → Nat → Nat
  | 0, _ => 0
  | n + 1, k => PP F n k ^^^ F n k
def QQ (F : Nat → Nat → Nat) : Nat → Nat → Nat
  | 0, _ => 0
  | n + 1, k => QQ F n k ^^^ GfM.mul (GfM.pw n) (F n k)
theorem PP_lt {F : Nat → Nat → Nat} (hF : ∀ i k, F i k < 256) : ∀ n k, PP F n k < 256
  | 0, _ => by simp [PP]
  | n + 1, k => GfM.xor_lt (PP_lt hF n k) (hF n k)
theorem QQ_lt {F : Nat → Nat → Nat} : ∀ n k, QQ F n k < 256
  | 0, _ => by simp [QQ]
  | n + 1, k => GfM.xor_lt (QQ_lt n k) (GfM.mul_lt (GfM.pw_lt n))
attribute [local go_sem] Gives
set_option maxRecDepth 100000 in
theorem sums_any (A : Option Addr) (n cap : Nat) (F : Nat → Nat → Nat) (hF : ∀ i k, F i k < 256) (hn : n ≤ 1000000) (w : World) (hs : Secs w w.heap.size A n F) :
    Calls Try.prog 25 #[.slice A n cap] w fun e w' => e = .returned (.tuple #[.agg (sec (PP F n)), .agg (sec (QQ F n))]) ∧ Below w.heap.size w w' := by
  have HF := hid hF
  have HS := hid hs
  clear hF hs
  go_enter Try.func25, Try.ntmps25
  go_wp2_with fail
  generalize hw3 : World.alloc (World.alloc w _) _ = w3
  have b1 : Blk w3 w.heap.size 25 (sec (PP F 0)) := by rw [← hw3]; exact (Blk.top zlit rfl).alloc _
  have b2 : Blk w3 (w.heap.size + 1) 25 (sec (QQ F 0)) := by rw [← hw3]; exact Blk.top zlit (by simp)
  have hb : Below w.heap.size w w3 := by rw [← hw3]; exact ((Below.refl _ _).alloc (Nat.le_refl _) _).alloc (by simp) _
  clear hw3
  go_loopw [7] (fun i wr => ∃ k : Nat, k ≤ n ∧ i = .int .i64 k ∧ Blk wr w.heap.size 25 (sec (PP F k)) ∧ Blk wr (w.heap.size + 1) 25 (sec (QQ F k)) ∧ Below w.heap.size w wr) (fun i _ => n - (intOf i).toNat)
  case atStart => exact ⟨0, by omega, rfl, b1, b2, hb⟩
  case round =>
    obtain ⟨k, hk, rfl, b1, b2, hb⟩ := hrel
    by_cases hlt : k < n
    · obtain ⟨b, o, rfl, hB, hrg⟩ := HS.out (by omega)
      have hrk := rangeAt_below (hrg k hlt) hb hB
      clear hrg
      go_wp2_with fail
      refine wp_region_tail (C := fun w' => Below wr.heap.size wr w') 6 (by kernel_rfl) (by kernel_rfl) (by kernel_rfl) (Below.refl _ _).drew ?_
      simp only [List.take_succ_cons, List.take_zero, List.drop_succ_cons, List.drop_zero]
      apply kld
      · rfl
      · rfl
      · exact fun w' hw' => b1.below hw' b1.lt
      simp only [Act.put, List.setIfInBounds_toArray, List.set_cons_succ, List.set_cons_zero]
      apply wpK_val
      · rfl
      · intro w' hw'
        go_simp
        first | exact rfl | exact ⟨rfl, hw'⟩
      simp only [Act.put, List.setIfInBounds_toArray, List.set_cons_succ, List.set_cons_zero]
      apply wpK_val
      · rfl
      · intro w' hw'
        go_simp
        first | exact rfl | exact ⟨rfl, hw'⟩
      simp only [Act.put, List.setIfInBounds_toArray, List.set_cons_succ, List.set_cons_zero]
      apply wpK_val
      · rfl
      · intro w' hw'
        go_simp
        first | exact rfl | exact ⟨rfl, hw'⟩
      simp only [Act.put, List.setIfInBounds_toArray, List.set_cons_succ, List.set_cons_zero]
      apply kldm
      · rfl
      · rfl
      · exact fun w' hw' => rangeAt_below hrk hw' (by have := hb.size; omega)
      simp only [Act.put, List.setIfInBounds_toArray, List.set_cons_succ, List.set_cons_zero]
      apply wpK_val
      · rfl
      · intro w' hw'
        go_simp
        exact (add_any _ _ (PP_lt HF.out k) (HF.out k) _).mono fun e w'' ⟨he, hb'⟩ => ⟨he, hw'.trans (hb'.mono hw'.size)⟩
      simp only [Act.put, List.setIfInBounds_toArray, List.set_cons_succ, List.set_cons_zero]
      refine wpK_nil fun w4 hw4 => ?_
      have b1' := b1.below hw4 b1.lt
      have b2' := b2.below hw4 b2.lt
      have hb4 := hb.trans (hw4.mono hb.size)
      have hr4 := rangeAt_below hrk hw4 (by have := hb.size; omega)
      clear hw4 b1 b2 hb hrk
      go_wp2_with ((with_reducible apply stx); rfl; rfl; assumption)
      have b1 : Blk (w4.setRow w.heap.size (sec fun j => PP F k j ^^^ F k j)) w.heap.size 25 (sec (PP F (k + 1))) := b1'.setRow_same _
      have b2 := b2'.setRow_other (g' := w.heap.size) (by omega) (sec fun j => PP F k j ^^^ F k j)
      have hb := below_setRow hb4 (Nat.le_refl _) (sec fun j => PP F k j ^^^ F k j)
      have hrk : (w4.setRow w.heap.size (sec fun j => PP F k j ^^^ F k j)).rangeAt b (o + k * 64) (sec (F k)).toList := rangeAt_below hr4 (below_setRow (Below.refl w.heap.size _) (Nat.le_refl _) _) hB
      revert b1 b2 hb hrk
      generalize w4.setRow w.heap.size (sec fun j => PP F k j ^^^ F k j) = wr
      clear b1' b2' hb4 hr4 w4
      intro b1 b2 hb hrk
      refine wp_region_tail (C := fun w' => Below wr.heap.size wr w') 9 (by kernel_rfl) (by kernel_rfl) (by kernel_rfl) (Below.refl _ _).drew ?_
      simp only [List.take_succ_cons, List.take_zero, List.drop_succ_cons, List.drop_zero]
      apply kld
      · rfl
      · rfl
      · exact fun w' hw' => b2.below hw' b2.lt
      simp only [Act.put, List.setIfInBounds_toArray, List.set_cons_succ, List.set_cons_zero]
      apply wpK_val
      · rfl
      · intro w' hw'
        go_simp
        first | exact rfl | exact ⟨rfl, hw'⟩
      simp only [Act.put, List.setIfInBounds_toArray, List.set_cons_succ, List.set_cons_zero]
      apply wpK_val
      · rfl
      · intro w' hw'
        go_simp
        exact (pow_any _ _).mono fun e w'' ⟨he, hb'⟩ => ⟨he, by subst hb'; exact hw'⟩
      simp only [Act.put, List.setIfInBounds_toArray, List.set_cons_succ, List.set_cons_zero]
      apply wpK_val
      · rfl
      · intro w' hw'
        go_simp
        first | exact rfl | exact ⟨rfl, hw'⟩
      simp only [Act.put, List.setIfInBounds_toArray, List.set_cons_succ, List.set_cons_zero]
      apply wpK_val
      · rfl
      · intro w' hw'
        go_simp
        first | exact rfl | exact ⟨rfl, hw'⟩
      simp only [Act.put, List.setIfInBounds_toArray, List.set_cons_succ, List.set_cons_zero]
      apply wpK_val
      · rfl
      · intro w' hw'
        go_simp
        first | exact rfl | exact ⟨rfl, hw'⟩
      simp only [Act.put, List.setIfInBounds_toArray, List.set_cons_succ, List.set_cons_zero]
      apply kldm
      · rfl
      · rfl
      · exact fun w' hw' => rangeAt_below hrk hw' (by have := hb.size; omega)
      simp only [Act.put, List.setIfInBounds_toArray, List.set_cons_succ, List.set_cons_zero]
      apply wpK_val
      · rfl
      · intro w' hw'
        go_simp
        exact (scale_any _ _ (pwI_lt _) (HF.out k) _).mono fun e w'' ⟨he, hb'⟩ => ⟨he, hw'.trans (hb'.mono hw'.size)⟩
      simp only [Act.put, List.setIfInBounds_toArray, List.set_cons_succ, List.set_cons_zero]
      apply wpK_val
      · rfl
      · intro w' hw'
        go_simp
        exact (add_any _ _ (QQ_lt k) (fun _ => GfM.mul_lt (pwI_lt _)) _).mono fun e w'' ⟨he, hb'⟩ => ⟨he, hw'.trans (hb'.mono hw'.size)⟩
      simp only [Act.put, List.setIfInBounds_toArray, List.set_cons_succ, List.set_cons_zero]
      refine wpK_nil fun w4 hw4 => ?_
      have b1' := b1.below hw4 b1.lt
      have b2' := b2.below hw4 b2.lt
      have hb4 := hb.trans (hw4.mono hb.size)
      clear hw4 b1 b2 hb hrk
      go_wp2_with ((with_reducible apply stx); rfl; rfl; assumption)
      go_roundw
      case rel =>
        refine ⟨k + 1, by omega, by go_num, b1'.setRow_other (by omega) _, ?_, below_setRow hb4 (by omega) _⟩
        have h := b2'.setRow_same (sec (QQ F (k + 1)))
        rw [sec_ext (f := QQ F (k + 1)) (g := fun j => QQ F k j ^^^ GfM.mul (pwI k) (F k j)) fun j _ => by rw [QQ, pwI_nat]] at h ⊢
        exact h
      case measure => simp [intOf]; omega
    · obtain rfl : k = n := by omega
      go_wp2_with fail
      refine wp_region_tail (C := fun w' => Blk w' w.heap.size 25 (sec (PP F k)) ∧ Blk w' (w.heap.size + 1) 25 (sec (QQ F k)) ∧ Below w.heap.size w w') 4 (by kernel_rfl) (by kernel_rfl) (by kernel_rfl) ⟨b1.drew, b2.drew, hb.drew⟩ ?_
      simp only [List.take_succ_cons, List.take_zero, List.drop_succ_cons, List.drop_zero]
      apply kld
      · rfl
      · rfl
      · exact fun w' hw' => hw'.1
      simp only [Act.put, List.setIfInBounds_toArray, List.set_cons_succ, List.set_cons_zero]
      apply kld
      · rfl
      · rfl
      · exact fun w' hw' => hw'.2.1
      simp only [Act.put, List.setIfInBounds_toArray, List.set_cons_succ, List.set_cons_zero]
      apply kst_id
      · rfl
      · rfl
      · rfl
      · exact fun w' hw' => hw'.1
      simp only [Act.put]
      apply kst_id
      · rfl
      · rfl
      · rfl
      · exact fun w' hw' => hw'.2.1
      simp only [Act.put]
      refine wpK_nil fun w4 ⟨h1, h2, h3⟩ => ?_
      go_wp2_with fail
      apply ret_sec2 Try.results25
      · rfl
      · rfl
      · rfl
      · exact h1
      · exact h2
      exact ⟨rfl, h3⟩
end Go.Proofs.Yteoccdcebgcdmaa
