/-
  The document's bytes found by going through all: casemateref02.single, pair.
-/
import Derived.Test.YteoccdcebgcdmaaParMath
import Derived.Test.YteoccdcebgcdmaaRefPQ
namespace Go.Proofs.Yteoccdcebgcdmaa
open Go.ChangeShapes Go.WideShapes Go.ChangeAt Go.RowKit
attribute [local go_sem] Gives
/-- The byte with 2 to the x times it being q. -/
def sing (x q : Nat) : Nat := GfM.mul (pwI (-(x : Int))) q
theorem sing_lt {x q : Nat} : sing x q < 256 := GfM.mul_lt (pwI_lt _)
theorem sing_is {x q : Nat} (hq : q < 256) : GfM.mul (GfM.pw x) (sing x q) = q := by
  unfold sing
  rw [← GfM.mul_assoc (GfM.pw_lt _) (pwI_lt _) hq, ← pwI_nat, ← pwI_add]
  have : pwI ((x : Int) + -(x : Int)) = 1 := by rw [show (x : Int) + -(x : Int) = 0 by omega]; decide +kernel
  rw [this, GfM.one_mul hq]
theorem sing_only {x q j : Nat} (hj : j < 256) (h : GfM.mul (GfM.pw x) j = q) : j = sing x q := by
  rw [← h]; exact (single_back hj).symm
set_option maxRecDepth 100000 in
theorem rsingle_any (q x : Nat) (hq : q < 256) (w : World) :
    Calls Try.prog 37 #[.int .u8 (q : Nat), .int .i64 (x : Nat)] w fun e w' => e = .returned (.int .u8 (sing x q : Nat)) ∧ w = w' := by
  have HS := hid (sing_lt (x := x) (q := q))
  have HI := hid (sing_is (x := x) hq)
  have HO := hid (fun j hj => sing_only (x := x) (q := q) (j := j) hj)
  revert HS HI HO
  generalize sing x q = f
  intro HS HI HO
  go_enter Try.func37, Try.ntmps37
  go_wp2_with fail
  go_loop [5] (fun i => ∃ j : Nat, j ≤ f ∧ i = .int .i64 j) (fun i => f - (intOf i).toNat)
  case atStart => exact ⟨0, by omega, rfl⟩
  case round =>
    obtain ⟨j, hj, rfl⟩ := hrel
    have h3 := pwI_lt (x : Int)
    have hj2 : j < 256 := by have := HS.out; omega
    have tj : (j : Int) < 256 := by omega
    have h4 := GfM.mul_lt (b := j) h3
    by_cases he : j = f
    · have HE := hid he
      clear he
      have hq2 : (((GfM.mul (pwI (x : Int)) j : Nat) : Int) == (q : Int)) = true := nat_yes (by rw [pwI_nat, HE.out, HI.out])
      go_wp2_with fail
      refine (rpow_any _ _).mono ?_
      rintro e w' ⟨rfl, rfl⟩
      go_wp2_with fail
      refine (rmul_any (pwI (x : Int)) j h3 hj2 _).mono ?_
      rintro e w' ⟨rfl, rfl⟩
      go_wp2_with fail
      go_ret
      exact ⟨by have := HE.out; subst this; rfl, rfl⟩
    · have hq2 : (((GfM.mul (pwI (x : Int)) j : Nat) : Int) == (q : Int)) = false := nat_no fun h => he (HO.out j hj2 (by rw [← pwI_nat]; exact h))
      go_wp2_with fail
      refine (rpow_any _ _).mono ?_
      rintro e w' ⟨rfl, rfl⟩
      go_wp2_with fail
      refine (rmul_any (pwI (x : Int)) j h3 hj2 _).mono ?_
      rintro e w' ⟨rfl, rfl⟩
      go_wp2_with fail
      go_round
      case rel => exact ⟨j + 1, by omega, by go_num⟩
      case measure => simp [intOf]; omega
/-- The first of the two bytes at x and y with the sums p and q. -/
def pairX (x y p q : Nat) : Nat := GfM.mul (GfM.inv (GfM.pw x ^^^ GfM.pw y)) (q ^^^ GfM.mul (GfM.pw y) p)
theorem pairX_lt {x y p q : Nat} : pairX x y p q < 256 := GfM.mul_lt (GfM.inv_lt _)
theorem pair_sum {x y p a : Nat} : GfM.mul (GfM.pw x) a ^^^ GfM.mul (GfM.pw y) (a ^^^ p) = GfM.mul (GfM.pw x ^^^ GfM.pw y) a ^^^ GfM.mul (GfM.pw y) p := by
  rw [GfM.mul_xor_right, ← Nat.xor_assoc, GfM.mul_xor_left (GfM.pw_lt _) (GfM.pw_lt _)]
theorem pair_is {x y p q : Nat} (hx : x < 255) (hy : y < 255) (hxy : x ≠ y) (hq : q < 256) : GfM.mul (GfM.pw x) (pairX x y p q) ^^^ GfM.mul (GfM.pw y) (pairX x y p q ^^^ p) = q := by
  have hl := GfM.xor_lt (GfM.pw_lt x) (GfM.pw_lt y)
  have hz : q ^^^ GfM.mul (GfM.pw y) p < 256 := GfM.xor_lt hq (GfM.mul_lt (GfM.pw_lt _))
  rw [pair_sum]
  unfold pairX
  rw [← GfM.mul_assoc hl (GfM.inv_lt _) hz, GfM.mul_comm hl (GfM.inv_lt _), GfM.inv_mul hl (pw_apart hx hy hxy), GfM.one_mul hz, xcan]
theorem pair_only {x y p q j : Nat} (hx : x < 255) (hy : y < 255) (hxy : x ≠ y) (hj : j < 256) (h : GfM.mul (GfM.pw x) j ^^^ GfM.mul (GfM.pw y) (j ^^^ p) = q) : j = pairX x y p q := by
  have hl := GfM.xor_lt (GfM.pw_lt x) (GfM.pw_lt y)
  rw [pair_sum] at h
  unfold pairX
  rw [← h, xcan, ← GfM.mul_assoc (GfM.inv_lt _) hl hj, GfM.inv_mul hl (pw_apart hx hy hxy), GfM.one_mul hj]
set_option maxRecDepth 100000 in
set_option maxHeartbeats 800000 in
theorem rpair_any (p q x y : Nat) (hp : p < 256) (hq : q < 256) (hx : x < 255) (hy : y < 255) (hxy : x ≠ y) (w : World) :
    Calls Try.prog 36 #[.int .u8 (p : Nat), .int .u8 (q : Nat), .int .i64 (x : Nat), .int .i64 (y : Nat)] w fun e w' => e = .returned (.tuple #[.int .u8 (pairX x y p q : Nat), .int .u8 (pairX x y p q ^^^ p : Nat)]) ∧ w = w' := by
  have HS := hid (pairX_lt (x := x) (y := y) (p := p) (q := q))
  have HI := hid (pair_is (p := p) hx hy hxy hq)
  have HO := hid (fun j hj => pair_only (p := p) (q := q) (j := j) hx hy hxy hj)
  clear hx hy hxy
  revert HS HI HO
  generalize pairX x y p q = f
  intro HS HI HO
  go_enter Try.func36, Try.ntmps36
  go_wp2_with fail
  go_loop [10] (fun i => ∃ j : Nat, j ≤ f ∧ i = .int .i64 j) (fun i => f - (intOf i).toNat)
  case atStart => exact ⟨0, by omega, rfl⟩
  case round =>
    obtain ⟨j, hj, rfl⟩ := hrel
    have h3 := pwI_lt (x : Int)
    have h4 := pwI_lt (y : Int)
    have hj2 : j < 256 := by have := HS.out; omega
    have tj : (j : Int) < 256 := by omega
    have hjp := GfM.xor_lt hj2 hp
    have EX := u8_xor_nat j p hj2 hp
    have h5 := GfM.mul_lt (b := j) h3
    have h6 := GfM.mul_lt (b := j ^^^ p) h4
    have EX2 := u8_xor_nat _ _ h5 h6
    by_cases he : j = f
    · have HE := hid he
      clear he
      have hq2 : (((GfM.mul (pwI (x : Int)) j ^^^ GfM.mul (pwI (y : Int)) (j ^^^ p) : Nat) : Int) == (q : Int)) = true := nat_yes (by rw [pwI_nat, pwI_nat, HE.out, HI.out])
      go_wp2_with fail
      refine (rpow_any _ _).mono ?_
      rintro e w' ⟨rfl, rfl⟩
      go_wp2_with fail
      refine (rmul_any (pwI (x : Int)) j h3 hj2 _).mono ?_
      rintro e w' ⟨rfl, rfl⟩
      go_wp2_with fail
      refine (rpow_any _ _).mono ?_
      rintro e w' ⟨rfl, rfl⟩
      go_wp2_with fail
      refine (rmul_any (pwI (y : Int)) (j ^^^ p) h4 hjp _).mono ?_
      rintro e w' ⟨rfl, rfl⟩
      go_wp2_with fail
      go_ret2
      exact ⟨by have := HE.out; subst this; rfl, rfl⟩
    · have hq2 : (((GfM.mul (pwI (x : Int)) j ^^^ GfM.mul (pwI (y : Int)) (j ^^^ p) : Nat) : Int) == (q : Int)) = false := nat_no fun h => he (HO.out j hj2 (by rw [← pwI_nat, ← pwI_nat]; exact h))
      go_wp2_with fail
      refine (rpow_any _ _).mono ?_
      rintro e w' ⟨rfl, rfl⟩
      go_wp2_with fail
      refine (rmul_any (pwI (x : Int)) j h3 hj2 _).mono ?_
      rintro e w' ⟨rfl, rfl⟩
      go_wp2_with fail
      refine (rpow_any _ _).mono ?_
      rintro e w' ⟨rfl, rfl⟩
      go_wp2_with fail
      refine (rmul_any (pwI (y : Int)) (j ^^^ p) h4 hjp _).mono ?_
      rintro e w' ⟨rfl, rfl⟩
      go_wp2_with fail
      go_round
      case rel => exact ⟨j + 1, by omega, by go_num⟩
      case measure => simp [intOf]; omega
end Go.Proofs.Yteoccdcebgcdmaa
