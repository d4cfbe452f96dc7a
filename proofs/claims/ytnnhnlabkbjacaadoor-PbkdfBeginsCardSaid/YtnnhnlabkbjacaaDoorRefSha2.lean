/-
  Contracts of the document's roots (casemateref03.within, root) over this translation.
-/
import Derived.Test.YtnnhnlabkbjacaaDoorShelf
import Derived.Test.YtnnhnlabkbjacaaDoorRefSha1
namespace Go.Proofs.YtnnhnlabkbjacaaDoor
open Go.ChangeShapes Go.WideShapes Go.ChangeAt Go.RowKit
theorem ret_bool {a b : Bool} (h : a = b) : Ending.returned (.bool a) = .returned (.bool b) := by rw [h]
theorem hi_lt {x y : Nat} (hx : x < 18446744073709551616) (hy : y < 18446744073709551616) : ShaM.hi64 x y < 18446744073709551616 := by
  unfold ShaM.hi64
  rw [Nat.div_lt_iff_lt_mul (by omega)]
  exact Nat.mul_lt_mul'' hx hy
theorem lo_lt (x y : Nat) : ShaM.lo64 x y < 18446744073709551616 := Nat.mod_lt _ (by omega)
theorem mul64_any (x y : Nat) (hx : x < 18446744073709551616) (hy : y < 18446744073709551616) (w : World) :
    Calls Tryd.prog 59 #[.int .u64 x, .int .u64 y] w fun e w' => e = .returned (.tuple #[.int .u64 (ShaM.hi64 x y : Nat), .int .u64 (ShaM.lo64 x y : Nat)]) ∧ w' = w := Tryd.bits_Mul64 x y hx hy w
/-- What the last test tells. -/
def tellN (high low limit : Nat) : Bool := decide (high < limit) || (high == limit && low == 0)
theorem tell_lt {h l m : Nat} (h1 : h < m) : tellN h l m = true := by unfold tellN; rw [decide_eq_true h1]; rfl
theorem tell_eq {l m : Nat} : tellN m l m = (l == 0) := by unfold tellN; simp
theorem tell_gt {h l m : Nat} (h1 : m < h) : tellN h l m = false := by unfold tellN; simp; omega
set_option maxHeartbeats 400000 in
theorem within_sq (x p : Nat) (hx : x < 18446744073709551616) (hp : p < 4294967296) (w : World) :
    Calls Tryd.prog 54 #[.int .u64 x, .int .u64 p, .bool false] w fun e w' => e = .returned (.bool (ShaM.withinN x p false)) ∧ w = w' := by
  have hw : ShaM.withinN x p false = tellN (ShaM.hi64 x x) (ShaM.lo64 x x) p := rfl
  rw [hw]
  clear hw
  have h1 := hi_lt hx hx
  have h2 := lo_lt x x
  have M := mul64_any x x hx hx w
  generalize ShaM.hi64 x x = H at *
  generalize ShaM.lo64 x x = L at *
  go_enter Tryd.func54, Tryd.ntmps54
  rcases Nat.lt_trichotomy H p with h | h | h
  · have t1 : decide (H < p) = true := decide_eq_true h
    have t3 : (p ≤ H) = False := by simp; omega
    have E := hid (tell_lt (l := L) h)
    clear h
    go_wp2_with fail
    refine M.mono ?_
    rintro e w' ⟨rfl, rfl⟩
    go_wp2_with fail
    go_ret
    exact ⟨by rw [E.out]; rfl, rfl⟩
  · subst h
    have t1 : decide (H < H) = false := decide_eq_false (by omega)
    by_cases h0 : L = 0
    · have t2 : ((L : Int) == 0) = true := by rw [beq_iff_eq]; omega
      have E : tellN H L H = true := by rw [tell_eq]; simp [h0]
      have EH := hid E
      clear h0 E
      go_wp2_with fail
      refine M.mono ?_
      rintro e w' ⟨rfl, rfl⟩
      go_wp2_with fail
      go_ret
      exact ⟨by rw [EH.out]; rfl, rfl⟩
    · have t2 : ((L : Int) == 0) = false := by rw [beq_eq_false_iff_ne]; omega
      have E : tellN H L H = false := by rw [tell_eq]; simp [h0]
      have EH := hid E
      clear h0 E
      go_wp2_with fail
      refine M.mono ?_
      rintro e w' ⟨rfl, rfl⟩
      go_wp2_with fail
      go_ret
      exact ⟨by rw [EH.out]; rfl, rfl⟩
  · have t1 : decide (H < p) = false := decide_eq_false (by omega)
    have t3 : (p ≤ H) = True := by simp; omega
    have t2 : ((H : Int) == (p : Int)) = false := by rw [beq_eq_false_iff_ne]; omega
    have E := hid (tell_gt (l := L) h)
    clear h
    go_wp2_with fail
    refine M.mono ?_
    rintro e w' ⟨rfl, rfl⟩
    go_wp2_with fail
    go_ret
    exact ⟨by rw [E.out]; rfl, rfl⟩
set_option maxHeartbeats 400000 in
theorem within_cube (x p : Nat) (hx : x < 18446744073709551616) (hp : p < 4294967296) (w : World) :
    Calls Tryd.prog 54 #[.int .u64 x, .int .u64 p, .bool true] w fun e w' => e = .returned (.bool (ShaM.withinN x p true)) ∧ w = w' := by
  have hw : ShaM.withinN x p true = tellN (ShaM.w64 (ShaM.w64 (ShaM.hi64 x x * x) + ShaM.hi64 (ShaM.lo64 x x) x)) (ShaM.lo64 (ShaM.lo64 x x) x) (ShaM.w64 (p * 4294967296)) := rfl
  rw [hw]
  clear hw
  have h1 := hi_lt hx hx
  have h2 := lo_lt x x
  have M := mul64_any x x hx hx w
  have M2 := mul64_any (ShaM.lo64 x x) x h2 hx w
  have h3 := hi_lt h2 hx
  have h4 := lo_lt (ShaM.lo64 x x) x
  generalize ShaM.hi64 (ShaM.lo64 x x) x = C at *
  generalize ShaM.lo64 (ShaM.lo64 x x) x = L at *
  generalize ShaM.hi64 x x = H0 at *
  generalize ShaM.lo64 x x = L0 at *
  have e1 : IntKind.u64.wrap ((H0 : Int) * (x : Int)) = ((ShaM.w64 (H0 * x) : Nat) : Int) := by rw [IntKind.wrap_u64]; unfold ShaM.w64; simp
  have e2 : IntKind.u64.wrap (((ShaM.w64 (H0 * x) : Nat) : Int) + (C : Int)) = ((ShaM.w64 (ShaM.w64 (H0 * x) + C) : Nat) : Int) := by rw [IntKind.wrap_u64]; unfold ShaM.w64; simp
  have e3 : (p : Int) * 4294967296 = ((ShaM.w64 (p * 4294967296) : Nat) : Int) := by unfold ShaM.w64; omega
  have hH : ShaM.w64 (ShaM.w64 (H0 * x) + C) < 18446744073709551616 := Nat.mod_lt _ (by omega)
  have hG : ShaM.w64 (H0 * x) < 18446744073709551616 := Nat.mod_lt _ (by omega)
  have hp' : ShaM.w64 (p * 4294967296) < 18446744073709551616 := Nat.mod_lt _ (by omega)
  generalize ShaM.w64 (ShaM.w64 (H0 * x) + C) = H at *
  generalize ShaM.w64 (H0 * x) = G at *
  generalize ShaM.w64 (p * 4294967296) = q at *
  go_enter Tryd.func54, Tryd.ntmps54
  rcases Nat.lt_trichotomy H q with h | h | h
  · have t1 : decide (H < q) = true := decide_eq_true h
    have t3 : (q ≤ H) = False := by simp; omega
    have E := hid (tell_lt (l := L) h)
    clear h
    go_wp2_with fail
    refine M.mono ?_
    rintro e w' ⟨rfl, rfl⟩
    go_wp2_with fail
    refine M2.mono ?_
    rintro e w' ⟨rfl, rfl⟩
    go_wp2_with fail
    go_ret
    exact ⟨by rw [E.out]; rfl, rfl⟩
  · subst h
    have t1 : decide (H < H) = false := decide_eq_false (by omega)
    by_cases h0 : L = 0
    · have t2 : ((L : Int) == 0) = true := by rw [beq_iff_eq]; omega
      have E : tellN H L H = true := by rw [tell_eq]; simp [h0]
      have EH := hid E
      clear h0 E
      go_wp2_with fail
      refine M.mono ?_
      rintro e w' ⟨rfl, rfl⟩
      go_wp2_with fail
      refine M2.mono ?_
      rintro e w' ⟨rfl, rfl⟩
      go_wp2_with fail
      go_ret
      exact ⟨by rw [EH.out]; rfl, rfl⟩
    · have t2 : ((L : Int) == 0) = false := by rw [beq_eq_false_iff_ne]; omega
      have E : tellN H L H = false := by rw [tell_eq]; simp [h0]
      have EH := hid E
      clear h0 E
      go_wp2_with fail
      refine M.mono ?_
      rintro e w' ⟨rfl, rfl⟩
      go_wp2_with fail
      refine M2.mono ?_
      rintro e w' ⟨rfl, rfl⟩
      go_wp2_with fail
      go_ret
      exact ⟨by rw [EH.out]; rfl, rfl⟩
  · have t1 : decide (H < q) = false := decide_eq_false (by omega)
    have t3 : (q ≤ H) = True := by simp; omega
    have t2 : ((H : Int) == (q : Int)) = false := by rw [beq_eq_false_iff_ne]; omega
    have E := hid (tell_gt (l := L) h)
    clear h
    go_wp2_with fail
    refine M.mono ?_
    rintro e w' ⟨rfl, rfl⟩
    go_wp2_with fail
    refine M2.mono ?_
    rintro e w' ⟨rfl, rfl⟩
    go_wp2_with fail
    go_ret
    exact ⟨by rw [E.out]; rfl, rfl⟩
theorem within_any (x p : Nat) (cube : Bool) (hx : x < 18446744073709551616) (hp : p < 4294967296) (w : World) :
    Calls Tryd.prog 54 #[.int .u64 x, .int .u64 p, .bool cube] w fun e w' => e = .returned (.bool (ShaM.withinN x p cube)) ∧ w = w' := by
  cases cube
  · exact within_sq x p hx hp w
  · exact within_cube x p hx hp w
set_option maxHeartbeats 400000 in
theorem root_any (p : Nat) (cube : Bool) (hp : p < 4294967296) (w : World) :
    Calls Tryd.prog 47 #[.int .u64 p, .bool cube] w fun e w' => e = .returned (.int .u32 (ShaM.rootN p cube 38 0 % 4294967296 : Nat)) ∧ w = w' := by
  obtain ⟨R, hR⟩ : ∃ R, R = ShaM.rootN p cube 38 0 := ⟨_, rfl⟩
  rw [← hR]
  have HR := hid hR
  clear hR
  go_enter Tryd.func47, Tryd.ntmps47
  go_wp2_with fail
  go_loop [5, 6] (fun u v => ∃ m x : Nat, m ≤ 38 ∧ v = .int .i64 ((m : Int) - 1) ∧ u = .int .u64 x ∧ x < 18446744073709551616 ∧ Hid (ShaM.rootN p cube m x = R)) (fun _ v => (intOf v + 1).toNat)
  case atStart => exact ⟨38, 0, by omega, rfl, rfl, by omega, hid HR.out.symm⟩
  case round =>
    obtain ⟨m, x, hm, rfl, rfl, hx, hr⟩ := hrel
    cases m with
    | zero =>
      obtain rfl : x = R := hr.out
      go_wp2_with fail
      go_ret
      exact ⟨ret_int (by simp), rfl⟩
    | succ i =>
      have hi : i < 38 := by omega
      have e1 : ((i + 1 : Nat) : Int) - 1 = (i : Int) := by omega
      rw [e1]
      obtain ⟨y, hy⟩ : ∃ y, y = ShaM.w64 (x + 2 ^ i) := ⟨_, rfl⟩
      have hyl : y < 18446744073709551616 := by rw [hy]; exact Nat.mod_lt _ (by omega)
      have hpw : 2 ^ i < 2 ^ 38 := Nat.pow_lt_pow_right (by decide) hi
      have e2 : IntKind.u64.wrap ((2 : Int) ^ i) = ((2 ^ i : Nat) : Int) := by
        have h0 : (2 : Int) ^ i = ((2 ^ i : Nat) : Int) := by simp
        generalize 2 ^ i = P at *
        rw [h0]; exact IntWalk.u64_in _ (by omega)
      have hst : ShaM.rootN p cube (i + 1) x = ShaM.rootN p cube i (if ShaM.withinN y p cube then y else x) := by rw [ShaM.rootN, hy]
      have hr2 := hr.out
      rw [hst] at hr2
      have e3 : IntKind.u64.wrap ((x : Int) + ((2 ^ i : Nat) : Int)) = (y : Int) := by rw [hy, IntKind.wrap_u64]; unfold ShaM.w64; omega
      generalize 2 ^ i = P at *
      have HY := hid hy
      have HR2 := hid hr2
      clear hy hr2 hst hr e1
      go_wp2_with fail
      refine (within_any y p cube hyl hp w).mono ?_
      rintro r w' ⟨rfl, rfl⟩
      cases hcs : ShaM.withinN y p cube with
      | true =>
        have hq := HR2.out
        rw [hcs, if_pos rfl] at hq
        have HQ := hid hq
        clear hq hcs HR2
        go_wp2_with fail
        go_round
        case rel => exact ⟨i, y, by omega, rfl, rfl, hyl, HQ⟩
        case measure => simp [intOf] <;> omega
      | false =>
        have hq := HR2.out
        rw [hcs, if_neg (by decide)] at hq
        have HQ := hid hq
        clear hq hcs HR2
        go_wp2_with fail
        go_round
        case rel => exact ⟨i, x, by omega, rfl, rfl, hx, HQ⟩
        case measure => simp [intOf] <;> omega
end Go.Proofs.YtnnhnlabkbjacaaDoor
