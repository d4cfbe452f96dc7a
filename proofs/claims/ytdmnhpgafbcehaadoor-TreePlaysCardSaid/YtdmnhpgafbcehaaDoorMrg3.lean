/-
  Contracts of the document's bits, rotations and choices (casemateref03.bit, Cut, Rot, chosen, two) over this translation.
  Contracts of the document's roots (casemateref03.within, root) over this translation.
  Contracts of the document's primes and their roots (casemateref03.Primes, Roots) over this translation.
  append of so many zeros ('append(l, make([]byte, n)...)'), to a slice of the call's own that is full.
  Contracts of the document's tail and message's numbers (casemateref03.Tail, Message) over this translation.
  Contract of the document's message's numbers (casemateref03.Message) over this translation.
  Contract of the document's pass (casemateref03.Pass) over this translation.
  A region that draws its order, in which several operations write: the class of worlds hangs on which of them have come up (D), and on nothing else.
-/
import Derived.Test.YtdmnhpgafbcehaaDoorMrg2
import Derived.Laws.OwnMore
import Derived.Laws.BitsAllLaws
set_option linter.unusedVariables false
set_option linter.unusedSimpArgs false
set_option maxRecDepth 100000
namespace Go.Proofs.YtdmnhpgafbcehaaDoor
open Go.ChangeShapes Go.WideShapes Go.ChangeAt Go.RowKit
theorem bit_any (x i : Nat) (hx : x < 4294967296) (hi : i < 32) (w : World) :
    Calls Tryd.prog 83 #[.int .u32 x, .int .i64 i] w fun e w' => e = .returned (.int .u32 (ShaM.bitN x i : Nat)) ∧ w = w' := by
  go_enter Tryd.func83, Tryd.ntmps83
  go_wp2
  go_ret
  refine ⟨ret_int ?_, rfl⟩
  unfold ShaM.bitN
  rw [Int.tmod_eq_emod_of_nonneg (Int.ediv_nonneg (by omega) (Int.le_of_lt (Int.pow_pos (by omega))))]
  simp
theorem rcut_any (x n : Nat) (hx : x < 4294967296) (hn : n < 32) (w : World) :
    Calls Tryd.prog 82 #[.int .u32 x, .int .i64 n] w fun e w' => e = .returned (.int .u32 (x / 2 ^ n : Nat)) ∧ w = w' := by
  obtain ⟨P, hP⟩ : ∃ P : Nat, P = 2 ^ n := ⟨_, rfl⟩
  have h1 : P < 4294967296 := by have h := Nat.pow_lt_pow_right (a := 2) (by decide) hn; omega
  have h2 : ¬ P = 0 := by rw [hP]; exact Nat.ne_of_gt (Nat.two_pow_pos n)
  have e0 : (2 : Int) ^ n = (P : Int) := by rw [hP]; simp
  have e : (2 : Int) ^ n % 4294967296 = (P : Int) := by rw [e0]; omega
  clear e0
  have hq : x / P < 4294967296 := Nat.lt_of_le_of_lt (Nat.div_le_self _ _) hx
  obtain ⟨q, hqq⟩ : ∃ q, q = x / P := ⟨_, rfl⟩
  have e2 : (x : Int) / (P : Int) % 4294967296 = (q : Int) := by
    rw [show (x : Int) / (P : Int) = ((x / P : Nat) : Int) by simp, ← hqq]; omega
  rw [← hP, ← hqq]
  have HP := hid hP
  have HQ := hid hqq
  clear hP hqq hq
  go_enter Tryd.func82, Tryd.ntmps82
  go_wp2
  go_ret
  exact ⟨ret_int e2, rfl⟩
theorem rrot_any (x n : Nat) (hx : x < 4294967296) (h0 : 0 < n) (hn : n < 32) (w : World) :
    Calls Tryd.prog 72 #[.int .u32 x, .int .i64 n] w fun e w' => e = .returned (.int .u32 (ShaM.rr x n : Nat)) ∧ w = w' := by
  obtain ⟨P, hP⟩ : ∃ P : Nat, P = 2 ^ n := ⟨_, rfl⟩
  obtain ⟨R, hR⟩ : ∃ R : Nat, R = ShaM.rr x n := ⟨_, rfl⟩
  have h1 : P < 4294967296 := by have h := Nat.pow_lt_pow_right (a := 2) (by decide) hn; omega
  have h2 : ¬ P = 0 := by rw [hP]; exact Nat.ne_of_gt (Nat.two_pow_pos n)
  have e0 : (2 : Int) ^ n = (P : Int) := by rw [hP]; simp
  have e : (2 : Int) ^ n % 4294967296 = (P : Int) := by rw [e0]; omega
  clear e0
  have hs := ShaM.rr_sum hx (Nat.le_of_lt hn)
  have hl := ShaM.rot_low_lt (x := x) (Nat.le_of_lt hn)
  have hr := ShaM.rr_lt hx n
  rw [← hP] at hs hl
  rw [← hR] at hs hr ⊢
  have HP := hid hP
  have HR := hid hR
  have HS := hid hs
  have HL := hid hl
  clear hP hR hs hl
  go_enter Tryd.func72, Tryd.ntmps72
  go_wp2
  go_ret
  refine ⟨ret_int ?_, rfl⟩
  have hs := HS.out
  have hl := HL.out
  have e0 : (2 : Int) ^ n = (P : Int) := by rw [HP.out]; simp
  have e3 : (x : Int) % (P : Int) * 2 ^ (32 - n) = ((x % P * 2 ^ (32 - n) : Nat) : Int) := by simp
  have e4 : (x : Int) / (P : Int) = ((x / P : Nat) : Int) := by simp
  rw [e3, e0, e4]
  generalize x % P * 2 ^ (32 - n) = y at *
  generalize x / P = z at *
  omega
set_option maxHeartbeats 400000 in
theorem chosen_any (e f g : Nat) (he : e < 4294967296) (hf : f < 4294967296) (hg : g < 4294967296) (w : World) :
    Calls Tryd.prog 73 #[.int .u32 e, .int .u32 f, .int .u32 g] w fun r w' => r = .returned (.int .u32 (ShaM.chN e f g : Nat)) ∧ w = w' := by
  have hc := ShaM.chN_lt (e := e) hf hg
  obtain ⟨c, hce⟩ : ∃ c, c = ShaM.chN e f g := ⟨_, rfl⟩
  rw [← hce] at hc ⊢
  have HC := hid hce
  clear hce
  go_enter Tryd.func73, Tryd.ntmps73
  go_wp2_with fail
  go_loop [7, 8] (fun u v => ∃ m o : Nat, m ≤ 32 ∧ v = .int .i64 ((m : Int) - 1) ∧ u = .int .u32 o ∧ o = c / 2 ^ m) (fun _ v => (intOf v + 1).toNat)
  case atStart => exact ⟨32, 0, by omega, rfl, rfl, by rw [Nat.div_eq_of_lt (by omega)]⟩
  case round =>
    obtain ⟨m, o, hm, rfl, rfl, ho⟩ := hrel
    cases m with
    | zero =>
      rw [Nat.pow_zero, Nat.div_one] at ho
      subst ho
      go_wp2_with fail
      go_ret
      exact ⟨rfl, rfl⟩
    | succ i =>
      have hi : i < 32 := by omega
      have e1 : ((i + 1 : Nat) : Int) - 1 = (i : Int) := by omega
      rw [e1]
      have hb := ShaM.chN_bit (e := e) (f := f) (g := g) he hi
      rw [← HC.out] at hb
      have hdv := ShaM.div_bit c i
      rw [← ho] at hdv
      have hle : c / 2 ^ i ≤ c := Nat.div_le_self _ _
      have hbe := ShaM.bitN_lt e i
      have hbf := ShaM.bitN_lt f i
      have hbg := ShaM.bitN_lt g i
      have HO := hid ho
      have HB := hid hb
      have HD := hid hdv
      clear ho hb hdv e1
      have hbc := ShaM.bitN_lt c i
      have ho31 : 2 * o + ShaM.bitN c i < 4294967296 := by have := HD.out; omega
      have ho30 : (o : Int) ≤ 2147483647 := by omega
      generalize hy : ShaM.bitN c i = y at *
      have HY := hid hy
      clear hy
      by_cases h1 : ShaM.bitN e i = 1
      · have t1 : ((ShaM.bitN e i : Nat) : Int) = 1 := by omega
        have hyf : ShaM.bitN f i = y := by have := HB.out; rw [if_pos h1] at this; exact this.symm
        have HT := hid t1
        have HYF := hid hyf
        clear h1 t1 hyf hbe
        go_wp2_with fail
        refine (bit_any g i hg hi w).mono ?_
        rintro r w' ⟨rfl, rfl⟩
        go_wp2_with fail
        refine (bit_any e i he hi w).mono ?_
        rintro r w' ⟨rfl, rfl⟩
        rw [HT.out]
        go_wp2_with fail
        refine (bit_any f i hf hi w).mono ?_
        rintro r w' ⟨rfl, rfl⟩
        rw [HYF.out]
        go_wp2_with fail
        go_round
        case rel => exact ⟨i, c / 2 ^ i, by omega, rfl, by rw [HD.out]; go_num, rfl⟩
        case measure => simp [intOf] <;> omega
      · have t1 : (((ShaM.bitN e i : Nat) : Int) == 1) = false := by rw [beq_eq_false_iff_ne]; omega
        have hyf : ShaM.bitN g i = y := by have := HB.out; rw [if_neg h1] at this; exact this.symm
        have HYF := hid hyf
        clear h1 hyf
        go_wp2_with fail
        refine (bit_any g i hg hi w).mono ?_
        rintro r w' ⟨rfl, rfl⟩
        rw [HYF.out]
        go_wp2_with fail
        refine (bit_any e i he hi w).mono ?_
        rintro r w' ⟨rfl, rfl⟩
        go_wp2_with fail
        go_round
        case rel => exact ⟨i, c / 2 ^ i, by omega, rfl, by rw [HD.out]; go_num, rfl⟩
        case measure => simp [intOf] <;> omega
set_option maxHeartbeats 400000 in
theorem two_any (a b d : Nat) (ha : a < 4294967296) (hb : b < 4294967296) (hd : d < 4294967296) (w : World) :
    Calls Tryd.prog 74 #[.int .u32 a, .int .u32 b, .int .u32 d] w fun r w' => r = .returned (.int .u32 (ShaM.twN a b d : Nat)) ∧ w = w' := by
  have hc := ShaM.twN_lt (a := a) hb hd
  obtain ⟨c, hce⟩ : ∃ c, c = ShaM.twN a b d := ⟨_, rfl⟩
  rw [← hce] at hc ⊢
  have HC := hid hce
  clear hce
  go_enter Tryd.func74, Tryd.ntmps74
  go_wp2_with fail
  go_loop [7, 8] (fun u v => ∃ m o : Nat, m ≤ 32 ∧ v = .int .i64 ((m : Int) - 1) ∧ u = .int .u32 o ∧ o = c / 2 ^ m) (fun _ v => (intOf v + 1).toNat)
  case atStart => exact ⟨32, 0, by omega, rfl, rfl, by rw [Nat.div_eq_of_lt (by omega)]⟩
  case round =>
    obtain ⟨m, o, hm, rfl, rfl, ho⟩ := hrel
    cases m with
    | zero =>
      rw [Nat.pow_zero, Nat.div_one] at ho
      subst ho
      go_wp2_with fail
      go_ret
      exact ⟨rfl, rfl⟩
    | succ i =>
      have hi : i < 32 := by omega
      have e1 : ((i + 1 : Nat) : Int) - 1 = (i : Int) := by omega
      rw [e1]
      have hbt := ShaM.twN_bit a b d i
      rw [← HC.out] at hbt
      have hdv := ShaM.div_bit c i
      rw [← ho] at hdv
      have hle : c / 2 ^ i ≤ c := Nat.div_le_self _ _
      have hba := ShaM.bitN_lt a i
      have hbb := ShaM.bitN_lt b i
      have hbd := ShaM.bitN_lt d i
      have HO := hid ho
      have HB := hid hbt
      have HD := hid hdv
      clear ho hbt hdv e1
      have hbc := ShaM.bitN_lt c i
      have ho31 : 2 * o + ShaM.bitN c i < 4294967296 := by have := HD.out; omega
      have ho30 : (o : Int) ≤ 2147483647 := by omega
      generalize hx : ShaM.bitN a i = x at *
      generalize hy : ShaM.bitN b i = y at *
      generalize hz : ShaM.bitN d i = z at *
      have HX := hid hx
      have HY := hid hy
      have HZ := hid hz
      clear hx hy hz
      go_wp2_with fail
      refine (bit_any a i ha hi w).mono ?_
      rintro r w' ⟨rfl, rfl⟩
      rw [HX.out]
      go_wp2_with fail
      refine (bit_any b i hb hi w).mono ?_
      rintro r w' ⟨rfl, rfl⟩
      rw [HY.out]
      go_wp2_with fail
      refine (bit_any d i hd hi w).mono ?_
      rintro r w' ⟨rfl, rfl⟩
      rw [HZ.out]
      go_wp2_with fail
      go_round
      case rel => exact ⟨i, c / 2 ^ i, by omega, rfl, by rw [HD.out, HB.out]; go_num, rfl⟩
      case measure => simp [intOf] <;> omega
end Go.Proofs.YtdmnhpgafbcehaaDoor
set_option maxRecDepth 100000
namespace Go.Proofs.YtdmnhpgafbcehaaDoor
open Go.ChangeShapes Go.WideShapes Go.ChangeAt Go.RowKit
theorem hi_lt {x y : Nat} (hx : x < 18446744073709551616) (hy : y < 18446744073709551616) : ShaM.hi64 x y < 18446744073709551616 := by
  unfold ShaM.hi64
  rw [Nat.div_lt_iff_lt_mul (by omega)]
  exact Nat.mul_lt_mul'' hx hy
theorem lo_lt (x y : Nat) : ShaM.lo64 x y < 18446744073709551616 := Nat.mod_lt _ (by omega)
theorem mul64_any (x y : Nat) (hx : x < 18446744073709551616) (hy : y < 18446744073709551616) (w : World) :
    Calls Tryd.prog 87 #[.int .u64 x, .int .u64 y] w fun e w' => e = .returned (.tuple #[.int .u64 (ShaM.hi64 x y : Nat), .int .u64 (ShaM.lo64 x y : Nat)]) ∧ w' = w := Tryd.bits_Mul64 x y hx hy w
/-- What the last test tells. -/
def tellN (high low limit : Nat) : Bool := decide (high < limit) || (high == limit && low == 0)
theorem tell_lt {h l m : Nat} (h1 : h < m) : tellN h l m = true := by unfold tellN; rw [decide_eq_true h1]; rfl
theorem tell_eq {l m : Nat} : tellN m l m = (l == 0) := by unfold tellN; simp
theorem tell_gt {h l m : Nat} (h1 : m < h) : tellN h l m = false := by unfold tellN; simp; omega
set_option maxHeartbeats 400000 in
theorem within_sq (x p : Nat) (hx : x < 18446744073709551616) (hp : p < 4294967296) (w : World) :
    Calls Tryd.prog 81 #[.int .u64 x, .int .u64 p, .bool false] w fun e w' => e = .returned (.bool (ShaM.withinN x p false)) ∧ w = w' := by
  have hw : ShaM.withinN x p false = tellN (ShaM.hi64 x x) (ShaM.lo64 x x) p := rfl
  rw [hw]
  clear hw
  have h1 := hi_lt hx hx
  have h2 := lo_lt x x
  have M := mul64_any x x hx hx w
  generalize ShaM.hi64 x x = H at *
  generalize ShaM.lo64 x x = L at *
  go_enter Tryd.func81, Tryd.ntmps81
  rcases Nat.lt_trichotomy H p with h | h | h
  · have t1 : decide (H < p) = true := decide_eq_true h
    have t3 : (p ≤ H) = False := by simp; omega
    have E := hid (tell_lt (l := L) h)
    clear h
    go_wp2_with fail
    refine M.mono ?_
    rintro e w' ⟨rfl, rfl⟩
    go_wp2_with fail
    go_ret
    exact ⟨by rw [E.out]; rfl, rfl⟩
  · subst h
    have t1 : decide (H < H) = false := decide_eq_false (by omega)
    by_cases h0 : L = 0
    · have t2 : ((L : Int) == 0) = true := by rw [beq_iff_eq]; omega
      have E : tellN H L H = true := by rw [tell_eq]; simp [h0]
      have EH := hid E
      clear h0 E
      go_wp2_with fail
      refine M.mono ?_
      rintro e w' ⟨rfl, rfl⟩
      go_wp2_with fail
      go_ret
      exact ⟨by rw [EH.out]; rfl, rfl⟩
    · have t2 : ((L : Int) == 0) = false := by rw [beq_eq_false_iff_ne]; omega
      have E : tellN H L H = false := by rw [tell_eq]; simp [h0]
      have EH := hid E
      clear h0 E
      go_wp2_with fail
      refine M.mono ?_
      rintro e w' ⟨rfl, rfl⟩
      go_wp2_with fail
      go_ret
      exact ⟨by rw [EH.out]; rfl, rfl⟩
  · have t1 : decide (H < p) = false := decide_eq_false (by omega)
    have t3 : (p ≤ H) = True := by simp; omega
    have t2 : ((H : Int) == (p : Int)) = false := by rw [beq_eq_false_iff_ne]; omega
    have E := hid (tell_gt (l := L) h)
    clear h
    go_wp2_with fail
    refine M.mono ?_
    rintro e w' ⟨rfl, rfl⟩
    go_wp2_with fail
    go_ret
    exact ⟨by rw [E.out]; rfl, rfl⟩
set_option maxHeartbeats 400000 in
theorem within_cube (x p : Nat) (hx : x < 18446744073709551616) (hp : p < 4294967296) (w : World) :
    Calls Tryd.prog 81 #[.int .u64 x, .int .u64 p, .bool true] w fun e w' => e = .returned (.bool (ShaM.withinN x p true)) ∧ w = w' := by
  have hw : ShaM.withinN x p true = tellN (ShaM.w64 (ShaM.w64 (ShaM.hi64 x x * x) + ShaM.hi64 (ShaM.lo64 x x) x)) (ShaM.lo64 (ShaM.lo64 x x) x) (ShaM.w64 (p * 4294967296)) := rfl
  rw [hw]
  clear hw
  have h1 := hi_lt hx hx
  have h2 := lo_lt x x
  have M := mul64_any x x hx hx w
  have M2 := mul64_any (ShaM.lo64 x x) x h2 hx w
  have h3 := hi_lt h2 hx
  have h4 := lo_lt (ShaM.lo64 x x) x
  generalize ShaM.hi64 (ShaM.lo64 x x) x = C at *
  generalize ShaM.lo64 (ShaM.lo64 x x) x = L at *
  generalize ShaM.hi64 x x = H0 at *
  generalize ShaM.lo64 x x = L0 at *
  have e1 : IntKind.u64.wrap ((H0 : Int) * (x : Int)) = ((ShaM.w64 (H0 * x) : Nat) : Int) := by rw [IntKind.wrap_u64]; unfold ShaM.w64; simp
  have e2 : IntKind.u64.wrap (((ShaM.w64 (H0 * x) : Nat) : Int) + (C : Int)) = ((ShaM.w64 (ShaM.w64 (H0 * x) + C) : Nat) : Int) := by rw [IntKind.wrap_u64]; unfold ShaM.w64; simp
  have e3 : (p : Int) * 4294967296 = ((ShaM.w64 (p * 4294967296) : Nat) : Int) := by unfold ShaM.w64; omega
  have hH : ShaM.w64 (ShaM.w64 (H0 * x) + C) < 18446744073709551616 := Nat.mod_lt _ (by omega)
  have hG : ShaM.w64 (H0 * x) < 18446744073709551616 := Nat.mod_lt _ (by omega)
  have hp' : ShaM.w64 (p * 4294967296) < 18446744073709551616 := Nat.mod_lt _ (by omega)
  generalize ShaM.w64 (ShaM.w64 (H0 * x) + C) = H at *
  generalize ShaM.w64 (H0 * x) = G at *
  generalize ShaM.w64 (p * 4294967296) = q at *
  go_enter Tryd.func81, Tryd.ntmps81
  rcases Nat.lt_trichotomy H q with h | h | h
  · have t1 : decide (H < q) = true := decide_eq_true h
    have t3 : (q ≤ H) = False := by simp; omega
    have E := hid (tell_lt (l := L) h)
    clear h
    go_wp2_with fail
    refine M.mono ?_
    rintro e w' ⟨rfl, rfl⟩
    go_wp2_with fail
    refine M2.mono ?_
    rintro e w' ⟨rfl, rfl⟩
    go_wp2_with fail
    go_ret
    exact ⟨by rw [E.out]; rfl, rfl⟩
  · subst h
    have t1 : decide (H < H) = false := decide_eq_false (by omega)
    by_cases h0 : L = 0
    · have t2 : ((L : Int) == 0) = true := by rw [beq_iff_eq]; omega
      have E : tellN H L H = true := by rw [tell_eq]; simp [h0]
      have EH := hid E
      clear h0 E
      go_wp2_with fail
      refine M.mono ?_
      rintro e w' ⟨rfl, rfl⟩
      go_wp2_with fail
      refine M2.mono ?_
      rintro e w' ⟨rfl, rfl⟩
      go_wp2_with fail
      go_ret
      exact ⟨by rw [EH.out]; rfl, rfl⟩
    · have t2 : ((L : Int) == 0) = false := by rw [beq_eq_false_iff_ne]; omega
      have E : tellN H L H = false := by rw [tell_eq]; simp [h0]
      have EH := hid E
      clear h0 E
      go_wp2_with fail
      refine M.mono ?_
      rintro e w' ⟨rfl, rfl⟩
      go_wp2_with fail
      refine M2.mono ?_
      rintro e w' ⟨rfl, rfl⟩
      go_wp2_with fail
      go_ret
      exact ⟨by rw [EH.out]; rfl, rfl⟩
  · have t1 : decide (H < q) = false := decide_eq_false (by omega)
    have t3 : (q ≤ H) = True := by simp; omega
    have t2 : ((H : Int) == (q : Int)) = false := by rw [beq_eq_false_iff_ne]; omega
    have E := hid (tell_gt (l := L) h)
    clear h
    go_wp2_with fail
    refine M.mono ?_
    rintro e w' ⟨rfl, rfl⟩
    go_wp2_with fail
    refine M2.mono ?_
    rintro e w' ⟨rfl, rfl⟩
    go_wp2_with fail
    go_ret
    exact ⟨by rw [E.out]; rfl, rfl⟩
theorem within_any (x p : Nat) (cube : Bool) (hx : x < 18446744073709551616) (hp : p < 4294967296) (w : World) :
    Calls Tryd.prog 81 #[.int .u64 x, .int .u64 p, .bool cube] w fun e w' => e = .returned (.bool (ShaM.withinN x p cube)) ∧ w = w' := by
  cases cube
  · exact within_sq x p hx hp w
  · exact within_cube x p hx hp w
set_option maxHeartbeats 400000 in
theorem root_any (p : Nat) (cube : Bool) (hp : p < 4294967296) (w : World) :
    Calls Tryd.prog 70 #[.int .u64 p, .bool cube] w fun e w' => e = .returned (.int .u32 (ShaM.rootN p cube 38 0 % 4294967296 : Nat)) ∧ w = w' := by
  obtain ⟨R, hR⟩ : ∃ R, R = ShaM.rootN p cube 38 0 := ⟨_, rfl⟩
  rw [← hR]
  have HR := hid hR
  clear hR
  go_enter Tryd.func70, Tryd.ntmps70
  go_wp2_with fail
  go_loop [5, 6] (fun u v => ∃ m x : Nat, m ≤ 38 ∧ v = .int .i64 ((m : Int) - 1) ∧ u = .int .u64 x ∧ x < 18446744073709551616 ∧ Hid (ShaM.rootN p cube m x = R)) (fun _ v => (intOf v + 1).toNat)
  case atStart => exact ⟨38, 0, by omega, rfl, rfl, by omega, hid HR.out.symm⟩
  case round =>
    obtain ⟨m, x, hm, rfl, rfl, hx, hr⟩ := hrel
    cases m with
    | zero =>
      obtain rfl : x = R := hr.out
      go_wp2_with fail
      go_ret
      exact ⟨ret_int (by simp), rfl⟩
    | succ i =>
      have hi : i < 38 := by omega
      have e1 : ((i + 1 : Nat) : Int) - 1 = (i : Int) := by omega
      rw [e1]
      obtain ⟨y, hy⟩ : ∃ y, y = ShaM.w64 (x + 2 ^ i) := ⟨_, rfl⟩
      have hyl : y < 18446744073709551616 := by rw [hy]; exact Nat.mod_lt _ (by omega)
      have hpw : 2 ^ i < 2 ^ 38 := Nat.pow_lt_pow_right (by decide) hi
      have e2 : IntKind.u64.wrap ((2 : Int) ^ i) = ((2 ^ i : Nat) : Int) := by
        have h0 : (2 : Int) ^ i = ((2 ^ i : Nat) : Int) := by simp
        generalize 2 ^ i = P at *
        rw [h0]; exact IntWalk.u64_in _ (by omega)
      have hst : ShaM.rootN p cube (i + 1) x = ShaM.rootN p cube i (if ShaM.withinN y p cube then y else x) := by rw [ShaM.rootN, hy]
      have hr2 := hr.out
      rw [hst] at hr2
      have e3 : IntKind.u64.wrap ((x : Int) + ((2 ^ i : Nat) : Int)) = (y : Int) := by rw [hy, IntKind.wrap_u64]; unfold ShaM.w64; omega
      generalize 2 ^ i = P at *
      have HY := hid hy
      have HR2 := hid hr2
      clear hy hr2 hst hr e1
      go_wp2_with fail
      refine (within_any y p cube hyl hp w).mono ?_
      rintro r w' ⟨rfl, rfl⟩
      cases hcs : ShaM.withinN y p cube with
      | true =>
        have hq := HR2.out
        rw [hcs, if_pos rfl] at hq
        have HQ := hid hq
        clear hq hcs HR2
        go_wp2_with fail
        go_round
        case rel => exact ⟨i, y, by omega, rfl, rfl, hyl, HQ⟩
        case measure => simp [intOf] <;> omega
      | false =>
        have hq := HR2.out
        rw [hcs, if_neg (by decide)] at hq
        have HQ := hid hq
        clear hq hcs HR2
        go_wp2_with fail
        go_round
        case rel => exact ⟨i, x, by omega, rfl, rfl, hx, HQ⟩
        case measure => simp [intOf] <;> omega
end Go.Proofs.YtdmnhpgafbcehaaDoor
set_option maxRecDepth 100000
namespace Go.Proofs.YtdmnhpgafbcehaaDoor
open Go.ChangeShapes Go.WideShapes Go.ChangeAt Go.RowKit
attribute [local go_sem] Gives
theorem elt64 : Elt 124 96 .u64 := elt_of Tryd.underlying124 (by kernel_rfl) (by kernel_rfl) (by kernel_rfl)
theorem elt32 : Elt 115 103 .u32 := elt_of Tryd.underlying115 (by kernel_rfl) (by kernel_rfl) (by kernel_rfl)
theorem elt8 : Elt 91 5 .u8 := elt_of Tryd.underlying91 (by kernel_rfl) (by kernel_rfl) (by kernel_rfl)
theorem info_bool : ∃ i : TypeInfo, Tryd.prog.info? 4 = some i ∧ i.zero = some (.bool false) ∧ i.size = 1 ∧ i.bytes = 1 := by
  have h1 : (Tryd.prog.info? 4).map (·.size) = some 1 := by kernel_rfl
  have h2 : (Tryd.prog.info? 4).map (·.bytes) = some 1 := by kernel_rfl
  have h3 : (Tryd.prog.info? 4).bind (·.zero) = some (.bool false) := by kernel_rfl
  cases hi : Tryd.prog.info? 4 with
  | none => rw [hi] at h1; cases h1
  | some i =>
    rw [hi] at h1 h2 h3
    simp only [Option.map_some, Option.some.injEq, Option.bind_some] at h1 h2 h3
    exact ⟨i, rfl, h3, h1, h2⟩
def bls (n : Nat) (f : Nat → Bool) : Array Value := row n fun j => .bool (f j)
theorem bls_ext {n : Nat} {f g : Nat → Bool} (h : ∀ k, k < n → f k = g k) : bls n f = bls n g := row_ext fun k hk => by rw [h k hk]
theorem get_bls {n : Nat} {f : Nat → Bool} {k : Nat} (h : k < n) : (bls n f)[k]? = some (.bool (f k)) := get_row_lt h
theorem bls_set {n : Nat} {f : Nat → Bool} {k : Nat} {v : Bool} : (bls n f).setIfInBounds k (.bool v) = bls n fun j => if j = k then v else f j := by
  unfold bls
  rw [row_set]
  exact row_ext fun j _ => by by_cases e : j = k <;> simp [e]
theorem run_mkb (w : World) : ∃ w', (Instr.makeSlice 136 (.int .i64 400) (.int .i64 400)).run Tryd.prog w = .ok (.slice (some ⟨w.heap.size, 0, none⟩) 400 400) w' ∧
    Blk w' w.heap.size 4 (bls 400 fun _ => false) ∧ Below w.heap.size w w' := by
  obtain ⟨i, hi, hz, h1, h2⟩ := info_bool
  obtain ⟨w', hr, ho, hg⟩ := run_makeSlice_full (P := Tryd.prog) w w.heap.size 136 4 i (.bool false) 1 Tryd.underlying136 hi hz h1 .i64 .i64 400 (by omega) (by rw [h2]; omega) (by unfold maxLen; omega) (Nat.le_refl _)
  refine ⟨w', hr, ?_, (Below.refl _ _).grown hg (Nat.le_refl _) (fun k e => by cases e)⟩
  rcases ho.2 with ⟨e, _⟩ | ⟨g, cap, cur, hv, _, hgc, _, _, hcs, ht⟩
  · cases e
  · simp only [Value.slice.injEq, Option.some.injEq, Addr.mk.injEq, and_true, true_and] at hv
    obtain ⟨rfl, rfl⟩ := hv
    have hcur : cur = bls 400 fun _ => false := by
      apply Array.ext_getElem?
      intro j
      rw [Nat.mul_one] at hcs ht
      unfold bls
      rw [get_row]
      by_cases hj : j < 400
      · rw [if_pos hj]
        have h3 : (madeCells (Value.cells (.bool false)) 400).toList[j]? = some (.bool false) := by
          rw [Array.getElem?_toList]
          unfold madeCells
          rw [Array.getElem?_map, Array.getElem?_range, if_pos hj]
          simp [Value.cells, Nat.mod_one]
        rw [← ht, List.getElem?_take_of_lt hj, Array.getElem?_toList] at h3
        exact h3
      · rw [if_neg hj, Array.getElem?_eq_none (by omega)]
    rw [← hcur]
    exact hgc
theorem mkb {ops : Array Oper} {Q : Exit → Act → World → Prop} {a : Act} {w : World} {rest : List Oper} {dst : Option Tmp} {ty : TypeId} {pos : String} {after : Array Edge} {x y : Operand}
    (hx : a.eval x = .int .i64 400) (hy : a.eval y = .int .i64 400) (h : ∀ w', Blk w' w.heap.size 4 (bls 400 fun _ => false) → Below w.heap.size w w' → wpList Tryd.prog ops Q rest (a.put dst (.slice (some ⟨w.heap.size, 0, none⟩) 400 400)) w') :
    wpList Tryd.prog ops Q (⟨dst, .makeSlice 136 x y, ty, pos, after, none⟩ :: rest) a w := by
  obtain ⟨w', hr, h1, h2⟩ := run_mkb w
  refine wpList_plain rfl fun K hK => ?_
  unfold Oper.wp execOp
  simp only [Sem.run_bind, hx, hy, hr, Result.andThen_ok]
  exact hK _ _ (h w' h1 h2)
/-- What is marked when the multiples of n below k are. -/
def markTo (out : List Nat) (n k j : Nat) : Bool := ShaM.mark out j || (decide (n ≤ j) && j % n == 0 && decide (j < k))
theorem markTo_zero (out : List Nat) (n j : Nat) : markTo out n n j = ShaM.mark out j := by
  unfold markTo
  have : (decide (n ≤ j) && j % n == 0 && decide (j < n)) = false := by
    rw [Bool.and_eq_false_iff, Bool.and_eq_false_iff]
    by_cases h : n ≤ j
    · right; simp; omega
    · left; left; simp; omega
  rw [this, Bool.or_false]
theorem markTo_full (out : List Nat) (n k j : Nat) (h : j < k) : markTo out n k j = ShaM.mark (out ++ [n]) j := by
  unfold markTo ShaM.mark
  rw [List.any_append, decide_eq_true h, Bool.and_true]
  simp
theorem markTo_step (out : List Nat) {n c : Nat} (hn : 0 < n) (hc : 1 ≤ c) (j : Nat) : (if j = n * c then true else markTo out n (n * c) j) = markTo out n (n * c + n) j := by
  unfold markTo
  by_cases e : j = n * c
  · subst e
    have h1 : n ≤ n * c := Nat.le_mul_of_pos_right n hc
    rw [if_pos rfl, decide_eq_true h1, Nat.mul_mod_right, decide_eq_true (show n * c < n * c + n by omega)]
    simp
  · rw [if_neg e]
    congr 1
    by_cases h : j < n * c
    · rw [decide_eq_true h, decide_eq_true (show j < n * c + n by omega)]
    · by_cases h2 : j < n * c + n
      · have h3 : ¬ j % n = 0 := by
          obtain ⟨r, hr⟩ : ∃ r, j = n * c + r := ⟨j - n * c, by omega⟩
          rw [hr, Nat.mul_add_mod, Nat.mod_eq_of_lt (by omega)]
          omega
        rw [decide_eq_false h, decide_eq_true h2]
        simp [h3]
      · rw [decide_eq_false h, decide_eq_false h2]
set_option maxHeartbeats 1000000 in
set_option maxRecDepth 100000 in
theorem primes_any (many : Nat) (hm : many ≤ 1000) (w : World) :
    Calls Tryd.prog 69 #[.int .i64 many] w fun e w' => ∃ A cap, e = .returned (.slice A (ShaM.primesN many).length cap) ∧ (ShaM.primesN many).length ≤ cap ∧ cap ≤ maxLen ∧ Nums .u64 w' w'.heap.size A (ShaM.primesN many) ∧ Below w.heap.size w w' := by
  obtain ⟨R, hR⟩ : ∃ R, R = ShaM.primesN many := ⟨_, rfl⟩
  rw [← hR]
  have HR := hid hR
  clear hR
  go_enter Tryd.func69, Tryd.ntmps69
  go_wp2_with ((with_reducible apply mkb); rfl; rfl; intro w3 b3 h3)
  go_loopw [4, 5] (fun u v wr => ∃ (n f : Nat) (out : List Nat) (A : Option Addr) (cap : Nat), 2 ≤ n ∧ n ≤ 400 ∧ n + f = 402 ∧ v = .int .i64 n ∧ u = .slice A out.length cap ∧ out.length ≤ n ∧ Hid (Own 96 .u64 wr (w.heap.size + 1) u out) ∧ Blk wr w.heap.size 4 (bls 400 (ShaM.mark out)) ∧ Hid (Below w.heap.size w wr) ∧ Hid (ShaM.sieve many f n out = R)) (fun _ v _ => 400 - (intOf v).toNat)
  case atStart => exact ⟨2, 400, [], none, 0, by omega, by omega, by omega, rfl, rfl, by simp, hid Own.nil, b3, hid h3, hid HR.out.symm⟩
  case round =>
    clear b3 h3
    obtain ⟨n, f, out, A, cap, hn2, hn, hf, rfl, rfl, hol, hown, hbl, hbel, hsv⟩ := hrel
    have hexit : out = R → ∃ A' cap', Ending.returned (.slice A out.length cap) = .returned (.slice A' R.length cap') ∧ R.length ≤ cap' ∧ cap' ≤ maxLen ∧ Nums .u64 wr wr.heap.size A' R ∧ Below w.heap.size w wr := fun e => by
      subst e
      obtain ⟨A', cap', e1, e2, e3, e4⟩ := hown.out.any
      simp only [Value.slice.injEq, true_and] at e1
      obtain ⟨rfl, rfl⟩ := e1
      exact ⟨A, cap, rfl, e2, e3, e4, hbel.out⟩
    have HX := hid hexit
    clear hexit
    obtain ⟨f, rfl⟩ : ∃ f', f = f' + 1 := ⟨f - 1, by omega⟩
    have hst := hsv.out
    rw [ShaM.sieve] at hst
    by_cases h4 : n < 400
    · have t4 : (n : Int) < 400 := by omega
      by_cases hlm : out.length < many
      · have t5 : decide (out.length < many) = true := decide_eq_true hlm
        rw [if_pos ⟨h4, hlm⟩] at hst
        have HST := hid hst
        clear hst hsv HX
        have q1 : wr.cell? ⟨w.heap.size, n, none⟩ = some (.bool (ShaM.mark out n)) := by rw [hbl.cell, get_bls h4]
        cases hmk : ShaM.mark out n with
        | true =>
          rw [hmk] at q1
          have hq := HST.out
          rw [if_pos hmk] at hq
          have HQ := hid hq
          clear hq hmk HST
          have HBL := hid hbl
          clear hbl
          go_wp2_with fail
          go_roundw
          case rel => exact ⟨n + 1, f, out, A, cap, by omega, by omega, by omega, by go_num, rfl, by omega, hown, HBL.out, hbel, HQ⟩
          case measure => simp [intOf] <;> omega
        | false =>
          rw [hmk] at q1
          have hq := HST.out
          rw [if_neg (by rw [hmk]; decide)] at hq
          have HQ := hid hq
          clear hq hmk HST
          have hwz := hbel.out.size
          have HBL := hid hbl
          clear hbl
          go_wp2_with (at_builtin; (with_reducible apply wappN elt64); rfl; rfl; exact hown.out.alloc _; exact nums_one (x := n) (B := wr.heap.size + 1) rfl (Nat.lt_succ_self _); rfl; omega; (simp; omega); intro v' w4 hown4 hgr4)
          have b4 := (HBL.out.alloc (.cells #[.int .u64 (n : Nat)] 96)).grown hgr4 hown.out (Nat.lt_succ_self _)
          have bel4 := below_grown (hbel.out.alloc hwz (.cells #[.int .u64 (n : Nat)] 96)) hgr4 hown.out (Nat.le_succ _) (Nat.le_refl _)
          have ho1 : (out ++ [n]).length ≤ n + 1 := by rw [List.length_append, List.length_singleton]; omega
          rw [bls_ext (g := markTo out n (n * 1)) fun k _ => by rw [Nat.mul_one, markTo_zero]] at b4
          have O4 := hid hown4
          have BEL4 := hid bel4
          have B4 := hid b4
          clear hown4 bel4 b4 hgr4 HBL q1
          go_loopw [6] (fun v w5 => ∃ c m : Nat, 1 ≤ c ∧ m = n * c ∧ m < 800 ∧ v = .int .i64 m ∧ Hid (Own 96 .u64 w5 (w.heap.size + 1) v' (out ++ [n])) ∧ Blk w5 w.heap.size 4 (bls 400 (markTo out n m)) ∧ Hid (Below w.heap.size w w5)) (fun v _ => 800 - (intOf v).toNat)
          case atStart => exact ⟨1, n, by omega, by rw [Nat.mul_one], by omega, rfl, O4, by have := B4.out; rwa [Nat.mul_one] at this, BEL4⟩
          case round =>
            clear O4 BEL4 B4
            obtain ⟨c, m, hc, hm2, hm8, rfl, O5, b5, BEL5⟩ := hrel
            have HM2 := hid hm2
            clear hm2
            by_cases h5 : m < 400
            · have t6 : (m : Int) < 400 := by omega
              have q2 := b5.frozen m
              have q3 : wr.cell? ⟨w.heap.size, m, none⟩ = some (.bool (markTo out n m m)) := by rw [b5.cell, get_bls h5]
              have B5 := hid b5
              clear b5
              go_wp2_with fail
              go_roundw
              case rel =>
                refine ⟨c + 1, m + n, by omega, by rw [HM2.out, Nat.mul_succ], by omega, by go_num, hid ?_, ?_, hid (BEL5.out.setCell (Nat.le_refl _) _)⟩
                · refine ⟨O5.out.1, ?_⟩
                  rcases O5.out.2 with h' | ⟨g, cap', cur, hv, hB, hg, hr⟩
                  · exact .inl h'
                  · exact .inr ⟨g, cap', cur, hv, hB, Blk.setCell_other (t := 96) (cs := cur) hg (by show w.heap.size ≠ g; omega) _, hr⟩
                · have h := B5.out.setCell_same m (.bool true)
                  rw [bls_set, bls_ext (g := markTo out n (m + n)) fun k _ => by rw [HM2.out]; exact markTo_step out (by omega) hc k] at h
                  exact h
              case measure => simp [intOf] <;> omega
            · have t6 : decide ((m : Int) < 400) = false := by simp; omega
              rw [bls_ext (g := ShaM.mark (out ++ [n])) fun k hk => markTo_full out n m k (by omega)] at b5
              have B5 := hid b5
              clear b5
              obtain ⟨A2, c2, e1, _, _, _⟩ := O5.out.any
              subst e1
              go_wp2_with fail
              go_roundw
              case rel => exact ⟨n + 1, f, out ++ [n], A2, c2, by omega, by omega, by omega, by go_num, rfl, ho1, O5, B5.out, BEL5, HQ⟩
              case measure => simp [intOf] <;> omega
      · have t5 : decide (out.length < many) = false := decide_eq_false hlm
        rw [if_neg (by omega)] at hst
        have HE := hid (HX.out hst)
        clear hst HX hsv hbl
        go_wp2_with fail
        go_ret
        exact HE.out
    · have t4 : decide ((n : Int) < 400) = false := by simp; omega
      rw [if_neg (by omega)] at hst
      have HE := hid (HX.out hst)
      clear hst HX hsv hbl
      go_wp2_with fail
      go_ret
      exact HE.out
/-- A slice of the numbers l that was made anew. -/
def Fresh (k : IntKind) (w w' : World) (e : Ending) (l : List Nat) : Prop := ∃ A cap, e = .returned (.slice A l.length cap) ∧ l.length ≤ cap ∧ cap ≤ maxLen ∧ Nums k w' w'.heap.size A l ∧ Below w.heap.size w w'
theorem Own.fresh {e : TypeId} {k : IntKind} {w0 w : World} {B : Nat} {v : Value} {l : List Nat} (h : Own e k w B v l) (hb : Below w0.heap.size w0 w) : Fresh k w0 w (.returned v) l := by
  obtain ⟨A, cap, rfl, h1, h2, h3⟩ := h.any
  exact ⟨A, cap, rfl, h1, h2, h3, hb⟩
set_option maxHeartbeats 400000 in
set_option maxRecDepth 100000 in
theorem roots_any (many : Nat) (cube : Bool) (hm : many ≤ 1000) (hp : ∀ p ∈ ShaM.primesN many, p < 400) (hn : (ShaM.primesN many).length ≤ 1000) (w : World) :
    Calls Tryd.prog 62 #[.int .i64 many, .bool cube] w fun e w' => Fresh .u32 w w' e (ShaM.rootsN many cube) := by
  unfold ShaM.rootsN
  have M := primes_any many hm w
  generalize ShaM.primesN many = P at *
  have HP := hid hp
  clear hp
  obtain ⟨m, hmP⟩ : ∃ m, m = P.length := ⟨_, rfl⟩
  rw [← hmP] at M hn
  go_enter Tryd.func62, Tryd.ntmps62
  have HM0 := hid hmP
  clear hmP
  go_wp2_with fail
  refine M.mono ?_
  rintro e w1 ⟨A, cap, rfl, h1, h2, h3, h4⟩
  have hmP := HM0.out
  clear M
  have H3 := hid h3
  have H4 := hid h4
  have HM := hid hmP
  clear h3 h4 hmP
  go_wp2_with fail
  go_loopw [6, 7] (fun u v wr => ∃ (i : Nat) (vo : Value), i ≤ m ∧ v = .int .i64 i ∧ u = vo ∧ Hid (Own 103 .u32 wr w1.heap.size vo ((P.take i).map fun p => ShaM.rootN p cube 38 0 % 4294967296)) ∧ Hid (Below w1.heap.size w1 wr)) (fun _ v _ => m - (intOf v).toNat)
  case atStart => exact ⟨0, _, Nat.zero_le _, rfl, rfl, hid Own.nil, hid (Below.refl _ _)⟩
  case round =>
    obtain ⟨i, vo, hi, rfl, rfl, ho, hb⟩ := hrel
    by_cases hlt : i < m
    · have ti : (i : Int) < (m : Int) := by omega
      have hiP : i < P.length := by rw [← HM.out]; exact hlt
      obtain ⟨b, o, rfl, hB, hr⟩ := H3.out (by omega)
      have q1 : wr.cell? ⟨b, o + i, none⟩ = some (.int .u64 (P.getD i 0 : Nat)) := (hb.out.cell (p := ⟨b, o + i, none⟩) hB).trans (hr i hiP)
      have hpl : P.getD i 0 < 400 := by rw [nums_at hiP]; exact HP.out _ (List.getElem_mem hiP)
      obtain ⟨p, hpp⟩ : ∃ p, p = P.getD i 0 := ⟨_, rfl⟩
      rw [← hpp] at q1 hpl
      have HPP := hid hpp
      have hsz := hb.out.size
      have hlen : ((P.take i).map fun p => ShaM.rootN p cube 38 0 % 4294967296).length = i := by rw [List.length_map, List.length_take]; omega
      have HLEN := hid hlen
      clear hpp hr hlen
      go_wp2_with fail
      refine (root_any p cube (by omega) wr).mono ?_
      rintro e w' ⟨rfl, rfl⟩
      generalize hR : ShaM.rootN p cube 38 0 % 4294967296 = R
      have HR := hid hR
      clear hR q1
      go_wp2_with (at_builtin; (with_reducible apply wappN elt32); rfl; rfl; exact ho.out.alloc _; exact nums_one (x := R) (B := wr.heap.size + 1) rfl (Nat.lt_succ_self _); rfl; (rw [HLEN.out]; omega); (simp; omega); intro v' w4 hown4 hgr4)
      have bel4 := below_grown (hb.out.alloc hsz (.cells #[.int .u32 (R : Nat)] 103)) hgr4 ho.out (Nat.le_refl _) (Nat.le_refl _)
      go_roundw
      case rel =>
        refine ⟨i + 1, v', by omega, by go_num, rfl, hid ?_, hid bel4⟩
        rw [List.take_succ_eq_append_getElem hiP, List.map_append, List.map_singleton, ← nums_at hiP, ← HPP.out, HR.out]
        exact hown4
      case measure => simp [intOf] <;> omega
    · obtain rfl : i = m := by omega
      have hfin := ho.out.fresh (H4.out.trans (hb.out.mono H4.out.size))
      rw [HM.out, List.take_length] at hfin
      have HF := hid hfin
      clear hfin ho
      go_wp2_with fail
      go_ret
      exact HF.out
theorem salts_any (w : World) : Calls Tryd.prog 62 #[.int .i64 64, .bool true] w fun e w' => Fresh .u32 w w' e ShaM.salts := by
  have h := roots_any 64 true (by omega) (by rw [ShaM.primes_64]; decide) (by rw [ShaM.primes_64]; decide) w
  rw [ShaM.roots_64] at h
  exact h
theorem seeds_any (w : World) : Calls Tryd.prog 62 #[.int .i64 8, .bool false] w fun e w' => Fresh .u32 w w' e [ShaM.seeds.a, ShaM.seeds.b, ShaM.seeds.c, ShaM.seeds.d, ShaM.seeds.e, ShaM.seeds.f, ShaM.seeds.g, ShaM.seeds.h] := by
  have h := roots_any 8 false (by omega) (by rw [ShaM.primes_8]; decide) (by rw [ShaM.primes_8]; decide) w
  rw [ShaM.roots_8] at h
  exact h
end Go.Proofs.YtdmnhpgafbcehaaDoor
set_option maxRecDepth 100000
namespace Go.Proofs.YtdmnhpgafbcehaaDoor
open Go.ChangeShapes Go.WideShapes Go.ChangeAt Go.RowKit
theorem toList_zeroCells_one (z : Value) (n : Nat) : (Builtin.zeroCells #[z] n).toList = List.replicate n z := by
  apply List.ext_getElem?
  intro j
  by_cases hj : j < n
  · simp [Builtin.zeroCells, hj, Nat.mod_one]
  · simp [Builtin.zeroCells, hj]
theorem nums_zeros (k : IntKind) (n : Nat) : nums k (List.replicate n 0) = List.replicate n (.int k 0) := by simp [nums]
theorem run_appZ {S e t : TypeId} {k : IntKind} (E : Elt S e k) (hti : Tryd.prog.underlying t = some (.int .i64)) {w : World} {B g : Nat} {l : List Nat} (ty : TypeId) (n : Nat) (hn : n ≤ 1000) (hll : 0 < l.length) (hl : l.length ≤ 1000)
    (hown : Own e k w B (.slice (some ⟨g, 0, none⟩) l.length l.length) l) (hB : B ≤ w.heap.size) :
    ∃ v' w', (Builtin.append_ #[S, t] ty #[.slice (some ⟨g, 0, none⟩) l.length l.length, .int .i64 (n : Int)]).run Tryd.prog w = .ok v' w' ∧ Own e k w' B v' (l ++ List.replicate n 0) ∧ w.grownBy w' none := by
  obtain ⟨i, hi, hz, h1, h2⟩ := E.inf
  have hw : IntKind.i64.wrap (n : Int) = (n : Int) := IntWalk.i64_in _ (by omega)
  have h48 : ¬ ((281474976710656 : Int) < (n : Int) * (i.bytes : Int)) := by
    have h3 : n * i.bytes ≤ 1000 * 8 := Nat.mul_le_mul hn h2
    have h4 : (n : Int) * (i.bytes : Int) = ((n * i.bytes : Nat) : Int) := by simp
    rw [h4]; omega
  have hn0 : ¬ ((n : Int) < 0) := by omega
  by_cases h0 : n = 0
  · subst h0
    refine ⟨_, w, ?_, by rw [List.replicate_zero, List.append_nil]; exact hown, ⟨rfl, rfl, rfl, Nat.le_refl _, fun _ _ _ => rfl⟩⟩
    have hw0 : IntKind.i64.wrap 0 = 0 := by decide
    simp [Builtin.append_, run_underlying E.und, run_underlying hti, sizeOf, typeInfo, hi, asInt, asIntOf, storeCells, hw0]
  · have hg : ¬ (l.length + n ≤ l.length) := by omega
    have h63' : ¬ (9223372036854775807 < ((l.length : Int) + (n : Int))) := by omega
    have hfit : Builtin.nextslicecap (l.length + n) l.length * i.bytes ≤ 281474976710656 := growslice_fits (by omega) (Nat.le_trans (Nat.mul_le_mul (show l.length + n ≤ 2000 by omega) h2) (by omega))
    have h48' : ¬ (281474976710656 < Builtin.nextslicecap (l.length + n) l.length * i.bytes) := by omega
    have holds : ∀ j u, (nums k l)[j]? = some u → w.cell? ((⟨g, 0, none⟩ : Addr).add j) = some u := hown.cells (g := g) rfl
    have hfo := run_firstCells_some (P := Tryd.prog) w.drew i.size l.length ⟨g, 0, none⟩ l.length l.length (nums k l) (by rw [nums_length, h1, Nat.mul_one]) (by simpa using holds)
    have hgc := grownCap_ge w (l.length + n) l.length e
    have hgm := grownCap_le_maxLen w (l.length + n) l.length e (by unfold maxLen; omega)
    refine ⟨.slice (some ⟨w.heap.size, 0, none⟩) (l.length + n) (grownCap w (l.length + n) l.length e),
      w.drew.alloc (.cells ((nums k l).toArray ++ Builtin.zeroCells #[.int k 0] n ++ Builtin.zeroCells #[.int k 0] (grownCap w (l.length + n) l.length e - (l.length + n))) e), ?_, ?_, ⟨rfl, rfl, rfl, by simp, fun _ hj _ => heap_alloc_old w.drew _ hj⟩⟩
    · simp [Builtin.append_, run_underlying E.und, run_underlying hti, sizeOf, typeInfo, zeroValue, hi, hz, asInt, asIntOf, hw, h48, hn0, hg, h0, h63', h48', h1, Question.forced, newRow, grownCap, Value.cells]
      rw [h1] at hfo
      rw [hfo]
      simp [Result.andThen]
    · unfold Own
      rw [List.length_append, List.length_replicate, nums_append, nums_zeros]
      refine ⟨by simp [nums_length], .inr ⟨w.heap.size, _, _, rfl, hB, heap_alloc_new w.drew _, hgc, hgm, ?_, ?_⟩⟩
      · simp only [Array.size_append, List.size_toArray, size_zeroCells, nums_length]
        simp; omega
      · simp only [Array.toList_append, List.append_assoc, toList_zeroCells_one]
        rw [← List.append_assoc, List.take_left' (by simp [nums_length])]
/-- A literal of one number is a slice of the call's own, and full. -/
theorem Own.lit {e : TypeId} {k : IntKind} (w : World) {B x : Nat} {v : Value} (h : v = .int k (x : Nat)) (hB : B ≤ w.heap.size) : Own e k (w.alloc (.cells #[v] e)) B (.slice (some ⟨w.heap.size, 0, none⟩) 1 1) [x] := by
  subst h
  exact ⟨rfl, .inr ⟨w.heap.size, 1, #[.int k (x : Nat)], rfl, hB, heap_alloc_new w _, Nat.le_refl _, by unfold maxLen; omega, rfl, rfl⟩⟩
theorem wappZ {ops : Array Oper} {Q : Exit → Act → World → Prop} {a : Act} {w : World} {rest : List Oper} {dst : Option Tmp} {ty : TypeId} {pos : String} {after : Array Edge} {s x : Operand} {B g n : Nat} {l : List Nat} {S e t : TypeId} {k : IntKind}
    (E : Elt S e k) (hti : Tryd.prog.underlying t = some (.int .i64)) (hs : a.eval s = .slice (some ⟨g, 0, none⟩) l.length l.length) (hx : a.eval x = .int .i64 (n : Int)) (hown : Own e k w B (.slice (some ⟨g, 0, none⟩) l.length l.length) l) (hn : n ≤ 1000) (hll : 0 < l.length) (hl : l.length ≤ 1000) (hB : B ≤ w.heap.size)
    (h : ∀ v' w', Own e k w' B v' (l ++ List.replicate n 0) → w.grownBy w' none → wpList Tryd.prog ops Q rest (a.put dst v') w') :
    wpList Tryd.prog ops Q (⟨dst, .call { callee := .builtin .append, args := #[s, x], argTypes := #[S, t] }, ty, pos, after, none⟩ :: rest) a w := by
  obtain ⟨v', w', hr, h1, h2⟩ := run_appZ E hti ty n hn hll hl hown hB
  refine wpList_plain rfl fun K hK => ?_
  unfold Oper.wp execOp
  simp only [resolve, invoke, builtin, Sem.run_bind, Sem.run_pure, Result.andThen_ok, List.map_toArray, List.map_cons, List.map_nil, hs, hx, hr]
  exact hK _ _ (h v' w' h1 h2)
end Go.Proofs.YtdmnhpgafbcehaaDoor
set_option maxRecDepth 100000
namespace Go.Proofs.YtdmnhpgafbcehaaDoor
open Go.ChangeShapes Go.WideShapes Go.ChangeAt Go.RowKit
attribute [local go_sem] Gives
theorem under_int : Tryd.prog.underlying 3 = some (.int .i64) := Tryd.underlying3
set_option maxHeartbeats 400000 in
set_option maxRecDepth 100000 in
theorem tail_any (n : Nat) (hn : n ≤ 1000000) (w : World) :
    Calls Tryd.prog 61 #[.int .i64 n] w fun e w' => Fresh .u8 w w' e (ShaM.tail n) := by
  obtain ⟨z, hz⟩ : ∃ z, z = ShaM.zeros n := ⟨_, rfl⟩
  have hz64 : z < 64 := by rw [hz]; unfold ShaM.zeros; omega
  have hz2 : z = (64 - (n + 9) % 64) % 64 := hz
  have htl : ShaM.tail n = (128 :: List.replicate z 0) ++ ShaM.count8 (8 * n) := by rw [hz]; rfl
  rw [htl]
  have HZ := hid hz2
  clear hz htl hz2
  go_enter Tryd.func61, Tryd.ntmps61
  by_cases h0 : (n + 9) % 64 = 0
  · have hz0 : z = 0 := by have := HZ.out; omega
    have t0 : ((n : Int) + 9) % 64 = 0 := by omega
    clear HZ h0
    subst hz0
    go_upto_region 5 with (at_builtin; (with_reducible apply wappZ elt8 under_int (l := [128]) (n := 0) (g := w.heap.size)); rfl; rfl; exact Own.lit w rfl (Nat.le_refl _); omega; decide; decide; (simp); intro v1 w1 o1 g1)
    have b1 := below_none ((Below.refl w.heap.size w).alloc (Nat.le_refl _) (.cells #[.int .u8 128] 5)) g1 (Nat.le_refl _)
    clear g1
    obtain ⟨A1, c1, e1, _, _, _⟩ := o1.any
    generalize hN1 : ([128] ++ List.replicate 0 0).length = N1 at e1
    subst e1
    have HN1 := hid hN1
    clear hN1
    have O1 := hid o1
    have B1 := hid b1
    clear o1 b1
    go_wp2_with fail
    go_loopw [5, 6, 7] (fun x u v wr => ∃ (i X : Nat) (vs : Value), i ≤ 8 ∧ v = .int .i64 i ∧ x = .int .u64 X ∧ X ≤ 8000000 ∧ Hid (X = 8 * n / 256 ^ i) ∧ u = vs ∧ Hid (Own 5 .u8 wr w1.heap.size vs ((ShaM.count8 (8 * n)).drop (8 - i))) ∧ Hid (Below w1.heap.size w1 wr)) (fun _ _ v _ => 8 - (intOf v).toNat)
    case atStart => exact ⟨0, 8 * n, _, by omega, rfl, by go_num, by omega, hid (by simp), rfl, hid (by rw [List.drop_of_length_le (by rw [ShaM.count8_length]; omega)]; exact Own.nil), hid (Below.refl _ _)⟩
    case round =>
      obtain ⟨i, X, vs, hi, rfl, rfl, hX, hXe, rfl, ho, hb⟩ := hrel
      have hsz := hb.out.size
      by_cases hlt : i < 8
      · have ti : (i : Int) < 8 := by omega
        have hdr := ShaM.count8_drop (8 * n) hlt
        rw [← hXe.out] at hdr
        have hX2 : X / 256 = 8 * n / 256 ^ (i + 1) := by rw [hXe.out, Nat.div_div_eq_div_mul, Nat.pow_succ]
        have HX2 := hid hX2
        have HDR := hid hdr
        have hl8 : ((ShaM.count8 (8 * n)).drop (8 - i)).length = i := by rw [List.length_drop, ShaM.count8_length]; omega
        have HL8 := hid hl8
        clear hX2 hdr hl8
        generalize hD : (ShaM.count8 (8 * n)).drop (8 - i) = D at *
        have HD := hid hD
        clear hD
        rcases ho.out.form with ⟨e2, e3⟩ | ⟨g2, c2, e2, _, _, _, _, hN⟩
        · subst e2
          have E3 := hid e3
          clear e3
          go_wp2_with (at_builtin; (with_reducible apply wappN_none elt8); rfl; rfl; exact Own.lit wr (x := X % 256) (by simp) (B := w1.heap.size) hsz)
          go_roundw
          case rel => exact ⟨i + 1, X / 256, _, by omega, by go_num, by go_num, by omega, HX2, rfl, hid (by rw [HDR.out, E3.out]; exact Own.lit wr (by simp) hsz), hid (hb.out.alloc hsz _)⟩
          case measure => simp [intOf] <;> omega
        · subst e2
          have HN := hid hN
          clear hN
          go_wp2_with (at_builtin; (with_reducible apply wappN elt8); rfl; rfl; exact Own.lit wr (x := X % 256) (by simp) (B := w1.heap.size) hsz; exact (HN.out.below ((Below.refl wr.heap.size wr).alloc (Nat.le_refl _) _) (Nat.le_refl _)); rfl; (rw [HL8.out]; simp; omega); (simp; omega); intro v' w4 o4 g4)
          have b4 := below_grown (hb.out.alloc hsz (.cells #[.int .u8 (X % 256 : Nat)] 5)) g4 (Own.lit (e := 5) (k := .u8) wr (x := X % 256) rfl hsz) (Nat.le_refl _) (Nat.le_refl _)
          go_roundw
          case rel => exact ⟨i + 1, X / 256, v', by omega, by go_num, by go_num, by omega, HX2, rfl, hid (by rw [HDR.out]; exact o4), hid b4⟩
          case measure => simp [intOf] <;> omega
      · obtain rfl : i = 8 := by omega
        have O1' := hid (O1.out.below hb.out)
        have ho8 := ho.out
        rw [show (ShaM.count8 (8 * n)).drop (8 - 8) = ShaM.count8 (8 * n) from rfl] at ho8
        have B8 := B1.out.trans (hb.out.mono B1.out.size)
        have HB8 := hid B8
        rcases ho8.form with ⟨e2, e3⟩ | ⟨g2, c2, e2, _, _, _, _, hN⟩
        · exact absurd e3 (by rw [← List.length_eq_zero_iff, ShaM.count8_length]; omega)
        · subst e2
          have HN := hid hN
          have hbw := B8.size
          clear hN ho8 B8
          go_wp2_with (at_builtin; (with_reducible apply wappN elt8); rfl; rfl; exact O1'.out; exact HN.out; (first | rfl | exact ShaM.count8_length _); (simp [ShaM.count8_length] <;> omega); exact hbw; intro v' w4 o4 g4)
          have b4 := below_grown HB8.out g4 O1'.out (Nat.le_refl _) (Nat.le_refl _)
          go_ret
          exact o4.fresh b4
  · have t0 : 64 - ((n : Int) + 9) % 64 = (z : Int) := by have := HZ.out; omega
    have t1 : ((z : Int) == 64) = false := by rw [beq_eq_false_iff_ne]; omega
    clear HZ h0
    go_upto_region 5 with (at_builtin; (with_reducible apply wappZ elt8 under_int (l := [128]) (n := z) (g := w.heap.size)); rfl; rfl; exact Own.lit w rfl (Nat.le_refl _); omega; decide; decide; (simp); intro v1 w1 o1 g1)
    have b1 := below_none ((Below.refl w.heap.size w).alloc (Nat.le_refl _) (.cells #[.int .u8 128] 5)) g1 (Nat.le_refl _)
    clear g1
    obtain ⟨A1, c1, e1, _, _, _⟩ := o1.any
    generalize hN1 : ([128] ++ List.replicate z 0).length = N1 at e1
    subst e1
    have HN1 := hid hN1
    clear hN1
    have O1 := hid o1
    have B1 := hid b1
    clear o1 b1
    go_wp2_with fail
    go_loopw [5, 6, 7] (fun x u v wr => ∃ (i X : Nat) (vs : Value), i ≤ 8 ∧ v = .int .i64 i ∧ x = .int .u64 X ∧ X ≤ 8000000 ∧ Hid (X = 8 * n / 256 ^ i) ∧ u = vs ∧ Hid (Own 5 .u8 wr w1.heap.size vs ((ShaM.count8 (8 * n)).drop (8 - i))) ∧ Hid (Below w1.heap.size w1 wr)) (fun _ _ v _ => 8 - (intOf v).toNat)
    case atStart => exact ⟨0, 8 * n, _, by omega, rfl, by go_num, by omega, hid (by simp), rfl, hid (by rw [List.drop_of_length_le (by rw [ShaM.count8_length]; omega)]; exact Own.nil), hid (Below.refl _ _)⟩
    case round =>
      obtain ⟨i, X, vs, hi, rfl, rfl, hX, hXe, rfl, ho, hb⟩ := hrel
      have hsz := hb.out.size
      by_cases hlt : i < 8
      · have ti : (i : Int) < 8 := by omega
        have hdr := ShaM.count8_drop (8 * n) hlt
        rw [← hXe.out] at hdr
        have hX2 : X / 256 = 8 * n / 256 ^ (i + 1) := by rw [hXe.out, Nat.div_div_eq_div_mul, Nat.pow_succ]
        have HX2 := hid hX2
        have HDR := hid hdr
        have hl8 : ((ShaM.count8 (8 * n)).drop (8 - i)).length = i := by rw [List.length_drop, ShaM.count8_length]; omega
        have HL8 := hid hl8
        clear hX2 hdr hl8
        generalize hD : (ShaM.count8 (8 * n)).drop (8 - i) = D at *
        have HD := hid hD
        clear hD
        rcases ho.out.form with ⟨e2, e3⟩ | ⟨g2, c2, e2, _, _, _, _, hN⟩
        · subst e2
          have E3 := hid e3
          clear e3
          go_wp2_with (at_builtin; (with_reducible apply wappN_none elt8); rfl; rfl; exact Own.lit wr (x := X % 256) (by simp) (B := w1.heap.size) hsz)
          go_roundw
          case rel => exact ⟨i + 1, X / 256, _, by omega, by go_num, by go_num, by omega, HX2, rfl, hid (by rw [HDR.out, E3.out]; exact Own.lit wr (by simp) hsz), hid (hb.out.alloc hsz _)⟩
          case measure => simp [intOf] <;> omega
        · subst e2
          have HN := hid hN
          clear hN
          go_wp2_with (at_builtin; (with_reducible apply wappN elt8); rfl; rfl; exact Own.lit wr (x := X % 256) (by simp) (B := w1.heap.size) hsz; exact (HN.out.below ((Below.refl wr.heap.size wr).alloc (Nat.le_refl _) _) (Nat.le_refl _)); rfl; (rw [HL8.out]; simp; omega); (simp; omega); intro v' w4 o4 g4)
          have b4 := below_grown (hb.out.alloc hsz (.cells #[.int .u8 (X % 256 : Nat)] 5)) g4 (Own.lit (e := 5) (k := .u8) wr (x := X % 256) rfl hsz) (Nat.le_refl _) (Nat.le_refl _)
          go_roundw
          case rel => exact ⟨i + 1, X / 256, v', by omega, by go_num, by go_num, by omega, HX2, rfl, hid (by rw [HDR.out]; exact o4), hid b4⟩
          case measure => simp [intOf] <;> omega
      · obtain rfl : i = 8 := by omega
        have O1' := hid (O1.out.below hb.out)
        have ho8 := ho.out
        rw [show (ShaM.count8 (8 * n)).drop (8 - 8) = ShaM.count8 (8 * n) from rfl] at ho8
        have B8 := B1.out.trans (hb.out.mono B1.out.size)
        have HB8 := hid B8
        rcases ho8.form with ⟨e2, e3⟩ | ⟨g2, c2, e2, _, _, _, _, hN⟩
        · exact absurd e3 (by rw [← List.length_eq_zero_iff, ShaM.count8_length]; omega)
        · subst e2
          have HN := hid hN
          have hbw := B8.size
          clear hN ho8 B8
          go_wp2_with (at_builtin; (with_reducible apply wappN elt8); rfl; rfl; exact O1'.out; exact HN.out; (first | rfl | exact ShaM.count8_length _); (simp [ShaM.count8_length] <;> omega); exact hbw; intro v' w4 o4 g4)
          have b4 := below_grown HB8.out g4 O1'.out (Nat.le_refl _) (Nat.le_refl _)
          go_ret
          exact o4.fresh b4
end Go.Proofs.YtdmnhpgafbcehaaDoor
set_option maxRecDepth 100000
namespace Go.Proofs.YtdmnhpgafbcehaaDoor
open Go.ChangeShapes Go.WideShapes Go.ChangeAt Go.RowKit
attribute [local go_sem] Gives
theorem add_wrap (a b : Nat) : IntKind.u32.wrap ((a : Int) + (b : Int)) = ((ShaM.add a b : Nat) : Int) := by
  rw [IntKind.wrap_u32]; unfold ShaM.add; simp
theorem xor3 {a b : Nat} (ha : a < 4294967296) (hb : b < 4294967296) : bits .xor .u32 (a : Int) (b : Int) = ((a ^^^ b : Nat) : Int) := u32_xor_nat _ _ ha hb
/-- The bytes of one number. -/
theorem word_sum (b : Nat → Nat) (i : Nat) : ShaM.word b i = b (4 * i) * 16777216 + b (4 * i + 1) * 65536 + b (4 * i + 2) * 256 + b (4 * i + 3) := by
  unfold ShaM.word; omega
theorem first_take (b : Nat → Nat) {i : Nat} (h : i < 16) : (ShaM.first b).take (i + 1) = (ShaM.first b).take i ++ [ShaM.word b i] := by
  have hl : i < (ShaM.first b).length := by rw [ShaM.first_length]; exact h
  rw [List.take_succ_eq_append_getElem hl, ← nums_at hl, ShaM.first_get b h]
theorem ext_take (b : Nat → Nat) (k : Nat) : ShaM.ext (k + 1) (ShaM.first b) = ShaM.ext k (ShaM.first b) ++ [ShaM.next (ShaM.ext k (ShaM.first b)) (16 + k)] := by
  rw [ShaM.ext_succ, ShaM.ext_length, ShaM.first_length]
theorem nums_one' {k : IntKind} {w : World} {t : TypeId} {n x : Nat} {v : Value} (h : v = .int k (x : Nat)) {B : Nat} (hn : n = w.heap.size) (hB : w.heap.size < B) : Nums k (w.alloc (.cells #[v] t)) B (some ⟨n, 0, none⟩) [x] := by
  subst hn; exact nums_one h hB
theorem rcut3 (x : Nat) (hx : x < 4294967296) (w : World) :
    Calls Tryd.prog 82 #[.int .u32 x, .int .i64 3] w fun e w' => e = .returned (.int .u32 (x / 8 : Nat)) ∧ w = w' := rcut_any x 3 hx (by omega) w
theorem rcut10 (x : Nat) (hx : x < 4294967296) (w : World) :
    Calls Tryd.prog 82 #[.int .u32 x, .int .i64 10] w fun e w' => e = .returned (.int .u32 (x / 1024 : Nat)) ∧ w = w' := rcut_any x 10 hx (by omega) w
set_option maxHeartbeats 1000000 in
set_option maxRecDepth 100000 in
theorem message_any (A : Option Addr) (l : List Nat) (cap : Nat) (hl : l.length = 64) (h256 : ∀ k, ShaM.at' l k < 256) (w : World) (hA : Byt w w.heap.size A l) :
    Calls Tryd.prog 71 #[.slice A 64 cap] w fun e w' => Fresh .u32 w w' e (ShaM.sched (ShaM.at' l)) := by
  obtain ⟨b, o, rfl, hB, hr⟩ := hA (by omega)
  rw [hl] at hr
  have HR := hid hr
  have HB := hid h256
  clear hA hr h256
  go_enter Tryd.func71, Tryd.ntmps71
  go_wp2_with fail
  go_loopw [3, 4] (fun u v wr => ∃ (i : Nat) (vs : Value), i ≤ 16 ∧ v = .int .i64 i ∧ u = vs ∧ Hid (Own 103 .u32 wr w.heap.size vs ((ShaM.first (ShaM.at' l)).take i)) ∧ Hid (Below w.heap.size w wr)) (fun _ v _ => 16 - (intOf v).toNat)
  case atStart => exact ⟨0, _, by omega, rfl, rfl, hid Own.nil, hid (Below.refl _ _)⟩
  case round =>
    obtain ⟨i, vs, hi, rfl, rfl, ho, hb⟩ := hrel
    have hsz := hb.out.size
    by_cases hlt : i < 16
    · have ti : (i : Int) < 16 := by omega
      obtain ⟨c0, hc0⟩ : ∃ c, c = 4 * i := ⟨_, rfl⟩
      obtain ⟨c1, hc1⟩ : ∃ c, c = 4 * i + 1 := ⟨_, rfl⟩
      obtain ⟨c2, hc2⟩ : ∃ c, c = 4 * i + 2 := ⟨_, rfl⟩
      obtain ⟨c3, hc3⟩ : ∃ c, c = 4 * i + 3 := ⟨_, rfl⟩
      have E0 := hid (show IntKind.i64.wrap (4 * (i : Int)) = (c0 : Int) from wr_nat (by omega) (by omega))
      have E1 := hid (show IntKind.i64.wrap ((c0 : Int) + 1) = (c1 : Int) from wr_nat (by omega) (by omega))
      have E2 := hid (show IntKind.i64.wrap ((c0 : Int) + 2) = (c2 : Int) from wr_nat (by omega) (by omega))
      have E3 := hid (show IntKind.i64.wrap ((c0 : Int) + 3) = (c3 : Int) from wr_nat (by omega) (by omega))
      have t0 : (c0 : Int) < 64 := by omega
      have t1 : (c1 : Int) < 64 := by omega
      have t2 : (c2 : Int) < 64 := by omega
      have t3 : (c3 : Int) < 64 := by omega
      have cell : ∀ c, c < 64 → wr.cell? ⟨b, o + c, none⟩ = some (.int .u8 (ShaM.at' l c : Nat)) := fun c hc => (hb.out.cell (p := ⟨b, o + c, none⟩) hB).trans (HR.out c hc)
      have Q0 := hid (cell c0 (by omega))
      have Q1 := hid (cell c1 (by omega))
      have Q2 := hid (cell c2 (by omega))
      have Q3 := hid (cell c3 (by omega))
      have l0 := HB.out c0
      have l1 := HB.out c1
      have l2 := HB.out c2
      have l3 := HB.out c3
      have hw := word_sum (ShaM.at' l) i
      rw [← hc1, ← hc2, ← hc3, ← hc0] at hw
      generalize ShaM.at' l c0 = b0 at *
      generalize ShaM.at' l c1 = b1 at *
      generalize ShaM.at' l c2 = b2 at *
      generalize ShaM.at' l c3 = b3 at *
      have HFT := hid (first_take (ShaM.at' l) hlt)
      obtain ⟨W, hW⟩ : ∃ W, W = ShaM.word (ShaM.at' l) i := ⟨_, rfl⟩
      rw [← hW] at HFT hw
      have HW := hid hw
      clear hW
      clear hc0 hc1 hc2 hc3 cell hw
      go_wp2_with fail
      refine wp_region_tail (C := Drew wr) 33 (by kernel_rfl) (by kernel_rfl) (by kernel_rfl) (Drew.refl _) ?_
      simp only [List.take_succ_cons, List.take_zero, List.drop_succ_cons, List.drop_zero]
      apply wpK_val
      · rfl
      · intro w' hw'
        go_simp
        first | exact rfl | exact ⟨rfl, hw'⟩
      simp only [Act.put, List.setIfInBounds_toArray, List.set_cons_succ, List.set_cons_zero]
      apply wpK_val
      · rfl
      · intro w' hw'
        go_simp
        first | exact rfl | exact ⟨rfl, hw'⟩
      simp only [Act.put, List.setIfInBounds_toArray, List.set_cons_succ, List.set_cons_zero]
      apply wpK_val
      · rfl
      · intro w' hw'
        have h1 : _ := E0.out
        go_simp
        first | exact rfl | exact ⟨rfl, hw'⟩
      simp only [Act.put, List.setIfInBounds_toArray, List.set_cons_succ, List.set_cons_zero]
      apply wpK_val
      · rfl
      · intro w' hw'
        go_simp
        first | exact rfl | exact ⟨rfl, hw'⟩
      simp only [Act.put, List.setIfInBounds_toArray, List.set_cons_succ, List.set_cons_zero]
      apply wpK_val
      · rfl
      · intro w' hw'
        have hcell := hw'.cell Q0.out
        go_simp
        first | exact rfl | exact ⟨rfl, hw'⟩
      simp only [Act.put, List.setIfInBounds_toArray, List.set_cons_succ, List.set_cons_zero]
      apply wpK_val
      · rfl
      · intro w' hw'
        go_simp
        first | exact rfl | exact ⟨rfl, hw'⟩
      simp only [Act.put, List.setIfInBounds_toArray, List.set_cons_succ, List.set_cons_zero]
      apply wpK_val
      · rfl
      · intro w' hw'
        go_simp
        first | exact rfl | exact ⟨rfl, hw'⟩
      simp only [Act.put, List.setIfInBounds_toArray, List.set_cons_succ, List.set_cons_zero]
      apply wpK_val
      · rfl
      · intro w' hw'
        go_simp
        first | exact rfl | exact ⟨rfl, hw'⟩
      simp only [Act.put, List.setIfInBounds_toArray, List.set_cons_succ, List.set_cons_zero]
      apply wpK_val
      · rfl
      · intro w' hw'
        go_simp
        first | exact rfl | exact ⟨rfl, hw'⟩
      simp only [Act.put, List.setIfInBounds_toArray, List.set_cons_succ, List.set_cons_zero]
      apply wpK_val
      · rfl
      · intro w' hw'
        have h1 : _ := E0.out
        go_simp
        first | exact rfl | exact ⟨rfl, hw'⟩
      simp only [Act.put, List.setIfInBounds_toArray, List.set_cons_succ, List.set_cons_zero]
      apply wpK_val
      · rfl
      · intro w' hw'
        have h1 : _ := E1.out
        go_simp
        first | exact rfl | exact ⟨rfl, hw'⟩
      simp only [Act.put, List.setIfInBounds_toArray, List.set_cons_succ, List.set_cons_zero]
      apply wpK_val
      · rfl
      · intro w' hw'
        go_simp
        first | exact rfl | exact ⟨rfl, hw'⟩
      simp only [Act.put, List.setIfInBounds_toArray, List.set_cons_succ, List.set_cons_zero]
      apply wpK_val
      · rfl
      · intro w' hw'
        have hcell := hw'.cell Q1.out
        go_simp
        first | exact rfl | exact ⟨rfl, hw'⟩
      simp only [Act.put, List.setIfInBounds_toArray, List.set_cons_succ, List.set_cons_zero]
      apply wpK_val
      · rfl
      · intro w' hw'
        go_simp
        first | exact rfl | exact ⟨rfl, hw'⟩
      simp only [Act.put, List.setIfInBounds_toArray, List.set_cons_succ, List.set_cons_zero]
      apply wpK_val
      · rfl
      · intro w' hw'
        go_simp
        first | exact rfl | exact ⟨rfl, hw'⟩
      simp only [Act.put, List.setIfInBounds_toArray, List.set_cons_succ, List.set_cons_zero]
      apply wpK_val
      · rfl
      · intro w' hw'
        go_simp
        first | exact rfl | exact ⟨rfl, hw'⟩
      simp only [Act.put, List.setIfInBounds_toArray, List.set_cons_succ, List.set_cons_zero]
      apply wpK_val
      · rfl
      · intro w' hw'
        go_simp
        first | exact rfl | exact ⟨rfl, hw'⟩
      simp only [Act.put, List.setIfInBounds_toArray, List.set_cons_succ, List.set_cons_zero]
      apply wpK_val
      · rfl
      · intro w' hw'
        go_simp
        first | exact rfl | exact ⟨rfl, hw'⟩
      simp only [Act.put, List.setIfInBounds_toArray, List.set_cons_succ, List.set_cons_zero]
      apply wpK_val
      · rfl
      · intro w' hw'
        have h1 : _ := E0.out
        go_simp
        first | exact rfl | exact ⟨rfl, hw'⟩
      simp only [Act.put, List.setIfInBounds_toArray, List.set_cons_succ, List.set_cons_zero]
      apply wpK_val
      · rfl
      · intro w' hw'
        have h1 : _ := E2.out
        go_simp
        first | exact rfl | exact ⟨rfl, hw'⟩
      simp only [Act.put, List.setIfInBounds_toArray, List.set_cons_succ, List.set_cons_zero]
      apply wpK_val
      · rfl
      · intro w' hw'
        go_simp
        first | exact rfl | exact ⟨rfl, hw'⟩
      simp only [Act.put, List.setIfInBounds_toArray, List.set_cons_succ, List.set_cons_zero]
      apply wpK_val
      · rfl
      · intro w' hw'
        have hcell := hw'.cell Q2.out
        go_simp
        first | exact rfl | exact ⟨rfl, hw'⟩
      simp only [Act.put, List.setIfInBounds_toArray, List.set_cons_succ, List.set_cons_zero]
      apply wpK_val
      · rfl
      · intro w' hw'
        go_simp
        first | exact rfl | exact ⟨rfl, hw'⟩
      simp only [Act.put, List.setIfInBounds_toArray, List.set_cons_succ, List.set_cons_zero]
      apply wpK_val
      · rfl
      · intro w' hw'
        go_simp
        first | exact rfl | exact ⟨rfl, hw'⟩
      simp only [Act.put, List.setIfInBounds_toArray, List.set_cons_succ, List.set_cons_zero]
      apply wpK_val
      · rfl
      · intro w' hw'
        go_simp
        first | exact rfl | exact ⟨rfl, hw'⟩
      simp only [Act.put, List.setIfInBounds_toArray, List.set_cons_succ, List.set_cons_zero]
      apply wpK_val
      · rfl
      · intro w' hw'
        go_simp
        first | exact rfl | exact ⟨rfl, hw'⟩
      simp only [Act.put, List.setIfInBounds_toArray, List.set_cons_succ, List.set_cons_zero]
      apply wpK_val
      · rfl
      · intro w' hw'
        go_simp
        first | exact rfl | exact ⟨rfl, hw'⟩
      simp only [Act.put, List.setIfInBounds_toArray, List.set_cons_succ, List.set_cons_zero]
      apply wpK_val
      · rfl
      · intro w' hw'
        have h1 : _ := E0.out
        go_simp
        first | exact rfl | exact ⟨rfl, hw'⟩
      simp only [Act.put, List.setIfInBounds_toArray, List.set_cons_succ, List.set_cons_zero]
      apply wpK_val
      · rfl
      · intro w' hw'
        have h1 : _ := E3.out
        go_simp
        first | exact rfl | exact ⟨rfl, hw'⟩
      simp only [Act.put, List.setIfInBounds_toArray, List.set_cons_succ, List.set_cons_zero]
      apply wpK_val
      · rfl
      · intro w' hw'
        go_simp
        first | exact rfl | exact ⟨rfl, hw'⟩
      simp only [Act.put, List.setIfInBounds_toArray, List.set_cons_succ, List.set_cons_zero]
      apply wpK_val
      · rfl
      · intro w' hw'
        have hcell := hw'.cell Q3.out
        go_simp
        first | exact rfl | exact ⟨rfl, hw'⟩
      simp only [Act.put, List.setIfInBounds_toArray, List.set_cons_succ, List.set_cons_zero]
      apply wpK_val
      · rfl
      · intro w' hw'
        go_simp
        first | exact rfl | exact ⟨rfl, hw'⟩
      simp only [Act.put, List.setIfInBounds_toArray, List.set_cons_succ, List.set_cons_zero]
      apply wpK_val
      · rfl
      · intro w' hw'
        go_simp
        first | exact rfl | exact ⟨rfl, hw'⟩
      simp only [Act.put, List.setIfInBounds_toArray, List.set_cons_succ, List.set_cons_zero]
      refine wpK_nil fun w5 hw5 => ?_
      have o5 := hid (ho.out.heap hw5.heap)
      have b5 := hid (hw5.below hb.out)
      have hsz5 := b5.out.size
      have hlen : ((ShaM.first (ShaM.at' l)).take i).length = i := by rw [List.length_take, ShaM.first_length]; omega
      have HLEN := hid hlen
      clear hw5 hlen Q0 Q1 Q2 Q3
      go_wp2_with (at_builtin; (with_reducible apply wappN elt32); rfl; rfl; exact o5.out.alloc _; exact nums_one (x := W) (B := w5.heap.size + 1) (congrArg (Value.int .u32) (by have := HW.out; omega)) (Nat.lt_succ_self _); rfl; (rw [HLEN.out]; omega); (simp; omega); intro v' w6 o6 g6)
      have b6 := below_grown (b5.out.alloc hsz5 _) g6 o5.out (Nat.le_refl _) (Nat.le_refl _)
      go_roundw
      case rel => exact ⟨i + 1, v', by omega, by go_num, rfl, hid (by rw [HFT.out]; exact o6), hid b6⟩
      case measure => simp [intOf] <;> omega
    · obtain rfl : i = 16 := by omega
      have ho16 := ho.out
      rw [List.take_of_length_le (by rw [ShaM.first_length]; omega)] at ho16
      have O16 := hid ho16
      clear ho16 ho
      obtain ⟨A2, c2, e2, _, _, _⟩ := O16.out.any
      rw [ShaM.first_length] at e2
      subst e2
      rw [show ((16 : Nat) : Int) = (16 : Int) from rfl]
      go_wp2_with fail
      go_loopw [3, 6] (fun u v wr => ∃ (N k : Nat) (A : Option Addr) (cap : Nat), N = 16 + k ∧ k ≤ 48 ∧ v = .int .i64 N ∧ u = .slice A N cap ∧ Hid (Own 103 .u32 wr w.heap.size u (ShaM.ext k (ShaM.first (ShaM.at' l)))) ∧ Hid (Below w.heap.size w wr)) (fun _ v _ => 64 - (intOf v).toNat)
      case atStart => exact ⟨16, 0, A2, c2, rfl, by omega, rfl, rfl, O16, hb⟩
      case round =>
        clear O16 hb hsz
        obtain ⟨N, k, A, cap, hN, hk, rfl, rfl, ho, hb⟩ := hrel
        have hsz := hb.out.size
        by_cases hlt : k < 48
        · have tN : (N : Int) < 64 := by omega
          obtain ⟨j1, hj1⟩ : ∃ j, j = k + 1 := ⟨_, rfl⟩
          obtain ⟨j9, hj9⟩ : ∃ j, j = k + 9 := ⟨_, rfl⟩
          obtain ⟨j14, hj14⟩ : ∃ j, j = k + 14 := ⟨_, rfl⟩
          have E0 := hid (show IntKind.i64.wrap ((N : Int) - 16) = (k : Int) from wr_nat (by omega) (by omega))
          have E1 := hid (show IntKind.i64.wrap ((N : Int) - 15) = (j1 : Int) from wr_nat (by omega) (by omega))
          have E9 := hid (show IntKind.i64.wrap ((N : Int) - 7) = (j9 : Int) from wr_nat (by omega) (by omega))
          have E14 := hid (show IntKind.i64.wrap ((N : Int) - 2) = (j14 : Int) from wr_nat (by omega) (by omega))
          have t0 : (k : Int) < (N : Int) := by omega
          have t1 : (j1 : Int) < (N : Int) := by omega
          have t9 : (j9 : Int) < (N : Int) := by omega
          have t14 : (j14 : Int) < (N : Int) := by omega
          have hlen : (ShaM.ext k (ShaM.first (ShaM.at' l))).length = N := by rw [ShaM.ext_length, ShaM.first_length]; omega
          obtain ⟨A', cap', e1, _, _, hn⟩ := ho.out.any
          rw [hlen] at e1
          simp only [Value.slice.injEq, true_and] at e1
          obtain ⟨rfl, rfl⟩ := e1
          have hnx : ShaM.next (ShaM.ext k (ShaM.first (ShaM.at' l))) (16 + k) = ShaM.add (ShaM.add (ShaM.add ((ShaM.ext k (ShaM.first (ShaM.at' l))).getD k 0) (ShaM.l0 ((ShaM.ext k (ShaM.first (ShaM.at' l))).getD j1 0))) ((ShaM.ext k (ShaM.first (ShaM.at' l))).getD j9 0)) (ShaM.l1 ((ShaM.ext k (ShaM.first (ShaM.at' l))).getD j14 0)) := by
            rw [hj1, hj9, hj14]; exact ShaM.next_upM (ShaM.at' l) k
          have hst := ext_take (ShaM.at' l) k
          have hlt4 : ∀ j, (ShaM.ext k (ShaM.first (ShaM.at' l))).getD j 0 < 4294967296 := fun j => ShaM.upM_lt HB.out k j
          rw [hnx] at hst
          have HST := hid hst
          clear hst hnx
          generalize hM : ShaM.ext k (ShaM.first (ShaM.at' l)) = M at *
          have HM := hid hM
          obtain ⟨b2, o2, rfl, hB2, hr2⟩ := hn (by omega)
          have C0 := hid (hr2 k (by omega))
          have C1 := hid (hr2 j1 (by omega))
          have C9 := hid (hr2 j9 (by omega))
          have C14 := hid (hr2 j14 (by omega))
          have x0 := hlt4 k
          have x1 := hlt4 j1
          have x9 := hlt4 j9
          have x14 := hlt4 j14
          generalize M.getD k 0 = m0 at *
          generalize M.getD j1 0 = m1 at *
          generalize M.getD j9 0 = m9 at *
          generalize M.getD j14 0 = m14 at *
          have HN := hid hN
          have HLEN := hid hlen
          have r7 := ShaM.rr_lt x1 7
          have r18 := ShaM.rr_lt x1 18
          have r17 := ShaM.rr_lt x14 17
          have r19 := ShaM.rr_lt x14 19
          have X1 := hid (xor3 r7 r18)
          obtain ⟨L, hL⟩ : ∃ L, L = ShaM.l0 m1 := ⟨_, rfl⟩
          obtain ⟨R, hRR⟩ : ∃ R, R = ShaM.l1 m14 := ⟨_, rfl⟩
          have hLl : L < 4294967296 := by rw [hL]; exact Nat.xor_lt_two_pow (n := 32) (Nat.xor_lt_two_pow (n := 32) r7 r18) (Nat.lt_of_le_of_lt (Nat.div_le_self _ _) x1)
          have hRl : R < 4294967296 := by rw [hRR]; exact Nat.xor_lt_two_pow (n := 32) (Nat.xor_lt_two_pow (n := 32) r17 r19) (Nat.lt_of_le_of_lt (Nat.div_le_self _ _) x14)
          have X2 : Hid (bits .xor .u32 ((ShaM.rr m1 7 ^^^ ShaM.rr m1 18 : Nat) : Int) ((m1 : Int) / 8) = (L : Int)) := hid (by rw [hL]; exact xor3 (Nat.xor_lt_two_pow (n := 32) r7 r18) (show m1 / 8 < 4294967296 from Nat.lt_of_le_of_lt (Nat.div_le_self _ _) x1))
          have Y1 := hid (xor3 r17 r19)
          have Y2 : Hid (bits .xor .u32 ((ShaM.rr m14 17 ^^^ ShaM.rr m14 19 : Nat) : Int) ((m14 : Int) / 1024) = (R : Int)) := hid (by rw [hRR]; exact xor3 (Nat.xor_lt_two_pow (n := 32) r17 r19) (show m14 / 1024 < 4294967296 from Nat.lt_of_le_of_lt (Nat.div_le_self _ _) x14))
          rw [← hL, ← hRR] at HST
          obtain ⟨s1, hs1⟩ : ∃ s, s = ShaM.add m0 L := ⟨_, rfl⟩
          obtain ⟨s2, hs2⟩ : ∃ s, s = ShaM.add s1 m9 := ⟨_, rfl⟩
          obtain ⟨s3, hs3⟩ : ∃ s, s = ShaM.add s2 R := ⟨_, rfl⟩
          rw [← hs1, ← hs2, ← hs3] at HST
          have S1 : Hid (IntKind.u32.wrap ((m0 : Int) + (L : Int)) = (s1 : Int)) := hid (by rw [hs1]; exact add_wrap _ _)
          have S2 : Hid (IntKind.u32.wrap ((s1 : Int) + (m9 : Int)) = (s2 : Int)) := hid (by rw [hs2]; exact add_wrap _ _)
          have S3 : Hid (IntKind.u32.wrap ((s2 : Int) + (R : Int)) = (s3 : Int)) := hid (by rw [hs3]; exact add_wrap _ _)
          have s1l : s1 < 4294967296 := by rw [hs1]; exact ShaM.add_lt _ _
          have s2l : s2 < 4294967296 := by rw [hs2]; exact ShaM.add_lt _ _
          have s3l : s3 < 4294967296 := by rw [hs3]; exact ShaM.add_lt _ _
          have R7 := hid fun w => rrot_any m1 7 x1 (by omega) (by omega) w
          have R18 := hid fun w => rrot_any m1 18 x1 (by omega) (by omega) w
          have R17 := hid fun w => rrot_any m14 17 x14 (by omega) (by omega) w
          have R19 := hid fun w => rrot_any m14 19 x14 (by omega) (by omega) w
          have R3 := hid fun w => rcut3 m1 x1 w
          have R10 := hid fun w => rcut10 m14 x14 w
          clear hr2 hn hlt4 hj1 hj9 hj14 hN hlen hM r7 r18 r17 r19 hL hRR hs1 hs2 hs3
          go_wp2_with fail
          refine wp_region_tail (C := Drew wr) 20 (by kernel_rfl) (by kernel_rfl) (by kernel_rfl) (Drew.refl _) ?_
          simp only [List.take_succ_cons, List.take_zero, List.drop_succ_cons, List.drop_zero]
          apply wpK_val
          · rfl
          · intro w' hw'
            go_simp
            first | exact rfl | exact ⟨rfl, hw'⟩
          simp only [Act.put, List.setIfInBounds_toArray, List.set_cons_succ, List.set_cons_zero]
          apply wpK_val
          · rfl
          · intro w' hw'
            go_simp
            first | exact rfl | exact ⟨rfl, hw'⟩
          simp only [Act.put, List.setIfInBounds_toArray, List.set_cons_succ, List.set_cons_zero]
          apply wpK_val
          · rfl
          · intro w' hw'
            have h1 : _ := E1.out
            go_simp
            first | exact rfl | exact ⟨rfl, hw'⟩
          simp only [Act.put, List.setIfInBounds_toArray, List.set_cons_succ, List.set_cons_zero]
          apply wpK_val
          · rfl
          · intro w' hw'
            go_simp
            first | exact rfl | exact ⟨rfl, hw'⟩
          simp only [Act.put, List.setIfInBounds_toArray, List.set_cons_succ, List.set_cons_zero]
          apply wpK_val
          · rfl
          · intro w' hw'
            have hcell := hw'.cell C1.out
            go_simp
            first | exact rfl | exact ⟨rfl, hw'⟩
          simp only [Act.put, List.setIfInBounds_toArray, List.set_cons_succ, List.set_cons_zero]
          apply wpK_val
          · rfl
          · intro w' hw'
            go_simp
            exact (R7.out _).mono fun e w'' ⟨he, hb''⟩ => ⟨he, hb'' ▸ hw'⟩
          simp only [Act.put, List.setIfInBounds_toArray, List.set_cons_succ, List.set_cons_zero]
          apply wpK_val
          · rfl
          · intro w' hw'
            go_simp
            first | exact rfl | exact ⟨rfl, hw'⟩
          simp only [Act.put, List.setIfInBounds_toArray, List.set_cons_succ, List.set_cons_zero]
          apply wpK_val
          · rfl
          · intro w' hw'
            go_simp
            first | exact rfl | exact ⟨rfl, hw'⟩
          simp only [Act.put, List.setIfInBounds_toArray, List.set_cons_succ, List.set_cons_zero]
          apply wpK_val
          · rfl
          · intro w' hw'
            have h1 : _ := E1.out
            go_simp
            first | exact rfl | exact ⟨rfl, hw'⟩
          simp only [Act.put, List.setIfInBounds_toArray, List.set_cons_succ, List.set_cons_zero]
          apply wpK_val
          · rfl
          · intro w' hw'
            go_simp
            first | exact rfl | exact ⟨rfl, hw'⟩
          simp only [Act.put, List.setIfInBounds_toArray, List.set_cons_succ, List.set_cons_zero]
          apply wpK_val
          · rfl
          · intro w' hw'
            have hcell := hw'.cell C1.out
            go_simp
            first | exact rfl | exact ⟨rfl, hw'⟩
          simp only [Act.put, List.setIfInBounds_toArray, List.set_cons_succ, List.set_cons_zero]
          apply wpK_val
          · rfl
          · intro w' hw'
            go_simp
            exact (R18.out _).mono fun e w'' ⟨he, hb''⟩ => ⟨he, hb'' ▸ hw'⟩
          simp only [Act.put, List.setIfInBounds_toArray, List.set_cons_succ, List.set_cons_zero]
          apply wpK_val
          · rfl
          · intro w' hw'
            have h1 : _ := X1.out
            go_simp
            first | exact rfl | exact ⟨rfl, hw'⟩
          simp only [Act.put, List.setIfInBounds_toArray, List.set_cons_succ, List.set_cons_zero]
          apply wpK_val
          · rfl
          · intro w' hw'
            go_simp
            first | exact rfl | exact ⟨rfl, hw'⟩
          simp only [Act.put, List.setIfInBounds_toArray, List.set_cons_succ, List.set_cons_zero]
          apply wpK_val
          · rfl
          · intro w' hw'
            go_simp
            first | exact rfl | exact ⟨rfl, hw'⟩
          simp only [Act.put, List.setIfInBounds_toArray, List.set_cons_succ, List.set_cons_zero]
          apply wpK_val
          · rfl
          · intro w' hw'
            have h1 : _ := E1.out
            go_simp
            first | exact rfl | exact ⟨rfl, hw'⟩
          simp only [Act.put, List.setIfInBounds_toArray, List.set_cons_succ, List.set_cons_zero]
          apply wpK_val
          · rfl
          · intro w' hw'
            go_simp
            first | exact rfl | exact ⟨rfl, hw'⟩
          simp only [Act.put, List.setIfInBounds_toArray, List.set_cons_succ, List.set_cons_zero]
          apply wpK_val
          · rfl
          · intro w' hw'
            have hcell := hw'.cell C1.out
            go_simp
            first | exact rfl | exact ⟨rfl, hw'⟩
          simp only [Act.put, List.setIfInBounds_toArray, List.set_cons_succ, List.set_cons_zero]
          apply wpK_val
          · rfl
          · intro w' hw'
            go_simp
            exact (R3.out _).mono fun e w'' ⟨he, hb''⟩ => ⟨he, hb'' ▸ hw'⟩
          simp only [Act.put, List.setIfInBounds_toArray, List.set_cons_succ, List.set_cons_zero]
          apply wpK_val
          · rfl
          · intro w' hw'
            have h1 : _ := X2.out
            go_simp
            first | exact rfl | exact ⟨rfl, hw'⟩
          simp only [Act.put, List.setIfInBounds_toArray, List.set_cons_succ, List.set_cons_zero]
          refine wpK_nil fun w5 hw5 => ?_
          go_wp2_with fail
          refine wp_region_tail (C := Drew wr) 20 (by kernel_rfl) (by kernel_rfl) (by kernel_rfl) (hw5.trans (Drew.refl _)) ?_
          simp only [List.take_succ_cons, List.take_zero, List.drop_succ_cons, List.drop_zero]
          apply wpK_val
          · rfl
          · intro w' hw'
            go_simp
            first | exact rfl | exact ⟨rfl, hw'⟩
          simp only [Act.put, List.setIfInBounds_toArray, List.set_cons_succ, List.set_cons_zero]
          apply wpK_val
          · rfl
          · intro w' hw'
            go_simp
            first | exact rfl | exact ⟨rfl, hw'⟩
          simp only [Act.put, List.setIfInBounds_toArray, List.set_cons_succ, List.set_cons_zero]
          apply wpK_val
          · rfl
          · intro w' hw'
            have h1 : _ := E14.out
            go_simp
            first | exact rfl | exact ⟨rfl, hw'⟩
          simp only [Act.put, List.setIfInBounds_toArray, List.set_cons_succ, List.set_cons_zero]
          apply wpK_val
          · rfl
          · intro w' hw'
            go_simp
            first | exact rfl | exact ⟨rfl, hw'⟩
          simp only [Act.put, List.setIfInBounds_toArray, List.set_cons_succ, List.set_cons_zero]
          apply wpK_val
          · rfl
          · intro w' hw'
            have hcell := hw'.cell C14.out
            go_simp
            first | exact rfl | exact ⟨rfl, hw'⟩
          simp only [Act.put, List.setIfInBounds_toArray, List.set_cons_succ, List.set_cons_zero]
          apply wpK_val
          · rfl
          · intro w' hw'
            go_simp
            exact (R17.out _).mono fun e w'' ⟨he, hb''⟩ => ⟨he, hb'' ▸ hw'⟩
          simp only [Act.put, List.setIfInBounds_toArray, List.set_cons_succ, List.set_cons_zero]
          apply wpK_val
          · rfl
          · intro w' hw'
            go_simp
            first | exact rfl | exact ⟨rfl, hw'⟩
          simp only [Act.put, List.setIfInBounds_toArray, List.set_cons_succ, List.set_cons_zero]
          apply wpK_val
          · rfl
          · intro w' hw'
            go_simp
            first | exact rfl | exact ⟨rfl, hw'⟩
          simp only [Act.put, List.setIfInBounds_toArray, List.set_cons_succ, List.set_cons_zero]
          apply wpK_val
          · rfl
          · intro w' hw'
            have h1 : _ := E14.out
            go_simp
            first | exact rfl | exact ⟨rfl, hw'⟩
          simp only [Act.put, List.setIfInBounds_toArray, List.set_cons_succ, List.set_cons_zero]
          apply wpK_val
          · rfl
          · intro w' hw'
            go_simp
            first | exact rfl | exact ⟨rfl, hw'⟩
          simp only [Act.put, List.setIfInBounds_toArray, List.set_cons_succ, List.set_cons_zero]
          apply wpK_val
          · rfl
          · intro w' hw'
            have hcell := hw'.cell C14.out
            go_simp
            first | exact rfl | exact ⟨rfl, hw'⟩
          simp only [Act.put, List.setIfInBounds_toArray, List.set_cons_succ, List.set_cons_zero]
          apply wpK_val
          · rfl
          · intro w' hw'
            go_simp
            exact (R19.out _).mono fun e w'' ⟨he, hb''⟩ => ⟨he, hb'' ▸ hw'⟩
          simp only [Act.put, List.setIfInBounds_toArray, List.set_cons_succ, List.set_cons_zero]
          apply wpK_val
          · rfl
          · intro w' hw'
            have h1 : _ := Y1.out
            go_simp
            first | exact rfl | exact ⟨rfl, hw'⟩
          simp only [Act.put, List.setIfInBounds_toArray, List.set_cons_succ, List.set_cons_zero]
          apply wpK_val
          · rfl
          · intro w' hw'
            go_simp
            first | exact rfl | exact ⟨rfl, hw'⟩
          simp only [Act.put, List.setIfInBounds_toArray, List.set_cons_succ, List.set_cons_zero]
          apply wpK_val
          · rfl
          · intro w' hw'
            go_simp
            first | exact rfl | exact ⟨rfl, hw'⟩
          simp only [Act.put, List.setIfInBounds_toArray, List.set_cons_succ, List.set_cons_zero]
          apply wpK_val
          · rfl
          · intro w' hw'
            have h1 : _ := E14.out
            go_simp
            first | exact rfl | exact ⟨rfl, hw'⟩
          simp only [Act.put, List.setIfInBounds_toArray, List.set_cons_succ, List.set_cons_zero]
          apply wpK_val
          · rfl
          · intro w' hw'
            go_simp
            first | exact rfl | exact ⟨rfl, hw'⟩
          simp only [Act.put, List.setIfInBounds_toArray, List.set_cons_succ, List.set_cons_zero]
          apply wpK_val
          · rfl
          · intro w' hw'
            have hcell := hw'.cell C14.out
            go_simp
            first | exact rfl | exact ⟨rfl, hw'⟩
          simp only [Act.put, List.setIfInBounds_toArray, List.set_cons_succ, List.set_cons_zero]
          apply wpK_val
          · rfl
          · intro w' hw'
            go_simp
            exact (R10.out _).mono fun e w'' ⟨he, hb''⟩ => ⟨he, hb'' ▸ hw'⟩
          simp only [Act.put, List.setIfInBounds_toArray, List.set_cons_succ, List.set_cons_zero]
          apply wpK_val
          · rfl
          · intro w' hw'
            have h1 : _ := Y2.out
            go_simp
            first | exact rfl | exact ⟨rfl, hw'⟩
          simp only [Act.put, List.setIfInBounds_toArray, List.set_cons_succ, List.set_cons_zero]
          refine wpK_nil fun w6 hw6 => ?_
          clear hw5
          go_wp2_with fail
          have hz6 := hw6.heap
          have C0' := hid (hw6.cell C0.out)
          have C9' := hid (hw6.cell C9.out)
          have hB6 : b2 < w6.heap.size := by rw [hz6]; exact hB2
          refine wp_region_put (C := Put w6 (.cells #[.int .u32 (s3 : Nat)] 103)) 16 17 (by omega) (by kernel_rfl) (by kernel_rfl) (by kernel_rfl) (Drew.refl _) ?_
          simp only [List.take_succ_cons, List.take_zero, List.drop_succ_cons, List.drop_zero]
          apply wpS_val
          · decide
          · rfl
          · intro bb w' hw'
            go_simp
            first | exact rfl | exact ⟨rfl, hw'⟩
          simp only [Act.put, List.setIfInBounds_toArray, List.set_cons_succ, List.set_cons_zero]
          apply wpS_val
          · decide
          · rfl
          · intro bb w' hw'
            go_simp
            first | exact rfl | exact ⟨rfl, hw'⟩
          simp only [Act.put, List.setIfInBounds_toArray, List.set_cons_succ, List.set_cons_zero]
          apply wpS_val
          · decide
          · rfl
          · intro bb w' hw'
            go_simp
            first | exact rfl | exact ⟨rfl, hw'⟩
          simp only [Act.put, List.setIfInBounds_toArray, List.set_cons_succ, List.set_cons_zero]
          apply wpS_val
          · decide
          · rfl
          · intro bb w' hw'
            have h1 : _ := E0.out
            go_simp
            first | exact rfl | exact ⟨rfl, hw'⟩
          simp only [Act.put, List.setIfInBounds_toArray, List.set_cons_succ, List.set_cons_zero]
          apply wpS_val
          · decide
          · rfl
          · intro bb w' hw'
            go_simp
            first | exact rfl | exact ⟨rfl, hw'⟩
          simp only [Act.put, List.setIfInBounds_toArray, List.set_cons_succ, List.set_cons_zero]
          apply wpS_val
          · decide
          · rfl
          · intro bb w' hw'
            have hcell : _ := hw'.cell hB6 C0'.out
            go_simp
            first | exact rfl | exact ⟨rfl, hw'⟩
          simp only [Act.put, List.setIfInBounds_toArray, List.set_cons_succ, List.set_cons_zero]
          apply wpS_val
          · decide
          · rfl
          · intro bb w' hw'
            go_simp
            first | exact rfl | exact ⟨rfl, hw'⟩
          simp only [Act.put, List.setIfInBounds_toArray, List.set_cons_succ, List.set_cons_zero]
          apply wpS_val
          · decide
          · rfl
          · intro bb w' hw'
            have h1 : _ := S1.out
            go_simp
            first | exact rfl | exact ⟨rfl, hw'⟩
          simp only [Act.put, List.setIfInBounds_toArray, List.set_cons_succ, List.set_cons_zero]
          apply wpS_val
          · decide
          · rfl
          · intro bb w' hw'
            go_simp
            first | exact rfl | exact ⟨rfl, hw'⟩
          simp only [Act.put, List.setIfInBounds_toArray, List.set_cons_succ, List.set_cons_zero]
          apply wpS_val
          · decide
          · rfl
          · intro bb w' hw'
            go_simp
            first | exact rfl | exact ⟨rfl, hw'⟩
          simp only [Act.put, List.setIfInBounds_toArray, List.set_cons_succ, List.set_cons_zero]
          apply wpS_val
          · decide
          · rfl
          · intro bb w' hw'
            have h1 : _ := E9.out
            go_simp
            first | exact rfl | exact ⟨rfl, hw'⟩
          simp only [Act.put, List.setIfInBounds_toArray, List.set_cons_succ, List.set_cons_zero]
          apply wpS_val
          · decide
          · rfl
          · intro bb w' hw'
            go_simp
            first | exact rfl | exact ⟨rfl, hw'⟩
          simp only [Act.put, List.setIfInBounds_toArray, List.set_cons_succ, List.set_cons_zero]
          apply wpS_val
          · decide
          · rfl
          · intro bb w' hw'
            have hcell : _ := hw'.cell hB6 C9'.out
            go_simp
            first | exact rfl | exact ⟨rfl, hw'⟩
          simp only [Act.put, List.setIfInBounds_toArray, List.set_cons_succ, List.set_cons_zero]
          apply wpS_val
          · decide
          · rfl
          · intro bb w' hw'
            have h1 : _ := S2.out
            go_simp
            first | exact rfl | exact ⟨rfl, hw'⟩
          simp only [Act.put, List.setIfInBounds_toArray, List.set_cons_succ, List.set_cons_zero]
          apply wpS_val
          · decide
          · rfl
          · intro bb w' hw'
            go_simp
            first | exact rfl | exact ⟨rfl, hw'⟩
          simp only [Act.put, List.setIfInBounds_toArray, List.set_cons_succ, List.set_cons_zero]
          apply wpS_val
          · decide
          · rfl
          · intro bb w' hw'
            have h1 : _ := S3.out
            go_simp
            first | exact rfl | exact ⟨rfl, hw'⟩
          simp only [Act.put, List.setIfInBounds_toArray, List.set_cons_succ, List.set_cons_zero]
          apply wpS_put
          · rfl
          · rfl
          · intro w' hw'
            have hw2 : Drew w6 w' := hw'
            have hz := hw2.heap
            go_simp
            exact ⟨rfl, w', hw2, rfl⟩
          simp only [Act.put, List.setIfInBounds_toArray, List.set_cons_succ, List.set_cons_zero]
          refine wpS_nil fun w8 hw8 => ?_
          obtain ⟨w7, h7, rfl⟩ := hw8
          have hz7 : wr.heap.size = w7.heap.size := by rw [h7.heap, hz6]
          have o7 := hid (ho.out.heap (by rw [h7.heap, hz6]))
          have b7 := hid (h7.below (hw6.below hb.out))
          have HZ7 := hid hz7
          clear hw6 h7 hz6 hB6 C0' C9' hz7 S1 S2 S3 X1 X2 Y1 Y2
          go_wp2_with (at_builtin; (with_reducible apply wappN elt32); rfl; rfl; exact o7.out.alloc _; exact nums_one' (x := s3) (B := w7.heap.size + 1) rfl HZ7.out (Nat.lt_succ_self _); rfl; (rw [HLEN.out]; omega); (simp; have := HZ7.out; omega); intro v' w9 o9 g9)
          have b9 := below_grown (b7.out.alloc (by have := HZ7.out; omega) (.cells #[.int .u32 (s3 : Nat)] 103)) g9 o7.out (Nat.le_refl _) (Nat.le_refl _)
          obtain ⟨A3, c3, e3, _, _, _⟩ := o9.any
          rw [List.length_append, HLEN.out, List.length_singleton] at e3
          subst e3
          go_roundw
          case rel => exact ⟨N + 1, k + 1, A3, c3, by have := HN.out; omega, by omega, by go_num, rfl, hid (by rw [HST.out]; exact o9), hid b9⟩
          case measure => simp [intOf] <;> omega
        · obtain rfl : k = 48 := by omega
          have tN : decide ((N : Int) < 64) = false := by simp; omega
          have hfin := hid (ho.out.fresh hb.out)
          clear ho
          go_wp2_with fail
          go_ret
          exact hfin.out
end Go.Proofs.YtdmnhpgafbcehaaDoor
set_option maxRecDepth 100000
namespace Go.Proofs.YtdmnhpgafbcehaaDoor
open Go.ChangeShapes Go.WideShapes Go.ChangeAt Go.RowKit
attribute [local go_sem] Gives
/-- The eight numbers. -/
def lst8 (s : ShaM.S8) : List Nat := [s.a, s.b, s.c, s.d, s.e, s.f, s.g, s.h]
theorem lst8_get (s : ShaM.S8) {j : Nat} (h : j < 8) : (lst8 s).getD j 0 = s.get j := by
  match j, h with
  | 0, _ | 1, _ | 2, _ | 3, _ | 4, _ | 5, _ | 6, _ | 7, _ => rfl
theorem nums_lit8 {w : World} {t : TypeId} {n : Nat} {x0 x1 x2 x3 x4 x5 x6 x7 : Nat} {B : Nat} (hn : n = w.heap.size) (hB : w.heap.size < B) :
    Nums .u32 (w.alloc (.cells #[.int .u32 (x0 : Nat), .int .u32 (x1 : Nat), .int .u32 (x2 : Nat), .int .u32 (x3 : Nat), .int .u32 (x4 : Nat), .int .u32 (x5 : Nat), .int .u32 (x6 : Nat), .int .u32 (x7 : Nat)] t)) B (some ⟨n, 0, none⟩) [x0, x1, x2, x3, x4, x5, x6, x7] := by
  subst hn
  refine Nums.row (Blk.top (t := t) rfl rfl) hB fun j hj => ?_
  match j, hj with
  | 0, _ | 1, _ | 2, _ | 3, _ | 4, _ | 5, _ | 6, _ | 7, _ => rfl
set_option maxHeartbeats 2000000 in
set_option maxRecDepth 100000 in
theorem rpass_any (s : ShaM.S8) (hs : s.ok) (A0 : Option Addr) (cap0 : Nat) (A : Option Addr) (l : List Nat) (cap : Nat) (hl : l.length = 64) (h256 : ∀ k, ShaM.at' l k < 256) (A9 : Option Addr) (cap9 : Nat) (w : World)
    (h0 : Nums .u32 w w.heap.size A0 (lst8 s)) (hA : Byt w w.heap.size A l) (h9 : Nums .u32 w w.heap.size A9 ShaM.salts) :
    Calls Tryd.prog 63 #[.slice A0 8 cap0, .slice A 64 cap, .slice A9 64 cap9] w fun e w' => Fresh .u32 w w' e (lst8 (ShaM.pass s (ShaM.at' l))) := by
  obtain ⟨b9, o9, rfl, hB9, hr9⟩ := h9 (by show 0 < 64; omega)
  obtain ⟨b0, o0, rfl, hB0, hr0⟩ := h0 (by show 0 < 8; omega)
  have HS := hid hs
  have HR9 := hid hr9
  have HR0 := hid hr0
  have HB := hid h256
  have M := message_any A l cap hl h256 w hA
  have hml := ShaM.sched_length (ShaM.at' l)
  have hmlt := fun i => ShaM.sched_lt HB.out i
  have hfin : ShaM.pass s (ShaM.at' l) = ShaM.addS (ShaM.steps (ShaM.sched (ShaM.at' l)) 64 s) s := rfl
  rw [hfin]
  clear hfin
  generalize ShaM.sched (ShaM.at' l) = m at *
  unfold Fresh at M
  rw [hml] at M
  have HMLT := hid hmlt
  have HML := hid hml
  have MM := hid M
  clear h0 hA h9 hr9 hr0 hs h256 hmlt hml M
  go_enter Tryd.func63, Tryd.ntmps63
  go_wp2_with fail
  refine MM.out.mono ?_
  rintro e w1 ⟨Am, cm, rfl, _, _, hm, hb1⟩
  obtain ⟨bm, om, rfl, hBm, hrm⟩ := hm (by rw [HML.out]; omega)
  have HRM := hid hrm
  have HB1 := hid hb1
  clear hrm hb1 hm MM
  have N0 : Nums .u32 w1 w1.heap.size (some ⟨b0, o0, none⟩) (lst8 s) := fun _ => ⟨b0, o0, rfl, Nat.lt_of_lt_of_le hB0 HB1.out.size, fun i hi => (HB1.out.cell (p := ⟨b0, o0 + i, none⟩) hB0).trans (HR0.out i hi)⟩
  have HN0 := hid N0
  clear N0
  go_wp2_with fail
  go_loopw [8, 9] (fun u v wr => ∃ (i : Nat) (An : Option Addr) (cn : Nat), i ≤ 64 ∧ v = .int .i64 i ∧ u = .slice An 8 cn ∧ Hid (Nums .u32 wr wr.heap.size An (lst8 (ShaM.steps m i s))) ∧ Hid (Below w1.heap.size w1 wr)) (fun _ v _ => 64 - (intOf v).toNat)
  case atStart => exact ⟨0, _, _, by omega, rfl, rfl, HN0, hid (Below.refl _ _)⟩
  case round =>
    obtain ⟨i, An, cn, hi, rfl, rfl, hn, hb⟩ := hrel
    clear HN0
    by_cases hlt : i < 64
    · have ti : (i : Int) < 64 := by omega
      obtain ⟨bn, on, rfl, hBn, hrn⟩ := hn.out (by show 0 < 8; omega)
      have hTok := ShaM.steps_ok m HS.out i
      have hstep : ShaM.steps m (i + 1) s = ShaM.step (ShaM.steps m i s) (ShaM.add (ShaM.saltAt i) (m.getD i 0)) := rfl
      have HSTEP := hid hstep
      clear hstep
      generalize hT : ShaM.steps m i s = T at *
      clear hT
      have hk := ShaM.salt_lt i
      have hmm := HMLT.out i
      have k9 : wr.cell? ⟨b9, o9 + i, none⟩ = some (.int .u32 (ShaM.saltAt i : Nat)) := (hb.out.cell (p := ⟨b9, o9 + i, none⟩) (Nat.lt_of_lt_of_le hB9 HB1.out.size)).trans ((HB1.out.cell (p := ⟨b9, o9 + i, none⟩) hB9).trans (HR9.out i hlt))
      have km : wr.cell? ⟨bm, om + i, none⟩ = some (.int .u32 (m.getD i 0 : Nat)) := (hb.out.cell (p := ⟨bm, om + i, none⟩) hBm).trans (HRM.out i (by rw [HML.out]; exact hlt))
      have hp := ShaM.pOf_sum T (ShaM.saltAt i) (m.getD i 0)
      have hq := ShaM.qOf_sum T
      have hst : ShaM.step T (ShaM.add (ShaM.saltAt i) (m.getD i 0)) = ⟨ShaM.add (ShaM.pOf T (ShaM.add (ShaM.saltAt i) (m.getD i 0))) (ShaM.qOf T), T.a, T.b, T.c, ShaM.add T.d (ShaM.pOf T (ShaM.add (ShaM.saltAt i) (m.getD i 0))), T.e, T.f, T.g⟩ := rfl
      rw [hst] at HSTEP
      generalize ShaM.pOf T (ShaM.add (ShaM.saltAt i) (m.getD i 0)) = P at *
      generalize ShaM.qOf T = Q at *
      generalize ShaM.saltAt i = kk at *
      generalize m.getD i 0 = mm at *
      obtain ⟨la, lb, lc, ld, le', lf, lg, lh⟩ := hTok
      have K0 := hid (hrn 0 (by show 0 < 8; omega))
      have K1 := hid (hrn 1 (by show 1 < 8; omega))
      have K2 := hid (hrn 2 (by show 2 < 8; omega))
      have K3 := hid (hrn 3 (by show 3 < 8; omega))
      have K4 := hid (hrn 4 (by show 4 < 8; omega))
      have K5 := hid (hrn 5 (by show 5 < 8; omega))
      have K6 := hid (hrn 6 (by show 6 < 8; omega))
      have K7 := hid (hrn 7 (by show 7 < 8; omega))
      obtain ⟨a, b, c, d, e, f, g, h⟩ := T
      simp only [lst8, List.getD_cons_zero, List.getD_cons_succ, Nat.add_zero] at K0 K1 K2 K3 K4 K5 K6 K7
      simp only [] at la lb lc ld le' lf lg lh hp hq HSTEP
      have K9 := hid k9
      have KM := hid km
      clear hrn k9 km hn hst
      have r6 := ShaM.rr_lt le' 6
      have r11 := ShaM.rr_lt le' 11
      have r25 := ShaM.rr_lt le' 25
      have r2 := ShaM.rr_lt la 2
      have r13 := ShaM.rr_lt la 13
      have r22 := ShaM.rr_lt la 22
      have c6 := hid fun w => rrot_any e 6 le' (by omega) (by omega) w
      have c11 := hid fun w => rrot_any e 11 le' (by omega) (by omega) w
      have c25 := hid fun w => rrot_any e 25 le' (by omega) (by omega) w
      have c2 := hid fun w => rrot_any a 2 la (by omega) (by omega) w
      have c13 := hid fun w => rrot_any a 13 la (by omega) (by omega) w
      have c22 := hid fun w => rrot_any a 22 la (by omega) (by omega) w
      have cc := hid fun w => chosen_any e f g le' lf lg w
      have ct := hid fun w => two_any a b c la lb lc w
      have lch := ShaM.chN_lt (e := e) lf lg
      have ltw := ShaM.twN_lt (a := a) lb lc
      obtain ⟨z1, hz1⟩ : ∃ z, z = ShaM.rr e 6 ^^^ ShaM.rr e 11 := ⟨_, rfl⟩
      obtain ⟨z2, hz2⟩ : ∃ z, z = z1 ^^^ ShaM.rr e 25 := ⟨_, rfl⟩
      obtain ⟨y1, hy1⟩ : ∃ z, z = ShaM.rr a 2 ^^^ ShaM.rr a 13 := ⟨_, rfl⟩
      obtain ⟨y2, hy2⟩ : ∃ z, z = y1 ^^^ ShaM.rr a 22 := ⟨_, rfl⟩
      have lz1 : z1 < 4294967296 := by rw [hz1]; exact Nat.xor_lt_two_pow (n := 32) r6 r11
      have ly1 : y1 < 4294967296 := by rw [hy1]; exact Nat.xor_lt_two_pow (n := 32) r2 r13
      have lz2 : z2 < 4294967296 := by rw [hz2]; exact Nat.xor_lt_two_pow (n := 32) lz1 r25
      have ly2 : y2 < 4294967296 := by rw [hy2]; exact Nat.xor_lt_two_pow (n := 32) ly1 r22
      have X1 : Hid (bits .xor .u32 ((ShaM.rr e 6 : Nat) : Int) ((ShaM.rr e 11 : Nat) : Int) = (z1 : Int)) := hid (by rw [hz1]; exact xor3 r6 r11)
      have X2 : Hid (bits .xor .u32 (z1 : Int) ((ShaM.rr e 25 : Nat) : Int) = (z2 : Int)) := hid (by rw [hz2]; exact xor3 lz1 r25)
      have Y1 : Hid (bits .xor .u32 ((ShaM.rr a 2 : Nat) : Int) ((ShaM.rr a 13 : Nat) : Int) = (y1 : Int)) := hid (by rw [hy1]; exact xor3 r2 r13)
      have Y2 : Hid (bits .xor .u32 (y1 : Int) ((ShaM.rr a 22 : Nat) : Int) = (y2 : Int)) := hid (by rw [hy2]; exact xor3 ly1 r22)
      rw [← hz1, ← hz2] at hp
      rw [← hy1, ← hy2] at hq
      generalize ShaM.chN e f g = ch at *
      generalize ShaM.twN a b c = tw at *
      obtain ⟨P1, hP1⟩ : ∃ z, z = ShaM.add h z2 := ⟨_, rfl⟩
      obtain ⟨P2, hP2⟩ : ∃ z, z = ShaM.add P1 ch := ⟨_, rfl⟩
      obtain ⟨P3, hP3⟩ : ∃ z, z = ShaM.add P2 kk := ⟨_, rfl⟩
      rw [← hP1, ← hP2, ← hP3] at hp
      have lP1 : P1 < 4294967296 := by rw [hP1]; exact ShaM.add_lt _ _
      have lP2 : P2 < 4294967296 := by rw [hP2]; exact ShaM.add_lt _ _
      have lP3 : P3 < 4294967296 := by rw [hP3]; exact ShaM.add_lt _ _
      have lP : P < 4294967296 := by rw [hp]; exact ShaM.add_lt _ _
      have lQ : Q < 4294967296 := by rw [hq]; exact ShaM.add_lt _ _
      have S1 : Hid (IntKind.u32.wrap ((h : Int) + (z2 : Int)) = (P1 : Int)) := hid (by rw [hP1]; exact add_wrap _ _)
      have S2 : Hid (IntKind.u32.wrap ((P1 : Int) + (ch : Int)) = (P2 : Int)) := hid (by rw [hP2]; exact add_wrap _ _)
      have S3 : Hid (IntKind.u32.wrap ((P2 : Int) + (kk : Int)) = (P3 : Int)) := hid (by rw [hP3]; exact add_wrap _ _)
      have S4 : Hid (IntKind.u32.wrap ((P3 : Int) + (mm : Int)) = (P : Int)) := hid (by rw [hp]; exact add_wrap _ _)
      have U1 : Hid (IntKind.u32.wrap ((y2 : Int) + (tw : Int)) = (Q : Int)) := hid (by rw [hq]; exact add_wrap _ _)
      obtain ⟨PQ, hPQ⟩ : ∃ z, z = ShaM.add P Q := ⟨_, rfl⟩
      obtain ⟨dP, hdP⟩ : ∃ z, z = ShaM.add d P := ⟨_, rfl⟩
      rw [← hPQ, ← hdP] at HSTEP
      have V1 : Hid (IntKind.u32.wrap ((P : Int) + (Q : Int)) = (PQ : Int)) := hid (by rw [hPQ]; exact add_wrap _ _)
      have V2 : Hid (IntKind.u32.wrap ((d : Int) + (P : Int)) = (dP : Int)) := hid (by rw [hdP]; exact add_wrap _ _)
      clear hp hq hz1 hz2 hy1 hy2 hP1 hP2 hP3 hPQ hdP r6 r11 r25 r2 r13 r22
      have k4 := K4.out
      go_wp2_with fail
      clear k4
      refine wp_region_tail (C := Drew wr) 31 (by kernel_rfl) (by kernel_rfl) (by kernel_rfl) (Drew.refl _) ?_
      simp only [List.take_succ_cons, List.take_zero, List.drop_succ_cons, List.drop_zero]
      apply wpK_val
      · rfl
      · intro w' hw'
        go_simp
        first | exact rfl | exact ⟨rfl, hw'⟩
      simp only [Act.put, List.setIfInBounds_toArray, List.set_cons_succ, List.set_cons_zero]
      apply wpK_val
      · rfl
      · intro w' hw'
        go_simp
        first | exact rfl | exact ⟨rfl, hw'⟩
      simp only [Act.put, List.setIfInBounds_toArray, List.set_cons_succ, List.set_cons_zero]
      apply wpK_val
      · rfl
      · intro w' hw'
        have hcell := hw'.cell K7.out
        go_simp
        first | exact rfl | exact ⟨rfl, hw'⟩
      simp only [Act.put, List.setIfInBounds_toArray, List.set_cons_succ, List.set_cons_zero]
      apply wpK_val
      · rfl
      · intro w' hw'
        go_simp
        first | exact rfl | exact ⟨rfl, hw'⟩
      simp only [Act.put, List.setIfInBounds_toArray, List.set_cons_succ, List.set_cons_zero]
      apply wpK_val
      · rfl
      · intro w' hw'
        go_simp
        exact (c6.out _).mono fun e w'' ⟨he, hb''⟩ => ⟨he, hb'' ▸ hw'⟩
      simp only [Act.put, List.setIfInBounds_toArray, List.set_cons_succ, List.set_cons_zero]
      apply wpK_val
      · rfl
      · intro w' hw'
        go_simp
        first | exact rfl | exact ⟨rfl, hw'⟩
      simp only [Act.put, List.setIfInBounds_toArray, List.set_cons_succ, List.set_cons_zero]
      apply wpK_val
      · rfl
      · intro w' hw'
        go_simp
        exact (c11.out _).mono fun e w'' ⟨he, hb''⟩ => ⟨he, hb'' ▸ hw'⟩
      simp only [Act.put, List.setIfInBounds_toArray, List.set_cons_succ, List.set_cons_zero]
      apply wpK_val
      · rfl
      · intro w' hw'
        have h1 : _ := X1.out
        go_simp
        first | exact rfl | exact ⟨rfl, hw'⟩
      simp only [Act.put, List.setIfInBounds_toArray, List.set_cons_succ, List.set_cons_zero]
      apply wpK_val
      · rfl
      · intro w' hw'
        go_simp
        first | exact rfl | exact ⟨rfl, hw'⟩
      simp only [Act.put, List.setIfInBounds_toArray, List.set_cons_succ, List.set_cons_zero]
      apply wpK_val
      · rfl
      · intro w' hw'
        go_simp
        exact (c25.out _).mono fun e w'' ⟨he, hb''⟩ => ⟨he, hb'' ▸ hw'⟩
      simp only [Act.put, List.setIfInBounds_toArray, List.set_cons_succ, List.set_cons_zero]
      apply wpK_val
      · rfl
      · intro w' hw'
        have h1 : _ := X2.out
        go_simp
        first | exact rfl | exact ⟨rfl, hw'⟩
      simp only [Act.put, List.setIfInBounds_toArray, List.set_cons_succ, List.set_cons_zero]
      apply wpK_val
      · rfl
      · intro w' hw'
        have h1 : _ := S1.out
        go_simp
        first | exact rfl | exact ⟨rfl, hw'⟩
      simp only [Act.put, List.setIfInBounds_toArray, List.set_cons_succ, List.set_cons_zero]
      apply wpK_val
      · rfl
      · intro w' hw'
        go_simp
        first | exact rfl | exact ⟨rfl, hw'⟩
      simp only [Act.put, List.setIfInBounds_toArray, List.set_cons_succ, List.set_cons_zero]
      apply wpK_val
      · rfl
      · intro w' hw'
        go_simp
        first | exact rfl | exact ⟨rfl, hw'⟩
      simp only [Act.put, List.setIfInBounds_toArray, List.set_cons_succ, List.set_cons_zero]
      apply wpK_val
      · rfl
      · intro w' hw'
        go_simp
        first | exact rfl | exact ⟨rfl, hw'⟩
      simp only [Act.put, List.setIfInBounds_toArray, List.set_cons_succ, List.set_cons_zero]
      apply wpK_val
      · rfl
      · intro w' hw'
        have hcell := hw'.cell K5.out
        go_simp
        first | exact rfl | exact ⟨rfl, hw'⟩
      simp only [Act.put, List.setIfInBounds_toArray, List.set_cons_succ, List.set_cons_zero]
      apply wpK_val
      · rfl
      · intro w' hw'
        go_simp
        first | exact rfl | exact ⟨rfl, hw'⟩
      simp only [Act.put, List.setIfInBounds_toArray, List.set_cons_succ, List.set_cons_zero]
      apply wpK_val
      · rfl
      · intro w' hw'
        go_simp
        first | exact rfl | exact ⟨rfl, hw'⟩
      simp only [Act.put, List.setIfInBounds_toArray, List.set_cons_succ, List.set_cons_zero]
      apply wpK_val
      · rfl
      · intro w' hw'
        have hcell := hw'.cell K6.out
        go_simp
        first | exact rfl | exact ⟨rfl, hw'⟩
      simp only [Act.put, List.setIfInBounds_toArray, List.set_cons_succ, List.set_cons_zero]
      apply wpK_val
      · rfl
      · intro w' hw'
        go_simp
        exact (cc.out _).mono fun e w'' ⟨he, hb''⟩ => ⟨he, hb'' ▸ hw'⟩
      simp only [Act.put, List.setIfInBounds_toArray, List.set_cons_succ, List.set_cons_zero]
      apply wpK_val
      · rfl
      · intro w' hw'
        have h1 : _ := S2.out
        go_simp
        first | exact rfl | exact ⟨rfl, hw'⟩
      simp only [Act.put, List.setIfInBounds_toArray, List.set_cons_succ, List.set_cons_zero]
      apply wpK_val
      · rfl
      · intro w' hw'
        go_simp
        first | exact rfl | exact ⟨rfl, hw'⟩
      simp only [Act.put, List.setIfInBounds_toArray, List.set_cons_succ, List.set_cons_zero]
      apply wpK_val
      · rfl
      · intro w' hw'
        go_simp
        first | exact rfl | exact ⟨rfl, hw'⟩
      simp only [Act.put, List.setIfInBounds_toArray, List.set_cons_succ, List.set_cons_zero]
      apply wpK_val
      · rfl
      · intro w' hw'
        go_simp
        first | exact rfl | exact ⟨rfl, hw'⟩
      simp only [Act.put, List.setIfInBounds_toArray, List.set_cons_succ, List.set_cons_zero]
      apply wpK_val
      · rfl
      · intro w' hw'
        have hcell := hw'.cell K9.out
        go_simp
        first | exact rfl | exact ⟨rfl, hw'⟩
      simp only [Act.put, List.setIfInBounds_toArray, List.set_cons_succ, List.set_cons_zero]
      apply wpK_val
      · rfl
      · intro w' hw'
        have h1 : _ := S3.out
        go_simp
        first | exact rfl | exact ⟨rfl, hw'⟩
      simp only [Act.put, List.setIfInBounds_toArray, List.set_cons_succ, List.set_cons_zero]
      apply wpK_val
      · rfl
      · intro w' hw'
        go_simp
        first | exact rfl | exact ⟨rfl, hw'⟩
      simp only [Act.put, List.setIfInBounds_toArray, List.set_cons_succ, List.set_cons_zero]
      apply wpK_val
      · rfl
      · intro w' hw'
        go_simp
        first | exact rfl | exact ⟨rfl, hw'⟩
      simp only [Act.put, List.setIfInBounds_toArray, List.set_cons_succ, List.set_cons_zero]
      apply wpK_val
      · rfl
      · intro w' hw'
        go_simp
        first | exact rfl | exact ⟨rfl, hw'⟩
      simp only [Act.put, List.setIfInBounds_toArray, List.set_cons_succ, List.set_cons_zero]
      apply wpK_val
      · rfl
      · intro w' hw'
        have hcell := hw'.cell KM.out
        go_simp
        first | exact rfl | exact ⟨rfl, hw'⟩
      simp only [Act.put, List.setIfInBounds_toArray, List.set_cons_succ, List.set_cons_zero]
      apply wpK_val
      · rfl
      · intro w' hw'
        have h1 : _ := S4.out
        go_simp
        first | exact rfl | exact ⟨rfl, hw'⟩
      simp only [Act.put, List.setIfInBounds_toArray, List.set_cons_succ, List.set_cons_zero]
      refine wpK_nil fun w5 hw5 => ?_
      go_wp2_with fail
      refine wp_region_tail (C := Drew wr) 25 (by kernel_rfl) (by kernel_rfl) (by kernel_rfl) (hw5.trans (Drew.refl _)) ?_
      simp only [List.take_succ_cons, List.take_zero, List.drop_succ_cons, List.drop_zero]
      apply wpK_val
      · rfl
      · intro w' hw'
        go_simp
        first | exact rfl | exact ⟨rfl, hw'⟩
      simp only [Act.put, List.setIfInBounds_toArray, List.set_cons_succ, List.set_cons_zero]
      apply wpK_val
      · rfl
      · intro w' hw'
        go_simp
        first | exact rfl | exact ⟨rfl, hw'⟩
      simp only [Act.put, List.setIfInBounds_toArray, List.set_cons_succ, List.set_cons_zero]
      apply wpK_val
      · rfl
      · intro w' hw'
        have hcell := hw'.cell K0.out
        go_simp
        first | exact rfl | exact ⟨rfl, hw'⟩
      simp only [Act.put, List.setIfInBounds_toArray, List.set_cons_succ, List.set_cons_zero]
      apply wpK_val
      · rfl
      · intro w' hw'
        go_simp
        exact (c2.out _).mono fun e w'' ⟨he, hb''⟩ => ⟨he, hb'' ▸ hw'⟩
      simp only [Act.put, List.setIfInBounds_toArray, List.set_cons_succ, List.set_cons_zero]
      apply wpK_val
      · rfl
      · intro w' hw'
        go_simp
        first | exact rfl | exact ⟨rfl, hw'⟩
      simp only [Act.put, List.setIfInBounds_toArray, List.set_cons_succ, List.set_cons_zero]
      apply wpK_val
      · rfl
      · intro w' hw'
        go_simp
        first | exact rfl | exact ⟨rfl, hw'⟩
      simp only [Act.put, List.setIfInBounds_toArray, List.set_cons_succ, List.set_cons_zero]
      apply wpK_val
      · rfl
      · intro w' hw'
        have hcell := hw'.cell K0.out
        go_simp
        first | exact rfl | exact ⟨rfl, hw'⟩
      simp only [Act.put, List.setIfInBounds_toArray, List.set_cons_succ, List.set_cons_zero]
      apply wpK_val
      · rfl
      · intro w' hw'
        go_simp
        exact (c13.out _).mono fun e w'' ⟨he, hb''⟩ => ⟨he, hb'' ▸ hw'⟩
      simp only [Act.put, List.setIfInBounds_toArray, List.set_cons_succ, List.set_cons_zero]
      apply wpK_val
      · rfl
      · intro w' hw'
        have h1 : _ := Y1.out
        go_simp
        first | exact rfl | exact ⟨rfl, hw'⟩
      simp only [Act.put, List.setIfInBounds_toArray, List.set_cons_succ, List.set_cons_zero]
      apply wpK_val
      · rfl
      · intro w' hw'
        go_simp
        first | exact rfl | exact ⟨rfl, hw'⟩
      simp only [Act.put, List.setIfInBounds_toArray, List.set_cons_succ, List.set_cons_zero]
      apply wpK_val
      · rfl
      · intro w' hw'
        go_simp
        first | exact rfl | exact ⟨rfl, hw'⟩
      simp only [Act.put, List.setIfInBounds_toArray, List.set_cons_succ, List.set_cons_zero]
      apply wpK_val
      · rfl
      · intro w' hw'
        have hcell := hw'.cell K0.out
        go_simp
        first | exact rfl | exact ⟨rfl, hw'⟩
      simp only [Act.put, List.setIfInBounds_toArray, List.set_cons_succ, List.set_cons_zero]
      apply wpK_val
      · rfl
      · intro w' hw'
        go_simp
        exact (c22.out _).mono fun e w'' ⟨he, hb''⟩ => ⟨he, hb'' ▸ hw'⟩
      simp only [Act.put, List.setIfInBounds_toArray, List.set_cons_succ, List.set_cons_zero]
      apply wpK_val
      · rfl
      · intro w' hw'
        have h1 : _ := Y2.out
        go_simp
        first | exact rfl | exact ⟨rfl, hw'⟩
      simp only [Act.put, List.setIfInBounds_toArray, List.set_cons_succ, List.set_cons_zero]
      apply wpK_val
      · rfl
      · intro w' hw'
        go_simp
        first | exact rfl | exact ⟨rfl, hw'⟩
      simp only [Act.put, List.setIfInBounds_toArray, List.set_cons_succ, List.set_cons_zero]
      apply wpK_val
      · rfl
      · intro w' hw'
        go_simp
        first | exact rfl | exact ⟨rfl, hw'⟩
      simp only [Act.put, List.setIfInBounds_toArray, List.set_cons_succ, List.set_cons_zero]
      apply wpK_val
      · rfl
      · intro w' hw'
        have hcell := hw'.cell K0.out
        go_simp
        first | exact rfl | exact ⟨rfl, hw'⟩
      simp only [Act.put, List.setIfInBounds_toArray, List.set_cons_succ, List.set_cons_zero]
      apply wpK_val
      · rfl
      · intro w' hw'
        go_simp
        first | exact rfl | exact ⟨rfl, hw'⟩
      simp only [Act.put, List.setIfInBounds_toArray, List.set_cons_succ, List.set_cons_zero]
      apply wpK_val
      · rfl
      · intro w' hw'
        go_simp
        first | exact rfl | exact ⟨rfl, hw'⟩
      simp only [Act.put, List.setIfInBounds_toArray, List.set_cons_succ, List.set_cons_zero]
      apply wpK_val
      · rfl
      · intro w' hw'
        have hcell := hw'.cell K1.out
        go_simp
        first | exact rfl | exact ⟨rfl, hw'⟩
      simp only [Act.put, List.setIfInBounds_toArray, List.set_cons_succ, List.set_cons_zero]
      apply wpK_val
      · rfl
      · intro w' hw'
        go_simp
        first | exact rfl | exact ⟨rfl, hw'⟩
      simp only [Act.put, List.setIfInBounds_toArray, List.set_cons_succ, List.set_cons_zero]
      apply wpK_val
      · rfl
      · intro w' hw'
        go_simp
        first | exact rfl | exact ⟨rfl, hw'⟩
      simp only [Act.put, List.setIfInBounds_toArray, List.set_cons_succ, List.set_cons_zero]
      apply wpK_val
      · rfl
      · intro w' hw'
        have hcell := hw'.cell K2.out
        go_simp
        first | exact rfl | exact ⟨rfl, hw'⟩
      simp only [Act.put, List.setIfInBounds_toArray, List.set_cons_succ, List.set_cons_zero]
      apply wpK_val
      · rfl
      · intro w' hw'
        go_simp
        exact (ct.out _).mono fun e w'' ⟨he, hb''⟩ => ⟨he, hb'' ▸ hw'⟩
      simp only [Act.put, List.setIfInBounds_toArray, List.set_cons_succ, List.set_cons_zero]
      apply wpK_val
      · rfl
      · intro w' hw'
        have h1 : _ := U1.out
        go_simp
        first | exact rfl | exact ⟨rfl, hw'⟩
      simp only [Act.put, List.setIfInBounds_toArray, List.set_cons_succ, List.set_cons_zero]
      refine wpK_nil fun w6 hw6 => ?_
      clear hw5
      go_wp2_with fail
      refine wp_region_tail (C := Drew wr) 26 (by kernel_rfl) (by kernel_rfl) (by kernel_rfl) (hw6.trans (Drew.refl _)) ?_
      simp only [List.take_succ_cons, List.take_zero, List.drop_succ_cons, List.drop_zero]
      apply wpK_val
      · rfl
      · intro w' hw'
        go_simp
        first | exact rfl | exact ⟨rfl, hw'⟩
      simp only [Act.put, List.setIfInBounds_toArray, List.set_cons_succ, List.set_cons_zero]
      apply wpK_val
      · rfl
      · intro w' hw'
        go_simp
        first | exact rfl | exact ⟨rfl, hw'⟩
      simp only [Act.put, List.setIfInBounds_toArray, List.set_cons_succ, List.set_cons_zero]
      apply wpK_val
      · rfl
      · intro w' hw'
        have h1 : _ := V1.out
        go_simp
        first | exact rfl | exact ⟨rfl, hw'⟩
      simp only [Act.put, List.setIfInBounds_toArray, List.set_cons_succ, List.set_cons_zero]
      apply wpK_val
      · rfl
      · intro w' hw'
        go_simp
        first | exact rfl | exact ⟨rfl, hw'⟩
      simp only [Act.put, List.setIfInBounds_toArray, List.set_cons_succ, List.set_cons_zero]
      apply wpK_val
      · rfl
      · intro w' hw'
        go_simp
        first | exact rfl | exact ⟨rfl, hw'⟩
      simp only [Act.put, List.setIfInBounds_toArray, List.set_cons_succ, List.set_cons_zero]
      apply wpK_val
      · rfl
      · intro w' hw'
        have hcell := hw'.cell K0.out
        go_simp
        first | exact rfl | exact ⟨rfl, hw'⟩
      simp only [Act.put, List.setIfInBounds_toArray, List.set_cons_succ, List.set_cons_zero]
      apply wpK_val
      · rfl
      · intro w' hw'
        go_simp
        first | exact rfl | exact ⟨rfl, hw'⟩
      simp only [Act.put, List.setIfInBounds_toArray, List.set_cons_succ, List.set_cons_zero]
      apply wpK_val
      · rfl
      · intro w' hw'
        go_simp
        first | exact rfl | exact ⟨rfl, hw'⟩
      simp only [Act.put, List.setIfInBounds_toArray, List.set_cons_succ, List.set_cons_zero]
      apply wpK_val
      · rfl
      · intro w' hw'
        have hcell := hw'.cell K1.out
        go_simp
        first | exact rfl | exact ⟨rfl, hw'⟩
      simp only [Act.put, List.setIfInBounds_toArray, List.set_cons_succ, List.set_cons_zero]
      apply wpK_val
      · rfl
      · intro w' hw'
        go_simp
        first | exact rfl | exact ⟨rfl, hw'⟩
      simp only [Act.put, List.setIfInBounds_toArray, List.set_cons_succ, List.set_cons_zero]
      apply wpK_val
      · rfl
      · intro w' hw'
        go_simp
        first | exact rfl | exact ⟨rfl, hw'⟩
      simp only [Act.put, List.setIfInBounds_toArray, List.set_cons_succ, List.set_cons_zero]
      apply wpK_val
      · rfl
      · intro w' hw'
        have hcell := hw'.cell K2.out
        go_simp
        first | exact rfl | exact ⟨rfl, hw'⟩
      simp only [Act.put, List.setIfInBounds_toArray, List.set_cons_succ, List.set_cons_zero]
      apply wpK_val
      · rfl
      · intro w' hw'
        go_simp
        first | exact rfl | exact ⟨rfl, hw'⟩
      simp only [Act.put, List.setIfInBounds_toArray, List.set_cons_succ, List.set_cons_zero]
      apply wpK_val
      · rfl
      · intro w' hw'
        go_simp
        first | exact rfl | exact ⟨rfl, hw'⟩
      simp only [Act.put, List.setIfInBounds_toArray, List.set_cons_succ, List.set_cons_zero]
      apply wpK_val
      · rfl
      · intro w' hw'
        have hcell := hw'.cell K3.out
        go_simp
        first | exact rfl | exact ⟨rfl, hw'⟩
      simp only [Act.put, List.setIfInBounds_toArray, List.set_cons_succ, List.set_cons_zero]
      apply wpK_val
      · rfl
      · intro w' hw'
        go_simp
        first | exact rfl | exact ⟨rfl, hw'⟩
      simp only [Act.put, List.setIfInBounds_toArray, List.set_cons_succ, List.set_cons_zero]
      apply wpK_val
      · rfl
      · intro w' hw'
        have h1 : _ := V2.out
        go_simp
        first | exact rfl | exact ⟨rfl, hw'⟩
      simp only [Act.put, List.setIfInBounds_toArray, List.set_cons_succ, List.set_cons_zero]
      apply wpK_val
      · rfl
      · intro w' hw'
        go_simp
        first | exact rfl | exact ⟨rfl, hw'⟩
      simp only [Act.put, List.setIfInBounds_toArray, List.set_cons_succ, List.set_cons_zero]
      apply wpK_val
      · rfl
      · intro w' hw'
        go_simp
        first | exact rfl | exact ⟨rfl, hw'⟩
      simp only [Act.put, List.setIfInBounds_toArray, List.set_cons_succ, List.set_cons_zero]
      apply wpK_val
      · rfl
      · intro w' hw'
        have hcell := hw'.cell K4.out
        go_simp
        first | exact rfl | exact ⟨rfl, hw'⟩
      simp only [Act.put, List.setIfInBounds_toArray, List.set_cons_succ, List.set_cons_zero]
      apply wpK_val
      · rfl
      · intro w' hw'
        go_simp
        first | exact rfl | exact ⟨rfl, hw'⟩
      simp only [Act.put, List.setIfInBounds_toArray, List.set_cons_succ, List.set_cons_zero]
      apply wpK_val
      · rfl
      · intro w' hw'
        go_simp
        first | exact rfl | exact ⟨rfl, hw'⟩
      simp only [Act.put, List.setIfInBounds_toArray, List.set_cons_succ, List.set_cons_zero]
      apply wpK_val
      · rfl
      · intro w' hw'
        have hcell := hw'.cell K5.out
        go_simp
        first | exact rfl | exact ⟨rfl, hw'⟩
      simp only [Act.put, List.setIfInBounds_toArray, List.set_cons_succ, List.set_cons_zero]
      apply wpK_val
      · rfl
      · intro w' hw'
        go_simp
        first | exact rfl | exact ⟨rfl, hw'⟩
      simp only [Act.put, List.setIfInBounds_toArray, List.set_cons_succ, List.set_cons_zero]
      apply wpK_val
      · rfl
      · intro w' hw'
        go_simp
        first | exact rfl | exact ⟨rfl, hw'⟩
      simp only [Act.put, List.setIfInBounds_toArray, List.set_cons_succ, List.set_cons_zero]
      apply wpK_val
      · rfl
      · intro w' hw'
        have hcell := hw'.cell K6.out
        go_simp
        first | exact rfl | exact ⟨rfl, hw'⟩
      simp only [Act.put, List.setIfInBounds_toArray, List.set_cons_succ, List.set_cons_zero]
      refine wpK_nil fun w7 hw7 => ?_
      have hb7 := hw7.below hb.out
      have hsz := hb7.size
      clear hw6
      go_wp2_with fail
      go_roundw
      case rel =>
        exact ⟨i + 1, some ⟨w7.heap.size, 0, none⟩, 8, by omega, by go_num, rfl, hid (by rw [HSTEP.out]; exact nums_lit8 rfl (by simp)), hid (hb7.alloc hsz _)⟩
      case measure => simp [intOf] <;> omega
    · obtain rfl : i = 64 := by omega
      rw [show ((64 : Nat) : Int) = (64 : Int) from rfl]
      obtain ⟨bn, on, rfl, hBn, hrn⟩ := hn.out (by show 0 < 8; omega)
      have hTok := ShaM.steps_ok m HS.out 64
      generalize hTE : ShaM.steps m 64 s = T at *
      have HTE := hid hTE
      clear hTE
      obtain ⟨w2, hw2⟩ : ∃ w2, w2 = wr := ⟨_, rfl⟩
      subst hw2
      have HRN := hid hrn
      have HT := hid hTok
      have hb2 := HB1.out.trans (hb.out.mono HB1.out.size)
      have HB2 := hid hb2
      have cb0 : b0 < w2.heap.size := Nat.lt_of_lt_of_le hB0 hb2.size
      have C0 : Hid (∀ j, j < 8 → w2.cell? ⟨b0, o0 + j, none⟩ = some (.int .u32 (s.get j : Nat))) := hid fun j hj => by
        rw [← lst8_get s hj]
        exact (hb2.cell (p := ⟨b0, o0 + j, none⟩) hB0).trans (HR0.out j hj)
      have CN : Hid (∀ j, j < 8 → w2.cell? ⟨bn, on + j, none⟩ = some (.int .u32 (T.get j : Nat))) := hid fun j hj => by
        rw [← lst8_get T hj]
        exact HRN.out j hj
      clear hrn hn hTok hb2 hb HRN
      go_wp2_with fail
      go_loopw [13, 14] (fun u v wr => ∃ (i : Nat) (vo : Value), i ≤ 8 ∧ v = .int .i64 i ∧ u = vo ∧ Hid (Own 103 .u32 wr w2.heap.size vo ((lst8 (ShaM.addS T s)).take i)) ∧ Hid (Below w2.heap.size w2 wr)) (fun _ v _ => 8 - (intOf v).toNat)
      case atStart => exact ⟨0, _, by omega, rfl, rfl, hid Own.nil, hid (Below.refl _ _)⟩
      case round =>
        obtain ⟨i, vo, hi, rfl, rfl, ho, hb⟩ := hrel
        by_cases hlt : i < 8
        · have ti : (i : Int) < 8 := by omega
          have x1 := ShaM.S8.get_lt HT.out i
          have x2 := ShaM.S8.get_lt HS.out i
          have Q1 := hid ((hb.out.cell (p := ⟨bn, on + i, none⟩) hBn).trans (CN.out i hlt))
          have Q2 := hid ((hb.out.cell (p := ⟨b0, o0 + i, none⟩) cb0).trans (C0.out i hlt))
          have hst : (lst8 (ShaM.addS T s)).take (i + 1) = (lst8 (ShaM.addS T s)).take i ++ [ShaM.add (T.get i) (s.get i)] := by
            have hl8 : i < (lst8 (ShaM.addS T s)).length := hlt
            rw [List.take_succ_eq_append_getElem hl8, ← nums_at hl8, lst8_get _ hlt, ShaM.addS_get _ _ hlt]
          have HST := hid hst
          have hlen : ((lst8 (ShaM.addS T s)).take i).length = i := by rw [List.length_take]; show min i 8 = i; omega
          have HLEN := hid hlen
          clear hst hlen
          generalize T.get i = u1 at *
          generalize s.get i = u2 at *
          obtain ⟨u3, hu3⟩ : ∃ z, z = ShaM.add u1 u2 := ⟨_, rfl⟩
          rw [← hu3] at HST
          have S1 : Hid (IntKind.u32.wrap ((u1 : Int) + (u2 : Int)) = (u3 : Int)) := hid (by rw [hu3]; exact add_wrap _ _)
          have u3l : u3 < 4294967296 := by rw [hu3]; exact ShaM.add_lt _ _
          have hBn' : bn < wr.heap.size := Nat.lt_of_lt_of_le hBn hb.out.size
          have hB0' : b0 < wr.heap.size := Nat.lt_of_lt_of_le cb0 hb.out.size
          have hszw := hb.out.size
          clear hu3
          go_wp2_with fail
          refine wp_region_put (C := Put wr (.cells #[.int .u32 (u3 : Nat)] 103)) 10 11 (by omega) (by kernel_rfl) (by kernel_rfl) (by kernel_rfl) (Drew.refl _) ?_
          simp only [List.take_succ_cons, List.take_zero, List.drop_succ_cons, List.drop_zero]
          apply wpS_val
          · decide
          · rfl
          · intro bb w' hw'
            go_simp
            first | exact rfl | exact ⟨rfl, hw'⟩
          simp only [Act.put, List.setIfInBounds_toArray, List.set_cons_succ, List.set_cons_zero]
          apply wpS_val
          · decide
          · rfl
          · intro bb w' hw'
            go_simp
            first | exact rfl | exact ⟨rfl, hw'⟩
          simp only [Act.put, List.setIfInBounds_toArray, List.set_cons_succ, List.set_cons_zero]
          apply wpS_val
          · decide
          · rfl
          · intro bb w' hw'
            go_simp
            first | exact rfl | exact ⟨rfl, hw'⟩
          simp only [Act.put, List.setIfInBounds_toArray, List.set_cons_succ, List.set_cons_zero]
          apply wpS_val
          · decide
          · rfl
          · intro bb w' hw'
            go_simp
            first | exact rfl | exact ⟨rfl, hw'⟩
          simp only [Act.put, List.setIfInBounds_toArray, List.set_cons_succ, List.set_cons_zero]
          apply wpS_val
          · decide
          · rfl
          · intro bb w' hw'
            have hcell : _ := hw'.cell hBn' Q1.out
            go_simp
            first | exact rfl | exact ⟨rfl, hw'⟩
          simp only [Act.put, List.setIfInBounds_toArray, List.set_cons_succ, List.set_cons_zero]
          apply wpS_val
          · decide
          · rfl
          · intro bb w' hw'
            go_simp
            first | exact rfl | exact ⟨rfl, hw'⟩
          simp only [Act.put, List.setIfInBounds_toArray, List.set_cons_succ, List.set_cons_zero]
          apply wpS_val
          · decide
          · rfl
          · intro bb w' hw'
            go_simp
            first | exact rfl | exact ⟨rfl, hw'⟩
          simp only [Act.put, List.setIfInBounds_toArray, List.set_cons_succ, List.set_cons_zero]
          apply wpS_val
          · decide
          · rfl
          · intro bb w' hw'
            go_simp
            first | exact rfl | exact ⟨rfl, hw'⟩
          simp only [Act.put, List.setIfInBounds_toArray, List.set_cons_succ, List.set_cons_zero]
          apply wpS_val
          · decide
          · rfl
          · intro bb w' hw'
            have hcell : _ := hw'.cell hB0' Q2.out
            go_simp
            first | exact rfl | exact ⟨rfl, hw'⟩
          simp only [Act.put, List.setIfInBounds_toArray, List.set_cons_succ, List.set_cons_zero]
          apply wpS_val
          · decide
          · rfl
          · intro bb w' hw'
            have h1 : _ := S1.out
            go_simp
            first | exact rfl | exact ⟨rfl, hw'⟩
          simp only [Act.put, List.setIfInBounds_toArray, List.set_cons_succ, List.set_cons_zero]
          apply wpS_put
          · rfl
          · rfl
          · intro w' hw'
            have hw3 : Drew wr w' := hw'
            have hz := hw3.heap
            go_simp
            exact ⟨rfl, w', hw3, rfl⟩
          simp only [Act.put, List.setIfInBounds_toArray, List.set_cons_succ, List.set_cons_zero]
          refine wpS_nil fun w8 hw8 => ?_
          obtain ⟨w7, h7, rfl⟩ := hw8
          have hz7 : wr.heap.size = w7.heap.size := by rw [h7.heap]
          have o7 := hid (ho.out.heap h7.heap)
          have b7 := hid (h7.below hb.out)
          have HZ7 := hid hz7
          clear h7 hz7 S1 Q1 Q2 hBn' hB0'
          go_wp2_with (at_builtin; (with_reducible apply wappN elt32); rfl; rfl; exact o7.out.alloc _; exact nums_one' (x := u3) (B := w7.heap.size + 1) rfl HZ7.out (Nat.lt_succ_self _); rfl; (rw [HLEN.out]; omega); (simp; have := HZ7.out; omega); intro v' w9 o9 g9)
          have b9 := below_grown (b7.out.alloc (by have := HZ7.out; omega) (.cells #[.int .u32 (u3 : Nat)] 103)) g9 o7.out (Nat.le_refl _) (Nat.le_refl _)
          go_roundw
          case rel => exact ⟨i + 1, v', by omega, by go_num, rfl, hid (by rw [HST.out]; exact o9), hid b9⟩
          case measure => simp [intOf] <;> omega
        · obtain rfl : i = 8 := by omega
          have ho8 := ho.out
          rw [show (lst8 (ShaM.addS T s)).take 8 = lst8 (ShaM.addS T s) from rfl] at ho8
          have hfin := hid (ho8.fresh (HB2.out.trans (hb.out.mono HB2.out.size)))
          clear ho ho8
          go_wp2_with fail
          go_ret
          have hf := hfin.out
          rw [← HTE.out] at hf
          exact hf
end Go.Proofs.YtdmnhpgafbcehaaDoor
set_option maxRecDepth 100000
namespace Go.Proofs.YtdmnhpgafbcehaaDoor
section
variable {P : Program} {ops : Array Oper}
def upB (d : Nat → Bool) (k : Nat) : Nat → Bool := fun j => if j = k then true else d j
/-- The operations in the order of the text, the k-th first; st tells which of them write. -/
def wpM (P : Program) (ops : Array Oper) (st : Nat → Bool) (D : (Nat → Bool) → World → Prop) (Q : Act → Prop) : Nat → List Oper → Act → Prop
  | _, [], a => Q a
  | k, o :: rest, a => ∃ v, ((Region.wanted o (yielded ops a.tmps) = true ∧ ((st k = true ∧ ∀ d w, d k = false → D d w → Gives P o a w v (D (upB d k))) ∨ (st k = false ∧ ∀ d w, D d w → Gives P o a w v (D d)))) ∨
      (Region.wanted o (yielded ops a.tmps) = false ∧ st k = false ∧ v = undef)) ∧ wpM P ops st D Q (k + 1) rest (a.put o.dst v)
section
variable {D : (Nat → Bool) → World → Prop} {Qk : Act → Prop} {o : Oper} {rest : List Oper} {a : Act} {v : Value} {k : Nat} {st : Nat → Bool}
theorem wpM_nil (h : Qk a) : wpM P ops st D Qk k [] a := h
theorem wpM_val (hk : st k = false) (hw : Region.wanted o (yielded ops a.tmps) = true) (h1 : ∀ d w, D d w → Gives P o a w v (D d)) (h2 : wpM P ops st D Qk (k + 1) rest (a.put o.dst v)) : wpM P ops st D Qk k (o :: rest) a :=
  ⟨v, .inl ⟨hw, .inr ⟨hk, h1⟩⟩, h2⟩
theorem wpM_put (hk : st k = true) (hw : Region.wanted o (yielded ops a.tmps) = true) (h1 : ∀ d w, d k = false → D d w → Gives P o a w v (D (upB d k))) (h2 : wpM P ops st D Qk (k + 1) rest (a.put o.dst v)) : wpM P ops st D Qk k (o :: rest) a :=
  ⟨v, .inl ⟨hw, .inl ⟨hk, h1⟩⟩, h2⟩
end
theorem wpM_vals {st : Nat → Bool} {D : (Nat → Bool) → World → Prop} {Qk : Act → Prop} : ∀ (l : List Oper) (k : Nat) (a : Act), wpM P ops st D Qk k l a → ∃ vals : Nat → Value, Qk (lexF l vals l.length a) ∧
    ∀ i o, l[i]? = some o → ((Region.wanted o (yielded ops (lexF l vals i a).tmps) = true ∧ ((st (k + i) = true ∧ ∀ d w, d (k + i) = false → D d w → Gives P o (lexF l vals i a) w (vals i) (D (upB d (k + i)))) ∨ (st (k + i) = false ∧ ∀ d w, D d w → Gives P o (lexF l vals i a) w (vals i) (D d)))) ∨
      (Region.wanted o (yielded ops (lexF l vals i a).tmps) = false ∧ st (k + i) = false ∧ vals i = undef))
  | [], _, a, h => ⟨fun _ => undef, h, fun i o hi => by simp at hi⟩
  | o :: l, k, a, h => by
    obtain ⟨v, h1, h2⟩ := h
    obtain ⟨vals, hq, hs⟩ := wpM_vals l (k + 1) _ h2
    refine ⟨fun j => match j with | 0 => v | j + 1 => vals j, ?_, fun i o' hi => ?_⟩
    · rw [List.length_cons, lexF_cons]; exact hq
    · cases i with
      | zero =>
        simp only [List.getElem?_cons_zero, Option.some.injEq] at hi
        subst hi
        exact h1
      | succ i =>
        rw [lexF_cons, show k + (i + 1) = k + 1 + i by omega]
        exact hs i o' (by simpa using hi)
theorem gives_imp {o : Oper} {a : Act} {w : World} {v : Value} {R R' : World → Prop} (h : Gives P o a w v R) (hr : ∀ w', R w' → R' w') : Gives P o a w v R' := by
  unfold Gives at *
  generalize (execOp a.eval o).run P w = r at *
  cases r with
  | ok n w' =>
    cases n <;> simp only at h ⊢
    case value u => exact ⟨h.1, hr _ h.2⟩
    case skip => exact ⟨h.1, hr _ h.2⟩
    case enter f args => exact h.mono fun e w'' ⟨he, hR⟩ => ⟨he, hr _ hR⟩
  | halt x w' => exact h
theorem wp_region_set {id : Nat} {Q : Exit → Act → World → Prop} {D : (Nat → Bool) → World → Prop} {a : Act} {w : World} {l : List Oper} (st : Nat → Bool) (n : Nat) (hst : ∀ j, st j = true → j < n) (hm : P.follows .mixedOrders = true) (ht : tidy l.toArray = true) (hB : tailB l.toArray n = true)
    (hirr : ∀ d d' w, (∀ j, st j = true → d j = d' j) → D d w → D d' w) (hC : D (fun _ => false) w.drew)
    (h : wpM P l.toArray st D (fun a' => ∀ w', D (fun _ => true) w' → wpList P l.toArray Q (l.drop n) a' w') 0 (l.take n) a) : (Code.region id l.toArray true).wp P Q a w := by
  obtain ⟨vals, hq, hs⟩ := wpM_vals _ _ _ h
  refine region_core (Γ := Unit) (C := fun _ L w => D (fun j => L.getD j false) w) n hm ht hB () (hirr _ _ _ (fun j _ => (getD_replicate_false _ j).symm) hC) (fun _ => vals) (fun i o hi γ L w hsz hr hC' => ⟨(), fun _ _ => rfl, ?_⟩)
    (fun _ L w' hall hC' => hq w' (hirr _ _ _ (fun j hj => hall j (hst j hj)) hC'))
  have hun := getD_both (mem_ready.1 hr).1
  have hlt : i < L.size := by
    obtain ⟨o', ho', _⟩ := (mem_ready.1 hr).2
    have := (Array.getElem?_eq_some_iff.1 ho').1
    simp at this; omega
  rcases hs i o hi with ⟨h1, ⟨h2, h3⟩ | ⟨h2, h3⟩⟩ | ⟨h1, h2, h3⟩
  · rw [Nat.zero_add] at h2 h3
    refine .inl ⟨h1, gives_imp (h3 _ w hun hC') fun w' hw' => hirr _ _ _ (fun j _ => ?_) hw'⟩
    unfold upB
    by_cases e : j = i
    · subst e; rw [if_pos rfl]; simp [hlt]
    · rw [if_neg e, getD_set_ne false (Ne.symm e)]
  · rw [Nat.zero_add] at h2
    refine .inl ⟨h1, gives_imp (h3 _ w hC') fun w' hw' => hirr _ _ _ (fun j hj => ?_) hw'⟩
    have e : j ≠ i := fun e => by subst e; rw [h2] at hj; cases hj
    rw [getD_set_ne false (Ne.symm e)]
  · rw [Nat.zero_add] at h2
    refine .inr ⟨h1, h3, hirr _ _ _ (fun j hj => ?_) hC'⟩
    have e : j ≠ i := fun e => by subst e; rw [h2] at hj; cases hj
    rw [getD_set_ne false (Ne.symm e)]
end
end Go.Proofs.YtdmnhpgafbcehaaDoor
