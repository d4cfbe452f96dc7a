/-
  Contracts of the document's own functions of layer 1 (casemateref01) over this translation: each answers what the plain functions of GfMath tell.
-/
import Derived.Test.YtelcpldgamkpfaaGfCalls
import Derived.Test.YtelcpldgamkpfaaRefMath01
namespace Go.Proofs.Ytelcpldgamkpfaa
open Go.ChangeShapes Go.WideShapes Go.ChangeAt Go.RowKit
open GfM (bit)
theorem bit_yes8 {a i : Nat} (ha : a < 256) (h : bit a i = 1) : (bits BinOp.and IntKind.u8 ((a : Int) / 2 ^ i) 1 == 1) = true := bit_yes (u8_bit a i ha) h
theorem bit_no8 {a i : Nat} (ha : a < 256) (h : ¬ bit a i = 1) : (bits BinOp.and IntKind.u8 ((a : Int) / 2 ^ i) 1 == 1) = false := bit_no (u8_bit a i ha) h
theorem nat64 {x : Int} {n : Nat} (e : x = (n : Int)) (h : n < 32768) : wrap64 x = (n : Int) := by
  rw [e]; exact IntWalk.wrap64_in _ ⟨by omega, by omega⟩
theorem pow2_le {e d : Nat} (h : e ≤ d) : 2 ^ e ≤ 2 ^ d := Nat.pow_le_pow_right (by omega) h
theorem pow2_64 (e : Nat) (h : e ≤ 14) : wrap64 (2 ^ e) = ((2 ^ e : Nat) : Int) := by
  have h2 := pow2_le h
  exact nat64 (by simp) (by omega)
theorem pow285_64 (e : Nat) (h : e ≤ 6) : wrap64 (285 * 2 ^ e) = ((285 * 2 ^ e : Nat) : Int) := by
  have h2 := pow2_le h
  exact nat64 (by simp) (by omega)
theorem red_step {i m r : Nat} (h7 : 7 < i) (H : GfM.redGo (i - 7) m = r) : GfM.redGo (i - 1 - 7) (if bit m i = 1 then m ^^^ 285 * 2 ^ (i - 8) else m) = r := by
  rw [show i - 7 = (i - 8) + 1 from by omega, GfM.redGo] at H
  rw [show 8 + (i - 8) = i from by omega] at H
  rw [show i - 1 - 7 = i - 8 from by omega]; exact H
theorem xor15 {m c : Nat} (hm : m < 32768) (hc : c < 32768) : m ^^^ c < 32768 := Nat.xor_lt_two_pow (n := 15) hm hc
theorem inn_step {a b i k m n : Nat} (hk : k < 8) (H : GfM.innGo (8 - k) a b i k m = n) :
    GfM.innGo (8 - (k + 1)) a b i (k + 1) (if bit a i = 1 ∧ bit b k = 1 then m ^^^ 2 ^ (i + k) else m) = n := by
  rw [show 8 - k = (8 - (k + 1)) + 1 from by omega, GfM.innGo] at H; exact H
theorem rmul_any (a b : Nat) (ha : a < 256) (hb : b < 256) (w : World) :
    Calls Try.prog 16 #[.int .u8 a, .int .u8 b] w fun e w' => e = .returned (.int .u8 (GfM.mul a b : Nat)) ∧ w = w' := by
  have HR := hid (GfM.refMul_eq ha hb)
  go_enter Try.func16, Try.ntmps16
  go_wp2_with fail
  go_loop [5, 6] (fun s i => ∃ i' n : Nat, i' ≤ 8 ∧ n < 32768 ∧ s = .int .i64 n ∧ i = .int .i64 i' ∧ Hid (GfM.outGo (8 - i') a b i' n = GfM.outGo 8 a b 0 0)) (fun _ i => 8 - (intOf i).toNat)
  case atStart => exact ⟨0, 0, by omega, by omega, rfl, rfl, rfl⟩
  case round =>
    obtain ⟨i, n, hi, hn, rfl, rfl, H⟩ := hrel
    by_cases hlt : i < 8
    · go_wp2_with fail
      go_loop [5, 7] (fun s k => ∃ k' m : Nat, k' ≤ 8 ∧ m < 32768 ∧ s = .int .i64 m ∧ k = .int .i64 k' ∧ Hid (GfM.innGo (8 - k') a b i k' m = GfM.innGo 8 a b i 0 n)) (fun _ i => 8 - (intOf i).toNat)
      case atStart => exact ⟨0, n, by omega, hn, rfl, rfl, rfl⟩
      case round =>
        obtain ⟨k, m, hk, hm, rfl, rfl, H2⟩ := hrel
        by_cases hklt : k < 8
        · have H3 := hid (inn_step hklt H2.out)
          clear H2
          by_cases c1 : bit a i = 1
          · have t1 := bit_yes8 ha c1
            by_cases c2 : bit b k = 1
            · have t2 := bit_yes8 hb c2
              have H4 := hid (by have h := H3.out; rw [if_pos ⟨c1, c2⟩] at h; exact h)
              have P1 := hid (pow2_64 (i + k) (by omega))
              have hx := xor15 hm (c := 2 ^ (i + k)) (by have : 2 ^ (i + k) ≤ 2 ^ 14 := Nat.pow_le_pow_right (by omega) (by omega); omega)
              have P2 := hid (i64_xor_nat m (2 ^ (i + k)) (by omega) (by have : 2 ^ (i + k) ≤ 2 ^ 14 := Nat.pow_le_pow_right (by omega) (by omega); omega))
              clear c1 c2 H3
              go_wp2_with fail
              go_round
              case rel => exact ⟨k + 1, m ^^^ 2 ^ (i + k), by omega, hx, by rw [P1.out, P2.out], by go_num, H4⟩
              case measure => simp [intOf]; omega
            · have t2 := bit_no8 hb c2
              have H4 := hid (by have h := H3.out; rw [if_neg (fun e => c2 e.2)] at h; exact h)
              clear c1 c2 H3
              go_wp2_with fail
              go_round
              case rel => exact ⟨k + 1, m, by omega, hm, rfl, by go_num, H4⟩
              case measure => simp [intOf]; omega
          · have t1 := bit_no8 ha c1
            have H4 := hid (by have h := H3.out; rw [if_neg (fun e => c1 e.1)] at h; exact h)
            clear c1 H3
            go_wp2_with fail
            go_round
            case rel => exact ⟨k + 1, m, by omega, hm, rfl, by go_num, H4⟩
            case measure => simp [intOf]; omega
        · obtain rfl : k = 8 := by omega
          have H3 := hid (show GfM.outGo (8 - (i + 1)) a b (i + 1) m = GfM.outGo 8 a b 0 0 from by
            have h := H.out
            rw [show 8 - i = (8 - (i + 1)) + 1 from by omega, GfM.outGo, ← H2.out] at h; exact h)
          clear H H2
          go_wp2_with fail
          go_round
          case rel => exact ⟨i + 1, m, by omega, hm, rfl, by go_num, H3⟩
          case measure => simp [intOf]; omega
    · obtain rfl : i = 8 := by omega
      have H1 := hid (show n = GfM.outGo 8 a b 0 0 from H.out)
      clear H
      go_wp2_with fail
      go_loop [5, 8] (fun s i => ∃ i' m : Nat, 7 ≤ i' ∧ i' ≤ 14 ∧ m < 32768 ∧ s = .int .i64 m ∧ i = .int .i64 i' ∧ Hid (GfM.redGo (i' - 7) m = GfM.redGo 7 n)) (fun _ i => (intOf i).toNat)
      case atStart => exact ⟨14, n, by omega, by omega, hn, rfl, rfl, rfl⟩
      case round =>
        obtain ⟨i, m, h7, h14, hm, rfl, rfl, H2⟩ := hrel
        by_cases h0 : i = 7
        · subst h0
          have HF := hid (show m % 256 = GfM.mul a b from by
            rw [← HR.out]; unfold GfM.refMul; rw [← H1.out, ← H2.out]; rfl)
          go_wp2_with fail
          go_ret
          exact ⟨ret_int (by have h := HF.out; omega), rfl⟩
        · have H3 := hid (red_step (by omega) H2.out)
          by_cases c1 : bit m i = 1
          · have t1 : (bits BinOp.and IntKind.i64 ((m : Int) / 2 ^ i) 1 == 1) = true := bit_yes (i64_bit m i (by omega)) c1
            have H4 := hid (by have h := H3.out; rw [if_pos c1] at h; exact h)
            have h2 := pow2_le (show i - 8 ≤ 6 by omega)
            have hx := xor15 hm (c := 285 * 2 ^ (i - 8)) (by omega)
            have P1 := hid (pow285_64 (i - 8) (by omega))
            have P2 := hid (i64_xor_nat m (285 * 2 ^ (i - 8)) (by omega) (by omega))
            have h8 : 8 ≤ i := by omega
            clear H3 H2 c1 h0 h2
            go_wp2_with fail
            go_round
            case rel => exact ⟨i - 1, m ^^^ 285 * 2 ^ (i - 8), by omega, by omega, hx, by rw [P1.out, P2.out], by go_num, H4⟩
            case measure => simp [intOf]; omega
          · have t1 : (bits BinOp.and IntKind.i64 ((m : Int) / 2 ^ i) 1 == 1) = false := bit_no (i64_bit m i (by omega)) c1
            have H4 := hid (by have h := H3.out; rw [if_neg c1] at h; exact h)
            have h8 : 8 ≤ i := by omega
            clear H3 H2 c1 h0
            go_wp2_with fail
            go_round
            case rel => exact ⟨i - 1, m, by omega, by omega, hm, rfl, by go_num, H4⟩
            case measure => simp [intOf]; omega
theorem rpow_loop (x : Nat) : GfM.mul (GfM.pw x) 2 = GfM.pw (x + 1) := rfl
theorem rpow_any (n : Int) (w : World) :
    Calls Try.prog 21 #[.int .i64 n] w fun e w' => e = .returned (.int .u8 (pwI n : Nat)) ∧ w = w' := by
  have hlo : -255 < n.tmod 255 := Int.lt_tmod_of_pos n (b := 255) (by omega)
  have hhi : n.tmod 255 < 255 := Int.tmod_lt_of_pos n (by omega)
  have e : (n.tmod 255 + 255) % 255 = n % 255 := by
    have := Int.tmod_eq_emod (a := n) (b := 255)
    split at this <;> omega
  have h0 : 0 ≤ n % 255 := Int.emod_nonneg _ (by omega)
  obtain ⟨m, hm⟩ := Int.eq_ofNat_of_zero_le h0
  have hm2 : m < 255 := by omega
  have HF := hid (show GfM.pw m = pwI n from by unfold pwI; rw [hm, Int.toNat_natCast])
  have E := hid (e.trans hm)
  clear e hm h0
  go_enter Try.func21, Try.ntmps21
  go_wp2_with fail
  rw [E.out]
  go_loop [3, 4] (fun x i => ∃ k : Nat, k ≤ m ∧ x = .int .u8 (GfM.pw k : Nat) ∧ i = .int .i64 k) (fun _ i => 255 - (intOf i).toNat)
  case atStart => exact ⟨0, by omega, rfl, rfl⟩
  case round =>
    obtain ⟨k, hk, rfl, rfl⟩ := hrel
    have hp := GfM.pw_lt k
    by_cases hlt : k < m
    · go_wp2_with fail
      refine (rmul_any _ 2 hp (by omega) _).mono ?_
      rintro e w' ⟨rfl, rfl⟩
      rw [rpow_loop]
      go_wp2_with fail
      go_round
      case rel => exact ⟨k + 1, by omega, rfl, by go_num⟩
      case measure => simp [intOf]; omega
    · obtain rfl : k = m := by omega
      go_wp2_with fail
      go_ret
      exact ⟨ret_int (by rw [HF.out]), rfl⟩
set_option maxRecDepth 100000 in
theorem rlog_any (a : Nat) (ha : a < 256) (h0 : a ≠ 0) (w : World) :
    Calls Try.prog 19 #[.int .u8 a] w fun e w' => e = .returned (.tuple #[.int .i64 (GfM.lg a : Nat), .int .i64 0]) ∧ w = w' := by
  have HL := hid (GfM.pw_lg a ha h0)
  go_enter Try.func19, Try.ntmps19
  go_wp2_with fail
  go_loop [4] (fun i => ∃ k : Nat, k ≤ 255 ∧ i = .int .i64 k ∧ Hid (k ≤ GfM.lg a)) (fun i => 255 - (intOf i).toNat)
  case atStart => exact ⟨0, by omega, rfl, hid (Nat.zero_le _)⟩
  case round =>
    obtain ⟨k, hk, rfl, H⟩ := hrel
    have hlt : k < 255 := by have := HL.out.2; have := H.out; omega
    have HP := hid (pwI_nat k)
    by_cases hx : GfM.pw k = a
    · have ht : (((GfM.pw k : Nat) : Int) == (a : Int)) = true := nat_yes hx
      have hfin : GfM.lg a = k := by rw [← hx]; exact GfM.lg_pw k hlt
      have HF := hid hfin
      clear hfin hx
      go_wp2_with fail
      refine (rpow_any _ _).mono ?_
      rintro e w' ⟨rfl, rfl⟩
      rw [HP.out]
      go_wp2_with fail
      go_ret2
      refine ⟨?_, rfl⟩
      rw [HF.out]
      rfl
    · have ht : (((GfM.pw k : Nat) : Int) == (a : Int)) = false := nat_no hx
      have hn : k + 1 ≤ GfM.lg a := by
        have h1 := H.out
        rcases Nat.lt_or_eq_of_le h1 with h2 | h2
        · exact h2
        · exact absurd (by rw [h2]; exact HL.out.1) hx
      have HN := hid hn
      clear hn hx
      go_wp2_with fail
      refine (rpow_any _ _).mono ?_
      rintro e w' ⟨rfl, rfl⟩
      rw [HP.out]
      go_wp2_with fail
      go_round
      case rel => exact ⟨k + 1, by omega, by go_num, HN⟩
      case measure => simp [intOf]; omega
set_option maxRecDepth 100000 in
theorem rlog_zero (w : World) :
    Calls Try.prog 19 #[.int .u8 0] w fun e w' => e = .returned (.tuple #[.int .i64 0, .int .i64 2]) ∧ w = w' := by
  go_enter Try.func19, Try.ntmps19
  go_wp2_with fail
  go_loop [4] (fun i => ∃ k : Nat, k ≤ 255 ∧ i = .int .i64 k) (fun i => 255 - (intOf i).toNat)
  case atStart => exact ⟨0, by omega, rfl⟩
  case round =>
    obtain ⟨k, hk, rfl⟩ := hrel
    have HP := hid (pwI_nat k)
    have ht : (((GfM.pw k : Nat) : Int) == 0) = false := zero_no (GfM.pw_pos k)
    by_cases hlt : k < 255
    · go_wp2_with fail
      refine (rpow_any _ _).mono ?_
      rintro e w' ⟨rfl, rfl⟩
      rw [HP.out]
      go_wp2_with fail
      go_round
      case rel => exact ⟨k + 1, by omega, by go_num⟩
      case measure => simp [intOf]; omega
    · go_wp2_with fail
      go_ret2
      exact ⟨rfl, rfl⟩
theorem rdiv_zero (a : Nat) (w : World) :
    Calls Try.prog 12 #[.int .u8 a, .int .u8 0] w fun e w' => e = .returned (.tuple #[.int .u8 0, .int .i64 2]) ∧ w = w' := by
  go_enter Try.func12, Try.ntmps12
  go_wp2_with fail
  go_ret2
  exact ⟨rfl, rfl⟩
set_option maxRecDepth 100000 in
theorem rdiv_any (a b : Nat) (ha : a < 256) (hb : b < 256) (h0 : b ≠ 0) (w : World) :
    Calls Try.prog 12 #[.int .u8 a, .int .u8 b] w fun e w' => e = .returned (.tuple #[.int .u8 (GfM.mul a (GfM.inv b) : Nat), .int .i64 0]) ∧ w = w' := by
  have ft := zero_no h0
  have HD := hid (GfM.div_mul ha hb h0)
  have hq := GfM.mul_lt (b := GfM.inv b) ha
  generalize hgen : GfM.mul a (GfM.inv b) = q at *
  have HG := hid hgen
  clear hgen
  go_enter Try.func12, Try.ntmps12
  go_wp2_with fail
  go_loop [6] (fun i => ∃ k : Nat, k ≤ q ∧ i = .int .i64 k) (fun i => 256 - (intOf i).toNat)
  case atStart => exact ⟨0, by omega, rfl⟩
  case round =>
    obtain ⟨k, hk, rfl⟩ := hrel
    have hk2 : k < 256 := by omega
    by_cases hx : k = q
    · subst hx
      have HD2 := HD
      go_wp2_with fail
      refine (rmul_any k b hk2 hb _).mono ?_
      rintro e w' ⟨rfl, rfl⟩
      rw [HD.out]
      go_wp2_with fail
      go_ret2
      exact ⟨rfl, rfl⟩
    · have hne : GfM.mul k b ≠ a := fun e => hx (by rw [← HG.out, GfM.div_of hb hk2 h0 e])
      have ht := nat_no hne
      have hlt : k < q := by omega
      clear hne hx
      go_wp2_with fail
      refine (rmul_any k b hk2 hb _).mono ?_
      rintro e w' ⟨rfl, rfl⟩
      go_wp2_with fail
      go_round
      case rel => exact ⟨k + 1, by omega, by go_num⟩
      case measure => simp [intOf]; omega
theorem rinv_zero (w : World) :
    Calls Try.prog 14 #[.int .u8 0] w fun e w' => e = .returned (.tuple #[.int .u8 0, .int .i64 2]) ∧ w = w' := by
  go_enter Try.func14, Try.ntmps14
  go_wp2_with fail
  refine (rdiv_zero 1 _).mono ?_
  rintro e w' ⟨rfl, rfl⟩
  go_wp2_with fail
  go_ret2
  exact ⟨rfl, rfl⟩
theorem rinv_any (a : Nat) (ha : a < 256) (h0 : a ≠ 0) (w : World) :
    Calls Try.prog 14 #[.int .u8 a] w fun e w' => e = .returned (.tuple #[.int .u8 (GfM.inv a : Nat), .int .i64 0]) ∧ w = w' := by
  have H := hid (GfM.one_mul (GfM.inv_lt a))
  go_enter Try.func14, Try.ntmps14
  go_wp2_with fail
  refine (rdiv_any 1 a (by omega) ha h0 _).mono ?_
  rintro e w' ⟨rfl, rfl⟩
  rw [H.out]
  go_wp2_with fail
  go_ret2
  exact ⟨rfl, rfl⟩
end Go.Proofs.Ytelcpldgamkpfaa
