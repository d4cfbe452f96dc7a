/-
  Contracts of bytes.lay, Num and Text over this translation.
-/
import Derived.Test.YtiebaiofpihoiaaByPut
namespace Go.Proofs.Ytiebaiofpihoiaa
open Go.ChangeShapes Go.WideShapes Go.ChangeAt Go.RowKit
attribute [local go_sem] Gives
theorem shr_cast (n j : Nat) : ((n : Int) / 2 ^ (8 * j) % 256) = ((n / 256 ^ j % 256 : Nat) : Int) := by
  have h : (256 : Nat) ^ j = 2 ^ (8 * j) := by rw [Nat.pow_mul]
  rw [h]
  simp
set_option maxHeartbeats 400000 in
theorem lay_any (v : Value) (l : List Nat) (B m n : Nat) (hm : m ≤ 8) (hsz : l.length ≤ 900000) (W : World) (ho : Own 5 .u8 W B v l) (hB : B ≤ W.heap.size) :
    Calls Try.prog 35 #[v, .int .i64 m, .int .u64 n] W fun e w' => ∃ v', e = .returned v' ∧ Own 5 .u8 w' B v' (l ++ BytM.dig m n) ∧ Below B W w' := by
  have HO := hid ho
  have HB := hid hB
  have HZ := hid hsz
  clear ho hB hsz
  go_enter Try.func35, Try.ntmps35
  go_wp2_with fail
  go_loopw [0, 9] (fun u i wr => ∃ (k : Nat) (vo : Value), k ≤ m ∧ i = .int .i64 k ∧ u = vo ∧ Hid (Own 5 .u8 wr B vo (l ++ (BytM.dig m n).take k)) ∧ Hid (Below B W wr)) (fun _ i _ => m - (intOf i).toNat)
  case atStart => exact ⟨0, _, by omega, rfl, rfl, hid (by rw [List.take_zero, List.append_nil]; exact HO.out), hid (Below.refl _ _)⟩
  case round =>
    obtain ⟨k, vo, hk, rfl, rfl, ho, hb⟩ := hrel
    by_cases hlt : k < m
    · have ti : (k : Int) < (m : Int) := by omega
      have hst := BytM.dig_step (n := n) hlt
      have hlen : ((BytM.dig m n).take k).length = k := by rw [List.length_take, BytM.dig_length]; omega
      have hx := shr_cast n (m - 1 - k)
      generalize n / 256 ^ (m - 1 - k) % 256 = x at *
      have HX := hid hx
      have HST := hid hst
      have HLEN := hid hlen
      have hzw := hb.out.size
      clear hx hst hlen
      go_wp2_with (at_builtin; (with_reducible apply wappN eltB); rfl; rfl; exact ho.out.alloc _; exact nums_one (x := x) (B := wr.heap.size + 1) (congrArg (Value.int .u8) HX.out) (Nat.lt_succ_self _); rfl; (rw [List.length_append, HLEN.out]; have := HZ.out; omega); (simp; have := HB.out; omega); intro v' w4 o4 g4)
      have b4 := below_grown (hb.out.alloc (Nat.le_trans HB.out hzw) (.cells #[.int .u8 (x : Nat)] 5)) (by rw [← HX.out]; exact g4) ho.out (Nat.le_refl _) HB.out
      go_roundw
      case rel => exact ⟨k + 1, v', by omega, by go_num, rfl, hid (by rw [HST.out, ← List.append_assoc]; exact o4), hid b4⟩
      case measure => simp [intOf]; omega
    · obtain rfl : k = m := by omega
      have ho2 := ho.out
      rw [List.take_of_length_le (by rw [BytM.dig_length]; exact Nat.le_refl _)] at ho2
      have O2 := hid ho2
      clear ho2 ho
      go_wp2_with fail
      go_ret
      exact ⟨_, rfl, O2.out, hb.out⟩
theorem sh_zero {n k : Nat} (h : n < 256 ^ k) : (n : Int) / 2 ^ (8 * k) = 0 := by
  have e : (256 : Nat) ^ k = 2 ^ (8 * k) := by rw [Nat.pow_mul]
  rw [e] at h
  have : ((n / 2 ^ (8 * k) : Nat) : Int) = 0 := by rw [Nat.div_eq_of_lt h]; rfl
  simpa using this
theorem sh_pos {n k : Nat} (h : ¬ n < 256 ^ k) : ((n : Int) / 2 ^ (8 * k) == 0) = false := by
  have e : (256 : Nat) ^ k = 2 ^ (8 * k) := by rw [Nat.pow_mul]
  rw [e] at h
  have h2 : 0 < n / 2 ^ (8 * k) := Nat.div_pos (by omega) (Nat.pow_pos (by omega))
  apply beq_false
  have : ((n / 2 ^ (8 * k) : Nat) : Int) ≠ 0 := by omega
  simpa using this
set_option maxHeartbeats 400000 in
theorem pnum_bad (v : Value) (w : Int) (n : Nat) (h : BytM.okN w n = false) (W : World) :
    Calls Try.prog 11 #[v, .int .i64 w, .int .u64 n] W fun e w' => e = .returned (.tuple #[.slice none 0 0, .int .i64 2]) ∧ W = w' := by
  cases hw : BytM.isW w with
  | false =>
    have P := hid (isw_any w W)
    rw [hw] at P
    clear h
    go_enter Try.func11, Try.ntmps11
    go_wp2_with fail
    refine (P.out).mono ?_
    rintro e w' ⟨rfl, rfl⟩
    go_wp2_with fail
    go_ret2
    exact ⟨rfl, rfl⟩
  | true =>
    have P := hid (isw_any w W)
    rw [hw] at P
    obtain ⟨k, rfl, h1, h8, _⟩ := BytM.isW_nat hw
    have hb : ¬ n < 256 ^ k := by simpa [BytM.okN, hw] using h
    have t := sh_pos hb
    clear h hw hb
    go_enter Try.func11, Try.ntmps11
    go_wp2_with fail
    refine (P.out).mono ?_
    rintro e w' ⟨rfl, rfl⟩
    go_wp2_with fail
    go_ret2
    exact ⟨rfl, rfl⟩
set_option maxHeartbeats 400000 in
theorem pnum_any (A : Option Addr) (l : List Nat) (c cap : Nat) (hc : c ≤ 800000) (w : Int) (n : Nat) (h : BytM.okN w n = true) (W : World) (hA : Arg W A l c cap) :
    Calls Try.prog 11 #[.slice A c cap, .int .i64 w, .int .u64 n] W fun e w' => ∃ v, e = .returned (.tuple #[v, .int .i64 0]) ∧ Own 5 .u8 w' W.heap.size v (l ++ BytM.dig w.toNat n) ∧ Below W.heap.size W w' := by
  obtain ⟨hw, hf⟩ : BytM.isW w = true ∧ n < 256 ^ w.toNat := by simpa [BytM.okN] using h
  have P := hid (isw_any w W)
  rw [hw] at P
  obtain ⟨k, rfl, h1, h8, _⟩ := BytM.isW_nat hw
  rw [Int.toNat_natCast] at hf
  have t : ((n : Int) / 2 ^ (8 * k) == 0) = true := by rw [sh_zero hf]; rfl
  have C := hid (copied_any A l c cap k (by omega) W hA)
  have HL := hid (show l.length ≤ 900000 by rw [hA.len]; omega)
  rw [Int.toNat_natCast]
  clear h hw hf hA
  go_enter Try.func11, Try.ntmps11
  go_wp2_with fail
  refine (P.out).mono ?_
  rintro e w' ⟨rfl, rfl⟩
  go_wp2_with fail
  refine C.out.mono ?_
  rintro e w2 ⟨v2, rfl, o2, b2⟩
  have B2 := hid b2
  have O2 := hid o2
  clear b2 o2 t
  go_wp2_with fail
  refine (lay_any v2 l W.heap.size k n h8 HL.out w2 O2.out B2.out.size).mono ?_
  rintro e w3 ⟨v3, rfl, o3, b3⟩
  have O3 := hid o3
  have B3 := hid (B2.out.trans b3)
  clear o3 b3 O2 B2
  go_wp2_with fail
  go_ret2
  exact ⟨_, rfl, O3.out, B3.out⟩
set_option maxHeartbeats 400000 in
theorem ptext_bad (v : Value) (s : ByteArray) (h : 65535 < s.size) (W : World) :
    Calls Try.prog 13 #[v, .string s] W fun e w' => e = .returned (.tuple #[.slice none 0 0, .int .i64 3]) ∧ W = w' := by
  have t : decide ((65535 : Int) < (s.size : Int)) = true := decide_eq_true (by omega)
  clear h
  go_enter Try.func13, Try.ntmps13
  go_wp2_with fail
  go_ret2
  exact ⟨rfl, rfl⟩
set_option maxHeartbeats 400000 in
theorem ptext_any (A : Option Addr) (l : List Nat) (c cap : Nat) (hc : c ≤ 800000) (s : ByteArray) (h : s.size ≤ 65535) (W : World) (hA : Arg W A l c cap) :
    Calls Try.prog 13 #[.slice A c cap, .string s] W fun e w' => ∃ v, e = .returned (.tuple #[v, .int .i64 0]) ∧ Own 5 .u8 w' W.heap.size v (l ++ BytM.txt (nats s)) ∧ Below W.heap.size W w' := by
  have t : decide ((65535 : Int) < (s.size : Int)) = false := decide_eq_false (by omega)
  have C := hid (copied_any A l c cap (2 + s.size) (by omega) W hA)
  have HL := hid hA.len
  have e2 : ((2 + s.size : Nat) : Int) = 2 + (s.size : Int) := by omega
  rw [e2] at C
  have hsz : ((nats s).length) = s.size := nats_length s
  have T : Hid (BytM.txt (nats s) = BytM.dig 2 s.size ++ nats s) := hid (by unfold BytM.txt; rw [hsz])
  have NZ := hid hsz
  clear hA hsz e2
  go_enter Try.func13, Try.ntmps13
  go_wp2_with fail
  refine C.out.mono ?_
  rintro e w2 ⟨v2, rfl, o2, b2⟩
  have B2 := hid b2
  have O2 := hid o2
  clear b2 o2 t
  go_wp2_with fail
  refine (lay_any v2 l W.heap.size 2 s.size (by omega) (by rw [HL.out]; omega) w2 O2.out B2.out.size).mono ?_
  rintro e w3 ⟨v3, rfl, o3, b3⟩
  have O3 := hid o3
  have B3 := hid (B2.out.trans b3)
  clear o3 b3 O2 B2
  go_wp2_with (at_builtin; (with_reducible apply wappS); rfl; rfl; exact O3.out; (rw [List.length_append, BytM.dig_length, HL.out]; omega); exact B3.out.size; intro v4 w4 o4 g4)
  have B4 := hid (below_grown B3.out g4 O3.out (Nat.le_refl _) (Nat.le_refl _))
  have O4 := hid o4
  clear o4 g4 O3 B3
  go_wp2_with fail
  go_ret2
  refine ⟨_, rfl, ?_, B4.out⟩
  rw [T.out, ← List.append_assoc]
  exact O4.out
end Go.Proofs.Ytiebaiofpihoiaa
