/-
  Contracts of the document's Width, Digits, Value, Num and Text (casemateref06) over this translation.
-/
import Derived.Test.YtiebaiofpihoiaaByPut2
namespace Go.Proofs.Ytiebaiofpihoiaa
open Go.ChangeShapes Go.WideShapes Go.ChangeAt Go.RowKit
attribute [local go_sem] Gives
set_option maxHeartbeats 400000 in
theorem rwid_any (w : Int) (W : World) : Calls Try.prog 37 #[.int .i64 w] W fun e w' => e = .returned (.bool (BytM.isW w)) ∧ W = w' := by
  by_cases h1 : w = 1
  · subst h1
    go_enter Try.func37, Try.ntmps37
    go_wp2_with fail
    go_ret
    exact ⟨rfl, rfl⟩
  by_cases h2 : w = 2
  · subst h2
    go_enter Try.func37, Try.ntmps37
    go_wp2_with fail
    go_ret
    exact ⟨rfl, rfl⟩
  by_cases h4 : w = 4
  · subst h4
    go_enter Try.func37, Try.ntmps37
    go_wp2_with fail
    go_ret
    exact ⟨rfl, rfl⟩
  by_cases h8 : w = 8
  · subst h8
    go_enter Try.func37, Try.ntmps37
    go_wp2_with fail
    go_ret
    exact ⟨rfl, rfl⟩
  have e : BytM.isW w = false := by simp [BytM.isW, h1, h2, h4, h8]
  rw [e]
  have t1 := beq_false h1
  have t2 := beq_false h2
  have t4 := beq_false h4
  have t8 := beq_false h8
  clear h1 h2 h4 h8 e
  go_enter Try.func37, Try.ntmps37
  go_wp2_with fail
  go_ret
  exact ⟨rfl, rfl⟩
theorem set_zeros (j x : Nat) (t : List Nat) : (List.replicate (j + 1) 0 ++ t).set j x = List.replicate j 0 ++ x :: t := by
  rw [List.replicate_succ', List.append_assoc, List.set_append_right _ _ (by simp)]
  simp
set_option maxHeartbeats 400000 in
theorem rdig_any (m n : Nat) (h1 : 1 ≤ m) (hm : m ≤ 8) (hn : n < 18446744073709551616) (w : World) :
    Calls Try.prog 38 #[.int .i64 m, .int .u64 n] w fun e w' => ∃ v, e = .returned v ∧ Own 5 .u8 w' w.heap.size v (BytM.dig m n) ∧ Below w.heap.size w w' := by
  go_enter Try.func38, Try.ntmps38
  go_wp2_with ((with_reducible apply mkz (n := m)); omega; rfl; rfl; intro v2 w2 o2 b2)
  obtain ⟨g, cap, e2, hg, hgl, hc1, hc2, _⟩ := o2.at (by simp; omega)
  rw [List.length_replicate] at e2 hc1
  subst e2
  have O2 := hid o2
  have B2 := hid b2
  clear o2 b2
  go_loopw [1, 6] (fun u i wr => ∃ (k N : Nat), k ≤ m ∧ i = .int .i64 ((k : Int) - 1) ∧ u = .int .u64 N ∧ N < 18446744073709551616 ∧ Hid (N = n / 256 ^ (m - k)) ∧ Hid (Own 5 .u8 wr w.heap.size (.slice (some ⟨g, 0, none⟩) m cap) (List.replicate k 0 ++ (BytM.dig m n).drop k)) ∧ Hid (Below w.heap.size w wr)) (fun _ i _ => (intOf i + 1).toNat)
  case atStart => exact ⟨m, n, by omega, rfl, rfl, hn, hid (by simp), hid (by rw [List.drop_of_length_le (by rw [BytM.dig_length]; exact Nat.le_refl _), List.append_nil]; exact O2.out), B2⟩
  case round =>
    clear O2 B2
    obtain ⟨k, N, hk, rfl, rfl, hN, hNe, ho, hb⟩ := hrel
    by_cases hlt : 1 ≤ k
    · obtain ⟨j, rfl⟩ : ∃ j, k = j + 1 := ⟨k - 1, by omega⟩
      have e1 : ((j + 1 : Nat) : Int) - 1 = (j : Int) := by omega
      rw [e1]
      have hll : (List.replicate (j + 1) 0 ++ (BytM.dig m n).drop (j + 1)).length = m := by rw [List.length_append, List.length_replicate, List.length_drop, BytM.dig_length]; omega
      obtain ⟨g', cap', e3, _, _, _, _, hcell⟩ := ho.out.at (by rw [hll]; omega)
      rw [hll] at e3 hcell
      simp only [Value.slice.injEq, Option.some.injEq, Addr.mk.injEq, and_true, true_and] at e3
      obtain ⟨rfl, rfl⟩ := e3
      obtain ⟨q1, q2⟩ := hcell j (by omega)
      have tj : (j : Int) < (m : Int) := by omega
      have ho2 := ho.out.put (i := j) (x := N % 256) (by rw [hll]; omega)
      have hd := BytM.dig_drop (n := n) (show j < m by omega)
      have hNe2 := hNe.out
      rw [show m - 1 - j = m - (j + 1) by omega, ← hNe2] at hd
      rw [set_zeros, ← hd] at ho2
      have hdv : N / 256 = n / 256 ^ (m - j) := by
        rw [hNe2, Nat.div_div_eq_div_mul, ← Nat.pow_succ, show (m - (j + 1)).succ = m - j by omega]
      have O3 := hid ho2
      have D3 := hid hdv
      have hbl : Below w.heap.size w (wr.setCell ⟨g, j, none⟩ (.int .u8 ((N % 256 : Nat) : Int))) := hb.out.setCell (p := ⟨g, j, none⟩) hg _
      have B3 := hid hbl
      clear hll hcell ho2 hd hNe2 hdv hbl ho hb hNe e1
      go_wp2_with fail
      go_roundw
      case rel => exact ⟨j, N / 256, by omega, by go_num, by simp, by omega, D3, O3, B3⟩
      case measure => simp [intOf] <;> omega
    · obtain rfl : k = 0 := by omega
      have ho2 := ho.out
      rw [List.replicate_zero, List.nil_append, List.drop_zero] at ho2
      have O2 := hid ho2
      clear ho2 ho
      go_wp2_with fail
      go_ret
      exact ⟨_, rfl, O2.out, hb.out⟩
theorem val_step {l : List Nat} {k : Nat} (h : k < l.length) : BytM.val (l.take (k + 1)) = 256 * BytM.val (l.take k) + l.getD k 0 := by
  rw [List.take_succ_eq_append_getElem h, ← nums_at h, BytM.val_snoc]
theorem B256.getD {l : List Nat} (h : B256 l) (k : Nat) : l.getD k 0 < 256 := by
  rw [List.getD_eq_getElem?_getD]
  cases e : l[k]? with
  | none => simp
  | some x => simp only [Option.getD_some]; exact h x (List.mem_of_getElem? e)
theorem val_7 {l : List Nat} (h : B256 l) {k : Nat} (hk : k ≤ 7) : BytM.val (l.take k) < 72057594037927936 :=
  Nat.lt_of_lt_of_le (BytM.val_lt_of (h.take k) (w := 7) (by rw [List.length_take]; omega)) (by omega)
theorem val_8 {l : List Nat} (h : B256 l) (hl : l.length ≤ 8) : BytM.val l < 18446744073709551616 :=
  Nat.lt_of_lt_of_le (BytM.val_lt_of h hl) (by omega)
set_option maxHeartbeats 400000 in
theorem rval_any (A : Option Addr) (l : List Nat) (n cap : Nat) (hn : n ≤ 8) (w : World) (hA : Arg w A l n cap) :
    Calls Try.prog 39 #[.slice A n cap] w fun e w' => e = .returned (.int .u64 (BytM.val l)) ∧ w = w' := by
  have HA := hid hA
  clear hA
  go_enter Try.func39, Try.ntmps39
  go_wp2_with fail
  go_loopw [3, 4] (fun u i wr => ∃ (k N : Nat), k ≤ n ∧ i = .int .i64 k ∧ u = .int .u64 N ∧ Hid (N = BytM.val (l.take k)) ∧ w = wr) (fun _ i _ => n - (intOf i).toNat)
  case atStart => exact ⟨0, 0, by omega, rfl, rfl, hid (by simp [BytM.val]), rfl⟩
  case round =>
    obtain ⟨k, N, hk, rfl, rfl, hN, rfl⟩ := hrel
    by_cases hlt : k < n
    · have tk : (k : Int) < (n : Int) := by omega
      have h := HA.out
      obtain ⟨b, o, rfl, hbl, hr⟩ := h.byt (by rw [h.len]; omega)
      have q1 := hr k (by rw [h.len]; exact hlt)
      have hx := h.b256.getD k
      have hst := val_step (show k < l.length by rw [h.len]; exact hlt)
      have hNb := val_7 h.b256 (k := k) (by omega)
      rw [← hN.out] at hst hNb
      have HST := hid hst
      clear h hr hst
      generalize l.getD k 0 = x at *
      go_wp2_with fail
      go_roundw
      case rel => exact ⟨k + 1, 256 * N + x, by omega, by go_num, by go_num, hid HST.out.symm, trivial⟩
      case measure => simp [intOf] <;> omega
    · obtain rfl : k = n := by omega
      have h2 := hN.out
      rw [List.take_of_length_le (by rw [HA.out.len]; exact Nat.le_refl _)] at h2
      have H2 := hid h2
      clear h2 hN
      go_wp2_with fail
      go_ret
      exact ⟨by rw [H2.out]; rfl, rfl⟩
set_option maxHeartbeats 400000 in
theorem rnum_bad (v : Value) (w : Int) (n : Nat) (hn : n < 18446744073709551616) (h : BytM.okN w n = false) (W : World) :
    Calls Try.prog 12 #[v, .int .i64 w, .int .u64 n] W fun e w' => e = .returned (.tuple #[.slice none 0 0, .int .i64 2]) ∧ Below W.heap.size W w' := by
  cases hw : BytM.isW w with
  | false =>
    have P := hid (rwid_any w W)
    rw [hw] at P
    clear h
    go_enter Try.func12, Try.ntmps12
    go_wp2_with fail
    refine (P.out).mono ?_
    rintro e w' ⟨rfl, rfl⟩
    go_wp2_with fail
    go_ret2
    exact ⟨rfl, Below.refl _ _⟩
  | true =>
    have P := hid (rwid_any w W)
    rw [hw] at P
    obtain ⟨k, rfl, h1, h8, _⟩ := BytM.isW_nat hw
    have hb : ¬ n < 256 ^ k := by simpa [BytM.okN, hw] using h
    have D := hid (rdig_any k n h1 h8 hn W)
    have hne : BytM.val (BytM.dig k n) ≠ n := by
      rw [BytM.val_dig]
      have := Nat.mod_lt n (show 256 ^ k > 0 from Nat.pow_pos (by omega))
      omega
    have hl := BytM.dig_length k n
    have h256 := BytM.dig_256 k n
    generalize BytM.dig k n = l at *
    have t : (((BytM.val l : Nat) : Int) == (n : Int)) = false := beq_false (by omega)
    have H6 := hid h256
    have HL := hid hl
    clear h hw hb hne h256 hl
    go_enter Try.func12, Try.ntmps12
    go_wp2_with fail
    refine (P.out).mono ?_
    rintro e w' ⟨rfl, rfl⟩
    go_wp2_with fail
    refine D.out.mono ?_
    rintro e w2 ⟨v2, rfl, o2, b2⟩
    obtain ⟨A2, c2, e2, a2⟩ := o2.arg H6.out
    subst e2
    have B2 := hid b2
    have A2' := hid a2
    have hl8 : l.length ≤ 8 := by rw [HL.out]; exact h8
    clear o2 b2 a2
    go_wp2_with fail
    refine (rval_any A2 l l.length c2 hl8 w2 A2'.out).mono ?_
    rintro e w' ⟨rfl, rfl⟩
    go_wp2_with fail
    go_ret2
    exact ⟨rfl, B2.out⟩
set_option maxHeartbeats 400000 in
theorem rnum_any (A : Option Addr) (l : List Nat) (c cap : Nat) (hc : c ≤ 800000) (w : Int) (n : Nat) (hn : n < 18446744073709551616) (h : BytM.okN w n = true) (W : World) (hA : Arg W A l c cap) :
    Calls Try.prog 12 #[.slice A c cap, .int .i64 w, .int .u64 n] W fun e w' => ∃ v, e = .returned (.tuple #[v, .int .i64 0]) ∧ Own 5 .u8 w' W.heap.size v (l ++ BytM.dig w.toNat n) ∧ Below W.heap.size W w' := by
  obtain ⟨hw, hf⟩ : BytM.isW w = true ∧ n < 256 ^ w.toNat := by simpa [BytM.okN] using h
  have P := hid (rwid_any w W)
  rw [hw] at P
  obtain ⟨k, rfl, h1, h8, _⟩ := BytM.isW_nat hw
  rw [Int.toNat_natCast] at hf
  rw [Int.toNat_natCast]
  have D := hid (rdig_any k n h1 h8 hn W)
  have hv : BytM.val (BytM.dig k n) = n := by rw [BytM.val_dig, Nat.mod_eq_of_lt hf]
  have hl := BytM.dig_length k n
  have h256 := BytM.dig_256 k n
  generalize BytM.dig k n = m at *
  have t : (((BytM.val m : Nat) : Int) == (n : Int)) = true := by rw [hv]; exact beq_self_eq_true _
  have H6 := hid h256
  have HL := hid hl
  have HA := hid hA
  clear h hw hf hv h256 hl hA
  go_enter Try.func12, Try.ntmps12
  go_wp2_with fail
  refine (P.out).mono ?_
  rintro e w' ⟨rfl, rfl⟩
  go_wp2_with fail
  refine D.out.mono ?_
  rintro e w2 ⟨v2, rfl, o2, b2⟩
  obtain ⟨A2, c2, e2, a2⟩ := o2.arg H6.out
  subst e2
  have B2 := hid b2
  have A2' := hid a2
  have hl8 : m.length ≤ 8 := by rw [HL.out]; exact h8
  clear o2 b2 a2
  go_wp2_with fail
  refine (rval_any A2 m m.length c2 hl8 w2 A2'.out).mono ?_
  rintro e w' ⟨rfl, rfl⟩
  have c1 := HA.out.on B2.out
  have C1 := hid c1
  have CL := hid c1.len
  clear c1
  go_upto_region 8 with (at_builtin; (with_reducible apply wappN_any eltB); rfl; rfl; exact C1.out.none; exact Own.nil (B := W.heap.size); exact C1.out.byt.nums; exact CL.out; (rw [List.length_nil]; omega); exact B2.out.size; intro v4 w4 o4 g4)
  have B4 := hid (below_grown B2.out g4 (Own.nil (w := w2) (B := W.heap.size) (e := 5) (k := .u8)) (Nat.le_refl _) (Nat.le_refl _))
  have O4 := hid o4
  have A4 := hid ((A2'.out).byt.nums.grown (Nat.le_refl _) g4 (Own.nil (w := w2) (B := w2.heap.size) (e := 5) (k := .u8)) (Nat.le_refl _))
  have hz24 := g4.size
  clear o4 g4 t
  go_wp2_with (at_builtin; (with_reducible apply wappN_any eltB); rfl; rfl; exact A2'.out.none; exact O4.out; exact A4.out; rfl; (rw [List.nil_append, CL.out]; omega); exact B4.out.size; intro v5 w5 o5 g5)
  have B5 := hid (below_grown B4.out g5 O4.out (Nat.le_refl _) (Nat.le_refl _))
  have O5 := hid o5
  clear o5 g5
  go_wp2_with fail
  go_ret2
  exact ⟨_, rfl, O5.out, B5.out⟩
end Go.Proofs.Ytiebaiofpihoiaa
