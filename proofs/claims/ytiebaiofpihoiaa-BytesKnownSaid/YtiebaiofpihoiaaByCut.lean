/-
  Contracts of a tape's cut, Num, Bytes and Text over this translation.
-/
import Derived.Test.YtiebaiofpihoiaaByTape
import Derived.Test.YtiebaiofpihoiaaRefBy
import Derived.Laws.BitsAllLaws
namespace Go.Proofs.Ytiebaiofpihoiaa
open Go.ChangeShapes Go.WideShapes Go.ChangeAt Go.RowKit
attribute [local go_sem] Gives
theorem Rd.nil {w : World} {lo hi : Nat} : Rd w lo hi .none [] 0 0 := ⟨rfl, Nat.le_refl _, Nat.zero_le _, (fun x hx => by cases hx), fun _ => ⟨rfl, rfl⟩, BytF.nil⟩
theorem cut_bad {st : BytM.Tp} {n : Int} (h : ∀ l, st = some l → ¬ (0 ≤ n ∧ n ≤ (l.length : Int))) : BytM.cutL st n = [] ∧ BytM.cutS st n = none := by
  cases st with
  | none => exact ⟨rfl, rfl⟩
  | some l =>
    unfold BytM.cutL BytM.cutS
    dsimp only
    rw [if_neg (h l rfl), if_neg (h l rfl)]
    exact ⟨rfl, rfl⟩
set_option maxHeartbeats 400000 in
theorem pcut_bad {g lo : Nat} {st : BytM.Tp} (w : World) (h : Tap w g lo st) (n : Int) (hn : ∀ l, st = some l → ¬ (0 ≤ n ∧ n ≤ (l.length : Int))) :
    Calls Try.prog 40 #[.pointer (some ⟨g, 0, none⟩), .int .i64 n] w fun e w' => e = .returned (.slice none 0 0) ∧ Tap w' g lo none ∧ w.grownBy w' (some g) := by
  have T := hid (torn_any w h)
  have TE := hid (tear_any w h)
  cases st with
  | none =>
    clear h hn
    go_enter Try.func40, Try.ntmps40
    go_wp2_with fail
    refine (T.out).mono ?_
    rintro e w' ⟨rfl, rfl⟩
    go_wp2_with fail
    refine TE.out.mono ?_
    rintro e w2 ⟨rfl, t2, g2⟩
    go_wp2_with fail
    go_ret
    exact ⟨rfl, t2, g2⟩
  | some l =>
    have hn' := hn l rfl
    obtain ⟨_, A, m, cp, h1, h2⟩ := h
    have q0 : w.cell? ⟨g, 0, none⟩ = some (.slice A m cp) := h1.cell 0
    have hm : l.length = m := h2.len
    rw [hm] at hn'
    clear h1 h2 hn
    by_cases h0 : n < 0
    · have t0 : decide (n < 0) = true := decide_eq_true h0
      clear hn' hm
      go_enter Try.func40, Try.ntmps40
      go_wp2_with fail
      refine (T.out).mono ?_
      rintro e w' ⟨rfl, rfl⟩
      go_wp2_with fail
      refine TE.out.mono ?_
      rintro e w2 ⟨rfl, t2, g2⟩
      go_wp2_with fail
      go_ret
      exact ⟨rfl, t2, g2⟩
    · have t0 : decide (n < 0) = false := decide_eq_false h0
      have t1 : decide ((m : Int) < n) = true := decide_eq_true (by omega)
      clear hn' hm h0
      go_enter Try.func40, Try.ntmps40
      go_wp2_with fail
      refine (T.out).mono ?_
      rintro e w' ⟨rfl, rfl⟩
      go_wp2_with fail
      refine TE.out.mono ?_
      rintro e w2 ⟨rfl, t2, g2⟩
      go_wp2_with fail
      go_ret
      exact ⟨rfl, t2, g2⟩
theorem cut_tap {w : World} {g lo m cp k : Nat} {A A2 : Option Addr} {l : List Nat} (h1 : Blk w g 66 (tp A m cp true)) (h2 : Rd w lo g A l m cp) (hlo : lo ≤ g) (hk : k ≤ m) (hA : A2 = if cp = k then A else Option.map (fun x => x.add k) A) :
    Rd (w.setCell ⟨g, 0, none⟩ (.slice A2 (m - k) (cp - k))) lo g A (l.take k) k k ∧ Tap (w.setCell ⟨g, 0, none⟩ (.slice A2 (m - k) (cp - k))) g lo (some (l.drop k)) ∧ w.grownBy (w.setCell ⟨g, 0, none⟩ (.slice A2 (m - k) (cp - k))) (some g) := by
  subst hA
  have hg := grown_setCell w g 0 (.slice (if cp = k then A else Option.map (fun x => x.add k) A) (m - k) (cp - k))
  have h3 := h2.by' hg (.inr (Nat.le_refl _))
  have h4 := h2.cap
  have h5 := h2.max
  refine ⟨⟨by rw [List.length_take, h2.len]; omega, Nat.le_refl _, by omega, h2.b256.take k, fun e => ?_, h3.byt.take k⟩, ⟨hlo, _, m - k, cp - k, h1.setCell_same 0 _, ?_⟩, hg⟩
  · have := h2.none e
    exact ⟨by omega, by omega⟩
  · refine ⟨by rw [List.length_drop, h2.len], by omega, by omega, h2.b256.drop k, fun e => ?_, h3.byt.drop cp k (by rw [h2.len]; exact h4)⟩
    by_cases hc : cp = k
    · exact ⟨by omega, by omega⟩
    · rw [if_neg hc] at e
      cases A with
      | none => have := h2.none rfl; exact ⟨by omega, by omega⟩
      | some a => cases e
set_option maxHeartbeats 400000 in
theorem pcut_ok {g lo : Nat} {l : List Nat} (w : World) (h : Tap w g lo (some l)) (k : Nat) (hk : k ≤ l.length) :
    Calls Try.prog 40 #[.pointer (some ⟨g, 0, none⟩), .int .i64 k] w fun e w' => ∃ A', e = .returned (.slice A' k k) ∧ Rd w' lo g A' (l.take k) k k ∧ Tap w' g lo (some (l.drop k)) ∧ w.grownBy w' (some g) := by
  have T := hid (torn_any w h)
  obtain ⟨hlo, A, m, cp, h1, h2⟩ := h
  have q0 : w.cell? ⟨g, 0, none⟩ = some (.slice A m cp) := h1.cell 0
  have hm : l.length = m := h2.len
  have hcp := h2.cap
  have hmx := h2.max
  rw [hm] at hk
  have t0 : decide ((k : Int) < 0) = false := decide_eq_false (by omega)
  have t1 : decide ((m : Int) < (k : Int)) = false := decide_eq_false (by omega)
  have fz := h1.frozen 0
  have H1 := hid h1
  have H2 := hid h2
  unfold maxLen at hmx
  have k1 : (k : Int) ≤ (cp : Int) := by omega
  have k2 : (k : Int) ≤ (m : Int) := by omega
  clear h1 h2
  go_enter Try.func40, Try.ntmps40
  go_wp2_with fail
  refine (T.out).mono ?_
  rintro e w' ⟨rfl, rfl⟩
  go_wp2_with fail
  · rename_i hc
    go_ret
    have h9 := cut_tap H1.out H2.out hlo hk (if_pos (by omega)).symm
    rw [show cp - k = 0 by omega] at h9
    exact ⟨A, rfl, h9⟩
  · rename_i hc
    go_ret
    exact ⟨A, rfl, cut_tap H1.out H2.out hlo hk (if_neg (by omega)).symm⟩
theorem pcut_any {g lo : Nat} {st : BytM.Tp} (w : World) (h : Tap w g lo st) (n : Int) :
    Calls Try.prog 40 #[.pointer (some ⟨g, 0, none⟩), .int .i64 n] w fun e w' => ∃ A' c', e = .returned (.slice A' (BytM.cutL st n).length c') ∧ Rd w' lo g A' (BytM.cutL st n) (BytM.cutL st n).length c' ∧ Tap w' g lo (BytM.cutS st n) ∧ w.grownBy w' (some g) := by
  by_cases hn : ∀ l, st = some l → ¬ (0 ≤ n ∧ n ≤ (l.length : Int))
  · obtain ⟨e1, e2⟩ := cut_bad hn
    rw [e1, e2]
    refine (pcut_bad w h n hn).mono ?_
    rintro e w2 ⟨rfl, t2, g2⟩
    exact ⟨none, 0, rfl, Rd.nil, t2, g2⟩
  · cases st with
    | none => exact absurd (fun l e => by cases e) hn
    | some l =>
      by_cases h0 : 0 ≤ n ∧ n ≤ (l.length : Int)
      · obtain ⟨k, rfl⟩ : ∃ k : Nat, n = k := ⟨n.toNat, by omega⟩
        have e1 : BytM.cutL (some l) (k : Nat) = l.take k := by unfold BytM.cutL; dsimp only; rw [if_pos h0]; simp
        have e2 : BytM.cutS (some l) (k : Nat) = some (l.drop k) := by unfold BytM.cutS; dsimp only; rw [if_pos h0]; simp
        have hlen : (l.take k).length = k := by rw [List.length_take]; omega
        rw [e1, e2, hlen]
        refine (pcut_ok w h k (by omega)).mono ?_
        rintro e w2 ⟨A', rfl, r2, t2, g2⟩
        exact ⟨A', k, rfl, r2, t2, g2⟩
      · exact absurd (fun m e => by cases e; exact h0) hn
theorem or_byte (N x : Nat) (hN : N < 72057594037927936) (hx : x < 256) : bits .or .u64 ((N : Int) * 256) (x : Int) = ((256 * N + x : Nat) : Int) := by
  have e : (N : Int) * 256 = ((2 ^ 8 * N : Nat) : Int) := by omega
  rw [e, u64_or_nat _ _ (by omega) (by omega), ← Nat.two_pow_add_eq_or_of_lt (by omega)]
set_option maxHeartbeats 400000 in
theorem tnum_any {g lo : Nat} {st : BytM.Tp} (w : World) (h : Tap w g lo st) (n : Int) :
    Calls Try.prog 22 #[.pointer (some ⟨g, 0, none⟩), .int .i64 n] w fun e w' => e = .returned (.int .u64 (BytM.numL st n)) ∧ Tap w' g lo (BytM.numS st n) ∧ w.grownBy w' (some g) := by
  have P := hid (isw_any n w)
  unfold BytM.numL BytM.numS
  cases hw : BytM.isW n with
  | false =>
    rw [hw] at P
    have TE := hid (tear_any w h)
    clear h
    go_enter Try.func22, Try.ntmps22
    go_wp2_with fail
    refine (P.out).mono ?_
    rintro e w' ⟨rfl, rfl⟩
    go_wp2_with fail
    refine TE.out.mono ?_
    rintro e w2 ⟨rfl, t2, g2⟩
    go_wp2_with fail
    go_ret
    exact ⟨rfl, t2, g2⟩
  | true =>
    rw [hw] at P
    obtain ⟨m, rfl, h1, h8, _⟩ := BytM.isW_nat hw
    have C := hid (pcut_any w h m)
    have hlen := BytM.cutL_len (st := st) (n := (m : Int)) m rfl
    simp only [if_true]
    generalize BytM.cutL st m = l at *
    generalize BytM.cutS st m = st2 at *
    have hl8 : l.length ≤ 8 := by omega
    clear h hw hlen
    go_enter Try.func22, Try.ntmps22
    go_wp2_with fail
    refine (P.out).mono ?_
    rintro e w' ⟨rfl, rfl⟩
    go_wp2_with fail
    refine C.out.mono ?_
    rintro e w2 ⟨A2, c2, rfl, r2, t2, g2⟩
    have R2 := hid r2
    have T2 := hid t2
    have G2 := hid g2
    clear r2 t2 g2 P C
    go_wp2_with fail
    go_loopw [6, 18] (fun u i wr => ∃ (k N : Nat), k ≤ l.length ∧ i = .int .i64 k ∧ u = .int .u64 N ∧ Hid (N = BytM.val (l.take k)) ∧ w2 = wr) (fun _ i _ => l.length - (intOf i).toNat)
    case atStart => exact ⟨0, 0, by omega, rfl, rfl, hid (by simp [BytM.val]), rfl⟩
    case round =>
      obtain ⟨k, N, hk, rfl, rfl, hN, rfl⟩ := hrel
      by_cases hlt : k < l.length
      · have tk : (k : Int) < (l.length : Int) := by omega
        have hb := R2.out.b256
        obtain ⟨b, o, rfl, hbl, _, hr⟩ := R2.out.byt (by omega)
        have q1 := hr k hlt
        have hx := hb.getD k
        have hst := val_step hlt
        have hNb := val_7 hb (k := k) (by omega)
        rw [← hN.out] at hst hNb
        have HST := hid hst
        clear hb hr hst
        generalize l.getD k 0 = x at *
        go_wp2_with fail
        go_roundw
        case rel => exact ⟨k + 1, 256 * N + x, by omega, by go_num, by rw [or_byte N x (by omega) hx], hid HST.out.symm, trivial⟩
        case measure => simp [intOf] <;> omega
      · have e : k = l.length := by omega
        have h2 := hN.out
        rw [List.take_of_length_le (by omega)] at h2
        subst e
        have H2 := hid h2
        clear h2 hN
        go_wp2_with fail
        go_ret
        exact ⟨by rw [H2.out]; rfl, T2.out, G2.out⟩
set_option maxHeartbeats 400000 in
theorem pcut_nil (n : Int) (w : World) : Calls Try.prog 40 #[.pointer none, .int .i64 n] w fun e w' => e = .returned (.slice none 0 0) ∧ w = w' := by
  go_enter Try.func40, Try.ntmps40
  go_wp2_with fail
  refine (torn_nil w).mono ?_
  rintro e w' ⟨rfl, rfl⟩
  go_wp2_with fail
  refine (tear_nil w).mono ?_
  rintro e w' ⟨rfl, rfl⟩
  go_wp2_with fail
  go_ret
  exact ⟨rfl, rfl⟩
set_option maxHeartbeats 400000 in
theorem tnum_nil (n : Int) (w : World) : Calls Try.prog 22 #[.pointer none, .int .i64 n] w fun e w' => e = .returned (.int .u64 0) ∧ w = w' := by
  have P := hid (isw_any n w)
  generalize BytM.isW n = b at *
  cases b with
  | false =>
    go_enter Try.func22, Try.ntmps22
    go_wp2_with fail
    refine (P.out).mono ?_
    rintro e w' ⟨rfl, rfl⟩
    go_wp2_with fail
    refine (tear_nil w).mono ?_
    rintro e w' ⟨rfl, rfl⟩
    go_wp2_with fail
    go_ret
    exact ⟨rfl, rfl⟩
  | true =>
    go_enter Try.func22, Try.ntmps22
    go_wp2_with fail
    refine (P.out).mono ?_
    rintro e w' ⟨rfl, rfl⟩
    go_wp2_with fail
    refine (pcut_nil n w).mono ?_
    rintro e w' ⟨rfl, rfl⟩
    go_wp2_with fail
    go_loopw [6, 18] (fun u i wr => i = .int .i64 0 ∧ u = .int .u64 0 ∧ w = wr) (fun _ _ _ => 0)
    case atStart => exact ⟨rfl, rfl, rfl⟩
    case round =>
      obtain ⟨rfl, rfl, rfl⟩ := hrel
      go_wp2_with fail
      go_ret
      exact ⟨rfl, rfl⟩
set_option maxHeartbeats 400000 in
theorem tbytes_any {g lo : Nat} {st : BytM.Tp} (w : World) (h : Tap w g lo st) (hst : ∀ l, st = some l → l.length ≤ 1000000) (n : Int) :
    Calls Try.prog 24 #[.pointer (some ⟨g, 0, none⟩), .int .i64 n] w fun e w' => ∃ v, e = .returned v ∧ Own 5 .u8 w' w.heap.size v (BytM.cutL st n) ∧ Tap w' g lo (BytM.cutS st n) ∧ w.grownBy w' (some g) := by
  have C := hid (pcut_any w h n)
  have hl : (BytM.cutL st n).length ≤ 1000000 := by
    unfold BytM.cutL
    split
    · exact Nat.zero_le _
    · have := hst _ rfl
      split
      · rw [List.length_take]; omega
      · exact Nat.zero_le _
  have HG := hid h.lt
  generalize BytM.cutL st n = l at *
  generalize BytM.cutS st n = st2 at *
  clear h hst
  go_enter Try.func24, Try.ntmps24
  go_wp2_with fail
  refine C.out.mono ?_
  rintro e w2 ⟨A2, c2, rfl, r2, t2, g2⟩
  have A2' := hid (r2.arg (Nat.le_of_lt t2.lt))
  have T2 := hid t2
  have G2 := hid g2
  clear r2 t2 g2 C
  go_wp2_with fail
  refine (clone_any A2 l l.length c2 hl w2 A2'.out).mono ?_
  rintro e w3 ⟨v3, rfl, o3, b3⟩
  have O3 := hid (o3.lower G2.out.size)
  have T3 := hid (T2.out.below b3 T2.out.lt)
  have G3 := hid (grown_trans G2.out (grown_below b3 _))
  clear o3 b3
  go_wp2_with fail
  go_ret
  exact ⟨_, rfl, O3.out, T3.out, G3.out⟩
end Go.Proofs.Ytiebaiofpihoiaa
