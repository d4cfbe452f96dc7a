/-
  Contract of the document's Parts (casemateref06) over this translation.
-/
import Derived.Test.YtiebaiofpihoiaaRefParts
namespace Go.Proofs.Ytiebaiofpihoiaa
open Go.ChangeShapes Go.WideShapes Go.ChangeAt Go.RowKit
attribute [local go_sem] Gives
theorem PRd.snocN {w : World} {lo hi : Nat} {cs : List Value} {ls : List (List Nat)} (h : PRd w lo hi cs ls) {A' : Option Addr} {l : List Nat} {N c : Nat} (hN : l.length = N) (h2 : Rd w lo hi A' l N c) : PRd w lo hi (cs ++ [.slice A' N c]) (ls ++ [l]) := by
  subst hN
  exact h.snoc h2
theorem drop_cut {l : List Nat} {i n : Nat} (h : i ≤ l.length) (hn : n ≤ l.length - i) : BytM.cutL (some (l.drop i)) (n : Nat) = (l.drop i).take n ∧ BytM.cutS (some (l.drop i)) (n : Nat) = some (l.drop (i + n)) := by
  have hc : (0 : Int) ≤ (n : Int) ∧ (n : Int) ≤ ((l.drop i).length : Int) := by rw [List.length_drop]; omega
  unfold BytM.cutL BytM.cutS
  dsimp only
  rw [if_pos hc, if_pos hc, Int.toNat_natCast, List.drop_drop]
  exact ⟨rfl, rfl⟩
theorem drop_cut_none {l : List Nat} {i n : Nat} (hn : l.length < i + n) (h : i ≤ l.length) : BytM.cutS (some (l.drop i)) (n : Nat) = none := by
  unfold BytM.cutS
  dsimp only
  rw [if_neg (by rw [List.length_drop]; omega)]
theorem num4_none {l : List Nat} {i : Nat} (hn : l.length < i + 4) (h : i ≤ l.length) : BytM.numS (some (l.drop i)) 4 = none := drop_cut_none (n := 4) hn h
theorem num4 {l : List Nat} {i : Nat} (h : i + 4 ≤ l.length) : BytM.numL (some (l.drop i)) 4 = BytM.val ((l.drop i).take 4) ∧ BytM.numS (some (l.drop i)) 4 = some (l.drop (i + 4)) := by
  have := drop_cut (l := l) (i := i) (n := 4) (by omega) (by omega)
  exact ⟨congrArg BytM.val this.1, this.2⟩
set_option maxHeartbeats 400000 in
theorem rparts_short (A : Option Addr) (l : List Nat) (n cap : Nat) (hn : n < 2) (w : World) (hA : Arg w A l n cap) :
    Calls Try.prog 19 #[.slice A n cap] w fun e w' => e = .returned (.tuple #[.int .u8 0, .slice none 0 0, .int .i64 4]) ∧ Below w.heap.size w w' := by
  have t0 : decide ((n : Int) < 2) = true := decide_eq_true (by omega)
  clear hA hn
  go_enter Try.func19, Try.ntmps19
  go_wp2_with fail
  go_ret3
  exact ⟨rfl, Below.refl _ _⟩
theorem Arg.two {w : World} {A : Option Addr} {d m : Nat} {t : List Nat} {n cap : Nat} (h : Arg w A (d :: m :: t) n cap) : ∃ b o, A = some ⟨b, o, .none⟩ ∧ b < w.heap.size ∧ w.cell? ⟨b, o, .none⟩ = some (.int .u8 (d : Nat)) ∧ w.cell? ⟨b, o + 1, .none⟩ = some (.int .u8 (m : Nat)) ∧ d < 256 ∧ m < 256 ∧ n = t.length + 2 := by
  obtain ⟨b, o, e, hb, hr⟩ := h.byt (by simp)
  exact ⟨b, o, e, hb, hr 0 (by simp), hr 1 (by simp), h.b256 _ (by simp), h.b256 _ (by simp), h.len.symm⟩
set_option maxHeartbeats 400000 in
theorem rparts_many (A : Option Addr) (d m : Nat) (t : List Nat) (n cap : Nat) (hm : 16 < m) (w : World) (hA : Arg w A (d :: m :: t) n cap) :
    Calls Try.prog 19 #[.slice A n cap] w fun e w' => e = .returned (.tuple #[.int .u8 0, .slice none 0 0, .int .i64 4]) ∧ Below w.heap.size w w' := by
  obtain ⟨b, o, rfl, _, _, q1, _, hm2, hn⟩ := hA.two
  have t0 : decide ((n : Int) < 2) = false := decide_eq_false (by omega)
  have t1 : decide ((16 : Int) < (m : Int)) = true := decide_eq_true (by omega)
  have t2 : (1 : Int) < (n : Int) := by omega
  clear hA hn hm
  go_enter Try.func19, Try.ntmps19
  go_wp2_with fail
  go_ret3
  exact ⟨rfl, Below.refl _ _⟩
set_option maxHeartbeats 400000 in
set_option maxRecDepth 100000 in
theorem rparts_ok (A : Option Addr) (d m : Nat) (t : List Nat) (n cap : Nat) (hn1 : n ≤ 900000) (hm : m ≤ 16) (h8 : BytM.prsS m (some t) = some []) (w : World) (hA : Arg w A (d :: m :: t) n cap) :
    Calls Try.prog 19 #[.slice A n cap] w fun e w' => ∃ Ap cp, e = .returned (.tuple #[.int .u8 d, .slice Ap (BytM.prsL m (some t)).length cp, .int .i64 0]) ∧ Rws w' Ap (BytM.prsL m (some t)) (BytM.prsL m (some t)).length cp ∧ Below w.heap.size w w' := by
  obtain ⟨b, o, rfl, hbl, q0, q1, hd, hm2, hn⟩ := hA.two
  have t0 : decide ((n : Int) < 2) = false := decide_eq_false (by omega)
  have t1 : decide ((16 : Int) < (m : Int)) = false := decide_eq_false (by omega)
  have t2 : (1 : Int) < (n : Int) := by omega
  have t3 : (0 : Int) < (n : Int) := by omega
  obtain ⟨l, hl⟩ : ∃ l, l = d :: m :: t := ⟨_, rfl⟩
  have hlt : some t = some (l.drop 2) := by rw [hl]; rfl
  rw [← hl] at hA
  have hln := hA.len
  have hcap := hA.cap
  have hmx := hA.max
  unfold maxLen at hmx
  rw [hlt] at h8
  rw [hlt]
  generalize hpl : BytM.prsL m (some (l.drop 2)) = pl at *
  generalize hps : BytM.prsS m (some (l.drop 2)) = stf at *
  have PL := hid hpl
  have PS := hid hps
  have HA := hid hA
  have HLN := hid hln
  have Q := hid fun w' (h : Below w.heap.size w w') => And.intro ((h.cell (p := ⟨b, o, none⟩) hbl).trans q0) ((h.cell (p := ⟨b, o + 1, none⟩) hbl).trans q1)
  clear hA hl hlt hpl hps hln hn
  go_enter Try.func19, Try.ntmps19
  go_wp2_with fail
  clear q0 q1 t0 t1
  go_loopw [5, 6, 7] (fun u av i wr => ∃ (k at0 : Nat) (vs : Value) (cs : List Value) (acc : List (List Nat)), k ≤ m ∧ i = .int .i64 k ∧ av = .int .i64 at0 ∧ at0 ≤ n ∧ u = vs ∧ cs.length ≤ k ∧ Hid (OwnP wr w.heap.size vs cs) ∧ Hid (PRd wr w.heap.size wr.heap.size cs acc) ∧ Hid (PT wr cs) ∧ Hid (acc ++ BytM.prsL (m - k) (some (l.drop at0)) = pl) ∧ Hid (BytM.prsS (m - k) (some (l.drop at0)) = stf) ∧ Hid (Below w.heap.size w wr)) (fun _ _ i _ => m - (intOf i).toNat)
  case atStart => exact ⟨0, 2, _, [], [], by omega, rfl, rfl, by omega, rfl, Nat.le_refl _, hid (OwnP.nil _ _), hid PRd.nil, hid PT.nil, PL, PS, hid (Below.refl _ _)⟩
  case round =>
    clear PL PS
    obtain ⟨k, at0, vs, cs, acc, hk, rfl, rfl, hat, rfl, hcs, ho, hp, hpt, hL, hS, hb⟩ := hrel
    obtain ⟨q0, q1⟩ := Q.out _ hb.out
    by_cases hlt : k < m
    · have tk : (k : Int) < (m : Int) := by omega
      have hMk : m - k = (m - (k + 1)) + 1 := by omega
      by_cases h4 : at0 + 4 ≤ n
      · obtain ⟨at4, e4⟩ : ∃ x, x = at0 + 4 := ⟨_, rfl⟩
        have e4i : (at0 : Int) + 4 = (at4 : Int) := by omega
        have t4 : decide ((n : Int) < (at4 : Int)) = false := decide_eq_false (by omega)
        have a0 := HA.out.on hb.out
        have hn4 := num4 (l := l) (i := at0) (by rw [HLN.out]; exact h4)
        rw [← e4] at hn4
        have hL2 := hL.out
        have hS2 := hS.out
        rw [hMk, BytM.prsL, hn4.1, hn4.2] at hL2
        rw [hMk, BytM.prsS, hn4.1, hn4.2] at hS2
        have hN4 : BytM.val ((l.drop at0).take 4) < 4294967296 := Nat.lt_of_lt_of_le (BytM.val_lt_of ((a0.b256.drop at0).take 4) (w := 4) (by rw [List.length_take]; omega)) (by omega)
        have A0 := hid a0
        have L2 := hid hL2
        have S2 := hid hS2
        have E4 := hid e4
        obtain ⟨N4, hN4e⟩ : ∃ x, x = BytM.val ((l.drop at0).take 4) := ⟨_, rfl⟩
        rw [← hN4e] at hN4 L2 S2
        have NE := hid hN4e
        have hat4 : at4 ≤ n := by omega
        clear hL2 hS2 hL hS hn4 a0 hN4e e4 hMk h4
        go_upto_region 11 with ((with_reducible apply wslN (i := at0) (j := at4) (N := 4)); rfl; rfl; rfl; exact A0.out; exact E4.out; exact hat4; intro A5 a5)
        refine (rval_any A5 _ 4 (cap - at0) (by omega) wr a5).mono ?_
        rintro e w' ⟨rfl, rfl⟩
        rw [← NE.out]
        obtain ⟨R, hR⟩ : ∃ x, x = n - at4 := ⟨_, rfl⟩
        have e2 : (n : Int) - (at4 : Int) = (R : Int) := by omega
        by_cases h5 : N4 ≤ R
        · obtain ⟨at5, e5⟩ : ∃ x, x = at4 + N4 := ⟨_, rfl⟩
          have e5i : (at4 : Int) + (N4 : Int) = (at5 : Int) := by omega
          have t5 : decide ((R : Int) < (N4 : Int)) = false := decide_eq_false (by omega)
          have hat5 : at5 ≤ n := by omega
          have hdc := drop_cut (l := l) (i := at4) (n := N4) (by rw [HLN.out]; exact hat4) (by rw [HLN.out]; omega)
          rw [← e5] at hdc
          have L3 := L2.out
          have S3 := S2.out
          rw [hdc.1, hdc.2] at L3
          rw [hdc.2] at S3
          have hP6 := (A0.out.b256.drop at4).take N4
          have E5 := hid e5
          have L4 := hid L3
          have S4 := hid S3
          have P6 := hid hP6
          clear L3 S3 hdc hP6 e5 hR h5 L2 S2 a5
          go_upto_region 16 with (first
            | ((with_reducible apply wslN (i := at4) (j := at5) (N := N4)); rfl; rfl; rfl; exact A0.out; exact E5.out; exact hat5; intro A7 a7)
            | (at_builtin; (with_reducible apply wappN_any eltB); rfl; rfl; exact a7.none; exact Own.nil (B := w.heap.size); exact a7.byt.nums; exact a7.len; (rw [List.length_nil]; omega); exact hb.out.size; intro v9 w9 o9 g9; rw [List.nil_append] at o9; obtain ⟨A9, c9, e9, r9⟩ := o9.rd P6.out; rw [a7.len] at e9 r9; subst e9))
          have PN := hid a7.len
          generalize (l.drop at4).take N4 = P at *
          have B9 := hid (below_none (Below.refl wr.heap.size wr) g9 (Nat.le_refl _))
          have O9 := hid (ho.out.gr g9 fun k e => by cases e)
          have T9 := hid ((hpt.out.keep g9 fun k cur e => by cases e).snoc o9)
          have P9 := hid (((hp.out.keep hpt.out g9 fun k cur e => by cases e).more g9.size).snocN PN.out r9)
          have W9 := hid (hb.out.trans (B9.out.mono hb.out.size))
          have hwz := W9.out.size
          clear o9 g9 r9 ho hp hpt a7 e2 e4i e5i t4 t5
          go_wp2_with (at_builtin; (with_reducible apply wappP); rfl; rfl; exact O9.out.alloc _; exact Blk.top rfl rfl; omega; (simp; omega); intro v6 w6 o6 g6)
          have g7 := grown_trans (grown_below ((Below.refl w9.heap.size w9).alloc (Nat.le_refl _) (.cells #[.slice A9 N4 c9] 22)) u5.ownBlock) g6
          have p7 := (P9.out.keep T9.out g7 (PT.ne O9.out)).more g7.size
          have t7 := T9.out.keep g7 (PT.ne O9.out)
          have b7 := W9.out.grown g7 W9.out.size fun k e => O9.out.rowGe k e
          go_roundw
          case rel => exact ⟨k + 1, at5, v6, cs ++ [.slice A9 N4 c9], acc ++ [P], by omega, by go_num, by rw [E5.out, Int.natCast_add], hat5, rfl, by rw [List.length_append, List.length_singleton]; omega, hid o6, hid p7, hid t7, hid (by rw [List.append_assoc]; exact L4.out), S4, hid b7⟩
          case measure => simp [intOf] <;> omega
        · have t5 : decide ((R : Int) < (N4 : Int)) = true := decide_eq_true (by omega)
          have t6 : R < N4 := by omega
          have hnn := drop_cut_none (l := l) (i := at4) (n := N4) (by rw [HLN.out]; omega) (by rw [HLN.out]; exact hat4)
          have S3 := S2.out
          rw [hnn, BytM.prs_none] at S3
          have S5 := hid S3
          clear S3 hnn hR h5 a5
          exact absurd (S5.out.trans h8) (fun e => by cases e)
      · have t4 : decide ((n : Int) < (at0 : Int) + 4) = true := decide_eq_true (by omega)
        have S3 := hS.out
        rw [hMk, BytM.prsS, num4_none (by rw [HLN.out]; omega) (by rw [HLN.out]; exact hat), BytM.cut_none, BytM.prs_none] at S3
        have S5 := hid S3
        clear S3 hMk h4
        exact absurd (S5.out.trans h8) (fun e => by cases e)
    · obtain rfl : k = m := by omega
      have L3 := hL.out
      have S3 := hS.out
      rw [Nat.sub_self, BytM.prsL, List.append_nil] at L3
      rw [Nat.sub_self, BytM.prsS] at S3
      rw [h8] at S3
      have hd0 : l.drop at0 = [] := Option.some.inj S3
      have hle := congrArg List.length hd0
      rw [List.length_drop, HLN.out, List.length_nil] at hle
      obtain rfl : at0 = n := by omega
      obtain ⟨A9, c9, e9, r9⟩ := ho.out.rws hp.out (Nat.le_refl _)
      rw [L3] at e9 r9
      subst e9
      have R9 := hid r9
      clear L3 S3 hd0 hle r9 hL hS
      go_wp2_with fail
      go_ret3
      exact ⟨_, _, rfl, R9.out, hb.out⟩
set_option maxHeartbeats 400000 in
set_option maxRecDepth 100000 in
theorem rparts_bad (A : Option Addr) (d m : Nat) (t : List Nat) (n cap : Nat) (hn1 : n ≤ 900000) (hm : m ≤ 16) (h8 : ¬ BytM.prsS m (some t) = some []) (w : World) (hA : Arg w A (d :: m :: t) n cap) :
    Calls Try.prog 19 #[.slice A n cap] w fun e w' => e = .returned (.tuple #[.int .u8 0, .slice none 0 0, .int .i64 4]) ∧ Below w.heap.size w w' := by
  obtain ⟨b, o, rfl, hbl, q0, q1, hd, hm2, hn⟩ := hA.two
  have t0 : decide ((n : Int) < 2) = false := decide_eq_false (by omega)
  have t1 : decide ((16 : Int) < (m : Int)) = false := decide_eq_false (by omega)
  have t2 : (1 : Int) < (n : Int) := by omega
  have t3 : (0 : Int) < (n : Int) := by omega
  obtain ⟨l, hl⟩ : ∃ l, l = d :: m :: t := ⟨_, rfl⟩
  have hlt : some t = some (l.drop 2) := by rw [hl]; rfl
  rw [← hl] at hA
  have hln := hA.len
  have hcap := hA.cap
  have hmx := hA.max
  unfold maxLen at hmx
  rw [hlt] at h8
  generalize hpl : BytM.prsL m (some (l.drop 2)) = pl at *
  generalize hps : BytM.prsS m (some (l.drop 2)) = stf at *
  have PL := hid hpl
  have PS := hid hps
  have HA := hid hA
  have HLN := hid hln
  have Q := hid fun w' (h : Below w.heap.size w w') => And.intro ((h.cell (p := ⟨b, o, none⟩) hbl).trans q0) ((h.cell (p := ⟨b, o + 1, none⟩) hbl).trans q1)
  clear hA hl hlt hpl hps hln hn
  go_enter Try.func19, Try.ntmps19
  go_wp2_with fail
  clear q0 q1 t0 t1
  go_loopw [5, 6, 7] (fun u av i wr => ∃ (k at0 : Nat) (vs : Value) (cs : List Value) (acc : List (List Nat)), k ≤ m ∧ i = .int .i64 k ∧ av = .int .i64 at0 ∧ at0 ≤ n ∧ u = vs ∧ cs.length ≤ k ∧ Hid (OwnP wr w.heap.size vs cs) ∧ Hid (PRd wr w.heap.size wr.heap.size cs acc) ∧ Hid (PT wr cs) ∧ Hid (acc ++ BytM.prsL (m - k) (some (l.drop at0)) = pl) ∧ Hid (BytM.prsS (m - k) (some (l.drop at0)) = stf) ∧ Hid (Below w.heap.size w wr)) (fun _ _ i _ => m - (intOf i).toNat)
  case atStart => exact ⟨0, 2, _, [], [], by omega, rfl, rfl, by omega, rfl, Nat.le_refl _, hid (OwnP.nil _ _), hid PRd.nil, hid PT.nil, PL, PS, hid (Below.refl _ _)⟩
  case round =>
    clear PL PS
    obtain ⟨k, at0, vs, cs, acc, hk, rfl, rfl, hat, rfl, hcs, ho, hp, hpt, hL, hS, hb⟩ := hrel
    obtain ⟨q0, q1⟩ := Q.out _ hb.out
    by_cases hlt : k < m
    · have tk : (k : Int) < (m : Int) := by omega
      have hMk : m - k = (m - (k + 1)) + 1 := by omega
      by_cases h4 : at0 + 4 ≤ n
      · obtain ⟨at4, e4⟩ : ∃ x, x = at0 + 4 := ⟨_, rfl⟩
        have e4i : (at0 : Int) + 4 = (at4 : Int) := by omega
        have t4 : decide ((n : Int) < (at4 : Int)) = false := decide_eq_false (by omega)
        have a0 := HA.out.on hb.out
        have hn4 := num4 (l := l) (i := at0) (by rw [HLN.out]; exact h4)
        rw [← e4] at hn4
        have hL2 := hL.out
        have hS2 := hS.out
        rw [hMk, BytM.prsL, hn4.1, hn4.2] at hL2
        rw [hMk, BytM.prsS, hn4.1, hn4.2] at hS2
        have hN4 : BytM.val ((l.drop at0).take 4) < 4294967296 := Nat.lt_of_lt_of_le (BytM.val_lt_of ((a0.b256.drop at0).take 4) (w := 4) (by rw [List.length_take]; omega)) (by omega)
        have A0 := hid a0
        have L2 := hid hL2
        have S2 := hid hS2
        have E4 := hid e4
        obtain ⟨N4, hN4e⟩ : ∃ x, x = BytM.val ((l.drop at0).take 4) := ⟨_, rfl⟩
        rw [← hN4e] at hN4 L2 S2
        have NE := hid hN4e
        have hat4 : at4 ≤ n := by omega
        clear hL2 hS2 hL hS hn4 a0 hN4e e4 hMk h4
        go_upto_region 11 with ((with_reducible apply wslN (i := at0) (j := at4) (N := 4)); rfl; rfl; rfl; exact A0.out; exact E4.out; exact hat4; intro A5 a5)
        refine (rval_any A5 _ 4 (cap - at0) (by omega) wr a5).mono ?_
        rintro e w' ⟨rfl, rfl⟩
        rw [← NE.out]
        obtain ⟨R, hR⟩ : ∃ x, x = n - at4 := ⟨_, rfl⟩
        have e2 : (n : Int) - (at4 : Int) = (R : Int) := by omega
        by_cases h5 : N4 ≤ R
        · obtain ⟨at5, e5⟩ : ∃ x, x = at4 + N4 := ⟨_, rfl⟩
          have e5i : (at4 : Int) + (N4 : Int) = (at5 : Int) := by omega
          have t5 : decide ((R : Int) < (N4 : Int)) = false := decide_eq_false (by omega)
          have hat5 : at5 ≤ n := by omega
          have hdc := drop_cut (l := l) (i := at4) (n := N4) (by rw [HLN.out]; exact hat4) (by rw [HLN.out]; omega)
          rw [← e5] at hdc
          have L3 := L2.out
          have S3 := S2.out
          rw [hdc.1, hdc.2] at L3
          rw [hdc.2] at S3
          have hP6 := (A0.out.b256.drop at4).take N4
          have E5 := hid e5
          have L4 := hid L3
          have S4 := hid S3
          have P6 := hid hP6
          clear L3 S3 hdc hP6 e5 hR h5 L2 S2 a5
          go_upto_region 16 with (first
            | ((with_reducible apply wslN (i := at4) (j := at5) (N := N4)); rfl; rfl; rfl; exact A0.out; exact E5.out; exact hat5; intro A7 a7)
            | (at_builtin; (with_reducible apply wappN_any eltB); rfl; rfl; exact a7.none; exact Own.nil (B := w.heap.size); exact a7.byt.nums; exact a7.len; (rw [List.length_nil]; omega); exact hb.out.size; intro v9 w9 o9 g9; rw [List.nil_append] at o9; obtain ⟨A9, c9, e9, r9⟩ := o9.rd P6.out; rw [a7.len] at e9 r9; subst e9))
          have PN := hid a7.len
          generalize (l.drop at4).take N4 = P at *
          have B9 := hid (below_none (Below.refl wr.heap.size wr) g9 (Nat.le_refl _))
          have O9 := hid (ho.out.gr g9 fun k e => by cases e)
          have T9 := hid ((hpt.out.keep g9 fun k cur e => by cases e).snoc o9)
          have P9 := hid (((hp.out.keep hpt.out g9 fun k cur e => by cases e).more g9.size).snocN PN.out r9)
          have W9 := hid (hb.out.trans (B9.out.mono hb.out.size))
          have hwz := W9.out.size
          clear o9 g9 r9 ho hp hpt a7 e2 e4i e5i t4 t5
          go_wp2_with (at_builtin; (with_reducible apply wappP); rfl; rfl; exact O9.out.alloc _; exact Blk.top rfl rfl; omega; (simp; omega); intro v6 w6 o6 g6)
          have g7 := grown_trans (grown_below ((Below.refl w9.heap.size w9).alloc (Nat.le_refl _) (.cells #[.slice A9 N4 c9] 22)) u5.ownBlock) g6
          have p7 := (P9.out.keep T9.out g7 (PT.ne O9.out)).more g7.size
          have t7 := T9.out.keep g7 (PT.ne O9.out)
          have b7 := W9.out.grown g7 W9.out.size fun k e => O9.out.rowGe k e
          go_roundw
          case rel => exact ⟨k + 1, at5, v6, cs ++ [.slice A9 N4 c9], acc ++ [P], by omega, by go_num, by rw [E5.out, Int.natCast_add], hat5, rfl, by rw [List.length_append, List.length_singleton]; omega, hid o6, hid p7, hid t7, hid (by rw [List.append_assoc]; exact L4.out), S4, hid b7⟩
          case measure => simp [intOf] <;> omega
        · have t5 : decide ((R : Int) < (N4 : Int)) = true := decide_eq_true (by omega)
          have t6 : R < N4 := by omega
          have hnn := drop_cut_none (l := l) (i := at4) (n := N4) (by rw [HLN.out]; omega) (by rw [HLN.out]; exact hat4)
          have S3 := S2.out
          rw [hnn, BytM.prs_none] at S3
          have S5 := hid S3
          clear S3 hnn hR h5 a5
          go_wp2_with fail
          go_ret3
          exact ⟨rfl, hb.out⟩
      · have t4 : decide ((n : Int) < (at0 : Int) + 4) = true := decide_eq_true (by omega)
        have S3 := hS.out
        rw [hMk, BytM.prsS, num4_none (by rw [HLN.out]; omega) (by rw [HLN.out]; exact hat), BytM.cut_none, BytM.prs_none] at S3
        have S5 := hid S3
        clear S3 hMk h4
        go_wp2_with fail
        go_ret3
        exact ⟨rfl, hb.out⟩
    · obtain rfl : k = m := by omega
      have L3 := hL.out
      have S3 := hS.out
      rw [Nat.sub_self, BytM.prsL, List.append_nil] at L3
      rw [Nat.sub_self, BytM.prsS] at S3
      have hne : at0 ≠ n := fun e => h8 (by rw [← S3, List.drop_of_length_le (by rw [HLN.out]; omega)])
      have t9 : ((at0 : Int) == (n : Int)) = false := by rw [beq_eq_false_iff_ne]; omega
      clear L3 S3 hL hS hne
      go_wp2_with fail
      go_ret3
      exact ⟨rfl, hb.out⟩
theorem rparts_none (A : Option Addr) (l : List Nat) (n cap : Nat) (hn : n ≤ 900000) (h : BytM.parse l = none) (w : World) (hA : Arg w A l n cap) :
    Calls Try.prog 19 #[.slice A n cap] w fun e w' => e = .returned (.tuple #[.int .u8 0, .slice none 0 0, .int .i64 4]) ∧ Below w.heap.size w w' := by
  match l, h, hA with
  | [], _, hA => exact rparts_short A _ n cap (by have := hA.len; simp at this; omega) w hA
  | [_], _, hA => exact rparts_short A _ n cap (by have := hA.len; simp at this; omega) w hA
  | d :: m :: t, h, hA =>
    unfold BytM.parse at h
    dsimp only at h
    by_cases hm : 16 < m
    · exact rparts_many A d m t n cap hm w hA
    · rw [if_neg hm] at h
      by_cases h8 : BytM.prsS m (some t) = some []
      · rw [if_pos h8] at h; cases h
      · exact rparts_bad A d m t n cap hn (by omega) h8 w hA
theorem rparts_some (A : Option Addr) (l : List Nat) (n cap : Nat) (hn : n ≤ 900000) {d : Nat} {ps : List (List Nat)} (h : BytM.parse l = some (d, ps)) (w : World) (hA : Arg w A l n cap) :
    Calls Try.prog 19 #[.slice A n cap] w fun e w' => ∃ Ap cp, e = .returned (.tuple #[.int .u8 d, .slice Ap ps.length cp, .int .i64 0]) ∧ Rws w' Ap ps ps.length cp ∧ Below w.heap.size w w' := by
  match l, h, hA with
  | [], h, _ => cases h
  | [_], h, _ => cases h
  | d' :: m :: t, h, hA =>
    unfold BytM.parse at h
    dsimp only at h
    by_cases hm : 16 < m
    · rw [if_pos hm] at h; cases h
    · rw [if_neg hm] at h
      by_cases h8 : BytM.prsS m (some t) = some []
      · rw [if_pos h8] at h
        simp only [Option.some.injEq, Prod.mk.injEq] at h
        obtain ⟨rfl, rfl⟩ := h
        exact (rparts_ok A d' m t n cap hn (by omega) h8 w hA).mono fun e w' ⟨Ap, cp, h1, h2, h3⟩ => ⟨Ap, cp, h1, h2, h3⟩
      · rw [if_neg h8] at h; cases h
end Go.Proofs.Ytiebaiofpihoiaa
