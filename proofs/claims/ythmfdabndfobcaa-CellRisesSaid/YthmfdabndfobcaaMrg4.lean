/-
  The law CellAlike.
-/
import Derived.Test.YthmfdabndfobcaaMrg3
set_option linter.unusedVariables false
set_option linter.unusedSimpArgs false
set_option maxRecDepth 100000
namespace Go.Proofs.Ythmfdabndfobcaa
open Go.ChangeShapes Go.WideShapes Go.ChangeAt Go.RowKit
attribute [local go_sem] Gives GivesE
namespace ClP
/-- Neither turns what the other one reads. -/
def Sep (M I N J : Cs) : Prop := (∀ b, M b → ¬ (N b ∨ J b)) ∧ ∀ b, N b → ¬ (M b ∨ I b)
theorem Sep.symm {M I N J : Cs} (h : Sep M I N J) : Sep N J M I := ⟨h.2, h.1⟩
section
variable {rep : RepC} {B B2 g g2 : Nat} {w w' : World} {M I M' I' N J : Cs} {L L2 : List Held} {h h2 : Held}
theorem C1.aside (hC : CellC rep) (H2 : C1 rep B2 w g2 N J L2 h2) (hw : Went w M I w' M' I') (hs : Sep M I N J) : C1 rep B2 w' g2 N J L2 h2 ∧ Sep M' I' N J := by
  have l2 := hC.lt H2.prog
  refine ⟨H2.turnC hC hw.2.2 fun b hb e => hs.1 b e hb, fun b hb e => ?_, fun b hb e => ?_⟩
  · rcases hw.1 b hb with x | x
    · exact hs.1 b x e
    · have := l2 b e; omega
  · have := l2 b (.inl hb)
    rcases e with e | e
    · rcases hw.1 b e with x | x
      · exact hs.2 b hb (.inl x)
      · omega
    · rcases hw.2.1 b e with x | x | x
      · exact hs.2 b hb (.inl x)
      · exact hs.2 b hb (.inr x)
      · omega
theorem copy_sep (hC : CellC rep) (H : rep w g M I L h) {Mx Ix : Cs} (hM : ∀ b, Mx b → w.heap.size ≤ b.1) (hI : ∀ b, Ix b → I b ∨ w.heap.size ≤ b.1) : Sep Mx Ix M I := by
  have l1 := hC.lt H
  refine ⟨fun b e e2 => by have := hM b e; have := l1 b e2; omega, fun b e e2 => ?_⟩
  have := l1 b (.inl e)
  rcases e2 with e2 | e2
  · have := hM b e2; omega
  · rcases hI b e2 with x | x
    · exact hC.own H b e x
    · omega
theorem copy_sep2 (hC : CellC rep) (H2 : rep w g2 N J L2 h2) (hs : Sep M I N J) {Mx Ix : Cs} (hM : ∀ b, Mx b → w.heap.size ≤ b.1) (hI : ∀ b, Ix b → I b ∨ w.heap.size ≤ b.1) : Sep Mx Ix N J := by
  have l2 := hC.lt H2
  refine ⟨fun b e e2 => by have := hM b e; have := l2 b e2; omega, fun b e e2 => ?_⟩
  have := l2 b (.inl e)
  rcases e2 with e2 | e2
  · have := hM b e2; omega
  · rcases hI b e2 with x | x
    · exact hs.2 b e (.inr x)
    · omega
end
theorem tag_at {B : Nat} {W : World} {A : Option Addr} {la : List (Nat → Nat)} {n cap k : Nat} (hA : Sli 32 tgL (fun b => b < B) W A la n cap) (hk : k < n) : ∃ (a : Nat → Nat) (b o : Nat), A = some ⟨b, o, none⟩ ∧ ∀ w', Below B W w' → w'.rangeAt b (o + k * 32) (ar 32 a).toList := by
  obtain ⟨a, ha⟩ : ∃ a, la[k]? = some a := ⟨_, List.getElem?_eq_getElem (by rw [hA.len]; exact hk)⟩
  obtain ⟨b, o, e, hb, _, hr⟩ := hA.some ha
  exact ⟨a, b, o, e, fun w' hw j u hj => (hw.cell (p := ⟨b, o + k * 32 + j, none⟩) (show b < B from hb)).trans (hr j u hj)⟩
/-- What one or the other tells of an Advance; what the cell holds then. -/
def advL (L : List Held) (h : Held) (t : Nat → Nat) : List Held := if h.1 < most then L ++ [((h.1 + 1, t) : Held)] else L
def advH (h : Held) (t : Nat → Nat) : Held := if h.1 < most then (h.1 + 1, t) else h
def advN (h : Held) : Int := if h.1 < most then ((h.1 + 1 : Nat) : Int) else 0
def advE (h : Held) : Int := if h.1 < most then 0 else 15
theorem adv_any {rep : RepC} (hC : CellC rep) {w : World} {g : Nat} {M I : Cs} {L : List Held} {h : Held} (H : rep w g M I L h) (hL : L.length ≤ 1000) (hm : h.1 ≤ most) (t : Nat → Nat) :
    Calls Try.prog 12 #[ptr' g, .agg (ar 32 t)] w fun e w' => e = .returned (.tuple #[.int .u64 (advN h), .int .i64 (advE h)]) ∧ outC rep w g M I (advL L h t) (advH h t) w' := by
  unfold advL advH advN advE
  by_cases hc : h.1 < most
  · rw [if_pos hc, if_pos hc, if_pos hc, if_pos hc]
    exact hC.adv H hc hL t
  · rw [if_neg hc, if_neg hc, if_neg hc, if_neg hc]
    exact hC.full H (by omega) t
theorem adv_le (L : List Held) (h : Held) (t : Nat → Nat) : (advL L h t).length ≤ L.length + 1 := by
  unfold advL
  split
  · rw [List.length_append, List.length_cons, List.length_nil]
    exact Nat.le_refl _
  · omega
theorem adv_most {h : Held} (hm : h.1 ≤ most) (t : Nat → Nat) : (advH h t).1 ≤ most := by
  unfold advH
  split
  · assumption
  · exact hm
theorem adv_more (L0 L : List Held) (h : Held) (t : Nat → Nat) (hp : ∃ r, L = L0 ++ r) : ∃ r, advL L h t = L0 ++ r := by
  obtain ⟨r, rfl⟩ := hp
  unfold advL
  split
  · exact ⟨r ++ _, List.append_assoc _ _ _⟩
  · exact ⟨r, rfl⟩
set_option maxHeartbeats 8000000 in
set_option maxRecDepth 100000 in
theorem alike_law {rep : RepC} (hC : CellC rep) (c : Nat) (l0 : Nat → Nat) (A : Option Addr) (la : List (Nat → Nat)) (n cap : Nat) (A2 : Option Addr) (lb : List (Nat → Nat)) (n2 cap2 : Nat) (W : World) (hA : Sli 32 tgL (fun b => b < W.heap.size) W A la n cap) (hA2 : Sli 32 tgL (fun b => b < W.heap.size) W A2 lb n2 cap2) :
    Calls Try.prog 6 #[.agg (ceL (c, l0)).toArray, .slice A n cap, .slice A2 n2 cap2] W fun e w' => e = .returned (.bool true) ∧ Below W.heap.size W w' := by
  have HA := hid hA
  have HA2 := hid hA2
  have hn6 : n ≤ 9223372036854775807 := by have := hA.cap; have := hA.max; unfold maxLen at *; omega
  have hn7 : n2 ≤ 9223372036854775807 := by have := hA2.cap; have := hA2.max; unfold maxLen at *; omega
  clear hA hA2
  go_enter Try.func6, Try.ntmps6
  go_upto_region 1 with fail
  generalize hw1 : World.alloc W _ = w1
  have b1 := hid (show Blk w1 W.heap.size 26 (ceL (c, l0)).toArray by rw [← hw1]; exact Blk.new _ _ _)
  have B1 := hid (show Below W.heap.size W w1 by rw [← hw1]; exact (Below.refl _ _).alloc (Nat.le_refl _) _)
  clear hw1
  go_wp2_with ((with_reducible apply ldR (cs := (ceL (c, l0)).toArray) (tCe (c, l0))); rfl; exact b1.out.whole)
  by_cases hc : c ≤ most
  · refine (hC.new c l0 hc w1).mono ?_
    rintro e w2 ⟨g, M, I, rfl, hr, hMI, h2⟩
    have P := hid (show C1 rep W.heap.size w2 g M I [((c, l0) : Held)] (c, l0) from ⟨hr, fun b hb => Nat.le_trans B1.out.size (hMI b hb), Nat.le_trans B1.out.size h2.size⟩)
    have b2 := hid (b1.out.below h2 b1.out.lt)
    have B2 := hid (B1.out.trans (h2.mono B1.out.size))
    clear hr hMI h2 b1 B1
    unfold ptr'
    go_wp2_with ((with_reducible apply ldR (cs := (ceL (c, l0)).toArray) (tCe (c, l0))); rfl; exact b2.out.whole)
    refine (hC.new c l0 hc w2).mono ?_
    rintro e w3 ⟨gd, Md, Id, rfl, hr, hMI, h3⟩
    have PD := hid (show C1 rep W.heap.size w3 gd Md Id [((c, l0) : Held)] (c, l0) from ⟨hr, fun b hb => Nat.le_trans P.out.base (hMI b hb), Nat.le_trans P.out.base h3.size⟩)
    have PC := hid (P.out.below hC h3)
    have SP := hid (show Sep M I Md Id from ⟨fun b e e2 => by have := hC.lt P.out.prog b (.inl e); have := hMI b e2; omega, fun b e e2 => by have := hC.lt P.out.prog b e2; have := hMI b (.inl e); omega⟩)
    have BW := hid (B2.out.trans (h3.mono B2.out.size))
    clear hr hMI h3 P b2 B2
    unfold ptr'
    go_wp2_with fail
    go_loopw [11] (fun u1 wr => ∃ (k : Nat) (M I Md Id : Cs) (L : List Held) (h : Held), u1 = .int .i64 k ∧ k ≤ n ∧ k ≤ 30 ∧ L.length ≤ k + 1 ∧ h.1 ≤ most ∧ Hid (C1 rep W.heap.size wr g M I L h) ∧ Hid (C1 rep W.heap.size wr gd Md Id L h) ∧ Hid (Sep M I Md Id) ∧ Hid (Below W.heap.size W wr)) (fun u1 _ => 30 - (intOf u1).toNat)
    case atStart => exact ⟨0, M, I, Md, Id, _, _, rfl, Nat.zero_le _, by omega, by simp, hc, PC, PD, SP, BW⟩
    case round =>
      clear PC PD SP BW
      obtain ⟨k, M, I, Md, Id, L, h, rfl, hkn, hk30, hL, hm, PC, PD, SP, BW⟩ := hrel
      by_cases hgo : k < n ∧ k < 30
      · obtain ⟨hgo1, hgo2⟩ := hgo
        have t1 : (k : Int) < (n : Int) := by omega
        have t2 : (k : Int) < 30 := by omega
        obtain ⟨a, b, o, rfl, hr⟩ := tag_at HA.out hgo1
        have HR := hid hr
        clear hr
        go_wp2_with ((with_reducible apply ldAm tTg); rfl; exact HR.out _ BW.out)
        refine (adv_any hC PC.out.prog (by omega) hm a).mono ?_
        rintro e w4 ⟨rfl, ho⟩
        obtain ⟨M4, I4, p4, g4⟩ := PC.out.out ho
        have PC4 := hid p4
        have X4 := hid (PD.out.aside hC g4 SP.out)
        have BW4 := hid (BW.out.trans (PC.out.went g4))
        obtain ⟨nv, hnv⟩ : ∃ x, x = advN h := ⟨_, rfl⟩
        obtain ⟨ev, hev⟩ : ∃ x, x = advE h := ⟨_, rfl⟩
        have HNV := hid (And.intro hnv hev)
        rw [← hnv, ← hev]
        clear ho p4 g4 PC PD SP BW hnv hev
        go_wp2_with ((with_reducible apply ldAm tTg); rfl; exact HR.out _ BW4.out)
        refine (adv_any hC X4.out.1.prog (by omega) hm a).mono ?_
        rintro e w5 ⟨rfl, ho⟩
        obtain ⟨M5, I5, p5, g5⟩ := X4.out.1.out ho
        have X5 := hid (PC4.out.aside hC g5 X4.out.2.symm)
        have PD5 := hid p5
        have BW5 := hid (BW4.out.trans (X4.out.1.went g5))
        rw [← HNV.out.1, ← HNV.out.2]
        have PC5 := hid X5.out.1
        have SP5 := hid X5.out.2.symm
        have hL5 := adv_le L h a
        have hm5 := adv_most hm a
        obtain ⟨L5, hL5e⟩ : ∃ x, x = advL L h a := ⟨_, rfl⟩
        obtain ⟨h5, hh5⟩ : ∃ x, x = advH h a := ⟨_, rfl⟩
        rw [← hL5e] at PC5 PD5 hL5
        rw [← hh5] at PC5 PD5 hm5
        clear ho p5 g5 X4 X5 PC4 BW4 HNV hL5e hh5
        go_wp2_with fail
        go_roundw
        case rel => exact ⟨k + 1, _, _, _, _, L5, h5, by go_num, by omega, by omega, by omega, hm5, PC5, PD5, SP5, BW5⟩
        case measure => simp [intOf] <;> omega
      · by_cases hk1 : k < n
        · have hk2 : ¬ k < 30 := fun e => hgo ⟨hk1, e⟩
          have t1 : (k : Int) < (n : Int) := by omega
          have t2 : decide ((k : Int) < 30) = false := by simp; omega
          clear hgo
          go_wp2_with fail
          refine (hC.copy PC.out.prog (by omega)).mono ?_
          rintro e w4 ⟨gx, Mx, Ix, rfl, h4, hM, hI, hb⟩
          have S1 := hid (copy_sep hC PC.out.prog hM hI)
          have S2 := hid (copy_sep2 hC PD.out.prog SP.out hM hI)
          have PX := hid (show C1 rep W.heap.size w4 gx Mx Ix L h from ⟨h4, fun b e => by
            rcases e with e | e
            · exact Nat.le_trans PC.out.base (hM b e)
            · rcases hI b e with x | x
              · exact PC.out.low b (.inr x)
              · exact Nat.le_trans PC.out.base x, Nat.le_trans PC.out.base hb.size⟩)
          have PC4 := hid (PC.out.below hC hb)
          have PD4 := hid (PD.out.below hC hb)
          have BW4 := hid (BW.out.trans (hb.mono BW.out.size))
          have hLc : L.length ≤ 31 := by omega
          unfold ptr'
          clear h4 hM hI hb PC PD BW
          go_wp2_with fail
          go_loopw [17] (fun u1 wr => ∃ (k : Nat) (Mx Ix Md Id : Cs) (L2 : List Held) (h2 : Held), u1 = .int .i64 k ∧ k ≤ n2 ∧ k ≤ 30 ∧ L2.length ≤ k + 31 ∧ h2.1 ≤ most ∧ Hid (∃ r, L2 = L ++ r) ∧ Hid (C1 rep W.heap.size wr gx Mx Ix L2 h2) ∧ Hid (C1 rep W.heap.size wr gd Md Id L2 h2) ∧ Hid (C1 rep W.heap.size wr g M I L h) ∧
            Hid (Sep Mx Ix Md Id) ∧ Hid (Sep Mx Ix M I) ∧ Hid (Sep Md Id M I) ∧ Hid (Below W.heap.size W wr)) (fun u1 _ => 30 - (intOf u1).toNat)
          case atStart => exact ⟨0, Mx, Ix, Md, Id, L, h, rfl, Nat.zero_le _, by omega, by omega, hm, hid ⟨[], (List.append_nil _).symm⟩, PX, PD4, PC4, S2, S1, hid SP.out.symm, BW4⟩
          case round =>
            clear PX PD4 PC4 S1 S2 SP BW4
            obtain ⟨q, Mx, Ix, Md, Id, L2, h2, rfl, hqn, hq30, hL2, hm2, HP, PX, PD, PC, S1, S2, S3, BW⟩ := hrel
            by_cases hgo2 : q < n2 ∧ q < 30
            · obtain ⟨hgo3, hgo4⟩ := hgo2
              have t5 : (q : Int) < (n2 : Int) := by omega
              have t6 : (q : Int) < 30 := by omega
              obtain ⟨a, b, o, rfl, hr⟩ := tag_at HA2.out hgo3
              have HR := hid hr
              clear hr
              go_wp2_with ((with_reducible apply ldAm tTg); rfl; exact HR.out _ BW.out)
              refine (adv_any hC PX.out.prog (by omega) hm2 a).mono ?_
              rintro e w6 ⟨rfl, ho⟩
              obtain ⟨M6, I6, p6, g6⟩ := PX.out.out ho
              have PX6 := hid p6
              have XD := hid (PD.out.aside hC g6 S1.out)
              have XC := hid (PC.out.aside hC g6 S2.out)
              have BW6 := hid (BW.out.trans (PX.out.went g6))
              clear ho p6 g6 PX PD PC S1 S2 BW
              go_wp2_with ((with_reducible apply ldAm tTg); rfl; exact HR.out _ BW6.out)
              refine (adv_any hC XD.out.1.prog (by omega) hm2 a).mono ?_
              rintro e w7 ⟨rfl, ho⟩
              obtain ⟨M7, I7, p7, g7⟩ := XD.out.1.out ho
              have PD7 := hid p7
              have YX := hid (PX6.out.aside hC g7 XD.out.2.symm)
              have YC := hid (XC.out.1.aside hC g7 S3.out)
              have BW7 := hid (BW6.out.trans (XD.out.1.went g7))
              have SXC := hid XC.out.2
              have hL7 := adv_le L2 h2 a
              have hm7 := adv_most hm2 a
              have HP7 := hid (adv_more L L2 h2 a HP.out)
              clear ho p7 g7 PX6 XD XC S3 BW6
              go_wp2_with fail
              go_roundw
              case rel => exact ⟨q + 1, _, _, _, _, _, _, by go_num, by omega, by omega, by omega, hm7, HP7, hid YX.out.1, PD7, hid YC.out.1, hid YX.out.2.symm, SXC, hid YC.out.2, BW7⟩
              case measure => simp [intOf] <;> omega
            · by_cases hq1 : q < n2
              · have hq2 : ¬ q < 30 := fun e => hgo2 ⟨hq1, e⟩
                have t5 : (q : Int) < (n2 : Int) := by omega
                have t6 : decide ((q : Int) < 30) = false := by simp; omega
                clear hgo2
                go_wp2_with fail
                refine (hC.hist PC.out.prog (by omega)).mono ?_
                rintro e wa ⟨va, rfl, oa, h⟩
                obtain ⟨Aa, ca, rfl, sa⟩ := oa.sli ceL_len
                have SA := hid (sa.mono (T := fun _ => True) fun _ _ => trivial)
                have PXa := hid (PX.out.below hC h)
                have PDa := hid (PD.out.below hC h)
                have BA := hid (BW.out.trans (h.mono BW.out.size))
                clear oa sa h PX PD PC S1 S2 S3 BW
                go_wp2_with fail
                refine (hC.hist PXa.out.prog (by omega)).mono ?_
                rintro e wb ⟨vb, rfl, ob, h⟩
                obtain ⟨Ab, cb, rfl, sb⟩ := ob.sli ceL_len
                have SB := hid (sb.mono (T := fun _ => True) fun _ _ => trivial)
                have SA := hid (SA.out.turn (Turn.of_new (S := fun _ => False) h) fun _ _ _ e => e)
                have PDb := hid (PDa.out.below hC h)
                have BB := hid (BA.out.trans (h.mono BA.out.size))
                clear ob sb h PXa PDa BA
                go_wp2_with fail
                refine (hC.hist PDb.out.prog (by omega)).mono ?_
                rintro e wc ⟨vc, rfl, oc, h⟩
                obtain ⟨Ac, cc, rfl, sc⟩ := oc.sli ceL_len
                have SC := hid (sc.mono (T := fun _ => True) fun _ _ => trivial)
                have SA := hid (SA.out.turn (Turn.of_new (S := fun _ => False) h) fun _ _ _ e => e)
                have SB := hid (SB.out.turn (Turn.of_new (S := fun _ => False) h) fun _ _ _ e => e)
                have BC := hid (BB.out.trans (h.mono BB.out.size))
                clear oc sc h PDb BB
                obtain ⟨N0, hN0⟩ : ∃ x, x = L.length := ⟨_, rfl⟩
                obtain ⟨N2, hN2⟩ : ∃ x, x = L2.length := ⟨_, rfl⟩
                have hle : N0 ≤ N2 := by obtain ⟨r, hr⟩ := HP.out; rw [hN0, hN2, hr, List.length_append]; omega
                have HPF := hid (show ∀ q x, L[q]? = some x → L2[q]? = some x from fun q x hx => by
                  obtain ⟨r, hr⟩ := HP.out
                  rw [hr, List.getElem?_append_left (List.getElem?_eq_some_iff.1 hx).1]; exact hx)
                have hN2' : N2 ≤ 61 := by omega
                rw [← hN0] at SA ⊢
                rw [← hN2] at SB SC ⊢
                have HN := hid (And.intro hN0 hN2)
                have t7 : decide ((N2 : Int) < (N0 : Int)) = false := by simp; omega
                have t8 : ¬ N2 < N0 := by omega
                clear hN0 hN2 HP hL2 hLc
                go_wp2_with fail
                go_loopw [21] (fun u wr => ∃ q : Nat, u = .int .i64 q ∧ q ≤ N2 ∧ Hid (Below wc.heap.size wc wr)) (fun u _ => N2 - (intOf u).toNat)
                case atStart => exact ⟨0, rfl, Nat.zero_le _, hid (Below.refl _ _)⟩
                case round =>
                  obtain ⟨i, rfl, hi, hW⟩ := hrel
                  by_cases hgo5 : i < N2
                  · have t9 : (i : Int) < (N2 : Int) := by omega
                    obtain ⟨x, hx⟩ : ∃ x, L2[i]? = some x := ⟨_, List.getElem?_eq_getElem (by rw [← HN.out.2]; exact hgo5)⟩
                    have SBr := hid (SB.out.turn (Turn.of_new (S := fun _ => False) hW.out) fun _ _ _ e => e)
                    have SCr := hid (SC.out.turn (Turn.of_new (S := fun _ => False) hW.out) fun _ _ _ e => e)
                    have SAr := hid (SA.out.turn (Turn.of_new (S := fun _ => False) hW.out) fun _ _ _ e => e)
                    obtain ⟨bb, ob, rfl, _, hbb, rb⟩ := SBr.out.some hx
                    obtain ⟨bc, oc, rfl, _, hbc, rc⟩ := SCr.out.some hx
                    have RB := hid rb
                    have RC := hid rc
                    by_cases hi0 : i < N0
                    · have t10 : (i : Int) < (N0 : Int) := by omega
                      obtain ⟨y, hy⟩ : ∃ y, L[i]? = some y := ⟨_, List.getElem?_eq_getElem (by rw [← HN.out.1]; exact hi0)⟩
                      have hxy := HPF.out i y hy
                      rw [hx] at hxy
                      cases hxy
                      obtain ⟨ba, oa, rfl, _, hba, ra⟩ := SAr.out.some hy
                      have RA := hid ra
                      clear rb rc ra hx hy SBr SCr SAr
                      go_upto_region 26 with fail
                      refine wp_region_tail (C := fun w' => Below wr.heap.size wr w') 26 (by kernel_rfl) (by kernel_rfl) (by kernel_rfl) (Below.refl _ _).drew ?_
                      simp only [List.take_succ_cons, List.take_zero, List.drop_succ_cons, List.drop_zero]

                      apply wpK_val
                      · rfl
                      · intro w' hw'
                        go_simp
                        first | exact rfl | exact ⟨rfl, hw'⟩
                      simp only [Act.put, List.setIfInBounds_toArray, List.set_cons_succ, List.set_cons_zero]
                      apply wpK_val
                      · rfl
                      · intro w' hw'
                        go_simp
                        first | exact rfl | exact ⟨rfl, hw'⟩
                      simp only [Act.put, List.setIfInBounds_toArray, List.set_cons_succ, List.set_cons_zero]
                      apply wpK_val
                      · rfl
                      · intro w' hw'
                        go_simp
                        first | exact rfl | exact ⟨rfl, hw'⟩
                      simp only [Act.put, List.setIfInBounds_toArray, List.set_cons_succ, List.set_cons_zero]
                      apply wpK_val
                      · rfl
                      · intro w' hw'
                        go_simp
                        first | exact rfl | exact ⟨rfl, hw'⟩
                      simp only [Act.put, List.setIfInBounds_toArray, List.set_cons_succ, List.set_cons_zero]
                      apply wpK_val
                      · rfl
                      · intro w' hw'
                        go_simp
                        first | exact rfl | exact ⟨rfl, hw'⟩
                      simp only [Act.put, List.setIfInBounds_toArray, List.set_cons_succ, List.set_cons_zero]
                      apply wpK_val
                      · rfl
                      · intro w' hw'
                        go_simp
                        first | exact rfl | exact ⟨rfl, hw'⟩
                      simp only [Act.put, List.setIfInBounds_toArray, List.set_cons_succ, List.set_cons_zero]
                      apply wpK_val
                      · rfl
                      · intro w' hw'
                        go_simp
                        first | exact rfl | exact ⟨rfl, hw'⟩
                      simp only [Act.put, List.setIfInBounds_toArray, List.set_cons_succ, List.set_cons_zero]
                      apply wpK_val
                      · rfl
                      · intro w' hw'
                        go_simp
                        first | exact rfl | exact ⟨rfl, hw'⟩
                      simp only [Act.put, List.setIfInBounds_toArray, List.set_cons_succ, List.set_cons_zero]
                      apply kldR (cs := (ceL x).toArray) (tCe x)
                      · rfl
                      · rfl
                      · exact fun w' hw' j v hj => (hw'.cell (p := ⟨ba, oa + i * 33 + j, none⟩) hba).trans (RA.out j v hj)
                      simp only [Act.put, List.setIfInBounds_toArray, List.set_cons_succ, List.set_cons_zero]
                      apply wpK_val
                      · rfl
                      · intro w' hw'
                        go_simp
                        first | exact rfl | exact ⟨rfl, hw'⟩
                      simp only [Act.put, List.setIfInBounds_toArray, List.set_cons_succ, List.set_cons_zero]
                      apply wpK_val
                      · rfl
                      · intro w' hw'
                        go_simp
                        first | exact rfl | exact ⟨rfl, hw'⟩
                      simp only [Act.put, List.setIfInBounds_toArray, List.set_cons_succ, List.set_cons_zero]
                      apply wpK_val
                      · rfl
                      · intro w' hw'
                        go_simp
                        first | exact rfl | exact ⟨rfl, hw'⟩
                      simp only [Act.put, List.setIfInBounds_toArray, List.set_cons_succ, List.set_cons_zero]
                      apply kldR (cs := (ceL x).toArray) (tCe x)
                      · rfl
                      · rfl
                      · exact fun w' hw' j v hj => (hw'.cell (p := ⟨bb, ob + i * 33 + j, none⟩) hbb).trans (RB.out j v hj)
                      simp only [Act.put, List.setIfInBounds_toArray, List.set_cons_succ, List.set_cons_zero]
                      apply kneC (p := x) (q := x) false
                      · rfl
                      · rfl
                      · rfl
                      · rw [ceq_refl]; rfl
                      simp only [Act.put, List.setIfInBounds_toArray, List.set_cons_succ, List.set_cons_zero]
                      apply wpK_val
                      · rfl
                      · intro w' hw'
                        go_simp
                        first | exact rfl | exact ⟨rfl, hw'⟩
                      simp only [Act.put, List.setIfInBounds_toArray, List.set_cons_succ, List.set_cons_zero]
                      apply wpK_val
                      · rfl
                      · intro w' hw'
                        go_simp
                        first | exact rfl | exact ⟨rfl, hw'⟩
                      simp only [Act.put, List.setIfInBounds_toArray, List.set_cons_succ, List.set_cons_zero]
                      apply wpK_val
                      · rfl
                      · intro w' hw'
                        go_simp
                        first | exact rfl | exact ⟨rfl, hw'⟩
                      simp only [Act.put, List.setIfInBounds_toArray, List.set_cons_succ, List.set_cons_zero]
                      apply wpK_val
                      · rfl
                      · intro w' hw'
                        go_simp
                        first | exact rfl | exact ⟨rfl, hw'⟩
                      simp only [Act.put, List.setIfInBounds_toArray, List.set_cons_succ, List.set_cons_zero]
                      apply wpK_val
                      · rfl
                      · intro w' hw'
                        go_simp
                        first | exact rfl | exact ⟨rfl, hw'⟩
                      simp only [Act.put, List.setIfInBounds_toArray, List.set_cons_succ, List.set_cons_zero]
                      apply kldR (cs := (ceL x).toArray) (tCe x)
                      · rfl
                      · rfl
                      · exact fun w' hw' j v hj => (hw'.cell (p := ⟨bb, ob + i * 33 + j, none⟩) hbb).trans (RB.out j v hj)
                      simp only [Act.put, List.setIfInBounds_toArray, List.set_cons_succ, List.set_cons_zero]
                      apply wpK_val
                      · rfl
                      · intro w' hw'
                        go_simp
                        first | exact rfl | exact ⟨rfl, hw'⟩
                      simp only [Act.put, List.setIfInBounds_toArray, List.set_cons_succ, List.set_cons_zero]
                      apply wpK_val
                      · rfl
                      · intro w' hw'
                        go_simp
                        first | exact rfl | exact ⟨rfl, hw'⟩
                      simp only [Act.put, List.setIfInBounds_toArray, List.set_cons_succ, List.set_cons_zero]
                      apply wpK_val
                      · rfl
                      · intro w' hw'
                        go_simp
                        first | exact rfl | exact ⟨rfl, hw'⟩
                      simp only [Act.put, List.setIfInBounds_toArray, List.set_cons_succ, List.set_cons_zero]
                      apply kldR (cs := (ceL x).toArray) (tCe x)
                      · rfl
                      · rfl
                      · exact fun w' hw' j v hj => (hw'.cell (p := ⟨bc, oc + i * 33 + j, none⟩) hbc).trans (RC.out j v hj)
                      simp only [Act.put, List.setIfInBounds_toArray, List.set_cons_succ, List.set_cons_zero]
                      apply kneC (p := x) (q := x) false
                      · rfl
                      · rfl
                      · rfl
                      · rw [ceq_refl]; rfl
                      simp only [Act.put, List.setIfInBounds_toArray, List.set_cons_succ, List.set_cons_zero]
                      apply wpK_val
                      · rfl
                      · intro w' hw'
                        go_simp
                        first | exact rfl | exact ⟨rfl, hw'⟩
                      simp only [Act.put, List.setIfInBounds_toArray, List.set_cons_succ, List.set_cons_zero]
                      apply wpK_nil
                      intro we he
                      have WE := hid (hW.out.trans (he.mono hW.out.size))
                      clear hW RB RC he
                      go_wp2_with fail
                      go_roundw
                      case rel => exact ⟨i + 1, by go_num, by omega, WE⟩
                      case measure => simp [intOf] <;> omega
                    · have t10 : decide ((i : Int) < (N0 : Int)) = false := by simp; omega
                      have t11 : ¬ i < N0 := hi0
                      clear rb rc hx SBr SCr SAr
                      go_upto_region 26 with fail
                      refine wp_region_tail (C := fun w' => Below wr.heap.size wr w') 26 (by kernel_rfl) (by kernel_rfl) (by kernel_rfl) (Below.refl _ _).drew ?_
                      simp only [List.take_succ_cons, List.take_zero, List.drop_succ_cons, List.drop_zero]
                      apply wpK_val
                      · rfl
                      · intro w' hw'
                        go_simp
                        first | exact rfl | exact ⟨rfl, hw'⟩
                      simp only [Act.put, List.setIfInBounds_toArray, List.set_cons_succ, List.set_cons_zero]
                      apply wpK_val
                      · rfl
                      · intro w' hw'
                        go_simp
                        first | exact rfl | exact ⟨rfl, hw'⟩
                      simp only [Act.put, List.setIfInBounds_toArray, List.set_cons_succ, List.set_cons_zero]
                      apply wpK_val
                      · rfl
                      · intro w' hw'
                        go_simp
                        first | exact rfl | exact ⟨rfl, hw'⟩
                      simp only [Act.put, List.setIfInBounds_toArray, List.set_cons_succ, List.set_cons_zero]
                      apply wpK_val
                      · rfl
                      · intro w' hw'
                        go_simp
                        first | exact rfl | exact ⟨rfl, hw'⟩
                      simp only [Act.put, List.setIfInBounds_toArray, List.set_cons_succ, List.set_cons_zero]
                      apply wpK_val
                      · rfl
                      · intro w' hw'
                        go_simp
                        first | exact rfl | exact ⟨rfl, hw'⟩
                      simp only [Act.put, List.setIfInBounds_toArray, List.set_cons_succ, List.set_cons_zero]
                      apply wpK_not
                      · rfl
                      simp only [Act.put, List.setIfInBounds_toArray, List.set_cons_succ, List.set_cons_zero]
                      apply wpK_not
                      · rfl
                      simp only [Act.put, List.setIfInBounds_toArray, List.set_cons_succ, List.set_cons_zero]
                      apply wpK_not
                      · rfl
                      simp only [Act.put, List.setIfInBounds_toArray, List.set_cons_succ, List.set_cons_zero]
                      apply wpK_not
                      · rfl
                      simp only [Act.put, List.setIfInBounds_toArray, List.set_cons_succ, List.set_cons_zero]
                      apply wpK_not
                      · rfl
                      simp only [Act.put, List.setIfInBounds_toArray, List.set_cons_succ, List.set_cons_zero]
                      apply wpK_not
                      · rfl
                      simp only [Act.put, List.setIfInBounds_toArray, List.set_cons_succ, List.set_cons_zero]
                      apply wpK_not
                      · rfl
                      simp only [Act.put, List.setIfInBounds_toArray, List.set_cons_succ, List.set_cons_zero]
                      apply wpK_not
                      · rfl
                      simp only [Act.put, List.setIfInBounds_toArray, List.set_cons_succ, List.set_cons_zero]
                      apply wpK_not
                      · rfl
                      simp only [Act.put, List.setIfInBounds_toArray, List.set_cons_succ, List.set_cons_zero]
                      apply wpK_val
                      · rfl
                      · intro w' hw'
                        go_simp
                        first | exact rfl | exact ⟨rfl, hw'⟩
                      simp only [Act.put, List.setIfInBounds_toArray, List.set_cons_succ, List.set_cons_zero]
                      apply wpK_val
                      · rfl
                      · intro w' hw'
                        go_simp
                        first | exact rfl | exact ⟨rfl, hw'⟩
                      simp only [Act.put, List.setIfInBounds_toArray, List.set_cons_succ, List.set_cons_zero]
                      apply wpK_val
                      · rfl
                      · intro w' hw'
                        go_simp
                        first | exact rfl | exact ⟨rfl, hw'⟩
                      simp only [Act.put, List.setIfInBounds_toArray, List.set_cons_succ, List.set_cons_zero]
                      apply wpK_val
                      · rfl
                      · intro w' hw'
                        go_simp
                        first | exact rfl | exact ⟨rfl, hw'⟩
                      simp only [Act.put, List.setIfInBounds_toArray, List.set_cons_succ, List.set_cons_zero]
                      apply wpK_val
                      · rfl
                      · intro w' hw'
                        go_simp
                        first | exact rfl | exact ⟨rfl, hw'⟩
                      simp only [Act.put, List.setIfInBounds_toArray, List.set_cons_succ, List.set_cons_zero]
                      apply kldR (cs := (ceL x).toArray) (tCe x)
                      · rfl
                      · rfl
                      · exact fun w' hw' j v hj => (hw'.cell (p := ⟨bb, ob + i * 33 + j, none⟩) hbb).trans (RB.out j v hj)
                      simp only [Act.put, List.setIfInBounds_toArray, List.set_cons_succ, List.set_cons_zero]
                      apply wpK_val
                      · rfl
                      · intro w' hw'
                        go_simp
                        first | exact rfl | exact ⟨rfl, hw'⟩
                      simp only [Act.put, List.setIfInBounds_toArray, List.set_cons_succ, List.set_cons_zero]
                      apply wpK_val
                      · rfl
                      · intro w' hw'
                        go_simp
                        first | exact rfl | exact ⟨rfl, hw'⟩
                      simp only [Act.put, List.setIfInBounds_toArray, List.set_cons_succ, List.set_cons_zero]
                      apply wpK_val
                      · rfl
                      · intro w' hw'
                        go_simp
                        first | exact rfl | exact ⟨rfl, hw'⟩
                      simp only [Act.put, List.setIfInBounds_toArray, List.set_cons_succ, List.set_cons_zero]
                      apply kldR (cs := (ceL x).toArray) (tCe x)
                      · rfl
                      · rfl
                      · exact fun w' hw' j v hj => (hw'.cell (p := ⟨bc, oc + i * 33 + j, none⟩) hbc).trans (RC.out j v hj)
                      simp only [Act.put, List.setIfInBounds_toArray, List.set_cons_succ, List.set_cons_zero]
                      apply kneC (p := x) (q := x) false
                      · rfl
                      · rfl
                      · rfl
                      · rw [ceq_refl]; rfl
                      simp only [Act.put, List.setIfInBounds_toArray, List.set_cons_succ, List.set_cons_zero]
                      apply wpK_val
                      · rfl
                      · intro w' hw'
                        go_simp
                        first | exact rfl | exact ⟨rfl, hw'⟩
                      simp only [Act.put, List.setIfInBounds_toArray, List.set_cons_succ, List.set_cons_zero]
                      apply wpK_nil
                      intro we he
                      have WE := hid (hW.out.trans (he.mono hW.out.size))
                      clear hW RB RC he
                      go_wp2_with fail
                      go_roundw
                      case rel => exact ⟨i + 1, by go_num, by omega, WE⟩
                      case measure => simp [intOf] <;> omega
                  · have hie : i = N2 := by omega
                    have t9 : ¬ i < N2 := hgo5
                    have t10 : decide ((i : Int) < (N2 : Int)) = false := by simp; omega
                    have BE := hid (BC.out.trans (hW.out.mono BC.out.size))
                    clear hW SA SB SC BC HPF HN hie
                    go_wp2_with fail
                    refine (works_any hC wr).mono ?_
                    rintro e w9 ⟨rfl, h9⟩
                    have B9 := hid (BE.out.trans (h9.mono BE.out.size))
                    clear h9 BE
                    go_wp2_with fail
                    refine bodyPost_ret (results_tmp (t := 6) rfl _ _ _) rfl ?_
                    exact ⟨rfl, B9.out⟩
              · have hq2 : ¬ q < n2 := hq1
                have t5 : decide ((q : Int) < (n2 : Int)) = false := by simp; omega
                clear hgo2 hq1
                go_wp2_with fail
                refine (hC.hist PC.out.prog (by omega)).mono ?_
                rintro e wa ⟨va, rfl, oa, h⟩
                obtain ⟨Aa, ca, rfl, sa⟩ := oa.sli ceL_len
                have SA := hid (sa.mono (T := fun _ => True) fun _ _ => trivial)
                have PXa := hid (PX.out.below hC h)
                have PDa := hid (PD.out.below hC h)
                have BA := hid (BW.out.trans (h.mono BW.out.size))
                clear oa sa h PX PD PC S1 S2 S3 BW
                go_wp2_with fail
                refine (hC.hist PXa.out.prog (by omega)).mono ?_
                rintro e wb ⟨vb, rfl, ob, h⟩
                obtain ⟨Ab, cb, rfl, sb⟩ := ob.sli ceL_len
                have SB := hid (sb.mono (T := fun _ => True) fun _ _ => trivial)
                have SA := hid (SA.out.turn (Turn.of_new (S := fun _ => False) h) fun _ _ _ e => e)
                have PDb := hid (PDa.out.below hC h)
                have BB := hid (BA.out.trans (h.mono BA.out.size))
                clear ob sb h PXa PDa BA
                go_wp2_with fail
                refine (hC.hist PDb.out.prog (by omega)).mono ?_
                rintro e wc ⟨vc, rfl, oc, h⟩
                obtain ⟨Ac, cc, rfl, sc⟩ := oc.sli ceL_len
                have SC := hid (sc.mono (T := fun _ => True) fun _ _ => trivial)
                have SA := hid (SA.out.turn (Turn.of_new (S := fun _ => False) h) fun _ _ _ e => e)
                have SB := hid (SB.out.turn (Turn.of_new (S := fun _ => False) h) fun _ _ _ e => e)
                have BC := hid (BB.out.trans (h.mono BB.out.size))
                clear oc sc h PDb BB
                obtain ⟨N0, hN0⟩ : ∃ x, x = L.length := ⟨_, rfl⟩
                obtain ⟨N2, hN2⟩ : ∃ x, x = L2.length := ⟨_, rfl⟩
                have hle : N0 ≤ N2 := by obtain ⟨r, hr⟩ := HP.out; rw [hN0, hN2, hr, List.length_append]; omega
                have HPF := hid (show ∀ q x, L[q]? = some x → L2[q]? = some x from fun q x hx => by
                  obtain ⟨r, hr⟩ := HP.out
                  rw [hr, List.getElem?_append_left (List.getElem?_eq_some_iff.1 hx).1]; exact hx)
                have hN2' : N2 ≤ 61 := by omega
                rw [← hN0] at SA ⊢
                rw [← hN2] at SB SC ⊢
                have HN := hid (And.intro hN0 hN2)
                have t7 : decide ((N2 : Int) < (N0 : Int)) = false := by simp; omega
                have t8 : ¬ N2 < N0 := by omega
                clear hN0 hN2 HP hL2 hLc
                go_wp2_with fail
                go_loopw [21] (fun u wr => ∃ q : Nat, u = .int .i64 q ∧ q ≤ N2 ∧ Hid (Below wc.heap.size wc wr)) (fun u _ => N2 - (intOf u).toNat)
                case atStart => exact ⟨0, rfl, Nat.zero_le _, hid (Below.refl _ _)⟩
                case round =>
                  obtain ⟨i, rfl, hi, hW⟩ := hrel
                  by_cases hgo5 : i < N2
                  · have t9 : (i : Int) < (N2 : Int) := by omega
                    obtain ⟨x, hx⟩ : ∃ x, L2[i]? = some x := ⟨_, List.getElem?_eq_getElem (by rw [← HN.out.2]; exact hgo5)⟩
                    have SBr := hid (SB.out.turn (Turn.of_new (S := fun _ => False) hW.out) fun _ _ _ e => e)
                    have SCr := hid (SC.out.turn (Turn.of_new (S := fun _ => False) hW.out) fun _ _ _ e => e)
                    have SAr := hid (SA.out.turn (Turn.of_new (S := fun _ => False) hW.out) fun _ _ _ e => e)
                    obtain ⟨bb, ob, rfl, _, hbb, rb⟩ := SBr.out.some hx
                    obtain ⟨bc, oc, rfl, _, hbc, rc⟩ := SCr.out.some hx
                    have RB := hid rb
                    have RC := hid rc
                    by_cases hi0 : i < N0
                    · have t10 : (i : Int) < (N0 : Int) := by omega
                      obtain ⟨y, hy⟩ : ∃ y, L[i]? = some y := ⟨_, List.getElem?_eq_getElem (by rw [← HN.out.1]; exact hi0)⟩
                      have hxy := HPF.out i y hy
                      rw [hx] at hxy
                      cases hxy
                      obtain ⟨ba, oa, rfl, _, hba, ra⟩ := SAr.out.some hy
                      have RA := hid ra
                      clear rb rc ra hx hy SBr SCr SAr
                      go_upto_region 26 with fail
                      refine wp_region_tail (C := fun w' => Below wr.heap.size wr w') 26 (by kernel_rfl) (by kernel_rfl) (by kernel_rfl) (Below.refl _ _).drew ?_
                      simp only [List.take_succ_cons, List.take_zero, List.drop_succ_cons, List.drop_zero]

                      apply wpK_val
                      · rfl
                      · intro w' hw'
                        go_simp
                        first | exact rfl | exact ⟨rfl, hw'⟩
                      simp only [Act.put, List.setIfInBounds_toArray, List.set_cons_succ, List.set_cons_zero]
                      apply wpK_val
                      · rfl
                      · intro w' hw'
                        go_simp
                        first | exact rfl | exact ⟨rfl, hw'⟩
                      simp only [Act.put, List.setIfInBounds_toArray, List.set_cons_succ, List.set_cons_zero]
                      apply wpK_val
                      · rfl
                      · intro w' hw'
                        go_simp
                        first | exact rfl | exact ⟨rfl, hw'⟩
                      simp only [Act.put, List.setIfInBounds_toArray, List.set_cons_succ, List.set_cons_zero]
                      apply wpK_val
                      · rfl
                      · intro w' hw'
                        go_simp
                        first | exact rfl | exact ⟨rfl, hw'⟩
                      simp only [Act.put, List.setIfInBounds_toArray, List.set_cons_succ, List.set_cons_zero]
                      apply wpK_val
                      · rfl
                      · intro w' hw'
                        go_simp
                        first | exact rfl | exact ⟨rfl, hw'⟩
                      simp only [Act.put, List.setIfInBounds_toArray, List.set_cons_succ, List.set_cons_zero]
                      apply wpK_val
                      · rfl
                      · intro w' hw'
                        go_simp
                        first | exact rfl | exact ⟨rfl, hw'⟩
                      simp only [Act.put, List.setIfInBounds_toArray, List.set_cons_succ, List.set_cons_zero]
                      apply wpK_val
                      · rfl
                      · intro w' hw'
                        go_simp
                        first | exact rfl | exact ⟨rfl, hw'⟩
                      simp only [Act.put, List.setIfInBounds_toArray, List.set_cons_succ, List.set_cons_zero]
                      apply wpK_val
                      · rfl
                      · intro w' hw'
                        go_simp
                        first | exact rfl | exact ⟨rfl, hw'⟩
                      simp only [Act.put, List.setIfInBounds_toArray, List.set_cons_succ, List.set_cons_zero]
                      apply kldR (cs := (ceL x).toArray) (tCe x)
                      · rfl
                      · rfl
                      · exact fun w' hw' j v hj => (hw'.cell (p := ⟨ba, oa + i * 33 + j, none⟩) hba).trans (RA.out j v hj)
                      simp only [Act.put, List.setIfInBounds_toArray, List.set_cons_succ, List.set_cons_zero]
                      apply wpK_val
                      · rfl
                      · intro w' hw'
                        go_simp
                        first | exact rfl | exact ⟨rfl, hw'⟩
                      simp only [Act.put, List.setIfInBounds_toArray, List.set_cons_succ, List.set_cons_zero]
                      apply wpK_val
                      · rfl
                      · intro w' hw'
                        go_simp
                        first | exact rfl | exact ⟨rfl, hw'⟩
                      simp only [Act.put, List.setIfInBounds_toArray, List.set_cons_succ, List.set_cons_zero]
                      apply wpK_val
                      · rfl
                      · intro w' hw'
                        go_simp
                        first | exact rfl | exact ⟨rfl, hw'⟩
                      simp only [Act.put, List.setIfInBounds_toArray, List.set_cons_succ, List.set_cons_zero]
                      apply kldR (cs := (ceL x).toArray) (tCe x)
                      · rfl
                      · rfl
                      · exact fun w' hw' j v hj => (hw'.cell (p := ⟨bb, ob + i * 33 + j, none⟩) hbb).trans (RB.out j v hj)
                      simp only [Act.put, List.setIfInBounds_toArray, List.set_cons_succ, List.set_cons_zero]
                      apply kneC (p := x) (q := x) false
                      · rfl
                      · rfl
                      · rfl
                      · rw [ceq_refl]; rfl
                      simp only [Act.put, List.setIfInBounds_toArray, List.set_cons_succ, List.set_cons_zero]
                      apply wpK_val
                      · rfl
                      · intro w' hw'
                        go_simp
                        first | exact rfl | exact ⟨rfl, hw'⟩
                      simp only [Act.put, List.setIfInBounds_toArray, List.set_cons_succ, List.set_cons_zero]
                      apply wpK_val
                      · rfl
                      · intro w' hw'
                        go_simp
                        first | exact rfl | exact ⟨rfl, hw'⟩
                      simp only [Act.put, List.setIfInBounds_toArray, List.set_cons_succ, List.set_cons_zero]
                      apply wpK_val
                      · rfl
                      · intro w' hw'
                        go_simp
                        first | exact rfl | exact ⟨rfl, hw'⟩
                      simp only [Act.put, List.setIfInBounds_toArray, List.set_cons_succ, List.set_cons_zero]
                      apply wpK_val
                      · rfl
                      · intro w' hw'
                        go_simp
                        first | exact rfl | exact ⟨rfl, hw'⟩
                      simp only [Act.put, List.setIfInBounds_toArray, List.set_cons_succ, List.set_cons_zero]
                      apply wpK_val
                      · rfl
                      · intro w' hw'
                        go_simp
                        first | exact rfl | exact ⟨rfl, hw'⟩
                      simp only [Act.put, List.setIfInBounds_toArray, List.set_cons_succ, List.set_cons_zero]
                      apply kldR (cs := (ceL x).toArray) (tCe x)
                      · rfl
                      · rfl
                      · exact fun w' hw' j v hj => (hw'.cell (p := ⟨bb, ob + i * 33 + j, none⟩) hbb).trans (RB.out j v hj)
                      simp only [Act.put, List.setIfInBounds_toArray, List.set_cons_succ, List.set_cons_zero]
                      apply wpK_val
                      · rfl
                      · intro w' hw'
                        go_simp
                        first | exact rfl | exact ⟨rfl, hw'⟩
                      simp only [Act.put, List.setIfInBounds_toArray, List.set_cons_succ, List.set_cons_zero]
                      apply wpK_val
                      · rfl
                      · intro w' hw'
                        go_simp
                        first | exact rfl | exact ⟨rfl, hw'⟩
                      simp only [Act.put, List.setIfInBounds_toArray, List.set_cons_succ, List.set_cons_zero]
                      apply wpK_val
                      · rfl
                      · intro w' hw'
                        go_simp
                        first | exact rfl | exact ⟨rfl, hw'⟩
                      simp only [Act.put, List.setIfInBounds_toArray, List.set_cons_succ, List.set_cons_zero]
                      apply kldR (cs := (ceL x).toArray) (tCe x)
                      · rfl
                      · rfl
                      · exact fun w' hw' j v hj => (hw'.cell (p := ⟨bc, oc + i * 33 + j, none⟩) hbc).trans (RC.out j v hj)
                      simp only [Act.put, List.setIfInBounds_toArray, List.set_cons_succ, List.set_cons_zero]
                      apply kneC (p := x) (q := x) false
                      · rfl
                      · rfl
                      · rfl
                      · rw [ceq_refl]; rfl
                      simp only [Act.put, List.setIfInBounds_toArray, List.set_cons_succ, List.set_cons_zero]
                      apply wpK_val
                      · rfl
                      · intro w' hw'
                        go_simp
                        first | exact rfl | exact ⟨rfl, hw'⟩
                      simp only [Act.put, List.setIfInBounds_toArray, List.set_cons_succ, List.set_cons_zero]
                      apply wpK_nil
                      intro we he
                      have WE := hid (hW.out.trans (he.mono hW.out.size))
                      clear hW RB RC he
                      go_wp2_with fail
                      go_roundw
                      case rel => exact ⟨i + 1, by go_num, by omega, WE⟩
                      case measure => simp [intOf] <;> omega
                    · have t10 : decide ((i : Int) < (N0 : Int)) = false := by simp; omega
                      have t11 : ¬ i < N0 := hi0
                      clear rb rc hx SBr SCr SAr
                      go_upto_region 26 with fail
                      refine wp_region_tail (C := fun w' => Below wr.heap.size wr w') 26 (by kernel_rfl) (by kernel_rfl) (by kernel_rfl) (Below.refl _ _).drew ?_
                      simp only [List.take_succ_cons, List.take_zero, List.drop_succ_cons, List.drop_zero]
                      apply wpK_val
                      · rfl
                      · intro w' hw'
                        go_simp
                        first | exact rfl | exact ⟨rfl, hw'⟩
                      simp only [Act.put, List.setIfInBounds_toArray, List.set_cons_succ, List.set_cons_zero]
                      apply wpK_val
                      · rfl
                      · intro w' hw'
                        go_simp
                        first | exact rfl | exact ⟨rfl, hw'⟩
                      simp only [Act.put, List.setIfInBounds_toArray, List.set_cons_succ, List.set_cons_zero]
                      apply wpK_val
                      · rfl
                      · intro w' hw'
                        go_simp
                        first | exact rfl | exact ⟨rfl, hw'⟩
                      simp only [Act.put, List.setIfInBounds_toArray, List.set_cons_succ, List.set_cons_zero]
                      apply wpK_val
                      · rfl
                      · intro w' hw'
                        go_simp
                        first | exact rfl | exact ⟨rfl, hw'⟩
                      simp only [Act.put, List.setIfInBounds_toArray, List.set_cons_succ, List.set_cons_zero]
                      apply wpK_val
                      · rfl
                      · intro w' hw'
                        go_simp
                        first | exact rfl | exact ⟨rfl, hw'⟩
                      simp only [Act.put, List.setIfInBounds_toArray, List.set_cons_succ, List.set_cons_zero]
                      apply wpK_not
                      · rfl
                      simp only [Act.put, List.setIfInBounds_toArray, List.set_cons_succ, List.set_cons_zero]
                      apply wpK_not
                      · rfl
                      simp only [Act.put, List.setIfInBounds_toArray, List.set_cons_succ, List.set_cons_zero]
                      apply wpK_not
                      · rfl
                      simp only [Act.put, List.setIfInBounds_toArray, List.set_cons_succ, List.set_cons_zero]
                      apply wpK_not
                      · rfl
                      simp only [Act.put, List.setIfInBounds_toArray, List.set_cons_succ, List.set_cons_zero]
                      apply wpK_not
                      · rfl
                      simp only [Act.put, List.setIfInBounds_toArray, List.set_cons_succ, List.set_cons_zero]
                      apply wpK_not
                      · rfl
                      simp only [Act.put, List.setIfInBounds_toArray, List.set_cons_succ, List.set_cons_zero]
                      apply wpK_not
                      · rfl
                      simp only [Act.put, List.setIfInBounds_toArray, List.set_cons_succ, List.set_cons_zero]
                      apply wpK_not
                      · rfl
                      simp only [Act.put, List.setIfInBounds_toArray, List.set_cons_succ, List.set_cons_zero]
                      apply wpK_not
                      · rfl
                      simp only [Act.put, List.setIfInBounds_toArray, List.set_cons_succ, List.set_cons_zero]
                      apply wpK_val
                      · rfl
                      · intro w' hw'
                        go_simp
                        first | exact rfl | exact ⟨rfl, hw'⟩
                      simp only [Act.put, List.setIfInBounds_toArray, List.set_cons_succ, List.set_cons_zero]
                      apply wpK_val
                      · rfl
                      · intro w' hw'
                        go_simp
                        first | exact rfl | exact ⟨rfl, hw'⟩
                      simp only [Act.put, List.setIfInBounds_toArray, List.set_cons_succ, List.set_cons_zero]
                      apply wpK_val
                      · rfl
                      · intro w' hw'
                        go_simp
                        first | exact rfl | exact ⟨rfl, hw'⟩
                      simp only [Act.put, List.setIfInBounds_toArray, List.set_cons_succ, List.set_cons_zero]
                      apply wpK_val
                      · rfl
                      · intro w' hw'
                        go_simp
                        first | exact rfl | exact ⟨rfl, hw'⟩
                      simp only [Act.put, List.setIfInBounds_toArray, List.set_cons_succ, List.set_cons_zero]
                      apply wpK_val
                      · rfl
                      · intro w' hw'
                        go_simp
                        first | exact rfl | exact ⟨rfl, hw'⟩
                      simp only [Act.put, List.setIfInBounds_toArray, List.set_cons_succ, List.set_cons_zero]
                      apply kldR (cs := (ceL x).toArray) (tCe x)
                      · rfl
                      · rfl
                      · exact fun w' hw' j v hj => (hw'.cell (p := ⟨bb, ob + i * 33 + j, none⟩) hbb).trans (RB.out j v hj)
                      simp only [Act.put, List.setIfInBounds_toArray, List.set_cons_succ, List.set_cons_zero]
                      apply wpK_val
                      · rfl
                      · intro w' hw'
                        go_simp
                        first | exact rfl | exact ⟨rfl, hw'⟩
                      simp only [Act.put, List.setIfInBounds_toArray, List.set_cons_succ, List.set_cons_zero]
                      apply wpK_val
                      · rfl
                      · intro w' hw'
                        go_simp
                        first | exact rfl | exact ⟨rfl, hw'⟩
                      simp only [Act.put, List.setIfInBounds_toArray, List.set_cons_succ, List.set_cons_zero]
                      apply wpK_val
                      · rfl
                      · intro w' hw'
                        go_simp
                        first | exact rfl | exact ⟨rfl, hw'⟩
                      simp only [Act.put, List.setIfInBounds_toArray, List.set_cons_succ, List.set_cons_zero]
                      apply kldR (cs := (ceL x).toArray) (tCe x)
                      · rfl
                      · rfl
                      · exact fun w' hw' j v hj => (hw'.cell (p := ⟨bc, oc + i * 33 + j, none⟩) hbc).trans (RC.out j v hj)
                      simp only [Act.put, List.setIfInBounds_toArray, List.set_cons_succ, List.set_cons_zero]
                      apply kneC (p := x) (q := x) false
                      · rfl
                      · rfl
                      · rfl
                      · rw [ceq_refl]; rfl
                      simp only [Act.put, List.setIfInBounds_toArray, List.set_cons_succ, List.set_cons_zero]
                      apply wpK_val
                      · rfl
                      · intro w' hw'
                        go_simp
                        first | exact rfl | exact ⟨rfl, hw'⟩
                      simp only [Act.put, List.setIfInBounds_toArray, List.set_cons_succ, List.set_cons_zero]
                      apply wpK_nil
                      intro we he
                      have WE := hid (hW.out.trans (he.mono hW.out.size))
                      clear hW RB RC he
                      go_wp2_with fail
                      go_roundw
                      case rel => exact ⟨i + 1, by go_num, by omega, WE⟩
                      case measure => simp [intOf] <;> omega
                  · have hie : i = N2 := by omega
                    have t9 : ¬ i < N2 := hgo5
                    have t10 : decide ((i : Int) < (N2 : Int)) = false := by simp; omega
                    have BE := hid (BC.out.trans (hW.out.mono BC.out.size))
                    clear hW SA SB SC BC HPF HN hie
                    go_wp2_with fail
                    refine (works_any hC wr).mono ?_
                    rintro e w9 ⟨rfl, h9⟩
                    have B9 := hid (BE.out.trans (h9.mono BE.out.size))
                    clear h9 BE
                    go_wp2_with fail
                    refine bodyPost_ret (results_tmp (t := 6) rfl _ _ _) rfl ?_
                    exact ⟨rfl, B9.out⟩
        · have hk2 : ¬ k < n := hk1
          have t1 : decide ((k : Int) < (n : Int)) = false := by simp; omega
          clear hgo hk1
          go_wp2_with fail
          refine (hC.copy PC.out.prog (by omega)).mono ?_
          rintro e w4 ⟨gx, Mx, Ix, rfl, h4, hM, hI, hb⟩
          have S1 := hid (copy_sep hC PC.out.prog hM hI)
          have S2 := hid (copy_sep2 hC PD.out.prog SP.out hM hI)
          have PX := hid (show C1 rep W.heap.size w4 gx Mx Ix L h from ⟨h4, fun b e => by
            rcases e with e | e
            · exact Nat.le_trans PC.out.base (hM b e)
            · rcases hI b e with x | x
              · exact PC.out.low b (.inr x)
              · exact Nat.le_trans PC.out.base x, Nat.le_trans PC.out.base hb.size⟩)
          have PC4 := hid (PC.out.below hC hb)
          have PD4 := hid (PD.out.below hC hb)
          have BW4 := hid (BW.out.trans (hb.mono BW.out.size))
          have hLc : L.length ≤ 31 := by omega
          unfold ptr'
          clear h4 hM hI hb PC PD BW
          go_wp2_with fail
          go_loopw [17] (fun u1 wr => ∃ (k : Nat) (Mx Ix Md Id : Cs) (L2 : List Held) (h2 : Held), u1 = .int .i64 k ∧ k ≤ n2 ∧ k ≤ 30 ∧ L2.length ≤ k + 31 ∧ h2.1 ≤ most ∧ Hid (∃ r, L2 = L ++ r) ∧ Hid (C1 rep W.heap.size wr gx Mx Ix L2 h2) ∧ Hid (C1 rep W.heap.size wr gd Md Id L2 h2) ∧ Hid (C1 rep W.heap.size wr g M I L h) ∧
            Hid (Sep Mx Ix Md Id) ∧ Hid (Sep Mx Ix M I) ∧ Hid (Sep Md Id M I) ∧ Hid (Below W.heap.size W wr)) (fun u1 _ => 30 - (intOf u1).toNat)
          case atStart => exact ⟨0, Mx, Ix, Md, Id, L, h, rfl, Nat.zero_le _, by omega, by omega, hm, hid ⟨[], (List.append_nil _).symm⟩, PX, PD4, PC4, S2, S1, hid SP.out.symm, BW4⟩
          case round =>
            clear PX PD4 PC4 S1 S2 SP BW4
            obtain ⟨q, Mx, Ix, Md, Id, L2, h2, rfl, hqn, hq30, hL2, hm2, HP, PX, PD, PC, S1, S2, S3, BW⟩ := hrel
            by_cases hgo2 : q < n2 ∧ q < 30
            · obtain ⟨hgo3, hgo4⟩ := hgo2
              have t5 : (q : Int) < (n2 : Int) := by omega
              have t6 : (q : Int) < 30 := by omega
              obtain ⟨a, b, o, rfl, hr⟩ := tag_at HA2.out hgo3
              have HR := hid hr
              clear hr
              go_wp2_with ((with_reducible apply ldAm tTg); rfl; exact HR.out _ BW.out)
              refine (adv_any hC PX.out.prog (by omega) hm2 a).mono ?_
              rintro e w6 ⟨rfl, ho⟩
              obtain ⟨M6, I6, p6, g6⟩ := PX.out.out ho
              have PX6 := hid p6
              have XD := hid (PD.out.aside hC g6 S1.out)
              have XC := hid (PC.out.aside hC g6 S2.out)
              have BW6 := hid (BW.out.trans (PX.out.went g6))
              clear ho p6 g6 PX PD PC S1 S2 BW
              go_wp2_with ((with_reducible apply ldAm tTg); rfl; exact HR.out _ BW6.out)
              refine (adv_any hC XD.out.1.prog (by omega) hm2 a).mono ?_
              rintro e w7 ⟨rfl, ho⟩
              obtain ⟨M7, I7, p7, g7⟩ := XD.out.1.out ho
              have PD7 := hid p7
              have YX := hid (PX6.out.aside hC g7 XD.out.2.symm)
              have YC := hid (XC.out.1.aside hC g7 S3.out)
              have BW7 := hid (BW6.out.trans (XD.out.1.went g7))
              have SXC := hid XC.out.2
              have hL7 := adv_le L2 h2 a
              have hm7 := adv_most hm2 a
              have HP7 := hid (adv_more L L2 h2 a HP.out)
              clear ho p7 g7 PX6 XD XC S3 BW6
              go_wp2_with fail
              go_roundw
              case rel => exact ⟨q + 1, _, _, _, _, _, _, by go_num, by omega, by omega, by omega, hm7, HP7, hid YX.out.1, PD7, hid YC.out.1, hid YX.out.2.symm, SXC, hid YC.out.2, BW7⟩
              case measure => simp [intOf] <;> omega
            · by_cases hq1 : q < n2
              · have hq2 : ¬ q < 30 := fun e => hgo2 ⟨hq1, e⟩
                have t5 : (q : Int) < (n2 : Int) := by omega
                have t6 : decide ((q : Int) < 30) = false := by simp; omega
                clear hgo2
                go_wp2_with fail
                refine (hC.hist PC.out.prog (by omega)).mono ?_
                rintro e wa ⟨va, rfl, oa, h⟩
                obtain ⟨Aa, ca, rfl, sa⟩ := oa.sli ceL_len
                have SA := hid (sa.mono (T := fun _ => True) fun _ _ => trivial)
                have PXa := hid (PX.out.below hC h)
                have PDa := hid (PD.out.below hC h)
                have BA := hid (BW.out.trans (h.mono BW.out.size))
                clear oa sa h PX PD PC S1 S2 S3 BW
                go_wp2_with fail
                refine (hC.hist PXa.out.prog (by omega)).mono ?_
                rintro e wb ⟨vb, rfl, ob, h⟩
                obtain ⟨Ab, cb, rfl, sb⟩ := ob.sli ceL_len
                have SB := hid (sb.mono (T := fun _ => True) fun _ _ => trivial)
                have SA := hid (SA.out.turn (Turn.of_new (S := fun _ => False) h) fun _ _ _ e => e)
                have PDb := hid (PDa.out.below hC h)
                have BB := hid (BA.out.trans (h.mono BA.out.size))
                clear ob sb h PXa PDa BA
                go_wp2_with fail
                refine (hC.hist PDb.out.prog (by omega)).mono ?_
                rintro e wc ⟨vc, rfl, oc, h⟩
                obtain ⟨Ac, cc, rfl, sc⟩ := oc.sli ceL_len
                have SC := hid (sc.mono (T := fun _ => True) fun _ _ => trivial)
                have SA := hid (SA.out.turn (Turn.of_new (S := fun _ => False) h) fun _ _ _ e => e)
                have SB := hid (SB.out.turn (Turn.of_new (S := fun _ => False) h) fun _ _ _ e => e)
                have BC := hid (BB.out.trans (h.mono BB.out.size))
                clear oc sc h PDb BB
                obtain ⟨N0, hN0⟩ : ∃ x, x = L.length := ⟨_, rfl⟩
                obtain ⟨N2, hN2⟩ : ∃ x, x = L2.length := ⟨_, rfl⟩
                have hle : N0 ≤ N2 := by obtain ⟨r, hr⟩ := HP.out; rw [hN0, hN2, hr, List.length_append]; omega
                have HPF := hid (show ∀ q x, L[q]? = some x → L2[q]? = some x from fun q x hx => by
                  obtain ⟨r, hr⟩ := HP.out
                  rw [hr, List.getElem?_append_left (List.getElem?_eq_some_iff.1 hx).1]; exact hx)
                have hN2' : N2 ≤ 61 := by omega
                rw [← hN0] at SA ⊢
                rw [← hN2] at SB SC ⊢
                have HN := hid (And.intro hN0 hN2)
                have t7 : decide ((N2 : Int) < (N0 : Int)) = false := by simp; omega
                have t8 : ¬ N2 < N0 := by omega
                clear hN0 hN2 HP hL2 hLc
                go_wp2_with fail
                go_loopw [21] (fun u wr => ∃ q : Nat, u = .int .i64 q ∧ q ≤ N2 ∧ Hid (Below wc.heap.size wc wr)) (fun u _ => N2 - (intOf u).toNat)
                case atStart => exact ⟨0, rfl, Nat.zero_le _, hid (Below.refl _ _)⟩
                case round =>
                  obtain ⟨i, rfl, hi, hW⟩ := hrel
                  by_cases hgo5 : i < N2
                  · have t9 : (i : Int) < (N2 : Int) := by omega
                    obtain ⟨x, hx⟩ : ∃ x, L2[i]? = some x := ⟨_, List.getElem?_eq_getElem (by rw [← HN.out.2]; exact hgo5)⟩
                    have SBr := hid (SB.out.turn (Turn.of_new (S := fun _ => False) hW.out) fun _ _ _ e => e)
                    have SCr := hid (SC.out.turn (Turn.of_new (S := fun _ => False) hW.out) fun _ _ _ e => e)
                    have SAr := hid (SA.out.turn (Turn.of_new (S := fun _ => False) hW.out) fun _ _ _ e => e)
                    obtain ⟨bb, ob, rfl, _, hbb, rb⟩ := SBr.out.some hx
                    obtain ⟨bc, oc, rfl, _, hbc, rc⟩ := SCr.out.some hx
                    have RB := hid rb
                    have RC := hid rc
                    by_cases hi0 : i < N0
                    · have t10 : (i : Int) < (N0 : Int) := by omega
                      obtain ⟨y, hy⟩ : ∃ y, L[i]? = some y := ⟨_, List.getElem?_eq_getElem (by rw [← HN.out.1]; exact hi0)⟩
                      have hxy := HPF.out i y hy
                      rw [hx] at hxy
                      cases hxy
                      obtain ⟨ba, oa, rfl, _, hba, ra⟩ := SAr.out.some hy
                      have RA := hid ra
                      clear rb rc ra hx hy SBr SCr SAr
                      go_upto_region 26 with fail
                      refine wp_region_tail (C := fun w' => Below wr.heap.size wr w') 26 (by kernel_rfl) (by kernel_rfl) (by kernel_rfl) (Below.refl _ _).drew ?_
                      simp only [List.take_succ_cons, List.take_zero, List.drop_succ_cons, List.drop_zero]

                      apply wpK_val
                      · rfl
                      · intro w' hw'
                        go_simp
                        first | exact rfl | exact ⟨rfl, hw'⟩
                      simp only [Act.put, List.setIfInBounds_toArray, List.set_cons_succ, List.set_cons_zero]
                      apply wpK_val
                      · rfl
                      · intro w' hw'
                        go_simp
                        first | exact rfl | exact ⟨rfl, hw'⟩
                      simp only [Act.put, List.setIfInBounds_toArray, List.set_cons_succ, List.set_cons_zero]
                      apply wpK_val
                      · rfl
                      · intro w' hw'
                        go_simp
                        first | exact rfl | exact ⟨rfl, hw'⟩
                      simp only [Act.put, List.setIfInBounds_toArray, List.set_cons_succ, List.set_cons_zero]
                      apply wpK_val
                      · rfl
                      · intro w' hw'
                        go_simp
                        first | exact rfl | exact ⟨rfl, hw'⟩
                      simp only [Act.put, List.setIfInBounds_toArray, List.set_cons_succ, List.set_cons_zero]
                      apply wpK_val
                      · rfl
                      · intro w' hw'
                        go_simp
                        first | exact rfl | exact ⟨rfl, hw'⟩
                      simp only [Act.put, List.setIfInBounds_toArray, List.set_cons_succ, List.set_cons_zero]
                      apply wpK_val
                      · rfl
                      · intro w' hw'
                        go_simp
                        first | exact rfl | exact ⟨rfl, hw'⟩
                      simp only [Act.put, List.setIfInBounds_toArray, List.set_cons_succ, List.set_cons_zero]
                      apply wpK_val
                      · rfl
                      · intro w' hw'
                        go_simp
                        first | exact rfl | exact ⟨rfl, hw'⟩
                      simp only [Act.put, List.setIfInBounds_toArray, List.set_cons_succ, List.set_cons_zero]
                      apply wpK_val
                      · rfl
                      · intro w' hw'
                        go_simp
                        first | exact rfl | exact ⟨rfl, hw'⟩
                      simp only [Act.put, List.setIfInBounds_toArray, List.set_cons_succ, List.set_cons_zero]
                      apply kldR (cs := (ceL x).toArray) (tCe x)
                      · rfl
                      · rfl
                      · exact fun w' hw' j v hj => (hw'.cell (p := ⟨ba, oa + i * 33 + j, none⟩) hba).trans (RA.out j v hj)
                      simp only [Act.put, List.setIfInBounds_toArray, List.set_cons_succ, List.set_cons_zero]
                      apply wpK_val
                      · rfl
                      · intro w' hw'
                        go_simp
                        first | exact rfl | exact ⟨rfl, hw'⟩
                      simp only [Act.put, List.setIfInBounds_toArray, List.set_cons_succ, List.set_cons_zero]
                      apply wpK_val
                      · rfl
                      · intro w' hw'
                        go_simp
                        first | exact rfl | exact ⟨rfl, hw'⟩
                      simp only [Act.put, List.setIfInBounds_toArray, List.set_cons_succ, List.set_cons_zero]
                      apply wpK_val
                      · rfl
                      · intro w' hw'
                        go_simp
                        first | exact rfl | exact ⟨rfl, hw'⟩
                      simp only [Act.put, List.setIfInBounds_toArray, List.set_cons_succ, List.set_cons_zero]
                      apply kldR (cs := (ceL x).toArray) (tCe x)
                      · rfl
                      · rfl
                      · exact fun w' hw' j v hj => (hw'.cell (p := ⟨bb, ob + i * 33 + j, none⟩) hbb).trans (RB.out j v hj)
                      simp only [Act.put, List.setIfInBounds_toArray, List.set_cons_succ, List.set_cons_zero]
                      apply kneC (p := x) (q := x) false
                      · rfl
                      · rfl
                      · rfl
                      · rw [ceq_refl]; rfl
                      simp only [Act.put, List.setIfInBounds_toArray, List.set_cons_succ, List.set_cons_zero]
                      apply wpK_val
                      · rfl
                      · intro w' hw'
                        go_simp
                        first | exact rfl | exact ⟨rfl, hw'⟩
                      simp only [Act.put, List.setIfInBounds_toArray, List.set_cons_succ, List.set_cons_zero]
                      apply wpK_val
                      · rfl
                      · intro w' hw'
                        go_simp
                        first | exact rfl | exact ⟨rfl, hw'⟩
                      simp only [Act.put, List.setIfInBounds_toArray, List.set_cons_succ, List.set_cons_zero]
                      apply wpK_val
                      · rfl
                      · intro w' hw'
                        go_simp
                        first | exact rfl | exact ⟨rfl, hw'⟩
                      simp only [Act.put, List.setIfInBounds_toArray, List.set_cons_succ, List.set_cons_zero]
                      apply wpK_val
                      · rfl
                      · intro w' hw'
                        go_simp
                        first | exact rfl | exact ⟨rfl, hw'⟩
                      simp only [Act.put, List.setIfInBounds_toArray, List.set_cons_succ, List.set_cons_zero]
                      apply wpK_val
                      · rfl
                      · intro w' hw'
                        go_simp
                        first | exact rfl | exact ⟨rfl, hw'⟩
                      simp only [Act.put, List.setIfInBounds_toArray, List.set_cons_succ, List.set_cons_zero]
                      apply kldR (cs := (ceL x).toArray) (tCe x)
                      · rfl
                      · rfl
                      · exact fun w' hw' j v hj => (hw'.cell (p := ⟨bb, ob + i * 33 + j, none⟩) hbb).trans (RB.out j v hj)
                      simp only [Act.put, List.setIfInBounds_toArray, List.set_cons_succ, List.set_cons_zero]
                      apply wpK_val
                      · rfl
                      · intro w' hw'
                        go_simp
                        first | exact rfl | exact ⟨rfl, hw'⟩
                      simp only [Act.put, List.setIfInBounds_toArray, List.set_cons_succ, List.set_cons_zero]
                      apply wpK_val
                      · rfl
                      · intro w' hw'
                        go_simp
                        first | exact rfl | exact ⟨rfl, hw'⟩
                      simp only [Act.put, List.setIfInBounds_toArray, List.set_cons_succ, List.set_cons_zero]
                      apply wpK_val
                      · rfl
                      · intro w' hw'
                        go_simp
                        first | exact rfl | exact ⟨rfl, hw'⟩
                      simp only [Act.put, List.setIfInBounds_toArray, List.set_cons_succ, List.set_cons_zero]
                      apply kldR (cs := (ceL x).toArray) (tCe x)
                      · rfl
                      · rfl
                      · exact fun w' hw' j v hj => (hw'.cell (p := ⟨bc, oc + i * 33 + j, none⟩) hbc).trans (RC.out j v hj)
                      simp only [Act.put, List.setIfInBounds_toArray, List.set_cons_succ, List.set_cons_zero]
                      apply kneC (p := x) (q := x) false
                      · rfl
                      · rfl
                      · rfl
                      · rw [ceq_refl]; rfl
                      simp only [Act.put, List.setIfInBounds_toArray, List.set_cons_succ, List.set_cons_zero]
                      apply wpK_val
                      · rfl
                      · intro w' hw'
                        go_simp
                        first | exact rfl | exact ⟨rfl, hw'⟩
                      simp only [Act.put, List.setIfInBounds_toArray, List.set_cons_succ, List.set_cons_zero]
                      apply wpK_nil
                      intro we he
                      have WE := hid (hW.out.trans (he.mono hW.out.size))
                      clear hW RB RC he
                      go_wp2_with fail
                      go_roundw
                      case rel => exact ⟨i + 1, by go_num, by omega, WE⟩
                      case measure => simp [intOf] <;> omega
                    · have t10 : decide ((i : Int) < (N0 : Int)) = false := by simp; omega
                      have t11 : ¬ i < N0 := hi0
                      clear rb rc hx SBr SCr SAr
                      go_upto_region 26 with fail
                      refine wp_region_tail (C := fun w' => Below wr.heap.size wr w') 26 (by kernel_rfl) (by kernel_rfl) (by kernel_rfl) (Below.refl _ _).drew ?_
                      simp only [List.take_succ_cons, List.take_zero, List.drop_succ_cons, List.drop_zero]
                      apply wpK_val
                      · rfl
                      · intro w' hw'
                        go_simp
                        first | exact rfl | exact ⟨rfl, hw'⟩
                      simp only [Act.put, List.setIfInBounds_toArray, List.set_cons_succ, List.set_cons_zero]
                      apply wpK_val
                      · rfl
                      · intro w' hw'
                        go_simp
                        first | exact rfl | exact ⟨rfl, hw'⟩
                      simp only [Act.put, List.setIfInBounds_toArray, List.set_cons_succ, List.set_cons_zero]
                      apply wpK_val
                      · rfl
                      · intro w' hw'
                        go_simp
                        first | exact rfl | exact ⟨rfl, hw'⟩
                      simp only [Act.put, List.setIfInBounds_toArray, List.set_cons_succ, List.set_cons_zero]
                      apply wpK_val
                      · rfl
                      · intro w' hw'
                        go_simp
                        first | exact rfl | exact ⟨rfl, hw'⟩
                      simp only [Act.put, List.setIfInBounds_toArray, List.set_cons_succ, List.set_cons_zero]
                      apply wpK_val
                      · rfl
                      · intro w' hw'
                        go_simp
                        first | exact rfl | exact ⟨rfl, hw'⟩
                      simp only [Act.put, List.setIfInBounds_toArray, List.set_cons_succ, List.set_cons_zero]
                      apply wpK_not
                      · rfl
                      simp only [Act.put, List.setIfInBounds_toArray, List.set_cons_succ, List.set_cons_zero]
                      apply wpK_not
                      · rfl
                      simp only [Act.put, List.setIfInBounds_toArray, List.set_cons_succ, List.set_cons_zero]
                      apply wpK_not
                      · rfl
                      simp only [Act.put, List.setIfInBounds_toArray, List.set_cons_succ, List.set_cons_zero]
                      apply wpK_not
                      · rfl
                      simp only [Act.put, List.setIfInBounds_toArray, List.set_cons_succ, List.set_cons_zero]
                      apply wpK_not
                      · rfl
                      simp only [Act.put, List.setIfInBounds_toArray, List.set_cons_succ, List.set_cons_zero]
                      apply wpK_not
                      · rfl
                      simp only [Act.put, List.setIfInBounds_toArray, List.set_cons_succ, List.set_cons_zero]
                      apply wpK_not
                      · rfl
                      simp only [Act.put, List.setIfInBounds_toArray, List.set_cons_succ, List.set_cons_zero]
                      apply wpK_not
                      · rfl
                      simp only [Act.put, List.setIfInBounds_toArray, List.set_cons_succ, List.set_cons_zero]
                      apply wpK_not
                      · rfl
                      simp only [Act.put, List.setIfInBounds_toArray, List.set_cons_succ, List.set_cons_zero]
                      apply wpK_val
                      · rfl
                      · intro w' hw'
                        go_simp
                        first | exact rfl | exact ⟨rfl, hw'⟩
                      simp only [Act.put, List.setIfInBounds_toArray, List.set_cons_succ, List.set_cons_zero]
                      apply wpK_val
                      · rfl
                      · intro w' hw'
                        go_simp
                        first | exact rfl | exact ⟨rfl, hw'⟩
                      simp only [Act.put, List.setIfInBounds_toArray, List.set_cons_succ, List.set_cons_zero]
                      apply wpK_val
                      · rfl
                      · intro w' hw'
                        go_simp
                        first | exact rfl | exact ⟨rfl, hw'⟩
                      simp only [Act.put, List.setIfInBounds_toArray, List.set_cons_succ, List.set_cons_zero]
                      apply wpK_val
                      · rfl
                      · intro w' hw'
                        go_simp
                        first | exact rfl | exact ⟨rfl, hw'⟩
                      simp only [Act.put, List.setIfInBounds_toArray, List.set_cons_succ, List.set_cons_zero]
                      apply wpK_val
                      · rfl
                      · intro w' hw'
                        go_simp
                        first | exact rfl | exact ⟨rfl, hw'⟩
                      simp only [Act.put, List.setIfInBounds_toArray, List.set_cons_succ, List.set_cons_zero]
                      apply kldR (cs := (ceL x).toArray) (tCe x)
                      · rfl
                      · rfl
                      · exact fun w' hw' j v hj => (hw'.cell (p := ⟨bb, ob + i * 33 + j, none⟩) hbb).trans (RB.out j v hj)
                      simp only [Act.put, List.setIfInBounds_toArray, List.set_cons_succ, List.set_cons_zero]
                      apply wpK_val
                      · rfl
                      · intro w' hw'
                        go_simp
                        first | exact rfl | exact ⟨rfl, hw'⟩
                      simp only [Act.put, List.setIfInBounds_toArray, List.set_cons_succ, List.set_cons_zero]
                      apply wpK_val
                      · rfl
                      · intro w' hw'
                        go_simp
                        first | exact rfl | exact ⟨rfl, hw'⟩
                      simp only [Act.put, List.setIfInBounds_toArray, List.set_cons_succ, List.set_cons_zero]
                      apply wpK_val
                      · rfl
                      · intro w' hw'
                        go_simp
                        first | exact rfl | exact ⟨rfl, hw'⟩
                      simp only [Act.put, List.setIfInBounds_toArray, List.set_cons_succ, List.set_cons_zero]
                      apply kldR (cs := (ceL x).toArray) (tCe x)
                      · rfl
                      · rfl
                      · exact fun w' hw' j v hj => (hw'.cell (p := ⟨bc, oc + i * 33 + j, none⟩) hbc).trans (RC.out j v hj)
                      simp only [Act.put, List.setIfInBounds_toArray, List.set_cons_succ, List.set_cons_zero]
                      apply kneC (p := x) (q := x) false
                      · rfl
                      · rfl
                      · rfl
                      · rw [ceq_refl]; rfl
                      simp only [Act.put, List.setIfInBounds_toArray, List.set_cons_succ, List.set_cons_zero]
                      apply wpK_val
                      · rfl
                      · intro w' hw'
                        go_simp
                        first | exact rfl | exact ⟨rfl, hw'⟩
                      simp only [Act.put, List.setIfInBounds_toArray, List.set_cons_succ, List.set_cons_zero]
                      apply wpK_nil
                      intro we he
                      have WE := hid (hW.out.trans (he.mono hW.out.size))
                      clear hW RB RC he
                      go_wp2_with fail
                      go_roundw
                      case rel => exact ⟨i + 1, by go_num, by omega, WE⟩
                      case measure => simp [intOf] <;> omega
                  · have hie : i = N2 := by omega
                    have t9 : ¬ i < N2 := hgo5
                    have t10 : decide ((i : Int) < (N2 : Int)) = false := by simp; omega
                    have BE := hid (BC.out.trans (hW.out.mono BC.out.size))
                    clear hW SA SB SC BC HPF HN hie
                    go_wp2_with fail
                    refine (works_any hC wr).mono ?_
                    rintro e w9 ⟨rfl, h9⟩
                    have B9 := hid (BE.out.trans (h9.mono BE.out.size))
                    clear h9 BE
                    go_wp2_with fail
                    refine bodyPost_ret (results_tmp (t := 6) rfl _ _ _) rfl ?_
                    exact ⟨rfl, B9.out⟩
              · have hq2 : ¬ q < n2 := hq1
                have t5 : decide ((q : Int) < (n2 : Int)) = false := by simp; omega
                clear hgo2 hq1
                go_wp2_with fail
                refine (hC.hist PC.out.prog (by omega)).mono ?_
                rintro e wa ⟨va, rfl, oa, h⟩
                obtain ⟨Aa, ca, rfl, sa⟩ := oa.sli ceL_len
                have SA := hid (sa.mono (T := fun _ => True) fun _ _ => trivial)
                have PXa := hid (PX.out.below hC h)
                have PDa := hid (PD.out.below hC h)
                have BA := hid (BW.out.trans (h.mono BW.out.size))
                clear oa sa h PX PD PC S1 S2 S3 BW
                go_wp2_with fail
                refine (hC.hist PXa.out.prog (by omega)).mono ?_
                rintro e wb ⟨vb, rfl, ob, h⟩
                obtain ⟨Ab, cb, rfl, sb⟩ := ob.sli ceL_len
                have SB := hid (sb.mono (T := fun _ => True) fun _ _ => trivial)
                have SA := hid (SA.out.turn (Turn.of_new (S := fun _ => False) h) fun _ _ _ e => e)
                have PDb := hid (PDa.out.below hC h)
                have BB := hid (BA.out.trans (h.mono BA.out.size))
                clear ob sb h PXa PDa BA
                go_wp2_with fail
                refine (hC.hist PDb.out.prog (by omega)).mono ?_
                rintro e wc ⟨vc, rfl, oc, h⟩
                obtain ⟨Ac, cc, rfl, sc⟩ := oc.sli ceL_len
                have SC := hid (sc.mono (T := fun _ => True) fun _ _ => trivial)
                have SA := hid (SA.out.turn (Turn.of_new (S := fun _ => False) h) fun _ _ _ e => e)
                have SB := hid (SB.out.turn (Turn.of_new (S := fun _ => False) h) fun _ _ _ e => e)
                have BC := hid (BB.out.trans (h.mono BB.out.size))
                clear oc sc h PDb BB
                obtain ⟨N0, hN0⟩ : ∃ x, x = L.length := ⟨_, rfl⟩
                obtain ⟨N2, hN2⟩ : ∃ x, x = L2.length := ⟨_, rfl⟩
                have hle : N0 ≤ N2 := by obtain ⟨r, hr⟩ := HP.out; rw [hN0, hN2, hr, List.length_append]; omega
                have HPF := hid (show ∀ q x, L[q]? = some x → L2[q]? = some x from fun q x hx => by
                  obtain ⟨r, hr⟩ := HP.out
                  rw [hr, List.getElem?_append_left (List.getElem?_eq_some_iff.1 hx).1]; exact hx)
                have hN2' : N2 ≤ 61 := by omega
                rw [← hN0] at SA ⊢
                rw [← hN2] at SB SC ⊢
                have HN := hid (And.intro hN0 hN2)
                have t7 : decide ((N2 : Int) < (N0 : Int)) = false := by simp; omega
                have t8 : ¬ N2 < N0 := by omega
                clear hN0 hN2 HP hL2 hLc
                go_wp2_with fail
                go_loopw [21] (fun u wr => ∃ q : Nat, u = .int .i64 q ∧ q ≤ N2 ∧ Hid (Below wc.heap.size wc wr)) (fun u _ => N2 - (intOf u).toNat)
                case atStart => exact ⟨0, rfl, Nat.zero_le _, hid (Below.refl _ _)⟩
                case round =>
                  obtain ⟨i, rfl, hi, hW⟩ := hrel
                  by_cases hgo5 : i < N2
                  · have t9 : (i : Int) < (N2 : Int) := by omega
                    obtain ⟨x, hx⟩ : ∃ x, L2[i]? = some x := ⟨_, List.getElem?_eq_getElem (by rw [← HN.out.2]; exact hgo5)⟩
                    have SBr := hid (SB.out.turn (Turn.of_new (S := fun _ => False) hW.out) fun _ _ _ e => e)
                    have SCr := hid (SC.out.turn (Turn.of_new (S := fun _ => False) hW.out) fun _ _ _ e => e)
                    have SAr := hid (SA.out.turn (Turn.of_new (S := fun _ => False) hW.out) fun _ _ _ e => e)
                    obtain ⟨bb, ob, rfl, _, hbb, rb⟩ := SBr.out.some hx
                    obtain ⟨bc, oc, rfl, _, hbc, rc⟩ := SCr.out.some hx
                    have RB := hid rb
                    have RC := hid rc
                    by_cases hi0 : i < N0
                    · have t10 : (i : Int) < (N0 : Int) := by omega
                      obtain ⟨y, hy⟩ : ∃ y, L[i]? = some y := ⟨_, List.getElem?_eq_getElem (by rw [← HN.out.1]; exact hi0)⟩
                      have hxy := HPF.out i y hy
                      rw [hx] at hxy
                      cases hxy
                      obtain ⟨ba, oa, rfl, _, hba, ra⟩ := SAr.out.some hy
                      have RA := hid ra
                      clear rb rc ra hx hy SBr SCr SAr
                      go_upto_region 26 with fail
                      refine wp_region_tail (C := fun w' => Below wr.heap.size wr w') 26 (by kernel_rfl) (by kernel_rfl) (by kernel_rfl) (Below.refl _ _).drew ?_
                      simp only [List.take_succ_cons, List.take_zero, List.drop_succ_cons, List.drop_zero]

                      apply wpK_val
                      · rfl
                      · intro w' hw'
                        go_simp
                        first | exact rfl | exact ⟨rfl, hw'⟩
                      simp only [Act.put, List.setIfInBounds_toArray, List.set_cons_succ, List.set_cons_zero]
                      apply wpK_val
                      · rfl
                      · intro w' hw'
                        go_simp
                        first | exact rfl | exact ⟨rfl, hw'⟩
                      simp only [Act.put, List.setIfInBounds_toArray, List.set_cons_succ, List.set_cons_zero]
                      apply wpK_val
                      · rfl
                      · intro w' hw'
                        go_simp
                        first | exact rfl | exact ⟨rfl, hw'⟩
                      simp only [Act.put, List.setIfInBounds_toArray, List.set_cons_succ, List.set_cons_zero]
                      apply wpK_val
                      · rfl
                      · intro w' hw'
                        go_simp
                        first | exact rfl | exact ⟨rfl, hw'⟩
                      simp only [Act.put, List.setIfInBounds_toArray, List.set_cons_succ, List.set_cons_zero]
                      apply wpK_val
                      · rfl
                      · intro w' hw'
                        go_simp
                        first | exact rfl | exact ⟨rfl, hw'⟩
                      simp only [Act.put, List.setIfInBounds_toArray, List.set_cons_succ, List.set_cons_zero]
                      apply wpK_val
                      · rfl
                      · intro w' hw'
                        go_simp
                        first | exact rfl | exact ⟨rfl, hw'⟩
                      simp only [Act.put, List.setIfInBounds_toArray, List.set_cons_succ, List.set_cons_zero]
                      apply wpK_val
                      · rfl
                      · intro w' hw'
                        go_simp
                        first | exact rfl | exact ⟨rfl, hw'⟩
                      simp only [Act.put, List.setIfInBounds_toArray, List.set_cons_succ, List.set_cons_zero]
                      apply wpK_val
                      · rfl
                      · intro w' hw'
                        go_simp
                        first | exact rfl | exact ⟨rfl, hw'⟩
                      simp only [Act.put, List.setIfInBounds_toArray, List.set_cons_succ, List.set_cons_zero]
                      apply kldR (cs := (ceL x).toArray) (tCe x)
                      · rfl
                      · rfl
                      · exact fun w' hw' j v hj => (hw'.cell (p := ⟨ba, oa + i * 33 + j, none⟩) hba).trans (RA.out j v hj)
                      simp only [Act.put, List.setIfInBounds_toArray, List.set_cons_succ, List.set_cons_zero]
                      apply wpK_val
                      · rfl
                      · intro w' hw'
                        go_simp
                        first | exact rfl | exact ⟨rfl, hw'⟩
                      simp only [Act.put, List.setIfInBounds_toArray, List.set_cons_succ, List.set_cons_zero]
                      apply wpK_val
                      · rfl
                      · intro w' hw'
                        go_simp
                        first | exact rfl | exact ⟨rfl, hw'⟩
                      simp only [Act.put, List.setIfInBounds_toArray, List.set_cons_succ, List.set_cons_zero]
                      apply wpK_val
                      · rfl
                      · intro w' hw'
                        go_simp
                        first | exact rfl | exact ⟨rfl, hw'⟩
                      simp only [Act.put, List.setIfInBounds_toArray, List.set_cons_succ, List.set_cons_zero]
                      apply kldR (cs := (ceL x).toArray) (tCe x)
                      · rfl
                      · rfl
                      · exact fun w' hw' j v hj => (hw'.cell (p := ⟨bb, ob + i * 33 + j, none⟩) hbb).trans (RB.out j v hj)
                      simp only [Act.put, List.setIfInBounds_toArray, List.set_cons_succ, List.set_cons_zero]
                      apply kneC (p := x) (q := x) false
                      · rfl
                      · rfl
                      · rfl
                      · rw [ceq_refl]; rfl
                      simp only [Act.put, List.setIfInBounds_toArray, List.set_cons_succ, List.set_cons_zero]
                      apply wpK_val
                      · rfl
                      · intro w' hw'
                        go_simp
                        first | exact rfl | exact ⟨rfl, hw'⟩
                      simp only [Act.put, List.setIfInBounds_toArray, List.set_cons_succ, List.set_cons_zero]
                      apply wpK_val
                      · rfl
                      · intro w' hw'
                        go_simp
                        first | exact rfl | exact ⟨rfl, hw'⟩
                      simp only [Act.put, List.setIfInBounds_toArray, List.set_cons_succ, List.set_cons_zero]
                      apply wpK_val
                      · rfl
                      · intro w' hw'
                        go_simp
                        first | exact rfl | exact ⟨rfl, hw'⟩
                      simp only [Act.put, List.setIfInBounds_toArray, List.set_cons_succ, List.set_cons_zero]
                      apply wpK_val
                      · rfl
                      · intro w' hw'
                        go_simp
                        first | exact rfl | exact ⟨rfl, hw'⟩
                      simp only [Act.put, List.setIfInBounds_toArray, List.set_cons_succ, List.set_cons_zero]
                      apply wpK_val
                      · rfl
                      · intro w' hw'
                        go_simp
                        first | exact rfl | exact ⟨rfl, hw'⟩
                      simp only [Act.put, List.setIfInBounds_toArray, List.set_cons_succ, List.set_cons_zero]
                      apply kldR (cs := (ceL x).toArray) (tCe x)
                      · rfl
                      · rfl
                      · exact fun w' hw' j v hj => (hw'.cell (p := ⟨bb, ob + i * 33 + j, none⟩) hbb).trans (RB.out j v hj)
                      simp only [Act.put, List.setIfInBounds_toArray, List.set_cons_succ, List.set_cons_zero]
                      apply wpK_val
                      · rfl
                      · intro w' hw'
                        go_simp
                        first | exact rfl | exact ⟨rfl, hw'⟩
                      simp only [Act.put, List.setIfInBounds_toArray, List.set_cons_succ, List.set_cons_zero]
                      apply wpK_val
                      · rfl
                      · intro w' hw'
                        go_simp
                        first | exact rfl | exact ⟨rfl, hw'⟩
                      simp only [Act.put, List.setIfInBounds_toArray, List.set_cons_succ, List.set_cons_zero]
                      apply wpK_val
                      · rfl
                      · intro w' hw'
                        go_simp
                        first | exact rfl | exact ⟨rfl, hw'⟩
                      simp only [Act.put, List.setIfInBounds_toArray, List.set_cons_succ, List.set_cons_zero]
                      apply kldR (cs := (ceL x).toArray) (tCe x)
                      · rfl
                      · rfl
                      · exact fun w' hw' j v hj => (hw'.cell (p := ⟨bc, oc + i * 33 + j, none⟩) hbc).trans (RC.out j v hj)
                      simp only [Act.put, List.setIfInBounds_toArray, List.set_cons_succ, List.set_cons_zero]
                      apply kneC (p := x) (q := x) false
                      · rfl
                      · rfl
                      · rfl
                      · rw [ceq_refl]; rfl
                      simp only [Act.put, List.setIfInBounds_toArray, List.set_cons_succ, List.set_cons_zero]
                      apply wpK_val
                      · rfl
                      · intro w' hw'
                        go_simp
                        first | exact rfl | exact ⟨rfl, hw'⟩
                      simp only [Act.put, List.setIfInBounds_toArray, List.set_cons_succ, List.set_cons_zero]
                      apply wpK_nil
                      intro we he
                      have WE := hid (hW.out.trans (he.mono hW.out.size))
                      clear hW RB RC he
                      go_wp2_with fail
                      go_roundw
                      case rel => exact ⟨i + 1, by go_num, by omega, WE⟩
                      case measure => simp [intOf] <;> omega
                    · have t10 : decide ((i : Int) < (N0 : Int)) = false := by simp; omega
                      have t11 : ¬ i < N0 := hi0
                      clear rb rc hx SBr SCr SAr
                      go_upto_region 26 with fail
                      refine wp_region_tail (C := fun w' => Below wr.heap.size wr w') 26 (by kernel_rfl) (by kernel_rfl) (by kernel_rfl) (Below.refl _ _).drew ?_
                      simp only [List.take_succ_cons, List.take_zero, List.drop_succ_cons, List.drop_zero]
                      apply wpK_val
                      · rfl
                      · intro w' hw'
                        go_simp
                        first | exact rfl | exact ⟨rfl, hw'⟩
                      simp only [Act.put, List.setIfInBounds_toArray, List.set_cons_succ, List.set_cons_zero]
                      apply wpK_val
                      · rfl
                      · intro w' hw'
                        go_simp
                        first | exact rfl | exact ⟨rfl, hw'⟩
                      simp only [Act.put, List.setIfInBounds_toArray, List.set_cons_succ, List.set_cons_zero]
                      apply wpK_val
                      · rfl
                      · intro w' hw'
                        go_simp
                        first | exact rfl | exact ⟨rfl, hw'⟩
                      simp only [Act.put, List.setIfInBounds_toArray, List.set_cons_succ, List.set_cons_zero]
                      apply wpK_val
                      · rfl
                      · intro w' hw'
                        go_simp
                        first | exact rfl | exact ⟨rfl, hw'⟩
                      simp only [Act.put, List.setIfInBounds_toArray, List.set_cons_succ, List.set_cons_zero]
                      apply wpK_val
                      · rfl
                      · intro w' hw'
                        go_simp
                        first | exact rfl | exact ⟨rfl, hw'⟩
                      simp only [Act.put, List.setIfInBounds_toArray, List.set_cons_succ, List.set_cons_zero]
                      apply wpK_not
                      · rfl
                      simp only [Act.put, List.setIfInBounds_toArray, List.set_cons_succ, List.set_cons_zero]
                      apply wpK_not
                      · rfl
                      simp only [Act.put, List.setIfInBounds_toArray, List.set_cons_succ, List.set_cons_zero]
                      apply wpK_not
                      · rfl
                      simp only [Act.put, List.setIfInBounds_toArray, List.set_cons_succ, List.set_cons_zero]
                      apply wpK_not
                      · rfl
                      simp only [Act.put, List.setIfInBounds_toArray, List.set_cons_succ, List.set_cons_zero]
                      apply wpK_not
                      · rfl
                      simp only [Act.put, List.setIfInBounds_toArray, List.set_cons_succ, List.set_cons_zero]
                      apply wpK_not
                      · rfl
                      simp only [Act.put, List.setIfInBounds_toArray, List.set_cons_succ, List.set_cons_zero]
                      apply wpK_not
                      · rfl
                      simp only [Act.put, List.setIfInBounds_toArray, List.set_cons_succ, List.set_cons_zero]
                      apply wpK_not
                      · rfl
                      simp only [Act.put, List.setIfInBounds_toArray, List.set_cons_succ, List.set_cons_zero]
                      apply wpK_not
                      · rfl
                      simp only [Act.put, List.setIfInBounds_toArray, List.set_cons_succ, List.set_cons_zero]
                      apply wpK_val
                      · rfl
                      · intro w' hw'
                        go_simp
                        first | exact rfl | exact ⟨rfl, hw'⟩
                      simp only [Act.put, List.setIfInBounds_toArray, List.set_cons_succ, List.set_cons_zero]
                      apply wpK_val
                      · rfl
                      · intro w' hw'
                        go_simp
                        first | exact rfl | exact ⟨rfl, hw'⟩
                      simp only [Act.put, List.setIfInBounds_toArray, List.set_cons_succ, List.set_cons_zero]
                      apply wpK_val
                      · rfl
                      · intro w' hw'
                        go_simp
                        first | exact rfl | exact ⟨rfl, hw'⟩
                      simp only [Act.put, List.setIfInBounds_toArray, List.set_cons_succ, List.set_cons_zero]
                      apply wpK_val
                      · rfl
                      · intro w' hw'
                        go_simp
                        first | exact rfl | exact ⟨rfl, hw'⟩
                      simp only [Act.put, List.setIfInBounds_toArray, List.set_cons_succ, List.set_cons_zero]
                      apply wpK_val
                      · rfl
                      · intro w' hw'
                        go_simp
                        first | exact rfl | exact ⟨rfl, hw'⟩
                      simp only [Act.put, List.setIfInBounds_toArray, List.set_cons_succ, List.set_cons_zero]
                      apply kldR (cs := (ceL x).toArray) (tCe x)
                      · rfl
                      · rfl
                      · exact fun w' hw' j v hj => (hw'.cell (p := ⟨bb, ob + i * 33 + j, none⟩) hbb).trans (RB.out j v hj)
                      simp only [Act.put, List.setIfInBounds_toArray, List.set_cons_succ, List.set_cons_zero]
                      apply wpK_val
                      · rfl
                      · intro w' hw'
                        go_simp
                        first | exact rfl | exact ⟨rfl, hw'⟩
                      simp only [Act.put, List.setIfInBounds_toArray, List.set_cons_succ, List.set_cons_zero]
                      apply wpK_val
                      · rfl
                      · intro w' hw'
                        go_simp
                        first | exact rfl | exact ⟨rfl, hw'⟩
                      simp only [Act.put, List.setIfInBounds_toArray, List.set_cons_succ, List.set_cons_zero]
                      apply wpK_val
                      · rfl
                      · intro w' hw'
                        go_simp
                        first | exact rfl | exact ⟨rfl, hw'⟩
                      simp only [Act.put, List.setIfInBounds_toArray, List.set_cons_succ, List.set_cons_zero]
                      apply kldR (cs := (ceL x).toArray) (tCe x)
                      · rfl
                      · rfl
                      · exact fun w' hw' j v hj => (hw'.cell (p := ⟨bc, oc + i * 33 + j, none⟩) hbc).trans (RC.out j v hj)
                      simp only [Act.put, List.setIfInBounds_toArray, List.set_cons_succ, List.set_cons_zero]
                      apply kneC (p := x) (q := x) false
                      · rfl
                      · rfl
                      · rfl
                      · rw [ceq_refl]; rfl
                      simp only [Act.put, List.setIfInBounds_toArray, List.set_cons_succ, List.set_cons_zero]
                      apply wpK_val
                      · rfl
                      · intro w' hw'
                        go_simp
                        first | exact rfl | exact ⟨rfl, hw'⟩
                      simp only [Act.put, List.setIfInBounds_toArray, List.set_cons_succ, List.set_cons_zero]
                      apply wpK_nil
                      intro we he
                      have WE := hid (hW.out.trans (he.mono hW.out.size))
                      clear hW RB RC he
                      go_wp2_with fail
                      go_roundw
                      case rel => exact ⟨i + 1, by go_num, by omega, WE⟩
                      case measure => simp [intOf] <;> omega
                  · have hie : i = N2 := by omega
                    have t9 : ¬ i < N2 := hgo5
                    have t10 : decide ((i : Int) < (N2 : Int)) = false := by simp; omega
                    have BE := hid (BC.out.trans (hW.out.mono BC.out.size))
                    clear hW SA SB SC BC HPF HN hie
                    go_wp2_with fail
                    refine (works_any hC wr).mono ?_
                    rintro e w9 ⟨rfl, h9⟩
                    have B9 := hid (BE.out.trans (h9.mono BE.out.size))
                    clear h9 BE
                    go_wp2_with fail
                    refine bodyPost_ret (results_tmp (t := 6) rfl _ _ _) rfl ?_
                    exact ⟨rfl, B9.out⟩
  · have hc' : most < c := by omega
    refine (hC.bad c l0 hc' w1).mono ?_
    rintro e w2 ⟨rfl, h2⟩
    have b2 := hid (b1.out.below h2 b1.out.lt)
    have B2 := hid (B1.out.trans (h2.mono B1.out.size))
    clear h2 b1 B1
    go_wp2_with ((with_reducible apply ldR (cs := (ceL (c, l0)).toArray) (tCe (c, l0))); rfl; exact b2.out.whole)
    refine (hC.bad c l0 hc' w2).mono ?_
    rintro e w3 ⟨rfl, h3⟩
    have B3 := hid (B2.out.trans (h3.mono B2.out.size))
    clear h3 b2 B2 hc
    go_wp2_with fail
    refine (works_any hC w3).mono ?_
    rintro e w4 ⟨rfl, h4⟩
    have B4 := hid (B3.out.trans (h4.mono B3.out.size))
    clear h4 B3
    go_wp2_with fail
    refine bodyPost_ret (results_tmp (t := 6) rfl _ _ _) rfl ?_
    exact ⟨rfl, B4.out⟩
end ClP
end Go.Proofs.Ythmfdabndfobcaa
