/-
  The document's Check.
  Trees of tags in plain numbers: own proofs are taken; what another proof that is taken means; what one leaf turns.
  What the program's tree answers, as hypotheses of the laws (TreeC): repT = how it lies in memory, and in which blocks.
  The tag of a known text under a known key, reckoned out.
-/
import Derived.Test.YtdmnhpgafbcehaaDoorMrg6
set_option linter.unusedVariables false
set_option linter.unusedSimpArgs false
set_option maxRecDepth 100000
namespace Go.Proofs.YtdmnhpgafbcehaaDoor
open Go.ChangeShapes Go.WideShapes Go.ChangeAt Go.RowKit
attribute [local go_sem] Gives
namespace TrM
open TgP RwP
/-- One of a sector's two tags. -/
def half (b : Nat) (s : Nat → Nat) : Nat → Nat := if b = 0 then s else fun j => s (32 + j)
/-- Do the sectors lead from the tag of the number below to the top? -/
def chkF (k : Nat → Nat) (P : Nat → Nat → Nat) (top : Nat → Nat) : Nat → Nat → Nat → (Nat → Nat) → Bool
  | 0, _, _, tag => eqA 32 tag top
  | m + 1, i, below, tag => eqA 32 (half (below % 2) (P i)) tag && chkF k P top m (i + 1) (below / 2) (ndT k (below / 2) (P i))
def chk (k : Nat → Nat) (leaf : Int) (tag : Nat → Nat) (n : Nat) (P : Nat → Nat → Nat) (top : Nat → Nat) : Bool := decide (pathOk n leaf) && chkF k P top n 0 (2 ^ n + leaf.toNat) tag
theorem chk_no {k : Nat → Nat} {leaf : Int} {tag : Nat → Nat} {n : Nat} {P : Nat → Nat → Nat} {top : Nat → Nat} (h : ¬ pathOk n leaf) : chk k leaf tag n P top = false := by
  unfold chk; rw [decide_eq_false h]; rfl
theorem chk_yes {k : Nat → Nat} {leaf : Nat} {tag : Nat → Nat} {n : Nat} {P : Nat → Nat → Nat} {top : Nat → Nat} (h : pathOk n leaf) : chk k leaf tag n P top = chkF k P top n 0 (2 ^ n + leaf) tag := by
  unfold chk; rw [decide_eq_true h, Bool.true_and, Int.toNat_natCast]
set_option maxHeartbeats 800000 in
set_option maxRecDepth 100000 in
theorem rcheckNo (k f top : Nat → Nat) (leaf : Int) (A : Option Addr) (n cap : Nat) (h : ¬ pathOk n leaf) (w : World) :
    Calls Tryd.prog 24 #[.agg (ar 32 k), .int .i64 leaf, .agg (ar 32 f), .slice A n cap, .agg (ar 32 top)] w fun e w' => e = .returned (.bool false) ∧ Below w.heap.size w w' := by
  have PA := hid fun w => rpath_none n leaf h w
  clear h
  go_enter Tryd.func24, Tryd.ntmps24
  go_upto_region 1 with fail
  generalize hw1 : World.alloc (World.alloc (World.alloc w _) _) _ = w1
  have hb := hid (show Below w.heap.size w w1 by rw [← hw1]; exact (((Below.refl _ _).alloc (Nat.le_refl _) _).alloc (by simp) _).alloc (by simp; omega) _)
  clear hw1
  go_wp2_with fail
  refine (PA.out w1).mono ?_
  rintro e w' ⟨rfl, rfl⟩
  go_wp2_with fail
  go_ret
  exact ⟨rfl, hb.out⟩
set_option maxHeartbeats 1600000 in
set_option maxRecDepth 100000 in
theorem rcheckYes (k f top : Nat → Nat) (hk : ∀ i, k i < 256) (leaf : Nat) (A : Option Addr) (P : Nat → Nat → Nat) (hP : ∀ i j, P i j < 256) (n cap : Nat) (h : pathOk n leaf) (S : Nat → Prop) (w : World) (hA : SliF 64 S w A n P cap) :
    Calls Tryd.prog 24 #[.agg (ar 32 k), .int .i64 leaf, .agg (ar 32 f), .slice A n cap, .agg (ar 32 top)] w fun e w' => e = .returned (.bool (chkF k P top n 0 (2 ^ n + leaf) f)) ∧ Below w.heap.size w w' := by
  have h12 : n ≤ 12 := by have := h.1.2; omega
  have h1 : 1 ≤ n := by have := h.1.1; omega
  have hl : leaf < 2 ^ n := by have := h.2.2; rw [Int.toNat_natCast] at this; omega
  have HP := hid fun w => rpow_any n h12 w
  have PA := hid fun w => rpath_any n leaf h.1 hl w
  have HX := pow_le h12
  have KK := hid hk
  have PP := hid hP
  obtain ⟨R, hR⟩ : ∃ R, R = chkF k P top n 0 (2 ^ n + leaf) f := ⟨_, rfl⟩
  have HR := hid hR
  have LT := hid fun i => pth_lt (h := n) (leaf := leaf) (i := i) hl
  have POS := hid fun i (hi : i < n) => pth_pos (h := n) (leaf := leaf) hi
  have PZ := hid (pth_zero n leaf)
  have PS := hid (fun i => pth_succ n leaf i)
  rw [← hR]
  obtain ⟨X, hX⟩ : ∃ X, X = 2 ^ n := ⟨_, rfl⟩
  rw [← hX] at HP HX HR LT PZ hl
  have HA := hid hA.bound
  clear hX hR hA h hk hP
  go_enter Tryd.func24, Tryd.ntmps24
  go_upto_region 1 with fail
  try rw [show ((w.alloc (.cells (ar 32 k) 23)).alloc (.cells (ar 32 f) 36)).heap.size = w.heap.size + 2 by simp]
  try rw [show (w.alloc (.cells (ar 32 k) 23)).heap.size = w.heap.size + 1 by simp]
  generalize hw1 : World.alloc (World.alloc (World.alloc w _) _) _ = w1
  have z0 := hid (show Blk w1 w.heap.size 23 (ar 32 k) by rw [← hw1]; exact ((Blk.new _ _ _).alloc _).alloc _)
  have z1 := hid (show Blk w1 (w.heap.size + 1) 36 (ar 32 f) by rw [← hw1]; exact (Blk.top rfl (by simp)).alloc _)
  have z2 := hid (show Blk w1 (w.heap.size + 2) 36 (ar 32 top) by rw [← hw1]; exact Blk.top rfl (by simp))
  have hb := hid (show Below w.heap.size w w1 by rw [← hw1]; exact (((Below.refl _ _).alloc (Nat.le_refl _) _).alloc (by simp) _).alloc (by simp; omega) _)
  have a1 := hid (HA.out.turn (Turn.of_new (S := fun _ => False) hb.out) fun _ _ _ e => e)
  clear hw1 HA
  go_wp2_with fail
  refine (PA.out w1).mono ?_
  rintro e w6 ⟨vp, rfl, op, b6⟩
  obtain ⟨gp, cp, rfl, hpc⟩ := OwnI.get op (j := 0) (by rw [pthL_length]; omega)
  rw [pthL_length] at *
  have PC := hid hpc
  have y0 := hid (z0.out.below b6 z0.out.lt)
  have y1 := hid (z1.out.below b6 z1.out.lt)
  have y2 := hid (z2.out.below b6 z2.out.lt)
  have yb := hid (hb.out.trans (b6.mono hb.out.size))
  have ya := hid (a1.out.turn (Turn.of_new (S := fun _ => False) b6) fun _ _ _ e => e)
  have gpl := World.block_lt_of_cell? w6 ⟨gp, 0, none⟩ (PC.out 0 h1)
  have gpb := (OwnI.lt op gp rfl).1
  have z2l := z2.out.lt
  clear op b6 z0 z1 z2 hb a1 hpc
  have tz : ((n : Nat) == 0) = false := by rw [beq_eq_false_iff_ne]; omega
  have tz2 : (((n : Nat) : Int) == 0) = false := by rw [beq_eq_false_iff_ne]; omega
  go_wp2_with fail
  refine (HP.out w6).mono ?_
  rintro e w' ⟨rfl, rfl⟩
  go_wp2_with fail
  clear tz tz2
  have GD := hid fun i (hi : i < n) => show (pthL n leaf).getD i 0 = pth n leaf i by simp [pthL, hi]
  go_loopw [12, 13] (fun u12 v wr => ∃ (i bl : Nat) (T : Nat → Nat), i ≤ n ∧ v = .int .i64 i ∧ u12 = .int .i64 bl ∧ bl ≤ 10000 ∧ Hid (bl / 2 = pth n leaf i) ∧ Hid (chkF k P top (n - i) i bl T = R) ∧ Hid (Blk wr w.heap.size 23 (ar 32 k)) ∧ Hid (Blk wr (w.heap.size + 1) 36 (ar 32 T)) ∧ Hid (Blk wr (w.heap.size + 2) 36 (ar 32 top)) ∧ Hid (Below w.heap.size w wr) ∧ Hid (Turn (fun b => b = w.heap.size + 1) w6 wr) ∧ Hid (Sli 64 (arL 64) (fun b => b < w.heap.size) wr A (lsF n P) n cap)) (fun _ v _ => n - (intOf v).toNat)
  case atStart => exact ⟨0, X + leaf, f, by omega, rfl, rfl, by omega, hid PZ.out.symm, hid HR.out.symm, y0, y1, y2, yb, hid (Turn.refl _ _), ya⟩
  case round =>
    clear y0 y1 y2 yb ya
    obtain ⟨i, bl, T, hi, rfl, rfl, hbl, hpt, hch, x0, x1, x2, xb, x6, xa⟩ := hrel
    by_cases hlt : i < n
    · have ti : (i : Int) < (n : Int) := by omega
      obtain ⟨b, o, rfl, hbS, hbL, hr⟩ := xa.out.some (lsF_get (F := P) hlt)
      have R1 := hid hr
      have hj2 := LT.out i
      have hj1 := POS.out i hlt
      have pc := hid ((x6.out.cell (p := ⟨gp, i, none⟩) (PC.out i hlt) (by show ¬ gp = w.heap.size + 1; omega)))
      rw [GD.out i hlt] at pc
      have CH := hid (show (eqA 32 (half (bl % 2) (P i)) T && chkF k P top (n - (i + 1)) (i + 1) (bl / 2) (ndT k (bl / 2) (P i))) = R by
        have := hch.out
        rw [show n - i = n - (i + 1) + 1 by omega] at this
        exact this)
      have ps := hid (PS.out i)
      rw [hpt.out] at CH
      have hp1 : bl / 2 = pth n leaf i := hpt.out
      clear hpt hch hr
      generalize pth n leaf i = p at *
      have hgpl : gp < wr.heap.size := Nat.lt_of_lt_of_le gpl x6.out.size
      go_wp2_with ((with_reducible apply ldAm tS); rfl; exact R1.out)
      refine (rsplit_any (P i) wr).mono ?_
      rintro e w7 ⟨rfl, h7⟩
      have u0 := hid (x0.out.below h7 x0.out.lt)
      have u1 := hid (x1.out.below h7 x1.out.lt)
      have u2 := hid (x2.out.below h7 x2.out.lt)
      have ub := hid (xb.out.trans (h7.mono xb.out.size))
      have u6 := hid (x6.out.trans (Turn.of_new (S := fun _ => False) h7) fun _ e => e.elim)
      have ua := hid (xa.out.turn (Turn.of_new (S := fun _ => False) h7) fun _ _ _ e => e)
      have upc := hid ((h7.cell (p := ⟨gp, i, none⟩) hgpl).trans pc.out)
      have hgp7 : gp < w7.heap.size := Nat.lt_of_lt_of_le hgpl h7.size
      have hbL7 : b < w7.heap.size := Nat.lt_of_lt_of_le hbL h7.size
      have R7 := hid (show w7.rangeAt b (o + i * 64) (arL 64 (P i)) from fun q v hq => (h7.cell (p := ⟨b, o + i * 64 + q, none⟩) hbL).trans (R1.out q v hq))
      clear x0 x1 x2 xb x6 xa h7 pc R1
      have hl := u2.out.lt
      have hz1 : Blk ((w7.alloc (.cells (ar 32 fun _ => 0) 36)).alloc (.cells (ar 32 fun _ => 0) 36)) w7.heap.size 36 (ar 32 fun _ => 0) := (Blk.new _ _ _).alloc _
      have hz2 : Blk (((w7.alloc (.cells (ar 32 fun _ => 0) 36)).alloc (.cells (ar 32 fun _ => 0) 36)).setRow w7.heap.size (ar 32 (P i))) (w7.alloc (.cells (ar 32 fun _ => 0) 36)).heap.size 36 (ar 32 fun _ => 0) := (Blk.new _ _ _).setRow_other (by simp) _
      go_upto_region 9 with (first | (with_reducible apply alA tT) | ((with_reducible apply stA tT); rfl; rfl; exact hz1) | ((with_reducible apply stA tT); rfl; rfl; exact hz2))
      have hgs : (w7.alloc (.cells (ar 32 fun _ => 0) 36)).heap.size = w7.heap.size + 1 := by simp
      rw [hgs] at hz2 ⊢
      clear hgs
      obtain ⟨gt, hgt⟩ : ∃ gt, gt = w7.heap.size := ⟨_, rfl⟩
      have HB8 := hid (show Below w7.heap.size w7 ((((w7.alloc (.cells (ar 32 fun _ => 0) 36)).alloc (.cells (ar 32 fun _ => 0) 36)).setRow w7.heap.size (ar 32 (P i))).setRow (w7.heap.size + 1) (ar 32 fun j => P i (32 + j))) from below_setRow (below_setRow (((Below.refl _ _).alloc (Nat.le_refl _) _).alloc (by simp) _) (by omega) _) (by omega) _)
      rw [← hgt] at hz1 hz2 hl HB8 hgp7 hbL7 ⊢
      generalize hw8 : World.setRow _ (gt + 1) _ = w8 at HB8 ⊢
      have v2 := hid (show Blk w8 gt 36 (ar 32 (P i)) by rw [← hw8]; exact (hz1.setRow_same _).setRow_other (by omega) _)
      have v3 := hid (show Blk w8 (gt + 1) 36 (ar 32 fun j => P i (32 + j)) by rw [← hw8]; exact hz2.setRow_same _)
      rw [hgt] at HB8 hgp7 hbL7
      have hgl8 : w7.heap.size < w8.heap.size := by rw [← hgt]; exact v2.out.lt
      clear hgt
      have v0 := hid (u0.out.below HB8.out u0.out.lt)
      have v1 := hid (u1.out.below HB8.out u1.out.lt)
      have v4 := hid (u2.out.below HB8.out u2.out.lt)
      have vb := hid (ub.out.trans (HB8.out.mono ub.out.size))
      have v6 := hid (u6.out.trans (Turn.of_new (S := fun _ => False) HB8.out) fun _ e => e.elim)
      have va := hid (ua.out.turn (Turn.of_new (S := fun _ => False) HB8.out) fun _ _ _ e => e)
      have vpc := hid ((HB8.out.cell (p := ⟨gp, i, none⟩) hgp7).trans upc.out)
      have R8 := hid (show w8.rangeAt b (o + i * 64) (arL 64 (P i)) from fun q v hq => (HB8.out.cell (p := ⟨b, o + i * 64 + q, none⟩) hbL7).trans (R7.out q v hq))
      have hbL8 : b < w8.heap.size := Nat.lt_of_lt_of_le hbL7 HB8.out.size
      clear hw8 hz1 hz2 HB8 u0 u1 u2 ub u6 ua upc R7
      have cpc := vpc.out
      have hmod : bl % 2 = 0 ∨ bl % 2 = 1 := by omega
      rcases hmod with hm | hm
      · have e48 : ((bl : Int) == 2 * (p : Int)) = true := by rw [beq_iff_eq]; omega
        have e62 : ((bl : Int) == 2 * (p : Int) + 1) = false := by rw [beq_eq_false_iff_ne]; omega
        rw [hm, show half 0 (P i) = P i from rfl] at CH
        obtain ⟨b1, hb1⟩ : ∃ b, b = !eqA 32 (P i) T := ⟨_, rfl⟩
        have B1 := hid hb1.symm
        have CE := hid (show eqA 32 (P i) T = !b1 by rw [hb1, Bool.not_not])
        rw [CE.out] at CH
        clear hb1
        cases b1
        · go_upto_region 12 with (first | ((with_reducible apply ldAq tT); rfl; rfl; exact v2.out.head) | ((with_reducible apply ldAq tT); rfl; rfl; exact v3.out.head) | ((with_reducible apply ldAq tT); rfl; rfl; exact v1.out.head) | ((with_reducible apply wneAq _ uT eqgT); rfl; rfl; rfl; exact B1.out))
          clear e48 e62 B1 CE cpc v2 v3
          have l1 : i < n := hlt
          refine wp_region_tail (C := fun w' => Below w8.heap.size w8 w') 7 (by kernel_rfl) (by kernel_rfl) (by kernel_rfl) (Below.refl _ _).drew ?_
          simp only [List.take_succ_cons, List.take_zero, List.drop_succ_cons, List.drop_zero]
          apply kldA tK
          · rfl
          · rfl
          · exact fun w' hw' => (v0.out.below hw' v0.out.lt).head
          simp only [Act.put, List.setIfInBounds_toArray, List.set_cons_succ, List.set_cons_zero]
          apply wpK_val
          · rfl
          · intro w' hw'
            go_simp
            first | exact rfl | exact ⟨rfl, hw'⟩
          simp only [Act.put, List.setIfInBounds_toArray, List.set_cons_succ, List.set_cons_zero]
          apply wpK_val
          · rfl
          · intro w' hw'
            go_simp
            first | exact rfl | exact ⟨rfl, hw'⟩
          simp only [Act.put, List.setIfInBounds_toArray, List.set_cons_succ, List.set_cons_zero]
          apply wpK_val
          · rfl
          · intro w' hw'
            go_simp
            first | exact rfl | exact ⟨rfl, hw'⟩
          simp only [Act.put, List.setIfInBounds_toArray, List.set_cons_succ, List.set_cons_zero]
          apply wpK_val
          · rfl
          · intro w' hw'
            have l1 : i < n := hlt
            go_simp
            first | exact rfl | exact ⟨rfl, hw'⟩
          simp only [Act.put, List.setIfInBounds_toArray, List.set_cons_succ, List.set_cons_zero]
          apply kldA tS
          · rfl
          · rfl
          · exact fun w' hw' => fun q v hq => (hw'.cell (p := ⟨b, o + i * 64 + q, none⟩) hbL8).trans (R8.out q v hq)
          simp only [Act.put, List.setIfInBounds_toArray, List.set_cons_succ, List.set_cons_zero]
          apply wpK_val
          · rfl
          · intro w' hw'
            go_simp
            exact (rnode_any k KK.out (p : Int) (P i) (PP.out i) w').mono fun e w5 h => ⟨h.1, hw'.trans (h.2.mono hw'.size)⟩
          simp only [Act.put, List.setIfInBounds_toArray, List.set_cons_succ, List.set_cons_zero]
          refine wpK_nil fun w9 h9 => ?_
          obtain ⟨T3, hT3⟩ : ∃ F, F = HmM.tag (HmM.dl k) (BytM.rowB 78 [BytM.dig 8 (TgP.bits (p : Int)), ls 64 (P i)]) := ⟨_, rfl⟩
          rw [← hT3]
          have CH2 := hid (show chkF k P top (n - (i + 1)) (i + 1) p T3 = R by
            rw [hT3]
            have := CH.out
            rw [Bool.not_false, Bool.true_and] at this
            exact this)
          have x0 := hid (v0.out.below h9 v0.out.lt)
          have x1 := v1.out.below h9 v1.out.lt
          have x2 := hid (v4.out.below h9 v4.out.lt)
          have xb := hid (vb.out.trans (h9.mono vb.out.size))
          have x6 := hid (v6.out.trans (Turn.of_new (S := fun _ => False) h9) fun _ e => e.elim)
          have xa := hid (va.out.turn (Turn.of_new (S := fun _ => False) h9) fun _ _ _ e => e)
          clear hT3 CH v0 v1 v4 vb v6 va vpc R8 h9
          go_wp2_with ((with_reducible apply stA tT); rfl; rfl; exact x1)
          go_roundw
          case rel => exact ⟨i + 1, p, T3, by omega, by go_num, rfl, by omega, hid ps.out.symm, CH2, hid (x0.out.setRow_other (by omega) _), hid (x1.setRow_same _), hid (x2.out.setRow_other (by omega) _), hid (below_setRow xb.out (by omega) _), hid (x6.out.trans (Turn.setRow (S := fun b => b = w.heap.size + 1) _ _ _ rfl) fun _ e => .inl e), hid (xa.out.turn (Turn.setRow (S := fun b => b = w.heap.size + 1) _ _ _ rfl) fun q hq _ => by show ¬ q = w.heap.size + 1; omega)⟩
          case measure => simp [intOf] <;> omega
        · go_wp2_with (first | ((with_reducible apply ldAq tT); rfl; rfl; exact v2.out.head) | ((with_reducible apply ldAq tT); rfl; rfl; exact v3.out.head) | ((with_reducible apply ldAq tT); rfl; rfl; exact v1.out.head) | ((with_reducible apply wneAq _ uT eqgT); rfl; rfl; rfl; exact B1.out))
          go_ret
          exact ⟨by rw [← CH.out]; rfl, vb.out⟩
      · have e48 : ((bl : Int) == 2 * (p : Int)) = false := by rw [beq_eq_false_iff_ne]; omega
        have e62 : ((bl : Int) == 2 * (p : Int) + 1) = true := by rw [beq_iff_eq]; omega
        rw [hm, show half 1 (P i) = fun j => P i (32 + j) from rfl] at CH
        obtain ⟨b1, hb1⟩ : ∃ b, b = !eqA 32 (fun j => P i (32 + j)) T := ⟨_, rfl⟩
        have B1 := hid hb1.symm
        have CE := hid (show eqA 32 (fun j => P i (32 + j)) T = !b1 by rw [hb1, Bool.not_not])
        rw [CE.out] at CH
        clear hb1
        cases b1
        · go_upto_region 12 with (first | ((with_reducible apply ldAq tT); rfl; rfl; exact v2.out.head) | ((with_reducible apply ldAq tT); rfl; rfl; exact v3.out.head) | ((with_reducible apply ldAq tT); rfl; rfl; exact v1.out.head) | ((with_reducible apply wneAq _ uT eqgT); rfl; rfl; rfl; exact B1.out))
          clear e48 e62 B1 CE cpc v2 v3
          have l1 : i < n := hlt
          refine wp_region_tail (C := fun w' => Below w8.heap.size w8 w') 7 (by kernel_rfl) (by kernel_rfl) (by kernel_rfl) (Below.refl _ _).drew ?_
          simp only [List.take_succ_cons, List.take_zero, List.drop_succ_cons, List.drop_zero]
          apply kldA tK
          · rfl
          · rfl
          · exact fun w' hw' => (v0.out.below hw' v0.out.lt).head
          simp only [Act.put, List.setIfInBounds_toArray, List.set_cons_succ, List.set_cons_zero]
          apply wpK_val
          · rfl
          · intro w' hw'
            go_simp
            first | exact rfl | exact ⟨rfl, hw'⟩
          simp only [Act.put, List.setIfInBounds_toArray, List.set_cons_succ, List.set_cons_zero]
          apply wpK_val
          · rfl
          · intro w' hw'
            go_simp
            first | exact rfl | exact ⟨rfl, hw'⟩
          simp only [Act.put, List.setIfInBounds_toArray, List.set_cons_succ, List.set_cons_zero]
          apply wpK_val
          · rfl
          · intro w' hw'
            go_simp
            first | exact rfl | exact ⟨rfl, hw'⟩
          simp only [Act.put, List.setIfInBounds_toArray, List.set_cons_succ, List.set_cons_zero]
          apply wpK_val
          · rfl
          · intro w' hw'
            have l1 : i < n := hlt
            go_simp
            first | exact rfl | exact ⟨rfl, hw'⟩
          simp only [Act.put, List.setIfInBounds_toArray, List.set_cons_succ, List.set_cons_zero]
          apply kldA tS
          · rfl
          · rfl
          · exact fun w' hw' => fun q v hq => (hw'.cell (p := ⟨b, o + i * 64 + q, none⟩) hbL8).trans (R8.out q v hq)
          simp only [Act.put, List.setIfInBounds_toArray, List.set_cons_succ, List.set_cons_zero]
          apply wpK_val
          · rfl
          · intro w' hw'
            go_simp
            exact (rnode_any k KK.out (p : Int) (P i) (PP.out i) w').mono fun e w5 h => ⟨h.1, hw'.trans (h.2.mono hw'.size)⟩
          simp only [Act.put, List.setIfInBounds_toArray, List.set_cons_succ, List.set_cons_zero]
          refine wpK_nil fun w9 h9 => ?_
          obtain ⟨T3, hT3⟩ : ∃ F, F = HmM.tag (HmM.dl k) (BytM.rowB 78 [BytM.dig 8 (TgP.bits (p : Int)), ls 64 (P i)]) := ⟨_, rfl⟩
          rw [← hT3]
          have CH2 := hid (show chkF k P top (n - (i + 1)) (i + 1) p T3 = R by
            rw [hT3]
            have := CH.out
            rw [Bool.not_false, Bool.true_and] at this
            exact this)
          have x0 := hid (v0.out.below h9 v0.out.lt)
          have x1 := v1.out.below h9 v1.out.lt
          have x2 := hid (v4.out.below h9 v4.out.lt)
          have xb := hid (vb.out.trans (h9.mono vb.out.size))
          have x6 := hid (v6.out.trans (Turn.of_new (S := fun _ => False) h9) fun _ e => e.elim)
          have xa := hid (va.out.turn (Turn.of_new (S := fun _ => False) h9) fun _ _ _ e => e)
          clear hT3 CH v0 v1 v4 vb v6 va vpc R8 h9
          go_wp2_with ((with_reducible apply stA tT); rfl; rfl; exact x1)
          go_roundw
          case rel => exact ⟨i + 1, p, T3, by omega, by go_num, rfl, by omega, hid ps.out.symm, CH2, hid (x0.out.setRow_other (by omega) _), hid (x1.setRow_same _), hid (x2.out.setRow_other (by omega) _), hid (below_setRow xb.out (by omega) _), hid (x6.out.trans (Turn.setRow (S := fun b => b = w.heap.size + 1) _ _ _ rfl) fun _ e => .inl e), hid (xa.out.turn (Turn.setRow (S := fun b => b = w.heap.size + 1) _ _ _ rfl) fun q hq _ => by show ¬ q = w.heap.size + 1; omega)⟩
          case measure => simp [intOf] <;> omega
        · go_wp2_with (first | ((with_reducible apply ldAq tT); rfl; rfl; exact v2.out.head) | ((with_reducible apply ldAq tT); rfl; rfl; exact v3.out.head) | ((with_reducible apply ldAq tT); rfl; rfl; exact v1.out.head) | ((with_reducible apply wneAq _ uT eqgT); rfl; rfl; rfl; exact B1.out))
          go_ret
          exact ⟨by rw [← CH.out]; rfl, vb.out⟩
    · have hin : i = n := by omega
      have CE := hid (show eqA 32 T top = R by
        have := hch.out
        rw [show n - i = 0 by omega] at this
        exact this)
      have ti : ¬ (i : Int) < (n : Int) := by omega
      clear hch hpt hin
      go_wp2_with (first | ((with_reducible apply ldA tT); rfl; exact x1.out) | ((with_reducible apply ldA tT); rfl; exact x2.out) | ((with_reducible apply weqAq _ uT eqgT); rfl; rfl; rfl; exact CE.out))
      go_ret
      exact ⟨rfl, xb.out⟩
end TrM
end Go.Proofs.YtdmnhpgafbcehaaDoor
set_option maxRecDepth 100000
namespace Go.Proofs.YtdmnhpgafbcehaaDoor
open Go.RowKit
namespace TrM
open TgP RwP
theorem eqA_refl (n : Nat) (f : Nat → Nat) : eqA n f f = true := eqA_yes fun _ _ => rfl
theorem half_nd {t : Tr} {b : Nat} : ∀ i, i < 32 → half (b % 2) (t.nd (b / 2)) i = t.tg b i := fun i hi => by
  unfold half Tr.nd joined
  rcases (show b % 2 = 0 ∨ b % 2 = 1 by omega) with h | h
  · rw [h, if_pos rfl, if_pos hi, show 2 * (b / 2) = b by omega]
  · rw [h, if_neg (by omega)]
    show (if 32 + i < 32 then _ else _) = _
    rw [if_neg (by omega), show 2 * (b / 2) + 1 = b by omega, show 32 + i - 32 = i by omega]
theorem chk_own_from {t : Tr} {leaf : Nat} (hl : leaf < t.n) : ∀ (m i b : Nat), i + m = t.h → b / 2 = pth t.h leaf i → 1 ≤ b → b < 2 * t.n → (m = 0 → b = 1) → chkF t.k (prf t leaf) (t.tg 1) m i b (t.tg b) = true
  | 0, i, b, hi, _, _, _, h0 => by
    rw [h0 rfl]
    exact eqA_refl _ _
  | m + 1, i, b, hi, hb, h1, h2, _ => by
    unfold chkF
    have hp : prf t leaf i = t.nd (b / 2) := by unfold prf; rw [hb]
    have hp1 : 1 ≤ b / 2 := by rw [hb]; exact pth_pos (by omega)
    have hp2 : b / 2 < t.n := by rw [hb]; exact pth_lt hl
    rw [hp, eqA_yes half_nd, Bool.true_and, ← Tr.tg_node hp1 hp2]
    refine chk_own_from hl m (i + 1) (b / 2) (by omega) (by rw [hb, pth_succ]) hp1 (by omega) fun hm => ?_
    subst hm
    rw [hb, show i = t.h - 1 by omega]
    exact pth_last hl (by omega)
/-- A leaf's own tag and proof are taken. -/
theorem chk_own {t : Tr} (h1 : 1 ≤ t.h) (h2 : t.h ≤ 12) {leaf : Nat} (hl : leaf < t.n) : chk t.k leaf (t.L leaf) t.h (prf t leaf) (t.tg 1) = true := by
  rw [chk_yes ⟨⟨by omega, by omega⟩, by omega, by rw [Int.toNat_natCast]; show (leaf : Int) < ((t.n : Nat) : Int); omega⟩]
  have hle : t.L leaf = t.tg (2 ^ t.h + leaf) := by
    rw [Tr.tg_leaf (by show 2 ^ t.h ≤ _; omega)]
    congr 1
    show leaf = 2 ^ t.h + leaf - 2 ^ t.h
    omega
  rw [hle]
  exact chk_own_from hl t.h 0 _ (by omega) (pth_zero _ _).symm (by have := t.n_pos; show 1 ≤ t.n + leaf; omega) (by show t.n + leaf < _; omega) fun h => by omega
end TrM
end Go.Proofs.YtdmnhpgafbcehaaDoor
set_option maxRecDepth 100000
namespace Go.Proofs.YtdmnhpgafbcehaaDoor
open Go.ChangeShapes Go.WideShapes Go.ChangeAt Go.RowKit
namespace TrM
open TgP RwP
abbrev RepT := World → Nat → (Nat → Prop) → Tr → Prop
abbrev pT (g : Nat) : Value := .pointer (some ⟨g, 0, none⟩)
structure TreeC (repT : RepT) : Prop where
  lt : ∀ {w g M t}, repT w g M t → g < w.heap.size ∧ ∀ b, M b → b < w.heap.size
  keep : ∀ {w w' g M t} {S : Nat → Prop}, repT w g M t → Turn S w w' → (∀ b, M b → ¬ S b) → repT w' g M t
  wf : ∀ {w g M t}, repT w g M t → 1 ≤ t.h ∧ t.h ≤ 12 ∧ (∀ i, t.k i < 256) ∧ ∀ i j, t.L i j < 256
  newNo : ∀ (k : Nat → Nat) (h : Int) (A : Option Addr) (m cap : Nat), (h < 1 ∨ 12 < h ∨ (okH h ∧ 2 ^ h.toNat < m)) → ∀ w : World,
    Calls Tryd.prog 10 #[.agg (ar 32 k), .int .i64 h, .slice A m cap] w fun e w' => e = .returned (.tuple #[.pointer none, .int .i64 2]) ∧ Below w.heap.size w w'
  new : ∀ (k : Nat → Nat), (∀ i, k i < 256) → ∀ (h : Nat), okH h → ∀ (A : Option Addr) (F : Nat → Nat → Nat), (∀ i j, F i j < 256) → ∀ (m cap : Nat), m ≤ 2 ^ h → ∀ (S : Nat → Prop) (w : World), SliF 32 S w A m F cap → Salts w →
    Calls Tryd.prog 10 #[.agg (ar 32 k), .int .i64 (h : Nat), .slice A m cap] w fun e w' => ∃ (g : Nat) (M : Nat → Prop), e = .returned (.tuple #[pT g, .int .i64 0]) ∧ repT w' g M ⟨k, h, newL m F⟩ ∧ (∀ b, M b → w.heap.size ≤ b) ∧ Below w.heap.size w w'
  top : ∀ {w : World} {g : Nat} {M : Nat → Prop} {t : Tr}, repT w g M t → Salts w →
    Calls Tryd.prog 22 #[pT g] w fun e w' => e = .returned (.agg (ar 32 (t.tg 1))) ∧ Below w.heap.size w w'
  set : ∀ {w : World} {g : Nat} {M : Nat → Prop} {t : Tr} (leaf : Nat) (f : Nat → Nat), leaf < t.n → (∀ i, f i < 256) → repT w g M t → Salts w →
    Calls Tryd.prog 12 #[pT g, .int .i64 leaf, .agg (ar 32 f)] w fun e w' => ∃ (v : Value) (M' : Nat → Prop), e = .returned (.tuple #[v, .int .i64 0]) ∧ OwnI w' w.heap.size v (chg t (t.set leaf f) leaf) ∧ repT w' g M' (t.set leaf f) ∧ (∀ b, M' b → M b ∨ w.heap.size ≤ b) ∧ (∀ b, v.ownBlock = some b → ¬ M' b) ∧ Turn M w w'
  proof : ∀ {w : World} {g : Nat} {M : Nat → Prop} {t : Tr} (leaf : Nat), leaf < t.n → repT w g M t → Salts w →
    Calls Tryd.prog 19 #[pT g, .int .i64 leaf] w fun e w' => ∃ v, e = .returned (.tuple #[v, .int .i64 0]) ∧ OwnF 50 64 w' w.heap.size v t.h (prf t leaf) ∧ Below w.heap.size w w'
  check : ∀ (k f top : Nat → Nat), (∀ i, k i < 256) → ∀ (leaf : Int) (A : Option Addr) (P : Nat → Nat → Nat), (∀ i j, P i j < 256) → ∀ (n cap : Nat), ∀ (S : Nat → Prop) (w : World), SliF 64 S w A n P cap → Salts w →
    Calls Tryd.prog 23 #[.agg (ar 32 k), .int .i64 leaf, .agg (ar 32 f), .slice A n cap, .agg (ar 32 top)] w fun e w' => e = .returned (.bool (chk k leaf f n P top)) ∧ Below w.heap.size w w'
/-- Beside these, what some of the laws ask. -/
structure TreeD (repT : RepT) : Prop where
  tagNo : ∀ {w : World} {g : Nat} {M : Nat → Prop} {t : Tr} (j : Int), ¬ t.has j → repT w g M t → Salts w →
    Calls Tryd.prog 15 #[pT g, .int .i64 j] w fun e w' => e = .returned (.tuple #[.agg (ar 32 fun _ => 0), .int .i64 2]) ∧ Below w.heap.size w w'
  tag : ∀ {w : World} {g : Nat} {M : Nat → Prop} {t : Tr} (j : Nat), t.has j → repT w g M t → Salts w →
    Calls Tryd.prog 15 #[pT g, .int .i64 j] w fun e w' => e = .returned (.tuple #[.agg (ar 32 (t.tg j)), .int .i64 0]) ∧ Below w.heap.size w w'
  nodNo : ∀ {w : World} {g : Nat} {M : Nat → Prop} {t : Tr} (j : Int), ¬ t.hasN j → repT w g M t → Salts w →
    Calls Tryd.prog 17 #[pT g, .int .i64 j] w fun e w' => e = .returned (.tuple #[.agg (ar 64 fun _ => 0), .int .i64 2]) ∧ Below w.heap.size w w'
  nod : ∀ {w : World} {g : Nat} {M : Nat → Prop} {t : Tr} (j : Nat), t.hasN j → repT w g M t → Salts w →
    Calls Tryd.prog 17 #[pT g, .int .i64 j] w fun e w' => e = .returned (.tuple #[.agg (ar 64 (t.nd j)), .int .i64 0]) ∧ Below w.heap.size w w'
  setNo : ∀ {w : World} {g : Nat} {M : Nat → Prop} {t : Tr} (leaf : Int) (f : Nat → Nat), ¬ (0 ≤ leaf ∧ leaf < (t.n : Nat)) → repT w g M t → Salts w →
    Calls Tryd.prog 12 #[pT g, .int .i64 leaf, .agg (ar 32 f)] w fun e w' => e = .returned (.tuple #[.slice none 0 0, .int .i64 2]) ∧ Below w.heap.size w w'
  proofNo : ∀ {w : World} {g : Nat} {M : Nat → Prop} {t : Tr} (leaf : Int), ¬ (0 ≤ leaf ∧ leaf < (t.n : Nat)) → repT w g M t → Salts w →
    Calls Tryd.prog 19 #[pT g, .int .i64 leaf] w fun e w' => e = .returned (.tuple #[.slice none 0 0, .int .i64 2]) ∧ Below w.heap.size w w'
  pathNo : ∀ (h leaf : Int), ¬ pathOk h leaf → ∀ w : World, Calls Tryd.prog 25 #[.int .i64 h, .int .i64 leaf] w fun e w' => ∃ v, e = .returned v ∧ OwnI w' w.heap.size v [] ∧ Below w.heap.size w w'
  path : ∀ (h leaf : Nat), okH h → leaf < 2 ^ h → ∀ w : World, Calls Tryd.prog 25 #[.int .i64 (h : Nat), .int .i64 (leaf : Nat)] w fun e w' => ∃ v, e = .returned v ∧ OwnI w' w.heap.size v (pthL h leaf) ∧ Below w.heap.size w w'
end TrM
end Go.Proofs.YtdmnhpgafbcehaaDoor
namespace Go.Proofs.YtdmnhpgafbcehaaDoor
theorem ShaM.passes_block {s : ShaM.S8} {k r : List Nat} (h : k.length = 64) : ShaM.passes s (k ++ r) = ShaM.passes (ShaM.pass s (ShaM.at' k)) r := by
  rw [ShaM.passes_append 1 (by omega), ShaM.passes_long (l := k) (by omega), ShaM.passes_short (l := k.drop 64) (by rw [List.length_drop]; omega)]
set_option maxRecDepth 100000
end Go.Proofs.YtdmnhpgafbcehaaDoor
