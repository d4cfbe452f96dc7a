/-
  Contracts of aes.mix and aes.mixBack.
  Contracts of xts.add, xts.Double.
  Double, bit by bit, in plain numbers.
  Contracts of casemateref08.Bits and casemateref08.Double.
  Contracts of aes.mixBack, aes.inverses and aes.newBox.
  Contract of aes.nextWord.
  Contract of aes.roundKeys.
  Rows of sectors in one block: a slice literal of sectors; what lies in such a block.
-/
import Derived.Test.YtkcfonlondlmeaaMrgXtsSeals1
import Derived.Laws.CopyOwn
import Derived.Great.BuildSlice
set_option linter.unusedVariables false
namespace Go.Proofs.Ytkcfonlondlmeaa
open Go.ChangeShapes Go.WideShapes Go.ChangeAt Go.RowKit
open AesM (Bt)
attribute [local go_sem] Gives
namespace AesP
theorem xor_bt {f g : Nat → Nat} (hf : Bt f) (hg : Bt g) : Bt (AesM.add f g) := fun k => AesM.xor_lt (hf k) (hg k)
theorem mix_bt {f : Nat → Nat} (hf : Bt f) : Bt (AesM.mix f) := fun _ =>
  AesM.xor_lt (AesM.xor_lt (hf _) (AesM.xor_lt (AesM.xor_lt (AesM.xor_lt (hf _) (hf _)) (hf _)) (hf _))) (AesM.dbl_lt (AesM.xor_lt (hf _) (hf _)))
theorem mix_at (f : Nat → Nat) {q i : Nat} (hq : q % 4 = 0) (hi : i < 4) :
    (f (q + i) ^^^ (f q ^^^ f (q + 1) ^^^ f (q + 2) ^^^ f (q + 3))) ^^^ AesM.dbl (f (q + i) ^^^ f (q + (i + 1) % 4)) = AesM.mix f (q + i) := by
  unfold AesM.mix
  rw [show (q + i) / 4 * 4 = q by omega, show (q + i) % 4 = i by omega]
set_option maxHeartbeats 400000 in
set_option maxRecDepth 100000 in
theorem mix_any (f : Nat → Nat) (hf : Bt f) (w : World) :
    Calls Try.prog 28 #[.agg (ar 16 f)] w fun e w' => e = .returned (.agg (ar 16 (AesM.mix f))) ∧ Below w.heap.size w w' := by
  have HF := hid hf
  clear hf
  go_enter Try.func28, Try.ntmps28
  go_wp2_with (with_reducible apply alA tSt)
  generalize hw3 : World.alloc (World.alloc (World.alloc w _) _) _ = w3
  have b1 : Blk w3 w.heap.size 53 (ar 16 f) := by rw [← hw3]; exact ((Blk.new _ _ _).alloc _).alloc _
  have b2 : Blk w3 (w.heap.size + 1) 53 (ar 16 fun _ => 0) := by rw [← hw3]; exact (Blk.top rfl (by simp)).alloc _
  have b3 : Blk w3 (w.heap.size + 2) 53 (ar 16 fun _ => 0) := by rw [← hw3]; exact Blk.top rfl (by simp)
  have hb : Below w.heap.size w w3 := by rw [← hw3]; exact (((Below.refl _ _).alloc (Nat.le_refl _) _).alloc (by simp) _).alloc (by simp; omega) _
  clear hw3
  go_loopw [4] (fun i wr => ∃ q : Nat, q ≤ 16 ∧ q % 4 = 0 ∧ i = .int .i64 q ∧ Blk wr w.heap.size 53 (ar 16 f) ∧ Blk wr (w.heap.size + 1) 53 (ar 16 fun _ => 0) ∧ Blk wr (w.heap.size + 2) 53 (ar 16 (upTo q (fun _ => 0) (AesM.mix f))) ∧ Below w.heap.size w wr) (fun i _ => 16 - (intOf i).toNat)
  case atStart => exact ⟨0, by omega, rfl, rfl, b1, b2, by rw [upTo_zero]; exact b3, hb⟩
  case round =>
    clear b1 b2 b3 hb
    obtain ⟨q, hk, hq4, rfl, b1, b2, b3, hb⟩ := hrel
    by_cases hlt : q < 16
    · have tk : (q : Int) < 16 := by omega
      have HQ := hid hq4
      have hq12 : q ≤ 12 := by omega
      obtain ⟨q1, hq1⟩ : ∃ q1, q1 = q + 1 := ⟨_, rfl⟩
      obtain ⟨q2, hq2⟩ : ∃ q2, q2 = q + 2 := ⟨_, rfl⟩
      obtain ⟨q3, hq3⟩ : ∃ q3, q3 = q + 3 := ⟨_, rfl⟩
      have t1 : (q1 : Int) < 16 := by omega
      have t2 : (q2 : Int) < 16 := by omega
      have t3 : (q3 : Int) < 16 := by omega
      have e1 := hid (show IntKind.i64.wrap ((q : Int) + 1) = (q1 : Int) from wr_nat (by omega) (by omega))
      have e2 := hid (show IntKind.i64.wrap ((q : Int) + 2) = (q2 : Int) from wr_nat (by omega) (by omega))
      have e3 := hid (show IntKind.i64.wrap ((q : Int) + 3) = (q3 : Int) from wr_nat (by omega) (by omega))
      have C0 := hid ((b1.cell q).trans (get_ar (n := 16) (by omega)))
      have C1 := hid ((b1.cell q1).trans (get_ar (n := 16) (by omega)))
      have C2 := hid ((b1.cell q2).trans (get_ar (n := 16) (by omega)))
      have C3 := hid ((b1.cell q3).trans (get_ar (n := 16) (by omega)))
      have H1 := hid hq1
      have H2 := hid hq2
      have H3 := hid hq3
      clear hq1 hq2 hq3 hq4
      go_wp2_with fail
      refine wp_region_tail (C := Drew wr) 18 (by kernel_rfl) (by kernel_rfl) (by kernel_rfl) (Drew.refl _) ?_
      simp only [List.take_succ_cons, List.take_zero, List.drop_succ_cons, List.drop_zero]
      apply wpK_val
      · rfl
      · intro w' hw'
        go_simp
        first | exact rfl | exact ⟨rfl, hw'⟩
      simp only [Act.put, List.setIfInBounds_toArray, List.set_cons_succ, List.set_cons_zero]
      apply wpK_val
      · rfl
      · intro w' hw'
        go_simp
        first | exact rfl | exact ⟨rfl, hw'⟩
      simp only [Act.put, List.setIfInBounds_toArray, List.set_cons_succ, List.set_cons_zero]
      apply wpK_val
      · rfl
      · intro w' hw'
        have hcell := hw'.cell C0.out
        go_simp
        first | exact rfl | exact ⟨rfl, hw'⟩
      simp only [Act.put, List.setIfInBounds_toArray, List.set_cons_succ, List.set_cons_zero]
      apply wpK_val
      · rfl
      · intro w' hw'
        go_simp
        first | exact rfl | exact ⟨rfl, hw'⟩
      simp only [Act.put, List.setIfInBounds_toArray, List.set_cons_succ, List.set_cons_zero]
      apply wpK_val
      · rfl
      · intro w' hw'
        have h1 : _ := e1.out
        go_simp
        first | exact rfl | exact ⟨rfl, hw'⟩
      simp only [Act.put, List.setIfInBounds_toArray, List.set_cons_succ, List.set_cons_zero]
      apply wpK_val
      · rfl
      · intro w' hw'
        go_simp
        first | exact rfl | exact ⟨rfl, hw'⟩
      simp only [Act.put, List.setIfInBounds_toArray, List.set_cons_succ, List.set_cons_zero]
      apply wpK_val
      · rfl
      · intro w' hw'
        have hcell := hw'.cell C1.out
        go_simp
        first | exact rfl | exact ⟨rfl, hw'⟩
      simp only [Act.put, List.setIfInBounds_toArray, List.set_cons_succ, List.set_cons_zero]
      apply wpK_val
      · rfl
      · intro w' hw'
        have h1 : _ := u8_xor_nat _ _ (HF.out q) (HF.out q1)
        go_simp
        first | exact rfl | exact ⟨rfl, hw'⟩
      simp only [Act.put, List.setIfInBounds_toArray, List.set_cons_succ, List.set_cons_zero]
      apply wpK_val
      · rfl
      · intro w' hw'
        go_simp
        first | exact rfl | exact ⟨rfl, hw'⟩
      simp only [Act.put, List.setIfInBounds_toArray, List.set_cons_succ, List.set_cons_zero]
      apply wpK_val
      · rfl
      · intro w' hw'
        have h1 : _ := e2.out
        go_simp
        first | exact rfl | exact ⟨rfl, hw'⟩
      simp only [Act.put, List.setIfInBounds_toArray, List.set_cons_succ, List.set_cons_zero]
      apply wpK_val
      · rfl
      · intro w' hw'
        go_simp
        first | exact rfl | exact ⟨rfl, hw'⟩
      simp only [Act.put, List.setIfInBounds_toArray, List.set_cons_succ, List.set_cons_zero]
      apply wpK_val
      · rfl
      · intro w' hw'
        have hcell := hw'.cell C2.out
        go_simp
        first | exact rfl | exact ⟨rfl, hw'⟩
      simp only [Act.put, List.setIfInBounds_toArray, List.set_cons_succ, List.set_cons_zero]
      apply wpK_val
      · rfl
      · intro w' hw'
        have h1 : _ := u8_xor_nat _ _ (AesM.xor_lt (HF.out q) (HF.out q1)) (HF.out q2)
        go_simp
        first | exact rfl | exact ⟨rfl, hw'⟩
      simp only [Act.put, List.setIfInBounds_toArray, List.set_cons_succ, List.set_cons_zero]
      apply wpK_val
      · rfl
      · intro w' hw'
        go_simp
        first | exact rfl | exact ⟨rfl, hw'⟩
      simp only [Act.put, List.setIfInBounds_toArray, List.set_cons_succ, List.set_cons_zero]
      apply wpK_val
      · rfl
      · intro w' hw'
        have h1 : _ := e3.out
        go_simp
        first | exact rfl | exact ⟨rfl, hw'⟩
      simp only [Act.put, List.setIfInBounds_toArray, List.set_cons_succ, List.set_cons_zero]
      apply wpK_val
      · rfl
      · intro w' hw'
        go_simp
        first | exact rfl | exact ⟨rfl, hw'⟩
      simp only [Act.put, List.setIfInBounds_toArray, List.set_cons_succ, List.set_cons_zero]
      apply wpK_val
      · rfl
      · intro w' hw'
        have hcell := hw'.cell C3.out
        go_simp
        first | exact rfl | exact ⟨rfl, hw'⟩
      simp only [Act.put, List.setIfInBounds_toArray, List.set_cons_succ, List.set_cons_zero]
      apply wpK_val
      · rfl
      · intro w' hw'
        have h1 : _ := u8_xor_nat _ _ (AesM.xor_lt (AesM.xor_lt (HF.out q) (HF.out q1)) (HF.out q2)) (HF.out q3)
        go_simp
        first | exact rfl | exact ⟨rfl, hw'⟩
      simp only [Act.put, List.setIfInBounds_toArray, List.set_cons_succ, List.set_cons_zero]
      refine wpK_nil fun w5 hw5 => ?_
      have r1 := hid (hw5.blk b1)
      have r2 := hid (hw5.blk b2)
      have r3 := hid (hw5.blk b3)
      have rb := hid (hw5.below hb)
      clear b1 b2 b3 hb hw5 C0 C1 C2 C3 e1 e2 e3 t1 t2 t3
      have HA : f q ^^^ f q1 ^^^ f q2 ^^^ f q3 = f q ^^^ f (q + 1) ^^^ f (q + 2) ^^^ f (q + 3) := by rw [H1.out, H2.out, H3.out]
      rw [HA]
      clear HA H1 H2 H3
      obtain ⟨al, hal⟩ : ∃ al, al = f q ^^^ f (q + 1) ^^^ f (q + 2) ^^^ f (q + 3) := ⟨_, rfl⟩
      rw [← hal]
      have HAL := hid hal
      have hal256 : al < 256 := by rw [hal]; exact AesM.xor_lt (AesM.xor_lt (AesM.xor_lt (HF.out q) (HF.out _)) (HF.out _)) (HF.out _)
      have HAL2 := hid hal256
      clear hal hal256
      go_wp2_with fail
      go_loopw [31] (fun i wk => ∃ i' : Nat, i' ≤ 4 ∧ i = .int .i64 i' ∧ Hid (Blk wk w.heap.size 53 (ar 16 f)) ∧ Hid (Blk wk (w.heap.size + 1) 53 (ar 16 fun _ => 0)) ∧ Hid (Blk wk (w.heap.size + 2) 53 (ar 16 (upTo (q + i') (fun _ => 0) (AesM.mix f)))) ∧ Hid (Below w.heap.size w wk)) (fun i _ => 4 - (intOf i).toNat)
      case atStart => exact ⟨0, by omega, rfl, r1, r2, r3, rb⟩
      case round =>
        clear r1 r2 r3 rb
        obtain ⟨i, hi, rfl, r1, r2, r3, rb⟩ := hrel
        by_cases hli : i < 4
        · have ti : (i : Int) < 4 := by omega
          obtain ⟨n, hn⟩ : ∃ n, n = q + i := ⟨_, rfl⟩
          obtain ⟨i1, hi1⟩ : ∃ i1, i1 = i + 1 := ⟨_, rfl⟩
          obtain ⟨j, hj⟩ : ∃ j, j = i1 % 4 := ⟨_, rfl⟩
          obtain ⟨m, hm⟩ : ∃ m, m = q + j := ⟨_, rfl⟩
          have hn16 : n < 16 := by omega
          have hm16 : m < 16 := by omega
          have tn : (n : Int) < 16 := by omega
          have tm : (m : Int) < 16 := by omega
          have e1 := hid (show IntKind.i64.wrap ((q : Int) + (i : Int)) = (n : Int) from wr_nat (by omega) (by omega))
          have e2 := hid (show IntKind.i64.wrap ((i : Int) + 1) = (i1 : Int) from wr_nat (by omega) (by omega))
          have e3 := hid (show ((i1 : Int)).tmod 4 = (j : Int) by rw [hj]; rfl)
          have e4 := hid (show IntKind.i64.wrap ((q : Int) + (j : Int)) = (m : Int) from wr_nat (by omega) (by omega))
          have C0 := hid ((r1.out.cell n).trans (get_ar hn16))
          have C1 := hid ((r1.out.cell m).trans (get_ar hm16))
          have HN := hid hn
          have HM := hid (show m = q + (i + 1) % 4 by rw [hm, hj, hi1])
          clear hn hm hj hi1
          go_wp2_with fail
          refine wp_region_tail (C := Drew wr) 14 (by kernel_rfl) (by kernel_rfl) (by kernel_rfl) (Drew.refl _) ?_
          simp only [List.take_succ_cons, List.take_zero, List.drop_succ_cons, List.drop_zero]
          apply wpK_val
          · rfl
          · intro w' hw'
            go_simp
            first | exact rfl | exact ⟨rfl, hw'⟩
          simp only [Act.put, List.setIfInBounds_toArray, List.set_cons_succ, List.set_cons_zero]
          apply wpK_val
          · rfl
          · intro w' hw'
            go_simp
            first | exact rfl | exact ⟨rfl, hw'⟩
          simp only [Act.put, List.setIfInBounds_toArray, List.set_cons_succ, List.set_cons_zero]
          apply wpK_val
          · rfl
          · intro w' hw'
            have h1 : _ := e1.out
            go_simp
            first | exact rfl | exact ⟨rfl, hw'⟩
          simp only [Act.put, List.setIfInBounds_toArray, List.set_cons_succ, List.set_cons_zero]
          apply wpK_val
          · rfl
          · intro w' hw'
            go_simp
            first | exact rfl | exact ⟨rfl, hw'⟩
          simp only [Act.put, List.setIfInBounds_toArray, List.set_cons_succ, List.set_cons_zero]
          apply wpK_val
          · rfl
          · intro w' hw'
            have hcell := hw'.cell C0.out
            go_simp
            first | exact rfl | exact ⟨rfl, hw'⟩
          simp only [Act.put, List.setIfInBounds_toArray, List.set_cons_succ, List.set_cons_zero]
          apply wpK_val
          · rfl
          · intro w' hw'
            go_simp
            first | exact rfl | exact ⟨rfl, hw'⟩
          simp only [Act.put, List.setIfInBounds_toArray, List.set_cons_succ, List.set_cons_zero]
          apply wpK_val
          · rfl
          · intro w' hw'
            go_simp
            first | exact rfl | exact ⟨rfl, hw'⟩
          simp only [Act.put, List.setIfInBounds_toArray, List.set_cons_succ, List.set_cons_zero]
          apply wpK_val
          · rfl
          · intro w' hw'
            have h1 : _ := e2.out
            go_simp
            first | exact rfl | exact ⟨rfl, hw'⟩
          simp only [Act.put, List.setIfInBounds_toArray, List.set_cons_succ, List.set_cons_zero]
          apply wpK_val
          · rfl
          · intro w' hw'
            have h1 : _ := e3.out
            go_simp
            first | exact rfl | exact ⟨rfl, hw'⟩
          simp only [Act.put, List.setIfInBounds_toArray, List.set_cons_succ, List.set_cons_zero]
          apply wpK_val
          · rfl
          · intro w' hw'
            have h1 : _ := e4.out
            go_simp
            first | exact rfl | exact ⟨rfl, hw'⟩
          simp only [Act.put, List.setIfInBounds_toArray, List.set_cons_succ, List.set_cons_zero]
          apply wpK_val
          · rfl
          · intro w' hw'
            go_simp
            first | exact rfl | exact ⟨rfl, hw'⟩
          simp only [Act.put, List.setIfInBounds_toArray, List.set_cons_succ, List.set_cons_zero]
          apply wpK_val
          · rfl
          · intro w' hw'
            have hcell := hw'.cell C1.out
            go_simp
            first | exact rfl | exact ⟨rfl, hw'⟩
          simp only [Act.put, List.setIfInBounds_toArray, List.set_cons_succ, List.set_cons_zero]
          apply wpK_val
          · rfl
          · intro w' hw'
            go_simp
            first | exact rfl | exact ⟨rfl, hw'⟩
          simp only [Act.put, List.setIfInBounds_toArray, List.set_cons_succ, List.set_cons_zero]
          apply wpK_val
          · rfl
          · intro w' hw'
            go_simp
            first | exact rfl | exact ⟨rfl, hw'⟩
          simp only [Act.put, List.setIfInBounds_toArray, List.set_cons_succ, List.set_cons_zero]
          refine wpK_nil fun w5 hw5 => ?_
          have s1 := hid (hw5.blk r1.out)
          have s2 := hid (hw5.blk r2.out)
          have s3 := hid (hw5.blk r3.out)
          have sb := hid (hw5.below rb.out)
          clear r1 r2 r3 rb hw5 e2 e3 e4 tm
          have hx1 := AesM.xor_lt (HF.out n) HAL2.out
          have X1 := hid (u8_xor_nat _ _ (HF.out n) HAL2.out)
          have X2 := hid (u8_xor_nat _ _ (HF.out n) (HF.out m))
          have X3 := hid (u8_xor_nat _ _ hx1 (AesM.dbl_lt (AesM.xor_lt (HF.out n) (HF.out m))))
          have X4 := hid (AesM.xor_lt (HF.out n) (HF.out m))
          clear hx1
          have c3 := (s3.out.cell n).trans (get_ar hn16)
          have f3 := s3.out.frozen n
          have y1 := X1.out
          have y2 := X2.out
          have y3 := X3.out
          have y4 : (q : Int) + (i : Int) = (n : Int) := by have := HN.out; omega
          go_wp2_with ((with_reducible refine (double_any _ X4.out _).mono ?_); rintro e w' ⟨rfl, rfl⟩)
          go_roundw
          case rel =>
            have HV : f n ^^^ al ^^^ AesM.dbl (f n ^^^ f m) = AesM.mix f n := by
              rw [HM.out, HN.out, HAL.out]
              exact mix_at f HQ.out hli
            rw [HV]
            have h3 := s3.out
            rw [← HN.out] at h3
            exact ⟨i + 1, by omega, by go_num, hid (s1.out.setCell_other (by simp; omega) _), hid (s2.out.setCell_other (by simp) _), hid (by rw [show q + (i + 1) = n + 1 by have := HN.out; omega]; exact upTo_step (h3.setCell_same n _)), hid (sb.out.setCell (by simp; omega) _)⟩
          case measure => simp [intOf]; omega
        · have ti : decide ((i : Int) < 4) = false := by simp; omega
          obtain rfl : i = 4 := by omega
          have HQ4 := HQ.out
          go_wp2_with fail
          go_roundw
          case rel => exact ⟨q + 4, by omega, by omega, by go_num, r1.out, r2.out, r3.out, rb.out⟩
          case measure => simp [intOf]; omega
    · have tk : decide ((q : Int) < 16) = false := by simp; omega
      rw [upTo_all (by omega)] at b3
      clear b1
      go_wp2_with (first | ((with_reducible apply ldA tSt); rfl; assumption) | ((with_reducible apply stA tSt); rfl; rfl; assumption))
      apply ret_ar tSt Try.results28
      · rfl
      · rfl
      · exact b2.setRow_same _
      exact ⟨rfl, below_setRow hb (by omega) _⟩
end AesP
end Go.Proofs.Ytkcfonlondlmeaa
namespace Go.Proofs.Ytkcfonlondlmeaa
open Go.ChangeShapes Go.WideShapes Go.ChangeAt Go.RowKit
open AesM (Bt Q16)
open AesP (tBk wr_nat)
namespace XtP
attribute [local go_sem] Gives
set_option maxRecDepth 100000 in
theorem add_any (f g : Nat → Nat) (hf : Bt f) (hg : Bt g) (w : World) :
    Calls Try.prog 26 #[.agg (ar 16 f), .agg (ar 16 g)] w fun e w' => e = .returned (.agg (ar 16 (AesM.add f g))) ∧ Below w.heap.size w w' := by
  have HF := hid hf
  have HG := hid hg
  clear hf hg
  go_enter Try.func26, Try.ntmps26
  go_wp2_with (with_reducible apply alA tBk)
  generalize hw3 : World.alloc (World.alloc (World.alloc w _) _) _ = w3
  have b1 : Blk w3 w.heap.size 35 (ar 16 f) := by rw [← hw3]; exact ((Blk.new _ _ _).alloc _).alloc _
  have b2 : Blk w3 (w.heap.size + 1) 35 (ar 16 g) := by rw [← hw3]; exact (Blk.top rfl (by simp)).alloc _
  have b3 : Blk w3 (w.heap.size + 1 + 1) 35 (ar 16 fun _ => 0) := by rw [← hw3]; exact Blk.top rfl (by simp)
  have hb : Below w.heap.size w w3 := by rw [← hw3]; exact (((Below.refl _ _).alloc (Nat.le_refl _) _).alloc (by simp) _).alloc (by simp; omega) _
  clear hw3
  go_loopw [6] (fun i wr => ∃ k : Nat, k ≤ 16 ∧ i = .int .i64 k ∧ Blk wr w.heap.size 35 (ar 16 (upTo k f fun j => f j ^^^ g j)) ∧ Blk wr (w.heap.size + 1) 35 (ar 16 g) ∧ Blk wr (w.heap.size + 1 + 1) 35 (ar 16 fun _ => 0) ∧ Below w.heap.size w wr) (fun i _ => 16 - (intOf i).toNat)
  case atStart => exact ⟨0, by omega, rfl, by rw [upTo_zero]; exact b1, b2, b3, hb⟩
  case round =>
    clear b1 b2 b3 hb
    obtain ⟨k, hk, rfl, b1, b2, b3, hb⟩ := hrel
    by_cases hlt : k < 16
    · have c1 : wr.cell? ⟨w.heap.size, k, none⟩ = some (.int .u8 (f k : Nat)) := by rw [b1.cell, get_ar hlt, upTo_at]
      have c2 : wr.cell? ⟨w.heap.size + 1, k, none⟩ = some (.int .u8 (g k : Nat)) := by rw [b2.cell, get_ar hlt]
      have c3 := b1.frozen k
      go_wp2_with fail
      go_still_tail 8, (by kernel_rfl)
      change wpList _ _ _ _ _ wr.drew
      rw [u8_xor_nat _ _ (HF.out k) (HG.out k)]
      go_wp2_with fail
      go_roundw
      case rel => exact ⟨k + 1, by omega, by go_num, upTo_step (b1.setCell_same k _).drew, (b2.setCell_other (by simp) _).drew, (b3.setCell_other (by simp; omega) _).drew, (hb.setCell (by simp) _).drew⟩
      case measure => simp [intOf]; omega
    · have hs : Blk wr w.heap.size 35 (ar 16 (AesM.add f g)) := by rw [upTo_all (by omega)] at b1; exact b1
      clear b1
      go_wp2_with (first | ((with_reducible apply ldA tBk); rfl; assumption) | ((with_reducible apply stA tBk); rfl; rfl; assumption))
      apply ret_ar tBk Try.results26
      · rfl
      · rfl
      · exact b3.setRow_same _
      exact ⟨rfl, below_setRow hb (by omega) _⟩
/-- What the loop makes of byte i. -/
def mv (t : Nat → Nat) (i : Nat) : Nat := (t i * 2 % 256) ^^^ (if i = 0 then 0 else t (i - 1) / 128)
def outOf (t : Nat → Nat) (k : Nat) : Nat := if k = 0 then 0 else t (k - 1) / 128
theorem outOf_lt {t : Nat → Nat} (h : Bt t) (k : Nat) : outOf t k < 2 := by
  unfold outOf
  have := h (k - 1)
  split <;> omega
set_option maxHeartbeats 400000 in
set_option maxRecDepth 100000 in
theorem double_any (t : Nat → Nat) (ht : Bt t) (w : World) :
    Calls Try.prog 11 #[.agg (ar 16 t)] w fun e w' => e = .returned (.agg (ar 16 (XtM.dbl t))) ∧ Below w.heap.size w w' := by
  have HT := hid ht
  clear ht
  go_enter Try.func11, Try.ntmps11
  go_upto_region 3 with (with_reducible apply alA tBk)
  generalize hw3 : World.alloc (World.alloc (World.alloc w _) _) _ = w3
  have b1 : Blk w3 w.heap.size 35 (ar 16 t) := by rw [← hw3]; exact ((Blk.new _ _ _).alloc _).alloc _
  have b2 : Blk w3 (w.heap.size + 1) 35 (ar 16 fun _ => 0) := by rw [← hw3]; exact (Blk.top rfl (by simp)).alloc _
  have b3 : Blk w3 (w.heap.size + 1 + 1) 35 (ar 16 fun _ => 0) := by rw [← hw3]; exact Blk.top rfl (by simp)
  have hb : Below w.heap.size w w3 := by rw [← hw3]; exact (((Below.refl _ _).alloc (Nat.le_refl _) _).alloc (by simp) _).alloc (by simp; omega) _
  clear hw3
  go_wp2_with ((with_reducible apply ldA tBk); rfl; exact b1)
  go_loopw [4, 8] (fun o i wr => ∃ k : Nat, k ≤ 16 ∧ i = .int .i64 k ∧ o = .int .u8 (outOf t k : Nat) ∧ Blk wr (w.heap.size + 1) 35 (ar 16 fun _ => 0) ∧ Blk wr (w.heap.size + 1 + 1) 35 (ar 16 (upTo k (fun _ => 0) (mv t))) ∧ Below w.heap.size w wr) (fun _ i _ => 16 - (intOf i).toNat)
  case atStart => exact ⟨0, by omega, rfl, rfl, b2, by rw [upTo_zero]; exact b3, hb⟩
  case round =>
    clear b1 b2 b3 hb
    obtain ⟨k, hk, rfl, rfl, b2, b3, hb⟩ := hrel
    by_cases hlt : k < 16
    · have tk : (k : Int) < 16 := by omega
      have c1 := run_index_ar (T := 35) (f := t) Try.underlying35 hlt
      have c3 := b3.frozen k
      have e3 := (b3.cell k).trans (get_ar hlt)
      have H : bits .or .u8 ((t k : Int) * 2 % 256) ((outOf t k : Nat) : Int) = ((mv t k : Nat) : Int) := by
        rw [show ((t k : Int) * 2 % 256) = ((t k * 2 % 256 : Nat) : Int) by omega, u8_or_nat _ _ (Nat.mod_lt _ (by omega)) (Nat.lt_trans (outOf_lt HT.out k) (by omega)), XtM.or_low _ (HT.out k) _ (outOf_lt HT.out k)]; rfl
      have H7 : (t k : Int) / 128 = ((outOf t (k + 1) : Nat) : Int) := by unfold outOf; rw [if_neg (by omega), Nat.add_sub_cancel]; omega
      go_wp2_with fail
      go_roundw
      case rel => exact ⟨k + 1, by omega, by go_num, rfl, b2.setCell_other (by simp) _, upTo_step (b3.setCell_same k _), hb.setCell (by simp; omega) _⟩
      case measure => simp [intOf]; omega
    · have tk : decide ((k : Int) < 16) = false := by simp; omega
      obtain rfl : k = 16 := by omega
      rw [upTo_all (by omega)] at b3
      have c3 : wr.cell? ⟨w.heap.size + 1 + 1, 0, none⟩ = some (.int .u8 (mv t 0 : Nat)) := by rw [b3.cell, get_ar (by omega)]
      have f3 := b3.frozen 0
      have HX : bits .xor .u8 ((mv t 0 : Nat) : Int) (((outOf t 16 : Nat) : Int) * 135 % 256) = ((XtM.dbl t 0 : Nat) : Int) := by
        have := outOf_lt HT.out 16
        have h1 : ((outOf t 16 : Nat) : Int) * 135 % 256 = ((outOf t 16 * 135 : Nat) : Int) := by omega
        have h2 : mv t 0 < 256 := by unfold mv; simp only [if_true, Nat.xor_zero]; exact Nat.mod_lt _ (by omega)
        rw [h1, u8_xor_nat _ _ h2 (by omega)]
        unfold mv XtM.dbl XtM.low outOf
        simp
      go_upto_region 10 with fail
      generalize hw5 : World.setCell wr _ _ = w5
      have d2 : Blk w5 (w.heap.size + 1) 35 (ar 16 fun _ => 0) := by rw [← hw5]; exact b2.setCell_other (by simp) _
      have d3 : Blk w5 (w.heap.size + 1 + 1) 35 (ar 16 (XtM.dbl t)) := by
        rw [← hw5]
        have h := b3.setCell_same 0 (.int .u8 (XtM.dbl t 0 : Nat))
        rw [ar_set, ar_ext (g := XtM.dbl t) fun j _ => ?_] at h
        · exact h
        · by_cases e : j = 0
          · rw [if_pos e, e]
          · rw [if_neg e]; unfold mv XtM.dbl XtM.low; rw [if_neg e, if_neg e]
      have db : Below w.heap.size w w5 := by rw [← hw5]; exact hb.setCell (by simp; omega) _
      clear hw5 b2 b3 hb c3 f3 HX
      go_wp2_with (first | ((with_reducible apply ldA tBk); rfl; assumption) | ((with_reducible apply stA tBk); rfl; rfl; assumption))
      apply ret_ar tBk Try.results11
      · rfl
      · rfl
      · exact d2.setRow_same _
      exact ⟨rfl, below_setRow db (by omega) _⟩
end XtP
end Go.Proofs.Ytkcfonlondlmeaa
namespace Go.Proofs.Ytkcfonlondlmeaa
namespace XtM
open AesM (Bt Q16)
/-- The k-th bit of 16 bytes, the least one first. -/
def bit (t : Nat → Nat) (k : Nat) : Bool := decide (t (k / 8) / 2 ^ (k % 8) % 2 = 1)
def mv1 (t : Nat → Nat) (k : Nat) : Bool := if k = 0 then false else bit t (k - 1)
def top (k : Nat) : Bool := decide (k = 0 ∨ k = 1 ∨ k = 2 ∨ k = 7)
/-- The bits moved on. -/
def mvb (t : Nat → Nat) (k : Nat) : Bool := xor (mv1 t k) (bit t 127 && top k)
def sb (m : Nat → Bool) : Nat → Nat
  | 0 => 0
  | n + 1 => sb m n + (if m n then 2 ^ n else 0)
theorem sb_lt (m : Nat → Bool) : ∀ n, sb m n < 2 ^ n
  | 0 => by simp [sb]
  | n + 1 => by
    have := sb_lt m n
    rw [sb, Nat.pow_succ]
    split <;> omega
theorem sb_congr {m m' : Nat → Bool} : ∀ {n}, (∀ r, r < n → m r = m' r) → sb m n = sb m' n
  | 0, _ => rfl
  | n + 1, h => by rw [sb, sb, sb_congr fun r hr => h r (by omega), h n (by omega)]
/-- Byte j behind n bits. -/
def gone (m : Nat → Bool) (n j : Nat) : Nat := sb (fun r => m (8 * j + r)) (min (n - 8 * j) 8)
theorem gone_zero (m : Nat → Bool) (j : Nat) : gone m 0 j = 0 := by unfold gone; rw [show min (0 - 8 * j) 8 = 0 by omega]; rfl
theorem gone_other (m : Nat → Bool) {n j : Nat} (h : j ≠ n / 8) : gone m (n + 1) j = gone m n j := by
  unfold gone
  rw [show min (n + 1 - 8 * j) 8 = min (n - 8 * j) 8 by omega]
theorem gone_same (m : Nat → Bool) (n : Nat) : gone m (n + 1) (n / 8) = gone m n (n / 8) + (if m n then 2 ^ (n % 8) else 0) := by
  unfold gone
  rw [show min (n + 1 - 8 * (n / 8)) 8 = n % 8 + 1 by omega, show min (n - 8 * (n / 8)) 8 = n % 8 by omega, sb, show 8 * (n / 8) + n % 8 = n by omega]
theorem gone_lt (m : Nat → Bool) (n : Nat) : gone m n (n / 8) < 2 ^ (n % 8) := by
  unfold gone
  rw [show min (n - 8 * (n / 8)) 8 = n % 8 by omega]
  exact sb_lt _ _
theorem pow_lt (r : Nat) (h : r < 8) : 2 ^ r ≤ 128 := by
  match r, h with
  | 0, _ | 1, _ | 2, _ | 3, _ | 4, _ | 5, _ | 6, _ | 7, _ => decide
theorem gone_bt (m : Nat → Bool) (n j : Nat) : gone m n j < 256 := by
  unfold gone
  have h := sb_lt (fun r => m (8 * j + r)) (min (n - 8 * j) 8)
  have : (2 : Nat) ^ min (n - 8 * j) 8 ≤ 2 ^ 8 := Nat.pow_le_pow_right (by omega) (by omega)
  omega
theorem byte_low : ∀ x, x < 256 → ∀ y, y < 2 → sb (fun r => if r = 0 then decide (y = 1) else decide (x / 2 ^ (r - 1) % 2 = 1)) 8 = (x * 2 % 256) ^^^ y := by decide +kernel
theorem byte_top : ∀ x, x < 256 → ∀ y, y < 2 → sb (fun r => xor (if r = 0 then false else decide (x / 2 ^ (r - 1) % 2 = 1)) (decide (y = 1) && decide (r = 0 ∨ r = 1 ∨ r = 2 ∨ r = 7))) 8 = (x * 2 % 256) ^^^ (y * 135) := by decide +kernel
theorem gone_all {t : Nat → Nat} (ht : Bt t) {j : Nat} (hj : j < 16) : gone (mvb t) 128 j = dbl t j := by
  unfold gone
  rw [show min (128 - 8 * j) 8 = 8 by omega]
  unfold dbl low
  by_cases e : j = 0
  · subst e
    rw [if_pos rfl, ← byte_top _ (ht 0) _ (show t 15 / 128 < 2 by have := ht 15; omega)]
    refine sb_congr fun r hr => ?_
    unfold mvb mv1 top bit
    rw [show 8 * 0 + r = r by omega, show (127 : Nat) / 8 = 15 from rfl, show (2 : Nat) ^ (127 % 8) = 128 from rfl, Nat.mod_eq_of_lt (show t 15 / 128 < 2 by have := ht 15; omega)]
    by_cases h0 : r = 0
    · simp [h0]
    · rw [if_neg h0, if_neg h0, show (r - 1) / 8 = 0 by omega, show (r - 1) % 8 = r - 1 by omega]
  · rw [if_neg e, ← byte_low _ (ht j) _ (show t (j - 1) / 128 < 2 by have := ht (j - 1); omega)]
    refine sb_congr fun r hr => ?_
    unfold mvb mv1 top
    rw [show decide (8 * j + r = 0 ∨ 8 * j + r = 1 ∨ 8 * j + r = 2 ∨ 8 * j + r = 7) = false from decide_eq_false (by omega), Bool.and_false, Bool.xor_false, if_neg (by omega)]
    unfold bit
    by_cases h0 : r = 0
    · rw [if_pos h0, show (8 * j + r - 1) / 8 = j - 1 by omega, show (8 * j + r - 1) % 8 = 7 by omega, show (2 : Nat) ^ 7 = 128 from rfl, Nat.mod_eq_of_lt (show t (j - 1) / 128 < 2 by have := ht (j - 1); omega)]
    · rw [if_neg h0, show (8 * j + r - 1) / 8 = j by omega, show (8 * j + r - 1) % 8 = r - 1 by omega]
end XtM
end Go.Proofs.Ytkcfonlondlmeaa
namespace Go.Proofs.Ytkcfonlondlmeaa
open Go.ChangeShapes Go.WideShapes Go.ChangeAt Go.RowKit
open AesM (Bt Q16)
open AesP (tBk wr_nat)
attribute [local go_sem] Gives
/-- 128 bits. -/
def brow (f : Nat → Bool) : Array Value := row 128 fun k => .bool (f k)
section
variable {ops : Array Oper} {Q : Exit → Act → World → Prop} {a : Act} {w : World} {rest : List Oper} {dst : Option Tmp} {ty : TypeId} {pos : String} {after : Array Edge} {x y : Operand} {g : Nat} {f f0 : Nat → Bool} {t : TypeId}
theorem size_brow : (brow f).size = 128 := size_row
theorem get_brow {k : Nat} (h : k < 128) : (brow f)[k]? = some (.bool (f k)) := get_row_lt h
theorem brow_ext {f g : Nat → Bool} (h : ∀ k, k < 128 → f k = g k) : brow f = brow g := row_ext fun k hk => by rw [h k hk]
theorem brow_one : (brow f).all (·.oneCell') = true := row_one fun _ _ => rfl
theorem brow_set {k : Nat} {v : Bool} : (brow f).setIfInBounds k (.bool v) = brow fun j => if j = k then v else f j := by
  unfold brow
  rw [row_set]
  exact row_ext fun j _ => by by_cases e : j = k <;> simp [e]
theorem info_brow : (Try.prog.info? 48).map (·.size) = some 128 := by kernel_rfl
theorem ldB (hx : a.eval x = .pointer (some ⟨g, 0, none⟩)) (hb : Blk w g t (brow f)) (h : wpList Try.prog ops Q rest (a.put dst (.agg (brow f))) w) :
    wpList Try.prog ops Q (⟨dst, .load 48 x, ty, pos, after, none⟩ :: rest) a w :=
  step_load_row hb Try.underlying48 rfl (by rw [size_brow]; exact info_brow) hx h
theorem stB (hx : a.eval x = .pointer (some ⟨g, 0, none⟩)) (hy : a.eval y = .agg (brow f)) (hb : Blk w g t (brow f0)) (h : wpList Try.prog ops Q rest (a.put dst undef) (w.setRow g (brow f))) :
    wpList Try.prog ops Q (⟨dst, .store 48 x y, ty, pos, after, none⟩ :: rest) a w :=
  step_store_row hb (by rw [size_brow]; exact info_brow) (by rw [size_brow, size_brow]) brow_one hx hy h
theorem zero_brow (w : World) : (zeroValue 48).run Try.prog w = .ok (.agg (brow fun _ => false)) w := (zero_of_info (P := Try.prog) (t := 48) (v := .agg (brow fun _ => false)) (n := 128) (by kernel_rfl)).1 w
theorem run_alloc_brow (w : World) : (Instr.alloc 48 true (.tuple #[])).run Try.prog w = .ok (.pointer (some ⟨w.heap.size, 0, none⟩)) (w.alloc (.cells (brow fun _ => false) 48)) := by
  simp [Instr.alloc, Sem.run_bind, zero_brow w, newVar, newRow, Value.cells]
theorem alB (h : wpList Try.prog ops Q rest (a.put dst (.pointer (some ⟨w.heap.size, 0, none⟩))) (w.alloc (.cells (brow fun _ => false) 48))) :
    wpList Try.prog ops Q (⟨dst, .alloc 48, ty, pos, after, none⟩ :: rest) a w := by
  refine wpList_plain rfl fun K hK => ?_
  unfold Oper.wp execOp
  simp only [Sem.run_bind, run_alloc_brow w, Result.andThen_ok, Sem.run_pure]
  exact hK _ _ h
theorem ret_brow {fn : Func} {R : Ending → World → Prop} {p : Tmp} (hr : fn.results = #[.cell p 48]) (hp : a.tmps.getD p undef = .pointer (some ⟨g, 0, none⟩)) (hdf : a.defers = [])
    (hb : Blk w g t (brow f)) (hR : R (.returned (.agg (brow f))) w) : bodyPost Try.prog fn R .ret a w :=
  ret_row hr hb Try.underlying48 rfl (by rw [size_brow]; exact info_brow) hp hdf hR
end
/-- A loop over bits: behind k rounds the first k are turned. -/
def upToB (k : Nat) (f h : Nat → Bool) : Nat → Bool := fun j => if j < k then h j else f j
theorem upToB_zero {f h : Nat → Bool} : upToB 0 f h = f := by funext j; simp [upToB]
theorem upToB_step {w : World} {b k : Nat} {t : TypeId} {f h : Nat → Bool} (hb : Blk w b t ((brow (upToB k f h)).setIfInBounds k (.bool (h k)))) : Blk w b t (brow (upToB (k + 1) f h)) := by
  rw [brow_set] at hb
  rw [brow_ext (g := fun j => if j = k then h k else upToB k f h j) fun j _ => ?_]
  · exact hb
  · unfold upToB
    by_cases e : j = k
    · subst e; simp
    · simp only [e, if_false]
      by_cases h2 : j < k
      · rw [if_pos h2, if_pos (by omega)]
      · rw [if_neg h2, if_neg (by omega)]
theorem upToB_all {f h : Nat → Bool} {k : Nat} (hk : 128 ≤ k) : brow (upToB k f h) = brow h := brow_ext fun j hj => by unfold upToB; rw [if_pos (by omega)]
namespace XtP
theorem bit_and {t : Nat → Nat} {k : Nat} (h : t (k / 8) < 256) : (bits .and .u8 ((t (k / 8) : Int) / 2 ^ (k % 8)) 1 == 1) = XtM.bit t k := by
  have e : ((t (k / 8) : Int) / 2 ^ (k % 8)) = ((t (k / 8) / 2 ^ (k % 8) : Nat) : Int) := by norm_cast
  have hlt : t (k / 8) / 2 ^ (k % 8) < 256 := Nat.lt_of_le_of_lt (Nat.div_le_self _ _) h
  rw [e, show (1 : Int) = ((1 : Nat) : Int) from rfl, u8_and_nat _ _ hlt (by omega), Nat.and_one_is_mod]
  unfold XtM.bit
  rw [Bool.eq_iff_iff, beq_iff_eq, decide_eq_true_eq]
  omega
set_option maxHeartbeats 400000 in
set_option maxRecDepth 100000 in
theorem bits_any (t : Nat → Nat) (ht : Bt t) (w : World) :
    Calls Try.prog 23 #[.agg (ar 16 t)] w fun e w' => e = .returned (.agg (brow (XtM.bit t))) ∧ Below w.heap.size w w' := by
  have HT := hid ht
  clear ht
  go_enter Try.func23, Try.ntmps23
  go_upto_region 2 with (with_reducible apply alB)
  generalize hw3 : World.alloc (World.alloc (World.alloc w _) _) _ = w3
  have b0 : Blk w3 w.heap.size 35 (ar 16 t) := by rw [← hw3]; exact ((Blk.new _ _ _).alloc _).alloc _
  have b1 : Blk w3 (w.heap.size + 1) 48 (brow fun _ => false) := by rw [← hw3]; exact (Blk.top rfl (by simp)).alloc _
  have b2 : Blk w3 (w.heap.size + 1 + 1) 48 (brow fun _ => false) := by rw [← hw3]; exact Blk.top rfl (by simp)
  have hb : Below w.heap.size w w3 := by rw [← hw3]; exact (((Below.refl _ _).alloc (Nat.le_refl _) _).alloc (by simp) _).alloc (by simp; omega) _
  clear hw3
  go_wp2_with fail
  go_loopw [4] (fun i wr => ∃ k : Nat, k ≤ 128 ∧ i = .int .i64 k ∧ Blk wr w.heap.size 35 (ar 16 t) ∧ Blk wr (w.heap.size + 1) 48 (brow fun _ => false) ∧ Blk wr (w.heap.size + 1 + 1) 48 (brow (upToB k (fun _ => false) (XtM.bit t))) ∧ Below w.heap.size w wr) (fun i _ => 128 - (intOf i).toNat)
  case atStart => exact ⟨0, by omega, rfl, b0, b1, by rw [upToB_zero]; exact b2, hb⟩
  case round =>
    clear b0 b1 b2 hb
    obtain ⟨k, hk, rfl, b0, b1, b2, hb⟩ := hrel
    by_cases hlt : k < 128
    · have tk : (k : Int) < 128 := by omega
      have c0 : wr.cell? ⟨w.heap.size, k / 8, none⟩ = some (.int .u8 (t (k / 8) : Nat)) := by rw [b0.cell, get_ar (by omega)]
      have c3 := b2.frozen k
      have c4 := (b2.cell k).trans (get_brow hlt)
      have H : (bits .and .u8 ((t (k / 8) : Int) / 2 ^ (k % 8)) 1 == 1) = XtM.bit t k := bit_and (HT.out _)
      go_wp2_with fail
      go_roundw
      case rel => exact ⟨k + 1, by omega, by go_num, b0.setCell_other (by simp; omega) _, b1.setCell_other (by simp) _, upToB_step (b2.setCell_same k _), hb.setCell (by simp; omega) _⟩
      case measure => simp [intOf]; omega
    · have tk : decide ((k : Int) < 128) = false := by simp; omega
      rw [upToB_all (by omega)] at b2
      go_wp2_with (first | ((with_reducible apply ldB); rfl; assumption) | ((with_reducible apply stB); rfl; rfl; assumption))
      apply ret_brow Try.results23
      · rfl
      · rfl
      · exact b1.setRow_same _
      exact ⟨rfl, below_setRow hb (by omega) _⟩
theorem gone_not {m : Nat → Bool} {n : Nat} (h : m n = false) (j : Nat) : XtM.gone m (n + 1) j = XtM.gone m n j := by
  by_cases e : j = n / 8
  · rw [e, XtM.gone_same, h]; simp
  · exact XtM.gone_other m e
theorem gone_sum {m : Nat → Bool} {n : Nat} (h : m n = true) : ((XtM.gone m n (n / 8) : Nat) + 2 ^ (n % 8) : Int) % 256 = ((XtM.gone m (n + 1) (n / 8) : Nat) : Int) := by
  have h1 := XtM.gone_lt m n
  have h2 := XtM.pow_lt (n % 8) (Nat.mod_lt _ (by omega))
  rw [XtM.gone_same, h, if_pos rfl]
  have e : ((2 : Int) ^ (n % 8)) = ((2 ^ (n % 8) : Nat) : Int) := by norm_cast
  rw [e]
  omega
/-- What the four turnings make. -/
theorem turned {t : Nat → Nat} (h : XtM.bit t 127 = true) : brow (fun j => if j = 7 then !(XtM.mv1 t 7) else if j = 2 then !(XtM.mv1 t 2) else if j = 1 then !(XtM.mv1 t 1) else if j = 0 then !(XtM.mv1 t 0) else XtM.mv1 t j) = brow (XtM.mvb t) := brow_ext fun j _ => by
  unfold XtM.mvb XtM.top
  rw [h, Bool.true_and]
  by_cases h7 : j = 7
  · subst h7; simp
  · by_cases h2 : j = 2
    · subst h2; simp
    · by_cases h1 : j = 1
      · subst h1; simp
      · by_cases h0 : j = 0
        · subst h0; simp
        · simp [h7, h2, h1, h0]
theorem unturned {t : Nat → Nat} (h : XtM.bit t 127 = false) : brow (XtM.mv1 t) = brow (XtM.mvb t) := brow_ext fun j _ => by
  unfold XtM.mvb
  rw [h, Bool.false_and, Bool.xor_false]
set_option maxHeartbeats 800000 in
set_option maxRecDepth 100000 in
theorem rdouble_any (t : Nat → Nat) (ht : Bt t) (w : World) :
    Calls Try.prog 12 #[.agg (ar 16 t)] w fun e w' => e = .returned (.agg (ar 16 (XtM.dbl t))) ∧ Below w.heap.size w w' := by
  have HT := hid ht
  clear ht
  go_enter Try.func12, Try.ntmps12
  go_upto_region 1 with (with_reducible apply alA tBk)
  generalize hw1 : World.alloc (World.alloc w _) _ = w1
  have b0 : Blk w1 w.heap.size 35 (ar 16 t) := by rw [← hw1]; exact (Blk.new _ _ _).alloc _
  have b1 : Blk w1 (w.heap.size + 1) 35 (ar 16 fun _ => 0) := by rw [← hw1]; exact Blk.top rfl (by simp)
  have hb : Below w.heap.size w w1 := by rw [← hw1]; exact ((Below.refl _ _).alloc (Nat.le_refl _) _).alloc (by simp) _
  clear hw1
  go_wp2_with ((with_reducible apply ldA tBk); rfl; exact b0)
  refine (bits_any t HT.out w1).mono ?_
  rintro e w2 ⟨rfl, h2⟩
  have d1 := hid (b1.below h2 b1.lt)
  have db := hid (hb.trans (h2.mono hb.size))
  have hl := d1.out.lt
  clear b0 b1 hb h2
  obtain ⟨gb, hgb⟩ : ∃ gb, gb = w2.heap.size := ⟨_, rfl⟩
  have hz : Blk (w2.alloc (.cells (brow fun _ => false) 48)) w2.heap.size 48 (brow fun _ => false) := Blk.new _ _ _
  go_upto_region 2 with (first | (with_reducible apply alB) | ((with_reducible apply stB); rfl; rfl; exact hz))
  rw [← hgb] at hz hl ⊢
  generalize hw3 : World.setRow _ _ _ = w3
  have e1 := hid (show Blk w3 (w.heap.size + 1) 35 (ar 16 fun _ => 0) by rw [← hw3]; exact (d1.out.alloc _).setRow_other (by omega) _)
  have e2 := hid (show Blk w3 gb 48 (brow (XtM.bit t)) by rw [← hw3]; exact hz.setRow_same _)
  have eb := hid (show Below w.heap.size w w3 by rw [← hw3]; exact below_setRow (db.out.alloc db.out.size _) (by omega) _)
  clear hw3 hz d1 db hgb
  obtain ⟨gm, hgm⟩ : ∃ gm, gm = w3.heap.size := ⟨_, rfl⟩
  have hbm : gb < gm := by rw [hgm]; exact e2.out.lt
  have hz : Blk (w3.alloc (.cells (brow fun _ => false) 48)) w3.heap.size 48 (brow fun _ => false) := Blk.new _ _ _
  go_upto_region 3 with (with_reducible apply alB)
  rw [← hgm] at hz ⊢
  generalize hw4 : World.alloc _ _ = w4 at hz ⊢
  have d1 := show Blk w4 (w.heap.size + 1) 35 (ar 16 fun _ => 0) by rw [← hw4]; exact e1.out.alloc _
  have d2 := show Blk w4 gb 48 (brow (XtM.bit t)) by rw [← hw4]; exact e2.out.alloc _
  have db := show Below w.heap.size w w4 by rw [← hw4]; exact eb.out.alloc eb.out.size _
  clear hw4 e1 e2 eb hgm
  go_wp2_with fail
  go_loopw [5] (fun i wr => ∃ k : Nat, 1 ≤ k ∧ k ≤ 128 ∧ i = .int .i64 k ∧ Blk wr (w.heap.size + 1) 35 (ar 16 fun _ => 0) ∧ Blk wr gb 48 (brow (XtM.bit t)) ∧ Blk wr gm 48 (brow (upToB k (fun _ => false) (XtM.mv1 t))) ∧ Below w.heap.size w wr) (fun i _ => 128 - (intOf i).toNat)
  case atStart =>
    refine ⟨1, by omega, by omega, rfl, d1, d2, ?_, db⟩
    rw [brow_ext (g := fun _ => false) fun j _ => ?_]
    · exact hz
    · unfold upToB
      by_cases e : j < 1
      · rw [if_pos e, show j = 0 by omega]; rfl
      · rw [if_neg e]
  case round =>
    clear d1 d2 hz db
    obtain ⟨k, hk1, hk, rfl, b1, b2, b3, hb⟩ := hrel
    by_cases hlt : k < 128
    · have tk : (k : Int) < 128 := by omega
      obtain ⟨l, hl1⟩ : ∃ l, l = k - 1 := ⟨_, rfl⟩
      have E1 : IntKind.i64.wrap ((k : Int) - 1) = (l : Int) := wr_nat (by omega) (by omega)
      have tl : (l : Int) < 128 := by omega
      have em : XtM.mv1 t k = XtM.bit t l := by unfold XtM.mv1; rw [if_neg (by omega), hl1]
      have c0 : wr.cell? ⟨gb, l, none⟩ = some (.bool (XtM.mv1 t k)) := by rw [b2.cell, get_brow (by omega), em]
      have c3 := b3.frozen k
      have c4 := (b3.cell k).trans (get_brow hlt)
      clear hl1 em
      go_wp2_with fail
      go_roundw
      case rel => exact ⟨k + 1, by omega, by omega, by go_num, b1.setCell_other (by show gm ≠ _; omega) _, b2.setCell_other (by show gm ≠ _; omega) _, upToB_step (b3.setCell_same k _), hb.setCell (by show w.heap.size ≤ gm; omega) _⟩
      case measure => simp [intOf]; omega
    · have tk : decide ((k : Int) < 128) = false := by simp; omega
      obtain rfl : k = 128 := by omega
      rw [upToB_all (by omega)] at b3
      have c0 : wr.cell? ⟨gb, 127, none⟩ = some (.bool (XtM.bit t 127)) := by rw [b2.cell, get_brow (by omega)]
      cases h127 : XtM.bit t 127 with
      | false =>
        rw [h127] at c0
        rw [unturned h127] at b3
        go_upto_region 12 with fail
        clear c0 b2
        generalize wr = w5 at *
        obtain ⟨gz, hgz⟩ : ∃ gz, gz = w5.heap.size := ⟨_, rfl⟩
        have hmz : gm < gz := by rw [hgz]; exact b3.lt
        have hz : Blk (w5.alloc (.cells (ar 16 fun _ => 0) 35)) w5.heap.size 35 (ar 16 fun _ => 0) := Blk.new _ _ _
        go_upto_region 13 with (with_reducible apply alA tBk)
        rw [← hgz] at hz ⊢
        generalize hw6 : World.alloc _ _ = w6 at hz ⊢
        have d1 := show Blk w6 (w.heap.size + 1) 35 (ar 16 fun _ => 0) by rw [← hw6]; exact b1.alloc _
        have d3 := show Blk w6 gm 48 (brow (XtM.mvb t)) by rw [← hw6]; exact b3.alloc _
        have db := show Below w.heap.size w w6 by rw [← hw6]; exact hb.alloc hb.size _
        clear hw6 b1 b3 hb hgz
        go_wp2_with fail
        go_loopw [7] (fun i wr => ∃ k : Nat, k ≤ 128 ∧ i = .int .i64 k ∧ Blk wr (w.heap.size + 1) 35 (ar 16 fun _ => 0) ∧ Blk wr gm 48 (brow (XtM.mvb t)) ∧ Blk wr gz 35 (ar 16 (XtM.gone (XtM.mvb t) k)) ∧ Below w.heap.size w wr) (fun i _ => 128 - (intOf i).toNat)
        case atStart => exact ⟨0, by omega, rfl, d1, d3, by rw [ar_ext (g := fun _ => 0) fun j _ => XtM.gone_zero _ j]; exact hz, db⟩
        case round =>
          clear d1 d3 hz db
          obtain ⟨k, hk, rfl, b1, b3, bz, hb⟩ := hrel
          by_cases hlt : k < 128
          · have tk : (k : Int) < 128 := by omega
            have c0 := (b3.cell k).trans (get_brow hlt)
            cases hm : XtM.mvb t k with
            | false =>
              rw [hm] at c0
              go_wp2_with fail
              go_roundw
              case rel => exact ⟨k + 1, by omega, by go_num, b1, b3, by rw [ar_ext (g := XtM.gone (XtM.mvb t) k) fun j _ => gone_not hm j]; exact bz, hb⟩
              case measure => simp [intOf]; omega
            | true =>
              rw [hm] at c0
              have c1 := (bz.cell (k / 8)).trans (get_ar (show k / 8 < 16 by omega))
              have c2 := bz.frozen (k / 8)
              have H : ((XtM.gone (XtM.mvb t) k (k / 8) : Nat) + 2 ^ (k % 8) : Int) % 256 = ((XtM.gone (XtM.mvb t) (k + 1) (k / 8) : Nat) : Int) := gone_sum hm
              go_wp2_with fail
              go_roundw
              case rel =>
                refine ⟨k + 1, by omega, by go_num, b1.setCell_other (by show gz ≠ _; omega) _, b3.setCell_other (by show gz ≠ _; omega) _, ?_, hb.setCell (by show w.heap.size ≤ gz; omega) _⟩
                have h := bz.setCell_same (k / 8) (.int .u8 (XtM.gone (XtM.mvb t) (k + 1) (k / 8) : Nat))
                rw [ar_set, ar_ext (g := XtM.gone (XtM.mvb t) (k + 1)) fun j _ => ?_] at h
                · exact h
                · by_cases e : j = k / 8
                  · rw [if_pos e, e]
                  · rw [if_neg e, XtM.gone_other _ e]
              case measure => simp [intOf]; omega
          · have tk : decide ((k : Int) < 128) = false := by simp; omega
            obtain rfl : k = 128 := by omega
            rw [ar_ext (g := XtM.dbl t) fun j hj => XtM.gone_all HT.out hj] at bz
            go_wp2_with (first | ((with_reducible apply ldA tBk); rfl; exact bz) | ((with_reducible apply stA tBk); rfl; rfl; exact b1))
            apply ret_ar tBk Try.results12
            · rfl
            · rfl
            · exact b1.setRow_same _
            exact ⟨rfl, below_setRow hb (by omega) _⟩
      | true =>
        rw [h127] at c0
        go_upto_region 8 with fail
        clear c0 b2
        have c0 : wr.cell? ⟨gm, 0, none⟩ = some (.bool (XtM.mv1 t 0)) := (b3.cell _).trans (get_brow (by omega))
        have f0 := b3.frozen 0
        go_upto_region 9 with fail
        generalize hw0 : World.setCell _ _ _ = wa
        have b1 := show Blk wa (w.heap.size + 1) 35 (ar 16 fun _ => 0) by rw [← hw0]; exact b1.setCell_other (by show gm ≠ _; omega) _
        have hb := show Below w.heap.size w wa by rw [← hw0]; exact hb.setCell (by show w.heap.size ≤ gm; omega) _
        have b3 := show Blk wa gm 48 (brow (fun j => if j = 0 then !(XtM.mv1 t 0) else XtM.mv1 t j)) by rw [← hw0, ← brow_set]; exact b3.setCell_same 0 _
        clear hw0 c0 f0
        have c1 : wa.cell? ⟨gm, 1, none⟩ = some (.bool (XtM.mv1 t 1)) := (b3.cell _).trans (get_brow (by omega))
        have f1 := b3.frozen 1
        go_upto_region 10 with fail
        generalize hw1 : World.setCell _ _ _ = wb
        have b1 := show Blk wb (w.heap.size + 1) 35 (ar 16 fun _ => 0) by rw [← hw1]; exact b1.setCell_other (by show gm ≠ _; omega) _
        have hb := show Below w.heap.size w wb by rw [← hw1]; exact hb.setCell (by show w.heap.size ≤ gm; omega) _
        have b3 := show Blk wb gm 48 (brow (fun j => if j = 1 then !(XtM.mv1 t 1) else if j = 0 then !(XtM.mv1 t 0) else XtM.mv1 t j)) by rw [← hw1, ← brow_set]; exact b3.setCell_same 1 _
        clear hw1 c1 f1
        have c2 : wb.cell? ⟨gm, 2, none⟩ = some (.bool (XtM.mv1 t 2)) := (b3.cell _).trans (get_brow (by omega))
        have f2 := b3.frozen 2
        go_upto_region 11 with fail
        generalize hw2 : World.setCell _ _ _ = wc
        have b1 := show Blk wc (w.heap.size + 1) 35 (ar 16 fun _ => 0) by rw [← hw2]; exact b1.setCell_other (by show gm ≠ _; omega) _
        have hb := show Below w.heap.size w wc by rw [← hw2]; exact hb.setCell (by show w.heap.size ≤ gm; omega) _
        have b3 := show Blk wc gm 48 (brow (fun j => if j = 2 then !(XtM.mv1 t 2) else if j = 1 then !(XtM.mv1 t 1) else if j = 0 then !(XtM.mv1 t 0) else XtM.mv1 t j)) by rw [← hw2, ← brow_set]; exact b3.setCell_same 2 _
        clear hw2 c2 f2
        have c7 : wc.cell? ⟨gm, 7, none⟩ = some (.bool (XtM.mv1 t 7)) := (b3.cell _).trans (get_brow (by omega))
        have f7 := b3.frozen 7
        go_upto_region 12 with fail
        generalize hw7 : World.setCell _ _ _ = w5
        have b1 := show Blk w5 (w.heap.size + 1) 35 (ar 16 fun _ => 0) by rw [← hw7]; exact b1.setCell_other (by show gm ≠ _; omega) _
        have hb := show Below w.heap.size w w5 by rw [← hw7]; exact hb.setCell (by show w.heap.size ≤ gm; omega) _
        have b3 := show Blk w5 gm 48 (brow (fun j => if j = 7 then !(XtM.mv1 t 7) else if j = 2 then !(XtM.mv1 t 2) else if j = 1 then !(XtM.mv1 t 1) else if j = 0 then !(XtM.mv1 t 0) else XtM.mv1 t j)) by rw [← hw7, ← brow_set]; exact b3.setCell_same 7 _
        clear hw7 c7 f7
        rw [turned h127] at b3
        obtain ⟨gz, hgz⟩ : ∃ gz, gz = w5.heap.size := ⟨_, rfl⟩
        have hmz : gm < gz := by rw [hgz]; exact b3.lt
        have hz : Blk (w5.alloc (.cells (ar 16 fun _ => 0) 35)) w5.heap.size 35 (ar 16 fun _ => 0) := Blk.new _ _ _
        go_upto_region 13 with (with_reducible apply alA tBk)
        rw [← hgz] at hz ⊢
        generalize hw6 : World.alloc _ _ = w6 at hz ⊢
        have d1 := show Blk w6 (w.heap.size + 1) 35 (ar 16 fun _ => 0) by rw [← hw6]; exact b1.alloc _
        have d3 := show Blk w6 gm 48 (brow (XtM.mvb t)) by rw [← hw6]; exact b3.alloc _
        have db := show Below w.heap.size w w6 by rw [← hw6]; exact hb.alloc hb.size _
        clear hw6 b1 b3 hb hgz
        go_wp2_with fail
        go_loopw [7] (fun i wr => ∃ k : Nat, k ≤ 128 ∧ i = .int .i64 k ∧ Blk wr (w.heap.size + 1) 35 (ar 16 fun _ => 0) ∧ Blk wr gm 48 (brow (XtM.mvb t)) ∧ Blk wr gz 35 (ar 16 (XtM.gone (XtM.mvb t) k)) ∧ Below w.heap.size w wr) (fun i _ => 128 - (intOf i).toNat)
        case atStart => exact ⟨0, by omega, rfl, d1, d3, by rw [ar_ext (g := fun _ => 0) fun j _ => XtM.gone_zero _ j]; exact hz, db⟩
        case round =>
          clear d1 d3 hz db
          obtain ⟨k, hk, rfl, b1, b3, bz, hb⟩ := hrel
          by_cases hlt : k < 128
          · have tk : (k : Int) < 128 := by omega
            have c0 := (b3.cell k).trans (get_brow hlt)
            cases hm : XtM.mvb t k with
            | false =>
              rw [hm] at c0
              go_wp2_with fail
              go_roundw
              case rel => exact ⟨k + 1, by omega, by go_num, b1, b3, by rw [ar_ext (g := XtM.gone (XtM.mvb t) k) fun j _ => gone_not hm j]; exact bz, hb⟩
              case measure => simp [intOf]; omega
            | true =>
              rw [hm] at c0
              have c1 := (bz.cell (k / 8)).trans (get_ar (show k / 8 < 16 by omega))
              have c2 := bz.frozen (k / 8)
              have H : ((XtM.gone (XtM.mvb t) k (k / 8) : Nat) + 2 ^ (k % 8) : Int) % 256 = ((XtM.gone (XtM.mvb t) (k + 1) (k / 8) : Nat) : Int) := gone_sum hm
              go_wp2_with fail
              go_roundw
              case rel =>
                refine ⟨k + 1, by omega, by go_num, b1.setCell_other (by show gz ≠ _; omega) _, b3.setCell_other (by show gz ≠ _; omega) _, ?_, hb.setCell (by show w.heap.size ≤ gz; omega) _⟩
                have h := bz.setCell_same (k / 8) (.int .u8 (XtM.gone (XtM.mvb t) (k + 1) (k / 8) : Nat))
                rw [ar_set, ar_ext (g := XtM.gone (XtM.mvb t) (k + 1)) fun j _ => ?_] at h
                · exact h
                · by_cases e : j = k / 8
                  · rw [if_pos e, e]
                  · rw [if_neg e, XtM.gone_other _ e]
              case measure => simp [intOf]; omega
          · have tk : decide ((k : Int) < 128) = false := by simp; omega
            obtain rfl : k = 128 := by omega
            rw [ar_ext (g := XtM.dbl t) fun j hj => XtM.gone_all HT.out hj] at bz
            go_wp2_with (first | ((with_reducible apply ldA tBk); rfl; exact bz) | ((with_reducible apply stA tBk); rfl; rfl; exact b1))
            apply ret_ar tBk Try.results12
            · rfl
            · rfl
            · exact b1.setRow_same _
            exact ⟨rfl, below_setRow hb (by omega) _⟩
end XtP
end Go.Proofs.Ytkcfonlondlmeaa
namespace Go.Proofs.Ytkcfonlondlmeaa
open Go.ChangeShapes Go.WideShapes Go.ChangeAt Go.RowKit
open AesM (Bt)
attribute [local go_sem] Gives
namespace AesP
set_option maxRecDepth 100000 in
theorem mixB_any (f : Nat → Nat) (hf : Bt f) (w : World) :
    Calls Try.prog 39 #[.agg (ar 16 f)] w fun e w' => e = .returned (.agg (ar 16 (AesM.mixB f))) ∧ Below w.heap.size w w' := by
  have HF := hid hf
  clear hf
  go_enter Try.func39, Try.ntmps39
  go_upto_region 1 with (with_reducible apply alA tSt)
  generalize hw3 : World.alloc (World.alloc w _) _ = w3
  have b1 : Blk w3 w.heap.size 53 (ar 16 f) := by rw [← hw3]; exact (Blk.new _ _ _).alloc _
  have b2 : Blk w3 (w.heap.size + 1) 53 (ar 16 fun _ => 0) := by rw [← hw3]; exact Blk.top rfl (by simp)
  have hb : Below w.heap.size w w3 := by rw [← hw3]; exact ((Below.refl _ _).alloc (Nat.le_refl _) _).alloc (by simp) _
  clear hw3
  go_wp2_with ((with_reducible apply ldA tSt); rfl; exact b1)
  refine (mix_any _ HF.out _).mono ?_
  rintro e w4 ⟨rfl, h4⟩
  go_wp2_with fail
  refine (mix_any _ (mix_bt HF.out) _).mono ?_
  rintro e w5 ⟨rfl, h5⟩
  go_wp2_with fail
  refine (mix_any _ (mix_bt (mix_bt HF.out)) _).mono ?_
  rintro e w6 ⟨rfl, h6⟩
  have hs3 := b2.lt
  have b6 : Blk w6 (w.heap.size + 1) 53 (ar 16 fun _ => 0) := ((b2.below h4 b2.lt).below h5 (by have := h4.size; omega)).below h6 (by have := h4.size; have := h5.size; omega)
  have hb6 : Below w.heap.size w w6 := ((hb.trans (h4.mono hb.size)).trans (h5.mono (by have := h4.size; omega))).trans (h6.mono (by have := h4.size; have := h5.size; omega))
  clear h4 h5 h6 b1 b2 hb hs3
  go_wp2_with ((with_reducible apply stA tSt); rfl; rfl; exact b6)
  apply ret_ar tSt Try.results39
  · rfl
  · rfl
  · exact b6.setRow_same _
  exact ⟨rfl, below_setRow hb6 (by omega) _⟩
theorem tPw : ArT 95 255 := ⟨by kernel_rfl, ⟨_, Try.underlying95, rfl⟩, (zero_of_info (P := Try.prog) (t := 95) (v := .agg (ar 255 fun _ => 0)) (n := 255) (by kernel_rfl)).1⟩
theorem uPw : Try.prog.underlying 95 = some (.array 255 5) := Try.underlying95
set_option maxRecDepth 100000 in
theorem inverses_any (w : World) :
    Calls Try.prog 40 #[] w fun e w' => e = .returned (.agg (ar 256 AesM.invF)) ∧ Below w.heap.size w w' := by
  go_enter Try.func40, Try.ntmps40
  go_upto_region 3 with (first | (with_reducible apply alA tTb) | (with_reducible apply alA tPw))
  generalize hw3 : World.alloc (World.alloc w _) _ = w3
  have b1 : Blk w3 w.heap.size 51 (ar 256 fun _ => 0) := by rw [← hw3]; exact (Blk.new _ _ _).alloc _
  have b2 : Blk w3 (w.heap.size + 1) 95 (ar 255 fun _ => 0) := by rw [← hw3]; exact Blk.top rfl (by simp)
  have hb : Below w.heap.size w w3 := by rw [← hw3]; exact ((Below.refl _ _).alloc (Nat.le_refl _) _).alloc (by simp) _
  have hs3 : w3.heap.size = w.heap.size + 2 := by rw [← hw3]; simp
  clear hw3
  go_wp2_with fail
  go_loopw [2, 7] (fun p i wr => ∃ k : Nat, k ≤ 255 ∧ p = .int .u8 (AesM.pw k : Nat) ∧ i = .int .i64 k ∧ Blk wr w.heap.size 51 (ar 256 fun _ => 0) ∧ Blk wr (w.heap.size + 1) 95 (ar 255 (upTo k (fun _ => 0) AesM.pw)) ∧ Below w.heap.size w wr ∧ wr.heap.size = w.heap.size + 2) (fun _ i _ => 255 - (intOf i).toNat)
  case atStart => exact ⟨0, by omega, rfl, rfl, b1, by rw [upTo_zero]; exact b2, hb, hs3⟩
  case round =>
    clear b1 b2 hb hs3
    obtain ⟨k, hk, rfl, rfl, b1, b2, hb, hs⟩ := hrel
    have hp := AesM.pw_lt k
    by_cases hlt : k < 255
    · have tk : (k : Int) < 255 := by omega
      have c2 : wr.cell? ⟨w.heap.size + 1, k, none⟩ = some (.int .u8 (0 : Nat)) := by rw [b2.cell, get_ar hlt, upTo_at]
      have c3 := b2.frozen k
      have X := u8_xor_nat _ _ hp (AesM.dbl_lt hp)
      go_wp2_with ((with_reducible refine (double_any _ hp _).mono ?_); rintro e w' ⟨rfl, rfl⟩)
      go_roundw
      case rel => exact ⟨k + 1, by omega, rfl, by go_num, b1.setCell_other (by simp) _, upTo_step (b2.setCell_same k _), hb.setCell (by simp) _, by simpa using hs⟩
      case measure => simp [intOf]; omega
    · have tk : decide ((k : Int) < 255) = false := by simp; omega
      rw [upTo_all (by omega)] at b2
      go_upto_region 10 with (first | (with_reducible apply alA tTb))
      generalize hw4 : World.alloc wr _ = w4
      have d1 : Blk w4 w.heap.size 51 (ar 256 fun _ => 0) := by rw [← hw4]; exact b1.alloc _
      have d2 : Blk w4 (w.heap.size + 1) 95 (ar 255 AesM.pw) := by rw [← hw4]; exact b2.alloc _
      have d3 : Blk w4 (w.heap.size + 2) 51 (ar 256 fun _ => 0) := by rw [← hw4]; exact Blk.top rfl hs.symm
      have hb4 : Below w.heap.size w w4 := by rw [← hw4]; exact hb.alloc (by omega) _
      rw [hs]
      clear hw4 b1 b2 hb hs tk hlt hk hp
      go_wp2_with ((with_reducible apply ldA tPw); rfl; exact d2)
      go_loopw [19] (fun i wr => ∃ k : Nat, k ≤ 255 ∧ i = .int .i64 k ∧ Blk wr w.heap.size 51 (ar 256 fun _ => 0) ∧ Blk wr (w.heap.size + 1) 95 (ar 255 AesM.pw) ∧ Blk wr (w.heap.size + 2) 51 (ar 256 (AesM.setTo AesM.pw (fun n => AesM.pw ((255 - n) % 255)) k)) ∧ Below w.heap.size w wr) (fun i _ => 255 - (intOf i).toNat)
      case atStart => exact ⟨0, by omega, rfl, d1, d2, d3, hb4⟩
      case round =>
        clear d1 d2 d3 hb4
        obtain ⟨k, hk, rfl, b1, b2, b3, hb⟩ := hrel
        by_cases hlt : k < 255
        · have tk : (k : Int) < 255 := by omega
          have hI := fun w => run_index_ar (f := AesM.pw) uPw hlt w
          obtain ⟨m, hm⟩ : ∃ m, m = (255 - k) % 255 := ⟨_, rfl⟩
          have hm255 : m < 255 := by omega
          have tm : (m : Int) < 255 := by omega
          have e1 : (255 - (k : Int)).tmod 255 = (m : Int) := by
            rw [hm, show (255 - (k : Int)) = ((255 - k : Nat) : Int) by omega]; rfl
          have e2 : (255 - (k : Int)) % 255 = (m : Int) := by omega
          have hp := AesM.pw_lt k
          have tp : ((AesM.pw k : Nat) : Int) < 256 := by omega
          have c2 : wr.cell? ⟨w.heap.size + 1, m, none⟩ = some (.int .u8 (AesM.pw m : Nat)) := by rw [b2.cell, get_ar hm255]
          have c3 := (b3.cell (AesM.pw k)).trans (get_ar hp)
          have f3 := b3.frozen (AesM.pw k)
          have HM := hid hm
          clear hm
          go_wp2_with fail
          go_roundw
          case rel =>
            refine ⟨k + 1, by omega, by go_num, b1.setCell_other (by simp) _, b2.setCell_other (by simp) _, ?_, hb.setCell (by simp) _⟩
            have h := b3.setCell_same (AesM.pw k) (.int .u8 (AesM.pw m : Nat))
            rw [ar_set, HM.out] at h
            rw [HM.out]
            exact h
          case measure => simp [intOf]; omega
        · have tk : decide ((k : Int) < 255) = false := by simp; omega
          obtain rfl : k = 255 := by omega
          rw [ar_ext (g := AesM.invF) fun j hj => AesM.inv_at hj] at b3
          go_wp2_with (first | ((with_reducible apply ldA tTb); rfl; exact b3) | ((with_reducible apply stA tTb); rfl; rfl; exact b1))
          apply ret_ar tTb Try.results40
          · rfl
          · rfl
          · exact b1.setRow_same _
          exact ⟨rfl, below_setRow hb (by omega) _⟩
set_option maxRecDepth 100000 in
theorem box_any (w : World) :
    Calls Try.prog 24 #[] w fun e w' => e = .returned (.agg (ar 256 AesM.boxF)) ∧ Below w.heap.size w w' := by
  go_enter Try.func24, Try.ntmps24
  go_upto_region 1 with (with_reducible apply alA tTb)
  generalize hw1 : World.alloc w _ = w1
  have b1 : Blk w1 w.heap.size 51 (ar 256 fun _ => 0) := by rw [← hw1]; exact Blk.new _ _ _
  have hb : Below w.heap.size w w1 := by rw [← hw1]; exact (Below.refl _ _).alloc (Nat.le_refl _) _
  clear hw1
  go_wp2_with fail
  refine (inverses_any _).mono ?_
  rintro e w2 ⟨rfl, h2⟩
  have d1 := b1.below h2 b1.lt
  have hb2 := hb.trans (h2.mono hb.size)
  have hg1 : w.heap.size < w2.heap.size := Nat.lt_of_lt_of_le b1.lt h2.size
  clear b1 hb h2
  obtain ⟨g, hg⟩ : ∃ g, g = w2.heap.size := ⟨_, rfl⟩
  have hz : Blk (w2.alloc (.cells (ar 256 fun _ => 0) 51)) w2.heap.size 51 (ar 256 fun _ => 0) := Blk.new _ _ _
  go_upto_region 2 with (first | (with_reducible apply alA tTb) | ((with_reducible apply stA tTb); rfl; rfl; exact hz))
  generalize hw3 : World.setRow _ _ _ = w3
  have q1 : Blk w3 w.heap.size 51 (ar 256 fun _ => 0) := by rw [← hw3]; exact (d1.alloc _).setRow_other (by omega) _
  have q2 : Blk w3 g 51 (ar 256 AesM.invF) := by rw [← hw3, hg]; exact hz.setRow_same _
  have qb : Below w.heap.size w w3 := by rw [← hw3]; exact below_setRow (hb2.alloc (by omega) _) (by omega) _
  rw [← hg] at hg1 ⊢
  have HG := hid hg1
  clear hw3 hz d1 hb2 hg1 hg w2 w1
  go_wp2_with ((with_reducible apply ldA tTb); rfl; exact q2)
  go_loopw [8] (fun i wr => ∃ k : Nat, k ≤ 256 ∧ i = .int .i64 k ∧ Blk wr w.heap.size 51 (ar 256 fun _ => 0) ∧ Blk wr g 51 (ar 256 (upTo k (AesM.invF) AesM.boxF)) ∧ Below w.heap.size w wr) (fun i _ => 256 - (intOf i).toNat)
  case atStart => exact ⟨0, by omega, rfl, q1, by rw [upTo_zero]; exact q2, qb⟩
  case round =>
    clear q1 q2 qb
    obtain ⟨k, hk, rfl, b1, b2, hb⟩ := hrel
    by_cases hlt : k < 256
    · have tk : (k : Int) < 256 := by omega
      have hI := fun w => run_index_ar (f := AesM.invF) uTb hlt w
      obtain ⟨b, hbv⟩ : ∃ b, b = AesM.invF k := ⟨_, rfl⟩
      simp only [← hbv] at hI
      have hb256 : b < 256 := by rw [hbv]; exact AesM.invF_lt k
      have HBV := hid hbv
      have X := hid (u8_xor_nat b 99 hb256 (by omega))
      have HB := hid hb256
      clear hbv hb256
      have x1 : bits .xor .u8 (b : Int) 99 = ((b ^^^ 99 : Nat) : Int) := X.out
      clear X
      go_wp2_with fail
      go_loopw [4, 5] (fun s i wk => ∃ m : Nat, m ≤ 4 ∧ s = .int .u8 (AesM.acc b m : Nat) ∧ i = .int .i64 ((m : Int) + 1) ∧ wk = wr) (fun _ i _ => 5 - (intOf i).toNat)
      case atStart => exact ⟨0, by omega, rfl, rfl, rfl⟩
      case round =>
        obtain ⟨m, hm, rfl, rfl, rfl⟩ := hrel
        by_cases hlm : m < 4
        · have tm : (m : Int) + 1 ≤ 4 := by omega
          have hacc := AesM.acc_lt HB.out m
          have hrl := AesM.rl_lt (i := m + 1) HB.out
          have x2 := u8_xor_nat _ _ hacc hrl
          obtain ⟨m1, hm1⟩ : ∃ m1, m1 = m + 1 := ⟨_, rfl⟩
          have hm1i : (m : Int) + 1 = (m1 : Int) := by omega
          have t1 : (m1 : Int) ≤ 4 := by omega
          rw [← hm1] at x2
          have HM := hid hm1
          clear hm1 tm
          go_wp2_with ((with_reducible refine (rot_any b m1 HB.out (by have := HM.out; omega) (by omega) _).mono ?_); rintro e w' ⟨rfl, rfl⟩)
          go_roundw
          case rel => exact ⟨m + 1, by omega, by rw [HM.out]; rfl, by rw [HM.out], trivial⟩
          case measure => simp [intOf]; omega
        · obtain rfl : m = 4 := by omega
          have c2 := (b2.cell k).trans (get_ar hlt)
          have f2 := b2.frozen k
          have HA := hid (AesM.acc_box hlt)
          go_wp2_with fail
          go_roundw
          case rel =>
            rw [HBV.out, HA.out]
            exact ⟨k + 1, by omega, by go_num, b1.setCell_other (by have := HG.out; show g ≠ w.heap.size; omega) _, upTo_step (b2.setCell_same k _), hb.setCell (by have := HG.out; show w.heap.size ≤ g; omega) _⟩
          case measure => simp [intOf]; omega
    · have tk : decide ((k : Int) < 256) = false := by simp; omega
      obtain rfl : k = 256 := by omega
      rw [upTo_all (by omega)] at b2
      go_wp2_with (first | ((with_reducible apply ldA tTb); rfl; exact b2) | ((with_reducible apply stA tTb); rfl; rfl; exact b1))
      apply ret_ar tTb Try.results24
      · rfl
      · rfl
      · exact b1.setRow_same _
      exact ⟨rfl, below_setRow hb (by omega) _⟩
end AesP
end Go.Proofs.Ytkcfonlondlmeaa
namespace Go.Proofs.Ytkcfonlondlmeaa
open Go.ChangeShapes Go.WideShapes Go.ChangeAt Go.RowKit
open AesM (Bt)
attribute [local go_sem] Gives
namespace AesP
theorem tWd : ArT 88 4 := ⟨by kernel_rfl, ⟨_, Try.underlying88, rfl⟩, (zero_of_info (P := Try.prog) (t := 88) (v := .agg (ar 4 fun _ => 0)) (n := 4) (by kernel_rfl)).1⟩
def sel4 (a b c d : Nat) (i : Nat) : Nat := if i = 0 then a else if i = 1 then b else if i = 2 then c else d
theorem built_wd (a b c d : Nat) : Try.prog.built 88 [(0, .int .u8 a), (1, .int .u8 b), (2, .int .u8 c), (3, .int .u8 d)] = some (ar 4 (sel4 a b c d)) := by
  have h1 : ∃ i, Try.prog.info? 88 = some i ∧ i.zero = some (.agg (ar 4 fun _ => 0)) := by
    have := (by kernel_rfl : (Try.prog.info? 88).bind (·.zero) = some (.agg (ar 4 fun _ => 0)))
    cases h : Try.prog.info? 88 with
    | none => rw [h] at this; cases this
    | some i => rw [h] at this; exact ⟨i, rfl, this⟩
  have h2 : ∃ i, Try.prog.info? 5 = some i ∧ i.size = 1 := by
    have := (by kernel_rfl : (Try.prog.info? 5).map (·.size) = some 1)
    cases h : Try.prog.info? 5 with
    | none => rw [h] at this; cases this
    | some i => rw [h] at this; exact ⟨i, rfl, by simpa using this⟩
  obtain ⟨i, hi, hz⟩ := h1
  obtain ⟨j, hj, hs⟩ := h2
  unfold Program.built
  rw [hi, Try.underlying88]
  simp only [hz, hj, hs]
  rfl
section
variable {ops : Array Oper} {a : Act} {w : World} {rest : List Oper} {dst : Option Tmp} {ty : TypeId} {pos : String} {after : Array Edge} {x y z u : Operand} {C : World → Prop} {Qk : Act → Prop} {gd : Option (Nat × Bool)} {p q r s : Nat}
set_option maxRecDepth 100000 in
theorem kb4 (hwt : Region.wanted ⟨dst, .build 88 #[(0, x), (1, y), (2, z), (3, u)], ty, pos, after, gd⟩ (yielded ops a.tmps) = true) (hx : a.eval x = .int .u8 p) (hy : a.eval y = .int .u8 q) (hz : a.eval z = .int .u8 r) (hu : a.eval u = .int .u8 s)
    (h : wpK Try.prog ops C Qk rest (a.put dst (.agg (ar 4 (sel4 p q r s))))) : wpK Try.prog ops C Qk (⟨dst, .build 88 #[(0, x), (1, y), (2, z), (3, u)], ty, pos, after, gd⟩ :: rest) a :=
  wpK_val hwt (fun w hw => by
    have hr := run_build (P := Try.prog) w 88 #[(0, a.eval x), (1, a.eval y), (2, a.eval z), (3, a.eval u)] _ (by rw [hx, hy, hz, hu]; exact built_wd p q r s)
    refine gives_value (w' := w) ?_ hw
    simp [execOp, hr, Result.andThen]) h
end
theorem sel4_lt {a b c d : Nat} (ha : a < 256) (hb : b < 256) (hc : c < 256) (hd : d < 256) (i : Nat) : sel4 a b c d i < 256 := by
  unfold sel4
  split
  · exact ha
  · split
    · exact hb
    · split <;> assumption
theorem pow_mod (e : Nat) (h : e < 7) : (2 : Int) ^ e % 256 = ((2 ^ e : Nat) : Int) := by
  match e, h with
  | 0, _ | 1, _ | 2, _ | 3, _ | 4, _ | 5, _ | 6, _ => rfl
set_option maxHeartbeats 400000 in
set_option maxRecDepth 100000 in
theorem next_any (far near T : Nat → Nat) (n : Nat) (h8 : 8 ≤ n) (h60 : n < 60) (hf : Bt far) (hn : Bt near) (hT : Bt T) (g o : Nat) (w : World) (hg : g < w.heap.size) (hR : w.rangeAt g o (ar 256 T).toList) :
    Calls Try.prog 42 #[.agg (ar 4 far), .agg (ar 4 near), .int .i64 n, .pointer (some ⟨g, o, none⟩)] w fun e w' => e = .returned (.agg (ar 4 (AesM.nxt T far near n))) ∧ Below w.heap.size w w' := by
  have HF := hid hf
  have HN := hid hn
  have HT := hid hT
  have HR := hid (show ∀ k, k < 256 → w.cell? ⟨g, o + k, none⟩ = some (.int .u8 (T k : Nat)) from fun k hk => hR k _ (by rw [Array.getElem?_toList, get_ar hk]))
  clear hf hn hT hR
  go_enter Try.func42, Try.ntmps42
  go_upto_region 1 with (with_reducible apply alA tWd)
  generalize hw1 : World.alloc (World.alloc (World.alloc w _) _) _ = w1
  have b1 : Blk w1 w.heap.size 88 (ar 4 far) := by rw [← hw1]; exact ((Blk.new _ _ _).alloc _).alloc _
  have b2 : Blk w1 (w.heap.size + 1) 88 (ar 4 near) := by rw [← hw1]; exact (Blk.top rfl (by simp)).alloc _
  have b3 : Blk w1 (w.heap.size + 2) 88 (ar 4 fun _ => 0) := by rw [← hw1]; exact Blk.top rfl (by simp)
  have hb : Below w.heap.size w w1 := by rw [← hw1]; exact (((Below.refl _ _).alloc (Nat.le_refl _) _).alloc (by simp) _).alloc (by simp; omega) _
  have hs : w1.heap.size = w.heap.size + 3 := by rw [← hw1]; simp
  clear hw1
  have hz : Blk (w1.alloc (.cells (ar 4 fun _ => 0) 88)) w1.heap.size 88 (ar 4 fun _ => 0) := Blk.new _ _ _
  go_upto_region 2 with (first | (with_reducible apply alA tWd) | ((with_reducible apply ldA tWd); rfl; exact b2) | ((with_reducible apply stA tWd); rfl; rfl; exact hz))
  generalize hw3 : World.setRow _ _ _ = w3
  have q1 := hid (show Blk w3 w.heap.size 88 (ar 4 far) by rw [← hw3]; exact (b1.alloc _).setRow_other (by omega) _)
  have q2 := hid (show Blk w3 (w.heap.size + 1) 88 (ar 4 near) by rw [← hw3]; exact (b2.alloc _).setRow_other (by omega) _)
  have q3 := hid (show Blk w3 (w.heap.size + 2) 88 (ar 4 fun _ => 0) by rw [← hw3]; exact (b3.alloc _).setRow_other (by omega) _)
  have q4 := hid (show Blk w3 (w.heap.size + 3) 88 (ar 4 near) by rw [← hw3, ← hs]; exact hz.setRow_same _)
  have qb := hid (show Below w.heap.size w w3 by rw [← hw3]; exact below_setRow (hb.alloc (by omega) _) (by omega) _)
  rw [hs]
  clear hw3 hz b1 b2 b3 hb hs w1
  by_cases c0 : n % 8 = 0
  · have t0 : (n : Int).tmod 8 = 0 := by rw [Int.tmod_eq_emod_of_nonneg (by omega)]; omega
    have t1 : (n : Int) % 8 = 0 := by omega
    have N0 := hid ((q2.out.cell 0).trans (get_ar (n := 4) (by omega)))
    have N1 := hid ((q2.out.cell 1).trans (get_ar (n := 4) (by omega)))
    have N2 := hid ((q2.out.cell 2).trans (get_ar (n := 4) (by omega)))
    have N3 := hid ((q2.out.cell 3).trans (get_ar (n := 4) (by omega)))
    have TL0 := hid (show ((near 0 : Nat) : Int) < 256 by have := HN.out 0; omega)
    have TL1 := hid (show ((near 1 : Nat) : Int) < 256 by have := HN.out 1; omega)
    have TL2 := hid (show ((near 2 : Nat) : Int) < 256 by have := HN.out 2; omega)
    have TL3 := hid (show ((near 3 : Nat) : Int) < 256 by have := HN.out 3; omega)
    go_wp2_with fail
    refine wp_region_tail (C := Drew w3) 25 (by kernel_rfl) (by kernel_rfl) (by kernel_rfl) (Drew.refl _) ?_
    simp only [List.take_succ_cons, List.take_zero, List.drop_succ_cons, List.drop_zero]
    apply wpK_val
    · rfl
    · intro w' hw'
      go_simp
      first | exact rfl | exact ⟨rfl, hw'⟩
    simp only [Act.put, List.setIfInBounds_toArray, List.set_cons_succ, List.set_cons_zero]
    apply wpK_val
    · rfl
    · intro w' hw'
      go_simp
      first | exact rfl | exact ⟨rfl, hw'⟩
    simp only [Act.put, List.setIfInBounds_toArray, List.set_cons_succ, List.set_cons_zero]
    apply wpK_val
    · rfl
    · intro w' hw'
      have hcell := hw'.cell N1.out
      go_simp
      first | exact rfl | exact ⟨rfl, hw'⟩
    simp only [Act.put, List.setIfInBounds_toArray, List.set_cons_succ, List.set_cons_zero]
    apply wpK_val
    · rfl
    · intro w' hw'
      go_simp
      first | exact rfl | exact ⟨rfl, hw'⟩
    simp only [Act.put, List.setIfInBounds_toArray, List.set_cons_succ, List.set_cons_zero]
    apply wpK_val
    · rfl
    · intro w' hw'
      have h1 : _ := TL1.out
      go_simp
      first | exact rfl | exact ⟨rfl, hw'⟩
    simp only [Act.put, List.setIfInBounds_toArray, List.set_cons_succ, List.set_cons_zero]
    apply wpK_val
    · rfl
    · intro w' hw'
      have hcell := (hw'.cell ((qb.out.cell hg).trans (HR.out _ (HN.out 1))))
      go_simp
      first | exact rfl | exact ⟨rfl, hw'⟩
    simp only [Act.put, List.setIfInBounds_toArray, List.set_cons_succ, List.set_cons_zero]
    apply wpK_val
    · rfl
    · intro w' hw'
      go_simp
      first | exact rfl | exact ⟨rfl, hw'⟩
    simp only [Act.put, List.setIfInBounds_toArray, List.set_cons_succ, List.set_cons_zero]
    apply wpK_val
    · rfl
    · intro w' hw'
      go_simp
      first | exact rfl | exact ⟨rfl, hw'⟩
    simp only [Act.put, List.setIfInBounds_toArray, List.set_cons_succ, List.set_cons_zero]
    apply wpK_val
    · rfl
    · intro w' hw'
      have hcell := hw'.cell N2.out
      go_simp
      first | exact rfl | exact ⟨rfl, hw'⟩
    simp only [Act.put, List.setIfInBounds_toArray, List.set_cons_succ, List.set_cons_zero]
    apply wpK_val
    · rfl
    · intro w' hw'
      go_simp
      first | exact rfl | exact ⟨rfl, hw'⟩
    simp only [Act.put, List.setIfInBounds_toArray, List.set_cons_succ, List.set_cons_zero]
    apply wpK_val
    · rfl
    · intro w' hw'
      have h1 : _ := TL2.out
      go_simp
      first | exact rfl | exact ⟨rfl, hw'⟩
    simp only [Act.put, List.setIfInBounds_toArray, List.set_cons_succ, List.set_cons_zero]
    apply wpK_val
    · rfl
    · intro w' hw'
      have hcell := (hw'.cell ((qb.out.cell hg).trans (HR.out _ (HN.out 2))))
      go_simp
      first | exact rfl | exact ⟨rfl, hw'⟩
    simp only [Act.put, List.setIfInBounds_toArray, List.set_cons_succ, List.set_cons_zero]
    apply wpK_val
    · rfl
    · intro w' hw'
      go_simp
      first | exact rfl | exact ⟨rfl, hw'⟩
    simp only [Act.put, List.setIfInBounds_toArray, List.set_cons_succ, List.set_cons_zero]
    apply wpK_val
    · rfl
    · intro w' hw'
      go_simp
      first | exact rfl | exact ⟨rfl, hw'⟩
    simp only [Act.put, List.setIfInBounds_toArray, List.set_cons_succ, List.set_cons_zero]
    apply wpK_val
    · rfl
    · intro w' hw'
      have hcell := hw'.cell N3.out
      go_simp
      first | exact rfl | exact ⟨rfl, hw'⟩
    simp only [Act.put, List.setIfInBounds_toArray, List.set_cons_succ, List.set_cons_zero]
    apply wpK_val
    · rfl
    · intro w' hw'
      go_simp
      first | exact rfl | exact ⟨rfl, hw'⟩
    simp only [Act.put, List.setIfInBounds_toArray, List.set_cons_succ, List.set_cons_zero]
    apply wpK_val
    · rfl
    · intro w' hw'
      have h1 : _ := TL3.out
      go_simp
      first | exact rfl | exact ⟨rfl, hw'⟩
    simp only [Act.put, List.setIfInBounds_toArray, List.set_cons_succ, List.set_cons_zero]
    apply wpK_val
    · rfl
    · intro w' hw'
      have hcell := (hw'.cell ((qb.out.cell hg).trans (HR.out _ (HN.out 3))))
      go_simp
      first | exact rfl | exact ⟨rfl, hw'⟩
    simp only [Act.put, List.setIfInBounds_toArray, List.set_cons_succ, List.set_cons_zero]
    apply wpK_val
    · rfl
    · intro w' hw'
      go_simp
      first | exact rfl | exact ⟨rfl, hw'⟩
    simp only [Act.put, List.setIfInBounds_toArray, List.set_cons_succ, List.set_cons_zero]
    apply wpK_val
    · rfl
    · intro w' hw'
      go_simp
      first | exact rfl | exact ⟨rfl, hw'⟩
    simp only [Act.put, List.setIfInBounds_toArray, List.set_cons_succ, List.set_cons_zero]
    apply wpK_val
    · rfl
    · intro w' hw'
      have hcell := hw'.cell N0.out
      go_simp
      first | exact rfl | exact ⟨rfl, hw'⟩
    simp only [Act.put, List.setIfInBounds_toArray, List.set_cons_succ, List.set_cons_zero]
    apply wpK_val
    · rfl
    · intro w' hw'
      go_simp
      first | exact rfl | exact ⟨rfl, hw'⟩
    simp only [Act.put, List.setIfInBounds_toArray, List.set_cons_succ, List.set_cons_zero]
    apply wpK_val
    · rfl
    · intro w' hw'
      have h1 : _ := TL0.out
      go_simp
      first | exact rfl | exact ⟨rfl, hw'⟩
    simp only [Act.put, List.setIfInBounds_toArray, List.set_cons_succ, List.set_cons_zero]
    apply wpK_val
    · rfl
    · intro w' hw'
      have hcell := (hw'.cell ((qb.out.cell hg).trans (HR.out _ (HN.out 0))))
      go_simp
      first | exact rfl | exact ⟨rfl, hw'⟩
    simp only [Act.put, List.setIfInBounds_toArray, List.set_cons_succ, List.set_cons_zero]
    apply kb4
    · rfl
    · rfl
    · rfl
    · rfl
    · rfl
    simp only [Act.put, List.setIfInBounds_toArray, List.set_cons_succ, List.set_cons_zero]
    refine wpK_nil fun w5 hw5 => ?_
    have r1 := hid (hw5.blk q1.out)
    have r3 := hid (hw5.blk q3.out)
    have r4 := hw5.blk q4.out
    have rb := hid (hw5.below qb.out)
    clear q1 q2 q3 q4 qb hw5 N0 N1 N2 N3 TL0 TL1 TL2 TL3
    go_upto_region 5 with ((with_reducible apply stA tWd); rfl; rfl; exact r4)
    generalize hw6 : World.setRow _ _ _ = w6
    have s1 := hid (show Blk w6 w.heap.size 88 (ar 4 far) by rw [← hw6]; exact r1.out.setRow_other (by omega) _)
    have s3 := hid (show Blk w6 (w.heap.size + 2) 88 (ar 4 fun _ => 0) by rw [← hw6]; exact r3.out.setRow_other (by omega) _)
    have s4 := hid (show Blk w6 (w.heap.size + 3) 88 (ar 4 (sel4 (T (near 1)) (T (near 2)) (T (near 3)) (T (near 0)))) by rw [← hw6]; exact r4.setRow_same _)
    have sb := hid (show Below w.heap.size w w6 by rw [← hw6]; exact below_setRow rb.out (by omega) _)
    clear hw6 r1 r3 r4 rb
    obtain ⟨m, hm⟩ : ∃ m, m = n / 8 := ⟨_, rfl⟩
    obtain ⟨e, he⟩ : ∃ e, e = m - 1 := ⟨_, rfl⟩
    have he7 : e < 7 := by omega
    have e0 : (0 : Int) ≤ (e : Int) := by omega
    have E1 := hid (show (n : Int).tdiv 8 = (m : Int) by rw [hm]; rfl)
    have E2 := hid (show IntKind.i64.wrap ((m : Int) - 1) = (e : Int) from wr_nat (by omega) (by omega))
    have E3 := hid (show IntKind.i64.wrap (m : Int) = (m : Int) from wr_nat rfl (by omega))
    have HE := hid (show e = n / 8 - 1 by rw [he, hm])
    have C4 := hid ((s4.out.cell 0).trans (get_ar (n := 4) (by omega)))
    have hT1 : T (near 1) < 256 := HT.out _
    have hp2 : 2 ^ e < 256 := Nat.lt_of_le_of_lt (Nat.pow_le_pow_right (by omega) (show e ≤ 6 by omega)) (by decide)
    have X := hid (show bits .xor .u8 ((sel4 (T (near 1)) (T (near 2)) (T (near 3)) (T (near 0)) 0 : Nat) : Int) ((2 : Int) ^ e % 256) = ((T (near 1) ^^^ 2 ^ e : Nat) : Int) by rw [pow_mod e he7]; exact u8_xor_nat _ _ hT1 hp2)
    clear hm he hT1
    refine wp_region_tail (C := Drew w6) 8 (by kernel_rfl) (by kernel_rfl) (by kernel_rfl) (Drew.refl _) ?_
    simp only [List.take_succ_cons, List.take_zero, List.drop_succ_cons, List.drop_zero]
    apply wpK_val
    · rfl
    · intro w' hw'
      go_simp
      first | exact rfl | exact ⟨rfl, hw'⟩
    simp only [Act.put, List.setIfInBounds_toArray, List.set_cons_succ, List.set_cons_zero]
    apply wpK_val
    · rfl
    · intro w' hw'
      have hcell := hw'.cell C4.out
      go_simp
      first | exact rfl | exact ⟨rfl, hw'⟩
    simp only [Act.put, List.setIfInBounds_toArray, List.set_cons_succ, List.set_cons_zero]
    apply wpK_val
    · rfl
    · intro w' hw'
      go_simp
      first | exact rfl | exact ⟨rfl, hw'⟩
    simp only [Act.put, List.setIfInBounds_toArray, List.set_cons_succ, List.set_cons_zero]
    apply wpK_val
    · rfl
    · intro w' hw'
      have h1 : _ := E1.out
      have h2 : _ := E3.out
      go_simp
      first | exact rfl | exact ⟨rfl, hw'⟩
    simp only [Act.put, List.setIfInBounds_toArray, List.set_cons_succ, List.set_cons_zero]
    apply wpK_val
    · rfl
    · intro w' hw'
      have h1 : _ := E2.out
      go_simp
      first | exact rfl | exact ⟨rfl, hw'⟩
    simp only [Act.put, List.setIfInBounds_toArray, List.set_cons_succ, List.set_cons_zero]
    apply wpK_val
    · rfl
    · intro w' hw'
      go_simp
      first | exact rfl | exact ⟨rfl, hw'⟩
    simp only [Act.put, List.setIfInBounds_toArray, List.set_cons_succ, List.set_cons_zero]
    apply wpK_val
    · rfl
    · intro w' hw'
      have h1 : _ := X.out
      go_simp
      first | exact rfl | exact ⟨rfl, hw'⟩
    simp only [Act.put, List.setIfInBounds_toArray, List.set_cons_succ, List.set_cons_zero]
    apply wpK_val
    · rfl
    · intro w' hw'
      go_simp
      first | exact rfl | exact ⟨rfl, hw'⟩
    simp only [Act.put, List.setIfInBounds_toArray, List.set_cons_succ, List.set_cons_zero]
    refine wpK_nil fun w5 hw5 => ?_
    have r1 := hid (hw5.blk s1.out)
    have r3 := hid (hw5.blk s3.out)
    have r4 := hid (hw5.blk s4.out)
    have rb := hid (hw5.below sb.out)
    have c4 := (r4.out.cell 0).trans (get_ar (n := 4) (by omega))
    have f4 := r4.out.frozen 0
    clear s1 s3 s4 sb hw5 E1 E2 E3 hp2 C4
    obtain ⟨t, ht⟩ : ∃ t : Nat → Nat, t = fun j => if j = 0 then T (near 1) ^^^ 2 ^ e else sel4 (T (near 1)) (T (near 2)) (T (near 3)) (T (near 0)) j := ⟨_, rfl⟩
    have HTE := hid (show ∀ i, i < 4 → t i = AesM.subW T near n i from fun i hi => by
      rw [ht]
      unfold AesM.subW
      rw [if_pos c0, ← HE.out]
      match i, hi with
      | 0, _ => rfl
      | 1, _ | 2, _ | 3, _ => exact (Nat.xor_zero _).symm)
    have HTB := hid (show Bt t from fun i => by
      have hp : 2 ^ e < 256 := Nat.lt_of_le_of_lt (Nat.pow_le_pow_right (by omega) (show e ≤ 6 by omega)) (by decide)
      rw [ht]
      show (if i = 0 then _ else sel4 _ _ _ _ i) < 256
      split
      · exact AesM.xor_lt (HT.out (near 1)) hp
      · exact sel4_lt (HT.out _) (HT.out _) (HT.out _) (HT.out _) i)
    have r4' : Blk (w5.setCell ⟨w.heap.size + 3, 0, none⟩ (.int .u8 (T (near 1) ^^^ 2 ^ e : Nat))) (w.heap.size + 3) 88 (ar 4 t) := by
      have h := r4.out.setCell_same 0 (.int .u8 (T (near 1) ^^^ 2 ^ e : Nat))
      rw [ar_set, ← ht] at h
      exact h
    have R4 := hid r4'
    clear ht r4 r4'
    have x1 := X.out
    clear X
    go_wp2_with fail
    rw [x1]
    clear x1
    generalize hw7 : World.setCell _ _ _ = w7
    have s1 := hid (show Blk w7 w.heap.size 88 (ar 4 far) by rw [← hw7]; exact r1.out.setCell_other (by simp) _)
    have s3 := hid (show Blk w7 (w.heap.size + 2) 88 (ar 4 fun _ => 0) by rw [← hw7]; exact r3.out.setCell_other (by simp) _)
    have s4 := hid (show Blk w7 (w.heap.size + 3) 88 (ar 4 t) by rw [← hw7]; exact R4.out)
    have sb := hid (show Below w.heap.size w w7 by rw [← hw7]; exact rb.out.setCell (by simp) _)
    clear hw7 r1 r3 R4 rb c4 f4
    go_loopw [76] (fun i wr => ∃ k : Nat, k ≤ 4 ∧ i = .int .i64 k ∧ Hid (Blk wr w.heap.size 88 (ar 4 far)) ∧ Hid (Blk wr (w.heap.size + 2) 88 (ar 4 fun _ => 0)) ∧ Hid (Blk wr (w.heap.size + 3) 88 (ar 4 (upTo k t fun j => t j ^^^ far j))) ∧ Hid (Below w.heap.size w wr)) (fun i _ => 4 - (intOf i).toNat)
    case atStart => exact ⟨0, by omega, rfl, s1, s3, by rw [upTo_zero]; exact s4, sb⟩
    case round =>
      clear s1 s3 s4 sb
      obtain ⟨k, hk, rfl, s1, s3, s4, sb⟩ := hrel
      by_cases hlt : k < 4
      · have tk : (k : Int) < 4 := by omega
        have c4 := (s4.out.cell k).trans (get_ar hlt)
        rw [upTo_at] at c4
        have c1 := (s1.out.cell k).trans (get_ar hlt)
        have f4 := s4.out.frozen k
        go_wp2_with fail
        go_still_tail 8, (by kernel_rfl)
        change wpList _ _ _ _ _ wr.drew
        rw [u8_xor_nat _ _ (HTB.out k) (HF.out k)]
        go_wp2_with fail
        go_roundw
        case rel => exact ⟨k + 1, by omega, by go_num, hid (s1.out.setCell_other (by simp) _).drew, hid (s3.out.setCell_other (by simp) _).drew, hid (upTo_step (s4.out.setCell_same k _).drew), hid (sb.out.setCell (by simp) _).drew⟩
        case measure => simp [intOf]; omega
      · have tk : decide ((k : Int) < 4) = false := by simp; omega
        have s4' := s4.out
        rw [upTo_all (by omega), ar_ext (g := AesM.nxt T far near n) fun j hj => by rw [HTE.out j hj]; rfl] at s4'
        have b3 := s3.out
        go_wp2_with (first | ((with_reducible apply ldA tWd); rfl; exact s4') | ((with_reducible apply stA tWd); rfl; rfl; exact b3))
        apply ret_ar tWd Try.results42
        · rfl
        · rfl
        · exact b3.setRow_same _
        exact ⟨rfl, below_setRow sb.out (by omega) _⟩
  · have t0 : decide ((n : Int).tmod 8 = 0) = false := by rw [Int.tmod_eq_emod_of_nonneg (by omega)]; simp; omega
    have t1 : ((n : Int) % 8 == 0) = false := by rw [beq_eq_false_iff_ne]; omega
    by_cases c4 : n % 8 = 4
    · have t2 : ((n : Int) % 8 == 4) = true := by rw [beq_iff_eq]; omega
      have N0 := hid ((q2.out.cell 0).trans (get_ar (n := 4) (by omega)))
      have N1 := hid ((q2.out.cell 1).trans (get_ar (n := 4) (by omega)))
      have N2 := hid ((q2.out.cell 2).trans (get_ar (n := 4) (by omega)))
      have N3 := hid ((q2.out.cell 3).trans (get_ar (n := 4) (by omega)))
      have TL0 := hid (show ((near 0 : Nat) : Int) < 256 by have := HN.out 0; omega)
      have TL1 := hid (show ((near 1 : Nat) : Int) < 256 by have := HN.out 1; omega)
      have TL2 := hid (show ((near 2 : Nat) : Int) < 256 by have := HN.out 2; omega)
      have TL3 := hid (show ((near 3 : Nat) : Int) < 256 by have := HN.out 3; omega)
      go_wp2_with fail
      refine wp_region_tail (C := Drew w3) 25 (by kernel_rfl) (by kernel_rfl) (by kernel_rfl) (Drew.refl _) ?_
      simp only [List.take_succ_cons, List.take_zero, List.drop_succ_cons, List.drop_zero]
      apply wpK_val
      · rfl
      · intro w' hw'
        go_simp
        first | exact rfl | exact ⟨rfl, hw'⟩
      simp only [Act.put, List.setIfInBounds_toArray, List.set_cons_succ, List.set_cons_zero]
      apply wpK_val
      · rfl
      · intro w' hw'
        go_simp
        first | exact rfl | exact ⟨rfl, hw'⟩
      simp only [Act.put, List.setIfInBounds_toArray, List.set_cons_succ, List.set_cons_zero]
      apply wpK_val
      · rfl
      · intro w' hw'
        have hcell := hw'.cell N0.out
        go_simp
        first | exact rfl | exact ⟨rfl, hw'⟩
      simp only [Act.put, List.setIfInBounds_toArray, List.set_cons_succ, List.set_cons_zero]
      apply wpK_val
      · rfl
      · intro w' hw'
        go_simp
        first | exact rfl | exact ⟨rfl, hw'⟩
      simp only [Act.put, List.setIfInBounds_toArray, List.set_cons_succ, List.set_cons_zero]
      apply wpK_val
      · rfl
      · intro w' hw'
        have h1 : _ := TL0.out
        go_simp
        first | exact rfl | exact ⟨rfl, hw'⟩
      simp only [Act.put, List.setIfInBounds_toArray, List.set_cons_succ, List.set_cons_zero]
      apply wpK_val
      · rfl
      · intro w' hw'
        have hcell := (hw'.cell ((qb.out.cell hg).trans (HR.out _ (HN.out 0))))
        go_simp
        first | exact rfl | exact ⟨rfl, hw'⟩
      simp only [Act.put, List.setIfInBounds_toArray, List.set_cons_succ, List.set_cons_zero]
      apply wpK_val
      · rfl
      · intro w' hw'
        go_simp
        first | exact rfl | exact ⟨rfl, hw'⟩
      simp only [Act.put, List.setIfInBounds_toArray, List.set_cons_succ, List.set_cons_zero]
      apply wpK_val
      · rfl
      · intro w' hw'
        go_simp
        first | exact rfl | exact ⟨rfl, hw'⟩
      simp only [Act.put, List.setIfInBounds_toArray, List.set_cons_succ, List.set_cons_zero]
      apply wpK_val
      · rfl
      · intro w' hw'
        have hcell := hw'.cell N1.out
        go_simp
        first | exact rfl | exact ⟨rfl, hw'⟩
      simp only [Act.put, List.setIfInBounds_toArray, List.set_cons_succ, List.set_cons_zero]
      apply wpK_val
      · rfl
      · intro w' hw'
        go_simp
        first | exact rfl | exact ⟨rfl, hw'⟩
      simp only [Act.put, List.setIfInBounds_toArray, List.set_cons_succ, List.set_cons_zero]
      apply wpK_val
      · rfl
      · intro w' hw'
        have h1 : _ := TL1.out
        go_simp
        first | exact rfl | exact ⟨rfl, hw'⟩
      simp only [Act.put, List.setIfInBounds_toArray, List.set_cons_succ, List.set_cons_zero]
      apply wpK_val
      · rfl
      · intro w' hw'
        have hcell := (hw'.cell ((qb.out.cell hg).trans (HR.out _ (HN.out 1))))
        go_simp
        first | exact rfl | exact ⟨rfl, hw'⟩
      simp only [Act.put, List.setIfInBounds_toArray, List.set_cons_succ, List.set_cons_zero]
      apply wpK_val
      · rfl
      · intro w' hw'
        go_simp
        first | exact rfl | exact ⟨rfl, hw'⟩
      simp only [Act.put, List.setIfInBounds_toArray, List.set_cons_succ, List.set_cons_zero]
      apply wpK_val
      · rfl
      · intro w' hw'
        go_simp
        first | exact rfl | exact ⟨rfl, hw'⟩
      simp only [Act.put, List.setIfInBounds_toArray, List.set_cons_succ, List.set_cons_zero]
      apply wpK_val
      · rfl
      · intro w' hw'
        have hcell := hw'.cell N2.out
        go_simp
        first | exact rfl | exact ⟨rfl, hw'⟩
      simp only [Act.put, List.setIfInBounds_toArray, List.set_cons_succ, List.set_cons_zero]
      apply wpK_val
      · rfl
      · intro w' hw'
        go_simp
        first | exact rfl | exact ⟨rfl, hw'⟩
      simp only [Act.put, List.setIfInBounds_toArray, List.set_cons_succ, List.set_cons_zero]
      apply wpK_val
      · rfl
      · intro w' hw'
        have h1 : _ := TL2.out
        go_simp
        first | exact rfl | exact ⟨rfl, hw'⟩
      simp only [Act.put, List.setIfInBounds_toArray, List.set_cons_succ, List.set_cons_zero]
      apply wpK_val
      · rfl
      · intro w' hw'
        have hcell := (hw'.cell ((qb.out.cell hg).trans (HR.out _ (HN.out 2))))
        go_simp
        first | exact rfl | exact ⟨rfl, hw'⟩
      simp only [Act.put, List.setIfInBounds_toArray, List.set_cons_succ, List.set_cons_zero]
      apply wpK_val
      · rfl
      · intro w' hw'
        go_simp
        first | exact rfl | exact ⟨rfl, hw'⟩
      simp only [Act.put, List.setIfInBounds_toArray, List.set_cons_succ, List.set_cons_zero]
      apply wpK_val
      · rfl
      · intro w' hw'
        go_simp
        first | exact rfl | exact ⟨rfl, hw'⟩
      simp only [Act.put, List.setIfInBounds_toArray, List.set_cons_succ, List.set_cons_zero]
      apply wpK_val
      · rfl
      · intro w' hw'
        have hcell := hw'.cell N3.out
        go_simp
        first | exact rfl | exact ⟨rfl, hw'⟩
      simp only [Act.put, List.setIfInBounds_toArray, List.set_cons_succ, List.set_cons_zero]
      apply wpK_val
      · rfl
      · intro w' hw'
        go_simp
        first | exact rfl | exact ⟨rfl, hw'⟩
      simp only [Act.put, List.setIfInBounds_toArray, List.set_cons_succ, List.set_cons_zero]
      apply wpK_val
      · rfl
      · intro w' hw'
        have h1 : _ := TL3.out
        go_simp
        first | exact rfl | exact ⟨rfl, hw'⟩
      simp only [Act.put, List.setIfInBounds_toArray, List.set_cons_succ, List.set_cons_zero]
      apply wpK_val
      · rfl
      · intro w' hw'
        have hcell := (hw'.cell ((qb.out.cell hg).trans (HR.out _ (HN.out 3))))
        go_simp
        first | exact rfl | exact ⟨rfl, hw'⟩
      simp only [Act.put, List.setIfInBounds_toArray, List.set_cons_succ, List.set_cons_zero]
      apply kb4
      · rfl
      · rfl
      · rfl
      · rfl
      · rfl
      simp only [Act.put, List.setIfInBounds_toArray, List.set_cons_succ, List.set_cons_zero]
      refine wpK_nil fun w5 hw5 => ?_
      have r1 := hid (hw5.blk q1.out)
      have r3 := hid (hw5.blk q3.out)
      have r4 := hw5.blk q4.out
      have rb := hid (hw5.below qb.out)
      clear q1 q2 q3 q4 qb hw5 N0 N1 N2 N3 TL0 TL1 TL2 TL3
      obtain ⟨t, ht⟩ : ∃ t : Nat → Nat, t = sel4 (T (near 0)) (T (near 1)) (T (near 2)) (T (near 3)) := ⟨_, rfl⟩
      have HTE := hid (show ∀ i, i < 4 → t i = AesM.subW T near n i from fun i hi => by
        rw [ht]
        unfold AesM.subW
        rw [if_neg c0, if_pos c4]
        match i, hi with
        | 0, _ | 1, _ | 2, _ | 3, _ => rfl)
      have HTB := hid (show Bt t from fun i => by
        rw [ht]
        exact sel4_lt (HT.out _) (HT.out _) (HT.out _) (HT.out _) i)
      rw [← ht]
      clear ht
      go_wp2_with ((with_reducible apply stA tWd); rfl; rfl; exact r4)
      generalize hw7 : World.setRow _ _ _ = w7
      have s1 := hid (show Blk w7 w.heap.size 88 (ar 4 far) by rw [← hw7]; exact r1.out.setRow_other (by omega) _)
      have s3 := hid (show Blk w7 (w.heap.size + 2) 88 (ar 4 fun _ => 0) by rw [← hw7]; exact r3.out.setRow_other (by omega) _)
      have s4 := hid (show Blk w7 (w.heap.size + 3) 88 (ar 4 t) by rw [← hw7]; exact r4.setRow_same _)
      have sb := hid (show Below w.heap.size w w7 by rw [← hw7]; exact below_setRow rb.out (by omega) _)
      clear hw7 r1 r3 r4 rb
      go_loopw [76] (fun i wr => ∃ k : Nat, k ≤ 4 ∧ i = .int .i64 k ∧ Hid (Blk wr w.heap.size 88 (ar 4 far)) ∧ Hid (Blk wr (w.heap.size + 2) 88 (ar 4 fun _ => 0)) ∧ Hid (Blk wr (w.heap.size + 3) 88 (ar 4 (upTo k t fun j => t j ^^^ far j))) ∧ Hid (Below w.heap.size w wr)) (fun i _ => 4 - (intOf i).toNat)
      case atStart => exact ⟨0, by omega, rfl, s1, s3, by rw [upTo_zero]; exact s4, sb⟩
      case round =>
        clear s1 s3 s4 sb
        obtain ⟨k, hk, rfl, s1, s3, s4, sb⟩ := hrel
        by_cases hlt : k < 4
        · have tk : (k : Int) < 4 := by omega
          have c4 := (s4.out.cell k).trans (get_ar hlt)
          rw [upTo_at] at c4
          have c1 := (s1.out.cell k).trans (get_ar hlt)
          have f4 := s4.out.frozen k
          go_wp2_with fail
          go_still_tail 8, (by kernel_rfl)
          change wpList _ _ _ _ _ wr.drew
          rw [u8_xor_nat _ _ (HTB.out k) (HF.out k)]
          go_wp2_with fail
          go_roundw
          case rel => exact ⟨k + 1, by omega, by go_num, hid (s1.out.setCell_other (by simp) _).drew, hid (s3.out.setCell_other (by simp) _).drew, hid (upTo_step (s4.out.setCell_same k _).drew), hid (sb.out.setCell (by simp) _).drew⟩
          case measure => simp [intOf]; omega
        · have tk : decide ((k : Int) < 4) = false := by simp; omega
          have s4' := s4.out
          rw [upTo_all (by omega), ar_ext (g := AesM.nxt T far near n) fun j hj => by rw [HTE.out j hj]; rfl] at s4'
          have b3 := s3.out
          go_wp2_with (first | ((with_reducible apply ldA tWd); rfl; exact s4') | ((with_reducible apply stA tWd); rfl; rfl; exact b3))
          apply ret_ar tWd Try.results42
          · rfl
          · rfl
          · exact b3.setRow_same _
          exact ⟨rfl, below_setRow sb.out (by omega) _⟩
    · have t2 : ((n : Int) % 8 == 4) = false := by rw [beq_eq_false_iff_ne]; omega
      have HTE := hid (show ∀ i, i < 4 → near i = AesM.subW T near n i from fun i hi => by
        unfold AesM.subW
        rw [if_neg c0, if_neg c4])
      have HTB := HN
      have s1 := q1
      have s3 := q3
      have s4 := q4
      have sb := qb
      clear q1 q2 q3 q4 qb
      go_wp2_with fail
      go_loopw [76] (fun i wr => ∃ k : Nat, k ≤ 4 ∧ i = .int .i64 k ∧ Hid (Blk wr w.heap.size 88 (ar 4 far)) ∧ Hid (Blk wr (w.heap.size + 2) 88 (ar 4 fun _ => 0)) ∧ Hid (Blk wr (w.heap.size + 3) 88 (ar 4 (upTo k near fun j => near j ^^^ far j))) ∧ Hid (Below w.heap.size w wr)) (fun i _ => 4 - (intOf i).toNat)
      case atStart => exact ⟨0, by omega, rfl, s1, s3, by rw [upTo_zero]; exact s4, sb⟩
      case round =>
        clear s1 s3 s4 sb
        obtain ⟨k, hk, rfl, s1, s3, s4, sb⟩ := hrel
        by_cases hlt : k < 4
        · have tk : (k : Int) < 4 := by omega
          have c4 := (s4.out.cell k).trans (get_ar hlt)
          rw [upTo_at] at c4
          have c1 := (s1.out.cell k).trans (get_ar hlt)
          have f4 := s4.out.frozen k
          go_wp2_with fail
          go_still_tail 8, (by kernel_rfl)
          change wpList _ _ _ _ _ wr.drew
          rw [u8_xor_nat _ _ (HTB.out k) (HF.out k)]
          go_wp2_with fail
          go_roundw
          case rel => exact ⟨k + 1, by omega, by go_num, hid (s1.out.setCell_other (by simp) _).drew, hid (s3.out.setCell_other (by simp) _).drew, hid (upTo_step (s4.out.setCell_same k _).drew), hid (sb.out.setCell (by simp) _).drew⟩
          case measure => simp [intOf]; omega
        · have tk : decide ((k : Int) < 4) = false := by simp; omega
          have s4' := s4.out
          rw [upTo_all (by omega), ar_ext (g := AesM.nxt T far near n) fun j hj => by rw [HTE.out j hj]; rfl] at s4'
          have b3 := s3.out
          go_wp2_with (first | ((with_reducible apply ldA tWd); rfl; exact s4') | ((with_reducible apply stA tWd); rfl; rfl; exact b3))
          apply ret_ar tWd Try.results42
          · rfl
          · rfl
          · exact b3.setRow_same _
          exact ⟨rfl, below_setRow sb.out (by omega) _⟩
end AesP
end Go.Proofs.Ytkcfonlondlmeaa
namespace Go.Proofs.Ytkcfonlondlmeaa
open Go.ChangeShapes Go.WideShapes Go.ChangeAt Go.RowKit
open AesM (Bt)
attribute [local go_sem] Gives
section
variable {ops : Array Oper} {Q : Exit → Act → World → Prop} {a : Act} {w : World} {rest : List Oper} {dst : Option Tmp} {ty : TypeId} {pos : String} {after : Array Edge} {d s : Operand} {f h : Nat → Nat} {t : TypeId}
/-- copy of m bytes into the middle of a row. -/
theorem wcopyA {g o N m b p dLen dCap sLen sCap : Nat} (hd : a.eval d = .slice (some ⟨g, o, none⟩) dLen dCap) (hs : a.eval s = .slice (some ⟨b, p, none⟩) sLen sCap) (hg : Blk w g t (ar N f)) (hr : w.rangeAt b p (ar m h).toList)
    (hm : m = Nat.min sLen dLen) (hfit : o + m ≤ N) (hk : wpList Try.prog ops Q rest (a.put dst (goInt m)) (w.setRow g (ar N (putA o m f h)))) :
    wpList Try.prog ops Q (⟨dst, .call { callee := .builtin .copy, args := #[d, s], argTypes := #[71, 71] }, ty, pos, after, none⟩ :: rest) a w := by
  have hlen : (ar m h).toList.length = m := by rw [Array.length_toList, size_ar]
  refine wpList_copy_own rfl d s 71 71 rfl 5 Try.underlying71 (by kernel_rfl) g o dLen dCap ⟨b, p, none⟩ sLen sCap hd hs (ar N f) t hg (ar m h).toList (by rw [hlen]; exact hm) ?_ (by rw [hlen, size_ar]; omega) ?_ ?_
  · intro j v hj
    rw [Addr.add_mid]
    exact hr j v hj
  · intro v hv
    exact (Array.all_eq_true_iff_forall_mem.1 ar_one) v (by simpa using hv)
  · rw [hlen]
    have e : (List.take o (ar N f).toList ++ ((ar m h).toList ++ (ar N f).toList.drop (o + m))).toArray = ar N (putA o m f h) := by
      apply Array.ext_getElem?
      intro k
      rw [List.getElem?_toArray, List.getElem?_append, List.length_take, Array.length_toList, size_ar, Nat.min_eq_left (by omega)]
      by_cases h1 : k < o
      · rw [if_pos h1, List.getElem?_take_of_lt h1, Array.getElem?_toList, get_ar (by omega), get_ar (by omega)]
        unfold putA; rw [if_neg (by omega)]
      · rw [if_neg h1, List.getElem?_append, hlen]
        by_cases h2 : k - o < m
        · rw [if_pos h2, Array.getElem?_toList, get_ar h2, get_ar (by omega)]
          unfold putA; rw [if_pos (by omega)]
        · rw [if_neg h2, List.getElem?_drop, Array.getElem?_toList, show o + m + (k - o - m) = k by omega]
          by_cases h3 : k < N
          · rw [get_ar h3, get_ar h3]; unfold putA; rw [if_neg (by omega)]
          · rw [ar, ar, get_row, get_row, if_neg h3, if_neg h3]
    rw [e]
    exact hk
/-- A row stored into the middle of one. -/
theorem stAm {T : TypeId} {g o n m : Nat} {x y : Operand} (hT : ArT T m) (hx : a.eval x = .pointer (some ⟨g, o, none⟩)) (hy : a.eval y = .agg (ar m h)) (hb : Blk w g t (ar n f)) (hm : o + m ≤ n)
    (hk : wpList Try.prog ops Q rest (a.put dst undef) (w.setCells g o (ar m h).toList)) : wpList Try.prog ops Q (⟨dst, .store T x y, ty, pos, after, none⟩ :: rest) a w :=
  wpList_store_mid rfl T x y rfl g o (ar m h) hx hy (by rw [size_ar]; exact hb.there hm) (hT.size.trans (by rw [size_ar])) ar_one hk
end
theorem putA_next {N m n o : Nat} {h h' : Nat → Nat} (ho : o = m * n) (he : ∀ i, i < m → h' i = h (m * n + i)) : ar N (putA o m (upTo (m * n) (fun _ => 0) h) h') = ar N (upTo (m * (n + 1)) (fun _ => 0) h) := ar_ext fun j _ => by
  subst ho
  unfold putA upTo
  rw [Nat.mul_add, Nat.mul_one]
  by_cases h1 : m * n ≤ j ∧ j < m * n + m
  · rw [if_pos h1, if_pos h1.2, he _ (by omega), show m * n + (j - m * n) = j by omega]
  · rw [if_neg h1]
    by_cases h2 : j < m * n
    · rw [if_pos h2, if_pos (by omega)]
    · rw [if_neg h2, if_neg (by omega)]
theorem range_below {w w' : World} {B b o : Nat} {cs : List Value} (h : w.rangeAt b o cs) (hb : Below B w w') (hlt : b < B) : w'.rangeAt b o cs := fun j v hj => (hb.cell hlt).trans (h j v hj)
theorem extract_ar {N m o : Nat} {f : Nat → Nat} (h : o + m ≤ N) : (ar N f).extract o (o + m) = ar m fun i => f (o + i) := by
  apply Array.ext_getElem?
  intro k
  rw [Array.getElem?_extract]
  by_cases hk : k < m
  · rw [if_pos (by rw [size_ar]; omega), get_ar (by omega), get_ar hk]
  · rw [if_neg (by rw [size_ar]; omega), ar, get_row, if_neg hk]
theorem size_of {T : TypeId} {m : Nat} (hT : ArT T m) (w : World) : (sizeOf T).run Try.prog w = .ok m w := by
  have h := hT.size
  cases hi : Try.prog.info? T with
  | none => rw [hi] at h; cases h
  | some i => rw [hi] at h; simp at h; simp [sizeOf, typeInfo, hi, h]
theorem run_index_part {T e : TypeId} {n m k N : Nat} {f : Nat → Nat} (hT : Try.prog.underlying T = some (.array n e)) (he : ArT e m) (hN : N = n * m) (hk : k < n) (w : World) :
    (Instr.index T (.agg (ar N f)) (.int .i64 k)).run Try.prog w = .ok (.agg (ar m fun i => f (k * m + i))) w := by
  subst hN
  obtain ⟨d, h1, h2⟩ := he.desc
  have hagg : (isAgg e).run Try.prog w = .ok true w := by
    unfold isAgg
    rw [Sem.run_bind, run_underlying h1 w]
    cases d <;> simp_all
  have hb : (0 : Int) ≤ (k : Int) ∧ (k : Int) < n := by omega
  have hfit : k * m + m ≤ n * m := by
    have := Nat.mul_le_mul_right m (show k + 1 ≤ n by omega)
    rwa [Nat.add_mul, Nat.one_mul] at this
  simp [Instr.index, run_underlying hT, asIntOf, hb, Sem.run_bind, size_of he w, part, hagg, extract_ar hfit]
  intro h
  omega
namespace AesP
theorem size_u8 (w : World) : (sizeOf 5).run Try.prog w = .ok 1 w := by
  have h := (by kernel_rfl : (Try.prog.info? 5).map (·.size) = some 1)
  cases hi : Try.prog.info? 5 with
  | none => rw [hi] at h; cases h
  | some i => rw [hi] at h; simp at h; simp [sizeOf, typeInfo, hi, h]
theorem sl_key {g q : Nat} (hq : q < 32) (w : World) : (Instr.sliceAt 23 (.pointer (some ⟨g, 0, none⟩)) (some (.int .i64 q)) none none).run Try.prog w = .ok (.slice (some ⟨g, q, none⟩) (32 - q) (32 - q)) w := by
  have hl : Try.prog.arrayLen 23 = 32 := by kernel_rfl
  have he : Try.prog.elem 23 = 5 := by kernel_rfl
  rw [run_sliceAt_array_l w 23 _ (by rw [hl, he]; exact Try.underlying23) .i64 q (by omega) (by rw [hl]; omega), he, size_u8, hl]
  simp only [Result.andThen_ok, slicedAt, Int.toNat_natCast]
  rw [if_neg (by omega), Addr.add_mid, Nat.mul_one, Nat.zero_add]
theorem sl_st {g o q : Nat} (hq : q < 16) (w : World) : (Instr.sliceAt 53 (.pointer (some ⟨g, o, none⟩)) (some (.int .i64 q)) none none).run Try.prog w = .ok (.slice (some ⟨g, o + q, none⟩) (16 - q) (16 - q)) w := by
  have hl : Try.prog.arrayLen 53 = 16 := by kernel_rfl
  have he : Try.prog.elem 53 = 5 := by kernel_rfl
  rw [run_sliceAt_array_l w 53 _ (by rw [hl, he]; exact Try.underlying53) .i64 q (by omega) (by rw [hl]; omega), he, size_u8, hl]
  simp only [Result.andThen_ok, slicedAt, Int.toNat_natCast]
  rw [if_neg (by omega), Addr.add_mid, Nat.mul_one]
theorem tKey : ArT 23 32 := ⟨by kernel_rfl, ⟨_, Try.underlying23, rfl⟩, (zero_of_info (P := Try.prog) (t := 23) (v := .agg (ar 32 fun _ => 0)) (n := 32) (by kernel_rfl)).1⟩
theorem tWs : ArT 89 240 := ⟨by kernel_rfl, ⟨_, Try.underlying89, rfl⟩, (zero_of_info (P := Try.prog) (t := 89) (v := .agg (ar 240 fun _ => 0)) (n := 240) (by kernel_rfl)).1⟩
theorem tKs : ArT 54 240 := ⟨by kernel_rfl, ⟨_, Try.underlying54, rfl⟩, (zero_of_info (P := Try.prog) (t := 54) (v := .agg (ar 240 fun _ => 0)) (n := 240) (by kernel_rfl)).1⟩
theorem wd_W (T k : Nat → Nat) {n i : Nat} (hi : i < 4) : AesM.W T k (4 * n + i) = AesM.wd T k n i := by
  unfold AesM.W
  rw [show (4 * n + i) / 4 = n by omega, show (4 * n + i) % 4 = i by omega]
set_option maxHeartbeats 400000 in
set_option maxRecDepth 100000 in
theorem keys_any (k T : Nat → Nat) (hk : Bt k) (hT : Bt T) (g o : Nat) (w : World) (hg : g < w.heap.size) (hR : w.rangeAt g o (ar 256 T).toList) :
    Calls Try.prog 25 #[.agg (ar 32 k), .pointer (some ⟨g, o, none⟩)] w fun e w' => e = .returned (.agg (ar 240 (AesM.W T k))) ∧ Below w.heap.size w w' := by
  have HK := hid hk
  have HT := hid hT
  have HR := hid hR
  clear hk hT hR
  go_enter Try.func25, Try.ntmps25
  go_upto_region 2 with (first | (with_reducible apply alA tKs) | (with_reducible apply alA tWs))
  generalize hw1 : World.alloc (World.alloc (World.alloc w _) _) _ = w1
  have b1 := hid (show Blk w1 w.heap.size 23 (ar 32 k) by rw [← hw1]; exact ((Blk.new _ _ _).alloc _).alloc _)
  have b2 := hid (show Blk w1 (w.heap.size + 1) 54 (ar 240 fun _ => 0) by rw [← hw1]; exact (Blk.top rfl (by simp)).alloc _)
  have b3 := hid (show Blk w1 (w.heap.size + 2) 89 (ar 240 fun _ => 0) by rw [← hw1]; exact Blk.top rfl (by simp))
  have hb := hid (show Below w.heap.size w w1 by rw [← hw1]; exact (((Below.refl _ _).alloc (Nat.le_refl _) _).alloc (by simp) _).alloc (by simp; omega) _)
  clear hw1
  go_wp2_with fail
  go_loopw [10] (fun i wr => ∃ n : Nat, n ≤ 60 ∧ i = .int .i64 n ∧ Hid (Blk wr w.heap.size 23 (ar 32 k)) ∧ Hid (Blk wr (w.heap.size + 1) 54 (ar 240 fun _ => 0)) ∧ Hid (Blk wr (w.heap.size + 2) 89 (ar 240 (upTo (4 * n) (fun _ => 0) (AesM.W T k)))) ∧ Hid (Below w.heap.size w wr)) (fun i _ => 60 - (intOf i).toNat)
  case atStart => exact ⟨0, by omega, rfl, b1, b2, by rw [upTo_zero]; exact b3, hb⟩
  case round =>
    clear b1 b2 b3 hb
    obtain ⟨n, hn, rfl, b1, b2, b3, hb⟩ := hrel
    by_cases hlt : n < 60
    · have tn : (n : Int) < 60 := by omega
      by_cases h8 : n < 8
      · have t8 : (n : Int) < 8 := by omega
        obtain ⟨q, hq⟩ : ∃ q, q = 4 * n := ⟨_, rfl⟩
        have hq32 : q ≤ 32 := by omega
        have e1 := hid (show IntKind.i64.wrap ((n : Int) * 4) = (q : Int) from wr_nat (by omega) (by omega))
        have HQ := hid hq
        clear hq
        go_wp2_with fail
        refine wp_region_tail (C := Drew wr) 6 (by kernel_rfl) (by kernel_rfl) (by kernel_rfl) (Drew.refl _) ?_
        simp only [List.take_succ_cons, List.take_zero, List.drop_succ_cons, List.drop_zero]
        apply wpK_val
        · rfl
        · intro w' hw'
          go_simp
          first | exact rfl | exact ⟨rfl, hw'⟩
        simp only [Act.put, List.setIfInBounds_toArray, List.set_cons_succ, List.set_cons_zero]
        apply wpK_val
        · rfl
        · intro w' hw'
          go_simp
          first | exact rfl | exact ⟨rfl, hw'⟩
        simp only [Act.put, List.setIfInBounds_toArray, List.set_cons_succ, List.set_cons_zero]
        apply wpK_val
        · rfl
        · intro w' hw'
          go_simp
          first | exact rfl | exact ⟨rfl, hw'⟩
        simp only [Act.put, List.setIfInBounds_toArray, List.set_cons_succ, List.set_cons_zero]
        apply wpK_val
        · rfl
        · intro w' hw'
          go_simp
          first | exact rfl | exact ⟨rfl, hw'⟩
        simp only [Act.put, List.setIfInBounds_toArray, List.set_cons_succ, List.set_cons_zero]
        apply wpK_val
        · rfl
        · intro w' hw'
          have h1 : _ := e1.out
          go_simp
          first | exact rfl | exact ⟨rfl, hw'⟩
        simp only [Act.put, List.setIfInBounds_toArray, List.set_cons_succ, List.set_cons_zero]
        apply wpK_val
        · rfl
        · intro w' hw'
          have h1 : _ := sl_key (g := w.heap.size) (q := q) (by have := HQ.out; omega) w'
          go_simp
          first | exact rfl | exact ⟨rfl, hw'⟩
        simp only [Act.put, List.setIfInBounds_toArray, List.set_cons_succ, List.set_cons_zero]
        refine wpK_nil fun w5 hw5 => ?_
        have r1 := hw5.blk b1.out
        have r2 := hid (hw5.blk b2.out)
        have r3 := hw5.blk b3.out
        have rb := hid (hw5.below hb.out)
        have hr := r1.arRange (o := q) (m := 4) (by have := HQ.out; omega)
        clear b1 b2 b3 hb hw5 e1
        have hmin := hid (show 4 = Nat.min (32 - q) 4 from (Nat.min_eq_right (by have := HQ.out; omega)).symm)
        have hfit := hid (show n * 4 + 4 ≤ 240 by omega)
        go_wp2_with ((with_reducible apply wcopyA); rfl; rfl; exact r3; exact hr; exact hmin.out; exact hfit.out)
        go_roundw
        case rel =>
          refine ⟨n + 1, by omega, by go_num, hid (r1.setRow_other (by omega) _), hid (r2.out.setRow_other (by omega) _), hid ?_, hid (below_setRow rb.out (by omega) _)⟩
          rw [← putA_next (o := n * 4) (Nat.mul_comm n 4) (h' := fun i => k (q + i)) fun i hi => by rw [wd_W T k hi, AesM.wd_first T k h8 hi, HQ.out]]
          exact r3.setRow_same _
        case measure => simp [intOf]; omega
      · have t8 : decide ((n : Int) < 8) = false := by simp; omega
        obtain ⟨m, hm⟩ : ∃ m, m = n - 8 := ⟨_, rfl⟩
        obtain ⟨l, hl⟩ : ∃ l, l = n - 1 := ⟨_, rfl⟩
        have e1 := hid (show IntKind.i64.wrap ((n : Int) - 8) = (m : Int) from wr_nat (by omega) (by omega))
        have e2 := hid (show IntKind.i64.wrap ((n : Int) - 1) = (l : Int) from wr_nat (by omega) (by omega))
        have tm : (m : Int) < 60 := by omega
        have tl : (l : Int) < 60 := by omega
        have HM := hid hm
        have HL := hid hl
        have hs2 := b3.out.lt
        have P1 := hid (show wr.rangeAt (w.heap.size + 2) (m * 4) (ar 4 (AesM.wd T k m)).toList by
          have h := b3.out.arRange (o := m * 4) (m := 4) (by omega)
          rw [ar_ext (g := AesM.wd T k m) fun i hi => by
            unfold upTo
            rw [if_pos (by omega), Nat.mul_comm m 4, wd_W T k hi]] at h
          exact h)
        have P2 := hid (show wr.rangeAt (w.heap.size + 2) (l * 4) (ar 4 (AesM.wd T k l)).toList by
          have h := b3.out.arRange (o := l * 4) (m := 4) (by omega)
          rw [ar_ext (g := AesM.wd T k l) fun i hi => by
            unfold upTo
            rw [if_pos (by omega), Nat.mul_comm l 4, wd_W T k hi]] at h
          exact h)
        clear hm hl
        go_wp2_with fail
        refine wp_region_tail (C := fun w' => Below wr.heap.size wr w') 13 (by kernel_rfl) (by kernel_rfl) (by kernel_rfl) (Below.refl _ _).drew ?_
        simp only [List.take_succ_cons, List.take_zero, List.drop_succ_cons, List.drop_zero]
        apply wpK_val
        · rfl
        · intro w' hw'
          go_simp
          first | exact rfl | exact ⟨rfl, hw'⟩
        simp only [Act.put, List.setIfInBounds_toArray, List.set_cons_succ, List.set_cons_zero]
        apply wpK_val
        · rfl
        · intro w' hw'
          go_simp
          first | exact rfl | exact ⟨rfl, hw'⟩
        simp only [Act.put, List.setIfInBounds_toArray, List.set_cons_succ, List.set_cons_zero]
        apply wpK_val
        · rfl
        · intro w' hw'
          have h1 : _ := e1.out
          go_simp
          first | exact rfl | exact ⟨rfl, hw'⟩
        simp only [Act.put, List.setIfInBounds_toArray, List.set_cons_succ, List.set_cons_zero]
        apply wpK_val
        · rfl
        · intro w' hw'
          go_simp
          first | exact rfl | exact ⟨rfl, hw'⟩
        simp only [Act.put, List.setIfInBounds_toArray, List.set_cons_succ, List.set_cons_zero]
        apply kldA tWd
        · rfl
        · rfl
        · exact fun w' hw' => range_below P1.out hw' hs2
        simp only [Act.put, List.setIfInBounds_toArray, List.set_cons_succ, List.set_cons_zero]
        apply wpK_val
        · rfl
        · intro w' hw'
          go_simp
          first | exact rfl | exact ⟨rfl, hw'⟩
        simp only [Act.put, List.setIfInBounds_toArray, List.set_cons_succ, List.set_cons_zero]
        apply wpK_val
        · rfl
        · intro w' hw'
          have h1 : _ := e2.out
          go_simp
          first | exact rfl | exact ⟨rfl, hw'⟩
        simp only [Act.put, List.setIfInBounds_toArray, List.set_cons_succ, List.set_cons_zero]
        apply wpK_val
        · rfl
        · intro w' hw'
          go_simp
          first | exact rfl | exact ⟨rfl, hw'⟩
        simp only [Act.put, List.setIfInBounds_toArray, List.set_cons_succ, List.set_cons_zero]
        apply kldA tWd
        · rfl
        · rfl
        · exact fun w' hw' => range_below P2.out hw' hs2
        simp only [Act.put, List.setIfInBounds_toArray, List.set_cons_succ, List.set_cons_zero]
        apply wpK_val
        · rfl
        · intro w' hw'
          go_simp
          first | exact rfl | exact ⟨rfl, hw'⟩
        simp only [Act.put, List.setIfInBounds_toArray, List.set_cons_succ, List.set_cons_zero]
        apply wpK_val
        · rfl
        · intro w' hw'
          go_simp
          first | exact rfl | exact ⟨rfl, hw'⟩
        simp only [Act.put, List.setIfInBounds_toArray, List.set_cons_succ, List.set_cons_zero]
        apply wpK_val
        · rfl
        · intro w' hw'
          go_simp
          exact (next_any (AesM.wd T k m) (AesM.wd T k l) T n (by omega) hlt (AesM.wd_bt HT.out HK.out (by have := HM.out; omega)) (AesM.wd_bt HT.out HK.out (by have := HL.out; omega)) HT.out g o w' (Nat.lt_of_lt_of_le hg (Nat.le_trans hb.out.size hw'.size)) (range_below (range_below HR.out hb.out hg) hw' (Nat.lt_of_lt_of_le hg hb.out.size))).mono fun e w2 h => ⟨h.1, hw'.trans (h.2.mono hw'.size)⟩
        simp only [Act.put, List.setIfInBounds_toArray, List.set_cons_succ, List.set_cons_zero]
        apply wpK_val
        · rfl
        · intro w' hw'
          go_simp
          first | exact rfl | exact ⟨rfl, hw'⟩
        simp only [Act.put, List.setIfInBounds_toArray, List.set_cons_succ, List.set_cons_zero]
        refine wpK_nil fun w5 hw5 => ?_
        have r1 := hid (b1.out.below hw5 b1.out.lt)
        have r2 := hid (b2.out.below hw5 b2.out.lt)
        have r3 := b3.out.below hw5 b3.out.lt
        have rb := hid (hb.out.trans (hw5.mono hb.out.size))
        clear b1 b2 b3 hb hw5 e1 e2 P1 P2 tm tl hs2
        have hfit := hid (show n * 4 + 4 ≤ 240 by omega)
        go_wp2_with ((with_reducible apply stAm tWd); rfl; rfl; exact r3; exact hfit.out)
        obtain ⟨x3, xb⟩ := r3.arPut (m := 4) (h := AesM.nxt T (AesM.wd T k m) (AesM.wd T k l) n) hfit.out
        go_roundw
        case rel =>
          refine ⟨n + 1, by omega, by go_num, hid (r1.out.below xb (by omega)), hid (r2.out.below xb (by omega)), hid ?_, hid (rb.out.trans (xb.mono (by omega)))⟩
          rw [← putA_next (o := n * 4) (Nat.mul_comm n 4) (h' := AesM.nxt T (AesM.wd T k m) (AesM.wd T k l) n) fun i hi => by rw [wd_W T k hi, AesM.wd_next T k (by omega) hi, HM.out, HL.out]]
          exact x3
        case measure => simp [intOf]; omega
    · have tn : decide ((n : Int) < 60) = false := by simp; omega
      have q3 := b3.out
      rw [upTo_all (by omega)] at q3
      have hz : Blk (wr.alloc (.cells (ar 240 fun _ => 0) 54)) wr.heap.size 54 (ar 240 fun _ => 0) := Blk.new _ _ _
      obtain ⟨g7, hg7⟩ : ∃ g7, g7 = wr.heap.size := ⟨_, rfl⟩
      go_upto_region 10 with ((with_reducible apply alA tKs))
      rw [← hg7] at hz ⊢
      generalize hw4 : World.alloc _ _ = w4 at hz ⊢
      have hg3 : w.heap.size + 2 < g7 := by rw [hg7]; exact q3.lt
      have d2 := hid (show Blk w4 (w.heap.size + 1) 54 (ar 240 fun _ => 0) by rw [← hw4]; exact b2.out.alloc _)
      have d3 := show Blk w4 (w.heap.size + 2) 89 (ar 240 (AesM.W T k)) by rw [← hw4]; exact q3.alloc _
      have db := hid (show Below w.heap.size w w4 by rw [← hw4]; exact hb.out.alloc (by omega) _)
      have d7 := hid hz
      clear hw4 hz b1 b2 b3 hb q3 hg7 tn hlt hn
      go_wp2_with ((with_reducible apply ldA tWs); rfl; exact d3)
      clear d3
      go_loopw [37] (fun i wr => ∃ n : Nat, n ≤ 60 ∧ i = .int .i64 n ∧ Hid (Blk wr (w.heap.size + 1) 54 (ar 240 fun _ => 0)) ∧ Hid (Blk wr g7 54 (ar 240 (upTo (4 * n) (fun _ => 0) (AesM.W T k)))) ∧ Hid (Below w.heap.size w wr)) (fun i _ => 60 - (intOf i).toNat)
      case atStart => exact ⟨0, by omega, rfl, d2, by rw [upTo_zero]; exact d7, db⟩
      case round =>
        clear d2 d7 db
        obtain ⟨n, hn, rfl, d2, d7, db⟩ := hrel
        by_cases hlt : n < 60
        · have tn : (n : Int) < 60 := by omega
          have hI := fun w => run_index_part (f := AesM.W T k) Try.underlying89 tWd (N := 240) rfl hlt w
          have hz : Blk (wr.alloc (.cells (ar 4 fun _ => 0) 88)) wr.heap.size 88 (ar 4 fun _ => 0) := Blk.new _ _ _
          obtain ⟨g9, hg9⟩ : ∃ g9, g9 = wr.heap.size := ⟨_, rfl⟩
          go_upto_region 13 with (first | (with_reducible apply alA tWd) | ((with_reducible apply stA tWd); rfl; rfl; exact hz))
          generalize hw4 : World.setRow _ _ _ = w4
          have hg79 : g7 < g9 := by rw [hg9]; exact d7.out.lt
          have c2 := hid (show Blk w4 (w.heap.size + 1) 54 (ar 240 fun _ => 0) by rw [← hw4]; exact (d2.out.alloc _).setRow_other (by have := d2.out.lt; omega) _)
          have c7 := hid (show Blk w4 g7 54 (ar 240 (upTo (4 * n) (fun _ => 0) (AesM.W T k))) by rw [← hw4]; exact (d7.out.alloc _).setRow_other (by omega) _)
          have c9 := hid (show Blk w4 g9 88 (ar 4 fun i => AesM.W T k (n * 4 + i)) by rw [← hw4, hg9]; exact hz.setRow_same _)
          have cb := hid (show Below w.heap.size w w4 by rw [← hw4]; exact below_setRow (db.out.alloc (by have := d2.out.lt; omega) _) (by have := d2.out.lt; omega) _)
          rw [← hg9]
          clear hw4 hz d2 d7 db hg9 hI
          obtain ⟨x, hx⟩ : ∃ x, x = n / 4 := ⟨_, rfl⟩
          obtain ⟨y, hy⟩ : ∃ y, y = n % 4 := ⟨_, rfl⟩
          obtain ⟨z, hz⟩ : ∃ z, z = y * 4 := ⟨_, rfl⟩
          have tx : (x : Int) < 15 := by omega
          have e1 := hid (show (n : Int).tdiv 4 = (x : Int) by rw [hx]; rfl)
          have e2 := hid (show IntKind.i64.wrap (x : Int) = (x : Int) from wr_nat rfl (by omega))
          have e3 := hid (show (n : Int).tmod 4 = (y : Int) by rw [hy]; rfl)
          have e4 := hid (show IntKind.i64.wrap ((y : Int) * 4) = (z : Int) from wr_nat (by omega) (by omega))
          have hz16 := hid (show z < 16 by omega)
          have hoff := hid (show x * 16 + z = 4 * n by omega)
          have hmin := hid (show 4 = Nat.min 4 (16 - z) from (Nat.min_eq_left (by omega)).symm)
          have hfit := hid (show x * 16 + z + 4 ≤ 240 by omega)
          clear hx hy hz
          refine wp_region_tail (C := Drew w4) 8 (by kernel_rfl) (by kernel_rfl) (by kernel_rfl) (Drew.refl _) ?_
          simp only [List.take_succ_cons, List.take_zero, List.drop_succ_cons, List.drop_zero]
          apply wpK_val
          · rfl
          · intro w' hw'
            go_simp
            first | exact rfl | exact ⟨rfl, hw'⟩
          simp only [Act.put, List.setIfInBounds_toArray, List.set_cons_succ, List.set_cons_zero]
          apply wpK_val
          · rfl
          · intro w' hw'
            have h1 : _ := e1.out
            have h2 : _ := e2.out
            go_simp
            first | exact rfl | exact ⟨rfl, hw'⟩
          simp only [Act.put, List.setIfInBounds_toArray, List.set_cons_succ, List.set_cons_zero]
          apply wpK_val
          · rfl
          · intro w' hw'
            go_simp
            first | exact rfl | exact ⟨rfl, hw'⟩
          simp only [Act.put, List.setIfInBounds_toArray, List.set_cons_succ, List.set_cons_zero]
          apply wpK_val
          · rfl
          · intro w' hw'
            go_simp
            first | exact rfl | exact ⟨rfl, hw'⟩
          simp only [Act.put, List.setIfInBounds_toArray, List.set_cons_succ, List.set_cons_zero]
          apply wpK_val
          · rfl
          · intro w' hw'
            have h1 : _ := e3.out
            go_simp
            first | exact rfl | exact ⟨rfl, hw'⟩
          simp only [Act.put, List.setIfInBounds_toArray, List.set_cons_succ, List.set_cons_zero]
          apply wpK_val
          · rfl
          · intro w' hw'
            have h1 : _ := e4.out
            go_simp
            first | exact rfl | exact ⟨rfl, hw'⟩
          simp only [Act.put, List.setIfInBounds_toArray, List.set_cons_succ, List.set_cons_zero]
          apply wpK_val
          · rfl
          · intro w' hw'
            have h1 : _ := sl_st (g := g7) (o := x * 16) hz16.out w'
            go_simp
            first | exact rfl | exact ⟨rfl, hw'⟩
          simp only [Act.put, List.setIfInBounds_toArray, List.set_cons_succ, List.set_cons_zero]
          apply wpK_val
          · rfl
          · intro w' hw'
            go_simp
            first | exact rfl | exact ⟨rfl, hw'⟩
          simp only [Act.put, List.setIfInBounds_toArray, List.set_cons_succ, List.set_cons_zero]
          refine wpK_nil fun w5 hw5 => ?_
          have d2 := hid (hw5.blk c2.out)
          have d7 := hw5.blk c7.out
          have d9 := hw5.blk c9.out
          have db := hid (hw5.below cb.out)
          have hr := d9.head
          clear c2 c7 c9 cb hw5 e1 e2 e3 e4 tx
          go_wp2_with ((with_reducible apply wcopyA); rfl; rfl; exact d7; exact hr; exact hmin.out; exact hfit.out)
          go_roundw
          case rel =>
            refine ⟨n + 1, by omega, by go_num, hid (d2.out.setRow_other (by omega) _), hid ?_, hid (below_setRow db.out (by omega) _)⟩
            rw [← putA_next hoff.out (h' := fun i => AesM.W T k (n * 4 + i)) fun i hi => by rw [Nat.mul_comm n 4]]
            exact d7.setRow_same _
          case measure => simp [intOf]; omega
        · have tn : decide ((n : Int) < 60) = false := by simp; omega
          have c7 := d7.out
          have c2 := d2.out
          rw [upTo_all (by omega)] at c7
          go_wp2_with (first | ((with_reducible apply ldA tKs); rfl; exact c7) | ((with_reducible apply stA tKs); rfl; rfl; exact c2))
          apply ret_ar tKs Try.results25
          · rfl
          · rfl
          · exact c2.setRow_same _
          exact ⟨rfl, below_setRow db.out (by omega) _⟩
end AesP
end Go.Proofs.Ytkcfonlondlmeaa
namespace Go.Proofs.Ytkcfonlondlmeaa
open Go.RowKit
/-- n sectors, one behind the other. -/
def secs (n : Nat) (F : Nat → Nat → Nat) : Array Value := row (n * 64) fun j => .int .u8 (F (j / 64) (j % 64))
theorem size_secs {n : Nat} {F : Nat → Nat → Nat} : (secs n F).size = n * 64 := size_row
theorem get_secs {n : Nat} {F : Nat → Nat → Nat} {i k : Nat} (hi : i < n) (hk : k < 64) : (secs n F)[i * 64 + k]? = some (.int .u8 (F i k)) := by
  unfold secs
  rw [get_row_lt (by omega)]
  rw [show (i * 64 + k) / 64 = i by omega, show (i * 64 + k) % 64 = k by omega]
theorem secs_ext {n : Nat} {F G : Nat → Nat → Nat} (h : ∀ i k, i < n → k < 64 → F i k = G i k) : secs n F = secs n G :=
  row_ext fun j hj => by rw [h (j / 64) (j % 64) (by omega) (Nat.mod_lt _ (by omega))]
theorem get_sec_list {f : Nat → Nat} {j : Nat} {v : Value} (h : (sec f).toList[j]? = some v) : j < 64 ∧ v = .int .u8 (f j) := by
  rw [Array.getElem?_toList] at h
  unfold sec at h
  rw [get_row] at h
  split at h
  · exact ⟨‹_›, (Option.some.inj h).symm⟩
  · cases h
theorem range_secs {w : World} {g n i : Nat} {t : TypeId} {F : Nat → Nat → Nat} (hb : Blk w g t (secs n F)) (hi : i < n) : w.rangeAt g (0 + i * 64) (sec (F i)).toList := fun j v hv => by
  obtain ⟨hj, rfl⟩ := get_sec_list hv
  rw [hb.cell, Nat.zero_add]
  exact get_secs hi hj

theorem extract_secs {n i : Nat} {F : Nat → Nat → Nat} (hi : i < n) : (secs n F).extract (i * 64) (i * 64 + 64) = sec (F i) := by
  apply Array.ext_getElem?
  intro k
  rw [Array.getElem?_extract, size_secs]
  unfold sec
  rw [get_row]
  by_cases hk : k < 64
  · rw [if_pos hk, if_pos (by omega)]
    exact get_secs hi hk
  · rw [if_neg hk, if_neg (by omega)]
theorem secs_one {n : Nat} {F : Nat → Nat → Nat} : (secs n F).all (·.oneCell') = true := row_one fun _ _ => rfl
theorem secs_set {n i k v : Nat} {F : Nat → Nat → Nat} (hk : k < 64) : (secs n F).setIfInBounds (i * 64 + k) (.int .u8 v) = secs n fun j l => if j = i ∧ l = k then v else F j l := by
  unfold secs
  rw [row_set]
  refine row_ext fun j _ => ?_
  by_cases h : j = i * 64 + k
  · have e1 : j / 64 = i := by omega
    have e2 : j % 64 = k := by omega
    simp [h, show (i * 64 + k) / 64 = i by omega, show (i * 64 + k) % 64 = k by omega]
  · have e : ¬ (j / 64 = i ∧ j % 64 = k) := by omega
    simp [h, e]
theorem Blk.at_ {w : World} {g n i k o : Nat} {t : TypeId} {F : Nat → Nat → Nat} (hb : Blk w g t (secs n F)) (hi : i < n) (hk : k < 64) (ho : o = i * 64 + k) : w.cell? ⟨g, o, none⟩ = some (.int .u8 (F i k : Nat)) := by
  rw [ho, hb.cell]; exact get_secs hi hk
theorem fold_row (off N : Nat) : ∀ (cs : List Value) (k : Nat) (g : Nat → Value),
    (cs.zipIdx k).foldl (fun acc x => acc.setIfInBounds (off + x.2) x.1) (row N g) = row N fun j => if off + k ≤ j ∧ j < off + k + cs.length then cs.getD (j - (off + k)) undef else g j
  | [], k, g => by
    simp only [List.zipIdx_nil, List.foldl_nil, List.length_nil, Nat.add_zero]
    exact row_ext fun j _ => by rw [if_neg (by omega)]
  | c :: cs, k, g => by
    rw [List.zipIdx_cons, List.foldl_cons, row_set, fold_row off N cs (k + 1)]
    refine row_ext fun j _ => ?_
    simp only [List.length_cons]
    by_cases h1 : j = off + k
    · subst h1
      rw [if_neg (by omega), if_pos rfl, if_pos (by omega), Nat.sub_self]; rfl
    · by_cases h2 : off + (k + 1) ≤ j ∧ j < off + (k + 1) + cs.length
      · rw [if_pos h2, if_pos (by omega), show j - (off + k) = (j - (off + (k + 1))) + 1 by omega]; rfl
      · rw [if_neg h2, if_neg h1]
        by_cases h3 : off + k ≤ j ∧ j < off + k + (cs.length + 1)
        · omega
        · rw [if_neg h3]
/-- The parts of a literal, from place i on. -/
def partsFrom : Nat → List (Nat → Nat) → List (Nat × Value)
  | _, [] => []
  | i, f :: l => (i, .agg (sec f)) :: partsFrom (i + 1) l
theorem getD_sec_list {f : Nat → Nat} {j : Nat} (h : j < 64) : (sec f).toList.getD j undef = .int .u8 (f j) := by
  rw [List.getD_eq_getElem?_getD, Array.getElem?_toList, get_sec h]; rfl
theorem fill_secs (N : Nat) {place : Nat → Option (Nat × Nat)} (hpl : ∀ i, i < N → place i = some (i * 64, 64)) : ∀ (l : List (Nat → Nat)) (i : Nat) (g : Nat → Value), i + l.length ≤ N →
    Instr.fill place (row (N * 64) g) (partsFrom i l) = some (row (N * 64) fun j => if i * 64 ≤ j ∧ j < (i + l.length) * 64 then .int .u8 (l.getD (j / 64 - i) (fun _ => 0) (j % 64)) else g j)
  | [], i, g, _ => by
    simp only [partsFrom, Instr.fill, List.length_nil, Nat.add_zero, Option.some.injEq]
    exact row_ext fun j _ => by rw [if_neg (by omega)]
  | f :: l, i, g, h => by
    simp only [List.length_cons] at h
    simp only [partsFrom, Instr.fill, Value.cells, size_sec, size_row, hpl i (by omega)]
    rw [if_neg (by simp; omega)]
    have e : (sec f).zipIdx.foldl (fun cs (c, j) => cs.setIfInBounds (i * 64 + j) c) (row (N * 64) g) = row (N * 64) fun j => if i * 64 ≤ j ∧ j < i * 64 + 64 then .int .u8 (f (j - i * 64)) else g j := by
      rw [← Array.foldl_toList, Array.toList_zipIdx]
      refine (fold_row (i * 64) (N * 64) (sec f).toList 0 g).trans ?_
      simp only [Array.length_toList, size_sec, Nat.add_zero]
      refine row_ext fun j _ => ?_
      by_cases hj : i * 64 ≤ j ∧ j < i * 64 + 64
      · rw [if_pos hj, if_pos hj, getD_sec_list (by omega)]
      · rw [if_neg hj, if_neg hj]
    rw [e, fill_secs N hpl l (i + 1) _ (by omega)]
    refine congrArg some (row_ext fun j _ => ?_)
    simp only [List.length_cons]
    by_cases h1 : (i + 1) * 64 ≤ j ∧ j < (i + 1 + l.length) * 64
    · rw [if_pos h1, if_pos (by omega), show j / 64 - i = (j / 64 - (i + 1)) + 1 by omega]; rfl
    · rw [if_neg h1]
      by_cases h2 : i * 64 ≤ j ∧ j < i * 64 + 64
      · rw [if_pos h2, if_pos (by omega), show j / 64 - i = 0 by omega, show j - i * 64 = j % 64 by omega]; rfl
      · rw [if_neg h2, if_neg (by omega)]
theorem range_row {n : Nat} {f : Nat → Value} : (Array.range n).map f = row n f := by
  apply Array.ext_getElem?
  intro k
  rw [get_row]
  by_cases h : k < n <;> simp [h]
section
variable {P : Program} {ops : Array Oper} {Q : Exit → Act → World → Prop} {a : Act} {w : World} {rest : List Oper} {dst : Option Tmp} {ty : TypeId} {pos : String} {after : Array Edge}
/-- A literal of n sectors: a block of its own. -/
theorem run_lit {T e : TypeId} {n : Nat} {parts : Array (Nat × Value)} {ie : TypeInfo} {z : Value} (l : List (Nat → Nat)) (hl : l.length = n) (h0 : 0 < n) (h1 : n ≤ 1000) (hp : parts.toList = partsFrom 0 l)
    (hu : P.underlying T = some (.slice e)) (hie : P.info? e = some ie) (hz : ie.zero = some z) (hs : ie.size = 64) (w : World) :
    (Instr.buildSlice T n parts).run P w = .ok (.slice (some ⟨w.heap.size, 0, none⟩) n n) (w.alloc (.cells (secs n fun i => l.getD i fun _ => 0) e)) := by
  refine run_buildSlice w T e n parts _ ie z hu hie hz (by rw [hs]; omega) (by rw [hs]; omega) ?_
  rw [hs, hp, range_row, fill_secs n (fun _ _ => rfl) l 0 _ (by omega)]
  refine congrArg some (row_ext fun j hj => ?_)
  rw [if_pos (by omega), Nat.sub_zero]
end
end Go.Proofs.Ytkcfonlondlmeaa
