/-
  Contracts of aes.mix and aes.mixBack.
-/
import Derived.Test.YtfnepbkgmopjcaaAesS
namespace Go.Proofs.Ytfnepbkgmopjcaa
open Go.ChangeShapes Go.WideShapes Go.ChangeAt Go.RowKit
open AesM (Bt)
attribute [local go_sem] Gives
namespace AesP
theorem xor_bt {f g : Nat → Nat} (hf : Bt f) (hg : Bt g) : Bt (AesM.add f g) := fun k => AesM.xor_lt (hf k) (hg k)
theorem mix_bt {f : Nat → Nat} (hf : Bt f) : Bt (AesM.mix f) := fun _ =>
  AesM.xor_lt (AesM.xor_lt (hf _) (AesM.xor_lt (AesM.xor_lt (AesM.xor_lt (hf _) (hf _)) (hf _)) (hf _))) (AesM.dbl_lt (AesM.xor_lt (hf _) (hf _)))
theorem mix_at (f : Nat → Nat) {q i : Nat} (hq : q % 4 = 0) (hi : i < 4) :
    (f (q + i) ^^^ (f q ^^^ f (q + 1) ^^^ f (q + 2) ^^^ f (q + 3))) ^^^ AesM.dbl (f (q + i) ^^^ f (q + (i + 1) % 4)) = AesM.mix f (q + i) := by
  unfold AesM.mix
  rw [show (q + i) / 4 * 4 = q by omega, show (q + i) % 4 = i by omega]
set_option maxHeartbeats 400000 in
set_option maxRecDepth 100000 in
theorem mix_any (f : Nat → Nat) (hf : Bt f) (w : World) :
    Calls Try.prog 31 #[.agg (ar 16 f)] w fun e w' => e = .returned (.agg (ar 16 (AesM.mix f))) ∧ Below w.heap.size w w' := by
  have HF := hid hf
  clear hf
  go_enter Try.func31, Try.ntmps31
  go_wp2_with (with_reducible apply alA tSt)
  generalize hw3 : World.alloc (World.alloc (World.alloc w _) _) _ = w3
  have b1 : Blk w3 w.heap.size 59 (ar 16 f) := by rw [← hw3]; exact ((Blk.new _ _ _).alloc _).alloc _
  have b2 : Blk w3 (w.heap.size + 1) 59 (ar 16 fun _ => 0) := by rw [← hw3]; exact (Blk.top rfl (by simp)).alloc _
  have b3 : Blk w3 (w.heap.size + 2) 59 (ar 16 fun _ => 0) := by rw [← hw3]; exact Blk.top rfl (by simp)
  have hb : Below w.heap.size w w3 := by rw [← hw3]; exact (((Below.refl _ _).alloc (Nat.le_refl _) _).alloc (by simp) _).alloc (by simp; omega) _
  clear hw3
  go_loopw [4] (fun i wr => ∃ q : Nat, q ≤ 16 ∧ q % 4 = 0 ∧ i = .int .i64 q ∧ Blk wr w.heap.size 59 (ar 16 f) ∧ Blk wr (w.heap.size + 1) 59 (ar 16 fun _ => 0) ∧ Blk wr (w.heap.size + 2) 59 (ar 16 (upTo q (fun _ => 0) (AesM.mix f))) ∧ Below w.heap.size w wr) (fun i _ => 16 - (intOf i).toNat)
  case atStart => exact ⟨0, by omega, rfl, rfl, b1, b2, by rw [upTo_zero]; exact b3, hb⟩
  case round =>
    clear b1 b2 b3 hb
    obtain ⟨q, hk, hq4, rfl, b1, b2, b3, hb⟩ := hrel
    by_cases hlt : q < 16
    · have tk : (q : Int) < 16 := by omega
      have HQ := hid hq4
      have hq12 : q ≤ 12 := by omega
      obtain ⟨q1, hq1⟩ : ∃ q1, q1 = q + 1 := ⟨_, rfl⟩
      obtain ⟨q2, hq2⟩ : ∃ q2, q2 = q + 2 := ⟨_, rfl⟩
      obtain ⟨q3, hq3⟩ : ∃ q3, q3 = q + 3 := ⟨_, rfl⟩
      have t1 : (q1 : Int) < 16 := by omega
      have t2 : (q2 : Int) < 16 := by omega
      have t3 : (q3 : Int) < 16 := by omega
      have e1 := hid (show IntKind.i64.wrap ((q : Int) + 1) = (q1 : Int) from wr_nat (by omega) (by omega))
      have e2 := hid (show IntKind.i64.wrap ((q : Int) + 2) = (q2 : Int) from wr_nat (by omega) (by omega))
      have e3 := hid (show IntKind.i64.wrap ((q : Int) + 3) = (q3 : Int) from wr_nat (by omega) (by omega))
      have C0 := hid ((b1.cell q).trans (get_ar (n := 16) (by omega)))
      have C1 := hid ((b1.cell q1).trans (get_ar (n := 16) (by omega)))
      have C2 := hid ((b1.cell q2).trans (get_ar (n := 16) (by omega)))
      have C3 := hid ((b1.cell q3).trans (get_ar (n := 16) (by omega)))
      have H1 := hid hq1
      have H2 := hid hq2
      have H3 := hid hq3
      clear hq1 hq2 hq3 hq4
      go_wp2_with fail
      refine wp_region_tail (C := Drew wr) 18 (by kernel_rfl) (by kernel_rfl) (by kernel_rfl) (Drew.refl _) ?_
      simp only [List.take_succ_cons, List.take_zero, List.drop_succ_cons, List.drop_zero]
      apply wpK_val
      · rfl
      · intro w' hw'
        go_simp
        first | exact rfl | exact ⟨rfl, hw'⟩
      simp only [Act.put, List.setIfInBounds_toArray, List.set_cons_succ, List.set_cons_zero]
      apply wpK_val
      · rfl
      · intro w' hw'
        go_simp
        first | exact rfl | exact ⟨rfl, hw'⟩
      simp only [Act.put, List.setIfInBounds_toArray, List.set_cons_succ, List.set_cons_zero]
      apply wpK_val
      · rfl
      · intro w' hw'
        have hcell := hw'.cell C0.out
        go_simp
        first | exact rfl | exact ⟨rfl, hw'⟩
      simp only [Act.put, List.setIfInBounds_toArray, List.set_cons_succ, List.set_cons_zero]
      apply wpK_val
      · rfl
      · intro w' hw'
        go_simp
        first | exact rfl | exact ⟨rfl, hw'⟩
      simp only [Act.put, List.setIfInBounds_toArray, List.set_cons_succ, List.set_cons_zero]
      apply wpK_val
      · rfl
      · intro w' hw'
        have h1 : _ := e1.out
        go_simp
        first | exact rfl | exact ⟨rfl, hw'⟩
      simp only [Act.put, List.setIfInBounds_toArray, List.set_cons_succ, List.set_cons_zero]
      apply wpK_val
      · rfl
      · intro w' hw'
        go_simp
        first | exact rfl | exact ⟨rfl, hw'⟩
      simp only [Act.put, List.setIfInBounds_toArray, List.set_cons_succ, List.set_cons_zero]
      apply wpK_val
      · rfl
      · intro w' hw'
        have hcell := hw'.cell C1.out
        go_simp
        first | exact rfl | exact ⟨rfl, hw'⟩
      simp only [Act.put, List.setIfInBounds_toArray, List.set_cons_succ, List.set_cons_zero]
      apply wpK_val
      · rfl
      · intro w' hw'
        have h1 : _ := u8_xor_nat _ _ (HF.out q) (HF.out q1)
        go_simp
        first | exact rfl | exact ⟨rfl, hw'⟩
      simp only [Act.put, List.setIfInBounds_toArray, List.set_cons_succ, List.set_cons_zero]
      apply wpK_val
      · rfl
      · intro w' hw'
        go_simp
        first | exact rfl | exact ⟨rfl, hw'⟩
      simp only [Act.put, List.setIfInBounds_toArray, List.set_cons_succ, List.set_cons_zero]
      apply wpK_val
      · rfl
      · intro w' hw'
        have h1 : _ := e2.out
        go_simp
        first | exact rfl | exact ⟨rfl, hw'⟩
      simp only [Act.put, List.setIfInBounds_toArray, List.set_cons_succ, List.set_cons_zero]
      apply wpK_val
      · rfl
      · intro w' hw'
        go_simp
        first | exact rfl | exact ⟨rfl, hw'⟩
      simp only [Act.put, List.setIfInBounds_toArray, List.set_cons_succ, List.set_cons_zero]
      apply wpK_val
      · rfl
      · intro w' hw'
        have hcell := hw'.cell C2.out
        go_simp
        first | exact rfl | exact ⟨rfl, hw'⟩
      simp only [Act.put, List.setIfInBounds_toArray, List.set_cons_succ, List.set_cons_zero]
      apply wpK_val
      · rfl
      · intro w' hw'
        have h1 : _ := u8_xor_nat _ _ (AesM.xor_lt (HF.out q) (HF.out q1)) (HF.out q2)
        go_simp
        first | exact rfl | exact ⟨rfl, hw'⟩
      simp only [Act.put, List.setIfInBounds_toArray, List.set_cons_succ, List.set_cons_zero]
      apply wpK_val
      · rfl
      · intro w' hw'
        go_simp
        first | exact rfl | exact ⟨rfl, hw'⟩
      simp only [Act.put, List.setIfInBounds_toArray, List.set_cons_succ, List.set_cons_zero]
      apply wpK_val
      · rfl
      · intro w' hw'
        have h1 : _ := e3.out
        go_simp
        first | exact rfl | exact ⟨rfl, hw'⟩
      simp only [Act.put, List.setIfInBounds_toArray, List.set_cons_succ, List.set_cons_zero]
      apply wpK_val
      · rfl
      · intro w' hw'
        go_simp
        first | exact rfl | exact ⟨rfl, hw'⟩
      simp only [Act.put, List.setIfInBounds_toArray, List.set_cons_succ, List.set_cons_zero]
      apply wpK_val
      · rfl
      · intro w' hw'
        have hcell := hw'.cell C3.out
        go_simp
        first | exact rfl | exact ⟨rfl, hw'⟩
      simp only [Act.put, List.setIfInBounds_toArray, List.set_cons_succ, List.set_cons_zero]
      apply wpK_val
      · rfl
      · intro w' hw'
        have h1 : _ := u8_xor_nat _ _ (AesM.xor_lt (AesM.xor_lt (HF.out q) (HF.out q1)) (HF.out q2)) (HF.out q3)
        go_simp
        first | exact rfl | exact ⟨rfl, hw'⟩
      simp only [Act.put, List.setIfInBounds_toArray, List.set_cons_succ, List.set_cons_zero]
      refine wpK_nil fun w5 hw5 => ?_
      have r1 := hid (hw5.blk b1)
      have r2 := hid (hw5.blk b2)
      have r3 := hid (hw5.blk b3)
      have rb := hid (hw5.below hb)
      clear b1 b2 b3 hb hw5 C0 C1 C2 C3 e1 e2 e3 t1 t2 t3
      have HA : f q ^^^ f q1 ^^^ f q2 ^^^ f q3 = f q ^^^ f (q + 1) ^^^ f (q + 2) ^^^ f (q + 3) := by rw [H1.out, H2.out, H3.out]
      rw [HA]
      clear HA H1 H2 H3
      obtain ⟨al, hal⟩ : ∃ al, al = f q ^^^ f (q + 1) ^^^ f (q + 2) ^^^ f (q + 3) := ⟨_, rfl⟩
      rw [← hal]
      have HAL := hid hal
      have hal256 : al < 256 := by rw [hal]; exact AesM.xor_lt (AesM.xor_lt (AesM.xor_lt (HF.out q) (HF.out _)) (HF.out _)) (HF.out _)
      have HAL2 := hid hal256
      clear hal hal256
      go_wp2_with fail
      go_loopw [31] (fun i wk => ∃ i' : Nat, i' ≤ 4 ∧ i = .int .i64 i' ∧ Hid (Blk wk w.heap.size 59 (ar 16 f)) ∧ Hid (Blk wk (w.heap.size + 1) 59 (ar 16 fun _ => 0)) ∧ Hid (Blk wk (w.heap.size + 2) 59 (ar 16 (upTo (q + i') (fun _ => 0) (AesM.mix f)))) ∧ Hid (Below w.heap.size w wk)) (fun i _ => 4 - (intOf i).toNat)
      case atStart => exact ⟨0, by omega, rfl, r1, r2, r3, rb⟩
      case round =>
        clear r1 r2 r3 rb
        obtain ⟨i, hi, rfl, r1, r2, r3, rb⟩ := hrel
        by_cases hli : i < 4
        · have ti : (i : Int) < 4 := by omega
          obtain ⟨n, hn⟩ : ∃ n, n = q + i := ⟨_, rfl⟩
          obtain ⟨i1, hi1⟩ : ∃ i1, i1 = i + 1 := ⟨_, rfl⟩
          obtain ⟨j, hj⟩ : ∃ j, j = i1 % 4 := ⟨_, rfl⟩
          obtain ⟨m, hm⟩ : ∃ m, m = q + j := ⟨_, rfl⟩
          have hn16 : n < 16 := by omega
          have hm16 : m < 16 := by omega
          have tn : (n : Int) < 16 := by omega
          have tm : (m : Int) < 16 := by omega
          have e1 := hid (show IntKind.i64.wrap ((q : Int) + (i : Int)) = (n : Int) from wr_nat (by omega) (by omega))
          have e2 := hid (show IntKind.i64.wrap ((i : Int) + 1) = (i1 : Int) from wr_nat (by omega) (by omega))
          have e3 := hid (show ((i1 : Int)).tmod 4 = (j : Int) by rw [hj]; rfl)
          have e4 := hid (show IntKind.i64.wrap ((q : Int) + (j : Int)) = (m : Int) from wr_nat (by omega) (by omega))
          have C0 := hid ((r1.out.cell n).trans (get_ar hn16))
          have C1 := hid ((r1.out.cell m).trans (get_ar hm16))
          have HN := hid hn
          have HM := hid (show m = q + (i + 1) % 4 by rw [hm, hj, hi1])
          clear hn hm hj hi1
          go_wp2_with fail
          refine wp_region_tail (C := Drew wr) 14 (by kernel_rfl) (by kernel_rfl) (by kernel_rfl) (Drew.refl _) ?_
          simp only [List.take_succ_cons, List.take_zero, List.drop_succ_cons, List.drop_zero]
          apply wpK_val
          · rfl
          · intro w' hw'
            go_simp
            first | exact rfl | exact ⟨rfl, hw'⟩
          simp only [Act.put, List.setIfInBounds_toArray, List.set_cons_succ, List.set_cons_zero]
          apply wpK_val
          · rfl
          · intro w' hw'
            go_simp
            first | exact rfl | exact ⟨rfl, hw'⟩
          simp only [Act.put, List.setIfInBounds_toArray, List.set_cons_succ, List.set_cons_zero]
          apply wpK_val
          · rfl
          · intro w' hw'
            have h1 : _ := e1.out
            go_simp
            first | exact rfl | exact ⟨rfl, hw'⟩
          simp only [Act.put, List.setIfInBounds_toArray, List.set_cons_succ, List.set_cons_zero]
          apply wpK_val
          · rfl
          · intro w' hw'
            go_simp
            first | exact rfl | exact ⟨rfl, hw'⟩
          simp only [Act.put, List.setIfInBounds_toArray, List.set_cons_succ, List.set_cons_zero]
          apply wpK_val
          · rfl
          · intro w' hw'
            have hcell := hw'.cell C0.out
            go_simp
            first | exact rfl | exact ⟨rfl, hw'⟩
          simp only [Act.put, List.setIfInBounds_toArray, List.set_cons_succ, List.set_cons_zero]
          apply wpK_val
          · rfl
          · intro w' hw'
            go_simp
            first | exact rfl | exact ⟨rfl, hw'⟩
          simp only [Act.put, List.setIfInBounds_toArray, List.set_cons_succ, List.set_cons_zero]
          apply wpK_val
          · rfl
          · intro w' hw'
            go_simp
            first | exact rfl | exact ⟨rfl, hw'⟩
          simp only [Act.put, List.setIfInBounds_toArray, List.set_cons_succ, List.set_cons_zero]
          apply wpK_val
          · rfl
          · intro w' hw'
            have h1 : _ := e2.out
            go_simp
            first | exact rfl | exact ⟨rfl, hw'⟩
          simp only [Act.put, List.setIfInBounds_toArray, List.set_cons_succ, List.set_cons_zero]
          apply wpK_val
          · rfl
          · intro w' hw'
            have h1 : _ := e3.out
            go_simp
            first | exact rfl | exact ⟨rfl, hw'⟩
          simp only [Act.put, List.setIfInBounds_toArray, List.set_cons_succ, List.set_cons_zero]
          apply wpK_val
          · rfl
          · intro w' hw'
            have h1 : _ := e4.out
            go_simp
            first | exact rfl | exact ⟨rfl, hw'⟩
          simp only [Act.put, List.setIfInBounds_toArray, List.set_cons_succ, List.set_cons_zero]
          apply wpK_val
          · rfl
          · intro w' hw'
            go_simp
            first | exact rfl | exact ⟨rfl, hw'⟩
          simp only [Act.put, List.setIfInBounds_toArray, List.set_cons_succ, List.set_cons_zero]
          apply wpK_val
          · rfl
          · intro w' hw'
            have hcell := hw'.cell C1.out
            go_simp
            first | exact rfl | exact ⟨rfl, hw'⟩
          simp only [Act.put, List.setIfInBounds_toArray, List.set_cons_succ, List.set_cons_zero]
          apply wpK_val
          · rfl
          · intro w' hw'
            go_simp
            first | exact rfl | exact ⟨rfl, hw'⟩
          simp only [Act.put, List.setIfInBounds_toArray, List.set_cons_succ, List.set_cons_zero]
          apply wpK_val
          · rfl
          · intro w' hw'
            go_simp
            first | exact rfl | exact ⟨rfl, hw'⟩
          simp only [Act.put, List.setIfInBounds_toArray, List.set_cons_succ, List.set_cons_zero]
          refine wpK_nil fun w5 hw5 => ?_
          have s1 := hid (hw5.blk r1.out)
          have s2 := hid (hw5.blk r2.out)
          have s3 := hid (hw5.blk r3.out)
          have sb := hid (hw5.below rb.out)
          clear r1 r2 r3 rb hw5 e2 e3 e4 tm
          have hx1 := AesM.xor_lt (HF.out n) HAL2.out
          have X1 := hid (u8_xor_nat _ _ (HF.out n) HAL2.out)
          have X2 := hid (u8_xor_nat _ _ (HF.out n) (HF.out m))
          have X3 := hid (u8_xor_nat _ _ hx1 (AesM.dbl_lt (AesM.xor_lt (HF.out n) (HF.out m))))
          have X4 := hid (AesM.xor_lt (HF.out n) (HF.out m))
          clear hx1
          have c3 := (s3.out.cell n).trans (get_ar hn16)
          have f3 := s3.out.frozen n
          have y1 := X1.out
          have y2 := X2.out
          have y3 := X3.out
          have y4 : (q : Int) + (i : Int) = (n : Int) := by have := HN.out; omega
          go_wp2_with ((with_reducible refine (double_any _ X4.out _).mono ?_); rintro e w' ⟨rfl, rfl⟩)
          go_roundw
          case rel =>
            have HV : f n ^^^ al ^^^ AesM.dbl (f n ^^^ f m) = AesM.mix f n := by
              rw [HM.out, HN.out, HAL.out]
              exact mix_at f HQ.out hli
            rw [HV]
            have h3 := s3.out
            rw [← HN.out] at h3
            exact ⟨i + 1, by omega, by go_num, hid (s1.out.setCell_other (by simp; omega) _), hid (s2.out.setCell_other (by simp) _), hid (by rw [show q + (i + 1) = n + 1 by have := HN.out; omega]; exact upTo_step (h3.setCell_same n _)), hid (sb.out.setCell (by simp; omega) _)⟩
          case measure => simp [intOf]; omega
        · have ti : decide ((i : Int) < 4) = false := by simp; omega
          obtain rfl : i = 4 := by omega
          have HQ4 := HQ.out
          go_wp2_with fail
          go_roundw
          case rel => exact ⟨q + 4, by omega, by omega, by go_num, r1.out, r2.out, r3.out, rb.out⟩
          case measure => simp [intOf]; omega
    · have tk : decide ((q : Int) < 16) = false := by simp; omega
      rw [upTo_all (by omega)] at b3
      clear b1
      go_wp2_with (first | ((with_reducible apply ldA tSt); rfl; assumption) | ((with_reducible apply stA tSt); rfl; rfl; assumption))
      apply ret_ar tSt Try.results31
      · rfl
      · rfl
      · exact b2.setRow_same _
      exact ⟨rfl, below_setRow hb (by omega) _⟩
end AesP
end Go.Proofs.Ytfnepbkgmopjcaa
