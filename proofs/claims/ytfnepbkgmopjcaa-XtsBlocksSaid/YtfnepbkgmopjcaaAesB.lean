/-
  Contracts of aes.mixBack, aes.inverses and aes.newBox.
-/
import Derived.Test.YtfnepbkgmopjcaaAesX
namespace Go.Proofs.Ytfnepbkgmopjcaa
open Go.ChangeShapes Go.WideShapes Go.ChangeAt Go.RowKit
open AesM (Bt)
attribute [local go_sem] Gives
namespace AesP
set_option maxRecDepth 100000 in
theorem mixB_any (f : Nat → Nat) (hf : Bt f) (w : World) :
    Calls Try.prog 43 #[.agg (ar 16 f)] w fun e w' => e = .returned (.agg (ar 16 (AesM.mixB f))) ∧ Below w.heap.size w w' := by
  have HF := hid hf
  clear hf
  go_enter Try.func43, Try.ntmps43
  go_upto_region 1 with (with_reducible apply alA tSt)
  generalize hw3 : World.alloc (World.alloc w _) _ = w3
  have b1 : Blk w3 w.heap.size 59 (ar 16 f) := by rw [← hw3]; exact (Blk.new _ _ _).alloc _
  have b2 : Blk w3 (w.heap.size + 1) 59 (ar 16 fun _ => 0) := by rw [← hw3]; exact Blk.top rfl (by simp)
  have hb : Below w.heap.size w w3 := by rw [← hw3]; exact ((Below.refl _ _).alloc (Nat.le_refl _) _).alloc (by simp) _
  clear hw3
  go_wp2_with ((with_reducible apply ldA tSt); rfl; exact b1)
  refine (mix_any _ HF.out _).mono ?_
  rintro e w4 ⟨rfl, h4⟩
  go_wp2_with fail
  refine (mix_any _ (mix_bt HF.out) _).mono ?_
  rintro e w5 ⟨rfl, h5⟩
  go_wp2_with fail
  refine (mix_any _ (mix_bt (mix_bt HF.out)) _).mono ?_
  rintro e w6 ⟨rfl, h6⟩
  have hs3 := b2.lt
  have b6 : Blk w6 (w.heap.size + 1) 59 (ar 16 fun _ => 0) := ((b2.below h4 b2.lt).below h5 (by have := h4.size; omega)).below h6 (by have := h4.size; have := h5.size; omega)
  have hb6 : Below w.heap.size w w6 := ((hb.trans (h4.mono hb.size)).trans (h5.mono (by have := h4.size; omega))).trans (h6.mono (by have := h4.size; have := h5.size; omega))
  clear h4 h5 h6 b1 b2 hb hs3
  go_wp2_with ((with_reducible apply stA tSt); rfl; rfl; exact b6)
  apply ret_ar tSt Try.results43
  · rfl
  · rfl
  · exact b6.setRow_same _
  exact ⟨rfl, below_setRow hb6 (by omega) _⟩
theorem tPw : ArT 100 255 := ⟨by kernel_rfl, ⟨_, Try.underlying100, rfl⟩, (zero_of_info (P := Try.prog) (t := 100) (v := .agg (ar 255 fun _ => 0)) (n := 255) (by kernel_rfl)).1⟩
theorem uPw : Try.prog.underlying 100 = some (.array 255 5) := Try.underlying100
set_option maxRecDepth 100000 in
theorem inverses_any (w : World) :
    Calls Try.prog 44 #[] w fun e w' => e = .returned (.agg (ar 256 AesM.invF)) ∧ Below w.heap.size w w' := by
  go_enter Try.func44, Try.ntmps44
  go_upto_region 3 with (first | (with_reducible apply alA tTb) | (with_reducible apply alA tPw))
  generalize hw3 : World.alloc (World.alloc w _) _ = w3
  have b1 : Blk w3 w.heap.size 57 (ar 256 fun _ => 0) := by rw [← hw3]; exact (Blk.new _ _ _).alloc _
  have b2 : Blk w3 (w.heap.size + 1) 100 (ar 255 fun _ => 0) := by rw [← hw3]; exact Blk.top rfl (by simp)
  have hb : Below w.heap.size w w3 := by rw [← hw3]; exact ((Below.refl _ _).alloc (Nat.le_refl _) _).alloc (by simp) _
  have hs3 : w3.heap.size = w.heap.size + 2 := by rw [← hw3]; simp
  clear hw3
  go_wp2_with fail
  go_loopw [2, 7] (fun p i wr => ∃ k : Nat, k ≤ 255 ∧ p = .int .u8 (AesM.pw k : Nat) ∧ i = .int .i64 k ∧ Blk wr w.heap.size 57 (ar 256 fun _ => 0) ∧ Blk wr (w.heap.size + 1) 100 (ar 255 (upTo k (fun _ => 0) AesM.pw)) ∧ Below w.heap.size w wr ∧ wr.heap.size = w.heap.size + 2) (fun _ i _ => 255 - (intOf i).toNat)
  case atStart => exact ⟨0, by omega, rfl, rfl, b1, by rw [upTo_zero]; exact b2, hb, hs3⟩
  case round =>
    clear b1 b2 hb hs3
    obtain ⟨k, hk, rfl, rfl, b1, b2, hb, hs⟩ := hrel
    have hp := AesM.pw_lt k
    by_cases hlt : k < 255
    · have tk : (k : Int) < 255 := by omega
      have c2 : wr.cell? ⟨w.heap.size + 1, k, none⟩ = some (.int .u8 (0 : Nat)) := by rw [b2.cell, get_ar hlt, upTo_at]
      have c3 := b2.frozen k
      have X := u8_xor_nat _ _ hp (AesM.dbl_lt hp)
      go_wp2_with ((with_reducible refine (double_any _ hp _).mono ?_); rintro e w' ⟨rfl, rfl⟩)
      go_roundw
      case rel => exact ⟨k + 1, by omega, rfl, by go_num, b1.setCell_other (by simp) _, upTo_step (b2.setCell_same k _), hb.setCell (by simp) _, by simpa using hs⟩
      case measure => simp [intOf]; omega
    · have tk : decide ((k : Int) < 255) = false := by simp; omega
      rw [upTo_all (by omega)] at b2
      go_upto_region 10 with (first | (with_reducible apply alA tTb))
      generalize hw4 : World.alloc wr _ = w4
      have d1 : Blk w4 w.heap.size 57 (ar 256 fun _ => 0) := by rw [← hw4]; exact b1.alloc _
      have d2 : Blk w4 (w.heap.size + 1) 100 (ar 255 AesM.pw) := by rw [← hw4]; exact b2.alloc _
      have d3 : Blk w4 (w.heap.size + 2) 57 (ar 256 fun _ => 0) := by rw [← hw4]; exact Blk.top rfl hs.symm
      have hb4 : Below w.heap.size w w4 := by rw [← hw4]; exact hb.alloc (by omega) _
      rw [hs]
      clear hw4 b1 b2 hb hs tk hlt hk hp
      go_wp2_with ((with_reducible apply ldA tPw); rfl; exact d2)
      go_loopw [19] (fun i wr => ∃ k : Nat, k ≤ 255 ∧ i = .int .i64 k ∧ Blk wr w.heap.size 57 (ar 256 fun _ => 0) ∧ Blk wr (w.heap.size + 1) 100 (ar 255 AesM.pw) ∧ Blk wr (w.heap.size + 2) 57 (ar 256 (AesM.setTo AesM.pw (fun n => AesM.pw ((255 - n) % 255)) k)) ∧ Below w.heap.size w wr) (fun i _ => 255 - (intOf i).toNat)
      case atStart => exact ⟨0, by omega, rfl, d1, d2, d3, hb4⟩
      case round =>
        clear d1 d2 d3 hb4
        obtain ⟨k, hk, rfl, b1, b2, b3, hb⟩ := hrel
        by_cases hlt : k < 255
        · have tk : (k : Int) < 255 := by omega
          have hI := fun w => run_index_ar (f := AesM.pw) uPw hlt w
          obtain ⟨m, hm⟩ : ∃ m, m = (255 - k) % 255 := ⟨_, rfl⟩
          have hm255 : m < 255 := by omega
          have tm : (m : Int) < 255 := by omega
          have e1 : (255 - (k : Int)).tmod 255 = (m : Int) := by
            rw [hm, show (255 - (k : Int)) = ((255 - k : Nat) : Int) by omega]; rfl
          have e2 : (255 - (k : Int)) % 255 = (m : Int) := by omega
          have hp := AesM.pw_lt k
          have tp : ((AesM.pw k : Nat) : Int) < 256 := by omega
          have c2 : wr.cell? ⟨w.heap.size + 1, m, none⟩ = some (.int .u8 (AesM.pw m : Nat)) := by rw [b2.cell, get_ar hm255]
          have c3 := (b3.cell (AesM.pw k)).trans (get_ar hp)
          have f3 := b3.frozen (AesM.pw k)
          have HM := hid hm
          clear hm
          go_wp2_with fail
          go_roundw
          case rel =>
            refine ⟨k + 1, by omega, by go_num, b1.setCell_other (by simp) _, b2.setCell_other (by simp) _, ?_, hb.setCell (by simp) _⟩
            have h := b3.setCell_same (AesM.pw k) (.int .u8 (AesM.pw m : Nat))
            rw [ar_set, HM.out] at h
            rw [HM.out]
            exact h
          case measure => simp [intOf]; omega
        · have tk : decide ((k : Int) < 255) = false := by simp; omega
          obtain rfl : k = 255 := by omega
          rw [ar_ext (g := AesM.invF) fun j hj => AesM.inv_at hj] at b3
          go_wp2_with (first | ((with_reducible apply ldA tTb); rfl; exact b3) | ((with_reducible apply stA tTb); rfl; rfl; exact b1))
          apply ret_ar tTb Try.results44
          · rfl
          · rfl
          · exact b1.setRow_same _
          exact ⟨rfl, below_setRow hb (by omega) _⟩
set_option maxRecDepth 100000 in
theorem box_any (w : World) :
    Calls Try.prog 28 #[] w fun e w' => e = .returned (.agg (ar 256 AesM.boxF)) ∧ Below w.heap.size w w' := by
  go_enter Try.func28, Try.ntmps28
  go_upto_region 1 with (with_reducible apply alA tTb)
  generalize hw1 : World.alloc w _ = w1
  have b1 : Blk w1 w.heap.size 57 (ar 256 fun _ => 0) := by rw [← hw1]; exact Blk.new _ _ _
  have hb : Below w.heap.size w w1 := by rw [← hw1]; exact (Below.refl _ _).alloc (Nat.le_refl _) _
  clear hw1
  go_wp2_with fail
  refine (inverses_any _).mono ?_
  rintro e w2 ⟨rfl, h2⟩
  have d1 := b1.below h2 b1.lt
  have hb2 := hb.trans (h2.mono hb.size)
  have hg1 : w.heap.size < w2.heap.size := Nat.lt_of_lt_of_le b1.lt h2.size
  clear b1 hb h2
  obtain ⟨g, hg⟩ : ∃ g, g = w2.heap.size := ⟨_, rfl⟩
  have hz : Blk (w2.alloc (.cells (ar 256 fun _ => 0) 57)) w2.heap.size 57 (ar 256 fun _ => 0) := Blk.new _ _ _
  go_upto_region 2 with (first | (with_reducible apply alA tTb) | ((with_reducible apply stA tTb); rfl; rfl; exact hz))
  generalize hw3 : World.setRow _ _ _ = w3
  have q1 : Blk w3 w.heap.size 57 (ar 256 fun _ => 0) := by rw [← hw3]; exact (d1.alloc _).setRow_other (by omega) _
  have q2 : Blk w3 g 57 (ar 256 AesM.invF) := by rw [← hw3, hg]; exact hz.setRow_same _
  have qb : Below w.heap.size w w3 := by rw [← hw3]; exact below_setRow (hb2.alloc (by omega) _) (by omega) _
  rw [← hg] at hg1 ⊢
  have HG := hid hg1
  clear hw3 hz d1 hb2 hg1 hg w2 w1
  go_wp2_with ((with_reducible apply ldA tTb); rfl; exact q2)
  go_loopw [8] (fun i wr => ∃ k : Nat, k ≤ 256 ∧ i = .int .i64 k ∧ Blk wr w.heap.size 57 (ar 256 fun _ => 0) ∧ Blk wr g 57 (ar 256 (upTo k (AesM.invF) AesM.boxF)) ∧ Below w.heap.size w wr) (fun i _ => 256 - (intOf i).toNat)
  case atStart => exact ⟨0, by omega, rfl, q1, by rw [upTo_zero]; exact q2, qb⟩
  case round =>
    clear q1 q2 qb
    obtain ⟨k, hk, rfl, b1, b2, hb⟩ := hrel
    by_cases hlt : k < 256
    · have tk : (k : Int) < 256 := by omega
      have hI := fun w => run_index_ar (f := AesM.invF) uTb hlt w
      obtain ⟨b, hbv⟩ : ∃ b, b = AesM.invF k := ⟨_, rfl⟩
      simp only [← hbv] at hI
      have hb256 : b < 256 := by rw [hbv]; exact AesM.invF_lt k
      have HBV := hid hbv
      have X := hid (u8_xor_nat b 99 hb256 (by omega))
      have HB := hid hb256
      clear hbv hb256
      have x1 : bits .xor .u8 (b : Int) 99 = ((b ^^^ 99 : Nat) : Int) := X.out
      clear X
      go_wp2_with fail
      go_loopw [4, 5] (fun s i wk => ∃ m : Nat, m ≤ 4 ∧ s = .int .u8 (AesM.acc b m : Nat) ∧ i = .int .i64 ((m : Int) + 1) ∧ wk = wr) (fun _ i _ => 5 - (intOf i).toNat)
      case atStart => exact ⟨0, by omega, rfl, rfl, rfl⟩
      case round =>
        obtain ⟨m, hm, rfl, rfl, rfl⟩ := hrel
        by_cases hlm : m < 4
        · have tm : (m : Int) + 1 ≤ 4 := by omega
          have hacc := AesM.acc_lt HB.out m
          have hrl := AesM.rl_lt (i := m + 1) HB.out
          have x2 := u8_xor_nat _ _ hacc hrl
          obtain ⟨m1, hm1⟩ : ∃ m1, m1 = m + 1 := ⟨_, rfl⟩
          have hm1i : (m : Int) + 1 = (m1 : Int) := by omega
          have t1 : (m1 : Int) ≤ 4 := by omega
          rw [← hm1] at x2
          have HM := hid hm1
          clear hm1 tm
          go_wp2_with ((with_reducible refine (rot_any b m1 HB.out (by have := HM.out; omega) (by omega) _).mono ?_); rintro e w' ⟨rfl, rfl⟩)
          go_roundw
          case rel => exact ⟨m + 1, by omega, by rw [HM.out]; rfl, by rw [HM.out], trivial⟩
          case measure => simp [intOf]; omega
        · obtain rfl : m = 4 := by omega
          have c2 := (b2.cell k).trans (get_ar hlt)
          have f2 := b2.frozen k
          have HA := hid (AesM.acc_box hlt)
          go_wp2_with fail
          go_roundw
          case rel =>
            rw [HBV.out, HA.out]
            exact ⟨k + 1, by omega, by go_num, b1.setCell_other (by have := HG.out; show g ≠ w.heap.size; omega) _, upTo_step (b2.setCell_same k _), hb.setCell (by have := HG.out; show w.heap.size ≤ g; omega) _⟩
          case measure => simp [intOf]; omega
    · have tk : decide ((k : Int) < 256) = false := by simp; omega
      obtain rfl : k = 256 := by omega
      rw [upTo_all (by omega)] at b2
      go_wp2_with (first | ((with_reducible apply ldA tTb); rfl; exact b2) | ((with_reducible apply stA tTb); rfl; rfl; exact b1))
      apply ret_ar tTb Try.results28
      · rfl
      · rfl
      · exact b1.setRow_same _
      exact ⟨rfl, below_setRow hb (by omega) _⟩
end AesP
end Go.Proofs.Ytfnepbkgmopjcaa
