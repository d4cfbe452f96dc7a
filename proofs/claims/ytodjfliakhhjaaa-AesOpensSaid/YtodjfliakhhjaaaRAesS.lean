/-
  Contracts of casemateref07's state, block, added, mixed.
-/
import Derived.Test.YtodjfliakhhjaaaRAesW
import Derived.Test.YtodjfliakhhjaaaRAesX
namespace Go.Proofs.Ytodjfliakhhjaaa
open Go.ChangeShapes Go.WideShapes Go.ChangeAt Go.RowKit
open AesM (Bt tab ls)
attribute [local go_sem] Gives
namespace AesP
theorem tSS : ArT 61 16 := ⟨by kernel_rfl, ⟨_, Try.underlying61, rfl⟩, (zero_of_info (P := Try.prog) (t := 61) (v := .agg (ar 16 fun _ => 0)) (n := 16) (by kernel_rfl)).1⟩
set_option maxHeartbeats 400000 in
set_option maxRecDepth 100000 in
theorem rstate_any (f : Nat → Nat) (w : World) :
    Calls Try.prog 20 #[.agg (ar 16 f)] w fun e w' => e = .returned (.agg (ar 16 f)) ∧ Below w.heap.size w w' := by
  go_enter Try.func20, Try.ntmps20
  go_upto_region 2 with (with_reducible apply alA tSS)
  generalize hw3 : World.alloc (World.alloc (World.alloc w _) _) _ = w3
  have b1 := hid (show Blk w3 w.heap.size 24 (ar 16 f) by rw [← hw3]; exact ((Blk.new _ _ _).alloc _).alloc _)
  have b2 := hid (show Blk w3 (w.heap.size + 1) 61 (ar 16 fun _ => 0) by rw [← hw3]; exact (Blk.top rfl (by simp)).alloc _)
  have b3 := hid (show Blk w3 (w.heap.size + 2) 61 (ar 16 fun _ => 0) by rw [← hw3]; exact Blk.top rfl (by simp))
  have hb := hid (show Below w.heap.size w w3 by rw [← hw3]; exact (((Below.refl _ _).alloc (Nat.le_refl _) _).alloc (by simp) _).alloc (by simp; omega) _)
  clear hw3
  go_wp2_with fail
  go_loopw [4] (fun i wr => ∃ n : Nat, n ≤ 16 ∧ i = .int .i64 n ∧ Hid (Blk wr w.heap.size 24 (ar 16 f)) ∧ Hid (Blk wr (w.heap.size + 1) 61 (ar 16 fun _ => 0)) ∧ Hid (Blk wr (w.heap.size + 2) 61 (ar 16 (upTo n (fun _ => 0) f))) ∧ Hid (Below w.heap.size w wr)) (fun i => fun _ => 16 - (intOf i).toNat)
  case atStart => exact ⟨0, by omega, rfl, b1, b2, by rw [upTo_zero]; exact b3, hb⟩
  case round =>
    clear b1 b2 b3 hb
    obtain ⟨n, hn, rfl, b1, b2, b3, hb⟩ := hrel
    by_cases hlt : n < 16
    · have tn : (n : Int) < 16 := by omega
      obtain ⟨x, hx⟩ : ∃ x, x = n / 4 := ⟨_, rfl⟩
      obtain ⟨y, hy⟩ : ∃ y, y = n % 4 := ⟨_, rfl⟩
      have tx : (x : Int) < 4 := by omega
      have ty : (y : Int) < 4 := by omega
      have e1 := hid (show (n : Int).tdiv 4 = (x : Int) by rw [hx]; rfl)
      have e2 := hid (show IntKind.i64.wrap (x : Int) = (x : Int) from wr_nat rfl (by omega))
      have e3 := hid (show (n : Int).tmod 4 = (y : Int) by rw [hy]; rfl)
      have hxy := hid (show x * 4 + y = n by omega)
      have C1 := hid ((b1.out.cell n).trans (get_ar hlt))
      clear hx hy
      go_wp2_with fail
      refine wp_region_tail (C := Drew wr) 9 (by kernel_rfl) (by kernel_rfl) (by kernel_rfl) (Drew.refl _) ?_
      simp only [List.take_succ_cons, List.take_zero, List.drop_succ_cons, List.drop_zero]
      apply wpK_val
      · rfl
      · intro w' hw'
        go_simp
        first | exact rfl | exact ⟨rfl, hw'⟩
      simp only [Act.put, List.setIfInBounds_toArray, List.set_cons_succ, List.set_cons_zero]
      apply wpK_val
      · rfl
      · intro w' hw'
        have h1 : _ := e1.out
        have h2 : _ := e2.out
        go_simp
        first | exact rfl | exact ⟨rfl, hw'⟩
      simp only [Act.put, List.setIfInBounds_toArray, List.set_cons_succ, List.set_cons_zero]
      apply wpK_val
      · rfl
      · intro w' hw'
        go_simp
        first | exact rfl | exact ⟨rfl, hw'⟩
      simp only [Act.put, List.setIfInBounds_toArray, List.set_cons_succ, List.set_cons_zero]
      apply wpK_val
      · rfl
      · intro w' hw'
        have h1 : _ := e3.out
        go_simp
        first | exact rfl | exact ⟨rfl, hw'⟩
      simp only [Act.put, List.setIfInBounds_toArray, List.set_cons_succ, List.set_cons_zero]
      apply wpK_val
      · rfl
      · intro w' hw'
        go_simp
        first | exact rfl | exact ⟨rfl, hw'⟩
      simp only [Act.put, List.setIfInBounds_toArray, List.set_cons_succ, List.set_cons_zero]
      apply wpK_val
      · rfl
      · intro w' hw'
        go_simp
        first | exact rfl | exact ⟨rfl, hw'⟩
      simp only [Act.put, List.setIfInBounds_toArray, List.set_cons_succ, List.set_cons_zero]
      apply wpK_val
      · rfl
      · intro w' hw'
        have hcell := hw'.cell C1.out
        go_simp
        first | exact rfl | exact ⟨rfl, hw'⟩
      simp only [Act.put, List.setIfInBounds_toArray, List.set_cons_succ, List.set_cons_zero]
      apply wpK_val
      · rfl
      · intro w' hw'
        go_simp
        first | exact rfl | exact ⟨rfl, hw'⟩
      simp only [Act.put, List.setIfInBounds_toArray, List.set_cons_succ, List.set_cons_zero]
      apply wpK_val
      · rfl
      · intro w' hw'
        go_simp
        first | exact rfl | exact ⟨rfl, hw'⟩
      simp only [Act.put, List.setIfInBounds_toArray, List.set_cons_succ, List.set_cons_zero]
      refine wpK_nil fun w5 hw5 => ?_
      have r1 := hid (hw5.blk b1.out)
      have r2 := hid (hw5.blk b2.out)
      have r3 := hid (hw5.blk b3.out)
      have rb := hid (hw5.below hb.out)
      have hs := hid (upTo_step (h := f) (hid (r3.out.setCell_same n (.int .u8 (f n : Nat)))).out)
      have c3 := (r3.out.cell n).trans (get_ar hlt)
      have f3 := r3.out.frozen n
      rw [← hxy.out] at c3 f3
      clear b1 b2 b3 hb hw5 C1 e1 e2 e3
      go_wp2_with fail
      go_roundw
      case rel =>
        rw [hxy.out]
        exact ⟨n + 1, by omega, by go_num, hid (r1.out.setCell_other (by first | (simp; done) | (simp; omega)) _), hid (r2.out.setCell_other (by first | (simp; done) | (simp; omega)) _), hs, hid (rb.out.setCell (by first | (simp; done) | (simp; omega)) _)⟩
      case measure => simp [intOf]; omega
    · have tn : decide ((n : Int) < 16) = false := by simp; omega
      have q3 := b3.out
      rw [upTo_all (by omega)] at q3
      have q2 := b2.out
      go_wp2_with (first | ((with_reducible apply ldA tSS); rfl; exact q3) | ((with_reducible apply stA tSS); rfl; rfl; exact q2))
      apply ret_ar tSS Try.results20
      · rfl
      · rfl
      · exact q2.setRow_same _
      exact ⟨rfl, below_setRow hb.out (by omega) _⟩
set_option maxHeartbeats 400000 in
set_option maxRecDepth 100000 in
theorem rblock_any (f : Nat → Nat) (w : World) :
    Calls Try.prog 22 #[.agg (ar 16 f)] w fun e w' => e = .returned (.agg (ar 16 f)) ∧ Below w.heap.size w w' := by
  go_enter Try.func22, Try.ntmps22
  go_upto_region 2 with (with_reducible apply alA tBk)
  generalize hw3 : World.alloc (World.alloc (World.alloc w _) _) _ = w3
  have b1 := hid (show Blk w3 w.heap.size 61 (ar 16 f) by rw [← hw3]; exact ((Blk.new _ _ _).alloc _).alloc _)
  have b2 := hid (show Blk w3 (w.heap.size + 1) 24 (ar 16 fun _ => 0) by rw [← hw3]; exact (Blk.top rfl (by simp)).alloc _)
  have b3 := hid (show Blk w3 (w.heap.size + 2) 24 (ar 16 fun _ => 0) by rw [← hw3]; exact Blk.top rfl (by simp))
  have hb := hid (show Below w.heap.size w w3 by rw [← hw3]; exact (((Below.refl _ _).alloc (Nat.le_refl _) _).alloc (by simp) _).alloc (by simp; omega) _)
  clear hw3
  go_wp2_with fail
  go_loopw [4] (fun i wr => ∃ n : Nat, n ≤ 16 ∧ i = .int .i64 n ∧ Hid (Blk wr w.heap.size 61 (ar 16 f)) ∧ Hid (Blk wr (w.heap.size + 1) 24 (ar 16 fun _ => 0)) ∧ Hid (Blk wr (w.heap.size + 2) 24 (ar 16 (upTo n (fun _ => 0) f))) ∧ Hid (Below w.heap.size w wr)) (fun i => fun _ => 16 - (intOf i).toNat)
  case atStart => exact ⟨0, by omega, rfl, b1, b2, by rw [upTo_zero]; exact b3, hb⟩
  case round =>
    clear b1 b2 b3 hb
    obtain ⟨n, hn, rfl, b1, b2, b3, hb⟩ := hrel
    by_cases hlt : n < 16
    · have tn : (n : Int) < 16 := by omega
      obtain ⟨x, hx⟩ : ∃ x, x = n / 4 := ⟨_, rfl⟩
      obtain ⟨y, hy⟩ : ∃ y, y = n % 4 := ⟨_, rfl⟩
      have tx : (x : Int) < 4 := by omega
      have ty : (y : Int) < 4 := by omega
      have e1 : (n : Int) / 4 = (x : Int) := by omega
      have e3 : (n : Int) % 4 = (y : Int) := by omega
      have hxy := hid (show x * 4 + y = n by omega)
      have C1 := hid (show wr.cell? ⟨w.heap.size, x * 4 + y, none⟩ = some (.int .u8 (f n : Nat)) by rw [hxy.out]; exact (b1.out.cell n).trans (get_ar hlt))
      clear hx hy
      have c1 := C1.out
      have c3 := (b3.out.cell n).trans (get_ar hlt)
      have f3 := b3.out.frozen n
      go_wp2_with fail
      go_roundw
      case rel => exact ⟨n + 1, by omega, by go_num, hid (b1.out.setCell_other (by first | (simp; done) | (simp; omega)) _), hid (b2.out.setCell_other (by first | (simp; done) | (simp; omega)) _), hid (upTo_step (b3.out.setCell_same n _)), hid (hb.out.setCell (by first | (simp; done) | (simp; omega)) _)⟩
      case measure => simp [intOf]; omega
    · have tn : decide ((n : Int) < 16) = false := by simp; omega
      have q3 := b3.out
      rw [upTo_all (by omega)] at q3
      have q2 := b2.out
      go_wp2_with (first | ((with_reducible apply ldA tBk); rfl; exact q3) | ((with_reducible apply stA tBk); rfl; rfl; exact q2))
      apply ret_ar tBk Try.results22
      · rfl
      · rfl
      · exact q2.setRow_same _
      exact ⟨rfl, below_setRow hb.out (by omega) _⟩
set_option maxHeartbeats 400000 in
set_option maxRecDepth 100000 in
theorem radded_any (f k : Nat → Nat) (hf : Bt f) (hk : Bt k) (r : Nat) (hr : r < 15) (v : Value) (B : Nat) (w : World) (hs : WS w B v (AesM.wd AesM.boxF k) 60) :
    Calls Try.prog 19 #[.agg (ar 16 f), v, .int .i64 r] w fun e w' => e = .returned (.agg (ar 16 (AesM.add f (AesM.rk (AesM.ks k) r)))) ∧ Below w.heap.size w w' := by
  have HF := hid hf
  have HK := hid hk
  obtain ⟨gv, cv, rfl, hgv, hcells⟩ := hs.form (by omega)
  have HC := hid hcells
  obtain ⟨M, hM⟩ : ∃ M : Nat → Nat, M = AesM.add f (AesM.rk (AesM.ks k) r) := ⟨_, rfl⟩
  rw [← hM]
  have HM := hid (show ∀ c i, c < 4 → i < 4 → M (4 * c + i) = f (4 * c + i) ^^^ AesM.wd AesM.boxF k (4 * r + c) i from fun c i hc hi => by
    rw [hM]
    unfold AesM.add AesM.rk AesM.ks AesM.W
    rw [if_pos (by omega), show (16 * r + (4 * c + i)) / 4 = 4 * r + c by omega, show (16 * r + (4 * c + i)) % 4 = i by omega])
  clear hs hcells hf hk hM
  go_enter Try.func19, Try.ntmps19
  go_upto_region 1 with (with_reducible apply alA tSS)
  generalize hw3 : World.alloc (World.alloc w _) _ = w3
  have b1 := hid (show Blk w3 w.heap.size 61 (ar 16 f) by rw [← hw3]; exact (Blk.new _ _ _).alloc _)
  have b2 := hid (show Blk w3 (w.heap.size + 1) 61 (ar 16 fun _ => 0) by rw [← hw3]; exact Blk.top rfl (by simp))
  have hb := hid (show Below w.heap.size w w3 by rw [← hw3]; exact ((Below.refl _ _).alloc (Nat.le_refl _) _).alloc (by simp) _)
  clear hw3
  go_wp2_with fail
  go_loopw [7] (fun u wr => ∃ c : Nat, c ≤ 4 ∧ u = .int .i64 c ∧ Hid (Blk wr w.heap.size 61 (ar 16 (upTo (4 * c) f M))) ∧ Hid (Blk wr (w.heap.size + 1) 61 (ar 16 fun _ => 0)) ∧ Hid (Below w.heap.size w wr)) (fun u => fun _ => 4 - (intOf u).toNat)
  case atStart => exact ⟨0, by omega, rfl, by rw [upTo_zero]; exact b1, b2, hb⟩
  case round =>
    clear b1 b2 hb
    obtain ⟨c, hc, rfl, b1, b2, hb⟩ := hrel
    by_cases hlc : c < 4
    · have tc : (c : Int) < 4 := by omega
      go_wp2_with fail
      go_loopw [8] (fun u wk => ∃ i : Nat, i ≤ 4 ∧ u = .int .i64 i ∧ Hid (Blk wk w.heap.size 61 (ar 16 (upTo (4 * c + i) f M))) ∧ Hid (Blk wk (w.heap.size + 1) 61 (ar 16 fun _ => 0)) ∧ Hid (Below w.heap.size w wk)) (fun u => fun _ => 4 - (intOf u).toNat)
      case atStart => exact ⟨0, by omega, rfl, b1, b2, hb⟩
      case round =>
        clear b1 b2 hb
        obtain ⟨i, hi, rfl, b1, b2, hb⟩ := hrel
        by_cases hli : i < 4
        · have ti : (i : Int) < 4 := by omega
          obtain ⟨n, hn⟩ : ∃ n, n = 4 * c + i := ⟨_, rfl⟩
          obtain ⟨r4, hr4⟩ : ∃ r4, r4 = 4 * r := ⟨_, rfl⟩
          obtain ⟨j, hj⟩ : ∃ j, j = r4 + c := ⟨_, rfl⟩
          have hn16 : n < 16 := by omega
          have hj60 : j < 60 := by omega
          have tj : (j : Int) < 60 := by omega
          have e1 := hid (show IntKind.i64.wrap (4 * (r : Int)) = (r4 : Int) from wr_nat (by omega) (by omega))
          have e2 := hid (show IntKind.i64.wrap ((r4 : Int) + (c : Int)) = (j : Int) from wr_nat (by omega) (by omega))
          have hxy := hid (show c * 4 + i = n by omega)
          obtain ⟨G, g1, g2⟩ := HC.out j hj60
          have C1 := hid (show wr.cell? ⟨w.heap.size, c * 4 + i, none⟩ = some (.int .u8 (f n : Nat)) by rw [hxy.out]; have h := (b1.out.cell n).trans (get_ar hn16); rw [hn, upTo_at, ← hn] at h; rw [hn] at h ⊢; exact h)
          have G1 := hid ((hb.out.cell (p := ⟨gv, j, none⟩) hgv).trans g1)
          have G2 := hid (((g2.below hb.out g2.lt).cell i).trans (get_ar hli))
          have X := hid (show bits .xor .u8 ((f n : Nat) : Int) ((AesM.wd AesM.boxF k j i : Nat) : Int) = ((M n : Nat) : Int) by
            rw [hn, HM.out c i hlc hli, ← hr4, ← hj]
            exact u8_xor_nat _ _ (HF.out _) (AesM.wd_bt AesM.boxF_lt HK.out hj60 i))
          have HN := hid hn
          clear hn hr4 hj g1 g2
          go_wp2_with fail
          refine wp_region_tail (C := Drew wr) 20 (by kernel_rfl) (by kernel_rfl) (by kernel_rfl) (Drew.refl _) ?_
          simp only [List.take_succ_cons, List.take_zero, List.drop_succ_cons, List.drop_zero]
          apply wpK_val
          · rfl
          · intro w' hw'
            go_simp
            first | exact rfl | exact ⟨rfl, hw'⟩
          simp only [Act.put, List.setIfInBounds_toArray, List.set_cons_succ, List.set_cons_zero]
          apply wpK_val
          · rfl
          · intro w' hw'
            go_simp
            first | exact rfl | exact ⟨rfl, hw'⟩
          simp only [Act.put, List.setIfInBounds_toArray, List.set_cons_succ, List.set_cons_zero]
          apply wpK_val
          · rfl
          · intro w' hw'
            go_simp
            first | exact rfl | exact ⟨rfl, hw'⟩
          simp only [Act.put, List.setIfInBounds_toArray, List.set_cons_succ, List.set_cons_zero]
          apply wpK_val
          · rfl
          · intro w' hw'
            go_simp
            first | exact rfl | exact ⟨rfl, hw'⟩
          simp only [Act.put, List.setIfInBounds_toArray, List.set_cons_succ, List.set_cons_zero]
          apply wpK_val
          · rfl
          · intro w' hw'
            go_simp
            first | exact rfl | exact ⟨rfl, hw'⟩
          simp only [Act.put, List.setIfInBounds_toArray, List.set_cons_succ, List.set_cons_zero]
          apply wpK_val
          · rfl
          · intro w' hw'
            go_simp
            first | exact rfl | exact ⟨rfl, hw'⟩
          simp only [Act.put, List.setIfInBounds_toArray, List.set_cons_succ, List.set_cons_zero]
          apply wpK_val
          · rfl
          · intro w' hw'
            have hcell := hw'.cell C1.out
            go_simp
            first | exact rfl | exact ⟨rfl, hw'⟩
          simp only [Act.put, List.setIfInBounds_toArray, List.set_cons_succ, List.set_cons_zero]
          apply wpK_val
          · rfl
          · intro w' hw'
            go_simp
            first | exact rfl | exact ⟨rfl, hw'⟩
          simp only [Act.put, List.setIfInBounds_toArray, List.set_cons_succ, List.set_cons_zero]
          apply wpK_val
          · rfl
          · intro w' hw'
            go_simp
            first | exact rfl | exact ⟨rfl, hw'⟩
          simp only [Act.put, List.setIfInBounds_toArray, List.set_cons_succ, List.set_cons_zero]
          apply wpK_val
          · rfl
          · intro w' hw'
            have h1 : _ := e1.out
            go_simp
            first | exact rfl | exact ⟨rfl, hw'⟩
          simp only [Act.put, List.setIfInBounds_toArray, List.set_cons_succ, List.set_cons_zero]
          apply wpK_val
          · rfl
          · intro w' hw'
            go_simp
            first | exact rfl | exact ⟨rfl, hw'⟩
          simp only [Act.put, List.setIfInBounds_toArray, List.set_cons_succ, List.set_cons_zero]
          apply wpK_val
          · rfl
          · intro w' hw'
            have h1 : _ := e2.out
            go_simp
            first | exact rfl | exact ⟨rfl, hw'⟩
          simp only [Act.put, List.setIfInBounds_toArray, List.set_cons_succ, List.set_cons_zero]
          apply wpK_val
          · rfl
          · intro w' hw'
            go_simp
            first | exact rfl | exact ⟨rfl, hw'⟩
          simp only [Act.put, List.setIfInBounds_toArray, List.set_cons_succ, List.set_cons_zero]
          apply wpK_val
          · rfl
          · intro w' hw'
            have hcell := hw'.cell G1.out
            go_simp
            first | exact rfl | exact ⟨rfl, hw'⟩
          simp only [Act.put, List.setIfInBounds_toArray, List.set_cons_succ, List.set_cons_zero]
          apply wpK_val
          · rfl
          · intro w' hw'
            go_simp
            first | exact rfl | exact ⟨rfl, hw'⟩
          simp only [Act.put, List.setIfInBounds_toArray, List.set_cons_succ, List.set_cons_zero]
          apply wpK_val
          · rfl
          · intro w' hw'
            go_simp
            first | exact rfl | exact ⟨rfl, hw'⟩
          simp only [Act.put, List.setIfInBounds_toArray, List.set_cons_succ, List.set_cons_zero]
          apply wpK_val
          · rfl
          · intro w' hw'
            have hcell := hw'.cell G2.out
            go_simp
            first | exact rfl | exact ⟨rfl, hw'⟩
          simp only [Act.put, List.setIfInBounds_toArray, List.set_cons_succ, List.set_cons_zero]
          apply wpK_val
          · rfl
          · intro w' hw'
            have h1 : _ := X.out
            go_simp
            first | exact rfl | exact ⟨rfl, hw'⟩
          simp only [Act.put, List.setIfInBounds_toArray, List.set_cons_succ, List.set_cons_zero]
          apply wpK_val
          · rfl
          · intro w' hw'
            go_simp
            first | exact rfl | exact ⟨rfl, hw'⟩
          simp only [Act.put, List.setIfInBounds_toArray, List.set_cons_succ, List.set_cons_zero]
          apply wpK_val
          · rfl
          · intro w' hw'
            go_simp
            first | exact rfl | exact ⟨rfl, hw'⟩
          simp only [Act.put, List.setIfInBounds_toArray, List.set_cons_succ, List.set_cons_zero]
          refine wpK_nil fun w5 hw5 => ?_
          have r1 := hid (hw5.blk b1.out)
          have r2 := hid (hw5.blk b2.out)
          have rb := hid (hw5.below hb.out)
          have c3 := (r1.out.cell n).trans (get_ar hn16)
          have f3 := r1.out.frozen n
          rw [← hxy.out] at c3 f3
          clear b1 b2 hb hw5 C1 G1 G2 X e1 e2
          go_wp2_with fail
          go_roundw
          case rel =>
            rw [hxy.out]
            have h := r1.out
            rw [← HN.out] at h
            exact ⟨i + 1, by omega, by go_num, hid (by rw [show 4 * c + (i + 1) = n + 1 by have := HN.out; omega]; exact upTo_step (h.setCell_same n _)), hid (r2.out.setCell_other (by first | (simp; done) | (simp; omega)) _), hid (rb.out.setCell (by first | (simp; done) | (simp; omega)) _)⟩
          case measure => simp [intOf]; omega
        · have ti : decide ((i : Int) < 4) = false := by simp; omega
          obtain rfl : i = 4 := by omega
          go_wp2_with fail
          go_roundw
          case rel => exact ⟨c + 1, by omega, by go_num, hid (by rw [show 4 * (c + 1) = 4 * c + 4 by omega]; exact b1.out), b2, hb⟩
          case measure => simp [intOf]; omega
    · have tc : decide ((c : Int) < 4) = false := by simp; omega
      have q1 := b1.out
      rw [upTo_all (by omega)] at q1
      have q2 := b2.out
      go_wp2_with (first | ((with_reducible apply ldA tSS); rfl; exact q1) | ((with_reducible apply stA tSS); rfl; rfl; exact q2))
      apply ret_ar tSS Try.results19
      · rfl
      · rfl
      · exact q2.setRow_same _
      exact ⟨rfl, below_setRow hb.out (by omega) _⟩
end AesP
end Go.Proofs.Ytodjfliakhhjaaa
