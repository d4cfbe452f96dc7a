/-
  Contract of casemateref07.mixed.
-/
import Derived.Test.YtodjfliakhhjaaaRAesS
namespace Go.Proofs.Ytodjfliakhhjaaa
open Go.ChangeShapes Go.WideShapes Go.ChangeAt Go.RowKit
open AesM (Bt tab ls)
attribute [local go_sem] Gives
namespace AesP
/-- Place n partly summed. -/
def part (n : Nat) (v : Nat) (M : Nat → Nat) : Nat → Nat := fun j => if j = n then v else upTo n (fun _ => 0) M j
theorem part_zero {n : Nat} {M : Nat → Nat} : part n 0 M = upTo n (fun _ => 0) M := funext fun j => by
  unfold part upTo
  by_cases h : j = n
  · subst h; simp
  · rw [if_neg h]
theorem part_full {n : Nat} {M : Nat → Nat} : part n (M n) M = upTo (n + 1) (fun _ => 0) M := funext fun j => by
  unfold part upTo
  by_cases h : j = n
  · subst h; simp
  · rw [if_neg h]
    by_cases h2 : j < n
    · rw [if_pos h2, if_pos (by omega)]
    · rw [if_neg h2, if_neg (by omega)]
theorem part_set {w : World} {b n v v' : Nat} {t : TypeId} {M : Nat → Nat} (hb : Blk w b t ((ar 16 (part n v M)).setIfInBounds n (.int .u8 (v' : Nat)))) : Blk w b t (ar 16 (part n v' M)) := by
  rw [ar_set] at hb
  rw [ar_ext (g := fun j => if j = n then v' else part n v M j) fun j _ => ?_]
  · exact hb
  · unfold part
    by_cases h : j = n
    · rw [if_pos h, if_pos h]
    · rw [if_neg h, if_neg h, if_neg h]
set_option maxHeartbeats 800000 in
set_option maxRecDepth 100000 in
theorem rmixed_any (f l : Nat → Nat) (hf : Bt f) (hl : Bt l) (gl : Nat) (w : World) (hL : Blk w gl 5 (ar 4 l)) :
    Calls Try.prog 21 #[.agg (ar 16 f), .slice (some ⟨gl, 0, none⟩) 4 4] w fun e w' => e = .returned (.agg (ar 16 (AesM.mixD f l))) ∧ Below w.heap.size w w' := by
  have HF := hid hf
  have HLB := hid hl
  have HL := hid hL
  obtain ⟨M, hM⟩ : ∃ M : Nat → Nat, M = AesM.mixD f l := ⟨_, rfl⟩
  rw [← hM]
  have HM := hid (show ∀ c i, i < 4 → M (4 * c + i) = AesM.mxGo f l c i 4 from fun c i hi => by rw [hM]; exact AesM.mixD_at f l c hi)
  clear hf hl hL hM
  go_enter Try.func21, Try.ntmps21
  go_upto_region 2 with (with_reducible apply alA tSS)
  generalize hw3 : World.alloc (World.alloc (World.alloc w _) _) _ = w3
  have b1 := hid (show Blk w3 w.heap.size 61 (ar 16 f) by rw [← hw3]; exact ((Blk.new _ _ _).alloc _).alloc _)
  have b2 := hid (show Blk w3 (w.heap.size + 1) 61 (ar 16 fun _ => 0) by rw [← hw3]; exact (Blk.top rfl (by simp)).alloc _)
  have b3 := hid (show Blk w3 (w.heap.size + 2) 61 (ar 16 fun _ => 0) by rw [← hw3]; exact Blk.top rfl (by simp))
  have hb := hid (show Below w.heap.size w w3 by rw [← hw3]; exact (((Below.refl _ _).alloc (Nat.le_refl _) _).alloc (by simp) _).alloc (by simp; omega) _)
  clear hw3
  go_wp2_with fail
  go_loopw [6] (fun u wr => ∃ c : Nat, c ≤ 4 ∧ u = .int .i64 c ∧ Hid (Blk wr w.heap.size 61 (ar 16 f)) ∧ Hid (Blk wr (w.heap.size + 1) 61 (ar 16 fun _ => 0)) ∧ Hid (Blk wr (w.heap.size + 2) 61 (ar 16 (upTo (4 * c) (fun _ => 0) M))) ∧ Hid (Below w.heap.size w wr)) (fun u => fun _ => 4 - (intOf u).toNat)
  case atStart => exact ⟨0, by omega, rfl, b1, b2, by rw [upTo_zero]; exact b3, hb⟩
  case round =>
    clear b1 b2 b3 hb
    obtain ⟨c, hc, rfl, b1, b2, b3, hb⟩ := hrel
    by_cases hlc : c < 4
    · have tc : (c : Int) < 4 := by omega
      go_wp2_with fail
      go_loopw [7] (fun u wr => ∃ i : Nat, i ≤ 4 ∧ u = .int .i64 i ∧ Hid (Blk wr w.heap.size 61 (ar 16 f)) ∧ Hid (Blk wr (w.heap.size + 1) 61 (ar 16 fun _ => 0)) ∧ Hid (Blk wr (w.heap.size + 2) 61 (ar 16 (upTo (4 * c + i) (fun _ => 0) M))) ∧ Hid (Below w.heap.size w wr)) (fun u => fun _ => 4 - (intOf u).toNat)
      case atStart => exact ⟨0, by omega, rfl, b1, b2, b3, hb⟩
      case round =>
        clear b1 b2 b3 hb
        obtain ⟨i, hi, rfl, b1, b2, b3, hb⟩ := hrel
        by_cases hli : i < 4
        · have ti : (i : Int) < 4 := by omega
          obtain ⟨n, hn⟩ : ∃ n, n = 4 * c + i := ⟨_, rfl⟩
          rw [← hn] at b3
          have hn16 : n < 16 := by omega
          have hxy := hid (show c * 4 + i = n by omega)
          have HMN := hid (show M n = AesM.mxGo f l c i 4 by rw [hn]; exact HM.out c i hli)
          have HN := hid hn
          clear hn
          go_wp2_with fail
          go_loopw [8] (fun u wr => ∃ k : Nat, k ≤ 4 ∧ u = .int .i64 k ∧ Hid (Blk wr w.heap.size 61 (ar 16 f)) ∧ Hid (Blk wr (w.heap.size + 1) 61 (ar 16 fun _ => 0)) ∧ Hid (Blk wr (w.heap.size + 2) 61 (ar 16 (part n (AesM.mxGo f l c i k) M))) ∧ Hid (Below w.heap.size w wr)) (fun u => fun _ => 4 - (intOf u).toNat)
          case atStart => exact ⟨0, by omega, rfl, b1, b2, hid (by rw [AesM.mxGo, part_zero]; exact b3.out), hb⟩
          case round =>
            clear b1 b2 b3 hb
            obtain ⟨k, hk, rfl, b1, b2, b3, hb⟩ := hrel
            by_cases hlk : k < 4
            · have tk : (k : Int) < 4 := by omega
              obtain ⟨z, hz⟩ : ∃ z, z = 4 * c + k := ⟨_, rfl⟩
              obtain ⟨m, hm⟩ : ∃ m, m = k + 4 - i := ⟨_, rfl⟩
              obtain ⟨p, hp⟩ : ∃ p, p = m % 4 := ⟨_, rfl⟩
              have hz16 : z < 16 := by omega
              have hp4 : p < 4 := by omega
              have tp : (p : Int) < 4 := by omega
              have e1 := hid (show IntKind.i64.wrap ((k : Int) - (i : Int)) = (k : Int) - (i : Int) from IntWalk.i64_in _ (by omega))
              have e2 := hid (show IntKind.i64.wrap ((k : Int) - (i : Int) + 4) = (m : Int) from wr_nat (by omega) (by omega))
              have e3 := hid (show (m : Int).tmod 4 = (p : Int) by rw [hp]; rfl)
              have hcz := hid (show c * 4 + k = z by omega)
              have C1 := hid (show wr.cell? ⟨w.heap.size, c * 4 + k, none⟩ = some (.int .u8 (f z : Nat)) by rw [hcz.out]; exact (b1.out.cell z).trans (get_ar hz16))
              have C3 := hid (show wr.cell? ⟨w.heap.size + 2, c * 4 + i, none⟩ = some (.int .u8 (AesM.mxGo f l c i k : Nat)) by
                rw [hxy.out]
                have h := (b3.out.cell n).trans (get_ar hn16)
                rw [show part n (AesM.mxGo f l c i k) M n = AesM.mxGo f l c i k from if_pos rfl] at h
                exact h)
              have CL := hid (((HL.out.below hb.out HL.out.lt).cell p).trans (get_ar hp4))
              have MM := hid fun w => rmul_any (f z) (l p) (HF.out z) (HLB.out p) w
              have X := hid (show bits .xor .u8 ((AesM.mxGo f l c i k : Nat) : Int) ((AesM.rm (f z) (l p) : Nat) : Int) = ((AesM.mxGo f l c i (k + 1) : Nat) : Int) by
                rw [AesM.mxGo, ← hz, ← hm, ← hp]
                exact u8_xor_nat _ _ (AesM.mxGo_lt _ _ _ _ _) (AesM.rm_lt _ _))
              clear hz hm hp
              go_wp2_with fail
              refine wp_region_tail (C := Drew wr) 24 (by kernel_rfl) (by kernel_rfl) (by kernel_rfl) (Drew.refl _) ?_
              simp only [List.take_succ_cons, List.take_zero, List.drop_succ_cons, List.drop_zero]
              apply wpK_val
              · rfl
              · intro w' hw'
                go_simp
                first | exact rfl | exact ⟨rfl, hw'⟩
              simp only [Act.put, List.setIfInBounds_toArray, List.set_cons_succ, List.set_cons_zero]
              apply wpK_val
              · rfl
              · intro w' hw'
                go_simp
                first | exact rfl | exact ⟨rfl, hw'⟩
              simp only [Act.put, List.setIfInBounds_toArray, List.set_cons_succ, List.set_cons_zero]
              apply wpK_val
              · rfl
              · intro w' hw'
                go_simp
                first | exact rfl | exact ⟨rfl, hw'⟩
              simp only [Act.put, List.setIfInBounds_toArray, List.set_cons_succ, List.set_cons_zero]
              apply wpK_val
              · rfl
              · intro w' hw'
                go_simp
                first | exact rfl | exact ⟨rfl, hw'⟩
              simp only [Act.put, List.setIfInBounds_toArray, List.set_cons_succ, List.set_cons_zero]
              apply wpK_val
              · rfl
              · intro w' hw'
                go_simp
                first | exact rfl | exact ⟨rfl, hw'⟩
              simp only [Act.put, List.setIfInBounds_toArray, List.set_cons_succ, List.set_cons_zero]
              apply wpK_val
              · rfl
              · intro w' hw'
                go_simp
                first | exact rfl | exact ⟨rfl, hw'⟩
              simp only [Act.put, List.setIfInBounds_toArray, List.set_cons_succ, List.set_cons_zero]
              apply wpK_val
              · rfl
              · intro w' hw'
                have hcell := hw'.cell C3.out
                go_simp
                first | exact rfl | exact ⟨rfl, hw'⟩
              simp only [Act.put, List.setIfInBounds_toArray, List.set_cons_succ, List.set_cons_zero]
              apply wpK_val
              · rfl
              · intro w' hw'
                go_simp
                first | exact rfl | exact ⟨rfl, hw'⟩
              simp only [Act.put, List.setIfInBounds_toArray, List.set_cons_succ, List.set_cons_zero]
              apply wpK_val
              · rfl
              · intro w' hw'
                go_simp
                first | exact rfl | exact ⟨rfl, hw'⟩
              simp only [Act.put, List.setIfInBounds_toArray, List.set_cons_succ, List.set_cons_zero]
              apply wpK_val
              · rfl
              · intro w' hw'
                go_simp
                first | exact rfl | exact ⟨rfl, hw'⟩
              simp only [Act.put, List.setIfInBounds_toArray, List.set_cons_succ, List.set_cons_zero]
              apply wpK_val
              · rfl
              · intro w' hw'
                go_simp
                first | exact rfl | exact ⟨rfl, hw'⟩
              simp only [Act.put, List.setIfInBounds_toArray, List.set_cons_succ, List.set_cons_zero]
              apply wpK_val
              · rfl
              · intro w' hw'
                have hcell := hw'.cell C1.out
                go_simp
                first | exact rfl | exact ⟨rfl, hw'⟩
              simp only [Act.put, List.setIfInBounds_toArray, List.set_cons_succ, List.set_cons_zero]
              apply wpK_val
              · rfl
              · intro w' hw'
                go_simp
                first | exact rfl | exact ⟨rfl, hw'⟩
              simp only [Act.put, List.setIfInBounds_toArray, List.set_cons_succ, List.set_cons_zero]
              apply wpK_val
              · rfl
              · intro w' hw'
                go_simp
                first | exact rfl | exact ⟨rfl, hw'⟩
              simp only [Act.put, List.setIfInBounds_toArray, List.set_cons_succ, List.set_cons_zero]
              apply wpK_val
              · rfl
              · intro w' hw'
                go_simp
                first | exact rfl | exact ⟨rfl, hw'⟩
              simp only [Act.put, List.setIfInBounds_toArray, List.set_cons_succ, List.set_cons_zero]
              apply wpK_val
              · rfl
              · intro w' hw'
                have h1 : _ := e1.out
                go_simp
                first | exact rfl | exact ⟨rfl, hw'⟩
              simp only [Act.put, List.setIfInBounds_toArray, List.set_cons_succ, List.set_cons_zero]
              apply wpK_val
              · rfl
              · intro w' hw'
                have h1 : _ := e2.out
                go_simp
                first | exact rfl | exact ⟨rfl, hw'⟩
              simp only [Act.put, List.setIfInBounds_toArray, List.set_cons_succ, List.set_cons_zero]
              apply wpK_val
              · rfl
              · intro w' hw'
                have h1 : _ := e3.out
                go_simp
                first | exact rfl | exact ⟨rfl, hw'⟩
              simp only [Act.put, List.setIfInBounds_toArray, List.set_cons_succ, List.set_cons_zero]
              apply wpK_val
              · rfl
              · intro w' hw'
                go_simp
                first | exact rfl | exact ⟨rfl, hw'⟩
              simp only [Act.put, List.setIfInBounds_toArray, List.set_cons_succ, List.set_cons_zero]
              apply wpK_val
              · rfl
              · intro w' hw'
                have hcell := hw'.cell CL.out
                go_simp
                first | exact rfl | exact ⟨rfl, hw'⟩
              simp only [Act.put, List.setIfInBounds_toArray, List.set_cons_succ, List.set_cons_zero]
              apply wpK_val
              · rfl
              · intro w' hw'
                go_simp
                exact (MM.out w').mono fun e w2 h => by obtain ⟨he, rfl⟩ := h; exact ⟨he, hw'⟩
              simp only [Act.put, List.setIfInBounds_toArray, List.set_cons_succ, List.set_cons_zero]
              apply wpK_val
              · rfl
              · intro w' hw'
                have h1 : _ := X.out
                go_simp
                first | exact rfl | exact ⟨rfl, hw'⟩
              simp only [Act.put, List.setIfInBounds_toArray, List.set_cons_succ, List.set_cons_zero]
              apply wpK_val
              · rfl
              · intro w' hw'
                go_simp
                first | exact rfl | exact ⟨rfl, hw'⟩
              simp only [Act.put, List.setIfInBounds_toArray, List.set_cons_succ, List.set_cons_zero]
              apply wpK_val
              · rfl
              · intro w' hw'
                go_simp
                first | exact rfl | exact ⟨rfl, hw'⟩
              simp only [Act.put, List.setIfInBounds_toArray, List.set_cons_succ, List.set_cons_zero]
              refine wpK_nil fun w5 hw5 => ?_
              have r1 := hid (hw5.blk b1.out)
              have r2 := hid (hw5.blk b2.out)
              have r3 := hid (hw5.blk b3.out)
              have rb := hid (hw5.below hb.out)
              have c3 := (r3.out.cell n).trans (get_ar hn16)
              have f3 := r3.out.frozen n
              rw [← hxy.out] at c3 f3
              clear b1 b2 b3 hb hw5 C1 C3 CL MM X e1 e2 e3
              go_wp2_with fail
              go_roundw
              case rel =>
                rw [hxy.out]
                exact ⟨k + 1, by omega, by go_num, hid (r1.out.setCell_other (by first | (simp; done) | (simp; omega)) _), hid (r2.out.setCell_other (by first | (simp; done) | (simp; omega)) _), hid (part_set (r3.out.setCell_same n _)), hid (rb.out.setCell (by first | (simp; done) | (simp; omega)) _)⟩
              case measure => simp [intOf]; omega
            · have tk : decide ((k : Int) < 4) = false := by simp; omega
              obtain rfl : k = 4 := by omega
              have q3 := b3.out
              rw [← HMN.out, part_full] at q3
              go_wp2_with fail
              go_roundw
              case rel => exact ⟨i + 1, by omega, by go_num, b1, b2, hid (by rw [show 4 * c + (i + 1) = n + 1 by have := HN.out; omega]; exact q3), hb⟩
              case measure => simp [intOf]; omega
        · have ti : decide ((i : Int) < 4) = false := by simp; omega
          obtain rfl : i = 4 := by omega
          go_wp2_with fail
          go_roundw
          case rel => exact ⟨c + 1, by omega, by go_num, b1, b2, hid (by rw [show 4 * (c + 1) = 4 * c + 4 by omega]; exact b3.out), hb⟩
          case measure => simp [intOf]; omega
    · have tc : decide ((c : Int) < 4) = false := by simp; omega
      have q3 := b3.out
      rw [upTo_all (by omega)] at q3
      have q2 := b2.out
      go_wp2_with (first | ((with_reducible apply ldA tSS); rfl; exact q3) | ((with_reducible apply stA tSS); rfl; rfl; exact q2))
      apply ret_ar tSS Try.results21
      · rfl
      · rfl
      · exact q2.setRow_same _
      exact ⟨rfl, below_setRow hb.out (by omega) _⟩
end AesP
end Go.Proofs.Ytodjfliakhhjaaa
