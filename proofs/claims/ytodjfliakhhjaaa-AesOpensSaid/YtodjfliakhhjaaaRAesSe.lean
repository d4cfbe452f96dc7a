/-
  Contract of casemateref07.Seal.
-/
import Derived.Test.YtodjfliakhhjaaaRAesMx
import Derived.Test.YtodjfliakhhjaaaAesR
namespace Go.Proofs.Ytodjfliakhhjaaa
open Go.ChangeShapes Go.WideShapes Go.ChangeAt Go.RowKit
open AesM (Bt tab ls)
attribute [local go_sem] Gives
namespace AesP
/-- The state behind m rounds. -/
def sx (K f : Nat → Nat) (m : Nat) : Nat → Nat := if m = 14 then AesM.sealM K f else AesM.ss K f m
theorem sx_bt {K f : Nat → Nat} (hK : Bt K) (hf : Bt f) (m : Nat) : Bt (sx K f m) := by
  unfold sx
  split
  · exact AesM.seal_bt hK
  · exact AesM.ss_bt hK hf m
theorem from_at {c i : Nat} (_hc : c < 4) (hi : i < 4) : AesM.from' (4 * c + i) = (c + i) % 4 * 4 + i := by unfold AesM.from'; omega
theorem lF_bt : Bt (ls AesM.lF) := fun i => by
  unfold ls
  rcases Nat.lt_or_ge i 4 with h | h
  · match i, h with
    | 0, _ | 1, _ | 2, _ | 3, _ => decide
  · rw [List.getD_eq_getElem?_getD, List.getElem?_eq_none h]; decide
theorem lB_bt : Bt (ls AesM.lB) := fun i => by
  unfold ls
  rcases Nat.lt_or_ge i 4 with h | h
  · match i, h with
    | 0, _ | 1, _ | 2, _ | 3, _ => decide
  · rw [List.getD_eq_getElem?_getD, List.getElem?_eq_none h]; decide
set_option maxHeartbeats 2400000 in
set_option maxRecDepth 100000 in
theorem rseal_any (k f : Nat → Nat) (hk : Bt k) (hf : Bt f) (w : World) :
    Calls Try.prog 7 #[.agg (ar 32 k), .agg (ar 16 f)] w fun e w' => e = .returned (.agg (ar 16 (AesM.sealM (AesM.ks k) f))) ∧ Below w.heap.size w w' := by
  have HK := hid hk
  have HF := hid hf
  have HKK := hid (AesM.ks_bt hk)
  clear hk hf
  go_enter Try.func7, Try.ntmps7
  go_upto_region 1 with (with_reducible apply alA tBk)
  generalize hw3 : World.alloc (World.alloc (World.alloc w _) _) _ = w3
  have b0 := hid (show Blk w3 w.heap.size 23 (ar 32 k) by rw [← hw3]; exact ((Blk.new _ _ _).alloc _).alloc _)
  have b1 := hid (show Blk w3 (w.heap.size + 1) 24 (ar 16 f) by rw [← hw3]; exact (Blk.top rfl (by simp)).alloc _)
  have b2 := hid (show Blk w3 (w.heap.size + 2) 24 (ar 16 fun _ => 0) by rw [← hw3]; exact Blk.top rfl (by simp))
  have hb := hid (show Below w.heap.size w w3 by rw [← hw3]; exact (((Below.refl _ _).alloc (Nat.le_refl _) _).alloc (by simp) _).alloc (by simp; omega) _)
  clear hw3
  go_wp2_with fail
  refine (boxes_any w3).mono ?_
  rintro e w4 ⟨gb, ob, cb, rfl, hgb, hR, h4⟩
  have d0 := hid (b0.out.below h4 b0.out.lt)
  have d1 := hid (b1.out.below h4 b1.out.lt)
  have d2 := hid (b2.out.below h4 b2.out.lt)
  have db := hid (hb.out.trans (h4.mono hb.out.size))
  have R4 := hid hR
  clear b0 b1 b2 hb h4 hR
  go_upto_region 2 with fail
  go_wp2_with ((with_reducible apply ldA tKey); rfl; exact d0.out)
  refine (words_any k HK.out gb ob cb w4 hgb R4.out).mono ?_
  rintro e w5 ⟨v, rfl, hs5, h5⟩
  have b1 := hid (d1.out.below h5 d1.out.lt)
  have b2 := hid (d2.out.below h5 d2.out.lt)
  have hb := hid (db.out.trans (h5.mono db.out.size))
  have R5 := hid (range_below R4.out h5 hgb)
  have hg5 : gb < w5.heap.size := Nat.lt_of_lt_of_le hgb h5.size
  have S5 := hid hs5
  clear d0 d1 d2 db h5 R4 hs5
  go_upto_region 3 with fail
  go_wp2_with ((with_reducible apply ldA tBk); rfl; exact b1.out)
  refine (rstate_any f w5).mono ?_
  rintro e w6 ⟨rfl, h6⟩
  go_wp2_with fail
  refine (radded_any f k HF.out HK.out 0 (by omega) v (w4.heap.size + 1) w6 (S5.out.below h6)).mono ?_
  rintro e w7 ⟨rfl, h7⟩
  have h57 : Below w5.heap.size w5 w7 := h6.trans (h7.mono h6.size)
  have d2 := hid (b2.out.below h57 b2.out.lt)
  have db := hid (hb.out.trans (h57.mono hb.out.size))
  have R7 := hid (range_below R5.out h57 hg5)
  have hg7 : gb < w7.heap.size := Nat.lt_of_lt_of_le hg5 h57.size
  have S7 := hid (S5.out.below h57)
  clear b1 b2 hb R5 S5 h6 h7 h57 hg5
  have hz : Blk (w7.alloc (.cells (ar 16 fun _ => 0) 61)) w7.heap.size 61 (ar 16 fun _ => 0) := Blk.new _ _ _
  obtain ⟨g7, hge⟩ : ∃ g7, g7 = w7.heap.size := ⟨_, rfl⟩
  go_upto_region 4 with (first | (with_reducible apply alA tSS) | ((with_reducible apply stA tSS); rfl; rfl; exact hz))
  rw [← hge] at hz ⊢
  generalize hw8 : World.setRow _ _ _ = w8
  have y7 := hid (show Blk w8 g7 61 (ar 16 (sx (AesM.ks k) f 0)) by rw [← hw8]; exact hz.setRow_same _)
  have yb := hid (show Below w7.heap.size w7 w8 by rw [← hw8]; exact below_setRow ((Below.refl _ _).alloc (Nat.le_refl _) _) (by omega) _)
  have hg7g : w7.heap.size ≤ g7 := by omega
  have HR := hid (show ∀ j, j < 256 → w7.cell? ⟨gb, ob + j, none⟩ = some (.int .u8 (AesM.boxF j : Nat)) from fun j hj => R7.out j _ (by rw [Array.getElem?_toList, get_ar hj]))
  clear hw8 hz hge R7
  go_wp2_with fail
  go_loopw [8] (fun u wr => ∃ m : Nat, m ≤ 14 ∧ u = .int .i64 ((m : Int) + 1) ∧ Hid (Blk wr g7 61 (ar 16 (sx (AesM.ks k) f m))) ∧ Hid (Below w7.heap.size w7 wr)) (fun u => fun _ => 15 - (intOf u).toNat)
  case atStart => exact ⟨0, by omega, rfl, y7, yb⟩
  case round =>
    clear y7 yb
    obtain ⟨m, hm, rfl, y7, yb⟩ := hrel
    obtain ⟨r, hr⟩ : ∃ r, r = m + 1 := ⟨_, rfl⟩
    have er : (m : Int) + 1 = (r : Int) := by omega
    rw [er]
    have HRM := hid hr
    clear er hr
    by_cases hlr : r ≤ 14
    · have tr : (r : Int) ≤ 14 := by omega
      have SB := hid (sx_bt HKK.out HF.out m)
      obtain ⟨s, hs⟩ : ∃ s, s = sx (AesM.ks k) f m := ⟨_, rfl⟩
      rw [← hs] at y7 SB
      have HS := hid hs
      obtain ⟨T, hT⟩ : ∃ T, T = AesM.turn (AesM.each s AesM.boxF) := ⟨_, rfl⟩
      have HT := hid (show ∀ c i, c < 4 → i < 4 → T (4 * c + i) = AesM.boxF (s ((c + i) % 4 * 4 + i)) from fun c i hc hi => by
        rw [hT]
        unfold AesM.turn AesM.each
        rw [from_at hc hi])
      have HTE := hid hT
      have TB := hid (show Bt T by rw [hT]; exact AesM.turn_bt (AesM.each_bt _))
      clear hs hT
      have hwl := y7.out.lt
      obtain ⟨g9, hg9⟩ : ∃ g9, g9 = wr.heap.size := ⟨_, rfl⟩
      go_upto_region 8 with (with_reducible apply alA tSS)
      rw [← hg9]
      generalize hw9 : World.alloc wr _ = w9
      have z7 := hid (show Blk w9 g7 61 (ar 16 s) by rw [← hw9]; exact y7.out.alloc _)
      have z9 := hid (show Blk w9 g9 61 (ar 16 fun _ => 0) by rw [← hw9]; exact Blk.top rfl hg9)
      have zb := hid (show Below w7.heap.size w7 w9 by rw [← hw9]; exact yb.out.alloc yb.out.size _)
      have h79 : g7 < g9 := by omega
      clear hw9 y7 yb hg9
      go_wp2_with fail
      go_loopw [10] (fun u wr => ∃ c : Nat, c ≤ 4 ∧ u = .int .i64 c ∧ Hid (Blk wr g7 61 (ar 16 s)) ∧ Hid (Blk wr g9 61 (ar 16 (upTo (4 * c) (fun _ => 0) T))) ∧ Hid (Below w7.heap.size w7 wr)) (fun u => fun _ => 4 - (intOf u).toNat)
      case atStart => exact ⟨0, by omega, rfl, z7, by rw [upTo_zero]; exact z9, zb⟩
      case round =>
        clear z7 z9 zb
        obtain ⟨c, hc, rfl, z7, z9, zb⟩ := hrel
        by_cases hlc : c < 4
        · have tc : (c : Int) < 4 := by omega
          go_wp2_with fail
          go_loopw [11] (fun u wr => ∃ i : Nat, i ≤ 4 ∧ u = .int .i64 i ∧ Hid (Blk wr g7 61 (ar 16 s)) ∧ Hid (Blk wr g9 61 (ar 16 (upTo (4 * c + i) (fun _ => 0) T))) ∧ Hid (Below w7.heap.size w7 wr)) (fun u => fun _ => 4 - (intOf u).toNat)
          case atStart => exact ⟨0, by omega, rfl, z7, z9, zb⟩
          case round =>
            clear z7 z9 zb
            obtain ⟨i, hi, rfl, z7, z9, zb⟩ := hrel
            by_cases hli : i < 4
            · have ti : (i : Int) < 4 := by omega
              obtain ⟨n, hn⟩ : ∃ n, n = 4 * c + i := ⟨_, rfl⟩
              obtain ⟨a, ha⟩ : ∃ a, a = c + i := ⟨_, rfl⟩
              obtain ⟨p, hp⟩ : ∃ p, p = a % 4 := ⟨_, rfl⟩
              have tp : (p : Int) < 4 := by omega
              have hn16 : n < 16 := by omega
              have e1 := hid (show IntKind.i64.wrap ((c : Int) + (i : Int)) = (a : Int) from wr_nat (by omega) (by omega))
              have e2 := hid (show (a : Int).tmod 4 = (p : Int) by rw [hp]; rfl)
              have hxy := hid (show c * 4 + i = n by omega)
              have hq16 : p * 4 + i < 16 := by omega
              have C7 := hid ((z7.out.cell (p * 4 + i)).trans (get_ar hq16))
              have tb := hid (show ((s (p * 4 + i) : Nat) : Int) < 256 by have := SB.out (p * 4 + i); omega)
              have CB := hid ((zb.out.cell (p := ⟨gb, ob + s (p * 4 + i), none⟩) hg7).trans (HR.out _ (SB.out (p * 4 + i))))
              have HTN := hid (show AesM.boxF (s (p * 4 + i)) = T n by rw [hn, HT.out c i hlc hli, ← ha, ← hp])
              have HN := hid hn
              clear hn ha hp
              go_wp2_with fail
              refine wp_region_tail (C := Drew wr) 15 (by kernel_rfl) (by kernel_rfl) (by kernel_rfl) (Drew.refl _) ?_
              simp only [List.take_succ_cons, List.take_zero, List.drop_succ_cons, List.drop_zero]
              apply wpK_val
              · rfl
              · intro w' hw'
                go_simp
                first | exact rfl | exact ⟨rfl, hw'⟩
              simp only [Act.put, List.setIfInBounds_toArray, List.set_cons_succ, List.set_cons_zero]
              apply wpK_val
              · rfl
              · intro w' hw'
                go_simp
                first | exact rfl | exact ⟨rfl, hw'⟩
              simp only [Act.put, List.setIfInBounds_toArray, List.set_cons_succ, List.set_cons_zero]
              apply wpK_val
              · rfl
              · intro w' hw'
                go_simp
                first | exact rfl | exact ⟨rfl, hw'⟩
              simp only [Act.put, List.setIfInBounds_toArray, List.set_cons_succ, List.set_cons_zero]
              apply wpK_val
              · rfl
              · intro w' hw'
                go_simp
                first | exact rfl | exact ⟨rfl, hw'⟩
              simp only [Act.put, List.setIfInBounds_toArray, List.set_cons_succ, List.set_cons_zero]
              apply wpK_val
              · rfl
              · intro w' hw'
                go_simp
                first | exact rfl | exact ⟨rfl, hw'⟩
              simp only [Act.put, List.setIfInBounds_toArray, List.set_cons_succ, List.set_cons_zero]
              apply wpK_val
              · rfl
              · intro w' hw'
                have h1 : _ := e1.out
                go_simp
                first | exact rfl | exact ⟨rfl, hw'⟩
              simp only [Act.put, List.setIfInBounds_toArray, List.set_cons_succ, List.set_cons_zero]
              apply wpK_val
              · rfl
              · intro w' hw'
                have h1 : _ := e2.out
                go_simp
                first | exact rfl | exact ⟨rfl, hw'⟩
              simp only [Act.put, List.setIfInBounds_toArray, List.set_cons_succ, List.set_cons_zero]
              apply wpK_val
              · rfl
              · intro w' hw'
                go_simp
                first | exact rfl | exact ⟨rfl, hw'⟩
              simp only [Act.put, List.setIfInBounds_toArray, List.set_cons_succ, List.set_cons_zero]
              apply wpK_val
              · rfl
              · intro w' hw'
                go_simp
                first | exact rfl | exact ⟨rfl, hw'⟩
              simp only [Act.put, List.setIfInBounds_toArray, List.set_cons_succ, List.set_cons_zero]
              apply wpK_val
              · rfl
              · intro w' hw'
                go_simp
                first | exact rfl | exact ⟨rfl, hw'⟩
              simp only [Act.put, List.setIfInBounds_toArray, List.set_cons_succ, List.set_cons_zero]
              apply wpK_val
              · rfl
              · intro w' hw'
                have hcell := hw'.cell C7.out
                go_simp
                first | exact rfl | exact ⟨rfl, hw'⟩
              simp only [Act.put, List.setIfInBounds_toArray, List.set_cons_succ, List.set_cons_zero]
              apply wpK_val
              · rfl
              · intro w' hw'
                have h1 : _ := tb.out
                go_simp
                first | exact rfl | exact ⟨rfl, hw'⟩
              simp only [Act.put, List.setIfInBounds_toArray, List.set_cons_succ, List.set_cons_zero]
              apply wpK_val
              · rfl
              · intro w' hw'
                have hcell := hw'.cell CB.out
                go_simp
                first | exact rfl | exact ⟨rfl, hw'⟩
              simp only [Act.put, List.setIfInBounds_toArray, List.set_cons_succ, List.set_cons_zero]
              apply wpK_val
              · rfl
              · intro w' hw'
                go_simp
                first | exact rfl | exact ⟨rfl, hw'⟩
              simp only [Act.put, List.setIfInBounds_toArray, List.set_cons_succ, List.set_cons_zero]
              apply wpK_val
              · rfl
              · intro w' hw'
                go_simp
                first | exact rfl | exact ⟨rfl, hw'⟩
              simp only [Act.put, List.setIfInBounds_toArray, List.set_cons_succ, List.set_cons_zero]
              refine wpK_nil fun w5 hw5 => ?_
              have r7 := hid (hw5.blk z7.out)
              have r9 := hid (hw5.blk z9.out)
              have rb := hid (hw5.below zb.out)
              have c3 := (r9.out.cell n).trans (get_ar hn16)
              have f3 := r9.out.frozen n
              rw [← hxy.out] at c3 f3
              rw [HTN.out]
              clear z7 z9 zb hw5 C7 CB e1 e2 tb HTN
              go_wp2_with fail
              go_roundw
              case rel =>
                rw [hxy.out]
                have h := r9.out
                rw [← HN.out] at h
                exact ⟨i + 1, by omega, by go_num, hid (r7.out.setCell_other (by show g9 ≠ g7; omega) _), hid (by rw [show 4 * c + (i + 1) = n + 1 by have := HN.out; omega]; exact upTo_step (h.setCell_same n _)), hid (rb.out.setCell (by show w7.heap.size ≤ g9; omega) _)⟩
              case measure => simp [intOf]; omega
            · have ti : decide ((i : Int) < 4) = false := by simp; omega
              obtain rfl : i = 4 := by omega
              go_wp2_with fail
              go_roundw
              case rel => exact ⟨c + 1, by omega, by go_num, z7, hid (by rw [show 4 * (c + 1) = 4 * c + 4 by omega]; exact z9.out), zb⟩
              case measure => simp [intOf]; omega
        · have tc : decide ((c : Int) < 4) = false := by simp; omega
          have q9 := z9.out
          rw [upTo_all (by omega)] at q9
          have Q9 := hid q9
          clear z9 q9
          by_cases h14 : r < 14
          · have t14 : (r : Int) < 14 := by omega
            have HX := hid (show ar 16 (AesM.add (AesM.mixD T (ls AesM.lF)) (AesM.rk (AesM.ks k) r)) = ar 16 (sx (AesM.ks k) f r) by
              refine ar_ext fun j hj => ?_
              unfold sx
              rw [if_neg (by have := HRM.out; omega), HRM.out, AesM.ss]
              show AesM.mixD T (ls AesM.lF) j ^^^ _ = AesM.mix _ j ^^^ _
              rw [AesM.mix_lF TB.out j hj, HTE.out, HS.out]
              unfold sx
              rw [if_neg (by have := HRM.out; omega)])
            have ML := hid fun (g : Nat) (w : World) (h : Blk w g 5 (ar 4 (ls AesM.lF))) => rmixed_any T (ls AesM.lF) TB.out lF_bt g w h
            have MB := hid (show Bt (AesM.mixD T (ls AesM.lF)) from fun n => AesM.mxGo_lt _ _ _ _ _)
            go_wp2_with ((with_reducible apply ldA tSS); rfl; exact Q9.out)
            have q7 := hid (z7.out.alloc (.cells (ar 4 (ls AesM.lF)) 5))
            have q9 := hid (Q9.out.alloc (.cells (ar 4 (ls AesM.lF)) 5))
            have qb := hid (zb.out.alloc zb.out.size (.cells (ar 4 (ls AesM.lF)) 5))
            have hsz : (wr.alloc (.cells (ar 4 (ls AesM.lF)) 5)).heap.size = wr.heap.size + 1 := by simp
            refine (ML.out wr.heap.size _ (Blk.top (by rfl) rfl)).mono ?_
            rintro e wA ⟨rfl, hA⟩
            have u7 := hid (q7.out.below hA q7.out.lt)
            have u9 := hid (q9.out.below hA q9.out.lt)
            have ub := hid (qb.out.trans (hA.mono qb.out.size))
            clear z7 Q9 zb q7 q9 qb hA ML
            go_upto_region 17 with ((with_reducible apply stA tSS); rfl; rfl; exact u9.out)
            generalize hwB : World.setRow _ _ _ = wB
            have v7 := hid (show Blk wB g7 61 (ar 16 s) by rw [← hwB]; exact u7.out.setRow_other (by omega) _)
            have v9 := hid (show Blk wB g9 61 (ar 16 (AesM.mixD T (ls AesM.lF))) by rw [← hwB]; exact u9.out.setRow_same _)
            have vb := hid (show Below w7.heap.size w7 wB by rw [← hwB]; exact below_setRow ub.out (by omega) _)
            clear hwB u7 u9 ub
            go_wp2_with ((with_reducible apply ldA tSS); rfl; exact v9.out)
            refine (radded_any (AesM.mixD T (ls AesM.lF)) k MB.out HK.out r (by omega) v (w4.heap.size + 1) _ (S7.out.below vb.out)).mono ?_
            rintro e wC ⟨rfl, hC⟩
            have q7 := hid (v7.out.below hC v7.out.lt)
            have qb := hid (vb.out.trans (hC.mono vb.out.size))
            clear v7 v9 vb hC
            go_wp2_with ((with_reducible apply stA tSS); rfl; rfl; exact q7.out)
            go_roundw
            case rel => exact ⟨m + 1, by have := HRM.out; omega, by first | (rw [HRM.out]; done) | (rw [HRM.out]; go_num), hid (by rw [← HRM.out, ← HX.out]; exact q7.out.setRow_same _), hid (below_setRow qb.out (by omega) _)⟩
            case measure => simp [intOf]; omega
          · have t14 : decide ((r : Int) < 14) = false := by simp; omega
            have E14 := hid (show r = 14 by omega)
            have HX := hid (show ar 16 (AesM.add T (AesM.rk (AesM.ks k) r)) = ar 16 (sx (AesM.ks k) f r) by
              refine ar_ext fun j hj => ?_
              have hs' := HS.out
              have hm13 : m = 13 := by have := HRM.out; omega
              unfold sx at hs' ⊢
              rw [if_neg (by omega), hm13] at hs'
              rw [if_pos E14.out, HTE.out, hs', E14.out]
              rfl)
            go_upto_region 17 with fail
            go_wp2_with ((with_reducible apply ldA tSS); rfl; exact Q9.out)
            refine (radded_any T k TB.out HK.out r (by omega) v (w4.heap.size + 1) _ (S7.out.below zb.out)).mono ?_
            rintro e wC ⟨rfl, hC⟩
            have q7 := hid (z7.out.below hC z7.out.lt)
            have qb := hid (zb.out.trans (hC.mono zb.out.size))
            clear z7 Q9 zb hC
            go_wp2_with ((with_reducible apply stA tSS); rfl; rfl; exact q7.out)
            go_roundw
            case rel => exact ⟨m + 1, by have := HRM.out; omega, by first | (rw [HRM.out]; done) | (rw [HRM.out]; go_num), hid (by rw [← HRM.out, ← HX.out]; exact q7.out.setRow_same _), hid (below_setRow qb.out (by omega) _)⟩
            case measure => simp [intOf]; omega
    · have tr : decide ((r : Int) ≤ 14) = false := by simp; omega
      have e14 : m = 14 := by have := HRM.out; omega
      have y14 := hid (show Blk wr g7 61 (ar 16 (AesM.sealM (AesM.ks k) f)) by
        have h := y7.out
        rw [e14] at h
        exact h)
      have dR := hid (d2.out.below yb.out d2.out.lt)
      have rb := hid (db.out.trans (yb.out.mono db.out.size))
      clear y7 yb
      go_wp2_with ((with_reducible apply ldA tSS); rfl; exact y14.out)
      refine (rblock_any (AesM.sealM (AesM.ks k) f) wr).mono ?_
      rintro e wE ⟨rfl, hE⟩
      have qR := hid (dR.out.below hE dR.out.lt)
      have qb := hid (rb.out.trans (hE.mono rb.out.size))
      clear dR rb hE y14
      go_wp2_with ((with_reducible apply stA tBk); rfl; rfl; exact qR.out)
      apply ret_ar tBk Try.results7
      · rfl
      · rfl
      · exact qR.out.setRow_same _
      exact ⟨rfl, below_setRow qb.out (by omega) _⟩
end AesP
end Go.Proofs.Ytodjfliakhhjaaa
