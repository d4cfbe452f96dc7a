/-
  Contract of casemateref07.Seal.
  Contracts of casemateref08.Tweak and casemateref08.part.
  As XRegNew; the operations keep the blocks from where the region began on (of those that were there they may turn some).
  What comes in: rows of n bytes by value.
  Ciphers of one key among blocks that stand: Seal and Open asked of them.
  Contract of casemateref07.Open; out of XAesW5.
  Contracts of casemateref08.Seal and casemateref08.Open.
-/
import Derived.Test.YtkcfonlondlmeaaMrgXtsSeals5
import Derived.Laws.MakeOwn
set_option linter.unusedVariables false
namespace Go.Proofs.Ytkcfonlondlmeaa
open Go.ChangeShapes Go.WideShapes Go.ChangeAt Go.RowKit
open AesM (Bt tab ls)
attribute [local go_sem] Gives
namespace AesP
/-- The state behind m rounds. -/
def sx (K f : Nat → Nat) (m : Nat) : Nat → Nat := if m = 14 then AesM.sealM K f else AesM.ss K f m
theorem sx_bt {K f : Nat → Nat} (hK : Bt K) (hf : Bt f) (m : Nat) : Bt (sx K f m) := by
  unfold sx
  split
  · exact AesM.seal_bt hK
  · exact AesM.ss_bt hK hf m
theorem from_at {c i : Nat} (_hc : c < 4) (hi : i < 4) : AesM.from' (4 * c + i) = (c + i) % 4 * 4 + i := by unfold AesM.from'; omega
theorem lF_bt : Bt (ls AesM.lF) := fun i => by
  unfold ls
  rcases Nat.lt_or_ge i 4 with h | h
  · match i, h with
    | 0, _ | 1, _ | 2, _ | 3, _ => decide
  · rw [List.getD_eq_getElem?_getD, List.getElem?_eq_none h]; decide
theorem lB_bt : Bt (ls AesM.lB) := fun i => by
  unfold ls
  rcases Nat.lt_or_ge i 4 with h | h
  · match i, h with
    | 0, _ | 1, _ | 2, _ | 3, _ => decide
  · rw [List.getD_eq_getElem?_getD, List.getElem?_eq_none h]; decide
set_option maxHeartbeats 2400000 in
set_option maxRecDepth 100000 in
theorem rseal_any (k f : Nat → Nat) (hk : Bt k) (hf : Bt f) (w : World) :
    Calls Try.prog 19 #[.agg (ar 32 k), .agg (ar 16 f)] w fun e w' => e = .returned (.agg (ar 16 (AesM.sealM (AesM.ks k) f))) ∧ Below w.heap.size w w' := by
  have HK := hid hk
  have HF := hid hf
  have HKK := hid (AesM.ks_bt hk)
  clear hk hf
  go_enter Try.func19, Try.ntmps19
  go_upto_region 1 with (with_reducible apply alA tBk)
  generalize hw3 : World.alloc (World.alloc (World.alloc w _) _) _ = w3
  have b0 := hid (show Blk w3 w.heap.size 23 (ar 32 k) by rw [← hw3]; exact ((Blk.new _ _ _).alloc _).alloc _)
  have b1 := hid (show Blk w3 (w.heap.size + 1) 35 (ar 16 f) by rw [← hw3]; exact (Blk.top rfl (by simp)).alloc _)
  have b2 := hid (show Blk w3 (w.heap.size + 2) 35 (ar 16 fun _ => 0) by rw [← hw3]; exact Blk.top rfl (by simp))
  have hb := hid (show Below w.heap.size w w3 by rw [← hw3]; exact (((Below.refl _ _).alloc (Nat.le_refl _) _).alloc (by simp) _).alloc (by simp; omega) _)
  clear hw3
  go_wp2_with fail
  refine (boxes_any w3).mono ?_
  rintro e w4 ⟨gb, ob, cb, rfl, hgb, hR, h4⟩
  have d0 := hid (b0.out.below h4 b0.out.lt)
  have d1 := hid (b1.out.below h4 b1.out.lt)
  have d2 := hid (b2.out.below h4 b2.out.lt)
  have db := hid (hb.out.trans (h4.mono hb.out.size))
  have R4 := hid hR
  clear b0 b1 b2 hb h4 hR
  go_upto_region 2 with fail
  go_wp2_with ((with_reducible apply ldA tKey); rfl; exact d0.out)
  refine (words_any k HK.out gb ob cb w4 hgb R4.out).mono ?_
  rintro e w5 ⟨v, rfl, hs5, h5⟩
  have b1 := hid (d1.out.below h5 d1.out.lt)
  have b2 := hid (d2.out.below h5 d2.out.lt)
  have hb := hid (db.out.trans (h5.mono db.out.size))
  have R5 := hid (range_below R4.out h5 hgb)
  have hg5 : gb < w5.heap.size := Nat.lt_of_lt_of_le hgb h5.size
  have S5 := hid hs5
  clear d0 d1 d2 db h5 R4 hs5
  go_upto_region 3 with fail
  go_wp2_with ((with_reducible apply ldA tBk); rfl; exact b1.out)
  refine (rstate_any f w5).mono ?_
  rintro e w6 ⟨rfl, h6⟩
  go_wp2_with fail
  refine (radded_any f k HF.out HK.out 0 (by omega) v (w4.heap.size + 1) w6 (S5.out.below h6)).mono ?_
  rintro e w7 ⟨rfl, h7⟩
  have h57 : Below w5.heap.size w5 w7 := h6.trans (h7.mono h6.size)
  have d2 := hid (b2.out.below h57 b2.out.lt)
  have db := hid (hb.out.trans (h57.mono hb.out.size))
  have R7 := hid (range_below R5.out h57 hg5)
  have hg7 : gb < w7.heap.size := Nat.lt_of_lt_of_le hg5 h57.size
  have S7 := hid (S5.out.below h57)
  clear b1 b2 hb R5 S5 h6 h7 h57 hg5
  have hz : Blk (w7.alloc (.cells (ar 16 fun _ => 0) 81)) w7.heap.size 81 (ar 16 fun _ => 0) := Blk.new _ _ _
  obtain ⟨g7, hge⟩ : ∃ g7, g7 = w7.heap.size := ⟨_, rfl⟩
  go_upto_region 4 with (first | (with_reducible apply alA tSS) | ((with_reducible apply stA tSS); rfl; rfl; exact hz))
  rw [← hge] at hz ⊢
  generalize hw8 : World.setRow _ _ _ = w8
  have y7 := hid (show Blk w8 g7 81 (ar 16 (sx (AesM.ks k) f 0)) by rw [← hw8]; exact hz.setRow_same _)
  have yb := hid (show Below w7.heap.size w7 w8 by rw [← hw8]; exact below_setRow ((Below.refl _ _).alloc (Nat.le_refl _) _) (by omega) _)
  have hg7g : w7.heap.size ≤ g7 := by omega
  have HR := hid (show ∀ j, j < 256 → w7.cell? ⟨gb, ob + j, none⟩ = some (.int .u8 (AesM.boxF j : Nat)) from fun j hj => R7.out j _ (by rw [Array.getElem?_toList, get_ar hj]))
  clear hw8 hz hge R7
  go_wp2_with fail
  go_loopw [8] (fun u wr => ∃ m : Nat, m ≤ 14 ∧ u = .int .i64 ((m : Int) + 1) ∧ Hid (Blk wr g7 81 (ar 16 (sx (AesM.ks k) f m))) ∧ Hid (Below w7.heap.size w7 wr)) (fun u => fun _ => 15 - (intOf u).toNat)
  case atStart => exact ⟨0, by omega, rfl, y7, yb⟩
  case round =>
    clear y7 yb
    obtain ⟨m, hm, rfl, y7, yb⟩ := hrel
    obtain ⟨r, hr⟩ : ∃ r, r = m + 1 := ⟨_, rfl⟩
    have er : (m : Int) + 1 = (r : Int) := by omega
    rw [er]
    have HRM := hid hr
    clear er hr
    by_cases hlr : r ≤ 14
    · have tr : (r : Int) ≤ 14 := by omega
      have SB := hid (sx_bt HKK.out HF.out m)
      obtain ⟨s, hs⟩ : ∃ s, s = sx (AesM.ks k) f m := ⟨_, rfl⟩
      rw [← hs] at y7 SB
      have HS := hid hs
      obtain ⟨T, hT⟩ : ∃ T, T = AesM.turn (AesM.each s AesM.boxF) := ⟨_, rfl⟩
      have HT := hid (show ∀ c i, c < 4 → i < 4 → T (4 * c + i) = AesM.boxF (s ((c + i) % 4 * 4 + i)) from fun c i hc hi => by
        rw [hT]
        unfold AesM.turn AesM.each
        rw [from_at hc hi])
      have HTE := hid hT
      have TB := hid (show Bt T by rw [hT]; exact AesM.turn_bt (AesM.each_bt _))
      clear hs hT
      have hwl := y7.out.lt
      obtain ⟨g9, hg9⟩ : ∃ g9, g9 = wr.heap.size := ⟨_, rfl⟩
      go_upto_region 8 with (with_reducible apply alA tSS)
      rw [← hg9]
      generalize hw9 : World.alloc wr _ = w9
      have z7 := hid (show Blk w9 g7 81 (ar 16 s) by rw [← hw9]; exact y7.out.alloc _)
      have z9 := hid (show Blk w9 g9 81 (ar 16 fun _ => 0) by rw [← hw9]; exact Blk.top rfl hg9)
      have zb := hid (show Below w7.heap.size w7 w9 by rw [← hw9]; exact yb.out.alloc yb.out.size _)
      have h79 : g7 < g9 := by omega
      clear hw9 y7 yb hg9
      go_wp2_with fail
      go_loopw [10] (fun u wr => ∃ c : Nat, c ≤ 4 ∧ u = .int .i64 c ∧ Hid (Blk wr g7 81 (ar 16 s)) ∧ Hid (Blk wr g9 81 (ar 16 (upTo (4 * c) (fun _ => 0) T))) ∧ Hid (Below w7.heap.size w7 wr)) (fun u => fun _ => 4 - (intOf u).toNat)
      case atStart => exact ⟨0, by omega, rfl, z7, by rw [upTo_zero]; exact z9, zb⟩
      case round =>
        clear z7 z9 zb
        obtain ⟨c, hc, rfl, z7, z9, zb⟩ := hrel
        by_cases hlc : c < 4
        · have tc : (c : Int) < 4 := by omega
          go_wp2_with fail
          go_loopw [11] (fun u wr => ∃ i : Nat, i ≤ 4 ∧ u = .int .i64 i ∧ Hid (Blk wr g7 81 (ar 16 s)) ∧ Hid (Blk wr g9 81 (ar 16 (upTo (4 * c + i) (fun _ => 0) T))) ∧ Hid (Below w7.heap.size w7 wr)) (fun u => fun _ => 4 - (intOf u).toNat)
          case atStart => exact ⟨0, by omega, rfl, z7, z9, zb⟩
          case round =>
            clear z7 z9 zb
            obtain ⟨i, hi, rfl, z7, z9, zb⟩ := hrel
            by_cases hli : i < 4
            · have ti : (i : Int) < 4 := by omega
              obtain ⟨n, hn⟩ : ∃ n, n = 4 * c + i := ⟨_, rfl⟩
              obtain ⟨a, ha⟩ : ∃ a, a = c + i := ⟨_, rfl⟩
              obtain ⟨p, hp⟩ : ∃ p, p = a % 4 := ⟨_, rfl⟩
              have tp : (p : Int) < 4 := by omega
              have hn16 : n < 16 := by omega
              have e1 := hid (show IntKind.i64.wrap ((c : Int) + (i : Int)) = (a : Int) from wr_nat (by omega) (by omega))
              have e2 := hid (show (a : Int).tmod 4 = (p : Int) by rw [hp]; rfl)
              have hxy := hid (show c * 4 + i = n by omega)
              have hq16 : p * 4 + i < 16 := by omega
              have C7 := hid ((z7.out.cell (p * 4 + i)).trans (get_ar hq16))
              have tb := hid (show ((s (p * 4 + i) : Nat) : Int) < 256 by have := SB.out (p * 4 + i); omega)
              have CB := hid ((zb.out.cell (p := ⟨gb, ob + s (p * 4 + i), none⟩) hg7).trans (HR.out _ (SB.out (p * 4 + i))))
              have HTN := hid (show AesM.boxF (s (p * 4 + i)) = T n by rw [hn, HT.out c i hlc hli, ← ha, ← hp])
              have HN := hid hn
              clear hn ha hp
              go_wp2_with fail
              refine wp_region_tail (C := Drew wr) 15 (by kernel_rfl) (by kernel_rfl) (by kernel_rfl) (Drew.refl _) ?_
              simp only [List.take_succ_cons, List.take_zero, List.drop_succ_cons, List.drop_zero]
              apply wpK_val
              · rfl
              · intro w' hw'
                go_simp
                first | exact rfl | exact ⟨rfl, hw'⟩
              simp only [Act.put, List.setIfInBounds_toArray, List.set_cons_succ, List.set_cons_zero]
              apply wpK_val
              · rfl
              · intro w' hw'
                go_simp
                first | exact rfl | exact ⟨rfl, hw'⟩
              simp only [Act.put, List.setIfInBounds_toArray, List.set_cons_succ, List.set_cons_zero]
              apply wpK_val
              · rfl
              · intro w' hw'
                go_simp
                first | exact rfl | exact ⟨rfl, hw'⟩
              simp only [Act.put, List.setIfInBounds_toArray, List.set_cons_succ, List.set_cons_zero]
              apply wpK_val
              · rfl
              · intro w' hw'
                go_simp
                first | exact rfl | exact ⟨rfl, hw'⟩
              simp only [Act.put, List.setIfInBounds_toArray, List.set_cons_succ, List.set_cons_zero]
              apply wpK_val
              · rfl
              · intro w' hw'
                go_simp
                first | exact rfl | exact ⟨rfl, hw'⟩
              simp only [Act.put, List.setIfInBounds_toArray, List.set_cons_succ, List.set_cons_zero]
              apply wpK_val
              · rfl
              · intro w' hw'
                have h1 : _ := e1.out
                go_simp
                first | exact rfl | exact ⟨rfl, hw'⟩
              simp only [Act.put, List.setIfInBounds_toArray, List.set_cons_succ, List.set_cons_zero]
              apply wpK_val
              · rfl
              · intro w' hw'
                have h1 : _ := e2.out
                go_simp
                first | exact rfl | exact ⟨rfl, hw'⟩
              simp only [Act.put, List.setIfInBounds_toArray, List.set_cons_succ, List.set_cons_zero]
              apply wpK_val
              · rfl
              · intro w' hw'
                go_simp
                first | exact rfl | exact ⟨rfl, hw'⟩
              simp only [Act.put, List.setIfInBounds_toArray, List.set_cons_succ, List.set_cons_zero]
              apply wpK_val
              · rfl
              · intro w' hw'
                go_simp
                first | exact rfl | exact ⟨rfl, hw'⟩
              simp only [Act.put, List.setIfInBounds_toArray, List.set_cons_succ, List.set_cons_zero]
              apply wpK_val
              · rfl
              · intro w' hw'
                go_simp
                first | exact rfl | exact ⟨rfl, hw'⟩
              simp only [Act.put, List.setIfInBounds_toArray, List.set_cons_succ, List.set_cons_zero]
              apply wpK_val
              · rfl
              · intro w' hw'
                have hcell := hw'.cell C7.out
                go_simp
                first | exact rfl | exact ⟨rfl, hw'⟩
              simp only [Act.put, List.setIfInBounds_toArray, List.set_cons_succ, List.set_cons_zero]
              apply wpK_val
              · rfl
              · intro w' hw'
                have h1 : _ := tb.out
                go_simp
                first | exact rfl | exact ⟨rfl, hw'⟩
              simp only [Act.put, List.setIfInBounds_toArray, List.set_cons_succ, List.set_cons_zero]
              apply wpK_val
              · rfl
              · intro w' hw'
                have hcell := hw'.cell CB.out
                go_simp
                first | exact rfl | exact ⟨rfl, hw'⟩
              simp only [Act.put, List.setIfInBounds_toArray, List.set_cons_succ, List.set_cons_zero]
              apply wpK_val
              · rfl
              · intro w' hw'
                go_simp
                first | exact rfl | exact ⟨rfl, hw'⟩
              simp only [Act.put, List.setIfInBounds_toArray, List.set_cons_succ, List.set_cons_zero]
              apply wpK_val
              · rfl
              · intro w' hw'
                go_simp
                first | exact rfl | exact ⟨rfl, hw'⟩
              simp only [Act.put, List.setIfInBounds_toArray, List.set_cons_succ, List.set_cons_zero]
              refine wpK_nil fun w5 hw5 => ?_
              have r7 := hid (hw5.blk z7.out)
              have r9 := hid (hw5.blk z9.out)
              have rb := hid (hw5.below zb.out)
              have c3 := (r9.out.cell n).trans (get_ar hn16)
              have f3 := r9.out.frozen n
              rw [← hxy.out] at c3 f3
              rw [HTN.out]
              clear z7 z9 zb hw5 C7 CB e1 e2 tb HTN
              go_wp2_with fail
              go_roundw
              case rel =>
                rw [hxy.out]
                have h := r9.out
                rw [← HN.out] at h
                exact ⟨i + 1, by omega, by go_num, hid (r7.out.setCell_other (by show g9 ≠ g7; omega) _), hid (by rw [show 4 * c + (i + 1) = n + 1 by have := HN.out; omega]; exact upTo_step (h.setCell_same n _)), hid (rb.out.setCell (by show w7.heap.size ≤ g9; omega) _)⟩
              case measure => simp [intOf]; omega
            · have ti : decide ((i : Int) < 4) = false := by simp; omega
              obtain rfl : i = 4 := by omega
              go_wp2_with fail
              go_roundw
              case rel => exact ⟨c + 1, by omega, by go_num, z7, hid (by rw [show 4 * (c + 1) = 4 * c + 4 by omega]; exact z9.out), zb⟩
              case measure => simp [intOf]; omega
        · have tc : decide ((c : Int) < 4) = false := by simp; omega
          have q9 := z9.out
          rw [upTo_all (by omega)] at q9
          have Q9 := hid q9
          clear z9 q9
          by_cases h14 : r < 14
          · have t14 : (r : Int) < 14 := by omega
            have HX := hid (show ar 16 (AesM.add (AesM.mixD T (ls AesM.lF)) (AesM.rk (AesM.ks k) r)) = ar 16 (sx (AesM.ks k) f r) by
              refine ar_ext fun j hj => ?_
              unfold sx
              rw [if_neg (by have := HRM.out; omega), HRM.out, AesM.ss]
              show AesM.mixD T (ls AesM.lF) j ^^^ _ = AesM.mix _ j ^^^ _
              rw [AesM.mix_lF TB.out j hj, HTE.out, HS.out]
              unfold sx
              rw [if_neg (by have := HRM.out; omega)])
            have ML := hid fun (g : Nat) (w : World) (h : Blk w g 5 (ar 4 (ls AesM.lF))) => rmixed_any T (ls AesM.lF) TB.out lF_bt g w h
            have MB := hid (show Bt (AesM.mixD T (ls AesM.lF)) from fun n => AesM.mxGo_lt _ _ _ _ _)
            go_wp2_with ((with_reducible apply ldA tSS); rfl; exact Q9.out)
            have q7 := hid (z7.out.alloc (.cells (ar 4 (ls AesM.lF)) 5))
            have q9 := hid (Q9.out.alloc (.cells (ar 4 (ls AesM.lF)) 5))
            have qb := hid (zb.out.alloc zb.out.size (.cells (ar 4 (ls AesM.lF)) 5))
            have hsz : (wr.alloc (.cells (ar 4 (ls AesM.lF)) 5)).heap.size = wr.heap.size + 1 := by simp
            refine (ML.out wr.heap.size _ (Blk.top (by rfl) rfl)).mono ?_
            rintro e wA ⟨rfl, hA⟩
            have u7 := hid (q7.out.below hA q7.out.lt)
            have u9 := hid (q9.out.below hA q9.out.lt)
            have ub := hid (qb.out.trans (hA.mono qb.out.size))
            clear z7 Q9 zb q7 q9 qb hA ML
            go_upto_region 17 with ((with_reducible apply stA tSS); rfl; rfl; exact u9.out)
            generalize hwB : World.setRow _ _ _ = wB
            have v7 := hid (show Blk wB g7 81 (ar 16 s) by rw [← hwB]; exact u7.out.setRow_other (by omega) _)
            have v9 := hid (show Blk wB g9 81 (ar 16 (AesM.mixD T (ls AesM.lF))) by rw [← hwB]; exact u9.out.setRow_same _)
            have vb := hid (show Below w7.heap.size w7 wB by rw [← hwB]; exact below_setRow ub.out (by omega) _)
            clear hwB u7 u9 ub
            go_wp2_with ((with_reducible apply ldA tSS); rfl; exact v9.out)
            refine (radded_any (AesM.mixD T (ls AesM.lF)) k MB.out HK.out r (by omega) v (w4.heap.size + 1) _ (S7.out.below vb.out)).mono ?_
            rintro e wC ⟨rfl, hC⟩
            have q7 := hid (v7.out.below hC v7.out.lt)
            have qb := hid (vb.out.trans (hC.mono vb.out.size))
            clear v7 v9 vb hC
            go_wp2_with ((with_reducible apply stA tSS); rfl; rfl; exact q7.out)
            go_roundw
            case rel => exact ⟨m + 1, by have := HRM.out; omega, by first | (rw [HRM.out]; done) | (rw [HRM.out]; go_num), hid (by rw [← HRM.out, ← HX.out]; exact q7.out.setRow_same _), hid (below_setRow qb.out (by omega) _)⟩
            case measure => simp [intOf]; omega
          · have t14 : decide ((r : Int) < 14) = false := by simp; omega
            have E14 := hid (show r = 14 by omega)
            have HX := hid (show ar 16 (AesM.add T (AesM.rk (AesM.ks k) r)) = ar 16 (sx (AesM.ks k) f r) by
              refine ar_ext fun j hj => ?_
              have hs' := HS.out
              have hm13 : m = 13 := by have := HRM.out; omega
              unfold sx at hs' ⊢
              rw [if_neg (by omega), hm13] at hs'
              rw [if_pos E14.out, HTE.out, hs', E14.out]
              rfl)
            go_upto_region 17 with fail
            go_wp2_with ((with_reducible apply ldA tSS); rfl; exact Q9.out)
            refine (radded_any T k TB.out HK.out r (by omega) v (w4.heap.size + 1) _ (S7.out.below zb.out)).mono ?_
            rintro e wC ⟨rfl, hC⟩
            have q7 := hid (z7.out.below hC z7.out.lt)
            have qb := hid (zb.out.trans (hC.mono zb.out.size))
            clear z7 Q9 zb hC
            go_wp2_with ((with_reducible apply stA tSS); rfl; rfl; exact q7.out)
            go_roundw
            case rel => exact ⟨m + 1, by have := HRM.out; omega, by first | (rw [HRM.out]; done) | (rw [HRM.out]; go_num), hid (by rw [← HRM.out, ← HX.out]; exact q7.out.setRow_same _), hid (below_setRow qb.out (by omega) _)⟩
            case measure => simp [intOf]; omega
    · have tr : decide ((r : Int) ≤ 14) = false := by simp; omega
      have e14 : m = 14 := by have := HRM.out; omega
      have y14 := hid (show Blk wr g7 81 (ar 16 (AesM.sealM (AesM.ks k) f)) by
        have h := y7.out
        rw [e14] at h
        exact h)
      have dR := hid (d2.out.below yb.out d2.out.lt)
      have rb := hid (db.out.trans (yb.out.mono db.out.size))
      clear y7 yb
      go_wp2_with ((with_reducible apply ldA tSS); rfl; exact y14.out)
      refine (rblock_any (AesM.sealM (AesM.ks k) f) wr).mono ?_
      rintro e wE ⟨rfl, hE⟩
      have qR := hid (dR.out.below hE dR.out.lt)
      have qb := hid (rb.out.trans (hE.mono rb.out.size))
      clear dR rb hE y14
      go_wp2_with ((with_reducible apply stA tBk); rfl; rfl; exact qR.out)
      apply ret_ar tBk Try.results19
      · rfl
      · rfl
      · exact qR.out.setRow_same _
      exact ⟨rfl, below_setRow qb.out (by omega) _⟩
end AesP
end Go.Proofs.Ytkcfonlondlmeaa
namespace Go.Proofs.Ytkcfonlondlmeaa
open Go.ChangeShapes Go.WideShapes Go.ChangeAt Go.RowKit
open AesM (Bt Q16)
open AesP (tBk tKey wr_nat rseal_any)
attribute [local go_sem] Gives
namespace XtP
theorem tw_high {n i : Nat} (hn : n < 18446744073709551616) (hi : 8 ≤ i) : XtM.tw n i = 0 := by
  unfold XtM.tw
  have : (256 : Nat) ^ 8 ≤ 256 ^ i := Nat.pow_le_pow_right (by omega) hi
  rw [Nat.div_eq_of_lt (by have h : (256 : Nat) ^ 8 = 18446744073709551616 := rfl; omega)]
set_option maxHeartbeats 400000 in
set_option maxRecDepth 100000 in
theorem part_any (s t : Nat → Nat) (k : Nat) (hk : k < 4) (hs : Bt s) (ht : Bt t) (w : World) :
    Calls Try.prog 20 #[.agg (ar 64 s), .int .i64 k, .agg (ar 16 t)] w fun e w' => e = .returned (.agg (ar 16 (AesM.add (XtM.part s k) t))) ∧ Below w.heap.size w w' := by
  have HS := hid hs
  have HT := hid ht
  clear hs ht
  obtain ⟨q, hq⟩ : ∃ q, q = 16 * k := ⟨_, rfl⟩
  have EQ := hid (show IntKind.i64.wrap (16 * (k : Int)) = (q : Int) from wr_nat (by omega) (by omega))
  have HQ := hid hq
  have hq48 : q ≤ 48 := by omega
  clear hq
  go_enter Try.func20, Try.ntmps20
  go_upto_region 2 with (with_reducible apply alA tBk)
  generalize hw3 : World.alloc (World.alloc (World.alloc (World.alloc w _) _) _) _ = w3
  have b0 : Blk w3 w.heap.size 28 (ar 64 s) := by rw [← hw3]; exact (((Blk.new _ _ _).alloc _).alloc _).alloc _
  have b1 : Blk w3 (w.heap.size + 1) 35 (ar 16 t) := by rw [← hw3]; exact ((Blk.top rfl (by simp)).alloc _).alloc _
  have b2 : Blk w3 (w.heap.size + 1 + 1) 35 (ar 16 fun _ => 0) := by rw [← hw3]; exact (Blk.top rfl (by simp)).alloc _
  have b3 : Blk w3 (w.heap.size + 1 + 1 + 1) 35 (ar 16 fun _ => 0) := by rw [← hw3]; exact Blk.top rfl (by simp)
  have hb : Below w.heap.size w w3 := by rw [← hw3]; exact ((((Below.refl _ _).alloc (Nat.le_refl _) _).alloc (by simp) _).alloc (by simp; omega) _).alloc (by simp; omega) _
  clear hw3
  go_wp2_with fail
  go_loopw [8] (fun i wr => ∃ j : Nat, j ≤ 16 ∧ i = .int .i64 j ∧ Blk wr w.heap.size 28 (ar 64 s) ∧ Blk wr (w.heap.size + 1) 35 (ar 16 t) ∧ Blk wr (w.heap.size + 1 + 1) 35 (ar 16 fun _ => 0) ∧ Blk wr (w.heap.size + 1 + 1 + 1) 35 (ar 16 (upTo j (fun _ => 0) (AesM.add (XtM.part s k) t))) ∧ Below w.heap.size w wr) (fun i _ => 16 - (intOf i).toNat)
  case atStart => exact ⟨0, by omega, rfl, b0, b1, b2, by rw [upTo_zero]; exact b3, hb⟩
  case round =>
    clear b0 b1 b2 b3 hb
    obtain ⟨j, hj, rfl, b0, b1, b2, b3, hb⟩ := hrel
    by_cases hlt : j < 16
    · have tj : (j : Int) < 16 := by omega
      obtain ⟨p, hp⟩ : ∃ p, p = q + j := ⟨_, rfl⟩
      have E1 := EQ.out
      have E2 : IntKind.i64.wrap ((q : Int) + (j : Int)) = (p : Int) := wr_nat (by omega) (by omega)
      have tp : (p : Int) < 64 := by omega
      have sp : s p = XtM.part s k j := by unfold XtM.part; rw [hp, HQ.out]
      have c0 : wr.cell? ⟨w.heap.size, p, none⟩ = some (.int .u8 (XtM.part s k j : Nat)) := by rw [b0.cell, get_ar (by omega), sp]
      have c1 : wr.cell? ⟨w.heap.size + 1, j, none⟩ = some (.int .u8 (t j : Nat)) := by rw [b1.cell, get_ar hlt]
      have c3 := b3.frozen j
      have c4 := (b3.cell j).trans (get_ar hlt)
      clear hp sp
      go_wp2_with fail
      go_still_tail 12, (by kernel_rfl)
      change wpList _ _ _ _ _ wr.drew
      rw [u8_xor_nat _ _ (XtM.part_bt HS.out k j) (HT.out j)]
      go_wp2_with fail
      go_roundw
      case rel => exact ⟨j + 1, by omega, by go_num, (b0.setCell_other (by simp; omega) _).drew, (b1.setCell_other (by simp; omega) _).drew, (b2.setCell_other (by simp) _).drew, upTo_step (b3.setCell_same j _).drew, (hb.setCell (by simp; omega) _).drew⟩
      case measure => simp [intOf]; omega
    · have tj : decide ((j : Int) < 16) = false := by simp; omega
      rw [upTo_all (by omega)] at b3
      go_wp2_with (first | ((with_reducible apply ldA tBk); rfl; assumption) | ((with_reducible apply stA tBk); rfl; rfl; assumption))
      apply ret_ar tBk Try.results20
      · rfl
      · rfl
      · exact b2.setRow_same _
      exact ⟨rfl, below_setRow hb (by omega) _⟩
set_option maxHeartbeats 400000 in
set_option maxRecDepth 100000 in
theorem tweak_any (f : Nat → Nat) (hf : Bt f) (n k : Nat) (hn : n < 18446744073709551616) (hk : k < 4) (w : World) :
    Calls Try.prog 18 #[.agg (ar 32 f), .int .u64 n, .int .i64 k] w fun e w' => e = .returned (.agg (ar 16 (XtM.tk (AesM.sealM (AesM.ks f) (XtM.tw n)) k))) ∧ Below w.heap.size w w' := by
  have HF := hid hf
  have HK := hid (AesM.ks_bt hf)
  have HN := hid hn
  clear hf
  go_enter Try.func18, Try.ntmps18
  go_upto_region 2 with (with_reducible apply alA tBk)
  generalize hw3 : World.alloc (World.alloc (World.alloc w _) _) _ = w3
  have b0 := hid (show Blk w3 w.heap.size 23 (ar 32 f) by rw [← hw3]; exact ((Blk.new _ _ _).alloc _).alloc _)
  have b1 := hid (show Blk w3 (w.heap.size + 1) 35 (ar 16 fun _ => 0) by rw [← hw3]; exact (Blk.top rfl (by simp)).alloc _)
  have b2 := hid (show Blk w3 (w.heap.size + 1 + 1) 35 (ar 16 fun _ => 0) by rw [← hw3]; exact Blk.top rfl (by simp))
  have hb := hid (show Below w.heap.size w w3 by rw [← hw3]; exact (((Below.refl _ _).alloc (Nat.le_refl _) _).alloc (by simp) _).alloc (by simp; omega) _)
  clear hw3
  go_wp2_with fail
  go_loopw [1, 8] (fun m i wr => ∃ j : Nat, j ≤ 8 ∧ i = .int .i64 j ∧ m = .int .u64 (n / 256 ^ j : Nat) ∧ Hid (Blk wr w.heap.size 23 (ar 32 f)) ∧ Hid (Blk wr (w.heap.size + 1) 35 (ar 16 fun _ => 0)) ∧ Hid (Blk wr (w.heap.size + 1 + 1) 35 (ar 16 (upTo j (fun _ => 0) (XtM.tw n)))) ∧ Hid (Below w.heap.size w wr)) (fun _ i _ => 8 - (intOf i).toNat)
  case atStart => exact ⟨0, by omega, rfl, by rw [Nat.pow_zero, Nat.div_one], b0, b1, by rw [upTo_zero]; exact b2, hb⟩
  case round =>
    clear b0 b1 b2 hb
    obtain ⟨j, hj, rfl, rfl, b0, b1, b2, hb⟩ := hrel
    obtain ⟨p, hp⟩ : ∃ p, p = n / 256 ^ j := ⟨_, rfl⟩
    have hpl : p ≤ n := by rw [hp]; exact Nat.div_le_self _ _
    rw [← hp]
    have H8 : ((p : Int) % 256) = ((XtM.tw n j : Nat) : Int) := by unfold XtM.tw; rw [← hp]; omega
    have HS := hid (show (p : Int) / 256 = ((n / 256 ^ (j + 1) : Nat) : Int) by rw [Nat.pow_succ, ← Nat.div_div_eq_div_mul, ← hp]; omega)
    clear hp
    by_cases hlt : j < 8
    · have tj : (j : Int) < 8 := by omega
      have tj16 : (j : Int) < 16 := by omega
      have c3 := b2.out.frozen j
      have e3 := (b2.out.cell j).trans (get_ar (show j < 16 by omega))
      go_wp2_with fail
      go_roundw
      case rel => exact ⟨j + 1, by omega, by go_num, by rw [HS.out], hid (b0.out.setCell_other (by simp; omega) _), hid (b1.out.setCell_other (by simp) _), hid (upTo_step (b2.out.setCell_same j _)), hid (hb.out.setCell (by simp; omega) _)⟩
      case measure => simp [intOf]; omega
    · have tj : decide ((j : Int) < 8) = false := by simp; omega
      obtain rfl : j = 8 := by omega
      have e : ar 16 (upTo 8 (fun _ => 0) (XtM.tw n)) = ar 16 (XtM.tw n) := ar_ext fun i hi => by
        unfold upTo
        by_cases h : i < 8
        · rw [if_pos h]
        · rw [if_neg h, tw_high HN.out (by omega)]
      have d2 := b2.out
      rw [e] at d2
      clear e b2
      go_wp2_with (first | ((with_reducible apply ldA tBk); rfl; exact d2) | ((with_reducible apply ldA tKey); rfl; exact b0.out))
      refine (rseal_any f (XtM.tw n) HF.out (XtM.tw_bt n) wr).mono ?_
      rintro e w5 ⟨rfl, h5⟩
      obtain ⟨T, hT⟩ : ∃ T, T = AesM.sealM (AesM.ks f) (XtM.tw n) := ⟨_, rfl⟩
      have HTB := hid (show Bt T by rw [hT]; exact AesM.seal_bt HK.out)
      have HTE := hid hT
      rw [← hT]
      have e1 := hid (b1.out.below h5 b1.out.lt)
      have e2 := d2.below h5 d2.lt
      have eb := hid (hb.out.trans (h5.mono hb.out.size))
      clear b0 b1 d2 hb h5 H8 HS hpl hT
      go_upto_region 8 with ((with_reducible apply stA tBk); rfl; rfl; exact e2)
      generalize hw6 : World.setRow _ _ _ = w6
      have c1 := hid (show Blk w6 (w.heap.size + 1) 35 (ar 16 fun _ => 0) by rw [← hw6]; exact e1.out.setRow_other (by omega) _)
      have c2 := hid (show Blk w6 (w.heap.size + 1 + 1) 35 (ar 16 T) by rw [← hw6]; exact e2.setRow_same _)
      have cb := hid (show Below w.heap.size w w6 by rw [← hw6]; exact below_setRow eb.out (by omega) _)
      clear hw6 e1 e2 eb
      go_wp2_with fail
      go_loopw [9] (fun i wr => ∃ j : Nat, j ≤ k ∧ i = .int .i64 j ∧ Hid (Blk wr (w.heap.size + 1) 35 (ar 16 fun _ => 0)) ∧ Hid (Blk wr (w.heap.size + 1 + 1) 35 (ar 16 (XtM.tk T j))) ∧ Hid (Below w.heap.size w wr)) (fun i _ => k - (intOf i).toNat)
      case atStart => exact ⟨0, by omega, rfl, c1, c2, cb⟩
      case round =>
        clear c1 c2 cb
        obtain ⟨j, hj, rfl, c1, c2, cb⟩ := hrel
        by_cases hlt : j < k
        · have tj : (j : Int) < (k : Int) := by omega
          have d2 := c2.out
          go_wp2_with ((with_reducible apply ldA tBk); rfl; exact d2)
          refine (rdouble_any (XtM.tk T j) (XtM.tk_bt HTB.out j) _).mono ?_
          rintro e w7 ⟨rfl, h7⟩
          have e1 := hid (c1.out.below h7 c1.out.lt)
          have e2 := d2.below h7 d2.lt
          have eb := hid (cb.out.trans (h7.mono cb.out.size))
          clear c1 c2 d2 cb h7
          go_wp2_with ((with_reducible apply stA tBk); rfl; rfl; exact e2)
          go_roundw
          case rel => exact ⟨j + 1, by omega, by go_num, hid (e1.out.setRow_other (by omega) _), hid (e2.setRow_same _), hid (below_setRow eb.out (by omega) _)⟩
          case measure => simp [intOf]; omega
        · have tj : decide ((j : Int) < (k : Int)) = false := by simp; omega
          obtain rfl : j = k := by omega
          have d1 := c1.out
          have d2 := c2.out
          go_wp2_with (first | ((with_reducible apply ldA tBk); rfl; exact d2) | ((with_reducible apply stA tBk); rfl; rfl; exact d1))
          apply ret_ar tBk Try.results18
          · rfl
          · rfl
          · exact d1.setRow_same _
          exact ⟨by rw [HTE.out], below_setRow cb.out (by omega) _⟩
end XtP
end Go.Proofs.Ytkcfonlondlmeaa
namespace Go.Proofs.Ytkcfonlondlmeaa
open Go.RowKit
/-- The blocks from B on stand. -/
def Kp (B : Nat) (w w' : World) : Prop := ∀ k, B ≤ k → k < w.heap.size → w'.heap[k]? = w.heap[k]?
theorem Kp.refl (B : Nat) (w : World) : Kp B w w := fun _ _ _ => rfl
theorem Kp.of_below {B : Nat} {w w' : World} (h : Below w.heap.size w w') : Kp B w w' := fun k _ hk => h.block k hk
theorem Kp.of_only {B g : Nat} {w w' : World} (h : w.grownBy w' (some g)) (hg : g < B) : Kp B w w' := fun k hB hk => h.block k hk (fun e => by injection e; omega)
theorem Blk.kp {w w' : World} {B g : Nat} {t : TypeId} {cs : Array Value} (h : Blk w g t cs) (k : Kp B w w') (hB : B ≤ g) : Blk w' g t cs := (k g hB h.lt).trans h
section
variable {P : Program} {ops : Array Oper}
/-- The operations in the order of the text; each hands on a world of the class, in which the blocks from B on stand. -/
def wpG (P : Program) (ops : Array Oper) (B : Nat) (C : World → Prop) (Q : Act → Prop) : List Oper → Act → Prop
  | [], a => Q a
  | o :: rest, a => ∃ v, ((Region.wanted o (yielded ops a.tmps) = true ∧ ∀ w, C w → Gives P o a w v fun w' => C w' ∧ Kp B w w') ∨ (Region.wanted o (yielded ops a.tmps) = false ∧ v = undef)) ∧ wpG P ops B C Q rest (a.put o.dst v)
section
variable {B : Nat} {C : World → Prop} {Qk : Act → Prop} {o : Oper} {rest : List Oper} {a : Act} {v : Value}
theorem wpG_nil (h : Qk a) : wpG P ops B C Qk [] a := h
theorem wpG_val (hw : Region.wanted o (yielded ops a.tmps) = true) (h1 : ∀ w, C w → Gives P o a w v fun w' => C w' ∧ Kp B w w') (h2 : wpG P ops B C Qk rest (a.put o.dst v)) : wpG P ops B C Qk (o :: rest) a := ⟨v, .inl ⟨hw, h1⟩, h2⟩
end
theorem wpG_vals {B : Nat} {C : World → Prop} {Qk : Act → Prop} : ∀ (l : List Oper) (a : Act), wpG P ops B C Qk l a → ∃ vals : Nat → Value, Qk (lexF l vals l.length a) ∧
    ∀ i o, l[i]? = some o → ((Region.wanted o (yielded ops (lexF l vals i a).tmps) = true ∧ ∀ w, C w → Gives P o (lexF l vals i a) w (vals i) fun w' => C w' ∧ Kp B w w') ∨ (Region.wanted o (yielded ops (lexF l vals i a).tmps) = false ∧ vals i = undef))
  | [], a, h => ⟨fun _ => undef, h, fun i o hi => by simp at hi⟩
  | o :: l, a, h => by
    obtain ⟨v, h1, h2⟩ := h
    obtain ⟨vals, hq, hs⟩ := wpG_vals l _ h2
    refine ⟨fun j => match j with | 0 => v | j + 1 => vals j, ?_, fun i o' hi => ?_⟩
    · rw [List.length_cons, lexF_cons]; exact hq
    · cases i with
      | zero =>
        simp only [List.getElem?_cons_zero, Option.some.injEq] at hi
        subst hi
        exact h1
      | succ i =>
        rw [lexF_cons]
        exact hs i o' (by simpa using hi)
theorem wp_region_new2g {id : Nat} {Q : Exit → Act → World → Prop} {C : World → Prop} {a : Act} {w : World} {l : List Oper} (n : Nat) (T : TypeId) (z : Array Value) (d1 d2 : Tmp) {t1 t2 : TypeId} {p1 p2 : String} {e1 e2 : Array Edge}
    (hl1 : l[n]? = some ⟨some d1, .alloc T, t1, p1, e1, none⟩) (hl2 : l[n + 1]? = some ⟨some d2, .alloc T, t2, p2, e2, none⟩)
    (hm : P.follows .mixedOrders = true) (ht : tidy l.toArray = true) (hB : tailB l.toArray (n + 2) = true)
    (ha : ∀ w, (Instr.alloc T true (.tuple #[])).run P w = .ok (.pointer (some ⟨w.heap.size, 0, none⟩)) (w.alloc (.cells z T)))
    (hC : C w.drew) (hCa : ∀ w, C w → C (w.alloc (.cells z T))) (hCs : ∀ w', C w' → w.heap.size ≤ w'.heap.size)
    (h : wpG P l.toArray w.heap.size C (fun a' => ∀ b1 b2 w', b1 ≠ b2 → C w' → Blk w' b1 T z → Blk w' b2 T z → w.heap.size ≤ b1 → w.heap.size ≤ b2 →
      wpList P l.toArray Q (l.drop (n + 2)) ((a'.put (some d1) (ptr b1)).put (some d2) (ptr b2)) w') (l.take n) a) : (Code.region id l.toArray true).wp P Q a w := by
  obtain ⟨vals, hq, hs⟩ := wpG_vals _ _ h
  have hln : n + 1 < l.length := (List.getElem?_eq_some_iff.1 hl2).1
  have hlen : (l.take n).length = n := by rw [List.length_take]; omega
  let V : Nat × Nat → Nat → Value := fun γ i => if i = n then ptr γ.1 else if i = n + 1 then ptr γ.2 else vals i
  have hV : ∀ γ i, i < n → V γ i = vals i := fun γ i hi => by show (if _ then _ else _) = _; rw [if_neg (by omega), if_neg (by omega)]
  have hfr : ∀ γ i, i ≤ n → lexF (l.take (n + 2)) (V γ) i a = lexF (l.take n) vals i a := fun γ i hi => lexF_congr fun j hj =>
    ⟨by rw [List.getElem?_take_of_lt (by omega), List.getElem?_take_of_lt (by omega)], hV γ j (by omega)⟩
  refine region_core (Γ := Nat × Nat) (C := fun γ L w' => C w' ∧ (L.getD n false = true → Blk w' γ.1 T z ∧ w.heap.size ≤ γ.1) ∧ (L.getD (n + 1) false = true → Blk w' γ.2 T z ∧ w.heap.size ≤ γ.2) ∧
      (L.getD n false = true → L.getD (n + 1) false = true → γ.1 ≠ γ.2)) (n + 2) hm ht hB (0, 0)
    ⟨hC, (fun h => by rw [getD_replicate_false] at h; cases h), (fun h => by rw [getD_replicate_false] at h; cases h), (fun h => by rw [getD_replicate_false] at h; cases h)⟩ V ?_ ?_
  · intro i o hi γ L w' hsz hr ⟨hC', g1, g2, g3⟩
    have hilt : i < n + 2 := by
      have := (List.getElem?_eq_some_iff.1 hi).1
      rw [List.length_take] at this; omega
    rw [List.getElem?_take_of_lt hilt] at hi
    have hun := getD_both (mem_ready.1 hr).1
    rcases Nat.lt_or_ge i n with hin | hin
    · -- no allocation
      have hset : ∀ k, k ≠ i → (L.setIfInBounds i true).getD k false = L.getD k false := fun k hk => getD_set_ne false (Ne.symm hk)
      refine ⟨γ, fun _ _ => rfl, ?_⟩
      rw [hfr γ i (by omega), hV γ i hin]
      simp only [hset n (by omega), hset (n + 1) (by omega)]
      rcases hs i o (by rw [List.getElem?_take_of_lt hin]; exact hi) with ⟨h1, h2⟩ | ⟨h1, h2⟩
      · exact .inl ⟨h1, gives_mono (h2 w' hC') fun w'' ⟨h3, h4⟩ => ⟨h3, fun e => ⟨(g1 e).1.kp h4 (g1 e).2, (g1 e).2⟩, fun e => ⟨(g2 e).1.kp h4 (g2 e).2, (g2 e).2⟩, g3⟩⟩
      · exact .inr ⟨h1, h2, hC', g1, g2, g3⟩
    · have hw : ∀ b : Act, (execOp b.eval ⟨some d1, .alloc T, t1, p1, e1, none⟩).run P w' = .ok (.value (.pointer (some ⟨w'.heap.size, 0, none⟩))) (w'.alloc (.cells z T)) := fun b => by
        simp only [execOp, Sem.run_bind, ha w', Result.andThen_ok, Sem.run_pure]
      have hw2 : ∀ b : Act, (execOp b.eval ⟨some d2, .alloc T, t2, p2, e2, none⟩).run P w' = .ok (.value (.pointer (some ⟨w'.heap.size, 0, none⟩))) (w'.alloc (.cells z T)) := fun b => by
        simp only [execOp, Sem.run_bind, ha w', Result.andThen_ok, Sem.run_pure]
      by_cases hi1 : i = n
      · subst hi1
        obtain rfl : _ = o := Option.some.inj (hl1.symm.trans hi)
        refine ⟨(w'.heap.size, γ.2), fun j hj => ?_, .inl ⟨rfl, ?_⟩⟩
        · have hjn : j ≠ i := fun e => by subst e; rw [hun] at hj; cases hj
          simp only [V, if_neg hjn]
        · refine gives_value (w' := w'.alloc (.cells z T)) ?_ ?_
          · rw [hw]
            simp only [V, if_pos]; rfl
          · refine ⟨hCa _ hC', fun _ => ⟨Blk.new _ _ _, hCs _ hC'⟩, fun e => ?_, fun _ e => ?_⟩
            · rw [getD_set_ne false (by omega)] at e
              exact ⟨(g2 e).1.alloc _, (g2 e).2⟩
            · rw [getD_set_ne false (by omega)] at e
              have := (g2 e).1.lt
              exact Nat.ne_of_gt this
      · obtain rfl : i = n + 1 := by omega
        obtain rfl : _ = o := Option.some.inj (hl2.symm.trans hi)
        refine ⟨(γ.1, w'.heap.size), fun j hj => ?_, .inl ⟨rfl, ?_⟩⟩
        · have hj2 : j ≠ n + 1 := fun e => by subst e; rw [hun] at hj; cases hj
          simp only [V, if_neg hj2]
        · refine gives_value (w' := w'.alloc (.cells z T)) ?_ ?_
          · rw [hw2]
            simp only [V, if_neg (show ¬ n + 1 = n by omega), if_pos]; rfl
          · refine ⟨hCa _ hC', fun e => ?_, fun _ => ⟨Blk.new _ _ _, hCs _ hC'⟩, fun e _ => ?_⟩
            · rw [getD_set_ne false (by omega)] at e
              exact ⟨(g1 e).1.alloc _, (g1 e).2⟩
            · rw [getD_set_ne false (by omega)] at e
              have := (g1 e).1.lt
              exact Nat.ne_of_lt this
  · intro γ L w' hall ⟨hC', g1, g2, g3⟩
    have h1 := hall n (by omega)
    have h2 := hall (n + 1) (by omega)
    have hl2' : (l.take (n + 2)).length = n + 2 := by rw [List.length_take]; omega
    rw [hl2']
    have hput : lexF (l.take (n + 2)) (V γ) (n + 2) a = ((lexF (l.take n) vals n a).put (some d1) (ptr γ.1)).put (some d2) (ptr γ.2) := by
      rw [lexF, lexF, hfr γ n (Nat.le_refl n), List.getElem?_take_of_lt (by omega), List.getElem?_take_of_lt (by omega), hl1, hl2]
      simp only [V, if_neg (show ¬ n + 1 = n by omega), if_pos, Option.bind_some]
    rw [hput]
    rw [hlen] at hq
    exact hq γ.1 γ.2 w' (g3 h1 h2) hC' (g1 h1).1 (g2 h2).1 (g1 h1).2 (g2 h2).2
end
end Go.Proofs.Ytkcfonlondlmeaa
namespace Go.Proofs.Ytkcfonlondlmeaa
open Go.ChangeShapes Go.WideShapes Go.ChangeAt Go.RowKit Go.Deep
section
variable {H : Type} {enc : TypeId × Value → H} {w : World} {base : Nat} {spare : Nat → Bool} {held : Bool}
theorem trod_ar {T : TypeId} {n : Nat} (hT : Try.prog.underlying T = some (.array n 5)) (hc : Try.prog.cellsOf T = n) {fuel : Nat} {cs : List Value} {x : DataW H × List MemPlace} (h : DataW.trod enc Try.prog w base spare held fuel T cs = some x) : ∃ f : Nat → Nat, (∀ k, f k < 256) ∧ cs = (ar n f).toList := by
  obtain ⟨xs, m, rfl, rfl, hlen, hxl, hx⟩ := DataW.trod_array hT h
  rw [hc] at hlen
  have hk : ∀ k, k < n → ∃ n : Nat, n < 256 ∧ cs[k]? = some (.int .u8 n) := fun k hk => by
    have h1 := hx k hk
    rw [cells_u8, Nat.mul_one, List.getElem?_eq_getElem (by omega)] at h1
    obtain ⟨n, e1, e2, wf⟩ := DataW.trod_int Try.underlying5 h1
    obtain ⟨n, rfl, hn⟩ := u8_wf wf
    refine ⟨n, hn, ?_⟩
    have : ((cs.drop k).take 1)[0]? = some (.int .u8 n) := by rw [e1]; rfl
    rw [List.getElem?_take_of_lt (by omega), List.getElem?_drop] at this
    exact this
  obtain ⟨f, hf⟩ := choose_lt hk
  refine ⟨fun k => if k < n then f k else 0, fun k => ?_, ?_⟩
  · by_cases h : k < n
    · simp only [h, if_true]; exact (hf k h).1
    · simp [h]
  · apply List.ext_getElem?
    intro k
    have e : (ar n fun k => if k < n then f k else 0).toList[k]? = if k < n then some (.int .u8 ((if k < n then f k else 0 : Nat) : Int)) else none := by
      rw [Array.getElem?_toList]
      exact get_row k
    rw [e]
    by_cases h : k < n
    · rw [if_pos h, if_pos h]; exact (hf k h).2
    · rw [if_neg h, List.getElem?_eq_none (by omega)]
set_option maxRecDepth 100000 in
theorem open_ar {T : TypeId} {n : Nat} (hT : Try.prog.underlying T = some (.array n 5)) (hc : Try.prog.cellsOf T = n) {r : Reach} {b0 : Nat} {v : Value} {d : DataW H} {p : List MemPlace} (hv : Value.okWide Try.prog w r b0 T v) (h : DataW.Trod enc Try.prog w base spare held T v d p) :
    ∃ f : Nat → Nat, (∀ k, f k < 256) ∧ v = .agg (ar n f) := by
  have hv' : ∃ cs, v = .agg cs := by
    simp only [Value.okWide, hT] at hv
    obtain ⟨cs, h1, _⟩ := hv
    exact ⟨cs, h1⟩
  obtain ⟨cs, rfl⟩ := hv'
  obtain ⟨fuel, hf⟩ := h
  obtain ⟨f, h1, h2⟩ := trod_ar hT hc hf
  refine ⟨f, h1, ?_⟩
  have : cs = ar n f := by
    apply Array.ext'
    exact h2
  rw [this]
end
end Go.Proofs.Ytkcfonlondlmeaa
namespace Go.Proofs.Ytkcfonlondlmeaa
open Go.ChangeShapes Go.WideShapes Go.ChangeAt Go.RowKit
open AesM (Bt ls Q16)
attribute [local go_sem] Gives GivesE
namespace AesP
/-- From w1 on: the blocks gs are ciphers of K, made by the call itself; all other blocks stand. -/
def Cl (W w1 : World) (gs : List Nat) (K : Nat → Nat) (w' : World) : Prop :=
  (∀ g ∈ gs, (∃ b, Cip w' g K b) ∧ W.heap.size ≤ g) ∧ (∀ k, k < w1.heap.size → k ∉ gs → w'.heap[k]? = w1.heap[k]?) ∧ Below W.heap.size W w' ∧ w1.heap.size ≤ w'.heap.size
section
variable {W w1 w' w2 : World} {gs : List Nat} {K f : Nat → Nat} {g : Nat}
theorem Cl.blk {k : Nat} {t : TypeId} {cs : Array Value} (h : Cl W w1 gs K w') (hb : Blk w1 k t cs) (hk : k ∉ gs) : Blk w' k t cs := (h.2.1 k hb.lt hk).trans hb
theorem Cl.below (h : Cl W w1 gs K w') (hb : Below w'.heap.size w' w2) : Cl W w1 gs K w2 :=
  ⟨fun g hg => ⟨by obtain ⟨b, hc⟩ := (h.1 g hg).1; exact ⟨b, Blk.below hc hb (cip_lt hc)⟩, (h.1 g hg).2⟩, fun k hk hn => (hb.block k (by have := h.2.2.2; omega)).trans (h.2.1 k hk hn), h.2.2.1.trans (hb.mono h.2.2.1.size), Nat.le_trans h.2.2.2 hb.size⟩
theorem Cl.drew (h : Cl W w1 gs K w') : Cl W w1 gs K w'.drew := ⟨h.1, h.2.1, h.2.2.1.drew, h.2.2.2⟩
theorem Cl.start (hc : ∀ g ∈ gs, (∃ b, Cip w1 g K b) ∧ W.heap.size ≤ g) (hb : Below W.heap.size W w1) : Cl W w1 gs K w1 := ⟨hc, fun _ _ _ => rfl, hb, Nat.le_refl _⟩
theorem Cl.sealing (h : Cl W w1 gs K w') (hg : g ∈ gs) (hK : Bt K) (hf : Bt f) :
    Calls Try.prog 17 #[.pointer (some ⟨g, 0, none⟩), .agg (ar 16 f)] w' fun e w2 => e = .returned (.agg (ar 16 (AesM.sealM K f))) ∧ Cl W w1 gs K w2 := by
  obtain ⟨b, hc⟩ := (h.1 g hg).1
  exact (seal_any K f b hK hf g w' hc).mono fun e _ ⟨he, hb⟩ => ⟨he, h.below hb⟩
theorem Cl.only (h : Cl W w1 gs K w') (hg : g ∈ gs) {b : Bool} (hc : Cip w2 g K b) (ho : w'.grownBy w2 (some g)) : Cl W w1 gs K w2 := by
  refine ⟨fun k hk => ⟨?_, (h.1 k hk).2⟩, fun k hk hn => ?_, ?_, Nat.le_trans h.2.2.2 ho.size⟩
  · by_cases e : k = g
    · subst e; exact ⟨b, hc⟩
    · obtain ⟨b', hc'⟩ := (h.1 k hk).1
      exact ⟨b', Blk.only hc' ho e⟩
  · have hne : k ≠ g := fun e => hn (by rw [e]; exact hg)
    exact (ho.block k (by have := h.2.2.2; omega) (fun e => hne (by injection e))).trans (h.2.1 k hk hn)
  · exact h.2.2.1.trans (only_Below ho (h.1 g hg).2 h.2.2.1.size)
theorem Cl.open' (h : Cl W w1 gs K w') (hg : g ∈ gs) (hK : Bt K) (hf : Bt f) :
    Calls Try.prog 21 #[.pointer (some ⟨g, 0, none⟩), .agg (ar 16 f)] w' fun e w2 => e = .returned (.agg (ar 16 (AesM.open' K f))) ∧ Cl W w1 gs K w2 := by
  obtain ⟨b, hc⟩ := (h.1 g hg).1
  exact (open_any K f b hK hf g w' hc).mono fun e _ ⟨he, hc2, ho⟩ => ⟨he, h.only hg hc2 ho⟩
end
theorem eqA_seal {K f g : Nat → Nat} (hK : Bt K) (hf : Bt f) (hg : Bt g) : eqA 16 (AesM.sealM K f) (AesM.sealM K g) = eqA 16 f g := by
  by_cases h : Q16 f g
  · rw [eqA_yes h, eqA_yes (AesM.seal_q h)]
  · rw [eqA_no h, eqA_no fun h2 => h (((AesM.open_seal hK hf).symm.trans (AesM.open_q h2)).trans (AesM.open_seal hK hg))]
theorem eqA_open {K f g : Nat → Nat} (hK : Bt K) (hf : Bt f) (hg : Bt g) : eqA 16 (AesM.open' K f) (AesM.open' K g) = eqA 16 f g := by
  by_cases h : Q16 f g
  · rw [eqA_yes h, eqA_yes (AesM.open_q h)]
  · rw [eqA_no h, eqA_no fun h2 => h (((AesM.seal_open hK hf).symm.trans (AesM.seal_q h2)).trans (AesM.seal_open hK hg))]
theorem cells_key : Try.prog.cellsOf 23 = 32 := by kernel_rfl
theorem cells_bk : Try.prog.cellsOf 35 = 16 := by kernel_rfl
theorem uKey : Try.prog.underlying 23 = some (.array 32 5) := Try.underlying23
end AesP
end Go.Proofs.Ytkcfonlondlmeaa
namespace Go.Proofs.Ytkcfonlondlmeaa
open Go.ChangeShapes Go.WideShapes Go.ChangeAt Go.RowKit
open AesM (Bt tab ls)
attribute [local go_sem] Gives
namespace AesP
section
variable {ops : Array Oper} {Q : Exit → Act → World → Prop} {a : Act} {w : World} {rest : List Oper} {dst : Option Tmp} {ty : TypeId} {pos : String} {after : Array Edge} {x y : Operand}
theorem mk256 (hx : a.eval x = .int .i64 256) (hy : a.eval y = .int .i64 256)
    (h : wpList Try.prog ops Q rest (a.put dst (.slice (some ⟨w.heap.size, 0, none⟩) 256 256)) (w.alloc (.cells (ar 256 fun _ => 0) 5))) :
    wpList Try.prog ops Q (⟨dst, .makeSlice 71 x y, ty, pos, after, none⟩ :: rest) a w := by
  obtain ⟨i, hi, hz, h1, h2⟩ := eltB.inf
  have hr := run_makeSlice (P := Try.prog) (w := w) 71 5 i (.int .u8 0) eltB.und hi hz .i64 .i64 256 256 (by omega) (by omega) (by rw [h1]; decide) (by omega) (by omega)
  have e : madeCells (Value.int IntKind.u8 0).cells ((256 : Int).toNat * i.size) = ar 256 fun _ => 0 := by rw [h1]; kernel_rfl
  rw [e] at hr
  refine wpList_plain rfl fun K hK => ?_
  unfold Oper.wp execOp
  simp only [Sem.run_bind, hx, hy]
  rw [hr]
  simp only [Result.andThen_ok]
  exact hK _ _ h
end
/-- The state behind m rounds of opening. -/
def ox (K f : Nat → Nat) : Nat → Nat → Nat
  | 0 => f
  | m + 1 => AesM.os K f m
theorem ox_bt {K f : Nat → Nat} (hf : Bt f) : ∀ m, Bt (ox K f m)
  | 0 => hf
  | _ + 1 => AesM.os_bt _ _ _
/-- What is stored when n bytes of a round are. -/
def scat (s T : Nat → Nat) (n j : Nat) : Nat := if AesM.goes j < n then AesM.oboxF (T (AesM.goes j)) else s j
theorem scat_zero {s T : Nat → Nat} : scat s T 0 = s := funext fun j => by unfold scat; rw [if_neg (by omega)]
theorem scat_all {s T : Nat → Nat} {n : Nat} (hn : 16 ≤ n) : ar 16 (scat s T n) = ar 16 (AesM.each (AesM.back T) AesM.oboxF) := ar_ext fun j _ => by
  have : AesM.goes j < 16 := Nat.mod_lt _ (by omega)
  unfold scat
  rw [if_pos (by omega)]
  unfold AesM.each AesM.back
  rfl
theorem scat_step {w : World} {b : Nat} {t : TypeId} {s T : Nat → Nat} {c i p n : Nat} (hc : c < 4) (hi : i < 4) (hp : p = (c + i) % 4) (hn : n = 4 * c + i)
    (hb : Blk w b t ((ar 16 (scat s T n)).setIfInBounds (p * 4 + i) (.int .u8 (AesM.oboxF (T (c * 4 + i)) : Nat)))) : Blk w b t (ar 16 (scat s T (n + 1))) := by
  rw [ar_set] at hb
  rw [ar_ext (g := fun j => if j = p * 4 + i then AesM.oboxF (T (c * 4 + i)) else scat s T n j) fun j hj => ?_]
  · exact hb
  · have hg : AesM.goes j = (j + 12 * (j % 4)) % 16 := rfl
    by_cases e : j = p * 4 + i
    · have e2 : AesM.goes j = c * 4 + i := by rw [hg]; omega
      rw [if_pos e]
      unfold scat
      rw [if_pos (by omega), e2]
    · have e2 : AesM.goes j ≠ n := by rw [hg]; omega
      rw [if_neg e]
      unfold scat
      by_cases l : AesM.goes j < n
      · rw [if_pos l, if_pos (by omega)]
      · rw [if_neg l, if_neg (by omega)]
set_option maxHeartbeats 3000000 in
set_option maxRecDepth 100000 in
theorem ropen_any (k f : Nat → Nat) (hk : Bt k) (hf : Bt f) (w : World) :
    Calls Try.prog 22 #[.agg (ar 32 k), .agg (ar 16 f)] w fun e w' => e = .returned (.agg (ar 16 (AesM.open' (AesM.ks k) f))) ∧ Below w.heap.size w w' := by
  have HK := hid hk
  have HF := hid hf
  have HKK := hid (AesM.ks_bt hk)
  clear hk hf
  go_enter Try.func22, Try.ntmps22
  go_upto_region 1 with (with_reducible apply alA tBk)
  generalize hw3 : World.alloc (World.alloc (World.alloc w _) _) _ = w3
  have b0 := hid (show Blk w3 w.heap.size 23 (ar 32 k) by rw [← hw3]; exact ((Blk.new _ _ _).alloc _).alloc _)
  have b1 := hid (show Blk w3 (w.heap.size + 1) 35 (ar 16 f) by rw [← hw3]; exact (Blk.top rfl (by simp)).alloc _)
  have b2 := hid (show Blk w3 (w.heap.size + 2) 35 (ar 16 fun _ => 0) by rw [← hw3]; exact Blk.top rfl (by simp))
  have hb := hid (show Below w.heap.size w w3 by rw [← hw3]; exact (((Below.refl _ _).alloc (Nat.le_refl _) _).alloc (by simp) _).alloc (by simp; omega) _)
  clear hw3
  go_wp2_with fail
  refine (boxes_any w3).mono ?_
  rintro e w4 ⟨gb, ob, cb, rfl, hgb, hR, h4⟩
  have d0 := hid (b0.out.below h4 b0.out.lt)
  have d1 := hid (b1.out.below h4 b1.out.lt)
  have d2 := hid (b2.out.below h4 b2.out.lt)
  have db := hid (hb.out.trans (h4.mono hb.out.size))
  have R4 := hid hR
  clear b0 b1 b2 hb h4 hR
  go_upto_region 2 with fail
  go_wp2_with ((with_reducible apply ldA tKey); rfl; exact d0.out)
  refine (words_any k HK.out gb ob cb w4 hgb R4.out).mono ?_
  rintro e w5 ⟨v, rfl, hs5, h5⟩
  have b1 := hid (d1.out.below h5 d1.out.lt)
  have b2 := hid (d2.out.below h5 d2.out.lt)
  have hb := hid (db.out.trans (h5.mono db.out.size))
  have R5 := hid (range_below R4.out h5 hgb)
  have hg5 : gb < w5.heap.size := Nat.lt_of_lt_of_le hgb h5.size
  have HR := hid (show ∀ j, j < 256 → w5.cell? ⟨gb, ob + j, none⟩ = some (.int .u8 (AesM.boxF j : Nat)) from fun j hj => R5.out j _ (by rw [Array.getElem?_toList, get_ar hj]))
  have S5 := hid hs5
  clear d0 d1 d2 db h5 R4 R5 hs5
  obtain ⟨gq, hgq⟩ : ∃ gq, gq = w5.heap.size := ⟨_, rfl⟩
  go_upto_region 4 with ((with_reducible apply mk256); rfl; rfl)
  rw [← hgq]
  generalize hw6 : World.alloc w5 _ = w6
  have q6 := hid (show Blk w6 gq 5 (ar 256 fun _ => 0) by rw [← hw6, hgq]; exact Blk.new _ _ _)
  have qb6 := hid (show Below w5.heap.size w5 w6 by rw [← hw6]; exact (Below.refl _ _).alloc (Nat.le_refl _) _)
  have hgq5 : w5.heap.size ≤ gq := by omega
  clear hw6 hgq
  go_wp2_with fail
  go_loopw [8] (fun u wr => ∃ a : Nat, a ≤ 256 ∧ u = .int .i64 a ∧ Hid (Blk wr gq 5 (ar 256 (AesM.setTo AesM.boxF (fun a => a) a))) ∧ Hid (Below w5.heap.size w5 wr)) (fun u => fun _ => 256 - (intOf u).toNat)
  case atStart => exact ⟨0, by omega, rfl, q6, qb6⟩
  case round =>
    clear q6 qb6
    obtain ⟨a, ha, rfl, q6, qb6⟩ := hrel
    by_cases hla : a < 256
    · have ta : (a : Int) < 256 := by omega
      have CB := (qb6.out.cell (p := ⟨gb, ob + a, none⟩) hg5).trans (HR.out a hla)
      have hbx := AesM.boxF_lt a
      have tb : ((AesM.boxF a : Nat) : Int) < 256 := by omega
      have e1 : IntKind.u8.wrap (a : Int) = (a : Int) := by rw [IntKind.wrap_u8]; omega
      have c3 := (q6.out.cell (AesM.boxF a)).trans (get_ar hbx)
      have f3 := q6.out.frozen (AesM.boxF a)
      go_wp2_with fail
      go_roundw
      case rel =>
        refine ⟨a + 1, by omega, by go_num, hid ?_, hid (qb6.out.setCell (by show w5.heap.size ≤ gq; omega) _)⟩
        have h := q6.out.setCell_same (AesM.boxF a) (.int .u8 (a : Nat))
        rw [ar_set] at h
        exact h
      case measure => simp [intOf]; omega
    · have ta : decide ((a : Int) < 256) = false := by simp; omega
      have qe := hid (show Blk wr gq 5 (ar 256 AesM.oboxF) by
        have e : a = 256 := by omega
        have h := q6.out
        rw [e, ar_ext (g := AesM.oboxF) fun j hj => AesM.obox_at hj] at h
        exact h)
      clear q6
      have b1' := hid (b1.out.below qb6.out b1.out.lt)
      have b2' := hid (b2.out.below qb6.out b2.out.lt)
      have hb' := hid (hb.out.trans (qb6.out.mono hb.out.size))
      have S6 := hid (S5.out.below qb6.out)
      clear b1 b2 hb S5 qb6 HR hla ha
      go_wp2_with ((with_reducible apply ldA tBk); rfl; exact b1'.out)
      refine (rstate_any f wr).mono ?_
      rintro e w7 ⟨rfl, h7⟩
      have d2 := hid (b2'.out.below h7 b2'.out.lt)
      have db := hid (hb'.out.trans (h7.mono hb'.out.size))
      have S7 := hid (S6.out.below h7)
      have q7 := hid (qe.out.below h7 qe.out.lt)
      have hq7 : gq < w7.heap.size := q7.out.lt
      have HQ := hid (show ∀ j, j < 256 → w7.cell? ⟨gq, j, none⟩ = some (.int .u8 (AesM.oboxF j : Nat)) from fun j hj => (q7.out.cell j).trans (get_ar hj))
      clear b1' b2' hb' S6 h7 qe q7
      have hz : Blk (w7.alloc (.cells (ar 16 fun _ => 0) 81)) w7.heap.size 81 (ar 16 fun _ => 0) := Blk.new _ _ _
      obtain ⟨g9, hge⟩ : ∃ g9, g9 = w7.heap.size := ⟨_, rfl⟩
      go_upto_region 9 with (first | (with_reducible apply alA tSS) | ((with_reducible apply stA tSS); rfl; rfl; exact hz))
      rw [← hge] at hz ⊢
      generalize hw8 : World.setRow _ _ _ = w8
      have y9 := hid (show Blk w8 g9 81 (ar 16 (ox (AesM.ks k) f 0)) by rw [← hw8]; exact hz.setRow_same _)
      have yb := hid (show Below w7.heap.size w7 w8 by rw [← hw8]; exact below_setRow ((Below.refl _ _).alloc (Nat.le_refl _) _) (by omega) _)
      have hg9g : w7.heap.size ≤ g9 := by omega
      clear hw8 hz hge
      go_wp2_with fail
      go_loopw [10] (fun u wr => ∃ r m : Nat, m + r = 14 ∧ u = .int .i64 r ∧ Hid (Blk wr g9 81 (ar 16 (ox (AesM.ks k) f m))) ∧ Hid (Below w7.heap.size w7 wr)) (fun u => fun _ => (intOf u).toNat)
      case atStart => exact ⟨14, 0, rfl, rfl, y9, yb⟩
      case round =>
        clear y9 yb
        obtain ⟨r, m, hm, rfl, y9, yb⟩ := hrel
        have HM := hid hm
        clear hm
        by_cases hlr : 1 ≤ r
        · have tr : (1 : Int) ≤ (r : Int) := by omega
          have SB := hid (ox_bt (K := AesM.ks k) HF.out m)
          obtain ⟨s, hs⟩ : ∃ s, s = ox (AesM.ks k) f m := ⟨_, rfl⟩
          rw [← hs] at y9 SB
          have HS := hid hs
          clear hs
          have hlr15 : r < 15 := by have := HM.out; omega
          go_wp2_with ((with_reducible apply ldA tSS); rfl; exact y9.out)
          refine (radded_any s k SB.out HK.out r hlr15 v (w4.heap.size + 1) _ (S7.out.below yb.out)).mono ?_
          rintro e wA ⟨rfl, hA⟩
          have AB := hid (AesM.add_bt SB.out (AesM.rk_bt HKK.out r))
          obtain ⟨A, hAd⟩ : ∃ A, A = AesM.add s (AesM.rk (AesM.ks k) r) := ⟨_, rfl⟩
          rw [← hAd] at AB ⊢
          have HAD := hid hAd
          clear hAd
          have u9 := hid (y9.out.below hA y9.out.lt)
          have ub := hid (yb.out.trans (hA.mono yb.out.size))
          clear y9 yb hA
          obtain ⟨gt, hgt⟩ : ∃ gt, gt = wA.heap.size := ⟨_, rfl⟩
          have hz : Blk (wA.alloc (.cells (ar 16 fun _ => 0) 81)) wA.heap.size 81 (ar 16 fun _ => 0) := Blk.new _ _ _
          go_upto_region 13 with (first | (with_reducible apply alA tSS) | ((with_reducible apply stA tSS); rfl; rfl; exact hz))
          rw [← hgt] at hz ⊢
          have h9t : g9 < gt := by have := u9.out.lt; omega
          generalize hwB : World.setRow _ _ _ = wB
          have zt := hid (show Blk wB gt 81 (ar 16 A) by rw [← hwB]; exact hz.setRow_same _)
          have z9 := hid (show Blk wB g9 81 (ar 16 s) by rw [← hwB]; exact (u9.out.alloc _).setRow_other (by omega) _)
          have zb := hid (show Below w7.heap.size w7 wB by rw [← hwB]; exact below_setRow (ub.out.alloc ub.out.size _) (by omega) _)
          clear hwB hz u9 ub hgt
          by_cases h14 : r < 14
          · have t14 : (r : Int) < 14 := by omega
            go_wp2_with ((with_reducible apply ldA tSS); rfl; exact zt.out)
            have qt := hid (zt.out.alloc (.cells (ar 4 (ls AesM.lB)) 5))
            have q9 := hid (z9.out.alloc (.cells (ar 4 (ls AesM.lB)) 5))
            have qb := hid (zb.out.alloc zb.out.size (.cells (ar 4 (ls AesM.lB)) 5))
            refine (rmixed_any A (ls AesM.lB) AB.out lB_bt wB.heap.size _ (Blk.top (by rfl) rfl)).mono ?_
            rintro e wC ⟨rfl, hC⟩
            have rt := hid (qt.out.below hC qt.out.lt)
            have r9 := hid (q9.out.below hC q9.out.lt)
            have rb := hid (qb.out.trans (hC.mono qb.out.size))
            clear zt z9 zb qt q9 qb hC
            obtain ⟨T, hT⟩ : ∃ T, T = AesM.mixD A (ls AesM.lB) := ⟨_, rfl⟩
            rw [← hT]
            have TB := hid (show Bt T by rw [hT]; exact fun n => AesM.mxGo_lt _ _ _ _ _)
            have HTE := hid hT
            clear hT
            go_upto_region 15 with ((with_reducible apply stA tSS); rfl; rfl; exact rt.out)
            generalize hwD : World.setRow _ _ _ = wD
            have zt := hid (show Blk wD gt 81 (ar 16 T) by rw [← hwD]; exact rt.out.setRow_same _)
            have z9 := hid (show Blk wD g9 81 (ar 16 s) by rw [← hwD]; exact r9.out.setRow_other (by omega) _)
            have zb := hid (show Below w7.heap.size w7 wD by rw [← hwD]; exact below_setRow rb.out (by omega) _)
            clear hwD rt r9 rb
            have HX := hid (show ar 16 (AesM.each (AesM.back T) AesM.oboxF) = ar 16 (ox (AesM.ks k) f (m + 1)) by
              refine ar_ext fun j hj => ?_
              obtain ⟨m', hm'⟩ : ∃ m', m = m' + 1 := ⟨m - 1, by have := HM.out; omega⟩
              have hs' := HS.out
              rw [hm'] at hs' ⊢
              have hr' : r = 13 - m' := by have := HM.out; omega
              show AesM.oboxF (T (AesM.goes j)) = AesM.oboxF (AesM.mixB (AesM.add (AesM.os (AesM.ks k) f m') (AesM.rk (AesM.ks k) (13 - m'))) (AesM.goes j))
              have hs2 : s = AesM.os (AesM.ks k) f m' := hs'
              rw [← hs2, ← hr', ← HAD.out, HTE.out]
              exact congrArg _ (AesM.mix_lB AB.out _ (Nat.mod_lt _ (by omega))))
            go_wp2_with fail
            go_loopw [12] (fun u wr => ∃ c : Nat, c ≤ 4 ∧ u = .int .i64 c ∧ Hid (Blk wr g9 81 (ar 16 (scat s T (4 * c)))) ∧ Hid (Blk wr gt 81 (ar 16 T)) ∧ Hid (Below w7.heap.size w7 wr)) (fun u => fun _ => 4 - (intOf u).toNat)
            case atStart => exact ⟨0, by omega, rfl, by rw [show 4 * 0 = 0 from rfl, scat_zero]; exact z9, zt, zb⟩
            case round =>
              clear z9 zt zb
              obtain ⟨c, hc, rfl, z9, zt, zb⟩ := hrel
              by_cases hlc : c < 4
              · have tc : (c : Int) < 4 := by omega
                go_wp2_with fail
                go_loopw [13] (fun u wr => ∃ i : Nat, i ≤ 4 ∧ u = .int .i64 i ∧ Hid (Blk wr g9 81 (ar 16 (scat s T (4 * c + i)))) ∧ Hid (Blk wr gt 81 (ar 16 T)) ∧ Hid (Below w7.heap.size w7 wr)) (fun u => fun _ => 4 - (intOf u).toNat)
                case atStart => exact ⟨0, by omega, rfl, z9, zt, zb⟩
                case round =>
                  clear z9 zt zb
                  obtain ⟨i, hi, rfl, z9, zt, zb⟩ := hrel
                  by_cases hli : i < 4
                  · have ti : (i : Int) < 4 := by omega
                    obtain ⟨a, ha⟩ : ∃ a, a = c + i := ⟨_, rfl⟩
                    obtain ⟨p, hp⟩ : ∃ p, p = a % 4 := ⟨_, rfl⟩
                    have tp : (p : Int) < 4 := by omega
                    have e1 := hid (show IntKind.i64.wrap ((c : Int) + (i : Int)) = (a : Int) from wr_nat (by omega) (by omega))
                    have e2 := hid (show (a : Int).tmod 4 = (p : Int) by rw [hp]; rfl)
                    have hq16 : c * 4 + i < 16 := by omega
                    have hp16 : p * 4 + i < 16 := by omega
                    have CT := hid ((zt.out.cell (c * 4 + i)).trans (get_ar hq16))
                    have tb := hid (show ((T (c * 4 + i) : Nat) : Int) < 256 by have := TB.out (c * 4 + i); omega)
                    have CB := hid ((zb.out.cell (p := ⟨gq, T (c * 4 + i), none⟩) hq7).trans (HQ.out _ (TB.out (c * 4 + i))))
                    have HPP := hid (show p = (c + i) % 4 by rw [hp, ha])
                    clear ha hp
                    go_wp2_with fail
                    refine wp_region_tail (C := Drew wr) 15 (by kernel_rfl) (by kernel_rfl) (by kernel_rfl) (Drew.refl _) ?_
                    simp only [List.take_succ_cons, List.take_zero, List.drop_succ_cons, List.drop_zero]
                    apply wpK_val
                    · rfl
                    · intro w' hw'
                      go_simp
                      first | exact rfl | exact ⟨rfl, hw'⟩
                    simp only [Act.put, List.setIfInBounds_toArray, List.set_cons_succ, List.set_cons_zero]
                    apply wpK_val
                    · rfl
                    · intro w' hw'
                      go_simp
                      first | exact rfl | exact ⟨rfl, hw'⟩
                    simp only [Act.put, List.setIfInBounds_toArray, List.set_cons_succ, List.set_cons_zero]
                    apply wpK_val
                    · rfl
                    · intro w' hw'
                      have h1 : _ := e1.out
                      go_simp
                      first | exact rfl | exact ⟨rfl, hw'⟩
                    simp only [Act.put, List.setIfInBounds_toArray, List.set_cons_succ, List.set_cons_zero]
                    apply wpK_val
                    · rfl
                    · intro w' hw'
                      have h1 : _ := e2.out
                      go_simp
                      first | exact rfl | exact ⟨rfl, hw'⟩
                    simp only [Act.put, List.setIfInBounds_toArray, List.set_cons_succ, List.set_cons_zero]
                    apply wpK_val
                    · rfl
                    · intro w' hw'
                      go_simp
                      first | exact rfl | exact ⟨rfl, hw'⟩
                    simp only [Act.put, List.setIfInBounds_toArray, List.set_cons_succ, List.set_cons_zero]
                    apply wpK_val
                    · rfl
                    · intro w' hw'
                      go_simp
                      first | exact rfl | exact ⟨rfl, hw'⟩
                    simp only [Act.put, List.setIfInBounds_toArray, List.set_cons_succ, List.set_cons_zero]
                    apply wpK_val
                    · rfl
                    · intro w' hw'
                      go_simp
                      first | exact rfl | exact ⟨rfl, hw'⟩
                    simp only [Act.put, List.setIfInBounds_toArray, List.set_cons_succ, List.set_cons_zero]
                    apply wpK_val
                    · rfl
                    · intro w' hw'
                      go_simp
                      first | exact rfl | exact ⟨rfl, hw'⟩
                    simp only [Act.put, List.setIfInBounds_toArray, List.set_cons_succ, List.set_cons_zero]
                    apply wpK_val
                    · rfl
                    · intro w' hw'
                      go_simp
                      first | exact rfl | exact ⟨rfl, hw'⟩
                    simp only [Act.put, List.setIfInBounds_toArray, List.set_cons_succ, List.set_cons_zero]
                    apply wpK_val
                    · rfl
                    · intro w' hw'
                      go_simp
                      first | exact rfl | exact ⟨rfl, hw'⟩
                    simp only [Act.put, List.setIfInBounds_toArray, List.set_cons_succ, List.set_cons_zero]
                    apply wpK_val
                    · rfl
                    · intro w' hw'
                      have hcell := hw'.cell CT.out
                      go_simp
                      first | exact rfl | exact ⟨rfl, hw'⟩
                    simp only [Act.put, List.setIfInBounds_toArray, List.set_cons_succ, List.set_cons_zero]
                    apply wpK_val
                    · rfl
                    · intro w' hw'
                      have h1 : _ := tb.out
                      go_simp
                      first | exact rfl | exact ⟨rfl, hw'⟩
                    simp only [Act.put, List.setIfInBounds_toArray, List.set_cons_succ, List.set_cons_zero]
                    apply wpK_val
                    · rfl
                    · intro w' hw'
                      have hcell := hw'.cell CB.out
                      go_simp
                      first | exact rfl | exact ⟨rfl, hw'⟩
                    simp only [Act.put, List.setIfInBounds_toArray, List.set_cons_succ, List.set_cons_zero]
                    apply wpK_val
                    · rfl
                    · intro w' hw'
                      go_simp
                      first | exact rfl | exact ⟨rfl, hw'⟩
                    simp only [Act.put, List.setIfInBounds_toArray, List.set_cons_succ, List.set_cons_zero]
                    apply wpK_val
                    · rfl
                    · intro w' hw'
                      go_simp
                      first | exact rfl | exact ⟨rfl, hw'⟩
                    simp only [Act.put, List.setIfInBounds_toArray, List.set_cons_succ, List.set_cons_zero]
                    refine wpK_nil fun w5 hw5 => ?_
                    have r9 := hid (hw5.blk z9.out)
                    have rt := hid (hw5.blk zt.out)
                    have rb := hid (hw5.below zb.out)
                    have c3 := (r9.out.cell (p * 4 + i)).trans (get_ar hp16)
                    have f3 := r9.out.frozen (p * 4 + i)
                    clear z9 zt zb hw5 CT CB e1 e2 tb
                    go_wp2_with fail
                    go_roundw
                    case rel => exact ⟨i + 1, by omega, by go_num, hid (scat_step hlc hli HPP.out rfl (r9.out.setCell_same (p * 4 + i) _)), hid (rt.out.setCell_other (by show g9 ≠ gt; omega) _), hid (rb.out.setCell (by show w7.heap.size ≤ g9; omega) _)⟩
                    case measure => simp [intOf]; omega
                  · have ti : decide ((i : Int) < 4) = false := by simp; omega
                    obtain rfl : i = 4 := by omega
                    go_wp2_with fail
                    go_roundw
                    case rel => exact ⟨c + 1, by omega, by go_num, hid (by rw [show 4 * (c + 1) = 4 * c + 4 by omega]; exact z9.out), zt, zb⟩
                    case measure => simp [intOf]; omega
              · have tc : decide ((c : Int) < 4) = false := by simp; omega
                have q9 := z9.out
                rw [scat_all (by omega), HX.out] at q9
                have Q9 := hid q9
                clear z9 q9
                have EQ := hid (show (r : Int) - 1 = ((r - 1 : Nat) : Int) by omega)
                go_wp2_with fail
                go_roundw
                case rel => exact ⟨r - 1, m + 1, by have := HM.out; omega, by first | (rw [EQ.out]; done) | (rw [← EQ.out]; go_num) | go_num, Q9, zb⟩
                case measure => simp [intOf]; omega
          · have t14 : decide ((r : Int) < 14) = false := by simp; omega
            go_upto_region 15 with fail
            obtain ⟨T, hT⟩ : ∃ T, T = A := ⟨_, rfl⟩
            rw [← hT] at zt AB
            have TB := hid AB.out
            have HX := hid (show ar 16 (AesM.each (AesM.back T) AesM.oboxF) = ar 16 (ox (AesM.ks k) f (m + 1)) by
              have hm0 : m = 0 := by have := HM.out; omega
              have hr' : r = 14 := by have := HM.out; omega
              have hs' := HS.out
              rw [hm0] at hs' ⊢
              have hs2 : s = f := hs'
              rw [hT, HAD.out, hr', hs2]
              rfl)
            have HTE := hid hT
            clear hT
            go_wp2_with fail
            go_loopw [12] (fun u wr => ∃ c : Nat, c ≤ 4 ∧ u = .int .i64 c ∧ Hid (Blk wr g9 81 (ar 16 (scat s T (4 * c)))) ∧ Hid (Blk wr gt 81 (ar 16 T)) ∧ Hid (Below w7.heap.size w7 wr)) (fun u => fun _ => 4 - (intOf u).toNat)
            case atStart => exact ⟨0, by omega, rfl, by rw [show 4 * 0 = 0 from rfl, scat_zero]; exact z9, zt, zb⟩
            case round =>
              clear z9 zt zb
              obtain ⟨c, hc, rfl, z9, zt, zb⟩ := hrel
              by_cases hlc : c < 4
              · have tc : (c : Int) < 4 := by omega
                go_wp2_with fail
                go_loopw [13] (fun u wr => ∃ i : Nat, i ≤ 4 ∧ u = .int .i64 i ∧ Hid (Blk wr g9 81 (ar 16 (scat s T (4 * c + i)))) ∧ Hid (Blk wr gt 81 (ar 16 T)) ∧ Hid (Below w7.heap.size w7 wr)) (fun u => fun _ => 4 - (intOf u).toNat)
                case atStart => exact ⟨0, by omega, rfl, z9, zt, zb⟩
                case round =>
                  clear z9 zt zb
                  obtain ⟨i, hi, rfl, z9, zt, zb⟩ := hrel
                  by_cases hli : i < 4
                  · have ti : (i : Int) < 4 := by omega
                    obtain ⟨a, ha⟩ : ∃ a, a = c + i := ⟨_, rfl⟩
                    obtain ⟨p, hp⟩ : ∃ p, p = a % 4 := ⟨_, rfl⟩
                    have tp : (p : Int) < 4 := by omega
                    have e1 := hid (show IntKind.i64.wrap ((c : Int) + (i : Int)) = (a : Int) from wr_nat (by omega) (by omega))
                    have e2 := hid (show (a : Int).tmod 4 = (p : Int) by rw [hp]; rfl)
                    have hq16 : c * 4 + i < 16 := by omega
                    have hp16 : p * 4 + i < 16 := by omega
                    have CT := hid ((zt.out.cell (c * 4 + i)).trans (get_ar hq16))
                    have tb := hid (show ((T (c * 4 + i) : Nat) : Int) < 256 by have := TB.out (c * 4 + i); omega)
                    have CB := hid ((zb.out.cell (p := ⟨gq, T (c * 4 + i), none⟩) hq7).trans (HQ.out _ (TB.out (c * 4 + i))))
                    have HPP := hid (show p = (c + i) % 4 by rw [hp, ha])
                    clear ha hp
                    go_wp2_with fail
                    refine wp_region_tail (C := Drew wr) 15 (by kernel_rfl) (by kernel_rfl) (by kernel_rfl) (Drew.refl _) ?_
                    simp only [List.take_succ_cons, List.take_zero, List.drop_succ_cons, List.drop_zero]
                    apply wpK_val
                    · rfl
                    · intro w' hw'
                      go_simp
                      first | exact rfl | exact ⟨rfl, hw'⟩
                    simp only [Act.put, List.setIfInBounds_toArray, List.set_cons_succ, List.set_cons_zero]
                    apply wpK_val
                    · rfl
                    · intro w' hw'
                      go_simp
                      first | exact rfl | exact ⟨rfl, hw'⟩
                    simp only [Act.put, List.setIfInBounds_toArray, List.set_cons_succ, List.set_cons_zero]
                    apply wpK_val
                    · rfl
                    · intro w' hw'
                      have h1 : _ := e1.out
                      go_simp
                      first | exact rfl | exact ⟨rfl, hw'⟩
                    simp only [Act.put, List.setIfInBounds_toArray, List.set_cons_succ, List.set_cons_zero]
                    apply wpK_val
                    · rfl
                    · intro w' hw'
                      have h1 : _ := e2.out
                      go_simp
                      first | exact rfl | exact ⟨rfl, hw'⟩
                    simp only [Act.put, List.setIfInBounds_toArray, List.set_cons_succ, List.set_cons_zero]
                    apply wpK_val
                    · rfl
                    · intro w' hw'
                      go_simp
                      first | exact rfl | exact ⟨rfl, hw'⟩
                    simp only [Act.put, List.setIfInBounds_toArray, List.set_cons_succ, List.set_cons_zero]
                    apply wpK_val
                    · rfl
                    · intro w' hw'
                      go_simp
                      first | exact rfl | exact ⟨rfl, hw'⟩
                    simp only [Act.put, List.setIfInBounds_toArray, List.set_cons_succ, List.set_cons_zero]
                    apply wpK_val
                    · rfl
                    · intro w' hw'
                      go_simp
                      first | exact rfl | exact ⟨rfl, hw'⟩
                    simp only [Act.put, List.setIfInBounds_toArray, List.set_cons_succ, List.set_cons_zero]
                    apply wpK_val
                    · rfl
                    · intro w' hw'
                      go_simp
                      first | exact rfl | exact ⟨rfl, hw'⟩
                    simp only [Act.put, List.setIfInBounds_toArray, List.set_cons_succ, List.set_cons_zero]
                    apply wpK_val
                    · rfl
                    · intro w' hw'
                      go_simp
                      first | exact rfl | exact ⟨rfl, hw'⟩
                    simp only [Act.put, List.setIfInBounds_toArray, List.set_cons_succ, List.set_cons_zero]
                    apply wpK_val
                    · rfl
                    · intro w' hw'
                      go_simp
                      first | exact rfl | exact ⟨rfl, hw'⟩
                    simp only [Act.put, List.setIfInBounds_toArray, List.set_cons_succ, List.set_cons_zero]
                    apply wpK_val
                    · rfl
                    · intro w' hw'
                      have hcell := hw'.cell CT.out
                      go_simp
                      first | exact rfl | exact ⟨rfl, hw'⟩
                    simp only [Act.put, List.setIfInBounds_toArray, List.set_cons_succ, List.set_cons_zero]
                    apply wpK_val
                    · rfl
                    · intro w' hw'
                      have h1 : _ := tb.out
                      go_simp
                      first | exact rfl | exact ⟨rfl, hw'⟩
                    simp only [Act.put, List.setIfInBounds_toArray, List.set_cons_succ, List.set_cons_zero]
                    apply wpK_val
                    · rfl
                    · intro w' hw'
                      have hcell := hw'.cell CB.out
                      go_simp
                      first | exact rfl | exact ⟨rfl, hw'⟩
                    simp only [Act.put, List.setIfInBounds_toArray, List.set_cons_succ, List.set_cons_zero]
                    apply wpK_val
                    · rfl
                    · intro w' hw'
                      go_simp
                      first | exact rfl | exact ⟨rfl, hw'⟩
                    simp only [Act.put, List.setIfInBounds_toArray, List.set_cons_succ, List.set_cons_zero]
                    apply wpK_val
                    · rfl
                    · intro w' hw'
                      go_simp
                      first | exact rfl | exact ⟨rfl, hw'⟩
                    simp only [Act.put, List.setIfInBounds_toArray, List.set_cons_succ, List.set_cons_zero]
                    refine wpK_nil fun w5 hw5 => ?_
                    have r9 := hid (hw5.blk z9.out)
                    have rt := hid (hw5.blk zt.out)
                    have rb := hid (hw5.below zb.out)
                    have c3 := (r9.out.cell (p * 4 + i)).trans (get_ar hp16)
                    have f3 := r9.out.frozen (p * 4 + i)
                    clear z9 zt zb hw5 CT CB e1 e2 tb
                    go_wp2_with fail
                    go_roundw
                    case rel => exact ⟨i + 1, by omega, by go_num, hid (scat_step hlc hli HPP.out rfl (r9.out.setCell_same (p * 4 + i) _)), hid (rt.out.setCell_other (by show g9 ≠ gt; omega) _), hid (rb.out.setCell (by show w7.heap.size ≤ g9; omega) _)⟩
                    case measure => simp [intOf]; omega
                  · have ti : decide ((i : Int) < 4) = false := by simp; omega
                    obtain rfl : i = 4 := by omega
                    go_wp2_with fail
                    go_roundw
                    case rel => exact ⟨c + 1, by omega, by go_num, hid (by rw [show 4 * (c + 1) = 4 * c + 4 by omega]; exact z9.out), zt, zb⟩
                    case measure => simp [intOf]; omega
              · have tc : decide ((c : Int) < 4) = false := by simp; omega
                have q9 := z9.out
                rw [scat_all (by omega), HX.out] at q9
                have Q9 := hid q9
                clear z9 q9
                have EQ := hid (show (r : Int) - 1 = ((r - 1 : Nat) : Int) by omega)
                go_wp2_with fail
                go_roundw
                case rel => exact ⟨r - 1, m + 1, by have := HM.out; omega, by first | (rw [EQ.out]; done) | (rw [← EQ.out]; go_num) | go_num, Q9, zb⟩
                case measure => simp [intOf]; omega
        · have tr : decide ((1 : Int) ≤ (r : Int)) = false := by simp; omega
          have y14 := hid (show Blk wr g9 81 (ar 16 (AesM.os (AesM.ks k) f 13)) by
            have h := y9.out
            rw [show m = 14 by have := HM.out; omega] at h
            exact h)
          have dR := hid (d2.out.below yb.out d2.out.lt)
          have rb := hid (db.out.trans (yb.out.mono db.out.size))
          have SR := hid (S7.out.below yb.out)
          clear y9 yb S7 HM
          go_wp2_with ((with_reducible apply ldA tSS); rfl; exact y14.out)
          refine (radded_any (AesM.os (AesM.ks k) f 13) k (AesM.os_bt _ _ _) HK.out 0 (by omega) v (w4.heap.size + 1) _ SR.out).mono ?_
          rintro e wE ⟨rfl, hE⟩
          have eR := hid (dR.out.below hE dR.out.lt)
          have eb := hid (rb.out.trans (hE.mono rb.out.size))
          clear dR rb hE y14 SR
          go_wp2_with fail
          refine (rblock_any (AesM.open' (AesM.ks k) f) wE).mono ?_
          rintro e wF ⟨rfl, hF⟩
          have qR := hid (eR.out.below hF eR.out.lt)
          have qb := hid (eb.out.trans (hF.mono eb.out.size))
          clear eR eb hF
          go_wp2_with ((with_reducible apply stA tBk); rfl; rfl; exact qR.out)
          apply ret_ar tBk Try.results22
          · rfl
          · rfl
          · exact qR.out.setRow_same _
          exact ⟨rfl, below_setRow qb.out (by omega) _⟩
open AesM (Q16)
attribute [local go_sem] GivesE
end AesP
end Go.Proofs.Ytkcfonlondlmeaa
namespace Go.Proofs.Ytkcfonlondlmeaa
open Go.ChangeShapes Go.WideShapes Go.ChangeAt Go.RowKit
open AesM (Bt Q16)
open AesP (tBk tKey wr_nat rseal_any ropen_any)
attribute [local go_sem] Gives
namespace XtP
theorem sect_at {E : (Nat → Nat) → Nat → Nat} {t s : Nat → Nat} {k j p : Nat} (hp : p = 16 * k + j) (hj : j < 16) : XtM.sect E t s p = E (AesM.add (XtM.part s k) (XtM.tk t k)) j ^^^ XtM.tk t k j := by
  subst hp
  unfold XtM.sect
  rw [show (16 * k + j) / 16 = k by omega, show (16 * k + j) % 16 = j by omega]; rfl
set_option maxHeartbeats 800000 in
set_option maxRecDepth 100000 in
theorem rsealing_any (f l s : Nat → Nat) (hf : Bt f) (hl : Bt l) (hs : Bt s) (n : Nat) (hn : n < 18446744073709551616) (w : World) :
    Calls Try.prog 7 #[.agg (ar 32 f), .agg (ar 32 l), .int .u64 n, .agg (ar 64 s)] w fun e w' => e = .returned (.agg (ar 64 (XtM.sect (AesM.sealM (AesM.ks f)) (AesM.sealM (AesM.ks l) (XtM.tw n)) s))) ∧ Below w.heap.size w w' := by
  have HF := hid hf
  have HL := hid hl
  have HS := hid hs
  have HN := hid hn
  have KF := hid (AesM.ks_bt hf)
  have KL := hid (AesM.ks_bt hl)
  clear hf hl hs
  obtain ⟨T, hT⟩ : ∃ T, T = AesM.sealM (AesM.ks l) (XtM.tw n) := ⟨_, rfl⟩
  have TB := hid (show Bt T by rw [hT]; exact AesM.seal_bt KL.out)
  have HTE := hid hT
  rw [← hT]
  obtain ⟨F, hF⟩ : ∃ F, F = XtM.sect (AesM.sealM (AesM.ks f)) T s := ⟨_, rfl⟩
  have HFE := hid hF
  rw [← hF]
  clear hF hT
  go_enter Try.func7, Try.ntmps7
  go_upto_region 2 with (with_reducible apply alA tSec)
  generalize hw1 : World.alloc (World.alloc (World.alloc (World.alloc (World.alloc w _) _) _) _) _ = w1
  have b0 := hid (show Blk w1 w.heap.size 23 (ar 32 f) by rw [← hw1]; exact ((((Blk.new _ _ _).alloc _).alloc _).alloc _).alloc _)
  have b1 := hid (show Blk w1 (w.heap.size + 1) 23 (ar 32 l) by rw [← hw1]; exact (((Blk.top rfl (by simp)).alloc _).alloc _).alloc _)
  have b2 := hid (show Blk w1 (w.heap.size + 2) 28 (ar 64 s) by rw [← hw1]; exact ((Blk.top rfl (by simp)).alloc _).alloc _)
  have b3 := hid (show Blk w1 (w.heap.size + 3) 28 (ar 64 fun _ => 0) by rw [← hw1]; exact (Blk.top rfl (by simp)).alloc _)
  have b4 := hid (show Blk w1 (w.heap.size + 4) 28 (ar 64 fun _ => 0) by rw [← hw1]; exact Blk.top rfl (by simp))
  have hb := hid (show Below w.heap.size w w1 by rw [← hw1]; exact (((((Below.refl _ _).alloc (Nat.le_refl _) _).alloc (by simp) _).alloc (by simp; omega) _).alloc (by simp; omega) _).alloc (by simp; omega) _)
  clear hw1
  go_wp2_with fail
  obtain ⟨go, hgo⟩ : ∃ go, go = w.heap.size + 1 + 1 + 1 + 1 := ⟨_, rfl⟩
  have HGO := hid (show go = w.heap.size + 4 by omega)
  rw [← hgo]
  have b4 := hid (show Blk w1 go 28 (ar 64 fun _ => 0) by rw [HGO.out]; exact b4.out)
  clear hgo
  go_loopw [10] (fun i wr => ∃ k : Nat, k ≤ 4 ∧ i = .int .i64 k ∧ Hid (Blk wr w.heap.size 23 (ar 32 f)) ∧ Hid (Blk wr (w.heap.size + 1) 23 (ar 32 l)) ∧ Hid (Blk wr (w.heap.size + 2) 28 (ar 64 s)) ∧ Hid (Blk wr (w.heap.size + 3) 28 (ar 64 fun _ => 0)) ∧ Hid (Blk wr go 28 (ar 64 (upTo (16 * k) (fun _ => 0) F))) ∧ Hid (Below w.heap.size w wr)) (fun i _ => 4 - (intOf i).toNat)
  case atStart => exact ⟨0, by omega, rfl, b0, b1, b2, b3, by rw [Nat.mul_zero, upTo_zero]; exact b4, hb⟩
  case round =>
    clear b0 b1 b2 b3 b4 hb
    obtain ⟨k, hk, rfl, b0, b1, b2, b3, b4, hb⟩ := hrel
    by_cases hlt : k < 4
    · have tk : (k : Int) < 4 := by omega
      obtain ⟨q, hq⟩ : ∃ q, q = 16 * k := ⟨_, rfl⟩
      have EQ := hid (show IntKind.i64.wrap (16 * (k : Int)) = (q : Int) from wr_nat (by omega) (by omega))
      have HQ := hid hq
      clear hq
      go_wp2_with ((with_reducible apply ldA tKey); rfl; exact b1.out)
      refine (tweak_any l HL.out n k HN.out hlt wr).mono ?_
      rintro e w2 ⟨rfl, h2⟩
      rw [← HTE.out]
      obtain ⟨t, ht⟩ : ∃ t, t = XtM.tk T k := ⟨_, rfl⟩
      have TTB := hid (show Bt t by rw [ht]; exact XtM.tk_bt TB.out k)
      have HTT := hid ht
      rw [← ht]
      clear ht
      have c0 := hid (b0.out.below h2 b0.out.lt)
      have c1 := hid (b1.out.below h2 b1.out.lt)
      have c2 := hid (b2.out.below h2 b2.out.lt)
      have c3 := hid (b3.out.below h2 b3.out.lt)
      have c4 := hid (b4.out.below h2 b4.out.lt)
      have cb := hid (hb.out.trans (h2.mono hb.out.size))
      clear b0 b1 b2 b3 b4 hb h2
      obtain ⟨gt, hgt⟩ : ∃ gt, gt = w2.heap.size := ⟨_, rfl⟩
      have hgo : go < gt := by rw [hgt]; exact c4.out.lt
      have hz : Blk (w2.alloc (.cells (ar 16 fun _ => 0) 35)) w2.heap.size 35 (ar 16 fun _ => 0) := Blk.new _ _ _
      go_upto_region 6 with (first | (with_reducible apply alA tBk) | ((with_reducible apply stA tBk); rfl; rfl; exact hz))
      rw [← hgt] at hz ⊢
      generalize hw3 : World.setRow _ _ _ = w3
      have d0 := hid (show Blk w3 w.heap.size 23 (ar 32 f) by rw [← hw3]; exact (c0.out.alloc _).setRow_other (by have := HGO.out; omega) _)
      have d1 := hid (show Blk w3 (w.heap.size + 1) 23 (ar 32 l) by rw [← hw3]; exact (c1.out.alloc _).setRow_other (by have := HGO.out; omega) _)
      have d2 := hid (show Blk w3 (w.heap.size + 2) 28 (ar 64 s) by rw [← hw3]; exact (c2.out.alloc _).setRow_other (by have := HGO.out; omega) _)
      have d3 := hid (show Blk w3 (w.heap.size + 3) 28 (ar 64 fun _ => 0) by rw [← hw3]; exact (c3.out.alloc _).setRow_other (by have := HGO.out; omega) _)
      have d4 := hid (show Blk w3 go 28 (ar 64 (upTo (16 * k) (fun _ => 0) F)) by rw [← hw3]; exact (c4.out.alloc _).setRow_other (by omega) _)
      have dt := hid (show Blk w3 gt 35 (ar 16 t) by rw [← hw3]; exact hz.setRow_same _)
      have db := hid (show Below w.heap.size w w3 by rw [← hw3]; exact below_setRow (cb.out.alloc cb.out.size _) (by have := HGO.out; omega) _)
      clear hw3 hz c0 c1 c2 c3 c4 cb hgt
      refine wp_region_new1 (C := fun w' => Below w3.heap.size w3 w') 6 35 (ar 16 fun _ => 0) 12 rfl (by kernel_rfl) (by kernel_rfl) (by kernel_rfl) (run_alloc_ar tBk) (Below.refl _ _).drew (fun w' hw' => hw'.alloc hw'.size _) (fun w' hw' => hw'.size) ?_
      simp only [List.take_succ_cons, List.take_zero, List.drop_succ_cons, List.drop_zero]
      apply bldA tKey
      · rfl
      · rfl
      · exact fun w' hw' => (d0.out.below hw' d0.out.lt).head
      simp only [Act.put, List.setIfInBounds_toArray, List.set_cons_succ, List.set_cons_zero]
      apply bldA tSec
      · rfl
      · rfl
      · exact fun w' hw' => (d2.out.below hw' d2.out.lt).head
      simp only [Act.put, List.setIfInBounds_toArray, List.set_cons_succ, List.set_cons_zero]
      apply wpB_val
      · rfl
      · intro w' hw'
        have hbl := Below.refl w'.heap.size w'
        go_simp
        first | exact rfl | exact ⟨rfl, hbl⟩ | exact ⟨rfl, hw', hbl⟩
      simp only [Act.put, List.setIfInBounds_toArray, List.set_cons_succ, List.set_cons_zero]
      apply bldA tBk
      · rfl
      · rfl
      · exact fun w' hw' => (dt.out.below hw' dt.out.lt).head
      simp only [Act.put, List.setIfInBounds_toArray, List.set_cons_succ, List.set_cons_zero]
      apply wpB_val
      · rfl
      · intro w' hw'
        go_simp
        exact (part_any s t k hlt HS.out TTB.out w').mono fun e w2 h => ⟨h.1, hw'.trans (h.2.mono hw'.size), h.2⟩
      simp only [Act.put, List.setIfInBounds_toArray, List.set_cons_succ, List.set_cons_zero]
      apply wpB_val
      · rfl
      · intro w' hw'
        go_simp
        exact (rseal_any f (AesM.add (XtM.part s k) t) HF.out (XtM.add_bt (XtM.part_bt HS.out k) TTB.out) w').mono fun e w2 h => ⟨h.1, hw'.trans (h.2.mono hw'.size), h.2⟩
      simp only [Act.put, List.setIfInBounds_toArray, List.set_cons_succ, List.set_cons_zero]
      obtain ⟨B, hB⟩ : ∃ B, B = AesM.sealM (AesM.ks f) (AesM.add (XtM.part s k) t) := ⟨_, rfl⟩
      have BB := hid (show Bt B by rw [hB]; exact AesM.seal_bt KF.out)
      have HF2 := hid (show ∀ j, j < 16 → F (q + j) = B j ^^^ t j by
        intro j hj
        rw [HFE.out, sect_at (k := k) (by rw [HQ.out]) hj, hB, ← HTT.out])
      rw [← hB]
      clear hB
      refine wpB_nil fun gB w5 hw5 qB hgB => ?_
      have e0 := hid (d0.out.below hw5 d0.out.lt)
      have e1 := hid (d1.out.below hw5 d1.out.lt)
      have e2 := hid (d2.out.below hw5 d2.out.lt)
      have e3 := hid (d3.out.below hw5 d3.out.lt)
      have e4 := hid (d4.out.below hw5 d4.out.lt)
      have et := hid (dt.out.below hw5 dt.out.lt)
      have eb := hid (db.out.trans (hw5.mono db.out.size))
      have hgtB : gt < gB := by have := dt.out.lt; omega
      clear d0 d1 d2 d3 d4 dt db hw5 hgB
      unfold ptr
      go_upto_region 7 with ((with_reducible apply stA tBk); rfl; rfl; exact qB)
      generalize hw6 : World.setRow _ _ _ = w6
      have d0 := hid (show Blk w6 w.heap.size 23 (ar 32 f) by rw [← hw6]; exact e0.out.setRow_other (by have := HGO.out; omega) _)
      have d1 := hid (show Blk w6 (w.heap.size + 1) 23 (ar 32 l) by rw [← hw6]; exact e1.out.setRow_other (by have := HGO.out; omega) _)
      have d2 := hid (show Blk w6 (w.heap.size + 2) 28 (ar 64 s) by rw [← hw6]; exact e2.out.setRow_other (by have := HGO.out; omega) _)
      have d3 := hid (show Blk w6 (w.heap.size + 3) 28 (ar 64 fun _ => 0) by rw [← hw6]; exact e3.out.setRow_other (by have := HGO.out; omega) _)
      have d4 := hid (show Blk w6 go 28 (ar 64 (upTo (16 * k) (fun _ => 0) F)) by rw [← hw6]; exact e4.out.setRow_other (by omega) _)
      have dt := hid (show Blk w6 gt 35 (ar 16 t) by rw [← hw6]; exact et.out.setRow_other (by omega) _)
      have dB := hid (show Blk w6 gB 35 (ar 16 B) by rw [← hw6]; exact qB.setRow_same _)
      have db := hid (show Below w.heap.size w w6 by rw [← hw6]; exact below_setRow eb.out (by have := HGO.out; omega) _)
      clear hw6 e0 e1 e2 e3 e4 et eb qB
      go_wp2_with fail
      go_loopw [13] (fun i wr => ∃ j : Nat, j ≤ 16 ∧ i = .int .i64 j ∧ Hid (Blk wr w.heap.size 23 (ar 32 f)) ∧ Hid (Blk wr (w.heap.size + 1) 23 (ar 32 l)) ∧ Hid (Blk wr (w.heap.size + 2) 28 (ar 64 s)) ∧ Hid (Blk wr (w.heap.size + 3) 28 (ar 64 fun _ => 0)) ∧
          Hid (Blk wr go 28 (ar 64 (upTo (q + j) (fun _ => 0) F))) ∧ Hid (Blk wr gt 35 (ar 16 t)) ∧ Hid (Blk wr gB 35 (ar 16 B)) ∧ Hid (Below w.heap.size w wr)) (fun i _ => 16 - (intOf i).toNat)
      case atStart => exact ⟨0, by omega, rfl, d0, d1, d2, d3, by rw [Nat.add_zero, HQ.out]; exact d4, dt, dB, db⟩
      case round =>
        clear d0 d1 d2 d3 d4 dt dB db
        obtain ⟨j, hj, rfl, d0, d1, d2, d3, d4, dt, dB, db⟩ := hrel
        by_cases hj16 : j < 16
        · have tj : (j : Int) < 16 := by omega
          obtain ⟨p, hp⟩ : ∃ p, p = q + j := ⟨_, rfl⟩
          have hp64 : p < 64 := by have := HQ.out; omega
          have E1 := EQ.out
          have E2 : IntKind.i64.wrap ((q : Int) + (j : Int)) = (p : Int) := wr_nat (by omega) (by omega)
          have tp : (p : Int) < 64 := by omega
          have fp := HF2.out j hj16
          rw [← hp] at fp d4
          have c0 : wr.cell? ⟨gB, j, none⟩ = some (.int .u8 (B j : Nat)) := by rw [dB.out.cell, get_ar hj16]
          have c1 : wr.cell? ⟨gt, j, none⟩ = some (.int .u8 (t j : Nat)) := by rw [dt.out.cell, get_ar hj16]
          have c3 := d4.out.frozen p
          have c4 := (d4.out.cell p).trans (get_ar hp64)
          have HP := hid hp
          have FP := hid fp
          clear hp fp
          go_wp2_with fail
          go_still_tail 12, (by kernel_rfl)
          change wpList _ _ _ _ _ wr.drew
          rw [u8_xor_nat _ _ (BB.out j) (TTB.out j), ← FP.out]
          go_wp2_with fail
          go_roundw
          case rel =>
            refine ⟨j + 1, by omega, by go_num, hid (d0.out.setCell_other (by show go ≠ _; have := HGO.out; omega) _).drew, hid (d1.out.setCell_other (by show go ≠ _; have := HGO.out; omega) _).drew, hid (d2.out.setCell_other (by show go ≠ _; have := HGO.out; omega) _).drew, hid (d3.out.setCell_other (by show go ≠ _; have := HGO.out; omega) _).drew, hid ?_, hid (dt.out.setCell_other (by show go ≠ _; omega) _).drew, hid (dB.out.setCell_other (by show go ≠ _; omega) _).drew, hid (db.out.setCell (by show w.heap.size ≤ go; have := HGO.out; omega) _).drew⟩
            have h := upTo_step (h := F) (d4.out.setCell_same p (.int .u8 (F p : Nat)))
            rw [show q + (j + 1) = p + 1 by have := HP.out; omega]
            exact h.drew
          case measure => simp [intOf]; omega
        · have tj : decide ((j : Int) < 16) = false := by simp; omega
          obtain rfl : j = 16 := by omega
          go_wp2_with fail
          go_roundw
          case rel => exact ⟨k + 1, by omega, by go_num, d0, d1, d2, d3, by rw [show 16 * (k + 1) = q + 16 by have := HQ.out; omega]; exact d4, db⟩
          case measure => simp [intOf]; omega
    · have tk : decide ((k : Int) < 4) = false := by simp; omega
      have d4 := b4.out
      have d3 := b3.out
      rw [upTo_all (by omega)] at d4
      go_wp2_with (first | ((with_reducible apply ldA tSec); rfl; exact d4) | ((with_reducible apply stA tSec); rfl; rfl; exact d3))
      apply ret_ar tSec Try.results7
      · rfl
      · rfl
      · exact d3.setRow_same _
      exact ⟨rfl, below_setRow hb.out (by omega) _⟩
set_option maxHeartbeats 800000 in
set_option maxRecDepth 100000 in
theorem ropening_any (f l s : Nat → Nat) (hf : Bt f) (hl : Bt l) (hs : Bt s) (n : Nat) (hn : n < 18446744073709551616) (w : World) :
    Calls Try.prog 9 #[.agg (ar 32 f), .agg (ar 32 l), .int .u64 n, .agg (ar 64 s)] w fun e w' => e = .returned (.agg (ar 64 (XtM.sect (AesM.open' (AesM.ks f)) (AesM.sealM (AesM.ks l) (XtM.tw n)) s))) ∧ Below w.heap.size w w' := by
  have HF := hid hf
  have HL := hid hl
  have HS := hid hs
  have HN := hid hn
  have KF := hid (AesM.ks_bt hf)
  have KL := hid (AesM.ks_bt hl)
  clear hf hl hs
  obtain ⟨T, hT⟩ : ∃ T, T = AesM.sealM (AesM.ks l) (XtM.tw n) := ⟨_, rfl⟩
  have TB := hid (show Bt T by rw [hT]; exact AesM.seal_bt KL.out)
  have HTE := hid hT
  rw [← hT]
  obtain ⟨F, hF⟩ : ∃ F, F = XtM.sect (AesM.open' (AesM.ks f)) T s := ⟨_, rfl⟩
  have HFE := hid hF
  rw [← hF]
  clear hF hT
  go_enter Try.func9, Try.ntmps9
  go_upto_region 2 with (with_reducible apply alA tSec)
  generalize hw1 : World.alloc (World.alloc (World.alloc (World.alloc (World.alloc w _) _) _) _) _ = w1
  have b0 := hid (show Blk w1 w.heap.size 23 (ar 32 f) by rw [← hw1]; exact ((((Blk.new _ _ _).alloc _).alloc _).alloc _).alloc _)
  have b1 := hid (show Blk w1 (w.heap.size + 1) 23 (ar 32 l) by rw [← hw1]; exact (((Blk.top rfl (by simp)).alloc _).alloc _).alloc _)
  have b2 := hid (show Blk w1 (w.heap.size + 2) 28 (ar 64 s) by rw [← hw1]; exact ((Blk.top rfl (by simp)).alloc _).alloc _)
  have b3 := hid (show Blk w1 (w.heap.size + 3) 28 (ar 64 fun _ => 0) by rw [← hw1]; exact (Blk.top rfl (by simp)).alloc _)
  have b4 := hid (show Blk w1 (w.heap.size + 4) 28 (ar 64 fun _ => 0) by rw [← hw1]; exact Blk.top rfl (by simp))
  have hb := hid (show Below w.heap.size w w1 by rw [← hw1]; exact (((((Below.refl _ _).alloc (Nat.le_refl _) _).alloc (by simp) _).alloc (by simp; omega) _).alloc (by simp; omega) _).alloc (by simp; omega) _)
  clear hw1
  go_wp2_with fail
  obtain ⟨go, hgo⟩ : ∃ go, go = w.heap.size + 1 + 1 + 1 + 1 := ⟨_, rfl⟩
  have HGO := hid (show go = w.heap.size + 4 by omega)
  rw [← hgo]
  have b4 := hid (show Blk w1 go 28 (ar 64 fun _ => 0) by rw [HGO.out]; exact b4.out)
  clear hgo
  go_loopw [10] (fun i wr => ∃ k : Nat, k ≤ 4 ∧ i = .int .i64 k ∧ Hid (Blk wr w.heap.size 23 (ar 32 f)) ∧ Hid (Blk wr (w.heap.size + 1) 23 (ar 32 l)) ∧ Hid (Blk wr (w.heap.size + 2) 28 (ar 64 s)) ∧ Hid (Blk wr (w.heap.size + 3) 28 (ar 64 fun _ => 0)) ∧ Hid (Blk wr go 28 (ar 64 (upTo (16 * k) (fun _ => 0) F))) ∧ Hid (Below w.heap.size w wr)) (fun i _ => 4 - (intOf i).toNat)
  case atStart => exact ⟨0, by omega, rfl, b0, b1, b2, b3, by rw [Nat.mul_zero, upTo_zero]; exact b4, hb⟩
  case round =>
    clear b0 b1 b2 b3 b4 hb
    obtain ⟨k, hk, rfl, b0, b1, b2, b3, b4, hb⟩ := hrel
    by_cases hlt : k < 4
    · have tk : (k : Int) < 4 := by omega
      obtain ⟨q, hq⟩ : ∃ q, q = 16 * k := ⟨_, rfl⟩
      have EQ := hid (show IntKind.i64.wrap (16 * (k : Int)) = (q : Int) from wr_nat (by omega) (by omega))
      have HQ := hid hq
      clear hq
      go_wp2_with ((with_reducible apply ldA tKey); rfl; exact b1.out)
      refine (tweak_any l HL.out n k HN.out hlt wr).mono ?_
      rintro e w2 ⟨rfl, h2⟩
      rw [← HTE.out]
      obtain ⟨t, ht⟩ : ∃ t, t = XtM.tk T k := ⟨_, rfl⟩
      have TTB := hid (show Bt t by rw [ht]; exact XtM.tk_bt TB.out k)
      have HTT := hid ht
      rw [← ht]
      clear ht
      have c0 := hid (b0.out.below h2 b0.out.lt)
      have c1 := hid (b1.out.below h2 b1.out.lt)
      have c2 := hid (b2.out.below h2 b2.out.lt)
      have c3 := hid (b3.out.below h2 b3.out.lt)
      have c4 := hid (b4.out.below h2 b4.out.lt)
      have cb := hid (hb.out.trans (h2.mono hb.out.size))
      clear b0 b1 b2 b3 b4 hb h2
      obtain ⟨gt, hgt⟩ : ∃ gt, gt = w2.heap.size := ⟨_, rfl⟩
      have hgo : go < gt := by rw [hgt]; exact c4.out.lt
      have hz : Blk (w2.alloc (.cells (ar 16 fun _ => 0) 35)) w2.heap.size 35 (ar 16 fun _ => 0) := Blk.new _ _ _
      go_upto_region 6 with (first | (with_reducible apply alA tBk) | ((with_reducible apply stA tBk); rfl; rfl; exact hz))
      rw [← hgt] at hz ⊢
      generalize hw3 : World.setRow _ _ _ = w3
      have d0 := hid (show Blk w3 w.heap.size 23 (ar 32 f) by rw [← hw3]; exact (c0.out.alloc _).setRow_other (by have := HGO.out; omega) _)
      have d1 := hid (show Blk w3 (w.heap.size + 1) 23 (ar 32 l) by rw [← hw3]; exact (c1.out.alloc _).setRow_other (by have := HGO.out; omega) _)
      have d2 := hid (show Blk w3 (w.heap.size + 2) 28 (ar 64 s) by rw [← hw3]; exact (c2.out.alloc _).setRow_other (by have := HGO.out; omega) _)
      have d3 := hid (show Blk w3 (w.heap.size + 3) 28 (ar 64 fun _ => 0) by rw [← hw3]; exact (c3.out.alloc _).setRow_other (by have := HGO.out; omega) _)
      have d4 := hid (show Blk w3 go 28 (ar 64 (upTo (16 * k) (fun _ => 0) F)) by rw [← hw3]; exact (c4.out.alloc _).setRow_other (by omega) _)
      have dt := hid (show Blk w3 gt 35 (ar 16 t) by rw [← hw3]; exact hz.setRow_same _)
      have db := hid (show Below w.heap.size w w3 by rw [← hw3]; exact below_setRow (cb.out.alloc cb.out.size _) (by have := HGO.out; omega) _)
      clear hw3 hz c0 c1 c2 c3 c4 cb hgt
      refine wp_region_new1 (C := fun w' => Below w3.heap.size w3 w') 6 35 (ar 16 fun _ => 0) 12 rfl (by kernel_rfl) (by kernel_rfl) (by kernel_rfl) (run_alloc_ar tBk) (Below.refl _ _).drew (fun w' hw' => hw'.alloc hw'.size _) (fun w' hw' => hw'.size) ?_
      simp only [List.take_succ_cons, List.take_zero, List.drop_succ_cons, List.drop_zero]
      apply bldA tKey
      · rfl
      · rfl
      · exact fun w' hw' => (d0.out.below hw' d0.out.lt).head
      simp only [Act.put, List.setIfInBounds_toArray, List.set_cons_succ, List.set_cons_zero]
      apply bldA tSec
      · rfl
      · rfl
      · exact fun w' hw' => (d2.out.below hw' d2.out.lt).head
      simp only [Act.put, List.setIfInBounds_toArray, List.set_cons_succ, List.set_cons_zero]
      apply wpB_val
      · rfl
      · intro w' hw'
        have hbl := Below.refl w'.heap.size w'
        go_simp
        first | exact rfl | exact ⟨rfl, hbl⟩ | exact ⟨rfl, hw', hbl⟩
      simp only [Act.put, List.setIfInBounds_toArray, List.set_cons_succ, List.set_cons_zero]
      apply bldA tBk
      · rfl
      · rfl
      · exact fun w' hw' => (dt.out.below hw' dt.out.lt).head
      simp only [Act.put, List.setIfInBounds_toArray, List.set_cons_succ, List.set_cons_zero]
      apply wpB_val
      · rfl
      · intro w' hw'
        go_simp
        exact (part_any s t k hlt HS.out TTB.out w').mono fun e w2 h => ⟨h.1, hw'.trans (h.2.mono hw'.size), h.2⟩
      simp only [Act.put, List.setIfInBounds_toArray, List.set_cons_succ, List.set_cons_zero]
      apply wpB_val
      · rfl
      · intro w' hw'
        go_simp
        exact (ropen_any f (AesM.add (XtM.part s k) t) HF.out (XtM.add_bt (XtM.part_bt HS.out k) TTB.out) w').mono fun e w2 h => ⟨h.1, hw'.trans (h.2.mono hw'.size), h.2⟩
      simp only [Act.put, List.setIfInBounds_toArray, List.set_cons_succ, List.set_cons_zero]
      obtain ⟨B, hB⟩ : ∃ B, B = AesM.open' (AesM.ks f) (AesM.add (XtM.part s k) t) := ⟨_, rfl⟩
      have BB := hid (show Bt B by rw [hB]; exact AesM.open_bt KF.out)
      have HF2 := hid (show ∀ j, j < 16 → F (q + j) = B j ^^^ t j by
        intro j hj
        rw [HFE.out, sect_at (k := k) (by rw [HQ.out]) hj, hB, ← HTT.out])
      rw [← hB]
      clear hB
      refine wpB_nil fun gB w5 hw5 qB hgB => ?_
      have e0 := hid (d0.out.below hw5 d0.out.lt)
      have e1 := hid (d1.out.below hw5 d1.out.lt)
      have e2 := hid (d2.out.below hw5 d2.out.lt)
      have e3 := hid (d3.out.below hw5 d3.out.lt)
      have e4 := hid (d4.out.below hw5 d4.out.lt)
      have et := hid (dt.out.below hw5 dt.out.lt)
      have eb := hid (db.out.trans (hw5.mono db.out.size))
      have hgtB : gt < gB := by have := dt.out.lt; omega
      clear d0 d1 d2 d3 d4 dt db hw5 hgB
      unfold ptr
      go_upto_region 7 with ((with_reducible apply stA tBk); rfl; rfl; exact qB)
      generalize hw6 : World.setRow _ _ _ = w6
      have d0 := hid (show Blk w6 w.heap.size 23 (ar 32 f) by rw [← hw6]; exact e0.out.setRow_other (by have := HGO.out; omega) _)
      have d1 := hid (show Blk w6 (w.heap.size + 1) 23 (ar 32 l) by rw [← hw6]; exact e1.out.setRow_other (by have := HGO.out; omega) _)
      have d2 := hid (show Blk w6 (w.heap.size + 2) 28 (ar 64 s) by rw [← hw6]; exact e2.out.setRow_other (by have := HGO.out; omega) _)
      have d3 := hid (show Blk w6 (w.heap.size + 3) 28 (ar 64 fun _ => 0) by rw [← hw6]; exact e3.out.setRow_other (by have := HGO.out; omega) _)
      have d4 := hid (show Blk w6 go 28 (ar 64 (upTo (16 * k) (fun _ => 0) F)) by rw [← hw6]; exact e4.out.setRow_other (by omega) _)
      have dt := hid (show Blk w6 gt 35 (ar 16 t) by rw [← hw6]; exact et.out.setRow_other (by omega) _)
      have dB := hid (show Blk w6 gB 35 (ar 16 B) by rw [← hw6]; exact qB.setRow_same _)
      have db := hid (show Below w.heap.size w w6 by rw [← hw6]; exact below_setRow eb.out (by have := HGO.out; omega) _)
      clear hw6 e0 e1 e2 e3 e4 et eb qB
      go_wp2_with fail
      go_loopw [13] (fun i wr => ∃ j : Nat, j ≤ 16 ∧ i = .int .i64 j ∧ Hid (Blk wr w.heap.size 23 (ar 32 f)) ∧ Hid (Blk wr (w.heap.size + 1) 23 (ar 32 l)) ∧ Hid (Blk wr (w.heap.size + 2) 28 (ar 64 s)) ∧ Hid (Blk wr (w.heap.size + 3) 28 (ar 64 fun _ => 0)) ∧
          Hid (Blk wr go 28 (ar 64 (upTo (q + j) (fun _ => 0) F))) ∧ Hid (Blk wr gt 35 (ar 16 t)) ∧ Hid (Blk wr gB 35 (ar 16 B)) ∧ Hid (Below w.heap.size w wr)) (fun i _ => 16 - (intOf i).toNat)
      case atStart => exact ⟨0, by omega, rfl, d0, d1, d2, d3, by rw [Nat.add_zero, HQ.out]; exact d4, dt, dB, db⟩
      case round =>
        clear d0 d1 d2 d3 d4 dt dB db
        obtain ⟨j, hj, rfl, d0, d1, d2, d3, d4, dt, dB, db⟩ := hrel
        by_cases hj16 : j < 16
        · have tj : (j : Int) < 16 := by omega
          obtain ⟨p, hp⟩ : ∃ p, p = q + j := ⟨_, rfl⟩
          have hp64 : p < 64 := by have := HQ.out; omega
          have E1 := EQ.out
          have E2 : IntKind.i64.wrap ((q : Int) + (j : Int)) = (p : Int) := wr_nat (by omega) (by omega)
          have tp : (p : Int) < 64 := by omega
          have fp := HF2.out j hj16
          rw [← hp] at fp d4
          have c0 : wr.cell? ⟨gB, j, none⟩ = some (.int .u8 (B j : Nat)) := by rw [dB.out.cell, get_ar hj16]
          have c1 : wr.cell? ⟨gt, j, none⟩ = some (.int .u8 (t j : Nat)) := by rw [dt.out.cell, get_ar hj16]
          have c3 := d4.out.frozen p
          have c4 := (d4.out.cell p).trans (get_ar hp64)
          have HP := hid hp
          have FP := hid fp
          clear hp fp
          go_wp2_with fail
          go_still_tail 12, (by kernel_rfl)
          change wpList _ _ _ _ _ wr.drew
          rw [u8_xor_nat _ _ (BB.out j) (TTB.out j), ← FP.out]
          go_wp2_with fail
          go_roundw
          case rel =>
            refine ⟨j + 1, by omega, by go_num, hid (d0.out.setCell_other (by show go ≠ _; have := HGO.out; omega) _).drew, hid (d1.out.setCell_other (by show go ≠ _; have := HGO.out; omega) _).drew, hid (d2.out.setCell_other (by show go ≠ _; have := HGO.out; omega) _).drew, hid (d3.out.setCell_other (by show go ≠ _; have := HGO.out; omega) _).drew, hid ?_, hid (dt.out.setCell_other (by show go ≠ _; omega) _).drew, hid (dB.out.setCell_other (by show go ≠ _; omega) _).drew, hid (db.out.setCell (by show w.heap.size ≤ go; have := HGO.out; omega) _).drew⟩
            have h := upTo_step (h := F) (d4.out.setCell_same p (.int .u8 (F p : Nat)))
            rw [show q + (j + 1) = p + 1 by have := HP.out; omega]
            exact h.drew
          case measure => simp [intOf]; omega
        · have tj : decide ((j : Int) < 16) = false := by simp; omega
          obtain rfl : j = 16 := by omega
          go_wp2_with fail
          go_roundw
          case rel => exact ⟨k + 1, by omega, by go_num, d0, d1, d2, d3, by rw [show 16 * (k + 1) = q + 16 by have := HQ.out; omega]; exact d4, db⟩
          case measure => simp [intOf]; omega
    · have tk : decide ((k : Int) < 4) = false := by simp; omega
      have d4 := b4.out
      have d3 := b3.out
      rw [upTo_all (by omega)] at d4
      go_wp2_with (first | ((with_reducible apply ldA tSec); rfl; exact d4) | ((with_reducible apply stA tSec); rfl; rfl; exact d3))
      apply ret_ar tSec Try.results9
      · rfl
      · rfl
      · exact d3.setRow_same _
      exact ⟨rfl, below_setRow hb.out (by omega) _⟩
end XtP
end Go.Proofs.Ytkcfonlondlmeaa
