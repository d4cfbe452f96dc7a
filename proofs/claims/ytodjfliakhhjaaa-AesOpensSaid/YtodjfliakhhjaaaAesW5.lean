/-
  Contract of casemateref07.Open; the law AesOpens (in one text: a claim has at most 60 files).
-/
import Derived.Test.YtodjfliakhhjaaaRAesSe
import Derived.Test.YtodjfliakhhjaaaAesCl
import Derived.Laws.MakeOwn
namespace Go.Proofs.Ytodjfliakhhjaaa
open Go.ChangeShapes Go.WideShapes Go.ChangeAt Go.RowKit
open AesM (Bt tab ls)
attribute [local go_sem] Gives
namespace AesP
section
variable {ops : Array Oper} {Q : Exit → Act → World → Prop} {a : Act} {w : World} {rest : List Oper} {dst : Option Tmp} {ty : TypeId} {pos : String} {after : Array Edge} {x y : Operand}
theorem mk256 (hx : a.eval x = .int .i64 256) (hy : a.eval y = .int .i64 256)
    (h : wpList Try.prog ops Q rest (a.put dst (.slice (some ⟨w.heap.size, 0, none⟩) 256 256)) (w.alloc (.cells (ar 256 fun _ => 0) 5))) :
    wpList Try.prog ops Q (⟨dst, .makeSlice 55 x y, ty, pos, after, none⟩ :: rest) a w := by
  obtain ⟨i, hi, hz, h1, h2⟩ := eltB.inf
  have hr := run_makeSlice (P := Try.prog) (w := w) 55 5 i (.int .u8 0) eltB.und hi hz .i64 .i64 256 256 (by omega) (by omega) (by rw [h1]; decide) (by omega) (by omega)
  have e : madeCells (Value.int IntKind.u8 0).cells ((256 : Int).toNat * i.size) = ar 256 fun _ => 0 := by rw [h1]; kernel_rfl
  rw [e] at hr
  refine wpList_plain rfl fun K hK => ?_
  unfold Oper.wp execOp
  simp only [Sem.run_bind, hx, hy]
  rw [hr]
  simp only [Result.andThen_ok]
  exact hK _ _ h
end
/-- The state behind m rounds of opening. -/
def ox (K f : Nat → Nat) : Nat → Nat → Nat
  | 0 => f
  | m + 1 => AesM.os K f m
theorem ox_bt {K f : Nat → Nat} (hf : Bt f) : ∀ m, Bt (ox K f m)
  | 0 => hf
  | _ + 1 => AesM.os_bt _ _ _
/-- What is stored when n bytes of a round are. -/
def scat (s T : Nat → Nat) (n j : Nat) : Nat := if AesM.goes j < n then AesM.oboxF (T (AesM.goes j)) else s j
theorem scat_zero {s T : Nat → Nat} : scat s T 0 = s := funext fun j => by unfold scat; rw [if_neg (by omega)]
theorem scat_all {s T : Nat → Nat} {n : Nat} (hn : 16 ≤ n) : ar 16 (scat s T n) = ar 16 (AesM.each (AesM.back T) AesM.oboxF) := ar_ext fun j _ => by
  have : AesM.goes j < 16 := Nat.mod_lt _ (by omega)
  unfold scat
  rw [if_pos (by omega)]
  unfold AesM.each AesM.back
  rfl
theorem scat_step {w : World} {b : Nat} {t : TypeId} {s T : Nat → Nat} {c i p n : Nat} (hc : c < 4) (hi : i < 4) (hp : p = (c + i) % 4) (hn : n = 4 * c + i)
    (hb : Blk w b t ((ar 16 (scat s T n)).setIfInBounds (p * 4 + i) (.int .u8 (AesM.oboxF (T (c * 4 + i)) : Nat)))) : Blk w b t (ar 16 (scat s T (n + 1))) := by
  rw [ar_set] at hb
  rw [ar_ext (g := fun j => if j = p * 4 + i then AesM.oboxF (T (c * 4 + i)) else scat s T n j) fun j hj => ?_]
  · exact hb
  · have hg : AesM.goes j = (j + 12 * (j % 4)) % 16 := rfl
    by_cases e : j = p * 4 + i
    · have e2 : AesM.goes j = c * 4 + i := by rw [hg]; omega
      rw [if_pos e]
      unfold scat
      rw [if_pos (by omega), e2]
    · have e2 : AesM.goes j ≠ n := by rw [hg]; omega
      rw [if_neg e]
      unfold scat
      by_cases l : AesM.goes j < n
      · rw [if_pos l, if_pos (by omega)]
      · rw [if_neg l, if_neg (by omega)]
set_option maxHeartbeats 3000000 in
set_option maxRecDepth 100000 in
theorem ropen_any (k f : Nat → Nat) (hk : Bt k) (hf : Bt f) (w : World) :
    Calls Try.prog 10 #[.agg (ar 32 k), .agg (ar 16 f)] w fun e w' => e = .returned (.agg (ar 16 (AesM.open' (AesM.ks k) f))) ∧ Below w.heap.size w w' := by
  have HK := hid hk
  have HF := hid hf
  have HKK := hid (AesM.ks_bt hk)
  clear hk hf
  go_enter Try.func10, Try.ntmps10
  go_upto_region 1 with (with_reducible apply alA tBk)
  generalize hw3 : World.alloc (World.alloc (World.alloc w _) _) _ = w3
  have b0 := hid (show Blk w3 w.heap.size 23 (ar 32 k) by rw [← hw3]; exact ((Blk.new _ _ _).alloc _).alloc _)
  have b1 := hid (show Blk w3 (w.heap.size + 1) 24 (ar 16 f) by rw [← hw3]; exact (Blk.top rfl (by simp)).alloc _)
  have b2 := hid (show Blk w3 (w.heap.size + 2) 24 (ar 16 fun _ => 0) by rw [← hw3]; exact Blk.top rfl (by simp))
  have hb := hid (show Below w.heap.size w w3 by rw [← hw3]; exact (((Below.refl _ _).alloc (Nat.le_refl _) _).alloc (by simp) _).alloc (by simp; omega) _)
  clear hw3
  go_wp2_with fail
  refine (boxes_any w3).mono ?_
  rintro e w4 ⟨gb, ob, cb, rfl, hgb, hR, h4⟩
  have d0 := hid (b0.out.below h4 b0.out.lt)
  have d1 := hid (b1.out.below h4 b1.out.lt)
  have d2 := hid (b2.out.below h4 b2.out.lt)
  have db := hid (hb.out.trans (h4.mono hb.out.size))
  have R4 := hid hR
  clear b0 b1 b2 hb h4 hR
  go_upto_region 2 with fail
  go_wp2_with ((with_reducible apply ldA tKey); rfl; exact d0.out)
  refine (words_any k HK.out gb ob cb w4 hgb R4.out).mono ?_
  rintro e w5 ⟨v, rfl, hs5, h5⟩
  have b1 := hid (d1.out.below h5 d1.out.lt)
  have b2 := hid (d2.out.below h5 d2.out.lt)
  have hb := hid (db.out.trans (h5.mono db.out.size))
  have R5 := hid (range_below R4.out h5 hgb)
  have hg5 : gb < w5.heap.size := Nat.lt_of_lt_of_le hgb h5.size
  have HR := hid (show ∀ j, j < 256 → w5.cell? ⟨gb, ob + j, none⟩ = some (.int .u8 (AesM.boxF j : Nat)) from fun j hj => R5.out j _ (by rw [Array.getElem?_toList, get_ar hj]))
  have S5 := hid hs5
  clear d0 d1 d2 db h5 R4 R5 hs5
  obtain ⟨gq, hgq⟩ : ∃ gq, gq = w5.heap.size := ⟨_, rfl⟩
  go_upto_region 4 with ((with_reducible apply mk256); rfl; rfl)
  rw [← hgq]
  generalize hw6 : World.alloc w5 _ = w6
  have q6 := hid (show Blk w6 gq 5 (ar 256 fun _ => 0) by rw [← hw6, hgq]; exact Blk.new _ _ _)
  have qb6 := hid (show Below w5.heap.size w5 w6 by rw [← hw6]; exact (Below.refl _ _).alloc (Nat.le_refl _) _)
  have hgq5 : w5.heap.size ≤ gq := by omega
  clear hw6 hgq
  go_wp2_with fail
  go_loopw [8] (fun u wr => ∃ a : Nat, a ≤ 256 ∧ u = .int .i64 a ∧ Hid (Blk wr gq 5 (ar 256 (AesM.setTo AesM.boxF (fun a => a) a))) ∧ Hid (Below w5.heap.size w5 wr)) (fun u => fun _ => 256 - (intOf u).toNat)
  case atStart => exact ⟨0, by omega, rfl, q6, qb6⟩
  case round =>
    clear q6 qb6
    obtain ⟨a, ha, rfl, q6, qb6⟩ := hrel
    by_cases hla : a < 256
    · have ta : (a : Int) < 256 := by omega
      have CB := (qb6.out.cell (p := ⟨gb, ob + a, none⟩) hg5).trans (HR.out a hla)
      have hbx := AesM.boxF_lt a
      have tb : ((AesM.boxF a : Nat) : Int) < 256 := by omega
      have e1 : IntKind.u8.wrap (a : Int) = (a : Int) := by rw [IntKind.wrap_u8]; omega
      have c3 := (q6.out.cell (AesM.boxF a)).trans (get_ar hbx)
      have f3 := q6.out.frozen (AesM.boxF a)
      go_wp2_with fail
      go_roundw
      case rel =>
        refine ⟨a + 1, by omega, by go_num, hid ?_, hid (qb6.out.setCell (by show w5.heap.size ≤ gq; omega) _)⟩
        have h := q6.out.setCell_same (AesM.boxF a) (.int .u8 (a : Nat))
        rw [ar_set] at h
        exact h
      case measure => simp [intOf]; omega
    · have ta : decide ((a : Int) < 256) = false := by simp; omega
      have qe := hid (show Blk wr gq 5 (ar 256 AesM.oboxF) by
        have e : a = 256 := by omega
        have h := q6.out
        rw [e, ar_ext (g := AesM.oboxF) fun j hj => AesM.obox_at hj] at h
        exact h)
      clear q6
      have b1' := hid (b1.out.below qb6.out b1.out.lt)
      have b2' := hid (b2.out.below qb6.out b2.out.lt)
      have hb' := hid (hb.out.trans (qb6.out.mono hb.out.size))
      have S6 := hid (S5.out.below qb6.out)
      clear b1 b2 hb S5 qb6 HR hla ha
      go_wp2_with ((with_reducible apply ldA tBk); rfl; exact b1'.out)
      refine (rstate_any f wr).mono ?_
      rintro e w7 ⟨rfl, h7⟩
      have d2 := hid (b2'.out.below h7 b2'.out.lt)
      have db := hid (hb'.out.trans (h7.mono hb'.out.size))
      have S7 := hid (S6.out.below h7)
      have q7 := hid (qe.out.below h7 qe.out.lt)
      have hq7 : gq < w7.heap.size := q7.out.lt
      have HQ := hid (show ∀ j, j < 256 → w7.cell? ⟨gq, j, none⟩ = some (.int .u8 (AesM.oboxF j : Nat)) from fun j hj => (q7.out.cell j).trans (get_ar hj))
      clear b1' b2' hb' S6 h7 qe q7
      have hz : Blk (w7.alloc (.cells (ar 16 fun _ => 0) 61)) w7.heap.size 61 (ar 16 fun _ => 0) := Blk.new _ _ _
      obtain ⟨g9, hge⟩ : ∃ g9, g9 = w7.heap.size := ⟨_, rfl⟩
      go_upto_region 9 with (first | (with_reducible apply alA tSS) | ((with_reducible apply stA tSS); rfl; rfl; exact hz))
      rw [← hge] at hz ⊢
      generalize hw8 : World.setRow _ _ _ = w8
      have y9 := hid (show Blk w8 g9 61 (ar 16 (ox (AesM.ks k) f 0)) by rw [← hw8]; exact hz.setRow_same _)
      have yb := hid (show Below w7.heap.size w7 w8 by rw [← hw8]; exact below_setRow ((Below.refl _ _).alloc (Nat.le_refl _) _) (by omega) _)
      have hg9g : w7.heap.size ≤ g9 := by omega
      clear hw8 hz hge
      go_wp2_with fail
      go_loopw [10] (fun u wr => ∃ r m : Nat, m + r = 14 ∧ u = .int .i64 r ∧ Hid (Blk wr g9 61 (ar 16 (ox (AesM.ks k) f m))) ∧ Hid (Below w7.heap.size w7 wr)) (fun u => fun _ => (intOf u).toNat)
      case atStart => exact ⟨14, 0, rfl, rfl, y9, yb⟩
      case round =>
        clear y9 yb
        obtain ⟨r, m, hm, rfl, y9, yb⟩ := hrel
        have HM := hid hm
        clear hm
        by_cases hlr : 1 ≤ r
        · have tr : (1 : Int) ≤ (r : Int) := by omega
          have SB := hid (ox_bt (K := AesM.ks k) HF.out m)
          obtain ⟨s, hs⟩ : ∃ s, s = ox (AesM.ks k) f m := ⟨_, rfl⟩
          rw [← hs] at y9 SB
          have HS := hid hs
          clear hs
          have hlr15 : r < 15 := by have := HM.out; omega
          go_wp2_with ((with_reducible apply ldA tSS); rfl; exact y9.out)
          refine (radded_any s k SB.out HK.out r hlr15 v (w4.heap.size + 1) _ (S7.out.below yb.out)).mono ?_
          rintro e wA ⟨rfl, hA⟩
          have AB := hid (AesM.add_bt SB.out (AesM.rk_bt HKK.out r))
          obtain ⟨A, hAd⟩ : ∃ A, A = AesM.add s (AesM.rk (AesM.ks k) r) := ⟨_, rfl⟩
          rw [← hAd] at AB ⊢
          have HAD := hid hAd
          clear hAd
          have u9 := hid (y9.out.below hA y9.out.lt)
          have ub := hid (yb.out.trans (hA.mono yb.out.size))
          clear y9 yb hA
          obtain ⟨gt, hgt⟩ : ∃ gt, gt = wA.heap.size := ⟨_, rfl⟩
          have hz : Blk (wA.alloc (.cells (ar 16 fun _ => 0) 61)) wA.heap.size 61 (ar 16 fun _ => 0) := Blk.new _ _ _
          go_upto_region 13 with (first | (with_reducible apply alA tSS) | ((with_reducible apply stA tSS); rfl; rfl; exact hz))
          rw [← hgt] at hz ⊢
          have h9t : g9 < gt := by have := u9.out.lt; omega
          generalize hwB : World.setRow _ _ _ = wB
          have zt := hid (show Blk wB gt 61 (ar 16 A) by rw [← hwB]; exact hz.setRow_same _)
          have z9 := hid (show Blk wB g9 61 (ar 16 s) by rw [← hwB]; exact (u9.out.alloc _).setRow_other (by omega) _)
          have zb := hid (show Below w7.heap.size w7 wB by rw [← hwB]; exact below_setRow (ub.out.alloc ub.out.size _) (by omega) _)
          clear hwB hz u9 ub hgt
          by_cases h14 : r < 14
          · have t14 : (r : Int) < 14 := by omega
            go_wp2_with ((with_reducible apply ldA tSS); rfl; exact zt.out)
            have qt := hid (zt.out.alloc (.cells (ar 4 (ls AesM.lB)) 5))
            have q9 := hid (z9.out.alloc (.cells (ar 4 (ls AesM.lB)) 5))
            have qb := hid (zb.out.alloc zb.out.size (.cells (ar 4 (ls AesM.lB)) 5))
            refine (rmixed_any A (ls AesM.lB) AB.out lB_bt wB.heap.size _ (Blk.top (by rfl) rfl)).mono ?_
            rintro e wC ⟨rfl, hC⟩
            have rt := hid (qt.out.below hC qt.out.lt)
            have r9 := hid (q9.out.below hC q9.out.lt)
            have rb := hid (qb.out.trans (hC.mono qb.out.size))
            clear zt z9 zb qt q9 qb hC
            obtain ⟨T, hT⟩ : ∃ T, T = AesM.mixD A (ls AesM.lB) := ⟨_, rfl⟩
            rw [← hT]
            have TB := hid (show Bt T by rw [hT]; exact fun n => AesM.mxGo_lt _ _ _ _ _)
            have HTE := hid hT
            clear hT
            go_upto_region 15 with ((with_reducible apply stA tSS); rfl; rfl; exact rt.out)
            generalize hwD : World.setRow _ _ _ = wD
            have zt := hid (show Blk wD gt 61 (ar 16 T) by rw [← hwD]; exact rt.out.setRow_same _)
            have z9 := hid (show Blk wD g9 61 (ar 16 s) by rw [← hwD]; exact r9.out.setRow_other (by omega) _)
            have zb := hid (show Below w7.heap.size w7 wD by rw [← hwD]; exact below_setRow rb.out (by omega) _)
            clear hwD rt r9 rb
            have HX := hid (show ar 16 (AesM.each (AesM.back T) AesM.oboxF) = ar 16 (ox (AesM.ks k) f (m + 1)) by
              refine ar_ext fun j hj => ?_
              obtain ⟨m', hm'⟩ : ∃ m', m = m' + 1 := ⟨m - 1, by have := HM.out; omega⟩
              have hs' := HS.out
              rw [hm'] at hs' ⊢
              have hr' : r = 13 - m' := by have := HM.out; omega
              show AesM.oboxF (T (AesM.goes j)) = AesM.oboxF (AesM.mixB (AesM.add (AesM.os (AesM.ks k) f m') (AesM.rk (AesM.ks k) (13 - m'))) (AesM.goes j))
              have hs2 : s = AesM.os (AesM.ks k) f m' := hs'
              rw [← hs2, ← hr', ← HAD.out, HTE.out]
              exact congrArg _ (AesM.mix_lB AB.out _ (Nat.mod_lt _ (by omega))))
            go_wp2_with fail
            go_loopw [12] (fun u wr => ∃ c : Nat, c ≤ 4 ∧ u = .int .i64 c ∧ Hid (Blk wr g9 61 (ar 16 (scat s T (4 * c)))) ∧ Hid (Blk wr gt 61 (ar 16 T)) ∧ Hid (Below w7.heap.size w7 wr)) (fun u => fun _ => 4 - (intOf u).toNat)
            case atStart => exact ⟨0, by omega, rfl, by rw [show 4 * 0 = 0 from rfl, scat_zero]; exact z9, zt, zb⟩
            case round =>
              clear z9 zt zb
              obtain ⟨c, hc, rfl, z9, zt, zb⟩ := hrel
              by_cases hlc : c < 4
              · have tc : (c : Int) < 4 := by omega
                go_wp2_with fail
                go_loopw [13] (fun u wr => ∃ i : Nat, i ≤ 4 ∧ u = .int .i64 i ∧ Hid (Blk wr g9 61 (ar 16 (scat s T (4 * c + i)))) ∧ Hid (Blk wr gt 61 (ar 16 T)) ∧ Hid (Below w7.heap.size w7 wr)) (fun u => fun _ => 4 - (intOf u).toNat)
                case atStart => exact ⟨0, by omega, rfl, z9, zt, zb⟩
                case round =>
                  clear z9 zt zb
                  obtain ⟨i, hi, rfl, z9, zt, zb⟩ := hrel
                  by_cases hli : i < 4
                  · have ti : (i : Int) < 4 := by omega
                    obtain ⟨a, ha⟩ : ∃ a, a = c + i := ⟨_, rfl⟩
                    obtain ⟨p, hp⟩ : ∃ p, p = a % 4 := ⟨_, rfl⟩
                    have tp : (p : Int) < 4 := by omega
                    have e1 := hid (show IntKind.i64.wrap ((c : Int) + (i : Int)) = (a : Int) from wr_nat (by omega) (by omega))
                    have e2 := hid (show (a : Int).tmod 4 = (p : Int) by rw [hp]; rfl)
                    have hq16 : c * 4 + i < 16 := by omega
                    have hp16 : p * 4 + i < 16 := by omega
                    have CT := hid ((zt.out.cell (c * 4 + i)).trans (get_ar hq16))
                    have tb := hid (show ((T (c * 4 + i) : Nat) : Int) < 256 by have := TB.out (c * 4 + i); omega)
                    have CB := hid ((zb.out.cell (p := ⟨gq, T (c * 4 + i), none⟩) hq7).trans (HQ.out _ (TB.out (c * 4 + i))))
                    have HPP := hid (show p = (c + i) % 4 by rw [hp, ha])
                    clear ha hp
                    go_wp2_with fail
                    refine wp_region_tail (C := Drew wr) 15 (by kernel_rfl) (by kernel_rfl) (by kernel_rfl) (Drew.refl _) ?_
                    simp only [List.take_succ_cons, List.take_zero, List.drop_succ_cons, List.drop_zero]
                    apply wpK_val
                    · rfl
                    · intro w' hw'
                      go_simp
                      first | exact rfl | exact ⟨rfl, hw'⟩
                    simp only [Act.put, List.setIfInBounds_toArray, List.set_cons_succ, List.set_cons_zero]
                    apply wpK_val
                    · rfl
                    · intro w' hw'
                      go_simp
                      first | exact rfl | exact ⟨rfl, hw'⟩
                    simp only [Act.put, List.setIfInBounds_toArray, List.set_cons_succ, List.set_cons_zero]
                    apply wpK_val
                    · rfl
                    · intro w' hw'
                      have h1 : _ := e1.out
                      go_simp
                      first | exact rfl | exact ⟨rfl, hw'⟩
                    simp only [Act.put, List.setIfInBounds_toArray, List.set_cons_succ, List.set_cons_zero]
                    apply wpK_val
                    · rfl
                    · intro w' hw'
                      have h1 : _ := e2.out
                      go_simp
                      first | exact rfl | exact ⟨rfl, hw'⟩
                    simp only [Act.put, List.setIfInBounds_toArray, List.set_cons_succ, List.set_cons_zero]
                    apply wpK_val
                    · rfl
                    · intro w' hw'
                      go_simp
                      first | exact rfl | exact ⟨rfl, hw'⟩
                    simp only [Act.put, List.setIfInBounds_toArray, List.set_cons_succ, List.set_cons_zero]
                    apply wpK_val
                    · rfl
                    · intro w' hw'
                      go_simp
                      first | exact rfl | exact ⟨rfl, hw'⟩
                    simp only [Act.put, List.setIfInBounds_toArray, List.set_cons_succ, List.set_cons_zero]
                    apply wpK_val
                    · rfl
                    · intro w' hw'
                      go_simp
                      first | exact rfl | exact ⟨rfl, hw'⟩
                    simp only [Act.put, List.setIfInBounds_toArray, List.set_cons_succ, List.set_cons_zero]
                    apply wpK_val
                    · rfl
                    · intro w' hw'
                      go_simp
                      first | exact rfl | exact ⟨rfl, hw'⟩
                    simp only [Act.put, List.setIfInBounds_toArray, List.set_cons_succ, List.set_cons_zero]
                    apply wpK_val
                    · rfl
                    · intro w' hw'
                      go_simp
                      first | exact rfl | exact ⟨rfl, hw'⟩
                    simp only [Act.put, List.setIfInBounds_toArray, List.set_cons_succ, List.set_cons_zero]
                    apply wpK_val
                    · rfl
                    · intro w' hw'
                      go_simp
                      first | exact rfl | exact ⟨rfl, hw'⟩
                    simp only [Act.put, List.setIfInBounds_toArray, List.set_cons_succ, List.set_cons_zero]
                    apply wpK_val
                    · rfl
                    · intro w' hw'
                      have hcell := hw'.cell CT.out
                      go_simp
                      first | exact rfl | exact ⟨rfl, hw'⟩
                    simp only [Act.put, List.setIfInBounds_toArray, List.set_cons_succ, List.set_cons_zero]
                    apply wpK_val
                    · rfl
                    · intro w' hw'
                      have h1 : _ := tb.out
                      go_simp
                      first | exact rfl | exact ⟨rfl, hw'⟩
                    simp only [Act.put, List.setIfInBounds_toArray, List.set_cons_succ, List.set_cons_zero]
                    apply wpK_val
                    · rfl
                    · intro w' hw'
                      have hcell := hw'.cell CB.out
                      go_simp
                      first | exact rfl | exact ⟨rfl, hw'⟩
                    simp only [Act.put, List.setIfInBounds_toArray, List.set_cons_succ, List.set_cons_zero]
                    apply wpK_val
                    · rfl
                    · intro w' hw'
                      go_simp
                      first | exact rfl | exact ⟨rfl, hw'⟩
                    simp only [Act.put, List.setIfInBounds_toArray, List.set_cons_succ, List.set_cons_zero]
                    apply wpK_val
                    · rfl
                    · intro w' hw'
                      go_simp
                      first | exact rfl | exact ⟨rfl, hw'⟩
                    simp only [Act.put, List.setIfInBounds_toArray, List.set_cons_succ, List.set_cons_zero]
                    refine wpK_nil fun w5 hw5 => ?_
                    have r9 := hid (hw5.blk z9.out)
                    have rt := hid (hw5.blk zt.out)
                    have rb := hid (hw5.below zb.out)
                    have c3 := (r9.out.cell (p * 4 + i)).trans (get_ar hp16)
                    have f3 := r9.out.frozen (p * 4 + i)
                    clear z9 zt zb hw5 CT CB e1 e2 tb
                    go_wp2_with fail
                    go_roundw
                    case rel => exact ⟨i + 1, by omega, by go_num, hid (scat_step hlc hli HPP.out rfl (r9.out.setCell_same (p * 4 + i) _)), hid (rt.out.setCell_other (by show g9 ≠ gt; omega) _), hid (rb.out.setCell (by show w7.heap.size ≤ g9; omega) _)⟩
                    case measure => simp [intOf]; omega
                  · have ti : decide ((i : Int) < 4) = false := by simp; omega
                    obtain rfl : i = 4 := by omega
                    go_wp2_with fail
                    go_roundw
                    case rel => exact ⟨c + 1, by omega, by go_num, hid (by rw [show 4 * (c + 1) = 4 * c + 4 by omega]; exact z9.out), zt, zb⟩
                    case measure => simp [intOf]; omega
              · have tc : decide ((c : Int) < 4) = false := by simp; omega
                have q9 := z9.out
                rw [scat_all (by omega), HX.out] at q9
                have Q9 := hid q9
                clear z9 q9
                have EQ := hid (show (r : Int) - 1 = ((r - 1 : Nat) : Int) by omega)
                go_wp2_with fail
                go_roundw
                case rel => exact ⟨r - 1, m + 1, by have := HM.out; omega, by first | (rw [EQ.out]; done) | (rw [← EQ.out]; go_num) | go_num, Q9, zb⟩
                case measure => simp [intOf]; omega
          · have t14 : decide ((r : Int) < 14) = false := by simp; omega
            go_upto_region 15 with fail
            obtain ⟨T, hT⟩ : ∃ T, T = A := ⟨_, rfl⟩
            rw [← hT] at zt AB
            have TB := hid AB.out
            have HX := hid (show ar 16 (AesM.each (AesM.back T) AesM.oboxF) = ar 16 (ox (AesM.ks k) f (m + 1)) by
              have hm0 : m = 0 := by have := HM.out; omega
              have hr' : r = 14 := by have := HM.out; omega
              have hs' := HS.out
              rw [hm0] at hs' ⊢
              have hs2 : s = f := hs'
              rw [hT, HAD.out, hr', hs2]
              rfl)
            have HTE := hid hT
            clear hT
            go_wp2_with fail
            go_loopw [12] (fun u wr => ∃ c : Nat, c ≤ 4 ∧ u = .int .i64 c ∧ Hid (Blk wr g9 61 (ar 16 (scat s T (4 * c)))) ∧ Hid (Blk wr gt 61 (ar 16 T)) ∧ Hid (Below w7.heap.size w7 wr)) (fun u => fun _ => 4 - (intOf u).toNat)
            case atStart => exact ⟨0, by omega, rfl, by rw [show 4 * 0 = 0 from rfl, scat_zero]; exact z9, zt, zb⟩
            case round =>
              clear z9 zt zb
              obtain ⟨c, hc, rfl, z9, zt, zb⟩ := hrel
              by_cases hlc : c < 4
              · have tc : (c : Int) < 4 := by omega
                go_wp2_with fail
                go_loopw [13] (fun u wr => ∃ i : Nat, i ≤ 4 ∧ u = .int .i64 i ∧ Hid (Blk wr g9 61 (ar 16 (scat s T (4 * c + i)))) ∧ Hid (Blk wr gt 61 (ar 16 T)) ∧ Hid (Below w7.heap.size w7 wr)) (fun u => fun _ => 4 - (intOf u).toNat)
                case atStart => exact ⟨0, by omega, rfl, z9, zt, zb⟩
                case round =>
                  clear z9 zt zb
                  obtain ⟨i, hi, rfl, z9, zt, zb⟩ := hrel
                  by_cases hli : i < 4
                  · have ti : (i : Int) < 4 := by omega
                    obtain ⟨a, ha⟩ : ∃ a, a = c + i := ⟨_, rfl⟩
                    obtain ⟨p, hp⟩ : ∃ p, p = a % 4 := ⟨_, rfl⟩
                    have tp : (p : Int) < 4 := by omega
                    have e1 := hid (show IntKind.i64.wrap ((c : Int) + (i : Int)) = (a : Int) from wr_nat (by omega) (by omega))
                    have e2 := hid (show (a : Int).tmod 4 = (p : Int) by rw [hp]; rfl)
                    have hq16 : c * 4 + i < 16 := by omega
                    have hp16 : p * 4 + i < 16 := by omega
                    have CT := hid ((zt.out.cell (c * 4 + i)).trans (get_ar hq16))
                    have tb := hid (show ((T (c * 4 + i) : Nat) : Int) < 256 by have := TB.out (c * 4 + i); omega)
                    have CB := hid ((zb.out.cell (p := ⟨gq, T (c * 4 + i), none⟩) hq7).trans (HQ.out _ (TB.out (c * 4 + i))))
                    have HPP := hid (show p = (c + i) % 4 by rw [hp, ha])
                    clear ha hp
                    go_wp2_with fail
                    refine wp_region_tail (C := Drew wr) 15 (by kernel_rfl) (by kernel_rfl) (by kernel_rfl) (Drew.refl _) ?_
                    simp only [List.take_succ_cons, List.take_zero, List.drop_succ_cons, List.drop_zero]
                    apply wpK_val
                    · rfl
                    · intro w' hw'
                      go_simp
                      first | exact rfl | exact ⟨rfl, hw'⟩
                    simp only [Act.put, List.setIfInBounds_toArray, List.set_cons_succ, List.set_cons_zero]
                    apply wpK_val
                    · rfl
                    · intro w' hw'
                      go_simp
                      first | exact rfl | exact ⟨rfl, hw'⟩
                    simp only [Act.put, List.setIfInBounds_toArray, List.set_cons_succ, List.set_cons_zero]
                    apply wpK_val
                    · rfl
                    · intro w' hw'
                      have h1 : _ := e1.out
                      go_simp
                      first | exact rfl | exact ⟨rfl, hw'⟩
                    simp only [Act.put, List.setIfInBounds_toArray, List.set_cons_succ, List.set_cons_zero]
                    apply wpK_val
                    · rfl
                    · intro w' hw'
                      have h1 : _ := e2.out
                      go_simp
                      first | exact rfl | exact ⟨rfl, hw'⟩
                    simp only [Act.put, List.setIfInBounds_toArray, List.set_cons_succ, List.set_cons_zero]
                    apply wpK_val
                    · rfl
                    · intro w' hw'
                      go_simp
                      first | exact rfl | exact ⟨rfl, hw'⟩
                    simp only [Act.put, List.setIfInBounds_toArray, List.set_cons_succ, List.set_cons_zero]
                    apply wpK_val
                    · rfl
                    · intro w' hw'
                      go_simp
                      first | exact rfl | exact ⟨rfl, hw'⟩
                    simp only [Act.put, List.setIfInBounds_toArray, List.set_cons_succ, List.set_cons_zero]
                    apply wpK_val
                    · rfl
                    · intro w' hw'
                      go_simp
                      first | exact rfl | exact ⟨rfl, hw'⟩
                    simp only [Act.put, List.setIfInBounds_toArray, List.set_cons_succ, List.set_cons_zero]
                    apply wpK_val
                    · rfl
                    · intro w' hw'
                      go_simp
                      first | exact rfl | exact ⟨rfl, hw'⟩
                    simp only [Act.put, List.setIfInBounds_toArray, List.set_cons_succ, List.set_cons_zero]
                    apply wpK_val
                    · rfl
                    · intro w' hw'
                      go_simp
                      first | exact rfl | exact ⟨rfl, hw'⟩
                    simp only [Act.put, List.setIfInBounds_toArray, List.set_cons_succ, List.set_cons_zero]
                    apply wpK_val
                    · rfl
                    · intro w' hw'
                      go_simp
                      first | exact rfl | exact ⟨rfl, hw'⟩
                    simp only [Act.put, List.setIfInBounds_toArray, List.set_cons_succ, List.set_cons_zero]
                    apply wpK_val
                    · rfl
                    · intro w' hw'
                      have hcell := hw'.cell CT.out
                      go_simp
                      first | exact rfl | exact ⟨rfl, hw'⟩
                    simp only [Act.put, List.setIfInBounds_toArray, List.set_cons_succ, List.set_cons_zero]
                    apply wpK_val
                    · rfl
                    · intro w' hw'
                      have h1 : _ := tb.out
                      go_simp
                      first | exact rfl | exact ⟨rfl, hw'⟩
                    simp only [Act.put, List.setIfInBounds_toArray, List.set_cons_succ, List.set_cons_zero]
                    apply wpK_val
                    · rfl
                    · intro w' hw'
                      have hcell := hw'.cell CB.out
                      go_simp
                      first | exact rfl | exact ⟨rfl, hw'⟩
                    simp only [Act.put, List.setIfInBounds_toArray, List.set_cons_succ, List.set_cons_zero]
                    apply wpK_val
                    · rfl
                    · intro w' hw'
                      go_simp
                      first | exact rfl | exact ⟨rfl, hw'⟩
                    simp only [Act.put, List.setIfInBounds_toArray, List.set_cons_succ, List.set_cons_zero]
                    apply wpK_val
                    · rfl
                    · intro w' hw'
                      go_simp
                      first | exact rfl | exact ⟨rfl, hw'⟩
                    simp only [Act.put, List.setIfInBounds_toArray, List.set_cons_succ, List.set_cons_zero]
                    refine wpK_nil fun w5 hw5 => ?_
                    have r9 := hid (hw5.blk z9.out)
                    have rt := hid (hw5.blk zt.out)
                    have rb := hid (hw5.below zb.out)
                    have c3 := (r9.out.cell (p * 4 + i)).trans (get_ar hp16)
                    have f3 := r9.out.frozen (p * 4 + i)
                    clear z9 zt zb hw5 CT CB e1 e2 tb
                    go_wp2_with fail
                    go_roundw
                    case rel => exact ⟨i + 1, by omega, by go_num, hid (scat_step hlc hli HPP.out rfl (r9.out.setCell_same (p * 4 + i) _)), hid (rt.out.setCell_other (by show g9 ≠ gt; omega) _), hid (rb.out.setCell (by show w7.heap.size ≤ g9; omega) _)⟩
                    case measure => simp [intOf]; omega
                  · have ti : decide ((i : Int) < 4) = false := by simp; omega
                    obtain rfl : i = 4 := by omega
                    go_wp2_with fail
                    go_roundw
                    case rel => exact ⟨c + 1, by omega, by go_num, hid (by rw [show 4 * (c + 1) = 4 * c + 4 by omega]; exact z9.out), zt, zb⟩
                    case measure => simp [intOf]; omega
              · have tc : decide ((c : Int) < 4) = false := by simp; omega
                have q9 := z9.out
                rw [scat_all (by omega), HX.out] at q9
                have Q9 := hid q9
                clear z9 q9
                have EQ := hid (show (r : Int) - 1 = ((r - 1 : Nat) : Int) by omega)
                go_wp2_with fail
                go_roundw
                case rel => exact ⟨r - 1, m + 1, by have := HM.out; omega, by first | (rw [EQ.out]; done) | (rw [← EQ.out]; go_num) | go_num, Q9, zb⟩
                case measure => simp [intOf]; omega
        · have tr : decide ((1 : Int) ≤ (r : Int)) = false := by simp; omega
          have y14 := hid (show Blk wr g9 61 (ar 16 (AesM.os (AesM.ks k) f 13)) by
            have h := y9.out
            rw [show m = 14 by have := HM.out; omega] at h
            exact h)
          have dR := hid (d2.out.below yb.out d2.out.lt)
          have rb := hid (db.out.trans (yb.out.mono db.out.size))
          have SR := hid (S7.out.below yb.out)
          clear y9 yb S7 HM
          go_wp2_with ((with_reducible apply ldA tSS); rfl; exact y14.out)
          refine (radded_any (AesM.os (AesM.ks k) f 13) k (AesM.os_bt _ _ _) HK.out 0 (by omega) v (w4.heap.size + 1) _ SR.out).mono ?_
          rintro e wE ⟨rfl, hE⟩
          have eR := hid (dR.out.below hE dR.out.lt)
          have eb := hid (rb.out.trans (hE.mono rb.out.size))
          clear dR rb hE y14 SR
          go_wp2_with fail
          refine (rblock_any (AesM.open' (AesM.ks k) f) wE).mono ?_
          rintro e wF ⟨rfl, hF⟩
          have qR := hid (eR.out.below hF eR.out.lt)
          have qb := hid (eb.out.trans (hF.mono eb.out.size))
          clear eR eb hF
          go_wp2_with ((with_reducible apply stA tBk); rfl; rfl; exact qR.out)
          apply ret_ar tBk Try.results10
          · rfl
          · rfl
          · exact qR.out.setRow_same _
          exact ⟨rfl, below_setRow qb.out (by omega) _⟩
open AesM (Q16)
attribute [local go_sem] GivesE
set_option maxHeartbeats 800000 in
set_option maxRecDepth 100000 in
theorem opens_law (k f : Nat → Nat) (hk : Bt k) (hf : Bt f) (W : World) :
    Calls Try.prog 4 #[.agg (ar 32 k), .agg (ar 16 f)] W fun e w' => e = .returned (.bool true) ∧ Below W.heap.size W w' := by
  have HK := hid hk
  have HF := hid hf
  have HKK := hid (AesM.ks_bt hk)
  clear hk hf
  go_enter Try.func4, Try.ntmps4
  go_upto_region 1 with fail
  generalize hw1 : World.alloc (World.alloc W _) _ = w1
  have b0 := hid (show Blk w1 W.heap.size 23 (ar 32 k) by rw [← hw1]; exact (Blk.new _ _ _).alloc _)
  have b1 := hid (show Blk w1 (W.heap.size + 1) 24 (ar 16 f) by rw [← hw1]; exact Blk.top rfl (by simp))
  have hb := hid (show Below W.heap.size W w1 by rw [← hw1]; exact ((Below.refl _ _).alloc (Nat.le_refl _) _).alloc (by simp) _)
  clear hw1
  go_wp2_with ((with_reducible apply ldA tKey); rfl; exact b0.out)
  refine (new_any k HK.out w1).mono ?_
  rintro e w2 ⟨c, rfl, hc1, hc2, h2⟩
  have d0 := hid (b0.out.below h2 b0.out.lt)
  have d1 := hid (b1.out.below h2 b1.out.lt)
  have n0 : W.heap.size ∉ [c] := by have := b1.out.lt; simp; omega
  have n1 : W.heap.size + 1 ∉ [c] := by have := b1.out.lt; simp; omega
  have hcl : Cl W w2 [c] (AesM.ks k) w2 := Cl.start (fun g hg => by rw [List.mem_singleton] at hg; subst hg; exact ⟨⟨_, hc2⟩, Nat.le_trans hb.out.size hc1⟩) (hb.out.trans (h2.mono hb.out.size))
  have HCL := hid hcl
  have mc : c ∈ [c] := List.mem_singleton.2 rfl
  clear b0 b1 hb hc1 hc2 h2 hcl
  go_wp2_with fail
  refine wp_region_tail (C := Cl W w2 [c] (AesM.ks k)) 11 (by kernel_rfl) (by kernel_rfl) (by kernel_rfl) HCL.out.drew ?_
  simp only [List.take_succ_cons, List.take_zero, List.drop_succ_cons, List.drop_zero]
  apply wpK_val
  · rfl
  · intro w' hw'
    go_simp
    first | exact rfl | exact ⟨rfl, hw'⟩
  simp only [Act.put, List.setIfInBounds_toArray, List.set_cons_succ, List.set_cons_zero]
  apply kldA tBk
  · rfl
  · rfl
  · exact fun w' hw' => (hw'.blk d1.out n1).head
  simp only [Act.put, List.setIfInBounds_toArray, List.set_cons_succ, List.set_cons_zero]
  apply wpK_val
  · rfl
  · intro w' hw'
    go_simp
    exact hw'.open' mc HKK.out HF.out
  simp only [Act.put, List.setIfInBounds_toArray, List.set_cons_succ, List.set_cons_zero]
  apply kldA tKey
  · rfl
  · rfl
  · exact fun w' hw' => (hw'.blk d0.out n0).head
  simp only [Act.put, List.setIfInBounds_toArray, List.set_cons_succ, List.set_cons_zero]
  apply kldA tBk
  · rfl
  · rfl
  · exact fun w' hw' => (hw'.blk d1.out n1).head
  simp only [Act.put, List.setIfInBounds_toArray, List.set_cons_succ, List.set_cons_zero]
  apply wpK_val
  · rfl
  · intro w' hw'
    go_simp
    exact (ropen_any k f HK.out HF.out w').mono fun e _ h => ⟨h.1, hw'.below h.2⟩
  simp only [Act.put, List.setIfInBounds_toArray, List.set_cons_succ, List.set_cons_zero]
  apply keqA true
  · rfl
  · rfl
  · rfl
  · exact eqA_yes fun _ _ => rfl
  simp only [Act.put, List.setIfInBounds_toArray, List.set_cons_succ, List.set_cons_zero]
  apply wpK_val
  · rfl
  · intro w' hw'
    go_simp
    first | exact rfl | exact ⟨rfl, hw'⟩
  simp only [Act.put, List.setIfInBounds_toArray, List.set_cons_succ, List.set_cons_zero]
  apply wpK_val
  · rfl
  · intro w' hw'
    go_simp
    exact hw'.awake
  simp only [Act.put, List.setIfInBounds_toArray, List.set_cons_succ, List.set_cons_zero]
  apply wpK_val
  · rfl
  · intro w' hw'
    go_simp
    first | exact rfl | exact ⟨rfl, hw'⟩
  simp only [Act.put, List.setIfInBounds_toArray, List.set_cons_succ, List.set_cons_zero]
  apply wpK_val
  · rfl
  · intro w' hw'
    go_simp
    first | exact rfl | exact ⟨rfl, hw'⟩
  simp only [Act.put, List.setIfInBounds_toArray, List.set_cons_succ, List.set_cons_zero]
  refine wpK_nil fun w5 hw5 => ?_
  have rb := hw5.2.2.1
  clear d0 d1 HCL hw5
  go_wp2_with fail
  go_ret
  exact ⟨rfl, rb⟩
end AesP
end Go.Proofs.Ytodjfliakhhjaaa
