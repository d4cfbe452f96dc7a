/-
  The contract of casemateref02.Unlike.
-/
import Derived.Test.YteoccdcebgcdmaaOwnZ
import Derived.Test.YteoccdcebgcdmaaUniq
import Derived.Test.YteoccdcebgcdmaaRegNew
import Derived.Deep.Cut
namespace Go.Proofs.Yteoccdcebgcdmaa
open Go.ChangeShapes Go.WideShapes Go.ChangeAt Go.RowKit
attribute [local go_sem] Gives
set_option maxRecDepth 100000 in
set_option maxHeartbeats 1500000 in
theorem runlike_any (A : Option Addr) (n c : Nat) (l : List Int) (hl : l.length = n) (hn : n ≤ 1000) (w : World) (hs : IntL w w.heap.size A l) :
    Calls Try.prog 35 #[.slice A n c] w fun e w' => ∃ v, e = .returned v ∧ OwnZ w' w.heap.size v (uniq l) ∧ Below w.heap.size w w' := by
  have HS := hid hs
  have HL := hid hl
  clear hs hl
  go_enter Try.func35, Try.ntmps35
  go_wp2_with fail
  go_loopw [3, 4] (fun o i wr => ∃ (j : Nat) (v : Value), j ≤ n ∧ i = .int .i64 j ∧ o = v ∧ Hid (OwnZ wr w.heap.size v (uniq (l.take j))) ∧ Hid (Below w.heap.size w wr)) (fun _ i _ => n - (intOf i).toNat)
  case atStart => exact ⟨0, _, by omega, rfl, rfl, hid OwnZ.nil, hid (Below.refl _ _)⟩
  case round =>
    obtain ⟨w1, hw1⟩ : ∃ w1, w1 = wr := ⟨_, rfl⟩
    subst hw1
    obtain ⟨j, v, hj, rfl, rfl, hO, hb⟩ := hrel
    by_cases hlt : j < n
    · have tj : (j : Int) < (n : Int) := by omega
      obtain ⟨b, o, rfl, hB, hr⟩ := (HS.out.below hb.out (Nat.le_refl _)) (by rw [HL.out]; omega)
      have hr := hid (show w1.cell? ⟨b, o + j, none⟩ = some (.int .i64 (l.getD j 0)) from hr j (by rw [HL.out]; omega))
      have HX := hid (show uniq (l.take (j + 1)) = insU (l.getD j 0) (uniq (l.take j)) by
        have hjl : j < l.length := by rw [HL.out]; exact hlt
        rw [← uniq_snoc, List.take_add_one, List.getElem?_eq_getElem hjl, List.getD_eq_getElem?_getD, List.getElem?_eq_getElem hjl]; rfl)
      have HN := hid (show (uniq (l.take j)).length ≤ 1000 from Nat.le_trans (uniq_length _) (by rw [List.length_take]; omega))
      revert HX HN hO hr
      generalize uniq (l.take j) = out
      generalize l.getD j 0 = x
      intro hO hr HX HN
      have HB := hid (show b < w1.heap.size from Nat.lt_of_lt_of_le hB hb.out.size)
      have hb0 : 0 ≤ (j : Int) := by omega
      rcases hO.out.form with ⟨rfl, rfl⟩ | ⟨g, cap, rfl, _, hg, hc1, hc2, hO2⟩
      · have HU := hid (show insU x [] = [x] from rfl)
        go_wp2_with fail
        go_loopw [5] (fun k wk => k = .int .i64 0 ∧ Hid (Below w1.heap.size w1 wk)) (fun _ _ => 0)
        case atStart => exact ⟨rfl, hid (Below.refl _ _)⟩
        case round =>
          obtain ⟨rfl, hbk⟩ := hrel
          go_wp2_with fail
          refine wp_region_tail (C := fun w' => Below w1.heap.size w1 w') 15 (by kernel_rfl) (by kernel_rfl) (by kernel_rfl) (hbk.out).drew ?_
          simp only [List.take_succ_cons, List.take_zero, List.drop_succ_cons, List.drop_zero]
          apply wpK_val
          · rfl
          · intro w' hw'
            go_simp
            first | exact rfl | exact ⟨rfl, hw'⟩
          simp only [Act.put, List.setIfInBounds_toArray, List.set_cons_succ, List.set_cons_zero]
          apply wpK_val
          · rfl
          · intro w' hw'
            go_simp
            first | exact rfl | exact ⟨rfl, hw'⟩
          simp only [Act.put, List.setIfInBounds_toArray, List.set_cons_succ, List.set_cons_zero]
          apply wpK_val
          · rfl
          · intro w' hw'
            go_simp
            first | exact rfl | exact ⟨rfl, hw'⟩
          simp only [Act.put, List.setIfInBounds_toArray, List.set_cons_succ, List.set_cons_zero]
          apply wpK_val
          · rfl
          · intro w' hw'
            go_simp
            first | exact rfl | exact ⟨rfl, hw'⟩
          simp only [Act.put, List.setIfInBounds_toArray, List.set_cons_succ, List.set_cons_zero]
          apply wpK_val
          · rfl
          · intro w' hw'
            go_simp
            first | exact rfl | exact ⟨rfl, hw'⟩
          simp only [Act.put, List.setIfInBounds_toArray, List.set_cons_succ, List.set_cons_zero]
          apply wpK_not
          · rfl
          simp only [Act.put, List.setIfInBounds_toArray, List.set_cons_succ, List.set_cons_zero]
          apply wpK_not
          · rfl
          simp only [Act.put, List.setIfInBounds_toArray, List.set_cons_succ, List.set_cons_zero]
          apply wpK_not
          · rfl
          simp only [Act.put, List.setIfInBounds_toArray, List.set_cons_succ, List.set_cons_zero]
          apply wpK_not
          · rfl
          simp only [Act.put, List.setIfInBounds_toArray, List.set_cons_succ, List.set_cons_zero]
          apply wpK_not
          · rfl
          simp only [Act.put, List.setIfInBounds_toArray, List.set_cons_succ, List.set_cons_zero]
          apply wpK_not
          · rfl
          simp only [Act.put, List.setIfInBounds_toArray, List.set_cons_succ, List.set_cons_zero]
          apply wpK_not
          · rfl
          simp only [Act.put, List.setIfInBounds_toArray, List.set_cons_succ, List.set_cons_zero]
          apply wpK_not
          · rfl
          simp only [Act.put, List.setIfInBounds_toArray, List.set_cons_succ, List.set_cons_zero]
          apply wpK_not
          · rfl
          simp only [Act.put, List.setIfInBounds_toArray, List.set_cons_succ, List.set_cons_zero]
          apply wpK_val
          · rfl
          · intro w' hw'
            go_simp
            first | exact rfl | exact ⟨rfl, hw'⟩
          simp only [Act.put, List.setIfInBounds_toArray, List.set_cons_succ, List.set_cons_zero]
          refine wpK_nil fun w3 hw3 => ?_
          go_wp2_with fail
          refine wp_region_tail (C := fun w' => Below w1.heap.size w1 w') 15 (by kernel_rfl) (by kernel_rfl) (by kernel_rfl) (hw3).drew ?_
          simp only [List.take_succ_cons, List.take_zero, List.drop_succ_cons, List.drop_zero]
          apply wpK_val
          · rfl
          · intro w' hw'
            go_simp
            first | exact rfl | exact ⟨rfl, hw'⟩
          simp only [Act.put, List.setIfInBounds_toArray, List.set_cons_succ, List.set_cons_zero]
          apply wpK_val
          · rfl
          · intro w' hw'
            go_simp
            first | exact rfl | exact ⟨rfl, hw'⟩
          simp only [Act.put, List.setIfInBounds_toArray, List.set_cons_succ, List.set_cons_zero]
          apply wpK_val
          · rfl
          · intro w' hw'
            go_simp
            first | exact rfl | exact ⟨rfl, hw'⟩
          simp only [Act.put, List.setIfInBounds_toArray, List.set_cons_succ, List.set_cons_zero]
          apply wpK_val
          · rfl
          · intro w' hw'
            go_simp
            first | exact rfl | exact ⟨rfl, hw'⟩
          simp only [Act.put, List.setIfInBounds_toArray, List.set_cons_succ, List.set_cons_zero]
          apply wpK_val
          · rfl
          · intro w' hw'
            go_simp
            first | exact rfl | exact ⟨rfl, hw'⟩
          simp only [Act.put, List.setIfInBounds_toArray, List.set_cons_succ, List.set_cons_zero]
          apply wpK_not
          · rfl
          simp only [Act.put, List.setIfInBounds_toArray, List.set_cons_succ, List.set_cons_zero]
          apply wpK_not
          · rfl
          simp only [Act.put, List.setIfInBounds_toArray, List.set_cons_succ, List.set_cons_zero]
          apply wpK_not
          · rfl
          simp only [Act.put, List.setIfInBounds_toArray, List.set_cons_succ, List.set_cons_zero]
          apply wpK_not
          · rfl
          simp only [Act.put, List.setIfInBounds_toArray, List.set_cons_succ, List.set_cons_zero]
          apply wpK_not
          · rfl
          simp only [Act.put, List.setIfInBounds_toArray, List.set_cons_succ, List.set_cons_zero]
          apply wpK_not
          · rfl
          simp only [Act.put, List.setIfInBounds_toArray, List.set_cons_succ, List.set_cons_zero]
          apply wpK_not
          · rfl
          simp only [Act.put, List.setIfInBounds_toArray, List.set_cons_succ, List.set_cons_zero]
          apply wpK_not
          · rfl
          simp only [Act.put, List.setIfInBounds_toArray, List.set_cons_succ, List.set_cons_zero]
          apply wpK_not
          · rfl
          simp only [Act.put, List.setIfInBounds_toArray, List.set_cons_succ, List.set_cons_zero]
          apply wpK_val
          · rfl
          · intro w' hw'
            go_simp
            first | exact rfl | exact ⟨rfl, hw'⟩
          simp only [Act.put, List.setIfInBounds_toArray, List.set_cons_succ, List.set_cons_zero]
          refine wpK_nil fun w4 hw4 => ?_
          have w4r := Below.refl w4.heap.size w4
          have B5 := hid w4r
          clear w4r
          have O5 := hid (OwnZ.nil (w := w4) (B := w4.heap.size))
          have c5 := (hw4.cell (p := ⟨b, o + j, none⟩) HB.out).trans hr.out
          have A5 := hid (OwnZ.alloc O5.out (.cells #[.int .i64 x] 3))
          have I5 := hid (ints_one (w := w4) (t := 3) (x := x) (B := w4.heap.size + 1) (Nat.lt_succ_self _))
          have Z5 := hid (show w4.heap.size ≤ (w4.alloc (.cells #[.int .i64 x] 3)).heap.size by rw [World.size_alloc]; have := B5.out.size; omega)
          have L5 := hid (show ([] : List Int).length + 1 ≤ 1000000 by decide)
          skip
          go_upto_region 12 with ((with_reducible apply wappz (l := []) (kk := [x])); rfl; rfl; exact (fun h => by cases h); exact A5.out; exact I5.out; rfl; exact L5.out; exact Z5.out; intro v2 w6 o6 g6)
          have B6 := hid (below_grownZ (B5.out.alloc B5.out.size (.cells #[.int .i64 x] 3)) g6 A5.out (Nat.le_refl _) (Nat.le_refl _))
          have O6 := hid o6
          clear o6 g6 c5
          have Z6 := hid (B6.out.size)
          go_wp2_with ((with_reducible apply wappz (l := [] ++ [x]) (kk := [])); rfl; rfl; exact (fun _ => ⟨rfl, rfl⟩); exact O6.out; exact (IntL.empt (w := w6) (B := w6.heap.size) rfl); rfl; (simp); exact Z6.out; intro v3 w7 o7 g7)
          have B7 := hid (below_grownZ B6.out g7 O6.out (Nat.le_refl _) (Nat.le_refl _))
          have O7 := hid o7
          clear o7 g7
          have HZ := hid (show w.heap.size ≤ w4.heap.size from Nat.le_trans hb.out.size hw4.size)
          exact ⟨⟨j + 1, v3, by omega, by go_num, rfl, hid (by rw [HX.out, HU.out]; exact (by simpa using O7.out.lower HZ.out)), hid (hb.out.trans ((hw4.trans (B7.out.mono hw4.size)).mono hb.out.size))⟩, by simp [intOf]; omega⟩
      · have HO2 := hid hO2
        generalize hm : out.length = m at *
        have HM := hid hm
        clear hm hO2
        have HN := HN.out
        go_wp2_with fail
        go_loopw [5] (fun k wk => ∃ k' : Nat, k' ≤ lead x out ∧ k = .int .i64 k' ∧ Hid (Below w1.heap.size w1 wk)) (fun k _ => lead x out - (intOf k).toNat)
        case atStart => exact ⟨0, by omega, rfl, hid (Below.refl _ _)⟩
        case round =>
          obtain ⟨k', hk', rfl, hbk⟩ := hrel
          have HLE := lead_le x out
          rw [HM.out] at HLE
          by_cases hkm : k' < m
          · have tk : (k' : Int) < (m : Int) := by omega
            have C2 := hid (show w1.cell? ⟨g, k', none⟩ = some (.int .i64 (out.getD k' 0)) by
              obtain ⟨b2, o2, e2, _, hr2⟩ := HO2.out (by rw [HM.out]; omega)
              have := hr2 k' (by rw [HM.out]; exact hkm)
              simp only [Option.some.injEq, Addr.mk.injEq, and_true] at e2
              obtain ⟨rfl, rfl⟩ := e2
              rwa [Nat.zero_add] at this)
            by_cases hlow : k' < lead x out
            · have t1 : out.getD k' 0 < x := lead_low x out k' hlow
              revert C2 t1
              generalize out.getD k' 0 = y
              intro C2 t1
              go_wp2_with fail
              refine wp_region_tail (C := fun w' => Below w1.heap.size w1 w') 15 (by kernel_rfl) (by kernel_rfl) (by kernel_rfl) (hbk.out).drew ?_
              simp only [List.take_succ_cons, List.take_zero, List.drop_succ_cons, List.drop_zero]
              apply wpK_val
              · rfl
              · intro w' hw'
                go_simp
                first | exact rfl | exact ⟨rfl, hw'⟩
              simp only [Act.put, List.setIfInBounds_toArray, List.set_cons_succ, List.set_cons_zero]
              apply wpK_val
              · rfl
              · intro w' hw'
                go_simp
                first | exact rfl | exact ⟨rfl, hw'⟩
              simp only [Act.put, List.setIfInBounds_toArray, List.set_cons_succ, List.set_cons_zero]
              apply wpK_val
              · rfl
              · intro w' hw'
                go_simp
                first | exact rfl | exact ⟨rfl, hw'⟩
              simp only [Act.put, List.setIfInBounds_toArray, List.set_cons_succ, List.set_cons_zero]
              apply wpK_val
              · rfl
              · intro w' hw'
                go_simp
                first | exact rfl | exact ⟨rfl, hw'⟩
              simp only [Act.put, List.setIfInBounds_toArray, List.set_cons_succ, List.set_cons_zero]
              apply wpK_val
              · rfl
              · intro w' hw'
                go_simp
                first | exact rfl | exact ⟨rfl, hw'⟩
              simp only [Act.put, List.setIfInBounds_toArray, List.set_cons_succ, List.set_cons_zero]
              apply wpK_val
              · rfl
              · intro w' hw'
                go_simp
                first | exact rfl | exact ⟨rfl, hw'⟩
              simp only [Act.put, List.setIfInBounds_toArray, List.set_cons_succ, List.set_cons_zero]
              apply wpK_val
              · rfl
              · intro w' hw'
                go_simp
                first | exact rfl | exact ⟨rfl, hw'⟩
              simp only [Act.put, List.setIfInBounds_toArray, List.set_cons_succ, List.set_cons_zero]
              apply wpK_val
              · rfl
              · intro w' hw'
                go_simp
                first | exact rfl | exact ⟨rfl, hw'⟩
              simp only [Act.put, List.setIfInBounds_toArray, List.set_cons_succ, List.set_cons_zero]
              apply wpK_val
              · rfl
              · intro w' hw'
                have hcell := (hw'.cell (p := ⟨g, k', none⟩) hg).trans C2.out
                go_simp
                first | exact rfl | exact ⟨rfl, hw'⟩
              simp only [Act.put, List.setIfInBounds_toArray, List.set_cons_succ, List.set_cons_zero]
              apply wpK_val
              · rfl
              · intro w' hw'
                go_simp
                first | exact rfl | exact ⟨rfl, hw'⟩
              simp only [Act.put, List.setIfInBounds_toArray, List.set_cons_succ, List.set_cons_zero]
              apply wpK_val
              · rfl
              · intro w' hw'
                go_simp
                first | exact rfl | exact ⟨rfl, hw'⟩
              simp only [Act.put, List.setIfInBounds_toArray, List.set_cons_succ, List.set_cons_zero]
              apply wpK_val
              · rfl
              · intro w' hw'
                go_simp
                first | exact rfl | exact ⟨rfl, hw'⟩
              simp only [Act.put, List.setIfInBounds_toArray, List.set_cons_succ, List.set_cons_zero]
              apply wpK_val
              · rfl
              · intro w' hw'
                have hcell := (hw'.cell (p := ⟨b, o + j, none⟩) HB.out).trans hr.out
                go_simp
                first | exact rfl | exact ⟨rfl, hw'⟩
              simp only [Act.put, List.setIfInBounds_toArray, List.set_cons_succ, List.set_cons_zero]
              apply wpK_val
              · rfl
              · intro w' hw'
                go_simp
                first | exact rfl | exact ⟨rfl, hw'⟩
              simp only [Act.put, List.setIfInBounds_toArray, List.set_cons_succ, List.set_cons_zero]
              apply wpK_val
              · rfl
              · intro w' hw'
                go_simp
                first | exact rfl | exact ⟨rfl, hw'⟩
              simp only [Act.put, List.setIfInBounds_toArray, List.set_cons_succ, List.set_cons_zero]
              refine wpK_nil fun w3 hw3 => ?_
              go_wp2_with fail
              exact ⟨⟨k' + 1, by omega, by go_num, hid hw3⟩, by simp [intOf]; omega⟩
            · obtain rfl : k' = lead x out := by omega
              have t1 : ¬ out.getD (lead x out) 0 < x := by have := lead_at x out (by rw [HM.out]; exact hkm); omega
              have T2 := hid (insU_there x out (by rw [HM.out]; exact hkm))
              have T3 := hid (insU_new x out)
              revert C2 t1 T2 T3
              generalize hy : out.getD (lead x out) 0 = y
              generalize hq : lead x out = q at *
              intro C2 t1 T2 T3
              have HQ := hid hq
              clear hy hq
              by_cases hyx : y = x
              · have te : (y == x) = true := by rw [hyx]; simp
                have HYX := hid hyx
                clear hyx
                go_wp2_with fail
                refine wp_region_tail (C := fun w' => Below w1.heap.size w1 w') 15 (by kernel_rfl) (by kernel_rfl) (by kernel_rfl) (hbk.out).drew ?_
                simp only [List.take_succ_cons, List.take_zero, List.drop_succ_cons, List.drop_zero]
                apply wpK_val
                · rfl
                · intro w' hw'
                  go_simp
                  first | exact rfl | exact ⟨rfl, hw'⟩
                simp only [Act.put, List.setIfInBounds_toArray, List.set_cons_succ, List.set_cons_zero]
                apply wpK_val
                · rfl
                · intro w' hw'
                  go_simp
                  first | exact rfl | exact ⟨rfl, hw'⟩
                simp only [Act.put, List.setIfInBounds_toArray, List.set_cons_succ, List.set_cons_zero]
                apply wpK_val
                · rfl
                · intro w' hw'
                  go_simp
                  first | exact rfl | exact ⟨rfl, hw'⟩
                simp only [Act.put, List.setIfInBounds_toArray, List.set_cons_succ, List.set_cons_zero]
                apply wpK_val
                · rfl
                · intro w' hw'
                  go_simp
                  first | exact rfl | exact ⟨rfl, hw'⟩
                simp only [Act.put, List.setIfInBounds_toArray, List.set_cons_succ, List.set_cons_zero]
                apply wpK_val
                · rfl
                · intro w' hw'
                  go_simp
                  first | exact rfl | exact ⟨rfl, hw'⟩
                simp only [Act.put, List.setIfInBounds_toArray, List.set_cons_succ, List.set_cons_zero]
                apply wpK_val
                · rfl
                · intro w' hw'
                  go_simp
                  first | exact rfl | exact ⟨rfl, hw'⟩
                simp only [Act.put, List.setIfInBounds_toArray, List.set_cons_succ, List.set_cons_zero]
                apply wpK_val
                · rfl
                · intro w' hw'
                  go_simp
                  first | exact rfl | exact ⟨rfl, hw'⟩
                simp only [Act.put, List.setIfInBounds_toArray, List.set_cons_succ, List.set_cons_zero]
                apply wpK_val
                · rfl
                · intro w' hw'
                  go_simp
                  first | exact rfl | exact ⟨rfl, hw'⟩
                simp only [Act.put, List.setIfInBounds_toArray, List.set_cons_succ, List.set_cons_zero]
                apply wpK_val
                · rfl
                · intro w' hw'
                  have hcell := (hw'.cell (p := ⟨g, q, none⟩) hg).trans C2.out
                  go_simp
                  first | exact rfl | exact ⟨rfl, hw'⟩
                simp only [Act.put, List.setIfInBounds_toArray, List.set_cons_succ, List.set_cons_zero]
                apply wpK_val
                · rfl
                · intro w' hw'
                  go_simp
                  first | exact rfl | exact ⟨rfl, hw'⟩
                simp only [Act.put, List.setIfInBounds_toArray, List.set_cons_succ, List.set_cons_zero]
                apply wpK_val
                · rfl
                · intro w' hw'
                  go_simp
                  first | exact rfl | exact ⟨rfl, hw'⟩
                simp only [Act.put, List.setIfInBounds_toArray, List.set_cons_succ, List.set_cons_zero]
                apply wpK_val
                · rfl
                · intro w' hw'
                  go_simp
                  first | exact rfl | exact ⟨rfl, hw'⟩
                simp only [Act.put, List.setIfInBounds_toArray, List.set_cons_succ, List.set_cons_zero]
                apply wpK_val
                · rfl
                · intro w' hw'
                  have hcell := (hw'.cell (p := ⟨b, o + j, none⟩) HB.out).trans hr.out
                  go_simp
                  first | exact rfl | exact ⟨rfl, hw'⟩
                simp only [Act.put, List.setIfInBounds_toArray, List.set_cons_succ, List.set_cons_zero]
                apply wpK_val
                · rfl
                · intro w' hw'
                  go_simp
                  first | exact rfl | exact ⟨rfl, hw'⟩
                simp only [Act.put, List.setIfInBounds_toArray, List.set_cons_succ, List.set_cons_zero]
                apply wpK_val
                · rfl
                · intro w' hw'
                  go_simp
                  first | exact rfl | exact ⟨rfl, hw'⟩
                simp only [Act.put, List.setIfInBounds_toArray, List.set_cons_succ, List.set_cons_zero]
                refine wpK_nil fun w3 hw3 => ?_
                go_wp2_with fail
                refine wp_region_tail (C := fun w' => Below w1.heap.size w1 w') 15 (by kernel_rfl) (by kernel_rfl) (by kernel_rfl) (hw3).drew ?_
                simp only [List.take_succ_cons, List.take_zero, List.drop_succ_cons, List.drop_zero]
                apply wpK_val
                · rfl
                · intro w' hw'
                  go_simp
                  first | exact rfl | exact ⟨rfl, hw'⟩
                simp only [Act.put, List.setIfInBounds_toArray, List.set_cons_succ, List.set_cons_zero]
                apply wpK_val
                · rfl
                · intro w' hw'
                  go_simp
                  first | exact rfl | exact ⟨rfl, hw'⟩
                simp only [Act.put, List.setIfInBounds_toArray, List.set_cons_succ, List.set_cons_zero]
                apply wpK_val
                · rfl
                · intro w' hw'
                  go_simp
                  first | exact rfl | exact ⟨rfl, hw'⟩
                simp only [Act.put, List.setIfInBounds_toArray, List.set_cons_succ, List.set_cons_zero]
                apply wpK_val
                · rfl
                · intro w' hw'
                  go_simp
                  first | exact rfl | exact ⟨rfl, hw'⟩
                simp only [Act.put, List.setIfInBounds_toArray, List.set_cons_succ, List.set_cons_zero]
                apply wpK_val
                · rfl
                · intro w' hw'
                  go_simp
                  first | exact rfl | exact ⟨rfl, hw'⟩
                simp only [Act.put, List.setIfInBounds_toArray, List.set_cons_succ, List.set_cons_zero]
                apply wpK_val
                · rfl
                · intro w' hw'
                  go_simp
                  first | exact rfl | exact ⟨rfl, hw'⟩
                simp only [Act.put, List.setIfInBounds_toArray, List.set_cons_succ, List.set_cons_zero]
                apply wpK_val
                · rfl
                · intro w' hw'
                  go_simp
                  first | exact rfl | exact ⟨rfl, hw'⟩
                simp only [Act.put, List.setIfInBounds_toArray, List.set_cons_succ, List.set_cons_zero]
                apply wpK_val
                · rfl
                · intro w' hw'
                  go_simp
                  first | exact rfl | exact ⟨rfl, hw'⟩
                simp only [Act.put, List.setIfInBounds_toArray, List.set_cons_succ, List.set_cons_zero]
                apply wpK_val
                · rfl
                · intro w' hw'
                  have hcell := (hw'.cell (p := ⟨g, q, none⟩) hg).trans C2.out
                  go_simp
                  first | exact rfl | exact ⟨rfl, hw'⟩
                simp only [Act.put, List.setIfInBounds_toArray, List.set_cons_succ, List.set_cons_zero]
                apply wpK_val
                · rfl
                · intro w' hw'
                  go_simp
                  first | exact rfl | exact ⟨rfl, hw'⟩
                simp only [Act.put, List.setIfInBounds_toArray, List.set_cons_succ, List.set_cons_zero]
                apply wpK_val
                · rfl
                · intro w' hw'
                  go_simp
                  first | exact rfl | exact ⟨rfl, hw'⟩
                simp only [Act.put, List.setIfInBounds_toArray, List.set_cons_succ, List.set_cons_zero]
                apply wpK_val
                · rfl
                · intro w' hw'
                  go_simp
                  first | exact rfl | exact ⟨rfl, hw'⟩
                simp only [Act.put, List.setIfInBounds_toArray, List.set_cons_succ, List.set_cons_zero]
                apply wpK_val
                · rfl
                · intro w' hw'
                  have hcell := (hw'.cell (p := ⟨b, o + j, none⟩) HB.out).trans hr.out
                  go_simp
                  first | exact rfl | exact ⟨rfl, hw'⟩
                simp only [Act.put, List.setIfInBounds_toArray, List.set_cons_succ, List.set_cons_zero]
                apply wpK_val
                · rfl
                · intro w' hw'
                  go_simp
                  first | exact rfl | exact ⟨rfl, hw'⟩
                simp only [Act.put, List.setIfInBounds_toArray, List.set_cons_succ, List.set_cons_zero]
                apply wpK_val
                · rfl
                · intro w' hw'
                  go_simp
                  first | exact rfl | exact ⟨rfl, hw'⟩
                simp only [Act.put, List.setIfInBounds_toArray, List.set_cons_succ, List.set_cons_zero]
                refine wpK_nil fun w4 hw4 => ?_
                go_wp2_with fail
                exact ⟨⟨j + 1, _, by omega, by go_num, rfl, hid (by rw [HX.out, T2.out HYX.out]; exact hO.out.below (hw4.mono (Nat.le_refl _))), hid (hb.out.trans (hw4.mono hb.out.size))⟩, by simp [intOf]; omega⟩
              · have te : (y == x) = false := by simpa using hyx
                have HU := hid (T3.out fun h => hyx h.2)
                clear hyx
                go_wp2_with fail
                refine wp_region_tail (C := fun w' => Below w1.heap.size w1 w') 15 (by kernel_rfl) (by kernel_rfl) (by kernel_rfl) (hbk.out).drew ?_
                simp only [List.take_succ_cons, List.take_zero, List.drop_succ_cons, List.drop_zero]
                apply wpK_val
                · rfl
                · intro w' hw'
                  go_simp
                  first | exact rfl | exact ⟨rfl, hw'⟩
                simp only [Act.put, List.setIfInBounds_toArray, List.set_cons_succ, List.set_cons_zero]
                apply wpK_val
                · rfl
                · intro w' hw'
                  go_simp
                  first | exact rfl | exact ⟨rfl, hw'⟩
                simp only [Act.put, List.setIfInBounds_toArray, List.set_cons_succ, List.set_cons_zero]
                apply wpK_val
                · rfl
                · intro w' hw'
                  go_simp
                  first | exact rfl | exact ⟨rfl, hw'⟩
                simp only [Act.put, List.setIfInBounds_toArray, List.set_cons_succ, List.set_cons_zero]
                apply wpK_val
                · rfl
                · intro w' hw'
                  go_simp
                  first | exact rfl | exact ⟨rfl, hw'⟩
                simp only [Act.put, List.setIfInBounds_toArray, List.set_cons_succ, List.set_cons_zero]
                apply wpK_val
                · rfl
                · intro w' hw'
                  go_simp
                  first | exact rfl | exact ⟨rfl, hw'⟩
                simp only [Act.put, List.setIfInBounds_toArray, List.set_cons_succ, List.set_cons_zero]
                apply wpK_val
                · rfl
                · intro w' hw'
                  go_simp
                  first | exact rfl | exact ⟨rfl, hw'⟩
                simp only [Act.put, List.setIfInBounds_toArray, List.set_cons_succ, List.set_cons_zero]
                apply wpK_val
                · rfl
                · intro w' hw'
                  go_simp
                  first | exact rfl | exact ⟨rfl, hw'⟩
                simp only [Act.put, List.setIfInBounds_toArray, List.set_cons_succ, List.set_cons_zero]
                apply wpK_val
                · rfl
                · intro w' hw'
                  go_simp
                  first | exact rfl | exact ⟨rfl, hw'⟩
                simp only [Act.put, List.setIfInBounds_toArray, List.set_cons_succ, List.set_cons_zero]
                apply wpK_val
                · rfl
                · intro w' hw'
                  have hcell := (hw'.cell (p := ⟨g, q, none⟩) hg).trans C2.out
                  go_simp
                  first | exact rfl | exact ⟨rfl, hw'⟩
                simp only [Act.put, List.setIfInBounds_toArray, List.set_cons_succ, List.set_cons_zero]
                apply wpK_val
                · rfl
                · intro w' hw'
                  go_simp
                  first | exact rfl | exact ⟨rfl, hw'⟩
                simp only [Act.put, List.setIfInBounds_toArray, List.set_cons_succ, List.set_cons_zero]
                apply wpK_val
                · rfl
                · intro w' hw'
                  go_simp
                  first | exact rfl | exact ⟨rfl, hw'⟩
                simp only [Act.put, List.setIfInBounds_toArray, List.set_cons_succ, List.set_cons_zero]
                apply wpK_val
                · rfl
                · intro w' hw'
                  go_simp
                  first | exact rfl | exact ⟨rfl, hw'⟩
                simp only [Act.put, List.setIfInBounds_toArray, List.set_cons_succ, List.set_cons_zero]
                apply wpK_val
                · rfl
                · intro w' hw'
                  have hcell := (hw'.cell (p := ⟨b, o + j, none⟩) HB.out).trans hr.out
                  go_simp
                  first | exact rfl | exact ⟨rfl, hw'⟩
                simp only [Act.put, List.setIfInBounds_toArray, List.set_cons_succ, List.set_cons_zero]
                apply wpK_val
                · rfl
                · intro w' hw'
                  go_simp
                  first | exact rfl | exact ⟨rfl, hw'⟩
                simp only [Act.put, List.setIfInBounds_toArray, List.set_cons_succ, List.set_cons_zero]
                apply wpK_val
                · rfl
                · intro w' hw'
                  go_simp
                  first | exact rfl | exact ⟨rfl, hw'⟩
                simp only [Act.put, List.setIfInBounds_toArray, List.set_cons_succ, List.set_cons_zero]
                refine wpK_nil fun w3 hw3 => ?_
                go_wp2_with fail
                refine wp_region_tail (C := fun w' => Below w1.heap.size w1 w') 15 (by kernel_rfl) (by kernel_rfl) (by kernel_rfl) (hw3).drew ?_
                simp only [List.take_succ_cons, List.take_zero, List.drop_succ_cons, List.drop_zero]
                apply wpK_val
                · rfl
                · intro w' hw'
                  go_simp
                  first | exact rfl | exact ⟨rfl, hw'⟩
                simp only [Act.put, List.setIfInBounds_toArray, List.set_cons_succ, List.set_cons_zero]
                apply wpK_val
                · rfl
                · intro w' hw'
                  go_simp
                  first | exact rfl | exact ⟨rfl, hw'⟩
                simp only [Act.put, List.setIfInBounds_toArray, List.set_cons_succ, List.set_cons_zero]
                apply wpK_val
                · rfl
                · intro w' hw'
                  go_simp
                  first | exact rfl | exact ⟨rfl, hw'⟩
                simp only [Act.put, List.setIfInBounds_toArray, List.set_cons_succ, List.set_cons_zero]
                apply wpK_val
                · rfl
                · intro w' hw'
                  go_simp
                  first | exact rfl | exact ⟨rfl, hw'⟩
                simp only [Act.put, List.setIfInBounds_toArray, List.set_cons_succ, List.set_cons_zero]
                apply wpK_val
                · rfl
                · intro w' hw'
                  go_simp
                  first | exact rfl | exact ⟨rfl, hw'⟩
                simp only [Act.put, List.setIfInBounds_toArray, List.set_cons_succ, List.set_cons_zero]
                apply wpK_val
                · rfl
                · intro w' hw'
                  go_simp
                  first | exact rfl | exact ⟨rfl, hw'⟩
                simp only [Act.put, List.setIfInBounds_toArray, List.set_cons_succ, List.set_cons_zero]
                apply wpK_val
                · rfl
                · intro w' hw'
                  go_simp
                  first | exact rfl | exact ⟨rfl, hw'⟩
                simp only [Act.put, List.setIfInBounds_toArray, List.set_cons_succ, List.set_cons_zero]
                apply wpK_val
                · rfl
                · intro w' hw'
                  go_simp
                  first | exact rfl | exact ⟨rfl, hw'⟩
                simp only [Act.put, List.setIfInBounds_toArray, List.set_cons_succ, List.set_cons_zero]
                apply wpK_val
                · rfl
                · intro w' hw'
                  have hcell := (hw'.cell (p := ⟨g, q, none⟩) hg).trans C2.out
                  go_simp
                  first | exact rfl | exact ⟨rfl, hw'⟩
                simp only [Act.put, List.setIfInBounds_toArray, List.set_cons_succ, List.set_cons_zero]
                apply wpK_val
                · rfl
                · intro w' hw'
                  go_simp
                  first | exact rfl | exact ⟨rfl, hw'⟩
                simp only [Act.put, List.setIfInBounds_toArray, List.set_cons_succ, List.set_cons_zero]
                apply wpK_val
                · rfl
                · intro w' hw'
                  go_simp
                  first | exact rfl | exact ⟨rfl, hw'⟩
                simp only [Act.put, List.setIfInBounds_toArray, List.set_cons_succ, List.set_cons_zero]
                apply wpK_val
                · rfl
                · intro w' hw'
                  go_simp
                  first | exact rfl | exact ⟨rfl, hw'⟩
                simp only [Act.put, List.setIfInBounds_toArray, List.set_cons_succ, List.set_cons_zero]
                apply wpK_val
                · rfl
                · intro w' hw'
                  have hcell := (hw'.cell (p := ⟨b, o + j, none⟩) HB.out).trans hr.out
                  go_simp
                  first | exact rfl | exact ⟨rfl, hw'⟩
                simp only [Act.put, List.setIfInBounds_toArray, List.set_cons_succ, List.set_cons_zero]
                apply wpK_val
                · rfl
                · intro w' hw'
                  go_simp
                  first | exact rfl | exact ⟨rfl, hw'⟩
                simp only [Act.put, List.setIfInBounds_toArray, List.set_cons_succ, List.set_cons_zero]
                apply wpK_val
                · rfl
                · intro w' hw'
                  go_simp
                  first | exact rfl | exact ⟨rfl, hw'⟩
                simp only [Act.put, List.setIfInBounds_toArray, List.set_cons_succ, List.set_cons_zero]
                refine wpK_nil fun w4 hw4 => ?_
                skip
                have R1 := hid (show IntL w4 w1.heap.size (some ⟨g, 0, none⟩) (out.take q) from (HO2.out.below hw4 (Nat.le_refl _)).take)
                have R1L := hid (show (out.take q).length = q by rw [List.length_take, HM.out]; omega)
                go_upto_region 11 with ((with_reducible apply wappz (l := []) (kk := out.take q)); rfl; rfl; exact (fun h => by cases h); exact (OwnZ.nil (w := w4) (B := w4.heap.size)); exact R1.out; exact R1L.out; (simp; omega); exact Nat.le_refl _; intro v1 w5 o5 g5)
                have B5 := hid (below_grownZ (Below.refl w4.heap.size w4) g5 (OwnZ.nil (w := w4) (B := w4.heap.size)) (Nat.le_refl _) (Nat.le_refl _))
                have O5 := hid o5
                rw [List.nil_append] at O5
                have BW5 := hid (hw4.trans (B5.out.mono hw4.size))
                have c5 := (BW5.out.cell (p := ⟨b, o + j, none⟩) HB.out).trans hr.out
                have A5 := hid (OwnZ.alloc O5.out (.cells #[.int .i64 x] 3))
                have I5 := hid (ints_one (w := w5) (t := 3) (x := x) (B := w5.heap.size + 1) (Nat.lt_succ_self _))
                have Z5 := hid (show w4.heap.size ≤ (w5.alloc (.cells #[.int .i64 x] 3)).heap.size by rw [World.size_alloc]; have := B5.out.size; omega)
                have L5 := hid (show (out.take q).length + 1 ≤ 1000000 by rw [R1L.out]; omega)
                clear o5 g5
                go_upto_region 12 with ((with_reducible apply wappz (l := out.take q) (kk := [x])); rfl; rfl; exact (fun h => by cases h); exact A5.out; exact I5.out; rfl; exact L5.out; exact Z5.out; intro v2 w6 o6 g6)
                have B6 := hid (below_grownZ (B5.out.alloc B5.out.size (.cells #[.int .i64 x] 3)) g6 A5.out (Nat.le_refl _) (Nat.le_refl _))
                have O6 := hid o6
                clear o6 g6 c5
                have Z6 := hid (B6.out.size)
                have R3 := hid (show IntL w6 w1.heap.size (some ⟨g, q, none⟩) (out.drop q) from (HO2.out.below (hw4.trans (B6.out.mono hw4.size)) (Nat.le_refl _)).drop)
                have R3L := hid (show (out.drop q).length = m - q by rw [List.length_drop, HM.out])
                have L6 := hid (show (out.take q ++ [x]).length + (m - q) ≤ 1000000 by rw [List.length_append, R1L.out]; simp; omega)
                go_wp2_with ((with_reducible apply wappz (l := out.take q ++ [x]) (kk := out.drop q)); rfl; rfl; exact (fun h => by cases h); exact O6.out; exact R3.out; exact R3L.out; exact L6.out; exact Z6.out; intro v3 w7 o7 g7)
                have B7 := hid (below_grownZ B6.out g7 O6.out (Nat.le_refl _) (Nat.le_refl _))
                have O7 := hid o7
                clear o7 g7
                have HZ := hid (show w.heap.size ≤ w4.heap.size from Nat.le_trans hb.out.size hw4.size)
                exact ⟨⟨j + 1, v3, by omega, by go_num, rfl, hid (by rw [HX.out, HU.out]; exact (by simpa using O7.out.lower HZ.out)), hid (hb.out.trans ((hw4.trans (B7.out.mono hw4.size)).mono hb.out.size))⟩, by simp [intOf]; omega⟩
          · have hkl : k' = lead x out := by omega
            have hkm' : k' = m := by omega
            have HU := hid (insU_new x out fun h => by rw [HM.out] at h; omega)
            rw [← hkl] at HU
            clear hkl hk'
            have tk : ¬ ((k' : Int) < (m : Int)) := by omega
            have tk2 : decide ((k' : Int) < (m : Int)) = false := by simp; omega
            have hle2 : k' ≤ m := by omega
            have HKM := hid hkm'
            clear hkm'
            go_wp2_with fail
            refine wp_region_tail (C := fun w' => Below w1.heap.size w1 w') 15 (by kernel_rfl) (by kernel_rfl) (by kernel_rfl) (hbk.out).drew ?_
            simp only [List.take_succ_cons, List.take_zero, List.drop_succ_cons, List.drop_zero]
            apply wpK_val
            · rfl
            · intro w' hw'
              go_simp
              first | exact rfl | exact ⟨rfl, hw'⟩
            simp only [Act.put, List.setIfInBounds_toArray, List.set_cons_succ, List.set_cons_zero]
            apply wpK_val
            · rfl
            · intro w' hw'
              go_simp
              first | exact rfl | exact ⟨rfl, hw'⟩
            simp only [Act.put, List.setIfInBounds_toArray, List.set_cons_succ, List.set_cons_zero]
            apply wpK_val
            · rfl
            · intro w' hw'
              go_simp
              first | exact rfl | exact ⟨rfl, hw'⟩
            simp only [Act.put, List.setIfInBounds_toArray, List.set_cons_succ, List.set_cons_zero]
            apply wpK_val
            · rfl
            · intro w' hw'
              go_simp
              first | exact rfl | exact ⟨rfl, hw'⟩
            simp only [Act.put, List.setIfInBounds_toArray, List.set_cons_succ, List.set_cons_zero]
            apply wpK_val
            · rfl
            · intro w' hw'
              go_simp
              first | exact rfl | exact ⟨rfl, hw'⟩
            simp only [Act.put, List.setIfInBounds_toArray, List.set_cons_succ, List.set_cons_zero]
            apply wpK_not
            · rfl
            simp only [Act.put, List.setIfInBounds_toArray, List.set_cons_succ, List.set_cons_zero]
            apply wpK_not
            · rfl
            simp only [Act.put, List.setIfInBounds_toArray, List.set_cons_succ, List.set_cons_zero]
            apply wpK_not
            · rfl
            simp only [Act.put, List.setIfInBounds_toArray, List.set_cons_succ, List.set_cons_zero]
            apply wpK_not
            · rfl
            simp only [Act.put, List.setIfInBounds_toArray, List.set_cons_succ, List.set_cons_zero]
            apply wpK_not
            · rfl
            simp only [Act.put, List.setIfInBounds_toArray, List.set_cons_succ, List.set_cons_zero]
            apply wpK_not
            · rfl
            simp only [Act.put, List.setIfInBounds_toArray, List.set_cons_succ, List.set_cons_zero]
            apply wpK_not
            · rfl
            simp only [Act.put, List.setIfInBounds_toArray, List.set_cons_succ, List.set_cons_zero]
            apply wpK_not
            · rfl
            simp only [Act.put, List.setIfInBounds_toArray, List.set_cons_succ, List.set_cons_zero]
            apply wpK_not
            · rfl
            simp only [Act.put, List.setIfInBounds_toArray, List.set_cons_succ, List.set_cons_zero]
            apply wpK_val
            · rfl
            · intro w' hw'
              go_simp
              first | exact rfl | exact ⟨rfl, hw'⟩
            simp only [Act.put, List.setIfInBounds_toArray, List.set_cons_succ, List.set_cons_zero]
            refine wpK_nil fun w3 hw3 => ?_
            go_wp2_with fail
            refine wp_region_tail (C := fun w' => Below w1.heap.size w1 w') 15 (by kernel_rfl) (by kernel_rfl) (by kernel_rfl) (hw3).drew ?_
            simp only [List.take_succ_cons, List.take_zero, List.drop_succ_cons, List.drop_zero]
            apply wpK_val
            · rfl
            · intro w' hw'
              go_simp
              first | exact rfl | exact ⟨rfl, hw'⟩
            simp only [Act.put, List.setIfInBounds_toArray, List.set_cons_succ, List.set_cons_zero]
            apply wpK_val
            · rfl
            · intro w' hw'
              go_simp
              first | exact rfl | exact ⟨rfl, hw'⟩
            simp only [Act.put, List.setIfInBounds_toArray, List.set_cons_succ, List.set_cons_zero]
            apply wpK_val
            · rfl
            · intro w' hw'
              go_simp
              first | exact rfl | exact ⟨rfl, hw'⟩
            simp only [Act.put, List.setIfInBounds_toArray, List.set_cons_succ, List.set_cons_zero]
            apply wpK_val
            · rfl
            · intro w' hw'
              go_simp
              first | exact rfl | exact ⟨rfl, hw'⟩
            simp only [Act.put, List.setIfInBounds_toArray, List.set_cons_succ, List.set_cons_zero]
            apply wpK_val
            · rfl
            · intro w' hw'
              go_simp
              first | exact rfl | exact ⟨rfl, hw'⟩
            simp only [Act.put, List.setIfInBounds_toArray, List.set_cons_succ, List.set_cons_zero]
            apply wpK_not
            · rfl
            simp only [Act.put, List.setIfInBounds_toArray, List.set_cons_succ, List.set_cons_zero]
            apply wpK_not
            · rfl
            simp only [Act.put, List.setIfInBounds_toArray, List.set_cons_succ, List.set_cons_zero]
            apply wpK_not
            · rfl
            simp only [Act.put, List.setIfInBounds_toArray, List.set_cons_succ, List.set_cons_zero]
            apply wpK_not
            · rfl
            simp only [Act.put, List.setIfInBounds_toArray, List.set_cons_succ, List.set_cons_zero]
            apply wpK_not
            · rfl
            simp only [Act.put, List.setIfInBounds_toArray, List.set_cons_succ, List.set_cons_zero]
            apply wpK_not
            · rfl
            simp only [Act.put, List.setIfInBounds_toArray, List.set_cons_succ, List.set_cons_zero]
            apply wpK_not
            · rfl
            simp only [Act.put, List.setIfInBounds_toArray, List.set_cons_succ, List.set_cons_zero]
            apply wpK_not
            · rfl
            simp only [Act.put, List.setIfInBounds_toArray, List.set_cons_succ, List.set_cons_zero]
            apply wpK_not
            · rfl
            simp only [Act.put, List.setIfInBounds_toArray, List.set_cons_succ, List.set_cons_zero]
            apply wpK_val
            · rfl
            · intro w' hw'
              go_simp
              first | exact rfl | exact ⟨rfl, hw'⟩
            simp only [Act.put, List.setIfInBounds_toArray, List.set_cons_succ, List.set_cons_zero]
            refine wpK_nil fun w4 hw4 => ?_
            skip
            have R1 := hid (show IntL w4 w1.heap.size (some ⟨g, 0, none⟩) (out.take k') from (HO2.out.below hw4 (Nat.le_refl _)).take)
            have R1L := hid (show (out.take k').length = k' by rw [List.length_take, HM.out]; exact Nat.min_eq_left hle2)
            go_upto_region 11 with ((with_reducible apply wappz (l := []) (kk := out.take k')); rfl; rfl; exact (fun h => by cases h); exact (OwnZ.nil (w := w4) (B := w4.heap.size)); exact R1.out; exact R1L.out; (simp; omega); exact Nat.le_refl _; intro v1 w5 o5 g5)
            have B5 := hid (below_grownZ (Below.refl w4.heap.size w4) g5 (OwnZ.nil (w := w4) (B := w4.heap.size)) (Nat.le_refl _) (Nat.le_refl _))
            have O5 := hid o5
            rw [List.nil_append] at O5
            have BW5 := hid (hw4.trans (B5.out.mono hw4.size))
            have c5 := (BW5.out.cell (p := ⟨b, o + j, none⟩) HB.out).trans hr.out
            have A5 := hid (OwnZ.alloc O5.out (.cells #[.int .i64 x] 3))
            have I5 := hid (ints_one (w := w5) (t := 3) (x := x) (B := w5.heap.size + 1) (Nat.lt_succ_self _))
            have Z5 := hid (show w4.heap.size ≤ (w5.alloc (.cells #[.int .i64 x] 3)).heap.size by rw [World.size_alloc]; have := B5.out.size; omega)
            have L5 := hid (show (out.take k').length + 1 ≤ 1000000 by rw [R1L.out]; omega)
            clear o5 g5
            go_upto_region 12 with ((with_reducible apply wappz (l := out.take k') (kk := [x])); rfl; rfl; exact (fun h => by cases h); exact A5.out; exact I5.out; rfl; exact L5.out; exact Z5.out; intro v2 w6 o6 g6)
            have B6 := hid (below_grownZ (B5.out.alloc B5.out.size (.cells #[.int .i64 x] 3)) g6 A5.out (Nat.le_refl _) (Nat.le_refl _))
            have O6 := hid o6
            clear o6 g6 c5
            have Z6 := hid (B6.out.size)
            have HD : out.drop k' = [] := List.drop_of_length_le (by rw [HM.out]; have := HKM.out; omega)
            have HU := hid (show insU x out = out.take k' ++ x :: [] by rw [HU.out, HD])
            have L6 := hid (show (out.take k' ++ [x]).length + (m - k') ≤ 1000000 by rw [List.length_append, R1L.out]; simp; omega)
            have M0 := hid (show ([] : List Int).length = m - k' by have := HKM.out; simp; omega)
            clear HD
            go_wp2_with ((with_reducible apply wappz (l := out.take k' ++ [x]) (kk := [])); rfl; rfl; (first | exact (fun h => by cases h) | exact (fun h => by split at h <;> cases h)); exact O6.out; exact (IntL.empt (w := w6) (B := w6.heap.size) rfl); (first | exact M0.out | rfl); (first | exact L6.out | (rw [List.length_append, R1L.out]; simp; omega)); exact Z6.out; intro v3 w7 o7 g7)
            have B7 := hid (below_grownZ B6.out g7 O6.out (Nat.le_refl _) (Nat.le_refl _))
            have O7 := hid o7
            clear o7 g7
            have HZ := hid (show w.heap.size ≤ w4.heap.size from Nat.le_trans hb.out.size hw4.size)
            exact ⟨⟨j + 1, v3, by omega, by go_num, rfl, hid (by rw [HX.out, HU.out]; exact (by simpa using O7.out.lower HZ.out)), hid (hb.out.trans ((hw4.trans (B7.out.mono hw4.size)).mono hb.out.size))⟩, by simp [intOf]; omega⟩
    · obtain rfl : j = n := by omega
      have tj : ¬ ((j : Int) < (j : Int)) := by omega
      go_wp2_with fail
      go_ret
      rw [List.take_of_length_le (by rw [HL.out]; omega)] at hO
      exact ⟨_, rfl, hO.out, hb.out⟩
end Go.Proofs.Yteoccdcebgcdmaa
