/-
  casemateref02.Fix where nothing is lost.
-/
import Derived.Test.YteoccdcebgcdmaaRefFixB
import Derived.Test.YteoccdcebgcdmaaFixFin
import Derived.Test.YteoccdcebgcdmaaParMendE
namespace Go.Proofs.Yteoccdcebgcdmaa
open Go.ChangeShapes Go.WideShapes Go.ChangeAt Go.RowKit
attribute [local go_sem] Gives
theorem OwnS.nil' (w : World) (B : Nat) (F : Nat → Nat → Nat) : OwnS w B (.slice none 0 0) 0 F := by
  have h0 : (Go.Proofs.Yteoccdcebgcdmaa.secs 0 F).toList = [] := List.eq_nil_of_length_eq_zero (by rw [Array.length_toList, size_secs])
  unfold OwnS
  rw [h0]
  exact World.ownsRow_nil w _ _ _
set_option maxRecDepth 100000 in
set_option maxHeartbeats 1500000 in
theorem rfix_none (A A' : Option Addr) (m cap n c : Nat) (l : List Int) (F : Nat → Nat → Nat) (hF : ∀ i k, F i k < 256) (hl : l.length = n) (hn : n ≤ 1000) (h1 : 1 ≤ m) (h2 : m ≤ 62) (w : World) (hs : IntL w w.heap.size A' l) (hS : Secs w w.heap.size A (m + 2) F)
    (hk : (uniq l).length = 0) :
    Calls Try.prog 18 #[.slice A (m + 2) cap, .slice A' n c] w fun e w' => ∃ g cap' : Nat, e = .returned (.tuple #[.slice (some ⟨g, 0, none⟩) (m + 2) cap', .int .i64 0]) ∧
      OwnS w' w.heap.size (.slice (some ⟨g, 0, none⟩) (m + 2) cap') (m + 2) F ∧ Below w.heap.size w w' := by
  have HU := hid (runlike_any A' n c l hl hn w hs)
  clear hs
  revert HU hk
  generalize uniq l = u
  intro hk HU
  have HF := hid hF
  clear hF hl hn
  obtain ⟨sb, so, rfl, _, _⟩ := hS (by omega)
  have HS := hid hS
  clear hS
  have tN : decide ((m : Int) < 1) = false := by simp; omega
  have t62 : decide ((62 : Int) < (m : Int)) = false := by simp; omega
  go_enter Try.func18, Try.ntmps18
  go_wp2_with fail
  refine HU.out.mono ?_
  rintro e w' ⟨v, rfl, hO, hb⟩
  have HB := hid hb
  clear hb
  obtain ⟨A2, c2, rfl, hc1, _, _, hI⟩ := hO.any
  clear hI hO HU
  rw [hk] at hc1 ⊢
  clear hk
  have S1 := hid ((HS.out.below HB.out (Nat.le_refl _)))
  have N1 := hid (OwnS.nil' w' w'.heap.size F)
  go_wp2_with ((with_reducible apply wapp (v := .slice none 0 0)); rfl; rfl; exact N1.out; exact S1.out; omega; exact Nat.le_refl _; intro v1 w2 own grow hnil)
  have hne : v1 ≠ .slice none 0 0 := fun e => by have := (hnil.1 e).2; omega
  rw [Nat.zero_add] at own
  obtain ⟨g, capR, rfl, hg1, hg2, _, _⟩ := own.form hne
  have o2 := hid (own.mono (G := F) fun j q _ _ => by unfold catF; simp)
  have B2 := hid (show Below w'.heap.size w' w2 from (Below.refl _ _).grown grow (Nat.le_refl _) fun g h => by cases h)
  clear own hnil hne N1
  have BB := hid (HB.out.trans (B2.out.mono HB.out.size))
  clear S1 grow
  go_loopw [9, 10, 11] (fun dv pv iv wr => iv = .int .i64 0 ∧ dv = .slice none 0 0 ∧ pv = .bool false ∧ Hid (OwnS wr w'.heap.size (.slice (some ⟨g, 0, none⟩) (m + 2) capR) (m + 2) F) ∧ Hid (Below w.heap.size w wr)) (fun _ _ _ _ => 0)
  case atStart => exact ⟨rfl, rfl, rfl, o2, BB⟩
  case round =>
    obtain ⟨rfl, rfl, rfl, HRW, HBL⟩ := hrel
    obtain ⟨w3, hw3⟩ : ∃ w3, w3 = wr := ⟨_, rfl⟩
    subst hw3
    go_wp2_with fail
    go_loopw [12] (fun kv wq => ∃ t : Nat, t ≤ 64 ∧ kv = .int .i64 t ∧ Hid (OwnS wq w'.heap.size (.slice (some ⟨g, 0, none⟩) (m + 2) capR) (m + 2) F) ∧ Hid (Below w.heap.size w wq)) (fun kv _ => 64 - (intOf kv).toNat)
    case atStart => exact ⟨0, by omega, rfl, HRW, HBL⟩
    case round =>
      clear HRW HBL
      obtain ⟨t, ht, rfl, HRW, HBL⟩ := hrel
      by_cases hlt : t < 64
      · have tt : (t : Int) < 64 := by omega
        have hl3 := own_lt HRW.out
        have GL := hid hl3.1
        have Q1 := hid (OwnS.cellAt HRW.out (i := m) (by omega) hlt)
        have Q2 := hid (OwnS.cellAt HRW.out (i := m + 1) (by omega) hlt)
        have HSM := hid (show Secs wr wr.heap.size (some ⟨g, 0, none⟩) m F from fun _ => ⟨g, 0, rfl, GL.out, fun i hi => own_range HRW.out (by omega)⟩)
        have EX1 := hid (u8_xor_nat _ _ (HF.out m t) (PP_lt HF.out m t))
        have EX2 := hid (u8_xor_nat _ _ (HF.out (m + 1) t) (QQ_lt (F := F) m t))
        have hcm : m ≤ capR := by omega
        have ti1 : (m : Int) < (m : Int) + 2 := by omega
        have ti2 : (m : Int) + 1 < (m : Int) + 2 := by omega
        have EWR := hid (show IntKind.i64.wrap ((m : Int) + 1) = (m : Int) + 1 from by first | go_num | (simp only [IntKind.wrap]; omega) | (simp [IntKind.wrap]; omega) | (unfold IntKind.wrap; simp; omega) | (unfold IntKind.wrap IntKind.bits IntKind.signed; simp; omega))
        have ETN := hid (show ((m : Int) + 1).toNat = m + 1 by omega)
        clear hl3
        go_wp2_with fail
        refine wp_region_tail (C := fun z => Below wr.heap.size wr z) 12 (by kernel_rfl) (by kernel_rfl) (by kernel_rfl) (Below.refl _ _).drew ?_
        simp only [List.take_succ_cons, List.take_zero, List.drop_succ_cons, List.drop_zero]
        apply wpK_val
        · rfl
        · intro w' hw'
          go_simp
          first | exact rfl | exact ⟨rfl, hw'⟩
        simp only [Act.put, List.setIfInBounds_toArray, List.set_cons_succ, List.set_cons_zero]
        apply wpK_val
        · rfl
        · intro w' hw'
          go_simp
          first | exact rfl | exact ⟨rfl, hw'⟩
        simp only [Act.put, List.setIfInBounds_toArray, List.set_cons_succ, List.set_cons_zero]
        apply wpK_val
        · rfl
        · intro w' hw'
          go_simp
          first | exact rfl | exact ⟨rfl, hw'⟩
        simp only [Act.put, List.setIfInBounds_toArray, List.set_cons_succ, List.set_cons_zero]
        apply wpK_val
        · rfl
        · intro w' hw'
          go_simp
          first | exact rfl | exact ⟨rfl, hw'⟩
        simp only [Act.put, List.setIfInBounds_toArray, List.set_cons_succ, List.set_cons_zero]
        apply wpK_val
        · rfl
        · intro w' hw'
          go_simp
          first | exact rfl | exact ⟨rfl, hw'⟩
        simp only [Act.put, List.setIfInBounds_toArray, List.set_cons_succ, List.set_cons_zero]
        apply wpK_val
        · rfl
        · intro w' hw'
          have hcell := (hw'.cell (p := ⟨g, m * 64 + t, none⟩) GL.out).trans Q1.out
          go_simp
          first | exact rfl | exact ⟨rfl, hw'⟩
        simp only [Act.put, List.setIfInBounds_toArray, List.set_cons_succ, List.set_cons_zero]
        apply wpK_val
        · rfl
        · intro w' hw'
          go_simp
          first | exact rfl | exact ⟨rfl, hw'⟩
        simp only [Act.put, List.setIfInBounds_toArray, List.set_cons_succ, List.set_cons_zero]
        apply wpK_val
        · rfl
        · intro w' hw'
          go_simp
          first | exact rfl | exact ⟨rfl, hw'⟩
        simp only [Act.put, List.setIfInBounds_toArray, List.set_cons_succ, List.set_cons_zero]
        apply wpK_val
        · rfl
        · intro w' hw'
          go_simp
          first | exact rfl | exact ⟨rfl, hw'⟩
        simp only [Act.put, List.setIfInBounds_toArray, List.set_cons_succ, List.set_cons_zero]
        apply wpK_val
        · rfl
        · intro w' hw'
          go_simp
          first | exact rfl | exact ⟨rfl, hw'⟩
        simp only [Act.put, List.setIfInBounds_toArray, List.set_cons_succ, List.set_cons_zero]
        apply wpK_val
        · rfl
        · intro w' hw'
          go_simp
          exact (rP_any (some ⟨g, 0, none⟩) m capR t _ HF.out (by omega) hlt w' ((HSM.out.below hw' (Nat.le_refl _)).more hw'.size)).mono fun e w'' ⟨he, hz⟩ => ⟨he, hz ▸ hw'⟩
        simp only [Act.put, List.setIfInBounds_toArray, List.set_cons_succ, List.set_cons_zero]
        apply wpK_val
        · rfl
        · intro w' hw'
          have h1 : _ := EX1.out
          go_simp
          first | exact rfl | exact ⟨rfl, hw'⟩
        simp only [Act.put, List.setIfInBounds_toArray, List.set_cons_succ, List.set_cons_zero]
        refine wpK_nil fun w4 hw4 => ?_
        go_wp2_with fail
        refine wp_region_tail (C := fun z => Below wr.heap.size wr z) 13 (by kernel_rfl) (by kernel_rfl) (by kernel_rfl) hw4.drew ?_
        simp only [List.take_succ_cons, List.take_zero, List.drop_succ_cons, List.drop_zero]
        apply wpK_val
        · rfl
        · intro w' hw'
          go_simp
          first | exact rfl | exact ⟨rfl, hw'⟩
        simp only [Act.put, List.setIfInBounds_toArray, List.set_cons_succ, List.set_cons_zero]
        apply wpK_val
        · rfl
        · intro w' hw'
          go_simp
          first | exact rfl | exact ⟨rfl, hw'⟩
        simp only [Act.put, List.setIfInBounds_toArray, List.set_cons_succ, List.set_cons_zero]
        apply wpK_val
        · rfl
        · intro w' hw'
          have hq1 : _ := EWR.out
          go_simp
          first | exact rfl | exact ⟨rfl, hw'⟩
        simp only [Act.put, List.setIfInBounds_toArray, List.set_cons_succ, List.set_cons_zero]
        apply wpK_val
        · rfl
        · intro w' hw'
          go_simp
          first | exact rfl | exact ⟨rfl, hw'⟩
        simp only [Act.put, List.setIfInBounds_toArray, List.set_cons_succ, List.set_cons_zero]
        apply wpK_val
        · rfl
        · intro w' hw'
          have hq2 : _ := ETN.out
          go_simp
          first | exact rfl | exact ⟨rfl, hw'⟩
        simp only [Act.put, List.setIfInBounds_toArray, List.set_cons_succ, List.set_cons_zero]
        apply wpK_val
        · rfl
        · intro w' hw'
          go_simp
          first | exact rfl | exact ⟨rfl, hw'⟩
        simp only [Act.put, List.setIfInBounds_toArray, List.set_cons_succ, List.set_cons_zero]
        apply wpK_val
        · rfl
        · intro w' hw'
          have hcell := (hw'.cell (p := ⟨g, (m + 1) * 64 + t, none⟩) GL.out).trans Q2.out
          go_simp
          first | exact rfl | exact ⟨rfl, hw'⟩
        simp only [Act.put, List.setIfInBounds_toArray, List.set_cons_succ, List.set_cons_zero]
        apply wpK_val
        · rfl
        · intro w' hw'
          go_simp
          first | exact rfl | exact ⟨rfl, hw'⟩
        simp only [Act.put, List.setIfInBounds_toArray, List.set_cons_succ, List.set_cons_zero]
        apply wpK_val
        · rfl
        · intro w' hw'
          go_simp
          first | exact rfl | exact ⟨rfl, hw'⟩
        simp only [Act.put, List.setIfInBounds_toArray, List.set_cons_succ, List.set_cons_zero]
        apply wpK_val
        · rfl
        · intro w' hw'
          go_simp
          first | exact rfl | exact ⟨rfl, hw'⟩
        simp only [Act.put, List.setIfInBounds_toArray, List.set_cons_succ, List.set_cons_zero]
        apply wpK_val
        · rfl
        · intro w' hw'
          go_simp
          first | exact rfl | exact ⟨rfl, hw'⟩
        simp only [Act.put, List.setIfInBounds_toArray, List.set_cons_succ, List.set_cons_zero]
        apply wpK_val
        · rfl
        · intro w' hw'
          go_simp
          exact (rQ_any (some ⟨g, 0, none⟩) m capR t _ HF.out (by omega) hlt w' ((HSM.out.below hw' (Nat.le_refl _)).more hw'.size)).mono fun e w'' ⟨he, q, hz⟩ => ⟨he, by rw [hz]; exact below_drewN hw' q⟩
        simp only [Act.put, List.setIfInBounds_toArray, List.set_cons_succ, List.set_cons_zero]
        apply wpK_val
        · rfl
        · intro w' hw'
          have h1 : _ := EX2.out
          go_simp
          first | exact rfl | exact ⟨rfl, hw'⟩
        simp only [Act.put, List.setIfInBounds_toArray, List.set_cons_succ, List.set_cons_zero]
        refine wpK_nil fun w5 hw5 => ?_
        have HR5 := hid (OwnS.below HRW.out hw5 (Nat.le_refl _))
        have HB5 := hid (HBL.out.trans (hw5.mono HBL.out.size))
        clear HRW HBL hw5 hw4 Q1 Q2 HSM EX1 EX2 EWR ETN GL
        go_wp2_with fail
        go_roundw
        case rel => exact ⟨t + 1, by omega, by go_num, HR5, HB5⟩
        case measure => simp [intOf]; omega
      · have tf : decide ((t : Int) < 64) = false := by simp; omega
        obtain ⟨w8, hw8⟩ : ∃ z : World, z = wr := ⟨_, rfl⟩
        subst hw8
        go_wp2_with fail
        clear tf
        go_loopw [17] (fun iv wq => iv = .int .i64 0 ∧ Hid (OwnS wq w'.heap.size (.slice (some ⟨g, 0, none⟩) (m + 2) capR) (m + 2) F) ∧ Hid (Below w.heap.size w wq)) (fun _ _ => 0)
        case atStart => exact ⟨rfl, HRW, HBL⟩
        case round =>
          clear HRW HBL
          obtain ⟨rfl, HRW, HBL⟩ := hrel
          have R2 := hid (World.ownsRow.mono HRW.out HB.out.size)
          clear HRW
          go_wp2_with fail
          go_ret2
          exact ⟨g, capR, rfl, R2.out, HBL.out⟩
end Go.Proofs.Yteoccdcebgcdmaa
