/-
  casemateref02.Fix where it mends (under way: up to the loops).
-/
import Derived.Test.YteoccdcebgcdmaaRefFixB
import Derived.Test.YteoccdcebgcdmaaFixFin
import Derived.Test.YteoccdcebgcdmaaParMendE
namespace Go.Proofs.Yteoccdcebgcdmaa
open Go.ChangeShapes Go.WideShapes Go.ChangeAt Go.RowKit
attribute [local go_sem] Gives
theorem mk_uniq {l : List Int} : mk l = mk (uniq l) := by
  funext j
  rw [Bool.eq_iff_iff, mk_iff, mk_iff, mem_uniq]
theorem OwnS.nil (w : World) (B : Nat) (F : Nat → Nat → Nat) : OwnS w B (.slice none 0 0) 0 F := by
  have h0 : (Go.Proofs.Yteoccdcebgcdmaa.secs 0 F).toList = [] := List.eq_nil_of_length_eq_zero (by rw [Array.length_toList, size_secs])
  unfold OwnS
  rw [h0]
  exact World.ownsRow_nil w _ _ _
set_option maxRecDepth 100000 in
set_option maxHeartbeats 1500000 in
theorem rfix_some (A A' : Option Addr) (m cap n c k : Nat) (l : List Int) (F : Nat → Nat → Nat) (hF : ∀ i k, F i k < 256) (hl : l.length = n) (hn : n ≤ 1000) (h1 : 1 ≤ m) (h2 : m ≤ 62) (w : World) (hs : IntL w w.heap.size A' l) (hS : Secs w w.heap.size A (m + 2) F)
    (hO : anyOut (m + 2) l.length (fun i => l.getD i 0) = false) (hk : (uniq l).length = k + 1) (hk2 : k ≤ 1) :
    Calls Try.prog 18 #[.slice A (m + 2) cap, .slice A' n c] w fun e w' => ∃ g cap' : Nat, e = .returned (.tuple #[.slice (some ⟨g, 0, none⟩) (m + 2) cap', .int .i64 0]) ∧
      OwnS w' w.heap.size (.slice (some ⟨g, 0, none⟩) (m + 2) cap') (m + 2) (mendP m (mk l) (mid m 64 (mk l) F)) ∧ Below w.heap.size w w' := by
  have HU := hid (runlike_any A' n c l hl hn w hs)
  have HR := hid (show ∀ x, x ∈ uniq l → 0 ≤ x ∧ x < ((m + 2 : Nat) : Int) from fun x hx => by
    obtain ⟨i, hi, e⟩ := List.mem_iff_getElem.1 (mem_uniq.1 hx)
    have := anyOut_iff.1 hO i hi
    rw [List.getD_eq_getElem?_getD, List.getElem?_eq_getElem hi, Option.getD_some, e] at this
    exact this)
  have HP := hid (uniq_up l)
  rw [mk_uniq]
  clear hO hs
  revert HU HR HP hk
  generalize uniq l = u
  intro hk HU HR HP
  have HF := hid hF
  clear hF hl hn
  obtain ⟨sb, so, rfl, _, _⟩ := hS (by omega)
  have HS := hid hS
  clear hS
  have tN : decide ((m : Int) < 1) = false := by simp; omega
  have t62 : decide ((62 : Int) < (m : Int)) = false := by simp; omega
  go_enter Try.func18, Try.ntmps18
  go_wp2_with fail
  refine HU.out.mono ?_
  rintro e w' ⟨v, rfl, hO, hb⟩
  have HB := hid hb
  clear hb
  have HO := hid hO
  obtain ⟨A2, c2, rfl, hc1, _, _, hI⟩ := hO.any
  obtain ⟨b, o, rfl, hr⟩ := hI.at (by omega)
  have c0 := hr 0 (by omega)
  have c9' := hr k (by omega)
  rw [Nat.add_zero] at c0
  clear hO hr HU
  have HI := hid hI
  clear hI
  rw [hk] at hc1 ⊢
  have HK := hid hk
  have c9 : w'.cell? ⟨b, o + k, none⟩ = some (.int .i64 (u.getD k 0)) := c9'
  have x0 := HR.out (u.getD 0 0) (by rw [List.getD_eq_getElem?_getD, List.getElem?_eq_getElem (by omega)]; exact List.getElem_mem _)
  have x9 := HR.out (u.getD k 0) (by rw [List.getD_eq_getElem?_getD, List.getElem?_eq_getElem (by omega)]; exact List.getElem_mem _)
  clear hk c9'
  revert c0 c9 x0 x9
  generalize u.getD 0 0 = y0
  generalize u.getD k 0 = y9
  intro c0 c9 x0 x9
  have ew : wrap64 (k : Int) = (k : Int) := by unfold wrap64; omega
  have t1 : decide (y0 < 0) = false := by simp; omega
  have t2 : decide ((m : Int) + 2 ≤ y9) = false := by simp; omega
  have t3 : decide ((2 : Int) < (k : Int) + 1) = false := by simp; omega
  clear x0 x9
  have S1 := hid ((HS.out.below HB.out (Nat.le_refl _)))
  have N1 := hid (OwnS.nil w' w'.heap.size F)
  go_upto_region 11 with ((with_reducible apply wapp (v := .slice none 0 0)); rfl; rfl; exact N1.out; exact S1.out; omega; exact Nat.le_refl _; intro v1 w2 own grow hnil)
  have hne : v1 ≠ .slice none 0 0 := fun e => by have := (hnil.1 e).2; omega
  rw [Nat.zero_add] at own
  obtain ⟨g, capR, rfl, hg1, hg2, _, _⟩ := own.form hne
  have o2 := hid (own.mono (G := F) fun j q _ _ => by unfold catF; simp)
  have B2 := hid (show Below w'.heap.size w' w2 from (Below.refl _ _).grown grow (Nat.le_refl _) fun g h => by cases h)
  clear own hnil hne N1
  have I2 := hid (HI.out.below B2.out (Nat.le_refl _))
  have G2 := hid hg2
  have G1 := hid hg1
  have ZN := hid (zal_nil (F := F))
  have MN := hid (show mk [] m = false by cases h : mk [] m with | false => rfl | true => exact absurd (mk_iff.1 h) (by simp))
  have BB := hid (HB.out.trans (B2.out.mono HB.out.size))
  clear S1 HI grow c0 c9
  go_wp2_with fail
  go_loopw [9, 10, 11] (fun dv pv iv wr => ∃ (i : Nat) (vd : Value) (bp : Bool), i ≤ k + 1 ∧ iv = .int .i64 i ∧ dv = vd ∧ pv = .bool bp ∧ Hid (bp = mk (u.take i) m) ∧ Hid (OwnZ wr w2.heap.size vd ((u.take i).filter fun x => decide (x < (m : Int)))) ∧ Hid (OwnS wr w'.heap.size (.slice (some ⟨g, 0, none⟩) (m + 2) capR) (m + 2) (zal (mk (u.take i)) F)) ∧ Hid (IntL wr w'.heap.size (some ⟨b, o, none⟩) u) ∧ Hid (Below w.heap.size w wr) ∧ Hid (w2.heap.size ≤ wr.heap.size)) (fun _ _ iv _ => k + 1 - (intOf iv).toNat)
  case atStart => exact ⟨0, _, false, by omega, rfl, rfl, rfl, hid MN.out.symm, hid OwnZ.nil, hid (by rw [List.take_zero, ZN.out]; exact o2.out), I2, BB, hid (Nat.le_refl _)⟩
  case round =>
    obtain ⟨i, vd, bp, hi, rfl, rfl, rfl, HWP, HD, HRW, HJ, HBL, HZ⟩ := hrel
    by_cases hlt : i < k + 1
    · have ti : (i : Int) < (k : Int) + 1 := by omega
      have hiu : i < u.length := by rw [HK.out]; exact hlt
      have hx := HR.out (u.getD i 0) (by rw [List.getD_eq_getElem?_getD, List.getElem?_eq_getElem hiu]; exact List.getElem_mem _)
      have HT := hid (show u.take (i + 1) = u.take i ++ [u.getD i 0] by
        rw [List.take_add_one, List.getElem?_eq_getElem hiu, List.getD_eq_getElem?_getD, List.getElem?_eq_getElem hiu]; rfl)
      have CC := hid (show ∀ wz, IntL wz w'.heap.size (some ⟨b, o, none⟩) u → wz.cell? ⟨b, o + i, none⟩ = some (.int .i64 (u.getD i 0)) from fun wz hz => by
        obtain ⟨b2, o2, e2, hr2⟩ := hz.at (by omega)
        simp only [Option.some.injEq, Addr.mk.injEq, and_true] at e2
        obtain ⟨rfl, rfl⟩ := e2
        exact hr2 i hiu)
      have hxnn := hx.1
      revert HT CC hx
      obtain ⟨x, hxx⟩ : ∃ x : Nat, u.getD i 0 = (x : Int) := ⟨(u.getD i 0).toNat, by omega⟩
      clear hxnn
      rw [hxx]
      clear hxx
      intro hx HT CC
      have hxm : x < m + 2 := by omega
      have txm : (x : Int) < (m : Int) + 2 := by omega
      clear hx hiu
      have c1 := CC.out wr HJ.out
      go_upto_region 17 with (first | (with_reducible apply bsec) | ((with_reducible apply sto (i := x)); (simp only [Nat.zero_add]; rfl); rfl; exact HRW.out; omega; intro w6 o6 g6))
      have D6 := hid (HD.out.only g6 G2.out)
      have R6 := hid o6
      have J6 := hid (HJ.out.only g6 G1.out)
      have B6 := hid (HBL.out.trans (only_Below g6 (Nat.le_trans HB.out.size G1.out) HBL.out.size))
      have Z6 := hid (Nat.le_trans HZ.out g6.size)
      clear o6 g6 HD HRW HJ HBL HZ c1
      have c1 := CC.out w6 J6.out
      cases bp with
      | true =>
        by_cases hlm : x < m
        · skip
          have HW' := hid (show true = mk (u.take (i + 1)) m by rw [HT.out, withP_snoc, ← HWP.out]; simp)
          have tlt2 : decide ((x : Int) < (m : Int)) = true := by simp; omega
          have FL := hid (show ([(x : Int)].filter fun x => decide (x < (m : Int))) = [(x : Int)] by rw [List.filter_cons, if_pos tlt2]; rfl)
          have A6 := hid (OwnZ.alloc D6.out (.cells #[.int .i64 (x : Int)] 3))
          have I6' := hid (ints_one (w := w6) (t := 3) (x := (x : Int)) (B := w6.heap.size + 1) (Nat.lt_succ_self _))
          have Z6' := hid (show w2.heap.size ≤ (w6.alloc (.cells #[.int .i64 (x : Int)] 3)).heap.size by rw [World.size_alloc]; have := Z6.out; omega)
          have L6' := hid (show ((u.take i).filter fun x => decide (x < (m : Int))).length + 1 ≤ 1000000 by have := List.length_filter_le (fun x => decide (x < (m : Int))) (u.take i); rw [List.length_take] at this; omega)
          go_upto_region 19 with ((with_reducible apply wappz (l := (u.take i).filter fun x => decide (x < (m : Int))) (kk := [(x : Int)])); rfl; rfl; exact (fun h => by cases h); exact A6.out; exact I6'.out; rfl; exact L6'.out; exact Z6'.out; intro v2 w7 o7 g7)
          have D7 := hid o7
          have hk7 := fun q e => (World.ownsRow.lt D6.out q e).1
          have R7 := hid (OwnS.kept (World.ownsRow.alloc R6.out (.cells #[.int .i64 (x : Int)] 3)) g7 (.inr (fun e => by have := hk7 g e.symm; have := G2.out; omega)))
          have B7 := hid (below_grownZ (B6.out.alloc (Nat.le_trans BB.out.size Z6.out) (.cells #[.int .i64 (x : Int)] 3)) g7 A6.out BB.out.size (Nat.le_refl _))
          have B67 := hid (below_grownZ ((Below.refl w'.heap.size w6).alloc (Nat.le_trans B2.out.size Z6.out) (.cells #[.int .i64 (x : Int)] 3)) g7 A6.out B2.out.size (Nat.le_trans B2.out.size Z6.out))
          have J7 := hid (J6.out.below B67.out (Nat.le_refl _))
          have Z7 := hid (Nat.le_trans Z6.out B67.out.size)
          clear o7 g7 hk7 B67 A6 I6' Z6' L6' D6 R6 J6 B6 Z6 c1
          have c1 := CC.out w7 J7.out
          go_wp2_with fail
          exact ⟨⟨i + 1, _, _, by omega, by go_num, rfl, rfl, HW', hid (by rw [HT.out, List.filter_append, FL.out]; exact D7.out), hid (by rw [HT.out, zal_snoc]; exact R7.out), J7, B7, Z7⟩, by simp [intOf]; omega⟩
        · skip
          have HW' := hid (show true = mk (u.take (i + 1)) m by rw [HT.out, withP_snoc, ← HWP.out]; simp)
          have tlt2 : decide ((x : Int) < (m : Int)) = false := by simp; omega
          have FL := hid (show ([(x : Int)].filter fun x => decide (x < (m : Int))) = [] by rw [List.filter_cons, if_neg (by rw [tlt2]; simp)]; rfl)
          go_wp2_with fail
          exact ⟨⟨i + 1, _, _, by omega, by go_num, rfl, rfl, HW', hid (by rw [HT.out, List.filter_append, FL.out, List.append_nil]; exact D6.out), hid (by rw [HT.out, zal_snoc]; exact R6.out), J6, B6, Z6⟩, by simp [intOf]; omega⟩
      | false =>
        by_cases hlm : x < m
        · skip
          have HW' := hid (show decide ((x : Int) = (m : Int)) = mk (u.take (i + 1)) m by rw [HT.out, withP_snoc, ← HWP.out]; simp)
          have tlt2 : decide ((x : Int) < (m : Int)) = true := by simp; omega
          have FL := hid (show ([(x : Int)].filter fun x => decide (x < (m : Int))) = [(x : Int)] by rw [List.filter_cons, if_pos tlt2]; rfl)
          have A6 := hid (OwnZ.alloc D6.out (.cells #[.int .i64 (x : Int)] 3))
          have I6' := hid (ints_one (w := w6) (t := 3) (x := (x : Int)) (B := w6.heap.size + 1) (Nat.lt_succ_self _))
          have Z6' := hid (show w2.heap.size ≤ (w6.alloc (.cells #[.int .i64 (x : Int)] 3)).heap.size by rw [World.size_alloc]; have := Z6.out; omega)
          have L6' := hid (show ((u.take i).filter fun x => decide (x < (m : Int))).length + 1 ≤ 1000000 by have := List.length_filter_le (fun x => decide (x < (m : Int))) (u.take i); rw [List.length_take] at this; omega)
          go_upto_region 19 with ((with_reducible apply wappz (l := (u.take i).filter fun x => decide (x < (m : Int))) (kk := [(x : Int)])); rfl; rfl; exact (fun h => by cases h); exact A6.out; exact I6'.out; rfl; exact L6'.out; exact Z6'.out; intro v2 w7 o7 g7)
          have D7 := hid o7
          have hk7 := fun q e => (World.ownsRow.lt D6.out q e).1
          have R7 := hid (OwnS.kept (World.ownsRow.alloc R6.out (.cells #[.int .i64 (x : Int)] 3)) g7 (.inr (fun e => by have := hk7 g e.symm; have := G2.out; omega)))
          have B7 := hid (below_grownZ (B6.out.alloc (Nat.le_trans BB.out.size Z6.out) (.cells #[.int .i64 (x : Int)] 3)) g7 A6.out BB.out.size (Nat.le_refl _))
          have B67 := hid (below_grownZ ((Below.refl w'.heap.size w6).alloc (Nat.le_trans B2.out.size Z6.out) (.cells #[.int .i64 (x : Int)] 3)) g7 A6.out B2.out.size (Nat.le_trans B2.out.size Z6.out))
          have J7 := hid (J6.out.below B67.out (Nat.le_refl _))
          have Z7 := hid (Nat.le_trans Z6.out B67.out.size)
          clear o7 g7 hk7 B67 A6 I6' Z6' L6' D6 R6 J6 B6 Z6 c1
          have c1 := CC.out w7 J7.out
          go_wp2_with fail
          exact ⟨⟨i + 1, _, _, by omega, by go_num, rfl, rfl, HW', hid (by rw [HT.out, List.filter_append, FL.out]; exact D7.out), hid (by rw [HT.out, zal_snoc]; exact R7.out), J7, B7, Z7⟩, by simp [intOf]; omega⟩
        · skip
          have HW' := hid (show decide ((x : Int) = (m : Int)) = mk (u.take (i + 1)) m by rw [HT.out, withP_snoc, ← HWP.out]; simp)
          have tlt2 : decide ((x : Int) < (m : Int)) = false := by simp; omega
          have FL := hid (show ([(x : Int)].filter fun x => decide (x < (m : Int))) = [] by rw [List.filter_cons, if_neg (by rw [tlt2]; simp)]; rfl)
          go_wp2_with fail
          exact ⟨⟨i + 1, _, _, by omega, by go_num, rfl, rfl, HW', hid (by rw [HT.out, List.filter_append, FL.out, List.append_nil]; exact D6.out), hid (by rw [HT.out, zal_snoc]; exact R6.out), J6, B6, Z6⟩, by simp [intOf]; omega⟩
    · have hik := hid (show i = k + 1 by omega)
      have tif : decide ((i : Int) < (k : Int) + 1) = false := by simp; omega
      obtain ⟨w3, hw3⟩ : ∃ w3, w3 = wr := ⟨_, rfl⟩
      subst hw3
      have TA := hid (show u.take i = u from List.take_of_length_le (by rw [HK.out, hik.out]; exact Nat.le_refl _))
      rw [TA.out] at HWP HD HRW
      have UU := hid (show uniq u = u from up_same (uniq_up u) HP.out fun z => mem_uniq)
      have GU := hid (show (gapsL m (mk u)).map (fun x : Nat => (x : Int)) = u.filter fun x => decide (x < (m : Int)) by rw [gaps_uniq fun x hx => (HR.out x hx).1, UU.out])
      clear TA UU ZN MN I2 BB o2
      rw [← GU.out] at HD
      have HR0 := hid (show OwnS w3 w'.heap.size (.slice (some ⟨g, 0, none⟩) (m + 2) capR) (m + 2) (mid m 0 (mk u) F) by rw [mid_zero]; exact HRW.out)
      clear HRW hi hlt
      go_wp2_with fail
      clear tif
      go_loopw [12] (fun kv wq => ∃ t : Nat, t ≤ 64 ∧ kv = .int .i64 t ∧ Hid (OwnS wq w'.heap.size (.slice (some ⟨g, 0, none⟩) (m + 2) capR) (m + 2) (mid m t (mk u) F)) ∧ Hid (OwnZ wq w2.heap.size u9 ((gapsL m (mk u)).map fun x : Nat => (x : Int))) ∧ Hid (IntL wq w'.heap.size (some ⟨b, o, none⟩) u) ∧ Hid (Below w.heap.size w wq)) (fun kv _ => 64 - (intOf kv).toNat)
      case atStart => exact ⟨0, by omega, rfl, HR0, HD, HJ, HBL⟩
      case round =>
        clear HR0 HD HJ HBL
        obtain ⟨t, ht, rfl, HRW, HD, HJ, HBL⟩ := hrel
        by_cases hlt : t < 64
        · have tt : (t : Int) < 64 := by omega
          have hl3 := own_lt HRW.out
          have GL := hid hl3.1
          have Q1 := hid (OwnS.cellAt HRW.out (i := m) (by omega) hlt)
          have Q2 := hid (OwnS.cellAt HRW.out (i := m + 1) (by omega) hlt)
          have HSM := hid (show Secs wr wr.heap.size (some ⟨g, 0, none⟩) m (mid m t (mk u) F) from fun _ => ⟨g, 0, rfl, GL.out, fun i hi => own_range HRW.out (by omega)⟩)
          have ML := hid (mid_lt (m := m) (t := t) (M := mk u) HF.out)
          obtain ⟨pv, hpv⟩ : ∃ pv : Nat, pv = mid m t (mk u) F m t ^^^ PP (mid m t (mk u) F) m t := ⟨_, rfl⟩
          obtain ⟨qv, hqv⟩ : ∃ qv : Nat, qv = mid m t (mk u) F (m + 1) t ^^^ QQ (mid m t (mk u) F) m t := ⟨_, rfl⟩
          have PL := hid (show pv < 256 by rw [hpv]; exact GfM.xor_lt (ML.out m t) (PP_lt ML.out m t))
          have QL := hid (show qv < 256 by rw [hqv]; exact GfM.xor_lt (ML.out (m + 1) t) (QQ_lt m t))
          have EX1 := hid (show bits .xor .u8 ((mid m t (mk u) F m t : Nat) : Int) ((PP (mid m t (mk u) F) m t : Nat) : Int) = (pv : Int) by rw [hpv]; exact u8_xor_nat _ _ (ML.out m t) (PP_lt ML.out m t))
          have EX2 := hid (show bits .xor .u8 ((mid m t (mk u) F (m + 1) t : Nat) : Int) ((QQ (mid m t (mk u) F) m t : Nat) : Int) = (qv : Int) by rw [hqv]; exact u8_xor_nat _ _ (ML.out (m + 1) t) (QQ_lt (F := mid m t (mk u) F) m t))
          have HPV := hid (show mk u m = false → pv = mis m (mk u) F t from fun h => by rw [hpv]; exact mid_mis h)
          have HQV := hid (show mk u (m + 1) = false → qv = wei m (mk u) F t from fun h => by rw [hqv]; exact mid_wei h)
          have HG := hid (gl_cases (m := m) (u := u) (by rw [HK.out]; omega))
          clear hpv hqv
          have hcm : m ≤ capR := by omega
          have ti1 : (m : Int) < (m : Int) + 2 := by omega
          have ti2 : (m : Int) + 1 < (m : Int) + 2 := by omega
          have EWR := hid (show IntKind.i64.wrap ((m : Int) + 1) = (m : Int) + 1 from by first | go_num | (simp only [IntKind.wrap]; omega) | (simp [IntKind.wrap]; omega) | (unfold IntKind.wrap; simp; omega) | (unfold IntKind.wrap IntKind.bits IntKind.signed; simp; omega))
          have ETN := hid (show ((m : Int) + 1).toNat = m + 1 by omega)
          clear hl3
          go_wp2_with fail
          refine wp_region_tail (C := fun z => Below wr.heap.size wr z) 12 (by kernel_rfl) (by kernel_rfl) (by kernel_rfl) (Below.refl _ _).drew ?_
          simp only [List.take_succ_cons, List.take_zero, List.drop_succ_cons, List.drop_zero]
          apply wpK_val
          · rfl
          · intro w' hw'
            go_simp
            first | exact rfl | exact ⟨rfl, hw'⟩
          simp only [Act.put, List.setIfInBounds_toArray, List.set_cons_succ, List.set_cons_zero]
          apply wpK_val
          · rfl
          · intro w' hw'
            go_simp
            first | exact rfl | exact ⟨rfl, hw'⟩
          simp only [Act.put, List.setIfInBounds_toArray, List.set_cons_succ, List.set_cons_zero]
          apply wpK_val
          · rfl
          · intro w' hw'
            go_simp
            first | exact rfl | exact ⟨rfl, hw'⟩
          simp only [Act.put, List.setIfInBounds_toArray, List.set_cons_succ, List.set_cons_zero]
          apply wpK_val
          · rfl
          · intro w' hw'
            go_simp
            first | exact rfl | exact ⟨rfl, hw'⟩
          simp only [Act.put, List.setIfInBounds_toArray, List.set_cons_succ, List.set_cons_zero]
          apply wpK_val
          · rfl
          · intro w' hw'
            go_simp
            first | exact rfl | exact ⟨rfl, hw'⟩
          simp only [Act.put, List.setIfInBounds_toArray, List.set_cons_succ, List.set_cons_zero]
          apply wpK_val
          · rfl
          · intro w' hw'
            have hcell := (hw'.cell (p := ⟨g, m * 64 + t, none⟩) GL.out).trans Q1.out
            go_simp
            first | exact rfl | exact ⟨rfl, hw'⟩
          simp only [Act.put, List.setIfInBounds_toArray, List.set_cons_succ, List.set_cons_zero]
          apply wpK_val
          · rfl
          · intro w' hw'
            go_simp
            first | exact rfl | exact ⟨rfl, hw'⟩
          simp only [Act.put, List.setIfInBounds_toArray, List.set_cons_succ, List.set_cons_zero]
          apply wpK_val
          · rfl
          · intro w' hw'
            go_simp
            first | exact rfl | exact ⟨rfl, hw'⟩
          simp only [Act.put, List.setIfInBounds_toArray, List.set_cons_succ, List.set_cons_zero]
          apply wpK_val
          · rfl
          · intro w' hw'
            go_simp
            first | exact rfl | exact ⟨rfl, hw'⟩
          simp only [Act.put, List.setIfInBounds_toArray, List.set_cons_succ, List.set_cons_zero]
          apply wpK_val
          · rfl
          · intro w' hw'
            go_simp
            first | exact rfl | exact ⟨rfl, hw'⟩
          simp only [Act.put, List.setIfInBounds_toArray, List.set_cons_succ, List.set_cons_zero]
          apply wpK_val
          · rfl
          · intro w' hw'
            go_simp
            exact (rP_any (some ⟨g, 0, none⟩) m capR t _ ML.out (by omega) hlt w' ((HSM.out.below hw' (Nat.le_refl _)).more hw'.size)).mono fun e w'' ⟨he, hz⟩ => ⟨he, hz ▸ hw'⟩
          simp only [Act.put, List.setIfInBounds_toArray, List.set_cons_succ, List.set_cons_zero]
          apply wpK_val
          · rfl
          · intro w' hw'
            have h1 : _ := EX1.out
            go_simp
            first | exact rfl | exact ⟨rfl, hw'⟩
          simp only [Act.put, List.setIfInBounds_toArray, List.set_cons_succ, List.set_cons_zero]
          refine wpK_nil fun w4 hw4 => ?_
          go_wp2_with fail
          refine wp_region_tail (C := fun z => Below wr.heap.size wr z) 13 (by kernel_rfl) (by kernel_rfl) (by kernel_rfl) hw4.drew ?_
          simp only [List.take_succ_cons, List.take_zero, List.drop_succ_cons, List.drop_zero]
          apply wpK_val
          · rfl
          · intro w' hw'
            go_simp
            first | exact rfl | exact ⟨rfl, hw'⟩
          simp only [Act.put, List.setIfInBounds_toArray, List.set_cons_succ, List.set_cons_zero]
          apply wpK_val
          · rfl
          · intro w' hw'
            go_simp
            first | exact rfl | exact ⟨rfl, hw'⟩
          simp only [Act.put, List.setIfInBounds_toArray, List.set_cons_succ, List.set_cons_zero]
          apply wpK_val
          · rfl
          · intro w' hw'
            have hq1 : _ := EWR.out
            go_simp
            first | exact rfl | exact ⟨rfl, hw'⟩
          simp only [Act.put, List.setIfInBounds_toArray, List.set_cons_succ, List.set_cons_zero]
          apply wpK_val
          · rfl
          · intro w' hw'
            go_simp
            first | exact rfl | exact ⟨rfl, hw'⟩
          simp only [Act.put, List.setIfInBounds_toArray, List.set_cons_succ, List.set_cons_zero]
          apply wpK_val
          · rfl
          · intro w' hw'
            have hq2 : _ := ETN.out
            go_simp
            first | exact rfl | exact ⟨rfl, hw'⟩
          simp only [Act.put, List.setIfInBounds_toArray, List.set_cons_succ, List.set_cons_zero]
          apply wpK_val
          · rfl
          · intro w' hw'
            go_simp
            first | exact rfl | exact ⟨rfl, hw'⟩
          simp only [Act.put, List.setIfInBounds_toArray, List.set_cons_succ, List.set_cons_zero]
          apply wpK_val
          · rfl
          · intro w' hw'
            have hcell := (hw'.cell (p := ⟨g, (m + 1) * 64 + t, none⟩) GL.out).trans Q2.out
            go_simp
            first | exact rfl | exact ⟨rfl, hw'⟩
          simp only [Act.put, List.setIfInBounds_toArray, List.set_cons_succ, List.set_cons_zero]
          apply wpK_val
          · rfl
          · intro w' hw'
            go_simp
            first | exact rfl | exact ⟨rfl, hw'⟩
          simp only [Act.put, List.setIfInBounds_toArray, List.set_cons_succ, List.set_cons_zero]
          apply wpK_val
          · rfl
          · intro w' hw'
            go_simp
            first | exact rfl | exact ⟨rfl, hw'⟩
          simp only [Act.put, List.setIfInBounds_toArray, List.set_cons_succ, List.set_cons_zero]
          apply wpK_val
          · rfl
          · intro w' hw'
            go_simp
            first | exact rfl | exact ⟨rfl, hw'⟩
          simp only [Act.put, List.setIfInBounds_toArray, List.set_cons_succ, List.set_cons_zero]
          apply wpK_val
          · rfl
          · intro w' hw'
            go_simp
            first | exact rfl | exact ⟨rfl, hw'⟩
          simp only [Act.put, List.setIfInBounds_toArray, List.set_cons_succ, List.set_cons_zero]
          apply wpK_val
          · rfl
          · intro w' hw'
            go_simp
            exact (rQ_any (some ⟨g, 0, none⟩) m capR t _ ML.out (by omega) hlt w' ((HSM.out.below hw' (Nat.le_refl _)).more hw'.size)).mono fun e w'' ⟨he, q, hz⟩ => ⟨he, by rw [hz]; exact below_drewN hw' q⟩
          simp only [Act.put, List.setIfInBounds_toArray, List.set_cons_succ, List.set_cons_zero]
          apply wpK_val
          · rfl
          · intro w' hw'
            have h1 : _ := EX2.out
            go_simp
            first | exact rfl | exact ⟨rfl, hw'⟩
          simp only [Act.put, List.setIfInBounds_toArray, List.set_cons_succ, List.set_cons_zero]
          refine wpK_nil fun w5 hw5 => ?_
          have HR5 := hid (OwnS.below HRW.out hw5 (Nat.le_refl _))
          have HD5 := hid (HD.out.below hw5)
          have HJ5 := hid (HJ.out.below hw5 (by have := GL.out; have := G1.out; omega))
          have S15 := hid (show w'.heap.size ≤ w5.heap.size by have := GL.out; have := G1.out; have := hw5.size; omega)
          have HB5 := hid (HBL.out.trans (hw5.mono HBL.out.size))
          clear HRW HD HJ HBL hw5 hw4 Q1 Q2 HSM EX1 EX2 EWR ETN ML GL
          rcases HG.out with h0 | ⟨x, h0, hxm⟩ | ⟨x, y, h0, hxy, hym⟩
          · have D5 : OwnZ w5 w2.heap.size u9 [] := by have h := HD5.out; rw [h0] at h; exact h
            obtain ⟨A9, c9, e9, -, -, -, -⟩ := D5.any
            have e9 : u9 = .slice A9 0 c9 := e9
            subst e9
            have HE := hid (mid_step0 (t := t) (F := F) h0)
            go_wp2_with fail
            exact ⟨⟨t + 1, by omega, by go_num, hid (by rw [HE.out]; exact HR5.out), HD5, HJ5, HB5⟩, by simp [intOf]; omega⟩
          · have D5 : OwnZ w5 w2.heap.size u9 [(x : Int)] := by have h := HD5.out; rw [h0] at h; exact h
            obtain ⟨A9, c9, e9, hc9, -, -, hI9⟩ := D5.any
            have e9 : u9 = .slice A9 1 c9 := e9
            subst e9
            obtain ⟨b9, o9, rfl, hl9, hr9⟩ := hI9 (by simp)
            have d0 : w5.cell? ⟨b9, o9, none⟩ = some (.int .i64 (x : Int)) := hr9 0 (by simp)
            have D0 := hid d0
            have L9 := hid hl9
            have BN := hid (show g ≠ b9 from fun e => by have := (World.ownsRow.lt D5 b9 rfl).1; have := G2.out; omega)
            clear hr9 hI9 D5 hc9 hl9
            have tx : (x : Int) < (m : Int) + 2 := by omega
            have X0 := hid h0
            cases hbp : mk u m with
            | true =>
              have HV := hid (mid_step1 (t := t) (F := F) h0 (v := sing x qv) (by rw [HQV.out (one_out (by rw [HK.out]; omega) h0 hbp)]; exact (one_P h0 hbp).symm))
              clear h0
              rw [hbp] at HWP
              have HP10 := HWP.out
              subst HP10
              clear d0
              go_wp2_with fail
              refine wp_region_put (C := fun bb z => z.cell? ⟨b9, o9, none⟩ = some (.int .i64 (x : Int)) ∧ (match bb with | false => Below w5.heap.size w5 z | true => ∃ wz, Below w5.heap.size w5 wz ∧ z = wz.setCell ⟨g, x * 64 + t, none⟩ (.int .u8 (sing x qv : Nat)))) 12 13 (by omega) (by kernel_rfl) (by kernel_rfl) (by kernel_rfl) ⟨D0.out, (Below.refl _ _).drew⟩ ?_
              simp only [List.take_succ_cons, List.take_zero, List.drop_succ_cons, List.drop_zero]
              apply wpS_val
              · decide
              · rfl
              · intro bb w' hw'
                go_simp
                first | exact rfl | exact ⟨rfl, hw'⟩
              simp only [Act.put, List.setIfInBounds_toArray, List.set_cons_succ, List.set_cons_zero]
              apply wpS_val
              · decide
              · rfl
              · intro bb w' hw'
                go_simp
                first | exact rfl | exact ⟨rfl, hw'⟩
              simp only [Act.put, List.setIfInBounds_toArray, List.set_cons_succ, List.set_cons_zero]
              apply wpS_val
              · decide
              · rfl
              · intro bb w' hw'
                go_simp
                first | exact rfl | exact ⟨rfl, hw'⟩
              simp only [Act.put, List.setIfInBounds_toArray, List.set_cons_succ, List.set_cons_zero]
              apply wpS_val
              · decide
              · rfl
              · intro bb w' hw'
                have hcell : _ := hw'.1
                go_simp
                first | exact rfl | exact ⟨rfl, hw'⟩
              simp only [Act.put, List.setIfInBounds_toArray, List.set_cons_succ, List.set_cons_zero]
              apply wpS_val
              · decide
              · rfl
              · intro bb w' hw'
                go_simp
                first | exact rfl | exact ⟨rfl, hw'⟩
              simp only [Act.put, List.setIfInBounds_toArray, List.set_cons_succ, List.set_cons_zero]
              apply wpS_val
              · decide
              · rfl
              · intro bb w' hw'
                go_simp
                first | exact rfl | exact ⟨rfl, hw'⟩
              simp only [Act.put, List.setIfInBounds_toArray, List.set_cons_succ, List.set_cons_zero]
              apply wpS_val
              · decide
              · rfl
              · intro bb w' hw'
                go_simp
                first | exact rfl | exact ⟨rfl, hw'⟩
              simp only [Act.put, List.setIfInBounds_toArray, List.set_cons_succ, List.set_cons_zero]
              apply wpS_val
              · decide
              · rfl
              · intro bb w' hw'
                go_simp
                first | exact rfl | exact ⟨rfl, hw'⟩
              simp only [Act.put, List.setIfInBounds_toArray, List.set_cons_succ, List.set_cons_zero]
              apply wpS_val
              · decide
              · rfl
              · intro bb w' hw'
                have hcell : _ := hw'.1
                go_simp
                first | exact rfl | exact ⟨rfl, hw'⟩
              simp only [Act.put, List.setIfInBounds_toArray, List.set_cons_succ, List.set_cons_zero]
              apply wpS_val
              · decide
              · rfl
              · intro bb w' hw'
                go_simp
                exact (rsingle_any qv x QL.out w').mono fun e w'' ⟨he, hz⟩ => ⟨he, hz ▸ hw'⟩
              simp only [Act.put, List.setIfInBounds_toArray, List.set_cons_succ, List.set_cons_zero]
              apply wpS_val
              · decide
              · rfl
              · intro bb w' hw'
                go_simp
                first | exact rfl | exact ⟨rfl, hw'⟩
              simp only [Act.put, List.setIfInBounds_toArray, List.set_cons_succ, List.set_cons_zero]
              apply wpS_val
              · decide
              · rfl
              · intro bb w' hw'
                go_simp
                first | exact rfl | exact ⟨rfl, hw'⟩
              simp only [Act.put, List.setIfInBounds_toArray, List.set_cons_succ, List.set_cons_zero]
              apply wpS_put
              · rfl
              · rfl
              · intro w' hw'
                have hw2 : Below w5.heap.size w5 w' := hw'.2
                have hq := OwnS.below HR5.out hw2 (Nat.le_refl _)
                have d3 := World.ownsRow.frozenAt hq (x * 64 + t)
                have d4 := OwnS.cellAt hq (i := x) (k := t) (by omega) hlt
                go_simp
                exact ⟨rfl, (OwnS.put (i := x) hq hlt (sing x qv)).2.cell hw'.1 (fun e' => BN.out (by injection e' with e'; first | exact e'.symm | exact e')), w', hw2, rfl⟩
              simp only [Act.put, List.setIfInBounds_toArray, List.set_cons_succ, List.set_cons_zero]
              refine wpS_nil fun w6 hw6 => ?_
              obtain ⟨-, wz, hz, rfl⟩ := hw6
              have HR6 := hid (OwnS.below HR5.out hz (Nat.le_refl _))
              have HD6 := hid (HD5.out.below hz)
              have HJ6 := hid (HJ5.out.below hz S15.out)
              have HB6 := hid (HB5.out.trans (hz.mono HB5.out.size))
              obtain ⟨o6, g6⟩ := OwnS.put (i := x) HR6.out hlt (sing x qv)
              rw [← HV.out] at o6
              have R6 := hid o6
              have D6 := hid (HD6.out.only g6 G2.out)
              have J6 := hid (HJ6.out.only g6 G1.out)
              have B6 := hid (HB6.out.trans (only_Below g6 (Nat.le_trans HB.out.size G1.out) HB6.out.size))
              clear o6 g6 hz
              go_wp2_with fail
              go_roundw
              case rel => exact ⟨t + 1, by omega, by go_num, R6, D6, J6, B6⟩
              case measure => simp [intOf]; omega
            | false =>
              have HV := hid (mid_step1 (t := t) (F := F) h0 (v := pv) (by rw [HPV.out hbp]; exact (one_D h0 hbp).symm))
              clear h0
              rw [hbp] at HWP
              have HP10 := HWP.out
              subst HP10
              have d3 := World.ownsRow.frozenAt HR5.out (x * 64 + t)
              have d4 := OwnS.cellAt HR5.out (i := x) (k := t) (by omega) hlt
              obtain ⟨o6, g6⟩ := OwnS.put (i := x) HR5.out hlt pv
              rw [← HV.out] at o6
              have R6 := hid o6
              have D6 := hid (HD5.out.only g6 G2.out)
              have J6 := hid (HJ5.out.only g6 G1.out)
              have B6 := hid (HB5.out.trans (only_Below g6 (Nat.le_trans HB.out.size G1.out) HB5.out.size))
              clear o6 g6
              go_wp2_with fail
              exact ⟨⟨t + 1, by omega, by go_num, R6, D6, J6, B6⟩, by simp [intOf]; omega⟩
          · have D5 : OwnZ w5 w2.heap.size u9 [(x : Int), (y : Int)] := by have h := HD5.out; rw [h0] at h; exact h
            obtain ⟨A9, c9, e9, hc9, -, -, hI9⟩ := D5.any
            have e9 : u9 = .slice A9 2 c9 := e9
            subst e9
            obtain ⟨b9, o9, rfl, hl9, hr9⟩ := hI9 (by simp)
            have D0 := hid (show w5.cell? ⟨b9, o9, none⟩ = some (.int .i64 (x : Int)) from hr9 0 (by simp))
            have D1 := hid (show w5.cell? ⟨b9, o9 + 1, none⟩ = some (.int .i64 (y : Int)) from hr9 1 (by simp))
            have L9 := hid hl9
            have BN := hid (show g ≠ b9 from fun e => by have := (World.ownsRow.lt D5 b9 rfl).1; have := G2.out; omega)
            clear hr9 hI9 D5 hc9 hl9
            have tx : (x : Int) < (m : Int) + 2 := by omega
            have ty : (y : Int) < (m : Int) + 2 := by omega
            have hm0 := two_out (z := m) (by rw [HK.out]; omega) h0 hxy (Nat.le_refl _)
            have hm1 := two_out (z := m + 1) (by rw [HK.out]; omega) h0 hxy (by omega)
            have h2 := two_D (t := t) (F := F) h0 (by omega)
            rw [← HPV.out hm0, ← HQV.out hm1] at h2
            have HV := hid (mid_step2 (t := t) (F := F) h0 h2.1.symm h2.2.symm)
            clear h0 h2 hm0 hm1
            go_wp2_with fail
            refine wp_region_tail (C := fun z => Below w5.heap.size w5 z) 14 (by kernel_rfl) (by kernel_rfl) (by kernel_rfl) (Below.refl _ _).drew ?_
            simp only [List.take_succ_cons, List.take_zero, List.drop_succ_cons, List.drop_zero]
            apply wpK_val
            · rfl
            · intro w' hw'
              go_simp
              first | exact rfl | exact ⟨rfl, hw'⟩
            simp only [Act.put, List.setIfInBounds_toArray, List.set_cons_succ, List.set_cons_zero]
            apply wpK_val
            · rfl
            · intro w' hw'
              go_simp
              first | exact rfl | exact ⟨rfl, hw'⟩
            simp only [Act.put, List.setIfInBounds_toArray, List.set_cons_succ, List.set_cons_zero]
            apply wpK_val
            · rfl
            · intro w' hw'
              go_simp
              first | exact rfl | exact ⟨rfl, hw'⟩
            simp only [Act.put, List.setIfInBounds_toArray, List.set_cons_succ, List.set_cons_zero]
            apply wpK_val
            · rfl
            · intro w' hw'
              go_simp
              first | exact rfl | exact ⟨rfl, hw'⟩
            simp only [Act.put, List.setIfInBounds_toArray, List.set_cons_succ, List.set_cons_zero]
            apply wpK_val
            · rfl
            · intro w' hw'
              have hcell := (hw'.cell (p := ⟨b9, o9, none⟩) L9.out).trans D0.out
              go_simp
              first | exact rfl | exact ⟨rfl, hw'⟩
            simp only [Act.put, List.setIfInBounds_toArray, List.set_cons_succ, List.set_cons_zero]
            apply wpK_val
            · rfl
            · intro w' hw'
              go_simp
              first | exact rfl | exact ⟨rfl, hw'⟩
            simp only [Act.put, List.setIfInBounds_toArray, List.set_cons_succ, List.set_cons_zero]
            apply wpK_val
            · rfl
            · intro w' hw'
              go_simp
              first | exact rfl | exact ⟨rfl, hw'⟩
            simp only [Act.put, List.setIfInBounds_toArray, List.set_cons_succ, List.set_cons_zero]
            apply wpK_val
            · rfl
            · intro w' hw'
              have hcell := (hw'.cell (p := ⟨b9, o9 + 1, none⟩) L9.out).trans D1.out
              go_simp
              first | exact rfl | exact ⟨rfl, hw'⟩
            simp only [Act.put, List.setIfInBounds_toArray, List.set_cons_succ, List.set_cons_zero]
            apply wpK_val
            · rfl
            · intro w' hw'
              go_simp
              exact (rpair_any pv qv x y PL.out QL.out (by omega) (by omega) (by omega) w').mono fun e w'' ⟨he, hz⟩ => ⟨he, hz ▸ hw'⟩
            simp only [Act.put, List.setIfInBounds_toArray, List.set_cons_succ, List.set_cons_zero]
            apply wpK_val
            · rfl
            · intro w' hw'
              go_simp
              first | exact rfl | exact ⟨rfl, hw'⟩
            simp only [Act.put, List.setIfInBounds_toArray, List.set_cons_succ, List.set_cons_zero]
            apply wpK_val
            · rfl
            · intro w' hw'
              go_simp
              first | exact rfl | exact ⟨rfl, hw'⟩
            simp only [Act.put, List.setIfInBounds_toArray, List.set_cons_succ, List.set_cons_zero]
            apply wpK_val
            · rfl
            · intro w' hw'
              go_simp
              first | exact rfl | exact ⟨rfl, hw'⟩
            simp only [Act.put, List.setIfInBounds_toArray, List.set_cons_succ, List.set_cons_zero]
            apply wpK_val
            · rfl
            · intro w' hw'
              go_simp
              first | exact rfl | exact ⟨rfl, hw'⟩
            simp only [Act.put, List.setIfInBounds_toArray, List.set_cons_succ, List.set_cons_zero]
            apply wpK_val
            · rfl
            · intro w' hw'
              go_simp
              first | exact rfl | exact ⟨rfl, hw'⟩
            simp only [Act.put, List.setIfInBounds_toArray, List.set_cons_succ, List.set_cons_zero]
            refine wpK_nil fun w6 hw6 => ?_
            have HR6 := hid (OwnS.below HR5.out hw6 (Nat.le_refl _))
            have HD6 := hid (HD5.out.below hw6)
            have HJ6 := hid (HJ5.out.below hw6 S15.out)
            have HB6 := hid (HB5.out.trans (hw6.mono HB5.out.size))
            have d0 := (hw6.cell (p := ⟨b9, o9, none⟩) L9.out).trans D0.out
            have D1 := hid ((hw6.cell (p := ⟨b9, o9 + 1, none⟩) L9.out).trans D1.out)
            clear D0 HR5 HD5 HJ5 HB5 hw6 S15
            revert HV
            generalize pairX x y pv qv = av
            generalize av ^^^ pv = bv
            intro HV
            have d3 := World.ownsRow.frozenAt HR6.out (x * 64 + t)
            have d4 := OwnS.cellAt HR6.out (i := x) (k := t) (by omega) hlt
            go_upto_region 28 with (fail)
            obtain ⟨o7, g7⟩ := OwnS.put (i := x) HR6.out hlt av
            have R7 := hid o7
            have D7 := hid (HD6.out.only g7 G2.out)
            have J7 := hid (HJ6.out.only g7 G1.out)
            have B7 := hid (HB6.out.trans (only_Below g7 (Nat.le_trans HB.out.size G1.out) HB6.out.size))
            have d1 := g7.cell D1.out (fun e' => BN.out (by injection e' with e'; first | exact e'.symm | exact e'))
            clear o7 g7 d0 d3 d4 D1
            revert R7 D7 J7 B7 d1
            generalize World.setCell w6 ⟨g, x * 64 + t, none⟩ _ = w7
            intro R7 D7 J7 B7 d1
            clear HR6 HD6 HJ6 HB6
            have d3 := World.ownsRow.frozenAt R7.out (y * 64 + t)
            have d4 := OwnS.cellAt R7.out (i := y) (k := t) (by omega) hlt
            obtain ⟨o8, g8⟩ := OwnS.put (i := y) R7.out hlt bv
            rw [← HV.out] at o8
            have R8 := hid o8
            have D8 := hid (D7.out.only g8 G2.out)
            have J8 := hid (J7.out.only g8 G1.out)
            have B8 := hid (B7.out.trans (only_Below g8 (Nat.le_trans HB.out.size G1.out) B7.out.size))
            clear o8 g8
            go_wp2_with fail
            exact ⟨⟨t + 1, by omega, by go_num, R8, D8, J8, B8⟩, by simp [intOf]; omega⟩
        · have e64 := hid (show t = 64 by omega)
          have tf : decide ((t : Int) < 64) = false := by simp; omega
          rw [e64.out] at HRW
          obtain ⟨w8, hw8⟩ : ∃ z : World, z = wr := ⟨_, rfl⟩
          subst hw8
          have GLT := hid (mid_lt (m := m) (t := 64) (M := mk u) HF.out)
          obtain ⟨G, hG⟩ : ∃ G, G = mid m 64 (mk u) F := ⟨_, rfl⟩
          rw [← hG] at HRW GLT
          have HGE := hid hG
          have R0 := hid (show OwnS w8 w'.heap.size (.slice (some ⟨g, 0, none⟩) (m + 2) capR) (m + 2) (mendP m (mk (u.take 0)) G) by
            rw [List.take_zero, mendP_none (by cases h : mk [] m with | false => rfl | true => exact absurd (mk_iff.1 h) (by simp)) (by cases h : mk [] (m + 1) with | false => rfl | true => exact absurd (mk_iff.1 h) (by simp))]
            exact HRW.out)
          clear hG HRW HD ht hlt
          go_wp2_with fail
          clear tf
          go_loopw [17] (fun iv wq => ∃ i : Nat, i ≤ k + 1 ∧ iv = .int .i64 i ∧ Hid (OwnS wq w'.heap.size (.slice (some ⟨g, 0, none⟩) (m + 2) capR) (m + 2) (mendP m (mk (u.take i)) G)) ∧ Hid (IntL wq w'.heap.size (some ⟨b, o, none⟩) u) ∧ Hid (Below w.heap.size w wq)) (fun iv _ => k + 1 - (intOf iv).toNat)
          case atStart => exact ⟨0, by omega, rfl, R0, HJ, HBL⟩
          case round =>
            clear R0 HJ HBL
            obtain ⟨i, hi, rfl, HRW, HJ, HBL⟩ := hrel
            by_cases hlt : i < k + 1
            · have ti : (i : Int) < (k : Int) + 1 := by omega
              obtain ⟨w9, hw9⟩ : ∃ z : World, z = wr := ⟨_, rfl⟩
              subst hw9
              have hiu : i < u.length := by rw [HK.out]; exact hlt
              have hx := HR.out (u.getD i 0) (by rw [List.getD_eq_getElem?_getD, List.getElem?_eq_getElem hiu]; exact List.getElem_mem _)
              have HT := hid (show u.take (i + 1) = u.take i ++ [u.getD i 0] by
                rw [List.take_add_one, List.getElem?_eq_getElem hiu, List.getD_eq_getElem?_getD, List.getElem?_eq_getElem hiu]; rfl)
              have CC := hid (show ∀ wz, IntL wz w'.heap.size (some ⟨b, o, none⟩) u → wz.cell? ⟨b, o + i, none⟩ = some (.int .i64 (u.getD i 0)) from fun wz hz => by
                obtain ⟨b2, o2, e2, hr2⟩ := hz.at (by omega)
                simp only [Option.some.injEq, Addr.mk.injEq, and_true] at e2
                obtain ⟨rfl, rfl⟩ := e2
                exact hr2 i hiu)
              have hxnn := hx.1
              revert HT CC hx
              obtain ⟨x, hxx⟩ : ∃ x : Nat, u.getD i 0 = (x : Int) := ⟨(u.getD i 0).toNat, by omega⟩
              clear hxnn
              rw [hxx]
              clear hxx
              intro hx HT CC
              have hxm : x < m + 2 := by omega
              clear hx hiu
              revert HT HRW
              generalize u.take i = l
              intro HRW HT
              have R1 := hid (show OwnS w9 w'.heap.size (.slice (some ⟨g, 0, none⟩) (m + 2) capR) (m + 2) (fin m 0 (mk l) (mk (l ++ [(x : Int)])) G) by rw [fin_zero]; exact HRW.out)
              clear HRW
              go_wp2_with fail
              go_loopw [18] (fun kv wq => ∃ t : Nat, t ≤ 64 ∧ kv = .int .i64 t ∧ Hid (OwnS wq w'.heap.size (.slice (some ⟨g, 0, none⟩) (m + 2) capR) (m + 2) (fin m t (mk l) (mk (l ++ [(x : Int)])) G)) ∧ Hid (IntL wq w'.heap.size (some ⟨b, o, none⟩) u) ∧ Hid (Below w.heap.size w wq)) (fun kv _ => 64 - (intOf kv).toNat)
              case atStart => exact ⟨0, by omega, rfl, R1, HJ, HBL⟩
              case round =>
                clear R1 HJ HBL
                obtain ⟨t, ht, rfl, HRW, HJ, HBL⟩ := hrel
                by_cases hlt : t < 64
                · have tt : (t : Int) < 64 := by omega
                  have c1 := CC.out wr HJ.out
                  have YL := hid (fin_lt (m := m) (t := t) (M := mk l) (M' := mk (l ++ [(x : Int)])) GLT.out)
                  have EWR := hid (show IntKind.i64.wrap ((m : Int) + 1) = (m : Int) + 1 from by first | go_num | (simp only [IntKind.wrap]; omega) | (simp [IntKind.wrap]; omega) | (unfold IntKind.wrap; simp; omega) | (unfold IntKind.wrap IntKind.bits IntKind.signed; simp; omega))
                  have ETN := hid (show ((m : Int) + 1).toNat = m + 1 by omega)
                  have hcm : m ≤ capR := by have := (own_lt HRW.out).2.2; omega
                  rcases (by omega : x < m ∨ x = m ∨ x = m + 1) with hxlt | rfl | rfl
                  · have f1 : decide ((x : Int) = (m : Int)) = false := by simp; omega
                    have f2 : decide ((x : Int) = (m : Int) + 1) = false := by simp; omega
                    have HE := hid (fin_step0 (t := t) (l := l) (G := G) hxlt)
                    have R2 := hid (show OwnS wr w'.heap.size (.slice (some ⟨g, 0, none⟩) (m + 2) capR) (m + 2) (fin m (t + 1) (mk l) (mk (l ++ [(x : Int)])) G) by rw [HE.out]; exact HRW.out)
                    go_wp2_with fail
                    go_roundw
                    case rel => exact ⟨t + 1, by omega, by go_num, R2, HJ, HBL⟩
                    case measure => simp [intOf]; omega
                  · have f2 : decide ((x : Int) = (x : Int) + 1) = false := by simp; omega
                    have HE := hid (fin_stepP (m := x) (t := t) (l := l) (G := G))
                    have ti1 : (x : Int) < (x : Int) + 2 := by omega
                    have VL := hid (PP_lt GLT.out x t)
                    have VE := hid (fun bb v => (yb_PP (bb := bb) (Y := fin x t (mk l) (mk (l ++ [(x : Int)])) G) (j := x) (t := t) (v := v) (k := t) (Nat.le_refl x)).trans (fin_PP (m := x) (t := t) (k := t) (M := mk l) (M' := mk (l ++ [(x : Int)])) (G := G)))
                    revert HE YL HRW VE VL
                    generalize fin x t (mk l) (mk (l ++ [(x : Int)])) G = Y
                    generalize PP G x t = v
                    intro HRW YL HE VL VE
                    go_wp2_with fail
                    refine wp_region_put (C := fun bb z => OwnS z w'.heap.size (.slice (some ⟨g, 0, none⟩) (x + 2) capR) (x + 2) (yb bb Y x t v) ∧ IntL z w'.heap.size (some ⟨b, o, none⟩) u ∧ Below w.heap.size w z ∧ w'.heap.size ≤ z.heap.size) 10 11 (by omega) (by kernel_rfl) (by kernel_rfl) (by kernel_rfl) ⟨OwnS.drew HRW.out, HJ.out.below (B' := w'.heap.size) (Below.refl _ _).drew (Nat.le_refl _), HBL.out.drew, by have := own_lt HRW.out; show w'.heap.size ≤ wr.heap.size; omega⟩ ?_
                    simp only [List.take_succ_cons, List.take_zero, List.drop_succ_cons, List.drop_zero]
                    apply wpS_val
                    · decide
                    · rfl
                    · intro bb w' hw'
                      go_simp
                      first | exact rfl | exact ⟨rfl, hw'⟩
                    simp only [Act.put, List.setIfInBounds_toArray, List.set_cons_succ, List.set_cons_zero]
                    apply wpS_val
                    · decide
                    · rfl
                    · intro bb w' hw'
                      go_simp
                      first | exact rfl | exact ⟨rfl, hw'⟩
                    simp only [Act.put, List.setIfInBounds_toArray, List.set_cons_succ, List.set_cons_zero]
                    apply wpS_val
                    · decide
                    · rfl
                    · intro bb w' hw'
                      go_simp
                      first | exact rfl | exact ⟨rfl, hw'⟩
                    simp only [Act.put, List.setIfInBounds_toArray, List.set_cons_succ, List.set_cons_zero]
                    apply wpS_val
                    · decide
                    · rfl
                    · intro bb w' hw'
                      go_simp
                      first | exact rfl | exact ⟨rfl, hw'⟩
                    simp only [Act.put, List.setIfInBounds_toArray, List.set_cons_succ, List.set_cons_zero]
                    apply wpS_val
                    · decide
                    · rfl
                    · intro bb w' hw'
                      go_simp
                      first | exact rfl | exact ⟨rfl, hw'⟩
                    simp only [Act.put, List.setIfInBounds_toArray, List.set_cons_succ, List.set_cons_zero]
                    apply wpS_val
                    · decide
                    · rfl
                    · intro bb w' hw'
                      go_simp
                      first | exact rfl | exact ⟨rfl, hw'⟩
                    simp only [Act.put, List.setIfInBounds_toArray, List.set_cons_succ, List.set_cons_zero]
                    apply wpS_val
                    · decide
                    · rfl
                    · intro bb w' hw'
                      go_simp
                      first | exact rfl | exact ⟨rfl, hw'⟩
                    simp only [Act.put, List.setIfInBounds_toArray, List.set_cons_succ, List.set_cons_zero]
                    apply wpS_val
                    · decide
                    · rfl
                    · intro bb w6 hw6
                      have HS6 := (OwnS.secs hw6.1).1
                      go_simp
                      exact (rP_any (some ⟨g, 0, none⟩) x capR t _ (yb_lt (bb := bb) (j := x) (t := t) YL.out VL.out) (by omega) hlt w6 (fun hz => by obtain ⟨b1, o1, e1, hl1, hr1⟩ := HS6 (by omega); exact ⟨b1, o1, e1, hl1, fun i hi => hr1 i (by omega)⟩)).mono fun e w7 ⟨he, hz⟩ => ⟨by rw [he, VE.out bb v], hz ▸ hw6⟩
                    simp only [Act.put, List.setIfInBounds_toArray, List.set_cons_succ, List.set_cons_zero]
                    apply wpS_val
                    · decide
                    · rfl
                    · intro bb w' hw'
                      go_simp
                      first | exact rfl | exact ⟨rfl, hw'⟩
                    simp only [Act.put, List.setIfInBounds_toArray, List.set_cons_succ, List.set_cons_zero]
                    apply wpS_val
                    · decide
                    · rfl
                    · intro bb w' hw'
                      go_simp
                      first | exact rfl | exact ⟨rfl, hw'⟩
                    simp only [Act.put, List.setIfInBounds_toArray, List.set_cons_succ, List.set_cons_zero]
                    apply wpS_put
                    · rfl
                    · rfl
                    · intro w6 hw6
                      have hq : OwnS w6 w'.heap.size (.slice (some ⟨g, 0, none⟩) (x + 2) capR) (x + 2) Y := hw6.1
                      have d3 := World.ownsRow.frozenAt hq (x * 64 + t)
                      have d4 := OwnS.cellAt hq (i := x) (k := t) (by omega) hlt
                      obtain ⟨o7, g7⟩ := OwnS.put (i := x) hq hlt v
                      go_simp
                      first | exact ⟨rfl, o7, hw6.2.1.only g7 G1.out, hw6.2.2.1.trans (only_Below g7 (Nat.le_trans HB.out.size G1.out) hw6.2.2.1.size)⟩ | exact ⟨rfl, o7, hw6.2.1.only g7 G1.out, hw6.2.2.1.trans (only_Below g7 (Nat.le_trans HB.out.size G1.out) hw6.2.2.1.size), Nat.le_trans hw6.2.2.2 g7.size⟩
                    simp only [Act.put, List.setIfInBounds_toArray, List.set_cons_succ, List.set_cons_zero]
                    refine wpS_nil fun w6 hw6 => ?_
                    have c1 := CC.out w6 hw6.2.1
                    have R2 := hid (show OwnS w6 w'.heap.size (.slice (some ⟨g, 0, none⟩) (x + 2) capR) (x + 2) (fin x (t + 1) (mk l) (mk (l ++ [(x : Int)])) G) by rw [HE.out]; exact hw6.1)
                    have J2 := hid hw6.2.1
                    have B2' := hid hw6.2.2.1
                    clear hw6 HRW HJ HBL
                    go_wp2_with fail
                    go_roundw
                    case rel => exact ⟨t + 1, by omega, by go_num, R2, J2, B2'⟩
                    case measure => simp [intOf]; omega
                  · have f1 : decide ((m : Int) + 1 = (m : Int)) = false := by simp; omega
                    have HE := hid (fin_stepQ (m := m) (t := t) (l := l) (G := G))
                    have ti1 : (m : Int) + 1 < (m : Int) + 2 := by omega
                    have VL := hid (QQ_lt (F := G) m t)
                    have VE := hid (fun bb v => (yb_QQ (bb := bb) (m := m) (Y := fin m t (mk l) (mk (l ++ [((m + 1 : Nat) : Int)])) G) (j := m + 1) (t := t) (v := v) (k := t) (Nat.le_succ m)).trans (fin_QQ (m := m) (t := t) (k := t) (M := mk l) (M' := mk (l ++ [((m + 1 : Nat) : Int)])) (G := G)))
                    revert HE YL HRW VE VL
                    generalize fin m t (mk l) (mk (l ++ [((m + 1 : Nat) : Int)])) G = Y
                    generalize QQ G m t = v
                    intro HRW YL HE VL VE
                    go_wp2_with fail
                    refine wp_region_put (C := fun bb z => OwnS z w'.heap.size (.slice (some ⟨g, 0, none⟩) (m + 2) capR) (m + 2) (yb bb Y (m + 1) t v) ∧ IntL z w'.heap.size (some ⟨b, o, none⟩) u ∧ Below w.heap.size w z ∧ w'.heap.size ≤ z.heap.size) 11 12 (by omega) (by kernel_rfl) (by kernel_rfl) (by kernel_rfl) ⟨OwnS.drew HRW.out, HJ.out.below (B' := w'.heap.size) (Below.refl _ _).drew (Nat.le_refl _), HBL.out.drew, by have := own_lt HRW.out; show w'.heap.size ≤ wr.heap.size; omega⟩ ?_
                    simp only [List.take_succ_cons, List.take_zero, List.drop_succ_cons, List.drop_zero]
                    apply wpS_val
                    · decide
                    · rfl
                    · intro bb w' hw'
                      go_simp
                      first | exact rfl | exact ⟨rfl, hw'⟩
                    simp only [Act.put, List.setIfInBounds_toArray, List.set_cons_succ, List.set_cons_zero]
                    apply wpS_val
                    · decide
                    · rfl
                    · intro bb w' hw'
                      go_simp
                      first | exact rfl | exact ⟨rfl, hw'⟩
                    simp only [Act.put, List.setIfInBounds_toArray, List.set_cons_succ, List.set_cons_zero]
                    apply wpS_val
                    · decide
                    · rfl
                    · intro bb w' hw'
                      have hq1 : _ := EWR.out
                      go_simp
                      first | exact rfl | exact ⟨rfl, hw'⟩
                    simp only [Act.put, List.setIfInBounds_toArray, List.set_cons_succ, List.set_cons_zero]
                    apply wpS_val
                    · decide
                    · rfl
                    · intro bb w' hw'
                      go_simp
                      first | exact rfl | exact ⟨rfl, hw'⟩
                    simp only [Act.put, List.setIfInBounds_toArray, List.set_cons_succ, List.set_cons_zero]
                    apply wpS_val
                    · decide
                    · rfl
                    · intro bb w' hw'
                      go_simp
                      first | exact rfl | exact ⟨rfl, hw'⟩
                    simp only [Act.put, List.setIfInBounds_toArray, List.set_cons_succ, List.set_cons_zero]
                    apply wpS_val
                    · decide
                    · rfl
                    · intro bb w' hw'
                      go_simp
                      first | exact rfl | exact ⟨rfl, hw'⟩
                    simp only [Act.put, List.setIfInBounds_toArray, List.set_cons_succ, List.set_cons_zero]
                    apply wpS_val
                    · decide
                    · rfl
                    · intro bb w' hw'
                      go_simp
                      first | exact rfl | exact ⟨rfl, hw'⟩
                    simp only [Act.put, List.setIfInBounds_toArray, List.set_cons_succ, List.set_cons_zero]
                    apply wpS_val
                    · decide
                    · rfl
                    · intro bb w' hw'
                      go_simp
                      first | exact rfl | exact ⟨rfl, hw'⟩
                    simp only [Act.put, List.setIfInBounds_toArray, List.set_cons_succ, List.set_cons_zero]
                    apply wpS_val
                    · decide
                    · rfl
                    · intro bb w6 hw6
                      have HS6 := (OwnS.secs hw6.1).1
                      go_simp
                      exact (rQ_any (some ⟨g, 0, none⟩) m capR t _ (yb_lt (bb := bb) (j := m + 1) (t := t) YL.out VL.out) (by omega) hlt w6 (fun hz => by obtain ⟨b1, o1, e1, hl1, hr1⟩ := HS6 (by omega); exact ⟨b1, o1, e1, hl1, fun i hi => hr1 i (by omega)⟩)).mono fun e w7 ⟨he, q, hz⟩ => ⟨by rw [he, VE.out bb v], by rw [hz]; have hd := below_drewN (Below.refl w6.heap.size w6) q; exact ⟨OwnS.below hw6.1 hd (Nat.le_refl _), hw6.2.1.below hd hw6.2.2.2, hw6.2.2.1.trans (hd.mono hw6.2.2.1.size), Nat.le_trans hw6.2.2.2 hd.size⟩⟩
                    simp only [Act.put, List.setIfInBounds_toArray, List.set_cons_succ, List.set_cons_zero]
                    apply wpS_val
                    · decide
                    · rfl
                    · intro bb w' hw'
                      have hq2 : _ := ETN.out
                      go_simp
                      first | exact rfl | exact ⟨rfl, hw'⟩
                    simp only [Act.put, List.setIfInBounds_toArray, List.set_cons_succ, List.set_cons_zero]
                    apply wpS_val
                    · decide
                    · rfl
                    · intro bb w' hw'
                      go_simp
                      first | exact rfl | exact ⟨rfl, hw'⟩
                    simp only [Act.put, List.setIfInBounds_toArray, List.set_cons_succ, List.set_cons_zero]
                    apply wpS_put
                    · rfl
                    · rfl
                    · intro w6 hw6
                      have hq : OwnS w6 w'.heap.size (.slice (some ⟨g, 0, none⟩) (m + 2) capR) (m + 2) Y := hw6.1
                      have d3 := World.ownsRow.frozenAt hq ((m + 1) * 64 + t)
                      have d4 := OwnS.cellAt hq (i := m + 1) (k := t) (by omega) hlt
                      obtain ⟨o7, g7⟩ := OwnS.put (i := m + 1) hq hlt v
                      go_simp
                      first | exact ⟨rfl, o7, hw6.2.1.only g7 G1.out, hw6.2.2.1.trans (only_Below g7 (Nat.le_trans HB.out.size G1.out) hw6.2.2.1.size)⟩ | exact ⟨rfl, o7, hw6.2.1.only g7 G1.out, hw6.2.2.1.trans (only_Below g7 (Nat.le_trans HB.out.size G1.out) hw6.2.2.1.size), Nat.le_trans hw6.2.2.2 g7.size⟩
                    simp only [Act.put, List.setIfInBounds_toArray, List.set_cons_succ, List.set_cons_zero]
                    refine wpS_nil fun w6 hw6 => ?_
                    have c1 := CC.out w6 hw6.2.1
                    have R2 := hid (show OwnS w6 w'.heap.size (.slice (some ⟨g, 0, none⟩) (m + 2) capR) (m + 2) (fin m (t + 1) (mk l) (mk (l ++ [((m + 1 : Nat) : Int)])) G) by rw [HE.out]; exact hw6.1)
                    have J2 := hid hw6.2.1
                    have B2' := hid hw6.2.2.1
                    clear hw6 HRW HJ HBL
                    go_wp2_with fail
                    go_roundw
                    case rel => exact ⟨t + 1, by omega, by go_num, R2, J2, B2'⟩
                    case measure => simp [intOf]; omega
                · obtain rfl : t = 64 := by omega
                  have R2 := hid (show OwnS wr w'.heap.size (.slice (some ⟨g, 0, none⟩) (m + 2) capR) (m + 2) (mendP m (mk (u.take (i + 1))) G) by
                    rw [HT.out]
                    exact OwnS.mono HRW.out fun j q _ hq => (fin_64 hq).symm)
                  clear HRW
                  go_wp2_with fail
                  go_roundw
                  case rel => exact ⟨i + 1, by omega, by go_num, R2, HJ, HBL⟩
                  case measure => simp [intOf]; omega
            · obtain rfl : i = k + 1 := by omega
              have R2 := hid (show OwnS wr w.heap.size (.slice (some ⟨g, 0, none⟩) (m + 2) capR) (m + 2) (mendP m (mk u) (mid m 64 (mk u) F)) by
                have h := HRW.out
                rw [List.take_of_length_le (by rw [HK.out]; exact Nat.le_refl _), HGE.out] at h
                exact World.ownsRow.mono h HB.out.size)
              clear HRW
              go_wp2_with fail
              go_ret2
              exact ⟨g, capR, rfl, R2.out, HBL.out⟩
end Go.Proofs.Yteoccdcebgcdmaa
