/-
  casemateref02.Fix where it mends (under way: up to the loops).
  casemateref02.Fix where nothing is lost.
  The program's Fix and the document's, of the same row and the same list.
  The struct Row of three sectors, as a value and in memory.
  The contract of parity.Change.
  The contract of casemateref02.Change.
  A row of sectors in plain numbers: what is known of it, what is lost, what is written.
  Slices of numbers of any kind: read out of one row; made by a call for itself, append.
  Lists of elements of k cells each: as they lie in memory, and as a list of the call's own. Worlds in which only blocks of a set are turned.
  Several cells of a block stored one behind the other.
-/
import Derived.Test.YtlbfjnddbdpdpaaMrg3
import Derived.Deep.WholeRow
import Derived.Laws.AppendOwn
import Derived.Laws.AppendOwnNone
import Derived.Deep.MidRow
set_option linter.unusedVariables false
set_option linter.unusedSimpArgs false
set_option maxRecDepth 100000
namespace Go.Proofs.Ytlbfjnddbdpdpaa
open Go.ChangeShapes Go.WideShapes Go.ChangeAt Go.RowKit
attribute [local go_sem] Gives
theorem mk_uniq {l : List Int} : mk l = mk (uniq l) := by
  funext j
  rw [Bool.eq_iff_iff, mk_iff, mk_iff, mem_uniq]
theorem OwnS.nil (w : World) (B : Nat) (F : Nat → Nat → Nat) : OwnS w B (.slice none 0 0) 0 F := by
  have h0 : (Go.Proofs.Ytlbfjnddbdpdpaa.secs 0 F).toList = [] := List.eq_nil_of_length_eq_zero (by rw [Array.length_toList, size_secs])
  unfold OwnS
  rw [h0]
  exact World.ownsRow_nil w _ _ _
set_option maxRecDepth 100000 in
set_option maxHeartbeats 1500000 in
theorem rfix_some (A A' : Option Addr) (m cap n c k : Nat) (l : List Int) (F : Nat → Nat → Nat) (hF : ∀ i k, F i k < 256) (hl : l.length = n) (hn : n ≤ 1000) (h1 : 1 ≤ m) (h2 : m ≤ 62) (w : World) (hs : IntL w w.heap.size A' l) (hS : Secs w w.heap.size A (m + 2) F)
    (hO : anyOut (m + 2) l.length (fun i => l.getD i 0) = false) (hk : (uniq l).length = k + 1) (hk2 : k ≤ 1) :
    Calls Try.prog 33 #[.slice A (m + 2) cap, .slice A' n c] w fun e w' => ∃ g cap' : Nat, e = .returned (.tuple #[.slice (some ⟨g, 0, none⟩) (m + 2) cap', .int .i64 0]) ∧
      OwnS w' w.heap.size (.slice (some ⟨g, 0, none⟩) (m + 2) cap') (m + 2) (mendP m (mk l) (mid m 64 (mk l) F)) ∧ Below w.heap.size w w' := by
  have HU := hid (runlike_any A' n c l hl hn w hs)
  have HR := hid (show ∀ x, x ∈ uniq l → 0 ≤ x ∧ x < ((m + 2 : Nat) : Int) from fun x hx => by
    obtain ⟨i, hi, e⟩ := List.mem_iff_getElem.1 (mem_uniq.1 hx)
    have := anyOut_iff.1 hO i hi
    rw [List.getD_eq_getElem?_getD, List.getElem?_eq_getElem hi, Option.getD_some, e] at this
    exact this)
  have HP := hid (uniq_up l)
  rw [mk_uniq]
  clear hO hs
  revert HU HR HP hk
  generalize uniq l = u
  intro hk HU HR HP
  have HF := hid hF
  clear hF hl hn
  obtain ⟨sb, so, rfl, _, _⟩ := hS (by omega)
  have HS := hid hS
  clear hS
  have tN : decide ((m : Int) < 1) = false := by simp; omega
  have t62 : decide ((62 : Int) < (m : Int)) = false := by simp; omega
  go_enter Try.func33, Try.ntmps33
  go_wp2_with fail
  refine HU.out.mono ?_
  rintro e w' ⟨v, rfl, hO, hb⟩
  have HB := hid hb
  clear hb
  have HO := hid hO
  obtain ⟨A2, c2, rfl, hc1, _, _, hI⟩ := hO.any
  obtain ⟨b, o, rfl, hr⟩ := hI.at (by omega)
  have c0 := hr 0 (by omega)
  have c9' := hr k (by omega)
  rw [Nat.add_zero] at c0
  clear hO hr HU
  have HI := hid hI
  clear hI
  rw [hk] at hc1 ⊢
  have HK := hid hk
  have c9 : w'.cell? ⟨b, o + k, none⟩ = some (.int .i64 (u.getD k 0)) := c9'
  have x0 := HR.out (u.getD 0 0) (by rw [List.getD_eq_getElem?_getD, List.getElem?_eq_getElem (by omega)]; exact List.getElem_mem _)
  have x9 := HR.out (u.getD k 0) (by rw [List.getD_eq_getElem?_getD, List.getElem?_eq_getElem (by omega)]; exact List.getElem_mem _)
  clear hk c9'
  revert c0 c9 x0 x9
  generalize u.getD 0 0 = y0
  generalize u.getD k 0 = y9
  intro c0 c9 x0 x9
  have ew : wrap64 (k : Int) = (k : Int) := by unfold wrap64; omega
  have t1 : decide (y0 < 0) = false := by simp; omega
  have t2 : decide ((m : Int) + 2 ≤ y9) = false := by simp; omega
  have t3 : decide ((2 : Int) < (k : Int) + 1) = false := by simp; omega
  clear x0 x9
  have S1 := hid ((HS.out.below HB.out (Nat.le_refl _)))
  have N1 := hid (OwnS.nil w' w'.heap.size F)
  go_upto_region 11 with ((with_reducible apply wapp (v := .slice none 0 0)); rfl; rfl; exact N1.out; exact S1.out; omega; exact Nat.le_refl _; intro v1 w2 own grow hnil)
  have hne : v1 ≠ .slice none 0 0 := fun e => by have := (hnil.1 e).2; omega
  rw [Nat.zero_add] at own
  obtain ⟨g, capR, rfl, hg1, hg2, _, _⟩ := own.form hne
  have o2 := hid (own.mono (G := F) fun j q _ _ => by unfold catF; simp)
  have B2 := hid (show Below w'.heap.size w' w2 from (Below.refl _ _).grown grow (Nat.le_refl _) fun g h => by cases h)
  clear own hnil hne N1
  have I2 := hid (HI.out.below B2.out (Nat.le_refl _))
  have G2 := hid hg2
  have G1 := hid hg1
  have ZN := hid (zal_nil (F := F))
  have MN := hid (show mk [] m = false by cases h : mk [] m with | false => rfl | true => exact absurd (mk_iff.1 h) (by simp))
  have BB := hid (HB.out.trans (B2.out.mono HB.out.size))
  clear S1 HI grow c0 c9
  go_wp2_with fail
  go_loopw [9, 10, 11] (fun dv pv iv wr => ∃ (i : Nat) (vd : Value) (bp : Bool), i ≤ k + 1 ∧ iv = .int .i64 i ∧ dv = vd ∧ pv = .bool bp ∧ Hid (bp = mk (u.take i) m) ∧ Hid (OwnZ wr w2.heap.size vd ((u.take i).filter fun x => decide (x < (m : Int)))) ∧ Hid (OwnS wr w'.heap.size (.slice (some ⟨g, 0, none⟩) (m + 2) capR) (m + 2) (zal (mk (u.take i)) F)) ∧ Hid (IntL wr w'.heap.size (some ⟨b, o, none⟩) u) ∧ Hid (Below w.heap.size w wr) ∧ Hid (w2.heap.size ≤ wr.heap.size)) (fun _ _ iv _ => k + 1 - (intOf iv).toNat)
  case atStart => exact ⟨0, _, false, by omega, rfl, rfl, rfl, hid MN.out.symm, hid OwnZ.nil, hid (by rw [List.take_zero, ZN.out]; exact o2.out), I2, BB, hid (Nat.le_refl _)⟩
  case round =>
    obtain ⟨i, vd, bp, hi, rfl, rfl, rfl, HWP, HD, HRW, HJ, HBL, HZ⟩ := hrel
    by_cases hlt : i < k + 1
    · have ti : (i : Int) < (k : Int) + 1 := by omega
      have hiu : i < u.length := by rw [HK.out]; exact hlt
      have hx := HR.out (u.getD i 0) (by rw [List.getD_eq_getElem?_getD, List.getElem?_eq_getElem hiu]; exact List.getElem_mem _)
      have HT := hid (show u.take (i + 1) = u.take i ++ [u.getD i 0] by
        rw [List.take_add_one, List.getElem?_eq_getElem hiu, List.getD_eq_getElem?_getD, List.getElem?_eq_getElem hiu]; rfl)
      have CC := hid (show ∀ wz, IntL wz w'.heap.size (some ⟨b, o, none⟩) u → wz.cell? ⟨b, o + i, none⟩ = some (.int .i64 (u.getD i 0)) from fun wz hz => by
        obtain ⟨b2, o2, e2, hr2⟩ := hz.at (by omega)
        simp only [Option.some.injEq, Addr.mk.injEq, and_true] at e2
        obtain ⟨rfl, rfl⟩ := e2
        exact hr2 i hiu)
      have hxnn := hx.1
      revert HT CC hx
      obtain ⟨x, hxx⟩ : ∃ x : Nat, u.getD i 0 = (x : Int) := ⟨(u.getD i 0).toNat, by omega⟩
      clear hxnn
      rw [hxx]
      clear hxx
      intro hx HT CC
      have hxm : x < m + 2 := by omega
      have txm : (x : Int) < (m : Int) + 2 := by omega
      clear hx hiu
      have c1 := CC.out wr HJ.out
      go_upto_region 17 with (first | (with_reducible apply bsec) | ((with_reducible apply sto (i := x)); (simp only [Nat.zero_add]; rfl); rfl; exact HRW.out; omega; intro w6 o6 g6))
      have D6 := hid (HD.out.only g6 G2.out)
      have R6 := hid o6
      have J6 := hid (HJ.out.only g6 G1.out)
      have B6 := hid (HBL.out.trans (only_Below g6 (Nat.le_trans HB.out.size G1.out) HBL.out.size))
      have Z6 := hid (Nat.le_trans HZ.out g6.size)
      clear o6 g6 HD HRW HJ HBL HZ c1
      have c1 := CC.out w6 J6.out
      cases bp with
      | true =>
        by_cases hlm : x < m
        · skip
          have HW' := hid (show true = mk (u.take (i + 1)) m by rw [HT.out, withP_snoc, ← HWP.out]; simp)
          have tlt2 : decide ((x : Int) < (m : Int)) = true := by simp; omega
          have FL := hid (show ([(x : Int)].filter fun x => decide (x < (m : Int))) = [(x : Int)] by rw [List.filter_cons, if_pos tlt2]; rfl)
          have A6 := hid (OwnZ.alloc D6.out (.cells #[.int .i64 (x : Int)] 3))
          have I6' := hid (ints_one (w := w6) (t := 3) (x := (x : Int)) (B := w6.heap.size + 1) (Nat.lt_succ_self _))
          have Z6' := hid (show w2.heap.size ≤ (w6.alloc (.cells #[.int .i64 (x : Int)] 3)).heap.size by rw [World.size_alloc]; have := Z6.out; omega)
          have L6' := hid (show ((u.take i).filter fun x => decide (x < (m : Int))).length + 1 ≤ 1000000 by have := List.length_filter_le (fun x => decide (x < (m : Int))) (u.take i); rw [List.length_take] at this; omega)
          go_upto_region 19 with ((with_reducible apply wappz (l := (u.take i).filter fun x => decide (x < (m : Int))) (kk := [(x : Int)])); rfl; rfl; exact (fun h => by cases h); exact A6.out; exact I6'.out; rfl; exact L6'.out; exact Z6'.out; intro v2 w7 o7 g7)
          have D7 := hid o7
          have hk7 := fun q e => (World.ownsRow.lt D6.out q e).1
          have R7 := hid (OwnS.kept (World.ownsRow.alloc R6.out (.cells #[.int .i64 (x : Int)] 3)) g7 (.inr (fun e => by have := hk7 g e.symm; have := G2.out; omega)))
          have B7 := hid (below_grownZ (B6.out.alloc (Nat.le_trans BB.out.size Z6.out) (.cells #[.int .i64 (x : Int)] 3)) g7 A6.out BB.out.size (Nat.le_refl _))
          have B67 := hid (below_grownZ ((Below.refl w'.heap.size w6).alloc (Nat.le_trans B2.out.size Z6.out) (.cells #[.int .i64 (x : Int)] 3)) g7 A6.out B2.out.size (Nat.le_trans B2.out.size Z6.out))
          have J7 := hid (J6.out.below B67.out (Nat.le_refl _))
          have Z7 := hid (Nat.le_trans Z6.out B67.out.size)
          clear o7 g7 hk7 B67 A6 I6' Z6' L6' D6 R6 J6 B6 Z6 c1
          have c1 := CC.out w7 J7.out
          go_wp2_with fail
          exact ⟨⟨i + 1, _, _, by omega, by go_num, rfl, rfl, HW', hid (by rw [HT.out, List.filter_append, FL.out]; exact D7.out), hid (by rw [HT.out, zal_snoc]; exact R7.out), J7, B7, Z7⟩, by simp [intOf]; omega⟩
        · skip
          have HW' := hid (show true = mk (u.take (i + 1)) m by rw [HT.out, withP_snoc, ← HWP.out]; simp)
          have tlt2 : decide ((x : Int) < (m : Int)) = false := by simp; omega
          have FL := hid (show ([(x : Int)].filter fun x => decide (x < (m : Int))) = [] by rw [List.filter_cons, if_neg (by rw [tlt2]; simp)]; rfl)
          go_wp2_with fail
          exact ⟨⟨i + 1, _, _, by omega, by go_num, rfl, rfl, HW', hid (by rw [HT.out, List.filter_append, FL.out, List.append_nil]; exact D6.out), hid (by rw [HT.out, zal_snoc]; exact R6.out), J6, B6, Z6⟩, by simp [intOf]; omega⟩
      | false =>
        by_cases hlm : x < m
        · skip
          have HW' := hid (show decide ((x : Int) = (m : Int)) = mk (u.take (i + 1)) m by rw [HT.out, withP_snoc, ← HWP.out]; simp)
          have tlt2 : decide ((x : Int) < (m : Int)) = true := by simp; omega
          have FL := hid (show ([(x : Int)].filter fun x => decide (x < (m : Int))) = [(x : Int)] by rw [List.filter_cons, if_pos tlt2]; rfl)
          have A6 := hid (OwnZ.alloc D6.out (.cells #[.int .i64 (x : Int)] 3))
          have I6' := hid (ints_one (w := w6) (t := 3) (x := (x : Int)) (B := w6.heap.size + 1) (Nat.lt_succ_self _))
          have Z6' := hid (show w2.heap.size ≤ (w6.alloc (.cells #[.int .i64 (x : Int)] 3)).heap.size by rw [World.size_alloc]; have := Z6.out; omega)
          have L6' := hid (show ((u.take i).filter fun x => decide (x < (m : Int))).length + 1 ≤ 1000000 by have := List.length_filter_le (fun x => decide (x < (m : Int))) (u.take i); rw [List.length_take] at this; omega)
          go_upto_region 19 with ((with_reducible apply wappz (l := (u.take i).filter fun x => decide (x < (m : Int))) (kk := [(x : Int)])); rfl; rfl; exact (fun h => by cases h); exact A6.out; exact I6'.out; rfl; exact L6'.out; exact Z6'.out; intro v2 w7 o7 g7)
          have D7 := hid o7
          have hk7 := fun q e => (World.ownsRow.lt D6.out q e).1
          have R7 := hid (OwnS.kept (World.ownsRow.alloc R6.out (.cells #[.int .i64 (x : Int)] 3)) g7 (.inr (fun e => by have := hk7 g e.symm; have := G2.out; omega)))
          have B7 := hid (below_grownZ (B6.out.alloc (Nat.le_trans BB.out.size Z6.out) (.cells #[.int .i64 (x : Int)] 3)) g7 A6.out BB.out.size (Nat.le_refl _))
          have B67 := hid (below_grownZ ((Below.refl w'.heap.size w6).alloc (Nat.le_trans B2.out.size Z6.out) (.cells #[.int .i64 (x : Int)] 3)) g7 A6.out B2.out.size (Nat.le_trans B2.out.size Z6.out))
          have J7 := hid (J6.out.below B67.out (Nat.le_refl _))
          have Z7 := hid (Nat.le_trans Z6.out B67.out.size)
          clear o7 g7 hk7 B67 A6 I6' Z6' L6' D6 R6 J6 B6 Z6 c1
          have c1 := CC.out w7 J7.out
          go_wp2_with fail
          exact ⟨⟨i + 1, _, _, by omega, by go_num, rfl, rfl, HW', hid (by rw [HT.out, List.filter_append, FL.out]; exact D7.out), hid (by rw [HT.out, zal_snoc]; exact R7.out), J7, B7, Z7⟩, by simp [intOf]; omega⟩
        · skip
          have HW' := hid (show decide ((x : Int) = (m : Int)) = mk (u.take (i + 1)) m by rw [HT.out, withP_snoc, ← HWP.out]; simp)
          have tlt2 : decide ((x : Int) < (m : Int)) = false := by simp; omega
          have FL := hid (show ([(x : Int)].filter fun x => decide (x < (m : Int))) = [] by rw [List.filter_cons, if_neg (by rw [tlt2]; simp)]; rfl)
          go_wp2_with fail
          exact ⟨⟨i + 1, _, _, by omega, by go_num, rfl, rfl, HW', hid (by rw [HT.out, List.filter_append, FL.out, List.append_nil]; exact D6.out), hid (by rw [HT.out, zal_snoc]; exact R6.out), J6, B6, Z6⟩, by simp [intOf]; omega⟩
    · have hik := hid (show i = k + 1 by omega)
      have tif : decide ((i : Int) < (k : Int) + 1) = false := by simp; omega
      obtain ⟨w3, hw3⟩ : ∃ w3, w3 = wr := ⟨_, rfl⟩
      subst hw3
      have TA := hid (show u.take i = u from List.take_of_length_le (by rw [HK.out, hik.out]; exact Nat.le_refl _))
      rw [TA.out] at HWP HD HRW
      have UU := hid (show uniq u = u from up_same (uniq_up u) HP.out fun z => mem_uniq)
      have GU := hid (show (gapsL m (mk u)).map (fun x : Nat => (x : Int)) = u.filter fun x => decide (x < (m : Int)) by rw [gaps_uniq fun x hx => (HR.out x hx).1, UU.out])
      clear TA UU ZN MN I2 BB o2
      rw [← GU.out] at HD
      have HR0 := hid (show OwnS w3 w'.heap.size (.slice (some ⟨g, 0, none⟩) (m + 2) capR) (m + 2) (mid m 0 (mk u) F) by rw [mid_zero]; exact HRW.out)
      clear HRW hi hlt
      go_wp2_with fail
      clear tif
      go_loopw [12] (fun kv wq => ∃ t : Nat, t ≤ 64 ∧ kv = .int .i64 t ∧ Hid (OwnS wq w'.heap.size (.slice (some ⟨g, 0, none⟩) (m + 2) capR) (m + 2) (mid m t (mk u) F)) ∧ Hid (OwnZ wq w2.heap.size u9 ((gapsL m (mk u)).map fun x : Nat => (x : Int))) ∧ Hid (IntL wq w'.heap.size (some ⟨b, o, none⟩) u) ∧ Hid (Below w.heap.size w wq)) (fun kv _ => 64 - (intOf kv).toNat)
      case atStart => exact ⟨0, by omega, rfl, HR0, HD, HJ, HBL⟩
      case round =>
        clear HR0 HD HJ HBL
        obtain ⟨t, ht, rfl, HRW, HD, HJ, HBL⟩ := hrel
        by_cases hlt : t < 64
        · have tt : (t : Int) < 64 := by omega
          have hl3 := own_lt HRW.out
          have GL := hid hl3.1
          have Q1 := hid (OwnS.cellAt HRW.out (i := m) (by omega) hlt)
          have Q2 := hid (OwnS.cellAt HRW.out (i := m + 1) (by omega) hlt)
          have HSM := hid (show Secs wr wr.heap.size (some ⟨g, 0, none⟩) m (mid m t (mk u) F) from fun _ => ⟨g, 0, rfl, GL.out, fun i hi => own_range HRW.out (by omega)⟩)
          have ML := hid (mid_lt (m := m) (t := t) (M := mk u) HF.out)
          obtain ⟨pv, hpv⟩ : ∃ pv : Nat, pv = mid m t (mk u) F m t ^^^ PP (mid m t (mk u) F) m t := ⟨_, rfl⟩
          obtain ⟨qv, hqv⟩ : ∃ qv : Nat, qv = mid m t (mk u) F (m + 1) t ^^^ QQ (mid m t (mk u) F) m t := ⟨_, rfl⟩
          have PL := hid (show pv < 256 by rw [hpv]; exact GfM.xor_lt (ML.out m t) (PP_lt ML.out m t))
          have QL := hid (show qv < 256 by rw [hqv]; exact GfM.xor_lt (ML.out (m + 1) t) (QQ_lt m t))
          have EX1 := hid (show bits .xor .u8 ((mid m t (mk u) F m t : Nat) : Int) ((PP (mid m t (mk u) F) m t : Nat) : Int) = (pv : Int) by rw [hpv]; exact u8_xor_nat _ _ (ML.out m t) (PP_lt ML.out m t))
          have EX2 := hid (show bits .xor .u8 ((mid m t (mk u) F (m + 1) t : Nat) : Int) ((QQ (mid m t (mk u) F) m t : Nat) : Int) = (qv : Int) by rw [hqv]; exact u8_xor_nat _ _ (ML.out (m + 1) t) (QQ_lt (F := mid m t (mk u) F) m t))
          have HPV := hid (show mk u m = false → pv = mis m (mk u) F t from fun h => by rw [hpv]; exact mid_mis h)
          have HQV := hid (show mk u (m + 1) = false → qv = wei m (mk u) F t from fun h => by rw [hqv]; exact mid_wei h)
          have HG := hid (gl_cases (m := m) (u := u) (by rw [HK.out]; omega))
          clear hpv hqv
          have hcm : m ≤ capR := by omega
          have ti1 : (m : Int) < (m : Int) + 2 := by omega
          have ti2 : (m : Int) + 1 < (m : Int) + 2 := by omega
          have EWR := hid (show IntKind.i64.wrap ((m : Int) + 1) = (m : Int) + 1 from by first | go_num | (simp only [IntKind.wrap]; omega) | (simp [IntKind.wrap]; omega) | (unfold IntKind.wrap; simp; omega) | (unfold IntKind.wrap IntKind.bits IntKind.signed; simp; omega))
          have ETN := hid (show ((m : Int) + 1).toNat = m + 1 by omega)
          clear hl3
          go_wp2_with fail
          refine wp_region_tail (C := fun z => Below wr.heap.size wr z) 12 (by kernel_rfl) (by kernel_rfl) (by kernel_rfl) (Below.refl _ _).drew ?_
          simp only [List.take_succ_cons, List.take_zero, List.drop_succ_cons, List.drop_zero]
          apply wpK_val
          · rfl
          · intro w' hw'
            go_simp
            first | exact rfl | exact ⟨rfl, hw'⟩
          simp only [Act.put, List.setIfInBounds_toArray, List.set_cons_succ, List.set_cons_zero]
          apply wpK_val
          · rfl
          · intro w' hw'
            go_simp
            first | exact rfl | exact ⟨rfl, hw'⟩
          simp only [Act.put, List.setIfInBounds_toArray, List.set_cons_succ, List.set_cons_zero]
          apply wpK_val
          · rfl
          · intro w' hw'
            go_simp
            first | exact rfl | exact ⟨rfl, hw'⟩
          simp only [Act.put, List.setIfInBounds_toArray, List.set_cons_succ, List.set_cons_zero]
          apply wpK_val
          · rfl
          · intro w' hw'
            go_simp
            first | exact rfl | exact ⟨rfl, hw'⟩
          simp only [Act.put, List.setIfInBounds_toArray, List.set_cons_succ, List.set_cons_zero]
          apply wpK_val
          · rfl
          · intro w' hw'
            go_simp
            first | exact rfl | exact ⟨rfl, hw'⟩
          simp only [Act.put, List.setIfInBounds_toArray, List.set_cons_succ, List.set_cons_zero]
          apply wpK_val
          · rfl
          · intro w' hw'
            have hcell := (hw'.cell (p := ⟨g, m * 64 + t, none⟩) GL.out).trans Q1.out
            go_simp
            first | exact rfl | exact ⟨rfl, hw'⟩
          simp only [Act.put, List.setIfInBounds_toArray, List.set_cons_succ, List.set_cons_zero]
          apply wpK_val
          · rfl
          · intro w' hw'
            go_simp
            first | exact rfl | exact ⟨rfl, hw'⟩
          simp only [Act.put, List.setIfInBounds_toArray, List.set_cons_succ, List.set_cons_zero]
          apply wpK_val
          · rfl
          · intro w' hw'
            go_simp
            first | exact rfl | exact ⟨rfl, hw'⟩
          simp only [Act.put, List.setIfInBounds_toArray, List.set_cons_succ, List.set_cons_zero]
          apply wpK_val
          · rfl
          · intro w' hw'
            go_simp
            first | exact rfl | exact ⟨rfl, hw'⟩
          simp only [Act.put, List.setIfInBounds_toArray, List.set_cons_succ, List.set_cons_zero]
          apply wpK_val
          · rfl
          · intro w' hw'
            go_simp
            first | exact rfl | exact ⟨rfl, hw'⟩
          simp only [Act.put, List.setIfInBounds_toArray, List.set_cons_succ, List.set_cons_zero]
          apply wpK_val
          · rfl
          · intro w' hw'
            go_simp
            exact (rP_any (some ⟨g, 0, none⟩) m capR t _ ML.out (by omega) hlt w' ((HSM.out.below hw' (Nat.le_refl _)).more hw'.size)).mono fun e w'' ⟨he, hz⟩ => ⟨he, hz ▸ hw'⟩
          simp only [Act.put, List.setIfInBounds_toArray, List.set_cons_succ, List.set_cons_zero]
          apply wpK_val
          · rfl
          · intro w' hw'
            have h1 : _ := EX1.out
            go_simp
            first | exact rfl | exact ⟨rfl, hw'⟩
          simp only [Act.put, List.setIfInBounds_toArray, List.set_cons_succ, List.set_cons_zero]
          refine wpK_nil fun w4 hw4 => ?_
          go_wp2_with fail
          refine wp_region_tail (C := fun z => Below wr.heap.size wr z) 13 (by kernel_rfl) (by kernel_rfl) (by kernel_rfl) hw4.drew ?_
          simp only [List.take_succ_cons, List.take_zero, List.drop_succ_cons, List.drop_zero]
          apply wpK_val
          · rfl
          · intro w' hw'
            go_simp
            first | exact rfl | exact ⟨rfl, hw'⟩
          simp only [Act.put, List.setIfInBounds_toArray, List.set_cons_succ, List.set_cons_zero]
          apply wpK_val
          · rfl
          · intro w' hw'
            go_simp
            first | exact rfl | exact ⟨rfl, hw'⟩
          simp only [Act.put, List.setIfInBounds_toArray, List.set_cons_succ, List.set_cons_zero]
          apply wpK_val
          · rfl
          · intro w' hw'
            have hq1 : _ := EWR.out
            go_simp
            first | exact rfl | exact ⟨rfl, hw'⟩
          simp only [Act.put, List.setIfInBounds_toArray, List.set_cons_succ, List.set_cons_zero]
          apply wpK_val
          · rfl
          · intro w' hw'
            go_simp
            first | exact rfl | exact ⟨rfl, hw'⟩
          simp only [Act.put, List.setIfInBounds_toArray, List.set_cons_succ, List.set_cons_zero]
          apply wpK_val
          · rfl
          · intro w' hw'
            have hq2 : _ := ETN.out
            go_simp
            first | exact rfl | exact ⟨rfl, hw'⟩
          simp only [Act.put, List.setIfInBounds_toArray, List.set_cons_succ, List.set_cons_zero]
          apply wpK_val
          · rfl
          · intro w' hw'
            go_simp
            first | exact rfl | exact ⟨rfl, hw'⟩
          simp only [Act.put, List.setIfInBounds_toArray, List.set_cons_succ, List.set_cons_zero]
          apply wpK_val
          · rfl
          · intro w' hw'
            have hcell := (hw'.cell (p := ⟨g, (m + 1) * 64 + t, none⟩) GL.out).trans Q2.out
            go_simp
            first | exact rfl | exact ⟨rfl, hw'⟩
          simp only [Act.put, List.setIfInBounds_toArray, List.set_cons_succ, List.set_cons_zero]
          apply wpK_val
          · rfl
          · intro w' hw'
            go_simp
            first | exact rfl | exact ⟨rfl, hw'⟩
          simp only [Act.put, List.setIfInBounds_toArray, List.set_cons_succ, List.set_cons_zero]
          apply wpK_val
          · rfl
          · intro w' hw'
            go_simp
            first | exact rfl | exact ⟨rfl, hw'⟩
          simp only [Act.put, List.setIfInBounds_toArray, List.set_cons_succ, List.set_cons_zero]
          apply wpK_val
          · rfl
          · intro w' hw'
            go_simp
            first | exact rfl | exact ⟨rfl, hw'⟩
          simp only [Act.put, List.setIfInBounds_toArray, List.set_cons_succ, List.set_cons_zero]
          apply wpK_val
          · rfl
          · intro w' hw'
            go_simp
            first | exact rfl | exact ⟨rfl, hw'⟩
          simp only [Act.put, List.setIfInBounds_toArray, List.set_cons_succ, List.set_cons_zero]
          apply wpK_val
          · rfl
          · intro w' hw'
            go_simp
            exact (rQ_any (some ⟨g, 0, none⟩) m capR t _ ML.out (by omega) hlt w' ((HSM.out.below hw' (Nat.le_refl _)).more hw'.size)).mono fun e w'' ⟨he, q, hz⟩ => ⟨he, by rw [hz]; exact below_drewN hw' q⟩
          simp only [Act.put, List.setIfInBounds_toArray, List.set_cons_succ, List.set_cons_zero]
          apply wpK_val
          · rfl
          · intro w' hw'
            have h1 : _ := EX2.out
            go_simp
            first | exact rfl | exact ⟨rfl, hw'⟩
          simp only [Act.put, List.setIfInBounds_toArray, List.set_cons_succ, List.set_cons_zero]
          refine wpK_nil fun w5 hw5 => ?_
          have HR5 := hid (OwnS.below HRW.out hw5 (Nat.le_refl _))
          have HD5 := hid (HD.out.below hw5)
          have HJ5 := hid (HJ.out.below hw5 (by have := GL.out; have := G1.out; omega))
          have S15 := hid (show w'.heap.size ≤ w5.heap.size by have := GL.out; have := G1.out; have := hw5.size; omega)
          have HB5 := hid (HBL.out.trans (hw5.mono HBL.out.size))
          clear HRW HD HJ HBL hw5 hw4 Q1 Q2 HSM EX1 EX2 EWR ETN ML GL
          rcases HG.out with h0 | ⟨x, h0, hxm⟩ | ⟨x, y, h0, hxy, hym⟩
          · have D5 : OwnZ w5 w2.heap.size u9 [] := by have h := HD5.out; rw [h0] at h; exact h
            obtain ⟨A9, c9, e9, -, -, -, -⟩ := D5.any
            have e9 : u9 = .slice A9 0 c9 := e9
            subst e9
            have HE := hid (mid_step0 (t := t) (F := F) h0)
            go_wp2_with fail
            exact ⟨⟨t + 1, by omega, by go_num, hid (by rw [HE.out]; exact HR5.out), HD5, HJ5, HB5⟩, by simp [intOf]; omega⟩
          · have D5 : OwnZ w5 w2.heap.size u9 [(x : Int)] := by have h := HD5.out; rw [h0] at h; exact h
            obtain ⟨A9, c9, e9, hc9, -, -, hI9⟩ := D5.any
            have e9 : u9 = .slice A9 1 c9 := e9
            subst e9
            obtain ⟨b9, o9, rfl, hl9, hr9⟩ := hI9 (by simp)
            have d0 : w5.cell? ⟨b9, o9, none⟩ = some (.int .i64 (x : Int)) := hr9 0 (by simp)
            have D0 := hid d0
            have L9 := hid hl9
            have BN := hid (show g ≠ b9 from fun e => by have := (World.ownsRow.lt D5 b9 rfl).1; have := G2.out; omega)
            clear hr9 hI9 D5 hc9 hl9
            have tx : (x : Int) < (m : Int) + 2 := by omega
            have X0 := hid h0
            cases hbp : mk u m with
            | true =>
              have HV := hid (mid_step1 (t := t) (F := F) h0 (v := sing x qv) (by rw [HQV.out (one_out (by rw [HK.out]; omega) h0 hbp)]; exact (one_P h0 hbp).symm))
              clear h0
              rw [hbp] at HWP
              have HP10 := HWP.out
              subst HP10
              clear d0
              go_wp2_with fail
              refine wp_region_put (C := fun bb z => z.cell? ⟨b9, o9, none⟩ = some (.int .i64 (x : Int)) ∧ (match bb with | false => Below w5.heap.size w5 z | true => ∃ wz, Below w5.heap.size w5 wz ∧ z = wz.setCell ⟨g, x * 64 + t, none⟩ (.int .u8 (sing x qv : Nat)))) 12 13 (by omega) (by kernel_rfl) (by kernel_rfl) (by kernel_rfl) ⟨D0.out, (Below.refl _ _).drew⟩ ?_
              simp only [List.take_succ_cons, List.take_zero, List.drop_succ_cons, List.drop_zero]
              apply wpS_val
              · decide
              · rfl
              · intro bb w' hw'
                go_simp
                first | exact rfl | exact ⟨rfl, hw'⟩
              simp only [Act.put, List.setIfInBounds_toArray, List.set_cons_succ, List.set_cons_zero]
              apply wpS_val
              · decide
              · rfl
              · intro bb w' hw'
                go_simp
                first | exact rfl | exact ⟨rfl, hw'⟩
              simp only [Act.put, List.setIfInBounds_toArray, List.set_cons_succ, List.set_cons_zero]
              apply wpS_val
              · decide
              · rfl
              · intro bb w' hw'
                go_simp
                first | exact rfl | exact ⟨rfl, hw'⟩
              simp only [Act.put, List.setIfInBounds_toArray, List.set_cons_succ, List.set_cons_zero]
              apply wpS_val
              · decide
              · rfl
              · intro bb w' hw'
                have hcell : _ := hw'.1
                go_simp
                first | exact rfl | exact ⟨rfl, hw'⟩
              simp only [Act.put, List.setIfInBounds_toArray, List.set_cons_succ, List.set_cons_zero]
              apply wpS_val
              · decide
              · rfl
              · intro bb w' hw'
                go_simp
                first | exact rfl | exact ⟨rfl, hw'⟩
              simp only [Act.put, List.setIfInBounds_toArray, List.set_cons_succ, List.set_cons_zero]
              apply wpS_val
              · decide
              · rfl
              · intro bb w' hw'
                go_simp
                first | exact rfl | exact ⟨rfl, hw'⟩
              simp only [Act.put, List.setIfInBounds_toArray, List.set_cons_succ, List.set_cons_zero]
              apply wpS_val
              · decide
              · rfl
              · intro bb w' hw'
                go_simp
                first | exact rfl | exact ⟨rfl, hw'⟩
              simp only [Act.put, List.setIfInBounds_toArray, List.set_cons_succ, List.set_cons_zero]
              apply wpS_val
              · decide
              · rfl
              · intro bb w' hw'
                go_simp
                first | exact rfl | exact ⟨rfl, hw'⟩
              simp only [Act.put, List.setIfInBounds_toArray, List.set_cons_succ, List.set_cons_zero]
              apply wpS_val
              · decide
              · rfl
              · intro bb w' hw'
                have hcell : _ := hw'.1
                go_simp
                first | exact rfl | exact ⟨rfl, hw'⟩
              simp only [Act.put, List.setIfInBounds_toArray, List.set_cons_succ, List.set_cons_zero]
              apply wpS_val
              · decide
              · rfl
              · intro bb w' hw'
                go_simp
                exact (rsingle_any qv x QL.out w').mono fun e w'' ⟨he, hz⟩ => ⟨he, hz ▸ hw'⟩
              simp only [Act.put, List.setIfInBounds_toArray, List.set_cons_succ, List.set_cons_zero]
              apply wpS_val
              · decide
              · rfl
              · intro bb w' hw'
                go_simp
                first | exact rfl | exact ⟨rfl, hw'⟩
              simp only [Act.put, List.setIfInBounds_toArray, List.set_cons_succ, List.set_cons_zero]
              apply wpS_val
              · decide
              · rfl
              · intro bb w' hw'
                go_simp
                first | exact rfl | exact ⟨rfl, hw'⟩
              simp only [Act.put, List.setIfInBounds_toArray, List.set_cons_succ, List.set_cons_zero]
              apply wpS_put
              · rfl
              · rfl
              · intro w' hw'
                have hw2 : Below w5.heap.size w5 w' := hw'.2
                have hq := OwnS.below HR5.out hw2 (Nat.le_refl _)
                have d3 := World.ownsRow.frozenAt hq (x * 64 + t)
                have d4 := OwnS.cellAt hq (i := x) (k := t) (by omega) hlt
                go_simp
                exact ⟨rfl, (OwnS.put (i := x) hq hlt (sing x qv)).2.cell hw'.1 (fun e' => BN.out (by injection e' with e'; first | exact e'.symm | exact e')), w', hw2, rfl⟩
              simp only [Act.put, List.setIfInBounds_toArray, List.set_cons_succ, List.set_cons_zero]
              refine wpS_nil fun w6 hw6 => ?_
              obtain ⟨-, wz, hz, rfl⟩ := hw6
              have HR6 := hid (OwnS.below HR5.out hz (Nat.le_refl _))
              have HD6 := hid (HD5.out.below hz)
              have HJ6 := hid (HJ5.out.below hz S15.out)
              have HB6 := hid (HB5.out.trans (hz.mono HB5.out.size))
              obtain ⟨o6, g6⟩ := OwnS.put (i := x) HR6.out hlt (sing x qv)
              rw [← HV.out] at o6
              have R6 := hid o6
              have D6 := hid (HD6.out.only g6 G2.out)
              have J6 := hid (HJ6.out.only g6 G1.out)
              have B6 := hid (HB6.out.trans (only_Below g6 (Nat.le_trans HB.out.size G1.out) HB6.out.size))
              clear o6 g6 hz
              go_wp2_with fail
              go_roundw
              case rel => exact ⟨t + 1, by omega, by go_num, R6, D6, J6, B6⟩
              case measure => simp [intOf]; omega
            | false =>
              have HV := hid (mid_step1 (t := t) (F := F) h0 (v := pv) (by rw [HPV.out hbp]; exact (one_D h0 hbp).symm))
              clear h0
              rw [hbp] at HWP
              have HP10 := HWP.out
              subst HP10
              have d3 := World.ownsRow.frozenAt HR5.out (x * 64 + t)
              have d4 := OwnS.cellAt HR5.out (i := x) (k := t) (by omega) hlt
              obtain ⟨o6, g6⟩ := OwnS.put (i := x) HR5.out hlt pv
              rw [← HV.out] at o6
              have R6 := hid o6
              have D6 := hid (HD5.out.only g6 G2.out)
              have J6 := hid (HJ5.out.only g6 G1.out)
              have B6 := hid (HB5.out.trans (only_Below g6 (Nat.le_trans HB.out.size G1.out) HB5.out.size))
              clear o6 g6
              go_wp2_with fail
              exact ⟨⟨t + 1, by omega, by go_num, R6, D6, J6, B6⟩, by simp [intOf]; omega⟩
          · have D5 : OwnZ w5 w2.heap.size u9 [(x : Int), (y : Int)] := by have h := HD5.out; rw [h0] at h; exact h
            obtain ⟨A9, c9, e9, hc9, -, -, hI9⟩ := D5.any
            have e9 : u9 = .slice A9 2 c9 := e9
            subst e9
            obtain ⟨b9, o9, rfl, hl9, hr9⟩ := hI9 (by simp)
            have D0 := hid (show w5.cell? ⟨b9, o9, none⟩ = some (.int .i64 (x : Int)) from hr9 0 (by simp))
            have D1 := hid (show w5.cell? ⟨b9, o9 + 1, none⟩ = some (.int .i64 (y : Int)) from hr9 1 (by simp))
            have L9 := hid hl9
            have BN := hid (show g ≠ b9 from fun e => by have := (World.ownsRow.lt D5 b9 rfl).1; have := G2.out; omega)
            clear hr9 hI9 D5 hc9 hl9
            have tx : (x : Int) < (m : Int) + 2 := by omega
            have ty : (y : Int) < (m : Int) + 2 := by omega
            have hm0 := two_out (z := m) (by rw [HK.out]; omega) h0 hxy (Nat.le_refl _)
            have hm1 := two_out (z := m + 1) (by rw [HK.out]; omega) h0 hxy (by omega)
            have h2 := two_D (t := t) (F := F) h0 (by omega)
            rw [← HPV.out hm0, ← HQV.out hm1] at h2
            have HV := hid (mid_step2 (t := t) (F := F) h0 h2.1.symm h2.2.symm)
            clear h0 h2 hm0 hm1
            go_wp2_with fail
            refine wp_region_tail (C := fun z => Below w5.heap.size w5 z) 14 (by kernel_rfl) (by kernel_rfl) (by kernel_rfl) (Below.refl _ _).drew ?_
            simp only [List.take_succ_cons, List.take_zero, List.drop_succ_cons, List.drop_zero]
            apply wpK_val
            · rfl
            · intro w' hw'
              go_simp
              first | exact rfl | exact ⟨rfl, hw'⟩
            simp only [Act.put, List.setIfInBounds_toArray, List.set_cons_succ, List.set_cons_zero]
            apply wpK_val
            · rfl
            · intro w' hw'
              go_simp
              first | exact rfl | exact ⟨rfl, hw'⟩
            simp only [Act.put, List.setIfInBounds_toArray, List.set_cons_succ, List.set_cons_zero]
            apply wpK_val
            · rfl
            · intro w' hw'
              go_simp
              first | exact rfl | exact ⟨rfl, hw'⟩
            simp only [Act.put, List.setIfInBounds_toArray, List.set_cons_succ, List.set_cons_zero]
            apply wpK_val
            · rfl
            · intro w' hw'
              go_simp
              first | exact rfl | exact ⟨rfl, hw'⟩
            simp only [Act.put, List.setIfInBounds_toArray, List.set_cons_succ, List.set_cons_zero]
            apply wpK_val
            · rfl
            · intro w' hw'
              have hcell := (hw'.cell (p := ⟨b9, o9, none⟩) L9.out).trans D0.out
              go_simp
              first | exact rfl | exact ⟨rfl, hw'⟩
            simp only [Act.put, List.setIfInBounds_toArray, List.set_cons_succ, List.set_cons_zero]
            apply wpK_val
            · rfl
            · intro w' hw'
              go_simp
              first | exact rfl | exact ⟨rfl, hw'⟩
            simp only [Act.put, List.setIfInBounds_toArray, List.set_cons_succ, List.set_cons_zero]
            apply wpK_val
            · rfl
            · intro w' hw'
              go_simp
              first | exact rfl | exact ⟨rfl, hw'⟩
            simp only [Act.put, List.setIfInBounds_toArray, List.set_cons_succ, List.set_cons_zero]
            apply wpK_val
            · rfl
            · intro w' hw'
              have hcell := (hw'.cell (p := ⟨b9, o9 + 1, none⟩) L9.out).trans D1.out
              go_simp
              first | exact rfl | exact ⟨rfl, hw'⟩
            simp only [Act.put, List.setIfInBounds_toArray, List.set_cons_succ, List.set_cons_zero]
            apply wpK_val
            · rfl
            · intro w' hw'
              go_simp
              exact (rpair_any pv qv x y PL.out QL.out (by omega) (by omega) (by omega) w').mono fun e w'' ⟨he, hz⟩ => ⟨he, hz ▸ hw'⟩
            simp only [Act.put, List.setIfInBounds_toArray, List.set_cons_succ, List.set_cons_zero]
            apply wpK_val
            · rfl
            · intro w' hw'
              go_simp
              first | exact rfl | exact ⟨rfl, hw'⟩
            simp only [Act.put, List.setIfInBounds_toArray, List.set_cons_succ, List.set_cons_zero]
            apply wpK_val
            · rfl
            · intro w' hw'
              go_simp
              first | exact rfl | exact ⟨rfl, hw'⟩
            simp only [Act.put, List.setIfInBounds_toArray, List.set_cons_succ, List.set_cons_zero]
            apply wpK_val
            · rfl
            · intro w' hw'
              go_simp
              first | exact rfl | exact ⟨rfl, hw'⟩
            simp only [Act.put, List.setIfInBounds_toArray, List.set_cons_succ, List.set_cons_zero]
            apply wpK_val
            · rfl
            · intro w' hw'
              go_simp
              first | exact rfl | exact ⟨rfl, hw'⟩
            simp only [Act.put, List.setIfInBounds_toArray, List.set_cons_succ, List.set_cons_zero]
            apply wpK_val
            · rfl
            · intro w' hw'
              go_simp
              first | exact rfl | exact ⟨rfl, hw'⟩
            simp only [Act.put, List.setIfInBounds_toArray, List.set_cons_succ, List.set_cons_zero]
            refine wpK_nil fun w6 hw6 => ?_
            have HR6 := hid (OwnS.below HR5.out hw6 (Nat.le_refl _))
            have HD6 := hid (HD5.out.below hw6)
            have HJ6 := hid (HJ5.out.below hw6 S15.out)
            have HB6 := hid (HB5.out.trans (hw6.mono HB5.out.size))
            have d0 := (hw6.cell (p := ⟨b9, o9, none⟩) L9.out).trans D0.out
            have D1 := hid ((hw6.cell (p := ⟨b9, o9 + 1, none⟩) L9.out).trans D1.out)
            clear D0 HR5 HD5 HJ5 HB5 hw6 S15
            revert HV
            generalize pairX x y pv qv = av
            generalize av ^^^ pv = bv
            intro HV
            have d3 := World.ownsRow.frozenAt HR6.out (x * 64 + t)
            have d4 := OwnS.cellAt HR6.out (i := x) (k := t) (by omega) hlt
            go_upto_region 28 with (fail)
            obtain ⟨o7, g7⟩ := OwnS.put (i := x) HR6.out hlt av
            have R7 := hid o7
            have D7 := hid (HD6.out.only g7 G2.out)
            have J7 := hid (HJ6.out.only g7 G1.out)
            have B7 := hid (HB6.out.trans (only_Below g7 (Nat.le_trans HB.out.size G1.out) HB6.out.size))
            have d1 := g7.cell D1.out (fun e' => BN.out (by injection e' with e'; first | exact e'.symm | exact e'))
            clear o7 g7 d0 d3 d4 D1
            revert R7 D7 J7 B7 d1
            generalize World.setCell w6 ⟨g, x * 64 + t, none⟩ _ = w7
            intro R7 D7 J7 B7 d1
            clear HR6 HD6 HJ6 HB6
            have d3 := World.ownsRow.frozenAt R7.out (y * 64 + t)
            have d4 := OwnS.cellAt R7.out (i := y) (k := t) (by omega) hlt
            obtain ⟨o8, g8⟩ := OwnS.put (i := y) R7.out hlt bv
            rw [← HV.out] at o8
            have R8 := hid o8
            have D8 := hid (D7.out.only g8 G2.out)
            have J8 := hid (J7.out.only g8 G1.out)
            have B8 := hid (B7.out.trans (only_Below g8 (Nat.le_trans HB.out.size G1.out) B7.out.size))
            clear o8 g8
            go_wp2_with fail
            exact ⟨⟨t + 1, by omega, by go_num, R8, D8, J8, B8⟩, by simp [intOf]; omega⟩
        · have e64 := hid (show t = 64 by omega)
          have tf : decide ((t : Int) < 64) = false := by simp; omega
          rw [e64.out] at HRW
          obtain ⟨w8, hw8⟩ : ∃ z : World, z = wr := ⟨_, rfl⟩
          subst hw8
          have GLT := hid (mid_lt (m := m) (t := 64) (M := mk u) HF.out)
          obtain ⟨G, hG⟩ : ∃ G, G = mid m 64 (mk u) F := ⟨_, rfl⟩
          rw [← hG] at HRW GLT
          have HGE := hid hG
          have R0 := hid (show OwnS w8 w'.heap.size (.slice (some ⟨g, 0, none⟩) (m + 2) capR) (m + 2) (mendP m (mk (u.take 0)) G) by
            rw [List.take_zero, mendP_none (by cases h : mk [] m with | false => rfl | true => exact absurd (mk_iff.1 h) (by simp)) (by cases h : mk [] (m + 1) with | false => rfl | true => exact absurd (mk_iff.1 h) (by simp))]
            exact HRW.out)
          clear hG HRW HD ht hlt
          go_wp2_with fail
          clear tf
          go_loopw [17] (fun iv wq => ∃ i : Nat, i ≤ k + 1 ∧ iv = .int .i64 i ∧ Hid (OwnS wq w'.heap.size (.slice (some ⟨g, 0, none⟩) (m + 2) capR) (m + 2) (mendP m (mk (u.take i)) G)) ∧ Hid (IntL wq w'.heap.size (some ⟨b, o, none⟩) u) ∧ Hid (Below w.heap.size w wq)) (fun iv _ => k + 1 - (intOf iv).toNat)
          case atStart => exact ⟨0, by omega, rfl, R0, HJ, HBL⟩
          case round =>
            clear R0 HJ HBL
            obtain ⟨i, hi, rfl, HRW, HJ, HBL⟩ := hrel
            by_cases hlt : i < k + 1
            · have ti : (i : Int) < (k : Int) + 1 := by omega
              obtain ⟨w9, hw9⟩ : ∃ z : World, z = wr := ⟨_, rfl⟩
              subst hw9
              have hiu : i < u.length := by rw [HK.out]; exact hlt
              have hx := HR.out (u.getD i 0) (by rw [List.getD_eq_getElem?_getD, List.getElem?_eq_getElem hiu]; exact List.getElem_mem _)
              have HT := hid (show u.take (i + 1) = u.take i ++ [u.getD i 0] by
                rw [List.take_add_one, List.getElem?_eq_getElem hiu, List.getD_eq_getElem?_getD, List.getElem?_eq_getElem hiu]; rfl)
              have CC := hid (show ∀ wz, IntL wz w'.heap.size (some ⟨b, o, none⟩) u → wz.cell? ⟨b, o + i, none⟩ = some (.int .i64 (u.getD i 0)) from fun wz hz => by
                obtain ⟨b2, o2, e2, hr2⟩ := hz.at (by omega)
                simp only [Option.some.injEq, Addr.mk.injEq, and_true] at e2
                obtain ⟨rfl, rfl⟩ := e2
                exact hr2 i hiu)
              have hxnn := hx.1
              revert HT CC hx
              obtain ⟨x, hxx⟩ : ∃ x : Nat, u.getD i 0 = (x : Int) := ⟨(u.getD i 0).toNat, by omega⟩
              clear hxnn
              rw [hxx]
              clear hxx
              intro hx HT CC
              have hxm : x < m + 2 := by omega
              clear hx hiu
              revert HT HRW
              generalize u.take i = l
              intro HRW HT
              have R1 := hid (show OwnS w9 w'.heap.size (.slice (some ⟨g, 0, none⟩) (m + 2) capR) (m + 2) (fin m 0 (mk l) (mk (l ++ [(x : Int)])) G) by rw [fin_zero]; exact HRW.out)
              clear HRW
              go_wp2_with fail
              go_loopw [18] (fun kv wq => ∃ t : Nat, t ≤ 64 ∧ kv = .int .i64 t ∧ Hid (OwnS wq w'.heap.size (.slice (some ⟨g, 0, none⟩) (m + 2) capR) (m + 2) (fin m t (mk l) (mk (l ++ [(x : Int)])) G)) ∧ Hid (IntL wq w'.heap.size (some ⟨b, o, none⟩) u) ∧ Hid (Below w.heap.size w wq)) (fun kv _ => 64 - (intOf kv).toNat)
              case atStart => exact ⟨0, by omega, rfl, R1, HJ, HBL⟩
              case round =>
                clear R1 HJ HBL
                obtain ⟨t, ht, rfl, HRW, HJ, HBL⟩ := hrel
                by_cases hlt : t < 64
                · have tt : (t : Int) < 64 := by omega
                  have c1 := CC.out wr HJ.out
                  have YL := hid (fin_lt (m := m) (t := t) (M := mk l) (M' := mk (l ++ [(x : Int)])) GLT.out)
                  have EWR := hid (show IntKind.i64.wrap ((m : Int) + 1) = (m : Int) + 1 from by first | go_num | (simp only [IntKind.wrap]; omega) | (simp [IntKind.wrap]; omega) | (unfold IntKind.wrap; simp; omega) | (unfold IntKind.wrap IntKind.bits IntKind.signed; simp; omega))
                  have ETN := hid (show ((m : Int) + 1).toNat = m + 1 by omega)
                  have hcm : m ≤ capR := by have := (own_lt HRW.out).2.2; omega
                  rcases (by omega : x < m ∨ x = m ∨ x = m + 1) with hxlt | rfl | rfl
                  · have f1 : decide ((x : Int) = (m : Int)) = false := by simp; omega
                    have f2 : decide ((x : Int) = (m : Int) + 1) = false := by simp; omega
                    have HE := hid (fin_step0 (t := t) (l := l) (G := G) hxlt)
                    have R2 := hid (show OwnS wr w'.heap.size (.slice (some ⟨g, 0, none⟩) (m + 2) capR) (m + 2) (fin m (t + 1) (mk l) (mk (l ++ [(x : Int)])) G) by rw [HE.out]; exact HRW.out)
                    go_wp2_with fail
                    go_roundw
                    case rel => exact ⟨t + 1, by omega, by go_num, R2, HJ, HBL⟩
                    case measure => simp [intOf]; omega
                  · have f2 : decide ((x : Int) = (x : Int) + 1) = false := by simp; omega
                    have HE := hid (fin_stepP (m := x) (t := t) (l := l) (G := G))
                    have ti1 : (x : Int) < (x : Int) + 2 := by omega
                    have VL := hid (PP_lt GLT.out x t)
                    have VE := hid (fun bb v => (yb_PP (bb := bb) (Y := fin x t (mk l) (mk (l ++ [(x : Int)])) G) (j := x) (t := t) (v := v) (k := t) (Nat.le_refl x)).trans (fin_PP (m := x) (t := t) (k := t) (M := mk l) (M' := mk (l ++ [(x : Int)])) (G := G)))
                    revert HE YL HRW VE VL
                    generalize fin x t (mk l) (mk (l ++ [(x : Int)])) G = Y
                    generalize PP G x t = v
                    intro HRW YL HE VL VE
                    go_wp2_with fail
                    refine wp_region_put (C := fun bb z => OwnS z w'.heap.size (.slice (some ⟨g, 0, none⟩) (x + 2) capR) (x + 2) (yb bb Y x t v) ∧ IntL z w'.heap.size (some ⟨b, o, none⟩) u ∧ Below w.heap.size w z ∧ w'.heap.size ≤ z.heap.size) 10 11 (by omega) (by kernel_rfl) (by kernel_rfl) (by kernel_rfl) ⟨OwnS.drew HRW.out, HJ.out.below (B' := w'.heap.size) (Below.refl _ _).drew (Nat.le_refl _), HBL.out.drew, by have := own_lt HRW.out; show w'.heap.size ≤ wr.heap.size; omega⟩ ?_
                    simp only [List.take_succ_cons, List.take_zero, List.drop_succ_cons, List.drop_zero]
                    apply wpS_val
                    · decide
                    · rfl
                    · intro bb w' hw'
                      go_simp
                      first | exact rfl | exact ⟨rfl, hw'⟩
                    simp only [Act.put, List.setIfInBounds_toArray, List.set_cons_succ, List.set_cons_zero]
                    apply wpS_val
                    · decide
                    · rfl
                    · intro bb w' hw'
                      go_simp
                      first | exact rfl | exact ⟨rfl, hw'⟩
                    simp only [Act.put, List.setIfInBounds_toArray, List.set_cons_succ, List.set_cons_zero]
                    apply wpS_val
                    · decide
                    · rfl
                    · intro bb w' hw'
                      go_simp
                      first | exact rfl | exact ⟨rfl, hw'⟩
                    simp only [Act.put, List.setIfInBounds_toArray, List.set_cons_succ, List.set_cons_zero]
                    apply wpS_val
                    · decide
                    · rfl
                    · intro bb w' hw'
                      go_simp
                      first | exact rfl | exact ⟨rfl, hw'⟩
                    simp only [Act.put, List.setIfInBounds_toArray, List.set_cons_succ, List.set_cons_zero]
                    apply wpS_val
                    · decide
                    · rfl
                    · intro bb w' hw'
                      go_simp
                      first | exact rfl | exact ⟨rfl, hw'⟩
                    simp only [Act.put, List.setIfInBounds_toArray, List.set_cons_succ, List.set_cons_zero]
                    apply wpS_val
                    · decide
                    · rfl
                    · intro bb w' hw'
                      go_simp
                      first | exact rfl | exact ⟨rfl, hw'⟩
                    simp only [Act.put, List.setIfInBounds_toArray, List.set_cons_succ, List.set_cons_zero]
                    apply wpS_val
                    · decide
                    · rfl
                    · intro bb w' hw'
                      go_simp
                      first | exact rfl | exact ⟨rfl, hw'⟩
                    simp only [Act.put, List.setIfInBounds_toArray, List.set_cons_succ, List.set_cons_zero]
                    apply wpS_val
                    · decide
                    · rfl
                    · intro bb w6 hw6
                      have HS6 := (OwnS.secs hw6.1).1
                      go_simp
                      exact (rP_any (some ⟨g, 0, none⟩) x capR t _ (yb_lt (bb := bb) (j := x) (t := t) YL.out VL.out) (by omega) hlt w6 (fun hz => by obtain ⟨b1, o1, e1, hl1, hr1⟩ := HS6 (by omega); exact ⟨b1, o1, e1, hl1, fun i hi => hr1 i (by omega)⟩)).mono fun e w7 ⟨he, hz⟩ => ⟨by rw [he, VE.out bb v], hz ▸ hw6⟩
                    simp only [Act.put, List.setIfInBounds_toArray, List.set_cons_succ, List.set_cons_zero]
                    apply wpS_val
                    · decide
                    · rfl
                    · intro bb w' hw'
                      go_simp
                      first | exact rfl | exact ⟨rfl, hw'⟩
                    simp only [Act.put, List.setIfInBounds_toArray, List.set_cons_succ, List.set_cons_zero]
                    apply wpS_val
                    · decide
                    · rfl
                    · intro bb w' hw'
                      go_simp
                      first | exact rfl | exact ⟨rfl, hw'⟩
                    simp only [Act.put, List.setIfInBounds_toArray, List.set_cons_succ, List.set_cons_zero]
                    apply wpS_put
                    · rfl
                    · rfl
                    · intro w6 hw6
                      have hq : OwnS w6 w'.heap.size (.slice (some ⟨g, 0, none⟩) (x + 2) capR) (x + 2) Y := hw6.1
                      have d3 := World.ownsRow.frozenAt hq (x * 64 + t)
                      have d4 := OwnS.cellAt hq (i := x) (k := t) (by omega) hlt
                      obtain ⟨o7, g7⟩ := OwnS.put (i := x) hq hlt v
                      go_simp
                      first | exact ⟨rfl, o7, hw6.2.1.only g7 G1.out, hw6.2.2.1.trans (only_Below g7 (Nat.le_trans HB.out.size G1.out) hw6.2.2.1.size)⟩ | exact ⟨rfl, o7, hw6.2.1.only g7 G1.out, hw6.2.2.1.trans (only_Below g7 (Nat.le_trans HB.out.size G1.out) hw6.2.2.1.size), Nat.le_trans hw6.2.2.2 g7.size⟩
                    simp only [Act.put, List.setIfInBounds_toArray, List.set_cons_succ, List.set_cons_zero]
                    refine wpS_nil fun w6 hw6 => ?_
                    have c1 := CC.out w6 hw6.2.1
                    have R2 := hid (show OwnS w6 w'.heap.size (.slice (some ⟨g, 0, none⟩) (x + 2) capR) (x + 2) (fin x (t + 1) (mk l) (mk (l ++ [(x : Int)])) G) by rw [HE.out]; exact hw6.1)
                    have J2 := hid hw6.2.1
                    have B2' := hid hw6.2.2.1
                    clear hw6 HRW HJ HBL
                    go_wp2_with fail
                    go_roundw
                    case rel => exact ⟨t + 1, by omega, by go_num, R2, J2, B2'⟩
                    case measure => simp [intOf]; omega
                  · have f1 : decide ((m : Int) + 1 = (m : Int)) = false := by simp; omega
                    have HE := hid (fin_stepQ (m := m) (t := t) (l := l) (G := G))
                    have ti1 : (m : Int) + 1 < (m : Int) + 2 := by omega
                    have VL := hid (QQ_lt (F := G) m t)
                    have VE := hid (fun bb v => (yb_QQ (bb := bb) (m := m) (Y := fin m t (mk l) (mk (l ++ [((m + 1 : Nat) : Int)])) G) (j := m + 1) (t := t) (v := v) (k := t) (Nat.le_succ m)).trans (fin_QQ (m := m) (t := t) (k := t) (M := mk l) (M' := mk (l ++ [((m + 1 : Nat) : Int)])) (G := G)))
                    revert HE YL HRW VE VL
                    generalize fin m t (mk l) (mk (l ++ [((m + 1 : Nat) : Int)])) G = Y
                    generalize QQ G m t = v
                    intro HRW YL HE VL VE
                    go_wp2_with fail
                    refine wp_region_put (C := fun bb z => OwnS z w'.heap.size (.slice (some ⟨g, 0, none⟩) (m + 2) capR) (m + 2) (yb bb Y (m + 1) t v) ∧ IntL z w'.heap.size (some ⟨b, o, none⟩) u ∧ Below w.heap.size w z ∧ w'.heap.size ≤ z.heap.size) 11 12 (by omega) (by kernel_rfl) (by kernel_rfl) (by kernel_rfl) ⟨OwnS.drew HRW.out, HJ.out.below (B' := w'.heap.size) (Below.refl _ _).drew (Nat.le_refl _), HBL.out.drew, by have := own_lt HRW.out; show w'.heap.size ≤ wr.heap.size; omega⟩ ?_
                    simp only [List.take_succ_cons, List.take_zero, List.drop_succ_cons, List.drop_zero]
                    apply wpS_val
                    · decide
                    · rfl
                    · intro bb w' hw'
                      go_simp
                      first | exact rfl | exact ⟨rfl, hw'⟩
                    simp only [Act.put, List.setIfInBounds_toArray, List.set_cons_succ, List.set_cons_zero]
                    apply wpS_val
                    · decide
                    · rfl
                    · intro bb w' hw'
                      go_simp
                      first | exact rfl | exact ⟨rfl, hw'⟩
                    simp only [Act.put, List.setIfInBounds_toArray, List.set_cons_succ, List.set_cons_zero]
                    apply wpS_val
                    · decide
                    · rfl
                    · intro bb w' hw'
                      have hq1 : _ := EWR.out
                      go_simp
                      first | exact rfl | exact ⟨rfl, hw'⟩
                    simp only [Act.put, List.setIfInBounds_toArray, List.set_cons_succ, List.set_cons_zero]
                    apply wpS_val
                    · decide
                    · rfl
                    · intro bb w' hw'
                      go_simp
                      first | exact rfl | exact ⟨rfl, hw'⟩
                    simp only [Act.put, List.setIfInBounds_toArray, List.set_cons_succ, List.set_cons_zero]
                    apply wpS_val
                    · decide
                    · rfl
                    · intro bb w' hw'
                      go_simp
                      first | exact rfl | exact ⟨rfl, hw'⟩
                    simp only [Act.put, List.setIfInBounds_toArray, List.set_cons_succ, List.set_cons_zero]
                    apply wpS_val
                    · decide
                    · rfl
                    · intro bb w' hw'
                      go_simp
                      first | exact rfl | exact ⟨rfl, hw'⟩
                    simp only [Act.put, List.setIfInBounds_toArray, List.set_cons_succ, List.set_cons_zero]
                    apply wpS_val
                    · decide
                    · rfl
                    · intro bb w' hw'
                      go_simp
                      first | exact rfl | exact ⟨rfl, hw'⟩
                    simp only [Act.put, List.setIfInBounds_toArray, List.set_cons_succ, List.set_cons_zero]
                    apply wpS_val
                    · decide
                    · rfl
                    · intro bb w' hw'
                      go_simp
                      first | exact rfl | exact ⟨rfl, hw'⟩
                    simp only [Act.put, List.setIfInBounds_toArray, List.set_cons_succ, List.set_cons_zero]
                    apply wpS_val
                    · decide
                    · rfl
                    · intro bb w6 hw6
                      have HS6 := (OwnS.secs hw6.1).1
                      go_simp
                      exact (rQ_any (some ⟨g, 0, none⟩) m capR t _ (yb_lt (bb := bb) (j := m + 1) (t := t) YL.out VL.out) (by omega) hlt w6 (fun hz => by obtain ⟨b1, o1, e1, hl1, hr1⟩ := HS6 (by omega); exact ⟨b1, o1, e1, hl1, fun i hi => hr1 i (by omega)⟩)).mono fun e w7 ⟨he, q, hz⟩ => ⟨by rw [he, VE.out bb v], by rw [hz]; have hd := below_drewN (Below.refl w6.heap.size w6) q; exact ⟨OwnS.below hw6.1 hd (Nat.le_refl _), hw6.2.1.below hd hw6.2.2.2, hw6.2.2.1.trans (hd.mono hw6.2.2.1.size), Nat.le_trans hw6.2.2.2 hd.size⟩⟩
                    simp only [Act.put, List.setIfInBounds_toArray, List.set_cons_succ, List.set_cons_zero]
                    apply wpS_val
                    · decide
                    · rfl
                    · intro bb w' hw'
                      have hq2 : _ := ETN.out
                      go_simp
                      first | exact rfl | exact ⟨rfl, hw'⟩
                    simp only [Act.put, List.setIfInBounds_toArray, List.set_cons_succ, List.set_cons_zero]
                    apply wpS_val
                    · decide
                    · rfl
                    · intro bb w' hw'
                      go_simp
                      first | exact rfl | exact ⟨rfl, hw'⟩
                    simp only [Act.put, List.setIfInBounds_toArray, List.set_cons_succ, List.set_cons_zero]
                    apply wpS_put
                    · rfl
                    · rfl
                    · intro w6 hw6
                      have hq : OwnS w6 w'.heap.size (.slice (some ⟨g, 0, none⟩) (m + 2) capR) (m + 2) Y := hw6.1
                      have d3 := World.ownsRow.frozenAt hq ((m + 1) * 64 + t)
                      have d4 := OwnS.cellAt hq (i := m + 1) (k := t) (by omega) hlt
                      obtain ⟨o7, g7⟩ := OwnS.put (i := m + 1) hq hlt v
                      go_simp
                      first | exact ⟨rfl, o7, hw6.2.1.only g7 G1.out, hw6.2.2.1.trans (only_Below g7 (Nat.le_trans HB.out.size G1.out) hw6.2.2.1.size)⟩ | exact ⟨rfl, o7, hw6.2.1.only g7 G1.out, hw6.2.2.1.trans (only_Below g7 (Nat.le_trans HB.out.size G1.out) hw6.2.2.1.size), Nat.le_trans hw6.2.2.2 g7.size⟩
                    simp only [Act.put, List.setIfInBounds_toArray, List.set_cons_succ, List.set_cons_zero]
                    refine wpS_nil fun w6 hw6 => ?_
                    have c1 := CC.out w6 hw6.2.1
                    have R2 := hid (show OwnS w6 w'.heap.size (.slice (some ⟨g, 0, none⟩) (m + 2) capR) (m + 2) (fin m (t + 1) (mk l) (mk (l ++ [((m + 1 : Nat) : Int)])) G) by rw [HE.out]; exact hw6.1)
                    have J2 := hid hw6.2.1
                    have B2' := hid hw6.2.2.1
                    clear hw6 HRW HJ HBL
                    go_wp2_with fail
                    go_roundw
                    case rel => exact ⟨t + 1, by omega, by go_num, R2, J2, B2'⟩
                    case measure => simp [intOf]; omega
                · obtain rfl : t = 64 := by omega
                  have R2 := hid (show OwnS wr w'.heap.size (.slice (some ⟨g, 0, none⟩) (m + 2) capR) (m + 2) (mendP m (mk (u.take (i + 1))) G) by
                    rw [HT.out]
                    exact OwnS.mono HRW.out fun j q _ hq => (fin_64 hq).symm)
                  clear HRW
                  go_wp2_with fail
                  go_roundw
                  case rel => exact ⟨i + 1, by omega, by go_num, R2, HJ, HBL⟩
                  case measure => simp [intOf]; omega
            · obtain rfl : i = k + 1 := by omega
              have R2 := hid (show OwnS wr w.heap.size (.slice (some ⟨g, 0, none⟩) (m + 2) capR) (m + 2) (mendP m (mk u) (mid m 64 (mk u) F)) by
                have h := HRW.out
                rw [List.take_of_length_le (by rw [HK.out]; exact Nat.le_refl _), HGE.out] at h
                exact World.ownsRow.mono h HB.out.size)
              clear HRW
              go_wp2_with fail
              go_ret2
              exact ⟨g, capR, rfl, R2.out, HBL.out⟩
end Go.Proofs.Ytlbfjnddbdpdpaa
set_option maxRecDepth 100000
namespace Go.Proofs.Ytlbfjnddbdpdpaa
open Go.ChangeShapes Go.WideShapes Go.ChangeAt Go.RowKit
attribute [local go_sem] Gives
theorem OwnS.nil' (w : World) (B : Nat) (F : Nat → Nat → Nat) : OwnS w B (.slice none 0 0) 0 F := by
  have h0 : (Go.Proofs.Ytlbfjnddbdpdpaa.secs 0 F).toList = [] := List.eq_nil_of_length_eq_zero (by rw [Array.length_toList, size_secs])
  unfold OwnS
  rw [h0]
  exact World.ownsRow_nil w _ _ _
set_option maxRecDepth 100000 in
set_option maxHeartbeats 1500000 in
theorem rfix_none (A A' : Option Addr) (m cap n c : Nat) (l : List Int) (F : Nat → Nat → Nat) (hF : ∀ i k, F i k < 256) (hl : l.length = n) (hn : n ≤ 1000) (h1 : 1 ≤ m) (h2 : m ≤ 62) (w : World) (hs : IntL w w.heap.size A' l) (hS : Secs w w.heap.size A (m + 2) F)
    (hk : (uniq l).length = 0) :
    Calls Try.prog 33 #[.slice A (m + 2) cap, .slice A' n c] w fun e w' => ∃ g cap' : Nat, e = .returned (.tuple #[.slice (some ⟨g, 0, none⟩) (m + 2) cap', .int .i64 0]) ∧
      OwnS w' w.heap.size (.slice (some ⟨g, 0, none⟩) (m + 2) cap') (m + 2) F ∧ Below w.heap.size w w' := by
  have HU := hid (runlike_any A' n c l hl hn w hs)
  clear hs
  revert HU hk
  generalize uniq l = u
  intro hk HU
  have HF := hid hF
  clear hF hl hn
  obtain ⟨sb, so, rfl, _, _⟩ := hS (by omega)
  have HS := hid hS
  clear hS
  have tN : decide ((m : Int) < 1) = false := by simp; omega
  have t62 : decide ((62 : Int) < (m : Int)) = false := by simp; omega
  go_enter Try.func33, Try.ntmps33
  go_wp2_with fail
  refine HU.out.mono ?_
  rintro e w' ⟨v, rfl, hO, hb⟩
  have HB := hid hb
  clear hb
  obtain ⟨A2, c2, rfl, hc1, _, _, hI⟩ := hO.any
  clear hI hO HU
  rw [hk] at hc1 ⊢
  clear hk
  have S1 := hid ((HS.out.below HB.out (Nat.le_refl _)))
  have N1 := hid (OwnS.nil' w' w'.heap.size F)
  go_wp2_with ((with_reducible apply wapp (v := .slice none 0 0)); rfl; rfl; exact N1.out; exact S1.out; omega; exact Nat.le_refl _; intro v1 w2 own grow hnil)
  have hne : v1 ≠ .slice none 0 0 := fun e => by have := (hnil.1 e).2; omega
  rw [Nat.zero_add] at own
  obtain ⟨g, capR, rfl, hg1, hg2, _, _⟩ := own.form hne
  have o2 := hid (own.mono (G := F) fun j q _ _ => by unfold catF; simp)
  have B2 := hid (show Below w'.heap.size w' w2 from (Below.refl _ _).grown grow (Nat.le_refl _) fun g h => by cases h)
  clear own hnil hne N1
  have BB := hid (HB.out.trans (B2.out.mono HB.out.size))
  clear S1 grow
  go_loopw [9, 10, 11] (fun dv pv iv wr => iv = .int .i64 0 ∧ dv = .slice none 0 0 ∧ pv = .bool false ∧ Hid (OwnS wr w'.heap.size (.slice (some ⟨g, 0, none⟩) (m + 2) capR) (m + 2) F) ∧ Hid (Below w.heap.size w wr)) (fun _ _ _ _ => 0)
  case atStart => exact ⟨rfl, rfl, rfl, o2, BB⟩
  case round =>
    obtain ⟨rfl, rfl, rfl, HRW, HBL⟩ := hrel
    obtain ⟨w3, hw3⟩ : ∃ w3, w3 = wr := ⟨_, rfl⟩
    subst hw3
    go_wp2_with fail
    go_loopw [12] (fun kv wq => ∃ t : Nat, t ≤ 64 ∧ kv = .int .i64 t ∧ Hid (OwnS wq w'.heap.size (.slice (some ⟨g, 0, none⟩) (m + 2) capR) (m + 2) F) ∧ Hid (Below w.heap.size w wq)) (fun kv _ => 64 - (intOf kv).toNat)
    case atStart => exact ⟨0, by omega, rfl, HRW, HBL⟩
    case round =>
      clear HRW HBL
      obtain ⟨t, ht, rfl, HRW, HBL⟩ := hrel
      by_cases hlt : t < 64
      · have tt : (t : Int) < 64 := by omega
        have hl3 := own_lt HRW.out
        have GL := hid hl3.1
        have Q1 := hid (OwnS.cellAt HRW.out (i := m) (by omega) hlt)
        have Q2 := hid (OwnS.cellAt HRW.out (i := m + 1) (by omega) hlt)
        have HSM := hid (show Secs wr wr.heap.size (some ⟨g, 0, none⟩) m F from fun _ => ⟨g, 0, rfl, GL.out, fun i hi => own_range HRW.out (by omega)⟩)
        have EX1 := hid (u8_xor_nat _ _ (HF.out m t) (PP_lt HF.out m t))
        have EX2 := hid (u8_xor_nat _ _ (HF.out (m + 1) t) (QQ_lt (F := F) m t))
        have hcm : m ≤ capR := by omega
        have ti1 : (m : Int) < (m : Int) + 2 := by omega
        have ti2 : (m : Int) + 1 < (m : Int) + 2 := by omega
        have EWR := hid (show IntKind.i64.wrap ((m : Int) + 1) = (m : Int) + 1 from by first | go_num | (simp only [IntKind.wrap]; omega) | (simp [IntKind.wrap]; omega) | (unfold IntKind.wrap; simp; omega) | (unfold IntKind.wrap IntKind.bits IntKind.signed; simp; omega))
        have ETN := hid (show ((m : Int) + 1).toNat = m + 1 by omega)
        clear hl3
        go_wp2_with fail
        refine wp_region_tail (C := fun z => Below wr.heap.size wr z) 12 (by kernel_rfl) (by kernel_rfl) (by kernel_rfl) (Below.refl _ _).drew ?_
        simp only [List.take_succ_cons, List.take_zero, List.drop_succ_cons, List.drop_zero]
        apply wpK_val
        · rfl
        · intro w' hw'
          go_simp
          first | exact rfl | exact ⟨rfl, hw'⟩
        simp only [Act.put, List.setIfInBounds_toArray, List.set_cons_succ, List.set_cons_zero]
        apply wpK_val
        · rfl
        · intro w' hw'
          go_simp
          first | exact rfl | exact ⟨rfl, hw'⟩
        simp only [Act.put, List.setIfInBounds_toArray, List.set_cons_succ, List.set_cons_zero]
        apply wpK_val
        · rfl
        · intro w' hw'
          go_simp
          first | exact rfl | exact ⟨rfl, hw'⟩
        simp only [Act.put, List.setIfInBounds_toArray, List.set_cons_succ, List.set_cons_zero]
        apply wpK_val
        · rfl
        · intro w' hw'
          go_simp
          first | exact rfl | exact ⟨rfl, hw'⟩
        simp only [Act.put, List.setIfInBounds_toArray, List.set_cons_succ, List.set_cons_zero]
        apply wpK_val
        · rfl
        · intro w' hw'
          go_simp
          first | exact rfl | exact ⟨rfl, hw'⟩
        simp only [Act.put, List.setIfInBounds_toArray, List.set_cons_succ, List.set_cons_zero]
        apply wpK_val
        · rfl
        · intro w' hw'
          have hcell := (hw'.cell (p := ⟨g, m * 64 + t, none⟩) GL.out).trans Q1.out
          go_simp
          first | exact rfl | exact ⟨rfl, hw'⟩
        simp only [Act.put, List.setIfInBounds_toArray, List.set_cons_succ, List.set_cons_zero]
        apply wpK_val
        · rfl
        · intro w' hw'
          go_simp
          first | exact rfl | exact ⟨rfl, hw'⟩
        simp only [Act.put, List.setIfInBounds_toArray, List.set_cons_succ, List.set_cons_zero]
        apply wpK_val
        · rfl
        · intro w' hw'
          go_simp
          first | exact rfl | exact ⟨rfl, hw'⟩
        simp only [Act.put, List.setIfInBounds_toArray, List.set_cons_succ, List.set_cons_zero]
        apply wpK_val
        · rfl
        · intro w' hw'
          go_simp
          first | exact rfl | exact ⟨rfl, hw'⟩
        simp only [Act.put, List.setIfInBounds_toArray, List.set_cons_succ, List.set_cons_zero]
        apply wpK_val
        · rfl
        · intro w' hw'
          go_simp
          first | exact rfl | exact ⟨rfl, hw'⟩
        simp only [Act.put, List.setIfInBounds_toArray, List.set_cons_succ, List.set_cons_zero]
        apply wpK_val
        · rfl
        · intro w' hw'
          go_simp
          exact (rP_any (some ⟨g, 0, none⟩) m capR t _ HF.out (by omega) hlt w' ((HSM.out.below hw' (Nat.le_refl _)).more hw'.size)).mono fun e w'' ⟨he, hz⟩ => ⟨he, hz ▸ hw'⟩
        simp only [Act.put, List.setIfInBounds_toArray, List.set_cons_succ, List.set_cons_zero]
        apply wpK_val
        · rfl
        · intro w' hw'
          have h1 : _ := EX1.out
          go_simp
          first | exact rfl | exact ⟨rfl, hw'⟩
        simp only [Act.put, List.setIfInBounds_toArray, List.set_cons_succ, List.set_cons_zero]
        refine wpK_nil fun w4 hw4 => ?_
        go_wp2_with fail
        refine wp_region_tail (C := fun z => Below wr.heap.size wr z) 13 (by kernel_rfl) (by kernel_rfl) (by kernel_rfl) hw4.drew ?_
        simp only [List.take_succ_cons, List.take_zero, List.drop_succ_cons, List.drop_zero]
        apply wpK_val
        · rfl
        · intro w' hw'
          go_simp
          first | exact rfl | exact ⟨rfl, hw'⟩
        simp only [Act.put, List.setIfInBounds_toArray, List.set_cons_succ, List.set_cons_zero]
        apply wpK_val
        · rfl
        · intro w' hw'
          go_simp
          first | exact rfl | exact ⟨rfl, hw'⟩
        simp only [Act.put, List.setIfInBounds_toArray, List.set_cons_succ, List.set_cons_zero]
        apply wpK_val
        · rfl
        · intro w' hw'
          have hq1 : _ := EWR.out
          go_simp
          first | exact rfl | exact ⟨rfl, hw'⟩
        simp only [Act.put, List.setIfInBounds_toArray, List.set_cons_succ, List.set_cons_zero]
        apply wpK_val
        · rfl
        · intro w' hw'
          go_simp
          first | exact rfl | exact ⟨rfl, hw'⟩
        simp only [Act.put, List.setIfInBounds_toArray, List.set_cons_succ, List.set_cons_zero]
        apply wpK_val
        · rfl
        · intro w' hw'
          have hq2 : _ := ETN.out
          go_simp
          first | exact rfl | exact ⟨rfl, hw'⟩
        simp only [Act.put, List.setIfInBounds_toArray, List.set_cons_succ, List.set_cons_zero]
        apply wpK_val
        · rfl
        · intro w' hw'
          go_simp
          first | exact rfl | exact ⟨rfl, hw'⟩
        simp only [Act.put, List.setIfInBounds_toArray, List.set_cons_succ, List.set_cons_zero]
        apply wpK_val
        · rfl
        · intro w' hw'
          have hcell := (hw'.cell (p := ⟨g, (m + 1) * 64 + t, none⟩) GL.out).trans Q2.out
          go_simp
          first | exact rfl | exact ⟨rfl, hw'⟩
        simp only [Act.put, List.setIfInBounds_toArray, List.set_cons_succ, List.set_cons_zero]
        apply wpK_val
        · rfl
        · intro w' hw'
          go_simp
          first | exact rfl | exact ⟨rfl, hw'⟩
        simp only [Act.put, List.setIfInBounds_toArray, List.set_cons_succ, List.set_cons_zero]
        apply wpK_val
        · rfl
        · intro w' hw'
          go_simp
          first | exact rfl | exact ⟨rfl, hw'⟩
        simp only [Act.put, List.setIfInBounds_toArray, List.set_cons_succ, List.set_cons_zero]
        apply wpK_val
        · rfl
        · intro w' hw'
          go_simp
          first | exact rfl | exact ⟨rfl, hw'⟩
        simp only [Act.put, List.setIfInBounds_toArray, List.set_cons_succ, List.set_cons_zero]
        apply wpK_val
        · rfl
        · intro w' hw'
          go_simp
          first | exact rfl | exact ⟨rfl, hw'⟩
        simp only [Act.put, List.setIfInBounds_toArray, List.set_cons_succ, List.set_cons_zero]
        apply wpK_val
        · rfl
        · intro w' hw'
          go_simp
          exact (rQ_any (some ⟨g, 0, none⟩) m capR t _ HF.out (by omega) hlt w' ((HSM.out.below hw' (Nat.le_refl _)).more hw'.size)).mono fun e w'' ⟨he, q, hz⟩ => ⟨he, by rw [hz]; exact below_drewN hw' q⟩
        simp only [Act.put, List.setIfInBounds_toArray, List.set_cons_succ, List.set_cons_zero]
        apply wpK_val
        · rfl
        · intro w' hw'
          have h1 : _ := EX2.out
          go_simp
          first | exact rfl | exact ⟨rfl, hw'⟩
        simp only [Act.put, List.setIfInBounds_toArray, List.set_cons_succ, List.set_cons_zero]
        refine wpK_nil fun w5 hw5 => ?_
        have HR5 := hid (OwnS.below HRW.out hw5 (Nat.le_refl _))
        have HB5 := hid (HBL.out.trans (hw5.mono HBL.out.size))
        clear HRW HBL hw5 hw4 Q1 Q2 HSM EX1 EX2 EWR ETN GL
        go_wp2_with fail
        go_roundw
        case rel => exact ⟨t + 1, by omega, by go_num, HR5, HB5⟩
        case measure => simp [intOf]; omega
      · have tf : decide ((t : Int) < 64) = false := by simp; omega
        obtain ⟨w8, hw8⟩ : ∃ z : World, z = wr := ⟨_, rfl⟩
        subst hw8
        go_wp2_with fail
        clear tf
        go_loopw [17] (fun iv wq => iv = .int .i64 0 ∧ Hid (OwnS wq w'.heap.size (.slice (some ⟨g, 0, none⟩) (m + 2) capR) (m + 2) F) ∧ Hid (Below w.heap.size w wq)) (fun _ _ => 0)
        case atStart => exact ⟨rfl, HRW, HBL⟩
        case round =>
          clear HRW HBL
          obtain ⟨rfl, HRW, HBL⟩ := hrel
          have R2 := hid (World.ownsRow.mono HRW.out HB.out.size)
          clear HRW
          go_wp2_with fail
          go_ret2
          exact ⟨g, capR, rfl, R2.out, HBL.out⟩
end Go.Proofs.Ytlbfjnddbdpdpaa
set_option maxRecDepth 100000
namespace Go.Proofs.Ytlbfjnddbdpdpaa
open Go.ChangeShapes Go.WideShapes Go.ChangeAt Go.RowKit
/-- A row of the call's own, and no error. -/
def FixGood (N : Nat) (G : Nat → Nat → Nat) (w : World) (e : Ending) (w' : World) : Prop :=
  ∃ g cap' : Nat, e = .returned (.tuple #[.slice (some ⟨g, 0, none⟩) N cap', .int .i64 0]) ∧ OwnS w' w.heap.size (.slice (some ⟨g, 0, none⟩) N cap') N G ∧ Below w.heap.size w w'
theorem mk_empty {l : List Int} (h : l = []) : mk l = fun _ => false := by
  subst h
  funext j
  cases h : mk [] j with
  | false => rfl
  | true => exact absurd (mk_iff.1 h) (by simp)
theorem mendD_none {m : Nat} {F : Nat → Nat → Nat} : mendD m (fun _ => false) F = F := by
  have h : gapsL m (fun _ => false) = [] := by unfold gapsL; simp
  unfold mendD
  rw [h]
  funext i k
  exact congrFun (zeroed_not rfl) k
/-- Both refuse, with the same error, or both answer the same row. -/
theorem fix_both (N n : Nat) (l : List Int) (F : Nat → Nat → Nat) (hF : ∀ i k, F i k < 256) (hl : l.length = n) (hn : n ≤ 5) (hN : N ≤ 70) :
    (∃ E : Int, (∀ (A A' : Option Addr) (cap c : Nat) w, IntL w w.heap.size A' l → Calls Try.prog 32 #[.slice A N cap, .slice A' n c] w (FixBad E w)) ∧
      (∀ (B B' : Option Addr) (cap2 c2 : Nat) w, IntL w w.heap.size B' l → Calls Try.prog 33 #[.slice B N cap2, .slice B' n c2] w (FixBad E w))) ∨
    ∃ G H : Nat → Nat → Nat, allS N G H = true ∧ (∀ (A A' : Option Addr) (cap c : Nat) w, IntL w w.heap.size A' l → Secs w w.heap.size A N F → Calls Try.prog 32 #[.slice A N cap, .slice A' n c] w (FixGood N G w)) ∧
      (∀ (B B' : Option Addr) (cap2 c2 : Nat) w, IntL w w.heap.size B' l → Secs w w.heap.size B N F → Calls Try.prog 33 #[.slice B N cap2, .slice B' n c2] w (FixGood N H w)) := by
  subst hl
  by_cases h3 : N < 3
  · exact .inl ⟨2, fun A A' cap c w _ => fix_few A A' N cap _ c h3 w, fun B B' cap2 c2 w hs => rfix_few B B' N cap2 _ c2 l rfl (by omega) (by omega) w hs h3⟩
  cases hO : anyOut N l.length fun i => l.getD i 0 with
  | true => exact .inl ⟨2, fun A A' cap c w hs => fix_out A A' N cap _ c _ (by omega) (by omega) (by omega) w hs hO, fun B B' cap2 c2 w hs => rfix_out B B' N cap2 _ c2 l rfl (by omega) (by omega) w hs (by omega) hO⟩
  | false =>
    by_cases h64 : 64 < N
    · exact .inl ⟨3, fun A A' cap c w hs => fix_long A A' N cap _ c _ (by omega) (by omega) (by omega) w hs hO h64, fun B B' cap2 c2 w hs => rfix_long B B' N cap2 _ c2 l rfl (by omega) (by omega) w hs (by omega) hO h64⟩
    have hR : ∀ x, x ∈ l → 0 ≤ x ∧ x < N := fun x hx => by
      obtain ⟨i, hi, e⟩ := List.mem_iff_getElem.1 hx
      have := anyOut_iff.1 hO i hi
      rw [List.getD_eq_getElem?_getD, List.getElem?_eq_getElem hi, Option.getD_some, e] at this
      exact this
    have hc := cnt_uniq (l := l) (N := N) (by omega) hR
    by_cases hu : 2 < (uniq l).length
    · exact .inl ⟨7, fun A A' cap c w hs => fix_full A A' N cap _ c _ (by omega) (by omega) (by omega) w hs hO (by omega) (by show 2 < cntM (mk l); omega), fun B B' cap2 c2 w hs => rfix_full B B' N cap2 _ c2 l rfl (by omega) (by omega) w hs (by omega) hO (by omega) hu⟩
    obtain ⟨m, rfl⟩ : ∃ m, N = m + 2 := ⟨N - 2, by omega⟩
    refine .inr ?_
    have hP : ∀ (A A' : Option Addr) (cap c : Nat) w, IntL w w.heap.size A' l → Secs w w.heap.size A (m + 2) F → Calls Try.prog 32 #[.slice A (m + 2) cap, .slice A' l.length c] w (FixGood (m + 2) (mendP m (mk l) (mendD m (mk l) F)) w) :=
      fun A A' cap c w hs hS => fix_ok A A' m cap _ c _ F hF (by omega) (by omega) (by omega) w hs hS hO (by show cntM (mk l) ≤ 2; omega)
    cases hz : (uniq l).length with
    | zero =>
      refine ⟨_, F, ?_, hP, fun B B' cap2 c2 w hs hS => rfix_none B B' m cap2 _ c2 l F hF rfl (by omega) (by omega) (by omega) w hs hS hz⟩
      have h0 : l = [] := by
        cases l with
        | nil => rfl
        | cons x t => exact absurd (List.length_pos_of_mem (mem_uniq.2 (show x ∈ x :: t by simp))) (by omega)
      refine allS_yes fun i _ k _ => ?_
      rw [mk_empty h0, mendD_none, mendP_none rfl rfl]
    | succ k =>
      refine ⟨_, _, ?_, hP, fun B B' cap2 c2 w hs hS => rfix_some B B' m cap2 _ c2 k l F hF rfl (by omega) (by omega) (by omega) w hs hS hO hz (by omega)⟩
      exact allS_yes fun i hi k hk => (fin_same hi hk).symm
end Go.Proofs.Ytlbfjnddbdpdpaa
set_option maxRecDepth 100000
namespace Go.Proofs.Ytlbfjnddbdpdpaa
open Go.ChangeShapes Go.WideShapes Go.ChangeAt Go.RowKit
theorem built_row (parts : List (Nat × Value)) : Try.prog.built 75 parts = Instr.fill ((#[(0, 64), (64, 64), (128, 64)] : Array (Nat × Nat))[·]?) (row 192 fun _ => .int .u8 0) parts := by kernel_rfl
theorem info_row : (Try.prog.info? 75).map (·.size) = some 192 := by kernel_rfl
def z3 : Nat → Nat → Nat := fun _ _ => 0
theorem zero_row (w : World) : (zeroValue 75).run Try.prog w = .ok (.agg (secs 3 z3)) w :=
  (zero_of_info (P := Try.prog) (t := 75) (v := .agg (secs 3 z3)) (n := 192) (by kernel_rfl)).1 w
theorem run_build_row3 (w : World) (parts : Array (Nat × Value)) (i : Nat) (l : List (Nat → Nat)) (F : Nat → Nat → Nat) (hp : parts.toList = partsFrom i l) (hl : i + l.length ≤ 3)
    (hF : ∀ j k, j < 3 → k < 64 → F j k = if i ≤ j ∧ j < i + l.length then l.getD (j - i) (fun _ => 0) k else 0) :
    (Instr.build 75 parts).run Try.prog w = .ok (.agg (secs 3 F)) w := by
  refine run_build w 75 parts _ ?_
  rw [built_row, hp]
  have h3 : ∀ j, j < 3 → ((#[(0, 64), (64, 64), (128, 64)] : Array (Nat × Nat))[j]?) = some (j * 64, 64) := fun j hj => by
    match j, hj with
    | 0, _ => rfl
    | 1, _ => rfl
    | 2, _ => rfl
  have := fill_secs 3 h3 l i (fun _ => .int .u8 0) hl
  refine Eq.trans this (congrArg some (row_ext fun j hj => ?_))
  rw [hF (j / 64) (j % 64) (by omega) (Nat.mod_lt _ (by omega))]
  by_cases h : i * 64 ≤ j ∧ j < (i + l.length) * 64
  · rw [if_pos h, if_pos (by omega)]
  · rw [if_neg h, if_neg (by omega)]; rfl
theorem eqg_row : Try.prog.eqGuardType Try.prog.depth 75 = false := by kernel_rfl
theorem run_part_sec (w : World) (F : Nat → Nat → Nat) (i : Nat) (hi : i < 3) : (part 32 (secs 3 F) (i * 64)).run Try.prog w = .ok (.agg (sec (F i))) w := by
  have h1 : (isAgg 32).run Try.prog w = .ok true w := by unfold isAgg; rw [Sem.run_bind, run_underlying Try.underlying32 w]; rfl
  have h2 : (sizeOf 32).run Try.prog w = .ok 64 w := by
    have := info_sec
    cases hq : Try.prog.info? 32 with
    | none => simp [hq] at this
    | some i => simp [hq] at this; simp [sizeOf, typeInfo, hq, this]
  simp only [part, Sem.run_bind, h1, h2, Result.andThen_ok, if_true, Sem.run_pure, extract_secs hi]
theorem run_eql_row (w : World) (F G : Nat → Nat → Nat) : (binOp .eql 75 (.agg (secs 3 F)) (.agg (secs 3 G))).run Try.prog w = .ok (.bool (eqS (F 0) (G 0) && (eqS (F 1) (G 1) && eqS (F 2) (G 2)))) w := by
  rw [run_eql_struct, run_equalIn_agg w 9999 75 _ _ (by kernel_rfl) (by kernel_rfl)]
  have hE : ∀ (w : World) (f g : Nat → Nat), (Op.equalIn 9999 32 (.agg (sec f)) (.agg (sec g))).run Try.prog w = .ok (eqS f g) w := fun w f g =>
    run_equalIn_row (P := Try.prog) (d := 9997) (t := 32) (e := 5) (k := .u8) (n := 64) (f := fun k => f k) (g := fun k => g k) Try.underlying32 Try.underlying5 (by kernel_rfl) w
  have p0 : ∀ (w : World) (F : Nat → Nat → Nat), (part 32 (secs 3 F) 0).run Try.prog w = .ok (.agg (sec (F 0))) w := fun w F => run_part_sec w F 0 (by omega)
  have p1 : ∀ (w : World) (F : Nat → Nat → Nat), (part 32 (secs 3 F) 64).run Try.prog w = .ok (.agg (sec (F 1))) w := fun w F => run_part_sec w F 1 (by omega)
  have p2 : ∀ (w : World) (F : Nat → Nat → Nat), (part 32 (secs 3 F) 128).run Try.prog w = .ok (.agg (sec (F 2))) w := fun w F => run_part_sec w F 2 (by omega)
  have hfs : (Try.prog.fieldsOf 75).toList.map (fun f => (f.name, f.type, f.offset)) = [("P", 32, 0), ("Q", 32, 64), ("Old", 32, 128)] := by kernel_rfl
  generalize (Try.prog.fieldsOf 75).toList = fs at hfs
  rcases fs with _ | ⟨f0, _ | ⟨f1, _ | ⟨f2, _ | ⟨f3, r⟩⟩⟩⟩
  · cases hfs
  · simp at hfs
  · simp at hfs
  · simp only [List.map_cons, List.map_nil, List.cons.injEq, Prod.mk.injEq, and_true] at hfs
    obtain ⟨⟨n0, t0, o0⟩, ⟨n1, t1, o1⟩, n2, t2, o2⟩ := hfs
    simp only [Op.eqFields, n0, n1, n2, t0, t1, t2, o0, o1, o2]
    rw [if_pos (by decide), if_pos (by decide), if_pos (by decide)]
    simp only [Sem.run_bind, p0, p1, p2, Result.andThen_ok, hE, Sem.run_ite, Sem.run_pure]
    cases eqS (F 0) (G 0) <;> cases eqS (F 1) (G 1) <;> cases eqS (F 2) (G 2) <;> rfl
  · simp at hfs
section
variable {ops : Array Oper} {Q : Exit → Act → World → Prop} {a : Act} {w : World} {rest : List Oper} {dst : Option Tmp} {ty : TypeId} {pos : String} {after : Array Edge} {x y : Operand} {g : Nat} {F F0 : Nat → Nat → Nat}
theorem ldr (hx : a.eval x = .pointer (some ⟨g, 0, none⟩)) (hb : Blk w g 75 (secs 3 F)) (h : wpList Try.prog ops Q rest (a.put dst (.agg (secs 3 F))) w) :
    wpList Try.prog ops Q (⟨dst, .load 75 x, ty, pos, after, none⟩ :: rest) a w :=
  step_load_row hb Try.underlying75 rfl (info_row.trans (by rw [size_secs])) hx h
theorem stRw (hx : a.eval x = .pointer (some ⟨g, 0, none⟩)) (hy : a.eval y = .agg (secs 3 F)) (hb : Blk w g 75 (secs 3 F0)) (h : wpList Try.prog ops Q rest (a.put dst undef) (w.setRow g (secs 3 F))) :
    wpList Try.prog ops Q (⟨dst, .store 75 x y, ty, pos, after, none⟩ :: rest) a w :=
  step_store_row hb (info_row.trans (by rw [size_secs])) (by rw [size_secs, size_secs]) secs_one hx hy h
/-- A composite literal of the struct: the parts from place i on. -/
theorem bldr {parts : Array (Nat × Operand)} (F : Nat → Nat → Nat) (i : Nat) (l : List (Nat → Nat)) (hl : i + l.length ≤ 3)
    (hF : ∀ j k, j < 3 → k < 64 → F j k = if i ≤ j ∧ j < i + l.length then l.getD (j - i) (fun _ => 0) k else 0) (hp : parts.toList.map (fun x => (x.1, a.eval x.2)) = partsFrom i l)
    (h : wpList Try.prog ops Q rest (a.put dst (.agg (secs 3 F))) w) : wpList Try.prog ops Q (⟨dst, .build 75 parts, ty, pos, after, none⟩ :: rest) a w := by
  refine wpList_plain rfl fun K hK => ?_
  unfold Oper.wp execOp
  simp only [Sem.run_bind, run_build_row3 w _ i l F (by rw [Array.toList_map]; exact hp) hl hF, Result.andThen_ok]
  exact hK _ _ h
theorem kbldr {C : World → Prop} {Qk : Act → Prop} {gd : Option (Nat × Bool)} {parts : Array (Nat × Operand)} (F : Nat → Nat → Nat) (i : Nat) (l : List (Nat → Nat)) (hwt : Region.wanted ⟨dst, .build 75 parts, ty, pos, after, gd⟩ (yielded ops a.tmps) = true) (hl : i + l.length ≤ 3)
    (hF : ∀ j k, j < 3 → k < 64 → F j k = if i ≤ j ∧ j < i + l.length then l.getD (j - i) (fun _ => 0) k else 0) (hp : parts.toList.map (fun x => (x.1, a.eval x.2)) = partsFrom i l)
    (h : wpK Try.prog ops C Qk rest (a.put dst (.agg (secs 3 F)))) : wpK Try.prog ops C Qk (⟨dst, .build 75 parts, ty, pos, after, gd⟩ :: rest) a :=
  wpK_val hwt (fun w hw => gives_value (w' := w) (by simp only [execOp, Sem.run_bind, run_build_row3 w _ i l F (by rw [Array.toList_map]; exact hp) hl hF, Result.andThen_ok, Sem.run_pure]) hw) h
theorem kldr {C : World → Prop} {Qk : Act → Prop} {gd : Option (Nat × Bool)} (hwt : Region.wanted ⟨dst, .load 75 x, ty, pos, after, gd⟩ (yielded ops a.tmps) = true) (hx : a.eval x = .pointer (some ⟨g, 0, none⟩)) (hb : ∀ w, C w → Blk w g 75 (secs 3 F))
    (h : wpK Try.prog ops C Qk rest (a.put dst (.agg (secs 3 F)))) : wpK Try.prog ops C Qk (⟨dst, .load 75 x, ty, pos, after, gd⟩ :: rest) a :=
  wpK_val hwt (fun w hw => gives_value (w' := w) (by
    have := run_loadVar_row (P := Try.prog) w g 75 75 (secs 3 F) (0, 0) _ (hb w hw) Try.underlying75 rfl (info_row.trans (by rw [size_secs]))
    simp only [execOp, hx, Instr.loadAt, Instr.sureAddr, Sem.run_bind, this, Result.andThen_ok, Sem.run_pure]) hw) h
theorem ret_rowt {fn : Func} {R : Ending → World → Prop} {p t : Tmp} {v : Value} (hr : fn.results = #[.cell p 75, .tmp t]) (hp : a.tmps.getD p undef = .pointer (some ⟨g, 0, none⟩))
    (ht : a.tmps.getD t undef = v) (hdf : a.defers = []) (hb : Blk w g 75 (secs 3 F)) (hR : R (.returned (.tuple #[.agg (secs 3 F), v])) w) : bodyPost Try.prog fn R .ret a w := by
  refine bodyPost_ret ?_ hdf hR
  have hv : (loadVar 75 ⟨g, 0, none⟩).run Try.prog w = .ok (.agg (secs 3 F)) w :=
    run_loadVar_row w g 75 75 (secs 3 F) (0, 0) _ hb Try.underlying75 rfl (info_row.trans (by rw [size_secs]))
  have hp' : a.tmps[p]?.getD undef = .pointer (some ⟨g, 0, none⟩) := by simpa using hp
  have ht' : a.tmps[t]?.getD undef = v := by simpa using ht
  simp [results, hr, hp', ht', asAddr, hv]
end
end Go.Proofs.Ytlbfjnddbdpdpaa
set_option maxRecDepth 100000
namespace Go.Proofs.Ytlbfjnddbdpdpaa
open Go.ChangeShapes Go.WideShapes Go.ChangeAt Go.RowKit
attribute [local go_sem] Gives
attribute [local go_sem high] zero_row
/-- The row behind the change of data column i to D. -/
def chg (F : Nat → Nat → Nat) (i : Nat) (D : Nat → Nat) : Nat → Nat → Nat
  | 0 => fun k => F 0 k ^^^ (F 2 k ^^^ D k)
  | 1 => fun k => F 1 k ^^^ GfM.mul (GfM.pw i) (F 2 k ^^^ D k)
  | _ => D
set_option maxHeartbeats 4000000 in
set_option maxRecDepth 100000 in
theorem change_bad (F : Nat → Nat → Nat) (D : Nat → Nat) (i : Int) (hi : i < 0 ∨ 62 ≤ i) (w : World) :
    Calls Try.prog 37 #[.agg (secs 3 F), .int .i64 i, .agg (sec D)] w fun e w' => e = .returned (.tuple #[.agg (secs 3 z3), .int .i64 2]) ∧ Below w.heap.size w w' := by
  rcases Int.lt_or_le i 0 with h0 | h0
  all_goals (try (have h62 : 62 ≤ i := by omega))
  all_goals
    clear hi
    go_enter Try.func37, Try.ntmps37
    go_wp2_with (first | ((with_reducible apply bldr z3 0 []); decide; (intro j k _ _; rfl); rfl) | ((with_reducible apply stRw); rfl; rfl; exact Blk.top (cs := secs 3 z3) (by kernel_rfl) (by simp)))
    apply ret_rowt Try.results37
    · rfl
    · rfl
    · rfl
    · exact (Blk.top (cs := secs 3 z3) (by kernel_rfl) (by simp)).setRow_same _
    exact ⟨rfl, below_setRow ((((Below.refl _ _).alloc (Nat.le_refl _) _).alloc (by simp) _).alloc (by simp; omega) _) (by omega) _⟩
set_option maxHeartbeats 4000000 in
set_option maxRecDepth 100000 in
theorem change_ok (F : Nat → Nat → Nat) (D : Nat → Nat) (i : Nat) (hi : i ≤ 61) (hF : ∀ i k, F i k < 256) (hD : ∀ k, D k < 256) (w : World) :
    Calls Try.prog 37 #[.agg (secs 3 F), .int .i64 i, .agg (sec D)] w fun e w' => e = .returned (.tuple #[.agg (secs 3 (chg F i D)), .int .i64 0]) ∧ Below w.heap.size w w' := by
  have HF := hid hF
  have HD := hid hD
  clear hF hD
  go_enter Try.func37, Try.ntmps37
  go_wp2_with (first | ((with_reducible apply ldm (o := 128)); rfl; exact range_secs (i := 2) (((Blk.top rfl rfl).alloc _).alloc _) (by decide)) | ((with_reducible apply ld); rfl; exact (Blk.top rfl (by simp)).alloc _) | (with_reducible apply stx))
  generalize hw3 : World.alloc (World.alloc (World.alloc w _) _) _ = w3
  have b1 : Blk w3 w.heap.size 75 (secs 3 F) := by rw [← hw3]; exact ((Blk.top rfl rfl).alloc _).alloc _
  have b2 : Blk w3 (w.heap.size + 1) 32 (sec D) := by rw [← hw3]; exact (Blk.top rfl (by simp)).alloc _
  have b3 : Blk w3 (w.heap.size + 1 + 1) 75 (secs 3 z3) := by rw [← hw3]; exact Blk.top (by kernel_rfl) (by simp)
  have hb : Below w.heap.size w w3 := by rw [← hw3]; exact ((((Below.refl _ _).alloc (Nat.le_refl _) _).alloc (by simp) _).alloc (by simp; omega) _)
  clear hw3
  refine (add_any _ _ (HF.out 2) HD.out _).mono ?_
  rintro e w4 ⟨rfl, hb'⟩
  go_wp2_with ((with_reducible apply stx); rfl; rfl; exact Blk.top zlit rfl)
  generalize hw5 : World.setRow (World.alloc w4 _) _ _ = w5
  have hs4 := hb'.size
  have c1 : Blk w5 w.heap.size 75 (secs 3 F) := by rw [← hw5]; exact ((b1.below hb' b1.lt).alloc _).setRow_other (by have := b1.lt; omega) _
  have c2 : Blk w5 (w.heap.size + 1) 32 (sec D) := by rw [← hw5]; exact ((b2.below hb' b2.lt).alloc _).setRow_other (by have := b2.lt; omega) _
  have c3 : Blk w5 (w.heap.size + 1 + 1) 75 (secs 3 z3) := by rw [← hw5]; exact ((b3.below hb' b3.lt).alloc _).setRow_other (by have := b3.lt; omega) _
  have c4 : Blk w5 w4.heap.size 32 (sec fun k => F 2 k ^^^ D k) := by rw [← hw5]; exact (Blk.top zlit rfl).setRow_same _
  have hb5 : Below w.heap.size w w5 := by rw [← hw5]; exact below_setRow ((hb.trans (hb'.mono hb.size)).alloc (Nat.le_trans hb.size hs4) _) (Nat.le_trans hb.size hs4) _
  clear hw5 b1 b2 b3 hb hb'
  have hDx : ∀ k, F 2 k ^^^ D k < 256 := fun k => GfM.xor_lt (HF.out 2 k) (HD.out k)
  have HX := hid hDx
  clear hDx
  go_wp2_with fail
  refine wp_region_tail (C := fun w' => Below w5.heap.size w5 w') 13 (by kernel_rfl) (by kernel_rfl) (by kernel_rfl) (Below.refl _ _).drew ?_
  simp only [List.take_succ_cons, List.take_zero, List.drop_succ_cons, List.drop_zero]
  apply wpK_val
  · rfl
  · intro w' hw'
    go_simp
    first | exact rfl | exact ⟨rfl, hw'⟩
  simp only [Act.put, List.setIfInBounds_toArray, List.set_cons_succ, List.set_cons_zero]
  apply kldm (o := 0)
  · rfl
  · rfl
  · exact fun w' hw' => range_secs (i := 0) (c1.below hw' c1.lt) (by decide)
  simp only [Act.put, List.setIfInBounds_toArray, List.set_cons_succ, List.set_cons_zero]
  apply kld
  · rfl
  · rfl
  · exact fun w' hw' => c4.below hw' c4.lt
  simp only [Act.put, List.setIfInBounds_toArray, List.set_cons_succ, List.set_cons_zero]
  apply wpK_val
  · rfl
  · intro w' hw'
    go_simp
    exact (add_any _ _ (HF.out 0) HX.out _).mono fun e w'' ⟨he, hb'⟩ => ⟨he, hw'.trans (hb'.mono hw'.size)⟩
  simp only [Act.put, List.setIfInBounds_toArray, List.set_cons_succ, List.set_cons_zero]
  apply wpK_val
  · rfl
  · intro w' hw'
    go_simp
    first | exact rfl | exact ⟨rfl, hw'⟩
  simp only [Act.put, List.setIfInBounds_toArray, List.set_cons_succ, List.set_cons_zero]
  apply kldm (o := 64)
  · rfl
  · rfl
  · exact fun w' hw' => range_secs (i := 1) (c1.below hw' c1.lt) (by decide)
  simp only [Act.put, List.setIfInBounds_toArray, List.set_cons_succ, List.set_cons_zero]
  apply wpK_val
  · rfl
  · intro w' hw'
    go_simp
    first | exact rfl | exact ⟨rfl, hw'⟩
  simp only [Act.put, List.setIfInBounds_toArray, List.set_cons_succ, List.set_cons_zero]
  apply wpK_val
  · rfl
  · intro w' hw'
    go_simp
    exact (pow_any _ _).mono fun e w'' ⟨he, hb'⟩ => ⟨he, by subst hb'; exact hw'⟩
  simp only [Act.put, List.setIfInBounds_toArray, List.set_cons_succ, List.set_cons_zero]
  apply kld
  · rfl
  · rfl
  · exact fun w' hw' => c4.below hw' c4.lt
  simp only [Act.put, List.setIfInBounds_toArray, List.set_cons_succ, List.set_cons_zero]
  apply wpK_val
  · rfl
  · intro w' hw'
    go_simp
    exact (scale_any _ _ (pwI_lt _) HX.out _).mono fun e w'' ⟨he, hb'⟩ => ⟨he, hw'.trans (hb'.mono hw'.size)⟩
  simp only [Act.put, List.setIfInBounds_toArray, List.set_cons_succ, List.set_cons_zero]
  apply wpK_val
  · rfl
  · intro w' hw'
    go_simp
    exact (add_any _ _ (HF.out 1) (fun _ => GfM.mul_lt (pwI_lt _)) _).mono fun e w'' ⟨he, hb'⟩ => ⟨he, hw'.trans (hb'.mono hw'.size)⟩
  simp only [Act.put, List.setIfInBounds_toArray, List.set_cons_succ, List.set_cons_zero]
  apply kld
  · rfl
  · rfl
  · exact fun w' hw' => c2.below hw' c2.lt
  simp only [Act.put, List.setIfInBounds_toArray, List.set_cons_succ, List.set_cons_zero]
  apply kbldr (chg F i D) 0 [fun k => F 0 k ^^^ (F 2 k ^^^ D k), fun k => F 1 k ^^^ GfM.mul (pwI i) (F 2 k ^^^ D k), D]
  · rfl
  · exact Nat.le_refl 3
  · intro j k hj _
    match j, hj with
    | 0, _ => rfl
    | 1, _ => show F 1 k ^^^ GfM.mul (GfM.pw i) (F 2 k ^^^ D k) = F 1 k ^^^ GfM.mul (pwI i) (F 2 k ^^^ D k); rw [pwI_nat]
    | 2, _ => rfl
  · rfl
  simp only [Act.put, List.setIfInBounds_toArray, List.set_cons_succ, List.set_cons_zero]
  refine wpK_nil fun w6 hw6 => ?_
  have d3 := c3.below hw6 c3.lt
  have hb6 := hb5.trans (hw6.mono hb5.size)
  clear c1 c2 c3 c4 hw6 hb5
  go_wp2_with ((with_reducible apply stRw); rfl; rfl; assumption)
  apply ret_rowt Try.results37
  · rfl
  · rfl
  · rfl
  · exact d3.setRow_same _
  exact ⟨rfl, below_setRow hb6 (by omega) _⟩
end Go.Proofs.Ytlbfjnddbdpdpaa
set_option maxRecDepth 100000
namespace Go.Proofs.Ytlbfjnddbdpdpaa
open Go.ChangeShapes Go.WideShapes Go.ChangeAt Go.RowKit
attribute [local go_sem] Gives
attribute [local go_sem high] zero_row
set_option maxRecDepth 100000 in
theorem rchange_bad (F : Nat → Nat → Nat) (D : Nat → Nat) (i : Int) (hi : i < 0 ∨ 62 ≤ i) (w : World) :
    Calls Try.prog 41 #[.agg (secs 3 F), .int .i64 i, .agg (sec D)] w fun e w' => e = .returned (.tuple #[.agg (secs 3 z3), .int .i64 2]) ∧ Below w.heap.size w w' := by
  rcases Int.lt_or_le i 0 with h0 | h0
  all_goals (try (have h62 : 61 < i := by omega))
  all_goals
    clear hi
    go_enter Try.func41, Try.ntmps41
    go_wp2_with (first | ((with_reducible apply bldr z3 0 []); decide; (intro j k _ _; rfl); rfl) | ((with_reducible apply stRw); rfl; rfl; exact Blk.top (cs := secs 3 z3) (by kernel_rfl) (by simp)))
    apply ret_rowt Try.results41
    · rfl
    · rfl
    · rfl
    · exact (Blk.top (cs := secs 3 z3) (by kernel_rfl) (by simp)).setRow_same _
    exact ⟨rfl, below_setRow ((((Below.refl _ _).alloc (Nat.le_refl _) _).alloc (by simp) _).alloc (by simp; omega) _) (by omega) _⟩
/-- Behind k rounds. -/
def uc (F : Nat → Nat → Nat) (i : Nat) (D : Nat → Nat) (k : Nat) : Nat → Nat → Nat
  | 0 => fun l => if l < k then chg F i D 0 l else 0
  | 1 => fun l => if l < k then chg F i D 1 l else 0
  | _ => D
def onlyOld (D : Nat → Nat) : Nat → Nat → Nat
  | 0 => fun _ => 0
  | 1 => fun _ => 0
  | _ => D
theorem onlyOld_eq {D : Nat → Nat} : ∀ j k, j < 3 → k < 64 → onlyOld D j k = if 2 ≤ j ∧ j < 2 + [D].length then [D].getD (j - 2) (fun _ => 0) k else 0 := fun j _ hj _ => by
  match j, hj with
  | 0, _ => rfl
  | 1, _ => rfl
  | 2, _ => rfl
theorem uc_step {w : World} {g i k : Nat} {F : Nat → Nat → Nat} {D : Nat → Nat} (hk : k < 64)
    (hb : Blk w g 75 ((secs 3 fun j l => if j = 0 ∧ l = k then F 0 k ^^^ (F 2 k ^^^ D k) else uc F i D k j l).setIfInBounds (64 + k) (.int .u8 (F 1 k ^^^ GfM.mul (pwI i) (F 2 k ^^^ D k) : Nat)))) :
    Blk w g 75 (secs 3 (uc F i D (k + 1))) := by
  rw [show 64 + k = 1 * 64 + k by omega, secs_set hk] at hb
  rw [secs_ext (F := uc F i D (k + 1)) (G := fun j l => if j = 1 ∧ l = k then F 1 k ^^^ GfM.mul (pwI i) (F 2 k ^^^ D k) else if j = 0 ∧ l = k then F 0 k ^^^ (F 2 k ^^^ D k) else uc F i D k j l)]
  · exact hb
  · intro j l hj _
    match j, hj with
    | 0, _ =>
      rw [if_neg (by omega)]
      by_cases e : l = k
      · subst e; simp [uc, chg]
      · rw [if_neg (by omega)]
        unfold uc
        by_cases h : l < k
        · simp [h, show l < k + 1 by omega]
        · simp [h, show ¬ l < k + 1 by omega]
    | 1, _ =>
      by_cases e : l = k
      · subst e; simp [uc, chg, pwI_nat]
      · rw [if_neg (by omega), if_neg (by omega)]
        unfold uc
        by_cases h : l < k
        · simp [h, show l < k + 1 by omega]
        · simp [h, show ¬ l < k + 1 by omega]
    | 2, _ => rw [if_neg (by omega), if_neg (by omega)]; rfl
theorem uc_all {F : Nat → Nat → Nat} {i : Nat} {D : Nat → Nat} {k : Nat} (hk : 64 ≤ k) : secs 3 (uc F i D k) = secs 3 (chg F i D) := secs_ext fun j l hj hl => by
  match j, hj with
  | 0, _ => show (if l < k then _ else _) = _; rw [if_pos (by omega)]
  | 1, _ => show (if l < k then _ else _) = _; rw [if_pos (by omega)]
  | 2, _ => rfl
set_option maxRecDepth 100000 in
theorem rchange_ok (F : Nat → Nat → Nat) (D : Nat → Nat) (i : Nat) (hi : i ≤ 61) (hF : ∀ i k, F i k < 256) (hD : ∀ k, D k < 256) (w : World) :
    Calls Try.prog 41 #[.agg (secs 3 F), .int .i64 i, .agg (sec D)] w fun e w' => e = .returned (.tuple #[.agg (secs 3 (chg F i D)), .int .i64 0]) ∧ Below w.heap.size w w' := by
  have HF := hid hF
  have HD := hid hD
  clear hF hD
  have t1 : decide ((i : Int) < 0) = false := by simp
  have t2 : decide ((61 : Int) < i) = false := by simp; omega
  go_enter Try.func41, Try.ntmps41
  go_wp2_with (first | ((with_reducible apply ld); rfl; exact (Blk.top rfl (by simp)).alloc _) | ((with_reducible apply bldr (onlyOld D) 2 [D]); exact Nat.le_refl 3; exact onlyOld_eq; rfl) | ((with_reducible apply stRw); rfl; rfl; exact Blk.top (cs := secs 3 z3) (by kernel_rfl) (by simp)))
  generalize hw3 : World.setRow (World.alloc (World.alloc (World.alloc (World.alloc w _) _) _) _) _ _ = w3
  have b1 : Blk w3 w.heap.size 75 (secs 3 F) := by rw [← hw3]; exact ((((Blk.top rfl rfl).alloc _).alloc _).alloc _).setRow_other (by omega) _
  have b2 : Blk w3 (w.heap.size + 1) 32 (sec D) := by rw [← hw3]; exact (((Blk.top rfl (by simp)).alloc _).alloc _).setRow_other (by omega) _
  have b3 : Blk w3 (w.heap.size + 1 + 1) 75 (secs 3 z3) := by rw [← hw3]; exact ((Blk.top (by kernel_rfl) (by simp)).alloc _).setRow_other (by omega) _
  have b4 : Blk w3 (w.heap.size + 1 + 1 + 1) 75 (secs 3 (onlyOld D)) := by rw [← hw3]; exact (Blk.top rfl (by simp)).setRow_same _
  have hb : Below w.heap.size w w3 := by rw [← hw3]; exact below_setRow (((((Below.refl _ _).alloc (Nat.le_refl _) _).alloc (by simp) _).alloc (by simp; omega) _).alloc (by simp; omega) _) (by omega) _
  clear hw3 t1 t2
  go_loopw [9] (fun i' wr => ∃ k : Nat, k ≤ 64 ∧ i' = .int .i64 k ∧ Blk wr w.heap.size 75 (secs 3 F) ∧ Blk wr (w.heap.size + 1) 32 (sec D) ∧ Blk wr (w.heap.size + 1 + 1) 75 (secs 3 z3) ∧ Blk wr (w.heap.size + 1 + 1 + 1) 75 (secs 3 (uc F i D k)) ∧ Below w.heap.size w wr) (fun i _ => 64 - (intOf i).toNat)
  case atStart =>
    refine ⟨0, by omega, rfl, b1, b2, b3, ?_, hb⟩
    rw [secs_ext (F := uc F i D 0) (G := onlyOld D) fun j k hj _ => by match j, hj with | 0, _ => rfl | 1, _ => rfl | 2, _ => rfl]
    exact b4
  case round =>
    obtain ⟨k, hk, rfl, b1, b2, b3, b4, hb⟩ := hrel
    by_cases hlt : k < 64
    · have c1 : wr.cell? ⟨w.heap.size, 128 + k, none⟩ = some (.int .u8 (F 2 k : Nat)) := b1.at_ (by omega) hlt rfl
      have c2 : wr.cell? ⟨w.heap.size + 1, k, none⟩ = some (.int .u8 (D k : Nat)) := by rw [b2.cell, get_sec hlt]
      have c3 : wr.cell? ⟨w.heap.size, k, none⟩ = some (.int .u8 (F 0 k : Nat)) := b1.at_ (by omega) hlt (by omega)
      have c4 : wr.cell? ⟨w.heap.size + 1 + 1 + 1, k, none⟩ = some (.int .u8 (uc F i D k 0 k : Nat)) := b4.at_ (by omega) hlt (by omega)
      have c5 := b4.frozen k
      go_wp2_with fail
      go_quiet (fail)
      rw [u8_xor_nat _ _ (HF.out 2 k) (HD.out k)]
      go_wp2_with fail
      have hx2 := GfM.xor_lt (HF.out 2 k) (HD.out k)
      rw [u8_xor_nat _ _ (HF.out 0 k) hx2]
      generalize hw5 : World.setCell (World.drewN wr _) _ _ = w5
      have d1 : Blk w5 w.heap.size 75 (secs 3 F) := by rw [← hw5]; exact (b1.drewN _).setCell_other (by simp; omega) _
      have d2 : Blk w5 (w.heap.size + 1) 32 (sec D) := by rw [← hw5]; exact (b2.drewN _).setCell_other (by simp; omega) _
      have d3 : Blk w5 (w.heap.size + 1 + 1) 75 (secs 3 z3) := by rw [← hw5]; exact (b3.drewN _).setCell_other (by simp) _
      have d4 : Blk w5 (w.heap.size + 1 + 1 + 1) 75 ((secs 3 (uc F i D k)).setIfInBounds (0 * 64 + k) (.int .u8 (F 0 k ^^^ (F 2 k ^^^ D k) : Nat))) := by
        rw [← hw5]
        have := (b4.drewN nq).setCell_same k (.int .u8 (F 0 k ^^^ (F 2 k ^^^ D k) : Nat))
        rwa [show 0 * 64 + k = k by omega]
      have hd : Below w.heap.size w w5 := by rw [← hw5]; exact (below_drewN hb _).setCell (by simp; omega) _
      clear hw5 b1 b2 b3 b4 hb c1 c2 c3 c4 c5
      rw [secs_set hlt] at d4
      have c3 : w5.cell? ⟨w.heap.size, 64 + k, none⟩ = some (.int .u8 (F 1 k : Nat)) := d1.at_ (by omega) hlt rfl
      refine wp_region_tail (C := fun w' => Below w5.heap.size w5 w') 12 (by kernel_rfl) (by kernel_rfl) (by kernel_rfl) (Below.refl _ _).drew ?_
      simp only [List.take_succ_cons, List.take_zero, List.drop_succ_cons, List.drop_zero]
      apply wpK_val
      · rfl
      · intro w' hw'
        go_simp
        first | exact rfl | exact ⟨rfl, hw'⟩
      simp only [Act.put, List.setIfInBounds_toArray, List.set_cons_succ, List.set_cons_zero]
      apply wpK_val
      · rfl
      · intro w' hw'
        go_simp
        first | exact rfl | exact ⟨rfl, hw'⟩
      simp only [Act.put, List.setIfInBounds_toArray, List.set_cons_succ, List.set_cons_zero]
      apply wpK_val
      · rfl
      · intro w' hw'
        go_simp
        first | exact rfl | exact ⟨rfl, hw'⟩
      simp only [Act.put, List.setIfInBounds_toArray, List.set_cons_succ, List.set_cons_zero]
      apply wpK_val
      · rfl
      · intro w' hw'
        go_simp
        first | exact rfl | exact ⟨rfl, hw'⟩
      simp only [Act.put, List.setIfInBounds_toArray, List.set_cons_succ, List.set_cons_zero]
      apply wpK_val
      · rfl
      · intro w' hw'
        have hcell := (hw'.cell (p := ⟨w.heap.size, 64 + k, none⟩) d1.lt).trans c3
        go_simp
        first | exact rfl | exact ⟨rfl, hw'⟩
      simp only [Act.put, List.setIfInBounds_toArray, List.set_cons_succ, List.set_cons_zero]
      apply wpK_val
      · rfl
      · intro w' hw'
        go_simp
        first | exact rfl | exact ⟨rfl, hw'⟩
      simp only [Act.put, List.setIfInBounds_toArray, List.set_cons_succ, List.set_cons_zero]
      apply wpK_val
      · rfl
      · intro w' hw'
        go_simp
        exact (rpow_any _ _).mono fun e w'' ⟨he, hb'⟩ => ⟨he, by subst hb'; exact hw'⟩
      simp only [Act.put, List.setIfInBounds_toArray, List.set_cons_succ, List.set_cons_zero]
      apply wpK_val
      · rfl
      · intro w' hw'
        go_simp
        first | exact rfl | exact ⟨rfl, hw'⟩
      simp only [Act.put, List.setIfInBounds_toArray, List.set_cons_succ, List.set_cons_zero]
      apply wpK_val
      · rfl
      · intro w' hw'
        go_simp
        exact (rmul_any _ _ (pwI_lt _) hx2 _).mono fun e w'' ⟨he, hb'⟩ => ⟨he, by subst hb'; exact hw'⟩
      simp only [Act.put, List.setIfInBounds_toArray, List.set_cons_succ, List.set_cons_zero]
      apply wpK_val
      · rfl
      · intro w' hw'
        go_simp
        first | exact rfl | exact ⟨rfl, hw'⟩
      simp only [Act.put, List.setIfInBounds_toArray, List.set_cons_succ, List.set_cons_zero]
      apply wpK_val
      · rfl
      · intro w' hw'
        go_simp
        first | exact rfl | exact ⟨rfl, hw'⟩
      simp only [Act.put, List.setIfInBounds_toArray, List.set_cons_succ, List.set_cons_zero]
      apply wpK_val
      · rfl
      · intro w' hw'
        go_simp
        first | exact rfl | exact ⟨rfl, hw'⟩
      simp only [Act.put, List.setIfInBounds_toArray, List.set_cons_succ, List.set_cons_zero]
      refine wpK_nil fun w6 hw6 => ?_
      have e1 := d1.below hw6 d1.lt
      have e2 := d2.below hw6 d2.lt
      have e3 := d3.below hw6 d3.lt
      have e4 := d4.below hw6 d4.lt
      have he := hd.trans (hw6.mono hd.size)
      have c4 : w6.cell? ⟨w.heap.size + 1 + 1 + 1, 64 + k, none⟩ = some (.int .u8 _) := e4.at_ (i := 1) (by omega) hlt rfl
      have c5 := e4.frozen (64 + k)
      have hm := GfM.mul_lt (b := F 2 k ^^^ D k) (pwI_lt i)
      rw [u8_xor_nat _ _ (HF.out 1 k) hm]
      clear hw6 d1 d2 d3 d4 hd c3
      go_wp2_with fail
      exact ⟨⟨k + 1, by omega, by go_num, e1.setCell_other (by simp; omega) _, e2.setCell_other (by simp; omega) _, e3.setCell_other (by simp) _, uc_step hlt (e4.setCell_same _ _), he.setCell (by simp; omega) _⟩, by simp [intOf]; omega⟩
    · rw [uc_all (by omega)] at b4
      go_wp2_with (first | ((with_reducible apply ldr); rfl; assumption) | ((with_reducible apply stRw); rfl; rfl; assumption))
      apply ret_rowt Try.results41
      · rfl
      · rfl
      · rfl
      · exact b3.setRow_same _
      exact ⟨rfl, below_setRow hb (by omega) _⟩
end Go.Proofs.Ytlbfjnddbdpdpaa
set_option maxRecDepth 100000
namespace Go.Proofs.Ytlbfjnddbdpdpaa
namespace StM
/-- A row: how many columns, their sectors, and which are lost. -/
structure Rw where
  n : Nat
  F : Nat → Nat → Nat
  M : Nat → Bool
/-- A row as it may be. -/
structure Rw.ok (s : Rw) : Prop where
  lo : 4 ≤ s.n
  hi : s.n ≤ 64
  by' : ∀ i k, s.F i k < 256
  out : ∀ j, s.n ≤ j → s.M j = false
def made (n : Nat) : Rw := ⟨n, fun _ _ => 0, fun j => decide (j < n)⟩
/-- There is such a column. -/
def Rw.has (s : Rw) (c : Int) : Prop := 0 ≤ c ∧ c < s.n
instance (s : Rw) (c : Int) : Decidable (s.has c) := by unfold Rw.has; infer_instance
def Rw.lost (s : Rw) : List Nat := gapsL s.n s.M
def argE (s : Rw) (c : Int) : Nat := if s.has c then 0 else 2
def putT (s : Rw) (c : Int) (x : Nat → Nat) : Rw := if s.has c then { s with F := upd s.F c.toNat x, M := fun j => if j = c.toNat then false else s.M j } else s
def losT (s : Rw) (c : Int) : Rw := if s.has c then { s with M := fun j => if j = c.toNat then true else s.M j } else s
def getE (s : Rw) (c : Int) : Nat := if s.has c then (if s.M c.toNat then 5 else 0) else 2
def getS (s : Rw) (c : Int) : Nat → Nat := if s.has c ∧ s.M c.toNat = false then s.F c.toNat else fun _ => 0
def Rw.right (s : Rw) : Bool := decide (s.lost = []) && rightA s.n s.F
/-- More than two columns are lost. -/
def Rw.full (s : Rw) : Prop := 2 < s.lost.length
instance (s : Rw) : Decidable s.full := by unfold Rw.full; infer_instance
def mendF (s : Rw) : Nat → Nat → Nat := mendP (s.n - 2) s.M (mendD (s.n - 2) s.M s.F)
def menE (s : Rw) : Nat := if s.full then 7 else 0
def menL (s : Rw) : List Nat := if s.full then [] else s.lost
def menT (s : Rw) : Rw := if s.full then s else { s with F := mendF s, M := fun _ => false }
/-- There is such a data column. -/
def Rw.dat (s : Rw) (c : Int) : Prop := 0 ≤ c ∧ c < ((s.n - 2 : Nat) : Int)
instance (s : Rw) (c : Int) : Decidable (s.dat c) := by unfold Rw.dat; infer_instance
def wriE (s : Rw) (c : Int) : Nat := if s.dat c then (if s.lost = [] then 0 else 5) else 2
/-- The row with x in column c, P and Q changed. -/
def wriF (s : Rw) (c : Nat) (x : Nat → Nat) : Nat → Nat → Nat := fun i =>
  if i = c then x else if i = s.n - 2 then fun k => s.F (s.n - 2) k ^^^ (s.F c k ^^^ x k)
  else if i = s.n - 1 then fun k => s.F (s.n - 1) k ^^^ GfM.mul (GfM.pw c) (s.F c k ^^^ x k) else s.F i
def wriL (s : Rw) (c : Int) (x : Nat → Nat) : List Nat := if wriE s c = 0 then (List.range s.n).filter fun i => !eqS (wriF s c.toNat x i) (s.F i) else []
def wriT (s : Rw) (c : Int) (x : Nat → Nat) : Rw := if wriE s c = 0 then { s with F := wriF s c.toNat x } else s
theorem made_ok {n : Nat} (h1 : 4 ≤ n) (h2 : n ≤ 64) : (made n).ok := ⟨h1, h2, fun _ _ => by show 0 < 256; omega, fun j hj => decide_eq_false (by have : n ≤ j := hj; omega)⟩
section
variable {s : Rw} (h : s.ok)
include h
theorem put_ok {c : Int} {x : Nat → Nat} (hx : ∀ k, x k < 256) : (putT s c x).ok := by
  unfold putT
  split
  · refine ⟨h.lo, h.hi, upd_lt h.by' hx, fun j hj => ?_⟩
    show (if j = c.toNat then false else s.M j) = false
    split
    · rfl
    · exact h.out j hj
  · exact h
theorem los_ok {c : Int} : (losT s c).ok := by
  unfold losT
  split
  · rename_i hc
    refine ⟨h.lo, h.hi, h.by', fun j hj => ?_⟩
    show (if j = c.toNat then true else s.M j) = false
    have hj' : s.n ≤ j := hj
    rw [if_neg (by have := hc.1; have := hc.2; omega)]
    exact h.out j hj'
  · exact h
theorem mend_lt : ∀ i k, mendF s i k < 256 := fun i k => by
  unfold mendF mendP
  have hd := mendD_lt (m := s.n - 2) (M := s.M) h.by'
  split
  · exact PP_lt hd _ _
  · split
    · exact QQ_lt _ _
    · exact hd i k
theorem men_ok : (menT s).ok := by
  unfold menT
  split
  · exact h
  · exact ⟨h.lo, h.hi, mend_lt h, fun _ _ => rfl⟩
theorem wri_ok {c : Int} {x : Nat → Nat} (hx : ∀ k, x k < 256) : (wriT s c x).ok := by
  unfold wriT
  split
  · refine ⟨h.lo, h.hi, fun i k => ?_, h.out⟩
    show wriF s c.toNat x i k < 256
    unfold wriF
    split
    · exact hx k
    · split
      · exact GfM.xor_lt (h.by' _ _) (GfM.xor_lt (h.by' _ _) (hx k))
      · split
        · exact GfM.xor_lt (h.by' _ _) (GfM.mul_lt (GfM.pw_lt _))
        · exact h.by' _ _
  · exact h
end
end StM
end Go.Proofs.Ytlbfjnddbdpdpaa
set_option maxRecDepth 100000
namespace Go.Proofs.Ytlbfjnddbdpdpaa
open Go.ChangeShapes Go.WideShapes Go.ChangeAt Go.RowKit
/-- A type of slices, of numbers of kind k. -/
structure Elt (S e : TypeId) (k : IntKind) : Prop where
  und : Try.prog.underlying S = some (.slice e)
  inf : ∃ i : TypeInfo, Try.prog.info? e = some i ∧ i.zero = some (.int k 0) ∧ i.size = 1 ∧ i.bytes ≤ 8
theorem elt_of {S e : TypeId} {k : IntKind} (h : Try.prog.underlying S = some (.slice e)) (h1 : (Try.prog.info? e).map (·.size) = some 1) (h2 : (Try.prog.info? e).map (fun i => decide (i.bytes ≤ 8)) = some true) (h3 : (Try.prog.info? e).bind (·.zero) = some (.int k 0)) : Elt S e k := by
  refine ⟨h, ?_⟩
  cases hi : Try.prog.info? e with
  | none => rw [hi] at h1; cases h1
  | some i =>
    rw [hi] at h1 h2 h3
    simp only [Option.map_some, Option.some.injEq, decide_eq_true_eq, Option.bind_some] at h1 h2 h3
    exact ⟨i, rfl, h3, h1, h2⟩
def nums (k : IntKind) (l : List Nat) : List Value := l.map fun x => Value.int k (x : Nat)
theorem nums_length (k : IntKind) (l : List Nat) : (nums k l).length = l.length := List.length_map _
theorem nums_append (k : IntKind) (l m : List Nat) : nums k (l ++ m) = nums k l ++ nums k m := List.map_append
theorem nums_get (k : IntKind) {l : List Nat} {i : Nat} (h : i < l.length) : (nums k l)[i]? = some (.int k (l.getD i 0 : Nat)) := by
  unfold nums
  rw [List.getElem?_map, List.getD_eq_getElem?_getD, List.getElem?_eq_getElem h]; rfl
/-- A slice of the numbers of l, in one row below block B. -/
def Nums (k : IntKind) (w : World) (B : Nat) (A : Option Addr) (l : List Nat) : Prop :=
  0 < l.length → ∃ b o, A = some ⟨b, o, none⟩ ∧ b < B ∧ ∀ i, i < l.length → w.cell? ⟨b, o + i, none⟩ = some (.int k (l.getD i 0 : Nat))
theorem Nums.below {k : IntKind} {B B' : Nat} {w w' : World} {A : Option Addr} {l : List Nat} (h : Nums k w B A l) (hb : Below B' w w') (hB : B ≤ B') : Nums k w' B A l := fun hn => by
  obtain ⟨b, o, rfl, hl, hr⟩ := h hn
  exact ⟨b, o, rfl, hl, fun i hi => (hb.cell (p := ⟨b, o + i, none⟩) (by show b < B'; omega)).trans (hr i hi)⟩
theorem Nums.more {k : IntKind} {B B' : Nat} {w : World} {A : Option Addr} {l : List Nat} (h : Nums k w B A l) (hB : B ≤ B') : Nums k w B' A l := fun hn => by
  obtain ⟨b, o, rfl, hl, hr⟩ := h hn
  exact ⟨b, o, rfl, by omega, hr⟩
theorem Nums.byt {w : World} {B : Nat} {A : Option Addr} {l : List Nat} (h : Nums .u8 w B A l) : Byt w B A l := h
theorem Byt.nums {w : World} {B : Nat} {A : Option Addr} {l : List Nat} (h : Byt w B A l) : Nums .u8 w B A l := h
theorem Nums.none {k : IntKind} {w : World} {B : Nat} {A : Option Addr} {l : List Nat} (h : l.length = 0) : Nums k w B A l := fun hn => absurd hn (by omega)
theorem Nums.row {k : IntKind} {w : World} {B g : Nat} {t : TypeId} {cs : Array Value} {l : List Nat} (h : Blk w g t cs) (hg : g < B) (hc : ∀ j, j < l.length → cs[j]? = some (.int k (l.getD j 0 : Nat))) : Nums k w B (some ⟨g, 0, .none⟩) l := fun _ =>
  ⟨g, 0, rfl, hg, fun i hi => by rw [Nat.zero_add, h.cell]; exact hc i hi⟩
/-- v is a slice of the numbers l, in a row of its own from block B on. -/
def Own (e : TypeId) (k : IntKind) (w : World) (B : Nat) (v : Value) (l : List Nat) : Prop := w.ownsRow B e 1 v l.length (nums k l)
section
variable {e : TypeId} {k : IntKind} {w w' : World} {B : Nat} {v : Value} {l : List Nat}
theorem Own.nil : Own e k w B (.slice none 0 0) [] := World.ownsRow_nil w B e 1
theorem Own.empty (w : World) (hB : B ≤ w.heap.size) : Own e k (w.alloc (.cells #[] e)) B (.slice (some ⟨w.heap.size, 0, none⟩) 0 0) [] :=
  World.ownsRow_made w #[] 0 hB (Nat.zero_le _) rfl
theorem Own.form (h : Own e k w B v l) : (v = .slice none 0 0 ∧ l = []) ∨ ∃ g cap, v = .slice (some ⟨g, 0, none⟩) l.length cap ∧ B ≤ g ∧ g < w.heap.size ∧ l.length ≤ cap ∧ cap ≤ maxLen ∧ Nums k w w.heap.size (some ⟨g, 0, none⟩) l := by
  rcases h.2 with ⟨h', h0⟩ | ⟨g, cap, cur, hv, hB, hg, hnc, hcm, hcs, ht⟩
  · exact .inl ⟨h', List.eq_nil_of_length_eq_zero h0⟩
  · have hlt : g < w.heap.size := Blk.lt (t := e) (cs := cur) hg
    refine .inr ⟨g, cap, hv, hB, hlt, hnc, hcm, fun _ => ⟨g, 0, rfl, hlt, fun i hi => ?_⟩⟩
    rw [Nat.zero_add, cell_of_row w g _ cur _ _ hg]
    have h1 := nums_get k hi
    rw [← ht, List.getElem?_take_of_lt (by omega), Array.getElem?_toList] at h1
    exact h1
/-- The same, whichever it is. -/
theorem Own.any (h : Own e k w B v l) : ∃ A cap, v = .slice A l.length cap ∧ l.length ≤ cap ∧ cap ≤ maxLen ∧ Nums k w w.heap.size A l := by
  rcases h.form with ⟨rfl, rfl⟩ | ⟨g, cap, rfl, _, _, h1, h2, h3⟩
  · exact ⟨.none, 0, rfl, Nat.le_refl _, Nat.zero_le _, Nums.none rfl⟩
  · exact ⟨_, cap, rfl, h1, h2, h3⟩
theorem Own.below (h : Own e k w B v l) (hb : Below w.heap.size w w') : Own e k w' B v l := by
  refine ⟨h.1, ?_⟩
  rcases h.2 with h' | ⟨g, cap, cur, hv, hB, hg, hr⟩
  · exact .inl h'
  · exact .inr ⟨g, cap, cur, hv, hB, Blk.below (t := e) (cs := cur) hg hb (Blk.lt (t := e) (cs := cur) hg), hr⟩
theorem Own.alloc (h : Own e k w B v l) (o : Obj) : Own e k (w.alloc o) B v l := World.ownsRow.alloc h o
theorem Own.drew (h : Own e k w B v l) : Own e k w.drew B v l := ⟨h.1, h.2⟩
end
theorem below_grown {B B' : Nat} {w0 w w' w1 : World} {v : Value} {e : TypeId} {k : IntKind} {l : List Nat} (hb : Below B w0 w) (hg : w.grownBy w' v.ownBlock) (ho : Own e k w1 B' v l) (hB : B ≤ B') (hs : B ≤ w0.heap.size) : Below B w0 w' :=
  hb.grown hg (Nat.le_trans hs hb.size) fun g h => Nat.le_trans hB (World.ownsRow.lt ho g h).1
theorem Blk.grown {e : TypeId} {k : IntKind} {w w' w0 : World} {g B : Nat} {t : TypeId} {cs : Array Value} {v : Value} {l : List Nat} (h : Blk w g t cs) (hg : w.grownBy w' v.ownBlock) (ho : Own e k w0 B v l) (hlt : g < B) : Blk w' g t cs :=
  (hg.block g h.lt fun e' => by have := (World.ownsRow.lt ho g e'.symm).1; omega).trans h
theorem Nums.grown {e : TypeId} {k k' : IntKind} {w w' w0 : World} {A : Option Addr} {B B' : Nat} {v : Value} {l m : List Nat} (h : Nums k' w B' A m) (_hB : B' ≤ w.heap.size) (hg : w.grownBy w' v.ownBlock) (ho : Own e k w0 B v l) (hlt : B' ≤ B) : Nums k' w' B' A m := fun hn => by
  obtain ⟨b, o, rfl, hl, hr⟩ := h hn
  exact ⟨b, o, rfl, hl, fun i hi => hg.cell (hr i hi) fun e' => by have := (World.ownsRow.lt ho b e'.symm).1; omega⟩
theorem below_none {B : Nat} {w0 w w' : World} (hb : Below B w0 w) (hg : w.grownBy w' none) (hs : B ≤ w0.heap.size) : Below B w0 w' :=
  hb.grown hg (Nat.le_trans hs hb.size) fun g h => by cases h
theorem Own.heap {e : TypeId} {k : IntKind} {w w' : World} {B : Nat} {v : Value} {l : List Nat} (h : Own e k w B v l) (hh : w'.heap = w.heap) : Own e k w' B v l := by
  refine ⟨h.1, ?_⟩
  rcases h.2 with h' | ⟨g, cap, cur, hv, hB, hg, hr⟩
  · exact .inl h'
  · exact .inr ⟨g, cap, cur, hv, hB, by rw [hh]; exact hg, hr⟩
section
variable {ops : Array Oper} {Q : Exit → Act → World → Prop} {a : Act} {w : World} {rest : List Oper} {dst : Option Tmp} {ty : TypeId} {pos : String} {after : Array Edge} {s x : Operand} {m c B B' : Nat} {v : Value} {l kk : List Nat} {S e : TypeId} {k : IntKind} {ad : Addr}
theorem run_appN (E : Elt S e k) (hown : Own e k w B v l) (hrd : Nums k w B' (some ad) kk) (hk : kk.length = m) (hsz : l.length + m ≤ 1000000) (hB : B ≤ w.heap.size) :
    ∃ v' w', (Builtin.append_ #[S, S] ty #[v, .slice (some ad) m c]).run Try.prog w = .ok v' w' ∧ Own e k w' B v' (l ++ kk) ∧ w.grownBy w' v.ownBlock := by
  obtain ⟨i, hi, hz, h1, h2⟩ := E.inf
  subst hk
  obtain ⟨v', w', hr, ho, hg, _⟩ := run_append_own (P := Try.prog) w B S ty e i (.int k 0) 1 i.bytes E.und hi hz h1 rfl rfl (by decide) v l.length _ hown ad kk.length c (nums k kk) (by rw [nums_length, Nat.mul_one])
    (fun j u hj => by
      have hjm : j < kk.length := by
        have := (List.getElem?_eq_some_iff.1 hj).1
        rwa [nums_length] at this
      obtain ⟨b, o, e', _, hr⟩ := hrd (by omega)
      obtain rfl : ad = ⟨b, o, none⟩ := Option.some.inj e'
      rw [nums_get k hjm] at hj
      rw [Addr.add_mid, hr j hjm]
      exact hj)
    (fun u hu => by
      obtain ⟨y, _, rfl⟩ := List.mem_map.1 hu
      rfl)
    (by unfold maxLen; omega) (Nat.le_trans (Nat.mul_le_mul hsz h2) (by omega)) hB
  refine ⟨v', w', hr, ?_, hg⟩
  unfold Own
  rw [List.length_append, nums_append]
  exact ho
/-- append of numbers to a slice of the call's own. -/
theorem wappN (E : Elt S e k) (hs : a.eval s = v) (hx : a.eval x = .slice (some ad) m c) (hown : Own e k w B v l) (hrd : Nums k w B' (some ad) kk) (hk : kk.length = m) (hsz : l.length + m ≤ 1000000) (hB : B ≤ w.heap.size)
    (h : ∀ v' w', Own e k w' B v' (l ++ kk) → w.grownBy w' v.ownBlock → wpList Try.prog ops Q rest (a.put dst v') w') :
    wpList Try.prog ops Q (⟨dst, .call { callee := .builtin .append, args := #[s, x], argTypes := #[S, S] }, ty, pos, after, none⟩ :: rest) a w := by
  obtain ⟨v', w', hr, h1, h2⟩ := run_appN (ty := ty) (c := c) E hown hrd hk hsz hB
  refine wpList_plain rfl fun K hK => ?_
  unfold Oper.wp execOp
  simp only [resolve, invoke, builtin, Sem.run_bind, Sem.run_pure, Result.andThen_ok, List.map_toArray, List.map_cons, List.map_nil, hs, hx, hr]
  exact hK _ _ (h v' w' h1 h2)
theorem wappN_none (E : Elt S e k) (hs : a.eval s = v) (hx : a.eval x = .slice none 0 0) (hown : Own e k w B v l) (h : wpList Try.prog ops Q rest (a.put dst v) w) :
    wpList Try.prog ops Q (⟨dst, .call { callee := .builtin .append, args := #[s, x], argTypes := #[S, S] }, ty, pos, after, none⟩ :: rest) a w := by
  obtain ⟨i, hi, hz, h1, h2⟩ := E.inf
  refine wpList_plain rfl fun K hK => ?_
  unfold Oper.wp execOp
  have := run_append_owned_none (P := Try.prog) w B S ty e i 1 E.und hi v l.length _ hown
  simp only [resolve, invoke, builtin, Sem.run_bind, Sem.run_pure, Result.andThen_ok, List.map_toArray, List.map_cons, List.map_nil, hs, hx, this]
  exact hK _ _ h
theorem wappN_any {A : Option Addr} (E : Elt S e k) (hs : a.eval s = v) (hx : a.eval x = .slice A m c) (h0 : A = none → m = 0 ∧ c = 0) (hown : Own e k w B v l) (hrd : Nums k w B' A kk) (hk : kk.length = m) (hsz : l.length + m ≤ 1000000) (hB : B ≤ w.heap.size)
    (h : ∀ v' w', Own e k w' B v' (l ++ kk) → w.grownBy w' v.ownBlock → wpList Try.prog ops Q rest (a.put dst v') w') :
    wpList Try.prog ops Q (⟨dst, .call { callee := .builtin .append, args := #[s, x], argTypes := #[S, S] }, ty, pos, after, none⟩ :: rest) a w := by
  cases A with
  | some ad => exact wappN E hs hx hown hrd hk hsz hB h
  | none =>
    obtain ⟨rfl, rfl⟩ := h0 rfl
    obtain rfl := List.eq_nil_of_length_eq_zero hk
    rw [List.append_nil] at h
    exact wappN_none E hs hx hown (h v w hown ⟨rfl, rfl, rfl, Nat.le_refl _, fun _ _ _ => rfl⟩)
end
/-- A literal of one number. -/
theorem nums_one {k : IntKind} {w : World} {t : TypeId} {x : Nat} {v : Value} (h : v = .int k (x : Nat)) {B : Nat} (hB : w.heap.size < B) : Nums k (w.alloc (.cells #[v] t)) B (some ⟨w.heap.size, 0, none⟩) [x] := fun _ =>
  ⟨w.heap.size, 0, rfl, hB, fun i hi => by
    obtain rfl : i = 0 := by simp at hi; omega
    rw [(Blk.top (t := t) rfl rfl).cell, h]; rfl⟩
end Go.Proofs.Ytlbfjnddbdpdpaa
set_option maxRecDepth 100000
namespace Go.Proofs.Ytlbfjnddbdpdpaa
open Go.ChangeShapes Go.WideShapes Go.ChangeAt Go.RowKit
/-- From w to w' no block is turned but those of S; new ones may come. -/
structure Turn (S : Nat → Prop) (w w' : World) : Prop where
  os : w'.os = w.os
  tape : w'.tape = w.tape
  output : w'.output = w.output
  size : w.heap.size ≤ w'.heap.size
  block : ∀ k, k < w.heap.size → ¬ S k → w'.heap[k]? = w.heap[k]?
namespace Turn
variable {S T : Nat → Prop} {w w' w2 : World}
theorem refl (S : Nat → Prop) (w : World) : Turn S w w := ⟨rfl, rfl, rfl, Nat.le_refl _, fun _ _ _ => rfl⟩
theorem trans (h : Turn S w w') (h2 : Turn T w' w2) (hT : ∀ k, T k → S k ∨ w.heap.size ≤ k) : Turn S w w2 :=
  ⟨h2.os.trans h.os, h2.tape.trans h.tape, h2.output.trans h.output, Nat.le_trans h.size h2.size, fun k hk hS =>
    (h2.block k (Nat.lt_of_lt_of_le hk h.size) fun e => (hT k e).elim hS fun h3 => by omega).trans (h.block k hk hS)⟩
theorem mono (h : Turn S w w') (hS : ∀ k, S k → T k) : Turn T w w' := ⟨h.os, h.tape, h.output, h.size, fun k hk hn => h.block k hk fun e => hn (hS k e)⟩
theorem of_below {B : Nat} (h : Below B w w') : Turn (fun k => B ≤ k) w w' := ⟨h.os, h.tape, h.output, h.size, fun k _ hS => h.block k (by omega)⟩
theorem of_new {S : Nat → Prop} (h : Below w.heap.size w w') : Turn S w w' := ⟨h.os, h.tape, h.output, h.size, fun k hk _ => h.block k hk⟩
theorem below (h : Turn S w w') {B : Nat} (hB : B ≤ w.heap.size) (hS : ∀ k, S k → B ≤ k) : Below B w w' := ⟨h.os, h.tape, h.output, h.size, fun k hk => h.block k (by omega) fun e => by have := hS k e; omega⟩
theorem of_grown {r : Option Nat} (h : w.grownBy w' r) (hr : ∀ k, r = some k → S k) : Turn S w w' := ⟨h.os, h.tape, h.output, h.size, fun k hk hS => h.block k hk fun e => hS (hr k e.symm)⟩
theorem setRow (w : World) (g : Nat) (cs : Array Value) (hg : S g) : Turn S w (w.setRow g cs) := ⟨rfl, rfl, rfl, by simp, fun k _ hS => Go.setRow_other w g k cs fun e => hS (e ▸ hg)⟩
theorem setCell (w : World) (p : Addr) (v : Value) (hp : S p.block) : Turn S w (w.setCell p v) := ⟨rfl, rfl, rfl, by simp, fun k _ hS => Below.heap_setCell w p v k fun e => hS (e ▸ hp)⟩
theorem alloc (w : World) (o : Obj) : Turn S w (w.alloc o) := of_new ((Below.refl _ _).alloc (Nat.le_refl _) _)
theorem drew (w : World) : Turn S w w.drew := ⟨rfl, rfl, rfl, Nat.le_refl _, fun _ _ _ => rfl⟩
theorem cell (h : Turn S w w') {p : Addr} {v : Value} (hc : w.cell? p = some v) (hp : ¬ S p.block) : w'.cell? p = some v :=
  (World.cell?_of_block (h.block p.block (World.block_lt_of_cell? w p hc) hp)).trans hc
end Turn
theorem Blk.turn {S : Nat → Prop} {w w' : World} {g : Nat} {t : TypeId} {cs : Array Value} (h : Blk w g t cs) (ht : Turn S w w') (hg : ¬ S g) : Blk w' g t cs := (ht.block g h.lt hg).trans h
theorem Turn.range {S : Nat → Prop} {w w' : World} {g o : Nat} {cs : List Value} (h : Turn S w w') (hr : w.rangeAt g o cs) (hg : ¬ S g) : w'.rangeAt g o cs := fun j v hj => h.cell (p := ⟨g, o + j, none⟩) (hr j v hj) hg

/-! ### Elements of k cells -/
section
variable {α : Type} {k : Nat} {en : α → List Value} {S T : Nat → Prop} {w w' : World} {A : Option Addr} {l m : List α}
/-- The elements of l lie one behind the other from A on, in a block of S. -/
def Lst (k : Nat) (en : α → List Value) (S : Nat → Prop) (w : World) (A : Option Addr) (l : List α) : Prop :=
  0 < l.length → ∃ b o, A = some ⟨b, o, none⟩ ∧ S b ∧ b < w.heap.size ∧ ∀ (i : Nat) (x : α), l[i]? = some x → w.rangeAt b (o + i * k) (en x)
/-- A slice of them. -/
structure Sli (k : Nat) (en : α → List Value) (S : Nat → Prop) (w : World) (A : Option Addr) (l : List α) (n cp : Nat) : Prop where
  len : l.length = n
  cap : n ≤ cp
  max : cp ≤ maxLen
  none : A = none → n = 0 ∧ cp = 0
  lst : Lst k en S w A l
theorem Lst.turn (h : Lst k en S w A l) (ht : Turn T w w') (hd : ∀ b, S b → b < w.heap.size → ¬ T b) : Lst k en S w' A l := fun hn => by
  obtain ⟨b, o, rfl, hS, hl, hr⟩ := h hn
  exact ⟨b, o, rfl, hS, Nat.lt_of_lt_of_le hl ht.size, fun i x hi => ht.range (hr i x hi) (hd b hS hl)⟩
theorem Lst.mono (h : Lst k en S w A l) (hST : ∀ b, S b → T b) : Lst k en T w A l := fun hn => by
  obtain ⟨b, o, rfl, hS, hl, hr⟩ := h hn
  exact ⟨b, o, rfl, hST b hS, hl, hr⟩
theorem Sli.turn {n cap : Nat} (h : Sli k en S w A l n cap) (ht : Turn T w w') (hd : ∀ b, S b → b < w.heap.size → ¬ T b) : Sli k en S w' A l n cap := ⟨h.len, h.cap, h.max, h.none, h.lst.turn ht hd⟩
theorem Sli.mono {n cap : Nat} (h : Sli k en S w A l n cap) (hST : ∀ b, S b → T b) : Sli k en T w A l n cap := ⟨h.len, h.cap, h.max, h.none, h.lst.mono hST⟩
theorem Sli.nil (k : Nat) (en : α → List Value) (S : Nat → Prop) (w : World) : Sli k en S w .none ([] : List α) 0 0 := ⟨rfl, Nat.le_refl _, Nat.zero_le _, fun _ => ⟨rfl, rfl⟩, fun h => by simp at h⟩
theorem Sli.some {n cap i : Nat} {x : α} (h : Sli k en S w A l n cap) (hi : l[i]? = some x) : ∃ b o, A = some ⟨b, o, .none⟩ ∧ S b ∧ b < w.heap.size ∧ w.rangeAt b (o + i * k) (en x) := by
  obtain ⟨b, o, e, hS, hl, hr⟩ := h.lst (by have := (List.getElem?_eq_some_iff.1 hi).1; omega)
  exact ⟨b, o, e, hS, hl, hr i x hi⟩
theorem flat_at {en : α → List Value} (hen : ∀ x, (en x).length = k) : ∀ (l : List α) (i j : Nat) (x : α), l[i]? = some x → j < k → (l.flatMap en)[i * k + j]? = (en x)[j]?
  | [], i, j, x, h, _ => by simp at h
  | y :: l, 0, j, x, h, hj => by
    simp only [List.getElem?_cons_zero, Option.some.injEq] at h
    subst h
    rw [List.flatMap_cons, Nat.zero_mul, Nat.zero_add, List.getElem?_append_left (by rw [hen]; exact hj)]
  | y :: l, i + 1, j, x, h, hj => by
    rw [List.getElem?_cons_succ] at h
    rw [List.flatMap_cons, List.getElem?_append_right (by rw [hen, Nat.add_mul]; omega), hen, show (i + 1) * k + j - k = i * k + j by rw [Nat.add_mul]; omega]
    exact flat_at hen l i j x h hj
theorem flat_len {en : α → List Value} (hen : ∀ x, (en x).length = k) : ∀ l : List α, (l.flatMap en).length = l.length * k
  | [] => by simp
  | x :: l => by rw [List.flatMap_cons, List.length_append, flat_len hen l, hen, List.length_cons, Nat.add_mul]; omega
/-- What is wanted of an element's type: k cells, each a value of one cell. -/
structure EltX (E : TypeId) (k : Nat) (en : α → List Value) : Prop where
  pos : 0 < k
  len : ∀ x, (en x).length = k
  one : ∀ x, ∀ u ∈ en x, u.oneCell' = true
  info : ∃ (i : TypeInfo) (z : Value), Try.prog.info? E = some i ∧ i.zero = some z ∧ i.size = k ∧ i.bytes ≤ 16 * k + 16 ∧ z.cells.size = k
theorem elt_info {E : TypeId} (h1 : (Try.prog.info? E).map (·.size) = some k) (h2 : (Try.prog.info? E).map (fun i => decide (i.bytes ≤ 16 * k + 16)) = some true) (h3 : ((Try.prog.info? E).bind (·.zero)).map (·.cells.size) = some k) :
    ∃ (i : TypeInfo) (z : Value), Try.prog.info? E = some i ∧ i.zero = some z ∧ i.size = k ∧ i.bytes ≤ 16 * k + 16 ∧ z.cells.size = k := by
  cases hi : Try.prog.info? E with
  | none => rw [hi] at h1; cases h1
  | some i =>
    rw [hi] at h1 h2 h3
    simp only [Option.map_some, Option.some.injEq, decide_eq_true_eq, Option.bind_some] at h1 h2 h3
    cases hz : i.zero with
    | none => rw [hz] at h3; cases h3
    | some z => rw [hz] at h3; exact ⟨i, z, rfl, hz, h1, h2, by simpa using h3⟩
/-- A list of the call's own, from block B on. -/
def OwnX (E : TypeId) (k : Nat) (en : α → List Value) (w : World) (B : Nat) (v : Value) (l : List α) : Prop := w.ownsRow B E k v l.length (l.flatMap en)
section
variable {E : TypeId} {B : Nat} {v : Value}
theorem OwnX.nil (E : TypeId) (k : Nat) (en : α → List Value) (w : World) (B : Nat) : OwnX E k en w B (.slice none 0 0) ([] : List α) := World.ownsRow_nil w B _ _
theorem OwnX.empty (hB : B ≤ w.heap.size) : OwnX E k en (w.alloc (.cells #[] E)) B (.slice (some ⟨w.heap.size, 0, none⟩) 0 0) ([] : List α) := World.ownsRow_made w #[] 0 hB (Nat.zero_le _) (by simp)
theorem OwnX.sli (hE : ∀ x, (en x).length = k) (h : OwnX E k en w B v l) : ∃ A cap, v = .slice A l.length cap ∧ Sli k en (fun b => B ≤ b) w A l l.length cap := by
  rcases h.2 with ⟨rfl, h0⟩ | ⟨g, cap, cur, rfl, hB, hg, hnc, hcm, hcs, ht⟩
  · obtain rfl := List.eq_nil_of_length_eq_zero h0
    exact ⟨none, 0, rfl, Sli.nil _ _ _ _⟩
  · refine ⟨_, cap, rfl, rfl, hnc, hcm, (fun e => by cases e), fun _ => ⟨g, 0, rfl, hB, Blk.lt (t := E) (cs := cur) hg, fun i x hi j u hj => ?_⟩⟩
    have hil := (List.getElem?_eq_some_iff.1 hi).1
    have hjl : j < k := by have := (List.getElem?_eq_some_iff.1 hj).1; rwa [hE] at this
    rw [Nat.zero_add, cell_of_row w g _ cur _ _ hg]
    have h1 := flat_at hE l i j x hi hjl
    rw [hj, ← ht, List.getElem?_take_of_lt (by have := Nat.mul_le_mul_right k (show i + 1 ≤ l.length from hil); rw [Nat.add_mul] at this; omega), Array.getElem?_toList] at h1
    exact h1
theorem OwnX.own (h : OwnX E k en w B v l) : ∀ b, v.ownBlock = some b → B ≤ b ∧ b < w.heap.size := fun b hb => World.ownsRow.lt h b hb
theorem OwnX.turn (h : OwnX E k en w B v l) (ht : Turn T w w') (hd : ∀ b, v.ownBlock = some b → ¬ T b) : OwnX E k en w' B v l := by
  refine ⟨h.1, ?_⟩
  rcases h.2 with hn | ⟨g, cap, cur, rfl, hb, hgg, rest⟩
  · exact .inl hn
  · exact .inr ⟨g, cap, cur, rfl, hb, (ht.block g (Blk.lt (t := E) (cs := cur) hgg) (hd g rfl)).trans hgg, rest⟩
theorem OwnX.below {C : Nat} (h : OwnX E k en w B v l) (hb : Below C w w') (hC : w.heap.size ≤ C) : OwnX E k en w' B v l := h.turn (Turn.of_below hb) fun b e => by have := h.own b e; omega
theorem OwnX.lower {B' : Nat} (h : OwnX E k en w B v l) (hB : B' ≤ B) : OwnX E k en w B' v l := ⟨h.1, h.2.imp id fun ⟨g, cap, cur, hv, hg, rest⟩ => ⟨g, cap, cur, hv, Nat.le_trans hB hg, rest⟩⟩
end
section
variable {ops : Array Oper} {Q : Exit → Act → World → Prop} {a : Act} {rest : List Oper} {dst : Option Tmp} {ty : TypeId} {pos : String} {after : Array Edge} {s x : Operand} {n cap B : Nat} {v : Value} {E L : TypeId}
/-- append of a slice to a list of the call's own: the run alone. -/
theorem run_appX (hE : EltX E k en) (hu : Try.prog.underlying L = some (.slice E)) (hown : OwnX E k en w B v l) (hm : Sli k en S w A m n cap) (hsz : l.length + n ≤ 1000000) (hk : k ≤ 1000) (hB : B ≤ w.heap.size) :
    ∃ v' w', (Builtin.append_ #[L, L] ty #[v, .slice A n cap]).run Try.prog w = .ok v' w' ∧ OwnX E k en w' B v' (l ++ m) ∧ w.grownBy w' v.ownBlock := by
  obtain ⟨i, z, hi, hz, h1, h2, h3⟩ := hE.info
  cases hA : A with
  | none =>
    obtain ⟨rfl, rfl⟩ := hm.none hA
    obtain rfl := List.eq_nil_of_length_eq_zero hm.len
    refine ⟨v, w, run_append_owned_none (P := Try.prog) w B L ty E i k hu hi v l.length _ hown, ?_, ⟨rfl, rfl, rfl, Nat.le_refl _, fun _ _ _ => rfl⟩⟩
    rw [List.append_nil]; exact hown
  | some ad =>
    subst hA
    have hne : ∀ j u, (m.flatMap en)[j]? = some u → w.cell? (ad.add j) = some u := fun j u hj => by
      have hjl := (List.getElem?_eq_some_iff.1 hj).1
      rw [flat_len hE.len] at hjl
      have hq : j / k < m.length := Nat.div_lt_of_lt_mul (by rw [Nat.mul_comm]; exact hjl)
      have h4 := flat_at hE.len m (j / k) (j % k) m[j / k] (List.getElem?_eq_getElem hq) (Nat.mod_lt _ hE.pos)
      rw [show j / k * k + j % k = j by rw [Nat.mul_comm]; exact Nat.div_add_mod j k, hj] at h4
      obtain ⟨b, o, e, _, _, hr⟩ := hm.lst (Nat.lt_of_le_of_lt (Nat.zero_le _) hq)
      obtain rfl : ad = ⟨b, o, none⟩ := Option.some.inj e
      have h5 := hr (j / k) m[j / k] (List.getElem?_eq_getElem hq) (j % k) u h4.symm
      rw [Addr.add_mid]
      rwa [show o + j / k * k + j % k = o + j by have := Nat.div_add_mod j k; rw [Nat.mul_comm] at this; omega] at h5
    obtain ⟨v', w', hr, ho, hg, _⟩ := run_append_own (P := Try.prog) w B L ty E i z k i.bytes hu hi hz h1 rfl h3 hE.pos v l.length _ hown ad n cap (m.flatMap en) (by rw [flat_len hE.len, hm.len]) hne
      (fun u hu => by obtain ⟨x, _, hx⟩ := List.mem_flatMap.1 hu; exact hE.one x u hx) (by unfold maxLen; omega)
      (Nat.le_trans (Nat.mul_le_mul hsz (Nat.le_trans h2 (show 16 * k + 16 ≤ 16016 by omega))) (by omega)) hB
    refine ⟨v', w', hr, ?_, hg⟩
    unfold OwnX
    rw [List.length_append, List.flatMap_append, hm.len]
    exact ho
theorem wappX (hE : EltX E k en) (hu : Try.prog.underlying L = some (.slice E)) (hs : a.eval s = v) (hx : a.eval x = .slice A n cap) (hown : OwnX E k en w B v l) (hm : Sli k en S w A m n cap) (hsz : l.length + n ≤ 1000000) (hk : k ≤ 1000) (hB : B ≤ w.heap.size)
    (h : ∀ v' w', OwnX E k en w' B v' (l ++ m) → w.grownBy w' v.ownBlock → wpList Try.prog ops Q rest (a.put dst v') w') :
    wpList Try.prog ops Q (⟨dst, .call { callee := .builtin .append, args := #[s, x], argTypes := #[L, L] }, ty, pos, after, none⟩ :: rest) a w := by
  obtain ⟨v', w', hr, ho, hg⟩ := run_appX (ty := ty) hE hu hown hm hsz hk hB
  refine wpList_plain rfl fun K hK => ?_
  unfold Oper.wp execOp
  simp only [resolve, invoke, builtin, Sem.run_bind, Sem.run_pure, Result.andThen_ok, List.map_toArray, List.map_cons, List.map_nil, hs, hx, hr]
  exact hK _ _ (h v' w' ho hg)
end
/-- A piece of a slice. -/
theorem run_slX {L E : TypeId} {n cap i j : Nat} (hE : EltX E k en) (hu : Try.prog.underlying L = some (.slice E)) (hel : Try.prog.elem L = E) (h : Sli k en S w A l n cap) (hij : i ≤ j) (hj : j ≤ n) :
    ∃ A', (Instr.sliceAt L (.slice A n cap) (some (.int .i64 i)) (some (.int .i64 j)) none).run Try.prog w = .ok (.slice A' (j - i) (cap - i)) w ∧ Sli k en S w A' ((l.drop i).take (j - i)) (j - i) (cap - i) := by
  obtain ⟨ie, z, hi, hz, h1, h2, h3⟩ := hE.info
  have hc := h.cap
  have hm := h.max
  have hsz : (sizeOf (Try.prog.elem L)).run Try.prog w = .ok k w := by rw [hel]; simp [sizeOf, typeInfo, hi, h1]
  have hu' : Try.prog.underlying L = some (.slice (Try.prog.elem L)) := by rw [hel]; exact hu
  refine ⟨if cap = i then A else A.map (·.add (i * k)), ?_, ?_⟩
  · rw [run_sliceAt_slice w L _ _ _ _ hu', run_slice_lh w L A n cap hu' .i64 .i64 i j (by omega) (by omega) (by omega), hsz]
    simp only [Result.andThen, sliced, Int.toNat_natCast]
  · refine ⟨by rw [List.length_take, List.length_drop, h.len]; omega, by omega, by omega, fun e => ?_, fun hn => ?_⟩
    · by_cases hci : cap = i
      · exact ⟨by omega, by omega⟩
      · rw [if_neg hci] at e
        cases hA : A with
        | none => have := h.none hA; exact ⟨by omega, by omega⟩
        | some a => rw [hA] at e; cases e
    · rw [List.length_take, List.length_drop] at hn
      obtain ⟨b, o, rfl, hS, hl, hr⟩ := h.lst (by omega)
      have hll := h.len
      rw [if_neg (by omega)]
      refine ⟨b, o + i * k, by rw [Option.map_some, Addr.add_mid], hS, hl, fun q x hq => ?_⟩
      have hql := (List.getElem?_eq_some_iff.1 hq).1
      rw [List.length_take, List.length_drop] at hql
      rw [List.getElem?_take_of_lt (by omega), List.getElem?_drop] at hq
      have := hr (i + q) x hq
      rwa [show o + (i + q) * k = o + i * k + q * k by rw [Nat.add_mul]; omega] at this
end
end Go.Proofs.Ytlbfjnddbdpdpaa
set_option maxRecDepth 100000
namespace Go.Proofs.Ytlbfjnddbdpdpaa
open Go.RowKit
section
variable {w : World} {g : Nat} {t : TypeId}
/-- The cells vs laid into a row from place o on. -/
theorem blk_setCells {N : Nat} : ∀ (vs : List Value) (o : Nat) (w : World) (F : Nat → Value), Blk w g t (row N F) → o + vs.length ≤ N →
    Blk (w.setCells g o vs) g t (row N fun j => if o ≤ j ∧ j < o + vs.length then vs.getD (j - o) undef else F j) ∧ Below g w (w.setCells g o vs)
  | [], o, w, F, h, _ => by
    rw [World.setCells]
    refine ⟨?_, Below.refl _ _⟩
    rw [row_ext (g := F) fun j _ => if_neg (by rw [List.length_nil]; omega)]
    exact h
  | v :: r, o, w, F, h, hN => by
    rw [List.length_cons] at hN
    have h1 := h.setCell_same o v
    rw [row_set] at h1
    obtain ⟨h2, h3⟩ := blk_setCells r (o + 1) _ _ h1 (by omega)
    rw [World.setCells]
    refine ⟨?_, ((Below.refl g w).setCell (p := ⟨g, o, none⟩) (Nat.le_refl _) v).trans h3⟩
    rw [row_ext (g := fun j => if o ≤ j ∧ j < o + (v :: r).length then (v :: r).getD (j - o) undef else F j) fun j _ => ?_] at h2
    · exact h2
    · rw [List.length_cons]
      by_cases e : j = o
      · subst e
        rw [if_neg (by omega), if_pos rfl, if_pos (by omega), Nat.sub_self]; rfl
      · by_cases e2 : o + 1 ≤ j ∧ j < o + 1 + r.length
        · rw [if_pos e2, if_pos (by omega), show j - o = (j - (o + 1)) + 1 by omega, List.getD_cons_succ]
        · rw [if_neg e2, if_neg e, if_neg (by omega)]
end
end Go.Proofs.Ytlbfjnddbdpdpaa
