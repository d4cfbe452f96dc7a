/-
  The law CellPlays: its walk.
  The law CellRises.
  The law CellKnown: the chapter's examples; cells that are none.
-/
import Derived.Test.YthmfdabndfobcaaMrg2
set_option linter.unusedVariables false
set_option linter.unusedSimpArgs false
set_option maxRecDepth 100000
namespace Go.Proofs.Ythmfdabndfobcaa
open Go.ChangeShapes Go.WideShapes Go.ChangeAt Go.RowKit
attribute [local go_sem] Gives GivesE
namespace ClP
/-- What is done: which, and a label. -/
abbrev Act12 := Int × (Nat → Nat)
def acL (a : Act12) : List Value := .int .i64 a.1 :: (ar 32 a.2).toList
theorem acL_len (h : Act12) : (acL h).length = 33 := by unfold acL; rw [List.length_cons, Array.length_toList, size_ar]
theorem ac_n {w : World} {b o : Nat} {h : Act12} (hr : w.rangeAt b o (acL h)) : w.cell? ⟨b, o, none⟩ = some (.int .i64 h.1) := hr 0 _ rfl
theorem ac_l {w : World} {b o : Nat} {h : Act12} (hr : w.rangeAt b o (acL h)) : w.rangeAt b (o + 1) (ar 32 h.2).toList := fun j v hj => by
  have := hr (j + 1) v (by unfold acL; rw [List.getElem?_cons_succ]; exact hj)
  rwa [show o + (j + 1) = o + 1 + j by omega] at this
set_option maxHeartbeats 4000000 in
set_option maxRecDepth 100000 in
theorem plays_law {rep : RepC} (hC : CellC rep) (c : Nat) (l0 : Nat → Nat) (A : Option Addr) (la : List Act12) (n cap : Nat) (W : World) (hA : Sli 33 acL (fun b => b < W.heap.size) W A la n cap) :
    Calls Try.prog 3 #[.agg (ceL (c, l0)).toArray, .slice A n cap] W fun e w' => e = .returned (.bool true) ∧ Below W.heap.size W w' := by
  have HA := hid hA
  have hn6 : n ≤ 9223372036854775807 := by have := hA.cap; have := hA.max; unfold maxLen at *; omega
  clear hA
  go_enter Try.func3, Try.ntmps3
  go_upto_region 1 with fail
  generalize hw1 : World.alloc W _ = w1
  have b1 := hid (show Blk w1 W.heap.size 26 (ceL (c, l0)).toArray by rw [← hw1]; exact Blk.new _ _ _)
  have B1 := hid (show Below W.heap.size W w1 by rw [← hw1]; exact (Below.refl _ _).alloc (Nat.le_refl _) _)
  clear hw1
  go_wp2_with ((with_reducible apply ldR (cs := (ceL (c, l0)).toArray) (tCe (c, l0))); rfl; exact b1.out.whole)
  by_cases hc : c ≤ most
  · refine (hC.new c l0 hc w1).mono ?_
    rintro e w2 ⟨g, M, I, rfl, hr, hMI, h2⟩
    have P := hid (show C1 rep W.heap.size w2 g M I [((c, l0) : Held)] (c, l0) from ⟨hr, fun b hb => Nat.le_trans B1.out.size (hMI b hb), Nat.le_trans B1.out.size h2.size⟩)
    have hMI' := hid hMI
    have b2 := hid (b1.out.below h2 b1.out.lt)
    have B2 := hid (B1.out.trans (h2.mono B1.out.size))
    clear hr hMI h2 b1 B1
    unfold ptr'
    go_wp2_with ((with_reducible apply ldR (cs := (ceL (c, l0)).toArray) (tCe (c, l0))); rfl; exact b2.out.whole)
    refine (rnew_any c l0 hc w2).mono ?_
    rintro e w3 ⟨gr, rfl, v, hr, hv, h3⟩
    unfold ptr'
    have P3 := hid (P.out.below hC h3)
    have R3 := hid hr
    have V3 := hid (show ∀ b, rSet gr v b → W.heap.size ≤ b from fun b e => Nat.le_trans P.out.base (hv b e))
    have S3 := hid (show ∀ b, M b ∨ I b → ¬ rSet gr v b.1 from fun b e e2 => by have := hC.lt P.out.prog b e; have := hv b.1 e2; omega)
    have B3 := hid (B2.out.trans (h3.mono B2.out.size))
    clear P hr hv h3 b2 B2 hMI'
    go_wp2_with fail
    refine (hC.copy P3.out.prog (by simp)).mono ?_
    rintro e w4 ⟨g2, M2, I2, rfl, h4, hM2, hI2, hb4⟩
    have P4 := hid P3.out
    have H4 := hid h4
    have HM := hid hM2
    have HI := hid hI2
    have HB4 := hid hb4
    unfold ptr'
    clear h4 hM2 hI2 hb4
    go_wp2_with fail
    refine (rcopy_any (R3.out.below HB4.out) (by simp)).mono ?_
    rintro e w5 ⟨gr2, rfl, v2, hr5, hv5, h5⟩
    unfold ptr'
    have PL := hid (Pl.spare hC P3.out R3.out S3.out V3.out H4.out HM.out HI.out HB4.out hr5 hv5 h5)
    have B5 := hid ((B3.out.trans (HB4.out.mono B3.out.size)).trans (h5.mono (Nat.le_trans B3.out.size HB4.out.size)))
    clear P3 R3 S3 V3 P4 H4 HM HI HB4 hr5 hv5 h5 B3
    go_wp2_with fail
    go_loopw [5, 7, 9, 10, 11] (fun u1 u2 u3 u4 u5 wr => ∃ (k g gr g0 gr0 : Nat) (M I M0 I0 : Cs) (v v0 : Value) (L L0 : List Held) (h h0 : Held), u1 = .pointer (some ⟨g, 0, none⟩) ∧ u2 = .pointer (some ⟨gr, 0, none⟩) ∧ u3 = .pointer (some ⟨g0, 0, none⟩) ∧ u4 = .pointer (some ⟨gr0, 0, none⟩) ∧ u5 = .int .i64 k ∧
      k ≤ n ∧ k ≤ 40 ∧ L.length ≤ k + 1 ∧ L0.length ≤ k + 1 ∧ h.1 ≤ most ∧ Hid (Pl rep W.heap.size wr g M I gr v L h g0 M0 I0 gr0 v0 L0 h0) ∧ Hid (Below W.heap.size W wr)) (fun _ _ _ _ u5 _ => 40 - (intOf u5).toNat)
    case atStart => exact ⟨0, g, gr, g2, gr2, M, I, M2, I2, v, v2, _, _, _, _, rfl, rfl, rfl, rfl, rfl, Nat.zero_le _, by omega, by simp, by simp, hc, PL, B5⟩
    case round =>
      clear PL B5
      obtain ⟨k, g, gr, g0, gr0, M, I, M0, I0, v, v0, L, L0, h, h0, rfl, rfl, rfl, rfl, rfl, hkn, hk40, hL, hL0, hm, PL, BW⟩ := hrel
      by_cases hgo : k < n ∧ k < 40
      · obtain ⟨hgo1, hgo2⟩ := hgo
        have t1 : (k : Int) < (n : Int) := by omega
        have t2 : (k : Int) < 40 := by omega
        obtain ⟨a, ha⟩ : ∃ a, la[k]? = some a := ⟨_, List.getElem?_eq_getElem (by rw [HA.out.len]; exact hgo1)⟩
        obtain ⟨b, o, rfl, hbW, hbl, hr⟩ := HA.out.some ha
        have HR := hid (show ∀ w', Below W.heap.size W w' → w'.rangeAt b (o + k * 33) (acL a) from fun w' hb j u hj => (hb.cell (p := ⟨b, o + k * 33 + j, none⟩) hbW).trans (hr j u hj))
        have q0 : wr.cell? ⟨b, o + k * 33, none⟩ = some (.int .i64 a.1) := ac_n (HR.out wr BW.out)
        clear hr ha
        by_cases hz : Int.tmod a.1 2 = 0
        · go_wp2_with ((with_reducible apply ldAm tTg); rfl; exact ac_l (HR.out wr BW.out))
          by_cases hfull : h.1 < most
          · refine (hC.adv PL.out.p.prog hfull (by omega) a.2).mono ?_
            rintro e w2 ⟨rfl, ho⟩
            obtain ⟨M2, I2, p2, g2⟩ := PL.out.p.out ho
            have P2 := hid p2
            have G2 := hid g2
            have BW2 := hid (BW.out.trans (PL.out.p.went g2))
            have R2 := hid (PL.out.r.turn' g2.2.2.out fun b e ⟨i, e2⟩ => PL.out.s2 (b, i) (.inl e2) e)
            clear ho p2 g2
            go_wp2_with ((with_reducible apply ldAm tTg); rfl; exact ac_l (HR.out w2 BW2.out))
            refine (radv_any R2.out hfull (by omega) a.2).mono ?_
            rintro e w3 ⟨rfl, v3, hr3, hv3, ht3⟩
            have PL2 := hid (PL.out.both hC P2.out G2.out hr3 hv3 ht3)
            have BW3 := hid (BW2.out.trans (ht3.below (Nat.le_trans PL.out.p.base G2.out.2.2.size) fun b e => PL.out.low b e))
            clear PL BW P2 G2 R2 BW2 hr3 hv3 ht3
            have PL := PL2
            have BW := BW3
            clear PL2 BW3
            obtain ⟨L2, hL2⟩ : ∃ x, x = L ++ [((h.1 + 1, a.2) : Held)] := ⟨_, rfl⟩
            obtain ⟨h2, hh2⟩ : ∃ x : Held, x = (h.1 + 1, a.2) := ⟨_, rfl⟩
            have hL2' : L2.length ≤ k + 2 := by rw [hL2, List.length_append, List.length_cons, List.length_nil]; omega
            have hm2 : h2.1 ≤ most := by rw [hh2]; exact hfull
            rw [← hL2, ← hh2] at PL
            clear hL2 hh2
            obtain ⟨Av, cv, hve, SV⟩ := PL.out.r.lg.sli ceL_len
            subst hve
            clear SV
            go_wp2_with fail
            refine (hC.read PL.out.p.prog).mono ?_
            rintro e wa ⟨rfl, h⟩
            have PA := hid (PL.out.below hC h)
            have BA := hid (BW.out.trans (h.mono BW.out.size))
            clear PL BW h
            go_upto_region 19 with (first | (with_reducible apply alZ' zCe) | ((with_reducible apply stR (tCe h2)); rfl; rfl; exact Blk.new _ _ _; exact ce_size _ _; exact ce_one _))
            generalize hwb : World.setRow _ _ _ = wb
            obtain ⟨gx, hgx⟩ : ∃ n, n = wa.heap.size := ⟨_, rfl⟩
            have h : Below wa.heap.size wa wb := by rw [← hwb]; exact below_setRow ((Below.refl _ _).alloc (Nat.le_refl _) _) (Nat.le_refl _) _
            have bx := hid (show Blk wb gx 26 (ceL h2).toArray by rw [← hwb, hgx]; exact (Blk.new wa _ _).setRow_same _)
            have PB := hid (PA.out.below hC h)
            have BB := hid (BA.out.trans (h.mono BA.out.size))
            rw [← hgx]
            clear hwb hgx h PA BA
            refine wp_region_c (S := yS [some (.int .i64 0), some (.bool false), some (.bool false), some (.agg (ceL h2).toArray), some (.pointer (some ⟨gr, 0, none⟩)), some (.agg (ceL h2).toArray), some (.bool false), some (.bool false), some (.bool false), some (.pointer (some ⟨g, 0, none⟩)), none, some (.pointer (some ⟨gr, 0, none⟩)), some (.pointer (some ⟨gr, 0, none⟩)), some (.pointer (some ⟨gr, 33, none⟩)), some (.slice Av L2.length cv), some (.bool true), some (.bool false), some (.bool false)]
                [(10, kSl L2.length)]) (C := fun d vs w' => HsC wb L2 (d 10) (vs 10) w') 18 (by kernel_rfl) (by kernel_rfl) (by kernel_rfl) _
              (yS_ok _ fun y hy => by simp only [List.mem_cons, List.not_mem_nil, or_false] at hy; rcases hy with rfl; exact kSl_ok _) ⟨(Below.refl _ _).drew, fun e => by cases e⟩ fun vs => ?_
            simp only [List.take_succ_cons, List.take_zero, List.drop_succ_cons, List.drop_zero]
            refine ⟨.inl ⟨rfl, fun dd w' hd hnx hw hC' => ?_⟩, fun e => ?_⟩
            · go_simp
              first | exact ⟨rfl, hC'⟩ | exact hC'
            have e' : vs 0 = _ := e
            rw [e']
            clear e e'
            simp only [Act.put, List.setIfInBounds_toArray, List.set_cons_succ, List.set_cons_zero]
            refine ⟨.inl ⟨rfl, fun dd w' hd hnx hw hC' => ?_⟩, fun e => ?_⟩
            · go_simp
              first | exact ⟨rfl, hC'⟩ | exact hC'
            have e' : vs 1 = _ := e
            rw [e']
            clear e e'
            simp only [Act.put, List.setIfInBounds_toArray, List.set_cons_succ, List.set_cons_zero]
            refine ⟨.inl ⟨rfl, fun dd w' hd hnx hw hC' => ?_⟩, fun e => ?_⟩
            · go_simp
              first | exact ⟨rfl, hC'⟩ | exact hC'
            have e' : vs 2 = _ := e
            rw [e']
            clear e e'
            simp only [Act.put, List.setIfInBounds_toArray, List.set_cons_succ, List.set_cons_zero]
            refine ⟨.inl ⟨rfl, fun dd w' hd hnx hw hC' => ?_⟩, fun e => ?_⟩
            · exact gE_ldR (tCe h2) rfl (bx.out.below hC'.b bx.out.lt).whole ⟨rfl, hC'⟩
            have e' : vs 3 = _ := e
            rw [e']
            clear e e'
            simp only [Act.put, List.setIfInBounds_toArray, List.set_cons_succ, List.set_cons_zero]
            refine ⟨.inl ⟨rfl, fun dd w' hd hnx hw hC' => ?_⟩, fun e => ?_⟩
            · go_simp
              first | exact ⟨rfl, hC'⟩ | exact hC'
            have e' : vs 4 = _ := e
            rw [e']
            clear e e'
            simp only [Act.put, List.setIfInBounds_toArray, List.set_cons_succ, List.set_cons_zero]
            refine ⟨.inl ⟨rfl, fun dd w' hd hnx hw hC' => ?_⟩, fun e => ?_⟩
            · go_simp
              refine (rread_any gr h2.1 h2.2 _ w' (PB.out.below hC hC'.b).r.blk).mono ?_
              rintro e w4 ⟨rfl, h4⟩
              exact ⟨_, rfl, rfl, hC'.on h4⟩
            have e' : vs 5 = _ := e
            rw [e']
            clear e e'
            simp only [Act.put, List.setIfInBounds_toArray, List.set_cons_succ, List.set_cons_zero]
            refine ⟨.inl ⟨rfl, fun dd w' hd hnx hw hC' => ?_⟩, fun e => ?_⟩
            · exact gE_neC (p := h2) (q := h2) rfl rfl ⟨by show Value.bool _ = Value.bool _; rw [ceq_refl]; rfl, hC'⟩
            have e' : vs 6 = _ := e
            rw [e']
            clear e e'
            simp only [Act.put, List.setIfInBounds_toArray, List.set_cons_succ, List.set_cons_zero]
            refine ⟨.inl ⟨rfl, fun dd w' hd hnx hw hC' => ?_⟩, fun e => ?_⟩
            · go_simp
              first | exact ⟨rfl, hC'⟩ | exact hC'
            have e' : vs 7 = _ := e
            rw [e']
            clear e e'
            simp only [Act.put, List.setIfInBounds_toArray, List.set_cons_succ, List.set_cons_zero]
            refine ⟨.inl ⟨rfl, fun dd w' hd hnx hw hC' => ?_⟩, fun e => ?_⟩
            · go_simp
              first | exact ⟨rfl, hC'⟩ | exact hC'
            have e' : vs 8 = _ := e
            rw [e']
            clear e e'
            simp only [Act.put, List.setIfInBounds_toArray, List.set_cons_succ, List.set_cons_zero]
            refine ⟨.inl ⟨rfl, fun dd w' hd hnx hw hC' => ?_⟩, fun e => ?_⟩
            · go_simp
              first | exact ⟨rfl, hC'⟩ | exact hC'
            have e' : vs 9 = _ := e
            rw [e']
            clear e e'
            simp only [Act.put, List.setIfInBounds_toArray, List.set_cons_succ, List.set_cons_zero]
            refine ⟨.inl ⟨rfl, fun dd w' hd hnx hw hC' => ?_⟩, fun e => ?_⟩
            · go_simp
              refine (hC.hist (PB.out.p.below hC hC'.b).prog (by omega)).mono ?_
              rintro e w4 ⟨v4, rfl, o4, h4⟩
              obtain ⟨A4, c4, rfl, s4⟩ := o4.sli ceL_len
              exact ⟨_, rfl, ⟨A4, c4, rfl⟩, hC'.b.trans (h4.mono hC'.b.size), fun _ => ⟨A4, c4, rfl, s4.mono fun _ _ => trivial⟩⟩
            obtain ⟨A10, c10, e'⟩ : ∃ (A : Option Addr) (c : Nat), vs 10 = .slice A L2.length c := e
            rw [e']
            have E10 := hid e'
            clear e'
            simp only [Act.put, List.setIfInBounds_toArray, List.set_cons_succ, List.set_cons_zero]
            refine ⟨.inl ⟨rfl, fun dd w' hd hnx hw hC' => ?_⟩, fun e => ?_⟩
            · go_simp
              first | exact ⟨rfl, hC'⟩ | exact hC'
            have e' : vs 11 = _ := e
            rw [e']
            clear e e'
            simp only [Act.put, List.setIfInBounds_toArray, List.set_cons_succ, List.set_cons_zero]
            refine ⟨.inl ⟨rfl, fun dd w' hd hnx hw hC' => ?_⟩, fun e => ?_⟩
            · go_simp
              first | exact ⟨rfl, hC'⟩ | exact hC'
            have e' : vs 12 = _ := e
            rw [e']
            clear e e'
            simp only [Act.put, List.setIfInBounds_toArray, List.set_cons_succ, List.set_cons_zero]
            refine ⟨.inl ⟨rfl, fun dd w' hd hnx hw hC' => ?_⟩, fun e => ?_⟩
            · go_simp
              first | exact ⟨rfl, hC'⟩ | exact hC'
            have e' : vs 13 = _ := e
            rw [e']
            clear e e'
            simp only [Act.put, List.setIfInBounds_toArray, List.set_cons_succ, List.set_cons_zero]
            refine ⟨.inl ⟨rfl, fun dd w' hd hnx hw hC' => ?_⟩, fun e => ?_⟩
            · have h1 : w'.cell? ⟨gr, 33, none⟩ = some (.slice Av L2.length cv) := rc_v (PB.out.below hC hC'.b).r.blk
              go_simp
              first | exact ⟨rfl, hC'⟩ | exact hC'
            have e' : vs 14 = _ := e
            rw [e']
            clear e e'
            simp only [Act.put, List.setIfInBounds_toArray, List.set_cons_succ, List.set_cons_zero]
            refine ⟨.inl ⟨rfl, fun dd w' hd hnx hw hC' => ?_⟩, fun e => ?_⟩
            · obtain ⟨A', c', f, sl⟩ := hC'.s (hw 10 (by kernel_rfl))
              rw [E10.out] at f
              cases f
              go_simp
              refine (same_any A10 Av L2 L2.length c10 cv (fun _ => True) (fun _ => True) (by omega) w' sl (by obtain ⟨A'', c'', ee, ss⟩ := (PB.out.below hC hC'.b).r.lg.sli ceL_len; cases ee; exact ss.mono fun _ _ => trivial)).mono ?_
              rintro e w4 ⟨rfl, h4⟩
              exact ⟨_, rfl, rfl, hC'.on h4⟩
            have e' : vs 15 = _ := e
            rw [e']
            clear e e'
            simp only [Act.put, List.setIfInBounds_toArray, List.set_cons_succ, List.set_cons_zero]
            refine ⟨.inl ⟨rfl, fun dd w' hd hnx hw hC' => ?_⟩, fun e => ?_⟩
            · go_simp
              first | exact ⟨rfl, hC'⟩ | exact hC'
            have e' : vs 16 = _ := e
            rw [e']
            clear e e'
            simp only [Act.put, List.setIfInBounds_toArray, List.set_cons_succ, List.set_cons_zero]
            refine ⟨.inl ⟨rfl, fun dd w' hd hnx hw hC' => ?_⟩, fun e => ?_⟩
            · go_simp
              first | exact ⟨rfl, hC'⟩ | exact hC'
            have e' : vs 17 = _ := e
            rw [e']
            clear e e'
            simp only [Act.put, List.setIfInBounds_toArray, List.set_cons_succ, List.set_cons_zero]
            intro dd w5 hall hC5
            have PL := hid (PB.out.below hC hC5.b)
            have BW := hid (BB.out.trans (hC5.b.mono BB.out.size))
            clear hall hC5 PB BB bx E10
            go_wp2_with fail
            go_roundw
            case rel => exact ⟨k + 1, g, gr, g0, gr0, _, _, M0, I0, _, v0, L2, L0, h2, h0, rfl, rfl, rfl, rfl, by go_num, by omega, by omega, by omega, by omega, hm2, PL, BW⟩
            case measure => simp [intOf] <;> omega
          · have heq : h.1 = most := by omega
            refine (hC.full PL.out.p.prog heq a.2).mono ?_
            rintro e w2 ⟨rfl, ho⟩
            obtain ⟨M2, I2, p2, g2⟩ := PL.out.p.out ho
            have P2 := hid p2
            have G2 := hid g2
            have BW2 := hid (BW.out.trans (PL.out.p.went g2))
            have R2 := hid (PL.out.r.turn' g2.2.2.out fun b e ⟨i, e2⟩ => PL.out.s2 (b, i) (.inl e2) e)
            clear ho p2 g2
            go_wp2_with ((with_reducible apply ldAm tTg); rfl; exact ac_l (HR.out w2 BW2.out))
            refine (radv_full R2.out heq a.2).mono ?_
            rintro e w3 ⟨rfl, h3⟩
            have PL2 := hid (PL.out.both hC P2.out G2.out (R2.out.below h3) (fun b e => .inl e) (Turn.of_new h3))
            have BW3 := hid (BW2.out.trans (h3.mono (Nat.le_trans PL.out.p.base G2.out.2.2.size)))
            clear PL BW P2 G2 R2 BW2 h3
            have PL := PL2
            have BW := BW3
            clear PL2 BW3
            obtain ⟨L2, hL2⟩ : ∃ x, x = L := ⟨_, rfl⟩
            obtain ⟨h2, hh2⟩ : ∃ x : Held, x = h := ⟨_, rfl⟩
            have hL2' : L2.length ≤ k + 2 := by rw [hL2]; omega
            have hm2 : h2.1 ≤ most := by rw [hh2]; exact hm
            rw [← hL2, ← hh2] at PL
            clear hL2 hh2
            obtain ⟨Av, cv, hve, SV⟩ := PL.out.r.lg.sli ceL_len
            subst hve
            clear SV
            go_wp2_with fail
            refine (hC.read PL.out.p.prog).mono ?_
            rintro e wa ⟨rfl, h⟩
            have PA := hid (PL.out.below hC h)
            have BA := hid (BW.out.trans (h.mono BW.out.size))
            clear PL BW h
            go_upto_region 19 with (first | (with_reducible apply alZ' zCe) | ((with_reducible apply stR (tCe h2)); rfl; rfl; exact Blk.new _ _ _; exact ce_size _ _; exact ce_one _))
            generalize hwb : World.setRow _ _ _ = wb
            obtain ⟨gx, hgx⟩ : ∃ n, n = wa.heap.size := ⟨_, rfl⟩
            have h : Below wa.heap.size wa wb := by rw [← hwb]; exact below_setRow ((Below.refl _ _).alloc (Nat.le_refl _) _) (Nat.le_refl _) _
            have bx := hid (show Blk wb gx 26 (ceL h2).toArray by rw [← hwb, hgx]; exact (Blk.new wa _ _).setRow_same _)
            have PB := hid (PA.out.below hC h)
            have BB := hid (BA.out.trans (h.mono BA.out.size))
            rw [← hgx]
            clear hwb hgx h PA BA
            refine wp_region_c (S := yS [some (.int .i64 0), some (.bool false), some (.bool false), some (.agg (ceL h2).toArray), some (.pointer (some ⟨gr, 0, none⟩)), some (.agg (ceL h2).toArray), some (.bool false), some (.bool false), some (.bool false), some (.pointer (some ⟨g, 0, none⟩)), none, some (.pointer (some ⟨gr, 0, none⟩)), some (.pointer (some ⟨gr, 0, none⟩)), some (.pointer (some ⟨gr, 33, none⟩)), some (.slice Av L2.length cv), some (.bool true), some (.bool false), some (.bool false)]
                [(10, kSl L2.length)]) (C := fun d vs w' => HsC wb L2 (d 10) (vs 10) w') 18 (by kernel_rfl) (by kernel_rfl) (by kernel_rfl) _
              (yS_ok _ fun y hy => by simp only [List.mem_cons, List.not_mem_nil, or_false] at hy; rcases hy with rfl; exact kSl_ok _) ⟨(Below.refl _ _).drew, fun e => by cases e⟩ fun vs => ?_
            simp only [List.take_succ_cons, List.take_zero, List.drop_succ_cons, List.drop_zero]
            refine ⟨.inl ⟨rfl, fun dd w' hd hnx hw hC' => ?_⟩, fun e => ?_⟩
            · go_simp
              first | exact ⟨rfl, hC'⟩ | exact hC'
            have e' : vs 0 = _ := e
            rw [e']
            clear e e'
            simp only [Act.put, List.setIfInBounds_toArray, List.set_cons_succ, List.set_cons_zero]
            refine ⟨.inl ⟨rfl, fun dd w' hd hnx hw hC' => ?_⟩, fun e => ?_⟩
            · go_simp
              first | exact ⟨rfl, hC'⟩ | exact hC'
            have e' : vs 1 = _ := e
            rw [e']
            clear e e'
            simp only [Act.put, List.setIfInBounds_toArray, List.set_cons_succ, List.set_cons_zero]
            refine ⟨.inl ⟨rfl, fun dd w' hd hnx hw hC' => ?_⟩, fun e => ?_⟩
            · go_simp
              first | exact ⟨rfl, hC'⟩ | exact hC'
            have e' : vs 2 = _ := e
            rw [e']
            clear e e'
            simp only [Act.put, List.setIfInBounds_toArray, List.set_cons_succ, List.set_cons_zero]
            refine ⟨.inl ⟨rfl, fun dd w' hd hnx hw hC' => ?_⟩, fun e => ?_⟩
            · exact gE_ldR (tCe h2) rfl (bx.out.below hC'.b bx.out.lt).whole ⟨rfl, hC'⟩
            have e' : vs 3 = _ := e
            rw [e']
            clear e e'
            simp only [Act.put, List.setIfInBounds_toArray, List.set_cons_succ, List.set_cons_zero]
            refine ⟨.inl ⟨rfl, fun dd w' hd hnx hw hC' => ?_⟩, fun e => ?_⟩
            · go_simp
              first | exact ⟨rfl, hC'⟩ | exact hC'
            have e' : vs 4 = _ := e
            rw [e']
            clear e e'
            simp only [Act.put, List.setIfInBounds_toArray, List.set_cons_succ, List.set_cons_zero]
            refine ⟨.inl ⟨rfl, fun dd w' hd hnx hw hC' => ?_⟩, fun e => ?_⟩
            · go_simp
              refine (rread_any gr h2.1 h2.2 _ w' (PB.out.below hC hC'.b).r.blk).mono ?_
              rintro e w4 ⟨rfl, h4⟩
              exact ⟨_, rfl, rfl, hC'.on h4⟩
            have e' : vs 5 = _ := e
            rw [e']
            clear e e'
            simp only [Act.put, List.setIfInBounds_toArray, List.set_cons_succ, List.set_cons_zero]
            refine ⟨.inl ⟨rfl, fun dd w' hd hnx hw hC' => ?_⟩, fun e => ?_⟩
            · exact gE_neC (p := h2) (q := h2) rfl rfl ⟨by show Value.bool _ = Value.bool _; rw [ceq_refl]; rfl, hC'⟩
            have e' : vs 6 = _ := e
            rw [e']
            clear e e'
            simp only [Act.put, List.setIfInBounds_toArray, List.set_cons_succ, List.set_cons_zero]
            refine ⟨.inl ⟨rfl, fun dd w' hd hnx hw hC' => ?_⟩, fun e => ?_⟩
            · go_simp
              first | exact ⟨rfl, hC'⟩ | exact hC'
            have e' : vs 7 = _ := e
            rw [e']
            clear e e'
            simp only [Act.put, List.setIfInBounds_toArray, List.set_cons_succ, List.set_cons_zero]
            refine ⟨.inl ⟨rfl, fun dd w' hd hnx hw hC' => ?_⟩, fun e => ?_⟩
            · go_simp
              first | exact ⟨rfl, hC'⟩ | exact hC'
            have e' : vs 8 = _ := e
            rw [e']
            clear e e'
            simp only [Act.put, List.setIfInBounds_toArray, List.set_cons_succ, List.set_cons_zero]
            refine ⟨.inl ⟨rfl, fun dd w' hd hnx hw hC' => ?_⟩, fun e => ?_⟩
            · go_simp
              first | exact ⟨rfl, hC'⟩ | exact hC'
            have e' : vs 9 = _ := e
            rw [e']
            clear e e'
            simp only [Act.put, List.setIfInBounds_toArray, List.set_cons_succ, List.set_cons_zero]
            refine ⟨.inl ⟨rfl, fun dd w' hd hnx hw hC' => ?_⟩, fun e => ?_⟩
            · go_simp
              refine (hC.hist (PB.out.p.below hC hC'.b).prog (by omega)).mono ?_
              rintro e w4 ⟨v4, rfl, o4, h4⟩
              obtain ⟨A4, c4, rfl, s4⟩ := o4.sli ceL_len
              exact ⟨_, rfl, ⟨A4, c4, rfl⟩, hC'.b.trans (h4.mono hC'.b.size), fun _ => ⟨A4, c4, rfl, s4.mono fun _ _ => trivial⟩⟩
            obtain ⟨A10, c10, e'⟩ : ∃ (A : Option Addr) (c : Nat), vs 10 = .slice A L2.length c := e
            rw [e']
            have E10 := hid e'
            clear e'
            simp only [Act.put, List.setIfInBounds_toArray, List.set_cons_succ, List.set_cons_zero]
            refine ⟨.inl ⟨rfl, fun dd w' hd hnx hw hC' => ?_⟩, fun e => ?_⟩
            · go_simp
              first | exact ⟨rfl, hC'⟩ | exact hC'
            have e' : vs 11 = _ := e
            rw [e']
            clear e e'
            simp only [Act.put, List.setIfInBounds_toArray, List.set_cons_succ, List.set_cons_zero]
            refine ⟨.inl ⟨rfl, fun dd w' hd hnx hw hC' => ?_⟩, fun e => ?_⟩
            · go_simp
              first | exact ⟨rfl, hC'⟩ | exact hC'
            have e' : vs 12 = _ := e
            rw [e']
            clear e e'
            simp only [Act.put, List.setIfInBounds_toArray, List.set_cons_succ, List.set_cons_zero]
            refine ⟨.inl ⟨rfl, fun dd w' hd hnx hw hC' => ?_⟩, fun e => ?_⟩
            · go_simp
              first | exact ⟨rfl, hC'⟩ | exact hC'
            have e' : vs 13 = _ := e
            rw [e']
            clear e e'
            simp only [Act.put, List.setIfInBounds_toArray, List.set_cons_succ, List.set_cons_zero]
            refine ⟨.inl ⟨rfl, fun dd w' hd hnx hw hC' => ?_⟩, fun e => ?_⟩
            · have h1 : w'.cell? ⟨gr, 33, none⟩ = some (.slice Av L2.length cv) := rc_v (PB.out.below hC hC'.b).r.blk
              go_simp
              first | exact ⟨rfl, hC'⟩ | exact hC'
            have e' : vs 14 = _ := e
            rw [e']
            clear e e'
            simp only [Act.put, List.setIfInBounds_toArray, List.set_cons_succ, List.set_cons_zero]
            refine ⟨.inl ⟨rfl, fun dd w' hd hnx hw hC' => ?_⟩, fun e => ?_⟩
            · obtain ⟨A', c', f, sl⟩ := hC'.s (hw 10 (by kernel_rfl))
              rw [E10.out] at f
              cases f
              go_simp
              refine (same_any A10 Av L2 L2.length c10 cv (fun _ => True) (fun _ => True) (by omega) w' sl (by obtain ⟨A'', c'', ee, ss⟩ := (PB.out.below hC hC'.b).r.lg.sli ceL_len; cases ee; exact ss.mono fun _ _ => trivial)).mono ?_
              rintro e w4 ⟨rfl, h4⟩
              exact ⟨_, rfl, rfl, hC'.on h4⟩
            have e' : vs 15 = _ := e
            rw [e']
            clear e e'
            simp only [Act.put, List.setIfInBounds_toArray, List.set_cons_succ, List.set_cons_zero]
            refine ⟨.inl ⟨rfl, fun dd w' hd hnx hw hC' => ?_⟩, fun e => ?_⟩
            · go_simp
              first | exact ⟨rfl, hC'⟩ | exact hC'
            have e' : vs 16 = _ := e
            rw [e']
            clear e e'
            simp only [Act.put, List.setIfInBounds_toArray, List.set_cons_succ, List.set_cons_zero]
            refine ⟨.inl ⟨rfl, fun dd w' hd hnx hw hC' => ?_⟩, fun e => ?_⟩
            · go_simp
              first | exact ⟨rfl, hC'⟩ | exact hC'
            have e' : vs 17 = _ := e
            rw [e']
            clear e e'
            simp only [Act.put, List.setIfInBounds_toArray, List.set_cons_succ, List.set_cons_zero]
            intro dd w5 hall hC5
            have PL := hid (PB.out.below hC hC5.b)
            have BW := hid (BB.out.trans (hC5.b.mono BB.out.size))
            clear hall hC5 PB BB bx E10
            go_wp2_with fail
            go_roundw
            case rel => exact ⟨k + 1, g, gr, g0, gr0, _, _, M0, I0, _, v0, L2, L0, h2, h0, rfl, rfl, rfl, rfl, by go_num, by omega, by omega, by omega, by omega, hm2, PL, BW⟩
            case measure => simp [intOf] <;> omega
        · go_wp2_with fail
          refine (hC.copy PL.out.p.prog (by omega)).mono ?_
          rintro e w4 ⟨g2, M2, I2, rfl, h4, hM2, hI2, hb4⟩
          have H4 := hid h4
          have HM := hid hM2
          have HI := hid hI2
          have HB4 := hid hb4
          unfold ptr'
          clear h4 hM2 hI2 hb4
          go_wp2_with fail
          refine (rcopy_any (PL.out.r.below HB4.out) (by omega)).mono ?_
          rintro e w5 ⟨gr2, rfl, v2, hr5, hv5, h5⟩
          unfold ptr'
          have PL2 := hid (Pl.fork hC PL.out.p PL.out.r H4.out HM.out HI.out HB4.out hr5 hv5 h5)
          have BW2 := hid ((BW.out.trans (HB4.out.mono BW.out.size)).trans (h5.mono (Nat.le_trans BW.out.size HB4.out.size)))
          clear PL BW H4 HM HI HB4 hr5 hv5 h5
          have PL := PL2
          have BW := BW2
          clear PL2 BW2
          obtain ⟨L2, hL2⟩ : ∃ x, x = L := ⟨_, rfl⟩
          obtain ⟨h2, hh2⟩ : ∃ x : Held, x = h := ⟨_, rfl⟩
          have hL2' : L2.length ≤ k + 2 := by rw [hL2]; omega
          have hm2 : h2.1 ≤ most := by rw [hh2]; exact hm
          rw [← hL2, ← hh2] at PL
          clear hL2 hh2
          obtain ⟨Av, cv, hve, SV⟩ := PL.out.r.lg.sli ceL_len
          subst hve
          clear SV
          go_wp2_with fail
          refine (hC.read PL.out.p.prog).mono ?_
          rintro e wa ⟨rfl, h⟩
          have PA := hid (PL.out.below hC h)
          have BA := hid (BW.out.trans (h.mono BW.out.size))
          clear PL BW h
          go_upto_region 19 with (first | (with_reducible apply alZ' zCe) | ((with_reducible apply stR (tCe h2)); rfl; rfl; exact Blk.new _ _ _; exact ce_size _ _; exact ce_one _))
          generalize hwb : World.setRow _ _ _ = wb
          obtain ⟨gx, hgx⟩ : ∃ n, n = wa.heap.size := ⟨_, rfl⟩
          have h : Below wa.heap.size wa wb := by rw [← hwb]; exact below_setRow ((Below.refl _ _).alloc (Nat.le_refl _) _) (Nat.le_refl _) _
          have bx := hid (show Blk wb gx 26 (ceL h2).toArray by rw [← hwb, hgx]; exact (Blk.new wa _ _).setRow_same _)
          have PB := hid (PA.out.below hC h)
          have BB := hid (BA.out.trans (h.mono BA.out.size))
          rw [← hgx]
          clear hwb hgx h PA BA
          refine wp_region_c (S := yS [some (.int .i64 0), some (.bool false), some (.bool false), some (.agg (ceL h2).toArray), some (.pointer (some ⟨gr2, 0, none⟩)), some (.agg (ceL h2).toArray), some (.bool false), some (.bool false), some (.bool false), some (.pointer (some ⟨g2, 0, none⟩)), none, some (.pointer (some ⟨gr2, 0, none⟩)), some (.pointer (some ⟨gr2, 0, none⟩)), some (.pointer (some ⟨gr2, 33, none⟩)), some (.slice Av L2.length cv), some (.bool true), some (.bool false), some (.bool false)]
              [(10, kSl L2.length)]) (C := fun d vs w' => HsC wb L2 (d 10) (vs 10) w') 18 (by kernel_rfl) (by kernel_rfl) (by kernel_rfl) _
            (yS_ok _ fun y hy => by simp only [List.mem_cons, List.not_mem_nil, or_false] at hy; rcases hy with rfl; exact kSl_ok _) ⟨(Below.refl _ _).drew, fun e => by cases e⟩ fun vs => ?_
          simp only [List.take_succ_cons, List.take_zero, List.drop_succ_cons, List.drop_zero]
          refine ⟨.inl ⟨rfl, fun dd w' hd hnx hw hC' => ?_⟩, fun e => ?_⟩
          · go_simp
            first | exact ⟨rfl, hC'⟩ | exact hC'
          have e' : vs 0 = _ := e
          rw [e']
          clear e e'
          simp only [Act.put, List.setIfInBounds_toArray, List.set_cons_succ, List.set_cons_zero]
          refine ⟨.inl ⟨rfl, fun dd w' hd hnx hw hC' => ?_⟩, fun e => ?_⟩
          · go_simp
            first | exact ⟨rfl, hC'⟩ | exact hC'
          have e' : vs 1 = _ := e
          rw [e']
          clear e e'
          simp only [Act.put, List.setIfInBounds_toArray, List.set_cons_succ, List.set_cons_zero]
          refine ⟨.inl ⟨rfl, fun dd w' hd hnx hw hC' => ?_⟩, fun e => ?_⟩
          · go_simp
            first | exact ⟨rfl, hC'⟩ | exact hC'
          have e' : vs 2 = _ := e
          rw [e']
          clear e e'
          simp only [Act.put, List.setIfInBounds_toArray, List.set_cons_succ, List.set_cons_zero]
          refine ⟨.inl ⟨rfl, fun dd w' hd hnx hw hC' => ?_⟩, fun e => ?_⟩
          · exact gE_ldR (tCe h2) rfl (bx.out.below hC'.b bx.out.lt).whole ⟨rfl, hC'⟩
          have e' : vs 3 = _ := e
          rw [e']
          clear e e'
          simp only [Act.put, List.setIfInBounds_toArray, List.set_cons_succ, List.set_cons_zero]
          refine ⟨.inl ⟨rfl, fun dd w' hd hnx hw hC' => ?_⟩, fun e => ?_⟩
          · go_simp
            first | exact ⟨rfl, hC'⟩ | exact hC'
          have e' : vs 4 = _ := e
          rw [e']
          clear e e'
          simp only [Act.put, List.setIfInBounds_toArray, List.set_cons_succ, List.set_cons_zero]
          refine ⟨.inl ⟨rfl, fun dd w' hd hnx hw hC' => ?_⟩, fun e => ?_⟩
          · go_simp
            refine (rread_any gr2 h2.1 h2.2 _ w' (PB.out.below hC hC'.b).r.blk).mono ?_
            rintro e w4 ⟨rfl, h4⟩
            exact ⟨_, rfl, rfl, hC'.on h4⟩
          have e' : vs 5 = _ := e
          rw [e']
          clear e e'
          simp only [Act.put, List.setIfInBounds_toArray, List.set_cons_succ, List.set_cons_zero]
          refine ⟨.inl ⟨rfl, fun dd w' hd hnx hw hC' => ?_⟩, fun e => ?_⟩
          · exact gE_neC (p := h2) (q := h2) rfl rfl ⟨by show Value.bool _ = Value.bool _; rw [ceq_refl]; rfl, hC'⟩
          have e' : vs 6 = _ := e
          rw [e']
          clear e e'
          simp only [Act.put, List.setIfInBounds_toArray, List.set_cons_succ, List.set_cons_zero]
          refine ⟨.inl ⟨rfl, fun dd w' hd hnx hw hC' => ?_⟩, fun e => ?_⟩
          · go_simp
            first | exact ⟨rfl, hC'⟩ | exact hC'
          have e' : vs 7 = _ := e
          rw [e']
          clear e e'
          simp only [Act.put, List.setIfInBounds_toArray, List.set_cons_succ, List.set_cons_zero]
          refine ⟨.inl ⟨rfl, fun dd w' hd hnx hw hC' => ?_⟩, fun e => ?_⟩
          · go_simp
            first | exact ⟨rfl, hC'⟩ | exact hC'
          have e' : vs 8 = _ := e
          rw [e']
          clear e e'
          simp only [Act.put, List.setIfInBounds_toArray, List.set_cons_succ, List.set_cons_zero]
          refine ⟨.inl ⟨rfl, fun dd w' hd hnx hw hC' => ?_⟩, fun e => ?_⟩
          · go_simp
            first | exact ⟨rfl, hC'⟩ | exact hC'
          have e' : vs 9 = _ := e
          rw [e']
          clear e e'
          simp only [Act.put, List.setIfInBounds_toArray, List.set_cons_succ, List.set_cons_zero]
          refine ⟨.inl ⟨rfl, fun dd w' hd hnx hw hC' => ?_⟩, fun e => ?_⟩
          · go_simp
            refine (hC.hist (PB.out.p.below hC hC'.b).prog (by omega)).mono ?_
            rintro e w4 ⟨v4, rfl, o4, h4⟩
            obtain ⟨A4, c4, rfl, s4⟩ := o4.sli ceL_len
            exact ⟨_, rfl, ⟨A4, c4, rfl⟩, hC'.b.trans (h4.mono hC'.b.size), fun _ => ⟨A4, c4, rfl, s4.mono fun _ _ => trivial⟩⟩
          obtain ⟨A10, c10, e'⟩ : ∃ (A : Option Addr) (c : Nat), vs 10 = .slice A L2.length c := e
          rw [e']
          have E10 := hid e'
          clear e'
          simp only [Act.put, List.setIfInBounds_toArray, List.set_cons_succ, List.set_cons_zero]
          refine ⟨.inl ⟨rfl, fun dd w' hd hnx hw hC' => ?_⟩, fun e => ?_⟩
          · go_simp
            first | exact ⟨rfl, hC'⟩ | exact hC'
          have e' : vs 11 = _ := e
          rw [e']
          clear e e'
          simp only [Act.put, List.setIfInBounds_toArray, List.set_cons_succ, List.set_cons_zero]
          refine ⟨.inl ⟨rfl, fun dd w' hd hnx hw hC' => ?_⟩, fun e => ?_⟩
          · go_simp
            first | exact ⟨rfl, hC'⟩ | exact hC'
          have e' : vs 12 = _ := e
          rw [e']
          clear e e'
          simp only [Act.put, List.setIfInBounds_toArray, List.set_cons_succ, List.set_cons_zero]
          refine ⟨.inl ⟨rfl, fun dd w' hd hnx hw hC' => ?_⟩, fun e => ?_⟩
          · go_simp
            first | exact ⟨rfl, hC'⟩ | exact hC'
          have e' : vs 13 = _ := e
          rw [e']
          clear e e'
          simp only [Act.put, List.setIfInBounds_toArray, List.set_cons_succ, List.set_cons_zero]
          refine ⟨.inl ⟨rfl, fun dd w' hd hnx hw hC' => ?_⟩, fun e => ?_⟩
          · have h1 : w'.cell? ⟨gr2, 33, none⟩ = some (.slice Av L2.length cv) := rc_v (PB.out.below hC hC'.b).r.blk
            go_simp
            first | exact ⟨rfl, hC'⟩ | exact hC'
          have e' : vs 14 = _ := e
          rw [e']
          clear e e'
          simp only [Act.put, List.setIfInBounds_toArray, List.set_cons_succ, List.set_cons_zero]
          refine ⟨.inl ⟨rfl, fun dd w' hd hnx hw hC' => ?_⟩, fun e => ?_⟩
          · obtain ⟨A', c', f, sl⟩ := hC'.s (hw 10 (by kernel_rfl))
            rw [E10.out] at f
            cases f
            go_simp
            refine (same_any A10 Av L2 L2.length c10 cv (fun _ => True) (fun _ => True) (by omega) w' sl (by obtain ⟨A'', c'', ee, ss⟩ := (PB.out.below hC hC'.b).r.lg.sli ceL_len; cases ee; exact ss.mono fun _ _ => trivial)).mono ?_
            rintro e w4 ⟨rfl, h4⟩
            exact ⟨_, rfl, rfl, hC'.on h4⟩
          have e' : vs 15 = _ := e
          rw [e']
          clear e e'
          simp only [Act.put, List.setIfInBounds_toArray, List.set_cons_succ, List.set_cons_zero]
          refine ⟨.inl ⟨rfl, fun dd w' hd hnx hw hC' => ?_⟩, fun e => ?_⟩
          · go_simp
            first | exact ⟨rfl, hC'⟩ | exact hC'
          have e' : vs 16 = _ := e
          rw [e']
          clear e e'
          simp only [Act.put, List.setIfInBounds_toArray, List.set_cons_succ, List.set_cons_zero]
          refine ⟨.inl ⟨rfl, fun dd w' hd hnx hw hC' => ?_⟩, fun e => ?_⟩
          · go_simp
            first | exact ⟨rfl, hC'⟩ | exact hC'
          have e' : vs 17 = _ := e
          rw [e']
          clear e e'
          simp only [Act.put, List.setIfInBounds_toArray, List.set_cons_succ, List.set_cons_zero]
          intro dd w5 hall hC5
          have PL := hid (PB.out.below hC hC5.b)
          have BW := hid (BB.out.trans (hC5.b.mono BB.out.size))
          clear hall hC5 PB BB bx E10
          go_wp2_with fail
          go_roundw
          case rel => exact ⟨k + 1, g2, gr2, g, gr, _, _, _, _, _, _, L2, L2, h2, h2, rfl, rfl, rfl, rfl, by go_num, by omega, by omega, by omega, by omega, hm2, PL, BW⟩
          case measure => simp [intOf] <;> omega
      · obtain ⟨Av, cv, hve, SV⟩ := PL.out.r0.lg.sli ceL_len
        subst hve
        clear SV
        obtain ⟨L2, hL2⟩ : ∃ x, x = L0 := ⟨_, rfl⟩
        have hL2' : L2.length ≤ 41 := by rw [hL2]; omega
        rw [← hL2] at PL
        clear hL2
        have SW := hid (show ∀ w', Below wr.heap.size wr w' → w'.cell? ⟨gr0, 33, none⟩ = some (.slice Av L2.length cv) ∧ Sli 33 ceL (fun _ => True) w' Av L2 L2.length cv from fun w' hb => by
          have H := (PL.out.below hC hb).r0
          obtain ⟨A'', c'', ee, ss⟩ := H.lg.sli ceL_len
          cases ee
          exact ⟨rc_v H.blk, ss.mono fun _ _ => trivial⟩)
        by_cases hk1 : k < n
        · have hk2 : ¬ k < 40 := fun e => hgo ⟨hk1, e⟩
          have t1 : (k : Int) < (n : Int) := by omega
          have t2 : decide ((k : Int) < 40) = false := by simp; omega
          clear hgo
          go_upto_region 21 with fail
          refine wp_region_c (S := yS [some (.pointer (some ⟨g0, 0, none⟩)), none, some (.pointer (some ⟨gr0, 0, none⟩)), some (.pointer (some ⟨gr0, 0, none⟩)), some (.pointer (some ⟨gr0, 33, none⟩)), some (.slice Av L2.length cv), some (.bool true), some (.bool true), some (.bool true), some (.bool true)]
              [(1, kSl L2.length)]) (C := fun d vs w' => HsC wr L2 (d 1) (vs 1) w') 10 (by kernel_rfl) (by kernel_rfl) (by kernel_rfl) _
            (yS_ok _ fun y hy => by simp only [List.mem_cons, List.not_mem_nil, or_false] at hy; rcases hy with rfl; exact kSl_ok _) ⟨(Below.refl _ _).drew, fun e => by cases e⟩ fun vs => ?_
          simp only [List.take_succ_cons, List.take_zero, List.drop_succ_cons, List.drop_zero]
          refine ⟨.inl ⟨rfl, fun dd w' hd hnx hw hC' => ?_⟩, fun e => ?_⟩
          · go_simp
            first | exact ⟨rfl, hC'⟩ | exact hC'
          have e' : vs 0 = _ := e
          rw [e']
          clear e e'
          simp only [Act.put, List.setIfInBounds_toArray, List.set_cons_succ, List.set_cons_zero]
          refine ⟨.inl ⟨rfl, fun dd w' hd hnx hw hC' => ?_⟩, fun e => ?_⟩
          · go_simp
            refine (hC.hist (PL.out.p0.below hC hC'.b).prog (by omega)).mono ?_
            rintro e w4 ⟨v4, rfl, o4, h4⟩
            obtain ⟨A4, c4, rfl, s4⟩ := o4.sli ceL_len
            exact ⟨_, rfl, ⟨A4, c4, rfl⟩, hC'.b.trans (h4.mono hC'.b.size), fun _ => ⟨A4, c4, rfl, s4.mono fun _ _ => trivial⟩⟩
          obtain ⟨A1, c1, e'⟩ : ∃ (A : Option Addr) (c : Nat), vs 1 = .slice A L2.length c := e
          rw [e']
          have E1 := hid e'
          clear e'
          simp only [Act.put, List.setIfInBounds_toArray, List.set_cons_succ, List.set_cons_zero]
          refine ⟨.inl ⟨rfl, fun dd w' hd hnx hw hC' => ?_⟩, fun e => ?_⟩
          · go_simp
            first | exact ⟨rfl, hC'⟩ | exact hC'
          have e' : vs 2 = _ := e
          rw [e']
          clear e e'
          simp only [Act.put, List.setIfInBounds_toArray, List.set_cons_succ, List.set_cons_zero]
          refine ⟨.inl ⟨rfl, fun dd w' hd hnx hw hC' => ?_⟩, fun e => ?_⟩
          · go_simp
            first | exact ⟨rfl, hC'⟩ | exact hC'
          have e' : vs 3 = _ := e
          rw [e']
          clear e e'
          simp only [Act.put, List.setIfInBounds_toArray, List.set_cons_succ, List.set_cons_zero]
          refine ⟨.inl ⟨rfl, fun dd w' hd hnx hw hC' => ?_⟩, fun e => ?_⟩
          · go_simp
            first | exact ⟨rfl, hC'⟩ | exact hC'
          have e' : vs 4 = _ := e
          rw [e']
          clear e e'
          simp only [Act.put, List.setIfInBounds_toArray, List.set_cons_succ, List.set_cons_zero]
          refine ⟨.inl ⟨rfl, fun dd w' hd hnx hw hC' => ?_⟩, fun e => ?_⟩
          · have h1 : w'.cell? ⟨gr0, 33, none⟩ = some (.slice Av L2.length cv) := (SW.out w' hC'.b).1
            go_simp
            first | exact ⟨rfl, hC'⟩ | exact hC'
          have e' : vs 5 = _ := e
          rw [e']
          clear e e'
          simp only [Act.put, List.setIfInBounds_toArray, List.set_cons_succ, List.set_cons_zero]
          refine ⟨.inl ⟨rfl, fun dd w' hd hnx hw hC' => ?_⟩, fun e => ?_⟩
          · obtain ⟨A', c', f, sl⟩ := hC'.s (hw 1 (by kernel_rfl))
            rw [E1.out] at f
            cases f
            go_simp
            refine (same_any A1 Av L2 L2.length c1 cv (fun _ => True) (fun _ => True) (by omega) w' sl ((SW.out w' hC'.b).2)).mono ?_
            rintro e w4 ⟨rfl, h4⟩
            exact ⟨_, rfl, rfl, hC'.on h4⟩
          have e' : vs 6 = _ := e
          rw [e']
          clear e e'
          simp only [Act.put, List.setIfInBounds_toArray, List.set_cons_succ, List.set_cons_zero]
          refine ⟨.inl ⟨rfl, fun dd w' hd hnx hw hC' => ?_⟩, fun e => ?_⟩
          · go_simp
            first | exact ⟨rfl, hC'⟩ | exact hC'
          have e' : vs 7 = _ := e
          rw [e']
          clear e e'
          simp only [Act.put, List.setIfInBounds_toArray, List.set_cons_succ, List.set_cons_zero]
          refine ⟨.inl ⟨rfl, fun dd w' hd hnx hw hC' => ?_⟩, fun e => ?_⟩
          · go_simp
            refine (works_any hC w').mono ?_
            rintro e w4 ⟨rfl, h4⟩
            exact ⟨_, rfl, rfl, hC'.on h4⟩
          have e' : vs 8 = _ := e
          rw [e']
          clear e e'
          simp only [Act.put, List.setIfInBounds_toArray, List.set_cons_succ, List.set_cons_zero]
          refine ⟨.inl ⟨rfl, fun dd w' hd hnx hw hC' => ?_⟩, fun e => ?_⟩
          · go_simp
            first | exact ⟨rfl, hC'⟩ | exact hC'
          have e' : vs 9 = _ := e
          rw [e']
          clear e e'
          simp only [Act.put, List.setIfInBounds_toArray, List.set_cons_succ, List.set_cons_zero]
          intro dd w5 hall hC5
          have BW5 := hid (BW.out.trans (hC5.b.mono BW.out.size))
          clear hall hC5 PL BW SW E1
          go_wp2_with fail
          refine bodyPost_ret (results_tmp (t := 4) rfl _ _ _) rfl ?_
          exact ⟨rfl, BW5.out⟩
        · have hk2 : ¬ k < n := hk1
          have t1 : decide ((k : Int) < (n : Int)) = false := by simp; omega
          clear hgo hk1
          go_upto_region 21 with fail
          refine wp_region_c (S := yS [some (.pointer (some ⟨g0, 0, none⟩)), none, some (.pointer (some ⟨gr0, 0, none⟩)), some (.pointer (some ⟨gr0, 0, none⟩)), some (.pointer (some ⟨gr0, 33, none⟩)), some (.slice Av L2.length cv), some (.bool true), some (.bool true), some (.bool true), some (.bool true)]
              [(1, kSl L2.length)]) (C := fun d vs w' => HsC wr L2 (d 1) (vs 1) w') 10 (by kernel_rfl) (by kernel_rfl) (by kernel_rfl) _
            (yS_ok _ fun y hy => by simp only [List.mem_cons, List.not_mem_nil, or_false] at hy; rcases hy with rfl; exact kSl_ok _) ⟨(Below.refl _ _).drew, fun e => by cases e⟩ fun vs => ?_
          simp only [List.take_succ_cons, List.take_zero, List.drop_succ_cons, List.drop_zero]
          refine ⟨.inl ⟨rfl, fun dd w' hd hnx hw hC' => ?_⟩, fun e => ?_⟩
          · go_simp
            first | exact ⟨rfl, hC'⟩ | exact hC'
          have e' : vs 0 = _ := e
          rw [e']
          clear e e'
          simp only [Act.put, List.setIfInBounds_toArray, List.set_cons_succ, List.set_cons_zero]
          refine ⟨.inl ⟨rfl, fun dd w' hd hnx hw hC' => ?_⟩, fun e => ?_⟩
          · go_simp
            refine (hC.hist (PL.out.p0.below hC hC'.b).prog (by omega)).mono ?_
            rintro e w4 ⟨v4, rfl, o4, h4⟩
            obtain ⟨A4, c4, rfl, s4⟩ := o4.sli ceL_len
            exact ⟨_, rfl, ⟨A4, c4, rfl⟩, hC'.b.trans (h4.mono hC'.b.size), fun _ => ⟨A4, c4, rfl, s4.mono fun _ _ => trivial⟩⟩
          obtain ⟨A1, c1, e'⟩ : ∃ (A : Option Addr) (c : Nat), vs 1 = .slice A L2.length c := e
          rw [e']
          have E1 := hid e'
          clear e'
          simp only [Act.put, List.setIfInBounds_toArray, List.set_cons_succ, List.set_cons_zero]
          refine ⟨.inl ⟨rfl, fun dd w' hd hnx hw hC' => ?_⟩, fun e => ?_⟩
          · go_simp
            first | exact ⟨rfl, hC'⟩ | exact hC'
          have e' : vs 2 = _ := e
          rw [e']
          clear e e'
          simp only [Act.put, List.setIfInBounds_toArray, List.set_cons_succ, List.set_cons_zero]
          refine ⟨.inl ⟨rfl, fun dd w' hd hnx hw hC' => ?_⟩, fun e => ?_⟩
          · go_simp
            first | exact ⟨rfl, hC'⟩ | exact hC'
          have e' : vs 3 = _ := e
          rw [e']
          clear e e'
          simp only [Act.put, List.setIfInBounds_toArray, List.set_cons_succ, List.set_cons_zero]
          refine ⟨.inl ⟨rfl, fun dd w' hd hnx hw hC' => ?_⟩, fun e => ?_⟩
          · go_simp
            first | exact ⟨rfl, hC'⟩ | exact hC'
          have e' : vs 4 = _ := e
          rw [e']
          clear e e'
          simp only [Act.put, List.setIfInBounds_toArray, List.set_cons_succ, List.set_cons_zero]
          refine ⟨.inl ⟨rfl, fun dd w' hd hnx hw hC' => ?_⟩, fun e => ?_⟩
          · have h1 : w'.cell? ⟨gr0, 33, none⟩ = some (.slice Av L2.length cv) := (SW.out w' hC'.b).1
            go_simp
            first | exact ⟨rfl, hC'⟩ | exact hC'
          have e' : vs 5 = _ := e
          rw [e']
          clear e e'
          simp only [Act.put, List.setIfInBounds_toArray, List.set_cons_succ, List.set_cons_zero]
          refine ⟨.inl ⟨rfl, fun dd w' hd hnx hw hC' => ?_⟩, fun e => ?_⟩
          · obtain ⟨A', c', f, sl⟩ := hC'.s (hw 1 (by kernel_rfl))
            rw [E1.out] at f
            cases f
            go_simp
            refine (same_any A1 Av L2 L2.length c1 cv (fun _ => True) (fun _ => True) (by omega) w' sl ((SW.out w' hC'.b).2)).mono ?_
            rintro e w4 ⟨rfl, h4⟩
            exact ⟨_, rfl, rfl, hC'.on h4⟩
          have e' : vs 6 = _ := e
          rw [e']
          clear e e'
          simp only [Act.put, List.setIfInBounds_toArray, List.set_cons_succ, List.set_cons_zero]
          refine ⟨.inl ⟨rfl, fun dd w' hd hnx hw hC' => ?_⟩, fun e => ?_⟩
          · go_simp
            first | exact ⟨rfl, hC'⟩ | exact hC'
          have e' : vs 7 = _ := e
          rw [e']
          clear e e'
          simp only [Act.put, List.setIfInBounds_toArray, List.set_cons_succ, List.set_cons_zero]
          refine ⟨.inl ⟨rfl, fun dd w' hd hnx hw hC' => ?_⟩, fun e => ?_⟩
          · go_simp
            refine (works_any hC w').mono ?_
            rintro e w4 ⟨rfl, h4⟩
            exact ⟨_, rfl, rfl, hC'.on h4⟩
          have e' : vs 8 = _ := e
          rw [e']
          clear e e'
          simp only [Act.put, List.setIfInBounds_toArray, List.set_cons_succ, List.set_cons_zero]
          refine ⟨.inl ⟨rfl, fun dd w' hd hnx hw hC' => ?_⟩, fun e => ?_⟩
          · go_simp
            first | exact ⟨rfl, hC'⟩ | exact hC'
          have e' : vs 9 = _ := e
          rw [e']
          clear e e'
          simp only [Act.put, List.setIfInBounds_toArray, List.set_cons_succ, List.set_cons_zero]
          intro dd w5 hall hC5
          have BW5 := hid (BW.out.trans (hC5.b.mono BW.out.size))
          clear hall hC5 PL BW SW E1
          go_wp2_with fail
          refine bodyPost_ret (results_tmp (t := 4) rfl _ _ _) rfl ?_
          exact ⟨rfl, BW5.out⟩
  · have hc' : most < c := by omega
    refine (hC.bad c l0 hc' w1).mono ?_
    rintro e w2 ⟨rfl, h2⟩
    have b2 := hid (b1.out.below h2 b1.out.lt)
    have B2 := hid (B1.out.trans (h2.mono B1.out.size))
    clear h2 b1 B1
    go_wp2_with ((with_reducible apply ldR (cs := (ceL (c, l0)).toArray) (tCe (c, l0))); rfl; exact b2.out.whole)
    refine (rnew_bad c l0 hc' w2).mono ?_
    rintro e w3 ⟨rfl, h3⟩
    have B3 := hid (B2.out.trans (h3.mono B2.out.size))
    clear h3 b2 B2
    go_wp2_with fail
    refine (works_any hC w3).mono ?_
    rintro e w4 ⟨rfl, h4⟩
    have B4 := hid (B3.out.trans (h4.mono B3.out.size))
    clear h4 B3
    go_wp2_with fail
    refine bodyPost_ret (results_tmp (t := 4) rfl _ _ _) rfl ?_
    exact ⟨rfl, B4.out⟩
end ClP
end Go.Proofs.Ythmfdabndfobcaa
set_option maxRecDepth 100000
namespace Go.Proofs.Ythmfdabndfobcaa
open Go.ChangeShapes Go.WideShapes Go.ChangeAt Go.RowKit
attribute [local go_sem] Gives GivesE
namespace ClP
def tgL (t : Nat → Nat) : List Value := (ar 32 t).toList
/-- A cell, the law's label and its start. -/
structure Rs (rep : RepC) (B : Nat) (w : World) (g : Nat) (M I : Cs) (L : List Held) (h : Held) (bl gs : Nat) (lb : Nat → Nat) (st : Held) : Prop where
  p : C1 rep B w g M I L h
  b : Blk w bl 24 (ar 32 lb)
  s : Blk w gs 26 (ceL st).toArray
  o1 : ∀ b, M b ∨ I b → b.1 ≠ bl
  o2 : ∀ b, M b ∨ I b → b.1 ≠ gs
  last : ∃ l, L = l ++ [h]
  first : L[0]? = some st
  ups : ∀ (q : Nat) (x y : Held), L[q]? = some x → L[q + 1]? = some y → y.1 = x.1 + 1
  low : B ≤ bl
section
variable {rep : RepC} {B g bl gs : Nat} {w w' : World} {M I M' I' : Cs} {L : List Held} {h st : Held} {lb : Nat → Nat}
theorem Rs.below (hC : CellC rep) (H : Rs rep B w g M I L h bl gs lb st) (hb : Below w.heap.size w w') : Rs rep B w' g M I L h bl gs lb st :=
  ⟨H.p.below hC hb, H.b.below hb H.b.lt, H.s.below hb H.s.lt, H.o1, H.o2, H.last, H.first, H.ups, H.low⟩
theorem ne_bl_gs (H : Rs rep B w g M I L h bl gs lb st) : bl ≠ gs := fun e => by
  have h1 : w.heap[bl]? = some (.cells _ 24 (0, 0)) := H.b
  have h2 : w.heap[gs]? = some (.cells _ 26 (0, 0)) := H.s
  rw [e, h2] at h1
  simp at h1
theorem Rs.adv (H : Rs rep B w g M I L h bl gs lb st) (t : Nat → Nat) (hp : C1 rep B w' g M' I' (L ++ [((h.1 + 1, t) : Held)]) (h.1 + 1, t)) (hw : Went w M I w' M' I') : Rs rep B w' g M' I' (L ++ [((h.1 + 1, t) : Held)]) (h.1 + 1, t) bl gs lb st := by
  have hb := H.b.lt
  have hs := H.s.lt
  have out : ∀ b, M' b ∨ I' b → (M b ∨ I b) ∨ w.heap.size ≤ b.1 := fun b e => by
    rcases e with e | e
    · exact (hw.1 b e).imp .inl id
    · rcases hw.2.1 b e with x | x | x
      · exact .inl (.inl x)
      · exact .inl (.inr x)
      · exact .inr x
  obtain ⟨l, hl⟩ := H.last
  exact ⟨hp, H.b.turn hw.2.2.out fun ⟨i, e⟩ => H.o1 (bl, i) (.inl e) rfl, H.s.turn hw.2.2.out fun ⟨i, e⟩ => H.o2 (gs, i) (.inl e) rfl,
    fun b e x => by rcases out b e with y | y; exact H.o1 b y x; omega, fun b e x => by rcases out b e with y | y; exact H.o2 b y x; omega, ⟨L, rfl⟩,
    (by rw [List.getElem?_append_left (by rw [hl, List.length_append, List.length_cons]; omega)]; exact H.first),
    (fun q x y hx hy => by
      by_cases hq : q + 1 < L.length
      · rw [List.getElem?_append_left (by omega)] at hx
        rw [List.getElem?_append_left hq] at hy
        exact H.ups q x y hx hy
      · have hq2 : q + 1 = L.length := by
          have := (List.getElem?_eq_some_iff.1 hy).1
          rw [List.length_append, List.length_cons, List.length_nil] at this
          omega
        rw [List.getElem?_append_left (by omega)] at hx
        rw [hq2, List.getElem?_append_right (Nat.le_refl _), Nat.sub_self, List.getElem?_cons_zero] at hy
        cases hy
        have : L[q]? = some h := by
          rw [hl] at hq2 ⊢
          rw [List.length_append, List.length_cons, List.length_nil] at hq2
          rw [List.getElem?_append_right (by omega), show q - l.length = 0 by omega, List.getElem?_cons_zero]
        rw [this] at hx
        cases hx
        rfl), H.low⟩
theorem Rs.full (H : Rs rep B w g M I L h bl gs lb st) (hp : C1 rep B w' g M' I' L h) (hw : Went w M I w' M' I') : Rs rep B w' g M' I' L h bl gs lb st := by
  have hb := H.b.lt
  have hs := H.s.lt
  have out : ∀ b, M' b ∨ I' b → (M b ∨ I b) ∨ w.heap.size ≤ b.1 := fun b e => by
    rcases e with e | e
    · exact (hw.1 b e).imp .inl id
    · rcases hw.2.1 b e with x | x | x
      · exact .inl (.inl x)
      · exact .inl (.inr x)
      · exact .inr x
  exact ⟨hp, H.b.turn hw.2.2.out fun ⟨i, e⟩ => H.o1 (bl, i) (.inl e) rfl, H.s.turn hw.2.2.out fun ⟨i, e⟩ => H.o2 (gs, i) (.inl e) rfl,
    fun b e x => by rcases out b e with y | y; exact H.o1 b y x; omega, fun b e x => by rcases out b e with y | y; exact H.o2 b y x; omega, H.last, H.first, H.ups, H.low⟩
theorem Rs.cnt (H : Rs rep B w g M I L h bl gs lb st) : ∀ (q : Nat) (x : Held), L[q]? = some x → x.1 = st.1 + q
  | 0, x, hx => by
    have := H.first
    rw [hx] at this
    cases this
    rfl
  | q + 1, x, hx => by
    obtain ⟨y, hy⟩ : ∃ y, L[q]? = some y := ⟨_, List.getElem?_eq_getElem (by have := (List.getElem?_eq_some_iff.1 hx).1; omega)⟩
    have h1 := Rs.cnt H q y hy
    have h2 := H.ups q y x hy hx
    omega
theorem Rs.lab (hC : CellC rep) (H : Rs rep B w g M I L h bl gs lb st) (t : Nat → Nat) : Rs rep B (w.setRow bl (ar 32 t)) g M I L h bl gs t st :=
  have tu := Turn.setRow (S := fun b => b = bl) w bl (ar 32 t) rfl
  ⟨H.p.turn hC tu fun b e x => H.o1 b e x, H.b.setRow_same _, H.s.turn tu fun e => ne_bl_gs H e.symm, H.o1, H.o2, H.last, H.first, H.ups, H.low⟩
end
set_option maxHeartbeats 8000000 in
set_option maxRecDepth 100000 in
theorem rises_law {rep : RepC} (hC : CellC rep) (c : Nat) (l0 : Nat → Nat) (A : Option Addr) (la : List (Nat → Nat)) (n cap : Nat) (W : World) (hA : Sli 32 tgL (fun b => b < W.heap.size) W A la n cap) :
    Calls Try.prog 4 #[.agg (ceL (c, l0)).toArray, .slice A n cap] W fun e w' => e = .returned (.bool true) ∧ Below W.heap.size W w' := by
  have HA := hid hA
  have hn6 : n ≤ 9223372036854775807 := by have := hA.cap; have := hA.max; unfold maxLen at *; omega
  clear hA
  go_enter Try.func4, Try.ntmps4
  go_upto_region 1 with fail
  generalize hw1 : World.alloc W _ = w1
  have b1 := hid (show Blk w1 W.heap.size 26 (ceL (c, l0)).toArray by rw [← hw1]; exact Blk.new _ _ _)
  have B1 := hid (show Below W.heap.size W w1 by rw [← hw1]; exact (Below.refl _ _).alloc (Nat.le_refl _) _)
  obtain ⟨gs, hgs⟩ : ∃ x, x = W.heap.size := ⟨_, rfl⟩
  have HGS := hid hgs
  clear hw1
  rw [← hgs] at b1 ⊢
  clear hgs
  go_wp2_with ((with_reducible apply ldR (cs := (ceL (c, l0)).toArray) (tCe (c, l0))); rfl; exact b1.out.whole)
  by_cases hcc : c ≤ most
  · refine (hC.new c l0 hcc w1).mono ?_
    rintro e w2 ⟨g, M, I, rfl, hr, hMI, h2⟩
    have P := hid (show C1 rep gs w2 g M I [((c, l0) : Held)] (c, l0) from ⟨hr, fun b hb => by have := hMI b hb; have := HGS.out; have := B1.out.size; omega, by have := HGS.out; have := B1.out.size; have := h2.size; omega⟩)
    have O := hid (show ∀ b, M b ∨ I b → b.1 ≠ gs from fun b hb e => by have := hMI b hb; have := b1.out.lt; omega)
    have b2 := hid (b1.out.below h2 b1.out.lt)
    have B2 := hid (B1.out.trans (h2.mono B1.out.size))
    clear hr hMI h2 b1 B1
    unfold ptr'
    have q0 : w2.cell? ⟨gs, 0, none⟩ = some (.int .u64 (c : Nat)) := ce_n b2.out.whole
    have q1 := hid (ce_l b2.out.whole)
    go_upto_region 6 with (first | ((with_reducible apply ldAm tTg); rfl; exact q1.out) | (with_reducible apply alA tTg) | ((with_reducible apply stA tTg); rfl; rfl; exact Blk.new _ _ _))
    generalize hw3 : World.setRow _ _ _ = w3
    obtain ⟨bl, hbl⟩ : ∃ x, x = w2.heap.size := ⟨_, rfl⟩
    have h3 : Below w2.heap.size w2 w3 := by rw [← hw3]; exact below_setRow ((Below.refl _ _).alloc (Nat.le_refl _) _) (Nat.le_refl _) _
    have RS := hid (show Rs rep gs w3 g M I [((c, l0) : Held)] (c, l0) bl gs l0 (c, l0) from ⟨P.out.below hC h3, by rw [← hw3, hbl]; exact (Blk.new w2 _ _).setRow_same _, b2.out.below h3 b2.out.lt,
      fun b hb e => by have := hC.lt P.out.prog b hb; omega, O.out, ⟨[], rfl⟩, rfl, fun q x y hx hy => by simp at hy, by have := P.out.base; omega⟩)
    have BW := hid (B2.out.trans (h3.mono B2.out.size))
    have BW := hid (show Below gs W w3 by have := BW.out; rwa [← HGS.out] at this)
    rw [← hbl]
    clear hw3 hbl h3 P O b2 B2 q0 q1
    go_wp2_with fail
    go_loopw [7, 9, 10] (fun u1 u2 u3 wr => ∃ (k hc N : Nat) (hl : Nat → Nat) (M I : Cs) (L : List Held), u1 = .int .u64 (hc : Nat) ∧ u2 = .int .i64 N ∧ u3 = .int .i64 k ∧ k ≤ n ∧ k ≤ 60 ∧ N ≤ k + 1 ∧ hc ≤ most ∧ Hid (L.length = N) ∧
      Hid (Rs rep gs wr g M I L (hc, hl) bl gs hl (c, l0)) ∧ Hid (Below gs W wr)) (fun _ _ u3 _ => 60 - (intOf u3).toNat)
    case atStart => exact ⟨0, c, 1, l0, M, I, _, rfl, rfl, rfl, Nat.zero_le _, by omega, by omega, hcc, hid rfl, RS, BW⟩
    case round =>
      clear RS BW
      obtain ⟨k, hc, N, hl, M, I, L, rfl, rfl, rfl, hkn, hk60, hN, hm, HL, RS, BW⟩ := hrel
      by_cases hgo : k < n ∧ k < 60
      · obtain ⟨hgo1, hgo2⟩ := hgo
        have t1 : (k : Int) < (n : Int) := by omega
        have t2 : (k : Int) < 60 := by omega
        obtain ⟨a, ha⟩ : ∃ a, la[k]? = some a := ⟨_, List.getElem?_eq_getElem (by rw [HA.out.len]; exact hgo1)⟩
        obtain ⟨b, o, rfl, hbW, hbl, hr⟩ := HA.out.some ha
        have HR := hid (show ∀ w', Below gs W w' → w'.rangeAt b (o + k * 32) (ar 32 a).toList from fun w' hb j u hj => (hb.cell (p := ⟨b, o + k * 32 + j, none⟩) (show b < gs by have := HGS.out; have h9 : b < W.heap.size := hbW; omega)).trans (hr j u hj))
        clear hr ha
        by_cases hfull : hc < most
        · go_wp2_with ((with_reducible apply ldAm tTg); rfl; exact HR.out _ BW.out)
          refine (hC.adv RS.out.p.prog hfull (by have := HL.out; omega) a).mono ?_
          rintro e w2 ⟨rfl, ho⟩
          obtain ⟨M2, I2, p2, g2⟩ := RS.out.p.out ho
          have RS2 := hid (RS.out.adv a p2 g2)
          have BW2 := hid (BW.out.trans (RS.out.p.went g2))
          clear ho p2 g2 RS BW
          have tu : IntKind.u64.wrap ((hc : Int) + 1) = ((hc + 1 : Nat) : Int) := (IntWalk.u64_in _ (by unfold most at hfull; omega)).trans (by omega)
          have tu2 : decide ((4611686018427387904 : Int) < ((hc + 1 : Nat) : Int)) = false := by unfold most at hfull; simp; omega
          have tu3 : ¬ 4611686018427387904 < hc + 1 := by unfold most at hfull; omega
          have tu4 : decide ((4611686018427387904 : Int) < (hc : Int) + 1) = false := by unfold most at hfull; simp; omega
          have tN : IntKind.i64.wrap ((N : Int) + 1) = ((N + 1 : Nat) : Int) := (IntWalk.i64_in _ (by omega)).trans (by omega)
          go_upto_region 16 with (first | ((with_reducible apply ldAm tTg); rfl; exact HR.out _ BW2.out) | ((with_reducible apply stA tTg); rfl; rfl; exact RS2.out.b))
          have RS := hid (RS2.out.lab hC a)
          have BW := hid (BW2.out.trans ((Turn.setRow (S := fun b => b = bl) w2 bl (ar 32 a) rfl).below RS2.out.p.base fun b e => by rw [e]; exact RS2.out.low))
          clear RS2 BW2
          generalize World.setRow w2 _ _ = w3 at RS BW ⊢
          obtain ⟨L2, hL2⟩ : ∃ x, x = L ++ [((hc + 1, a) : Held)] := ⟨_, rfl⟩
          obtain ⟨hc2, hhc2⟩ : ∃ x, x = hc + 1 := ⟨_, rfl⟩
          obtain ⟨N2, hN2⟩ : ∃ x, x = N + 1 := ⟨_, rfl⟩
          have HL2 := hid (show L2.length = N2 by rw [hL2, List.length_append, HL.out, hN2]; rfl)
          rw [← hL2, ← hhc2] at RS
          have e1 : (hc : Int) + 1 = (hc2 : Int) := by omega
          rw [e1]
          rw [← hN2] at tN
          have hNk : N2 ≤ k + 2 := by omega
          have hm2 : hc2 ≤ most := by omega
          obtain ⟨al, hal⟩ : ∃ x, x = a := ⟨_, rfl⟩
          rw [← hal] at RS ⊢
          clear e1 hL2 hhc2 hN2 hal tu tu2 tu3 tu4 hfull HL
          go_wp2_with fail
          refine (hC.read RS.out.p.prog).mono ?_
          rintro e wa ⟨rfl, h⟩
          have RA := hid (RS.out.below hC h)
          have BA := hid (BW.out.trans (h.mono (by have := RS.out.p.base; exact this)))
          clear RS BW h
          go_upto_region 20 with (first | (with_reducible apply alZ' zCe) | ((with_reducible apply stR (tCe (hc2, al))); rfl; rfl; exact Blk.new _ _ _; exact ce_size _ _; exact ce_one _))
          generalize hwb : World.setRow _ _ _ = wb
          obtain ⟨gx, hgx⟩ : ∃ n, n = wa.heap.size := ⟨_, rfl⟩
          have h : Below wa.heap.size wa wb := by rw [← hwb]; exact below_setRow ((Below.refl _ _).alloc (Nat.le_refl _) _) (Nat.le_refl _) _
          have bx := hid (show Blk wb gx 26 (ceL (hc2, al)).toArray by rw [← hwb, hgx]; exact (Blk.new wa _ _).setRow_same _)
          have RB := hid (RA.out.below hC h)
          have BB := hid (BA.out.trans (h.mono RA.out.p.base))
          rw [← hgx]
          clear hwb hgx h RA BA
          go_wp2_with fail
          refine (hC.hist RB.out.p.prog (by have := HL2.out; omega)).mono ?_
          rintro e wc ⟨vh, rfl, oh, h⟩
          have RC := hid (RB.out.below hC h)
          have BC := hid (BB.out.trans (h.mono RB.out.p.base))
          have cx := hid (bx.out.below h bx.out.lt)
          obtain ⟨l1, hl1⟩ := RC.out.last
          have hN1 : 1 ≤ N2 := by have := HL2.out; rw [hl1, List.length_append, List.length_cons] at this; omega
          rcases oh.2 with ⟨rfl, h0⟩ | ⟨gl, cpl, cur, rfl, hgl, hcu, hnc, hcm, hcs, htk⟩
          · have := HL2.out; omega
          have SH := hid (show ∀ (q : Nat) x, L2[q]? = some x → wc.rangeAt gl (q * 33) (ceL x) from fun q x hx => by
            obtain ⟨A', c', ee, ss⟩ := oh.sli ceL_len
            cases ee
            obtain ⟨b', o', e', _, _, hr'⟩ := ss.some hx
            cases e'
            rwa [Nat.zero_add] at hr')
          have hglc : gl < wc.heap.size := Blk.lt (t := 26) (cs := cur) hcu
          have HWB := hid (show Below wb.heap.size wb wc from h)
          obtain ⟨m, hm1⟩ : ∃ m, m = N2 - 1 := ⟨_, rfl⟩
          have hmN : m < N2 := by omega
          have tm : IntKind.i64.wrap ((N2 : Int) - 1) = (m : Int) := (IntWalk.i64_in _ (by omega)).trans (by omega)
          have tm2 : (m : Int) < (N2 : Int) := by omega
          have tm3 : (0 : Int) < (N2 : Int) := by omega
          have tm4 : 0 < N2 := by omega
          have X1 := hid (show L2[m]? = some ((hc2, al) : Held) by
            have := HL2.out
            rw [hl1] at this ⊢
            rw [List.length_append, List.length_cons, List.length_nil] at this
            rw [List.getElem?_append_right (by omega), show m - l1.length = 0 by omega, List.getElem?_cons_zero])
          have X0 := hid RC.out.first
          rw [HL2.out]
          have UPS := hid RC.out.ups
          have hltx := cx.out.lt
          have CU := hid (show Blk wc gl 26 cur from hcu)
          have LES := hid (fun q x hx => RC.out.cnt q x hx)
          clear h oh bx hcu hnc hcm hcs htk hl1 hm1
          go_upto_region 21 with fail
          refine wp_region_tail (C := fun w' => Below wc.heap.size wc w') 36 (by kernel_rfl) (by kernel_rfl) (by kernel_rfl) (Below.refl _ _).drew ?_
          simp only [List.take_succ_cons, List.take_zero, List.drop_succ_cons, List.drop_zero]
          apply wpK_val
          · rfl
          · intro w' hw'
            go_simp
            first | exact rfl | exact ⟨rfl, hw'⟩
          simp only [Act.put, List.setIfInBounds_toArray, List.set_cons_succ, List.set_cons_zero]
          apply wpK_val
          · rfl
          · intro w' hw'
            go_simp
            first | exact rfl | exact ⟨rfl, hw'⟩
          simp only [Act.put, List.setIfInBounds_toArray, List.set_cons_succ, List.set_cons_zero]
          apply wpK_val
          · rfl
          · intro w' hw'
            go_simp
            first | exact rfl | exact ⟨rfl, hw'⟩
          simp only [Act.put, List.setIfInBounds_toArray, List.set_cons_succ, List.set_cons_zero]
          apply wpK_val
          · rfl
          · intro w' hw'
            go_simp
            first | exact rfl | exact ⟨rfl, hw'⟩
          simp only [Act.put, List.setIfInBounds_toArray, List.set_cons_succ, List.set_cons_zero]
          apply wpK_val
          · rfl
          · intro w' hw'
            have hcell := ce_n (cx.out.below hw' hltx).whole
            go_simp
            first | exact rfl | exact ⟨rfl, hw'⟩
          simp only [Act.put, List.setIfInBounds_toArray, List.set_cons_succ, List.set_cons_zero]
          apply wpK_val
          · rfl
          · intro w' hw'
            go_simp
            first | exact rfl | exact ⟨rfl, hw'⟩
          simp only [Act.put, List.setIfInBounds_toArray, List.set_cons_succ, List.set_cons_zero]
          apply wpK_val
          · rfl
          · intro w' hw'
            go_simp
            first | exact rfl | exact ⟨rfl, hw'⟩
          simp only [Act.put, List.setIfInBounds_toArray, List.set_cons_succ, List.set_cons_zero]
          apply wpK_val
          · rfl
          · intro w' hw'
            go_simp
            first | exact rfl | exact ⟨rfl, hw'⟩
          simp only [Act.put, List.setIfInBounds_toArray, List.set_cons_succ, List.set_cons_zero]
          apply wpK_val
          · rfl
          · intro w' hw'
            go_simp
            first | exact rfl | exact ⟨rfl, hw'⟩
          simp only [Act.put, List.setIfInBounds_toArray, List.set_cons_succ, List.set_cons_zero]
          apply wpK_val
          · rfl
          · intro w' hw'
            go_simp
            first | exact rfl | exact ⟨rfl, hw'⟩
          simp only [Act.put, List.setIfInBounds_toArray, List.set_cons_succ, List.set_cons_zero]
          apply kldA tTg
          · rfl
          · rfl
          · exact fun w' hw' => ce_l (cx.out.below hw' hltx).whole
          simp only [Act.put, List.setIfInBounds_toArray, List.set_cons_succ, List.set_cons_zero]
          apply kldA tTg
          · rfl
          · rfl
          · exact fun w' hw' => (RC.out.below hC hw').b.head
          simp only [Act.put, List.setIfInBounds_toArray, List.set_cons_succ, List.set_cons_zero]
          apply kneU false uTg gTg
          · rfl
          · rfl
          · rfl
          · exact (by rw [eqA_yes fun _ _ => rfl]; rfl)
          simp only [Act.put, List.setIfInBounds_toArray, List.set_cons_succ, List.set_cons_zero]
          apply wpK_val
          · rfl
          · intro w' hw'
            go_simp
            first | exact rfl | exact ⟨rfl, hw'⟩
          simp only [Act.put, List.setIfInBounds_toArray, List.set_cons_succ, List.set_cons_zero]
          apply wpK_val
          · rfl
          · intro w' hw'
            go_simp
            first | exact rfl | exact ⟨rfl, hw'⟩
          simp only [Act.put, List.setIfInBounds_toArray, List.set_cons_succ, List.set_cons_zero]
          apply wpK_val
          · rfl
          · intro w' hw'
            go_simp
            first | exact rfl | exact ⟨rfl, hw'⟩
          simp only [Act.put, List.setIfInBounds_toArray, List.set_cons_succ, List.set_cons_zero]
          apply wpK_val
          · rfl
          · intro w' hw'
            go_simp
            first | exact rfl | exact ⟨rfl, hw'⟩
          simp only [Act.put, List.setIfInBounds_toArray, List.set_cons_succ, List.set_cons_zero]
          apply wpK_val
          · rfl
          · intro w' hw'
            go_simp
            first | exact rfl | exact ⟨rfl, hw'⟩
          simp only [Act.put, List.setIfInBounds_toArray, List.set_cons_succ, List.set_cons_zero]
          apply wpK_val
          · rfl
          · intro w' hw'
            go_simp
            first | exact rfl | exact ⟨rfl, hw'⟩
          simp only [Act.put, List.setIfInBounds_toArray, List.set_cons_succ, List.set_cons_zero]
          apply wpK_val
          · rfl
          · intro w' hw'
            go_simp
            first | exact rfl | exact ⟨rfl, hw'⟩
          simp only [Act.put, List.setIfInBounds_toArray, List.set_cons_succ, List.set_cons_zero]
          apply wpK_val
          · rfl
          · intro w' hw'
            go_simp
            first | exact rfl | exact ⟨rfl, hw'⟩
          simp only [Act.put, List.setIfInBounds_toArray, List.set_cons_succ, List.set_cons_zero]
          apply wpK_val
          · rfl
          · intro w' hw'
            go_simp
            first | exact rfl | exact ⟨rfl, hw'⟩
          simp only [Act.put, List.setIfInBounds_toArray, List.set_cons_succ, List.set_cons_zero]
          apply wpK_val
          · rfl
          · intro w' hw'
            go_simp
            first | exact rfl | exact ⟨rfl, hw'⟩
          simp only [Act.put, List.setIfInBounds_toArray, List.set_cons_succ, List.set_cons_zero]
          apply wpK_val
          · rfl
          · intro w' hw'
            go_simp
            first | exact rfl | exact ⟨rfl, hw'⟩
          simp only [Act.put, List.setIfInBounds_toArray, List.set_cons_succ, List.set_cons_zero]
          apply wpK_val
          · rfl
          · intro w' hw'
            go_simp
            first | exact rfl | exact ⟨rfl, hw'⟩
          simp only [Act.put, List.setIfInBounds_toArray, List.set_cons_succ, List.set_cons_zero]
          apply kldR (cs := (ceL (hc2, al)).toArray) (tCe (hc2, al))
          · rfl
          · rfl
          · exact fun w' hw' j v hj => (hw'.cell (p := ⟨gl, m * 33 + j, none⟩) hglc).trans (SH.out m _ X1.out j v hj)
          simp only [Act.put, List.setIfInBounds_toArray, List.set_cons_succ, List.set_cons_zero]
          apply kldR (cs := (ceL (hc2, al)).toArray) (tCe (hc2, al))
          · rfl
          · rfl
          · exact fun w' hw' => (cx.out.below hw' hltx).whole
          simp only [Act.put, List.setIfInBounds_toArray, List.set_cons_succ, List.set_cons_zero]
          apply kneC (p := ((hc2, al) : Held)) (q := (hc2, al)) false
          · rfl
          · rfl
          · rfl
          · rw [ceq_refl]; rfl
          simp only [Act.put, List.setIfInBounds_toArray, List.set_cons_succ, List.set_cons_zero]
          apply wpK_val
          · rfl
          · intro w' hw'
            go_simp
            first | exact rfl | exact ⟨rfl, hw'⟩
          simp only [Act.put, List.setIfInBounds_toArray, List.set_cons_succ, List.set_cons_zero]
          apply wpK_val
          · rfl
          · intro w' hw'
            go_simp
            first | exact rfl | exact ⟨rfl, hw'⟩
          simp only [Act.put, List.setIfInBounds_toArray, List.set_cons_succ, List.set_cons_zero]
          apply wpK_val
          · rfl
          · intro w' hw'
            go_simp
            first | exact rfl | exact ⟨rfl, hw'⟩
          simp only [Act.put, List.setIfInBounds_toArray, List.set_cons_succ, List.set_cons_zero]
          apply wpK_val
          · rfl
          · intro w' hw'
            go_simp
            first | exact rfl | exact ⟨rfl, hw'⟩
          simp only [Act.put, List.setIfInBounds_toArray, List.set_cons_succ, List.set_cons_zero]
          apply kldR (cs := (ceL (c, l0)).toArray) (tCe (c, l0))
          · rfl
          · rfl
          · exact fun w' hw' j v hj => (hw'.cell (p := ⟨gl, 0 + j, none⟩) hglc).trans (by have := SH.out 0 _ X0.out j v hj; rwa [Nat.zero_mul] at this)
          simp only [Act.put, List.setIfInBounds_toArray, List.set_cons_succ, List.set_cons_zero]
          apply kldR (cs := (ceL (c, l0)).toArray) (tCe (c, l0))
          · rfl
          · rfl
          · exact fun w' hw' => (RC.out.below hC hw').s.whole
          simp only [Act.put, List.setIfInBounds_toArray, List.set_cons_succ, List.set_cons_zero]
          apply kneC (p := ((c, l0) : Held)) (q := (c, l0)) false
          · rfl
          · rfl
          · rfl
          · rw [ceq_refl]; rfl
          simp only [Act.put, List.setIfInBounds_toArray, List.set_cons_succ, List.set_cons_zero]
          apply wpK_val
          · rfl
          · intro w' hw'
            go_simp
            first | exact rfl | exact ⟨rfl, hw'⟩
          simp only [Act.put, List.setIfInBounds_toArray, List.set_cons_succ, List.set_cons_zero]
          apply wpK_nil
          intro wd hd
          have RD := hid (RC.out.below hC hd)
          have HWD := hid (HWB.out.trans (hd.mono HWB.out.size))
          have hgld := Nat.lt_of_lt_of_le hglc hd.size
          have SD := hid (show ∀ (q : Nat) x, L2[q]? = some x → wd.rangeAt gl (q * 33) (ceL x) from fun q x hx j v hj => (hd.cell (p := ⟨gl, q * 33 + j, none⟩) hglc).trans (SH.out q x hx j v hj))
          have CD := hid (CU.out.below hd hglc)
          clear RC HWB hd SH cx hglc hltx CU
          go_wp2_with fail
          go_loopw [16] (fun u wr => ∃ q : Nat, u = .int .i64 ((q + 1 : Nat) : Int) ∧ q + 1 ≤ N2 ∧ Hid (Below wd.heap.size wd wr)) (fun u _ => N2 - (intOf u).toNat)
          case atStart => exact ⟨0, rfl, by omega, hid (Below.refl _ _)⟩
          case round =>
            obtain ⟨q, rfl, hq, hW⟩ := hrel
            by_cases hgo3 : q + 1 < N2
            · have tq : ((q + 1 : Nat) : Int) < (N2 : Int) := by omega
              have tq2 : (q : Int) < (N2 : Int) := by omega
              have tq3 : IntKind.i64.wrap (((q + 1 : Nat) : Int) - 1) = (q : Int) := (IntWalk.i64_in _ (by omega)).trans (by omega)
              have tq4 : IntKind.i64.wrap (q : Int) = (q : Int) := IntWalk.i64_in _ (by omega)
              have hqi : q < L2.length := by have := HL2.out; omega
              have hqi2 : q + 1 < L2.length := by have := HL2.out; omega
              obtain ⟨x, hx⟩ : ∃ x, L2[q]? = some x := ⟨_, List.getElem?_eq_getElem hqi⟩
              obtain ⟨y, hy⟩ : ∃ y, L2[q + 1]? = some y := ⟨_, List.getElem?_eq_getElem hqi2⟩
              have hxy := UPS.out q x y hx hy
              have tw : IntKind.u64.wrap ((x.1 : Int) + 1) = (y.1 : Int) := (IntWalk.u64_in _ (by have := LES.out q x hx; have h9 : x.1 = c + q := this; unfold most at hcc; omega)).trans (by omega)
              have hglr := Nat.lt_of_lt_of_le hgld hW.out.size
              have SR := hid (show ∀ (q : Nat) x, L2[q]? = some x → wr.rangeAt gl (q * 33) (ceL x) from fun q x hx j v hj => (hW.out.cell (p := ⟨gl, q * 33 + j, none⟩) hgld).trans (SD.out q x hx j v hj))
              have HX := hid hx
              have HY := hid hy
              clear hx hy hqi hqi2
              go_upto_region 26 with fail
              refine wp_region_tail (C := fun w' => Below wr.heap.size wr w') 13 (by kernel_rfl) (by kernel_rfl) (by kernel_rfl) (Below.refl _ _).drew ?_
              simp only [List.take_succ_cons, List.take_zero, List.drop_succ_cons, List.drop_zero]
              apply wpK_val
              · rfl
              · intro w' hw'
                go_simp
                first | exact rfl | exact ⟨rfl, hw'⟩
              simp only [Act.put, List.setIfInBounds_toArray, List.set_cons_succ, List.set_cons_zero]
              apply wpK_val
              · rfl
              · intro w' hw'
                go_simp
                first | exact rfl | exact ⟨rfl, hw'⟩
              simp only [Act.put, List.setIfInBounds_toArray, List.set_cons_succ, List.set_cons_zero]
              apply wpK_val
              · rfl
              · intro w' hw'
                go_simp
                first | exact rfl | exact ⟨rfl, hw'⟩
              simp only [Act.put, List.setIfInBounds_toArray, List.set_cons_succ, List.set_cons_zero]
              apply wpK_val
              · rfl
              · intro w' hw'
                go_simp
                first | exact rfl | exact ⟨rfl, hw'⟩
              simp only [Act.put, List.setIfInBounds_toArray, List.set_cons_succ, List.set_cons_zero]
              apply wpK_val
              · rfl
              · intro w' hw'
                have hcell := (hw'.cell (p := ⟨gl, (q + 1) * 33, none⟩) hglr).trans (ce_n (SR.out (q + 1) y HY.out))
                go_simp
                first | exact rfl | exact ⟨rfl, hw'⟩
              simp only [Act.put, List.setIfInBounds_toArray, List.set_cons_succ, List.set_cons_zero]
              apply wpK_val
              · rfl
              · intro w' hw'
                go_simp
                first | exact rfl | exact ⟨rfl, hw'⟩
              simp only [Act.put, List.setIfInBounds_toArray, List.set_cons_succ, List.set_cons_zero]
              apply wpK_val
              · rfl
              · intro w' hw'
                go_simp
                first | exact rfl | exact ⟨rfl, hw'⟩
              simp only [Act.put, List.setIfInBounds_toArray, List.set_cons_succ, List.set_cons_zero]
              apply wpK_val
              · rfl
              · intro w' hw'
                go_simp
                first | exact rfl | exact ⟨rfl, hw'⟩
              simp only [Act.put, List.setIfInBounds_toArray, List.set_cons_succ, List.set_cons_zero]
              apply wpK_val
              · rfl
              · intro w' hw'
                go_simp
                first | exact rfl | exact ⟨rfl, hw'⟩
              simp only [Act.put, List.setIfInBounds_toArray, List.set_cons_succ, List.set_cons_zero]
              apply wpK_val
              · rfl
              · intro w' hw'
                go_simp
                first | exact rfl | exact ⟨rfl, hw'⟩
              simp only [Act.put, List.setIfInBounds_toArray, List.set_cons_succ, List.set_cons_zero]
              apply wpK_val
              · rfl
              · intro w' hw'
                have hcell := (hw'.cell (p := ⟨gl, q * 33, none⟩) hglr).trans (ce_n (SR.out q x HX.out))
                go_simp
                first | exact rfl | exact ⟨rfl, hw'⟩
              simp only [Act.put, List.setIfInBounds_toArray, List.set_cons_succ, List.set_cons_zero]
              apply wpK_val
              · rfl
              · intro w' hw'
                go_simp
                first | exact rfl | exact ⟨rfl, hw'⟩
              simp only [Act.put, List.setIfInBounds_toArray, List.set_cons_succ, List.set_cons_zero]
              apply wpK_val
              · rfl
              · intro w' hw'
                go_simp
                first | exact rfl | exact ⟨rfl, hw'⟩
              simp only [Act.put, List.setIfInBounds_toArray, List.set_cons_succ, List.set_cons_zero]
              apply wpK_nil
              intro we he
              have WE := hid (hW.out.trans (he.mono hW.out.size))
              clear hW SR HX HY he
              go_wp2_with fail
              go_roundw
              case rel => exact ⟨q + 1, by go_num, by omega, WE⟩
              case measure => simp [intOf] <;> omega
            · have hqe : q + 1 = N2 := by omega
              have tq : decide (((q + 1 : Nat) : Int) < (N2 : Int)) = false := by simp; omega
              have tq2 : ¬ q + 1 < N2 := hgo3
              have HWE := hid (HWD.out.trans (hW.out.mono HWD.out.size))
              have hglr := Nat.lt_of_lt_of_le hgld hW.out.size
              have c0 := hid (show wr.cell? ⟨gl, 0, none⟩ = some (.int .u64 (c : Nat)) from (hW.out.cell (p := ⟨gl, 0, none⟩) hgld).trans (by have := ce_n (SD.out 0 _ X0.out); rwa [Nat.zero_mul] at this))
              have f0 := (CD.out.below hW.out hgld).frozen 0
              have tw : IntKind.u64.wrap ((c : Int) + 1) = ((c + 1 : Nat) : Int) := (IntWalk.u64_in _ (by unfold most at hcc; omega)).trans (by omega)
              clear hW RD HWD SD
              have p0 := c0.out
              have HF := hid (HWE.out.setCell (p := ⟨gl, 0, none⟩) hgl (.int .u64 ((c : Int) + 1)))
              have RS := hid (RB.out.below hC HF.out)
              have BW := hid (BB.out.trans (HF.out.mono RB.out.p.base))
              clear HWE c0 HF RB BB CD UPS LES X0 X1
              go_upto_region 9 with fail
              generalize World.setCell wr _ _ = wz at RS BW ⊢
              go_wp2_with fail
              go_roundw
              case rel => exact ⟨k + 1, hc2, N2, al, _, _, L2, rfl, rfl, by go_num, by omega, by omega, by omega, hm2, HL2, RS, BW⟩
              case measure => simp [intOf] <;> omega
        · have HEQ := hid (show hc = most by omega)
          go_wp2_with ((with_reducible apply ldAm tTg); rfl; exact HR.out _ BW.out)
          refine (hC.full RS.out.p.prog HEQ.out a).mono ?_
          rintro e w2 ⟨rfl, ho⟩
          obtain ⟨M2, I2, p2, g2⟩ := RS.out.p.out ho
          have RS2 := hid (RS.out.full p2 g2)
          have BW2 := hid (BW.out.trans (RS.out.p.went g2))
          clear ho p2 g2 RS BW
          have tf : ((hc : Int) != 4611686018427387904) = false := by have := HEQ.out; unfold most at this; simp; omega
          go_upto_region 19 with fail
          have RS := RS2
          have BW := BW2
          clear RS2 BW2 tf hfull
          obtain ⟨L2, hL2⟩ : ∃ x, x = L := ⟨_, rfl⟩
          obtain ⟨hc2, hhc2⟩ : ∃ x, x = hc := ⟨_, rfl⟩
          obtain ⟨N2, hN2⟩ : ∃ x, x = N := ⟨_, rfl⟩
          have HL2 := hid (show L2.length = N2 by rw [hL2, HL.out, hN2])
          have hNk : N2 ≤ k + 2 := by omega
          have hm2 : hc2 ≤ most := by omega
          obtain ⟨al, hal⟩ : ∃ x, x = hl := ⟨_, rfl⟩
          rw [← hL2, ← hhc2, ← hal] at RS
          try rw [← hN2]
          try rw [← hhc2]
          try rw [show (4611686018427387904 : Int) = (hc2 : Int) by have := HEQ.out; unfold most at this; omega]
          clear hL2 hhc2 hN2 hal HEQ HL
          go_wp2_with fail
          refine (hC.read RS.out.p.prog).mono ?_
          rintro e wa ⟨rfl, h⟩
          have RA := hid (RS.out.below hC h)
          have BA := hid (BW.out.trans (h.mono (by have := RS.out.p.base; exact this)))
          clear RS BW h
          go_upto_region 20 with (first | (with_reducible apply alZ' zCe) | ((with_reducible apply stR (tCe (hc2, al))); rfl; rfl; exact Blk.new _ _ _; exact ce_size _ _; exact ce_one _))
          generalize hwb : World.setRow _ _ _ = wb
          obtain ⟨gx, hgx⟩ : ∃ n, n = wa.heap.size := ⟨_, rfl⟩
          have h : Below wa.heap.size wa wb := by rw [← hwb]; exact below_setRow ((Below.refl _ _).alloc (Nat.le_refl _) _) (Nat.le_refl _) _
          have bx := hid (show Blk wb gx 26 (ceL (hc2, al)).toArray by rw [← hwb, hgx]; exact (Blk.new wa _ _).setRow_same _)
          have RB := hid (RA.out.below hC h)
          have BB := hid (BA.out.trans (h.mono RA.out.p.base))
          rw [← hgx]
          clear hwb hgx h RA BA
          go_wp2_with fail
          refine (hC.hist RB.out.p.prog (by have := HL2.out; omega)).mono ?_
          rintro e wc ⟨vh, rfl, oh, h⟩
          have RC := hid (RB.out.below hC h)
          have BC := hid (BB.out.trans (h.mono RB.out.p.base))
          have cx := hid (bx.out.below h bx.out.lt)
          obtain ⟨l1, hl1⟩ := RC.out.last
          have hN1 : 1 ≤ N2 := by have := HL2.out; rw [hl1, List.length_append, List.length_cons] at this; omega
          rcases oh.2 with ⟨rfl, h0⟩ | ⟨gl, cpl, cur, rfl, hgl, hcu, hnc, hcm, hcs, htk⟩
          · have := HL2.out; omega
          have SH := hid (show ∀ (q : Nat) x, L2[q]? = some x → wc.rangeAt gl (q * 33) (ceL x) from fun q x hx => by
            obtain ⟨A', c', ee, ss⟩ := oh.sli ceL_len
            cases ee
            obtain ⟨b', o', e', _, _, hr'⟩ := ss.some hx
            cases e'
            rwa [Nat.zero_add] at hr')
          have hglc : gl < wc.heap.size := Blk.lt (t := 26) (cs := cur) hcu
          have HWB := hid (show Below wb.heap.size wb wc from h)
          obtain ⟨m, hm1⟩ : ∃ m, m = N2 - 1 := ⟨_, rfl⟩
          have hmN : m < N2 := by omega
          have tm : IntKind.i64.wrap ((N2 : Int) - 1) = (m : Int) := (IntWalk.i64_in _ (by omega)).trans (by omega)
          have tm2 : (m : Int) < (N2 : Int) := by omega
          have tm3 : (0 : Int) < (N2 : Int) := by omega
          have tm4 : 0 < N2 := by omega
          have X1 := hid (show L2[m]? = some ((hc2, al) : Held) by
            have := HL2.out
            rw [hl1] at this ⊢
            rw [List.length_append, List.length_cons, List.length_nil] at this
            rw [List.getElem?_append_right (by omega), show m - l1.length = 0 by omega, List.getElem?_cons_zero])
          have X0 := hid RC.out.first
          rw [HL2.out]
          have UPS := hid RC.out.ups
          have hltx := cx.out.lt
          have CU := hid (show Blk wc gl 26 cur from hcu)
          have LES := hid (fun q x hx => RC.out.cnt q x hx)
          clear h oh bx hcu hnc hcm hcs htk hl1 hm1
          go_upto_region 21 with fail
          refine wp_region_tail (C := fun w' => Below wc.heap.size wc w') 36 (by kernel_rfl) (by kernel_rfl) (by kernel_rfl) (Below.refl _ _).drew ?_
          simp only [List.take_succ_cons, List.take_zero, List.drop_succ_cons, List.drop_zero]
          apply wpK_val
          · rfl
          · intro w' hw'
            go_simp
            first | exact rfl | exact ⟨rfl, hw'⟩
          simp only [Act.put, List.setIfInBounds_toArray, List.set_cons_succ, List.set_cons_zero]
          apply wpK_val
          · rfl
          · intro w' hw'
            go_simp
            first | exact rfl | exact ⟨rfl, hw'⟩
          simp only [Act.put, List.setIfInBounds_toArray, List.set_cons_succ, List.set_cons_zero]
          apply wpK_val
          · rfl
          · intro w' hw'
            go_simp
            first | exact rfl | exact ⟨rfl, hw'⟩
          simp only [Act.put, List.setIfInBounds_toArray, List.set_cons_succ, List.set_cons_zero]
          apply wpK_val
          · rfl
          · intro w' hw'
            go_simp
            first | exact rfl | exact ⟨rfl, hw'⟩
          simp only [Act.put, List.setIfInBounds_toArray, List.set_cons_succ, List.set_cons_zero]
          apply wpK_val
          · rfl
          · intro w' hw'
            have hcell := ce_n (cx.out.below hw' hltx).whole
            go_simp
            first | exact rfl | exact ⟨rfl, hw'⟩
          simp only [Act.put, List.setIfInBounds_toArray, List.set_cons_succ, List.set_cons_zero]
          apply wpK_val
          · rfl
          · intro w' hw'
            go_simp
            first | exact rfl | exact ⟨rfl, hw'⟩
          simp only [Act.put, List.setIfInBounds_toArray, List.set_cons_succ, List.set_cons_zero]
          apply wpK_val
          · rfl
          · intro w' hw'
            go_simp
            first | exact rfl | exact ⟨rfl, hw'⟩
          simp only [Act.put, List.setIfInBounds_toArray, List.set_cons_succ, List.set_cons_zero]
          apply wpK_val
          · rfl
          · intro w' hw'
            go_simp
            first | exact rfl | exact ⟨rfl, hw'⟩
          simp only [Act.put, List.setIfInBounds_toArray, List.set_cons_succ, List.set_cons_zero]
          apply wpK_val
          · rfl
          · intro w' hw'
            go_simp
            first | exact rfl | exact ⟨rfl, hw'⟩
          simp only [Act.put, List.setIfInBounds_toArray, List.set_cons_succ, List.set_cons_zero]
          apply wpK_val
          · rfl
          · intro w' hw'
            go_simp
            first | exact rfl | exact ⟨rfl, hw'⟩
          simp only [Act.put, List.setIfInBounds_toArray, List.set_cons_succ, List.set_cons_zero]
          apply kldA tTg
          · rfl
          · rfl
          · exact fun w' hw' => ce_l (cx.out.below hw' hltx).whole
          simp only [Act.put, List.setIfInBounds_toArray, List.set_cons_succ, List.set_cons_zero]
          apply kldA tTg
          · rfl
          · rfl
          · exact fun w' hw' => (RC.out.below hC hw').b.head
          simp only [Act.put, List.setIfInBounds_toArray, List.set_cons_succ, List.set_cons_zero]
          apply kneU false uTg gTg
          · rfl
          · rfl
          · rfl
          · exact (by rw [eqA_yes fun _ _ => rfl]; rfl)
          simp only [Act.put, List.setIfInBounds_toArray, List.set_cons_succ, List.set_cons_zero]
          apply wpK_val
          · rfl
          · intro w' hw'
            go_simp
            first | exact rfl | exact ⟨rfl, hw'⟩
          simp only [Act.put, List.setIfInBounds_toArray, List.set_cons_succ, List.set_cons_zero]
          apply wpK_val
          · rfl
          · intro w' hw'
            go_simp
            first | exact rfl | exact ⟨rfl, hw'⟩
          simp only [Act.put, List.setIfInBounds_toArray, List.set_cons_succ, List.set_cons_zero]
          apply wpK_val
          · rfl
          · intro w' hw'
            go_simp
            first | exact rfl | exact ⟨rfl, hw'⟩
          simp only [Act.put, List.setIfInBounds_toArray, List.set_cons_succ, List.set_cons_zero]
          apply wpK_val
          · rfl
          · intro w' hw'
            go_simp
            first | exact rfl | exact ⟨rfl, hw'⟩
          simp only [Act.put, List.setIfInBounds_toArray, List.set_cons_succ, List.set_cons_zero]
          apply wpK_val
          · rfl
          · intro w' hw'
            go_simp
            first | exact rfl | exact ⟨rfl, hw'⟩
          simp only [Act.put, List.setIfInBounds_toArray, List.set_cons_succ, List.set_cons_zero]
          apply wpK_val
          · rfl
          · intro w' hw'
            go_simp
            first | exact rfl | exact ⟨rfl, hw'⟩
          simp only [Act.put, List.setIfInBounds_toArray, List.set_cons_succ, List.set_cons_zero]
          apply wpK_val
          · rfl
          · intro w' hw'
            go_simp
            first | exact rfl | exact ⟨rfl, hw'⟩
          simp only [Act.put, List.setIfInBounds_toArray, List.set_cons_succ, List.set_cons_zero]
          apply wpK_val
          · rfl
          · intro w' hw'
            go_simp
            first | exact rfl | exact ⟨rfl, hw'⟩
          simp only [Act.put, List.setIfInBounds_toArray, List.set_cons_succ, List.set_cons_zero]
          apply wpK_val
          · rfl
          · intro w' hw'
            go_simp
            first | exact rfl | exact ⟨rfl, hw'⟩
          simp only [Act.put, List.setIfInBounds_toArray, List.set_cons_succ, List.set_cons_zero]
          apply wpK_val
          · rfl
          · intro w' hw'
            go_simp
            first | exact rfl | exact ⟨rfl, hw'⟩
          simp only [Act.put, List.setIfInBounds_toArray, List.set_cons_succ, List.set_cons_zero]
          apply wpK_val
          · rfl
          · intro w' hw'
            go_simp
            first | exact rfl | exact ⟨rfl, hw'⟩
          simp only [Act.put, List.setIfInBounds_toArray, List.set_cons_succ, List.set_cons_zero]
          apply wpK_val
          · rfl
          · intro w' hw'
            go_simp
            first | exact rfl | exact ⟨rfl, hw'⟩
          simp only [Act.put, List.setIfInBounds_toArray, List.set_cons_succ, List.set_cons_zero]
          apply kldR (cs := (ceL (hc2, al)).toArray) (tCe (hc2, al))
          · rfl
          · rfl
          · exact fun w' hw' j v hj => (hw'.cell (p := ⟨gl, m * 33 + j, none⟩) hglc).trans (SH.out m _ X1.out j v hj)
          simp only [Act.put, List.setIfInBounds_toArray, List.set_cons_succ, List.set_cons_zero]
          apply kldR (cs := (ceL (hc2, al)).toArray) (tCe (hc2, al))
          · rfl
          · rfl
          · exact fun w' hw' => (cx.out.below hw' hltx).whole
          simp only [Act.put, List.setIfInBounds_toArray, List.set_cons_succ, List.set_cons_zero]
          apply kneC (p := ((hc2, al) : Held)) (q := (hc2, al)) false
          · rfl
          · rfl
          · rfl
          · rw [ceq_refl]; rfl
          simp only [Act.put, List.setIfInBounds_toArray, List.set_cons_succ, List.set_cons_zero]
          apply wpK_val
          · rfl
          · intro w' hw'
            go_simp
            first | exact rfl | exact ⟨rfl, hw'⟩
          simp only [Act.put, List.setIfInBounds_toArray, List.set_cons_succ, List.set_cons_zero]
          apply wpK_val
          · rfl
          · intro w' hw'
            go_simp
            first | exact rfl | exact ⟨rfl, hw'⟩
          simp only [Act.put, List.setIfInBounds_toArray, List.set_cons_succ, List.set_cons_zero]
          apply wpK_val
          · rfl
          · intro w' hw'
            go_simp
            first | exact rfl | exact ⟨rfl, hw'⟩
          simp only [Act.put, List.setIfInBounds_toArray, List.set_cons_succ, List.set_cons_zero]
          apply wpK_val
          · rfl
          · intro w' hw'
            go_simp
            first | exact rfl | exact ⟨rfl, hw'⟩
          simp only [Act.put, List.setIfInBounds_toArray, List.set_cons_succ, List.set_cons_zero]
          apply kldR (cs := (ceL (c, l0)).toArray) (tCe (c, l0))
          · rfl
          · rfl
          · exact fun w' hw' j v hj => (hw'.cell (p := ⟨gl, 0 + j, none⟩) hglc).trans (by have := SH.out 0 _ X0.out j v hj; rwa [Nat.zero_mul] at this)
          simp only [Act.put, List.setIfInBounds_toArray, List.set_cons_succ, List.set_cons_zero]
          apply kldR (cs := (ceL (c, l0)).toArray) (tCe (c, l0))
          · rfl
          · rfl
          · exact fun w' hw' => (RC.out.below hC hw').s.whole
          simp only [Act.put, List.setIfInBounds_toArray, List.set_cons_succ, List.set_cons_zero]
          apply kneC (p := ((c, l0) : Held)) (q := (c, l0)) false
          · rfl
          · rfl
          · rfl
          · rw [ceq_refl]; rfl
          simp only [Act.put, List.setIfInBounds_toArray, List.set_cons_succ, List.set_cons_zero]
          apply wpK_val
          · rfl
          · intro w' hw'
            go_simp
            first | exact rfl | exact ⟨rfl, hw'⟩
          simp only [Act.put, List.setIfInBounds_toArray, List.set_cons_succ, List.set_cons_zero]
          apply wpK_nil
          intro wd hd
          have RD := hid (RC.out.below hC hd)
          have HWD := hid (HWB.out.trans (hd.mono HWB.out.size))
          have hgld := Nat.lt_of_lt_of_le hglc hd.size
          have SD := hid (show ∀ (q : Nat) x, L2[q]? = some x → wd.rangeAt gl (q * 33) (ceL x) from fun q x hx j v hj => (hd.cell (p := ⟨gl, q * 33 + j, none⟩) hglc).trans (SH.out q x hx j v hj))
          have CD := hid (CU.out.below hd hglc)
          clear RC HWB hd SH cx hglc hltx CU
          go_wp2_with fail
          go_loopw [16] (fun u wr => ∃ q : Nat, u = .int .i64 ((q + 1 : Nat) : Int) ∧ q + 1 ≤ N2 ∧ Hid (Below wd.heap.size wd wr)) (fun u _ => N2 - (intOf u).toNat)
          case atStart => exact ⟨0, rfl, by omega, hid (Below.refl _ _)⟩
          case round =>
            obtain ⟨q, rfl, hq, hW⟩ := hrel
            by_cases hgo3 : q + 1 < N2
            · have tq : ((q + 1 : Nat) : Int) < (N2 : Int) := by omega
              have tq2 : (q : Int) < (N2 : Int) := by omega
              have tq3 : IntKind.i64.wrap (((q + 1 : Nat) : Int) - 1) = (q : Int) := (IntWalk.i64_in _ (by omega)).trans (by omega)
              have tq4 : IntKind.i64.wrap (q : Int) = (q : Int) := IntWalk.i64_in _ (by omega)
              have hqi : q < L2.length := by have := HL2.out; omega
              have hqi2 : q + 1 < L2.length := by have := HL2.out; omega
              obtain ⟨x, hx⟩ : ∃ x, L2[q]? = some x := ⟨_, List.getElem?_eq_getElem hqi⟩
              obtain ⟨y, hy⟩ : ∃ y, L2[q + 1]? = some y := ⟨_, List.getElem?_eq_getElem hqi2⟩
              have hxy := UPS.out q x y hx hy
              have tw : IntKind.u64.wrap ((x.1 : Int) + 1) = (y.1 : Int) := (IntWalk.u64_in _ (by have := LES.out q x hx; have h9 : x.1 = c + q := this; unfold most at hcc; omega)).trans (by omega)
              have hglr := Nat.lt_of_lt_of_le hgld hW.out.size
              have SR := hid (show ∀ (q : Nat) x, L2[q]? = some x → wr.rangeAt gl (q * 33) (ceL x) from fun q x hx j v hj => (hW.out.cell (p := ⟨gl, q * 33 + j, none⟩) hgld).trans (SD.out q x hx j v hj))
              have HX := hid hx
              have HY := hid hy
              clear hx hy hqi hqi2
              go_upto_region 26 with fail
              refine wp_region_tail (C := fun w' => Below wr.heap.size wr w') 13 (by kernel_rfl) (by kernel_rfl) (by kernel_rfl) (Below.refl _ _).drew ?_
              simp only [List.take_succ_cons, List.take_zero, List.drop_succ_cons, List.drop_zero]
              apply wpK_val
              · rfl
              · intro w' hw'
                go_simp
                first | exact rfl | exact ⟨rfl, hw'⟩
              simp only [Act.put, List.setIfInBounds_toArray, List.set_cons_succ, List.set_cons_zero]
              apply wpK_val
              · rfl
              · intro w' hw'
                go_simp
                first | exact rfl | exact ⟨rfl, hw'⟩
              simp only [Act.put, List.setIfInBounds_toArray, List.set_cons_succ, List.set_cons_zero]
              apply wpK_val
              · rfl
              · intro w' hw'
                go_simp
                first | exact rfl | exact ⟨rfl, hw'⟩
              simp only [Act.put, List.setIfInBounds_toArray, List.set_cons_succ, List.set_cons_zero]
              apply wpK_val
              · rfl
              · intro w' hw'
                go_simp
                first | exact rfl | exact ⟨rfl, hw'⟩
              simp only [Act.put, List.setIfInBounds_toArray, List.set_cons_succ, List.set_cons_zero]
              apply wpK_val
              · rfl
              · intro w' hw'
                have hcell := (hw'.cell (p := ⟨gl, (q + 1) * 33, none⟩) hglr).trans (ce_n (SR.out (q + 1) y HY.out))
                go_simp
                first | exact rfl | exact ⟨rfl, hw'⟩
              simp only [Act.put, List.setIfInBounds_toArray, List.set_cons_succ, List.set_cons_zero]
              apply wpK_val
              · rfl
              · intro w' hw'
                go_simp
                first | exact rfl | exact ⟨rfl, hw'⟩
              simp only [Act.put, List.setIfInBounds_toArray, List.set_cons_succ, List.set_cons_zero]
              apply wpK_val
              · rfl
              · intro w' hw'
                go_simp
                first | exact rfl | exact ⟨rfl, hw'⟩
              simp only [Act.put, List.setIfInBounds_toArray, List.set_cons_succ, List.set_cons_zero]
              apply wpK_val
              · rfl
              · intro w' hw'
                go_simp
                first | exact rfl | exact ⟨rfl, hw'⟩
              simp only [Act.put, List.setIfInBounds_toArray, List.set_cons_succ, List.set_cons_zero]
              apply wpK_val
              · rfl
              · intro w' hw'
                go_simp
                first | exact rfl | exact ⟨rfl, hw'⟩
              simp only [Act.put, List.setIfInBounds_toArray, List.set_cons_succ, List.set_cons_zero]
              apply wpK_val
              · rfl
              · intro w' hw'
                go_simp
                first | exact rfl | exact ⟨rfl, hw'⟩
              simp only [Act.put, List.setIfInBounds_toArray, List.set_cons_succ, List.set_cons_zero]
              apply wpK_val
              · rfl
              · intro w' hw'
                have hcell := (hw'.cell (p := ⟨gl, q * 33, none⟩) hglr).trans (ce_n (SR.out q x HX.out))
                go_simp
                first | exact rfl | exact ⟨rfl, hw'⟩
              simp only [Act.put, List.setIfInBounds_toArray, List.set_cons_succ, List.set_cons_zero]
              apply wpK_val
              · rfl
              · intro w' hw'
                go_simp
                first | exact rfl | exact ⟨rfl, hw'⟩
              simp only [Act.put, List.setIfInBounds_toArray, List.set_cons_succ, List.set_cons_zero]
              apply wpK_val
              · rfl
              · intro w' hw'
                go_simp
                first | exact rfl | exact ⟨rfl, hw'⟩
              simp only [Act.put, List.setIfInBounds_toArray, List.set_cons_succ, List.set_cons_zero]
              apply wpK_nil
              intro we he
              have WE := hid (hW.out.trans (he.mono hW.out.size))
              clear hW SR HX HY he
              go_wp2_with fail
              go_roundw
              case rel => exact ⟨q + 1, by go_num, by omega, WE⟩
              case measure => simp [intOf] <;> omega
            · have hqe : q + 1 = N2 := by omega
              have tq : decide (((q + 1 : Nat) : Int) < (N2 : Int)) = false := by simp; omega
              have tq2 : ¬ q + 1 < N2 := hgo3
              have HWE := hid (HWD.out.trans (hW.out.mono HWD.out.size))
              have hglr := Nat.lt_of_lt_of_le hgld hW.out.size
              have c0 := hid (show wr.cell? ⟨gl, 0, none⟩ = some (.int .u64 (c : Nat)) from (hW.out.cell (p := ⟨gl, 0, none⟩) hgld).trans (by have := ce_n (SD.out 0 _ X0.out); rwa [Nat.zero_mul] at this))
              have f0 := (CD.out.below hW.out hgld).frozen 0
              have tw : IntKind.u64.wrap ((c : Int) + 1) = ((c + 1 : Nat) : Int) := (IntWalk.u64_in _ (by unfold most at hcc; omega)).trans (by omega)
              clear hW RD HWD SD
              have p0 := c0.out
              have HF := hid (HWE.out.setCell (p := ⟨gl, 0, none⟩) hgl (.int .u64 ((c : Int) + 1)))
              have RS := hid (RB.out.below hC HF.out)
              have BW := hid (BB.out.trans (HF.out.mono RB.out.p.base))
              clear HWE c0 HF RB BB CD UPS LES X0 X1
              go_upto_region 9 with fail
              generalize World.setCell wr _ _ = wz at RS BW ⊢
              go_wp2_with fail
              go_roundw
              case rel => exact ⟨k + 1, hc2, N2, al, _, _, L2, rfl, rfl, by go_num, by omega, by omega, by omega, hm2, HL2, RS, BW⟩
              case measure => simp [intOf] <;> omega
      · have BE := hid (show Below W.heap.size W wr by have := BW.out; rwa [HGS.out] at this)
        clear RS BW
        by_cases hk1 : k < n
        · have hk2 : ¬ k < 60 := fun e => hgo ⟨hk1, e⟩
          have t1 : (k : Int) < (n : Int) := by omega
          have t2 : decide ((k : Int) < 60) = false := by simp; omega
          clear hgo
          go_wp2_with fail
          refine (works_any hC wr).mono ?_
          rintro e w4 ⟨rfl, h4⟩
          have B4 := hid (BE.out.trans (h4.mono BE.out.size))
          clear h4 BE
          go_wp2_with fail
          refine bodyPost_ret (results_tmp (t := 4) rfl _ _ _) rfl ?_
          exact ⟨rfl, B4.out⟩
        · have hk2 : ¬ k < n := hk1
          have t1 : decide ((k : Int) < (n : Int)) = false := by simp; omega
          clear hgo hk1
          go_wp2_with fail
          refine (works_any hC wr).mono ?_
          rintro e w4 ⟨rfl, h4⟩
          have B4 := hid (BE.out.trans (h4.mono BE.out.size))
          clear h4 BE
          go_wp2_with fail
          refine bodyPost_ret (results_tmp (t := 4) rfl _ _ _) rfl ?_
          exact ⟨rfl, B4.out⟩
  · have hc' : most < c := by omega
    refine (hC.bad c l0 hc' w1).mono ?_
    rintro e w2 ⟨rfl, h2⟩
    have b2 := hid (b1.out.below h2 b1.out.lt)
    have B2 := hid (B1.out.trans (h2.mono B1.out.size))
    have q0 : w2.cell? ⟨gs, 0, none⟩ = some (.int .u64 (c : Nat)) := ce_n b2.out.whole
    have t1 : decide ((4611686018427387904 : Int) < (c : Int)) = true := by unfold most at hc'; simp; omega
    have t2 : 4611686018427387904 < c := hc'
    clear h2 b1 B1 hcc
    go_wp2_with fail
    refine (works_any hC w2).mono ?_
    rintro e w4 ⟨rfl, h4⟩
    have B4 := hid (B2.out.trans (h4.mono B2.out.size))
    clear h4 B2
    go_wp2_with fail
    refine bodyPost_ret (results_tmp (t := 4) rfl _ _ _) rfl ?_
    exact ⟨rfl, B4.out⟩
end ClP
end Go.Proofs.Ythmfdabndfobcaa
set_option maxRecDepth 100000
namespace Go.Proofs.Ythmfdabndfobcaa
open Go.ChangeShapes Go.WideShapes Go.ChangeAt Go.RowKit
attribute [local go_sem] Gives GivesE
namespace ClP
/-- What is wanted of calls of a cell that is none, or that New did not make. -/
structure NoneC (A0 : Option Addr) (c0 : Nat) (zCl : Array Value) : Prop where
  built : Try.prog.built 56 [] = some zCl
  readN : ∀ w, Calls Try.prog 14 #[.pointer none] w fun e w' => e = .returned (.tuple #[.agg (ceL (0, zero)).toArray, .int .i64 1]) ∧ Below w.heap.size w w'
  advZ : ∀ z w (t : Nat → Nat), Blk w z 56 zCl → Calls Try.prog 12 #[ptr' z, .agg (ar 32 t)] w fun e w' => e = .returned (.tuple #[.int .u64 0, .int .i64 1]) ∧ Below w.heap.size w w'
  histN : ∀ w, Calls Try.prog 17 #[.pointer none] w fun e w' => e = .returned (.slice A0 0 c0) ∧ Below w.heap.size w w'
  copyZ : ∀ z w, Blk w z 56 zCl → Calls Try.prog 10 #[ptr' z] w fun e w' => e = .returned (.pointer none) ∧ Below w.heap.size w w'
section
variable {ops : Array Oper} {Q : Exit → Act → World → Prop} {a : Act} {w : World} {rest : List Oper} {dst : Option Tmp} {ty : TypeId} {pos : String} {after : Array Edge} {x y : Operand}
theorem wblZc {zCl : Array Value} (hz : Try.prog.built 56 [] = some zCl) (hk : wpList Try.prog ops Q rest (a.put dst (.agg zCl)) w) : wpList Try.prog ops Q (⟨dst, .build 56 #[], ty, pos, after, none⟩ :: rest) a w := by
  have hr : (Instr.build 56 #[]).run Try.prog w = .ok (.agg zCl) w := run_build w _ _ _ hz
  refine wpList_plain rfl fun K hK => ?_
  unfold Oper.wp execOp
  simp [hr, Result.andThen]
  exact hK _ _ hk
end
theorem run_ceN (w : World) : (Instr.build 26 #[(0, .int .u64 4611686018427387905)]).run Try.prog w = .ok (.agg (ceL (4611686018427387905, zero)).toArray) w := run_build w _ _ _ (by kernel_rfl)
theorem run_tg0 (w : World) : (Instr.build 24 #[]).run Try.prog w = .ok (.agg (ar 32 fun _ => 0)) w := run_build w _ _ _ (by kernel_rfl)
set_option maxHeartbeats 8000000 in
set_option maxRecDepth 100000 in
theorem known_law {rep : RepC} (hC : CellC rep) {A0 : Option Addr} {c0 : Nat} {zCl : Array Value} (hN : NoneC A0 c0 zCl) (W : World) : Calls Try.prog 5 #[] W fun e w' => e = .returned (.bool true) ∧ Below W.heap.size W w' := by
  go_enter Try.func5, Try.ntmps5
  go_wp2_with (with_reducible apply wblZ)
  refine (hC.new 0 zero (by unfold most; omega) W).mono ?_
  rintro e w1 ⟨g, M1, I1, rfl, hr, hMI, h1⟩
  have P1 := hid (show C1 rep W.heap.size w1 g M1 I1 [((0, zero) : Held)] (0, zero) from ⟨hr, hMI, h1.size⟩)
  have B1 := hid h1
  clear hr hMI h1
  unfold ptr'
  go_wp2_with ((with_reducible apply bldOne (i := 0) (v := .int .u8 1) (cs := ar 32 (lab1 1))); exact fun w => run_lab 1 w)
  refine (hC.adv P1.out.prog (by unfold most; show 0 < _; omega) (by simp) (lab1 1)).mono ?_
  rintro e w2 ⟨rfl, ho⟩
  obtain ⟨M2, I2, p2, g2⟩ := P1.out.out ho
  have P2 := hid (show C1 rep W.heap.size w2 g M2 I2 [((0, zero) : Held), (1, lab1 1)] (1, lab1 1) from p2)
  have B2 := hid (B1.out.trans (P1.out.went g2))
  clear ho p2 g2 P1 B1
  rw [show (((0 : Nat), zero).1 + 1 : Nat) = 1 from rfl]
  go_wp2_with ((with_reducible apply bldOne (i := 0) (v := .int .u8 2) (cs := ar 32 (lab1 2))); exact fun w => run_lab 2 w)
  refine (hC.adv P2.out.prog (by unfold most; show 1 < _; omega) (by simp) (lab1 2)).mono ?_
  rintro e w3 ⟨rfl, ho⟩
  obtain ⟨M3, I3, p3, g3⟩ := P2.out.out ho
  have P3 := hid (show C1 rep W.heap.size w3 g M3 I3 [((0, zero) : Held), (1, lab1 1), (2, lab1 2)] (2, lab1 2) from p3)
  have B3 := hid (B2.out.trans (P2.out.went g3))
  clear ho p3 g3 P2 B2
  rw [show (((1 : Nat), lab1 1).1 + 1 : Nat) = 2 from rfl]
  go_wp2_with fail
  refine (hC.read P3.out.prog).mono ?_
  rintro e w4 ⟨rfl, h4⟩
  have B4 := hid (B3.out.trans (h4.mono B3.out.size))
  clear P3 B3 h4
  go_upto_region 5 with (first | (with_reducible apply alZ' zCe) | ((with_reducible apply stR (tCe (2, lab1 2))); rfl; rfl; exact Blk.new _ _ _; exact ce_size _ _; exact ce_one _))
  generalize hw5 : World.setRow _ _ _ = w5
  obtain ⟨gx, hgx⟩ : ∃ n, n = w4.heap.size := ⟨_, rfl⟩
  have h5 : Below w4.heap.size w4 w5 := by rw [← hw5]; exact below_setRow ((Below.refl _ _).alloc (Nat.le_refl _) _) (Nat.le_refl _) _
  have bx := hid (show Blk w5 gx 26 (ceL (2, lab1 2)).toArray by rw [← hw5, hgx]; exact (Blk.new w4 _ _).setRow_same _)
  have B5 := hid (B4.out.trans (h5.mono B4.out.size))
  rw [← hgx]
  clear hw5 hgx h5 B4
  go_wp2_with (first | ((with_reducible apply bldOne (i := 0) (v := .int .u8 3) (cs := ar 32 (lab1 3))); exact fun w => run_lab 3 w) | ((with_reducible apply wblC (c := 4611686018427387904) (l := lab1 3)); rfl; rfl))
  refine (hC.new 4611686018427387904 (lab1 3) (by unfold most; omega) w5).mono ?_
  rintro e w6 ⟨gb, M6, I6, rfl, hr, hMI, h6⟩
  have P6 := hid (show C1 rep W.heap.size w6 gb M6 I6 [((4611686018427387904, lab1 3) : Held)] (4611686018427387904, lab1 3) from ⟨hr, fun b hb => Nat.le_trans B5.out.size (hMI b hb), Nat.le_trans B5.out.size h6.size⟩)
  have NX := hid (show ¬ ∃ i, M6 (gx, i) from fun ⟨i, e⟩ => by have := hMI (gx, i) (.inl e); have := bx.out.lt; omega)
  have bx6 := hid (bx.out.below h6 bx.out.lt)
  have B6 := hid (B5.out.trans (h6.mono B5.out.size))
  clear hr hMI h6 bx B5
  unfold ptr'
  go_wp2_with ((with_reducible apply bldOne (i := 0) (v := .int .u8 4) (cs := ar 32 (lab1 4))); exact fun w => run_lab 4 w)
  refine (hC.full P6.out.prog rfl (lab1 4)).mono ?_
  rintro e w7 ⟨rfl, ho⟩
  obtain ⟨M7, I7, p7, g7⟩ := P6.out.out ho
  have P7 := hid p7
  have bx7 := hid (bx6.out.turn g7.2.2.out NX.out)
  have B7 := hid (B6.out.trans (P6.out.went g7))
  clear ho p7 g7 P6 B6 bx6 NX
  go_wp2_with fail
  refine (hC.read P7.out.prog).mono ?_
  rintro e w8 ⟨rfl, h8⟩
  have bx8 := hid (bx7.out.below h8 bx7.out.lt)
  have B8 := hid (B7.out.trans (h8.mono B7.out.size))
  clear P7 B7 bx7 h8
  go_upto_region 8 with (first | (with_reducible apply alZ' zCe) | ((with_reducible apply stR (tCe (4611686018427387904, lab1 3))); rfl; rfl; exact Blk.new _ _ _; exact ce_size _ _; exact ce_one _))
  generalize hw9 : World.setRow _ _ _ = w9
  obtain ⟨gy, hgy⟩ : ∃ n, n = w8.heap.size := ⟨_, rfl⟩
  have h9 : Below w8.heap.size w8 w9 := by rw [← hw9]; exact below_setRow ((Below.refl _ _).alloc (Nat.le_refl _) _) (Nat.le_refl _) _
  have by' := hid (show Blk w9 gy 26 (ceL (4611686018427387904, lab1 3)).toArray by rw [← hw9, hgy]; exact (Blk.new w8 _ _).setRow_same _)
  have bx9 := hid (bx8.out.below h9 bx8.out.lt)
  have B9 := hid (B8.out.trans (h9.mono B8.out.size))
  rw [← hgy]
  clear hw9 hgy h9 B8 bx8
  go_wp2_with ((with_reducible apply bldOne (i := 0) (v := .int .u64 4611686018427387905) (cs := (ceL (4611686018427387905, zero)).toArray)); exact fun w => run_ceN w)
  refine (hC.bad 4611686018427387905 zero (by unfold most; omega) w9).mono ?_
  rintro e w10 ⟨rfl, h⟩
  have bx10 := hid (bx9.out.below h bx9.out.lt)
  have by10 := hid (by'.out.below h by'.out.lt)
  have B10 := hid (B9.out.trans (h.mono B9.out.size))
  clear h bx9 by' B9
  go_upto_region 11 with (with_reducible apply wblZc hN.built)
  generalize hw11 : World.alloc w10 _ = w11
  obtain ⟨gz, hgz⟩ : ∃ n, n = w10.heap.size := ⟨_, rfl⟩
  have h : Below w10.heap.size w10 w11 := by rw [← hw11]; exact (Below.refl _ _).alloc (Nat.le_refl _) _
  have bz11 := hid (show Blk w11 gz 56 zCl by rw [← hw11, hgz]; exact Blk.new _ _ _)
  have bx11 := hid (bx10.out.below h bx10.out.lt)
  have by11 := hid (by10.out.below h by10.out.lt)
  have B11 := hid (B10.out.trans (h.mono B10.out.size))
  rw [← hgz]
  clear hw11 hgz h bx10 by10 B10
  go_wp2_with fail
  refine (hN.readN w11).mono ?_
  rintro e w12 ⟨rfl, h⟩
  have bz12 := hid (bz11.out.below h bz11.out.lt)
  have bx12 := hid (bx11.out.below h bx11.out.lt)
  have by12 := hid (by11.out.below h by11.out.lt)
  have B12 := hid (B11.out.trans (h.mono B11.out.size))
  clear h bx11 by11 bz11 B11
  go_upto_region 12 with (first | (with_reducible apply alZ' zCe) | ((with_reducible apply stR (tCe (0, zero))); rfl; rfl; exact Blk.new _ _ _; exact ce_size _ _; exact ce_one _))
  generalize hw13 : World.setRow _ _ _ = w13
  have h : Below w12.heap.size w12 w13 := by rw [← hw13]; exact below_setRow ((Below.refl _ _).alloc (Nat.le_refl _) _) (Nat.le_refl _) _
  have bz13 := hid (bz12.out.below h bz12.out.lt)
  have bx13 := hid (bx12.out.below h bx12.out.lt)
  have by13 := hid (by12.out.below h by12.out.lt)
  have B13 := hid (B12.out.trans (h.mono B12.out.size))
  clear hw13 h bx12 by12 bz12 B12
  go_wp2_with ((with_reducible apply bldZr (n := 32)); kernel_rfl)
  refine (hN.advZ gz w13 (fun _ => 0) bz13.out).mono ?_
  rintro e w14 ⟨rfl, h⟩
  have bz14 := hid (bz13.out.below h bz13.out.lt)
  have bx14 := hid (bx13.out.below h bx13.out.lt)
  have by14 := hid (by13.out.below h by13.out.lt)
  have B14 := hid (B13.out.trans (h.mono B13.out.size))
  clear h bx13 by13 bz13 B13
  go_upto_region 13 with fail
  refine wp_region_fixed (C := fun w' => Below w14.heap.size w14 w') 33 (Below.refl _ _) ?_
  simp only [List.take_succ_cons, List.take_zero, List.drop_succ_cons, List.drop_zero]
  apply wpK_val
  · rfl
  · intro w' hw'
    go_simp
    first | exact rfl | exact ⟨rfl, hw'⟩
  simp only [Act.put, List.setIfInBounds_toArray, List.set_cons_succ, List.set_cons_zero]
  apply wpK_val
  · rfl
  · intro w' hw'
    go_simp
    first | exact rfl | exact ⟨rfl, hw'⟩
  simp only [Act.put, List.setIfInBounds_toArray, List.set_cons_succ, List.set_cons_zero]
  apply wpK_val
  · rfl
  · intro w' hw'
    go_simp
    first | exact rfl | exact ⟨rfl, hw'⟩
  simp only [Act.put, List.setIfInBounds_toArray, List.set_cons_succ, List.set_cons_zero]
  apply wpK_val
  · rfl
  · intro w' hw'
    go_simp
    first | exact rfl | exact ⟨rfl, hw'⟩
  simp only [Act.put, List.setIfInBounds_toArray, List.set_cons_succ, List.set_cons_zero]
  apply wpK_val
  · rfl
  · intro w' hw'
    go_simp
    first | exact rfl | exact ⟨rfl, hw'⟩
  simp only [Act.put, List.setIfInBounds_toArray, List.set_cons_succ, List.set_cons_zero]
  apply wpK_val
  · rfl
  · intro w' hw'
    go_simp
    first | exact rfl | exact ⟨rfl, hw'⟩
  simp only [Act.put, List.setIfInBounds_toArray, List.set_cons_succ, List.set_cons_zero]
  apply wpK_val
  · rfl
  · intro w' hw'
    go_simp
    first | exact rfl | exact ⟨rfl, hw'⟩
  simp only [Act.put, List.setIfInBounds_toArray, List.set_cons_succ, List.set_cons_zero]
  apply wpK_val
  · rfl
  · intro w' hw'
    go_simp
    first | exact rfl | exact ⟨rfl, hw'⟩
  simp only [Act.put, List.setIfInBounds_toArray, List.set_cons_succ, List.set_cons_zero]
  apply wpK_val
  · rfl
  · intro w' hw'
    go_simp
    first | exact rfl | exact ⟨rfl, hw'⟩
  simp only [Act.put, List.setIfInBounds_toArray, List.set_cons_succ, List.set_cons_zero]
  apply wpK_val
  · rfl
  · intro w' hw'
    go_simp
    first | exact rfl | exact ⟨rfl, hw'⟩
  simp only [Act.put, List.setIfInBounds_toArray, List.set_cons_succ, List.set_cons_zero]
  apply wpK_val
  · rfl
  · intro w' hw'
    go_simp
    first | exact rfl | exact ⟨rfl, hw'⟩
  simp only [Act.put, List.setIfInBounds_toArray, List.set_cons_succ, List.set_cons_zero]
  apply wpK_val
  · rfl
  · intro w' hw'
    go_simp
    first | exact rfl | exact ⟨rfl, hw'⟩
  simp only [Act.put, List.setIfInBounds_toArray, List.set_cons_succ, List.set_cons_zero]
  apply wpK_val
  · rfl
  · intro w' hw'
    go_simp
    first | exact rfl | exact ⟨rfl, hw'⟩
  simp only [Act.put, List.setIfInBounds_toArray, List.set_cons_succ, List.set_cons_zero]
  apply wpK_val
  · rfl
  · intro w' hw'
    go_simp
    first | exact rfl | exact ⟨rfl, hw'⟩
  simp only [Act.put, List.setIfInBounds_toArray, List.set_cons_succ, List.set_cons_zero]
  apply wpK_val
  · rfl
  · intro w' hw'
    go_simp
    first | exact rfl | exact ⟨rfl, hw'⟩
  simp only [Act.put, List.setIfInBounds_toArray, List.set_cons_succ, List.set_cons_zero]
  apply wpK_val
  · rfl
  · intro w' hw'
    go_simp
    first | exact rfl | exact ⟨rfl, hw'⟩
  simp only [Act.put, List.setIfInBounds_toArray, List.set_cons_succ, List.set_cons_zero]
  apply wpK_val
  · rfl
  · intro w' hw'
    go_simp
    first | exact rfl | exact ⟨rfl, hw'⟩
  simp only [Act.put, List.setIfInBounds_toArray, List.set_cons_succ, List.set_cons_zero]
  apply wpK_val
  · rfl
  · intro w' hw'
    go_simp
    first | exact rfl | exact ⟨rfl, hw'⟩
  simp only [Act.put, List.setIfInBounds_toArray, List.set_cons_succ, List.set_cons_zero]
  apply wpK_val
  · rfl
  · intro w' hw'
    go_simp
    first | exact rfl | exact ⟨rfl, hw'⟩
  simp only [Act.put, List.setIfInBounds_toArray, List.set_cons_succ, List.set_cons_zero]
  apply wpK_val
  · rfl
  · intro w' hw'
    go_simp
    first | exact rfl | exact ⟨rfl, hw'⟩
  simp only [Act.put, List.setIfInBounds_toArray, List.set_cons_succ, List.set_cons_zero]
  apply wpK_val
  · rfl
  · intro w' hw'
    go_simp
    first | exact rfl | exact ⟨rfl, hw'⟩
  simp only [Act.put, List.setIfInBounds_toArray, List.set_cons_succ, List.set_cons_zero]
  apply wpK_val
  · rfl
  · intro w' hw'
    go_simp
    first | exact rfl | exact ⟨rfl, hw'⟩
  simp only [Act.put, List.setIfInBounds_toArray, List.set_cons_succ, List.set_cons_zero]
  apply wpK_val
  · rfl
  · intro w' hw'
    go_simp
    first | exact rfl | exact ⟨rfl, hw'⟩
  simp only [Act.put, List.setIfInBounds_toArray, List.set_cons_succ, List.set_cons_zero]
  apply wpK_val
  · rfl
  · intro w' hw'
    go_simp
    first | exact rfl | exact ⟨rfl, hw'⟩
  simp only [Act.put, List.setIfInBounds_toArray, List.set_cons_succ, List.set_cons_zero]
  apply wpK_val
  · rfl
  · intro w' hw'
    have hcell := ce_n (bx14.out.below hw' bx14.out.lt).whole
    go_simp
    first | exact rfl | exact ⟨rfl, hw'⟩
  simp only [Act.put, List.setIfInBounds_toArray, List.set_cons_succ, List.set_cons_zero]
  apply wpK_val
  · rfl
  · intro w' hw'
    go_simp
    first | exact rfl | exact ⟨rfl, hw'⟩
  simp only [Act.put, List.setIfInBounds_toArray, List.set_cons_succ, List.set_cons_zero]
  apply wpK_val
  · rfl
  · intro w' hw'
    go_simp
    first | exact rfl | exact ⟨rfl, hw'⟩
  simp only [Act.put, List.setIfInBounds_toArray, List.set_cons_succ, List.set_cons_zero]
  apply wpK_val
  · rfl
  · intro w' hw'
    go_simp
    first | exact rfl | exact ⟨rfl, hw'⟩
  simp only [Act.put, List.setIfInBounds_toArray, List.set_cons_succ, List.set_cons_zero]
  apply wpK_val
  · rfl
  · intro w' hw'
    go_simp
    first | exact rfl | exact ⟨rfl, hw'⟩
  simp only [Act.put, List.setIfInBounds_toArray, List.set_cons_succ, List.set_cons_zero]
  apply kldA tTg
  · rfl
  · rfl
  · exact fun w' hw' => ce_l (bx14.out.below hw' bx14.out.lt).whole
  simp only [Act.put, List.setIfInBounds_toArray, List.set_cons_succ, List.set_cons_zero]
  apply kbldOne (hb := (fun w => run_lab 2 w))
  · rfl
  simp only [Act.put, List.setIfInBounds_toArray, List.set_cons_succ, List.set_cons_zero]
  apply kneU false uTg gTg
  · rfl
  · rfl
  · rfl
  · exact (by rw [eqA_yes fun _ _ => rfl]; rfl)
  simp only [Act.put, List.setIfInBounds_toArray, List.set_cons_succ, List.set_cons_zero]
  apply wpK_val
  · rfl
  · intro w' hw'
    go_simp
    first | exact rfl | exact ⟨rfl, hw'⟩
  simp only [Act.put, List.setIfInBounds_toArray, List.set_cons_succ, List.set_cons_zero]
  apply wpK_nil
  intro w15 h
  have bz15 := hid (bz14.out.below h bz14.out.lt)
  have by15 := hid (by14.out.below h by14.out.lt)
  have B15 := hid (B14.out.trans (h.mono B14.out.size))
  clear h bx14 by14 bz14 B14
  go_upto_region 15 with fail
  refine wp_region_fixed (C := fun w' => Below w15.heap.size w15 w') 48 (Below.refl _ _) ?_
  simp only [List.take_succ_cons, List.take_zero, List.drop_succ_cons, List.drop_zero]
  apply wpK_val
  · rfl
  · intro w' hw'
    go_simp
    first | exact rfl | exact ⟨rfl, hw'⟩
  simp only [Act.put, List.setIfInBounds_toArray, List.set_cons_succ, List.set_cons_zero]
  apply wpK_val
  · rfl
  · intro w' hw'
    go_simp
    first | exact rfl | exact ⟨rfl, hw'⟩
  simp only [Act.put, List.setIfInBounds_toArray, List.set_cons_succ, List.set_cons_zero]
  apply wpK_val
  · rfl
  · intro w' hw'
    go_simp
    first | exact rfl | exact ⟨rfl, hw'⟩
  simp only [Act.put, List.setIfInBounds_toArray, List.set_cons_succ, List.set_cons_zero]
  apply wpK_val
  · rfl
  · intro w' hw'
    go_simp
    first | exact rfl | exact ⟨rfl, hw'⟩
  simp only [Act.put, List.setIfInBounds_toArray, List.set_cons_succ, List.set_cons_zero]
  apply wpK_val
  · rfl
  · intro w' hw'
    go_simp
    first | exact rfl | exact ⟨rfl, hw'⟩
  simp only [Act.put, List.setIfInBounds_toArray, List.set_cons_succ, List.set_cons_zero]
  apply wpK_val
  · rfl
  · intro w' hw'
    go_simp
    first | exact rfl | exact ⟨rfl, hw'⟩
  simp only [Act.put, List.setIfInBounds_toArray, List.set_cons_succ, List.set_cons_zero]
  apply wpK_val
  · rfl
  · intro w' hw'
    go_simp
    first | exact rfl | exact ⟨rfl, hw'⟩
  simp only [Act.put, List.setIfInBounds_toArray, List.set_cons_succ, List.set_cons_zero]
  apply wpK_val
  · rfl
  · intro w' hw'
    go_simp
    first | exact rfl | exact ⟨rfl, hw'⟩
  simp only [Act.put, List.setIfInBounds_toArray, List.set_cons_succ, List.set_cons_zero]
  apply wpK_val
  · rfl
  · intro w' hw'
    go_simp
    first | exact rfl | exact ⟨rfl, hw'⟩
  simp only [Act.put, List.setIfInBounds_toArray, List.set_cons_succ, List.set_cons_zero]
  apply wpK_val
  · rfl
  · intro w' hw'
    go_simp
    first | exact rfl | exact ⟨rfl, hw'⟩
  simp only [Act.put, List.setIfInBounds_toArray, List.set_cons_succ, List.set_cons_zero]
  apply wpK_val
  · rfl
  · intro w' hw'
    go_simp
    first | exact rfl | exact ⟨rfl, hw'⟩
  simp only [Act.put, List.setIfInBounds_toArray, List.set_cons_succ, List.set_cons_zero]
  apply wpK_val
  · rfl
  · intro w' hw'
    go_simp
    first | exact rfl | exact ⟨rfl, hw'⟩
  simp only [Act.put, List.setIfInBounds_toArray, List.set_cons_succ, List.set_cons_zero]
  apply wpK_val
  · rfl
  · intro w' hw'
    have hcell := ce_n (by15.out.below hw' by15.out.lt).whole
    go_simp
    first | exact rfl | exact ⟨rfl, hw'⟩
  simp only [Act.put, List.setIfInBounds_toArray, List.set_cons_succ, List.set_cons_zero]
  apply wpK_val
  · rfl
  · intro w' hw'
    go_simp
    first | exact rfl | exact ⟨rfl, hw'⟩
  simp only [Act.put, List.setIfInBounds_toArray, List.set_cons_succ, List.set_cons_zero]
  apply wpK_val
  · rfl
  · intro w' hw'
    go_simp
    first | exact rfl | exact ⟨rfl, hw'⟩
  simp only [Act.put, List.setIfInBounds_toArray, List.set_cons_succ, List.set_cons_zero]
  apply wpK_val
  · rfl
  · intro w' hw'
    go_simp
    first | exact rfl | exact ⟨rfl, hw'⟩
  simp only [Act.put, List.setIfInBounds_toArray, List.set_cons_succ, List.set_cons_zero]
  apply wpK_val
  · rfl
  · intro w' hw'
    go_simp
    first | exact rfl | exact ⟨rfl, hw'⟩
  simp only [Act.put, List.setIfInBounds_toArray, List.set_cons_succ, List.set_cons_zero]
  apply kldA tTg
  · rfl
  · rfl
  · exact fun w' hw' => ce_l (by15.out.below hw' by15.out.lt).whole
  simp only [Act.put, List.setIfInBounds_toArray, List.set_cons_succ, List.set_cons_zero]
  apply kbldOne (hb := (fun w => run_lab 3 w))
  · rfl
  simp only [Act.put, List.setIfInBounds_toArray, List.set_cons_succ, List.set_cons_zero]
  apply keqU true uTg gTg
  · rfl
  · rfl
  · rfl
  · exact eqA_yes fun _ _ => rfl
  simp only [Act.put, List.setIfInBounds_toArray, List.set_cons_succ, List.set_cons_zero]
  apply wpK_val
  · rfl
  · intro w' hw'
    go_simp
    first | exact rfl | exact ⟨rfl, hw'⟩
  simp only [Act.put, List.setIfInBounds_toArray, List.set_cons_succ, List.set_cons_zero]
  apply wpK_val
  · rfl
  · intro w' hw'
    go_simp
    first | exact rfl | exact ⟨rfl, hw'⟩
  simp only [Act.put, List.setIfInBounds_toArray, List.set_cons_succ, List.set_cons_zero]
  apply wpK_val
  · rfl
  · intro w' hw'
    go_simp
    first | exact rfl | exact ⟨rfl, hw'⟩
  simp only [Act.put, List.setIfInBounds_toArray, List.set_cons_succ, List.set_cons_zero]
  apply wpK_val
  · rfl
  · intro w' hw'
    go_simp
    first | exact rfl | exact ⟨rfl, hw'⟩
  simp only [Act.put, List.setIfInBounds_toArray, List.set_cons_succ, List.set_cons_zero]
  apply wpK_val
  · rfl
  · intro w' hw'
    go_simp
    first | exact rfl | exact ⟨rfl, hw'⟩
  simp only [Act.put, List.setIfInBounds_toArray, List.set_cons_succ, List.set_cons_zero]
  apply wpK_val
  · rfl
  · intro w' hw'
    go_simp
    first | exact rfl | exact ⟨rfl, hw'⟩
  simp only [Act.put, List.setIfInBounds_toArray, List.set_cons_succ, List.set_cons_zero]
  apply wpK_val
  · rfl
  · intro w' hw'
    go_simp
    first | exact rfl | exact ⟨rfl, hw'⟩
  simp only [Act.put, List.setIfInBounds_toArray, List.set_cons_succ, List.set_cons_zero]
  apply wpK_val
  · rfl
  · intro w' hw'
    go_simp
    first | exact rfl | exact ⟨rfl, hw'⟩
  simp only [Act.put, List.setIfInBounds_toArray, List.set_cons_succ, List.set_cons_zero]
  apply wpK_val
  · rfl
  · intro w' hw'
    go_simp
    first | exact rfl | exact ⟨rfl, hw'⟩
  simp only [Act.put, List.setIfInBounds_toArray, List.set_cons_succ, List.set_cons_zero]
  apply wpK_val
  · rfl
  · intro w' hw'
    go_simp
    first | exact rfl | exact ⟨rfl, hw'⟩
  simp only [Act.put, List.setIfInBounds_toArray, List.set_cons_succ, List.set_cons_zero]
  apply wpK_val
  · rfl
  · intro w' hw'
    go_simp
    first | exact rfl | exact ⟨rfl, hw'⟩
  simp only [Act.put, List.setIfInBounds_toArray, List.set_cons_succ, List.set_cons_zero]
  apply wpK_val
  · rfl
  · intro w' hw'
    go_simp
    first | exact rfl | exact ⟨rfl, hw'⟩
  simp only [Act.put, List.setIfInBounds_toArray, List.set_cons_succ, List.set_cons_zero]
  apply wpK_val
  · rfl
  · intro w' hw'
    go_simp
    first | exact rfl | exact ⟨rfl, hw'⟩
  simp only [Act.put, List.setIfInBounds_toArray, List.set_cons_succ, List.set_cons_zero]
  apply wpK_val
  · rfl
  · intro w' hw'
    go_simp
    first | exact rfl | exact ⟨rfl, hw'⟩
  simp only [Act.put, List.setIfInBounds_toArray, List.set_cons_succ, List.set_cons_zero]
  apply wpK_val
  · rfl
  · intro w' hw'
    go_simp
    first | exact rfl | exact ⟨rfl, hw'⟩
  simp only [Act.put, List.setIfInBounds_toArray, List.set_cons_succ, List.set_cons_zero]
  apply wpK_val
  · rfl
  · intro w' hw'
    go_simp
    exact (show Calls Try.prog _ _ w' fun e w2 => e = .returned (.slice A0 0 c0) ∧ Below w15.heap.size w15 w2 from (hN.histN w').mono fun e w2 h => ⟨h.1, hw'.trans (h.2.mono hw'.size)⟩)
  simp only [Act.put, List.setIfInBounds_toArray, List.set_cons_succ, List.set_cons_zero]
  apply wpK_val
  · rfl
  · intro w' hw'
    go_simp
    first | exact rfl | exact ⟨rfl, hw'⟩
  simp only [Act.put, List.setIfInBounds_toArray, List.set_cons_succ, List.set_cons_zero]
  apply wpK_val
  · rfl
  · intro w' hw'
    go_simp
    first | exact rfl | exact ⟨rfl, hw'⟩
  simp only [Act.put, List.setIfInBounds_toArray, List.set_cons_succ, List.set_cons_zero]
  apply wpK_val
  · rfl
  · intro w' hw'
    go_simp
    first | exact rfl | exact ⟨rfl, hw'⟩
  simp only [Act.put, List.setIfInBounds_toArray, List.set_cons_succ, List.set_cons_zero]
  apply wpK_val
  · rfl
  · intro w' hw'
    go_simp
    first | exact rfl | exact ⟨rfl, hw'⟩
  simp only [Act.put, List.setIfInBounds_toArray, List.set_cons_succ, List.set_cons_zero]
  apply wpK_val
  · rfl
  · intro w' hw'
    go_simp
    first | exact rfl | exact ⟨rfl, hw'⟩
  simp only [Act.put, List.setIfInBounds_toArray, List.set_cons_succ, List.set_cons_zero]
  apply wpK_val
  · rfl
  · intro w' hw'
    go_simp
    exact (show Calls Try.prog _ _ w' fun e w2 => e = .returned (.pointer none) ∧ Below w15.heap.size w15 w2 from (hN.copyZ gz w' (bz15.out.below hw' bz15.out.lt)).mono fun e w2 h => ⟨h.1, hw'.trans (h.2.mono hw'.size)⟩)
  simp only [Act.put, List.setIfInBounds_toArray, List.set_cons_succ, List.set_cons_zero]
  apply wpK_val
  · rfl
  · intro w' hw'
    go_simp
    first | exact rfl | exact ⟨rfl, hw'⟩
  simp only [Act.put, List.setIfInBounds_toArray, List.set_cons_succ, List.set_cons_zero]
  apply wpK_val
  · rfl
  · intro w' hw'
    go_simp
    first | exact rfl | exact ⟨rfl, hw'⟩
  simp only [Act.put, List.setIfInBounds_toArray, List.set_cons_succ, List.set_cons_zero]
  apply wpK_val
  · rfl
  · intro w' hw'
    go_simp
    first | exact rfl | exact ⟨rfl, hw'⟩
  simp only [Act.put, List.setIfInBounds_toArray, List.set_cons_succ, List.set_cons_zero]
  apply wpK_val
  · rfl
  · intro w' hw'
    go_simp
    exact (show Calls Try.prog _ _ w' fun e w2 => e = .returned (.bool true) ∧ Below w15.heap.size w15 w2 from (works_any hC w').mono fun e w2 h => ⟨h.1, hw'.trans (h.2.mono hw'.size)⟩)
  simp only [Act.put, List.setIfInBounds_toArray, List.set_cons_succ, List.set_cons_zero]
  apply wpK_val
  · rfl
  · intro w' hw'
    go_simp
    first | exact rfl | exact ⟨rfl, hw'⟩
  simp only [Act.put, List.setIfInBounds_toArray, List.set_cons_succ, List.set_cons_zero]
  apply wpK_val
  · rfl
  · intro w' hw'
    go_simp
    first | exact rfl | exact ⟨rfl, hw'⟩
  simp only [Act.put, List.setIfInBounds_toArray, List.set_cons_succ, List.set_cons_zero]
  apply wpK_nil
  intro w16 h
  have B16 := hid (B15.out.trans (h.mono B15.out.size))
  clear h by15 bz15 B15
  go_wp2_with fail
  refine bodyPost_ret (results_tmp (t := 0) rfl _ _ _) rfl ?_
  exact ⟨rfl, B16.out⟩
end ClP
end Go.Proofs.Ythmfdabndfobcaa
