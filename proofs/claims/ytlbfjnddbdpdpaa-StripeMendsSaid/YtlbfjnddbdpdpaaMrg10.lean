/-
  StripePlays: whatever is done to a row, all that is told is what the document says.
-/
import Derived.Test.YtlbfjnddbdpdpaaMrg9
set_option linter.unusedVariables false
set_option linter.unusedSimpArgs false
set_option maxRecDepth 100000
namespace Go.Proofs.Ytlbfjnddbdpdpaa
open Go.ChangeShapes Go.WideShapes Go.ChangeAt Go.RowKit Go.Shelf
attribute [local go_sem] Gives GivesE eqg_sec
attribute [local go_sem high] run_eql_sec run_neq_sec
namespace StM
set_option maxRecDepth 100000 in
set_option maxHeartbeats 16000000 in
theorem plays_law (z : Int) (A2 : Option Addr) (l : List Ac) (ln c2 : Nat) (W : World) (ha : Sli 66 acL (fun b => b < W.heap.size) W A2 l ln c2) (hl : ∀ y ∈ l, ∀ k, y.s k < 256) :
    Calls Try.prog 3 #[.int .i64 z, .slice A2 ln c2] W fun e w' => e = .returned (.bool true) ∧ Below W.heap.size W w' := by
  have HA := hid ha
  have HL := hid hl
  have hlen := ha.len
  clear ha hl
  by_cases hbad : z < 4 ∨ 64 < z
  · have NB := hid (fun w => new_bad z hbad w)
    have RB := hid (fun w => rnew_bad z hbad w)
    clear hbad
    go_enter Try.func3, Try.ntmps3
    go_wp2_with fail
    refine (NB.out _).mono ?_
    rintro e w1 ⟨rfl, rfl⟩
    go_wp2_with fail
    refine (RB.out _).mono ?_
    rintro e w1 ⟨rfl, rfl⟩
    go_wp2_with fail
    refine (works_any _).mono ?_
    rintro e w2 ⟨rfl, h2⟩
    have B2 := hid h2
    clear h2
    go_wp2_with fail
    go_ret
    exact ⟨rfl, B2.out⟩
  · obtain ⟨m, rfl⟩ : ∃ m : Nat, z = m := ⟨z.toNat, by omega⟩
    have hm4 : 4 ≤ m := by omega
    have hm64 : m ≤ 64 := by omega
    clear hbad
    go_enter Try.func3, Try.ntmps3
    go_wp2_with fail
    refine (pnew_any m hm4 hm64 _).mono ?_
    rintro e w1 ⟨g, gc, cc, gg, cg, rfl, P, hg, hc, hh, hb1⟩
    have P1 := hid P
    have G := hid (And.intro hg (And.intro hc hh))
    have B1 := hid hb1
    clear P hg hc hh hb1
    go_wp2_with fail
    refine (rnew_any m hm4 hm64 _).mono ?_
    rintro e w2 ⟨q, kc, kk, kg, kl, rfl, Q, hq, hkc, hkg, hb2⟩
    have T2 := hid (show Bo W (fun _ => False) g gc cc gg cg q (made m) (made m) w2 from
      ⟨P1.out.on hb2, ⟨kc, kk, kg, kl, Q, by have := B1.out.size; omega, by have := B1.out.size; omega, by have := P1.out.lts; omega, fun _ e => e.elim⟩, B1.out.trans (hb2.mono B1.out.size), by have := P1.out.lts; have := G.out; have := B1.out.size; omega, fun _ e => e.elim⟩)
    clear P1 Q B1 G hq hkc hkg hb2
    go_wp2_with fail
    go_loopw [9] (fun uu wr => ∃ (i : Nat) (s : Rw), uu = .int .i64 i ∧ i ≤ ln ∧ Hid (s.n = m) ∧ Hid (Bo W (fun _ => False) g gc cc gg cg q s s wr)) (fun uu _ => ln - (intOf uu).toNat)
    case atStart => exact ⟨0, made m, rfl, Nat.zero_le _, hid rfl, T2⟩
    case round =>
      obtain ⟨i, s, rfl, hi, HN, HT⟩ := hrel
      by_cases hgo : i < ln ∧ i < 60
      · obtain ⟨y, hy⟩ : ∃ y, l[i]? = some y := ⟨l[i]'(by omega), List.getElem?_eq_getElem _⟩
        obtain ⟨b2, o2, rfl, _, hb2, hr⟩ := HA.out.some hy
        have hys := hid (HL.out y (List.mem_of_getElem? hy))
        have R0 := hid (show wr.rangeAt b2 (o2 + i * 66) (acA y).toList from fun j v hj => (HT.out.b.cell (p := ⟨b2, o2 + i * 66 + j, none⟩) hb2).trans (hr j v (by unfold acA at hj; rwa [List.toList_toArray] at hj)))
        have t1 : (i : Int) < ln := by omega
        have t2 : (i : Int) < 60 := by omega
        have HK := hid HT.out.r.ok
        have Zy := hid (show (acA (⟨0, 0, fun _ => 0⟩ : Ac)).size = (acA y).size by rw [acA_size, acA_size])
        clear hr hgo
        go_upto_region 11 with (first | ((with_reducible apply ldR (cs := acA y) (by rw [acA_size]; exact rowAc)); rfl; exact R0.out) | ((with_reducible apply alZ' zeroAc)) | ((with_reducible apply stR (cs := acA y) (by rw [acA_size]; exact rowAc)); rfl; rfl; exact Blk.new _ _ _; exact Zy.out; exact acA_one y))
        generalize hw3 : World.setRow (World.alloc wr _) _ _ = w3
        have h3 : Below wr.heap.size wr w3 := by rw [← hw3]; exact below_setRow ((Below.refl _ _).alloc (Nat.le_refl _) _) (Nat.le_refl _) _
        have bA := hid (show Blk w3 wr.heap.size 34 (acA y) by rw [← hw3]; exact (Blk.new _ _ _).setRow_same _)
        have T3 := hid (HT.out.add h3 (Nat.le_refl _) bA.out.lt)
        obtain ⟨bA0, hbA0⟩ : ∃ bA0, bA0 = wr.heap.size := ⟨_, rfl⟩
        rw [← hbA0] at bA T3 ⊢
        have OA := hid (one_self bA0)
        have a0 := ac_d bA.out
        have tz : ((4 : Int) == 0) = false := rfl
        clear hw3 h3 HT R0 Zy hbA0
        by_cases z0 : y.d.tmod 4 = 0
        · have zb0 : (y.d.tmod 4 == 0) = true := by rw [z0]; rfl
          have K5 := hid (put_ok (c := y.c) HK.out hys.out)
          have N5 := hid (show (putT s y.c y.s).n = m from put_n'.trans HN.out)
          go_wp2_with fail
          refine wp_region_c (S := yS [some (.pointer (some ⟨g, 0, none⟩)), some (.pointer (some ⟨bA0, 1, none⟩)), some (.int .i64 y.c), some (.pointer (some ⟨bA0, 2, none⟩)), some (.agg (sec y.s)), some (.int .i64 (argE s y.c)), some (.pointer (some ⟨q, 0, none⟩)), some (.pointer (some ⟨bA0, 1, none⟩)), some (.int .i64 y.c), some (.pointer (some ⟨bA0, 2, none⟩)), some (.agg (sec y.s)), some (.int .i64 (argE s y.c)), some (.bool false)] [])
            (C := fun d vs w' => Pc W bA0 g gc cc gg cg q s (putT s y.c y.s) (d 5) (d 11) w3 w') 13 (by kernel_rfl) (by kernel_rfl) (by kernel_rfl) _
            (yS_ok _ fun y hy => by cases hy) ⟨T3.out.on (Below.refl _ _).drew, fun _ _ => rfl⟩ fun vs => ?_
          simp only [List.take_succ_cons, List.take_zero, List.drop_succ_cons, List.drop_zero]
          refine ⟨.inl ⟨rfl, fun dd w' hd hnx hw hC => ?_⟩, fun e => ?_⟩
          · go_simp
            first | exact ⟨rfl, hC⟩ | exact hC
          have e' : vs 0 = _ := e
          rw [e']
          clear e e'
          simp only [Act.put, List.setIfInBounds_toArray, List.set_cons_succ, List.set_cons_zero]
          refine ⟨.inl ⟨rfl, fun dd w' hd hnx hw hC => ?_⟩, fun e => ?_⟩
          · go_simp
            first | exact ⟨rfl, hC⟩ | exact hC
          have e' : vs 1 = _ := e
          rw [e']
          clear e e'
          simp only [Act.put, List.setIfInBounds_toArray, List.set_cons_succ, List.set_cons_zero]
          refine ⟨.inl ⟨rfl, fun dd w' hd hnx hw hC => ?_⟩, fun e => ?_⟩
          · have hA : w'.cell? ⟨bA0, 1, none⟩ = some (.int .i64 y.c) := ac_c (hC.k.blk bA.out OA.out)
            go_simp
            first | exact ⟨rfl, hC⟩ | exact hC
          have e' : vs 2 = _ := e
          rw [e']
          clear e e'
          simp only [Act.put, List.setIfInBounds_toArray, List.set_cons_succ, List.set_cons_zero]
          refine ⟨.inl ⟨rfl, fun dd w' hd hnx hw hC => ?_⟩, fun e => ?_⟩
          · go_simp
            first | exact ⟨rfl, hC⟩ | exact hC
          have e' : vs 3 = _ := e
          rw [e']
          clear e e'
          simp only [Act.put, List.setIfInBounds_toArray, List.set_cons_succ, List.set_cons_zero]
          refine ⟨.inl ⟨rfl, fun dd w' hd hnx hw hC => ?_⟩, fun e => ?_⟩
          · exact gE_ldS rfl (ac_s (hC.k.blk bA.out OA.out)) ⟨rfl, hC⟩
          have e' : vs 4 = _ := e
          rw [e']
          clear e e'
          simp only [Act.put, List.setIfInBounds_toArray, List.set_cons_succ, List.set_cons_zero]
          refine ⟨.inl ⟨rfl, fun dd w' hd hnx hw hC => ?_⟩, fun e => ?_⟩
          · have hd' : dd 5 = false := hd
            obtain ⟨hB, hKp⟩ : Pc W bA0 g gc cc gg cg q s (putT s y.c y.s) (dd 5) (dd 11) w3 w' := hC
            rw [hd'] at hB
            go_simp
            refine (pput_any hB.r y.c y.s hys.out).mono ?_
            rintro e w4 ⟨rfl, o4⟩
            obtain ⟨k1, k2⟩ := hB.stepR o4
            exact ⟨_, rfl, rfl, k1, hKp.trans k2⟩
          have e' : vs 5 = _ := e
          rw [e']
          clear e e'
          simp only [Act.put, List.setIfInBounds_toArray, List.set_cons_succ, List.set_cons_zero]
          refine ⟨.inl ⟨rfl, fun dd w' hd hnx hw hC => ?_⟩, fun e => ?_⟩
          · go_simp
            first | exact ⟨rfl, hC⟩ | exact hC
          have e' : vs 6 = _ := e
          rw [e']
          clear e e'
          simp only [Act.put, List.setIfInBounds_toArray, List.set_cons_succ, List.set_cons_zero]
          refine ⟨.inl ⟨rfl, fun dd w' hd hnx hw hC => ?_⟩, fun e => ?_⟩
          · go_simp
            first | exact ⟨rfl, hC⟩ | exact hC
          have e' : vs 7 = _ := e
          rw [e']
          clear e e'
          simp only [Act.put, List.setIfInBounds_toArray, List.set_cons_succ, List.set_cons_zero]
          refine ⟨.inl ⟨rfl, fun dd w' hd hnx hw hC => ?_⟩, fun e => ?_⟩
          · have hA : w'.cell? ⟨bA0, 1, none⟩ = some (.int .i64 y.c) := ac_c (hC.k.blk bA.out OA.out)
            go_simp
            first | exact ⟨rfl, hC⟩ | exact hC
          have e' : vs 8 = _ := e
          rw [e']
          clear e e'
          simp only [Act.put, List.setIfInBounds_toArray, List.set_cons_succ, List.set_cons_zero]
          refine ⟨.inl ⟨rfl, fun dd w' hd hnx hw hC => ?_⟩, fun e => ?_⟩
          · go_simp
            first | exact ⟨rfl, hC⟩ | exact hC
          have e' : vs 9 = _ := e
          rw [e']
          clear e e'
          simp only [Act.put, List.setIfInBounds_toArray, List.set_cons_succ, List.set_cons_zero]
          refine ⟨.inl ⟨rfl, fun dd w' hd hnx hw hC => ?_⟩, fun e => ?_⟩
          · exact gE_ldS rfl (ac_s (hC.k.blk bA.out OA.out)) ⟨rfl, hC⟩
          have e' : vs 10 = _ := e
          rw [e']
          clear e e'
          simp only [Act.put, List.setIfInBounds_toArray, List.set_cons_succ, List.set_cons_zero]
          refine ⟨.inl ⟨rfl, fun dd w' hd hnx hw hC => ?_⟩, fun e => ?_⟩
          · have hd' : dd 11 = false := hd
            obtain ⟨hB, hKp⟩ : Pc W bA0 g gc cc gg cg q s (putT s y.c y.s) (dd 5) (dd 11) w3 w' := hC
            rw [hd'] at hB
            go_simp
            refine (bput_any hB y.c y.s).mono ?_
            rintro e w4 ⟨rfl, k1, k2⟩
            exact ⟨_, rfl, rfl, k1, hKp.trans k2⟩
          have e' : vs 11 = _ := e
          rw [e']
          clear e e'
          simp only [Act.put, List.setIfInBounds_toArray, List.set_cons_succ, List.set_cons_zero]
          refine ⟨.inl ⟨rfl, fun dd w' hd hnx hw hC => ?_⟩, fun e => ?_⟩
          · have hne : ((argE s y.c : Int) != (argE s y.c : Int)) = false := by simp
            go_simp
            first | exact ⟨rfl, hC⟩ | exact hC
          have e' : vs 12 = _ := e
          rw [e']
          clear e e'
          simp only [Act.put, List.setIfInBounds_toArray, List.set_cons_succ, List.set_cons_zero]
          intro dd w5 hall hC
          obtain ⟨hB, hKp⟩ : Pc W bA0 g gc cc gg cg q s (putT s y.c y.s) (dd 5) (dd 11) w3 w5 := hC
          rw [hall 5 (by omega), hall 11 (by omega)] at hB
          have T5 := hid (show Bo W (One bA0) g gc cc gg cg q (putT s y.c y.s) (putT s y.c y.s) w5 from hB)
          have bA5 := hid (hKp.blk bA.out OA.out)
          clear hB hKp hall T3 bA a0
          generalize putT s y.c y.s = s5 at K5 N5 T5
          have a5 := ac_c bA5.out
          go_wp2_with fail
          refine (pget_any T5.out.r y.c).mono ?_
          rintro e w7 ⟨rfl, h7⟩
          have T7 := hid (T5.out.on h7)
          have bA7 := hid (bA5.out.below h7 bA5.out.lt)
          clear h7 T5 bA5 a5
          go_upto_region 28 with (first | ((with_reducible apply stx); rfl; rfl; exact Blk.top zlit rfl))
          generalize hw8 : World.setRow (World.alloc w7 _) _ _ = w8
          have b8 := hid (show Blk w8 w7.heap.size 32 (sec (getS s5 y.c)) by rw [← hw8]; exact (Blk.top zlit rfl).setRow_same _)
          have h8 : Below w7.heap.size w7 w8 := by rw [← hw8]; exact below_setRow ((Below.refl _ _).alloc (Nat.le_refl _) _) (Nat.le_refl _) _
          have T8 := hid (T7.out.on h8)
          have bA8 := hid (bA7.out.below h8 bA7.out.lt)
          have a8 := ac_c bA8.out
          clear h8 hw8 T7 bA7
          go_wp2_with fail
          refine (bget_any T8.out y.c).mono ?_
          rintro e w9 ⟨rfl, h9⟩
          have T9 := hid (T8.out.on h9)
          have b9 := hid (b8.out.below h9 b8.out.lt)
          have l9 := hid b9.out.lt
          clear h9 T8 b8 bA8 a8
          go_upto_region 29 with (first | ((with_reducible apply stx); rfl; rfl; exact Blk.top zlit rfl))
          generalize hwx : World.setRow (World.alloc w9 _) _ _ = wx
          have bx := hid (show Blk wx w9.heap.size 32 (sec (getS s5 y.c)) by rw [← hwx]; exact (Blk.top zlit rfl).setRow_same _)
          have ax := hid (show Blk wx w7.heap.size 32 (sec (getS s5 y.c)) by rw [← hwx]; exact (b9.out.alloc _).setRow_other (by have := l9.out; omega) _)
          have hx : Below w9.heap.size w9 wx := by rw [← hwx]; exact below_setRow ((Below.refl _ _).alloc (Nat.le_refl _) _) (Nat.le_refl _) _
          have TX := hid (T9.out.on hx)
          clear hx hwx T9 b9 l9
          obtain ⟨lc, lk, lg, ll, hq1, _⟩ := TX.out.d
          have HQ := hid hq1
          have ES := hid (eqS_yes (f := getS s5 y.c) (g := getS s5 y.c) fun _ _ => rfl)
          have LN := hid (show s5.lost.length ≤ 1000 from Nat.le_trans (gapsL_le _ _) (by rw [N5.out]; omega))
          clear hq1
          refine wp_region_y [some (.agg (sec (getS s5 y.c))), some (.agg (sec (getS s5 y.c))), some (.bool false), some (.bool false), some (.int .i64 (getE s5 y.c)), some (.int .i64 (getE s5 y.c)), some (.bool false), some (.bool false), some (.bool false), some (.pointer (some ⟨g, 0, none⟩)), none, some (.pointer (some ⟨q, 0, none⟩)), none, some (.bool true), some (.bool false), some (.bool false), some (.bool false),
              some (.pointer (some ⟨g, 0, none⟩)), some (.bool s5.right), some (.pointer (some ⟨q, 0, none⟩)), some (.bool s5.right), some (.bool false), some (.bool false), some (.bool false), some (.pointer (some ⟨g, 0, none⟩)), some (.int .i64 s5.n), some (.pointer (some ⟨q, 0, none⟩)), some (.pointer (some ⟨q, 0, none⟩)), some (.pointer (some ⟨q, 0, none⟩)), some (.slice (some ⟨lc, 0, none⟩) s5.n lk), some (.int .i64 s5.n), some (.bool false), some (.bool false)]
            [(10, kI s5.lost wx.heap.size), (12, kI s5.lost wx.heap.size)] (fun y hy => by simp only [List.mem_cons, List.not_mem_nil, or_false] at hy; rcases hy with rfl | rfl <;> exact kI_ok _ _) 33 (by kernel_rfl) (by kernel_rfl) (by kernel_rfl) fun vs => ?_
          simp only [List.take_succ_cons, List.take_zero, List.drop_succ_cons, List.drop_zero]
          refine ⟨.inl ⟨rfl, fun dd w' hd hC hDs => ?_⟩, fun e => ?_⟩
          · exact gE_ldS rfl (by have := (ax.out.below hC ax.out.lt).range 0 64; rwa [Nat.zero_add, show (64 : Nat) = (sec (getS s5 y.c)).size from size_sec.symm, Array.extract_size] at this) ⟨rfl, hC, Below.refl _ _, trivial⟩
          have e' : vs 0 = _ := e
          rw [e']
          clear e e'
          simp only [Act.put, List.setIfInBounds_toArray, List.set_cons_succ, List.set_cons_zero]
          refine ⟨.inl ⟨rfl, fun dd w' hd hC hDs => ?_⟩, fun e => ?_⟩
          · exact gE_ldS rfl (by have := (bx.out.below hC bx.out.lt).range 0 64; rwa [Nat.zero_add, show (64 : Nat) = (sec (getS s5 y.c)).size from size_sec.symm, Array.extract_size] at this) ⟨rfl, hC, Below.refl _ _, trivial⟩
          have e' : vs 1 = _ := e
          rw [e']
          clear e e'
          simp only [Act.put, List.setIfInBounds_toArray, List.set_cons_succ, List.set_cons_zero]
          refine ⟨.inl ⟨rfl, fun dd w' hd hC hDs => ?_⟩, fun e => ?_⟩
          · have es : eqS (getS s5 y.c) (getS s5 y.c) = true := ES.out
            go_simp
            first | exact ⟨rfl, hC, Below.refl _ _, trivial⟩ | exact ⟨rfl, Below.refl _ _, trivial⟩ | exact ⟨hC, Below.refl _ _, trivial⟩
          have e' : vs 2 = _ := e
          rw [e']
          clear e e'
          simp only [Act.put, List.setIfInBounds_toArray, List.set_cons_succ, List.set_cons_zero]
          refine ⟨.inl ⟨rfl, fun dd w' hd hC hDs => ?_⟩, fun e => ?_⟩
          · go_simp
            first | exact ⟨rfl, hC, Below.refl _ _, trivial⟩ | exact ⟨rfl, Below.refl _ _, trivial⟩ | exact ⟨hC, Below.refl _ _, trivial⟩
          have e' : vs 3 = _ := e
          rw [e']
          clear e e'
          simp only [Act.put, List.setIfInBounds_toArray, List.set_cons_succ, List.set_cons_zero]
          refine ⟨.inl ⟨rfl, fun dd w' hd hC hDs => ?_⟩, fun e => ?_⟩
          · go_simp
            first | exact ⟨rfl, hC, Below.refl _ _, trivial⟩ | exact ⟨rfl, Below.refl _ _, trivial⟩ | exact ⟨hC, Below.refl _ _, trivial⟩
          have e' : vs 4 = _ := e
          rw [e']
          clear e e'
          simp only [Act.put, List.setIfInBounds_toArray, List.set_cons_succ, List.set_cons_zero]
          refine ⟨.inl ⟨rfl, fun dd w' hd hC hDs => ?_⟩, fun e => ?_⟩
          · go_simp
            first | exact ⟨rfl, hC, Below.refl _ _, trivial⟩ | exact ⟨rfl, Below.refl _ _, trivial⟩ | exact ⟨hC, Below.refl _ _, trivial⟩
          have e' : vs 5 = _ := e
          rw [e']
          clear e e'
          simp only [Act.put, List.setIfInBounds_toArray, List.set_cons_succ, List.set_cons_zero]
          refine ⟨.inl ⟨rfl, fun dd w' hd hC hDs => ?_⟩, fun e => ?_⟩
          · have ee : ((getE s5 y.c : Int) != (getE s5 y.c : Int)) = false := by simp
            go_simp
            first | exact ⟨rfl, hC, Below.refl _ _, trivial⟩ | exact ⟨rfl, Below.refl _ _, trivial⟩ | exact ⟨hC, Below.refl _ _, trivial⟩
          have e' : vs 6 = _ := e
          rw [e']
          clear e e'
          simp only [Act.put, List.setIfInBounds_toArray, List.set_cons_succ, List.set_cons_zero]
          refine ⟨.inl ⟨rfl, fun dd w' hd hC hDs => ?_⟩, fun e => ?_⟩
          · go_simp
            first | exact ⟨rfl, hC, Below.refl _ _, trivial⟩ | exact ⟨rfl, Below.refl _ _, trivial⟩ | exact ⟨hC, Below.refl _ _, trivial⟩
          have e' : vs 7 = _ := e
          rw [e']
          clear e e'
          simp only [Act.put, List.setIfInBounds_toArray, List.set_cons_succ, List.set_cons_zero]
          refine ⟨.inl ⟨rfl, fun dd w' hd hC hDs => ?_⟩, fun e => ?_⟩
          · go_simp
            first | exact ⟨rfl, hC, Below.refl _ _, trivial⟩ | exact ⟨rfl, Below.refl _ _, trivial⟩ | exact ⟨hC, Below.refl _ _, trivial⟩
          have e' : vs 8 = _ := e
          rw [e']
          clear e e'
          simp only [Act.put, List.setIfInBounds_toArray, List.set_cons_succ, List.set_cons_zero]
          refine ⟨.inl ⟨rfl, fun dd w' hd hC hDs => ?_⟩, fun e => ?_⟩
          · go_simp
            first | exact ⟨rfl, hC, Below.refl _ _, trivial⟩ | exact ⟨rfl, Below.refl _ _, trivial⟩ | exact ⟨hC, Below.refl _ _, trivial⟩
          have e' : vs 9 = _ := e
          rw [e']
          clear e e'
          simp only [Act.put, List.setIfInBounds_toArray, List.set_cons_succ, List.set_cons_zero]
          refine ⟨.inl ⟨rfl, fun dd w' hd hC hDs => ?_⟩, fun e => ?_⟩
          · go_simp
            refine (plost_any (TX.out.on hC).r).mono ?_
            rintro e w2 ⟨v, rfl, o2, h2⟩
            obtain ⟨A, c, rfl⟩ := OwnI.len o2
            exact ⟨_, rfl, ⟨A, c, rfl⟩, hC.trans (h2.mono hC.size), h2, yD_some rfl (row_low o2 hC.size)⟩
          obtain ⟨A10, c10, e'⟩ : ∃ (A : Option Addr) (c : Nat), vs 10 = .slice A s5.lost.length c := e
          rw [e']
          have E10 := hid e'
          clear e'
          simp only [Act.put, List.setIfInBounds_toArray, List.set_cons_succ, List.set_cons_zero]
          refine ⟨.inl ⟨rfl, fun dd w' hd hC hDs => ?_⟩, fun e => ?_⟩
          · go_simp
            first | exact ⟨rfl, hC, Below.refl _ _, trivial⟩ | exact ⟨rfl, Below.refl _ _, trivial⟩ | exact ⟨hC, Below.refl _ _, trivial⟩
          have e' : vs 11 = _ := e
          rw [e']
          clear e e'
          simp only [Act.put, List.setIfInBounds_toArray, List.set_cons_succ, List.set_cons_zero]
          refine ⟨.inl ⟨rfl, fun dd w' hd hC hDs => ?_⟩, fun e => ?_⟩
          · go_simp
            refine (blost_any (TX.out.on hC) K5.out).mono ?_
            rintro e w2 ⟨v, rfl, o2, h2⟩
            obtain ⟨A, c, rfl⟩ := OwnI.len o2
            exact ⟨_, rfl, ⟨A, c, rfl⟩, hC.trans (h2.mono hC.size), h2, yD_some rfl (row_low o2 hC.size)⟩
          obtain ⟨A12, c12, e'⟩ : ∃ (A : Option Addr) (c : Nat), vs 12 = .slice A s5.lost.length c := e
          rw [e']
          have E12 := hid e'
          clear e'
          simp only [Act.put, List.setIfInBounds_toArray, List.set_cons_succ, List.set_cons_zero]
          refine ⟨.inl ⟨rfl, fun dd w' hd hC hDs => ?_⟩, fun e => ?_⟩
          · have i10 : OwnI w' wx.heap.size (.slice A10 s5.lost.length c10) s5.lost := by rw [← E10.out]; exact hDs 10 (by kernel_rfl)
            have i12 : OwnI w' wx.heap.size (.slice A12 s5.lost.length c12) s5.lost := by rw [← E12.out]; exact hDs 12 (by kernel_rfl)
            go_simp
            refine (rints_any i10 i12 LN.out LN.out).mono ?_
            rintro e w2 ⟨rfl, h2⟩
            exact ⟨_, rfl, by rw [decide_eq_true rfl]; rfl, hC.trans (h2.mono hC.size), h2, trivial⟩
          have e' : vs 13 = _ := e
          rw [e']
          clear e e'
          simp only [Act.put, List.setIfInBounds_toArray, List.set_cons_succ, List.set_cons_zero]
          refine ⟨.inl ⟨rfl, fun dd w' hd hC hDs => ?_⟩, fun e => ?_⟩
          · go_simp
            first | exact ⟨rfl, hC, Below.refl _ _, trivial⟩ | exact ⟨rfl, Below.refl _ _, trivial⟩ | exact ⟨hC, Below.refl _ _, trivial⟩
          have e' : vs 14 = _ := e
          rw [e']
          clear e e'
          simp only [Act.put, List.setIfInBounds_toArray, List.set_cons_succ, List.set_cons_zero]
          refine ⟨.inl ⟨rfl, fun dd w' hd hC hDs => ?_⟩, fun e => ?_⟩
          · go_simp
            first | exact ⟨rfl, hC, Below.refl _ _, trivial⟩ | exact ⟨rfl, Below.refl _ _, trivial⟩ | exact ⟨hC, Below.refl _ _, trivial⟩
          have e' : vs 15 = _ := e
          rw [e']
          clear e e'
          simp only [Act.put, List.setIfInBounds_toArray, List.set_cons_succ, List.set_cons_zero]
          refine ⟨.inl ⟨rfl, fun dd w' hd hC hDs => ?_⟩, fun e => ?_⟩
          · go_simp
            first | exact ⟨rfl, hC, Below.refl _ _, trivial⟩ | exact ⟨rfl, Below.refl _ _, trivial⟩ | exact ⟨hC, Below.refl _ _, trivial⟩
          have e' : vs 16 = _ := e
          rw [e']
          clear e e'
          simp only [Act.put, List.setIfInBounds_toArray, List.set_cons_succ, List.set_cons_zero]
          refine ⟨.inl ⟨rfl, fun dd w' hd hC hDs => ?_⟩, fun e => ?_⟩
          · go_simp
            first | exact ⟨rfl, hC, Below.refl _ _, trivial⟩ | exact ⟨rfl, Below.refl _ _, trivial⟩ | exact ⟨hC, Below.refl _ _, trivial⟩
          have e' : vs 17 = _ := e
          rw [e']
          clear e e'
          simp only [Act.put, List.setIfInBounds_toArray, List.set_cons_succ, List.set_cons_zero]
          refine ⟨.inl ⟨rfl, fun dd w' hd hC hDs => ?_⟩, fun e => ?_⟩
          · go_simp
            refine (pright_any (TX.out.on hC).r).mono ?_
            rintro e w2 ⟨rfl, h2⟩
            exact ⟨_, rfl, rfl, hC.trans (h2.mono hC.size), h2, trivial⟩
          have e' : vs 18 = _ := e
          rw [e']
          clear e e'
          simp only [Act.put, List.setIfInBounds_toArray, List.set_cons_succ, List.set_cons_zero]
          refine ⟨.inl ⟨rfl, fun dd w' hd hC hDs => ?_⟩, fun e => ?_⟩
          · go_simp
            first | exact ⟨rfl, hC, Below.refl _ _, trivial⟩ | exact ⟨rfl, Below.refl _ _, trivial⟩ | exact ⟨hC, Below.refl _ _, trivial⟩
          have e' : vs 19 = _ := e
          rw [e']
          clear e e'
          simp only [Act.put, List.setIfInBounds_toArray, List.set_cons_succ, List.set_cons_zero]
          refine ⟨.inl ⟨rfl, fun dd w' hd hC hDs => ?_⟩, fun e => ?_⟩
          · go_simp
            refine (bright_any (TX.out.on hC) K5.out).mono ?_
            rintro e w2 ⟨rfl, h2⟩
            exact ⟨_, rfl, rfl, hC.trans (h2.mono hC.size), h2, trivial⟩
          have e' : vs 20 = _ := e
          rw [e']
          clear e e'
          simp only [Act.put, List.setIfInBounds_toArray, List.set_cons_succ, List.set_cons_zero]
          refine ⟨.inl ⟨rfl, fun dd w' hd hC hDs => ?_⟩, fun e => ?_⟩
          · have ee : (s5.right != s5.right) = false := by simp
            go_simp
            first | exact ⟨rfl, hC, Below.refl _ _, trivial⟩ | exact ⟨rfl, Below.refl _ _, trivial⟩ | exact ⟨hC, Below.refl _ _, trivial⟩
          have e' : vs 21 = _ := e
          rw [e']
          clear e e'
          simp only [Act.put, List.setIfInBounds_toArray, List.set_cons_succ, List.set_cons_zero]
          refine ⟨.inl ⟨rfl, fun dd w' hd hC hDs => ?_⟩, fun e => ?_⟩
          · go_simp
            first | exact ⟨rfl, hC, Below.refl _ _, trivial⟩ | exact ⟨rfl, Below.refl _ _, trivial⟩ | exact ⟨hC, Below.refl _ _, trivial⟩
          have e' : vs 22 = _ := e
          rw [e']
          clear e e'
          simp only [Act.put, List.setIfInBounds_toArray, List.set_cons_succ, List.set_cons_zero]
          refine ⟨.inl ⟨rfl, fun dd w' hd hC hDs => ?_⟩, fun e => ?_⟩
          · go_simp
            first | exact ⟨rfl, hC, Below.refl _ _, trivial⟩ | exact ⟨rfl, Below.refl _ _, trivial⟩ | exact ⟨hC, Below.refl _ _, trivial⟩
          have e' : vs 23 = _ := e
          rw [e']
          clear e e'
          simp only [Act.put, List.setIfInBounds_toArray, List.set_cons_succ, List.set_cons_zero]
          refine ⟨.inl ⟨rfl, fun dd w' hd hC hDs => ?_⟩, fun e => ?_⟩
          · go_simp
            first | exact ⟨rfl, hC, Below.refl _ _, trivial⟩ | exact ⟨rfl, Below.refl _ _, trivial⟩ | exact ⟨hC, Below.refl _ _, trivial⟩
          have e' : vs 24 = _ := e
          rw [e']
          clear e e'
          simp only [Act.put, List.setIfInBounds_toArray, List.set_cons_succ, List.set_cons_zero]
          refine ⟨.inl ⟨rfl, fun dd w' hd hC hDs => ?_⟩, fun e => ?_⟩
          · go_simp
            refine (pcols_any (TX.out.on hC).r).mono ?_
            rintro e w2 ⟨rfl, rfl⟩
            exact ⟨_, rfl, rfl, hC, Below.refl _ _, trivial⟩
          have e' : vs 25 = _ := e
          rw [e']
          clear e e'
          simp only [Act.put, List.setIfInBounds_toArray, List.set_cons_succ, List.set_cons_zero]
          refine ⟨.inl ⟨rfl, fun dd w' hd hC hDs => ?_⟩, fun e => ?_⟩
          · go_simp
            first | exact ⟨rfl, hC, Below.refl _ _, trivial⟩ | exact ⟨rfl, Below.refl _ _, trivial⟩ | exact ⟨hC, Below.refl _ _, trivial⟩
          have e' : vs 26 = _ := e
          rw [e']
          clear e e'
          simp only [Act.put, List.setIfInBounds_toArray, List.set_cons_succ, List.set_cons_zero]
          refine ⟨.inl ⟨rfl, fun dd w' hd hC hDs => ?_⟩, fun e => ?_⟩
          · go_simp
            first | exact ⟨rfl, hC, Below.refl _ _, trivial⟩ | exact ⟨rfl, Below.refl _ _, trivial⟩ | exact ⟨hC, Below.refl _ _, trivial⟩
          have e' : vs 27 = _ := e
          rw [e']
          clear e e'
          simp only [Act.put, List.setIfInBounds_toArray, List.set_cons_succ, List.set_cons_zero]
          refine ⟨.inl ⟨rfl, fun dd w' hd hC hDs => ?_⟩, fun e => ?_⟩
          · go_simp
            first | exact ⟨rfl, hC, Below.refl _ _, trivial⟩ | exact ⟨rfl, Below.refl _ _, trivial⟩ | exact ⟨hC, Below.refl _ _, trivial⟩
          have e' : vs 28 = _ := e
          rw [e']
          clear e e'
          simp only [Act.put, List.setIfInBounds_toArray, List.set_cons_succ, List.set_cons_zero]
          refine ⟨.inl ⟨rfl, fun dd w' hd hC hDs => ?_⟩, fun e => ?_⟩
          · have hq : w'.cell? ⟨q, 0, none⟩ = some (.slice (some ⟨lc, 0, none⟩) s5.n lk) := (HQ.out.on hC).q0
            go_simp
            first | exact ⟨rfl, hC, Below.refl _ _, trivial⟩ | exact ⟨rfl, Below.refl _ _, trivial⟩ | exact ⟨hC, Below.refl _ _, trivial⟩
          have e' : vs 29 = _ := e
          rw [e']
          clear e e'
          simp only [Act.put, List.setIfInBounds_toArray, List.set_cons_succ, List.set_cons_zero]
          refine ⟨.inl ⟨rfl, fun dd w' hd hC hDs => ?_⟩, fun e => ?_⟩
          · go_simp
            first | exact ⟨rfl, hC, Below.refl _ _, trivial⟩ | exact ⟨rfl, Below.refl _ _, trivial⟩ | exact ⟨hC, Below.refl _ _, trivial⟩
          have e' : vs 30 = _ := e
          rw [e']
          clear e e'
          simp only [Act.put, List.setIfInBounds_toArray, List.set_cons_succ, List.set_cons_zero]
          refine ⟨.inl ⟨rfl, fun dd w' hd hC hDs => ?_⟩, fun e => ?_⟩
          · have ee : ((s5.n : Int) != (s5.n : Int)) = false := by simp
            go_simp
            first | exact ⟨rfl, hC, Below.refl _ _, trivial⟩ | exact ⟨rfl, Below.refl _ _, trivial⟩ | exact ⟨hC, Below.refl _ _, trivial⟩
          have e' : vs 31 = _ := e
          rw [e']
          clear e e'
          simp only [Act.put, List.setIfInBounds_toArray, List.set_cons_succ, List.set_cons_zero]
          refine ⟨.inl ⟨rfl, fun dd w' hd hC hDs => ?_⟩, fun e => ?_⟩
          · go_simp
            first | exact ⟨rfl, hC, Below.refl _ _, trivial⟩ | exact ⟨rfl, Below.refl _ _, trivial⟩ | exact ⟨hC, Below.refl _ _, trivial⟩
          have e' : vs 32 = _ := e
          rw [e']
          clear e e'
          simp only [Act.put, List.setIfInBounds_toArray, List.set_cons_succ, List.set_cons_zero]
          intro dd wy hall hC _
          have TY := hid ((TX.out.on hC).drop)
          clear hC hall TX E10 E12 HQ ax bx
          go_wp2_with fail
          go_roundw
          case rel => exact ⟨i + 1, s5, by go_num, by omega, N5, TY⟩
          case measure => simp [intOf] <;> omega
        · have zb0 : (y.d.tmod 4 == 0) = false := by rw [beq_eq_false_iff_ne]; exact z0
          by_cases z1 : y.d.tmod 4 = 1
          · have zb1 : (y.d.tmod 4 == 1) = true := by rw [z1]; rfl
            have K5 := hid (los_ok (c := y.c) HK.out)
            have N5 := hid (show (losT s y.c).n = m from los_n.trans HN.out)
            go_wp2_with fail
            refine wp_region_c (S := yS [some (.pointer (some ⟨g, 0, none⟩)), some (.pointer (some ⟨bA0, 1, none⟩)), some (.int .i64 y.c), some (.int .i64 (argE s y.c)), some (.pointer (some ⟨q, 0, none⟩)), some (.pointer (some ⟨bA0, 1, none⟩)), some (.int .i64 y.c), some (.int .i64 (argE s y.c)), some (.bool false)] [])
              (C := fun d vs w' => Pc W bA0 g gc cc gg cg q s (losT s y.c) (d 3) (d 7) w3 w') 9 (by kernel_rfl) (by kernel_rfl) (by kernel_rfl) _
              (yS_ok _ fun y hy => by cases hy) ⟨T3.out.on (Below.refl _ _).drew, fun _ _ => rfl⟩ fun vs => ?_
            simp only [List.take_succ_cons, List.take_zero, List.drop_succ_cons, List.drop_zero]
            refine ⟨.inl ⟨rfl, fun dd w' hd hnx hw hC => ?_⟩, fun e => ?_⟩
            · go_simp
              first | exact ⟨rfl, hC⟩ | exact hC
            have e' : vs 0 = _ := e
            rw [e']
            clear e e'
            simp only [Act.put, List.setIfInBounds_toArray, List.set_cons_succ, List.set_cons_zero]
            refine ⟨.inl ⟨rfl, fun dd w' hd hnx hw hC => ?_⟩, fun e => ?_⟩
            · go_simp
              first | exact ⟨rfl, hC⟩ | exact hC
            have e' : vs 1 = _ := e
            rw [e']
            clear e e'
            simp only [Act.put, List.setIfInBounds_toArray, List.set_cons_succ, List.set_cons_zero]
            refine ⟨.inl ⟨rfl, fun dd w' hd hnx hw hC => ?_⟩, fun e => ?_⟩
            · have hA : w'.cell? ⟨bA0, 1, none⟩ = some (.int .i64 y.c) := ac_c (hC.k.blk bA.out OA.out)
              go_simp
              first | exact ⟨rfl, hC⟩ | exact hC
            have e' : vs 2 = _ := e
            rw [e']
            clear e e'
            simp only [Act.put, List.setIfInBounds_toArray, List.set_cons_succ, List.set_cons_zero]
            refine ⟨.inl ⟨rfl, fun dd w' hd hnx hw hC => ?_⟩, fun e => ?_⟩
            · have hd' : dd 3 = false := hd
              obtain ⟨hB, hKp⟩ : Pc W bA0 g gc cc gg cg q s (losT s y.c) (dd 3) (dd 7) w3 w' := hC
              rw [hd'] at hB
              go_simp
              refine (plose_any hB.r y.c).mono ?_
              rintro e w4 ⟨rfl, o4⟩
              obtain ⟨k1, k2⟩ := hB.stepR o4
              exact ⟨_, rfl, rfl, k1, hKp.trans k2⟩
            have e' : vs 3 = _ := e
            rw [e']
            clear e e'
            simp only [Act.put, List.setIfInBounds_toArray, List.set_cons_succ, List.set_cons_zero]
            refine ⟨.inl ⟨rfl, fun dd w' hd hnx hw hC => ?_⟩, fun e => ?_⟩
            · go_simp
              first | exact ⟨rfl, hC⟩ | exact hC
            have e' : vs 4 = _ := e
            rw [e']
            clear e e'
            simp only [Act.put, List.setIfInBounds_toArray, List.set_cons_succ, List.set_cons_zero]
            refine ⟨.inl ⟨rfl, fun dd w' hd hnx hw hC => ?_⟩, fun e => ?_⟩
            · go_simp
              first | exact ⟨rfl, hC⟩ | exact hC
            have e' : vs 5 = _ := e
            rw [e']
            clear e e'
            simp only [Act.put, List.setIfInBounds_toArray, List.set_cons_succ, List.set_cons_zero]
            refine ⟨.inl ⟨rfl, fun dd w' hd hnx hw hC => ?_⟩, fun e => ?_⟩
            · have hA : w'.cell? ⟨bA0, 1, none⟩ = some (.int .i64 y.c) := ac_c (hC.k.blk bA.out OA.out)
              go_simp
              first | exact ⟨rfl, hC⟩ | exact hC
            have e' : vs 6 = _ := e
            rw [e']
            clear e e'
            simp only [Act.put, List.setIfInBounds_toArray, List.set_cons_succ, List.set_cons_zero]
            refine ⟨.inl ⟨rfl, fun dd w' hd hnx hw hC => ?_⟩, fun e => ?_⟩
            · have hd' : dd 7 = false := hd
              obtain ⟨hB, hKp⟩ : Pc W bA0 g gc cc gg cg q s (losT s y.c) (dd 3) (dd 7) w3 w' := hC
              rw [hd'] at hB
              go_simp
              refine (blose_any hB y.c).mono ?_
              rintro e w4 ⟨rfl, k1, k2⟩
              exact ⟨_, rfl, rfl, k1, hKp.trans k2⟩
            have e' : vs 7 = _ := e
            rw [e']
            clear e e'
            simp only [Act.put, List.setIfInBounds_toArray, List.set_cons_succ, List.set_cons_zero]
            refine ⟨.inl ⟨rfl, fun dd w' hd hnx hw hC => ?_⟩, fun e => ?_⟩
            · have hne : ((argE s y.c : Int) != (argE s y.c : Int)) = false := by simp
              go_simp
              first | exact ⟨rfl, hC⟩ | exact hC
            have e' : vs 8 = _ := e
            rw [e']
            clear e e'
            simp only [Act.put, List.setIfInBounds_toArray, List.set_cons_succ, List.set_cons_zero]
            intro dd w5 hall hC
            obtain ⟨hB, hKp⟩ : Pc W bA0 g gc cc gg cg q s (losT s y.c) (dd 3) (dd 7) w3 w5 := hC
            rw [hall 3 (by omega), hall 7 (by omega)] at hB
            have T5 := hid (show Bo W (One bA0) g gc cc gg cg q (losT s y.c) (losT s y.c) w5 from hB)
            have bA5 := hid (hKp.blk bA.out OA.out)
            clear hB hKp hall T3 bA a0
            generalize losT s y.c = s5 at K5 N5 T5
            have a5 := ac_c bA5.out
            go_wp2_with fail
            refine (pget_any T5.out.r y.c).mono ?_
            rintro e w7 ⟨rfl, h7⟩
            have T7 := hid (T5.out.on h7)
            have bA7 := hid (bA5.out.below h7 bA5.out.lt)
            clear h7 T5 bA5 a5
            go_upto_region 28 with (first | ((with_reducible apply stx); rfl; rfl; exact Blk.top zlit rfl))
            generalize hw8 : World.setRow (World.alloc w7 _) _ _ = w8
            have b8 := hid (show Blk w8 w7.heap.size 32 (sec (getS s5 y.c)) by rw [← hw8]; exact (Blk.top zlit rfl).setRow_same _)
            have h8 : Below w7.heap.size w7 w8 := by rw [← hw8]; exact below_setRow ((Below.refl _ _).alloc (Nat.le_refl _) _) (Nat.le_refl _) _
            have T8 := hid (T7.out.on h8)
            have bA8 := hid (bA7.out.below h8 bA7.out.lt)
            have a8 := ac_c bA8.out
            clear h8 hw8 T7 bA7
            go_wp2_with fail
            refine (bget_any T8.out y.c).mono ?_
            rintro e w9 ⟨rfl, h9⟩
            have T9 := hid (T8.out.on h9)
            have b9 := hid (b8.out.below h9 b8.out.lt)
            have l9 := hid b9.out.lt
            clear h9 T8 b8 bA8 a8
            go_upto_region 29 with (first | ((with_reducible apply stx); rfl; rfl; exact Blk.top zlit rfl))
            generalize hwx : World.setRow (World.alloc w9 _) _ _ = wx
            have bx := hid (show Blk wx w9.heap.size 32 (sec (getS s5 y.c)) by rw [← hwx]; exact (Blk.top zlit rfl).setRow_same _)
            have ax := hid (show Blk wx w7.heap.size 32 (sec (getS s5 y.c)) by rw [← hwx]; exact (b9.out.alloc _).setRow_other (by have := l9.out; omega) _)
            have hx : Below w9.heap.size w9 wx := by rw [← hwx]; exact below_setRow ((Below.refl _ _).alloc (Nat.le_refl _) _) (Nat.le_refl _) _
            have TX := hid (T9.out.on hx)
            clear hx hwx T9 b9 l9
            obtain ⟨lc, lk, lg, ll, hq1, _⟩ := TX.out.d
            have HQ := hid hq1
            have ES := hid (eqS_yes (f := getS s5 y.c) (g := getS s5 y.c) fun _ _ => rfl)
            have LN := hid (show s5.lost.length ≤ 1000 from Nat.le_trans (gapsL_le _ _) (by rw [N5.out]; omega))
            clear hq1
            refine wp_region_y [some (.agg (sec (getS s5 y.c))), some (.agg (sec (getS s5 y.c))), some (.bool false), some (.bool false), some (.int .i64 (getE s5 y.c)), some (.int .i64 (getE s5 y.c)), some (.bool false), some (.bool false), some (.bool false), some (.pointer (some ⟨g, 0, none⟩)), none, some (.pointer (some ⟨q, 0, none⟩)), none, some (.bool true), some (.bool false), some (.bool false), some (.bool false),
                some (.pointer (some ⟨g, 0, none⟩)), some (.bool s5.right), some (.pointer (some ⟨q, 0, none⟩)), some (.bool s5.right), some (.bool false), some (.bool false), some (.bool false), some (.pointer (some ⟨g, 0, none⟩)), some (.int .i64 s5.n), some (.pointer (some ⟨q, 0, none⟩)), some (.pointer (some ⟨q, 0, none⟩)), some (.pointer (some ⟨q, 0, none⟩)), some (.slice (some ⟨lc, 0, none⟩) s5.n lk), some (.int .i64 s5.n), some (.bool false), some (.bool false)]
              [(10, kI s5.lost wx.heap.size), (12, kI s5.lost wx.heap.size)] (fun y hy => by simp only [List.mem_cons, List.not_mem_nil, or_false] at hy; rcases hy with rfl | rfl <;> exact kI_ok _ _) 33 (by kernel_rfl) (by kernel_rfl) (by kernel_rfl) fun vs => ?_
            simp only [List.take_succ_cons, List.take_zero, List.drop_succ_cons, List.drop_zero]
            refine ⟨.inl ⟨rfl, fun dd w' hd hC hDs => ?_⟩, fun e => ?_⟩
            · exact gE_ldS rfl (by have := (ax.out.below hC ax.out.lt).range 0 64; rwa [Nat.zero_add, show (64 : Nat) = (sec (getS s5 y.c)).size from size_sec.symm, Array.extract_size] at this) ⟨rfl, hC, Below.refl _ _, trivial⟩
            have e' : vs 0 = _ := e
            rw [e']
            clear e e'
            simp only [Act.put, List.setIfInBounds_toArray, List.set_cons_succ, List.set_cons_zero]
            refine ⟨.inl ⟨rfl, fun dd w' hd hC hDs => ?_⟩, fun e => ?_⟩
            · exact gE_ldS rfl (by have := (bx.out.below hC bx.out.lt).range 0 64; rwa [Nat.zero_add, show (64 : Nat) = (sec (getS s5 y.c)).size from size_sec.symm, Array.extract_size] at this) ⟨rfl, hC, Below.refl _ _, trivial⟩
            have e' : vs 1 = _ := e
            rw [e']
            clear e e'
            simp only [Act.put, List.setIfInBounds_toArray, List.set_cons_succ, List.set_cons_zero]
            refine ⟨.inl ⟨rfl, fun dd w' hd hC hDs => ?_⟩, fun e => ?_⟩
            · have es : eqS (getS s5 y.c) (getS s5 y.c) = true := ES.out
              go_simp
              first | exact ⟨rfl, hC, Below.refl _ _, trivial⟩ | exact ⟨rfl, Below.refl _ _, trivial⟩ | exact ⟨hC, Below.refl _ _, trivial⟩
            have e' : vs 2 = _ := e
            rw [e']
            clear e e'
            simp only [Act.put, List.setIfInBounds_toArray, List.set_cons_succ, List.set_cons_zero]
            refine ⟨.inl ⟨rfl, fun dd w' hd hC hDs => ?_⟩, fun e => ?_⟩
            · go_simp
              first | exact ⟨rfl, hC, Below.refl _ _, trivial⟩ | exact ⟨rfl, Below.refl _ _, trivial⟩ | exact ⟨hC, Below.refl _ _, trivial⟩
            have e' : vs 3 = _ := e
            rw [e']
            clear e e'
            simp only [Act.put, List.setIfInBounds_toArray, List.set_cons_succ, List.set_cons_zero]
            refine ⟨.inl ⟨rfl, fun dd w' hd hC hDs => ?_⟩, fun e => ?_⟩
            · go_simp
              first | exact ⟨rfl, hC, Below.refl _ _, trivial⟩ | exact ⟨rfl, Below.refl _ _, trivial⟩ | exact ⟨hC, Below.refl _ _, trivial⟩
            have e' : vs 4 = _ := e
            rw [e']
            clear e e'
            simp only [Act.put, List.setIfInBounds_toArray, List.set_cons_succ, List.set_cons_zero]
            refine ⟨.inl ⟨rfl, fun dd w' hd hC hDs => ?_⟩, fun e => ?_⟩
            · go_simp
              first | exact ⟨rfl, hC, Below.refl _ _, trivial⟩ | exact ⟨rfl, Below.refl _ _, trivial⟩ | exact ⟨hC, Below.refl _ _, trivial⟩
            have e' : vs 5 = _ := e
            rw [e']
            clear e e'
            simp only [Act.put, List.setIfInBounds_toArray, List.set_cons_succ, List.set_cons_zero]
            refine ⟨.inl ⟨rfl, fun dd w' hd hC hDs => ?_⟩, fun e => ?_⟩
            · have ee : ((getE s5 y.c : Int) != (getE s5 y.c : Int)) = false := by simp
              go_simp
              first | exact ⟨rfl, hC, Below.refl _ _, trivial⟩ | exact ⟨rfl, Below.refl _ _, trivial⟩ | exact ⟨hC, Below.refl _ _, trivial⟩
            have e' : vs 6 = _ := e
            rw [e']
            clear e e'
            simp only [Act.put, List.setIfInBounds_toArray, List.set_cons_succ, List.set_cons_zero]
            refine ⟨.inl ⟨rfl, fun dd w' hd hC hDs => ?_⟩, fun e => ?_⟩
            · go_simp
              first | exact ⟨rfl, hC, Below.refl _ _, trivial⟩ | exact ⟨rfl, Below.refl _ _, trivial⟩ | exact ⟨hC, Below.refl _ _, trivial⟩
            have e' : vs 7 = _ := e
            rw [e']
            clear e e'
            simp only [Act.put, List.setIfInBounds_toArray, List.set_cons_succ, List.set_cons_zero]
            refine ⟨.inl ⟨rfl, fun dd w' hd hC hDs => ?_⟩, fun e => ?_⟩
            · go_simp
              first | exact ⟨rfl, hC, Below.refl _ _, trivial⟩ | exact ⟨rfl, Below.refl _ _, trivial⟩ | exact ⟨hC, Below.refl _ _, trivial⟩
            have e' : vs 8 = _ := e
            rw [e']
            clear e e'
            simp only [Act.put, List.setIfInBounds_toArray, List.set_cons_succ, List.set_cons_zero]
            refine ⟨.inl ⟨rfl, fun dd w' hd hC hDs => ?_⟩, fun e => ?_⟩
            · go_simp
              first | exact ⟨rfl, hC, Below.refl _ _, trivial⟩ | exact ⟨rfl, Below.refl _ _, trivial⟩ | exact ⟨hC, Below.refl _ _, trivial⟩
            have e' : vs 9 = _ := e
            rw [e']
            clear e e'
            simp only [Act.put, List.setIfInBounds_toArray, List.set_cons_succ, List.set_cons_zero]
            refine ⟨.inl ⟨rfl, fun dd w' hd hC hDs => ?_⟩, fun e => ?_⟩
            · go_simp
              refine (plost_any (TX.out.on hC).r).mono ?_
              rintro e w2 ⟨v, rfl, o2, h2⟩
              obtain ⟨A, c, rfl⟩ := OwnI.len o2
              exact ⟨_, rfl, ⟨A, c, rfl⟩, hC.trans (h2.mono hC.size), h2, yD_some rfl (row_low o2 hC.size)⟩
            obtain ⟨A10, c10, e'⟩ : ∃ (A : Option Addr) (c : Nat), vs 10 = .slice A s5.lost.length c := e
            rw [e']
            have E10 := hid e'
            clear e'
            simp only [Act.put, List.setIfInBounds_toArray, List.set_cons_succ, List.set_cons_zero]
            refine ⟨.inl ⟨rfl, fun dd w' hd hC hDs => ?_⟩, fun e => ?_⟩
            · go_simp
              first | exact ⟨rfl, hC, Below.refl _ _, trivial⟩ | exact ⟨rfl, Below.refl _ _, trivial⟩ | exact ⟨hC, Below.refl _ _, trivial⟩
            have e' : vs 11 = _ := e
            rw [e']
            clear e e'
            simp only [Act.put, List.setIfInBounds_toArray, List.set_cons_succ, List.set_cons_zero]
            refine ⟨.inl ⟨rfl, fun dd w' hd hC hDs => ?_⟩, fun e => ?_⟩
            · go_simp
              refine (blost_any (TX.out.on hC) K5.out).mono ?_
              rintro e w2 ⟨v, rfl, o2, h2⟩
              obtain ⟨A, c, rfl⟩ := OwnI.len o2
              exact ⟨_, rfl, ⟨A, c, rfl⟩, hC.trans (h2.mono hC.size), h2, yD_some rfl (row_low o2 hC.size)⟩
            obtain ⟨A12, c12, e'⟩ : ∃ (A : Option Addr) (c : Nat), vs 12 = .slice A s5.lost.length c := e
            rw [e']
            have E12 := hid e'
            clear e'
            simp only [Act.put, List.setIfInBounds_toArray, List.set_cons_succ, List.set_cons_zero]
            refine ⟨.inl ⟨rfl, fun dd w' hd hC hDs => ?_⟩, fun e => ?_⟩
            · have i10 : OwnI w' wx.heap.size (.slice A10 s5.lost.length c10) s5.lost := by rw [← E10.out]; exact hDs 10 (by kernel_rfl)
              have i12 : OwnI w' wx.heap.size (.slice A12 s5.lost.length c12) s5.lost := by rw [← E12.out]; exact hDs 12 (by kernel_rfl)
              go_simp
              refine (rints_any i10 i12 LN.out LN.out).mono ?_
              rintro e w2 ⟨rfl, h2⟩
              exact ⟨_, rfl, by rw [decide_eq_true rfl]; rfl, hC.trans (h2.mono hC.size), h2, trivial⟩
            have e' : vs 13 = _ := e
            rw [e']
            clear e e'
            simp only [Act.put, List.setIfInBounds_toArray, List.set_cons_succ, List.set_cons_zero]
            refine ⟨.inl ⟨rfl, fun dd w' hd hC hDs => ?_⟩, fun e => ?_⟩
            · go_simp
              first | exact ⟨rfl, hC, Below.refl _ _, trivial⟩ | exact ⟨rfl, Below.refl _ _, trivial⟩ | exact ⟨hC, Below.refl _ _, trivial⟩
            have e' : vs 14 = _ := e
            rw [e']
            clear e e'
            simp only [Act.put, List.setIfInBounds_toArray, List.set_cons_succ, List.set_cons_zero]
            refine ⟨.inl ⟨rfl, fun dd w' hd hC hDs => ?_⟩, fun e => ?_⟩
            · go_simp
              first | exact ⟨rfl, hC, Below.refl _ _, trivial⟩ | exact ⟨rfl, Below.refl _ _, trivial⟩ | exact ⟨hC, Below.refl _ _, trivial⟩
            have e' : vs 15 = _ := e
            rw [e']
            clear e e'
            simp only [Act.put, List.setIfInBounds_toArray, List.set_cons_succ, List.set_cons_zero]
            refine ⟨.inl ⟨rfl, fun dd w' hd hC hDs => ?_⟩, fun e => ?_⟩
            · go_simp
              first | exact ⟨rfl, hC, Below.refl _ _, trivial⟩ | exact ⟨rfl, Below.refl _ _, trivial⟩ | exact ⟨hC, Below.refl _ _, trivial⟩
            have e' : vs 16 = _ := e
            rw [e']
            clear e e'
            simp only [Act.put, List.setIfInBounds_toArray, List.set_cons_succ, List.set_cons_zero]
            refine ⟨.inl ⟨rfl, fun dd w' hd hC hDs => ?_⟩, fun e => ?_⟩
            · go_simp
              first | exact ⟨rfl, hC, Below.refl _ _, trivial⟩ | exact ⟨rfl, Below.refl _ _, trivial⟩ | exact ⟨hC, Below.refl _ _, trivial⟩
            have e' : vs 17 = _ := e
            rw [e']
            clear e e'
            simp only [Act.put, List.setIfInBounds_toArray, List.set_cons_succ, List.set_cons_zero]
            refine ⟨.inl ⟨rfl, fun dd w' hd hC hDs => ?_⟩, fun e => ?_⟩
            · go_simp
              refine (pright_any (TX.out.on hC).r).mono ?_
              rintro e w2 ⟨rfl, h2⟩
              exact ⟨_, rfl, rfl, hC.trans (h2.mono hC.size), h2, trivial⟩
            have e' : vs 18 = _ := e
            rw [e']
            clear e e'
            simp only [Act.put, List.setIfInBounds_toArray, List.set_cons_succ, List.set_cons_zero]
            refine ⟨.inl ⟨rfl, fun dd w' hd hC hDs => ?_⟩, fun e => ?_⟩
            · go_simp
              first | exact ⟨rfl, hC, Below.refl _ _, trivial⟩ | exact ⟨rfl, Below.refl _ _, trivial⟩ | exact ⟨hC, Below.refl _ _, trivial⟩
            have e' : vs 19 = _ := e
            rw [e']
            clear e e'
            simp only [Act.put, List.setIfInBounds_toArray, List.set_cons_succ, List.set_cons_zero]
            refine ⟨.inl ⟨rfl, fun dd w' hd hC hDs => ?_⟩, fun e => ?_⟩
            · go_simp
              refine (bright_any (TX.out.on hC) K5.out).mono ?_
              rintro e w2 ⟨rfl, h2⟩
              exact ⟨_, rfl, rfl, hC.trans (h2.mono hC.size), h2, trivial⟩
            have e' : vs 20 = _ := e
            rw [e']
            clear e e'
            simp only [Act.put, List.setIfInBounds_toArray, List.set_cons_succ, List.set_cons_zero]
            refine ⟨.inl ⟨rfl, fun dd w' hd hC hDs => ?_⟩, fun e => ?_⟩
            · have ee : (s5.right != s5.right) = false := by simp
              go_simp
              first | exact ⟨rfl, hC, Below.refl _ _, trivial⟩ | exact ⟨rfl, Below.refl _ _, trivial⟩ | exact ⟨hC, Below.refl _ _, trivial⟩
            have e' : vs 21 = _ := e
            rw [e']
            clear e e'
            simp only [Act.put, List.setIfInBounds_toArray, List.set_cons_succ, List.set_cons_zero]
            refine ⟨.inl ⟨rfl, fun dd w' hd hC hDs => ?_⟩, fun e => ?_⟩
            · go_simp
              first | exact ⟨rfl, hC, Below.refl _ _, trivial⟩ | exact ⟨rfl, Below.refl _ _, trivial⟩ | exact ⟨hC, Below.refl _ _, trivial⟩
            have e' : vs 22 = _ := e
            rw [e']
            clear e e'
            simp only [Act.put, List.setIfInBounds_toArray, List.set_cons_succ, List.set_cons_zero]
            refine ⟨.inl ⟨rfl, fun dd w' hd hC hDs => ?_⟩, fun e => ?_⟩
            · go_simp
              first | exact ⟨rfl, hC, Below.refl _ _, trivial⟩ | exact ⟨rfl, Below.refl _ _, trivial⟩ | exact ⟨hC, Below.refl _ _, trivial⟩
            have e' : vs 23 = _ := e
            rw [e']
            clear e e'
            simp only [Act.put, List.setIfInBounds_toArray, List.set_cons_succ, List.set_cons_zero]
            refine ⟨.inl ⟨rfl, fun dd w' hd hC hDs => ?_⟩, fun e => ?_⟩
            · go_simp
              first | exact ⟨rfl, hC, Below.refl _ _, trivial⟩ | exact ⟨rfl, Below.refl _ _, trivial⟩ | exact ⟨hC, Below.refl _ _, trivial⟩
            have e' : vs 24 = _ := e
            rw [e']
            clear e e'
            simp only [Act.put, List.setIfInBounds_toArray, List.set_cons_succ, List.set_cons_zero]
            refine ⟨.inl ⟨rfl, fun dd w' hd hC hDs => ?_⟩, fun e => ?_⟩
            · go_simp
              refine (pcols_any (TX.out.on hC).r).mono ?_
              rintro e w2 ⟨rfl, rfl⟩
              exact ⟨_, rfl, rfl, hC, Below.refl _ _, trivial⟩
            have e' : vs 25 = _ := e
            rw [e']
            clear e e'
            simp only [Act.put, List.setIfInBounds_toArray, List.set_cons_succ, List.set_cons_zero]
            refine ⟨.inl ⟨rfl, fun dd w' hd hC hDs => ?_⟩, fun e => ?_⟩
            · go_simp
              first | exact ⟨rfl, hC, Below.refl _ _, trivial⟩ | exact ⟨rfl, Below.refl _ _, trivial⟩ | exact ⟨hC, Below.refl _ _, trivial⟩
            have e' : vs 26 = _ := e
            rw [e']
            clear e e'
            simp only [Act.put, List.setIfInBounds_toArray, List.set_cons_succ, List.set_cons_zero]
            refine ⟨.inl ⟨rfl, fun dd w' hd hC hDs => ?_⟩, fun e => ?_⟩
            · go_simp
              first | exact ⟨rfl, hC, Below.refl _ _, trivial⟩ | exact ⟨rfl, Below.refl _ _, trivial⟩ | exact ⟨hC, Below.refl _ _, trivial⟩
            have e' : vs 27 = _ := e
            rw [e']
            clear e e'
            simp only [Act.put, List.setIfInBounds_toArray, List.set_cons_succ, List.set_cons_zero]
            refine ⟨.inl ⟨rfl, fun dd w' hd hC hDs => ?_⟩, fun e => ?_⟩
            · go_simp
              first | exact ⟨rfl, hC, Below.refl _ _, trivial⟩ | exact ⟨rfl, Below.refl _ _, trivial⟩ | exact ⟨hC, Below.refl _ _, trivial⟩
            have e' : vs 28 = _ := e
            rw [e']
            clear e e'
            simp only [Act.put, List.setIfInBounds_toArray, List.set_cons_succ, List.set_cons_zero]
            refine ⟨.inl ⟨rfl, fun dd w' hd hC hDs => ?_⟩, fun e => ?_⟩
            · have hq : w'.cell? ⟨q, 0, none⟩ = some (.slice (some ⟨lc, 0, none⟩) s5.n lk) := (HQ.out.on hC).q0
              go_simp
              first | exact ⟨rfl, hC, Below.refl _ _, trivial⟩ | exact ⟨rfl, Below.refl _ _, trivial⟩ | exact ⟨hC, Below.refl _ _, trivial⟩
            have e' : vs 29 = _ := e
            rw [e']
            clear e e'
            simp only [Act.put, List.setIfInBounds_toArray, List.set_cons_succ, List.set_cons_zero]
            refine ⟨.inl ⟨rfl, fun dd w' hd hC hDs => ?_⟩, fun e => ?_⟩
            · go_simp
              first | exact ⟨rfl, hC, Below.refl _ _, trivial⟩ | exact ⟨rfl, Below.refl _ _, trivial⟩ | exact ⟨hC, Below.refl _ _, trivial⟩
            have e' : vs 30 = _ := e
            rw [e']
            clear e e'
            simp only [Act.put, List.setIfInBounds_toArray, List.set_cons_succ, List.set_cons_zero]
            refine ⟨.inl ⟨rfl, fun dd w' hd hC hDs => ?_⟩, fun e => ?_⟩
            · have ee : ((s5.n : Int) != (s5.n : Int)) = false := by simp
              go_simp
              first | exact ⟨rfl, hC, Below.refl _ _, trivial⟩ | exact ⟨rfl, Below.refl _ _, trivial⟩ | exact ⟨hC, Below.refl _ _, trivial⟩
            have e' : vs 31 = _ := e
            rw [e']
            clear e e'
            simp only [Act.put, List.setIfInBounds_toArray, List.set_cons_succ, List.set_cons_zero]
            refine ⟨.inl ⟨rfl, fun dd w' hd hC hDs => ?_⟩, fun e => ?_⟩
            · go_simp
              first | exact ⟨rfl, hC, Below.refl _ _, trivial⟩ | exact ⟨rfl, Below.refl _ _, trivial⟩ | exact ⟨hC, Below.refl _ _, trivial⟩
            have e' : vs 32 = _ := e
            rw [e']
            clear e e'
            simp only [Act.put, List.setIfInBounds_toArray, List.set_cons_succ, List.set_cons_zero]
            intro dd wy hall hC _
            have TY := hid ((TX.out.on hC).drop)
            clear hC hall TX E10 E12 HQ ax bx
            go_wp2_with fail
            go_roundw
            case rel => exact ⟨i + 1, s5, by go_num, by omega, N5, TY⟩
            case measure => simp [intOf] <;> omega
          · have zb1 : (y.d.tmod 4 == 1) = false := by rw [beq_eq_false_iff_ne]; exact z1
            by_cases z2 : y.d.tmod 4 = 2
            · have zb2 : (y.d.tmod 4 == 2) = true := by rw [z2]; rfl
              have K5 := hid (men_ok HK.out)
              have N5 := hid (show (menT s).n = m from men_n.trans HN.out)
              have LE := hid (show (menL s).length ≤ 1000 from Nat.le_trans menL_le (by rw [HN.out]; omega))
              go_wp2_with fail
              refine (pmend_any T3.out.r).mono ?_
              rintro e w4 ⟨A4, c4, rfl, i4, o4⟩
              obtain ⟨k1, k2⟩ := T3.out.stepN o4
              have T4 := hid k1
              have bA4 := hid (k2.blk bA.out OA.out)
              have I4 := hid i4
              clear k1 k2 o4 i4 T3 bA a0
              go_wp2_with fail
              refine (bmend_any T4.out HK.out).mono ?_
              rintro e w5 ⟨A5, c5, rfl, i5, k1, k2⟩
              have T5' := hid (k1.sub fun b h => .inl h)
              have bA5' := hid (k2.blk bA4.out (.inl OA.out))
              have I5 := hid i5
              have I45 := hid (ownI_kept I4.out k2 fun b h1 h2 => .inr ⟨h1, h2⟩)
              clear k1 k2 i5 T4 bA4
              go_wp2_with fail
              refine (rints_any I45.out I5.out LE.out LE.out).mono ?_
              rintro e w6 ⟨rfl, h6⟩
              rw [decide_eq_true rfl]
              have T5 := hid (T5'.out.on h6)
              have bA5 := hid (bA5'.out.below h6 bA5'.out.lt)
              clear h6 I4 I45 I5 T5' bA5' LE
              generalize menE s = E4
              have be : ((E4 : Int) != (E4 : Int)) = false := by simp
              generalize menT s = s5 at K5 N5 T5
              have a5 := ac_c bA5.out
              go_wp2_with fail
              refine (pget_any T5.out.r y.c).mono ?_
              rintro e w7 ⟨rfl, h7⟩
              have T7 := hid (T5.out.on h7)
              have bA7 := hid (bA5.out.below h7 bA5.out.lt)
              clear h7 T5 bA5 a5
              go_upto_region 28 with (first | ((with_reducible apply stx); rfl; rfl; exact Blk.top zlit rfl))
              generalize hw8 : World.setRow (World.alloc w7 _) _ _ = w8
              have b8 := hid (show Blk w8 w7.heap.size 32 (sec (getS s5 y.c)) by rw [← hw8]; exact (Blk.top zlit rfl).setRow_same _)
              have h8 : Below w7.heap.size w7 w8 := by rw [← hw8]; exact below_setRow ((Below.refl _ _).alloc (Nat.le_refl _) _) (Nat.le_refl _) _
              have T8 := hid (T7.out.on h8)
              have bA8 := hid (bA7.out.below h8 bA7.out.lt)
              have a8 := ac_c bA8.out
              clear h8 hw8 T7 bA7
              go_wp2_with fail
              refine (bget_any T8.out y.c).mono ?_
              rintro e w9 ⟨rfl, h9⟩
              have T9 := hid (T8.out.on h9)
              have b9 := hid (b8.out.below h9 b8.out.lt)
              have l9 := hid b9.out.lt
              clear h9 T8 b8 bA8 a8
              go_upto_region 29 with (first | ((with_reducible apply stx); rfl; rfl; exact Blk.top zlit rfl))
              generalize hwx : World.setRow (World.alloc w9 _) _ _ = wx
              have bx := hid (show Blk wx w9.heap.size 32 (sec (getS s5 y.c)) by rw [← hwx]; exact (Blk.top zlit rfl).setRow_same _)
              have ax := hid (show Blk wx w7.heap.size 32 (sec (getS s5 y.c)) by rw [← hwx]; exact (b9.out.alloc _).setRow_other (by have := l9.out; omega) _)
              have hx : Below w9.heap.size w9 wx := by rw [← hwx]; exact below_setRow ((Below.refl _ _).alloc (Nat.le_refl _) _) (Nat.le_refl _) _
              have TX := hid (T9.out.on hx)
              clear hx hwx T9 b9 l9
              obtain ⟨lc, lk, lg, ll, hq1, _⟩ := TX.out.d
              have HQ := hid hq1
              have ES := hid (eqS_yes (f := getS s5 y.c) (g := getS s5 y.c) fun _ _ => rfl)
              have LN := hid (show s5.lost.length ≤ 1000 from Nat.le_trans (gapsL_le _ _) (by rw [N5.out]; omega))
              clear hq1
              refine wp_region_y [some (.agg (sec (getS s5 y.c))), some (.agg (sec (getS s5 y.c))), some (.bool false), some (.bool false), some (.int .i64 (getE s5 y.c)), some (.int .i64 (getE s5 y.c)), some (.bool false), some (.bool false), some (.bool false), some (.pointer (some ⟨g, 0, none⟩)), none, some (.pointer (some ⟨q, 0, none⟩)), none, some (.bool true), some (.bool false), some (.bool false), some (.bool false),
                  some (.pointer (some ⟨g, 0, none⟩)), some (.bool s5.right), some (.pointer (some ⟨q, 0, none⟩)), some (.bool s5.right), some (.bool false), some (.bool false), some (.bool false), some (.pointer (some ⟨g, 0, none⟩)), some (.int .i64 s5.n), some (.pointer (some ⟨q, 0, none⟩)), some (.pointer (some ⟨q, 0, none⟩)), some (.pointer (some ⟨q, 0, none⟩)), some (.slice (some ⟨lc, 0, none⟩) s5.n lk), some (.int .i64 s5.n), some (.bool false), some (.bool false)]
                [(10, kI s5.lost wx.heap.size), (12, kI s5.lost wx.heap.size)] (fun y hy => by simp only [List.mem_cons, List.not_mem_nil, or_false] at hy; rcases hy with rfl | rfl <;> exact kI_ok _ _) 33 (by kernel_rfl) (by kernel_rfl) (by kernel_rfl) fun vs => ?_
              simp only [List.take_succ_cons, List.take_zero, List.drop_succ_cons, List.drop_zero]
              refine ⟨.inl ⟨rfl, fun dd w' hd hC hDs => ?_⟩, fun e => ?_⟩
              · exact gE_ldS rfl (by have := (ax.out.below hC ax.out.lt).range 0 64; rwa [Nat.zero_add, show (64 : Nat) = (sec (getS s5 y.c)).size from size_sec.symm, Array.extract_size] at this) ⟨rfl, hC, Below.refl _ _, trivial⟩
              have e' : vs 0 = _ := e
              rw [e']
              clear e e'
              simp only [Act.put, List.setIfInBounds_toArray, List.set_cons_succ, List.set_cons_zero]
              refine ⟨.inl ⟨rfl, fun dd w' hd hC hDs => ?_⟩, fun e => ?_⟩
              · exact gE_ldS rfl (by have := (bx.out.below hC bx.out.lt).range 0 64; rwa [Nat.zero_add, show (64 : Nat) = (sec (getS s5 y.c)).size from size_sec.symm, Array.extract_size] at this) ⟨rfl, hC, Below.refl _ _, trivial⟩
              have e' : vs 1 = _ := e
              rw [e']
              clear e e'
              simp only [Act.put, List.setIfInBounds_toArray, List.set_cons_succ, List.set_cons_zero]
              refine ⟨.inl ⟨rfl, fun dd w' hd hC hDs => ?_⟩, fun e => ?_⟩
              · have es : eqS (getS s5 y.c) (getS s5 y.c) = true := ES.out
                go_simp
                first | exact ⟨rfl, hC, Below.refl _ _, trivial⟩ | exact ⟨rfl, Below.refl _ _, trivial⟩ | exact ⟨hC, Below.refl _ _, trivial⟩
              have e' : vs 2 = _ := e
              rw [e']
              clear e e'
              simp only [Act.put, List.setIfInBounds_toArray, List.set_cons_succ, List.set_cons_zero]
              refine ⟨.inl ⟨rfl, fun dd w' hd hC hDs => ?_⟩, fun e => ?_⟩
              · go_simp
                first | exact ⟨rfl, hC, Below.refl _ _, trivial⟩ | exact ⟨rfl, Below.refl _ _, trivial⟩ | exact ⟨hC, Below.refl _ _, trivial⟩
              have e' : vs 3 = _ := e
              rw [e']
              clear e e'
              simp only [Act.put, List.setIfInBounds_toArray, List.set_cons_succ, List.set_cons_zero]
              refine ⟨.inl ⟨rfl, fun dd w' hd hC hDs => ?_⟩, fun e => ?_⟩
              · go_simp
                first | exact ⟨rfl, hC, Below.refl _ _, trivial⟩ | exact ⟨rfl, Below.refl _ _, trivial⟩ | exact ⟨hC, Below.refl _ _, trivial⟩
              have e' : vs 4 = _ := e
              rw [e']
              clear e e'
              simp only [Act.put, List.setIfInBounds_toArray, List.set_cons_succ, List.set_cons_zero]
              refine ⟨.inl ⟨rfl, fun dd w' hd hC hDs => ?_⟩, fun e => ?_⟩
              · go_simp
                first | exact ⟨rfl, hC, Below.refl _ _, trivial⟩ | exact ⟨rfl, Below.refl _ _, trivial⟩ | exact ⟨hC, Below.refl _ _, trivial⟩
              have e' : vs 5 = _ := e
              rw [e']
              clear e e'
              simp only [Act.put, List.setIfInBounds_toArray, List.set_cons_succ, List.set_cons_zero]
              refine ⟨.inl ⟨rfl, fun dd w' hd hC hDs => ?_⟩, fun e => ?_⟩
              · have ee : ((getE s5 y.c : Int) != (getE s5 y.c : Int)) = false := by simp
                go_simp
                first | exact ⟨rfl, hC, Below.refl _ _, trivial⟩ | exact ⟨rfl, Below.refl _ _, trivial⟩ | exact ⟨hC, Below.refl _ _, trivial⟩
              have e' : vs 6 = _ := e
              rw [e']
              clear e e'
              simp only [Act.put, List.setIfInBounds_toArray, List.set_cons_succ, List.set_cons_zero]
              refine ⟨.inl ⟨rfl, fun dd w' hd hC hDs => ?_⟩, fun e => ?_⟩
              · go_simp
                first | exact ⟨rfl, hC, Below.refl _ _, trivial⟩ | exact ⟨rfl, Below.refl _ _, trivial⟩ | exact ⟨hC, Below.refl _ _, trivial⟩
              have e' : vs 7 = _ := e
              rw [e']
              clear e e'
              simp only [Act.put, List.setIfInBounds_toArray, List.set_cons_succ, List.set_cons_zero]
              refine ⟨.inl ⟨rfl, fun dd w' hd hC hDs => ?_⟩, fun e => ?_⟩
              · go_simp
                first | exact ⟨rfl, hC, Below.refl _ _, trivial⟩ | exact ⟨rfl, Below.refl _ _, trivial⟩ | exact ⟨hC, Below.refl _ _, trivial⟩
              have e' : vs 8 = _ := e
              rw [e']
              clear e e'
              simp only [Act.put, List.setIfInBounds_toArray, List.set_cons_succ, List.set_cons_zero]
              refine ⟨.inl ⟨rfl, fun dd w' hd hC hDs => ?_⟩, fun e => ?_⟩
              · go_simp
                first | exact ⟨rfl, hC, Below.refl _ _, trivial⟩ | exact ⟨rfl, Below.refl _ _, trivial⟩ | exact ⟨hC, Below.refl _ _, trivial⟩
              have e' : vs 9 = _ := e
              rw [e']
              clear e e'
              simp only [Act.put, List.setIfInBounds_toArray, List.set_cons_succ, List.set_cons_zero]
              refine ⟨.inl ⟨rfl, fun dd w' hd hC hDs => ?_⟩, fun e => ?_⟩
              · go_simp
                refine (plost_any (TX.out.on hC).r).mono ?_
                rintro e w2 ⟨v, rfl, o2, h2⟩
                obtain ⟨A, c, rfl⟩ := OwnI.len o2
                exact ⟨_, rfl, ⟨A, c, rfl⟩, hC.trans (h2.mono hC.size), h2, yD_some rfl (row_low o2 hC.size)⟩
              obtain ⟨A10, c10, e'⟩ : ∃ (A : Option Addr) (c : Nat), vs 10 = .slice A s5.lost.length c := e
              rw [e']
              have E10 := hid e'
              clear e'
              simp only [Act.put, List.setIfInBounds_toArray, List.set_cons_succ, List.set_cons_zero]
              refine ⟨.inl ⟨rfl, fun dd w' hd hC hDs => ?_⟩, fun e => ?_⟩
              · go_simp
                first | exact ⟨rfl, hC, Below.refl _ _, trivial⟩ | exact ⟨rfl, Below.refl _ _, trivial⟩ | exact ⟨hC, Below.refl _ _, trivial⟩
              have e' : vs 11 = _ := e
              rw [e']
              clear e e'
              simp only [Act.put, List.setIfInBounds_toArray, List.set_cons_succ, List.set_cons_zero]
              refine ⟨.inl ⟨rfl, fun dd w' hd hC hDs => ?_⟩, fun e => ?_⟩
              · go_simp
                refine (blost_any (TX.out.on hC) K5.out).mono ?_
                rintro e w2 ⟨v, rfl, o2, h2⟩
                obtain ⟨A, c, rfl⟩ := OwnI.len o2
                exact ⟨_, rfl, ⟨A, c, rfl⟩, hC.trans (h2.mono hC.size), h2, yD_some rfl (row_low o2 hC.size)⟩
              obtain ⟨A12, c12, e'⟩ : ∃ (A : Option Addr) (c : Nat), vs 12 = .slice A s5.lost.length c := e
              rw [e']
              have E12 := hid e'
              clear e'
              simp only [Act.put, List.setIfInBounds_toArray, List.set_cons_succ, List.set_cons_zero]
              refine ⟨.inl ⟨rfl, fun dd w' hd hC hDs => ?_⟩, fun e => ?_⟩
              · have i10 : OwnI w' wx.heap.size (.slice A10 s5.lost.length c10) s5.lost := by rw [← E10.out]; exact hDs 10 (by kernel_rfl)
                have i12 : OwnI w' wx.heap.size (.slice A12 s5.lost.length c12) s5.lost := by rw [← E12.out]; exact hDs 12 (by kernel_rfl)
                go_simp
                refine (rints_any i10 i12 LN.out LN.out).mono ?_
                rintro e w2 ⟨rfl, h2⟩
                exact ⟨_, rfl, by rw [decide_eq_true rfl]; rfl, hC.trans (h2.mono hC.size), h2, trivial⟩
              have e' : vs 13 = _ := e
              rw [e']
              clear e e'
              simp only [Act.put, List.setIfInBounds_toArray, List.set_cons_succ, List.set_cons_zero]
              refine ⟨.inl ⟨rfl, fun dd w' hd hC hDs => ?_⟩, fun e => ?_⟩
              · go_simp
                first | exact ⟨rfl, hC, Below.refl _ _, trivial⟩ | exact ⟨rfl, Below.refl _ _, trivial⟩ | exact ⟨hC, Below.refl _ _, trivial⟩
              have e' : vs 14 = _ := e
              rw [e']
              clear e e'
              simp only [Act.put, List.setIfInBounds_toArray, List.set_cons_succ, List.set_cons_zero]
              refine ⟨.inl ⟨rfl, fun dd w' hd hC hDs => ?_⟩, fun e => ?_⟩
              · go_simp
                first | exact ⟨rfl, hC, Below.refl _ _, trivial⟩ | exact ⟨rfl, Below.refl _ _, trivial⟩ | exact ⟨hC, Below.refl _ _, trivial⟩
              have e' : vs 15 = _ := e
              rw [e']
              clear e e'
              simp only [Act.put, List.setIfInBounds_toArray, List.set_cons_succ, List.set_cons_zero]
              refine ⟨.inl ⟨rfl, fun dd w' hd hC hDs => ?_⟩, fun e => ?_⟩
              · go_simp
                first | exact ⟨rfl, hC, Below.refl _ _, trivial⟩ | exact ⟨rfl, Below.refl _ _, trivial⟩ | exact ⟨hC, Below.refl _ _, trivial⟩
              have e' : vs 16 = _ := e
              rw [e']
              clear e e'
              simp only [Act.put, List.setIfInBounds_toArray, List.set_cons_succ, List.set_cons_zero]
              refine ⟨.inl ⟨rfl, fun dd w' hd hC hDs => ?_⟩, fun e => ?_⟩
              · go_simp
                first | exact ⟨rfl, hC, Below.refl _ _, trivial⟩ | exact ⟨rfl, Below.refl _ _, trivial⟩ | exact ⟨hC, Below.refl _ _, trivial⟩
              have e' : vs 17 = _ := e
              rw [e']
              clear e e'
              simp only [Act.put, List.setIfInBounds_toArray, List.set_cons_succ, List.set_cons_zero]
              refine ⟨.inl ⟨rfl, fun dd w' hd hC hDs => ?_⟩, fun e => ?_⟩
              · go_simp
                refine (pright_any (TX.out.on hC).r).mono ?_
                rintro e w2 ⟨rfl, h2⟩
                exact ⟨_, rfl, rfl, hC.trans (h2.mono hC.size), h2, trivial⟩
              have e' : vs 18 = _ := e
              rw [e']
              clear e e'
              simp only [Act.put, List.setIfInBounds_toArray, List.set_cons_succ, List.set_cons_zero]
              refine ⟨.inl ⟨rfl, fun dd w' hd hC hDs => ?_⟩, fun e => ?_⟩
              · go_simp
                first | exact ⟨rfl, hC, Below.refl _ _, trivial⟩ | exact ⟨rfl, Below.refl _ _, trivial⟩ | exact ⟨hC, Below.refl _ _, trivial⟩
              have e' : vs 19 = _ := e
              rw [e']
              clear e e'
              simp only [Act.put, List.setIfInBounds_toArray, List.set_cons_succ, List.set_cons_zero]
              refine ⟨.inl ⟨rfl, fun dd w' hd hC hDs => ?_⟩, fun e => ?_⟩
              · go_simp
                refine (bright_any (TX.out.on hC) K5.out).mono ?_
                rintro e w2 ⟨rfl, h2⟩
                exact ⟨_, rfl, rfl, hC.trans (h2.mono hC.size), h2, trivial⟩
              have e' : vs 20 = _ := e
              rw [e']
              clear e e'
              simp only [Act.put, List.setIfInBounds_toArray, List.set_cons_succ, List.set_cons_zero]
              refine ⟨.inl ⟨rfl, fun dd w' hd hC hDs => ?_⟩, fun e => ?_⟩
              · have ee : (s5.right != s5.right) = false := by simp
                go_simp
                first | exact ⟨rfl, hC, Below.refl _ _, trivial⟩ | exact ⟨rfl, Below.refl _ _, trivial⟩ | exact ⟨hC, Below.refl _ _, trivial⟩
              have e' : vs 21 = _ := e
              rw [e']
              clear e e'
              simp only [Act.put, List.setIfInBounds_toArray, List.set_cons_succ, List.set_cons_zero]
              refine ⟨.inl ⟨rfl, fun dd w' hd hC hDs => ?_⟩, fun e => ?_⟩
              · go_simp
                first | exact ⟨rfl, hC, Below.refl _ _, trivial⟩ | exact ⟨rfl, Below.refl _ _, trivial⟩ | exact ⟨hC, Below.refl _ _, trivial⟩
              have e' : vs 22 = _ := e
              rw [e']
              clear e e'
              simp only [Act.put, List.setIfInBounds_toArray, List.set_cons_succ, List.set_cons_zero]
              refine ⟨.inl ⟨rfl, fun dd w' hd hC hDs => ?_⟩, fun e => ?_⟩
              · go_simp
                first | exact ⟨rfl, hC, Below.refl _ _, trivial⟩ | exact ⟨rfl, Below.refl _ _, trivial⟩ | exact ⟨hC, Below.refl _ _, trivial⟩
              have e' : vs 23 = _ := e
              rw [e']
              clear e e'
              simp only [Act.put, List.setIfInBounds_toArray, List.set_cons_succ, List.set_cons_zero]
              refine ⟨.inl ⟨rfl, fun dd w' hd hC hDs => ?_⟩, fun e => ?_⟩
              · go_simp
                first | exact ⟨rfl, hC, Below.refl _ _, trivial⟩ | exact ⟨rfl, Below.refl _ _, trivial⟩ | exact ⟨hC, Below.refl _ _, trivial⟩
              have e' : vs 24 = _ := e
              rw [e']
              clear e e'
              simp only [Act.put, List.setIfInBounds_toArray, List.set_cons_succ, List.set_cons_zero]
              refine ⟨.inl ⟨rfl, fun dd w' hd hC hDs => ?_⟩, fun e => ?_⟩
              · go_simp
                refine (pcols_any (TX.out.on hC).r).mono ?_
                rintro e w2 ⟨rfl, rfl⟩
                exact ⟨_, rfl, rfl, hC, Below.refl _ _, trivial⟩
              have e' : vs 25 = _ := e
              rw [e']
              clear e e'
              simp only [Act.put, List.setIfInBounds_toArray, List.set_cons_succ, List.set_cons_zero]
              refine ⟨.inl ⟨rfl, fun dd w' hd hC hDs => ?_⟩, fun e => ?_⟩
              · go_simp
                first | exact ⟨rfl, hC, Below.refl _ _, trivial⟩ | exact ⟨rfl, Below.refl _ _, trivial⟩ | exact ⟨hC, Below.refl _ _, trivial⟩
              have e' : vs 26 = _ := e
              rw [e']
              clear e e'
              simp only [Act.put, List.setIfInBounds_toArray, List.set_cons_succ, List.set_cons_zero]
              refine ⟨.inl ⟨rfl, fun dd w' hd hC hDs => ?_⟩, fun e => ?_⟩
              · go_simp
                first | exact ⟨rfl, hC, Below.refl _ _, trivial⟩ | exact ⟨rfl, Below.refl _ _, trivial⟩ | exact ⟨hC, Below.refl _ _, trivial⟩
              have e' : vs 27 = _ := e
              rw [e']
              clear e e'
              simp only [Act.put, List.setIfInBounds_toArray, List.set_cons_succ, List.set_cons_zero]
              refine ⟨.inl ⟨rfl, fun dd w' hd hC hDs => ?_⟩, fun e => ?_⟩
              · go_simp
                first | exact ⟨rfl, hC, Below.refl _ _, trivial⟩ | exact ⟨rfl, Below.refl _ _, trivial⟩ | exact ⟨hC, Below.refl _ _, trivial⟩
              have e' : vs 28 = _ := e
              rw [e']
              clear e e'
              simp only [Act.put, List.setIfInBounds_toArray, List.set_cons_succ, List.set_cons_zero]
              refine ⟨.inl ⟨rfl, fun dd w' hd hC hDs => ?_⟩, fun e => ?_⟩
              · have hq : w'.cell? ⟨q, 0, none⟩ = some (.slice (some ⟨lc, 0, none⟩) s5.n lk) := (HQ.out.on hC).q0
                go_simp
                first | exact ⟨rfl, hC, Below.refl _ _, trivial⟩ | exact ⟨rfl, Below.refl _ _, trivial⟩ | exact ⟨hC, Below.refl _ _, trivial⟩
              have e' : vs 29 = _ := e
              rw [e']
              clear e e'
              simp only [Act.put, List.setIfInBounds_toArray, List.set_cons_succ, List.set_cons_zero]
              refine ⟨.inl ⟨rfl, fun dd w' hd hC hDs => ?_⟩, fun e => ?_⟩
              · go_simp
                first | exact ⟨rfl, hC, Below.refl _ _, trivial⟩ | exact ⟨rfl, Below.refl _ _, trivial⟩ | exact ⟨hC, Below.refl _ _, trivial⟩
              have e' : vs 30 = _ := e
              rw [e']
              clear e e'
              simp only [Act.put, List.setIfInBounds_toArray, List.set_cons_succ, List.set_cons_zero]
              refine ⟨.inl ⟨rfl, fun dd w' hd hC hDs => ?_⟩, fun e => ?_⟩
              · have ee : ((s5.n : Int) != (s5.n : Int)) = false := by simp
                go_simp
                first | exact ⟨rfl, hC, Below.refl _ _, trivial⟩ | exact ⟨rfl, Below.refl _ _, trivial⟩ | exact ⟨hC, Below.refl _ _, trivial⟩
              have e' : vs 31 = _ := e
              rw [e']
              clear e e'
              simp only [Act.put, List.setIfInBounds_toArray, List.set_cons_succ, List.set_cons_zero]
              refine ⟨.inl ⟨rfl, fun dd w' hd hC hDs => ?_⟩, fun e => ?_⟩
              · go_simp
                first | exact ⟨rfl, hC, Below.refl _ _, trivial⟩ | exact ⟨rfl, Below.refl _ _, trivial⟩ | exact ⟨hC, Below.refl _ _, trivial⟩
              have e' : vs 32 = _ := e
              rw [e']
              clear e e'
              simp only [Act.put, List.setIfInBounds_toArray, List.set_cons_succ, List.set_cons_zero]
              intro dd wy hall hC _
              have TY := hid ((TX.out.on hC).drop)
              clear hC hall TX E10 E12 HQ ax bx
              go_wp2_with fail
              go_roundw
              case rel => exact ⟨i + 1, s5, by go_num, by omega, N5, TY⟩
              case measure => simp [intOf] <;> omega
            · have zb2 : (y.d.tmod 4 == 2) = false := by rw [beq_eq_false_iff_ne]; exact z2
              have K5 := hid (wri_ok (c := y.c) HK.out hys.out)
              have N5 := hid (show (wriT s y.c y.s).n = m from wri_n.trans HN.out)
              have LE := hid (show (wriL s y.c y.s).length ≤ 1000 from Nat.le_trans wriL_le (by rw [HN.out]; omega))
              have a1 := ac_c bA.out
              go_wp2_with ((with_reducible apply ldm (o := 2)); rfl; exact ac_s bA.out)
              refine (pwrite_any T3.out.r y.c y.s hys.out).mono ?_
              rintro e w4 ⟨A4, c4, rfl, i4, o4⟩
              obtain ⟨k1, k2⟩ := T3.out.stepN o4
              have T4 := hid k1
              have bA4 := hid (k2.blk bA.out OA.out)
              have I4 := hid i4
              clear k1 k2 o4 i4 T3 bA a0 a1
              have a1 := ac_c bA4.out
              go_wp2_with ((with_reducible apply ldm (o := 2)); rfl; exact ac_s bA4.out)
              refine (bwrite_any T4.out HK.out y.c y.s hys.out).mono ?_
              rintro e w5 ⟨A5, c5, rfl, i5, k1, k2⟩
              have T5' := hid (k1.sub fun b h => .inl h)
              have bA5' := hid (k2.blk bA4.out (.inl OA.out))
              have I5 := hid i5
              have I45 := hid (ownI_kept I4.out k2 fun b h1 h2 => .inr ⟨h1, h2⟩)
              clear k1 k2 i5 T4 bA4
              go_wp2_with fail
              refine (rints_any I45.out I5.out LE.out LE.out).mono ?_
              rintro e w6 ⟨rfl, h6⟩
              rw [decide_eq_true rfl]
              have T5 := hid (T5'.out.on h6)
              have bA5 := hid (bA5'.out.below h6 bA5'.out.lt)
              clear h6 I4 I45 I5 T5' bA5' LE
              generalize wriE s y.c = E4
              have be : ((E4 : Int) != (E4 : Int)) = false := by simp
              generalize wriT s y.c y.s = s5 at K5 N5 T5
              have a5 := ac_c bA5.out
              go_wp2_with fail
              refine (pget_any T5.out.r y.c).mono ?_
              rintro e w7 ⟨rfl, h7⟩
              have T7 := hid (T5.out.on h7)
              have bA7 := hid (bA5.out.below h7 bA5.out.lt)
              clear h7 T5 bA5 a5
              go_upto_region 28 with (first | ((with_reducible apply stx); rfl; rfl; exact Blk.top zlit rfl))
              generalize hw8 : World.setRow (World.alloc w7 _) _ _ = w8
              have b8 := hid (show Blk w8 w7.heap.size 32 (sec (getS s5 y.c)) by rw [← hw8]; exact (Blk.top zlit rfl).setRow_same _)
              have h8 : Below w7.heap.size w7 w8 := by rw [← hw8]; exact below_setRow ((Below.refl _ _).alloc (Nat.le_refl _) _) (Nat.le_refl _) _
              have T8 := hid (T7.out.on h8)
              have bA8 := hid (bA7.out.below h8 bA7.out.lt)
              have a8 := ac_c bA8.out
              clear h8 hw8 T7 bA7
              go_wp2_with fail
              refine (bget_any T8.out y.c).mono ?_
              rintro e w9 ⟨rfl, h9⟩
              have T9 := hid (T8.out.on h9)
              have b9 := hid (b8.out.below h9 b8.out.lt)
              have l9 := hid b9.out.lt
              clear h9 T8 b8 bA8 a8
              go_upto_region 29 with (first | ((with_reducible apply stx); rfl; rfl; exact Blk.top zlit rfl))
              generalize hwx : World.setRow (World.alloc w9 _) _ _ = wx
              have bx := hid (show Blk wx w9.heap.size 32 (sec (getS s5 y.c)) by rw [← hwx]; exact (Blk.top zlit rfl).setRow_same _)
              have ax := hid (show Blk wx w7.heap.size 32 (sec (getS s5 y.c)) by rw [← hwx]; exact (b9.out.alloc _).setRow_other (by have := l9.out; omega) _)
              have hx : Below w9.heap.size w9 wx := by rw [← hwx]; exact below_setRow ((Below.refl _ _).alloc (Nat.le_refl _) _) (Nat.le_refl _) _
              have TX := hid (T9.out.on hx)
              clear hx hwx T9 b9 l9
              obtain ⟨lc, lk, lg, ll, hq1, _⟩ := TX.out.d
              have HQ := hid hq1
              have ES := hid (eqS_yes (f := getS s5 y.c) (g := getS s5 y.c) fun _ _ => rfl)
              have LN := hid (show s5.lost.length ≤ 1000 from Nat.le_trans (gapsL_le _ _) (by rw [N5.out]; omega))
              clear hq1
              refine wp_region_y [some (.agg (sec (getS s5 y.c))), some (.agg (sec (getS s5 y.c))), some (.bool false), some (.bool false), some (.int .i64 (getE s5 y.c)), some (.int .i64 (getE s5 y.c)), some (.bool false), some (.bool false), some (.bool false), some (.pointer (some ⟨g, 0, none⟩)), none, some (.pointer (some ⟨q, 0, none⟩)), none, some (.bool true), some (.bool false), some (.bool false), some (.bool false),
                  some (.pointer (some ⟨g, 0, none⟩)), some (.bool s5.right), some (.pointer (some ⟨q, 0, none⟩)), some (.bool s5.right), some (.bool false), some (.bool false), some (.bool false), some (.pointer (some ⟨g, 0, none⟩)), some (.int .i64 s5.n), some (.pointer (some ⟨q, 0, none⟩)), some (.pointer (some ⟨q, 0, none⟩)), some (.pointer (some ⟨q, 0, none⟩)), some (.slice (some ⟨lc, 0, none⟩) s5.n lk), some (.int .i64 s5.n), some (.bool false), some (.bool false)]
                [(10, kI s5.lost wx.heap.size), (12, kI s5.lost wx.heap.size)] (fun y hy => by simp only [List.mem_cons, List.not_mem_nil, or_false] at hy; rcases hy with rfl | rfl <;> exact kI_ok _ _) 33 (by kernel_rfl) (by kernel_rfl) (by kernel_rfl) fun vs => ?_
              simp only [List.take_succ_cons, List.take_zero, List.drop_succ_cons, List.drop_zero]
              refine ⟨.inl ⟨rfl, fun dd w' hd hC hDs => ?_⟩, fun e => ?_⟩
              · exact gE_ldS rfl (by have := (ax.out.below hC ax.out.lt).range 0 64; rwa [Nat.zero_add, show (64 : Nat) = (sec (getS s5 y.c)).size from size_sec.symm, Array.extract_size] at this) ⟨rfl, hC, Below.refl _ _, trivial⟩
              have e' : vs 0 = _ := e
              rw [e']
              clear e e'
              simp only [Act.put, List.setIfInBounds_toArray, List.set_cons_succ, List.set_cons_zero]
              refine ⟨.inl ⟨rfl, fun dd w' hd hC hDs => ?_⟩, fun e => ?_⟩
              · exact gE_ldS rfl (by have := (bx.out.below hC bx.out.lt).range 0 64; rwa [Nat.zero_add, show (64 : Nat) = (sec (getS s5 y.c)).size from size_sec.symm, Array.extract_size] at this) ⟨rfl, hC, Below.refl _ _, trivial⟩
              have e' : vs 1 = _ := e
              rw [e']
              clear e e'
              simp only [Act.put, List.setIfInBounds_toArray, List.set_cons_succ, List.set_cons_zero]
              refine ⟨.inl ⟨rfl, fun dd w' hd hC hDs => ?_⟩, fun e => ?_⟩
              · have es : eqS (getS s5 y.c) (getS s5 y.c) = true := ES.out
                go_simp
                first | exact ⟨rfl, hC, Below.refl _ _, trivial⟩ | exact ⟨rfl, Below.refl _ _, trivial⟩ | exact ⟨hC, Below.refl _ _, trivial⟩
              have e' : vs 2 = _ := e
              rw [e']
              clear e e'
              simp only [Act.put, List.setIfInBounds_toArray, List.set_cons_succ, List.set_cons_zero]
              refine ⟨.inl ⟨rfl, fun dd w' hd hC hDs => ?_⟩, fun e => ?_⟩
              · go_simp
                first | exact ⟨rfl, hC, Below.refl _ _, trivial⟩ | exact ⟨rfl, Below.refl _ _, trivial⟩ | exact ⟨hC, Below.refl _ _, trivial⟩
              have e' : vs 3 = _ := e
              rw [e']
              clear e e'
              simp only [Act.put, List.setIfInBounds_toArray, List.set_cons_succ, List.set_cons_zero]
              refine ⟨.inl ⟨rfl, fun dd w' hd hC hDs => ?_⟩, fun e => ?_⟩
              · go_simp
                first | exact ⟨rfl, hC, Below.refl _ _, trivial⟩ | exact ⟨rfl, Below.refl _ _, trivial⟩ | exact ⟨hC, Below.refl _ _, trivial⟩
              have e' : vs 4 = _ := e
              rw [e']
              clear e e'
              simp only [Act.put, List.setIfInBounds_toArray, List.set_cons_succ, List.set_cons_zero]
              refine ⟨.inl ⟨rfl, fun dd w' hd hC hDs => ?_⟩, fun e => ?_⟩
              · go_simp
                first | exact ⟨rfl, hC, Below.refl _ _, trivial⟩ | exact ⟨rfl, Below.refl _ _, trivial⟩ | exact ⟨hC, Below.refl _ _, trivial⟩
              have e' : vs 5 = _ := e
              rw [e']
              clear e e'
              simp only [Act.put, List.setIfInBounds_toArray, List.set_cons_succ, List.set_cons_zero]
              refine ⟨.inl ⟨rfl, fun dd w' hd hC hDs => ?_⟩, fun e => ?_⟩
              · have ee : ((getE s5 y.c : Int) != (getE s5 y.c : Int)) = false := by simp
                go_simp
                first | exact ⟨rfl, hC, Below.refl _ _, trivial⟩ | exact ⟨rfl, Below.refl _ _, trivial⟩ | exact ⟨hC, Below.refl _ _, trivial⟩
              have e' : vs 6 = _ := e
              rw [e']
              clear e e'
              simp only [Act.put, List.setIfInBounds_toArray, List.set_cons_succ, List.set_cons_zero]
              refine ⟨.inl ⟨rfl, fun dd w' hd hC hDs => ?_⟩, fun e => ?_⟩
              · go_simp
                first | exact ⟨rfl, hC, Below.refl _ _, trivial⟩ | exact ⟨rfl, Below.refl _ _, trivial⟩ | exact ⟨hC, Below.refl _ _, trivial⟩
              have e' : vs 7 = _ := e
              rw [e']
              clear e e'
              simp only [Act.put, List.setIfInBounds_toArray, List.set_cons_succ, List.set_cons_zero]
              refine ⟨.inl ⟨rfl, fun dd w' hd hC hDs => ?_⟩, fun e => ?_⟩
              · go_simp
                first | exact ⟨rfl, hC, Below.refl _ _, trivial⟩ | exact ⟨rfl, Below.refl _ _, trivial⟩ | exact ⟨hC, Below.refl _ _, trivial⟩
              have e' : vs 8 = _ := e
              rw [e']
              clear e e'
              simp only [Act.put, List.setIfInBounds_toArray, List.set_cons_succ, List.set_cons_zero]
              refine ⟨.inl ⟨rfl, fun dd w' hd hC hDs => ?_⟩, fun e => ?_⟩
              · go_simp
                first | exact ⟨rfl, hC, Below.refl _ _, trivial⟩ | exact ⟨rfl, Below.refl _ _, trivial⟩ | exact ⟨hC, Below.refl _ _, trivial⟩
              have e' : vs 9 = _ := e
              rw [e']
              clear e e'
              simp only [Act.put, List.setIfInBounds_toArray, List.set_cons_succ, List.set_cons_zero]
              refine ⟨.inl ⟨rfl, fun dd w' hd hC hDs => ?_⟩, fun e => ?_⟩
              · go_simp
                refine (plost_any (TX.out.on hC).r).mono ?_
                rintro e w2 ⟨v, rfl, o2, h2⟩
                obtain ⟨A, c, rfl⟩ := OwnI.len o2
                exact ⟨_, rfl, ⟨A, c, rfl⟩, hC.trans (h2.mono hC.size), h2, yD_some rfl (row_low o2 hC.size)⟩
              obtain ⟨A10, c10, e'⟩ : ∃ (A : Option Addr) (c : Nat), vs 10 = .slice A s5.lost.length c := e
              rw [e']
              have E10 := hid e'
              clear e'
              simp only [Act.put, List.setIfInBounds_toArray, List.set_cons_succ, List.set_cons_zero]
              refine ⟨.inl ⟨rfl, fun dd w' hd hC hDs => ?_⟩, fun e => ?_⟩
              · go_simp
                first | exact ⟨rfl, hC, Below.refl _ _, trivial⟩ | exact ⟨rfl, Below.refl _ _, trivial⟩ | exact ⟨hC, Below.refl _ _, trivial⟩
              have e' : vs 11 = _ := e
              rw [e']
              clear e e'
              simp only [Act.put, List.setIfInBounds_toArray, List.set_cons_succ, List.set_cons_zero]
              refine ⟨.inl ⟨rfl, fun dd w' hd hC hDs => ?_⟩, fun e => ?_⟩
              · go_simp
                refine (blost_any (TX.out.on hC) K5.out).mono ?_
                rintro e w2 ⟨v, rfl, o2, h2⟩
                obtain ⟨A, c, rfl⟩ := OwnI.len o2
                exact ⟨_, rfl, ⟨A, c, rfl⟩, hC.trans (h2.mono hC.size), h2, yD_some rfl (row_low o2 hC.size)⟩
              obtain ⟨A12, c12, e'⟩ : ∃ (A : Option Addr) (c : Nat), vs 12 = .slice A s5.lost.length c := e
              rw [e']
              have E12 := hid e'
              clear e'
              simp only [Act.put, List.setIfInBounds_toArray, List.set_cons_succ, List.set_cons_zero]
              refine ⟨.inl ⟨rfl, fun dd w' hd hC hDs => ?_⟩, fun e => ?_⟩
              · have i10 : OwnI w' wx.heap.size (.slice A10 s5.lost.length c10) s5.lost := by rw [← E10.out]; exact hDs 10 (by kernel_rfl)
                have i12 : OwnI w' wx.heap.size (.slice A12 s5.lost.length c12) s5.lost := by rw [← E12.out]; exact hDs 12 (by kernel_rfl)
                go_simp
                refine (rints_any i10 i12 LN.out LN.out).mono ?_
                rintro e w2 ⟨rfl, h2⟩
                exact ⟨_, rfl, by rw [decide_eq_true rfl]; rfl, hC.trans (h2.mono hC.size), h2, trivial⟩
              have e' : vs 13 = _ := e
              rw [e']
              clear e e'
              simp only [Act.put, List.setIfInBounds_toArray, List.set_cons_succ, List.set_cons_zero]
              refine ⟨.inl ⟨rfl, fun dd w' hd hC hDs => ?_⟩, fun e => ?_⟩
              · go_simp
                first | exact ⟨rfl, hC, Below.refl _ _, trivial⟩ | exact ⟨rfl, Below.refl _ _, trivial⟩ | exact ⟨hC, Below.refl _ _, trivial⟩
              have e' : vs 14 = _ := e
              rw [e']
              clear e e'
              simp only [Act.put, List.setIfInBounds_toArray, List.set_cons_succ, List.set_cons_zero]
              refine ⟨.inl ⟨rfl, fun dd w' hd hC hDs => ?_⟩, fun e => ?_⟩
              · go_simp
                first | exact ⟨rfl, hC, Below.refl _ _, trivial⟩ | exact ⟨rfl, Below.refl _ _, trivial⟩ | exact ⟨hC, Below.refl _ _, trivial⟩
              have e' : vs 15 = _ := e
              rw [e']
              clear e e'
              simp only [Act.put, List.setIfInBounds_toArray, List.set_cons_succ, List.set_cons_zero]
              refine ⟨.inl ⟨rfl, fun dd w' hd hC hDs => ?_⟩, fun e => ?_⟩
              · go_simp
                first | exact ⟨rfl, hC, Below.refl _ _, trivial⟩ | exact ⟨rfl, Below.refl _ _, trivial⟩ | exact ⟨hC, Below.refl _ _, trivial⟩
              have e' : vs 16 = _ := e
              rw [e']
              clear e e'
              simp only [Act.put, List.setIfInBounds_toArray, List.set_cons_succ, List.set_cons_zero]
              refine ⟨.inl ⟨rfl, fun dd w' hd hC hDs => ?_⟩, fun e => ?_⟩
              · go_simp
                first | exact ⟨rfl, hC, Below.refl _ _, trivial⟩ | exact ⟨rfl, Below.refl _ _, trivial⟩ | exact ⟨hC, Below.refl _ _, trivial⟩
              have e' : vs 17 = _ := e
              rw [e']
              clear e e'
              simp only [Act.put, List.setIfInBounds_toArray, List.set_cons_succ, List.set_cons_zero]
              refine ⟨.inl ⟨rfl, fun dd w' hd hC hDs => ?_⟩, fun e => ?_⟩
              · go_simp
                refine (pright_any (TX.out.on hC).r).mono ?_
                rintro e w2 ⟨rfl, h2⟩
                exact ⟨_, rfl, rfl, hC.trans (h2.mono hC.size), h2, trivial⟩
              have e' : vs 18 = _ := e
              rw [e']
              clear e e'
              simp only [Act.put, List.setIfInBounds_toArray, List.set_cons_succ, List.set_cons_zero]
              refine ⟨.inl ⟨rfl, fun dd w' hd hC hDs => ?_⟩, fun e => ?_⟩
              · go_simp
                first | exact ⟨rfl, hC, Below.refl _ _, trivial⟩ | exact ⟨rfl, Below.refl _ _, trivial⟩ | exact ⟨hC, Below.refl _ _, trivial⟩
              have e' : vs 19 = _ := e
              rw [e']
              clear e e'
              simp only [Act.put, List.setIfInBounds_toArray, List.set_cons_succ, List.set_cons_zero]
              refine ⟨.inl ⟨rfl, fun dd w' hd hC hDs => ?_⟩, fun e => ?_⟩
              · go_simp
                refine (bright_any (TX.out.on hC) K5.out).mono ?_
                rintro e w2 ⟨rfl, h2⟩
                exact ⟨_, rfl, rfl, hC.trans (h2.mono hC.size), h2, trivial⟩
              have e' : vs 20 = _ := e
              rw [e']
              clear e e'
              simp only [Act.put, List.setIfInBounds_toArray, List.set_cons_succ, List.set_cons_zero]
              refine ⟨.inl ⟨rfl, fun dd w' hd hC hDs => ?_⟩, fun e => ?_⟩
              · have ee : (s5.right != s5.right) = false := by simp
                go_simp
                first | exact ⟨rfl, hC, Below.refl _ _, trivial⟩ | exact ⟨rfl, Below.refl _ _, trivial⟩ | exact ⟨hC, Below.refl _ _, trivial⟩
              have e' : vs 21 = _ := e
              rw [e']
              clear e e'
              simp only [Act.put, List.setIfInBounds_toArray, List.set_cons_succ, List.set_cons_zero]
              refine ⟨.inl ⟨rfl, fun dd w' hd hC hDs => ?_⟩, fun e => ?_⟩
              · go_simp
                first | exact ⟨rfl, hC, Below.refl _ _, trivial⟩ | exact ⟨rfl, Below.refl _ _, trivial⟩ | exact ⟨hC, Below.refl _ _, trivial⟩
              have e' : vs 22 = _ := e
              rw [e']
              clear e e'
              simp only [Act.put, List.setIfInBounds_toArray, List.set_cons_succ, List.set_cons_zero]
              refine ⟨.inl ⟨rfl, fun dd w' hd hC hDs => ?_⟩, fun e => ?_⟩
              · go_simp
                first | exact ⟨rfl, hC, Below.refl _ _, trivial⟩ | exact ⟨rfl, Below.refl _ _, trivial⟩ | exact ⟨hC, Below.refl _ _, trivial⟩
              have e' : vs 23 = _ := e
              rw [e']
              clear e e'
              simp only [Act.put, List.setIfInBounds_toArray, List.set_cons_succ, List.set_cons_zero]
              refine ⟨.inl ⟨rfl, fun dd w' hd hC hDs => ?_⟩, fun e => ?_⟩
              · go_simp
                first | exact ⟨rfl, hC, Below.refl _ _, trivial⟩ | exact ⟨rfl, Below.refl _ _, trivial⟩ | exact ⟨hC, Below.refl _ _, trivial⟩
              have e' : vs 24 = _ := e
              rw [e']
              clear e e'
              simp only [Act.put, List.setIfInBounds_toArray, List.set_cons_succ, List.set_cons_zero]
              refine ⟨.inl ⟨rfl, fun dd w' hd hC hDs => ?_⟩, fun e => ?_⟩
              · go_simp
                refine (pcols_any (TX.out.on hC).r).mono ?_
                rintro e w2 ⟨rfl, rfl⟩
                exact ⟨_, rfl, rfl, hC, Below.refl _ _, trivial⟩
              have e' : vs 25 = _ := e
              rw [e']
              clear e e'
              simp only [Act.put, List.setIfInBounds_toArray, List.set_cons_succ, List.set_cons_zero]
              refine ⟨.inl ⟨rfl, fun dd w' hd hC hDs => ?_⟩, fun e => ?_⟩
              · go_simp
                first | exact ⟨rfl, hC, Below.refl _ _, trivial⟩ | exact ⟨rfl, Below.refl _ _, trivial⟩ | exact ⟨hC, Below.refl _ _, trivial⟩
              have e' : vs 26 = _ := e
              rw [e']
              clear e e'
              simp only [Act.put, List.setIfInBounds_toArray, List.set_cons_succ, List.set_cons_zero]
              refine ⟨.inl ⟨rfl, fun dd w' hd hC hDs => ?_⟩, fun e => ?_⟩
              · go_simp
                first | exact ⟨rfl, hC, Below.refl _ _, trivial⟩ | exact ⟨rfl, Below.refl _ _, trivial⟩ | exact ⟨hC, Below.refl _ _, trivial⟩
              have e' : vs 27 = _ := e
              rw [e']
              clear e e'
              simp only [Act.put, List.setIfInBounds_toArray, List.set_cons_succ, List.set_cons_zero]
              refine ⟨.inl ⟨rfl, fun dd w' hd hC hDs => ?_⟩, fun e => ?_⟩
              · go_simp
                first | exact ⟨rfl, hC, Below.refl _ _, trivial⟩ | exact ⟨rfl, Below.refl _ _, trivial⟩ | exact ⟨hC, Below.refl _ _, trivial⟩
              have e' : vs 28 = _ := e
              rw [e']
              clear e e'
              simp only [Act.put, List.setIfInBounds_toArray, List.set_cons_succ, List.set_cons_zero]
              refine ⟨.inl ⟨rfl, fun dd w' hd hC hDs => ?_⟩, fun e => ?_⟩
              · have hq : w'.cell? ⟨q, 0, none⟩ = some (.slice (some ⟨lc, 0, none⟩) s5.n lk) := (HQ.out.on hC).q0
                go_simp
                first | exact ⟨rfl, hC, Below.refl _ _, trivial⟩ | exact ⟨rfl, Below.refl _ _, trivial⟩ | exact ⟨hC, Below.refl _ _, trivial⟩
              have e' : vs 29 = _ := e
              rw [e']
              clear e e'
              simp only [Act.put, List.setIfInBounds_toArray, List.set_cons_succ, List.set_cons_zero]
              refine ⟨.inl ⟨rfl, fun dd w' hd hC hDs => ?_⟩, fun e => ?_⟩
              · go_simp
                first | exact ⟨rfl, hC, Below.refl _ _, trivial⟩ | exact ⟨rfl, Below.refl _ _, trivial⟩ | exact ⟨hC, Below.refl _ _, trivial⟩
              have e' : vs 30 = _ := e
              rw [e']
              clear e e'
              simp only [Act.put, List.setIfInBounds_toArray, List.set_cons_succ, List.set_cons_zero]
              refine ⟨.inl ⟨rfl, fun dd w' hd hC hDs => ?_⟩, fun e => ?_⟩
              · have ee : ((s5.n : Int) != (s5.n : Int)) = false := by simp
                go_simp
                first | exact ⟨rfl, hC, Below.refl _ _, trivial⟩ | exact ⟨rfl, Below.refl _ _, trivial⟩ | exact ⟨hC, Below.refl _ _, trivial⟩
              have e' : vs 31 = _ := e
              rw [e']
              clear e e'
              simp only [Act.put, List.setIfInBounds_toArray, List.set_cons_succ, List.set_cons_zero]
              refine ⟨.inl ⟨rfl, fun dd w' hd hC hDs => ?_⟩, fun e => ?_⟩
              · go_simp
                first | exact ⟨rfl, hC, Below.refl _ _, trivial⟩ | exact ⟨rfl, Below.refl _ _, trivial⟩ | exact ⟨hC, Below.refl _ _, trivial⟩
              have e' : vs 32 = _ := e
              rw [e']
              clear e e'
              simp only [Act.put, List.setIfInBounds_toArray, List.set_cons_succ, List.set_cons_zero]
              intro dd wy hall hC _
              have TY := hid ((TX.out.on hC).drop)
              clear hC hall TX E10 E12 HQ ax bx
              go_wp2_with fail
              go_roundw
              case rel => exact ⟨i + 1, s5, by go_num, by omega, N5, TY⟩
              case measure => simp [intOf] <;> omega
      · rcases Nat.lt_or_ge i ln with hjl | hjl
        · have t1 : (i : Int) < ln := by omega
          have t2 : ¬ (i : Int) < 60 := by omega
          clear hgo
          go_wp2_with fail
          go_loopw [23] (fun uu wz => ∃ c : Nat, uu = .int .i64 c ∧ c ≤ m ∧ Hid (Bo W (fun _ => False) g gc cc gg cg q s s wz)) (fun uu _ => m - (intOf uu).toNat)
          case atStart => exact ⟨0, rfl, Nat.zero_le _, HT⟩
          case round =>
            obtain ⟨c, rfl, hc', HT8⟩ := hrel
            obtain ⟨lc, lk, lg, ll, hq1, _⟩ := HT8.out.d
            have q0 : wr.cell? ⟨q, 0, none⟩ = some (.slice (some ⟨lc, 0, none⟩) m lk) := by have h := hq1.q0; rw [HN.out] at h; exact h
            clear hq1
            by_cases hgo3 : c < m
            · have t5 : (c : Int) < m := by omega
              go_wp2_with fail
              refine (pget_any HT8.out.r c).mono ?_
              rintro e w9 ⟨rfl, h9⟩
              have T9 := hid (HT8.out.on h9)
              clear h9 q0
              go_upto_region 35 with (first | ((with_reducible apply stx); rfl; rfl; exact Blk.top zlit rfl))
              generalize hw10 : World.setRow (World.alloc w9 _) _ _ = w10
              have b10 := hid (show Blk w10 w9.heap.size 32 (sec (getS s c)) by rw [← hw10]; exact (Blk.top zlit rfl).setRow_same _)
              have h10 : Below w9.heap.size w9 w10 := by rw [← hw10]; exact below_setRow ((Below.refl _ _).alloc (Nat.le_refl _) _) (Nat.le_refl _) _
              have T10 := hid (T9.out.on h10)
              clear h10 hw10 T9
              go_wp2_with fail
              refine (bget_any T10.out c).mono ?_
              rintro e w11 ⟨rfl, h11⟩
              have T11 := hid (T10.out.on h11)
              have b11 := hid (b10.out.below h11 b10.out.lt)
              have l11 := hid b11.out.lt
              clear h11 T10 b10
              go_upto_region 36 with (first | ((with_reducible apply stx); rfl; rfl; exact Blk.top zlit rfl))
              generalize hw12 : World.setRow (World.alloc w11 _) _ _ = w12
              have b12 := hid (show Blk w12 w11.heap.size 32 (sec (getS s c)) by rw [← hw12]; exact (Blk.top zlit rfl).setRow_same _)
              have a12 := hid (show Blk w12 w9.heap.size 32 (sec (getS s c)) by rw [← hw12]; exact (b11.out.alloc _).setRow_other (by have := l11.out; omega) _)
              have h12 : Below w11.heap.size w11 w12 := by rw [← hw12]; exact below_setRow ((Below.refl _ _).alloc (Nat.le_refl _) _) (Nat.le_refl _) _
              have T12 := hid (T11.out.on h12)
              clear h12 hw12 T11 b11
              have es := eqS_yes (f := getS s c) (g := getS s c) fun _ _ => rfl
              have ee : ((getE s c : Int) != (getE s c : Int)) = false := by simp
              go_wp2_with (first | ((with_reducible apply ld); rfl; exact a12.out) | ((with_reducible apply ld); rfl; exact b12.out))
              go_roundw
              case rel => exact ⟨c + 1, by go_num, by omega, T12⟩
              case measure => simp [intOf] <;> omega
            · have t5 : ¬ (c : Int) < m := by omega
              go_wp2_with fail
              refine (works_any _).mono ?_
              rintro e w9 ⟨rfl, h9⟩
              have B9 := hid (HT8.out.b.trans (h9.mono HT8.out.b.size))
              clear h9
              go_wp2_with fail
              go_ret
              exact ⟨rfl, B9.out⟩
        · have t1 : ¬ (i : Int) < ln := by omega
          clear hgo
          go_wp2_with fail
          go_loopw [23] (fun uu wz => ∃ c : Nat, uu = .int .i64 c ∧ c ≤ m ∧ Hid (Bo W (fun _ => False) g gc cc gg cg q s s wz)) (fun uu _ => m - (intOf uu).toNat)
          case atStart => exact ⟨0, rfl, Nat.zero_le _, HT⟩
          case round =>
            obtain ⟨c, rfl, hc', HT8⟩ := hrel
            obtain ⟨lc, lk, lg, ll, hq1, _⟩ := HT8.out.d
            have q0 : wr.cell? ⟨q, 0, none⟩ = some (.slice (some ⟨lc, 0, none⟩) m lk) := by have h := hq1.q0; rw [HN.out] at h; exact h
            clear hq1
            by_cases hgo3 : c < m
            · have t5 : (c : Int) < m := by omega
              go_wp2_with fail
              refine (pget_any HT8.out.r c).mono ?_
              rintro e w9 ⟨rfl, h9⟩
              have T9 := hid (HT8.out.on h9)
              clear h9 q0
              go_upto_region 35 with (first | ((with_reducible apply stx); rfl; rfl; exact Blk.top zlit rfl))
              generalize hw10 : World.setRow (World.alloc w9 _) _ _ = w10
              have b10 := hid (show Blk w10 w9.heap.size 32 (sec (getS s c)) by rw [← hw10]; exact (Blk.top zlit rfl).setRow_same _)
              have h10 : Below w9.heap.size w9 w10 := by rw [← hw10]; exact below_setRow ((Below.refl _ _).alloc (Nat.le_refl _) _) (Nat.le_refl _) _
              have T10 := hid (T9.out.on h10)
              clear h10 hw10 T9
              go_wp2_with fail
              refine (bget_any T10.out c).mono ?_
              rintro e w11 ⟨rfl, h11⟩
              have T11 := hid (T10.out.on h11)
              have b11 := hid (b10.out.below h11 b10.out.lt)
              have l11 := hid b11.out.lt
              clear h11 T10 b10
              go_upto_region 36 with (first | ((with_reducible apply stx); rfl; rfl; exact Blk.top zlit rfl))
              generalize hw12 : World.setRow (World.alloc w11 _) _ _ = w12
              have b12 := hid (show Blk w12 w11.heap.size 32 (sec (getS s c)) by rw [← hw12]; exact (Blk.top zlit rfl).setRow_same _)
              have a12 := hid (show Blk w12 w9.heap.size 32 (sec (getS s c)) by rw [← hw12]; exact (b11.out.alloc _).setRow_other (by have := l11.out; omega) _)
              have h12 : Below w11.heap.size w11 w12 := by rw [← hw12]; exact below_setRow ((Below.refl _ _).alloc (Nat.le_refl _) _) (Nat.le_refl _) _
              have T12 := hid (T11.out.on h12)
              clear h12 hw12 T11 b11
              have es := eqS_yes (f := getS s c) (g := getS s c) fun _ _ => rfl
              have ee : ((getE s c : Int) != (getE s c : Int)) = false := by simp
              go_wp2_with (first | ((with_reducible apply ld); rfl; exact a12.out) | ((with_reducible apply ld); rfl; exact b12.out))
              go_roundw
              case rel => exact ⟨c + 1, by go_num, by omega, T12⟩
              case measure => simp [intOf] <;> omega
            · have t5 : ¬ (c : Int) < m := by omega
              go_wp2_with fail
              refine (works_any _).mono ?_
              rintro e w9 ⟨rfl, h9⟩
              have B9 := hid (HT8.out.b.trans (h9.mono HT8.out.b.size))
              clear h9
              go_wp2_with fail
              go_ret
              exact ⟨rfl, B9.out⟩
end StM
end Go.Proofs.Ytlbfjnddbdpdpaa
