/-
  TreeProves, over TreeC, TreeD and TagC (written by tools/gen_trproves.py).
-/
import Derived.Test.YtdmnhpgafbcehaaDoorMrg10
set_option linter.unusedVariables false
set_option linter.unusedSimpArgs false
set_option maxRecDepth 100000
namespace Go.Proofs.YtdmnhpgafbcehaaDoor
open Go.ChangeShapes Go.WideShapes Go.ChangeAt Go.RowKit Go.Deep
attribute [local go_sem] Gives GivesE
namespace TrM
open TgP RwP
set_option maxHeartbeats 1600000 in
set_option maxRecDepth 100000 in
theorem proves_law {repT : RepT} (HC : TreeC repT) (HD : TreeD repT) (HT : NumTag 27 78) (k : Nat → Nat) (hk : ∀ i, k i < 256) (h : Int) (A : Option Addr) (F : Nat → Nat → Nat) (hF : ∀ i j, F i j < 256) (n cap : Nat) (leaf : Int) (f : Nat → Nat) (A2 : Option Addr) (P : Nat → Nat → Nat) (hP : ∀ i j, P i j < 256) (n2 cap2 : Nat) (top : Nat → Nat) (w : World) (hA : SliF 32 (fun b => b < w.heap.size) w A n F cap) (hA2 : SliF 64 (fun b => b < w.heap.size) w A2 n2 P cap2) (hS : Salts w) :
    Calls Tryd.prog 6 #[.agg (ar 32 k), stV h A n cap, .agg (cm leaf f (.slice A2 n2 cap2) top)] w fun e w' => e = .returned (.bool true) ∧ Below w.heap.size w w' := by
  have C := hid HC
  have D := hid HD
  have T := hid HT
  have K := hid hk
  have FF := hid hF
  have PP := hid hP
  have AA := hid hA
  have AP := hid hA2
  have SA := hid hS
  have MX := hid hA.max
  have NC := hid hA.cap
  clear HC HD HT hk hF hP hA hA2 hS
  go_enter Tryd.func6, Tryd.ntmps6
  go_upto_region 1 with fail
  generalize hw1 : World.alloc (World.alloc (World.alloc w _) _) _ = w1
  have B1 := hid (show Blk w1 w.heap.size 23 (ar 32 k) by rw [← hw1]; exact ((Blk.new _ _ _).alloc _).alloc _)
  have B2 := hid (show Blk w1 (w.heap.size + 1) 26 #[.int .i64 h, .slice A n cap] by rw [← hw1]; exact (Blk.top rfl (by simp)).alloc _)
  have B3 := hid (show Blk w1 (w.heap.size + 1 + 1) 64 (cm leaf f (.slice A2 n2 cap2) top) by rw [← hw1]; exact Blk.top rfl (by simp))
  have hb := hid (show Below w.heap.size w w1 by rw [← hw1]; exact (((Below.refl _ _).alloc (Nat.le_refl _) _).alloc (by simp) _).alloc (by simp; omega) _)
  have A1 := hid (AA.out.turn (Turn.of_new (S := fun _ => False) hb.out) fun _ _ _ h => h)
  have PA1 := hid (AP.out.turn (Turn.of_new (S := fun _ => False) hb.out) fun _ _ _ h => h)
  have S1 := hid (SA.out.on hb.out)
  clear hw1 AA AP SA
  have c0 : w1.cell? ⟨w.heap.size + 1, 0, none⟩ = some (.int .i64 h) := B2.out.cell 0
  have WE := hid (fun (w2 : World) (h : Below w1.heap.size w1 w2) => works_any C.out w2 (S1.out.on h))
  by_cases hbig : 5 < h ∧ h ≤ 12
  · have t1 : decide (5 < h) = true := decide_eq_true hbig.1
    have t2 : decide (h ≤ 12) = true := decide_eq_true hbig.2
    have t3 : 5 < h := hbig.1
    have t4 : h ≤ 12 := hbig.2
    clear hbig
    go_wp2_with fail
    refine (WE.out w1 (Below.refl w1.heap.size w1)).mono ?_
    rintro e w9 ⟨rfl, h9⟩
    have db := hid (hb.out.trans (((Below.refl w1.heap.size w1).trans (h9.mono (Below.refl w1.heap.size w1).size)).mono hb.out.size))
    clear h9
    go_wp2_with fail
    go_ret
    exact ⟨rfl, db.out⟩
  obtain ⟨m, hm1, hm2, hm3⟩ := cut_at n 32
  have HZ := hid (show (if (32 : Int) < (n : Int) then (32 : Int) else (n : Int)) = (m : Int) from hm1)
  have MC := hid (Nat.le_trans hm2 NC.out)
  have A2' := hid (SliF.cut A1.out hm2)
  clear hm1 hm2 hm3 A1
  rcases new_cases h m with hno | ⟨a, rfl, ho, hm⟩
  · have NO := hid (fun (w2 : World) (_ : Below w1.heap.size w1 w2) => C.out.newNo k h A m cap hno w2)
    by_cases h12 : 12 < h
    · have t1 : decide (5 < h) = true := decide_eq_true (by omega)
      have t2 : decide (h ≤ 12) = false := decide_eq_false (by omega)
      have t3 : 5 < h := by omega
      have t4 : ¬ h ≤ 12 := by omega
      clear hno h12 hbig
      go_upto_region 3 with fail
      clear t1 t2 t3 t4 c0
      refine wp_region_y [some (.agg (ar 32 k)), some (.pointer (some ⟨w.heap.size + 1, 0, none⟩)), some (.int .i64 h), some (.pointer (some ⟨w.heap.size + 1, 1, none⟩)), some (.slice A n cap), some (.pointer (some ⟨w.heap.size + 1, 1, none⟩)), some (.slice A n cap), some (.int .i64 n), some (.int .i64 m), some (.slice A m cap), some (.tuple #[.pointer none, .int .i64 2]), some (.tuple #[.pointer none, .int .i64 2]), some (.pointer none), some (.int .i64 2), some (.pointer none), some (.int .i64 2)] [] (fun y hy => by cases hy) 16 (by kernel_rfl) (by kernel_rfl) (by kernel_rfl) fun vs => ?_
      simp only [List.take_succ_cons, List.take_zero, List.drop_succ_cons, List.drop_zero]
      refine ⟨.inl ⟨rfl, fun dd w' hd hC hDs => ?_⟩, fun e => ?_⟩
      · exact gE_ldA tK rfl (B1.out.below hC B1.out.lt).head ⟨rfl, hC, Below.refl _ _, trivial⟩
      have e' : vs 0 = _ := e
      rw [e']
      clear e e'
      simp only [Act.put, List.setIfInBounds_toArray, List.set_cons_succ, List.set_cons_zero]
      refine ⟨.inl ⟨rfl, fun dd w' hd hC hDs => ?_⟩, fun e => ?_⟩
      · go_simp
        first | exact ⟨rfl, hC, Below.refl _ _, trivial⟩ | exact ⟨rfl, Below.refl _ _, trivial⟩ | exact ⟨hC, Below.refl _ _, trivial⟩
      have e' : vs 1 = _ := e
      rw [e']
      clear e e'
      simp only [Act.put, List.setIfInBounds_toArray, List.set_cons_succ, List.set_cons_zero]
      refine ⟨.inl ⟨rfl, fun dd w' hd hC hDs => ?_⟩, fun e => ?_⟩
      · have h1 : w'.cell? ⟨w.heap.size + 1, 0, none⟩ = some (.int .i64 h) := (B2.out.below hC B2.out.lt).cell 0
        go_simp
        first | exact ⟨rfl, hC, Below.refl _ _, trivial⟩ | exact ⟨rfl, Below.refl _ _, trivial⟩ | exact ⟨hC, Below.refl _ _, trivial⟩
      have e' : vs 2 = _ := e
      rw [e']
      clear e e'
      simp only [Act.put, List.setIfInBounds_toArray, List.set_cons_succ, List.set_cons_zero]
      refine ⟨.inl ⟨rfl, fun dd w' hd hC hDs => ?_⟩, fun e => ?_⟩
      · go_simp
        first | exact ⟨rfl, hC, Below.refl _ _, trivial⟩ | exact ⟨rfl, Below.refl _ _, trivial⟩ | exact ⟨hC, Below.refl _ _, trivial⟩
      have e' : vs 3 = _ := e
      rw [e']
      clear e e'
      simp only [Act.put, List.setIfInBounds_toArray, List.set_cons_succ, List.set_cons_zero]
      refine ⟨.inl ⟨rfl, fun dd w' hd hC hDs => ?_⟩, fun e => ?_⟩
      · have h1 : w'.cell? ⟨w.heap.size + 1, 1, none⟩ = some (.slice A n cap) := (B2.out.below hC B2.out.lt).cell 1
        go_simp
        first | exact ⟨rfl, hC, Below.refl _ _, trivial⟩ | exact ⟨rfl, Below.refl _ _, trivial⟩ | exact ⟨hC, Below.refl _ _, trivial⟩
      have e' : vs 4 = _ := e
      rw [e']
      clear e e'
      simp only [Act.put, List.setIfInBounds_toArray, List.set_cons_succ, List.set_cons_zero]
      refine ⟨.inl ⟨rfl, fun dd w' hd hC hDs => ?_⟩, fun e => ?_⟩
      · go_simp
        first | exact ⟨rfl, hC, Below.refl _ _, trivial⟩ | exact ⟨rfl, Below.refl _ _, trivial⟩ | exact ⟨hC, Below.refl _ _, trivial⟩
      have e' : vs 5 = _ := e
      rw [e']
      clear e e'
      simp only [Act.put, List.setIfInBounds_toArray, List.set_cons_succ, List.set_cons_zero]
      refine ⟨.inl ⟨rfl, fun dd w' hd hC hDs => ?_⟩, fun e => ?_⟩
      · have h1 : w'.cell? ⟨w.heap.size + 1, 1, none⟩ = some (.slice A n cap) := (B2.out.below hC B2.out.lt).cell 1
        go_simp
        first | exact ⟨rfl, hC, Below.refl _ _, trivial⟩ | exact ⟨rfl, Below.refl _ _, trivial⟩ | exact ⟨hC, Below.refl _ _, trivial⟩
      have e' : vs 6 = _ := e
      rw [e']
      clear e e'
      simp only [Act.put, List.setIfInBounds_toArray, List.set_cons_succ, List.set_cons_zero]
      refine ⟨.inl ⟨rfl, fun dd w' hd hC hDs => ?_⟩, fun e => ?_⟩
      · go_simp
        first | exact ⟨rfl, hC, Below.refl _ _, trivial⟩ | exact ⟨rfl, Below.refl _ _, trivial⟩ | exact ⟨hC, Below.refl _ _, trivial⟩
      have e' : vs 7 = _ := e
      rw [e']
      clear e e'
      simp only [Act.put, List.setIfInBounds_toArray, List.set_cons_succ, List.set_cons_zero]
      refine ⟨.inl ⟨rfl, fun dd w' hd hC hDs => ?_⟩, fun e => ?_⟩
      · have h1 : (if (32 : Int) < (n : Int) then (32 : Int) else (n : Int)) = (m : Int) := HZ.out
        go_simp
        first | exact ⟨rfl, hC, Below.refl _ _, trivial⟩ | exact ⟨rfl, Below.refl _ _, trivial⟩ | exact ⟨hC, Below.refl _ _, trivial⟩
      have e' : vs 8 = _ := e
      rw [e']
      clear e e'
      simp only [Act.put, List.setIfInBounds_toArray, List.set_cons_succ, List.set_cons_zero]
      refine ⟨.inl ⟨rfl, fun dd w' hd hC hDs => ?_⟩, fun e => ?_⟩
      · have h1 : m ≤ cap := MC.out
        have h2 : cap ≤ maxLen := MX.out
        have h3 : n ≤ cap := NC.out
        go_simp
        first | exact ⟨rfl, hC, Below.refl _ _, trivial⟩ | exact ⟨rfl, Below.refl _ _, trivial⟩ | exact ⟨hC, Below.refl _ _, trivial⟩
      have e' : vs 9 = _ := e
      rw [e']
      clear e e'
      simp only [Act.put, List.setIfInBounds_toArray, List.set_cons_succ, List.set_cons_zero]
      refine ⟨.inl ⟨rfl, fun dd w' hd hC hDs => ?_⟩, fun e => ?_⟩
      · go_simp
        refine (NO.out w' hC).mono ?_
        rintro e w2 ⟨rfl, h2⟩
        exact ⟨_, rfl, rfl, hC.trans (h2.mono hC.size), h2, trivial⟩
      have e' : vs 10 = _ := e
      rw [e']
      clear e e'
      simp only [Act.put, List.setIfInBounds_toArray, List.set_cons_succ, List.set_cons_zero]
      refine ⟨.inl ⟨rfl, fun dd w' hd hC hDs => ?_⟩, fun e => ?_⟩
      · go_simp
        first | exact ⟨rfl, hC, Below.refl _ _, trivial⟩ | exact ⟨rfl, Below.refl _ _, trivial⟩ | exact ⟨hC, Below.refl _ _, trivial⟩
      have e' : vs 11 = _ := e
      rw [e']
      clear e e'
      simp only [Act.put, List.setIfInBounds_toArray, List.set_cons_succ, List.set_cons_zero]
      refine ⟨.inl ⟨rfl, fun dd w' hd hC hDs => ?_⟩, fun e => ?_⟩
      · go_simp
        first | exact ⟨rfl, hC, Below.refl _ _, trivial⟩ | exact ⟨rfl, Below.refl _ _, trivial⟩ | exact ⟨hC, Below.refl _ _, trivial⟩
      have e' : vs 12 = _ := e
      rw [e']
      clear e e'
      simp only [Act.put, List.setIfInBounds_toArray, List.set_cons_succ, List.set_cons_zero]
      refine ⟨.inl ⟨rfl, fun dd w' hd hC hDs => ?_⟩, fun e => ?_⟩
      · go_simp
        first | exact ⟨rfl, hC, Below.refl _ _, trivial⟩ | exact ⟨rfl, Below.refl _ _, trivial⟩ | exact ⟨hC, Below.refl _ _, trivial⟩
      have e' : vs 13 = _ := e
      rw [e']
      clear e e'
      simp only [Act.put, List.setIfInBounds_toArray, List.set_cons_succ, List.set_cons_zero]
      refine ⟨.inl ⟨rfl, fun dd w' hd hC hDs => ?_⟩, fun e => ?_⟩
      · go_simp
        first | exact ⟨rfl, hC, Below.refl _ _, trivial⟩ | exact ⟨rfl, Below.refl _ _, trivial⟩ | exact ⟨hC, Below.refl _ _, trivial⟩
      have e' : vs 14 = _ := e
      rw [e']
      clear e e'
      simp only [Act.put, List.setIfInBounds_toArray, List.set_cons_succ, List.set_cons_zero]
      refine ⟨.inl ⟨rfl, fun dd w' hd hC hDs => ?_⟩, fun e => ?_⟩
      · go_simp
        first | exact ⟨rfl, hC, Below.refl _ _, trivial⟩ | exact ⟨rfl, Below.refl _ _, trivial⟩ | exact ⟨hC, Below.refl _ _, trivial⟩
      have e' : vs 15 = _ := e
      rw [e']
      clear e e'
      simp only [Act.put, List.setIfInBounds_toArray, List.set_cons_succ, List.set_cons_zero]
      intro dd w4 hall hC4 hDs
      have b4 := hid hC4
      clear hall hC4 hDs
      go_wp2_with fail
      refine (WE.out w4 (b4.out)).mono ?_
      rintro e w9 ⟨rfl, h9⟩
      have db := hid (hb.out.trans (((b4.out).trans (h9.mono (b4.out).size)).mono hb.out.size))
      clear h9
      go_wp2_with fail
      go_ret
      exact ⟨rfl, db.out⟩
    · have t1 : decide (5 < h) = false := decide_eq_false (by omega)
      have t3 : ¬ 5 < h := by omega
      clear hno h12 hbig
      go_upto_region 3 with fail
      clear t1 t3 c0
      refine wp_region_y [some (.agg (ar 32 k)), some (.pointer (some ⟨w.heap.size + 1, 0, none⟩)), some (.int .i64 h), some (.pointer (some ⟨w.heap.size + 1, 1, none⟩)), some (.slice A n cap), some (.pointer (some ⟨w.heap.size + 1, 1, none⟩)), some (.slice A n cap), some (.int .i64 n), some (.int .i64 m), some (.slice A m cap), some (.tuple #[.pointer none, .int .i64 2]), some (.tuple #[.pointer none, .int .i64 2]), some (.pointer none), some (.int .i64 2), some (.pointer none), some (.int .i64 2)] [] (fun y hy => by cases hy) 16 (by kernel_rfl) (by kernel_rfl) (by kernel_rfl) fun vs => ?_
      simp only [List.take_succ_cons, List.take_zero, List.drop_succ_cons, List.drop_zero]
      refine ⟨.inl ⟨rfl, fun dd w' hd hC hDs => ?_⟩, fun e => ?_⟩
      · exact gE_ldA tK rfl (B1.out.below hC B1.out.lt).head ⟨rfl, hC, Below.refl _ _, trivial⟩
      have e' : vs 0 = _ := e
      rw [e']
      clear e e'
      simp only [Act.put, List.setIfInBounds_toArray, List.set_cons_succ, List.set_cons_zero]
      refine ⟨.inl ⟨rfl, fun dd w' hd hC hDs => ?_⟩, fun e => ?_⟩
      · go_simp
        first | exact ⟨rfl, hC, Below.refl _ _, trivial⟩ | exact ⟨rfl, Below.refl _ _, trivial⟩ | exact ⟨hC, Below.refl _ _, trivial⟩
      have e' : vs 1 = _ := e
      rw [e']
      clear e e'
      simp only [Act.put, List.setIfInBounds_toArray, List.set_cons_succ, List.set_cons_zero]
      refine ⟨.inl ⟨rfl, fun dd w' hd hC hDs => ?_⟩, fun e => ?_⟩
      · have h1 : w'.cell? ⟨w.heap.size + 1, 0, none⟩ = some (.int .i64 h) := (B2.out.below hC B2.out.lt).cell 0
        go_simp
        first | exact ⟨rfl, hC, Below.refl _ _, trivial⟩ | exact ⟨rfl, Below.refl _ _, trivial⟩ | exact ⟨hC, Below.refl _ _, trivial⟩
      have e' : vs 2 = _ := e
      rw [e']
      clear e e'
      simp only [Act.put, List.setIfInBounds_toArray, List.set_cons_succ, List.set_cons_zero]
      refine ⟨.inl ⟨rfl, fun dd w' hd hC hDs => ?_⟩, fun e => ?_⟩
      · go_simp
        first | exact ⟨rfl, hC, Below.refl _ _, trivial⟩ | exact ⟨rfl, Below.refl _ _, trivial⟩ | exact ⟨hC, Below.refl _ _, trivial⟩
      have e' : vs 3 = _ := e
      rw [e']
      clear e e'
      simp only [Act.put, List.setIfInBounds_toArray, List.set_cons_succ, List.set_cons_zero]
      refine ⟨.inl ⟨rfl, fun dd w' hd hC hDs => ?_⟩, fun e => ?_⟩
      · have h1 : w'.cell? ⟨w.heap.size + 1, 1, none⟩ = some (.slice A n cap) := (B2.out.below hC B2.out.lt).cell 1
        go_simp
        first | exact ⟨rfl, hC, Below.refl _ _, trivial⟩ | exact ⟨rfl, Below.refl _ _, trivial⟩ | exact ⟨hC, Below.refl _ _, trivial⟩
      have e' : vs 4 = _ := e
      rw [e']
      clear e e'
      simp only [Act.put, List.setIfInBounds_toArray, List.set_cons_succ, List.set_cons_zero]
      refine ⟨.inl ⟨rfl, fun dd w' hd hC hDs => ?_⟩, fun e => ?_⟩
      · go_simp
        first | exact ⟨rfl, hC, Below.refl _ _, trivial⟩ | exact ⟨rfl, Below.refl _ _, trivial⟩ | exact ⟨hC, Below.refl _ _, trivial⟩
      have e' : vs 5 = _ := e
      rw [e']
      clear e e'
      simp only [Act.put, List.setIfInBounds_toArray, List.set_cons_succ, List.set_cons_zero]
      refine ⟨.inl ⟨rfl, fun dd w' hd hC hDs => ?_⟩, fun e => ?_⟩
      · have h1 : w'.cell? ⟨w.heap.size + 1, 1, none⟩ = some (.slice A n cap) := (B2.out.below hC B2.out.lt).cell 1
        go_simp
        first | exact ⟨rfl, hC, Below.refl _ _, trivial⟩ | exact ⟨rfl, Below.refl _ _, trivial⟩ | exact ⟨hC, Below.refl _ _, trivial⟩
      have e' : vs 6 = _ := e
      rw [e']
      clear e e'
      simp only [Act.put, List.setIfInBounds_toArray, List.set_cons_succ, List.set_cons_zero]
      refine ⟨.inl ⟨rfl, fun dd w' hd hC hDs => ?_⟩, fun e => ?_⟩
      · go_simp
        first | exact ⟨rfl, hC, Below.refl _ _, trivial⟩ | exact ⟨rfl, Below.refl _ _, trivial⟩ | exact ⟨hC, Below.refl _ _, trivial⟩
      have e' : vs 7 = _ := e
      rw [e']
      clear e e'
      simp only [Act.put, List.setIfInBounds_toArray, List.set_cons_succ, List.set_cons_zero]
      refine ⟨.inl ⟨rfl, fun dd w' hd hC hDs => ?_⟩, fun e => ?_⟩
      · have h1 : (if (32 : Int) < (n : Int) then (32 : Int) else (n : Int)) = (m : Int) := HZ.out
        go_simp
        first | exact ⟨rfl, hC, Below.refl _ _, trivial⟩ | exact ⟨rfl, Below.refl _ _, trivial⟩ | exact ⟨hC, Below.refl _ _, trivial⟩
      have e' : vs 8 = _ := e
      rw [e']
      clear e e'
      simp only [Act.put, List.setIfInBounds_toArray, List.set_cons_succ, List.set_cons_zero]
      refine ⟨.inl ⟨rfl, fun dd w' hd hC hDs => ?_⟩, fun e => ?_⟩
      · have h1 : m ≤ cap := MC.out
        have h2 : cap ≤ maxLen := MX.out
        have h3 : n ≤ cap := NC.out
        go_simp
        first | exact ⟨rfl, hC, Below.refl _ _, trivial⟩ | exact ⟨rfl, Below.refl _ _, trivial⟩ | exact ⟨hC, Below.refl _ _, trivial⟩
      have e' : vs 9 = _ := e
      rw [e']
      clear e e'
      simp only [Act.put, List.setIfInBounds_toArray, List.set_cons_succ, List.set_cons_zero]
      refine ⟨.inl ⟨rfl, fun dd w' hd hC hDs => ?_⟩, fun e => ?_⟩
      · go_simp
        refine (NO.out w' hC).mono ?_
        rintro e w2 ⟨rfl, h2⟩
        exact ⟨_, rfl, rfl, hC.trans (h2.mono hC.size), h2, trivial⟩
      have e' : vs 10 = _ := e
      rw [e']
      clear e e'
      simp only [Act.put, List.setIfInBounds_toArray, List.set_cons_succ, List.set_cons_zero]
      refine ⟨.inl ⟨rfl, fun dd w' hd hC hDs => ?_⟩, fun e => ?_⟩
      · go_simp
        first | exact ⟨rfl, hC, Below.refl _ _, trivial⟩ | exact ⟨rfl, Below.refl _ _, trivial⟩ | exact ⟨hC, Below.refl _ _, trivial⟩
      have e' : vs 11 = _ := e
      rw [e']
      clear e e'
      simp only [Act.put, List.setIfInBounds_toArray, List.set_cons_succ, List.set_cons_zero]
      refine ⟨.inl ⟨rfl, fun dd w' hd hC hDs => ?_⟩, fun e => ?_⟩
      · go_simp
        first | exact ⟨rfl, hC, Below.refl _ _, trivial⟩ | exact ⟨rfl, Below.refl _ _, trivial⟩ | exact ⟨hC, Below.refl _ _, trivial⟩
      have e' : vs 12 = _ := e
      rw [e']
      clear e e'
      simp only [Act.put, List.setIfInBounds_toArray, List.set_cons_succ, List.set_cons_zero]
      refine ⟨.inl ⟨rfl, fun dd w' hd hC hDs => ?_⟩, fun e => ?_⟩
      · go_simp
        first | exact ⟨rfl, hC, Below.refl _ _, trivial⟩ | exact ⟨rfl, Below.refl _ _, trivial⟩ | exact ⟨hC, Below.refl _ _, trivial⟩
      have e' : vs 13 = _ := e
      rw [e']
      clear e e'
      simp only [Act.put, List.setIfInBounds_toArray, List.set_cons_succ, List.set_cons_zero]
      refine ⟨.inl ⟨rfl, fun dd w' hd hC hDs => ?_⟩, fun e => ?_⟩
      · go_simp
        first | exact ⟨rfl, hC, Below.refl _ _, trivial⟩ | exact ⟨rfl, Below.refl _ _, trivial⟩ | exact ⟨hC, Below.refl _ _, trivial⟩
      have e' : vs 14 = _ := e
      rw [e']
      clear e e'
      simp only [Act.put, List.setIfInBounds_toArray, List.set_cons_succ, List.set_cons_zero]
      refine ⟨.inl ⟨rfl, fun dd w' hd hC hDs => ?_⟩, fun e => ?_⟩
      · go_simp
        first | exact ⟨rfl, hC, Below.refl _ _, trivial⟩ | exact ⟨rfl, Below.refl _ _, trivial⟩ | exact ⟨hC, Below.refl _ _, trivial⟩
      have e' : vs 15 = _ := e
      rw [e']
      clear e e'
      simp only [Act.put, List.setIfInBounds_toArray, List.set_cons_succ, List.set_cons_zero]
      intro dd w4 hall hC4 hDs
      have b4 := hid hC4
      clear hall hC4 hDs
      go_wp2_with fail
      refine (WE.out w4 (b4.out)).mono ?_
      rintro e w9 ⟨rfl, h9⟩
      have db := hid (hb.out.trans (((b4.out).trans (h9.mono (b4.out).size)).mono hb.out.size))
      clear h9
      go_wp2_with fail
      go_ret
      exact ⟨rfl, db.out⟩
  · have ha5 : a ≤ 5 := by have := ho.1; have := ho.2; omega
    have ha1 : 1 ≤ a := by have := ho.1; omega
    obtain ⟨t, ht⟩ : ∃ t : Tr, t = ⟨k, a, newL m F⟩ := ⟨_, rfl⟩
    have TK := hid (show t.k = k by rw [ht])
    have TH := hid (show t.h = a by rw [ht])
    have TN := hid (show t.n = 2 ^ a by rw [ht]; rfl)
    have YE := hid (fun (w2 : World) (hb2 : Below w1.heap.size w1 w2) => C.out.new k K.out a ho A F FF.out m cap hm _ w2 (A2'.out.turn (Turn.of_new (S := fun _ => False) hb2) fun _ _ _ h => h) (S1.out.on hb2))
    rw [← ht] at YE
    have t1 : decide (5 < (a : Int)) = false := decide_eq_false (by omega)
    have t3 : ¬ 5 < (a : Int) := by omega
    have HO := hid ho
    clear hbig ht hm ho
    go_upto_region 3 with fail
    clear t1 t3 c0
    refine wp_region_y [some (.agg (ar 32 k)), some (.pointer (some ⟨w.heap.size + 1, 0, none⟩)), some (.int .i64 (a : Nat)), some (.pointer (some ⟨w.heap.size + 1, 1, none⟩)), some (.slice A n cap), some (.pointer (some ⟨w.heap.size + 1, 1, none⟩)), some (.slice A n cap), some (.int .i64 n), some (.int .i64 m), some (.slice A m cap), none, none, none, some (.int .i64 0), none, some (.int .i64 0)] [(10, spN repT t w1.heap.size), (11, spN repT t w1.heap.size), (12, spG repT t w1.heap.size), (14, spG repT t w1.heap.size)] (fun y hy => by simp only [List.mem_cons, List.not_mem_nil, or_false] at hy; rcases hy with rfl | rfl | rfl | rfl <;> first | exact spN_ok C.out _ _ | exact spG_ok C.out _ _) 16 (by kernel_rfl) (by kernel_rfl) (by kernel_rfl) fun vs => ?_
    simp only [List.take_succ_cons, List.take_zero, List.drop_succ_cons, List.drop_zero]
    refine ⟨.inl ⟨rfl, fun dd w' hd hC hDs => ?_⟩, fun e => ?_⟩
    · exact gE_ldA tK rfl (B1.out.below hC B1.out.lt).head ⟨rfl, hC, Below.refl _ _, trivial⟩
    have e' : vs 0 = _ := e
    rw [e']
    clear e e'
    simp only [Act.put, List.setIfInBounds_toArray, List.set_cons_succ, List.set_cons_zero]
    refine ⟨.inl ⟨rfl, fun dd w' hd hC hDs => ?_⟩, fun e => ?_⟩
    · go_simp
      first | exact ⟨rfl, hC, Below.refl _ _, trivial⟩ | exact ⟨rfl, Below.refl _ _, trivial⟩ | exact ⟨hC, Below.refl _ _, trivial⟩
    have e' : vs 1 = _ := e
    rw [e']
    clear e e'
    simp only [Act.put, List.setIfInBounds_toArray, List.set_cons_succ, List.set_cons_zero]
    refine ⟨.inl ⟨rfl, fun dd w' hd hC hDs => ?_⟩, fun e => ?_⟩
    · have h1 : w'.cell? ⟨w.heap.size + 1, 0, none⟩ = some (.int .i64 (a : Nat)) := (B2.out.below hC B2.out.lt).cell 0
      go_simp
      first | exact ⟨rfl, hC, Below.refl _ _, trivial⟩ | exact ⟨rfl, Below.refl _ _, trivial⟩ | exact ⟨hC, Below.refl _ _, trivial⟩
    have e' : vs 2 = _ := e
    rw [e']
    clear e e'
    simp only [Act.put, List.setIfInBounds_toArray, List.set_cons_succ, List.set_cons_zero]
    refine ⟨.inl ⟨rfl, fun dd w' hd hC hDs => ?_⟩, fun e => ?_⟩
    · go_simp
      first | exact ⟨rfl, hC, Below.refl _ _, trivial⟩ | exact ⟨rfl, Below.refl _ _, trivial⟩ | exact ⟨hC, Below.refl _ _, trivial⟩
    have e' : vs 3 = _ := e
    rw [e']
    clear e e'
    simp only [Act.put, List.setIfInBounds_toArray, List.set_cons_succ, List.set_cons_zero]
    refine ⟨.inl ⟨rfl, fun dd w' hd hC hDs => ?_⟩, fun e => ?_⟩
    · have h1 : w'.cell? ⟨w.heap.size + 1, 1, none⟩ = some (.slice A n cap) := (B2.out.below hC B2.out.lt).cell 1
      go_simp
      first | exact ⟨rfl, hC, Below.refl _ _, trivial⟩ | exact ⟨rfl, Below.refl _ _, trivial⟩ | exact ⟨hC, Below.refl _ _, trivial⟩
    have e' : vs 4 = _ := e
    rw [e']
    clear e e'
    simp only [Act.put, List.setIfInBounds_toArray, List.set_cons_succ, List.set_cons_zero]
    refine ⟨.inl ⟨rfl, fun dd w' hd hC hDs => ?_⟩, fun e => ?_⟩
    · go_simp
      first | exact ⟨rfl, hC, Below.refl _ _, trivial⟩ | exact ⟨rfl, Below.refl _ _, trivial⟩ | exact ⟨hC, Below.refl _ _, trivial⟩
    have e' : vs 5 = _ := e
    rw [e']
    clear e e'
    simp only [Act.put, List.setIfInBounds_toArray, List.set_cons_succ, List.set_cons_zero]
    refine ⟨.inl ⟨rfl, fun dd w' hd hC hDs => ?_⟩, fun e => ?_⟩
    · have h1 : w'.cell? ⟨w.heap.size + 1, 1, none⟩ = some (.slice A n cap) := (B2.out.below hC B2.out.lt).cell 1
      go_simp
      first | exact ⟨rfl, hC, Below.refl _ _, trivial⟩ | exact ⟨rfl, Below.refl _ _, trivial⟩ | exact ⟨hC, Below.refl _ _, trivial⟩
    have e' : vs 6 = _ := e
    rw [e']
    clear e e'
    simp only [Act.put, List.setIfInBounds_toArray, List.set_cons_succ, List.set_cons_zero]
    refine ⟨.inl ⟨rfl, fun dd w' hd hC hDs => ?_⟩, fun e => ?_⟩
    · go_simp
      first | exact ⟨rfl, hC, Below.refl _ _, trivial⟩ | exact ⟨rfl, Below.refl _ _, trivial⟩ | exact ⟨hC, Below.refl _ _, trivial⟩
    have e' : vs 7 = _ := e
    rw [e']
    clear e e'
    simp only [Act.put, List.setIfInBounds_toArray, List.set_cons_succ, List.set_cons_zero]
    refine ⟨.inl ⟨rfl, fun dd w' hd hC hDs => ?_⟩, fun e => ?_⟩
    · have h1 : (if (32 : Int) < (n : Int) then (32 : Int) else (n : Int)) = (m : Int) := HZ.out
      go_simp
      first | exact ⟨rfl, hC, Below.refl _ _, trivial⟩ | exact ⟨rfl, Below.refl _ _, trivial⟩ | exact ⟨hC, Below.refl _ _, trivial⟩
    have e' : vs 8 = _ := e
    rw [e']
    clear e e'
    simp only [Act.put, List.setIfInBounds_toArray, List.set_cons_succ, List.set_cons_zero]
    refine ⟨.inl ⟨rfl, fun dd w' hd hC hDs => ?_⟩, fun e => ?_⟩
    · have h1 : m ≤ cap := MC.out
      have h2 : cap ≤ maxLen := MX.out
      have h3 : n ≤ cap := NC.out
      go_simp
      first | exact ⟨rfl, hC, Below.refl _ _, trivial⟩ | exact ⟨rfl, Below.refl _ _, trivial⟩ | exact ⟨hC, Below.refl _ _, trivial⟩
    have e' : vs 9 = _ := e
    rw [e']
    clear e e'
    simp only [Act.put, List.setIfInBounds_toArray, List.set_cons_succ, List.set_cons_zero]
    refine ⟨.inl ⟨rfl, fun dd w' hd hC hDs => ?_⟩, fun e => ?_⟩
    · go_simp
      refine (YE.out w' hC).mono ?_
      rintro e w2 ⟨g7, M7, rfl, r7, m7, h2⟩
      exact ⟨_, rfl, ⟨_, rfl⟩, hC.trans (h2.mono hC.size), h2, yD_some rfl ⟨_, _, rfl, r7, fun b hb => Nat.le_trans hC.size (m7 b hb)⟩⟩
    obtain ⟨g10, e'⟩ : ∃ g, vs 10 = .tuple #[pT g, .int .i64 0] := e
    rw [e']
    have E10 := hid e'
    clear e'
    simp only [Act.put, List.setIfInBounds_toArray, List.set_cons_succ, List.set_cons_zero]
    refine ⟨.inl ⟨rfl, fun dd w' hd hC hDs => ?_⟩, fun e => ?_⟩
    · obtain ⟨g7, M7, f7, r7, m7⟩ := hDs 10 (by kernel_rfl)
      rw [E10.out] at f7
      cases f7
      go_simp
      first | exact ⟨⟨_, rfl⟩, Below.refl _ _, ⟨_, _, rfl, r7, m7⟩⟩ | exact ⟨⟨_, rfl⟩, hC, Below.refl _ _, ⟨_, _, rfl, r7, m7⟩⟩ | exact ⟨Below.refl _ _, ⟨_, _, rfl, r7, m7⟩⟩ | exact ⟨⟨_, rfl⟩, hC, Below.refl _ _, yD_some rfl ⟨_, _, rfl, r7, m7⟩⟩
    obtain ⟨g11, e'⟩ : ∃ g, vs 11 = .tuple #[pT g, .int .i64 0] := e
    rw [e']
    have E11 := hid e'
    clear e'
    simp only [Act.put, List.setIfInBounds_toArray, List.set_cons_succ, List.set_cons_zero]
    refine ⟨.inl ⟨rfl, fun dd w' hd hC hDs => ?_⟩, fun e => ?_⟩
    · obtain ⟨g7, M7, f7, r7, m7⟩ := hDs 11 (by kernel_rfl)
      rw [E11.out] at f7
      cases f7
      go_simp
      first | exact ⟨⟨_, rfl⟩, Below.refl _ _, ⟨_, _, rfl, r7, m7⟩⟩ | exact ⟨⟨_, rfl⟩, hC, Below.refl _ _, ⟨_, _, rfl, r7, m7⟩⟩ | exact ⟨Below.refl _ _, ⟨_, _, rfl, r7, m7⟩⟩ | exact ⟨⟨_, rfl⟩, hC, Below.refl _ _, yD_some rfl ⟨_, _, rfl, r7, m7⟩⟩
    obtain ⟨g12, e'⟩ : ∃ g, vs 12 = pT g := e
    rw [e']
    have E12 := hid e'
    clear e'
    simp only [Act.put, List.setIfInBounds_toArray, List.set_cons_succ, List.set_cons_zero]
    refine ⟨.inl ⟨rfl, fun dd w' hd hC hDs => ?_⟩, fun e => ?_⟩
    · go_simp
      first | exact ⟨rfl, hC, Below.refl _ _, trivial⟩ | exact ⟨rfl, Below.refl _ _, trivial⟩ | exact ⟨hC, Below.refl _ _, trivial⟩
    have e' : vs 13 = _ := e
    rw [e']
    clear e e'
    simp only [Act.put, List.setIfInBounds_toArray, List.set_cons_succ, List.set_cons_zero]
    refine ⟨.inl ⟨rfl, fun dd w' hd hC hDs => ?_⟩, fun e => ?_⟩
    · obtain ⟨g7, M7, f7, r7, m7⟩ := hDs 12 (by kernel_rfl)
      rw [E12.out] at f7
      cases f7
      go_simp
      first | exact ⟨⟨_, rfl⟩, Below.refl _ _, ⟨_, _, rfl, r7, m7⟩⟩ | exact ⟨⟨_, rfl⟩, hC, Below.refl _ _, ⟨_, _, rfl, r7, m7⟩⟩ | exact ⟨Below.refl _ _, ⟨_, _, rfl, r7, m7⟩⟩ | exact ⟨⟨_, rfl⟩, hC, Below.refl _ _, yD_some rfl ⟨_, _, rfl, r7, m7⟩⟩
    obtain ⟨ga, e'⟩ : ∃ g, vs 14 = pT g := e
    rw [e']
    have E14 := hid e'
    clear e'
    simp only [Act.put, List.setIfInBounds_toArray, List.set_cons_succ, List.set_cons_zero]
    refine ⟨.inl ⟨rfl, fun dd w' hd hC hDs => ?_⟩, fun e => ?_⟩
    · go_simp
      first | exact ⟨rfl, hC, Below.refl _ _, trivial⟩ | exact ⟨rfl, Below.refl _ _, trivial⟩ | exact ⟨hC, Below.refl _ _, trivial⟩
    have e' : vs 15 = _ := e
    rw [e']
    clear e e'
    simp only [Act.put, List.setIfInBounds_toArray, List.set_cons_succ, List.set_cons_zero]
    intro dd w4 hall hC4 hDs
    obtain ⟨gt, Mt, ft, rt, mt⟩ := hDs 14 (by omega)
    rw [E14.out] at ft
    cases ft
    have Ra4 := hid rt
    have b4 := hid hC4
    have z14 := hid (B1.out.below b4.out B1.out.lt)
    have z24 := hid (B2.out.below b4.out B2.out.lt)
    have z34 := hid (B3.out.below b4.out B3.out.lt)
    clear hall hC4 hDs E10 E11 E12 E14 rt mt B1 B2 B3 A2' NC MX MC HZ FF YE
    have v1 : w4.cell? ⟨w.heap.size + 1 + 1, 0, none⟩ = some (.int .i64 leaf) := cm_0 z34.out
    by_cases hin : 0 ≤ leaf ∧ leaf < (t.n : Nat)
    · obtain ⟨c, rfl⟩ : ∃ c : Nat, leaf = c := ⟨leaf.toNat, by omega⟩
      have hc : c < t.n := by omega
      clear hin
      go_wp2_with fail
      refine (show Calls Tryd.prog 19 #[pT ga, .int .i64 c] w4 _ from C.out.proof c hc Ra4.out (S1.out.on b4.out)).mono ?_
      rintro e w5 ⟨vp, rfl, p5, h5⟩
      obtain ⟨A6, c6, rfl, sl5⟩ := OwnX.sli (arL_len 64) p5
      have OW5 := hid sl5
      rw [lsF_len, TH.out] at OW5
      rw [lsF_len, TH.out]
      have Ra5 := hid (C.out.keep Ra4.out (Turn.of_new (S := fun _ => False) h5) fun _ _ h => h)
      have z15 := hid (z14.out.below h5 z14.out.lt)
      have z25 := hid (z24.out.below h5 z24.out.lt)
      have z35 := hid (z34.out.below h5 z34.out.lt)
      have b5 := hid (b4.out.trans ((h5).mono b4.out.size))
      clear Ra4 z14 z24 z34 b4
      clear h5 p5 sl5 v1
      obtain ⟨N, hN1⟩ : ∃ N, N = t.n := ⟨_, rfl⟩
      have NN := hid hN1
      have hN : wrap64 (2 ^ a) = (N : Int) := by rw [hN1]; exact shl_n ha5 TN.out
      have hN32 : N ≤ 32 := by rw [hN1, TN.out]; exact pow32 ha5
      have hcN : c < N := by rw [hN1]; exact hc
      clear hN1
      have t8 : wrap64 ((N : Int) + (c : Int)) = ((N + c : Nat) : Int) := wrap_small (by omega)
      have v2 : w5.cell? ⟨w.heap.size + 1, 0, none⟩ = some (.int .i64 (a : Nat)) := z25.out.cell 0
      have v1 : w5.cell? ⟨w.heap.size + 1 + 1, 0, none⟩ = some (.int .i64 (c : Nat)) := cm_0 z35.out
      go_wp2_with fail
      refine (show Calls Tryd.prog 15 #[pT ga, .int .i64 ((N + c : Nat) : Int)] w5 _ from D.out.tag (N + c) (has_leaf NN.out hcN) Ra5.out (S1.out.on b5.out)).mono ?_
      rintro e w6 ⟨rfl, h6⟩
      have Ra6 := hid (C.out.keep Ra5.out (Turn.of_new (S := fun _ => False) h6) fun _ _ h => h)
      have z16 := hid (z15.out.below h6 z15.out.lt)
      have z26 := hid (z25.out.below h6 z25.out.lt)
      have z36 := hid (z35.out.below h6 z35.out.lt)
      have b6 := hid (b5.out.trans ((h6).mono b5.out.size))
      have OW6 := hid (OW5.out.turn (Turn.of_new (S := fun _ => False) h6) fun _ _ _ h => h)
      clear Ra5 z15 z25 z35 b5 OW5
      clear h6 v1 v2
      rw [show t.tg (N + c) = t.L c from tg_lf NN.out]
      have hz : Blk (w6.alloc (.cells (ar 32 fun _ => 0) 36)) w6.heap.size 36 (ar 32 fun _ => 0) := Blk.new _ _ _
      go_upto_region 11 with (first | (with_reducible apply alA tT) | ((with_reducible apply stA tT); rfl; rfl; exact hz))
      have h7 := below_setRow ((Below.refl w6.heap.size w6).alloc (Nat.le_refl _) (.cells (ar 32 fun _ => 0) 36)) (Nat.le_refl _) (ar 32 (t.L c))
      have q7 := hid (hz.setRow_same (ar 32 (t.L c)))
      clear hz
      generalize World.setRow _ w6.heap.size _ = w7 at h7 q7 ⊢
      have Ra7 := hid (C.out.keep Ra6.out (Turn.of_new (S := fun _ => False) h7) fun _ _ h => h)
      have z17 := hid (z16.out.below h7 z16.out.lt)
      have z27 := hid (z26.out.below h7 z26.out.lt)
      have z37 := hid (z36.out.below h7 z36.out.lt)
      have b7 := hid (b6.out.trans ((h7).mono b6.out.size))
      have OW7 := hid (OW6.out.turn (Turn.of_new (S := fun _ => False) h7) fun _ _ _ h => h)
      clear Ra6 z16 z26 z36 b6 OW6
      clear h7
      have v2 : w7.cell? ⟨w.heap.size + 1, 0, none⟩ = some (.int .i64 (a : Nat)) := z27.out.cell 0
      have v1 : w7.cell? ⟨w.heap.size + 1 + 1, 0, none⟩ = some (.int .i64 (c : Nat)) := cm_0 z37.out
      go_wp2_with fail
      refine (D.out.path a c HO.out (by rw [← TN.out]; exact hc) w7).mono ?_
      rintro e w8 ⟨v, rfl, o8, h8⟩
      obtain ⟨g9, c9, rfl, p9⟩ := OwnI.get o8 (j := 0) (by rw [pthL_length]; exact ha1)
      have g9l := hid (OwnI.lt o8 g9 rfl).2
      have P8 := hid (show ∀ i, i < a → w8.cell? ⟨g9, i, none⟩ = some (.int .i64 (pth a c i : Nat)) from fun i hi => by have := p9 i (by rw [pthL_length]; exact hi); rwa [pthL_get hi] at this)
      rw [pthL_length]
      have Ra8 := hid (C.out.keep Ra7.out (Turn.of_new (S := fun _ => False) h8) fun _ _ h => h)
      have z18 := hid (z17.out.below h8 z17.out.lt)
      have z28 := hid (z27.out.below h8 z27.out.lt)
      have z38 := hid (z37.out.below h8 z37.out.lt)
      have b8 := hid (b7.out.trans ((h8).mono b7.out.size))
      have OW8 := hid (OW7.out.turn (Turn.of_new (S := fun _ => False) h8) fun _ _ _ h => h)
      have q8 := hid (q7.out.below h8 q7.out.lt)
      clear Ra7 z17 z27 z37 b7 OW7 q7
      have PA8 := hid (PA1.out.turn (Turn.of_new (S := fun _ => False) b8.out) fun _ _ _ h => h)
      clear h8 o8 p9 v1 v2 t8 hN PA1
      have TP := hid (fun (w' : World) (hw' : Below w8.heap.size w8 w') => C.out.top (C.out.keep Ra8.out (Turn.of_new (S := fun _ => False) hw') fun _ _ h => h) (S1.out.on (b8.out.trans (hw'.mono b8.out.size))))
      have PRF := hid (show ∀ i j, prf t c i j < 256 from fun i j => nd_256 (C.out.wf Ra8.out).2.2.2 _ j)
      have OKC := hid (show chk k (c : Nat) (t.L c) a (prf t c) (t.tg 1) = true by rw [← TK.out, ← TH.out]; exact chk_own (by rw [TH.out]; exact ha1) (by rw [TH.out]; omega) hc)
      have CO := hid (fun (w' : World) (hw' : Below w8.heap.size w8 w') => C.out.check k (t.L c) (t.tg 1) K.out (c : Nat) A6 (prf t c) (fun i j => PRF.out i j) a c6 _ w' (OW8.out.turn (Turn.of_new (S := fun _ => False) hw') fun _ _ _ h => h) (S1.out.on (b8.out.trans (hw'.mono b8.out.size))))
      rw [show chk k (c : Nat) (t.L c) a (prf t c) (t.tg 1) = true from OKC.out] at CO
      go_upto_region 12 with fail
      refine wp_region_tail (C := fun w' => Below w8.heap.size w8 w') 27 (by kernel_rfl) (by kernel_rfl) (by kernel_rfl) (Below.refl _ _).drew ?_
      simp only [List.take_succ_cons, List.take_zero, List.drop_succ_cons, List.drop_zero]
      apply wpK_val
      · rfl
      · intro w' hw'
        go_simp
        first | exact rfl | exact ⟨rfl, hw'⟩
      simp only [Act.put, List.setIfInBounds_toArray, List.set_cons_succ, List.set_cons_zero]
      apply wpK_val
      · rfl
      · intro w' hw'
        go_simp
        first | exact rfl | exact ⟨rfl, hw'⟩
      simp only [Act.put, List.setIfInBounds_toArray, List.set_cons_succ, List.set_cons_zero]
      apply wpK_val
      · rfl
      · intro w' hw'
        go_simp
        first | exact rfl | exact ⟨rfl, hw'⟩
      simp only [Act.put, List.setIfInBounds_toArray, List.set_cons_succ, List.set_cons_zero]
      apply wpK_val
      · rfl
      · intro w' hw'
        go_simp
        first | exact rfl | exact ⟨rfl, hw'⟩
      simp only [Act.put, List.setIfInBounds_toArray, List.set_cons_succ, List.set_cons_zero]
      apply wpK_val
      · rfl
      · intro w' hw'
        go_simp
        first | exact rfl | exact ⟨rfl, hw'⟩
      simp only [Act.put, List.setIfInBounds_toArray, List.set_cons_succ, List.set_cons_zero]
      apply wpK_val
      · rfl
      · intro w' hw'
        go_simp
        first | exact rfl | exact ⟨rfl, hw'⟩
      simp only [Act.put, List.setIfInBounds_toArray, List.set_cons_succ, List.set_cons_zero]
      apply wpK_val
      · rfl
      · intro w' hw'
        have hcell := (z28.out.below hw' z28.out.lt).cell 0
        go_simp
        first | exact rfl | exact ⟨rfl, hw'⟩
      simp only [Act.put, List.setIfInBounds_toArray, List.set_cons_succ, List.set_cons_zero]
      apply wpK_val
      · rfl
      · intro w' hw'
        go_simp
        first | exact rfl | exact ⟨rfl, hw'⟩
      simp only [Act.put, List.setIfInBounds_toArray, List.set_cons_succ, List.set_cons_zero]
      apply wpK_val
      · rfl
      · intro w' hw'
        go_simp
        first | exact rfl | exact ⟨rfl, hw'⟩
      simp only [Act.put, List.setIfInBounds_toArray, List.set_cons_succ, List.set_cons_zero]
      apply wpK_val
      · rfl
      · intro w' hw'
        go_simp
        first | exact rfl | exact ⟨rfl, hw'⟩
      simp only [Act.put, List.setIfInBounds_toArray, List.set_cons_succ, List.set_cons_zero]
      apply wpK_val
      · rfl
      · intro w' hw'
        go_simp
        first | exact rfl | exact ⟨rfl, hw'⟩
      simp only [Act.put, List.setIfInBounds_toArray, List.set_cons_succ, List.set_cons_zero]
      apply wpK_val
      · rfl
      · intro w' hw'
        go_simp
        first | exact rfl | exact ⟨rfl, hw'⟩
      simp only [Act.put, List.setIfInBounds_toArray, List.set_cons_succ, List.set_cons_zero]
      apply wpK_val
      · rfl
      · intro w' hw'
        go_simp
        first | exact rfl | exact ⟨rfl, hw'⟩
      simp only [Act.put, List.setIfInBounds_toArray, List.set_cons_succ, List.set_cons_zero]
      apply wpK_val
      · rfl
      · intro w' hw'
        have hcell := (z28.out.below hw' z28.out.lt).cell 0
        go_simp
        first | exact rfl | exact ⟨rfl, hw'⟩
      simp only [Act.put, List.setIfInBounds_toArray, List.set_cons_succ, List.set_cons_zero]
      apply wpK_val
      · rfl
      · intro w' hw'
        go_simp
        first | exact rfl | exact ⟨rfl, hw'⟩
      simp only [Act.put, List.setIfInBounds_toArray, List.set_cons_succ, List.set_cons_zero]
      apply wpK_val
      · rfl
      · intro w' hw'
        go_simp
        first | exact rfl | exact ⟨rfl, hw'⟩
      simp only [Act.put, List.setIfInBounds_toArray, List.set_cons_succ, List.set_cons_zero]
      apply wpK_val
      · rfl
      · intro w' hw'
        go_simp
        first | exact rfl | exact ⟨rfl, hw'⟩
      simp only [Act.put, List.setIfInBounds_toArray, List.set_cons_succ, List.set_cons_zero]
      apply kldA tK
      · rfl
      · rfl
      · exact fun w' hw' => (z18.out.below hw' z18.out.lt).head
      simp only [Act.put, List.setIfInBounds_toArray, List.set_cons_succ, List.set_cons_zero]
      apply wpK_val
      · rfl
      · intro w' hw'
        go_simp
        first | exact rfl | exact ⟨rfl, hw'⟩
      simp only [Act.put, List.setIfInBounds_toArray, List.set_cons_succ, List.set_cons_zero]
      apply wpK_val
      · rfl
      · intro w' hw'
        have hcell := cm_0 (z38.out.below hw' z38.out.lt)
        go_simp
        first | exact rfl | exact ⟨rfl, hw'⟩
      simp only [Act.put, List.setIfInBounds_toArray, List.set_cons_succ, List.set_cons_zero]
      apply kldA tT
      · rfl
      · rfl
      · exact fun w' hw' => (q8.out.below hw' q8.out.lt).head
      simp only [Act.put, List.setIfInBounds_toArray, List.set_cons_succ, List.set_cons_zero]
      apply wpK_val
      · rfl
      · intro w' hw'
        go_simp
        first | exact rfl | exact ⟨rfl, hw'⟩
      simp only [Act.put, List.setIfInBounds_toArray, List.set_cons_succ, List.set_cons_zero]
      apply wpK_val
      · rfl
      · intro w' hw'
        go_simp
        first | exact rfl | exact ⟨rfl, hw'⟩
      simp only [Act.put, List.setIfInBounds_toArray, List.set_cons_succ, List.set_cons_zero]
      apply wpK_val
      · rfl
      · intro w' hw'
        go_simp
        exact (TP.out w' hw').mono fun e w5 h => ⟨h.1, hw'.trans (h.2.mono hw'.size)⟩
      simp only [Act.put, List.setIfInBounds_toArray, List.set_cons_succ, List.set_cons_zero]
      apply wpK_val
      · rfl
      · intro w' hw'
        go_simp
        exact (CO.out w' hw').mono fun e w5 h => ⟨h.1, hw'.trans (h.2.mono hw'.size)⟩
      simp only [Act.put, List.setIfInBounds_toArray, List.set_cons_succ, List.set_cons_zero]
      apply wpK_val
      · rfl
      · intro w' hw'
        go_simp
        first | exact rfl | exact ⟨rfl, hw'⟩
      simp only [Act.put, List.setIfInBounds_toArray, List.set_cons_succ, List.set_cons_zero]
      apply wpK_val
      · rfl
      · intro w' hw'
        go_simp
        first | exact rfl | exact ⟨rfl, hw'⟩
      simp only [Act.put, List.setIfInBounds_toArray, List.set_cons_succ, List.set_cons_zero]
      refine wpK_nil fun w9 h9 => ?_
      have HB9 := hid h9
      clear h9 hN32 hcN NN
      by_cases hn2 : n2 = a
      · have CP := hid (fun (w' : World) (hw' : Below w8.heap.size w8 w') => C.out.check k f (t.tg 1) K.out (c : Nat) A2 P PP.out n2 cap2 _ w' (PA8.out.turn (Turn.of_new (S := fun _ => False) hw') fun _ _ _ h => h) (S1.out.on (b8.out.trans (hw'.mono b8.out.size))))
        subst hn2
        cases hq : chk k (c : Nat) f n2 P (t.tg 1)
        · rw [hq] at CP
          clear hq
          go_upto_region 14 with fail
          refine wp_region_tail (C := fun w' => Below w8.heap.size w8 w') 19 (by kernel_rfl) (by kernel_rfl) (by kernel_rfl) HB9.out.drew ?_
          simp only [List.take_succ_cons, List.take_zero, List.drop_succ_cons, List.drop_zero]
          apply wpK_val
          · rfl
          · intro w' hw'
            go_simp
            first | exact rfl | exact ⟨rfl, hw'⟩
          simp only [Act.put, List.setIfInBounds_toArray, List.set_cons_succ, List.set_cons_zero]
          apply wpK_val
          · rfl
          · intro w' hw'
            have hcell := cm_33 (z38.out.below hw' z38.out.lt)
            go_simp
            first | exact rfl | exact ⟨rfl, hw'⟩
          simp only [Act.put, List.setIfInBounds_toArray, List.set_cons_succ, List.set_cons_zero]
          apply wpK_val
          · rfl
          · intro w' hw'
            go_simp
            first | exact rfl | exact ⟨rfl, hw'⟩
          simp only [Act.put, List.setIfInBounds_toArray, List.set_cons_succ, List.set_cons_zero]
          apply wpK_val
          · rfl
          · intro w' hw'
            go_simp
            first | exact rfl | exact ⟨rfl, hw'⟩
          simp only [Act.put, List.setIfInBounds_toArray, List.set_cons_succ, List.set_cons_zero]
          apply wpK_val
          · rfl
          · intro w' hw'
            have hcell := (z28.out.below hw' z28.out.lt).cell 0
            go_simp
            first | exact rfl | exact ⟨rfl, hw'⟩
          simp only [Act.put, List.setIfInBounds_toArray, List.set_cons_succ, List.set_cons_zero]
          apply wpK_val
          · rfl
          · intro w' hw'
            have h1 : ((n2 : Int) != (n2 : Int)) = false := by simp
            go_simp
            first | exact rfl | exact ⟨rfl, hw'⟩
          simp only [Act.put, List.setIfInBounds_toArray, List.set_cons_succ, List.set_cons_zero]
          apply wpK_val
          · rfl
          · intro w' hw'
            go_simp
            first | exact rfl | exact ⟨rfl, hw'⟩
          simp only [Act.put, List.setIfInBounds_toArray, List.set_cons_succ, List.set_cons_zero]
          apply kldA tK
          · rfl
          · rfl
          · exact fun w' hw' => (z18.out.below hw' z18.out.lt).head
          simp only [Act.put, List.setIfInBounds_toArray, List.set_cons_succ, List.set_cons_zero]
          apply wpK_val
          · rfl
          · intro w' hw'
            go_simp
            first | exact rfl | exact ⟨rfl, hw'⟩
          simp only [Act.put, List.setIfInBounds_toArray, List.set_cons_succ, List.set_cons_zero]
          apply wpK_val
          · rfl
          · intro w' hw'
            have hcell := cm_0 (z38.out.below hw' z38.out.lt)
            go_simp
            first | exact rfl | exact ⟨rfl, hw'⟩
          simp only [Act.put, List.setIfInBounds_toArray, List.set_cons_succ, List.set_cons_zero]
          apply wpK_val
          · rfl
          · intro w' hw'
            go_simp
            first | exact rfl | exact ⟨rfl, hw'⟩
          simp only [Act.put, List.setIfInBounds_toArray, List.set_cons_succ, List.set_cons_zero]
          apply kldA tT
          · rfl
          · rfl
          · exact fun w' hw' => cm_tag (z38.out.below hw' z38.out.lt)
          simp only [Act.put, List.setIfInBounds_toArray, List.set_cons_succ, List.set_cons_zero]
          apply wpK_val
          · rfl
          · intro w' hw'
            go_simp
            first | exact rfl | exact ⟨rfl, hw'⟩
          simp only [Act.put, List.setIfInBounds_toArray, List.set_cons_succ, List.set_cons_zero]
          apply wpK_val
          · rfl
          · intro w' hw'
            have hcell := cm_33 (z38.out.below hw' z38.out.lt)
            go_simp
            first | exact rfl | exact ⟨rfl, hw'⟩
          simp only [Act.put, List.setIfInBounds_toArray, List.set_cons_succ, List.set_cons_zero]
          apply wpK_val
          · rfl
          · intro w' hw'
            go_simp
            first | exact rfl | exact ⟨rfl, hw'⟩
          simp only [Act.put, List.setIfInBounds_toArray, List.set_cons_succ, List.set_cons_zero]
          apply wpK_val
          · rfl
          · intro w' hw'
            go_simp
            exact (TP.out w' hw').mono fun e w5 h => ⟨h.1, hw'.trans (h.2.mono hw'.size)⟩
          simp only [Act.put, List.setIfInBounds_toArray, List.set_cons_succ, List.set_cons_zero]
          apply wpK_val
          · rfl
          · intro w' hw'
            go_simp
            exact (CP.out w' hw').mono fun e w5 h => ⟨h.1, hw'.trans (h.2.mono hw'.size)⟩
          simp only [Act.put, List.setIfInBounds_toArray, List.set_cons_succ, List.set_cons_zero]
          apply wpK_val
          · rfl
          · intro w' hw'
            go_simp
            first | exact rfl | exact ⟨rfl, hw'⟩
          simp only [Act.put, List.setIfInBounds_toArray, List.set_cons_succ, List.set_cons_zero]
          apply wpK_val
          · rfl
          · intro w' hw'
            go_simp
            first | exact rfl | exact ⟨rfl, hw'⟩
          simp only [Act.put, List.setIfInBounds_toArray, List.set_cons_succ, List.set_cons_zero]
          refine wpK_nil fun w10 h10 => ?_
          have HX := hid h10
          clear h10 HB9
          go_wp2_with fail
          refine (WE.out w10 (b8.out.trans (HX.out.mono b8.out.size))).mono ?_
          rintro e w9 ⟨rfl, h9⟩
          have db := hid (hb.out.trans (((b8.out.trans (HX.out.mono b8.out.size)).trans (h9.mono (b8.out.trans (HX.out.mono b8.out.size)).size)).mono hb.out.size))
          clear h9
          go_wp2_with fail
          go_ret
          exact ⟨rfl, db.out⟩
        · rw [hq] at CP
          have hcf : chkF t.k P (t.tg 1) t.h 0 (2 ^ t.h + c) f = true := by rw [TK.out, TH.out, ← chk_yes ⟨HO.out, by omega, by rw [Int.toNat_natCast, ← TN.out]; omega⟩]; exact hq
          have PV := hid (fun i (hi : i < n2) (hab : ∀ q, i + 1 ≤ q → q < n2 → eqA 64 (P q) (prf t c q) = true) => show eqA 32 (ndT k (pth n2 c i) (P i)) (ndT k (pth n2 c i) (prf t c i)) = true by have := prove_at (by rw [TH.out]; exact ha1) hc hcf (i := i) (by rw [TH.out]; exact hi) fun q h1 h2 => hab q h1 (by rw [← TH.out]; exact h2); rwa [TK.out, TH.out] at this)
          have PT := hid (fun hab => prove_tag (by rw [TH.out]; exact ha1) hc hcf hab)
          clear hq hcf
          have ND := hid (fun (i : Nat) => fun (s : Nat → Nat) (hs : ∀ j, s j < 256) (w' : World) (hw' : Below w8.heap.size w8 w') => (show Calls Tryd.prog 27 #[.agg (ar 32 k), .int .i64 (pth n2 c i : Nat), .agg (ar 64 s)] w' fun e w2 => e = .returned (.agg (ar 32 (ndT k (pth n2 c i) s))) ∧ Below w'.heap.size w' w2 from T.out k K.out (pth n2 c i : Nat) (by have := pth_lt (h := n2) (i := i) (show c < 2 ^ n2 by rw [← TN.out]; exact hc); have := pow32 ha5; omega) s hs w' (S1.out.on (b8.out.trans (hw'.mono b8.out.size)))))
          obtain ⟨b2, o2, rfl, _, _, _⟩ := PA8.out.some (lsF_get (show 0 < n2 by omega))
          obtain ⟨b6, o6, rfl, _, _, _⟩ := OW8.out.some (lsF_get (show 0 < n2 by omega))
          go_upto_region 14 with fail
          refine wp_region_tail (C := fun w' => Below w8.heap.size w8 w') 19 (by kernel_rfl) (by kernel_rfl) (by kernel_rfl) HB9.out.drew ?_
          simp only [List.take_succ_cons, List.take_zero, List.drop_succ_cons, List.drop_zero]
          apply wpK_val
          · rfl
          · intro w' hw'
            go_simp
            first | exact rfl | exact ⟨rfl, hw'⟩
          simp only [Act.put, List.setIfInBounds_toArray, List.set_cons_succ, List.set_cons_zero]
          apply wpK_val
          · rfl
          · intro w' hw'
            have hcell := cm_33 (z38.out.below hw' z38.out.lt)
            go_simp
            first | exact rfl | exact ⟨rfl, hw'⟩
          simp only [Act.put, List.setIfInBounds_toArray, List.set_cons_succ, List.set_cons_zero]
          apply wpK_val
          · rfl
          · intro w' hw'
            go_simp
            first | exact rfl | exact ⟨rfl, hw'⟩
          simp only [Act.put, List.setIfInBounds_toArray, List.set_cons_succ, List.set_cons_zero]
          apply wpK_val
          · rfl
          · intro w' hw'
            go_simp
            first | exact rfl | exact ⟨rfl, hw'⟩
          simp only [Act.put, List.setIfInBounds_toArray, List.set_cons_succ, List.set_cons_zero]
          apply wpK_val
          · rfl
          · intro w' hw'
            have hcell := (z28.out.below hw' z28.out.lt).cell 0
            go_simp
            first | exact rfl | exact ⟨rfl, hw'⟩
          simp only [Act.put, List.setIfInBounds_toArray, List.set_cons_succ, List.set_cons_zero]
          apply wpK_val
          · rfl
          · intro w' hw'
            have h1 : ((n2 : Int) != (n2 : Int)) = false := by simp
            go_simp
            first | exact rfl | exact ⟨rfl, hw'⟩
          simp only [Act.put, List.setIfInBounds_toArray, List.set_cons_succ, List.set_cons_zero]
          apply wpK_val
          · rfl
          · intro w' hw'
            go_simp
            first | exact rfl | exact ⟨rfl, hw'⟩
          simp only [Act.put, List.setIfInBounds_toArray, List.set_cons_succ, List.set_cons_zero]
          apply kldA tK
          · rfl
          · rfl
          · exact fun w' hw' => (z18.out.below hw' z18.out.lt).head
          simp only [Act.put, List.setIfInBounds_toArray, List.set_cons_succ, List.set_cons_zero]
          apply wpK_val
          · rfl
          · intro w' hw'
            go_simp
            first | exact rfl | exact ⟨rfl, hw'⟩
          simp only [Act.put, List.setIfInBounds_toArray, List.set_cons_succ, List.set_cons_zero]
          apply wpK_val
          · rfl
          · intro w' hw'
            have hcell := cm_0 (z38.out.below hw' z38.out.lt)
            go_simp
            first | exact rfl | exact ⟨rfl, hw'⟩
          simp only [Act.put, List.setIfInBounds_toArray, List.set_cons_succ, List.set_cons_zero]
          apply wpK_val
          · rfl
          · intro w' hw'
            go_simp
            first | exact rfl | exact ⟨rfl, hw'⟩
          simp only [Act.put, List.setIfInBounds_toArray, List.set_cons_succ, List.set_cons_zero]
          apply kldA tT
          · rfl
          · rfl
          · exact fun w' hw' => cm_tag (z38.out.below hw' z38.out.lt)
          simp only [Act.put, List.setIfInBounds_toArray, List.set_cons_succ, List.set_cons_zero]
          apply wpK_val
          · rfl
          · intro w' hw'
            go_simp
            first | exact rfl | exact ⟨rfl, hw'⟩
          simp only [Act.put, List.setIfInBounds_toArray, List.set_cons_succ, List.set_cons_zero]
          apply wpK_val
          · rfl
          · intro w' hw'
            have hcell := cm_33 (z38.out.below hw' z38.out.lt)
            go_simp
            first | exact rfl | exact ⟨rfl, hw'⟩
          simp only [Act.put, List.setIfInBounds_toArray, List.set_cons_succ, List.set_cons_zero]
          apply wpK_val
          · rfl
          · intro w' hw'
            go_simp
            first | exact rfl | exact ⟨rfl, hw'⟩
          simp only [Act.put, List.setIfInBounds_toArray, List.set_cons_succ, List.set_cons_zero]
          apply wpK_val
          · rfl
          · intro w' hw'
            go_simp
            exact (TP.out w' hw').mono fun e w5 h => ⟨h.1, hw'.trans (h.2.mono hw'.size)⟩
          simp only [Act.put, List.setIfInBounds_toArray, List.set_cons_succ, List.set_cons_zero]
          apply wpK_val
          · rfl
          · intro w' hw'
            go_simp
            exact (CP.out w' hw').mono fun e w5 h => ⟨h.1, hw'.trans (h.2.mono hw'.size)⟩
          simp only [Act.put, List.setIfInBounds_toArray, List.set_cons_succ, List.set_cons_zero]
          apply wpK_val
          · rfl
          · intro w' hw'
            go_simp
            first | exact rfl | exact ⟨rfl, hw'⟩
          simp only [Act.put, List.setIfInBounds_toArray, List.set_cons_succ, List.set_cons_zero]
          apply wpK_val
          · rfl
          · intro w' hw'
            go_simp
            first | exact rfl | exact ⟨rfl, hw'⟩
          simp only [Act.put, List.setIfInBounds_toArray, List.set_cons_succ, List.set_cons_zero]
          refine wpK_nil fun w10 h10 => ?_
          have HX := hid h10
          have v2 : w10.cell? ⟨w.heap.size + 1, 0, none⟩ = some (.int .i64 (n2 : Nat)) := (z28.out.below HX.out z28.out.lt).cell 0
          clear h10 HB9 TP CO CP OKC
          go_wp2_with fail
          go_loopw [15] (fun uu wr => ∃ i : Nat, uu = .int .i64 ((i : Int) - 1) ∧ i ≤ n2 ∧ Hid (∀ q, i ≤ q → q < n2 → eqA 64 (P q) (prf t c q) = true) ∧ Hid (Below w8.heap.size w8 wr)) (fun uu _ => (intOf uu + 1).toNat)
          case atStart => exact ⟨n2, by go_num, Nat.le_refl _, hid (fun q h1 h2 => absurd h1 (by omega)), HX⟩
          case round =>
            obtain ⟨i, rfl, hi, HAB, HB⟩ := hrel
            cases i with
            | zero =>
              have t1 : ¬ (0 : Int) ≤ ((0 : Nat) : Int) - 1 := by omega
              have t2 : decide ((0 : Int) ≤ ((0 : Nat) : Int) - 1) = false := by decide
              have ET := hid (show eqA 32 f (t.L c) = true from PT.out fun q hq => HAB.out q (Nat.zero_le _) (by rw [← TH.out]; exact hq))
              go_wp2_with (first | ((with_reducible apply ldAm tT); rfl; exact cm_tag (z38.out.below HB.out z38.out.lt)) | ((with_reducible apply ldAm tT); rfl; exact (q8.out.below HB.out q8.out.lt).head) | ((with_reducible apply weqAq true uT eqgT); rfl; rfl; rfl; exact ET.out))
              refine (WE.out wr (b8.out.trans (HB.out.mono b8.out.size))).mono ?_
              rintro e w9 ⟨rfl, h9⟩
              have db := hid (hb.out.trans (((b8.out.trans (HB.out.mono b8.out.size)).trans (h9.mono (b8.out.trans (HB.out.mono b8.out.size)).size)).mono hb.out.size))
              clear h9
              go_wp2_with fail
              go_ret
              exact ⟨rfl, db.out⟩
            | succ i =>
              rw [show (((i + 1 : Nat) : Int) - 1) = (i : Int) by omega]
              have hia : i < n2 := by omega
              have t1 : (0 : Int) ≤ (i : Int) := by omega
              have RP := hid (fun (w' : World) (hw' : Below w8.heap.size w8 w') => show w'.rangeAt b2 (o2 + i * 64) (ar 64 (P i)).toList by obtain ⟨b, o, e, _, _, hr⟩ := (PA8.out.turn (Turn.of_new (S := fun _ => False) hw') fun _ _ _ h => h).some (lsF_get hia); cases e; exact hr)
              have RO := hid (fun (w' : World) (hw' : Below w8.heap.size w8 w') => show w'.rangeAt b6 (o6 + i * 64) (ar 64 (prf t c i)).toList by obtain ⟨b, o, e, _, _, hr⟩ := (OW8.out.turn (Turn.of_new (S := fun _ => False) hw') fun _ _ _ h => h).some (lsF_get hia); cases e; exact hr)
              by_cases hal : eqA 64 (P i) (prf t c i) = true
              · have AL := hid hal
                have NEXT := hid (show ∀ q, i ≤ q → q < n2 → eqA 64 (P q) (prf t c q) = true from fun q h1 h2 => (Nat.eq_or_lt_of_le h1).elim (fun e => e ▸ AL.out) fun e => HAB.out q e h2)
                clear hal
                go_upto_region 19 with fail
                refine wp_region_tail (C := fun w' => Below w8.heap.size w8 w') 10 (by kernel_rfl) (by kernel_rfl) (by kernel_rfl) HB.out.drew ?_
                simp only [List.take_succ_cons, List.take_zero, List.drop_succ_cons, List.drop_zero]
                apply wpK_val
                · rfl
                · intro w' hw'
                  go_simp
                  first | exact rfl | exact ⟨rfl, hw'⟩
                simp only [Act.put, List.setIfInBounds_toArray, List.set_cons_succ, List.set_cons_zero]
                apply wpK_val
                · rfl
                · intro w' hw'
                  have hcell := cm_33 (z38.out.below hw' z38.out.lt)
                  go_simp
                  first | exact rfl | exact ⟨rfl, hw'⟩
                simp only [Act.put, List.setIfInBounds_toArray, List.set_cons_succ, List.set_cons_zero]
                apply wpK_val
                · rfl
                · intro w' hw'
                  go_simp
                  first | exact rfl | exact ⟨rfl, hw'⟩
                simp only [Act.put, List.setIfInBounds_toArray, List.set_cons_succ, List.set_cons_zero]
                apply wpK_val
                · rfl
                · intro w' hw'
                  have h1 : i < n2 := hia
                  go_simp
                  first | exact rfl | exact ⟨rfl, hw'⟩
                simp only [Act.put, List.setIfInBounds_toArray, List.set_cons_succ, List.set_cons_zero]
                apply kldA tS
                · rfl
                · rfl
                · exact fun w' hw' => RP.out w' hw'
                simp only [Act.put, List.setIfInBounds_toArray, List.set_cons_succ, List.set_cons_zero]
                apply wpK_val
                · rfl
                · intro w' hw'
                  go_simp
                  first | exact rfl | exact ⟨rfl, hw'⟩
                simp only [Act.put, List.setIfInBounds_toArray, List.set_cons_succ, List.set_cons_zero]
                apply wpK_val
                · rfl
                · intro w' hw'
                  go_simp
                  first | exact rfl | exact ⟨rfl, hw'⟩
                simp only [Act.put, List.setIfInBounds_toArray, List.set_cons_succ, List.set_cons_zero]
                apply wpK_val
                · rfl
                · intro w' hw'
                  have h1 : i < n2 := hia
                  go_simp
                  first | exact rfl | exact ⟨rfl, hw'⟩
                simp only [Act.put, List.setIfInBounds_toArray, List.set_cons_succ, List.set_cons_zero]
                apply kldA tS
                · rfl
                · rfl
                · exact fun w' hw' => RO.out w' hw'
                simp only [Act.put, List.setIfInBounds_toArray, List.set_cons_succ, List.set_cons_zero]
                apply kneU false uS eqgS
                · rfl
                · rfl
                · rfl
                · exact (by rw [AL.out]; rfl)
                simp only [Act.put, List.setIfInBounds_toArray, List.set_cons_succ, List.set_cons_zero]
                refine wpK_nil fun w11 h11 => ?_
                have H11 := hid h11
                clear h11
                go_wp2_with fail
                go_roundw
                case rel => exact ⟨i, by go_num, by omega, NEXT, H11⟩
                case measure => simp [intOf] <;> omega
              · have AL := hid (show eqA 64 (P i) (prf t c i) = false from Bool.eq_false_iff.2 hal)
                clear hal
                have PV1 := hid (PV.out i hia fun q h1 h2 => HAB.out q h1 h2)
                go_upto_region 19 with fail
                refine wp_region_tail (C := fun w' => Below w8.heap.size w8 w') 10 (by kernel_rfl) (by kernel_rfl) (by kernel_rfl) HB.out.drew ?_
                simp only [List.take_succ_cons, List.take_zero, List.drop_succ_cons, List.drop_zero]
                apply wpK_val
                · rfl
                · intro w' hw'
                  go_simp
                  first | exact rfl | exact ⟨rfl, hw'⟩
                simp only [Act.put, List.setIfInBounds_toArray, List.set_cons_succ, List.set_cons_zero]
                apply wpK_val
                · rfl
                · intro w' hw'
                  have hcell := cm_33 (z38.out.below hw' z38.out.lt)
                  go_simp
                  first | exact rfl | exact ⟨rfl, hw'⟩
                simp only [Act.put, List.setIfInBounds_toArray, List.set_cons_succ, List.set_cons_zero]
                apply wpK_val
                · rfl
                · intro w' hw'
                  go_simp
                  first | exact rfl | exact ⟨rfl, hw'⟩
                simp only [Act.put, List.setIfInBounds_toArray, List.set_cons_succ, List.set_cons_zero]
                apply wpK_val
                · rfl
                · intro w' hw'
                  have h1 : i < n2 := hia
                  go_simp
                  first | exact rfl | exact ⟨rfl, hw'⟩
                simp only [Act.put, List.setIfInBounds_toArray, List.set_cons_succ, List.set_cons_zero]
                apply kldA tS
                · rfl
                · rfl
                · exact fun w' hw' => RP.out w' hw'
                simp only [Act.put, List.setIfInBounds_toArray, List.set_cons_succ, List.set_cons_zero]
                apply wpK_val
                · rfl
                · intro w' hw'
                  go_simp
                  first | exact rfl | exact ⟨rfl, hw'⟩
                simp only [Act.put, List.setIfInBounds_toArray, List.set_cons_succ, List.set_cons_zero]
                apply wpK_val
                · rfl
                · intro w' hw'
                  go_simp
                  first | exact rfl | exact ⟨rfl, hw'⟩
                simp only [Act.put, List.setIfInBounds_toArray, List.set_cons_succ, List.set_cons_zero]
                apply wpK_val
                · rfl
                · intro w' hw'
                  have h1 : i < n2 := hia
                  go_simp
                  first | exact rfl | exact ⟨rfl, hw'⟩
                simp only [Act.put, List.setIfInBounds_toArray, List.set_cons_succ, List.set_cons_zero]
                apply kldA tS
                · rfl
                · rfl
                · exact fun w' hw' => RO.out w' hw'
                simp only [Act.put, List.setIfInBounds_toArray, List.set_cons_succ, List.set_cons_zero]
                apply kneU true uS eqgS
                · rfl
                · rfl
                · rfl
                · exact (by rw [AL.out]; rfl)
                simp only [Act.put, List.setIfInBounds_toArray, List.set_cons_succ, List.set_cons_zero]
                refine wpK_nil fun w11 h11 => ?_
                have H11 := hid h11
                clear h11
                go_upto_region 20 with fail
                refine wp_region_tail (C := fun w' => Below w8.heap.size w8 w') 25 (by kernel_rfl) (by kernel_rfl) (by kernel_rfl) H11.out.drew ?_
                simp only [List.take_succ_cons, List.take_zero, List.drop_succ_cons, List.drop_zero]
                apply kldA tK
                · rfl
                · rfl
                · exact fun w' hw' => (z18.out.below hw' z18.out.lt).head
                simp only [Act.put, List.setIfInBounds_toArray, List.set_cons_succ, List.set_cons_zero]
                apply wpK_val
                · rfl
                · intro w' hw'
                  go_simp
                  first | exact rfl | exact ⟨rfl, hw'⟩
                simp only [Act.put, List.setIfInBounds_toArray, List.set_cons_succ, List.set_cons_zero]
                apply wpK_val
                · rfl
                · intro w' hw'
                  go_simp
                  first | exact rfl | exact ⟨rfl, hw'⟩
                simp only [Act.put, List.setIfInBounds_toArray, List.set_cons_succ, List.set_cons_zero]
                apply wpK_val
                · rfl
                · intro w' hw'
                  have h1 : i < n2 := hia
                  go_simp
                  first | exact rfl | exact ⟨rfl, hw'⟩
                simp only [Act.put, List.setIfInBounds_toArray, List.set_cons_succ, List.set_cons_zero]
                apply wpK_val
                · rfl
                · intro w' hw'
                  have hcell := (hw'.cell (p := ⟨g9, i, none⟩) g9l.out).trans (P8.out i hia)
                  go_simp
                  first | exact rfl | exact ⟨rfl, hw'⟩
                simp only [Act.put, List.setIfInBounds_toArray, List.set_cons_succ, List.set_cons_zero]
                apply wpK_val
                · rfl
                · intro w' hw'
                  go_simp
                  first | exact rfl | exact ⟨rfl, hw'⟩
                simp only [Act.put, List.setIfInBounds_toArray, List.set_cons_succ, List.set_cons_zero]
                apply wpK_val
                · rfl
                · intro w' hw'
                  have hcell := cm_33 (z38.out.below hw' z38.out.lt)
                  go_simp
                  first | exact rfl | exact ⟨rfl, hw'⟩
                simp only [Act.put, List.setIfInBounds_toArray, List.set_cons_succ, List.set_cons_zero]
                apply wpK_val
                · rfl
                · intro w' hw'
                  go_simp
                  first | exact rfl | exact ⟨rfl, hw'⟩
                simp only [Act.put, List.setIfInBounds_toArray, List.set_cons_succ, List.set_cons_zero]
                apply wpK_val
                · rfl
                · intro w' hw'
                  have h1 : i < n2 := hia
                  go_simp
                  first | exact rfl | exact ⟨rfl, hw'⟩
                simp only [Act.put, List.setIfInBounds_toArray, List.set_cons_succ, List.set_cons_zero]
                apply kldA tS
                · rfl
                · rfl
                · exact fun w' hw' => RP.out w' hw'
                simp only [Act.put, List.setIfInBounds_toArray, List.set_cons_succ, List.set_cons_zero]
                apply wpK_val
                · rfl
                · intro w' hw'
                  go_simp
                  exact (ND.out i (P i) (PP.out i) w' hw').mono fun e w5 h => ⟨h.1, hw'.trans (h.2.mono hw'.size)⟩
                simp only [Act.put, List.setIfInBounds_toArray, List.set_cons_succ, List.set_cons_zero]
                apply kldA tK
                · rfl
                · rfl
                · exact fun w' hw' => (z18.out.below hw' z18.out.lt).head
                simp only [Act.put, List.setIfInBounds_toArray, List.set_cons_succ, List.set_cons_zero]
                apply wpK_val
                · rfl
                · intro w' hw'
                  go_simp
                  first | exact rfl | exact ⟨rfl, hw'⟩
                simp only [Act.put, List.setIfInBounds_toArray, List.set_cons_succ, List.set_cons_zero]
                apply wpK_val
                · rfl
                · intro w' hw'
                  go_simp
                  first | exact rfl | exact ⟨rfl, hw'⟩
                simp only [Act.put, List.setIfInBounds_toArray, List.set_cons_succ, List.set_cons_zero]
                apply wpK_val
                · rfl
                · intro w' hw'
                  have h1 : i < n2 := hia
                  go_simp
                  first | exact rfl | exact ⟨rfl, hw'⟩
                simp only [Act.put, List.setIfInBounds_toArray, List.set_cons_succ, List.set_cons_zero]
                apply wpK_val
                · rfl
                · intro w' hw'
                  have hcell := (hw'.cell (p := ⟨g9, i, none⟩) g9l.out).trans (P8.out i hia)
                  go_simp
                  first | exact rfl | exact ⟨rfl, hw'⟩
                simp only [Act.put, List.setIfInBounds_toArray, List.set_cons_succ, List.set_cons_zero]
                apply wpK_val
                · rfl
                · intro w' hw'
                  go_simp
                  first | exact rfl | exact ⟨rfl, hw'⟩
                simp only [Act.put, List.setIfInBounds_toArray, List.set_cons_succ, List.set_cons_zero]
                apply wpK_val
                · rfl
                · intro w' hw'
                  go_simp
                  first | exact rfl | exact ⟨rfl, hw'⟩
                simp only [Act.put, List.setIfInBounds_toArray, List.set_cons_succ, List.set_cons_zero]
                apply wpK_val
                · rfl
                · intro w' hw'
                  have h1 : i < n2 := hia
                  go_simp
                  first | exact rfl | exact ⟨rfl, hw'⟩
                simp only [Act.put, List.setIfInBounds_toArray, List.set_cons_succ, List.set_cons_zero]
                apply kldA tS
                · rfl
                · rfl
                · exact fun w' hw' => RO.out w' hw'
                simp only [Act.put, List.setIfInBounds_toArray, List.set_cons_succ, List.set_cons_zero]
                apply wpK_val
                · rfl
                · intro w' hw'
                  go_simp
                  exact (ND.out i (prf t c i) (PRF.out i) w' hw').mono fun e w5 h => ⟨h.1, hw'.trans (h.2.mono hw'.size)⟩
                simp only [Act.put, List.setIfInBounds_toArray, List.set_cons_succ, List.set_cons_zero]
                apply keqU true uT eqgT
                · rfl
                · rfl
                · rfl
                · exact PV1.out
                simp only [Act.put, List.setIfInBounds_toArray, List.set_cons_succ, List.set_cons_zero]
                apply wpK_val
                · rfl
                · intro w' hw'
                  go_simp
                  first | exact rfl | exact ⟨rfl, hw'⟩
                simp only [Act.put, List.setIfInBounds_toArray, List.set_cons_succ, List.set_cons_zero]
                apply wpK_val
                · rfl
                · intro w' hw'
                  go_simp
                  exact (WE.out w' (b8.out.trans (hw'.mono b8.out.size))).mono fun e w5 h => ⟨h.1, hw'.trans (h.2.mono hw'.size)⟩
                simp only [Act.put, List.setIfInBounds_toArray, List.set_cons_succ, List.set_cons_zero]
                apply wpK_val
                · rfl
                · intro w' hw'
                  go_simp
                  first | exact rfl | exact ⟨rfl, hw'⟩
                simp only [Act.put, List.setIfInBounds_toArray, List.set_cons_succ, List.set_cons_zero]
                refine wpK_nil fun w12 h12 => ?_
                have db := hid (hb.out.trans ((b8.out.trans (h12.mono b8.out.size)).mono hb.out.size))
                clear h12
                go_wp2_with fail
                go_ret
                exact ⟨rfl, db.out⟩
      · have NE := hid (show ((n2 : Int) != (a : Int)) = true by rw [bne_iff_ne]; omega)
        clear hn2
        go_upto_region 14 with fail
        refine wp_region_tail (C := fun w' => Below w8.heap.size w8 w') 19 (by kernel_rfl) (by kernel_rfl) (by kernel_rfl) HB9.out.drew ?_
        simp only [List.take_succ_cons, List.take_zero, List.drop_succ_cons, List.drop_zero]
        apply wpK_val
        · rfl
        · intro w' hw'
          go_simp
          first | exact rfl | exact ⟨rfl, hw'⟩
        simp only [Act.put, List.setIfInBounds_toArray, List.set_cons_succ, List.set_cons_zero]
        apply wpK_val
        · rfl
        · intro w' hw'
          have hcell := cm_33 (z38.out.below hw' z38.out.lt)
          go_simp
          first | exact rfl | exact ⟨rfl, hw'⟩
        simp only [Act.put, List.setIfInBounds_toArray, List.set_cons_succ, List.set_cons_zero]
        apply wpK_val
        · rfl
        · intro w' hw'
          go_simp
          first | exact rfl | exact ⟨rfl, hw'⟩
        simp only [Act.put, List.setIfInBounds_toArray, List.set_cons_succ, List.set_cons_zero]
        apply wpK_val
        · rfl
        · intro w' hw'
          go_simp
          first | exact rfl | exact ⟨rfl, hw'⟩
        simp only [Act.put, List.setIfInBounds_toArray, List.set_cons_succ, List.set_cons_zero]
        apply wpK_val
        · rfl
        · intro w' hw'
          have hcell := (z28.out.below hw' z28.out.lt).cell 0
          go_simp
          first | exact rfl | exact ⟨rfl, hw'⟩
        simp only [Act.put, List.setIfInBounds_toArray, List.set_cons_succ, List.set_cons_zero]
        apply wpK_val
        · rfl
        · intro w' hw'
          have h1 : ((n2 : Int) != (a : Int)) = true := NE.out
          go_simp
          first | exact rfl | exact ⟨rfl, hw'⟩
        simp only [Act.put, List.setIfInBounds_toArray, List.set_cons_succ, List.set_cons_zero]
        apply wpK_val
        · rfl
        · intro w' hw'
          go_simp
          first | exact rfl | exact ⟨rfl, hw'⟩
        simp only [Act.put, List.setIfInBounds_toArray, List.set_cons_succ, List.set_cons_zero]
        apply wpK_not
        · rfl
        simp only [Act.put, List.setIfInBounds_toArray, List.set_cons_succ, List.set_cons_zero]
        apply wpK_not
        · rfl
        simp only [Act.put, List.setIfInBounds_toArray, List.set_cons_succ, List.set_cons_zero]
        apply wpK_not
        · rfl
        simp only [Act.put, List.setIfInBounds_toArray, List.set_cons_succ, List.set_cons_zero]
        apply wpK_not
        · rfl
        simp only [Act.put, List.setIfInBounds_toArray, List.set_cons_succ, List.set_cons_zero]
        apply wpK_not
        · rfl
        simp only [Act.put, List.setIfInBounds_toArray, List.set_cons_succ, List.set_cons_zero]
        apply wpK_not
        · rfl
        simp only [Act.put, List.setIfInBounds_toArray, List.set_cons_succ, List.set_cons_zero]
        apply wpK_not
        · rfl
        simp only [Act.put, List.setIfInBounds_toArray, List.set_cons_succ, List.set_cons_zero]
        apply wpK_not
        · rfl
        simp only [Act.put, List.setIfInBounds_toArray, List.set_cons_succ, List.set_cons_zero]
        apply wpK_not
        · rfl
        simp only [Act.put, List.setIfInBounds_toArray, List.set_cons_succ, List.set_cons_zero]
        apply wpK_not
        · rfl
        simp only [Act.put, List.setIfInBounds_toArray, List.set_cons_succ, List.set_cons_zero]
        apply wpK_not
        · rfl
        simp only [Act.put, List.setIfInBounds_toArray, List.set_cons_succ, List.set_cons_zero]
        apply wpK_val
        · rfl
        · intro w' hw'
          go_simp
          first | exact rfl | exact ⟨rfl, hw'⟩
        simp only [Act.put, List.setIfInBounds_toArray, List.set_cons_succ, List.set_cons_zero]
        refine wpK_nil fun w10 h10 => ?_
        have HX := hid h10
        clear h10 HB9
        go_wp2_with fail
        refine (WE.out w10 (b8.out.trans (HX.out.mono b8.out.size))).mono ?_
        rintro e w9 ⟨rfl, h9⟩
        have db := hid (hb.out.trans (((b8.out.trans (HX.out.mono b8.out.size)).trans (h9.mono (b8.out.trans (HX.out.mono b8.out.size)).size)).mono hb.out.size))
        clear h9
        go_wp2_with fail
        go_ret
        exact ⟨rfl, db.out⟩
    · go_wp2_with fail
      refine (D.out.proofNo leaf hin Ra4.out (S1.out.on b4.out)).mono ?_
      rintro e w5 ⟨rfl, h5⟩
      have b5 := hid (b4.out.trans (h5.mono b4.out.size))
      clear h5 Ra4 z14 z24 z34 b4 v1
      go_wp2_with fail
      refine (WE.out w5 (b5.out)).mono ?_
      rintro e w9 ⟨rfl, h9⟩
      have db := hid (hb.out.trans (((b5.out).trans (h9.mono (b5.out).size)).mono hb.out.size))
      clear h9
      go_wp2_with fail
      go_ret
      exact ⟨rfl, db.out⟩
end TrM
end Go.Proofs.YtdmnhpgafbcehaaDoor
