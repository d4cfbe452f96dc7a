/-
  TreeApart, over TreeC and TreeD.
  Trees in plain numbers: what another proof that is taken means (the theorem of the stage).
-/
import Derived.Test.YtdmnhpgafbcehaaDoorMrg9
set_option linter.unusedVariables false
set_option linter.unusedSimpArgs false
set_option maxRecDepth 100000
namespace Go.Proofs.YtdmnhpgafbcehaaDoor
open Go.ChangeShapes Go.WideShapes Go.ChangeAt Go.RowKit Go.Deep
attribute [local go_sem] Gives GivesE
namespace TrM
open TgP RwP
set_option maxHeartbeats 1600000 in
set_option maxRecDepth 100000 in
theorem apart_law {repT : RepT} (HC : TreeC repT) (HD : TreeD repT) (k : Nat → Nat) (hk : ∀ i, k i < 256) (h : Int) (A : Option Addr) (F : Nat → Nat → Nat) (hF : ∀ i j, F i j < 256) (n cap : Nat) (leaf : Int) (hl : -9223372036854775808 ≤ leaf ∧ leaf ≤ 9223372036854775807) (f : Nat → Nat) (hf : ∀ i, f i < 256) (vp : Value) (top : Nat → Nat) (w : World) (hA : SliF 32 (fun b => b < w.heap.size) w A n F cap) (hS : Salts w) :
    Calls Tryd.prog 8 #[.agg (ar 32 k), stV h A n cap, .agg (cm leaf f vp top)] w fun e w' => e = .returned (.bool true) ∧ Below w.heap.size w w' := by
  have C := hid HC
  have D := hid HD
  have K := hid hk
  have FF := hid hF
  have TF := hid hf
  have LL := hid hl
  have AA := hid hA
  have SA := hid hS
  have MX := hid hA.max
  have NC := hid hA.cap
  clear HC HD hk hF hf hl hA hS
  go_enter Tryd.func8, Tryd.ntmps8
  go_upto_region 1 with fail
  generalize hw1 : World.alloc (World.alloc (World.alloc w _) _) _ = w1
  have B1 := hid (show Blk w1 w.heap.size 23 (ar 32 k) by rw [← hw1]; exact ((Blk.new _ _ _).alloc _).alloc _)
  have B2 := hid (show Blk w1 (w.heap.size + 1) 26 #[.int .i64 h, .slice A n cap] by rw [← hw1]; exact (Blk.top rfl (by simp)).alloc _)
  have B3 := hid (show Blk w1 (w.heap.size + 1 + 1) 64 (cm leaf f vp top) by rw [← hw1]; exact Blk.top rfl (by simp))
  have hb := hid (show Below w.heap.size w w1 by rw [← hw1]; exact (((Below.refl _ _).alloc (Nat.le_refl _) _).alloc (by simp) _).alloc (by simp; omega) _)
  have A1 := hid (AA.out.turn (Turn.of_new (S := fun _ => False) hb.out) fun _ _ _ h => h)
  have S1 := hid (SA.out.on hb.out)
  clear hw1 AA SA
  have c0 : w1.cell? ⟨w.heap.size + 1, 0, none⟩ = some (.int .i64 h) := B2.out.cell 0
  have WE := hid (fun (w2 : World) (h : Below w1.heap.size w1 w2) => works_any C.out w2 (S1.out.on h))
  by_cases hbig : 5 < h ∧ h ≤ 12
  · have t1 : decide (5 < h) = true := decide_eq_true hbig.1
    have t2 : decide (h ≤ 12) = true := decide_eq_true hbig.2
    have t3 : 5 < h := hbig.1
    have t4 : h ≤ 12 := hbig.2
    clear hbig
    go_wp2_with fail
    refine (WE.out w1 (Below.refl w1.heap.size w1)).mono ?_
    rintro e w9 ⟨rfl, h9⟩
    have db := hid (hb.out.trans (((Below.refl w1.heap.size w1).trans (h9.mono (Below.refl w1.heap.size w1).size)).mono hb.out.size))
    clear h9
    go_wp2_with fail
    go_ret
    exact ⟨rfl, db.out⟩
  obtain ⟨m, hm1, hm2, hm3⟩ := cut_at n 32
  have HZ := hid (show (if (32 : Int) < (n : Int) then (32 : Int) else (n : Int)) = (m : Int) from hm1)
  have MC := hid (Nat.le_trans hm2 NC.out)
  have A2 := hid (SliF.cut A1.out hm2)
  clear hm1 hm2 hm3 A1
  rcases new_cases h m with hno | ⟨a, rfl, ho, hm⟩
  · have NO := hid (fun (w2 : World) (_ : Below w1.heap.size w1 w2) => C.out.newNo k h A m cap hno w2)
    by_cases h12 : 12 < h
    · have t1 : decide (5 < h) = true := decide_eq_true (by omega)
      have t2 : decide (h ≤ 12) = false := decide_eq_false (by omega)
      have t3 : 5 < h := by omega
      have t4 : ¬ h ≤ 12 := by omega
      clear hno h12 hbig
      go_upto_region 3 with fail
      clear t1 t2 t3 t4 c0
      refine wp_region_y [some (.agg (ar 32 k)), some (.pointer (some ⟨w.heap.size + 1, 0, none⟩)), some (.int .i64 h), some (.pointer (some ⟨w.heap.size + 1, 1, none⟩)), some (.slice A n cap), some (.pointer (some ⟨w.heap.size + 1, 1, none⟩)), some (.slice A n cap), some (.int .i64 n), some (.int .i64 m), some (.slice A m cap), some (.tuple #[.pointer none, .int .i64 2]), some (.tuple #[.pointer none, .int .i64 2]), some (.pointer none), some (.int .i64 2), some (.pointer none), some (.int .i64 2)] [] (fun y hy => by cases hy) 16 (by kernel_rfl) (by kernel_rfl) (by kernel_rfl) fun vs => ?_
      simp only [List.take_succ_cons, List.take_zero, List.drop_succ_cons, List.drop_zero]
      refine ⟨.inl ⟨rfl, fun dd w' hd hC hDs => ?_⟩, fun e => ?_⟩
      · exact gE_ldA tK rfl (B1.out.below hC B1.out.lt).head ⟨rfl, hC, Below.refl _ _, trivial⟩
      have e' : vs 0 = _ := e
      rw [e']
      clear e e'
      simp only [Act.put, List.setIfInBounds_toArray, List.set_cons_succ, List.set_cons_zero]
      refine ⟨.inl ⟨rfl, fun dd w' hd hC hDs => ?_⟩, fun e => ?_⟩
      · go_simp
        first | exact ⟨rfl, hC, Below.refl _ _, trivial⟩ | exact ⟨rfl, Below.refl _ _, trivial⟩ | exact ⟨hC, Below.refl _ _, trivial⟩
      have e' : vs 1 = _ := e
      rw [e']
      clear e e'
      simp only [Act.put, List.setIfInBounds_toArray, List.set_cons_succ, List.set_cons_zero]
      refine ⟨.inl ⟨rfl, fun dd w' hd hC hDs => ?_⟩, fun e => ?_⟩
      · have h1 : w'.cell? ⟨w.heap.size + 1, 0, none⟩ = some (.int .i64 h) := (B2.out.below hC B2.out.lt).cell 0
        go_simp
        first | exact ⟨rfl, hC, Below.refl _ _, trivial⟩ | exact ⟨rfl, Below.refl _ _, trivial⟩ | exact ⟨hC, Below.refl _ _, trivial⟩
      have e' : vs 2 = _ := e
      rw [e']
      clear e e'
      simp only [Act.put, List.setIfInBounds_toArray, List.set_cons_succ, List.set_cons_zero]
      refine ⟨.inl ⟨rfl, fun dd w' hd hC hDs => ?_⟩, fun e => ?_⟩
      · go_simp
        first | exact ⟨rfl, hC, Below.refl _ _, trivial⟩ | exact ⟨rfl, Below.refl _ _, trivial⟩ | exact ⟨hC, Below.refl _ _, trivial⟩
      have e' : vs 3 = _ := e
      rw [e']
      clear e e'
      simp only [Act.put, List.setIfInBounds_toArray, List.set_cons_succ, List.set_cons_zero]
      refine ⟨.inl ⟨rfl, fun dd w' hd hC hDs => ?_⟩, fun e => ?_⟩
      · have h1 : w'.cell? ⟨w.heap.size + 1, 1, none⟩ = some (.slice A n cap) := (B2.out.below hC B2.out.lt).cell 1
        go_simp
        first | exact ⟨rfl, hC, Below.refl _ _, trivial⟩ | exact ⟨rfl, Below.refl _ _, trivial⟩ | exact ⟨hC, Below.refl _ _, trivial⟩
      have e' : vs 4 = _ := e
      rw [e']
      clear e e'
      simp only [Act.put, List.setIfInBounds_toArray, List.set_cons_succ, List.set_cons_zero]
      refine ⟨.inl ⟨rfl, fun dd w' hd hC hDs => ?_⟩, fun e => ?_⟩
      · go_simp
        first | exact ⟨rfl, hC, Below.refl _ _, trivial⟩ | exact ⟨rfl, Below.refl _ _, trivial⟩ | exact ⟨hC, Below.refl _ _, trivial⟩
      have e' : vs 5 = _ := e
      rw [e']
      clear e e'
      simp only [Act.put, List.setIfInBounds_toArray, List.set_cons_succ, List.set_cons_zero]
      refine ⟨.inl ⟨rfl, fun dd w' hd hC hDs => ?_⟩, fun e => ?_⟩
      · have h1 : w'.cell? ⟨w.heap.size + 1, 1, none⟩ = some (.slice A n cap) := (B2.out.below hC B2.out.lt).cell 1
        go_simp
        first | exact ⟨rfl, hC, Below.refl _ _, trivial⟩ | exact ⟨rfl, Below.refl _ _, trivial⟩ | exact ⟨hC, Below.refl _ _, trivial⟩
      have e' : vs 6 = _ := e
      rw [e']
      clear e e'
      simp only [Act.put, List.setIfInBounds_toArray, List.set_cons_succ, List.set_cons_zero]
      refine ⟨.inl ⟨rfl, fun dd w' hd hC hDs => ?_⟩, fun e => ?_⟩
      · go_simp
        first | exact ⟨rfl, hC, Below.refl _ _, trivial⟩ | exact ⟨rfl, Below.refl _ _, trivial⟩ | exact ⟨hC, Below.refl _ _, trivial⟩
      have e' : vs 7 = _ := e
      rw [e']
      clear e e'
      simp only [Act.put, List.setIfInBounds_toArray, List.set_cons_succ, List.set_cons_zero]
      refine ⟨.inl ⟨rfl, fun dd w' hd hC hDs => ?_⟩, fun e => ?_⟩
      · have h1 : (if (32 : Int) < (n : Int) then (32 : Int) else (n : Int)) = (m : Int) := HZ.out
        go_simp
        first | exact ⟨rfl, hC, Below.refl _ _, trivial⟩ | exact ⟨rfl, Below.refl _ _, trivial⟩ | exact ⟨hC, Below.refl _ _, trivial⟩
      have e' : vs 8 = _ := e
      rw [e']
      clear e e'
      simp only [Act.put, List.setIfInBounds_toArray, List.set_cons_succ, List.set_cons_zero]
      refine ⟨.inl ⟨rfl, fun dd w' hd hC hDs => ?_⟩, fun e => ?_⟩
      · have h1 : m ≤ cap := MC.out
        have h2 : cap ≤ maxLen := MX.out
        have h3 : n ≤ cap := NC.out
        go_simp
        first | exact ⟨rfl, hC, Below.refl _ _, trivial⟩ | exact ⟨rfl, Below.refl _ _, trivial⟩ | exact ⟨hC, Below.refl _ _, trivial⟩
      have e' : vs 9 = _ := e
      rw [e']
      clear e e'
      simp only [Act.put, List.setIfInBounds_toArray, List.set_cons_succ, List.set_cons_zero]
      refine ⟨.inl ⟨rfl, fun dd w' hd hC hDs => ?_⟩, fun e => ?_⟩
      · go_simp
        refine (NO.out w' hC).mono ?_
        rintro e w2 ⟨rfl, h2⟩
        exact ⟨_, rfl, rfl, hC.trans (h2.mono hC.size), h2, trivial⟩
      have e' : vs 10 = _ := e
      rw [e']
      clear e e'
      simp only [Act.put, List.setIfInBounds_toArray, List.set_cons_succ, List.set_cons_zero]
      refine ⟨.inl ⟨rfl, fun dd w' hd hC hDs => ?_⟩, fun e => ?_⟩
      · go_simp
        first | exact ⟨rfl, hC, Below.refl _ _, trivial⟩ | exact ⟨rfl, Below.refl _ _, trivial⟩ | exact ⟨hC, Below.refl _ _, trivial⟩
      have e' : vs 11 = _ := e
      rw [e']
      clear e e'
      simp only [Act.put, List.setIfInBounds_toArray, List.set_cons_succ, List.set_cons_zero]
      refine ⟨.inl ⟨rfl, fun dd w' hd hC hDs => ?_⟩, fun e => ?_⟩
      · go_simp
        first | exact ⟨rfl, hC, Below.refl _ _, trivial⟩ | exact ⟨rfl, Below.refl _ _, trivial⟩ | exact ⟨hC, Below.refl _ _, trivial⟩
      have e' : vs 12 = _ := e
      rw [e']
      clear e e'
      simp only [Act.put, List.setIfInBounds_toArray, List.set_cons_succ, List.set_cons_zero]
      refine ⟨.inl ⟨rfl, fun dd w' hd hC hDs => ?_⟩, fun e => ?_⟩
      · go_simp
        first | exact ⟨rfl, hC, Below.refl _ _, trivial⟩ | exact ⟨rfl, Below.refl _ _, trivial⟩ | exact ⟨hC, Below.refl _ _, trivial⟩
      have e' : vs 13 = _ := e
      rw [e']
      clear e e'
      simp only [Act.put, List.setIfInBounds_toArray, List.set_cons_succ, List.set_cons_zero]
      refine ⟨.inl ⟨rfl, fun dd w' hd hC hDs => ?_⟩, fun e => ?_⟩
      · go_simp
        first | exact ⟨rfl, hC, Below.refl _ _, trivial⟩ | exact ⟨rfl, Below.refl _ _, trivial⟩ | exact ⟨hC, Below.refl _ _, trivial⟩
      have e' : vs 14 = _ := e
      rw [e']
      clear e e'
      simp only [Act.put, List.setIfInBounds_toArray, List.set_cons_succ, List.set_cons_zero]
      refine ⟨.inl ⟨rfl, fun dd w' hd hC hDs => ?_⟩, fun e => ?_⟩
      · go_simp
        first | exact ⟨rfl, hC, Below.refl _ _, trivial⟩ | exact ⟨rfl, Below.refl _ _, trivial⟩ | exact ⟨hC, Below.refl _ _, trivial⟩
      have e' : vs 15 = _ := e
      rw [e']
      clear e e'
      simp only [Act.put, List.setIfInBounds_toArray, List.set_cons_succ, List.set_cons_zero]
      intro dd w4 hall hC4 hDs
      have b4 := hid hC4
      clear hall hC4 hDs
      have y1 := hid (B1.out.below b4.out B1.out.lt)
      have y2 := hid (B2.out.below b4.out B2.out.lt)
      go_upto_region 4 with fail
      refine wp_region_y [some (.agg (ar 32 k)), some (.pointer (some ⟨w.heap.size + 1, 0, none⟩)), some (.int .i64 h), some (.pointer (some ⟨w.heap.size + 1, 1, none⟩)), some (.slice A n cap), some (.pointer (some ⟨w.heap.size + 1, 1, none⟩)), some (.slice A n cap), some (.int .i64 n), some (.int .i64 m), some (.slice A m cap), some (.tuple #[.pointer none, .int .i64 2]), some (.tuple #[.pointer none, .int .i64 2]), some (.pointer none), some (.int .i64 2), some (.pointer none), some (.int .i64 2)] [] (fun y hy => by cases hy) 16 (by kernel_rfl) (by kernel_rfl) (by kernel_rfl) fun vs => ?_
      simp only [List.take_succ_cons, List.take_zero, List.drop_succ_cons, List.drop_zero]
      refine ⟨.inl ⟨rfl, fun dd w' hd hC hDs => ?_⟩, fun e => ?_⟩
      · exact gE_ldA tK rfl (y1.out.below hC y1.out.lt).head ⟨rfl, hC, Below.refl _ _, trivial⟩
      have e' : vs 0 = _ := e
      rw [e']
      clear e e'
      simp only [Act.put, List.setIfInBounds_toArray, List.set_cons_succ, List.set_cons_zero]
      refine ⟨.inl ⟨rfl, fun dd w' hd hC hDs => ?_⟩, fun e => ?_⟩
      · go_simp
        first | exact ⟨rfl, hC, Below.refl _ _, trivial⟩ | exact ⟨rfl, Below.refl _ _, trivial⟩ | exact ⟨hC, Below.refl _ _, trivial⟩
      have e' : vs 1 = _ := e
      rw [e']
      clear e e'
      simp only [Act.put, List.setIfInBounds_toArray, List.set_cons_succ, List.set_cons_zero]
      refine ⟨.inl ⟨rfl, fun dd w' hd hC hDs => ?_⟩, fun e => ?_⟩
      · have h1 : w'.cell? ⟨w.heap.size + 1, 0, none⟩ = some (.int .i64 h) := (y2.out.below hC y2.out.lt).cell 0
        go_simp
        first | exact ⟨rfl, hC, Below.refl _ _, trivial⟩ | exact ⟨rfl, Below.refl _ _, trivial⟩ | exact ⟨hC, Below.refl _ _, trivial⟩
      have e' : vs 2 = _ := e
      rw [e']
      clear e e'
      simp only [Act.put, List.setIfInBounds_toArray, List.set_cons_succ, List.set_cons_zero]
      refine ⟨.inl ⟨rfl, fun dd w' hd hC hDs => ?_⟩, fun e => ?_⟩
      · go_simp
        first | exact ⟨rfl, hC, Below.refl _ _, trivial⟩ | exact ⟨rfl, Below.refl _ _, trivial⟩ | exact ⟨hC, Below.refl _ _, trivial⟩
      have e' : vs 3 = _ := e
      rw [e']
      clear e e'
      simp only [Act.put, List.setIfInBounds_toArray, List.set_cons_succ, List.set_cons_zero]
      refine ⟨.inl ⟨rfl, fun dd w' hd hC hDs => ?_⟩, fun e => ?_⟩
      · have h1 : w'.cell? ⟨w.heap.size + 1, 1, none⟩ = some (.slice A n cap) := (y2.out.below hC y2.out.lt).cell 1
        go_simp
        first | exact ⟨rfl, hC, Below.refl _ _, trivial⟩ | exact ⟨rfl, Below.refl _ _, trivial⟩ | exact ⟨hC, Below.refl _ _, trivial⟩
      have e' : vs 4 = _ := e
      rw [e']
      clear e e'
      simp only [Act.put, List.setIfInBounds_toArray, List.set_cons_succ, List.set_cons_zero]
      refine ⟨.inl ⟨rfl, fun dd w' hd hC hDs => ?_⟩, fun e => ?_⟩
      · go_simp
        first | exact ⟨rfl, hC, Below.refl _ _, trivial⟩ | exact ⟨rfl, Below.refl _ _, trivial⟩ | exact ⟨hC, Below.refl _ _, trivial⟩
      have e' : vs 5 = _ := e
      rw [e']
      clear e e'
      simp only [Act.put, List.setIfInBounds_toArray, List.set_cons_succ, List.set_cons_zero]
      refine ⟨.inl ⟨rfl, fun dd w' hd hC hDs => ?_⟩, fun e => ?_⟩
      · have h1 : w'.cell? ⟨w.heap.size + 1, 1, none⟩ = some (.slice A n cap) := (y2.out.below hC y2.out.lt).cell 1
        go_simp
        first | exact ⟨rfl, hC, Below.refl _ _, trivial⟩ | exact ⟨rfl, Below.refl _ _, trivial⟩ | exact ⟨hC, Below.refl _ _, trivial⟩
      have e' : vs 6 = _ := e
      rw [e']
      clear e e'
      simp only [Act.put, List.setIfInBounds_toArray, List.set_cons_succ, List.set_cons_zero]
      refine ⟨.inl ⟨rfl, fun dd w' hd hC hDs => ?_⟩, fun e => ?_⟩
      · go_simp
        first | exact ⟨rfl, hC, Below.refl _ _, trivial⟩ | exact ⟨rfl, Below.refl _ _, trivial⟩ | exact ⟨hC, Below.refl _ _, trivial⟩
      have e' : vs 7 = _ := e
      rw [e']
      clear e e'
      simp only [Act.put, List.setIfInBounds_toArray, List.set_cons_succ, List.set_cons_zero]
      refine ⟨.inl ⟨rfl, fun dd w' hd hC hDs => ?_⟩, fun e => ?_⟩
      · have h1 : (if (32 : Int) < (n : Int) then (32 : Int) else (n : Int)) = (m : Int) := HZ.out
        go_simp
        first | exact ⟨rfl, hC, Below.refl _ _, trivial⟩ | exact ⟨rfl, Below.refl _ _, trivial⟩ | exact ⟨hC, Below.refl _ _, trivial⟩
      have e' : vs 8 = _ := e
      rw [e']
      clear e e'
      simp only [Act.put, List.setIfInBounds_toArray, List.set_cons_succ, List.set_cons_zero]
      refine ⟨.inl ⟨rfl, fun dd w' hd hC hDs => ?_⟩, fun e => ?_⟩
      · have h1 : m ≤ cap := MC.out
        have h2 : cap ≤ maxLen := MX.out
        have h3 : n ≤ cap := NC.out
        go_simp
        first | exact ⟨rfl, hC, Below.refl _ _, trivial⟩ | exact ⟨rfl, Below.refl _ _, trivial⟩ | exact ⟨hC, Below.refl _ _, trivial⟩
      have e' : vs 9 = _ := e
      rw [e']
      clear e e'
      simp only [Act.put, List.setIfInBounds_toArray, List.set_cons_succ, List.set_cons_zero]
      refine ⟨.inl ⟨rfl, fun dd w' hd hC hDs => ?_⟩, fun e => ?_⟩
      · go_simp
        refine (NO.out w' (b4.out.trans (hC.mono b4.out.size))).mono ?_
        rintro e w2 ⟨rfl, h2⟩
        exact ⟨_, rfl, rfl, hC.trans (h2.mono hC.size), h2, trivial⟩
      have e' : vs 10 = _ := e
      rw [e']
      clear e e'
      simp only [Act.put, List.setIfInBounds_toArray, List.set_cons_succ, List.set_cons_zero]
      refine ⟨.inl ⟨rfl, fun dd w' hd hC hDs => ?_⟩, fun e => ?_⟩
      · go_simp
        first | exact ⟨rfl, hC, Below.refl _ _, trivial⟩ | exact ⟨rfl, Below.refl _ _, trivial⟩ | exact ⟨hC, Below.refl _ _, trivial⟩
      have e' : vs 11 = _ := e
      rw [e']
      clear e e'
      simp only [Act.put, List.setIfInBounds_toArray, List.set_cons_succ, List.set_cons_zero]
      refine ⟨.inl ⟨rfl, fun dd w' hd hC hDs => ?_⟩, fun e => ?_⟩
      · go_simp
        first | exact ⟨rfl, hC, Below.refl _ _, trivial⟩ | exact ⟨rfl, Below.refl _ _, trivial⟩ | exact ⟨hC, Below.refl _ _, trivial⟩
      have e' : vs 12 = _ := e
      rw [e']
      clear e e'
      simp only [Act.put, List.setIfInBounds_toArray, List.set_cons_succ, List.set_cons_zero]
      refine ⟨.inl ⟨rfl, fun dd w' hd hC hDs => ?_⟩, fun e => ?_⟩
      · go_simp
        first | exact ⟨rfl, hC, Below.refl _ _, trivial⟩ | exact ⟨rfl, Below.refl _ _, trivial⟩ | exact ⟨hC, Below.refl _ _, trivial⟩
      have e' : vs 13 = _ := e
      rw [e']
      clear e e'
      simp only [Act.put, List.setIfInBounds_toArray, List.set_cons_succ, List.set_cons_zero]
      refine ⟨.inl ⟨rfl, fun dd w' hd hC hDs => ?_⟩, fun e => ?_⟩
      · go_simp
        first | exact ⟨rfl, hC, Below.refl _ _, trivial⟩ | exact ⟨rfl, Below.refl _ _, trivial⟩ | exact ⟨hC, Below.refl _ _, trivial⟩
      have e' : vs 14 = _ := e
      rw [e']
      clear e e'
      simp only [Act.put, List.setIfInBounds_toArray, List.set_cons_succ, List.set_cons_zero]
      refine ⟨.inl ⟨rfl, fun dd w' hd hC hDs => ?_⟩, fun e => ?_⟩
      · go_simp
        first | exact ⟨rfl, hC, Below.refl _ _, trivial⟩ | exact ⟨rfl, Below.refl _ _, trivial⟩ | exact ⟨hC, Below.refl _ _, trivial⟩
      have e' : vs 15 = _ := e
      rw [e']
      clear e e'
      simp only [Act.put, List.setIfInBounds_toArray, List.set_cons_succ, List.set_cons_zero]
      intro dd w5 hall hC4 hDs
      have b5 := hid (b4.out.trans (hC4.mono b4.out.size))
      clear hall hC4 hDs b4
      go_wp2_with fail
      refine (WE.out w5 (b5.out)).mono ?_
      rintro e w9 ⟨rfl, h9⟩
      have db := hid (hb.out.trans (((b5.out).trans (h9.mono (b5.out).size)).mono hb.out.size))
      clear h9
      go_wp2_with fail
      go_ret
      exact ⟨rfl, db.out⟩
    · have t1 : decide (5 < h) = false := decide_eq_false (by omega)
      have t3 : ¬ 5 < h := by omega
      clear hno h12 hbig
      go_upto_region 3 with fail
      clear t1 t3 c0
      refine wp_region_y [some (.agg (ar 32 k)), some (.pointer (some ⟨w.heap.size + 1, 0, none⟩)), some (.int .i64 h), some (.pointer (some ⟨w.heap.size + 1, 1, none⟩)), some (.slice A n cap), some (.pointer (some ⟨w.heap.size + 1, 1, none⟩)), some (.slice A n cap), some (.int .i64 n), some (.int .i64 m), some (.slice A m cap), some (.tuple #[.pointer none, .int .i64 2]), some (.tuple #[.pointer none, .int .i64 2]), some (.pointer none), some (.int .i64 2), some (.pointer none), some (.int .i64 2)] [] (fun y hy => by cases hy) 16 (by kernel_rfl) (by kernel_rfl) (by kernel_rfl) fun vs => ?_
      simp only [List.take_succ_cons, List.take_zero, List.drop_succ_cons, List.drop_zero]
      refine ⟨.inl ⟨rfl, fun dd w' hd hC hDs => ?_⟩, fun e => ?_⟩
      · exact gE_ldA tK rfl (B1.out.below hC B1.out.lt).head ⟨rfl, hC, Below.refl _ _, trivial⟩
      have e' : vs 0 = _ := e
      rw [e']
      clear e e'
      simp only [Act.put, List.setIfInBounds_toArray, List.set_cons_succ, List.set_cons_zero]
      refine ⟨.inl ⟨rfl, fun dd w' hd hC hDs => ?_⟩, fun e => ?_⟩
      · go_simp
        first | exact ⟨rfl, hC, Below.refl _ _, trivial⟩ | exact ⟨rfl, Below.refl _ _, trivial⟩ | exact ⟨hC, Below.refl _ _, trivial⟩
      have e' : vs 1 = _ := e
      rw [e']
      clear e e'
      simp only [Act.put, List.setIfInBounds_toArray, List.set_cons_succ, List.set_cons_zero]
      refine ⟨.inl ⟨rfl, fun dd w' hd hC hDs => ?_⟩, fun e => ?_⟩
      · have h1 : w'.cell? ⟨w.heap.size + 1, 0, none⟩ = some (.int .i64 h) := (B2.out.below hC B2.out.lt).cell 0
        go_simp
        first | exact ⟨rfl, hC, Below.refl _ _, trivial⟩ | exact ⟨rfl, Below.refl _ _, trivial⟩ | exact ⟨hC, Below.refl _ _, trivial⟩
      have e' : vs 2 = _ := e
      rw [e']
      clear e e'
      simp only [Act.put, List.setIfInBounds_toArray, List.set_cons_succ, List.set_cons_zero]
      refine ⟨.inl ⟨rfl, fun dd w' hd hC hDs => ?_⟩, fun e => ?_⟩
      · go_simp
        first | exact ⟨rfl, hC, Below.refl _ _, trivial⟩ | exact ⟨rfl, Below.refl _ _, trivial⟩ | exact ⟨hC, Below.refl _ _, trivial⟩
      have e' : vs 3 = _ := e
      rw [e']
      clear e e'
      simp only [Act.put, List.setIfInBounds_toArray, List.set_cons_succ, List.set_cons_zero]
      refine ⟨.inl ⟨rfl, fun dd w' hd hC hDs => ?_⟩, fun e => ?_⟩
      · have h1 : w'.cell? ⟨w.heap.size + 1, 1, none⟩ = some (.slice A n cap) := (B2.out.below hC B2.out.lt).cell 1
        go_simp
        first | exact ⟨rfl, hC, Below.refl _ _, trivial⟩ | exact ⟨rfl, Below.refl _ _, trivial⟩ | exact ⟨hC, Below.refl _ _, trivial⟩
      have e' : vs 4 = _ := e
      rw [e']
      clear e e'
      simp only [Act.put, List.setIfInBounds_toArray, List.set_cons_succ, List.set_cons_zero]
      refine ⟨.inl ⟨rfl, fun dd w' hd hC hDs => ?_⟩, fun e => ?_⟩
      · go_simp
        first | exact ⟨rfl, hC, Below.refl _ _, trivial⟩ | exact ⟨rfl, Below.refl _ _, trivial⟩ | exact ⟨hC, Below.refl _ _, trivial⟩
      have e' : vs 5 = _ := e
      rw [e']
      clear e e'
      simp only [Act.put, List.setIfInBounds_toArray, List.set_cons_succ, List.set_cons_zero]
      refine ⟨.inl ⟨rfl, fun dd w' hd hC hDs => ?_⟩, fun e => ?_⟩
      · have h1 : w'.cell? ⟨w.heap.size + 1, 1, none⟩ = some (.slice A n cap) := (B2.out.below hC B2.out.lt).cell 1
        go_simp
        first | exact ⟨rfl, hC, Below.refl _ _, trivial⟩ | exact ⟨rfl, Below.refl _ _, trivial⟩ | exact ⟨hC, Below.refl _ _, trivial⟩
      have e' : vs 6 = _ := e
      rw [e']
      clear e e'
      simp only [Act.put, List.setIfInBounds_toArray, List.set_cons_succ, List.set_cons_zero]
      refine ⟨.inl ⟨rfl, fun dd w' hd hC hDs => ?_⟩, fun e => ?_⟩
      · go_simp
        first | exact ⟨rfl, hC, Below.refl _ _, trivial⟩ | exact ⟨rfl, Below.refl _ _, trivial⟩ | exact ⟨hC, Below.refl _ _, trivial⟩
      have e' : vs 7 = _ := e
      rw [e']
      clear e e'
      simp only [Act.put, List.setIfInBounds_toArray, List.set_cons_succ, List.set_cons_zero]
      refine ⟨.inl ⟨rfl, fun dd w' hd hC hDs => ?_⟩, fun e => ?_⟩
      · have h1 : (if (32 : Int) < (n : Int) then (32 : Int) else (n : Int)) = (m : Int) := HZ.out
        go_simp
        first | exact ⟨rfl, hC, Below.refl _ _, trivial⟩ | exact ⟨rfl, Below.refl _ _, trivial⟩ | exact ⟨hC, Below.refl _ _, trivial⟩
      have e' : vs 8 = _ := e
      rw [e']
      clear e e'
      simp only [Act.put, List.setIfInBounds_toArray, List.set_cons_succ, List.set_cons_zero]
      refine ⟨.inl ⟨rfl, fun dd w' hd hC hDs => ?_⟩, fun e => ?_⟩
      · have h1 : m ≤ cap := MC.out
        have h2 : cap ≤ maxLen := MX.out
        have h3 : n ≤ cap := NC.out
        go_simp
        first | exact ⟨rfl, hC, Below.refl _ _, trivial⟩ | exact ⟨rfl, Below.refl _ _, trivial⟩ | exact ⟨hC, Below.refl _ _, trivial⟩
      have e' : vs 9 = _ := e
      rw [e']
      clear e e'
      simp only [Act.put, List.setIfInBounds_toArray, List.set_cons_succ, List.set_cons_zero]
      refine ⟨.inl ⟨rfl, fun dd w' hd hC hDs => ?_⟩, fun e => ?_⟩
      · go_simp
        refine (NO.out w' hC).mono ?_
        rintro e w2 ⟨rfl, h2⟩
        exact ⟨_, rfl, rfl, hC.trans (h2.mono hC.size), h2, trivial⟩
      have e' : vs 10 = _ := e
      rw [e']
      clear e e'
      simp only [Act.put, List.setIfInBounds_toArray, List.set_cons_succ, List.set_cons_zero]
      refine ⟨.inl ⟨rfl, fun dd w' hd hC hDs => ?_⟩, fun e => ?_⟩
      · go_simp
        first | exact ⟨rfl, hC, Below.refl _ _, trivial⟩ | exact ⟨rfl, Below.refl _ _, trivial⟩ | exact ⟨hC, Below.refl _ _, trivial⟩
      have e' : vs 11 = _ := e
      rw [e']
      clear e e'
      simp only [Act.put, List.setIfInBounds_toArray, List.set_cons_succ, List.set_cons_zero]
      refine ⟨.inl ⟨rfl, fun dd w' hd hC hDs => ?_⟩, fun e => ?_⟩
      · go_simp
        first | exact ⟨rfl, hC, Below.refl _ _, trivial⟩ | exact ⟨rfl, Below.refl _ _, trivial⟩ | exact ⟨hC, Below.refl _ _, trivial⟩
      have e' : vs 12 = _ := e
      rw [e']
      clear e e'
      simp only [Act.put, List.setIfInBounds_toArray, List.set_cons_succ, List.set_cons_zero]
      refine ⟨.inl ⟨rfl, fun dd w' hd hC hDs => ?_⟩, fun e => ?_⟩
      · go_simp
        first | exact ⟨rfl, hC, Below.refl _ _, trivial⟩ | exact ⟨rfl, Below.refl _ _, trivial⟩ | exact ⟨hC, Below.refl _ _, trivial⟩
      have e' : vs 13 = _ := e
      rw [e']
      clear e e'
      simp only [Act.put, List.setIfInBounds_toArray, List.set_cons_succ, List.set_cons_zero]
      refine ⟨.inl ⟨rfl, fun dd w' hd hC hDs => ?_⟩, fun e => ?_⟩
      · go_simp
        first | exact ⟨rfl, hC, Below.refl _ _, trivial⟩ | exact ⟨rfl, Below.refl _ _, trivial⟩ | exact ⟨hC, Below.refl _ _, trivial⟩
      have e' : vs 14 = _ := e
      rw [e']
      clear e e'
      simp only [Act.put, List.setIfInBounds_toArray, List.set_cons_succ, List.set_cons_zero]
      refine ⟨.inl ⟨rfl, fun dd w' hd hC hDs => ?_⟩, fun e => ?_⟩
      · go_simp
        first | exact ⟨rfl, hC, Below.refl _ _, trivial⟩ | exact ⟨rfl, Below.refl _ _, trivial⟩ | exact ⟨hC, Below.refl _ _, trivial⟩
      have e' : vs 15 = _ := e
      rw [e']
      clear e e'
      simp only [Act.put, List.setIfInBounds_toArray, List.set_cons_succ, List.set_cons_zero]
      intro dd w4 hall hC4 hDs
      have b4 := hid hC4
      clear hall hC4 hDs
      have y1 := hid (B1.out.below b4.out B1.out.lt)
      have y2 := hid (B2.out.below b4.out B2.out.lt)
      go_upto_region 4 with fail
      refine wp_region_y [some (.agg (ar 32 k)), some (.pointer (some ⟨w.heap.size + 1, 0, none⟩)), some (.int .i64 h), some (.pointer (some ⟨w.heap.size + 1, 1, none⟩)), some (.slice A n cap), some (.pointer (some ⟨w.heap.size + 1, 1, none⟩)), some (.slice A n cap), some (.int .i64 n), some (.int .i64 m), some (.slice A m cap), some (.tuple #[.pointer none, .int .i64 2]), some (.tuple #[.pointer none, .int .i64 2]), some (.pointer none), some (.int .i64 2), some (.pointer none), some (.int .i64 2)] [] (fun y hy => by cases hy) 16 (by kernel_rfl) (by kernel_rfl) (by kernel_rfl) fun vs => ?_
      simp only [List.take_succ_cons, List.take_zero, List.drop_succ_cons, List.drop_zero]
      refine ⟨.inl ⟨rfl, fun dd w' hd hC hDs => ?_⟩, fun e => ?_⟩
      · exact gE_ldA tK rfl (y1.out.below hC y1.out.lt).head ⟨rfl, hC, Below.refl _ _, trivial⟩
      have e' : vs 0 = _ := e
      rw [e']
      clear e e'
      simp only [Act.put, List.setIfInBounds_toArray, List.set_cons_succ, List.set_cons_zero]
      refine ⟨.inl ⟨rfl, fun dd w' hd hC hDs => ?_⟩, fun e => ?_⟩
      · go_simp
        first | exact ⟨rfl, hC, Below.refl _ _, trivial⟩ | exact ⟨rfl, Below.refl _ _, trivial⟩ | exact ⟨hC, Below.refl _ _, trivial⟩
      have e' : vs 1 = _ := e
      rw [e']
      clear e e'
      simp only [Act.put, List.setIfInBounds_toArray, List.set_cons_succ, List.set_cons_zero]
      refine ⟨.inl ⟨rfl, fun dd w' hd hC hDs => ?_⟩, fun e => ?_⟩
      · have h1 : w'.cell? ⟨w.heap.size + 1, 0, none⟩ = some (.int .i64 h) := (y2.out.below hC y2.out.lt).cell 0
        go_simp
        first | exact ⟨rfl, hC, Below.refl _ _, trivial⟩ | exact ⟨rfl, Below.refl _ _, trivial⟩ | exact ⟨hC, Below.refl _ _, trivial⟩
      have e' : vs 2 = _ := e
      rw [e']
      clear e e'
      simp only [Act.put, List.setIfInBounds_toArray, List.set_cons_succ, List.set_cons_zero]
      refine ⟨.inl ⟨rfl, fun dd w' hd hC hDs => ?_⟩, fun e => ?_⟩
      · go_simp
        first | exact ⟨rfl, hC, Below.refl _ _, trivial⟩ | exact ⟨rfl, Below.refl _ _, trivial⟩ | exact ⟨hC, Below.refl _ _, trivial⟩
      have e' : vs 3 = _ := e
      rw [e']
      clear e e'
      simp only [Act.put, List.setIfInBounds_toArray, List.set_cons_succ, List.set_cons_zero]
      refine ⟨.inl ⟨rfl, fun dd w' hd hC hDs => ?_⟩, fun e => ?_⟩
      · have h1 : w'.cell? ⟨w.heap.size + 1, 1, none⟩ = some (.slice A n cap) := (y2.out.below hC y2.out.lt).cell 1
        go_simp
        first | exact ⟨rfl, hC, Below.refl _ _, trivial⟩ | exact ⟨rfl, Below.refl _ _, trivial⟩ | exact ⟨hC, Below.refl _ _, trivial⟩
      have e' : vs 4 = _ := e
      rw [e']
      clear e e'
      simp only [Act.put, List.setIfInBounds_toArray, List.set_cons_succ, List.set_cons_zero]
      refine ⟨.inl ⟨rfl, fun dd w' hd hC hDs => ?_⟩, fun e => ?_⟩
      · go_simp
        first | exact ⟨rfl, hC, Below.refl _ _, trivial⟩ | exact ⟨rfl, Below.refl _ _, trivial⟩ | exact ⟨hC, Below.refl _ _, trivial⟩
      have e' : vs 5 = _ := e
      rw [e']
      clear e e'
      simp only [Act.put, List.setIfInBounds_toArray, List.set_cons_succ, List.set_cons_zero]
      refine ⟨.inl ⟨rfl, fun dd w' hd hC hDs => ?_⟩, fun e => ?_⟩
      · have h1 : w'.cell? ⟨w.heap.size + 1, 1, none⟩ = some (.slice A n cap) := (y2.out.below hC y2.out.lt).cell 1
        go_simp
        first | exact ⟨rfl, hC, Below.refl _ _, trivial⟩ | exact ⟨rfl, Below.refl _ _, trivial⟩ | exact ⟨hC, Below.refl _ _, trivial⟩
      have e' : vs 6 = _ := e
      rw [e']
      clear e e'
      simp only [Act.put, List.setIfInBounds_toArray, List.set_cons_succ, List.set_cons_zero]
      refine ⟨.inl ⟨rfl, fun dd w' hd hC hDs => ?_⟩, fun e => ?_⟩
      · go_simp
        first | exact ⟨rfl, hC, Below.refl _ _, trivial⟩ | exact ⟨rfl, Below.refl _ _, trivial⟩ | exact ⟨hC, Below.refl _ _, trivial⟩
      have e' : vs 7 = _ := e
      rw [e']
      clear e e'
      simp only [Act.put, List.setIfInBounds_toArray, List.set_cons_succ, List.set_cons_zero]
      refine ⟨.inl ⟨rfl, fun dd w' hd hC hDs => ?_⟩, fun e => ?_⟩
      · have h1 : (if (32 : Int) < (n : Int) then (32 : Int) else (n : Int)) = (m : Int) := HZ.out
        go_simp
        first | exact ⟨rfl, hC, Below.refl _ _, trivial⟩ | exact ⟨rfl, Below.refl _ _, trivial⟩ | exact ⟨hC, Below.refl _ _, trivial⟩
      have e' : vs 8 = _ := e
      rw [e']
      clear e e'
      simp only [Act.put, List.setIfInBounds_toArray, List.set_cons_succ, List.set_cons_zero]
      refine ⟨.inl ⟨rfl, fun dd w' hd hC hDs => ?_⟩, fun e => ?_⟩
      · have h1 : m ≤ cap := MC.out
        have h2 : cap ≤ maxLen := MX.out
        have h3 : n ≤ cap := NC.out
        go_simp
        first | exact ⟨rfl, hC, Below.refl _ _, trivial⟩ | exact ⟨rfl, Below.refl _ _, trivial⟩ | exact ⟨hC, Below.refl _ _, trivial⟩
      have e' : vs 9 = _ := e
      rw [e']
      clear e e'
      simp only [Act.put, List.setIfInBounds_toArray, List.set_cons_succ, List.set_cons_zero]
      refine ⟨.inl ⟨rfl, fun dd w' hd hC hDs => ?_⟩, fun e => ?_⟩
      · go_simp
        refine (NO.out w' (b4.out.trans (hC.mono b4.out.size))).mono ?_
        rintro e w2 ⟨rfl, h2⟩
        exact ⟨_, rfl, rfl, hC.trans (h2.mono hC.size), h2, trivial⟩
      have e' : vs 10 = _ := e
      rw [e']
      clear e e'
      simp only [Act.put, List.setIfInBounds_toArray, List.set_cons_succ, List.set_cons_zero]
      refine ⟨.inl ⟨rfl, fun dd w' hd hC hDs => ?_⟩, fun e => ?_⟩
      · go_simp
        first | exact ⟨rfl, hC, Below.refl _ _, trivial⟩ | exact ⟨rfl, Below.refl _ _, trivial⟩ | exact ⟨hC, Below.refl _ _, trivial⟩
      have e' : vs 11 = _ := e
      rw [e']
      clear e e'
      simp only [Act.put, List.setIfInBounds_toArray, List.set_cons_succ, List.set_cons_zero]
      refine ⟨.inl ⟨rfl, fun dd w' hd hC hDs => ?_⟩, fun e => ?_⟩
      · go_simp
        first | exact ⟨rfl, hC, Below.refl _ _, trivial⟩ | exact ⟨rfl, Below.refl _ _, trivial⟩ | exact ⟨hC, Below.refl _ _, trivial⟩
      have e' : vs 12 = _ := e
      rw [e']
      clear e e'
      simp only [Act.put, List.setIfInBounds_toArray, List.set_cons_succ, List.set_cons_zero]
      refine ⟨.inl ⟨rfl, fun dd w' hd hC hDs => ?_⟩, fun e => ?_⟩
      · go_simp
        first | exact ⟨rfl, hC, Below.refl _ _, trivial⟩ | exact ⟨rfl, Below.refl _ _, trivial⟩ | exact ⟨hC, Below.refl _ _, trivial⟩
      have e' : vs 13 = _ := e
      rw [e']
      clear e e'
      simp only [Act.put, List.setIfInBounds_toArray, List.set_cons_succ, List.set_cons_zero]
      refine ⟨.inl ⟨rfl, fun dd w' hd hC hDs => ?_⟩, fun e => ?_⟩
      · go_simp
        first | exact ⟨rfl, hC, Below.refl _ _, trivial⟩ | exact ⟨rfl, Below.refl _ _, trivial⟩ | exact ⟨hC, Below.refl _ _, trivial⟩
      have e' : vs 14 = _ := e
      rw [e']
      clear e e'
      simp only [Act.put, List.setIfInBounds_toArray, List.set_cons_succ, List.set_cons_zero]
      refine ⟨.inl ⟨rfl, fun dd w' hd hC hDs => ?_⟩, fun e => ?_⟩
      · go_simp
        first | exact ⟨rfl, hC, Below.refl _ _, trivial⟩ | exact ⟨rfl, Below.refl _ _, trivial⟩ | exact ⟨hC, Below.refl _ _, trivial⟩
      have e' : vs 15 = _ := e
      rw [e']
      clear e e'
      simp only [Act.put, List.setIfInBounds_toArray, List.set_cons_succ, List.set_cons_zero]
      intro dd w5 hall hC4 hDs
      have b5 := hid (b4.out.trans (hC4.mono b4.out.size))
      clear hall hC4 hDs b4
      go_wp2_with fail
      refine (WE.out w5 (b5.out)).mono ?_
      rintro e w9 ⟨rfl, h9⟩
      have db := hid (hb.out.trans (((b5.out).trans (h9.mono (b5.out).size)).mono hb.out.size))
      clear h9
      go_wp2_with fail
      go_ret
      exact ⟨rfl, db.out⟩
  · have ha5 : a ≤ 5 := by have := ho.1; have := ho.2; omega
    have ha1 : 1 ≤ a := by have := ho.1; omega
    obtain ⟨t, ht⟩ : ∃ t : Tr, t = ⟨k, a, newL m F⟩ := ⟨_, rfl⟩
    have TK := hid (show t.k = k by rw [ht])
    have TH := hid (show t.h = a by rw [ht])
    have TN := hid (show t.n = 2 ^ a by rw [ht]; rfl)
    have YE := hid (fun (w2 : World) (hb2 : Below w1.heap.size w1 w2) => C.out.new k K.out a ho A F FF.out m cap hm _ w2 (A2.out.turn (Turn.of_new (S := fun _ => False) hb2) fun _ _ _ h => h) (S1.out.on hb2))
    rw [← ht] at YE
    have t1 : decide (5 < (a : Int)) = false := decide_eq_false (by omega)
    have t3 : ¬ 5 < (a : Int) := by omega
    have HO := hid ho
    clear hbig ht hm ho
    go_upto_region 3 with fail
    clear t1 t3 c0
    refine wp_region_y [some (.agg (ar 32 k)), some (.pointer (some ⟨w.heap.size + 1, 0, none⟩)), some (.int .i64 (a : Nat)), some (.pointer (some ⟨w.heap.size + 1, 1, none⟩)), some (.slice A n cap), some (.pointer (some ⟨w.heap.size + 1, 1, none⟩)), some (.slice A n cap), some (.int .i64 n), some (.int .i64 m), some (.slice A m cap), none, none, none, some (.int .i64 0), none, some (.int .i64 0)] [(10, spN repT t w1.heap.size), (11, spN repT t w1.heap.size), (12, spG repT t w1.heap.size), (14, spG repT t w1.heap.size)] (fun y hy => by simp only [List.mem_cons, List.not_mem_nil, or_false] at hy; rcases hy with rfl | rfl | rfl | rfl <;> first | exact spN_ok C.out _ _ | exact spG_ok C.out _ _) 16 (by kernel_rfl) (by kernel_rfl) (by kernel_rfl) fun vs => ?_
    simp only [List.take_succ_cons, List.take_zero, List.drop_succ_cons, List.drop_zero]
    refine ⟨.inl ⟨rfl, fun dd w' hd hC hDs => ?_⟩, fun e => ?_⟩
    · exact gE_ldA tK rfl (B1.out.below hC B1.out.lt).head ⟨rfl, hC, Below.refl _ _, trivial⟩
    have e' : vs 0 = _ := e
    rw [e']
    clear e e'
    simp only [Act.put, List.setIfInBounds_toArray, List.set_cons_succ, List.set_cons_zero]
    refine ⟨.inl ⟨rfl, fun dd w' hd hC hDs => ?_⟩, fun e => ?_⟩
    · go_simp
      first | exact ⟨rfl, hC, Below.refl _ _, trivial⟩ | exact ⟨rfl, Below.refl _ _, trivial⟩ | exact ⟨hC, Below.refl _ _, trivial⟩
    have e' : vs 1 = _ := e
    rw [e']
    clear e e'
    simp only [Act.put, List.setIfInBounds_toArray, List.set_cons_succ, List.set_cons_zero]
    refine ⟨.inl ⟨rfl, fun dd w' hd hC hDs => ?_⟩, fun e => ?_⟩
    · have h1 : w'.cell? ⟨w.heap.size + 1, 0, none⟩ = some (.int .i64 (a : Nat)) := (B2.out.below hC B2.out.lt).cell 0
      go_simp
      first | exact ⟨rfl, hC, Below.refl _ _, trivial⟩ | exact ⟨rfl, Below.refl _ _, trivial⟩ | exact ⟨hC, Below.refl _ _, trivial⟩
    have e' : vs 2 = _ := e
    rw [e']
    clear e e'
    simp only [Act.put, List.setIfInBounds_toArray, List.set_cons_succ, List.set_cons_zero]
    refine ⟨.inl ⟨rfl, fun dd w' hd hC hDs => ?_⟩, fun e => ?_⟩
    · go_simp
      first | exact ⟨rfl, hC, Below.refl _ _, trivial⟩ | exact ⟨rfl, Below.refl _ _, trivial⟩ | exact ⟨hC, Below.refl _ _, trivial⟩
    have e' : vs 3 = _ := e
    rw [e']
    clear e e'
    simp only [Act.put, List.setIfInBounds_toArray, List.set_cons_succ, List.set_cons_zero]
    refine ⟨.inl ⟨rfl, fun dd w' hd hC hDs => ?_⟩, fun e => ?_⟩
    · have h1 : w'.cell? ⟨w.heap.size + 1, 1, none⟩ = some (.slice A n cap) := (B2.out.below hC B2.out.lt).cell 1
      go_simp
      first | exact ⟨rfl, hC, Below.refl _ _, trivial⟩ | exact ⟨rfl, Below.refl _ _, trivial⟩ | exact ⟨hC, Below.refl _ _, trivial⟩
    have e' : vs 4 = _ := e
    rw [e']
    clear e e'
    simp only [Act.put, List.setIfInBounds_toArray, List.set_cons_succ, List.set_cons_zero]
    refine ⟨.inl ⟨rfl, fun dd w' hd hC hDs => ?_⟩, fun e => ?_⟩
    · go_simp
      first | exact ⟨rfl, hC, Below.refl _ _, trivial⟩ | exact ⟨rfl, Below.refl _ _, trivial⟩ | exact ⟨hC, Below.refl _ _, trivial⟩
    have e' : vs 5 = _ := e
    rw [e']
    clear e e'
    simp only [Act.put, List.setIfInBounds_toArray, List.set_cons_succ, List.set_cons_zero]
    refine ⟨.inl ⟨rfl, fun dd w' hd hC hDs => ?_⟩, fun e => ?_⟩
    · have h1 : w'.cell? ⟨w.heap.size + 1, 1, none⟩ = some (.slice A n cap) := (B2.out.below hC B2.out.lt).cell 1
      go_simp
      first | exact ⟨rfl, hC, Below.refl _ _, trivial⟩ | exact ⟨rfl, Below.refl _ _, trivial⟩ | exact ⟨hC, Below.refl _ _, trivial⟩
    have e' : vs 6 = _ := e
    rw [e']
    clear e e'
    simp only [Act.put, List.setIfInBounds_toArray, List.set_cons_succ, List.set_cons_zero]
    refine ⟨.inl ⟨rfl, fun dd w' hd hC hDs => ?_⟩, fun e => ?_⟩
    · go_simp
      first | exact ⟨rfl, hC, Below.refl _ _, trivial⟩ | exact ⟨rfl, Below.refl _ _, trivial⟩ | exact ⟨hC, Below.refl _ _, trivial⟩
    have e' : vs 7 = _ := e
    rw [e']
    clear e e'
    simp only [Act.put, List.setIfInBounds_toArray, List.set_cons_succ, List.set_cons_zero]
    refine ⟨.inl ⟨rfl, fun dd w' hd hC hDs => ?_⟩, fun e => ?_⟩
    · have h1 : (if (32 : Int) < (n : Int) then (32 : Int) else (n : Int)) = (m : Int) := HZ.out
      go_simp
      first | exact ⟨rfl, hC, Below.refl _ _, trivial⟩ | exact ⟨rfl, Below.refl _ _, trivial⟩ | exact ⟨hC, Below.refl _ _, trivial⟩
    have e' : vs 8 = _ := e
    rw [e']
    clear e e'
    simp only [Act.put, List.setIfInBounds_toArray, List.set_cons_succ, List.set_cons_zero]
    refine ⟨.inl ⟨rfl, fun dd w' hd hC hDs => ?_⟩, fun e => ?_⟩
    · have h1 : m ≤ cap := MC.out
      have h2 : cap ≤ maxLen := MX.out
      have h3 : n ≤ cap := NC.out
      go_simp
      first | exact ⟨rfl, hC, Below.refl _ _, trivial⟩ | exact ⟨rfl, Below.refl _ _, trivial⟩ | exact ⟨hC, Below.refl _ _, trivial⟩
    have e' : vs 9 = _ := e
    rw [e']
    clear e e'
    simp only [Act.put, List.setIfInBounds_toArray, List.set_cons_succ, List.set_cons_zero]
    refine ⟨.inl ⟨rfl, fun dd w' hd hC hDs => ?_⟩, fun e => ?_⟩
    · go_simp
      refine (YE.out w' hC).mono ?_
      rintro e w2 ⟨g7, M7, rfl, r7, m7, h2⟩
      exact ⟨_, rfl, ⟨_, rfl⟩, hC.trans (h2.mono hC.size), h2, yD_some rfl ⟨_, _, rfl, r7, fun b hb => Nat.le_trans hC.size (m7 b hb)⟩⟩
    obtain ⟨g10, e'⟩ : ∃ g, vs 10 = .tuple #[pT g, .int .i64 0] := e
    rw [e']
    have E10 := hid e'
    clear e'
    simp only [Act.put, List.setIfInBounds_toArray, List.set_cons_succ, List.set_cons_zero]
    refine ⟨.inl ⟨rfl, fun dd w' hd hC hDs => ?_⟩, fun e => ?_⟩
    · obtain ⟨g7, M7, f7, r7, m7⟩ := hDs 10 (by kernel_rfl)
      rw [E10.out] at f7
      cases f7
      go_simp
      first | exact ⟨⟨_, rfl⟩, Below.refl _ _, ⟨_, _, rfl, r7, m7⟩⟩ | exact ⟨⟨_, rfl⟩, hC, Below.refl _ _, ⟨_, _, rfl, r7, m7⟩⟩ | exact ⟨Below.refl _ _, ⟨_, _, rfl, r7, m7⟩⟩ | exact ⟨⟨_, rfl⟩, hC, Below.refl _ _, yD_some rfl ⟨_, _, rfl, r7, m7⟩⟩
    obtain ⟨g11, e'⟩ : ∃ g, vs 11 = .tuple #[pT g, .int .i64 0] := e
    rw [e']
    have E11 := hid e'
    clear e'
    simp only [Act.put, List.setIfInBounds_toArray, List.set_cons_succ, List.set_cons_zero]
    refine ⟨.inl ⟨rfl, fun dd w' hd hC hDs => ?_⟩, fun e => ?_⟩
    · obtain ⟨g7, M7, f7, r7, m7⟩ := hDs 11 (by kernel_rfl)
      rw [E11.out] at f7
      cases f7
      go_simp
      first | exact ⟨⟨_, rfl⟩, Below.refl _ _, ⟨_, _, rfl, r7, m7⟩⟩ | exact ⟨⟨_, rfl⟩, hC, Below.refl _ _, ⟨_, _, rfl, r7, m7⟩⟩ | exact ⟨Below.refl _ _, ⟨_, _, rfl, r7, m7⟩⟩ | exact ⟨⟨_, rfl⟩, hC, Below.refl _ _, yD_some rfl ⟨_, _, rfl, r7, m7⟩⟩
    obtain ⟨g12, e'⟩ : ∃ g, vs 12 = pT g := e
    rw [e']
    have E12 := hid e'
    clear e'
    simp only [Act.put, List.setIfInBounds_toArray, List.set_cons_succ, List.set_cons_zero]
    refine ⟨.inl ⟨rfl, fun dd w' hd hC hDs => ?_⟩, fun e => ?_⟩
    · go_simp
      first | exact ⟨rfl, hC, Below.refl _ _, trivial⟩ | exact ⟨rfl, Below.refl _ _, trivial⟩ | exact ⟨hC, Below.refl _ _, trivial⟩
    have e' : vs 13 = _ := e
    rw [e']
    clear e e'
    simp only [Act.put, List.setIfInBounds_toArray, List.set_cons_succ, List.set_cons_zero]
    refine ⟨.inl ⟨rfl, fun dd w' hd hC hDs => ?_⟩, fun e => ?_⟩
    · obtain ⟨g7, M7, f7, r7, m7⟩ := hDs 12 (by kernel_rfl)
      rw [E12.out] at f7
      cases f7
      go_simp
      first | exact ⟨⟨_, rfl⟩, Below.refl _ _, ⟨_, _, rfl, r7, m7⟩⟩ | exact ⟨⟨_, rfl⟩, hC, Below.refl _ _, ⟨_, _, rfl, r7, m7⟩⟩ | exact ⟨Below.refl _ _, ⟨_, _, rfl, r7, m7⟩⟩ | exact ⟨⟨_, rfl⟩, hC, Below.refl _ _, yD_some rfl ⟨_, _, rfl, r7, m7⟩⟩
    obtain ⟨ga, e'⟩ : ∃ g, vs 14 = pT g := e
    rw [e']
    have E14 := hid e'
    clear e'
    simp only [Act.put, List.setIfInBounds_toArray, List.set_cons_succ, List.set_cons_zero]
    refine ⟨.inl ⟨rfl, fun dd w' hd hC hDs => ?_⟩, fun e => ?_⟩
    · go_simp
      first | exact ⟨rfl, hC, Below.refl _ _, trivial⟩ | exact ⟨rfl, Below.refl _ _, trivial⟩ | exact ⟨hC, Below.refl _ _, trivial⟩
    have e' : vs 15 = _ := e
    rw [e']
    clear e e'
    simp only [Act.put, List.setIfInBounds_toArray, List.set_cons_succ, List.set_cons_zero]
    intro dd w4 hall hC4 hDs
    obtain ⟨gt, Mt, ft, rt, mt⟩ := hDs 14 (by omega)
    rw [E14.out] at ft
    cases ft
    have R1 := hid rt
    have M1 := hid mt
    have b4 := hid hC4
    have L1 := hid (C.out.lt rt)
    have y1 := hid (B1.out.below b4.out B1.out.lt)
    have y2 := hid (B2.out.below b4.out B2.out.lt)
    have y3 := hid (B3.out.below b4.out B3.out.lt)
    clear hall hC4 hDs E10 E11 E12 E14 rt mt B1 B2 B3
    go_upto_region 4 with fail
    refine wp_region_y [some (.agg (ar 32 k)), some (.pointer (some ⟨w.heap.size + 1, 0, none⟩)), some (.int .i64 (a : Nat)), some (.pointer (some ⟨w.heap.size + 1, 1, none⟩)), some (.slice A n cap), some (.pointer (some ⟨w.heap.size + 1, 1, none⟩)), some (.slice A n cap), some (.int .i64 n), some (.int .i64 m), some (.slice A m cap), none, none, none, some (.int .i64 0), none, some (.int .i64 0)] [(10, spN repT t w4.heap.size), (11, spN repT t w4.heap.size), (12, spG repT t w4.heap.size), (14, spG repT t w4.heap.size)] (fun y hy => by simp only [List.mem_cons, List.not_mem_nil, or_false] at hy; rcases hy with rfl | rfl | rfl | rfl <;> first | exact spN_ok C.out _ _ | exact spG_ok C.out _ _) 16 (by kernel_rfl) (by kernel_rfl) (by kernel_rfl) fun vs => ?_
    simp only [List.take_succ_cons, List.take_zero, List.drop_succ_cons, List.drop_zero]
    refine ⟨.inl ⟨rfl, fun dd w' hd hC hDs => ?_⟩, fun e => ?_⟩
    · exact gE_ldA tK rfl (y1.out.below hC y1.out.lt).head ⟨rfl, hC, Below.refl _ _, trivial⟩
    have e' : vs 0 = _ := e
    rw [e']
    clear e e'
    simp only [Act.put, List.setIfInBounds_toArray, List.set_cons_succ, List.set_cons_zero]
    refine ⟨.inl ⟨rfl, fun dd w' hd hC hDs => ?_⟩, fun e => ?_⟩
    · go_simp
      first | exact ⟨rfl, hC, Below.refl _ _, trivial⟩ | exact ⟨rfl, Below.refl _ _, trivial⟩ | exact ⟨hC, Below.refl _ _, trivial⟩
    have e' : vs 1 = _ := e
    rw [e']
    clear e e'
    simp only [Act.put, List.setIfInBounds_toArray, List.set_cons_succ, List.set_cons_zero]
    refine ⟨.inl ⟨rfl, fun dd w' hd hC hDs => ?_⟩, fun e => ?_⟩
    · have h1 : w'.cell? ⟨w.heap.size + 1, 0, none⟩ = some (.int .i64 (a : Nat)) := (y2.out.below hC y2.out.lt).cell 0
      go_simp
      first | exact ⟨rfl, hC, Below.refl _ _, trivial⟩ | exact ⟨rfl, Below.refl _ _, trivial⟩ | exact ⟨hC, Below.refl _ _, trivial⟩
    have e' : vs 2 = _ := e
    rw [e']
    clear e e'
    simp only [Act.put, List.setIfInBounds_toArray, List.set_cons_succ, List.set_cons_zero]
    refine ⟨.inl ⟨rfl, fun dd w' hd hC hDs => ?_⟩, fun e => ?_⟩
    · go_simp
      first | exact ⟨rfl, hC, Below.refl _ _, trivial⟩ | exact ⟨rfl, Below.refl _ _, trivial⟩ | exact ⟨hC, Below.refl _ _, trivial⟩
    have e' : vs 3 = _ := e
    rw [e']
    clear e e'
    simp only [Act.put, List.setIfInBounds_toArray, List.set_cons_succ, List.set_cons_zero]
    refine ⟨.inl ⟨rfl, fun dd w' hd hC hDs => ?_⟩, fun e => ?_⟩
    · have h1 : w'.cell? ⟨w.heap.size + 1, 1, none⟩ = some (.slice A n cap) := (y2.out.below hC y2.out.lt).cell 1
      go_simp
      first | exact ⟨rfl, hC, Below.refl _ _, trivial⟩ | exact ⟨rfl, Below.refl _ _, trivial⟩ | exact ⟨hC, Below.refl _ _, trivial⟩
    have e' : vs 4 = _ := e
    rw [e']
    clear e e'
    simp only [Act.put, List.setIfInBounds_toArray, List.set_cons_succ, List.set_cons_zero]
    refine ⟨.inl ⟨rfl, fun dd w' hd hC hDs => ?_⟩, fun e => ?_⟩
    · go_simp
      first | exact ⟨rfl, hC, Below.refl _ _, trivial⟩ | exact ⟨rfl, Below.refl _ _, trivial⟩ | exact ⟨hC, Below.refl _ _, trivial⟩
    have e' : vs 5 = _ := e
    rw [e']
    clear e e'
    simp only [Act.put, List.setIfInBounds_toArray, List.set_cons_succ, List.set_cons_zero]
    refine ⟨.inl ⟨rfl, fun dd w' hd hC hDs => ?_⟩, fun e => ?_⟩
    · have h1 : w'.cell? ⟨w.heap.size + 1, 1, none⟩ = some (.slice A n cap) := (y2.out.below hC y2.out.lt).cell 1
      go_simp
      first | exact ⟨rfl, hC, Below.refl _ _, trivial⟩ | exact ⟨rfl, Below.refl _ _, trivial⟩ | exact ⟨hC, Below.refl _ _, trivial⟩
    have e' : vs 6 = _ := e
    rw [e']
    clear e e'
    simp only [Act.put, List.setIfInBounds_toArray, List.set_cons_succ, List.set_cons_zero]
    refine ⟨.inl ⟨rfl, fun dd w' hd hC hDs => ?_⟩, fun e => ?_⟩
    · go_simp
      first | exact ⟨rfl, hC, Below.refl _ _, trivial⟩ | exact ⟨rfl, Below.refl _ _, trivial⟩ | exact ⟨hC, Below.refl _ _, trivial⟩
    have e' : vs 7 = _ := e
    rw [e']
    clear e e'
    simp only [Act.put, List.setIfInBounds_toArray, List.set_cons_succ, List.set_cons_zero]
    refine ⟨.inl ⟨rfl, fun dd w' hd hC hDs => ?_⟩, fun e => ?_⟩
    · have h1 : (if (32 : Int) < (n : Int) then (32 : Int) else (n : Int)) = (m : Int) := HZ.out
      go_simp
      first | exact ⟨rfl, hC, Below.refl _ _, trivial⟩ | exact ⟨rfl, Below.refl _ _, trivial⟩ | exact ⟨hC, Below.refl _ _, trivial⟩
    have e' : vs 8 = _ := e
    rw [e']
    clear e e'
    simp only [Act.put, List.setIfInBounds_toArray, List.set_cons_succ, List.set_cons_zero]
    refine ⟨.inl ⟨rfl, fun dd w' hd hC hDs => ?_⟩, fun e => ?_⟩
    · have h1 : m ≤ cap := MC.out
      have h2 : cap ≤ maxLen := MX.out
      have h3 : n ≤ cap := NC.out
      go_simp
      first | exact ⟨rfl, hC, Below.refl _ _, trivial⟩ | exact ⟨rfl, Below.refl _ _, trivial⟩ | exact ⟨hC, Below.refl _ _, trivial⟩
    have e' : vs 9 = _ := e
    rw [e']
    clear e e'
    simp only [Act.put, List.setIfInBounds_toArray, List.set_cons_succ, List.set_cons_zero]
    refine ⟨.inl ⟨rfl, fun dd w' hd hC hDs => ?_⟩, fun e => ?_⟩
    · go_simp
      refine (YE.out w' (b4.out.trans (hC.mono b4.out.size))).mono ?_
      rintro e w2 ⟨g7, M7, rfl, r7, m7, h2⟩
      exact ⟨_, rfl, ⟨_, rfl⟩, hC.trans (h2.mono hC.size), h2, yD_some rfl ⟨_, _, rfl, r7, fun b hb => Nat.le_trans hC.size (m7 b hb)⟩⟩
    obtain ⟨g10, e'⟩ : ∃ g, vs 10 = .tuple #[pT g, .int .i64 0] := e
    rw [e']
    have E10 := hid e'
    clear e'
    simp only [Act.put, List.setIfInBounds_toArray, List.set_cons_succ, List.set_cons_zero]
    refine ⟨.inl ⟨rfl, fun dd w' hd hC hDs => ?_⟩, fun e => ?_⟩
    · obtain ⟨g7, M7, f7, r7, m7⟩ := hDs 10 (by kernel_rfl)
      rw [E10.out] at f7
      cases f7
      go_simp
      first | exact ⟨⟨_, rfl⟩, Below.refl _ _, ⟨_, _, rfl, r7, m7⟩⟩ | exact ⟨⟨_, rfl⟩, hC, Below.refl _ _, ⟨_, _, rfl, r7, m7⟩⟩ | exact ⟨Below.refl _ _, ⟨_, _, rfl, r7, m7⟩⟩ | exact ⟨⟨_, rfl⟩, hC, Below.refl _ _, yD_some rfl ⟨_, _, rfl, r7, m7⟩⟩
    obtain ⟨g11, e'⟩ : ∃ g, vs 11 = .tuple #[pT g, .int .i64 0] := e
    rw [e']
    have E11 := hid e'
    clear e'
    simp only [Act.put, List.setIfInBounds_toArray, List.set_cons_succ, List.set_cons_zero]
    refine ⟨.inl ⟨rfl, fun dd w' hd hC hDs => ?_⟩, fun e => ?_⟩
    · obtain ⟨g7, M7, f7, r7, m7⟩ := hDs 11 (by kernel_rfl)
      rw [E11.out] at f7
      cases f7
      go_simp
      first | exact ⟨⟨_, rfl⟩, Below.refl _ _, ⟨_, _, rfl, r7, m7⟩⟩ | exact ⟨⟨_, rfl⟩, hC, Below.refl _ _, ⟨_, _, rfl, r7, m7⟩⟩ | exact ⟨Below.refl _ _, ⟨_, _, rfl, r7, m7⟩⟩ | exact ⟨⟨_, rfl⟩, hC, Below.refl _ _, yD_some rfl ⟨_, _, rfl, r7, m7⟩⟩
    obtain ⟨g12, e'⟩ : ∃ g, vs 12 = pT g := e
    rw [e']
    have E12 := hid e'
    clear e'
    simp only [Act.put, List.setIfInBounds_toArray, List.set_cons_succ, List.set_cons_zero]
    refine ⟨.inl ⟨rfl, fun dd w' hd hC hDs => ?_⟩, fun e => ?_⟩
    · go_simp
      first | exact ⟨rfl, hC, Below.refl _ _, trivial⟩ | exact ⟨rfl, Below.refl _ _, trivial⟩ | exact ⟨hC, Below.refl _ _, trivial⟩
    have e' : vs 13 = _ := e
    rw [e']
    clear e e'
    simp only [Act.put, List.setIfInBounds_toArray, List.set_cons_succ, List.set_cons_zero]
    refine ⟨.inl ⟨rfl, fun dd w' hd hC hDs => ?_⟩, fun e => ?_⟩
    · obtain ⟨g7, M7, f7, r7, m7⟩ := hDs 12 (by kernel_rfl)
      rw [E12.out] at f7
      cases f7
      go_simp
      first | exact ⟨⟨_, rfl⟩, Below.refl _ _, ⟨_, _, rfl, r7, m7⟩⟩ | exact ⟨⟨_, rfl⟩, hC, Below.refl _ _, ⟨_, _, rfl, r7, m7⟩⟩ | exact ⟨Below.refl _ _, ⟨_, _, rfl, r7, m7⟩⟩ | exact ⟨⟨_, rfl⟩, hC, Below.refl _ _, yD_some rfl ⟨_, _, rfl, r7, m7⟩⟩
    obtain ⟨g14, e'⟩ : ∃ g, vs 14 = pT g := e
    rw [e']
    have E14 := hid e'
    clear e'
    simp only [Act.put, List.setIfInBounds_toArray, List.set_cons_succ, List.set_cons_zero]
    refine ⟨.inl ⟨rfl, fun dd w' hd hC hDs => ?_⟩, fun e => ?_⟩
    · go_simp
      first | exact ⟨rfl, hC, Below.refl _ _, trivial⟩ | exact ⟨rfl, Below.refl _ _, trivial⟩ | exact ⟨hC, Below.refl _ _, trivial⟩
    have e' : vs 15 = _ := e
    rw [e']
    clear e e'
    simp only [Act.put, List.setIfInBounds_toArray, List.set_cons_succ, List.set_cons_zero]
    intro dd w5 hall hC5 hDs
    obtain ⟨gu, Mu, fu, ru, mu⟩ := hDs 14 (by omega)
    rw [E14.out] at fu
    cases fu
    have R2 := hid ru
    have M2 := hid mu
    have L2 := hid (C.out.lt ru)
    have b5 := hid (b4.out.trans (hC5.mono b4.out.size))
    have R3 := hid (C.out.keep R1.out (Turn.of_new (S := fun _ => False) hC5) fun _ _ h => h)
    have z1 := hid (y1.out.below hC5 y1.out.lt)
    have z2 := hid (y2.out.below hC5 y2.out.lt)
    have z3 := hid (y3.out.below hC5 y3.out.lt)
    have v0 : w5.cell? ⟨w.heap.size + 1, 0, none⟩ = some (.int .i64 (a : Nat)) := z2.out.cell 0
    have v1 : w5.cell? ⟨w.heap.size + 1 + 1, 0, none⟩ = some (.int .i64 leaf) := cm_0 z3.out
    have hs4 := hid y3.out.lt
    have s4 := hid b4.out.size
    clear hall hC5 hDs E10 E11 E12 E14 ru mu y1 y2 y3 b4 R1
    obtain ⟨N, hN1⟩ : ∃ N, N = t.n := ⟨_, rfl⟩
    have NN := hid hN1
    have hN : wrap64 (2 ^ a) = (N : Int) := by rw [hN1]; exact shl_n ha5 TN.out
    have hN32 : N ≤ 32 := by rw [hN1, TN.out]; exact pow32 ha5
    have hN0 : 0 < N := by rw [hN1]; exact t.n_pos
    clear hN1
    go_upto_region 10 with fail
    have hb1 : -(N : Int) < leaf.tmod N ∧ leaf.tmod N < N := tmod_bd (by omega)
    by_cases hneg : leaf.tmod N < 0
    · have hc : ∃ c : Nat, leaf.tmod N + N = c := ⟨(leaf.tmod N + N).toNat, by omega⟩
      obtain ⟨c, hc⟩ := hc
      have hcN : c < N := by omega
      have hcN2 : c < t.n := by rw [← NN.out]; exact hcN
      have t5 : decide (leaf.tmod N < 0) = true := decide_eq_true (by omega)
      have t6 : leaf.tmod N < 0 := hneg
      have t7 : ((N : Int) == 0) = false := by rw [beq_eq_false_iff_ne]; omega
      have t8 : wrap64 ((N : Int) + (c : Int)) = ((N + c : Nat) : Int) := wrap_small (by omega)
      have t9 : wrap64 (leaf.tmod N + N) = (c : Int) := by rw [hc]; exact wrap_small (n := c) (by omega)
      go_upto_region 13 with fail
      have Ra5 := hid R3.out
      have Rb5 := hid R2.out
      have z25 := hid z2.out
      have z35 := hid z3.out
      clear R3 R2 z2 z3 z1 v0 v1
      go_wp2_with fail
      refine (show Calls Tryd.prog 15 #[pT ga, .int .i64 ((N + c : Nat) : Int)] w5 _ from D.out.tag (N + c) (has_leaf NN.out hcN) Ra5.out (S1.out.on b5.out)).mono ?_
      rintro e w6 ⟨rfl, h6⟩
      have Ra6 := hid (C.out.keep Ra5.out (Turn.of_new (S := fun _ => False) h6) fun _ _ h => h)
      have Rb6 := hid (C.out.keep Rb5.out (Turn.of_new (S := fun _ => False) h6) fun _ _ h => h)
      have z26 := hid (z25.out.below h6 z25.out.lt)
      have z36 := hid (z35.out.below h6 z35.out.lt)
      have b6 := hid (b5.out.trans ((h6).mono b5.out.size))
      clear Ra5 Rb5 z25 z35 b5
      have s6 := h6.size
      clear h6
      rw [show t.tg (N + c) = t.L c from tg_lf NN.out]
      have hz : Blk (w6.alloc (.cells (ar 32 fun _ => 0) 36)) w6.heap.size 36 (ar 32 fun _ => 0) := Blk.new _ _ _
      go_upto_region 14 with (first | (with_reducible apply alA tT) | ((with_reducible apply stA tT); rfl; rfl; exact hz))
      have h7 := below_setRow ((Below.refl w6.heap.size w6).alloc (Nat.le_refl _) (.cells (ar 32 fun _ => 0) 36)) (Nat.le_refl _) (ar 32 (t.L c))
      have q7 := hid (hz.setRow_same (ar 32 (t.L c)))
      clear hz
      generalize World.setRow _ w6.heap.size _ = w7 at h7 q7 ⊢
      have Ra7 := hid (C.out.keep Ra6.out (Turn.of_new (S := fun _ => False) h7) fun _ _ h => h)
      have Rb7 := hid (C.out.keep Rb6.out (Turn.of_new (S := fun _ => False) h7) fun _ _ h => h)
      have z27 := hid (z26.out.below h7 z26.out.lt)
      have z37 := hid (z36.out.below h7 z36.out.lt)
      have b7 := hid (b6.out.trans ((h7).mono b6.out.size))
      clear Ra6 Rb6 z26 z36 b6
      have LM := hid (show ∀ b, Mu b → b < w6.heap.size from fun b hb => Nat.lt_of_lt_of_le (L2.out.2 b hb) s6)
      clear h7
      go_wp2_with ((with_reducible apply ldAm tT); rfl; exact cm_tag z37.out)
      refine (C.out.set c f hcN2 TF.out Rb7.out (S1.out.on b7.out)).mono ?_
      rintro e w8 ⟨vl, M8, rfl, _, r8, m8, _, t8⟩
      have h8 := t8.below b7.out.size fun b hb => Nat.le_trans s4.out (M2.out b hb)
      have Ra8 := hid (C.out.keep Ra7.out t8 fun b hb hm => absurd (L1.out.2 b hb) (by have := M2.out b hm; omega))
      have Rb8 := hid r8
      have z28 := hid (z27.out.turn t8 fun h => by have := M2.out _ h; have := hs4.out; omega)
      have z38 := hid (z37.out.turn t8 fun h => by have := M2.out _ h; have := hs4.out; omega)
      have q8 := hid (q7.out.turn t8 fun h => absurd (LM.out _ h) (Nat.lt_irrefl _))
      have b8 := hid (b7.out.trans h8)
      have v2 : w8.cell? ⟨w.heap.size + 1, 0, none⟩ = some (.int .i64 (a : Nat)) := z28.out.cell 0
      clear h8 r8 m8 t8 Ra7 Rb7 z27 z37 q7 b7 s6 LM L1 L2 M1 M2 hs4 s4
      go_wp2_with fail
      refine (D.out.path a c HO.out (by rw [← TN.out]; exact hcN2) w8).mono ?_
      rintro e w9 ⟨v, rfl, o9, h9⟩
      obtain ⟨g9, c9, rfl, p9⟩ := OwnI.get o9 (j := 0) (by rw [pthL_length]; exact ha1)
      have g9l := hid (OwnI.lt o9 g9 rfl).2
      have P9 := hid (show ∀ i, i < a → w9.cell? ⟨g9, i, none⟩ = some (.int .i64 (pth a c i : Nat)) from fun i hi => by have := p9 i (by rw [pthL_length]; exact hi); rwa [pthL_get hi] at this)
      rw [pthL_length]
      have Ra9 := hid (C.out.keep Ra8.out (Turn.of_new (S := fun _ => False) h9) fun _ _ h => h)
      have Rb9 := hid (C.out.keep Rb8.out (Turn.of_new (S := fun _ => False) h9) fun _ _ h => h)
      have z29 := hid (z28.out.below h9 z28.out.lt)
      have z39 := hid (z38.out.below h9 z38.out.lt)
      have b9 := hid (b8.out.trans ((h9).mono b8.out.size))
      have q9 := hid (q8.out.below h9 q8.out.lt)
      clear Ra8 Rb8 z28 z38 b8 q8
      clear h9 o9 p9 v2
      have v3 : w9.cell? ⟨w.heap.size + 1, 0, none⟩ = some (.int .i64 (a : Nat)) := z29.out.cell 0
      have OFF := hid (fun j (h1 : 1 ≤ j) (h2 : j < N) (hn : j ∉ pthL a c) => by have := nd_off (t := t) (f := f) hcN2 h1 (by rw [← NN.out]; exact h2) (by rw [TH.out]; exact hn); exact this)
      have LOW := hid (show eqA 64 (t.nd (pth a c 0)) ((t.set c f).nd (pth a c 0)) = eqA 32 (t.L c) f by rw [pth_zero, ← TN.out]; exact low_eq (by rw [TH.out]; exact ha1))
      have NU := hid (show (t.set c f).n = N from NN.out.symm)
      generalize hu : t.set c f = u at OFF LOW NU Rb9
      clear hu
      clear t5 t6 t7 t8 hc hneg hb1
      go_wp2_with fail
      go_loopw [16] (fun uu wr => ∃ j : Nat, uu = .int .i64 j ∧ 1 ≤ j ∧ j ≤ N ∧ Hid (Below w9.heap.size w9 wr)) (fun uu _ => N - (intOf uu).toNat)
      case atStart => exact ⟨1, rfl, Nat.le_refl _, hN0, hid (Below.refl _ _)⟩
      case round =>
        obtain ⟨j, rfl, hj1, hjN, HB⟩ := hrel
        by_cases hgo : j < N
        · have t1 : (j : Int) < N := by omega
          go_wp2_with fail
          refine (D.out.nod j ⟨by omega, by rw [← NN.out]; omega⟩ (C.out.keep Ra9.out (Turn.of_new (S := fun _ => False) HB.out) fun _ _ h => h) (S1.out.on (b9.out.trans (HB.out.mono b9.out.size)))).mono ?_
          rintro e x1 ⟨rfl, k1⟩
          have H1 := hid (HB.out.trans (k1.mono HB.out.size))
          clear k1
          have hz : Blk (x1.alloc (.cells (ar 64 fun _ => 0) 50)) x1.heap.size 50 (ar 64 fun _ => 0) := Blk.new _ _ _
          go_upto_region 22 with (first | (with_reducible apply alA tS) | ((with_reducible apply stA tS); rfl; rfl; exact hz))
          have k2 := below_setRow ((Below.refl x1.heap.size x1).alloc (Nat.le_refl _) (.cells (ar 64 fun _ => 0) 50)) (Nat.le_refl _) (ar 64 (t.nd j))
          have pa := hid (hz.setRow_same (ar 64 (t.nd j)))
          clear hz
          generalize World.setRow _ x1.heap.size _ = x2 at k2 pa ⊢
          have H2 := hid (H1.out.trans (k2.mono H1.out.size))
          clear k2 H1
          go_wp2_with fail
          refine (D.out.nod j ⟨by omega, by rw [NU.out]; omega⟩ (C.out.keep Rb9.out (Turn.of_new (S := fun _ => False) H2.out) fun _ _ h => h) (S1.out.on (b9.out.trans (H2.out.mono b9.out.size)))).mono ?_
          rintro e x3 ⟨rfl, k3⟩
          have H3 := hid (H2.out.trans (k3.mono H2.out.size))
          have pa3 := hid (pa.out.below k3 pa.out.lt)
          have pl := pa3.out.lt
          clear k3 H2 pa
          have hz : Blk (x3.alloc (.cells (ar 64 fun _ => 0) 50)) x3.heap.size 50 (ar 64 fun _ => 0) := Blk.new _ _ _
          go_upto_region 23 with (first | (with_reducible apply alA tS) | ((with_reducible apply stA tS); rfl; rfl; exact hz))
          have k4 := below_setRow ((Below.refl x3.heap.size x3).alloc (Nat.le_refl _) (.cells (ar 64 fun _ => 0) 50)) (Nat.le_refl _) (ar 64 (u.nd j))
          have pb := hid (hz.setRow_same (ar 64 (u.nd j)))
          have pa4 := hid ((pa3.out.alloc (.cells (ar 64 fun _ => 0) 50)).setRow_other (g' := x3.heap.size) (by omega) (ar 64 (u.nd j)))
          clear hz
          generalize World.setRow _ x3.heap.size _ = x4 at k4 pb pa4 ⊢
          have H4 := hid (H3.out.trans (k4.mono H3.out.size))
          clear k4 H3 pa3 pl HB
          have z35 := hid (z39.out.below H4.out z39.out.lt)
          have q5 := hid (q9.out.below H4.out q9.out.lt)
          have P5 := hid (show ∀ i, i < a → x4.cell? ⟨g9, i, none⟩ = some (.int .i64 (pth a c i : Nat)) from fun i hi => (H4.out.cell (p := ⟨g9, i, none⟩) g9l.out).trans (P9.out i hi))
          have g5l := hid (Nat.lt_of_lt_of_le g9l.out H4.out.size)
          go_wp2_with fail
          go_loopw [21, 22] (fun uu vv wz => ∃ (i : Nat) (b : Bool), vv = .int .i64 i ∧ uu = .bool b ∧ i ≤ a ∧ b = decide (j ∈ (pthL a c).take i) ∧ x4 = wz) (fun _ vv _ => a - (intOf vv).toNat)
          case atStart => exact ⟨0, false, rfl, rfl, Nat.zero_le _, by simp, rfl⟩
          case round =>
            obtain ⟨i, b, rfl, rfl, hi, hbq, rfl⟩ := hrel
            have BQ := hid hbq
            clear hbq
            by_cases hia : i < a
            · have t2 : (i : Int) < a := by omega
              have t3 := P5.out i hia
              have PT := hid (pthL_take (leaf := c) hia)
              cases b
              · obtain ⟨q, hq⟩ : ∃ q, q = decide (pth a c i = j) := ⟨_, rfl⟩
                have t4 : ((pth a c i : Int) == (j : Int)) = q := by rw [hq, Bool.eq_iff_iff, beq_iff_eq, decide_eq_true_iff]; omega
                have BN := hid (show q = decide (j ∈ (pthL a c).take (i + 1)) by rw [PT.out, hq, Bool.eq_iff_iff, decide_eq_true_iff, decide_eq_true_iff, List.mem_append]; have h0 : j ∉ (pthL a c).take i := of_decide_eq_false BQ.out.symm; simp [h0, eq_comm])
                clear hq
                go_wp2_with fail
                go_roundw
                case rel => exact ⟨i + 1, q, by go_num, rfl, by omega, BN.out, trivial⟩
                case measure => simp [intOf] <;> omega
              · have BN := hid (show true = decide (j ∈ (pthL a c).take (i + 1)) by rw [PT.out]; exact (decide_eq_true (List.mem_append_left _ (of_decide_eq_true BQ.out.symm))).symm)
                go_wp2_with fail
                go_roundw
                case rel => exact ⟨i + 1, true, by go_num, rfl, by omega, BN.out, trivial⟩
                case measure => simp [intOf] <;> omega
            · have t2 : ¬ (i : Int) < a := by omega
              have MEM := hid (show b = decide (j ∈ pthL a c) by have := BQ.out; rwa [List.take_of_length_le (by rw [pthL_length]; omega)] at this)
              clear BQ
              cases b
              · have NJ := hid (of_decide_eq_false MEM.out.symm)
                have FI := hid (show ((j : Int) == (pth a c 0 : Int)) = false by rw [beq_eq_false_iff_ne]; intro e; exact NJ.out (by rw [show j = pth a c 0 by omega]; exact pthL_mem ha1))
                have SAME := hid (show eqA 64 (t.nd j) (u.nd j) = true by rw [OFF.out j hj1 hgo NJ.out]; exact eqA_refl _ _)
                go_upto_region 28 with fail
                refine wp_region_tail (C := fun w' => Below x4.heap.size x4 w') 32 (by kernel_rfl) (by kernel_rfl) (by kernel_rfl) (Below.refl _ _).drew ?_
                simp only [List.take_succ_cons, List.take_zero, List.drop_succ_cons, List.drop_zero]
                apply wpK_val
                · rfl
                · intro w' hw'
                  go_simp
                  first | exact rfl | exact ⟨rfl, hw'⟩
                simp only [Act.put, List.setIfInBounds_toArray, List.set_cons_succ, List.set_cons_zero]
                apply wpK_val
                · rfl
                · intro w' hw'
                  go_simp
                  first | exact rfl | exact ⟨rfl, hw'⟩
                simp only [Act.put, List.setIfInBounds_toArray, List.set_cons_succ, List.set_cons_zero]
                apply wpK_val
                · rfl
                · intro w' hw'
                  go_simp
                  first | exact rfl | exact ⟨rfl, hw'⟩
                simp only [Act.put, List.setIfInBounds_toArray, List.set_cons_succ, List.set_cons_zero]
                apply wpK_val
                · rfl
                · intro w' hw'
                  go_simp
                  first | exact rfl | exact ⟨rfl, hw'⟩
                simp only [Act.put, List.setIfInBounds_toArray, List.set_cons_succ, List.set_cons_zero]
                apply wpK_val
                · rfl
                · intro w' hw'
                  go_simp
                  first | exact rfl | exact ⟨rfl, hw'⟩
                simp only [Act.put, List.setIfInBounds_toArray, List.set_cons_succ, List.set_cons_zero]
                apply wpK_val
                · rfl
                · intro w' hw'
                  go_simp
                  first | exact rfl | exact ⟨rfl, hw'⟩
                simp only [Act.put, List.setIfInBounds_toArray, List.set_cons_succ, List.set_cons_zero]
                apply wpK_val
                · rfl
                · intro w' hw'
                  go_simp
                  first | exact rfl | exact ⟨rfl, hw'⟩
                simp only [Act.put, List.setIfInBounds_toArray, List.set_cons_succ, List.set_cons_zero]
                apply wpK_val
                · rfl
                · intro w' hw'
                  go_simp
                  first | exact rfl | exact ⟨rfl, hw'⟩
                simp only [Act.put, List.setIfInBounds_toArray, List.set_cons_succ, List.set_cons_zero]
                apply wpK_val
                · rfl
                · intro w' hw'
                  go_simp
                  first | exact rfl | exact ⟨rfl, hw'⟩
                simp only [Act.put, List.setIfInBounds_toArray, List.set_cons_succ, List.set_cons_zero]
                apply wpK_val
                · rfl
                · intro w' hw'
                  go_simp
                  first | exact rfl | exact ⟨rfl, hw'⟩
                simp only [Act.put, List.setIfInBounds_toArray, List.set_cons_succ, List.set_cons_zero]
                apply kldA tS
                · rfl
                · rfl
                · exact fun w' hw' => (pa4.out.below hw' pa4.out.lt).head
                simp only [Act.put, List.setIfInBounds_toArray, List.set_cons_succ, List.set_cons_zero]
                apply kldA tS
                · rfl
                · rfl
                · exact fun w' hw' => (pb.out.below hw' pb.out.lt).head
                simp only [Act.put, List.setIfInBounds_toArray, List.set_cons_succ, List.set_cons_zero]
                apply kneU false uS eqgS
                · rfl
                · rfl
                · rfl
                · exact (by rw [SAME.out]; rfl)
                simp only [Act.put, List.setIfInBounds_toArray, List.set_cons_succ, List.set_cons_zero]
                apply wpK_val
                · rfl
                · intro w' hw'
                  go_simp
                  first | exact rfl | exact ⟨rfl, hw'⟩
                simp only [Act.put, List.setIfInBounds_toArray, List.set_cons_succ, List.set_cons_zero]
                apply wpK_val
                · rfl
                · intro w' hw'
                  go_simp
                  first | exact rfl | exact ⟨rfl, hw'⟩
                simp only [Act.put, List.setIfInBounds_toArray, List.set_cons_succ, List.set_cons_zero]
                apply wpK_val
                · rfl
                · intro w' hw'
                  go_simp
                  first | exact rfl | exact ⟨rfl, hw'⟩
                simp only [Act.put, List.setIfInBounds_toArray, List.set_cons_succ, List.set_cons_zero]
                apply wpK_val
                · rfl
                · intro w' hw'
                  go_simp
                  first | exact rfl | exact ⟨rfl, hw'⟩
                simp only [Act.put, List.setIfInBounds_toArray, List.set_cons_succ, List.set_cons_zero]
                apply wpK_val
                · rfl
                · intro w' hw'
                  go_simp
                  first | exact rfl | exact ⟨rfl, hw'⟩
                simp only [Act.put, List.setIfInBounds_toArray, List.set_cons_succ, List.set_cons_zero]
                apply wpK_val
                · rfl
                · intro w' hw'
                  have h1 : 0 < a := ha1
                  go_simp
                  first | exact rfl | exact ⟨rfl, hw'⟩
                simp only [Act.put, List.setIfInBounds_toArray, List.set_cons_succ, List.set_cons_zero]
                apply wpK_val
                · rfl
                · intro w' hw'
                  have hcell := (hw'.cell (p := ⟨g9, 0, none⟩) g5l.out).trans (P5.out 0 ha1)
                  go_simp
                  first | exact rfl | exact ⟨rfl, hw'⟩
                simp only [Act.put, List.setIfInBounds_toArray, List.set_cons_succ, List.set_cons_zero]
                apply wpK_val
                · rfl
                · intro w' hw'
                  have h1 : ((j : Int) == (pth a c 0 : Int)) = false := FI.out
                  go_simp
                  first | exact rfl | exact ⟨rfl, hw'⟩
                simp only [Act.put, List.setIfInBounds_toArray, List.set_cons_succ, List.set_cons_zero]
                apply wpK_val
                · rfl
                · intro w' hw'
                  go_simp
                  first | exact rfl | exact ⟨rfl, hw'⟩
                simp only [Act.put, List.setIfInBounds_toArray, List.set_cons_succ, List.set_cons_zero]
                apply wpK_not
                · rfl
                simp only [Act.put, List.setIfInBounds_toArray, List.set_cons_succ, List.set_cons_zero]
                apply wpK_not
                · rfl
                simp only [Act.put, List.setIfInBounds_toArray, List.set_cons_succ, List.set_cons_zero]
                apply wpK_not
                · rfl
                simp only [Act.put, List.setIfInBounds_toArray, List.set_cons_succ, List.set_cons_zero]
                apply wpK_not
                · rfl
                simp only [Act.put, List.setIfInBounds_toArray, List.set_cons_succ, List.set_cons_zero]
                apply wpK_not
                · rfl
                simp only [Act.put, List.setIfInBounds_toArray, List.set_cons_succ, List.set_cons_zero]
                apply wpK_not
                · rfl
                simp only [Act.put, List.setIfInBounds_toArray, List.set_cons_succ, List.set_cons_zero]
                apply wpK_not
                · rfl
                simp only [Act.put, List.setIfInBounds_toArray, List.set_cons_succ, List.set_cons_zero]
                apply wpK_not
                · rfl
                simp only [Act.put, List.setIfInBounds_toArray, List.set_cons_succ, List.set_cons_zero]
                apply wpK_val
                · rfl
                · intro w' hw'
                  go_simp
                  first | exact rfl | exact ⟨rfl, hw'⟩
                simp only [Act.put, List.setIfInBounds_toArray, List.set_cons_succ, List.set_cons_zero]
                apply wpK_val
                · rfl
                · intro w' hw'
                  go_simp
                  first | exact rfl | exact ⟨rfl, hw'⟩
                simp only [Act.put, List.setIfInBounds_toArray, List.set_cons_succ, List.set_cons_zero]
                refine wpK_nil fun x5 k5 => ?_
                have H5 := hid (H4.out.trans (k5.mono H4.out.size))
                clear k5 H4 pa4 pb z35 q5
                go_wp2_with fail
                go_roundw
                case rel => exact ⟨j + 1, by go_num, by omega, by omega, H5⟩
                case measure => simp [intOf] <;> omega
              · by_cases hf0 : j = pth a c 0
                · have FI := hid (show ((j : Int) == (pth a c 0 : Int)) = true by rw [beq_iff_eq]; omega)
                  obtain ⟨r, hr⟩ : ∃ r, r = eqA 32 (t.L c) f := ⟨_, rfl⟩
                  have ET := hid hr.symm
                  have EN := hid (show eqA 64 (t.nd j) (u.nd j) = r by rw [hr, hf0]; exact LOW.out)
                  clear hr hf0
                  go_upto_region 28 with fail
                  refine wp_region_tail (C := fun w' => Below x4.heap.size x4 w') 32 (by kernel_rfl) (by kernel_rfl) (by kernel_rfl) (Below.refl _ _).drew ?_
                  simp only [List.take_succ_cons, List.take_zero, List.drop_succ_cons, List.drop_zero]
                  apply wpK_val
                  · rfl
                  · intro w' hw'
                    go_simp
                    first | exact rfl | exact ⟨rfl, hw'⟩
                  simp only [Act.put, List.setIfInBounds_toArray, List.set_cons_succ, List.set_cons_zero]
                  apply wpK_val
                  · rfl
                  · intro w' hw'
                    go_simp
                    first | exact rfl | exact ⟨rfl, hw'⟩
                  simp only [Act.put, List.setIfInBounds_toArray, List.set_cons_succ, List.set_cons_zero]
                  apply wpK_val
                  · rfl
                  · intro w' hw'
                    go_simp
                    first | exact rfl | exact ⟨rfl, hw'⟩
                  simp only [Act.put, List.setIfInBounds_toArray, List.set_cons_succ, List.set_cons_zero]
                  apply wpK_val
                  · rfl
                  · intro w' hw'
                    go_simp
                    first | exact rfl | exact ⟨rfl, hw'⟩
                  simp only [Act.put, List.setIfInBounds_toArray, List.set_cons_succ, List.set_cons_zero]
                  apply wpK_val
                  · rfl
                  · intro w' hw'
                    go_simp
                    first | exact rfl | exact ⟨rfl, hw'⟩
                  simp only [Act.put, List.setIfInBounds_toArray, List.set_cons_succ, List.set_cons_zero]
                  apply wpK_val
                  · rfl
                  · intro w' hw'
                    go_simp
                    first | exact rfl | exact ⟨rfl, hw'⟩
                  simp only [Act.put, List.setIfInBounds_toArray, List.set_cons_succ, List.set_cons_zero]
                  apply wpK_val
                  · rfl
                  · intro w' hw'
                    go_simp
                    first | exact rfl | exact ⟨rfl, hw'⟩
                  simp only [Act.put, List.setIfInBounds_toArray, List.set_cons_succ, List.set_cons_zero]
                  apply wpK_val
                  · rfl
                  · intro w' hw'
                    go_simp
                    first | exact rfl | exact ⟨rfl, hw'⟩
                  simp only [Act.put, List.setIfInBounds_toArray, List.set_cons_succ, List.set_cons_zero]
                  apply wpK_val
                  · rfl
                  · intro w' hw'
                    go_simp
                    first | exact rfl | exact ⟨rfl, hw'⟩
                  simp only [Act.put, List.setIfInBounds_toArray, List.set_cons_succ, List.set_cons_zero]
                  apply wpK_val
                  · rfl
                  · intro w' hw'
                    go_simp
                    first | exact rfl | exact ⟨rfl, hw'⟩
                  simp only [Act.put, List.setIfInBounds_toArray, List.set_cons_succ, List.set_cons_zero]
                  apply wpK_not
                  · rfl
                  simp only [Act.put, List.setIfInBounds_toArray, List.set_cons_succ, List.set_cons_zero]
                  apply wpK_not
                  · rfl
                  simp only [Act.put, List.setIfInBounds_toArray, List.set_cons_succ, List.set_cons_zero]
                  apply wpK_not
                  · rfl
                  simp only [Act.put, List.setIfInBounds_toArray, List.set_cons_succ, List.set_cons_zero]
                  apply wpK_val
                  · rfl
                  · intro w' hw'
                    go_simp
                    first | exact rfl | exact ⟨rfl, hw'⟩
                  simp only [Act.put, List.setIfInBounds_toArray, List.set_cons_succ, List.set_cons_zero]
                  apply wpK_val
                  · rfl
                  · intro w' hw'
                    go_simp
                    first | exact rfl | exact ⟨rfl, hw'⟩
                  simp only [Act.put, List.setIfInBounds_toArray, List.set_cons_succ, List.set_cons_zero]
                  apply wpK_val
                  · rfl
                  · intro w' hw'
                    go_simp
                    first | exact rfl | exact ⟨rfl, hw'⟩
                  simp only [Act.put, List.setIfInBounds_toArray, List.set_cons_succ, List.set_cons_zero]
                  apply wpK_val
                  · rfl
                  · intro w' hw'
                    go_simp
                    first | exact rfl | exact ⟨rfl, hw'⟩
                  simp only [Act.put, List.setIfInBounds_toArray, List.set_cons_succ, List.set_cons_zero]
                  apply wpK_val
                  · rfl
                  · intro w' hw'
                    go_simp
                    first | exact rfl | exact ⟨rfl, hw'⟩
                  simp only [Act.put, List.setIfInBounds_toArray, List.set_cons_succ, List.set_cons_zero]
                  apply wpK_val
                  · rfl
                  · intro w' hw'
                    have h1 : 0 < a := ha1
                    go_simp
                    first | exact rfl | exact ⟨rfl, hw'⟩
                  simp only [Act.put, List.setIfInBounds_toArray, List.set_cons_succ, List.set_cons_zero]
                  apply wpK_val
                  · rfl
                  · intro w' hw'
                    have hcell := (hw'.cell (p := ⟨g9, 0, none⟩) g5l.out).trans (P5.out 0 ha1)
                    go_simp
                    first | exact rfl | exact ⟨rfl, hw'⟩
                  simp only [Act.put, List.setIfInBounds_toArray, List.set_cons_succ, List.set_cons_zero]
                  apply wpK_val
                  · rfl
                  · intro w' hw'
                    have h1 : ((j : Int) == (pth a c 0 : Int)) = true := FI.out
                    go_simp
                    first | exact rfl | exact ⟨rfl, hw'⟩
                  simp only [Act.put, List.setIfInBounds_toArray, List.set_cons_succ, List.set_cons_zero]
                  apply wpK_val
                  · rfl
                  · intro w' hw'
                    go_simp
                    first | exact rfl | exact ⟨rfl, hw'⟩
                  simp only [Act.put, List.setIfInBounds_toArray, List.set_cons_succ, List.set_cons_zero]
                  apply kldA tS
                  · rfl
                  · rfl
                  · exact fun w' hw' => (pa4.out.below hw' pa4.out.lt).head
                  simp only [Act.put, List.setIfInBounds_toArray, List.set_cons_succ, List.set_cons_zero]
                  apply kldA tS
                  · rfl
                  · rfl
                  · exact fun w' hw' => (pb.out.below hw' pb.out.lt).head
                  simp only [Act.put, List.setIfInBounds_toArray, List.set_cons_succ, List.set_cons_zero]
                  apply keqU r uS eqgS
                  · rfl
                  · rfl
                  · rfl
                  · exact EN.out
                  simp only [Act.put, List.setIfInBounds_toArray, List.set_cons_succ, List.set_cons_zero]
                  apply kldA tT
                  · rfl
                  · rfl
                  · exact fun w' hw' => (q5.out.below hw' q5.out.lt).head
                  simp only [Act.put, List.setIfInBounds_toArray, List.set_cons_succ, List.set_cons_zero]
                  apply wpK_val
                  · rfl
                  · intro w' hw'
                    go_simp
                    first | exact rfl | exact ⟨rfl, hw'⟩
                  simp only [Act.put, List.setIfInBounds_toArray, List.set_cons_succ, List.set_cons_zero]
                  apply kldA tT
                  · rfl
                  · rfl
                  · exact fun w' hw' => cm_tag (z35.out.below hw' z35.out.lt)
                  simp only [Act.put, List.setIfInBounds_toArray, List.set_cons_succ, List.set_cons_zero]
                  apply keqU r uT eqgT
                  · rfl
                  · rfl
                  · rfl
                  · exact ET.out
                  simp only [Act.put, List.setIfInBounds_toArray, List.set_cons_succ, List.set_cons_zero]
                  apply wpK_val
                  · rfl
                  · intro w' hw'
                    have h1 : (r != r) = false := by simp
                    go_simp
                    first | exact rfl | exact ⟨rfl, hw'⟩
                  simp only [Act.put, List.setIfInBounds_toArray, List.set_cons_succ, List.set_cons_zero]
                  apply wpK_val
                  · rfl
                  · intro w' hw'
                    go_simp
                    first | exact rfl | exact ⟨rfl, hw'⟩
                  simp only [Act.put, List.setIfInBounds_toArray, List.set_cons_succ, List.set_cons_zero]
                  apply wpK_val
                  · rfl
                  · intro w' hw'
                    go_simp
                    first | exact rfl | exact ⟨rfl, hw'⟩
                  simp only [Act.put, List.setIfInBounds_toArray, List.set_cons_succ, List.set_cons_zero]
                  refine wpK_nil fun x5 k5 => ?_
                  have H5 := hid (H4.out.trans (k5.mono H4.out.size))
                  clear k5 H4 pa4 pb z35 q5
                  go_wp2_with fail
                  go_roundw
                  case rel => exact ⟨j + 1, by go_num, by omega, by omega, H5⟩
                  case measure => simp [intOf] <;> omega
                · have FI := hid (show ((j : Int) == (pth a c 0 : Int)) = false by rw [beq_eq_false_iff_ne]; omega)
                  clear hf0
                  go_upto_region 28 with fail
                  refine wp_region_tail (C := fun w' => Below x4.heap.size x4 w') 32 (by kernel_rfl) (by kernel_rfl) (by kernel_rfl) (Below.refl _ _).drew ?_
                  simp only [List.take_succ_cons, List.take_zero, List.drop_succ_cons, List.drop_zero]
                  apply wpK_val
                  · rfl
                  · intro w' hw'
                    go_simp
                    first | exact rfl | exact ⟨rfl, hw'⟩
                  simp only [Act.put, List.setIfInBounds_toArray, List.set_cons_succ, List.set_cons_zero]
                  apply wpK_val
                  · rfl
                  · intro w' hw'
                    go_simp
                    first | exact rfl | exact ⟨rfl, hw'⟩
                  simp only [Act.put, List.setIfInBounds_toArray, List.set_cons_succ, List.set_cons_zero]
                  apply wpK_val
                  · rfl
                  · intro w' hw'
                    go_simp
                    first | exact rfl | exact ⟨rfl, hw'⟩
                  simp only [Act.put, List.setIfInBounds_toArray, List.set_cons_succ, List.set_cons_zero]
                  apply wpK_val
                  · rfl
                  · intro w' hw'
                    go_simp
                    first | exact rfl | exact ⟨rfl, hw'⟩
                  simp only [Act.put, List.setIfInBounds_toArray, List.set_cons_succ, List.set_cons_zero]
                  apply wpK_val
                  · rfl
                  · intro w' hw'
                    go_simp
                    first | exact rfl | exact ⟨rfl, hw'⟩
                  simp only [Act.put, List.setIfInBounds_toArray, List.set_cons_succ, List.set_cons_zero]
                  apply wpK_val
                  · rfl
                  · intro w' hw'
                    go_simp
                    first | exact rfl | exact ⟨rfl, hw'⟩
                  simp only [Act.put, List.setIfInBounds_toArray, List.set_cons_succ, List.set_cons_zero]
                  apply wpK_val
                  · rfl
                  · intro w' hw'
                    go_simp
                    first | exact rfl | exact ⟨rfl, hw'⟩
                  simp only [Act.put, List.setIfInBounds_toArray, List.set_cons_succ, List.set_cons_zero]
                  apply wpK_val
                  · rfl
                  · intro w' hw'
                    go_simp
                    first | exact rfl | exact ⟨rfl, hw'⟩
                  simp only [Act.put, List.setIfInBounds_toArray, List.set_cons_succ, List.set_cons_zero]
                  apply wpK_val
                  · rfl
                  · intro w' hw'
                    go_simp
                    first | exact rfl | exact ⟨rfl, hw'⟩
                  simp only [Act.put, List.setIfInBounds_toArray, List.set_cons_succ, List.set_cons_zero]
                  apply wpK_val
                  · rfl
                  · intro w' hw'
                    go_simp
                    first | exact rfl | exact ⟨rfl, hw'⟩
                  simp only [Act.put, List.setIfInBounds_toArray, List.set_cons_succ, List.set_cons_zero]
                  apply wpK_not
                  · rfl
                  simp only [Act.put, List.setIfInBounds_toArray, List.set_cons_succ, List.set_cons_zero]
                  apply wpK_not
                  · rfl
                  simp only [Act.put, List.setIfInBounds_toArray, List.set_cons_succ, List.set_cons_zero]
                  apply wpK_not
                  · rfl
                  simp only [Act.put, List.setIfInBounds_toArray, List.set_cons_succ, List.set_cons_zero]
                  apply wpK_val
                  · rfl
                  · intro w' hw'
                    go_simp
                    first | exact rfl | exact ⟨rfl, hw'⟩
                  simp only [Act.put, List.setIfInBounds_toArray, List.set_cons_succ, List.set_cons_zero]
                  apply wpK_val
                  · rfl
                  · intro w' hw'
                    go_simp
                    first | exact rfl | exact ⟨rfl, hw'⟩
                  simp only [Act.put, List.setIfInBounds_toArray, List.set_cons_succ, List.set_cons_zero]
                  apply wpK_val
                  · rfl
                  · intro w' hw'
                    go_simp
                    first | exact rfl | exact ⟨rfl, hw'⟩
                  simp only [Act.put, List.setIfInBounds_toArray, List.set_cons_succ, List.set_cons_zero]
                  apply wpK_val
                  · rfl
                  · intro w' hw'
                    go_simp
                    first | exact rfl | exact ⟨rfl, hw'⟩
                  simp only [Act.put, List.setIfInBounds_toArray, List.set_cons_succ, List.set_cons_zero]
                  apply wpK_val
                  · rfl
                  · intro w' hw'
                    go_simp
                    first | exact rfl | exact ⟨rfl, hw'⟩
                  simp only [Act.put, List.setIfInBounds_toArray, List.set_cons_succ, List.set_cons_zero]
                  apply wpK_val
                  · rfl
                  · intro w' hw'
                    have h1 : 0 < a := ha1
                    go_simp
                    first | exact rfl | exact ⟨rfl, hw'⟩
                  simp only [Act.put, List.setIfInBounds_toArray, List.set_cons_succ, List.set_cons_zero]
                  apply wpK_val
                  · rfl
                  · intro w' hw'
                    have hcell := (hw'.cell (p := ⟨g9, 0, none⟩) g5l.out).trans (P5.out 0 ha1)
                    go_simp
                    first | exact rfl | exact ⟨rfl, hw'⟩
                  simp only [Act.put, List.setIfInBounds_toArray, List.set_cons_succ, List.set_cons_zero]
                  apply wpK_val
                  · rfl
                  · intro w' hw'
                    have h1 : ((j : Int) == (pth a c 0 : Int)) = false := FI.out
                    go_simp
                    first | exact rfl | exact ⟨rfl, hw'⟩
                  simp only [Act.put, List.setIfInBounds_toArray, List.set_cons_succ, List.set_cons_zero]
                  apply wpK_val
                  · rfl
                  · intro w' hw'
                    go_simp
                    first | exact rfl | exact ⟨rfl, hw'⟩
                  simp only [Act.put, List.setIfInBounds_toArray, List.set_cons_succ, List.set_cons_zero]
                  apply wpK_not
                  · rfl
                  simp only [Act.put, List.setIfInBounds_toArray, List.set_cons_succ, List.set_cons_zero]
                  apply wpK_not
                  · rfl
                  simp only [Act.put, List.setIfInBounds_toArray, List.set_cons_succ, List.set_cons_zero]
                  apply wpK_not
                  · rfl
                  simp only [Act.put, List.setIfInBounds_toArray, List.set_cons_succ, List.set_cons_zero]
                  apply wpK_not
                  · rfl
                  simp only [Act.put, List.setIfInBounds_toArray, List.set_cons_succ, List.set_cons_zero]
                  apply wpK_not
                  · rfl
                  simp only [Act.put, List.setIfInBounds_toArray, List.set_cons_succ, List.set_cons_zero]
                  apply wpK_not
                  · rfl
                  simp only [Act.put, List.setIfInBounds_toArray, List.set_cons_succ, List.set_cons_zero]
                  apply wpK_not
                  · rfl
                  simp only [Act.put, List.setIfInBounds_toArray, List.set_cons_succ, List.set_cons_zero]
                  apply wpK_not
                  · rfl
                  simp only [Act.put, List.setIfInBounds_toArray, List.set_cons_succ, List.set_cons_zero]
                  apply wpK_val
                  · rfl
                  · intro w' hw'
                    go_simp
                    first | exact rfl | exact ⟨rfl, hw'⟩
                  simp only [Act.put, List.setIfInBounds_toArray, List.set_cons_succ, List.set_cons_zero]
                  apply wpK_val
                  · rfl
                  · intro w' hw'
                    go_simp
                    first | exact rfl | exact ⟨rfl, hw'⟩
                  simp only [Act.put, List.setIfInBounds_toArray, List.set_cons_succ, List.set_cons_zero]
                  refine wpK_nil fun x5 k5 => ?_
                  have H5 := hid (H4.out.trans (k5.mono H4.out.size))
                  clear k5 H4 pa4 pb z35 q5
                  go_wp2_with fail
                  go_roundw
                  case rel => exact ⟨j + 1, by go_num, by omega, by omega, H5⟩
                  case measure => simp [intOf] <;> omega
        · have t1 : ¬ (j : Int) < N := by omega
          go_wp2_with fail
          refine (WE.out wr (b9.out.trans (HB.out.mono b9.out.size))).mono ?_
          rintro e w9 ⟨rfl, h9⟩
          have db := hid (hb.out.trans (((b9.out.trans (HB.out.mono b9.out.size)).trans (h9.mono (b9.out.trans (HB.out.mono b9.out.size)).size)).mono hb.out.size))
          clear h9
          go_wp2_with fail
          go_ret
          exact ⟨rfl, db.out⟩
    · have hc : ∃ c : Nat, leaf.tmod N = c := ⟨(leaf.tmod N).toNat, by omega⟩
      obtain ⟨c, hc⟩ := hc
      have hcN : c < N := by omega
      have hcN2 : c < t.n := by rw [← NN.out]; exact hcN
      have t5 : decide (leaf.tmod N < 0) = false := decide_eq_false (by omega)
      have t6 : ¬ leaf.tmod N < 0 := hneg
      have t7 : ((N : Int) == 0) = false := by rw [beq_eq_false_iff_ne]; omega
      have t8 : wrap64 ((N : Int) + (c : Int)) = ((N + c : Nat) : Int) := wrap_small (by omega)
      go_upto_region 13 with fail
      have Ra5 := hid R3.out
      have Rb5 := hid R2.out
      have z25 := hid z2.out
      have z35 := hid z3.out
      clear R3 R2 z2 z3 z1 v0 v1
      go_wp2_with fail
      refine (show Calls Tryd.prog 15 #[pT ga, .int .i64 ((N + c : Nat) : Int)] w5 _ from D.out.tag (N + c) (has_leaf NN.out hcN) Ra5.out (S1.out.on b5.out)).mono ?_
      rintro e w6 ⟨rfl, h6⟩
      have Ra6 := hid (C.out.keep Ra5.out (Turn.of_new (S := fun _ => False) h6) fun _ _ h => h)
      have Rb6 := hid (C.out.keep Rb5.out (Turn.of_new (S := fun _ => False) h6) fun _ _ h => h)
      have z26 := hid (z25.out.below h6 z25.out.lt)
      have z36 := hid (z35.out.below h6 z35.out.lt)
      have b6 := hid (b5.out.trans ((h6).mono b5.out.size))
      clear Ra5 Rb5 z25 z35 b5
      have s6 := h6.size
      clear h6
      rw [show t.tg (N + c) = t.L c from tg_lf NN.out]
      have hz : Blk (w6.alloc (.cells (ar 32 fun _ => 0) 36)) w6.heap.size 36 (ar 32 fun _ => 0) := Blk.new _ _ _
      go_upto_region 14 with (first | (with_reducible apply alA tT) | ((with_reducible apply stA tT); rfl; rfl; exact hz))
      have h7 := below_setRow ((Below.refl w6.heap.size w6).alloc (Nat.le_refl _) (.cells (ar 32 fun _ => 0) 36)) (Nat.le_refl _) (ar 32 (t.L c))
      have q7 := hid (hz.setRow_same (ar 32 (t.L c)))
      clear hz
      generalize World.setRow _ w6.heap.size _ = w7 at h7 q7 ⊢
      have Ra7 := hid (C.out.keep Ra6.out (Turn.of_new (S := fun _ => False) h7) fun _ _ h => h)
      have Rb7 := hid (C.out.keep Rb6.out (Turn.of_new (S := fun _ => False) h7) fun _ _ h => h)
      have z27 := hid (z26.out.below h7 z26.out.lt)
      have z37 := hid (z36.out.below h7 z36.out.lt)
      have b7 := hid (b6.out.trans ((h7).mono b6.out.size))
      clear Ra6 Rb6 z26 z36 b6
      have LM := hid (show ∀ b, Mu b → b < w6.heap.size from fun b hb => Nat.lt_of_lt_of_le (L2.out.2 b hb) s6)
      clear h7
      go_wp2_with ((with_reducible apply ldAm tT); rfl; exact cm_tag z37.out)
      refine (C.out.set c f hcN2 TF.out Rb7.out (S1.out.on b7.out)).mono ?_
      rintro e w8 ⟨vl, M8, rfl, _, r8, m8, _, t8⟩
      have h8 := t8.below b7.out.size fun b hb => Nat.le_trans s4.out (M2.out b hb)
      have Ra8 := hid (C.out.keep Ra7.out t8 fun b hb hm => absurd (L1.out.2 b hb) (by have := M2.out b hm; omega))
      have Rb8 := hid r8
      have z28 := hid (z27.out.turn t8 fun h => by have := M2.out _ h; have := hs4.out; omega)
      have z38 := hid (z37.out.turn t8 fun h => by have := M2.out _ h; have := hs4.out; omega)
      have q8 := hid (q7.out.turn t8 fun h => absurd (LM.out _ h) (Nat.lt_irrefl _))
      have b8 := hid (b7.out.trans h8)
      have v2 : w8.cell? ⟨w.heap.size + 1, 0, none⟩ = some (.int .i64 (a : Nat)) := z28.out.cell 0
      clear h8 r8 m8 t8 Ra7 Rb7 z27 z37 q7 b7 s6 LM L1 L2 M1 M2 hs4 s4
      go_wp2_with fail
      refine (D.out.path a c HO.out (by rw [← TN.out]; exact hcN2) w8).mono ?_
      rintro e w9 ⟨v, rfl, o9, h9⟩
      obtain ⟨g9, c9, rfl, p9⟩ := OwnI.get o9 (j := 0) (by rw [pthL_length]; exact ha1)
      have g9l := hid (OwnI.lt o9 g9 rfl).2
      have P9 := hid (show ∀ i, i < a → w9.cell? ⟨g9, i, none⟩ = some (.int .i64 (pth a c i : Nat)) from fun i hi => by have := p9 i (by rw [pthL_length]; exact hi); rwa [pthL_get hi] at this)
      rw [pthL_length]
      have Ra9 := hid (C.out.keep Ra8.out (Turn.of_new (S := fun _ => False) h9) fun _ _ h => h)
      have Rb9 := hid (C.out.keep Rb8.out (Turn.of_new (S := fun _ => False) h9) fun _ _ h => h)
      have z29 := hid (z28.out.below h9 z28.out.lt)
      have z39 := hid (z38.out.below h9 z38.out.lt)
      have b9 := hid (b8.out.trans ((h9).mono b8.out.size))
      have q9 := hid (q8.out.below h9 q8.out.lt)
      clear Ra8 Rb8 z28 z38 b8 q8
      clear h9 o9 p9 v2
      have v3 : w9.cell? ⟨w.heap.size + 1, 0, none⟩ = some (.int .i64 (a : Nat)) := z29.out.cell 0
      have OFF := hid (fun j (h1 : 1 ≤ j) (h2 : j < N) (hn : j ∉ pthL a c) => by have := nd_off (t := t) (f := f) hcN2 h1 (by rw [← NN.out]; exact h2) (by rw [TH.out]; exact hn); exact this)
      have LOW := hid (show eqA 64 (t.nd (pth a c 0)) ((t.set c f).nd (pth a c 0)) = eqA 32 (t.L c) f by rw [pth_zero, ← TN.out]; exact low_eq (by rw [TH.out]; exact ha1))
      have NU := hid (show (t.set c f).n = N from NN.out.symm)
      generalize hu : t.set c f = u at OFF LOW NU Rb9
      clear hu
      clear t5 t6 t7 t8 hc hneg hb1
      go_wp2_with fail
      go_loopw [16] (fun uu wr => ∃ j : Nat, uu = .int .i64 j ∧ 1 ≤ j ∧ j ≤ N ∧ Hid (Below w9.heap.size w9 wr)) (fun uu _ => N - (intOf uu).toNat)
      case atStart => exact ⟨1, rfl, Nat.le_refl _, hN0, hid (Below.refl _ _)⟩
      case round =>
        obtain ⟨j, rfl, hj1, hjN, HB⟩ := hrel
        by_cases hgo : j < N
        · have t1 : (j : Int) < N := by omega
          go_wp2_with fail
          refine (D.out.nod j ⟨by omega, by rw [← NN.out]; omega⟩ (C.out.keep Ra9.out (Turn.of_new (S := fun _ => False) HB.out) fun _ _ h => h) (S1.out.on (b9.out.trans (HB.out.mono b9.out.size)))).mono ?_
          rintro e x1 ⟨rfl, k1⟩
          have H1 := hid (HB.out.trans (k1.mono HB.out.size))
          clear k1
          have hz : Blk (x1.alloc (.cells (ar 64 fun _ => 0) 50)) x1.heap.size 50 (ar 64 fun _ => 0) := Blk.new _ _ _
          go_upto_region 22 with (first | (with_reducible apply alA tS) | ((with_reducible apply stA tS); rfl; rfl; exact hz))
          have k2 := below_setRow ((Below.refl x1.heap.size x1).alloc (Nat.le_refl _) (.cells (ar 64 fun _ => 0) 50)) (Nat.le_refl _) (ar 64 (t.nd j))
          have pa := hid (hz.setRow_same (ar 64 (t.nd j)))
          clear hz
          generalize World.setRow _ x1.heap.size _ = x2 at k2 pa ⊢
          have H2 := hid (H1.out.trans (k2.mono H1.out.size))
          clear k2 H1
          go_wp2_with fail
          refine (D.out.nod j ⟨by omega, by rw [NU.out]; omega⟩ (C.out.keep Rb9.out (Turn.of_new (S := fun _ => False) H2.out) fun _ _ h => h) (S1.out.on (b9.out.trans (H2.out.mono b9.out.size)))).mono ?_
          rintro e x3 ⟨rfl, k3⟩
          have H3 := hid (H2.out.trans (k3.mono H2.out.size))
          have pa3 := hid (pa.out.below k3 pa.out.lt)
          have pl := pa3.out.lt
          clear k3 H2 pa
          have hz : Blk (x3.alloc (.cells (ar 64 fun _ => 0) 50)) x3.heap.size 50 (ar 64 fun _ => 0) := Blk.new _ _ _
          go_upto_region 23 with (first | (with_reducible apply alA tS) | ((with_reducible apply stA tS); rfl; rfl; exact hz))
          have k4 := below_setRow ((Below.refl x3.heap.size x3).alloc (Nat.le_refl _) (.cells (ar 64 fun _ => 0) 50)) (Nat.le_refl _) (ar 64 (u.nd j))
          have pb := hid (hz.setRow_same (ar 64 (u.nd j)))
          have pa4 := hid ((pa3.out.alloc (.cells (ar 64 fun _ => 0) 50)).setRow_other (g' := x3.heap.size) (by omega) (ar 64 (u.nd j)))
          clear hz
          generalize World.setRow _ x3.heap.size _ = x4 at k4 pb pa4 ⊢
          have H4 := hid (H3.out.trans (k4.mono H3.out.size))
          clear k4 H3 pa3 pl HB
          have z35 := hid (z39.out.below H4.out z39.out.lt)
          have q5 := hid (q9.out.below H4.out q9.out.lt)
          have P5 := hid (show ∀ i, i < a → x4.cell? ⟨g9, i, none⟩ = some (.int .i64 (pth a c i : Nat)) from fun i hi => (H4.out.cell (p := ⟨g9, i, none⟩) g9l.out).trans (P9.out i hi))
          have g5l := hid (Nat.lt_of_lt_of_le g9l.out H4.out.size)
          go_wp2_with fail
          go_loopw [21, 22] (fun uu vv wz => ∃ (i : Nat) (b : Bool), vv = .int .i64 i ∧ uu = .bool b ∧ i ≤ a ∧ b = decide (j ∈ (pthL a c).take i) ∧ x4 = wz) (fun _ vv _ => a - (intOf vv).toNat)
          case atStart => exact ⟨0, false, rfl, rfl, Nat.zero_le _, by simp, rfl⟩
          case round =>
            obtain ⟨i, b, rfl, rfl, hi, hbq, rfl⟩ := hrel
            have BQ := hid hbq
            clear hbq
            by_cases hia : i < a
            · have t2 : (i : Int) < a := by omega
              have t3 := P5.out i hia
              have PT := hid (pthL_take (leaf := c) hia)
              cases b
              · obtain ⟨q, hq⟩ : ∃ q, q = decide (pth a c i = j) := ⟨_, rfl⟩
                have t4 : ((pth a c i : Int) == (j : Int)) = q := by rw [hq, Bool.eq_iff_iff, beq_iff_eq, decide_eq_true_iff]; omega
                have BN := hid (show q = decide (j ∈ (pthL a c).take (i + 1)) by rw [PT.out, hq, Bool.eq_iff_iff, decide_eq_true_iff, decide_eq_true_iff, List.mem_append]; have h0 : j ∉ (pthL a c).take i := of_decide_eq_false BQ.out.symm; simp [h0, eq_comm])
                clear hq
                go_wp2_with fail
                go_roundw
                case rel => exact ⟨i + 1, q, by go_num, rfl, by omega, BN.out, trivial⟩
                case measure => simp [intOf] <;> omega
              · have BN := hid (show true = decide (j ∈ (pthL a c).take (i + 1)) by rw [PT.out]; exact (decide_eq_true (List.mem_append_left _ (of_decide_eq_true BQ.out.symm))).symm)
                go_wp2_with fail
                go_roundw
                case rel => exact ⟨i + 1, true, by go_num, rfl, by omega, BN.out, trivial⟩
                case measure => simp [intOf] <;> omega
            · have t2 : ¬ (i : Int) < a := by omega
              have MEM := hid (show b = decide (j ∈ pthL a c) by have := BQ.out; rwa [List.take_of_length_le (by rw [pthL_length]; omega)] at this)
              clear BQ
              cases b
              · have NJ := hid (of_decide_eq_false MEM.out.symm)
                have FI := hid (show ((j : Int) == (pth a c 0 : Int)) = false by rw [beq_eq_false_iff_ne]; intro e; exact NJ.out (by rw [show j = pth a c 0 by omega]; exact pthL_mem ha1))
                have SAME := hid (show eqA 64 (t.nd j) (u.nd j) = true by rw [OFF.out j hj1 hgo NJ.out]; exact eqA_refl _ _)
                go_upto_region 28 with fail
                refine wp_region_tail (C := fun w' => Below x4.heap.size x4 w') 32 (by kernel_rfl) (by kernel_rfl) (by kernel_rfl) (Below.refl _ _).drew ?_
                simp only [List.take_succ_cons, List.take_zero, List.drop_succ_cons, List.drop_zero]
                apply wpK_val
                · rfl
                · intro w' hw'
                  go_simp
                  first | exact rfl | exact ⟨rfl, hw'⟩
                simp only [Act.put, List.setIfInBounds_toArray, List.set_cons_succ, List.set_cons_zero]
                apply wpK_val
                · rfl
                · intro w' hw'
                  go_simp
                  first | exact rfl | exact ⟨rfl, hw'⟩
                simp only [Act.put, List.setIfInBounds_toArray, List.set_cons_succ, List.set_cons_zero]
                apply wpK_val
                · rfl
                · intro w' hw'
                  go_simp
                  first | exact rfl | exact ⟨rfl, hw'⟩
                simp only [Act.put, List.setIfInBounds_toArray, List.set_cons_succ, List.set_cons_zero]
                apply wpK_val
                · rfl
                · intro w' hw'
                  go_simp
                  first | exact rfl | exact ⟨rfl, hw'⟩
                simp only [Act.put, List.setIfInBounds_toArray, List.set_cons_succ, List.set_cons_zero]
                apply wpK_val
                · rfl
                · intro w' hw'
                  go_simp
                  first | exact rfl | exact ⟨rfl, hw'⟩
                simp only [Act.put, List.setIfInBounds_toArray, List.set_cons_succ, List.set_cons_zero]
                apply wpK_val
                · rfl
                · intro w' hw'
                  go_simp
                  first | exact rfl | exact ⟨rfl, hw'⟩
                simp only [Act.put, List.setIfInBounds_toArray, List.set_cons_succ, List.set_cons_zero]
                apply wpK_val
                · rfl
                · intro w' hw'
                  go_simp
                  first | exact rfl | exact ⟨rfl, hw'⟩
                simp only [Act.put, List.setIfInBounds_toArray, List.set_cons_succ, List.set_cons_zero]
                apply wpK_val
                · rfl
                · intro w' hw'
                  go_simp
                  first | exact rfl | exact ⟨rfl, hw'⟩
                simp only [Act.put, List.setIfInBounds_toArray, List.set_cons_succ, List.set_cons_zero]
                apply wpK_val
                · rfl
                · intro w' hw'
                  go_simp
                  first | exact rfl | exact ⟨rfl, hw'⟩
                simp only [Act.put, List.setIfInBounds_toArray, List.set_cons_succ, List.set_cons_zero]
                apply wpK_val
                · rfl
                · intro w' hw'
                  go_simp
                  first | exact rfl | exact ⟨rfl, hw'⟩
                simp only [Act.put, List.setIfInBounds_toArray, List.set_cons_succ, List.set_cons_zero]
                apply kldA tS
                · rfl
                · rfl
                · exact fun w' hw' => (pa4.out.below hw' pa4.out.lt).head
                simp only [Act.put, List.setIfInBounds_toArray, List.set_cons_succ, List.set_cons_zero]
                apply kldA tS
                · rfl
                · rfl
                · exact fun w' hw' => (pb.out.below hw' pb.out.lt).head
                simp only [Act.put, List.setIfInBounds_toArray, List.set_cons_succ, List.set_cons_zero]
                apply kneU false uS eqgS
                · rfl
                · rfl
                · rfl
                · exact (by rw [SAME.out]; rfl)
                simp only [Act.put, List.setIfInBounds_toArray, List.set_cons_succ, List.set_cons_zero]
                apply wpK_val
                · rfl
                · intro w' hw'
                  go_simp
                  first | exact rfl | exact ⟨rfl, hw'⟩
                simp only [Act.put, List.setIfInBounds_toArray, List.set_cons_succ, List.set_cons_zero]
                apply wpK_val
                · rfl
                · intro w' hw'
                  go_simp
                  first | exact rfl | exact ⟨rfl, hw'⟩
                simp only [Act.put, List.setIfInBounds_toArray, List.set_cons_succ, List.set_cons_zero]
                apply wpK_val
                · rfl
                · intro w' hw'
                  go_simp
                  first | exact rfl | exact ⟨rfl, hw'⟩
                simp only [Act.put, List.setIfInBounds_toArray, List.set_cons_succ, List.set_cons_zero]
                apply wpK_val
                · rfl
                · intro w' hw'
                  go_simp
                  first | exact rfl | exact ⟨rfl, hw'⟩
                simp only [Act.put, List.setIfInBounds_toArray, List.set_cons_succ, List.set_cons_zero]
                apply wpK_val
                · rfl
                · intro w' hw'
                  go_simp
                  first | exact rfl | exact ⟨rfl, hw'⟩
                simp only [Act.put, List.setIfInBounds_toArray, List.set_cons_succ, List.set_cons_zero]
                apply wpK_val
                · rfl
                · intro w' hw'
                  have h1 : 0 < a := ha1
                  go_simp
                  first | exact rfl | exact ⟨rfl, hw'⟩
                simp only [Act.put, List.setIfInBounds_toArray, List.set_cons_succ, List.set_cons_zero]
                apply wpK_val
                · rfl
                · intro w' hw'
                  have hcell := (hw'.cell (p := ⟨g9, 0, none⟩) g5l.out).trans (P5.out 0 ha1)
                  go_simp
                  first | exact rfl | exact ⟨rfl, hw'⟩
                simp only [Act.put, List.setIfInBounds_toArray, List.set_cons_succ, List.set_cons_zero]
                apply wpK_val
                · rfl
                · intro w' hw'
                  have h1 : ((j : Int) == (pth a c 0 : Int)) = false := FI.out
                  go_simp
                  first | exact rfl | exact ⟨rfl, hw'⟩
                simp only [Act.put, List.setIfInBounds_toArray, List.set_cons_succ, List.set_cons_zero]
                apply wpK_val
                · rfl
                · intro w' hw'
                  go_simp
                  first | exact rfl | exact ⟨rfl, hw'⟩
                simp only [Act.put, List.setIfInBounds_toArray, List.set_cons_succ, List.set_cons_zero]
                apply wpK_not
                · rfl
                simp only [Act.put, List.setIfInBounds_toArray, List.set_cons_succ, List.set_cons_zero]
                apply wpK_not
                · rfl
                simp only [Act.put, List.setIfInBounds_toArray, List.set_cons_succ, List.set_cons_zero]
                apply wpK_not
                · rfl
                simp only [Act.put, List.setIfInBounds_toArray, List.set_cons_succ, List.set_cons_zero]
                apply wpK_not
                · rfl
                simp only [Act.put, List.setIfInBounds_toArray, List.set_cons_succ, List.set_cons_zero]
                apply wpK_not
                · rfl
                simp only [Act.put, List.setIfInBounds_toArray, List.set_cons_succ, List.set_cons_zero]
                apply wpK_not
                · rfl
                simp only [Act.put, List.setIfInBounds_toArray, List.set_cons_succ, List.set_cons_zero]
                apply wpK_not
                · rfl
                simp only [Act.put, List.setIfInBounds_toArray, List.set_cons_succ, List.set_cons_zero]
                apply wpK_not
                · rfl
                simp only [Act.put, List.setIfInBounds_toArray, List.set_cons_succ, List.set_cons_zero]
                apply wpK_val
                · rfl
                · intro w' hw'
                  go_simp
                  first | exact rfl | exact ⟨rfl, hw'⟩
                simp only [Act.put, List.setIfInBounds_toArray, List.set_cons_succ, List.set_cons_zero]
                apply wpK_val
                · rfl
                · intro w' hw'
                  go_simp
                  first | exact rfl | exact ⟨rfl, hw'⟩
                simp only [Act.put, List.setIfInBounds_toArray, List.set_cons_succ, List.set_cons_zero]
                refine wpK_nil fun x5 k5 => ?_
                have H5 := hid (H4.out.trans (k5.mono H4.out.size))
                clear k5 H4 pa4 pb z35 q5
                go_wp2_with fail
                go_roundw
                case rel => exact ⟨j + 1, by go_num, by omega, by omega, H5⟩
                case measure => simp [intOf] <;> omega
              · by_cases hf0 : j = pth a c 0
                · have FI := hid (show ((j : Int) == (pth a c 0 : Int)) = true by rw [beq_iff_eq]; omega)
                  obtain ⟨r, hr⟩ : ∃ r, r = eqA 32 (t.L c) f := ⟨_, rfl⟩
                  have ET := hid hr.symm
                  have EN := hid (show eqA 64 (t.nd j) (u.nd j) = r by rw [hr, hf0]; exact LOW.out)
                  clear hr hf0
                  go_upto_region 28 with fail
                  refine wp_region_tail (C := fun w' => Below x4.heap.size x4 w') 32 (by kernel_rfl) (by kernel_rfl) (by kernel_rfl) (Below.refl _ _).drew ?_
                  simp only [List.take_succ_cons, List.take_zero, List.drop_succ_cons, List.drop_zero]
                  apply wpK_val
                  · rfl
                  · intro w' hw'
                    go_simp
                    first | exact rfl | exact ⟨rfl, hw'⟩
                  simp only [Act.put, List.setIfInBounds_toArray, List.set_cons_succ, List.set_cons_zero]
                  apply wpK_val
                  · rfl
                  · intro w' hw'
                    go_simp
                    first | exact rfl | exact ⟨rfl, hw'⟩
                  simp only [Act.put, List.setIfInBounds_toArray, List.set_cons_succ, List.set_cons_zero]
                  apply wpK_val
                  · rfl
                  · intro w' hw'
                    go_simp
                    first | exact rfl | exact ⟨rfl, hw'⟩
                  simp only [Act.put, List.setIfInBounds_toArray, List.set_cons_succ, List.set_cons_zero]
                  apply wpK_val
                  · rfl
                  · intro w' hw'
                    go_simp
                    first | exact rfl | exact ⟨rfl, hw'⟩
                  simp only [Act.put, List.setIfInBounds_toArray, List.set_cons_succ, List.set_cons_zero]
                  apply wpK_val
                  · rfl
                  · intro w' hw'
                    go_simp
                    first | exact rfl | exact ⟨rfl, hw'⟩
                  simp only [Act.put, List.setIfInBounds_toArray, List.set_cons_succ, List.set_cons_zero]
                  apply wpK_val
                  · rfl
                  · intro w' hw'
                    go_simp
                    first | exact rfl | exact ⟨rfl, hw'⟩
                  simp only [Act.put, List.setIfInBounds_toArray, List.set_cons_succ, List.set_cons_zero]
                  apply wpK_val
                  · rfl
                  · intro w' hw'
                    go_simp
                    first | exact rfl | exact ⟨rfl, hw'⟩
                  simp only [Act.put, List.setIfInBounds_toArray, List.set_cons_succ, List.set_cons_zero]
                  apply wpK_val
                  · rfl
                  · intro w' hw'
                    go_simp
                    first | exact rfl | exact ⟨rfl, hw'⟩
                  simp only [Act.put, List.setIfInBounds_toArray, List.set_cons_succ, List.set_cons_zero]
                  apply wpK_val
                  · rfl
                  · intro w' hw'
                    go_simp
                    first | exact rfl | exact ⟨rfl, hw'⟩
                  simp only [Act.put, List.setIfInBounds_toArray, List.set_cons_succ, List.set_cons_zero]
                  apply wpK_val
                  · rfl
                  · intro w' hw'
                    go_simp
                    first | exact rfl | exact ⟨rfl, hw'⟩
                  simp only [Act.put, List.setIfInBounds_toArray, List.set_cons_succ, List.set_cons_zero]
                  apply wpK_not
                  · rfl
                  simp only [Act.put, List.setIfInBounds_toArray, List.set_cons_succ, List.set_cons_zero]
                  apply wpK_not
                  · rfl
                  simp only [Act.put, List.setIfInBounds_toArray, List.set_cons_succ, List.set_cons_zero]
                  apply wpK_not
                  · rfl
                  simp only [Act.put, List.setIfInBounds_toArray, List.set_cons_succ, List.set_cons_zero]
                  apply wpK_val
                  · rfl
                  · intro w' hw'
                    go_simp
                    first | exact rfl | exact ⟨rfl, hw'⟩
                  simp only [Act.put, List.setIfInBounds_toArray, List.set_cons_succ, List.set_cons_zero]
                  apply wpK_val
                  · rfl
                  · intro w' hw'
                    go_simp
                    first | exact rfl | exact ⟨rfl, hw'⟩
                  simp only [Act.put, List.setIfInBounds_toArray, List.set_cons_succ, List.set_cons_zero]
                  apply wpK_val
                  · rfl
                  · intro w' hw'
                    go_simp
                    first | exact rfl | exact ⟨rfl, hw'⟩
                  simp only [Act.put, List.setIfInBounds_toArray, List.set_cons_succ, List.set_cons_zero]
                  apply wpK_val
                  · rfl
                  · intro w' hw'
                    go_simp
                    first | exact rfl | exact ⟨rfl, hw'⟩
                  simp only [Act.put, List.setIfInBounds_toArray, List.set_cons_succ, List.set_cons_zero]
                  apply wpK_val
                  · rfl
                  · intro w' hw'
                    go_simp
                    first | exact rfl | exact ⟨rfl, hw'⟩
                  simp only [Act.put, List.setIfInBounds_toArray, List.set_cons_succ, List.set_cons_zero]
                  apply wpK_val
                  · rfl
                  · intro w' hw'
                    have h1 : 0 < a := ha1
                    go_simp
                    first | exact rfl | exact ⟨rfl, hw'⟩
                  simp only [Act.put, List.setIfInBounds_toArray, List.set_cons_succ, List.set_cons_zero]
                  apply wpK_val
                  · rfl
                  · intro w' hw'
                    have hcell := (hw'.cell (p := ⟨g9, 0, none⟩) g5l.out).trans (P5.out 0 ha1)
                    go_simp
                    first | exact rfl | exact ⟨rfl, hw'⟩
                  simp only [Act.put, List.setIfInBounds_toArray, List.set_cons_succ, List.set_cons_zero]
                  apply wpK_val
                  · rfl
                  · intro w' hw'
                    have h1 : ((j : Int) == (pth a c 0 : Int)) = true := FI.out
                    go_simp
                    first | exact rfl | exact ⟨rfl, hw'⟩
                  simp only [Act.put, List.setIfInBounds_toArray, List.set_cons_succ, List.set_cons_zero]
                  apply wpK_val
                  · rfl
                  · intro w' hw'
                    go_simp
                    first | exact rfl | exact ⟨rfl, hw'⟩
                  simp only [Act.put, List.setIfInBounds_toArray, List.set_cons_succ, List.set_cons_zero]
                  apply kldA tS
                  · rfl
                  · rfl
                  · exact fun w' hw' => (pa4.out.below hw' pa4.out.lt).head
                  simp only [Act.put, List.setIfInBounds_toArray, List.set_cons_succ, List.set_cons_zero]
                  apply kldA tS
                  · rfl
                  · rfl
                  · exact fun w' hw' => (pb.out.below hw' pb.out.lt).head
                  simp only [Act.put, List.setIfInBounds_toArray, List.set_cons_succ, List.set_cons_zero]
                  apply keqU r uS eqgS
                  · rfl
                  · rfl
                  · rfl
                  · exact EN.out
                  simp only [Act.put, List.setIfInBounds_toArray, List.set_cons_succ, List.set_cons_zero]
                  apply kldA tT
                  · rfl
                  · rfl
                  · exact fun w' hw' => (q5.out.below hw' q5.out.lt).head
                  simp only [Act.put, List.setIfInBounds_toArray, List.set_cons_succ, List.set_cons_zero]
                  apply wpK_val
                  · rfl
                  · intro w' hw'
                    go_simp
                    first | exact rfl | exact ⟨rfl, hw'⟩
                  simp only [Act.put, List.setIfInBounds_toArray, List.set_cons_succ, List.set_cons_zero]
                  apply kldA tT
                  · rfl
                  · rfl
                  · exact fun w' hw' => cm_tag (z35.out.below hw' z35.out.lt)
                  simp only [Act.put, List.setIfInBounds_toArray, List.set_cons_succ, List.set_cons_zero]
                  apply keqU r uT eqgT
                  · rfl
                  · rfl
                  · rfl
                  · exact ET.out
                  simp only [Act.put, List.setIfInBounds_toArray, List.set_cons_succ, List.set_cons_zero]
                  apply wpK_val
                  · rfl
                  · intro w' hw'
                    have h1 : (r != r) = false := by simp
                    go_simp
                    first | exact rfl | exact ⟨rfl, hw'⟩
                  simp only [Act.put, List.setIfInBounds_toArray, List.set_cons_succ, List.set_cons_zero]
                  apply wpK_val
                  · rfl
                  · intro w' hw'
                    go_simp
                    first | exact rfl | exact ⟨rfl, hw'⟩
                  simp only [Act.put, List.setIfInBounds_toArray, List.set_cons_succ, List.set_cons_zero]
                  apply wpK_val
                  · rfl
                  · intro w' hw'
                    go_simp
                    first | exact rfl | exact ⟨rfl, hw'⟩
                  simp only [Act.put, List.setIfInBounds_toArray, List.set_cons_succ, List.set_cons_zero]
                  refine wpK_nil fun x5 k5 => ?_
                  have H5 := hid (H4.out.trans (k5.mono H4.out.size))
                  clear k5 H4 pa4 pb z35 q5
                  go_wp2_with fail
                  go_roundw
                  case rel => exact ⟨j + 1, by go_num, by omega, by omega, H5⟩
                  case measure => simp [intOf] <;> omega
                · have FI := hid (show ((j : Int) == (pth a c 0 : Int)) = false by rw [beq_eq_false_iff_ne]; omega)
                  clear hf0
                  go_upto_region 28 with fail
                  refine wp_region_tail (C := fun w' => Below x4.heap.size x4 w') 32 (by kernel_rfl) (by kernel_rfl) (by kernel_rfl) (Below.refl _ _).drew ?_
                  simp only [List.take_succ_cons, List.take_zero, List.drop_succ_cons, List.drop_zero]
                  apply wpK_val
                  · rfl
                  · intro w' hw'
                    go_simp
                    first | exact rfl | exact ⟨rfl, hw'⟩
                  simp only [Act.put, List.setIfInBounds_toArray, List.set_cons_succ, List.set_cons_zero]
                  apply wpK_val
                  · rfl
                  · intro w' hw'
                    go_simp
                    first | exact rfl | exact ⟨rfl, hw'⟩
                  simp only [Act.put, List.setIfInBounds_toArray, List.set_cons_succ, List.set_cons_zero]
                  apply wpK_val
                  · rfl
                  · intro w' hw'
                    go_simp
                    first | exact rfl | exact ⟨rfl, hw'⟩
                  simp only [Act.put, List.setIfInBounds_toArray, List.set_cons_succ, List.set_cons_zero]
                  apply wpK_val
                  · rfl
                  · intro w' hw'
                    go_simp
                    first | exact rfl | exact ⟨rfl, hw'⟩
                  simp only [Act.put, List.setIfInBounds_toArray, List.set_cons_succ, List.set_cons_zero]
                  apply wpK_val
                  · rfl
                  · intro w' hw'
                    go_simp
                    first | exact rfl | exact ⟨rfl, hw'⟩
                  simp only [Act.put, List.setIfInBounds_toArray, List.set_cons_succ, List.set_cons_zero]
                  apply wpK_val
                  · rfl
                  · intro w' hw'
                    go_simp
                    first | exact rfl | exact ⟨rfl, hw'⟩
                  simp only [Act.put, List.setIfInBounds_toArray, List.set_cons_succ, List.set_cons_zero]
                  apply wpK_val
                  · rfl
                  · intro w' hw'
                    go_simp
                    first | exact rfl | exact ⟨rfl, hw'⟩
                  simp only [Act.put, List.setIfInBounds_toArray, List.set_cons_succ, List.set_cons_zero]
                  apply wpK_val
                  · rfl
                  · intro w' hw'
                    go_simp
                    first | exact rfl | exact ⟨rfl, hw'⟩
                  simp only [Act.put, List.setIfInBounds_toArray, List.set_cons_succ, List.set_cons_zero]
                  apply wpK_val
                  · rfl
                  · intro w' hw'
                    go_simp
                    first | exact rfl | exact ⟨rfl, hw'⟩
                  simp only [Act.put, List.setIfInBounds_toArray, List.set_cons_succ, List.set_cons_zero]
                  apply wpK_val
                  · rfl
                  · intro w' hw'
                    go_simp
                    first | exact rfl | exact ⟨rfl, hw'⟩
                  simp only [Act.put, List.setIfInBounds_toArray, List.set_cons_succ, List.set_cons_zero]
                  apply wpK_not
                  · rfl
                  simp only [Act.put, List.setIfInBounds_toArray, List.set_cons_succ, List.set_cons_zero]
                  apply wpK_not
                  · rfl
                  simp only [Act.put, List.setIfInBounds_toArray, List.set_cons_succ, List.set_cons_zero]
                  apply wpK_not
                  · rfl
                  simp only [Act.put, List.setIfInBounds_toArray, List.set_cons_succ, List.set_cons_zero]
                  apply wpK_val
                  · rfl
                  · intro w' hw'
                    go_simp
                    first | exact rfl | exact ⟨rfl, hw'⟩
                  simp only [Act.put, List.setIfInBounds_toArray, List.set_cons_succ, List.set_cons_zero]
                  apply wpK_val
                  · rfl
                  · intro w' hw'
                    go_simp
                    first | exact rfl | exact ⟨rfl, hw'⟩
                  simp only [Act.put, List.setIfInBounds_toArray, List.set_cons_succ, List.set_cons_zero]
                  apply wpK_val
                  · rfl
                  · intro w' hw'
                    go_simp
                    first | exact rfl | exact ⟨rfl, hw'⟩
                  simp only [Act.put, List.setIfInBounds_toArray, List.set_cons_succ, List.set_cons_zero]
                  apply wpK_val
                  · rfl
                  · intro w' hw'
                    go_simp
                    first | exact rfl | exact ⟨rfl, hw'⟩
                  simp only [Act.put, List.setIfInBounds_toArray, List.set_cons_succ, List.set_cons_zero]
                  apply wpK_val
                  · rfl
                  · intro w' hw'
                    go_simp
                    first | exact rfl | exact ⟨rfl, hw'⟩
                  simp only [Act.put, List.setIfInBounds_toArray, List.set_cons_succ, List.set_cons_zero]
                  apply wpK_val
                  · rfl
                  · intro w' hw'
                    have h1 : 0 < a := ha1
                    go_simp
                    first | exact rfl | exact ⟨rfl, hw'⟩
                  simp only [Act.put, List.setIfInBounds_toArray, List.set_cons_succ, List.set_cons_zero]
                  apply wpK_val
                  · rfl
                  · intro w' hw'
                    have hcell := (hw'.cell (p := ⟨g9, 0, none⟩) g5l.out).trans (P5.out 0 ha1)
                    go_simp
                    first | exact rfl | exact ⟨rfl, hw'⟩
                  simp only [Act.put, List.setIfInBounds_toArray, List.set_cons_succ, List.set_cons_zero]
                  apply wpK_val
                  · rfl
                  · intro w' hw'
                    have h1 : ((j : Int) == (pth a c 0 : Int)) = false := FI.out
                    go_simp
                    first | exact rfl | exact ⟨rfl, hw'⟩
                  simp only [Act.put, List.setIfInBounds_toArray, List.set_cons_succ, List.set_cons_zero]
                  apply wpK_val
                  · rfl
                  · intro w' hw'
                    go_simp
                    first | exact rfl | exact ⟨rfl, hw'⟩
                  simp only [Act.put, List.setIfInBounds_toArray, List.set_cons_succ, List.set_cons_zero]
                  apply wpK_not
                  · rfl
                  simp only [Act.put, List.setIfInBounds_toArray, List.set_cons_succ, List.set_cons_zero]
                  apply wpK_not
                  · rfl
                  simp only [Act.put, List.setIfInBounds_toArray, List.set_cons_succ, List.set_cons_zero]
                  apply wpK_not
                  · rfl
                  simp only [Act.put, List.setIfInBounds_toArray, List.set_cons_succ, List.set_cons_zero]
                  apply wpK_not
                  · rfl
                  simp only [Act.put, List.setIfInBounds_toArray, List.set_cons_succ, List.set_cons_zero]
                  apply wpK_not
                  · rfl
                  simp only [Act.put, List.setIfInBounds_toArray, List.set_cons_succ, List.set_cons_zero]
                  apply wpK_not
                  · rfl
                  simp only [Act.put, List.setIfInBounds_toArray, List.set_cons_succ, List.set_cons_zero]
                  apply wpK_not
                  · rfl
                  simp only [Act.put, List.setIfInBounds_toArray, List.set_cons_succ, List.set_cons_zero]
                  apply wpK_not
                  · rfl
                  simp only [Act.put, List.setIfInBounds_toArray, List.set_cons_succ, List.set_cons_zero]
                  apply wpK_val
                  · rfl
                  · intro w' hw'
                    go_simp
                    first | exact rfl | exact ⟨rfl, hw'⟩
                  simp only [Act.put, List.setIfInBounds_toArray, List.set_cons_succ, List.set_cons_zero]
                  apply wpK_val
                  · rfl
                  · intro w' hw'
                    go_simp
                    first | exact rfl | exact ⟨rfl, hw'⟩
                  simp only [Act.put, List.setIfInBounds_toArray, List.set_cons_succ, List.set_cons_zero]
                  refine wpK_nil fun x5 k5 => ?_
                  have H5 := hid (H4.out.trans (k5.mono H4.out.size))
                  clear k5 H4 pa4 pb z35 q5
                  go_wp2_with fail
                  go_roundw
                  case rel => exact ⟨j + 1, by go_num, by omega, by omega, H5⟩
                  case measure => simp [intOf] <;> omega
        · have t1 : ¬ (j : Int) < N := by omega
          go_wp2_with fail
          refine (WE.out wr (b9.out.trans (HB.out.mono b9.out.size))).mono ?_
          rintro e w9 ⟨rfl, h9⟩
          have db := hid (hb.out.trans (((b9.out.trans (HB.out.mono b9.out.size)).trans (h9.mono (b9.out.trans (HB.out.mono b9.out.size)).size)).mono hb.out.size))
          clear h9
          go_wp2_with fail
          go_ret
          exact ⟨rfl, db.out⟩
end TrM
end Go.Proofs.YtdmnhpgafbcehaaDoor
set_option maxRecDepth 100000
namespace Go.Proofs.YtdmnhpgafbcehaaDoor
open Go.RowKit
namespace TrM
open TgP
section
variable {k top : Nat → Nat} {P : Nat → Nat → Nat}
theorem chkF_all : ∀ (m i b : Nat) (g : Nat → Nat), chkF k P top (m + 1) i b g = true →
    eqA 32 (half (b % 2) (P i)) g = true ∧ (∀ q, q < m → eqA 32 (half (b / 2 ^ (q + 1) % 2) (P (i + q + 1))) (ndT k (b / 2 ^ (q + 1)) (P (i + q))) = true) ∧ eqA 32 (ndT k (b / 2 ^ (m + 1)) (P (i + m))) top = true
  | 0, i, b, g, h => by
    unfold chkF at h
    rw [Bool.and_eq_true] at h
    refine ⟨h.1, fun q hq => absurd hq (Nat.not_lt_zero _), ?_⟩
    have h2 := h.2
    unfold chkF at h2
    simpa using h2
  | m + 1, i, b, g, h => by
    unfold chkF at h
    rw [Bool.and_eq_true] at h
    obtain ⟨h1, h2⟩ := h
    obtain ⟨a1, a2, a3⟩ := chkF_all m (i + 1) (b / 2) _ h2
    have e : ∀ n, b / 2 / 2 ^ n = b / 2 ^ (n + 1) := fun n => by rw [Nat.pow_succ, Nat.mul_comm, Nat.div_div_eq_div_mul]
    refine ⟨h1, fun q hq => ?_, ?_⟩
    · match q with
      | 0 => simpa using a1
      | q + 1 =>
        have := a2 q (by omega)
        rw [e, show i + 1 + q + 1 = i + (q + 1) + 1 by omega, show i + 1 + q = i + (q + 1) by omega] at this
        exact this
    · rw [e, show i + 1 + m = i + (m + 1) by omega] at a3
      exact a3
end
theorem half_ext {b : Nat} {s s' : Nat → Nat} (h : eqA 64 s s' = true) : eqA 32 (half b s) (half b s') = true := by
  have h1 := eqA_iff.1 h
  refine eqA_yes fun i hi => ?_
  unfold half
  split
  · exact h1 i (by omega)
  · exact h1 _ (by omega)
theorem eqA_trans {n : Nat} {f g h : Nat → Nat} (h1 : eqA n f g = true) (h2 : eqA n g h = true) : eqA n f h = true := eqA_yes fun i hi => (eqA_iff.1 h1 i hi).trans (eqA_iff.1 h2 i hi)
theorem eqA_symm' {n : Nat} {f g : Nat → Nat} (h1 : eqA n f g = true) : eqA n g f = true := eqA_yes fun i hi => (eqA_iff.1 h1 i hi).symm
section
variable {t : Tr} {leaf : Nat} {f : Nat → Nat} {P : Nat → Nat → Nat}
theorem half_prf (i : Nat) : eqA 32 (half ((2 ^ t.h + leaf) / 2 ^ i % 2) (prf t leaf i)) (t.tg ((2 ^ t.h + leaf) / 2 ^ i)) = true := by
  have h0 : pth t.h leaf i = (2 ^ t.h + leaf) / 2 ^ i / 2 := by unfold pth; rw [Nat.pow_succ, Nat.div_div_eq_div_mul]
  unfold prf
  rw [h0]
  exact eqA_yes half_nd
/-- Another proof that is taken, all sectors above the i-th alike: the i-th nodes have one tag. -/
theorem prove_at (h1 : 1 ≤ t.h) (hl : leaf < 2 ^ t.h) (hc : chkF t.k P (t.tg 1) t.h 0 (2 ^ t.h + leaf) f = true) {i : Nat} (hi : i < t.h) (hab : ∀ q, i < q → q < t.h → eqA 64 (P q) (prf t leaf q) = true) :
    eqA 32 (ndT t.k (pth t.h leaf i) (P i)) (ndT t.k (pth t.h leaf i) (prf t leaf i)) = true := by
  obtain ⟨m, hm⟩ : ∃ m, t.h = m + 1 := ⟨t.h - 1, by omega⟩
  rw [show chkF t.k P (t.tg 1) t.h 0 (2 ^ t.h + leaf) f = chkF t.k P (t.tg 1) (m + 1) 0 (2 ^ t.h + leaf) f by rw [← hm]] at hc
  obtain ⟨_, a2, a3⟩ := chkF_all m 0 _ _ hc
  have htn : ndT t.k (pth t.h leaf i) (prf t leaf i) = t.tg (pth t.h leaf i) := (Tr.tg_node (pth_pos hi) (pth_lt hl)).symm
  rw [htn]
  by_cases hlast : i < m
  · have b1 := a2 i hlast
    rw [Nat.zero_add] at b1
    have b2 := half_ext (b := (2 ^ t.h + leaf) / 2 ^ (i + 1) % 2) (hab (i + 1) (by omega) (by omega))
    exact eqA_trans (eqA_symm' b1) (eqA_trans b2 (half_prf (i + 1)))
  · obtain rfl : i = m := by omega
    rw [Nat.zero_add] at a3
    have hp : pth t.h leaf i = 1 := by
      have := pth_last hl h1
      rwa [show t.h - 1 = i by omega] at this
    have e : (2 ^ t.h + leaf) / 2 ^ (i + 1) = 1 := hp
    rw [e] at a3
    rw [hp]
    exact a3
/-- If all its sectors are one's own, so is the tag. -/
theorem prove_tag (h1 : 1 ≤ t.h) (hl : leaf < 2 ^ t.h) (hc : chkF t.k P (t.tg 1) t.h 0 (2 ^ t.h + leaf) f = true) (hab : ∀ q, q < t.h → eqA 64 (P q) (prf t leaf q) = true) : eqA 32 f (t.L leaf) = true := by
  obtain ⟨m, hm⟩ : ∃ m, t.h = m + 1 := ⟨t.h - 1, by omega⟩
  rw [show chkF t.k P (t.tg 1) t.h 0 (2 ^ t.h + leaf) f = chkF t.k P (t.tg 1) (m + 1) 0 (2 ^ t.h + leaf) f by rw [← hm]] at hc
  obtain ⟨a1, _, _⟩ := chkF_all m 0 _ _ hc
  have b2 := half_ext (b := (2 ^ t.h + leaf) % 2) (hab 0 (by omega))
  have b3 := half_prf (t := t) (leaf := leaf) 0
  rw [Nat.pow_zero, Nat.div_one, Tr.tg_leaf (by show 2 ^ t.h ≤ _; omega), show 2 ^ t.h + leaf - t.n = leaf by show 2 ^ t.h + leaf - 2 ^ t.h = leaf; omega] at b3
  exact eqA_trans (eqA_symm' a1) (eqA_trans b2 b3)
end
end TrM
end Go.Proofs.YtdmnhpgafbcehaaDoor
