/-
  The law AesBack.
-/
import Derived.Test.YtbgpboplpdljoaaAesCl
namespace Go.Proofs.Ytbgpboplpdljoaa
open Go.ChangeShapes Go.WideShapes Go.ChangeAt Go.RowKit
open AesM (Bt ls Q16)
attribute [local go_sem] Gives GivesE
section
variable {ops : Array Oper} {a : Act} {rest : List Oper} {dst : Option Tmp} {ty : TypeId} {pos : String} {after : Array Edge} {x : Operand} {g o n B : Nat} {f : Nat → Nat} {T : TypeId} {C : World → Prop} {Qk : Act → Prop} {gd : Option (Nat × Bool)}
theorem gldA (hT : ArT T n) (hwt : Region.wanted ⟨dst, .load T x, ty, pos, after, gd⟩ (yielded ops a.tmps) = true) (hx : a.eval x = .pointer (some ⟨g, o, none⟩)) (hb : ∀ w, C w → w.rangeAt g o (ar n f).toList) (h : wpG Try.prog ops B C Qk rest (a.put dst (.agg (ar n f)))) :
    wpG Try.prog ops B C Qk (⟨dst, .load T x, ty, pos, after, gd⟩ :: rest) a :=
  wpG_val hwt (fun w hw => gives_value (w' := w) (by simp only [execOp, hx, Sem.run_bind, run_ldm hT (hb w hw), Result.andThen_ok, Sem.run_pure]) ⟨hw, Kp.refl _ _⟩) h
end
namespace AesP
section
variable {W w1 w' : World} {gs : List Nat} {K f : Nat → Nat} {g B : Nat}
theorem Cl.sealG (h : Cl W w1 gs K w') (hg : g ∈ gs) (hK : Bt K) (hf : Bt f) :
    Calls Try.prog 10 #[.pointer (some ⟨g, 0, none⟩), .agg (ar 16 f)] w' fun e w2 => e = .returned (.agg (ar 16 (AesM.sealM K f))) ∧ Cl W w1 gs K w2 ∧ Kp B w' w2 := by
  obtain ⟨b, hc⟩ := (h.1 g hg).1
  exact (seal_any K f b hK hf g w' hc).mono fun e _ ⟨he, hb⟩ => ⟨he, h.below hb, Kp.of_below hb⟩
theorem Cl.openG (h : Cl W w1 gs K w') (hg : g ∈ gs) (hB : g < B) (hK : Bt K) (hf : Bt f) :
    Calls Try.prog 13 #[.pointer (some ⟨g, 0, none⟩), .agg (ar 16 f)] w' fun e w2 => e = .returned (.agg (ar 16 (AesM.open' K f))) ∧ Cl W w1 gs K w2 ∧ Kp B w' w2 := by
  obtain ⟨b, hc⟩ := (h.1 g hg).1
  exact (open_any K f b hK hf g w' hc).mono fun e _ ⟨he, hc2, ho⟩ => ⟨he, h.only hg hc2 ho, Kp.of_only ho hB⟩
end
set_option maxHeartbeats 800000 in
set_option maxRecDepth 100000 in
theorem back_law (k f : Nat → Nat) (hk : Bt k) (hf : Bt f) (W : World) :
    Calls Try.prog 6 #[.agg (ar 32 k), .agg (ar 16 f)] W fun e w' => e = .returned (.bool true) ∧ Below W.heap.size W w' := by
  have HK := hid hk
  have HF := hid hf
  have HKK := hid (AesM.ks_bt hk)
  clear hk hf
  go_enter Try.func6, Try.ntmps6
  go_upto_region 1 with fail
  generalize hw1 : World.alloc (World.alloc W _) _ = w1
  have b0 := hid (show Blk w1 W.heap.size 23 (ar 32 k) by rw [← hw1]; exact (Blk.new _ _ _).alloc _)
  have b1 := hid (show Blk w1 (W.heap.size + 1) 24 (ar 16 f) by rw [← hw1]; exact Blk.top rfl (by simp))
  have hb := hid (show Below W.heap.size W w1 by rw [← hw1]; exact ((Below.refl _ _).alloc (Nat.le_refl _) _).alloc (by simp) _)
  clear hw1
  have hs1 : W.heap.size + 1 < w1.heap.size := b1.out.lt
  refine wp_region_ex (S := nS [some (.agg (ar 32 k)), none, some (.agg (ar 32 k)), none, none, none]) (D := nD [1, 3, 4, 5] w1.heap.size (AesM.ks k)) (K := fun _ _ w w' => Below w.heap.size w w') (C := fun _ w' => Below w1.heap.size w1 w') 6 (by kernel_rfl) (by kernel_rfl) (by kernel_rfl)
    _ (nS_ok _) (fun i j vs w w' _ _ _ h hb => nD_below h hb) (fun j i vs v w hji _ h => nD_loc hji h) (Below.refl _ _).drew fun vs => ?_
  simp only [List.take_succ_cons, List.take_zero, List.drop_succ_cons, List.drop_zero]
  refine ⟨.inl ⟨rfl, fun dd w' hd hC hDs => ?_⟩, fun e => ?_⟩
  · exact gE_load tKey rfl (b0.out.below hC b0.out.lt).head ⟨rfl, hC, Below.refl _ _, nD_none rfl⟩
  have e' : vs 0 = _ := e
  rw [e']
  clear e e'
  simp only [Act.put, List.setIfInBounds_toArray, List.set_cons_succ, List.set_cons_zero]
  refine ⟨.inl ⟨rfl, fun dd w' hd hC hDs => ?_⟩, fun e => ?_⟩
  · go_simp
    refine (new_any k HK.out w').mono ?_
    rintro e w'' ⟨g, rfl, h2, h3, h4⟩
    exact ⟨_, rfl, ⟨g, rfl⟩, hC.trans (h4.mono hC.size), h4, fun _ => ⟨g, updV_self _ _ _, h3, Nat.le_trans hC.size h2⟩⟩
  clear e
  simp only [Act.put, List.setIfInBounds_toArray, List.set_cons_succ, List.set_cons_zero]
  refine ⟨.inl ⟨rfl, fun dd w' hd hC hDs => ?_⟩, fun e => ?_⟩
  · exact gE_load tKey rfl (b0.out.below hC b0.out.lt).head ⟨rfl, hC, Below.refl _ _, nD_none rfl⟩
  have e' : vs 2 = _ := e
  rw [e']
  clear e e'
  simp only [Act.put, List.setIfInBounds_toArray, List.set_cons_succ, List.set_cons_zero]
  refine ⟨.inl ⟨rfl, fun dd w' hd hC hDs => ?_⟩, fun e => ?_⟩
  · go_simp
    refine (new_any k HK.out w').mono ?_
    rintro e w'' ⟨g, rfl, h2, h3, h4⟩
    exact ⟨_, rfl, ⟨g, rfl⟩, hC.trans (h4.mono hC.size), h4, fun _ => ⟨g, updV_self _ _ _, h3, Nat.le_trans hC.size h2⟩⟩
  clear e
  simp only [Act.put, List.setIfInBounds_toArray, List.set_cons_succ, List.set_cons_zero]
  refine ⟨.inl ⟨rfl, fun dd w' hd hC hDs => ?_⟩, fun e => ?_⟩
  · obtain ⟨g, e1, h3, h4⟩ := hDs 1 (by kernel_rfl) rfl
    have hC' : Below w1.heap.size w1 w' := hC
    unfold GivesE
    simp only [execOp, Sem.run_pure]
    exact ⟨⟨g, e1⟩, hC', Below.refl _ _, fun _ => ⟨g, (updV_self _ _ _).trans e1, h3, h4⟩⟩
  clear e
  simp only [Act.put, List.setIfInBounds_toArray, List.set_cons_succ, List.set_cons_zero]
  refine ⟨.inl ⟨rfl, fun dd w' hd hC hDs => ?_⟩, fun e => ?_⟩
  · obtain ⟨g, e1, h3, h4⟩ := hDs 3 (by kernel_rfl) rfl
    have hC' : Below w1.heap.size w1 w' := hC
    unfold GivesE
    simp only [execOp, Sem.run_pure]
    exact ⟨⟨g, e1⟩, hC', Below.refl _ _, fun _ => ⟨g, (updV_self _ _ _).trans e1, h3, h4⟩⟩
  clear e
  simp only [Act.put, List.setIfInBounds_toArray, List.set_cons_succ, List.set_cons_zero]
  intro dd w2 _ hw2 hDD
  obtain ⟨c, ec, hc, hcB⟩ := hDD 4 (by omega) rfl
  obtain ⟨d, ed, hd, hdB⟩ := hDD 5 (by omega) rfl
  rw [ec, ed]
  have hw2' : Below w1.heap.size w1 w2 := hw2
  have d1 := hid (b1.out.below hw2' b1.out.lt)
  have hcl : Cl W w2 [c, d] (AesM.ks k) w2 := Cl.start (fun g hg => by
    rw [List.mem_cons, List.mem_singleton] at hg
    rcases hg with rfl | rfl
    · exact ⟨⟨_, hc⟩, Nat.le_trans hb.out.size hcB⟩
    · exact ⟨⟨_, hd⟩, Nat.le_trans hb.out.size hdB⟩) (hb.out.trans (hw2'.mono hb.out.size))
  have HCL := hid hcl
  have mc : c ∈ [c, d] := List.mem_cons_self ..
  have md : d ∈ [c, d] := List.mem_cons_of_mem _ (List.mem_singleton.2 rfl)
  have n1 : W.heap.size + 1 ∉ [c, d] := by rw [List.mem_cons, List.mem_singleton]; omega
  have lc := cip_lt hc
  have ld := cip_lt hd
  have hcW : W.heap.size < c := by omega
  have hdW : W.heap.size < d := by omega
  clear b0 b1 hb hs1 hDD ec ed hw2 hw2' hcl hc hd
  go_wp2_with fail
  refine wp_region_new2g (C := Cl W w2 [c, d] (AesM.ks k)) 6 24 (ar 16 fun _ => 0) 7 8 rfl rfl (by kernel_rfl) (by kernel_rfl) (by kernel_rfl) (run_alloc_ar tBk) HCL.out.drew (fun w' hw' => hw'.below ((Below.refl _ _).alloc (Nat.le_refl _) _)) (fun w' hw' => hw'.2.2.2) ?_
  simp only [List.take_succ_cons, List.take_zero, List.drop_succ_cons, List.drop_zero]
  apply wpG_val
  · rfl
  · intro w' hw'
    go_simp
    first | exact ⟨rfl, hw', Kp.refl _ _⟩ | exact ⟨hw', Kp.refl _ _⟩ | exact ⟨rfl, Kp.refl _ _⟩ | exact Kp.refl _ _
  simp only [Act.put, List.setIfInBounds_toArray, List.set_cons_succ, List.set_cons_zero]
  apply gldA tBk
  · rfl
  · rfl
  · exact fun w' hw' => (hw'.blk d1.out n1).head
  simp only [Act.put, List.setIfInBounds_toArray, List.set_cons_succ, List.set_cons_zero]
  apply wpG_val
  · rfl
  · intro w' hw'
    go_simp
    exact hw'.sealG mc HKK.out HF.out
  simp only [Act.put, List.setIfInBounds_toArray, List.set_cons_succ, List.set_cons_zero]
  apply wpG_val
  · rfl
  · intro w' hw'
    go_simp
    first | exact ⟨rfl, hw', Kp.refl _ _⟩ | exact ⟨hw', Kp.refl _ _⟩ | exact ⟨rfl, Kp.refl _ _⟩ | exact Kp.refl _ _
  simp only [Act.put, List.setIfInBounds_toArray, List.set_cons_succ, List.set_cons_zero]
  apply gldA tBk
  · rfl
  · rfl
  · exact fun w' hw' => (hw'.blk d1.out n1).head
  simp only [Act.put, List.setIfInBounds_toArray, List.set_cons_succ, List.set_cons_zero]
  apply wpG_val
  · rfl
  · intro w' hw'
    go_simp
    exact hw'.openG mc lc HKK.out HF.out
  simp only [Act.put, List.setIfInBounds_toArray, List.set_cons_succ, List.set_cons_zero]
  refine wpG_nil fun p q w3 hpq hw3 zp zq hp hq => ?_
  unfold ptr
  have x1 := hw3.blk d1.out n1
  have hx1 := x1.lt
  have zq2 := zq.setRow_other (g' := p) hpq (ar 16 (AesM.sealM (AesM.ks k) f))
  go_upto_region 3 with (first | ((with_reducible apply stA tBk); rfl; rfl; exact zp) | ((with_reducible apply stA tBk); rfl; rfl; exact zq2))
  generalize hw4 : World.setRow (World.setRow _ _ _) _ _ = w4
  have hW2 : W.heap.size + 1 < w2.heap.size := d1.out.lt
  have y1 := hid (show Blk w4 (W.heap.size + 1) 24 (ar 16 f) by rw [← hw4]; exact (x1.setRow_other (by omega) _).setRow_other (by omega) _)
  have yp := hid (show Blk w4 p 24 (ar 16 (AesM.sealM (AesM.ks k) f)) by rw [← hw4]; exact (zp.setRow_same _).setRow_other (Ne.symm hpq) _)
  have yq := hid (show Blk w4 q 24 (ar 16 (AesM.open' (AesM.ks k) f)) by rw [← hw4]; exact zq2.setRow_same _)
  have hcl4 : Cl W w4 [c, d] (AesM.ks k) w4 := Cl.start (fun g hg => by
    obtain ⟨⟨b, h1⟩, h2⟩ := hw3.1 g hg
    have hgl : g < w2.heap.size := by
      rw [List.mem_cons, List.mem_singleton] at hg
      rcases hg with rfl | rfl
      · exact lc
      · exact ld
    refine ⟨⟨b, ?_⟩, h2⟩
    rw [← hw4]
    exact Blk.setRow_other (Blk.setRow_other h1 (by omega) _) (by omega) _) (by rw [← hw4]; exact below_setRow (below_setRow hw3.2.2.1 (by omega) _) (by omega) _)
  have HC4 := hid hcl4
  have np : p ∉ [c, d] := by rw [List.mem_cons, List.mem_singleton]; omega
  have nq : q ∉ [c, d] := by rw [List.mem_cons, List.mem_singleton]; omega
  clear hw4 zp zq zq2 x1 hx1 hw3 HCL d1 hcl4
  have SB := hid (AesM.seal_bt (f := f) HKK.out)
  have OB := hid (AesM.open_bt (f := f) HKK.out)
  refine wp_region_tail (C := Cl W w4 [c, d] (AesM.ks k)) 37 (by kernel_rfl) (by kernel_rfl) (by kernel_rfl) HC4.out.drew ?_
  simp only [List.take_succ_cons, List.take_zero, List.drop_succ_cons, List.drop_zero]
  apply wpK_val
  · rfl
  · intro w' hw'
    go_simp
    first | exact rfl | exact ⟨rfl, hw'⟩
  simp only [Act.put, List.setIfInBounds_toArray, List.set_cons_succ, List.set_cons_zero]
  apply kldA tBk
  · rfl
  · rfl
  · exact fun w' hw' => (hw'.blk yp.out np).head
  simp only [Act.put, List.setIfInBounds_toArray, List.set_cons_succ, List.set_cons_zero]
  apply wpK_val
  · rfl
  · intro w' hw'
    go_simp
    exact hw'.open' mc HKK.out SB.out
  simp only [Act.put, List.setIfInBounds_toArray, List.set_cons_succ, List.set_cons_zero]
  apply kldA tBk
  · rfl
  · rfl
  · exact fun w' hw' => (hw'.blk y1.out n1).head
  simp only [Act.put, List.setIfInBounds_toArray, List.set_cons_succ, List.set_cons_zero]
  apply keqA true
  · rfl
  · rfl
  · rfl
  · exact eqA_yes (AesM.open_seal HKK.out HF.out)
  simp only [Act.put, List.setIfInBounds_toArray, List.set_cons_succ, List.set_cons_zero]
  apply wpK_val
  · rfl
  · intro w' hw'
    go_simp
    first | exact rfl | exact ⟨rfl, hw'⟩
  simp only [Act.put, List.setIfInBounds_toArray, List.set_cons_succ, List.set_cons_zero]
  apply wpK_val
  · rfl
  · intro w' hw'
    go_simp
    first | exact rfl | exact ⟨rfl, hw'⟩
  simp only [Act.put, List.setIfInBounds_toArray, List.set_cons_succ, List.set_cons_zero]
  apply kldA tBk
  · rfl
  · rfl
  · exact fun w' hw' => (hw'.blk yq.out nq).head
  simp only [Act.put, List.setIfInBounds_toArray, List.set_cons_succ, List.set_cons_zero]
  apply wpK_val
  · rfl
  · intro w' hw'
    go_simp
    exact hw'.sealing mc HKK.out OB.out
  simp only [Act.put, List.setIfInBounds_toArray, List.set_cons_succ, List.set_cons_zero]
  apply kldA tBk
  · rfl
  · rfl
  · exact fun w' hw' => (hw'.blk y1.out n1).head
  simp only [Act.put, List.setIfInBounds_toArray, List.set_cons_succ, List.set_cons_zero]
  apply keqA true
  · rfl
  · rfl
  · rfl
  · exact eqA_yes (AesM.seal_open HKK.out HF.out)
  simp only [Act.put, List.setIfInBounds_toArray, List.set_cons_succ, List.set_cons_zero]
  apply wpK_val
  · rfl
  · intro w' hw'
    go_simp
    first | exact rfl | exact ⟨rfl, hw'⟩
  simp only [Act.put, List.setIfInBounds_toArray, List.set_cons_succ, List.set_cons_zero]
  apply wpK_val
  · rfl
  · intro w' hw'
    go_simp
    first | exact rfl | exact ⟨rfl, hw'⟩
  simp only [Act.put, List.setIfInBounds_toArray, List.set_cons_succ, List.set_cons_zero]
  apply wpK_val
  · rfl
  · intro w' hw'
    go_simp
    first | exact rfl | exact ⟨rfl, hw'⟩
  simp only [Act.put, List.setIfInBounds_toArray, List.set_cons_succ, List.set_cons_zero]
  apply kldA tBk
  · rfl
  · rfl
  · exact fun w' hw' => (hw'.blk yp.out np).head
  simp only [Act.put, List.setIfInBounds_toArray, List.set_cons_succ, List.set_cons_zero]
  apply wpK_val
  · rfl
  · intro w' hw'
    go_simp
    exact hw'.open' md HKK.out SB.out
  simp only [Act.put, List.setIfInBounds_toArray, List.set_cons_succ, List.set_cons_zero]
  apply kldA tBk
  · rfl
  · rfl
  · exact fun w' hw' => (hw'.blk y1.out n1).head
  simp only [Act.put, List.setIfInBounds_toArray, List.set_cons_succ, List.set_cons_zero]
  apply keqA true
  · rfl
  · rfl
  · rfl
  · exact eqA_yes (AesM.open_seal HKK.out HF.out)
  simp only [Act.put, List.setIfInBounds_toArray, List.set_cons_succ, List.set_cons_zero]
  apply wpK_val
  · rfl
  · intro w' hw'
    go_simp
    first | exact rfl | exact ⟨rfl, hw'⟩
  simp only [Act.put, List.setIfInBounds_toArray, List.set_cons_succ, List.set_cons_zero]
  apply wpK_val
  · rfl
  · intro w' hw'
    go_simp
    first | exact rfl | exact ⟨rfl, hw'⟩
  simp only [Act.put, List.setIfInBounds_toArray, List.set_cons_succ, List.set_cons_zero]
  apply wpK_val
  · rfl
  · intro w' hw'
    go_simp
    first | exact rfl | exact ⟨rfl, hw'⟩
  simp only [Act.put, List.setIfInBounds_toArray, List.set_cons_succ, List.set_cons_zero]
  apply kldA tBk
  · rfl
  · rfl
  · exact fun w' hw' => (hw'.blk y1.out n1).head
  simp only [Act.put, List.setIfInBounds_toArray, List.set_cons_succ, List.set_cons_zero]
  apply wpK_val
  · rfl
  · intro w' hw'
    go_simp
    exact hw'.sealing md HKK.out HF.out
  simp only [Act.put, List.setIfInBounds_toArray, List.set_cons_succ, List.set_cons_zero]
  apply kldA tBk
  · rfl
  · rfl
  · exact fun w' hw' => (hw'.blk yp.out np).head
  simp only [Act.put, List.setIfInBounds_toArray, List.set_cons_succ, List.set_cons_zero]
  apply keqA true
  · rfl
  · rfl
  · rfl
  · exact eqA_yes (Q16.refl _)
  simp only [Act.put, List.setIfInBounds_toArray, List.set_cons_succ, List.set_cons_zero]
  apply wpK_val
  · rfl
  · intro w' hw'
    go_simp
    first | exact rfl | exact ⟨rfl, hw'⟩
  simp only [Act.put, List.setIfInBounds_toArray, List.set_cons_succ, List.set_cons_zero]
  apply wpK_val
  · rfl
  · intro w' hw'
    go_simp
    first | exact rfl | exact ⟨rfl, hw'⟩
  simp only [Act.put, List.setIfInBounds_toArray, List.set_cons_succ, List.set_cons_zero]
  apply wpK_val
  · rfl
  · intro w' hw'
    go_simp
    first | exact rfl | exact ⟨rfl, hw'⟩
  simp only [Act.put, List.setIfInBounds_toArray, List.set_cons_succ, List.set_cons_zero]
  apply kldA tBk
  · rfl
  · rfl
  · exact fun w' hw' => (hw'.blk y1.out n1).head
  simp only [Act.put, List.setIfInBounds_toArray, List.set_cons_succ, List.set_cons_zero]
  apply wpK_val
  · rfl
  · intro w' hw'
    go_simp
    exact hw'.sealing mc HKK.out HF.out
  simp only [Act.put, List.setIfInBounds_toArray, List.set_cons_succ, List.set_cons_zero]
  apply kldA tBk
  · rfl
  · rfl
  · exact fun w' hw' => (hw'.blk yp.out np).head
  simp only [Act.put, List.setIfInBounds_toArray, List.set_cons_succ, List.set_cons_zero]
  apply keqA true
  · rfl
  · rfl
  · rfl
  · exact eqA_yes (Q16.refl _)
  simp only [Act.put, List.setIfInBounds_toArray, List.set_cons_succ, List.set_cons_zero]
  apply wpK_val
  · rfl
  · intro w' hw'
    go_simp
    first | exact rfl | exact ⟨rfl, hw'⟩
  simp only [Act.put, List.setIfInBounds_toArray, List.set_cons_succ, List.set_cons_zero]
  apply wpK_val
  · rfl
  · intro w' hw'
    go_simp
    first | exact rfl | exact ⟨rfl, hw'⟩
  simp only [Act.put, List.setIfInBounds_toArray, List.set_cons_succ, List.set_cons_zero]
  apply wpK_val
  · rfl
  · intro w' hw'
    go_simp
    exact hw'.awake
  simp only [Act.put, List.setIfInBounds_toArray, List.set_cons_succ, List.set_cons_zero]
  apply wpK_val
  · rfl
  · intro w' hw'
    go_simp
    first | exact rfl | exact ⟨rfl, hw'⟩
  simp only [Act.put, List.setIfInBounds_toArray, List.set_cons_succ, List.set_cons_zero]
  apply wpK_val
  · rfl
  · intro w' hw'
    go_simp
    first | exact rfl | exact ⟨rfl, hw'⟩
  simp only [Act.put, List.setIfInBounds_toArray, List.set_cons_succ, List.set_cons_zero]
  refine wpK_nil fun w5 hw5 => ?_
  have rb := hw5.2.2.1
  clear y1 yp yq HC4 hw5
  go_wp2_with fail
  go_ret
  exact ⟨rfl, rb⟩
end AesP
end Go.Proofs.Ytbgpboplpdljoaa
