/-
  Contract of xts.New.
-/
import Derived.Test.YtfnepbkgmopjcaaXtF
namespace Go.Proofs.Ytfnepbkgmopjcaa
open Go.ChangeShapes Go.WideShapes Go.ChangeAt Go.RowKit
open AesM (Bt Q16)
open AesP (tBk tKey wr_nat Cip cip_lt new_any nS nV nS_ok)
attribute [local go_sem] Gives GivesE
namespace XtP
/-- What the two calls have made. -/
def nP (B : Nat) (K L : Nat → Nat) (j : Nat) (vs : Nat → Value) (w : World) : Prop :=
  (j = 1 → ∃ c, vs j = pt c ∧ Cip w c K false ∧ B ≤ c) ∧ (j = 3 → ∃ c, vs j = pt c ∧ Cip w c L false ∧ B ≤ c)
section
variable {B i j : Nat} {K L : Nat → Nat} {vs : Nat → Value} {v : Value} {w w' : World}
theorem nP_below (h : nP B K L j vs w) (hb : Below w.heap.size w w') : nP B K L j vs w' :=
  ⟨fun e => by obtain ⟨c, h1, h2, h3⟩ := h.1 e; exact ⟨c, h1, Blk.below h2 hb (cip_lt h2), h3⟩, fun e => by obtain ⟨c, h1, h2, h3⟩ := h.2 e; exact ⟨c, h1, Blk.below h2 hb (cip_lt h2), h3⟩⟩
theorem nP_loc (hji : j ≠ i) (h : nP B K L j vs w) : nP B K L j (updV vs i v) w := by
  unfold nP at h ⊢
  rw [updV_ne _ _ hji]
  exact h
theorem nP_none (h1 : j ≠ 1) (h3 : j ≠ 3) : nP B K L j vs w := ⟨fun e => absurd e h1, fun e => absurd e h3⟩
end
set_option maxHeartbeats 400000 in
set_option maxRecDepth 100000 in
theorem mode_any (k l : Nat → Nat) (hk : Bt k) (hl : Bt l) (w : World) :
    Calls Try.prog 9 #[.agg (ar 32 k), .agg (ar 32 l)] w fun e w' => ∃ g c d, e = .returned (.pointer (some ⟨g, 0, none⟩)) ∧ w.heap.size ≤ g ∧ w.heap.size ≤ c ∧ w.heap.size ≤ d ∧ Md w' g c d ∧ Cip w' c (AesM.ks k) false ∧ Cip w' d (AesM.ks l) false ∧ Below w.heap.size w w' := by
  have HK := hid hk
  have HL := hid hl
  clear hk hl
  go_enter Try.func9, Try.ntmps9
  go_upto_region 1 with fail
  generalize hw3 : World.alloc (World.alloc w _) _ = w3
  have b1 := hid (show Blk w3 w.heap.size 23 (ar 32 k) by rw [← hw3]; exact (Blk.new _ _ _).alloc _)
  have b2 := hid (show Blk w3 (w.heap.size + 1) 23 (ar 32 l) by rw [← hw3]; exact Blk.top rfl (by simp))
  have hb := hid (show Below w.heap.size w w3 by rw [← hw3]; exact ((Below.refl _ _).alloc (Nat.le_refl _) _).alloc (by simp) _)
  clear hw3
  refine wp_region_ex (S := nS [some (.agg (ar 32 k)), none, some (.agg (ar 32 l)), none]) (D := nP w3.heap.size (AesM.ks k) (AesM.ks l)) (K := fun _ _ w w' => Below w.heap.size w w') (C := fun _ w' => Below w3.heap.size w3 w') 4 (by kernel_rfl) (by kernel_rfl) (by kernel_rfl)
    _ (nS_ok _) (fun i j vs w w' _ _ _ h hb => nP_below h hb) (fun j i vs v w hji _ h => nP_loc hji h) (Below.refl _ _).drew fun vs => ?_
  simp only [List.take_succ_cons, List.take_zero, List.drop_succ_cons, List.drop_zero]
  refine ⟨.inl ⟨rfl, fun dd w' hd hC hDs => ?_⟩, fun e => ?_⟩
  · exact gE_load tKey rfl (b1.out.below hC b1.out.lt).head ⟨rfl, hC, Below.refl _ _, nP_none (by omega) (by omega)⟩
  have e' : vs 0 = _ := e
  rw [e']
  clear e e'
  simp only [Act.put, List.setIfInBounds_toArray, List.set_cons_succ, List.set_cons_zero]
  refine ⟨.inl ⟨rfl, fun dd w' hd hC hDs => ?_⟩, fun e => ?_⟩
  · go_simp
    refine (new_any k HK.out w').mono ?_
    rintro e w'' ⟨g, rfl, h2, h3, h4⟩
    exact ⟨_, rfl, ⟨g, rfl⟩, hC.trans (h4.mono hC.size), h4, ⟨fun _ => ⟨g, updV_self _ _ _, h3, Nat.le_trans hC.size h2⟩, fun e => by omega⟩⟩
  clear e
  simp only [Act.put, List.setIfInBounds_toArray, List.set_cons_succ, List.set_cons_zero]
  refine ⟨.inl ⟨rfl, fun dd w' hd hC hDs => ?_⟩, fun e => ?_⟩
  · exact gE_load tKey rfl (b2.out.below hC b2.out.lt).head ⟨rfl, hC, Below.refl _ _, nP_none (by omega) (by omega)⟩
  have e' : vs 2 = _ := e
  rw [e']
  clear e e'
  simp only [Act.put, List.setIfInBounds_toArray, List.set_cons_succ, List.set_cons_zero]
  refine ⟨.inl ⟨rfl, fun dd w' hd hC hDs => ?_⟩, fun e => ?_⟩
  · go_simp
    refine (new_any l HL.out w').mono ?_
    rintro e w'' ⟨g, rfl, h2, h3, h4⟩
    exact ⟨_, rfl, ⟨g, rfl⟩, hC.trans (h4.mono hC.size), h4, ⟨fun e => by omega, fun _ => ⟨g, updV_self _ _ _, h3, Nat.le_trans hC.size h2⟩⟩⟩
  clear e
  simp only [Act.put, List.setIfInBounds_toArray, List.set_cons_succ, List.set_cons_zero]
  intro dd w5 _ hw5 hD5
  obtain ⟨c, e1, hc, hcB⟩ := (hD5 1 (by omega)).1 rfl
  obtain ⟨d, e3, hd, hdB⟩ := (hD5 3 (by omega)).2 rfl
  rw [e1, e3]
  have rb := hid (hb.out.trans (hw5.mono hb.out.size))
  have HC := hid hc
  have HD := hid hd
  have hs := hb.out.size
  have hwg : w.heap.size ≤ w5.heap.size := rb.out.size
  clear b1 b2 hb hw5 hD5 e1 e3 hc hd
  unfold pt
  go_wp2_with fail
  go_ret
  exact ⟨_, c, d, rfl, hwg, by omega, by omega, Blk.new _ _ _, Blk.alloc HC.out _, Blk.alloc HD.out _, rb.out.alloc hwg _⟩
end XtP
end Go.Proofs.Ytfnepbkgmopjcaa
