/-
  The law AesKnown.
-/
import Derived.Test.YtbgpboplpdljoaaAesCl
namespace Go.Proofs.Ytbgpboplpdljoaa
open Go.ChangeShapes Go.WideShapes Go.ChangeAt Go.RowKit
open AesM (Bt ls Q16)
attribute [local go_sem] Gives GivesE
namespace AesP
theorem built_zb (w : World) : (Instr.build 24 #[]).run Try.prog w = .ok (.agg (ar 16 fun _ => 0)) w := run_build w _ _ _ (by kernel_rfl)
theorem built_zk (w : World) : (Instr.build 23 #[]).run Try.prog w = .ok (.agg (ar 32 fun _ => 0)) w := run_build w _ _ _ (by kernel_rfl)
theorem built_zc (w : World) : (Instr.build 50 #[]).run Try.prog w = .ok (.agg (cip false (fun _ => 0) (fun _ => 0) (fun _ => 0) 0)) w := run_build w _ _ _ (by kernel_rfl)
section
variable {ops : Array Oper} {Q : Exit → Act → World → Prop} {a : Act} {w : World} {rest : List Oper} {dst : Option Tmp} {ty : TypeId} {pos : String} {after : Array Edge}
theorem bld0 {T : TypeId} {parts : Array (Nat × Operand)} {cs : Array Value} (hp : parts = #[]) (hb : ∀ w, (Instr.build T #[]).run Try.prog w = .ok (.agg cs) w) (h : wpList Try.prog ops Q rest (a.put dst (.agg cs)) w) :
    wpList Try.prog ops Q (⟨dst, .build T parts, ty, pos, after, none⟩ :: rest) a w := by
  subst hp
  refine wpList_plain rfl fun K hK => ?_
  unfold Oper.wp execOp
  have hb' := hb w
  simp [hb', Result.andThen]
  exact hK _ _ h
end
set_option maxRecDepth 100000 in
theorem seal_nil (f : Nat → Nat) (w : World) :
    Calls Try.prog 10 #[.pointer none, .agg (ar 16 f)] w fun e w' => e = .returned (.agg (ar 16 fun _ => 0)) ∧ Below w.heap.size w w' := by
  go_enter Try.func10, Try.ntmps10
  go_upto_region 1 with (with_reducible apply alA tBk)
  generalize hw1 : World.alloc (World.alloc w _) _ = w1
  have b2 : Blk w1 (w.heap.size + 1) 24 (ar 16 fun _ => 0) := by rw [← hw1]; exact Blk.top rfl (by simp)
  have hb : Below w.heap.size w w1 := by rw [← hw1]; exact ((Below.refl _ _).alloc (Nat.le_refl _) _).alloc (by simp) _
  clear hw1
  go_wp2_with (first | ((with_reducible apply bld0); rfl; exact built_zb) | ((with_reducible apply stA tBk); rfl; rfl; exact b2))
  apply ret_ar tBk Try.results10
  · rfl
  · rfl
  · exact b2.setRow_same _
  exact ⟨rfl, below_setRow hb (by omega) _⟩
set_option maxRecDepth 100000 in
theorem open_nil (f : Nat → Nat) (w : World) :
    Calls Try.prog 13 #[.pointer none, .agg (ar 16 f)] w fun e w' => e = .returned (.agg (ar 16 fun _ => 0)) ∧ Below w.heap.size w w' := by
  go_enter Try.func13, Try.ntmps13
  go_upto_region 1 with (with_reducible apply alA tBk)
  generalize hw1 : World.alloc (World.alloc w _) _ = w1
  have b2 : Blk w1 (w.heap.size + 1) 24 (ar 16 fun _ => 0) := by rw [← hw1]; exact Blk.top rfl (by simp)
  have hb : Below w.heap.size w w1 := by rw [← hw1]; exact ((Below.refl _ _).alloc (Nat.le_refl _) _).alloc (by simp) _
  clear hw1
  go_wp2_with (first | ((with_reducible apply bld0); rfl; exact built_zb) | ((with_reducible apply stA tBk); rfl; rfl; exact b2))
  apply ret_ar tBk Try.results13
  · rfl
  · rfl
  · exact b2.setRow_same _
  exact ⟨rfl, below_setRow hb (by omega) _⟩
/-- A cipher that New did not make. -/
def Emp (w : World) (g : Nat) : Prop := Blk w g 50 (cip false (fun _ => 0) (fun _ => 0) (fun _ => 0) 0)
set_option maxRecDepth 100000 in
theorem seal_emp (f : Nat → Nat) (g : Nat) (w : World) (hc : Emp w g) :
    Calls Try.prog 10 #[.pointer (some ⟨g, 0, none⟩), .agg (ar 16 f)] w fun e w' => e = .returned (.agg (ar 16 fun _ => 0)) ∧ Below w.heap.size w w' := by
  have HC := hid hc
  have hg := Blk.lt hc
  clear hc
  go_enter Try.func10, Try.ntmps10
  go_upto_region 1 with (with_reducible apply alA tBk)
  generalize hw1 : World.alloc (World.alloc w _) _ = w1
  have b2 : Blk w1 (w.heap.size + 1) 24 (ar 16 fun _ => 0) := by rw [← hw1]; exact Blk.top rfl (by simp)
  have hb : Below w.heap.size w w1 := by rw [← hw1]; exact ((Below.refl _ _).alloc (Nat.le_refl _) _).alloc (by simp) _
  have hm := cip_made (Blk.below HC.out hb hg)
  clear hw1 HC
  go_wp2_with (first | ((with_reducible apply bld0); rfl; exact built_zb) | ((with_reducible apply stA tBk); rfl; rfl; exact b2))
  apply ret_ar tBk Try.results10
  · rfl
  · rfl
  · exact b2.setRow_same _
  exact ⟨rfl, below_setRow hb (by omega) _⟩
set_option maxRecDepth 100000 in
theorem open_emp (f : Nat → Nat) (g : Nat) (w : World) (hc : Emp w g) :
    Calls Try.prog 13 #[.pointer (some ⟨g, 0, none⟩), .agg (ar 16 f)] w fun e w' => e = .returned (.agg (ar 16 fun _ => 0)) ∧ Below w.heap.size w w' := by
  have HC := hid hc
  have hg := Blk.lt hc
  clear hc
  go_enter Try.func13, Try.ntmps13
  go_upto_region 1 with (with_reducible apply alA tBk)
  generalize hw1 : World.alloc (World.alloc w _) _ = w1
  have b2 : Blk w1 (w.heap.size + 1) 24 (ar 16 fun _ => 0) := by rw [← hw1]; exact Blk.top rfl (by simp)
  have hb : Below w.heap.size w w1 := by rw [← hw1]; exact ((Below.refl _ _).alloc (Nat.le_refl _) _).alloc (by simp) _
  have hm := cip_made (Blk.below HC.out hb hg)
  clear hw1 HC
  go_wp2_with (first | ((with_reducible apply bld0); rfl; exact built_zb) | ((with_reducible apply stA tBk); rfl; rfl; exact b2))
  apply ret_ar tBk Try.results13
  · rfl
  · rfl
  · exact b2.setRow_same _
  exact ⟨rfl, below_setRow hb (by omega) _⟩
theorem ls_zK : ls AesM.zK = fun _ => 0 := funext fun i => by
  unfold ls
  rw [List.getD_eq_getElem?_getD, show AesM.zK = List.replicate 32 0 from rfl, List.getElem?_replicate]
  split <;> rfl
theorem ls_zB : ls AesM.zB = fun _ => 0 := funext fun i => by
  unfold ls
  rw [List.getD_eq_getElem?_getD, show AesM.zB = List.replicate 16 0 from rfl, List.getElem?_replicate]
  split <;> rfl
theorem zero_bt : Bt fun _ => 0 := fun _ => Nat.zero_lt_succ _
set_option maxHeartbeats 800000 in
set_option maxRecDepth 100000 in
theorem known_law (w : World) :
    Calls Try.prog 5 #[] w fun e w' => e = .returned (.bool true) ∧ Below w.heap.size w w' := by
  go_enter Try.func5, Try.ntmps5
  go_wp2_with fail
  refine (steps_any w).mono ?_
  rintro e w1 ⟨rfl, h1⟩
  have hs1 := h1.size
  obtain ⟨g1, hg1⟩ : ∃ g1, g1 = w1.heap.size := ⟨_, rfl⟩
  obtain ⟨g2, hg2⟩ : ∃ g2, g2 = (w1.alloc (.cells (ar 32 fun _ => 0) 23)).heap.size := ⟨_, rfl⟩
  have hg12 : g2 = g1 + 1 := by rw [hg2, hg1]; simp
  have hwg : w.heap.size ≤ g1 := by omega
  have z1 : Blk ((w1.alloc (.cells (ar 32 fun _ => 0) 23)).alloc (.cells (ar 16 fun _ => 0) 24)) w1.heap.size 23 (ar 32 fun _ => 0) := (Blk.new _ _ _).alloc _
  have z2 : Blk ((w1.alloc (.cells (ar 32 fun _ => 0) 23)).alloc (.cells (ar 16 fun _ => 0) 24)) (w1.alloc (.cells (ar 32 fun _ => 0) 23)).heap.size 24 (ar 16 fun _ => 0) := Blk.new _ _ _
  have z2' := z2.setRow_other (g' := w1.heap.size) (by simp) (ar 32 (ls AesM.exK))
  have z1' := z1.setRow_same (ar 32 (ls AesM.exK))
  go_upto_region 2 with (first | (with_reducible apply alA tKey) | (with_reducible apply alA tBk) | ((with_reducible apply stA tKey); rfl; rfl; exact z1) | ((with_reducible apply stA tBk); rfl; rfl; exact z2'))
  rw [← hg2, ← hg1] at *
  generalize hw3 : World.setRow (World.setRow _ _ _) _ _ = w3
  have b1 := hid (show Blk w3 g1 23 (ar 32 (ls AesM.exK)) by rw [← hw3]; exact z1'.setRow_other (by omega) _)
  have b2 := hid (show Blk w3 g2 24 (ar 16 (ls AesM.exB)) by rw [← hw3]; exact z2'.setRow_same _)
  have hb := hid (show Below w.heap.size w w3 by rw [← hw3]; exact below_setRow (below_setRow ((h1.alloc (by omega) _).alloc (by simp; omega) _) hwg _) (by omega) _)
  clear hw3 z1 z2 z1' z2' h1 hg1 hg2 hs1
  subst hg12
  go_wp2_with ((with_reducible apply ldA tKey); rfl; exact b1.out)
  refine (new_any (ls AesM.exK) exK_bt w3).mono ?_
  rintro e w4 ⟨c, rfl, hc1, hc2, h4⟩
  have hc3 := cip_lt hc2
  have x2 := b2.out.below h4 b2.out.lt
  have xb := hb.out.trans (h4.mono hb.out.size)
  have hl2 := b2.out.lt
  clear b1 b2 hb
  have X2 := hid x2
  have XB := hid xb
  have XC := hid hc2
  clear x2 xb hc2 h4
  go_wp2_with ((with_reducible apply bld0); rfl; exact built_zk)
  refine (new_any (fun _ => 0) zero_bt w4).mono ?_
  rintro e w5 ⟨c0, rfl, hz1, hz2, h5⟩
  have x2 := X2.out.below h5 X2.out.lt
  have xb := XB.out.trans (h5.mono XB.out.size)
  have xc : Cip w5 c (AesM.ks (ls AesM.exK)) false := Blk.below XC.out h5 hc3
  have Z2 := hid hz2
  clear X2 XB XC hz2 h5
  have X2 := hid x2
  have XB := hid xb
  have XC := hid xc
  clear x2 xb xc
  go_wp2_with ((with_reducible apply bld0); rfl; exact built_zb)
  refine (seal_any (AesM.ks fun _ => 0) (fun _ => 0) false (AesM.ks_bt zero_bt) zero_bt c0 w5 Z2.out).mono ?_
  rintro e w6 ⟨rfl, h6⟩
  have x2 := X2.out.below h6 X2.out.lt
  have xb := XB.out.trans (h6.mono XB.out.size)
  have hl5 := cip_lt XC.out
  have xc : Cip w6 c (AesM.ks (ls AesM.exK)) false := Blk.below XC.out h6 hl5
  have hw56 := h6.size
  have hl2' := x2.lt
  clear X2 XB XC Z2 h6
  have X2 := hid x2
  have XB := hid xb
  have XC := hid xc
  have hl6 := cip_lt xc
  clear x2 xb xc
  have hz : Blk (w6.alloc (.cells (ar 16 fun _ => 0) 24)) w6.heap.size 24 (ar 16 fun _ => 0) := Blk.new _ _ _
  obtain ⟨gz, hgz⟩ : ∃ gz, gz = w6.heap.size := ⟨_, rfl⟩
  go_upto_region 4 with (first | (with_reducible apply alA tBk) | ((with_reducible apply stA tBk); rfl; rfl; exact hz))
  rw [← hgz] at hz ⊢
  have hcz : c < gz := by omega
  have h2z : g1 + 1 < gz := by omega
  have hwz : w.heap.size ≤ gz := by have := XB.out.size; omega
  generalize hw7 : World.setRow _ _ _ = w7
  have x2 := hid (show Blk w7 (g1 + 1) 24 (ar 16 (ls AesM.exB)) by rw [← hw7]; exact (X2.out.alloc _).setRow_other (by omega) _)
  have xc := hid (show Cip w7 c (AesM.ks (ls AesM.exK)) false by rw [← hw7]; exact Blk.setRow_other (Blk.alloc XC.out _) (by omega) _)
  have xz := hid (show Blk w7 gz 24 (ar 16 (AesM.sealM (AesM.ks fun _ => 0) fun _ => 0)) by rw [← hw7]; exact hz.setRow_same _)
  have xb := hid (show Below w.heap.size w w7 by rw [← hw7]; exact below_setRow (XB.out.alloc XB.out.size _) (by omega) _)
  clear hw7 hz X2 XB XC hgz
  go_upto_region 6 with ((with_reducible apply bld0); rfl; exact built_zc)
  obtain ⟨ge, hge⟩ : ∃ ge, ge = w7.heap.size := ⟨_, rfl⟩
  rw [← hge]
  generalize hw8 : World.alloc w7 _ = w8
  have be := hid (show Emp w8 ge by rw [← hw8, hge]; exact Blk.new _ _ _)
  have b2 := hid (show Blk w8 (g1 + 1) 24 (ar 16 (ls AesM.exB)) by rw [← hw8]; exact x2.out.alloc _)
  have bz := hid (show Blk w8 gz 24 (ar 16 (AesM.sealM (AesM.ks fun _ => 0) fun _ => 0)) by rw [← hw8]; exact xz.out.alloc _)
  have bc : Cip w8 c (AesM.ks (ls AesM.exK)) false := by rw [← hw8]; exact Blk.alloc xc.out _
  have bb : Below w.heap.size w w8 := by rw [← hw8]; exact xb.out.alloc xb.out.size _
  have hzl := xz.out.lt
  have HCL := hid (show Cl w w8 [c] (AesM.ks (ls AesM.exK)) w8 from Cl.start (fun g hg => by rw [List.mem_singleton] at hg; subst hg; exact ⟨⟨_, bc⟩, by omega⟩) bb)
  have mc : c ∈ [c] := List.mem_singleton.2 rfl
  have n2 : (g1 + 1) ∉ [c] := by simp; omega
  have nz : gz ∉ [c] := by simp; omega
  have ne : ge ∉ [c] := by simp; omega
  have HKK := hid (AesM.ks_bt exK_bt)
  have SB := hid (AesM.seal_bt (f := ls AesM.exB) HKK.out)
  have hO : ∀ w : World, (Instr.build 24 #[(0, .int .u8 220), (1, .int .u8 149), (2, .int .u8 192), (3, .int .u8 120), (4, .int .u8 162), (5, .int .u8 64), (6, .int .u8 137), (7, .int .u8 137), (8, .int .u8 173), (9, .int .u8 72), (10, .int .u8 162), (11, .int .u8 20), (12, .int .u8 146), (13, .int .u8 132), (14, .int .u8 32), (15, .int .u8 135)]).run Try.prog w = .ok (.agg (ar 16 (ls AesM.zO))) w := fun w => run_build w _ _ _ (by kernel_rfl)
  have HO := hid hO
  have HZ := hid (show Q16 (AesM.sealM (AesM.ks fun _ => 0) fun _ => 0) (ls AesM.zO) by have h := AesM.ex_two; rw [ls_zK, ls_zB] at h; exact h)
  clear hw8 x2 xc xz xb bc bb hO hge
  refine wp_region_tail (C := Cl w w8 [c] (AesM.ks (ls AesM.exK))) 44 (by kernel_rfl) (by kernel_rfl) (by kernel_rfl) HCL.out.drew ?_
  simp only [List.take_succ_cons, List.take_zero, List.drop_succ_cons, List.drop_zero]
  apply wpK_val
  · rfl
  · intro w' hw'
    go_simp
    exact hw'.awake
  simp only [Act.put, List.setIfInBounds_toArray, List.set_cons_succ, List.set_cons_zero]
  apply wpK_val
  · rfl
  · intro w' hw'
    go_simp
    first | exact rfl | exact ⟨rfl, hw'⟩
  simp only [Act.put, List.setIfInBounds_toArray, List.set_cons_succ, List.set_cons_zero]
  apply wpK_val
  · rfl
  · intro w' hw'
    go_simp
    first | exact rfl | exact ⟨rfl, hw'⟩
  simp only [Act.put, List.setIfInBounds_toArray, List.set_cons_succ, List.set_cons_zero]
  apply wpK_val
  · rfl
  · intro w' hw'
    go_simp
    first | exact rfl | exact ⟨rfl, hw'⟩
  simp only [Act.put, List.setIfInBounds_toArray, List.set_cons_succ, List.set_cons_zero]
  apply kldA tBk
  · rfl
  · rfl
  · exact fun w' hw' => (hw'.blk b2.out n2).head
  simp only [Act.put, List.setIfInBounds_toArray, List.set_cons_succ, List.set_cons_zero]
  apply wpK_val
  · rfl
  · intro w' hw'
    go_simp
    exact hw'.sealing mc HKK.out exB_bt
  simp only [Act.put, List.setIfInBounds_toArray, List.set_cons_succ, List.set_cons_zero]
  apply wpK_val
  · rfl
  · intro w' hw'
    go_simp
    exact hw'.open' mc HKK.out SB.out
  simp only [Act.put, List.setIfInBounds_toArray, List.set_cons_succ, List.set_cons_zero]
  apply kldA tBk
  · rfl
  · rfl
  · exact fun w' hw' => (hw'.blk b2.out n2).head
  simp only [Act.put, List.setIfInBounds_toArray, List.set_cons_succ, List.set_cons_zero]
  apply keqA true
  · rfl
  · rfl
  · rfl
  · exact eqA_yes (AesM.open_seal HKK.out exB_bt)
  simp only [Act.put, List.setIfInBounds_toArray, List.set_cons_succ, List.set_cons_zero]
  apply wpK_val
  · rfl
  · intro w' hw'
    go_simp
    first | exact rfl | exact ⟨rfl, hw'⟩
  simp only [Act.put, List.setIfInBounds_toArray, List.set_cons_succ, List.set_cons_zero]
  apply wpK_val
  · rfl
  · intro w' hw'
    go_simp
    first | exact rfl | exact ⟨rfl, hw'⟩
  simp only [Act.put, List.setIfInBounds_toArray, List.set_cons_succ, List.set_cons_zero]
  apply kldA tBk
  · rfl
  · rfl
  · exact fun w' hw' => (hw'.blk bz.out nz).head
  simp only [Act.put, List.setIfInBounds_toArray, List.set_cons_succ, List.set_cons_zero]
  apply kbldA (cs := ar 16 (ls AesM.zO))
  · rfl
  · intro w'
    simp only [List.map_toArray, List.map_cons, List.map_nil]
    exact HO.out w'
  simp only [Act.put, List.setIfInBounds_toArray, List.set_cons_succ, List.set_cons_zero]
  apply keqA true
  · rfl
  · rfl
  · rfl
  · exact eqA_yes HZ.out
  simp only [Act.put, List.setIfInBounds_toArray, List.set_cons_succ, List.set_cons_zero]
  apply wpK_val
  · rfl
  · intro w' hw'
    go_simp
    first | exact rfl | exact ⟨rfl, hw'⟩
  simp only [Act.put, List.setIfInBounds_toArray, List.set_cons_succ, List.set_cons_zero]
  apply wpK_val
  · rfl
  · intro w' hw'
    go_simp
    first | exact rfl | exact ⟨rfl, hw'⟩
  simp only [Act.put, List.setIfInBounds_toArray, List.set_cons_succ, List.set_cons_zero]
  apply wpK_val
  · rfl
  · intro w' hw'
    go_simp
    first | exact rfl | exact ⟨rfl, hw'⟩
  simp only [Act.put, List.setIfInBounds_toArray, List.set_cons_succ, List.set_cons_zero]
  apply kldA tBk
  · rfl
  · rfl
  · exact fun w' hw' => (hw'.blk b2.out n2).head
  simp only [Act.put, List.setIfInBounds_toArray, List.set_cons_succ, List.set_cons_zero]
  apply wpK_val
  · rfl
  · intro w' hw'
    go_simp
    exact (seal_nil (ls AesM.exB) w').mono fun e _ h => ⟨h.1, hw'.below h.2⟩
  simp only [Act.put, List.setIfInBounds_toArray, List.set_cons_succ, List.set_cons_zero]
  apply kbldA (cs := ar 16 fun _ => 0)
  · rfl
  · intro w'
    simp only [List.map_toArray, List.map_nil]
    exact built_zb w'
  simp only [Act.put, List.setIfInBounds_toArray, List.set_cons_succ, List.set_cons_zero]
  apply keqA true
  · rfl
  · rfl
  · rfl
  · exact eqA_yes (Q16.refl _)
  simp only [Act.put, List.setIfInBounds_toArray, List.set_cons_succ, List.set_cons_zero]
  apply wpK_val
  · rfl
  · intro w' hw'
    go_simp
    first | exact rfl | exact ⟨rfl, hw'⟩
  simp only [Act.put, List.setIfInBounds_toArray, List.set_cons_succ, List.set_cons_zero]
  apply wpK_val
  · rfl
  · intro w' hw'
    go_simp
    first | exact rfl | exact ⟨rfl, hw'⟩
  simp only [Act.put, List.setIfInBounds_toArray, List.set_cons_succ, List.set_cons_zero]
  apply wpK_val
  · rfl
  · intro w' hw'
    go_simp
    first | exact rfl | exact ⟨rfl, hw'⟩
  simp only [Act.put, List.setIfInBounds_toArray, List.set_cons_succ, List.set_cons_zero]
  apply kldA tBk
  · rfl
  · rfl
  · exact fun w' hw' => (hw'.blk b2.out n2).head
  simp only [Act.put, List.setIfInBounds_toArray, List.set_cons_succ, List.set_cons_zero]
  apply wpK_val
  · rfl
  · intro w' hw'
    go_simp
    exact (open_nil (ls AesM.exB) w').mono fun e _ h => ⟨h.1, hw'.below h.2⟩
  simp only [Act.put, List.setIfInBounds_toArray, List.set_cons_succ, List.set_cons_zero]
  apply kbldA (cs := ar 16 fun _ => 0)
  · rfl
  · intro w'
    simp only [List.map_toArray, List.map_nil]
    exact built_zb w'
  simp only [Act.put, List.setIfInBounds_toArray, List.set_cons_succ, List.set_cons_zero]
  apply keqA true
  · rfl
  · rfl
  · rfl
  · exact eqA_yes (Q16.refl _)
  simp only [Act.put, List.setIfInBounds_toArray, List.set_cons_succ, List.set_cons_zero]
  apply wpK_val
  · rfl
  · intro w' hw'
    go_simp
    first | exact rfl | exact ⟨rfl, hw'⟩
  simp only [Act.put, List.setIfInBounds_toArray, List.set_cons_succ, List.set_cons_zero]
  apply wpK_val
  · rfl
  · intro w' hw'
    go_simp
    first | exact rfl | exact ⟨rfl, hw'⟩
  simp only [Act.put, List.setIfInBounds_toArray, List.set_cons_succ, List.set_cons_zero]
  apply wpK_val
  · rfl
  · intro w' hw'
    go_simp
    first | exact rfl | exact ⟨rfl, hw'⟩
  simp only [Act.put, List.setIfInBounds_toArray, List.set_cons_succ, List.set_cons_zero]
  apply kldA tBk
  · rfl
  · rfl
  · exact fun w' hw' => (hw'.blk b2.out n2).head
  simp only [Act.put, List.setIfInBounds_toArray, List.set_cons_succ, List.set_cons_zero]
  apply wpK_val
  · rfl
  · intro w' hw'
    go_simp
    exact (seal_emp (ls AesM.exB) ge w' (hw'.blk be.out ne)).mono fun e _ h => ⟨h.1, hw'.below h.2⟩
  simp only [Act.put, List.setIfInBounds_toArray, List.set_cons_succ, List.set_cons_zero]
  apply kbldA (cs := ar 16 fun _ => 0)
  · rfl
  · intro w'
    simp only [List.map_toArray, List.map_nil]
    exact built_zb w'
  simp only [Act.put, List.setIfInBounds_toArray, List.set_cons_succ, List.set_cons_zero]
  apply keqA true
  · rfl
  · rfl
  · rfl
  · exact eqA_yes (Q16.refl _)
  simp only [Act.put, List.setIfInBounds_toArray, List.set_cons_succ, List.set_cons_zero]
  apply wpK_val
  · rfl
  · intro w' hw'
    go_simp
    first | exact rfl | exact ⟨rfl, hw'⟩
  simp only [Act.put, List.setIfInBounds_toArray, List.set_cons_succ, List.set_cons_zero]
  apply wpK_val
  · rfl
  · intro w' hw'
    go_simp
    first | exact rfl | exact ⟨rfl, hw'⟩
  simp only [Act.put, List.setIfInBounds_toArray, List.set_cons_succ, List.set_cons_zero]
  apply wpK_val
  · rfl
  · intro w' hw'
    go_simp
    first | exact rfl | exact ⟨rfl, hw'⟩
  simp only [Act.put, List.setIfInBounds_toArray, List.set_cons_succ, List.set_cons_zero]
  apply kldA tBk
  · rfl
  · rfl
  · exact fun w' hw' => (hw'.blk b2.out n2).head
  simp only [Act.put, List.setIfInBounds_toArray, List.set_cons_succ, List.set_cons_zero]
  apply wpK_val
  · rfl
  · intro w' hw'
    go_simp
    exact (open_emp (ls AesM.exB) ge w' (hw'.blk be.out ne)).mono fun e _ h => ⟨h.1, hw'.below h.2⟩
  simp only [Act.put, List.setIfInBounds_toArray, List.set_cons_succ, List.set_cons_zero]
  apply kbldA (cs := ar 16 fun _ => 0)
  · rfl
  · intro w'
    simp only [List.map_toArray, List.map_nil]
    exact built_zb w'
  simp only [Act.put, List.setIfInBounds_toArray, List.set_cons_succ, List.set_cons_zero]
  apply keqA true
  · rfl
  · rfl
  · rfl
  · exact eqA_yes (Q16.refl _)
  simp only [Act.put, List.setIfInBounds_toArray, List.set_cons_succ, List.set_cons_zero]
  apply wpK_val
  · rfl
  · intro w' hw'
    go_simp
    first | exact rfl | exact ⟨rfl, hw'⟩
  simp only [Act.put, List.setIfInBounds_toArray, List.set_cons_succ, List.set_cons_zero]
  apply wpK_val
  · rfl
  · intro w' hw'
    go_simp
    first | exact rfl | exact ⟨rfl, hw'⟩
  simp only [Act.put, List.setIfInBounds_toArray, List.set_cons_succ, List.set_cons_zero]
  refine wpK_nil fun w9 hw9 => ?_
  have rb := hw9.2.2.1
  clear b2 bz be HCL hw9
  go_wp2_with fail
  go_ret
  exact ⟨rfl, rb⟩
end AesP
end Go.Proofs.Ytbgpboplpdljoaa
