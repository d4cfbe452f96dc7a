/-
  Contract of casematelaw08.works.
-/
import Derived.Test.YtfnepbkgmopjcaaXtV
import Derived.Test.YtfnepbkgmopjcaaXtX
import Derived.Test.YtfnepbkgmopjcaaAesCl
namespace Go.Proofs.Ytfnepbkgmopjcaa
open Go.ChangeShapes Go.WideShapes Go.ChangeAt Go.RowKit
open AesM (Bt Q16 ls)
open AesP (tBk tKey wr_nat Cip cip_lt)
attribute [local go_sem] Gives
namespace XtP
theorem built_k1 (w : World) : (Instr.build 23 #[(0, .int .u8 1)]).run Try.prog w = .ok (.agg (ar 32 (ls XtM.k1))) w := run_build w _ _ _ (by kernel_rfl)
theorem built_k2 (w : World) : (Instr.build 23 #[(0, .int .u8 2)]).run Try.prog w = .ok (.agg (ar 32 (ls XtM.k2))) w := run_build w _ _ _ (by kernel_rfl)
section
variable {ops : Array Oper} {Q : Exit → Act → World → Prop} {a : Act} {w : World} {rest : List Oper} {dst : Option Tmp} {ty : TypeId} {pos : String} {after : Array Edge}
theorem bld_k1 (h : wpList Try.prog ops Q rest (a.put dst (.agg (ar 32 (ls XtM.k1)))) w) : wpList Try.prog ops Q (⟨dst, .build 23 #[(0, .const (.int .u8 1))], ty, pos, after, none⟩ :: rest) a w := bld_one built_k1 h
theorem bld_k2 (h : wpList Try.prog ops Q rest (a.put dst (.agg (ar 32 (ls XtM.k2)))) w) : wpList Try.prog ops Q (⟨dst, .build 23 #[(0, .const (.int .u8 2))], ty, pos, after, none⟩ :: rest) a w := bld_one built_k2 h
end
def one : List Nat := [1, 0, 0, 0, 0, 0, 0, 0, 0, 0, 0, 0, 0, 0, 0, 0]
def two : List Nat := [2, 0, 0, 0, 0, 0, 0, 0, 0, 0, 0, 0, 0, 0, 0, 0]
theorem one_bt : Bt (ls one) := XtM.ls_bt (by decide)
theorem built_one (w : World) : (Instr.build 35 #[(0, .int .u8 1)]).run Try.prog w = .ok (.agg (ar 16 (ls one))) w := run_build w _ _ _ (by kernel_rfl)
theorem built_two (w : World) : (Instr.build 35 #[(0, .int .u8 2)]).run Try.prog w = .ok (.agg (ar 16 (ls two))) w := run_build w _ _ _ (by kernel_rfl)
theorem dbl_one : ∀ i, i < 16 → XtM.dbl (ls one) i = ls two i := by decide +kernel
theorem s0_row : (ar 64 fun _ => 0).setIfInBounds 5 (.int .u8 7) = ar 64 (ls XtM.s0) := by
  have h := ar_set (n := 64) (k := 5) (v := 7) (f := fun _ => 0)
  rw [show ((.int .u8 7 : Value)) = .int .u8 ((7 : Nat) : Int) from rfl, h]
  refine ar_ext fun j hj => ?_
  have e : ∀ j, j < 64 → (if j = 5 then 7 else 0) = ls XtM.s0 j := by decide +kernel
  exact e j hj
set_option maxHeartbeats 800000 in
set_option maxRecDepth 100000 in
theorem works_any (W : World) :
    Calls Try.prog 14 #[] W fun e w' => e = .returned (.bool true) ∧ Below W.heap.size W w' := by
  go_enter Try.func14, Try.ntmps14
  go_wp2_with (first | (with_reducible apply bld_k1) | (with_reducible apply bld_k2))
  refine (mode_any (ls XtM.k1) (ls XtM.k2) XtM.k1_bt XtM.k2_bt W).mono ?_
  rintro e w1 ⟨g, c, d, rfl, hg, hc, hd, hm, kc, kd, hb⟩
  have km : Mo W w1 g c d (AesM.ks (ls XtM.k1)) (AesM.ks (ls XtM.k2)) w1 := Mo.start hm ⟨_, kc⟩ ⟨_, kd⟩ hc hb
  have hW1 := hb.size
  obtain ⟨lg, lc, ld⟩ := km.three
  have hz : Blk (w1.alloc (.cells (ar 64 fun _ => 0) 28)) w1.heap.size 28 (ar 64 fun _ => 0) := Blk.new _ _ _
  have km2 := km.alloc (.cells (ar 64 fun _ => 0) 28)
  obtain ⟨gs, hgs⟩ : ∃ gs, gs = w1.heap.size := ⟨_, rfl⟩
  rw [← hgs] at lg lc ld
  clear hm kc kd hb km hg hc hd
  have KM2 := hid km2
  clear km2
  go_upto_region 3 with (with_reducible apply alA tSec)
  rw [← hgs] at hz ⊢
  have HGS := hid hgs
  clear hgs
  generalize hw2 : World.alloc _ _ = w2 at hz KM2 ⊢
  have c5 := (hz.cell 5).trans (get_ar (by omega))
  have f5 := hz.frozen 5
  go_upto_region 4 with fail
  have h3 : Blk (w2.setCell ⟨gs, 5, none⟩ (.int .u8 7)) gs 28 (ar 64 (ls XtM.s0)) := by rw [← s0_row]; exact hz.setCell_same 5 _
  have km3 := (KM2.out.setCell (p := ⟨gs, 5, none⟩) (by show w1.heap.size ≤ gs; have := HGS.out; omega) hW1 (by show gs ≠ g; omega) (by show gs ≠ c; omega) (by show gs ≠ d; omega) (.int .u8 7)).renew
  clear hw2 c5 f5 KM2 hz
  generalize World.setCell w2 _ _ = w3 at h3 km3 ⊢
  have hW3 := km3.base.size
  have hs3 := h3.lt
  have KM3 := hid km3
  have H3 := hid h3
  clear km3
  go_wp2_with ((with_reducible apply ldA tSec); rfl; exact h3)
  clear h3
  have hS := KM3.out.sealing (n := 3) (AesM.ks_bt XtM.k1_bt) (AesM.ks_bt XtM.k2_bt) XtM.s0_bt (by omega)
  rw [show ((3 : Nat) : Int) = 3 from rfl] at hS
  refine hS.mono ?_
  rintro e w4 ⟨rfl, km4⟩
  have h4 := hid (km4.blk H3.out (by omega))
  have KM4 := hid km4.renew
  clear km4 KM3 H3
  have hW4 := KM4.out.base.size
  obtain ⟨lg4, lc4, ld4⟩ := KM4.out.three
  have hz : Blk (w4.alloc (.cells (ar 64 fun _ => 0) 28)) w4.heap.size 28 (ar 64 fun _ => 0) := Blk.new _ _ _
  obtain ⟨gx, hgx⟩ : ∃ gx, gx = w4.heap.size := ⟨_, rfl⟩
  have hs4 := h4.out.lt
  have BT := hid (sealed_bt (AesM.ks_bt XtM.k1_bt) (AesM.ks_bt XtM.k2_bt) XtM.s0_bt 3)
  go_upto_region 5 with (first | (with_reducible apply alA tSec) | ((with_reducible apply stA tSec); rfl; rfl; exact hz))
  rw [← hgx] at hz lg4 lc4 ld4 hs4 ⊢
  generalize hw5 : World.setRow _ _ _ = w5
  have b2 := hid (show Blk w5 gs 28 (ar 64 (ls XtM.s0)) by rw [← hw5]; exact (h4.out.alloc _).setRow_other (by omega) _)
  have b3 := hid (show Blk w5 gx 28 (ar 64 (XtM.sect (AesM.sealM (AesM.ks (ls XtM.k1))) (AesM.sealM (AesM.ks (ls XtM.k2)) (XtM.tw 3)) (ls XtM.s0))) by rw [← hw5]; exact hz.setRow_same _)
  have KM := hid (show Mo W w5 g c d (AesM.ks (ls XtM.k1)) (AesM.ks (ls XtM.k2)) w5 by rw [← hw5]; exact ((KM4.out.alloc _).setRow (by omega) hW4 (by omega) (by omega) (by omega) _).renew)
  have n2 : gs ≠ c := by omega
  have n3 : gx ≠ c := by omega
  clear hw5 hz h4 KM4 hgx
  refine wp_region_tail (C := Mo W w5 g c d (AesM.ks (ls XtM.k1)) (AesM.ks (ls XtM.k2))) 17 (by kernel_rfl) (by kernel_rfl) (by kernel_rfl) KM.out.drew ?_
  simp only [List.take_succ_cons, List.take_zero, List.drop_succ_cons, List.drop_zero]
  apply kldA tSec
  · rfl
  · rfl
  · exact fun w' hw' => (hw'.blk b3.out n3).head
  simp only [Act.put, List.setIfInBounds_toArray, List.set_cons_succ, List.set_cons_zero]
  apply kldA tSec
  · rfl
  · rfl
  · exact fun w' hw' => (hw'.blk b2.out n2).head
  simp only [Act.put, List.setIfInBounds_toArray, List.set_cons_succ, List.set_cons_zero]
  apply kneT true uSec eqg_sec
  · rfl
  · rfl
  · rfl
  · exact (by rw [eqA_no fun h => XtM.first_not (h 0 (by omega))]; rfl)
  simp only [Act.put, List.setIfInBounds_toArray, List.set_cons_succ, List.set_cons_zero]
  apply wpK_val
  · rfl
  · intro w' hw'
    go_simp
    first | exact rfl | exact ⟨rfl, hw'⟩
  simp only [Act.put, List.setIfInBounds_toArray, List.set_cons_succ, List.set_cons_zero]
  apply wpK_val
  · rfl
  · intro w' hw'
    go_simp
    first | exact rfl | exact ⟨rfl, hw'⟩
  simp only [Act.put, List.setIfInBounds_toArray, List.set_cons_succ, List.set_cons_zero]
  apply kldA tSec
  · rfl
  · rfl
  · exact fun w' hw' => (hw'.blk b3.out n3).head
  simp only [Act.put, List.setIfInBounds_toArray, List.set_cons_succ, List.set_cons_zero]
  apply wpK_val
  · rfl
  · intro w' hw'
    go_simp
    exact hw'.opening (n := 3) (AesM.ks_bt XtM.k1_bt) (AesM.ks_bt XtM.k2_bt) BT.out (by omega)
  simp only [Act.put, List.setIfInBounds_toArray, List.set_cons_succ, List.set_cons_zero]
  apply kldA tSec
  · rfl
  · rfl
  · exact fun w' hw' => (hw'.blk b2.out n2).head
  simp only [Act.put, List.setIfInBounds_toArray, List.set_cons_succ, List.set_cons_zero]
  apply keqT true uSec eqg_sec
  · rfl
  · rfl
  · rfl
  · exact eqA_yes fun j _ => back_sealed (AesM.ks_bt XtM.k1_bt) (AesM.ks_bt XtM.k2_bt) XtM.s0_bt 3 j
  simp only [Act.put, List.setIfInBounds_toArray, List.set_cons_succ, List.set_cons_zero]
  apply wpK_val
  · rfl
  · intro w' hw'
    go_simp
    first | exact rfl | exact ⟨rfl, hw'⟩
  simp only [Act.put, List.setIfInBounds_toArray, List.set_cons_succ, List.set_cons_zero]
  apply wpK_val
  · rfl
  · intro w' hw'
    go_simp
    first | exact rfl | exact ⟨rfl, hw'⟩
  simp only [Act.put, List.setIfInBounds_toArray, List.set_cons_succ, List.set_cons_zero]
  apply kbld_one (cs := ar 16 (ls one))
  · rfl
  · exact built_one
  simp only [Act.put, List.setIfInBounds_toArray, List.set_cons_succ, List.set_cons_zero]
  apply wpK_val
  · rfl
  · intro w' hw'
    go_simp
    exact hw'.double one_bt
  simp only [Act.put, List.setIfInBounds_toArray, List.set_cons_succ, List.set_cons_zero]
  apply kbld_one (cs := ar 16 (ls two))
  · rfl
  · exact built_two
  simp only [Act.put, List.setIfInBounds_toArray, List.set_cons_succ, List.set_cons_zero]
  apply keqA true
  · rfl
  · rfl
  · rfl
  · exact eqA_yes dbl_one
  simp only [Act.put, List.setIfInBounds_toArray, List.set_cons_succ, List.set_cons_zero]
  apply wpK_val
  · rfl
  · intro w' hw'
    go_simp
    first | exact rfl | exact ⟨rfl, hw'⟩
  simp only [Act.put, List.setIfInBounds_toArray, List.set_cons_succ, List.set_cons_zero]
  apply wpK_val
  · rfl
  · intro w' hw'
    go_simp
    first | exact rfl | exact ⟨rfl, hw'⟩
  simp only [Act.put, List.setIfInBounds_toArray, List.set_cons_succ, List.set_cons_zero]
  refine wpK_nil fun w9 hw9 => ?_
  have rb := hw9.base
  clear b2 b3 KM hw9
  go_wp2_with fail
  go_ret
  exact ⟨rfl, rb⟩
end XtP
end Go.Proofs.Ytfnepbkgmopjcaa
