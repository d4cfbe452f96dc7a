/-
  Contracts of Seal and Open of a mode.
-/
import Derived.Test.YtfnepbkgmopjcaaXtE
import Derived.Test.YtfnepbkgmopjcaaXtN
namespace Go.Proofs.Ytfnepbkgmopjcaa
open Go.ChangeShapes Go.WideShapes Go.ChangeAt Go.RowKit
open AesM (Bt Q16)
open AesP (tBk wr_nat Cip cip_lt)
namespace XtP
attribute [local go_sem] Gives
set_option maxHeartbeats 800000 in
set_option maxRecDepth 100000 in
theorem sealing_any (K L s : Nat → Nat) (hK : Bt K) (hL : Bt L) (hs : Bt s) (n : Nat) (hn : n < 18446744073709551616) (g c d : Nat) (w : World) (hm : Md w g c d) (hc : ∃ b, Cip w c K b) (hd : ∃ b, Cip w d L b) :
    Calls Try.prog 10 #[.pointer (some ⟨g, 0, none⟩), .int .u64 n, .agg (ar 64 s)] w fun e w' => e = .returned (.agg (ar 64 (XtM.sect (AesM.sealM K) (AesM.sealM L (XtM.tw n)) s))) ∧ Kc w c K w' := by
  have HK := hid hK
  have HL := hid hL
  have HS := hid hs
  have hgl := hm.lt
  have hgc : c ≠ g := by obtain ⟨b, h1⟩ := hc; exact hm.ne h1
  have hcl : c < w.heap.size := by obtain ⟨b, h1⟩ := hc; exact cip_lt h1
  have HM := hid hm
  have HC := hid (show Kc w c K w from ⟨hc, only_refl _ _⟩)
  have HD := hid hd
  clear hK hL hs hm hc hd
  go_enter Try.func10, Try.ntmps10
  go_upto_region 1 with (with_reducible apply alA tSec)
  generalize hw1 : World.alloc (World.alloc w _) _ = w1
  have b0 := hid (show Blk w1 w.heap.size 28 (ar 64 s) by rw [← hw1]; exact (Blk.new _ _ _).alloc _)
  have b1 := hid (show Blk w1 (w.heap.size + 1) 28 (ar 64 fun _ => 0) by rw [← hw1]; exact Blk.top rfl (by simp))
  have hb : Below w.heap.size w w1 := by rw [← hw1]; exact ((Below.refl _ _).alloc (Nat.le_refl _) _).alloc (by simp) _
  have bm := hid (show Md w1 g c d from Blk.below HM.out hb hgl)
  have bc := hid (HC.out.more hb)
  have bd := hid (cip_keep HC.out.1 HD.out bc.out.1 bc.out.2)
  clear hw1 hb HM HC HD
  go_wp2_with fail
  refine (made_any g c d w1 bm.out).mono ?_
  rintro e w' ⟨rfl, rfl⟩
  go_wp2_with fail
  refine wp_region_tail (C := Kc w1 c K) 10 (by kernel_rfl) (by kernel_rfl) (by kernel_rfl) ⟨bc.out.1, only_drew (only_refl _ _) (Drew.refl _)⟩ ?_
  simp only [List.take_succ_cons, List.take_zero, List.drop_succ_cons, List.drop_zero]
  apply kldA tSec
  · rfl
  · rfl
  · exact fun w' hw' => (hw'.blk b0.out (by omega)).head
  simp only [Act.put, List.setIfInBounds_toArray, List.set_cons_succ, List.set_cons_zero]
  apply wpK_val
  · rfl
  · intro w' hw'
    go_simp
    first | exact rfl | exact ⟨rfl, hw'⟩
  simp only [Act.put, List.setIfInBounds_toArray, List.set_cons_succ, List.set_cons_zero]
  apply wpK_val
  · rfl
  · intro w' hw'
    go_simp
    first | exact rfl | exact ⟨rfl, hw'⟩
  simp only [Act.put, List.setIfInBounds_toArray, List.set_cons_succ, List.set_cons_zero]
  apply wpK_val
  · rfl
  · intro w' hw'
    go_simp
    obtain ⟨b', hd'⟩ := cip_keep bc.out.1 bd.out hw'.1 hw'.2
    exact (first_any L HL.out n hn g c d b' w' (hw'.blk bm.out hgc.symm) hd').mono fun e w2 h => ⟨h.1, hw'.more h.2⟩
  simp only [Act.put, List.setIfInBounds_toArray, List.set_cons_succ, List.set_cons_zero]
  apply wpK_val
  · rfl
  · intro w' hw'
    go_simp
    first | exact rfl | exact ⟨rfl, hw'⟩
  simp only [Act.put, List.setIfInBounds_toArray, List.set_cons_succ, List.set_cons_zero]
  apply wpK_val
  · rfl
  · intro w' hw'
    go_simp
    first | exact rfl | exact ⟨rfl, hw'⟩
  simp only [Act.put, List.setIfInBounds_toArray, List.set_cons_succ, List.set_cons_zero]
  apply wpK_val
  · rfl
  · intro w' hw'
    go_simp
    first | exact rfl | exact ⟨rfl, hw'⟩
  simp only [Act.put, List.setIfInBounds_toArray, List.set_cons_succ, List.set_cons_zero]
  apply wpK_val
  · rfl
  · intro w' hw'
    have hcell := (show Md w' g c d from hw'.blk bm.out hgc.symm).data
    go_simp
    first | exact rfl | exact ⟨rfl, hw'⟩
  simp only [Act.put, List.setIfInBounds_toArray, List.set_cons_succ, List.set_cons_zero]
  apply wpK_val
  · rfl
  · intro w' hw'
    unfold pt
    simp only [Instr.makeFunc, go_sem, execOp, Sem.run_bind, Sem.run_pure, Result.andThen_ok]
    first | exact ⟨rfl, hw'⟩ | (go_simp; first | exact rfl | exact ⟨rfl, hw'⟩)
  simp only [Act.put, List.setIfInBounds_toArray, List.set_cons_succ, List.set_cons_zero]
  apply wpK_val
  · rfl
  · intro w' hw'
    go_simp
    obtain ⟨b', hc'⟩ := hw'.1
    exact (each_sealing K (AesM.sealM L (XtM.tw n)) s HK.out (AesM.seal_bt HL.out) HS.out c b' w' hc').mono fun e w2 h => ⟨h.1, hw'.trans h.2⟩
  simp only [Act.put, List.setIfInBounds_toArray, List.set_cons_succ, List.set_cons_zero]
  refine wpK_nil fun w5 hw5 => ?_
  have x1 := hw5.blk b1.out (by omega)
  have xc := bc.out.trans hw5
  clear b0 b1 bm bc bd hw5
  go_wp2_with ((with_reducible apply stA tSec); rfl; rfl; exact x1)
  apply ret_ar tSec Try.results10
  · rfl
  · rfl
  · exact x1.setRow_same _
  refine ⟨rfl, ?_, grown_row xc.2 (by omega) _⟩
  obtain ⟨b, h1⟩ := xc.1
  exact ⟨b, Blk.setRow_other h1 (by omega) _⟩
set_option maxHeartbeats 800000 in
set_option maxRecDepth 100000 in
theorem opening_any (K L s : Nat → Nat) (hK : Bt K) (hL : Bt L) (hs : Bt s) (n : Nat) (hn : n < 18446744073709551616) (g c d : Nat) (w : World) (hm : Md w g c d) (hc : ∃ b, Cip w c K b) (hd : ∃ b, Cip w d L b) :
    Calls Try.prog 12 #[.pointer (some ⟨g, 0, none⟩), .int .u64 n, .agg (ar 64 s)] w fun e w' => e = .returned (.agg (ar 64 (XtM.sect (AesM.open' K) (AesM.sealM L (XtM.tw n)) s))) ∧ Kc w c K w' := by
  have HK := hid hK
  have HL := hid hL
  have HS := hid hs
  have hgl := hm.lt
  have hgc : c ≠ g := by obtain ⟨b, h1⟩ := hc; exact hm.ne h1
  have hcl : c < w.heap.size := by obtain ⟨b, h1⟩ := hc; exact cip_lt h1
  have HM := hid hm
  have HC := hid (show Kc w c K w from ⟨hc, only_refl _ _⟩)
  have HD := hid hd
  clear hK hL hs hm hc hd
  go_enter Try.func12, Try.ntmps12
  go_upto_region 1 with (with_reducible apply alA tSec)
  generalize hw1 : World.alloc (World.alloc w _) _ = w1
  have b0 := hid (show Blk w1 w.heap.size 28 (ar 64 s) by rw [← hw1]; exact (Blk.new _ _ _).alloc _)
  have b1 := hid (show Blk w1 (w.heap.size + 1) 28 (ar 64 fun _ => 0) by rw [← hw1]; exact Blk.top rfl (by simp))
  have hb : Below w.heap.size w w1 := by rw [← hw1]; exact ((Below.refl _ _).alloc (Nat.le_refl _) _).alloc (by simp) _
  have bm := hid (show Md w1 g c d from Blk.below HM.out hb hgl)
  have bc := hid (HC.out.more hb)
  have bd := hid (cip_keep HC.out.1 HD.out bc.out.1 bc.out.2)
  clear hw1 hb HM HC HD
  go_wp2_with fail
  refine (made_any g c d w1 bm.out).mono ?_
  rintro e w' ⟨rfl, rfl⟩
  go_wp2_with fail
  refine wp_region_tail (C := Kc w1 c K) 10 (by kernel_rfl) (by kernel_rfl) (by kernel_rfl) ⟨bc.out.1, only_drew (only_refl _ _) (Drew.refl _)⟩ ?_
  simp only [List.take_succ_cons, List.take_zero, List.drop_succ_cons, List.drop_zero]
  apply kldA tSec
  · rfl
  · rfl
  · exact fun w' hw' => (hw'.blk b0.out (by omega)).head
  simp only [Act.put, List.setIfInBounds_toArray, List.set_cons_succ, List.set_cons_zero]
  apply wpK_val
  · rfl
  · intro w' hw'
    go_simp
    first | exact rfl | exact ⟨rfl, hw'⟩
  simp only [Act.put, List.setIfInBounds_toArray, List.set_cons_succ, List.set_cons_zero]
  apply wpK_val
  · rfl
  · intro w' hw'
    go_simp
    first | exact rfl | exact ⟨rfl, hw'⟩
  simp only [Act.put, List.setIfInBounds_toArray, List.set_cons_succ, List.set_cons_zero]
  apply wpK_val
  · rfl
  · intro w' hw'
    go_simp
    obtain ⟨b', hd'⟩ := cip_keep bc.out.1 bd.out hw'.1 hw'.2
    exact (first_any L HL.out n hn g c d b' w' (hw'.blk bm.out hgc.symm) hd').mono fun e w2 h => ⟨h.1, hw'.more h.2⟩
  simp only [Act.put, List.setIfInBounds_toArray, List.set_cons_succ, List.set_cons_zero]
  apply wpK_val
  · rfl
  · intro w' hw'
    go_simp
    first | exact rfl | exact ⟨rfl, hw'⟩
  simp only [Act.put, List.setIfInBounds_toArray, List.set_cons_succ, List.set_cons_zero]
  apply wpK_val
  · rfl
  · intro w' hw'
    go_simp
    first | exact rfl | exact ⟨rfl, hw'⟩
  simp only [Act.put, List.setIfInBounds_toArray, List.set_cons_succ, List.set_cons_zero]
  apply wpK_val
  · rfl
  · intro w' hw'
    go_simp
    first | exact rfl | exact ⟨rfl, hw'⟩
  simp only [Act.put, List.setIfInBounds_toArray, List.set_cons_succ, List.set_cons_zero]
  apply wpK_val
  · rfl
  · intro w' hw'
    have hcell := (show Md w' g c d from hw'.blk bm.out hgc.symm).data
    go_simp
    first | exact rfl | exact ⟨rfl, hw'⟩
  simp only [Act.put, List.setIfInBounds_toArray, List.set_cons_succ, List.set_cons_zero]
  apply wpK_val
  · rfl
  · intro w' hw'
    unfold pt
    simp only [Instr.makeFunc, go_sem, execOp, Sem.run_bind, Sem.run_pure, Result.andThen_ok]
    first | exact ⟨rfl, hw'⟩ | (go_simp; first | exact rfl | exact ⟨rfl, hw'⟩)
  simp only [Act.put, List.setIfInBounds_toArray, List.set_cons_succ, List.set_cons_zero]
  apply wpK_val
  · rfl
  · intro w' hw'
    go_simp
    obtain ⟨b', hc'⟩ := hw'.1
    exact (each_opening K (AesM.sealM L (XtM.tw n)) s HK.out (AesM.seal_bt HL.out) HS.out c b' w' hc').mono fun e w2 h => ⟨h.1, hw'.trans h.2⟩
  simp only [Act.put, List.setIfInBounds_toArray, List.set_cons_succ, List.set_cons_zero]
  refine wpK_nil fun w5 hw5 => ?_
  have x1 := hw5.blk b1.out (by omega)
  have xc := bc.out.trans hw5
  clear b0 b1 bm bc bd hw5
  go_wp2_with ((with_reducible apply stA tSec); rfl; rfl; exact x1)
  apply ret_ar tSec Try.results12
  · rfl
  · rfl
  · exact x1.setRow_same _
  refine ⟨rfl, ?_, grown_row xc.2 (by omega) _⟩
  obtain ⟨b, h1⟩ := xc.1
  exact ⟨b, Blk.setRow_other h1 (by omega) _⟩
end XtP
end Go.Proofs.Ytfnepbkgmopjcaa
