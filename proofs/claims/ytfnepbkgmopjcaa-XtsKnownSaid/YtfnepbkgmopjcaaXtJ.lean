/-
  The law XtsKnown.
-/
import Derived.Test.YtfnepbkgmopjcaaXtW
import Derived.Test.YtfnepbkgmopjcaaXtZ
import Derived.Test.YtfnepbkgmopjcaaRegFix
namespace Go.Proofs.Ytfnepbkgmopjcaa
open Go.ChangeShapes Go.WideShapes Go.ChangeAt Go.RowKit
open AesM (Bt Q16 ls)
open AesP (tBk tKey wr_nat Cip cip_lt seal_any new_any)
attribute [local go_sem] Gives
namespace XtP
theorem zero_bt : Bt fun _ => 0 := fun _ => Nat.zero_lt_succ _
theorem ls_zK : ls AesM.zK = fun _ => 0 := funext fun i => by
  unfold ls
  rw [List.getD_eq_getElem?_getD, show AesM.zK = List.replicate 32 0 from rfl, List.getElem?_replicate]
  split <;> rfl
theorem ls_zB : ls AesM.zB = fun _ => 0 := funext fun i => by
  unfold ls
  rw [List.getD_eq_getElem?_getD, show AesM.zB = List.replicate 16 0 from rfl, List.getElem?_replicate]
  split <;> rfl
theorem tw_zero : XtM.tw 0 = fun _ => 0 := funext fun i => by unfold XtM.tw; rw [Nat.zero_div]
/-- The first block of the zero sector, by the zero number. -/
theorem first_zero (E : (Nat → Nat) → Nat → Nat) (t : Nat → Nat) {k : Nat} (hk : k < 16) : XtM.sect E t (fun _ => 0) k = E t k ^^^ t k := by
  unfold XtM.sect XtM.blk AesM.add XtM.part
  rw [show k / 16 = 0 by omega, show k % 16 = k by omega]
  simp only [XtM.tk, Nat.zero_xor]
theorem built_zk (w : World) : (Instr.build 23 #[]).run Try.prog w = .ok (.agg (ar 32 fun _ => 0)) w := run_build w _ _ _ (by kernel_rfl)
theorem built_zb (w : World) : (Instr.build 35 #[]).run Try.prog w = .ok (.agg (ar 16 fun _ => 0)) w := run_build w _ _ _ (by kernel_rfl)
theorem built_first (w : World) : (Instr.build 35 #[(0, .int .u8 220), (1, .int .u8 149), (2, .int .u8 192), (3, .int .u8 120), (4, .int .u8 162), (5, .int .u8 64), (6, .int .u8 137), (7, .int .u8 137), (8, .int .u8 173), (9, .int .u8 72), (10, .int .u8 162), (11, .int .u8 20), (12, .int .u8 146), (13, .int .u8 132), (14, .int .u8 32), (15, .int .u8 135)]).run Try.prog w = .ok (.agg (ar 16 (ls AesM.zO))) w := run_build w _ _ _ (by kernel_rfl)
def last : List Nat := [0, 0, 0, 0, 0, 0, 0, 0, 0, 0, 0, 0, 0, 0, 0, 128]
def rest : List Nat := [135, 0, 0, 0, 0, 0, 0, 0, 0, 0, 0, 0, 0, 0, 0, 0]
theorem last_bt : Bt (ls last) := XtM.ls_bt (by decide)
theorem built_last (w : World) : (Instr.build 35 #[(15, .int .u8 128)]).run Try.prog w = .ok (.agg (ar 16 (ls last))) w := run_build w _ _ _ (by kernel_rfl)
theorem built_rest (w : World) : (Instr.build 35 #[(0, .int .u8 135)]).run Try.prog w = .ok (.agg (ar 16 (ls rest))) w := run_build w _ _ _ (by kernel_rfl)
theorem dbl_last : ∀ i, i < 16 → XtM.dbl (ls last) i = ls rest i := by decide +kernel
def nine : List Nat := 9 :: List.replicate 63 0
theorem built_nine (w : World) : (Instr.build 28 #[(0, .int .u8 9)]).run Try.prog w = .ok (.agg (ar 64 (ls nine))) w := run_build w _ _ _ (by kernel_rfl)
theorem built_mode (w : World) : (Instr.build 47 #[]).run Try.prog w = .ok (.agg #[.pointer none, .pointer none]) w := run_build w _ _ _ (by kernel_rfl)
section
variable {ops : Array Oper} {Q : Exit → Act → World → Prop} {a : Act} {w : World} {rest : List Oper} {dst : Option Tmp} {ty : TypeId} {pos : String} {after : Array Edge}
theorem bld_zk (h : wpList Try.prog ops Q rest (a.put dst (.agg (ar 32 fun _ => 0))) w) : wpList Try.prog ops Q (⟨dst, .build 23 #[], ty, pos, after, none⟩ :: rest) a w := bld_none built_zk h
theorem bld_zb (h : wpList Try.prog ops Q rest (a.put dst (.agg (ar 16 fun _ => 0))) w) : wpList Try.prog ops Q (⟨dst, .build 35 #[], ty, pos, after, none⟩ :: rest) a w := bld_none built_zb h
theorem bld_mode (h : wpList Try.prog ops Q rest (a.put dst (.agg #[.pointer none, .pointer none])) w) : wpList Try.prog ops Q (⟨dst, .build 47 #[], ty, pos, after, none⟩ :: rest) a w := bld_none built_mode h
theorem map_first (a : Act) : (#[(0, Operand.const (.int .u8 220)), (1, .const (.int .u8 149)), (2, .const (.int .u8 192)), (3, .const (.int .u8 120)), (4, .const (.int .u8 162)), (5, .const (.int .u8 64)), (6, .const (.int .u8 137)), (7, .const (.int .u8 137)), (8, .const (.int .u8 173)), (9, .const (.int .u8 72)), (10, .const (.int .u8 162)), (11, .const (.int .u8 20)), (12, .const (.int .u8 146)), (13, .const (.int .u8 132)), (14, .const (.int .u8 32)), (15, .const (.int .u8 135))] : Array (Nat × Operand)).map (fun (i, x) => (i, a.eval x)) =
    #[(0, .int .u8 220), (1, .int .u8 149), (2, .int .u8 192), (3, .int .u8 120), (4, .int .u8 162), (5, .int .u8 64), (6, .int .u8 137), (7, .int .u8 137), (8, .int .u8 173), (9, .int .u8 72), (10, .int .u8 162), (11, .int .u8 20), (12, .int .u8 146), (13, .int .u8 132), (14, .int .u8 32), (15, .int .u8 135)] := by
  simp only [List.map_toArray, List.map_cons, List.map_nil]; rfl
theorem bld_first (h : wpList Try.prog ops Q rest (a.put dst (.agg (ar 16 (ls AesM.zO)))) w) : wpList Try.prog ops Q (⟨dst, .build 35 #[(0, Operand.const (.int .u8 220)), (1, .const (.int .u8 149)), (2, .const (.int .u8 192)), (3, .const (.int .u8 120)), (4, .const (.int .u8 162)), (5, .const (.int .u8 64)), (6, .const (.int .u8 137)), (7, .const (.int .u8 137)), (8, .const (.int .u8 173)), (9, .const (.int .u8 72)), (10, .const (.int .u8 162)), (11, .const (.int .u8 20)), (12, .const (.int .u8 146)), (13, .const (.int .u8 132)), (14, .const (.int .u8 32)), (15, .const (.int .u8 135))], ty, pos, after, none⟩ :: rest) a w :=
  bldL (fun w => by rw [map_first]; exact built_first w) h
end
set_option maxHeartbeats 800000 in
set_option maxRecDepth 100000 in
theorem known_law (W : World) :
    Calls Try.prog 8 #[] W fun e w' => e = .returned (.bool true) ∧ Below W.heap.size W w' := by
  have KZ := hid (AesM.ks_bt zero_bt)
  go_enter Try.func8, Try.ntmps8
  go_upto_region 2 with (with_reducible apply alA tSec)
  generalize hw1 : World.alloc W _ = w1
  have b0 := hid (show Blk w1 W.heap.size 28 (ar 64 fun _ => 0) by rw [← hw1]; exact Blk.new _ _ _)
  have hb := hid (show Below W.heap.size W w1 by rw [← hw1]; exact (Below.refl _ _).alloc (Nat.le_refl _) _)
  clear hw1
  go_wp2_with (with_reducible apply bld_zk)
  refine (mode_any (fun _ => 0) (fun _ => 0) zero_bt zero_bt w1).mono ?_
  rintro e w2 ⟨g, c, d, rfl, hg, hc, hd, hm, kc, kd, h2⟩
  have d0 := hid (b0.out.below h2 b0.out.lt)
  have KM := hid (Mo.start (W := W) hm ⟨_, kc⟩ ⟨_, kd⟩ (Nat.le_trans hb.out.size hc) (hb.out.trans (h2.mono hb.out.size)))
  have n0 : W.heap.size ≠ c := by have := b0.out.lt; omega
  clear b0 hb hg hc hd hm kc kd h2
  go_wp2_with ((with_reducible apply ldA tSec); rfl; exact d0.out)
  have hS := KM.out.sealing (n := 0) KZ.out KZ.out zero_bt (by omega)
  rw [show ((0 : Nat) : Int) = 0 from rfl, tw_zero] at hS
  refine hS.mono ?_
  rintro e w3 ⟨rfl, km3⟩
  obtain ⟨F, hF⟩ : ∃ F, F = XtM.sect (AesM.sealM (AesM.ks fun _ => 0)) (AesM.sealM (AesM.ks fun _ => 0) fun _ => 0) fun _ => 0 := ⟨_, rfl⟩
  rw [← hF]
  have FA := hid fun k (hk : k < 16) => (congrFun hF k).trans (first_zero _ _ hk)
  have FB := hid (show Bt F by rw [hF]; exact XtM.sect_bt (fun _ _ => AesM.seal_bt KZ.out) (AesM.seal_bt KZ.out) zero_bt)
  have e0 := hid (km3.blk d0.out n0)
  have hb3 := hid km3.base
  have hl3 := e0.out.lt
  have hz : Blk (w3.alloc (.cells (ar 64 fun _ => 0) 28)) w3.heap.size 28 (ar 64 fun _ => 0) := Blk.new _ _ _
  obtain ⟨gx, hgx⟩ : ∃ gx, gx = w3.heap.size := ⟨_, rfl⟩
  clear d0 KM km3 hF hS n0
  go_upto_region 4 with (first | (with_reducible apply alA tSec) | ((with_reducible apply stA tSec); rfl; rfl; exact hz))
  rw [← hgx] at hz hl3 ⊢
  generalize hw4 : World.setRow _ _ _ = w4
  have d0 := hid (show Blk w4 W.heap.size 28 (ar 64 fun _ => 0) by rw [← hw4]; exact (e0.out.alloc _).setRow_other (by omega) _)
  have dx := hid (show Blk w4 gx 28 (ar 64 F) by rw [← hw4]; exact hz.setRow_same _)
  have db := hid (show Below W.heap.size W w4 by rw [← hw4]; exact below_setRow (hb3.out.alloc hb3.out.size _) (by omega) _)
  clear hw4 hz e0 hb3 hgx
  go_wp2_with (with_reducible apply bld_zk)
  refine (new_any (fun _ => 0) zero_bt w4).mono ?_
  rintro e w5 ⟨h, rfl, hh1, hh2, h5⟩
  have e0 := hid (d0.out.below h5 d0.out.lt)
  have ex := hid (dx.out.below h5 dx.out.lt)
  have eb := hid (db.out.trans (h5.mono db.out.size))
  have EC := hid hh2
  have hxh : gx < h := by have := dx.out.lt; omega
  clear d0 dx db hh1 hh2 h5
  go_wp2_with (with_reducible apply bld_zb)
  refine (seal_any (AesM.ks fun _ => 0) (fun _ => 0) false KZ.out zero_bt h w5 EC.out).mono ?_
  rintro e w6 ⟨rfl, h6⟩
  obtain ⟨T, hT⟩ : ∃ T, T = AesM.sealM (AesM.ks fun _ => 0) fun _ => 0 := ⟨_, rfl⟩
  have TB := hid (show Bt T by rw [hT]; exact AesM.seal_bt KZ.out)
  have TZ := hid (show Q16 T (ls AesM.zO) by have h := AesM.ex_two; rw [ls_zK, ls_zB] at h; rw [hT]; exact h)
  have FA2 := hid (show ∀ k, k < 16 → F k = AesM.sealM (AesM.ks fun _ => 0) T k ^^^ T k by rw [hT]; exact FA.out)
  rw [← hT]
  clear FA hT
  have d0 := hid (e0.out.below h6 e0.out.lt)
  have dx := hid (ex.out.below h6 ex.out.lt)
  have db := hid (eb.out.trans (h6.mono eb.out.size))
  have DC := hid (show Cip w6 h (AesM.ks fun _ => 0) false from Blk.below EC.out h6 (cip_lt EC.out))
  have hl6 := cip_lt DC.out
  have hz : Blk (w6.alloc (.cells (ar 16 fun _ => 0) 35)) w6.heap.size 35 (ar 16 fun _ => 0) := Blk.new _ _ _
  obtain ⟨gt, hgt⟩ : ∃ gt, gt = w6.heap.size := ⟨_, rfl⟩
  clear e0 ex eb EC h6
  go_upto_region 6 with (first | (with_reducible apply alA tBk) | ((with_reducible apply stA tBk); rfl; rfl; exact hz))
  rw [← hgt] at hz hl6 ⊢
  generalize hw7 : World.setRow _ _ _ = w7
  have e0 := hid (show Blk w7 W.heap.size 28 (ar 64 fun _ => 0) by rw [← hw7]; exact (d0.out.alloc _).setRow_other (by omega) _)
  have ex := hid (show Blk w7 gx 28 (ar 64 F) by rw [← hw7]; exact (dx.out.alloc _).setRow_other (by omega) _)
  have et := hid (show Blk w7 gt 35 (ar 16 T) by rw [← hw7]; exact hz.setRow_same _)
  have eb := hid (show Below W.heap.size W w7 by rw [← hw7]; exact below_setRow (db.out.alloc db.out.size _) (by omega) _)
  have EC := hid (show Cip w7 h (AesM.ks fun _ => 0) false by rw [← hw7]; exact Blk.setRow_other (Blk.alloc DC.out _) (by omega) _)
  clear hw7 hz d0 dx db DC hgt
  go_wp2_with ((with_reducible apply ldA tBk); rfl; exact et.out)
  refine (seal_any (AesM.ks fun _ => 0) T false KZ.out TB.out h w7 EC.out).mono ?_
  rintro e w8 ⟨rfl, h8⟩
  obtain ⟨G, hG⟩ : ∃ G, G = AesM.sealM (AesM.ks fun _ => 0) T := ⟨_, rfl⟩
  have GB := hid (show Bt G by rw [hG]; exact AesM.seal_bt KZ.out)
  have FA := hid (show ∀ k, k < 16 → G k ^^^ T k = F k by rw [hG]; exact fun k hk => (FA2.out k hk).symm)
  rw [← hG]
  clear FA2 hG
  have d0 := hid (e0.out.below h8 e0.out.lt)
  have dx := hid (ex.out.below h8 ex.out.lt)
  have dt := hid (et.out.below h8 et.out.lt)
  have db := hid (eb.out.trans (h8.mono eb.out.size))
  have hl8 := dt.out.lt
  have hz : Blk (w8.alloc (.cells (ar 16 fun _ => 0) 35)) w8.heap.size 35 (ar 16 fun _ => 0) := Blk.new _ _ _
  obtain ⟨gw, hgw⟩ : ∃ gw, gw = w8.heap.size := ⟨_, rfl⟩
  clear e0 ex et eb EC h8
  go_upto_region 7 with (first | (with_reducible apply alA tBk) | ((with_reducible apply stA tBk); rfl; rfl; exact hz))
  rw [← hgw] at hz hl8 ⊢
  generalize hw9 : World.setRow _ _ _ = w9
  have e0 := hid (show Blk w9 W.heap.size 28 (ar 64 fun _ => 0) by rw [← hw9]; exact (d0.out.alloc _).setRow_other (by omega) _)
  have ex := hid (show Blk w9 gx 28 (ar 64 F) by rw [← hw9]; exact (dx.out.alloc _).setRow_other (by omega) _)
  have et := hid (show Blk w9 gt 35 (ar 16 T) by rw [← hw9]; exact (dt.out.alloc _).setRow_other (by omega) _)
  have ew := hid (show Blk w9 gw 35 (ar 16 G) by rw [← hw9]; exact hz.setRow_same _)
  have eb := hid (show Below W.heap.size W w9 by rw [← hw9]; exact below_setRow (db.out.alloc db.out.size _) (by omega) _)
  clear hw9 hz d0 dx dt db hgw hl8
  go_wp2_with fail
  go_loopw [7] (fun i wr => ∃ k : Nat, k ≤ 16 ∧ i = .int .i64 k ∧ Drew w9 wr) (fun i _ => 16 - (intOf i).toNat)
  case atStart => exact ⟨0, by omega, rfl, ⟨0, rfl⟩⟩
  case round =>
    obtain ⟨k, hk, rfl, hwr⟩ := hrel
    by_cases hlt : k < 16
    · have tk : (k : Int) < 16 := by omega
      have tk64 : (k : Int) < 64 := by omega
      go_wp2_with fail
      refine wp_region_tail (C := Drew w9) 11 (by kernel_rfl) (by kernel_rfl) (by kernel_rfl) (by obtain ⟨n, rfl⟩ := hwr; exact ⟨n + 1, rfl⟩) ?_
      simp only [List.take_succ_cons, List.take_zero, List.drop_succ_cons, List.drop_zero]
      apply wpK_val
      · rfl
      · intro w' hw'
        go_simp
        first | exact rfl | exact ⟨rfl, hw'⟩
      simp only [Act.put, List.setIfInBounds_toArray, List.set_cons_succ, List.set_cons_zero]
      apply wpK_val
      · rfl
      · intro w' hw'
        go_simp
        first | exact rfl | exact ⟨rfl, hw'⟩
      simp only [Act.put, List.setIfInBounds_toArray, List.set_cons_succ, List.set_cons_zero]
      apply wpK_val
      · rfl
      · intro w' hw'
        have hcell := ((hw'.blk ex.out).cell k).trans (get_ar (show k < 64 by omega))
        go_simp
        first | exact rfl | exact ⟨rfl, hw'⟩
      simp only [Act.put, List.setIfInBounds_toArray, List.set_cons_succ, List.set_cons_zero]
      apply wpK_val
      · rfl
      · intro w' hw'
        go_simp
        first | exact rfl | exact ⟨rfl, hw'⟩
      simp only [Act.put, List.setIfInBounds_toArray, List.set_cons_succ, List.set_cons_zero]
      apply wpK_val
      · rfl
      · intro w' hw'
        go_simp
        first | exact rfl | exact ⟨rfl, hw'⟩
      simp only [Act.put, List.setIfInBounds_toArray, List.set_cons_succ, List.set_cons_zero]
      apply wpK_val
      · rfl
      · intro w' hw'
        have hcell := ((hw'.blk ew.out).cell k).trans (get_ar hlt)
        go_simp
        first | exact rfl | exact ⟨rfl, hw'⟩
      simp only [Act.put, List.setIfInBounds_toArray, List.set_cons_succ, List.set_cons_zero]
      apply wpK_val
      · rfl
      · intro w' hw'
        go_simp
        first | exact rfl | exact ⟨rfl, hw'⟩
      simp only [Act.put, List.setIfInBounds_toArray, List.set_cons_succ, List.set_cons_zero]
      apply wpK_val
      · rfl
      · intro w' hw'
        go_simp
        first | exact rfl | exact ⟨rfl, hw'⟩
      simp only [Act.put, List.setIfInBounds_toArray, List.set_cons_succ, List.set_cons_zero]
      apply wpK_val
      · rfl
      · intro w' hw'
        have hcell := ((hw'.blk et.out).cell k).trans (get_ar hlt)
        go_simp
        first | exact rfl | exact ⟨rfl, hw'⟩
      simp only [Act.put, List.setIfInBounds_toArray, List.set_cons_succ, List.set_cons_zero]
      apply wpK_val
      · rfl
      · intro w' hw'
        have h1 : bits .xor .u8 ((G k : Nat) : Int) ((T k : Nat) : Int) = ((F k : Nat) : Int) := by rw [u8_xor_nat _ _ (GB.out k) (TB.out k), FA.out k hlt]
        go_simp
        first | exact rfl | exact ⟨rfl, hw'⟩
      simp only [Act.put, List.setIfInBounds_toArray, List.set_cons_succ, List.set_cons_zero]
      apply wpK_val
      · rfl
      · intro w' hw'
        go_simp
        first | exact rfl | exact ⟨rfl, hw'⟩
      simp only [Act.put, List.setIfInBounds_toArray, List.set_cons_succ, List.set_cons_zero]
      refine wpK_nil fun w10 hw10 => ?_
      go_wp2_with fail
      go_roundw
      case rel => exact ⟨k + 1, by omega, by go_num, hw10⟩
      case measure => simp [intOf]; omega
    · have tk : decide ((k : Int) < 16) = false := by simp; omega
      have d0 := hid (hwr.blk e0.out)
      have dx := hid (hwr.blk ex.out)
      have dt := hid (hwr.blk et.out)
      have db := hid (hwr.below eb.out)
      have hlr := dt.out.lt
      have hz : Blk (wr.alloc (.cells (ar 16 fun _ => 0) 35)) wr.heap.size 35 (ar 16 fun _ => 0) := Blk.new _ _ _
      obtain ⟨gf, hgf⟩ : ∃ gf, gf = wr.heap.size := ⟨_, rfl⟩
      clear e0 ex et ew eb hwr
      go_upto_region 13 with (first | (with_reducible apply bld_first) | (with_reducible apply alA tBk) | ((with_reducible apply stA tBk); rfl; rfl; exact hz))
      rw [← hgf] at hz hlr ⊢
      generalize hw11 : World.setRow _ _ _ = w11
      have e0 := hid (show Blk w11 W.heap.size 28 (ar 64 fun _ => 0) by rw [← hw11]; exact (d0.out.alloc _).setRow_other (by omega) _)
      have et := hid (show Blk w11 gt 35 (ar 16 T) by rw [← hw11]; exact (dt.out.alloc _).setRow_other (by omega) _)
      have ef := hid (show Blk w11 gf 35 (ar 16 (ls AesM.zO)) by rw [← hw11]; exact hz.setRow_same _)
      have eb := hid (show Below W.heap.size W w11 by rw [← hw11]; exact below_setRow (db.out.alloc db.out.size _) (by omega) _)
      clear hw11 hz d0 dx dt db hgf
      go_upto_region 15 with (with_reducible apply bld_mode)
      obtain ⟨gm, hgm⟩ : ∃ gm, gm = w11.heap.size := ⟨_, rfl⟩
      rw [← hgm]
      generalize hw12 : World.alloc w11 _ = w12
      have d0 := hid (show Blk w12 W.heap.size 28 (ar 64 fun _ => 0) by rw [← hw12]; exact e0.out.alloc _)
      have dt := hid (show Blk w12 gt 35 (ar 16 T) by rw [← hw12]; exact et.out.alloc _)
      have df := hid (show Blk w12 gf 35 (ar 16 (ls AesM.zO)) by rw [← hw12]; exact ef.out.alloc _)
      have db := hid (show Below W.heap.size W w12 by rw [← hw12]; exact eb.out.alloc eb.out.size _)
      have dm := hid (show Emp w12 gm by rw [← hw12, hgm]; exact Blk.new _ _ _)
      have hml : gm < w12.heap.size := Blk.lt dm.out
      clear hw12 e0 et ef eb hgm
      have z1 : ((1 : Nat) : Int) = 1 := rfl
      refine wp_region_fixed (C := fun w' => Below w12.heap.size w12 w') 33 (Below.refl _ _) ?_
      simp only [List.take_succ_cons, List.take_zero, List.drop_succ_cons, List.drop_zero]
      apply kldA tBk
      · rfl
      · rfl
      · exact fun w' hw' => (dt.out.below hw' dt.out.lt).head
      simp only [Act.put, List.setIfInBounds_toArray, List.set_cons_succ, List.set_cons_zero]
      apply kldA tBk
      · rfl
      · rfl
      · exact fun w' hw' => (df.out.below hw' df.out.lt).head
      simp only [Act.put, List.setIfInBounds_toArray, List.set_cons_succ, List.set_cons_zero]
      apply keqA true
      · rfl
      · rfl
      · rfl
      · exact eqA_yes TZ.out
      simp only [Act.put, List.setIfInBounds_toArray, List.set_cons_succ, List.set_cons_zero]
      apply wpK_val
      · rfl
      · intro w' hw'
        go_simp
        first | exact rfl | exact ⟨rfl, hw'⟩
      simp only [Act.put, List.setIfInBounds_toArray, List.set_cons_succ, List.set_cons_zero]
      apply kbld_one (cs := ar 16 (ls one))
      · rfl
      · exact built_one
      simp only [Act.put, List.setIfInBounds_toArray, List.set_cons_succ, List.set_cons_zero]
      apply wpK_val
      · rfl
      · intro w' hw'
        go_simp
        exact (double_any (ls one) one_bt w').mono fun e w2 h => ⟨h.1, hw'.trans (h.2.mono hw'.size)⟩
      simp only [Act.put, List.setIfInBounds_toArray, List.set_cons_succ, List.set_cons_zero]
      apply kbld_one (cs := ar 16 (ls two))
      · rfl
      · exact built_two
      simp only [Act.put, List.setIfInBounds_toArray, List.set_cons_succ, List.set_cons_zero]
      apply keqA true
      · rfl
      · rfl
      · rfl
      · exact eqA_yes dbl_one
      simp only [Act.put, List.setIfInBounds_toArray, List.set_cons_succ, List.set_cons_zero]
      apply wpK_val
      · rfl
      · intro w' hw'
        go_simp
        first | exact rfl | exact ⟨rfl, hw'⟩
      simp only [Act.put, List.setIfInBounds_toArray, List.set_cons_succ, List.set_cons_zero]
      apply wpK_val
      · rfl
      · intro w' hw'
        go_simp
        first | exact rfl | exact ⟨rfl, hw'⟩
      simp only [Act.put, List.setIfInBounds_toArray, List.set_cons_succ, List.set_cons_zero]
      apply kbld_one (cs := ar 16 (ls last))
      · rfl
      · exact built_last
      simp only [Act.put, List.setIfInBounds_toArray, List.set_cons_succ, List.set_cons_zero]
      apply wpK_val
      · rfl
      · intro w' hw'
        go_simp
        exact (double_any (ls last) last_bt w').mono fun e w2 h => ⟨h.1, hw'.trans (h.2.mono hw'.size)⟩
      simp only [Act.put, List.setIfInBounds_toArray, List.set_cons_succ, List.set_cons_zero]
      apply kbld_one (cs := ar 16 (ls rest))
      · rfl
      · exact built_rest
      simp only [Act.put, List.setIfInBounds_toArray, List.set_cons_succ, List.set_cons_zero]
      apply keqA true
      · rfl
      · rfl
      · rfl
      · exact eqA_yes dbl_last
      simp only [Act.put, List.setIfInBounds_toArray, List.set_cons_succ, List.set_cons_zero]
      apply wpK_val
      · rfl
      · intro w' hw'
        go_simp
        first | exact rfl | exact ⟨rfl, hw'⟩
      simp only [Act.put, List.setIfInBounds_toArray, List.set_cons_succ, List.set_cons_zero]
      apply wpK_val
      · rfl
      · intro w' hw'
        go_simp
        first | exact rfl | exact ⟨rfl, hw'⟩
      simp only [Act.put, List.setIfInBounds_toArray, List.set_cons_succ, List.set_cons_zero]
      apply wpK_val
      · rfl
      · intro w' hw'
        go_simp
        first | exact rfl | exact ⟨rfl, hw'⟩
      simp only [Act.put, List.setIfInBounds_toArray, List.set_cons_succ, List.set_cons_zero]
      apply kldA tSec
      · rfl
      · rfl
      · exact fun w' hw' => (d0.out.below hw' d0.out.lt).head
      simp only [Act.put, List.setIfInBounds_toArray, List.set_cons_succ, List.set_cons_zero]
      apply wpK_val
      · rfl
      · intro w' hw'
        go_simp
        exact (sealing_nil (fun _ => 0) 1 w').mono fun e w2 h => ⟨h.1, hw'.trans (h.2.mono hw'.size)⟩
      simp only [Act.put, List.setIfInBounds_toArray, List.set_cons_succ, List.set_cons_zero]
      apply kbld_none (cs := ar 64 fun _ => 0)
      · rfl
      · exact built_zs
      simp only [Act.put, List.setIfInBounds_toArray, List.set_cons_succ, List.set_cons_zero]
      apply keqT true uSec eqg_sec
      · rfl
      · rfl
      · rfl
      · exact eqA_yes fun _ _ => rfl
      simp only [Act.put, List.setIfInBounds_toArray, List.set_cons_succ, List.set_cons_zero]
      apply wpK_val
      · rfl
      · intro w' hw'
        go_simp
        first | exact rfl | exact ⟨rfl, hw'⟩
      simp only [Act.put, List.setIfInBounds_toArray, List.set_cons_succ, List.set_cons_zero]
      apply wpK_val
      · rfl
      · intro w' hw'
        go_simp
        first | exact rfl | exact ⟨rfl, hw'⟩
      simp only [Act.put, List.setIfInBounds_toArray, List.set_cons_succ, List.set_cons_zero]
      apply wpK_val
      · rfl
      · intro w' hw'
        go_simp
        first | exact rfl | exact ⟨rfl, hw'⟩
      simp only [Act.put, List.setIfInBounds_toArray, List.set_cons_succ, List.set_cons_zero]
      apply kbld_one (cs := ar 64 (ls nine))
      · rfl
      · exact built_nine
      simp only [Act.put, List.setIfInBounds_toArray, List.set_cons_succ, List.set_cons_zero]
      apply wpK_val
      · rfl
      · intro w' hw'
        go_simp
        exact (opening_emp (ls nine) 1 gm w' (Blk.below dm.out hw' hml)).mono fun e w2 h => ⟨h.1, hw'.trans (h.2.mono hw'.size)⟩
      simp only [Act.put, List.setIfInBounds_toArray, List.set_cons_succ, List.set_cons_zero]
      apply kbld_none (cs := ar 64 fun _ => 0)
      · rfl
      · exact built_zs
      simp only [Act.put, List.setIfInBounds_toArray, List.set_cons_succ, List.set_cons_zero]
      apply keqT true uSec eqg_sec
      · rfl
      · rfl
      · rfl
      · exact eqA_yes fun _ _ => rfl
      simp only [Act.put, List.setIfInBounds_toArray, List.set_cons_succ, List.set_cons_zero]
      apply wpK_val
      · rfl
      · intro w' hw'
        go_simp
        first | exact rfl | exact ⟨rfl, hw'⟩
      simp only [Act.put, List.setIfInBounds_toArray, List.set_cons_succ, List.set_cons_zero]
      apply wpK_val
      · rfl
      · intro w' hw'
        go_simp
        first | exact rfl | exact ⟨rfl, hw'⟩
      simp only [Act.put, List.setIfInBounds_toArray, List.set_cons_succ, List.set_cons_zero]
      apply wpK_val
      · rfl
      · intro w' hw'
        go_simp
        exact (works_any w').mono fun e w2 h => ⟨h.1, hw'.trans (h.2.mono hw'.size)⟩
      simp only [Act.put, List.setIfInBounds_toArray, List.set_cons_succ, List.set_cons_zero]
      apply wpK_val
      · rfl
      · intro w' hw'
        go_simp
        first | exact rfl | exact ⟨rfl, hw'⟩
      simp only [Act.put, List.setIfInBounds_toArray, List.set_cons_succ, List.set_cons_zero]
      apply wpK_val
      · rfl
      · intro w' hw'
        go_simp
        first | exact rfl | exact ⟨rfl, hw'⟩
      simp only [Act.put, List.setIfInBounds_toArray, List.set_cons_succ, List.set_cons_zero]
      refine wpK_nil fun w9 hw9 => ?_
      have rb := db.out.trans (hw9.mono db.out.size)
      clear d0 dt df db dm hw9
      go_wp2_with fail
      go_ret
      exact ⟨rfl, rb⟩
end XtP
end Go.Proofs.Ytfnepbkgmopjcaa
