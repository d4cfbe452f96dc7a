/-
  The walk of ShaKeyed.
-/
import Derived.Test.YtdbabldcfohhmaaDoorRefSha7
import Derived.Test.YtdbabldcfohhmaaDoorShaArg
import Derived.Test.YtdbabldcfohhmaaDoorShaAwake
import Derived.Test.YtdbabldcfohhmaaDoorShaOf
import Derived.Test.YtdbabldcfohhmaaDoorShaSize
import Derived.Test.YtdbabldcfohhmaaDoorKlt
import Derived.Test.YtdbabldcfohhmaaDoorStr
namespace Go.Proofs.YtdbabldcfohhmaaDoor
open Go.ChangeShapes Go.WideShapes Go.ChangeAt Go.RowKit
attribute [local go_sem] Gives
theorem bldt0w {ops : Array Oper} {Q : Exit → Act → World → Prop} {a : Act} {w : World} {rest : List Oper} {dst : Option Tmp} {ty : TypeId} {pos : String} {after : Array Edge} {gd : Option (Nat × Bool)}
    (hwt : Region.wanted ⟨dst, .build 34 #[], ty, pos, after, gd⟩ (yielded ops a.tmps) = true) (h : wpList Tryd.prog ops Q rest (a.put dst (.agg (tag fun _ => 0))) w) :
    wpList Tryd.prog ops Q (⟨dst, .build 34 #[], ty, pos, after, gd⟩ :: rest) a w := by
  unfold wpList
  rw [if_pos hwt]
  refine .inl ?_
  have hr := run_build (P := Tryd.prog) w 34 #[] _ built_tag0
  unfold Oper.wp
  simp [execOp, hr, Result.andThen]
  exact h
/-- Two slices side by side. -/
theorem slcs_two {w : World} {t : TypeId} {K A : Option Addr} {kn kc n c : Nat} : Slcs (w.alloc (.cells #[.slice K kn kc, .slice A n c] t)) (w.heap.size + 1) (some ⟨w.heap.size, 0, none⟩) 2 fun i => if i = 0 then kn else n := fun _ =>
  ⟨w.heap.size, 0, rfl, Nat.lt_succ_self _, fun i hi => by
    match i, hi with
    | 0, _ => exact ⟨K, kc, (Blk.top (t := t) rfl rfl).cell 0⟩
    | 1, _ => exact ⟨A, c, (Blk.top (t := t) rfl rfl).cell 1⟩⟩
set_option maxHeartbeats 1000000 in
set_option maxRecDepth 100000 in
theorem keyed_long (K : Option Addr) (kn kcap : Nat) (A : Option Addr) (n cap : Nat) (hk : kn ≤ 9223372036854775807) (hn : n ≤ 9223372036854775807) (hlong : 3000 < kn ∨ 3000 < n) (w : World) (hS : Salts w) :
    Calls Tryd.prog 3 #[.slice K kn kcap, .slice A n cap] w fun e w' => e = .returned (.bool true) ∧ Below w.heap.size w w' := by
  have SA := hid hS
  have hL : longB 2 (fun i => if i = 0 then kn else n) = true := by
    rcases hlong with h | h
    · exact longB_yes (i := 0) (by omega) h
    · exact longB_yes (i := 1) (by omega) h
  have HLB := hid hL
  clear hS hL hlong
  go_enter Tryd.func3, Tryd.ntmps3
  go_wp2_with fail
  refine (long_any _ 2 2 (fun i => if i = 0 then kn else n) (fun i => by split <;> omega) (by omega) _ (by have h := slcs_two (w := w) (t := 22) (K := K) (A := A) (kn := kn) (kc := kcap) (n := n) (c := cap); rw [show (w.alloc (.cells #[.slice K kn kcap, .slice A n cap] 22)).heap.size = w.heap.size + 1 by simp]; exact h)).mono ?_
  rintro e w1 ⟨rfl, rfl⟩
  rw [HLB.out]
  have hb1 : Below w.heap.size w (w.alloc (.cells #[.slice K kn kcap, .slice A n cap] 22)) := (Below.refl _ _).alloc (Nat.le_refl _) _
  generalize World.alloc w _ = w1 at *
  have B1 := hid hb1
  clear hb1
  go_wp2_with fail
  refine (awake_any w1 (SA.out.on B1.out)).mono ?_
  rintro e w2 ⟨rfl, h2⟩
  have b2 := B1.out.trans (h2.mono B1.out.size)
  clear h2
  go_wp2_with fail
  go_ret
  exact ⟨rfl, b2⟩
/-! ### No more than 3000 of each -/
set_option maxHeartbeats 2000000 in
set_option maxRecDepth 100000 in
theorem keyed_arg (K : Option Addr) (key : List Nat) (kn kcap : Nat) (A : Option Addr) (l : List Nat) (n cap : Nat) (hk3 : kn ≤ 3000) (hn3 : n ≤ 3000) (hmod : kn % 64 ≠ 0) (w : World) (hK : Arg w K key kn kcap) (hA : Arg w A l n cap) (hS : Salts w) :
    Calls Tryd.prog 3 #[.slice K kn kcap, .slice A n cap] w fun e w' => e = .returned (.bool true) ∧ Below w.heap.size w w' := by
  have SA := hid hS
  have HK := hid hK
  have HA := hid hA
  have HMD := hid hmod
  have hL : longB 2 (fun i => if i = 0 then kn else n) = false := longB_no fun i _ => by split <;> omega
  have HLB := hid hL
  clear hS hL hK hA hmod
  go_enter Tryd.func3, Tryd.ntmps3
  go_wp2_with fail
  refine (long_any _ 2 2 (fun i => if i = 0 then kn else n) (fun i => by split <;> omega) (by omega) _ (by have h := slcs_two (w := w) (t := 22) (K := K) (A := A) (kn := kn) (kc := kcap) (n := n) (c := cap); rw [show (w.alloc (.cells #[.slice K kn kcap, .slice A n cap] 22)).heap.size = w.heap.size + 1 by simp]; exact h)).mono ?_
  rintro e w1 ⟨rfl, rfl⟩
  rw [HLB.out]
  have hb1 : Below w.heap.size w (w.alloc (.cells #[.slice K kn kcap, .slice A n cap] 22)) := (Below.refl _ _).alloc (Nat.le_refl _) _
  generalize World.alloc w _ = w1 at *
  have B1 := hid hb1
  have K1 := hid (HK.out.on hb1)
  have A1 := hid (HA.out.on hb1)
  clear hb1
  go_upto_region 4 with (first
    | (at_builtin; (with_reducible apply wappN_any elt8); rfl; rfl; exact K1.out.none; exact Own.empty w1 (Nat.le_refl _); exact ((K1.out.byt.below ((Below.refl w1.heap.size w1).alloc (Nat.le_refl _) _) (Nat.le_refl _))); exact K1.out.len; (rw [List.length_nil]; omega); (simp); intro v1 w3 o3 g3; have b3 := below_grown ((Below.refl w1.heap.size w1).alloc (Nat.le_refl _) (.cells #[] 5)) g3 (Own.empty (e := 5) (k := .u8) w1 (Nat.le_refl _)) (Nat.le_refl _) (Nat.le_refl _); have O3 := hid o3; have B3 := hid b3; clear o3 b3 g3)
    | (at_builtin; (with_reducible apply wappN_any elt8); rfl; rfl; exact A1.out.none; exact Own.empty w3 (Nat.le_refl _); exact ((A1.out.byt.below (B3.out.alloc B3.out.size _) (Nat.le_refl _))); exact A1.out.len; (rw [List.length_nil]; omega); (simp); intro v2 w4 o4 g4; have b4 := below_grown ((Below.refl w3.heap.size w3).alloc (Nat.le_refl _) (.cells #[] 5)) g4 (Own.empty (e := 5) (k := .u8) w3 (Nat.le_refl _)) (Nat.le_refl _) (Nat.le_refl _); have O4 := hid o4; have B4 := hid b4; clear o4 b4 g4))
  have o3 := O3.out.below B4.out
  rw [List.nil_append] at o3
  have o4 := O4.out
  rw [List.nil_append] at o4
  obtain ⟨Ak, ck, e3, ak⟩ := o3.arg HK.out.b256
  obtain ⟨Ac, cc, e4, ac⟩ := o4.arg HA.out.b256
  rw [HK.out.len] at e3 ak
  rw [HA.out.len] at e4 ac
  subst e3 e4
  have BW := hid (B1.out.trans ((B3.out.trans (B4.out.mono B3.out.size)).mono B1.out.size))
  have AK := hid ak
  have AC := hid ac
  clear o3 o4 ak ac O3 O4 B3 B4 K1 A1 B1
  go_wp2_with fail
  refine (ahead_arg Ak kn ck HMD.out (by omega) w4).mono ?_
  rintro e w5 ⟨rfl, h5⟩
  have B5 := hid (BW.out.trans (h5.mono BW.out.size))
  have AK5 := hid (AK.out.on h5)
  have AC5 := hid (AC.out.on h5)
  have hz5 := B5.out.size
  clear h5 AK AC BW
  go_upto_region 5 with ((with_reducible apply stp); rfl; rfl; exact Blk.top zlit_pre rfl)
  generalize hw6 : World.setRow _ _ _ = w6
  have c6 : Blk w6 w5.heap.size 29 (pre (fun _ => 0) 0 false) := by rw [← hw6]; exact (Blk.top zlit_pre rfl).setRow_same _
  have b56 : Below w5.heap.size w5 w6 := by rw [← hw6]; exact below_setRow ((Below.refl _ _).alloc (Nat.le_refl _) _) (Nat.le_refl _) _
  obtain ⟨g, hg⟩ : ∃ g, g = w5.heap.size := ⟨_, rfl⟩
  rw [← hg] at c6 ⊢
  have C6 := hid c6
  have B6 := hid (B5.out.trans (b56.mono hz5))
  have AK6 := hid (AK5.out.on b56)
  have AC6 := hid (AC5.out.on b56)
  clear hw6 c6 b56 hg AK5 AC5 B5 hz5
  have K6 := hid (HK.out.on B6.out)
  have A6 := hid (HA.out.on B6.out)
  go_upto_region 6 with (first
    | (at_builtin; (with_reducible apply wappN_any elt8); rfl; rfl; exact K6.out.none; exact Own.empty w6 (Nat.le_refl _); exact ((K6.out.byt.below ((Below.refl w6.heap.size w6).alloc (Nat.le_refl _) _) (Nat.le_refl _))); exact K6.out.len; (rw [List.length_nil]; omega); (simp); intro v7 w7 o7 g7; have b7 := below_grown ((Below.refl w6.heap.size w6).alloc (Nat.le_refl _) (.cells #[] 5)) g7 (Own.empty (e := 5) (k := .u8) w6 (Nat.le_refl _)) (Nat.le_refl _) (Nat.le_refl _); have O7 := hid o7; have B7 := hid b7; clear o7 b7 g7)
    | (at_builtin; (with_reducible apply wappN_any elt8); rfl; rfl; exact A6.out.none; exact O7.out; exact (A6.out.on B7.out).byt.nums; exact A6.out.len; (rw [List.nil_append, K6.out.len]; omega); exact B7.out.size; intro v8 w8 o8 g8; have b8 := below_grown B7.out g8 O7.out (Nat.le_refl _) (Nat.le_refl _); have O8 := hid o8; have B8 := hid b8; clear o8 b8 g8))
  have o8 := O8.out
  rw [List.nil_append] at o8
  have hall256 : B256 (key ++ l) := HK.out.b256.append HA.out.b256
  obtain ⟨Aa, ca, e8, a8⟩ := o8.arg hall256
  have hlen : (key ++ l).length = kn + n := by rw [List.length_append, HK.out.len, HA.out.len]
  obtain ⟨N, hN⟩ : ∃ N, N = kn + n := ⟨_, rfl⟩
  rw [← hN] at hlen
  rw [hlen] at e8 a8
  subst e8
  have hN6 : N ≤ 6000 := by omega
  obtain ⟨T, hT⟩ : ∃ T, T = ShaM.sum (key ++ l) := ⟨_, rfl⟩
  have HT := hid hT
  have HNN := hid hN
  have A8 := hid a8
  have B68 := hid B8.out
  have B08 := hid (B6.out.trans (B8.out.mono B6.out.size))
  clear o8 a8 hlen hN hT hall256 O7 O8 B7 B8
  go_wp2_with fail
  refine (rsum_any Aa (key ++ l) N ca A8.out.len (by omega) A8.out.none A8.out.b256 w8 A8.out.byt).mono ?_
  rintro e w9 ⟨rfl, h9⟩
  rw [← HT.out]
  have B9 := hid (B08.out.trans (h9.mono B08.out.size))
  have B69 := hid (B68.out.trans (h9.mono B68.out.size))
  have A9 := hid (A8.out.on h9)
  have hz9 := B9.out.size
  clear h9 A8 B68 B08
  go_upto_region 7 with ((with_reducible apply stt); rfl; rfl; exact Blk.top zlit_tag rfl)
  generalize hwa : World.setRow _ _ _ = wa
  have d9 : Blk wa w9.heap.size 34 (tag T) := by rw [← hwa]; exact (Blk.top zlit_tag rfl).setRow_same _
  have b9a : Below w9.heap.size w9 wa := by rw [← hwa]; exact below_setRow ((Below.refl _ _).alloc (Nat.le_refl _) _) (Nat.le_refl _) _
  obtain ⟨h, hh⟩ : ∃ h, h = w9.heap.size := ⟨_, rfl⟩
  rw [← hh] at d9 ⊢
  have D9 := hid d9
  have BA := hid (B9.out.trans (b9a.mono hz9))
  have B6A := hid (B69.out.trans (b9a.mono B69.out.size))
  have AA := hid (A9.out.on b9a)
  clear hwa d9 b9a hh A9 B9 B69 hz9
  have HE := hid fun w => eq_tag_self T w
  go_wp2_with fail
  refine wp_region_tail (C := fun w' => Below wa.heap.size wa w') 4 (by kernel_rfl) (by kernel_rfl) (by kernel_rfl) (Below.refl _ _).drew ?_
  simp only [List.take_succ_cons, List.take_zero, List.drop_succ_cons, List.drop_zero]
  apply wpK_val
  · rfl
  · intro w' hw'
    go_simp
    first | exact rfl | exact ⟨rfl, hw'⟩
  simp only [Act.put, List.setIfInBounds_toArray, List.set_cons_succ, List.set_cons_zero]
  apply wpK_val
  · rfl
  · intro w' hw'
    go_simp
    exact (sum_any Aa (key ++ l) N ca AA.out.len AA.out.cap AA.out.max (by omega) AA.out.b256 _ (AA.out.on hw').byt (SA.out.on (BA.out.trans (hw'.mono BA.out.size)))).mono fun e w'' ⟨he, hb''⟩ => ⟨he.trans (congrArg (fun T => Ending.returned (.agg (tag T))) HT.out.symm), hw'.trans (hb''.mono hw'.size)⟩
  simp only [Act.put, List.setIfInBounds_toArray, List.set_cons_succ, List.set_cons_zero]
  apply klt
  · rfl
  · rfl
  · exact fun w' hw' => D9.out.below hw' D9.out.lt
  simp only [Act.put, List.setIfInBounds_toArray, List.set_cons_succ, List.set_cons_zero]
  apply wpK_val
  · rfl
  · intro w' hw'
    have h1 : _ := HE.out
    have h2 : _ := eqg_tag
    go_simp
    first | exact rfl | exact ⟨rfl, hw'⟩
  simp only [Act.put, List.setIfInBounds_toArray, List.set_cons_succ, List.set_cons_zero]
  refine wpK_nil fun wb hwb => ?_
  have BB := hid (BA.out.trans (hwb.mono BA.out.size))
  have B6B := hid (B6A.out.trans (hwb.mono B6A.out.size))
  have DB := hid (D9.out.below hwb D9.out.lt)
  have CB := hid (C6.out.below B6B.out C6.out.lt)
  have ACB := hid (AC6.out.on B6B.out)
  have AKB := hid (AK6.out.on B6B.out)
  have KB := hid (HK.out.on BB.out)
  have AB := hid (HA.out.on BB.out)
  clear hwb BA B6A B6B D9 C6 AC6 AK6 K6 A6 B6 AA
  have t9 : (((kn : Int) % 64) != 0) = true := by rw [bne_iff_ne]; have := HMD.out; omega
  have HZ := hid fun w => eq_tag_self (fun _ => 0) w
  have cb := CB.out
  go_wp2_with ((with_reducible apply ldpg); rfl; rfl; exact cb)
  refine (size_any _ 0 false wb).mono ?_
  rintro e wc ⟨rfl, h1⟩
  have cc' := cb.below h1 cb.lt
  have BC := hid (BB.out.trans (h1.mono BB.out.size))
  have ACC := hid (ACB.out.on h1)
  clear h1 cb
  go_wp2_with ((with_reducible apply ldpg); rfl; rfl; exact cc')
  refine (psum_nil _ 0 n cc Ac wc).mono ?_
  rintro e wd ⟨rfl, h2⟩
  have BD := hid (BC.out.trans (h2.mono BC.out.size))
  clear h2 cc'
  have hz1 := HZ.out
  have hg1 := eqg_tag
  go_wp2_with ((with_reducible apply bldt0w); rfl)
  refine (awake_any wd (SA.out.on BD.out)).mono ?_
  rintro e we ⟨rfl, h3⟩
  have b3 := BD.out.trans (h3.mono BD.out.size)
  clear h3
  go_wp2_with fail
  go_ret
  exact ⟨rfl, b3⟩
set_option maxHeartbeats 2000000 in
set_option maxRecDepth 100000 in
theorem keyed_whole (K : Option Addr) (key : List Nat) (kn kcap : Nat) (A : Option Addr) (l : List Nat) (n cap : Nat) (hk3 : kn ≤ 3000) (hn3 : n ≤ 3000) (hmod : kn % 64 = 0) (w : World) (hK : Arg w K key kn kcap) (hA : Arg w A l n cap) (hS : Salts w) :
    Calls Tryd.prog 3 #[.slice K kn kcap, .slice A n cap] w fun e w' => e = .returned (.bool true) ∧ Below w.heap.size w w' := by
  have SA := hid hS
  have HK := hid hK
  have HA := hid hA
  have HMD := hid hmod
  have hL : longB 2 (fun i => if i = 0 then kn else n) = false := longB_no fun i _ => by split <;> omega
  have HLB := hid hL
  clear hS hL hK hA hmod
  go_enter Tryd.func3, Tryd.ntmps3
  go_wp2_with fail
  refine (long_any _ 2 2 (fun i => if i = 0 then kn else n) (fun i => by split <;> omega) (by omega) _ (by have h := slcs_two (w := w) (t := 22) (K := K) (A := A) (kn := kn) (kc := kcap) (n := n) (c := cap); rw [show (w.alloc (.cells #[.slice K kn kcap, .slice A n cap] 22)).heap.size = w.heap.size + 1 by simp]; exact h)).mono ?_
  rintro e w1 ⟨rfl, rfl⟩
  rw [HLB.out]
  have hb1 : Below w.heap.size w (w.alloc (.cells #[.slice K kn kcap, .slice A n cap] 22)) := (Below.refl _ _).alloc (Nat.le_refl _) _
  generalize World.alloc w _ = w1 at *
  have B1 := hid hb1
  have K1 := hid (HK.out.on hb1)
  have A1 := hid (HA.out.on hb1)
  clear hb1
  go_upto_region 4 with (first
    | (at_builtin; (with_reducible apply wappN_any elt8); rfl; rfl; exact K1.out.none; exact Own.empty w1 (Nat.le_refl _); exact ((K1.out.byt.below ((Below.refl w1.heap.size w1).alloc (Nat.le_refl _) _) (Nat.le_refl _))); exact K1.out.len; (rw [List.length_nil]; omega); (simp); intro v1 w3 o3 g3; have b3 := below_grown ((Below.refl w1.heap.size w1).alloc (Nat.le_refl _) (.cells #[] 5)) g3 (Own.empty (e := 5) (k := .u8) w1 (Nat.le_refl _)) (Nat.le_refl _) (Nat.le_refl _); have O3 := hid o3; have B3 := hid b3; clear o3 b3 g3)
    | (at_builtin; (with_reducible apply wappN_any elt8); rfl; rfl; exact A1.out.none; exact Own.empty w3 (Nat.le_refl _); exact ((A1.out.byt.below (B3.out.alloc B3.out.size _) (Nat.le_refl _))); exact A1.out.len; (rw [List.length_nil]; omega); (simp); intro v2 w4 o4 g4; have b4 := below_grown ((Below.refl w3.heap.size w3).alloc (Nat.le_refl _) (.cells #[] 5)) g4 (Own.empty (e := 5) (k := .u8) w3 (Nat.le_refl _)) (Nat.le_refl _) (Nat.le_refl _); have O4 := hid o4; have B4 := hid b4; clear o4 b4 g4))
  have o3 := O3.out.below B4.out
  rw [List.nil_append] at o3
  have o4 := O4.out
  rw [List.nil_append] at o4
  obtain ⟨Ak, ck, e3, ak⟩ := o3.arg HK.out.b256
  obtain ⟨Ac, cc, e4, ac⟩ := o4.arg HA.out.b256
  rw [HK.out.len] at e3 ak
  rw [HA.out.len] at e4 ac
  subst e3 e4
  have BW := hid (B1.out.trans ((B3.out.trans (B4.out.mono B3.out.size)).mono B1.out.size))
  have AK := hid ak
  have AC := hid ac
  clear o3 o4 ak ac O3 O4 B3 B4 K1 A1 B1
  go_wp2_with fail
  refine (ahead_ok Ak key kn ck AK.out.len HMD.out AK.out.cap AK.out.max (by omega) AK.out.b256 w4 AK.out.byt (SA.out.on BW.out)).mono ?_
  rintro e w5 ⟨rfl, h5⟩
  have B5 := hid (BW.out.trans (h5.mono BW.out.size))
  have AK5 := hid (AK.out.on h5)
  have AC5 := hid (AC.out.on h5)
  have hz5 := B5.out.size
  clear h5 AK AC BW
  go_upto_region 5 with ((with_reducible apply stp); rfl; rfl; exact Blk.top zlit_pre rfl)
  generalize hw6 : World.setRow _ _ _ = w6
  have c6 : Blk w6 w5.heap.size 29 (pre (ShaM.passes ShaM.seeds key).get kn true) := by rw [← hw6]; exact (Blk.top zlit_pre rfl).setRow_same _
  have b56 : Below w5.heap.size w5 w6 := by rw [← hw6]; exact below_setRow ((Below.refl _ _).alloc (Nat.le_refl _) _) (Nat.le_refl _) _
  obtain ⟨g, hg⟩ : ∃ g, g = w5.heap.size := ⟨_, rfl⟩
  rw [← hg] at c6 ⊢
  have C6 := hid c6
  have B6 := hid (B5.out.trans (b56.mono hz5))
  have AK6 := hid (AK5.out.on b56)
  have AC6 := hid (AC5.out.on b56)
  clear hw6 c6 b56 hg AK5 AC5 B5 hz5
  have K6 := hid (HK.out.on B6.out)
  have A6 := hid (HA.out.on B6.out)
  go_upto_region 6 with (first
    | (at_builtin; (with_reducible apply wappN_any elt8); rfl; rfl; exact K6.out.none; exact Own.empty w6 (Nat.le_refl _); exact ((K6.out.byt.below ((Below.refl w6.heap.size w6).alloc (Nat.le_refl _) _) (Nat.le_refl _))); exact K6.out.len; (rw [List.length_nil]; omega); (simp); intro v7 w7 o7 g7; have b7 := below_grown ((Below.refl w6.heap.size w6).alloc (Nat.le_refl _) (.cells #[] 5)) g7 (Own.empty (e := 5) (k := .u8) w6 (Nat.le_refl _)) (Nat.le_refl _) (Nat.le_refl _); have O7 := hid o7; have B7 := hid b7; clear o7 b7 g7)
    | (at_builtin; (with_reducible apply wappN_any elt8); rfl; rfl; exact A6.out.none; exact O7.out; exact (A6.out.on B7.out).byt.nums; exact A6.out.len; (rw [List.nil_append, K6.out.len]; omega); exact B7.out.size; intro v8 w8 o8 g8; have b8 := below_grown B7.out g8 O7.out (Nat.le_refl _) (Nat.le_refl _); have O8 := hid o8; have B8 := hid b8; clear o8 b8 g8))
  have o8 := O8.out
  rw [List.nil_append] at o8
  have hall256 : B256 (key ++ l) := HK.out.b256.append HA.out.b256
  obtain ⟨Aa, ca, e8, a8⟩ := o8.arg hall256
  have hlen : (key ++ l).length = kn + n := by rw [List.length_append, HK.out.len, HA.out.len]
  obtain ⟨N, hN⟩ : ∃ N, N = kn + n := ⟨_, rfl⟩
  rw [← hN] at hlen
  rw [hlen] at e8 a8
  subst e8
  have hN6 : N ≤ 6000 := by omega
  obtain ⟨T, hT⟩ : ∃ T, T = ShaM.sum (key ++ l) := ⟨_, rfl⟩
  have HT := hid hT
  have HNN := hid hN
  have A8 := hid a8
  have B68 := hid B8.out
  have B08 := hid (B6.out.trans (B8.out.mono B6.out.size))
  clear o8 a8 hlen hN hT hall256 O7 O8 B7 B8
  go_wp2_with fail
  refine (rsum_any Aa (key ++ l) N ca A8.out.len (by omega) A8.out.none A8.out.b256 w8 A8.out.byt).mono ?_
  rintro e w9 ⟨rfl, h9⟩
  rw [← HT.out]
  have B9 := hid (B08.out.trans (h9.mono B08.out.size))
  have B69 := hid (B68.out.trans (h9.mono B68.out.size))
  have A9 := hid (A8.out.on h9)
  have hz9 := B9.out.size
  clear h9 A8 B68 B08
  go_upto_region 7 with ((with_reducible apply stt); rfl; rfl; exact Blk.top zlit_tag rfl)
  generalize hwa : World.setRow _ _ _ = wa
  have d9 : Blk wa w9.heap.size 34 (tag T) := by rw [← hwa]; exact (Blk.top zlit_tag rfl).setRow_same _
  have b9a : Below w9.heap.size w9 wa := by rw [← hwa]; exact below_setRow ((Below.refl _ _).alloc (Nat.le_refl _) _) (Nat.le_refl _) _
  obtain ⟨h, hh⟩ : ∃ h, h = w9.heap.size := ⟨_, rfl⟩
  rw [← hh] at d9 ⊢
  have D9 := hid d9
  have BA := hid (B9.out.trans (b9a.mono hz9))
  have B6A := hid (B69.out.trans (b9a.mono B69.out.size))
  have AA := hid (A9.out.on b9a)
  clear hwa d9 b9a hh A9 B9 B69 hz9
  have HE := hid fun w => eq_tag_self T w
  go_wp2_with fail
  refine wp_region_tail (C := fun w' => Below wa.heap.size wa w') 4 (by kernel_rfl) (by kernel_rfl) (by kernel_rfl) (Below.refl _ _).drew ?_
  simp only [List.take_succ_cons, List.take_zero, List.drop_succ_cons, List.drop_zero]
  apply wpK_val
  · rfl
  · intro w' hw'
    go_simp
    first | exact rfl | exact ⟨rfl, hw'⟩
  simp only [Act.put, List.setIfInBounds_toArray, List.set_cons_succ, List.set_cons_zero]
  apply wpK_val
  · rfl
  · intro w' hw'
    go_simp
    exact (sum_any Aa (key ++ l) N ca AA.out.len AA.out.cap AA.out.max (by omega) AA.out.b256 _ (AA.out.on hw').byt (SA.out.on (BA.out.trans (hw'.mono BA.out.size)))).mono fun e w'' ⟨he, hb''⟩ => ⟨he.trans (congrArg (fun T => Ending.returned (.agg (tag T))) HT.out.symm), hw'.trans (hb''.mono hw'.size)⟩
  simp only [Act.put, List.setIfInBounds_toArray, List.set_cons_succ, List.set_cons_zero]
  apply klt
  · rfl
  · rfl
  · exact fun w' hw' => D9.out.below hw' D9.out.lt
  simp only [Act.put, List.setIfInBounds_toArray, List.set_cons_succ, List.set_cons_zero]
  apply wpK_val
  · rfl
  · intro w' hw'
    have h1 : _ := HE.out
    have h2 : _ := eqg_tag
    go_simp
    first | exact rfl | exact ⟨rfl, hw'⟩
  simp only [Act.put, List.setIfInBounds_toArray, List.set_cons_succ, List.set_cons_zero]
  refine wpK_nil fun wb hwb => ?_
  have BB := hid (BA.out.trans (hwb.mono BA.out.size))
  have B6B := hid (B6A.out.trans (hwb.mono B6A.out.size))
  have DB := hid (D9.out.below hwb D9.out.lt)
  have CB := hid (C6.out.below B6B.out C6.out.lt)
  have ACB := hid (AC6.out.on B6B.out)
  have AKB := hid (AK6.out.on B6B.out)
  have KB := hid (HK.out.on BB.out)
  have AB := hid (HA.out.on BB.out)
  clear hwb BA B6A B6B D9 C6 AC6 AK6 K6 A6 B6 AA
  have t9 : (((kn : Int) % 64) != 0) = false := by rw [bne_eq_false_iff_eq]; have := HMD.out; omega
  have hsum : ShaM.digest (ShaM.ended (ShaM.passes ShaM.seeds key) kn l) = T := by
    rw [HT.out]; unfold ShaM.sum
    rw [ShaM.ended_append (n := kn / 64) (by rw [HK.out.len]; have := HMD.out; omega), Nat.zero_add, HK.out.len]
  have HSUM := hid hsum
  clear hsum
  go_wp2_with fail
  refine wp_region_tail (C := fun w' => Below wb.heap.size wb w') 33 (by kernel_rfl) (by kernel_rfl) (by kernel_rfl) (Below.refl _ _).drew ?_
  simp only [List.take_succ_cons, List.take_zero, List.drop_succ_cons, List.drop_zero]
  apply wpK_val
  · rfl
  · intro w' hw'
    go_simp
    first | exact rfl | exact ⟨rfl, hw'⟩
  simp only [Act.put, List.setIfInBounds_toArray, List.set_cons_succ, List.set_cons_zero]
  apply wpK_val
  · rfl
  · intro w' hw'
    go_simp
    first | exact rfl | exact ⟨rfl, hw'⟩
  simp only [Act.put, List.setIfInBounds_toArray, List.set_cons_succ, List.set_cons_zero]
  apply wpK_val
  · rfl
  · intro w' hw'
    go_simp
    first | exact rfl | exact ⟨rfl, hw'⟩
  simp only [Act.put, List.setIfInBounds_toArray, List.set_cons_succ, List.set_cons_zero]
  apply klpw
  · rfl
  · rfl
  · exact fun w' hw' => CB.out.below hw' CB.out.lt
  simp only [Act.put, List.setIfInBounds_toArray, List.set_cons_succ, List.set_cons_zero]
  apply wpK_val
  · rfl
  · intro w' hw'
    go_simp
    exact (size_any _ kn true _).mono fun e w'' ⟨he, hb''⟩ => ⟨he, hw'.trans (hb''.mono hw'.size)⟩
  simp only [Act.put, List.setIfInBounds_toArray, List.set_cons_succ, List.set_cons_zero]
  apply wpK_val
  · rfl
  · intro w' hw'
    go_simp
    first | exact rfl | exact ⟨rfl, hw'⟩
  simp only [Act.put, List.setIfInBounds_toArray, List.set_cons_succ, List.set_cons_zero]
  apply wpK_val
  · rfl
  · intro w' hw'
    go_simp
    first | exact rfl | exact ⟨rfl, hw'⟩
  simp only [Act.put, List.setIfInBounds_toArray, List.set_cons_succ, List.set_cons_zero]
  apply wpK_val
  · rfl
  · intro w' hw'
    go_simp
    first | exact rfl | exact ⟨rfl, hw'⟩
  simp only [Act.put, List.setIfInBounds_toArray, List.set_cons_succ, List.set_cons_zero]
  apply wpK_val
  · rfl
  · intro w' hw'
    go_simp
    first | exact rfl | exact ⟨rfl, hw'⟩
  simp only [Act.put, List.setIfInBounds_toArray, List.set_cons_succ, List.set_cons_zero]
  apply wpK_val
  · rfl
  · intro w' hw'
    go_simp
    first | exact rfl | exact ⟨rfl, hw'⟩
  simp only [Act.put, List.setIfInBounds_toArray, List.set_cons_succ, List.set_cons_zero]
  apply klpw
  · rfl
  · rfl
  · exact fun w' hw' => CB.out.below hw' CB.out.lt
  simp only [Act.put, List.setIfInBounds_toArray, List.set_cons_succ, List.set_cons_zero]
  apply wpK_val
  · rfl
  · intro w' hw'
    go_simp
    first | exact rfl | exact ⟨rfl, hw'⟩
  simp only [Act.put, List.setIfInBounds_toArray, List.set_cons_succ, List.set_cons_zero]
  apply wpK_val
  · rfl
  · intro w' hw'
    go_simp
    exact (psum_ok (ShaM.passes ShaM.seeds key) (ShaM.passes_ok _ (Nat.le_refl _) ShaM.seeds_ok) Ac l n cc kn ACB.out.len HMD.out ACB.out.cap ACB.out.max (by omega) ACB.out.b256 _ (ACB.out.on hw').byt (SA.out.on (BB.out.trans (hw'.mono BB.out.size)))).mono fun e w'' ⟨he, hb''⟩ => ⟨he.trans (congrArg (fun T => Ending.returned (.agg (tag T))) HSUM.out), hw'.trans (hb''.mono hw'.size)⟩
  simp only [Act.put, List.setIfInBounds_toArray, List.set_cons_succ, List.set_cons_zero]
  apply klt
  · rfl
  · rfl
  · exact fun w' hw' => DB.out.below hw' DB.out.lt
  simp only [Act.put, List.setIfInBounds_toArray, List.set_cons_succ, List.set_cons_zero]
  apply wpK_val
  · rfl
  · intro w' hw'
    have h1 : _ := HE.out
    have h2 : _ := eqg_tag
    go_simp
    first | exact rfl | exact ⟨rfl, hw'⟩
  simp only [Act.put, List.setIfInBounds_toArray, List.set_cons_succ, List.set_cons_zero]
  apply wpK_val
  · rfl
  · intro w' hw'
    go_simp
    first | exact rfl | exact ⟨rfl, hw'⟩
  simp only [Act.put, List.setIfInBounds_toArray, List.set_cons_succ, List.set_cons_zero]
  apply wpK_val
  · rfl
  · intro w' hw'
    go_simp
    first | exact rfl | exact ⟨rfl, hw'⟩
  simp only [Act.put, List.setIfInBounds_toArray, List.set_cons_succ, List.set_cons_zero]
  apply wpK_val
  · rfl
  · intro w' hw'
    go_simp
    first | exact rfl | exact ⟨rfl, hw'⟩
  simp only [Act.put, List.setIfInBounds_toArray, List.set_cons_succ, List.set_cons_zero]
  apply wpK_val
  · rfl
  · intro w' hw'
    have h1 : _ := (AKB.out.on hw').str
    go_simp
    first | exact rfl | exact ⟨rfl, hw'⟩
  simp only [Act.put, List.setIfInBounds_toArray, List.set_cons_succ, List.set_cons_zero]
  apply wpK_val
  · rfl
  · intro w' hw'
    go_simp
    first | exact rfl | exact ⟨rfl, hw'⟩
  simp only [Act.put, List.setIfInBounds_toArray, List.set_cons_succ, List.set_cons_zero]
  apply wpK_val
  · rfl
  · intro w' hw'
    have h1 : _ := (KB.out.on hw').str
    go_simp
    first | exact rfl | exact ⟨rfl, hw'⟩
  simp only [Act.put, List.setIfInBounds_toArray, List.set_cons_succ, List.set_cons_zero]
  apply wpK_val
  · rfl
  · intro w' hw'
    go_simp
    first | exact rfl | exact ⟨rfl, hw'⟩
  simp only [Act.put, List.setIfInBounds_toArray, List.set_cons_succ, List.set_cons_zero]
  apply wpK_val
  · rfl
  · intro w' hw'
    go_simp
    first | exact rfl | exact ⟨rfl, hw'⟩
  simp only [Act.put, List.setIfInBounds_toArray, List.set_cons_succ, List.set_cons_zero]
  apply wpK_val
  · rfl
  · intro w' hw'
    go_simp
    first | exact rfl | exact ⟨rfl, hw'⟩
  simp only [Act.put, List.setIfInBounds_toArray, List.set_cons_succ, List.set_cons_zero]
  apply wpK_val
  · rfl
  · intro w' hw'
    go_simp
    first | exact rfl | exact ⟨rfl, hw'⟩
  simp only [Act.put, List.setIfInBounds_toArray, List.set_cons_succ, List.set_cons_zero]
  apply wpK_val
  · rfl
  · intro w' hw'
    have h1 : _ := (ACB.out.on hw').str
    go_simp
    first | exact rfl | exact ⟨rfl, hw'⟩
  simp only [Act.put, List.setIfInBounds_toArray, List.set_cons_succ, List.set_cons_zero]
  apply wpK_val
  · rfl
  · intro w' hw'
    go_simp
    first | exact rfl | exact ⟨rfl, hw'⟩
  simp only [Act.put, List.setIfInBounds_toArray, List.set_cons_succ, List.set_cons_zero]
  apply wpK_val
  · rfl
  · intro w' hw'
    have h1 : _ := (AB.out.on hw').str
    go_simp
    first | exact rfl | exact ⟨rfl, hw'⟩
  simp only [Act.put, List.setIfInBounds_toArray, List.set_cons_succ, List.set_cons_zero]
  apply wpK_val
  · rfl
  · intro w' hw'
    go_simp
    first | exact rfl | exact ⟨rfl, hw'⟩
  simp only [Act.put, List.setIfInBounds_toArray, List.set_cons_succ, List.set_cons_zero]
  apply wpK_val
  · rfl
  · intro w' hw'
    go_simp
    first | exact rfl | exact ⟨rfl, hw'⟩
  simp only [Act.put, List.setIfInBounds_toArray, List.set_cons_succ, List.set_cons_zero]
  apply wpK_val
  · rfl
  · intro w' hw'
    go_simp
    first | exact rfl | exact ⟨rfl, hw'⟩
  simp only [Act.put, List.setIfInBounds_toArray, List.set_cons_succ, List.set_cons_zero]
  apply wpK_val
  · rfl
  · intro w' hw'
    go_simp
    exact (awake_any _ (SA.out.on (BB.out.trans (hw'.mono BB.out.size)))).mono fun e w'' ⟨he, hb''⟩ => ⟨he, hw'.trans (hb''.mono hw'.size)⟩
  simp only [Act.put, List.setIfInBounds_toArray, List.set_cons_succ, List.set_cons_zero]
  apply wpK_val
  · rfl
  · intro w' hw'
    go_simp
    first | exact rfl | exact ⟨rfl, hw'⟩
  simp only [Act.put, List.setIfInBounds_toArray, List.set_cons_succ, List.set_cons_zero]
  refine wpK_nil fun wc hwc => ?_
  have b3 := BB.out.trans (hwc.mono BB.out.size)
  clear hwc
  go_wp2_with fail
  go_ret
  exact ⟨rfl, b3⟩
theorem keyed_law (K : Option Addr) (key : List Nat) (kn kcap : Nat) (A : Option Addr) (l : List Nat) (n cap : Nat) (w : World) (hK : Arg w K key kn kcap) (hA : Arg w A l n cap) (hS : Salts w) :
    Calls Tryd.prog 3 #[.slice K kn kcap, .slice A n cap] w fun e w' => e = .returned (.bool true) ∧ Below w.heap.size w w' := by
  have h1 := hK.cap
  have h2 := hK.max
  have h3 := hA.cap
  have h4 := hA.max
  unfold maxLen at h2 h4
  by_cases h : 3000 < kn ∨ 3000 < n
  · exact keyed_long K kn kcap A n cap (by omega) (by omega) h w hS
  · by_cases hm : kn % 64 = 0
    · exact keyed_whole K key kn kcap A l n cap (by omega) (by omega) hm w hK hA hS
    · exact keyed_arg K key kn kcap A l n cap (by omega) (by omega) hm w hK hA hS
end Go.Proofs.YtdbabldcfohhmaaDoor
