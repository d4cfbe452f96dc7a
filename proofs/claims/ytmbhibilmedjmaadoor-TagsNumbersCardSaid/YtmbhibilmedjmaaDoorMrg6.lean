/-
  The walk of TagsNumbers, over TagC, LeafC, RestC, JoinC.
  Texts' bytes: looked at one by one, laid behind bytes of the call's own; one byte of the call's own turned.
  The walk of TagsTexts, over TagC, LeafC, RestC, JoinC.
  '[]byte' of a constant, in whatever world: the row gets a mark, its cells stay.
  Regions that draw their order, in which constants are made slices of bytes ('[]byte("..")': the row gets a mark, its cells stay).
  The walk of TagsKnown, over TagC, LeafC, RestC, JoinC.
-/
import Derived.Test.YtmbhibilmedjmaaDoorMrg5
import Derived.Lib.AppendStr
import Derived.Lib.SlBytesConst
set_option linter.unusedVariables false
set_option linter.unusedSimpArgs false
set_option maxRecDepth 100000
namespace Go.Proofs.YtmbhibilmedjmaaDoor
open Go.ChangeShapes Go.WideShapes Go.ChangeAt Go.RowKit
attribute [local go_sem] Gives GivesE
namespace TgP
set_option maxHeartbeats 400000 in
set_option maxRecDepth 100000 in
theorem numbers_law (H : LeafC) (R : RestC) (J : JoinC) (T : TagC) (k : Nat → Nat) (hk : ∀ i, k i < 256) (num : Int) (hnum : -9223372036854775808 ≤ num ∧ num ≤ 9223372036854775807) (s : Nat → Nat) (hs : ∀ i, s i < 256) (w : World) (hS : Salts w) :
    Calls Tryd.prog 3 #[.agg (ar 32 k), .int .i64 num, .agg (ar 64 s)] w fun e w' => e = .returned (.bool true) ∧ Below w.heap.size w w' := by
  have AW := hid fun w => awake_any H w
  have HL := hid (H.leafText num hnum s hs)
  have HN := hid (R.nodeText num hnum s hs)
  have DL := hid (rnumbered_any 76 num s hs)
  have DN := hid (rnumbered_any 78 num s hs)
  have TL := hid (T.leaf k hk num hnum s hs)
  have TN := hid (T.node k hk num hnum s hs)
  have DTL := hid (rleaf_any k hk num s hs)
  have DTN := hid (rnode_any k hk num s hs)
  have HJ := hid J.join
  have HP := hid J.split
  have X6 := hid (numT_256 (d := 76) (by omega) num hs)
  have Y6 := hid (numT_256 (d := 78) (by omega) num hs)
  have SA := hid hS
  obtain ⟨X, hX⟩ : ∃ X, X = numT 76 num s := ⟨_, rfl⟩
  obtain ⟨Y, hY⟩ : ∃ Y, Y = numT 78 num s := ⟨_, rfl⟩
  rw [show BytM.rowB 76 [BytM.dig 8 (bits num), ls 64 s] = numT 76 num s from rfl] at DL DTL
  rw [show BytM.rowB 78 [BytM.dig 8 (bits num), ls 64 s] = numT 78 num s from rfl] at DN DTN
  unfold tagN at TL TN
  rw [← hX] at HL DL TL DTL X6
  rw [← hY] at HN DN TN DTN Y6
  obtain ⟨F, hF⟩ : ∃ F, F = HmM.tag (HmM.dl k) X := ⟨_, rfl⟩
  obtain ⟨G, hG⟩ : ∃ G, G = HmM.tag (HmM.dl k) Y := ⟨_, rfl⟩
  rw [← hF] at TL DTL
  rw [← hG] at TN DTN
  clear hX hY hF hG hs hk hnum H R J T hS
  go_enter Tryd.func3, Tryd.ntmps3
  go_upto_region 1 with fail
  try rw [show (w.alloc (.cells (ar 32 k) 23)).heap.size = w.heap.size + 1 by simp]
  generalize hw1 : World.alloc (World.alloc w _) _ = w1
  have z0 := hid (show Blk w1 w.heap.size 23 (ar 32 k) by rw [← hw1]; exact (Blk.new _ _ _).alloc _)
  have z1 := hid (show Blk w1 (w.heap.size + 1) 25 (ar 64 s) by rw [← hw1]; exact Blk.top rfl (by simp))
  have hb := hid (show Below w.heap.size w w1 by rw [← hw1]; exact ((Below.refl _ _).alloc (Nat.le_refl _) _).alloc (by simp) _)
  clear hw1
  refine wp_region_eS [some (.int .i64 num), some (.agg (ar 64 s)), none, some (.string (str X)), some (.int .i64 num), some (.agg (ar 64 s)), none, some (.string (str X)), some (.bool false), some (.bool false), some (.int .i64 num), some (.agg (ar 64 s)), none, some (.string (str Y)), some (.int .i64 num), some (.agg (ar 64 s)), none, some (.string (str Y)), some (.bool false), some (.bool false)] [(2, X), (6, X), (12, Y), (16, Y)] 20 (by kernel_rfl) (by kernel_rfl) (by kernel_rfl) fun vs => ?_
  simp only [List.take_succ_cons, List.take_zero, List.drop_succ_cons, List.drop_zero]
  refine ⟨.inl ⟨rfl, fun dd w' hd hC hDs => ?_⟩, fun e => ?_⟩
  · go_simp
    first | exact ⟨rfl, hC, Below.refl _ _, eD_none rfl⟩ | exact ⟨rfl, Below.refl _ _, eD_none rfl⟩ | exact ⟨hC, Below.refl _ _, eD_none rfl⟩
  have e' : vs 0 = _ := e
  rw [e']
  clear e e'
  simp only [Act.put, List.setIfInBounds_toArray, List.set_cons_succ, List.set_cons_zero]
  refine ⟨.inl ⟨rfl, fun dd w' hd hC hDs => ?_⟩, fun e => ?_⟩
  · exact gE_ldA tS rfl ((z1.out.below hC z1.out.lt).head) ⟨rfl, hC, Below.refl _ _, eD_none rfl⟩
  have e' : vs 1 = _ := e
  rw [e']
  clear e e'
  simp only [Act.put, List.setIfInBounds_toArray, List.set_cons_succ, List.set_cons_zero]
  refine ⟨.inl ⟨rfl, fun dd w' hd hC hDs => ?_⟩, fun e => ?_⟩
  · go_simp
    refine ((HL.out w')).mono ?_
    rintro e w2 ⟨v, rfl, o2, h2⟩
    have hbs : B256 _ := X6.out
    exact ⟨_, rfl, own_sl o2 hbs, hC.trans (h2.mono hC.size), h2, own_eD rfl o2 hbs⟩
  obtain ⟨A2, c2, e'⟩ : ∃ (A : Option Addr) (c : Nat), vs 2 = .slice A _ c := e
  rw [e']
  have E2 := hid e'
  clear e'
  simp only [Act.put, List.setIfInBounds_toArray, List.set_cons_succ, List.set_cons_zero]
  refine ⟨.inl ⟨rfl, fun dd w' hd hC hDs => ?_⟩, fun e => ?_⟩
  · obtain ⟨B7, k7, f7, a7⟩ := hDs 2 (by kernel_rfl) X rfl
    rw [E2.out] at f7
    cases f7
    have h1 := a7.str
    go_simp
    first | exact ⟨rfl, hC, Below.refl _ _, eD_none rfl⟩ | exact ⟨rfl, Below.refl _ _, eD_none rfl⟩ | exact ⟨hC, Below.refl _ _, eD_none rfl⟩
  have e' : vs 3 = _ := e
  rw [e']
  clear e e'
  simp only [Act.put, List.setIfInBounds_toArray, List.set_cons_succ, List.set_cons_zero]
  refine ⟨.inl ⟨rfl, fun dd w' hd hC hDs => ?_⟩, fun e => ?_⟩
  · go_simp
    first | exact ⟨rfl, hC, Below.refl _ _, eD_none rfl⟩ | exact ⟨rfl, Below.refl _ _, eD_none rfl⟩ | exact ⟨hC, Below.refl _ _, eD_none rfl⟩
  have e' : vs 4 = _ := e
  rw [e']
  clear e e'
  simp only [Act.put, List.setIfInBounds_toArray, List.set_cons_succ, List.set_cons_zero]
  refine ⟨.inl ⟨rfl, fun dd w' hd hC hDs => ?_⟩, fun e => ?_⟩
  · exact gE_ldA tS rfl ((z1.out.below hC z1.out.lt).head) ⟨rfl, hC, Below.refl _ _, eD_none rfl⟩
  have e' : vs 5 = _ := e
  rw [e']
  clear e e'
  simp only [Act.put, List.setIfInBounds_toArray, List.set_cons_succ, List.set_cons_zero]
  refine ⟨.inl ⟨rfl, fun dd w' hd hC hDs => ?_⟩, fun e => ?_⟩
  · go_simp
    refine ((DL.out w')).mono ?_
    rintro e w2 ⟨v, rfl, o2, h2⟩
    have hbs : B256 _ := X6.out
    exact ⟨_, rfl, own_sl o2 hbs, hC.trans (h2.mono hC.size), h2, own_eD rfl o2 hbs⟩
  obtain ⟨A6, c6, e'⟩ : ∃ (A : Option Addr) (c : Nat), vs 6 = .slice A _ c := e
  rw [e']
  have E6 := hid e'
  clear e'
  simp only [Act.put, List.setIfInBounds_toArray, List.set_cons_succ, List.set_cons_zero]
  refine ⟨.inl ⟨rfl, fun dd w' hd hC hDs => ?_⟩, fun e => ?_⟩
  · obtain ⟨B7, k7, f7, a7⟩ := hDs 6 (by kernel_rfl) X rfl
    rw [E6.out] at f7
    cases f7
    have h1 := a7.str
    go_simp
    first | exact ⟨rfl, hC, Below.refl _ _, eD_none rfl⟩ | exact ⟨rfl, Below.refl _ _, eD_none rfl⟩ | exact ⟨hC, Below.refl _ _, eD_none rfl⟩
  have e' : vs 7 = _ := e
  rw [e']
  clear e e'
  simp only [Act.put, List.setIfInBounds_toArray, List.set_cons_succ, List.set_cons_zero]
  refine ⟨.inl ⟨rfl, fun dd w' hd hC hDs => ?_⟩, fun e => ?_⟩
  · go_simp
    first | exact ⟨rfl, hC, Below.refl _ _, eD_none rfl⟩ | exact ⟨rfl, Below.refl _ _, eD_none rfl⟩ | exact ⟨hC, Below.refl _ _, eD_none rfl⟩
  have e' : vs 8 = _ := e
  rw [e']
  clear e e'
  simp only [Act.put, List.setIfInBounds_toArray, List.set_cons_succ, List.set_cons_zero]
  refine ⟨.inl ⟨rfl, fun dd w' hd hC hDs => ?_⟩, fun e => ?_⟩
  · go_simp
    first | exact ⟨rfl, hC, Below.refl _ _, eD_none rfl⟩ | exact ⟨rfl, Below.refl _ _, eD_none rfl⟩ | exact ⟨hC, Below.refl _ _, eD_none rfl⟩
  have e' : vs 9 = _ := e
  rw [e']
  clear e e'
  simp only [Act.put, List.setIfInBounds_toArray, List.set_cons_succ, List.set_cons_zero]
  refine ⟨.inl ⟨rfl, fun dd w' hd hC hDs => ?_⟩, fun e => ?_⟩
  · go_simp
    first | exact ⟨rfl, hC, Below.refl _ _, eD_none rfl⟩ | exact ⟨rfl, Below.refl _ _, eD_none rfl⟩ | exact ⟨hC, Below.refl _ _, eD_none rfl⟩
  have e' : vs 10 = _ := e
  rw [e']
  clear e e'
  simp only [Act.put, List.setIfInBounds_toArray, List.set_cons_succ, List.set_cons_zero]
  refine ⟨.inl ⟨rfl, fun dd w' hd hC hDs => ?_⟩, fun e => ?_⟩
  · exact gE_ldA tS rfl ((z1.out.below hC z1.out.lt).head) ⟨rfl, hC, Below.refl _ _, eD_none rfl⟩
  have e' : vs 11 = _ := e
  rw [e']
  clear e e'
  simp only [Act.put, List.setIfInBounds_toArray, List.set_cons_succ, List.set_cons_zero]
  refine ⟨.inl ⟨rfl, fun dd w' hd hC hDs => ?_⟩, fun e => ?_⟩
  · go_simp
    refine ((HN.out w')).mono ?_
    rintro e w2 ⟨v, rfl, o2, h2⟩
    have hbs : B256 _ := Y6.out
    exact ⟨_, rfl, own_sl o2 hbs, hC.trans (h2.mono hC.size), h2, own_eD rfl o2 hbs⟩
  obtain ⟨A12, c12, e'⟩ : ∃ (A : Option Addr) (c : Nat), vs 12 = .slice A _ c := e
  rw [e']
  have E12 := hid e'
  clear e'
  simp only [Act.put, List.setIfInBounds_toArray, List.set_cons_succ, List.set_cons_zero]
  refine ⟨.inl ⟨rfl, fun dd w' hd hC hDs => ?_⟩, fun e => ?_⟩
  · obtain ⟨B7, k7, f7, a7⟩ := hDs 12 (by kernel_rfl) Y rfl
    rw [E12.out] at f7
    cases f7
    have h1 := a7.str
    go_simp
    first | exact ⟨rfl, hC, Below.refl _ _, eD_none rfl⟩ | exact ⟨rfl, Below.refl _ _, eD_none rfl⟩ | exact ⟨hC, Below.refl _ _, eD_none rfl⟩
  have e' : vs 13 = _ := e
  rw [e']
  clear e e'
  simp only [Act.put, List.setIfInBounds_toArray, List.set_cons_succ, List.set_cons_zero]
  refine ⟨.inl ⟨rfl, fun dd w' hd hC hDs => ?_⟩, fun e => ?_⟩
  · go_simp
    first | exact ⟨rfl, hC, Below.refl _ _, eD_none rfl⟩ | exact ⟨rfl, Below.refl _ _, eD_none rfl⟩ | exact ⟨hC, Below.refl _ _, eD_none rfl⟩
  have e' : vs 14 = _ := e
  rw [e']
  clear e e'
  simp only [Act.put, List.setIfInBounds_toArray, List.set_cons_succ, List.set_cons_zero]
  refine ⟨.inl ⟨rfl, fun dd w' hd hC hDs => ?_⟩, fun e => ?_⟩
  · exact gE_ldA tS rfl ((z1.out.below hC z1.out.lt).head) ⟨rfl, hC, Below.refl _ _, eD_none rfl⟩
  have e' : vs 15 = _ := e
  rw [e']
  clear e e'
  simp only [Act.put, List.setIfInBounds_toArray, List.set_cons_succ, List.set_cons_zero]
  refine ⟨.inl ⟨rfl, fun dd w' hd hC hDs => ?_⟩, fun e => ?_⟩
  · go_simp
    refine ((DN.out w')).mono ?_
    rintro e w2 ⟨v, rfl, o2, h2⟩
    have hbs : B256 _ := Y6.out
    exact ⟨_, rfl, own_sl o2 hbs, hC.trans (h2.mono hC.size), h2, own_eD rfl o2 hbs⟩
  obtain ⟨A16, c16, e'⟩ : ∃ (A : Option Addr) (c : Nat), vs 16 = .slice A _ c := e
  rw [e']
  have E16 := hid e'
  clear e'
  simp only [Act.put, List.setIfInBounds_toArray, List.set_cons_succ, List.set_cons_zero]
  refine ⟨.inl ⟨rfl, fun dd w' hd hC hDs => ?_⟩, fun e => ?_⟩
  · obtain ⟨B7, k7, f7, a7⟩ := hDs 16 (by kernel_rfl) Y rfl
    rw [E16.out] at f7
    cases f7
    have h1 := a7.str
    go_simp
    first | exact ⟨rfl, hC, Below.refl _ _, eD_none rfl⟩ | exact ⟨rfl, Below.refl _ _, eD_none rfl⟩ | exact ⟨hC, Below.refl _ _, eD_none rfl⟩
  have e' : vs 17 = _ := e
  rw [e']
  clear e e'
  simp only [Act.put, List.setIfInBounds_toArray, List.set_cons_succ, List.set_cons_zero]
  refine ⟨.inl ⟨rfl, fun dd w' hd hC hDs => ?_⟩, fun e => ?_⟩
  · go_simp
    first | exact ⟨rfl, hC, Below.refl _ _, eD_none rfl⟩ | exact ⟨rfl, Below.refl _ _, eD_none rfl⟩ | exact ⟨hC, Below.refl _ _, eD_none rfl⟩
  have e' : vs 18 = _ := e
  rw [e']
  clear e e'
  simp only [Act.put, List.setIfInBounds_toArray, List.set_cons_succ, List.set_cons_zero]
  refine ⟨.inl ⟨rfl, fun dd w' hd hC hDs => ?_⟩, fun e => ?_⟩
  · go_simp
    first | exact ⟨rfl, hC, Below.refl _ _, eD_none rfl⟩ | exact ⟨rfl, Below.refl _ _, eD_none rfl⟩ | exact ⟨hC, Below.refl _ _, eD_none rfl⟩
  have e' : vs 19 = _ := e
  rw [e']
  clear e e'
  simp only [Act.put, List.setIfInBounds_toArray, List.set_cons_succ, List.set_cons_zero]
  intro dd w2 hall hC2 hDs
  have y0 := hid (z0.out.below hC2 z0.out.lt)
  have y1 := hid (z1.out.below hC2 z1.out.lt)
  have yb := hid (hb.out.trans (hC2.mono hb.out.size))
  clear hall hC2 hDs z0 z1 hb HL HN DL DN E2 E6 E12 E16
  go_upto_region 3 with fail
  go_wp2_with ((with_reducible apply ldA tS); rfl; exact y1.out)
  refine (HP.out s w2).mono ?_
  rintro e w3 ⟨rfl, h3⟩
  have x0 := hid (y0.out.below h3 y0.out.lt)
  have x1 := hid (y1.out.below h3 y1.out.lt)
  have xb := hid (yb.out.trans (h3.mono yb.out.size))
  clear y0 y1 yb h3
  have hl := x1.out.lt
  have hz1 : Blk ((w3.alloc (.cells (ar 32 fun _ => 0) 29)).alloc (.cells (ar 32 fun _ => 0) 29)) w3.heap.size 29 (ar 32 fun _ => 0) := (Blk.new _ _ _).alloc _
  have hz2 : Blk (((w3.alloc (.cells (ar 32 fun _ => 0) 29)).alloc (.cells (ar 32 fun _ => 0) 29)).setRow w3.heap.size (ar 32 s)) (w3.alloc (.cells (ar 32 fun _ => 0) 29)).heap.size 29 (ar 32 fun _ => 0) := (Blk.new _ _ _).setRow_other (by simp) _
  go_upto_region 4 with (first | (with_reducible apply alA tT) | ((with_reducible apply stA tT); rfl; rfl; exact hz1) | ((with_reducible apply stA tT); rfl; rfl; exact hz2))
  have hgs : (w3.alloc (.cells (ar 32 fun _ => 0) 29)).heap.size = w3.heap.size + 1 := by simp
  rw [hgs] at hz2 ⊢
  clear hgs
  obtain ⟨gt, hgt⟩ : ∃ gt, gt = w3.heap.size := ⟨_, rfl⟩
  rw [← hgt] at hz1 hz2 hl ⊢
  generalize hw4 : World.setRow _ (gt + 1) _ = w4
  have v2 := hid (show Blk w4 gt 29 (ar 32 s) by rw [← hw4]; exact (hz1.setRow_same _).setRow_other (by omega) _)
  have v3 := hid (show Blk w4 (gt + 1) 29 (ar 32 fun j => s (32 + j)) by rw [← hw4]; exact hz2.setRow_same _)
  have v0 := hid (show Blk w4 w.heap.size 23 (ar 32 k) by rw [← hw4]; exact (((x0.out.alloc _).alloc _).setRow_other (by omega) _).setRow_other (by omega) _)
  have v1 := hid (show Blk w4 (w.heap.size + 1) 25 (ar 64 s) by rw [← hw4]; exact (((x1.out.alloc _).alloc _).setRow_other (by omega) _).setRow_other (by omega) _)
  have vb := hid (show Below w.heap.size w w4 by rw [← hw4]; exact below_setRow (below_setRow ((xb.out.alloc xb.out.size _).alloc (by simp; have := xb.out.size; omega) _) (by omega) _) (by omega) _)
  clear hw4 hz1 hz2 hgt x0 x1 xb
  go_wp2_with ((with_reducible apply ldA tS); rfl; exact v1.out)
  refine (rsplit_any s w4).mono ?_
  rintro e w5 ⟨rfl, h5⟩
  have u0 := hid (v0.out.below h5 v0.out.lt)
  have u1 := hid (v1.out.below h5 v1.out.lt)
  have u2 := hid (v2.out.below h5 v2.out.lt)
  have u3 := hid (v3.out.below h5 v3.out.lt)
  have ub := hid (vb.out.trans (h5.mono vb.out.size))
  clear v0 v1 v2 v3 vb h5
  have hl2 := u3.out.lt
  have hz1 : Blk ((w5.alloc (.cells (ar 32 fun _ => 0) 29)).alloc (.cells (ar 32 fun _ => 0) 29)) w5.heap.size 29 (ar 32 fun _ => 0) := (Blk.new _ _ _).alloc _
  have hz2 : Blk (((w5.alloc (.cells (ar 32 fun _ => 0) 29)).alloc (.cells (ar 32 fun _ => 0) 29)).setRow w5.heap.size (ar 32 s)) (w5.alloc (.cells (ar 32 fun _ => 0) 29)).heap.size 29 (ar 32 fun _ => 0) := (Blk.new _ _ _).setRow_other (by simp) _
  go_upto_region 5 with (first | (with_reducible apply alA tT) | ((with_reducible apply stA tT); rfl; rfl; exact hz1) | ((with_reducible apply stA tT); rfl; rfl; exact hz2))
  have hgs : (w5.alloc (.cells (ar 32 fun _ => 0) 29)).heap.size = w5.heap.size + 1 := by simp
  rw [hgs] at hz2 ⊢
  clear hgs
  obtain ⟨g2, hg2⟩ : ∃ g2, g2 = w5.heap.size := ⟨_, rfl⟩
  rw [← hg2] at hz1 hz2 hl2 ⊢
  generalize hw6 : World.setRow _ (g2 + 1) _ = w6
  have b0 := hid (show Blk w6 w.heap.size 23 (ar 32 k) by rw [← hw6]; exact (((u0.out.alloc _).alloc _).setRow_other (by omega) _).setRow_other (by omega) _)
  have b1 := hid (show Blk w6 (w.heap.size + 1) 25 (ar 64 s) by rw [← hw6]; exact (((u1.out.alloc _).alloc _).setRow_other (by omega) _).setRow_other (by omega) _)
  have b2 := hid (show Blk w6 gt 29 (ar 32 s) by rw [← hw6]; exact (((u2.out.alloc _).alloc _).setRow_other (by omega) _).setRow_other (by omega) _)
  have b3 := hid (show Blk w6 (gt + 1) 29 (ar 32 fun j => s (32 + j)) by rw [← hw6]; exact (((u3.out.alloc _).alloc _).setRow_other (by omega) _).setRow_other (by omega) _)
  have b4 := hid (show Blk w6 g2 29 (ar 32 s) by rw [← hw6]; exact (hz1.setRow_same _).setRow_other (by omega) _)
  have b5 := hid (show Blk w6 (g2 + 1) 29 (ar 32 fun j => s (32 + j)) by rw [← hw6]; exact hz2.setRow_same _)
  have bb := hid (show Below w.heap.size w w6 by rw [← hw6]; exact below_setRow (below_setRow ((ub.out.alloc ub.out.size _).alloc (by simp; have := ub.out.size; omega) _) (by omega) _) (by omega) _)
  have SA6 := hid (SA.out.on bb.out)
  clear hw6 hz1 hz2 hg2 u0 u1 u2 u3 ub SA
  refine wp_region_eS [some (.agg (ar 32 k)), some (.int .i64 num), some (.agg (ar 64 s)), some (.agg (ar 32 F)), some (.agg (ar 32 k)), some (.int .i64 num), some (.agg (ar 64 s)), some (.agg (ar 32 F)), some (.bool true), some (.bool true), some (.agg (ar 32 k)), some (.int .i64 num), some (.agg (ar 64 s)), some (.agg (ar 32 G)), some (.agg (ar 32 k)), some (.int .i64 num), some (.agg (ar 64 s)), some (.agg (ar 32 G)), some (.bool true), some (.bool true), some (.bool true), some (.agg (ar 32 s)), some (.agg (ar 32 s)), some (.bool true), some (.bool true), some (.bool true), some (.agg (ar 32 fun j => s (32 + j))), some (.agg (ar 32 fun j => s (32 + j))), some (.bool true), some (.bool true), some (.bool true), some (.agg (ar 32 fun j => s (32 + j))), some (.agg (ar 32 s)), some (.agg (ar 64 (joined (fun j => s (32 + j)) s))), some (.agg (ar 32 fun j => s (32 + j))), some (.agg (ar 32 s)), some (.agg (ar 64 (joined (fun j => s (32 + j)) s))), some (.bool true), some (.bool true), some (.bool true), some (.bool true), some (.bool true)] [] 42 (by kernel_rfl) (by kernel_rfl) (by kernel_rfl) fun vs => ?_
  simp only [List.take_succ_cons, List.take_zero, List.drop_succ_cons, List.drop_zero]
  refine ⟨.inl ⟨rfl, fun dd w' hd hC hDs => ?_⟩, fun e => ?_⟩
  · exact gE_ldA tK rfl ((b0.out.below hC b0.out.lt).head) ⟨rfl, hC, Below.refl _ _, eD_none rfl⟩
  have e' : vs 0 = _ := e
  rw [e']
  clear e e'
  simp only [Act.put, List.setIfInBounds_toArray, List.set_cons_succ, List.set_cons_zero]
  refine ⟨.inl ⟨rfl, fun dd w' hd hC hDs => ?_⟩, fun e => ?_⟩
  · go_simp
    first | exact ⟨rfl, hC, Below.refl _ _, eD_none rfl⟩ | exact ⟨rfl, Below.refl _ _, eD_none rfl⟩ | exact ⟨hC, Below.refl _ _, eD_none rfl⟩
  have e' : vs 1 = _ := e
  rw [e']
  clear e e'
  simp only [Act.put, List.setIfInBounds_toArray, List.set_cons_succ, List.set_cons_zero]
  refine ⟨.inl ⟨rfl, fun dd w' hd hC hDs => ?_⟩, fun e => ?_⟩
  · exact gE_ldA tS rfl ((b1.out.below hC b1.out.lt).head) ⟨rfl, hC, Below.refl _ _, eD_none rfl⟩
  have e' : vs 2 = _ := e
  rw [e']
  clear e e'
  simp only [Act.put, List.setIfInBounds_toArray, List.set_cons_succ, List.set_cons_zero]
  refine ⟨.inl ⟨rfl, fun dd w' hd hC hDs => ?_⟩, fun e => ?_⟩
  · go_simp
    refine ((TL.out w' (SA6.out.on hC))).mono ?_
    rintro e w2 ⟨rfl, h2⟩
    exact ⟨_, rfl, rfl, hC.trans (h2.mono hC.size), h2, eD_none rfl⟩
  have e' : vs 3 = _ := e
  rw [e']
  clear e e'
  simp only [Act.put, List.setIfInBounds_toArray, List.set_cons_succ, List.set_cons_zero]
  refine ⟨.inl ⟨rfl, fun dd w' hd hC hDs => ?_⟩, fun e => ?_⟩
  · exact gE_ldA tK rfl ((b0.out.below hC b0.out.lt).head) ⟨rfl, hC, Below.refl _ _, eD_none rfl⟩
  have e' : vs 4 = _ := e
  rw [e']
  clear e e'
  simp only [Act.put, List.setIfInBounds_toArray, List.set_cons_succ, List.set_cons_zero]
  refine ⟨.inl ⟨rfl, fun dd w' hd hC hDs => ?_⟩, fun e => ?_⟩
  · go_simp
    first | exact ⟨rfl, hC, Below.refl _ _, eD_none rfl⟩ | exact ⟨rfl, Below.refl _ _, eD_none rfl⟩ | exact ⟨hC, Below.refl _ _, eD_none rfl⟩
  have e' : vs 5 = _ := e
  rw [e']
  clear e e'
  simp only [Act.put, List.setIfInBounds_toArray, List.set_cons_succ, List.set_cons_zero]
  refine ⟨.inl ⟨rfl, fun dd w' hd hC hDs => ?_⟩, fun e => ?_⟩
  · exact gE_ldA tS rfl ((b1.out.below hC b1.out.lt).head) ⟨rfl, hC, Below.refl _ _, eD_none rfl⟩
  have e' : vs 6 = _ := e
  rw [e']
  clear e e'
  simp only [Act.put, List.setIfInBounds_toArray, List.set_cons_succ, List.set_cons_zero]
  refine ⟨.inl ⟨rfl, fun dd w' hd hC hDs => ?_⟩, fun e => ?_⟩
  · go_simp
    refine ((DTL.out w')).mono ?_
    rintro e w2 ⟨rfl, h2⟩
    exact ⟨_, rfl, rfl, hC.trans (h2.mono hC.size), h2, eD_none rfl⟩
  have e' : vs 7 = _ := e
  rw [e']
  clear e e'
  simp only [Act.put, List.setIfInBounds_toArray, List.set_cons_succ, List.set_cons_zero]
  refine ⟨.inl ⟨rfl, fun dd w' hd hC hDs => ?_⟩, fun e => ?_⟩
  · exact gE_eqU uT eqgT rfl rfl ⟨by rw [eqA_self]; rfl, hC, Below.refl _ _, eD_none rfl⟩
  have e' : vs 8 = _ := e
  rw [e']
  clear e e'
  simp only [Act.put, List.setIfInBounds_toArray, List.set_cons_succ, List.set_cons_zero]
  refine ⟨.inl ⟨rfl, fun dd w' hd hC hDs => ?_⟩, fun e => ?_⟩
  · go_simp
    first | exact ⟨rfl, hC, Below.refl _ _, eD_none rfl⟩ | exact ⟨rfl, Below.refl _ _, eD_none rfl⟩ | exact ⟨hC, Below.refl _ _, eD_none rfl⟩
  have e' : vs 9 = _ := e
  rw [e']
  clear e e'
  simp only [Act.put, List.setIfInBounds_toArray, List.set_cons_succ, List.set_cons_zero]
  refine ⟨.inl ⟨rfl, fun dd w' hd hC hDs => ?_⟩, fun e => ?_⟩
  · exact gE_ldA tK rfl ((b0.out.below hC b0.out.lt).head) ⟨rfl, hC, Below.refl _ _, eD_none rfl⟩
  have e' : vs 10 = _ := e
  rw [e']
  clear e e'
  simp only [Act.put, List.setIfInBounds_toArray, List.set_cons_succ, List.set_cons_zero]
  refine ⟨.inl ⟨rfl, fun dd w' hd hC hDs => ?_⟩, fun e => ?_⟩
  · go_simp
    first | exact ⟨rfl, hC, Below.refl _ _, eD_none rfl⟩ | exact ⟨rfl, Below.refl _ _, eD_none rfl⟩ | exact ⟨hC, Below.refl _ _, eD_none rfl⟩
  have e' : vs 11 = _ := e
  rw [e']
  clear e e'
  simp only [Act.put, List.setIfInBounds_toArray, List.set_cons_succ, List.set_cons_zero]
  refine ⟨.inl ⟨rfl, fun dd w' hd hC hDs => ?_⟩, fun e => ?_⟩
  · exact gE_ldA tS rfl ((b1.out.below hC b1.out.lt).head) ⟨rfl, hC, Below.refl _ _, eD_none rfl⟩
  have e' : vs 12 = _ := e
  rw [e']
  clear e e'
  simp only [Act.put, List.setIfInBounds_toArray, List.set_cons_succ, List.set_cons_zero]
  refine ⟨.inl ⟨rfl, fun dd w' hd hC hDs => ?_⟩, fun e => ?_⟩
  · go_simp
    refine ((TN.out w' (SA6.out.on hC))).mono ?_
    rintro e w2 ⟨rfl, h2⟩
    exact ⟨_, rfl, rfl, hC.trans (h2.mono hC.size), h2, eD_none rfl⟩
  have e' : vs 13 = _ := e
  rw [e']
  clear e e'
  simp only [Act.put, List.setIfInBounds_toArray, List.set_cons_succ, List.set_cons_zero]
  refine ⟨.inl ⟨rfl, fun dd w' hd hC hDs => ?_⟩, fun e => ?_⟩
  · exact gE_ldA tK rfl ((b0.out.below hC b0.out.lt).head) ⟨rfl, hC, Below.refl _ _, eD_none rfl⟩
  have e' : vs 14 = _ := e
  rw [e']
  clear e e'
  simp only [Act.put, List.setIfInBounds_toArray, List.set_cons_succ, List.set_cons_zero]
  refine ⟨.inl ⟨rfl, fun dd w' hd hC hDs => ?_⟩, fun e => ?_⟩
  · go_simp
    first | exact ⟨rfl, hC, Below.refl _ _, eD_none rfl⟩ | exact ⟨rfl, Below.refl _ _, eD_none rfl⟩ | exact ⟨hC, Below.refl _ _, eD_none rfl⟩
  have e' : vs 15 = _ := e
  rw [e']
  clear e e'
  simp only [Act.put, List.setIfInBounds_toArray, List.set_cons_succ, List.set_cons_zero]
  refine ⟨.inl ⟨rfl, fun dd w' hd hC hDs => ?_⟩, fun e => ?_⟩
  · exact gE_ldA tS rfl ((b1.out.below hC b1.out.lt).head) ⟨rfl, hC, Below.refl _ _, eD_none rfl⟩
  have e' : vs 16 = _ := e
  rw [e']
  clear e e'
  simp only [Act.put, List.setIfInBounds_toArray, List.set_cons_succ, List.set_cons_zero]
  refine ⟨.inl ⟨rfl, fun dd w' hd hC hDs => ?_⟩, fun e => ?_⟩
  · go_simp
    refine ((DTN.out w')).mono ?_
    rintro e w2 ⟨rfl, h2⟩
    exact ⟨_, rfl, rfl, hC.trans (h2.mono hC.size), h2, eD_none rfl⟩
  have e' : vs 17 = _ := e
  rw [e']
  clear e e'
  simp only [Act.put, List.setIfInBounds_toArray, List.set_cons_succ, List.set_cons_zero]
  refine ⟨.inl ⟨rfl, fun dd w' hd hC hDs => ?_⟩, fun e => ?_⟩
  · exact gE_eqU uT eqgT rfl rfl ⟨by rw [eqA_self]; rfl, hC, Below.refl _ _, eD_none rfl⟩
  have e' : vs 18 = _ := e
  rw [e']
  clear e e'
  simp only [Act.put, List.setIfInBounds_toArray, List.set_cons_succ, List.set_cons_zero]
  refine ⟨.inl ⟨rfl, fun dd w' hd hC hDs => ?_⟩, fun e => ?_⟩
  · go_simp
    first | exact ⟨rfl, hC, Below.refl _ _, eD_none rfl⟩ | exact ⟨rfl, Below.refl _ _, eD_none rfl⟩ | exact ⟨hC, Below.refl _ _, eD_none rfl⟩
  have e' : vs 19 = _ := e
  rw [e']
  clear e e'
  simp only [Act.put, List.setIfInBounds_toArray, List.set_cons_succ, List.set_cons_zero]
  refine ⟨.inl ⟨rfl, fun dd w' hd hC hDs => ?_⟩, fun e => ?_⟩
  · go_simp
    first | exact ⟨rfl, hC, Below.refl _ _, eD_none rfl⟩ | exact ⟨rfl, Below.refl _ _, eD_none rfl⟩ | exact ⟨hC, Below.refl _ _, eD_none rfl⟩
  have e' : vs 20 = _ := e
  rw [e']
  clear e e'
  simp only [Act.put, List.setIfInBounds_toArray, List.set_cons_succ, List.set_cons_zero]
  refine ⟨.inl ⟨rfl, fun dd w' hd hC hDs => ?_⟩, fun e => ?_⟩
  · exact gE_ldA tT rfl ((b2.out.below hC b2.out.lt).head) ⟨rfl, hC, Below.refl _ _, eD_none rfl⟩
  have e' : vs 21 = _ := e
  rw [e']
  clear e e'
  simp only [Act.put, List.setIfInBounds_toArray, List.set_cons_succ, List.set_cons_zero]
  refine ⟨.inl ⟨rfl, fun dd w' hd hC hDs => ?_⟩, fun e => ?_⟩
  · exact gE_ldA tT rfl ((b4.out.below hC b4.out.lt).head) ⟨rfl, hC, Below.refl _ _, eD_none rfl⟩
  have e' : vs 22 = _ := e
  rw [e']
  clear e e'
  simp only [Act.put, List.setIfInBounds_toArray, List.set_cons_succ, List.set_cons_zero]
  refine ⟨.inl ⟨rfl, fun dd w' hd hC hDs => ?_⟩, fun e => ?_⟩
  · exact gE_eqU uT eqgT rfl rfl ⟨by rw [eqA_self]; rfl, hC, Below.refl _ _, eD_none rfl⟩
  have e' : vs 23 = _ := e
  rw [e']
  clear e e'
  simp only [Act.put, List.setIfInBounds_toArray, List.set_cons_succ, List.set_cons_zero]
  refine ⟨.inl ⟨rfl, fun dd w' hd hC hDs => ?_⟩, fun e => ?_⟩
  · go_simp
    first | exact ⟨rfl, hC, Below.refl _ _, eD_none rfl⟩ | exact ⟨rfl, Below.refl _ _, eD_none rfl⟩ | exact ⟨hC, Below.refl _ _, eD_none rfl⟩
  have e' : vs 24 = _ := e
  rw [e']
  clear e e'
  simp only [Act.put, List.setIfInBounds_toArray, List.set_cons_succ, List.set_cons_zero]
  refine ⟨.inl ⟨rfl, fun dd w' hd hC hDs => ?_⟩, fun e => ?_⟩
  · go_simp
    first | exact ⟨rfl, hC, Below.refl _ _, eD_none rfl⟩ | exact ⟨rfl, Below.refl _ _, eD_none rfl⟩ | exact ⟨hC, Below.refl _ _, eD_none rfl⟩
  have e' : vs 25 = _ := e
  rw [e']
  clear e e'
  simp only [Act.put, List.setIfInBounds_toArray, List.set_cons_succ, List.set_cons_zero]
  refine ⟨.inl ⟨rfl, fun dd w' hd hC hDs => ?_⟩, fun e => ?_⟩
  · exact gE_ldA tT rfl ((b3.out.below hC b3.out.lt).head) ⟨rfl, hC, Below.refl _ _, eD_none rfl⟩
  have e' : vs 26 = _ := e
  rw [e']
  clear e e'
  simp only [Act.put, List.setIfInBounds_toArray, List.set_cons_succ, List.set_cons_zero]
  refine ⟨.inl ⟨rfl, fun dd w' hd hC hDs => ?_⟩, fun e => ?_⟩
  · exact gE_ldA tT rfl ((b5.out.below hC b5.out.lt).head) ⟨rfl, hC, Below.refl _ _, eD_none rfl⟩
  have e' : vs 27 = _ := e
  rw [e']
  clear e e'
  simp only [Act.put, List.setIfInBounds_toArray, List.set_cons_succ, List.set_cons_zero]
  refine ⟨.inl ⟨rfl, fun dd w' hd hC hDs => ?_⟩, fun e => ?_⟩
  · exact gE_eqU uT eqgT rfl rfl ⟨by rw [eqA_self]; rfl, hC, Below.refl _ _, eD_none rfl⟩
  have e' : vs 28 = _ := e
  rw [e']
  clear e e'
  simp only [Act.put, List.setIfInBounds_toArray, List.set_cons_succ, List.set_cons_zero]
  refine ⟨.inl ⟨rfl, fun dd w' hd hC hDs => ?_⟩, fun e => ?_⟩
  · go_simp
    first | exact ⟨rfl, hC, Below.refl _ _, eD_none rfl⟩ | exact ⟨rfl, Below.refl _ _, eD_none rfl⟩ | exact ⟨hC, Below.refl _ _, eD_none rfl⟩
  have e' : vs 29 = _ := e
  rw [e']
  clear e e'
  simp only [Act.put, List.setIfInBounds_toArray, List.set_cons_succ, List.set_cons_zero]
  refine ⟨.inl ⟨rfl, fun dd w' hd hC hDs => ?_⟩, fun e => ?_⟩
  · go_simp
    first | exact ⟨rfl, hC, Below.refl _ _, eD_none rfl⟩ | exact ⟨rfl, Below.refl _ _, eD_none rfl⟩ | exact ⟨hC, Below.refl _ _, eD_none rfl⟩
  have e' : vs 30 = _ := e
  rw [e']
  clear e e'
  simp only [Act.put, List.setIfInBounds_toArray, List.set_cons_succ, List.set_cons_zero]
  refine ⟨.inl ⟨rfl, fun dd w' hd hC hDs => ?_⟩, fun e => ?_⟩
  · exact gE_ldA tT rfl ((b3.out.below hC b3.out.lt).head) ⟨rfl, hC, Below.refl _ _, eD_none rfl⟩
  have e' : vs 31 = _ := e
  rw [e']
  clear e e'
  simp only [Act.put, List.setIfInBounds_toArray, List.set_cons_succ, List.set_cons_zero]
  refine ⟨.inl ⟨rfl, fun dd w' hd hC hDs => ?_⟩, fun e => ?_⟩
  · exact gE_ldA tT rfl ((b2.out.below hC b2.out.lt).head) ⟨rfl, hC, Below.refl _ _, eD_none rfl⟩
  have e' : vs 32 = _ := e
  rw [e']
  clear e e'
  simp only [Act.put, List.setIfInBounds_toArray, List.set_cons_succ, List.set_cons_zero]
  refine ⟨.inl ⟨rfl, fun dd w' hd hC hDs => ?_⟩, fun e => ?_⟩
  · go_simp
    refine ((HJ.out (fun j => s (32 + j)) s w')).mono ?_
    rintro e w2 ⟨rfl, h2⟩
    exact ⟨_, rfl, rfl, hC.trans (h2.mono hC.size), h2, eD_none rfl⟩
  have e' : vs 33 = _ := e
  rw [e']
  clear e e'
  simp only [Act.put, List.setIfInBounds_toArray, List.set_cons_succ, List.set_cons_zero]
  refine ⟨.inl ⟨rfl, fun dd w' hd hC hDs => ?_⟩, fun e => ?_⟩
  · exact gE_ldA tT rfl ((b3.out.below hC b3.out.lt).head) ⟨rfl, hC, Below.refl _ _, eD_none rfl⟩
  have e' : vs 34 = _ := e
  rw [e']
  clear e e'
  simp only [Act.put, List.setIfInBounds_toArray, List.set_cons_succ, List.set_cons_zero]
  refine ⟨.inl ⟨rfl, fun dd w' hd hC hDs => ?_⟩, fun e => ?_⟩
  · exact gE_ldA tT rfl ((b2.out.below hC b2.out.lt).head) ⟨rfl, hC, Below.refl _ _, eD_none rfl⟩
  have e' : vs 35 = _ := e
  rw [e']
  clear e e'
  simp only [Act.put, List.setIfInBounds_toArray, List.set_cons_succ, List.set_cons_zero]
  refine ⟨.inl ⟨rfl, fun dd w' hd hC hDs => ?_⟩, fun e => ?_⟩
  · go_simp
    refine ((rjoin_any (fun j => s (32 + j)) s w')).mono ?_
    rintro e w2 ⟨rfl, h2⟩
    exact ⟨_, rfl, rfl, hC.trans (h2.mono hC.size), h2, eD_none rfl⟩
  have e' : vs 36 = _ := e
  rw [e']
  clear e e'
  simp only [Act.put, List.setIfInBounds_toArray, List.set_cons_succ, List.set_cons_zero]
  refine ⟨.inl ⟨rfl, fun dd w' hd hC hDs => ?_⟩, fun e => ?_⟩
  · exact gE_eqU uS eqgS rfl rfl ⟨by rw [eqA_self]; rfl, hC, Below.refl _ _, eD_none rfl⟩
  have e' : vs 37 = _ := e
  rw [e']
  clear e e'
  simp only [Act.put, List.setIfInBounds_toArray, List.set_cons_succ, List.set_cons_zero]
  refine ⟨.inl ⟨rfl, fun dd w' hd hC hDs => ?_⟩, fun e => ?_⟩
  · go_simp
    first | exact ⟨rfl, hC, Below.refl _ _, eD_none rfl⟩ | exact ⟨rfl, Below.refl _ _, eD_none rfl⟩ | exact ⟨hC, Below.refl _ _, eD_none rfl⟩
  have e' : vs 38 = _ := e
  rw [e']
  clear e e'
  simp only [Act.put, List.setIfInBounds_toArray, List.set_cons_succ, List.set_cons_zero]
  refine ⟨.inl ⟨rfl, fun dd w' hd hC hDs => ?_⟩, fun e => ?_⟩
  · go_simp
    first | exact ⟨rfl, hC, Below.refl _ _, eD_none rfl⟩ | exact ⟨rfl, Below.refl _ _, eD_none rfl⟩ | exact ⟨hC, Below.refl _ _, eD_none rfl⟩
  have e' : vs 39 = _ := e
  rw [e']
  clear e e'
  simp only [Act.put, List.setIfInBounds_toArray, List.set_cons_succ, List.set_cons_zero]
  refine ⟨.inl ⟨rfl, fun dd w' hd hC hDs => ?_⟩, fun e => ?_⟩
  · go_simp
    refine ((AW.out w')).mono ?_
    rintro e w2 ⟨rfl, h2⟩
    exact ⟨_, rfl, rfl, hC.trans (h2.mono hC.size), h2, eD_none rfl⟩
  have e' : vs 40 = _ := e
  rw [e']
  clear e e'
  simp only [Act.put, List.setIfInBounds_toArray, List.set_cons_succ, List.set_cons_zero]
  refine ⟨.inl ⟨rfl, fun dd w' hd hC hDs => ?_⟩, fun e => ?_⟩
  · go_simp
    first | exact ⟨rfl, hC, Below.refl _ _, eD_none rfl⟩ | exact ⟨rfl, Below.refl _ _, eD_none rfl⟩ | exact ⟨hC, Below.refl _ _, eD_none rfl⟩
  have e' : vs 41 = _ := e
  rw [e']
  clear e e'
  simp only [Act.put, List.setIfInBounds_toArray, List.set_cons_succ, List.set_cons_zero]
  intro dd w7 hall hC7 hDs
  have db := hid (bb.out.trans (hC7.mono bb.out.size))
  clear hall hC7 hDs b0 b1 b2 b3 b4 b5 bb SA6
  go_wp2_with fail
  go_ret
  exact ⟨rfl, db.out⟩
end TgP
end Go.Proofs.YtmbhibilmedjmaaDoor
set_option maxRecDepth 100000
namespace Go.Proofs.YtmbhibilmedjmaaDoor
open Go.ChangeShapes Go.WideShapes Go.ChangeAt Go.RowKit
/-- A text's bytes. -/
def nats (s : ByteArray) : List Nat := s.data.toList.map (·.toNat)
theorem nats_length (s : ByteArray) : (nats s).length = s.size := by simp [nats]
theorem nats_256 (s : ByteArray) : B256 (nats s) := fun x hx => by
  obtain ⟨b, _, rfl⟩ := List.mem_map.1 hx
  exact UInt8.toNat_lt _
theorem nats_inj {s t : ByteArray} (h : nats s = nats t) : s = t := by
  unfold nats at h
  have h2 : s.data.toList = t.data.toList := List.map_inj_right (fun a b e => UInt8.toNat_inj.1 e) |>.1 h
  cases s; cases t
  simp only [ByteArray.mk.injEq]
  exact Array.ext' h2
theorem str_nats (s : ByteArray) : str (nats s) = s := by
  cases s with
  | mk d =>
    unfold str u8s nats
    rw [List.map_map]
    have : (UInt8.ofNat ∘ fun x => x.toNat) = (id : UInt8 → UInt8) := funext fun x => by simp
    rw [this, List.map_id]
theorem nats_str {l : List Nat} (h : B256 l) : nats (str l) = l := by
  unfold nats str u8s
  rw [show (List.map UInt8.ofNat l).toArray.toList = List.map UInt8.ofNat l from rfl, List.map_map]
  conv => rhs; rw [← List.map_id l]
  exact List.map_congr_left fun x hx => by
    have := h x hx
    simp; omega
theorem run_idxs (s : ByteArray) {j : Nat} (hj : j < s.size) (w : World) : (Instr.index 9 (.string s) (.int .i64 j)).run Tryd.prog w = .ok (.int .u8 ((nats s).getD j 0 : Nat)) w := by
  have h1 : (0 : Int) ≤ (j : Int) := by omega
  have h2 : j < s.data.toList.length := by simpa using hj
  simp [Instr.index, run_underlying Tryd.underlying9, asIntOf, go_sem, nats, hj, List.getD_eq_getElem?_getD]
  rfl
theorem strCells_nums (s : ByteArray) : Lib.strCells s = nums .u8 (nats s) := by
  unfold Lib.strCells nums nats
  rw [List.map_map]
  rfl
section
variable {ops : Array Oper} {Q : Exit → Act → World → Prop} {a : Act} {w : World} {rest : List Oper} {dst : Option Tmp} {ty : TypeId} {pos : String} {after : Array Edge} {s x : Operand} {B g n cap i : Nat} {v : Value} {l : List Nat} {t : ByteArray}
theorem wappS (hs : a.eval s = v) (hx : a.eval x = .string t) (hown : Own 5 .u8 w B v l) (hsz : l.length + t.size ≤ 1000000) (hB : B ≤ w.heap.size)
    (h : ∀ v' w', Own 5 .u8 w' B v' (l ++ nats t) → w.grownBy w' v.ownBlock → wpList Tryd.prog ops Q rest (a.put dst v') w') :
    wpList Tryd.prog ops Q (⟨dst, .call { callee := .builtin .append, args := #[s, x], argTypes := #[26, 9] }, ty, pos, after, none⟩ :: rest) a w := by
  obtain ⟨i, hi, hz, h1, h2⟩ := eltB.inf
  have hb : i.bytes = 1 := by
    have : (Tryd.prog.info? 5).map (·.bytes) = some 1 := by kernel_rfl
    rw [hi] at this
    simpa using this
  obtain ⟨v', w', hr, ho, hg, _⟩ := Lib.run_append_own_string (P := Tryd.prog) w B 26 9 ty 5 i eltB.und Tryd.underlying9 hi hz h1 hb v l.length _ hown t (by unfold maxLen; omega) (by omega) hB
  refine wpList_plain rfl fun K hK => ?_
  unfold Oper.wp execOp
  simp only [resolve, invoke, builtin, Sem.run_bind, Sem.run_pure, Result.andThen_ok, List.map_toArray, List.map_cons, List.map_nil, hs, hx, hr]
  refine hK _ _ (h v' w' ?_ hg)
  unfold Own
  rw [List.length_append, nats_length, nums_append, ← strCells_nums]
  exact ho
end
/-- A literal of one byte is the call's own. -/
theorem Own.lit1 {w : World} {B x : Nat} (hB : B ≤ w.heap.size) : Own 5 .u8 (w.alloc (.cells #[.int .u8 (x : Nat)] 5)) B (.slice (some ⟨w.heap.size, 0, none⟩) 1 1) [x] :=
  ⟨rfl, .inr ⟨w.heap.size, 1, _, rfl, hB, heap_alloc_new w _, Nat.le_refl _, by unfold maxLen; omega, rfl, rfl⟩⟩
/-- Where it lies, and what is in its cells. -/
theorem Own.at {w : World} {B : Nat} {v : Value} {l : List Nat} (h : Own 5 .u8 w B v l) (hl : 0 < l.length) : ∃ g cap, v = .slice (some ⟨g, 0, none⟩) l.length cap ∧ B ≤ g ∧ g < w.heap.size ∧ l.length ≤ cap ∧ cap ≤ maxLen ∧ ∀ i, i < l.length → w.cell? ⟨g, i, none⟩ = some (.int .u8 (l.getD i 0 : Nat)) ∧ w.frozen? ⟨g, i, none⟩ = false := by
  rcases h.2 with ⟨rfl, h0⟩ | ⟨g, cap, cur, rfl, hB, hg, hnc, hcm, hcs, ht⟩
  · omega
  · have hb : Blk w g 5 cur := hg
    refine ⟨g, cap, rfl, hB, hb.lt, hnc, hcm, fun i hi => ⟨?_, hb.frozen i⟩⟩
    rw [hb.cell]
    have h1 := nums_get .u8 hi
    rw [← ht, List.getElem?_take_of_lt (by omega), Array.getElem?_toList] at h1
    exact h1
theorem Own.put {w : World} {B g n cap i x : Nat} {l : List Nat} (h : Own 5 .u8 w B (.slice (some ⟨g, 0, none⟩) n cap) l) (_hi : i < l.length) :
    Own 5 .u8 (w.setCell ⟨g, i, none⟩ (.int .u8 (x : Nat))) B (.slice (some ⟨g, 0, none⟩) n cap) (l.set i x) := by
  rcases h.2 with ⟨e, h0⟩ | ⟨g2, cap2, cur, e, hB, hg, hnc, hcm, hcs, ht⟩
  · cases e
  · have e2 := e
    simp only [Value.slice.injEq, Option.some.injEq, Addr.mk.injEq, and_true] at e2
    obtain ⟨rfl, rfl, rfl⟩ := e2
    have hb : Blk w g 5 cur := hg
    refine ⟨?_, .inr ⟨g, cap, cur.setIfInBounds i (.int .u8 (x : Nat)), by rw [List.length_set], hB, hb.setCell_same i _, by rw [List.length_set]; exact hnc, hcm, by rw [Array.size_setIfInBounds]; exact hcs, ?_⟩⟩
    · simp [nums]
    · rw [Array.toList_setIfInBounds, List.length_set, List.take_set, ht]
      unfold nums
      rw [List.map_set]
theorem Own.other {e : TypeId} {k : IntKind} {w : World} {B g g' n cap : Nat} {l : List Nat} {cs : Array Value} (h : Own e k w B (.slice (some ⟨g, 0, none⟩) n cap) l) (hne : g' ≠ g) : Own e k (w.setRow g' cs) B (.slice (some ⟨g, 0, none⟩) n cap) l := by
  rcases h.2 with ⟨e', _⟩ | ⟨g2, cap2, cur, e', hB, hg, hr⟩
  · cases e'
  · have e2 := e'
    simp only [Value.slice.injEq, Option.some.injEq, Addr.mk.injEq, and_true] at e2
    obtain ⟨rfl, _, _⟩ := e2
    exact ⟨h.1, .inr ⟨_, cap2, cur, e', hB, Blk.setRow_other (t := e) (cs := cur) hg hne _, hr⟩⟩
theorem Own.otherCell {e : TypeId} {k : IntKind} {w : World} {B g' i : Nat} {v u : Value} {l : List Nat} (h : Own e k w B v l) (hne : g' < B) : Own e k (w.setCell ⟨g', i, none⟩ u) B v l := by
  rcases h.2 with h' | ⟨g2, cap2, cur, e', hB, hg, hr⟩
  · exact ⟨h.1, .inl h'⟩
  · exact ⟨h.1, .inr ⟨g2, cap2, cur, e', hB, Blk.setCell_other (t := e) (cs := cur) hg (by show g' ≠ g2; omega) _, hr⟩⟩
theorem Own.putBelow {w w0 : World} {B g i : Nat} {u : Value} (hb : Below B w0 w) (hg : B ≤ g) : Below B w0 (w.setCell ⟨g, i, none⟩ u) := hb.setCell (p := ⟨g, i, none⟩) hg u
end Go.Proofs.YtmbhibilmedjmaaDoor
set_option maxRecDepth 100000
namespace Go.Proofs.YtmbhibilmedjmaaDoor
open Go.ChangeShapes Go.WideShapes Go.ChangeAt Go.RowKit
attribute [local go_sem] Gives GivesE
namespace TgP
theorem Own.otherC {e : TypeId} {k : IntKind} {w : World} {B g g' n cap i : Nat} {u : Value} {l : List Nat} (h : Own e k w B (.slice (some ⟨g, 0, none⟩) n cap) l) (hne : g' ≠ g) : Own e k (w.setCell ⟨g', i, none⟩ u) B (.slice (some ⟨g, 0, none⟩) n cap) l := by
  rcases h.2 with ⟨e', _⟩ | ⟨g2, cap2, cur, e', hB, hg, hr⟩
  · cases e'
  · have e2 := e'
    simp only [Value.slice.injEq, Option.some.injEq, Addr.mk.injEq, and_true] at e2
    obtain ⟨rfl, _, _⟩ := e2
    exact ⟨h.1, .inr ⟨_, cap2, cur, e', hB, Blk.setCell_other (t := e) (cs := cur) hg hne _, hr⟩⟩
theorem Own.byte {w : World} {B g n cap i : Nat} {l : List Nat} (h : Own 5 .u8 w B (.slice (some ⟨g, 0, none⟩) n cap) l) (hi : i < l.length) : w.cell? ⟨g, i, none⟩ = some (.int .u8 (l.getD i 0 : Nat)) ∧ w.frozen? ⟨g, i, none⟩ = false := by
  obtain ⟨g', cap', e, _, _, _, _, hc⟩ := h.at (by omega)
  simp only [Value.slice.injEq, Option.some.injEq, Addr.mk.injEq, and_true] at e
  obtain ⟨rfl, _, _⟩ := e
  exact hc i hi
set_option maxHeartbeats 1600000 in
set_option maxRecDepth 100000 in
theorem texts_law (H : LeafC) (R : RestC) (T : TagC) (k : Nat → Nat) (hk : ∀ i, k i < 256) (A : Option Addr) (l : List Nat) (n cap : Nat) (w : World) (hA : Arg w A l n cap) (hS : Salts w) :
    Calls Tryd.prog 4 #[.agg (ar 32 k), .slice A n cap] w fun e w' => e = .returned (.bool true) ∧ Below w.heap.size w w' := by
  have AW := hid fun w => awake_any H w
  have HR := hid H.rootText
  have HH := hid R.headText
  have HB := hid R.bodyText
  have TR := hid (fun A n cap hn w h hS => T.label k hk A l n cap hn w h hS)
  have TH := hid (fun A n cap hn w h hS => T.head k hk A l n cap hn w h hS)
  have TB := hid (fun A n cap hn w h hS => T.body k hk A l n cap hn w h hS)
  have TO := hid (fun A n cap hn w h hS => T.of k hk A l n cap hn w h hS)
  have DR := hid (fun A n cap hn w h => rlabel_any k hk A l n cap hn w h)
  have DH := hid (fun A n cap hn w h => rhead_any k hk A l n cap hn w h)
  have DB := hid (fun A n cap hn w h => rbody_any k hk A l n cap hn w h)
  have DO := hid (fun A n cap hn w h => rtag_any k hk A l n cap hn w h)
  rw [show BytM.rowB 82 [l] = plainT 82 l from rfl] at DR
  rw [show BytM.rowB 72 [l] = plainT 72 l from rfl] at DH
  rw [show BytM.rowB 66 [l] = plainT 66 l from rfl] at DB
  unfold tagN at TR TH TB TO
  obtain ⟨F1, hF1⟩ : ∃ F, F = HmM.tag (HmM.dl k) (plainT 82 l) := ⟨_, rfl⟩
  obtain ⟨F2, hF2⟩ : ∃ F, F = HmM.tag (HmM.dl k) (plainT 72 l) := ⟨_, rfl⟩
  obtain ⟨F3, hF3⟩ : ∃ F, F = HmM.tag (HmM.dl k) (plainT 66 l) := ⟨_, rfl⟩
  obtain ⟨F4, hF4⟩ : ∃ F, F = HmM.tag (HmM.dl k) l := ⟨_, rfl⟩
  rw [← hF1] at TR DR
  rw [← hF2] at TH DH
  rw [← hF3] at TB DB
  rw [← hF4] at TO DO
  clear hF1 hF2 hF3 hF4
  have SA := hid hS
  have HA := hid hA
  have L6 := hid hA.b256
  have LN := hid hA.len
  clear H R T hk hA hS
  go_enter Tryd.func4, Tryd.ntmps4
  go_upto_region 1 with fail
  generalize hw1 : World.alloc w _ = w1
  have z0 := hid (show Blk w1 w.heap.size 23 (ar 32 k) by rw [← hw1]; exact Blk.new _ _ _)
  have hb := hid (show Below w.heap.size w w1 by rw [← hw1]; exact (Below.refl _ _).alloc (Nat.le_refl _) _)
  have A1 := hid (HA.out.on hb.out)
  clear hw1 HA
  by_cases hbig : 10000 < n
  · have t1 : decide ((10000 : Int) < (n : Int)) = true := decide_eq_true (by omega)
    have t2 : decide (10000 < n) = true := decide_eq_true hbig
    clear hbig
    go_wp2_with fail
    refine (AW.out w1).mono ?_
    rintro e w2 ⟨rfl, h2⟩
    have b2 := hid (hb.out.trans (h2.mono hb.out.size))
    clear h2
    go_wp2_with fail
    go_ret
    exact ⟨rfl, b2.out⟩
  have t1 : decide ((10000 : Int) < (n : Int)) = false := decide_eq_false (by omega)
  have t2 : decide (10000 < n) = false := decide_eq_false hbig
  have HN := hid (show n ≤ 10000 by omega)
  clear hbig
  go_upto_region 3 with fail
  clear t1 t2
  have OL := hid (litN (w := w1) (B := w1.heap.size) (n := 0) (l := []) (cs := #[]) (Nat.le_refl _) rfl (by show 0 ≤ maxLen; unfold maxLen; omega) rfl)
  have BL := hid ((Below.refl w1.heap.size w1).alloc (Nat.le_refl _) (.cells #[] 5))
  have A2 := hid (A1.out.on BL.out)
  go_upto_region 4 with (at_builtin; (with_reducible apply wappN_any eltB); rfl; rfl; exact A2.out.none; exact OL.out; exact A2.out.byt.nums; exact A2.out.len; (show 0 + _ ≤ _; have := HN.out; omega); exact BL.out.size; intro vo w2 o2 g2)
  rw [List.nil_append] at o2
  have b12 := below_grown BL.out g2 OL.out (Nat.le_refl _) (Nat.le_refl _)
  have y0 := hid (z0.out.below b12 z0.out.lt)
  have yb := hid (hb.out.trans (b12.mono hb.out.size))
  have yA := hid (A1.out.on b12)
  obtain ⟨Ao, co, rfl, ao⟩ := o2.arg L6.out
  rw [LN.out] at ao ⊢
  have yo := hid ao
  clear o2 g2 b12 ao OL BL A2 z0 hb A1
  go_wp2_with fail
  refine (HR.out Ao l n co HN.out w2 yo.out).mono ?_
  rintro e w3 ⟨v3, rfl, o3, h3⟩
  obtain ⟨gr, cr, rfl, hg3, hl3, _, _, _⟩ := o3.at (by rw [plainT_length]; omega)
  rw [plainT_length, LN.out] at o3 ⊢
  have x3 := hid o3
  have xo := hid (yo.out.on h3)
  have xb := hid h3
  clear o3 h3 HR
  go_wp2_with fail
  refine (HH.out Ao l n co HN.out w3 xo.out).mono ?_
  rintro e w4 ⟨v4, rfl, o4, h4⟩
  obtain ⟨gh, ch, rfl, hg4, hl4, _, _, _⟩ := o4.at (by rw [plainT_length]; omega)
  rw [plainT_length, LN.out] at o4 ⊢
  have u3 := hid (x3.out.below h4)
  have u4 := hid o4
  have uo := hid (xo.out.on h4)
  have ub := hid (xb.out.trans (h4.mono xb.out.size))
  clear o4 h4 HH x3 xo xb
  go_wp2_with fail
  refine (HB.out Ao l n co HN.out w4 uo.out).mono ?_
  rintro e w5 ⟨v5, rfl, o5, h5⟩
  obtain ⟨gb, cb, rfl, hg5, hl5, _, _, _⟩ := o5.at (by rw [plainT_length]; omega)
  rw [plainT_length, LN.out] at o5 ⊢
  have s3 := hid (u3.out.below h5)
  have s4 := hid (u4.out.below h5)
  have s5 := hid o5
  have sb := hid (ub.out.trans (h5.mono ub.out.size))
  clear o5 h5 HB u3 u4 uo ub
  go_upto_region 5 with fail
  have sA := hid (yA.out.on sb.out)
  have R6 := hid (plainT_256 (d := 82) (by omega) L6.out)
  have H6 := hid (plainT_256 (d := 72) (by omega) L6.out)
  have B6 := hid (plainT_256 (d := 66) (by omega) L6.out)
  have RL := hid (plainT_length (d := 82) (l := l))
  have HLn := hid (plainT_length (d := 72) (l := l))
  have BLn := hid (plainT_length (d := 66) (l := l))
  have PR := hid (fun w => rplain_any 82 A l n cap HN.out w)
  have PH := hid (fun w => rplain_any 72 A l n cap HN.out w)
  have PB := hid (fun w => rplain_any 66 A l n cap HN.out w)
  rw [LN.out] at RL HLn BLn
  rw [show BytM.rowB 82 [l] = plainT 82 l from rfl] at PR
  rw [show BytM.rowB 72 [l] = plainT 72 l from rfl] at PH
  rw [show BytM.rowB 66 [l] = plainT 66 l from rfl] at PB
  obtain ⟨X1, hX1⟩ : ∃ X, X = plainT 82 l := ⟨_, rfl⟩
  obtain ⟨X2, hX2⟩ : ∃ X, X = plainT 72 l := ⟨_, rfl⟩
  obtain ⟨X3, hX3⟩ : ∃ X, X = plainT 66 l := ⟨_, rfl⟩
  rw [← hX1] at PR R6 RL s3
  rw [← hX2] at PH H6 HLn s4
  rw [← hX3] at PB B6 BLn s5
  clear hX1 hX2 hX3
  obtain ⟨N, hN⟩ : ∃ N, N = 6 + n := ⟨_, rfl⟩
  rw [← hN] at RL HLn BLn s3 s4 s5 ⊢
  have hN2 : N ≤ 10006 := by have := HN.out; omega
  clear hN
  have a3 := hid (toArg s3.out R6.out)
  have a4 := hid (toArg s4.out H6.out)
  have a5 := hid (toArg s5.out B6.out)

  refine wp_region_eS [some (.slice (some ⟨gr, 0, none⟩) N cr), some (.string (str X1)), some (.slice A n cap), none, some (.string (str X1)), some (.bool false), some (.bool false), some (.slice (some ⟨gh, 0, none⟩) N ch), some (.string (str X2)), some (.slice A n cap), none, some (.string (str X2)), some (.bool false), some (.bool false), some (.bool false), some (.slice (some ⟨gb, 0, none⟩) N cb), some (.string (str X3)), some (.slice A n cap), none, some (.string (str X3)), some (.bool false), some (.bool false)] [(3, X1), (10, X2), (18, X3)] 22 (by kernel_rfl) (by kernel_rfl) (by kernel_rfl) fun vs => ?_
  simp only [List.take_succ_cons, List.take_zero, List.drop_succ_cons, List.drop_zero]
  refine ⟨.inl ⟨rfl, fun dd w' hd hC hDs => ?_⟩, fun e => ?_⟩
  · go_simp
    first | exact ⟨rfl, hC, Below.refl _ _, eD_none rfl⟩ | exact ⟨rfl, Below.refl _ _, eD_none rfl⟩ | exact ⟨hC, Below.refl _ _, eD_none rfl⟩
  have e' : vs 0 = _ := e
  rw [e']
  clear e e'
  simp only [Act.put, List.setIfInBounds_toArray, List.set_cons_succ, List.set_cons_zero]
  refine ⟨.inl ⟨rfl, fun dd w' hd hC hDs => ?_⟩, fun e => ?_⟩
  · have h1 := (a3.out.on hC).str
    go_simp
    first | exact ⟨rfl, hC, Below.refl _ _, eD_none rfl⟩ | exact ⟨rfl, Below.refl _ _, eD_none rfl⟩ | exact ⟨hC, Below.refl _ _, eD_none rfl⟩
  have e' : vs 1 = _ := e
  rw [e']
  clear e e'
  simp only [Act.put, List.setIfInBounds_toArray, List.set_cons_succ, List.set_cons_zero]
  refine ⟨.inl ⟨rfl, fun dd w' hd hC hDs => ?_⟩, fun e => ?_⟩
  · go_simp
    first | exact ⟨rfl, hC, Below.refl _ _, eD_none rfl⟩ | exact ⟨rfl, Below.refl _ _, eD_none rfl⟩ | exact ⟨hC, Below.refl _ _, eD_none rfl⟩
  have e' : vs 2 = _ := e
  rw [e']
  clear e e'
  simp only [Act.put, List.setIfInBounds_toArray, List.set_cons_succ, List.set_cons_zero]
  refine ⟨.inl ⟨rfl, fun dd w' hd hC hDs => ?_⟩, fun e => ?_⟩
  · go_simp
    refine ((PR.out w' (sA.out.on hC))).mono ?_
    rintro e w2 ⟨v, rfl, o2, h2⟩
    have hbs : B256 _ := R6.out
    exact ⟨_, rfl, own_sl o2 hbs, hC.trans (h2.mono hC.size), h2, own_eD rfl o2 hbs⟩
  obtain ⟨A3, c3, e'⟩ : ∃ (A : Option Addr) (c : Nat), vs 3 = .slice A _ c := e
  rw [e']
  have E3 := hid e'
  clear e'
  simp only [Act.put, List.setIfInBounds_toArray, List.set_cons_succ, List.set_cons_zero]
  refine ⟨.inl ⟨rfl, fun dd w' hd hC hDs => ?_⟩, fun e => ?_⟩
  · obtain ⟨B7, k7, f7, a7⟩ := hDs 3 (by kernel_rfl) X1 rfl
    rw [E3.out] at f7
    cases f7
    have h1 := a7.str
    go_simp
    first | exact ⟨rfl, hC, Below.refl _ _, eD_none rfl⟩ | exact ⟨rfl, Below.refl _ _, eD_none rfl⟩ | exact ⟨hC, Below.refl _ _, eD_none rfl⟩
  have e' : vs 4 = _ := e
  rw [e']
  clear e e'
  simp only [Act.put, List.setIfInBounds_toArray, List.set_cons_succ, List.set_cons_zero]
  refine ⟨.inl ⟨rfl, fun dd w' hd hC hDs => ?_⟩, fun e => ?_⟩
  · go_simp
    first | exact ⟨rfl, hC, Below.refl _ _, eD_none rfl⟩ | exact ⟨rfl, Below.refl _ _, eD_none rfl⟩ | exact ⟨hC, Below.refl _ _, eD_none rfl⟩
  have e' : vs 5 = _ := e
  rw [e']
  clear e e'
  simp only [Act.put, List.setIfInBounds_toArray, List.set_cons_succ, List.set_cons_zero]
  refine ⟨.inl ⟨rfl, fun dd w' hd hC hDs => ?_⟩, fun e => ?_⟩
  · go_simp
    first | exact ⟨rfl, hC, Below.refl _ _, eD_none rfl⟩ | exact ⟨rfl, Below.refl _ _, eD_none rfl⟩ | exact ⟨hC, Below.refl _ _, eD_none rfl⟩
  have e' : vs 6 = _ := e
  rw [e']
  clear e e'
  simp only [Act.put, List.setIfInBounds_toArray, List.set_cons_succ, List.set_cons_zero]
  refine ⟨.inl ⟨rfl, fun dd w' hd hC hDs => ?_⟩, fun e => ?_⟩
  · go_simp
    first | exact ⟨rfl, hC, Below.refl _ _, eD_none rfl⟩ | exact ⟨rfl, Below.refl _ _, eD_none rfl⟩ | exact ⟨hC, Below.refl _ _, eD_none rfl⟩
  have e' : vs 7 = _ := e
  rw [e']
  clear e e'
  simp only [Act.put, List.setIfInBounds_toArray, List.set_cons_succ, List.set_cons_zero]
  refine ⟨.inl ⟨rfl, fun dd w' hd hC hDs => ?_⟩, fun e => ?_⟩
  · have h1 := (a4.out.on hC).str
    go_simp
    first | exact ⟨rfl, hC, Below.refl _ _, eD_none rfl⟩ | exact ⟨rfl, Below.refl _ _, eD_none rfl⟩ | exact ⟨hC, Below.refl _ _, eD_none rfl⟩
  have e' : vs 8 = _ := e
  rw [e']
  clear e e'
  simp only [Act.put, List.setIfInBounds_toArray, List.set_cons_succ, List.set_cons_zero]
  refine ⟨.inl ⟨rfl, fun dd w' hd hC hDs => ?_⟩, fun e => ?_⟩
  · go_simp
    first | exact ⟨rfl, hC, Below.refl _ _, eD_none rfl⟩ | exact ⟨rfl, Below.refl _ _, eD_none rfl⟩ | exact ⟨hC, Below.refl _ _, eD_none rfl⟩
  have e' : vs 9 = _ := e
  rw [e']
  clear e e'
  simp only [Act.put, List.setIfInBounds_toArray, List.set_cons_succ, List.set_cons_zero]
  refine ⟨.inl ⟨rfl, fun dd w' hd hC hDs => ?_⟩, fun e => ?_⟩
  · go_simp
    refine ((PH.out w' (sA.out.on hC))).mono ?_
    rintro e w2 ⟨v, rfl, o2, h2⟩
    have hbs : B256 _ := H6.out
    exact ⟨_, rfl, own_sl o2 hbs, hC.trans (h2.mono hC.size), h2, own_eD rfl o2 hbs⟩
  obtain ⟨A10, c10, e'⟩ : ∃ (A : Option Addr) (c : Nat), vs 10 = .slice A _ c := e
  rw [e']
  have E10 := hid e'
  clear e'
  simp only [Act.put, List.setIfInBounds_toArray, List.set_cons_succ, List.set_cons_zero]
  refine ⟨.inl ⟨rfl, fun dd w' hd hC hDs => ?_⟩, fun e => ?_⟩
  · obtain ⟨B7, k7, f7, a7⟩ := hDs 10 (by kernel_rfl) X2 rfl
    rw [E10.out] at f7
    cases f7
    have h1 := a7.str
    go_simp
    first | exact ⟨rfl, hC, Below.refl _ _, eD_none rfl⟩ | exact ⟨rfl, Below.refl _ _, eD_none rfl⟩ | exact ⟨hC, Below.refl _ _, eD_none rfl⟩
  have e' : vs 11 = _ := e
  rw [e']
  clear e e'
  simp only [Act.put, List.setIfInBounds_toArray, List.set_cons_succ, List.set_cons_zero]
  refine ⟨.inl ⟨rfl, fun dd w' hd hC hDs => ?_⟩, fun e => ?_⟩
  · go_simp
    first | exact ⟨rfl, hC, Below.refl _ _, eD_none rfl⟩ | exact ⟨rfl, Below.refl _ _, eD_none rfl⟩ | exact ⟨hC, Below.refl _ _, eD_none rfl⟩
  have e' : vs 12 = _ := e
  rw [e']
  clear e e'
  simp only [Act.put, List.setIfInBounds_toArray, List.set_cons_succ, List.set_cons_zero]
  refine ⟨.inl ⟨rfl, fun dd w' hd hC hDs => ?_⟩, fun e => ?_⟩
  · go_simp
    first | exact ⟨rfl, hC, Below.refl _ _, eD_none rfl⟩ | exact ⟨rfl, Below.refl _ _, eD_none rfl⟩ | exact ⟨hC, Below.refl _ _, eD_none rfl⟩
  have e' : vs 13 = _ := e
  rw [e']
  clear e e'
  simp only [Act.put, List.setIfInBounds_toArray, List.set_cons_succ, List.set_cons_zero]
  refine ⟨.inl ⟨rfl, fun dd w' hd hC hDs => ?_⟩, fun e => ?_⟩
  · go_simp
    first | exact ⟨rfl, hC, Below.refl _ _, eD_none rfl⟩ | exact ⟨rfl, Below.refl _ _, eD_none rfl⟩ | exact ⟨hC, Below.refl _ _, eD_none rfl⟩
  have e' : vs 14 = _ := e
  rw [e']
  clear e e'
  simp only [Act.put, List.setIfInBounds_toArray, List.set_cons_succ, List.set_cons_zero]
  refine ⟨.inl ⟨rfl, fun dd w' hd hC hDs => ?_⟩, fun e => ?_⟩
  · go_simp
    first | exact ⟨rfl, hC, Below.refl _ _, eD_none rfl⟩ | exact ⟨rfl, Below.refl _ _, eD_none rfl⟩ | exact ⟨hC, Below.refl _ _, eD_none rfl⟩
  have e' : vs 15 = _ := e
  rw [e']
  clear e e'
  simp only [Act.put, List.setIfInBounds_toArray, List.set_cons_succ, List.set_cons_zero]
  refine ⟨.inl ⟨rfl, fun dd w' hd hC hDs => ?_⟩, fun e => ?_⟩
  · have h1 := (a5.out.on hC).str
    go_simp
    first | exact ⟨rfl, hC, Below.refl _ _, eD_none rfl⟩ | exact ⟨rfl, Below.refl _ _, eD_none rfl⟩ | exact ⟨hC, Below.refl _ _, eD_none rfl⟩
  have e' : vs 16 = _ := e
  rw [e']
  clear e e'
  simp only [Act.put, List.setIfInBounds_toArray, List.set_cons_succ, List.set_cons_zero]
  refine ⟨.inl ⟨rfl, fun dd w' hd hC hDs => ?_⟩, fun e => ?_⟩
  · go_simp
    first | exact ⟨rfl, hC, Below.refl _ _, eD_none rfl⟩ | exact ⟨rfl, Below.refl _ _, eD_none rfl⟩ | exact ⟨hC, Below.refl _ _, eD_none rfl⟩
  have e' : vs 17 = _ := e
  rw [e']
  clear e e'
  simp only [Act.put, List.setIfInBounds_toArray, List.set_cons_succ, List.set_cons_zero]
  refine ⟨.inl ⟨rfl, fun dd w' hd hC hDs => ?_⟩, fun e => ?_⟩
  · go_simp
    refine ((PB.out w' (sA.out.on hC))).mono ?_
    rintro e w2 ⟨v, rfl, o2, h2⟩
    have hbs : B256 _ := B6.out
    exact ⟨_, rfl, own_sl o2 hbs, hC.trans (h2.mono hC.size), h2, own_eD rfl o2 hbs⟩
  obtain ⟨A18, c18, e'⟩ : ∃ (A : Option Addr) (c : Nat), vs 18 = .slice A _ c := e
  rw [e']
  have E18 := hid e'
  clear e'
  simp only [Act.put, List.setIfInBounds_toArray, List.set_cons_succ, List.set_cons_zero]
  refine ⟨.inl ⟨rfl, fun dd w' hd hC hDs => ?_⟩, fun e => ?_⟩
  · obtain ⟨B7, k7, f7, a7⟩ := hDs 18 (by kernel_rfl) X3 rfl
    rw [E18.out] at f7
    cases f7
    have h1 := a7.str
    go_simp
    first | exact ⟨rfl, hC, Below.refl _ _, eD_none rfl⟩ | exact ⟨rfl, Below.refl _ _, eD_none rfl⟩ | exact ⟨hC, Below.refl _ _, eD_none rfl⟩
  have e' : vs 19 = _ := e
  rw [e']
  clear e e'
  simp only [Act.put, List.setIfInBounds_toArray, List.set_cons_succ, List.set_cons_zero]
  refine ⟨.inl ⟨rfl, fun dd w' hd hC hDs => ?_⟩, fun e => ?_⟩
  · go_simp
    first | exact ⟨rfl, hC, Below.refl _ _, eD_none rfl⟩ | exact ⟨rfl, Below.refl _ _, eD_none rfl⟩ | exact ⟨hC, Below.refl _ _, eD_none rfl⟩
  have e' : vs 20 = _ := e
  rw [e']
  clear e e'
  simp only [Act.put, List.setIfInBounds_toArray, List.set_cons_succ, List.set_cons_zero]
  refine ⟨.inl ⟨rfl, fun dd w' hd hC hDs => ?_⟩, fun e => ?_⟩
  · go_simp
    first | exact ⟨rfl, hC, Below.refl _ _, eD_none rfl⟩ | exact ⟨rfl, Below.refl _ _, eD_none rfl⟩ | exact ⟨hC, Below.refl _ _, eD_none rfl⟩
  have e' : vs 21 = _ := e
  rw [e']
  clear e e'
  simp only [Act.put, List.setIfInBounds_toArray, List.set_cons_succ, List.set_cons_zero]
  intro dd w6 hall hC6 hDs
  have q3 := hid (s3.out.below hC6)
  have q4 := hid (s4.out.below hC6)
  have q5 := hid (s5.out.below hC6)
  have qb := hid (sb.out.trans (hC6.mono sb.out.size))
  clear hall hC6 hDs a3 a4 a5 s3 s4 s5 sA sb E3 E10 E18 PR PH PB R6 H6 B6
  have hd1 : gr < gh := by omega
  have hd2 : gh < gb := by omega
  have hd3 : w2.heap.size ≤ gr := by omega
  generalize hS3 : w3.heap.size = S3 at *
  generalize hS4 : w4.heap.size = S4 at *
  clear hS3 hS4
  go_upto_region 7 with fail
  go_wp2_with fail
  go_loopw [9] (fun v wr => ∃ (i : Nat) (lr lh lb : List Nat), i ≤ N ∧ v = .int .i64 i ∧ Hid (Own 5 .u8 wr w2.heap.size (.slice (some ⟨gr, 0, none⟩) N cr) lr) ∧ Hid (Own 5 .u8 wr S3 (.slice (some ⟨gh, 0, none⟩) N ch) lh) ∧ Hid (Own 5 .u8 wr S4 (.slice (some ⟨gb, 0, none⟩) N cb) lb) ∧ Hid (lr.length = N) ∧ Hid (lh.length = N) ∧ Hid (lb.length = N) ∧ Hid (Below w2.heap.size w2 wr)) (fun v _ => N - (intOf v).toNat)
  case atStart => exact ⟨0, X1, X2, X3, by omega, rfl, q3, q4, q5, RL, HLn, BLn, qb⟩
  case round =>
    clear q3 q4 q5 qb
    obtain ⟨i, lr, lh, lb, hi, rfl, o3, o4, o5, n3, n4, n5, hb⟩ := hrel
    by_cases hlt : i < N
    · have ti : (i : Int) < (N : Int) := by omega
      obtain ⟨c1, f1⟩ := Own.byte o3.out (i := i) (by rw [n3.out]; exact hlt)
      have p3 : Hid (Own 5 .u8 (wr.setCell ⟨gr, i, none⟩ (.int .u8 0)) w2.heap.size (.slice (some ⟨gr, 0, none⟩) N cr) (lr.set i 0)) := hid (Own.put (x := 0) o3.out (i := i) (by rw [n3.out]; exact hlt))
      have p4 := hid (Own.otherC (i := i) (u := .int .u8 0) o4.out (show gr ≠ gh by omega))
      have p5 := hid (Own.otherC (i := i) (u := .int .u8 0) o5.out (show gr ≠ gb by omega))
      have pb := hid (Own.putBelow (i := i) (u := .int .u8 0) hb.out hd3)
      obtain ⟨c2, f2⟩ := Own.byte p4.out (i := i) (by rw [n4.out]; exact hlt)
      have r3 := hid (Own.otherC (i := i) (u := .int .u8 0) p3.out (show gh ≠ gr by omega))
      have r4 : Hid (Own 5 .u8 ((wr.setCell ⟨gr, i, none⟩ (.int .u8 0)).setCell ⟨gh, i, none⟩ (.int .u8 0)) S3 (.slice (some ⟨gh, 0, none⟩) N ch) (lh.set i 0)) := hid (Own.put (x := 0) p4.out (i := i) (by rw [n4.out]; exact hlt))
      have r5 := hid (Own.otherC (i := i) (u := .int .u8 0) p5.out (show gh ≠ gb by omega))
      have rb := hid (Own.putBelow (g := gh) (i := i) (u := .int .u8 0) pb.out (by omega))
      obtain ⟨c3, f3⟩ := Own.byte r5.out (i := i) (by rw [n5.out]; exact hlt)
      have m3 := hid (Own.otherC (i := i) (u := .int .u8 0) r3.out (show gb ≠ gr by omega))
      have m4 := hid (Own.otherC (i := i) (u := .int .u8 0) r4.out (show gb ≠ gh by omega))
      have m5 : Hid (Own 5 .u8 (((wr.setCell ⟨gr, i, none⟩ (.int .u8 0)).setCell ⟨gh, i, none⟩ (.int .u8 0)).setCell ⟨gb, i, none⟩ (.int .u8 0)) S4 (.slice (some ⟨gb, 0, none⟩) N cb) (lb.set i 0)) := hid (Own.put (x := 0) r5.out (i := i) (by rw [n5.out]; exact hlt))
      have mb := hid (Own.putBelow (g := gb) (i := i) (u := .int .u8 0) rb.out (by omega))
      clear o3 o4 o5 hb p3 p4 p5 pb r3 r4 r5 rb
      go_wp2_with fail
      go_roundw
      case rel => exact ⟨i + 1, _, _, _, by omega, by go_num, m3, m4, m5, hid (by rw [List.length_set]; exact n3.out), hid (by rw [List.length_set]; exact n4.out), hid (by rw [List.length_set]; exact n5.out), mb⟩
      case measure => simp [intOf] <;> omega
    · obtain rfl : i = N := by omega
      have z0 := hid (y0.out.below hb.out y0.out.lt)
      have zA := hid (yA.out.on hb.out)
      have zo := hid (yo.out.on hb.out)
      have zb := hid (yb.out.trans (hb.out.mono yb.out.size))
      have zS := hid (SA.out.on zb.out)
      clear o3 o4 o5 hb n3 n4 n5 y0 yA yo yb SA
      go_upto_region 11 with fail
      refine wp_region_eS [some (.agg (ar 32 k)), some (.slice Ao n co), some (.agg (ar 32 F1)), some (.agg (ar 32 k)), some (.slice A n cap), some (.agg (ar 32 F1)), some (.bool true), some (.bool true), some (.agg (ar 32 k)), some (.slice Ao n co), some (.agg (ar 32 F2)), some (.agg (ar 32 k)), some (.slice A n cap), some (.agg (ar 32 F2)), some (.bool true), some (.bool true), some (.bool true), some (.agg (ar 32 k)), some (.slice Ao n co), some (.agg (ar 32 F3)), some (.agg (ar 32 k)), some (.slice A n cap), some (.agg (ar 32 F3)), some (.bool true), some (.bool true), some (.bool true), some (.agg (ar 32 k)), some (.slice Ao n co), some (.agg (ar 32 F4)), some (.agg (ar 32 k)), some (.slice A n cap), some (.agg (ar 32 F4)), some (.bool true), some (.bool true), some (.bool true), some (.slice Ao n co), some (.string (str l)), some (.slice A n cap), some (.string (str l)), some (.bool true), some (.bool true), some (.bool true), some (.bool true), some (.bool true)] [] 44 (by kernel_rfl) (by kernel_rfl) (by kernel_rfl) fun vs => ?_
      simp only [List.take_succ_cons, List.take_zero, List.drop_succ_cons, List.drop_zero]
      refine ⟨.inl ⟨rfl, fun dd w' hd hC hDs => ?_⟩, fun e => ?_⟩
      · exact gE_ldA tK rfl ((z0.out.below hC z0.out.lt).head) ⟨rfl, hC, Below.refl _ _, eD_none rfl⟩
      have e' : vs 0 = _ := e
      rw [e']
      clear e e'
      simp only [Act.put, List.setIfInBounds_toArray, List.set_cons_succ, List.set_cons_zero]
      refine ⟨.inl ⟨rfl, fun dd w' hd hC hDs => ?_⟩, fun e => ?_⟩
      · go_simp
        first | exact ⟨rfl, hC, Below.refl _ _, eD_none rfl⟩ | exact ⟨rfl, Below.refl _ _, eD_none rfl⟩ | exact ⟨hC, Below.refl _ _, eD_none rfl⟩
      have e' : vs 1 = _ := e
      rw [e']
      clear e e'
      simp only [Act.put, List.setIfInBounds_toArray, List.set_cons_succ, List.set_cons_zero]
      refine ⟨.inl ⟨rfl, fun dd w' hd hC hDs => ?_⟩, fun e => ?_⟩
      · go_simp
        refine ((TR.out Ao n co HN.out w' (zo.out.on hC) (zS.out.on hC))).mono ?_
        rintro e w2 ⟨rfl, h2⟩
        exact ⟨_, rfl, rfl, hC.trans (h2.mono hC.size), h2, eD_none rfl⟩
      have e' : vs 2 = _ := e
      rw [e']
      clear e e'
      simp only [Act.put, List.setIfInBounds_toArray, List.set_cons_succ, List.set_cons_zero]
      refine ⟨.inl ⟨rfl, fun dd w' hd hC hDs => ?_⟩, fun e => ?_⟩
      · exact gE_ldA tK rfl ((z0.out.below hC z0.out.lt).head) ⟨rfl, hC, Below.refl _ _, eD_none rfl⟩
      have e' : vs 3 = _ := e
      rw [e']
      clear e e'
      simp only [Act.put, List.setIfInBounds_toArray, List.set_cons_succ, List.set_cons_zero]
      refine ⟨.inl ⟨rfl, fun dd w' hd hC hDs => ?_⟩, fun e => ?_⟩
      · go_simp
        first | exact ⟨rfl, hC, Below.refl _ _, eD_none rfl⟩ | exact ⟨rfl, Below.refl _ _, eD_none rfl⟩ | exact ⟨hC, Below.refl _ _, eD_none rfl⟩
      have e' : vs 4 = _ := e
      rw [e']
      clear e e'
      simp only [Act.put, List.setIfInBounds_toArray, List.set_cons_succ, List.set_cons_zero]
      refine ⟨.inl ⟨rfl, fun dd w' hd hC hDs => ?_⟩, fun e => ?_⟩
      · go_simp
        refine ((DR.out A n cap HN.out w' (zA.out.on hC))).mono ?_
        rintro e w2 ⟨rfl, h2⟩
        exact ⟨_, rfl, rfl, hC.trans (h2.mono hC.size), h2, eD_none rfl⟩
      have e' : vs 5 = _ := e
      rw [e']
      clear e e'
      simp only [Act.put, List.setIfInBounds_toArray, List.set_cons_succ, List.set_cons_zero]
      refine ⟨.inl ⟨rfl, fun dd w' hd hC hDs => ?_⟩, fun e => ?_⟩
      · exact gE_eqU uT eqgT rfl rfl ⟨by rw [eqA_self]; rfl, hC, Below.refl _ _, eD_none rfl⟩
      have e' : vs 6 = _ := e
      rw [e']
      clear e e'
      simp only [Act.put, List.setIfInBounds_toArray, List.set_cons_succ, List.set_cons_zero]
      refine ⟨.inl ⟨rfl, fun dd w' hd hC hDs => ?_⟩, fun e => ?_⟩
      · go_simp
        first | exact ⟨rfl, hC, Below.refl _ _, eD_none rfl⟩ | exact ⟨rfl, Below.refl _ _, eD_none rfl⟩ | exact ⟨hC, Below.refl _ _, eD_none rfl⟩
      have e' : vs 7 = _ := e
      rw [e']
      clear e e'
      simp only [Act.put, List.setIfInBounds_toArray, List.set_cons_succ, List.set_cons_zero]
      refine ⟨.inl ⟨rfl, fun dd w' hd hC hDs => ?_⟩, fun e => ?_⟩
      · exact gE_ldA tK rfl ((z0.out.below hC z0.out.lt).head) ⟨rfl, hC, Below.refl _ _, eD_none rfl⟩
      have e' : vs 8 = _ := e
      rw [e']
      clear e e'
      simp only [Act.put, List.setIfInBounds_toArray, List.set_cons_succ, List.set_cons_zero]
      refine ⟨.inl ⟨rfl, fun dd w' hd hC hDs => ?_⟩, fun e => ?_⟩
      · go_simp
        first | exact ⟨rfl, hC, Below.refl _ _, eD_none rfl⟩ | exact ⟨rfl, Below.refl _ _, eD_none rfl⟩ | exact ⟨hC, Below.refl _ _, eD_none rfl⟩
      have e' : vs 9 = _ := e
      rw [e']
      clear e e'
      simp only [Act.put, List.setIfInBounds_toArray, List.set_cons_succ, List.set_cons_zero]
      refine ⟨.inl ⟨rfl, fun dd w' hd hC hDs => ?_⟩, fun e => ?_⟩
      · go_simp
        refine ((TH.out Ao n co HN.out w' (zo.out.on hC) (zS.out.on hC))).mono ?_
        rintro e w2 ⟨rfl, h2⟩
        exact ⟨_, rfl, rfl, hC.trans (h2.mono hC.size), h2, eD_none rfl⟩
      have e' : vs 10 = _ := e
      rw [e']
      clear e e'
      simp only [Act.put, List.setIfInBounds_toArray, List.set_cons_succ, List.set_cons_zero]
      refine ⟨.inl ⟨rfl, fun dd w' hd hC hDs => ?_⟩, fun e => ?_⟩
      · exact gE_ldA tK rfl ((z0.out.below hC z0.out.lt).head) ⟨rfl, hC, Below.refl _ _, eD_none rfl⟩
      have e' : vs 11 = _ := e
      rw [e']
      clear e e'
      simp only [Act.put, List.setIfInBounds_toArray, List.set_cons_succ, List.set_cons_zero]
      refine ⟨.inl ⟨rfl, fun dd w' hd hC hDs => ?_⟩, fun e => ?_⟩
      · go_simp
        first | exact ⟨rfl, hC, Below.refl _ _, eD_none rfl⟩ | exact ⟨rfl, Below.refl _ _, eD_none rfl⟩ | exact ⟨hC, Below.refl _ _, eD_none rfl⟩
      have e' : vs 12 = _ := e
      rw [e']
      clear e e'
      simp only [Act.put, List.setIfInBounds_toArray, List.set_cons_succ, List.set_cons_zero]
      refine ⟨.inl ⟨rfl, fun dd w' hd hC hDs => ?_⟩, fun e => ?_⟩
      · go_simp
        refine ((DH.out A n cap HN.out w' (zA.out.on hC))).mono ?_
        rintro e w2 ⟨rfl, h2⟩
        exact ⟨_, rfl, rfl, hC.trans (h2.mono hC.size), h2, eD_none rfl⟩
      have e' : vs 13 = _ := e
      rw [e']
      clear e e'
      simp only [Act.put, List.setIfInBounds_toArray, List.set_cons_succ, List.set_cons_zero]
      refine ⟨.inl ⟨rfl, fun dd w' hd hC hDs => ?_⟩, fun e => ?_⟩
      · exact gE_eqU uT eqgT rfl rfl ⟨by rw [eqA_self]; rfl, hC, Below.refl _ _, eD_none rfl⟩
      have e' : vs 14 = _ := e
      rw [e']
      clear e e'
      simp only [Act.put, List.setIfInBounds_toArray, List.set_cons_succ, List.set_cons_zero]
      refine ⟨.inl ⟨rfl, fun dd w' hd hC hDs => ?_⟩, fun e => ?_⟩
      · go_simp
        first | exact ⟨rfl, hC, Below.refl _ _, eD_none rfl⟩ | exact ⟨rfl, Below.refl _ _, eD_none rfl⟩ | exact ⟨hC, Below.refl _ _, eD_none rfl⟩
      have e' : vs 15 = _ := e
      rw [e']
      clear e e'
      simp only [Act.put, List.setIfInBounds_toArray, List.set_cons_succ, List.set_cons_zero]
      refine ⟨.inl ⟨rfl, fun dd w' hd hC hDs => ?_⟩, fun e => ?_⟩
      · go_simp
        first | exact ⟨rfl, hC, Below.refl _ _, eD_none rfl⟩ | exact ⟨rfl, Below.refl _ _, eD_none rfl⟩ | exact ⟨hC, Below.refl _ _, eD_none rfl⟩
      have e' : vs 16 = _ := e
      rw [e']
      clear e e'
      simp only [Act.put, List.setIfInBounds_toArray, List.set_cons_succ, List.set_cons_zero]
      refine ⟨.inl ⟨rfl, fun dd w' hd hC hDs => ?_⟩, fun e => ?_⟩
      · exact gE_ldA tK rfl ((z0.out.below hC z0.out.lt).head) ⟨rfl, hC, Below.refl _ _, eD_none rfl⟩
      have e' : vs 17 = _ := e
      rw [e']
      clear e e'
      simp only [Act.put, List.setIfInBounds_toArray, List.set_cons_succ, List.set_cons_zero]
      refine ⟨.inl ⟨rfl, fun dd w' hd hC hDs => ?_⟩, fun e => ?_⟩
      · go_simp
        first | exact ⟨rfl, hC, Below.refl _ _, eD_none rfl⟩ | exact ⟨rfl, Below.refl _ _, eD_none rfl⟩ | exact ⟨hC, Below.refl _ _, eD_none rfl⟩
      have e' : vs 18 = _ := e
      rw [e']
      clear e e'
      simp only [Act.put, List.setIfInBounds_toArray, List.set_cons_succ, List.set_cons_zero]
      refine ⟨.inl ⟨rfl, fun dd w' hd hC hDs => ?_⟩, fun e => ?_⟩
      · go_simp
        refine ((TB.out Ao n co HN.out w' (zo.out.on hC) (zS.out.on hC))).mono ?_
        rintro e w2 ⟨rfl, h2⟩
        exact ⟨_, rfl, rfl, hC.trans (h2.mono hC.size), h2, eD_none rfl⟩
      have e' : vs 19 = _ := e
      rw [e']
      clear e e'
      simp only [Act.put, List.setIfInBounds_toArray, List.set_cons_succ, List.set_cons_zero]
      refine ⟨.inl ⟨rfl, fun dd w' hd hC hDs => ?_⟩, fun e => ?_⟩
      · exact gE_ldA tK rfl ((z0.out.below hC z0.out.lt).head) ⟨rfl, hC, Below.refl _ _, eD_none rfl⟩
      have e' : vs 20 = _ := e
      rw [e']
      clear e e'
      simp only [Act.put, List.setIfInBounds_toArray, List.set_cons_succ, List.set_cons_zero]
      refine ⟨.inl ⟨rfl, fun dd w' hd hC hDs => ?_⟩, fun e => ?_⟩
      · go_simp
        first | exact ⟨rfl, hC, Below.refl _ _, eD_none rfl⟩ | exact ⟨rfl, Below.refl _ _, eD_none rfl⟩ | exact ⟨hC, Below.refl _ _, eD_none rfl⟩
      have e' : vs 21 = _ := e
      rw [e']
      clear e e'
      simp only [Act.put, List.setIfInBounds_toArray, List.set_cons_succ, List.set_cons_zero]
      refine ⟨.inl ⟨rfl, fun dd w' hd hC hDs => ?_⟩, fun e => ?_⟩
      · go_simp
        refine ((DB.out A n cap HN.out w' (zA.out.on hC))).mono ?_
        rintro e w2 ⟨rfl, h2⟩
        exact ⟨_, rfl, rfl, hC.trans (h2.mono hC.size), h2, eD_none rfl⟩
      have e' : vs 22 = _ := e
      rw [e']
      clear e e'
      simp only [Act.put, List.setIfInBounds_toArray, List.set_cons_succ, List.set_cons_zero]
      refine ⟨.inl ⟨rfl, fun dd w' hd hC hDs => ?_⟩, fun e => ?_⟩
      · exact gE_eqU uT eqgT rfl rfl ⟨by rw [eqA_self]; rfl, hC, Below.refl _ _, eD_none rfl⟩
      have e' : vs 23 = _ := e
      rw [e']
      clear e e'
      simp only [Act.put, List.setIfInBounds_toArray, List.set_cons_succ, List.set_cons_zero]
      refine ⟨.inl ⟨rfl, fun dd w' hd hC hDs => ?_⟩, fun e => ?_⟩
      · go_simp
        first | exact ⟨rfl, hC, Below.refl _ _, eD_none rfl⟩ | exact ⟨rfl, Below.refl _ _, eD_none rfl⟩ | exact ⟨hC, Below.refl _ _, eD_none rfl⟩
      have e' : vs 24 = _ := e
      rw [e']
      clear e e'
      simp only [Act.put, List.setIfInBounds_toArray, List.set_cons_succ, List.set_cons_zero]
      refine ⟨.inl ⟨rfl, fun dd w' hd hC hDs => ?_⟩, fun e => ?_⟩
      · go_simp
        first | exact ⟨rfl, hC, Below.refl _ _, eD_none rfl⟩ | exact ⟨rfl, Below.refl _ _, eD_none rfl⟩ | exact ⟨hC, Below.refl _ _, eD_none rfl⟩
      have e' : vs 25 = _ := e
      rw [e']
      clear e e'
      simp only [Act.put, List.setIfInBounds_toArray, List.set_cons_succ, List.set_cons_zero]
      refine ⟨.inl ⟨rfl, fun dd w' hd hC hDs => ?_⟩, fun e => ?_⟩
      · exact gE_ldA tK rfl ((z0.out.below hC z0.out.lt).head) ⟨rfl, hC, Below.refl _ _, eD_none rfl⟩
      have e' : vs 26 = _ := e
      rw [e']
      clear e e'
      simp only [Act.put, List.setIfInBounds_toArray, List.set_cons_succ, List.set_cons_zero]
      refine ⟨.inl ⟨rfl, fun dd w' hd hC hDs => ?_⟩, fun e => ?_⟩
      · go_simp
        first | exact ⟨rfl, hC, Below.refl _ _, eD_none rfl⟩ | exact ⟨rfl, Below.refl _ _, eD_none rfl⟩ | exact ⟨hC, Below.refl _ _, eD_none rfl⟩
      have e' : vs 27 = _ := e
      rw [e']
      clear e e'
      simp only [Act.put, List.setIfInBounds_toArray, List.set_cons_succ, List.set_cons_zero]
      refine ⟨.inl ⟨rfl, fun dd w' hd hC hDs => ?_⟩, fun e => ?_⟩
      · go_simp
        refine ((TO.out Ao n co (Nat.le_trans HN.out (by omega)) w' (zo.out.on hC) (zS.out.on hC))).mono ?_
        rintro e w2 ⟨rfl, h2⟩
        exact ⟨_, rfl, rfl, hC.trans (h2.mono hC.size), h2, eD_none rfl⟩
      have e' : vs 28 = _ := e
      rw [e']
      clear e e'
      simp only [Act.put, List.setIfInBounds_toArray, List.set_cons_succ, List.set_cons_zero]
      refine ⟨.inl ⟨rfl, fun dd w' hd hC hDs => ?_⟩, fun e => ?_⟩
      · exact gE_ldA tK rfl ((z0.out.below hC z0.out.lt).head) ⟨rfl, hC, Below.refl _ _, eD_none rfl⟩
      have e' : vs 29 = _ := e
      rw [e']
      clear e e'
      simp only [Act.put, List.setIfInBounds_toArray, List.set_cons_succ, List.set_cons_zero]
      refine ⟨.inl ⟨rfl, fun dd w' hd hC hDs => ?_⟩, fun e => ?_⟩
      · go_simp
        first | exact ⟨rfl, hC, Below.refl _ _, eD_none rfl⟩ | exact ⟨rfl, Below.refl _ _, eD_none rfl⟩ | exact ⟨hC, Below.refl _ _, eD_none rfl⟩
      have e' : vs 30 = _ := e
      rw [e']
      clear e e'
      simp only [Act.put, List.setIfInBounds_toArray, List.set_cons_succ, List.set_cons_zero]
      refine ⟨.inl ⟨rfl, fun dd w' hd hC hDs => ?_⟩, fun e => ?_⟩
      · go_simp
        refine ((DO.out A n cap (Nat.le_trans HN.out (by omega)) w' (zA.out.on hC))).mono ?_
        rintro e w2 ⟨rfl, h2⟩
        exact ⟨_, rfl, rfl, hC.trans (h2.mono hC.size), h2, eD_none rfl⟩
      have e' : vs 31 = _ := e
      rw [e']
      clear e e'
      simp only [Act.put, List.setIfInBounds_toArray, List.set_cons_succ, List.set_cons_zero]
      refine ⟨.inl ⟨rfl, fun dd w' hd hC hDs => ?_⟩, fun e => ?_⟩
      · exact gE_eqU uT eqgT rfl rfl ⟨by rw [eqA_self]; rfl, hC, Below.refl _ _, eD_none rfl⟩
      have e' : vs 32 = _ := e
      rw [e']
      clear e e'
      simp only [Act.put, List.setIfInBounds_toArray, List.set_cons_succ, List.set_cons_zero]
      refine ⟨.inl ⟨rfl, fun dd w' hd hC hDs => ?_⟩, fun e => ?_⟩
      · go_simp
        first | exact ⟨rfl, hC, Below.refl _ _, eD_none rfl⟩ | exact ⟨rfl, Below.refl _ _, eD_none rfl⟩ | exact ⟨hC, Below.refl _ _, eD_none rfl⟩
      have e' : vs 33 = _ := e
      rw [e']
      clear e e'
      simp only [Act.put, List.setIfInBounds_toArray, List.set_cons_succ, List.set_cons_zero]
      refine ⟨.inl ⟨rfl, fun dd w' hd hC hDs => ?_⟩, fun e => ?_⟩
      · go_simp
        first | exact ⟨rfl, hC, Below.refl _ _, eD_none rfl⟩ | exact ⟨rfl, Below.refl _ _, eD_none rfl⟩ | exact ⟨hC, Below.refl _ _, eD_none rfl⟩
      have e' : vs 34 = _ := e
      rw [e']
      clear e e'
      simp only [Act.put, List.setIfInBounds_toArray, List.set_cons_succ, List.set_cons_zero]
      refine ⟨.inl ⟨rfl, fun dd w' hd hC hDs => ?_⟩, fun e => ?_⟩
      · go_simp
        first | exact ⟨rfl, hC, Below.refl _ _, eD_none rfl⟩ | exact ⟨rfl, Below.refl _ _, eD_none rfl⟩ | exact ⟨hC, Below.refl _ _, eD_none rfl⟩
      have e' : vs 35 = _ := e
      rw [e']
      clear e e'
      simp only [Act.put, List.setIfInBounds_toArray, List.set_cons_succ, List.set_cons_zero]
      refine ⟨.inl ⟨rfl, fun dd w' hd hC hDs => ?_⟩, fun e => ?_⟩
      · have h1 := (zo.out.on hC).str
        go_simp
        first | exact ⟨rfl, hC, Below.refl _ _, eD_none rfl⟩ | exact ⟨rfl, Below.refl _ _, eD_none rfl⟩ | exact ⟨hC, Below.refl _ _, eD_none rfl⟩
      have e' : vs 36 = _ := e
      rw [e']
      clear e e'
      simp only [Act.put, List.setIfInBounds_toArray, List.set_cons_succ, List.set_cons_zero]
      refine ⟨.inl ⟨rfl, fun dd w' hd hC hDs => ?_⟩, fun e => ?_⟩
      · go_simp
        first | exact ⟨rfl, hC, Below.refl _ _, eD_none rfl⟩ | exact ⟨rfl, Below.refl _ _, eD_none rfl⟩ | exact ⟨hC, Below.refl _ _, eD_none rfl⟩
      have e' : vs 37 = _ := e
      rw [e']
      clear e e'
      simp only [Act.put, List.setIfInBounds_toArray, List.set_cons_succ, List.set_cons_zero]
      refine ⟨.inl ⟨rfl, fun dd w' hd hC hDs => ?_⟩, fun e => ?_⟩
      · have h1 := (zA.out.on hC).str
        go_simp
        first | exact ⟨rfl, hC, Below.refl _ _, eD_none rfl⟩ | exact ⟨rfl, Below.refl _ _, eD_none rfl⟩ | exact ⟨hC, Below.refl _ _, eD_none rfl⟩
      have e' : vs 38 = _ := e
      rw [e']
      clear e e'
      simp only [Act.put, List.setIfInBounds_toArray, List.set_cons_succ, List.set_cons_zero]
      refine ⟨.inl ⟨rfl, fun dd w' hd hC hDs => ?_⟩, fun e => ?_⟩
      · go_simp
        first | exact ⟨rfl, hC, Below.refl _ _, eD_none rfl⟩ | exact ⟨rfl, Below.refl _ _, eD_none rfl⟩ | exact ⟨hC, Below.refl _ _, eD_none rfl⟩
      have e' : vs 39 = _ := e
      rw [e']
      clear e e'
      simp only [Act.put, List.setIfInBounds_toArray, List.set_cons_succ, List.set_cons_zero]
      refine ⟨.inl ⟨rfl, fun dd w' hd hC hDs => ?_⟩, fun e => ?_⟩
      · go_simp
        first | exact ⟨rfl, hC, Below.refl _ _, eD_none rfl⟩ | exact ⟨rfl, Below.refl _ _, eD_none rfl⟩ | exact ⟨hC, Below.refl _ _, eD_none rfl⟩
      have e' : vs 40 = _ := e
      rw [e']
      clear e e'
      simp only [Act.put, List.setIfInBounds_toArray, List.set_cons_succ, List.set_cons_zero]
      refine ⟨.inl ⟨rfl, fun dd w' hd hC hDs => ?_⟩, fun e => ?_⟩
      · go_simp
        first | exact ⟨rfl, hC, Below.refl _ _, eD_none rfl⟩ | exact ⟨rfl, Below.refl _ _, eD_none rfl⟩ | exact ⟨hC, Below.refl _ _, eD_none rfl⟩
      have e' : vs 41 = _ := e
      rw [e']
      clear e e'
      simp only [Act.put, List.setIfInBounds_toArray, List.set_cons_succ, List.set_cons_zero]
      refine ⟨.inl ⟨rfl, fun dd w' hd hC hDs => ?_⟩, fun e => ?_⟩
      · go_simp
        refine ((AW.out w')).mono ?_
        rintro e w2 ⟨rfl, h2⟩
        exact ⟨_, rfl, rfl, hC.trans (h2.mono hC.size), h2, eD_none rfl⟩
      have e' : vs 42 = _ := e
      rw [e']
      clear e e'
      simp only [Act.put, List.setIfInBounds_toArray, List.set_cons_succ, List.set_cons_zero]
      refine ⟨.inl ⟨rfl, fun dd w' hd hC hDs => ?_⟩, fun e => ?_⟩
      · go_simp
        first | exact ⟨rfl, hC, Below.refl _ _, eD_none rfl⟩ | exact ⟨rfl, Below.refl _ _, eD_none rfl⟩ | exact ⟨hC, Below.refl _ _, eD_none rfl⟩
      have e' : vs 43 = _ := e
      rw [e']
      clear e e'
      simp only [Act.put, List.setIfInBounds_toArray, List.set_cons_succ, List.set_cons_zero]
      intro dd w7 hall hC7 hDs
      have db := hid (zb.out.trans (hC7.mono zb.out.size))
      clear hall hC7 hDs z0 zA zo zb zS
      go_wp2_with fail
      go_ret
      exact ⟨rfl, db.out⟩
end TgP
end Go.Proofs.YtmbhibilmedjmaaDoor
set_option maxRecDepth 100000
namespace Go.Proofs.YtmbhibilmedjmaaDoor
open Go.ChangeShapes Go.WideShapes Go.ChangeAt Go.RowKit
/-- Each block keeps its cells; some may have got a mark. -/
def Cells (w w' : World) : Prop := w.heap.size ≤ w'.heap.size ∧ ∀ (g : Nat) (cs : Array Value) (t : TypeId) (fr : Nat × Nat), w.heap[g]? = some (Obj.cells cs t fr) → ∃ fr', w'.heap[g]? = some (Obj.cells cs t fr')
theorem Cells.of_below {w w' : World} (h : Below w.heap.size w w') : Cells w w' := ⟨h.size, fun g cs t fr hg => ⟨fr, by
  have : g < w.heap.size := by
    rcases Nat.lt_or_ge g w.heap.size with hlt | hge
    · exact hlt
    · rw [Array.getElem?_eq_none hge] at hg; cases hg
  exact (h.block g this).trans hg⟩⟩
theorem lt_of_block {w : World} {g : Nat} {o : Obj} (hg : w.heap[g]? = some o) : g < w.heap.size := by
  rcases Nat.lt_or_ge g w.heap.size with hlt | hge
  · exact hlt
  · rw [Array.getElem?_eq_none hge] at hg; cases hg
/-- A row of bytes, with whatever mark. -/
theorem byt_marked {w : World} {g : Nat} {cs : Array Value} {t : TypeId} {fr : Nat × Nat} {l : List Nat} (h : w.heap[g]? = some (Obj.cells cs t fr)) (hl : ∀ j, j < l.length → cs[j]? = some (.int .u8 (l.getD j 0 : Nat))) : Byt w w.heap.size (some ⟨g, 0, none⟩) l := fun _ =>
  ⟨g, 0, rfl, lt_of_block h, fun i hi => by rw [Nat.zero_add, cell_of_row w g i cs t fr h]; exact hl i hi⟩
theorem run_conv_const {w : World} {g n c : Nat} {C : Array Value} {e : TypeId} {fr : Nat × Nat} (hg : w.heap[g]? = some (Obj.cells C e fr)) :
    (convert 26 26 (.slice (some ⟨g, 0, none⟩) n c)).run Tryd.prog w = .ok (.slice (some ⟨g, 0, none⟩) n c) (w.freeze ⟨g, C.size, none⟩ 1) := by
  have hsh : w.shape? g = some (e, C.size) := by unfold World.shape?; rw [hg]
  simp [convert, run_underlying Tryd.underlying26, run_underlying Tryd.underlying5, markStringish, hsh]
theorem freeze_block {w : World} {g m : Nat} {C : Array Value} {e : TypeId} {fr : Nat × Nat} (hg : w.heap[g]? = some (Obj.cells C e fr)) : ∃ fr', (w.freeze ⟨g, m, none⟩ 1).heap[g]? = some (Obj.cells C e fr') := by
  unfold World.freeze
  rw [if_neg (by decide)]
  refine ⟨if fr.1 == fr.2 then (m, m + 1) else (min fr.1 m, max fr.2 (m + 1)), ?_⟩
  show (w.heap.modify g _)[g]? = _
  rw [Array.getElem?_modify, if_pos rfl, hg]
  rfl
theorem freeze_other {w : World} {g m k : Nat} (hk : k ≠ g) : (w.freeze ⟨g, m, none⟩ 1).heap[k]? = w.heap[k]? := by
  unfold World.freeze
  rw [if_neg (by decide)]
  show (w.heap.modify g _)[k]? = _
  rw [Array.getElem?_modify, if_neg (Ne.symm hk)]
theorem freeze_size {w : World} {g m : Nat} : (w.freeze ⟨g, m, none⟩ 1).heap.size = w.heap.size := by
  unfold World.freeze
  rw [if_neg (by decide)]
  show (w.heap.modify g _).size = _
  rw [Array.size_modify]
theorem freeze_cells {w : World} {g m : Nat} {C : Array Value} {e : TypeId} {fr : Nat × Nat} (hg : w.heap[g]? = some (Obj.cells C e fr)) : Cells w (w.freeze ⟨g, m, none⟩ 1) :=
  ⟨by rw [freeze_size]; exact Nat.le_refl _, fun k cs t fr2 hk => by
    by_cases e' : k = g
    · subst e'
      rw [hg] at hk
      obtain ⟨fr3, h3⟩ := freeze_block (m := m) hg
      simp only [Option.some.injEq, Obj.cells.injEq] at hk
      obtain ⟨rfl, rfl, rfl⟩ := hk
      exact ⟨fr3, h3⟩
    · exact ⟨fr2, (freeze_other e').trans hk⟩⟩
theorem freeze_below {B : Nat} {w0 w : World} {g m : Nat} (h : Below B w0 w) (hB : B ≤ g) : Below B w0 (w.freeze ⟨g, m, none⟩ 1) :=
  h.trans ⟨by unfold World.freeze; rw [if_neg (by decide)], by unfold World.freeze; rw [if_neg (by decide)], by unfold World.freeze; rw [if_neg (by decide)], by rw [freeze_size]; exact Nat.le_refl _, fun k hk => freeze_other (by omega)⟩
end Go.Proofs.YtmbhibilmedjmaaDoor
set_option maxRecDepth 100000
namespace Go.Proofs.YtmbhibilmedjmaaDoor
open Go.ChangeShapes Go.WideShapes Go.ChangeAt Go.RowKit
attribute [local go_sem] GivesE
theorem Cells.cell {w w' : World} (h : Cells w w') {p : Addr} {v : Value} (hc : w.cell? p = some v) : w'.cell? p = some v := by
  unfold World.cell? at hc ⊢
  split at hc
  · rename_i c e fr hg
    obtain ⟨fr', h2⟩ := h.2 p.block c e fr hg
    rw [h2]
    exact hc
  · cases hc
theorem Byt.cells {w w' : World} {A : Option Addr} {l : List Nat} (h : Byt w w.heap.size A l) (hc : Cells w w') : Byt w' w'.heap.size A l := fun hn => by
  obtain ⟨b, o, h1, h2, h3⟩ := h hn
  exact ⟨b, o, h1, Nat.lt_of_lt_of_le h2 hc.1, fun i hi => hc.cell (h3 i hi)⟩
theorem Arg.cells {w w' : World} {A : Option Addr} {l : List Nat} {n c : Nat} (h : Arg w A l n c) (hc : Cells w w') : Arg w' A l n c := ⟨h.len, h.cap, h.max, h.b256, h.none, h.byt.cells hc⟩
/-- Of literals (lt) and of calls' answers (sl) the world holds so much. -/
def kD (lt sl : List (Nat × List Nat)) (B j : Nat) (vs : Nat → Value) (w : World) : Prop :=
  (∀ l, slOf lt j = some l → ∃ (g : Nat) (fr : Nat × Nat), vs j = .slice (some ⟨g, 0, none⟩) l.length l.length ∧ B ≤ g ∧ w.heap[g]? = some (Obj.cells (nums .u8 l).toArray 5 fr)) ∧ eD sl j vs w
section
variable {lt sl : List (Nat × List Nat)} {B i j : Nat} {vs : Nat → Value} {v : Value} {w w' : World} {fx : List (Option Value)}
theorem kD_keep (h : kD lt sl B j vs w) (hb : Cells w w') : kD lt sl B j vs w' :=
  ⟨fun l e => by
    obtain ⟨g, fr, h1, h2, h3⟩ := h.1 l e
    obtain ⟨fr', h4⟩ := hb.2 g _ _ fr h3
    exact ⟨g, fr', h1, h2, h4⟩, fun l e => by
    obtain ⟨A, c, h1, h2⟩ := h.2 l e
    exact ⟨A, c, h1, h2.cells hb⟩⟩
theorem kD_loc (hji : j ≠ i) (h : kD lt sl B j vs w) : kD lt sl B j (updV vs i v) w := by
  unfold kD at h ⊢
  rw [updV_ne _ _ hji]
  exact ⟨h.1, eD_loc hji h.2⟩
theorem kD_none (h : slOf lt j = none) (h2 : slOf sl j = none) : kD lt sl B j vs w := ⟨fun l e => (by rw [h] at e; cases e), eD_none h2⟩
theorem kD_lit {l : List Nat} {g : Nat} {fr : Nat × Nat} (h : slOf lt j = some l) (h2 : slOf sl j = none) (hB : B ≤ g) (hg : w.heap[g]? = some (Obj.cells (nums .u8 l).toArray 5 fr)) : kD lt sl B j (updV vs j (.slice (some ⟨g, 0, none⟩) l.length l.length)) w :=
  ⟨fun m e => by
    obtain rfl : l = m := Option.some.inj (h.symm.trans e)
    exact ⟨g, fr, updV_self _ _ _, hB, hg⟩, eD_none h2⟩
theorem kD_own {l : List Nat} {B' : Nat} (h : slOf lt j = none) (h2 : slOf sl j = some l) (ho : Own 5 .u8 w B' v l) (h3 : B256 l) : kD lt sl B j (updV vs j v) w :=
  ⟨fun m e => (by rw [h] at e; cases e), own_eD h2 ho h3⟩
theorem lit_arg {l : List Nat} {g : Nat} {fr : Nat × Nat} (hg : w.heap[g]? = some (Obj.cells (nums .u8 l).toArray 5 fr)) (h : B256 l) (hl : l.length ≤ maxLen) : Arg w (some ⟨g, 0, none⟩) l l.length l.length :=
  ⟨rfl, Nat.le_refl _, hl, h, (fun e => by cases e), byt_marked hg fun j hj => by rw [List.getElem?_toArray]; exact nums_get .u8 hj⟩
end
theorem wp_region_ck {id : Nat} {Q : Exit → Act → World → Prop} {a : Act} {w : World} {l : List Oper} (fx : List (Option Value)) (lt sl : List (Nat × List Nat)) (n : Nat) (hm : Tryd.prog.follows .mixedOrders = true) (ht : tidy l.toArray = true) (hB : tailB l.toArray n = true)
    (h : ∀ vs : Nat → Value, wpE Tryd.prog l.toArray (eS fx (lt ++ sl)) (kD lt sl w.heap.size) (fun _ _ w w' => Cells w w') (fun _ w' => Below w.heap.size w w') (fun vs a' => ∀ (d : Nat → Bool) w', (∀ k, k < n → d k = true) → Below w.heap.size w w' → (∀ k, k < n → kD lt sl w.heap.size k vs w') → wpList Tryd.prog l.toArray Q (l.drop n) a' w') 0 vs (l.take n) a) :
    (Code.region id l.toArray true).wp Tryd.prog Q a w :=
  wp_region_ex (S := eS fx (lt ++ sl)) (D := kD lt sl w.heap.size) (K := fun _ _ w w' => Cells w w') (C := fun _ w' => Below w.heap.size w w') n hm ht hB _ (eS_ok _ _) (fun i j vs w w' _ _ _ h hb => kD_keep h hb) (fun j i vs v w hji _ h => kD_loc hji h) (Below.refl _ _).drew h
end Go.Proofs.YtmbhibilmedjmaaDoor
set_option maxRecDepth 100000
namespace Go.Proofs.YtmbhibilmedjmaaDoor
open Go.ChangeShapes Go.WideShapes Go.ChangeAt Go.RowKit
attribute [local go_sem] Gives GivesE
namespace TgP
section
variable {ops : Array Oper} {Q : Exit → Act → World → Prop} {a : Act} {w : World} {rest : List Oper} {dst : Option Tmp} {ty T : TypeId} {pos : String} {after : Array Edge} {gd : Option (Nat × Bool)} {R : Value → World → Prop} {cs : Array Value} {ps : Array (Nat × Operand)} {vs : Array (Nat × Value)}
/-- A literal built. -/
theorem wbl (hr : ∀ w, (Instr.build T vs).run Tryd.prog w = .ok (.agg cs) w) (hm : ps.map (fun (i, x) => (i, a.eval x)) = vs) (h : wpList Tryd.prog ops Q rest (a.put dst (.agg cs)) w) :
    wpList Tryd.prog ops Q (⟨dst, .build T ps, ty, pos, after, none⟩ :: rest) a w := by
  refine wpList_plain rfl fun K hK => ?_
  unfold Oper.wp execOp
  simp only [Sem.run_bind, hm, hr, Result.andThen_ok, Sem.run_pure]
  exact hK _ _ h
theorem gE_bl (hr : ∀ w, (Instr.build T vs).run Tryd.prog w = .ok (.agg cs) w) (hm : ps.map (fun (i, x) => (i, a.eval x)) = vs) (hR : R (.agg cs) w) : GivesE Tryd.prog ⟨dst, .build T ps, ty, pos, after, gd⟩ a w R := by
  unfold GivesE
  simp only [execOp, Sem.run_bind, hm, hr, Result.andThen_ok, Sem.run_pure]
  exact hR
end
def k3 (j : Nat) : Nat := if j = 0 then 3 else 0
def s12 (j : Nat) : Nat := if j = 0 then 1 else if j = 63 then 2 else 0
def g1 (j : Nat) : Nat := if j = 0 then 1 else 0
def g2 (j : Nat) : Nat := if j = 0 then 2 else 0
theorem k3_lt (j : Nat) : k3 j < 256 := by unfold k3; split <;> omega
theorem s12_lt (j : Nat) : s12 j < 256 := by
  unfold s12
  split
  · omega
  · split <;> omega
theorem built_k3 (w : World) : (Instr.build 23 #[(0, .int .u8 3)]).run Tryd.prog w = .ok (.agg (ar 32 k3)) w := run_build w _ _ _ (by kernel_rfl)
theorem built_s12 (w : World) : (Instr.build 25 #[(0, .int .u8 1), (63, .int .u8 2)]).run Tryd.prog w = .ok (.agg (ar 64 s12)) w := run_build w _ _ _ (by kernel_rfl)
theorem built_g1 (w : World) : (Instr.build 29 #[(0, .int .u8 1)]).run Tryd.prog w = .ok (.agg (ar 32 g1)) w := run_build w _ _ _ (by kernel_rfl)
theorem built_g2 (w : World) : (Instr.build 29 #[(0, .int .u8 2)]).run Tryd.prog w = .ok (.agg (ar 32 g2)) w := run_build w _ _ _ (by kernel_rfl)
def lAB : List Nat := [97, 98]
def lB : List Nat := [98]
def sAB : ByteArray := ⟨#[66, 1, 0, 0, 0, 2, 97, 98]⟩
theorem key_argW {w : World} {g : Nat} {t : TypeId} {k : Nat → Nat} (h : Blk w g t (ar 32 k)) : Byt w w.heap.size (some ⟨g, 0, none⟩) (HmM.dl k) := fun _ =>
  ⟨g, 0, rfl, h.lt, fun i hi => by rw [HmM.dl_length] at hi; rw [Nat.zero_add, h.cell, get_ar hi, HmM.dl_get _ hi]⟩
theorem sAB_eq : str (plainT 66 lAB) = sAB := by decide +kernel
theorem lAB_256 : B256 lAB := fun x hx => by unfold lAB at hx; simp at hx; omega
theorem lB_256 : B256 lB := fun x hx => by unfold lB at hx; simp at hx; omega
set_option maxHeartbeats 400000 in
set_option maxRecDepth 100000 in
theorem known_law17 (H : LeafC) (R : RestC) (J : JoinC) (T : TagC) (w : World) (hS : Salts w) :
    Calls Tryd.prog 5 #[] w fun e w' => e = .returned (.bool true) ∧ Below w.heap.size w w' := by
  have AW := hid fun w => awake_any H w
  have HB := hid (fun (A : Option Addr) c w h => R.bodyText A lAB 2 c (by omega) w h)
  have HH := hid (fun (A : Option Addr) c w h => R.headText A lB 1 c (by omega) w h)
  have HN := hid (R.nodeText 1 (by omega) s12 s12_lt)
  have TN := hid (fun w h => T.node k3 k3_lt 1 (by omega) s12 s12_lt w h)
  have TH := hid (fun (A : Option Addr) c w h hS => T.head k3 k3_lt A lB 1 c (by omega) w h hS)
  have HJ := hid J.join
  have HP := hid (show ∀ w : World, Calls Tryd.prog 9 #[.agg (ar 64 (joined g1 g2))] w fun e w' => e = .returned (.tuple #[.agg (ar 32 g1), .agg (ar 32 g2)]) ∧ Below w.heap.size w w' from fun w => by
    have h := J.split (joined g1 g2) w
    rw [joined_left, joined_right] at h
    exact h)
  have SA := hid hS
  unfold tagN at TN TH
  have X6 := hid (plainT_256 (d := 66) (by omega) lAB_256)
  have Y6 := hid (numT_256 (d := 78) (by omega) 1 s12_lt)
  have Z6 := hid (plainT_256 (d := 72) (by omega) lB_256)
  have YL := hid (numT_length (d := 78) (num := 1) (s := s12))
  have ZL := hid (plainT_length (d := 72) (l := lB))
  have XE := hid sAB_eq
  obtain ⟨X, hX⟩ : ∃ X, X = plainT 66 lAB := ⟨_, rfl⟩
  obtain ⟨Y, hY⟩ : ∃ Y, Y = numT 78 1 s12 := ⟨_, rfl⟩
  obtain ⟨Z, hZ⟩ : ∃ Z, Z = plainT 72 lB := ⟨_, rfl⟩
  rw [← hX] at HB X6 XE
  rw [← hY] at HN TN Y6 YL
  rw [← hZ] at HH TH Z6 ZL
  obtain ⟨F, hF⟩ : ∃ F, F = HmM.tag (HmM.dl k3) Y := ⟨_, rfl⟩
  obtain ⟨G, hG⟩ : ∃ G, G = HmM.tag (HmM.dl k3) Z := ⟨_, rfl⟩
  have HF := hid hF
  have HG := hid hG
  rw [← hF] at TN
  rw [← hG] at TH
  clear hX hY hZ hF hG H R J T hS
  go_enter Tryd.func5, Tryd.ntmps5
  go_upto_region 1 with fail
  have hz1 : Blk ((w.alloc (.cells (ar 32 fun _ => 0) 23)).alloc (.cells (ar 64 fun _ => 0) 25)) w.heap.size 23 (ar 32 fun _ => 0) := (Blk.new _ _ _).alloc _
  have hz2 : Blk (((w.alloc (.cells (ar 32 fun _ => 0) 23)).alloc (.cells (ar 64 fun _ => 0) 25)).setRow w.heap.size (ar 32 k3)) (w.alloc (.cells (ar 32 fun _ => 0) 23)).heap.size 25 (ar 64 fun _ => 0) := (Blk.new _ _ _).setRow_other (by simp) _
  go_upto_region 2 with (first | ((with_reducible apply wbl built_k3); (simp only [List.map_toArray, List.map_cons, List.map_nil]; rfl)) | ((with_reducible apply wbl built_s12); (simp only [List.map_toArray, List.map_cons, List.map_nil]; rfl)) | (with_reducible apply alA tK) | (with_reducible apply alA tS) | ((with_reducible apply stA tK); rfl; rfl; exact hz1) | ((with_reducible apply stA tS); rfl; rfl; exact hz2))
  rw [show (w.alloc (.cells (ar 32 fun _ => 0) 23)).heap.size = w.heap.size + 1 by simp] at hz2 ⊢
  generalize hw1 : World.setRow _ (w.heap.size + 1) _ = w1
  have z0 := hid (show Blk w1 w.heap.size 23 (ar 32 k3) by rw [← hw1]; exact (hz1.setRow_same _).setRow_other (by omega) _)
  have z1 := hid (show Blk w1 (w.heap.size + 1) 25 (ar 64 s12) by rw [← hw1]; exact hz2.setRow_same _)
  have hb := hid (show Below w.heap.size w w1 by rw [← hw1]; exact below_setRow (below_setRow (((Below.refl _ _).alloc (Nat.le_refl _) _).alloc (by simp) _) (by omega) _) (by omega) _)
  clear hw1 hz1 hz2
  go_wp2_with (first | ((with_reducible apply wbl built_g1); (simp only [List.map_toArray, List.map_cons, List.map_nil]; rfl)) | ((with_reducible apply wbl built_g2); (simp only [List.map_toArray, List.map_cons, List.map_nil]; rfl)))
  refine (HJ.out g1 g2 w1).mono ?_
  rintro e w2 ⟨rfl, h2⟩
  have y0 := hid (z0.out.below h2 z0.out.lt)
  have y1 := hid (z1.out.below h2 z1.out.lt)
  have yb := hid (hb.out.trans (h2.mono hb.out.size))
  clear z0 z1 hb h2
  go_wp2_with fail
  refine (HP.out w2).mono ?_
  rintro e w3 ⟨rfl, h3⟩
  have x0 := hid (y0.out.below h3 y0.out.lt)
  have x1 := hid (y1.out.below h3 y1.out.lt)
  have xb := hid (yb.out.trans (h3.mono yb.out.size))
  clear y0 y1 yb h3
  have hl := x1.out.lt
  have hz1 : Blk ((w3.alloc (.cells (ar 32 fun _ => 0) 29)).alloc (.cells (ar 32 fun _ => 0) 29)) w3.heap.size 29 (ar 32 fun _ => 0) := (Blk.new _ _ _).alloc _
  have hz2 : Blk (((w3.alloc (.cells (ar 32 fun _ => 0) 29)).alloc (.cells (ar 32 fun _ => 0) 29)).setRow w3.heap.size (ar 32 g1)) (w3.alloc (.cells (ar 32 fun _ => 0) 29)).heap.size 29 (ar 32 fun _ => 0) := (Blk.new _ _ _).setRow_other (by simp) _
  go_upto_region 3 with (first | (with_reducible apply alA tT) | ((with_reducible apply stA tT); rfl; rfl; exact hz1) | ((with_reducible apply stA tT); rfl; rfl; exact hz2))
  have hgs : (w3.alloc (.cells (ar 32 fun _ => 0) 29)).heap.size = w3.heap.size + 1 := by simp
  rw [hgs] at hz2 ⊢
  clear hgs
  obtain ⟨gt, hgt⟩ : ∃ gt, gt = w3.heap.size := ⟨_, rfl⟩
  rw [← hgt] at hz1 hz2 hl ⊢
  generalize hw4 : World.setRow _ (gt + 1) _ = w4
  have v2 := hid (show Blk w4 gt 29 (ar 32 g1) by rw [← hw4]; exact (hz1.setRow_same _).setRow_other (by omega) _)
  have v3 := hid (show Blk w4 (gt + 1) 29 (ar 32 g2) by rw [← hw4]; exact hz2.setRow_same _)
  have v0 := hid (show Blk w4 w.heap.size 23 (ar 32 k3) by rw [← hw4]; exact (((x0.out.alloc _).alloc _).setRow_other (by omega) _).setRow_other (by omega) _)
  have v1 := hid (show Blk w4 (w.heap.size + 1) 25 (ar 64 s12) by rw [← hw4]; exact (((x1.out.alloc _).alloc _).setRow_other (by omega) _).setRow_other (by omega) _)
  have vb := hid (show Below w.heap.size w w4 by rw [← hw4]; exact below_setRow (below_setRow ((xb.out.alloc xb.out.size _).alloc (by simp; have := xb.out.size; omega) _) (by omega) _) (by omega) _)
  have SA4 := hid (SA.out.on vb.out)
  clear hw4 hz1 hz2 hgt x0 x1 xb SA
  refine wp_region_ck [some (.bool true), some (.bool true), none, none, none, some (.string (str X)), some (.bool true), some (.bool true), some (.bool true), some (.agg (ar 32 k3)), some (.agg (ar 64 s12)), some (.agg (ar 32 F)), some (.slice (some ⟨w.heap.size, 0, none⟩) 32 32), some (.agg (ar 64 s12)), none, some (.agg (ar 32 F)), some (.bool true), some (.bool true), some (.bool true), some (.agg (ar 32 k3)), none, none, some (.agg (ar 32 G)), some (.slice (some ⟨w.heap.size, 0, none⟩) 32 32), none, none, none, some (.agg (ar 32 G)), some (.bool true), some (.bool true), some (.bool true), some (.agg (ar 32 g1)), some (.agg (ar 32 g1)), some (.bool true), some (.bool true), some (.bool true), some (.agg (ar 32 g2)), some (.agg (ar 32 g2)), some (.bool true), some (.bool true)] [(2, lAB), (3, lAB), (20, lB), (21, lB), (24, lB), (25, lB)] [(4, X), (14, Y), (26, Z)] 40 (by kernel_rfl) (by kernel_rfl) (by kernel_rfl) fun vs => ?_
  simp only [List.take_succ_cons, List.take_zero, List.drop_succ_cons, List.drop_zero]
  refine ⟨.inl ⟨rfl, fun dd w' hd hC hDs => ?_⟩, fun e => ?_⟩
  · go_simp
    refine (AW.out w').mono ?_
    rintro e w2 ⟨rfl, h2⟩
    exact ⟨_, rfl, rfl, hC.trans (h2.mono hC.size), Cells.of_below h2, kD_none rfl rfl⟩
  have e' : vs 0 = _ := e
  rw [e']
  clear e e'
  simp only [Act.put, List.setIfInBounds_toArray, List.set_cons_succ, List.set_cons_zero]
  refine ⟨.inl ⟨rfl, fun dd w' hd hC hDs => ?_⟩, fun e => ?_⟩
  · go_simp
    first | exact ⟨rfl, hC, Cells.of_below (Below.refl _ _), kD_none rfl rfl⟩ | exact ⟨rfl, Cells.of_below (Below.refl _ _), kD_none rfl rfl⟩ | exact ⟨hC, Cells.of_below (Below.refl _ _), kD_none rfl rfl⟩
  have e' : vs 1 = _ := e
  rw [e']
  clear e e'
  simp only [Act.put, List.setIfInBounds_toArray, List.set_cons_succ, List.set_cons_zero]
  refine ⟨.inl ⟨rfl, fun dd w' hd hC hDs => ?_⟩, fun e => ?_⟩
  · go_simp
    exact ⟨⟨_, _, rfl⟩, hC.alloc hC.size _, Cells.of_below ((Below.refl _ _).alloc (Nat.le_refl _) _), kD_lit (l := lAB) rfl rfl hC.size (heap_alloc_new w' _)⟩
  obtain ⟨A2, c2, e'⟩ : ∃ (A : Option Addr) (c : Nat), vs 2 = .slice A _ c := e
  rw [e']
  have E2 := hid e'
  clear e'
  simp only [Act.put, List.setIfInBounds_toArray, List.set_cons_succ, List.set_cons_zero]
  refine ⟨.inl ⟨rfl, fun dd w' hd hC hDs => ?_⟩, fun e => ?_⟩
  · obtain ⟨g7, fr7, f7, b7, q7⟩ := (hDs 2 (by kernel_rfl)).1 lAB rfl
    rw [E2.out] at f7
    cases f7
    have hrun := run_conv_const (n := lAB.length) (c := lAB.length) q7
    obtain ⟨fr', q8⟩ := freeze_block (m := (nums .u8 lAB).toArray.size) q7
    go_simp
    exact ⟨⟨_, _, rfl⟩, freeze_below hC b7, freeze_cells q7, kD_lit rfl rfl b7 q8⟩
  obtain ⟨A3, c3, e'⟩ : ∃ (A : Option Addr) (c : Nat), vs 3 = .slice A _ c := e
  rw [e']
  have E3 := hid e'
  clear e'
  simp only [Act.put, List.setIfInBounds_toArray, List.set_cons_succ, List.set_cons_zero]
  refine ⟨.inl ⟨rfl, fun dd w' hd hC hDs => ?_⟩, fun e => ?_⟩
  · obtain ⟨g7, fr7, f7, b7, q7⟩ := (hDs 3 (by kernel_rfl)).1 lAB rfl
    rw [E3.out] at f7
    cases f7
    have a7 := lit_arg q7 lAB_256 (by unfold maxLen lAB; decide)
    go_simp
    refine (HB.out _ _ w' a7).mono ?_
    rintro e w2 ⟨v, rfl, o2, h2⟩
    exact ⟨_, rfl, own_sl o2 X6.out, hC.trans (h2.mono hC.size), Cells.of_below h2, kD_own rfl rfl o2 X6.out⟩
  obtain ⟨A4, c4, e'⟩ : ∃ (A : Option Addr) (c : Nat), vs 4 = .slice A _ c := e
  rw [e']
  have E4 := hid e'
  clear e'
  simp only [Act.put, List.setIfInBounds_toArray, List.set_cons_succ, List.set_cons_zero]
  refine ⟨.inl ⟨rfl, fun dd w' hd hC hDs => ?_⟩, fun e => ?_⟩
  · obtain ⟨B7, k7, f7, a7⟩ := (hDs 4 (by kernel_rfl)).2 X rfl
    rw [E4.out] at f7
    cases f7
    have h1 := a7.str
    go_simp
    first | exact ⟨rfl, hC, Cells.of_below (Below.refl _ _), kD_none rfl rfl⟩ | exact ⟨rfl, Cells.of_below (Below.refl _ _), kD_none rfl rfl⟩ | exact ⟨hC, Cells.of_below (Below.refl _ _), kD_none rfl rfl⟩
  have e' : vs 5 = _ := e
  rw [e']
  clear e e'
  simp only [Act.put, List.setIfInBounds_toArray, List.set_cons_succ, List.set_cons_zero]
  refine ⟨.inl ⟨rfl, fun dd w' hd hC hDs => ?_⟩, fun e => ?_⟩
  · have h1 : ((str X).toList == [66, 1, 0, 0, 0, 2, 97, 98]) = true := by rw [XE.out]; decide +kernel
    go_simp
    first | exact ⟨rfl, hC, Cells.of_below (Below.refl _ _), kD_none rfl rfl⟩ | exact ⟨rfl, Cells.of_below (Below.refl _ _), kD_none rfl rfl⟩ | exact ⟨hC, Cells.of_below (Below.refl _ _), kD_none rfl rfl⟩
  have e' : vs 6 = _ := e
  rw [e']
  clear e e'
  simp only [Act.put, List.setIfInBounds_toArray, List.set_cons_succ, List.set_cons_zero]
  refine ⟨.inl ⟨rfl, fun dd w' hd hC hDs => ?_⟩, fun e => ?_⟩
  · go_simp
    first | exact ⟨rfl, hC, Cells.of_below (Below.refl _ _), kD_none rfl rfl⟩ | exact ⟨rfl, Cells.of_below (Below.refl _ _), kD_none rfl rfl⟩ | exact ⟨hC, Cells.of_below (Below.refl _ _), kD_none rfl rfl⟩
  have e' : vs 7 = _ := e
  rw [e']
  clear e e'
  simp only [Act.put, List.setIfInBounds_toArray, List.set_cons_succ, List.set_cons_zero]
  refine ⟨.inl ⟨rfl, fun dd w' hd hC hDs => ?_⟩, fun e => ?_⟩
  · go_simp
    first | exact ⟨rfl, hC, Cells.of_below (Below.refl _ _), kD_none rfl rfl⟩ | exact ⟨rfl, Cells.of_below (Below.refl _ _), kD_none rfl rfl⟩ | exact ⟨hC, Cells.of_below (Below.refl _ _), kD_none rfl rfl⟩
  have e' : vs 8 = _ := e
  rw [e']
  clear e e'
  simp only [Act.put, List.setIfInBounds_toArray, List.set_cons_succ, List.set_cons_zero]
  refine ⟨.inl ⟨rfl, fun dd w' hd hC hDs => ?_⟩, fun e => ?_⟩
  · exact gE_ldA tK rfl ((v0.out.below hC v0.out.lt).head) ⟨rfl, hC, Cells.of_below (Below.refl _ _), kD_none rfl rfl⟩
  have e' : vs 9 = _ := e
  rw [e']
  clear e e'
  simp only [Act.put, List.setIfInBounds_toArray, List.set_cons_succ, List.set_cons_zero]
  refine ⟨.inl ⟨rfl, fun dd w' hd hC hDs => ?_⟩, fun e => ?_⟩
  · exact gE_ldA tS rfl ((v1.out.below hC v1.out.lt).head) ⟨rfl, hC, Cells.of_below (Below.refl _ _), kD_none rfl rfl⟩
  have e' : vs 10 = _ := e
  rw [e']
  clear e e'
  simp only [Act.put, List.setIfInBounds_toArray, List.set_cons_succ, List.set_cons_zero]
  refine ⟨.inl ⟨rfl, fun dd w' hd hC hDs => ?_⟩, fun e => ?_⟩
  · go_simp
    refine (TN.out w' (SA4.out.on hC)).mono ?_
    rintro e w2 ⟨rfl, h2⟩
    exact ⟨_, rfl, rfl, hC.trans (h2.mono hC.size), Cells.of_below h2, kD_none rfl rfl⟩
  have e' : vs 11 = _ := e
  rw [e']
  clear e e'
  simp only [Act.put, List.setIfInBounds_toArray, List.set_cons_succ, List.set_cons_zero]
  refine ⟨.inl ⟨rfl, fun dd w' hd hC hDs => ?_⟩, fun e => ?_⟩
  · go_simp
    first | exact ⟨rfl, hC, Cells.of_below (Below.refl _ _), kD_none rfl rfl⟩ | exact ⟨rfl, Cells.of_below (Below.refl _ _), kD_none rfl rfl⟩ | exact ⟨hC, Cells.of_below (Below.refl _ _), kD_none rfl rfl⟩
  have e' : vs 12 = _ := e
  rw [e']
  clear e e'
  simp only [Act.put, List.setIfInBounds_toArray, List.set_cons_succ, List.set_cons_zero]
  refine ⟨.inl ⟨rfl, fun dd w' hd hC hDs => ?_⟩, fun e => ?_⟩
  · exact gE_ldA tS rfl ((v1.out.below hC v1.out.lt).head) ⟨rfl, hC, Cells.of_below (Below.refl _ _), kD_none rfl rfl⟩
  have e' : vs 13 = _ := e
  rw [e']
  clear e e'
  simp only [Act.put, List.setIfInBounds_toArray, List.set_cons_succ, List.set_cons_zero]
  refine ⟨.inl ⟨rfl, fun dd w' hd hC hDs => ?_⟩, fun e => ?_⟩
  · go_simp
    refine (HN.out w').mono ?_
    rintro e w2 ⟨v, rfl, o2, h2⟩
    exact ⟨_, rfl, own_sl o2 Y6.out, hC.trans (h2.mono hC.size), Cells.of_below h2, kD_own rfl rfl o2 Y6.out⟩
  obtain ⟨A14, c14, e'⟩ : ∃ (A : Option Addr) (c : Nat), vs 14 = .slice A _ c := e
  rw [e']
  have E14 := hid e'
  clear e'
  simp only [Act.put, List.setIfInBounds_toArray, List.set_cons_succ, List.set_cons_zero]
  refine ⟨.inl ⟨rfl, fun dd w' hd hC hDs => ?_⟩, fun e => ?_⟩
  · obtain ⟨B7, k7, f7, a7⟩ := (hDs 14 (by kernel_rfl)).2 Y rfl
    rw [E14.out] at f7
    cases f7
    go_simp
    have v0' := v0.out.below hC v0.out.lt
    have hh := hof_any (some ⟨w.heap.size, 0, none⟩) (HmM.dl k3) 32 32 (HmM.dl_length k3) (Nat.le_refl _) (by unfold maxLen; omega) (by omega) (HmM.dl_256 k3_lt) A14 Y Y.length c14 rfl a7.cap a7.max a7.b256 (by rw [YL.out]; simp [lB]) w' (key_argW v0') a7.byt (SA4.out.on hC)
    rw [show tag (HmM.tag (HmM.dl k3) Y) = ar 32 (HmM.tag (HmM.dl k3) Y) from rfl, ← HF.out] at hh
    refine (hh).mono ?_
    rintro e w2 ⟨rfl, h2⟩
    exact ⟨_, rfl, rfl, hC.trans (h2.mono hC.size), Cells.of_below h2, kD_none rfl rfl⟩
  have e' : vs 15 = _ := e
  rw [e']
  clear e e'
  simp only [Act.put, List.setIfInBounds_toArray, List.set_cons_succ, List.set_cons_zero]
  refine ⟨.inl ⟨rfl, fun dd w' hd hC hDs => ?_⟩, fun e => ?_⟩
  · exact gE_eqU uT eqgT rfl rfl ⟨by rw [eqA_self]; rfl, hC, Cells.of_below (Below.refl _ _), kD_none rfl rfl⟩
  have e' : vs 16 = _ := e
  rw [e']
  clear e e'
  simp only [Act.put, List.setIfInBounds_toArray, List.set_cons_succ, List.set_cons_zero]
  refine ⟨.inl ⟨rfl, fun dd w' hd hC hDs => ?_⟩, fun e => ?_⟩
  · go_simp
    first | exact ⟨rfl, hC, Cells.of_below (Below.refl _ _), kD_none rfl rfl⟩ | exact ⟨rfl, Cells.of_below (Below.refl _ _), kD_none rfl rfl⟩ | exact ⟨hC, Cells.of_below (Below.refl _ _), kD_none rfl rfl⟩
  have e' : vs 17 = _ := e
  rw [e']
  clear e e'
  simp only [Act.put, List.setIfInBounds_toArray, List.set_cons_succ, List.set_cons_zero]
  refine ⟨.inl ⟨rfl, fun dd w' hd hC hDs => ?_⟩, fun e => ?_⟩
  · go_simp
    first | exact ⟨rfl, hC, Cells.of_below (Below.refl _ _), kD_none rfl rfl⟩ | exact ⟨rfl, Cells.of_below (Below.refl _ _), kD_none rfl rfl⟩ | exact ⟨hC, Cells.of_below (Below.refl _ _), kD_none rfl rfl⟩
  have e' : vs 18 = _ := e
  rw [e']
  clear e e'
  simp only [Act.put, List.setIfInBounds_toArray, List.set_cons_succ, List.set_cons_zero]
  refine ⟨.inl ⟨rfl, fun dd w' hd hC hDs => ?_⟩, fun e => ?_⟩
  · exact gE_ldA tK rfl ((v0.out.below hC v0.out.lt).head) ⟨rfl, hC, Cells.of_below (Below.refl _ _), kD_none rfl rfl⟩
  have e' : vs 19 = _ := e
  rw [e']
  clear e e'
  simp only [Act.put, List.setIfInBounds_toArray, List.set_cons_succ, List.set_cons_zero]
  refine ⟨.inl ⟨rfl, fun dd w' hd hC hDs => ?_⟩, fun e => ?_⟩
  · go_simp
    exact ⟨⟨_, _, rfl⟩, hC.alloc hC.size _, Cells.of_below ((Below.refl _ _).alloc (Nat.le_refl _) _), kD_lit (l := lB) rfl rfl hC.size (heap_alloc_new w' _)⟩
  obtain ⟨A20, c20, e'⟩ : ∃ (A : Option Addr) (c : Nat), vs 20 = .slice A _ c := e
  rw [e']
  have E20 := hid e'
  clear e'
  simp only [Act.put, List.setIfInBounds_toArray, List.set_cons_succ, List.set_cons_zero]
  refine ⟨.inl ⟨rfl, fun dd w' hd hC hDs => ?_⟩, fun e => ?_⟩
  · obtain ⟨g7, fr7, f7, b7, q7⟩ := (hDs 20 (by kernel_rfl)).1 lB rfl
    rw [E20.out] at f7
    cases f7
    have hrun := run_conv_const (n := lB.length) (c := lB.length) q7
    obtain ⟨fr', q8⟩ := freeze_block (m := (nums .u8 lB).toArray.size) q7
    go_simp
    exact ⟨⟨_, _, rfl⟩, freeze_below hC b7, freeze_cells q7, kD_lit rfl rfl b7 q8⟩
  obtain ⟨A21, c21, e'⟩ : ∃ (A : Option Addr) (c : Nat), vs 21 = .slice A _ c := e
  rw [e']
  have E21 := hid e'
  clear e'
  simp only [Act.put, List.setIfInBounds_toArray, List.set_cons_succ, List.set_cons_zero]
  refine ⟨.inl ⟨rfl, fun dd w' hd hC hDs => ?_⟩, fun e => ?_⟩
  · obtain ⟨g7, fr7, f7, b7, q7⟩ := (hDs 21 (by kernel_rfl)).1 lB rfl
    rw [E21.out] at f7
    cases f7
    have a7 := lit_arg q7 lB_256 (by unfold maxLen lB; decide)
    go_simp
    refine (TH.out _ _ w' a7 (SA4.out.on hC)).mono ?_
    rintro e w2 ⟨rfl, h2⟩
    exact ⟨_, rfl, rfl, hC.trans (h2.mono hC.size), Cells.of_below h2, kD_none rfl rfl⟩
  have e' : vs 22 = _ := e
  rw [e']
  clear e e'
  simp only [Act.put, List.setIfInBounds_toArray, List.set_cons_succ, List.set_cons_zero]
  refine ⟨.inl ⟨rfl, fun dd w' hd hC hDs => ?_⟩, fun e => ?_⟩
  · go_simp
    first | exact ⟨rfl, hC, Cells.of_below (Below.refl _ _), kD_none rfl rfl⟩ | exact ⟨rfl, Cells.of_below (Below.refl _ _), kD_none rfl rfl⟩ | exact ⟨hC, Cells.of_below (Below.refl _ _), kD_none rfl rfl⟩
  have e' : vs 23 = _ := e
  rw [e']
  clear e e'
  simp only [Act.put, List.setIfInBounds_toArray, List.set_cons_succ, List.set_cons_zero]
  refine ⟨.inl ⟨rfl, fun dd w' hd hC hDs => ?_⟩, fun e => ?_⟩
  · go_simp
    exact ⟨⟨_, _, rfl⟩, hC.alloc hC.size _, Cells.of_below ((Below.refl _ _).alloc (Nat.le_refl _) _), kD_lit (l := lB) rfl rfl hC.size (heap_alloc_new w' _)⟩
  obtain ⟨A24, c24, e'⟩ : ∃ (A : Option Addr) (c : Nat), vs 24 = .slice A _ c := e
  rw [e']
  have E24 := hid e'
  clear e'
  simp only [Act.put, List.setIfInBounds_toArray, List.set_cons_succ, List.set_cons_zero]
  refine ⟨.inl ⟨rfl, fun dd w' hd hC hDs => ?_⟩, fun e => ?_⟩
  · obtain ⟨g7, fr7, f7, b7, q7⟩ := (hDs 24 (by kernel_rfl)).1 lB rfl
    rw [E24.out] at f7
    cases f7
    have hrun := run_conv_const (n := lB.length) (c := lB.length) q7
    obtain ⟨fr', q8⟩ := freeze_block (m := (nums .u8 lB).toArray.size) q7
    go_simp
    exact ⟨⟨_, _, rfl⟩, freeze_below hC b7, freeze_cells q7, kD_lit rfl rfl b7 q8⟩
  obtain ⟨A25, c25, e'⟩ : ∃ (A : Option Addr) (c : Nat), vs 25 = .slice A _ c := e
  rw [e']
  have E25 := hid e'
  clear e'
  simp only [Act.put, List.setIfInBounds_toArray, List.set_cons_succ, List.set_cons_zero]
  refine ⟨.inl ⟨rfl, fun dd w' hd hC hDs => ?_⟩, fun e => ?_⟩
  · obtain ⟨g7, fr7, f7, b7, q7⟩ := (hDs 25 (by kernel_rfl)).1 lB rfl
    rw [E25.out] at f7
    cases f7
    have a7 := lit_arg q7 lB_256 (by unfold maxLen lB; decide)
    go_simp
    refine (HH.out _ _ w' a7).mono ?_
    rintro e w2 ⟨v, rfl, o2, h2⟩
    exact ⟨_, rfl, own_sl o2 Z6.out, hC.trans (h2.mono hC.size), Cells.of_below h2, kD_own rfl rfl o2 Z6.out⟩
  obtain ⟨A26, c26, e'⟩ : ∃ (A : Option Addr) (c : Nat), vs 26 = .slice A _ c := e
  rw [e']
  have E26 := hid e'
  clear e'
  simp only [Act.put, List.setIfInBounds_toArray, List.set_cons_succ, List.set_cons_zero]
  refine ⟨.inl ⟨rfl, fun dd w' hd hC hDs => ?_⟩, fun e => ?_⟩
  · obtain ⟨B7, k7, f7, a7⟩ := (hDs 26 (by kernel_rfl)).2 Z rfl
    rw [E26.out] at f7
    cases f7
    go_simp
    have v0' := v0.out.below hC v0.out.lt
    have hh := hof_any (some ⟨w.heap.size, 0, none⟩) (HmM.dl k3) 32 32 (HmM.dl_length k3) (Nat.le_refl _) (by unfold maxLen; omega) (by omega) (HmM.dl_256 k3_lt) A26 Z Z.length c26 rfl a7.cap a7.max a7.b256 (by rw [ZL.out]; simp [lB]) w' (key_argW v0') a7.byt (SA4.out.on hC)
    rw [show tag (HmM.tag (HmM.dl k3) Z) = ar 32 (HmM.tag (HmM.dl k3) Z) from rfl, ← HG.out] at hh
    refine (hh).mono ?_
    rintro e w2 ⟨rfl, h2⟩
    exact ⟨_, rfl, rfl, hC.trans (h2.mono hC.size), Cells.of_below h2, kD_none rfl rfl⟩
  have e' : vs 27 = _ := e
  rw [e']
  clear e e'
  simp only [Act.put, List.setIfInBounds_toArray, List.set_cons_succ, List.set_cons_zero]
  refine ⟨.inl ⟨rfl, fun dd w' hd hC hDs => ?_⟩, fun e => ?_⟩
  · exact gE_eqU uT eqgT rfl rfl ⟨by rw [eqA_self]; rfl, hC, Cells.of_below (Below.refl _ _), kD_none rfl rfl⟩
  have e' : vs 28 = _ := e
  rw [e']
  clear e e'
  simp only [Act.put, List.setIfInBounds_toArray, List.set_cons_succ, List.set_cons_zero]
  refine ⟨.inl ⟨rfl, fun dd w' hd hC hDs => ?_⟩, fun e => ?_⟩
  · go_simp
    first | exact ⟨rfl, hC, Cells.of_below (Below.refl _ _), kD_none rfl rfl⟩ | exact ⟨rfl, Cells.of_below (Below.refl _ _), kD_none rfl rfl⟩ | exact ⟨hC, Cells.of_below (Below.refl _ _), kD_none rfl rfl⟩
  have e' : vs 29 = _ := e
  rw [e']
  clear e e'
  simp only [Act.put, List.setIfInBounds_toArray, List.set_cons_succ, List.set_cons_zero]
  refine ⟨.inl ⟨rfl, fun dd w' hd hC hDs => ?_⟩, fun e => ?_⟩
  · go_simp
    first | exact ⟨rfl, hC, Cells.of_below (Below.refl _ _), kD_none rfl rfl⟩ | exact ⟨rfl, Cells.of_below (Below.refl _ _), kD_none rfl rfl⟩ | exact ⟨hC, Cells.of_below (Below.refl _ _), kD_none rfl rfl⟩
  have e' : vs 30 = _ := e
  rw [e']
  clear e e'
  simp only [Act.put, List.setIfInBounds_toArray, List.set_cons_succ, List.set_cons_zero]
  refine ⟨.inl ⟨rfl, fun dd w' hd hC hDs => ?_⟩, fun e => ?_⟩
  · exact gE_ldA tT rfl ((v2.out.below hC v2.out.lt).head) ⟨rfl, hC, Cells.of_below (Below.refl _ _), kD_none rfl rfl⟩
  have e' : vs 31 = _ := e
  rw [e']
  clear e e'
  simp only [Act.put, List.setIfInBounds_toArray, List.set_cons_succ, List.set_cons_zero]
  refine ⟨.inl ⟨rfl, fun dd w' hd hC hDs => ?_⟩, fun e => ?_⟩
  · exact gE_bl built_g1 (by simp only [List.map_toArray, List.map_cons, List.map_nil]; rfl) ⟨rfl, hC, Cells.of_below (Below.refl _ _), kD_none rfl rfl⟩
  have e' : vs 32 = _ := e
  rw [e']
  clear e e'
  simp only [Act.put, List.setIfInBounds_toArray, List.set_cons_succ, List.set_cons_zero]
  refine ⟨.inl ⟨rfl, fun dd w' hd hC hDs => ?_⟩, fun e => ?_⟩
  · exact gE_eqU uT eqgT rfl rfl ⟨by rw [eqA_self]; rfl, hC, Cells.of_below (Below.refl _ _), kD_none rfl rfl⟩
  have e' : vs 33 = _ := e
  rw [e']
  clear e e'
  simp only [Act.put, List.setIfInBounds_toArray, List.set_cons_succ, List.set_cons_zero]
  refine ⟨.inl ⟨rfl, fun dd w' hd hC hDs => ?_⟩, fun e => ?_⟩
  · go_simp
    first | exact ⟨rfl, hC, Cells.of_below (Below.refl _ _), kD_none rfl rfl⟩ | exact ⟨rfl, Cells.of_below (Below.refl _ _), kD_none rfl rfl⟩ | exact ⟨hC, Cells.of_below (Below.refl _ _), kD_none rfl rfl⟩
  have e' : vs 34 = _ := e
  rw [e']
  clear e e'
  simp only [Act.put, List.setIfInBounds_toArray, List.set_cons_succ, List.set_cons_zero]
  refine ⟨.inl ⟨rfl, fun dd w' hd hC hDs => ?_⟩, fun e => ?_⟩
  · go_simp
    first | exact ⟨rfl, hC, Cells.of_below (Below.refl _ _), kD_none rfl rfl⟩ | exact ⟨rfl, Cells.of_below (Below.refl _ _), kD_none rfl rfl⟩ | exact ⟨hC, Cells.of_below (Below.refl _ _), kD_none rfl rfl⟩
  have e' : vs 35 = _ := e
  rw [e']
  clear e e'
  simp only [Act.put, List.setIfInBounds_toArray, List.set_cons_succ, List.set_cons_zero]
  refine ⟨.inl ⟨rfl, fun dd w' hd hC hDs => ?_⟩, fun e => ?_⟩
  · exact gE_ldA tT rfl ((v3.out.below hC v3.out.lt).head) ⟨rfl, hC, Cells.of_below (Below.refl _ _), kD_none rfl rfl⟩
  have e' : vs 36 = _ := e
  rw [e']
  clear e e'
  simp only [Act.put, List.setIfInBounds_toArray, List.set_cons_succ, List.set_cons_zero]
  refine ⟨.inl ⟨rfl, fun dd w' hd hC hDs => ?_⟩, fun e => ?_⟩
  · exact gE_bl built_g2 (by simp only [List.map_toArray, List.map_cons, List.map_nil]; rfl) ⟨rfl, hC, Cells.of_below (Below.refl _ _), kD_none rfl rfl⟩
  have e' : vs 37 = _ := e
  rw [e']
  clear e e'
  simp only [Act.put, List.setIfInBounds_toArray, List.set_cons_succ, List.set_cons_zero]
  refine ⟨.inl ⟨rfl, fun dd w' hd hC hDs => ?_⟩, fun e => ?_⟩
  · exact gE_eqU uT eqgT rfl rfl ⟨by rw [eqA_self]; rfl, hC, Cells.of_below (Below.refl _ _), kD_none rfl rfl⟩
  have e' : vs 38 = _ := e
  rw [e']
  clear e e'
  simp only [Act.put, List.setIfInBounds_toArray, List.set_cons_succ, List.set_cons_zero]
  refine ⟨.inl ⟨rfl, fun dd w' hd hC hDs => ?_⟩, fun e => ?_⟩
  · go_simp
    first | exact ⟨rfl, hC, Cells.of_below (Below.refl _ _), kD_none rfl rfl⟩ | exact ⟨rfl, Cells.of_below (Below.refl _ _), kD_none rfl rfl⟩ | exact ⟨hC, Cells.of_below (Below.refl _ _), kD_none rfl rfl⟩
  have e' : vs 39 = _ := e
  rw [e']
  clear e e'
  simp only [Act.put, List.setIfInBounds_toArray, List.set_cons_succ, List.set_cons_zero]
  intro dd w7 hall hC7 hDs
  have db := hid (vb.out.trans (hC7.mono vb.out.size))
  clear hall hC7 hDs v0 v1 v2 v3 vb SA4
  go_wp2_with fail
  go_ret
  exact ⟨rfl, db.out⟩
end TgP
end Go.Proofs.YtmbhibilmedjmaaDoor
