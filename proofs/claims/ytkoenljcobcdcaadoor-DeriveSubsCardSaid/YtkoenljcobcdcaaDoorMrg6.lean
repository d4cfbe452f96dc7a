/-
  The law DeriveSets.
  The law DeriveKnown.
  An append to an empty slice without room lays nothing into what is there.
  Contracts of bytes.Open and of a tape's Torn, End, tear and cut over this translation.
  Contracts of a tape's cut, Num, Bytes and Text over this translation.
  Slices of slices of bytes of the call's own.
  Contract of bytes.Parts over this translation.
  A region in the text's order, walked as one that draws it (a class of worlds is handed on; guards are read off).
  The law DeriveRows.
-/
import Derived.Test.YtkoenljcobcdcaaDoorMrg5
import Derived.OwnWalk
import Derived.Laws.Cover3
import Derived.Laws.BitsAllLaws
set_option linter.unusedVariables false
set_option linter.unusedSimpArgs false
set_option maxRecDepth 100000
namespace Go.Proofs.YtkoenljcobcdcaaDoor
open Go.ChangeShapes Go.WideShapes Go.ChangeAt Go.RowKit
attribute [local go_sem] Gives
namespace DvP
theorem trip_at {w : World} {g o : Nat} {t : TypeId} {f h l : Nat → Nat} (hb : Blk w g t (ar 96 (trip f h l))) (ho : o + 32 ≤ 96) : w.rangeAt g o (ar 32 fun i => trip f h l (o + i)).toList := hb.arRange ho
theorem trip0 {f h l : Nat → Nat} : ∀ i, i < 32 → trip f h l (0 + i) = f i := fun i hi => by unfold trip; rw [if_pos (by omega), Nat.zero_add]
theorem trip1 {f h l : Nat → Nat} : ∀ i, i < 32 → trip f h l (32 + i) = h i := fun i hi => by unfold trip; rw [if_neg (by omega), if_pos (by omega), show 32 + i - 32 = i by omega]
theorem trip2 {f h l : Nat → Nat} : ∀ i, i < 32 → trip f h l (64 + i) = l i := fun i hi => by unfold trip; rw [if_neg (by omega), if_neg (by omega), show 64 + i - 64 = i by omega]
set_option maxHeartbeats 800000 in
set_option maxRecDepth 100000 in
theorem sets_law (k l : Nat → Nat) (hk : ∀ i, k i < 256) (hl : ∀ i, l i < 256) (W : World) (hS : Salts W) :
    Calls Tryd.prog 4 #[.agg (ar 32 k), .agg (ar 32 l)] W fun e w' => e = .returned (.bool true) ∧ Below W.heap.size W w' := by
  have HK := hid hk
  have HL := hid hl
  have SA := hid hS
  clear hk hl hS
  go_enter Tryd.func4, Tryd.ntmps4
  go_upto_region 1 with fail
  generalize hw1 : World.alloc (World.alloc W _) _ = w1
  have b0 := hid (show Blk w1 W.heap.size 23 (ar 32 k) by rw [← hw1]; exact (Blk.new _ _ _).alloc _)
  have b1 := hid (show Blk w1 (W.heap.size + 1) 23 (ar 32 l) by rw [← hw1]; exact Blk.top rfl (by simp))
  have hb := hid (show Below W.heap.size W w1 by rw [← hw1]; exact ((Below.refl _ _).alloc (Nat.le_refl _) _).alloc (by simp) _)
  have sa := hid (SA.out.on hb.out)
  clear hw1 SA
  go_wp2_with ((with_reducible apply ldA tK); rfl; exact b0.out)
  refine (of_any k HK.out w1 sa.out).mono ?_
  rintro e w2 ⟨rfl, h2⟩
  obtain ⟨F, hF⟩ : ∃ F, F = sub k sTree := ⟨_, rfl⟩
  obtain ⟨G, hG⟩ : ∃ G, G = sub k sRoot := ⟨_, rfl⟩
  obtain ⟨H, hH⟩ : ∃ H, H = sub k sHead := ⟨_, rfl⟩
  have HF := hid hF
  have HG := hid hG
  have HH := hid hH
  unfold set3
  rw [← hF, ← hG, ← hH]
  have c0 := hid (b0.out.below h2 b0.out.lt)
  have c1 := hid (b1.out.below h2 b1.out.lt)
  have cb := hid (hb.out.trans (h2.mono hb.out.size))
  have cs := hid (sa.out.on h2)
  have hl2 := c1.out.lt
  clear b0 b1 hb sa h2 hF hG hH
  have hz : Blk (w2.alloc (.cells (ar 96 fun _ => 0) 28)) w2.heap.size 28 (ar 96 fun _ => 0) := Blk.new _ _ _
  obtain ⟨gs, hgs⟩ : ∃ gs, gs = w2.heap.size := ⟨_, rfl⟩
  go_upto_region 2 with (first | (with_reducible apply alA tSet) | ((with_reducible apply stA tSet); rfl; rfl; exact hz))
  rw [← hgs] at hz hl2 ⊢
  generalize hw3 : World.setRow _ _ _ = w3
  have b0 := hid (show Blk w3 W.heap.size 23 (ar 32 k) by rw [← hw3]; exact (c0.out.alloc _).setRow_other (by omega) _)
  have b1 := hid (show Blk w3 (W.heap.size + 1) 23 (ar 32 l) by rw [← hw3]; exact (c1.out.alloc _).setRow_other (by omega) _)
  have bs := hid (show Blk w3 gs 28 (ar 96 (trip F G H)) by rw [← hw3]; exact hz.setRow_same _)
  have hb := hid (show Below W.heap.size W w3 by rw [← hw3]; exact below_setRow (cb.out.alloc cb.out.size _) (by omega) _)
  have sa := hid (cs.out.on (show Below w2.heap.size w2 w3 by rw [← hw3]; exact below_setRow ((Below.refl _ _).alloc (Nat.le_refl _) _) (by omega) _))
  clear hw3 hz c0 c1 cb cs hgs
  go_wp2_with ((with_reducible apply ldA tK); rfl; exact b1.out)
  refine (pair_any l HL.out w3 sa.out).mono ?_
  rintro e w4 ⟨rfl, h4⟩
  unfold pairV
  obtain ⟨P, hP⟩ : ∃ P, P = sub l sData := ⟨_, rfl⟩
  obtain ⟨Q, hQ⟩ : ∃ Q, Q = sub l sTweak := ⟨_, rfl⟩
  have HP := hid hP
  have HQ := hid hQ
  rw [← hP, ← hQ]
  have c0 := hid (b0.out.below h4 b0.out.lt)
  have c1 := hid (b1.out.below h4 b1.out.lt)
  have cs := hid (bs.out.below h4 bs.out.lt)
  have cb := hid (hb.out.trans (h4.mono hb.out.size))
  have ct := hid (sa.out.on h4)
  have hl4 := cs.out.lt
  clear b0 b1 bs hb sa h4 hP hQ
  obtain ⟨gp, hgp⟩ : ∃ gp, gp = w4.heap.size := ⟨_, rfl⟩
  obtain ⟨gq, hgq⟩ : ∃ gq, gq = (w4.alloc (.cells (ar 32 fun _ => 0) 23)).heap.size := ⟨_, rfl⟩
  have hpq : gq = gp + 1 := by rw [hgq, hgp]; simp
  have hz1 : Blk ((w4.alloc (.cells (ar 32 fun _ => 0) 23)).alloc (.cells (ar 32 fun _ => 0) 23)) w4.heap.size 23 (ar 32 fun _ => 0) := (Blk.new _ _ _).alloc _
  have hz2 : Blk ((w4.alloc (.cells (ar 32 fun _ => 0) 23)).alloc (.cells (ar 32 fun _ => 0) 23)) (w4.alloc (.cells (ar 32 fun _ => 0) 23)).heap.size 23 (ar 32 fun _ => 0) := Blk.new _ _ _
  have hz2' := hz2.setRow_other (g' := w4.heap.size) (by simp) (ar 32 P)
  go_upto_region 3 with (first | (with_reducible apply alA tK) | ((with_reducible apply stA tK); rfl; rfl; exact hz1) | ((with_reducible apply stA tK); rfl; rfl; exact hz2'))
  rw [← hgq] at hz2 hz2' ⊢
  rw [← hgp] at hz1 hz2' hl4 ⊢
  generalize hw5 : World.setRow (World.setRow _ _ _) _ _ = w5
  have b0 := hid (show Blk w5 W.heap.size 23 (ar 32 k) by rw [← hw5]; exact (((c0.out.alloc _).alloc _).setRow_other (by omega) _).setRow_other (by omega) _)
  have b1 := hid (show Blk w5 (W.heap.size + 1) 23 (ar 32 l) by rw [← hw5]; exact (((c1.out.alloc _).alloc _).setRow_other (by omega) _).setRow_other (by omega) _)
  have bs := hid (show Blk w5 gs 28 (ar 96 (trip F G H)) by rw [← hw5]; exact (((cs.out.alloc _).alloc _).setRow_other (by omega) _).setRow_other (by omega) _)
  have bp := hid (show Blk w5 gp 23 (ar 32 P) by rw [← hw5]; exact (hz1.setRow_same _).setRow_other (by omega) _)
  have bq := hid (show Blk w5 gq 23 (ar 32 Q) by rw [← hw5]; exact hz2'.setRow_same _)
  have hb4 : Below w4.heap.size w4 w5 := by rw [← hw5]; exact below_setRow (below_setRow (((Below.refl _ _).alloc (Nat.le_refl _) _).alloc (by simp) _) (by omega) _) (by omega) _
  have hb := hid (cb.out.trans (hb4.mono cb.out.size))
  have sa := hid (ct.out.on hb4)
  clear hw5 hz1 hz2 hz2' c0 c1 cs cb ct hb4 hgp hgq
  refine wp_region_tail (C := fun w' => Below w5.heap.size w5 w') 35 (by kernel_rfl) (by kernel_rfl) (by kernel_rfl) (Below.refl _ _).drew ?_
  simp only [List.take_succ_cons, List.take_zero, List.drop_succ_cons, List.drop_zero]
  apply wpK_val
  · rfl
  · intro w' hw'
    go_simp
    first | exact rfl | exact ⟨rfl, hw'⟩
  simp only [Act.put, List.setIfInBounds_toArray, List.set_cons_succ, List.set_cons_zero]
  apply kldA tK
  · rfl
  · rfl
  · exact fun w' hw' => trip_at (bs.out.below hw' bs.out.lt) (o := 0) (by omega)
  simp only [Act.put, List.setIfInBounds_toArray, List.set_cons_succ, List.set_cons_zero]
  apply kldA tK
  · rfl
  · rfl
  · exact fun w' hw' => (b0.out.below hw' b0.out.lt).head
  simp only [Act.put, List.setIfInBounds_toArray, List.set_cons_succ, List.set_cons_zero]
  apply wpK_val
  · rfl
  · intro w' hw'
    go_simp
    exact (rsub_any k HK.out sTree (by decide) w').mono fun e w2 h => ⟨h.1, hw'.trans (h.2.mono hw'.size)⟩
  simp only [Act.put, List.setIfInBounds_toArray, List.set_cons_succ, List.set_cons_zero]
  apply keqU true uK eqg_key
  · rfl
  · rfl
  · rfl
  · exact eqA_yes fun i hi => (trip0 i hi).trans (congrFun HF.out i)
  simp only [Act.put, List.setIfInBounds_toArray, List.set_cons_succ, List.set_cons_zero]
  apply wpK_val
  · rfl
  · intro w' hw'
    go_simp
    first | exact rfl | exact ⟨rfl, hw'⟩
  simp only [Act.put, List.setIfInBounds_toArray, List.set_cons_succ, List.set_cons_zero]
  apply wpK_val
  · rfl
  · intro w' hw'
    go_simp
    first | exact rfl | exact ⟨rfl, hw'⟩
  simp only [Act.put, List.setIfInBounds_toArray, List.set_cons_succ, List.set_cons_zero]
  apply kldA tK
  · rfl
  · rfl
  · exact fun w' hw' => trip_at (bs.out.below hw' bs.out.lt) (o := 32) (by omega)
  simp only [Act.put, List.setIfInBounds_toArray, List.set_cons_succ, List.set_cons_zero]
  apply kldA tK
  · rfl
  · rfl
  · exact fun w' hw' => (b0.out.below hw' b0.out.lt).head
  simp only [Act.put, List.setIfInBounds_toArray, List.set_cons_succ, List.set_cons_zero]
  apply wpK_val
  · rfl
  · intro w' hw'
    go_simp
    exact (rsub_any k HK.out sRoot (by decide) w').mono fun e w2 h => ⟨h.1, hw'.trans (h.2.mono hw'.size)⟩
  simp only [Act.put, List.setIfInBounds_toArray, List.set_cons_succ, List.set_cons_zero]
  apply keqU true uK eqg_key
  · rfl
  · rfl
  · rfl
  · exact eqA_yes fun i hi => (trip1 i hi).trans (congrFun HG.out i)
  simp only [Act.put, List.setIfInBounds_toArray, List.set_cons_succ, List.set_cons_zero]
  apply wpK_val
  · rfl
  · intro w' hw'
    go_simp
    first | exact rfl | exact ⟨rfl, hw'⟩
  simp only [Act.put, List.setIfInBounds_toArray, List.set_cons_succ, List.set_cons_zero]
  apply wpK_val
  · rfl
  · intro w' hw'
    go_simp
    first | exact rfl | exact ⟨rfl, hw'⟩
  simp only [Act.put, List.setIfInBounds_toArray, List.set_cons_succ, List.set_cons_zero]
  apply wpK_val
  · rfl
  · intro w' hw'
    go_simp
    first | exact rfl | exact ⟨rfl, hw'⟩
  simp only [Act.put, List.setIfInBounds_toArray, List.set_cons_succ, List.set_cons_zero]
  apply kldA tK
  · rfl
  · rfl
  · exact fun w' hw' => trip_at (bs.out.below hw' bs.out.lt) (o := 64) (by omega)
  simp only [Act.put, List.setIfInBounds_toArray, List.set_cons_succ, List.set_cons_zero]
  apply kldA tK
  · rfl
  · rfl
  · exact fun w' hw' => (b0.out.below hw' b0.out.lt).head
  simp only [Act.put, List.setIfInBounds_toArray, List.set_cons_succ, List.set_cons_zero]
  apply wpK_val
  · rfl
  · intro w' hw'
    go_simp
    exact (rsub_any k HK.out sHead (by decide) w').mono fun e w2 h => ⟨h.1, hw'.trans (h.2.mono hw'.size)⟩
  simp only [Act.put, List.setIfInBounds_toArray, List.set_cons_succ, List.set_cons_zero]
  apply keqU true uK eqg_key
  · rfl
  · rfl
  · rfl
  · exact eqA_yes fun i hi => (trip2 i hi).trans (congrFun HH.out i)
  simp only [Act.put, List.setIfInBounds_toArray, List.set_cons_succ, List.set_cons_zero]
  apply wpK_val
  · rfl
  · intro w' hw'
    go_simp
    first | exact rfl | exact ⟨rfl, hw'⟩
  simp only [Act.put, List.setIfInBounds_toArray, List.set_cons_succ, List.set_cons_zero]
  apply wpK_val
  · rfl
  · intro w' hw'
    go_simp
    first | exact rfl | exact ⟨rfl, hw'⟩
  simp only [Act.put, List.setIfInBounds_toArray, List.set_cons_succ, List.set_cons_zero]
  apply kldA tK
  · rfl
  · rfl
  · exact fun w' hw' => (bp.out.below hw' bp.out.lt).head
  simp only [Act.put, List.setIfInBounds_toArray, List.set_cons_succ, List.set_cons_zero]
  apply kldA tK
  · rfl
  · rfl
  · exact fun w' hw' => (b1.out.below hw' b1.out.lt).head
  simp only [Act.put, List.setIfInBounds_toArray, List.set_cons_succ, List.set_cons_zero]
  apply wpK_val
  · rfl
  · intro w' hw'
    go_simp
    exact (rsub_any l HL.out sData (by decide) w').mono fun e w2 h => ⟨h.1, hw'.trans (h.2.mono hw'.size)⟩
  simp only [Act.put, List.setIfInBounds_toArray, List.set_cons_succ, List.set_cons_zero]
  apply keqU true uK eqg_key
  · rfl
  · rfl
  · rfl
  · exact eqA_yes fun i _ => congrFun HP.out i
  simp only [Act.put, List.setIfInBounds_toArray, List.set_cons_succ, List.set_cons_zero]
  apply wpK_val
  · rfl
  · intro w' hw'
    go_simp
    first | exact rfl | exact ⟨rfl, hw'⟩
  simp only [Act.put, List.setIfInBounds_toArray, List.set_cons_succ, List.set_cons_zero]
  apply wpK_val
  · rfl
  · intro w' hw'
    go_simp
    first | exact rfl | exact ⟨rfl, hw'⟩
  simp only [Act.put, List.setIfInBounds_toArray, List.set_cons_succ, List.set_cons_zero]
  apply kldA tK
  · rfl
  · rfl
  · exact fun w' hw' => (bq.out.below hw' bq.out.lt).head
  simp only [Act.put, List.setIfInBounds_toArray, List.set_cons_succ, List.set_cons_zero]
  apply kldA tK
  · rfl
  · rfl
  · exact fun w' hw' => (b1.out.below hw' b1.out.lt).head
  simp only [Act.put, List.setIfInBounds_toArray, List.set_cons_succ, List.set_cons_zero]
  apply wpK_val
  · rfl
  · intro w' hw'
    go_simp
    exact (rsub_any l HL.out sTweak (by decide) w').mono fun e w2 h => ⟨h.1, hw'.trans (h.2.mono hw'.size)⟩
  simp only [Act.put, List.setIfInBounds_toArray, List.set_cons_succ, List.set_cons_zero]
  apply keqU true uK eqg_key
  · rfl
  · rfl
  · rfl
  · exact eqA_yes fun i _ => congrFun HQ.out i
  simp only [Act.put, List.setIfInBounds_toArray, List.set_cons_succ, List.set_cons_zero]
  apply wpK_val
  · rfl
  · intro w' hw'
    go_simp
    first | exact rfl | exact ⟨rfl, hw'⟩
  simp only [Act.put, List.setIfInBounds_toArray, List.set_cons_succ, List.set_cons_zero]
  apply wpK_val
  · rfl
  · intro w' hw'
    go_simp
    first | exact rfl | exact ⟨rfl, hw'⟩
  simp only [Act.put, List.setIfInBounds_toArray, List.set_cons_succ, List.set_cons_zero]
  apply wpK_val
  · rfl
  · intro w' hw'
    go_simp
    exact (awake_any w' (sa.out.on hw')).mono fun e w2 h => ⟨h.1, hw'.trans (h.2.mono hw'.size)⟩
  simp only [Act.put, List.setIfInBounds_toArray, List.set_cons_succ, List.set_cons_zero]
  apply wpK_val
  · rfl
  · intro w' hw'
    go_simp
    first | exact rfl | exact ⟨rfl, hw'⟩
  simp only [Act.put, List.setIfInBounds_toArray, List.set_cons_succ, List.set_cons_zero]
  apply wpK_val
  · rfl
  · intro w' hw'
    go_simp
    first | exact rfl | exact ⟨rfl, hw'⟩
  simp only [Act.put, List.setIfInBounds_toArray, List.set_cons_succ, List.set_cons_zero]
  refine wpK_nil fun w9 hw9 => ?_
  have rb := hid (hb.out.trans (hw9.mono hb.out.size))
  clear b0 b1 bs bp bq hb sa hw9
  go_wp2_with fail
  go_ret
  exact ⟨rfl, rb.out⟩
end DvP
end Go.Proofs.YtkoenljcobcdcaaDoor
set_option maxRecDepth 100000
namespace Go.Proofs.YtkoenljcobcdcaaDoor
open Go.ChangeShapes Go.WideShapes Go.ChangeAt Go.RowKit
attribute [local go_sem] Gives
namespace DvP
def kFive : List Nat := 5 :: (List.replicate 30 0 ++ [6])
theorem five_lt : ∀ i, ls kFive i < 256 := ls_lt (by decide)
theorem built_five (w : World) : (Instr.build 23 #[(0, .int .u8 5), (31, .int .u8 6)]).run Tryd.prog w = .ok (.agg (ar 32 (ls kFive))) w := run_build w _ _ _ (by kernel_rfl)
section
variable {ops : Array Oper} {Q : Exit → Act → World → Prop} {a : Act} {w : World} {rest : List Oper} {dst : Option Tmp} {ty r : TypeId} {pos : String} {after : Array Edge} {x y z : Operand} {f g h : Nat → Nat} {gd : Option (Nat × Bool)} {C : World → Prop} {Qk : Act → Prop}
theorem map_two (i j : Nat) (u v : Value) (a : Act) : (#[(i, Operand.const u), (j, Operand.const v)] : Array (Nat × Operand)).map (fun (i, x) => (i, a.eval x)) = #[(i, u), (j, v)] := by
  simp only [List.map_toArray, List.map_cons, List.map_nil]; rfl
theorem bld_five (h : wpList Tryd.prog ops Q rest (a.put dst (.agg (ar 32 (ls kFive)))) w) : wpList Tryd.prog ops Q (⟨dst, .build 23 #[(0, .const (.int .u8 5)), (31, .const (.int .u8 6))], ty, pos, after, none⟩ :: rest) a w := by
  refine wpList_plain rfl fun K hK => ?_
  unfold Oper.wp execOp
  simp only [Sem.run_bind, map_two, built_five w, Result.andThen_ok, Sem.run_pure]
  exact hK _ _ h
theorem map_xyz (x y z : Operand) (a : Act) : (#[(0, x), (1, y), (2, z)] : Array (Nat × Operand)).map (fun (i, x) => (i, a.eval x)) = #[(0, a.eval x), (1, a.eval y), (2, a.eval z)] := by
  simp only [List.map_toArray, List.map_cons, List.map_nil]
theorem kbldSet (hwt : Region.wanted ⟨dst, .build 28 #[(0, x), (1, y), (2, z)], ty, pos, after, gd⟩ (yielded ops a.tmps) = true) (hx : a.eval x = .agg (ar 32 f)) (hy : a.eval y = .agg (ar 32 g)) (hz : a.eval z = .agg (ar 32 h))
    (hk : wpK Tryd.prog ops C Qk rest (a.put dst (.agg (ar 96 (trip f g h))))) : wpK Tryd.prog ops C Qk (⟨dst, .build 28 #[(0, x), (1, y), (2, z)], ty, pos, after, gd⟩ :: rest) a :=
  wpK_val hwt (fun w hw => gives_value (w' := w) (by simp only [execOp, Sem.run_bind, map_xyz, hx, hy, hz, built_set f g h w, Result.andThen_ok, Sem.run_pure]) hw) hk
theorem keqSet {F G : Nat → Nat} (hwt : Region.wanted ⟨dst, .binOp .eql 28 x y r, ty, pos, after, gd⟩ (yielded ops a.tmps) = true) (hx : a.eval x = .agg (ar 96 F)) (hy : a.eval y = .agg (ar 96 G)) (hFG : ∀ j, j < 96 → F j = G j)
    (hk : wpK Tryd.prog ops C Qk rest (a.put dst (.bool true))) : wpK Tryd.prog ops C Qk (⟨dst, .binOp .eql 28 x y r, ty, pos, after, gd⟩ :: rest) a :=
  wpK_val hwt (fun w hw => gives_value (w' := w) (by
    have h1 : (eqGuard .eql 28 x y (.agg (ar 96 F)) (.agg (ar 96 G))).run Tryd.prog w = .ok () w := by
      simp [eqGuard, eqg_set, go_sem]
    simp only [execOp, hx, hy, Sem.run_bind, h1, eq_set hFG w, Result.andThen_ok, Sem.run_pure]) hw) hk
end
set_option maxHeartbeats 800000 in
set_option maxRecDepth 100000 in
theorem known_law (W : World) (hS : Salts W) :
    Calls Tryd.prog 5 #[] W fun e w' => e = .returned (.bool true) ∧ Below W.heap.size W w' := by
  have SA := hid hS
  have HK := hid five_lt
  clear hS
  obtain ⟨k, hk⟩ : ∃ k, k = ls kFive := ⟨_, rfl⟩
  have HKE := hid hk
  rw [← hk] at HK
  go_enter Tryd.func5, Tryd.ntmps5
  have hz : Blk (W.alloc (.cells (ar 32 fun _ => 0) 23)) W.heap.size 23 (ar 32 fun _ => 0) := Blk.new _ _ _
  go_upto_region 2 with (first | (with_reducible apply bld_five) | (with_reducible apply alA tK) | ((with_reducible apply stA tK); rfl; rfl; exact hz))
  rw [← hk]
  clear hk
  generalize hw1 : World.setRow _ _ _ = w1
  have b0 := hid (show Blk w1 W.heap.size 23 (ar 32 k) by rw [← hw1]; exact hz.setRow_same _)
  have hb := hid (show Below W.heap.size W w1 by rw [← hw1]; exact below_setRow ((Below.refl _ _).alloc (Nat.le_refl _) _) (Nat.le_refl _) _)
  have sa := hid (SA.out.on hb.out)
  clear hw1 hz SA HKE
  go_wp2_with ((with_reducible apply ldA tK); rfl; exact b0.out)
  refine (of_any k HK.out w1 sa.out).mono ?_
  rintro e w2 ⟨rfl, h2⟩
  obtain ⟨F, hF⟩ : ∃ F, F = sub k sTree := ⟨_, rfl⟩
  obtain ⟨G, hG⟩ : ∃ G, G = sub k sRoot := ⟨_, rfl⟩
  obtain ⟨H, hH⟩ : ∃ H, H = sub k sHead := ⟨_, rfl⟩
  have HF := hid hF
  have HG := hid hG
  have HH := hid hH
  unfold set3
  rw [← hF, ← hG, ← hH]
  have c0 := hid (b0.out.below h2 b0.out.lt)
  have cb := hid (hb.out.trans (h2.mono hb.out.size))
  have cs := hid (sa.out.on h2)
  have hl2 := c0.out.lt
  clear b0 hb sa h2 hF hG hH
  have hz : Blk (w2.alloc (.cells (ar 96 fun _ => 0) 28)) w2.heap.size 28 (ar 96 fun _ => 0) := Blk.new _ _ _
  obtain ⟨gs, hgs⟩ : ∃ gs, gs = w2.heap.size := ⟨_, rfl⟩
  go_upto_region 3 with (first | (with_reducible apply alA tSet) | ((with_reducible apply stA tSet); rfl; rfl; exact hz))
  rw [← hgs] at hz hl2 ⊢
  generalize hw3 : World.setRow _ _ _ = w3
  have b0 := hid (show Blk w3 W.heap.size 23 (ar 32 k) by rw [← hw3]; exact (c0.out.alloc _).setRow_other (by omega) _)
  have bs := hid (show Blk w3 gs 28 (ar 96 (trip F G H)) by rw [← hw3]; exact hz.setRow_same _)
  have hb := hid (show Below W.heap.size W w3 by rw [← hw3]; exact below_setRow (cb.out.alloc cb.out.size _) (by omega) _)
  have sa := hid (cs.out.on (show Below w2.heap.size w2 w3 by rw [← hw3]; exact below_setRow ((Below.refl _ _).alloc (Nat.le_refl _) _) (by omega) _))
  clear hw3 hz c0 cb cs hgs
  go_wp2_with ((with_reducible apply ldA tK); rfl; exact b0.out)
  refine (pair_any k HK.out w3 sa.out).mono ?_
  rintro e w4 ⟨rfl, h4⟩
  unfold pairV
  obtain ⟨P, hP⟩ : ∃ P, P = sub k sData := ⟨_, rfl⟩
  obtain ⟨Q, hQ⟩ : ∃ Q, Q = sub k sTweak := ⟨_, rfl⟩
  have HP := hid hP
  have HQ := hid hQ
  rw [← hP, ← hQ]
  have c0 := hid (b0.out.below h4 b0.out.lt)
  have cs := hid (bs.out.below h4 bs.out.lt)
  have cb := hid (hb.out.trans (h4.mono hb.out.size))
  have ct := hid (sa.out.on h4)
  have hl4 := cs.out.lt
  clear b0 bs hb sa h4 hP hQ
  obtain ⟨gp, hgp⟩ : ∃ gp, gp = w4.heap.size := ⟨_, rfl⟩
  obtain ⟨gq, hgq⟩ : ∃ gq, gq = (w4.alloc (.cells (ar 32 fun _ => 0) 23)).heap.size := ⟨_, rfl⟩
  have hpq : gq = gp + 1 := by rw [hgq, hgp]; simp
  have hz1 : Blk ((w4.alloc (.cells (ar 32 fun _ => 0) 23)).alloc (.cells (ar 32 fun _ => 0) 23)) w4.heap.size 23 (ar 32 fun _ => 0) := (Blk.new _ _ _).alloc _
  have hz2 : Blk ((w4.alloc (.cells (ar 32 fun _ => 0) 23)).alloc (.cells (ar 32 fun _ => 0) 23)) (w4.alloc (.cells (ar 32 fun _ => 0) 23)).heap.size 23 (ar 32 fun _ => 0) := Blk.new _ _ _
  have hz2' := hz2.setRow_other (g' := w4.heap.size) (by simp) (ar 32 P)
  go_upto_region 4 with (first | (with_reducible apply alA tK) | ((with_reducible apply stA tK); rfl; rfl; exact hz1) | ((with_reducible apply stA tK); rfl; rfl; exact hz2'))
  rw [← hgq] at hz2 hz2' ⊢
  rw [← hgp] at hz1 hz2' hl4 ⊢
  generalize hw5 : World.setRow (World.setRow _ _ _) _ _ = w5
  have b0 := hid (show Blk w5 W.heap.size 23 (ar 32 k) by rw [← hw5]; exact (((c0.out.alloc _).alloc _).setRow_other (by omega) _).setRow_other (by omega) _)
  have bs := hid (show Blk w5 gs 28 (ar 96 (trip F G H)) by rw [← hw5]; exact (((cs.out.alloc _).alloc _).setRow_other (by omega) _).setRow_other (by omega) _)
  have bp := hid (show Blk w5 gp 23 (ar 32 P) by rw [← hw5]; exact (hz1.setRow_same _).setRow_other (by omega) _)
  have bq := hid (show Blk w5 gq 23 (ar 32 Q) by rw [← hw5]; exact hz2'.setRow_same _)
  have hb4 : Below w4.heap.size w4 w5 := by rw [← hw5]; exact below_setRow (below_setRow (((Below.refl _ _).alloc (Nat.le_refl _) _).alloc (by simp) _) (by omega) _) (by omega) _
  have hb := hid (cb.out.trans (hb4.mono cb.out.size))
  have sa := hid (ct.out.on hb4)
  clear hw5 hz1 hz2 hz2' c0 cs cb ct hb4 hgp hgq
  refine wp_region_tail (C := fun w' => Below w5.heap.size w5 w') 25 (by kernel_rfl) (by kernel_rfl) (by kernel_rfl) (Below.refl _ _).drew ?_
  simp only [List.take_succ_cons, List.take_zero, List.drop_succ_cons, List.drop_zero]
  apply wpK_val
  · rfl
  · intro w' hw'
    go_simp
    exact (awake_any w' (sa.out.on hw')).mono fun e w2 h => ⟨h.1, hw'.trans (h.2.mono hw'.size)⟩
  simp only [Act.put, List.setIfInBounds_toArray, List.set_cons_succ, List.set_cons_zero]
  apply wpK_val
  · rfl
  · intro w' hw'
    go_simp
    first | exact rfl | exact ⟨rfl, hw'⟩
  simp only [Act.put, List.setIfInBounds_toArray, List.set_cons_succ, List.set_cons_zero]
  apply kldA tSet
  · rfl
  · rfl
  · exact fun w' hw' => (bs.out.below hw' bs.out.lt).head
  simp only [Act.put, List.setIfInBounds_toArray, List.set_cons_succ, List.set_cons_zero]
  apply kldA tK
  · rfl
  · rfl
  · exact fun w' hw' => (b0.out.below hw' b0.out.lt).head
  simp only [Act.put, List.setIfInBounds_toArray, List.set_cons_succ, List.set_cons_zero]
  apply wpK_val
  · rfl
  · intro w' hw'
    go_simp
    exact (sub_any k HK.out sTree (by decide) w' (sa.out.on hw')).mono fun e w2 h => ⟨h.1, hw'.trans (h.2.mono hw'.size)⟩
  simp only [Act.put, List.setIfInBounds_toArray, List.set_cons_succ, List.set_cons_zero]
  apply kldA tK
  · rfl
  · rfl
  · exact fun w' hw' => (b0.out.below hw' b0.out.lt).head
  simp only [Act.put, List.setIfInBounds_toArray, List.set_cons_succ, List.set_cons_zero]
  apply wpK_val
  · rfl
  · intro w' hw'
    go_simp
    exact (sub_any k HK.out sRoot (by decide) w' (sa.out.on hw')).mono fun e w2 h => ⟨h.1, hw'.trans (h.2.mono hw'.size)⟩
  simp only [Act.put, List.setIfInBounds_toArray, List.set_cons_succ, List.set_cons_zero]
  apply kldA tK
  · rfl
  · rfl
  · exact fun w' hw' => (b0.out.below hw' b0.out.lt).head
  simp only [Act.put, List.setIfInBounds_toArray, List.set_cons_succ, List.set_cons_zero]
  apply wpK_val
  · rfl
  · intro w' hw'
    go_simp
    exact (sub_any k HK.out sHead (by decide) w' (sa.out.on hw')).mono fun e w2 h => ⟨h.1, hw'.trans (h.2.mono hw'.size)⟩
  simp only [Act.put, List.setIfInBounds_toArray, List.set_cons_succ, List.set_cons_zero]
  rw [← HF.out, ← HG.out, ← HH.out]
  apply kbldSet
  · rfl
  · rfl
  · rfl
  · rfl
  simp only [Act.put, List.setIfInBounds_toArray, List.set_cons_succ, List.set_cons_zero]
  apply keqSet
  · rfl
  · rfl
  · rfl
  · exact fun _ _ => rfl
  simp only [Act.put, List.setIfInBounds_toArray, List.set_cons_succ, List.set_cons_zero]
  apply wpK_val
  · rfl
  · intro w' hw'
    go_simp
    first | exact rfl | exact ⟨rfl, hw'⟩
  simp only [Act.put, List.setIfInBounds_toArray, List.set_cons_succ, List.set_cons_zero]
  apply wpK_val
  · rfl
  · intro w' hw'
    go_simp
    first | exact rfl | exact ⟨rfl, hw'⟩
  simp only [Act.put, List.setIfInBounds_toArray, List.set_cons_succ, List.set_cons_zero]
  apply kldA tK
  · rfl
  · rfl
  · exact fun w' hw' => (bp.out.below hw' bp.out.lt).head
  simp only [Act.put, List.setIfInBounds_toArray, List.set_cons_succ, List.set_cons_zero]
  apply kldA tK
  · rfl
  · rfl
  · exact fun w' hw' => (b0.out.below hw' b0.out.lt).head
  simp only [Act.put, List.setIfInBounds_toArray, List.set_cons_succ, List.set_cons_zero]
  apply wpK_val
  · rfl
  · intro w' hw'
    go_simp
    exact (sub_any k HK.out sData (by decide) w' (sa.out.on hw')).mono fun e w2 h => ⟨h.1, hw'.trans (h.2.mono hw'.size)⟩
  simp only [Act.put, List.setIfInBounds_toArray, List.set_cons_succ, List.set_cons_zero]
  apply keqU true uK eqg_key
  · rfl
  · rfl
  · rfl
  · exact eqA_yes fun i _ => congrFun HP.out i
  simp only [Act.put, List.setIfInBounds_toArray, List.set_cons_succ, List.set_cons_zero]
  apply wpK_val
  · rfl
  · intro w' hw'
    go_simp
    first | exact rfl | exact ⟨rfl, hw'⟩
  simp only [Act.put, List.setIfInBounds_toArray, List.set_cons_succ, List.set_cons_zero]
  apply wpK_val
  · rfl
  · intro w' hw'
    go_simp
    first | exact rfl | exact ⟨rfl, hw'⟩
  simp only [Act.put, List.setIfInBounds_toArray, List.set_cons_succ, List.set_cons_zero]
  apply kldA tK
  · rfl
  · rfl
  · exact fun w' hw' => (bq.out.below hw' bq.out.lt).head
  simp only [Act.put, List.setIfInBounds_toArray, List.set_cons_succ, List.set_cons_zero]
  apply kldA tK
  · rfl
  · rfl
  · exact fun w' hw' => (b0.out.below hw' b0.out.lt).head
  simp only [Act.put, List.setIfInBounds_toArray, List.set_cons_succ, List.set_cons_zero]
  apply wpK_val
  · rfl
  · intro w' hw'
    go_simp
    exact (sub_any k HK.out sTweak (by decide) w' (sa.out.on hw')).mono fun e w2 h => ⟨h.1, hw'.trans (h.2.mono hw'.size)⟩
  simp only [Act.put, List.setIfInBounds_toArray, List.set_cons_succ, List.set_cons_zero]
  apply keqU true uK eqg_key
  · rfl
  · rfl
  · rfl
  · exact eqA_yes fun i _ => congrFun HQ.out i
  simp only [Act.put, List.setIfInBounds_toArray, List.set_cons_succ, List.set_cons_zero]
  apply wpK_val
  · rfl
  · intro w' hw'
    go_simp
    first | exact rfl | exact ⟨rfl, hw'⟩
  simp only [Act.put, List.setIfInBounds_toArray, List.set_cons_succ, List.set_cons_zero]
  apply wpK_val
  · rfl
  · intro w' hw'
    go_simp
    first | exact rfl | exact ⟨rfl, hw'⟩
  simp only [Act.put, List.setIfInBounds_toArray, List.set_cons_succ, List.set_cons_zero]
  refine wpK_nil fun w9 hw9 => ?_
  have rb := hid (hb.out.trans (hw9.mono hb.out.size))
  clear b0 bs bp bq hb sa hw9
  go_wp2_with fail
  go_ret
  exact ⟨rfl, rb.out⟩
end DvP
end Go.Proofs.YtkoenljcobcdcaaDoor
set_option maxRecDepth 100000
namespace Go.Proofs.YtkoenljcobcdcaaDoor
open Go.ChangeShapes Go.WideShapes Go.ChangeAt Go.RowKit
section
variable {a : Act} {w : World} {dst : Option Tmp} {ty : TypeId} {pos : String} {after : Array Edge} {gd : Option (Nat × Bool)} {s x : Operand} {m c B B' g : Nat} {kk : List Nat} {S e : TypeId} {k : IntKind} {ad : Addr}
theorem run_app0 (E : Elt S e k) (hown : Own e k w B (.slice (some ⟨g, 0, none⟩) 0 0) []) (hrd : Nums k w B' (some ad) kk) (hk : kk.length = m) (hsz : m ≤ 1000000) (hB : B ≤ w.heap.size) :
    ∃ v' w', (Builtin.append_ #[S, S] ty #[.slice (some ⟨g, 0, none⟩) 0 0, .slice (some ad) m c]).run Tryd.prog w = .ok v' w' ∧ Own e k w' B v' kk ∧ Below w.heap.size w w' := by
  obtain ⟨v', w', hr, ho, _⟩ := run_appN (ty := ty) (c := c) E hown hrd hk (by rw [List.length_nil]; omega) hB
  rw [List.nil_append] at ho
  obtain ⟨i, hi, hz, h1, h2⟩ := E.inf
  have hbytes : (0 + m) * i.bytes ≤ 140737488355328 := Nat.le_trans (Nat.mul_le_mul (show 0 + m ≤ 1000000 by omega) h2) (by omega)
  have hl1 : (nums k kk).length = m * i.size := by rw [nums_length, h1, Nat.mul_one, hk]
  refine ⟨v', w', hr, ho, ?_⟩
  by_cases hm : m = 0
  · rcases hown.2 with ⟨e', _⟩ | ⟨g2, cap2, cur, e', hB2, hg, hnc, hcm, hcs, ht⟩
    · cases e'
    · simp only [List.length_nil, Value.slice.injEq, Option.some.injEq, Addr.mk.injEq, and_true, true_and] at e'
      obtain ⟨rfl, rfl⟩ := e'
      have hkk : kk = [] := List.eq_nil_of_length_eq_zero (by omega)
      subst hkk
      subst hm
      have hrun := run_append_room (P := Tryd.prog) w S ty e i E.und hi g 0 0 cur hg ad 0 c (nums k []) hl1 (nums_reads hrd hk) (nums_oneCell []) (Nat.le_refl _) (by simp [nums])
      rw [hrun] at hr
      cases hr
      have hb : Blk w g e cur := hg
      simp only [List.take_zero, List.nil_append, show nums k [] = [] from rfl, Nat.zero_mul, Nat.add_zero, List.length_nil, List.drop_zero, Array.toArray_toList]
      rw [hb.setRow_id]
      exact Below.refl _ _
  · have hrun := run_append_grow (P := Tryd.prog) w S ty e i (.int k 0) E.und hi hz ⟨g, 0, none⟩ 0 0 [] (by simp) (fun j v hj => by simp at hj) ad m c (nums k kk) hl1 (nums_reads hrd hk) (by omega) (by omega) (growslice_fits (by omega) hbytes)
    rw [hrun] at hr
    cases hr
    exact (Below.refl _ _).drew.alloc (Nat.le_refl _) _
/-- The same in a region that draws its order. -/
theorem gives_app0 {A : Option Addr} {T : Value → Prop} {R : Value → World → Prop} (E : Elt S e k) (hs : a.eval s = .slice (some ⟨g, 0, none⟩) 0 0) (hx : a.eval x = .slice A m c) (h0 : A = none → m = 0 ∧ c = 0) (hown : Own e k w B (.slice (some ⟨g, 0, none⟩) 0 0) []) (hrd : Nums k w B' A kk) (hk : kk.length = m) (hsz : m ≤ 1000000) (hB : B ≤ w.heap.size)
    (h : ∀ v' w', Own e k w' B v' kk → Below w.heap.size w w' → T v' ∧ R v' w') :
    ∃ v', T v' ∧ Gives Tryd.prog ⟨dst, .call { callee := .builtin .append, args := #[s, x], argTypes := #[S, S] }, ty, pos, after, gd⟩ a w v' (R v') := by
  cases A with
  | some ad =>
    obtain ⟨v', w', hr, h1, h2⟩ := run_app0 (ty := ty) (c := c) E hown hrd hk hsz hB
    obtain ⟨h6, h7⟩ := h v' w' h1 h2
    refine ⟨v', h6, gives_value ?_ h7⟩
    unfold execOp
    simp only [resolve, invoke, builtin, Sem.run_bind, Sem.run_pure, Result.andThen_ok, List.map_toArray, List.map_cons, List.map_nil, hs, hx, hr]
  | none =>
    obtain ⟨rfl, rfl⟩ := h0 rfl
    obtain rfl := List.eq_nil_of_length_eq_zero hk
    obtain ⟨h6, h7⟩ := h _ w hown (Below.refl _ _)
    refine ⟨_, h6, gives_value ?_ h7⟩
    have hr : (Builtin.append_ #[S, S] ty #[.slice (some ⟨g, 0, none⟩) 0 0, .slice none 0 0]).run Tryd.prog w = .ok (.slice (some ⟨g, 0, none⟩) 0 0) w := by
      obtain ⟨i, hi, hz, h1, h2⟩ := E.inf
      exact run_append_owned_none (P := Tryd.prog) w B S ty e i 1 E.und hi _ 0 _ hown
    unfold execOp
    simp only [resolve, invoke, builtin, Sem.run_bind, Sem.run_pure, Result.andThen_ok, List.map_toArray, List.map_cons, List.map_nil, hs, hx, hr]
end
end Go.Proofs.YtkoenljcobcdcaaDoor
set_option maxRecDepth 100000
namespace Go.Proofs.YtkoenljcobcdcaaDoor
open Go.ChangeShapes Go.WideShapes Go.ChangeAt Go.RowKit
attribute [local go_sem] Gives
theorem grown_trans {w w' w2 : World} {r : Option Nat} (h : w.grownBy w' r) (h2 : w'.grownBy w2 r) : w.grownBy w2 r :=
  ⟨h2.os.trans h.os, h2.tape.trans h.tape, h2.output.trans h.output, Nat.le_trans h.size h2.size, fun k hk hne => (h2.block k (Nat.lt_of_lt_of_le hk h.size) hne).trans (h.block k hk hne)⟩
theorem grown_refl (w : World) (r : Option Nat) : w.grownBy w r := ⟨rfl, rfl, rfl, Nat.le_refl _, fun _ _ _ => rfl⟩
theorem grown_below {w w' : World} (h : Below w.heap.size w w') (r : Option Nat) : w.grownBy w' r := ⟨h.os, h.tape, h.output, h.size, fun k hk _ => h.block k hk⟩
theorem grown_setRow (w : World) (g : Nat) (cs : Array Value) : w.grownBy (w.setRow g cs) (some g) := ⟨rfl, rfl, rfl, by simp, fun k _ hne => Go.setRow_other w g k cs (fun e => hne (congrArg _ e))⟩
theorem grown_setCell (w : World) (g i : Nat) (v : Value) : w.grownBy (w.setCell ⟨g, i, none⟩ v) (some g) := ⟨rfl, rfl, rfl, by simp, fun k _ hne => Below.heap_setCell w ⟨g, i, none⟩ v k (fun e => hne (congrArg _ e))⟩
theorem Blk.by' {w w' : World} {g g' : Nat} {t : TypeId} {cs : Array Value} (h : Blk w g t cs) (hg : w.grownBy w' (some g')) (hne : g ≠ g') : Blk w' g t cs :=
  (hg.block g h.lt fun e => hne (Option.some.inj e)).trans h
theorem below_by {B g : Nat} {w0 w w' : World} (hb : Below B w0 w) (hg : w.grownBy w' (some g)) (hB : B ≤ g) (hs : B ≤ w0.heap.size) : Below B w0 w' :=
  hb.grown hg (Nat.le_trans hs hb.size) fun k e => by cases e; exact hB
/-- A slice of the bytes of l, in one row from block lo up to block hi. -/
def BytF (w : World) (lo hi : Nat) (A : Option Addr) (l : List Nat) : Prop :=
  0 < l.length → ∃ b o, A = some ⟨b, o, none⟩ ∧ lo ≤ b ∧ b < hi ∧ ∀ i, i < l.length → w.cell? ⟨b, o + i, none⟩ = some (.int .u8 (l.getD i 0 : Nat))
theorem BytF.byt {w : World} {lo hi : Nat} {A : Option Addr} {l : List Nat} (h : BytF w lo hi A l) : Byt w hi A l := fun hn => by
  obtain ⟨b, o, e, _, h2, h3⟩ := h hn
  exact ⟨b, o, e, h2, h3⟩
theorem BytF.below {w w' : World} {lo hi B : Nat} {A : Option Addr} {l : List Nat} (h : BytF w lo hi A l) (hb : Below B w w') (hB : hi ≤ B) : BytF w' lo hi A l := fun hn => by
  obtain ⟨b, o, rfl, h1, h2, h3⟩ := h hn
  exact ⟨b, o, rfl, h1, h2, fun i hi => (hb.cell (p := ⟨b, o + i, none⟩) (by show b < B; omega)).trans (h3 i hi)⟩
theorem BytF.by' {w w' : World} {lo hi g : Nat} {A : Option Addr} {l : List Nat} (h : BytF w lo hi A l) (hg : w.grownBy w' (some g)) (hne : g < lo ∨ hi ≤ g) : BytF w' lo hi A l := fun hn => by
  obtain ⟨b, o, rfl, h1, h2, h3⟩ := h hn
  exact ⟨b, o, rfl, h1, h2, fun i hi => hg.cell (h3 i hi) fun e => by have : b = g := Option.some.inj e; omega⟩
theorem BytF.more {w : World} {lo hi hi' : Nat} {A : Option Addr} {l : List Nat} (h : BytF w lo hi A l) (hh : hi ≤ hi') : BytF w lo hi' A l := fun hn => by
  obtain ⟨b, o, rfl, h1, h2, h3⟩ := h hn
  exact ⟨b, o, rfl, h1, by omega, h3⟩
theorem BytF.lower {w : World} {lo lo' hi : Nat} {A : Option Addr} {l : List Nat} (h : BytF w lo hi A l) (hh : lo' ≤ lo) : BytF w lo' hi A l := fun hn => by
  obtain ⟨b, o, rfl, h1, h2, h3⟩ := h hn
  exact ⟨b, o, rfl, by omega, h2, h3⟩
theorem BytF.nil {w : World} {lo hi : Nat} {A : Option Addr} : BytF w lo hi A [] := fun hn => absurd hn (by simp)
theorem BytF.take {w : World} {lo hi : Nat} {A : Option Addr} {l : List Nat} (h : BytF w lo hi A l) (n : Nat) : BytF w lo hi A (l.take n) := fun hn => by
  rw [List.length_take] at hn
  obtain ⟨b, o, rfl, h1, h2, h3⟩ := h (by omega)
  refine ⟨b, o, rfl, h1, h2, fun i hi => ?_⟩
  rw [List.length_take] at hi
  rw [getD_take (by omega)]
  exact h3 i (by omega)
theorem BytF.drop {w : World} {lo hi : Nat} {A : Option Addr} {l : List Nat} (h : BytF w lo hi A l) (cap W : Nat) (hc : l.length ≤ cap) : BytF w lo hi (if cap = W then A else Option.map (fun x => x.add W) A) (l.drop W) := fun hn => by
  rw [List.length_drop] at hn
  obtain ⟨b, o, rfl, h1, h2, h3⟩ := h (by omega)
  rw [if_neg (by omega)]
  refine ⟨b, o + W, by rw [Option.map_some, Addr.add_mid], h1, h2, fun i hi => ?_⟩
  rw [List.length_drop] at hi
  rw [getD_drop, Nat.add_assoc]
  exact h3 (W + i) (by omega)
/-- A slice of bytes that is read. -/
structure Rd (w : World) (lo hi : Nat) (A : Option Addr) (l : List Nat) (n cp : Nat) : Prop where
  len : l.length = n
  cap : n ≤ cp
  max : cp ≤ maxLen
  b256 : B256 l
  none : A = none → n = 0 ∧ cp = 0
  byt : BytF w lo hi A l
theorem Rd.arg {w : World} {lo hi : Nat} {A : Option Addr} {l : List Nat} {n cp : Nat} (h : Rd w lo hi A l n cp) (hh : hi ≤ w.heap.size) : Arg w A l n cp :=
  ⟨h.len, h.cap, h.max, h.b256, h.none, h.byt.byt.more hh⟩
theorem Rd.below {w w' : World} {lo hi B : Nat} {A : Option Addr} {l : List Nat} {n cp : Nat} (h : Rd w lo hi A l n cp) (hb : Below B w w') (hB : hi ≤ B) : Rd w' lo hi A l n cp :=
  ⟨h.len, h.cap, h.max, h.b256, h.none, h.byt.below hb hB⟩
theorem Rd.by' {w w' : World} {lo hi g : Nat} {A : Option Addr} {l : List Nat} {n cp : Nat} (h : Rd w lo hi A l n cp) (hg : w.grownBy w' (some g)) (hne : g < lo ∨ hi ≤ g) : Rd w' lo hi A l n cp :=
  ⟨h.len, h.cap, h.max, h.b256, h.none, h.byt.by' hg hne⟩
theorem Blk.gr {w w' : World} {g : Nat} {r : Option Nat} {t : TypeId} {cs : Array Value} (h : Blk w g t cs) (hg : w.grownBy w' r) (hr : r ≠ some g) : Blk w' g t cs :=
  (hg.block g h.lt fun e => hr e.symm).trans h
theorem BytF.gr {w w' : World} {lo hi : Nat} {r : Option Nat} {A : Option Addr} {l : List Nat} (h : BytF w lo hi A l) (hg : w.grownBy w' r) (hr : ∀ k, r = some k → k < lo ∨ hi ≤ k) : BytF w' lo hi A l := fun hn => by
  obtain ⟨b, o, rfl, h1, h2, h3⟩ := h hn
  exact ⟨b, o, rfl, h1, h2, fun i hi => hg.cell (h3 i hi) fun e => by have h9 := hr b e.symm; omega⟩
theorem Rd.gr {w w' : World} {lo hi : Nat} {r : Option Nat} {A : Option Addr} {l : List Nat} {n cp : Nat} (h : Rd w lo hi A l n cp) (hg : w.grownBy w' r) (hr : ∀ k, r = some k → k < lo ∨ hi ≤ k) : Rd w' lo hi A l n cp :=
  ⟨h.len, h.cap, h.max, h.b256, h.none, h.byt.gr hg hr⟩
/-- What a tape's two cells are. -/
def tp (A : Option Addr) (n cp : Nat) (b : Bool) : Array Value := #[.slice A n cp, .bool b]
/-- A tape in block g, its bytes from block lo on. -/
structure Tap (w : World) (g lo : Nat) (st : BytM.Tp) : Prop where
  le : lo ≤ g
  cells : ∃ A n cp, Blk w g 56 (tp A n cp st.isSome) ∧ match st with
    | some l => Rd w lo g A l n cp
    | none => A = none ∧ n = 0 ∧ cp = 0
theorem Tap.below {w w' : World} {g lo B : Nat} {st : BytM.Tp} (h : Tap w g lo st) (hb : Below B w w') (hB : g < B) : Tap w' g lo st := by
  obtain ⟨hl, A, n, cp, h1, h2⟩ := h
  refine ⟨hl, A, n, cp, h1.below hb hB, ?_⟩
  cases st with
  | none => exact h2
  | some l => exact Rd.below h2 hb (by omega)
theorem Tap.by' {w w' : World} {g lo g' : Nat} {st : BytM.Tp} (h : Tap w g lo st) (hg : w.grownBy w' (some g')) (hne : g' < lo ∨ g < g') : Tap w' g lo st := by
  obtain ⟨hl, A, n, cp, h1, h2⟩ := h
  refine ⟨hl, A, n, cp, h1.by' hg (by omega), ?_⟩
  cases st with
  | none => exact h2
  | some l => exact Rd.by' h2 hg (by omega)
theorem Tap.gr {w w' : World} {g lo : Nat} {r : Option Nat} {st : BytM.Tp} (h : Tap w g lo st) (hg : w.grownBy w' r) (hr : ∀ k, r = some k → k < lo ∨ g < k) : Tap w' g lo st := by
  obtain ⟨hl, A, n, cp, h1, h2⟩ := h
  refine ⟨hl, A, n, cp, h1.gr hg (fun e => by have := hr g e; omega), ?_⟩
  cases st with
  | none => exact h2
  | some l => exact Rd.gr h2 hg fun k e => by have := hr k e; omega
theorem Tap.lt {w : World} {g lo : Nat} {st : BytM.Tp} (h : Tap w g lo st) : g < w.heap.size := by
  obtain ⟨_, A, n, cp, h1, _⟩ := h
  exact h1.lt
theorem Tap.t256 {w : World} {g lo : Nat} {st : BytM.Tp} (h : Tap w g lo st) : BytM.T256 st := by
  obtain ⟨_, A, n, cp, _, h2⟩ := h
  cases st with
  | none => exact BytM.T256.none
  | some l => exact BytM.T256.some h2.b256
set_option maxHeartbeats 400000 in
theorem torn_any {g lo : Nat} {st : BytM.Tp} (w : World) (h : Tap w g lo st) :
    Calls Tryd.prog 30 #[.pointer (some ⟨g, 0, none⟩)] w fun e w' => e = .returned (.bool (!st.isSome)) ∧ w = w' := by
  obtain ⟨_, A, n, cp, h1, _⟩ := h
  have q1 : w.cell? ⟨g, 1, none⟩ = some (.bool st.isSome) := h1.cell 1
  generalize st.isSome = b at *
  clear h1
  go_enter Tryd.func30, Tryd.ntmps30
  go_wp2_with fail
  go_ret
  exact ⟨rfl, rfl⟩
set_option maxHeartbeats 400000 in
theorem torn_nil (w : World) : Calls Tryd.prog 30 #[.pointer none] w fun e w' => e = .returned (.bool true) ∧ w = w' := by
  go_enter Tryd.func30, Tryd.ntmps30
  go_wp2_with fail
  go_ret
  exact ⟨rfl, rfl⟩
section
variable {ops : Array Oper} {Q : Exit → Act → World → Prop} {a : Act} {w : World} {rest : List Oper} {dst : Option Tmp} {ty : TypeId} {pos : String} {after : Array Edge} {x y : Operand} {g : Nat} {A A' : Option Addr} {n n' cp cp' : Nat} {b b' : Bool}
theorem stT (hx : a.eval x = .pointer (some ⟨g, 0, none⟩)) (hy : a.eval y = .agg (tp A' n' cp' b')) (hb : Blk w g 56 (tp A n cp b)) (h : wpList Tryd.prog ops Q rest (a.put dst undef) (w.setRow g (tp A' n' cp' b'))) :
    wpList Tryd.prog ops Q (⟨dst, .store 56 x y, ty, pos, after, none⟩ :: rest) a w :=
  step_store_row hb (by kernel_rfl : (Tryd.prog.info? 56).map (·.size) = some (tp A' n' cp' b').size) (by rfl) (by cases A' <;> simp [tp, Value.oneCell']) hx hy h
end
set_option maxHeartbeats 400000 in
theorem tear_any {g lo : Nat} {st : BytM.Tp} (w : World) (h : Tap w g lo st) :
    Calls Tryd.prog 29 #[.pointer (some ⟨g, 0, none⟩)] w fun e w' => e = .returned (.tuple #[]) ∧ Tap w' g lo none ∧ w.grownBy w' (some g) := by
  obtain ⟨hl, A, n, cp, h1, _⟩ := h
  have H1 := hid h1
  clear h1
  go_enter Tryd.func29, Tryd.ntmps29
  go_wp2_with ((with_reducible apply stT (A' := none) (n' := 0) (cp' := 0) (b' := false)); rfl; rfl; exact H1.out)
  go_end0
  exact ⟨rfl, ⟨hl, none, 0, 0, H1.out.setRow_same _, rfl, rfl, rfl⟩, grown_setRow _ _ _⟩
set_option maxHeartbeats 400000 in
theorem tear_nil (w : World) : Calls Tryd.prog 29 #[.pointer none] w fun e w' => e = .returned (.tuple #[]) ∧ w = w' := by
  go_enter Tryd.func29, Tryd.ntmps29
  go_wp2_with fail
  go_end0
  exact ⟨rfl, rfl⟩
set_option maxHeartbeats 400000 in
theorem end_any {g lo : Nat} {st : BytM.Tp} (w : World) (h : Tap w g lo st) :
    Calls Tryd.prog 22 #[.pointer (some ⟨g, 0, none⟩)] w fun e w' => e = .returned (.bool (decide (st = some []))) ∧ w = w' := by
  have T := hid (torn_any w h)
  obtain ⟨_, A, n, cp, h1, h2⟩ := h
  have q0 : w.cell? ⟨g, 0, none⟩ = some (.slice A n cp) := h1.cell 0
  cases st with
  | none =>
    clear h1 h2 q0
    go_enter Tryd.func22, Tryd.ntmps22
    go_wp2_with fail
    refine (T.out).mono ?_
    rintro e w' ⟨rfl, rfl⟩
    go_wp2_with fail
    go_ret
    exact ⟨rfl, rfl⟩
  | some l =>
    obtain ⟨b, hb⟩ : ∃ b, b = decide ((some l : BytM.Tp) = some []) := ⟨_, rfl⟩
    rw [← hb]
    have hl := h2.len
    have e : ((n : Int) == 0) = b := by
      rw [hb]
      cases l with
      | nil => simp at hl; subst hl; rfl
      | cons x l => simp at hl; simp; omega
    clear h1 h2 hb hl
    go_enter Tryd.func22, Tryd.ntmps22
    go_wp2_with fail
    refine (T.out).mono ?_
    rintro e w' ⟨rfl, rfl⟩
    go_wp2_with fail
    go_ret
    exact ⟨rfl, rfl⟩
set_option maxHeartbeats 400000 in
theorem end_nil (w : World) : Calls Tryd.prog 22 #[.pointer none] w fun e w' => e = .returned (.bool false) ∧ w = w' := by
  go_enter Tryd.func22, Tryd.ntmps22
  go_wp2_with fail
  refine (torn_nil w).mono ?_
  rintro e w' ⟨rfl, rfl⟩
  go_wp2_with fail
  go_ret
  exact ⟨rfl, rfl⟩
theorem eq_nil_slice (A : Option Addr) (l c : Nat) (w : World) : (binOp .eql 33 (.slice A l c) (.slice none 0 0)).run Tryd.prog w = .ok (.bool A.isNone) w := by
  simp [binOp, run_equal_slice_nil w 33 5 A l c Tryd.underlying33]
attribute [local go_sem] eq_nil_slice
set_option maxHeartbeats 400000 in
/-- slices.Clone of bytes. -/
theorem clone_any (A : Option Addr) (l : List Nat) (n cap : Nat) (hn : n ≤ 1000000) (w : World) (hA : Arg w A l n cap) :
    Calls Tryd.prog 27 #[.slice A n cap] w fun e w' => ∃ v, e = .returned v ∧ Own 5 .u8 w' w.heap.size v l ∧ Below w.heap.size w w' := by
  have HA := hid hA
  clear hA
  cases A with
  | none =>
    obtain ⟨rfl, rfl⟩ := HA.out.none rfl
    have hl := List.eq_nil_of_length_eq_zero HA.out.len
    subst hl
    clear HA
    go_enter Tryd.func27, Tryd.ntmps27
    go_wp2_with fail
    go_ret
    exact ⟨_, rfl, Own.nil, Below.refl _ _⟩
  | some ad =>
    go_enter Tryd.func27, Tryd.ntmps27
    have OE : Hid (Own 5 .u8 (w.alloc (.cells #[] 5)) w.heap.size (.slice (some ⟨w.heap.size, 0, none⟩) 0 0) []) := hid (Own.empty w (Nat.le_refl _))
    have BE := hid ((Below.refl w.heap.size w).alloc (Nat.le_refl _) (.cells #[] 5))
    have AE := hid (HA.out.on BE.out)
    go_wp2_with (at_builtin; (with_reducible apply wappN eltB); rfl; rfl; exact OE.out; exact AE.out.byt.nums; exact AE.out.len; (rw [List.length_nil]; omega); (simp); intro v4 w4 o4 g4)
    have B4 := hid (below_grown BE.out g4 OE.out (Nat.le_refl _) (Nat.le_refl _))
    have O4 := hid o4
    clear o4 g4
    go_wp2_with fail
    go_ret
    exact ⟨_, rfl, O4.out, B4.out⟩
theorem Own.rd {w : World} {B : Nat} {v : Value} {l : List Nat} (h : Own 5 .u8 w B v l) (hb : B256 l) : ∃ A cap, v = .slice A l.length cap ∧ Rd w B w.heap.size A l l.length cap := by
  rcases h.2 with ⟨rfl, h0⟩ | ⟨g, cap, cur, rfl, hB, hg, hnc, hcm, hcs, ht⟩
  · exact ⟨.none, 0, by rw [h0], rfl, by omega, Nat.zero_le _, hb, fun _ => ⟨h0, rfl⟩, fun hn => by omega⟩
  · refine ⟨_, cap, rfl, rfl, hnc, hcm, hb, (fun e => by cases e), fun hn => ⟨g, 0, rfl, hB, Blk.lt (t := 5) (cs := cur) hg, fun i hi => ?_⟩⟩
    rw [Nat.zero_add, cell_of_row w g _ cur _ _ hg]
    have h1 := nums_get .u8 hi
    rw [← ht, List.getElem?_take_of_lt (by omega), Array.getElem?_toList] at h1
    exact h1
set_option maxHeartbeats 400000 in
theorem open_any (A : Option Addr) (l : List Nat) (n cap : Nat) (hn : n ≤ 1000000) (w : World) (hA : Arg w A l n cap) :
    Calls Tryd.prog 19 #[.slice A n cap] w fun e w' => ∃ g, e = .returned (.pointer (some ⟨g, 0, none⟩)) ∧ Tap w' g w.heap.size (some l) ∧ Below w.heap.size w w' := by
  have C := hid (clone_any A l n cap hn w hA)
  have H6 := hid hA.b256
  clear hA
  go_enter Tryd.func19, Tryd.ntmps19
  go_wp2_with fail
  refine C.out.mono ?_
  rintro e w2 ⟨v2, rfl, o2, b2⟩
  obtain ⟨A2, c2, e2, r2⟩ := o2.rd H6.out
  subst e2
  have B2 := hid b2
  have R2 := hid r2
  clear o2 b2 r2
  go_wp2_with fail
  go_ret
  refine ⟨_, rfl, ⟨B2.out.size, A2, l.length, c2, Blk.top rfl rfl, ?_⟩, B2.out.alloc B2.out.size _⟩
  exact R2.out.below ((Below.refl w2.heap.size w2).alloc (Nat.le_refl _) _) (Nat.le_refl _)
end Go.Proofs.YtkoenljcobcdcaaDoor
set_option maxRecDepth 100000
namespace Go.Proofs.YtkoenljcobcdcaaDoor
open Go.ChangeShapes Go.WideShapes Go.ChangeAt Go.RowKit
attribute [local go_sem] Gives
theorem Rd.nil {w : World} {lo hi : Nat} : Rd w lo hi .none [] 0 0 := ⟨rfl, Nat.le_refl _, Nat.zero_le _, (fun x hx => by cases hx), fun _ => ⟨rfl, rfl⟩, BytF.nil⟩
theorem cut_bad {st : BytM.Tp} {n : Int} (h : ∀ l, st = some l → ¬ (0 ≤ n ∧ n ≤ (l.length : Int))) : BytM.cutL st n = [] ∧ BytM.cutS st n = none := by
  cases st with
  | none => exact ⟨rfl, rfl⟩
  | some l =>
    unfold BytM.cutL BytM.cutS
    dsimp only
    rw [if_neg (h l rfl), if_neg (h l rfl)]
    exact ⟨rfl, rfl⟩
set_option maxHeartbeats 400000 in
theorem pcut_bad {g lo : Nat} {st : BytM.Tp} (w : World) (h : Tap w g lo st) (n : Int) (hn : ∀ l, st = some l → ¬ (0 ≤ n ∧ n ≤ (l.length : Int))) :
    Calls Tryd.prog 21 #[.pointer (some ⟨g, 0, none⟩), .int .i64 n] w fun e w' => e = .returned (.slice none 0 0) ∧ Tap w' g lo none ∧ w.grownBy w' (some g) := by
  have T := hid (torn_any w h)
  have TE := hid (tear_any w h)
  cases st with
  | none =>
    clear h hn
    go_enter Tryd.func21, Tryd.ntmps21
    go_wp2_with fail
    refine (T.out).mono ?_
    rintro e w' ⟨rfl, rfl⟩
    go_wp2_with fail
    refine TE.out.mono ?_
    rintro e w2 ⟨rfl, t2, g2⟩
    go_wp2_with fail
    go_ret
    exact ⟨rfl, t2, g2⟩
  | some l =>
    have hn' := hn l rfl
    obtain ⟨_, A, m, cp, h1, h2⟩ := h
    have q0 : w.cell? ⟨g, 0, none⟩ = some (.slice A m cp) := h1.cell 0
    have hm : l.length = m := h2.len
    rw [hm] at hn'
    clear h1 h2 hn
    by_cases h0 : n < 0
    · have t0 : decide (n < 0) = true := decide_eq_true h0
      clear hn' hm
      go_enter Tryd.func21, Tryd.ntmps21
      go_wp2_with fail
      refine (T.out).mono ?_
      rintro e w' ⟨rfl, rfl⟩
      go_wp2_with fail
      refine TE.out.mono ?_
      rintro e w2 ⟨rfl, t2, g2⟩
      go_wp2_with fail
      go_ret
      exact ⟨rfl, t2, g2⟩
    · have t0 : decide (n < 0) = false := decide_eq_false h0
      have t1 : decide ((m : Int) < n) = true := decide_eq_true (by omega)
      clear hn' hm h0
      go_enter Tryd.func21, Tryd.ntmps21
      go_wp2_with fail
      refine (T.out).mono ?_
      rintro e w' ⟨rfl, rfl⟩
      go_wp2_with fail
      refine TE.out.mono ?_
      rintro e w2 ⟨rfl, t2, g2⟩
      go_wp2_with fail
      go_ret
      exact ⟨rfl, t2, g2⟩
theorem cut_tap {w : World} {g lo m cp k : Nat} {A A2 : Option Addr} {l : List Nat} (h1 : Blk w g 56 (tp A m cp true)) (h2 : Rd w lo g A l m cp) (hlo : lo ≤ g) (hk : k ≤ m) (hA : A2 = if cp = k then A else Option.map (fun x => x.add k) A) :
    Rd (w.setCell ⟨g, 0, none⟩ (.slice A2 (m - k) (cp - k))) lo g A (l.take k) k k ∧ Tap (w.setCell ⟨g, 0, none⟩ (.slice A2 (m - k) (cp - k))) g lo (some (l.drop k)) ∧ w.grownBy (w.setCell ⟨g, 0, none⟩ (.slice A2 (m - k) (cp - k))) (some g) := by
  subst hA
  have hg := grown_setCell w g 0 (.slice (if cp = k then A else Option.map (fun x => x.add k) A) (m - k) (cp - k))
  have h3 := h2.by' hg (.inr (Nat.le_refl _))
  have h4 := h2.cap
  have h5 := h2.max
  refine ⟨⟨by rw [List.length_take, h2.len]; omega, Nat.le_refl _, by omega, h2.b256.take k, fun e => ?_, h3.byt.take k⟩, ⟨hlo, _, m - k, cp - k, h1.setCell_same 0 _, ?_⟩, hg⟩
  · have := h2.none e
    exact ⟨by omega, by omega⟩
  · refine ⟨by rw [List.length_drop, h2.len], by omega, by omega, h2.b256.drop k, fun e => ?_, h3.byt.drop cp k (by rw [h2.len]; exact h4)⟩
    by_cases hc : cp = k
    · exact ⟨by omega, by omega⟩
    · rw [if_neg hc] at e
      cases A with
      | none => have := h2.none rfl; exact ⟨by omega, by omega⟩
      | some a => cases e
set_option maxHeartbeats 400000 in
theorem pcut_ok {g lo : Nat} {l : List Nat} (w : World) (h : Tap w g lo (some l)) (k : Nat) (hk : k ≤ l.length) :
    Calls Tryd.prog 21 #[.pointer (some ⟨g, 0, none⟩), .int .i64 k] w fun e w' => ∃ A', e = .returned (.slice A' k k) ∧ Rd w' lo g A' (l.take k) k k ∧ Tap w' g lo (some (l.drop k)) ∧ w.grownBy w' (some g) := by
  have T := hid (torn_any w h)
  obtain ⟨hlo, A, m, cp, h1, h2⟩ := h
  have q0 : w.cell? ⟨g, 0, none⟩ = some (.slice A m cp) := h1.cell 0
  have hm : l.length = m := h2.len
  have hcp := h2.cap
  have hmx := h2.max
  rw [hm] at hk
  have t0 : decide ((k : Int) < 0) = false := decide_eq_false (by omega)
  have t1 : decide ((m : Int) < (k : Int)) = false := decide_eq_false (by omega)
  have fz := h1.frozen 0
  have H1 := hid h1
  have H2 := hid h2
  unfold maxLen at hmx
  have k1 : (k : Int) ≤ (cp : Int) := by omega
  have k2 : (k : Int) ≤ (m : Int) := by omega
  clear h1 h2
  go_enter Tryd.func21, Tryd.ntmps21
  go_wp2_with fail
  refine (T.out).mono ?_
  rintro e w' ⟨rfl, rfl⟩
  go_wp2_with fail
  · rename_i hc
    go_ret
    have h9 := cut_tap H1.out H2.out hlo hk (if_pos (by omega)).symm
    rw [show cp - k = 0 by omega] at h9
    exact ⟨A, rfl, h9⟩
  · rename_i hc
    go_ret
    exact ⟨A, rfl, cut_tap H1.out H2.out hlo hk (if_neg (by omega)).symm⟩
theorem pcut_any {g lo : Nat} {st : BytM.Tp} (w : World) (h : Tap w g lo st) (n : Int) :
    Calls Tryd.prog 21 #[.pointer (some ⟨g, 0, none⟩), .int .i64 n] w fun e w' => ∃ A' c', e = .returned (.slice A' (BytM.cutL st n).length c') ∧ Rd w' lo g A' (BytM.cutL st n) (BytM.cutL st n).length c' ∧ Tap w' g lo (BytM.cutS st n) ∧ w.grownBy w' (some g) := by
  by_cases hn : ∀ l, st = some l → ¬ (0 ≤ n ∧ n ≤ (l.length : Int))
  · obtain ⟨e1, e2⟩ := cut_bad hn
    rw [e1, e2]
    refine (pcut_bad w h n hn).mono ?_
    rintro e w2 ⟨rfl, t2, g2⟩
    exact ⟨none, 0, rfl, Rd.nil, t2, g2⟩
  · cases st with
    | none => exact absurd (fun l e => by cases e) hn
    | some l =>
      by_cases h0 : 0 ≤ n ∧ n ≤ (l.length : Int)
      · obtain ⟨k, rfl⟩ : ∃ k : Nat, n = k := ⟨n.toNat, by omega⟩
        have e1 : BytM.cutL (some l) (k : Nat) = l.take k := by unfold BytM.cutL; dsimp only; rw [if_pos h0]; simp
        have e2 : BytM.cutS (some l) (k : Nat) = some (l.drop k) := by unfold BytM.cutS; dsimp only; rw [if_pos h0]; simp
        have hlen : (l.take k).length = k := by rw [List.length_take]; omega
        rw [e1, e2, hlen]
        refine (pcut_ok w h k (by omega)).mono ?_
        rintro e w2 ⟨A', rfl, r2, t2, g2⟩
        exact ⟨A', k, rfl, r2, t2, g2⟩
      · exact absurd (fun m e => by cases e; exact h0) hn
theorem or_byte (N x : Nat) (hN : N < 72057594037927936) (hx : x < 256) : bits .or .u64 ((N : Int) * 256) (x : Int) = ((256 * N + x : Nat) : Int) := by
  have e : (N : Int) * 256 = ((2 ^ 8 * N : Nat) : Int) := by omega
  rw [e, u64_or_nat _ _ (by omega) (by omega), ← Nat.two_pow_add_eq_or_of_lt (by omega)]
set_option maxHeartbeats 400000 in
theorem tnum_any {g lo : Nat} {st : BytM.Tp} (w : World) (h : Tap w g lo st) (n : Int) :
    Calls Tryd.prog 20 #[.pointer (some ⟨g, 0, none⟩), .int .i64 n] w fun e w' => e = .returned (.int .u64 (BytM.numL st n)) ∧ Tap w' g lo (BytM.numS st n) ∧ w.grownBy w' (some g) := by
  have P := hid (isw_any n w)
  unfold BytM.numL BytM.numS
  cases hw : BytM.isW n with
  | false =>
    rw [hw] at P
    have TE := hid (tear_any w h)
    clear h
    go_enter Tryd.func20, Tryd.ntmps20
    go_wp2_with fail
    refine (P.out).mono ?_
    rintro e w' ⟨rfl, rfl⟩
    go_wp2_with fail
    refine TE.out.mono ?_
    rintro e w2 ⟨rfl, t2, g2⟩
    go_wp2_with fail
    go_ret
    exact ⟨rfl, t2, g2⟩
  | true =>
    rw [hw] at P
    obtain ⟨m, rfl, h1, h8, _⟩ := BytM.isW_nat hw
    have C := hid (pcut_any w h m)
    have hlen := BytM.cutL_len (st := st) (n := (m : Int)) m rfl
    simp only [if_true]
    generalize BytM.cutL st m = l at *
    generalize BytM.cutS st m = st2 at *
    have hl8 : l.length ≤ 8 := by omega
    clear h hw hlen
    go_enter Tryd.func20, Tryd.ntmps20
    go_wp2_with fail
    refine (P.out).mono ?_
    rintro e w' ⟨rfl, rfl⟩
    go_wp2_with fail
    refine C.out.mono ?_
    rintro e w2 ⟨A2, c2, rfl, r2, t2, g2⟩
    have R2 := hid r2
    have T2 := hid t2
    have G2 := hid g2
    clear r2 t2 g2 P C
    go_wp2_with fail
    go_loopw [6, 18] (fun u i wr => ∃ (k N : Nat), k ≤ l.length ∧ i = .int .i64 k ∧ u = .int .u64 N ∧ Hid (N = BytM.val (l.take k)) ∧ w2 = wr) (fun _ i _ => l.length - (intOf i).toNat)
    case atStart => exact ⟨0, 0, by omega, rfl, rfl, hid (by simp [BytM.val]), rfl⟩
    case round =>
      obtain ⟨k, N, hk, rfl, rfl, hN, rfl⟩ := hrel
      by_cases hlt : k < l.length
      · have tk : (k : Int) < (l.length : Int) := by omega
        have hb := R2.out.b256
        obtain ⟨b, o, rfl, hbl, _, hr⟩ := R2.out.byt (by omega)
        have q1 := hr k hlt
        have hx := hb.getD k
        have hst := val_step hlt
        have hNb := val_7 hb (k := k) (by omega)
        rw [← hN.out] at hst hNb
        have HST := hid hst
        clear hb hr hst
        generalize l.getD k 0 = x at *
        go_wp2_with fail
        go_roundw
        case rel => exact ⟨k + 1, 256 * N + x, by omega, by go_num, by rw [or_byte N x (by omega) hx], hid HST.out.symm, trivial⟩
        case measure => simp [intOf] <;> omega
      · have e : k = l.length := by omega
        have h2 := hN.out
        rw [List.take_of_length_le (by omega)] at h2
        subst e
        have H2 := hid h2
        clear h2 hN
        go_wp2_with fail
        go_ret
        exact ⟨by rw [H2.out]; rfl, T2.out, G2.out⟩
set_option maxHeartbeats 400000 in
theorem pcut_nil (n : Int) (w : World) : Calls Tryd.prog 21 #[.pointer none, .int .i64 n] w fun e w' => e = .returned (.slice none 0 0) ∧ w = w' := by
  go_enter Tryd.func21, Tryd.ntmps21
  go_wp2_with fail
  refine (torn_nil w).mono ?_
  rintro e w' ⟨rfl, rfl⟩
  go_wp2_with fail
  refine (tear_nil w).mono ?_
  rintro e w' ⟨rfl, rfl⟩
  go_wp2_with fail
  go_ret
  exact ⟨rfl, rfl⟩
set_option maxHeartbeats 400000 in
theorem tnum_nil (n : Int) (w : World) : Calls Tryd.prog 20 #[.pointer none, .int .i64 n] w fun e w' => e = .returned (.int .u64 0) ∧ w = w' := by
  have P := hid (isw_any n w)
  generalize BytM.isW n = b at *
  cases b with
  | false =>
    go_enter Tryd.func20, Tryd.ntmps20
    go_wp2_with fail
    refine (P.out).mono ?_
    rintro e w' ⟨rfl, rfl⟩
    go_wp2_with fail
    refine (tear_nil w).mono ?_
    rintro e w' ⟨rfl, rfl⟩
    go_wp2_with fail
    go_ret
    exact ⟨rfl, rfl⟩
  | true =>
    go_enter Tryd.func20, Tryd.ntmps20
    go_wp2_with fail
    refine (P.out).mono ?_
    rintro e w' ⟨rfl, rfl⟩
    go_wp2_with fail
    refine (pcut_nil n w).mono ?_
    rintro e w' ⟨rfl, rfl⟩
    go_wp2_with fail
    go_loopw [6, 18] (fun u i wr => i = .int .i64 0 ∧ u = .int .u64 0 ∧ w = wr) (fun _ _ _ => 0)
    case atStart => exact ⟨rfl, rfl, rfl⟩
    case round =>
      obtain ⟨rfl, rfl, rfl⟩ := hrel
      go_wp2_with fail
      go_ret
      exact ⟨rfl, rfl⟩
end Go.Proofs.YtkoenljcobcdcaaDoor
set_option maxRecDepth 100000
namespace Go.Proofs.YtkoenljcobcdcaaDoor
open Go.ChangeShapes Go.WideShapes Go.ChangeAt Go.RowKit
/-- A slice of slices of the call's own. -/
def OwnP (w : World) (B : Nat) (v : Value) (cs : List Value) : Prop := w.ownsRow B 33 1 v cs.length cs
theorem infP : ∃ i : TypeInfo, Tryd.prog.info? 33 = some i ∧ i.zero = some (.slice none 0 0) ∧ i.size = 1 ∧ i.bytes ≤ 24 := by
  have h1 : (Tryd.prog.info? 33).map (·.size) = some 1 := by kernel_rfl
  have h2 : (Tryd.prog.info? 33).map (fun i => decide (i.bytes ≤ 24)) = some true := by kernel_rfl
  have h3 : (Tryd.prog.info? 33).bind (·.zero) = some (.slice none 0 0) := by kernel_rfl
  cases hi : Tryd.prog.info? 33 with
  | none => rw [hi] at h1; cases h1
  | some i =>
    rw [hi] at h1 h2 h3
    simp only [Option.map_some, Option.some.injEq, decide_eq_true_eq, Option.bind_some] at h1 h2 h3
    exact ⟨i, rfl, h3, h1, h2⟩
section
variable {ops : Array Oper} {Q : Exit → Act → World → Prop} {a : Act} {w : World} {rest : List Oper} {dst : Option Tmp} {ty : TypeId} {pos : String} {after : Array Edge} {s x : Operand} {c B g n' c' : Nat} {v : Value} {cs : List Value} {A : Option Addr} {t : TypeId}
theorem wappP (hs : a.eval s = v) (hx : a.eval x = .slice (some ⟨g, 0, none⟩) 1 c) (hown : OwnP w B v cs) (hb : Blk w g t #[.slice A n' c']) (hsz : cs.length ≤ 1000) (hB : B ≤ w.heap.size)
    (h : ∀ v' w', OwnP w' B v' (cs ++ [.slice A n' c']) → w.grownBy w' v.ownBlock → wpList Tryd.prog ops Q rest (a.put dst v') w') :
    wpList Tryd.prog ops Q (⟨dst, .call { callee := .builtin .append, args := #[s, x], argTypes := #[37, 37] }, ty, pos, after, none⟩ :: rest) a w := by
  obtain ⟨i, hi, hz, h1, h2⟩ := infP
  obtain ⟨v', w', hr, ho, hg, _⟩ := run_append_own (P := Tryd.prog) w B 37 ty 33 i (.slice none 0 0) 1 i.bytes Tryd.underlying37 hi hz h1 rfl rfl (by decide) v cs.length _ hown ⟨g, 0, none⟩ 1 c [.slice A n' c'] rfl
    (fun j u hj => by
      match j, hj with
      | 0, hj =>
        cases hj
        exact hb.cell 0)
    (fun u hu => by rw [List.mem_singleton.1 hu]; rfl)
    (by unfold maxLen; omega) (Nat.le_trans (Nat.mul_le_mul (show cs.length + 1 ≤ 1001 by omega) h2) (by omega)) hB
  refine wpList_plain rfl fun K hK => ?_
  unfold Oper.wp execOp
  simp only [resolve, invoke, builtin, Sem.run_bind, Sem.run_pure, Result.andThen_ok, List.map_toArray, List.map_cons, List.map_nil, hs, hx, hr]
  exact hK _ _ (h v' w' (by unfold OwnP; rw [List.length_append]; exact ho) hg)
end
theorem OwnP.nil (w : World) (B : Nat) : OwnP w B (.slice none 0 0) [] := World.ownsRow_nil w B _ 1
theorem OwnP.heap {w w' : World} {B : Nat} {v : Value} {cs : List Value} (h : OwnP w B v cs) (hh : w'.heap = w.heap) : OwnP w' B v cs := by
  refine ⟨h.1, ?_⟩
  rcases h.2 with h' | ⟨g, cap, cur, hv, hB, hg, hr⟩
  · exact .inl h'
  · exact .inr ⟨g, cap, cur, hv, hB, by rw [hh]; exact hg, hr⟩
/-- What lies in cell j. -/
def PCell (w : World) (ls : List (List Nat)) (cs : List Value) : Prop :=
  ∀ j, j < cs.length → ∃ A' c, cs[j]? = some (.slice A' (ls.getD j []).length c) ∧ (ls.getD j []).length ≤ c ∧ c ≤ maxLen ∧ Byt w w.heap.size A' (ls.getD j []) ∧ (A' = none → (ls.getD j []).length = 0 ∧ c = 0)
theorem OwnP.parts {w wr : World} {B : Nat} {v : Value} {cs : List Value} {ls : List (List Nat)} (h : OwnP wr B v cs) (hp : PCell w ls cs) (hl : ls.length = cs.length) (hb : Below w.heap.size w wr) : ∃ A cap, v = .slice A cs.length cap ∧ PrtsN wr wr.heap.size A ls := by
  rcases h.2 with ⟨rfl, h0⟩ | ⟨g, cap, cur, rfl, hB, hg, hnc, hcm, hcs, ht⟩
  · exact ⟨none, 0, by rw [h0], fun hn => by omega⟩
  · refine ⟨_, cap, rfl, fun _ => ⟨g, 0, rfl, Blk.lt (t := 33) (cs := cur) hg, fun i hi => ?_⟩⟩
    obtain ⟨A', c, h1, h2, h3, h4, h5⟩ := hp i (by omega)
    refine ⟨A', c, ?_, h2, h3, (h4.below hb (Nat.le_refl _)).more hb.size, h5⟩
    rw [Nat.zero_add, cell_of_row wr g i cur _ _ hg]
    rw [← ht, List.getElem?_take_of_lt (by omega), Array.getElem?_toList] at h1
    exact h1
theorem PCell.snoc {w : World} {ls : List (List Nat)} {cs : List Value} (h : PCell w ls cs) {A' : Option Addr} {M c : Nat} (hM : (ls.getD cs.length []).length = M) (h2 : M ≤ c) (h3 : c ≤ maxLen) (h4 : Byt w w.heap.size A' (ls.getD cs.length [])) (h5 : A' = none → M = 0 ∧ c = 0) : PCell w ls (cs ++ [.slice A' M c]) := by
  intro j hj
  rw [List.length_append, List.length_singleton] at hj
  by_cases e : j < cs.length
  · rw [List.getElem?_append_left e]
    exact h j e
  · obtain rfl : j = cs.length := by omega
    refine ⟨A', c, ?_, by omega, h3, h4, by rw [hM]; exact h5⟩
    rw [List.getElem?_append_right (Nat.le_refl _), Nat.sub_self, hM]
    rfl
end Go.Proofs.YtkoenljcobcdcaaDoor
set_option maxRecDepth 100000
namespace Go.Proofs.YtkoenljcobcdcaaDoor
open Go.ChangeShapes Go.WideShapes Go.ChangeAt Go.RowKit
attribute [local go_sem] Gives
/-- The cells of parts that are read. -/
def PRd (w : World) (lo hi : Nat) (cs : List Value) (ls : List (List Nat)) : Prop :=
  cs.length = ls.length ∧ ∀ j, j < ls.length → ∃ A' c, cs[j]? = some (.slice A' (ls.getD j []).length c) ∧ Rd w lo hi A' (ls.getD j []) (ls.getD j []).length c
theorem PRd.nil {w : World} {lo hi : Nat} : PRd w lo hi [] [] := ⟨rfl, fun j hj => by cases hj⟩
theorem PRd.gr {w w' : World} {lo hi : Nat} {r : Option Nat} {cs : List Value} {ls : List (List Nat)} (h : PRd w lo hi cs ls) (hg : w.grownBy w' r) (hr : ∀ k, r = some k → k < lo ∨ hi ≤ k) : PRd w' lo hi cs ls :=
  ⟨h.1, fun j hj => by
    obtain ⟨A', c, h1, h2⟩ := h.2 j hj
    exact ⟨A', c, h1, h2.gr hg hr⟩⟩
theorem PRd.snoc {w : World} {lo hi : Nat} {cs : List Value} {ls : List (List Nat)} (h : PRd w lo hi cs ls) {A' : Option Addr} {l : List Nat} {c : Nat} (h2 : Rd w lo hi A' l l.length c) : PRd w lo hi (cs ++ [.slice A' l.length c]) (ls ++ [l]) := by
  refine ⟨by rw [List.length_append, List.length_append, h.1]; rfl, fun j hj => ?_⟩
  rw [List.length_append, List.length_singleton] at hj
  by_cases e : j < ls.length
  · obtain ⟨B, d, h3, h4⟩ := h.2 j e
    have e2 : (ls ++ [l]).getD j [] = ls.getD j [] := by rw [List.getD_eq_getElem?_getD, List.getElem?_append_left e, List.getD_eq_getElem?_getD]
    rw [e2]
    exact ⟨B, d, by rw [List.getElem?_append_left (by rw [h.1]; exact e)]; exact h3, h4⟩
  · obtain rfl : j = ls.length := by omega
    have e2 : (ls ++ [l]).getD ls.length [] = l := by rw [List.getD_eq_getElem?_getD, List.getElem?_append_right (Nat.le_refl _), Nat.sub_self]; rfl
    rw [e2]
    exact ⟨A', c, by rw [List.getElem?_append_right (by rw [h.1]; exact Nat.le_refl _), h.1, Nat.sub_self]; rfl, h2⟩
theorem OwnP.rws {w : World} {B lo hi : Nat} {v : Value} {cs : List Value} {ls : List (List Nat)} (h : OwnP w B v cs) (hp : PRd w lo hi cs ls) (hh : hi ≤ w.heap.size) : ∃ A cap, v = .slice A ls.length cap ∧ Rws w A ls ls.length cap := by
  have h6 : ∀ l ∈ ls, B256 l := fun l hl => by
    obtain ⟨j, hj⟩ := List.getElem?_of_mem hl
    have hj' := (List.getElem?_eq_some_iff.1 hj).1
    obtain ⟨A', c, _, h2⟩ := hp.2 j hj'
    rw [List.getD_eq_getElem?_getD, hj] at h2
    exact h2.b256
  rcases h.2 with ⟨rfl, h0⟩ | ⟨g, cap, cur, rfl, hB, hg, hnc, hcm, hcs, ht⟩
  · have hl0 : ls.length = 0 := by rw [← hp.1]; exact h0
    rw [hl0]
    exact ⟨none, 0, rfl, hl0, Nat.le_refl _, Nat.zero_le _, h6, fun _ => ⟨rfl, rfl⟩, fun hn => by omega⟩
  · rw [hp.1] at hnc ht
    refine ⟨_, cap, by rw [hp.1], rfl, hnc, hcm, h6, (fun e => by cases e), fun _ => ⟨g, 0, rfl, Blk.lt (t := 33) (cs := cur) hg, fun i hi => ?_⟩⟩
    obtain ⟨A', c, h1, h2⟩ := hp.2 i hi
    refine ⟨A', c, ?_, h2.cap, h2.max, h2.byt.byt.more hh, h2.none⟩
    rw [Nat.zero_add, cell_of_row w g i cur _ _ hg]
    rw [← ht, List.getElem?_take_of_lt (by omega), Array.getElem?_toList] at h1
    exact h1
theorem OwnP.gr {w w' : World} {B : Nat} {r : Option Nat} {v : Value} {cs : List Value} (h : OwnP w B v cs) (hg : w.grownBy w' r) (hr : ∀ k, r = some k → k < B) : OwnP w' B v cs := by
  refine World.ownsRow.kept h hg ?_
  cases hv : v.ownBlock with
  | none => exact .inl rfl
  | some k =>
    refine .inr fun e => ?_
    have h1 := (World.ownsRow.lt h k hv).1
    have h2 := hr k e.symm
    omega
theorem OwnP.alloc {w : World} {B : Nat} {v : Value} {cs : List Value} (h : OwnP w B v cs) (o : Obj) : OwnP (w.alloc o) B v cs := World.ownsRow.alloc h o
theorem OwnP.rowGe {w : World} {B : Nat} {v : Value} {cs : List Value} (h : OwnP w B v cs) : ∀ k, v.ownBlock = some k → B ≤ k := fun k hk => (World.ownsRow.lt h k hk).1
set_option maxHeartbeats 400000 in
theorem pparts_many (A : Option Addr) (l : List Nat) (n cap : Nat) (hn : n ≤ 1000000) (hm : 16 < BytM.pMany l) (w : World) (hA : Arg w A l n cap) :
    Calls Tryd.prog 13 #[.slice A n cap] w fun e w' => e = .returned (.tuple #[.int .u8 0, .slice none 0 0, .int .i64 4]) ∧ Below w.heap.size w w' := by
  have O := hid (open_any A l n cap hn w hA)
  have h256 := BytM.T256.some hA.b256
  have hd1 := BytM.numL_lt h256 (w := 1) (n := 1) rfl
  have hd2 := BytM.numL_lt (h256.num 1) (w := 1) (n := 1) rfl
  have N1 := hid fun (g lo : Nat) (w : World) (h : Tap w g lo (some l)) => tnum_any w h 1
  have N2 := hid fun (g lo : Nat) (w : World) (h : Tap w g lo (BytM.numS (some l) 1)) => tnum_any w h 1
  unfold BytM.pMany at hm
  generalize BytM.numL (BytM.numS (some l) 1) 1 = M at *
  generalize BytM.numL (some l) 1 = D at *
  have t0 : decide ((16 : Int) < (M : Int)) = true := decide_eq_true (by omega)
  have hD : D < 256 := hd1
  have hM : M < 256 := hd2
  clear hA h256 hd1 hd2 hm
  go_enter Tryd.func13, Tryd.ntmps13
  go_wp2_with fail
  refine O.out.mono ?_
  rintro e w1 ⟨g, rfl, t1, b1⟩
  have T1 := hid t1
  have B1 := hid b1
  clear t1 b1 O
  go_wp2_with fail
  refine (N1.out g _ w1 T1.out).mono ?_
  rintro e w2 ⟨rfl, t2, g2⟩
  have T2 := hid t2
  have B2 := hid (below_by B1.out g2 T1.out.le (Nat.le_refl _))
  clear t2 g2 N1
  go_wp2_with fail
  refine (N2.out g _ w2 T2.out).mono ?_
  rintro e w3 ⟨rfl, t3, g3⟩
  have B3 := hid (below_by B2.out g3 T1.out.le (Nat.le_refl _))
  clear t3 g3 N2
  go_wp2_with fail
  go_ret3
  exact ⟨rfl, B3.out⟩
set_option maxHeartbeats 800000 in
theorem pparts_bad (A : Option Addr) (l : List Nat) (n cap : Nat) (hn : n ≤ 1000000) (hm : ¬ 16 < BytM.pMany l) (h8 : ¬ BytM.prsS (BytM.pMany l) (BytM.pRest l) = some []) (w : World) (hA : Arg w A l n cap) :
    Calls Tryd.prog 13 #[.slice A n cap] w fun e w' => e = .returned (.tuple #[.int .u8 0, .slice none 0 0, .int .i64 4]) ∧ Below w.heap.size w w' := by
  have O := hid (open_any A l n cap hn w hA)
  have h256 := BytM.T256.some hA.b256
  have hd1 := BytM.numL_lt h256 (w := 1) (n := 1) rfl
  have N1 := hid fun (g lo : Nat) (w : World) (h : Tap w g lo (some l)) => tnum_any w h 1
  have N2 := hid fun (g lo : Nat) (w : World) (h : Tap w g lo (BytM.numS (some l) 1)) => tnum_any w h 1
  unfold BytM.pMany at hm
  unfold BytM.pMany BytM.pRest at h8
  generalize BytM.numL (BytM.numS (some l) 1) 1 = M at *
  generalize BytM.numL (some l) 1 = D at *
  generalize hst2 : BytM.numS (BytM.numS (some l) 1) 1 = st2 at *
  have hPL : BytM.prsL M st2 = BytM.prsL M st2 := rfl
  generalize hpl : BytM.prsL M st2 = pl at *
  generalize hps : BytM.prsS M st2 = stf at *
  have PL := hid hpl
  have PS := hid hps
  have t0 : decide ((16 : Int) < (M : Int)) = false := decide_eq_false (by omega)
  have hD : D < 256 := hd1
  have hM : M ≤ 16 := by omega
  clear hA h256 hd1 hm hPL hpl hps hst2
  go_enter Tryd.func13, Tryd.ntmps13
  go_wp2_with fail
  refine O.out.mono ?_
  rintro e w1 ⟨g, rfl, t1, b1⟩
  have T1 := hid t1
  have B1 := hid b1
  clear t1 b1 O
  go_wp2_with fail
  refine (N1.out g _ w1 T1.out).mono ?_
  rintro e w2 ⟨rfl, t2, g2⟩
  have T2 := hid t2
  have B2 := hid (below_by B1.out g2 T1.out.le (Nat.le_refl _))
  clear t2 g2 N1
  go_wp2_with fail
  refine (N2.out g _ w2 T2.out).mono ?_
  rintro e w3 ⟨rfl, t3, g3⟩
  have T3 := hid t3
  have B3 := hid (below_by B2.out g3 T1.out.le (Nat.le_refl _))
  have LE := hid T1.out.le
  clear t3 g3 N2 T1 T2 B1 B2
  go_wp2_with fail
  go_loopw [3, 18] (fun u i wr => ∃ (k : Nat) (vs : Value) (cs : List Value) (acc : List (List Nat)) (st : BytM.Tp), k ≤ M ∧ i = .int .i64 k ∧ u = vs ∧ cs.length ≤ k ∧ Hid (OwnP wr w3.heap.size vs cs) ∧ Hid (PRd wr w.heap.size g cs acc) ∧ Hid (Tap wr g w.heap.size st) ∧ Hid (acc ++ BytM.prsL (M - k) st = pl) ∧ Hid (BytM.prsS (M - k) st = stf) ∧ Hid (Below w.heap.size w wr) ∧ w3.heap.size ≤ wr.heap.size) (fun _ i _ => M - (intOf i).toNat)
  case atStart => exact ⟨0, _, [], [], st2, by omega, rfl, rfl, Nat.le_refl _, hid (OwnP.nil _ _), hid PRd.nil, T3, PL, PS, B3, Nat.le_refl _⟩
  case round =>
    have GL := hid T3.out.lt
    clear T3 B3 PL PS
    obtain ⟨k, vs, cs, acc, st, hk, rfl, rfl, hcs, ho, hp, ht, hL, hS, hb, hz⟩ := hrel
    by_cases hlt : k < M
    · have tk : (k : Int) < (M : Int) := by omega
      have hMk : M - k = (M - (k + 1)) + 1 := by omega
      have hL2 := hL.out
      have hS2 := hS.out
      rw [hMk, BytM.prsL] at hL2
      rw [hMk, BytM.prsS] at hS2
      have hN4 := BytM.numL_lt ht.out.t256 (w := 4) (n := 4) rfl
      have TN := hid (tnum_any wr ht.out 4)
      have TC := hid fun (w : World) (lo : Nat) (h : Tap w g lo (BytM.numS st 4)) => pcut_any w h (BytM.numL st 4 : Nat)
      generalize BytM.numS st 4 = st4 at *
      generalize BytM.numL st 4 = N4 at *
      generalize BytM.cutL st4 (N4 : Nat) = P at *
      generalize BytM.cutS st4 (N4 : Nat) = st5 at *
      have hN : N4 < 4294967296 := hN4
      have L2 := hid hL2
      have S2 := hid hS2
      clear hL2 hS2 hL hS hN4 hMk
      go_wp2_with fail
      refine TN.out.mono ?_
      rintro e w4 ⟨rfl, t4, g4⟩
      have T4 := hid t4
      have G4 := hid g4
      clear t4 g4 TN ht
      go_wp2_with fail
      refine (TC.out w4 _ T4.out).mono ?_
      rintro e w5 ⟨A5, c5, rfl, r5, t5, g5⟩
      have G5 := hid (grown_trans G4.out g5)
      have T5 := hid t5
      have R5 := hid r5
      have B5 := hid (below_by hb.out G5.out LE.out (Nat.le_refl _))
      have O5 := hid (ho.out.gr G5.out fun k e => by cases e; exact GL.out)
      have P5 := hid (hp.out.gr G5.out fun k e => by cases e; exact .inr (Nat.le_refl _))
      have HZ5 := hid (Nat.le_trans hz G5.out.size)
      clear t5 g5 r5 T4 TC ho hp G4 hb
      go_wp2_with (at_builtin; (with_reducible apply wappP); rfl; rfl; exact O5.out.alloc _; exact Blk.top rfl rfl; omega; (simp; have := HZ5.out; omega); intro v6 w6 o6 g6)
      have ha := (grown_below ((Below.refl w5.heap.size w5).alloc (Nat.le_refl _) (.cells #[.slice A5 P.length c5] 33)) u3.ownBlock)
      have g7 := grown_trans ha g6
      have hge := O5.out.rowGe
      have hgl := GL.out
      have t7 := T5.out.gr g7 fun k e => by have := hge k e; omega
      have p7 := (P5.out.snoc R5.out).gr g7 fun k e => by have := hge k e; omega
      have b7 := B5.out.grown g7 (Nat.le_trans (Nat.le_refl _) B5.out.size) fun k e => by have := hge k e; have := LE.out; omega
      have hz7 := Nat.le_trans HZ5.out g7.size
      go_roundw
      case rel => exact ⟨k + 1, v6, cs ++ [.slice A5 P.length c5], acc ++ [P], st5, by omega, by go_num, rfl, by rw [List.length_append, List.length_singleton]; omega, hid o6, hid p7, hid t7, hid (by rw [List.append_assoc]; exact L2.out), S2, hid b7, hz7⟩
      case measure => simp [intOf] <;> omega
    · obtain rfl : k = M := by omega
      have hL2 := hL.out
      have hS2 := hS.out
      rw [Nat.sub_self, BytM.prsL, List.append_nil] at hL2
      rw [Nat.sub_self, BytM.prsS] at hS2
      obtain ⟨A9, c9, e9, r9⟩ := ho.out.rws hp.out (Nat.le_of_lt ht.out.lt)
      have T9 := ht
      have B9 := hb
      rw [hL2] at e9 r9
      rw [hS2] at T9
      subst e9
      have R9 := hid r9
      clear hL2 hS2 r9
      clear ho hp ht hb hL hS
      go_wp2_with fail
      refine (end_any wr T9.out).mono ?_
      rintro e w9 ⟨rfl, rfl⟩
      rw [show decide (stf = some []) = false from decide_eq_false h8]
      go_wp2_with fail
      go_ret3
      exact ⟨rfl, B9.out⟩
set_option maxHeartbeats 800000 in
theorem pparts_ok (A : Option Addr) (l : List Nat) (n cap : Nat) (hn : n ≤ 1000000) (hm : ¬ 16 < BytM.pMany l) (h8 : BytM.prsS (BytM.pMany l) (BytM.pRest l) = some []) (w : World) (hA : Arg w A l n cap) :
    Calls Tryd.prog 13 #[.slice A n cap] w fun e w' => ∃ Ap cp, e = .returned (.tuple #[.int .u8 (BytM.pDom l), .slice Ap (BytM.prsL (BytM.pMany l) (BytM.pRest l)).length cp, .int .i64 0]) ∧ Rws w' Ap (BytM.prsL (BytM.pMany l) (BytM.pRest l)) (BytM.prsL (BytM.pMany l) (BytM.pRest l)).length cp ∧ Below w.heap.size w w' := by
  have O := hid (open_any A l n cap hn w hA)
  have h256 := BytM.T256.some hA.b256
  have hd1 := BytM.numL_lt h256 (w := 1) (n := 1) rfl
  have N1 := hid fun (g lo : Nat) (w : World) (h : Tap w g lo (some l)) => tnum_any w h 1
  have N2 := hid fun (g lo : Nat) (w : World) (h : Tap w g lo (BytM.numS (some l) 1)) => tnum_any w h 1
  unfold BytM.pMany at hm
  unfold BytM.pMany BytM.pRest at h8
  unfold BytM.pMany BytM.pRest BytM.pDom
  generalize BytM.numL (BytM.numS (some l) 1) 1 = M at *
  generalize BytM.numL (some l) 1 = D at *
  generalize hst2 : BytM.numS (BytM.numS (some l) 1) 1 = st2 at *
  have hPL : BytM.prsL M st2 = BytM.prsL M st2 := rfl
  generalize hpl : BytM.prsL M st2 = pl at *
  generalize hps : BytM.prsS M st2 = stf at *
  have PL := hid hpl
  have PS := hid hps
  have t0 : decide ((16 : Int) < (M : Int)) = false := decide_eq_false (by omega)
  have hD : D < 256 := hd1
  have hM : M ≤ 16 := by omega
  clear hA h256 hd1 hm hPL hpl hps hst2
  go_enter Tryd.func13, Tryd.ntmps13
  go_wp2_with fail
  refine O.out.mono ?_
  rintro e w1 ⟨g, rfl, t1, b1⟩
  have T1 := hid t1
  have B1 := hid b1
  clear t1 b1 O
  go_wp2_with fail
  refine (N1.out g _ w1 T1.out).mono ?_
  rintro e w2 ⟨rfl, t2, g2⟩
  have T2 := hid t2
  have B2 := hid (below_by B1.out g2 T1.out.le (Nat.le_refl _))
  clear t2 g2 N1
  go_wp2_with fail
  refine (N2.out g _ w2 T2.out).mono ?_
  rintro e w3 ⟨rfl, t3, g3⟩
  have T3 := hid t3
  have B3 := hid (below_by B2.out g3 T1.out.le (Nat.le_refl _))
  have LE := hid T1.out.le
  clear t3 g3 N2 T1 T2 B1 B2
  go_wp2_with fail
  go_loopw [3, 18] (fun u i wr => ∃ (k : Nat) (vs : Value) (cs : List Value) (acc : List (List Nat)) (st : BytM.Tp), k ≤ M ∧ i = .int .i64 k ∧ u = vs ∧ cs.length ≤ k ∧ Hid (OwnP wr w3.heap.size vs cs) ∧ Hid (PRd wr w.heap.size g cs acc) ∧ Hid (Tap wr g w.heap.size st) ∧ Hid (acc ++ BytM.prsL (M - k) st = pl) ∧ Hid (BytM.prsS (M - k) st = stf) ∧ Hid (Below w.heap.size w wr) ∧ w3.heap.size ≤ wr.heap.size) (fun _ i _ => M - (intOf i).toNat)
  case atStart => exact ⟨0, _, [], [], st2, by omega, rfl, rfl, Nat.le_refl _, hid (OwnP.nil _ _), hid PRd.nil, T3, PL, PS, B3, Nat.le_refl _⟩
  case round =>
    have GL := hid T3.out.lt
    clear T3 B3 PL PS
    obtain ⟨k, vs, cs, acc, st, hk, rfl, rfl, hcs, ho, hp, ht, hL, hS, hb, hz⟩ := hrel
    by_cases hlt : k < M
    · have tk : (k : Int) < (M : Int) := by omega
      have hMk : M - k = (M - (k + 1)) + 1 := by omega
      have hL2 := hL.out
      have hS2 := hS.out
      rw [hMk, BytM.prsL] at hL2
      rw [hMk, BytM.prsS] at hS2
      have hN4 := BytM.numL_lt ht.out.t256 (w := 4) (n := 4) rfl
      have TN := hid (tnum_any wr ht.out 4)
      have TC := hid fun (w : World) (lo : Nat) (h : Tap w g lo (BytM.numS st 4)) => pcut_any w h (BytM.numL st 4 : Nat)
      generalize BytM.numS st 4 = st4 at *
      generalize BytM.numL st 4 = N4 at *
      generalize BytM.cutL st4 (N4 : Nat) = P at *
      generalize BytM.cutS st4 (N4 : Nat) = st5 at *
      have hN : N4 < 4294967296 := hN4
      have L2 := hid hL2
      have S2 := hid hS2
      clear hL2 hS2 hL hS hN4 hMk
      go_wp2_with fail
      refine TN.out.mono ?_
      rintro e w4 ⟨rfl, t4, g4⟩
      have T4 := hid t4
      have G4 := hid g4
      clear t4 g4 TN ht
      go_wp2_with fail
      refine (TC.out w4 _ T4.out).mono ?_
      rintro e w5 ⟨A5, c5, rfl, r5, t5, g5⟩
      have G5 := hid (grown_trans G4.out g5)
      have T5 := hid t5
      have R5 := hid r5
      have B5 := hid (below_by hb.out G5.out LE.out (Nat.le_refl _))
      have O5 := hid (ho.out.gr G5.out fun k e => by cases e; exact GL.out)
      have P5 := hid (hp.out.gr G5.out fun k e => by cases e; exact .inr (Nat.le_refl _))
      have HZ5 := hid (Nat.le_trans hz G5.out.size)
      clear t5 g5 r5 T4 TC ho hp G4 hb
      go_wp2_with (at_builtin; (with_reducible apply wappP); rfl; rfl; exact O5.out.alloc _; exact Blk.top rfl rfl; omega; (simp; have := HZ5.out; omega); intro v6 w6 o6 g6)
      have ha := (grown_below ((Below.refl w5.heap.size w5).alloc (Nat.le_refl _) (.cells #[.slice A5 P.length c5] 33)) u3.ownBlock)
      have g7 := grown_trans ha g6
      have hge := O5.out.rowGe
      have hgl := GL.out
      have t7 := T5.out.gr g7 fun k e => by have := hge k e; omega
      have p7 := (P5.out.snoc R5.out).gr g7 fun k e => by have := hge k e; omega
      have b7 := B5.out.grown g7 (Nat.le_trans (Nat.le_refl _) B5.out.size) fun k e => by have := hge k e; have := LE.out; omega
      have hz7 := Nat.le_trans HZ5.out g7.size
      go_roundw
      case rel => exact ⟨k + 1, v6, cs ++ [.slice A5 P.length c5], acc ++ [P], st5, by omega, by go_num, rfl, by rw [List.length_append, List.length_singleton]; omega, hid o6, hid p7, hid t7, hid (by rw [List.append_assoc]; exact L2.out), S2, hid b7, hz7⟩
      case measure => simp [intOf] <;> omega
    · obtain rfl : k = M := by omega
      have hL2 := hL.out
      have hS2 := hS.out
      rw [Nat.sub_self, BytM.prsL, List.append_nil] at hL2
      rw [Nat.sub_self, BytM.prsS] at hS2
      obtain ⟨A9, c9, e9, r9⟩ := ho.out.rws hp.out (Nat.le_of_lt ht.out.lt)
      have T9 := ht
      have B9 := hb
      rw [hL2] at e9 r9
      rw [hS2] at T9
      subst e9
      have R9 := hid r9
      clear hL2 hS2 r9
      clear ho hp ht hb hL hS
      go_wp2_with fail
      refine (end_any wr T9.out).mono ?_
      rintro e w9 ⟨rfl, rfl⟩
      rw [show decide (stf = some []) = true from decide_eq_true h8]
      go_wp2_with fail
      go_ret3
      exact ⟨A9, c9, rfl, R9.out, B9.out⟩
theorem pparts_none (A : Option Addr) (l : List Nat) (n cap : Nat) (hn : n ≤ 1000000) (h : BytM.parse l = none) (w : World) (hA : Arg w A l n cap) :
    Calls Tryd.prog 13 #[.slice A n cap] w fun e w' => e = .returned (.tuple #[.int .u8 0, .slice none 0 0, .int .i64 4]) ∧ Below w.heap.size w w' := by
  rw [BytM.parse_tape] at h
  by_cases hm : 16 < BytM.pMany l
  · exact pparts_many A l n cap hn hm w hA
  · rw [if_neg hm] at h
    by_cases h8 : BytM.prsS (BytM.pMany l) (BytM.pRest l) = some []
    · rw [if_pos h8] at h; cases h
    · exact pparts_bad A l n cap hn hm h8 w hA
theorem pparts_some (A : Option Addr) (l : List Nat) (n cap : Nat) (hn : n ≤ 1000000) {d : Nat} {ps : List (List Nat)} (h : BytM.parse l = some (d, ps)) (w : World) (hA : Arg w A l n cap) :
    Calls Tryd.prog 13 #[.slice A n cap] w fun e w' => ∃ Ap cp, e = .returned (.tuple #[.int .u8 d, .slice Ap ps.length cp, .int .i64 0]) ∧ Rws w' Ap ps ps.length cp ∧ Below w.heap.size w w' := by
  rw [BytM.parse_tape] at h
  by_cases hm : 16 < BytM.pMany l
  · rw [if_pos hm] at h; cases h
  · rw [if_neg hm] at h
    by_cases h8 : BytM.prsS (BytM.pMany l) (BytM.pRest l) = some []
    · rw [if_pos h8] at h
      simp only [Option.some.injEq, Prod.mk.injEq] at h
      obtain ⟨rfl, rfl⟩ := h
      exact (pparts_ok A l n cap hn hm h8 w hA).mono fun e w' ⟨Ap, cp, h1, h2, h3⟩ => ⟨Ap, cp, h1, h2, h3⟩
    · rw [if_neg h8] at h; cases h
end Go.Proofs.YtkoenljcobcdcaaDoor
set_option maxRecDepth 100000
namespace Go.Proofs.YtkoenljcobcdcaaDoor
section
variable {P : Program} {ops : Array Oper}
theorem wpK_list {C : World → Prop} {Q : Exit → Act → World → Prop} {rest : List Oper} : ∀ (l : List Oper) (a : Act) (w : World), wpK P ops C (fun a' => ∀ w', C w' → wpList P ops Q rest a' w') l a → C w → wpList P ops Q (l ++ rest) a w
  | [], _, w, h, hC => h w hC
  | o :: l, a, w, h, hC => by
    obtain ⟨v, h1, h2⟩ := h
    rw [List.cons_append, wpList]
    rcases h1 with ⟨hw, hg⟩ | ⟨hw, rfl⟩
    · rw [if_pos hw]
      exact .inl (wp_of_gives (hg w hC) fun w' hC' => wpK_list l _ w' h2 hC')
    · rw [if_neg (by rw [hw]; exact Bool.false_ne_true)]
      exact wpK_list l _ w h2 hC
theorem wp_region_fixed {id : Nat} {Q : Exit → Act → World → Prop} {C : World → Prop} {a : Act} {w : World} {l : List Oper} (n : Nat) (hC : C w)
    (h : wpK P l.toArray C (fun a' => ∀ w', C w' → wpList P l.toArray Q (l.drop n) a' w') (l.take n) a) : (Code.region id l.toArray false).wp P Q a w := by
  refine wp_region_lit ?_
  have := wpK_list _ _ _ h hC
  rwa [List.take_append_drop] at this
end
end Go.Proofs.YtkoenljcobcdcaaDoor
set_option maxRecDepth 100000
namespace Go.Proofs.YtkoenljcobcdcaaDoor
open Go.ChangeShapes Go.WideShapes Go.ChangeAt Go.RowKit
attribute [local go_sem] Gives
namespace DvP
theorem row_parts {s : ByteArray} (h : s.size ≤ 10000) : BytM.parse (rowD s) = some (68, [nats s]) := BytM.parse_row 68 (by simp) fun p hp => by
  rw [List.mem_singleton] at hp
  subst hp
  rw [nats_length]; omega
theorem rowD_inj {s t : ByteArray} (h : s.size ≤ 10000) (h' : t.size ≤ 10000) (e : rowD s = rowD t) : s = t := by
  have h1 := row_parts h
  rw [e, row_parts h'] at h1
  simp only [Option.some.injEq, Prod.mk.injEq, List.cons.injEq, and_true, true_and] at h1
  exact nats_inj h1.symm
/-- A row made of a text, by the law's own steps. -/
def Made (w : World) (v : Value) (s : ByteArray) : Prop := ∃ A c, v = .slice A (rowD s).length c ∧ Arg w A (rowD s) (rowD s).length c
set_option maxHeartbeats 1600000 in
set_option maxRecDepth 100000 in
theorem rows_law (k : Nat → Nat) (hk : ∀ i, k i < 256) (a b : ByteArray) (W : World) (hS : Salts W) :
    Calls Tryd.prog 6 #[.agg (ar 32 k), .string a, .string b] W fun e w' => e = .returned (.bool true) ∧ Below W.heap.size W w' := by
  have HK := hid hk
  have SA := hid hS
  clear hk hS
  go_enter Tryd.func6, Tryd.ntmps6
  go_upto_region 1 with fail
  generalize hw1 : World.alloc W _ = w1
  have b0 := hid (show Blk w1 W.heap.size 23 (ar 32 k) by rw [← hw1]; exact Blk.new _ _ _)
  have hb := hid (show Below W.heap.size W w1 by rw [← hw1]; exact (Below.refl _ _).alloc (Nat.le_refl _) _)
  have sa := hid (SA.out.on hb.out)
  clear hw1 SA
  by_cases hs : a.size ≤ 10000 ∧ b.size ≤ 10000
  · obtain ⟨ha, hb'⟩ := hs
    have HA := hid ha
    have HB := hid hb'
    have ta : decide ((10000 : Int) < (a.size : Int)) = false := by simp; omega
    have tb : decide ((10000 : Int) < (b.size : Int)) = false := by simp; omega
    clear ha hb'
    go_wp2_with ((with_reducible apply wconvS); rfl; (have := HA.out; omega); intro g cap w2 hg hc1 hc2 hy hb2)
    have hr := rws_one (w := w2.alloc (.cells #[.slice (some ⟨w1.heap.size, 0, none⟩) a.size cap] 33)) (Blk.new _ _ _) hc1 hc2 (by rw [← hg]; exact (hy.below ((Below.refl w2.heap.size _).alloc (Nat.le_refl _) _) (Nat.le_refl _)).more (by simp))
    generalize hw3 : World.alloc w2 _ = w3 at hr ⊢
    have hb3 : Below w1.heap.size w1 w3 := by rw [← hw3]; exact hb2.alloc hb2.size _
    have c0 := hid (b0.out.below hb3 b0.out.lt)
    have cb := hid (hb.out.trans (hb3.mono hb.out.size))
    have cs := hid (sa.out.on hb3)
    have HR := hid hr
    clear hw3 hr hb3 b0 hb sa hy hb2 hg ta tb
    refine (prow_any 68 (by omega) _ [nats a] 1 1 (by omega) (by rw [flat_one]; have := HA.out; omega) w3 HR.out).mono ?_
    rintro e w4 ⟨v, rfl, o4, h4⟩
    obtain ⟨X, xcap, rfl, ax⟩ := o4.arg (rowD_256 HA.out)
    have b0 := hid (c0.out.below h4 c0.out.lt)
    have hb := hid (cb.out.trans (h4.mono cb.out.size))
    have sa := hid (cs.out.on h4)
    have AX := hid ax
    clear c0 cb cs o4 h4 HR ax hc1 hc2
    go_wp2_with ((with_reducible apply wconvS); rfl; (have := HB.out; omega); intro g2 cap2 w5 hg hc1 hc2 hy hb2)
    have hr := rws_one (w := w5.alloc (.cells #[.slice (some ⟨w4.heap.size, 0, none⟩) b.size cap2] 33)) (Blk.new _ _ _) hc1 hc2 (by rw [← hg]; exact (hy.below ((Below.refl w5.heap.size _).alloc (Nat.le_refl _) _) (Nat.le_refl _)).more (by simp))
    generalize hw3 : World.alloc w5 _ = w6 at hr ⊢
    have hb3 : Below w4.heap.size w4 w6 := by rw [← hw3]; exact hb2.alloc hb2.size _
    have c0 := hid (b0.out.below hb3 b0.out.lt)
    have cb := hid (hb.out.trans (hb3.mono hb.out.size))
    have cs := hid (sa.out.on hb3)
    have CX := hid (AX.out.on hb3)
    have HR := hid hr
    clear hw3 hr hb3 b0 hb sa AX hy hb2 hg
    refine (prow_any 68 (by omega) _ [nats b] 1 1 (by omega) (by rw [flat_one]; have := HB.out; omega) w6 HR.out).mono ?_
    rintro e w7 ⟨v, rfl, o7, h7⟩
    obtain ⟨Y, ycap, rfl, ay⟩ := o7.arg (rowD_256 HB.out)
    have b0 := hid (c0.out.below h7 c0.out.lt)
    have hb := hid (cb.out.trans (h7.mono cb.out.size))
    have sa := hid (cs.out.on h7)
    have AX := hid (CX.out.on h7)
    have AY := hid ay
    clear c0 cb cs CX o7 h7 HR ay hc1 hc2
    rw [show BytM.rowB 68 [nats a] = rowD a from rfl, show BytM.rowB 68 [nats b] = rowD b from rfl] at *
    obtain ⟨q, hq⟩ : ∃ q, (a.toList == b.toList) = q := ⟨_, rfl⟩
    have HQ2 : ((str (rowD a)).toList == (str (rowD b)).toList) = q := by
      rw [← hq]
      by_cases e : a = b
      · subst e; simp
      · rw [toList_ne e, toList_ne fun h => e (rowD_inj HA.out HB.out (str_inj (rowD_256 HA.out) (rowD_256 HB.out) h))]
    have HQ := hid HQ2
    have HQA := hid hq
    clear hq HQ2
    go_upto_region 5 with fail
    obtain ⟨sx, hsx⟩ : ∃ sx, sx = str (rowD a) := ⟨_, rfl⟩
    obtain ⟨sy, hsy⟩ : ∃ sy, sy = str (rowD b) := ⟨_, rfl⟩
    have HX := hid (show ∀ w', Below w7.heap.size w7 w' → (convert 33 9 (.slice X (rowD a).length xcap)).run Tryd.prog w' = .ok (.string sx) w' from fun w' hw' => by rw [hsx]; exact (AX.out.on hw').str)
    have HY := hid (show ∀ w', Below w7.heap.size w7 w' → (convert 33 9 (.slice Y (rowD b).length ycap)).run Tryd.prog w' = .ok (.string sy) w' from fun w' hw' => by rw [hsy]; exact (AY.out.on hw').str)
    have HXY := hid (show (sx.toList == sy.toList) = q by rw [hsx, hsy]; exact HQ.out)
    clear hsx hsy
    refine wp_region_fixed (C := fun w' => Below w7.heap.size w7 w') 17 (Below.refl _ _) ?_
    simp only [List.take_succ_cons, List.take_zero, List.drop_succ_cons, List.drop_zero]
    apply wpK_val
    · rfl
    · intro w' hw'
      go_simp
      first | exact rfl | exact ⟨rfl, hw'⟩
    simp only [Act.put, List.setIfInBounds_toArray, List.set_cons_succ, List.set_cons_zero]
    apply wpK_val
    · rfl
    · intro w' hw'
      go_simp
      first | exact rfl | exact ⟨rfl, hw'⟩
    simp only [Act.put, List.setIfInBounds_toArray, List.set_cons_succ, List.set_cons_zero]
    apply wpK_val
    · rfl
    · intro w' hw'
      go_simp
      first | exact rfl | exact ⟨rfl, hw'⟩
    simp only [Act.put, List.setIfInBounds_toArray, List.set_cons_succ, List.set_cons_zero]
    apply wpK_val
    · rfl
    · intro w' hw'
      go_simp
      first | exact rfl | exact ⟨rfl, hw'⟩
    simp only [Act.put, List.setIfInBounds_toArray, List.set_cons_succ, List.set_cons_zero]
    apply wpK_val
    · rfl
    · intro w' hw'
      go_simp
      first | exact rfl | exact ⟨rfl, hw'⟩
    simp only [Act.put, List.setIfInBounds_toArray, List.set_cons_succ, List.set_cons_zero]
    apply wpK_val
    · rfl
    · intro w' hw'
      go_simp
      first | exact rfl | exact ⟨rfl, hw'⟩
    simp only [Act.put, List.setIfInBounds_toArray, List.set_cons_succ, List.set_cons_zero]
    apply wpK_val
    · rfl
    · intro w' hw'
      go_simp
      first | exact rfl | exact ⟨rfl, hw'⟩
    simp only [Act.put, List.setIfInBounds_toArray, List.set_cons_succ, List.set_cons_zero]
    apply wpK_val
    · rfl
    · intro w' hw'
      go_simp
      first | exact rfl | exact ⟨rfl, hw'⟩
    simp only [Act.put, List.setIfInBounds_toArray, List.set_cons_succ, List.set_cons_zero]
    apply wpK_val
    · rfl
    · intro w' hw'
      have h1 : _ := HX.out w' hw'
      go_simp
      first | exact rfl | exact ⟨rfl, hw'⟩
    simp only [Act.put, List.setIfInBounds_toArray, List.set_cons_succ, List.set_cons_zero]
    apply wpK_val
    · rfl
    · intro w' hw'
      go_simp
      first | exact rfl | exact ⟨rfl, hw'⟩
    simp only [Act.put, List.setIfInBounds_toArray, List.set_cons_succ, List.set_cons_zero]
    apply wpK_val
    · rfl
    · intro w' hw'
      have h1 : _ := HY.out w' hw'
      go_simp
      first | exact rfl | exact ⟨rfl, hw'⟩
    simp only [Act.put, List.setIfInBounds_toArray, List.set_cons_succ, List.set_cons_zero]
    apply wpK_val
    · rfl
    · intro w' hw'
      have h1 : (sx.toList == sy.toList) = q := HXY.out
      go_simp
      first | exact rfl | exact ⟨rfl, hw'⟩
    simp only [Act.put, List.setIfInBounds_toArray, List.set_cons_succ, List.set_cons_zero]
    apply wpK_val
    · rfl
    · intro w' hw'
      go_simp
      first | exact rfl | exact ⟨rfl, hw'⟩
    simp only [Act.put, List.setIfInBounds_toArray, List.set_cons_succ, List.set_cons_zero]
    apply wpK_val
    · rfl
    · intro w' hw'
      go_simp
      first | exact rfl | exact ⟨rfl, hw'⟩
    simp only [Act.put, List.setIfInBounds_toArray, List.set_cons_succ, List.set_cons_zero]
    apply wpK_val
    · rfl
    · intro w' hw'
      have h1 : (a.toList == b.toList) = q := HQA.out
      go_simp
      first | exact rfl | exact ⟨rfl, hw'⟩
    simp only [Act.put, List.setIfInBounds_toArray, List.set_cons_succ, List.set_cons_zero]
    apply wpK_val
    · rfl
    · intro w' hw'
      go_simp
      first | exact rfl | exact ⟨rfl, hw'⟩
    simp only [Act.put, List.setIfInBounds_toArray, List.set_cons_succ, List.set_cons_zero]
    apply wpK_val
    · rfl
    · intro w' hw'
      go_simp
      first | exact rfl | exact ⟨rfl, hw'⟩
    simp only [Act.put, List.setIfInBounds_toArray, List.set_cons_succ, List.set_cons_zero]
    refine wpK_nil fun w8 hw8 => ?_
    have c0 := hid (b0.out.below hw8 b0.out.lt)
    have cb := hid (hb.out.trans (hw8.mono hb.out.size))
    have cs := hid (sa.out.on hw8)
    have CX := hid (AX.out.on hw8)
    have CY := hid (AY.out.on hw8)
    clear b0 hb sa AX AY hw8 HX HY HXY HQ HQA
    go_wp2_with fail
    refine (pparts_some X (rowD a) _ xcap (by rw [rowD_length HA.out]; have := HA.out; omega) (row_parts HA.out) w8 CX.out).mono ?_
    rintro e w9 ⟨Ap, cp, rfl, rp, h9⟩
    obtain ⟨gb, go, A', c', rfl, hgb, hcell, argA⟩ := rp.part (i := 0) (by show 0 < 1; omega)
    have b0 := hid (c0.out.below h9 c0.out.lt)
    have hb := hid (cb.out.trans (h9.mono cb.out.size))
    have sa := hid (cs.out.on h9)
    have AX := hid (CX.out.on h9)
    have AY := hid (CY.out.on h9)
    rw [show ([nats a] : List (List Nat)).getD 0 [] = nats a from rfl] at hcell argA
    have HC := hid (show w9.cell? ⟨gb, go, none⟩ = some (.slice A' (nats a).length c') from hcell)
    have HG := hid argA
    rw [show ([nats a] : List (List Nat)).length = 1 from rfl]
    clear c0 cb cs CX CY h9 rp hcell argA
    obtain ⟨TA, hTA⟩ : ∃ T, T = sub k a := ⟨_, rfl⟩
    obtain ⟨TB, hTB⟩ : ∃ T, T = sub k b := ⟨_, rfl⟩
    have ETA := hid hTA
    have ETB := hid hTB
    clear hTA hTB
    go_wp2_with fail
    refine wp_region_tail (C := fun w' => Below w9.heap.size w9 w') 41 (by kernel_rfl) (by kernel_rfl) (by kernel_rfl) (Below.refl _ _).drew ?_
    simp only [List.take_succ_cons, List.take_zero, List.drop_succ_cons, List.drop_zero]
    apply wpK_val
    · rfl
    · intro w' hw'
      go_simp
      first | exact rfl | exact ⟨rfl, hw'⟩
    simp only [Act.put, List.setIfInBounds_toArray, List.set_cons_succ, List.set_cons_zero]
    apply wpK_val
    · rfl
    · intro w' hw'
      go_simp
      first | exact rfl | exact ⟨rfl, hw'⟩
    simp only [Act.put, List.setIfInBounds_toArray, List.set_cons_succ, List.set_cons_zero]
    apply wpK_val
    · rfl
    · intro w' hw'
      go_simp
      first | exact rfl | exact ⟨rfl, hw'⟩
    simp only [Act.put, List.setIfInBounds_toArray, List.set_cons_succ, List.set_cons_zero]
    apply wpK_val
    · rfl
    · intro w' hw'
      go_simp
      first | exact rfl | exact ⟨rfl, hw'⟩
    simp only [Act.put, List.setIfInBounds_toArray, List.set_cons_succ, List.set_cons_zero]
    apply wpK_val
    · rfl
    · intro w' hw'
      go_simp
      first | exact rfl | exact ⟨rfl, hw'⟩
    simp only [Act.put, List.setIfInBounds_toArray, List.set_cons_succ, List.set_cons_zero]
    apply wpK_val
    · rfl
    · intro w' hw'
      go_simp
      first | exact rfl | exact ⟨rfl, hw'⟩
    simp only [Act.put, List.setIfInBounds_toArray, List.set_cons_succ, List.set_cons_zero]
    apply wpK_val
    · rfl
    · intro w' hw'
      go_simp
      first | exact rfl | exact ⟨rfl, hw'⟩
    simp only [Act.put, List.setIfInBounds_toArray, List.set_cons_succ, List.set_cons_zero]
    apply wpK_val
    · rfl
    · intro w' hw'
      go_simp
      first | exact rfl | exact ⟨rfl, hw'⟩
    simp only [Act.put, List.setIfInBounds_toArray, List.set_cons_succ, List.set_cons_zero]
    apply wpK_val
    · rfl
    · intro w' hw'
      go_simp
      first | exact rfl | exact ⟨rfl, hw'⟩
    simp only [Act.put, List.setIfInBounds_toArray, List.set_cons_succ, List.set_cons_zero]
    apply wpK_val
    · rfl
    · intro w' hw'
      go_simp
      first | exact rfl | exact ⟨rfl, hw'⟩
    simp only [Act.put, List.setIfInBounds_toArray, List.set_cons_succ, List.set_cons_zero]
    apply wpK_val
    · rfl
    · intro w' hw'
      go_simp
      first | exact rfl | exact ⟨rfl, hw'⟩
    simp only [Act.put, List.setIfInBounds_toArray, List.set_cons_succ, List.set_cons_zero]
    apply wpK_val
    · rfl
    · intro w' hw'
      go_simp
      first | exact rfl | exact ⟨rfl, hw'⟩
    simp only [Act.put, List.setIfInBounds_toArray, List.set_cons_succ, List.set_cons_zero]
    apply wpK_val
    · rfl
    · intro w' hw'
      go_simp
      first | exact rfl | exact ⟨rfl, hw'⟩
    simp only [Act.put, List.setIfInBounds_toArray, List.set_cons_succ, List.set_cons_zero]
    apply wpK_val
    · rfl
    · intro w' hw'
      go_simp
      first | exact rfl | exact ⟨rfl, hw'⟩
    simp only [Act.put, List.setIfInBounds_toArray, List.set_cons_succ, List.set_cons_zero]
    apply wpK_val
    · rfl
    · intro w' hw'
      have hcell := (hw'.cell (p := ⟨gb, go, none⟩) hgb).trans HC.out
      go_simp
      first | exact rfl | exact ⟨rfl, hw'⟩
    simp only [Act.put, List.setIfInBounds_toArray, List.set_cons_succ, List.set_cons_zero]
    apply wpK_val
    · rfl
    · intro w' hw'
      have h1 : (convert 33 9 (.slice A' (nats a).length c')).run Tryd.prog w' = .ok (.string a) w' := by have h := (HG.out.on hw').str; rwa [str_nats] at h
      go_simp
      first | exact rfl | exact ⟨rfl, hw'⟩
    simp only [Act.put, List.setIfInBounds_toArray, List.set_cons_succ, List.set_cons_zero]
    apply wpK_val
    · rfl
    · intro w' hw'
      go_simp
      first | exact rfl | exact ⟨rfl, hw'⟩
    simp only [Act.put, List.setIfInBounds_toArray, List.set_cons_succ, List.set_cons_zero]
    apply wpK_val
    · rfl
    · intro w' hw'
      go_simp
      first | exact rfl | exact ⟨rfl, hw'⟩
    simp only [Act.put, List.setIfInBounds_toArray, List.set_cons_succ, List.set_cons_zero]
    apply wpK_val
    · rfl
    · intro w' hw'
      go_simp
      first | exact rfl | exact ⟨rfl, hw'⟩
    simp only [Act.put, List.setIfInBounds_toArray, List.set_cons_succ, List.set_cons_zero]
    apply wpK_val
    · rfl
    · intro w' hw'
      go_simp
      first | exact rfl | exact ⟨rfl, hw'⟩
    simp only [Act.put, List.setIfInBounds_toArray, List.set_cons_succ, List.set_cons_zero]
    apply kldA tK
    · rfl
    · rfl
    · exact fun w' hw' => (b0.out.below hw' b0.out.lt).head
    simp only [Act.put, List.setIfInBounds_toArray, List.set_cons_succ, List.set_cons_zero]
    apply wpK_val
    · rfl
    · intro w' hw'
      go_simp
      first | exact rfl | exact ⟨rfl, hw'⟩
    simp only [Act.put, List.setIfInBounds_toArray, List.set_cons_succ, List.set_cons_zero]
    apply wpK_val
    · rfl
    · intro w' hw'
      go_simp
      exact (sub_any k HK.out a HA.out w' (sa.out.on hw')).mono fun e w2 h => ⟨h.1, hw'.trans (h.2.mono hw'.size)⟩
    simp only [Act.put, List.setIfInBounds_toArray, List.set_cons_succ, List.set_cons_zero]
    apply wpK_val
    · rfl
    · intro w' hw'
      go_simp
      first | exact rfl | exact ⟨rfl, hw'⟩
    simp only [Act.put, List.setIfInBounds_toArray, List.set_cons_succ, List.set_cons_zero]
    apply wpK_val
    · rfl
    · intro w' hw'
      go_simp
      first | exact rfl | exact ⟨rfl, hw'⟩
    simp only [Act.put, List.setIfInBounds_toArray, List.set_cons_succ, List.set_cons_zero]
    apply wpK_val
    · rfl
    · intro w' hw'
      go_simp
      exact (hof_any _ (HmM.dl k) 32 32 (HmM.dl_length k) (Nat.le_refl _) (by unfold maxLen; omega) (by omega) (HmM.dl_256 HK.out) X (rowD a) _ xcap rfl AX.out.cap AX.out.max AX.out.b256 (by rw [rowD_length HA.out]; have := HA.out; omega) w' (key_byt (b0.out.below hw' b0.out.lt)) (AX.out.on hw').byt (sa.out.on hw')).mono fun e w2 h => ⟨h.1, hw'.trans (h.2.mono hw'.size)⟩
    simp only [Act.put, List.setIfInBounds_toArray, List.set_cons_succ, List.set_cons_zero]
    apply keqU true uK eqg_key
    · rfl
    · rfl
    · rfl
    · exact eqA_yes fun _ _ => rfl
    simp only [Act.put, List.setIfInBounds_toArray, List.set_cons_succ, List.set_cons_zero]
    apply wpK_val
    · rfl
    · intro w' hw'
      go_simp
      first | exact rfl | exact ⟨rfl, hw'⟩
    simp only [Act.put, List.setIfInBounds_toArray, List.set_cons_succ, List.set_cons_zero]
    apply wpK_val
    · rfl
    · intro w' hw'
      go_simp
      first | exact rfl | exact ⟨rfl, hw'⟩
    simp only [Act.put, List.setIfInBounds_toArray, List.set_cons_succ, List.set_cons_zero]
    apply kldA tK
    · rfl
    · rfl
    · exact fun w' hw' => (b0.out.below hw' b0.out.lt).head
    simp only [Act.put, List.setIfInBounds_toArray, List.set_cons_succ, List.set_cons_zero]
    apply wpK_val
    · rfl
    · intro w' hw'
      go_simp
      first | exact rfl | exact ⟨rfl, hw'⟩
    simp only [Act.put, List.setIfInBounds_toArray, List.set_cons_succ, List.set_cons_zero]
    apply wpK_val
    · rfl
    · intro w' hw'
      go_simp
      exact (sub_any k HK.out b HB.out w' (sa.out.on hw')).mono fun e w2 h => ⟨h.1, hw'.trans (h.2.mono hw'.size)⟩
    simp only [Act.put, List.setIfInBounds_toArray, List.set_cons_succ, List.set_cons_zero]
    apply wpK_val
    · rfl
    · intro w' hw'
      go_simp
      first | exact rfl | exact ⟨rfl, hw'⟩
    simp only [Act.put, List.setIfInBounds_toArray, List.set_cons_succ, List.set_cons_zero]
    apply wpK_val
    · rfl
    · intro w' hw'
      go_simp
      first | exact rfl | exact ⟨rfl, hw'⟩
    simp only [Act.put, List.setIfInBounds_toArray, List.set_cons_succ, List.set_cons_zero]
    apply wpK_val
    · rfl
    · intro w' hw'
      go_simp
      exact (hof_any _ (HmM.dl k) 32 32 (HmM.dl_length k) (Nat.le_refl _) (by unfold maxLen; omega) (by omega) (HmM.dl_256 HK.out) Y (rowD b) _ ycap rfl AY.out.cap AY.out.max AY.out.b256 (by rw [rowD_length HB.out]; have := HB.out; omega) w' (key_byt (b0.out.below hw' b0.out.lt)) (AY.out.on hw').byt (sa.out.on hw')).mono fun e w2 h => ⟨h.1, hw'.trans (h.2.mono hw'.size)⟩
    simp only [Act.put, List.setIfInBounds_toArray, List.set_cons_succ, List.set_cons_zero]
    apply keqU true uK eqg_key
    · rfl
    · rfl
    · rfl
    · exact eqA_yes fun _ _ => rfl
    simp only [Act.put, List.setIfInBounds_toArray, List.set_cons_succ, List.set_cons_zero]
    apply wpK_val
    · rfl
    · intro w' hw'
      go_simp
      first | exact rfl | exact ⟨rfl, hw'⟩
    simp only [Act.put, List.setIfInBounds_toArray, List.set_cons_succ, List.set_cons_zero]
    apply wpK_val
    · rfl
    · intro w' hw'
      go_simp
      first | exact rfl | exact ⟨rfl, hw'⟩
    simp only [Act.put, List.setIfInBounds_toArray, List.set_cons_succ, List.set_cons_zero]
    apply wpK_val
    · rfl
    · intro w' hw'
      go_simp
      exact (awake_any w' (sa.out.on hw')).mono fun e w2 h => ⟨h.1, hw'.trans (h.2.mono hw'.size)⟩
    simp only [Act.put, List.setIfInBounds_toArray, List.set_cons_succ, List.set_cons_zero]
    apply wpK_val
    · rfl
    · intro w' hw'
      go_simp
      first | exact rfl | exact ⟨rfl, hw'⟩
    simp only [Act.put, List.setIfInBounds_toArray, List.set_cons_succ, List.set_cons_zero]
    apply wpK_val
    · rfl
    · intro w' hw'
      go_simp
      first | exact rfl | exact ⟨rfl, hw'⟩
    simp only [Act.put, List.setIfInBounds_toArray, List.set_cons_succ, List.set_cons_zero]
    refine wpK_nil fun wz hwz => ?_
    have rb := hid (hb.out.trans (hwz.mono hb.out.size))
    clear b0 hb sa AX AY HC HG hwz
    go_wp2_with fail
    go_ret
    exact ⟨rfl, rb.out⟩
  · have ht : (decide ((10000 : Int) < (a.size : Int)) || decide ((10000 : Int) < (b.size : Int))) = true := by simp; omega
    by_cases h1 : 10000 < a.size
    · have ta : decide ((10000 : Int) < (a.size : Int)) = true := by simp; omega
      clear ht hs
      go_wp2_with fail
      refine (awake_any w1 sa.out).mono ?_
      rintro e w2 ⟨rfl, h2⟩
      have rb := hid (hb.out.trans (h2.mono hb.out.size))
      clear b0 hb sa h2
      go_wp2_with fail
      go_ret
      exact ⟨rfl, rb.out⟩
    · have ta : decide ((10000 : Int) < (a.size : Int)) = false := by simp; omega
      have tb : decide ((10000 : Int) < (b.size : Int)) = true := by simp; omega
      clear ht hs
      go_wp2_with fail
      refine (awake_any w1 sa.out).mono ?_
      rintro e w2 ⟨rfl, h2⟩
      have rb := hid (hb.out.trans (h2.mono hb.out.size))
      clear b0 hb sa h2
      go_wp2_with fail
      go_ret
      exact ⟨rfl, rb.out⟩
end DvP
end Go.Proofs.YtkoenljcobcdcaaDoor
