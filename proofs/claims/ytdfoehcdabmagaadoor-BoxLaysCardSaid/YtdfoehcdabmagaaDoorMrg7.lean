/-
  The law BoxWraps.
  Regions whose values hang on their order: what each operation yields as a list of known values, and slices of known bytes wherever they lie.
  The law BoxLays.
  A region that draws its order and makes two new variables, into the first of which it stores ahead of what does not wait for it ('a, b := f(x), g(y)').
  The law BoxBack.
-/
import Derived.Test.YtdfoehcdabmagaaDoorMrg6
set_option linter.unusedVariables false
set_option linter.unusedSimpArgs false
set_option maxRecDepth 100000
namespace Go.Proofs.YtdfoehcdabmagaaDoor
open Go.ChangeShapes Go.WideShapes Go.ChangeAt Go.RowKit
open DvP (tK tT sub uK eqg_key)
attribute [local go_sem] Gives GivesE
namespace BxP
theorem tBy : RowT 26 34 := ⟨by kernel_rfl, _, Tryd.underlying26, rfl⟩
theorem by_size (k : Nat → Nat) (s : ByteArray) (n : Nat) : (byV k s n).size = 34 := size_row
theorem tBy' (k : Nat → Nat) (s : ByteArray) (n : Nat) : RowT 26 (byV k s n).size := by rw [by_size]; exact tBy
theorem eqg_box : Tryd.prog.eqGuardType Tryd.prog.depth 29 = false := by kernel_rfl
theorem eq_box {F G : Nat → Nat} (h : ∀ j, j < 64 → F j = G j) (w : World) : (binOp .eql 29 (.agg (ar 64 F)) (.agg (ar 64 G))).run Tryd.prog w = .ok (.bool true) w := by
  have hf : Tryd.prog.underlying 29 = some (.struct (Tryd.prog.fieldsOf 29)) := by kernel_rfl
  have hfs : (Tryd.prog.fieldsOf 29).toList.map (fun f => (f.name, f.type, f.offset)) = [("Data", 23, 0), ("Tag", 27, 32)] := by kernel_rfl
  obtain ⟨f0, f1, e, q0, q1⟩ := list_two hfs
  simp only [Prod.mk.injEq] at q0 q1
  obtain ⟨n0, t0, o0⟩ := q0
  obtain ⟨n1, t1, o1⟩ := q1
  rw [run_eql_struct, run_equalIn_struct w 9999 _ _ _ hf (by kernel_rfl), e]
  rw [eqf_cons (m := 32) (d := 9997) (by rw [n0]; decide) (by rw [t0]; exact tK) (by rw [t0]; exact uK) o0 (by omega), if_pos (eqA_yes fun i hi => h _ (by omega)), eqf_cons (m := 32) (d := 9997) (by rw [n1]; decide) (by rw [t1]; exact tT) (by rw [t1]; exact uTag) o1 (by omega), if_pos (eqA_yes fun i hi => h _ (by omega)), eqf_nil]
  rfl
section
variable {ops : Array Oper} {a : Act} {rest : List Oper} {dst : Option Tmp} {ty r : TypeId} {pos : String} {after : Array Edge} {x y : Operand} {gd : Option (Nat × Bool)} {C : World → Prop} {Qk : Act → Prop}
theorem keqBox {F G : Nat → Nat} (hwt : Region.wanted ⟨dst, .binOp .eql 29 x y r, ty, pos, after, gd⟩ (yielded ops a.tmps) = true) (hx : a.eval x = .agg (ar 64 F)) (hy : a.eval y = .agg (ar 64 G)) (hFG : ∀ j, j < 64 → F j = G j)
    (hk : wpK Tryd.prog ops C Qk rest (a.put dst (.bool true))) : wpK Tryd.prog ops C Qk (⟨dst, .binOp .eql 29 x y r, ty, pos, after, gd⟩ :: rest) a :=
  wpK_val hwt (fun w hw => gives_value (w' := w) (by
    have h1 : (eqGuard .eql 29 x y (.agg (ar 64 F)) (.agg (ar 64 G))).run Tryd.prog w = .ok () w := by
      simp [eqGuard, eqg_box, go_sem]
    simp only [execOp, hx, hy, Sem.run_bind, h1, eq_box hFG w, Result.andThen_ok, Sem.run_pure]) hw) hk
end
set_option maxHeartbeats 1600000 in
set_option maxRecDepth 100000 in
theorem wraps_law (hC : BoxC) (k x f g : Nat → Nat) (hk : ∀ i, k i < 256) (hx : ∀ i, x i < 256) (hf : ∀ i, f i < 256) (hg : ∀ i, g i < 256) (s : ByteArray) (n : Nat) (hn : n < 18446744073709551616) (W : World) (hS : Salts W) :
    Calls Tryd.prog 3 #[.agg (byV k s n), .agg (ar 32 x), .agg (ar 64 (duo f g))] W fun e w' => e = .returned (.bool true) ∧ Below W.heap.size W w' := by
  have HC := hid hC
  have HK := hid hk
  have HX := hid hx
  have HF := hid hf
  have HG := hid hg
  have HN := hid hn
  have SA := hid hS
  have HL := hid (cut100_size s)
  obtain ⟨bt, hbt⟩ : ∃ bt, eqA 32 (tagB k (cut100 s) n f) g = bt := ⟨_, rfl⟩
  have HBT := hid hbt
  obtain ⟨BX, hBX⟩ : ∃ BX, BX = boxF k (cut100 s) n x := ⟨_, rfl⟩
  have HBX := hid hBX
  obtain ⟨KX, hKX⟩ : ∃ KX, KX = (if bt then xorF f (pad k (cut100 s) n) else fun _ => 0) := ⟨_, rfl⟩
  have HKX := hid hKX
  obtain ⟨EX, hEX⟩ : ∃ EX : Int, EX = (if bt then 0 else 12) := ⟨_, rfl⟩
  have HEX := hid hEX
  clear hC hk hx hf hg hn hS hbt hBX hKX hEX
  go_enter Tryd.func3, Tryd.ntmps3
  go_upto_region 1 with fail
  generalize hw1 : World.alloc (World.alloc (World.alloc W _) _) _ = w1
  have b0 := hid (show Blk w1 W.heap.size 26 (byV k s n) by rw [← hw1]; exact ((Blk.new _ _ _).alloc _).alloc _)
  have b1 := hid (show Blk w1 (W.heap.size + 1) 23 (ar 32 x) by rw [← hw1]; exact (Blk.top rfl (by simp)).alloc _)
  have b2 := hid (show Blk w1 (W.heap.size + 1 + 1) 29 (ar 64 (duo f g)) by rw [← hw1]; exact Blk.top rfl (by simp))
  have hb := hid (show Below W.heap.size W w1 by rw [← hw1]; exact (((Below.refl _ _).alloc (Nat.le_refl _) _).alloc (by simp) _).alloc (by simp; omega) _)
  have sa := hid (SA.out.on hb.out)
  clear hw1
  refine wp_region_new1 (C := fun w' => Below w1.heap.size w1 w') 8 29 (ar 64 fun _ => 0) 7 rfl (by kernel_rfl) (by kernel_rfl) (by kernel_rfl) (run_alloc_ar tBox) (Below.refl _ _).drew (fun w' hw' => hw'.alloc hw'.size _) (fun w' hw' => hw'.size) ?_
  simp only [List.take_succ_cons, List.take_zero, List.drop_succ_cons, List.drop_zero]
  apply wpB_val
  · rfl
  · intro w' hw'
    have hbl := Below.refl w'.heap.size w'
    go_simp
    first | exact rfl | exact ⟨rfl, hbl⟩ | exact ⟨rfl, hw', hbl⟩
  simp only [Act.put, List.setIfInBounds_toArray, List.set_cons_succ, List.set_cons_zero]
  apply bldA tK
  · rfl
  · rfl
  · exact fun w' hw' => by_key (b0.out.below hw' b0.out.lt)
  simp only [Act.put, List.setIfInBounds_toArray, List.set_cons_succ, List.set_cons_zero]
  apply bldR (tBy' k s n)
  · rfl
  · rfl
  · exact fun w' hw' => (b0.out.below hw' b0.out.lt).whole
  simp only [Act.put, List.setIfInBounds_toArray, List.set_cons_succ, List.set_cons_zero]
  apply wpB_val
  · rfl
  · intro w' hw'
    go_simp
    exact (label_any k s n w').mono fun e w2 h => ⟨h.1, hw'.trans (h.2.mono hw'.size), h.2⟩
  simp only [Act.put, List.setIfInBounds_toArray, List.set_cons_succ, List.set_cons_zero]
  apply wpB_val
  · rfl
  · intro w' hw'
    have hbl := Below.refl w'.heap.size w'
    go_simp
    first | exact rfl | exact ⟨rfl, hbl⟩ | exact ⟨rfl, hw', hbl⟩
  simp only [Act.put, List.setIfInBounds_toArray, List.set_cons_succ, List.set_cons_zero]
  apply wpB_val
  · rfl
  · intro w' hw'
    have hbl := Below.refl w'.heap.size w'
    have h1 : w'.cell? ⟨W.heap.size, 33, none⟩ = some (.int .u64 n) := by_num (b0.out.below hw' b0.out.lt)
    go_simp
    first | exact rfl | exact ⟨rfl, hbl⟩ | exact ⟨rfl, hw', hbl⟩
  simp only [Act.put, List.setIfInBounds_toArray, List.set_cons_succ, List.set_cons_zero]
  apply bldA tK
  · rfl
  · rfl
  · exact fun w' hw' => (b1.out.below hw' b1.out.lt).head
  simp only [Act.put, List.setIfInBounds_toArray, List.set_cons_succ, List.set_cons_zero]
  apply wpB_val
  · rfl
  · intro w' hw'
    go_simp
    exact (HC.out.wrap k x HK.out HX.out (cut100 s) HL.out n HN.out w' (sa.out.on hw')).mono fun e w2 h => ⟨h.1, hw'.trans (h.2.mono hw'.size), h.2⟩
  simp only [Act.put, List.setIfInBounds_toArray, List.set_cons_succ, List.set_cons_zero]
  rw [← HBX.out]
  refine wpB_nil fun ga w1a hw2 qp hgp => ?_
  have cb0 := hid (b0.out.below hw2 b0.out.lt)
  have cb1 := hid (b1.out.below hw2 b1.out.lt)
  have cb2 := hid (b2.out.below hw2 b2.out.lt)
  have chb := hid (hb.out.trans (hw2.mono hb.out.size))
  have csa := hid (sa.out.on hw2)
  have lb0 := b0.out.lt
  have lb1 := b1.out.lt
  have lb2 := b2.out.lt
  clear b0 b1 b2 hb sa hw2
  unfold ptr
  go_upto_region 2 with ((with_reducible apply stA tBox); rfl; rfl; exact qp)
  have hlw := chb.out.size
  generalize hw3 : World.setRow _ _ _ = w1
  have b0 := hid (cb0.out.turn (Turn.setRow (S := fun b => b = ga) w1a ga (ar 64 BX) rfl) (show ¬ _ = ga by omega))
  rw [hw3] at b0
  have b1 := hid (cb1.out.turn (Turn.setRow (S := fun b => b = ga) w1a ga (ar 64 BX) rfl) (show ¬ _ = ga by omega))
  rw [hw3] at b1
  have b2 := hid (cb2.out.turn (Turn.setRow (S := fun b => b = ga) w1a ga (ar 64 BX) rfl) (show ¬ _ = ga by omega))
  rw [hw3] at b2
  have qga := hid (qp.setRow_same (ar 64 BX))
  rw [hw3] at qga
  have hb := hid (below_setRow chb.out (show W.heap.size ≤ ga by omega) (ar 64 BX))
  rw [hw3] at hb
  have sa := hid (SA.out.on hb.out)
  clear hw3 qp chb csa hgp hlw cb0 cb1 cb2 lb0 lb1 lb2
  refine wp_region_new1 (C := fun w' => Below w1.heap.size w1 w') 8 29 (ar 64 fun _ => 0) 8 rfl (by kernel_rfl) (by kernel_rfl) (by kernel_rfl) (run_alloc_ar tBox) (Below.refl _ _).drew (fun w' hw' => hw'.alloc hw'.size _) (fun w' hw' => hw'.size) ?_
  simp only [List.take_succ_cons, List.take_zero, List.drop_succ_cons, List.drop_zero]
  apply wpB_val
  · rfl
  · intro w' hw'
    have hbl := Below.refl w'.heap.size w'
    go_simp
    first | exact rfl | exact ⟨rfl, hbl⟩ | exact ⟨rfl, hw', hbl⟩
  simp only [Act.put, List.setIfInBounds_toArray, List.set_cons_succ, List.set_cons_zero]
  apply bldA tK
  · rfl
  · rfl
  · exact fun w' hw' => by_key (b0.out.below hw' b0.out.lt)
  simp only [Act.put, List.setIfInBounds_toArray, List.set_cons_succ, List.set_cons_zero]
  apply bldR (tBy' k s n)
  · rfl
  · rfl
  · exact fun w' hw' => (b0.out.below hw' b0.out.lt).whole
  simp only [Act.put, List.setIfInBounds_toArray, List.set_cons_succ, List.set_cons_zero]
  apply wpB_val
  · rfl
  · intro w' hw'
    go_simp
    exact (label_any k s n w').mono fun e w2 h => ⟨h.1, hw'.trans (h.2.mono hw'.size), h.2⟩
  simp only [Act.put, List.setIfInBounds_toArray, List.set_cons_succ, List.set_cons_zero]
  apply wpB_val
  · rfl
  · intro w' hw'
    have hbl := Below.refl w'.heap.size w'
    go_simp
    first | exact rfl | exact ⟨rfl, hbl⟩ | exact ⟨rfl, hw', hbl⟩
  simp only [Act.put, List.setIfInBounds_toArray, List.set_cons_succ, List.set_cons_zero]
  apply wpB_val
  · rfl
  · intro w' hw'
    have hbl := Below.refl w'.heap.size w'
    have h1 : w'.cell? ⟨W.heap.size, 33, none⟩ = some (.int .u64 n) := by_num (b0.out.below hw' b0.out.lt)
    go_simp
    first | exact rfl | exact ⟨rfl, hbl⟩ | exact ⟨rfl, hw', hbl⟩
  simp only [Act.put, List.setIfInBounds_toArray, List.set_cons_succ, List.set_cons_zero]
  apply bldA tK
  · rfl
  · rfl
  · exact fun w' hw' => (b1.out.below hw' b1.out.lt).head
  simp only [Act.put, List.setIfInBounds_toArray, List.set_cons_succ, List.set_cons_zero]
  apply wpB_val
  · rfl
  · intro w' hw'
    go_simp
    exact (rwrap_any k x HK.out HX.out (cut100 s) HL.out n HN.out w').mono fun e w2 h => ⟨h.1, hw'.trans (h.2.mono hw'.size), h.2⟩
  simp only [Act.put, List.setIfInBounds_toArray, List.set_cons_succ, List.set_cons_zero]
  rw [show (duo (xorF x (pad k (cut100 s) n)) (tagB k (cut100 s) n (xorF x (pad k (cut100 s) n)))) = BX from HBX.out.symm]
  refine wpB_nil fun gc w2a hw2 qp hgp => ?_
  have cb0 := hid (b0.out.below hw2 b0.out.lt)
  have cb1 := hid (b1.out.below hw2 b1.out.lt)
  have cb2 := hid (b2.out.below hw2 b2.out.lt)
  have cqga := hid (qga.out.below hw2 qga.out.lt)
  have chb := hid (hb.out.trans (hw2.mono hb.out.size))
  have csa := hid (sa.out.on hw2)
  have lb0 := b0.out.lt
  have lb1 := b1.out.lt
  have lb2 := b2.out.lt
  have lqga := qga.out.lt
  clear b0 b1 b2 qga hb sa hw2
  unfold ptr
  go_upto_region 3 with ((with_reducible apply stA tBox); rfl; rfl; exact qp)
  have hlw := chb.out.size
  generalize hw3 : World.setRow _ _ _ = w2
  have b0 := hid (cb0.out.turn (Turn.setRow (S := fun b => b = gc) w2a gc (ar 64 BX) rfl) (show ¬ _ = gc by omega))
  rw [hw3] at b0
  have b1 := hid (cb1.out.turn (Turn.setRow (S := fun b => b = gc) w2a gc (ar 64 BX) rfl) (show ¬ _ = gc by omega))
  rw [hw3] at b1
  have b2 := hid (cb2.out.turn (Turn.setRow (S := fun b => b = gc) w2a gc (ar 64 BX) rfl) (show ¬ _ = gc by omega))
  rw [hw3] at b2
  have qga := hid (cqga.out.turn (Turn.setRow (S := fun b => b = gc) w2a gc (ar 64 BX) rfl) (show ¬ _ = gc by omega))
  rw [hw3] at qga
  have qgc := hid (qp.setRow_same (ar 64 BX))
  rw [hw3] at qgc
  have hb := hid (below_setRow chb.out (show W.heap.size ≤ gc by omega) (ar 64 BX))
  rw [hw3] at hb
  have sa := hid (SA.out.on hb.out)
  clear hw3 qp chb csa hgp hlw cb0 cb1 cb2 cqga lb0 lb1 lb2 lqga
  refine wp_region_newst (C := fun w' => Below w2.heap.size w2 w') 11 23 (ar 32 fun _ => 0) (ar 32 KX) 9 rfl rfl (by kernel_rfl) (by kernel_rfl) (by kernel_rfl) (by kernel_rfl) (run_alloc_ar tK) (fun _ _ hb => run_st_ar tK hb KX) (Below.refl _ _).drew (fun w' hw' => hw'.alloc hw'.size _) (fun w' hw' => hw'.size) (fun w' g hw' hg => below_setRow hw' hg _) ?_
  simp only [List.take_succ_cons, List.take_zero, List.drop_succ_cons, List.drop_zero]
  apply wpB_val
  · rfl
  · intro w' hw'
    have hbl := Below.refl w'.heap.size w'
    go_simp
    first | exact rfl | exact ⟨rfl, hbl⟩ | exact ⟨rfl, hw', hbl⟩
  simp only [Act.put, List.setIfInBounds_toArray, List.set_cons_succ, List.set_cons_zero]
  apply bldA tK
  · rfl
  · rfl
  · exact fun w' hw' => by_key (b0.out.below hw' b0.out.lt)
  simp only [Act.put, List.setIfInBounds_toArray, List.set_cons_succ, List.set_cons_zero]
  apply bldR (tBy' k s n)
  · rfl
  · rfl
  · exact fun w' hw' => (b0.out.below hw' b0.out.lt).whole
  simp only [Act.put, List.setIfInBounds_toArray, List.set_cons_succ, List.set_cons_zero]
  apply wpB_val
  · rfl
  · intro w' hw'
    go_simp
    exact (label_any k s n w').mono fun e w2 h => ⟨h.1, hw'.trans (h.2.mono hw'.size), h.2⟩
  simp only [Act.put, List.setIfInBounds_toArray, List.set_cons_succ, List.set_cons_zero]
  apply wpB_val
  · rfl
  · intro w' hw'
    have hbl := Below.refl w'.heap.size w'
    go_simp
    first | exact rfl | exact ⟨rfl, hbl⟩ | exact ⟨rfl, hw', hbl⟩
  simp only [Act.put, List.setIfInBounds_toArray, List.set_cons_succ, List.set_cons_zero]
  apply wpB_val
  · rfl
  · intro w' hw'
    have hbl := Below.refl w'.heap.size w'
    have h1 : w'.cell? ⟨W.heap.size, 33, none⟩ = some (.int .u64 n) := by_num (b0.out.below hw' b0.out.lt)
    go_simp
    first | exact rfl | exact ⟨rfl, hbl⟩ | exact ⟨rfl, hw', hbl⟩
  simp only [Act.put, List.setIfInBounds_toArray, List.set_cons_succ, List.set_cons_zero]
  apply bldA tBox
  · rfl
  · rfl
  · exact fun w' hw' => (b2.out.below hw' b2.out.lt).head
  simp only [Act.put, List.setIfInBounds_toArray, List.set_cons_succ, List.set_cons_zero]
  apply wpB_val
  · rfl
  · intro w' hw'
    go_simp
    exact (HC.out.unwrap k f g HK.out HF.out HG.out (cut100 s) HL.out n HN.out _ HBT.out w' (sa.out.on hw')).mono fun e w2 h => ⟨h.1, hw'.trans (h.2.mono hw'.size), h.2⟩
  simp only [Act.put, List.setIfInBounds_toArray, List.set_cons_succ, List.set_cons_zero]
  rw [← HKX.out, ← HEX.out]
  apply wpB_val
  · rfl
  · intro w' hw'
    have hbl := Below.refl w'.heap.size w'
    go_simp
    first | exact rfl | exact ⟨rfl, hbl⟩ | exact ⟨rfl, hw', hbl⟩
  simp only [Act.put, List.setIfInBounds_toArray, List.set_cons_succ, List.set_cons_zero]
  apply wpB_val
  · rfl
  · intro w' hw'
    have hbl := Below.refl w'.heap.size w'
    go_simp
    first | exact rfl | exact ⟨rfl, hbl⟩ | exact ⟨rfl, hw', hbl⟩
  simp only [Act.put, List.setIfInBounds_toArray, List.set_cons_succ, List.set_cons_zero]
  apply wpB_val
  · rfl
  · intro w' hw'
    have hbl := Below.refl w'.heap.size w'
    go_simp
    first | exact rfl | exact ⟨rfl, hbl⟩ | exact ⟨rfl, hw', hbl⟩
  simp only [Act.put, List.setIfInBounds_toArray, List.set_cons_succ, List.set_cons_zero]
  refine wpB_nil ⟨fun _ => ⟨rfl, rfl⟩, fun gk w3 hw2 qp hgp => ?_⟩
  have cb0 := hid (b0.out.below hw2 b0.out.lt)
  have cb1 := hid (b1.out.below hw2 b1.out.lt)
  have cb2 := hid (b2.out.below hw2 b2.out.lt)
  have cqga := hid (qga.out.below hw2 qga.out.lt)
  have cqgc := hid (qgc.out.below hw2 qgc.out.lt)
  have chb := hid (hb.out.trans (hw2.mono hb.out.size))
  have csa := hid (sa.out.on hw2)
  have lb0 := b0.out.lt
  have lb1 := b1.out.lt
  have lb2 := b2.out.lt
  have lqga := qga.out.lt
  have lqgc := qgc.out.lt
  clear b0 b1 b2 qga qgc hb sa hw2
  unfold ptr
  go_upto_region 4 with fail
  have hlw := chb.out.size
  have b0 := hid cb0.out
  have b1 := hid cb1.out
  have b2 := hid cb2.out
  have qga := hid cqga.out
  have qgc := hid cqgc.out
  have qgk := hid qp
  have hb := hid chb.out
  have sa := hid csa.out
  clear qp chb csa hgp hlw cb0 cb1 cb2 cqga cqgc lb0 lb1 lb2 lqga lqgc
  refine wp_region_newst (C := fun w' => Below w3.heap.size w3 w') 11 23 (ar 32 fun _ => 0) (ar 32 KX) 11 rfl rfl (by kernel_rfl) (by kernel_rfl) (by kernel_rfl) (by kernel_rfl) (run_alloc_ar tK) (fun _ _ hb => run_st_ar tK hb KX) (Below.refl _ _).drew (fun w' hw' => hw'.alloc hw'.size _) (fun w' hw' => hw'.size) (fun w' g hw' hg => below_setRow hw' hg _) ?_
  simp only [List.take_succ_cons, List.take_zero, List.drop_succ_cons, List.drop_zero]
  apply wpB_val
  · rfl
  · intro w' hw'
    have hbl := Below.refl w'.heap.size w'
    go_simp
    first | exact rfl | exact ⟨rfl, hbl⟩ | exact ⟨rfl, hw', hbl⟩
  simp only [Act.put, List.setIfInBounds_toArray, List.set_cons_succ, List.set_cons_zero]
  apply bldA tK
  · rfl
  · rfl
  · exact fun w' hw' => by_key (b0.out.below hw' b0.out.lt)
  simp only [Act.put, List.setIfInBounds_toArray, List.set_cons_succ, List.set_cons_zero]
  apply bldR (tBy' k s n)
  · rfl
  · rfl
  · exact fun w' hw' => (b0.out.below hw' b0.out.lt).whole
  simp only [Act.put, List.setIfInBounds_toArray, List.set_cons_succ, List.set_cons_zero]
  apply wpB_val
  · rfl
  · intro w' hw'
    go_simp
    exact (label_any k s n w').mono fun e w2 h => ⟨h.1, hw'.trans (h.2.mono hw'.size), h.2⟩
  simp only [Act.put, List.setIfInBounds_toArray, List.set_cons_succ, List.set_cons_zero]
  apply wpB_val
  · rfl
  · intro w' hw'
    have hbl := Below.refl w'.heap.size w'
    go_simp
    first | exact rfl | exact ⟨rfl, hbl⟩ | exact ⟨rfl, hw', hbl⟩
  simp only [Act.put, List.setIfInBounds_toArray, List.set_cons_succ, List.set_cons_zero]
  apply wpB_val
  · rfl
  · intro w' hw'
    have hbl := Below.refl w'.heap.size w'
    have h1 : w'.cell? ⟨W.heap.size, 33, none⟩ = some (.int .u64 n) := by_num (b0.out.below hw' b0.out.lt)
    go_simp
    first | exact rfl | exact ⟨rfl, hbl⟩ | exact ⟨rfl, hw', hbl⟩
  simp only [Act.put, List.setIfInBounds_toArray, List.set_cons_succ, List.set_cons_zero]
  apply bldA tBox
  · rfl
  · rfl
  · exact fun w' hw' => (b2.out.below hw' b2.out.lt).head
  simp only [Act.put, List.setIfInBounds_toArray, List.set_cons_succ, List.set_cons_zero]
  apply wpB_val
  · rfl
  · intro w' hw'
    go_simp
    exact (runwrap_any k f g HK.out HF.out (cut100 s) HL.out n HN.out _ HBT.out w').mono fun e w2 h => ⟨h.1, hw'.trans (h.2.mono hw'.size), h.2⟩
  simp only [Act.put, List.setIfInBounds_toArray, List.set_cons_succ, List.set_cons_zero]
  rw [← HKX.out, ← HEX.out]
  apply wpB_val
  · rfl
  · intro w' hw'
    have hbl := Below.refl w'.heap.size w'
    go_simp
    first | exact rfl | exact ⟨rfl, hbl⟩ | exact ⟨rfl, hw', hbl⟩
  simp only [Act.put, List.setIfInBounds_toArray, List.set_cons_succ, List.set_cons_zero]
  apply wpB_val
  · rfl
  · intro w' hw'
    have hbl := Below.refl w'.heap.size w'
    go_simp
    first | exact rfl | exact ⟨rfl, hbl⟩ | exact ⟨rfl, hw', hbl⟩
  simp only [Act.put, List.setIfInBounds_toArray, List.set_cons_succ, List.set_cons_zero]
  apply wpB_val
  · rfl
  · intro w' hw'
    have hbl := Below.refl w'.heap.size w'
    go_simp
    first | exact rfl | exact ⟨rfl, hbl⟩ | exact ⟨rfl, hw', hbl⟩
  simp only [Act.put, List.setIfInBounds_toArray, List.set_cons_succ, List.set_cons_zero]
  refine wpB_nil ⟨fun _ => ⟨rfl, rfl⟩, fun gl w4 hw2 qp hgp => ?_⟩
  have cb0 := hid (b0.out.below hw2 b0.out.lt)
  have cb1 := hid (b1.out.below hw2 b1.out.lt)
  have cb2 := hid (b2.out.below hw2 b2.out.lt)
  have cqga := hid (qga.out.below hw2 qga.out.lt)
  have cqgc := hid (qgc.out.below hw2 qgc.out.lt)
  have cqgk := hid (qgk.out.below hw2 qgk.out.lt)
  have chb := hid (hb.out.trans (hw2.mono hb.out.size))
  have csa := hid (sa.out.on hw2)
  have lb0 := b0.out.lt
  have lb1 := b1.out.lt
  have lb2 := b2.out.lt
  have lqga := qga.out.lt
  have lqgc := qgc.out.lt
  have lqgk := qgk.out.lt
  clear b0 b1 b2 qga qgc qgk hb sa hw2
  unfold ptr
  go_upto_region 5 with fail
  have hlw := chb.out.size
  have b0 := hid cb0.out
  have b1 := hid cb1.out
  have b2 := hid cb2.out
  have qga := hid cqga.out
  have qgc := hid cqgc.out
  have qgk := hid cqgk.out
  have qgl := hid qp
  have hb := hid chb.out
  have sa := hid csa.out
  clear qp chb csa hgp hlw cb0 cb1 cb2 cqga cqgc cqgk lb0 lb1 lb2 lqga lqgc lqgk
  refine wp_region_fixed (C := fun w' => Below w4.heap.size w4 w') 16 (Below.refl _ _) ?_
  simp only [List.take_succ_cons, List.take_zero, List.drop_succ_cons, List.drop_zero]
  apply kldA tBox
  · rfl
  · rfl
  · exact fun w' hw' => (qga.out.below hw' qga.out.lt).head
  simp only [Act.put, List.setIfInBounds_toArray, List.set_cons_succ, List.set_cons_zero]
  apply kldA tBox
  · rfl
  · rfl
  · exact fun w' hw' => (qgc.out.below hw' qgc.out.lt).head
  simp only [Act.put, List.setIfInBounds_toArray, List.set_cons_succ, List.set_cons_zero]
  apply keqBox
  · rfl
  · rfl
  · rfl
  · exact fun _ _ => rfl
  simp only [Act.put, List.setIfInBounds_toArray, List.set_cons_succ, List.set_cons_zero]
  apply wpK_val
  · rfl
  · intro w' hw'
    go_simp
    first | exact rfl | exact ⟨rfl, hw'⟩
  simp only [Act.put, List.setIfInBounds_toArray, List.set_cons_succ, List.set_cons_zero]
  apply kldA tK
  · rfl
  · rfl
  · exact fun w' hw' => (qgk.out.below hw' qgk.out.lt).head
  simp only [Act.put, List.setIfInBounds_toArray, List.set_cons_succ, List.set_cons_zero]
  apply kldA tK
  · rfl
  · rfl
  · exact fun w' hw' => (qgl.out.below hw' qgl.out.lt).head
  simp only [Act.put, List.setIfInBounds_toArray, List.set_cons_succ, List.set_cons_zero]
  apply keqU true uK eqg_key
  · rfl
  · rfl
  · rfl
  · exact eqA_yes fun _ _ => rfl
  simp only [Act.put, List.setIfInBounds_toArray, List.set_cons_succ, List.set_cons_zero]
  apply wpK_val
  · rfl
  · intro w' hw'
    go_simp
    first | exact rfl | exact ⟨rfl, hw'⟩
  simp only [Act.put, List.setIfInBounds_toArray, List.set_cons_succ, List.set_cons_zero]
  apply wpK_val
  · rfl
  · intro w' hw'
    go_simp
    first | exact rfl | exact ⟨rfl, hw'⟩
  simp only [Act.put, List.setIfInBounds_toArray, List.set_cons_succ, List.set_cons_zero]
  apply wpK_val
  · rfl
  · intro w' hw'
    go_simp
    first | exact rfl | exact ⟨rfl, hw'⟩
  simp only [Act.put, List.setIfInBounds_toArray, List.set_cons_succ, List.set_cons_zero]
  apply wpK_val
  · rfl
  · intro w' hw'
    go_simp
    first | exact rfl | exact ⟨rfl, hw'⟩
  simp only [Act.put, List.setIfInBounds_toArray, List.set_cons_succ, List.set_cons_zero]
  apply wpK_val
  · rfl
  · intro w' hw'
    go_simp
    first | exact rfl | exact ⟨rfl, hw'⟩
  simp only [Act.put, List.setIfInBounds_toArray, List.set_cons_succ, List.set_cons_zero]
  apply wpK_val
  · rfl
  · intro w' hw'
    go_simp
    first | exact rfl | exact ⟨rfl, hw'⟩
  simp only [Act.put, List.setIfInBounds_toArray, List.set_cons_succ, List.set_cons_zero]
  apply wpK_val
  · rfl
  · intro w' hw'
    go_simp
    first | exact rfl | exact ⟨rfl, hw'⟩
  simp only [Act.put, List.setIfInBounds_toArray, List.set_cons_succ, List.set_cons_zero]
  apply wpK_val
  · rfl
  · intro w' hw'
    go_simp
    exact (works_any HC.out w' (sa.out.on hw')).mono fun e w2 h => ⟨h.1, hw'.trans (h.2.mono hw'.size)⟩
  simp only [Act.put, List.setIfInBounds_toArray, List.set_cons_succ, List.set_cons_zero]
  apply wpK_val
  · rfl
  · intro w' hw'
    go_simp
    first | exact rfl | exact ⟨rfl, hw'⟩
  simp only [Act.put, List.setIfInBounds_toArray, List.set_cons_succ, List.set_cons_zero]
  refine wpK_nil fun w6 hw6 => ?_
  have B6 := hid (hb.out.trans (hw6.mono hb.out.size))
  clear b0 b1 b2 hb sa qga qgc qgk qgl hw6
  go_wp2_with fail
  go_ret
  exact ⟨rfl, B6.out⟩
end BxP
end Go.Proofs.YtdfoehcdabmagaaDoor
set_option maxRecDepth 100000
namespace Go.Proofs.YtdfoehcdabmagaaDoor
open Go.ChangeShapes Go.WideShapes Go.ChangeAt Go.RowKit
attribute [local go_sem] GivesE
/-- The bytes of the slice that operation j yields. -/
def slOf : List (Nat × List Nat) → Nat → Option (List Nat)
  | [], _ => none
  | (p, l) :: r, j => if j = p then some l else slOf r j
def eS (fx : List (Option Value)) (sl : List (Nat × List Nat)) (j : Nat) (v : Value) : Prop := match slOf sl j with
  | some l => ∃ (A : Option Addr) (c : Nat), v = .slice A l.length c
  | none => match fx[j]? with
    | some (some u) => v = u
    | _ => True
def eV (fx : List (Option Value)) (sl : List (Nat × List Nat)) (j : Nat) : Value := match slOf sl j with
  | some l => .slice none l.length 0
  | none => match fx[j]? with
    | some (some u) => u
    | _ => undef
theorem eS_ok (fx : List (Option Value)) (sl : List (Nat × List Nat)) (j : Nat) : eS fx sl j (eV fx sl j) := by
  unfold eS eV
  split
  · exact ⟨none, 0, rfl⟩
  · split
    · rfl
    · trivial
def eD (sl : List (Nat × List Nat)) (j : Nat) (vs : Nat → Value) (w : World) : Prop := ∀ l, slOf sl j = some l → ∃ A c, vs j = .slice A l.length c ∧ Arg w A l l.length c
section
variable {sl : List (Nat × List Nat)} {i j : Nat} {vs : Nat → Value} {v : Value} {w w' : World}
theorem eD_below (h : eD sl j vs w) (hb : Below w.heap.size w w') : eD sl j vs w' := fun l e => by obtain ⟨A, c, h1, h2⟩ := h l e; exact ⟨A, c, h1, h2.on hb⟩
theorem eD_loc (hji : j ≠ i) (h : eD sl j vs w) : eD sl j (updV vs i v) w := by
  unfold eD at h ⊢
  rw [updV_ne _ _ hji]
  exact h
theorem eD_none (h : slOf sl j = none) : eD sl j vs w := fun l e => by rw [h] at e; cases e
theorem eD_some {l : List Nat} {A : Option Addr} {c : Nat} (h : slOf sl j = some l) (ha : Arg w A l l.length c) : eD sl j (updV vs j (.slice A l.length c)) w := fun m e => by
  obtain rfl : l = m := Option.some.inj (h.symm.trans e)
  exact ⟨A, c, updV_self _ _ _, ha⟩
end
/-- A slice of the call's own, as a call's answer in such a region. -/
theorem own_sl {w' : World} {B : Nat} {v : Value} {l : List Nat} (ho : Own 5 .u8 w' B v l) (h2 : B256 l) : ∃ (A : Option Addr) (c : Nat), v = .slice A l.length c := by
  obtain ⟨A, c, rfl, ha⟩ := ho.arg h2
  exact ⟨A, c, rfl⟩
theorem own_eD {sl : List (Nat × List Nat)} {j : Nat} {vs : Nat → Value} {w' : World} {B : Nat} {v : Value} {l : List Nat} (h : slOf sl j = some l) (ho : Own 5 .u8 w' B v l) (h2 : B256 l) : eD sl j (updV vs j v) w' := by
  obtain ⟨A, c, rfl, ha⟩ := ho.arg h2
  exact eD_some h ha
theorem wp_region_eS {id : Nat} {Q : Exit → Act → World → Prop} {a : Act} {w : World} {l : List Oper} (fx : List (Option Value)) (sl : List (Nat × List Nat)) (n : Nat) (hm : Tryd.prog.follows .mixedOrders = true) (ht : tidy l.toArray = true) (hB : tailB l.toArray n = true)
    (h : ∀ vs : Nat → Value, wpE Tryd.prog l.toArray (eS fx sl) (eD sl) (fun _ _ w w' => Below w.heap.size w w') (fun _ w' => Below w.heap.size w w') (fun vs a' => ∀ (d : Nat → Bool) w', (∀ k, k < n → d k = true) → Below w.heap.size w w' → (∀ k, k < n → eD sl k vs w') → wpList Tryd.prog l.toArray Q (l.drop n) a' w') 0 vs (l.take n) a) :
    (Code.region id l.toArray true).wp Tryd.prog Q a w :=
  wp_region_ex (S := eS fx sl) (D := eD sl) (K := fun _ _ w w' => Below w.heap.size w w') (C := fun _ w' => Below w.heap.size w w') n hm ht hB _ (eS_ok _ _) (fun i j vs w w' _ _ _ h hb => eD_below h hb) (fun j i vs v w hji _ h => eD_loc hji h) (Below.refl _ _).drew h
end Go.Proofs.YtdfoehcdabmagaaDoor
set_option maxRecDepth 100000
namespace Go.Proofs.YtdfoehcdabmagaaDoor
open Go.ChangeShapes Go.WideShapes Go.ChangeAt Go.RowKit
open DvP (tK tT sub uK eqg_key)
attribute [local go_sem] Gives GivesE
theorem Arg.upto {w : World} {K : Option Addr} {key : List Nat} {kn kcap : Nat} (h : Arg w K key kn kcap) (m : Nat) : Arg w K (key.take m) (min kn m) kcap where
  len := by rw [List.length_take, h.len]; omega
  cap := by have := h.cap; omega
  max := h.max
  b256 := h.b256.take m
  none e := by obtain ⟨h1, h2⟩ := h.none e; exact ⟨by omega, h2⟩
  byt := h.byt.take m
/-- A list of the call's own, in two parts: the first one as a slice of its own. -/
theorem own_two {w : World} {B k : Nat} {v : Value} {l m : List Nat} (ho : Own 5 .u8 w B v ([] ++ l ++ m)) (hl : l.length = k) (h6 : B256 l) (hm : 0 < m.length) :
    ∃ g c, v = .slice (some ⟨g, 0, none⟩) (k + m.length) c ∧ B ≤ g ∧ g < w.heap.size ∧ k + m.length ≤ c ∧ c ≤ maxLen ∧ Arg w (some ⟨g, 0, none⟩) l k c ∧ ∀ i, i < m.length → w.cell? ⟨g, k + i, none⟩ = some (.int .u8 (m.getD i 0 : Nat)) := by
  rw [List.nil_append] at ho
  obtain ⟨g, c, e, h1, h2, h3, h4, h5⟩ := ho.at (by rw [List.length_append]; omega)
  rw [List.length_append, hl] at e h3 h5
  have hg : ∀ i, i < k → (l ++ m).getD i 0 = l.getD i 0 := fun i hi => by
    rw [List.getD_eq_getElem?_getD, List.getElem?_append_left (by omega), List.getD_eq_getElem?_getD]
  have hg2 : ∀ i, i < m.length → (l ++ m).getD (k + i) 0 = m.getD i 0 := fun i hi => by
    rw [List.getD_eq_getElem?_getD, List.getElem?_append_right (by omega), List.getD_eq_getElem?_getD, hl, Nat.add_sub_cancel_left]
  refine ⟨g, c, e, h1, h2, h3, h4, ⟨hl, by omega, h4, h6, (fun e => by cases e), fun _ => ⟨g, 0, rfl, h2, fun i hi => ?_⟩⟩, fun i hi => ?_⟩
  · rw [Nat.zero_add, ← hg i (by omega)]
    exact (h5 i (by omega)).1
  · rw [← hg2 i hi]
    exact (h5 (k + i) (by omega)).1
theorem sevens (w : World) : Nums .u8 (w.alloc (.cells #[.int .u8 7, .int .u8 7] 5)) (w.heap.size + 1) (some ⟨w.heap.size, 0, none⟩) [7, 7] :=
  Nums.row (Blk.top (cs := #[.int .u8 7, .int .u8 7]) rfl rfl) (Nat.lt_succ_self _) fun j hj => by
    match j, hj with
    | 0, _ => rfl
    | 1, _ => rfl
theorem own_seven {w : World} {B k : Nat} {v : Value} {l : List Nat} (ho : Own 5 .u8 w B v ([] ++ l ++ [7, 7])) (hl : l.length = k) (h6 : B256 l) :
    ∃ g c, v = .slice (some ⟨g, 0, none⟩) (k + 2) c ∧ (k : Int) ≤ (c : Int) ∧ c ≤ 9223372036854775807 ∧ Hid (B ≤ g) ∧ Hid (g < w.heap.size) ∧ Hid (Arg w (some ⟨g, 0, none⟩) l k c) ∧ Hid (w.cell? ⟨g, k, none⟩ = some (.int .u8 7)) := by
  obtain ⟨g, c, e, h1, h2, h3, h4, h5, h6⟩ := own_two ho hl h6 (by decide)
  have h3' : k + 2 ≤ c := h3
  unfold maxLen at h4
  exact ⟨g, c, e, by omega, by omega, hid h1, hid h2, hid h5, hid (h6 0 (by decide))⟩
namespace BxP
/-- What Get tells of bytes: the program's and the document's are alike. -/
theorem get_both (hC : BoxC) (A : Option Addr) (l : List Nat) (n cap : Nat) (hm : n ≤ 100000) (hl : B256 l) : ∃ (Y : Nat → Nat) (R : List Nat) (E : Int), B256 R ∧
    (∀ w, Arg w A l n cap → Calls Tryd.prog 15 #[.slice A n cap] w fun e w' => ∃ v, e = .returned (.tuple #[.agg (ar 64 Y), v, .int .i64 E]) ∧ Own 5 .u8 w' w.heap.size v R ∧ Below w.heap.size w w') ∧
    (∀ w, Arg w A l n cap → Calls Tryd.prog 16 #[.slice A n cap] w fun e w' => ∃ v, e = .returned (.tuple #[.agg (ar 64 Y), v, .int .i64 E]) ∧ Own 5 .u8 w' w.heap.size v R ∧ Below w.heap.size w w') := by
  by_cases h : n < 64
  · refine ⟨fun _ => 0, [], 4, (fun x hx => by cases hx), fun w ha => hC.few A n cap h w ⟨l, ha⟩, fun w ha => (rget_few A n cap h w).mono ?_⟩
    rintro e w' ⟨rfl, hb⟩
    exact ⟨_, rfl, Own.nil, hb⟩
  · exact ⟨fun j => l.getD j 0, l.drop 64, 0, hl.drop 64, fun w ha => hC.get A l n cap (by omega) hm w ha, fun w ha => rget_any A l n cap (by omega) hm w ha⟩
theorem gE_eqBox {a : Act} {w : World} {dst : Option Tmp} {ty r : TypeId} {pos : String} {after : Array Edge} {x y : Operand} {F G : Nat → Nat} {gd : Option (Nat × Bool)} {R : Value → World → Prop} (hx : a.eval x = .agg (ar 64 F)) (hy : a.eval y = .agg (ar 64 G)) (h : ∀ j, j < 64 → F j = G j) (hR : R (.bool true) w) :
    GivesE Tryd.prog ⟨dst, .binOp .eql 29 x y r, ty, pos, after, gd⟩ a w R := by
  have h1 : (eqGuard .eql 29 x y (.agg (ar 64 F)) (.agg (ar 64 G))).run Tryd.prog w = .ok () w := by
    simp [eqGuard, eqg_box, go_sem]
  unfold GivesE
  simp only [execOp, hx, hy, Sem.run_bind, h1, eq_box h w, Result.andThen_ok, Sem.run_pure]
  exact hR
set_option maxHeartbeats 1600000 in
set_option maxRecDepth 100000 in
theorem lays_law (hC : BoxC) (f g : Nat → Nat) (hf : ∀ i, f i < 256) (hg : ∀ i, g i < 256) (A : Option Addr) (l : List Nat) (n cap : Nat) (W : World) (hA : Arg W A l n cap) (hS : Salts W) :
    Calls Tryd.prog 4 #[.agg (ar 64 (duo f g)), .slice A n cap] W fun e w' => e = .returned (.bool true) ∧ Below W.heap.size W w' := by
  have HC := hid hC
  have HF := hid hf
  have HG := hid hg
  have SA := hid hS
  have a5 := hA.upto 500
  have hk : min n 500 ≤ 500 := by omega
  have e1 : (if (500 : Int) < (n : Int) then (500 : Int) else (n : Int)) = ((min n 500 : Nat) : Int) := by split <;> omega
  have e1' : min (n : Int) 500 = ((min n 500 : Nat) : Int) := by omega
  have hkc : min n 500 ≤ cap := a5.cap
  have hcm : cap ≤ 9223372036854775807 := by have := hA.max; unfold maxLen at this; exact this
  have hnc : n ≤ cap := hA.cap
  generalize l.take 500 = l5 at *
  generalize min n 500 = k at *
  have H5 := hid a5
  clear hC hf hg hS a5 hA
  go_enter Tryd.func4, Tryd.ntmps4
  go_upto_region 1 with fail
  generalize hw1 : World.alloc W _ = w1
  have b0 := hid (show Blk w1 W.heap.size 29 (ar 64 (duo f g)) by rw [← hw1]; exact Blk.new _ _ _)
  have hb := hid (show Below W.heap.size W w1 by rw [← hw1]; exact (Below.refl _ _).alloc (Nat.le_refl _) _)
  clear hw1
  obtain ⟨Y, R, EE, hR, hget, hrget⟩ := get_both HC.out A l5 k cap (by omega) H5.out.b256
  have HR := hid hR
  have HGet := hid hget
  have HRGet := hid hrget
  have H1 := hid (H5.out.on hb.out)
  clear hR hget hrget H5
  go_upto_region 2 with fail
  have OE : Hid (Own 5 .u8 (w1.alloc (.cells #[] 5)) w1.heap.size (.slice (some ⟨w1.heap.size, 0, none⟩) 0 0) []) := hid (Own.empty w1 (Nat.le_refl _))
  have BE := hid ((Below.refl w1.heap.size w1).alloc (Nat.le_refl _) (.cells #[] 5))
  have AE := hid (H1.out.on BE.out)
  go_upto_region 3 with (first
    | (at_builtin; (with_reducible apply wappN_any eltB); rfl; rfl; exact AE.out.none; exact OE.out; exact AE.out.byt.nums; exact AE.out.len; (rw [List.length_nil]; omega); (simp); intro v2 w2 o2 g2)
    | (at_builtin; (with_reducible apply wappN eltB); rfl; rfl; exact o2.alloc _; exact sevens w2; rfl; (rw [List.nil_append, H1.out.len]; omega); (have hz9 := g2.size; simp at hz9 ⊢; omega); intro v3 w3 o3 g3; obtain ⟨g4, c3, e3, k1, k2, k3, k4, k5, k6⟩ := own_seven o3 H1.out.len H1.out.b256; subst e3))
  have M2 := below_grown BE.out g2 OE.out (Nat.le_refl _) (Nat.le_refl _)
  have M3 := hid (below_grown (M2.alloc M2.size (.cells #[.int .u8 7, .int .u8 7] 5)) g3 o2 (Nat.le_refl _) (Nat.le_refl _))
  have c0 := hid (b0.out.below M3.out b0.out.lt)
  have hb3 := hid (hb.out.trans (M3.out.mono hb.out.size))
  have sa := hid (SA.out.on hb3.out)
  have A3 := hid (H1.out.on M3.out)
  clear M2 M3 g2 g3 o2 o3 AE OE BE H1 b0 hb k3
  obtain ⟨L, hL⟩ : ∃ L, L = l5 ++ HmM.dl f ++ HmM.dl g := ⟨_, rfl⟩
  have HL := hid hL
  have HL256 := hid (show B256 L by
    rw [hL]
    intro x hx
    rcases List.mem_append.1 hx with hx | hx
    · rcases List.mem_append.1 hx with hx | hx
      · exact A3.out.b256 x hx
      · exact HmM.dl_256 HF.out x hx
    · exact HmM.dl_256 HG.out x hx)
  clear hL
  refine wp_region_eS [some (.slice (some ⟨g4, 0, none⟩) (k + 2) c3), some (.slice A k cap), some (.int .i64 k), some (.slice (some ⟨g4, 0, none⟩) k c3), some (.agg (ar 64 (duo f g)))] [(5, L)] 6 (by kernel_rfl) (by kernel_rfl) (by kernel_rfl) fun vs => ?_
  simp only [List.take_succ_cons, List.take_zero, List.drop_succ_cons, List.drop_zero]
  refine ⟨.inl ⟨rfl, fun dd w' hd hC hDs => ?_⟩, fun e => ?_⟩
  · go_simp
    first | exact ⟨rfl, hC, Below.refl _ _, eD_none rfl⟩ | exact ⟨rfl, Below.refl _ _, eD_none rfl⟩ | exact ⟨hC, Below.refl _ _, eD_none rfl⟩
  have e' : vs 0 = _ := e
  rw [e']
  clear e e'
  simp only [Act.put, List.setIfInBounds_toArray, List.set_cons_succ, List.set_cons_zero]
  refine ⟨.inl ⟨rfl, fun dd w' hd hC hDs => ?_⟩, fun e => ?_⟩
  · go_simp
    first | exact ⟨rfl, hC, Below.refl _ _, eD_none rfl⟩ | exact ⟨rfl, Below.refl _ _, eD_none rfl⟩ | exact ⟨hC, Below.refl _ _, eD_none rfl⟩
  have e' : vs 1 = _ := e
  rw [e']
  clear e e'
  simp only [Act.put, List.setIfInBounds_toArray, List.set_cons_succ, List.set_cons_zero]
  refine ⟨.inl ⟨rfl, fun dd w' hd hC hDs => ?_⟩, fun e => ?_⟩
  · go_simp
    first | exact ⟨rfl, hC, Below.refl _ _, eD_none rfl⟩ | exact ⟨rfl, Below.refl _ _, eD_none rfl⟩ | exact ⟨hC, Below.refl _ _, eD_none rfl⟩
  have e' : vs 2 = _ := e
  rw [e']
  clear e e'
  simp only [Act.put, List.setIfInBounds_toArray, List.set_cons_succ, List.set_cons_zero]
  refine ⟨.inl ⟨rfl, fun dd w' hd hC hDs => ?_⟩, fun e => ?_⟩
  · go_simp
    first | exact ⟨rfl, hC, Below.refl _ _, eD_none rfl⟩ | exact ⟨rfl, Below.refl _ _, eD_none rfl⟩ | exact ⟨hC, Below.refl _ _, eD_none rfl⟩
  have e' : vs 3 = _ := e
  rw [e']
  clear e e'
  simp only [Act.put, List.setIfInBounds_toArray, List.set_cons_succ, List.set_cons_zero]
  refine ⟨.inl ⟨rfl, fun dd w' hd hC hDs => ?_⟩, fun e => ?_⟩
  · exact gE_ldA tBox rfl ((c0.out.below hC c0.out.lt).head) ⟨rfl, hC, Below.refl _ _, eD_none rfl⟩
  have e' : vs 4 = _ := e
  rw [e']
  clear e e'
  simp only [Act.put, List.setIfInBounds_toArray, List.set_cons_succ, List.set_cons_zero]
  refine ⟨.inl ⟨rfl, fun dd w' hd hC hDs => ?_⟩, fun e => ?_⟩
  · go_simp
    refine ((by have := HC.out.put (some ⟨g4, 0, none⟩) l5 k c3 (by omega) f g HF.out HG.out w' (k5.out.on hC); rwa [← HL.out] at this : Calls _ _ _ _ _)).mono ?_
    rintro e w2 ⟨v, rfl, o2, h2⟩
    have hbs : B256 _ := HL256.out
    exact ⟨_, rfl, own_sl o2 hbs, hC.trans (h2.mono hC.size), h2, own_eD rfl o2 hbs⟩
  obtain ⟨A5, c5, e'⟩ : ∃ (A : Option Addr) (c : Nat), vs 5 = .slice A _ c := e
  rw [e']
  have E5 := hid e'
  clear e'
  simp only [Act.put, List.setIfInBounds_toArray, List.set_cons_succ, List.set_cons_zero]
  intro dd w4 hall hC4 hDs
  obtain ⟨B5, k5', f5, a5⟩ := hDs 5 (by omega) L rfl
  rw [E5.out] at f5
  cases f5
  have c4 := hid (c0.out.below hC4 c0.out.lt)
  have hb4 := hid (hb3.out.trans (hC4.mono hb3.out.size))
  have sa4 := hid (sa.out.on hC4)
  have A4 := hid (A3.out.on hC4)
  have P4 := hid a5
  have q4 := hid (show w4.cell? ⟨g4, k, none⟩ = some (.int .u8 7) from (hC4.cell (p := ⟨g4, k, none⟩) k4.out).trans k6.out)
  have k4' := hid (show g4 < w4.heap.size from Nat.lt_of_lt_of_le k4.out hC4.size)
  clear c0 hb3 sa A3 a5 hall hC4 hDs E5 k4 k5 k6
  go_wp2_with fail
  refine (HGet.out w4 A4.out).mono ?_
  rintro e w5 ⟨v5, rfl, o5, h5⟩
  obtain ⟨AY, cY, rfl, ar5⟩ := o5.arg HR.out
  have b5 := hid (c4.out.below h5 c4.out.lt)
  have hb5 := hid (hb4.out.trans (h5.mono hb4.out.size))
  have sa5 := hid (sa4.out.on h5)
  have A5' := hid (A4.out.on h5)
  have P5 := hid (P4.out.on h5)
  have R5 := hid ar5
  have q5 := hid ((h5.cell (p := ⟨g4, k, none⟩) k4'.out).trans q4.out)
  have k5 := hid (show g4 < w5.heap.size from Nat.lt_of_lt_of_le k4'.out h5.size)
  have hl5 := b5.out.lt
  clear c4 hb4 sa4 A4 P4 q4 k4' o5 ar5 h5
  obtain ⟨gy, hgy⟩ : ∃ gy, gy = w5.heap.size := ⟨_, rfl⟩
  go_upto_region 5 with (first | (with_reducible apply alA tBox) | ((with_reducible apply stA tBox); rfl; rfl; exact Blk.new _ _ _))
  rw [← hgy]
  generalize hw6 : World.setRow _ _ _ = w6
  have c6 := hid (show Blk w6 W.heap.size 29 (ar 64 (duo f g)) by rw [← hw6]; exact (b5.out.alloc _).setRow_other (by omega) _)
  have y6 := hid (show Blk w6 gy 29 (ar 64 Y) by rw [← hw6, hgy]; exact (Blk.new w5 _ _).setRow_same _)
  have h56 := hid (show Below w5.heap.size w5 w6 by rw [← hw6]; exact below_setRow ((Below.refl _ _).alloc (Nat.le_refl _) _) (by omega) _)
  clear hw6 b5 hgy
  have hb6 := hid (hb5.out.trans (h56.out.mono hb5.out.size))
  have sa6 := hid (sa5.out.on h56.out)
  have A6 := hid (A5'.out.on h56.out)
  have P6 := hid (P5.out.on h56.out)
  have R6 := hid (R5.out.on h56.out)
  have q6 := hid ((h56.out.cell (p := ⟨g4, k, none⟩) k5.out).trans q5.out)
  have k6 := hid (show g4 < w6.heap.size from Nat.lt_of_lt_of_le k5.out h56.out.size)
  clear hb5 sa5 A5' P5 R5 q5 k5 h56 hl5
  go_wp2_with fail
  refine (HRGet.out w6 A6.out).mono ?_
  rintro e w7 ⟨v7, rfl, o7, h7⟩
  obtain ⟨AZ, cZ, rfl, ar7⟩ := o7.arg HR.out
  have c8 := hid (c6.out.below h7 c6.out.lt)
  have y8 := hid (y6.out.below h7 y6.out.lt)
  have hb8 := hid (hb6.out.trans (h7.mono hb6.out.size))
  have sa8 := hid (sa6.out.on h7)
  have A8 := hid (A6.out.on h7)
  have P8 := hid (P6.out.on h7)
  have R8 := hid (R6.out.on h7)
  have S8 := hid ar7
  have q8 := hid ((h7.cell (p := ⟨g4, k, none⟩) k6.out).trans q6.out)
  have k8 := hid (show g4 < w7.heap.size from Nat.lt_of_lt_of_le k6.out h7.size)
  have hl8 := c8.out.lt
  have hy8 := y8.out.lt
  clear c6 y6 hb6 sa6 A6 P6 R6 q6 k6 o7 ar7 h7
  obtain ⟨gz, hgz⟩ : ∃ gz, gz = w7.heap.size := ⟨_, rfl⟩
  go_upto_region 6 with (first | (with_reducible apply alA tBox) | ((with_reducible apply stA tBox); rfl; rfl; exact Blk.new _ _ _))
  rw [← hgz]
  generalize hw9 : World.setRow _ _ _ = w9
  have c9 := hid (show Blk w9 W.heap.size 29 (ar 64 (duo f g)) by rw [← hw9]; exact (c8.out.alloc _).setRow_other (by omega) _)
  have y9 := hid (show Blk w9 gy 29 (ar 64 Y) by rw [← hw9]; exact (y8.out.alloc _).setRow_other (by omega) _)
  have z9 := hid (show Blk w9 gz 29 (ar 64 Y) by rw [← hw9, hgz]; exact (Blk.new w7 _ _).setRow_same _)
  have h79 := hid (show Below w7.heap.size w7 w9 by rw [← hw9]; exact below_setRow ((Below.refl _ _).alloc (Nat.le_refl _) _) (by omega) _)
  clear hw9 c8 y8 hgz hl8 hy8
  have hb9 := hid (hb8.out.trans (h79.out.mono hb8.out.size))
  have sa9 := hid (sa8.out.on h79.out)
  have A9 := hid (A8.out.on h79.out)
  have P9 := hid (P8.out.on h79.out)
  have R9 := hid (R8.out.on h79.out)
  have S9 := hid (S8.out.on h79.out)
  have q9 := hid ((h79.out.cell (p := ⟨g4, k, none⟩) k8.out).trans q8.out)
  have k9 := hid (show g4 < w9.heap.size from Nat.lt_of_lt_of_le k8.out h79.out.size)
  clear hb8 sa8 A8 P8 R8 S8 q8 k8 h79
  obtain ⟨SP, hSP⟩ : ∃ SP, SP = str L := ⟨_, rfl⟩
  obtain ⟨SR, hSR⟩ : ∃ SR, SR = str R := ⟨_, rfl⟩
  have HSP := hid hSP
  have HSR := hid hSR
  clear hSP hSR
  refine wp_region_eS [some (.slice A5 L.length c5), some (.string SP), some (.slice A k cap), some (.agg (ar 64 (duo f g))), none, some (.string SP), some (.bool true), some (.bool true), some (.slice (some ⟨g4, 0, none⟩) (k + 2) c3), some (.slice A k cap), some (.int .i64 k), some (.pointer (some ⟨g4, k, none⟩)), some (.int .u8 7), some (.bool true), some (.bool true), some (.bool true), some (.agg (ar 64 Y)), some (.agg (ar 64 Y)), some (.bool true), some (.bool true), some (.bool true), some (.slice AY R.length cY), some (.string SR), some (.slice AZ R.length cZ), some (.string SR), some (.bool true), some (.bool true), some (.bool true), some (.int .i64 EE), some (.int .i64 EE), some (.bool true), some (.bool true), some (.bool true), some (.bool true), some (.bool true)] [(4, L)] 35 (by kernel_rfl) (by kernel_rfl) (by kernel_rfl) fun vs => ?_
  simp only [List.take_succ_cons, List.take_zero, List.drop_succ_cons, List.drop_zero]
  refine ⟨.inl ⟨rfl, fun dd w' hd hC hDs => ?_⟩, fun e => ?_⟩
  · go_simp
    first | exact ⟨rfl, hC, Below.refl _ _, eD_none rfl⟩ | exact ⟨rfl, Below.refl _ _, eD_none rfl⟩ | exact ⟨hC, Below.refl _ _, eD_none rfl⟩
  have e' : vs 0 = _ := e
  rw [e']
  clear e e'
  simp only [Act.put, List.setIfInBounds_toArray, List.set_cons_succ, List.set_cons_zero]
  refine ⟨.inl ⟨rfl, fun dd w' hd hC hDs => ?_⟩, fun e => ?_⟩
  · have h1 : (convert 39 9 (.slice A5 L.length c5)).run Tryd.prog w' = .ok (.string SP) w' := by rw [HSP.out]; exact (P9.out.on hC).str
    go_simp
    first | exact ⟨rfl, hC, Below.refl _ _, eD_none rfl⟩ | exact ⟨rfl, Below.refl _ _, eD_none rfl⟩ | exact ⟨hC, Below.refl _ _, eD_none rfl⟩
  have e' : vs 1 = _ := e
  rw [e']
  clear e e'
  simp only [Act.put, List.setIfInBounds_toArray, List.set_cons_succ, List.set_cons_zero]
  refine ⟨.inl ⟨rfl, fun dd w' hd hC hDs => ?_⟩, fun e => ?_⟩
  · go_simp
    first | exact ⟨rfl, hC, Below.refl _ _, eD_none rfl⟩ | exact ⟨rfl, Below.refl _ _, eD_none rfl⟩ | exact ⟨hC, Below.refl _ _, eD_none rfl⟩
  have e' : vs 2 = _ := e
  rw [e']
  clear e e'
  simp only [Act.put, List.setIfInBounds_toArray, List.set_cons_succ, List.set_cons_zero]
  refine ⟨.inl ⟨rfl, fun dd w' hd hC hDs => ?_⟩, fun e => ?_⟩
  · exact gE_ldA tBox rfl ((c9.out.below hC c9.out.lt).head) ⟨rfl, hC, Below.refl _ _, eD_none rfl⟩
  have e' : vs 3 = _ := e
  rw [e']
  clear e e'
  simp only [Act.put, List.setIfInBounds_toArray, List.set_cons_succ, List.set_cons_zero]
  refine ⟨.inl ⟨rfl, fun dd w' hd hC hDs => ?_⟩, fun e => ?_⟩
  · go_simp
    refine ((by have := rput_any A l5 k cap (by omega) f g HF.out HG.out w' (A9.out.on hC); rwa [← HL.out] at this : Calls _ _ _ _ _)).mono ?_
    rintro e w2 ⟨v, rfl, o2, h2⟩
    have hbs : B256 _ := HL256.out
    exact ⟨_, rfl, own_sl o2 hbs, hC.trans (h2.mono hC.size), h2, own_eD rfl o2 hbs⟩
  obtain ⟨A4, c4, e'⟩ : ∃ (A : Option Addr) (c : Nat), vs 4 = .slice A _ c := e
  rw [e']
  have E4 := hid e'
  clear e'
  simp only [Act.put, List.setIfInBounds_toArray, List.set_cons_succ, List.set_cons_zero]
  refine ⟨.inl ⟨rfl, fun dd w' hd hC hDs => ?_⟩, fun e => ?_⟩
  · obtain ⟨B4, k4, f4, a4⟩ := hDs 4 (by kernel_rfl) L rfl
    rw [E4.out] at f4
    cases f4
    have h1 : (convert 39 9 (.slice A4 L.length c4)).run Tryd.prog w' = .ok (.string SP) w' := by rw [HSP.out]; exact a4.str
    go_simp
    first | exact ⟨rfl, hC, Below.refl _ _, eD_none rfl⟩ | exact ⟨rfl, Below.refl _ _, eD_none rfl⟩ | exact ⟨hC, Below.refl _ _, eD_none rfl⟩
  have e' : vs 5 = _ := e
  rw [e']
  clear e e'
  simp only [Act.put, List.setIfInBounds_toArray, List.set_cons_succ, List.set_cons_zero]
  refine ⟨.inl ⟨rfl, fun dd w' hd hC hDs => ?_⟩, fun e => ?_⟩
  · go_simp
    first | exact ⟨rfl, hC, Below.refl _ _, eD_none rfl⟩ | exact ⟨rfl, Below.refl _ _, eD_none rfl⟩ | exact ⟨hC, Below.refl _ _, eD_none rfl⟩
  have e' : vs 6 = _ := e
  rw [e']
  clear e e'
  simp only [Act.put, List.setIfInBounds_toArray, List.set_cons_succ, List.set_cons_zero]
  refine ⟨.inl ⟨rfl, fun dd w' hd hC hDs => ?_⟩, fun e => ?_⟩
  · go_simp
    first | exact ⟨rfl, hC, Below.refl _ _, eD_none rfl⟩ | exact ⟨rfl, Below.refl _ _, eD_none rfl⟩ | exact ⟨hC, Below.refl _ _, eD_none rfl⟩
  have e' : vs 7 = _ := e
  rw [e']
  clear e e'
  simp only [Act.put, List.setIfInBounds_toArray, List.set_cons_succ, List.set_cons_zero]
  refine ⟨.inl ⟨rfl, fun dd w' hd hC hDs => ?_⟩, fun e => ?_⟩
  · go_simp
    first | exact ⟨rfl, hC, Below.refl _ _, eD_none rfl⟩ | exact ⟨rfl, Below.refl _ _, eD_none rfl⟩ | exact ⟨hC, Below.refl _ _, eD_none rfl⟩
  have e' : vs 8 = _ := e
  rw [e']
  clear e e'
  simp only [Act.put, List.setIfInBounds_toArray, List.set_cons_succ, List.set_cons_zero]
  refine ⟨.inl ⟨rfl, fun dd w' hd hC hDs => ?_⟩, fun e => ?_⟩
  · go_simp
    first | exact ⟨rfl, hC, Below.refl _ _, eD_none rfl⟩ | exact ⟨rfl, Below.refl _ _, eD_none rfl⟩ | exact ⟨hC, Below.refl _ _, eD_none rfl⟩
  have e' : vs 9 = _ := e
  rw [e']
  clear e e'
  simp only [Act.put, List.setIfInBounds_toArray, List.set_cons_succ, List.set_cons_zero]
  refine ⟨.inl ⟨rfl, fun dd w' hd hC hDs => ?_⟩, fun e => ?_⟩
  · go_simp
    first | exact ⟨rfl, hC, Below.refl _ _, eD_none rfl⟩ | exact ⟨rfl, Below.refl _ _, eD_none rfl⟩ | exact ⟨hC, Below.refl _ _, eD_none rfl⟩
  have e' : vs 10 = _ := e
  rw [e']
  clear e e'
  simp only [Act.put, List.setIfInBounds_toArray, List.set_cons_succ, List.set_cons_zero]
  refine ⟨.inl ⟨rfl, fun dd w' hd hC hDs => ?_⟩, fun e => ?_⟩
  · have h1 : (k : Int) < (k : Int) + 2 := by omega
    go_simp
    first | exact ⟨rfl, hC, Below.refl _ _, eD_none rfl⟩ | exact ⟨rfl, Below.refl _ _, eD_none rfl⟩ | exact ⟨hC, Below.refl _ _, eD_none rfl⟩
  have e' : vs 11 = _ := e
  rw [e']
  clear e e'
  simp only [Act.put, List.setIfInBounds_toArray, List.set_cons_succ, List.set_cons_zero]
  refine ⟨.inl ⟨rfl, fun dd w' hd hC hDs => ?_⟩, fun e => ?_⟩
  · have h1 : w'.cell? ⟨g4, k, none⟩ = some (.int .u8 7) := (hC.cell (p := ⟨g4, k, none⟩) k9.out).trans q9.out
    go_simp
    first | exact ⟨rfl, hC, Below.refl _ _, eD_none rfl⟩ | exact ⟨rfl, Below.refl _ _, eD_none rfl⟩ | exact ⟨hC, Below.refl _ _, eD_none rfl⟩
  have e' : vs 12 = _ := e
  rw [e']
  clear e e'
  simp only [Act.put, List.setIfInBounds_toArray, List.set_cons_succ, List.set_cons_zero]
  refine ⟨.inl ⟨rfl, fun dd w' hd hC hDs => ?_⟩, fun e => ?_⟩
  · go_simp
    first | exact ⟨rfl, hC, Below.refl _ _, eD_none rfl⟩ | exact ⟨rfl, Below.refl _ _, eD_none rfl⟩ | exact ⟨hC, Below.refl _ _, eD_none rfl⟩
  have e' : vs 13 = _ := e
  rw [e']
  clear e e'
  simp only [Act.put, List.setIfInBounds_toArray, List.set_cons_succ, List.set_cons_zero]
  refine ⟨.inl ⟨rfl, fun dd w' hd hC hDs => ?_⟩, fun e => ?_⟩
  · go_simp
    first | exact ⟨rfl, hC, Below.refl _ _, eD_none rfl⟩ | exact ⟨rfl, Below.refl _ _, eD_none rfl⟩ | exact ⟨hC, Below.refl _ _, eD_none rfl⟩
  have e' : vs 14 = _ := e
  rw [e']
  clear e e'
  simp only [Act.put, List.setIfInBounds_toArray, List.set_cons_succ, List.set_cons_zero]
  refine ⟨.inl ⟨rfl, fun dd w' hd hC hDs => ?_⟩, fun e => ?_⟩
  · go_simp
    first | exact ⟨rfl, hC, Below.refl _ _, eD_none rfl⟩ | exact ⟨rfl, Below.refl _ _, eD_none rfl⟩ | exact ⟨hC, Below.refl _ _, eD_none rfl⟩
  have e' : vs 15 = _ := e
  rw [e']
  clear e e'
  simp only [Act.put, List.setIfInBounds_toArray, List.set_cons_succ, List.set_cons_zero]
  refine ⟨.inl ⟨rfl, fun dd w' hd hC hDs => ?_⟩, fun e => ?_⟩
  · exact gE_ldA tBox rfl ((y9.out.below hC y9.out.lt).head) ⟨rfl, hC, Below.refl _ _, eD_none rfl⟩
  have e' : vs 16 = _ := e
  rw [e']
  clear e e'
  simp only [Act.put, List.setIfInBounds_toArray, List.set_cons_succ, List.set_cons_zero]
  refine ⟨.inl ⟨rfl, fun dd w' hd hC hDs => ?_⟩, fun e => ?_⟩
  · exact gE_ldA tBox rfl ((z9.out.below hC z9.out.lt).head) ⟨rfl, hC, Below.refl _ _, eD_none rfl⟩
  have e' : vs 17 = _ := e
  rw [e']
  clear e e'
  simp only [Act.put, List.setIfInBounds_toArray, List.set_cons_succ, List.set_cons_zero]
  refine ⟨.inl ⟨rfl, fun dd w' hd hC hDs => ?_⟩, fun e => ?_⟩
  · exact gE_eqBox rfl rfl (fun _ _ => rfl) ⟨rfl, hC, Below.refl _ _, eD_none rfl⟩
  have e' : vs 18 = _ := e
  rw [e']
  clear e e'
  simp only [Act.put, List.setIfInBounds_toArray, List.set_cons_succ, List.set_cons_zero]
  refine ⟨.inl ⟨rfl, fun dd w' hd hC hDs => ?_⟩, fun e => ?_⟩
  · go_simp
    first | exact ⟨rfl, hC, Below.refl _ _, eD_none rfl⟩ | exact ⟨rfl, Below.refl _ _, eD_none rfl⟩ | exact ⟨hC, Below.refl _ _, eD_none rfl⟩
  have e' : vs 19 = _ := e
  rw [e']
  clear e e'
  simp only [Act.put, List.setIfInBounds_toArray, List.set_cons_succ, List.set_cons_zero]
  refine ⟨.inl ⟨rfl, fun dd w' hd hC hDs => ?_⟩, fun e => ?_⟩
  · go_simp
    first | exact ⟨rfl, hC, Below.refl _ _, eD_none rfl⟩ | exact ⟨rfl, Below.refl _ _, eD_none rfl⟩ | exact ⟨hC, Below.refl _ _, eD_none rfl⟩
  have e' : vs 20 = _ := e
  rw [e']
  clear e e'
  simp only [Act.put, List.setIfInBounds_toArray, List.set_cons_succ, List.set_cons_zero]
  refine ⟨.inl ⟨rfl, fun dd w' hd hC hDs => ?_⟩, fun e => ?_⟩
  · go_simp
    first | exact ⟨rfl, hC, Below.refl _ _, eD_none rfl⟩ | exact ⟨rfl, Below.refl _ _, eD_none rfl⟩ | exact ⟨hC, Below.refl _ _, eD_none rfl⟩
  have e' : vs 21 = _ := e
  rw [e']
  clear e e'
  simp only [Act.put, List.setIfInBounds_toArray, List.set_cons_succ, List.set_cons_zero]
  refine ⟨.inl ⟨rfl, fun dd w' hd hC hDs => ?_⟩, fun e => ?_⟩
  · have h1 : (convert 39 9 (.slice AY R.length cY)).run Tryd.prog w' = .ok (.string SR) w' := by rw [HSR.out]; exact (R9.out.on hC).str
    go_simp
    first | exact ⟨rfl, hC, Below.refl _ _, eD_none rfl⟩ | exact ⟨rfl, Below.refl _ _, eD_none rfl⟩ | exact ⟨hC, Below.refl _ _, eD_none rfl⟩
  have e' : vs 22 = _ := e
  rw [e']
  clear e e'
  simp only [Act.put, List.setIfInBounds_toArray, List.set_cons_succ, List.set_cons_zero]
  refine ⟨.inl ⟨rfl, fun dd w' hd hC hDs => ?_⟩, fun e => ?_⟩
  · go_simp
    first | exact ⟨rfl, hC, Below.refl _ _, eD_none rfl⟩ | exact ⟨rfl, Below.refl _ _, eD_none rfl⟩ | exact ⟨hC, Below.refl _ _, eD_none rfl⟩
  have e' : vs 23 = _ := e
  rw [e']
  clear e e'
  simp only [Act.put, List.setIfInBounds_toArray, List.set_cons_succ, List.set_cons_zero]
  refine ⟨.inl ⟨rfl, fun dd w' hd hC hDs => ?_⟩, fun e => ?_⟩
  · have h1 : (convert 39 9 (.slice AZ R.length cZ)).run Tryd.prog w' = .ok (.string SR) w' := by rw [HSR.out]; exact (S9.out.on hC).str
    go_simp
    first | exact ⟨rfl, hC, Below.refl _ _, eD_none rfl⟩ | exact ⟨rfl, Below.refl _ _, eD_none rfl⟩ | exact ⟨hC, Below.refl _ _, eD_none rfl⟩
  have e' : vs 24 = _ := e
  rw [e']
  clear e e'
  simp only [Act.put, List.setIfInBounds_toArray, List.set_cons_succ, List.set_cons_zero]
  refine ⟨.inl ⟨rfl, fun dd w' hd hC hDs => ?_⟩, fun e => ?_⟩
  · go_simp
    first | exact ⟨rfl, hC, Below.refl _ _, eD_none rfl⟩ | exact ⟨rfl, Below.refl _ _, eD_none rfl⟩ | exact ⟨hC, Below.refl _ _, eD_none rfl⟩
  have e' : vs 25 = _ := e
  rw [e']
  clear e e'
  simp only [Act.put, List.setIfInBounds_toArray, List.set_cons_succ, List.set_cons_zero]
  refine ⟨.inl ⟨rfl, fun dd w' hd hC hDs => ?_⟩, fun e => ?_⟩
  · go_simp
    first | exact ⟨rfl, hC, Below.refl _ _, eD_none rfl⟩ | exact ⟨rfl, Below.refl _ _, eD_none rfl⟩ | exact ⟨hC, Below.refl _ _, eD_none rfl⟩
  have e' : vs 26 = _ := e
  rw [e']
  clear e e'
  simp only [Act.put, List.setIfInBounds_toArray, List.set_cons_succ, List.set_cons_zero]
  refine ⟨.inl ⟨rfl, fun dd w' hd hC hDs => ?_⟩, fun e => ?_⟩
  · go_simp
    first | exact ⟨rfl, hC, Below.refl _ _, eD_none rfl⟩ | exact ⟨rfl, Below.refl _ _, eD_none rfl⟩ | exact ⟨hC, Below.refl _ _, eD_none rfl⟩
  have e' : vs 27 = _ := e
  rw [e']
  clear e e'
  simp only [Act.put, List.setIfInBounds_toArray, List.set_cons_succ, List.set_cons_zero]
  refine ⟨.inl ⟨rfl, fun dd w' hd hC hDs => ?_⟩, fun e => ?_⟩
  · go_simp
    first | exact ⟨rfl, hC, Below.refl _ _, eD_none rfl⟩ | exact ⟨rfl, Below.refl _ _, eD_none rfl⟩ | exact ⟨hC, Below.refl _ _, eD_none rfl⟩
  have e' : vs 28 = _ := e
  rw [e']
  clear e e'
  simp only [Act.put, List.setIfInBounds_toArray, List.set_cons_succ, List.set_cons_zero]
  refine ⟨.inl ⟨rfl, fun dd w' hd hC hDs => ?_⟩, fun e => ?_⟩
  · go_simp
    first | exact ⟨rfl, hC, Below.refl _ _, eD_none rfl⟩ | exact ⟨rfl, Below.refl _ _, eD_none rfl⟩ | exact ⟨hC, Below.refl _ _, eD_none rfl⟩
  have e' : vs 29 = _ := e
  rw [e']
  clear e e'
  simp only [Act.put, List.setIfInBounds_toArray, List.set_cons_succ, List.set_cons_zero]
  refine ⟨.inl ⟨rfl, fun dd w' hd hC hDs => ?_⟩, fun e => ?_⟩
  · go_simp
    first | exact ⟨rfl, hC, Below.refl _ _, eD_none rfl⟩ | exact ⟨rfl, Below.refl _ _, eD_none rfl⟩ | exact ⟨hC, Below.refl _ _, eD_none rfl⟩
  have e' : vs 30 = _ := e
  rw [e']
  clear e e'
  simp only [Act.put, List.setIfInBounds_toArray, List.set_cons_succ, List.set_cons_zero]
  refine ⟨.inl ⟨rfl, fun dd w' hd hC hDs => ?_⟩, fun e => ?_⟩
  · go_simp
    first | exact ⟨rfl, hC, Below.refl _ _, eD_none rfl⟩ | exact ⟨rfl, Below.refl _ _, eD_none rfl⟩ | exact ⟨hC, Below.refl _ _, eD_none rfl⟩
  have e' : vs 31 = _ := e
  rw [e']
  clear e e'
  simp only [Act.put, List.setIfInBounds_toArray, List.set_cons_succ, List.set_cons_zero]
  refine ⟨.inl ⟨rfl, fun dd w' hd hC hDs => ?_⟩, fun e => ?_⟩
  · go_simp
    first | exact ⟨rfl, hC, Below.refl _ _, eD_none rfl⟩ | exact ⟨rfl, Below.refl _ _, eD_none rfl⟩ | exact ⟨hC, Below.refl _ _, eD_none rfl⟩
  have e' : vs 32 = _ := e
  rw [e']
  clear e e'
  simp only [Act.put, List.setIfInBounds_toArray, List.set_cons_succ, List.set_cons_zero]
  refine ⟨.inl ⟨rfl, fun dd w' hd hC hDs => ?_⟩, fun e => ?_⟩
  · go_simp
    refine (works_any HC.out w' (sa9.out.on hC)).mono ?_
    rintro e w2 ⟨rfl, h2⟩
    exact ⟨_, rfl, rfl, hC.trans (h2.mono hC.size), h2, eD_none rfl⟩
  have e' : vs 33 = _ := e
  rw [e']
  clear e e'
  simp only [Act.put, List.setIfInBounds_toArray, List.set_cons_succ, List.set_cons_zero]
  refine ⟨.inl ⟨rfl, fun dd w' hd hC hDs => ?_⟩, fun e => ?_⟩
  · go_simp
    first | exact ⟨rfl, hC, Below.refl _ _, eD_none rfl⟩ | exact ⟨rfl, Below.refl _ _, eD_none rfl⟩ | exact ⟨hC, Below.refl _ _, eD_none rfl⟩
  have e' : vs 34 = _ := e
  rw [e']
  clear e e'
  simp only [Act.put, List.setIfInBounds_toArray, List.set_cons_succ, List.set_cons_zero]
  intro dd wz hall hCz hDs
  have rb := hid (hb9.out.trans (hCz.mono hb9.out.size))
  clear c9 y9 z9 hb9 sa9 A9 P9 R9 S9 q9 k9 hall hCz hDs
  go_wp2_with fail
  go_ret
  exact ⟨rfl, rb.out⟩
end BxP
end Go.Proofs.YtdfoehcdabmagaaDoor
set_option maxRecDepth 100000
namespace Go.Proofs.YtdfoehcdabmagaaDoor
open Go.RowKit
section
variable {P : Program} {ops : Array Oper}
theorem wp_region_new2st {id : Nat} {Q : Exit → Act → World → Prop} {C : World → Prop} {a : Act} {w : World} {l : List Oper} (n : Nat) (T : TypeId) (z F : Array Value) (d1 d2 : Tmp) {x y : Operand} {t1 t2 t3 : TypeId} {p1 p2 p3 : String} {e1 e2 e3 : Array Edge}
    (hl1 : l[n]? = some ⟨some d1, .alloc T, t1, p1, e1, none⟩) (hl2 : l[n + 1]? = some ⟨some d2, .alloc T, t2, p2, e2, none⟩)
    (hl3 : l[n + 2]? = some ⟨none, .store T x y, t3, p3, e3, none⟩) (he : (e3.toList.any fun e => e.on == n && Region.binds .any e) = true)
    (hm : P.follows .mixedOrders = true) (ht : tidy l.toArray = true) (hB : tailB l.toArray (n + 3) = true)
    (hst : ∀ w' b1, Blk w' b1 T z → (Instr.storeAt T (ptr b1) (.agg F)).run P w' = .ok () (w'.setRow b1 F)) (hCr : ∀ w' b1, C w' → w.heap.size ≤ b1 → C (w'.setRow b1 F))
    (ha : ∀ w, (Instr.alloc T true (.tuple #[])).run P w = .ok (.pointer (some ⟨w.heap.size, 0, none⟩)) (w.alloc (.cells z T)))
    (hC : C w.drew) (hCa : ∀ w, C w → C (w.alloc (.cells z T))) (hCs : ∀ w', C w' → w.heap.size ≤ w'.heap.size)
    (h : wpB P l.toArray C (fun a' => (∀ b1 b2, ((a'.put (some d1) (ptr b1)).put (some d2) (ptr b2)).eval x = ptr b1 ∧ ((a'.put (some d1) (ptr b1)).put (some d2) (ptr b2)).eval y = .agg F) ∧ ∀ b1 b2 w', b1 ≠ b2 → C w' → Blk w' b1 T F → Blk w' b2 T z → w.heap.size ≤ b1 → w.heap.size ≤ b2 →
      wpList P l.toArray Q (l.drop (n + 3)) ((a'.put (some d1) (ptr b1)).put (some d2) (ptr b2)) w') (l.take n) a) : (Code.region id l.toArray true).wp P Q a w := by
  obtain ⟨vals, ⟨hev, hq⟩, hs⟩ := wpB_vals _ _ h
  have hln : n + 2 < l.length := (List.getElem?_eq_some_iff.1 hl3).1
  have hlen : (l.take n).length = n := by rw [List.length_take]; omega
  rw [hlen] at hev hq
  let V : Nat × Nat → Nat → Value := fun γ i => if i = n then ptr γ.1 else if i = n + 1 then ptr γ.2 else if i = n + 2 then undef else vals i
  have hV : ∀ γ i, i < n → V γ i = vals i := fun γ i hi => by show (if _ then _ else _) = _; rw [if_neg (by omega), if_neg (by omega), if_neg (by omega)]
  have hfr : ∀ γ i, i ≤ n → lexF (l.take (n + 3)) (V γ) i a = lexF (l.take n) vals i a := fun γ i hi => lexF_congr fun j hj =>
    ⟨by rw [List.getElem?_take_of_lt (by omega), List.getElem?_take_of_lt (by omega)], hV γ j (by omega)⟩
  have hput : ∀ γ, lexF (l.take (n + 3)) (V γ) (n + 2) a = ((lexF (l.take n) vals n a).put (some d1) (ptr γ.1)).put (some d2) (ptr γ.2) := fun γ => by
    rw [lexF, lexF, hfr γ n (Nat.le_refl n), List.getElem?_take_of_lt (by omega), List.getElem?_take_of_lt (by omega), hl1, hl2]
    simp only [V, if_neg (show ¬ n + 1 = n by omega), if_pos, Option.bind_some]
  refine region_core (Γ := Nat × Nat) (C := fun γ L w' => C w' ∧ (L.getD (n + 2) false = true → L.getD n false = true) ∧ (L.getD n false = true → Blk w' γ.1 T (if L.getD (n + 2) false = true then F else z) ∧ w.heap.size ≤ γ.1) ∧ (L.getD (n + 1) false = true → Blk w' γ.2 T z ∧ w.heap.size ≤ γ.2) ∧
      (L.getD n false = true → L.getD (n + 1) false = true → γ.1 ≠ γ.2)) (n + 3) hm ht hB (0, 0)
    ⟨hC, (fun h => by rw [getD_replicate_false] at h; cases h), (fun h => by rw [getD_replicate_false] at h; cases h), (fun h => by rw [getD_replicate_false] at h; cases h), (fun h => by rw [getD_replicate_false] at h; cases h)⟩ V ?_ ?_
  · intro i o hi γ L w' hsz hr ⟨hC', g0, g1, g2, g3⟩
    have hilt : i < n + 3 := by
      have := (List.getElem?_eq_some_iff.1 hi).1
      rw [List.length_take] at this; omega
    rw [List.getElem?_take_of_lt hilt] at hi
    have hun := getD_both (mem_ready.1 hr).1
    have hset : ∀ k, k ≠ i → (L.setIfInBounds i true).getD k false = L.getD k false := fun k hk => getD_set_ne false (Ne.symm hk)
    rcases Nat.lt_or_ge i n with hin | hin
    · -- no allocation
      refine ⟨γ, fun _ _ => rfl, ?_⟩
      rw [hfr γ i (by omega), hV γ i hin]
      simp only [hset n (by omega), hset (n + 1) (by omega), hset (n + 2) (by omega)]
      rcases hs i o (by rw [List.getElem?_take_of_lt hin]; exact hi) with ⟨h1, h2⟩ | ⟨h1, h2⟩
      · exact .inl ⟨h1, gives_mono (h2 w' hC') fun w'' ⟨h3, h4⟩ => ⟨h3, g0, fun e => ⟨(g1 e).1.below h4 (g1 e).1.lt, (g1 e).2⟩, fun e => ⟨(g2 e).1.below h4 (g2 e).1.lt, (g2 e).2⟩, g3⟩⟩
      · exact .inr ⟨h1, h2, hC', g0, g1, g2, g3⟩
    · have hw : ∀ b : Act, (execOp b.eval ⟨some d1, .alloc T, t1, p1, e1, none⟩).run P w' = .ok (.value (.pointer (some ⟨w'.heap.size, 0, none⟩))) (w'.alloc (.cells z T)) := fun b => by
        simp only [execOp, Sem.run_bind, ha w', Result.andThen_ok, Sem.run_pure]
      have hw2 : ∀ b : Act, (execOp b.eval ⟨some d2, .alloc T, t2, p2, e2, none⟩).run P w' = .ok (.value (.pointer (some ⟨w'.heap.size, 0, none⟩))) (w'.alloc (.cells z T)) := fun b => by
        simp only [execOp, Sem.run_bind, ha w', Result.andThen_ok, Sem.run_pure]
      by_cases hi1 : i = n
      · subst hi1
        obtain rfl : _ = o := Option.some.inj (hl1.symm.trans hi)
        refine ⟨(w'.heap.size, γ.2), fun j hj => ?_, .inl ⟨rfl, ?_⟩⟩
        · have hjn : j ≠ i := fun e => by subst e; rw [hun] at hj; cases hj
          simp only [V, if_neg hjn]
        · refine gives_value (w' := w'.alloc (.cells z T)) ?_ ?_
          · rw [hw]
            simp only [V, if_pos]; rfl
          · have hno : L.getD (i + 2) false = false := by
              cases hx : L.getD (i + 2) false with
              | false => rfl
              | true => rw [g0 hx] at hun; cases hun
            refine ⟨hCa _ hC', fun _ => by simp [show i < L.size by omega], fun _ => ⟨by rw [hset (i + 2) (by omega), hno, if_neg (by simp)]; exact Blk.new _ _ _, hCs _ hC'⟩, fun e => ?_, fun _ e => ?_⟩
            · rw [getD_set_ne false (by omega)] at e
              exact ⟨(g2 e).1.alloc _, (g2 e).2⟩
            · rw [getD_set_ne false (by omega)] at e
              have := (g2 e).1.lt
              exact Nat.ne_of_gt this
      · by_cases hi2 : i = n + 1
        · subst hi2
          obtain rfl : _ = o := Option.some.inj (hl2.symm.trans hi)
          refine ⟨(γ.1, w'.heap.size), fun j hj => ?_, .inl ⟨rfl, ?_⟩⟩
          · have hj2 : j ≠ n + 1 := fun e => by subst e; rw [hun] at hj; cases hj
            simp only [V, if_neg hj2]
          · refine gives_value (w' := w'.alloc (.cells z T)) ?_ ?_
            · rw [hw2]
              simp only [V, if_neg (show ¬ n + 1 = n by omega), if_pos]; rfl
            · refine ⟨hCa _ hC', fun e => ?_, fun e => ?_, fun _ => ⟨Blk.new _ _ _, hCs _ hC'⟩, fun e _ => ?_⟩
              · rw [hset (n + 2) (by omega)] at e
                rw [hset n (by omega)]; exact g0 e
              · rw [hset n (by omega)] at e
                rw [hset (n + 2) (by omega)]
                exact ⟨(g1 e).1.alloc _, (g1 e).2⟩
              · rw [hset n (by omega)] at e
                have := (g1 e).1.lt
                exact Nat.ne_of_lt this
        · obtain rfl : i = n + 2 := by omega
          obtain rfl : _ = o := Option.some.inj (hl3.symm.trans hi)
          have hdone : L.getD n false = true := by
            obtain ⟨_, o', ho', hall⟩ := mem_ready.1 hr
            obtain ⟨e, hem, hee⟩ := List.any_eq_true.1 he
            simp only [Bool.and_eq_true, beq_iff_eq] at hee
            have ho2 : (l.toArray)[n + 2]? = some ⟨none, .store T x y, t3, p3, e3, none⟩ := by rw [List.getElem?_toArray]; exact hl3
            obtain rfl : _ = o' := Option.some.inj (ho2.symm.trans ho')
            have := hall e (by simpa using hem) hee.2
            rwa [hee.1] at this
          obtain ⟨hb, hle⟩ := g1 hdone
          rw [hun, if_neg (by simp)] at hb
          refine ⟨γ, fun _ _ => rfl, .inl ⟨rfl, ?_⟩⟩
          rw [hput γ]
          have hVu : V γ (n + 2) = undef := by show (if _ then _ else _) = _; rw [if_neg (by omega), if_neg (by omega), if_pos rfl]
          rw [hVu]
          refine gives_skip (w' := w'.setRow γ.1 F) ?_ ⟨hCr _ _ hC' hle, fun _ => by rw [hset n (by omega)]; exact hdone, fun _ => ⟨?_, hle⟩, fun e => ?_, fun _ e => ?_⟩
          · have hx := (hev γ.1 γ.2).1
            have hy := (hev γ.1 γ.2).2
            simp only [execOp, hx, hy, Sem.run_bind, hst w' γ.1 hb, Result.andThen_ok, Sem.run_pure]
          · rw [if_pos (by simp [show n + 2 < L.size by omega])]
            exact hb.setRow_same F
          · rw [hset (n + 1) (by omega)] at e
            exact ⟨(g2 e).1.setRow_other (g3 hdone e) F, (g2 e).2⟩
          · rw [hset (n + 1) (by omega)] at e
            exact g3 hdone e
  · intro γ L w' hall ⟨hC', _, g1, g2, g3⟩
    have h1 := hall n (by omega)
    have h2 := hall (n + 1) (by omega)
    obtain ⟨hb, hle⟩ := g1 h1
    rw [if_pos (hall (n + 2) (by omega))] at hb
    have hl2' : (l.take (n + 3)).length = n + 3 := by rw [List.length_take]; omega
    rw [hl2']
    have hp3 : lexF (l.take (n + 3)) (V γ) (n + 3) a = ((lexF (l.take n) vals n a).put (some d1) (ptr γ.1)).put (some d2) (ptr γ.2) := by
      rw [lexF, hput γ, List.getElem?_take_of_lt (by omega), hl3]
      rfl
    rw [hp3]
    exact hq γ.1 γ.2 w' (g3 h1 h2) hC' hb (g2 h2).1 hle (g2 h2).2
end
end Go.Proofs.YtdfoehcdabmagaaDoor
set_option maxRecDepth 100000
namespace Go.Proofs.YtdfoehcdabmagaaDoor
open Go.ChangeShapes Go.WideShapes Go.ChangeAt Go.RowKit
open DvP (tK tT sub uK eqg_key)
attribute [local go_sem] Gives GivesE
namespace BxP
set_option maxHeartbeats 3200000 in
set_option maxRecDepth 100000 in
theorem back_law (hC : BoxC) (k x y : Nat → Nat) (hk : ∀ i, k i < 256) (hx : ∀ i, x i < 256) (hy : ∀ i, y i < 256) (s : ByteArray) (n : Nat) (hn : n < 18446744073709551616) (A : Option Addr) (l : List Nat) (m cap : Nat) (W : World) (hA : Arg W A l m cap) (hS : Salts W) :
    Calls Tryd.prog 5 #[.agg (byV k s n), .agg (ar 64 (duo x y)), .slice A m cap] W fun e w' => e = .returned (.bool true) ∧ Below W.heap.size W w' := by
  have HC := hid hC
  have HK := hid hk
  have HX := hid hx
  have HY := hid hy
  have HN := hid hn
  have SA := hid hS
  have HL := hid (cut100_size s)
  have a5 := hA.upto 100
  have hk100 : min m 100 ≤ 100 := by omega
  have e1 : (if (100 : Int) < (m : Int) then (100 : Int) else (m : Int)) = ((min m 100 : Nat) : Int) := by split <;> omega
  have e1' : min (m : Int) 100 = ((min m 100 : Nat) : Int) := by omega
  have hkc : min m 100 ≤ cap := a5.cap
  have hcm : cap ≤ 9223372036854775807 := by have := hA.max; unfold maxLen at this; exact this
  have hnc : m ≤ cap := hA.cap
  generalize l.take 100 = l5 at *
  generalize min m 100 = q at *
  have H5 := hid a5
  obtain ⟨P, hP⟩ : ∃ P, P = pad k (cut100 s) n := ⟨_, rfl⟩
  obtain ⟨BX, hBX⟩ : ∃ BX, BX = boxF k (cut100 s) n x := ⟨_, rfl⟩
  obtain ⟨BY, hBY⟩ : ∃ BY, BY = boxF k (cut100 s) n y := ⟨_, rfl⟩
  obtain ⟨D, hD⟩ : ∃ D, D = xorF x (pad k (cut100 s) n) := ⟨_, rfl⟩
  obtain ⟨G, hG⟩ : ∃ G, G = tagB k (cut100 s) n D := ⟨_, rfl⟩
  have HBD := hid (show BX = duo D G by rw [hBX, hG, hD]; rfl)
  have HDl := hid (show ∀ i, D i < 256 by rw [hD]; exact xorF_lt HX.out (sub_lt _ _))
  have HGl := hid (show ∀ i, G i < 256 by rw [hG]; exact tagB_lt _ _ _ _)
  have HT := hid (show eqA 32 (tagB k (cut100 s) n D) G = true by rw [hG]; exact eqA_yes fun _ _ => rfl)
  have HXB := hid (show xorF D (pad k (cut100 s) n) = x by rw [hD]; exact xor_back _ _)
  have HP := hid hP
  have HBX := hid hBX
  have HBY := hid hBY
  have HPX := hid (show ∀ i, i < 32 → BX i = x i ^^^ P i by intro i hi; rw [hBX, hP]; unfold boxF duo xorF; rw [if_pos hi])
  have HPY := hid (show ∀ i, i < 32 → BY i = y i ^^^ P i by intro i hi; rw [hBY, hP]; unfold boxF duo xorF; rw [if_pos hi])
  have HPl := hid (show ∀ i, P i < 256 by rw [hP]; exact sub_lt _ _)
  clear hC hk hx hy hn hS a5 hA hP hBX hBY hD hG
  go_enter Tryd.func5, Tryd.ntmps5
  go_upto_region 1 with fail
  generalize hw1 : World.alloc (World.alloc W _) _ = w1
  have b0 := hid (show Blk w1 W.heap.size 26 (byV k s n) by rw [← hw1]; exact (Blk.new _ _ _).alloc _)
  have b1 := hid (show Blk w1 (W.heap.size + 1) 46 (ar 64 (duo x y)) by rw [← hw1]; exact Blk.top rfl (by simp))
  have hb := hid (show Below W.heap.size W w1 by rw [← hw1]; exact ((Below.refl _ _).alloc (Nat.le_refl _) _).alloc (by simp) _)
  have sa := hid (SA.out.on hb.out)
  have H1 := hid (H5.out.on hb.out)
  clear hw1 SA H5
  refine wp_region_new2st (C := fun w' => Below w1.heap.size w1 w') 4 23 (ar 32 fun _ => 0) (ar 32 x) 7 8 rfl rfl rfl (by kernel_rfl) (by kernel_rfl) (by kernel_rfl) (by kernel_rfl) (fun _ _ hb => run_st_ar tK hb x) (fun w' g hw' hg => below_setRow hw' hg _) (run_alloc_ar tK) (Below.refl _ _).drew (fun w' hw' => hw'.alloc hw'.size _) (fun w' hw' => hw'.size) ?_
  simp only [List.take_succ_cons, List.take_zero, List.drop_succ_cons, List.drop_zero]
  apply wpB_val
  · rfl
  · intro w' hw'
    have hbl := Below.refl w'.heap.size w'
    go_simp
    first | exact rfl | exact ⟨rfl, hbl⟩ | exact ⟨rfl, hw', hbl⟩
  simp only [Act.put, List.setIfInBounds_toArray, List.set_cons_succ, List.set_cons_zero]
  apply bldA tK
  · rfl
  · rfl
  · exact fun w' hw' => duo_at0 (b1.out.below hw' b1.out.lt)
  simp only [Act.put, List.setIfInBounds_toArray, List.set_cons_succ, List.set_cons_zero]
  apply wpB_val
  · rfl
  · intro w' hw'
    have hbl := Below.refl w'.heap.size w'
    go_simp
    first | exact rfl | exact ⟨rfl, hbl⟩ | exact ⟨rfl, hw', hbl⟩
  simp only [Act.put, List.setIfInBounds_toArray, List.set_cons_succ, List.set_cons_zero]
  apply bldA tK
  · rfl
  · rfl
  · exact fun w' hw' => duo_at1 (b1.out.below hw' b1.out.lt)
  simp only [Act.put, List.setIfInBounds_toArray, List.set_cons_succ, List.set_cons_zero]
  refine wpB_nil ⟨fun _ _ => ⟨rfl, rfl⟩, fun gx gz w2a hcc hw2 q1 q2 hc1 hc2 => ?_⟩
  unfold ptr
  go_upto_region 2 with ((with_reducible apply stA tK); rfl; rfl; exact q2)
  have hbe := hid (show Below w1.heap.size w1 (w2a.setRow gz (ar 32 y)) from below_setRow hw2 hc2 _)
  have qx := hid (q1.setRow_other (Ne.symm hcc) (ar 32 y))
  have qz := hid (q2.setRow_same (ar 32 y))
  generalize w2a.setRow gz (ar 32 y) = w2 at hbe qx qz ⊢
  clear hw2 q1 q2 hc1 hc2 hcc
  have hb_1 := hid (hb.out.trans (hbe.out.mono hb.out.size))
  have sa_1 := hid (sa.out.on hbe.out)
  have b0_1 := hid (b0.out.below hbe.out b0.out.lt)
  have b1_1 := hid (b1.out.below hbe.out b1.out.lt)
  have A_1 := hid (H1.out.on hbe.out)
  clear hb sa b0 b1 H1
  clear hbe
  go_upto_region 3 with fail
  refine wp_region_new1 (C := fun w' => Below w2.heap.size w2 w') 8 29 (ar 64 fun _ => 0) 9 rfl (by kernel_rfl) (by kernel_rfl) (by kernel_rfl) (run_alloc_ar tBox) (Below.refl _ _).drew (fun w' hw' => hw'.alloc hw'.size _) (fun w' hw' => hw'.size) ?_
  simp only [List.take_succ_cons, List.take_zero, List.drop_succ_cons, List.drop_zero]
  apply wpB_val
  · rfl
  · intro w' hw'
    have hbl := Below.refl w'.heap.size w'
    go_simp
    first | exact rfl | exact ⟨rfl, hbl⟩ | exact ⟨rfl, hw', hbl⟩
  simp only [Act.put, List.setIfInBounds_toArray, List.set_cons_succ, List.set_cons_zero]
  apply bldA tK
  · rfl
  · rfl
  · exact fun w' hw' => by_key (b0_1.out.below hw' b0_1.out.lt)
  simp only [Act.put, List.setIfInBounds_toArray, List.set_cons_succ, List.set_cons_zero]
  apply bldR (tBy' k s n)
  · rfl
  · rfl
  · exact fun w' hw' => (b0_1.out.below hw' b0_1.out.lt).whole
  simp only [Act.put, List.setIfInBounds_toArray, List.set_cons_succ, List.set_cons_zero]
  apply wpB_val
  · rfl
  · intro w' hw'
    go_simp
    exact (label_any k s n w').mono fun e w2 h => ⟨h.1, hw'.trans (h.2.mono hw'.size), h.2⟩
  simp only [Act.put, List.setIfInBounds_toArray, List.set_cons_succ, List.set_cons_zero]
  apply wpB_val
  · rfl
  · intro w' hw'
    have hbl := Below.refl w'.heap.size w'
    go_simp
    first | exact rfl | exact ⟨rfl, hbl⟩ | exact ⟨rfl, hw', hbl⟩
  simp only [Act.put, List.setIfInBounds_toArray, List.set_cons_succ, List.set_cons_zero]
  apply wpB_val
  · rfl
  · intro w' hw'
    have hbl := Below.refl w'.heap.size w'
    have h1 : w'.cell? ⟨W.heap.size, 33, none⟩ = some (.int .u64 n) := by_num (b0_1.out.below hw' b0_1.out.lt)
    go_simp
    first | exact rfl | exact ⟨rfl, hbl⟩ | exact ⟨rfl, hw', hbl⟩
  simp only [Act.put, List.setIfInBounds_toArray, List.set_cons_succ, List.set_cons_zero]
  apply bldA tK
  · rfl
  · rfl
  · exact fun w' hw' => (qx.out.below hw' qx.out.lt).head
  simp only [Act.put, List.setIfInBounds_toArray, List.set_cons_succ, List.set_cons_zero]
  apply wpB_val
  · rfl
  · intro w' hw'
    go_simp
    exact (HC.out.wrap k x HK.out HX.out (cut100 s) HL.out n HN.out w' (sa_1.out.on hw')).mono fun e w2 h => ⟨h.1, hw'.trans (h.2.mono hw'.size), h.2⟩
  simp only [Act.put, List.setIfInBounds_toArray, List.set_cons_succ, List.set_cons_zero]
  rw [← HBX.out]
  refine wpB_nil fun ga w3a hw2 qp hgp => ?_
  unfold ptr
  go_upto_region 4 with ((with_reducible apply stA tBox); rfl; rfl; exact qp)
  have hbe := hid (show Below w2.heap.size w2 (w3a.setRow ga (ar 64 BX)) from below_setRow hw2 hgp _)
  have qn := hid (qp.setRow_same (ar 64 BX))
  generalize w3a.setRow ga (ar 64 BX) = w3 at hbe qn ⊢
  clear hw2 qp hgp
  have hb_2 := hid (hb_1.out.trans (hbe.out.mono hb_1.out.size))
  have sa_2 := hid (sa_1.out.on hbe.out)
  have b0_2 := hid (b0_1.out.below hbe.out b0_1.out.lt)
  have b1_2 := hid (b1_1.out.below hbe.out b1_1.out.lt)
  have A_2 := hid (A_1.out.on hbe.out)
  have gx_2 := hid (qx.out.below hbe.out qx.out.lt)
  have gz_2 := hid (qz.out.below hbe.out qz.out.lt)
  clear hb_1 sa_1 b0_1 b1_1 A_1 qx qz
  clear hbe
  have gab := qn
  clear qn
  refine wp_region_new1 (C := fun w' => Below w3.heap.size w3 w') 8 29 (ar 64 fun _ => 0) 10 rfl (by kernel_rfl) (by kernel_rfl) (by kernel_rfl) (run_alloc_ar tBox) (Below.refl _ _).drew (fun w' hw' => hw'.alloc hw'.size _) (fun w' hw' => hw'.size) ?_
  simp only [List.take_succ_cons, List.take_zero, List.drop_succ_cons, List.drop_zero]
  apply wpB_val
  · rfl
  · intro w' hw'
    have hbl := Below.refl w'.heap.size w'
    go_simp
    first | exact rfl | exact ⟨rfl, hbl⟩ | exact ⟨rfl, hw', hbl⟩
  simp only [Act.put, List.setIfInBounds_toArray, List.set_cons_succ, List.set_cons_zero]
  apply bldA tK
  · rfl
  · rfl
  · exact fun w' hw' => by_key (b0_2.out.below hw' b0_2.out.lt)
  simp only [Act.put, List.setIfInBounds_toArray, List.set_cons_succ, List.set_cons_zero]
  apply bldR (tBy' k s n)
  · rfl
  · rfl
  · exact fun w' hw' => (b0_2.out.below hw' b0_2.out.lt).whole
  simp only [Act.put, List.setIfInBounds_toArray, List.set_cons_succ, List.set_cons_zero]
  apply wpB_val
  · rfl
  · intro w' hw'
    go_simp
    exact (label_any k s n w').mono fun e w2 h => ⟨h.1, hw'.trans (h.2.mono hw'.size), h.2⟩
  simp only [Act.put, List.setIfInBounds_toArray, List.set_cons_succ, List.set_cons_zero]
  apply wpB_val
  · rfl
  · intro w' hw'
    have hbl := Below.refl w'.heap.size w'
    go_simp
    first | exact rfl | exact ⟨rfl, hbl⟩ | exact ⟨rfl, hw', hbl⟩
  simp only [Act.put, List.setIfInBounds_toArray, List.set_cons_succ, List.set_cons_zero]
  apply wpB_val
  · rfl
  · intro w' hw'
    have hbl := Below.refl w'.heap.size w'
    have h1 : w'.cell? ⟨W.heap.size, 33, none⟩ = some (.int .u64 n) := by_num (b0_2.out.below hw' b0_2.out.lt)
    go_simp
    first | exact rfl | exact ⟨rfl, hbl⟩ | exact ⟨rfl, hw', hbl⟩
  simp only [Act.put, List.setIfInBounds_toArray, List.set_cons_succ, List.set_cons_zero]
  apply bldA tK
  · rfl
  · rfl
  · exact fun w' hw' => (gz_2.out.below hw' gz_2.out.lt).head
  simp only [Act.put, List.setIfInBounds_toArray, List.set_cons_succ, List.set_cons_zero]
  apply wpB_val
  · rfl
  · intro w' hw'
    go_simp
    exact (HC.out.wrap k y HK.out HY.out (cut100 s) HL.out n HN.out w' (sa_2.out.on hw')).mono fun e w2 h => ⟨h.1, hw'.trans (h.2.mono hw'.size), h.2⟩
  simp only [Act.put, List.setIfInBounds_toArray, List.set_cons_succ, List.set_cons_zero]
  rw [← HBY.out]
  refine wpB_nil fun gb w4a hw2 qp hgp => ?_
  unfold ptr
  go_upto_region 5 with ((with_reducible apply stA tBox); rfl; rfl; exact qp)
  have hbe := hid (show Below w3.heap.size w3 (w4a.setRow gb (ar 64 BY)) from below_setRow hw2 hgp _)
  have qn := hid (qp.setRow_same (ar 64 BY))
  generalize w4a.setRow gb (ar 64 BY) = w4 at hbe qn ⊢
  clear hw2 qp hgp
  have hb_3 := hid (hb_2.out.trans (hbe.out.mono hb_2.out.size))
  have sa_3 := hid (sa_2.out.on hbe.out)
  have b0_3 := hid (b0_2.out.below hbe.out b0_2.out.lt)
  have b1_3 := hid (b1_2.out.below hbe.out b1_2.out.lt)
  have A_3 := hid (A_2.out.on hbe.out)
  have gx_3 := hid (gx_2.out.below hbe.out gx_2.out.lt)
  have gz_3 := hid (gz_2.out.below hbe.out gz_2.out.lt)
  have ga_3 := hid (gab.out.below hbe.out gab.out.lt)
  clear hb_2 sa_2 b0_2 b1_2 A_2 gx_2 gz_2 gab
  clear hbe
  have gbb := qn
  clear qn
  go_wp2_with fail
  go_loopw [11] (fun u wr => ∃ j : Nat, j ≤ 32 ∧ u = .int .i64 j ∧ Hid (Below w4.heap.size w4 wr)) (fun u _ => 32 - (intOf u).toNat)
  case atStart => exact ⟨0, by omega, rfl, hid (Below.refl _ _)⟩
  case round =>
    obtain ⟨j, hj, rfl, hbr⟩ := hrel
    by_cases hlt : j < 32
    · have tj : (j : Int) < 32 := by omega
      obtain ⟨X1, hX1⟩ : ∃ X1, X1 = x j := ⟨_, rfl⟩
      obtain ⟨Y1, hY1⟩ : ∃ Y1, Y1 = y j := ⟨_, rfl⟩
      obtain ⟨P1, hP1⟩ : ∃ P1, P1 = P j := ⟨_, rfl⟩
      have lX : X1 < 256 := by rw [hX1]; exact HX.out j
      have lY : Y1 < 256 := by rw [hY1]; exact HY.out j
      have lP : P1 < 256 := by rw [hP1]; exact HPl.out j
      obtain ⟨A1, hA1⟩ : ∃ A1, A1 = BX j := ⟨_, rfl⟩
      obtain ⟨B1, hB1⟩ : ∃ B1, B1 = BY j := ⟨_, rfl⟩
      obtain ⟨U, hU⟩ : ∃ U, U = X1 ^^^ Y1 := ⟨_, rfl⟩
      have hUA : A1 ^^^ B1 = U := by
        rw [hA1, hB1, HPX.out j hlt, HPY.out j hlt, ← hX1, ← hY1, ← hP1, hU, Nat.xor_assoc, Nat.xor_comm P1, Nat.xor_assoc, Nat.xor_self, Nat.xor_zero]
      have lA : A1 < 256 := by rw [hA1, HPX.out j hlt, ← hX1, ← hP1]; exact Nat.xor_lt_two_pow (n := 8) lX lP
      have lB : B1 < 256 := by rw [hB1, HPY.out j hlt, ← hY1, ← hP1]; exact Nat.xor_lt_two_pow (n := 8) lY lP
      have ca := hid (show ∀ w', Below wr.heap.size wr w' → w'.cell? ⟨ga, j, none⟩ = some (.int .u8 (A1 : Nat)) from fun w' hw' => by rw [hA1, (ga_3.out.below (hbr.out.trans (hw'.mono hbr.out.size)) ga_3.out.lt).cell, get_ar (by omega)])
      have cb := hid (show ∀ w', Below wr.heap.size wr w' → w'.cell? ⟨gb, j, none⟩ = some (.int .u8 (B1 : Nat)) from fun w' hw' => by rw [hB1, (gbb.out.below (hbr.out.trans (hw'.mono hbr.out.size)) gbb.out.lt).cell, get_ar (by omega)])
      have cx := hid (show ∀ w', Below wr.heap.size wr w' → w'.cell? ⟨gx, j, none⟩ = some (.int .u8 (X1 : Nat)) from fun w' hw' => by rw [hX1, (gx_3.out.below (hbr.out.trans (hw'.mono hbr.out.size)) gx_3.out.lt).cell, get_ar hlt])
      have cy := hid (show ∀ w', Below wr.heap.size wr w' → w'.cell? ⟨gz, j, none⟩ = some (.int .u8 (Y1 : Nat)) from fun w' hw' => by rw [hY1, (gz_3.out.below (hbr.out.trans (hw'.mono hbr.out.size)) gz_3.out.lt).cell, get_ar hlt])
      have x1 := hid (show bits .xor .u8 (A1 : Int) (B1 : Int) = ((U : Nat) : Int) by rw [u8_xor_nat _ _ lA lB, hUA])
      have x2 := hid (show bits .xor .u8 (X1 : Int) (Y1 : Int) = ((U : Nat) : Int) by rw [u8_xor_nat _ _ lX lY, hU])
      clear hX1 hY1 hP1 hA1 hB1 hU hUA lX lY lP lA lB
      go_wp2_with fail
      refine wp_region_tail (C := fun w' => Below wr.heap.size wr w') 17 (by kernel_rfl) (by kernel_rfl) (by kernel_rfl) (Below.refl _ _).drew ?_
      simp only [List.take_succ_cons, List.take_zero, List.drop_succ_cons, List.drop_zero]
      apply wpK_val
      · rfl
      · intro w' hw'
        go_simp
        first | exact rfl | exact ⟨rfl, hw'⟩
      simp only [Act.put, List.setIfInBounds_toArray, List.set_cons_succ, List.set_cons_zero]
      apply wpK_val
      · rfl
      · intro w' hw'
        go_simp
        first | exact rfl | exact ⟨rfl, hw'⟩
      simp only [Act.put, List.setIfInBounds_toArray, List.set_cons_succ, List.set_cons_zero]
      apply wpK_val
      · rfl
      · intro w' hw'
        go_simp
        first | exact rfl | exact ⟨rfl, hw'⟩
      simp only [Act.put, List.setIfInBounds_toArray, List.set_cons_succ, List.set_cons_zero]
      apply wpK_val
      · rfl
      · intro w' hw'
        have hcell := ca.out w' hw'
        go_simp
        first | exact rfl | exact ⟨rfl, hw'⟩
      simp only [Act.put, List.setIfInBounds_toArray, List.set_cons_succ, List.set_cons_zero]
      apply wpK_val
      · rfl
      · intro w' hw'
        go_simp
        first | exact rfl | exact ⟨rfl, hw'⟩
      simp only [Act.put, List.setIfInBounds_toArray, List.set_cons_succ, List.set_cons_zero]
      apply wpK_val
      · rfl
      · intro w' hw'
        go_simp
        first | exact rfl | exact ⟨rfl, hw'⟩
      simp only [Act.put, List.setIfInBounds_toArray, List.set_cons_succ, List.set_cons_zero]
      apply wpK_val
      · rfl
      · intro w' hw'
        go_simp
        first | exact rfl | exact ⟨rfl, hw'⟩
      simp only [Act.put, List.setIfInBounds_toArray, List.set_cons_succ, List.set_cons_zero]
      apply wpK_val
      · rfl
      · intro w' hw'
        have hcell := cb.out w' hw'
        go_simp
        first | exact rfl | exact ⟨rfl, hw'⟩
      simp only [Act.put, List.setIfInBounds_toArray, List.set_cons_succ, List.set_cons_zero]
      apply wpK_val
      · rfl
      · intro w' hw'
        have h1 : bits .xor .u8 (A1 : Int) (B1 : Int) = ((U : Nat) : Int) := x1.out
        go_simp
        first | exact rfl | exact ⟨rfl, hw'⟩
      simp only [Act.put, List.setIfInBounds_toArray, List.set_cons_succ, List.set_cons_zero]
      apply wpK_val
      · rfl
      · intro w' hw'
        go_simp
        first | exact rfl | exact ⟨rfl, hw'⟩
      simp only [Act.put, List.setIfInBounds_toArray, List.set_cons_succ, List.set_cons_zero]
      apply wpK_val
      · rfl
      · intro w' hw'
        go_simp
        first | exact rfl | exact ⟨rfl, hw'⟩
      simp only [Act.put, List.setIfInBounds_toArray, List.set_cons_succ, List.set_cons_zero]
      apply wpK_val
      · rfl
      · intro w' hw'
        have hcell := cx.out w' hw'
        go_simp
        first | exact rfl | exact ⟨rfl, hw'⟩
      simp only [Act.put, List.setIfInBounds_toArray, List.set_cons_succ, List.set_cons_zero]
      apply wpK_val
      · rfl
      · intro w' hw'
        go_simp
        first | exact rfl | exact ⟨rfl, hw'⟩
      simp only [Act.put, List.setIfInBounds_toArray, List.set_cons_succ, List.set_cons_zero]
      apply wpK_val
      · rfl
      · intro w' hw'
        go_simp
        first | exact rfl | exact ⟨rfl, hw'⟩
      simp only [Act.put, List.setIfInBounds_toArray, List.set_cons_succ, List.set_cons_zero]
      apply wpK_val
      · rfl
      · intro w' hw'
        have hcell := cy.out w' hw'
        go_simp
        first | exact rfl | exact ⟨rfl, hw'⟩
      simp only [Act.put, List.setIfInBounds_toArray, List.set_cons_succ, List.set_cons_zero]
      apply wpK_val
      · rfl
      · intro w' hw'
        have h1 : bits .xor .u8 (X1 : Int) (Y1 : Int) = ((U : Nat) : Int) := x2.out
        go_simp
        first | exact rfl | exact ⟨rfl, hw'⟩
      simp only [Act.put, List.setIfInBounds_toArray, List.set_cons_succ, List.set_cons_zero]
      apply wpK_val
      · rfl
      · intro w' hw'
        go_simp
        first | exact rfl | exact ⟨rfl, hw'⟩
      simp only [Act.put, List.setIfInBounds_toArray, List.set_cons_succ, List.set_cons_zero]
      refine wpK_nil fun w5 hw5 => ?_
      have hb5 := hid (hbr.out.trans (hw5.mono hbr.out.size))
      clear ca cb cx cy x1 x2 hbr hw5
      go_wp2_with fail
      go_roundw
      case rel => exact ⟨j + 1, by omega, by go_num, hb5⟩
      case measure => simp [intOf]; omega
    · have tj : decide ((j : Int) < 32) = false := by simp; omega
      clear hlt
      have hb_4 := hid (hb_3.out.trans (hbr.out.mono hb_3.out.size))
      have sa_4 := hid (sa_3.out.on hbr.out)
      have b0_4 := hid (b0_3.out.below hbr.out b0_3.out.lt)
      have b1_4 := hid (b1_3.out.below hbr.out b1_3.out.lt)
      have A_4 := hid (A_3.out.on hbr.out)
      have gx_4 := hid (gx_3.out.below hbr.out gx_3.out.lt)
      have gz_4 := hid (gz_3.out.below hbr.out gz_3.out.lt)
      have ga_4 := hid (ga_3.out.below hbr.out ga_3.out.lt)
      have gb_4 := hid (gbb.out.below hbr.out gbb.out.lt)
      clear hb_3 sa_3 b0_3 b1_3 A_3 gx_3 gz_3 ga_3 gbb
      clear hbr
      go_wp2_with ((with_reducible apply ldA tBox); rfl; exact ga_4.out)
      have hput := HC.out.put A l5 q cap (by omega) D G HDl.out HGl.out wr A_4.out
      rw [← HBD.out] at hput
      refine hput.mono ?_
      clear hput
      rintro e w5 ⟨v5, rfl, o5, h5⟩
      obtain ⟨LP, hLP⟩ : ∃ LP, LP = l5 ++ HmM.dl D ++ HmM.dl G := ⟨_, rfl⟩
      rw [← hLP] at o5
      have hl5 := A_4.out.len
      have hLd : LP.drop q = HmM.dl D ++ HmM.dl G := by rw [hLP, List.append_assoc, ← hl5, List.drop_left]
      have hLt : LP.take q = l5 := by rw [hLP, List.append_assoc, ← hl5, List.take_left]
      have hLl : LP.length = q + 64 := by rw [hLP, List.length_append, List.length_append, HmM.dl_length, HmM.dl_length, hl5]
      have hL2 : B256 LP := by
        rw [hLP]
        intro z hz
        rcases List.mem_append.1 hz with hz | hz
        · rcases List.mem_append.1 hz with hz | hz
          · exact A_4.out.b256 z hz
          · exact HmM.dl_256 HDl.out z hz
        · exact HmM.dl_256 HGl.out z hz
      obtain ⟨Ap, cp, rfl, ap⟩ := o5.arg hL2
      obtain ⟨Z, hZ⟩ : ∃ Z, Z = q + 64 := ⟨_, rfl⟩
      rw [hLl, ← hZ] at ap ⊢
      have AP := hid ap
      have HLD := hid hLd
      have HLT := hid hLt
      have HLL := hid hLl
      have HZ := hid hZ
      have HL5 := hid hl5
      have hcp : q ≤ cp := by have := ap.cap; omega
      have hcp2 : Z ≤ cp := ap.cap
      have hcpm : cp ≤ 9223372036854775807 := by have := ap.max; unfold maxLen at this; exact this
      have hZw : IntKind.i64.wrap ((q : Int) + 64) = (Z : Int) := by rw [hZ]; exact (IntWalk.i64_in _ (by omega)).trans (by omega)
      clear hLP o5 hL2 hLd hLt hLl hl5 ap hZ
      have hb_5 := hid (hb_4.out.trans (h5.mono hb_4.out.size))
      have sa_5 := hid (sa_4.out.on h5)
      have b0_5 := hid (b0_4.out.below h5 b0_4.out.lt)
      have b1_5 := hid (b1_4.out.below h5 b1_4.out.lt)
      have A_5 := hid (A_4.out.on h5)
      have gx_5 := hid (gx_4.out.below h5 gx_4.out.lt)
      have gz_5 := hid (gz_4.out.below h5 gz_4.out.lt)
      have ga_5 := hid (ga_4.out.below h5 ga_4.out.lt)
      have gb_5 := hid (gb_4.out.below h5 gb_4.out.lt)
      clear hb_4 sa_4 b0_4 b1_4 A_4 gx_4 gz_4 ga_4 gb_4
      clear h5
      go_upto_region 11 with fail
      obtain ⟨s5, hs5⟩ : ∃ s5, s5 = str l5 := ⟨_, rfl⟩
      have HS5 := hid hs5
      clear hs5
      have cvp := hid (show ∀ w', Below w5.heap.size w5 w' → (convert 39 9 (.slice Ap q cp)).run Tryd.prog w' = .ok (.string s5) w' from fun w' hw' => by
        have h := ((AP.out.on hw').upto q).str
        rw [HLT.out, Nat.min_eq_right (by have := HZ.out; omega)] at h
        rw [HS5.out]; exact h)
      have cva := hid (show ∀ w', Below w5.heap.size w5 w' → (convert 39 9 (.slice A q cap)).run Tryd.prog w' = .ok (.string s5) w' from fun w' hw' => by
        rw [HS5.out]; exact (A_5.out.on hw').str)
      refine wp_region_tail (C := fun w' => Below w5.heap.size w5 w') 16 (by kernel_rfl) (by kernel_rfl) (by kernel_rfl) (Below.refl _ _).drew ?_
      simp only [List.take_succ_cons, List.take_zero, List.drop_succ_cons, List.drop_zero]
      apply wpK_val
      · rfl
      · intro w' hw'
        go_simp
        first | exact rfl | exact ⟨rfl, hw'⟩
      simp only [Act.put, List.setIfInBounds_toArray, List.set_cons_succ, List.set_cons_zero]
      apply wpK_val
      · rfl
      · intro w' hw'
        go_simp
        first | exact rfl | exact ⟨rfl, hw'⟩
      simp only [Act.put, List.setIfInBounds_toArray, List.set_cons_succ, List.set_cons_zero]
      apply wpK_val
      · rfl
      · intro w' hw'
        go_simp
        first | exact rfl | exact ⟨rfl, hw'⟩
      simp only [Act.put, List.setIfInBounds_toArray, List.set_cons_succ, List.set_cons_zero]
      apply wpK_val
      · rfl
      · intro w' hw'
        go_simp
        first | exact rfl | exact ⟨rfl, hw'⟩
      simp only [Act.put, List.setIfInBounds_toArray, List.set_cons_succ, List.set_cons_zero]
      apply wpK_val
      · rfl
      · intro w' hw'
        have h1 : IntKind.i64.wrap ((q : Int) + 64) = (Z : Int) := hZw
        go_simp
        first | exact rfl | exact ⟨rfl, hw'⟩
      simp only [Act.put, List.setIfInBounds_toArray, List.set_cons_succ, List.set_cons_zero]
      apply wpK_val
      · rfl
      · intro w' hw'
        go_simp
        first | exact rfl | exact ⟨rfl, hw'⟩
      simp only [Act.put, List.setIfInBounds_toArray, List.set_cons_succ, List.set_cons_zero]
      apply wpK_val
      · rfl
      · intro w' hw'
        go_simp
        first | exact rfl | exact ⟨rfl, hw'⟩
      simp only [Act.put, List.setIfInBounds_toArray, List.set_cons_succ, List.set_cons_zero]
      apply wpK_val
      · rfl
      · intro w' hw'
        go_simp
        first | exact rfl | exact ⟨rfl, hw'⟩
      simp only [Act.put, List.setIfInBounds_toArray, List.set_cons_succ, List.set_cons_zero]
      apply wpK_val
      · rfl
      · intro w' hw'
        go_simp
        first | exact rfl | exact ⟨rfl, hw'⟩
      simp only [Act.put, List.setIfInBounds_toArray, List.set_cons_succ, List.set_cons_zero]
      apply wpK_val
      · rfl
      · intro w' hw'
        go_simp
        first | exact rfl | exact ⟨rfl, hw'⟩
      simp only [Act.put, List.setIfInBounds_toArray, List.set_cons_succ, List.set_cons_zero]
      apply wpK_val
      · rfl
      · intro w' hw'
        go_simp
        first | exact rfl | exact ⟨rfl, hw'⟩
      simp only [Act.put, List.setIfInBounds_toArray, List.set_cons_succ, List.set_cons_zero]
      apply wpK_val
      · rfl
      · intro w' hw'
        have h1 : _ := cvp.out w' hw'
        go_simp
        first | exact rfl | exact ⟨rfl, hw'⟩
      simp only [Act.put, List.setIfInBounds_toArray, List.set_cons_succ, List.set_cons_zero]
      apply wpK_val
      · rfl
      · intro w' hw'
        go_simp
        first | exact rfl | exact ⟨rfl, hw'⟩
      simp only [Act.put, List.setIfInBounds_toArray, List.set_cons_succ, List.set_cons_zero]
      apply wpK_val
      · rfl
      · intro w' hw'
        have h1 : _ := cva.out w' hw'
        go_simp
        first | exact rfl | exact ⟨rfl, hw'⟩
      simp only [Act.put, List.setIfInBounds_toArray, List.set_cons_succ, List.set_cons_zero]
      apply wpK_val
      · rfl
      · intro w' hw'
        go_simp
        first | exact rfl | exact ⟨rfl, hw'⟩
      simp only [Act.put, List.setIfInBounds_toArray, List.set_cons_succ, List.set_cons_zero]
      apply wpK_val
      · rfl
      · intro w' hw'
        go_simp
        first | exact rfl | exact ⟨rfl, hw'⟩
      simp only [Act.put, List.setIfInBounds_toArray, List.set_cons_succ, List.set_cons_zero]
      refine wpK_nil fun w6 hw6 => ?_
      clear cvp cva
      have hb_6 := hid (hb_5.out.trans (hw6.mono hb_5.out.size))
      have sa_6 := hid (sa_5.out.on hw6)
      have b0_6 := hid (b0_5.out.below hw6 b0_5.out.lt)
      have b1_6 := hid (b1_5.out.below hw6 b1_5.out.lt)
      have A_6 := hid (A_5.out.on hw6)
      have gx_6 := hid (gx_5.out.below hw6 gx_5.out.lt)
      have gz_6 := hid (gz_5.out.below hw6 gz_5.out.lt)
      have ga_6 := hid (ga_5.out.below hw6 ga_5.out.lt)
      have gb_6 := hid (gb_5.out.below hw6 gb_5.out.lt)
      have P_6 := hid (AP.out.on hw6)
      clear hb_5 sa_5 b0_5 b1_5 A_5 gx_5 gz_5 ga_5 gb_5 AP
      clear hw6
      go_upto_region 13 with fail
      have HM := hid (show B256 ([] ++ LP.drop q ++ l5) by
        rw [List.nil_append]
        intro z hz
        rcases List.mem_append.1 hz with hz | hz
        · exact P_6.out.b256 z (List.mem_of_mem_drop hz)
        · exact A_6.out.b256 z hz)
      have HML := hid (show ([] ++ LP.drop q ++ l5).length = Z by rw [List.nil_append, List.length_append, List.length_drop, HLL.out, HL5.out, HZ.out]; omega)
      have OE : Hid (Own 5 .u8 (w6.alloc (.cells #[] 5)) w6.heap.size (.slice (some ⟨w6.heap.size, 0, none⟩) 0 0) []) := hid (Own.empty w6 (Nat.le_refl _))
      have BE := hid ((Below.refl w6.heap.size w6).alloc (Nat.le_refl _) (.cells #[] 5))
      have PE := hid (P_6.out.on BE.out)
      have HQ2 := hid (show q ≤ Z by rw [HZ.out]; omega)
      have HQ3 := hid (show ([] : List Nat).length + (Z - q) ≤ 1000000 by rw [HZ.out, List.length_nil]; omega)
      have HQ4 := hid (show ([] ++ LP.drop q).length + q ≤ 1000000 by rw [List.nil_append, List.length_drop, HLL.out]; omega)
      go_wp2_with (first
        | ((with_reducible apply wslt); rfl; rfl; exact PE.out; exact HQ2.out; intro A8 ha8)
        | (at_builtin; (with_reducible apply wappN_any eltB); rfl; rfl; exact ha8.none; exact OE.out; exact ha8.byt.nums; exact ha8.len; exact HQ3.out; (simp); intro v2 w7 o2 g2; have M2 := below_grown BE.out g2 OE.out (Nat.le_refl _) (Nat.le_refl _))
        | (at_builtin; (with_reducible apply wappN_any eltB); rfl; rfl; exact A_6.out.none; exact o2; exact (A_6.out.on M2).byt.nums; exact A_6.out.len; exact HQ4.out; exact M2.size; intro v3 w8 o3 g3; obtain ⟨A9, c9, e9, a9⟩ := o3.arg HM.out; rw [HML.out] at e9 a9; subst e9))
      have h8 := below_grown M2 g3 o2 (Nat.le_refl _) (Nat.le_refl _)
      have A9g := hid a9
      clear OE BE PE o2 g2 M2 g3 o3 ha8 a9
      have hb_7 := hid (hb_6.out.trans (h8.mono hb_6.out.size))
      have sa_7 := hid (sa_6.out.on h8)
      have b0_7 := hid (b0_6.out.below h8 b0_6.out.lt)
      have b1_7 := hid (b1_6.out.below h8 b1_6.out.lt)
      have A_7 := hid (A_6.out.on h8)
      have gx_7 := hid (gx_6.out.below h8 gx_6.out.lt)
      have gz_7 := hid (gz_6.out.below h8 gz_6.out.lt)
      have ga_7 := hid (ga_6.out.below h8 ga_6.out.lt)
      have gb_7 := hid (gb_6.out.below h8 gb_6.out.lt)
      have P_7 := hid (P_6.out.on h8)
      clear hb_6 sa_6 b0_6 b1_6 A_6 gx_6 gz_6 ga_6 gb_6 P_6
      clear h8
      refine (HC.out.get A9 ([] ++ LP.drop q ++ l5) Z c9 (by have := HZ.out; omega) (by have := HZ.out; omega) w8 A9g.out).mono ?_
      rintro e w9 ⟨v9, rfl, o9, h9⟩
      have hMd : ([] ++ LP.drop q ++ l5).drop 64 = l5 := by
        rw [List.nil_append, HLD.out, show (64 : Nat) = (HmM.dl D ++ HmM.dl G).length by rw [List.length_append, HmM.dl_length, HmM.dl_length], List.drop_left]
      have hMY : ar 64 (fun j => ([] ++ LP.drop q ++ l5).getD j 0) = ar 64 BX := ar_ext fun j hj => by
        rw [List.nil_append, HLD.out, HBD.out]
        unfold duo
        by_cases h32 : j < 32
        · rw [if_pos h32, List.getD_eq_getElem?_getD, List.append_assoc, List.getElem?_append_left (by rw [HmM.dl_length]; exact h32), ← List.getD_eq_getElem?_getD, HmM.dl_get _ h32]
        · rw [if_neg h32, List.getD_eq_getElem?_getD, List.append_assoc, List.getElem?_append_right (by rw [HmM.dl_length]; omega), HmM.dl_length, List.getElem?_append_left (by rw [HmM.dl_length]; omega), ← List.getD_eq_getElem?_getD, HmM.dl_get _ (by omega)]
      rw [hMd] at o9
      rw [hMY]
      obtain ⟨AR, cR, rfl, aR⟩ := o9.arg A_7.out.b256
      rw [HL5.out] at aR ⊢
      have ARg := hid aR
      clear o9 aR hMd hMY A9g HM HML
      have hb_8 := hid (hb_7.out.trans (h9.mono hb_7.out.size))
      have sa_8 := hid (sa_7.out.on h9)
      have b0_8 := hid (b0_7.out.below h9 b0_7.out.lt)
      have b1_8 := hid (b1_7.out.below h9 b1_7.out.lt)
      have A_8 := hid (A_7.out.on h9)
      have gx_8 := hid (gx_7.out.below h9 gx_7.out.lt)
      have gz_8 := hid (gz_7.out.below h9 gz_7.out.lt)
      have ga_8 := hid (ga_7.out.below h9 ga_7.out.lt)
      have gb_8 := hid (gb_7.out.below h9 gb_7.out.lt)
      have P_8 := hid (P_7.out.on h9)
      clear hb_7 sa_7 b0_7 b1_7 A_7 gx_7 gz_7 ga_7 gb_7 P_7
      clear h9
      have hz9 : Blk (w9.alloc (.cells (ar 64 fun _ => 0) 29)) w9.heap.size 29 (ar 64 fun _ => 0) := Blk.new _ _ _
      obtain ⟨gy, hgy⟩ : ∃ gy, gy = w9.heap.size := ⟨_, rfl⟩
      go_upto_region 14 with (first | (with_reducible apply alA tBox) | ((with_reducible apply stA tBox); rfl; rfl; exact hz9))
      rw [← hgy] at hz9 ⊢
      have hbe := hid (show Below w9.heap.size w9 ((w9.alloc (.cells (ar 64 fun _ => 0) 29)).setRow gy (ar 64 BX)) from below_setRow ((Below.refl _ _).alloc (Nat.le_refl _) _) (by omega) _)
      have qy := hid (hz9.setRow_same (ar 64 BX))
      generalize (w9.alloc (.cells (ar 64 fun _ => 0) 29)).setRow gy (ar 64 BX) = w10 at hbe qy ⊢
      clear hz9 hgy
      have hb_9 := hid (hb_8.out.trans (hbe.out.mono hb_8.out.size))
      have sa_9 := hid (sa_8.out.on hbe.out)
      have b0_9 := hid (b0_8.out.below hbe.out b0_8.out.lt)
      have b1_9 := hid (b1_8.out.below hbe.out b1_8.out.lt)
      have A_9 := hid (A_8.out.on hbe.out)
      have gx_9 := hid (gx_8.out.below hbe.out gx_8.out.lt)
      have gz_9 := hid (gz_8.out.below hbe.out gz_8.out.lt)
      have ga_9 := hid (ga_8.out.below hbe.out ga_8.out.lt)
      have gb_9 := hid (gb_8.out.below hbe.out gb_8.out.lt)
      have P_9 := hid (P_8.out.on hbe.out)
      have R_9 := hid (ARg.out.on hbe.out)
      clear hb_8 sa_8 b0_8 b1_8 A_8 gx_8 gz_8 ga_8 gb_8 P_8 ARg
      clear hbe
      have HUW := hid (show ∀ w', Salts w' → Calls Tryd.prog 11 #[.agg (ar 32 k), .string (cut100 s), .int .u64 n, .agg (ar 64 BX)] w' fun e w'' => e = .returned (.tuple #[.agg (ar 32 x), .int .i64 0]) ∧ Below w'.heap.size w' w'' from fun w' hs => by
        have h := HC.out.unwrap k D G HK.out HDl.out HGl.out (cut100 s) HL.out n HN.out true HT.out w' hs
        rw [← HBD.out, if_pos rfl, if_pos rfl, HXB.out] at h
        exact h)
      refine wp_region_newst (C := fun w' => Below w10.heap.size w10 w') 11 23 (ar 32 fun _ => 0) (ar 32 x) 16 rfl rfl (by kernel_rfl) (by kernel_rfl) (by kernel_rfl) (by kernel_rfl) (run_alloc_ar tK) (fun _ _ hb => run_st_ar tK hb x) (Below.refl _ _).drew (fun w' hw' => hw'.alloc hw'.size _) (fun w' hw' => hw'.size) (fun w' g hw' hg => below_setRow hw' hg _) ?_
      simp only [List.take_succ_cons, List.take_zero, List.drop_succ_cons, List.drop_zero]
      apply wpB_val
      · rfl
      · intro w' hw'
        have hbl := Below.refl w'.heap.size w'
        go_simp
        first | exact rfl | exact ⟨rfl, hbl⟩ | exact ⟨rfl, hw', hbl⟩
      simp only [Act.put, List.setIfInBounds_toArray, List.set_cons_succ, List.set_cons_zero]
      apply bldA tK
      · rfl
      · rfl
      · exact fun w' hw' => by_key (b0_9.out.below hw' b0_9.out.lt)
      simp only [Act.put, List.setIfInBounds_toArray, List.set_cons_succ, List.set_cons_zero]
      apply bldR (tBy' k s n)
      · rfl
      · rfl
      · exact fun w' hw' => (b0_9.out.below hw' b0_9.out.lt).whole
      simp only [Act.put, List.setIfInBounds_toArray, List.set_cons_succ, List.set_cons_zero]
      apply wpB_val
      · rfl
      · intro w' hw'
        go_simp
        exact (label_any k s n w').mono fun e w2 h => ⟨h.1, hw'.trans (h.2.mono hw'.size), h.2⟩
      simp only [Act.put, List.setIfInBounds_toArray, List.set_cons_succ, List.set_cons_zero]
      apply wpB_val
      · rfl
      · intro w' hw'
        have hbl := Below.refl w'.heap.size w'
        go_simp
        first | exact rfl | exact ⟨rfl, hbl⟩ | exact ⟨rfl, hw', hbl⟩
      simp only [Act.put, List.setIfInBounds_toArray, List.set_cons_succ, List.set_cons_zero]
      apply wpB_val
      · rfl
      · intro w' hw'
        have hbl := Below.refl w'.heap.size w'
        have h1 : w'.cell? ⟨W.heap.size, 33, none⟩ = some (.int .u64 n) := by_num (b0_9.out.below hw' b0_9.out.lt)
        go_simp
        first | exact rfl | exact ⟨rfl, hbl⟩ | exact ⟨rfl, hw', hbl⟩
      simp only [Act.put, List.setIfInBounds_toArray, List.set_cons_succ, List.set_cons_zero]
      apply bldA tBox
      · rfl
      · rfl
      · exact fun w' hw' => (qy.out.below hw' qy.out.lt).head
      simp only [Act.put, List.setIfInBounds_toArray, List.set_cons_succ, List.set_cons_zero]
      apply wpB_val
      · rfl
      · intro w' hw'
        go_simp
        exact (HUW.out w' (sa_9.out.on hw')).mono fun e w2 h => ⟨h.1, hw'.trans (h.2.mono hw'.size), h.2⟩
      simp only [Act.put, List.setIfInBounds_toArray, List.set_cons_succ, List.set_cons_zero]
      apply wpB_val
      · rfl
      · intro w' hw'
        have hbl := Below.refl w'.heap.size w'
        go_simp
        first | exact rfl | exact ⟨rfl, hbl⟩ | exact ⟨rfl, hw', hbl⟩
      simp only [Act.put, List.setIfInBounds_toArray, List.set_cons_succ, List.set_cons_zero]
      apply wpB_val
      · rfl
      · intro w' hw'
        have hbl := Below.refl w'.heap.size w'
        go_simp
        first | exact rfl | exact ⟨rfl, hbl⟩ | exact ⟨rfl, hw', hbl⟩
      simp only [Act.put, List.setIfInBounds_toArray, List.set_cons_succ, List.set_cons_zero]
      apply wpB_val
      · rfl
      · intro w' hw'
        have hbl := Below.refl w'.heap.size w'
        go_simp
        first | exact rfl | exact ⟨rfl, hbl⟩ | exact ⟨rfl, hw', hbl⟩
      simp only [Act.put, List.setIfInBounds_toArray, List.set_cons_succ, List.set_cons_zero]
      refine wpB_nil ⟨fun _ => ⟨rfl, rfl⟩, fun gk w11 hw2 qp hgp => ?_⟩
      unfold ptr
      go_upto_region 15 with fail
      have qn := hid qp
      clear qp hgp
      have hb_10 := hid (hb_9.out.trans (hw2.mono hb_9.out.size))
      have sa_10 := hid (sa_9.out.on hw2)
      have b0_10 := hid (b0_9.out.below hw2 b0_9.out.lt)
      have b1_10 := hid (b1_9.out.below hw2 b1_9.out.lt)
      have A_10 := hid (A_9.out.on hw2)
      have gx_10 := hid (gx_9.out.below hw2 gx_9.out.lt)
      have gz_10 := hid (gz_9.out.below hw2 gz_9.out.lt)
      have ga_10 := hid (ga_9.out.below hw2 ga_9.out.lt)
      have gb_10 := hid (gb_9.out.below hw2 gb_9.out.lt)
      have P_10 := hid (P_9.out.on hw2)
      have R_10 := hid (R_9.out.on hw2)
      have gy_10 := hid (qy.out.below hw2 qy.out.lt)
      clear hb_9 sa_9 b0_9 b1_9 A_9 gx_9 gz_9 ga_9 gb_9 P_9 R_9 qy
      clear hw2
      have gkb := qn
      clear qn
      refine wp_region_fixed (C := fun w' => Below w11.heap.size w11 w') 26 (Below.refl _ _) ?_
      simp only [List.take_succ_cons, List.take_zero, List.drop_succ_cons, List.drop_zero]
      apply wpK_val
      · rfl
      · intro w' hw'
        go_simp
        first | exact rfl | exact ⟨rfl, hw'⟩
      simp only [Act.put, List.setIfInBounds_toArray, List.set_cons_succ, List.set_cons_zero]
      apply wpK_val
      · rfl
      · intro w' hw'
        go_simp
        first | exact rfl | exact ⟨rfl, hw'⟩
      simp only [Act.put, List.setIfInBounds_toArray, List.set_cons_succ, List.set_cons_zero]
      apply wpK_val
      · rfl
      · intro w' hw'
        go_simp
        first | exact rfl | exact ⟨rfl, hw'⟩
      simp only [Act.put, List.setIfInBounds_toArray, List.set_cons_succ, List.set_cons_zero]
      apply wpK_val
      · rfl
      · intro w' hw'
        go_simp
        first | exact rfl | exact ⟨rfl, hw'⟩
      simp only [Act.put, List.setIfInBounds_toArray, List.set_cons_succ, List.set_cons_zero]
      apply wpK_val
      · rfl
      · intro w' hw'
        go_simp
        first | exact rfl | exact ⟨rfl, hw'⟩
      simp only [Act.put, List.setIfInBounds_toArray, List.set_cons_succ, List.set_cons_zero]
      apply wpK_val
      · rfl
      · intro w' hw'
        go_simp
        first | exact rfl | exact ⟨rfl, hw'⟩
      simp only [Act.put, List.setIfInBounds_toArray, List.set_cons_succ, List.set_cons_zero]
      apply wpK_val
      · rfl
      · intro w' hw'
        go_simp
        first | exact rfl | exact ⟨rfl, hw'⟩
      simp only [Act.put, List.setIfInBounds_toArray, List.set_cons_succ, List.set_cons_zero]
      apply kldA tBox
      · rfl
      · rfl
      · exact fun w' hw' => (gy_10.out.below hw' gy_10.out.lt).head
      simp only [Act.put, List.setIfInBounds_toArray, List.set_cons_succ, List.set_cons_zero]
      apply kldA tBox
      · rfl
      · rfl
      · exact fun w' hw' => (ga_10.out.below hw' ga_10.out.lt).head
      simp only [Act.put, List.setIfInBounds_toArray, List.set_cons_succ, List.set_cons_zero]
      apply keqBox
      · rfl
      · rfl
      · rfl
      · exact fun _ _ => rfl
      simp only [Act.put, List.setIfInBounds_toArray, List.set_cons_succ, List.set_cons_zero]
      apply wpK_val
      · rfl
      · intro w' hw'
        go_simp
        first | exact rfl | exact ⟨rfl, hw'⟩
      simp only [Act.put, List.setIfInBounds_toArray, List.set_cons_succ, List.set_cons_zero]
      apply wpK_val
      · rfl
      · intro w' hw'
        go_simp
        first | exact rfl | exact ⟨rfl, hw'⟩
      simp only [Act.put, List.setIfInBounds_toArray, List.set_cons_succ, List.set_cons_zero]
      apply kldA tK
      · rfl
      · rfl
      · exact fun w' hw' => (gkb.out.below hw' gkb.out.lt).head
      simp only [Act.put, List.setIfInBounds_toArray, List.set_cons_succ, List.set_cons_zero]
      apply kldA tK
      · rfl
      · rfl
      · exact fun w' hw' => (gx_10.out.below hw' gx_10.out.lt).head
      simp only [Act.put, List.setIfInBounds_toArray, List.set_cons_succ, List.set_cons_zero]
      apply keqU true uK eqg_key
      · rfl
      · rfl
      · rfl
      · exact eqA_yes fun _ _ => rfl
      simp only [Act.put, List.setIfInBounds_toArray, List.set_cons_succ, List.set_cons_zero]
      apply wpK_val
      · rfl
      · intro w' hw'
        go_simp
        first | exact rfl | exact ⟨rfl, hw'⟩
      simp only [Act.put, List.setIfInBounds_toArray, List.set_cons_succ, List.set_cons_zero]
      apply wpK_val
      · rfl
      · intro w' hw'
        go_simp
        first | exact rfl | exact ⟨rfl, hw'⟩
      simp only [Act.put, List.setIfInBounds_toArray, List.set_cons_succ, List.set_cons_zero]
      apply wpK_val
      · rfl
      · intro w' hw'
        go_simp
        first | exact rfl | exact ⟨rfl, hw'⟩
      simp only [Act.put, List.setIfInBounds_toArray, List.set_cons_succ, List.set_cons_zero]
      apply wpK_val
      · rfl
      · intro w' hw'
        have h1 : (convert 39 9 (.slice AR q cR)).run Tryd.prog w' = .ok (.string s5) w' := by rw [HS5.out]; exact ((R_10.out.on hw')).str
        go_simp
        first | exact rfl | exact ⟨rfl, hw'⟩
      simp only [Act.put, List.setIfInBounds_toArray, List.set_cons_succ, List.set_cons_zero]
      apply wpK_val
      · rfl
      · intro w' hw'
        go_simp
        first | exact rfl | exact ⟨rfl, hw'⟩
      simp only [Act.put, List.setIfInBounds_toArray, List.set_cons_succ, List.set_cons_zero]
      apply wpK_val
      · rfl
      · intro w' hw'
        have h1 : (convert 39 9 (.slice A q cap)).run Tryd.prog w' = .ok (.string s5) w' := by rw [HS5.out]; exact ((A_10.out.on hw')).str
        go_simp
        first | exact rfl | exact ⟨rfl, hw'⟩
      simp only [Act.put, List.setIfInBounds_toArray, List.set_cons_succ, List.set_cons_zero]
      apply wpK_val
      · rfl
      · intro w' hw'
        go_simp
        first | exact rfl | exact ⟨rfl, hw'⟩
      simp only [Act.put, List.setIfInBounds_toArray, List.set_cons_succ, List.set_cons_zero]
      apply wpK_val
      · rfl
      · intro w' hw'
        go_simp
        first | exact rfl | exact ⟨rfl, hw'⟩
      simp only [Act.put, List.setIfInBounds_toArray, List.set_cons_succ, List.set_cons_zero]
      apply wpK_val
      · rfl
      · intro w' hw'
        go_simp
        first | exact rfl | exact ⟨rfl, hw'⟩
      simp only [Act.put, List.setIfInBounds_toArray, List.set_cons_succ, List.set_cons_zero]
      apply wpK_val
      · rfl
      · intro w' hw'
        go_simp
        exact (works_any HC.out w' (sa_10.out.on hw')).mono fun e w2 h => ⟨h.1, hw'.trans (h.2.mono hw'.size)⟩
      simp only [Act.put, List.setIfInBounds_toArray, List.set_cons_succ, List.set_cons_zero]
      apply wpK_val
      · rfl
      · intro w' hw'
        go_simp
        first | exact rfl | exact ⟨rfl, hw'⟩
      simp only [Act.put, List.setIfInBounds_toArray, List.set_cons_succ, List.set_cons_zero]
      refine wpK_nil fun w12 hw12 => ?_
      have hb_11 := hid (hb_10.out.trans (hw12.mono hb_10.out.size))
      have sa_11 := hid (sa_10.out.on hw12)
      have b0_11 := hid (b0_10.out.below hw12 b0_10.out.lt)
      have b1_11 := hid (b1_10.out.below hw12 b1_10.out.lt)
      have A_11 := hid (A_10.out.on hw12)
      have gx_11 := hid (gx_10.out.below hw12 gx_10.out.lt)
      have gz_11 := hid (gz_10.out.below hw12 gz_10.out.lt)
      have ga_11 := hid (ga_10.out.below hw12 ga_10.out.lt)
      have gb_11 := hid (gb_10.out.below hw12 gb_10.out.lt)
      have P_11 := hid (P_10.out.on hw12)
      have R_11 := hid (R_10.out.on hw12)
      have gy_11 := hid (gy_10.out.below hw12 gy_10.out.lt)
      have gk_11 := hid (gkb.out.below hw12 gkb.out.lt)
      clear hb_10 sa_10 b0_10 b1_10 A_10 gx_10 gz_10 ga_10 gb_10 P_10 R_10 gy_10 gkb
      clear hw12
      have rb := hid hb_11.out
      clear hb_11 sa_11 b0_11 b1_11 A_11 gx_11 gz_11 ga_11 gb_11 P_11 R_11 gy_11 gk_11
      go_wp2_with fail
      go_ret
      exact ⟨rfl, rb.out⟩
end BxP
end Go.Proofs.YtdfoehcdabmagaaDoor
