/-
  The struct sha.Prefix as a value and in memory; contracts of sha.start, More over this translation.
-/
import Derived.Test.YtcpoccahneppiaaDoorShaFinish
namespace Go.Proofs.YtcpoccahneppiaaDoor
open Go.ChangeShapes Go.WideShapes Go.ChangeAt Go.RowKit
attribute [local go_sem] Gives
/-- A prefix: eight numbers, how many bytes, is it one. -/
def pre (f : Nat → Nat) (m : Nat) (b : Bool) : Array Value := row 10 fun j => if j < 8 then .int .u32 (f j : Nat) else if j = 8 then .int .i64 m else .bool b
theorem size_pre {f : Nat → Nat} {m : Nat} {b : Bool} : (pre f m b).size = 10 := size_row
theorem pre_one {f : Nat → Nat} {m : Nat} {b : Bool} : (pre f m b).all (·.oneCell') = true := row_one fun k _ => by
  by_cases h : k < 8
  · simp only [h, if_true]; rfl
  · simp only [h, if_false]
    by_cases h2 : k = 8
    · simp only [h2, if_true]; rfl
    · simp only [h2, if_false]; rfl
theorem info_pre : (Tryd.prog.info? 29).map (·.size) = some 10 := by kernel_rfl
theorem built_pre (f : Nat → Nat) : Tryd.prog.built 29 [(0, .agg (num8 f)), (2, .bool true)] = some (pre f 0 true) := by kernel_rfl
theorem built_pre3 (f : Nat → Nat) (m : Nat) : Tryd.prog.built 29 [(0, .agg (num8 f)), (1, .int .i64 m), (2, .bool true)] = some (pre f m true) := by kernel_rfl
theorem built_pre0 : Tryd.prog.built 29 [] = some (pre (fun _ => 0) 0 false) := by kernel_rfl
theorem zlit_pre : (#[.int .u32 0, .int .u32 0, .int .u32 0, .int .u32 0, .int .u32 0, .int .u32 0, .int .u32 0, .int .u32 0, .int .i64 0, .bool false] : Array Value) = pre (fun _ => 0) 0 false := by rfl
section
variable {ops : Array Oper} {Q : Exit → Act → World → Prop} {a : Act} {w : World} {rest : List Oper} {dst : Option Tmp} {ty : TypeId} {pos : String} {after : Array Edge} {x y : Operand} {g m m0 : Nat} {f f0 : Nat → Nat} {b b0 : Bool}
theorem ldp (hx : a.eval x = .pointer (some ⟨g, 0, none⟩)) (hb : Blk w g 29 (pre f m b)) (h : wpList Tryd.prog ops Q rest (a.put dst (.agg (pre f m b))) w) :
    wpList Tryd.prog ops Q (⟨dst, .load 29 x, ty, pos, after, none⟩ :: rest) a w :=
  step_load_row hb Tryd.underlying29 rfl (info_pre.trans (by rw [size_pre])) hx h
theorem stp (hx : a.eval x = .pointer (some ⟨g, 0, none⟩)) (hy : a.eval y = .agg (pre f m b)) (hb : Blk w g 29 (pre f0 m0 b0)) (h : wpList Tryd.prog ops Q rest (a.put dst undef) (w.setRow g (pre f m b))) :
    wpList Tryd.prog ops Q (⟨dst, .store 29 x y, ty, pos, after, none⟩ :: rest) a w :=
  step_store_row hb (info_pre.trans (by rw [size_pre])) (by rw [size_pre, size_pre]) pre_one hx hy h
theorem bldp (hy : a.eval x = .agg (num8 f)) (h : wpList Tryd.prog ops Q rest (a.put dst (.agg (pre f 0 true))) w) :
    wpList Tryd.prog ops Q (⟨dst, .build 29 #[(0, x), (2, .const (.bool true))], ty, pos, after, none⟩ :: rest) a w := by
  refine wpList_plain rfl fun K hK => ?_
  have hr := run_build (P := Tryd.prog) w 29 #[(0, a.eval x), (2, .bool true)] _ (by rw [hy]; exact built_pre f)
  have he : a.eval (.const (.bool true)) = .bool true := rfl
  unfold Oper.wp
  simp [execOp, he, hr, Result.andThen]
  exact hK _ _ h
theorem klnm {C : World → Prop} {Qk : Act → Prop} {gd : Option (Nat × Bool)} {o : Nat} (hwt : Region.wanted ⟨dst, .load 27 x, ty, pos, after, gd⟩ (yielded ops a.tmps) = true) (hx : a.eval x = .pointer (some ⟨g, o, none⟩)) (hb : ∀ w, C w → w.rangeAt g o (num8 f).toList) (h : wpK Tryd.prog ops C Qk rest (a.put dst (.agg (num8 f)))) :
    wpK Tryd.prog ops C Qk (⟨dst, .load 27 x, ty, pos, after, gd⟩ :: rest) a :=
  wpK_val hwt (fun w hw => gives_value (w' := w) (by
    have := run_loadAt_mid (P := Tryd.prog) w g o 27 (num8 f).toList _ (hb w hw) Tryd.underlying27 rfl (info_num8.trans (by rw [Array.length_toList, size_num8]))
    rw [Array.toArray_toList] at this
    simp only [execOp, hx, Sem.run_bind, this, Result.andThen_ok, Sem.run_pure]) hw) h
theorem bldp3 {C : World → Prop} {Qk : Act → Prop} {gd : Option (Nat × Bool)} {c : Operand} (hwt : Region.wanted ⟨dst, .build 29 #[(0, x), (1, y), (2, c)], ty, pos, after, gd⟩ (yielded ops a.tmps) = true) (hx : a.eval x = .agg (num8 f)) (hy : a.eval y = .int .i64 m) (hc : a.eval c = .bool true)
    (h : wpK Tryd.prog ops C Qk rest (a.put dst (.agg (pre f m true)))) : wpK Tryd.prog ops C Qk (⟨dst, .build 29 #[(0, x), (1, y), (2, c)], ty, pos, after, gd⟩ :: rest) a :=
  wpK_val hwt (fun w hw => by
    have hr := run_build (P := Tryd.prog) w 29 #[(0, a.eval x), (1, a.eval y), (2, a.eval c)] _ (by rw [hx, hy, hc]; exact built_pre3 f m)
    refine gives_value (w' := w) ?_ hw
    simp [execOp, hr, Result.andThen]) h
theorem bldp0 (h : wpList Tryd.prog ops Q rest (a.put dst (.agg (pre (fun _ => 0) 0 false))) w) :
    wpList Tryd.prog ops Q (⟨dst, .build 29 #[], ty, pos, after, none⟩ :: rest) a w := by
  refine wpList_plain rfl fun K hK => ?_
  have hr := run_build (P := Tryd.prog) w 29 #[] _ built_pre0
  unfold Oper.wp
  simp [execOp, hr, Result.andThen]
  exact hK _ _ h
end
set_option maxHeartbeats 400000 in
set_option maxRecDepth 100000 in
theorem start_any (w : World) :
    Calls Tryd.prog 23 #[] w fun e w' => e = .returned (.agg (pre ShaM.seeds.get 0 true)) ∧ Below w.heap.size w w' := by
  go_enter Tryd.func23, Tryd.ntmps23
  go_upto_region 1 with fail
  generalize hw3 : World.alloc w _ = w3
  have b1 : Blk w3 w.heap.size 29 (pre (fun _ => 0) 0 false) := by rw [← hw3]; exact Blk.top zlit_pre rfl
  have hb : Below w.heap.size w w3 := by rw [← hw3]; exact (Below.refl _ _).alloc (Nat.le_refl _) _
  have hz := b1.lt
  clear hw3
  go_upto_region 2 with fail
  generalize hw4 : World.alloc w3 _ = w4
  have c2 : Blk w4 w3.heap.size 27 (num8 ShaM.seeds.get) := by rw [← hw4]; exact Blk.top (by rfl) rfl
  have c1 : Blk w4 w.heap.size 29 (pre (fun _ => 0) 0 false) := by rw [← hw4]; exact b1.alloc _
  have cb : Below w.heap.size w w4 := by rw [← hw4]; exact hb.alloc (by omega) _
  clear hw4 b1 hb
  go_wp2_with (first | ((with_reducible apply ldn); rfl; exact c2) | ((with_reducible apply bldp); rfl) | ((with_reducible apply stp); rfl; rfl; exact c1))
  apply ret_row Tryd.results23
  · exact c1.setRow_same _
  · exact Tryd.underlying29
  · rfl
  · exact (info_pre.trans (by rw [size_pre]))
  · rfl
  · rfl
  exact ⟨rfl, below_setRow cb (Nat.le_refl _) _⟩
section
variable {a : Act} {w : World} {g m : Nat} {f : Nat → Nat} {b : Bool}
theorem run_pre_var {t : TypeId} (hb : Blk w g t (pre f m b)) : (loadVar 29 ⟨g, 0, none⟩).run Tryd.prog w = .ok (.agg (pre f m b)) w :=
  run_loadVar_row w g t 29 (pre f m b) (0, 0) _ hb Tryd.underlying29 rfl (info_pre.trans (by rw [size_pre]))
theorem ret_pre2 {fn : Func} {R : Ending → World → Prop} {p t : Tmp} {v : Value} (hr : fn.results = #[.cell p 29, .tmp t]) (hp : a.tmps.getD p undef = .pointer (some ⟨g, 0, none⟩)) (ht : a.tmps.getD t undef = v)
    (hdf : a.defers = []) (hb : Blk w g 29 (pre f m b)) (hR : R (.returned (.tuple #[.agg (pre f m b), v])) w) : bodyPost Tryd.prog fn R .ret a w := by
  refine bodyPost_ret ?_ hdf hR
  have hp' : a.tmps[p]?.getD undef = .pointer (some ⟨g, 0, none⟩) := by simpa using hp
  have ht' : a.tmps[t]?.getD undef = v := by simpa using ht
  simp [results, hr, hp', ht', asAddr, run_pre_var hb]
theorem Blk.pre8 {t : TypeId} (hb : Blk w g t (pre f m b)) : w.cell? ⟨g, 8, none⟩ = some (.int .i64 m) := by
  rw [hb.cell]; unfold pre; rw [get_row_lt (by omega), if_neg (by omega), if_pos rfl]
theorem Blk.pre9 {t : TypeId} (hb : Blk w g t (pre f m b)) : w.cell? ⟨g, 9, none⟩ = some (.bool b) := by
  rw [hb.cell]; unfold pre; rw [get_row_lt (by omega), if_neg (by omega), if_neg (by omega)]
theorem Blk.pre0 {t : TypeId} (hb : Blk w g t (pre f m b)) : w.rangeAt g 0 (num8 f).toList := fun j v hj => by
  have hj8 : j < 8 := by have := (List.getElem?_eq_some_iff.1 hj).1; rwa [Array.length_toList, size_num8] at this
  rw [Array.getElem?_toList, get_num8 hj8] at hj
  rw [Nat.zero_add, hb.cell]
  unfold pre
  rw [get_row_lt (by omega), if_pos hj8]
  exact hj
end
set_option maxHeartbeats 400000 in
set_option maxRecDepth 100000 in
theorem more_nil (f : Nat → Nat) (m n cap : Nat) (A : Option Addr) (w : World) :
    Calls Tryd.prog 21 #[.agg (pre f m false), .slice A n cap] w fun e w' => e = .returned (.tuple #[.agg (pre (fun _ => 0) 0 false), .int .i64 1]) ∧ Below w.heap.size w w' := by
  go_enter Tryd.func21, Tryd.ntmps21
  go_upto_region 1 with fail
  generalize hw3 : World.alloc (World.alloc w _) _ = w3
  have b1 : Blk w3 w.heap.size 29 (pre f m false) := by rw [← hw3]; exact (Blk.top rfl rfl).alloc _
  have b2 : Blk w3 (w.heap.size + 1) 29 (pre (fun _ => 0) 0 false) := by rw [← hw3]; exact Blk.top zlit_pre (by simp)
  have hb : Below w.heap.size w w3 := by rw [← hw3]; exact ((Below.refl _ _).alloc (Nat.le_refl _) _).alloc (by simp) _
  clear hw3
  have c9 := b1.pre9
  go_wp2_with (first | ((with_reducible apply bldp0)) | ((with_reducible apply stp); rfl; rfl; exact b2))
  apply ret_pre2 Tryd.results21
  · rfl
  · rfl
  · rfl
  · exact b2.setRow_same _
  exact ⟨rfl, below_setRow hb (by omega) _⟩
set_option maxHeartbeats 400000 in
set_option maxRecDepth 100000 in
theorem more_arg (f : Nat → Nat) (m n cap : Nat) (A : Option Addr) (hn : n % 64 ≠ 0) (hm : n ≤ 1000000000000000) (w : World) :
    Calls Tryd.prog 21 #[.agg (pre f m true), .slice A n cap] w fun e w' => e = .returned (.tuple #[.agg (pre (fun _ => 0) 0 false), .int .i64 2]) ∧ Below w.heap.size w w' := by
  go_enter Tryd.func21, Tryd.ntmps21
  go_upto_region 1 with fail
  generalize hw3 : World.alloc (World.alloc w _) _ = w3
  have b1 : Blk w3 w.heap.size 29 (pre f m true) := by rw [← hw3]; exact (Blk.top rfl rfl).alloc _
  have b2 : Blk w3 (w.heap.size + 1) 29 (pre (fun _ => 0) 0 false) := by rw [← hw3]; exact Blk.top zlit_pre (by simp)
  have hb : Below w.heap.size w w3 := by rw [← hw3]; exact ((Below.refl _ _).alloc (Nat.le_refl _) _).alloc (by simp) _
  clear hw3
  have c9 := b1.pre9
  have t0 : ((n : Int) % 64 != 0) = true := by rw [bne_iff_ne]; omega
  go_wp2_with (first | ((with_reducible apply bldp0)) | ((with_reducible apply stp); rfl; rfl; exact b2))
  apply ret_pre2 Tryd.results21
  · rfl
  · rfl
  · rfl
  · exact b2.setRow_same _
  exact ⟨rfl, below_setRow hb (by omega) _⟩
set_option maxHeartbeats 400000 in
set_option maxRecDepth 100000 in
theorem more_ok (s : ShaM.S8) (hs : s.ok) (A : Option Addr) (l : List Nat) (n cap m : Nat) (hl : l.length = n) (hn : n % 64 = 0) (hc : n ≤ cap) (hm : cap ≤ maxLen) (hz : m + n ≤ 1000000000000000) (hb : B256 l) (w : World) (hA : Byt w w.heap.size A l) (hS : Salts w) :
    Calls Tryd.prog 21 #[.agg (pre s.get m true), .slice A n cap] w fun e w' => e = .returned (.tuple #[.agg (pre (ShaM.passes s l).get (m + n) true), .int .i64 0]) ∧ Below w.heap.size w w' := by
  have HS := hid hs
  have HB := hid hb
  have HA := hid hA
  have SA := hid hS
  have HL := hid hl
  clear hs hb hA hS hl
  go_enter Tryd.func21, Tryd.ntmps21
  go_upto_region 1 with fail
  generalize hw3 : World.alloc (World.alloc w _) _ = w3
  have b1 : Blk w3 w.heap.size 29 (pre s.get m true) := by rw [← hw3]; exact (Blk.top rfl rfl).alloc _
  have b2 : Blk w3 (w.heap.size + 1) 29 (pre (fun _ => 0) 0 false) := by rw [← hw3]; exact Blk.top zlit_pre (by simp)
  have hb : Below w.heap.size w w3 := by rw [← hw3]; exact ((Below.refl _ _).alloc (Nat.le_refl _) _).alloc (by simp) _
  clear hw3
  have c9 := b1.pre9
  have t0 : ((n : Int) % 64 != 0) = false := by rw [bne_eq_false_iff_eq]; omega
  have e1 : IntKind.i64.wrap ((m : Int) + (n : Int)) = ((m + n : Nat) : Int) := wr_nat (by omega) (by omega)
  have B1 := hid b1
  have B2 := hid b2
  have BEL := hid hb
  have E1 := hid e1
  clear b1 b2 hb hn e1
  go_wp2_with fail
  refine wp_region_tail (C := fun w' => Below w3.heap.size w3 w') 10 (by kernel_rfl) (by kernel_rfl) (by kernel_rfl) (Below.refl _ _).drew ?_
  simp only [List.take_succ_cons, List.take_zero, List.drop_succ_cons, List.drop_zero]
  apply wpK_val
  · rfl
  · intro w' hw'
    go_simp
    first | exact rfl | exact ⟨rfl, hw'⟩
  simp only [Act.put, List.setIfInBounds_toArray, List.set_cons_succ, List.set_cons_zero]
  apply klnm
  · rfl
  · rfl
  · exact fun w' hw' => (B1.out.below hw' B1.out.lt).pre0
  simp only [Act.put, List.setIfInBounds_toArray, List.set_cons_succ, List.set_cons_zero]
  apply wpK_val
  · rfl
  · intro w' hw'
    go_simp
    first | exact rfl | exact ⟨rfl, hw'⟩
  simp only [Act.put, List.setIfInBounds_toArray, List.set_cons_succ, List.set_cons_zero]
  apply wpK_val
  · rfl
  · intro w' hw'
    go_simp
    exact (passes_any s HS.out A l n cap HL.out hc hm HB.out _ ((HA.out.below (BEL.out.trans (hw'.mono BEL.out.size)) (Nat.le_refl _)).more (Nat.le_trans BEL.out.size hw'.size)) (SA.out.on (BEL.out.trans (hw'.mono BEL.out.size)))).mono fun e w'' ⟨he, hb''⟩ => ⟨he, hw'.trans (hb''.mono hw'.size)⟩
  simp only [Act.put, List.setIfInBounds_toArray, List.set_cons_succ, List.set_cons_zero]
  apply wpK_val
  · rfl
  · intro w' hw'
    go_simp
    first | exact rfl | exact ⟨rfl, hw'⟩
  simp only [Act.put, List.setIfInBounds_toArray, List.set_cons_succ, List.set_cons_zero]
  apply wpK_val
  · rfl
  · intro w' hw'
    have hcell := (B1.out.below hw' B1.out.lt).pre8
    go_simp
    first | exact rfl | exact ⟨rfl, hw'⟩
  simp only [Act.put, List.setIfInBounds_toArray, List.set_cons_succ, List.set_cons_zero]
  apply wpK_val
  · rfl
  · intro w' hw'
    go_simp
    first | exact rfl | exact ⟨rfl, hw'⟩
  simp only [Act.put, List.setIfInBounds_toArray, List.set_cons_succ, List.set_cons_zero]
  apply wpK_val
  · rfl
  · intro w' hw'
    go_simp
    first | exact rfl | exact ⟨rfl, hw'⟩
  simp only [Act.put, List.setIfInBounds_toArray, List.set_cons_succ, List.set_cons_zero]
  apply wpK_val
  · rfl
  · intro w' hw'
    have h1 : _ := E1.out
    go_simp
    first | exact rfl | exact ⟨rfl, hw'⟩
  simp only [Act.put, List.setIfInBounds_toArray, List.set_cons_succ, List.set_cons_zero]
  apply bldp3
  · rfl
  · rfl
  · rfl
  · rfl
  simp only [Act.put, List.setIfInBounds_toArray, List.set_cons_succ, List.set_cons_zero]
  refine wpK_nil fun w4 hw4 => ?_
  have c2 := B2.out.below hw4 B2.out.lt
  have cb := BEL.out.trans (hw4.mono BEL.out.size)
  go_wp2_with ((with_reducible apply stp); rfl; rfl; exact c2)
  apply ret_pre2 Tryd.results21
  · rfl
  · rfl
  · rfl
  · exact c2.setRow_same _
  exact ⟨rfl, below_setRow cb (by omega) _⟩
end Go.Proofs.YtcpoccahneppiaaDoor
