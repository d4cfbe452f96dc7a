/-
  The walk of the law of P3.3.
-/
import Derived.Test.YtogfmibdbckebaaDoorShaRefX
namespace Go.Proofs.YtogfmibdbckebaaDoor
open Go.ChangeShapes Go.WideShapes Go.ChangeAt Go.RowKit
attribute [local go_sem] Gives
theorem run_ldt {w : World} {g : Nat} {f : Nat → Nat} (hb : Blk w g 34 (tag f)) : (Instr.loadAt 34 (.pointer (some ⟨g, 0, none⟩))).run Tryd.prog w = .ok (.agg (tag f)) w := by
  have h1 := hb.range 0 32
  rw [Nat.zero_add, show (32 : Nat) = (tag f).size from size_tag.symm, Array.extract_size] at h1
  have := run_loadAt_mid (P := Tryd.prog) w g 0 34 (tag f).toList _ h1 Tryd.underlying34 rfl (info_tag.trans (by rw [Array.length_toList, size_tag]))
  rwa [Array.toArray_toList] at this
theorem klt {ops : Array Oper} {a : Act} {rest : List Oper} {dst : Option Tmp} {ty : TypeId} {pos : String} {after : Array Edge} {x : Operand} {g : Nat} {f : Nat → Nat} {C : World → Prop} {Qk : Act → Prop} {gd : Option (Nat × Bool)}
    (hwt : Region.wanted ⟨dst, .load 34 x, ty, pos, after, gd⟩ (yielded ops a.tmps) = true) (hx : a.eval x = .pointer (some ⟨g, 0, none⟩)) (hb : ∀ w, C w → Blk w g 34 (tag f)) (h : wpK Tryd.prog ops C Qk rest (a.put dst (.agg (tag f)))) :
    wpK Tryd.prog ops C Qk (⟨dst, .load 34 x, ty, pos, after, gd⟩ :: rest) a :=
  wpK_val hwt (fun w hw => gives_value (w' := w) (by simp only [execOp, hx, Sem.run_bind, run_ldt (hb w hw), Result.andThen_ok, Sem.run_pure]) hw) h
set_option maxHeartbeats 400000 in
set_option maxRecDepth 100000 in
theorem spelt_long (f : Nat → Nat) (s : ByteArray) (hs : 3000 < s.size) (hm : s.size ≤ maxLen) (w : World) (hS : Salts w) :
    Calls Tryd.prog 4 #[.agg (tag f), .string s] w fun e w' => e = .returned (.bool true) ∧ Below w.heap.size w w' := by
  unfold maxLen at hm
  have SA := hid hS
  clear hS
  go_enter Tryd.func4, Tryd.ntmps4
  go_wp2_with fail
  generalize hw3 : World.alloc w _ = w3
  have hb : Below w.heap.size w w3 := by rw [← hw3]; exact (Below.refl _ _).alloc (Nat.le_refl _) _
  clear hw3
  refine (awake_any w3 (SA.out.on hb)).mono ?_
  rintro e w4 ⟨rfl, h4⟩
  have hb4 := hb.trans (h4.mono hb.size)
  clear h4 hb
  go_wp2_with fail
  go_ret
  exact ⟨rfl, hb4⟩
set_option maxHeartbeats 400000 in
set_option maxRecDepth 100000 in
theorem spelt_short (f : Nat → Nat) (hf : ∀ k, f k < 256) (s : ByteArray) (hs : s.size ≤ 3000) (w : World) (hS : Salts w) :
    Calls Tryd.prog 4 #[.agg (tag f), .string s] w fun e w' => e = .returned (.bool true) ∧ Below w.heap.size w w' := by
  have key : ∃ (x : Nat → Nat) (ok : Bool),
      Hid (∀ w, Calls Tryd.prog 16 #[.string s] w fun e w' => e = .returned (.tuple #[.agg (tag x), .bool ok]) ∧ Below w.heap.size w w') ∧
      Hid (∀ w, Calls Tryd.prog 17 #[.string s] w fun e w' => e = .returned (.tuple #[.agg (tag x), .bool ok]) ∧ Below w.heap.size w w') := by
    cases h : isHex s with
    | true => exact ⟨ofT s, true, hid (of_hex s h), hid (rof_hex s h)⟩
    | false => exact ⟨fun _ => 0, false, hid (of_nohex s h), hid (rof_nohex s h)⟩
  obtain ⟨x, ok, HOF, HRF⟩ := key
  have SA := hid hS
  have HF := hid hf
  clear hS hf
  go_enter Tryd.func4, Tryd.ntmps4
  go_wp2_with fail
  generalize hw3 : World.alloc w _ = w3
  have b0 : Blk w3 w.heap.size 34 (tag f) := by rw [← hw3]; exact Blk.top rfl rfl
  have hb : Below w.heap.size w w3 := by rw [← hw3]; exact (Below.refl _ _).alloc (Nat.le_refl _) _
  clear hw3
  have B0 := hid b0
  have HB := hid hb
  clear b0 hb
  refine (HOF.out w3).mono ?_
  rintro e w4 ⟨rfl, h4⟩
  have b0 := B0.out.below h4 B0.out.lt
  have hb := HB.out.trans (h4.mono HB.out.size)
  have hlt : w.heap.size < w4.heap.size := b0.lt
  clear h4 B0 HB w3
  go_upto_region 4 with ((with_reducible apply stt); rfl; rfl; exact Blk.top zlit_tag rfl)
  generalize hw5 : World.setRow _ _ _ = w5
  have c5 : Blk w5 w4.heap.size 34 (tag x) := by rw [← hw5]; exact (Blk.top zlit_tag rfl).setRow_same _
  have c0 : Blk w5 w.heap.size 34 (tag f) := by rw [← hw5]; exact (b0.alloc _).setRow_other (by omega) _
  have cb : Below w.heap.size w w5 := by rw [← hw5]; exact below_setRow (hb.alloc hb.size _) hb.size _
  clear hw5 b0 hb
  generalize w4.heap.size = g5 at *
  clear w4
  have C5 := hid c5
  have C0 := hid c0
  have CB := hid cb
  clear c5 c0 cb
  go_wp2_with fail
  refine (HRF.out w5).mono ?_
  rintro e w7 ⟨rfl, h7⟩
  have c5 := C5.out.below h7 C5.out.lt
  have c0 := C0.out.below h7 C0.out.lt
  have cb := CB.out.trans (h7.mono CB.out.size)
  have hlt5 : g5 < w7.heap.size := c5.lt
  clear h7 C5 C0 CB w5
  go_upto_region 5 with ((with_reducible apply stt); rfl; rfl; exact Blk.top zlit_tag rfl)
  generalize hw8 : World.setRow _ _ _ = w8
  have d7 : Blk w8 w7.heap.size 34 (tag x) := by rw [← hw8]; exact (Blk.top zlit_tag rfl).setRow_same _
  have d5 : Blk w8 g5 34 (tag x) := by rw [← hw8]; exact (c5.alloc _).setRow_other (by omega) _
  have d0 : Blk w8 w.heap.size 34 (tag f) := by rw [← hw8]; exact (c0.alloc _).setRow_other (by omega) _
  have db : Below w.heap.size w w8 := by rw [← hw8]; exact below_setRow (cb.alloc cb.size _) cb.size _
  clear hw8 c5 c0 cb
  generalize w7.heap.size = g7 at *
  clear w7
  have D7 := hid d7
  have D5 := hid d5
  have D0 := hid d0
  have DB := hid db
  clear d7 d5 d0 db
  refine wp_region_tail (C := fun w' => Below w8.heap.size w8 w') 19 (by kernel_rfl) (by kernel_rfl) (by kernel_rfl) (Below.refl _ _).drew ?_
  simp only [List.take_succ_cons, List.take_zero, List.drop_succ_cons, List.drop_zero]
  apply klt
  · rfl
  · rfl
  · exact fun w' hw' => D0.out.below hw' D0.out.lt
  simp only [Act.put, List.setIfInBounds_toArray, List.set_cons_succ, List.set_cons_zero]
  apply wpK_val
  · rfl
  · intro w' hw'
    go_simp
    exact (text_txt f HF.out _).mono fun e w'' ⟨he, hb''⟩ => ⟨he, hw'.trans (hb''.mono hw'.size)⟩
  simp only [Act.put, List.setIfInBounds_toArray, List.set_cons_succ, List.set_cons_zero]
  apply klt
  · rfl
  · rfl
  · exact fun w' hw' => D0.out.below hw' D0.out.lt
  simp only [Act.put, List.setIfInBounds_toArray, List.set_cons_succ, List.set_cons_zero]
  apply wpK_val
  · rfl
  · intro w' hw'
    go_simp
    exact (rtext_any f HF.out _).mono fun e w'' ⟨he, hb''⟩ => ⟨he, hw'.trans (hb''.mono hw'.size)⟩
  simp only [Act.put, List.setIfInBounds_toArray, List.set_cons_succ, List.set_cons_zero]
  apply wpK_val
  · rfl
  · intro w' hw'
    go_simp
    first | exact rfl | exact ⟨rfl, hw'⟩
  simp only [Act.put, List.setIfInBounds_toArray, List.set_cons_succ, List.set_cons_zero]
  apply wpK_val
  · rfl
  · intro w' hw'
    go_simp
    first | exact rfl | exact ⟨rfl, hw'⟩
  simp only [Act.put, List.setIfInBounds_toArray, List.set_cons_succ, List.set_cons_zero]
  apply klt
  · rfl
  · rfl
  · exact fun w' hw' => D5.out.below hw' D5.out.lt
  simp only [Act.put, List.setIfInBounds_toArray, List.set_cons_succ, List.set_cons_zero]
  apply klt
  · rfl
  · rfl
  · exact fun w' hw' => D7.out.below hw' D7.out.lt
  simp only [Act.put, List.setIfInBounds_toArray, List.set_cons_succ, List.set_cons_zero]
  apply wpK_val
  · rfl
  · intro w' hw'
    have h1 : _ := eqg_tag
    have h2 : _ := fun w => eq_tag_self x w
    go_simp
    first | exact rfl | exact ⟨rfl, hw'⟩
  simp only [Act.put, List.setIfInBounds_toArray, List.set_cons_succ, List.set_cons_zero]
  apply wpK_val
  · rfl
  · intro w' hw'
    go_simp
    first | exact rfl | exact ⟨rfl, hw'⟩
  simp only [Act.put, List.setIfInBounds_toArray, List.set_cons_succ, List.set_cons_zero]
  apply wpK_val
  · rfl
  · intro w' hw'
    go_simp
    first | exact rfl | exact ⟨rfl, hw'⟩
  simp only [Act.put, List.setIfInBounds_toArray, List.set_cons_succ, List.set_cons_zero]
  apply wpK_val
  · rfl
  · intro w' hw'
    go_simp
    first | exact rfl | exact ⟨rfl, hw'⟩
  simp only [Act.put, List.setIfInBounds_toArray, List.set_cons_succ, List.set_cons_zero]
  apply wpK_val
  · rfl
  · intro w' hw'
    go_simp
    first | exact rfl | exact ⟨rfl, hw'⟩
  simp only [Act.put, List.setIfInBounds_toArray, List.set_cons_succ, List.set_cons_zero]
  apply wpK_val
  · rfl
  · intro w' hw'
    go_simp
    first | exact rfl | exact ⟨rfl, hw'⟩
  simp only [Act.put, List.setIfInBounds_toArray, List.set_cons_succ, List.set_cons_zero]
  apply wpK_val
  · rfl
  · intro w' hw'
    go_simp
    first | exact rfl | exact ⟨rfl, hw'⟩
  simp only [Act.put, List.setIfInBounds_toArray, List.set_cons_succ, List.set_cons_zero]
  apply wpK_val
  · rfl
  · intro w' hw'
    go_simp
    first | exact rfl | exact ⟨rfl, hw'⟩
  simp only [Act.put, List.setIfInBounds_toArray, List.set_cons_succ, List.set_cons_zero]
  apply wpK_val
  · rfl
  · intro w' hw'
    go_simp
    exact (awake_any _ (SA.out.on (DB.out.trans (hw'.mono DB.out.size)))).mono fun e w'' ⟨he, hb''⟩ => ⟨he, hw'.trans (hb''.mono hw'.size)⟩
  simp only [Act.put, List.setIfInBounds_toArray, List.set_cons_succ, List.set_cons_zero]
  apply wpK_val
  · rfl
  · intro w' hw'
    go_simp
    first | exact rfl | exact ⟨rfl, hw'⟩
  simp only [Act.put, List.setIfInBounds_toArray, List.set_cons_succ, List.set_cons_zero]
  apply wpK_val
  · rfl
  · intro w' hw'
    go_simp
    first | exact rfl | exact ⟨rfl, hw'⟩
  simp only [Act.put, List.setIfInBounds_toArray, List.set_cons_succ, List.set_cons_zero]
  refine wpK_nil fun w9 hw9 => ?_
  have hb := DB.out.trans (hw9.mono DB.out.size)
  go_wp2_with fail
  go_ret
  exact ⟨rfl, hb⟩
end Go.Proofs.YtogfmibdbckebaaDoor
