/-
  One operation of the walk at a time, over this translation: a whole sector out of, and into, a block; returns of sectors.
-/
import Derived.Test.YteoccdcebgcdmaaRows
import Derived.Test.YteoccdcebgcdmaaSecs
import Derived.Test.YteoccdcebgcdmaaEq
import Derived.Test.YteoccdcebgcdmaaRegion
import Derived.WalkKit
import Derived.ProofKit
import Derived.OpenShut
import Derived.StillTailTactics
import Derived.Outline
namespace Go.Proofs.Yteoccdcebgcdmaa
open Go.ChangeShapes Go.WideShapes Go.ChangeAt Go.RowKit
theorem info_sec : (Try.prog.info? 25).map (·.size) = some 64 := by kernel_rfl
section
variable {ops : Array Oper} {Q : Exit → Act → World → Prop} {a : Act} {w : World} {rest : List Oper} {dst : Option Tmp} {ty : TypeId} {pos : String} {after : Array Edge} {x y : Operand} {g : Nat} {f f0 : Nat → Nat}
theorem ld (hx : a.eval x = .pointer (some ⟨g, 0, none⟩)) (hb : Blk w g 25 (sec f)) (h : wpList Try.prog ops Q rest (a.put dst (.agg (sec f))) w) :
    wpList Try.prog ops Q (⟨dst, .load 25 x, ty, pos, after, none⟩ :: rest) a w :=
  step_load_row hb Try.underlying25 rfl (info_sec.trans (by rw [size_sec])) hx h
theorem stx (hx : a.eval x = .pointer (some ⟨g, 0, none⟩)) (hy : a.eval y = .agg (sec f)) (hb : Blk w g 25 (sec f0)) (h : wpList Try.prog ops Q rest (a.put dst undef) (w.setRow g (sec f))) :
    wpList Try.prog ops Q (⟨dst, .store 25 x y, ty, pos, after, none⟩ :: rest) a w :=
  step_store_row hb (info_sec.trans (by rw [size_sec])) (by rw [size_sec, size_sec]) sec_one hx hy h
theorem ldm {o : Nat} (hx : a.eval x = .pointer (some ⟨g, o, none⟩)) (hb : w.rangeAt g o (sec f).toList) (h : wpList Try.prog ops Q rest (a.put dst (.agg (sec f))) w) :
    wpList Try.prog ops Q (⟨dst, .load 25 x, ty, pos, after, none⟩ :: rest) a w :=
  step_load_mid hb Try.underlying25 rfl (info_sec.trans (by rw [Array.length_toList, size_sec])) hx (by rw [Array.toArray_toList]; exact h)
theorem ldg {gd : Option (Nat × Bool)} (hwt : Region.wanted ⟨dst, .load 25 x, ty, pos, after, gd⟩ (yielded ops a.tmps) = true) (hx : a.eval x = .pointer (some ⟨g, 0, none⟩)) (hb : Blk w g 25 (sec f))
    (h : wpList Try.prog ops Q rest (a.put dst (.agg (sec f))) w) : wpList Try.prog ops Q (⟨dst, .load 25 x, ty, pos, after, gd⟩ :: rest) a w := by
  unfold wpList
  rw [if_pos hwt]
  exact .inl (wp_load_row (P := Try.prog) 25 x rfl g hx 25 (sec f) (0, 0) _ hb Try.underlying25 rfl (info_sec.trans (by rw [size_sec])) h)
theorem run_ldm {o : Nat} {w : World} (hb : w.rangeAt g o (sec f).toList) : (Instr.loadAt 25 (.pointer (some ⟨g, o, none⟩))).run Try.prog w = .ok (.agg (sec f)) w := by
  have := run_loadAt_mid (P := Try.prog) w g o 25 (sec f).toList _ hb Try.underlying25 rfl (info_sec.trans (by rw [Array.length_toList, size_sec]))
  rwa [Array.toArray_toList] at this
theorem run_ld {w : World} (hb : Blk w g 25 (sec f)) : (Instr.loadAt 25 (.pointer (some ⟨g, 0, none⟩))).run Try.prog w = .ok (.agg (sec f)) w :=
  run_ldm (by have := hb.range 0 64; rwa [Nat.zero_add, show (64 : Nat) = (sec f).size from size_sec.symm, Array.extract_size] at this)
section
variable {C : World → Prop} {Qk : Act → Prop}
theorem kldm {gd : Option (Nat × Bool)} {o : Nat} (hwt : Region.wanted ⟨dst, .load 25 x, ty, pos, after, gd⟩ (yielded ops a.tmps) = true) (hx : a.eval x = .pointer (some ⟨g, o, none⟩)) (hb : ∀ w, C w → w.rangeAt g o (sec f).toList) (h : wpK Try.prog ops C Qk rest (a.put dst (.agg (sec f)))) :
    wpK Try.prog ops C Qk (⟨dst, .load 25 x, ty, pos, after, gd⟩ :: rest) a :=
  wpK_val hwt (fun w hw => gives_value (w' := w) (by simp only [execOp, hx, Sem.run_bind, run_ldm (hb w hw), Result.andThen_ok, Sem.run_pure]) hw) h
theorem kld {gd : Option (Nat × Bool)} (hwt : Region.wanted ⟨dst, .load 25 x, ty, pos, after, gd⟩ (yielded ops a.tmps) = true) (hx : a.eval x = .pointer (some ⟨g, 0, none⟩)) (hb : ∀ w, C w → Blk w g 25 (sec f)) (h : wpK Try.prog ops C Qk rest (a.put dst (.agg (sec f)))) :
    wpK Try.prog ops C Qk (⟨dst, .load 25 x, ty, pos, after, gd⟩ :: rest) a :=
  wpK_val hwt (fun w hw => gives_value (w' := w) (by simp only [execOp, hx, Sem.run_bind, run_ld (hb w hw), Result.andThen_ok, Sem.run_pure]) hw) h
/-- What is stored where it stands turns nothing. -/
theorem kst_id {gd : Option (Nat × Bool)} (hwt : Region.wanted ⟨dst, .store 25 x y, ty, pos, after, gd⟩ (yielded ops a.tmps) = true) (hx : a.eval x = .pointer (some ⟨g, 0, none⟩)) (hy : a.eval y = .agg (sec f)) (hb : ∀ w, C w → Blk w g 25 (sec f)) (h : wpK Try.prog ops C Qk rest (a.put dst undef)) :
    wpK Try.prog ops C Qk (⟨dst, .store 25 x y, ty, pos, after, gd⟩ :: rest) a :=
  wpK_val hwt (fun w hw => gives_skip (w' := w) (by
    have := run_storeVar_row (P := Try.prog) w g 25 25 (sec f) (sec f) (hb w hw) (info_sec.trans (by rw [size_sec])) rfl sec_one
    rw [(hb w hw).setRow_id] at this
    simp only [execOp, hx, hy, Instr.storeAt, Instr.sureAddr, Sem.run_bind, this, Result.andThen_ok, Sem.run_pure]) hw) h
end
section
variable {C : Bool → World → Prop} {Qk : Act → Prop} {k s : Nat} {gd : Option (Nat × Bool)}
theorem sld (hk : k ≠ s) (hwt : Region.wanted ⟨dst, .load 25 x, ty, pos, after, gd⟩ (yielded ops a.tmps) = true) (hx : a.eval x = .pointer (some ⟨g, 0, none⟩)) (hb : ∀ b w, C b w → Blk w g 25 (sec f))
    (h : wpS Try.prog ops s C Qk (k + 1) rest (a.put dst (.agg (sec f)))) : wpS Try.prog ops s C Qk k (⟨dst, .load 25 x, ty, pos, after, gd⟩ :: rest) a :=
  wpS_val hk hwt (fun b w hw => gives_value (w' := w) (by simp only [execOp, hx, Sem.run_bind, run_ld (hb b w hw), Result.andThen_ok, Sem.run_pure]) hw) h
theorem sst (hk : k = s) (hwt : Region.wanted ⟨dst, .store 25 x y, ty, pos, after, gd⟩ (yielded ops a.tmps) = true) (hx : a.eval x = .pointer (some ⟨g, 0, none⟩)) (hy : a.eval y = .agg (sec f))
    (hb : ∀ w, C false w → ∃ f0, Blk w g 25 (sec f0)) (hC : ∀ w, C false w → C true (w.setRow g (sec f)))
    (h : wpS Try.prog ops s C Qk (k + 1) rest (a.put dst undef)) : wpS Try.prog ops s C Qk k (⟨dst, .store 25 x y, ty, pos, after, gd⟩ :: rest) a :=
  wpS_put hk hwt (fun w hw => gives_skip (w' := w.setRow g (sec f)) (by
    obtain ⟨f0, hb0⟩ := hb w hw
    have := run_storeVar_row (P := Try.prog) w g 25 25 (sec f0) (sec f) hb0 (info_sec.trans (by rw [size_sec])) (by rw [size_sec, size_sec]) sec_one
    simp only [execOp, hx, hy, Instr.storeAt, Instr.sureAddr, Sem.run_bind, this, Result.andThen_ok, Sem.run_pure]) (hC w hw)) h
end
theorem ret_sec {fn : Func} {R : Ending → World → Prop} {p : Tmp} (hr : fn.results = #[.cell p 25]) (hp : a.tmps.getD p undef = .pointer (some ⟨g, 0, none⟩)) (hdf : a.defers = [])
    (hb : Blk w g 25 (sec f)) (hR : R (.returned (.agg (sec f))) w) : bodyPost Try.prog fn R .ret a w :=
  ret_row hr hb Try.underlying25 rfl (info_sec.trans (by rw [size_sec])) hp hdf hR
end
theorem eqg_sec : Try.prog.eqGuardType Try.prog.depth 25 = false := by kernel_rfl
theorem run_eql_sec (w : World) (f g : Nat → Nat) : (binOp .eql 25 (.agg (sec f)) (.agg (sec g))).run Try.prog w = .ok (.bool (eqS f g)) w := by
  rw [run_eql_struct]
  have := run_equalIn_row (P := Try.prog) (d := 9998) (t := 25) (e := 5) (k := .u8) (n := 64) (f := fun k => f k) (g := fun k => g k) Try.underlying25 Try.underlying5 (by kernel_rfl) w
  unfold sec
  rw [this]
  rfl
theorem run_neq_sec (w : World) (f g : Nat → Nat) : (binOp .neq 25 (.agg (sec f)) (.agg (sec g))).run Try.prog w = .ok (.bool (!eqS f g)) w := by
  rw [run_neq_struct]
  have := run_equalIn_row (P := Try.prog) (d := 9998) (t := 25) (e := 5) (k := .u8) (n := 64) (f := fun k => f k) (g := fun k => g k) Try.underlying25 Try.underlying5 (by kernel_rfl) w
  unfold sec
  rw [this]
  rfl
section
variable {ops : Array Oper} {Q : Exit → Act → World → Prop} {a : Act} {w : World} {rest : List Oper} {dst : Option Tmp} {ty : TypeId} {pos : String} {after : Array Edge} {n : Nat} {parts : Array (Nat × Operand)}
/-- A slice literal of n sectors. -/
theorem wlit (F : Nat → Nat → Nat) (l : List (Nat → Nat)) (hF : (fun i => l.getD i fun _ => 0) = F) (hl : l.length = n) (h0 : 0 < n) (h1 : n ≤ 1000) (hp : parts.toList.map (fun x => (x.1, a.eval x.2)) = partsFrom 0 l)
    (h : wpList Try.prog ops Q rest (a.put dst (.slice (some ⟨w.heap.size, 0, none⟩) n n)) (w.alloc (.cells (secs n F) 25))) :
    wpList Try.prog ops Q (⟨dst, .buildSlice 22 n parts, ty, pos, after, none⟩ :: rest) a w := by
  subst hF
  have hi : ∃ ie, Try.prog.info? 25 = some ie := ⟨_, rfl⟩
  obtain ⟨ie, hie⟩ := hi
  have hs : ie.size = 64 := by have := info_sec; rw [hie] at this; simpa using this
  have hz : ∃ z, ie.zero = some z := by
    have : ((Try.prog.info? 25).bind (·.zero)).isSome = true := by kernel_rfl
    rw [hie] at this
    exact Option.isSome_iff_exists.1 this
  obtain ⟨z, hz⟩ := hz
  refine wpList_plain rfl fun K hK => ?_
  unfold Oper.wp execOp
  simp only [Sem.run_bind, run_lit l hl h0 h1 (by rw [Array.toList_map]; exact hp) Try.underlying22 hie hz hs w, Result.andThen_ok]
  exact hK _ _ h
end
section
variable {a : Act} {w : World} {g h : Nat} {f f' : Nat → Nat}
theorem run_sec_var {t : TypeId} (hb : Blk w g t (sec f)) : (loadVar 25 ⟨g, 0, none⟩).run Try.prog w = .ok (.agg (sec f)) w :=
  run_loadVar_row w g t 25 (sec f) (0, 0) _ hb Try.underlying25 rfl (info_sec.trans (by rw [size_sec]))
theorem ret_sec2 {fn : Func} {R : Ending → World → Prop} {p q : Tmp} (hr : fn.results = #[.cell p 25, .cell q 25]) (hp : a.tmps.getD p undef = .pointer (some ⟨g, 0, none⟩)) (hq : a.tmps.getD q undef = .pointer (some ⟨h, 0, none⟩))
    (hdf : a.defers = []) (hb : Blk w g 25 (sec f)) (hb' : Blk w h 25 (sec f')) (hR : R (.returned (.tuple #[.agg (sec f), .agg (sec f')])) w) : bodyPost Try.prog fn R .ret a w := by
  refine bodyPost_ret ?_ hdf hR
  have hp' : a.tmps[p]?.getD undef = .pointer (some ⟨g, 0, none⟩) := by simpa using hp
  have hq' : a.tmps[q]?.getD undef = .pointer (some ⟨h, 0, none⟩) := by simpa using hq
  simp [results, hr, hp', hq', asAddr, run_sec_var hb, run_sec_var hb']
theorem ret_sec2t {fn : Func} {R : Ending → World → Prop} {p q t : Tmp} {v : Value} (hr : fn.results = #[.cell p 25, .cell q 25, .tmp t]) (hp : a.tmps.getD p undef = .pointer (some ⟨g, 0, none⟩)) (hq : a.tmps.getD q undef = .pointer (some ⟨h, 0, none⟩))
    (ht : a.tmps.getD t undef = v) (hdf : a.defers = []) (hb : Blk w g 25 (sec f)) (hb' : Blk w h 25 (sec f')) (hR : R (.returned (.tuple #[.agg (sec f), .agg (sec f'), v])) w) : bodyPost Try.prog fn R .ret a w := by
  refine bodyPost_ret ?_ hdf hR
  have hp' : a.tmps[p]?.getD undef = .pointer (some ⟨g, 0, none⟩) := by simpa using hp
  have hq' : a.tmps[q]?.getD undef = .pointer (some ⟨h, 0, none⟩) := by simpa using hq
  have ht' : a.tmps[t]?.getD undef = v := by simpa using ht
  simp [results, hr, hp', hq', ht', asAddr, run_sec_var hb, run_sec_var hb']
end
end Go.Proofs.Yteoccdcebgcdmaa
