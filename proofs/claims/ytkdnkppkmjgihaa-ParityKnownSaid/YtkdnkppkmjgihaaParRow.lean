/-
  The struct Row of three sectors, as a value and in memory.
-/
import Derived.Test.YtkdnkppkmjgihaaParKit
import Derived.Deep.WholeRow
namespace Go.Proofs.Ytkdnkppkmjgihaa
open Go.ChangeShapes Go.WideShapes Go.ChangeAt Go.RowKit
theorem built_row (parts : List (Nat × Value)) : Try.prog.built 41 parts = Instr.fill ((#[(0, 64), (64, 64), (128, 64)] : Array (Nat × Nat))[·]?) (row 192 fun _ => .int .u8 0) parts := by kernel_rfl
theorem info_row : (Try.prog.info? 41).map (·.size) = some 192 := by kernel_rfl
def z3 : Nat → Nat → Nat := fun _ _ => 0
theorem zero_row (w : World) : (zeroValue 41).run Try.prog w = .ok (.agg (secs 3 z3)) w :=
  (zero_of_info (P := Try.prog) (t := 41) (v := .agg (secs 3 z3)) (n := 192) (by kernel_rfl)).1 w
theorem run_build_row3 (w : World) (parts : Array (Nat × Value)) (i : Nat) (l : List (Nat → Nat)) (F : Nat → Nat → Nat) (hp : parts.toList = partsFrom i l) (hl : i + l.length ≤ 3)
    (hF : ∀ j k, j < 3 → k < 64 → F j k = if i ≤ j ∧ j < i + l.length then l.getD (j - i) (fun _ => 0) k else 0) :
    (Instr.build 41 parts).run Try.prog w = .ok (.agg (secs 3 F)) w := by
  refine run_build w 41 parts _ ?_
  rw [built_row, hp]
  have h3 : ∀ j, j < 3 → ((#[(0, 64), (64, 64), (128, 64)] : Array (Nat × Nat))[j]?) = some (j * 64, 64) := fun j hj => by
    match j, hj with
    | 0, _ => rfl
    | 1, _ => rfl
    | 2, _ => rfl
  have := fill_secs 3 h3 l i (fun _ => .int .u8 0) hl
  refine Eq.trans this (congrArg some (row_ext fun j hj => ?_))
  rw [hF (j / 64) (j % 64) (by omega) (Nat.mod_lt _ (by omega))]
  by_cases h : i * 64 ≤ j ∧ j < (i + l.length) * 64
  · rw [if_pos h, if_pos (by omega)]
  · rw [if_neg h, if_neg (by omega)]; rfl
theorem eqg_row : Try.prog.eqGuardType Try.prog.depth 41 = false := by kernel_rfl
theorem run_part_sec (w : World) (F : Nat → Nat → Nat) (i : Nat) (hi : i < 3) : (part 25 (secs 3 F) (i * 64)).run Try.prog w = .ok (.agg (sec (F i))) w := by
  have h1 : (isAgg 25).run Try.prog w = .ok true w := by unfold isAgg; rw [Sem.run_bind, run_underlying Try.underlying25 w]; rfl
  have h2 : (sizeOf 25).run Try.prog w = .ok 64 w := by
    have := info_sec
    cases hq : Try.prog.info? 25 with
    | none => simp [hq] at this
    | some i => simp [hq] at this; simp [sizeOf, typeInfo, hq, this]
  simp only [part, Sem.run_bind, h1, h2, Result.andThen_ok, if_true, Sem.run_pure, extract_secs hi]
theorem run_eql_row (w : World) (F G : Nat → Nat → Nat) : (binOp .eql 41 (.agg (secs 3 F)) (.agg (secs 3 G))).run Try.prog w = .ok (.bool (eqS (F 0) (G 0) && (eqS (F 1) (G 1) && eqS (F 2) (G 2)))) w := by
  rw [run_eql_struct, run_equalIn_agg w 9999 41 _ _ (by kernel_rfl) (by kernel_rfl)]
  have hE : ∀ (w : World) (f g : Nat → Nat), (Op.equalIn 9999 25 (.agg (sec f)) (.agg (sec g))).run Try.prog w = .ok (eqS f g) w := fun w f g =>
    run_equalIn_row (P := Try.prog) (d := 9997) (t := 25) (e := 5) (k := .u8) (n := 64) (f := fun k => f k) (g := fun k => g k) Try.underlying25 Try.underlying5 (by kernel_rfl) w
  have p0 : ∀ (w : World) (F : Nat → Nat → Nat), (part 25 (secs 3 F) 0).run Try.prog w = .ok (.agg (sec (F 0))) w := fun w F => run_part_sec w F 0 (by omega)
  have p1 : ∀ (w : World) (F : Nat → Nat → Nat), (part 25 (secs 3 F) 64).run Try.prog w = .ok (.agg (sec (F 1))) w := fun w F => run_part_sec w F 1 (by omega)
  have p2 : ∀ (w : World) (F : Nat → Nat → Nat), (part 25 (secs 3 F) 128).run Try.prog w = .ok (.agg (sec (F 2))) w := fun w F => run_part_sec w F 2 (by omega)
  have hfs : (Try.prog.fieldsOf 41).toList.map (fun f => (f.name, f.type, f.offset)) = [("P", 25, 0), ("Q", 25, 64), ("Old", 25, 128)] := by kernel_rfl
  generalize (Try.prog.fieldsOf 41).toList = fs at hfs
  rcases fs with _ | ⟨f0, _ | ⟨f1, _ | ⟨f2, _ | ⟨f3, r⟩⟩⟩⟩
  · cases hfs
  · simp at hfs
  · simp at hfs
  · simp only [List.map_cons, List.map_nil, List.cons.injEq, Prod.mk.injEq, and_true] at hfs
    obtain ⟨⟨n0, t0, o0⟩, ⟨n1, t1, o1⟩, n2, t2, o2⟩ := hfs
    simp only [Op.eqFields, n0, n1, n2, t0, t1, t2, o0, o1, o2]
    rw [if_pos (by decide), if_pos (by decide), if_pos (by decide)]
    simp only [Sem.run_bind, p0, p1, p2, Result.andThen_ok, hE, Sem.run_ite, Sem.run_pure]
    cases eqS (F 0) (G 0) <;> cases eqS (F 1) (G 1) <;> cases eqS (F 2) (G 2) <;> rfl
  · simp at hfs
section
variable {ops : Array Oper} {Q : Exit → Act → World → Prop} {a : Act} {w : World} {rest : List Oper} {dst : Option Tmp} {ty : TypeId} {pos : String} {after : Array Edge} {x y : Operand} {g : Nat} {F F0 : Nat → Nat → Nat}
theorem ldr (hx : a.eval x = .pointer (some ⟨g, 0, none⟩)) (hb : Blk w g 41 (secs 3 F)) (h : wpList Try.prog ops Q rest (a.put dst (.agg (secs 3 F))) w) :
    wpList Try.prog ops Q (⟨dst, .load 41 x, ty, pos, after, none⟩ :: rest) a w :=
  step_load_row hb Try.underlying41 rfl (info_row.trans (by rw [size_secs])) hx h
theorem str (hx : a.eval x = .pointer (some ⟨g, 0, none⟩)) (hy : a.eval y = .agg (secs 3 F)) (hb : Blk w g 41 (secs 3 F0)) (h : wpList Try.prog ops Q rest (a.put dst undef) (w.setRow g (secs 3 F))) :
    wpList Try.prog ops Q (⟨dst, .store 41 x y, ty, pos, after, none⟩ :: rest) a w :=
  step_store_row hb (info_row.trans (by rw [size_secs])) (by rw [size_secs, size_secs]) secs_one hx hy h
/-- A composite literal of the struct: the parts from place i on. -/
theorem bldr {parts : Array (Nat × Operand)} (F : Nat → Nat → Nat) (i : Nat) (l : List (Nat → Nat)) (hl : i + l.length ≤ 3)
    (hF : ∀ j k, j < 3 → k < 64 → F j k = if i ≤ j ∧ j < i + l.length then l.getD (j - i) (fun _ => 0) k else 0) (hp : parts.toList.map (fun x => (x.1, a.eval x.2)) = partsFrom i l)
    (h : wpList Try.prog ops Q rest (a.put dst (.agg (secs 3 F))) w) : wpList Try.prog ops Q (⟨dst, .build 41 parts, ty, pos, after, none⟩ :: rest) a w := by
  refine wpList_plain rfl fun K hK => ?_
  unfold Oper.wp execOp
  simp only [Sem.run_bind, run_build_row3 w _ i l F (by rw [Array.toList_map]; exact hp) hl hF, Result.andThen_ok]
  exact hK _ _ h
theorem kbldr {C : World → Prop} {Qk : Act → Prop} {gd : Option (Nat × Bool)} {parts : Array (Nat × Operand)} (F : Nat → Nat → Nat) (i : Nat) (l : List (Nat → Nat)) (hwt : Region.wanted ⟨dst, .build 41 parts, ty, pos, after, gd⟩ (yielded ops a.tmps) = true) (hl : i + l.length ≤ 3)
    (hF : ∀ j k, j < 3 → k < 64 → F j k = if i ≤ j ∧ j < i + l.length then l.getD (j - i) (fun _ => 0) k else 0) (hp : parts.toList.map (fun x => (x.1, a.eval x.2)) = partsFrom i l)
    (h : wpK Try.prog ops C Qk rest (a.put dst (.agg (secs 3 F)))) : wpK Try.prog ops C Qk (⟨dst, .build 41 parts, ty, pos, after, gd⟩ :: rest) a :=
  wpK_val hwt (fun w hw => gives_value (w' := w) (by simp only [execOp, Sem.run_bind, run_build_row3 w _ i l F (by rw [Array.toList_map]; exact hp) hl hF, Result.andThen_ok, Sem.run_pure]) hw) h
theorem kldr {C : World → Prop} {Qk : Act → Prop} {gd : Option (Nat × Bool)} (hwt : Region.wanted ⟨dst, .load 41 x, ty, pos, after, gd⟩ (yielded ops a.tmps) = true) (hx : a.eval x = .pointer (some ⟨g, 0, none⟩)) (hb : ∀ w, C w → Blk w g 41 (secs 3 F))
    (h : wpK Try.prog ops C Qk rest (a.put dst (.agg (secs 3 F)))) : wpK Try.prog ops C Qk (⟨dst, .load 41 x, ty, pos, after, gd⟩ :: rest) a :=
  wpK_val hwt (fun w hw => gives_value (w' := w) (by
    have := run_loadVar_row (P := Try.prog) w g 41 41 (secs 3 F) (0, 0) _ (hb w hw) Try.underlying41 rfl (info_row.trans (by rw [size_secs]))
    simp only [execOp, hx, Instr.loadAt, Instr.sureAddr, Sem.run_bind, this, Result.andThen_ok, Sem.run_pure]) hw) h
theorem ret_rowt {fn : Func} {R : Ending → World → Prop} {p t : Tmp} {v : Value} (hr : fn.results = #[.cell p 41, .tmp t]) (hp : a.tmps.getD p undef = .pointer (some ⟨g, 0, none⟩))
    (ht : a.tmps.getD t undef = v) (hdf : a.defers = []) (hb : Blk w g 41 (secs 3 F)) (hR : R (.returned (.tuple #[.agg (secs 3 F), v])) w) : bodyPost Try.prog fn R .ret a w := by
  refine bodyPost_ret ?_ hdf hR
  have hv : (loadVar 41 ⟨g, 0, none⟩).run Try.prog w = .ok (.agg (secs 3 F)) w :=
    run_loadVar_row w g 41 41 (secs 3 F) (0, 0) _ hb Try.underlying41 rfl (info_row.trans (by rw [size_secs]))
  have hp' : a.tmps[p]?.getD undef = .pointer (some ⟨g, 0, none⟩) := by simpa using hp
  have ht' : a.tmps[t]?.getD undef = v := by simpa using ht
  simp [results, hr, hp', ht', asAddr, hv]
end
end Go.Proofs.Ytkdnkppkmjgihaa
