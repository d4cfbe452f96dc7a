/-
  The struct aes.Cipher as a value and in memory.
-/
import Derived.Test.YtfnepbkgmopjcaaAesR
import Derived.Test.YtfnepbkgmopjcaaSecs
namespace Go.Proofs.Ytfnepbkgmopjcaa
open Go.ChangeShapes Go.WideShapes Go.ChangeAt Go.RowKit
open AesM (Bt)
attribute [local go_sem] Gives
namespace AesP
/-- A cipher's cells. -/
def cipC (m : Bool) (K B O : Nat → Nat) (d : Nat) (j : Nat) : Value :=
  if j = 0 then .bool m else if j < 241 then .int .u8 (K (j - 1) : Nat) else if j < 497 then .int .u8 (B (j - 241) : Nat) else if j = 497 then .int .u32 d else if j = 498 then .int .i32 0 else if j = 499 then .int .u32 0 else .int .u8 (O (j - 500) : Nat)
def cip (m : Bool) (K B O : Nat → Nat) (d : Nat) : Array Value := row 756 (cipC m K B O d)
theorem info_cip : (Try.prog.info? 74).map (·.size) = some 756 := by kernel_rfl
theorem zero_cip : (Try.prog.info? 74).bind (·.zero) = some (.agg (cip false (fun _ => 0) (fun _ => 0) (fun _ => 0) 0)) := by kernel_rfl
theorem places_cip : ∃ fs, Try.prog.underlying 74 = some (.struct fs) ∧ fs.toList.mapM (fun f => (Try.prog.info? f.type).map fun i => (f.offset, i.size)) = some [(0, 1), (1, 240), (241, 256), (497, 3), (500, 256)] :=
  ⟨_, Try.underlying74, by kernel_rfl⟩
theorem fold_one (v : Value) (R : Array Value) : (#[v] : Array Value).zipIdx.foldl (fun cs (c, j) => cs.setIfInBounds (0 + j) c) R = R.setIfInBounds 0 v := by
  rw [← Array.foldl_toList, Array.toList_zipIdx]; rfl
theorem fill_cons {place : Nat → Option (Nat × Nat)} {cells : Array Value} {i off size : Nat} {v : Value} {rest : List (Nat × Value)} (h : place i = some (off, size)) (h1 : v.cells.size = size) (h2 : off + size ≤ cells.size) :
    Instr.fill place cells ((i, v) :: rest) = Instr.fill place (v.cells.zipIdx.foldl (fun cs (c, j) => cs.setIfInBounds (off + j) c) cells) rest := by
  subst h1
  rw [Instr.fill]
  simp only [h]
  rw [if_neg]
  simp
  omega
theorem fill_two {place : Nat → Option (Nat × Nat)} {R l : Array Value} (h0 : place 0 = some (0, 1)) (h2 : place 2 = some (241, 256)) (hR : R.size = 756) (hl : l.size = 256) :
    Instr.fill place R [(0, .bool true), (2, .agg l)] = some (l.zipIdx.foldl (fun cs (c, j) => cs.setIfInBounds (241 + j) c) (R.setIfInBounds 0 (.bool true))) := by
  have hz2 : (R.setIfInBounds 0 (.bool true)).size = 756 := by rw [Array.size_setIfInBounds, hR]
  have e1 : (Value.bool true).cells.zipIdx.foldl (fun cs (c, j) => cs.setIfInBounds (0 + j) c) R = R.setIfInBounds 0 (.bool true) := fold_one _ _
  rw [fill_cons h0 rfl (by omega), e1, fill_cons (v := .agg l) h2 hl (by omega)]
  rfl
theorem built_cip (B : Nat → Nat) : Try.prog.built 74 [(0, .bool true), (2, .agg (ar 256 B))] = some (cip true (fun _ => 0) B (fun _ => 0) 0) := by
  have h1 : ∃ i, Try.prog.info? 74 = some i ∧ i.zero = some (.agg (cip false (fun _ => 0) (fun _ => 0) (fun _ => 0) 0)) := by
    have := zero_cip
    cases h : Try.prog.info? 74 with
    | none => rw [h] at this; cases this
    | some i => rw [h] at this; exact ⟨i, rfl, this⟩
  obtain ⟨i, hi, hz⟩ := h1
  obtain ⟨fs, hf, hp⟩ := places_cip
  unfold Program.built
  rw [hi, hf]
  simp only [hz, hp, Value.cells]
  unfold cip
  have e : (ar 256 B).zipIdx.foldl (fun cs (c, j) => cs.setIfInBounds (241 + j) c) ((row 756 (cipC false (fun _ => 0) (fun _ => 0) (fun _ => 0) 0)).setIfInBounds 0 (.bool true)) = row 756 (cipC true (fun _ => 0) B (fun _ => 0) 0) := by
    rw [← Array.foldl_toList, Array.toList_zipIdx, row_set]
    refine (fold_row 241 756 (ar 256 B).toList 0 _).trans ?_
    simp only [Array.length_toList, size_ar, Nat.add_zero]
    refine row_ext fun j _ => ?_
    by_cases hj : 241 ≤ j ∧ j < 241 + 256
    · rw [if_pos hj, ar_getD (by omega)]
      unfold cipC
      rw [if_neg (by omega), if_neg (by omega), if_pos (by omega)]
    · rw [if_neg hj]
      unfold cipC
      by_cases h0 : j = 0
      · rw [if_pos h0, if_pos h0]
      · rw [if_neg h0, if_neg h0, if_neg h0]
        by_cases h1 : j < 241
        · rw [if_pos h1, if_pos h1]
        · have h2 : ¬ j < 497 := by omega
          rw [if_neg h1, if_neg h1, if_neg h2, if_neg h2]
  exact (fill_two rfl rfl size_row size_ar).trans (congrArg some e)
/-- A cipher in memory: made, of the round keys K; b: is the other box there? -/
def Cip (w : World) (g : Nat) (K : Nat → Nat) (b : Bool) : Prop := Blk w g 74 (cip true K AesM.boxF (if b then AesM.oboxF else fun _ => 0) (if b then 1 else 0))
section
variable {w w' : World} {g : Nat} {K B O : Nat → Nat} {d : Nat} {m : Bool} {t : TypeId}
theorem cip_one : (cip m K B O d).all (·.oneCell') = true := row_one fun j _ => by
  unfold cipC
  split
  · rfl
  · split
    · rfl
    · split
      · rfl
      · split
        · rfl
        · split
          · rfl
          · split <;> rfl
theorem cip_at (h : Blk w g t (cip m K B O d)) {j : Nat} (hj : j < 756) : w.cell? ⟨g, j, none⟩ = some (cipC m K B O d j) := (h.cell j).trans (get_row_lt hj)
theorem cip_made (h : Blk w g t (cip m K B O d)) : w.cell? ⟨g, 0, none⟩ = some (.bool m) := cip_at h (by omega)
/-- Round key r. -/
theorem cip_key (h : Blk w g t (cip m K B O d)) {r : Nat} (hr : r < 15) : w.rangeAt g (1 + r * 16) (ar 16 (AesM.rk K r)).toList := fun j v hv => by
  obtain ⟨h1, rfl⟩ := ar_list_get hv
  rw [cip_at h (by omega)]
  unfold cipC AesM.rk
  rw [if_neg (by omega), if_pos (by omega), show 1 + r * 16 + j - 1 = 16 * r + j by omega]
theorem cip_box (h : Blk w g t (cip m K B O d)) : w.rangeAt g 241 (ar 256 B).toList := fun j v hv => by
  obtain ⟨h1, rfl⟩ := ar_list_get hv
  rw [cip_at h (by omega)]
  unfold cipC
  rw [if_neg (by omega), if_neg (by omega), if_pos (by omega), show 241 + j - 241 = j by omega]
theorem cip_other (h : Blk w g t (cip m K B O d)) : w.rangeAt g 500 (ar 256 O).toList := fun j v hv => by
  obtain ⟨h1, rfl⟩ := ar_list_get hv
  rw [cip_at h (by omega)]
  unfold cipC
  rw [if_neg (by omega), if_neg (by omega), if_neg (by omega), if_neg (by omega), if_neg (by omega), if_neg (by omega), show 500 + j - 500 = j by omega]
/-- The round keys stored. -/
theorem cip_setK (h : Blk w g t (cip m K B O d)) (K' : Nat → Nat) : Blk (w.setCells g 1 (ar 240 K').toList) g t (cip m K' B O d) ∧ Below g w (w.setCells g 1 (ar 240 K').toList) := by
  have hl : (ar 240 K').toList.length = 240 := by rw [Array.length_toList, size_ar]
  obtain ⟨h1, h2⟩ := blk_setCells (ar 240 K').toList 1 w _ h (by rw [hl]; omega)
  refine ⟨?_, h2⟩
  have e : (row 756 fun j => if 1 ≤ j ∧ j < 1 + (ar 240 K').toList.length then (ar 240 K').toList.getD (j - 1) undef else cipC m K B O d j) = cip m K' B O d := row_ext fun j hj => by
    rw [hl]
    unfold cipC
    by_cases h0 : 1 ≤ j ∧ j < 1 + 240
    · rw [if_pos h0, ar_getD (by omega), if_neg (by omega), if_pos (by omega)]
    · rw [if_neg h0]
      by_cases h3 : j = 0
      · rw [if_pos h3, if_pos h3]
      · rw [if_neg h3, if_neg h3, if_neg (show ¬ j < 241 by omega), if_neg (show ¬ j < 241 by omega)]
  rw [e] at h1
  exact h1
theorem cipC_setO {p v j : Nat} (hp : p < 256) (hj : j < 756) : (if j = 500 + p then Value.int .u8 (v : Nat) else cipC m K B O d j) = cipC m K B (fun j => if j = p then v else O j) d j := by
  by_cases h0 : j = 500 + p
  · subst h0
    rw [if_pos rfl]
    unfold cipC
    rw [if_neg (by omega), if_neg (by omega), if_neg (by omega), if_neg (by omega), if_neg (by omega), if_neg (by omega)]
    show _ = Value.int .u8 ((if 500 + p - 500 = p then v else O (500 + p - 500) : Nat) : Int)
    rw [if_pos (by omega)]
  · rw [if_neg h0]
    unfold cipC
    by_cases h5 : j < 500
    · by_cases h6 : j = 499
      · subst h6; rfl
      · by_cases h7 : j = 498
        · subst h7; rfl
        · by_cases h8 : j = 497
          · subst h8; rfl
          · by_cases h9 : j = 0
            · subst h9; rfl
            · rw [if_neg h9, if_neg h9]
              by_cases h10 : j < 241
              · rw [if_pos h10, if_pos h10]
              · rw [if_neg h10, if_neg h10, if_pos (show j < 497 by omega), if_pos (show j < 497 by omega)]
    · rw [if_neg (show ¬ j = 0 by omega), if_neg (show ¬ j < 241 by omega), if_neg (show ¬ j < 497 by omega), if_neg (show ¬ j = 497 by omega), if_neg (show ¬ j = 498 by omega), if_neg (show ¬ j = 499 by omega),
        if_neg (show ¬ j = 0 by omega), if_neg (show ¬ j < 241 by omega), if_neg (show ¬ j < 497 by omega), if_neg (show ¬ j = 497 by omega), if_neg (show ¬ j = 498 by omega), if_neg (show ¬ j = 499 by omega)]
      show _ = Value.int .u8 ((if j - 500 = p then v else O (j - 500) : Nat) : Int)
      rw [if_neg (by omega)]
/-- A byte of the other box stored. -/
theorem cip_setO (h : Blk w g t (cip m K B O d)) {p v : Nat} (hp : p < 256) : Blk (w.setCell ⟨g, 500 + p, none⟩ (.int .u8 (v : Nat))) g t (cip m K B (fun j => if j = p then v else O j) d) := by
  have h1 := h.setCell_same (500 + p) (.int .u8 (v : Nat))
  unfold cip at h1
  rw [row_set, row_ext fun j hj => cipC_setO hp hj] at h1
  exact h1
theorem cipC_setD {d' j : Nat} : (if j = 497 then Value.int .u32 (d' : Nat) else cipC m K B O d j) = cipC m K B O d' j := by
  by_cases h0 : j = 497
  · subst h0; rfl
  · rw [if_neg h0]
    unfold cipC
    by_cases h9 : j = 0
    · rw [if_pos h9, if_pos h9]
    · rw [if_neg h9, if_neg h9]
      by_cases h10 : j < 241
      · rw [if_pos h10, if_pos h10]
      · rw [if_neg h10, if_neg h10]
        by_cases h11 : j < 497
        · rw [if_pos h11, if_pos h11]
        · rw [if_neg h11, if_neg h11, if_neg h0, if_neg h0]
/-- The mark 'done' stored. -/
theorem cip_setD (h : Blk w g t (cip m K B O d)) (d' : Nat) : Blk (w.setCell ⟨g, 497, none⟩ (.int .u32 (d' : Nat))) g t (cip m K B O d') := by
  have h1 := h.setCell_same 497 (.int .u32 (d' : Nat))
  unfold cip at h1
  rw [row_set, row_ext fun j _ => cipC_setD] at h1
  exact h1
end
section
variable {ops : Array Oper} {Q : Exit → Act → World → Prop} {a : Act} {w : World} {rest : List Oper} {dst : Option Tmp} {ty : TypeId} {pos : String} {after : Array Edge} {x y : Operand} {B : Nat → Nat}
theorem stC {T : TypeId} {g o m N : Nat} {t : TypeId} {F : Nat → Value} {h : Nat → Nat} (hT : ArT T m) (hx : a.eval x = .pointer (some ⟨g, o, none⟩)) (hy : a.eval y = .agg (ar m h)) (hb : Blk w g t (row N F)) (hm : o + m ≤ N)
    (hk : wpList Try.prog ops Q rest (a.put dst undef) (w.setCells g o (ar m h).toList)) : wpList Try.prog ops Q (⟨dst, .store T x y, ty, pos, after, none⟩ :: rest) a w :=
  wpList_store_mid rfl T x y rfl g o (ar m h) hx hy (by rw [size_ar]; exact hb.there hm) (hT.size.trans (by rw [size_ar])) ar_one hk
theorem bldC (hx : a.eval x = .bool true) (hy : a.eval y = .agg (ar 256 B)) (h : wpList Try.prog ops Q rest (a.put dst (.agg (cip true (fun _ => 0) B (fun _ => 0) 0))) w) :
    wpList Try.prog ops Q (⟨dst, .build 74 #[(0, x), (2, y)], ty, pos, after, none⟩ :: rest) a w := by
  have hr := run_build (P := Try.prog) w 74 #[(0, a.eval x), (2, a.eval y)] _ (by rw [hx, hy]; exact built_cip B)
  generalize cip true (fun _ => 0) B (fun _ => 0) 0 = c at hr h
  refine wpList_plain rfl fun K hK => ?_
  unfold Oper.wp execOp
  simp [hr, Result.andThen]
  exact hK _ _ h
end
end AesP
end Go.Proofs.Ytfnepbkgmopjcaa
