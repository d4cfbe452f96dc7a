/-
  The struct aes.Cipher as a value and in memory.
  Contract of aes.New.
  A region that draws its order and makes two new variables ('x, y := f(), g()'): their addresses hang on the order; all else does not.
  A region that draws its order and makes one new variable ('x := f(y)', the call no lone one): its address hangs on the order; all else does not.
  Rows of n bytes loaded in a drawn region that makes a variable.
  Contract of (*aes.Cipher).Seal.
  sync.Once, and the making of the other box: contracts of (*sync.Once).Do, (*aes.Cipher).otherBox.
  Contracts of (*aes.Cipher).otherBox, (*aes.Cipher).Open.
  AES-256 in plain numbers: the chapter's two examples, reckoned out.
  A region that draws its order, in which several operations write: the class of worlds hangs on which of them have come up (D), and on nothing else.
  A region that draws its order, whose values may hang on the order (addresses of what it makes): of each operation's value one states what it is like (S, of no world) and what the world then holds of it and of those it waits for (D, kept by what the others do: K).
  Slices of numbers of any kind: read out of one row; made by a call for itself, append.
  Two slices of the call's own beside each other: where the result of an append lies.
  An append leaves the slice that it was given as it was; the append in a region that draws its order.
  As XRegRel; what the world holds of a value is kept by those operations alone that it does not wait for.
-/
import Derived.Test.YtkcfonlondlmeaaMrgXtsSeals2
import Derived.Tactics
import Derived.Tactics2
import Derived.Defers
import Derived.Laws.Pointers
import Derived.Laws.LoneSync
import Derived.Laws.NewBlocks
import Derived.RegionTactic
import Derived.RegionCalls
import Derived.Laws.AppendOwn
import Derived.Laws.AppendOwnNone
import Derived.Deep.DeepAppendRoom
set_option linter.unusedVariables false
namespace Go.Proofs.Ytkcfonlondlmeaa
open Go.ChangeShapes Go.WideShapes Go.ChangeAt Go.RowKit
open AesM (Bt)
attribute [local go_sem] Gives
namespace AesP
/-- A cipher's cells. -/
def cipC (m : Bool) (K B O : Nat → Nat) (d : Nat) (j : Nat) : Value :=
  if j = 0 then .bool m else if j < 241 then .int .u8 (K (j - 1) : Nat) else if j < 497 then .int .u8 (B (j - 241) : Nat) else if j = 497 then .int .u32 d else if j = 498 then .int .i32 0 else if j = 499 then .int .u32 0 else .int .u8 (O (j - 500) : Nat)
def cip (m : Bool) (K B O : Nat → Nat) (d : Nat) : Array Value := row 756 (cipC m K B O d)
theorem info_cip : (Try.prog.info? 68).map (·.size) = some 756 := by kernel_rfl
theorem zero_cip : (Try.prog.info? 68).bind (·.zero) = some (.agg (cip false (fun _ => 0) (fun _ => 0) (fun _ => 0) 0)) := by kernel_rfl
theorem places_cip : ∃ fs, Try.prog.underlying 68 = some (.struct fs) ∧ fs.toList.mapM (fun f => (Try.prog.info? f.type).map fun i => (f.offset, i.size)) = some [(0, 1), (1, 240), (241, 256), (497, 3), (500, 256)] :=
  ⟨_, Try.underlying68, by kernel_rfl⟩
theorem fold_one (v : Value) (R : Array Value) : (#[v] : Array Value).zipIdx.foldl (fun cs (c, j) => cs.setIfInBounds (0 + j) c) R = R.setIfInBounds 0 v := by
  rw [← Array.foldl_toList, Array.toList_zipIdx]; rfl
theorem fill_cons {place : Nat → Option (Nat × Nat)} {cells : Array Value} {i off size : Nat} {v : Value} {rest : List (Nat × Value)} (h : place i = some (off, size)) (h1 : v.cells.size = size) (h2 : off + size ≤ cells.size) :
    Instr.fill place cells ((i, v) :: rest) = Instr.fill place (v.cells.zipIdx.foldl (fun cs (c, j) => cs.setIfInBounds (off + j) c) cells) rest := by
  subst h1
  rw [Instr.fill]
  simp only [h]
  rw [if_neg]
  simp
  omega
theorem fill_two {place : Nat → Option (Nat × Nat)} {R l : Array Value} (h0 : place 0 = some (0, 1)) (h2 : place 2 = some (241, 256)) (hR : R.size = 756) (hl : l.size = 256) :
    Instr.fill place R [(0, .bool true), (2, .agg l)] = some (l.zipIdx.foldl (fun cs (c, j) => cs.setIfInBounds (241 + j) c) (R.setIfInBounds 0 (.bool true))) := by
  have hz2 : (R.setIfInBounds 0 (.bool true)).size = 756 := by rw [Array.size_setIfInBounds, hR]
  have e1 : (Value.bool true).cells.zipIdx.foldl (fun cs (c, j) => cs.setIfInBounds (0 + j) c) R = R.setIfInBounds 0 (.bool true) := fold_one _ _
  rw [fill_cons h0 rfl (by omega), e1, fill_cons (v := .agg l) h2 hl (by omega)]
  rfl
theorem built_cip (B : Nat → Nat) : Try.prog.built 68 [(0, .bool true), (2, .agg (ar 256 B))] = some (cip true (fun _ => 0) B (fun _ => 0) 0) := by
  have h1 : ∃ i, Try.prog.info? 68 = some i ∧ i.zero = some (.agg (cip false (fun _ => 0) (fun _ => 0) (fun _ => 0) 0)) := by
    have := zero_cip
    cases h : Try.prog.info? 68 with
    | none => rw [h] at this; cases this
    | some i => rw [h] at this; exact ⟨i, rfl, this⟩
  obtain ⟨i, hi, hz⟩ := h1
  obtain ⟨fs, hf, hp⟩ := places_cip
  unfold Program.built
  rw [hi, hf]
  simp only [hz, hp, Value.cells]
  unfold cip
  have e : (ar 256 B).zipIdx.foldl (fun cs (c, j) => cs.setIfInBounds (241 + j) c) ((row 756 (cipC false (fun _ => 0) (fun _ => 0) (fun _ => 0) 0)).setIfInBounds 0 (.bool true)) = row 756 (cipC true (fun _ => 0) B (fun _ => 0) 0) := by
    rw [← Array.foldl_toList, Array.toList_zipIdx, row_set]
    refine (fold_row 241 756 (ar 256 B).toList 0 _).trans ?_
    simp only [Array.length_toList, size_ar, Nat.add_zero]
    refine row_ext fun j _ => ?_
    by_cases hj : 241 ≤ j ∧ j < 241 + 256
    · rw [if_pos hj, ar_getD (by omega)]
      unfold cipC
      rw [if_neg (by omega), if_neg (by omega), if_pos (by omega)]
    · rw [if_neg hj]
      unfold cipC
      by_cases h0 : j = 0
      · rw [if_pos h0, if_pos h0]
      · rw [if_neg h0, if_neg h0, if_neg h0]
        by_cases h1 : j < 241
        · rw [if_pos h1, if_pos h1]
        · have h2 : ¬ j < 497 := by omega
          rw [if_neg h1, if_neg h1, if_neg h2, if_neg h2]
  exact (fill_two rfl rfl size_row size_ar).trans (congrArg some e)
/-- A cipher in memory: made, of the round keys K; b: is the other box there? -/
def Cip (w : World) (g : Nat) (K : Nat → Nat) (b : Bool) : Prop := Blk w g 68 (cip true K AesM.boxF (if b then AesM.oboxF else fun _ => 0) (if b then 1 else 0))
section
variable {w w' : World} {g : Nat} {K B O : Nat → Nat} {d : Nat} {m : Bool} {t : TypeId}
theorem cip_one : (cip m K B O d).all (·.oneCell') = true := row_one fun j _ => by
  unfold cipC
  split
  · rfl
  · split
    · rfl
    · split
      · rfl
      · split
        · rfl
        · split
          · rfl
          · split <;> rfl
theorem cip_at (h : Blk w g t (cip m K B O d)) {j : Nat} (hj : j < 756) : w.cell? ⟨g, j, none⟩ = some (cipC m K B O d j) := (h.cell j).trans (get_row_lt hj)
theorem cip_made (h : Blk w g t (cip m K B O d)) : w.cell? ⟨g, 0, none⟩ = some (.bool m) := cip_at h (by omega)
/-- Round key r. -/
theorem cip_key (h : Blk w g t (cip m K B O d)) {r : Nat} (hr : r < 15) : w.rangeAt g (1 + r * 16) (ar 16 (AesM.rk K r)).toList := fun j v hv => by
  obtain ⟨h1, rfl⟩ := ar_list_get hv
  rw [cip_at h (by omega)]
  unfold cipC AesM.rk
  rw [if_neg (by omega), if_pos (by omega), show 1 + r * 16 + j - 1 = 16 * r + j by omega]
theorem cip_box (h : Blk w g t (cip m K B O d)) : w.rangeAt g 241 (ar 256 B).toList := fun j v hv => by
  obtain ⟨h1, rfl⟩ := ar_list_get hv
  rw [cip_at h (by omega)]
  unfold cipC
  rw [if_neg (by omega), if_neg (by omega), if_pos (by omega), show 241 + j - 241 = j by omega]
theorem cip_other (h : Blk w g t (cip m K B O d)) : w.rangeAt g 500 (ar 256 O).toList := fun j v hv => by
  obtain ⟨h1, rfl⟩ := ar_list_get hv
  rw [cip_at h (by omega)]
  unfold cipC
  rw [if_neg (by omega), if_neg (by omega), if_neg (by omega), if_neg (by omega), if_neg (by omega), if_neg (by omega), show 500 + j - 500 = j by omega]
/-- The round keys stored. -/
theorem cip_setK (h : Blk w g t (cip m K B O d)) (K' : Nat → Nat) : Blk (w.setCells g 1 (ar 240 K').toList) g t (cip m K' B O d) ∧ Below g w (w.setCells g 1 (ar 240 K').toList) := by
  have hl : (ar 240 K').toList.length = 240 := by rw [Array.length_toList, size_ar]
  obtain ⟨h1, h2⟩ := blk_setCells (ar 240 K').toList 1 w _ h (by rw [hl]; omega)
  refine ⟨?_, h2⟩
  have e : (row 756 fun j => if 1 ≤ j ∧ j < 1 + (ar 240 K').toList.length then (ar 240 K').toList.getD (j - 1) undef else cipC m K B O d j) = cip m K' B O d := row_ext fun j hj => by
    rw [hl]
    unfold cipC
    by_cases h0 : 1 ≤ j ∧ j < 1 + 240
    · rw [if_pos h0, ar_getD (by omega), if_neg (by omega), if_pos (by omega)]
    · rw [if_neg h0]
      by_cases h3 : j = 0
      · rw [if_pos h3, if_pos h3]
      · rw [if_neg h3, if_neg h3, if_neg (show ¬ j < 241 by omega), if_neg (show ¬ j < 241 by omega)]
  rw [e] at h1
  exact h1
theorem cipC_setO {p v j : Nat} (hp : p < 256) (hj : j < 756) : (if j = 500 + p then Value.int .u8 (v : Nat) else cipC m K B O d j) = cipC m K B (fun j => if j = p then v else O j) d j := by
  by_cases h0 : j = 500 + p
  · subst h0
    rw [if_pos rfl]
    unfold cipC
    rw [if_neg (by omega), if_neg (by omega), if_neg (by omega), if_neg (by omega), if_neg (by omega), if_neg (by omega)]
    show _ = Value.int .u8 ((if 500 + p - 500 = p then v else O (500 + p - 500) : Nat) : Int)
    rw [if_pos (by omega)]
  · rw [if_neg h0]
    unfold cipC
    by_cases h5 : j < 500
    · by_cases h6 : j = 499
      · subst h6; rfl
      · by_cases h7 : j = 498
        · subst h7; rfl
        · by_cases h8 : j = 497
          · subst h8; rfl
          · by_cases h9 : j = 0
            · subst h9; rfl
            · rw [if_neg h9, if_neg h9]
              by_cases h10 : j < 241
              · rw [if_pos h10, if_pos h10]
              · rw [if_neg h10, if_neg h10, if_pos (show j < 497 by omega), if_pos (show j < 497 by omega)]
    · rw [if_neg (show ¬ j = 0 by omega), if_neg (show ¬ j < 241 by omega), if_neg (show ¬ j < 497 by omega), if_neg (show ¬ j = 497 by omega), if_neg (show ¬ j = 498 by omega), if_neg (show ¬ j = 499 by omega),
        if_neg (show ¬ j = 0 by omega), if_neg (show ¬ j < 241 by omega), if_neg (show ¬ j < 497 by omega), if_neg (show ¬ j = 497 by omega), if_neg (show ¬ j = 498 by omega), if_neg (show ¬ j = 499 by omega)]
      show _ = Value.int .u8 ((if j - 500 = p then v else O (j - 500) : Nat) : Int)
      rw [if_neg (by omega)]
/-- A byte of the other box stored. -/
theorem cip_setO (h : Blk w g t (cip m K B O d)) {p v : Nat} (hp : p < 256) : Blk (w.setCell ⟨g, 500 + p, none⟩ (.int .u8 (v : Nat))) g t (cip m K B (fun j => if j = p then v else O j) d) := by
  have h1 := h.setCell_same (500 + p) (.int .u8 (v : Nat))
  unfold cip at h1
  rw [row_set, row_ext fun j hj => cipC_setO hp hj] at h1
  exact h1
theorem cipC_setD {d' j : Nat} : (if j = 497 then Value.int .u32 (d' : Nat) else cipC m K B O d j) = cipC m K B O d' j := by
  by_cases h0 : j = 497
  · subst h0; rfl
  · rw [if_neg h0]
    unfold cipC
    by_cases h9 : j = 0
    · rw [if_pos h9, if_pos h9]
    · rw [if_neg h9, if_neg h9]
      by_cases h10 : j < 241
      · rw [if_pos h10, if_pos h10]
      · rw [if_neg h10, if_neg h10]
        by_cases h11 : j < 497
        · rw [if_pos h11, if_pos h11]
        · rw [if_neg h11, if_neg h11, if_neg h0, if_neg h0]
/-- The mark 'done' stored. -/
theorem cip_setD (h : Blk w g t (cip m K B O d)) (d' : Nat) : Blk (w.setCell ⟨g, 497, none⟩ (.int .u32 (d' : Nat))) g t (cip m K B O d') := by
  have h1 := h.setCell_same 497 (.int .u32 (d' : Nat))
  unfold cip at h1
  rw [row_set, row_ext fun j _ => cipC_setD] at h1
  exact h1
end
section
variable {ops : Array Oper} {Q : Exit → Act → World → Prop} {a : Act} {w : World} {rest : List Oper} {dst : Option Tmp} {ty : TypeId} {pos : String} {after : Array Edge} {x y : Operand} {B : Nat → Nat}
theorem stC {T : TypeId} {g o m N : Nat} {t : TypeId} {F : Nat → Value} {h : Nat → Nat} (hT : ArT T m) (hx : a.eval x = .pointer (some ⟨g, o, none⟩)) (hy : a.eval y = .agg (ar m h)) (hb : Blk w g t (row N F)) (hm : o + m ≤ N)
    (hk : wpList Try.prog ops Q rest (a.put dst undef) (w.setCells g o (ar m h).toList)) : wpList Try.prog ops Q (⟨dst, .store T x y, ty, pos, after, none⟩ :: rest) a w :=
  wpList_store_mid rfl T x y rfl g o (ar m h) hx hy (by rw [size_ar]; exact hb.there hm) (hT.size.trans (by rw [size_ar])) ar_one hk
theorem bldC (hx : a.eval x = .bool true) (hy : a.eval y = .agg (ar 256 B)) (h : wpList Try.prog ops Q rest (a.put dst (.agg (cip true (fun _ => 0) B (fun _ => 0) 0))) w) :
    wpList Try.prog ops Q (⟨dst, .build 68 #[(0, x), (2, y)], ty, pos, after, none⟩ :: rest) a w := by
  have hr := run_build (P := Try.prog) w 68 #[(0, a.eval x), (2, a.eval y)] _ (by rw [hx, hy]; exact built_cip B)
  generalize cip true (fun _ => 0) B (fun _ => 0) 0 = c at hr h
  refine wpList_plain rfl fun K hK => ?_
  unfold Oper.wp execOp
  simp [hr, Result.andThen]
  exact hK _ _ h
end
end AesP
end Go.Proofs.Ytkcfonlondlmeaa
namespace Go.Proofs.Ytkcfonlondlmeaa
open Go.ChangeShapes Go.WideShapes Go.ChangeAt Go.RowKit
open AesM (Bt)
attribute [local go_sem] Gives
namespace AesP
set_option maxHeartbeats 400000 in
set_option maxRecDepth 100000 in
theorem new_any (k : Nat → Nat) (hk : Bt k) (w : World) :
    Calls Try.prog 13 #[.agg (ar 32 k)] w fun e w' => ∃ g, e = .returned (.pointer (some ⟨g, 0, none⟩)) ∧ w.heap.size ≤ g ∧ Cip w' g (AesM.ks k) false ∧ Below w.heap.size w w' := by
  have HK := hid hk
  clear hk
  go_enter Try.func13, Try.ntmps13
  go_wp2_with fail
  generalize hw1 : World.alloc w _ = w1
  have b1 : Blk w1 w.heap.size 23 (ar 32 k) := by rw [← hw1]; exact Blk.new _ _ _
  have hb : Below w.heap.size w w1 := by rw [← hw1]; exact (Below.refl _ _).alloc (Nat.le_refl _) _
  clear hw1
  refine (box_any _).mono ?_
  rintro e w2 ⟨rfl, h2⟩
  have d1 := b1.below h2 b1.lt
  have hb2 := hb.trans (h2.mono hb.size)
  clear b1 hb h2
  have hg1 : w.heap.size < w2.heap.size := d1.lt
  have hz : Blk (w2.alloc (.cells (cip true (fun _ => 0) AesM.boxF (fun _ => 0) 0) 68)) w2.heap.size 68 (cip true (fun _ => 0) AesM.boxF (fun _ => 0) 0) := Blk.new _ _ _
  obtain ⟨g, hg⟩ : ∃ g, g = w2.heap.size := ⟨_, rfl⟩
  go_upto_region 2 with ((with_reducible apply bldC); rfl; rfl)
  rw [← hg] at hz hg1 ⊢
  generalize hw3 : World.alloc w2 _ = w3 at hz ⊢
  have D1 := hid (show Blk w3 w.heap.size 23 (ar 32 k) by rw [← hw3]; exact d1.alloc _)
  have DB := hid (show Below w.heap.size w w3 by rw [← hw3]; exact hb2.alloc (by omega) _)
  have DZ := hid hz
  have HG := hid hg1
  have hg3 : g < w3.heap.size := hz.lt
  clear hw3 hz d1 hb2 hg hg1
  refine wp_region_tail (C := fun w' => Below w3.heap.size w3 w') 8 (by kernel_rfl) (by kernel_rfl) (by kernel_rfl) (Below.refl _ _).drew ?_
  simp only [List.take_succ_cons, List.take_zero, List.drop_succ_cons, List.drop_zero]
  apply wpK_val
  · rfl
  · intro w' hw'
    go_simp
    first | exact rfl | exact ⟨rfl, hw'⟩
  simp only [Act.put, List.setIfInBounds_toArray, List.set_cons_succ, List.set_cons_zero]
  apply kldA tKey
  · rfl
  · rfl
  · exact fun w' hw' => (D1.out.below hw' D1.out.lt).head
  simp only [Act.put, List.setIfInBounds_toArray, List.set_cons_succ, List.set_cons_zero]
  apply wpK_val
  · rfl
  · intro w' hw'
    go_simp
    first | exact rfl | exact ⟨rfl, hw'⟩
  simp only [Act.put, List.setIfInBounds_toArray, List.set_cons_succ, List.set_cons_zero]
  apply wpK_val
  · rfl
  · intro w' hw'
    go_simp
    first | exact rfl | exact ⟨rfl, hw'⟩
  simp only [Act.put, List.setIfInBounds_toArray, List.set_cons_succ, List.set_cons_zero]
  apply wpK_val
  · rfl
  · intro w' hw'
    go_simp
    first | exact rfl | exact ⟨rfl, hw'⟩
  simp only [Act.put, List.setIfInBounds_toArray, List.set_cons_succ, List.set_cons_zero]
  apply wpK_val
  · rfl
  · intro w' hw'
    go_simp
    exact (keys_any k AesM.boxF HK.out AesM.boxF_lt g 241 w' (Nat.lt_of_lt_of_le hg3 hw'.size) (range_below (cip_box DZ.out) hw' hg3)).mono fun e w2 h => ⟨h.1, hw'.trans (h.2.mono hw'.size)⟩
  simp only [Act.put, List.setIfInBounds_toArray, List.set_cons_succ, List.set_cons_zero]
  apply wpK_val
  · rfl
  · intro w' hw'
    go_simp
    first | exact rfl | exact ⟨rfl, hw'⟩
  simp only [Act.put, List.setIfInBounds_toArray, List.set_cons_succ, List.set_cons_zero]
  apply wpK_val
  · rfl
  · intro w' hw'
    go_simp
    first | exact rfl | exact ⟨rfl, hw'⟩
  simp only [Act.put, List.setIfInBounds_toArray, List.set_cons_succ, List.set_cons_zero]
  refine wpK_nil fun w5 hw5 => ?_
  have r := DZ.out.below hw5 hg3
  have rb := DB.out.trans (hw5.mono DB.out.size)
  clear D1 DB DZ hw5
  go_wp2_with ((with_reducible apply stC tKs); rfl; rfl; exact r; omega)
  obtain ⟨x1, xb⟩ := cip_setK r (AesM.W AesM.boxF k)
  have e : cip true (AesM.W AesM.boxF k) AesM.boxF (fun _ => 0) 0 = cip true (AesM.ks k) AesM.boxF (fun _ => 0) 0 := row_ext fun j _ => by
    unfold cipC
    by_cases h0 : j = 0
    · rw [if_pos h0, if_pos h0]
    · rw [if_neg h0, if_neg h0]
      by_cases h1 : j < 241
      · rw [if_pos h1, if_pos h1]
        unfold AesM.ks
        rw [if_pos (by omega)]
      · rw [if_neg h1, if_neg h1]
  rw [e] at x1
  have h9 := HG.out
  have hb9 := rb.trans (xb.mono (by omega))
  generalize World.setCells _ _ _ _ = w9 at x1 hb9 ⊢
  go_ret
  exact ⟨g, rfl, by omega, x1, hb9⟩
end AesP
end Go.Proofs.Ytkcfonlondlmeaa
namespace Go.Proofs.Ytkcfonlondlmeaa
open Go.RowKit
section
variable {P : Program} {ops : Array Oper}
/-- The operations in the order of the text; each hands on a world of the class, in which all that was there stands. -/
def wpB (P : Program) (ops : Array Oper) (C : World → Prop) (Q : Act → Prop) : List Oper → Act → Prop
  | [], a => Q a
  | o :: rest, a => ∃ v, ((Region.wanted o (yielded ops a.tmps) = true ∧ ∀ w, C w → Gives P o a w v fun w' => C w' ∧ Below w.heap.size w w') ∨ (Region.wanted o (yielded ops a.tmps) = false ∧ v = undef)) ∧ wpB P ops C Q rest (a.put o.dst v)
section
variable {C : World → Prop} {Qk : Act → Prop} {o : Oper} {rest : List Oper} {a : Act} {v : Value}
theorem wpB_nil (h : Qk a) : wpB P ops C Qk [] a := h
theorem wpB_val (hw : Region.wanted o (yielded ops a.tmps) = true) (h1 : ∀ w, C w → Gives P o a w v fun w' => C w' ∧ Below w.heap.size w w') (h2 : wpB P ops C Qk rest (a.put o.dst v)) : wpB P ops C Qk (o :: rest) a := ⟨v, .inl ⟨hw, h1⟩, h2⟩
end
theorem wpB_vals {C : World → Prop} {Qk : Act → Prop} : ∀ (l : List Oper) (a : Act), wpB P ops C Qk l a → ∃ vals : Nat → Value, Qk (lexF l vals l.length a) ∧
    ∀ i o, l[i]? = some o → ((Region.wanted o (yielded ops (lexF l vals i a).tmps) = true ∧ ∀ w, C w → Gives P o (lexF l vals i a) w (vals i) fun w' => C w' ∧ Below w.heap.size w w') ∨ (Region.wanted o (yielded ops (lexF l vals i a).tmps) = false ∧ vals i = undef))
  | [], a, h => ⟨fun _ => undef, h, fun i o hi => by simp at hi⟩
  | o :: l, a, h => by
    obtain ⟨v, h1, h2⟩ := h
    obtain ⟨vals, hq, hs⟩ := wpB_vals l _ h2
    refine ⟨fun j => match j with | 0 => v | j + 1 => vals j, ?_, fun i o' hi => ?_⟩
    · rw [List.length_cons, lexF_cons]; exact hq
    · cases i with
      | zero =>
        simp only [List.getElem?_cons_zero, Option.some.injEq] at hi
        subst hi
        exact h1
      | succ i =>
        rw [lexF_cons]
        exact hs i o' (by simpa using hi)
theorem lexF_congr {l l' : List Oper} {v v' : Nat → Value} : ∀ {i : Nat} {a : Act}, (∀ j, j < i → l[j]? = l'[j]? ∧ v j = v' j) → lexF l v i a = lexF l' v' i a
  | 0, _, _ => rfl
  | i + 1, a, h => by
    simp only [lexF, lexF_congr (i := i) (a := a) fun j hj => h j (by omega), (h i (by omega)).1, (h i (by omega)).2]
theorem gives_mono {o : Oper} {a : Act} {w : World} {v : Value} {R R' : World → Prop} (h : Gives P o a w v R) (hr : ∀ w', R w' → R' w') : Gives P o a w v R' := by
  unfold Gives at *
  generalize (execOp a.eval o).run P w = r at *
  cases r with
  | ok n w' =>
    cases n <;> simp only at h ⊢
    case value u => exact ⟨h.1, hr _ h.2⟩
    case skip => exact ⟨h.1, hr _ h.2⟩
    case enter f args => exact h.mono fun e w'' ⟨he, hR⟩ => ⟨he, hr _ hR⟩
  | halt x w' => exact h
def ptr (b : Nat) : Value := .pointer (some ⟨b, 0, none⟩)
theorem wp_region_new2 {id : Nat} {Q : Exit → Act → World → Prop} {C : World → Prop} {a : Act} {w : World} {l : List Oper} (n : Nat) (T : TypeId) (z : Array Value) (d1 d2 : Tmp) {t1 t2 : TypeId} {p1 p2 : String} {e1 e2 : Array Edge}
    (hl1 : l[n]? = some ⟨some d1, .alloc T, t1, p1, e1, none⟩) (hl2 : l[n + 1]? = some ⟨some d2, .alloc T, t2, p2, e2, none⟩)
    (hm : P.follows .mixedOrders = true) (ht : tidy l.toArray = true) (hB : tailB l.toArray (n + 2) = true)
    (ha : ∀ w, (Instr.alloc T true (.tuple #[])).run P w = .ok (.pointer (some ⟨w.heap.size, 0, none⟩)) (w.alloc (.cells z T)))
    (hC : C w.drew) (hCa : ∀ w, C w → C (w.alloc (.cells z T))) (hCs : ∀ w', C w' → w.heap.size ≤ w'.heap.size)
    (h : wpB P l.toArray C (fun a' => ∀ b1 b2 w', b1 ≠ b2 → C w' → Blk w' b1 T z → Blk w' b2 T z → w.heap.size ≤ b1 → w.heap.size ≤ b2 →
      wpList P l.toArray Q (l.drop (n + 2)) ((a'.put (some d1) (ptr b1)).put (some d2) (ptr b2)) w') (l.take n) a) : (Code.region id l.toArray true).wp P Q a w := by
  obtain ⟨vals, hq, hs⟩ := wpB_vals _ _ h
  have hln : n + 1 < l.length := (List.getElem?_eq_some_iff.1 hl2).1
  have hlen : (l.take n).length = n := by rw [List.length_take]; omega
  let V : Nat × Nat → Nat → Value := fun γ i => if i = n then ptr γ.1 else if i = n + 1 then ptr γ.2 else vals i
  have hV : ∀ γ i, i < n → V γ i = vals i := fun γ i hi => by show (if _ then _ else _) = _; rw [if_neg (by omega), if_neg (by omega)]
  have hfr : ∀ γ i, i ≤ n → lexF (l.take (n + 2)) (V γ) i a = lexF (l.take n) vals i a := fun γ i hi => lexF_congr fun j hj =>
    ⟨by rw [List.getElem?_take_of_lt (by omega), List.getElem?_take_of_lt (by omega)], hV γ j (by omega)⟩
  refine region_core (Γ := Nat × Nat) (C := fun γ L w' => C w' ∧ (L.getD n false = true → Blk w' γ.1 T z ∧ w.heap.size ≤ γ.1) ∧ (L.getD (n + 1) false = true → Blk w' γ.2 T z ∧ w.heap.size ≤ γ.2) ∧
      (L.getD n false = true → L.getD (n + 1) false = true → γ.1 ≠ γ.2)) (n + 2) hm ht hB (0, 0)
    ⟨hC, (fun h => by rw [getD_replicate_false] at h; cases h), (fun h => by rw [getD_replicate_false] at h; cases h), (fun h => by rw [getD_replicate_false] at h; cases h)⟩ V ?_ ?_
  · intro i o hi γ L w' hsz hr ⟨hC', g1, g2, g3⟩
    have hilt : i < n + 2 := by
      have := (List.getElem?_eq_some_iff.1 hi).1
      rw [List.length_take] at this; omega
    rw [List.getElem?_take_of_lt hilt] at hi
    have hun := getD_both (mem_ready.1 hr).1
    rcases Nat.lt_or_ge i n with hin | hin
    · -- no allocation
      have hset : ∀ k, k ≠ i → (L.setIfInBounds i true).getD k false = L.getD k false := fun k hk => getD_set_ne false (Ne.symm hk)
      refine ⟨γ, fun _ _ => rfl, ?_⟩
      rw [hfr γ i (by omega), hV γ i hin]
      simp only [hset n (by omega), hset (n + 1) (by omega)]
      rcases hs i o (by rw [List.getElem?_take_of_lt hin]; exact hi) with ⟨h1, h2⟩ | ⟨h1, h2⟩
      · exact .inl ⟨h1, gives_mono (h2 w' hC') fun w'' ⟨h3, h4⟩ => ⟨h3, fun e => ⟨(g1 e).1.below h4 (g1 e).1.lt, (g1 e).2⟩, fun e => ⟨(g2 e).1.below h4 (g2 e).1.lt, (g2 e).2⟩, g3⟩⟩
      · exact .inr ⟨h1, h2, hC', g1, g2, g3⟩
    · have hw : ∀ b : Act, (execOp b.eval ⟨some d1, .alloc T, t1, p1, e1, none⟩).run P w' = .ok (.value (.pointer (some ⟨w'.heap.size, 0, none⟩))) (w'.alloc (.cells z T)) := fun b => by
        simp only [execOp, Sem.run_bind, ha w', Result.andThen_ok, Sem.run_pure]
      have hw2 : ∀ b : Act, (execOp b.eval ⟨some d2, .alloc T, t2, p2, e2, none⟩).run P w' = .ok (.value (.pointer (some ⟨w'.heap.size, 0, none⟩))) (w'.alloc (.cells z T)) := fun b => by
        simp only [execOp, Sem.run_bind, ha w', Result.andThen_ok, Sem.run_pure]
      by_cases hi1 : i = n
      · subst hi1
        obtain rfl : _ = o := Option.some.inj (hl1.symm.trans hi)
        refine ⟨(w'.heap.size, γ.2), fun j hj => ?_, .inl ⟨rfl, ?_⟩⟩
        · have hjn : j ≠ i := fun e => by subst e; rw [hun] at hj; cases hj
          simp only [V, if_neg hjn]
        · refine gives_value (w' := w'.alloc (.cells z T)) ?_ ?_
          · rw [hw]
            simp only [V, if_pos]; rfl
          · refine ⟨hCa _ hC', fun _ => ⟨Blk.new _ _ _, hCs _ hC'⟩, fun e => ?_, fun _ e => ?_⟩
            · rw [getD_set_ne false (by omega)] at e
              exact ⟨(g2 e).1.alloc _, (g2 e).2⟩
            · rw [getD_set_ne false (by omega)] at e
              have := (g2 e).1.lt
              exact Nat.ne_of_gt this
      · obtain rfl : i = n + 1 := by omega
        obtain rfl : _ = o := Option.some.inj (hl2.symm.trans hi)
        refine ⟨(γ.1, w'.heap.size), fun j hj => ?_, .inl ⟨rfl, ?_⟩⟩
        · have hj2 : j ≠ n + 1 := fun e => by subst e; rw [hun] at hj; cases hj
          simp only [V, if_neg hj2]
        · refine gives_value (w' := w'.alloc (.cells z T)) ?_ ?_
          · rw [hw2]
            simp only [V, if_neg (show ¬ n + 1 = n by omega), if_pos]; rfl
          · refine ⟨hCa _ hC', fun e => ?_, fun _ => ⟨Blk.new _ _ _, hCs _ hC'⟩, fun e _ => ?_⟩
            · rw [getD_set_ne false (by omega)] at e
              exact ⟨(g1 e).1.alloc _, (g1 e).2⟩
            · rw [getD_set_ne false (by omega)] at e
              have := (g1 e).1.lt
              exact Nat.ne_of_lt this
  · intro γ L w' hall ⟨hC', g1, g2, g3⟩
    have h1 := hall n (by omega)
    have h2 := hall (n + 1) (by omega)
    have hl2' : (l.take (n + 2)).length = n + 2 := by rw [List.length_take]; omega
    rw [hl2']
    have hput : lexF (l.take (n + 2)) (V γ) (n + 2) a = ((lexF (l.take n) vals n a).put (some d1) (ptr γ.1)).put (some d2) (ptr γ.2) := by
      rw [lexF, lexF, hfr γ n (Nat.le_refl n), List.getElem?_take_of_lt (by omega), List.getElem?_take_of_lt (by omega), hl1, hl2]
      simp only [V, if_neg (show ¬ n + 1 = n by omega), if_pos, Option.bind_some]
    rw [hput]
    rw [hlen] at hq
    exact hq γ.1 γ.2 w' (g3 h1 h2) hC' (g1 h1).1 (g2 h2).1 (g1 h1).2 (g2 h2).2
end
end Go.Proofs.Ytkcfonlondlmeaa
namespace Go.Proofs.Ytkcfonlondlmeaa
open Go.RowKit
section
variable {P : Program} {ops : Array Oper}
theorem wp_region_new1 {id : Nat} {Q : Exit → Act → World → Prop} {C : World → Prop} {a : Act} {w : World} {l : List Oper} (n : Nat) (T : TypeId) (z : Array Value) (d1 : Tmp) {t1 : TypeId} {p1 : String} {e1 : Array Edge}
    (hl1 : l[n]? = some ⟨some d1, .alloc T, t1, p1, e1, none⟩)
    (hm : P.follows .mixedOrders = true) (ht : tidy l.toArray = true) (hB : tailB l.toArray (n + 1) = true)
    (ha : ∀ w, (Instr.alloc T true (.tuple #[])).run P w = .ok (.pointer (some ⟨w.heap.size, 0, none⟩)) (w.alloc (.cells z T)))
    (hC : C w.drew) (hCa : ∀ w, C w → C (w.alloc (.cells z T))) (hCs : ∀ w', C w' → w.heap.size ≤ w'.heap.size)
    (h : wpB P l.toArray C (fun a' => ∀ b1 w', C w' → Blk w' b1 T z → w.heap.size ≤ b1 →
      wpList P l.toArray Q (l.drop (n + 1)) (a'.put (some d1) (ptr b1)) w') (l.take n) a) : (Code.region id l.toArray true).wp P Q a w := by
  obtain ⟨vals, hq, hs⟩ := wpB_vals _ _ h
  have hln : n < l.length := (List.getElem?_eq_some_iff.1 hl1).1
  have hlen : (l.take n).length = n := by rw [List.length_take]; omega
  let V : Nat → Nat → Value := fun γ i => if i = n then ptr γ else vals i
  have hV : ∀ γ i, i < n → V γ i = vals i := fun γ i hi => by show (if _ then _ else _) = _; rw [if_neg (by omega)]
  have hfr : ∀ γ i, i ≤ n → lexF (l.take (n + 1)) (V γ) i a = lexF (l.take n) vals i a := fun γ i hi => lexF_congr fun j hj =>
    ⟨by rw [List.getElem?_take_of_lt (by omega), List.getElem?_take_of_lt (by omega)], hV γ j (by omega)⟩
  refine region_core (Γ := Nat) (C := fun γ L w' => C w' ∧ (L.getD n false = true → Blk w' γ T z ∧ w.heap.size ≤ γ)) (n + 1) hm ht hB 0
    ⟨hC, (fun h => by rw [getD_replicate_false] at h; cases h)⟩ V ?_ ?_
  · intro i o hi γ L w' hsz hr ⟨hC', g1⟩
    have hilt : i < n + 1 := by
      have := (List.getElem?_eq_some_iff.1 hi).1
      rw [List.length_take] at this; omega
    rw [List.getElem?_take_of_lt hilt] at hi
    have hun := getD_both (mem_ready.1 hr).1
    rcases Nat.lt_or_ge i n with hin | hin
    · have hset : ∀ k, k ≠ i → (L.setIfInBounds i true).getD k false = L.getD k false := fun k hk => getD_set_ne false (Ne.symm hk)
      refine ⟨γ, fun _ _ => rfl, ?_⟩
      rw [hfr γ i (by omega), hV γ i hin]
      simp only [hset n (by omega)]
      rcases hs i o (by rw [List.getElem?_take_of_lt hin]; exact hi) with ⟨h1, h2⟩ | ⟨h1, h2⟩
      · exact .inl ⟨h1, gives_mono (h2 w' hC') fun w'' ⟨h3, h4⟩ => ⟨h3, fun e => ⟨(g1 e).1.below h4 (g1 e).1.lt, (g1 e).2⟩⟩⟩
      · exact .inr ⟨h1, h2, hC', g1⟩
    · obtain rfl : i = n := by omega
      obtain rfl : _ = o := Option.some.inj (hl1.symm.trans hi)
      have hw : ∀ b : Act, (execOp b.eval ⟨some d1, .alloc T, t1, p1, e1, none⟩).run P w' = .ok (.value (.pointer (some ⟨w'.heap.size, 0, none⟩))) (w'.alloc (.cells z T)) := fun b => by
        simp only [execOp, Sem.run_bind, ha w', Result.andThen_ok, Sem.run_pure]
      refine ⟨w'.heap.size, fun j hj => ?_, .inl ⟨rfl, ?_⟩⟩
      · have hjn : j ≠ i := fun e => by subst e; rw [hun] at hj; cases hj
        simp only [V, if_neg hjn]
      · refine gives_value (w' := w'.alloc (.cells z T)) ?_ ?_
        · rw [hw]
          simp only [V, if_pos]; rfl
        · exact ⟨hCa _ hC', fun _ => ⟨Blk.new _ _ _, hCs _ hC'⟩⟩
  · intro γ L w' hall ⟨hC', g1⟩
    have h1 := hall n (by omega)
    have hl2' : (l.take (n + 1)).length = n + 1 := by rw [List.length_take]; omega
    rw [hl2']
    have hput : lexF (l.take (n + 1)) (V γ) (n + 1) a = (lexF (l.take n) vals n a).put (some d1) (ptr γ) := by
      rw [lexF, hfr γ n (Nat.le_refl n), List.getElem?_take_of_lt (by omega), hl1]
      simp only [V, if_pos, Option.bind_some]
    rw [hput]
    rw [hlen] at hq
    exact hq γ w' hC' (g1 h1).1 (g1 h1).2
end
end Go.Proofs.Ytkcfonlondlmeaa
namespace Go.Proofs.Ytkcfonlondlmeaa
open Go.ChangeShapes Go.WideShapes Go.ChangeAt Go.RowKit
section
variable {ops : Array Oper} {a : Act} {rest : List Oper} {dst : Option Tmp} {ty : TypeId} {pos : String} {after : Array Edge} {x : Operand} {g o n : Nat} {f : Nat → Nat} {T : TypeId} {C : World → Prop} {Qk : Act → Prop} {gd : Option (Nat × Bool)}
theorem bldA (hT : ArT T n) (hwt : Region.wanted ⟨dst, .load T x, ty, pos, after, gd⟩ (yielded ops a.tmps) = true) (hx : a.eval x = .pointer (some ⟨g, o, none⟩)) (hb : ∀ w, C w → w.rangeAt g o (ar n f).toList) (h : wpB Try.prog ops C Qk rest (a.put dst (.agg (ar n f)))) :
    wpB Try.prog ops C Qk (⟨dst, .load T x, ty, pos, after, gd⟩ :: rest) a :=
  wpB_val hwt (fun w hw => gives_value (w' := w) (by simp only [execOp, hx, Sem.run_bind, run_ldm hT (hb w hw), Result.andThen_ok, Sem.run_pure]) ⟨hw, Below.refl _ _⟩) h
end
end Go.Proofs.Ytkcfonlondlmeaa
namespace Go.Proofs.Ytkcfonlondlmeaa
open Go.ChangeShapes Go.WideShapes Go.ChangeAt Go.RowKit
open AesM (Bt)
attribute [local go_sem] Gives
namespace AesP
theorem cip_lt {w : World} {g : Nat} {K : Nat → Nat} {b : Bool} (h : Cip w g K b) : g < w.heap.size := Blk.lt h
set_option maxHeartbeats 400000 in
set_option maxRecDepth 100000 in
theorem seal_any (K f : Nat → Nat) (b : Bool) (hK : Bt K) (hf : Bt f) (g : Nat) (w : World) (hc : Cip w g K b) :
    Calls Try.prog 17 #[.pointer (some ⟨g, 0, none⟩), .agg (ar 16 f)] w fun e w' => e = .returned (.agg (ar 16 (AesM.sealM K f))) ∧ Below w.heap.size w w' := by
  have HK := hid hK
  have HF := hid hf
  have HC := hid hc
  have hg := cip_lt hc
  clear hK hf hc
  go_enter Try.func17, Try.ntmps17
  go_upto_region 1 with (with_reducible apply alA tBk)
  generalize hw1 : World.alloc (World.alloc w _) _ = w1
  have b1 := hid (show Blk w1 w.heap.size 35 (ar 16 f) by rw [← hw1]; exact (Blk.new _ _ _).alloc _)
  have b2 := hid (show Blk w1 (w.heap.size + 1) 35 (ar 16 fun _ => 0) by rw [← hw1]; exact Blk.top rfl (by simp))
  have hb := hid (show Below w.heap.size w w1 by rw [← hw1]; exact ((Below.refl _ _).alloc (Nat.le_refl _) _).alloc (by simp) _)
  have c1 := hid (show Cip w1 g K b from Blk.below HC.out hb.out hg)
  have hm := cip_made c1.out
  have hs1 : w.heap.size < w1.heap.size := b1.out.lt
  clear hw1 HC
  go_wp2_with fail
  clear hm
  refine wp_region_new1 (C := fun w' => Below w1.heap.size w1 w') 7 53 (ar 16 fun _ => 0) 5 rfl (by kernel_rfl) (by kernel_rfl) (by kernel_rfl) (run_alloc_ar tSt) (Below.refl _ _).drew (fun w' hw' => hw'.alloc hw'.size _) (fun w' hw' => hw'.size) ?_
  simp only [List.take_succ_cons, List.take_zero, List.drop_succ_cons, List.drop_zero]
  apply bldA tBk
  · rfl
  · rfl
  · exact fun w' hw' => (b1.out.below hw' b1.out.lt).head
  simp only [Act.put, List.setIfInBounds_toArray, List.set_cons_succ, List.set_cons_zero]
  apply wpB_val
  · rfl
  · intro w' hw'
    have hbl := Below.refl w'.heap.size w'
    go_simp
    first | exact rfl | exact ⟨rfl, hbl⟩ | exact ⟨rfl, hw', hbl⟩
  simp only [Act.put, List.setIfInBounds_toArray, List.set_cons_succ, List.set_cons_zero]
  apply wpB_val
  · rfl
  · intro w' hw'
    have hbl := Below.refl w'.heap.size w'
    go_simp
    first | exact rfl | exact ⟨rfl, hbl⟩ | exact ⟨rfl, hw', hbl⟩
  simp only [Act.put, List.setIfInBounds_toArray, List.set_cons_succ, List.set_cons_zero]
  apply wpB_val
  · rfl
  · intro w' hw'
    have hbl := Below.refl w'.heap.size w'
    go_simp
    first | exact rfl | exact ⟨rfl, hbl⟩ | exact ⟨rfl, hw', hbl⟩
  simp only [Act.put, List.setIfInBounds_toArray, List.set_cons_succ, List.set_cons_zero]
  apply wpB_val
  · rfl
  · intro w' hw'
    have hbl := Below.refl w'.heap.size w'
    go_simp
    first | exact rfl | exact ⟨rfl, hbl⟩ | exact ⟨rfl, hw', hbl⟩
  simp only [Act.put, List.setIfInBounds_toArray, List.set_cons_succ, List.set_cons_zero]
  apply bldA tSt
  · rfl
  · rfl
  · exact fun w' hw' => range_below (cip_key c1.out (r := 0) (by omega)) hw' (cip_lt c1.out)
  simp only [Act.put, List.setIfInBounds_toArray, List.set_cons_succ, List.set_cons_zero]
  apply wpB_val
  · rfl
  · intro w' hw'
    go_simp
    exact (add_any f (AesM.rk K 0) HF.out (AesM.rk_bt HK.out 0) w').mono fun e w2 h => ⟨h.1, hw'.trans (h.2.mono hw'.size), h.2⟩
  simp only [Act.put, List.setIfInBounds_toArray, List.set_cons_succ, List.set_cons_zero]
  refine wpB_nil fun g5 w5 hw5 q5 hg5 => ?_
  have d2 := hid (b2.out.below hw5 b2.out.lt)
  have dc := hid (show Cip w5 g K b from Blk.below c1.out hw5 (cip_lt c1.out))
  have db := hid (hb.out.trans (hw5.mono hb.out.size))
  have h2lt : w.heap.size + 1 < g5 := Nat.lt_of_lt_of_le b2.out.lt hg5
  have hgl : g < g5 := Nat.lt_of_lt_of_le (cip_lt c1.out) hg5
  clear b1 b2 hb c1 hw5 hg5 hs1
  unfold ptr
  go_upto_region 4 with ((with_reducible apply stA tSt); rfl; rfl; exact q5)
  generalize hw6 : World.setRow _ _ _ = w6
  have e2 := hid (show Blk w6 (w.heap.size + 1) 35 (ar 16 fun _ => 0) by rw [← hw6]; exact d2.out.setRow_other (by omega) _)
  have ec := hid (show Cip w6 g K b by rw [← hw6]; exact Blk.setRow_other dc.out (by omega) _)
  have eb := hid (show Below w.heap.size w w6 by rw [← hw6]; exact below_setRow db.out (by omega) _)
  have e5 := hid (show Blk w6 g5 53 (ar 16 (AesM.ss K f 0)) by rw [← hw6]; exact q5.setRow_same _)
  clear hw6 d2 dc db q5 w5
  go_wp2_with fail
  go_loopw [6] (fun i wr => ∃ m : Nat, m ≤ 13 ∧ i = .int .i64 ((m : Int) + 1) ∧ Hid (Blk wr (w.heap.size + 1) 35 (ar 16 fun _ => 0)) ∧ Hid (Cip wr g K b) ∧ Hid (Below w.heap.size w wr) ∧ Hid (Blk wr g5 53 (ar 16 (AesM.ss K f m)))) (fun i _ => 14 - (intOf i).toNat)
  case atStart => exact ⟨0, by omega, rfl, e2, ec, eb, e5⟩
  case round =>
    clear e2 ec eb e5
    obtain ⟨m, hm, rfl, d2, dc, db, d5⟩ := hrel
    have cg := cip_lt dc.out
    by_cases hlt : m < 13
    · obtain ⟨r, hr⟩ : ∃ r, r = m + 1 := ⟨_, rfl⟩
      have e1 : (m : Int) + 1 = (r : Int) := by omega
      have tr : (r : Int) < 14 := by omega
      have tr15 : (r : Int) < 15 := by omega
      have hr15 : r < 15 := by omega
      have HR := hid hr
      clear hr
      go_wp2_with fail
      refine wp_region_tail (C := fun w' => Below wr.heap.size wr w') 14 (by kernel_rfl) (by kernel_rfl) (by kernel_rfl) (Below.refl _ _).drew ?_
      simp only [List.take_succ_cons, List.take_zero, List.drop_succ_cons, List.drop_zero]
      apply kldA tSt
      · rfl
      · rfl
      · exact fun w' hw' => (d5.out.below hw' d5.out.lt).head
      simp only [Act.put, List.setIfInBounds_toArray, List.set_cons_succ, List.set_cons_zero]
      apply wpK_val
      · rfl
      · intro w' hw'
        go_simp
        first | exact rfl | exact ⟨rfl, hw'⟩
      simp only [Act.put, List.setIfInBounds_toArray, List.set_cons_succ, List.set_cons_zero]
      apply wpK_val
      · rfl
      · intro w' hw'
        go_simp
        first | exact rfl | exact ⟨rfl, hw'⟩
      simp only [Act.put, List.setIfInBounds_toArray, List.set_cons_succ, List.set_cons_zero]
      apply wpK_val
      · rfl
      · intro w' hw'
        go_simp
        first | exact rfl | exact ⟨rfl, hw'⟩
      simp only [Act.put, List.setIfInBounds_toArray, List.set_cons_succ, List.set_cons_zero]
      apply wpK_val
      · rfl
      · intro w' hw'
        go_simp
        exact (each_any (AesM.ss K f m) AesM.boxF (AesM.ss_bt HK.out HF.out m) g 241 w' (Nat.lt_of_lt_of_le cg hw'.size) (range_below (cip_box dc.out) hw' cg)).mono fun e w2 h => ⟨h.1, hw'.trans (h.2.mono hw'.size)⟩
      simp only [Act.put, List.setIfInBounds_toArray, List.set_cons_succ, List.set_cons_zero]
      apply wpK_val
      · rfl
      · intro w' hw'
        go_simp
        exact (turn_any (AesM.each (AesM.ss K f m) AesM.boxF) w').mono fun e w2 h => ⟨h.1, hw'.trans (h.2.mono hw'.size)⟩
      simp only [Act.put, List.setIfInBounds_toArray, List.set_cons_succ, List.set_cons_zero]
      apply wpK_val
      · rfl
      · intro w' hw'
        go_simp
        exact (mix_any (AesM.turn (AesM.each (AesM.ss K f m) AesM.boxF)) (AesM.turn_bt (AesM.each_bt _)) w').mono fun e w2 h => ⟨h.1, hw'.trans (h.2.mono hw'.size)⟩
      simp only [Act.put, List.setIfInBounds_toArray, List.set_cons_succ, List.set_cons_zero]
      apply wpK_val
      · rfl
      · intro w' hw'
        go_simp
        first | exact rfl | exact ⟨rfl, hw'⟩
      simp only [Act.put, List.setIfInBounds_toArray, List.set_cons_succ, List.set_cons_zero]
      apply wpK_val
      · rfl
      · intro w' hw'
        go_simp
        first | exact rfl | exact ⟨rfl, hw'⟩
      simp only [Act.put, List.setIfInBounds_toArray, List.set_cons_succ, List.set_cons_zero]
      apply wpK_val
      · rfl
      · intro w' hw'
        go_simp
        first | exact rfl | exact ⟨rfl, hw'⟩
      simp only [Act.put, List.setIfInBounds_toArray, List.set_cons_succ, List.set_cons_zero]
      apply wpK_val
      · rfl
      · intro w' hw'
        go_simp
        first | exact rfl | exact ⟨rfl, hw'⟩
      simp only [Act.put, List.setIfInBounds_toArray, List.set_cons_succ, List.set_cons_zero]
      apply wpK_val
      · rfl
      · intro w' hw'
        go_simp
        first | exact rfl | exact ⟨rfl, hw'⟩
      simp only [Act.put, List.setIfInBounds_toArray, List.set_cons_succ, List.set_cons_zero]
      apply kldA tSt
      · rfl
      · rfl
      · exact fun w' hw' => range_below (cip_key dc.out hr15) hw' cg
      simp only [Act.put, List.setIfInBounds_toArray, List.set_cons_succ, List.set_cons_zero]
      apply wpK_val
      · rfl
      · intro w' hw'
        go_simp
        exact (add_any _ (AesM.rk K r) (AesM.mix_bt (AesM.turn_bt (AesM.each_bt _))) (AesM.rk_bt HK.out r) w').mono fun e w2 h => ⟨h.1, hw'.trans (h.2.mono hw'.size)⟩
      simp only [Act.put, List.setIfInBounds_toArray, List.set_cons_succ, List.set_cons_zero]
      refine wpK_nil fun w5 hw5 => ?_
      have x2 := d2.out.below hw5 d2.out.lt
      have xc : Cip w5 g K b := Blk.below dc.out hw5 cg
      have x5 := d5.out.below hw5 d5.out.lt
      have xb := db.out.trans (hw5.mono db.out.size)
      have et : AesM.add (AesM.mix (AesM.turn (AesM.each (AesM.ss K f m) AesM.boxF))) (AesM.rk K r) = AesM.ss K f r := by rw [HR.out]; rfl
      rw [et]
      clear et d2 dc d5 db hw5 cg
      have X2 := hid x2
      have XC := hid xc
      have XB := hid xb
      clear x2 xc xb
      go_wp2_with ((with_reducible apply stA tSt); rfl; rfl; exact x5)
      go_roundw
      case rel => exact ⟨m + 1, by omega, by rw [← HR.out], hid (X2.out.setRow_other (by omega) _), hid (Blk.setRow_other XC.out (by omega) _), hid (below_setRow XB.out (by omega) _), hid (by rw [← HR.out]; exact x5.setRow_same _)⟩
      case measure => simp [intOf]; omega
    · obtain rfl : m = 13 := by omega
      go_wp2_with fail
      refine wp_region_tail (C := fun w' => Below wr.heap.size wr w') 12 (by kernel_rfl) (by kernel_rfl) (by kernel_rfl) (Below.refl _ _).drew ?_
      simp only [List.take_succ_cons, List.take_zero, List.drop_succ_cons, List.drop_zero]
      apply kldA tSt
      · rfl
      · rfl
      · exact fun w' hw' => (d5.out.below hw' d5.out.lt).head
      simp only [Act.put, List.setIfInBounds_toArray, List.set_cons_succ, List.set_cons_zero]
      apply wpK_val
      · rfl
      · intro w' hw'
        go_simp
        first | exact rfl | exact ⟨rfl, hw'⟩
      simp only [Act.put, List.setIfInBounds_toArray, List.set_cons_succ, List.set_cons_zero]
      apply wpK_val
      · rfl
      · intro w' hw'
        go_simp
        first | exact rfl | exact ⟨rfl, hw'⟩
      simp only [Act.put, List.setIfInBounds_toArray, List.set_cons_succ, List.set_cons_zero]
      apply wpK_val
      · rfl
      · intro w' hw'
        go_simp
        first | exact rfl | exact ⟨rfl, hw'⟩
      simp only [Act.put, List.setIfInBounds_toArray, List.set_cons_succ, List.set_cons_zero]
      apply wpK_val
      · rfl
      · intro w' hw'
        go_simp
        exact (each_any (AesM.ss K f 13) AesM.boxF (AesM.ss_bt HK.out HF.out 13) g 241 w' (Nat.lt_of_lt_of_le cg hw'.size) (range_below (cip_box dc.out) hw' cg)).mono fun e w2 h => ⟨h.1, hw'.trans (h.2.mono hw'.size)⟩
      simp only [Act.put, List.setIfInBounds_toArray, List.set_cons_succ, List.set_cons_zero]
      apply wpK_val
      · rfl
      · intro w' hw'
        go_simp
        exact (turn_any (AesM.each (AesM.ss K f 13) AesM.boxF) w').mono fun e w2 h => ⟨h.1, hw'.trans (h.2.mono hw'.size)⟩
      simp only [Act.put, List.setIfInBounds_toArray, List.set_cons_succ, List.set_cons_zero]
      apply wpK_val
      · rfl
      · intro w' hw'
        go_simp
        first | exact rfl | exact ⟨rfl, hw'⟩
      simp only [Act.put, List.setIfInBounds_toArray, List.set_cons_succ, List.set_cons_zero]
      apply wpK_val
      · rfl
      · intro w' hw'
        go_simp
        first | exact rfl | exact ⟨rfl, hw'⟩
      simp only [Act.put, List.setIfInBounds_toArray, List.set_cons_succ, List.set_cons_zero]
      apply wpK_val
      · rfl
      · intro w' hw'
        go_simp
        first | exact rfl | exact ⟨rfl, hw'⟩
      simp only [Act.put, List.setIfInBounds_toArray, List.set_cons_succ, List.set_cons_zero]
      apply wpK_val
      · rfl
      · intro w' hw'
        go_simp
        first | exact rfl | exact ⟨rfl, hw'⟩
      simp only [Act.put, List.setIfInBounds_toArray, List.set_cons_succ, List.set_cons_zero]
      apply kldA tSt
      · rfl
      · rfl
      · exact fun w' hw' => range_below (cip_key dc.out (r := 14) (by omega)) hw' cg
      simp only [Act.put, List.setIfInBounds_toArray, List.set_cons_succ, List.set_cons_zero]
      apply wpK_val
      · rfl
      · intro w' hw'
        go_simp
        exact (add_any _ (AesM.rk K 14) (AesM.turn_bt (AesM.each_bt _)) (AesM.rk_bt HK.out 14) w').mono fun e w2 h => ⟨h.1, hw'.trans (h.2.mono hw'.size)⟩
      simp only [Act.put, List.setIfInBounds_toArray, List.set_cons_succ, List.set_cons_zero]
      refine wpK_nil fun w5 hw5 => ?_
      have x2 := d2.out.below hw5 d2.out.lt
      have xb := db.out.trans (hw5.mono db.out.size)
      clear d2 dc d5 db hw5 cg
      go_wp2_with ((with_reducible apply stA tBk); rfl; rfl; exact x2)
      apply ret_ar tBk Try.results17
      · rfl
      · rfl
      · exact x2.setRow_same _
      exact ⟨rfl, below_setRow xb (by omega) _⟩
end AesP
end Go.Proofs.Ytkcfonlondlmeaa
namespace Go.Proofs.Ytkcfonlondlmeaa
open Go.ChangeShapes Go.WideShapes Go.ChangeAt Go.RowKit
open AesM (Bt)
attribute [local go_sem] Gives
namespace AesP
theorem disable (w : World) : (callFunc 61 #[]).run Try.prog w = .ok (.value (.tuple #[])) w := run_call_mark0 Try.func61 (by kernel_rfl) (by kernel_rfl) (by kernel_rfl) .disable (by kernel_rfl) w
theorem enable (w : World) : (callFunc 63 #[]).run Try.prog w = .ok (.value (.tuple #[])) w := run_call_mark0 Try.func63 (by kernel_rfl) (by kernel_rfl) (by kernel_rfl) .enable (by kernel_rfl) w
theorem acquire (a : Addr) (w : World) : (callFunc 64 #[.pointer (some a)]).run Try.prog w = .ok (.value (.tuple #[])) w := run_call_marked Try.func64 (by kernel_rfl) (by kernel_rfl) (by kernel_rfl) .acquire (by kernel_rfl) a w
theorem releaseMerge (a : Addr) (w : World) : (callFunc 66 #[.pointer (some a)]).run Try.prog w = .ok (.value (.tuple #[])) w := run_call_marked Try.func66 (by kernel_rfl) (by kernel_rfl) (by kernel_rfl) .releaseMerge (by kernel_rfl) a w
/-- The mark stored, as a deferred call. -/
theorem store_deferred (a : Addr) (x : Value) (u : FrameMode) (w : World) (hc : w.cell? a = some x) (hz : w.frozen? a = false) :
    CallsD Try.prog 56 #[.pointer (some a), .bool true] u w fun e u' w' => u' = u ∧ (e = .returned (.tuple #[]) ∧ w' = w.drew.setCell a (.int .u32 1)) := by
  have hc' : w.drew.cell? a = some x := by go_simp
  have hz' : w.drew.frozen? a = false := by go_simp
  have hst := run_call_store (P := Try.prog) Try.func59 (by kernel_rfl) (by kernel_rfl) (by kernel_rfl) (by kernel_rfl) (k := .u32) (y := 1) hc' hz'
  go_enter_d Try.func56, Try.ntmps56
  go_wp2
  go_region_calls
  all_goals (go_end0; exact ⟨rfl, rfl⟩)
set_option maxRecDepth 100000 in
/-- The lock let go, as a deferred call. -/
theorem unlock_deferred (a : Addr) (u : FrameMode) (w : World) (hc : w.cell? a = some (.int .i32 1)) (hz : w.frozen? a = false) :
    CallsD Try.prog 55 #[.pointer (some a)] u w fun e u' w' => u' = u ∧ (e = .returned (.tuple #[]) ∧ w' = w.setCell a (.int .i32 0)) := by
  have hd := disable
  have he := enable
  have hr := releaseMerge
  have hadd := run_call_add (P := Try.prog) Try.func67 (by kernel_rfl) (by kernel_rfl) (by kernel_rfl) .i32 (by kernel_rfl) (y := -1) (s := 0) hc hz (by simp [go_sem]; rfl)
  have hcv := run_convert_to_unsafe (P := Try.prog) (src := 104) (dst := 108) Try.underlying104 Try.underlying108 (by kernel_rfl) hc
  go_enter_d Try.func55, Try.ntmps55
  go_wp2
  go_end0
  go_wp2
  go_end0
  exact ⟨rfl, rfl⟩
set_option maxRecDepth 100000 in
/-- The lock taken. -/
theorem lock_free (a : Addr) (w : World) (hc : w.cell? a = some (.int .i32 0)) (hz : w.frozen? a = false) :
    Calls Try.prog 54 #[.pointer (some a)] w fun e w' => e = .returned (.tuple #[]) ∧ w' = w.setCell a (.int .i32 1) := by
  have hd := disable
  have he := enable
  have ha := acquire
  have hcas := run_call_cas_hit (P := Try.prog) Try.func62 (by kernel_rfl) (by kernel_rfl) (by kernel_rfl) .i32 (by kernel_rfl) (y := 1) hc hz
  have hc' : (w.setCell a (.int .i32 1)).cell? a = some (.int .i32 1) := World.cell?_setCell_same w a _ hc
  have hcv := run_convert_to_unsafe (P := Try.prog) (src := 104) (dst := 108) Try.underlying104 Try.underlying108 (by kernel_rfl) hc'
  go_enter Try.func54, Try.ntmps54
  go_wp2
  first | go_end0 | (simp only [Exit.inBlock, Exit.then]; refine bodyPost_ret (results_none rfl _ _ _) rfl ?_) | refine bodyPost_ret (results_none rfl _ _ _) rfl ?_
  go_wp2
  go_end0
  exact ⟨rfl, rfl⟩
/-- A cipher's cells; the lock holds s. -/
def cipS (s : Nat) (m : Bool) (K B O : Nat → Nat) (d : Nat) : Array Value := row 756 fun j => if j = 498 then .int .i32 s else cipC m K B O d j
section
variable {w w' : World} {g s : Nat} {K B O : Nat → Nat} {d : Nat} {m : Bool} {t : TypeId}
theorem cipS_zero : cipS 0 m K B O d = cip m K B O d := row_ext fun j _ => by
  by_cases h : j = 498
  · subst h; rfl
  · rw [if_neg h]
theorem cipS_at (h : Blk w g t (cipS s m K B O d)) {j : Nat} (hj : j < 756) : w.cell? ⟨g, j, none⟩ = some (if j = 498 then .int .i32 s else cipC m K B O d j) := (h.cell j).trans (get_row_lt hj)
theorem cipS_box (h : Blk w g t (cipS s m K B O d)) : w.rangeAt g 241 (ar 256 B).toList := fun j v hv => by
  obtain ⟨h1, rfl⟩ := ar_list_get hv
  rw [cipS_at h (by omega), if_neg (by omega)]
  unfold cipC
  rw [if_neg (by omega), if_neg (by omega), if_pos (by omega), show 241 + j - 241 = j by omega]
theorem cipS_setS (h : Blk w g t (cipS s m K B O d)) (s' : Nat) : Blk (w.setCell ⟨g, 498, none⟩ (.int .i32 (s' : Nat))) g t (cipS s' m K B O d) := by
  have h1 := h.setCell_same 498 (.int .i32 (s' : Nat))
  unfold cipS at h1
  rw [row_set, row_ext (g := fun j => if j = 498 then .int .i32 s' else cipC m K B O d j) fun j _ => ?_] at h1
  · exact h1
  · by_cases e : j = 498
    · rw [if_pos e, if_pos e]
    · rw [if_neg e, if_neg e, if_neg e]
theorem cipS_setO (h : Blk w g t (cipS s m K B O d)) {p v : Nat} (hp : p < 256) : Blk (w.setCell ⟨g, 500 + p, none⟩ (.int .u8 (v : Nat))) g t (cipS s m K B (fun j => if j = p then v else O j) d) := by
  have h1 := h.setCell_same (500 + p) (.int .u8 (v : Nat))
  unfold cipS at h1
  rw [row_set, row_ext (g := fun j => if j = 498 then .int .i32 s else cipC m K B (fun j => if j = p then v else O j) d j) fun j hj => ?_] at h1
  · exact h1
  · rw [← cipC_setO hp hj]
    by_cases e : j = 500 + p
    · rw [if_pos e, if_neg (by omega), if_pos e]
    · rw [if_neg e]
      by_cases e2 : j = 498
      · rw [if_pos e2, if_pos e2]
      · rw [if_neg e2, if_neg e2, if_neg e]
theorem cipC_congr {O O' : Nat → Nat} (h : ∀ i, i < 256 → O i = O' i) {j : Nat} (hj : j < 756) : cipC m K B O d j = cipC m K B O' d j := by
  unfold cipC
  by_cases h5 : j < 500
  · by_cases h6 : j = 499
    · subst h6; rfl
    · by_cases h7 : j = 498
      · subst h7; rfl
      · by_cases h8 : j = 497
        · subst h8; rfl
        · by_cases h9 : j = 0
          · subst h9; rfl
          · rw [if_neg h9, if_neg h9]
            by_cases h10 : j < 241
            · rw [if_pos h10, if_pos h10]
            · rw [if_neg h10, if_neg h10, if_pos (show j < 497 by omega), if_pos (show j < 497 by omega)]
  · rw [h (j - 500) (by omega)]
theorem cipS_other : cipS s m K B (AesM.setTo AesM.boxF (fun a => a) 256) d = cipS s m K B AesM.oboxF d := row_ext fun j hj => by
  rw [cipC_congr (fun i hi => AesM.obox_at hi) hj]
theorem cipS_setD (h : Blk w g t (cipS s m K B O d)) (d' : Nat) : Blk (w.setCell ⟨g, 497, none⟩ (.int .u32 (d' : Nat))) g t (cipS s m K B O d') := by
  have h1 := h.setCell_same 497 (.int .u32 (d' : Nat))
  unfold cipS at h1
  rw [row_set, row_ext (g := fun j => if j = 498 then .int .i32 s else cipC m K B O d' j) fun j _ => ?_] at h1
  · exact h1
  · rw [← cipC_setD (d := d) (d' := d')]
    by_cases e : j = 497
    · rw [if_pos e, if_neg (by omega), if_pos e]
    · rw [if_neg e]
      by_cases e2 : j = 498
      · rw [if_pos e2, if_pos e2]
      · rw [if_neg e2, if_neg e2, if_neg e]
end
set_option maxRecDepth 100000 in
/-- The function that Do calls: the other box is made. -/
theorem make_any (g pl : Nat) (s : Nat) (K : Nat → Nat) (w : World) (hne : pl ≠ g) (hp : w.cell? ⟨pl, 0, none⟩ = some (.pointer (some ⟨g, 0, none⟩))) (hc : Blk w g 68 (cipS s true K AesM.boxF (fun _ => 0) 0)) :
    Calls Try.prog 48 #[.pointer (some ⟨pl, 0, none⟩)] w fun e w' => e = .returned (.tuple #[]) ∧ Blk w' g 68 (cipS s true K AesM.boxF AesM.oboxF 0) ∧ w.grownBy w' (some g) := by
  have HC := hid hc
  have hR := cipS_box hc
  clear hc
  go_enter Try.func48, Try.ntmps48
  go_wp2_with ((with_reducible apply ldAm tTb); rfl; exact hR)
  go_loopw [7] (fun i wr => ∃ k : Nat, k ≤ 256 ∧ i = .int .i64 k ∧ Hid (wr.cell? ⟨pl, 0, none⟩ = some (.pointer (some ⟨g, 0, none⟩))) ∧ Hid (Blk wr g 68 (cipS s true K AesM.boxF (AesM.setTo AesM.boxF (fun a => a) k) 0)) ∧ Hid (w.grownBy wr (some g))) (fun i _ => 256 - (intOf i).toNat)
  case atStart => exact ⟨0, by omega, rfl, hid hp, HC, hid (only_refl _ _)⟩
  case round =>
    clear hp HC hR
    obtain ⟨k, hk, rfl, hp, hc, ho⟩ := hrel
    by_cases hlt : k < 256
    · have tk : (k : Int) < 256 := by omega
      have hI := fun w => run_index_ar (f := AesM.boxF) uTb hlt w
      have hb := AesM.boxF_lt k
      have tb : ((AesM.boxF k : Nat) : Int) < 256 := by omega
      have c1 := hp.out
      have c2 := cipS_at hc.out (show 500 + AesM.boxF k < 756 by omega)
      have c3 := hc.out.frozen (500 + AesM.boxF k)
      have e1 : IntKind.u8.wrap (k : Int) = (k : Int) := by rw [IntKind.wrap_u8]; omega
      go_wp2_with fail
      go_roundw
      case rel => exact ⟨k + 1, by omega, by go_num, hid ((cell_other (by simpa using hne)).trans hp.out), hid (cipS_setO hc.out hb), hid (only_cell ho.out _ _)⟩
      case measure => simp [intOf]; omega
    · have tk : decide ((k : Int) < 256) = false := by simp; omega
      obtain rfl : k = 256 := by omega
      go_wp2_with fail
      go_end0
      refine ⟨rfl, ?_, ho.out⟩
      have h := hc.out
      rw [cipS_other] at h
      exact h
set_option maxRecDepth 100000 in
set_option maxHeartbeats 1600000 in
theorem slow_any (g pl : Nat) (K : Nat → Nat) (w : World) (hne : pl ≠ g) (hp : w.cell? ⟨pl, 0, none⟩ = some (.pointer (some ⟨g, 0, none⟩))) (hc : Blk w g 68 (cip true K AesM.boxF (fun _ => 0) 0)) :
    Calls Try.prog 52 #[.pointer (some ⟨g, 497, none⟩), .func (.func 48) #[] #[.pointer (some ⟨pl, 0, none⟩)]] w fun e w' =>
      e = .returned (.tuple #[]) ∧ Blk w' g 68 (cip true K AesM.boxF AesM.oboxF 1) ∧ w.grownBy w' (some g) := by
  rw [← cipS_zero] at hc
  have c0 : w.cell? ⟨g, 498, none⟩ = some (.int .i32 0) := cipS_at hc (by omega)
  have f0 := hc.frozen 498
  have H1 := hid (cipS_setS hc 1)
  have P1 := hid (show (w.setCell ⟨g, 498, none⟩ (.int .i32 (1 : Nat))).cell? ⟨pl, 0, none⟩ = some (.pointer (some ⟨g, 0, none⟩)) from (cell_other (by simpa using hne)).trans hp)
  have hl := run_call_load (P := Try.prog) Try.func53 (by kernel_rfl) (by kernel_rfl) (by kernel_rfl) .u32 (by kernel_rfl) (w := w.setCell ⟨g, 498, none⟩ (.int .i32 1)) (a := ⟨g, 497, none⟩) (x := 0) (cipS_at H1.out (j := 497) (by omega))
  have hnot : ∀ (x : Bool) (w : World), (Op.unary .not (.bool x)).run Try.prog w = .ok (.bool (!x)) w := fun _ _ => rfl
  have HO := hid (only_cell (only_refl w g) 498 (.int .i32 1))
  clear hc hp
  go_enter_defers Try.func52, Try.ntmps52
  go_wp2_with (go_at_call 54; refine (lock_free ⟨g, 498, none⟩ _ c0 f0).mono ?_; rintro e w' ⟨rfl, rfl⟩)
  go_wp2_with (first | (go_at_call 48; refine (make_any g pl 1 K _ hne P1.out H1.out).mono ?_; rintro e w2 ⟨rfl, h2, ho2⟩) | (go_at_call 51; go_in))
  have fr := h2.frozen
  have d0 : w2.cell? ⟨g, 497, none⟩ = some (.int .u32 0) := cipS_at h2 (by omega)
  have d1 : w2.cell? ⟨g, 498, none⟩ = some (.int .i32 1) := cipS_at h2 (by omega)
  refine leaves_cons (f := 56) (args := #[.pointer (some ⟨g, 497, none⟩), .bool true]) (by simp) (by simp [go_sem]) ?_
  refine (store_deferred ⟨g, 497, none⟩ (.int .u32 0) .returning _ d0 (fr _)).mono ?_
  rintro e u' w'' ⟨rfl, rfl, rfl⟩
  refine leaves_cons (f := 55) (args := #[.pointer (some ⟨g, 498, none⟩)]) (by simp [settle]) (by simp [go_sem]) ?_
  have h3 : Blk (w2.drew.setCell ⟨g, 497, none⟩ (.int .u32 1)) g 68 (cipS 1 true K AesM.boxF AesM.oboxF 1) := cipS_setD (h2.drew) 1
  refine (unlock_deferred ⟨g, 498, none⟩ _ _ (cipS_at h3 (by omega)) (h3.frozen _)).mono ?_
  rintro e u' w'' ⟨rfl, rfl, rfl⟩
  have h4 := cipS_setS h3 0
  rw [cipS_zero] at h4
  have ho4 : w.grownBy ((w2.drew.setCell ⟨g, 497, none⟩ (.int .u32 1)).setCell ⟨g, 498, none⟩ (.int .i32 0)) (some g) := only_cell (only_cell (only_drew (only_trans HO.out ho2) (Drew.refl _)) _ _) _ _
  simp [Leaves, settle, results, Try.results52]
  exact ⟨h4, ho4⟩
set_option maxRecDepth 100000 in
set_option maxHeartbeats 1600000 in
theorem do_first (g pl : Nat) (K : Nat → Nat) (w : World) (hne : pl ≠ g) (hp : w.cell? ⟨pl, 0, none⟩ = some (.pointer (some ⟨g, 0, none⟩))) (hc : Blk w g 68 (cip true K AesM.boxF (fun _ => 0) 0)) :
    Calls Try.prog 47 #[.pointer (some ⟨g, 497, none⟩), .func (.func 48) #[] #[.pointer (some ⟨pl, 0, none⟩)]] w fun e w' =>
      e = .returned (.tuple #[]) ∧ Blk w' g 68 (cip true K AesM.boxF AesM.oboxF 1) ∧ w.grownBy w' (some g) := by
  have hl := run_call_load (P := Try.prog) Try.func53 (by kernel_rfl) (by kernel_rfl) (by kernel_rfl) .u32 (by kernel_rfl) (w := w) (a := ⟨g, 497, none⟩) (x := 0) (cip_at hc (j := 497) (by omega))
  have hnot : ∀ (x : Bool) (w : World), (Op.unary .not (.bool x)).run Try.prog w = .ok (.bool (!x)) w := fun _ _ => rfl
  have HC := hid hc
  have HP := hid hp
  clear hc hp
  go_enter Try.func47, Try.ntmps47
  go_wp2_with (first | (go_at_call 52; refine (slow_any g pl K _ hne HP.out HC.out).mono ?_; rintro e w2 ⟨rfl, h2, ho2⟩) | (go_at_call 51; go_in))
  go_end0
  exact ⟨rfl, h2, ho2⟩
set_option maxRecDepth 100000 in
theorem do_done (a : Addr) (fv : Value) (w : World) (h0 : w.cell? a = some (.int .u32 1)) :
    Calls Try.prog 47 #[.pointer (some a), fv] w fun e w' => e = .returned (.tuple #[]) ∧ w = w' := by
  have hl := run_call_load (P := Try.prog) Try.func53 (by kernel_rfl) (by kernel_rfl) (by kernel_rfl) .u32 (by kernel_rfl) h0
  have hnot : ∀ (x : Bool) (w : World), (Op.unary .not (.bool x)).run Try.prog w = .ok (.bool (!x)) w := fun _ _ => rfl
  go_enter Try.func47, Try.ntmps47
  go_wp2
  go_end0
  exact ⟨rfl, rfl⟩
end AesP
end Go.Proofs.Ytkcfonlondlmeaa
namespace Go.Proofs.Ytkcfonlondlmeaa
open Go.ChangeShapes Go.WideShapes Go.ChangeAt Go.RowKit
open AesM (Bt)
attribute [local go_sem] Gives
/-- A store into a block that was not there. -/
theorem only_new {a b : World} {g k : Nat} (h : a.grownBy b (some g)) (hk : a.heap.size ≤ k) (cs : Array Value) : a.grownBy (b.setRow k cs) (some g) :=
  ⟨h.os, h.tape, h.output, by simpa [World.setRow] using h.size, fun i hi hne => (Go.setRow_other b k i cs (by omega)).trans (h.block i hi hne)⟩
namespace AesP
set_option maxRecDepth 100000 in
theorem obox_any (g : Nat) (K : Nat → Nat) (b : Bool) (w : World) (hc : Cip w g K b) :
    Calls Try.prog 37 #[.pointer (some ⟨g, 0, none⟩)] w fun e w' => e = .returned (.pointer (some ⟨g, 500, none⟩)) ∧ Cip w' g K true ∧ w.grownBy w' (some g) := by
  have hmf : ∀ (fn : Fn) (first cap : Array Value) (w : World), (Instr.makeFunc fn first cap).run Try.prog w = .ok (.func fn first cap) w := fun _ _ _ _ => rfl
  have hg := cip_lt hc
  have HC := hid hc
  clear hc
  go_enter Try.func37, Try.ntmps37
  go_upto_region 1 with fail
  generalize hw1 : World.alloc w _ = w1
  have p1 : w1.cell? ⟨w.heap.size, 0, none⟩ = some (.pointer (some ⟨g, 0, none⟩)) := by rw [← hw1]; simp
  have ho1 : w.grownBy w1 (some g) := by rw [← hw1]; exact only_of_below ((Below.refl w.heap.size _).alloc (Nat.le_refl _) _) (Nat.le_refl _)
  have c1 : Cip w1 g K b := by rw [← hw1]; exact Blk.alloc HC.out _
  have hlt : w.heap.size < w1.heap.size := by rw [← hw1]; simp
  clear hw1 HC
  cases b with
  | false =>
    have C1 := hid c1
    have P1 := hid p1
    clear c1
    go_wp2_with (go_at_call 47; refine (do_first g w.heap.size K _ (by omega) P1.out C1.out).mono ?_; rintro e w2 ⟨rfl, h2, ho2⟩; have p2 := (World.cell?_of_block (w := w1) (a := ⟨w.heap.size, 0, none⟩) (ho2.block w.heap.size hlt (fun e => by injection e; omega))).trans P1.out)
    go_ret
    exact ⟨rfl, h2, only_trans ho1 ho2⟩
  | true =>
    have C1 := hid c1
    have d1 := hid (cip_at c1 (j := 497) (by omega))
    clear c1
    go_wp2_with (go_at_call 47; refine (do_done ⟨g, 497, none⟩ _ _ d1.out).mono ?_; rintro e w2 ⟨rfl, rfl⟩)
    go_ret
    exact ⟨rfl, C1.out, ho1⟩
set_option maxHeartbeats 400000 in
set_option maxRecDepth 100000 in
theorem open_any (K f : Nat → Nat) (b : Bool) (hK : Bt K) (hf : Bt f) (g : Nat) (w : World) (hc : Cip w g K b) :
    Calls Try.prog 21 #[.pointer (some ⟨g, 0, none⟩), .agg (ar 16 f)] w fun e w' => e = .returned (.agg (ar 16 (AesM.open' K f))) ∧ Cip w' g K true ∧ w.grownBy w' (some g) := by
  have HK := hid hK
  have HF := hid hf
  have HC := hid hc
  have hg := cip_lt hc
  clear hK hf hc
  go_enter Try.func21, Try.ntmps21
  go_upto_region 1 with (with_reducible apply alA tBk)
  generalize hw1 : World.alloc (World.alloc w _) _ = w1
  have b1 := hid (show Blk w1 w.heap.size 35 (ar 16 f) by rw [← hw1]; exact (Blk.new _ _ _).alloc _)
  have b2 := hid (show Blk w1 (w.heap.size + 1) 35 (ar 16 fun _ => 0) by rw [← hw1]; exact Blk.top rfl (by simp))
  have hb := hid (show w.grownBy w1 (some g) by rw [← hw1]; exact only_of_below (((Below.refl w.heap.size _).alloc (Nat.le_refl _) _).alloc (by simp) _) (Nat.le_refl _))
  have c1 := hid (show Cip w1 g K b by rw [← hw1]; exact Blk.alloc (Blk.alloc HC.out _) _)
  have hm := cip_made c1.out
  have hs1 : w.heap.size + 1 < w1.heap.size := b2.out.lt
  clear hw1 HC
  go_upto_region 3 with fail
  clear hm
  go_wp2_with (go_at_call 37; refine (obox_any g K b _ c1.out).mono ?_; rintro e w2 ⟨rfl, x1, x2⟩)
  have q1 := hid (b1.out.only x2 (by omega))
  have q2 := hid (b2.out.only x2 (by omega))
  have hb2 := hid (only_trans hb.out x2)
  have c2 := hid x1
  have hs2 : w.heap.size + 1 < w2.heap.size := q2.out.lt
  clear b1 b2 hb c1 hs1 x1 x2
  refine wp_region_new1 (C := fun w' => Below w2.heap.size w2 w') 10 53 (ar 16 fun _ => 0) 6 rfl (by kernel_rfl) (by kernel_rfl) (by kernel_rfl) (run_alloc_ar tSt) (Below.refl _ _).drew (fun w' hw' => hw'.alloc hw'.size _) (fun w' hw' => hw'.size) ?_
  simp only [List.take_succ_cons, List.take_zero, List.drop_succ_cons, List.drop_zero]
  apply bldA tBk
  · rfl
  · rfl
  · exact fun w' hw' => (q1.out.below hw' q1.out.lt).head
  simp only [Act.put, List.setIfInBounds_toArray, List.set_cons_succ, List.set_cons_zero]
  apply wpB_val
  · rfl
  · intro w' hw'
    have hbl := Below.refl w'.heap.size w'
    go_simp
    first | exact rfl | exact ⟨rfl, hbl⟩ | exact ⟨rfl, hw', hbl⟩
  simp only [Act.put, List.setIfInBounds_toArray, List.set_cons_succ, List.set_cons_zero]
  apply wpB_val
  · rfl
  · intro w' hw'
    have hbl := Below.refl w'.heap.size w'
    go_simp
    first | exact rfl | exact ⟨rfl, hbl⟩ | exact ⟨rfl, hw', hbl⟩
  simp only [Act.put, List.setIfInBounds_toArray, List.set_cons_succ, List.set_cons_zero]
  apply wpB_val
  · rfl
  · intro w' hw'
    have hbl := Below.refl w'.heap.size w'
    go_simp
    first | exact rfl | exact ⟨rfl, hbl⟩ | exact ⟨rfl, hw', hbl⟩
  simp only [Act.put, List.setIfInBounds_toArray, List.set_cons_succ, List.set_cons_zero]
  apply wpB_val
  · rfl
  · intro w' hw'
    have hbl := Below.refl w'.heap.size w'
    go_simp
    first | exact rfl | exact ⟨rfl, hbl⟩ | exact ⟨rfl, hw', hbl⟩
  simp only [Act.put, List.setIfInBounds_toArray, List.set_cons_succ, List.set_cons_zero]
  apply bldA tSt
  · rfl
  · rfl
  · exact fun w' hw' => range_below (cip_key c2.out (r := 14) (by omega)) hw' (cip_lt c2.out)
  simp only [Act.put, List.setIfInBounds_toArray, List.set_cons_succ, List.set_cons_zero]
  apply wpB_val
  · rfl
  · intro w' hw'
    go_simp
    exact (add_any f (AesM.rk K 14) HF.out (AesM.rk_bt HK.out 14) w').mono fun e w2 h => ⟨h.1, hw'.trans (h.2.mono hw'.size), h.2⟩
  simp only [Act.put, List.setIfInBounds_toArray, List.set_cons_succ, List.set_cons_zero]
  apply wpB_val
  · rfl
  · intro w' hw'
    go_simp
    exact (back_any (AesM.add f (AesM.rk K 14)) w').mono fun e w2 h => ⟨h.1, hw'.trans (h.2.mono hw'.size), h.2⟩
  simp only [Act.put, List.setIfInBounds_toArray, List.set_cons_succ, List.set_cons_zero]
  apply wpB_val
  · rfl
  · intro w' hw'
    have hbl := Below.refl w'.heap.size w'
    go_simp
    first | exact rfl | exact ⟨rfl, hbl⟩ | exact ⟨rfl, hw', hbl⟩
  simp only [Act.put, List.setIfInBounds_toArray, List.set_cons_succ, List.set_cons_zero]
  apply wpB_val
  · rfl
  · intro w' hw'
    go_simp
    exact (each_any (AesM.back (AesM.add f (AesM.rk K 14))) AesM.oboxF (AesM.back_bt (AesM.add_bt HF.out (AesM.rk_bt HK.out 14))) g 500 w' (Nat.lt_of_lt_of_le (cip_lt c2.out) hw'.size) (range_below (cip_other c2.out) hw' (cip_lt c2.out))).mono fun e w2 h => ⟨h.1, hw'.trans (h.2.mono hw'.size), h.2⟩
  simp only [Act.put, List.setIfInBounds_toArray, List.set_cons_succ, List.set_cons_zero]
  refine wpB_nil fun g5 w5 hw5 q5 hg5 => ?_
  have d2 := hid (q2.out.below hw5 q2.out.lt)
  have dc := hid (show Cip w5 g K true from Blk.below c2.out hw5 (cip_lt c2.out))
  have db := hid (only_below hb2.out hw5 hb2.out.size)
  have h2lt : w.heap.size + 1 < g5 := Nat.lt_of_lt_of_le q2.out.lt hg5
  have hgl : g < g5 := Nat.lt_of_lt_of_le (cip_lt c2.out) hg5
  clear q1 q2 hb2 c2 hw5 hg5 hs2
  unfold ptr
  go_upto_region 5 with ((with_reducible apply stA tSt); rfl; rfl; exact q5)
  generalize hw6 : World.setRow _ _ _ = w6
  have e2 := hid (show Blk w6 (w.heap.size + 1) 35 (ar 16 fun _ => 0) by rw [← hw6]; exact d2.out.setRow_other (by omega) _)
  have ec := hid (show Cip w6 g K true by rw [← hw6]; exact Blk.setRow_other dc.out (by omega) _)
  have eb := hid (show w.grownBy w6 (some g) by rw [← hw6]; exact only_new db.out (by omega) _)
  have e5 := hid (show Blk w6 g5 53 (ar 16 (AesM.os K f 0)) by rw [← hw6]; exact q5.setRow_same _)
  clear hw6 d2 dc db q5 w5
  go_wp2_with fail
  go_loopw [7] (fun i wr => ∃ m : Nat, m ≤ 13 ∧ i = .int .i64 (13 - (m : Int)) ∧ Hid (Blk wr (w.heap.size + 1) 35 (ar 16 fun _ => 0)) ∧ Hid (Cip wr g K true) ∧ Hid (w.grownBy wr (some g)) ∧ Hid (Blk wr g5 53 (ar 16 (AesM.os K f m)))) (fun i _ => (intOf i).toNat)
  case atStart => exact ⟨0, by omega, rfl, e2, ec, eb, e5⟩
  case round =>
    clear e2 ec eb e5
    obtain ⟨m, hm, rfl, d2, dc, db, d5⟩ := hrel
    have cg := cip_lt dc.out
    obtain ⟨r, hr⟩ : ∃ r, r = 13 - m := ⟨_, rfl⟩
    have e1 : 13 - (m : Int) = (r : Int) := by omega
    have HR := hid hr
    rw [e1]
    clear e1
    by_cases hlt : 0 < r
    · have tr : (0 : Int) < (r : Int) := by omega
      have tr15 : (r : Int) < 15 := by omega
      have hr15 : r < 15 := by omega
      have hm13 : m < 13 := by omega
      clear hr
      go_wp2_with fail
      refine wp_region_tail (C := fun w' => Below wr.heap.size wr w') 12 (by kernel_rfl) (by kernel_rfl) (by kernel_rfl) (Below.refl _ _).drew ?_
      simp only [List.take_succ_cons, List.take_zero, List.drop_succ_cons, List.drop_zero]
      apply kldA tSt
      · rfl
      · rfl
      · exact fun w' hw' => (d5.out.below hw' d5.out.lt).head
      simp only [Act.put, List.setIfInBounds_toArray, List.set_cons_succ, List.set_cons_zero]
      apply wpK_val
      · rfl
      · intro w' hw'
        go_simp
        first | exact rfl | exact ⟨rfl, hw'⟩
      simp only [Act.put, List.setIfInBounds_toArray, List.set_cons_succ, List.set_cons_zero]
      apply wpK_val
      · rfl
      · intro w' hw'
        go_simp
        first | exact rfl | exact ⟨rfl, hw'⟩
      simp only [Act.put, List.setIfInBounds_toArray, List.set_cons_succ, List.set_cons_zero]
      apply wpK_val
      · rfl
      · intro w' hw'
        go_simp
        first | exact rfl | exact ⟨rfl, hw'⟩
      simp only [Act.put, List.setIfInBounds_toArray, List.set_cons_succ, List.set_cons_zero]
      apply wpK_val
      · rfl
      · intro w' hw'
        go_simp
        first | exact rfl | exact ⟨rfl, hw'⟩
      simp only [Act.put, List.setIfInBounds_toArray, List.set_cons_succ, List.set_cons_zero]
      apply wpK_val
      · rfl
      · intro w' hw'
        go_simp
        first | exact rfl | exact ⟨rfl, hw'⟩
      simp only [Act.put, List.setIfInBounds_toArray, List.set_cons_succ, List.set_cons_zero]
      apply kldA tSt
      · rfl
      · rfl
      · exact fun w' hw' => range_below (cip_key dc.out hr15) hw' cg
      simp only [Act.put, List.setIfInBounds_toArray, List.set_cons_succ, List.set_cons_zero]
      apply wpK_val
      · rfl
      · intro w' hw'
        go_simp
        exact (add_any (AesM.os K f m) (AesM.rk K r) (AesM.os_bt _ _ _) (AesM.rk_bt HK.out r) w').mono fun e w2 h => ⟨h.1, hw'.trans (h.2.mono hw'.size)⟩
      simp only [Act.put, List.setIfInBounds_toArray, List.set_cons_succ, List.set_cons_zero]
      apply wpK_val
      · rfl
      · intro w' hw'
        go_simp
        exact (mixB_any (AesM.add (AesM.os K f m) (AesM.rk K r)) (AesM.add_bt (AesM.os_bt _ _ _) (AesM.rk_bt HK.out r)) w').mono fun e w2 h => ⟨h.1, hw'.trans (h.2.mono hw'.size)⟩
      simp only [Act.put, List.setIfInBounds_toArray, List.set_cons_succ, List.set_cons_zero]
      apply wpK_val
      · rfl
      · intro w' hw'
        go_simp
        exact (back_any (AesM.mixB (AesM.add (AesM.os K f m) (AesM.rk K r))) w').mono fun e w2 h => ⟨h.1, hw'.trans (h.2.mono hw'.size)⟩
      simp only [Act.put, List.setIfInBounds_toArray, List.set_cons_succ, List.set_cons_zero]
      apply wpK_val
      · rfl
      · intro w' hw'
        go_simp
        first | exact rfl | exact ⟨rfl, hw'⟩
      simp only [Act.put, List.setIfInBounds_toArray, List.set_cons_succ, List.set_cons_zero]
      apply wpK_val
      · rfl
      · intro w' hw'
        go_simp
        exact (each_any (AesM.back (AesM.mixB (AesM.add (AesM.os K f m) (AesM.rk K r)))) AesM.oboxF (AesM.back_bt (AesM.mix_bt (AesM.mix_bt (AesM.mix_bt (AesM.add_bt (AesM.os_bt _ _ _) (AesM.rk_bt HK.out r)))))) g 500 w' (Nat.lt_of_lt_of_le cg hw'.size) (range_below (cip_other dc.out) hw' cg)).mono fun e w2 h => ⟨h.1, hw'.trans (h.2.mono hw'.size)⟩
      simp only [Act.put, List.setIfInBounds_toArray, List.set_cons_succ, List.set_cons_zero]
      refine wpK_nil fun w5 hw5 => ?_
      have x2 := d2.out.below hw5 d2.out.lt
      have xc : Cip w5 g K true := Blk.below dc.out hw5 cg
      have x5 := d5.out.below hw5 d5.out.lt
      have xb := only_below db.out hw5 db.out.size
      have et : AesM.each (AesM.back (AesM.mixB (AesM.add (AesM.os K f m) (AesM.rk K r)))) AesM.oboxF = AesM.os K f (m + 1) := by rw [HR.out]; rfl
      rw [et]
      clear et d2 dc d5 db hw5 cg
      have X2 := hid x2
      have XC := hid xc
      have XB := hid xb
      clear x2 xc xb
      go_wp2_with ((with_reducible apply stA tSt); rfl; rfl; exact x5)
      go_roundw
      case rel => exact ⟨m + 1, by omega, by have := HR.out; congr 1; omega, hid (X2.out.setRow_other (by omega) _), hid (Blk.setRow_other XC.out (by omega) _), hid (only_new XB.out (by omega) _), hid (x5.setRow_same _)⟩
      case measure => simp [intOf]; omega
    · obtain rfl : m = 13 := by omega
      obtain rfl : r = 0 := by omega
      clear hr
      go_wp2_with fail
      refine wp_region_tail (C := fun w' => Below wr.heap.size wr w') 7 (by kernel_rfl) (by kernel_rfl) (by kernel_rfl) (Below.refl _ _).drew ?_
      simp only [List.take_succ_cons, List.take_zero, List.drop_succ_cons, List.drop_zero]
      apply kldA tSt
      · rfl
      · rfl
      · exact fun w' hw' => (d5.out.below hw' d5.out.lt).head
      simp only [Act.put, List.setIfInBounds_toArray, List.set_cons_succ, List.set_cons_zero]
      apply wpK_val
      · rfl
      · intro w' hw'
        go_simp
        first | exact rfl | exact ⟨rfl, hw'⟩
      simp only [Act.put, List.setIfInBounds_toArray, List.set_cons_succ, List.set_cons_zero]
      apply wpK_val
      · rfl
      · intro w' hw'
        go_simp
        first | exact rfl | exact ⟨rfl, hw'⟩
      simp only [Act.put, List.setIfInBounds_toArray, List.set_cons_succ, List.set_cons_zero]
      apply wpK_val
      · rfl
      · intro w' hw'
        go_simp
        first | exact rfl | exact ⟨rfl, hw'⟩
      simp only [Act.put, List.setIfInBounds_toArray, List.set_cons_succ, List.set_cons_zero]
      apply wpK_val
      · rfl
      · intro w' hw'
        go_simp
        first | exact rfl | exact ⟨rfl, hw'⟩
      simp only [Act.put, List.setIfInBounds_toArray, List.set_cons_succ, List.set_cons_zero]
      apply kldA tSt
      · rfl
      · rfl
      · exact fun w' hw' => range_below (cip_key dc.out (r := 0) (by omega)) hw' cg
      simp only [Act.put, List.setIfInBounds_toArray, List.set_cons_succ, List.set_cons_zero]
      apply wpK_val
      · rfl
      · intro w' hw'
        go_simp
        exact (add_any (AesM.os K f 13) (AesM.rk K 0) (AesM.os_bt _ _ _) (AesM.rk_bt HK.out 0) w').mono fun e w2 h => ⟨h.1, hw'.trans (h.2.mono hw'.size)⟩
      simp only [Act.put, List.setIfInBounds_toArray, List.set_cons_succ, List.set_cons_zero]
      refine wpK_nil fun w5 hw5 => ?_
      have x2 := d2.out.below hw5 d2.out.lt
      have xc : Cip w5 g K true := Blk.below dc.out hw5 cg
      have xb := only_below db.out hw5 db.out.size
      clear d2 dc d5 db hw5 cg
      go_wp2_with ((with_reducible apply stA tBk); rfl; rfl; exact x2)
      apply ret_ar tBk Try.results21
      · rfl
      · rfl
      · exact x2.setRow_same _
      exact ⟨rfl, Blk.setRow_other xc (by omega) _, only_new xb (by omega) _⟩
end AesP
end Go.Proofs.Ytkcfonlondlmeaa
namespace Go.Proofs.Ytkcfonlondlmeaa
namespace AesM
/-- A list as a function. -/
def ls (l : List Nat) (i : Nat) : Nat := l.getD i 0
def boxL : List Nat := [99, 124, 119, 123, 242, 107, 111, 197, 48, 1, 103, 43, 254, 215, 171, 118, 202, 130, 201, 125, 250, 89, 71, 240, 173, 212, 162, 175, 156, 164, 114, 192, 183, 253, 147, 38, 54, 63, 247, 204, 52, 165, 229, 241, 113, 216, 49, 21, 4, 199, 35, 195, 24, 150, 5, 154, 7, 18, 128, 226, 235, 39, 178, 117, 9, 131, 44, 26, 27, 110, 90, 160, 82, 59, 214, 179, 41, 227, 47, 132, 83, 209, 0, 237, 32, 252, 177, 91, 106, 203, 190, 57, 74, 76, 88, 207, 208, 239, 170, 251, 67, 77, 51, 133, 69, 249, 2, 127, 80, 60, 159, 168, 81, 163, 64, 143, 146, 157, 56, 245, 188, 182, 218, 33, 16, 255, 243, 210, 205, 12, 19, 236, 95, 151, 68, 23, 196, 167, 126, 61, 100, 93, 25, 115, 96, 129, 79, 220, 34, 42, 144, 136, 70, 238, 184, 20, 222, 94, 11, 219, 224, 50, 58, 10, 73, 6, 36, 92, 194, 211, 172, 98, 145, 149, 228, 121, 231, 200, 55, 109, 141, 213, 78, 169, 108, 86, 244, 234, 101, 122, 174, 8, 186, 120, 37, 46, 28, 166, 180, 198, 232, 221, 116, 31, 75, 189, 139, 138, 112, 62, 181, 102, 72, 3, 246, 14, 97, 53, 87, 185, 134, 193, 29, 158, 225, 248, 152, 17, 105, 217, 142, 148, 155, 30, 135, 233, 206, 85, 40, 223, 140, 161, 137, 13, 191, 230, 66, 104, 65, 153, 45, 15, 176, 84, 187, 22]
theorem boxF_lit : boxF = ls boxL := funext fun a => by
  show box.getD a 0 = boxL.getD a 0
  rw [box_table]; rfl
def chkW (k : List Nat) (WL : List (List Nat)) : Bool := (List.range 60).all fun n => nextL (ls boxL) (ls k) (WL.take n) n == WL.getD n []
def KL (WL : List (List Nat)) (j : Nat) : Nat := (WL.getD (j / 4) []).getD (j % 4) 0
def chkS (WL : List (List Nat)) (f : List Nat) (SL : List (List Nat)) (out : List Nat) : Bool :=
  (tab 16 (add (ls f) (rk (KL WL) 0)) == SL.getD 0 []) && ((List.range 13).all fun m => tab 16 (add (mix (turn (each (ls (SL.getD m [])) (ls boxL)))) (rk (KL WL) (m + 1))) == SL.getD (m + 1) []) &&
    (tab 16 (add (turn (each (ls (SL.getD 13 [])) (ls boxL))) (rk (KL WL) 14)) == out)
theorem wl_lit {k : List Nat} {WL : List (List Nat)} (h60 : WL.length = 60) (h : chkW k WL = true) : ∀ n, n ≤ 60 → wl boxF (ls k) n = WL.take n
  | 0, _ => rfl
  | n + 1, hn => by
    have h1 := List.all_eq_true.1 h n (List.mem_range.2 (by omega))
    have h2 := beq_iff_eq.1 h1
    rw [wl, wl_lit h60 h n (by omega), boxF_lit, h2, List.take_succ_eq_append_getElem (by omega)]
    congr 2
    rw [List.getD_eq_getElem?_getD, List.getElem?_eq_getElem (by omega)]; rfl
theorem ks_lit {k : List Nat} {WL : List (List Nat)} (h60 : WL.length = 60) (h : chkW k WL = true) {j : Nat} (hj : j < 240) : ks (ls k) j = KL WL j := by
  unfold ks W
  rw [if_pos hj, ← wl_at boxF (ls k) 60 _ (by omega), wl_lit h60 h 60 (by omega)]
  unfold at' KL
  rw [← h60, List.take_length]
theorem tab_ls {s : Nat → Nat} {l : List Nat} (h : tab 16 s = l) : Q16 s (ls l) := fun i hi => by
  subst h
  exact (getD_tab hi).symm
theorem ex_seal {k f out : List Nat} {WL SL : List (List Nat)} (h60 : WL.length = 60) (h : chkW k WL = true) (h2 : chkS WL f SL out = true) : Q16 (sealM (ks (ls k)) (ls f)) (ls out) := by
  unfold chkS at h2
  rw [Bool.and_eq_true, Bool.and_eq_true, beq_iff_eq, beq_iff_eq] at h2
  obtain ⟨⟨h0, hm⟩, ho⟩ := h2
  have hk : ∀ r, r < 15 → Q16 (rk (ks (ls k)) r) (rk (KL WL) r) := fun r hr i hi => ks_lit h60 h (by omega)
  have adds : ∀ (s t : Nat → Nat) r, r < 15 → Q16 s t → Q16 (add s (rk (ks (ls k)) r)) (add t (rk (KL WL) r)) := fun s t r hr hst i hi => by
    unfold add
    rw [hst i hi, hk r hr i hi]
  have hss : ∀ m, m ≤ 13 → Q16 (ss (ks (ls k)) (ls f) m) (ls (SL.getD m [])) := by
    intro m
    induction m with
    | zero => exact fun _ => (adds _ _ 0 (by omega) (Q16.refl _)).trans (tab_ls h0)
    | succ m ih =>
      intro hm13
      have h3 := beq_iff_eq.1 (List.all_eq_true.1 hm m (List.mem_range.2 (by omega)))
      refine Q16.trans ?_ (tab_ls h3)
      have h4 := (((ih (by omega)).each boxF).turn).mix
      rw [boxF_lit] at h4
      exact adds _ _ (m + 1) (by omega) (by rw [← boxF_lit] at h4 ⊢; exact h4)
  refine Q16.trans ?_ (tab_ls ho)
  have h4 := ((hss 13 (by omega)).each boxF).turn
  rw [← boxF_lit]
  exact adds _ _ 14 (by omega) h4
def exK : List Nat := [0, 1, 2, 3, 4, 5, 6, 7, 8, 9, 10, 11, 12, 13, 14, 15, 16, 17, 18, 19, 20, 21, 22, 23, 24, 25, 26, 27, 28, 29, 30, 31]
def exB : List Nat := [0, 17, 34, 51, 68, 85, 102, 119, 136, 153, 170, 187, 204, 221, 238, 255]
def exO : List Nat := [142, 162, 183, 202, 81, 103, 69, 191, 234, 252, 73, 144, 75, 73, 96, 137]
def zK : List Nat := [0, 0, 0, 0, 0, 0, 0, 0, 0, 0, 0, 0, 0, 0, 0, 0, 0, 0, 0, 0, 0, 0, 0, 0, 0, 0, 0, 0, 0, 0, 0, 0]
def zB : List Nat := [0, 0, 0, 0, 0, 0, 0, 0, 0, 0, 0, 0, 0, 0, 0, 0]
def zO : List Nat := [220, 149, 192, 120, 162, 64, 137, 137, 173, 72, 162, 20, 146, 132, 32, 135]
def exW : List (List Nat) := [[0, 1, 2, 3], [4, 5, 6, 7], [8, 9, 10, 11], [12, 13, 14, 15], [16, 17, 18, 19], [20, 21, 22, 23], [24, 25, 26, 27], [28, 29, 30, 31], [165, 115, 194, 159], [161, 118, 196, 152], [169, 127, 206, 147], [165, 114, 192, 156], [22, 81, 168, 205], [2, 68, 190, 218], [26, 93, 164, 193], [6, 64, 186, 222], [174, 135, 223, 240], [15, 241, 27, 104], [166, 142, 213, 251], [3, 252, 21, 103], [109, 225, 241, 72], [111, 165, 79, 146], [117, 248, 235, 83], [115, 184, 81, 141], [198, 86, 130, 127], [201, 167, 153, 23], [111, 41, 76, 236], [108, 213, 89, 139], [61, 226, 58, 117], [82, 71, 117, 231], [39, 191, 158, 180], [84, 7, 207, 57], [11, 220, 144, 95], [194, 123, 9, 72], [173, 82, 69, 164], [193, 135, 28, 47], [69, 245, 166, 96], [23, 178, 211, 135], [48, 13, 77, 51], [100, 10, 130, 10], [124, 207, 247, 28], [190, 180, 254, 84], [19, 230, 187, 240], [210, 97, 167, 223], [240, 26, 250, 254], [231, 168, 41, 121], [215, 165, 100, 74], [179, 175, 230, 64], [37, 65, 254, 113], [155, 245, 0, 37], [136, 19, 187, 213], [90, 114, 28, 10], [78, 90, 102, 153], [169, 242, 79, 224], [126, 87, 43, 170], [205, 248, 205, 234], [36, 252, 121, 204], [191, 9, 121, 233], [55, 26, 194, 60], [109, 104, 222, 54]]
def exS : List (List Nat) := [[0, 16, 32, 48, 64, 80, 96, 112, 128, 144, 160, 176, 192, 208, 224, 240], [79, 99, 118, 6, 67, 224, 170, 133, 239, 167, 33, 50, 1, 164, 231, 5], [24, 89, 251, 194, 138, 28, 0, 160, 120, 237, 138, 173, 196, 47, 97, 9], [151, 92, 102, 193, 203, 159, 63, 168, 169, 58, 40, 223, 142, 225, 15, 99], [28, 5, 242, 113, 164, 23, 224, 79, 249, 33, 197, 193, 4, 112, 21, 84], [195, 87, 170, 225, 27, 69, 183, 176, 162, 199, 189, 40, 168, 220, 153, 250], [127, 7, 65, 67, 203, 78, 36, 62, 193, 12, 129, 93, 131, 117, 213, 76], [214, 83, 164, 105, 108, 160, 188, 15, 90, 202, 171, 93, 185, 108, 94, 125], [90, 168, 88, 57, 95, 210, 141, 125, 5, 225, 163, 136, 104, 243, 185, 197], [74, 130, 72, 81, 197, 126, 126, 71, 100, 61, 229, 12, 42, 243, 232, 201], [193, 73, 7, 246, 202, 59, 58, 160, 112, 233, 170, 49, 59, 82, 181, 236], [95, 156, 106, 191, 186, 198, 52, 170, 80, 64, 159, 167, 102, 103, 118, 83], [81, 102, 4, 149, 67, 83, 149, 3, 20, 251, 134, 228, 1, 146, 37, 33], [98, 123, 206, 185, 153, 157, 90, 170, 201, 69, 236, 244, 35, 245, 109, 165]]
def zW : List (List Nat) := [[0, 0, 0, 0], [0, 0, 0, 0], [0, 0, 0, 0], [0, 0, 0, 0], [0, 0, 0, 0], [0, 0, 0, 0], [0, 0, 0, 0], [0, 0, 0, 0], [98, 99, 99, 99], [98, 99, 99, 99], [98, 99, 99, 99], [98, 99, 99, 99], [170, 251, 251, 251], [170, 251, 251, 251], [170, 251, 251, 251], [170, 251, 251, 251], [111, 108, 108, 207], [13, 15, 15, 172], [111, 108, 108, 207], [13, 15, 15, 172], [125, 141, 141, 106], [215, 118, 118, 145], [125, 141, 141, 106], [215, 118, 118, 145], [83, 84, 237, 193], [94, 91, 226, 109], [49, 55, 142, 162], [60, 56, 129, 14], [150, 138, 129, 193], [65, 252, 247, 80], [60, 113, 122, 58], [235, 7, 12, 171], [158, 170, 143, 40], [192, 241, 109, 69], [241, 198, 227, 231], [205, 254, 98, 233], [43, 49, 43, 223], [106, 205, 220, 143], [86, 188, 166, 181], [189, 187, 170, 30], [100, 6, 253, 82], [164, 247, 144, 23], [85, 49, 115, 240], [152, 207, 17, 25], [109, 187, 169, 11], [7, 118, 117, 132], [81, 202, 211, 49], [236, 113, 121, 47], [231, 176, 232, 156], [67, 71, 120, 139], [22, 118, 11, 123], [142, 185, 26, 98], [116, 237, 11, 161], [115, 155, 126, 37], [34, 81, 173, 20], [206, 32, 212, 59], [16, 248, 10, 23], [83, 191, 114, 156], [69, 201, 121, 231], [203, 112, 99, 133]]
def zS : List (List Nat) := [[0, 0, 0, 0, 0, 0, 0, 0, 0, 0, 0, 0, 0, 0, 0, 0], [99, 99, 99, 99, 99, 99, 99, 99, 99, 99, 99, 99, 99, 99, 99, 99], [153, 152, 152, 152, 153, 152, 152, 152, 153, 152, 152, 152, 153, 152, 152, 152], [167, 21, 21, 94, 167, 21, 21, 94, 167, 21, 21, 94, 167, 21, 21, 94], [61, 49, 51, 155, 95, 82, 80, 248, 61, 49, 51, 155, 95, 82, 80, 248], [177, 181, 244, 66, 71, 205, 228, 103, 177, 181, 244, 66, 71, 205, 228, 103], [62, 162, 105, 145, 36, 221, 49, 114, 92, 193, 10, 242, 70, 190, 82, 17], [84, 138, 161, 181, 36, 187, 33, 107, 248, 44, 183, 51, 95, 242, 121, 177], [154, 109, 79, 128, 92, 49, 57, 105, 190, 167, 206, 97, 244, 18, 108, 189], [227, 224, 215, 180, 135, 2, 38, 220, 44, 245, 194, 248, 97, 165, 39, 47], [239, 131, 238, 25, 250, 245, 110, 5, 53, 216, 137, 124, 211, 186, 41, 167], [2, 29, 33, 136, 143, 185, 15, 132, 34, 188, 92, 154, 128, 126, 230, 214], [79, 67, 92, 238, 64, 179, 62, 102, 135, 91, 107, 101, 54, 5, 76, 151], [39, 186, 159, 47, 43, 179, 100, 126, 200, 125, 16, 106, 21, 145, 99, 6]]
theorem ex_one : Q16 (sealM (ks (ls exK)) (ls exB)) (ls exO) := ex_seal (WL := exW) (SL := exS) rfl (by decide +kernel) (by decide +kernel)
theorem ex_two : Q16 (sealM (ks (ls zK)) (ls zB)) (ls zO) := ex_seal (WL := zW) (SL := zS) rfl (by decide +kernel) (by decide +kernel)
end AesM
end Go.Proofs.Ytkcfonlondlmeaa
namespace Go.Proofs.Ytkcfonlondlmeaa
section
variable {P : Program} {ops : Array Oper}
def upB (d : Nat → Bool) (k : Nat) : Nat → Bool := fun j => if j = k then true else d j
/-- The operations in the order of the text, the k-th first; st tells which of them write. -/
def wpM (P : Program) (ops : Array Oper) (st : Nat → Bool) (D : (Nat → Bool) → World → Prop) (Q : Act → Prop) : Nat → List Oper → Act → Prop
  | _, [], a => Q a
  | k, o :: rest, a => ∃ v, ((Region.wanted o (yielded ops a.tmps) = true ∧ ((st k = true ∧ ∀ d w, d k = false → D d w → Gives P o a w v (D (upB d k))) ∨ (st k = false ∧ ∀ d w, D d w → Gives P o a w v (D d)))) ∨
      (Region.wanted o (yielded ops a.tmps) = false ∧ st k = false ∧ v = undef)) ∧ wpM P ops st D Q (k + 1) rest (a.put o.dst v)
section
variable {D : (Nat → Bool) → World → Prop} {Qk : Act → Prop} {o : Oper} {rest : List Oper} {a : Act} {v : Value} {k : Nat} {st : Nat → Bool}
theorem wpM_nil (h : Qk a) : wpM P ops st D Qk k [] a := h
theorem wpM_val (hk : st k = false) (hw : Region.wanted o (yielded ops a.tmps) = true) (h1 : ∀ d w, D d w → Gives P o a w v (D d)) (h2 : wpM P ops st D Qk (k + 1) rest (a.put o.dst v)) : wpM P ops st D Qk k (o :: rest) a :=
  ⟨v, .inl ⟨hw, .inr ⟨hk, h1⟩⟩, h2⟩
theorem wpM_put (hk : st k = true) (hw : Region.wanted o (yielded ops a.tmps) = true) (h1 : ∀ d w, d k = false → D d w → Gives P o a w v (D (upB d k))) (h2 : wpM P ops st D Qk (k + 1) rest (a.put o.dst v)) : wpM P ops st D Qk k (o :: rest) a :=
  ⟨v, .inl ⟨hw, .inl ⟨hk, h1⟩⟩, h2⟩
end
theorem wpM_vals {st : Nat → Bool} {D : (Nat → Bool) → World → Prop} {Qk : Act → Prop} : ∀ (l : List Oper) (k : Nat) (a : Act), wpM P ops st D Qk k l a → ∃ vals : Nat → Value, Qk (lexF l vals l.length a) ∧
    ∀ i o, l[i]? = some o → ((Region.wanted o (yielded ops (lexF l vals i a).tmps) = true ∧ ((st (k + i) = true ∧ ∀ d w, d (k + i) = false → D d w → Gives P o (lexF l vals i a) w (vals i) (D (upB d (k + i)))) ∨ (st (k + i) = false ∧ ∀ d w, D d w → Gives P o (lexF l vals i a) w (vals i) (D d)))) ∨
      (Region.wanted o (yielded ops (lexF l vals i a).tmps) = false ∧ st (k + i) = false ∧ vals i = undef))
  | [], _, a, h => ⟨fun _ => undef, h, fun i o hi => by simp at hi⟩
  | o :: l, k, a, h => by
    obtain ⟨v, h1, h2⟩ := h
    obtain ⟨vals, hq, hs⟩ := wpM_vals l (k + 1) _ h2
    refine ⟨fun j => match j with | 0 => v | j + 1 => vals j, ?_, fun i o' hi => ?_⟩
    · rw [List.length_cons, lexF_cons]; exact hq
    · cases i with
      | zero =>
        simp only [List.getElem?_cons_zero, Option.some.injEq] at hi
        subst hi
        exact h1
      | succ i =>
        rw [lexF_cons, show k + (i + 1) = k + 1 + i by omega]
        exact hs i o' (by simpa using hi)
theorem gives_imp {o : Oper} {a : Act} {w : World} {v : Value} {R R' : World → Prop} (h : Gives P o a w v R) (hr : ∀ w', R w' → R' w') : Gives P o a w v R' := by
  unfold Gives at *
  generalize (execOp a.eval o).run P w = r at *
  cases r with
  | ok n w' =>
    cases n <;> simp only at h ⊢
    case value u => exact ⟨h.1, hr _ h.2⟩
    case skip => exact ⟨h.1, hr _ h.2⟩
    case enter f args => exact h.mono fun e w'' ⟨he, hR⟩ => ⟨he, hr _ hR⟩
  | halt x w' => exact h
theorem wp_region_set {id : Nat} {Q : Exit → Act → World → Prop} {D : (Nat → Bool) → World → Prop} {a : Act} {w : World} {l : List Oper} (st : Nat → Bool) (n : Nat) (hst : ∀ j, st j = true → j < n) (hm : P.follows .mixedOrders = true) (ht : tidy l.toArray = true) (hB : tailB l.toArray n = true)
    (hirr : ∀ d d' w, (∀ j, st j = true → d j = d' j) → D d w → D d' w) (hC : D (fun _ => false) w.drew)
    (h : wpM P l.toArray st D (fun a' => ∀ w', D (fun _ => true) w' → wpList P l.toArray Q (l.drop n) a' w') 0 (l.take n) a) : (Code.region id l.toArray true).wp P Q a w := by
  obtain ⟨vals, hq, hs⟩ := wpM_vals _ _ _ h
  refine region_core (Γ := Unit) (C := fun _ L w => D (fun j => L.getD j false) w) n hm ht hB () (hirr _ _ _ (fun j _ => (getD_replicate_false _ j).symm) hC) (fun _ => vals) (fun i o hi γ L w hsz hr hC' => ⟨(), fun _ _ => rfl, ?_⟩)
    (fun _ L w' hall hC' => hq w' (hirr _ _ _ (fun j hj => hall j (hst j hj)) hC'))
  have hun := getD_both (mem_ready.1 hr).1
  have hlt : i < L.size := by
    obtain ⟨o', ho', _⟩ := (mem_ready.1 hr).2
    have := (Array.getElem?_eq_some_iff.1 ho').1
    simp at this; omega
  rcases hs i o hi with ⟨h1, ⟨h2, h3⟩ | ⟨h2, h3⟩⟩ | ⟨h1, h2, h3⟩
  · rw [Nat.zero_add] at h2 h3
    refine .inl ⟨h1, gives_imp (h3 _ w hun hC') fun w' hw' => hirr _ _ _ (fun j _ => ?_) hw'⟩
    unfold upB
    by_cases e : j = i
    · subst e; rw [if_pos rfl]; simp [hlt]
    · rw [if_neg e, getD_set_ne false (Ne.symm e)]
  · rw [Nat.zero_add] at h2
    refine .inl ⟨h1, gives_imp (h3 _ w hC') fun w' hw' => hirr _ _ _ (fun j hj => ?_) hw'⟩
    have e : j ≠ i := fun e => by subst e; rw [h2] at hj; cases hj
    rw [getD_set_ne false (Ne.symm e)]
  · rw [Nat.zero_add] at h2
    refine .inr ⟨h1, h3, hirr _ _ _ (fun j hj => ?_) hC'⟩
    have e : j ≠ i := fun e => by subst e; rw [h2] at hj; cases hj
    rw [getD_set_ne false (Ne.symm e)]
end
end Go.Proofs.Ytkcfonlondlmeaa
namespace Go.Proofs.Ytkcfonlondlmeaa
open Go.RowKit
section
variable {P : Program} {ops : Array Oper}
def updV (vs : Nat → Value) (i : Nat) (v : Value) : Nat → Value := fun j => if j = i then v else vs j
theorem updV_self (vs : Nat → Value) (i : Nat) (v : Value) : updV vs i v i = v := if_pos rfl
theorem updV_ne (vs : Nat → Value) {i j : Nat} (v : Value) (h : j ≠ i) : updV vs i v j = vs j := if_neg h
/-- The operations in the order of the text, the k-th first. -/
def wpR (P : Program) (ops : Array Oper) (S : Nat → Value → Prop) (D : Nat → (Nat → Value) → World → Prop) (K : Nat → (Nat → Value) → World → World → Prop) (C : World → Prop) (Q : (Nat → Value) → Act → Prop) : Nat → (Nat → Value) → List Oper → Act → Prop
  | _, vs, [], a => Q vs a
  | k, vs, o :: rest, a => ((Region.wanted o (yielded ops a.tmps) = true ∧ ∀ w, C w → (∀ j, Region.waitsFor .any ops k j = true → D j vs w) →
      ∃ v, S k v ∧ Gives P o a w v fun w' => C w' ∧ K k vs w w' ∧ D k (updV vs k v) w') ∨
      (Region.wanted o (yielded ops a.tmps) = false ∧ S k undef ∧ ∀ w, D k (updV vs k undef) w)) ∧ (S k (vs k) → wpR P ops S D K C Q (k + 1) vs rest (a.put o.dst (vs k)))
theorem wpR_at {S : Nat → Value → Prop} {D : Nat → (Nat → Value) → World → Prop} {K : Nat → (Nat → Value) → World → World → Prop} {C : World → Prop} {Qk : (Nat → Value) → Act → Prop} {vs : Nat → Value} (hS : ∀ j, S j (vs j)) : ∀ (l : List Oper) (k : Nat) (a : Act), wpR P ops S D K C Qk k vs l a →
    Qk vs (lexF l (fun i => vs (k + i)) l.length a) ∧ ∀ i o, l[i]? = some o →
      ((Region.wanted o (yielded ops (lexF l (fun i => vs (k + i)) i a).tmps) = true ∧ ∀ w, C w → (∀ j, Region.waitsFor .any ops (k + i) j = true → D j vs w) →
        ∃ v, S (k + i) v ∧ Gives P o (lexF l (fun i => vs (k + i)) i a) w v fun w' => C w' ∧ K (k + i) vs w w' ∧ D (k + i) (updV vs (k + i) v) w') ∨
      (Region.wanted o (yielded ops (lexF l (fun i => vs (k + i)) i a).tmps) = false ∧ S (k + i) undef ∧ ∀ w, D (k + i) (updV vs (k + i) undef) w))
  | [], k, a, h => ⟨h, fun i o hi => by simp at hi⟩
  | o :: l, k, a, h => by
    obtain ⟨h1, h2⟩ := h
    obtain ⟨hq, hs⟩ := wpR_at hS l (k + 1) _ (h2 (hS k))
    have e : (fun i => vs (k + 1 + i)) = fun i => vs (k + (i + 1)) := funext fun i => by rw [show k + 1 + i = k + (i + 1) by omega]
    rw [e] at hq hs
    refine ⟨?_, fun i o' hi => ?_⟩
    · rw [List.length_cons, lexF_cons]; exact hq
    · cases i with
      | zero =>
        simp only [List.getElem?_cons_zero, Option.some.injEq] at hi
        subst hi
        exact h1
      | succ i =>
        rw [lexF_cons, show k + (i + 1) = k + 1 + i by omega]
        exact hs i o' (by simpa using hi)
theorem waits_ready {L : Array Bool} {i j : Nat} (hr : i ∈ Region.ready .any ops L) (hw : Region.waitsFor .any ops i j = true) : L.getD j false = true := by
  obtain ⟨hun, o, ho, hall⟩ := mem_ready.1 hr
  obtain ⟨o2, ho2, e2, he2, hb2, hon⟩ := Region.waitsFor_spec hw
  obtain rfl : o = o2 := Option.some.inj (ho.symm.trans ho2)
  have h1 := hall e2 he2 hb2
  rw [hon] at h1
  exact h1
theorem waits_closed {L : Array Bool} {i j : Nat} (hc : Closed ops L) (hl : L.getD i false = true) (hw : Region.waitsFor .any ops i j = true) : L.getD j false = true := by
  obtain ⟨o2, ho2, e2, he2, hb2, hon⟩ := Region.waitsFor_spec hw
  have := hc i o2 ho2 hl e2 he2 hb2
  rw [hon] at this
  exact this
theorem wp_region_rel {id : Nat} {Q : Exit → Act → World → Prop} {C : World → Prop} {S : Nat → Value → Prop} {D : Nat → (Nat → Value) → World → Prop} {K : Nat → (Nat → Value) → World → World → Prop} {a : Act} {w : World} {l : List Oper} (n : Nat)
    (hm : P.follows .mixedOrders = true) (ht : tidy l.toArray = true) (hB : tailB l.toArray n = true)
    (v0 : Nat → Value) (h0 : ∀ j, S j (v0 j)) (hD : ∀ i j vs w w', i < n → j ≠ i → D j vs w → K i vs w w' → D j vs w')
    (hL : ∀ j i vs v w, j ≠ i → Region.waitsFor .any l.toArray j i = false → D j vs w → D j (updV vs i v) w)
    (hC : C w.drew)
    (h : ∀ vs : Nat → Value, wpR P l.toArray S D K C (fun vs a' => ∀ w', C w' → (∀ k, k < n → D k vs w') → wpList P l.toArray Q (l.drop n) a' w') 0 vs (l.take n) a) : (Code.region id l.toArray true).wp P Q a w := by
  refine region_core (Γ := {vs : Nat → Value // ∀ j, S j (vs j)}) (C := fun γ L w' => C w' ∧ Closed l.toArray L ∧ ∀ k, k < n → L.getD k false = true → D k γ.1 w') n hm ht hB ⟨v0, h0⟩
    ⟨hC, (fun j o _ hl => by rw [getD_replicate_false] at hl; cases hl), fun k _ hk => by rw [getD_replicate_false] at hk; cases hk⟩ (fun γ => γ.1) ?_ ?_
  · intro i o hi γ L w' hsz hr ⟨hC', hcl, hDs⟩
    have hin : i < n := by
      have := (List.getElem?_eq_some_iff.1 hi).1
      rw [List.length_take] at this; omega
    have hun := getD_both (mem_ready.1 hr).1
    have hcl2 := closed_set hcl hr
    have key := (wpR_at γ.2 (l.take n) 0 a (h γ.1)).2 i o hi
    simp only [Nat.zero_add] at key
    have hwait : ∀ j, Region.waitsFor .any l.toArray i j = true → D j γ.1 w' := fun j hj => by
      have h1 := waits_ready hr hj
      have hji : j < i := by
        obtain ⟨o2, ho2, e2, he2, hb2, hon⟩ := Region.waitsFor_spec hj
        have := tidy_edge ht ho2 e2 he2 hb2
        omega
      exact hDs j (by omega) h1
    have step : ∀ (v : Value) (w2 : World), C w2 → (w2 = w' ∨ K i γ.1 w' w2) → D i (updV γ.1 i v) w2 →
        C w2 ∧ Closed l.toArray (L.setIfInBounds i true) ∧ ∀ k, k < n → (L.setIfInBounds i true).getD k false = true → D k (updV γ.1 i v) w2 := fun v w2 hc hb hd => by
      refine ⟨hc, hcl2, fun k hk hL' => ?_⟩
      by_cases e : k = i
      · subst e; exact hd
      · rw [getD_set_ne false (Ne.symm e)] at hL'
        have hw : Region.waitsFor .any l.toArray k i = false := by
          cases hx : Region.waitsFor .any l.toArray k i with
          | false => rfl
          | true =>
            have := waits_closed hcl hL' hx
            rw [hun] at this
            cases this
        refine hL k i _ v _ e hw ?_
        rcases hb with rfl | hb
        · exact hDs k hk hL'
        · exact hD i k _ _ _ hin e (hDs k hk hL') hb
    have upd : ∀ v, S i v → ∀ j, S j (updV γ.1 i v j) := fun v hv j => by
      by_cases e : j = i
      · subst e; rw [updV_self]; exact hv
      · rw [updV_ne _ _ e]; exact γ.2 j
    have keep : ∀ v j, L.getD j false = true → γ.1 j = updV γ.1 i v j := fun v j hj => by
      have : j ≠ i := fun e => by subst e; rw [hun] at hj; cases hj
      rw [updV_ne _ _ this]
    rcases key with ⟨k1, k2⟩ | ⟨k1, k2, k3⟩
    · obtain ⟨v, hv, hg⟩ := k2 w' hC' hwait
      refine ⟨⟨updV γ.1 i v, upd v hv⟩, keep v, .inl ⟨k1, ?_⟩⟩
      simp only [updV_self]
      exact gives_mono hg fun w2 ⟨h1, h2, h3⟩ => step v w2 h1 (.inr h2) h3
    · exact ⟨⟨updV γ.1 i undef, upd undef k2⟩, keep undef, .inr ⟨k1, updV_self _ _ _, step undef w' hC' (.inl rfl) (k3 w')⟩⟩
  · intro γ L w' hall ⟨hC', _, hDs⟩
    have key := (wpR_at γ.2 (l.take n) 0 a (h γ.1)).1
    have ez : (fun i => γ.1 (0 + i)) = γ.1 := funext fun i => by rw [Nat.zero_add]
    rw [ez] at key
    exact key w' hC' fun k hk => hDs k hk (hall k hk)
end
end Go.Proofs.Ytkcfonlondlmeaa
namespace Go.Proofs.Ytkcfonlondlmeaa
open Go.ChangeShapes Go.WideShapes Go.ChangeAt Go.RowKit
/-- A type of slices, of numbers of kind k. -/
structure Elt (S e : TypeId) (k : IntKind) : Prop where
  und : Try.prog.underlying S = some (.slice e)
  inf : ∃ i : TypeInfo, Try.prog.info? e = some i ∧ i.zero = some (.int k 0) ∧ i.size = 1 ∧ i.bytes ≤ 8
theorem elt_of {S e : TypeId} {k : IntKind} (h : Try.prog.underlying S = some (.slice e)) (h1 : (Try.prog.info? e).map (·.size) = some 1) (h2 : (Try.prog.info? e).map (fun i => decide (i.bytes ≤ 8)) = some true) (h3 : (Try.prog.info? e).bind (·.zero) = some (.int k 0)) : Elt S e k := by
  refine ⟨h, ?_⟩
  cases hi : Try.prog.info? e with
  | none => rw [hi] at h1; cases h1
  | some i =>
    rw [hi] at h1 h2 h3
    simp only [Option.map_some, Option.some.injEq, decide_eq_true_eq, Option.bind_some] at h1 h2 h3
    exact ⟨i, rfl, h3, h1, h2⟩
def nums (k : IntKind) (l : List Nat) : List Value := l.map fun x => Value.int k (x : Nat)
theorem nums_length (k : IntKind) (l : List Nat) : (nums k l).length = l.length := List.length_map _
theorem nums_append (k : IntKind) (l m : List Nat) : nums k (l ++ m) = nums k l ++ nums k m := List.map_append
theorem nums_get (k : IntKind) {l : List Nat} {i : Nat} (h : i < l.length) : (nums k l)[i]? = some (.int k (l.getD i 0 : Nat)) := by
  unfold nums
  rw [List.getElem?_map, List.getD_eq_getElem?_getD, List.getElem?_eq_getElem h]; rfl
/-- A slice of the numbers of l, in one row below block B. -/
def Nums (k : IntKind) (w : World) (B : Nat) (A : Option Addr) (l : List Nat) : Prop :=
  0 < l.length → ∃ b o, A = some ⟨b, o, none⟩ ∧ b < B ∧ ∀ i, i < l.length → w.cell? ⟨b, o + i, none⟩ = some (.int k (l.getD i 0 : Nat))
theorem Nums.below {k : IntKind} {B B' : Nat} {w w' : World} {A : Option Addr} {l : List Nat} (h : Nums k w B A l) (hb : Below B' w w') (hB : B ≤ B') : Nums k w' B A l := fun hn => by
  obtain ⟨b, o, rfl, hl, hr⟩ := h hn
  exact ⟨b, o, rfl, hl, fun i hi => (hb.cell (p := ⟨b, o + i, none⟩) (by show b < B'; omega)).trans (hr i hi)⟩
theorem Nums.more {k : IntKind} {B B' : Nat} {w : World} {A : Option Addr} {l : List Nat} (h : Nums k w B A l) (hB : B ≤ B') : Nums k w B' A l := fun hn => by
  obtain ⟨b, o, rfl, hl, hr⟩ := h hn
  exact ⟨b, o, rfl, by omega, hr⟩
theorem Nums.byt {w : World} {B : Nat} {A : Option Addr} {l : List Nat} (h : Nums .u8 w B A l) : Byt w B A l := h
theorem Byt.nums {w : World} {B : Nat} {A : Option Addr} {l : List Nat} (h : Byt w B A l) : Nums .u8 w B A l := h
theorem Nums.none {k : IntKind} {w : World} {B : Nat} {A : Option Addr} {l : List Nat} (h : l.length = 0) : Nums k w B A l := fun hn => absurd hn (by omega)
theorem Nums.row {k : IntKind} {w : World} {B g : Nat} {t : TypeId} {cs : Array Value} {l : List Nat} (h : Blk w g t cs) (hg : g < B) (hc : ∀ j, j < l.length → cs[j]? = some (.int k (l.getD j 0 : Nat))) : Nums k w B (some ⟨g, 0, .none⟩) l := fun _ =>
  ⟨g, 0, rfl, hg, fun i hi => by rw [Nat.zero_add, h.cell]; exact hc i hi⟩
/-- v is a slice of the numbers l, in a row of its own from block B on. -/
def Own (e : TypeId) (k : IntKind) (w : World) (B : Nat) (v : Value) (l : List Nat) : Prop := w.ownsRow B e 1 v l.length (nums k l)
section
variable {e : TypeId} {k : IntKind} {w w' : World} {B : Nat} {v : Value} {l : List Nat}
theorem Own.nil : Own e k w B (.slice none 0 0) [] := World.ownsRow_nil w B e 1
theorem Own.empty (w : World) (hB : B ≤ w.heap.size) : Own e k (w.alloc (.cells #[] e)) B (.slice (some ⟨w.heap.size, 0, none⟩) 0 0) [] :=
  World.ownsRow_made w #[] 0 hB (Nat.zero_le _) rfl
theorem Own.form (h : Own e k w B v l) : (v = .slice none 0 0 ∧ l = []) ∨ ∃ g cap, v = .slice (some ⟨g, 0, none⟩) l.length cap ∧ B ≤ g ∧ g < w.heap.size ∧ l.length ≤ cap ∧ cap ≤ maxLen ∧ Nums k w w.heap.size (some ⟨g, 0, none⟩) l := by
  rcases h.2 with ⟨h', h0⟩ | ⟨g, cap, cur, hv, hB, hg, hnc, hcm, hcs, ht⟩
  · exact .inl ⟨h', List.eq_nil_of_length_eq_zero h0⟩
  · have hlt : g < w.heap.size := Blk.lt (t := e) (cs := cur) hg
    refine .inr ⟨g, cap, hv, hB, hlt, hnc, hcm, fun _ => ⟨g, 0, rfl, hlt, fun i hi => ?_⟩⟩
    rw [Nat.zero_add, cell_of_row w g _ cur _ _ hg]
    have h1 := nums_get k hi
    rw [← ht, List.getElem?_take_of_lt (by omega), Array.getElem?_toList] at h1
    exact h1
/-- The same, whichever it is. -/
theorem Own.any (h : Own e k w B v l) : ∃ A cap, v = .slice A l.length cap ∧ l.length ≤ cap ∧ cap ≤ maxLen ∧ Nums k w w.heap.size A l := by
  rcases h.form with ⟨rfl, rfl⟩ | ⟨g, cap, rfl, _, _, h1, h2, h3⟩
  · exact ⟨.none, 0, rfl, Nat.le_refl _, Nat.zero_le _, Nums.none rfl⟩
  · exact ⟨_, cap, rfl, h1, h2, h3⟩
theorem Own.below (h : Own e k w B v l) (hb : Below w.heap.size w w') : Own e k w' B v l := by
  refine ⟨h.1, ?_⟩
  rcases h.2 with h' | ⟨g, cap, cur, hv, hB, hg, hr⟩
  · exact .inl h'
  · exact .inr ⟨g, cap, cur, hv, hB, Blk.below (t := e) (cs := cur) hg hb (Blk.lt (t := e) (cs := cur) hg), hr⟩
theorem Own.alloc (h : Own e k w B v l) (o : Obj) : Own e k (w.alloc o) B v l := World.ownsRow.alloc h o
theorem Own.drew (h : Own e k w B v l) : Own e k w.drew B v l := ⟨h.1, h.2⟩
end
theorem below_grown {B B' : Nat} {w0 w w' w1 : World} {v : Value} {e : TypeId} {k : IntKind} {l : List Nat} (hb : Below B w0 w) (hg : w.grownBy w' v.ownBlock) (ho : Own e k w1 B' v l) (hB : B ≤ B') (hs : B ≤ w0.heap.size) : Below B w0 w' :=
  hb.grown hg (Nat.le_trans hs hb.size) fun g h => Nat.le_trans hB (World.ownsRow.lt ho g h).1
theorem Blk.grown {e : TypeId} {k : IntKind} {w w' w0 : World} {g B : Nat} {t : TypeId} {cs : Array Value} {v : Value} {l : List Nat} (h : Blk w g t cs) (hg : w.grownBy w' v.ownBlock) (ho : Own e k w0 B v l) (hlt : g < B) : Blk w' g t cs :=
  (hg.block g h.lt fun e' => by have := (World.ownsRow.lt ho g e'.symm).1; omega).trans h
theorem Nums.grown {e : TypeId} {k k' : IntKind} {w w' w0 : World} {A : Option Addr} {B B' : Nat} {v : Value} {l m : List Nat} (h : Nums k' w B' A m) (_hB : B' ≤ w.heap.size) (hg : w.grownBy w' v.ownBlock) (ho : Own e k w0 B v l) (hlt : B' ≤ B) : Nums k' w' B' A m := fun hn => by
  obtain ⟨b, o, rfl, hl, hr⟩ := h hn
  exact ⟨b, o, rfl, hl, fun i hi => hg.cell (hr i hi) fun e' => by have := (World.ownsRow.lt ho b e'.symm).1; omega⟩
theorem below_none {B : Nat} {w0 w w' : World} (hb : Below B w0 w) (hg : w.grownBy w' none) (hs : B ≤ w0.heap.size) : Below B w0 w' :=
  hb.grown hg (Nat.le_trans hs hb.size) fun g h => by cases h
theorem Own.heap {e : TypeId} {k : IntKind} {w w' : World} {B : Nat} {v : Value} {l : List Nat} (h : Own e k w B v l) (hh : w'.heap = w.heap) : Own e k w' B v l := by
  refine ⟨h.1, ?_⟩
  rcases h.2 with h' | ⟨g, cap, cur, hv, hB, hg, hr⟩
  · exact .inl h'
  · exact .inr ⟨g, cap, cur, hv, hB, by rw [hh]; exact hg, hr⟩
section
variable {ops : Array Oper} {Q : Exit → Act → World → Prop} {a : Act} {w : World} {rest : List Oper} {dst : Option Tmp} {ty : TypeId} {pos : String} {after : Array Edge} {s x : Operand} {m c B B' : Nat} {v : Value} {l kk : List Nat} {S e : TypeId} {k : IntKind} {ad : Addr}
theorem run_appN (E : Elt S e k) (hown : Own e k w B v l) (hrd : Nums k w B' (some ad) kk) (hk : kk.length = m) (hsz : l.length + m ≤ 1000000) (hB : B ≤ w.heap.size) :
    ∃ v' w', (Builtin.append_ #[S, S] ty #[v, .slice (some ad) m c]).run Try.prog w = .ok v' w' ∧ Own e k w' B v' (l ++ kk) ∧ w.grownBy w' v.ownBlock := by
  obtain ⟨i, hi, hz, h1, h2⟩ := E.inf
  subst hk
  obtain ⟨v', w', hr, ho, hg, _⟩ := run_append_own (P := Try.prog) w B S ty e i (.int k 0) 1 i.bytes E.und hi hz h1 rfl rfl (by decide) v l.length _ hown ad kk.length c (nums k kk) (by rw [nums_length, Nat.mul_one])
    (fun j u hj => by
      have hjm : j < kk.length := by
        have := (List.getElem?_eq_some_iff.1 hj).1
        rwa [nums_length] at this
      obtain ⟨b, o, e', _, hr⟩ := hrd (by omega)
      obtain rfl : ad = ⟨b, o, none⟩ := Option.some.inj e'
      rw [nums_get k hjm] at hj
      rw [Addr.add_mid, hr j hjm]
      exact hj)
    (fun u hu => by
      obtain ⟨y, _, rfl⟩ := List.mem_map.1 hu
      rfl)
    (by unfold maxLen; omega) (Nat.le_trans (Nat.mul_le_mul hsz h2) (by omega)) hB
  refine ⟨v', w', hr, ?_, hg⟩
  unfold Own
  rw [List.length_append, nums_append]
  exact ho
/-- append of numbers to a slice of the call's own. -/
theorem wappN (E : Elt S e k) (hs : a.eval s = v) (hx : a.eval x = .slice (some ad) m c) (hown : Own e k w B v l) (hrd : Nums k w B' (some ad) kk) (hk : kk.length = m) (hsz : l.length + m ≤ 1000000) (hB : B ≤ w.heap.size)
    (h : ∀ v' w', Own e k w' B v' (l ++ kk) → w.grownBy w' v.ownBlock → wpList Try.prog ops Q rest (a.put dst v') w') :
    wpList Try.prog ops Q (⟨dst, .call { callee := .builtin .append, args := #[s, x], argTypes := #[S, S] }, ty, pos, after, none⟩ :: rest) a w := by
  obtain ⟨v', w', hr, h1, h2⟩ := run_appN (ty := ty) (c := c) E hown hrd hk hsz hB
  refine wpList_plain rfl fun K hK => ?_
  unfold Oper.wp execOp
  simp only [resolve, invoke, builtin, Sem.run_bind, Sem.run_pure, Result.andThen_ok, List.map_toArray, List.map_cons, List.map_nil, hs, hx, hr]
  exact hK _ _ (h v' w' h1 h2)
theorem wappN_none (E : Elt S e k) (hs : a.eval s = v) (hx : a.eval x = .slice none 0 0) (hown : Own e k w B v l) (h : wpList Try.prog ops Q rest (a.put dst v) w) :
    wpList Try.prog ops Q (⟨dst, .call { callee := .builtin .append, args := #[s, x], argTypes := #[S, S] }, ty, pos, after, none⟩ :: rest) a w := by
  obtain ⟨i, hi, hz, h1, h2⟩ := E.inf
  refine wpList_plain rfl fun K hK => ?_
  unfold Oper.wp execOp
  have := run_append_owned_none (P := Try.prog) w B S ty e i 1 E.und hi v l.length _ hown
  simp only [resolve, invoke, builtin, Sem.run_bind, Sem.run_pure, Result.andThen_ok, List.map_toArray, List.map_cons, List.map_nil, hs, hx, this]
  exact hK _ _ h
theorem wappN_any {A : Option Addr} (E : Elt S e k) (hs : a.eval s = v) (hx : a.eval x = .slice A m c) (h0 : A = none → m = 0 ∧ c = 0) (hown : Own e k w B v l) (hrd : Nums k w B' A kk) (hk : kk.length = m) (hsz : l.length + m ≤ 1000000) (hB : B ≤ w.heap.size)
    (h : ∀ v' w', Own e k w' B v' (l ++ kk) → w.grownBy w' v.ownBlock → wpList Try.prog ops Q rest (a.put dst v') w') :
    wpList Try.prog ops Q (⟨dst, .call { callee := .builtin .append, args := #[s, x], argTypes := #[S, S] }, ty, pos, after, none⟩ :: rest) a w := by
  cases A with
  | some ad => exact wappN E hs hx hown hrd hk hsz hB h
  | none =>
    obtain ⟨rfl, rfl⟩ := h0 rfl
    obtain rfl := List.eq_nil_of_length_eq_zero hk
    rw [List.append_nil] at h
    exact wappN_none E hs hx hown (h v w hown ⟨rfl, rfl, rfl, Nat.le_refl _, fun _ _ _ => rfl⟩)
end
/-- A literal of one number. -/
theorem nums_one {k : IntKind} {w : World} {t : TypeId} {x : Nat} {v : Value} (h : v = .int k (x : Nat)) {B : Nat} (hB : w.heap.size < B) : Nums k (w.alloc (.cells #[v] t)) B (some ⟨w.heap.size, 0, none⟩) [x] := fun _ =>
  ⟨w.heap.size, 0, rfl, hB, fun i hi => by
    obtain rfl : i = 0 := by simp at hi; omega
    rw [(Blk.top (t := t) rfl rfl).cell, h]; rfl⟩
end Go.Proofs.Ytkcfonlondlmeaa
namespace Go.Proofs.Ytkcfonlondlmeaa
open Go.ChangeShapes Go.WideShapes Go.ChangeAt Go.RowKit
section
variable {ops : Array Oper} {Q : Exit → Act → World → Prop} {a : Act} {w : World} {rest : List Oper} {dst : Option Tmp} {ty : TypeId} {pos : String} {after : Array Edge} {s x : Operand} {m c B B' : Nat} {v : Value} {l kk : List Nat} {S e : TypeId} {k : IntKind} {ad : Addr}
theorem nums_reads (hrd : Nums k w B' (some ad) kk) (_hk : kk.length = m) : ∀ j u, (nums k kk)[j]? = some u → w.cell? (ad.add j) = some u := fun j u hj => by
  have hjm : j < kk.length := by
    have := (List.getElem?_eq_some_iff.1 hj).1
    rwa [nums_length] at this
  obtain ⟨b, o, e', _, hr⟩ := hrd (by omega)
  obtain rfl : ad = ⟨b, o, none⟩ := Option.some.inj e'
  rw [nums_get k hjm] at hj
  rw [Addr.add_mid, hr j hjm]
  exact hj
theorem nums_oneCell (kk : List Nat) : ∀ u ∈ nums k kk, u.oneCell' = true := fun u hu => by
  obtain ⟨y, _, rfl⟩ := List.mem_map.1 hu
  rfl
/-- It lies where the slice lay, or anew. -/
theorem run_appN_where (E : Elt S e k) (hown : Own e k w B v l) (hrd : Nums k w B' (some ad) kk) (hk : kk.length = m) (hsz : l.length + m ≤ 1000000) {v' : Value} {w' : World}
    (hr : (Builtin.append_ #[S, S] ty #[v, .slice (some ad) m c]).run Try.prog w = .ok v' w') : v'.ownBlock = v.ownBlock ∨ v'.ownBlock = some w.heap.size := by
  obtain ⟨i, hi, hz, h1, h2⟩ := E.inf
  have hbytes : (l.length + m) * i.bytes ≤ 140737488355328 := Nat.le_trans (Nat.mul_le_mul hsz h2) (by omega)
  have hl1 : (nums k kk).length = m * i.size := by rw [nums_length, h1, Nat.mul_one, hk]
  rcases hown.2 with ⟨rfl, h0⟩ | ⟨g, cap, cur, rfl, hB, hg, hnc, hcm, hcs, ht⟩
  · by_cases hm : m = 0
    · subst hm
      have hn : kk = [] := List.eq_nil_of_length_eq_zero hk
      subst hn
      left
      have hrun : (Builtin.append_ #[S, S] ty #[.slice none 0 0, .slice (some ad) 0 c]).run Try.prog w = .ok (.slice none 0 0) w := by
        simp [Builtin.append_, run_underlying E.und, sizeOf, typeInfo, hi, Builtin.lenOf, Builtin.firstCells, loadCells, loadCellsFrom]
      rw [hrun] at hr
      cases hr
      rfl
    · right
      rw [h0] at hbytes hsz
      rw [Nat.zero_add] at hbytes
      have hrun := run_append_nil (P := Try.prog) w S ty e i (.int k 0) E.und hi hz ad m c (nums k kk) hl1 (nums_reads hrd hk) (by omega) (by omega) (by omega)
      rw [hrun] at hr
      cases hr
      rfl
  · rw [Nat.mul_one] at hcs ht
    by_cases hroom : l.length + m ≤ cap
    · left
      have hrun := run_append_room (P := Try.prog) w S ty e i E.und hi g l.length cap cur hg ad m c (nums k kk) hl1 (nums_reads hrd hk) (nums_oneCell kk) hroom (by rw [h1, Nat.mul_one, nums_length, hcs]; omega)
      rw [hrun] at hr
      cases hr
      rfl
    · right
      have hown' : w.ownsRow B e i.size (.slice (some ⟨g, 0, none⟩) l.length cap) l.length (nums k l) := by rw [h1]; exact hown
      have holds : ∀ j u, (nums k l)[j]? = some u → w.cell? ((⟨g, 0, none⟩ : Addr).add j) = some u := hown.cells (g := g) rfl
      have hrun := run_append_grow (P := Try.prog) w S ty e i (.int k 0) E.und hi hz ⟨g, 0, none⟩ l.length cap (nums k l) (by rw [nums_length, h1, Nat.mul_one]) holds ad m c (nums k kk) hl1 (nums_reads hrd hk) (by omega) (by omega) (growslice_fits (by omega) hbytes)
      rw [hrun] at hr
      cases hr
      rfl
theorem wappW {A : Option Addr} (E : Elt S e k) (hs : a.eval s = v) (hx : a.eval x = .slice A m c) (h0 : A = none → m = 0 ∧ c = 0) (hown : Own e k w B v l) (hrd : Nums k w B' A kk) (hk : kk.length = m) (hsz : l.length + m ≤ 1000000) (hB : B ≤ w.heap.size)
    (h : ∀ v' w', Own e k w' B v' (l ++ kk) → w.grownBy w' v.ownBlock → (v'.ownBlock = v.ownBlock ∨ v'.ownBlock = some w.heap.size) → wpList Try.prog ops Q rest (a.put dst v') w') :
    wpList Try.prog ops Q (⟨dst, .call { callee := .builtin .append, args := #[s, x], argTypes := #[S, S] }, ty, pos, after, none⟩ :: rest) a w := by
  cases A with
  | some ad =>
    obtain ⟨v', w', hr, h1, h2⟩ := run_appN (ty := ty) (c := c) E hown hrd hk hsz hB
    have h3 := run_appN_where E hown hrd hk hsz hr
    refine wpList_plain rfl fun K hK => ?_
    unfold Oper.wp execOp
    simp only [resolve, invoke, builtin, Sem.run_bind, Sem.run_pure, Result.andThen_ok, List.map_toArray, List.map_cons, List.map_nil, hs, hx, hr]
    exact hK _ _ (h v' w' h1 h2 h3)
  | none =>
    obtain ⟨rfl, rfl⟩ := h0 rfl
    obtain rfl := List.eq_nil_of_length_eq_zero hk
    rw [List.append_nil] at h
    exact wappN_none E hs hx hown (h v w hown ⟨rfl, rfl, rfl, Nat.le_refl _, fun _ _ _ => rfl⟩ (.inl rfl))
end
theorem Own.lower {e : TypeId} {k : IntKind} {w : World} {B B' : Nat} {v : Value} {l : List Nat} (h : Own e k w B v l) (hB : B' ≤ B) : Own e k w B' v l := by
  refine ⟨h.1, ?_⟩
  rcases h.2 with h' | ⟨g, cap, cur, hv, hb, hr⟩
  · exact .inl h'
  · exact .inr ⟨g, cap, cur, hv, Nat.le_trans hB hb, hr⟩
/-- They lie in rows of their own. -/
def Apart (v u : Value) : Prop := ∀ g, v.ownBlock = some g → u.ownBlock ≠ some g
theorem Apart.symm {v u : Value} (h : Apart v u) : Apart u v := fun g hu hv => h g hv hu
theorem Apart.nil (v : Value) : Apart v (.slice none 0 0) := fun g _ h => by cases h
theorem Own.keep {e : TypeId} {k : IntKind} {w w' : World} {B : Nat} {v u : Value} {l : List Nat} (h : Own e k w B v l) (hg : w.grownBy w' u.ownBlock) (hne : Apart v u) : Own e k w' B v l := by
  refine World.ownsRow.kept h hg ?_
  cases hv : v.ownBlock with
  | none => exact .inl rfl
  | some g => exact .inr (Ne.symm (hne g hv))
theorem Apart.app {e : TypeId} {k : IntKind} {w : World} {B : Nat} {v v' u : Value} {l : List Nat} (h : Apart v u) (hv : Own e k w B v l) (hw : v'.ownBlock = u.ownBlock ∨ v'.ownBlock = some w.heap.size) : Apart v v' := fun g hg => by
  rcases hw with hw | hw
  · rw [hw]; exact h g hg
  · rw [hw]
    intro e'
    have := (World.ownsRow.lt hv g hg).2
    rw [Option.some.inj e'] at this
    exact Nat.lt_irrefl _ this
theorem Blk.apart {w w' : World} {g : Nat} {t : TypeId} {cs : Array Value} {v : Value} (h : Blk w g t cs) (hg : w.grownBy w' v.ownBlock) (hne : v.ownBlock ≠ some g) : Blk w' g t cs :=
  (hg.block g h.lt fun e => hne e.symm).trans h
end Go.Proofs.Ytkcfonlondlmeaa
namespace Go.Proofs.Ytkcfonlondlmeaa
open Go.ChangeShapes Go.WideShapes Go.ChangeAt Go.RowKit
section
variable {a : Act} {w : World} {dst : Option Tmp} {ty : TypeId} {pos : String} {after : Array Edge} {gd : Option (Nat × Bool)} {s x : Operand} {m c B B' : Nat} {v : Value} {l kk : List Nat} {S e : TypeId} {k : IntKind} {ad : Addr}
/-- The slice ahead still holds its numbers, whether the append went into its row or into a new one. -/
theorem run_appN_old (E : Elt S e k) (hown : Own e k w B v l) (hrd : Nums k w B' (some ad) kk) (hk : kk.length = m) (hsz : l.length + m ≤ 1000000) {v' : Value} {w' : World}
    (hr : (Builtin.append_ #[S, S] ty #[v, .slice (some ad) m c]).run Try.prog w = .ok v' w') (hown' : Own e k w' B v' (l ++ kk)) : Own e k w' B v l := by
  obtain ⟨i, hi, hz, h1, h2⟩ := E.inf
  have hbytes : (l.length + m) * i.bytes ≤ 140737488355328 := Nat.le_trans (Nat.mul_le_mul hsz h2) (by omega)
  have hl1 : (nums k kk).length = m * i.size := by rw [nums_length, h1, Nat.mul_one, hk]
  rcases hown.2 with ⟨rfl, h0⟩ | ⟨g, cap, cur, rfl, hB, hg, hnc, hcm, hcs, ht⟩
  · rw [List.eq_nil_of_length_eq_zero h0]
    exact Own.nil
  · rw [Nat.mul_one] at hcs ht
    by_cases hroom : l.length + m ≤ cap
    · have hrun := run_append_room (P := Try.prog) w S ty e i E.und hi g l.length cap cur hg ad m c (nums k kk) hl1 (nums_reads hrd hk) (nums_oneCell kk) hroom (by rw [h1, Nat.mul_one, nums_length, hcs]; omega)
      rw [hrun] at hr
      cases hr
      rcases hown'.2 with ⟨e', _⟩ | ⟨g2, cap2, cur2, hv2, hB2, hg2, hnc2, hcm2, hcs2, ht2⟩
      · cases e'
      · simp only [Value.slice.injEq, Option.some.injEq, Addr.mk.injEq, and_true] at hv2
        obtain ⟨rfl, _, rfl⟩ := hv2
        refine ⟨hown.1, .inr ⟨_, _, cur2, rfl, hB, hg2, hnc, hcm, hcs2, ?_⟩⟩
        rw [Nat.mul_one] at ht2 ⊢
        have h3 : (cur2.toList.take (l ++ kk).length).take l.length = (nums k (l ++ kk)).take l.length := by rw [ht2]
        rw [List.take_take, Nat.min_eq_left (by rw [List.length_append]; omega), nums_append, List.take_left' (nums_length k l)] at h3
        exact h3
    · have holds : ∀ j u, (nums k l)[j]? = some u → w.cell? ((⟨g, 0, none⟩ : Addr).add j) = some u := hown.cells (g := g) rfl
      have hrun := run_append_grow (P := Try.prog) w S ty e i (.int k 0) E.und hi hz ⟨g, 0, none⟩ l.length cap (nums k l) (by rw [nums_length, h1, Nat.mul_one]) holds ad m c (nums k kk) hl1 (nums_reads hrd hk) (by omega) (by omega) (growslice_fits (by omega) hbytes)
      rw [hrun] at hr
      cases hr
      exact hown.alloc _
/-- An append, in a region that draws its order. -/
theorem gives_app {A : Option Addr} (E : Elt S e k) (hs : a.eval s = v) (hx : a.eval x = .slice A m c) (h0 : A = none → m = 0 ∧ c = 0) (hown : Own e k w B v l) (hrd : Nums k w B' A kk) (hk : kk.length = m) (hsz : l.length + m ≤ 1000000) (hB : B ≤ w.heap.size) :
    ∃ v' w', Own e k w' B v' (l ++ kk) ∧ Own e k w' B v l ∧ w.grownBy w' v.ownBlock ∧ (v'.ownBlock = v.ownBlock ∨ v'.ownBlock = some w.heap.size) ∧
      ∀ R : World → Prop, R w' → Gives Try.prog ⟨dst, .call { callee := .builtin .append, args := #[s, x], argTypes := #[S, S] }, ty, pos, after, gd⟩ a w v' R := by
  cases A with
  | some ad =>
    obtain ⟨v', w', hr, h1, h2⟩ := run_appN (ty := ty) (c := c) E hown hrd hk hsz hB
    refine ⟨v', w', h1, run_appN_old E hown hrd hk hsz hr h1, h2, run_appN_where E hown hrd hk hsz hr, fun R hR => gives_value ?_ hR⟩
    unfold execOp
    simp only [resolve, invoke, builtin, Sem.run_bind, Sem.run_pure, Result.andThen_ok, List.map_toArray, List.map_cons, List.map_nil, hs, hx, hr]
  | none =>
    obtain ⟨rfl, rfl⟩ := h0 rfl
    obtain rfl := List.eq_nil_of_length_eq_zero hk
    refine ⟨v, w, by rw [List.append_nil]; exact hown, hown, ⟨rfl, rfl, rfl, Nat.le_refl _, fun _ _ _ => rfl⟩, .inl rfl, fun R hR => gives_value ?_ hR⟩
    have hr : (Builtin.append_ #[S, S] ty #[v, .slice none 0 0]).run Try.prog w = .ok v w := by
      obtain ⟨i, hi, hz, h1, h2⟩ := E.inf
      exact run_append_owned_none (P := Try.prog) w B S ty e i 1 E.und hi v l.length _ hown
    unfold execOp
    simp only [resolve, invoke, builtin, Sem.run_bind, Sem.run_pure, Result.andThen_ok, List.map_toArray, List.map_cons, List.map_nil, hs, hx, hr]
theorem gives_appS {A : Option Addr} {T : Value → Prop} {R : Value → World → Prop} (E : Elt S e k) (hs : a.eval s = v) (hx : a.eval x = .slice A m c) (h0 : A = none → m = 0 ∧ c = 0) (hown : Own e k w B v l) (hrd : Nums k w B' A kk) (hk : kk.length = m) (hsz : l.length + m ≤ 1000000) (hB : B ≤ w.heap.size)
    (h : ∀ v' w', Own e k w' B v' (l ++ kk) → Own e k w' B v l → w.grownBy w' v.ownBlock → T v' ∧ R v' w') :
    ∃ v', T v' ∧ Gives Try.prog ⟨dst, .call { callee := .builtin .append, args := #[s, x], argTypes := #[S, S] }, ty, pos, after, gd⟩ a w v' (R v') := by
  obtain ⟨v', w', h1, h2, h3, _, h5⟩ := gives_app (dst := dst) (ty := ty) (pos := pos) (after := after) (gd := gd) E hs hx h0 hown hrd hk hsz hB
  obtain ⟨h6, h7⟩ := h v' w' h1 h2 h3
  exact ⟨v', h6, h5 _ h7⟩
end
end Go.Proofs.Ytkcfonlondlmeaa
namespace Go.Proofs.Ytkcfonlondlmeaa
open Go.ChangeShapes Go.WideShapes Go.ChangeAt Go.RowKit
/-- An append to a slice leaves any other slice of the call's own that is no longer as it was, even in the same row. -/
theorem Own.beside {e : TypeId} {k : IntKind} {w w' : World} {B B2 : Nat} {v u : Value} {l m : List Nat} (h : Own e k w B v l) (hu : Own e k w B2 u m) (hg : w.grownBy w' u.ownBlock) (hu' : Own e k w' B2 u m) (hlm : l.length ≤ m.length) : Own e k w' B v l := by
  by_cases hne : Apart v u
  · exact h.keep hg hne
  · rcases h.2 with ⟨rfl, h0⟩ | ⟨g, cap, cur, rfl, hB, hgc, hnc, hcm, hcs, ht⟩
    · rw [List.eq_nil_of_length_eq_zero h0]
      exact Own.nil
    · rcases hu.2 with ⟨rfl, _⟩ | ⟨g2, cap2, cur2, rfl, hB2, hgc2, hnc2, hcm2, hcs2, ht2⟩
      · exact absurd (Apart.nil _) hne
      · have hgg : g2 = g := by
          by_cases e' : g2 = g
          · exact e'
          · exact absurd (fun x hx hx2 => e' (by
              have h1 : g = x := Option.some.inj hx
              have h2 : g2 = x := Option.some.inj hx2
              rw [h1, h2])) hne
        subst hgg
        rw [hgc] at hgc2
        cases hgc2
        rcases hu'.2 with ⟨e', _⟩ | ⟨g3, cap3, cur3, hv3, hB3, hgc3, hnc3, hcm3, hcs3, ht3⟩
        · cases e'
        · simp only [Value.slice.injEq, Option.some.injEq, Addr.mk.injEq, and_true] at hv3
          obtain ⟨rfl, _, rfl⟩ := hv3
          have hcap : cap2 = cap := by omega
          subst hcap
          refine ⟨h.1, .inr ⟨_, _, cur3, rfl, hB, hgc3, hnc, hcm, hcs3, ?_⟩⟩
          rw [Nat.mul_one] at ht ht2 ht3 ⊢
          have h3 : (cur3.toList.take m.length).take l.length = (cur.toList.take m.length).take l.length := by rw [ht3, ht2]
          rw [List.take_take, List.take_take, Nat.min_eq_left hlm, ht] at h3
          exact h3
section
variable {P : Program} {ops : Array Oper}
theorem wp_region_rel2 {id : Nat} {Q : Exit → Act → World → Prop} {C : World → Prop} {S : Nat → Value → Prop} {D : Nat → (Nat → Value) → World → Prop} {K : Nat → (Nat → Value) → World → World → Prop} {a : Act} {w : World} {l : List Oper} (n : Nat)
    (hm : P.follows .mixedOrders = true) (ht : tidy l.toArray = true) (hB : tailB l.toArray n = true)
    (v0 : Nat → Value) (h0 : ∀ j, S j (v0 j)) (hD : ∀ i j vs w w', i < n → j ≠ i → Region.waitsFor .any l.toArray j i = false → D j vs w → K i vs w w' → D j vs w')
    (hL : ∀ j i vs v w, j ≠ i → Region.waitsFor .any l.toArray j i = false → D j vs w → D j (updV vs i v) w)
    (hC : C w.drew)
    (h : ∀ vs : Nat → Value, wpR P l.toArray S D K C (fun vs a' => ∀ w', C w' → (∀ k, k < n → D k vs w') → wpList P l.toArray Q (l.drop n) a' w') 0 vs (l.take n) a) : (Code.region id l.toArray true).wp P Q a w := by
  refine region_core (Γ := {vs : Nat → Value // ∀ j, S j (vs j)}) (C := fun γ L w' => C w' ∧ Closed l.toArray L ∧ ∀ k, k < n → L.getD k false = true → D k γ.1 w') n hm ht hB ⟨v0, h0⟩
    ⟨hC, (fun j o _ hl => by rw [getD_replicate_false] at hl; cases hl), fun k _ hk => by rw [getD_replicate_false] at hk; cases hk⟩ (fun γ => γ.1) ?_ ?_
  · intro i o hi γ L w' hsz hr ⟨hC', hcl, hDs⟩
    have hin : i < n := by
      have := (List.getElem?_eq_some_iff.1 hi).1
      rw [List.length_take] at this; omega
    have hun := getD_both (mem_ready.1 hr).1
    have hcl2 := closed_set hcl hr
    have key := (wpR_at γ.2 (l.take n) 0 a (h γ.1)).2 i o hi
    simp only [Nat.zero_add] at key
    have hwait : ∀ j, Region.waitsFor .any l.toArray i j = true → D j γ.1 w' := fun j hj => by
      have h1 := waits_ready hr hj
      have hji : j < i := by
        obtain ⟨o2, ho2, e2, he2, hb2, hon⟩ := Region.waitsFor_spec hj
        have := tidy_edge ht ho2 e2 he2 hb2
        omega
      exact hDs j (by omega) h1
    have step : ∀ (v : Value) (w2 : World), C w2 → (w2 = w' ∨ K i γ.1 w' w2) → D i (updV γ.1 i v) w2 →
        C w2 ∧ Closed l.toArray (L.setIfInBounds i true) ∧ ∀ k, k < n → (L.setIfInBounds i true).getD k false = true → D k (updV γ.1 i v) w2 := fun v w2 hc hb hd => by
      refine ⟨hc, hcl2, fun k hk hL' => ?_⟩
      by_cases e : k = i
      · subst e; exact hd
      · rw [getD_set_ne false (Ne.symm e)] at hL'
        have hw : Region.waitsFor .any l.toArray k i = false := by
          cases hx : Region.waitsFor .any l.toArray k i with
          | false => rfl
          | true =>
            have := waits_closed hcl hL' hx
            rw [hun] at this
            cases this
        refine hL k i _ v _ e hw ?_
        rcases hb with rfl | hb
        · exact hDs k hk hL'
        · exact hD i k _ _ _ hin e hw (hDs k hk hL') hb
    have upd : ∀ v, S i v → ∀ j, S j (updV γ.1 i v j) := fun v hv j => by
      by_cases e : j = i
      · subst e; rw [updV_self]; exact hv
      · rw [updV_ne _ _ e]; exact γ.2 j
    have keep : ∀ v j, L.getD j false = true → γ.1 j = updV γ.1 i v j := fun v j hj => by
      have : j ≠ i := fun e => by subst e; rw [hun] at hj; cases hj
      rw [updV_ne _ _ this]
    rcases key with ⟨k1, k2⟩ | ⟨k1, k2, k3⟩
    · obtain ⟨v, hv, hg⟩ := k2 w' hC' hwait
      refine ⟨⟨updV γ.1 i v, upd v hv⟩, keep v, .inl ⟨k1, ?_⟩⟩
      simp only [updV_self]
      exact gives_mono hg fun w2 ⟨h1, h2, h3⟩ => step v w2 h1 (.inr h2) h3
    · exact ⟨⟨updV γ.1 i undef, upd undef k2⟩, keep undef, .inr ⟨k1, updV_self _ _ _, step undef w' hC' (.inl rfl) (k3 w')⟩⟩
  · intro γ L w' hall ⟨hC', _, hDs⟩
    have key := (wpR_at γ.2 (l.take n) 0 a (h γ.1)).1
    have ez : (fun i => γ.1 (0 + i)) = γ.1 := funext fun i => by rw [Nat.zero_add]
    rw [ez] at key
    exact key w' hC' fun k hk => hDs k hk (hall k hk)
end
end Go.Proofs.Ytkcfonlondlmeaa
