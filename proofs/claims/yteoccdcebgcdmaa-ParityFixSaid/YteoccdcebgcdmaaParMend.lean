/-
  What is written into a row of the call's own; the contract of parity.mendParities.
-/
import Derived.Test.YteoccdcebgcdmaaParTwo
import Derived.Test.YteoccdcebgcdmaaRegNew
import Derived.Deep.Cut
namespace Go.Proofs.Yteoccdcebgcdmaa
open Go.ChangeShapes Go.WideShapes Go.ChangeAt Go.RowKit
attribute [local go_sem] Gives
/-! ### Only block g has turned -/
theorem only_refl (w : World) (g : Nat) : w.grownBy w (some g) := ⟨rfl, rfl, rfl, Nat.le_refl _, fun _ _ _ => rfl⟩
theorem only_trans {a b c : World} {g : Nat} (h : a.grownBy b (some g)) (k : b.grownBy c (some g)) : a.grownBy c (some g) :=
  ⟨k.os.trans h.os, k.tape.trans h.tape, k.output.trans h.output, Nat.le_trans h.size k.size, fun i hi hne => (k.block i (Nat.lt_of_lt_of_le hi h.size) hne).trans (h.block i hi hne)⟩
theorem only_below {a b c : World} {g B : Nat} (h : a.grownBy b (some g)) (k : Below B b c) (hB : a.heap.size ≤ B) : a.grownBy c (some g) :=
  ⟨k.os.trans h.os, k.tape.trans h.tape, k.output.trans h.output, Nat.le_trans h.size k.size, fun i hi hne => (k.block i (by omega)).trans (h.block i hi hne)⟩
theorem only_row {a b : World} {g g' : Nat} (h : a.grownBy b (some g)) (cs : Array Value) (hg : g' = g ∨ a.heap.size ≤ g') : a.grownBy (b.setRow g' cs) (some g) :=
  ⟨h.os, h.tape, h.output, by simpa using h.size, fun i hi hne => (Go.setRow_other b g' i cs (by
    rintro rfl
    rcases hg with rfl | hg
    · exact hne rfl
    · omega)).trans (h.block i hi hne)⟩
theorem only_Below {a b : World} {g B : Nat} (h : a.grownBy b (some g)) (hB : B ≤ g) (hs : B ≤ a.heap.size) : Below B a b :=
  ⟨h.os, h.tape, h.output, h.size, fun i hi => h.block i (by omega) (fun e => by injection e; omega)⟩
theorem Blk.only {a b : World} {g k : Nat} {t : TypeId} {cs : Array Value} (h : Blk a k t cs) (ho : a.grownBy b (some g)) (hne : k ≠ g) : Blk b k t cs := (ho.block k h.lt (fun e => hne (by injection e))).trans h
theorem Blk.ty {w : World} {g : Nat} {t t' : TypeId} {cs cs' : Array Value} (h : Blk w g t cs) (h' : Blk w g t' cs') : t = t' := by
  unfold Blk at h h'
  rw [h] at h'
  simp only [Option.some.injEq, Obj.cells.injEq] at h'
  exact h'.2.1
/-! ### One sector of a row of the call's own -/
def upd (F : Nat → Nat → Nat) (i : Nat) (f : Nat → Nat) : Nat → Nat → Nat := fun j => if j = i then f else F j
theorem upd_self {F : Nat → Nat → Nat} {i : Nat} {f : Nat → Nat} : upd F i f i = f := by simp [upd]
theorem upd_ne {F : Nat → Nat → Nat} {i j : Nat} {f : Nat → Nat} (h : j ≠ i) : upd F i f j = F j := by simp [upd, h]
theorem OwnS.store {w : World} {B g n cap i : Nat} {F : Nat → Nat → Nat} (f : Nat → Nat) (h : OwnS w B (.slice (some ⟨g, 0, none⟩) n cap) n F) (hi : i < n) :
    ∃ cur, (storeVar 25 ⟨g, i * 64, none⟩ (.agg (sec f))).run Try.prog w = .ok () (w.setRow g cur) ∧ OwnS (w.setRow g cur) B (.slice (some ⟨g, 0, none⟩) n cap) n (upd F i f) := by
  rcases h.2 with ⟨h', _⟩ | ⟨g', cap', cur, hv, hB, hg, hnc, hcm, hcs, ht⟩
  · cases h'
  simp only [Value.slice.injEq, Option.some.injEq, Addr.mk.injEq, and_true, true_and] at hv
  obtain ⟨rfl, rfl⟩ := hv
  have hfit : i * 64 + 64 ≤ cur.size := by rw [hcs]; have : (i + 1) * 64 ≤ cap * 64 := Nat.mul_le_mul_right _ (by omega); omega
  have hst := run_storeCells_at (P := Try.prog) g (i * 64) 25 (sec f).toList 0 cur w hg (by rw [Array.length_toList, size_sec]; omega) (fun v hv => (Array.all_eq_true_iff_forall_mem.1 sec_one) v (by simpa using hv))
  rw [Nat.add_zero] at hst
  refine ⟨(cur.toList.take (i * 64) ++ (sec f).toList ++ cur.toList.drop (i * 64 + (sec f).toList.length)).toArray, ?_, ?_⟩
  · have hi64 := info_sec
    cases hq : Try.prog.info? 25 with
    | none => rw [hq] at hi64; cases hi64
    | some ie =>
      rw [hq] at hi64
      simp only [Option.map_some, Option.some.injEq] at hi64
      simp [storeVar, sizeOf, typeInfo, hq, hi64, Value.cells, size_sec] at hst ⊢
      exact hst
  · refine ⟨by rw [Array.length_toList, size_secs], .inr ⟨g, cap, _, rfl, hB, setRow_heap w g cur _ _ _ hg, hnc, hcm, ?_, ?_⟩⟩
    · simp only [List.size_toArray, List.length_append, List.length_take, List.length_drop, Array.length_toList, size_sec]
      omega
    · apply List.ext_getElem?
      intro j
      by_cases hj : j < n * 64
      · have hR : (Go.Proofs.Yteoccdcebgcdmaa.secs n (upd F i f)).toList[j]? = some (.int .u8 (upd F i f (j / 64) (j % 64) : Nat)) := by
          rw [Array.getElem?_toList]; exact get_row_lt hj
        rw [List.getElem?_take_of_lt hj, hR]
        show (cur.toList.take (i * 64) ++ (sec f).toList ++ cur.toList.drop (i * 64 + (sec f).toList.length))[j]? = _
        have h0 : cur.toList[j]? = some (.int .u8 (F (j / 64) (j % 64) : Nat)) := by
          have : (cur.toList.take (n * 64))[j]? = (Go.Proofs.Yteoccdcebgcdmaa.secs n F).toList[j]? := by rw [ht]
          rw [List.getElem?_take_of_lt hj] at this
          rw [this, Array.getElem?_toList]
          exact get_row_lt hj
        rw [List.append_assoc, List.getElem?_append, List.length_take, Array.length_toList, Nat.min_eq_left (by omega)]
        by_cases h1 : j < i * 64
        · rw [if_pos h1, List.getElem?_take_of_lt h1, h0, upd_ne (by omega)]
        · rw [if_neg h1, List.getElem?_append, Array.length_toList, size_sec]
          by_cases h2 : j - i * 64 < 64
          · rw [if_pos h2, Array.getElem?_toList, get_sec h2, show j / 64 = i by omega, upd_self, show j % 64 = j - i * 64 by omega]
          · rw [if_neg h2, List.getElem?_drop, show i * 64 + 64 + (j - i * 64 - 64) = j by omega, h0, upd_ne (by omega)]
      · rw [List.getElem?_eq_none (by simp; omega), List.getElem?_eq_none (by rw [Array.length_toList, size_secs]; omega)]
section
variable {ops : Array Oper} {Q : Exit → Act → World → Prop} {a : Act} {w : World} {rest : List Oper} {dst : Option Tmp} {ty : TypeId} {pos : String} {after : Array Edge} {x y : Operand} {g n cap i B : Nat} {F : Nat → Nat → Nat} {f : Nat → Nat}
/-- A sector into a row of the call's own. -/
theorem sto (hx : a.eval x = .pointer (some ⟨g, 0 + i * 64, none⟩)) (hy : a.eval y = .agg (sec f)) (h : OwnS w B (.slice (some ⟨g, 0, none⟩) n cap) n F) (hi : i < n)
    (hk : ∀ w', OwnS w' B (.slice (some ⟨g, 0, none⟩) n cap) n (upd F i f) → w.grownBy w' (some g) → wpList Try.prog ops Q rest (a.put dst undef) w') :
    wpList Try.prog ops Q (⟨dst, .store 25 x y, ty, pos, after, none⟩ :: rest) a w := by
  obtain ⟨cur, h1, h2⟩ := h.store f hi
  refine wpList_plain rfl fun K hK => ?_
  unfold Oper.wp execOp
  rw [Nat.zero_add] at hx
  simp only [hx, hy, Instr.storeAt, Instr.sureAddr, Sem.run_bind, Sem.run_pure, h1, Result.andThen_ok]
  exact hK _ _ (hk _ h2 (only_row (only_refl w g) _ (.inl rfl)))
/-- A sector's zero value, as a literal. -/
theorem built_sec : Try.prog.built 25 [] = some (sec fun _ => 0) := by kernel_rfl
theorem bsec (h : wpList Try.prog ops Q rest (a.put dst (.agg (sec fun _ => 0))) w) : wpList Try.prog ops Q (⟨dst, .build 25 #[], ty, pos, after, none⟩ :: rest) a w := by
  refine wpList_plain rfl fun K hK => ?_
  unfold Oper.wp execOp
  simp only [Sem.run_bind, Array.map_empty, run_build w 25 #[] _ built_sec, Result.andThen_ok]
  exact hK _ _ h
end
theorem own_range {w : World} {B g n cap i : Nat} {F : Nat → Nat → Nat} (h : OwnS w B (.slice (some ⟨g, 0, none⟩) n cap) n F) (hi : i < n) : w.rangeAt g (0 + i * 64) (sec (F i)).toList := by
  obtain ⟨g', c', e, _, _, _, hr⟩ := h.form (fun e => by cases e)
  simp only [Value.slice.injEq, Option.some.injEq, Addr.mk.injEq, and_true, true_and] at e
  obtain ⟨rfl, rfl⟩ := e
  exact hr i hi
theorem own_lt {w : World} {B g n cap : Nat} {F : Nat → Nat → Nat} (h : OwnS w B (.slice (some ⟨g, 0, none⟩) n cap) n F) : g < w.heap.size ∧ B ≤ g ∧ n ≤ cap := by
  obtain ⟨g', c', e, h1, h2, h3, _⟩ := h.form (fun e => by cases e)
  simp only [Value.slice.injEq, Option.some.injEq, Addr.mk.injEq, and_true, true_and] at e
  obtain ⟨rfl, rfl⟩ := e
  exact ⟨h2, h1, h3⟩
theorem own_ne {w : World} {B g n cap h : Nat} {F : Nat → Nat → Nat} {cs : Array Value} {t : TypeId} (ho : OwnS w B (.slice (some ⟨g, 0, none⟩) n cap) n F) (hb : Blk w h t cs) (ht : t ≠ 25) : h ≠ g := by
  rcases ho.2 with ⟨h', _⟩ | ⟨g', cap', cur, hv, _, hg, _⟩
  · cases h'
  simp only [Value.slice.injEq, Option.some.injEq, Addr.mk.injEq, and_true, true_and] at hv
  obtain ⟨rfl, rfl⟩ := hv
  rintro rfl
  exact ht (Blk.ty hb hg)
/-- The parities made anew where they are lost. -/
def mendP (m : Nat) (M : Nat → Bool) (F : Nat → Nat → Nat) : Nat → Nat → Nat := fun i =>
  if i = m ∧ M m = true then PP F m else if i = m + 1 ∧ M (m + 1) = true then QQ F m else F i
def MendPost (w : World) (B g n cap h : Nat) (F : Nat → Nat → Nat) (M : Nat → Bool) (e : Ending) (w' : World) : Prop :=
  e = .returned (.tuple #[]) ∧ OwnS w' B (.slice (some ⟨g, 0, none⟩) n cap) n F ∧ Blk w' h 72 (row 64 fun j => .bool (M j)) ∧ w.grownBy w' (some g)
theorem lost_succ (g j : Nat) (M : Nat → Bool) (hj : j + 1 < 64) (w : World) (hb : Blk w g 72 (row 64 fun l => .bool (M l))) :
    Calls Try.prog 44 #[.int .i64 ((j : Int) + 1), .pointer (some ⟨g, 0, none⟩)] w fun e w' => e = .returned (.bool (M (j + 1))) ∧ w = w' := by
  have := lost_any g (j + 1) M hj w hb
  simpa using this
theorem HID {p : Prop} (h : p) : RowKit.Hid p := h
end Go.Proofs.Yteoccdcebgcdmaa
