/-
  The contract of parity.mendData.
-/
import Derived.Test.YteoccdcebgcdmaaParMend
import Derived.Deep.WholeRow
namespace Go.Proofs.Yteoccdcebgcdmaa
open Go.ChangeShapes Go.WideShapes Go.ChangeAt Go.RowKit
attribute [local go_sem] Gives
/-! ### A list of ints of the call's own -/
def OwnI (w : World) (B : Nat) (v : Value) (G : List Nat) : Prop := w.ownsRow B 3 1 v G.length (G.map fun j : Nat => Value.int .i64 j)
theorem parts_int : ∃ (i : TypeInfo) (z : Value), Try.prog.info? 3 = some i ∧ i.zero = some z ∧ i.size = 1 ∧ i.bytes = 8 ∧ z.cells.size = 1 := by
  have hi : ∃ ie, Try.prog.info? 3 = some ie := ⟨_, rfl⟩
  obtain ⟨i, hi⟩ := hi
  have h1 : (Try.prog.info? 3).map (·.size) = some 1 := by kernel_rfl
  have h2 : (Try.prog.info? 3).map (·.bytes) = some 8 := by kernel_rfl
  have h3 : ((Try.prog.info? 3).bind (·.zero)).map (·.cells.size) = some 1 := by kernel_rfl
  rw [hi] at h1 h2 h3
  simp only [Option.map_some, Option.some.injEq, Option.bind_some] at h1 h2 h3
  cases hz : i.zero with
  | none => rw [hz] at h3; cases h3
  | some z => rw [hz] at h3; exact ⟨i, z, hi, hz, h1, h2, by simpa using h3⟩
theorem only_grown {a b c : World} {g : Nat} {r : Option Nat} (h : a.grownBy b (some g)) (k : b.grownBy c r) (hr : ∀ x, r = some x → a.heap.size ≤ x) : a.grownBy c (some g) :=
  ⟨k.os.trans h.os, k.tape.trans h.tape, k.output.trans h.output, Nat.le_trans h.size k.size, fun i hi hne => (k.block i (Nat.lt_of_lt_of_le hi h.size) (fun e => by have := hr i e.symm; omega)).trans (h.block i hi hne)⟩
theorem Blk.grown {a b : World} {k : Nat} {r : Option Nat} {t : TypeId} {cs : Array Value} (h : Blk a k t cs) (hg : a.grownBy b r) (hne : ∀ x, r = some x → x ≠ k) : Blk b k t cs :=
  (hg.block k h.lt (fun e => hne k e.symm rfl)).trans h
theorem OwnI.lt {w : World} {B : Nat} {v : Value} {G : List Nat} (h : OwnI w B v G) : ∀ k, v.ownBlock = some k → B ≤ k ∧ k < w.heap.size := World.ownsRow.lt h
theorem OwnI.only {w w' : World} {B g : Nat} {v : Value} {G : List Nat} (h : OwnI w B v G) (ho : w.grownBy w' (some g)) (hg : g < B) : OwnI w' B v G :=
  World.ownsRow.kept h ho (by
    cases e : v.ownBlock with
    | none => exact .inl rfl
    | some k => exact .inr (fun e2 => by injection e2 with e2; have := (h.lt k e).1; omega))
theorem OwnI.below {w w' : World} {B k : Nat} {v : Value} {G : List Nat} (h : OwnI w B v G) (hb : Below k w w') (hk : w.heap.size ≤ k) : OwnI w' B v G :=
  World.ownsRow.kept (row := none) h ⟨hb.os, hb.tape, hb.output, hb.size, fun i hi _ => hb.block i (by omega)⟩ (by
    cases v.ownBlock with
    | none => exact .inl rfl
    | some g => exact .inr (fun e => by cases e))
theorem OwnI.len {w : World} {B : Nat} {v : Value} {G : List Nat} (h : OwnI w B v G) : ∃ A c, v = .slice A G.length c := by
  rcases h.2 with ⟨h1, h2⟩ | ⟨g, cap, cur, h1, _⟩
  · exact ⟨none, 0, by rw [h1, h2]⟩
  · exact ⟨_, _, h1⟩
theorem OwnI.get {w : World} {B j : Nat} {v : Value} {G : List Nat} (h : OwnI w B v G) (hj : j < G.length) : ∃ g c, v = .slice (some ⟨g, 0, none⟩) G.length c ∧ ∀ i, i < G.length → w.cell? ⟨g, i, none⟩ = some (.int .i64 (G.getD i 0 : Nat)) := by
  rcases h.2 with ⟨h1, h2⟩ | ⟨g, cap, cur, h1, _⟩
  · omega
  · refine ⟨g, cap, h1, fun i hi => ?_⟩
    have := World.ownsRow.cellAt (h1 ▸ h : w.ownsRow B 3 1 (.slice (some ⟨g, 0, none⟩) G.length cap) G.length _) i (by omega)
    rw [this, List.getElem?_map, List.getElem?_eq_getElem hi]
    simp [List.getD, hi]
theorem OwnI.cell {w : World} {B gg n c i : Nat} {G : List Nat} (h : OwnI w B (.slice (some ⟨gg, 0, none⟩) n c) G) (hi : i < G.length) : w.cell? ⟨gg, i, none⟩ = some (.int .i64 (G.getD i 0 : Nat)) := by
  obtain ⟨g', c', e, hr⟩ := h.get hi
  simp only [Value.slice.injEq, Option.some.injEq, Addr.mk.injEq, and_true, true_and] at e
  obtain ⟨rfl, _, _⟩ := e
  exact hr i hi
section
variable {ops : Array Oper} {Q : Exit → Act → World → Prop} {a : Act} {w : World} {rest : List Oper} {dst : Option Tmp} {ty : TypeId} {pos : String} {after : Array Edge} {s x : Operand} {c B : Nat} {v : Value} {G : List Nat}
/-- One int more. -/
theorem wappi {b y : Nat} (hs : a.eval s = v) (hx : a.eval x = .slice (some ⟨b, 0, none⟩) 1 c) (hown : OwnI w B v G) (hc : w.cell? ⟨b, 0, none⟩ = some (.int .i64 y)) (hsz : G.length ≤ 1000) (hB : B ≤ w.heap.size)
    (h : ∀ v' w', OwnI w' B v' (G ++ [y]) → w.grownBy w' v.ownBlock → wpList Try.prog ops Q rest (a.put dst v') w') :
    wpList Try.prog ops Q (⟨dst, .call { callee := .builtin .append, args := #[s, x], argTypes := #[34, 34] }, ty, pos, after, none⟩ :: rest) a w := by
  obtain ⟨i, z, hi, hz, h1, h2, h3⟩ := parts_int
  refine wpList_append_own w rfl s x 34 rfl B 3 i z 1 8 Try.underlying34 hi hz h1 h2 h3 (by omega) v G.length _ hs hown ⟨b, 0, none⟩ 1 c [.int .i64 y] hx rfl ?_ (fun u hu => by simp at hu; subst hu; rfl)
    (by unfold maxLen; omega) (by omega) hB ?_
  · intro j u hj
    match j, hj with
    | 0, hj =>
      simp at hj
      subst hj
      simpa [Addr.add] using hc
  · intro v' w' h4 h5 _
    refine h v' w' ?_ h5
    unfold OwnI
    rw [List.length_append, List.map_append]
    exact h4
end
/-! ### What is brought back -/
def zeroed (m : Nat) (M : Nat → Bool) (F : Nat → Nat → Nat) : Nat → Nat → Nat := fun i => if i < m ∧ M i = true then fun _ => 0 else F i
def gapsL (m : Nat) (M : Nat → Bool) : List Nat := (List.range m).filter M
theorem gapsL_yes {m : Nat} {M : Nat → Bool} (h : M m = true) : gapsL (m + 1) M = gapsL m M ++ [m] := by unfold gapsL; rw [List.range_succ, List.filter_append]; simp [h]
theorem gapsL_no {m : Nat} {M : Nat → Bool} (h : M m = false) : gapsL (m + 1) M = gapsL m M := by unfold gapsL; rw [List.range_succ, List.filter_append]; simp [h]
theorem gapsL_le (m : Nat) (M : Nat → Bool) : (gapsL m M).length ≤ m := by
  have := List.length_filter_le M (List.range m)
  simpa [gapsL] using this
theorem zeroed_yes {m i k : Nat} {M : Nat → Bool} {F : Nat → Nat → Nat} (h : M m = true) : zeroed (m + 1) M F i k = upd (zeroed m M F) m (fun _ => 0) i k := by
  unfold zeroed upd
  by_cases e : i = m
  · subst e; simp [h]
  · by_cases e2 : i < m
    · simp [e, e2, show i < m + 1 by omega]
    · simp [e, e2, show ¬ i < m + 1 by omega]
theorem zeroed_no {m : Nat} {M : Nat → Bool} {F : Nat → Nat → Nat} (h : M m = false) : zeroed (m + 1) M F = zeroed m M F := by
  funext i
  unfold zeroed
  by_cases e : i = m
  · subst e; simp [h]
  · by_cases e2 : i < m
    · simp [e2, show i < m + 1 by omega]
    · simp [e2, show ¬ i < m + 1 by omega]
theorem zeroed_out {m i : Nat} {M : Nat → Bool} {F : Nat → Nat → Nat} (h : m ≤ i) : zeroed m M F i = F i := by
  unfold zeroed
  exact if_neg (fun hh => by have := hh.1; omega)
theorem zeroed_lt {m : Nat} {M : Nat → Bool} {F : Nat → Nat → Nat} (hF : ∀ i k, F i k < 256) : ∀ i k, zeroed m M F i k < 256 := fun i k => by
  unfold zeroed
  split
  · show 0 < 256; omega
  · exact hF i k
def mis (m : Nat) (M : Nat → Bool) (F : Nat → Nat → Nat) : Nat → Nat := fun k => PP (zeroed m M F) m k ^^^ F m k
def wei (m : Nat) (M : Nat → Bool) (F : Nat → Nat → Nat) : Nat → Nat := fun k => QQ (zeroed m M F) m k ^^^ F (m + 1) k
def mendD (m : Nat) (M : Nat → Bool) (F : Nat → Nat → Nat) : Nat → Nat → Nat :=
  match gapsL m M with
  | [] => zeroed m M F
  | [x] => upd (zeroed m M F) x (if M m then fun k => GfM.mul (pwI (-(x : Int))) (wei m M F k) else mis m M F)
  | x :: y :: _ => upd (upd (zeroed m M F) x (twoX x y (mis m M F) (wei m M F))) y (twoY x y (mis m M F) (wei m M F))
section
variable {ops : Array Oper} {a : Act} {rest : List Oper} {dst : Option Tmp} {ty : TypeId} {pos : String} {after : Array Edge} {x y : Operand} {g : Nat} {f : Nat → Nat} {C : World → Prop} {Qk : Act → Prop} {gd : Option (Nat × Bool)}
theorem bldm {o : Nat} (hwt : Region.wanted ⟨dst, .load 25 x, ty, pos, after, gd⟩ (yielded ops a.tmps) = true) (hx : a.eval x = .pointer (some ⟨g, o, none⟩)) (hb : ∀ w, C w → w.rangeAt g o (sec f).toList) (h : wpB Try.prog ops C Qk rest (a.put dst (.agg (sec f)))) :
    wpB Try.prog ops C Qk (⟨dst, .load 25 x, ty, pos, after, gd⟩ :: rest) a :=
  wpB_val hwt (fun w hw => gives_value (w' := w) (by simp only [execOp, hx, Sem.run_bind, run_ldm (hb w hw), Result.andThen_ok, Sem.run_pure]) ⟨hw, Below.refl _ _⟩) h
theorem bld (hwt : Region.wanted ⟨dst, .load 25 x, ty, pos, after, gd⟩ (yielded ops a.tmps) = true) (hx : a.eval x = .pointer (some ⟨g, 0, none⟩)) (hb : ∀ w, C w → Blk w g 25 (sec f)) (h : wpB Try.prog ops C Qk rest (a.put dst (.agg (sec f)))) :
    wpB Try.prog ops C Qk (⟨dst, .load 25 x, ty, pos, after, gd⟩ :: rest) a :=
  wpB_val hwt (fun w hw => gives_value (w' := w) (by simp only [execOp, hx, Sem.run_bind, run_ld (hb w hw), Result.andThen_ok, Sem.run_pure]) ⟨hw, Below.refl _ _⟩) h
end
theorem alloc_sec (w : World) : (Instr.alloc 25 true (.tuple #[])).run Try.prog w = .ok (.pointer (some ⟨w.heap.size, 0, none⟩)) (w.alloc (.cells (sec fun _ => 0) 25)) := by
  have hz := (zero_of_info (P := Try.prog) (t := 25) (v := .agg (sec fun _ => 0)) (n := 64) (by kernel_rfl)).1
  simp [Instr.alloc, Sem.run_bind, hz w, newVar, newRow, Value.cells]
end Go.Proofs.Yteoccdcebgcdmaa
