/-
  append of so many zeros ('append(l, make([]byte, n)...)'), to a slice of the call's own that is full.
-/
import Derived.Test.YtnnhnlabkbjacaaDoorOwn
import Derived.Laws.OwnMore
namespace Go.Proofs.YtnnhnlabkbjacaaDoor
open Go.ChangeShapes Go.WideShapes Go.ChangeAt Go.RowKit
theorem toList_zeroCells_one (z : Value) (n : Nat) : (Builtin.zeroCells #[z] n).toList = List.replicate n z := by
  apply List.ext_getElem?
  intro j
  by_cases hj : j < n
  · simp [Builtin.zeroCells, hj, Nat.mod_one]
  · simp [Builtin.zeroCells, hj]
theorem nums_zeros (k : IntKind) (n : Nat) : nums k (List.replicate n 0) = List.replicate n (.int k 0) := by simp [nums]
theorem run_appZ {S e t : TypeId} {k : IntKind} (E : Elt S e k) (hti : Tryd.prog.underlying t = some (.int .i64)) {w : World} {B g : Nat} {l : List Nat} (ty : TypeId) (n : Nat) (hn : n ≤ 1000) (hll : 0 < l.length) (hl : l.length ≤ 1000)
    (hown : Own e k w B (.slice (some ⟨g, 0, none⟩) l.length l.length) l) (hB : B ≤ w.heap.size) :
    ∃ v' w', (Builtin.append_ #[S, t] ty #[.slice (some ⟨g, 0, none⟩) l.length l.length, .int .i64 (n : Int)]).run Tryd.prog w = .ok v' w' ∧ Own e k w' B v' (l ++ List.replicate n 0) ∧ w.grownBy w' none := by
  obtain ⟨i, hi, hz, h1, h2⟩ := E.inf
  have hw : IntKind.i64.wrap (n : Int) = (n : Int) := IntWalk.i64_in _ (by omega)
  have h48 : ¬ ((281474976710656 : Int) < (n : Int) * (i.bytes : Int)) := by
    have h3 : n * i.bytes ≤ 1000 * 8 := Nat.mul_le_mul hn h2
    have h4 : (n : Int) * (i.bytes : Int) = ((n * i.bytes : Nat) : Int) := by simp
    rw [h4]; omega
  have hn0 : ¬ ((n : Int) < 0) := by omega
  by_cases h0 : n = 0
  · subst h0
    refine ⟨_, w, ?_, by rw [List.replicate_zero, List.append_nil]; exact hown, ⟨rfl, rfl, rfl, Nat.le_refl _, fun _ _ _ => rfl⟩⟩
    have hw0 : IntKind.i64.wrap 0 = 0 := by decide
    simp [Builtin.append_, run_underlying E.und, run_underlying hti, sizeOf, typeInfo, hi, asInt, asIntOf, storeCells, hw0]
  · have hg : ¬ (l.length + n ≤ l.length) := by omega
    have h63' : ¬ (9223372036854775807 < ((l.length : Int) + (n : Int))) := by omega
    have hfit : Builtin.nextslicecap (l.length + n) l.length * i.bytes ≤ 281474976710656 := growslice_fits (by omega) (Nat.le_trans (Nat.mul_le_mul (show l.length + n ≤ 2000 by omega) h2) (by omega))
    have h48' : ¬ (281474976710656 < Builtin.nextslicecap (l.length + n) l.length * i.bytes) := by omega
    have holds : ∀ j u, (nums k l)[j]? = some u → w.cell? ((⟨g, 0, none⟩ : Addr).add j) = some u := hown.cells (g := g) rfl
    have hfo := run_firstCells_some (P := Tryd.prog) w.drew i.size l.length ⟨g, 0, none⟩ l.length l.length (nums k l) (by rw [nums_length, h1, Nat.mul_one]) (by simpa using holds)
    have hgc := grownCap_ge w (l.length + n) l.length e
    have hgm := grownCap_le_maxLen w (l.length + n) l.length e (by unfold maxLen; omega)
    refine ⟨.slice (some ⟨w.heap.size, 0, none⟩) (l.length + n) (grownCap w (l.length + n) l.length e),
      w.drew.alloc (.cells ((nums k l).toArray ++ Builtin.zeroCells #[.int k 0] n ++ Builtin.zeroCells #[.int k 0] (grownCap w (l.length + n) l.length e - (l.length + n))) e), ?_, ?_, ⟨rfl, rfl, rfl, by simp, fun _ hj _ => heap_alloc_old w.drew _ hj⟩⟩
    · simp [Builtin.append_, run_underlying E.und, run_underlying hti, sizeOf, typeInfo, zeroValue, hi, hz, asInt, asIntOf, hw, h48, hn0, hg, h0, h63', h48', h1, Question.forced, newRow, grownCap, Value.cells]
      rw [h1] at hfo
      rw [hfo]
      simp [Result.andThen]
    · unfold Own
      rw [List.length_append, List.length_replicate, nums_append, nums_zeros]
      refine ⟨by simp [nums_length], .inr ⟨w.heap.size, _, _, rfl, hB, heap_alloc_new w.drew _, hgc, hgm, ?_, ?_⟩⟩
      · simp only [Array.size_append, List.size_toArray, size_zeroCells, nums_length]
        simp; omega
      · simp only [Array.toList_append, List.append_assoc, toList_zeroCells_one]
        rw [← List.append_assoc, List.take_left' (by simp [nums_length])]
/-- A literal of one number is a slice of the call's own, and full. -/
theorem Own.lit {e : TypeId} {k : IntKind} (w : World) {B x : Nat} {v : Value} (h : v = .int k (x : Nat)) (hB : B ≤ w.heap.size) : Own e k (w.alloc (.cells #[v] e)) B (.slice (some ⟨w.heap.size, 0, none⟩) 1 1) [x] := by
  subst h
  exact ⟨rfl, .inr ⟨w.heap.size, 1, #[.int k (x : Nat)], rfl, hB, heap_alloc_new w _, Nat.le_refl _, by unfold maxLen; omega, rfl, rfl⟩⟩
theorem wappZ {ops : Array Oper} {Q : Exit → Act → World → Prop} {a : Act} {w : World} {rest : List Oper} {dst : Option Tmp} {ty : TypeId} {pos : String} {after : Array Edge} {s x : Operand} {B g n : Nat} {l : List Nat} {S e t : TypeId} {k : IntKind}
    (E : Elt S e k) (hti : Tryd.prog.underlying t = some (.int .i64)) (hs : a.eval s = .slice (some ⟨g, 0, none⟩) l.length l.length) (hx : a.eval x = .int .i64 (n : Int)) (hown : Own e k w B (.slice (some ⟨g, 0, none⟩) l.length l.length) l) (hn : n ≤ 1000) (hll : 0 < l.length) (hl : l.length ≤ 1000) (hB : B ≤ w.heap.size)
    (h : ∀ v' w', Own e k w' B v' (l ++ List.replicate n 0) → w.grownBy w' none → wpList Tryd.prog ops Q rest (a.put dst v') w') :
    wpList Tryd.prog ops Q (⟨dst, .call { callee := .builtin .append, args := #[s, x], argTypes := #[S, t] }, ty, pos, after, none⟩ :: rest) a w := by
  obtain ⟨v', w', hr, h1, h2⟩ := run_appZ E hti ty n hn hll hl hown hB
  refine wpList_plain rfl fun K hK => ?_
  unfold Oper.wp execOp
  simp only [resolve, invoke, builtin, Sem.run_bind, Sem.run_pure, Result.andThen_ok, List.map_toArray, List.map_cons, List.map_nil, hs, hx, hr]
  exact hK _ _ (h v' w' h1 h2)
end Go.Proofs.YtnnhnlabkbjacaaDoor
