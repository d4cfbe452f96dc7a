/-
  Slices of slices of bytes of the call's own.
-/
import Derived.Test.YtodjfliakhhjaaaPrtsN
import Derived.Test.YtodjfliakhhjaaaOwn2
namespace Go.Proofs.Ytodjfliakhhjaaa
open Go.ChangeShapes Go.WideShapes Go.ChangeAt Go.RowKit
/-- A slice of slices of the call's own. -/
def OwnP (w : World) (B : Nat) (v : Value) (cs : List Value) : Prop := w.ownsRow B 55 1 v cs.length cs
theorem infP : ∃ i : TypeInfo, Try.prog.info? 55 = some i ∧ i.zero = some (.slice none 0 0) ∧ i.size = 1 ∧ i.bytes ≤ 24 := by
  have h1 : (Try.prog.info? 55).map (·.size) = some 1 := by kernel_rfl
  have h2 : (Try.prog.info? 55).map (fun i => decide (i.bytes ≤ 24)) = some true := by kernel_rfl
  have h3 : (Try.prog.info? 55).bind (·.zero) = some (.slice none 0 0) := by kernel_rfl
  cases hi : Try.prog.info? 55 with
  | none => rw [hi] at h1; cases h1
  | some i =>
    rw [hi] at h1 h2 h3
    simp only [Option.map_some, Option.some.injEq, decide_eq_true_eq, Option.bind_some] at h1 h2 h3
    exact ⟨i, rfl, h3, h1, h2⟩
section
variable {ops : Array Oper} {Q : Exit → Act → World → Prop} {a : Act} {w : World} {rest : List Oper} {dst : Option Tmp} {ty : TypeId} {pos : String} {after : Array Edge} {s x : Operand} {c B g n' c' : Nat} {v : Value} {cs : List Value} {A : Option Addr} {t : TypeId}
theorem wappP (hs : a.eval s = v) (hx : a.eval x = .slice (some ⟨g, 0, none⟩) 1 c) (hown : OwnP w B v cs) (hb : Blk w g t #[.slice A n' c']) (hsz : cs.length ≤ 1000) (hB : B ≤ w.heap.size)
    (h : ∀ v' w', OwnP w' B v' (cs ++ [.slice A n' c']) → w.grownBy w' v.ownBlock → wpList Try.prog ops Q rest (a.put dst v') w') :
    wpList Try.prog ops Q (⟨dst, .call { callee := .builtin .append, args := #[s, x], argTypes := #[57, 57] }, ty, pos, after, none⟩ :: rest) a w := by
  obtain ⟨i, hi, hz, h1, h2⟩ := infP
  obtain ⟨v', w', hr, ho, hg, _⟩ := run_append_own (P := Try.prog) w B 57 ty 55 i (.slice none 0 0) 1 i.bytes Try.underlying57 hi hz h1 rfl rfl (by decide) v cs.length _ hown ⟨g, 0, none⟩ 1 c [.slice A n' c'] rfl
    (fun j u hj => by
      match j, hj with
      | 0, hj =>
        cases hj
        exact hb.cell 0)
    (fun u hu => by rw [List.mem_singleton.1 hu]; rfl)
    (by unfold maxLen; omega) (Nat.le_trans (Nat.mul_le_mul (show cs.length + 1 ≤ 1001 by omega) h2) (by omega)) hB
  refine wpList_plain rfl fun K hK => ?_
  unfold Oper.wp execOp
  simp only [resolve, invoke, builtin, Sem.run_bind, Sem.run_pure, Result.andThen_ok, List.map_toArray, List.map_cons, List.map_nil, hs, hx, hr]
  exact hK _ _ (h v' w' (by unfold OwnP; rw [List.length_append]; exact ho) hg)
end
theorem OwnP.nil (w : World) (B : Nat) : OwnP w B (.slice none 0 0) [] := World.ownsRow_nil w B _ 1
theorem OwnP.heap {w w' : World} {B : Nat} {v : Value} {cs : List Value} (h : OwnP w B v cs) (hh : w'.heap = w.heap) : OwnP w' B v cs := by
  refine ⟨h.1, ?_⟩
  rcases h.2 with h' | ⟨g, cap, cur, hv, hB, hg, hr⟩
  · exact .inl h'
  · exact .inr ⟨g, cap, cur, hv, hB, by rw [hh]; exact hg, hr⟩
/-- What lies in cell j. -/
def PCell (w : World) (ls : List (List Nat)) (cs : List Value) : Prop :=
  ∀ j, j < cs.length → ∃ A' c, cs[j]? = some (.slice A' (ls.getD j []).length c) ∧ (ls.getD j []).length ≤ c ∧ c ≤ maxLen ∧ Byt w w.heap.size A' (ls.getD j []) ∧ (A' = none → (ls.getD j []).length = 0 ∧ c = 0)
theorem OwnP.parts {w wr : World} {B : Nat} {v : Value} {cs : List Value} {ls : List (List Nat)} (h : OwnP wr B v cs) (hp : PCell w ls cs) (hl : ls.length = cs.length) (hb : Below w.heap.size w wr) : ∃ A cap, v = .slice A cs.length cap ∧ PrtsN wr wr.heap.size A ls := by
  rcases h.2 with ⟨rfl, h0⟩ | ⟨g, cap, cur, rfl, hB, hg, hnc, hcm, hcs, ht⟩
  · exact ⟨none, 0, by rw [h0], fun hn => by omega⟩
  · refine ⟨_, cap, rfl, fun _ => ⟨g, 0, rfl, Blk.lt (t := 55) (cs := cur) hg, fun i hi => ?_⟩⟩
    obtain ⟨A', c, h1, h2, h3, h4, h5⟩ := hp i (by omega)
    refine ⟨A', c, ?_, h2, h3, (h4.below hb (Nat.le_refl _)).more hb.size, h5⟩
    rw [Nat.zero_add, cell_of_row wr g i cur _ _ hg]
    rw [← ht, List.getElem?_take_of_lt (by omega), Array.getElem?_toList] at h1
    exact h1
theorem PCell.snoc {w : World} {ls : List (List Nat)} {cs : List Value} (h : PCell w ls cs) {A' : Option Addr} {M c : Nat} (hM : (ls.getD cs.length []).length = M) (h2 : M ≤ c) (h3 : c ≤ maxLen) (h4 : Byt w w.heap.size A' (ls.getD cs.length [])) (h5 : A' = none → M = 0 ∧ c = 0) : PCell w ls (cs ++ [.slice A' M c]) := by
  intro j hj
  rw [List.length_append, List.length_singleton] at hj
  by_cases e : j < cs.length
  · rw [List.getElem?_append_left e]
    exact h j e
  · obtain rfl : j = cs.length := by omega
    refine ⟨A', c, ?_, by omega, h3, h4, by rw [hM]; exact h5⟩
    rw [List.getElem?_append_right (Nat.le_refl _), Nat.sub_self, hM]
    rfl
end Go.Proofs.Ytodjfliakhhjaaa
