/-
  Tags held against each other; bytes out of a literal.
-/
import Derived.Test.YtnnhnlabkbjacaaDoorHKey
import Derived.Test.YtnnhnlabkbjacaaDoorEq
namespace Go.Proofs.YtnnhnlabkbjacaaDoor
open Go.ChangeShapes Go.WideShapes Go.ChangeAt Go.RowKit
attribute [local go_sem] Gives
/-- Are two tags alike? -/
def eqT (f g : Nat → Nat) : Bool := eqN 32 (fun k => f k) fun k => g k
theorem eqT_iff {f g : Nat → Nat} : eqT f g = true ↔ ∀ k, k < 32 → f k = g k := by
  unfold eqT eqN
  rw [List.all_eq_true]
  constructor
  · intro h k hk
    have := h k (List.mem_range.2 hk)
    exact Int.ofNat_inj.1 (beq_iff_eq.1 this)
  · intro h k hk
    have := h k (List.mem_range.1 hk)
    exact beq_iff_eq.2 (congrArg _ this)
theorem eqT_self (f : Nat → Nat) : eqT f f = true := eqT_iff.2 fun _ _ => rfl
theorem xor_zero {x y : Nat} : x ^^^ y = 0 ↔ x = y := by
  constructor
  · intro h
    have h2 : x ^^^ (x ^^^ y) = y := by rw [← Nat.xor_assoc, Nat.xor_self, Nat.zero_xor]
    rw [h, Nat.xor_zero] at h2
    exact h2
  · rintro rfl; exact Nat.xor_self _
section
variable {ops : Array Oper} {Q : Exit → Act → World → Prop} {a : Act} {w : World} {rest : List Oper} {dst : Option Tmp} {ty : TypeId} {pos : String} {after : Array Edge} {x : Operand} {g : Nat} {f : Nat → Nat}
/-- A tag loaded, behind a guard that says yes. -/
theorem ldtg {gd : Option (Nat × Bool)} (hwt : Region.wanted ⟨dst, .load 43 x, ty, pos, after, gd⟩ (yielded ops a.tmps) = true) (hx : a.eval x = .pointer (some ⟨g, 0, none⟩)) (hb : Blk w g 43 (tag f))
    (h : wpList Tryd.prog ops Q rest (a.put dst (.agg (tag f))) w) : wpList Tryd.prog ops Q (⟨dst, .load 43 x, ty, pos, after, gd⟩ :: rest) a w := by
  unfold wpList
  rw [if_pos hwt]
  exact .inl (wp_load_row (P := Tryd.prog) 43 x rfl g hx 43 (tag f) (0, 0) _ hb Tryd.underlying43 rfl (info_tag.trans (by rw [size_tag])) h)
end
theorem byt_lit {w : World} {B g : Nat} {t : TypeId} {cs : Array Value} {fr : Nat × Nat} (h : w.heap[g]? = some (.cells cs t fr)) (hg : g < B) {l : List Nat} (hl : ∀ j, j < l.length → cs[j]? = some (.int .u8 (l.getD j 0 : Nat))) : Byt w B (some ⟨g, 0, none⟩) l := fun _ =>
  ⟨g, 0, rfl, hg, fun i hi => by rw [Nat.zero_add, cell_of_row w g i cs t fr h]; exact hl i hi⟩
theorem lit_ok {l : List Nat} {cs : Array Value} (h : cs = (nums .u8 l).toArray) : ∀ j, j < l.length → cs[j]? = some (.int .u8 (l.getD j 0 : Nat)) := fun j hj => by
  rw [h, List.getElem?_toArray]; exact nums_get .u8 hj
end Go.Proofs.YtnnhnlabkbjacaaDoor
