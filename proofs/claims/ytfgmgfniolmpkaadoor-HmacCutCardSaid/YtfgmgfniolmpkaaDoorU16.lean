/-
  Four numbers of 16 bits that come in by value.
-/
import Derived.Test.YtfgmgfniolmpkaaDoorShaOpen
import Derived.Test.YtfgmgfniolmpkaaDoorHLawCut
namespace Go.Proofs.YtfgmgfniolmpkaaDoor
open Go.ChangeShapes Go.WideShapes Go.ChangeAt Go.RowKit Go.Deep
theorem u16_wf {a : Int} (h : (Lit.int .u16 a).wf = true) : ∃ n : Nat, a = n ∧ n < 65536 := by
  simp [Lit.wf, IntKind.min, IntKind.max, IntKind.bits, IntKind.signed] at h
  exact ⟨a.toNat, by omega, by omega⟩
theorem cells_u16 : Tryd.prog.cellsOf 42 = 1 := by kernel_rfl
theorem cells_u16s : Tryd.prog.cellsOf 43 = 4 := by kernel_rfl
section
variable {H : Type} {enc : TypeId × Value → H} {w : World} {base : Nat} {spare : Nat → Bool} {held : Bool}
theorem trod_u16s {fuel : Nat} {cs : List Value} {x : DataW H × List MemPlace} (h : DataW.trod enc Tryd.prog w base spare held fuel 43 cs = some x) :
    ∃ f : Nat → Nat, (∀ k, f k < 65536) ∧ cs = (u16s f).toList := by
  obtain ⟨xs, m, rfl, rfl, hlen, hxl, hx⟩ := DataW.trod_array Tryd.underlying43 h
  rw [cells_u16s] at hlen
  have hk : ∀ k, k < 4 → ∃ v : Nat, v < 65536 ∧ cs[k]? = some (.int .u16 v) := fun k hk => by
    have h1 := hx k hk
    rw [cells_u16, Nat.mul_one, List.getElem?_eq_getElem (by omega)] at h1
    obtain ⟨v, e1, e2, wf⟩ := DataW.trod_int Tryd.underlying42 h1
    obtain ⟨v, rfl, hv⟩ := u16_wf wf
    refine ⟨v, hv, ?_⟩
    have : ((cs.drop k).take 1)[0]? = some (.int .u16 v) := by rw [e1]; rfl
    rw [List.getElem?_take_of_lt (by omega), List.getElem?_drop] at this
    exact this
  obtain ⟨f, hf⟩ := choose_lt hk
  refine ⟨fun k => if k < 4 then f k else 0, fun k => ?_, ?_⟩
  · by_cases h : k < 4
    · simp only [h, if_true]; exact (hf k h).1
    · simp [h]
  · apply List.ext_getElem?
    intro k
    have e : (u16s fun k => if k < 4 then f k else 0).toList[k]? = if k < 4 then some (.int .u16 ((if k < 4 then f k else 0 : Nat) : Int)) else none := by
      rw [Array.getElem?_toList]
      exact get_row k
    rw [e]
    by_cases h : k < 4
    · rw [if_pos h, if_pos h]; exact (hf k h).2
    · rw [if_neg h, List.getElem?_eq_none (by omega)]
theorem open_u16s {r : Reach} {b0 : Nat} {v : Value} {d : DataW H} {p : List MemPlace} (hv : Value.okWide Tryd.prog w r b0 43 v) (h : DataW.Trod enc Tryd.prog w base spare held 43 v d p) :
    ∃ f : Nat → Nat, (∀ k, f k < 65536) ∧ v = .agg (u16s f) := by
  have hv' : ∃ cs, v = .agg cs := by
    simp only [Value.okWide, Tryd.underlying43] at hv
    obtain ⟨cs, h1, _⟩ := hv
    exact ⟨cs, h1⟩
  obtain ⟨cs, rfl⟩ := hv'
  obtain ⟨fuel, hf⟩ := h
  obtain ⟨f, h1, h2⟩ := trod_u16s hf
  refine ⟨f, h1, ?_⟩
  have : cs = u16s f := by
    apply Array.ext'
    exact h2
  rw [this]
end
end Go.Proofs.YtfgmgfniolmpkaaDoor
