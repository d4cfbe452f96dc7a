/-
  What comes in: two ints, two sectors.
-/
import Derived.Test.YtlpdjhhpndedhaaOpen
namespace Go.Proofs.Ytlpdjhhpndedhaa
open Go.ChangeShapes Go.WideShapes Go.ChangeAt Go.RowKit Go.Deep
section
variable {H : Type} {enc : TypeId × Value → H} {w : World} {base : Nat} {spare : Nat → Bool} {held : Bool}
theorem cells_int : Try.prog.cellsOf 3 = 1 := by kernel_rfl
theorem cells_int2 : Try.prog.cellsOf 50 = 2 := by kernel_rfl
theorem cells_sec2 : Try.prog.cellsOf 51 = 128 := by kernel_rfl
theorem open_int2 {r : Reach} {b0 : Nat} {v : Value} {d : DataW H} {p : List MemPlace} (hv : Value.okWide Try.prog w r b0 50 v) (h : DataW.Trod enc Try.prog w base spare held 50 v d p) :
    ∃ x y : Int, v = .agg #[.int .i64 x, .int .i64 y] := by
  have hv' : ∃ cs, v = .agg cs := by
    simp only [Value.okWide, Try.underlying50] at hv
    obtain ⟨cs, h1, _⟩ := hv
    exact ⟨cs, h1⟩
  obtain ⟨cs, rfl⟩ := hv'
  obtain ⟨fuel, hf⟩ := h
  obtain ⟨xs, m, _, _, hlen, hxl, hx⟩ := DataW.trod_array Try.underlying50 hf
  rw [cells_int2] at hlen
  have hk : ∀ k, k < 2 → ∃ n : Int, cs.toList[k]? = some (.int .i64 n) := fun k hk => by
    have h1 := hx k hk
    rw [cells_int, Nat.mul_one, List.getElem?_eq_getElem (by omega)] at h1
    obtain ⟨n, e1, e2, wf⟩ := DataW.trod_int Try.underlying3 h1
    refine ⟨n, ?_⟩
    have : (((Value.agg cs).cells.toList.drop k).take 1)[0]? = some (.int .i64 n) := by rw [e1]; rfl
    rw [List.getElem?_take_of_lt (by omega), List.getElem?_drop] at this
    exact this
  obtain ⟨x, hx0⟩ := hk 0 (by omega)
  obtain ⟨y, hy0⟩ := hk 1 (by omega)
  refine ⟨x, y, congrArg Value.agg (Array.ext' ?_)⟩
  apply List.ext_getElem?
  intro k
  match k with
  | 0 => exact hx0
  | 1 => exact hy0
  | k + 2 =>
    rw [List.getElem?_eq_none (by have : cs.toList.length = 2 := hlen; omega)]
    rfl
theorem open_sec2 {r : Reach} {b0 : Nat} {v : Value} {d : DataW H} {p : List MemPlace} (hv : Value.okWide Try.prog w r b0 51 v) (h : DataW.Trod enc Try.prog w base spare held 51 v d p) :
    ∃ F : Nat → Nat → Nat, (∀ i k, F i k < 256) ∧ v = .agg (secs 2 F) := by
  have hv' : ∃ cs, v = .agg cs := by
    simp only [Value.okWide, Try.underlying51] at hv
    obtain ⟨cs, h1, _⟩ := hv
    exact ⟨cs, h1⟩
  obtain ⟨cs, rfl⟩ := hv'
  obtain ⟨fuel, hf⟩ := h
  obtain ⟨xs, m, _, _, hlen, hxl, hx⟩ := DataW.trod_array Try.underlying51 hf
  rw [cells_sec2] at hlen
  have hsz : cs.toList.length = 128 := hlen
  rw [Array.length_toList] at hsz
  have one : ∀ i, i < 2 → ∃ f : Nat → Nat, (∀ k, f k < 256) ∧ (cs.toList.drop (i * 64)).take 64 = (sec f).toList := fun i hi => by
    have h1 := hx i hi
    rw [List.getElem?_eq_getElem (by omega), cells_sec] at h1
    exact trod_sec h1
  obtain ⟨F, hF⟩ := choose_lt one
  refine ⟨fun i k => if i < 2 then F i k else 0, fun i k => ?_, ?_⟩
  · by_cases h : i < 2
    · simp only [h, if_true]; exact (hF i h).1 k
    · simp [h]
  · refine congrArg Value.agg (Array.ext_getElem? fun j => ?_)
    unfold secs
    rw [get_row]
    by_cases hj : j < 2 * 64
    · rw [if_pos hj]
      show cs[j]? = some (.int .u8 ((if j / 64 < 2 then F (j / 64) (j % 64) else 0 : Nat) : Int))
      rw [if_pos (by omega)]
      have h1 := (hF (j / 64) (by omega)).2
      have h2 : ((cs.toList.drop (j / 64 * 64)).take 64)[j % 64]? = some (.int .u8 (F (j / 64) (j % 64) : Nat)) := by
        rw [h1, Array.getElem?_toList, get_sec (Nat.mod_lt _ (by omega))]
      rw [List.getElem?_take_of_lt (Nat.mod_lt _ (by omega)), List.getElem?_drop, show j / 64 * 64 + j % 64 = j by omega, Array.getElem?_toList] at h2
      exact h2
    · rw [if_neg hj, Array.getElem?_eq_none (by omega)]
end
end Go.Proofs.Ytlpdjhhpndedhaa
