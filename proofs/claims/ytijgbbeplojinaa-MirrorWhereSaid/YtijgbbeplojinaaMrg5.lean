/-
  What comes in, number by number.
  What comes in: rows of n bytes by value.
  What comes in to the laws of chapter 14: a geometry, two ints, an int.
  What comes in to the laws of chapter 19: a geometry, a write.
-/
import Derived.Test.YtijgbbeplojinaaMrg4
import Derived.Deep.Slices
import Derived.OpenShut
import Derived.ChangeMaps5
import Derived.ChangeSlices
import Derived.Lib.SmallJoins
set_option linter.unusedVariables false
set_option linter.unusedSimpArgs false
set_option maxRecDepth 100000
namespace Go.Proofs.Ytijgbbeplojinaa
open Go.ChangeShapes Go.WideShapes Go.ChangeAt Go.RowKit Go.Deep
theorem choose_lt {α : Type} [Inhabited α] {n : Nat} {P : Nat → α → Prop} (h : ∀ k, k < n → ∃ a, P k a) : ∃ f : Nat → α, ∀ k, k < n → P k (f k) :=
  ⟨fun k => if hk : k < n then (h k hk).choose else default, fun k hk => by simp only [hk, dif_pos]; exact (h k hk).choose_spec⟩
theorem u8_wf {a : Int} (h : (Lit.int .u8 a).wf = true) : ∃ n : Nat, a = n ∧ n < 256 := by
  simp [Lit.wf, IntKind.min, IntKind.max, IntKind.bits, IntKind.signed] at h
  exact ⟨a.toNat, by omega, by omega⟩
theorem cells_u8 : Try.prog.cellsOf 5 = 1 := by kernel_rfl
end Go.Proofs.Ytijgbbeplojinaa
set_option maxRecDepth 100000
namespace Go.Proofs.Ytijgbbeplojinaa
open Go.ChangeShapes Go.WideShapes Go.ChangeAt Go.RowKit Go.Deep
section
variable {H : Type} {enc : TypeId × Value → H} {w : World} {base : Nat} {spare : Nat → Bool} {held : Bool}
theorem trod_ar {T : TypeId} {n : Nat} (hT : Try.prog.underlying T = some (.array n 5)) (hc : Try.prog.cellsOf T = n) {fuel : Nat} {cs : List Value} {x : DataW H × List MemPlace} (h : DataW.trod enc Try.prog w base spare held fuel T cs = some x) : ∃ f : Nat → Nat, (∀ k, f k < 256) ∧ cs = (ar n f).toList := by
  obtain ⟨xs, m, rfl, rfl, hlen, hxl, hx⟩ := DataW.trod_array hT h
  rw [hc] at hlen
  have hk : ∀ k, k < n → ∃ n : Nat, n < 256 ∧ cs[k]? = some (.int .u8 n) := fun k hk => by
    have h1 := hx k hk
    rw [cells_u8, Nat.mul_one, List.getElem?_eq_getElem (by omega)] at h1
    obtain ⟨n, e1, e2, wf⟩ := DataW.trod_int Try.underlying5 h1
    obtain ⟨n, rfl, hn⟩ := u8_wf wf
    refine ⟨n, hn, ?_⟩
    have : ((cs.drop k).take 1)[0]? = some (.int .u8 n) := by rw [e1]; rfl
    rw [List.getElem?_take_of_lt (by omega), List.getElem?_drop] at this
    exact this
  obtain ⟨f, hf⟩ := choose_lt hk
  refine ⟨fun k => if k < n then f k else 0, fun k => ?_, ?_⟩
  · by_cases h : k < n
    · simp only [h, if_true]; exact (hf k h).1
    · simp [h]
  · apply List.ext_getElem?
    intro k
    have e : (ar n fun k => if k < n then f k else 0).toList[k]? = if k < n then some (.int .u8 ((if k < n then f k else 0 : Nat) : Int)) else none := by
      rw [Array.getElem?_toList]
      exact get_row k
    rw [e]
    by_cases h : k < n
    · rw [if_pos h, if_pos h]; exact (hf k h).2
    · rw [if_neg h, List.getElem?_eq_none (by omega)]
end
end Go.Proofs.Ytijgbbeplojinaa
set_option maxRecDepth 100000
namespace Go.Proofs.Ytijgbbeplojinaa
open Go.ChangeShapes Go.WideShapes Go.ChangeAt Go.RowKit Go.Deep
namespace GeM
theorem cells_ge : Try.prog.cellsOf 23 = 2 := by kernel_rfl
theorem cells_gi : Try.prog.cellsOf 3 = 1 := by kernel_rfl
theorem i64_wf {a : Int} (h : (Lit.int .i64 a).wf = true) : -9223372036854775808 ≤ a ∧ a ≤ 9223372036854775807 := by
  simp [Lit.wf, IntKind.min, IntKind.max, IntKind.bits, IntKind.signed] at h
  omega
section
variable {H : Type} {enc : TypeId × Value → H} {w : World} {base : Nat} {spare : Nat → Bool} {held : Bool}
theorem open_geo {r : Reach} {b0 : Nat} {v : Value} {d : DataW H} {p : List MemPlace} (hv : Value.okWide Try.prog w r b0 23 v) (h : DataW.Trod enc Try.prog w base spare held 23 v d p) :
    ∃ a b : Int, v = gv a b := by
  obtain ⟨c0, c1, y0, y1, m, rfl, rfl, _, hy0, hy1⟩ := Joins.open_agg2 Try.underlying23 (by kernel_rfl) cells_ge hv h
  obtain ⟨x, e0, rfl, w0⟩ := DataW.trod_int Try.underlying3 hy0
  obtain ⟨y, e1, rfl, w1⟩ := DataW.trod_int Try.underlying3 hy1
  simp only [List.cons.injEq, and_true] at e0 e1
  subst e0 e1
  exact ⟨x, y, rfl⟩
end
end GeM
end Go.Proofs.Ytijgbbeplojinaa
set_option maxRecDepth 100000
namespace Go.Proofs.Ytijgbbeplojinaa
open Go.ChangeShapes Go.WideShapes Go.ChangeAt Go.RowKit Go.Deep
namespace MiM
open GeM
theorem cells_wr : Try.prog.cellsOf 27 = 66 := by kernel_rfl
theorem cells_se19 : Try.prog.cellsOf 25 = 64 := by kernel_rfl
theorem uSe19 : Try.prog.underlying 25 = some (.array 64 5) := Try.underlying25
theorem list_wr {cs : List Value} {u v : Value} {f : Nat → Nat} (hl : cs.length = 66) (h0 : (cs.drop 0).take 1 = [u]) (h1 : (cs.drop 1).take 1 = [v]) (h2 : (cs.drop 2).take 64 = (ar 64 f).toList) : cs = u :: v :: (ar 64 f).toList := by
  match cs, hl with
  | a :: b :: r, hl =>
    have e0 : a = u := by simpa using h0
    have e1 : b = v := by simpa using h1
    have e2 : r.take 64 = (ar 64 f).toList := h2
    rw [List.take_of_length_le (by simp at hl; omega)] at e2
    rw [e0, e1, e2]
section
variable {H : Type} {enc : TypeId × Value → H} {w : World} {base : Nat} {spare : Nat → Bool} {held : Bool}
theorem trod_wr {fuel : Nat} {cs : List Value} {x : DataW H × List MemPlace} (h : DataW.trod enc Try.prog w base spare held fuel 27 cs = some x) : ∃ (k i : Int) (f : Nat → Nat), cs = wrL k i f ∧ (-9223372036854775808 ≤ i ∧ i ≤ 9223372036854775807) ∧ ∀ j, f j < 256 := by
  obtain ⟨xs, n, _, rfl, hl, hlen, hf⟩ := DataW.trod_struct Try.underlying27 h
  rw [cells_wr] at hl
  match xs, hlen with
  | [y0, y1, y2], _ =>
    have h0 : DataW.trod enc Try.prog w base spare held n 3 ((cs.drop 0).take (Try.prog.cellsOf 3)) = some y0 := hf 0 _ rfl
    have h1 : DataW.trod enc Try.prog w base spare held n 3 ((cs.drop 1).take (Try.prog.cellsOf 3)) = some y1 := hf 1 _ rfl
    have h2 : DataW.trod enc Try.prog w base spare held n 25 ((cs.drop 2).take (Try.prog.cellsOf 25)) = some y2 := hf 2 _ rfl
    rw [cells_gi] at h0 h1
    rw [cells_se19] at h2
    obtain ⟨k, e0, _, _⟩ := DataW.trod_int Try.underlying3 h0
    obtain ⟨i, e1, _, w1⟩ := DataW.trod_int Try.underlying3 h1
    obtain ⟨f, hf2, e2⟩ := trod_ar uSe19 cells_se19 h2
    exact ⟨k, i, f, list_wr hl e0 e1 e2, i64_wf w1, hf2⟩
theorem open_wr {r : Reach} {b0 : Nat} {v : Value} {d : DataW H} {p : List MemPlace} (hv : Value.okWide Try.prog w r b0 27 v) (h : DataW.Trod enc Try.prog w base spare held 27 v d p) :
    ∃ (k i : Int) (f : Nat → Nat), v = .agg (wrL k i f).toArray ∧ (-9223372036854775808 ≤ i ∧ i ≤ 9223372036854775807) ∧ ∀ j, f j < 256 := by
  obtain ⟨cs, rfl, hsz⟩ := okWide_struct Try.underlying27 hv
  obtain ⟨fuel, hf⟩ := h
  obtain ⟨k, i, f, e, hi, hx⟩ := trod_wr hf
  exact ⟨k, i, f, congrArg Value.agg (Array.ext' (by rw [List.toList_toArray]; exact e)), hi, hx⟩
end
end MiM
end Go.Proofs.Ytijgbbeplojinaa
