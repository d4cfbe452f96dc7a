/-
  What comes in: a sector by value, a row of three, a slice of sectors.
-/
import Derived.Test.YteoccdcebgcdmaaParSums
import Derived.Deep.Slices
import Derived.OpenShut
namespace Go.Proofs.Yteoccdcebgcdmaa
open Go.ChangeShapes Go.WideShapes Go.ChangeAt Go.RowKit Go.Deep
section
variable {H : Type} {enc : TypeId × Value → H} {w : World} {base : Nat} {spare : Nat → Bool} {held : Bool}
theorem cells_sec : Try.prog.cellsOf 25 = 64 := by kernel_rfl
theorem cells_row : Try.prog.cellsOf 41 = 192 := by kernel_rfl
theorem cells_u8 : Try.prog.cellsOf 5 = 1 := by kernel_rfl
theorem trod_sec {fuel : Nat} {cs : List Value} {x : DataW H × List MemPlace} (h : DataW.trod enc Try.prog w base spare held fuel 25 cs = some x) : ∃ f : Nat → Nat, (∀ k, f k < 256) ∧ cs = (sec f).toList := by
  obtain ⟨xs, m, rfl, rfl, hlen, hxl, hx⟩ := DataW.trod_array Try.underlying25 h
  rw [cells_sec] at hlen
  have hk : ∀ k, k < 64 → ∃ n : Nat, n < 256 ∧ cs[k]? = some (.int .u8 n) := fun k hk => by
    have h1 := hx k hk
    rw [cells_u8, Nat.mul_one, List.getElem?_eq_getElem (by omega)] at h1
    obtain ⟨n, e1, e2, wf⟩ := DataW.trod_int Try.underlying5 h1
    obtain ⟨n, rfl, hn⟩ := u8_wf wf
    refine ⟨n, hn, ?_⟩
    have : ((cs.drop k).take 1)[0]? = some (.int .u8 n) := by rw [e1]; rfl
    rw [List.getElem?_take_of_lt (by omega), List.getElem?_drop] at this
    exact this
  obtain ⟨f, hf⟩ := choose_lt hk
  refine ⟨fun k => if k < 64 then f k else 0, fun k => ?_, ?_⟩
  · by_cases h : k < 64
    · simp only [h, if_true]; exact (hf k h).1
    · simp [h]
  · apply List.ext_getElem?
    intro k
    have e : (sec fun k => if k < 64 then f k else 0).toList[k]? = if k < 64 then some (.int .u8 ((if k < 64 then f k else 0 : Nat) : Int)) else none := by
      rw [Array.getElem?_toList]
      exact get_row k
    rw [e]
    by_cases h : k < 64
    · rw [if_pos h, if_pos h]; exact (hf k h).2
    · rw [if_neg h, List.getElem?_eq_none (by omega)]
theorem open_sec {r : Reach} {b0 : Nat} {v : Value} {d : DataW H} {p : List MemPlace} (hv : Value.okWide Try.prog w r b0 25 v) (h : DataW.Trod enc Try.prog w base spare held 25 v d p) :
    ∃ f : Nat → Nat, (∀ k, f k < 256) ∧ v = .agg (sec f) := by
  have hv' : ∃ cs, v = .agg cs := by
    simp only [Value.okWide, Try.underlying25] at hv
    obtain ⟨cs, h1, _⟩ := hv
    exact ⟨cs, h1⟩
  obtain ⟨cs, rfl⟩ := hv'
  obtain ⟨fuel, hf⟩ := h
  obtain ⟨f, h1, h2⟩ := trod_sec hf
  refine ⟨f, h1, ?_⟩
  have : cs = sec f := by
    apply Array.ext'
    exact h2
  rw [this]
theorem open_row {r : Reach} {b0 : Nat} {v : Value} {d : DataW H} {p : List MemPlace} (hv : Value.okWide Try.prog w r b0 41 v) (h : DataW.Trod enc Try.prog w base spare held 41 v d p) :
    ∃ F : Nat → Nat → Nat, (∀ i k, F i k < 256) ∧ v = .agg (secs 3 F) := by
  obtain ⟨cs, rfl, hsz⟩ := okWide_struct Try.underlying41 hv
  rw [cells_row] at hsz
  obtain ⟨fuel, hf⟩ := h
  obtain ⟨xs, m, rfl, _, hlen, hxl, hx⟩ := DataW.trod_struct Try.underlying41 hf
  have hxl' : xs.length = 3 := hxl
  have one : ∀ i, i < 3 → ∃ f : Nat → Nat, (∀ k, f k < 256) ∧ (cs.toList.drop (i * 64)).take 64 = (sec f).toList := fun i hi => by
    match i, hi with
    | 0, _ =>
      have h1 : DataW.trod enc Try.prog w base spare held m 25 ((cs.toList.drop 0).take (Try.prog.cellsOf 25)) = xs[0]? := hx 0 _ rfl
      rw [List.getElem?_eq_getElem (by omega), cells_sec] at h1
      exact trod_sec h1
    | 1, _ =>
      have h1 : DataW.trod enc Try.prog w base spare held m 25 ((cs.toList.drop 64).take (Try.prog.cellsOf 25)) = xs[1]? := hx 1 _ rfl
      rw [List.getElem?_eq_getElem (by omega), cells_sec] at h1
      exact trod_sec h1
    | 2, _ =>
      have h1 : DataW.trod enc Try.prog w base spare held m 25 ((cs.toList.drop 128).take (Try.prog.cellsOf 25)) = xs[2]? := hx 2 _ rfl
      rw [List.getElem?_eq_getElem (by omega), cells_sec] at h1
      exact trod_sec h1
  obtain ⟨F, hF⟩ := choose_lt one
  refine ⟨fun i k => if i < 3 then F i k else 0, fun i k => ?_, ?_⟩
  · by_cases h : i < 3
    · simp only [h, if_true]; exact (hF i h).1 k
    · simp [h]
  · refine congrArg Value.agg (Array.ext_getElem? fun j => ?_)
    unfold secs
    rw [get_row]
    by_cases hj : j < 3 * 64
    · rw [if_pos hj]
      show cs[j]? = some (.int .u8 ((if j / 64 < 3 then F (j / 64) (j % 64) else 0 : Nat) : Int))
      rw [if_pos (by omega)]
      have h1 := (hF (j / 64) (by omega)).2
      have h2 : ((cs.toList.drop (j / 64 * 64)).take 64)[j % 64]? = some (.int .u8 (F (j / 64) (j % 64) : Nat)) := by
        rw [h1, Array.getElem?_toList, get_sec (Nat.mod_lt _ (by omega))]
      rw [List.getElem?_take_of_lt (Nat.mod_lt _ (by omega)), List.getElem?_drop, show j / 64 * 64 + j % 64 = j by omega, Array.getElem?_toList] at h2
      exact h2
    · rw [if_neg hj, Array.getElem?_eq_none (by omega)]
theorem cells_read {a : Addr} {i fuel : Nat} {cs : List Value} {y : DataW H × List MemPlace} (hc : w.cells? base (a.add (i * Try.prog.cellsOf 25)) (Try.prog.cellsOf 25) = some cs)
    (ht : DataW.trod enc Try.prog w base spare held fuel 25 cs = some y) : ∃ f : Nat → Nat, (∀ k, f k < 256) ∧ ∀ k, k < 64 → w.cell? (a.add (i * 64 + k)) = some (.int .u8 (f k)) := by
  obtain ⟨f, h1, h2⟩ := trod_sec ht
  have h3 := (World.cells?_some hc).2.2
  rw [cells_sec] at h3
  refine ⟨f, h1, fun k hk => ?_⟩
  have h4 := h3 k hk
  rw [Go.Deep.add_add] at h4
  rw [h4, h2, Array.getElem?_toList]
  exact get_sec hk
theorem open_i64 {r : Reach} {b0 : Nat} {v : Value} {d : DataW H} {p : List MemPlace} (hv : Value.okWide Try.prog w r b0 3 v) (h : DataW.Trod enc Try.prog w base spare held 3 v d p) :
    ∃ i : Int, v = .int .i64 i ∧ -9223372036854775808 ≤ i ∧ i ≤ 9223372036854775807 := by
  obtain ⟨i, rfl⟩ := okWide_int Try.underlying3 hv
  obtain ⟨fuel, hf⟩ := h
  obtain ⟨n, e1, e2, wf⟩ := DataW.trod_int Try.underlying3 hf
  simp only [Value.cells, List.cons.injEq, Value.int.injEq, true_and, and_true] at e1
  subst e1
  exact ⟨i, rfl, i64_wf wf⟩
/-- A slice of sectors that came in. -/
theorem open_secs {r : Reach} {b0 : Nat} {v : Value} {d : DataW H} {p : List MemPlace} (hv : Value.okWide Try.prog w r b0 22 v) (h : DataW.Trod enc Try.prog w base spare held 22 v d p) (hlt : ∀ x ∈ p, x.block < w.heap.size) :
    ∃ (A : Option Addr) (n cap : Nat) (F : Nat → Nat → Nat), v = .slice A n cap ∧ n ≤ cap ∧ cap ≤ maxLen ∧ (∀ i k, F i k < 256) ∧ Secs w w.heap.size A n F ∧ (A = none → n = 0 ∧ cap = 0) := by
  obtain ⟨A, n, cap, rfl⟩ := okWide_slice Try.underlying22 hv
  obtain ⟨fuel, hf⟩ := h
  rcases open_slice Try.underlying22 hf with ⟨hcs, _⟩ | ⟨a, len, cap', m, fu, D, Pl, hcs, hb, hl, hm, hmm, hx, hi⟩
  · simp [Value.cells] at hcs
    obtain ⟨rfl, rfl, rfl⟩ := hcs
    exact ⟨none, 0, 0, fun _ _ => 0, rfl, Nat.le_refl _, Nat.zero_le _, fun _ _ => (by decide : 0 < 256), fun h => absurd h (by omega), fun _ => ⟨rfl, rfl⟩⟩
  · simp [Value.cells] at hcs
    obtain ⟨rfl, rfl, rfl⟩ := hcs
    have hnm : n ≤ m := by rw [hmm]; split <;> omega
    have one : ∀ i, i < m → ∃ f : Nat → Nat, (∀ k, f k < 256) ∧ ∀ k, k < 64 → w.cell? (a.add (i * 64 + k)) = some (.int .u8 (f k)) := fun i him => by
      obtain ⟨cs', hc, ht⟩ := hi i him
      exact cells_read hc ht
    obtain ⟨F, hF⟩ := choose_lt one
    refine ⟨some a, n, cap, fun i k => if i < m then F i k else 0, rfl, hl, hm, fun i k => ?_, fun hn => ?_, fun h => by cases h⟩
    · by_cases h : i < m
      · simp only [h, if_true]; exact (hF i h).1 k
      · simp [h]
    · have h0 := (hF 0 (by omega)).2 0 (by omega)
      have hsp : a.spot = none := by
        simp only [Nat.zero_mul, Nat.add_zero, Addr.add, if_true] at h0
        unfold World.cell? at h0
        split at h0
        · cases hs : a.spot with
          | none => rfl
          | some s => simp [hs] at h0
        · cases h0
      have hblk : a.block < w.heap.size := by
        have := World.block_lt_of_cell? w _ h0
        simpa [Addr.add] using this
      obtain ⟨b, o, sp⟩ := a
      subst hsp
      refine ⟨b, o, rfl, hblk, fun i hin j v hv => ?_⟩
      obtain ⟨hj, rfl⟩ := get_sec_list hv
      have := (hF i (by omega)).2 j hj
      rw [Addr.add_mid] at this
      rw [Nat.add_assoc, this]
      show some _ = some (Value.int .u8 ((if i < m then F i j else 0 : Nat) : Int))
      rw [if_pos (by omega)]
end
end Go.Proofs.Yteoccdcebgcdmaa
