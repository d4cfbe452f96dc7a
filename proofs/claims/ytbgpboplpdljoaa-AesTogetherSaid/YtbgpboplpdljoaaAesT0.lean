/-
  Blocks of 16 bytes that come in as a slice; slices of such blocks that are made.
-/
import Derived.Test.YtbgpboplpdljoaaAesCl
import Derived.Test.YtbgpboplpdljoaaElems
import Derived.Laws.MakeOwn
namespace Go.Proofs.Ytbgpboplpdljoaa
open Go.ChangeShapes Go.WideShapes Go.ChangeAt Go.RowKit Go.Deep
open AesM (Bt)
attribute [local go_sem] Gives
namespace AesP
/-- n blocks of 16 bytes that came in. -/
def Bks (w : World) (B : Nat) (A : Option Addr) (n : Nat) (L : Nat → Nat → Nat) : Prop :=
  0 < n → ∃ b o, A = some ⟨b, o, none⟩ ∧ b < B ∧ ∀ i, i < n → w.rangeAt b (o + i * 16) (ar 16 (L i)).toList
theorem open_blks {H : Type} {enc : TypeId × Value → H} {w : World} {base : Nat} {spare : Nat → Bool} {held : Bool} {r : Reach} {b0 : Nat} {v : Value} {d : DataW H} {p : List MemPlace}
    (hv : Value.okWide Try.prog w r b0 52 v) (h : DataW.Trod enc Try.prog w base spare held 52 v d p) :
    ∃ (A : Option Addr) (n cap : Nat) (L : Nat → Nat → Nat), v = .slice A n cap ∧ (∀ i, Bt (L i)) ∧ Bks w w.heap.size A n L := by
  obtain ⟨A, xs, n, cap, rfl, hlen, _, _, hR, he, _⟩ := open_elems (k := 16) (R := fun cs => ∃ f : Nat → Nat, (∀ k, f k < 256) ∧ cs = (ar 16 f).toList) Try.underlying52 cells_bk (by omega) (fun fuel cs x h _ => trod_ar uBk cells_bk h) hv h
  have hk : ∀ i, i < n → ∃ f : Nat → Nat, (∀ k, f k < 256) ∧ xs[i]? = some (ar 16 f).toList := fun i hi => by
    have hi' : i < xs.length := by omega
    obtain ⟨⟨f, h1, h2⟩, _⟩ := hR xs[i] (List.getElem_mem hi')
    exact ⟨f, h1, by rw [List.getElem?_eq_getElem hi', h2]⟩
  obtain ⟨L, hL⟩ := choose_lt hk
  refine ⟨A, n, cap, fun i k => if i < n then L i k else 0, rfl, fun i k => ?_, fun hn => ?_⟩
  · by_cases h : i < n
    · simp only [if_pos h]; exact (hL i h).1 k
    · simp only [if_neg h]; omega
  · obtain ⟨b, o, rfl, hb, hr⟩ := he (by omega)
    refine ⟨b, o, rfl, hb, fun i hi j v hv => ?_⟩
    simp only [if_pos hi] at hv
    exact hr i _ (hL i hi).2 j v hv
theorem made16 : ∀ n, n ≤ 8 → madeCells (Value.cells (.agg (ar 16 fun _ => 0))) (n * 16) = ar (n * 16) fun _ => 0
  | 0, _ | 1, _ | 2, _ | 3, _ | 4, _ | 5, _ | 6, _ | 7, _ | 8, _ => by kernel_rfl
  | n + 9, h => by omega
theorem run_mkB (n : Nat) (hn : n ≤ 8) (w : World) : (Instr.makeSlice 52 (.int .i64 (n : Int)) (.int .i64 (n : Int))).run Try.prog w = .ok (.slice (some ⟨w.heap.size, 0, none⟩) n n) (w.alloc (.cells (ar (n * 16) fun _ => 0) 24)) := by
  obtain ⟨i, hi, hz, h1, h2⟩ := info_parts (P := Try.prog) (e := 24) (z := .agg (ar 16 fun _ => 0)) (size := 16) (bytes := 16) (by kernel_rfl)
  have hr := run_makeSlice (P := Try.prog) (w := w) 52 24 i _ Try.underlying52 hi hz .i64 .i64 n n (by omega) (by omega) (by rw [h1]; omega) (by rw [h2]; omega) (by omega)
  rw [h1, Int.toNat_natCast, made16 n hn] at hr
  exact hr
/-- Two slices of n blocks each, none of them the other (operations 2 and 5 make them; 6 lays the first one down). -/
def Two (w : World) (n : Nat) (γ : Nat × Nat) (L : Array Bool) (w' : World) : Prop :=
  Below w.heap.size w w' ∧ (L.getD 2 false = true → Blk w' γ.1 24 (ar (n * 16) fun _ => 0) ∧ w.heap.size ≤ γ.1) ∧ (L.getD 5 false = true → Blk w' γ.2 24 (ar (n * 16) fun _ => 0) ∧ w.heap.size ≤ γ.2) ∧
    (L.getD 2 false = true → L.getD 5 false = true → γ.1 ≠ γ.2) ∧ (L.getD 6 false = true → L.getD 2 false = true)
theorem Two.other {w w' : World} {n k : Nat} {γ : Nat × Nat} {L : Array Bool} (h : Two w n γ L w') (h2 : k ≠ 2) (h5 : k ≠ 5) (h6 : k ≠ 6) : Two w n γ (L.setIfInBounds k true) w' := by
  unfold Two
  rw [getD_set_ne false h2, getD_set_ne false h5, getD_set_ne false h6]
  exact h
theorem Two.six {w w' : World} {n : Nat} {γ : Nat × Nat} {L : Array Bool} (h : Two w n γ L w') (h2 : L.getD 2 false = true) : Two w n γ (L.setIfInBounds 6 true) w' := by
  unfold Two
  rw [getD_set_ne false (show 6 ≠ 2 by omega), getD_set_ne false (show 6 ≠ 5 by omega)]
  exact ⟨h.1, h.2.1, h.2.2.1, h.2.2.2.1, fun _ => h2⟩
theorem Two.one {w w' : World} {n : Nat} {γ : Nat × Nat} {L : Array Bool} (h : Two w n γ L w') (hL : 2 < L.size) : Two w n (w'.heap.size, γ.2) (L.setIfInBounds 2 true) (w'.alloc (.cells (ar (n * 16) fun _ => 0) 24)) := by
  obtain ⟨h1, h2, h3, h4, h5⟩ := h
  refine ⟨h1.alloc h1.size _, fun _ => ⟨Blk.new _ _ _, h1.size⟩, fun e => ?_, fun _ e => ?_, fun _ => by simp [Array.getD_eq_getD_getElem?, Array.getElem?_setIfInBounds, hL]⟩
  · rw [getD_set_ne false (by omega)] at e
    exact ⟨(h3 e).1.alloc _, (h3 e).2⟩
  · rw [getD_set_ne false (by omega)] at e
    exact Nat.ne_of_gt (h3 e).1.lt
theorem Two.two {w w' : World} {n : Nat} {γ : Nat × Nat} {L : Array Bool} (h : Two w n γ L w') : Two w n (γ.1, w'.heap.size) (L.setIfInBounds 5 true) (w'.alloc (.cells (ar (n * 16) fun _ => 0) 24)) := by
  obtain ⟨h1, h2, h3, h4, h5⟩ := h
  refine ⟨h1.alloc h1.size _, fun e => ?_, fun _ => ⟨Blk.new _ _ _, h1.size⟩, fun e _ => ?_, fun e => ?_⟩
  · rw [getD_set_ne false (by omega)] at e
    exact ⟨(h2 e).1.alloc _, (h2 e).2⟩
  · rw [getD_set_ne false (by omega)] at e
    exact Nat.ne_of_lt (h2 e).1.lt
  · rw [getD_set_ne false (by omega)] at e ⊢
    exact h5 e
end AesP
end Go.Proofs.Ytbgpboplpdljoaa
