/-
  The program's Fix and the document's, of the same row and the same list.
-/
import Derived.Test.YteoccdcebgcdmaaRefFixC
import Derived.Test.YteoccdcebgcdmaaRefFixD
import Derived.Test.YteoccdcebgcdmaaRefPQ
namespace Go.Proofs.Yteoccdcebgcdmaa
open Go.ChangeShapes Go.WideShapes Go.ChangeAt Go.RowKit
/-- A row of the call's own, and no error. -/
def FixGood (N : Nat) (G : Nat → Nat → Nat) (w : World) (e : Ending) (w' : World) : Prop :=
  ∃ g cap' : Nat, e = .returned (.tuple #[.slice (some ⟨g, 0, none⟩) N cap', .int .i64 0]) ∧ OwnS w' w.heap.size (.slice (some ⟨g, 0, none⟩) N cap') N G ∧ Below w.heap.size w w'
theorem mk_empty {l : List Int} (h : l = []) : mk l = fun _ => false := by
  subst h
  funext j
  cases h : mk [] j with
  | false => rfl
  | true => exact absurd (mk_iff.1 h) (by simp)
theorem mendD_none {m : Nat} {F : Nat → Nat → Nat} : mendD m (fun _ => false) F = F := by
  have h : gapsL m (fun _ => false) = [] := by unfold gapsL; simp
  unfold mendD
  rw [h]
  funext i k
  exact congrFun (zeroed_not rfl) k
/-- Both refuse, with the same error, or both answer the same row. -/
theorem fix_both (N n : Nat) (l : List Int) (F : Nat → Nat → Nat) (hF : ∀ i k, F i k < 256) (hl : l.length = n) (hn : n ≤ 5) (hN : N ≤ 70) :
    (∃ E : Int, (∀ (A A' : Option Addr) (cap c : Nat) w, IntL w w.heap.size A' l → Calls Try.prog 17 #[.slice A N cap, .slice A' n c] w (FixBad E w)) ∧
      (∀ (B B' : Option Addr) (cap2 c2 : Nat) w, IntL w w.heap.size B' l → Calls Try.prog 18 #[.slice B N cap2, .slice B' n c2] w (FixBad E w))) ∨
    ∃ G H : Nat → Nat → Nat, allS N G H = true ∧ (∀ (A A' : Option Addr) (cap c : Nat) w, IntL w w.heap.size A' l → Secs w w.heap.size A N F → Calls Try.prog 17 #[.slice A N cap, .slice A' n c] w (FixGood N G w)) ∧
      (∀ (B B' : Option Addr) (cap2 c2 : Nat) w, IntL w w.heap.size B' l → Secs w w.heap.size B N F → Calls Try.prog 18 #[.slice B N cap2, .slice B' n c2] w (FixGood N H w)) := by
  subst hl
  by_cases h3 : N < 3
  · exact .inl ⟨2, fun A A' cap c w _ => fix_few A A' N cap _ c h3 w, fun B B' cap2 c2 w hs => rfix_few B B' N cap2 _ c2 l rfl (by omega) (by omega) w hs h3⟩
  cases hO : anyOut N l.length fun i => l.getD i 0 with
  | true => exact .inl ⟨2, fun A A' cap c w hs => fix_out A A' N cap _ c _ (by omega) (by omega) (by omega) w hs hO, fun B B' cap2 c2 w hs => rfix_out B B' N cap2 _ c2 l rfl (by omega) (by omega) w hs (by omega) hO⟩
  | false =>
    by_cases h64 : 64 < N
    · exact .inl ⟨3, fun A A' cap c w hs => fix_long A A' N cap _ c _ (by omega) (by omega) (by omega) w hs hO h64, fun B B' cap2 c2 w hs => rfix_long B B' N cap2 _ c2 l rfl (by omega) (by omega) w hs (by omega) hO h64⟩
    have hR : ∀ x, x ∈ l → 0 ≤ x ∧ x < N := fun x hx => by
      obtain ⟨i, hi, e⟩ := List.mem_iff_getElem.1 hx
      have := anyOut_iff.1 hO i hi
      rw [List.getD_eq_getElem?_getD, List.getElem?_eq_getElem hi, Option.getD_some, e] at this
      exact this
    have hc := cnt_uniq (l := l) (N := N) (by omega) hR
    by_cases hu : 2 < (uniq l).length
    · exact .inl ⟨7, fun A A' cap c w hs => fix_full A A' N cap _ c _ (by omega) (by omega) (by omega) w hs hO (by omega) (by show 2 < cntM (mk l); omega), fun B B' cap2 c2 w hs => rfix_full B B' N cap2 _ c2 l rfl (by omega) (by omega) w hs (by omega) hO (by omega) hu⟩
    obtain ⟨m, rfl⟩ : ∃ m, N = m + 2 := ⟨N - 2, by omega⟩
    refine .inr ?_
    have hP : ∀ (A A' : Option Addr) (cap c : Nat) w, IntL w w.heap.size A' l → Secs w w.heap.size A (m + 2) F → Calls Try.prog 17 #[.slice A (m + 2) cap, .slice A' l.length c] w (FixGood (m + 2) (mendP m (mk l) (mendD m (mk l) F)) w) :=
      fun A A' cap c w hs hS => fix_ok A A' m cap _ c _ F hF (by omega) (by omega) (by omega) w hs hS hO (by show cntM (mk l) ≤ 2; omega)
    cases hz : (uniq l).length with
    | zero =>
      refine ⟨_, F, ?_, hP, fun B B' cap2 c2 w hs hS => rfix_none B B' m cap2 _ c2 l F hF rfl (by omega) (by omega) (by omega) w hs hS hz⟩
      have h0 : l = [] := by
        cases l with
        | nil => rfl
        | cons x t => exact absurd (List.length_pos_of_mem (mem_uniq.2 (show x ∈ x :: t by simp))) (by omega)
      refine allS_yes fun i _ k _ => ?_
      rw [mk_empty h0, mendD_none, mendP_none rfl rfl]
    | succ k =>
      refine ⟨_, _, ?_, hP, fun B B' cap2 c2 w hs hS => rfix_some B B' m cap2 _ c2 k l F hF rfl (by omega) (by omega) (by omega) w hs hS hO hz (by omega)⟩
      exact allS_yes fun i hi k hk => (fin_same hi hk).symm
end Go.Proofs.Yteoccdcebgcdmaa
