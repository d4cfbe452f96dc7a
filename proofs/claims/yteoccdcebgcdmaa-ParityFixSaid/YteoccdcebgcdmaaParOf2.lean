/-
  P2.1, P2.2 of any number of sectors: both sides' answers.
-/
import Derived.Test.YteoccdcebgcdmaaParRight
import Derived.Test.YteoccdcebgcdmaaParApp
namespace Go.Proofs.Yteoccdcebgcdmaa
open Go.ChangeShapes Go.WideShapes Go.ChangeAt Go.RowKit
def ofP (n : Nat) (F : Nat → Nat → Nat) : Nat → Nat := if n = 0 ∨ 62 < n then fun _ => 0 else PP F n
def ofQ (n : Nat) (F : Nat → Nat → Nat) : Nat → Nat := if n = 0 ∨ 62 < n then fun _ => 0 else QQ F n
def ofE (n : Nat) : Int := if n = 0 then 2 else if 62 < n then 3 else 0
def rightA (n : Nat) (F : Nat → Nat → Nat) : Bool := if 3 ≤ n ∧ n ≤ 64 then rightB (n - 2) F else false
section
variable (A : Option Addr) (n cap : Nat) (F : Nat → Nat → Nat) (hF : ∀ i k, F i k < 256) (hn : n ≤ 1000) (hc : n ≤ cap) (w : World) (hs : Secs w w.heap.size A n F)
include hF hn hs
theorem of_any : Calls Try.prog 11 #[.slice A n cap] w fun e w' => e = .returned (.tuple #[.agg (sec (ofP n F)), .agg (sec (ofQ n F)), .int .i64 (ofE n)]) ∧ Below w.heap.size w w' := by
  unfold ofP ofQ ofE
  by_cases h0 : n = 0
  · subst h0; simp only [true_or, if_true]; exact of_none A cap w
  · by_cases h1 : 62 < n
    · simp only [h0, h1, or_true, if_true, if_false]; exact of_long A n cap h1 (by omega) w
    · simp only [h0, h1, or_false, if_false]; exact of_some A n cap F hF (by omega) (by omega) w hs
theorem rof_any : Calls Try.prog 12 #[.slice A n cap] w fun e w' => e = .returned (.tuple #[.agg (sec (ofP n F)), .agg (sec (ofQ n F)), .int .i64 (ofE n)]) ∧ Below w.heap.size w w' := by
  unfold ofP ofQ ofE
  by_cases h0 : n = 0
  · subst h0; simp only [true_or, if_true]; exact rof_none A cap w
  · by_cases h1 : 62 < n
    · simp only [h0, h1, or_true, if_true, if_false]; exact rof_long A n cap h1 (by omega) w
    · simp only [h0, h1, or_false, if_false]; exact rof_some A n cap F hF (by omega) (by omega) w hs
include hc
theorem right_any : Calls Try.prog 13 #[.slice A n cap] w fun e w' => e = .returned (.bool (rightA n F)) ∧ Below w.heap.size w w' := by
  unfold rightA
  by_cases h : 3 ≤ n ∧ n ≤ 64
  · rw [if_pos h]
    obtain ⟨m, rfl⟩ : ∃ m, n = m + 2 := ⟨n - 2, by omega⟩
    exact right_mid A m cap F hF (by omega) (by omega) hc w hs
  · rw [if_neg h]
    exact (right_few A n cap (by omega) (by omega) w).mono fun e w' ⟨h1, h2⟩ => ⟨h1, by subst h2; exact Below.refl _ _⟩
theorem rright_any : Calls Try.prog 14 #[.slice A n cap] w fun e w' => e = .returned (.bool (rightA n F)) ∧ Below w.heap.size w w' := by
  unfold rightA
  by_cases h : 3 ≤ n ∧ n ≤ 64
  · rw [if_pos h]
    obtain ⟨m, rfl⟩ : ∃ m, n = m + 2 := ⟨n - 2, by omega⟩
    exact rright_mid A m cap F hF (by omega) (by omega) hc w hs
  · rw [if_neg h]
    exact (rright_few A n cap (by omega) (by omega) w).mono fun e w' ⟨h1, h2⟩ => ⟨h1, by subst h2; exact Below.refl _ _⟩
end
theorem OwnS.secs {w : World} {B g n cap : Nat} {F : Nat → Nat → Nat} (h : OwnS w B (.slice (some ⟨g, 0, none⟩) n cap) n F) : Secs w w.heap.size (some ⟨g, 0, none⟩) n F ∧ n ≤ cap := by
  obtain ⟨g', cap', e, _, hl, hc, hr⟩ := h.form (fun e => by cases e)
  simp only [Value.slice.injEq, Option.some.injEq, Addr.mk.injEq, and_true, true_and] at e
  obtain ⟨rfl, rfl⟩ := e
  exact ⟨fun _ => ⟨g, 0, rfl, hl, hr⟩, hc⟩
end Go.Proofs.Yteoccdcebgcdmaa
