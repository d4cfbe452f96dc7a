/-
  casemateref02.Fix: what it refuses.
-/
import Derived.Test.YteoccdcebgcdmaaRefUnlike
import Derived.Test.YteoccdcebgcdmaaFixMath
import Derived.Test.YteoccdcebgcdmaaRefFixA
namespace Go.Proofs.Yteoccdcebgcdmaa
open Go.ChangeShapes Go.WideShapes Go.ChangeAt Go.RowKit
attribute [local go_sem] Gives
theorem IntL.at {w : World} {B : Nat} {A : Option Addr} {l : List Int} (h : IntL w B A l) (h0 : 0 < l.length) : ∃ b o, A = some ⟨b, o, none⟩ ∧ ∀ i, i < l.length → w.cell? ⟨b, o + i, none⟩ = some (.int .i64 (l.getD i 0)) := by
  obtain ⟨b, o, e, _, hr⟩ := h h0
  exact ⟨b, o, e, hr⟩
def RFixBad (E : Int) (w : World) (e : Ending) (w' : World) : Prop := e = .returned (.tuple #[.slice none 0 0, .int .i64 E]) ∧ Below w.heap.size w w'
section
variable (A A' : Option Addr) (N cap n c : Nat) (l : List Int) (hl : l.length = n) (hn : n ≤ 1000) (hN : N ≤ 1000000) (w : World) (hs : IntL w w.heap.size A' l)
include hl hn hN hs
set_option maxRecDepth 100000 in
theorem rfix_few (h : N < 3) : Calls Try.prog 18 #[.slice A N cap, .slice A' n c] w (RFixBad 2 w) := by
  have HU := hid (runlike_any A' n c l hl hn w hs)
  have tN : (N : Int) - 2 < 1 := by omega
  go_enter Try.func18, Try.ntmps18
  go_wp2_with fail
  refine HU.out.mono ?_
  rintro e w' ⟨v, rfl, hO, hb⟩
  have HB := hid hb
  clear hb
  go_wp2_with fail
  go_ret2
  exact ⟨rfl, HB.out⟩
variable (h3 : 3 ≤ N)
include h3
set_option maxRecDepth 100000 in
theorem rfix_out (h : anyOut N l.length (fun i => l.getD i 0) = true) : Calls Try.prog 18 #[.slice A N cap, .slice A' n c] w (RFixBad 2 w) := by
  have HU := hid (runlike_any A' n c l hl hn w hs)
  obtain ⟨h0, hx⟩ := out_iff.1 h
  have tN : decide ((N : Int) - 2 < 1) = false := by simp; omega
  clear h
  have hul := Nat.le_trans (uniq_length l) (Nat.le_of_eq hl)
  revert HU h0 hx hul
  generalize uniq l = u
  intro HU h0 hx hul
  obtain ⟨k, hk⟩ : ∃ k, u.length = k + 1 := ⟨u.length - 1, by omega⟩
  go_enter Try.func18, Try.ntmps18
  go_wp2_with fail
  refine HU.out.mono ?_
  rintro e w' ⟨v, rfl, hO, hb⟩
  have HB := hid hb
  clear hb
  obtain ⟨A2, c2, rfl, hc1, _, _, hI⟩ := hO.any
  obtain ⟨b, o, rfl, hr⟩ := hI.at h0
  have c0 := hr 0 h0
  have c9' := hr k (by omega)
  rw [Nat.add_zero] at c0
  clear hO hI hr HU h0 hs
  rw [hk] at hx hc1 hul ⊢
  rw [Nat.add_sub_cancel] at hx
  have c9 : w'.cell? ⟨b, o + k, none⟩ = some (.int .i64 (u.getD k 0)) := c9'
  clear c9'
  clear hk
  have hk1 : k ≤ 1000 := by omega
  have ew : wrap64 (k : Int) = (k : Int) := by unfold wrap64; omega
  revert c0 c9 hx
  generalize u.getD 0 0 = y0
  generalize u.getD k 0 = y9
  intro hx c0 c9
  by_cases hlo : y0 < 0
  · clear hx
    go_wp2_with fail
    go_ret2
    exact ⟨rfl, HB.out⟩
  · have hhi : (N : Int) ≤ y9 := by omega
    have hlo2 : decide (y0 < 0) = false := by simp; omega
    have hhi2 : decide ((N : Int) ≤ y9) = true := by simp; omega
    have hhi3 : decide (y9 < (N : Int)) = false := by simp; omega
    clear hx hlo
    go_wp2_with fail
    go_ret2
    exact ⟨rfl, HB.out⟩
set_option maxRecDepth 100000 in
theorem rfix_long (h : anyOut N l.length (fun i => l.getD i 0) = false) (h64 : 64 < N) : Calls Try.prog 18 #[.slice A N cap, .slice A' n c] w (RFixBad 3 w) := by
  have HU := hid (runlike_any A' n c l hl hn w hs)
  have hx : ¬ (0 < (uniq l).length ∧ ((uniq l).getD 0 0 < 0 ∨ (N : Int) ≤ (uniq l).getD ((uniq l).length - 1) 0)) := fun h' => by rw [out_iff.2 h'] at h; cases h
  have hul := Nat.le_trans (uniq_length l) (Nat.le_of_eq hl)
  have tN : decide ((N : Int) - 2 < 1) = false := by simp; omega
  have hN0 : N ≤ 1000000 := hN
  have t62 : decide ((62 : Int) < (N : Int) - 2) = true := by simp; omega
  clear h
  revert HU hx hul
  generalize uniq l = u
  intro HU hx hul
  go_enter Try.func18, Try.ntmps18
  go_wp2_with fail
  refine HU.out.mono ?_
  rintro e w' ⟨v, rfl, hO, hb⟩
  have HB := hid hb
  clear hb
  obtain ⟨A2, c2, rfl, hc1, _, _, hI⟩ := hO.any
  clear hs HU
  rcases Nat.eq_zero_or_pos u.length with h0 | h0
  · rw [h0] at hc1 ⊢
    clear hO hI hx hul h0
    go_wp2_with fail
    go_ret2
    exact ⟨rfl, HB.out⟩
  · obtain ⟨k, hk⟩ : ∃ k, u.length = k + 1 := ⟨u.length - 1, by omega⟩
    obtain ⟨b, o, rfl, hr⟩ := hI.at h0
    have c0 := hr 0 h0
    have c9' := hr k (by omega)
    rw [Nat.add_zero] at c0
    clear hO hI hr
    have hx0 : ¬ u.getD 0 0 < 0 := fun h' => hx ⟨h0, .inl h'⟩
    have hx9 : ¬ (N : Int) ≤ u.getD k 0 := fun h' => hx ⟨h0, .inr (by rw [hk, Nat.add_sub_cancel]; exact h')⟩
    clear hx h0
    rw [hk] at hc1 hul ⊢
    have c9 : w'.cell? ⟨b, o + k, none⟩ = some (.int .i64 (u.getD k 0)) := c9'
    clear hk c9'
    have hk1 : k ≤ 1000 := by omega
    have ew : wrap64 (k : Int) = (k : Int) := by unfold wrap64; omega
    revert c0 hx0 hx9 c9
    generalize u.getD 0 0 = y0
    generalize u.getD k 0 = y9
    intro c0 hx0 hx9 c9
    have t1 : decide (y0 < 0) = false := by simp; omega
    have t2 : decide ((N : Int) ≤ y9) = false := by simp; omega
    clear hx0 hx9
    go_wp2_with fail
    go_ret2
    exact ⟨rfl, HB.out⟩
set_option maxRecDepth 100000 in
theorem rfix_full (h : anyOut N l.length (fun i => l.getD i 0) = false) (h64 : N ≤ 64) (hC : 2 < (uniq l).length) : Calls Try.prog 18 #[.slice A N cap, .slice A' n c] w (RFixBad 7 w) := by
  have HU := hid (runlike_any A' n c l hl hn w hs)
  have hx : ¬ (0 < (uniq l).length ∧ ((uniq l).getD 0 0 < 0 ∨ (N : Int) ≤ (uniq l).getD ((uniq l).length - 1) 0)) := fun h' => by rw [out_iff.2 h'] at h; cases h
  have hul := Nat.le_trans (uniq_length l) (Nat.le_of_eq hl)
  have tN : decide ((N : Int) - 2 < 1) = false := by simp; omega
  have hN0 : N ≤ 1000000 := hN
  have t62 : decide ((62 : Int) < (N : Int) - 2) = false := by simp; omega
  clear h
  revert HU hx hul hC
  generalize uniq l = u
  intro hC HU hx hul
  go_enter Try.func18, Try.ntmps18
  go_wp2_with fail
  refine HU.out.mono ?_
  rintro e w' ⟨v, rfl, hO, hb⟩
  have HB := hid hb
  clear hb
  obtain ⟨A2, c2, rfl, hc1, _, _, hI⟩ := hO.any
  clear hs HU
  rcases Nat.eq_zero_or_pos u.length with h0 | h0
  · omega
  · obtain ⟨k, hk⟩ : ∃ k, u.length = k + 1 := ⟨u.length - 1, by omega⟩
    obtain ⟨b, o, rfl, hr⟩ := hI.at h0
    have c0 := hr 0 h0
    have c9' := hr k (by omega)
    rw [Nat.add_zero] at c0
    clear hO hI hr
    have hx0 : ¬ u.getD 0 0 < 0 := fun h' => hx ⟨h0, .inl h'⟩
    have hx9 : ¬ (N : Int) ≤ u.getD k 0 := fun h' => hx ⟨h0, .inr (by rw [hk, Nat.add_sub_cancel]; exact h')⟩
    clear hx h0
    rw [hk] at hc1 hul hC ⊢
    have c9 : w'.cell? ⟨b, o + k, none⟩ = some (.int .i64 (u.getD k 0)) := c9'
    clear hk c9'
    have hk1 : k ≤ 1000 := by omega
    have ew : wrap64 (k : Int) = (k : Int) := by unfold wrap64; omega
    revert c0 hx0 hx9 c9
    generalize u.getD 0 0 = y0
    generalize u.getD k 0 = y9
    intro c0 hx0 hx9 c9
    have t3 : decide ((2 : Int) < (k : Int) + 1) = true := by simp; omega
    have t1 : decide (y0 < 0) = false := by simp; omega
    have t2 : decide ((N : Int) ≤ y9) = false := by simp; omega
    clear hx0 hx9
    go_wp2_with fail
    go_ret2
    exact ⟨rfl, HB.out⟩
end
end Go.Proofs.Yteoccdcebgcdmaa
