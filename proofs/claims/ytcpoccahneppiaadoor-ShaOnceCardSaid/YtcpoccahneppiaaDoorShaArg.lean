/-
  Slices of bytes that come in; the contract of casematelaw03.long.
-/
import Derived.Test.YtcpoccahneppiaaDoorByts
import Derived.Laws.AppendOwnNone
namespace Go.Proofs.YtcpoccahneppiaaDoor
open Go.ChangeShapes Go.WideShapes Go.ChangeAt Go.RowKit Go.Deep
/-- A slice of k slices, the i-th of N i elements. -/
def Slcs (w : World) (B : Nat) (A : Option Addr) (k : Nat) (N : Nat → Nat) : Prop :=
  0 < k → ∃ b o, A = some ⟨b, o, none⟩ ∧ b < B ∧ ∀ i, i < k → ∃ A' c, w.cell? ⟨b, o + i, none⟩ = some (.slice A' (N i) c)
def longB (k : Nat) (N : Nat → Nat) : Bool := (List.range k).any fun i => decide (3000 < N i)
theorem longB_yes {k i : Nat} {N : Nat → Nat} (hi : i < k) (h : 3000 < N i) : longB k N = true := List.any_eq_true.2 ⟨i, List.mem_range.2 hi, decide_eq_true h⟩
theorem longB_no {k : Nat} {N : Nat → Nat} (h : ∀ i, i < k → N i ≤ 3000) : longB k N = false := by
  unfold longB
  rw [List.any_eq_false]
  intro i hi
  have := h i (List.mem_range.1 hi)
  simp; omega
set_option maxHeartbeats 400000 in
theorem long_any (A : Option Addr) (k c : Nat) (N : Nat → Nat) (hN : ∀ i, N i ≤ 9223372036854775807) (hk : k ≤ 1000000) (w : World) (hs : Slcs w w.heap.size A k N) :
    Calls Tryd.prog 9 #[.slice A k c] w fun e w' => e = .returned (.bool (longB k N)) ∧ w = w' := by
  have HS := hid hs
  have HN := hid hN
  clear hs hN
  go_enter Tryd.func9, Tryd.ntmps9
  go_wp2_with fail
  go_loop [3] (fun i => ∃ j : Nat, j ≤ k ∧ i = .int .i64 j ∧ Hid (∀ i, i < j → N i ≤ 3000)) (fun i => k - (intOf i).toNat)
  case atStart => exact ⟨0, by omega, rfl, hid fun i hi => absurd hi (by omega)⟩
  case round =>
    obtain ⟨j, hj, rfl, hall⟩ := hrel
    by_cases hlt : j < k
    · obtain ⟨b, o, rfl, hB, hr⟩ := HS.out (by omega)
      obtain ⟨A', c', c1⟩ := hr j hlt
      have tj : (j : Int) < (k : Int) := by omega
      have hNj := HN.out j
      clear hr
      by_cases hlo : 3000 < N j
      · have t1 : decide ((3000 : Int) < (N j : Int)) = true := by simp; omega
        have E := hid (longB_yes hlt hlo)
        go_wp2_with fail
        go_ret
        exact ⟨by rw [E.out]; rfl, rfl⟩
      · have t1 : decide ((3000 : Int) < (N j : Int)) = false := by simp; omega
        have hno : N j ≤ 3000 := by omega
        go_wp2_with fail
        go_round
        case rel => exact ⟨j + 1, by omega, by go_num, hid fun i hi => by
          by_cases h : i < j
          · exact hall.out i h
          · rw [show i = j by omega]; exact hno⟩
        case measure => simp [intOf]; omega
    · obtain rfl : j = k := by omega
      have E := hid (longB_no hall.out)
      clear hall
      go_wp2_with fail
      go_ret
      exact ⟨by rw [E.out]; rfl, rfl⟩
end Go.Proofs.YtcpoccahneppiaaDoor
