/-
  Contract of a tape's Text over this translation.
-/
import Derived.Test.YtiebaiofpihoiaaByCut
namespace Go.Proofs.Ytiebaiofpihoiaa
open Go.ChangeShapes Go.WideShapes Go.ChangeAt Go.RowKit
attribute [local go_sem] Gives
set_option maxHeartbeats 400000 in
theorem ttext_any {g lo : Nat} {st : BytM.Tp} (w : World) (h : Tap w g lo st) (m : Int) :
    Calls Try.prog 26 #[.pointer (some ⟨g, 0, none⟩), .int .i64 m] w fun e w' => e = .returned (.string (str (BytM.txtL st m))) ∧ Tap w' g lo (BytM.txtS st m) ∧ w.grownBy w' (some g) := by
  have C := hid (tnum_any w h 2)
  have hlt := BytM.numL_lt h.t256 (w := 2) (n := 2) rfl
  unfold BytM.txtL BytM.txtS
  generalize BytM.numS st 2 = st2 at *
  generalize BytM.numL st 2 = N at *
  have hN : N < 65536 := hlt
  clear h hlt
  by_cases hm : (N : Int) > m
  · simp only [if_pos hm]
    have t0 : decide (m < (N : Int)) = true := decide_eq_true hm
    clear hm
    go_enter Try.func26, Try.ntmps26
    go_wp2_with fail
    refine C.out.mono ?_
    rintro e w2 ⟨rfl, t2, g2⟩
    have TE := hid (tear_any w2 t2)
    have G2 := hid g2
    clear t2 g2 C
    go_wp2_with fail
    refine TE.out.mono ?_
    rintro e w3 ⟨rfl, t3, g3⟩
    have T3 := hid t3
    have G3 := hid (grown_trans G2.out g3)
    clear t3 g3
    go_wp2_with fail
    go_ret
    exact ⟨rfl, T3.out, G3.out⟩
  · simp only [if_neg hm]
    have t0 : decide (m < (N : Int)) = false := decide_eq_false hm
    clear hm
    go_enter Try.func26, Try.ntmps26
    go_wp2_with fail
    refine C.out.mono ?_
    rintro e w2 ⟨rfl, t2, g2⟩
    have C2 := hid (pcut_any w2 t2 (N : Nat))
    have G2 := hid g2
    clear t2 g2 C
    go_wp2_with fail
    refine C2.out.mono ?_
    rintro e w3 ⟨A3, c3, rfl, r3, t3, g3⟩
    have hs := (r3.arg (Nat.le_of_lt t3.lt)).str
    have T3 := hid t3
    have G3 := hid (grown_trans G2.out g3)
    clear t3 g3 r3 C2
    generalize (BytM.cutL st2 (N : Nat)).length = L at *
    go_wp2_with fail
    go_ret
    exact ⟨rfl, T3.out, G3.out⟩
end Go.Proofs.Ytiebaiofpihoiaa
