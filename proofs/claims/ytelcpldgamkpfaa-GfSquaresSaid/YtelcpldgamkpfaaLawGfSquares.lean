/-
  P1.6, proved: whatever the two bytes, the square of a sum is the sum of the squares, and each byte is just one byte's square; the call returns true, and its arguments read as before; no conditions.
-/
import Derived.Test.YtelcpldgamkpfaaRows
import Derived.WalkKit
import Derived.ProofKit
import Derived.OpenShut
import Derived.Test.YtelcpldgamkpfaaGfCalls
namespace Go.Proofs.Ytelcpldgamkpfaa.gfSquares
open Go.ChangeShapes Go.WideShapes Go.ChangeAt Go.RowKit
set_option linter.unusedVariables false      -- a walk need not use every 'w<i>' (that an integer argument fits its kind)

theorem own : ownKnob Try.prog.godebug = none := by kernel_rfl

set_option maxRecDepth 100000 in
theorem walk (a0 : Int) (a1 : Int) (w0 : (Lit.int .u8 a0).wf = true) (w1 : (Lit.int .u8 a1).wf = true) (w : World) :
    Calls Try.prog 10 #[.int .u8 a0, .int .u8 a1] w fun e w' => e = .returned (.bool true) ∧ Grown w w' := by
  obtain ⟨a, rfl, ha⟩ := u8_wf w0
  obtain ⟨b, rfl, hb⟩ := u8_wf w1
  clear w0 w1
  have hx := GfM.xor_lt ha hb
  go_enter Try.func10, Try.ntmps10
  go_wp2_with fail
  refine (mul_any a a ha ha _).mono ?_
  rintro e w' ⟨rfl, rfl⟩
  go_wp2_with fail
  refine (mul_any b b hb hb _).mono ?_
  rintro e w' ⟨rfl, rfl⟩
  go_wp2_with fail
  go_loop [7, 8] (fun r i => ∃ k : Nat, k ≤ 7 ∧ r = .int .u8 (GfM.npow a (2 ^ k) : Nat) ∧ i = .int .i64 k) (fun _ i => 7 - (intOf i).toNat)
  case atStart => exact ⟨0, by omega, by rw [Nat.pow_zero, show GfM.npow a 1 = GfM.mul 1 a from rfl, GfM.one_mul ha], rfl⟩
  case round =>
    obtain ⟨k, hk, rfl, rfl⟩ := hrel
    have hr := GfM.npow_lt (a := a) (2 ^ k)
    by_cases hlt : k < 7
    · have H := hid (GfM.npow_sq ha k)
      go_wp2_with fail
      refine (mul_any _ _ hr hr _).mono ?_
      rintro e w' ⟨rfl, rfl⟩
      rw [H.out]
      go_wp2_with fail
      go_round
      case rel => exact ⟨k + 1, by omega, rfl, by go_num⟩
      case measure => simp [intOf]; omega
    · obtain rfl : k = 7 := by omega
      have H := hid ((GfM.npow_sq ha 7).trans (GfM.npow_256 ha))
      have H2 := hid (GfM.sq_xor ha hb)
      have q1 := GfM.mul_lt (b := a) ha
      have q2 := GfM.mul_lt (b := b) hb
      generalize GfM.npow a (2 ^ 7) = r at *
      go_wp2_with fail
      rw [u8_xor_nat _ _ ha hb]
      refine (mul_any _ _ hx hx _).mono ?_
      rintro e w' ⟨rfl, rfl⟩
      rw [H2.out]
      have X := hid (u8_xor_nat _ _ q1 q2)
      generalize hs : GfM.mul a a ^^^ GfM.mul b b = sx at *
      clear hs
      have X2 : ((sx : Nat) : Int) = bits BinOp.xor IntKind.u8 ((GfM.mul a a : Nat) : Int) ((GfM.mul b b : Nat) : Int) := X.out.symm
      rw [X2]
      clear X2
      by_cases hab : a = b
      · have t1 := nat_yes hab
        have t2 : (((GfM.mul a a : Nat) : Int) == ((GfM.mul b b : Nat) : Int)) = true := nat_yes (by rw [hab])
        clear hab
        go_wp2_with fail
        refine (mul_any _ _ hr hr _).mono ?_
        rintro e w' ⟨rfl, rfl⟩
        rw [H.out]
        go_wp2_with fail
        refine (awake_any _).mono ?_
        rintro e w' ⟨rfl, rfl⟩
        go_wp2_with fail
        go_ret
        exact ⟨rfl, Grown.refl _⟩
      · have t1 := nat_no hab
        have t2 : (((GfM.mul a a : Nat) : Int) == ((GfM.mul b b : Nat) : Int)) = false := nat_no (fun e => hab (GfM.sq_inj ha hb e))
        clear hab
        go_wp2_with fail
        refine (mul_any _ _ hr hr _).mono ?_
        rintro e w' ⟨rfl, rfl⟩
        rw [H.out]
        go_wp2_with fail
        refine (awake_any _).mono ?_
        rintro e w' ⟨rfl, rfl⟩
        go_wp2_with fail
        go_ret
        exact ⟨rfl, Grown.refl _⟩

set_option maxRecDepth 100000 in
theorem lifted (os : Os) (started : os.Started) (H : Type) (enc : TypeId × Value → H) :
    ReturnsInHanded {} Try.checked os 10 .any (Rows.gfSquaresSpec.pre6 enc Try.prog Try.f10 Rows.gfSquaresRow.domain false) (Rows.gfSquaresSpec.post enc Try.prog Try.f10 false true false false) := by
  refine returnsInHanded_of_change (C := Try.checked) own started (by kernel_rfl) Try.func10
    (ChangeSpec.witness6 (enc := enc) (C := Try.checked) false ⟨#[], #[.int .u8 0, .int .u8 0], []⟩ 8 (by kernel_rfl) (by kernel_rfl) (by kernel_rfl) (by kernel_rfl)) ?_
  intro W base args ds gs before hval0 hW hcnd _
  have hval : ∀ (j : Nat) t v, Try.f10.params[j]? = some t → args[j]? = some v → Value.okWide Try.prog W .any base t v := hval0
  have hW' := hW
  obtain ⟨p, q, hA0, hV, rfl, hfz, hnd⟩ := hW
  have hA : DataW.TrodAll enc Try.prog W 0 (fun _ => true) true Try.f10.params.toList args.toList ds p := hA0
  rw [Try.params10] at hA hval
  obtain ⟨v0, vs0, d0, ds0, p0, q0, hargs, rfl, rfl, h0, r0⟩ := trodAll_cons hA
  obtain ⟨v1, vs1, d1, ds1, p1, q1, rfl, rfl, rfl, h1, r1⟩ := trodAll_cons r0
  obtain ⟨rfl, rfl, rfl⟩ := trodAll_nil r1
  obtain rfl : args = #[v0, v1] := by cases args; simp_all
  obtain ⟨rfl, rfl⟩ := trodVars_none hV
  obtain ⟨a0, rfl, rfl, rfl, w0⟩ := open_int Try.underlying5 (hval 0 5 v0 rfl rfl) h0
  obtain ⟨a1, rfl, rfl, rfl, w1⟩ := open_int Try.underlying5 (hval 1 5 v1 rfl rfl) h1
  clear hA0 hval0
  simp only [List.append_nil] at hW'
  refine (walk a0 a1 w0 w1 W).mono fun e W' ⟨he, hg⟩ => ?_
  subst he
  exact ⟨_, rfl, post_of_same (pa := []) (pv := []) hW' (fun _ _ _ => (trodAll_cons_mk (shut_bool Try.underlying4 _) trodAll_mk0)) (fun sp _ => (trodAll_cons_mk (shut_int Try.underlying5 w0) (trodAll_cons_mk (shut_int Try.underlying5 w1) trodAll_mk0))) (fun _ _ => rfl) rfl
    (hg.frame _) hg.2.1 (ok_one (by kernel_rfl) rfl (okWide_bool_mk Try.underlying4 _))⟩

theorem over : Rows.gfSquaresRow.holds Try.pinned (OpenSpec.ofChange Rows.gfSquaresSpec) :=
  OpenClaim.holds_of_wide 10 Try.f10 rfl rfl rfl rfl rfl rfl rfl ⟨rfl, rfl, rfl, rfl, rfl⟩ rfl rfl rfl rfl rfl (by kernel_rfl) Try.func10 (by kernel_rfl)
    (of_decide_eq_true (by kernel_rfl)) (by unfold Func.isWrapper; first | (rw [if_pos (by decide +kernel)]; kernel_rfl) | (rw [if_neg (by decide +kernel)]; exact ⟨rfl, rfl⟩))
    (fun os started H enc _ => lifted os started H enc)

/-- ████ THE STATEMENT ████ -/
theorem proved : Rows.GfSquaresSaid :=
  over
end Go.Proofs.Ytelcpldgamkpfaa.gfSquares
