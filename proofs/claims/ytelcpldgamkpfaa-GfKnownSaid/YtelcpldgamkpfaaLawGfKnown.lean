/-
  The chapter's examples of gf, proved: the closed call returns true; no conditions.
-/
import Derived.Test.YtelcpldgamkpfaaRows
import Derived.WalkKit
import Derived.ProofKit
import Derived.OpenShut
import Derived.Test.YtelcpldgamkpfaaGfCalls
namespace Go.Proofs.Ytelcpldgamkpfaa.gfKnown
open Go.ChangeShapes Go.WideShapes Go.ChangeAt Go.RowKit
set_option linter.unusedVariables false      -- a walk need not use every 'w<i>' (that an integer argument fits its kind)

theorem own : ownKnob Try.prog.godebug = none := by kernel_rfl

theorem inv_lit (a c : Nat) (ha : a < 256) (h0 : a ≠ 0) (h : GfM.inv a = c) (w : World) :
    Calls Try.prog 13 #[.int .u8 a] w fun e w' => e = .returned (.tuple #[.int .u8 c, .int .i64 0]) ∧ w = w' := by
  subst h; exact inv_any a ha h0 w
theorem div_lit (a b c : Nat) (ha : a < 256) (hb : b < 256) (h0 : b ≠ 0) (h : GfM.mul a (GfM.inv b) = c) (w : World) :
    Calls Try.prog 11 #[.int .u8 a, .int .u8 b] w fun e w' => e = .returned (.tuple #[.int .u8 c, .int .i64 0]) ∧ w = w' := by
  subst h; exact div_any a b ha hb h0 w
theorem k_inv1 (w : World) : Calls Try.prog 13 #[.int .u8 1] w fun e w' => e = .returned (.tuple #[.int .u8 1, .int .i64 0]) ∧ w = w' := inv_lit 1 1 (by omega) (by omega) (by decide +kernel) w
theorem k_div (w : World) : Calls Try.prog 11 #[.int .u8 29, .int .u8 128] w fun e w' => e = .returned (.tuple #[.int .u8 2, .int .i64 0]) ∧ w = w' := div_lit 29 128 2 (by omega) (by omega) (by omega) (GfM.div_of (by omega) (by omega) (by omega) (by decide +kernel)) w
theorem k_div0 (w : World) : Calls Try.prog 11 #[.int .u8 0, .int .u8 5] w fun e w' => e = .returned (.tuple #[.int .u8 0, .int .i64 0]) ∧ w = w' := div_lit 0 5 0 (by omega) (by omega) (by omega) (by decide +kernel) w
theorem k_m1 (w : World) : Calls Try.prog 15 #[.int .u8 0, .int .u8 7] w fun e w' => e = .returned (.int .u8 0) ∧ w = w' := mul_lit 0 7 0 (by omega) (by omega) (by decide +kernel) w
theorem k_m2 (w : World) : Calls Try.prog 15 #[.int .u8 1, .int .u8 255] w fun e w' => e = .returned (.int .u8 255) ∧ w = w' := mul_lit 1 255 255 (by omega) (by omega) (by decide +kernel) w
theorem k_p1 (w : World) : Calls Try.prog 20 #[.int .i64 0] w fun e w' => e = .returned (.int .u8 1) ∧ w = w' := pow_lit 0 1 (by decide +kernel) w
theorem k_p2 (w : World) : Calls Try.prog 20 #[.int .i64 1] w fun e w' => e = .returned (.int .u8 2) ∧ w = w' := pow_lit 1 2 (by decide +kernel) w
theorem k_p3 (w : World) : Calls Try.prog 20 #[.int .i64 255] w fun e w' => e = .returned (.int .u8 1) ∧ w = w' := pow_lit 255 1 (by decide +kernel) w
theorem k_l1 (w : World) : Calls Try.prog 22 #[.int .u8 1, .int .i64 0] w fun e w' => e = .returned (.bool true) ∧ w = w' := loglit 1 0 (by omega) (by omega) (by decide +kernel) w
theorem k_l2 (w : World) : Calls Try.prog 22 #[.int .u8 2, .int .i64 1] w fun e w' => e = .returned (.bool true) ∧ w = w' := loglit 2 1 (by omega) (by omega) (by decide +kernel) w
theorem k_l3 (w : World) : Calls Try.prog 22 #[.int .u8 29, .int .i64 8] w fun e w' => e = .returned (.bool true) ∧ w = w' := loglit 29 8 (by omega) (by omega) (by decide +kernel) w
theorem walk  (w : World) :
    Calls Try.prog 5 #[] w fun e w' => e = .returned (.bool true) ∧ Grown w w' := by
  go_enter Try.func5, Try.ntmps5
  go_wp2_with fail
  refine (k_inv1 _).mono ?_
  rintro e w' ⟨rfl, rfl⟩
  go_wp2_with fail
  refine (k_div _).mono ?_
  rintro e w' ⟨rfl, rfl⟩
  go_wp2_with fail
  refine (k_div0 _).mono ?_
  rintro e w' ⟨rfl, rfl⟩
  go_wp2_with fail
  refine (inv_zero _).mono ?_
  rintro e w' ⟨rfl, rfl⟩
  go_wp2_with fail
  refine (div_zero 1 _).mono ?_
  rintro e w' ⟨rfl, rfl⟩
  go_wp2_with fail
  refine (log_zero _).mono ?_
  rintro e w' ⟨rfl, rfl⟩
  go_wp2_with fail
  refine (awake_any _).mono ?_
  rintro e w' ⟨rfl, rfl⟩
  go_wp2_with fail
  refine (k_m1 _).mono ?_
  rintro e w' ⟨rfl, rfl⟩
  go_wp2_with fail
  refine (k_m2 _).mono ?_
  rintro e w' ⟨rfl, rfl⟩
  go_wp2_with fail
  refine (k_p1 _).mono ?_
  rintro e w' ⟨rfl, rfl⟩
  go_wp2_with fail
  refine (k_p2 _).mono ?_
  rintro e w' ⟨rfl, rfl⟩
  go_wp2_with fail
  refine (k_p3 _).mono ?_
  rintro e w' ⟨rfl, rfl⟩
  go_wp2_with fail
  refine (k_l1 _).mono ?_
  rintro e w' ⟨rfl, rfl⟩
  go_wp2_with fail
  refine (k_l2 _).mono ?_
  rintro e w' ⟨rfl, rfl⟩
  go_wp2_with fail
  refine (k_l3 _).mono ?_
  rintro e w' ⟨rfl, rfl⟩
  go_wp2_with fail
  refine (yes_any _ _).mono ?_
  rintro e w' ⟨rfl, rfl⟩
  go_wp2_with fail
  refine (yes_any _ _).mono ?_
  rintro e w' ⟨rfl, rfl⟩
  go_wp2_with fail
  refine (yes_any _ _).mono ?_
  rintro e w' ⟨rfl, rfl⟩
  go_wp2_with fail
  refine (no_02 _).mono ?_
  rintro e w' ⟨rfl, rfl⟩
  go_wp2_with fail
  refine (no_02 _).mono ?_
  rintro e w' ⟨rfl, rfl⟩
  go_wp2_with fail
  go_ret
  exact ⟨rfl, Grown.refl _⟩

set_option maxRecDepth 100000 in
theorem lifted (os : Os) (started : os.Started) (H : Type) (enc : TypeId × Value → H) :
    ReturnsInHanded {} Try.checked os 5 .any (Rows.gfKnownSpec.pre6 enc Try.prog Try.f5 Rows.gfKnownRow.domain false) (Rows.gfKnownSpec.post enc Try.prog Try.f5 false true false false) := by
  refine returnsInHanded_of_change (C := Try.checked) own started (by kernel_rfl) Try.func5
    (ChangeSpec.witness6 (enc := enc) (C := Try.checked) false ⟨#[], #[], []⟩ 8 (by kernel_rfl) (by kernel_rfl) (by kernel_rfl) (by kernel_rfl)) ?_
  intro W base args ds gs before hval0 hW hcnd _
  have hval : ∀ (j : Nat) t v, Try.f5.params[j]? = some t → args[j]? = some v → Value.okWide Try.prog W .any base t v := hval0
  have hW' := hW
  obtain ⟨p, q, hA0, hV, rfl, hfz, hnd⟩ := hW
  have hA : DataW.TrodAll enc Try.prog W 0 (fun _ => true) true Try.f5.params.toList args.toList ds p := hA0
  rw [Try.params5] at hA hval
  obtain ⟨rfl, rfl, rfl⟩ := trodAll_none hA
  obtain ⟨rfl, rfl⟩ := trodVars_none hV
  clear hA0 hval0
  simp only [List.append_nil] at hW'
  refine (walk  W).mono fun e W' ⟨he, hg⟩ => ?_
  subst he
  exact ⟨_, rfl, post_of_same (pa := []) (pv := []) hW' (fun _ _ _ => (trodAll_cons_mk (shut_bool Try.underlying4 _) trodAll_mk0)) (fun sp _ => rfl) (fun _ _ => rfl) rfl
    (hg.frame _) hg.2.1 (ok_one (by kernel_rfl) rfl (okWide_bool_mk Try.underlying4 _))⟩

theorem over : Rows.gfKnownRow.holds Try.pinned (OpenSpec.ofChange Rows.gfKnownSpec) :=
  OpenClaim.holds_of_wide 5 Try.f5 rfl rfl rfl rfl rfl rfl rfl ⟨rfl, rfl, rfl, rfl, rfl⟩ rfl rfl rfl rfl rfl (by kernel_rfl) Try.func5 (by kernel_rfl)
    (of_decide_eq_true (by kernel_rfl)) (by unfold Func.isWrapper; first | (rw [if_pos (by decide +kernel)]; kernel_rfl) | (rw [if_neg (by decide +kernel)]; exact ⟨rfl, rfl⟩))
    (fun os started H enc _ => lifted os started H enc)

/-- ████ THE STATEMENT ████ -/
theorem proved : Rows.GfKnownSaid :=
  over
end Go.Proofs.Ytelcpldgamkpfaa.gfKnown
