/-
  P1.6, proved: whatever the two bytes and two powers, two bytes are told by their sum and by the sum of their products with unlike powers of 2; the call returns true, and its argument reads as before; no conditions.
-/
import Derived.Test.YtelcpldgamkpfaaRows
import Derived.WalkKit
import Derived.ProofKit
import Derived.OpenShut
import Derived.ShutString
import Derived.ChangeOld
import Derived.Below
import Derived.Test.YtelcpldgamkpfaaGfCalls
import Derived.Test.YtelcpldgamkpfaaKit
import Derived.Lib.SmallJoins
import Derived.BigQuiet
import Derived.Deep.QuietTactic
namespace Go.Proofs.Ytelcpldgamkpfaa.gfTwo
open Go.ChangeShapes Go.WideShapes Go.ChangeAt Go.RowKit
open Go.ChangeMaps (open_string shut_string)
set_option linter.unusedVariables false

theorem own : ownKnob Try.prog.godebug = none := by kernel_rfl
theorem laidOut : laidOutB Try.prog = true := by kernel_rfl
theorem cells2 : Try.prog.cellsOf 45 = 4 := by kernel_rfl
theorem rest_iff (i j : Int) : (i - j).tmod 255 = 0 ↔ pwI i = pwI j := by
  have h : (i - j).tmod 255 = 0 ↔ (i - j) % 255 = 0 := by
    rw [Int.dvd_iff_tmod_eq_zero.symm, Int.dvd_iff_emod_eq_zero]
  rw [h]
  constructor
  · intro e; unfold pwI; congr 2; omega
  · intro e
    have e2 := GfM.pw_inj (by omega) (by omega) e
    omega
theorem told {a b x y : Nat} (ha : a < 256) (hb : b < 256) (hx : x < 256) (hy : y < 256) :
    (GfM.mul a x ^^^ GfM.mul b y) ^^^ GfM.mul a (x ^^^ y) = GfM.mul y (a ^^^ b) := by
  rw [GfM.mul_xor_right, GfM.mul_xor_right, GfM.mul_comm hb hy, GfM.mul_comm ha hy]
  rw [show ∀ p q r : Nat, (p ^^^ q) ^^^ (p ^^^ r) = (p ^^^ p) ^^^ (r ^^^ q) from fun p q r => by ac_rfl, Nat.xor_self, Nat.zero_xor]
set_option maxRecDepth 100000 in
theorem walk {H : Type} {enc : TypeId × Value → H} {W : World} {base : Nat} {v0 : Value} {d0 : DataW H} {p0 : List MemPlace} (ok0 : Value.okWide Try.prog W .any base 45 v0) (rd0 : DataW.Trod enc Try.prog W 0 (fun _ => true) true 45 v0 d0 p0) (lt0 : ∀ x ∈ p0, x.block < W.heap.size) :
    Calls Try.prog 9 #[v0] W fun e w' => e = .returned (.bool true) ∧ Below W.heap.size W w' := by
  obtain ⟨c0, c1, c2, c3, y0, y1, y2, y3, m, rfl, rfl, rfl, hy0, hy1, hy2, hy3⟩ := Joins.open_agg4 Try.underlying45 (by kernel_rfl) cells2 ok0 rd0
  obtain ⟨x, e0, rfl, w0⟩ := DataW.trod_int Try.underlying5 hy0
  obtain ⟨y, e1, rfl, w1⟩ := DataW.trod_int Try.underlying5 hy1
  obtain ⟨i, e2, rfl, w2⟩ := DataW.trod_int Try.underlying43 hy2
  obtain ⟨j, e3, rfl, w3⟩ := DataW.trod_int Try.underlying43 hy3
  simp only [List.cons.injEq, and_true] at e0 e1 e2 e3
  subst e0 e1 e2 e3
  clear ok0 rd0 hy0 hy1 hy2 hy3 lt0
  obtain ⟨x, rfl, hx⟩ := u8_wf w0
  obtain ⟨y, rfl, hy⟩ := u8_wf w1
  obtain ⟨i1, i2⟩ := i16_wf w2
  obtain ⟨j1, j2⟩ := i16_wf w3
  clear w0 w1 w2 w3
  have ba := pwI_lt i
  have bb := pwI_lt j
  go_enter Try.func9, Try.ntmps9
  go_wp2_with fail
  go_quiet ((go_at_call 20; exact quiet_left (pow_any _ _)))
  go_wp2_with fail
  go_quiet ((go_at_call 15; first | exact quiet_add_left (mul_any _ _ (by assumption) (by assumption) _) | exact quiet_left (mul_any _ _ (by assumption) (by assumption) _)))
  have hp := GfM.xor_lt hx hy
  have hax := GfM.mul_lt (b := x) ba
  have hby := GfM.mul_lt (b := y) bb
  have hq := GfM.xor_lt hax hby
  rw [u8_xor_nat _ _ hx hy, u8_xor_nat _ _ hax hby]
  by_cases hab : pwI i = pwI j
  · have t1 := nat_yes hab
    have t2 : ((i - j).tmod 255 == 0) = true := by rw [beq_iff_eq]; exact (rest_iff i j).2 hab
    have t3 : ((GfM.mul (pwI i) x ^^^ GfM.mul (pwI j) y : Nat) : Int) = ((GfM.mul (pwI i) (x ^^^ y) : Nat) : Int) := by rw [← hab, GfM.mul_xor_right]
    have T3 := hid t3
    clear t3 hab
    go_wp2_with fail
    refine (mul_any _ _ ba hp _).mono ?_
    rintro e w' ⟨rfl, rfl⟩
    rw [T3.out]
    go_wp2_with fail
    refine (awake_any _).mono ?_
    rintro e w' ⟨rfl, rfl⟩
    go_wp2_with fail
    go_ret
    exact ⟨rfl, below_drewN ((Below.refl _ _).alloc (Nat.le_refl _) _) _⟩
  · have t1 := nat_no hab
    have t2 : ((i - j).tmod 255 == 0) = false := by rw [beq_eq_false_iff_ne]; exact fun e => hab ((rest_iff i j).1 e)
    have t2' : ((i - j).tmod 255 != 0) = true := by rw [bne_iff_ne]; exact fun e => hab ((rest_iff i j).1 e)
    have T3 := hid (told ba bb hx hy)
    have hs := GfM.xor_lt ba bb
    have hs0 : pwI i ^^^ pwI j ≠ 0 := fun e => hab (GfM.xor_eq_zero e)
    have hap := GfM.mul_lt (b := x ^^^ y) ba
    have T4 := hid (GfM.div_of hs hy hs0 rfl)
    have t5 : (bits BinOp.xor IntKind.u8 ((x ^^^ y : Nat) : Int) (y : Int) == (x : Int)) = true := by
      rw [u8_xor_nat _ _ hp hy, Nat.xor_assoc, Nat.xor_self, Nat.xor_zero]; simp
    clear hab
    go_wp2_with fail
    refine (mul_any _ _ ba hp _).mono ?_
    rintro e w' ⟨rfl, rfl⟩
    go_wp2_with fail
    rw [u8_xor_nat _ _ hq hap, u8_xor_nat _ _ ba bb, T3.out]
    refine (div_any _ _ (GfM.mul_lt hy) hs hs0 _).mono ?_
    rintro e w' ⟨rfl, rfl⟩
    rw [T4.out]
    go_wp2_with fail
    refine (awake_any _).mono ?_
    rintro e w' ⟨rfl, rfl⟩
    go_wp2_with fail
    go_ret
    exact ⟨rfl, below_drewN ((Below.refl _ _).alloc (Nat.le_refl _) _) _⟩

set_option maxRecDepth 100000 in
theorem lifted (os : Os) (started : os.Started) (H : Type) (enc : TypeId × Value → H) :
    ReturnsInHanded {} Try.checked os 9 .any (Rows.gfTwoSpec.pre6 enc Try.prog Try.f9 Rows.gfTwoRow.domain false) (Rows.gfTwoSpec.post enc Try.prog Try.f9 false true false false) := by
  refine returnsInHanded_of_change (C := Try.checked) own started (by kernel_rfl) Try.func9
    (ChangeSpec.witness6 (enc := enc) (C := Try.checked) false ⟨#[], #[.agg #[.int .u8 0, .int .u8 0, .int .i16 0, .int .i16 0]], []⟩ 8 (by kernel_rfl) (by kernel_rfl) (by kernel_rfl) (by kernel_rfl)) ?_
  intro W base args ds gs before hval0 hW hcnd _
  have hval : ∀ (j : Nat) t v, Try.f9.params[j]? = some t → args[j]? = some v → Value.okWide Try.prog W .any base t v := hval0
  have hW' := hW
  obtain ⟨p, q, hA0, hV, rfl, hfz, hnd⟩ := hW
  have hA : DataW.TrodAll enc Try.prog W 0 (fun _ => true) true Try.f9.params.toList args.toList ds p := hA0
  rw [Try.params9] at hA hval
  obtain ⟨v0, vs0, d0, ds0, p0, q0, hargs, rfl, rfl, h0, r0⟩ := trodAll_cons hA
  obtain ⟨rfl, rfl, rfl⟩ := trodAll_nil r0
  obtain rfl : args = #[v0] := by cases args; simp_all
  obtain ⟨rfl, rfl⟩ := trodVars_none hV
  have k0 := h0
  have lt0 : ∀ x ∈ p0, x.block < W.heap.size := by obtain ⟨m, hm⟩ := k0; exact DataW.trod_lt m _ _ _ hm
  clear hA0 hval0
  refine (walk (hval 0 45 v0 rfl rfl) h0 lt0).mono fun e W' ⟨he, bel⟩ => ?_
  subst he
  exact ⟨_, rfl, _, _, _, [], _, [], hW', trodAll_mk1 (shut_bool Try.underlying4 _), (trodAll_cons_mk (Below.trod laidOut (by kernel_rfl) (of_decide_eq_true (by kernel_rfl)) k0 bel lt0) trodAll_mk0), rfl, bel.frame _, fun h => by cases h⟩

theorem over : Rows.gfTwoRow.holds Try.pinned (OpenSpec.ofChange Rows.gfTwoSpec) :=
  OpenClaim.holds_of_wide 9 Try.f9 rfl rfl rfl rfl rfl rfl rfl ⟨rfl, rfl, rfl, rfl, rfl⟩ rfl rfl rfl rfl rfl (by kernel_rfl) Try.func9 (by kernel_rfl)
    (of_decide_eq_true (by kernel_rfl)) (by unfold Func.isWrapper; first | (rw [if_pos (by decide +kernel)]; kernel_rfl) | (rw [if_neg (by decide +kernel)]; exact ⟨rfl, rfl⟩))
    (fun os started H enc _ => lifted os started H enc)

theorem proved : Rows.GfTwoSaid :=
  over
end Go.Proofs.Ytelcpldgamkpfaa.gfTwo
