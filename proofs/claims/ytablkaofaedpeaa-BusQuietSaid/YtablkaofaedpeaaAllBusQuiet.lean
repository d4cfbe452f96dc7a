/-
  P13.4, proved: whatever steps (at most 30), all of numbers that never come, and whatever goes over a bus of two members (at most 60 acts, its cell left out): each answer is the one that the members give alone, and behind it they hold the same; neither is touched, and the power is there. With more steps or acts the law asks awake, which is proved too.
-/
import Derived.Test.YtablkaofaedpeaaRows
import Derived.WalkKit
import Derived.ProofKit
import Derived.OpenShut
import Derived.ShutString
import Derived.ChangeOld
import Derived.Below
import Derived.SizedLaws
import Derived.Test.YtablkaofaedpeaaMrg9
import Derived.Deep.Cut
namespace Go.Proofs.Ytablkaofaedpeaa.busQuiet
open Go.ChangeShapes Go.WideShapes Go.ChangeAt Go.RowKit
open Go.ChangeMaps (open_string shut_string)
set_option linter.unusedVariables false

theorem own : ownKnob Try.prog.godebug = none := by kernel_rfl
theorem laidOut : laidOutB Try.prog = true := by kernel_rfl

set_option maxRecDepth 100000 in
theorem walk {H : Type} {enc : TypeId × Value → H} {W : World} {base : Nat} {v0 : Value} {d0 : DataW H} {p0 : List MemPlace} {v1 : Value} {d1 : DataW H} {p1 : List MemPlace} (ok0 : Value.okWide Try.prog W .any base 26 v0) (rd0 : DataW.Trod enc Try.prog W 0 (fun _ => true) true 26 v0 d0 p0) (lt0 : ∀ x ∈ p0, x.block < W.heap.size) (wt0 : ∀ m ∈ d0.weights Try.prog 26, m ≤ reachBytes) (ok1 : Value.okWide Try.prog W .any base 64 v1) (rd1 : DataW.Trod enc Try.prog W 0 (fun _ => true) true 64 v1 d1 p1) (lt1 : ∀ x ∈ p1, x.block < W.heap.size) (wt1 : ∀ m ∈ d1.weights Try.prog 64, m ≤ reachBytes) :
    Calls Try.prog 4 #[v0, v1] W fun e w' => e = .returned (.bool true) ∧ Below W.heap.size W w' := by
  obtain ⟨A, l, n, cap, rfl, hs, hst⟩ := BuP.open_steps13 ok0 rd0 wt0
  obtain ⟨A2, la, n2, cap2, rfl, hb2, ha2⟩ := BuP.open_acts13 ok1 rd1
  clear ok0 rd0 lt0 wt0 ok1 rd1 lt1 wt1
  exact BuP.quiet_law BuP.bus_ok hs ha2 hst hb2

set_option maxRecDepth 100000 in
theorem lifted (os : Os) (started : os.Started) (H : Type) (enc : TypeId × Value → H) :
    ReturnsInHanded {} Try.checked os 4 .any (Rows.busQuietSpec.pre6 enc Try.prog Try.f4 Rows.busQuietRow.domain false) (Rows.busQuietSpec.post enc Try.prog Try.f4 false true false false) := by
  refine returnsInHanded_of_change_sized (C := Try.checked) own started (by kernel_rfl) Try.func4
    (ChangeSpec.witness6 (enc := enc) (C := Try.checked) false ⟨#[], #[.slice none 0 0, .slice none 0 0], []⟩ 8 (by kernel_rfl) (by kernel_rfl) (by kernel_rfl) (by kernel_rfl)) ?_
  intro W base args ds gs before hval0 hW hcnd hsz0 _
  have hval : ∀ (j : Nat) t v, Try.f4.params[j]? = some t → args[j]? = some v → Value.okWide Try.prog W .any base t v := hval0
  have hW' := hW
  obtain ⟨p, q, hA0, hV, rfl, hfz, hnd⟩ := hW
  have hA : DataW.TrodAll enc Try.prog W 0 (fun _ => true) true Try.f4.params.toList args.toList ds p := hA0
  rw [Try.params4] at hA hval
  obtain ⟨v0, vs0, d0, ds0, p0, q0, hargs, rfl, rfl, h0, r0⟩ := trodAll_cons hA
  obtain ⟨v1, vs1, d1, ds1, p1, q1, rfl, rfl, rfl, h1, r1⟩ := trodAll_cons r0
  obtain ⟨rfl, rfl, rfl⟩ := trodAll_nil r1
  obtain rfl : args = #[v0, v1] := by cases args; simp_all
  obtain ⟨rfl, rfl⟩ := trodVars_none hV
  have wt0 : ∀ m ∈ d0.weights Try.prog 26, m ≤ reachBytes := fun m hm => by simpa using List.all_eq_true.1 hsz0 m (DataW.weights_mem_each (j := 0) (by rw [Try.params4]; rfl) rfl m hm)
  have wt1 : ∀ m ∈ d1.weights Try.prog 64, m ≤ reachBytes := fun m hm => by simpa using List.all_eq_true.1 hsz0 m (DataW.weights_mem_each (j := 1) (by rw [Try.params4]; rfl) rfl m hm)
  have k0 := h0
  have lt0 : ∀ x ∈ p0, x.block < W.heap.size := by obtain ⟨m, hm⟩ := k0; exact DataW.trod_lt m _ _ _ hm
  have k1 := h1
  have lt1 : ∀ x ∈ p1, x.block < W.heap.size := by obtain ⟨m, hm⟩ := k1; exact DataW.trod_lt m _ _ _ hm
  clear hA0 hval0
  refine (walk (H := H) (enc := enc) (base := base) (hval 0 26 v0 rfl rfl) h0 lt0 wt0 (hval 1 64 v1 rfl rfl) h1 lt1 wt1).mono fun e W' ⟨he, bel⟩ => ?_
  subst he
  exact ⟨_, rfl, _, _, _, [], _, [], hW', trodAll_mk1 (shut_bool Try.underlying4 _), (trodAll_cons_mk (Below.trod laidOut (by kernel_rfl) (of_decide_eq_true (by kernel_rfl)) k0 bel lt0) (trodAll_cons_mk (Below.trod laidOut (by kernel_rfl) (of_decide_eq_true (by kernel_rfl)) k1 bel lt1) trodAll_mk0)), rfl, bel.frame _, fun h => by cases h⟩

theorem over : Rows.busQuietRow.holds Try.pinned (OpenSpec.ofChange Rows.busQuietSpec) :=
  OpenClaim.holds_of_wide 4 Try.f4 rfl rfl rfl rfl rfl rfl rfl ⟨rfl, rfl, rfl, rfl, rfl⟩ rfl rfl rfl rfl rfl (by kernel_rfl) Try.func4 (by kernel_rfl)
    (of_decide_eq_true (by kernel_rfl)) (by unfold Func.isWrapper; first | (rw [if_pos (by decide +kernel)]; kernel_rfl) | (rw [if_neg (by decide +kernel)]; exact ⟨rfl, rfl⟩))
    (fun os started H enc _ => lifted os started H enc)

theorem proved : Rows.BusQuietSaid :=
  over
end Go.Proofs.Ytablkaofaedpeaa.busQuiet
