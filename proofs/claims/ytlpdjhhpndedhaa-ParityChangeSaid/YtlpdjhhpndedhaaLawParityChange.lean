/-
  P2.4, proved: whatever parities, number and sectors, one data sector's change is as the document says; the call returns true, and its arguments read as before; no conditions.
-/
import Derived.Test.YtlpdjhhpndedhaaRows
import Derived.WalkKit
import Derived.ProofKit
import Derived.OpenShut
import Derived.ShutString
import Derived.ChangeOld
import Derived.Below
import Derived.Test.YtlpdjhhpndedhaaRefChange
import Derived.Test.YtlpdjhhpndedhaaOpen
import Derived.Deep.Cut
namespace Go.Proofs.Ytlpdjhhpndedhaa.parityChange
open Go.ChangeShapes Go.WideShapes Go.ChangeAt Go.RowKit
open Go.ChangeMaps (open_string shut_string)
set_option linter.unusedVariables false

theorem own : ownKnob Try.prog.godebug = none := by kernel_rfl
theorem laidOut : laidOutB Try.prog = true := by kernel_rfl
attribute [local go_sem high] zero_row run_eql_row
attribute [local go_sem] eqg_row
theorem row_alike (F : Nat → Nat → Nat) : (eqS (F 0) (F 0) && (eqS (F 1) (F 1) && eqS (F 2) (F 2))) = true := by
  rw [eqS_yes fun _ _ => rfl, eqS_yes fun _ _ => rfl, eqS_yes fun _ _ => rfl]; rfl
set_option maxRecDepth 100000 in
theorem walk {H : Type} {enc : TypeId × Value → H} {W : World} {base : Nat} {v0 : Value} {d0 : DataW H} {p0 : List MemPlace} {v1 : Value} {d1 : DataW H} {p1 : List MemPlace} {v2 : Value} {d2 : DataW H} {p2 : List MemPlace} (ok0 : Value.okWide Try.prog W .any base 41 v0) (rd0 : DataW.Trod enc Try.prog W 0 (fun _ => true) true 41 v0 d0 p0) (lt0 : ∀ x ∈ p0, x.block < W.heap.size) (ok1 : Value.okWide Try.prog W .any base 3 v1) (rd1 : DataW.Trod enc Try.prog W 0 (fun _ => true) true 3 v1 d1 p1) (lt1 : ∀ x ∈ p1, x.block < W.heap.size) (ok2 : Value.okWide Try.prog W .any base 25 v2) (rd2 : DataW.Trod enc Try.prog W 0 (fun _ => true) true 25 v2 d2 p2) (lt2 : ∀ x ∈ p2, x.block < W.heap.size) :
    Calls Try.prog 5 #[v0, v1, v2] W fun e w' => e = .returned (.bool true) ∧ Below W.heap.size W w' := by
  obtain ⟨F, hF, rfl⟩ := open_row ok0 rd0
  obtain ⟨i, rfl, hi1, hi2⟩ := open_i64 ok1 rd1
  obtain ⟨D, hD, rfl⟩ := open_sec ok2 rd2
  clear ok0 rd0 lt0 ok1 rd1 lt1 ok2 rd2 lt2
  have key : ∃ (G : Nat → Nat → Nat) (e : Int), (∀ w, Calls Try.prog 19 #[.agg (secs 3 F), .int .i64 i, .agg (sec D)] w fun e' w' => e' = .returned (.tuple #[.agg (secs 3 G), .int .i64 e]) ∧ Below w.heap.size w w') ∧
      ∀ w, Calls Try.prog 20 #[.agg (secs 3 F), .int .i64 i, .agg (sec D)] w fun e' w' => e' = .returned (.tuple #[.agg (secs 3 G), .int .i64 e]) ∧ Below w.heap.size w w' := by
    by_cases h : i < 0 ∨ 62 ≤ i
    · exact ⟨z3, 2, fun w => change_bad F D i h w, fun w => rchange_bad F D i h w⟩
    · obtain ⟨m, rfl⟩ := Int.eq_ofNat_of_zero_le (show 0 ≤ i by omega)
      exact ⟨chg F m D, 0, fun w => change_ok F D m (by omega) hF hD w, fun w => rchange_ok F D m (by omega) hF hD w⟩
  obtain ⟨G, e0, k1, k2⟩ := key
  have K1 := hid k1
  have K2 := hid k2
  clear k1 k2 hF hD
  have al := row_alike G
  go_enter Try.func5, Try.ntmps5
  go_wp2_with (first | ((with_reducible apply ldr); rfl; exact (Blk.top rfl rfl).alloc _) | ((with_reducible apply ld); rfl; exact Blk.top rfl (by simp)))
  generalize hw3 : World.alloc (World.alloc W _) _ = w3
  have b1 : Blk w3 W.heap.size 41 (secs 3 F) := by rw [← hw3]; exact (Blk.top rfl rfl).alloc _
  have b2 : Blk w3 (W.heap.size + 1) 25 (sec D) := by rw [← hw3]; exact Blk.top rfl (by simp)
  have hb : Below W.heap.size W w3 := by rw [← hw3]; exact (((Below.refl _ _).alloc (Nat.le_refl _) _).alloc (by simp) _)
  clear hw3
  refine (K1.out _).mono ?_
  rintro e w4 ⟨rfl, hb'⟩
  have hs4 := hb'.size
  have c1 := b1.below hb' b1.lt
  have c2 := b2.below hb' b2.lt
  have hc := hb.trans (hb'.mono hb.size)
  clear b1 b2 hb hb'
  go_upto_region 2 with ((with_reducible apply str); rfl; rfl; exact Blk.top rfl rfl)
  generalize hw5 : World.setRow (World.alloc w4 _) _ _ = w5
  have d1 : Blk w5 W.heap.size 41 (secs 3 F) := by rw [← hw5]; exact (c1.alloc _).setRow_other (by have := c1.lt; omega) _
  have d2 : Blk w5 (W.heap.size + 1) 25 (sec D) := by rw [← hw5]; exact (c2.alloc _).setRow_other (by have := c2.lt; omega) _
  have d3 : Blk w5 w4.heap.size 41 (secs 3 G) := by rw [← hw5]; exact (Blk.top rfl rfl).setRow_same _
  have hd : Below W.heap.size W w5 := by rw [← hw5]; exact below_setRow (hc.alloc hc.size _) hc.size _
  clear hw5 c1 c2 hc hs4
  go_wp2_with (first | ((with_reducible apply ldr); rfl; exact d1) | ((with_reducible apply ld); rfl; exact d2))
  refine (K2.out _).mono ?_
  rintro e w6 ⟨rfl, hb'⟩
  have c3 := d3.below hb' d3.lt
  have hc := hd.trans (hb'.mono hd.size)
  clear d1 d2 d3 hd hb'
  go_upto_region 3 with ((with_reducible apply str); rfl; rfl; exact Blk.top rfl rfl)
  generalize hw7 : World.setRow (World.alloc w6 _) _ _ = w7
  have d3 : Blk w7 w4.heap.size 41 (secs 3 G) := by rw [← hw7]; exact (c3.alloc _).setRow_other (by have := c3.lt; omega) _
  have d4 : Blk w7 w6.heap.size 41 (secs 3 G) := by rw [← hw7]; exact (Blk.top rfl rfl).setRow_same _
  have hd : Below W.heap.size W w7 := by rw [← hw7]; exact below_setRow (hc.alloc hc.size _) hc.size _
  clear hw7 c3 hc
  go_wp2_with ((with_reducible apply ldr); rfl; assumption)
  refine (works_any _).mono ?_
  rintro e w8 ⟨rfl, hb'⟩
  go_wp2_with fail
  go_ret
  exact ⟨rfl, hd.trans (hb'.mono hd.size)⟩

set_option maxRecDepth 100000 in
theorem lifted (os : Os) (started : os.Started) (H : Type) (enc : TypeId × Value → H) :
    ReturnsInHanded {} Try.checked os 5 .any (Rows.parityChangeSpec.pre6 enc Try.prog Try.f5 Rows.parityChangeRow.domain false) (Rows.parityChangeSpec.post enc Try.prog Try.f5 false true false false) := by
  refine returnsInHanded_of_change (C := Try.checked) own started (by kernel_rfl) Try.func5
    (ChangeSpec.witness6 (enc := enc) (C := Try.checked) false ⟨#[], #[.agg (Array.replicate 192 (.int .u8 0)), .int .i64 0, .agg (Array.replicate 64 (.int .u8 0))], []⟩ 8 (by kernel_rfl) (by kernel_rfl) (by kernel_rfl) (by kernel_rfl)) ?_
  intro W base args ds gs before hval0 hW hcnd _
  have hval : ∀ (j : Nat) t v, Try.f5.params[j]? = some t → args[j]? = some v → Value.okWide Try.prog W .any base t v := hval0
  have hW' := hW
  obtain ⟨p, q, hA0, hV, rfl, hfz, hnd⟩ := hW
  have hA : DataW.TrodAll enc Try.prog W 0 (fun _ => true) true Try.f5.params.toList args.toList ds p := hA0
  rw [Try.params5] at hA hval
  obtain ⟨v0, vs0, d0, ds0, p0, q0, hargs, rfl, rfl, h0, r0⟩ := trodAll_cons hA
  obtain ⟨v1, vs1, d1, ds1, p1, q1, rfl, rfl, rfl, h1, r1⟩ := trodAll_cons r0
  obtain ⟨v2, vs2, d2, ds2, p2, q2, rfl, rfl, rfl, h2, r2⟩ := trodAll_cons r1
  obtain ⟨rfl, rfl, rfl⟩ := trodAll_nil r2
  obtain rfl : args = #[v0, v1, v2] := by cases args; simp_all
  obtain ⟨rfl, rfl⟩ := trodVars_none hV
  have k0 := h0
  have lt0 : ∀ x ∈ p0, x.block < W.heap.size := by obtain ⟨m, hm⟩ := k0; exact DataW.trod_lt m _ _ _ hm
  have k1 := h1
  have lt1 : ∀ x ∈ p1, x.block < W.heap.size := by obtain ⟨m, hm⟩ := k1; exact DataW.trod_lt m _ _ _ hm
  have k2 := h2
  have lt2 : ∀ x ∈ p2, x.block < W.heap.size := by obtain ⟨m, hm⟩ := k2; exact DataW.trod_lt m _ _ _ hm
  clear hA0 hval0
  refine (walk (hval 0 41 v0 rfl rfl) h0 lt0 (hval 1 3 v1 rfl rfl) h1 lt1 (hval 2 25 v2 rfl rfl) h2 lt2).mono fun e W' ⟨he, bel⟩ => ?_
  subst he
  exact ⟨_, rfl, _, _, _, [], _, [], hW', trodAll_mk1 (shut_bool Try.underlying4 _), (trodAll_cons_mk (Below.trod laidOut (by kernel_rfl) (of_decide_eq_true (by kernel_rfl)) k0 bel lt0) (trodAll_cons_mk (Below.trod laidOut (by kernel_rfl) (of_decide_eq_true (by kernel_rfl)) k1 bel lt1) (trodAll_cons_mk (Below.trod laidOut (by kernel_rfl) (of_decide_eq_true (by kernel_rfl)) k2 bel lt2) trodAll_mk0))), rfl, bel.frame _, fun h => by cases h⟩

theorem over : Rows.parityChangeRow.holds Try.pinned (OpenSpec.ofChange Rows.parityChangeSpec) :=
  OpenClaim.holds_of_wide 5 Try.f5 rfl rfl rfl rfl rfl rfl rfl ⟨rfl, rfl, rfl, rfl, rfl⟩ rfl rfl rfl rfl rfl (by kernel_rfl) Try.func5 (by kernel_rfl)
    (of_decide_eq_true (by kernel_rfl)) (by unfold Func.isWrapper; first | (rw [if_pos (by decide +kernel)]; kernel_rfl) | (rw [if_neg (by decide +kernel)]; exact ⟨rfl, rfl⟩))
    (fun os started H enc _ => lifted os started H enc)

theorem proved : Rows.ParityChangeSaid :=
  over
end Go.Proofs.Ytlpdjhhpndedhaa.parityChange
