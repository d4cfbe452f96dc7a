/-
  P2.1, P2.2, proved: whatever sectors, the parities, and whether the row is right, are as the document says, and what is handed in stays; the call returns true, and its argument reads as before; no conditions.
-/
import Derived.Test.YtlpdjhhpndedhaaRows
import Derived.WalkKit
import Derived.ProofKit
import Derived.OpenShut
import Derived.ShutString
import Derived.ChangeOld
import Derived.Below
import Derived.Test.YtlpdjhhpndedhaaParOf2
import Derived.Test.YtlpdjhhpndedhaaOpen
import Derived.Deep.Cut
namespace Go.Proofs.Ytlpdjhhpndedhaa.parityOf
open Go.ChangeShapes Go.WideShapes Go.ChangeAt Go.RowKit
open Go.ChangeMaps (open_string shut_string)
set_option linter.unusedVariables false

theorem own : ownKnob Try.prog.godebug = none := by kernel_rfl
theorem laidOut : laidOutB Try.prog = true := by kernel_rfl
attribute [local go_sem] eqg_sec
attribute [local go_sem high] run_eql_sec run_neq_sec
set_option maxRecDepth 100000 in
theorem walk {H : Type} {enc : TypeId × Value → H} {W : World} {base : Nat} {v0 : Value} {d0 : DataW H} {p0 : List MemPlace} (ok0 : Value.okWide Try.prog W .any base 22 v0) (rd0 : DataW.Trod enc Try.prog W 0 (fun _ => true) true 22 v0 d0 p0) (lt0 : ∀ x ∈ p0, x.block < W.heap.size) :
    Calls Try.prog 3 #[v0] W fun e w' => e = .returned (.bool true) ∧ Below W.heap.size W w' := by
  obtain ⟨A, n, cap, F, rfl, hnc, hcm, hF, hs, hA⟩ := open_secs ok0 rd0 lt0
  clear ok0 rd0 lt0
  have hm : min n 70 ≤ 70 := Nat.min_le_right _ _
  have CP := hid (copied_any A n cap F hA hnc hcm W hs)
  have CP2 : RowKit.Hid (∀ w1, Below W.heap.size W w1 → Calls Try.prog 10 #[.slice A n cap] w1 (SomeOwn w1 (min n 70) F)) := hid fun w1 h1 => copied_any A n cap F hA hnc hcm w1 ((hs.below h1 (Nat.le_refl _)).more h1.size)
  have HF := hid hF
  clear hA hs hF
  revert hm CP CP2
  generalize min n 70 = m
  intro hm CP CP2
  have s1 := eqS_yes (f := ofP m F) (g := ofP m F) fun _ _ => rfl
  have s2 := eqS_yes (f := ofQ m F) (g := ofQ m F) fun _ _ => rfl
  have s3 := allS_yes (n := m) (F := F) (G := F) fun _ _ _ _ => rfl
  go_enter Try.func3, Try.ntmps3
  go_wp2_with fail
  refine CP.out.mono ?_
  rintro e w1 ⟨g1, c1, rfl, o1, hb1⟩
  go_wp2_with fail
  refine (CP2.out _ hb1).mono ?_
  rintro e w2 ⟨g2, c2, rfl, o2, hb2⟩
  obtain ⟨a1, d1⟩ := (OwnS.below o1 hb2 (Nat.le_refl _)).secs
  obtain ⟨a2, d2⟩ := o2.secs
  have hb := hb1.trans (hb2.mono hb1.size)
  have A1 := hid a1
  have A2 := hid a2
  clear a1 a2 o1 o2 hb1 hb2 CP CP2
  go_wp2_with fail
  refine (of_any (some ⟨g1, 0, none⟩) m c1 F HF.out (by omega) _ A1.out).mono ?_
  rintro e w3 ⟨rfl, hb3⟩
  go_upto_region 4 with (first | ((with_reducible apply stx); rfl; rfl; exact (Blk.top zlit rfl).alloc _) | ((with_reducible apply stx); rfl; rfl; exact (Blk.top zlit (by simp)).setRow_other (by omega) _))
  generalize hw4 : World.setRow (World.setRow (World.alloc (World.alloc w3 _) _) _ _) _ _ = w4
  have p1 : Blk w4 w3.heap.size 25 (sec (ofP m F)) := by rw [← hw4]; exact (((Blk.top zlit rfl).alloc _).setRow_same _).setRow_other (by omega) _
  have p2 : Blk w4 (w3.heap.size + 1) 25 (sec (ofQ m F)) := by rw [← hw4]; exact ((Blk.top zlit (by simp)).setRow_other (by omega) _).setRow_same _
  have hb4 : Below w2.heap.size w2 w4 := by rw [← hw4]; exact below_setRow (below_setRow ((hb3.alloc hb3.size _).alloc (by have := hb3.size; simp; omega) _) hb3.size _) (by have := hb3.size; omega) _
  have hz := hb3.size
  clear hw4 hb3
  go_wp2_with fail
  refine (rof_any (some ⟨g2, 0, none⟩) m c2 F HF.out (by omega) _ ((A2.out.below hb4 (Nat.le_refl _)).more hb4.size)).mono ?_
  rintro e w5 ⟨rfl, hb5⟩
  have p1 := p1.below hb5 p1.lt
  have p2 := p2.below hb5 p2.lt
  have l1 := p1.lt
  have l2 := p2.lt
  have hb6 := hb4.trans (hb5.mono hb4.size)
  clear hb5 hb4
  go_upto_region 5 with (first | ((with_reducible apply stx); rfl; rfl; exact (Blk.top zlit rfl).alloc _) | ((with_reducible apply stx); rfl; rfl; exact (Blk.top zlit (by simp)).setRow_other (by omega) _))
  generalize hw4 : World.setRow (World.setRow (World.alloc (World.alloc w5 _) _) _ _) _ _ = w6
  have p1 : Blk w6 w3.heap.size 25 (sec (ofP m F)) := by rw [← hw4]; exact (((p1.alloc _).alloc _).setRow_other (by omega) _).setRow_other (by omega) _
  have p2 : Blk w6 (w3.heap.size + 1) 25 (sec (ofQ m F)) := by rw [← hw4]; exact (((p2.alloc _).alloc _).setRow_other (by omega) _).setRow_other (by omega) _
  have p3 : Blk w6 w5.heap.size 25 (sec (ofP m F)) := by rw [← hw4]; exact (((Blk.top zlit rfl).alloc _).setRow_same _).setRow_other (by omega) _
  have p4 : Blk w6 (w5.heap.size + 1) 25 (sec (ofQ m F)) := by rw [← hw4]; exact ((Blk.top zlit (by simp)).setRow_other (by omega) _).setRow_same _
  have hb6 : Below w2.heap.size w2 w6 := by rw [← hw4]; exact below_setRow (below_setRow ((hb6.alloc hb6.size _).alloc (by have := hb6.size; simp; omega) _) hb6.size _) (by have := hb6.size; omega) _
  clear hw4
  go_wp2_with fail
  refine (right_any (some ⟨g1, 0, none⟩) m c1 F HF.out (by omega) d1 _ ((A1.out.below hb6 (Nat.le_refl _)).more hb6.size)).mono ?_
  rintro e w7 ⟨rfl, hb7⟩
  have p1 := p1.below hb7 p1.lt
  have p2 := p2.below hb7 p2.lt
  have p3 := p3.below hb7 p3.lt
  have p4 := p4.below hb7 p4.lt
  have hb7 := hb6.trans (hb7.mono hb6.size)
  clear hb6
  go_wp2_with ((with_reducible apply ldg); rfl; rfl; assumption)
  refine (rright_any (some ⟨g2, 0, none⟩) m c2 F HF.out (by omega) d2 _ ((A2.out.below hb7 (Nat.le_refl _)).more hb7.size)).mono ?_
  rintro e w8 ⟨rfl, hb8⟩
  have hb8 := hb7.trans (hb8.mono hb7.size)
  clear hb7 p1 p2 p3 p4
  go_wp2_with fail
  refine (rsame_any (some ⟨g1, 0, none⟩) (some ⟨g2, 0, none⟩) m c1 c2 F F (by omega) _ ((A1.out.below hb8 (Nat.le_refl _)).more hb8.size) ((A2.out.below hb8 (Nat.le_refl _)).more hb8.size)).mono ?_
  rintro e w9 ⟨rfl, k, rfl⟩
  rw [s3]
  go_wp2_with fail
  refine (works_any _).mono ?_
  rintro e w10 ⟨rfl, hb10⟩
  go_wp2_with fail
  go_ret
  exact ⟨rfl, hb.trans (((below_drewN hb8 k).trans (hb10.mono (below_drewN hb8 k).size)).mono hb.size)⟩

set_option maxRecDepth 100000 in
theorem lifted (os : Os) (started : os.Started) (H : Type) (enc : TypeId × Value → H) :
    ReturnsInHanded {} Try.checked os 3 .any (Rows.parityOfSpec.pre6 enc Try.prog Try.f3 Rows.parityOfRow.domain false) (Rows.parityOfSpec.post enc Try.prog Try.f3 false true false false) := by
  refine returnsInHanded_of_change (C := Try.checked) own started (by kernel_rfl) Try.func3
    (ChangeSpec.witness6 (enc := enc) (C := Try.checked) false ⟨#[], #[.slice none 0 0], []⟩ 8 (by kernel_rfl) (by kernel_rfl) (by kernel_rfl) (by kernel_rfl)) ?_
  intro W base args ds gs before hval0 hW hcnd _
  have hval : ∀ (j : Nat) t v, Try.f3.params[j]? = some t → args[j]? = some v → Value.okWide Try.prog W .any base t v := hval0
  have hW' := hW
  obtain ⟨p, q, hA0, hV, rfl, hfz, hnd⟩ := hW
  have hA : DataW.TrodAll enc Try.prog W 0 (fun _ => true) true Try.f3.params.toList args.toList ds p := hA0
  rw [Try.params3] at hA hval
  obtain ⟨v0, vs0, d0, ds0, p0, q0, hargs, rfl, rfl, h0, r0⟩ := trodAll_cons hA
  obtain ⟨rfl, rfl, rfl⟩ := trodAll_nil r0
  obtain rfl : args = #[v0] := by cases args; simp_all
  obtain ⟨rfl, rfl⟩ := trodVars_none hV
  have k0 := h0
  have lt0 : ∀ x ∈ p0, x.block < W.heap.size := by obtain ⟨m, hm⟩ := k0; exact DataW.trod_lt m _ _ _ hm
  clear hA0 hval0
  refine (walk (hval 0 22 v0 rfl rfl) h0 lt0).mono fun e W' ⟨he, bel⟩ => ?_
  subst he
  exact ⟨_, rfl, _, _, _, [], _, [], hW', trodAll_mk1 (shut_bool Try.underlying4 _), (trodAll_cons_mk (Below.trod laidOut (by kernel_rfl) (of_decide_eq_true (by kernel_rfl)) k0 bel lt0) trodAll_mk0), rfl, bel.frame _, fun h => by cases h⟩

theorem over : Rows.parityOfRow.holds Try.pinned (OpenSpec.ofChange Rows.parityOfSpec) :=
  OpenClaim.holds_of_wide 3 Try.f3 rfl rfl rfl rfl rfl rfl rfl ⟨rfl, rfl, rfl, rfl, rfl⟩ rfl rfl rfl rfl rfl (by kernel_rfl) Try.func3 (by kernel_rfl)
    (of_decide_eq_true (by kernel_rfl)) (by unfold Func.isWrapper; first | (rw [if_pos (by decide +kernel)]; kernel_rfl) | (rw [if_neg (by decide +kernel)]; exact ⟨rfl, rfl⟩))
    (fun os started H enc _ => lifted os started H enc)

theorem proved : Rows.ParityOfSaid :=
  over
end Go.Proofs.Ytlpdjhhpndedhaa.parityOf
