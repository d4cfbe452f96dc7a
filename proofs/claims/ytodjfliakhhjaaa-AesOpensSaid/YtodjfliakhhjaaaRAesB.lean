/-
  Contract of casemateref07.Boxes; slices of words of the call's own.
-/
import Derived.Test.YtodjfliakhhjaaaRAesA
import Derived.Test.YtodjfliakhhjaaaAesK
import Derived.Test.YtodjfliakhhjaaaOwnP
import Derived.Test.YtodjfliakhhjaaaEltB
import Derived.Deep.Cut
namespace Go.Proofs.Ytodjfliakhhjaaa
open Go.ChangeShapes Go.WideShapes Go.ChangeAt Go.RowKit
open AesM (Bt tab)
attribute [local go_sem] Gives
theorem OwnP.below {w w' : World} {B : Nat} {v : Value} {cs : List Value} (h : OwnP w B v cs) (hb : Below w.heap.size w w') : OwnP w' B v cs := by
  refine ⟨h.1, ?_⟩
  rcases h.2 with h' | ⟨g, cap, cur, hv, hB, hg, hr⟩
  · exact .inl h'
  · exact .inr ⟨g, cap, cur, hv, hB, (hb.block g (Blk.lt (t := 55) (cs := cur) hg)).trans hg, hr⟩
theorem OwnP.alloc {w : World} {B : Nat} {v : Value} {cs : List Value} (h : OwnP w B v cs) (o : Obj) : OwnP (w.alloc o) B v cs := h.below ((Below.refl _ _).alloc (Nat.le_refl _) _)
theorem OwnP.ownGe {w : World} {B : Nat} {v : Value} {cs : List Value} (h : OwnP w B v cs) {g : Nat} (e : v.ownBlock = some g) : B ≤ g := by
  rcases h.2 with ⟨rfl, _⟩ | ⟨g', cap, cur, rfl, hB, _⟩
  · cases e
  · cases e; exact hB
theorem below_grownP {B B' : Nat} {w0 w w' : World} {v : Value} {cs : List Value} (hb : Below B w0 w) (hg : w.grownBy w' v.ownBlock) (ho : OwnP w B' v cs) (hBB : B ≤ B') (hB : B ≤ w.heap.size) : Below B w0 w' := hb.grown hg hB fun _ e => Nat.le_trans hBB (ho.ownGe e)
namespace AesP
theorem tab_take {n k : Nat} {f : Nat → Nat} (h : k < n) : (tab n f).take (k + 1) = (tab n f).take k ++ [f k] := by
  have hl : k < (tab n f).length := by rw [AesM.length_tab]; exact h
  rw [List.take_succ_eq_append_getElem hl]
  congr 2
  simp [tab]
set_option maxRecDepth 100000 in
theorem boxes_any (w : World) :
    Calls Try.prog 17 #[] w fun e w' => ∃ g o cap, e = .returned (.slice (some ⟨g, o, none⟩) 256 cap) ∧ g < w'.heap.size ∧ w'.rangeAt g o (ar 256 AesM.boxF).toList ∧ Below w.heap.size w w' := by
  go_enter Try.func17, Try.ntmps17
  go_wp2_with fail
  go_loopw [1, 2] (fun u v wr => ∃ (i : Nat) (vo : Value), i ≤ 256 ∧ v = .int .i64 i ∧ u = vo ∧ Hid (Own 5 .u8 wr w.heap.size vo ((tab 256 AesM.boxF).take i)) ∧ Hid (Below w.heap.size w wr)) (fun _ v => fun _ => 256 - (intOf v).toNat)
  case atStart => exact ⟨0, _, by omega, rfl, rfl, hid Own.nil, hid (Below.refl _ _)⟩
  case round =>
    obtain ⟨i, vo, hi, rfl, rfl, ho, hb⟩ := hrel
    have hzw := hb.out.size
    by_cases hlt : i < 256
    · have ti : (i : Int) < 256 := by omega
      have HST := hid (tab_take (f := AesM.boxF) hlt)
      have HLEN := hid (show ((tab 256 AesM.boxF).take i).length = i by rw [List.length_take, AesM.length_tab]; omega)
      have e1 : IntKind.u8.wrap (i : Int) = (i : Int) := by rw [IntKind.wrap_u8]; omega
      have RB := hid fun w => rbox_any i hlt w
      generalize AesM.boxF i = x at *
      go_wp2_with fail
      refine (RB.out wr).mono ?_
      rintro e w' ⟨rfl, rfl⟩
      go_wp2_with (at_builtin; (with_reducible apply wappN eltB); rfl; rfl; exact ho.out.alloc _; exact nums_one (x := x) (B := wr.heap.size + 1) rfl (Nat.lt_succ_self _); rfl; (rw [HLEN.out]; omega); (simp; omega); intro v' w4 o4 g4)
      have b4 := below_grown (hb.out.alloc hzw (.cells #[.int .u8 (x : Nat)] 5)) g4 ho.out (Nat.le_refl _) (Nat.le_refl _)
      go_roundw
      case rel => exact ⟨i + 1, v', by omega, by go_num, rfl, hid (by rw [HST.out]; exact o4), hid b4⟩
      case measure => simp [intOf] <;> omega
    · obtain rfl : i = 256 := by omega
      have ho2 := ho.out
      rw [List.take_of_length_le (by rw [AesM.length_tab]; omega)] at ho2
      obtain ⟨A, cap, rfl, _, _, hn⟩ := ho2.any
      rw [AesM.length_tab]
      obtain ⟨b, o, rfl, hbl, hr⟩ := hn (by rw [AesM.length_tab]; omega)
      go_wp2_with fail
      go_ret
      refine ⟨b, o, cap, rfl, hbl, fun j v hv => ?_, hb.out⟩
      obtain ⟨h1, rfl⟩ := ar_list_get hv
      rw [hr j (by rw [AesM.length_tab]; exact h1), AesM.getD_tab h1]
/-- n words of the call's own. -/
def WS (w : World) (B : Nat) (v : Value) (L : Nat → Nat → Nat) (n : Nat) : Prop :=
  ∃ cs, OwnP w B v cs ∧ cs.length = n ∧ ∀ i, i < n → ∃ G, cs[i]? = some (.slice (some ⟨G, 0, none⟩) 4 4) ∧ Blk w G 5 (ar 4 (L i))
theorem WS.nil (w : World) (B : Nat) (L : Nat → Nat → Nat) : WS w B (.slice none 0 0) L 0 := ⟨[], OwnP.nil w B, rfl, fun i h => absurd h (by omega)⟩
theorem WS.below {w w' : World} {B n : Nat} {v : Value} {L : Nat → Nat → Nat} (h : WS w B v L n) (hb : Below w.heap.size w w') : WS w' B v L n := by
  obtain ⟨cs, h1, h2, h3⟩ := h
  exact ⟨cs, h1.below hb, h2, fun i hi => by obtain ⟨G, h4, h5⟩ := h3 i hi; exact ⟨G, h4, h5.below hb h5.lt⟩⟩
theorem WS.form {w : World} {B n : Nat} {v : Value} {L : Nat → Nat → Nat} (h : WS w B v L n) (hn : 0 < n) : ∃ g cap, v = .slice (some ⟨g, 0, none⟩) n cap ∧ g < w.heap.size ∧ ∀ i, i < n → ∃ G, w.cell? ⟨g, i, none⟩ = some (.slice (some ⟨G, 0, none⟩) 4 4) ∧ Blk w G 5 (ar 4 (L i)) := by
  obtain ⟨cs, h1, h2, h3⟩ := h
  rcases h1.2 with ⟨rfl, h0⟩ | ⟨g, cap, cur, rfl, hB, hg, hnc, hcm, hcs, ht⟩
  · omega
  · refine ⟨g, cap, by rw [h2], Blk.lt (t := 55) (cs := cur) hg, fun i hi => ?_⟩
    obtain ⟨G, h4, h5⟩ := h3 i hi
    refine ⟨G, ?_, h5⟩
    rw [cell_of_row w g i cur _ _ hg]
    rw [← ht, List.getElem?_take_of_lt (by omega), Array.getElem?_toList] at h4
    exact h4
theorem WS.snoc {w w' : World} {B n G : Nat} {v v' : Value} {L : Nat → Nat → Nat} {cs : List Value} (h1 : OwnP w B v cs) (h2 : cs.length = n) (h3 : ∀ i, i < n → ∃ G, cs[i]? = some (.slice (some ⟨G, 0, none⟩) 4 4) ∧ Blk w G 5 (ar 4 (L i)))
    (hG : Blk w G 5 (ar 4 (L n))) (ho : OwnP w' B v' (cs ++ [.slice (some ⟨G, 0, none⟩) 4 4])) (hg : w.grownBy w' v.ownBlock) : WS w' B v' L (n + 1) := by
  have keep : ∀ {k : Nat} {c : Array Value}, Blk w k 5 c → Blk w' k 5 c := fun {k c} hb => by
    refine hb.apart hg fun e => ?_
    rcases h1.2 with ⟨rfl, _⟩ | ⟨g, cap, cur, rfl, hB, hc, _⟩
    · cases e
    · cases e
      unfold Blk at hb
      rw [hc] at hb
      simp only [Option.some.injEq, Obj.cells.injEq] at hb
      exact absurd hb.2.1 (by decide)
  refine ⟨_, ho, by rw [List.length_append, h2]; rfl, fun i hi => ?_⟩
  by_cases e : i < n
  · obtain ⟨G', h4, h5⟩ := h3 i e
    exact ⟨G', by rw [List.getElem?_append_left (by omega)]; exact h4, keep h5⟩
  · obtain rfl : i = n := by omega
    exact ⟨G, by rw [List.getElem?_append_right (by omega), h2, Nat.sub_self]; rfl, keep hG⟩
end AesP
end Go.Proofs.Ytodjfliakhhjaaa
