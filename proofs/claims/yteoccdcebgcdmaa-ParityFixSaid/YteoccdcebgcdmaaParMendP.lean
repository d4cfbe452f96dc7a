/-
  The contract of parity.mendParities.
-/
import Derived.Test.YteoccdcebgcdmaaParMend
namespace Go.Proofs.Yteoccdcebgcdmaa
open Go.ChangeShapes Go.WideShapes Go.ChangeAt Go.RowKit
attribute [local go_sem] Gives
set_option maxRecDepth 100000 in
theorem mendP_false_false (B g m cap h : Nat) (F : Nat → Nat → Nat) (M : Nat → Bool) (hF : ∀ i k, F i k < 256) (h2 : m ≤ 62) (w : World) (ho : OwnS w B (.slice (some ⟨g, 0, none⟩) (m + 2) cap) (m + 2) F)
    (hM : Blk w h 72 (row 64 fun j => .bool (M j))) (eP : M m = false) (eQ : M (m + 1) = false) :
    Calls Try.prog 34 #[.slice (some ⟨g, 0, none⟩) (m + 2) cap, .func (.func 44) #[] #[.pointer (some ⟨h, 0, none⟩)]] w (MendPost w B g (m + 2) cap h (mendP m M F) M) := by
  have HF := hid hF
  have HO := hid ho
  have HM := hid hM
  obtain ⟨hg1, hg2, hg3⟩ := own_lt ho
  have hne := own_ne ho hM (by decide)
  have hh := hM.lt
  have HS : RowKit.Hid (Secs w w.heap.size (some ⟨g, 0, none⟩) m F) := hid fun _ => ⟨g, 0, rfl, hg1, fun i hi => own_range ho (by omega)⟩
  have HN : RowKit.Hid (mendP m M F = F) := hid (by funext i; unfold mendP; simp [eP, eQ])
  clear hF ho hM
  go_enter Try.func34, Try.ntmps34
  go_wp2_with fail
  refine (places_any (some ⟨g, 0, none⟩) m cap (by omega) _).mono ?_
  rintro e w' ⟨rfl, rfl⟩
  go_wp2_with fail
  refine (lost_any h m M (by omega) _ HM.out).mono ?_
  rintro e w' ⟨rfl, rfl⟩
  rw [eP]
  go_wp2_with fail
  refine (lost_succ h m M (by omega) _ HM.out).mono ?_
  rintro e w' ⟨rfl, rfl⟩
  rw [eQ]
  go_wp2_with fail
  refine bodyPost_ret (results_none Try.results34 _ _ _) rfl ?_
  exact ⟨rfl, by rw [HN.out]; exact HO.out, HM.out, only_refl _ _⟩
set_option maxRecDepth 100000 in
theorem mendP_false_true (B g m cap h : Nat) (F : Nat → Nat → Nat) (M : Nat → Bool) (hF : ∀ i k, F i k < 256) (h2 : m ≤ 62) (w : World) (ho : OwnS w B (.slice (some ⟨g, 0, none⟩) (m + 2) cap) (m + 2) F)
    (hM : Blk w h 72 (row 64 fun j => .bool (M j))) (eP : M m = false) (eQ : M (m + 1) = true) :
    Calls Try.prog 34 #[.slice (some ⟨g, 0, none⟩) (m + 2) cap, .func (.func 44) #[] #[.pointer (some ⟨h, 0, none⟩)]] w (MendPost w B g (m + 2) cap h (mendP m M F) M) := by
  have HF := hid hF
  have HO := hid ho
  have HM := hid hM
  obtain ⟨hg1, hg2, hg3⟩ := own_lt ho
  have hne := own_ne ho hM (by decide)
  have hh := hM.lt
  have HS : RowKit.Hid (Secs w w.heap.size (some ⟨g, 0, none⟩) m F) := hid fun _ => ⟨g, 0, rfl, hg1, fun i hi => own_range ho (by omega)⟩
  have HN : RowKit.Hid (∀ i k, i < m + 2 → k < 64 → mendP m M F i k = upd F (m + 1) (QQ F m) i k) := hid fun i k _ _ => by
    unfold mendP upd
    by_cases e1 : i = m
    · subst e1; simp [eP, eQ]
    · by_cases e2 : i = m + 1
      · subst e2; simp [eP, eQ]
      · simp [e1, e2]
  clear hF ho hM
  go_enter Try.func34, Try.ntmps34
  go_wp2_with fail
  refine (places_any (some ⟨g, 0, none⟩) m cap (by omega) _).mono ?_
  rintro e w' ⟨rfl, rfl⟩
  go_wp2_with fail
  refine (lost_any h m M (by omega) _ HM.out).mono ?_
  rintro e w' ⟨rfl, rfl⟩
  rw [eP]
  go_wp2_with fail
  refine (lost_succ h m M (by omega) _ HM.out).mono ?_
  rintro e w' ⟨rfl, rfl⟩
  rw [eQ]
  go_wp2_with fail
  refine (sums_any (some ⟨g, 0, none⟩) m cap F HF.out (by omega) _ HS.out).mono ?_
  rintro e w4 ⟨rfl, hb⟩
  have hs4 := hb.size
  have o4 := HO.out.below hb (Nat.le_refl _)
  have m4 := HM.out.below hb hh
  go_upto_region 3 with (first | ((with_reducible apply stx); rfl; rfl; exact (Blk.top zlit rfl).alloc _) | ((with_reducible apply stx); rfl; rfl; exact (Blk.top zlit (by simp)).setRow_other (by omega) _))
  generalize hw5 : World.setRow (World.setRow (World.alloc (World.alloc w4 _) _) _ _) _ _ = w5
  have p1 : Blk w5 w4.heap.size 25 (sec (PP F m)) := by rw [← hw5]; exact (((Blk.top zlit rfl).alloc _).setRow_same _).setRow_other (by omega) _
  have p2 : Blk w5 (w4.heap.size + 1) 25 (sec (QQ F m)) := by rw [← hw5]; exact ((Blk.top zlit (by simp)).setRow_other (by omega) _).setRow_same _
  have hc : Below w4.heap.size w4 w5 := by rw [← hw5]; exact below_setRow (below_setRow (((Below.refl _ _).alloc (Nat.le_refl _) _).alloc (by simp) _) (Nat.le_refl _) _) (by omega) _
  have o5 := HID (OwnS.below o4 hc (Nat.le_refl _))
  have m5 := m4.below hc m4.lt
  have g5 : w.grownBy w5 (some g) := only_below (only_refl w g) (hb.trans (hc.mono hs4)) (Nat.le_refl _)
  clear hw5 hc hb o4 m4
  go_wp2_with fail
  refine (lost_any h m M (by omega) _ m5).mono ?_
  rintro e w' ⟨rfl, rfl⟩
  rw [eP]
  go_wp2_with fail
  refine (lost_succ h m M (by omega) _ m5).mono ?_
  rintro e w' ⟨rfl, rfl⟩
  rw [eQ]
  have tm : (m : Int) + 1 < (m : Int) + 2 := by omega
  go_wp2_with (first | ((with_reducible apply ld); rfl; exact p2) | ((with_reducible apply sto (i := m + 1)); (simp only [Nat.zero_add]; rfl); rfl; exact o5.out; omega; intro w7 o7 g7))
  have m5 := m5.only g7 hne
  have g5 := only_trans g5 g7
  have o5 := HID o7
  clear o7 g7 tm
  go_wp2_with fail
  refine bodyPost_end (results_none Try.results34 _ _ _) rfl ?_
  exact ⟨rfl, o5.out.mono HN.out, m5, g5⟩
set_option maxRecDepth 100000 in
theorem mendP_true_false (B g m cap h : Nat) (F : Nat → Nat → Nat) (M : Nat → Bool) (hF : ∀ i k, F i k < 256) (h2 : m ≤ 62) (w : World) (ho : OwnS w B (.slice (some ⟨g, 0, none⟩) (m + 2) cap) (m + 2) F)
    (hM : Blk w h 72 (row 64 fun j => .bool (M j))) (eP : M m = true) (eQ : M (m + 1) = false) :
    Calls Try.prog 34 #[.slice (some ⟨g, 0, none⟩) (m + 2) cap, .func (.func 44) #[] #[.pointer (some ⟨h, 0, none⟩)]] w (MendPost w B g (m + 2) cap h (mendP m M F) M) := by
  have HF := hid hF
  have HO := hid ho
  have HM := hid hM
  obtain ⟨hg1, hg2, hg3⟩ := own_lt ho
  have hne := own_ne ho hM (by decide)
  have hh := hM.lt
  have HS : RowKit.Hid (Secs w w.heap.size (some ⟨g, 0, none⟩) m F) := hid fun _ => ⟨g, 0, rfl, hg1, fun i hi => own_range ho (by omega)⟩
  have HN : RowKit.Hid (∀ i k, i < m + 2 → k < 64 → mendP m M F i k = upd F m (PP F m) i k) := hid fun i k _ _ => by
    unfold mendP upd
    by_cases e1 : i = m
    · subst e1; simp [eP, eQ]
    · by_cases e2 : i = m + 1
      · subst e2; simp [eP, eQ]
      · simp [e1, e2]
  clear hF ho hM
  go_enter Try.func34, Try.ntmps34
  go_wp2_with fail
  refine (places_any (some ⟨g, 0, none⟩) m cap (by omega) _).mono ?_
  rintro e w' ⟨rfl, rfl⟩
  go_wp2_with fail
  refine (lost_any h m M (by omega) _ HM.out).mono ?_
  rintro e w' ⟨rfl, rfl⟩
  rw [eP]
  go_wp2_with fail
  refine (sums_any (some ⟨g, 0, none⟩) m cap F HF.out (by omega) _ HS.out).mono ?_
  rintro e w4 ⟨rfl, hb⟩
  have hs4 := hb.size
  have o4 := HO.out.below hb (Nat.le_refl _)
  have m4 := HM.out.below hb hh
  go_upto_region 3 with (first | ((with_reducible apply stx); rfl; rfl; exact (Blk.top zlit rfl).alloc _) | ((with_reducible apply stx); rfl; rfl; exact (Blk.top zlit (by simp)).setRow_other (by omega) _))
  generalize hw5 : World.setRow (World.setRow (World.alloc (World.alloc w4 _) _) _ _) _ _ = w5
  have p1 : Blk w5 w4.heap.size 25 (sec (PP F m)) := by rw [← hw5]; exact (((Blk.top zlit rfl).alloc _).setRow_same _).setRow_other (by omega) _
  have p2 : Blk w5 (w4.heap.size + 1) 25 (sec (QQ F m)) := by rw [← hw5]; exact ((Blk.top zlit (by simp)).setRow_other (by omega) _).setRow_same _
  have hc : Below w4.heap.size w4 w5 := by rw [← hw5]; exact below_setRow (below_setRow (((Below.refl _ _).alloc (Nat.le_refl _) _).alloc (by simp) _) (Nat.le_refl _) _) (by omega) _
  have o5 := HID (OwnS.below o4 hc (Nat.le_refl _))
  have m5 := m4.below hc m4.lt
  have g5 : w.grownBy w5 (some g) := only_below (only_refl w g) (hb.trans (hc.mono hs4)) (Nat.le_refl _)
  clear hw5 hc hb o4 m4
  go_wp2_with fail
  refine (lost_any h m M (by omega) _ m5).mono ?_
  rintro e w' ⟨rfl, rfl⟩
  rw [eP]
  have tm : (m : Int) < (m : Int) + 2 := by omega
  go_upto_region 5 with (first | ((with_reducible apply ld); rfl; exact p1) | ((with_reducible apply sto (i := m)); (simp only [Nat.zero_add]; rfl); rfl; exact o5.out; omega; intro w6 o6 g6))
  have p1 := p1.only g6 (by omega)
  have p2 := p2.only g6 (by omega)
  have m5 := m5.only g6 hne
  have g5 := only_trans g5 g6
  have o5 := HID o6
  clear o6 g6 tm
  go_wp2_with fail
  refine (lost_succ h m M (by omega) _ m5).mono ?_
  rintro e w' ⟨rfl, rfl⟩
  rw [eQ]
  go_wp2_with fail
  refine bodyPost_end (results_none Try.results34 _ _ _) rfl ?_
  exact ⟨rfl, o5.out.mono HN.out, m5, g5⟩
set_option maxRecDepth 100000 in
theorem mendP_true_true (B g m cap h : Nat) (F : Nat → Nat → Nat) (M : Nat → Bool) (hF : ∀ i k, F i k < 256) (h2 : m ≤ 62) (w : World) (ho : OwnS w B (.slice (some ⟨g, 0, none⟩) (m + 2) cap) (m + 2) F)
    (hM : Blk w h 72 (row 64 fun j => .bool (M j))) (eP : M m = true) (eQ : M (m + 1) = true) :
    Calls Try.prog 34 #[.slice (some ⟨g, 0, none⟩) (m + 2) cap, .func (.func 44) #[] #[.pointer (some ⟨h, 0, none⟩)]] w (MendPost w B g (m + 2) cap h (mendP m M F) M) := by
  have HF := hid hF
  have HO := hid ho
  have HM := hid hM
  obtain ⟨hg1, hg2, hg3⟩ := own_lt ho
  have hne := own_ne ho hM (by decide)
  have hh := hM.lt
  have HS : RowKit.Hid (Secs w w.heap.size (some ⟨g, 0, none⟩) m F) := hid fun _ => ⟨g, 0, rfl, hg1, fun i hi => own_range ho (by omega)⟩
  have HN : RowKit.Hid (∀ i k, i < m + 2 → k < 64 → mendP m M F i k = upd (upd F m (PP F m)) (m + 1) (QQ F m) i k) := hid fun i k _ _ => by
    unfold mendP upd
    by_cases e1 : i = m
    · subst e1; simp [eP, eQ]
    · by_cases e2 : i = m + 1
      · subst e2; simp [eP, eQ]
      · simp [e1, e2]
  clear hF ho hM
  go_enter Try.func34, Try.ntmps34
  go_wp2_with fail
  refine (places_any (some ⟨g, 0, none⟩) m cap (by omega) _).mono ?_
  rintro e w' ⟨rfl, rfl⟩
  go_wp2_with fail
  refine (lost_any h m M (by omega) _ HM.out).mono ?_
  rintro e w' ⟨rfl, rfl⟩
  rw [eP]
  go_wp2_with fail
  refine (sums_any (some ⟨g, 0, none⟩) m cap F HF.out (by omega) _ HS.out).mono ?_
  rintro e w4 ⟨rfl, hb⟩
  have hs4 := hb.size
  have o4 := HO.out.below hb (Nat.le_refl _)
  have m4 := HM.out.below hb hh
  go_upto_region 3 with (first | ((with_reducible apply stx); rfl; rfl; exact (Blk.top zlit rfl).alloc _) | ((with_reducible apply stx); rfl; rfl; exact (Blk.top zlit (by simp)).setRow_other (by omega) _))
  generalize hw5 : World.setRow (World.setRow (World.alloc (World.alloc w4 _) _) _ _) _ _ = w5
  have p1 : Blk w5 w4.heap.size 25 (sec (PP F m)) := by rw [← hw5]; exact (((Blk.top zlit rfl).alloc _).setRow_same _).setRow_other (by omega) _
  have p2 : Blk w5 (w4.heap.size + 1) 25 (sec (QQ F m)) := by rw [← hw5]; exact ((Blk.top zlit (by simp)).setRow_other (by omega) _).setRow_same _
  have hc : Below w4.heap.size w4 w5 := by rw [← hw5]; exact below_setRow (below_setRow (((Below.refl _ _).alloc (Nat.le_refl _) _).alloc (by simp) _) (Nat.le_refl _) _) (by omega) _
  have o5 := HID (OwnS.below o4 hc (Nat.le_refl _))
  have m5 := m4.below hc m4.lt
  have g5 : w.grownBy w5 (some g) := only_below (only_refl w g) (hb.trans (hc.mono hs4)) (Nat.le_refl _)
  clear hw5 hc hb o4 m4
  go_wp2_with fail
  refine (lost_any h m M (by omega) _ m5).mono ?_
  rintro e w' ⟨rfl, rfl⟩
  rw [eP]
  have tm : (m : Int) < (m : Int) + 2 := by omega
  go_upto_region 5 with (first | ((with_reducible apply ld); rfl; exact p1) | ((with_reducible apply sto (i := m)); (simp only [Nat.zero_add]; rfl); rfl; exact o5.out; omega; intro w6 o6 g6))
  have p1 := p1.only g6 (by omega)
  have p2 := p2.only g6 (by omega)
  have m5 := m5.only g6 hne
  have g5 := only_trans g5 g6
  have o5 := HID o6
  clear o6 g6 tm
  go_wp2_with fail
  refine (lost_succ h m M (by omega) _ m5).mono ?_
  rintro e w' ⟨rfl, rfl⟩
  rw [eQ]
  have tm : (m : Int) + 1 < (m : Int) + 2 := by omega
  go_wp2_with (first | ((with_reducible apply ld); rfl; exact p2) | ((with_reducible apply sto (i := m + 1)); (simp only [Nat.zero_add]; rfl); rfl; exact o5.out; omega; intro w7 o7 g7))
  have m5 := m5.only g7 hne
  have g5 := only_trans g5 g7
  have o5 := HID o7
  clear o7 g7 tm
  go_wp2_with fail
  refine bodyPost_end (results_none Try.results34 _ _ _) rfl ?_
  exact ⟨rfl, o5.out.mono HN.out, m5, g5⟩
theorem mendP_any (B g m cap h : Nat) (F : Nat → Nat → Nat) (M : Nat → Bool) (hF : ∀ i k, F i k < 256) (h2 : m ≤ 62) (w : World) (ho : OwnS w B (.slice (some ⟨g, 0, none⟩) (m + 2) cap) (m + 2) F)
    (hM : Blk w h 72 (row 64 fun j => .bool (M j))) :
    Calls Try.prog 34 #[.slice (some ⟨g, 0, none⟩) (m + 2) cap, .func (.func 44) #[] #[.pointer (some ⟨h, 0, none⟩)]] w (MendPost w B g (m + 2) cap h (mendP m M F) M) := by
  cases eP : M m with
  | false =>
    cases eQ : M (m + 1) with
    | false => exact mendP_false_false B g m cap h F M hF h2 w ho hM eP eQ
    | true => exact mendP_false_true B g m cap h F M hF h2 w ho hM eP eQ
  | true =>
    cases eQ : M (m + 1) with
    | false => exact mendP_true_false B g m cap h F M hF h2 w ho hM eP eQ
    | true => exact mendP_true_true B g m cap h F M hF h2 w ho hM eP eQ
end Go.Proofs.Yteoccdcebgcdmaa
