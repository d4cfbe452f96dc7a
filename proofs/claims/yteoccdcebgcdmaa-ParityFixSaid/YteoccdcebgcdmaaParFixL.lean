/-
  P2.3, the walk of the law: what is lost is brought back as the document says.
-/
import Derived.Test.YteoccdcebgcdmaaParFixW
import Derived.Test.YteoccdcebgcdmaaParFixV
import Derived.Test.YteoccdcebgcdmaaParTold
namespace Go.Proofs.Yteoccdcebgcdmaa
open Go.ChangeShapes Go.WideShapes Go.ChangeAt Go.RowKit
attribute [local go_sem] Gives
def FixLaw (W : World) (e : Ending) (w' : World) : Prop := e = .returned (.bool true) ∧ Below W.heap.size W w'
set_option maxRecDepth 100000 in
theorem fixlaw_nil (N n cap : Nat) (l' : List Int) (F : Nat → Nat → Nat) (hF : ∀ i k, F i k < 256) (hl0 : l'.length = 0) (hN : N ≤ 70) (W : World) (A : Option Addr) (HC : Hid (∀ w, Below W.heap.size W w → Calls Try.prog 10 #[.slice A n cap] w (SomeOwn w N F))) (HI : Hid (∀ w, Below W.heap.size W w → IntL w w.heap.size none l')) :
    Calls Try.prog 4 #[.slice A n cap, .slice none 0 0] W (FixLaw W) := by
  rcases fix_both N 0 l' F hF hl0 (by omega) hN with ⟨E, hP, hQ⟩ | ⟨G, H, hAL, hP, hQ⟩
  · go_enter Try.func4, Try.ntmps4
    go_wp2_with fail
    refine (HC.out W (Below.refl _ _)).mono ?_
    rintro e w1 ⟨g1, c1, rfl, o1, b1⟩
    have O1 := hid o1
    have B1 := hid b1
    clear o1 b1
    have I1 := hid (HI.out w1 B1.out)
    have S1 := hid (OwnS.secs O1.out).1
    go_wp2_with fail
    refine (hP (some ⟨g1, 0, none⟩) _ c1 _ w1 I1.out).mono ?_
    rintro e w2 ⟨rfl, b2⟩
    have B2 := hid (B1.out.trans (b2.mono B1.out.size))
    have O2 := hid (OwnS.below O1.out b2 (Nat.le_refl _))
    clear b2 O1 S1 I1 B1
    go_wp2_with fail
    refine (HC.out w2 B2.out).mono ?_
    rintro e w3 ⟨g3, c3, rfl, o3, b3⟩
    have B3 := hid (B2.out.trans (b3.mono B2.out.size))
    have O3 := hid (OwnS.below O2.out b3 (Nat.le_refl _))
    have I3 := hid (HI.out w3 B3.out)
    have S3 := hid (OwnS.secs o3).1
    clear o3 b3 O2 B2
    go_wp2_with fail
    refine (hQ (some ⟨g3, 0, none⟩) _ c3 _ w3 I3.out).mono ?_
    rintro e w4 ⟨rfl, b4⟩
    have B4 := hid (B3.out.trans (b4.mono B3.out.size))
    have O4 := hid (OwnS.below O3.out b4 (Nat.le_refl _))
    clear b4 O3 S3 I3 B3
    go_wp2_with fail
    refine (rsame_any none none 0 0 0 F F (by omega) w4 (fun h => absurd h (by omega)) (fun h => absurd h (by omega))).mono ?_
    rintro e w5 ⟨rfl, q5, rfl⟩
    rw [allS_yes fun i _ k _ => rfl]
    have d5 := below_drewN (Below.refl w4.heap.size w4) q5
    have B5 := hid (B4.out.trans (d5.mono B4.out.size))
    have O5 := hid (OwnS.below O4.out d5 (Nat.le_refl _))
    revert B5 O5
    generalize w4.drewN q5 = w5
    intro B5 O5
    clear d5 O4 B4
    go_wp2_with fail
    refine (HC.out w5 B5.out).mono ?_
    rintro e w6 ⟨g6, c6, rfl, o6, b6⟩
    have B6 := hid (B5.out.trans (b6.mono B5.out.size))
    have O6 := hid (OwnS.below O5.out b6 (Nat.le_refl _))
    have S6 := hid (OwnS.secs O6.out).1
    have T6 := hid (OwnS.secs o6).1
    clear o6 b6 O5 B5
    go_wp2_with fail
    refine (rsame_any (some ⟨g1, 0, none⟩) (some ⟨g6, 0, none⟩) N c1 c6 F F (by omega) w6 S6.out T6.out).mono ?_
    rintro e w7 ⟨rfl, q7, rfl⟩
    rw [allS_yes fun i _ k _ => rfl]
    have B7 := hid (B6.out.trans ((below_drewN (Below.refl w6.heap.size w6) q7).mono B6.out.size))
    revert B7
    generalize w6.drewN q7 = w7
    intro B7
    go_wp2_with fail
    refine (works_any _).mono ?_
    rintro e w8 ⟨rfl, b8⟩
    have B8 := B7.out.trans (b8.mono B7.out.size)
    go_wp2_with fail
    go_ret
    exact ⟨rfl, B8⟩
  · go_enter Try.func4, Try.ntmps4
    go_wp2_with fail
    refine (HC.out W (Below.refl _ _)).mono ?_
    rintro e w1 ⟨g1, c1, rfl, o1, b1⟩
    have O1 := hid o1
    have B1 := hid b1
    clear o1 b1
    have I1 := hid (HI.out w1 B1.out)
    have S1 := hid (OwnS.secs O1.out).1
    go_wp2_with fail
    refine (hP (some ⟨g1, 0, none⟩) _ c1 _ w1 I1.out S1.out).mono ?_
    rintro e w2 ⟨p, cp, rfl, op, b2⟩
    have B2 := hid (B1.out.trans (b2.mono B1.out.size))
    have O2 := hid (OwnS.below O1.out b2 (Nat.le_refl _))
    have P2 := hid op
    clear b2 O1 S1 I1 B1
    go_wp2_with fail
    refine (HC.out w2 B2.out).mono ?_
    rintro e w3 ⟨g3, c3, rfl, o3, b3⟩
    have B3 := hid (B2.out.trans (b3.mono B2.out.size))
    have O3 := hid (OwnS.below O2.out b3 (Nat.le_refl _))
    have P3 := hid (OwnS.below P2.out b3 (Nat.le_refl _))
    have I3 := hid (HI.out w3 B3.out)
    have S3 := hid (OwnS.secs o3).1
    clear o3 b3 O2 B2
    go_wp2_with fail
    refine (hQ (some ⟨g3, 0, none⟩) _ c3 _ w3 I3.out S3.out).mono ?_
    rintro e w4 ⟨q, cq, rfl, oq, b4⟩
    have B4 := hid (B3.out.trans (b4.mono B3.out.size))
    have O4 := hid (OwnS.below O3.out b4 (Nat.le_refl _))
    have P4 := hid (OwnS.secs (OwnS.below P3.out b4 (Nat.le_refl _))).1
    have Q4 := hid (OwnS.secs oq).1
    clear b4 O3 S3 I3 B3
    go_wp2_with fail
    refine (rsame_any (some ⟨p, 0, none⟩) (some ⟨q, 0, none⟩) N cp cq G H (by omega) w4 P4.out Q4.out).mono ?_
    rintro e w5 ⟨rfl, q5, rfl⟩
    rw [hAL]
    have d5 := below_drewN (Below.refl w4.heap.size w4) q5
    have B5 := hid (B4.out.trans (d5.mono B4.out.size))
    have O5 := hid (OwnS.below O4.out d5 (Nat.le_refl _))
    revert B5 O5
    generalize w4.drewN q5 = w5
    intro B5 O5
    clear d5 O4 B4
    go_wp2_with fail
    refine (HC.out w5 B5.out).mono ?_
    rintro e w6 ⟨g6, c6, rfl, o6, b6⟩
    have B6 := hid (B5.out.trans (b6.mono B5.out.size))
    have O6 := hid (OwnS.below O5.out b6 (Nat.le_refl _))
    have S6 := hid (OwnS.secs O6.out).1
    have T6 := hid (OwnS.secs o6).1
    clear o6 b6 O5 B5
    go_wp2_with fail
    refine (rsame_any (some ⟨g1, 0, none⟩) (some ⟨g6, 0, none⟩) N c1 c6 F F (by omega) w6 S6.out T6.out).mono ?_
    rintro e w7 ⟨rfl, q7, rfl⟩
    rw [allS_yes fun i _ k _ => rfl]
    have B7 := hid (B6.out.trans ((below_drewN (Below.refl w6.heap.size w6) q7).mono B6.out.size))
    revert B7
    generalize w6.drewN q7 = w7
    intro B7
    go_wp2_with fail
    refine (works_any _).mono ?_
    rintro e w8 ⟨rfl, b8⟩
    have B8 := B7.out.trans (b8.mono B7.out.size)
    go_wp2_with fail
    go_ret
    exact ⟨rfl, B8⟩

set_option maxRecDepth 100000 in
theorem fixlaw_few (N J n cap c : Nat) (l' : List Int) (F : Nat → Nat → Nat) (hF : ∀ i k, F i k < 256) (hlJ : l'.length = J) (hJ5 : J ≤ 5) (hN : N ≤ 70) (W : World) (A : Option Addr) (HC : Hid (∀ w, Below W.heap.size W w → Calls Try.prog 10 #[.slice A n cap] w (SomeOwn w N F))) (b o : Nat) (sp : _) (hJc : J ≤ c) (hcm : c ≤ maxLen) (HI : Hid (∀ w, Below W.heap.size W w → IntL w w.heap.size (some ⟨b, o, sp⟩) l')) :
    Calls Try.prog 4 #[.slice A n cap, .slice (some ⟨b, o, sp⟩) J c] W (FixLaw W) := by
  unfold maxLen at hcm
  have tm : ((5 : Int) < (J : Int)) = False := by simp; omega
  have tm2 : decide ((5 : Int) < (J : Int)) = false := by simp; omega
  rcases fix_both N J l' F hF hlJ hJ5 hN with ⟨E, hP, hQ⟩ | ⟨G, H, hAL, hP, hQ⟩
  · go_enter Try.func4, Try.ntmps4
    go_wp2_with fail
    refine (HC.out W (Below.refl _ _)).mono ?_
    rintro e w1 ⟨g1, c1, rfl, o1, b1⟩
    have O1 := hid o1
    have B1 := hid b1
    clear o1 b1
    have I1 := hid (HI.out w1 B1.out)
    have S1 := hid (OwnS.secs O1.out).1
    go_wp2_with fail
    refine (hP (some ⟨g1, 0, none⟩) _ c1 _ w1 I1.out).mono ?_
    rintro e w2 ⟨rfl, b2⟩
    have B2 := hid (B1.out.trans (b2.mono B1.out.size))
    have O2 := hid (OwnS.below O1.out b2 (Nat.le_refl _))
    clear b2 O1 S1 I1 B1
    go_wp2_with fail
    refine (HC.out w2 B2.out).mono ?_
    rintro e w3 ⟨g3, c3, rfl, o3, b3⟩
    have B3 := hid (B2.out.trans (b3.mono B2.out.size))
    have O3 := hid (OwnS.below O2.out b3 (Nat.le_refl _))
    have I3 := hid (HI.out w3 B3.out)
    have S3 := hid (OwnS.secs o3).1
    clear o3 b3 O2 B2
    go_wp2_with fail
    refine (hQ (some ⟨g3, 0, none⟩) _ c3 _ w3 I3.out).mono ?_
    rintro e w4 ⟨rfl, b4⟩
    have B4 := hid (B3.out.trans (b4.mono B3.out.size))
    have O4 := hid (OwnS.below O3.out b4 (Nat.le_refl _))
    clear b4 O3 S3 I3 B3
    go_wp2_with fail
    refine (rsame_any none none 0 0 0 F F (by omega) w4 (fun h => absurd h (by omega)) (fun h => absurd h (by omega))).mono ?_
    rintro e w5 ⟨rfl, q5, rfl⟩
    rw [allS_yes fun i _ k _ => rfl]
    have d5 := below_drewN (Below.refl w4.heap.size w4) q5
    have B5 := hid (B4.out.trans (d5.mono B4.out.size))
    have O5 := hid (OwnS.below O4.out d5 (Nat.le_refl _))
    revert B5 O5
    generalize w4.drewN q5 = w5
    intro B5 O5
    clear d5 O4 B4
    go_wp2_with fail
    refine (HC.out w5 B5.out).mono ?_
    rintro e w6 ⟨g6, c6, rfl, o6, b6⟩
    have B6 := hid (B5.out.trans (b6.mono B5.out.size))
    have O6 := hid (OwnS.below O5.out b6 (Nat.le_refl _))
    have S6 := hid (OwnS.secs O6.out).1
    have T6 := hid (OwnS.secs o6).1
    clear o6 b6 O5 B5
    go_wp2_with fail
    refine (rsame_any (some ⟨g1, 0, none⟩) (some ⟨g6, 0, none⟩) N c1 c6 F F (by omega) w6 S6.out T6.out).mono ?_
    rintro e w7 ⟨rfl, q7, rfl⟩
    rw [allS_yes fun i _ k _ => rfl]
    have B7 := hid (B6.out.trans ((below_drewN (Below.refl w6.heap.size w6) q7).mono B6.out.size))
    revert B7
    generalize w6.drewN q7 = w7
    intro B7
    go_wp2_with fail
    refine (works_any _).mono ?_
    rintro e w8 ⟨rfl, b8⟩
    have B8 := B7.out.trans (b8.mono B7.out.size)
    go_wp2_with fail
    go_ret
    exact ⟨rfl, B8⟩
  · go_enter Try.func4, Try.ntmps4
    go_wp2_with fail
    refine (HC.out W (Below.refl _ _)).mono ?_
    rintro e w1 ⟨g1, c1, rfl, o1, b1⟩
    have O1 := hid o1
    have B1 := hid b1
    clear o1 b1
    have I1 := hid (HI.out w1 B1.out)
    have S1 := hid (OwnS.secs O1.out).1
    go_wp2_with fail
    refine (hP (some ⟨g1, 0, none⟩) _ c1 _ w1 I1.out S1.out).mono ?_
    rintro e w2 ⟨p, cp, rfl, op, b2⟩
    have B2 := hid (B1.out.trans (b2.mono B1.out.size))
    have O2 := hid (OwnS.below O1.out b2 (Nat.le_refl _))
    have P2 := hid op
    clear b2 O1 S1 I1 B1
    go_wp2_with fail
    refine (HC.out w2 B2.out).mono ?_
    rintro e w3 ⟨g3, c3, rfl, o3, b3⟩
    have B3 := hid (B2.out.trans (b3.mono B2.out.size))
    have O3 := hid (OwnS.below O2.out b3 (Nat.le_refl _))
    have P3 := hid (OwnS.below P2.out b3 (Nat.le_refl _))
    have I3 := hid (HI.out w3 B3.out)
    have S3 := hid (OwnS.secs o3).1
    clear o3 b3 O2 B2
    go_wp2_with fail
    refine (hQ (some ⟨g3, 0, none⟩) _ c3 _ w3 I3.out S3.out).mono ?_
    rintro e w4 ⟨q, cq, rfl, oq, b4⟩
    have B4 := hid (B3.out.trans (b4.mono B3.out.size))
    have O4 := hid (OwnS.below O3.out b4 (Nat.le_refl _))
    have P4 := hid (OwnS.secs (OwnS.below P3.out b4 (Nat.le_refl _))).1
    have Q4 := hid (OwnS.secs oq).1
    clear b4 O3 S3 I3 B3
    go_wp2_with fail
    refine (rsame_any (some ⟨p, 0, none⟩) (some ⟨q, 0, none⟩) N cp cq G H (by omega) w4 P4.out Q4.out).mono ?_
    rintro e w5 ⟨rfl, q5, rfl⟩
    rw [hAL]
    have d5 := below_drewN (Below.refl w4.heap.size w4) q5
    have B5 := hid (B4.out.trans (d5.mono B4.out.size))
    have O5 := hid (OwnS.below O4.out d5 (Nat.le_refl _))
    revert B5 O5
    generalize w4.drewN q5 = w5
    intro B5 O5
    clear d5 O4 B4
    go_wp2_with fail
    refine (HC.out w5 B5.out).mono ?_
    rintro e w6 ⟨g6, c6, rfl, o6, b6⟩
    have B6 := hid (B5.out.trans (b6.mono B5.out.size))
    have O6 := hid (OwnS.below O5.out b6 (Nat.le_refl _))
    have S6 := hid (OwnS.secs O6.out).1
    have T6 := hid (OwnS.secs o6).1
    clear o6 b6 O5 B5
    go_wp2_with fail
    refine (rsame_any (some ⟨g1, 0, none⟩) (some ⟨g6, 0, none⟩) N c1 c6 F F (by omega) w6 S6.out T6.out).mono ?_
    rintro e w7 ⟨rfl, q7, rfl⟩
    rw [allS_yes fun i _ k _ => rfl]
    have B7 := hid (B6.out.trans ((below_drewN (Below.refl w6.heap.size w6) q7).mono B6.out.size))
    revert B7
    generalize w6.drewN q7 = w7
    intro B7
    go_wp2_with fail
    refine (works_any _).mono ?_
    rintro e w8 ⟨rfl, b8⟩
    have B8 := B7.out.trans (b8.mono B7.out.size)
    go_wp2_with fail
    go_ret
    exact ⟨rfl, B8⟩
set_option maxRecDepth 100000 in
theorem fixlaw_many (N J n cap c : Nat) (l' : List Int) (F : Nat → Nat → Nat) (hF : ∀ i k, F i k < 256) (hlJ : l'.length = 5) (hJ5 : 5 < J) (hN : N ≤ 70) (W : World) (A : Option Addr) (HC : Hid (∀ w, Below W.heap.size W w → Calls Try.prog 10 #[.slice A n cap] w (SomeOwn w N F))) (b o : Nat) (sp : _) (hJc : J ≤ c) (hcm : c ≤ maxLen) (HI : Hid (∀ w, Below W.heap.size W w → IntL w w.heap.size (some ⟨b, o, sp⟩) l')) :
    Calls Try.prog 4 #[.slice A n cap, .slice (some ⟨b, o, sp⟩) J c] W (FixLaw W) := by
  unfold maxLen at hcm
  have tm : ((5 : Int) < (J : Int)) = True := by simp; omega
  have tm2 : decide ((5 : Int) < (J : Int)) = true := by simp; omega
  rcases fix_both N 5 l' F hF hlJ (by omega) hN with ⟨E, hP, hQ⟩ | ⟨G, H, hAL, hP, hQ⟩
  · go_enter Try.func4, Try.ntmps4
    go_wp2_with fail
    refine (HC.out W (Below.refl _ _)).mono ?_
    rintro e w1 ⟨g1, c1, rfl, o1, b1⟩
    have O1 := hid o1
    have B1 := hid b1
    clear o1 b1
    have I1 := hid (HI.out w1 B1.out)
    have S1 := hid (OwnS.secs O1.out).1
    go_wp2_with fail
    refine (hP (some ⟨g1, 0, none⟩) _ c1 _ w1 I1.out).mono ?_
    rintro e w2 ⟨rfl, b2⟩
    have B2 := hid (B1.out.trans (b2.mono B1.out.size))
    have O2 := hid (OwnS.below O1.out b2 (Nat.le_refl _))
    clear b2 O1 S1 I1 B1
    go_wp2_with fail
    refine (HC.out w2 B2.out).mono ?_
    rintro e w3 ⟨g3, c3, rfl, o3, b3⟩
    have B3 := hid (B2.out.trans (b3.mono B2.out.size))
    have O3 := hid (OwnS.below O2.out b3 (Nat.le_refl _))
    have I3 := hid (HI.out w3 B3.out)
    have S3 := hid (OwnS.secs o3).1
    clear o3 b3 O2 B2
    go_wp2_with fail
    refine (hQ (some ⟨g3, 0, none⟩) _ c3 _ w3 I3.out).mono ?_
    rintro e w4 ⟨rfl, b4⟩
    have B4 := hid (B3.out.trans (b4.mono B3.out.size))
    have O4 := hid (OwnS.below O3.out b4 (Nat.le_refl _))
    clear b4 O3 S3 I3 B3
    go_wp2_with fail
    refine (rsame_any none none 0 0 0 F F (by omega) w4 (fun h => absurd h (by omega)) (fun h => absurd h (by omega))).mono ?_
    rintro e w5 ⟨rfl, q5, rfl⟩
    rw [allS_yes fun i _ k _ => rfl]
    have d5 := below_drewN (Below.refl w4.heap.size w4) q5
    have B5 := hid (B4.out.trans (d5.mono B4.out.size))
    have O5 := hid (OwnS.below O4.out d5 (Nat.le_refl _))
    revert B5 O5
    generalize w4.drewN q5 = w5
    intro B5 O5
    clear d5 O4 B4
    go_wp2_with fail
    refine (HC.out w5 B5.out).mono ?_
    rintro e w6 ⟨g6, c6, rfl, o6, b6⟩
    have B6 := hid (B5.out.trans (b6.mono B5.out.size))
    have O6 := hid (OwnS.below O5.out b6 (Nat.le_refl _))
    have S6 := hid (OwnS.secs O6.out).1
    have T6 := hid (OwnS.secs o6).1
    clear o6 b6 O5 B5
    go_wp2_with fail
    refine (rsame_any (some ⟨g1, 0, none⟩) (some ⟨g6, 0, none⟩) N c1 c6 F F (by omega) w6 S6.out T6.out).mono ?_
    rintro e w7 ⟨rfl, q7, rfl⟩
    rw [allS_yes fun i _ k _ => rfl]
    have B7 := hid (B6.out.trans ((below_drewN (Below.refl w6.heap.size w6) q7).mono B6.out.size))
    revert B7
    generalize w6.drewN q7 = w7
    intro B7
    go_wp2_with fail
    refine (works_any _).mono ?_
    rintro e w8 ⟨rfl, b8⟩
    have B8 := B7.out.trans (b8.mono B7.out.size)
    go_wp2_with fail
    go_ret
    exact ⟨rfl, B8⟩
  · go_enter Try.func4, Try.ntmps4
    go_wp2_with fail
    refine (HC.out W (Below.refl _ _)).mono ?_
    rintro e w1 ⟨g1, c1, rfl, o1, b1⟩
    have O1 := hid o1
    have B1 := hid b1
    clear o1 b1
    have I1 := hid (HI.out w1 B1.out)
    have S1 := hid (OwnS.secs O1.out).1
    go_wp2_with fail
    refine (hP (some ⟨g1, 0, none⟩) _ c1 _ w1 I1.out S1.out).mono ?_
    rintro e w2 ⟨p, cp, rfl, op, b2⟩
    have B2 := hid (B1.out.trans (b2.mono B1.out.size))
    have O2 := hid (OwnS.below O1.out b2 (Nat.le_refl _))
    have P2 := hid op
    clear b2 O1 S1 I1 B1
    go_wp2_with fail
    refine (HC.out w2 B2.out).mono ?_
    rintro e w3 ⟨g3, c3, rfl, o3, b3⟩
    have B3 := hid (B2.out.trans (b3.mono B2.out.size))
    have O3 := hid (OwnS.below O2.out b3 (Nat.le_refl _))
    have P3 := hid (OwnS.below P2.out b3 (Nat.le_refl _))
    have I3 := hid (HI.out w3 B3.out)
    have S3 := hid (OwnS.secs o3).1
    clear o3 b3 O2 B2
    go_wp2_with fail
    refine (hQ (some ⟨g3, 0, none⟩) _ c3 _ w3 I3.out S3.out).mono ?_
    rintro e w4 ⟨q, cq, rfl, oq, b4⟩
    have B4 := hid (B3.out.trans (b4.mono B3.out.size))
    have O4 := hid (OwnS.below O3.out b4 (Nat.le_refl _))
    have P4 := hid (OwnS.secs (OwnS.below P3.out b4 (Nat.le_refl _))).1
    have Q4 := hid (OwnS.secs oq).1
    clear b4 O3 S3 I3 B3
    go_wp2_with fail
    refine (rsame_any (some ⟨p, 0, none⟩) (some ⟨q, 0, none⟩) N cp cq G H (by omega) w4 P4.out Q4.out).mono ?_
    rintro e w5 ⟨rfl, q5, rfl⟩
    rw [hAL]
    have d5 := below_drewN (Below.refl w4.heap.size w4) q5
    have B5 := hid (B4.out.trans (d5.mono B4.out.size))
    have O5 := hid (OwnS.below O4.out d5 (Nat.le_refl _))
    revert B5 O5
    generalize w4.drewN q5 = w5
    intro B5 O5
    clear d5 O4 B4
    go_wp2_with fail
    refine (HC.out w5 B5.out).mono ?_
    rintro e w6 ⟨g6, c6, rfl, o6, b6⟩
    have B6 := hid (B5.out.trans (b6.mono B5.out.size))
    have O6 := hid (OwnS.below O5.out b6 (Nat.le_refl _))
    have S6 := hid (OwnS.secs O6.out).1
    have T6 := hid (OwnS.secs o6).1
    clear o6 b6 O5 B5
    go_wp2_with fail
    refine (rsame_any (some ⟨g1, 0, none⟩) (some ⟨g6, 0, none⟩) N c1 c6 F F (by omega) w6 S6.out T6.out).mono ?_
    rintro e w7 ⟨rfl, q7, rfl⟩
    rw [allS_yes fun i _ k _ => rfl]
    have B7 := hid (B6.out.trans ((below_drewN (Below.refl w6.heap.size w6) q7).mono B6.out.size))
    revert B7
    generalize w6.drewN q7 = w7
    intro B7
    go_wp2_with fail
    refine (works_any _).mono ?_
    rintro e w8 ⟨rfl, b8⟩
    have B8 := B7.out.trans (b8.mono B7.out.size)
    go_wp2_with fail
    go_ret
    exact ⟨rfl, B8⟩
theorem fix_law (A A' : Option Addr) (n cap k c : Nat) (l : List Int) (F : Nat → Nat → Nat) (hF : ∀ i k, F i k < 256) (hnc : n ≤ cap) (hcm : cap ≤ maxLen) (hA : A = none → n = 0 ∧ cap = 0) (hl : l.length = k) (hkc : k ≤ c) (hcm2 : c ≤ maxLen) (hA' : A' = none → k = 0 ∧ c = 0)
    (W : World) (hs : Secs W W.heap.size A n F) (ht : IntL W W.heap.size A' l) :
    Calls Try.prog 4 #[.slice A n cap, .slice A' k c] W (FixLaw W) := by
  have HC := hid (show ∀ w, Below W.heap.size W w → Calls Try.prog 10 #[.slice A n cap] w (SomeOwn w (min n 70) F) from fun w hb => copied_any A n cap F hA hnc hcm w ((hs.below hb (Nat.le_refl _)).more hb.size))
  have HI : ∀ w, Below W.heap.size W w → IntL w w.heap.size A' l := fun w hb => Ints.more (Ints.below ht hb (Nat.le_refl _)) hb.size
  have hN : min n 70 ≤ 70 := Nat.min_le_right _ _
  cases A' with
  | none =>
    obtain ⟨rfl, rfl⟩ := hA' rfl
    exact fixlaw_nil _ n cap l F hF hl hN W A HC (hid HI)
  | some a =>
    obtain ⟨b, o, sp⟩ := a
    by_cases h5 : k ≤ 5
    · exact fixlaw_few _ k n cap c l F hF hl h5 hN W A HC b o sp hkc hcm2 (hid HI)
    · exact fixlaw_many _ k n cap c (l.take 5) F hF (by rw [List.length_take]; omega) (by omega) hN W A HC b o sp hkc hcm2 (hid fun w hb => IntL.take (HI w hb))
end Go.Proofs.Yteoccdcebgcdmaa
