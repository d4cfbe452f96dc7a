/-
  The document's way to mend, a column at a time (no text of the program).
-/
import Derived.Test.YteoccdcebgcdmaaFixMath
import Derived.Test.YteoccdcebgcdmaaRefFixA
import Derived.Test.YteoccdcebgcdmaaParTold
namespace Go.Proofs.Yteoccdcebgcdmaa
open Go.ChangeShapes Go.WideShapes Go.ChangeAt Go.RowKit
/-- Every lost column emptied, the parities too. -/
def zal (M : Nat → Bool) (F : Nat → Nat → Nat) : Nat → Nat → Nat := fun i => if M i = true then fun _ => 0 else F i
theorem zal_lt {M : Nat → Bool} {F : Nat → Nat → Nat} (hF : ∀ i k, F i k < 256) : ∀ i k, zal M F i k < 256 := fun i k => by
  unfold zal
  split
  · exact Nat.zero_lt_succ _
  · exact hF i k
theorem zal_data {m i : Nat} {M : Nat → Bool} {F : Nat → Nat → Nat} (h : i < m) : zal M F i = zeroed m M F i := by unfold zal zeroed; simp [h]
theorem zal_not {i : Nat} {M : Nat → Bool} {F : Nat → Nat → Nat} (h : M i = false) : zal M F i = F i := by unfold zal; simp [h]
theorem mk_snoc {l : List Int} {x j : Nat} : mk (l ++ [(x : Int)]) j = (mk l j || decide (j = x)) := by
  rw [Bool.eq_iff_iff, Bool.or_eq_true, mk_iff, mk_iff, List.mem_append, List.mem_singleton, decide_eq_true_eq]
  constructor
  · rintro (h | h)
    · exact .inl h
    · exact .inr (by omega)
  · rintro (h | h)
    · exact .inl h
    · exact .inr (by omega)
theorem zal_nil {F : Nat → Nat → Nat} : zal (mk []) F = F := by
  funext i
  exact zal_not (by cases h : mk [] i with | false => rfl | true => exact absurd (mk_iff.1 h) (by simp))
/-- One lost column more is emptied. -/
theorem zal_snoc {l : List Int} {x : Nat} {F : Nat → Nat → Nat} : zal (mk (l ++ [(x : Int)])) F = upd (zal (mk l) F) x fun _ => 0 := by
  funext i
  unfold zal upd
  rw [mk_snoc]
  by_cases h : i = x
  · simp [h]
  · simp [h]
/-- Whether P's column is among them. -/
theorem withP_snoc {l : List Int} {x m : Nat} : mk (l ++ [(x : Int)]) m = if mk l m = true then true else decide ((x : Int) = (m : Int)) := by
  rw [mk_snoc]
  cases mk l m with
  | true => simp
  | false => simp only [Bool.false_or, if_neg (by simp : ¬ false = true)]; rw [decide_eq_decide]; omega
/-- What stands behind t columns: the data mended there. -/
def mid (m t : Nat) (M : Nat → Bool) (F : Nat → Nat → Nat) : Nat → Nat → Nat := fun i k => if i < m ∧ k < t then mendD m M F i k else zal M F i k
theorem mid_lt {m t : Nat} {M : Nat → Bool} {F : Nat → Nat → Nat} (hF : ∀ i k, F i k < 256) : ∀ i k, mid m t M F i k < 256 := fun i k => by
  unfold mid
  split
  · exact mendD_lt hF i k
  · exact zal_lt hF i k
theorem mid_zero {m : Nat} {M : Nat → Bool} {F : Nat → Nat → Nat} : mid m 0 M F = zal M F := by funext i k; unfold mid; simp
theorem mid_P {m t : Nat} {M : Nat → Bool} {F : Nat → Nat → Nat} : PP (mid m t M F) m t = PP (zeroed m M F) m t :=
  PP_same m fun i hi => by unfold mid; simp [zal_data hi]
theorem mid_Q {m t : Nat} {M : Nat → Bool} {F : Nat → Nat → Nat} : QQ (mid m t M F) m t = QQ (zeroed m M F) m t :=
  QQ_same m fun i hi => by unfold mid; simp [zal_data hi]
theorem mid_out {m t i : Nat} {M : Nat → Bool} {F : Nat → Nat → Nat} (h : m ≤ i) : mid m t M F i = zal M F i := by funext k; unfold mid; rw [if_neg (by omega)]
/-- The two sums that the document takes of column t. -/
theorem mid_mis {m t : Nat} {M : Nat → Bool} {F : Nat → Nat → Nat} (h : M m = false) : mid m t M F m t ^^^ PP (mid m t M F) m t = mis m M F t := by
  rw [mid_P, mid_out (Nat.le_refl _), zal_not h, Nat.xor_comm]; rfl
theorem mid_wei {m t : Nat} {M : Nat → Bool} {F : Nat → Nat → Nat} (h : M (m + 1) = false) : mid m t M F (m + 1) t ^^^ QQ (mid m t M F) m t = wei m M F t := by
  rw [mid_Q, mid_out (Nat.le_succ _), zal_not h, Nat.xor_comm]; rfl
theorem mid_step0 {m t : Nat} {M : Nat → Bool} {F : Nat → Nat → Nat} (h : gapsL m M = []) : mid m (t + 1) M F = mid m t M F := by
  funext i k
  unfold mid
  by_cases hi : i < m
  · have e : mendD m M F i k = zal M F i k := by unfold mendD; rw [h, zal_data hi]
    rw [e]; simp
  · simp [hi]
theorem mid_step1 {m t x v : Nat} {M : Nat → Bool} {F : Nat → Nat → Nat} (h : gapsL m M = [x]) (hv : v = mendD m M F x t) : mid m (t + 1) M F = upd2 (mid m t M F) x t v := by
  have hx : x < m := (gaps_mem.1 (show x ∈ gapsL m M by rw [h]; simp)).1
  funext i k
  unfold upd2 mid
  by_cases hi : i < m
  · by_cases hk : k < t
    · rw [if_pos ⟨hi, by omega⟩, if_neg (by omega), if_pos ⟨hi, hk⟩]
    · by_cases hkt : k = t
      · subst hkt
        rw [if_pos ⟨hi, by omega⟩]
        by_cases hix : i = x
        · subst hix; rw [if_pos ⟨rfl, rfl⟩, hv]
        · rw [if_neg (by omega), if_neg (by omega), zal_data hi]
          unfold mendD
          rw [h]
          show upd _ _ _ i k = _
          rw [upd_ne hix]
      · rw [if_neg (by omega), if_neg (by omega), if_neg (by omega)]
  · rw [if_neg (by omega), if_neg (by omega), if_neg (by omega)]
theorem mid_step2 {m t x y a b : Nat} {M : Nat → Bool} {F : Nat → Nat → Nat} (h : gapsL m M = [x, y]) (ha : a = mendD m M F x t) (hb : b = mendD m M F y t) :
    mid m (t + 1) M F = upd2 (upd2 (mid m t M F) x t a) y t b := by
  funext i k
  unfold upd2 mid
  have hx : x < m := (gaps_mem.1 (show x ∈ gapsL m M by rw [h]; simp)).1
  have hy : y < m := (gaps_mem.1 (show y ∈ gapsL m M by rw [h]; simp)).1
  by_cases hi : i < m
  · by_cases hk : k < t
    · rw [if_pos ⟨hi, by omega⟩, if_neg (by omega), if_neg (by omega), if_pos ⟨hi, hk⟩]
    · by_cases hkt : k = t
      · subst hkt
        rw [if_pos ⟨hi, by omega⟩]
        by_cases hiy : i = y
        · subst hiy; rw [if_pos ⟨rfl, rfl⟩, hb]
        · rw [if_neg (by omega)]
          by_cases hix : i = x
          · subst hix; rw [if_pos ⟨rfl, rfl⟩, ha]
          · rw [if_neg (by omega), if_neg (by omega), zal_data hi]
            unfold mendD
            rw [h]
            show upd (upd _ _ _) _ _ i k = _
            rw [upd_ne hiy, upd_ne hix]
      · rw [if_neg (by omega), if_neg (by omega), if_neg (by omega), if_neg (by omega)]
  · rw [if_neg (by omega), if_neg (by omega), if_neg (by omega), if_neg (by omega)]
/-- The bytes of the three cases. -/
theorem one_P {m x t : Nat} {M : Nat → Bool} {F : Nat → Nat → Nat} (h : gapsL m M = [x]) (hP : M m = true) : mendD m M F x t = sing x (wei m M F t) := by
  unfold mendD
  rw [h]
  show upd _ _ _ x t = _
  rw [upd_self, if_pos hP]; rfl
theorem one_D {m x t : Nat} {M : Nat → Bool} {F : Nat → Nat → Nat} (h : gapsL m M = [x]) (hP : M m = false) : mendD m M F x t = mis m M F t := by
  unfold mendD
  rw [h]
  show upd _ _ _ x t = _
  rw [upd_self, if_neg (by rw [hP]; simp)]
theorem two_D {m x y t : Nat} {M : Nat → Bool} {F : Nat → Nat → Nat} (h : gapsL m M = [x, y]) (hxy : x ≠ y) :
    mendD m M F x t = pairX x y (mis m M F t) (wei m M F t) ∧ mendD m M F y t = pairX x y (mis m M F t) (wei m M F t) ^^^ mis m M F t := by
  unfold mendD
  rw [h]
  constructor
  · show upd (upd _ _ _) _ _ x t = _
    rw [upd_ne hxy, upd_self]; rfl
  · show upd (upd _ _ _) _ _ y t = _
    rw [upd_self]
    show _ ^^^ twoX x y _ _ t = _
    rw [Nat.xor_comm]; rfl
theorem mid_all {m i : Nat} {M : Nat → Bool} {F : Nat → Nat → Nat} (hi : i < m) {k : Nat} (hk : k < 64) : mid m 64 M F i k = mendD m M F i k := by unfold mid; rw [if_pos ⟨hi, hk⟩]
/-- The parities of the mended row are those of what the document has mended. -/
theorem fin_same {m i k : Nat} {M : Nat → Bool} {F : Nat → Nat → Nat} (hi : i < m + 2) (hk : k < 64) : mendP m M (mid m 64 M F) i k = mendP m M (mendD m M F) i k := by
  have hP : PP (mid m 64 M F) m k = PP (mendD m M F) m k := PP_same m fun j hj => mid_all hj hk
  have hQ : QQ (mid m 64 M F) m k = QQ (mendD m M F) m k := QQ_same m fun j hj => mid_all hj hk
  by_cases h : i < m
  · have := mid_all (M := M) (F := F) h hk
    unfold mendP
    simp only [show ¬ i = m by omega, show ¬ i = m + 1 by omega, false_and, if_false]
    exact this
  · have e1 : mid m 64 M F i = zal M F i := mid_out (by omega)
    have e2 : mendD m M F i = F i := mendD_out (by omega)
    rcases (by omega : i = m ∨ i = m + 1) with rfl | rfl
    · cases hM : M i with
      | true => unfold mendP; simp [hM, hP]
      | false => unfold mendP; simp [hM, e1, e2, zal_not hM]
    · cases hM : M (m + 1) with
      | true => unfold mendP; simp [hM, hQ]
      | false => unfold mendP; simp [hM, e1, e2, zal_not hM]
end Go.Proofs.Yteoccdcebgcdmaa
