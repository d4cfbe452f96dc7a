/-
  P2.3, the mathematics: two lost columns of a right row come back.
-/
import Derived.Test.YteoccdcebgcdmaaParRowL
namespace Go.Proofs.Yteoccdcebgcdmaa
theorem xrc (a b c : Nat) : (a ^^^ b) ^^^ c = (a ^^^ c) ^^^ b := by rw [Nat.xor_assoc, Nat.xor_comm b c, ← Nat.xor_assoc]
theorem xcan (a b : Nat) : (a ^^^ b) ^^^ b = a := by rw [Nat.xor_assoc, Nat.xor_self, Nat.xor_zero]
theorem xcan2 (a b : Nat) : (a ^^^ b) ^^^ a = b := by rw [xrc, Nat.xor_self, Nat.zero_xor]
theorem xcan3 (p b c : Nat) : ((p ^^^ b) ^^^ c) ^^^ p = b ^^^ c := by rw [xrc, xcan2]
theorem PP_same {Z F : Nat → Nat → Nat} {k : Nat} : ∀ m, (∀ i, i < m → Z i k = F i k) → PP Z m k = PP F m k
  | 0, _ => rfl
  | m + 1, h => by unfold PP; rw [PP_same m fun i hi => h i (by omega), h m (by omega)]
theorem QQ_same {Z F : Nat → Nat → Nat} {k : Nat} : ∀ m, (∀ i, i < m → Z i k = F i k) → QQ Z m k = QQ F m k
  | 0, _ => rfl
  | m + 1, h => by unfold QQ; rw [QQ_same m fun i hi => h i (by omega), h m (by omega)]
theorem PP_off {Z F : Nat → Nat → Nat} {k x : Nat} : ∀ m, x < m → (∀ i, i < m → i ≠ x → Z i k = F i k) → PP Z m k ^^^ Z x k = PP F m k ^^^ F x k
  | 0, h, _ => by omega
  | m + 1, h, he => by
    unfold PP
    by_cases e : x = m
    · subst e
      rw [xcan, xcan]
      exact PP_same x fun i hi => he i (by omega) (by omega)
    · rw [xrc, xrc _ (F m k), PP_off m (by omega) fun i hi hx => he i (by omega) hx, he m (by omega) (Ne.symm e)]
theorem QQ_off {Z F : Nat → Nat → Nat} {k x : Nat} : ∀ m, x < m → (∀ i, i < m → i ≠ x → Z i k = F i k) → QQ Z m k ^^^ GfM.mul (GfM.pw x) (Z x k) = QQ F m k ^^^ GfM.mul (GfM.pw x) (F x k)
  | 0, h, _ => by omega
  | m + 1, h, he => by
    unfold QQ
    by_cases e : x = m
    · subst e
      rw [xcan, xcan]
      exact QQ_same x fun i hi => he i (by omega) (by omega)
    · rw [xrc, xrc _ (GfM.mul (GfM.pw m) (F m k)), QQ_off m (by omega) fun i hi hx => he i (by omega) hx, he m (by omega) (Ne.symm e)]
theorem PP_one {Z F : Nat → Nat → Nat} {k x m : Nat} (hx : x < m) (h : ∀ i, i < m → i ≠ x → Z i k = F i k) (h0 : Z x k = 0) : PP Z m k = PP F m k ^^^ F x k := by
  have := PP_off m hx h
  rwa [h0, Nat.xor_zero] at this
theorem QQ_one {Z F : Nat → Nat → Nat} {k x m : Nat} (hx : x < m) (h : ∀ i, i < m → i ≠ x → Z i k = F i k) (h0 : Z x k = 0) : QQ Z m k = QQ F m k ^^^ GfM.mul (GfM.pw x) (F x k) := by
  have := QQ_off m hx h
  rwa [h0, GfM.mul_zero, Nat.xor_zero] at this
theorem PP_two {Z F : Nat → Nat → Nat} {k x y m : Nat} (hx : x < m) (hy : y < m) (hxy : x ≠ y) (h : ∀ i, i < m → i ≠ x → i ≠ y → Z i k = F i k) (h0 : Z x k = 0) (h1 : Z y k = 0) : PP Z m k = (PP F m k ^^^ F y k) ^^^ F x k := by
  have e1 := PP_one (Z := Z) (F := fun i => if i = x then F x else Z i) (k := k) hx (fun i _ hi => by simp [hi]) h0
  have e2 := PP_one (Z := fun i => if i = x then F x else Z i) (F := F) (k := k) (x := y) hy (fun i hi hiy => by
    by_cases e : i = x
    · subst e; simp
    · simp [e]; exact h i hi e hiy) (by simp [Ne.symm hxy, h1])
  rw [e1, e2]; simp
theorem QQ_two {Z F : Nat → Nat → Nat} {k x y m : Nat} (hx : x < m) (hy : y < m) (hxy : x ≠ y) (h : ∀ i, i < m → i ≠ x → i ≠ y → Z i k = F i k) (h0 : Z x k = 0) (h1 : Z y k = 0) :
    QQ Z m k = (QQ F m k ^^^ GfM.mul (GfM.pw y) (F y k)) ^^^ GfM.mul (GfM.pw x) (F x k) := by
  have e1 := QQ_one (Z := Z) (F := fun i => if i = x then F x else Z i) (k := k) hx (fun i _ hi => by simp [hi]) h0
  have e2 := QQ_one (Z := fun i => if i = x then F x else Z i) (F := F) (k := k) (x := y) hy (fun i hi hiy => by
    by_cases e : i = x
    · subst e; simp
    · simp [e]; exact h i hi e hiy) (by simp [Ne.symm hxy, h1])
  rw [e1, e2]; simp
/-! ### How many are lost -/
theorem cnt_list : ∀ l : List Nat, l.Nodup → (∀ x, x ∈ l → x < 64) → (List.range 64).countP (fun j => decide (j ∈ l)) = l.length
  | [], _, _ => by simp
  | x :: l, hn, h => by
    obtain ⟨h1, h2⟩ := List.nodup_cons.1 hn
    have ih := cnt_list l h2 fun y hy => h y (List.mem_cons_of_mem _ hy)
    have := countP_one (l := List.range 64) (i := x) (p := fun j => decide (j ∈ x :: l)) (q := fun j => decide (j ∈ l)) (by simp) (by simp [h1]) (fun j hj => by simp [hj]) List.nodup_range (List.mem_range.2 (h x (List.mem_cons_self ..)))
    rw [← this, ih]; rfl
theorem cnt_ge {M : Nat → Bool} (l : List Nat) (hn : l.Nodup) (h : ∀ x, x ∈ l → x < 64 ∧ M x = true) : l.length ≤ cntM M := by
  rw [← cnt_list l hn fun x hx => (h x hx).1]
  exact List.countP_mono_left fun x _ hx => (h x (by simpa using hx)).2
theorem cnt_le {M : Nat → Bool} (l : List Nat) (h : ∀ x, M x = true → x ∈ l) : cntM M ≤ l.length := by
  have : ∀ l : List Nat, (List.range 64).countP (fun j => decide (j ∈ l)) ≤ l.length := by
    intro l
    induction l with
    | nil => simp
    | cons x l ih =>
      by_cases hx : x ∈ l
      · refine Nat.le_trans (List.countP_mono_left fun y _ hy => ?_) (Nat.le_succ_of_le ih)
        simp at hy ⊢
        rcases hy with rfl | hy
        · exact hx
        · exact hy
      · by_cases h64 : x < 64
        · have := countP_one (l := List.range 64) (i := x) (p := fun j => decide (j ∈ x :: l)) (q := fun j => decide (j ∈ l)) (by simp) (by simp [hx]) (fun j hj => by simp [hj]) List.nodup_range (List.mem_range.2 h64)
          rw [← this]; simpa using ih
        · refine Nat.le_trans (List.countP_mono_left fun y hy1 hy => ?_) (Nat.le_succ_of_le ih)
          have := List.mem_range.1 hy1
          simp at hy ⊢
          rcases hy with rfl | hy
          · omega
          · exact hy
  exact Nat.le_trans (List.countP_mono_left fun x _ hx => by simpa using h x hx) (this l)
/-! ### They come back -/
theorem gaps_mem {m x : Nat} {M : Nat → Bool} : x ∈ gapsL m M ↔ x < m ∧ M x = true := by unfold gapsL; rw [List.mem_filter, List.mem_range]
theorem zeroed_at {m i : Nat} {M : Nat → Bool} {G : Nat → Nat → Nat} (h1 : i < m) (h2 : M i = true) (k : Nat) : zeroed m M G i k = 0 := by unfold zeroed; simp [h1, h2]
theorem zeroed_not {m i : Nat} {M : Nat → Bool} {G : Nat → Nat → Nat} (h2 : M i = false) : zeroed m M G i = G i := by unfold zeroed; simp [h2]
theorem single_back {x q : Nat} (hq : q < 256) : GfM.mul (pwI (-(x : Int))) (GfM.mul (GfM.pw x) q) = q := by
  rw [← GfM.mul_assoc (pwI_lt _) (GfM.pw_lt _) hq, ← pwI_nat, ← pwI_add]
  have : pwI (-(x : Int) + (x : Int)) = 1 := by rw [show -(x : Int) + (x : Int) = 0 by omega]; decide +kernel
  rw [this, GfM.one_mul hq]
theorem two_back {x y a b : Nat} (hx : x < 255) (hy : y < 255) (hxy : x ≠ y) (ha : a < 256) (hb : b < 256) :
    GfM.mul (GfM.inv (GfM.pw x ^^^ GfM.pw y)) ((GfM.mul (GfM.pw y) b ^^^ GfM.mul (GfM.pw x) a) ^^^ GfM.mul (GfM.pw y) (b ^^^ a)) = a := by
  have hl := GfM.xor_lt (GfM.pw_lt x) (GfM.pw_lt y)
  have e : (GfM.mul (GfM.pw y) b ^^^ GfM.mul (GfM.pw x) a) ^^^ GfM.mul (GfM.pw y) (b ^^^ a) = GfM.mul (GfM.pw x ^^^ GfM.pw y) a := by
    rw [GfM.mul_xor_right (b := b) (b' := a), ← Nat.xor_assoc, xcan2, GfM.mul_xor_left (GfM.pw_lt _) (GfM.pw_lt _)]
  rw [e, ← GfM.mul_assoc (GfM.inv_lt _) hl ha, GfM.inv_mul hl (pw_apart hx hy hxy), GfM.one_mul ha]
theorem back_data {m : Nat} {M : Nat → Bool} {F G : Nat → Nat → Nat} (h2 : m ≤ 62) (hF : ∀ i k, F i k < 256) (hc : cntM M ≤ 2) {k : Nat}
    (hG : ∀ i, i < m + 2 → M i = false → G i k = rowF m F i k) : ∀ i, i < m → mendD m M G i k = F i k := by
  have hrow : ∀ i, i < m → rowF m F i k = F i k := fun i hi => by unfold rowF; simp [hi]
  have hP : rowF m F m k = PP F m k := by unfold rowF; simp
  have hQ : rowF m F (m + 1) k = QQ F m k := by unfold rowF; simp [show ¬ m + 1 < m by omega]
  have hnd : (gapsL m M).Nodup := List.nodup_range.filter _
  have hmem : ∀ x, x ∈ gapsL m M ↔ x < m ∧ M x = true := fun x => gaps_mem
  have hlen : (gapsL m M).length ≤ 2 := Nat.le_trans (gaps_cnt h2) hc
  intro i hi
  unfold mendD
  revert hnd hmem hlen
  match gapsL m M with
  | [] =>
    intro _ hmem _
    have : M i = false := by
      cases e : M i with
      | false => rfl
      | true => exact absurd ((hmem i).2 ⟨hi, e⟩) (by simp)
    show zeroed m M G i k = _
    rw [zeroed_not this, hG i (by omega) this, hrow i hi]
  | [x] =>
    intro _ hmem _
    obtain ⟨hx, hMx⟩ := (hmem x).1 (List.mem_cons_self ..)
    have hoff : ∀ j, j < m → j ≠ x → M j = false := fun j hj hne => by
      cases e : M j with
      | false => rfl
      | true => exact absurd ((hmem j).2 ⟨hj, e⟩) (by simpa using hne)
    have hz : ∀ j, j < m → j ≠ x → zeroed m M G j k = F j k := fun j hj hne => by rw [zeroed_not (hoff j hj hne), hG j (by omega) (hoff j hj hne), hrow j hj]
    show upd (zeroed m M G) x _ i k = _
    by_cases e : i = x
    · subst e
      rw [upd_self]
      cases eM : M m with
      | false =>
        simp only [Bool.false_eq_true, if_false]
        unfold mis
        rw [PP_one hx hz (zeroed_at hx hMx k), hG m (by omega) eM, hP, xcan2]
      | true =>
        have eQ : M (m + 1) = false := by
          cases e : M (m + 1) with
          | false => rfl
          | true =>
            have := cnt_ge [i, m, m + 1] (by simp; omega) (fun z hz => by
              simp at hz
              rcases hz with rfl | rfl | rfl
              · exact ⟨by omega, hMx⟩
              · exact ⟨by omega, eM⟩
              · exact ⟨by omega, e⟩)
            simp at this; omega
        simp only [if_true]
        unfold wei
        rw [QQ_one hx hz (zeroed_at hx hMx k), hG (m + 1) (by omega) eQ, hQ, xcan2, single_back (hF i k)]
    · rw [upd_ne e, hz i hi e]
  | [x, y] =>
    intro hnd hmem _
    have hxy : x ≠ y := fun e => by subst e; simp at hnd
    obtain ⟨hx, hMx⟩ := (hmem x).1 (List.mem_cons_self ..)
    obtain ⟨hy, hMy⟩ := (hmem y).1 (by simp)
    have hoff : ∀ j, j < m → j ≠ x → j ≠ y → M j = false := fun j hj hne hne' => by
      cases e : M j with
      | false => rfl
      | true => exact absurd ((hmem j).2 ⟨hj, e⟩) (by simp; exact ⟨hne, hne'⟩)
    have hz : ∀ j, j < m → j ≠ x → j ≠ y → zeroed m M G j k = F j k := fun j hj hne hne' => by rw [zeroed_not (hoff j hj hne hne'), hG j (by omega) (hoff j hj hne hne'), hrow j hj]
    have hno : ∀ j, m ≤ j → j < m + 2 → M j = false := fun j h1 h3 => by
      cases e : M j with
      | false => rfl
      | true =>
        have := cnt_ge [x, y, j] (by simp; omega) (fun z hz => by
          simp at hz
          rcases hz with rfl | rfl | rfl
          · exact ⟨by omega, hMx⟩
          · exact ⟨by omega, hMy⟩
          · exact ⟨by omega, e⟩)
        simp at this; omega
    have em : mis m M G k = F y k ^^^ F x k := by
      unfold mis
      rw [PP_two hx hy hxy hz (zeroed_at hx hMx k) (zeroed_at hy hMy k), hG m (by omega) (hno m (by omega) (by omega)), hP, xcan3]
    have ew : wei m M G k = GfM.mul (GfM.pw y) (F y k) ^^^ GfM.mul (GfM.pw x) (F x k) := by
      unfold wei
      rw [QQ_two hx hy hxy hz (zeroed_at hx hMx k) (zeroed_at hy hMy k), hG (m + 1) (by omega) (hno (m + 1) (by omega) (by omega)), hQ, xcan3]
    have eX : twoX x y (mis m M G) (wei m M G) k = F x k := by
      unfold twoX
      rw [em, ew, two_back (by omega) (by omega) hxy (hF x k) (hF y k)]
    show upd (upd (zeroed m M G) x _) y _ i k = _
    by_cases e : i = y
    · subst e
      rw [upd_self]
      unfold twoY
      rw [eX, em, xcan]
    · rw [upd_ne e]
      by_cases e' : i = x
      · subst e'; rw [upd_self, eX]
      · rw [upd_ne e', hz i hi e' e]
  | x :: y :: z :: t =>
    intro _ _ h
    simp at h
theorem mendD_out {m i : Nat} {M : Nat → Bool} {G : Nat → Nat → Nat} (h : m ≤ i) : mendD m M G i = G i := by
  unfold mendD
  have hmem : ∀ x, x ∈ gapsL m M → x ≠ i := fun x hx => by have := (gaps_mem.1 hx).1; omega
  revert hmem
  match gapsL m M with
  | [] => intro _; exact zeroed_out h
  | [x] => intro hm; show upd _ _ _ _ = _; rw [upd_ne (Ne.symm (hm x (by simp))), zeroed_out h]
  | x :: y :: t => intro hm; show upd (upd _ _ _) _ _ _ = _; rw [upd_ne (Ne.symm (hm y (by simp))), upd_ne (Ne.symm (hm x (by simp))), zeroed_out h]
theorem back {m : Nat} {M : Nat → Bool} {F G : Nat → Nat → Nat} (h2 : m ≤ 62) (hF : ∀ i k, F i k < 256) (hc : cntM M ≤ 2) {k : Nat}
    (hG : ∀ i, i < m + 2 → M i = false → G i k = rowF m F i k) : ∀ i, i < m + 2 → mendP m M (mendD m M G) i k = rowF m F i k := by
  have hd := back_data h2 hF hc hG
  intro i hi
  unfold mendP
  by_cases h1 : i = m ∧ M m = true
  · obtain ⟨rfl, hM⟩ := h1
    rw [if_pos ⟨rfl, hM⟩, PP_same i hd]
    unfold rowF; simp
  · rw [if_neg h1]
    by_cases h3 : i = m + 1 ∧ M (m + 1) = true
    · obtain ⟨rfl, hM⟩ := h3
      rw [if_pos ⟨rfl, hM⟩, QQ_same m hd]
      unfold rowF; simp [show ¬ m + 1 < m by omega]
    · rw [if_neg h3]
      by_cases h4 : i < m
      · rw [hd i h4]; unfold rowF; simp [h4]
      · rw [mendD_out (by omega)]
        refine hG i hi ?_
        cases e : M i with
        | false => rfl
        | true =>
          exfalso
          by_cases h5 : i = m
          · subst h5; exact h1 ⟨rfl, e⟩
          · obtain rfl : i = m + 1 := by omega
            exact h3 ⟨rfl, e⟩
theorem rowF_lt {m : Nat} {F : Nat → Nat → Nat} (hF : ∀ i k, F i k < 256) : ∀ i k, rowF m F i k < 256 := fun i k => by
  unfold rowF
  split
  · exact hF i k
  · split
    · exact PP_lt hF m k
    · exact QQ_lt m k
theorem rowF_P {m k : Nat} {F : Nat → Nat → Nat} : PP (rowF m F) m k = PP F m k := PP_same m fun i hi => by unfold rowF; simp [hi]
theorem rowF_Q {m k : Nat} {F : Nat → Nat → Nat} : QQ (rowF m F) m k = QQ F m k := QQ_same m fun i hi => by unfold rowF; simp [hi]
theorem rowF_right {m : Nat} {F : Nat → Nat → Nat} : rightB m (rowF m F) = true := by
  unfold rightB
  rw [eqS_yes fun k _ => ?_, eqS_yes fun k _ => ?_]
  · rfl
  · rw [rowF_Q]; unfold rowF; simp [show ¬ m + 1 < m by omega]
  · rw [rowF_P]; unfold rowF; simp
theorem row_of_right {m : Nat} {T : Nat → Nat → Nat} (h : rightB m T = true) : ∀ i, i < m + 2 → ∀ k, k < 64 → T i k = rowF m T i k := by
  unfold rightB at h
  rw [Bool.and_eq_true] at h
  have h1 := eqS_iff.1 h.1
  have h2 := eqS_iff.1 h.2
  intro i hi k hk
  unfold rowF
  by_cases e : i < m
  · simp [e]
  · by_cases e2 : i = m
    · subst e2; simp [h1 k hk]
    · obtain rfl : i = m + 1 := by omega
      simp [show ¬ m + 1 < m by omega, h2 k hk]
theorem right_of_same {m : Nat} {T F : Nat → Nat → Nat} (h : ∀ i, i < m + 2 → ∀ k, k < 64 → T i k = rowF m F i k) : rightB m T = true := by
  unfold rightB
  rw [eqS_yes fun k hk => ?_, eqS_yes fun k hk => ?_]
  · rfl
  · rw [h (m + 1) (by omega) k hk, QQ_same m fun i hi => (h i (by omega) k hk), rowF_Q]; unfold rowF; simp [show ¬ m + 1 < m by omega]
  · rw [h m (by omega) k hk, PP_same m fun i hi => (h i (by omega) k hk), rowF_P]; unfold rowF; simp
theorem marks2_cnt (x y : Nat) : cntM (fun j => j == x || j == y) ≤ 2 := cnt_le [x, y] fun j hj => by simpa using hj
/-- A row that is a right one off two columns is right only when it is that one. -/
theorem told {m x y : Nat} {T F : Nat → Nat → Nat} (h2 : m ≤ 62) (hF : ∀ i k, F i k < 256) (hT : ∀ i k, T i k < 256) (h : ∀ i, i < m + 2 → i ≠ x → i ≠ y → ∀ k, k < 64 → T i k = rowF m F i k) : rightB m T = allS (m + 2) T (rowF m F) := by
  cases e : allS (m + 2) T (rowF m F) with
  | true => exact right_of_same (allS_iff.1 e)
  | false =>
    cases e2 : rightB m T with
    | false => rfl
    | true =>
      have hr := row_of_right e2
      have : allS (m + 2) T (rowF m F) = true := allS_yes fun i hi k hk => by
        have b1 := back (M := fun j => j == x || j == y) (F := T) (G := T) (k := k) h2 hT (marks2_cnt x y) (fun i hi _ => hr i hi k hk) i hi
        have b2 := back (M := fun j => j == x || j == y) (F := F) (G := T) (k := k) h2 hF (marks2_cnt x y) (fun i hi hM => by simp at hM; exact h i hi hM.1 hM.2 k hk) i hi
        rw [hr i hi k hk, ← b1, b2]
      rw [this] at e; cases e
end Go.Proofs.Yteoccdcebgcdmaa
