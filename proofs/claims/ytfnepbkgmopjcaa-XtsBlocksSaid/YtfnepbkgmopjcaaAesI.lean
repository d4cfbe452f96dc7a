/-
  AES-256 in plain numbers: opening undoes sealing, and sealing opening.
-/
import Derived.Test.YtfnepbkgmopjcaaAesW
import Derived.Test.YtfnepbkgmopjcaaAesD
namespace Go.Proofs.Ytfnepbkgmopjcaa
namespace AesM
/-- Alike at the 16 places. -/
def Q16 (s t : Nat → Nat) : Prop := ∀ i, i < 16 → s i = t i
theorem Q16.refl (s : Nat → Nat) : Q16 s s := fun _ _ => rfl
theorem Q16.symm {s t : Nat → Nat} (h : Q16 s t) : Q16 t s := fun i hi => (h i hi).symm
theorem Q16.trans {s t u : Nat → Nat} (h : Q16 s t) (k : Q16 t u) : Q16 s u := fun i hi => (h i hi).trans (k i hi)
theorem Q16.add {s t : Nat → Nat} (h : Q16 s t) (k : Nat → Nat) : Q16 (add s k) (add t k) := fun i hi => by unfold AesM.add; rw [h i hi]
theorem Q16.each {s t : Nat → Nat} (h : Q16 s t) (T : Nat → Nat) : Q16 (each s T) (each t T) := fun i hi => by unfold AesM.each; rw [h i hi]
theorem Q16.turn {s t : Nat → Nat} (h : Q16 s t) : Q16 (turn s) (turn t) := fun i _ => h _ (from_lt i)
theorem Q16.back {s t : Nat → Nat} (h : Q16 s t) : Q16 (back s) (back t) := fun i _ => h _ (goes_lt i)
theorem Q16.mix {s t : Nat → Nat} (h : Q16 s t) : Q16 (mix s) (mix t) := fun i hi => by
  unfold AesM.mix
  rw [h i hi, h (i / 4 * 4) (by omega), h (i / 4 * 4 + 1) (by omega), h (i / 4 * 4 + 2) (by omega), h (i / 4 * 4 + 3) (by omega), h (i / 4 * 4 + (i % 4 + 1) % 4) (by omega)]
theorem Q16.mixB {s t : Nat → Nat} (h : Q16 s t) : Q16 (mixB s) (mixB t) := h.mix.mix.mix
theorem back_turn (s : Nat → Nat) : Q16 (back (turn s)) s := fun i hi => by
  show s (from' (goes i)) = s i
  rw [from_goes i hi]
theorem turn_back (s : Nat → Nat) : Q16 (turn (back s)) s := fun i hi => by
  show s (goes (from' i)) = s i
  rw [goes_from i hi]
theorem each_back {s : Nat → Nat} (h : Bt s) : Q16 (each (each s boxF) oboxF) s := fun i _ => by unfold AesM.each; exact obox_box _ (h i)
theorem each_forth {s : Nat → Nat} (h : Bt s) : Q16 (each (each s oboxF) boxF) s := fun i _ => by unfold AesM.each; exact box_obox _ (h i)
theorem xor_cancel (a b : Nat) : a ^^^ (a ^^^ b) = b := by rw [← Nat.xor_assoc, Nat.xor_self, Nat.zero_xor]
theorem add_add (s k : Nat → Nat) : add (add s k) k = s := funext fun i => by
  show s i ^^^ k i ^^^ k i = s i
  rw [Nat.xor_assoc, Nat.xor_self, Nat.xor_zero]
theorem xlc (a b c : Nat) : a ^^^ (b ^^^ c) = b ^^^ (a ^^^ c) := by rw [← Nat.xor_assoc, Nat.xor_comm a b, Nat.xor_assoc]
theorem m2_sum {a b p q a1 b1 p1 q1 : Nat} (t : Nat) (ht : t = a ^^^ b ^^^ p ^^^ q) : (a ^^^ t ^^^ (a1 ^^^ b1)) ^^^ (b ^^^ t ^^^ (b1 ^^^ p1)) ^^^ (p ^^^ t ^^^ (p1 ^^^ q1)) ^^^ (q ^^^ t ^^^ (q1 ^^^ a1)) = t := by
  subst ht
  simp only [Nat.xor_comm, xlc, Nat.xor_self, xor_cancel, Nat.xor_zero]
theorem m2_two {a b a1 b1 p1 : Nat} (t : Nat) : (a ^^^ t ^^^ (a1 ^^^ b1)) ^^^ (b ^^^ t ^^^ (b1 ^^^ p1)) = (a ^^^ b) ^^^ (a1 ^^^ p1) := by
  simp only [Nat.xor_comm, xlc, Nat.xor_self, xor_cancel, Nat.xor_zero]
theorem m2_end {a t x y : Nat} : (a ^^^ t ^^^ x) ^^^ t ^^^ (x ^^^ y) = a ^^^ y := by
  simp only [Nat.xor_comm, xlc, xor_cancel]
theorem m2_0 {a b p q : Nat} (ha : a < 256) (hb : b < 256) (hp : p < 256) (hq : q < 256) :
    (a ^^^ (a ^^^ b ^^^ p ^^^ q) ^^^ dbl (a ^^^ b)) ^^^ ((a ^^^ (a ^^^ b ^^^ p ^^^ q) ^^^ dbl (a ^^^ b)) ^^^ (b ^^^ (a ^^^ b ^^^ p ^^^ q) ^^^ dbl (b ^^^ p)) ^^^ (p ^^^ (a ^^^ b ^^^ p ^^^ q) ^^^ dbl (p ^^^ q)) ^^^ (q ^^^ (a ^^^ b ^^^ p ^^^ q) ^^^ dbl (q ^^^ a))) ^^^
      dbl ((a ^^^ (a ^^^ b ^^^ p ^^^ q) ^^^ dbl (a ^^^ b)) ^^^ (b ^^^ (a ^^^ b ^^^ p ^^^ q) ^^^ dbl (b ^^^ p))) = a ^^^ dbl (dbl (a ^^^ p)) := by
  obtain ⟨t, ht⟩ : ∃ t, t = a ^^^ b ^^^ p ^^^ q := ⟨_, rfl⟩
  rw [← ht, dbl_xor ha hb, dbl_xor hb hp, dbl_xor hp hq, dbl_xor hq ha, m2_sum t ht, m2_two, dbl_xor (xor_lt ha hb) (xor_lt (dbl_lt ha) (dbl_lt hp)), dbl_xor ha hb, ← dbl_xor ha hp, m2_end]
/-- A column that is mixed twice. -/
theorem mix_two {s : Nat → Nat} (h : Bt s) {c i : Nat} (hi : i < 4) : mix (mix s) (4 * c + i) = s (4 * c + i) ^^^ dbl (dbl (s (4 * c + i) ^^^ s (4 * c + (i + 2) % 4))) := by
  have e : ∀ j, j < 4 → ∀ t : Nat → Nat, mix t (4 * c + j) = t (4 * c + j) ^^^ (t (4 * c) ^^^ t (4 * c + 1) ^^^ t (4 * c + 2) ^^^ t (4 * c + 3)) ^^^ dbl (t (4 * c + j) ^^^ t (4 * c + (j + 1) % 4)) := fun j hj t => by
    unfold mix
    rw [show (4 * c + j) / 4 * 4 = 4 * c by omega, show (4 * c + j) % 4 = j by omega]
  have e0 := e 0 (by omega) s
  have e1 := e 1 (by omega) s
  have e2 := e 2 (by omega) s
  have e3 := e 3 (by omega) s
  rw [e i hi (mix s)]
  simp only [Nat.reduceAdd, Nat.reduceMod, Nat.add_zero] at e0 e1 e2 e3
  have h0 := h (4 * c)
  have h1 := h (4 * c + 1)
  have h2 := h (4 * c + 2)
  have h3 := h (4 * c + 3)
  have r1 : s (4 * c + 1) ^^^ s (4 * c + 2) ^^^ s (4 * c + 3) ^^^ s (4 * c) = s (4 * c) ^^^ s (4 * c + 1) ^^^ s (4 * c + 2) ^^^ s (4 * c + 3) := by ac_rfl
  have r2 : s (4 * c + 2) ^^^ s (4 * c + 3) ^^^ s (4 * c) ^^^ s (4 * c + 1) = s (4 * c) ^^^ s (4 * c + 1) ^^^ s (4 * c + 2) ^^^ s (4 * c + 3) := by ac_rfl
  have r3 : s (4 * c + 3) ^^^ s (4 * c) ^^^ s (4 * c + 1) ^^^ s (4 * c + 2) = s (4 * c) ^^^ s (4 * c + 1) ^^^ s (4 * c + 2) ^^^ s (4 * c + 3) := by ac_rfl
  match i, hi with
  | 0, _ =>
    simp only [Nat.reduceAdd, Nat.reduceMod, Nat.add_zero]
    rw [e0, e1, e2, e3]
    exact m2_0 h0 h1 h2 h3
  | 1, _ =>
    simp only [Nat.reduceAdd, Nat.reduceMod]
    have := m2_0 h1 h2 h3 h0
    rw [r1] at this
    rw [e0, e1, e2, e3, ← this]
    ac_rfl
  | 2, _ =>
    simp only [Nat.reduceAdd, Nat.reduceMod, Nat.add_zero]
    have := m2_0 h2 h3 h0 h1
    rw [r2] at this
    rw [e0, e1, e2, e3, ← this]
    ac_rfl
  | 3, _ =>
    simp only [Nat.reduceAdd, Nat.reduceMod, Nat.add_zero]
    have := m2_0 h3 h0 h1 h2
    rw [r3] at this
    rw [e0, e1, e2, e3, ← this]
    ac_rfl
theorem mix_four {s : Nat → Nat} (h : Bt s) : Q16 (mix (mix (mix (mix s)))) s := fun n hn => by
  obtain ⟨c, i, hi, rfl⟩ : ∃ c i, i < 4 ∧ n = 4 * c + i := ⟨n / 4, n % 4, by omega, by omega⟩
  have h2 := mix_bt (mix_bt h)
  have hi2 : (i + 2) % 4 < 4 := Nat.mod_lt _ (by omega)
  rw [mix_two h2 hi, mix_two h hi, mix_two h hi2, show ((i + 2) % 4 + 2) % 4 = i by omega]
  have ha := h (4 * c + i)
  have hb := h (4 * c + (i + 2) % 4)
  generalize s (4 * c + i) = a at *
  generalize s (4 * c + (i + 2) % 4) = b at *
  have hx : ∀ z : Nat, (a ^^^ z) ^^^ (b ^^^ z) = a ^^^ b := fun z => by
    simp only [Nat.xor_comm, xlc, Nat.xor_self, Nat.xor_zero]
  rw [Nat.xor_comm b a, hx, Nat.xor_assoc, Nat.xor_self, Nat.xor_zero]
theorem mixB_mix {s : Nat → Nat} (h : Bt s) : Q16 (mixB (mix s)) s := mix_four h
theorem mix_mixB {s : Nat → Nat} (h : Bt s) : Q16 (mix (mixB s)) s := mix_four h
section
variable {K f : Nat → Nat}
theorem os_ss (hK : Bt K) (hf : Bt f) : ∀ m, m ≤ 13 → Q16 (os K (sealM K f) m) (ss K f (13 - m))
  | 0, _ => by
    show Q16 (each (back (add (add (turn (each (ss K f 13) boxF)) (rk K 14)) (rk K 14))) oboxF) (ss K f 13)
    rw [add_add]
    exact ((back_turn _).each _).trans (each_back (ss_bt hK hf 13))
  | m + 1, h => by
    have ih := os_ss hK hf m (by omega)
    have e : 13 - m = (12 - m) + 1 := by omega
    show Q16 (each (back (mixB (add (os K (sealM K f) m) (rk K (13 - m))))) oboxF) (ss K f (13 - (m + 1)))
    rw [show 13 - (m + 1) = 12 - m by omega]
    refine ((((ih.add (rk K (13 - m))).mixB).back).each oboxF).trans ?_
    rw [e]
    show Q16 (each (back (mixB (add (add (mix (turn (each (ss K f (12 - m)) boxF))) (rk K (12 - m + 1))) (rk K (12 - m + 1))))) oboxF) (ss K f (12 - m))
    rw [add_add]
    exact ((((mixB_mix (turn_bt (each_bt _))).back).each _).trans ((back_turn _).each _)).trans (each_back (ss_bt hK hf _))
theorem open_seal (hK : Bt K) (hf : Bt f) : Q16 (open' K (sealM K f)) f := by
  have h := (os_ss hK hf 13 (by omega)).add (rk K 0)
  refine Q16.trans h ?_
  show Q16 (add (add f (rk K 0)) (rk K 0)) f
  rw [add_add]
  exact Q16.refl _
theorem ss_os (hK : Bt K) (hf : Bt f) : ∀ m, m ≤ 13 → Q16 (ss K (open' K f) m) (os K f (13 - m))
  | 0, _ => by
    show Q16 (add (add (os K f 13) (rk K 0)) (rk K 0)) (os K f 13)
    rw [add_add]
    exact Q16.refl _
  | m + 1, h => by
    have ih := ss_os hK hf m (by omega)
    rw [show 13 - m = (12 - m) + 1 by omega] at ih
    rw [show 13 - (m + 1) = 12 - m by omega]
    have e : 13 - (12 - m) = m + 1 := by omega
    refine (((((ih.each boxF).turn).mix).add (rk K (m + 1)))).trans ?_
    have hb : Bt (back (mixB (add (os K f (12 - m)) (rk K (m + 1))))) := back_bt (mix_bt (mix_bt (mix_bt (add_bt (os_bt _ _ _) (rk_bt hK _)))))
    have he : os K f (12 - m + 1) = each (back (mixB (add (os K f (12 - m)) (rk K (m + 1))))) oboxF := by rw [os, e]
    rw [he]
    refine (((((each_forth hb).turn).trans (turn_back _)).mix).add (rk K (m + 1))).trans ?_
    refine ((mix_mixB (add_bt (os_bt _ _ _) (rk_bt hK _))).add (rk K (m + 1))).trans ?_
    rw [add_add]
    exact Q16.refl _
theorem seal_open (hK : Bt K) (hf : Bt f) : Q16 (sealM K (open' K f)) f := by
  have h := (((ss_os hK hf 13 (by omega)).each boxF).turn).add (rk K 14)
  refine Q16.trans h ?_
  show Q16 (add (turn (each (each (back (add f (rk K 14))) oboxF) boxF)) (rk K 14)) f
  refine ((((each_forth (back_bt (add_bt hf (rk_bt hK 14)))).turn).trans (turn_back _)).add (rk K 14)).trans ?_
  rw [add_add]
  exact Q16.refl _
theorem seal_congr {f g : Nat → Nat} (h : Q16 f g) : ∀ m, Q16 (ss K f m) (ss K g m)
  | 0 => h.add _
  | m + 1 => ((((seal_congr h m).each _).turn).mix).add _
theorem seal_q {f g : Nat → Nat} (h : Q16 f g) : Q16 (sealM K f) (sealM K g) := (((seal_congr h 13).each _).turn).add _
theorem open_congr {f g : Nat → Nat} (h : Q16 f g) : ∀ m, Q16 (os K f m) (os K g m)
  | 0 => ((h.add _).back).each _
  | m + 1 => (((((open_congr h m).add _).mixB).back).each _)
theorem open_q {f g : Nat → Nat} (h : Q16 f g) : Q16 (open' K f) (open' K g) := (open_congr h 13).add _
end
end AesM
end Go.Proofs.Ytfnepbkgmopjcaa
