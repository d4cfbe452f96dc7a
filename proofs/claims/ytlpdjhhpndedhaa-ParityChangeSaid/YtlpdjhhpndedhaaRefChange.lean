/-
  The contract of casemateref02.Change.
-/
import Derived.Test.YtlpdjhhpndedhaaParChange
import Derived.Test.YtlpdjhhpndedhaaGfRef2
namespace Go.Proofs.Ytlpdjhhpndedhaa
open Go.ChangeShapes Go.WideShapes Go.ChangeAt Go.RowKit
attribute [local go_sem] Gives
attribute [local go_sem high] zero_row
set_option maxRecDepth 100000 in
theorem rchange_bad (F : Nat → Nat → Nat) (D : Nat → Nat) (i : Int) (hi : i < 0 ∨ 62 ≤ i) (w : World) :
    Calls Try.prog 20 #[.agg (secs 3 F), .int .i64 i, .agg (sec D)] w fun e w' => e = .returned (.tuple #[.agg (secs 3 z3), .int .i64 2]) ∧ Below w.heap.size w w' := by
  rcases Int.lt_or_le i 0 with h0 | h0
  all_goals (try (have h62 : 61 < i := by omega))
  all_goals
    clear hi
    go_enter Try.func20, Try.ntmps20
    go_wp2_with (first | ((with_reducible apply bldr z3 0 []); decide; (intro j k _ _; rfl); rfl) | ((with_reducible apply str); rfl; rfl; exact Blk.top rfl (by simp)))
    apply ret_rowt Try.results20
    · rfl
    · rfl
    · rfl
    · exact (Blk.top rfl (by simp)).setRow_same _
    exact ⟨rfl, below_setRow ((((Below.refl _ _).alloc (Nat.le_refl _) _).alloc (by simp) _).alloc (by simp; omega) _) (by omega) _⟩
/-- Behind k rounds. -/
def uc (F : Nat → Nat → Nat) (i : Nat) (D : Nat → Nat) (k : Nat) : Nat → Nat → Nat
  | 0 => fun l => if l < k then chg F i D 0 l else 0
  | 1 => fun l => if l < k then chg F i D 1 l else 0
  | _ => D
def onlyOld (D : Nat → Nat) : Nat → Nat → Nat
  | 0 => fun _ => 0
  | 1 => fun _ => 0
  | _ => D
theorem onlyOld_eq {D : Nat → Nat} : ∀ j k, j < 3 → k < 64 → onlyOld D j k = if 2 ≤ j ∧ j < 2 + [D].length then [D].getD (j - 2) (fun _ => 0) k else 0 := fun j _ hj _ => by
  match j, hj with
  | 0, _ => rfl
  | 1, _ => rfl
  | 2, _ => rfl
theorem uc_step {w : World} {g i k : Nat} {F : Nat → Nat → Nat} {D : Nat → Nat} (hk : k < 64)
    (hb : Blk w g 41 ((secs 3 fun j l => if j = 0 ∧ l = k then F 0 k ^^^ (F 2 k ^^^ D k) else uc F i D k j l).setIfInBounds (64 + k) (.int .u8 (F 1 k ^^^ GfM.mul (pwI i) (F 2 k ^^^ D k) : Nat)))) :
    Blk w g 41 (secs 3 (uc F i D (k + 1))) := by
  rw [show 64 + k = 1 * 64 + k by omega, secs_set hk] at hb
  rw [secs_ext (F := uc F i D (k + 1)) (G := fun j l => if j = 1 ∧ l = k then F 1 k ^^^ GfM.mul (pwI i) (F 2 k ^^^ D k) else if j = 0 ∧ l = k then F 0 k ^^^ (F 2 k ^^^ D k) else uc F i D k j l)]
  · exact hb
  · intro j l hj _
    match j, hj with
    | 0, _ =>
      rw [if_neg (by omega)]
      by_cases e : l = k
      · subst e; simp [uc, chg]
      · rw [if_neg (by omega)]
        unfold uc
        by_cases h : l < k
        · simp [h, show l < k + 1 by omega]
        · simp [h, show ¬ l < k + 1 by omega]
    | 1, _ =>
      by_cases e : l = k
      · subst e; simp [uc, chg, pwI_nat]
      · rw [if_neg (by omega), if_neg (by omega)]
        unfold uc
        by_cases h : l < k
        · simp [h, show l < k + 1 by omega]
        · simp [h, show ¬ l < k + 1 by omega]
    | 2, _ => rw [if_neg (by omega), if_neg (by omega)]; rfl
theorem uc_all {F : Nat → Nat → Nat} {i : Nat} {D : Nat → Nat} {k : Nat} (hk : 64 ≤ k) : secs 3 (uc F i D k) = secs 3 (chg F i D) := secs_ext fun j l hj hl => by
  match j, hj with
  | 0, _ => show (if l < k then _ else _) = _; rw [if_pos (by omega)]
  | 1, _ => show (if l < k then _ else _) = _; rw [if_pos (by omega)]
  | 2, _ => rfl
set_option maxRecDepth 100000 in
theorem rchange_ok (F : Nat → Nat → Nat) (D : Nat → Nat) (i : Nat) (hi : i ≤ 61) (hF : ∀ i k, F i k < 256) (hD : ∀ k, D k < 256) (w : World) :
    Calls Try.prog 20 #[.agg (secs 3 F), .int .i64 i, .agg (sec D)] w fun e w' => e = .returned (.tuple #[.agg (secs 3 (chg F i D)), .int .i64 0]) ∧ Below w.heap.size w w' := by
  have HF := hid hF
  have HD := hid hD
  clear hF hD
  have t1 : decide ((i : Int) < 0) = false := by simp
  have t2 : decide ((61 : Int) < i) = false := by simp; omega
  go_enter Try.func20, Try.ntmps20
  go_wp2_with (first | ((with_reducible apply ld); rfl; exact (Blk.top rfl (by simp)).alloc _) | ((with_reducible apply bldr (onlyOld D) 2 [D]); exact Nat.le_refl 3; exact onlyOld_eq; rfl) | ((with_reducible apply str); rfl; rfl; exact Blk.top rfl (by simp)))
  generalize hw3 : World.setRow (World.alloc (World.alloc (World.alloc (World.alloc w _) _) _) _) _ _ = w3
  have b1 : Blk w3 w.heap.size 41 (secs 3 F) := by rw [← hw3]; exact ((((Blk.top rfl rfl).alloc _).alloc _).alloc _).setRow_other (by omega) _
  have b2 : Blk w3 (w.heap.size + 1) 25 (sec D) := by rw [← hw3]; exact (((Blk.top rfl (by simp)).alloc _).alloc _).setRow_other (by omega) _
  have b3 : Blk w3 (w.heap.size + 1 + 1) 41 (secs 3 z3) := by rw [← hw3]; exact ((Blk.top rfl (by simp)).alloc _).setRow_other (by omega) _
  have b4 : Blk w3 (w.heap.size + 1 + 1 + 1) 41 (secs 3 (onlyOld D)) := by rw [← hw3]; exact (Blk.top rfl (by simp)).setRow_same _
  have hb : Below w.heap.size w w3 := by rw [← hw3]; exact below_setRow (((((Below.refl _ _).alloc (Nat.le_refl _) _).alloc (by simp) _).alloc (by simp; omega) _).alloc (by simp; omega) _) (by omega) _
  clear hw3 t1 t2
  go_loopw [9] (fun i' wr => ∃ k : Nat, k ≤ 64 ∧ i' = .int .i64 k ∧ Blk wr w.heap.size 41 (secs 3 F) ∧ Blk wr (w.heap.size + 1) 25 (sec D) ∧ Blk wr (w.heap.size + 1 + 1) 41 (secs 3 z3) ∧ Blk wr (w.heap.size + 1 + 1 + 1) 41 (secs 3 (uc F i D k)) ∧ Below w.heap.size w wr) (fun i _ => 64 - (intOf i).toNat)
  case atStart =>
    refine ⟨0, by omega, rfl, b1, b2, b3, ?_, hb⟩
    rw [secs_ext (F := uc F i D 0) (G := onlyOld D) fun j k hj _ => by match j, hj with | 0, _ => rfl | 1, _ => rfl | 2, _ => rfl]
    exact b4
  case round =>
    obtain ⟨k, hk, rfl, b1, b2, b3, b4, hb⟩ := hrel
    by_cases hlt : k < 64
    · have c1 : wr.cell? ⟨w.heap.size, 128 + k, none⟩ = some (.int .u8 (F 2 k : Nat)) := b1.at_ (by omega) hlt rfl
      have c2 : wr.cell? ⟨w.heap.size + 1, k, none⟩ = some (.int .u8 (D k : Nat)) := by rw [b2.cell, get_sec hlt]
      have c3 : wr.cell? ⟨w.heap.size, k, none⟩ = some (.int .u8 (F 0 k : Nat)) := b1.at_ (by omega) hlt (by omega)
      have c4 : wr.cell? ⟨w.heap.size + 1 + 1 + 1, k, none⟩ = some (.int .u8 (uc F i D k 0 k : Nat)) := b4.at_ (by omega) hlt (by omega)
      have c5 := b4.frozen k
      go_wp2_with fail
      go_quiet (fail)
      rw [u8_xor_nat _ _ (HF.out 2 k) (HD.out k)]
      go_wp2_with fail
      have hx2 := GfM.xor_lt (HF.out 2 k) (HD.out k)
      rw [u8_xor_nat _ _ (HF.out 0 k) hx2]
      generalize hw5 : World.setCell (World.drewN wr _) _ _ = w5
      have d1 : Blk w5 w.heap.size 41 (secs 3 F) := by rw [← hw5]; exact (b1.drewN _).setCell_other (by simp; omega) _
      have d2 : Blk w5 (w.heap.size + 1) 25 (sec D) := by rw [← hw5]; exact (b2.drewN _).setCell_other (by simp; omega) _
      have d3 : Blk w5 (w.heap.size + 1 + 1) 41 (secs 3 z3) := by rw [← hw5]; exact (b3.drewN _).setCell_other (by simp) _
      have d4 : Blk w5 (w.heap.size + 1 + 1 + 1) 41 ((secs 3 (uc F i D k)).setIfInBounds (0 * 64 + k) (.int .u8 (F 0 k ^^^ (F 2 k ^^^ D k) : Nat))) := by
        rw [← hw5]
        have := (b4.drewN nq).setCell_same k (.int .u8 (F 0 k ^^^ (F 2 k ^^^ D k) : Nat))
        rwa [show 0 * 64 + k = k by omega]
      have hd : Below w.heap.size w w5 := by rw [← hw5]; exact (below_drewN hb _).setCell (by simp; omega) _
      clear hw5 b1 b2 b3 b4 hb c1 c2 c3 c4 c5
      rw [secs_set hlt] at d4
      have c3 : w5.cell? ⟨w.heap.size, 64 + k, none⟩ = some (.int .u8 (F 1 k : Nat)) := d1.at_ (by omega) hlt rfl
      refine wp_region_tail (C := fun w' => Below w5.heap.size w5 w') 12 (by kernel_rfl) (by kernel_rfl) (by kernel_rfl) (Below.refl _ _).drew ?_
      simp only [List.take_succ_cons, List.take_zero, List.drop_succ_cons, List.drop_zero]
      apply wpK_val
      · rfl
      · intro w' hw'
        go_simp
        first | exact rfl | exact ⟨rfl, hw'⟩
      simp only [Act.put, List.setIfInBounds_toArray, List.set_cons_succ, List.set_cons_zero]
      apply wpK_val
      · rfl
      · intro w' hw'
        go_simp
        first | exact rfl | exact ⟨rfl, hw'⟩
      simp only [Act.put, List.setIfInBounds_toArray, List.set_cons_succ, List.set_cons_zero]
      apply wpK_val
      · rfl
      · intro w' hw'
        go_simp
        first | exact rfl | exact ⟨rfl, hw'⟩
      simp only [Act.put, List.setIfInBounds_toArray, List.set_cons_succ, List.set_cons_zero]
      apply wpK_val
      · rfl
      · intro w' hw'
        go_simp
        first | exact rfl | exact ⟨rfl, hw'⟩
      simp only [Act.put, List.setIfInBounds_toArray, List.set_cons_succ, List.set_cons_zero]
      apply wpK_val
      · rfl
      · intro w' hw'
        have hcell := (hw'.cell (p := ⟨w.heap.size, 64 + k, none⟩) d1.lt).trans c3
        go_simp
        first | exact rfl | exact ⟨rfl, hw'⟩
      simp only [Act.put, List.setIfInBounds_toArray, List.set_cons_succ, List.set_cons_zero]
      apply wpK_val
      · rfl
      · intro w' hw'
        go_simp
        first | exact rfl | exact ⟨rfl, hw'⟩
      simp only [Act.put, List.setIfInBounds_toArray, List.set_cons_succ, List.set_cons_zero]
      apply wpK_val
      · rfl
      · intro w' hw'
        go_simp
        exact (rpow_any _ _).mono fun e w'' ⟨he, hb'⟩ => ⟨he, by subst hb'; exact hw'⟩
      simp only [Act.put, List.setIfInBounds_toArray, List.set_cons_succ, List.set_cons_zero]
      apply wpK_val
      · rfl
      · intro w' hw'
        go_simp
        first | exact rfl | exact ⟨rfl, hw'⟩
      simp only [Act.put, List.setIfInBounds_toArray, List.set_cons_succ, List.set_cons_zero]
      apply wpK_val
      · rfl
      · intro w' hw'
        go_simp
        exact (rmul_any _ _ (pwI_lt _) hx2 _).mono fun e w'' ⟨he, hb'⟩ => ⟨he, by subst hb'; exact hw'⟩
      simp only [Act.put, List.setIfInBounds_toArray, List.set_cons_succ, List.set_cons_zero]
      apply wpK_val
      · rfl
      · intro w' hw'
        go_simp
        first | exact rfl | exact ⟨rfl, hw'⟩
      simp only [Act.put, List.setIfInBounds_toArray, List.set_cons_succ, List.set_cons_zero]
      apply wpK_val
      · rfl
      · intro w' hw'
        go_simp
        first | exact rfl | exact ⟨rfl, hw'⟩
      simp only [Act.put, List.setIfInBounds_toArray, List.set_cons_succ, List.set_cons_zero]
      apply wpK_val
      · rfl
      · intro w' hw'
        go_simp
        first | exact rfl | exact ⟨rfl, hw'⟩
      simp only [Act.put, List.setIfInBounds_toArray, List.set_cons_succ, List.set_cons_zero]
      refine wpK_nil fun w6 hw6 => ?_
      have e1 := d1.below hw6 d1.lt
      have e2 := d2.below hw6 d2.lt
      have e3 := d3.below hw6 d3.lt
      have e4 := d4.below hw6 d4.lt
      have he := hd.trans (hw6.mono hd.size)
      have c4 : w6.cell? ⟨w.heap.size + 1 + 1 + 1, 64 + k, none⟩ = some (.int .u8 _) := e4.at_ (i := 1) (by omega) hlt rfl
      have c5 := e4.frozen (64 + k)
      have hm := GfM.mul_lt (b := F 2 k ^^^ D k) (pwI_lt i)
      rw [u8_xor_nat _ _ (HF.out 1 k) hm]
      clear hw6 d1 d2 d3 d4 hd c3
      go_wp2_with fail
      exact ⟨⟨k + 1, by omega, by go_num, e1.setCell_other (by simp; omega) _, e2.setCell_other (by simp; omega) _, e3.setCell_other (by simp) _, uc_step hlt (e4.setCell_same _ _), he.setCell (by simp; omega) _⟩, by simp [intOf]; omega⟩
    · rw [uc_all (by omega)] at b4
      go_wp2_with (first | ((with_reducible apply ldr); rfl; assumption) | ((with_reducible apply str); rfl; rfl; assumption))
      apply ret_rowt Try.results20
      · rfl
      · rfl
      · rfl
      · exact b3.setRow_same _
      exact ⟨rfl, below_setRow hb (by omega) _⟩
end Go.Proofs.Ytlpdjhhpndedhaa
