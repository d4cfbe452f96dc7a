/-
  Contracts of geom.Place and What over this translation.
  Contracts of geom.around (slices.IndexFunc, its closure) and What over this translation.
  The contract of geom.What over this translation.
  Contracts of the document's geometry (casemateref14) over this translation: the same plain numbers.
  Contracts of the document's places (casemateref14.Place, What) over this translation.
  The laws' awake geometry.
  GeomCounts: all counts are the document's.
  GeomPlaces: each place, and what is there, are the document's. GeomBack: they undo each other.
  GeomBack: places and sectors undo each other.
  GeomRoom: there is room for each leaf, and for a root and a whole transaction.
-/
import Derived.Test.YtfhblbgkpfoecaaMrg1
import Derived.OwnWalk
set_option linter.unusedVariables false
set_option linter.unusedSimpArgs false
set_option maxRecDepth 100000
namespace Go.Proofs.Ytfhblbgkpfoecaa
open Go.ChangeShapes Go.WideShapes Go.ChangeAt Go.RowKit
attribute [local go_sem] Gives
namespace GeM
/-- What Place tells. -/
def plV (o : Option Nat) : Value := match o with
  | some p => .tuple #[.int .i64 p, .int .i64 0]
  | none => .tuple #[.int .i64 0, .int .i64 2]
theorem pl_none {a b k i : Int} (h : ¬ (Good a b ∧ 1 ≤ k ∧ k ≤ 4 ∧ (lw k : Int) ≤ i ∧ i - lw k < sz a.toNat b.toNat k.toNat)) : pl a b k i = none := by unfold pl; rw [if_neg h]
theorem L_le {f : Nat → Nat → Nat} {a b : Int} {n : Nat} (h : ∀ {m r : Nat}, Good m r → f m r ≤ n) : L f a b ≤ n := by
  by_cases hg : Good a b
  · obtain ⟨m, r, rfl, rfl, _⟩ := good_nat hg
    rw [L_good hg]
    exact h hg
  · rw [L_bad hg]; omega
theorem st_le {m r k : Nat} (h : Good m r) : st m r k ≤ 20000 := by
  have h5 := sec_bd h
  unfold sec at h5
  rw [st_5] at h5
  by_cases e : k = 2 ∨ k = 3 ∨ k = 4 ∨ k = 5
  · rcases e with rfl | rfl | rfl | rfl
    · rw [st_2]; omega
    · rw [st_3]; omega
    · rw [st_4]; omega
    · rw [st_5]; omega
  · have : st m r k = 0 := by
      unfold st
      split <;> first | omega | rfl
    omega
theorem st_up {a b : Int} {k : Nat} (h1 : 1 ≤ k) (h4 : k ≤ 4) : L (st · · k) a b ≤ L (st · · (k + 1)) a b ∧ L (st · · (k + 1)) a b ≤ 20000 := by
  by_cases hg : Good a b
  · obtain ⟨m, r, rfl, rfl, _⟩ := good_nat hg
    rw [L_good hg, L_good hg]
    exact ⟨by rw [st_sz m r h1 h4]; omega, st_le hg⟩
  · rw [L_bad hg, L_bad hg]; omega
theorem pl_L {k : Nat} (h1 : 1 ≤ k) (h4 : k ≤ 4) (a b i : Int) : pl a b k i = if (lw k : Int) ≤ i ∧ i - lw k < (L (st · · (k + 1)) a b : Int) - L (st · · k) a b then some (L (st · · k) a b + (i - lw k).toNat) else none := by
  by_cases hg : Good a b
  · obtain ⟨m, r, rfl, rfl, _⟩ := good_nat hg
    rw [L_good hg, L_good hg]
    have hz := st_sz m r h1 h4
    unfold pl
    simp only [Int.toNat_natCast]
    by_cases hc : (lw k : Int) ≤ i ∧ i - lw k < (st m r (k + 1) : Int) - st m r k
    · rw [if_pos hc, if_pos ⟨hg, by omega, by omega, hc.1, by omega⟩]
    · rw [if_neg hc, if_neg fun e => hc ⟨e.2.2.2.1, by have := e.2.2.2.2; omega⟩]
  · rw [L_bad hg, L_bad hg, pl_none fun e => hg e.1, if_neg (by omega)]
set_option maxHeartbeats 800000 in
theorem place_any (a b k i : Int) (hi : -9223372036854775808 ≤ i ∧ i ≤ 9223372036854775807) (w : World) : Calls Try.prog 26 #[gv a b, .int .i64 k, .int .i64 i] w fun e w' => e = .returned (plV (pl a b k i)) ∧ Below w.heap.size w w' := by
  by_cases h1 : k < 1
  · rw [pl_none (by omega)]
    unfold gv
    go_enter Try.func26, Try.ntmps26
    go_wp2_with fail
    go_ret2
    exact ⟨rfl, below_al _⟩
  by_cases h4 : 4 < k
  · rw [pl_none (by omega)]
    unfold gv
    go_enter Try.func26, Try.ntmps26
    go_wp2_with fail
    go_ret2
    exact ⟨rfl, below_al _⟩
  have hk : k = 1 ∨ k = 2 ∨ k = 3 ∨ k = 4 := by omega
  clear h1 h4
  rcases hk with rfl | rfl | rfl | rfl
  · obtain ⟨x, hx⟩ : ∃ x, x = L (st · · 1) a b := ⟨_, rfl⟩
    obtain ⟨y, hy⟩ : ∃ y, y = L (st · · 2) a b := ⟨_, rfl⟩
    have hp : pl a b 1 i = if (0 : Int) ≤ i ∧ i - 0 < (y : Int) - x then some (x + (i - 0).toNat) else none := by rw [hx, hy]; exact pl_L (k := 1) (by omega) (by omega) a b i
    have hb : x ≤ y ∧ y ≤ 20000 := by rw [hx, hy]; exact @st_up a b 1 (by omega) (by omega)
    have hl : ((lw 1 : Nat) : Int) = 0 := rfl
    have HX := hid hx
    have HY := hid hy
    have HP := hid hp
    obtain ⟨b1, b2⟩ := hb
    clear hp hx hy
    unfold gv
    go_enter Try.func26, Try.ntmps26
    go_wp2_with ((with_reducible apply ldR (cs := #[Value.int .i64 a, .int .i64 b]) (tGe _ _)); rfl; exact (At.new w a b).blk.whole)
    refine (of_any _ _ _).mono ?_
    rintro e w1 ⟨rfl, h1⟩
    have A1 := hid ((At.new w a b).on h1)
    clear h1
    go_wp2_with fail
    refine (lowest_any _ _).mono ?_
    rintro e w2 ⟨rfl, rfl⟩
    rw [hl]
    unfold sv
    rw [← HX.out, ← HY.out]
    clear hl
    go_upto_region 4 with ((with_reducible apply stR (tSt _ _ _ _ _ _)); rfl; rfl; exact Blk.new _ _ _; rfl; exact one6 _ _ _ _ _ _)
    generalize hw3 : World.setRow _ _ _ = w3
    obtain ⟨z, hz⟩ : ∃ z, z = w1.heap.size := ⟨_, rfl⟩
    have S3 := hid (show Blk w3 z tyS _ by rw [← hw3, hz]; exact (Blk.new w1 _ _).setRow_same _)
    have B3 := hid (show Below w.heap.size w w3 by rw [← hw3]; exact below_setRow (A1.out.bel.alloc A1.out.bel.size _) A1.out.bel.size _)
    have Q1 := hid (show ∀ w', Below w3.heap.size w3 w' → w'.cell? ⟨z, 1, none⟩ = some (.int .i64 x) from fun w' h => (S3.out.below h S3.out.lt).cell 1)
    have Q2 := hid (show ∀ w', Below w3.heap.size w3 w' → w'.cell? ⟨z, 2, none⟩ = some (.int .i64 y) from fun w' h => (S3.out.below h S3.out.lt).cell 2)
    rw [← hz]
    clear hw3 hz A1 S3 HX HY
    refine wp_region_tail (C := fun w' => Below w3.heap.size w3 w') 16 (by kernel_rfl) (by kernel_rfl) (by kernel_rfl) (Below.refl _ _).drew ?_
    simp only [List.take_succ_cons, List.take_zero, List.drop_succ_cons, List.drop_zero]
    by_cases hlt : i < 0
    · have HD := hid (show decide (i < 0) = true by simp [hlt])
      have HL := hid hlt
      clear hlt b1 b2
      apply wpK_val
      · rfl
      · intro w' hw'
        go_simp
        first | exact rfl | exact ⟨rfl, hw'⟩
      simp only [Act.put, List.setIfInBounds_toArray, List.set_cons_succ, List.set_cons_zero]
      apply wpK_val
      · rfl
      · intro w' hw'
        go_simp
        first | exact rfl | exact ⟨rfl, hw'⟩
      simp only [Act.put, List.setIfInBounds_toArray, List.set_cons_succ, List.set_cons_zero]
      apply wpK_val
      · rfl
      · intro w' hw'
        have h1 : _ = _ := HD.out
        go_simp
        first | exact rfl | exact ⟨rfl, hw'⟩
      simp only [Act.put, List.setIfInBounds_toArray, List.set_cons_succ, List.set_cons_zero]
      apply wpK_val
      · rfl
      · intro w' hw'
        go_simp
        first | exact rfl | exact ⟨rfl, hw'⟩
      simp only [Act.put, List.setIfInBounds_toArray, List.set_cons_succ, List.set_cons_zero]
      apply wpK_not
      · rfl
      simp only [Act.put, List.setIfInBounds_toArray, List.set_cons_succ, List.set_cons_zero]
      apply wpK_not
      · rfl
      simp only [Act.put, List.setIfInBounds_toArray, List.set_cons_succ, List.set_cons_zero]
      apply wpK_not
      · rfl
      simp only [Act.put, List.setIfInBounds_toArray, List.set_cons_succ, List.set_cons_zero]
      apply wpK_not
      · rfl
      simp only [Act.put, List.setIfInBounds_toArray, List.set_cons_succ, List.set_cons_zero]
      apply wpK_not
      · rfl
      simp only [Act.put, List.setIfInBounds_toArray, List.set_cons_succ, List.set_cons_zero]
      apply wpK_not
      · rfl
      simp only [Act.put, List.setIfInBounds_toArray, List.set_cons_succ, List.set_cons_zero]
      apply wpK_not
      · rfl
      simp only [Act.put, List.setIfInBounds_toArray, List.set_cons_succ, List.set_cons_zero]
      apply wpK_not
      · rfl
      simp only [Act.put, List.setIfInBounds_toArray, List.set_cons_succ, List.set_cons_zero]
      apply wpK_not
      · rfl
      simp only [Act.put, List.setIfInBounds_toArray, List.set_cons_succ, List.set_cons_zero]
      apply wpK_not
      · rfl
      simp only [Act.put, List.setIfInBounds_toArray, List.set_cons_succ, List.set_cons_zero]
      apply wpK_not
      · rfl
      simp only [Act.put, List.setIfInBounds_toArray, List.set_cons_succ, List.set_cons_zero]
      apply wpK_not
      · rfl
      simp only [Act.put, List.setIfInBounds_toArray, List.set_cons_succ, List.set_cons_zero]
      refine wpK_nil fun w5 hw5 => ?_
      have B5 := hid (B3.out.trans (hw5.mono B3.out.size))
      clear hw5 HD Q1 Q2 B3
      go_wp2_with fail
      go_ret2
      rw [HP.out]
      exact ⟨by rw [if_neg (by have := HL.out; omega)]; rfl, B5.out⟩
    · have HD := hid (show decide (i < 0) = false by simp [hlt])
      have HL := hid hlt
      have HI := hid hi
      have hw : IntKind.i64.wrap (i) = i := IntWalk.i64_in _ (by omega)
      have hu : IntKind.i64.wrap ((y : Int) - x) = (y : Int) - x := IntWalk.i64_in _ (by omega)
      have HW := hid hw
      have HU := hid hu
      clear hlt hw hu hi
      apply wpK_val
      · rfl
      · intro w' hw'
        go_simp
        first | exact rfl | exact ⟨rfl, hw'⟩
      simp only [Act.put, List.setIfInBounds_toArray, List.set_cons_succ, List.set_cons_zero]
      apply wpK_val
      · rfl
      · intro w' hw'
        go_simp
        first | exact rfl | exact ⟨rfl, hw'⟩
      simp only [Act.put, List.setIfInBounds_toArray, List.set_cons_succ, List.set_cons_zero]
      apply wpK_val
      · rfl
      · intro w' hw'
        have h1 : _ = _ := HD.out
        go_simp
        first | exact rfl | exact ⟨rfl, hw'⟩
      simp only [Act.put, List.setIfInBounds_toArray, List.set_cons_succ, List.set_cons_zero]
      apply wpK_val
      · rfl
      · intro w' hw'
        go_simp
        first | exact rfl | exact ⟨rfl, hw'⟩
      simp only [Act.put, List.setIfInBounds_toArray, List.set_cons_succ, List.set_cons_zero]
      apply wpK_val
      · rfl
      · intro w' hw'
        go_simp
        first | exact rfl | exact ⟨rfl, hw'⟩
      simp only [Act.put, List.setIfInBounds_toArray, List.set_cons_succ, List.set_cons_zero]
      apply wpK_val
      · rfl
      · intro w' hw'
        go_simp
        first | exact rfl | exact ⟨rfl, hw'⟩
      simp only [Act.put, List.setIfInBounds_toArray, List.set_cons_succ, List.set_cons_zero]
      apply wpK_val
      · rfl
      · intro w' hw'
        have h1 : _ = _ := HW.out
        go_simp
        first | exact rfl | exact ⟨rfl, hw'⟩
      simp only [Act.put, List.setIfInBounds_toArray, List.set_cons_succ, List.set_cons_zero]
      apply wpK_val
      · rfl
      · intro w' hw'
        go_simp
        first | exact rfl | exact ⟨rfl, hw'⟩
      simp only [Act.put, List.setIfInBounds_toArray, List.set_cons_succ, List.set_cons_zero]
      apply wpK_val
      · rfl
      · intro w' hw'
        have h1 : IntKind.i64.wrap 2 = 2 := rfl
        go_simp
        first | exact rfl | exact ⟨rfl, hw'⟩
      simp only [Act.put, List.setIfInBounds_toArray, List.set_cons_succ, List.set_cons_zero]
      apply wpK_val
      · rfl
      · intro w' hw'
        go_simp
        first | exact rfl | exact ⟨rfl, hw'⟩
      simp only [Act.put, List.setIfInBounds_toArray, List.set_cons_succ, List.set_cons_zero]
      apply wpK_val
      · rfl
      · intro w' hw'
        have hcell := Q2.out w' hw'
        go_simp
        first | exact rfl | exact ⟨rfl, hw'⟩
      simp only [Act.put, List.setIfInBounds_toArray, List.set_cons_succ, List.set_cons_zero]
      apply wpK_val
      · rfl
      · intro w' hw'
        go_simp
        first | exact rfl | exact ⟨rfl, hw'⟩
      simp only [Act.put, List.setIfInBounds_toArray, List.set_cons_succ, List.set_cons_zero]
      apply wpK_val
      · rfl
      · intro w' hw'
        go_simp
        first | exact rfl | exact ⟨rfl, hw'⟩
      simp only [Act.put, List.setIfInBounds_toArray, List.set_cons_succ, List.set_cons_zero]
      apply wpK_val
      · rfl
      · intro w' hw'
        have hcell := Q1.out w' hw'
        go_simp
        first | exact rfl | exact ⟨rfl, hw'⟩
      simp only [Act.put, List.setIfInBounds_toArray, List.set_cons_succ, List.set_cons_zero]
      apply wpK_val
      · rfl
      · intro w' hw'
        have h1 : _ = _ := HU.out
        go_simp
        first | exact rfl | exact ⟨rfl, hw'⟩
      simp only [Act.put, List.setIfInBounds_toArray, List.set_cons_succ, List.set_cons_zero]
      by_cases hc : (y : Int) - x ≤ i
      · have HC := hid hc
        have HD2 := hid (show decide ((y : Int) - x ≤ i) = true by simp [hc])
        clear hc
        apply wpK_val
        · rfl
        · intro w' hw'
          have h1 : _ = _ := HD2.out
          go_simp
          first | exact rfl | exact ⟨rfl, hw'⟩
        simp only [Act.put, List.setIfInBounds_toArray, List.set_cons_succ, List.set_cons_zero]
        refine wpK_nil fun w5 hw5 => ?_
        have B5 := hid (B3.out.trans (hw5.mono B3.out.size))
        clear hw5 HD HD2 Q1 Q2 B3
        go_wp2_with fail
        go_ret2
        rw [HP.out]
        exact ⟨by rw [if_neg (by have := HC.out; omega)]; rfl, B5.out⟩
      · have HC := hid hc
        have HD2 := hid (show decide ((y : Int) - x ≤ i) = false by simp [hc])
        have c1 : 0 ≤ i := by have := HL.out; omega
        have c2 : i ≤ 30000 := by omega
        clear hc
        apply wpK_val
        · rfl
        · intro w' hw'
          have h1 : _ = _ := HD2.out
          go_simp
          first | exact rfl | exact ⟨rfl, hw'⟩
        simp only [Act.put, List.setIfInBounds_toArray, List.set_cons_succ, List.set_cons_zero]
        refine wpK_nil fun w5 hw5 => ?_
        have B5 := hid (B3.out.trans (hw5.mono B3.out.size))
        have q1 := Q1.out w5 hw5
        clear hw5 HD HD2 Q1 Q2 B3
        go_wp2_with fail
        go_ret2
        rw [HP.out]
        refine ⟨?_, B5.out⟩
        rw [if_pos (by have := HC.out; omega)]
        unfold plV
        refine congrArg (fun v : Int => Ending.returned (.tuple #[.int .i64 v, .int .i64 0])) ?_
        have := HC.out
        omega
  · obtain ⟨x, hx⟩ : ∃ x, x = L (st · · 2) a b := ⟨_, rfl⟩
    obtain ⟨y, hy⟩ : ∃ y, y = L (st · · 3) a b := ⟨_, rfl⟩
    have hp : pl a b 2 i = if (0 : Int) ≤ i ∧ i - 0 < (y : Int) - x then some (x + (i - 0).toNat) else none := by rw [hx, hy]; exact pl_L (k := 2) (by omega) (by omega) a b i
    have hb : x ≤ y ∧ y ≤ 20000 := by rw [hx, hy]; exact @st_up a b 2 (by omega) (by omega)
    have hl : ((lw 2 : Nat) : Int) = 0 := rfl
    have HX := hid hx
    have HY := hid hy
    have HP := hid hp
    obtain ⟨b1, b2⟩ := hb
    clear hp hx hy
    unfold gv
    go_enter Try.func26, Try.ntmps26
    go_wp2_with ((with_reducible apply ldR (cs := #[Value.int .i64 a, .int .i64 b]) (tGe _ _)); rfl; exact (At.new w a b).blk.whole)
    refine (of_any _ _ _).mono ?_
    rintro e w1 ⟨rfl, h1⟩
    have A1 := hid ((At.new w a b).on h1)
    clear h1
    go_wp2_with fail
    refine (lowest_any _ _).mono ?_
    rintro e w2 ⟨rfl, rfl⟩
    rw [hl]
    unfold sv
    rw [← HX.out, ← HY.out]
    clear hl
    go_upto_region 4 with ((with_reducible apply stR (tSt _ _ _ _ _ _)); rfl; rfl; exact Blk.new _ _ _; rfl; exact one6 _ _ _ _ _ _)
    generalize hw3 : World.setRow _ _ _ = w3
    obtain ⟨z, hz⟩ : ∃ z, z = w1.heap.size := ⟨_, rfl⟩
    have S3 := hid (show Blk w3 z tyS _ by rw [← hw3, hz]; exact (Blk.new w1 _ _).setRow_same _)
    have B3 := hid (show Below w.heap.size w w3 by rw [← hw3]; exact below_setRow (A1.out.bel.alloc A1.out.bel.size _) A1.out.bel.size _)
    have Q1 := hid (show ∀ w', Below w3.heap.size w3 w' → w'.cell? ⟨z, 2, none⟩ = some (.int .i64 x) from fun w' h => (S3.out.below h S3.out.lt).cell 2)
    have Q2 := hid (show ∀ w', Below w3.heap.size w3 w' → w'.cell? ⟨z, 3, none⟩ = some (.int .i64 y) from fun w' h => (S3.out.below h S3.out.lt).cell 3)
    rw [← hz]
    clear hw3 hz A1 S3 HX HY
    refine wp_region_tail (C := fun w' => Below w3.heap.size w3 w') 16 (by kernel_rfl) (by kernel_rfl) (by kernel_rfl) (Below.refl _ _).drew ?_
    simp only [List.take_succ_cons, List.take_zero, List.drop_succ_cons, List.drop_zero]
    by_cases hlt : i < 0
    · have HD := hid (show decide (i < 0) = true by simp [hlt])
      have HL := hid hlt
      clear hlt b1 b2
      apply wpK_val
      · rfl
      · intro w' hw'
        go_simp
        first | exact rfl | exact ⟨rfl, hw'⟩
      simp only [Act.put, List.setIfInBounds_toArray, List.set_cons_succ, List.set_cons_zero]
      apply wpK_val
      · rfl
      · intro w' hw'
        go_simp
        first | exact rfl | exact ⟨rfl, hw'⟩
      simp only [Act.put, List.setIfInBounds_toArray, List.set_cons_succ, List.set_cons_zero]
      apply wpK_val
      · rfl
      · intro w' hw'
        have h1 : _ = _ := HD.out
        go_simp
        first | exact rfl | exact ⟨rfl, hw'⟩
      simp only [Act.put, List.setIfInBounds_toArray, List.set_cons_succ, List.set_cons_zero]
      apply wpK_val
      · rfl
      · intro w' hw'
        go_simp
        first | exact rfl | exact ⟨rfl, hw'⟩
      simp only [Act.put, List.setIfInBounds_toArray, List.set_cons_succ, List.set_cons_zero]
      apply wpK_not
      · rfl
      simp only [Act.put, List.setIfInBounds_toArray, List.set_cons_succ, List.set_cons_zero]
      apply wpK_not
      · rfl
      simp only [Act.put, List.setIfInBounds_toArray, List.set_cons_succ, List.set_cons_zero]
      apply wpK_not
      · rfl
      simp only [Act.put, List.setIfInBounds_toArray, List.set_cons_succ, List.set_cons_zero]
      apply wpK_not
      · rfl
      simp only [Act.put, List.setIfInBounds_toArray, List.set_cons_succ, List.set_cons_zero]
      apply wpK_not
      · rfl
      simp only [Act.put, List.setIfInBounds_toArray, List.set_cons_succ, List.set_cons_zero]
      apply wpK_not
      · rfl
      simp only [Act.put, List.setIfInBounds_toArray, List.set_cons_succ, List.set_cons_zero]
      apply wpK_not
      · rfl
      simp only [Act.put, List.setIfInBounds_toArray, List.set_cons_succ, List.set_cons_zero]
      apply wpK_not
      · rfl
      simp only [Act.put, List.setIfInBounds_toArray, List.set_cons_succ, List.set_cons_zero]
      apply wpK_not
      · rfl
      simp only [Act.put, List.setIfInBounds_toArray, List.set_cons_succ, List.set_cons_zero]
      apply wpK_not
      · rfl
      simp only [Act.put, List.setIfInBounds_toArray, List.set_cons_succ, List.set_cons_zero]
      apply wpK_not
      · rfl
      simp only [Act.put, List.setIfInBounds_toArray, List.set_cons_succ, List.set_cons_zero]
      apply wpK_not
      · rfl
      simp only [Act.put, List.setIfInBounds_toArray, List.set_cons_succ, List.set_cons_zero]
      refine wpK_nil fun w5 hw5 => ?_
      have B5 := hid (B3.out.trans (hw5.mono B3.out.size))
      clear hw5 HD Q1 Q2 B3
      go_wp2_with fail
      go_ret2
      rw [HP.out]
      exact ⟨by rw [if_neg (by have := HL.out; omega)]; rfl, B5.out⟩
    · have HD := hid (show decide (i < 0) = false by simp [hlt])
      have HL := hid hlt
      have HI := hid hi
      have hw : IntKind.i64.wrap (i) = i := IntWalk.i64_in _ (by omega)
      have hu : IntKind.i64.wrap ((y : Int) - x) = (y : Int) - x := IntWalk.i64_in _ (by omega)
      have HW := hid hw
      have HU := hid hu
      clear hlt hw hu hi
      apply wpK_val
      · rfl
      · intro w' hw'
        go_simp
        first | exact rfl | exact ⟨rfl, hw'⟩
      simp only [Act.put, List.setIfInBounds_toArray, List.set_cons_succ, List.set_cons_zero]
      apply wpK_val
      · rfl
      · intro w' hw'
        go_simp
        first | exact rfl | exact ⟨rfl, hw'⟩
      simp only [Act.put, List.setIfInBounds_toArray, List.set_cons_succ, List.set_cons_zero]
      apply wpK_val
      · rfl
      · intro w' hw'
        have h1 : _ = _ := HD.out
        go_simp
        first | exact rfl | exact ⟨rfl, hw'⟩
      simp only [Act.put, List.setIfInBounds_toArray, List.set_cons_succ, List.set_cons_zero]
      apply wpK_val
      · rfl
      · intro w' hw'
        go_simp
        first | exact rfl | exact ⟨rfl, hw'⟩
      simp only [Act.put, List.setIfInBounds_toArray, List.set_cons_succ, List.set_cons_zero]
      apply wpK_val
      · rfl
      · intro w' hw'
        go_simp
        first | exact rfl | exact ⟨rfl, hw'⟩
      simp only [Act.put, List.setIfInBounds_toArray, List.set_cons_succ, List.set_cons_zero]
      apply wpK_val
      · rfl
      · intro w' hw'
        go_simp
        first | exact rfl | exact ⟨rfl, hw'⟩
      simp only [Act.put, List.setIfInBounds_toArray, List.set_cons_succ, List.set_cons_zero]
      apply wpK_val
      · rfl
      · intro w' hw'
        have h1 : _ = _ := HW.out
        go_simp
        first | exact rfl | exact ⟨rfl, hw'⟩
      simp only [Act.put, List.setIfInBounds_toArray, List.set_cons_succ, List.set_cons_zero]
      apply wpK_val
      · rfl
      · intro w' hw'
        go_simp
        first | exact rfl | exact ⟨rfl, hw'⟩
      simp only [Act.put, List.setIfInBounds_toArray, List.set_cons_succ, List.set_cons_zero]
      apply wpK_val
      · rfl
      · intro w' hw'
        have h1 : IntKind.i64.wrap 3 = 3 := rfl
        go_simp
        first | exact rfl | exact ⟨rfl, hw'⟩
      simp only [Act.put, List.setIfInBounds_toArray, List.set_cons_succ, List.set_cons_zero]
      apply wpK_val
      · rfl
      · intro w' hw'
        go_simp
        first | exact rfl | exact ⟨rfl, hw'⟩
      simp only [Act.put, List.setIfInBounds_toArray, List.set_cons_succ, List.set_cons_zero]
      apply wpK_val
      · rfl
      · intro w' hw'
        have hcell := Q2.out w' hw'
        go_simp
        first | exact rfl | exact ⟨rfl, hw'⟩
      simp only [Act.put, List.setIfInBounds_toArray, List.set_cons_succ, List.set_cons_zero]
      apply wpK_val
      · rfl
      · intro w' hw'
        go_simp
        first | exact rfl | exact ⟨rfl, hw'⟩
      simp only [Act.put, List.setIfInBounds_toArray, List.set_cons_succ, List.set_cons_zero]
      apply wpK_val
      · rfl
      · intro w' hw'
        go_simp
        first | exact rfl | exact ⟨rfl, hw'⟩
      simp only [Act.put, List.setIfInBounds_toArray, List.set_cons_succ, List.set_cons_zero]
      apply wpK_val
      · rfl
      · intro w' hw'
        have hcell := Q1.out w' hw'
        go_simp
        first | exact rfl | exact ⟨rfl, hw'⟩
      simp only [Act.put, List.setIfInBounds_toArray, List.set_cons_succ, List.set_cons_zero]
      apply wpK_val
      · rfl
      · intro w' hw'
        have h1 : _ = _ := HU.out
        go_simp
        first | exact rfl | exact ⟨rfl, hw'⟩
      simp only [Act.put, List.setIfInBounds_toArray, List.set_cons_succ, List.set_cons_zero]
      by_cases hc : (y : Int) - x ≤ i
      · have HC := hid hc
        have HD2 := hid (show decide ((y : Int) - x ≤ i) = true by simp [hc])
        clear hc
        apply wpK_val
        · rfl
        · intro w' hw'
          have h1 : _ = _ := HD2.out
          go_simp
          first | exact rfl | exact ⟨rfl, hw'⟩
        simp only [Act.put, List.setIfInBounds_toArray, List.set_cons_succ, List.set_cons_zero]
        refine wpK_nil fun w5 hw5 => ?_
        have B5 := hid (B3.out.trans (hw5.mono B3.out.size))
        clear hw5 HD HD2 Q1 Q2 B3
        go_wp2_with fail
        go_ret2
        rw [HP.out]
        exact ⟨by rw [if_neg (by have := HC.out; omega)]; rfl, B5.out⟩
      · have HC := hid hc
        have HD2 := hid (show decide ((y : Int) - x ≤ i) = false by simp [hc])
        have c1 : 0 ≤ i := by have := HL.out; omega
        have c2 : i ≤ 30000 := by omega
        clear hc
        apply wpK_val
        · rfl
        · intro w' hw'
          have h1 : _ = _ := HD2.out
          go_simp
          first | exact rfl | exact ⟨rfl, hw'⟩
        simp only [Act.put, List.setIfInBounds_toArray, List.set_cons_succ, List.set_cons_zero]
        refine wpK_nil fun w5 hw5 => ?_
        have B5 := hid (B3.out.trans (hw5.mono B3.out.size))
        have q1 := Q1.out w5 hw5
        clear hw5 HD HD2 Q1 Q2 B3
        go_wp2_with fail
        go_ret2
        rw [HP.out]
        refine ⟨?_, B5.out⟩
        rw [if_pos (by have := HC.out; omega)]
        unfold plV
        refine congrArg (fun v : Int => Ending.returned (.tuple #[.int .i64 v, .int .i64 0])) ?_
        have := HC.out
        omega
  · obtain ⟨x, hx⟩ : ∃ x, x = L (st · · 3) a b := ⟨_, rfl⟩
    obtain ⟨y, hy⟩ : ∃ y, y = L (st · · 4) a b := ⟨_, rfl⟩
    have hp : pl a b 3 i = if (1 : Int) ≤ i ∧ i - 1 < (y : Int) - x then some (x + (i - 1).toNat) else none := by rw [hx, hy]; exact pl_L (k := 3) (by omega) (by omega) a b i
    have hb : x ≤ y ∧ y ≤ 20000 := by rw [hx, hy]; exact @st_up a b 3 (by omega) (by omega)
    have hl : ((lw 3 : Nat) : Int) = 1 := rfl
    have HX := hid hx
    have HY := hid hy
    have HP := hid hp
    obtain ⟨b1, b2⟩ := hb
    clear hp hx hy
    unfold gv
    go_enter Try.func26, Try.ntmps26
    go_wp2_with ((with_reducible apply ldR (cs := #[Value.int .i64 a, .int .i64 b]) (tGe _ _)); rfl; exact (At.new w a b).blk.whole)
    refine (of_any _ _ _).mono ?_
    rintro e w1 ⟨rfl, h1⟩
    have A1 := hid ((At.new w a b).on h1)
    clear h1
    go_wp2_with fail
    refine (lowest_any _ _).mono ?_
    rintro e w2 ⟨rfl, rfl⟩
    rw [hl]
    unfold sv
    rw [← HX.out, ← HY.out]
    clear hl
    go_upto_region 4 with ((with_reducible apply stR (tSt _ _ _ _ _ _)); rfl; rfl; exact Blk.new _ _ _; rfl; exact one6 _ _ _ _ _ _)
    generalize hw3 : World.setRow _ _ _ = w3
    obtain ⟨z, hz⟩ : ∃ z, z = w1.heap.size := ⟨_, rfl⟩
    have S3 := hid (show Blk w3 z tyS _ by rw [← hw3, hz]; exact (Blk.new w1 _ _).setRow_same _)
    have B3 := hid (show Below w.heap.size w w3 by rw [← hw3]; exact below_setRow (A1.out.bel.alloc A1.out.bel.size _) A1.out.bel.size _)
    have Q1 := hid (show ∀ w', Below w3.heap.size w3 w' → w'.cell? ⟨z, 3, none⟩ = some (.int .i64 x) from fun w' h => (S3.out.below h S3.out.lt).cell 3)
    have Q2 := hid (show ∀ w', Below w3.heap.size w3 w' → w'.cell? ⟨z, 4, none⟩ = some (.int .i64 y) from fun w' h => (S3.out.below h S3.out.lt).cell 4)
    rw [← hz]
    clear hw3 hz A1 S3 HX HY
    refine wp_region_tail (C := fun w' => Below w3.heap.size w3 w') 16 (by kernel_rfl) (by kernel_rfl) (by kernel_rfl) (Below.refl _ _).drew ?_
    simp only [List.take_succ_cons, List.take_zero, List.drop_succ_cons, List.drop_zero]
    by_cases hlt : i < 1
    · have HD := hid (show decide (i < 1) = true by simp [hlt])
      have HL := hid hlt
      clear hlt b1 b2
      apply wpK_val
      · rfl
      · intro w' hw'
        go_simp
        first | exact rfl | exact ⟨rfl, hw'⟩
      simp only [Act.put, List.setIfInBounds_toArray, List.set_cons_succ, List.set_cons_zero]
      apply wpK_val
      · rfl
      · intro w' hw'
        go_simp
        first | exact rfl | exact ⟨rfl, hw'⟩
      simp only [Act.put, List.setIfInBounds_toArray, List.set_cons_succ, List.set_cons_zero]
      apply wpK_val
      · rfl
      · intro w' hw'
        have h1 : _ = _ := HD.out
        go_simp
        first | exact rfl | exact ⟨rfl, hw'⟩
      simp only [Act.put, List.setIfInBounds_toArray, List.set_cons_succ, List.set_cons_zero]
      apply wpK_val
      · rfl
      · intro w' hw'
        go_simp
        first | exact rfl | exact ⟨rfl, hw'⟩
      simp only [Act.put, List.setIfInBounds_toArray, List.set_cons_succ, List.set_cons_zero]
      apply wpK_not
      · rfl
      simp only [Act.put, List.setIfInBounds_toArray, List.set_cons_succ, List.set_cons_zero]
      apply wpK_not
      · rfl
      simp only [Act.put, List.setIfInBounds_toArray, List.set_cons_succ, List.set_cons_zero]
      apply wpK_not
      · rfl
      simp only [Act.put, List.setIfInBounds_toArray, List.set_cons_succ, List.set_cons_zero]
      apply wpK_not
      · rfl
      simp only [Act.put, List.setIfInBounds_toArray, List.set_cons_succ, List.set_cons_zero]
      apply wpK_not
      · rfl
      simp only [Act.put, List.setIfInBounds_toArray, List.set_cons_succ, List.set_cons_zero]
      apply wpK_not
      · rfl
      simp only [Act.put, List.setIfInBounds_toArray, List.set_cons_succ, List.set_cons_zero]
      apply wpK_not
      · rfl
      simp only [Act.put, List.setIfInBounds_toArray, List.set_cons_succ, List.set_cons_zero]
      apply wpK_not
      · rfl
      simp only [Act.put, List.setIfInBounds_toArray, List.set_cons_succ, List.set_cons_zero]
      apply wpK_not
      · rfl
      simp only [Act.put, List.setIfInBounds_toArray, List.set_cons_succ, List.set_cons_zero]
      apply wpK_not
      · rfl
      simp only [Act.put, List.setIfInBounds_toArray, List.set_cons_succ, List.set_cons_zero]
      apply wpK_not
      · rfl
      simp only [Act.put, List.setIfInBounds_toArray, List.set_cons_succ, List.set_cons_zero]
      apply wpK_not
      · rfl
      simp only [Act.put, List.setIfInBounds_toArray, List.set_cons_succ, List.set_cons_zero]
      refine wpK_nil fun w5 hw5 => ?_
      have B5 := hid (B3.out.trans (hw5.mono B3.out.size))
      clear hw5 HD Q1 Q2 B3
      go_wp2_with fail
      go_ret2
      rw [HP.out]
      exact ⟨by rw [if_neg (by have := HL.out; omega)]; rfl, B5.out⟩
    · have HD := hid (show decide (i < 1) = false by simp [hlt])
      have HL := hid hlt
      have HI := hid hi
      have hw : IntKind.i64.wrap (i - 1) = i - 1 := IntWalk.i64_in _ (by omega)
      have hu : IntKind.i64.wrap ((y : Int) - x) = (y : Int) - x := IntWalk.i64_in _ (by omega)
      have HW := hid hw
      have HU := hid hu
      clear hlt hw hu hi
      apply wpK_val
      · rfl
      · intro w' hw'
        go_simp
        first | exact rfl | exact ⟨rfl, hw'⟩
      simp only [Act.put, List.setIfInBounds_toArray, List.set_cons_succ, List.set_cons_zero]
      apply wpK_val
      · rfl
      · intro w' hw'
        go_simp
        first | exact rfl | exact ⟨rfl, hw'⟩
      simp only [Act.put, List.setIfInBounds_toArray, List.set_cons_succ, List.set_cons_zero]
      apply wpK_val
      · rfl
      · intro w' hw'
        have h1 : _ = _ := HD.out
        go_simp
        first | exact rfl | exact ⟨rfl, hw'⟩
      simp only [Act.put, List.setIfInBounds_toArray, List.set_cons_succ, List.set_cons_zero]
      apply wpK_val
      · rfl
      · intro w' hw'
        go_simp
        first | exact rfl | exact ⟨rfl, hw'⟩
      simp only [Act.put, List.setIfInBounds_toArray, List.set_cons_succ, List.set_cons_zero]
      apply wpK_val
      · rfl
      · intro w' hw'
        go_simp
        first | exact rfl | exact ⟨rfl, hw'⟩
      simp only [Act.put, List.setIfInBounds_toArray, List.set_cons_succ, List.set_cons_zero]
      apply wpK_val
      · rfl
      · intro w' hw'
        go_simp
        first | exact rfl | exact ⟨rfl, hw'⟩
      simp only [Act.put, List.setIfInBounds_toArray, List.set_cons_succ, List.set_cons_zero]
      apply wpK_val
      · rfl
      · intro w' hw'
        have h1 : _ = _ := HW.out
        go_simp
        first | exact rfl | exact ⟨rfl, hw'⟩
      simp only [Act.put, List.setIfInBounds_toArray, List.set_cons_succ, List.set_cons_zero]
      apply wpK_val
      · rfl
      · intro w' hw'
        go_simp
        first | exact rfl | exact ⟨rfl, hw'⟩
      simp only [Act.put, List.setIfInBounds_toArray, List.set_cons_succ, List.set_cons_zero]
      apply wpK_val
      · rfl
      · intro w' hw'
        have h1 : IntKind.i64.wrap 4 = 4 := rfl
        go_simp
        first | exact rfl | exact ⟨rfl, hw'⟩
      simp only [Act.put, List.setIfInBounds_toArray, List.set_cons_succ, List.set_cons_zero]
      apply wpK_val
      · rfl
      · intro w' hw'
        go_simp
        first | exact rfl | exact ⟨rfl, hw'⟩
      simp only [Act.put, List.setIfInBounds_toArray, List.set_cons_succ, List.set_cons_zero]
      apply wpK_val
      · rfl
      · intro w' hw'
        have hcell := Q2.out w' hw'
        go_simp
        first | exact rfl | exact ⟨rfl, hw'⟩
      simp only [Act.put, List.setIfInBounds_toArray, List.set_cons_succ, List.set_cons_zero]
      apply wpK_val
      · rfl
      · intro w' hw'
        go_simp
        first | exact rfl | exact ⟨rfl, hw'⟩
      simp only [Act.put, List.setIfInBounds_toArray, List.set_cons_succ, List.set_cons_zero]
      apply wpK_val
      · rfl
      · intro w' hw'
        go_simp
        first | exact rfl | exact ⟨rfl, hw'⟩
      simp only [Act.put, List.setIfInBounds_toArray, List.set_cons_succ, List.set_cons_zero]
      apply wpK_val
      · rfl
      · intro w' hw'
        have hcell := Q1.out w' hw'
        go_simp
        first | exact rfl | exact ⟨rfl, hw'⟩
      simp only [Act.put, List.setIfInBounds_toArray, List.set_cons_succ, List.set_cons_zero]
      apply wpK_val
      · rfl
      · intro w' hw'
        have h1 : _ = _ := HU.out
        go_simp
        first | exact rfl | exact ⟨rfl, hw'⟩
      simp only [Act.put, List.setIfInBounds_toArray, List.set_cons_succ, List.set_cons_zero]
      by_cases hc : (y : Int) - x ≤ i - 1
      · have HC := hid hc
        have HD2 := hid (show decide ((y : Int) - x ≤ i - 1) = true by simp [hc])
        clear hc
        apply wpK_val
        · rfl
        · intro w' hw'
          have h1 : _ = _ := HD2.out
          go_simp
          first | exact rfl | exact ⟨rfl, hw'⟩
        simp only [Act.put, List.setIfInBounds_toArray, List.set_cons_succ, List.set_cons_zero]
        refine wpK_nil fun w5 hw5 => ?_
        have B5 := hid (B3.out.trans (hw5.mono B3.out.size))
        clear hw5 HD HD2 Q1 Q2 B3
        go_wp2_with fail
        go_ret2
        rw [HP.out]
        exact ⟨by rw [if_neg (by have := HC.out; omega)]; rfl, B5.out⟩
      · have HC := hid hc
        have HD2 := hid (show decide ((y : Int) - x ≤ i - 1) = false by simp [hc])
        have c1 : 1 ≤ i := by have := HL.out; omega
        have c2 : i ≤ 30000 := by omega
        clear hc
        apply wpK_val
        · rfl
        · intro w' hw'
          have h1 : _ = _ := HD2.out
          go_simp
          first | exact rfl | exact ⟨rfl, hw'⟩
        simp only [Act.put, List.setIfInBounds_toArray, List.set_cons_succ, List.set_cons_zero]
        refine wpK_nil fun w5 hw5 => ?_
        have B5 := hid (B3.out.trans (hw5.mono B3.out.size))
        have q1 := Q1.out w5 hw5
        clear hw5 HD HD2 Q1 Q2 B3
        go_wp2_with fail
        go_ret2
        rw [HP.out]
        refine ⟨?_, B5.out⟩
        rw [if_pos (by have := HC.out; omega)]
        unfold plV
        refine congrArg (fun v : Int => Ending.returned (.tuple #[.int .i64 v, .int .i64 0])) ?_
        have := HC.out
        omega
  · obtain ⟨x, hx⟩ : ∃ x, x = L (st · · 4) a b := ⟨_, rfl⟩
    obtain ⟨y, hy⟩ : ∃ y, y = L (st · · 5) a b := ⟨_, rfl⟩
    have hp : pl a b 4 i = if (0 : Int) ≤ i ∧ i - 0 < (y : Int) - x then some (x + (i - 0).toNat) else none := by rw [hx, hy]; exact pl_L (k := 4) (by omega) (by omega) a b i
    have hb : x ≤ y ∧ y ≤ 20000 := by rw [hx, hy]; exact @st_up a b 4 (by omega) (by omega)
    have hl : ((lw 4 : Nat) : Int) = 0 := rfl
    have HX := hid hx
    have HY := hid hy
    have HP := hid hp
    obtain ⟨b1, b2⟩ := hb
    clear hp hx hy
    unfold gv
    go_enter Try.func26, Try.ntmps26
    go_wp2_with ((with_reducible apply ldR (cs := #[Value.int .i64 a, .int .i64 b]) (tGe _ _)); rfl; exact (At.new w a b).blk.whole)
    refine (of_any _ _ _).mono ?_
    rintro e w1 ⟨rfl, h1⟩
    have A1 := hid ((At.new w a b).on h1)
    clear h1
    go_wp2_with fail
    refine (lowest_any _ _).mono ?_
    rintro e w2 ⟨rfl, rfl⟩
    rw [hl]
    unfold sv
    rw [← HX.out, ← HY.out]
    clear hl
    go_upto_region 4 with ((with_reducible apply stR (tSt _ _ _ _ _ _)); rfl; rfl; exact Blk.new _ _ _; rfl; exact one6 _ _ _ _ _ _)
    generalize hw3 : World.setRow _ _ _ = w3
    obtain ⟨z, hz⟩ : ∃ z, z = w1.heap.size := ⟨_, rfl⟩
    have S3 := hid (show Blk w3 z tyS _ by rw [← hw3, hz]; exact (Blk.new w1 _ _).setRow_same _)
    have B3 := hid (show Below w.heap.size w w3 by rw [← hw3]; exact below_setRow (A1.out.bel.alloc A1.out.bel.size _) A1.out.bel.size _)
    have Q1 := hid (show ∀ w', Below w3.heap.size w3 w' → w'.cell? ⟨z, 4, none⟩ = some (.int .i64 x) from fun w' h => (S3.out.below h S3.out.lt).cell 4)
    have Q2 := hid (show ∀ w', Below w3.heap.size w3 w' → w'.cell? ⟨z, 5, none⟩ = some (.int .i64 y) from fun w' h => (S3.out.below h S3.out.lt).cell 5)
    rw [← hz]
    clear hw3 hz A1 S3 HX HY
    refine wp_region_tail (C := fun w' => Below w3.heap.size w3 w') 16 (by kernel_rfl) (by kernel_rfl) (by kernel_rfl) (Below.refl _ _).drew ?_
    simp only [List.take_succ_cons, List.take_zero, List.drop_succ_cons, List.drop_zero]
    by_cases hlt : i < 0
    · have HD := hid (show decide (i < 0) = true by simp [hlt])
      have HL := hid hlt
      clear hlt b1 b2
      apply wpK_val
      · rfl
      · intro w' hw'
        go_simp
        first | exact rfl | exact ⟨rfl, hw'⟩
      simp only [Act.put, List.setIfInBounds_toArray, List.set_cons_succ, List.set_cons_zero]
      apply wpK_val
      · rfl
      · intro w' hw'
        go_simp
        first | exact rfl | exact ⟨rfl, hw'⟩
      simp only [Act.put, List.setIfInBounds_toArray, List.set_cons_succ, List.set_cons_zero]
      apply wpK_val
      · rfl
      · intro w' hw'
        have h1 : _ = _ := HD.out
        go_simp
        first | exact rfl | exact ⟨rfl, hw'⟩
      simp only [Act.put, List.setIfInBounds_toArray, List.set_cons_succ, List.set_cons_zero]
      apply wpK_val
      · rfl
      · intro w' hw'
        go_simp
        first | exact rfl | exact ⟨rfl, hw'⟩
      simp only [Act.put, List.setIfInBounds_toArray, List.set_cons_succ, List.set_cons_zero]
      apply wpK_not
      · rfl
      simp only [Act.put, List.setIfInBounds_toArray, List.set_cons_succ, List.set_cons_zero]
      apply wpK_not
      · rfl
      simp only [Act.put, List.setIfInBounds_toArray, List.set_cons_succ, List.set_cons_zero]
      apply wpK_not
      · rfl
      simp only [Act.put, List.setIfInBounds_toArray, List.set_cons_succ, List.set_cons_zero]
      apply wpK_not
      · rfl
      simp only [Act.put, List.setIfInBounds_toArray, List.set_cons_succ, List.set_cons_zero]
      apply wpK_not
      · rfl
      simp only [Act.put, List.setIfInBounds_toArray, List.set_cons_succ, List.set_cons_zero]
      apply wpK_not
      · rfl
      simp only [Act.put, List.setIfInBounds_toArray, List.set_cons_succ, List.set_cons_zero]
      apply wpK_not
      · rfl
      simp only [Act.put, List.setIfInBounds_toArray, List.set_cons_succ, List.set_cons_zero]
      apply wpK_not
      · rfl
      simp only [Act.put, List.setIfInBounds_toArray, List.set_cons_succ, List.set_cons_zero]
      apply wpK_not
      · rfl
      simp only [Act.put, List.setIfInBounds_toArray, List.set_cons_succ, List.set_cons_zero]
      apply wpK_not
      · rfl
      simp only [Act.put, List.setIfInBounds_toArray, List.set_cons_succ, List.set_cons_zero]
      apply wpK_not
      · rfl
      simp only [Act.put, List.setIfInBounds_toArray, List.set_cons_succ, List.set_cons_zero]
      apply wpK_not
      · rfl
      simp only [Act.put, List.setIfInBounds_toArray, List.set_cons_succ, List.set_cons_zero]
      refine wpK_nil fun w5 hw5 => ?_
      have B5 := hid (B3.out.trans (hw5.mono B3.out.size))
      clear hw5 HD Q1 Q2 B3
      go_wp2_with fail
      go_ret2
      rw [HP.out]
      exact ⟨by rw [if_neg (by have := HL.out; omega)]; rfl, B5.out⟩
    · have HD := hid (show decide (i < 0) = false by simp [hlt])
      have HL := hid hlt
      have HI := hid hi
      have hw : IntKind.i64.wrap (i) = i := IntWalk.i64_in _ (by omega)
      have hu : IntKind.i64.wrap ((y : Int) - x) = (y : Int) - x := IntWalk.i64_in _ (by omega)
      have HW := hid hw
      have HU := hid hu
      clear hlt hw hu hi
      apply wpK_val
      · rfl
      · intro w' hw'
        go_simp
        first | exact rfl | exact ⟨rfl, hw'⟩
      simp only [Act.put, List.setIfInBounds_toArray, List.set_cons_succ, List.set_cons_zero]
      apply wpK_val
      · rfl
      · intro w' hw'
        go_simp
        first | exact rfl | exact ⟨rfl, hw'⟩
      simp only [Act.put, List.setIfInBounds_toArray, List.set_cons_succ, List.set_cons_zero]
      apply wpK_val
      · rfl
      · intro w' hw'
        have h1 : _ = _ := HD.out
        go_simp
        first | exact rfl | exact ⟨rfl, hw'⟩
      simp only [Act.put, List.setIfInBounds_toArray, List.set_cons_succ, List.set_cons_zero]
      apply wpK_val
      · rfl
      · intro w' hw'
        go_simp
        first | exact rfl | exact ⟨rfl, hw'⟩
      simp only [Act.put, List.setIfInBounds_toArray, List.set_cons_succ, List.set_cons_zero]
      apply wpK_val
      · rfl
      · intro w' hw'
        go_simp
        first | exact rfl | exact ⟨rfl, hw'⟩
      simp only [Act.put, List.setIfInBounds_toArray, List.set_cons_succ, List.set_cons_zero]
      apply wpK_val
      · rfl
      · intro w' hw'
        go_simp
        first | exact rfl | exact ⟨rfl, hw'⟩
      simp only [Act.put, List.setIfInBounds_toArray, List.set_cons_succ, List.set_cons_zero]
      apply wpK_val
      · rfl
      · intro w' hw'
        have h1 : _ = _ := HW.out
        go_simp
        first | exact rfl | exact ⟨rfl, hw'⟩
      simp only [Act.put, List.setIfInBounds_toArray, List.set_cons_succ, List.set_cons_zero]
      apply wpK_val
      · rfl
      · intro w' hw'
        go_simp
        first | exact rfl | exact ⟨rfl, hw'⟩
      simp only [Act.put, List.setIfInBounds_toArray, List.set_cons_succ, List.set_cons_zero]
      apply wpK_val
      · rfl
      · intro w' hw'
        have h1 : IntKind.i64.wrap 5 = 5 := rfl
        go_simp
        first | exact rfl | exact ⟨rfl, hw'⟩
      simp only [Act.put, List.setIfInBounds_toArray, List.set_cons_succ, List.set_cons_zero]
      apply wpK_val
      · rfl
      · intro w' hw'
        go_simp
        first | exact rfl | exact ⟨rfl, hw'⟩
      simp only [Act.put, List.setIfInBounds_toArray, List.set_cons_succ, List.set_cons_zero]
      apply wpK_val
      · rfl
      · intro w' hw'
        have hcell := Q2.out w' hw'
        go_simp
        first | exact rfl | exact ⟨rfl, hw'⟩
      simp only [Act.put, List.setIfInBounds_toArray, List.set_cons_succ, List.set_cons_zero]
      apply wpK_val
      · rfl
      · intro w' hw'
        go_simp
        first | exact rfl | exact ⟨rfl, hw'⟩
      simp only [Act.put, List.setIfInBounds_toArray, List.set_cons_succ, List.set_cons_zero]
      apply wpK_val
      · rfl
      · intro w' hw'
        go_simp
        first | exact rfl | exact ⟨rfl, hw'⟩
      simp only [Act.put, List.setIfInBounds_toArray, List.set_cons_succ, List.set_cons_zero]
      apply wpK_val
      · rfl
      · intro w' hw'
        have hcell := Q1.out w' hw'
        go_simp
        first | exact rfl | exact ⟨rfl, hw'⟩
      simp only [Act.put, List.setIfInBounds_toArray, List.set_cons_succ, List.set_cons_zero]
      apply wpK_val
      · rfl
      · intro w' hw'
        have h1 : _ = _ := HU.out
        go_simp
        first | exact rfl | exact ⟨rfl, hw'⟩
      simp only [Act.put, List.setIfInBounds_toArray, List.set_cons_succ, List.set_cons_zero]
      by_cases hc : (y : Int) - x ≤ i
      · have HC := hid hc
        have HD2 := hid (show decide ((y : Int) - x ≤ i) = true by simp [hc])
        clear hc
        apply wpK_val
        · rfl
        · intro w' hw'
          have h1 : _ = _ := HD2.out
          go_simp
          first | exact rfl | exact ⟨rfl, hw'⟩
        simp only [Act.put, List.setIfInBounds_toArray, List.set_cons_succ, List.set_cons_zero]
        refine wpK_nil fun w5 hw5 => ?_
        have B5 := hid (B3.out.trans (hw5.mono B3.out.size))
        clear hw5 HD HD2 Q1 Q2 B3
        go_wp2_with fail
        go_ret2
        rw [HP.out]
        exact ⟨by rw [if_neg (by have := HC.out; omega)]; rfl, B5.out⟩
      · have HC := hid hc
        have HD2 := hid (show decide ((y : Int) - x ≤ i) = false by simp [hc])
        have c1 : 0 ≤ i := by have := HL.out; omega
        have c2 : i ≤ 30000 := by omega
        clear hc
        apply wpK_val
        · rfl
        · intro w' hw'
          have h1 : _ = _ := HD2.out
          go_simp
          first | exact rfl | exact ⟨rfl, hw'⟩
        simp only [Act.put, List.setIfInBounds_toArray, List.set_cons_succ, List.set_cons_zero]
        refine wpK_nil fun w5 hw5 => ?_
        have B5 := hid (B3.out.trans (hw5.mono B3.out.size))
        have q1 := Q1.out w5 hw5
        clear hw5 HD HD2 Q1 Q2 B3
        go_wp2_with fail
        go_ret2
        rw [HP.out]
        refine ⟨?_, B5.out⟩
        rw [if_pos (by have := HC.out; omega)]
        unfold plV
        refine congrArg (fun v : Int => Ending.returned (.tuple #[.int .i64 v, .int .i64 0])) ?_
        have := HC.out
        omega
end GeM
end Go.Proofs.Ytfhblbgkpfoecaa
set_option maxRecDepth 100000
namespace Go.Proofs.Ytfhblbgkpfoecaa
open Go.ChangeShapes Go.WideShapes Go.ChangeAt Go.RowKit
attribute [local go_sem] Gives
namespace GeM
theorem cf_beyond (args : Array Value) (w : World) : (callFunc 39 args).run Try.prog w = .ok (.enter 39 args) w := by
  simp [callFunc, Try.func39, Try.f39]
/-- The function that around hands down. -/
abbrev beyF (h : Nat) : Value := .func (.func 39) #[] #[.pointer (some ⟨h, 0, none⟩)]
theorem bey_any (h : Nat) (p x : Int) (w : World) (hb : w.cell? ⟨h, 0, none⟩ = some (.int .i64 p)) :
    Calls Try.prog 39 #[.int .i64 x, .pointer (some ⟨h, 0, none⟩)] w fun e w' => e = .returned (.bool (decide (p < x))) ∧ w = w' := by
  go_enter Try.func39, Try.ntmps39
  go_wp2_with fail
  go_ret
  exact ⟨rfl, rfl⟩
set_option maxHeartbeats 400000 in
theorem index_any (s h : Nat) (c : Nat → Int) (p : Int) (w : World) (hs : ∀ k, k < 6 → w.cell? ⟨s, k, none⟩ = some (.int .i64 (c k))) (hb : w.cell? ⟨h, 0, none⟩ = some (.int .i64 p)) :
    Calls Try.prog 40 #[.slice (some ⟨s, 0, none⟩) 6 6, beyF h] w fun e w' => (∃ r : Int, e = .returned (.int .i64 r) ∧ ((∃ j : Nat, j < 6 ∧ r = j ∧ p < c j ∧ ∀ q, q < j → c q ≤ p) ∨ (r = -1 ∧ ∀ q, q < 6 → c q ≤ p))) ∧ w = w' := by
  have HS := hid hs
  have HB := hid hb
  clear hs hb
  unfold beyF
  go_enter Try.func40, Try.ntmps40
  go_wp2_with fail
  go_loop [8] (fun u => ∃ k : Nat, u = .int .i64 k ∧ k ≤ 6 ∧ Hid (∀ q, q < k → c q ≤ p)) (fun u => 6 - (intOf u).toNat)
  case atStart => exact ⟨0, rfl, by omega, hid fun q hq => absurd hq (Nat.not_lt_zero _)⟩
  case round =>
    obtain ⟨k, rfl, hk, hM⟩ := hrel
    by_cases hgo : k < 6
    · have q1 := HS.out k hgo
      have t1 : (k : Int) < 6 := by omega
      have q2 := HB.out
      go_wp2_with fail
      refine (bey_any h p (c k) _ q2).mono ?_
      rintro e w' ⟨rfl, rfl⟩
      by_cases he : p < c k
      · rw [show decide (p < c k) = true by simp [he]]
        go_wp2_with fail
        go_ret
        exact ⟨⟨_, rfl, .inl ⟨k, hgo, rfl, he, hM.out⟩⟩, rfl⟩
      · rw [show decide (p < c k) = false by simp [he]]
        go_wp2_with fail
        go_round
        case rel =>
          refine ⟨k + 1, by go_num, by omega, hid fun q hq => ?_⟩
          by_cases e : q = k
          · subst e; omega
          · exact hM.out q (by omega)
        case measure => simp [intOf] <;> omega
    · have t1 : ¬ k < 6 := hgo
      go_wp2_with fail
      go_ret
      have e6 : k = 6 := by omega
      subst e6
      exact ⟨⟨_, rfl, .inr ⟨rfl, hM.out⟩⟩, rfl⟩
/-- The region in which p lies, as around tells it: below 1 if it is none. -/
def ar' (a b p : Int) : Int := if p < 0 then -1 else if Good a b ∧ p < L sec a b then rg a b p else -2
/-- The first places as a function. -/
def cv (a b : Int) (k : Nat) : Int := if k = 0 then 0 else (L (st · · k) a b : Nat)
theorem st_mono {m r j k : Nat} (h1 : 1 ≤ j) (h : j ≤ k) (h5 : k ≤ 5) : st m r j ≤ st m r k := by
  induction k with
  | zero => omega
  | succ k ih =>
    by_cases e : j = k + 1
    · rw [e]; omega
    · have := ih (by omega) (by omega)
      have hz := st_sz m r (k := k) (by omega) (by omega)
      omega
theorem ar_hit {a b p : Int} {j : Nat} (hj : j < 6) (h1 : p < cv a b j) (h2 : ∀ q, q < j → cv a b q ≤ p) : (j : Int) - 1 = ar' a b p := by
  unfold ar'
  by_cases h0 : j = 0
  · subst h0
    have : p < 0 := h1
    rw [if_pos this]; rfl
  · have p0 : (0 : Int) ≤ p := h2 0 (by omega)
    rw [if_neg (by omega)]
    unfold cv at h1
    rw [if_neg h0] at h1
    have hg : Good a b := by
      by_cases hg : Good a b
      · exact hg
      · rw [L_bad hg] at h1; omega
    obtain ⟨m, r, rfl, rfl, _⟩ := good_nat hg
    rw [L_good hg] at h1
    by_cases e1 : j = 1
    · subst e1
      rw [st_1] at h1
      omega
    have h3 := h2 (j - 1) (by omega)
    unfold cv at h3
    rw [if_neg (by omega), L_good hg] at h3
    have hm := @st_mono m r j 5 (by omega) (by omega) (by omega)
    have e := rg_is (a := m) (b := r) (p := p) (k := j - 1) (by omega) (by omega) h3 (by rw [show j - 1 + 1 = j by omega]; exact h1)
    rw [if_pos ⟨hg, by rw [L_good hg]; unfold sec; omega⟩, e]
    omega
theorem ar_none {a b p : Int} (h : ∀ q, q < 6 → cv a b q ≤ p) : (-2 : Int) = ar' a b p := by
  have p0 : (0 : Int) ≤ p := h 0 (by omega)
  have h5 := h 5 (by omega)
  unfold cv at h5
  rw [if_neg (by omega)] at h5
  unfold ar'
  rw [if_neg (by omega), if_neg]
  intro e
  have := e.2
  have h6 : L (st · · 5) a b = L sec a b := rfl
  rw [h6] at h5
  omega
theorem cv_cell {a b : Int} {w : World} {s : Nat} (h : Blk w s tyS (sv a b)) (k : Nat) (hk : k < 6) : w.cell? ⟨s, k, none⟩ = some (.int .i64 (cv a b k)) := by
  rw [h.cell]
  have : k = 0 ∨ k = 1 ∨ k = 2 ∨ k = 3 ∨ k = 4 ∨ k = 5 := by omega
  rcases this with rfl | rfl | rfl | rfl | rfl | rfl <;> rfl
set_option maxHeartbeats 400000 in
theorem around_any (a b p : Int) (w : World) : Calls Try.prog 36 #[.agg (sv a b), .int .i64 p] w fun e w' => e = .returned (.int .i64 (ar' a b p)) ∧ Below w.heap.size w w' := by
  unfold sv
  go_enter Try.func36, Try.ntmps36
  go_wp2_with fail
  refine (index_any _ _ (cv a b) p _ (cv_cell ((Blk.new _ _ _).alloc _)) ?_).mono ?_
  · exact ((Blk.top (t := 3) (cs := #[.int .i64 p]) rfl (by simp)).cell 0).trans rfl
  rintro e w' ⟨⟨r, rfl, hr⟩, rfl⟩
  have hr' : r - 1 = ar' a b p ∧ -1 ≤ r ∧ r ≤ 6 := by
    rcases hr with ⟨j, hj, rfl, h1, h2⟩ | ⟨rfl, h2⟩
    · exact ⟨ar_hit hj h1 h2, by omega, by omega⟩
    · exact ⟨ar_none h2, by omega, by omega⟩
  obtain ⟨h1, h2, h3⟩ := hr'
  have H1 := hid h1
  clear hr h1
  go_wp2_with fail
  go_ret
  exact ⟨ret_i H1.out, (below_al _).trans ((below_al _).mono (by simp))⟩
end GeM
end Go.Proofs.Ytfhblbgkpfoecaa
set_option maxRecDepth 100000
namespace Go.Proofs.Ytfhblbgkpfoecaa
open Go.ChangeShapes Go.WideShapes Go.ChangeAt Go.RowKit
attribute [local go_sem] Gives
namespace GeM
/-- What What tells. -/
def whV (o : Option (Nat × Nat)) : Value := match o with
  | some q => .tuple #[.int .i64 q.1, .int .i64 q.2, .int .i64 0]
  | none => .tuple #[.int .i64 0, .int .i64 0, .int .i64 2]
theorem wh_none {a b p : Int} (h : ¬ (Good a b ∧ 0 ≤ p ∧ p < L sec a b)) : wh a b p = none ∧ ar' a b p < 1 := by
  constructor
  · unfold wh
    rw [if_neg]
    intro e
    exact h ⟨e.1, e.2.1, by rw [L, if_pos e.1]; exact e.2.2⟩
  · unfold ar'
    split
    · omega
    · rw [if_neg fun e => h ⟨e.1, by omega, e.2⟩]; omega
set_option maxHeartbeats 800000 in
theorem what_any (a b p : Int) (w : World) : Calls Try.prog 28 #[gv a b, .int .i64 p] w fun e w' => e = .returned (whV (wh a b p)) ∧ Below w.heap.size w w' := by
  by_cases hc : Good a b ∧ 0 ≤ p ∧ p < L sec a b
  · have h0 := hc
    rw [L, if_pos hc.1] at h0
    obtain ⟨k, k1, k4, hr, hl, hu⟩ := rg_at h0.2.1 h0.2.2
    have hw : wh a b p = some (k, p.toNat - st a.toNat b.toNat k + lw k) := by rw [wh, if_pos h0, hr]
    have ha : ar' a b p = k := by rw [ar', if_neg (by omega), if_pos ⟨hc.1, hc.2.2⟩, hr]
    have hx : ∀ j, L (st · · j) a b = st a.toNat b.toNat j := fun j => by rw [L, if_pos hc.1]
    rw [hw]
    have HR := hid ha.symm
    have HW : whV (some (k, p.toNat - st a.toNat b.toNat k + lw k)) = .tuple #[.int .i64 (k : Nat), .int .i64 (p - (st a.toNat b.toNat k : Nat) + (lw k : Nat)), .int .i64 0] := by
      unfold whV
      exact congrArg (fun v : Int => Value.tuple #[.int .i64 (k : Nat), .int .i64 v, .int .i64 0]) (by simp only; omega)
    rw [HW]
    have hq : cv a b k = (st a.toNat b.toNat k : Nat) := by unfold cv; rw [if_neg (by omega), hx]
    have HQ := hid hq
    have pb : p ≤ 20000 := by
      have := @st_le a.toNat b.toNat (k + 1) (by obtain ⟨m, r, rfl, rfl, _⟩ := good_nat hc.1; exact hc.1)
      omega
    have lb : lw k ≤ 1 := by unfold lw; split <;> omega
    clear h0 hw hx hc hr hu HW hq ha
    unfold gv
    go_enter Try.func28, Try.ntmps28
    go_wp2_with ((with_reducible apply ldR (cs := #[Value.int .i64 a, .int .i64 b]) (tGe _ _)); rfl; exact (At.new w a b).blk.whole)
    refine (of_any _ _ _).mono ?_
    rintro e w1 ⟨rfl, h1⟩
    have A1 := hid ((At.new w a b).on h1)
    clear h1
    unfold sv
    go_upto_region 2 with ((with_reducible apply stR (tSt _ _ _ _ _ _)); rfl; rfl; exact Blk.new _ _ _; rfl; exact one6 _ _ _ _ _ _)
    generalize hw3 : World.setRow _ _ _ = w3
    obtain ⟨z, hz⟩ : ∃ z, z = w1.heap.size := ⟨_, rfl⟩
    have S3 := hid (show Blk w3 z tyS (sv a b) by rw [← hw3, hz]; exact (Blk.new w1 _ _).setRow_same _)
    have B3 := hid (show Below w.heap.size w w3 by rw [← hw3]; exact below_setRow (A1.out.bel.alloc A1.out.bel.size _) A1.out.bel.size _)
    rw [← hz]
    clear hw3 hz A1
    go_wp2_with ((with_reducible apply ldR (cs := sv a b) (tSt _ _ _ _ _ _)); rfl; exact S3.out.whole)
    refine (around_any a b p _).mono ?_
    rintro e w4 ⟨rfl, h4⟩
    rw [← HR.out]
    have B4 := hid (B3.out.trans (h4.mono B3.out.size))
    have S4 := hid (S3.out.below h4 S3.out.lt)
    clear h4 S3 B3
    have k6 : k < 6 := by omega
    have Q1 := hid (show ∀ w', Below w4.heap.size w4 w' → w'.cell? ⟨z, k, none⟩ = some (.int .i64 (st a.toNat b.toNat k : Nat)) from fun w' h => by rw [← HQ.out]; exact cv_cell (S4.out.below h S4.out.lt) k k6)
    have T1 : (k : Int) < 6 := by omega
    go_wp2_with fail
    refine wp_region_tail (C := fun w' => Below w4.heap.size w4 w') 10 (by kernel_rfl) (by kernel_rfl) (by kernel_rfl) (Below.refl _ _).drew ?_
    simp only [List.take_succ_cons, List.take_zero, List.drop_succ_cons, List.drop_zero]
    apply wpK_val
    · rfl
    · intro w' hw'
      go_simp
      first | exact rfl | exact ⟨rfl, hw'⟩
    simp only [Act.put, List.setIfInBounds_toArray, List.set_cons_succ, List.set_cons_zero]
    apply wpK_val
    · rfl
    · intro w' hw'
      go_simp
      first | exact rfl | exact ⟨rfl, hw'⟩
    simp only [Act.put, List.setIfInBounds_toArray, List.set_cons_succ, List.set_cons_zero]
    apply wpK_val
    · rfl
    · intro w' hw'
      go_simp
      first | exact rfl | exact ⟨rfl, hw'⟩
    simp only [Act.put, List.setIfInBounds_toArray, List.set_cons_succ, List.set_cons_zero]
    apply wpK_val
    · rfl
    · intro w' hw'
      go_simp
      first | exact rfl | exact ⟨rfl, hw'⟩
    simp only [Act.put, List.setIfInBounds_toArray, List.set_cons_succ, List.set_cons_zero]
    apply wpK_val
    · rfl
    · intro w' hw'
      have hcell := Q1.out w' hw'
      go_simp
      first | exact rfl | exact ⟨rfl, hw'⟩
    simp only [Act.put, List.setIfInBounds_toArray, List.set_cons_succ, List.set_cons_zero]
    apply wpK_val
    · rfl
    · intro w' hw'
      go_simp
      first | exact rfl | exact ⟨rfl, hw'⟩
    simp only [Act.put, List.setIfInBounds_toArray, List.set_cons_succ, List.set_cons_zero]
    apply wpK_val
    · rfl
    · intro w' hw'
      go_simp
      first | exact rfl | exact ⟨rfl, hw'⟩
    simp only [Act.put, List.setIfInBounds_toArray, List.set_cons_succ, List.set_cons_zero]
    apply wpK_val
    · rfl
    · intro w' hw'
      go_simp
      exact (lowest_any k w').mono fun e w5 h => ⟨h.1, h.2 ▸ hw'⟩
    simp only [Act.put, List.setIfInBounds_toArray, List.set_cons_succ, List.set_cons_zero]
    apply wpK_val
    · rfl
    · intro w' hw'
      go_simp
      first | exact rfl | exact ⟨rfl, hw'⟩
    simp only [Act.put, List.setIfInBounds_toArray, List.set_cons_succ, List.set_cons_zero]
    apply wpK_val
    · rfl
    · intro w' hw'
      go_simp
      first | exact rfl | exact ⟨rfl, hw'⟩
    simp only [Act.put, List.setIfInBounds_toArray, List.set_cons_succ, List.set_cons_zero]
    refine wpK_nil fun w5 hw5 => ?_
    have B5 := hid (B4.out.trans (hw5.mono B4.out.size))
    clear hw5 Q1 B4 S4
    go_wp2_with fail
    go_ret3
    have e1 := IntWalk.i64_in (p - (st a.toNat b.toNat k : Nat)) (by omega)
    have e2 := IntWalk.i64_in (p - (st a.toNat b.toNat k : Nat) + (lw k : Nat)) (by omega)
    rw [e1, e2]
    exact ⟨rfl, B5.out⟩
  · obtain ⟨hn, ha⟩ := wh_none hc
    rw [hn]
    have HA := hid ha
    obtain ⟨r, hr⟩ : ∃ r, r = ar' a b p := ⟨_, rfl⟩
    have HR := hid hr
    rw [← hr] at ha
    clear hn hr hc
    unfold gv
    go_enter Try.func28, Try.ntmps28
    go_wp2_with ((with_reducible apply ldR (cs := #[Value.int .i64 a, .int .i64 b]) (tGe _ _)); rfl; exact (At.new w a b).blk.whole)
    refine (of_any _ _ _).mono ?_
    rintro e w1 ⟨rfl, h1⟩
    have A1 := hid ((At.new w a b).on h1)
    clear h1
    unfold sv
    go_upto_region 2 with ((with_reducible apply stR (tSt _ _ _ _ _ _)); rfl; rfl; exact Blk.new _ _ _; rfl; exact one6 _ _ _ _ _ _)
    generalize hw3 : World.setRow _ _ _ = w3
    obtain ⟨z, hz⟩ : ∃ z, z = w1.heap.size := ⟨_, rfl⟩
    have S3 := hid (show Blk w3 z tyS (sv a b) by rw [← hw3, hz]; exact (Blk.new w1 _ _).setRow_same _)
    have B3 := hid (show Below w.heap.size w w3 by rw [← hw3]; exact below_setRow (A1.out.bel.alloc A1.out.bel.size _) A1.out.bel.size _)
    rw [← hz]
    clear hw3 hz A1
    go_wp2_with ((with_reducible apply ldR (cs := sv a b) (tSt _ _ _ _ _ _)); rfl; exact S3.out.whole)
    refine (around_any a b p _).mono ?_
    rintro e w4 ⟨rfl, h4⟩
    rw [← HR.out]
    have B4 := hid (B3.out.trans (h4.mono B3.out.size))
    clear h4 S3 B3
    go_wp2_with fail
    go_ret3
    exact ⟨rfl, B4.out⟩
end GeM
end Go.Proofs.Ytfhblbgkpfoecaa
set_option maxRecDepth 100000
namespace Go.Proofs.Ytfhblbgkpfoecaa
open Go.ChangeShapes Go.WideShapes Go.ChangeAt Go.RowKit
attribute [local go_sem] Gives
namespace GeM
set_option maxHeartbeats 400000 in
theorem rcheck_any (a b : Int) (w : World) : Calls Try.prog 10 #[gv a b] w fun e w' => e = .returned (.int .i64 (if Good a b then 0 else 2)) ∧ Below w.heap.size w w' := by
  obtain ⟨c, hc⟩ : ∃ c : Int, c = if Good a b then 0 else 2 := ⟨_, rfl⟩
  rw [← hc]
  have HC := hid hc
  clear hc
  unfold gv
  go_enter Try.func10, Try.ntmps10
  go_wp2_with fail
  all_goals
    go_ret
    refine ⟨ret_i ?_, below_al _⟩
    have hc := HC.out
    clear HC
    simp only [Good] at hc
    first | (simp_all; done) | (simp_all; omega) | omega
set_option maxHeartbeats 400000 in
theorem rleaves_any : Tells 12 (L lv) := fun a b w => by
  by_cases hg : Good a b
  · obtain ⟨m, r, rfl, rfl, h1, h2, h3, h4⟩ := good_nat hg
    have hl := lv_bd hg
    rw [L_good hg]
    obtain ⟨n, hn⟩ : ∃ n, n = lv m r := ⟨_, rfl⟩
    have HN := hid (show (m : Int) * r = (n : Nat) by rw [hn]; unfold lv; push_cast; rfl)
    rw [← hn] at hl ⊢
    clear h1 h2 h3 h4
    unfold gv
    go_enter Try.func12, Try.ntmps12
    go_wp2_with fail
    refine (rcheck_any _ _ _).mono ?_
    rw [if_pos hg]
    rintro e w1 ⟨rfl, h1⟩
    have A1 := hid ((At.new w m r).on h1)
    have q0 := A1.out.c0
    have q1 := A1.out.c1
    clear h1
    go_wp2_with fail
    rw [HN.out]
    go_wp2_with fail
    go_ret
    exact ⟨ret_i (IntWalk.wrap64_in _ (by omega)), A1.out.bel⟩
  · rw [L_bad hg]
    unfold gv
    go_enter Try.func12, Try.ntmps12
    go_wp2_with fail
    refine (rcheck_any _ _ _).mono ?_
    rw [if_neg hg]
    rintro e w1 ⟨rfl, h1⟩
    have A1 := hid ((At.new w a b).on h1)
    clear h1
    go_wp2_with fail
    go_ret
    exact ⟨rfl, A1.out.bel⟩
set_option maxHeartbeats 400000 in
theorem rpower_any (h : Nat) (hh : h ≤ 12) (w : World) : Calls Try.prog 31 #[.int .i64 h] w fun e w' => e = .returned (.int .i64 (2 ^ h : Nat)) ∧ w = w' := by
  go_enter Try.func31, Try.ntmps31
  go_wp2_with fail
  go_loop [3, 4] (fun n i => ∃ k x : Nat, n = .int .i64 x ∧ i = .int .i64 k ∧ k ≤ h ∧ Hid (x = 2 ^ k)) (fun _ i => h - (intOf i).toNat)
  case atStart => exact ⟨0, 1, rfl, rfl, by omega, hid rfl⟩
  case round =>
    obtain ⟨k, x, rfl, rfl, hk, HX⟩ := hrel
    have hb : x ≤ 4096 := by
      have := Nat.pow_le_pow_right (show 0 < 2 by omega) (show k ≤ 12 by omega)
      rw [HX.out]; omega
    by_cases hgo : k < h
    · have t1 : (k : Int) < h := by omega
      go_wp2_with fail
      go_round
      case rel => exact ⟨k + 1, 2 * x, by go_num, by go_num, by omega, hid (by rw [HX.out, Nat.pow_succ]; omega)⟩
      case measure => simp [intOf] <;> omega
    · have t1 : ¬ (k : Int) < h := by omega
      go_wp2_with fail
      go_ret
      have : k = h := by omega
      subst this
      exact ⟨ret_i (congrArg (fun n : Nat => (n : Int)) HX.out), rfl⟩
set_option maxHeartbeats 800000 in
theorem rheight_any : Tells 14 (L ht) := fun a b w => by
  have hl : L lv a b ≤ 4096 ∧ (∀ k, k < L ht a b → 2 ^ k < L lv a b) ∧ L lv a b ≤ 2 ^ L ht a b ∧ L ht a b ≤ 12 := by
    by_cases hg : Good a b
    · obtain ⟨m, r, rfl, rfl, _⟩ := good_nat hg
      simp only [L_good hg]
      refine ⟨(lv_bd hg).2, fun k hk => ?_, ht_up hg, ht_bd hg⟩
      have h1 := ht_lo hg
      have := Nat.pow_le_pow_right (show 0 < 2 by omega) (show k ≤ ht m r - 1 by omega)
      omega
    · simp only [L_bad hg]
      exact ⟨by omega, fun k hk => absurd hk (Nat.not_lt_zero _), by omega, by omega⟩
  obtain ⟨n, hn⟩ : ∃ n, n = L lv a b := ⟨_, rfl⟩
  obtain ⟨t, ht'⟩ : ∃ t, t = L ht a b := ⟨_, rfl⟩
  rw [← hn, ← ht'] at hl
  rw [← ht']
  obtain ⟨l1, l2, l3, l4⟩ := hl
  have HL2 := hid l2
  have HL3 := hid l3
  have HN := hid hn
  clear l2 l3 hn ht'
  unfold gv
  go_enter Try.func14, Try.ntmps14
  go_wp2_with fail
  go_loopw [3] (fun u wr => ∃ k : Nat, u = .int .i64 k ∧ k ≤ t ∧ Hid (At w w.heap.size a b wr)) (fun u _ => t - (intOf u).toNat)
  case atStart => exact ⟨0, rfl, by omega, hid (At.new w a b)⟩
  case round =>
    obtain ⟨k, rfl, hk, HA⟩ := hrel
    go_wp2_with fail
    have HK := hid hk
    obtain ⟨x, hx⟩ : ∃ x, x = 2 ^ k := ⟨_, rfl⟩
    have HX := hid hx
    clear hx
    have hk12 := hid (show k ≤ 12 by omega)
    refine wp_region_tail (C := At w w.heap.size a b) 4 (by kernel_rfl) (by kernel_rfl) (by kernel_rfl) HA.out.drew ?_
    simp only [List.take_succ_cons, List.take_zero, List.drop_succ_cons, List.drop_zero]
    apply wpK_val
    · rfl
    · intro w' hw'
      go_simp
      first | exact rfl | exact ⟨rfl, hw'⟩
    simp only [Act.put, List.setIfInBounds_toArray, List.set_cons_succ, List.set_cons_zero]
    apply wpK_val
    · rfl
    · intro w' hw'
      go_simp
      exact (rpower_any k hk12.out w').mono fun e w5 h => ⟨h.1, h.2 ▸ hw'⟩
    simp only [Act.put, List.setIfInBounds_toArray, List.set_cons_succ, List.set_cons_zero]
    rw [← HX.out]
    apply kldR (tGe _ _)
    · rfl
    · rfl
    · exact fun w' hw' => hw'.blk.whole
    simp only [Act.put, List.setIfInBounds_toArray, List.set_cons_succ, List.set_cons_zero]
    apply wpK_val
    · rfl
    · intro w' hw'
      go_simp
      exact (rleaves_any _ _ w').mono fun e w5 h => ⟨h.1, hw'.on h.2⟩
    simp only [Act.put, List.setIfInBounds_toArray, List.set_cons_succ, List.set_cons_zero]
    refine wpK_nil fun w5 hw5 => ?_
    have A5 := hid hw5
    rw [← HN.out]
    clear hw5 HA
    by_cases hgo : k < t
    · have t1 : (x : Int) < (n : Int) := by have := HL2.out k hgo; have := HX.out; omega
      go_wp2_with fail
      go_roundw
      case rel => exact ⟨k + 1, by go_num, by omega, A5⟩
      case measure => simp [intOf] <;> omega
    · have e : k = t := by have := HK.out; omega
      subst e
      have t1 : ¬ (x : Int) < (n : Int) := by have := HL3.out; have := HX.out; omega
      go_wp2_with fail
      go_ret
      exact ⟨rfl, A5.out.bel⟩
theorem L_ht (a b : Int) : L ht a b ≤ 12 ∧ 2 ^ L ht a b = L nd a b + 1 := by
  by_cases hg : Good a b
  · obtain ⟨m, r, rfl, rfl, k1, k2, k3, k4⟩ := good_nat hg
    rw [L_good hg, L_good hg]
    exact ⟨ht_bd hg, (nd_eq hg).symm⟩
  · rw [L_bad hg, L_bad hg]
    exact ⟨by omega, rfl⟩
set_option maxHeartbeats 400000 in
theorem rnodes_any : Tells 16 (L nd) := fun a b w => by
  obtain ⟨h1, h2⟩ := L_ht a b
  have H1 := hid h1
  have H2 := hid h2
  clear h1 h2
  have hb : L nd a b ≤ 8190 := L_le fun h => (nd_bd h).2
  unfold gv
  go_enter Try.func16, Try.ntmps16
  go_wp2_with ((with_reducible apply ldR (cs := #[Value.int .i64 a, .int .i64 b]) (tGe _ _)); rfl; exact (At.new w a b).blk.whole)
  refine (rheight_any _ _ _).mono ?_
  rintro e w1 ⟨rfl, h1⟩
  have A1 := hid ((At.new w a b).on h1)
  clear h1
  go_wp2_with fail
  refine (rpower_any _ H1.out _).mono ?_
  rintro e w2 ⟨rfl, rfl⟩
  rw [H2.out]
  go_wp2_with fail
  go_ret
  exact ⟨ret_i (by omega), A1.out.bel⟩
set_option maxHeartbeats 400000 in
theorem rlogical_any : Tells 18 (L lo) := fun a b w => by
  by_cases hg : Good a b
  · obtain ⟨m, r, rfl, rfl, k1, k2, k3, k4⟩ := good_nat hg
    rw [L_good hg]
    unfold gv
    go_enter Try.func18, Try.ntmps18
    go_wp2_with fail
    refine (rcheck_any _ _ _).mono ?_
    rw [if_pos hg]
    rintro e w1 ⟨rfl, h1⟩
    have A1 := hid ((At.new w m r).on h1)
    have q0 := A1.out.c0
    have q1 := A1.out.c1
    clear h1
    obtain ⟨n, hn⟩ : ∃ n, n = lv m r := ⟨_, rfl⟩
    have hl := lv_bd hg
    have he := lo_eq hg
    have HN := hid (show (m : Int) * r = (n : Nat) by rw [hn]; unfold lv; push_cast; rfl)
    rw [← hn] at hl he
    go_wp2_with fail
    rw [HN.out]
    go_wp2_with fail
    go_ret
    exact ⟨ret_i (by rw [IntWalk.wrap64_in (n : Int) (by omega), IntWalk.wrap64_in _ (by omega)]; omega), A1.out.bel⟩
  · rw [L_bad hg]
    unfold gv
    go_enter Try.func18, Try.ntmps18
    go_wp2_with fail
    refine (rcheck_any _ _ _).mono ?_
    rw [if_neg hg]
    rintro e w1 ⟨rfl, h1⟩
    have A1 := hid ((At.new w a b).on h1)
    clear h1
    go_wp2_with fail
    go_ret
    exact ⟨rfl, A1.out.bel⟩
set_option maxHeartbeats 800000 in
theorem rcapacity_any : Tells 20 (L cp) := fun a b w => by
  by_cases hg : Good a b
  · obtain ⟨m, r, rfl, rfl, k1, k2, k3, k4⟩ := good_nat hg
    rw [L_good hg]
    unfold gv
    go_enter Try.func20, Try.ntmps20
    go_wp2_with fail
    refine (rcheck_any _ _ _).mono ?_
    rw [if_pos hg]
    rintro e w1 ⟨rfl, h1⟩
    have A1 := hid ((At.new w m r).on h1)
    have q0 := A1.out.c0
    have q1 := A1.out.c1
    clear h1
    by_cases h6 : 6 < m
    · have hM : mx m = m := by unfold mx; rw [if_pos h6]
      have b2 := nd_bd hg
      have b3 := mh_bd hg
      have b4 := ht_bd hg
      obtain ⟨x, hx⟩ : ∃ x, x = m * ht m r := ⟨_, rfl⟩
      rw [hM, ← hx] at b3
      have hc : cp m r = m + (if nd m r < x then nd m r else x) + 8 := by rw [cp, hM, hx]
      have HQ := hid (show wrap64 ((m : Int) * ((ht m r : Nat) : Int)) = ((x : Nat) : Int) by rw [hx, Int.natCast_mul]; exact IntWalk.wrap64_in _ (by rw [show ((m : Int) * ((ht m r : Nat) : Int)) = ((m * ht m r : Nat) : Int) by push_cast; rfl, ← hx]; omega))
      have X1 := hid hx
      have HC := hid hc
      have t6 : (6 : Int) < m := by omega
      clear hx hc hM
      go_wp2_with ((with_reducible apply ldR (cs := #[Value.int .i64 m, .int .i64 r]) (tGe _ _)); rfl; exact A1.out.blk.whole)
      refine (rheight_any _ _ _).mono ?_
      rw [L_good hg]
      rintro e w2 ⟨rfl, h2⟩
      have A2 := hid (A1.out.on h2)
      clear h2 A1 q0 q1
      
      go_wp2_with ((with_reducible apply ldR (cs := #[Value.int .i64 m, .int .i64 r]) (tGe _ _)); rfl; exact A2.out.blk.whole)
      refine (rnodes_any _ _ _).mono ?_
      rw [L_good hg]
      rintro e w3 ⟨rfl, h3⟩
      have A3 := hid (A2.out.on h3)
      clear h3 A2
      rw [HQ.out]
      by_cases hn : nd m r < x
      · rw [if_pos hn] at HC
        have t7 : ((nd m r : Nat) : Int) < x := by omega
        go_wp2_with ((with_reducible apply ldR (cs := #[Value.int .i64 m, .int .i64 r]) (tGe _ _)); rfl; exact A3.out.blk.whole)
        refine (rnodes_any _ _ _).mono ?_
        rw [L_good hg]
        rintro e w4 ⟨rfl, h4⟩
        have A4 := hid (A3.out.on h4)
        clear h4 A3
        go_wp2_with fail
        go_ret
        exact ⟨ret_i (by have := HC.out; omega), A4.out.bel⟩
      · rw [if_neg hn] at HC
        have t7 : ¬ ((nd m r : Nat) : Int) < x := by omega
        go_wp2_with fail
        go_ret
        exact ⟨ret_i (by have := HC.out; omega), A3.out.bel⟩
    · have hM : mx m = 6 := by unfold mx; rw [if_neg h6]
      have b2 := nd_bd hg
      have b3 := mh_bd hg
      have b4 := ht_bd hg
      obtain ⟨x, hx⟩ : ∃ x, x = 6 * ht m r := ⟨_, rfl⟩
      rw [hM, ← hx] at b3
      have hc : cp m r = 6 + (if nd m r < x then nd m r else x) + 8 := by rw [cp, hM, hx]
      have HQ := hid (show wrap64 (6 * ((ht m r : Nat) : Int)) = ((x : Nat) : Int) by rw [hx, Int.natCast_mul]; exact IntWalk.wrap64_in _ (by rw [show (6 * ((ht m r : Nat) : Int)) = ((6 * ht m r : Nat) : Int) by push_cast; rfl, ← hx]; omega))
      have X1 := hid hx
      have HC := hid hc
      have t6 : ¬ (6 : Int) < m := by omega
      clear hx hc hM
      go_wp2_with ((with_reducible apply ldR (cs := #[Value.int .i64 m, .int .i64 r]) (tGe _ _)); rfl; exact A1.out.blk.whole)
      refine (rheight_any _ _ _).mono ?_
      rw [L_good hg]
      rintro e w2 ⟨rfl, h2⟩
      have A2 := hid (A1.out.on h2)
      clear h2 A1 q0 q1
      have b5 : ((6 * ht m r : Nat) : Int) = x := by rw [X1.out]
      go_wp2_with ((with_reducible apply ldR (cs := #[Value.int .i64 m, .int .i64 r]) (tGe _ _)); rfl; exact A2.out.blk.whole)
      refine (rnodes_any _ _ _).mono ?_
      rw [L_good hg]
      rintro e w3 ⟨rfl, h3⟩
      have A3 := hid (A2.out.on h3)
      clear h3 A2
      rw [show (6 : Int) * ((ht m r : Nat) : Int) = (x : Nat) by rw [← b5]; push_cast; rfl]
      by_cases hn : nd m r < x
      · rw [if_pos hn] at HC
        have t7 : ((nd m r : Nat) : Int) < x := by omega
        go_wp2_with ((with_reducible apply ldR (cs := #[Value.int .i64 m, .int .i64 r]) (tGe _ _)); rfl; exact A3.out.blk.whole)
        refine (rnodes_any _ _ _).mono ?_
        rw [L_good hg]
        rintro e w4 ⟨rfl, h4⟩
        have A4 := hid (A3.out.on h4)
        clear h4 A3
        go_wp2_with fail
        go_ret
        exact ⟨ret_i (by have := HC.out; omega), A4.out.bel⟩
      · rw [if_neg hn] at HC
        have t7 : ¬ ((nd m r : Nat) : Int) < x := by omega
        go_wp2_with fail
        go_ret
        exact ⟨ret_i (by have := HC.out; omega), A3.out.bel⟩
  · rw [L_bad hg]
    unfold gv
    go_enter Try.func20, Try.ntmps20
    go_wp2_with fail
    refine (rcheck_any _ _ _).mono ?_
    rw [if_neg hg]
    rintro e w1 ⟨rfl, h1⟩
    have A1 := hid ((At.new w a b).on h1)
    clear h1
    go_wp2_with fail
    go_ret
    exact ⟨rfl, A1.out.bel⟩
set_option maxHeartbeats 800000 in
theorem rhalf_any : Tells 22 (L hf) := fun a b w => by
  by_cases hg : Good a b
  · obtain ⟨m, r, rfl, rfl, k1, k2, k3, k4⟩ := good_nat hg
    rw [L_good hg]
    obtain ⟨c, hc⟩ : ∃ c, c = cp m r := ⟨_, rfl⟩
    have hb := cp_bd hg
    have hh : hf m r = 2 + (69 * c + 63) / 64 := by rw [hf, hc]
    rw [← hc] at hb
    rw [hh]
    have HC := hid hc
    clear hc hh
    unfold gv
    go_enter Try.func22, Try.ntmps22
    go_wp2_with fail
    refine (rcheck_any _ _ _).mono ?_
    rw [if_pos hg]
    rintro e w1 ⟨rfl, h1⟩
    have A1 := hid ((At.new w m r).on h1)
    clear h1
    go_wp2_with fail
    go_loopw [3] (fun u wr => ∃ k : Nat, u = .int .i64 k ∧ k ≤ (69 * c + 63) / 64 ∧ Hid (At w w.heap.size m r wr)) (fun u _ => 2000 - (intOf u).toNat)
    case atStart => exact ⟨0, rfl, by omega, A1⟩
    case round =>
      obtain ⟨k, rfl, hk, HA⟩ := hrel
      go_wp2_with ((with_reducible apply ldR (cs := #[Value.int .i64 m, .int .i64 r]) (tGe _ _)); rfl; exact HA.out.blk.whole)
      refine (rcapacity_any _ _ _).mono ?_
      rw [L_good hg]
      rintro e w2 ⟨rfl, h2⟩
      have A2 := hid (HA.out.on h2)
      clear h2 HA
      rw [← HC.out]
      by_cases hgo : 64 * k < 69 * c
      · have t1 : 64 * (k : Int) < 69 * (c : Int) := by omega
        go_wp2_with fail
        go_roundw
        case rel => exact ⟨k + 1, by go_num, by omega, A2⟩
        case measure => simp [intOf] <;> omega
      · have t1 : ¬ 64 * (k : Int) < 69 * (c : Int) := by omega
        go_wp2_with fail
        go_ret
        exact ⟨ret_i (by omega), A2.out.bel⟩
  · rw [L_bad hg]
    unfold gv
    go_enter Try.func22, Try.ntmps22
    go_wp2_with fail
    refine (rcheck_any _ _ _).mono ?_
    rw [if_neg hg]
    rintro e w1 ⟨rfl, h1⟩
    have A1 := hid ((At.new w a b).on h1)
    clear h1
    go_wp2_with fail
    go_ret
    exact ⟨rfl, A1.out.bel⟩
theorem rleast_any (k : Int) (w : World) : Calls Try.prog 35 #[.int .i64 k] w fun e w' => e = .returned (.int .i64 (lw k)) ∧ w = w' := by
  unfold lw
  go_enter Try.func35, Try.ntmps35
  go_wp2_with fail
  all_goals go_ret
  all_goals exact ⟨ret_i (by simp_all), rfl⟩
set_option maxHeartbeats 800000 in
theorem rcount_any {m r k : Nat} (hg : Good m r) (h1 : 1 ≤ k) (h4 : k ≤ 4) (w : World) : Calls Try.prog 33 #[gv m r, .int .i64 k] w fun e w' => e = .returned (.int .i64 (sz m r k)) ∧ Below w.heap.size w w' := by
  have hk : k = 1 ∨ k = 2 ∨ k = 3 ∨ k = 4 := by omega
  have b1 := hf_bd hg
  clear h1 h4
  rcases hk with rfl | rfl | rfl | rfl
  · unfold gv
    go_enter Try.func33, Try.ntmps33
    go_wp2_with fail
    go_ret
    exact ⟨rfl, below_al _⟩
  · unfold gv
    rw [sz_2]
    go_enter Try.func33, Try.ntmps33
    go_wp2_with ((with_reducible apply ldR (cs := #[Value.int .i64 m, .int .i64 r]) (tGe _ _)); rfl; exact (At.new w m r).blk.whole)
    refine (rhalf_any _ _ _).mono ?_
    rw [L_good hg]
    rintro e w2 ⟨rfl, h2⟩
    have A2 := hid ((At.new w m r).on h2)
    clear h2
    go_wp2_with fail
    go_ret
    exact ⟨ret_i (by omega), A2.out.bel⟩
  · unfold gv
    rw [sz_3]
    go_enter Try.func33, Try.ntmps33
    go_wp2_with ((with_reducible apply ldR (cs := #[Value.int .i64 m, .int .i64 r]) (tGe _ _)); rfl; exact (At.new w m r).blk.whole)
    refine (rnodes_any _ _ _).mono ?_
    rw [L_good hg]
    rintro e w2 ⟨rfl, h2⟩
    have A2 := hid ((At.new w m r).on h2)
    clear h2
    go_wp2_with fail
    go_ret
    exact ⟨rfl, A2.out.bel⟩
  · unfold gv
    rw [sz_4]
    go_enter Try.func33, Try.ntmps33
    go_wp2_with fail
    go_ret
    exact ⟨rfl, below_al _⟩
theorem sz_le {m r k : Nat} (hg : Good m r) (h1 : 1 ≤ k) (h4 : k ≤ 4) : sz m r k ≤ 20000 := by
  have := st_sz m r h1 h4
  have := @st_le m r (k + 1) hg
  omega
set_option maxHeartbeats 800000 in
theorem rsectors_any : Tells 24 (L sec) := fun a b w => by
  by_cases hg : Good a b
  · obtain ⟨m, r, rfl, rfl, k1, k2, k3, k4⟩ := good_nat hg
    rw [L_good hg]
    unfold gv
    go_enter Try.func24, Try.ntmps24
    go_wp2_with fail
    refine (rcheck_any _ _ _).mono ?_
    rw [if_pos hg]
    rintro e w1 ⟨rfl, h1⟩
    have A1 := hid ((At.new w m r).on h1)
    clear h1
    go_wp2_with fail
    go_loopw [3, 4] (fun n u wr => ∃ k x : Nat, n = .int .i64 x ∧ u = .int .i64 k ∧ 1 ≤ k ∧ k ≤ 5 ∧ Hid (x = st m r k) ∧ Hid (At w w.heap.size m r wr)) (fun _ u _ => 5 - (intOf u).toNat)
    case atStart => exact ⟨1, 0, rfl, rfl, by omega, by omega, hid rfl, A1⟩
    case round =>
      obtain ⟨k, x, rfl, rfl, hk, hk5, HX, HA⟩ := hrel
      by_cases hgo : k ≤ 4
      · have t1 : (k : Int) ≤ 4 := by omega
        have b1 := @st_le m r k hg
        have b2 := sz_le hg hk hgo
        have b3 := st_sz m r hk hgo
        have b4 := HX.out
        have HK := hid hk
        go_wp2_with ((with_reducible apply ldR (cs := #[Value.int .i64 m, .int .i64 r]) (tGe _ _)); rfl; exact HA.out.blk.whole)
        refine (rcount_any hg HK.out hgo _).mono ?_
        rintro e w2 ⟨rfl, h2⟩
        have A2 := hid (HA.out.on h2)
        clear h2 HA
        go_wp2_with fail
        go_roundw
        case rel => exact ⟨k + 1, x + sz m r k, by go_num, by go_num, by omega, by omega, hid (by omega), A2⟩
        case measure => simp [intOf] <;> omega
      · have t1 : ¬ (k : Int) ≤ 4 := by omega
        go_wp2_with fail
        go_ret
        exact ⟨ret_i (by have := HX.out; rw [this, show k = 5 by omega]; rfl), HA.out.bel⟩
  · rw [L_bad hg]
    unfold gv
    go_enter Try.func24, Try.ntmps24
    go_wp2_with fail
    refine (rcheck_any _ _ _).mono ?_
    rw [if_neg hg]
    rintro e w1 ⟨rfl, h1⟩
    have A1 := hid ((At.new w a b).on h1)
    clear h1
    go_wp2_with fail
    go_ret
    exact ⟨rfl, A1.out.bel⟩
end GeM
end Go.Proofs.Ytfhblbgkpfoecaa
set_option maxRecDepth 100000
namespace Go.Proofs.Ytfhblbgkpfoecaa
open Go.ChangeShapes Go.WideShapes Go.ChangeAt Go.RowKit
attribute [local go_sem] Gives
namespace GeM
set_option maxHeartbeats 800000 in
theorem rplace_any (a b k i : Int) (w : World) : Calls Try.prog 27 #[gv a b, .int .i64 k, .int .i64 i] w fun e w' => e = .returned (plV (pl a b k i)) ∧ Below w.heap.size w w' := by
  by_cases hg : Good a b
  · obtain ⟨m, r, rfl, rfl, _, _, _, _⟩ := good_nat hg
    by_cases hk : 1 ≤ k ∧ k ≤ 4
    · obtain ⟨c, rfl⟩ : ∃ c : Nat, k = c := ⟨k.toNat, by omega⟩
      have hc1 : 1 ≤ c := by omega
      have hc4 : c ≤ 4 := by omega
      have hp := pl_L hc1 hc4 m r i
      rw [L_good hg, L_good hg] at hp
      have hz := st_sz m r hc1 hc4
      have hb := @st_le m r (c + 1) hg
      have HP := hid hp
      have HB := hid hb
      have HZ := hid hz
      have t1 : ¬ (c : Int) < 1 := by omega
      have t4 : ¬ 4 < (c : Int) := by omega
      clear hp hb hz hk
      unfold gv
      go_enter Try.func27, Try.ntmps27
      go_wp2_with fail
      refine (rcheck_any _ _ _).mono ?_
      rw [if_pos hg]
      rintro e w1 ⟨rfl, h1⟩
      have A1 := hid ((At.new w m r).on h1)
      clear h1
      go_wp2_with fail
      go_loopw [8, 9] (fun n u wr => ∃ q x : Nat, n = .int .i64 x ∧ u = .int .i64 q ∧ 1 ≤ q ∧ q ≤ c ∧ Hid (x = st m r q) ∧ Hid (At w w.heap.size m r wr)) (fun _ u _ => 5 - (intOf u).toNat)
      case atStart => exact ⟨1, 0, rfl, rfl, by omega, by omega, hid rfl, A1⟩
      case round =>
        obtain ⟨q, x, rfl, rfl, hq, hqc, HX, HA⟩ := hrel
        by_cases hgo : q < c
        · have t2 : (q : Int) < c := by omega
          have b1 := @st_le m r q hg
          have b2 := sz_le hg hq (by omega)
          have b3 := st_sz m r hq (by omega)
          have b4 := HX.out
          have HQ := hid hq
          have HQ4 := hid (show q ≤ 4 by omega)
          go_wp2_with ((with_reducible apply ldR (cs := #[Value.int .i64 m, .int .i64 r]) (tGe _ _)); rfl; exact HA.out.blk.whole)
          refine (rcount_any hg HQ.out HQ4.out _).mono ?_
          rintro e w2 ⟨rfl, h2⟩
          have A2 := hid (HA.out.on h2)
          clear h2 HA
          go_wp2_with fail
          go_roundw
          case rel => exact ⟨q + 1, x + sz m r q, by go_num, by go_num, by omega, by omega, hid (by omega), A2⟩
          case measure => simp [intOf] <;> omega
        · have t2 : ¬ (q : Int) < c := by omega
          have e : q = c := by omega
          subst e
          have hx := HX.out
          subst hx
          clear HX hq hqc hgo A1
          go_wp2_with fail
          go_loopw [10] (fun u wr => ∃ j : Nat, u = .int .i64 j ∧ j ≤ sz m r q ∧ Hid (∀ n : Nat, n < j → (n : Int) + lw q ≠ i) ∧ Hid (At w w.heap.size m r wr)) (fun u _ => 30000 - (intOf u).toNat)
          case atStart => exact ⟨0, rfl, Nat.zero_le _, hid fun n hn => absurd hn (Nat.not_lt_zero _), HA⟩
          case round =>
            obtain ⟨j, rfl, hj, HN, HAj⟩ := hrel
            go_wp2_with ((with_reducible apply ldR (cs := #[Value.int .i64 m, .int .i64 r]) (tGe _ _)); rfl; exact HAj.out.blk.whole)
            refine (rcount_any hg hc1 hc4 _).mono ?_
            rintro e w2 ⟨rfl, h2⟩
            have A2 := hid (HAj.out.on h2)
            clear h2 HAj
            by_cases hgo : j < sz m r q
            · have t3 : (j : Int) < (sz m r q : Nat) := by omega
              go_wp2_with fail
              refine (rleast_any _ _).mono ?_
              rintro e w3 ⟨rfl, rfl⟩
              have hb := HB.out
              have hz := HZ.out
              have l1 : lw q ≤ 1 := by unfold lw; split <;> omega
              by_cases he : (j : Int) + lw q = i
              · go_wp2_with fail
                go_ret2
                rw [HP.out, if_pos (by omega)]
                refine ⟨?_, A2.out.bel⟩
                unfold plV
                refine congrArg (fun v : Int => Ending.returned (.tuple #[.int .i64 v, .int .i64 0])) ?_
                omega
              · go_wp2_with fail
                go_roundw
                case rel =>
                  refine ⟨j + 1, by go_num, by omega, hid fun n hn => ?_, A2⟩
                  by_cases e : n = j
                  · subst e; exact he
                  · exact HN.out n (by omega)
                case measure => simp [intOf] <;> omega
            · have t3 : ¬ (j : Int) < (sz m r q : Nat) := by omega
              go_wp2_with fail
              go_ret2
              rw [HP.out, if_neg]
              · exact ⟨rfl, A2.out.bel⟩
              · rintro ⟨e1, e2⟩
                have hz := HZ.out
                exact HN.out (i - lw q).toNat (by omega) (by omega)
    · rw [pl_none (by omega)]
      by_cases h1 : k < 1
      · unfold gv
        go_enter Try.func27, Try.ntmps27
        go_wp2_with fail
        refine (rcheck_any _ _ _).mono ?_
        rw [if_pos hg]
        rintro e w1 ⟨rfl, h1⟩
        have A1 := hid ((At.new w _ _).on h1)
        clear h1
        go_wp2_with fail
        go_ret2
        exact ⟨rfl, A1.out.bel⟩

      · have h4 : 4 < k := by omega
        unfold gv
        go_enter Try.func27, Try.ntmps27
        go_wp2_with fail
        refine (rcheck_any _ _ _).mono ?_
        rw [if_pos hg]
        rintro e w1 ⟨rfl, h1⟩
        have A1 := hid ((At.new w _ _).on h1)
        clear h1
        go_wp2_with fail
        go_ret2
        exact ⟨rfl, A1.out.bel⟩

  · rw [pl_none fun e => hg e.1]
    unfold gv
    go_enter Try.func27, Try.ntmps27
    go_wp2_with fail
    refine (rcheck_any _ _ _).mono ?_
    rw [if_neg hg]
    rintro e w1 ⟨rfl, h1⟩
    have A1 := hid ((At.new w _ _).on h1)
    clear h1
    go_wp2_with fail
    go_ret2
    exact ⟨rfl, A1.out.bel⟩

theorem wh_at {m r q : Nat} {p : Int} (hg : Good m r) (h1 : 1 ≤ q) (h4 : q ≤ 4) (hl : (st m r q : Int) ≤ p) (hu : p < (st m r (q + 1) : Nat)) : whV (wh m r p) = .tuple #[.int .i64 (q : Nat), .int .i64 (p - (st m r q : Nat) + (lw q : Nat)), .int .i64 0] := by
  have e := rg_is (a := m) (b := r) (p := p) h1 h4 hl hu
  have hm := @st_mono m r (q + 1) 5 (by omega) (by omega) (by omega)
  have hw : wh m r p = some (q, p.toNat - st m r q + lw q) := by
    rw [wh, if_pos ⟨hg, by omega, by unfold sec; simp only [Int.toNat_natCast]; omega⟩, e]
    rfl
  rw [hw]
  unfold whV
  exact congrArg (fun v : Int => Value.tuple #[.int .i64 (q : Nat), .int .i64 v, .int .i64 0]) (by simp only; omega)
set_option maxHeartbeats 800000 in
theorem rwhat_any (a b p : Int) (hp : -9223372036854775808 ≤ p ∧ p ≤ 9223372036854775807) (w : World) : Calls Try.prog 29 #[gv a b, .int .i64 p] w fun e w' => e = .returned (whV (wh a b p)) ∧ Below w.heap.size w w' := by
  by_cases hg : Good a b
  · obtain ⟨m, r, rfl, rfl, _, _, _, _⟩ := good_nat hg
    by_cases h0 : 0 ≤ p
    · have t0 : ¬ p < 0 := by omega
      unfold gv
      go_enter Try.func29, Try.ntmps29
      go_wp2_with fail
      refine (rcheck_any _ _ _).mono ?_
      rw [if_pos hg]
      rintro e w1 ⟨rfl, h1⟩
      have A1 := hid ((At.new w m r).on h1)
      clear h1
      go_wp2_with fail
      go_loopw [1, 7] (fun n u wr => ∃ (q : Nat) (x : Int), n = .int .i64 x ∧ u = .int .i64 q ∧ 1 ≤ q ∧ q ≤ 5 ∧ Hid (x = p - st m r q ∧ 0 ≤ x) ∧ Hid (At w w.heap.size m r wr)) (fun _ u _ => 6 - (intOf u).toNat)
      case atStart => exact ⟨1, p, rfl, rfl, by omega, by omega, hid ⟨by rw [st_1]; omega, h0⟩, A1⟩
      case round =>
        obtain ⟨q, x, rfl, rfl, hq, hq5, HX, HA⟩ := hrel
        clear A1
        by_cases hgo : q ≤ 4
        · have t2 : (q : Int) ≤ 4 := by omega
          have b1 := @st_le m r q hg
          have b2 := sz_le hg hq hgo
          have b3 := st_sz m r hq hgo
          obtain ⟨b4, b5⟩ := HX.out
          have HQ := hid hq
          go_wp2_with ((with_reducible apply ldR (cs := #[Value.int .i64 m, .int .i64 r]) (tGe _ _)); rfl; exact HA.out.blk.whole)
          refine (rcount_any hg HQ.out hgo _).mono ?_
          rintro e w2 ⟨rfl, h2⟩
          have A2 := hid (HA.out.on h2)
          clear h2 HA
          by_cases hx : x < (sz m r q : Nat)
          · go_wp2_with fail
            refine (rleast_any _ _).mono ?_
            rintro e w3 ⟨rfl, rfl⟩
            have l1 : lw q ≤ 1 := by unfold lw; split <;> omega
            go_wp2_with fail
            go_ret3
            refine ⟨?_, A2.out.bel⟩
            rw [wh_at hg HQ.out hgo (by omega) (by omega)]
            rfl
          · go_wp2_with ((with_reducible apply ldR (cs := #[Value.int .i64 m, .int .i64 r]) (tGe _ _)); rfl; exact A2.out.blk.whole)
            refine (rcount_any hg HQ.out hgo _).mono ?_
            rintro e w3 ⟨rfl, h3⟩
            have A3 := hid (A2.out.on h3)
            clear h3 A2
            go_wp2_with fail
            go_roundw
            case rel => exact ⟨q + 1, x - sz m r q, by go_num, by go_num, by omega, by omega, hid ⟨by omega, by omega⟩, A3⟩
            case measure => simp [intOf] <;> omega
        · have t2 : ¬ (q : Int) ≤ 4 := by omega
          have e5 : q = 5 := by omega
          subst e5
          go_wp2_with fail
          go_ret3
          refine ⟨?_, HA.out.bel⟩
          rw [(wh_none (a := m) (b := r) (p := p) ?_).1]
          · rfl
          · rintro ⟨_, _, e⟩
            rw [L_good hg] at e
            have := HX.out
            unfold sec at e
            omega
    · have t0 : p < 0 := by omega
      rw [(wh_none (a := m) (b := r) (p := p) (by omega)).1]
      unfold gv
      go_enter Try.func29, Try.ntmps29
      go_wp2_with fail
      refine (rcheck_any _ _ _).mono ?_
      rw [if_pos hg]
      rintro e w1 ⟨rfl, h1⟩
      have A1 := hid ((At.new w _ _).on h1)
      clear h1
      go_wp2_with fail
      go_ret3
      exact ⟨rfl, A1.out.bel⟩
  · rw [(wh_none fun e => hg e.1).1]
    unfold gv
    go_enter Try.func29, Try.ntmps29
    go_wp2_with fail
    refine (rcheck_any _ _ _).mono ?_
    rw [if_neg hg]
    rintro e w1 ⟨rfl, h1⟩
    have A1 := hid ((At.new w _ _).on h1)
    clear h1
    go_wp2_with fail
    go_ret3
    exact ⟨rfl, A1.out.bel⟩
end GeM
end Go.Proofs.Ytfhblbgkpfoecaa
set_option maxRecDepth 100000
namespace Go.Proofs.Ytfhblbgkpfoecaa
open Go.ChangeShapes Go.WideShapes Go.ChangeAt Go.RowKit
attribute [local go_sem] Gives
namespace GeM
theorem pl_41 : pl 4 1 3 1 = some 50 := by decide +kernel
theorem n_41 : L lv 4 1 = 4 ∧ L ht 4 1 = 2 ∧ L hf 4 1 = 21 ∧ L sec 4 1 = 54 := by decide +kernel
set_option maxHeartbeats 800000 in
theorem works_any (w : World) : Calls Try.prog 25 #[] w fun e w' => e = .returned (.bool true) ∧ Below w.heap.size w w' := by
  obtain ⟨n1, n2, n3, n4⟩ := n_41
  have N1 := hid n1
  have N2 := hid n2
  have N3 := hid n3
  have N4 := hid n4
  clear n1 n2 n3 n4
  go_enter Try.func25, Try.ntmps25
  go_wp2_with fail
  refine (place_any 4 1 3 1 (by omega) _).mono ?_
  rw [pl_41]
  rintro e w1 ⟨rfl, h1⟩
  have A1 := hid ((At.new w 4 1).on h1)
  clear h1
  unfold plV
  have q0 := A1.out.c0
  have q1 := A1.out.c1
  go_wp2_with fail
  refine (leaves_any 4 1 _).mono ?_
  rw [N1.out]
  rintro e w2 ⟨rfl, h2⟩
  have A2 := hid (A1.out.on h2)
  clear h2 A1 q0 q1
  have q0 := A2.out.c0
  have q1 := A2.out.c1
  go_wp2_with fail
  refine (height_any 4 1 _).mono ?_
  rw [N2.out]
  rintro e w3 ⟨rfl, h3⟩
  have A3 := hid (A2.out.on h3)
  clear h3 A2 q0 q1
  have q0 := A3.out.c0
  have q1 := A3.out.c1
  go_wp2_with fail
  refine (half_any 4 1 _).mono ?_
  rw [N3.out]
  rintro e w4 ⟨rfl, h4⟩
  have A4 := hid (A3.out.on h4)
  clear h4 A3 q0 q1
  have q0 := A4.out.c0
  have q1 := A4.out.c1
  go_wp2_with fail
  refine (sectors_any 4 1 _).mono ?_
  rw [N4.out]
  rintro e w5 ⟨rfl, h5⟩
  have A5 := hid (A4.out.on h5)
  clear h5 A4 q0 q1
  go_wp2_with fail
  go_ret
  exact ⟨rfl, A5.out.bel⟩
end GeM
end Go.Proofs.Ytfhblbgkpfoecaa
set_option maxRecDepth 100000
namespace Go.Proofs.Ytfhblbgkpfoecaa
open Go.ChangeShapes Go.WideShapes Go.ChangeAt Go.RowKit
attribute [local go_sem] Gives
namespace GeM
def cg (a b : Int) : Int := if Good a b then 0 else 2
theorem check_c (a b : Int) (w : World) : Calls Try.prog 9 #[gv a b] w fun e w' => e = .returned (.int .i64 (cg a b)) ∧ Below w.heap.size w w' := check_any a b w
theorem rcheck_c (a b : Int) (w : World) : Calls Try.prog 10 #[gv a b] w fun e w' => e = .returned (.int .i64 (cg a b)) ∧ Below w.heap.size w w' := rcheck_any a b w
set_option maxHeartbeats 4000000 in
theorem counts_law (a b : Int) (W : World) : Calls Try.prog 3 #[gv a b] W fun e w' => e = .returned (.bool true) ∧ Below W.heap.size W w' := by
  unfold gv
  go_enter Try.func3, Try.ntmps3
  go_wp2_with fail
  refine wp_region_tail (C := At W W.heap.size a b) 25 (by kernel_rfl) (by kernel_rfl) (by kernel_rfl) (At.new W a b).drew ?_
  simp only [List.take_succ_cons, List.take_zero, List.drop_succ_cons, List.drop_zero]
  apply kldR (tGe _ _)
  · rfl
  · rfl
  · exact fun w' hw' => hw'.blk.whole
  simp only [Act.put, List.setIfInBounds_toArray, List.set_cons_succ, List.set_cons_zero]
  apply wpK_val
  · rfl
  · intro w' hw'
    go_simp
    exact (check_c _ _ w').mono fun e w5 h => ⟨h.1, hw'.on h.2⟩
  simp only [Act.put, List.setIfInBounds_toArray, List.set_cons_succ, List.set_cons_zero]
  apply kldR (tGe _ _)
  · rfl
  · rfl
  · exact fun w' hw' => hw'.blk.whole
  simp only [Act.put, List.setIfInBounds_toArray, List.set_cons_succ, List.set_cons_zero]
  apply wpK_val
  · rfl
  · intro w' hw'
    go_simp
    exact (rcheck_c _ _ w').mono fun e w5 h => ⟨h.1, hw'.on h.2⟩
  simp only [Act.put, List.setIfInBounds_toArray, List.set_cons_succ, List.set_cons_zero]
  apply wpK_val
  · rfl
  · intro w' hw'
    have h1 : ∀ x : Int, (x != x) = false := fun x => by simp
    go_simp
    first | exact rfl | exact ⟨rfl, hw'⟩
  simp only [Act.put, List.setIfInBounds_toArray, List.set_cons_succ, List.set_cons_zero]
  apply wpK_val
  · rfl
  · intro w' hw'
    go_simp
    first | exact rfl | exact ⟨rfl, hw'⟩
  simp only [Act.put, List.setIfInBounds_toArray, List.set_cons_succ, List.set_cons_zero]
  apply kldR (tGe _ _)
  · rfl
  · rfl
  · exact fun w' hw' => hw'.blk.whole
  simp only [Act.put, List.setIfInBounds_toArray, List.set_cons_succ, List.set_cons_zero]
  apply wpK_val
  · rfl
  · intro w' hw'
    go_simp
    exact (leaves_any _ _ w').mono fun e w5 h => ⟨h.1, hw'.on h.2⟩
  simp only [Act.put, List.setIfInBounds_toArray, List.set_cons_succ, List.set_cons_zero]
  apply kldR (tGe _ _)
  · rfl
  · rfl
  · exact fun w' hw' => hw'.blk.whole
  simp only [Act.put, List.setIfInBounds_toArray, List.set_cons_succ, List.set_cons_zero]
  apply wpK_val
  · rfl
  · intro w' hw'
    go_simp
    exact (rleaves_any _ _ w').mono fun e w5 h => ⟨h.1, hw'.on h.2⟩
  simp only [Act.put, List.setIfInBounds_toArray, List.set_cons_succ, List.set_cons_zero]
  apply wpK_val
  · rfl
  · intro w' hw'
    have h1 : ∀ x : Int, (x != x) = false := fun x => by simp
    go_simp
    first | exact rfl | exact ⟨rfl, hw'⟩
  simp only [Act.put, List.setIfInBounds_toArray, List.set_cons_succ, List.set_cons_zero]
  apply wpK_val
  · rfl
  · intro w' hw'
    go_simp
    first | exact rfl | exact ⟨rfl, hw'⟩
  simp only [Act.put, List.setIfInBounds_toArray, List.set_cons_succ, List.set_cons_zero]
  apply wpK_val
  · rfl
  · intro w' hw'
    go_simp
    first | exact rfl | exact ⟨rfl, hw'⟩
  simp only [Act.put, List.setIfInBounds_toArray, List.set_cons_succ, List.set_cons_zero]
  apply kldR (tGe _ _)
  · rfl
  · rfl
  · exact fun w' hw' => hw'.blk.whole
  simp only [Act.put, List.setIfInBounds_toArray, List.set_cons_succ, List.set_cons_zero]
  apply wpK_val
  · rfl
  · intro w' hw'
    go_simp
    exact (height_any _ _ w').mono fun e w5 h => ⟨h.1, hw'.on h.2⟩
  simp only [Act.put, List.setIfInBounds_toArray, List.set_cons_succ, List.set_cons_zero]
  apply kldR (tGe _ _)
  · rfl
  · rfl
  · exact fun w' hw' => hw'.blk.whole
  simp only [Act.put, List.setIfInBounds_toArray, List.set_cons_succ, List.set_cons_zero]
  apply wpK_val
  · rfl
  · intro w' hw'
    go_simp
    exact (rheight_any _ _ w').mono fun e w5 h => ⟨h.1, hw'.on h.2⟩
  simp only [Act.put, List.setIfInBounds_toArray, List.set_cons_succ, List.set_cons_zero]
  apply wpK_val
  · rfl
  · intro w' hw'
    have h1 : ∀ x : Int, (x != x) = false := fun x => by simp
    go_simp
    first | exact rfl | exact ⟨rfl, hw'⟩
  simp only [Act.put, List.setIfInBounds_toArray, List.set_cons_succ, List.set_cons_zero]
  apply wpK_val
  · rfl
  · intro w' hw'
    go_simp
    first | exact rfl | exact ⟨rfl, hw'⟩
  simp only [Act.put, List.setIfInBounds_toArray, List.set_cons_succ, List.set_cons_zero]
  apply wpK_val
  · rfl
  · intro w' hw'
    go_simp
    first | exact rfl | exact ⟨rfl, hw'⟩
  simp only [Act.put, List.setIfInBounds_toArray, List.set_cons_succ, List.set_cons_zero]
  apply kldR (tGe _ _)
  · rfl
  · rfl
  · exact fun w' hw' => hw'.blk.whole
  simp only [Act.put, List.setIfInBounds_toArray, List.set_cons_succ, List.set_cons_zero]
  apply wpK_val
  · rfl
  · intro w' hw'
    go_simp
    exact (nodes_any _ _ w').mono fun e w5 h => ⟨h.1, hw'.on h.2⟩
  simp only [Act.put, List.setIfInBounds_toArray, List.set_cons_succ, List.set_cons_zero]
  apply kldR (tGe _ _)
  · rfl
  · rfl
  · exact fun w' hw' => hw'.blk.whole
  simp only [Act.put, List.setIfInBounds_toArray, List.set_cons_succ, List.set_cons_zero]
  apply wpK_val
  · rfl
  · intro w' hw'
    go_simp
    exact (rnodes_any _ _ w').mono fun e w5 h => ⟨h.1, hw'.on h.2⟩
  simp only [Act.put, List.setIfInBounds_toArray, List.set_cons_succ, List.set_cons_zero]
  apply wpK_val
  · rfl
  · intro w' hw'
    have h1 : ∀ x : Int, (x != x) = false := fun x => by simp
    go_simp
    first | exact rfl | exact ⟨rfl, hw'⟩
  simp only [Act.put, List.setIfInBounds_toArray, List.set_cons_succ, List.set_cons_zero]
  refine wpK_nil fun w1 hw1 => ?_
  have A1 := hid hw1
  clear hw1
  go_wp2_with fail
  refine wp_region_tail (C := At W W.heap.size a b) 29 (by kernel_rfl) (by kernel_rfl) (by kernel_rfl) A1.out.drew ?_
  simp only [List.take_succ_cons, List.take_zero, List.drop_succ_cons, List.drop_zero]
  apply kldR (tGe _ _)
  · rfl
  · rfl
  · exact fun w' hw' => hw'.blk.whole
  simp only [Act.put, List.setIfInBounds_toArray, List.set_cons_succ, List.set_cons_zero]
  apply wpK_val
  · rfl
  · intro w' hw'
    go_simp
    exact (logical_any _ _ w').mono fun e w5 h => ⟨h.1, hw'.on h.2⟩
  simp only [Act.put, List.setIfInBounds_toArray, List.set_cons_succ, List.set_cons_zero]
  apply kldR (tGe _ _)
  · rfl
  · rfl
  · exact fun w' hw' => hw'.blk.whole
  simp only [Act.put, List.setIfInBounds_toArray, List.set_cons_succ, List.set_cons_zero]
  apply wpK_val
  · rfl
  · intro w' hw'
    go_simp
    exact (rlogical_any _ _ w').mono fun e w5 h => ⟨h.1, hw'.on h.2⟩
  simp only [Act.put, List.setIfInBounds_toArray, List.set_cons_succ, List.set_cons_zero]
  apply wpK_val
  · rfl
  · intro w' hw'
    have h1 : ∀ x : Int, (x == x) = true := fun x => by simp
    go_simp
    first | exact rfl | exact ⟨rfl, hw'⟩
  simp only [Act.put, List.setIfInBounds_toArray, List.set_cons_succ, List.set_cons_zero]
  apply wpK_val
  · rfl
  · intro w' hw'
    go_simp
    first | exact rfl | exact ⟨rfl, hw'⟩
  simp only [Act.put, List.setIfInBounds_toArray, List.set_cons_succ, List.set_cons_zero]
  apply kldR (tGe _ _)
  · rfl
  · rfl
  · exact fun w' hw' => hw'.blk.whole
  simp only [Act.put, List.setIfInBounds_toArray, List.set_cons_succ, List.set_cons_zero]
  apply wpK_val
  · rfl
  · intro w' hw'
    go_simp
    exact (capacity_any _ _ w').mono fun e w5 h => ⟨h.1, hw'.on h.2⟩
  simp only [Act.put, List.setIfInBounds_toArray, List.set_cons_succ, List.set_cons_zero]
  apply kldR (tGe _ _)
  · rfl
  · rfl
  · exact fun w' hw' => hw'.blk.whole
  simp only [Act.put, List.setIfInBounds_toArray, List.set_cons_succ, List.set_cons_zero]
  apply wpK_val
  · rfl
  · intro w' hw'
    go_simp
    exact (rcapacity_any _ _ w').mono fun e w5 h => ⟨h.1, hw'.on h.2⟩
  simp only [Act.put, List.setIfInBounds_toArray, List.set_cons_succ, List.set_cons_zero]
  apply wpK_val
  · rfl
  · intro w' hw'
    have h1 : ∀ x : Int, (x == x) = true := fun x => by simp
    go_simp
    first | exact rfl | exact ⟨rfl, hw'⟩
  simp only [Act.put, List.setIfInBounds_toArray, List.set_cons_succ, List.set_cons_zero]
  apply wpK_val
  · rfl
  · intro w' hw'
    go_simp
    first | exact rfl | exact ⟨rfl, hw'⟩
  simp only [Act.put, List.setIfInBounds_toArray, List.set_cons_succ, List.set_cons_zero]
  apply wpK_val
  · rfl
  · intro w' hw'
    go_simp
    first | exact rfl | exact ⟨rfl, hw'⟩
  simp only [Act.put, List.setIfInBounds_toArray, List.set_cons_succ, List.set_cons_zero]
  apply kldR (tGe _ _)
  · rfl
  · rfl
  · exact fun w' hw' => hw'.blk.whole
  simp only [Act.put, List.setIfInBounds_toArray, List.set_cons_succ, List.set_cons_zero]
  apply wpK_val
  · rfl
  · intro w' hw'
    go_simp
    exact (half_any _ _ w').mono fun e w5 h => ⟨h.1, hw'.on h.2⟩
  simp only [Act.put, List.setIfInBounds_toArray, List.set_cons_succ, List.set_cons_zero]
  apply kldR (tGe _ _)
  · rfl
  · rfl
  · exact fun w' hw' => hw'.blk.whole
  simp only [Act.put, List.setIfInBounds_toArray, List.set_cons_succ, List.set_cons_zero]
  apply wpK_val
  · rfl
  · intro w' hw'
    go_simp
    exact (rhalf_any _ _ w').mono fun e w5 h => ⟨h.1, hw'.on h.2⟩
  simp only [Act.put, List.setIfInBounds_toArray, List.set_cons_succ, List.set_cons_zero]
  apply wpK_val
  · rfl
  · intro w' hw'
    have h1 : ∀ x : Int, (x == x) = true := fun x => by simp
    go_simp
    first | exact rfl | exact ⟨rfl, hw'⟩
  simp only [Act.put, List.setIfInBounds_toArray, List.set_cons_succ, List.set_cons_zero]
  apply wpK_val
  · rfl
  · intro w' hw'
    go_simp
    first | exact rfl | exact ⟨rfl, hw'⟩
  simp only [Act.put, List.setIfInBounds_toArray, List.set_cons_succ, List.set_cons_zero]
  apply wpK_val
  · rfl
  · intro w' hw'
    go_simp
    first | exact rfl | exact ⟨rfl, hw'⟩
  simp only [Act.put, List.setIfInBounds_toArray, List.set_cons_succ, List.set_cons_zero]
  apply kldR (tGe _ _)
  · rfl
  · rfl
  · exact fun w' hw' => hw'.blk.whole
  simp only [Act.put, List.setIfInBounds_toArray, List.set_cons_succ, List.set_cons_zero]
  apply wpK_val
  · rfl
  · intro w' hw'
    go_simp
    exact (sectors_any _ _ w').mono fun e w5 h => ⟨h.1, hw'.on h.2⟩
  simp only [Act.put, List.setIfInBounds_toArray, List.set_cons_succ, List.set_cons_zero]
  apply kldR (tGe _ _)
  · rfl
  · rfl
  · exact fun w' hw' => hw'.blk.whole
  simp only [Act.put, List.setIfInBounds_toArray, List.set_cons_succ, List.set_cons_zero]
  apply wpK_val
  · rfl
  · intro w' hw'
    go_simp
    exact (rsectors_any _ _ w').mono fun e w5 h => ⟨h.1, hw'.on h.2⟩
  simp only [Act.put, List.setIfInBounds_toArray, List.set_cons_succ, List.set_cons_zero]
  apply wpK_val
  · rfl
  · intro w' hw'
    have h1 : ∀ x : Int, (x == x) = true := fun x => by simp
    go_simp
    first | exact rfl | exact ⟨rfl, hw'⟩
  simp only [Act.put, List.setIfInBounds_toArray, List.set_cons_succ, List.set_cons_zero]
  apply wpK_val
  · rfl
  · intro w' hw'
    go_simp
    first | exact rfl | exact ⟨rfl, hw'⟩
  simp only [Act.put, List.setIfInBounds_toArray, List.set_cons_succ, List.set_cons_zero]
  apply wpK_val
  · rfl
  · intro w' hw'
    go_simp
    first | exact rfl | exact ⟨rfl, hw'⟩
  simp only [Act.put, List.setIfInBounds_toArray, List.set_cons_succ, List.set_cons_zero]
  apply wpK_val
  · rfl
  · intro w' hw'
    go_simp
    exact (works_any w').mono fun e w5 h => ⟨h.1, hw'.on h.2⟩
  simp only [Act.put, List.setIfInBounds_toArray, List.set_cons_succ, List.set_cons_zero]
  apply wpK_val
  · rfl
  · intro w' hw'
    go_simp
    first | exact rfl | exact ⟨rfl, hw'⟩
  simp only [Act.put, List.setIfInBounds_toArray, List.set_cons_succ, List.set_cons_zero]
  refine wpK_nil fun w5 hw5 => ?_
  have A5 := hid hw5
  clear hw5 A1
  go_wp2_with fail
  go_ret
  exact ⟨rfl, A5.out.bel⟩
end GeM
end Go.Proofs.Ytfhblbgkpfoecaa
set_option maxRecDepth 100000
namespace Go.Proofs.Ytfhblbgkpfoecaa
open Go.ChangeShapes Go.WideShapes Go.ChangeAt Go.RowKit
attribute [local go_sem] Gives
namespace GeM
theorem plV_two (o : Option Nat) : ∃ p e : Int, plV o = .tuple #[.int .i64 p, .int .i64 e] := by
  cases o
  · exact ⟨0, 2, rfl⟩
  · exact ⟨_, 0, rfl⟩
theorem whV_three (o : Option (Nat × Nat)) : ∃ k i e : Int, whV o = .tuple #[.int .i64 k, .int .i64 i, .int .i64 e] := by
  cases o
  · exact ⟨0, 0, 2, rfl⟩
  · exact ⟨_, _, 0, rfl⟩
/-- A geometry and two ints in memory. -/
structure Gw (B : World) (g h : Nat) (a b x y : Int) (w : World) : Prop where
  a : At B g a b w
  p : Blk w h 29 #[.int .i64 x, .int .i64 y]
section
variable {B w w' : World} {g h : Nat} {a b x y : Int}
theorem Gw.on (H : Gw B g h a b x y w) (hb : Below w.heap.size w w') : Gw B g h a b x y w' := ⟨H.a.on hb, H.p.below hb H.p.lt⟩
theorem Gw.x0 (H : Gw B g h a b x y w) : w.cell? ⟨h, 0, none⟩ = some (.int .i64 x) := H.p.cell 0
theorem Gw.x1 (H : Gw B g h a b x y w) : w.cell? ⟨h, 1, none⟩ = some (.int .i64 y) := H.p.cell 1
theorem Gw.new : Gw B B.heap.size (B.heap.size + 1) a b x y ((B.alloc (.cells #[.int .i64 a, .int .i64 b] tyG)).alloc (.cells #[.int .i64 x, .int .i64 y] 29)) :=
  ⟨(At.new B a b).on (below_al _), Blk.top rfl (by simp)⟩
end
set_option maxHeartbeats 4000000 in
theorem places_law (a b x y p : Int) (hy : -9223372036854775808 ≤ y ∧ y ≤ 9223372036854775807) (hp : -9223372036854775808 ≤ p ∧ p ≤ 9223372036854775807) (W : World) : Calls Try.prog 4 #[gv a b, .agg #[.int .i64 x, .int .i64 y], .int .i64 p] W fun e w' => e = .returned (.bool true) ∧ Below W.heap.size W w' := by
  obtain ⟨u, v, huv⟩ := plV_two (pl a b x y)
  obtain ⟨k, i, j, hkij⟩ := whV_three (wh a b p)
  have HU := hid huv
  have HK := hid hkij
  have HY := hid hy
  have HP := hid hp
  clear huv hkij hy hp
  unfold gv
  go_enter Try.func4, Try.ntmps4
  have G0 := hid (Gw.new (B := W) (a := a) (b := b) (x := x) (y := y))
  go_wp2_with fail
  refine (place_any a b x y HY.out _).mono ?_
  rintro e w1 ⟨rfl, h1⟩
  rw [HU.out]
  have G1 := hid (G0.out.on h1)
  have q0 := G1.out.a.c0
  have q1 := G1.out.a.c1
  have q2 := G1.out.x0
  have q3 := G1.out.x1
  clear h1 G0
  go_wp2_with fail
  refine (rplace_any a b x y _).mono ?_
  rintro e w2 ⟨rfl, h2⟩
  rw [HU.out]
  have G2 := hid (G1.out.on h2)
  clear q0 q1 q2 q3
  have q0 := G2.out.a.c0
  have q1 := G2.out.a.c1
  clear h2 G1
  go_wp2_with fail
  refine (what_any a b p _).mono ?_
  rintro e w3 ⟨rfl, h3⟩
  rw [HK.out]
  have G3 := hid (G2.out.on h3)
  clear q0 q1
  have q0 := G3.out.a.c0
  have q1 := G3.out.a.c1
  clear h3 G2
  go_wp2_with fail
  refine (rwhat_any a b p HP.out _).mono ?_
  rintro e w4 ⟨rfl, h4⟩
  rw [HK.out]
  have G4 := hid (G3.out.on h4)
  clear q0 q1 h4 G3
  go_wp2_with fail
  refine (works_any _).mono ?_
  rintro e w5 ⟨rfl, h5⟩
  have G5 := hid (G4.out.on h5)
  clear h5 G4
  go_wp2_with fail
  go_ret
  exact ⟨rfl, G5.out.a.bel⟩
end GeM
end Go.Proofs.Ytfhblbgkpfoecaa
set_option maxRecDepth 100000
namespace Go.Proofs.Ytfhblbgkpfoecaa
open Go.ChangeShapes Go.WideShapes Go.ChangeAt Go.RowKit
attribute [local go_sem] Gives
namespace GeM
theorem wh_small {a b p : Int} {k i : Nat} (h : wh a b p = some (k, i)) : i ≤ 40000 ∧ pl a b k i = some p.toNat ∧ ((p.toNat : Nat) : Int) = p := by
  obtain ⟨h1, h2⟩ := wh_pl h
  refine ⟨?_, h1, by omega⟩
  unfold pl at h1
  split at h1
  · rename_i hg
    obtain ⟨hg, e1, e4, e5, e6⟩ := hg
    obtain ⟨m, r, rfl, rfl, _⟩ := good_nat hg
    have := sz_le hg (k := k) (by omega) (by omega)
    have l1 : lw k ≤ 1 := by unfold lw; split <;> omega
    simp only [Int.toNat_natCast] at e6
    omega
  · cases h1
theorem cg_good {a b : Int} (h : Good a b) : cg a b = 0 := if_pos h
theorem cg_bad {a b : Int} (h : ¬ Good a b) : cg a b = 2 := if_neg h
section
variable (a b x y p : Int) (hy : -9223372036854775808 ≤ y ∧ y ≤ 9223372036854775807) (W : World)
include hy
set_option maxHeartbeats 4000000 in
theorem back_some_some {k i : Nat} (ho : wh a b p = some (k, i)) {s : Nat} (hq : pl a b x y = some s) : Calls Try.prog 5 #[gv a b, .int .i64 p, .agg #[.int .i64 x, .int .i64 y]] W fun e w' => e = .returned (.bool true) ∧ Below W.heap.size W w' := by
  obtain ⟨i4, hpl, hpp⟩ := wh_small ho
  have hc := wh_iff.1 ⟨_, ho⟩
  have HO := hid ho
  have HPL := hid hpl
  have HC := hid (cg_good hc.1)
  have HP0 := hid hc.2.1
  have HP1 := hid hc.2.2
  have HPP := hid hpp
  clear ho hpl hpp hc
  obtain ⟨k', i', hx, hyy, hw⟩ := pl_wh hq
  have HQ := hid hq
  have HW := hid hw
  have HX := hid hx
  have HYY := hid hyy
  clear hq hw hx hyy
  have HY := hid hy
  clear hy
  unfold gv
  go_enter Try.func5, Try.ntmps5
  have G0 := hid (Gw.new (B := W) (a := a) (b := b) (x := x) (y := y))
  go_wp2_with fail
  refine (what_any a b p _).mono ?_
  rintro e w1 ⟨rfl, h1⟩
  rw [HO.out]
  unfold whV
  have G1 := hid (G0.out.on h1)
  have q0 := G1.out.a.c0
  have q1 := G1.out.a.c1
  have q2 := G1.out.x0
  have q3 := G1.out.x1
  clear h1 G0
  go_wp2_with fail
  refine (check_c a b _).mono ?_
  rintro e w2 ⟨rfl, h2⟩
  rw [HC.out]
  have G2 := hid (G1.out.on h2)
  clear q0 q1 q2 q3
  have q0 := G2.out.a.c0
  have q1 := G2.out.a.c1
  have q2 := G2.out.x0
  have q3 := G2.out.x1
  clear h2 G1
  have t0 := HP0.out
  go_wp2_with fail
  refine (sectors_any a b _).mono ?_
  rintro e w3 ⟨rfl, h3⟩
  have G3 := hid (G2.out.on h3)
  clear q0 q1 q2 q3
  have q0 := G3.out.a.c0
  have q1 := G3.out.a.c1
  have q2 := G3.out.x0
  have q3 := G3.out.x1
  clear h3 G2
  have t1 := HP1.out
  go_wp2_with fail
  refine (place_any a b k i (by omega) _).mono ?_
  rintro e w4 ⟨rfl, h4⟩
  rw [HPL.out]
  unfold plV
  have G4 := hid (G3.out.on h4)
  clear q0 q1 q2 q3
  have q0 := G4.out.a.c0
  have q1 := G4.out.a.c1
  have q2 := G4.out.x0
  have q3 := G4.out.x1
  clear h4 G3
  have t2 := HPP.out
  go_wp2_with fail
  refine (place_any a b x y HY.out _).mono ?_
  rintro e w5 ⟨rfl, h5⟩
  rw [HQ.out]
  unfold plV
  have G5 := hid (G4.out.on h5)
  clear q0 q1 q2 q3
  have q0 := G5.out.a.c0
  have q1 := G5.out.a.c1
  have q2 := G5.out.x0
  have q3 := G5.out.x1
  clear h5 G4
  go_wp2_with fail
  refine (what_any a b s _).mono ?_
  rintro e w6 ⟨rfl, h6⟩
  rw [HW.out]
  unfold whV
  have G6 := hid (G5.out.on h6)
  clear q0 q1 q2 q3
  have q0 := G6.out.a.c0
  have q1 := G6.out.a.c1
  have q2 := G6.out.x0
  have q3 := G6.out.x1
  clear h6 G5
  have t3 := HX.out
  have t4 := HYY.out
  go_wp2_with fail
  refine (works_any _).mono ?_
  rintro e w7 ⟨rfl, h7⟩
  have G7 := hid (G6.out.on h7)
  clear q0 q1 q2 q3
  have q0 := G7.out.a.c0
  have q1 := G7.out.a.c1
  have q2 := G7.out.x0
  have q3 := G7.out.x1
  clear h7 G6
  go_wp2_with fail
  go_ret
  exact ⟨rfl, G7.out.a.bel⟩
set_option maxHeartbeats 4000000 in
theorem back_some_none {k i : Nat} (ho : wh a b p = some (k, i)) (hq : pl a b x y = none) : Calls Try.prog 5 #[gv a b, .int .i64 p, .agg #[.int .i64 x, .int .i64 y]] W fun e w' => e = .returned (.bool true) ∧ Below W.heap.size W w' := by
  obtain ⟨i4, hpl, hpp⟩ := wh_small ho
  have hc := wh_iff.1 ⟨_, ho⟩
  have HO := hid ho
  have HPL := hid hpl
  have HC := hid (cg_good hc.1)
  have HP0 := hid hc.2.1
  have HP1 := hid hc.2.2
  have HPP := hid hpp
  clear ho hpl hpp hc
  have HQ := hid hq
  clear hq
  have HY := hid hy
  clear hy
  unfold gv
  go_enter Try.func5, Try.ntmps5
  have G0 := hid (Gw.new (B := W) (a := a) (b := b) (x := x) (y := y))
  go_wp2_with fail
  refine (what_any a b p _).mono ?_
  rintro e w1 ⟨rfl, h1⟩
  rw [HO.out]
  unfold whV
  have G1 := hid (G0.out.on h1)
  have q0 := G1.out.a.c0
  have q1 := G1.out.a.c1
  have q2 := G1.out.x0
  have q3 := G1.out.x1
  clear h1 G0
  go_wp2_with fail
  refine (check_c a b _).mono ?_
  rintro e w2 ⟨rfl, h2⟩
  rw [HC.out]
  have G2 := hid (G1.out.on h2)
  clear q0 q1 q2 q3
  have q0 := G2.out.a.c0
  have q1 := G2.out.a.c1
  have q2 := G2.out.x0
  have q3 := G2.out.x1
  clear h2 G1
  have t0 := HP0.out
  go_wp2_with fail
  refine (sectors_any a b _).mono ?_
  rintro e w3 ⟨rfl, h3⟩
  have G3 := hid (G2.out.on h3)
  clear q0 q1 q2 q3
  have q0 := G3.out.a.c0
  have q1 := G3.out.a.c1
  have q2 := G3.out.x0
  have q3 := G3.out.x1
  clear h3 G2
  have t1 := HP1.out
  go_wp2_with fail
  refine (place_any a b k i (by omega) _).mono ?_
  rintro e w4 ⟨rfl, h4⟩
  rw [HPL.out]
  unfold plV
  have G4 := hid (G3.out.on h4)
  clear q0 q1 q2 q3
  have q0 := G4.out.a.c0
  have q1 := G4.out.a.c1
  have q2 := G4.out.x0
  have q3 := G4.out.x1
  clear h4 G3
  have t2 := HPP.out
  go_wp2_with fail
  refine (place_any a b x y HY.out _).mono ?_
  rintro e w5 ⟨rfl, h5⟩
  rw [HQ.out]
  unfold plV
  have G5 := hid (G4.out.on h5)
  clear q0 q1 q2 q3
  have q0 := G5.out.a.c0
  have q1 := G5.out.a.c1
  have q2 := G5.out.x0
  have q3 := G5.out.x1
  clear h5 G4
  go_wp2_with fail
  refine (works_any _).mono ?_
  rintro e w6 ⟨rfl, h6⟩
  have G6 := hid (G5.out.on h6)
  clear q0 q1 q2 q3
  have q0 := G6.out.a.c0
  have q1 := G6.out.a.c1
  have q2 := G6.out.x0
  have q3 := G6.out.x1
  clear h6 G5
  go_wp2_with fail
  go_ret
  exact ⟨rfl, G6.out.a.bel⟩
set_option maxHeartbeats 4000000 in
theorem back_bad_some (ho : ¬ Good a b) {s : Nat} (hq : pl a b x y = some s) : Calls Try.prog 5 #[gv a b, .int .i64 p, .agg #[.int .i64 x, .int .i64 y]] W fun e w' => e = .returned (.bool true) ∧ Below W.heap.size W w' := by
  have HO := hid (wh_none (a := a) (b := b) (p := p) (fun e => ho e.1)).1
  have HC := hid (cg_bad ho)
  clear ho
  obtain ⟨k', i', hx, hyy, hw⟩ := pl_wh hq
  have HQ := hid hq
  have HW := hid hw
  have HX := hid hx
  have HYY := hid hyy
  clear hq hw hx hyy
  have HY := hid hy
  clear hy
  unfold gv
  go_enter Try.func5, Try.ntmps5
  have G0 := hid (Gw.new (B := W) (a := a) (b := b) (x := x) (y := y))
  go_wp2_with fail
  refine (what_any a b p _).mono ?_
  rintro e w1 ⟨rfl, h1⟩
  rw [HO.out]
  unfold whV
  have G1 := hid (G0.out.on h1)
  have q0 := G1.out.a.c0
  have q1 := G1.out.a.c1
  have q2 := G1.out.x0
  have q3 := G1.out.x1
  clear h1 G0
  go_wp2_with fail
  refine (check_c a b _).mono ?_
  rintro e w2 ⟨rfl, h2⟩
  rw [HC.out]
  have G2 := hid (G1.out.on h2)
  clear q0 q1 q2 q3
  have q0 := G2.out.a.c0
  have q1 := G2.out.a.c1
  have q2 := G2.out.x0
  have q3 := G2.out.x1
  clear h2 G1
  go_wp2_with fail
  refine (place_any a b x y HY.out _).mono ?_
  rintro e w3 ⟨rfl, h3⟩
  rw [HQ.out]
  unfold plV
  have G3 := hid (G2.out.on h3)
  clear q0 q1 q2 q3
  have q0 := G3.out.a.c0
  have q1 := G3.out.a.c1
  have q2 := G3.out.x0
  have q3 := G3.out.x1
  clear h3 G2
  go_wp2_with fail
  refine (what_any a b s _).mono ?_
  rintro e w4 ⟨rfl, h4⟩
  rw [HW.out]
  unfold whV
  have G4 := hid (G3.out.on h4)
  clear q0 q1 q2 q3
  have q0 := G4.out.a.c0
  have q1 := G4.out.a.c1
  have q2 := G4.out.x0
  have q3 := G4.out.x1
  clear h4 G3
  have t3 := HX.out
  have t4 := HYY.out
  go_wp2_with fail
  refine (works_any _).mono ?_
  rintro e w5 ⟨rfl, h5⟩
  have G5 := hid (G4.out.on h5)
  clear q0 q1 q2 q3
  have q0 := G5.out.a.c0
  have q1 := G5.out.a.c1
  have q2 := G5.out.x0
  have q3 := G5.out.x1
  clear h5 G4
  go_wp2_with fail
  go_ret
  exact ⟨rfl, G5.out.a.bel⟩
set_option maxHeartbeats 4000000 in
theorem back_bad_none (ho : ¬ Good a b) (hq : pl a b x y = none) : Calls Try.prog 5 #[gv a b, .int .i64 p, .agg #[.int .i64 x, .int .i64 y]] W fun e w' => e = .returned (.bool true) ∧ Below W.heap.size W w' := by
  have HO := hid (wh_none (a := a) (b := b) (p := p) (fun e => ho e.1)).1
  have HC := hid (cg_bad ho)
  clear ho
  have HQ := hid hq
  clear hq
  have HY := hid hy
  clear hy
  unfold gv
  go_enter Try.func5, Try.ntmps5
  have G0 := hid (Gw.new (B := W) (a := a) (b := b) (x := x) (y := y))
  go_wp2_with fail
  refine (what_any a b p _).mono ?_
  rintro e w1 ⟨rfl, h1⟩
  rw [HO.out]
  unfold whV
  have G1 := hid (G0.out.on h1)
  have q0 := G1.out.a.c0
  have q1 := G1.out.a.c1
  have q2 := G1.out.x0
  have q3 := G1.out.x1
  clear h1 G0
  go_wp2_with fail
  refine (check_c a b _).mono ?_
  rintro e w2 ⟨rfl, h2⟩
  rw [HC.out]
  have G2 := hid (G1.out.on h2)
  clear q0 q1 q2 q3
  have q0 := G2.out.a.c0
  have q1 := G2.out.a.c1
  have q2 := G2.out.x0
  have q3 := G2.out.x1
  clear h2 G1
  go_wp2_with fail
  refine (place_any a b x y HY.out _).mono ?_
  rintro e w3 ⟨rfl, h3⟩
  rw [HQ.out]
  unfold plV
  have G3 := hid (G2.out.on h3)
  clear q0 q1 q2 q3
  have q0 := G3.out.a.c0
  have q1 := G3.out.a.c1
  have q2 := G3.out.x0
  have q3 := G3.out.x1
  clear h3 G2
  go_wp2_with fail
  refine (works_any _).mono ?_
  rintro e w4 ⟨rfl, h4⟩
  have G4 := hid (G3.out.on h4)
  clear q0 q1 q2 q3
  have q0 := G4.out.a.c0
  have q1 := G4.out.a.c1
  have q2 := G4.out.x0
  have q3 := G4.out.x1
  clear h4 G3
  go_wp2_with fail
  go_ret
  exact ⟨rfl, G4.out.a.bel⟩
set_option maxHeartbeats 4000000 in
theorem back_neg_some (ho : Good a b) (hp : p < 0) {s : Nat} (hq : pl a b x y = some s) : Calls Try.prog 5 #[gv a b, .int .i64 p, .agg #[.int .i64 x, .int .i64 y]] W fun e w' => e = .returned (.bool true) ∧ Below W.heap.size W w' := by
  have HO := hid (wh_none (a := a) (b := b) (p := p) (fun e => by omega)).1
  have HC := hid (cg_good ho)
  have HP0 := hid hp
  clear ho hp
  obtain ⟨k', i', hx, hyy, hw⟩ := pl_wh hq
  have HQ := hid hq
  have HW := hid hw
  have HX := hid hx
  have HYY := hid hyy
  clear hq hw hx hyy
  have HY := hid hy
  clear hy
  unfold gv
  go_enter Try.func5, Try.ntmps5
  have G0 := hid (Gw.new (B := W) (a := a) (b := b) (x := x) (y := y))
  go_wp2_with fail
  refine (what_any a b p _).mono ?_
  rintro e w1 ⟨rfl, h1⟩
  rw [HO.out]
  unfold whV
  have G1 := hid (G0.out.on h1)
  have q0 := G1.out.a.c0
  have q1 := G1.out.a.c1
  have q2 := G1.out.x0
  have q3 := G1.out.x1
  clear h1 G0
  go_wp2_with fail
  refine (check_c a b _).mono ?_
  rintro e w2 ⟨rfl, h2⟩
  rw [HC.out]
  have G2 := hid (G1.out.on h2)
  clear q0 q1 q2 q3
  have q0 := G2.out.a.c0
  have q1 := G2.out.a.c1
  have q2 := G2.out.x0
  have q3 := G2.out.x1
  clear h2 G1
  have t0 : ¬ 0 ≤ p := by have := HP0.out; omega
  go_wp2_with fail
  refine (place_any a b x y HY.out _).mono ?_
  rintro e w3 ⟨rfl, h3⟩
  rw [HQ.out]
  unfold plV
  have G3 := hid (G2.out.on h3)
  clear q0 q1 q2 q3
  have q0 := G3.out.a.c0
  have q1 := G3.out.a.c1
  have q2 := G3.out.x0
  have q3 := G3.out.x1
  clear h3 G2
  go_wp2_with fail
  refine (what_any a b s _).mono ?_
  rintro e w4 ⟨rfl, h4⟩
  rw [HW.out]
  unfold whV
  have G4 := hid (G3.out.on h4)
  clear q0 q1 q2 q3
  have q0 := G4.out.a.c0
  have q1 := G4.out.a.c1
  have q2 := G4.out.x0
  have q3 := G4.out.x1
  clear h4 G3
  have t3 := HX.out
  have t4 := HYY.out
  go_wp2_with fail
  refine (works_any _).mono ?_
  rintro e w5 ⟨rfl, h5⟩
  have G5 := hid (G4.out.on h5)
  clear q0 q1 q2 q3
  have q0 := G5.out.a.c0
  have q1 := G5.out.a.c1
  have q2 := G5.out.x0
  have q3 := G5.out.x1
  clear h5 G4
  go_wp2_with fail
  go_ret
  exact ⟨rfl, G5.out.a.bel⟩
set_option maxHeartbeats 4000000 in
theorem back_neg_none (ho : Good a b) (hp : p < 0) (hq : pl a b x y = none) : Calls Try.prog 5 #[gv a b, .int .i64 p, .agg #[.int .i64 x, .int .i64 y]] W fun e w' => e = .returned (.bool true) ∧ Below W.heap.size W w' := by
  have HO := hid (wh_none (a := a) (b := b) (p := p) (fun e => by omega)).1
  have HC := hid (cg_good ho)
  have HP0 := hid hp
  clear ho hp
  have HQ := hid hq
  clear hq
  have HY := hid hy
  clear hy
  unfold gv
  go_enter Try.func5, Try.ntmps5
  have G0 := hid (Gw.new (B := W) (a := a) (b := b) (x := x) (y := y))
  go_wp2_with fail
  refine (what_any a b p _).mono ?_
  rintro e w1 ⟨rfl, h1⟩
  rw [HO.out]
  unfold whV
  have G1 := hid (G0.out.on h1)
  have q0 := G1.out.a.c0
  have q1 := G1.out.a.c1
  have q2 := G1.out.x0
  have q3 := G1.out.x1
  clear h1 G0
  go_wp2_with fail
  refine (check_c a b _).mono ?_
  rintro e w2 ⟨rfl, h2⟩
  rw [HC.out]
  have G2 := hid (G1.out.on h2)
  clear q0 q1 q2 q3
  have q0 := G2.out.a.c0
  have q1 := G2.out.a.c1
  have q2 := G2.out.x0
  have q3 := G2.out.x1
  clear h2 G1
  have t0 : ¬ 0 ≤ p := by have := HP0.out; omega
  go_wp2_with fail
  refine (place_any a b x y HY.out _).mono ?_
  rintro e w3 ⟨rfl, h3⟩
  rw [HQ.out]
  unfold plV
  have G3 := hid (G2.out.on h3)
  clear q0 q1 q2 q3
  have q0 := G3.out.a.c0
  have q1 := G3.out.a.c1
  have q2 := G3.out.x0
  have q3 := G3.out.x1
  clear h3 G2
  go_wp2_with fail
  refine (works_any _).mono ?_
  rintro e w4 ⟨rfl, h4⟩
  have G4 := hid (G3.out.on h4)
  clear q0 q1 q2 q3
  have q0 := G4.out.a.c0
  have q1 := G4.out.a.c1
  have q2 := G4.out.x0
  have q3 := G4.out.x1
  clear h4 G3
  go_wp2_with fail
  go_ret
  exact ⟨rfl, G4.out.a.bel⟩
set_option maxHeartbeats 4000000 in
theorem back_far_some (ho : Good a b) (hp : 0 ≤ p) (hf : ¬ p < L sec a b) {s : Nat} (hq : pl a b x y = some s) : Calls Try.prog 5 #[gv a b, .int .i64 p, .agg #[.int .i64 x, .int .i64 y]] W fun e w' => e = .returned (.bool true) ∧ Below W.heap.size W w' := by
  have HO := hid (wh_none (a := a) (b := b) (p := p) (fun e => hf e.2.2)).1
  have HC := hid (cg_good ho)
  have HP0 := hid hp
  have HP1 := hid hf
  clear ho hp hf
  obtain ⟨k', i', hx, hyy, hw⟩ := pl_wh hq
  have HQ := hid hq
  have HW := hid hw
  have HX := hid hx
  have HYY := hid hyy
  clear hq hw hx hyy
  have HY := hid hy
  clear hy
  unfold gv
  go_enter Try.func5, Try.ntmps5
  have G0 := hid (Gw.new (B := W) (a := a) (b := b) (x := x) (y := y))
  go_wp2_with fail
  refine (what_any a b p _).mono ?_
  rintro e w1 ⟨rfl, h1⟩
  rw [HO.out]
  unfold whV
  have G1 := hid (G0.out.on h1)
  have q0 := G1.out.a.c0
  have q1 := G1.out.a.c1
  have q2 := G1.out.x0
  have q3 := G1.out.x1
  clear h1 G0
  go_wp2_with fail
  refine (check_c a b _).mono ?_
  rintro e w2 ⟨rfl, h2⟩
  rw [HC.out]
  have G2 := hid (G1.out.on h2)
  clear q0 q1 q2 q3
  have q0 := G2.out.a.c0
  have q1 := G2.out.a.c1
  have q2 := G2.out.x0
  have q3 := G2.out.x1
  clear h2 G1
  have t0 := HP0.out
  go_wp2_with fail
  refine (sectors_any a b _).mono ?_
  rintro e w3 ⟨rfl, h3⟩
  have G3 := hid (G2.out.on h3)
  clear q0 q1 q2 q3
  have q0 := G3.out.a.c0
  have q1 := G3.out.a.c1
  have q2 := G3.out.x0
  have q3 := G3.out.x1
  clear h3 G2
  have t1 := HP1.out
  go_wp2_with fail
  refine (place_any a b x y HY.out _).mono ?_
  rintro e w4 ⟨rfl, h4⟩
  rw [HQ.out]
  unfold plV
  have G4 := hid (G3.out.on h4)
  clear q0 q1 q2 q3
  have q0 := G4.out.a.c0
  have q1 := G4.out.a.c1
  have q2 := G4.out.x0
  have q3 := G4.out.x1
  clear h4 G3
  go_wp2_with fail
  refine (what_any a b s _).mono ?_
  rintro e w5 ⟨rfl, h5⟩
  rw [HW.out]
  unfold whV
  have G5 := hid (G4.out.on h5)
  clear q0 q1 q2 q3
  have q0 := G5.out.a.c0
  have q1 := G5.out.a.c1
  have q2 := G5.out.x0
  have q3 := G5.out.x1
  clear h5 G4
  have t3 := HX.out
  have t4 := HYY.out
  go_wp2_with fail
  refine (works_any _).mono ?_
  rintro e w6 ⟨rfl, h6⟩
  have G6 := hid (G5.out.on h6)
  clear q0 q1 q2 q3
  have q0 := G6.out.a.c0
  have q1 := G6.out.a.c1
  have q2 := G6.out.x0
  have q3 := G6.out.x1
  clear h6 G5
  go_wp2_with fail
  go_ret
  exact ⟨rfl, G6.out.a.bel⟩
set_option maxHeartbeats 4000000 in
theorem back_far_none (ho : Good a b) (hp : 0 ≤ p) (hf : ¬ p < L sec a b) (hq : pl a b x y = none) : Calls Try.prog 5 #[gv a b, .int .i64 p, .agg #[.int .i64 x, .int .i64 y]] W fun e w' => e = .returned (.bool true) ∧ Below W.heap.size W w' := by
  have HO := hid (wh_none (a := a) (b := b) (p := p) (fun e => hf e.2.2)).1
  have HC := hid (cg_good ho)
  have HP0 := hid hp
  have HP1 := hid hf
  clear ho hp hf
  have HQ := hid hq
  clear hq
  have HY := hid hy
  clear hy
  unfold gv
  go_enter Try.func5, Try.ntmps5
  have G0 := hid (Gw.new (B := W) (a := a) (b := b) (x := x) (y := y))
  go_wp2_with fail
  refine (what_any a b p _).mono ?_
  rintro e w1 ⟨rfl, h1⟩
  rw [HO.out]
  unfold whV
  have G1 := hid (G0.out.on h1)
  have q0 := G1.out.a.c0
  have q1 := G1.out.a.c1
  have q2 := G1.out.x0
  have q3 := G1.out.x1
  clear h1 G0
  go_wp2_with fail
  refine (check_c a b _).mono ?_
  rintro e w2 ⟨rfl, h2⟩
  rw [HC.out]
  have G2 := hid (G1.out.on h2)
  clear q0 q1 q2 q3
  have q0 := G2.out.a.c0
  have q1 := G2.out.a.c1
  have q2 := G2.out.x0
  have q3 := G2.out.x1
  clear h2 G1
  have t0 := HP0.out
  go_wp2_with fail
  refine (sectors_any a b _).mono ?_
  rintro e w3 ⟨rfl, h3⟩
  have G3 := hid (G2.out.on h3)
  clear q0 q1 q2 q3
  have q0 := G3.out.a.c0
  have q1 := G3.out.a.c1
  have q2 := G3.out.x0
  have q3 := G3.out.x1
  clear h3 G2
  have t1 := HP1.out
  go_wp2_with fail
  refine (place_any a b x y HY.out _).mono ?_
  rintro e w4 ⟨rfl, h4⟩
  rw [HQ.out]
  unfold plV
  have G4 := hid (G3.out.on h4)
  clear q0 q1 q2 q3
  have q0 := G4.out.a.c0
  have q1 := G4.out.a.c1
  have q2 := G4.out.x0
  have q3 := G4.out.x1
  clear h4 G3
  go_wp2_with fail
  refine (works_any _).mono ?_
  rintro e w5 ⟨rfl, h5⟩
  have G5 := hid (G4.out.on h5)
  clear q0 q1 q2 q3
  have q0 := G5.out.a.c0
  have q1 := G5.out.a.c1
  have q2 := G5.out.x0
  have q3 := G5.out.x1
  clear h5 G4
  go_wp2_with fail
  go_ret
  exact ⟨rfl, G5.out.a.bel⟩
end
theorem back_law (a b x y p : Int) (hy : -9223372036854775808 ≤ y ∧ y ≤ 9223372036854775807) (W : World) : Calls Try.prog 5 #[gv a b, .int .i64 p, .agg #[.int .i64 x, .int .i64 y]] W fun e w' => e = .returned (.bool true) ∧ Below W.heap.size W w' := by
  rcases hq : pl a b x y with _ | s <;> rcases ho : wh a b p with _ | ⟨k, i⟩
  · by_cases hg : Good a b
    · by_cases hp : p < 0
      · exact back_neg_none a b x y p hy W hg hp hq
      · exact back_far_none a b x y p hy W hg (by omega) (fun e => by have := wh_iff.2 ⟨hg, (by omega : 0 ≤ p), e⟩; rw [ho] at this; obtain ⟨_, h⟩ := this; cases h) hq
    · exact back_bad_none a b x y p hy W hg hq
  · exact back_some_none a b x y p hy W ho hq
  · by_cases hg : Good a b
    · by_cases hp : p < 0
      · exact back_neg_some a b x y p hy W hg hp hq
      · exact back_far_some a b x y p hy W hg (by omega) (fun e => by have := wh_iff.2 ⟨hg, (by omega : 0 ≤ p), e⟩; rw [ho] at this; obtain ⟨_, h⟩ := this; cases h) hq
    · exact back_bad_some a b x y p hy W hg hq
  · exact back_some_some a b x y p hy W ho hq
end GeM
end Go.Proofs.Ytfhblbgkpfoecaa
set_option maxRecDepth 100000
namespace Go.Proofs.Ytfhblbgkpfoecaa
open Go.ChangeShapes Go.WideShapes Go.ChangeAt Go.RowKit
attribute [local go_sem] Gives
namespace GeM
set_option maxHeartbeats 4000000 in
theorem room_law (a b : Int) (W : World) : Calls Try.prog 6 #[gv a b] W fun e w' => e = .returned (.bool true) ∧ Below W.heap.size W w' := by
  by_cases hg : Good a b
  · obtain ⟨m, r, rfl, rfl, k1, k2, k3, k4⟩ := good_nat hg
    obtain ⟨n, hn⟩ : ∃ n, n = lv m r := ⟨_, rfl⟩
    obtain ⟨c, hc⟩ : ∃ c, c = cp m r := ⟨_, rfl⟩
    obtain ⟨o, ho⟩ : ∃ o, o = lo m r := ⟨_, rfl⟩
    obtain ⟨h, hh⟩ : ∃ h, h = hf m r := ⟨_, rfl⟩
    obtain ⟨d, hd⟩ : ∃ d, d = nd m r := ⟨_, rfl⟩
    obtain ⟨t, ht'⟩ : ∃ t, t = ht m r := ⟨_, rfl⟩
    have cb := cp_bd hg
    have nb := lv_bd hg
    have ob := lo_eq hg
    have he : h = 2 + (69 * c + 63) / 64 := by rw [hh, hc, hf]
    have de := nd_eq hg
    have pu := ht_up hg
    have pt := pow_two hg
    have tb := ht_bd hg
    rw [← hc] at cb
    rw [← hn] at nb pu pt
    rw [← hn, ← ho] at ob
    rw [← hd, ← ht'] at de
    rw [← ht'] at pu pt tb
    have CC := hid hc
    have OO := hid ho
    have NN := hid hn
    have HH := hid hh
    have DD := hid hd
    have TT := hid ht'
    have CB := hid cb
    have OB := hid (show o + 2 * r = n ∧ n ≤ 4096 from ⟨ob, nb.2⟩)
    have DE := hid de
    clear hc ho hn hh hd ht'
    obtain ⟨X, hX⟩ : ∃ X : Int, X = 64 * ((h : Int) - 2) := ⟨_, rfl⟩
    have T1 := hid (show 69 * (c : Int) ≤ X by omega)
    have T2 := hid (show X < 69 * (c : Int) + 64 by omega)
    have XX := hid hX
    have hb : h ≤ 1000 := by omega
    clear hX he
    have f1 : ¬ (d : Int) + 1 < (n : Int) := by omega
    have f2 : ¬ 2 * (n : Int) ≤ (d : Int) + 1 := by omega
    unfold gv
    go_enter Try.func6, Try.ntmps6
    go_wp2_with fail
    refine (check_c _ _ _).mono ?_
    rw [cg_good hg]
    rintro e w1 ⟨rfl, h1⟩
    have A1 := hid ((At.new W m r).on h1)
    have q0 := A1.out.c0
    have q1 := A1.out.c1
    clear h1
    go_wp2_with fail
    refine (leaves_any _ _ _).mono ?_
    rw [L_good hg, ← NN.out]
    rintro e w2 ⟨rfl, h2⟩
    have A2 := hid (A1.out.on h2)
    clear q0 q1
    have q0 := A2.out.c0
    have q1 := A2.out.c1
    clear h2 A1
    go_wp2_with fail
    refine (nodes_any _ _ _).mono ?_
    rw [L_good hg, ← DD.out]
    rintro e w3 ⟨rfl, h3⟩
    have A3 := hid (A2.out.on h3)
    clear q0 q1
    have q0 := A3.out.c0
    have q1 := A3.out.c1
    clear h3 A2
    go_wp2_with fail
    refine (height_any _ _ _).mono ?_
    rw [L_good hg, ← TT.out]
    rintro e w4 ⟨rfl, h4⟩
    have A4 := hid (A3.out.on h4)
    clear q0 q1
    have q0 := A4.out.c0
    have q1 := A4.out.c1
    clear h4 A3
    have f3 : wrap64 ((2 : Int) ^ t) = (d : Int) + 1 := by
      have e2 : ((2 : Int) ^ t) = ((2 ^ t : Nat) : Int) := by push_cast; rfl
      rw [e2, IntWalk.wrap64_in _ (by have := DE.out; omega)]
      have := DE.out
      omega
    go_wp2_with fail
    refine (half_any _ _ _).mono ?_
    rw [L_good hg, ← HH.out]
    rintro e w5 ⟨rfl, h5⟩
    have A5 := hid (A4.out.on h5)
    clear q0 q1 h5 A4
    go_wp2_with fail
    rw [← XX.out]
    refine wp_region_tail (C := At W W.heap.size m r) 26 (by kernel_rfl) (by kernel_rfl) (by kernel_rfl) A5.out.drew ?_
    simp only [List.take_succ_cons, List.take_zero, List.drop_succ_cons, List.drop_zero]
    apply wpK_val
    · rfl
    · intro w' hw'
      go_simp
      first | exact rfl | exact ⟨rfl, hw'⟩
    simp only [Act.put, List.setIfInBounds_toArray, List.set_cons_succ, List.set_cons_zero]
    apply kldR (tGe _ _)
    · rfl
    · rfl
    · exact fun w' hw' => hw'.blk.whole
    simp only [Act.put, List.setIfInBounds_toArray, List.set_cons_succ, List.set_cons_zero]
    apply wpK_val
    · rfl
    · intro w' hw'
      go_simp
      exact (capacity_any _ _ w').mono fun e w5 h => ⟨h.1, hw'.on h.2⟩
    simp only [Act.put, List.setIfInBounds_toArray, List.set_cons_succ, List.set_cons_zero]
    rw [L_good hg, ← CC.out]
    apply wpK_val
    · rfl
    · intro w' hw'
      have h1 : IntKind.i64.wrap (69 * (c : Int)) = 69 * (c : Int) := IntWalk.i64_in _ (by have := CB.out; omega)
      go_simp
      first | exact rfl | exact ⟨rfl, hw'⟩
    simp only [Act.put, List.setIfInBounds_toArray, List.set_cons_succ, List.set_cons_zero]
    apply wpK_val
    · rfl
    · intro w' hw'
      have h1 : decide (69 * (c : Int) ≤ X) = true := decide_eq_true T1.out
      go_simp
      first | exact rfl | exact ⟨rfl, hw'⟩
    simp only [Act.put, List.setIfInBounds_toArray, List.set_cons_succ, List.set_cons_zero]
    apply wpK_val
    · rfl
    · intro w' hw'
      go_simp
      first | exact rfl | exact ⟨rfl, hw'⟩
    simp only [Act.put, List.setIfInBounds_toArray, List.set_cons_succ, List.set_cons_zero]
    apply wpK_val
    · rfl
    · intro w' hw'
      go_simp
      first | exact rfl | exact ⟨rfl, hw'⟩
    simp only [Act.put, List.setIfInBounds_toArray, List.set_cons_succ, List.set_cons_zero]
    apply kldR (tGe _ _)
    · rfl
    · rfl
    · exact fun w' hw' => hw'.blk.whole
    simp only [Act.put, List.setIfInBounds_toArray, List.set_cons_succ, List.set_cons_zero]
    apply wpK_val
    · rfl
    · intro w' hw'
      go_simp
      exact (capacity_any _ _ w').mono fun e w5 h => ⟨h.1, hw'.on h.2⟩
    simp only [Act.put, List.setIfInBounds_toArray, List.set_cons_succ, List.set_cons_zero]
    rw [L_good hg, ← CC.out]
    apply wpK_val
    · rfl
    · intro w' hw'
      have h1 : IntKind.i64.wrap (69 * (c : Int)) = 69 * (c : Int) := IntWalk.i64_in _ (by have := CB.out; omega)
      go_simp
      first | exact rfl | exact ⟨rfl, hw'⟩
    simp only [Act.put, List.setIfInBounds_toArray, List.set_cons_succ, List.set_cons_zero]
    apply wpK_val
    · rfl
    · intro w' hw'
      have h1 : IntKind.i64.wrap (69 * (c : Int) + 64) = 69 * (c : Int) + 64 := IntWalk.i64_in _ (by have := CB.out; omega)
      go_simp
      first | exact rfl | exact ⟨rfl, hw'⟩
    simp only [Act.put, List.setIfInBounds_toArray, List.set_cons_succ, List.set_cons_zero]
    apply wpK_val
    · rfl
    · intro w' hw'
      have h1 : decide (X < 69 * (c : Int) + 64) = true := decide_eq_true T2.out
      go_simp
      first | exact rfl | exact ⟨rfl, hw'⟩
    simp only [Act.put, List.setIfInBounds_toArray, List.set_cons_succ, List.set_cons_zero]
    apply wpK_val
    · rfl
    · intro w' hw'
      go_simp
      first | exact rfl | exact ⟨rfl, hw'⟩
    simp only [Act.put, List.setIfInBounds_toArray, List.set_cons_succ, List.set_cons_zero]
    apply wpK_val
    · rfl
    · intro w' hw'
      go_simp
      first | exact rfl | exact ⟨rfl, hw'⟩
    simp only [Act.put, List.setIfInBounds_toArray, List.set_cons_succ, List.set_cons_zero]
    apply kldR (tGe _ _)
    · rfl
    · rfl
    · exact fun w' hw' => hw'.blk.whole
    simp only [Act.put, List.setIfInBounds_toArray, List.set_cons_succ, List.set_cons_zero]
    apply wpK_val
    · rfl
    · intro w' hw'
      go_simp
      exact (logical_any _ _ w').mono fun e w5 h => ⟨h.1, hw'.on h.2⟩
    simp only [Act.put, List.setIfInBounds_toArray, List.set_cons_succ, List.set_cons_zero]
    rw [L_good hg, ← OO.out]
    apply wpK_val
    · rfl
    · intro w' hw'
      go_simp
      first | exact rfl | exact ⟨rfl, hw'⟩
    simp only [Act.put, List.setIfInBounds_toArray, List.set_cons_succ, List.set_cons_zero]
    apply wpK_val
    · rfl
    · intro w' hw'
      have hcell := hw'.c1
      go_simp
      first | exact rfl | exact ⟨rfl, hw'⟩
    simp only [Act.put, List.setIfInBounds_toArray, List.set_cons_succ, List.set_cons_zero]
    apply wpK_val
    · rfl
    · intro w' hw'
      have h1 : IntKind.i64.wrap (2 * (r : Int)) = 2 * (r : Int) := IntWalk.i64_in _ (by have := OB.out; omega)
      go_simp
      first | exact rfl | exact ⟨rfl, hw'⟩
    simp only [Act.put, List.setIfInBounds_toArray, List.set_cons_succ, List.set_cons_zero]
    apply wpK_val
    · rfl
    · intro w' hw'
      have h1 : IntKind.i64.wrap ((o : Int) + 2 * (r : Int)) = (n : Int) := by rw [IntWalk.i64_in _ (by have := OB.out; omega)]; have := OB.out; omega
      go_simp
      first | exact rfl | exact ⟨rfl, hw'⟩
    simp only [Act.put, List.setIfInBounds_toArray, List.set_cons_succ, List.set_cons_zero]
    apply wpK_val
    · rfl
    · intro w' hw'
      go_simp
      first | exact rfl | exact ⟨rfl, hw'⟩
    simp only [Act.put, List.setIfInBounds_toArray, List.set_cons_succ, List.set_cons_zero]
    apply wpK_val
    · rfl
    · intro w' hw'
      have h1 : ((n : Int) == n) = true := by simp
      go_simp
      first | exact rfl | exact ⟨rfl, hw'⟩
    simp only [Act.put, List.setIfInBounds_toArray, List.set_cons_succ, List.set_cons_zero]
    apply wpK_val
    · rfl
    · intro w' hw'
      go_simp
      first | exact rfl | exact ⟨rfl, hw'⟩
    simp only [Act.put, List.setIfInBounds_toArray, List.set_cons_succ, List.set_cons_zero]
    apply wpK_val
    · rfl
    · intro w' hw'
      go_simp
      first | exact rfl | exact ⟨rfl, hw'⟩
    simp only [Act.put, List.setIfInBounds_toArray, List.set_cons_succ, List.set_cons_zero]
    apply wpK_val
    · rfl
    · intro w' hw'
      go_simp
      exact (works_any w').mono fun e w5 h => ⟨h.1, hw'.on h.2⟩
    simp only [Act.put, List.setIfInBounds_toArray, List.set_cons_succ, List.set_cons_zero]
    apply wpK_val
    · rfl
    · intro w' hw'
      go_simp
      first | exact rfl | exact ⟨rfl, hw'⟩
    simp only [Act.put, List.setIfInBounds_toArray, List.set_cons_succ, List.set_cons_zero]
    refine wpK_nil fun w6 hw6 => ?_
    have A6 := hid hw6
    clear hw6 A5
    go_wp2_with fail
    go_ret
    exact ⟨rfl, A6.out.bel⟩
  · unfold gv
    go_enter Try.func6, Try.ntmps6
    go_wp2_with fail
    refine (check_c _ _ _).mono ?_
    rw [cg_bad hg]
    rintro e w1 ⟨rfl, h1⟩
    have A1 := hid ((At.new W a b).on h1)
    clear h1
    go_wp2_with fail
    refine wp_region_tail (C := At W W.heap.size a b) 24 (by kernel_rfl) (by kernel_rfl) (by kernel_rfl) A1.out.drew ?_
    simp only [List.take_succ_cons, List.take_zero, List.drop_succ_cons, List.drop_zero]
    apply kldR (tGe _ _)
    · rfl
    · rfl
    · exact fun w' hw' => hw'.blk.whole
    simp only [Act.put, List.setIfInBounds_toArray, List.set_cons_succ, List.set_cons_zero]
    apply wpK_val
    · rfl
    · intro w' hw'
      go_simp
      exact (leaves_any _ _ w').mono fun e w5 h => ⟨h.1, hw'.on h.2⟩
    simp only [Act.put, List.setIfInBounds_toArray, List.set_cons_succ, List.set_cons_zero]
    rw [L_bad hg]
    apply kldR (tGe _ _)
    · rfl
    · rfl
    · exact fun w' hw' => hw'.blk.whole
    simp only [Act.put, List.setIfInBounds_toArray, List.set_cons_succ, List.set_cons_zero]
    apply wpK_val
    · rfl
    · intro w' hw'
      go_simp
      exact (height_any _ _ w').mono fun e w5 h => ⟨h.1, hw'.on h.2⟩
    simp only [Act.put, List.setIfInBounds_toArray, List.set_cons_succ, List.set_cons_zero]
    rw [L_bad hg]
    apply wpK_val
    · rfl
    · intro w' hw'
      have h1 : IntKind.i64.wrap 0 = 0 := rfl
      go_simp
      first | exact rfl | exact ⟨rfl, hw'⟩
    simp only [Act.put, List.setIfInBounds_toArray, List.set_cons_succ, List.set_cons_zero]
    apply kldR (tGe _ _)
    · rfl
    · rfl
    · exact fun w' hw' => hw'.blk.whole
    simp only [Act.put, List.setIfInBounds_toArray, List.set_cons_succ, List.set_cons_zero]
    apply wpK_val
    · rfl
    · intro w' hw'
      go_simp
      exact (nodes_any _ _ w').mono fun e w5 h => ⟨h.1, hw'.on h.2⟩
    simp only [Act.put, List.setIfInBounds_toArray, List.set_cons_succ, List.set_cons_zero]
    rw [L_bad hg]
    apply wpK_val
    · rfl
    · intro w' hw'
      have h1 : IntKind.i64.wrap 0 = 0 := rfl
      go_simp
      first | exact rfl | exact ⟨rfl, hw'⟩
    simp only [Act.put, List.setIfInBounds_toArray, List.set_cons_succ, List.set_cons_zero]
    apply kldR (tGe _ _)
    · rfl
    · rfl
    · exact fun w' hw' => hw'.blk.whole
    simp only [Act.put, List.setIfInBounds_toArray, List.set_cons_succ, List.set_cons_zero]
    apply wpK_val
    · rfl
    · intro w' hw'
      go_simp
      exact (logical_any _ _ w').mono fun e w5 h => ⟨h.1, hw'.on h.2⟩
    simp only [Act.put, List.setIfInBounds_toArray, List.set_cons_succ, List.set_cons_zero]
    rw [L_bad hg]
    apply wpK_val
    · rfl
    · intro w' hw'
      have h1 : IntKind.i64.wrap 0 = 0 := rfl
      go_simp
      first | exact rfl | exact ⟨rfl, hw'⟩
    simp only [Act.put, List.setIfInBounds_toArray, List.set_cons_succ, List.set_cons_zero]
    apply kldR (tGe _ _)
    · rfl
    · rfl
    · exact fun w' hw' => hw'.blk.whole
    simp only [Act.put, List.setIfInBounds_toArray, List.set_cons_succ, List.set_cons_zero]
    apply wpK_val
    · rfl
    · intro w' hw'
      go_simp
      exact (capacity_any _ _ w').mono fun e w5 h => ⟨h.1, hw'.on h.2⟩
    simp only [Act.put, List.setIfInBounds_toArray, List.set_cons_succ, List.set_cons_zero]
    rw [L_bad hg]
    apply wpK_val
    · rfl
    · intro w' hw'
      have h1 : IntKind.i64.wrap 0 = 0 := rfl
      go_simp
      first | exact rfl | exact ⟨rfl, hw'⟩
    simp only [Act.put, List.setIfInBounds_toArray, List.set_cons_succ, List.set_cons_zero]
    apply kldR (tGe _ _)
    · rfl
    · rfl
    · exact fun w' hw' => hw'.blk.whole
    simp only [Act.put, List.setIfInBounds_toArray, List.set_cons_succ, List.set_cons_zero]
    apply wpK_val
    · rfl
    · intro w' hw'
      go_simp
      exact (half_any _ _ w').mono fun e w5 h => ⟨h.1, hw'.on h.2⟩
    simp only [Act.put, List.setIfInBounds_toArray, List.set_cons_succ, List.set_cons_zero]
    rw [L_bad hg]
    apply wpK_val
    · rfl
    · intro w' hw'
      have h1 : IntKind.i64.wrap 0 = 0 := rfl
      go_simp
      first | exact rfl | exact ⟨rfl, hw'⟩
    simp only [Act.put, List.setIfInBounds_toArray, List.set_cons_succ, List.set_cons_zero]
    apply kldR (tGe _ _)
    · rfl
    · rfl
    · exact fun w' hw' => hw'.blk.whole
    simp only [Act.put, List.setIfInBounds_toArray, List.set_cons_succ, List.set_cons_zero]
    apply wpK_val
    · rfl
    · intro w' hw'
      go_simp
      exact (sectors_any _ _ w').mono fun e w5 h => ⟨h.1, hw'.on h.2⟩
    simp only [Act.put, List.setIfInBounds_toArray, List.set_cons_succ, List.set_cons_zero]
    rw [L_bad hg]
    apply wpK_val
    · rfl
    · intro w' hw'
      have h1 : IntKind.i64.wrap 0 = 0 := rfl
      go_simp
      first | exact rfl | exact ⟨rfl, hw'⟩
    simp only [Act.put, List.setIfInBounds_toArray, List.set_cons_succ, List.set_cons_zero]
    apply wpK_val
    · rfl
    · intro w' hw'
      go_simp
      first | exact rfl | exact ⟨rfl, hw'⟩
    simp only [Act.put, List.setIfInBounds_toArray, List.set_cons_succ, List.set_cons_zero]
    apply wpK_val
    · rfl
    · intro w' hw'
      go_simp
      first | exact rfl | exact ⟨rfl, hw'⟩
    simp only [Act.put, List.setIfInBounds_toArray, List.set_cons_succ, List.set_cons_zero]
    apply wpK_val
    · rfl
    · intro w' hw'
      go_simp
      exact (works_any w').mono fun e w5 h => ⟨h.1, hw'.on h.2⟩
    simp only [Act.put, List.setIfInBounds_toArray, List.set_cons_succ, List.set_cons_zero]
    apply wpK_val
    · rfl
    · intro w' hw'
      go_simp
      first | exact rfl | exact ⟨rfl, hw'⟩
    simp only [Act.put, List.setIfInBounds_toArray, List.set_cons_succ, List.set_cons_zero]
    refine wpK_nil fun w5 hw5 => ?_
    have A5 := hid hw5
    clear hw5 A1
    go_wp2_with fail
    go_ret
    exact ⟨rfl, A5.out.bel⟩
end GeM
end Go.Proofs.Ytfhblbgkpfoecaa
