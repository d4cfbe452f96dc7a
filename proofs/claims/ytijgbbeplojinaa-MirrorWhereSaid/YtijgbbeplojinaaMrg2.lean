/-
  Contracts of geom.Place and What over this translation.
  Which member has which column of a row, and which sector lies where, in plain numbers.
  A member in plain words: what is durable, the unflushed writes, marks; nothing of the program stands here.
  A member in plain words: what each call tells, and what it leaves.
  Slices of numbers of any kind: read out of one row; made by a call for itself, append.
  Lists of elements of k cells each: as they lie in memory, and as a list of the call's own. Worlds in which only blocks of a set are turned.
  Rows of sectors in one block: a slice literal of sectors; what lies in such a block.
  Structs of any fields: built out of all their fields.
  A region that draws its order, whose values may hang on the order (addresses of what it makes): of each operation's value one states what it is like (S, of no world) and what the world then holds of it and of those it waits for (D, kept by what the others do: K).
  Two slices of the call's own beside each other: where the result of an append lies.
  An append leaves the slice that it was given as it was; the append in a region that draws its order.
  As XRegRel; what the world holds of a value is kept by those operations alone that it does not wait for.
  A region that draws its order, in which several operations write: the class of worlds hangs on which of them have come up (D), and on nothing else.
-/
import Derived.Test.YtijgbbeplojinaaMrg1
import Derived.Laws.AppendOwn
import Derived.Laws.AppendOwnNone
import Derived.Great.BuildSlice
import Derived.Deep.DeepAppendRoom
set_option linter.unusedVariables false
set_option linter.unusedSimpArgs false
set_option maxRecDepth 100000
namespace Go.Proofs.Ytijgbbeplojinaa
open Go.ChangeShapes Go.WideShapes Go.ChangeAt Go.RowKit
attribute [local go_sem] Gives
namespace GeM
/-- What Place tells. -/
def plV (o : Option Nat) : Value := match o with
  | some p => .tuple #[.int .i64 p, .int .i64 0]
  | none => .tuple #[.int .i64 0, .int .i64 2]
theorem pl_none {a b k i : Int} (h : ¬ (Good a b ∧ 1 ≤ k ∧ k ≤ 4 ∧ (lw k : Int) ≤ i ∧ i - lw k < sz a.toNat b.toNat k.toNat)) : pl a b k i = none := by unfold pl; rw [if_neg h]
theorem L_le {f : Nat → Nat → Nat} {a b : Int} {n : Nat} (h : ∀ {m r : Nat}, Good m r → f m r ≤ n) : L f a b ≤ n := by
  by_cases hg : Good a b
  · obtain ⟨m, r, rfl, rfl, _⟩ := good_nat hg
    rw [L_good hg]
    exact h hg
  · rw [L_bad hg]; omega
theorem st_le {m r k : Nat} (h : Good m r) : st m r k ≤ 20000 := by
  have h5 := sec_bd h
  unfold sec at h5
  rw [st_5] at h5
  by_cases e : k = 2 ∨ k = 3 ∨ k = 4 ∨ k = 5
  · rcases e with rfl | rfl | rfl | rfl
    · rw [st_2]; omega
    · rw [st_3]; omega
    · rw [st_4]; omega
    · rw [st_5]; omega
  · have : st m r k = 0 := by
      unfold st
      split <;> first | omega | rfl
    omega
theorem st_up {a b : Int} {k : Nat} (h1 : 1 ≤ k) (h4 : k ≤ 4) : L (st · · k) a b ≤ L (st · · (k + 1)) a b ∧ L (st · · (k + 1)) a b ≤ 20000 := by
  by_cases hg : Good a b
  · obtain ⟨m, r, rfl, rfl, _⟩ := good_nat hg
    rw [L_good hg, L_good hg]
    exact ⟨by rw [st_sz m r h1 h4]; omega, st_le hg⟩
  · rw [L_bad hg, L_bad hg]; omega
theorem pl_L {k : Nat} (h1 : 1 ≤ k) (h4 : k ≤ 4) (a b i : Int) : pl a b k i = if (lw k : Int) ≤ i ∧ i - lw k < (L (st · · (k + 1)) a b : Int) - L (st · · k) a b then some (L (st · · k) a b + (i - lw k).toNat) else none := by
  by_cases hg : Good a b
  · obtain ⟨m, r, rfl, rfl, _⟩ := good_nat hg
    rw [L_good hg, L_good hg]
    have hz := st_sz m r h1 h4
    unfold pl
    simp only [Int.toNat_natCast]
    by_cases hc : (lw k : Int) ≤ i ∧ i - lw k < (st m r (k + 1) : Int) - st m r k
    · rw [if_pos hc, if_pos ⟨hg, by omega, by omega, hc.1, by omega⟩]
    · rw [if_neg hc, if_neg fun e => hc ⟨e.2.2.2.1, by have := e.2.2.2.2; omega⟩]
  · rw [L_bad hg, L_bad hg, pl_none fun e => hg e.1, if_neg (by omega)]
set_option maxHeartbeats 800000 in
theorem place_any (a b k i : Int) (hi : -9223372036854775808 ≤ i ∧ i ≤ 9223372036854775807) (w : World) : Calls Try.prog 86 #[gv a b, .int .i64 k, .int .i64 i] w fun e w' => e = .returned (plV (pl a b k i)) ∧ Below w.heap.size w w' := by
  by_cases h1 : k < 1
  · rw [pl_none (by omega)]
    unfold gv
    go_enter Try.func86, Try.ntmps86
    go_wp2_with fail
    go_ret2
    exact ⟨rfl, below_al _⟩
  by_cases h4 : 4 < k
  · rw [pl_none (by omega)]
    unfold gv
    go_enter Try.func86, Try.ntmps86
    go_wp2_with fail
    go_ret2
    exact ⟨rfl, below_al _⟩
  have hk : k = 1 ∨ k = 2 ∨ k = 3 ∨ k = 4 := by omega
  clear h1 h4
  rcases hk with rfl | rfl | rfl | rfl
  · obtain ⟨x, hx⟩ : ∃ x, x = L (st · · 1) a b := ⟨_, rfl⟩
    obtain ⟨y, hy⟩ : ∃ y, y = L (st · · 2) a b := ⟨_, rfl⟩
    have hp : pl a b 1 i = if (0 : Int) ≤ i ∧ i - 0 < (y : Int) - x then some (x + (i - 0).toNat) else none := by rw [hx, hy]; exact pl_L (k := 1) (by omega) (by omega) a b i
    have hb : x ≤ y ∧ y ≤ 20000 := by rw [hx, hy]; exact @st_up a b 1 (by omega) (by omega)
    have hl : ((lw 1 : Nat) : Int) = 0 := rfl
    have HX := hid hx
    have HY := hid hy
    have HP := hid hp
    obtain ⟨b1, b2⟩ := hb
    clear hp hx hy
    unfold gv
    go_enter Try.func86, Try.ntmps86
    go_wp2_with ((with_reducible apply ldR (cs := #[Value.int .i64 a, .int .i64 b]) (tGe _ _)); rfl; exact (At.new w a b).blk.whole)
    refine (of_any _ _ _).mono ?_
    rintro e w1 ⟨rfl, h1⟩
    have A1 := hid ((At.new w a b).on h1)
    clear h1
    go_wp2_with fail
    refine (lowest_any _ _).mono ?_
    rintro e w2 ⟨rfl, rfl⟩
    rw [hl]
    unfold sv
    rw [← HX.out, ← HY.out]
    clear hl
    go_upto_region 4 with ((with_reducible apply stR (tSt _ _ _ _ _ _)); rfl; rfl; exact Blk.new _ _ _; rfl; exact one6 _ _ _ _ _ _)
    generalize hw3 : World.setRow _ _ _ = w3
    obtain ⟨z, hz⟩ : ∃ z, z = w1.heap.size := ⟨_, rfl⟩
    have S3 := hid (show Blk w3 z tyS _ by rw [← hw3, hz]; exact (Blk.new w1 _ _).setRow_same _)
    have B3 := hid (show Below w.heap.size w w3 by rw [← hw3]; exact below_setRow (A1.out.bel.alloc A1.out.bel.size _) A1.out.bel.size _)
    have Q1 := hid (show ∀ w', Below w3.heap.size w3 w' → w'.cell? ⟨z, 1, none⟩ = some (.int .i64 x) from fun w' h => (S3.out.below h S3.out.lt).cell 1)
    have Q2 := hid (show ∀ w', Below w3.heap.size w3 w' → w'.cell? ⟨z, 2, none⟩ = some (.int .i64 y) from fun w' h => (S3.out.below h S3.out.lt).cell 2)
    rw [← hz]
    clear hw3 hz A1 S3 HX HY
    refine wp_region_tail (C := fun w' => Below w3.heap.size w3 w') 16 (by kernel_rfl) (by kernel_rfl) (by kernel_rfl) (Below.refl _ _).drew ?_
    simp only [List.take_succ_cons, List.take_zero, List.drop_succ_cons, List.drop_zero]
    by_cases hlt : i < 0
    · have HD := hid (show decide (i < 0) = true by simp [hlt])
      have HL := hid hlt
      clear hlt b1 b2
      apply wpK_val
      · rfl
      · intro w' hw'
        go_simp
        first | exact rfl | exact ⟨rfl, hw'⟩
      simp only [Act.put, List.setIfInBounds_toArray, List.set_cons_succ, List.set_cons_zero]
      apply wpK_val
      · rfl
      · intro w' hw'
        go_simp
        first | exact rfl | exact ⟨rfl, hw'⟩
      simp only [Act.put, List.setIfInBounds_toArray, List.set_cons_succ, List.set_cons_zero]
      apply wpK_val
      · rfl
      · intro w' hw'
        have h1 : _ = _ := HD.out
        go_simp
        first | exact rfl | exact ⟨rfl, hw'⟩
      simp only [Act.put, List.setIfInBounds_toArray, List.set_cons_succ, List.set_cons_zero]
      apply wpK_val
      · rfl
      · intro w' hw'
        go_simp
        first | exact rfl | exact ⟨rfl, hw'⟩
      simp only [Act.put, List.setIfInBounds_toArray, List.set_cons_succ, List.set_cons_zero]
      apply wpK_not
      · rfl
      simp only [Act.put, List.setIfInBounds_toArray, List.set_cons_succ, List.set_cons_zero]
      apply wpK_not
      · rfl
      simp only [Act.put, List.setIfInBounds_toArray, List.set_cons_succ, List.set_cons_zero]
      apply wpK_not
      · rfl
      simp only [Act.put, List.setIfInBounds_toArray, List.set_cons_succ, List.set_cons_zero]
      apply wpK_not
      · rfl
      simp only [Act.put, List.setIfInBounds_toArray, List.set_cons_succ, List.set_cons_zero]
      apply wpK_not
      · rfl
      simp only [Act.put, List.setIfInBounds_toArray, List.set_cons_succ, List.set_cons_zero]
      apply wpK_not
      · rfl
      simp only [Act.put, List.setIfInBounds_toArray, List.set_cons_succ, List.set_cons_zero]
      apply wpK_not
      · rfl
      simp only [Act.put, List.setIfInBounds_toArray, List.set_cons_succ, List.set_cons_zero]
      apply wpK_not
      · rfl
      simp only [Act.put, List.setIfInBounds_toArray, List.set_cons_succ, List.set_cons_zero]
      apply wpK_not
      · rfl
      simp only [Act.put, List.setIfInBounds_toArray, List.set_cons_succ, List.set_cons_zero]
      apply wpK_not
      · rfl
      simp only [Act.put, List.setIfInBounds_toArray, List.set_cons_succ, List.set_cons_zero]
      apply wpK_not
      · rfl
      simp only [Act.put, List.setIfInBounds_toArray, List.set_cons_succ, List.set_cons_zero]
      apply wpK_not
      · rfl
      simp only [Act.put, List.setIfInBounds_toArray, List.set_cons_succ, List.set_cons_zero]
      refine wpK_nil fun w5 hw5 => ?_
      have B5 := hid (B3.out.trans (hw5.mono B3.out.size))
      clear hw5 HD Q1 Q2 B3
      go_wp2_with fail
      go_ret2
      rw [HP.out]
      exact ⟨by rw [if_neg (by have := HL.out; omega)]; rfl, B5.out⟩
    · have HD := hid (show decide (i < 0) = false by simp [hlt])
      have HL := hid hlt
      have HI := hid hi
      have hw : IntKind.i64.wrap (i) = i := IntWalk.i64_in _ (by omega)
      have hu : IntKind.i64.wrap ((y : Int) - x) = (y : Int) - x := IntWalk.i64_in _ (by omega)
      have HW := hid hw
      have HU := hid hu
      clear hlt hw hu hi
      apply wpK_val
      · rfl
      · intro w' hw'
        go_simp
        first | exact rfl | exact ⟨rfl, hw'⟩
      simp only [Act.put, List.setIfInBounds_toArray, List.set_cons_succ, List.set_cons_zero]
      apply wpK_val
      · rfl
      · intro w' hw'
        go_simp
        first | exact rfl | exact ⟨rfl, hw'⟩
      simp only [Act.put, List.setIfInBounds_toArray, List.set_cons_succ, List.set_cons_zero]
      apply wpK_val
      · rfl
      · intro w' hw'
        have h1 : _ = _ := HD.out
        go_simp
        first | exact rfl | exact ⟨rfl, hw'⟩
      simp only [Act.put, List.setIfInBounds_toArray, List.set_cons_succ, List.set_cons_zero]
      apply wpK_val
      · rfl
      · intro w' hw'
        go_simp
        first | exact rfl | exact ⟨rfl, hw'⟩
      simp only [Act.put, List.setIfInBounds_toArray, List.set_cons_succ, List.set_cons_zero]
      apply wpK_val
      · rfl
      · intro w' hw'
        go_simp
        first | exact rfl | exact ⟨rfl, hw'⟩
      simp only [Act.put, List.setIfInBounds_toArray, List.set_cons_succ, List.set_cons_zero]
      apply wpK_val
      · rfl
      · intro w' hw'
        go_simp
        first | exact rfl | exact ⟨rfl, hw'⟩
      simp only [Act.put, List.setIfInBounds_toArray, List.set_cons_succ, List.set_cons_zero]
      apply wpK_val
      · rfl
      · intro w' hw'
        have h1 : _ = _ := HW.out
        go_simp
        first | exact rfl | exact ⟨rfl, hw'⟩
      simp only [Act.put, List.setIfInBounds_toArray, List.set_cons_succ, List.set_cons_zero]
      apply wpK_val
      · rfl
      · intro w' hw'
        go_simp
        first | exact rfl | exact ⟨rfl, hw'⟩
      simp only [Act.put, List.setIfInBounds_toArray, List.set_cons_succ, List.set_cons_zero]
      apply wpK_val
      · rfl
      · intro w' hw'
        have h1 : IntKind.i64.wrap 2 = 2 := rfl
        go_simp
        first | exact rfl | exact ⟨rfl, hw'⟩
      simp only [Act.put, List.setIfInBounds_toArray, List.set_cons_succ, List.set_cons_zero]
      apply wpK_val
      · rfl
      · intro w' hw'
        go_simp
        first | exact rfl | exact ⟨rfl, hw'⟩
      simp only [Act.put, List.setIfInBounds_toArray, List.set_cons_succ, List.set_cons_zero]
      apply wpK_val
      · rfl
      · intro w' hw'
        have hcell := Q2.out w' hw'
        go_simp
        first | exact rfl | exact ⟨rfl, hw'⟩
      simp only [Act.put, List.setIfInBounds_toArray, List.set_cons_succ, List.set_cons_zero]
      apply wpK_val
      · rfl
      · intro w' hw'
        go_simp
        first | exact rfl | exact ⟨rfl, hw'⟩
      simp only [Act.put, List.setIfInBounds_toArray, List.set_cons_succ, List.set_cons_zero]
      apply wpK_val
      · rfl
      · intro w' hw'
        go_simp
        first | exact rfl | exact ⟨rfl, hw'⟩
      simp only [Act.put, List.setIfInBounds_toArray, List.set_cons_succ, List.set_cons_zero]
      apply wpK_val
      · rfl
      · intro w' hw'
        have hcell := Q1.out w' hw'
        go_simp
        first | exact rfl | exact ⟨rfl, hw'⟩
      simp only [Act.put, List.setIfInBounds_toArray, List.set_cons_succ, List.set_cons_zero]
      apply wpK_val
      · rfl
      · intro w' hw'
        have h1 : _ = _ := HU.out
        go_simp
        first | exact rfl | exact ⟨rfl, hw'⟩
      simp only [Act.put, List.setIfInBounds_toArray, List.set_cons_succ, List.set_cons_zero]
      by_cases hc : (y : Int) - x ≤ i
      · have HC := hid hc
        have HD2 := hid (show decide ((y : Int) - x ≤ i) = true by simp [hc])
        clear hc
        apply wpK_val
        · rfl
        · intro w' hw'
          have h1 : _ = _ := HD2.out
          go_simp
          first | exact rfl | exact ⟨rfl, hw'⟩
        simp only [Act.put, List.setIfInBounds_toArray, List.set_cons_succ, List.set_cons_zero]
        refine wpK_nil fun w5 hw5 => ?_
        have B5 := hid (B3.out.trans (hw5.mono B3.out.size))
        clear hw5 HD HD2 Q1 Q2 B3
        go_wp2_with fail
        go_ret2
        rw [HP.out]
        exact ⟨by rw [if_neg (by have := HC.out; omega)]; rfl, B5.out⟩
      · have HC := hid hc
        have HD2 := hid (show decide ((y : Int) - x ≤ i) = false by simp [hc])
        have c1 : 0 ≤ i := by have := HL.out; omega
        have c2 : i ≤ 30000 := by omega
        clear hc
        apply wpK_val
        · rfl
        · intro w' hw'
          have h1 : _ = _ := HD2.out
          go_simp
          first | exact rfl | exact ⟨rfl, hw'⟩
        simp only [Act.put, List.setIfInBounds_toArray, List.set_cons_succ, List.set_cons_zero]
        refine wpK_nil fun w5 hw5 => ?_
        have B5 := hid (B3.out.trans (hw5.mono B3.out.size))
        have q1 := Q1.out w5 hw5
        clear hw5 HD HD2 Q1 Q2 B3
        go_wp2_with fail
        go_ret2
        rw [HP.out]
        refine ⟨?_, B5.out⟩
        rw [if_pos (by have := HC.out; omega)]
        unfold plV
        refine congrArg (fun v : Int => Ending.returned (.tuple #[.int .i64 v, .int .i64 0])) ?_
        have := HC.out
        omega
  · obtain ⟨x, hx⟩ : ∃ x, x = L (st · · 2) a b := ⟨_, rfl⟩
    obtain ⟨y, hy⟩ : ∃ y, y = L (st · · 3) a b := ⟨_, rfl⟩
    have hp : pl a b 2 i = if (0 : Int) ≤ i ∧ i - 0 < (y : Int) - x then some (x + (i - 0).toNat) else none := by rw [hx, hy]; exact pl_L (k := 2) (by omega) (by omega) a b i
    have hb : x ≤ y ∧ y ≤ 20000 := by rw [hx, hy]; exact @st_up a b 2 (by omega) (by omega)
    have hl : ((lw 2 : Nat) : Int) = 0 := rfl
    have HX := hid hx
    have HY := hid hy
    have HP := hid hp
    obtain ⟨b1, b2⟩ := hb
    clear hp hx hy
    unfold gv
    go_enter Try.func86, Try.ntmps86
    go_wp2_with ((with_reducible apply ldR (cs := #[Value.int .i64 a, .int .i64 b]) (tGe _ _)); rfl; exact (At.new w a b).blk.whole)
    refine (of_any _ _ _).mono ?_
    rintro e w1 ⟨rfl, h1⟩
    have A1 := hid ((At.new w a b).on h1)
    clear h1
    go_wp2_with fail
    refine (lowest_any _ _).mono ?_
    rintro e w2 ⟨rfl, rfl⟩
    rw [hl]
    unfold sv
    rw [← HX.out, ← HY.out]
    clear hl
    go_upto_region 4 with ((with_reducible apply stR (tSt _ _ _ _ _ _)); rfl; rfl; exact Blk.new _ _ _; rfl; exact one6 _ _ _ _ _ _)
    generalize hw3 : World.setRow _ _ _ = w3
    obtain ⟨z, hz⟩ : ∃ z, z = w1.heap.size := ⟨_, rfl⟩
    have S3 := hid (show Blk w3 z tyS _ by rw [← hw3, hz]; exact (Blk.new w1 _ _).setRow_same _)
    have B3 := hid (show Below w.heap.size w w3 by rw [← hw3]; exact below_setRow (A1.out.bel.alloc A1.out.bel.size _) A1.out.bel.size _)
    have Q1 := hid (show ∀ w', Below w3.heap.size w3 w' → w'.cell? ⟨z, 2, none⟩ = some (.int .i64 x) from fun w' h => (S3.out.below h S3.out.lt).cell 2)
    have Q2 := hid (show ∀ w', Below w3.heap.size w3 w' → w'.cell? ⟨z, 3, none⟩ = some (.int .i64 y) from fun w' h => (S3.out.below h S3.out.lt).cell 3)
    rw [← hz]
    clear hw3 hz A1 S3 HX HY
    refine wp_region_tail (C := fun w' => Below w3.heap.size w3 w') 16 (by kernel_rfl) (by kernel_rfl) (by kernel_rfl) (Below.refl _ _).drew ?_
    simp only [List.take_succ_cons, List.take_zero, List.drop_succ_cons, List.drop_zero]
    by_cases hlt : i < 0
    · have HD := hid (show decide (i < 0) = true by simp [hlt])
      have HL := hid hlt
      clear hlt b1 b2
      apply wpK_val
      · rfl
      · intro w' hw'
        go_simp
        first | exact rfl | exact ⟨rfl, hw'⟩
      simp only [Act.put, List.setIfInBounds_toArray, List.set_cons_succ, List.set_cons_zero]
      apply wpK_val
      · rfl
      · intro w' hw'
        go_simp
        first | exact rfl | exact ⟨rfl, hw'⟩
      simp only [Act.put, List.setIfInBounds_toArray, List.set_cons_succ, List.set_cons_zero]
      apply wpK_val
      · rfl
      · intro w' hw'
        have h1 : _ = _ := HD.out
        go_simp
        first | exact rfl | exact ⟨rfl, hw'⟩
      simp only [Act.put, List.setIfInBounds_toArray, List.set_cons_succ, List.set_cons_zero]
      apply wpK_val
      · rfl
      · intro w' hw'
        go_simp
        first | exact rfl | exact ⟨rfl, hw'⟩
      simp only [Act.put, List.setIfInBounds_toArray, List.set_cons_succ, List.set_cons_zero]
      apply wpK_not
      · rfl
      simp only [Act.put, List.setIfInBounds_toArray, List.set_cons_succ, List.set_cons_zero]
      apply wpK_not
      · rfl
      simp only [Act.put, List.setIfInBounds_toArray, List.set_cons_succ, List.set_cons_zero]
      apply wpK_not
      · rfl
      simp only [Act.put, List.setIfInBounds_toArray, List.set_cons_succ, List.set_cons_zero]
      apply wpK_not
      · rfl
      simp only [Act.put, List.setIfInBounds_toArray, List.set_cons_succ, List.set_cons_zero]
      apply wpK_not
      · rfl
      simp only [Act.put, List.setIfInBounds_toArray, List.set_cons_succ, List.set_cons_zero]
      apply wpK_not
      · rfl
      simp only [Act.put, List.setIfInBounds_toArray, List.set_cons_succ, List.set_cons_zero]
      apply wpK_not
      · rfl
      simp only [Act.put, List.setIfInBounds_toArray, List.set_cons_succ, List.set_cons_zero]
      apply wpK_not
      · rfl
      simp only [Act.put, List.setIfInBounds_toArray, List.set_cons_succ, List.set_cons_zero]
      apply wpK_not
      · rfl
      simp only [Act.put, List.setIfInBounds_toArray, List.set_cons_succ, List.set_cons_zero]
      apply wpK_not
      · rfl
      simp only [Act.put, List.setIfInBounds_toArray, List.set_cons_succ, List.set_cons_zero]
      apply wpK_not
      · rfl
      simp only [Act.put, List.setIfInBounds_toArray, List.set_cons_succ, List.set_cons_zero]
      apply wpK_not
      · rfl
      simp only [Act.put, List.setIfInBounds_toArray, List.set_cons_succ, List.set_cons_zero]
      refine wpK_nil fun w5 hw5 => ?_
      have B5 := hid (B3.out.trans (hw5.mono B3.out.size))
      clear hw5 HD Q1 Q2 B3
      go_wp2_with fail
      go_ret2
      rw [HP.out]
      exact ⟨by rw [if_neg (by have := HL.out; omega)]; rfl, B5.out⟩
    · have HD := hid (show decide (i < 0) = false by simp [hlt])
      have HL := hid hlt
      have HI := hid hi
      have hw : IntKind.i64.wrap (i) = i := IntWalk.i64_in _ (by omega)
      have hu : IntKind.i64.wrap ((y : Int) - x) = (y : Int) - x := IntWalk.i64_in _ (by omega)
      have HW := hid hw
      have HU := hid hu
      clear hlt hw hu hi
      apply wpK_val
      · rfl
      · intro w' hw'
        go_simp
        first | exact rfl | exact ⟨rfl, hw'⟩
      simp only [Act.put, List.setIfInBounds_toArray, List.set_cons_succ, List.set_cons_zero]
      apply wpK_val
      · rfl
      · intro w' hw'
        go_simp
        first | exact rfl | exact ⟨rfl, hw'⟩
      simp only [Act.put, List.setIfInBounds_toArray, List.set_cons_succ, List.set_cons_zero]
      apply wpK_val
      · rfl
      · intro w' hw'
        have h1 : _ = _ := HD.out
        go_simp
        first | exact rfl | exact ⟨rfl, hw'⟩
      simp only [Act.put, List.setIfInBounds_toArray, List.set_cons_succ, List.set_cons_zero]
      apply wpK_val
      · rfl
      · intro w' hw'
        go_simp
        first | exact rfl | exact ⟨rfl, hw'⟩
      simp only [Act.put, List.setIfInBounds_toArray, List.set_cons_succ, List.set_cons_zero]
      apply wpK_val
      · rfl
      · intro w' hw'
        go_simp
        first | exact rfl | exact ⟨rfl, hw'⟩
      simp only [Act.put, List.setIfInBounds_toArray, List.set_cons_succ, List.set_cons_zero]
      apply wpK_val
      · rfl
      · intro w' hw'
        go_simp
        first | exact rfl | exact ⟨rfl, hw'⟩
      simp only [Act.put, List.setIfInBounds_toArray, List.set_cons_succ, List.set_cons_zero]
      apply wpK_val
      · rfl
      · intro w' hw'
        have h1 : _ = _ := HW.out
        go_simp
        first | exact rfl | exact ⟨rfl, hw'⟩
      simp only [Act.put, List.setIfInBounds_toArray, List.set_cons_succ, List.set_cons_zero]
      apply wpK_val
      · rfl
      · intro w' hw'
        go_simp
        first | exact rfl | exact ⟨rfl, hw'⟩
      simp only [Act.put, List.setIfInBounds_toArray, List.set_cons_succ, List.set_cons_zero]
      apply wpK_val
      · rfl
      · intro w' hw'
        have h1 : IntKind.i64.wrap 3 = 3 := rfl
        go_simp
        first | exact rfl | exact ⟨rfl, hw'⟩
      simp only [Act.put, List.setIfInBounds_toArray, List.set_cons_succ, List.set_cons_zero]
      apply wpK_val
      · rfl
      · intro w' hw'
        go_simp
        first | exact rfl | exact ⟨rfl, hw'⟩
      simp only [Act.put, List.setIfInBounds_toArray, List.set_cons_succ, List.set_cons_zero]
      apply wpK_val
      · rfl
      · intro w' hw'
        have hcell := Q2.out w' hw'
        go_simp
        first | exact rfl | exact ⟨rfl, hw'⟩
      simp only [Act.put, List.setIfInBounds_toArray, List.set_cons_succ, List.set_cons_zero]
      apply wpK_val
      · rfl
      · intro w' hw'
        go_simp
        first | exact rfl | exact ⟨rfl, hw'⟩
      simp only [Act.put, List.setIfInBounds_toArray, List.set_cons_succ, List.set_cons_zero]
      apply wpK_val
      · rfl
      · intro w' hw'
        go_simp
        first | exact rfl | exact ⟨rfl, hw'⟩
      simp only [Act.put, List.setIfInBounds_toArray, List.set_cons_succ, List.set_cons_zero]
      apply wpK_val
      · rfl
      · intro w' hw'
        have hcell := Q1.out w' hw'
        go_simp
        first | exact rfl | exact ⟨rfl, hw'⟩
      simp only [Act.put, List.setIfInBounds_toArray, List.set_cons_succ, List.set_cons_zero]
      apply wpK_val
      · rfl
      · intro w' hw'
        have h1 : _ = _ := HU.out
        go_simp
        first | exact rfl | exact ⟨rfl, hw'⟩
      simp only [Act.put, List.setIfInBounds_toArray, List.set_cons_succ, List.set_cons_zero]
      by_cases hc : (y : Int) - x ≤ i
      · have HC := hid hc
        have HD2 := hid (show decide ((y : Int) - x ≤ i) = true by simp [hc])
        clear hc
        apply wpK_val
        · rfl
        · intro w' hw'
          have h1 : _ = _ := HD2.out
          go_simp
          first | exact rfl | exact ⟨rfl, hw'⟩
        simp only [Act.put, List.setIfInBounds_toArray, List.set_cons_succ, List.set_cons_zero]
        refine wpK_nil fun w5 hw5 => ?_
        have B5 := hid (B3.out.trans (hw5.mono B3.out.size))
        clear hw5 HD HD2 Q1 Q2 B3
        go_wp2_with fail
        go_ret2
        rw [HP.out]
        exact ⟨by rw [if_neg (by have := HC.out; omega)]; rfl, B5.out⟩
      · have HC := hid hc
        have HD2 := hid (show decide ((y : Int) - x ≤ i) = false by simp [hc])
        have c1 : 0 ≤ i := by have := HL.out; omega
        have c2 : i ≤ 30000 := by omega
        clear hc
        apply wpK_val
        · rfl
        · intro w' hw'
          have h1 : _ = _ := HD2.out
          go_simp
          first | exact rfl | exact ⟨rfl, hw'⟩
        simp only [Act.put, List.setIfInBounds_toArray, List.set_cons_succ, List.set_cons_zero]
        refine wpK_nil fun w5 hw5 => ?_
        have B5 := hid (B3.out.trans (hw5.mono B3.out.size))
        have q1 := Q1.out w5 hw5
        clear hw5 HD HD2 Q1 Q2 B3
        go_wp2_with fail
        go_ret2
        rw [HP.out]
        refine ⟨?_, B5.out⟩
        rw [if_pos (by have := HC.out; omega)]
        unfold plV
        refine congrArg (fun v : Int => Ending.returned (.tuple #[.int .i64 v, .int .i64 0])) ?_
        have := HC.out
        omega
  · obtain ⟨x, hx⟩ : ∃ x, x = L (st · · 3) a b := ⟨_, rfl⟩
    obtain ⟨y, hy⟩ : ∃ y, y = L (st · · 4) a b := ⟨_, rfl⟩
    have hp : pl a b 3 i = if (1 : Int) ≤ i ∧ i - 1 < (y : Int) - x then some (x + (i - 1).toNat) else none := by rw [hx, hy]; exact pl_L (k := 3) (by omega) (by omega) a b i
    have hb : x ≤ y ∧ y ≤ 20000 := by rw [hx, hy]; exact @st_up a b 3 (by omega) (by omega)
    have hl : ((lw 3 : Nat) : Int) = 1 := rfl
    have HX := hid hx
    have HY := hid hy
    have HP := hid hp
    obtain ⟨b1, b2⟩ := hb
    clear hp hx hy
    unfold gv
    go_enter Try.func86, Try.ntmps86
    go_wp2_with ((with_reducible apply ldR (cs := #[Value.int .i64 a, .int .i64 b]) (tGe _ _)); rfl; exact (At.new w a b).blk.whole)
    refine (of_any _ _ _).mono ?_
    rintro e w1 ⟨rfl, h1⟩
    have A1 := hid ((At.new w a b).on h1)
    clear h1
    go_wp2_with fail
    refine (lowest_any _ _).mono ?_
    rintro e w2 ⟨rfl, rfl⟩
    rw [hl]
    unfold sv
    rw [← HX.out, ← HY.out]
    clear hl
    go_upto_region 4 with ((with_reducible apply stR (tSt _ _ _ _ _ _)); rfl; rfl; exact Blk.new _ _ _; rfl; exact one6 _ _ _ _ _ _)
    generalize hw3 : World.setRow _ _ _ = w3
    obtain ⟨z, hz⟩ : ∃ z, z = w1.heap.size := ⟨_, rfl⟩
    have S3 := hid (show Blk w3 z tyS _ by rw [← hw3, hz]; exact (Blk.new w1 _ _).setRow_same _)
    have B3 := hid (show Below w.heap.size w w3 by rw [← hw3]; exact below_setRow (A1.out.bel.alloc A1.out.bel.size _) A1.out.bel.size _)
    have Q1 := hid (show ∀ w', Below w3.heap.size w3 w' → w'.cell? ⟨z, 3, none⟩ = some (.int .i64 x) from fun w' h => (S3.out.below h S3.out.lt).cell 3)
    have Q2 := hid (show ∀ w', Below w3.heap.size w3 w' → w'.cell? ⟨z, 4, none⟩ = some (.int .i64 y) from fun w' h => (S3.out.below h S3.out.lt).cell 4)
    rw [← hz]
    clear hw3 hz A1 S3 HX HY
    refine wp_region_tail (C := fun w' => Below w3.heap.size w3 w') 16 (by kernel_rfl) (by kernel_rfl) (by kernel_rfl) (Below.refl _ _).drew ?_
    simp only [List.take_succ_cons, List.take_zero, List.drop_succ_cons, List.drop_zero]
    by_cases hlt : i < 1
    · have HD := hid (show decide (i < 1) = true by simp [hlt])
      have HL := hid hlt
      clear hlt b1 b2
      apply wpK_val
      · rfl
      · intro w' hw'
        go_simp
        first | exact rfl | exact ⟨rfl, hw'⟩
      simp only [Act.put, List.setIfInBounds_toArray, List.set_cons_succ, List.set_cons_zero]
      apply wpK_val
      · rfl
      · intro w' hw'
        go_simp
        first | exact rfl | exact ⟨rfl, hw'⟩
      simp only [Act.put, List.setIfInBounds_toArray, List.set_cons_succ, List.set_cons_zero]
      apply wpK_val
      · rfl
      · intro w' hw'
        have h1 : _ = _ := HD.out
        go_simp
        first | exact rfl | exact ⟨rfl, hw'⟩
      simp only [Act.put, List.setIfInBounds_toArray, List.set_cons_succ, List.set_cons_zero]
      apply wpK_val
      · rfl
      · intro w' hw'
        go_simp
        first | exact rfl | exact ⟨rfl, hw'⟩
      simp only [Act.put, List.setIfInBounds_toArray, List.set_cons_succ, List.set_cons_zero]
      apply wpK_not
      · rfl
      simp only [Act.put, List.setIfInBounds_toArray, List.set_cons_succ, List.set_cons_zero]
      apply wpK_not
      · rfl
      simp only [Act.put, List.setIfInBounds_toArray, List.set_cons_succ, List.set_cons_zero]
      apply wpK_not
      · rfl
      simp only [Act.put, List.setIfInBounds_toArray, List.set_cons_succ, List.set_cons_zero]
      apply wpK_not
      · rfl
      simp only [Act.put, List.setIfInBounds_toArray, List.set_cons_succ, List.set_cons_zero]
      apply wpK_not
      · rfl
      simp only [Act.put, List.setIfInBounds_toArray, List.set_cons_succ, List.set_cons_zero]
      apply wpK_not
      · rfl
      simp only [Act.put, List.setIfInBounds_toArray, List.set_cons_succ, List.set_cons_zero]
      apply wpK_not
      · rfl
      simp only [Act.put, List.setIfInBounds_toArray, List.set_cons_succ, List.set_cons_zero]
      apply wpK_not
      · rfl
      simp only [Act.put, List.setIfInBounds_toArray, List.set_cons_succ, List.set_cons_zero]
      apply wpK_not
      · rfl
      simp only [Act.put, List.setIfInBounds_toArray, List.set_cons_succ, List.set_cons_zero]
      apply wpK_not
      · rfl
      simp only [Act.put, List.setIfInBounds_toArray, List.set_cons_succ, List.set_cons_zero]
      apply wpK_not
      · rfl
      simp only [Act.put, List.setIfInBounds_toArray, List.set_cons_succ, List.set_cons_zero]
      apply wpK_not
      · rfl
      simp only [Act.put, List.setIfInBounds_toArray, List.set_cons_succ, List.set_cons_zero]
      refine wpK_nil fun w5 hw5 => ?_
      have B5 := hid (B3.out.trans (hw5.mono B3.out.size))
      clear hw5 HD Q1 Q2 B3
      go_wp2_with fail
      go_ret2
      rw [HP.out]
      exact ⟨by rw [if_neg (by have := HL.out; omega)]; rfl, B5.out⟩
    · have HD := hid (show decide (i < 1) = false by simp [hlt])
      have HL := hid hlt
      have HI := hid hi
      have hw : IntKind.i64.wrap (i - 1) = i - 1 := IntWalk.i64_in _ (by omega)
      have hu : IntKind.i64.wrap ((y : Int) - x) = (y : Int) - x := IntWalk.i64_in _ (by omega)
      have HW := hid hw
      have HU := hid hu
      clear hlt hw hu hi
      apply wpK_val
      · rfl
      · intro w' hw'
        go_simp
        first | exact rfl | exact ⟨rfl, hw'⟩
      simp only [Act.put, List.setIfInBounds_toArray, List.set_cons_succ, List.set_cons_zero]
      apply wpK_val
      · rfl
      · intro w' hw'
        go_simp
        first | exact rfl | exact ⟨rfl, hw'⟩
      simp only [Act.put, List.setIfInBounds_toArray, List.set_cons_succ, List.set_cons_zero]
      apply wpK_val
      · rfl
      · intro w' hw'
        have h1 : _ = _ := HD.out
        go_simp
        first | exact rfl | exact ⟨rfl, hw'⟩
      simp only [Act.put, List.setIfInBounds_toArray, List.set_cons_succ, List.set_cons_zero]
      apply wpK_val
      · rfl
      · intro w' hw'
        go_simp
        first | exact rfl | exact ⟨rfl, hw'⟩
      simp only [Act.put, List.setIfInBounds_toArray, List.set_cons_succ, List.set_cons_zero]
      apply wpK_val
      · rfl
      · intro w' hw'
        go_simp
        first | exact rfl | exact ⟨rfl, hw'⟩
      simp only [Act.put, List.setIfInBounds_toArray, List.set_cons_succ, List.set_cons_zero]
      apply wpK_val
      · rfl
      · intro w' hw'
        go_simp
        first | exact rfl | exact ⟨rfl, hw'⟩
      simp only [Act.put, List.setIfInBounds_toArray, List.set_cons_succ, List.set_cons_zero]
      apply wpK_val
      · rfl
      · intro w' hw'
        have h1 : _ = _ := HW.out
        go_simp
        first | exact rfl | exact ⟨rfl, hw'⟩
      simp only [Act.put, List.setIfInBounds_toArray, List.set_cons_succ, List.set_cons_zero]
      apply wpK_val
      · rfl
      · intro w' hw'
        go_simp
        first | exact rfl | exact ⟨rfl, hw'⟩
      simp only [Act.put, List.setIfInBounds_toArray, List.set_cons_succ, List.set_cons_zero]
      apply wpK_val
      · rfl
      · intro w' hw'
        have h1 : IntKind.i64.wrap 4 = 4 := rfl
        go_simp
        first | exact rfl | exact ⟨rfl, hw'⟩
      simp only [Act.put, List.setIfInBounds_toArray, List.set_cons_succ, List.set_cons_zero]
      apply wpK_val
      · rfl
      · intro w' hw'
        go_simp
        first | exact rfl | exact ⟨rfl, hw'⟩
      simp only [Act.put, List.setIfInBounds_toArray, List.set_cons_succ, List.set_cons_zero]
      apply wpK_val
      · rfl
      · intro w' hw'
        have hcell := Q2.out w' hw'
        go_simp
        first | exact rfl | exact ⟨rfl, hw'⟩
      simp only [Act.put, List.setIfInBounds_toArray, List.set_cons_succ, List.set_cons_zero]
      apply wpK_val
      · rfl
      · intro w' hw'
        go_simp
        first | exact rfl | exact ⟨rfl, hw'⟩
      simp only [Act.put, List.setIfInBounds_toArray, List.set_cons_succ, List.set_cons_zero]
      apply wpK_val
      · rfl
      · intro w' hw'
        go_simp
        first | exact rfl | exact ⟨rfl, hw'⟩
      simp only [Act.put, List.setIfInBounds_toArray, List.set_cons_succ, List.set_cons_zero]
      apply wpK_val
      · rfl
      · intro w' hw'
        have hcell := Q1.out w' hw'
        go_simp
        first | exact rfl | exact ⟨rfl, hw'⟩
      simp only [Act.put, List.setIfInBounds_toArray, List.set_cons_succ, List.set_cons_zero]
      apply wpK_val
      · rfl
      · intro w' hw'
        have h1 : _ = _ := HU.out
        go_simp
        first | exact rfl | exact ⟨rfl, hw'⟩
      simp only [Act.put, List.setIfInBounds_toArray, List.set_cons_succ, List.set_cons_zero]
      by_cases hc : (y : Int) - x ≤ i - 1
      · have HC := hid hc
        have HD2 := hid (show decide ((y : Int) - x ≤ i - 1) = true by simp [hc])
        clear hc
        apply wpK_val
        · rfl
        · intro w' hw'
          have h1 : _ = _ := HD2.out
          go_simp
          first | exact rfl | exact ⟨rfl, hw'⟩
        simp only [Act.put, List.setIfInBounds_toArray, List.set_cons_succ, List.set_cons_zero]
        refine wpK_nil fun w5 hw5 => ?_
        have B5 := hid (B3.out.trans (hw5.mono B3.out.size))
        clear hw5 HD HD2 Q1 Q2 B3
        go_wp2_with fail
        go_ret2
        rw [HP.out]
        exact ⟨by rw [if_neg (by have := HC.out; omega)]; rfl, B5.out⟩
      · have HC := hid hc
        have HD2 := hid (show decide ((y : Int) - x ≤ i - 1) = false by simp [hc])
        have c1 : 1 ≤ i := by have := HL.out; omega
        have c2 : i ≤ 30000 := by omega
        clear hc
        apply wpK_val
        · rfl
        · intro w' hw'
          have h1 : _ = _ := HD2.out
          go_simp
          first | exact rfl | exact ⟨rfl, hw'⟩
        simp only [Act.put, List.setIfInBounds_toArray, List.set_cons_succ, List.set_cons_zero]
        refine wpK_nil fun w5 hw5 => ?_
        have B5 := hid (B3.out.trans (hw5.mono B3.out.size))
        have q1 := Q1.out w5 hw5
        clear hw5 HD HD2 Q1 Q2 B3
        go_wp2_with fail
        go_ret2
        rw [HP.out]
        refine ⟨?_, B5.out⟩
        rw [if_pos (by have := HC.out; omega)]
        unfold plV
        refine congrArg (fun v : Int => Ending.returned (.tuple #[.int .i64 v, .int .i64 0])) ?_
        have := HC.out
        omega
  · obtain ⟨x, hx⟩ : ∃ x, x = L (st · · 4) a b := ⟨_, rfl⟩
    obtain ⟨y, hy⟩ : ∃ y, y = L (st · · 5) a b := ⟨_, rfl⟩
    have hp : pl a b 4 i = if (0 : Int) ≤ i ∧ i - 0 < (y : Int) - x then some (x + (i - 0).toNat) else none := by rw [hx, hy]; exact pl_L (k := 4) (by omega) (by omega) a b i
    have hb : x ≤ y ∧ y ≤ 20000 := by rw [hx, hy]; exact @st_up a b 4 (by omega) (by omega)
    have hl : ((lw 4 : Nat) : Int) = 0 := rfl
    have HX := hid hx
    have HY := hid hy
    have HP := hid hp
    obtain ⟨b1, b2⟩ := hb
    clear hp hx hy
    unfold gv
    go_enter Try.func86, Try.ntmps86
    go_wp2_with ((with_reducible apply ldR (cs := #[Value.int .i64 a, .int .i64 b]) (tGe _ _)); rfl; exact (At.new w a b).blk.whole)
    refine (of_any _ _ _).mono ?_
    rintro e w1 ⟨rfl, h1⟩
    have A1 := hid ((At.new w a b).on h1)
    clear h1
    go_wp2_with fail
    refine (lowest_any _ _).mono ?_
    rintro e w2 ⟨rfl, rfl⟩
    rw [hl]
    unfold sv
    rw [← HX.out, ← HY.out]
    clear hl
    go_upto_region 4 with ((with_reducible apply stR (tSt _ _ _ _ _ _)); rfl; rfl; exact Blk.new _ _ _; rfl; exact one6 _ _ _ _ _ _)
    generalize hw3 : World.setRow _ _ _ = w3
    obtain ⟨z, hz⟩ : ∃ z, z = w1.heap.size := ⟨_, rfl⟩
    have S3 := hid (show Blk w3 z tyS _ by rw [← hw3, hz]; exact (Blk.new w1 _ _).setRow_same _)
    have B3 := hid (show Below w.heap.size w w3 by rw [← hw3]; exact below_setRow (A1.out.bel.alloc A1.out.bel.size _) A1.out.bel.size _)
    have Q1 := hid (show ∀ w', Below w3.heap.size w3 w' → w'.cell? ⟨z, 4, none⟩ = some (.int .i64 x) from fun w' h => (S3.out.below h S3.out.lt).cell 4)
    have Q2 := hid (show ∀ w', Below w3.heap.size w3 w' → w'.cell? ⟨z, 5, none⟩ = some (.int .i64 y) from fun w' h => (S3.out.below h S3.out.lt).cell 5)
    rw [← hz]
    clear hw3 hz A1 S3 HX HY
    refine wp_region_tail (C := fun w' => Below w3.heap.size w3 w') 16 (by kernel_rfl) (by kernel_rfl) (by kernel_rfl) (Below.refl _ _).drew ?_
    simp only [List.take_succ_cons, List.take_zero, List.drop_succ_cons, List.drop_zero]
    by_cases hlt : i < 0
    · have HD := hid (show decide (i < 0) = true by simp [hlt])
      have HL := hid hlt
      clear hlt b1 b2
      apply wpK_val
      · rfl
      · intro w' hw'
        go_simp
        first | exact rfl | exact ⟨rfl, hw'⟩
      simp only [Act.put, List.setIfInBounds_toArray, List.set_cons_succ, List.set_cons_zero]
      apply wpK_val
      · rfl
      · intro w' hw'
        go_simp
        first | exact rfl | exact ⟨rfl, hw'⟩
      simp only [Act.put, List.setIfInBounds_toArray, List.set_cons_succ, List.set_cons_zero]
      apply wpK_val
      · rfl
      · intro w' hw'
        have h1 : _ = _ := HD.out
        go_simp
        first | exact rfl | exact ⟨rfl, hw'⟩
      simp only [Act.put, List.setIfInBounds_toArray, List.set_cons_succ, List.set_cons_zero]
      apply wpK_val
      · rfl
      · intro w' hw'
        go_simp
        first | exact rfl | exact ⟨rfl, hw'⟩
      simp only [Act.put, List.setIfInBounds_toArray, List.set_cons_succ, List.set_cons_zero]
      apply wpK_not
      · rfl
      simp only [Act.put, List.setIfInBounds_toArray, List.set_cons_succ, List.set_cons_zero]
      apply wpK_not
      · rfl
      simp only [Act.put, List.setIfInBounds_toArray, List.set_cons_succ, List.set_cons_zero]
      apply wpK_not
      · rfl
      simp only [Act.put, List.setIfInBounds_toArray, List.set_cons_succ, List.set_cons_zero]
      apply wpK_not
      · rfl
      simp only [Act.put, List.setIfInBounds_toArray, List.set_cons_succ, List.set_cons_zero]
      apply wpK_not
      · rfl
      simp only [Act.put, List.setIfInBounds_toArray, List.set_cons_succ, List.set_cons_zero]
      apply wpK_not
      · rfl
      simp only [Act.put, List.setIfInBounds_toArray, List.set_cons_succ, List.set_cons_zero]
      apply wpK_not
      · rfl
      simp only [Act.put, List.setIfInBounds_toArray, List.set_cons_succ, List.set_cons_zero]
      apply wpK_not
      · rfl
      simp only [Act.put, List.setIfInBounds_toArray, List.set_cons_succ, List.set_cons_zero]
      apply wpK_not
      · rfl
      simp only [Act.put, List.setIfInBounds_toArray, List.set_cons_succ, List.set_cons_zero]
      apply wpK_not
      · rfl
      simp only [Act.put, List.setIfInBounds_toArray, List.set_cons_succ, List.set_cons_zero]
      apply wpK_not
      · rfl
      simp only [Act.put, List.setIfInBounds_toArray, List.set_cons_succ, List.set_cons_zero]
      apply wpK_not
      · rfl
      simp only [Act.put, List.setIfInBounds_toArray, List.set_cons_succ, List.set_cons_zero]
      refine wpK_nil fun w5 hw5 => ?_
      have B5 := hid (B3.out.trans (hw5.mono B3.out.size))
      clear hw5 HD Q1 Q2 B3
      go_wp2_with fail
      go_ret2
      rw [HP.out]
      exact ⟨by rw [if_neg (by have := HL.out; omega)]; rfl, B5.out⟩
    · have HD := hid (show decide (i < 0) = false by simp [hlt])
      have HL := hid hlt
      have HI := hid hi
      have hw : IntKind.i64.wrap (i) = i := IntWalk.i64_in _ (by omega)
      have hu : IntKind.i64.wrap ((y : Int) - x) = (y : Int) - x := IntWalk.i64_in _ (by omega)
      have HW := hid hw
      have HU := hid hu
      clear hlt hw hu hi
      apply wpK_val
      · rfl
      · intro w' hw'
        go_simp
        first | exact rfl | exact ⟨rfl, hw'⟩
      simp only [Act.put, List.setIfInBounds_toArray, List.set_cons_succ, List.set_cons_zero]
      apply wpK_val
      · rfl
      · intro w' hw'
        go_simp
        first | exact rfl | exact ⟨rfl, hw'⟩
      simp only [Act.put, List.setIfInBounds_toArray, List.set_cons_succ, List.set_cons_zero]
      apply wpK_val
      · rfl
      · intro w' hw'
        have h1 : _ = _ := HD.out
        go_simp
        first | exact rfl | exact ⟨rfl, hw'⟩
      simp only [Act.put, List.setIfInBounds_toArray, List.set_cons_succ, List.set_cons_zero]
      apply wpK_val
      · rfl
      · intro w' hw'
        go_simp
        first | exact rfl | exact ⟨rfl, hw'⟩
      simp only [Act.put, List.setIfInBounds_toArray, List.set_cons_succ, List.set_cons_zero]
      apply wpK_val
      · rfl
      · intro w' hw'
        go_simp
        first | exact rfl | exact ⟨rfl, hw'⟩
      simp only [Act.put, List.setIfInBounds_toArray, List.set_cons_succ, List.set_cons_zero]
      apply wpK_val
      · rfl
      · intro w' hw'
        go_simp
        first | exact rfl | exact ⟨rfl, hw'⟩
      simp only [Act.put, List.setIfInBounds_toArray, List.set_cons_succ, List.set_cons_zero]
      apply wpK_val
      · rfl
      · intro w' hw'
        have h1 : _ = _ := HW.out
        go_simp
        first | exact rfl | exact ⟨rfl, hw'⟩
      simp only [Act.put, List.setIfInBounds_toArray, List.set_cons_succ, List.set_cons_zero]
      apply wpK_val
      · rfl
      · intro w' hw'
        go_simp
        first | exact rfl | exact ⟨rfl, hw'⟩
      simp only [Act.put, List.setIfInBounds_toArray, List.set_cons_succ, List.set_cons_zero]
      apply wpK_val
      · rfl
      · intro w' hw'
        have h1 : IntKind.i64.wrap 5 = 5 := rfl
        go_simp
        first | exact rfl | exact ⟨rfl, hw'⟩
      simp only [Act.put, List.setIfInBounds_toArray, List.set_cons_succ, List.set_cons_zero]
      apply wpK_val
      · rfl
      · intro w' hw'
        go_simp
        first | exact rfl | exact ⟨rfl, hw'⟩
      simp only [Act.put, List.setIfInBounds_toArray, List.set_cons_succ, List.set_cons_zero]
      apply wpK_val
      · rfl
      · intro w' hw'
        have hcell := Q2.out w' hw'
        go_simp
        first | exact rfl | exact ⟨rfl, hw'⟩
      simp only [Act.put, List.setIfInBounds_toArray, List.set_cons_succ, List.set_cons_zero]
      apply wpK_val
      · rfl
      · intro w' hw'
        go_simp
        first | exact rfl | exact ⟨rfl, hw'⟩
      simp only [Act.put, List.setIfInBounds_toArray, List.set_cons_succ, List.set_cons_zero]
      apply wpK_val
      · rfl
      · intro w' hw'
        go_simp
        first | exact rfl | exact ⟨rfl, hw'⟩
      simp only [Act.put, List.setIfInBounds_toArray, List.set_cons_succ, List.set_cons_zero]
      apply wpK_val
      · rfl
      · intro w' hw'
        have hcell := Q1.out w' hw'
        go_simp
        first | exact rfl | exact ⟨rfl, hw'⟩
      simp only [Act.put, List.setIfInBounds_toArray, List.set_cons_succ, List.set_cons_zero]
      apply wpK_val
      · rfl
      · intro w' hw'
        have h1 : _ = _ := HU.out
        go_simp
        first | exact rfl | exact ⟨rfl, hw'⟩
      simp only [Act.put, List.setIfInBounds_toArray, List.set_cons_succ, List.set_cons_zero]
      by_cases hc : (y : Int) - x ≤ i
      · have HC := hid hc
        have HD2 := hid (show decide ((y : Int) - x ≤ i) = true by simp [hc])
        clear hc
        apply wpK_val
        · rfl
        · intro w' hw'
          have h1 : _ = _ := HD2.out
          go_simp
          first | exact rfl | exact ⟨rfl, hw'⟩
        simp only [Act.put, List.setIfInBounds_toArray, List.set_cons_succ, List.set_cons_zero]
        refine wpK_nil fun w5 hw5 => ?_
        have B5 := hid (B3.out.trans (hw5.mono B3.out.size))
        clear hw5 HD HD2 Q1 Q2 B3
        go_wp2_with fail
        go_ret2
        rw [HP.out]
        exact ⟨by rw [if_neg (by have := HC.out; omega)]; rfl, B5.out⟩
      · have HC := hid hc
        have HD2 := hid (show decide ((y : Int) - x ≤ i) = false by simp [hc])
        have c1 : 0 ≤ i := by have := HL.out; omega
        have c2 : i ≤ 30000 := by omega
        clear hc
        apply wpK_val
        · rfl
        · intro w' hw'
          have h1 : _ = _ := HD2.out
          go_simp
          first | exact rfl | exact ⟨rfl, hw'⟩
        simp only [Act.put, List.setIfInBounds_toArray, List.set_cons_succ, List.set_cons_zero]
        refine wpK_nil fun w5 hw5 => ?_
        have B5 := hid (B3.out.trans (hw5.mono B3.out.size))
        have q1 := Q1.out w5 hw5
        clear hw5 HD HD2 Q1 Q2 B3
        go_wp2_with fail
        go_ret2
        rw [HP.out]
        refine ⟨?_, B5.out⟩
        rw [if_pos (by have := HC.out; omega)]
        unfold plV
        refine congrArg (fun v : Int => Ending.returned (.tuple #[.int .i64 v, .int .i64 0])) ?_
        have := HC.out
        omega
end GeM
end Go.Proofs.Ytijgbbeplojinaa
set_option maxRecDepth 100000
namespace Go.Proofs.Ytijgbbeplojinaa
namespace GeM
/-- A row, and a member or a column, of a geometry. -/
def Ok (a b r n : Int) : Prop := Good a b ∧ 0 ≤ r ∧ r < b ∧ 0 ≤ n ∧ n < a
instance (a b r n : Int) : Decidable (Ok a b r n) := by unfold Ok; infer_instance
/-- One of so many of a geometry. -/
def Om (a b n : Int) (k : Nat) : Prop := Good a b ∧ 0 ≤ n ∧ n < (k : Int)
instance (a b n : Int) (k : Nat) : Decidable (Om a b n k) := by unfold Om; infer_instance
def col (m r k : Nat) : Nat := (k + r) % m
def mem (m r c : Nat) : Nat := (c + (m - r % m)) % m
def v2 (x : Nat × Nat) : Value := .tuple #[.int .i64 x.1, .int .i64 x.2]
def v3 (x : Nat × Nat × Nat) : Value := .tuple #[.int .i64 x.1, .int .i64 x.2.1, .int .i64 x.2.2]
def colP (a b r n : Int) : Nat × Nat := if Ok a b r n then (col a.toNat r.toNat n.toNat, 0) else (0, 2)
def memP (a b r n : Int) : Nat × Nat := if Ok a b r n then (mem a.toNat r.toNat n.toNat, 0) else (0, 2)
def numP (a b r n : Int) : Nat × Nat := if Ok a b r n then (if n.toNat + 2 < a.toNat then (r.toNat * (a.toNat - 2) + n.toNat, 0) else (0, 5)) else (0, 2)
def lefP (a b r n : Int) : Nat × Nat := if Ok a b r n then (r.toNat * a.toNat + n.toNat, 0) else (0, 2)
def ofP (a b n : Int) : Nat × Nat × Nat := if Om a b n (L lo a b) then (n.toNat / (a.toNat - 2), n.toNat % (a.toNat - 2), 0) else (0, 0, 2)
def atP (a b n : Int) : Nat × Nat × Nat := if Om a b n (L lv a b) then (n.toNat / a.toNat, n.toNat % a.toNat, 0) else (0, 0, 2)
theorem om_nat {a b n : Int} {k : Nat} (h : Om a b n k) : ∃ m q y : Nat, a = m ∧ b = q ∧ n = y ∧ Good m q ∧ y < k := by
  obtain ⟨hg, h1, h2⟩ := h
  obtain ⟨m, q, rfl, rfl, _⟩ := good_nat hg
  exact ⟨m, q, n.toNat, rfl, rfl, by omega, hg, by omega⟩
section
variable {m q x y : Nat}
theorem ofP_ok (hg : Good m q) (hy : y < lo m q) : ofP m q y = (y / (m - 2), y % (m - 2), 0) := by rw [ofP, if_pos ⟨hg, by omega, by rw [L_good hg]; omega⟩]; rfl
theorem atP_ok (hg : Good m q) (hy : y < lv m q) : atP m q y = (y / m, y % m, 0) := by rw [atP, if_pos ⟨hg, by omega, by rw [L_good hg]; omega⟩]; rfl
end
section
variable {a b r n : Int}
theorem atP_no (h : ¬ Om a b n (L lv a b)) : atP a b n = (0, 0, 2) := by rw [atP, if_neg h]
end
section
variable {m q r k c : Nat}
end
end GeM
end Go.Proofs.Ytijgbbeplojinaa
set_option maxRecDepth 100000
namespace Go.Proofs.Ytijgbbeplojinaa
namespace MbM
/-- A sector that was put somewhere. -/
structure Pt where
  i : Int
  s : Nat → Nat
abbrev Img := Int → Nat → Nat
structure St where
  n : Int
  dur : Img
  log : List Pt
  marks : List Img
  fails : Bool
  hurt : Bool
def zero : Nat → Nat := fun _ => 0
def upd (d : Img) (p : Pt) : Img := fun i => if i = p.i then p.s else d i
def app (d : Img) (l : List Pt) : Img := l.foldl upd d
/-- What a list says of a sector last. -/
def find (l : List Pt) (i : Int) : Option (Nat → Nat) := l.foldl (fun a p => if p.i = i then some p.s else a) none
/-- The image of a list on a member of zeros. -/
def img (l : List Pt) : Img := app (fun _ => zero) l
def seen (st : St) : Img := app st.dur st.log
def may (st : St) (i : Int) : Prop := 0 ≤ i ∧ i < st.n
def write (st : St) (i : Int) (s : Nat → Nat) : St := { st with log := st.log ++ [⟨i, s⟩] }
def flush (st : St) : St := { st with dur := app st.dur st.log, log := [] }
/-- The writes that the picks keep, of the first n. -/
def keptN (l : List Pt) (picks : List Nat) (n : Nat) : List Pt := (List.range n).flatMap fun k => if picks.getD k 0 = 0 then [] else l[k]?.toList
def kept (l : List Pt) (picks : List Nat) : List Pt := keptN l picks l.length
def crash (st : St) (picks : List Nat) : St := { st with dur := app st.dur (kept st.log picks), log := [] }
def set (st : St) (i : Int) (s : Nat → Nat) : St := { st with dur := upd st.dur ⟨i, s⟩, log := st.log.filter fun p => decide (p.i ≠ i), hurt := true }
def mark (st : St) : St := { st with marks := st.marks ++ [seen st] }
def back (st : St) (k : Nat) : St := { st with dur := st.marks.getD k fun _ => zero, log := [], hurt := true }
def fail (st : St) (on : Bool) : St := { st with fails := on, hurt := st.hurt || on }
def clean (st : St) : St := { st with hurt := false }
def made (n : Int) : St := ⟨n, fun _ => zero, [], [], false, false⟩
end MbM
end Go.Proofs.Ytijgbbeplojinaa
set_option maxRecDepth 100000
namespace Go.Proofs.Ytijgbbeplojinaa
namespace MbM
def St.may (st : St) (i : Int) : Bool := decide (0 ≤ i ∧ i < st.n)
def rdE (st : St) (i : Int) : Int := if st.may i then (if st.fails then 10 else 0) else 2
def rdS (st : St) (i : Int) : Nat → Nat := if st.may i then (if st.fails then zero else seen st i) else zero
def lkE (st : St) (i : Int) : Int := if st.may i then 0 else 2
def lkS (st : St) (i : Int) : Nat → Nat := if st.may i then st.dur i else zero
def wrT (st : St) (i : Int) (x : Nat → Nat) : St := if st.may i then (if st.fails then st else write st i x) else st
def flE (st : St) : Int := if st.fails then 10 else 0
def flT (st : St) : St := if st.fails then st else flush st
def seT (st : St) (i : Int) (x : Nat → Nat) : St := if st.may i then set st i x else st
def mkE (st : St) : Int := if 64 ≤ st.marks.length then 7 else 0
def mkN (st : St) : Int := if 64 ≤ st.marks.length then 0 else st.marks.length
def mkT (st : St) : St := if 64 ≤ st.marks.length then st else mark st
def bkE (st : St) (n : Int) : Int := if n < 0 ∨ (st.marks.length : Int) ≤ n then 2 else 0
def bkT (st : St) (n : Int) : St := if n < 0 ∨ (st.marks.length : Int) ≤ n then st else back st n.toNat
/-- Bytes, all of them. -/
def St.ok (st : St) : Prop := (∀ i k, st.dur i k < 256) ∧ (∀ p ∈ st.log, ∀ k, p.s k < 256) ∧ ∀ m ∈ st.marks, ∀ i k, (m : Img) i k < 256
end MbM
end Go.Proofs.Ytijgbbeplojinaa
set_option maxRecDepth 100000
namespace Go.Proofs.Ytijgbbeplojinaa
open Go.ChangeShapes Go.WideShapes Go.ChangeAt Go.RowKit
/-- A type of slices, of numbers of kind k. -/
structure Elt (S e : TypeId) (k : IntKind) : Prop where
  und : Try.prog.underlying S = some (.slice e)
  inf : ∃ i : TypeInfo, Try.prog.info? e = some i ∧ i.zero = some (.int k 0) ∧ i.size = 1 ∧ i.bytes ≤ 8
def nums (k : IntKind) (l : List Nat) : List Value := l.map fun x => Value.int k (x : Nat)
theorem nums_get (k : IntKind) {l : List Nat} {i : Nat} (h : i < l.length) : (nums k l)[i]? = some (.int k (l.getD i 0 : Nat)) := by
  unfold nums
  rw [List.getElem?_map, List.getD_eq_getElem?_getD, List.getElem?_eq_getElem h]; rfl
/-- A slice of the numbers of l, in one row below block B. -/
def Nums (k : IntKind) (w : World) (B : Nat) (A : Option Addr) (l : List Nat) : Prop :=
  0 < l.length → ∃ b o, A = some ⟨b, o, none⟩ ∧ b < B ∧ ∀ i, i < l.length → w.cell? ⟨b, o + i, none⟩ = some (.int k (l.getD i 0 : Nat))
theorem Nums.below {k : IntKind} {B B' : Nat} {w w' : World} {A : Option Addr} {l : List Nat} (h : Nums k w B A l) (hb : Below B' w w') (hB : B ≤ B') : Nums k w' B A l := fun hn => by
  obtain ⟨b, o, rfl, hl, hr⟩ := h hn
  exact ⟨b, o, rfl, hl, fun i hi => (hb.cell (p := ⟨b, o + i, none⟩) (by show b < B'; omega)).trans (hr i hi)⟩
theorem Nums.more {k : IntKind} {B B' : Nat} {w : World} {A : Option Addr} {l : List Nat} (h : Nums k w B A l) (hB : B ≤ B') : Nums k w B' A l := fun hn => by
  obtain ⟨b, o, rfl, hl, hr⟩ := h hn
  exact ⟨b, o, rfl, by omega, hr⟩
theorem Byt.nums {w : World} {B : Nat} {A : Option Addr} {l : List Nat} (h : Byt w B A l) : Nums .u8 w B A l := h
theorem Nums.none {k : IntKind} {w : World} {B : Nat} {A : Option Addr} {l : List Nat} (h : l.length = 0) : Nums k w B A l := fun hn => absurd hn (by omega)
theorem Nums.row {k : IntKind} {w : World} {B g : Nat} {t : TypeId} {cs : Array Value} {l : List Nat} (h : Blk w g t cs) (hg : g < B) (hc : ∀ j, j < l.length → cs[j]? = some (.int k (l.getD j 0 : Nat))) : Nums k w B (some ⟨g, 0, .none⟩) l := fun _ =>
  ⟨g, 0, rfl, hg, fun i hi => by rw [Nat.zero_add, h.cell]; exact hc i hi⟩
/-- v is a slice of the numbers l, in a row of its own from block B on. -/
def Own (e : TypeId) (k : IntKind) (w : World) (B : Nat) (v : Value) (l : List Nat) : Prop := w.ownsRow B e 1 v l.length (nums k l)
section
variable {e : TypeId} {k : IntKind} {w w' : World} {B : Nat} {v : Value} {l : List Nat}
theorem Own.nil : Own e k w B (.slice none 0 0) [] := World.ownsRow_nil w B e 1
theorem Own.form (h : Own e k w B v l) : (v = .slice none 0 0 ∧ l = []) ∨ ∃ g cap, v = .slice (some ⟨g, 0, none⟩) l.length cap ∧ B ≤ g ∧ g < w.heap.size ∧ l.length ≤ cap ∧ cap ≤ maxLen ∧ Nums k w w.heap.size (some ⟨g, 0, none⟩) l := by
  rcases h.2 with ⟨h', h0⟩ | ⟨g, cap, cur, hv, hB, hg, hnc, hcm, hcs, ht⟩
  · exact .inl ⟨h', List.eq_nil_of_length_eq_zero h0⟩
  · have hlt : g < w.heap.size := Blk.lt (t := e) (cs := cur) hg
    refine .inr ⟨g, cap, hv, hB, hlt, hnc, hcm, fun _ => ⟨g, 0, rfl, hlt, fun i hi => ?_⟩⟩
    rw [Nat.zero_add, cell_of_row w g _ cur _ _ hg]
    have h1 := nums_get k hi
    rw [← ht, List.getElem?_take_of_lt (by omega), Array.getElem?_toList] at h1
    exact h1
/-- The same, whichever it is. -/
theorem Own.any (h : Own e k w B v l) : ∃ A cap, v = .slice A l.length cap ∧ l.length ≤ cap ∧ cap ≤ maxLen ∧ Nums k w w.heap.size A l := by
  rcases h.form with ⟨rfl, rfl⟩ | ⟨g, cap, rfl, _, _, h1, h2, h3⟩
  · exact ⟨.none, 0, rfl, Nat.le_refl _, Nat.zero_le _, Nums.none rfl⟩
  · exact ⟨_, cap, rfl, h1, h2, h3⟩
theorem Own.below (h : Own e k w B v l) (hb : Below w.heap.size w w') : Own e k w' B v l := by
  refine ⟨h.1, ?_⟩
  rcases h.2 with h' | ⟨g, cap, cur, hv, hB, hg, hr⟩
  · exact .inl h'
  · exact .inr ⟨g, cap, cur, hv, hB, Blk.below (t := e) (cs := cur) hg hb (Blk.lt (t := e) (cs := cur) hg), hr⟩
theorem Own.alloc (h : Own e k w B v l) (o : Obj) : Own e k (w.alloc o) B v l := World.ownsRow.alloc h o
theorem Own.drew (h : Own e k w B v l) : Own e k w.drew B v l := ⟨h.1, h.2⟩
end
theorem Own.heap {e : TypeId} {k : IntKind} {w w' : World} {B : Nat} {v : Value} {l : List Nat} (h : Own e k w B v l) (hh : w'.heap = w.heap) : Own e k w' B v l := by
  refine ⟨h.1, ?_⟩
  rcases h.2 with h' | ⟨g, cap, cur, hv, hB, hg, hr⟩
  · exact .inl h'
  · exact .inr ⟨g, cap, cur, hv, hB, by rw [hh]; exact hg, hr⟩
section
variable {ops : Array Oper} {Q : Exit → Act → World → Prop} {a : Act} {w : World} {rest : List Oper} {dst : Option Tmp} {ty : TypeId} {pos : String} {after : Array Edge} {s x : Operand} {m c B B' : Nat} {v : Value} {l kk : List Nat} {S e : TypeId} {k : IntKind} {ad : Addr}
end
end Go.Proofs.Ytijgbbeplojinaa
set_option maxRecDepth 100000
namespace Go.Proofs.Ytijgbbeplojinaa
open Go.ChangeShapes Go.WideShapes Go.ChangeAt Go.RowKit
/-- From w to w' no block is turned but those of S; new ones may come. -/
structure Turn (S : Nat → Prop) (w w' : World) : Prop where
  os : w'.os = w.os
  tape : w'.tape = w.tape
  output : w'.output = w.output
  size : w.heap.size ≤ w'.heap.size
  block : ∀ k, k < w.heap.size → ¬ S k → w'.heap[k]? = w.heap[k]?
namespace Turn
variable {S T : Nat → Prop} {w w' w2 : World}
theorem refl (S : Nat → Prop) (w : World) : Turn S w w := ⟨rfl, rfl, rfl, Nat.le_refl _, fun _ _ _ => rfl⟩
theorem trans (h : Turn S w w') (h2 : Turn T w' w2) (hT : ∀ k, T k → S k ∨ w.heap.size ≤ k) : Turn S w w2 :=
  ⟨h2.os.trans h.os, h2.tape.trans h.tape, h2.output.trans h.output, Nat.le_trans h.size h2.size, fun k hk hS =>
    (h2.block k (Nat.lt_of_lt_of_le hk h.size) fun e => (hT k e).elim hS fun h3 => by omega).trans (h.block k hk hS)⟩
theorem mono (h : Turn S w w') (hS : ∀ k, S k → T k) : Turn T w w' := ⟨h.os, h.tape, h.output, h.size, fun k hk hn => h.block k hk fun e => hn (hS k e)⟩
theorem of_below {B : Nat} (h : Below B w w') : Turn (fun k => B ≤ k) w w' := ⟨h.os, h.tape, h.output, h.size, fun k _ hS => h.block k (by omega)⟩
theorem of_new {S : Nat → Prop} (h : Below w.heap.size w w') : Turn S w w' := ⟨h.os, h.tape, h.output, h.size, fun k hk _ => h.block k hk⟩
theorem below (h : Turn S w w') {B : Nat} (hB : B ≤ w.heap.size) (hS : ∀ k, S k → B ≤ k) : Below B w w' := ⟨h.os, h.tape, h.output, h.size, fun k hk => h.block k (by omega) fun e => by have := hS k e; omega⟩
theorem of_grown {r : Option Nat} (h : w.grownBy w' r) (hr : ∀ k, r = some k → S k) : Turn S w w' := ⟨h.os, h.tape, h.output, h.size, fun k hk hS => h.block k hk fun e => hS (hr k e.symm)⟩
theorem setRow (w : World) (g : Nat) (cs : Array Value) (hg : S g) : Turn S w (w.setRow g cs) := ⟨rfl, rfl, rfl, by simp, fun k _ hS => Go.setRow_other w g k cs fun e => hS (e ▸ hg)⟩
theorem setCell (w : World) (p : Addr) (v : Value) (hp : S p.block) : Turn S w (w.setCell p v) := ⟨rfl, rfl, rfl, by simp, fun k _ hS => Below.heap_setCell w p v k fun e => hS (e ▸ hp)⟩
theorem alloc (w : World) (o : Obj) : Turn S w (w.alloc o) := of_new ((Below.refl _ _).alloc (Nat.le_refl _) _)
theorem drew (w : World) : Turn S w w.drew := ⟨rfl, rfl, rfl, Nat.le_refl _, fun _ _ _ => rfl⟩
theorem cell (h : Turn S w w') {p : Addr} {v : Value} (hc : w.cell? p = some v) (hp : ¬ S p.block) : w'.cell? p = some v :=
  (World.cell?_of_block (h.block p.block (World.block_lt_of_cell? w p hc) hp)).trans hc
end Turn
theorem Blk.turn {S : Nat → Prop} {w w' : World} {g : Nat} {t : TypeId} {cs : Array Value} (h : Blk w g t cs) (ht : Turn S w w') (hg : ¬ S g) : Blk w' g t cs := (ht.block g h.lt hg).trans h
theorem Turn.range {S : Nat → Prop} {w w' : World} {g o : Nat} {cs : List Value} (h : Turn S w w') (hr : w.rangeAt g o cs) (hg : ¬ S g) : w'.rangeAt g o cs := fun j v hj => h.cell (p := ⟨g, o + j, none⟩) (hr j v hj) hg

/-! ### Elements of k cells -/
section
variable {α : Type} {k : Nat} {en : α → List Value} {S T : Nat → Prop} {w w' : World} {A : Option Addr} {l m : List α}
/-- The elements of l lie one behind the other from A on, in a block of S. -/
def Lst (k : Nat) (en : α → List Value) (S : Nat → Prop) (w : World) (A : Option Addr) (l : List α) : Prop :=
  0 < l.length → ∃ b o, A = some ⟨b, o, none⟩ ∧ S b ∧ b < w.heap.size ∧ ∀ (i : Nat) (x : α), l[i]? = some x → w.rangeAt b (o + i * k) (en x)
/-- A slice of them. -/
structure Sli (k : Nat) (en : α → List Value) (S : Nat → Prop) (w : World) (A : Option Addr) (l : List α) (n cp : Nat) : Prop where
  len : l.length = n
  cap : n ≤ cp
  max : cp ≤ maxLen
  none : A = none → n = 0 ∧ cp = 0
  lst : Lst k en S w A l
theorem Lst.turn (h : Lst k en S w A l) (ht : Turn T w w') (hd : ∀ b, S b → b < w.heap.size → ¬ T b) : Lst k en S w' A l := fun hn => by
  obtain ⟨b, o, rfl, hS, hl, hr⟩ := h hn
  exact ⟨b, o, rfl, hS, Nat.lt_of_lt_of_le hl ht.size, fun i x hi => ht.range (hr i x hi) (hd b hS hl)⟩
theorem Lst.mono (h : Lst k en S w A l) (hST : ∀ b, S b → T b) : Lst k en T w A l := fun hn => by
  obtain ⟨b, o, rfl, hS, hl, hr⟩ := h hn
  exact ⟨b, o, rfl, hST b hS, hl, hr⟩
theorem Sli.turn {n cap : Nat} (h : Sli k en S w A l n cap) (ht : Turn T w w') (hd : ∀ b, S b → b < w.heap.size → ¬ T b) : Sli k en S w' A l n cap := ⟨h.len, h.cap, h.max, h.none, h.lst.turn ht hd⟩
theorem Sli.mono {n cap : Nat} (h : Sli k en S w A l n cap) (hST : ∀ b, S b → T b) : Sli k en T w A l n cap := ⟨h.len, h.cap, h.max, h.none, h.lst.mono hST⟩
theorem Sli.nil (k : Nat) (en : α → List Value) (S : Nat → Prop) (w : World) : Sli k en S w .none ([] : List α) 0 0 := ⟨rfl, Nat.le_refl _, Nat.zero_le _, fun _ => ⟨rfl, rfl⟩, fun h => by simp at h⟩
theorem Sli.some {n cap i : Nat} {x : α} (h : Sli k en S w A l n cap) (hi : l[i]? = some x) : ∃ b o, A = some ⟨b, o, .none⟩ ∧ S b ∧ b < w.heap.size ∧ w.rangeAt b (o + i * k) (en x) := by
  obtain ⟨b, o, e, hS, hl, hr⟩ := h.lst (by have := (List.getElem?_eq_some_iff.1 hi).1; omega)
  exact ⟨b, o, e, hS, hl, hr i x hi⟩
theorem flat_at {en : α → List Value} (hen : ∀ x, (en x).length = k) : ∀ (l : List α) (i j : Nat) (x : α), l[i]? = some x → j < k → (l.flatMap en)[i * k + j]? = (en x)[j]?
  | [], i, j, x, h, _ => by simp at h
  | y :: l, 0, j, x, h, hj => by
    simp only [List.getElem?_cons_zero, Option.some.injEq] at h
    subst h
    rw [List.flatMap_cons, Nat.zero_mul, Nat.zero_add, List.getElem?_append_left (by rw [hen]; exact hj)]
  | y :: l, i + 1, j, x, h, hj => by
    rw [List.getElem?_cons_succ] at h
    rw [List.flatMap_cons, List.getElem?_append_right (by rw [hen, Nat.add_mul]; omega), hen, show (i + 1) * k + j - k = i * k + j by rw [Nat.add_mul]; omega]
    exact flat_at hen l i j x h hj
theorem flat_len {en : α → List Value} (hen : ∀ x, (en x).length = k) : ∀ l : List α, (l.flatMap en).length = l.length * k
  | [] => by simp
  | x :: l => by rw [List.flatMap_cons, List.length_append, flat_len hen l, hen, List.length_cons, Nat.add_mul]; omega
/-- What is wanted of an element's type: k cells, each a value of one cell. -/
structure EltX (E : TypeId) (k : Nat) (en : α → List Value) : Prop where
  pos : 0 < k
  len : ∀ x, (en x).length = k
  one : ∀ x, ∀ u ∈ en x, u.oneCell' = true
  info : ∃ (i : TypeInfo) (z : Value), Try.prog.info? E = some i ∧ i.zero = some z ∧ i.size = k ∧ i.bytes ≤ 16 * k + 16 ∧ z.cells.size = k
theorem elt_info {E : TypeId} (h1 : (Try.prog.info? E).map (·.size) = some k) (h2 : (Try.prog.info? E).map (fun i => decide (i.bytes ≤ 16 * k + 16)) = some true) (h3 : ((Try.prog.info? E).bind (·.zero)).map (·.cells.size) = some k) :
    ∃ (i : TypeInfo) (z : Value), Try.prog.info? E = some i ∧ i.zero = some z ∧ i.size = k ∧ i.bytes ≤ 16 * k + 16 ∧ z.cells.size = k := by
  cases hi : Try.prog.info? E with
  | none => rw [hi] at h1; cases h1
  | some i =>
    rw [hi] at h1 h2 h3
    simp only [Option.map_some, Option.some.injEq, decide_eq_true_eq, Option.bind_some] at h1 h2 h3
    cases hz : i.zero with
    | none => rw [hz] at h3; cases h3
    | some z => rw [hz] at h3; exact ⟨i, z, rfl, hz, h1, h2, by simpa using h3⟩
/-- A list of the call's own, from block B on. -/
def OwnX (E : TypeId) (k : Nat) (en : α → List Value) (w : World) (B : Nat) (v : Value) (l : List α) : Prop := w.ownsRow B E k v l.length (l.flatMap en)
section
variable {E : TypeId} {B : Nat} {v : Value}
theorem OwnX.nil (E : TypeId) (k : Nat) (en : α → List Value) (w : World) (B : Nat) : OwnX E k en w B (.slice none 0 0) ([] : List α) := World.ownsRow_nil w B _ _
theorem OwnX.sli (hE : ∀ x, (en x).length = k) (h : OwnX E k en w B v l) : ∃ A cap, v = .slice A l.length cap ∧ Sli k en (fun b => B ≤ b) w A l l.length cap := by
  rcases h.2 with ⟨rfl, h0⟩ | ⟨g, cap, cur, rfl, hB, hg, hnc, hcm, hcs, ht⟩
  · obtain rfl := List.eq_nil_of_length_eq_zero h0
    exact ⟨none, 0, rfl, Sli.nil _ _ _ _⟩
  · refine ⟨_, cap, rfl, rfl, hnc, hcm, (fun e => by cases e), fun _ => ⟨g, 0, rfl, hB, Blk.lt (t := E) (cs := cur) hg, fun i x hi j u hj => ?_⟩⟩
    have hil := (List.getElem?_eq_some_iff.1 hi).1
    have hjl : j < k := by have := (List.getElem?_eq_some_iff.1 hj).1; rwa [hE] at this
    rw [Nat.zero_add, cell_of_row w g _ cur _ _ hg]
    have h1 := flat_at hE l i j x hi hjl
    rw [hj, ← ht, List.getElem?_take_of_lt (by have := Nat.mul_le_mul_right k (show i + 1 ≤ l.length from hil); rw [Nat.add_mul] at this; omega), Array.getElem?_toList] at h1
    exact h1
theorem OwnX.own (h : OwnX E k en w B v l) : ∀ b, v.ownBlock = some b → B ≤ b ∧ b < w.heap.size := fun b hb => World.ownsRow.lt h b hb
theorem OwnX.turn (h : OwnX E k en w B v l) (ht : Turn T w w') (hd : ∀ b, v.ownBlock = some b → ¬ T b) : OwnX E k en w' B v l := by
  refine ⟨h.1, ?_⟩
  rcases h.2 with hn | ⟨g, cap, cur, rfl, hb, hgg, rest⟩
  · exact .inl hn
  · exact .inr ⟨g, cap, cur, rfl, hb, (ht.block g (Blk.lt (t := E) (cs := cur) hgg) (hd g rfl)).trans hgg, rest⟩
theorem OwnX.below {C : Nat} (h : OwnX E k en w B v l) (hb : Below C w w') (hC : w.heap.size ≤ C) : OwnX E k en w' B v l := h.turn (Turn.of_below hb) fun b e => by have := h.own b e; omega
theorem OwnX.lower {B' : Nat} (h : OwnX E k en w B v l) (hB : B' ≤ B) : OwnX E k en w B' v l := ⟨h.1, h.2.imp id fun ⟨g, cap, cur, hv, hg, rest⟩ => ⟨g, cap, cur, hv, Nat.le_trans hB hg, rest⟩⟩
end
section
variable {ops : Array Oper} {Q : Exit → Act → World → Prop} {a : Act} {rest : List Oper} {dst : Option Tmp} {ty : TypeId} {pos : String} {after : Array Edge} {s x : Operand} {n cap B : Nat} {v : Value} {E L : TypeId}
/-- append of a slice to a list of the call's own: the run alone. -/
theorem run_appX (hE : EltX E k en) (hu : Try.prog.underlying L = some (.slice E)) (hown : OwnX E k en w B v l) (hm : Sli k en S w A m n cap) (hsz : l.length + n ≤ 1000000) (hk : k ≤ 1000) (hB : B ≤ w.heap.size) :
    ∃ v' w', (Builtin.append_ #[L, L] ty #[v, .slice A n cap]).run Try.prog w = .ok v' w' ∧ OwnX E k en w' B v' (l ++ m) ∧ w.grownBy w' v.ownBlock := by
  obtain ⟨i, z, hi, hz, h1, h2, h3⟩ := hE.info
  cases hA : A with
  | none =>
    obtain ⟨rfl, rfl⟩ := hm.none hA
    obtain rfl := List.eq_nil_of_length_eq_zero hm.len
    refine ⟨v, w, run_append_owned_none (P := Try.prog) w B L ty E i k hu hi v l.length _ hown, ?_, ⟨rfl, rfl, rfl, Nat.le_refl _, fun _ _ _ => rfl⟩⟩
    rw [List.append_nil]; exact hown
  | some ad =>
    subst hA
    have hne : ∀ j u, (m.flatMap en)[j]? = some u → w.cell? (ad.add j) = some u := fun j u hj => by
      have hjl := (List.getElem?_eq_some_iff.1 hj).1
      rw [flat_len hE.len] at hjl
      have hq : j / k < m.length := Nat.div_lt_of_lt_mul (by rw [Nat.mul_comm]; exact hjl)
      have h4 := flat_at hE.len m (j / k) (j % k) m[j / k] (List.getElem?_eq_getElem hq) (Nat.mod_lt _ hE.pos)
      rw [show j / k * k + j % k = j by rw [Nat.mul_comm]; exact Nat.div_add_mod j k, hj] at h4
      obtain ⟨b, o, e, _, _, hr⟩ := hm.lst (Nat.lt_of_le_of_lt (Nat.zero_le _) hq)
      obtain rfl : ad = ⟨b, o, none⟩ := Option.some.inj e
      have h5 := hr (j / k) m[j / k] (List.getElem?_eq_getElem hq) (j % k) u h4.symm
      rw [Addr.add_mid]
      rwa [show o + j / k * k + j % k = o + j by have := Nat.div_add_mod j k; rw [Nat.mul_comm] at this; omega] at h5
    obtain ⟨v', w', hr, ho, hg, _⟩ := run_append_own (P := Try.prog) w B L ty E i z k i.bytes hu hi hz h1 rfl h3 hE.pos v l.length _ hown ad n cap (m.flatMap en) (by rw [flat_len hE.len, hm.len]) hne
      (fun u hu => by obtain ⟨x, _, hx⟩ := List.mem_flatMap.1 hu; exact hE.one x u hx) (by unfold maxLen; omega)
      (Nat.le_trans (Nat.mul_le_mul hsz (Nat.le_trans h2 (show 16 * k + 16 ≤ 16016 by omega))) (by omega)) hB
    refine ⟨v', w', hr, ?_, hg⟩
    unfold OwnX
    rw [List.length_append, List.flatMap_append, hm.len]
    exact ho
end
end
end Go.Proofs.Ytijgbbeplojinaa
set_option maxRecDepth 100000
namespace Go.Proofs.Ytijgbbeplojinaa
open Go.RowKit
/-- n sectors, one behind the other. -/
def secs (n : Nat) (F : Nat → Nat → Nat) : Array Value := row (n * 64) fun j => .int .u8 (F (j / 64) (j % 64))
/-- The parts of a literal, from place i on. -/
def partsFrom : Nat → List (Nat → Nat) → List (Nat × Value)
  | _, [] => []
  | i, f :: l => (i, .agg (sec f)) :: partsFrom (i + 1) l
section
variable {P : Program} {ops : Array Oper} {Q : Exit → Act → World → Prop} {a : Act} {w : World} {rest : List Oper} {dst : Option Tmp} {ty : TypeId} {pos : String} {after : Array Edge}
end
end Go.Proofs.Ytijgbbeplojinaa
set_option maxRecDepth 100000
namespace Go.Proofs.Ytijgbbeplojinaa
open Go.ChangeShapes Go.WideShapes Go.ChangeAt Go.RowKit
/-- Places one behind the other. -/
def Consec : Nat → List (Nat × Nat) → Prop
  | _, [] => True
  | off, (o, n) :: l => o = off ∧ Consec (off + n) l
/-- The parts of a literal, from field i on. -/
def partsAt : Nat → List Value → List (Nat × Value)
  | _, [] => []
  | i, v :: l => (i, v) :: partsAt (i + 1) l
theorem fold_list (pre z : List Value) : ∀ (cs : List Value) (k : Nat), k + cs.length ≤ z.length →
    (cs.zipIdx k).foldl (fun (acc : Array Value) x => acc.setIfInBounds (pre.length + x.2) x.1) (pre ++ z).toArray = (pre ++ (z.take k ++ cs ++ z.drop (k + cs.length))).toArray
  | [], k, h => by
    simp only [List.zipIdx_nil, List.foldl_nil, List.length_nil, Nat.add_zero, List.append_nil, List.take_append_drop]
  | c :: cs, k, h => by
    simp only [List.length_cons] at h
    rw [List.zipIdx_cons, List.foldl_cons]
    have e : ((pre ++ z).toArray).setIfInBounds (pre.length + k) c = (pre ++ (z.set k c)).toArray := by
      rw [List.setIfInBounds_toArray, List.set_append_right _ _ (by omega), Nat.add_sub_cancel_left]
    show ((cs.zipIdx (k + 1)).foldl _ (((pre ++ z).toArray).setIfInBounds (pre.length + k) c)) = _
    rw [e, fold_list pre (z.set k c) cs (k + 1) (by rw [List.length_set]; omega)]
    congr 2
    rw [List.drop_set_of_lt (by omega), List.take_set, List.length_cons, show k + 1 + cs.length = k + (cs.length + 1) by omega]
    congr 1
    rw [List.take_add_one, List.getElem?_eq_getElem (show k < z.length by omega), Option.toList_some, List.set_append_right _ _ (by rw [List.length_take]; omega)]
    rw [List.length_take, Nat.min_eq_left (by omega), Nat.sub_self, List.set_cons_zero, List.append_assoc]
    rfl
theorem fill_consec {place : Nat → Option (Nat × Nat)} : ∀ (vs : List Value) (ss : List (Nat × Nat)) (pre z : List Value) (i : Nat), Consec pre.length ss → vs.map (·.cells.size) = ss.map (·.2) →
    ((ss.map (·.2)).sum ≤ z.length) → (∀ j, j < ss.length → place (i + j) = ss[j]?) →
    Instr.fill place (pre ++ z).toArray (partsAt i vs) = some (pre ++ (vs.flatMap (·.cells.toList) ++ z.drop (ss.map (·.2)).sum)).toArray
  | [], ss, pre, z, i, _, h, _, _ => by
    have : ss = [] := by simpa using h.symm
    subst this
    simp [partsAt, Instr.fill]
  | v :: vs, [], pre, z, i, _, h, _, _ => by simp at h
  | v :: vs, (o, n) :: ss, pre, z, i, hc, h, hz, hp => by
    obtain ⟨rfl, hc⟩ := hc
    simp only [List.map_cons, List.cons.injEq, List.sum_cons] at h hz
    obtain ⟨h1, h2⟩ := h
    have hpl := hp 0 (by simp)
    simp only [Nat.add_zero, List.getElem?_cons_zero] at hpl
    rw [partsAt, Instr.fill]
    simp only [hpl]
    rw [if_neg (by simp; omega)]
    have e : v.cells.zipIdx.foldl (fun (cs : Array Value) (c, j) => cs.setIfInBounds (pre.length + j) c) (pre ++ z).toArray = ((pre ++ v.cells.toList) ++ z.drop n).toArray := by
      rw [← Array.foldl_toList, Array.toList_zipIdx]
      refine (fold_list pre z v.cells.toList 0 (by rw [Array.length_toList]; omega)).trans ?_
      rw [List.take_zero, List.nil_append, Array.length_toList, Nat.zero_add, h1, List.append_assoc]
    rw [e, fill_consec vs ss (pre ++ v.cells.toList) (z.drop n) (i + 1) (by have e2 : (pre ++ v.cells.toList).length = pre.length + n := (by rw [List.length_append, show v.cells.toList.length = n from Array.length_toList.trans h1]); rw [e2]; exact hc) h2 (by rw [List.length_drop]; omega) (fun j hj => by
      have := hp (j + 1) (by simp only [List.length_cons]; omega)
      rwa [List.getElem?_cons_succ, show i + (j + 1) = i + 1 + j by omega] at this)]
    rw [List.flatMap_cons, List.drop_drop, List.map_cons, List.sum_cons]
    simp only [List.append_assoc]
end Go.Proofs.Ytijgbbeplojinaa
set_option maxRecDepth 100000
namespace Go.Proofs.Ytijgbbeplojinaa
open Go.RowKit
section
variable {P : Program} {ops : Array Oper}
def updV (vs : Nat → Value) (i : Nat) (v : Value) : Nat → Value := fun j => if j = i then v else vs j
theorem updV_self (vs : Nat → Value) (i : Nat) (v : Value) : updV vs i v i = v := if_pos rfl
theorem updV_ne (vs : Nat → Value) {i j : Nat} (v : Value) (h : j ≠ i) : updV vs i v j = vs j := if_neg h
/-- The operations in the order of the text, the k-th first. -/
def wpR (P : Program) (ops : Array Oper) (S : Nat → Value → Prop) (D : Nat → (Nat → Value) → World → Prop) (K : Nat → (Nat → Value) → World → World → Prop) (C : World → Prop) (Q : (Nat → Value) → Act → Prop) : Nat → (Nat → Value) → List Oper → Act → Prop
  | _, vs, [], a => Q vs a
  | k, vs, o :: rest, a => ((Region.wanted o (yielded ops a.tmps) = true ∧ ∀ w, C w → (∀ j, Region.waitsFor .any ops k j = true → D j vs w) →
      ∃ v, S k v ∧ Gives P o a w v fun w' => C w' ∧ K k vs w w' ∧ D k (updV vs k v) w') ∨
      (Region.wanted o (yielded ops a.tmps) = false ∧ S k undef ∧ ∀ w, D k (updV vs k undef) w)) ∧ (S k (vs k) → wpR P ops S D K C Q (k + 1) vs rest (a.put o.dst (vs k)))
theorem waits_ready {L : Array Bool} {i j : Nat} (hr : i ∈ Region.ready .any ops L) (hw : Region.waitsFor .any ops i j = true) : L.getD j false = true := by
  obtain ⟨hun, o, ho, hall⟩ := mem_ready.1 hr
  obtain ⟨o2, ho2, e2, he2, hb2, hon⟩ := Region.waitsFor_spec hw
  obtain rfl : o = o2 := Option.some.inj (ho.symm.trans ho2)
  have h1 := hall e2 he2 hb2
  rw [hon] at h1
  exact h1
theorem waits_closed {L : Array Bool} {i j : Nat} (hc : Closed ops L) (hl : L.getD i false = true) (hw : Region.waitsFor .any ops i j = true) : L.getD j false = true := by
  obtain ⟨o2, ho2, e2, he2, hb2, hon⟩ := Region.waitsFor_spec hw
  have := hc i o2 ho2 hl e2 he2 hb2
  rw [hon] at this
  exact this
end
end Go.Proofs.Ytijgbbeplojinaa
set_option maxRecDepth 100000
namespace Go.Proofs.Ytijgbbeplojinaa
open Go.ChangeShapes Go.WideShapes Go.ChangeAt Go.RowKit
section
variable {ops : Array Oper} {Q : Exit → Act → World → Prop} {a : Act} {w : World} {rest : List Oper} {dst : Option Tmp} {ty : TypeId} {pos : String} {after : Array Edge} {s x : Operand} {m c B B' : Nat} {v : Value} {l kk : List Nat} {S e : TypeId} {k : IntKind} {ad : Addr}
end
theorem Own.lower {e : TypeId} {k : IntKind} {w : World} {B B' : Nat} {v : Value} {l : List Nat} (h : Own e k w B v l) (hB : B' ≤ B) : Own e k w B' v l := by
  refine ⟨h.1, ?_⟩
  rcases h.2 with h' | ⟨g, cap, cur, hv, hb, hr⟩
  · exact .inl h'
  · exact .inr ⟨g, cap, cur, hv, Nat.le_trans hB hb, hr⟩
/-- They lie in rows of their own. -/
def Apart (v u : Value) : Prop := ∀ g, v.ownBlock = some g → u.ownBlock ≠ some g
theorem Apart.symm {v u : Value} (h : Apart v u) : Apart u v := fun g hu hv => h g hv hu
theorem Apart.nil (v : Value) : Apart v (.slice none 0 0) := fun g _ h => by cases h
theorem Own.keep {e : TypeId} {k : IntKind} {w w' : World} {B : Nat} {v u : Value} {l : List Nat} (h : Own e k w B v l) (hg : w.grownBy w' u.ownBlock) (hne : Apart v u) : Own e k w' B v l := by
  refine World.ownsRow.kept h hg ?_
  cases hv : v.ownBlock with
  | none => exact .inl rfl
  | some g => exact .inr (Ne.symm (hne g hv))
theorem Apart.app {e : TypeId} {k : IntKind} {w : World} {B : Nat} {v v' u : Value} {l : List Nat} (h : Apart v u) (hv : Own e k w B v l) (hw : v'.ownBlock = u.ownBlock ∨ v'.ownBlock = some w.heap.size) : Apart v v' := fun g hg => by
  rcases hw with hw | hw
  · rw [hw]; exact h g hg
  · rw [hw]
    intro e'
    have := (World.ownsRow.lt hv g hg).2
    rw [Option.some.inj e'] at this
    exact Nat.lt_irrefl _ this
end Go.Proofs.Ytijgbbeplojinaa
set_option maxRecDepth 100000
namespace Go.Proofs.Ytijgbbeplojinaa
open Go.ChangeShapes Go.WideShapes Go.ChangeAt Go.RowKit
section
variable {a : Act} {w : World} {dst : Option Tmp} {ty : TypeId} {pos : String} {after : Array Edge} {gd : Option (Nat × Bool)} {s x : Operand} {m c B B' : Nat} {v : Value} {l kk : List Nat} {S e : TypeId} {k : IntKind} {ad : Addr}
end
end Go.Proofs.Ytijgbbeplojinaa
set_option maxRecDepth 100000
namespace Go.Proofs.Ytijgbbeplojinaa
open Go.ChangeShapes Go.WideShapes Go.ChangeAt Go.RowKit
/-- An append to a slice leaves any other slice of the call's own that is no longer as it was, even in the same row. -/
theorem Own.beside {e : TypeId} {k : IntKind} {w w' : World} {B B2 : Nat} {v u : Value} {l m : List Nat} (h : Own e k w B v l) (hu : Own e k w B2 u m) (hg : w.grownBy w' u.ownBlock) (hu' : Own e k w' B2 u m) (hlm : l.length ≤ m.length) : Own e k w' B v l := by
  by_cases hne : Apart v u
  · exact h.keep hg hne
  · rcases h.2 with ⟨rfl, h0⟩ | ⟨g, cap, cur, rfl, hB, hgc, hnc, hcm, hcs, ht⟩
    · rw [List.eq_nil_of_length_eq_zero h0]
      exact Own.nil
    · rcases hu.2 with ⟨rfl, _⟩ | ⟨g2, cap2, cur2, rfl, hB2, hgc2, hnc2, hcm2, hcs2, ht2⟩
      · exact absurd (Apart.nil _) hne
      · have hgg : g2 = g := by
          by_cases e' : g2 = g
          · exact e'
          · exact absurd (fun x hx hx2 => e' (by
              have h1 : g = x := Option.some.inj hx
              have h2 : g2 = x := Option.some.inj hx2
              rw [h1, h2])) hne
        subst hgg
        rw [hgc] at hgc2
        cases hgc2
        rcases hu'.2 with ⟨e', _⟩ | ⟨g3, cap3, cur3, hv3, hB3, hgc3, hnc3, hcm3, hcs3, ht3⟩
        · cases e'
        · simp only [Value.slice.injEq, Option.some.injEq, Addr.mk.injEq, and_true] at hv3
          obtain ⟨rfl, _, rfl⟩ := hv3
          have hcap : cap2 = cap := by omega
          subst hcap
          refine ⟨h.1, .inr ⟨_, _, cur3, rfl, hB, hgc3, hnc, hcm, hcs3, ?_⟩⟩
          rw [Nat.mul_one] at ht ht2 ht3 ⊢
          have h3 : (cur3.toList.take m.length).take l.length = (cur.toList.take m.length).take l.length := by rw [ht3, ht2]
          rw [List.take_take, List.take_take, Nat.min_eq_left hlm, ht] at h3
          exact h3
section
variable {P : Program} {ops : Array Oper}
end
end Go.Proofs.Ytijgbbeplojinaa
set_option maxRecDepth 100000
namespace Go.Proofs.Ytijgbbeplojinaa
section
variable {P : Program} {ops : Array Oper}
def upB (d : Nat → Bool) (k : Nat) : Nat → Bool := fun j => if j = k then true else d j
/-- The operations in the order of the text, the k-th first; st tells which of them write. -/
def wpM (P : Program) (ops : Array Oper) (st : Nat → Bool) (D : (Nat → Bool) → World → Prop) (Q : Act → Prop) : Nat → List Oper → Act → Prop
  | _, [], a => Q a
  | k, o :: rest, a => ∃ v, ((Region.wanted o (yielded ops a.tmps) = true ∧ ((st k = true ∧ ∀ d w, d k = false → D d w → Gives P o a w v (D (upB d k))) ∨ (st k = false ∧ ∀ d w, D d w → Gives P o a w v (D d)))) ∨
      (Region.wanted o (yielded ops a.tmps) = false ∧ st k = false ∧ v = undef)) ∧ wpM P ops st D Q (k + 1) rest (a.put o.dst v)
section
variable {D : (Nat → Bool) → World → Prop} {Qk : Act → Prop} {o : Oper} {rest : List Oper} {a : Act} {v : Value} {k : Nat} {st : Nat → Bool}
end
end
end Go.Proofs.Ytijgbbeplojinaa
