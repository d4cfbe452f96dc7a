/-
  The walk of PbkdfBegins: a number of rounds that is one.
-/
import Derived.Test.YtnnhnlabkbjacaaDoorPbW5
namespace Go.Proofs.YtnnhnlabkbjacaaDoor
open Go.ChangeShapes Go.WideShapes Go.ChangeAt Go.RowKit
attribute [local go_sem] Gives
set_option maxHeartbeats 1000000 in
set_option maxRecDepth 100000 in
theorem begins_main (K : Option Addr) (key : List Nat) (kn kcap : Nat) (A : Option Addr) (l : List Nat) (n cap r : Nat) (size : Int) (x : Nat) (hkn : kn ≤ 2000) (hn : n ≤ 2000) (hr : 1 ≤ r) (hr60 : r ≤ 60) (hl : decide (2000 < kn ∨ 2000 < n ∨ (200 < (r : Int) ∧ (r : Int) ≤ 4096 ∧ 1 ≤ size ∧ size ≤ 128)) = false) (hx : x < 256) (w : World) (hK : Arg w K key kn kcap) (hA : Arg w A l n cap) (hS : Salts w) :
    Calls Tryd.prog 6 #[.agg #[.slice K kn kcap, .slice A n cap, .int .i64 (r : Int), .int .i64 size], .int .u8 x] w fun e w' => e = .returned (.bool true) ∧ Below w.heap.size w w' := by
  have SA := hid hS
  have HK := hid hK
  have HA := hid hA
  have HLg := hid fun w => large_any K kn kcap A n cap (r : Int) size w
  rw [hl] at HLg
  obtain ⟨z, y, hz, hw1, hy, hy0, hy1, hw2⟩ := size_ok size
  obtain ⟨q, hq⟩ : ∃ q : Nat, q = x % 128 := ⟨_, rfl⟩
  obtain ⟨N, hN⟩ : ∃ N : Nat, N = 1 + q := ⟨_, rfl⟩
  obtain ⟨M, hM⟩ : ∃ M : Nat, (M : Int) = 1 + y := ⟨(1 + y).toNat, by omega⟩
  have hN1 : 1 ≤ N := by omega
  have hN2 : N ≤ 128 := by omega
  have hM1 : 1 ≤ M := by omega
  have hM2 : M ≤ 128 := by omega
  have hx1 : (x : Int).tmod 128 = (q : Int) := by rw [Int.tmod_eq_emod_of_nonneg (Int.natCast_nonneg _)]; omega
  have hx2 : (1 : Int) + (q : Int) = (N : Int) := by omega
  have hx3 : IntKind.i64.wrap ((1 : Int) + (q : Int)) = (N : Int) := by rw [hx2]; exact IntWalk.i64_in _ (by omega)
  replace hw2 : IntKind.i64.wrap (1 + y) = (M : Int) := hw2.trans hM.symm
  have hx0 : IntKind.i64.wrap (x : Int) = (x : Int) := IntWalk.i64_in _ (by omega)
  have HX0 := hid hx0
  have HZ := hid hz
  have HW1 := hid hw1
  have HY := hid hy
  have HW2 := hid hw2
  have HX1 := hid hx1
  have HX3 := hid hx3
  clear hS hK hA hl hz hw1 hy hw2 hx0 hx1 hx2 hx3 hM hN hq hy0 hy1
  go_enter Tryd.func6, Tryd.ntmps6
  go_upto_region 1 with fail
  generalize hw1 : World.alloc w _ = w1
  have b1 : Blk w1 w.heap.size 24 #[.slice K kn kcap, .slice A n cap, .int .i64 (r : Int), .int .i64 size] := by rw [← hw1]; exact Blk.top rfl rfl
  have B1 : Hid (Below w.heap.size w w1) := by rw [← hw1]; exact (Below.refl _ _).alloc (Nat.le_refl _) _
  clear hw1
  have C1 := hid b1
  go_wp2_with ((with_reducible apply ldcase); rfl; exact b1)
  clear b1
  refine (HLg.out w1).mono ?_
  rintro e w2 ⟨rfl, h2⟩
  have C2 := hid (C1.out.below h2 C1.out.lt)
  have B2 := hid (B1.out.trans (h2.mono B1.out.size))
  have q2 : w2.cell? ⟨w.heap.size, 2, none⟩ = some (.int .i64 (r : Int)) := C2.out.cell 2
  have q3 := hid (show w2.cell? ⟨w.heap.size, 3, none⟩ = some (.int .i64 size) from C2.out.cell 3)
  clear h2 C1 B1 HLg
  go_wp2_with fail
  refine wp_region_tail (C := Drew w2) 12 (by kernel_rfl) (by kernel_rfl) (by kernel_rfl) (Drew.refl _) ?_
  simp only [List.take_succ_cons, List.take_zero, List.drop_succ_cons, List.drop_zero]
  apply wpK_val
  · rfl
  · intro w' hw'
    go_simp
    first | exact rfl | exact ⟨rfl, hw'⟩
  simp only [Act.put, List.setIfInBounds_toArray, List.set_cons_succ, List.set_cons_zero]
  apply wpK_val
  · rfl
  · intro w' hw'
    have h1 : _ := HX0.out
    go_simp
    first | exact rfl | exact ⟨rfl, hw'⟩
  simp only [Act.put, List.setIfInBounds_toArray, List.set_cons_succ, List.set_cons_zero]
  apply wpK_val
  · rfl
  · intro w' hw'
    have h1 : _ := HX1.out
    go_simp
    first | exact rfl | exact ⟨rfl, hw'⟩
  simp only [Act.put, List.setIfInBounds_toArray, List.set_cons_succ, List.set_cons_zero]
  apply wpK_val
  · rfl
  · intro w' hw'
    have h1 : _ := HX3.out
    go_simp
    first | exact rfl | exact ⟨rfl, hw'⟩
  simp only [Act.put, List.setIfInBounds_toArray, List.set_cons_succ, List.set_cons_zero]
  apply wpK_val
  · rfl
  · intro w' hw'
    go_simp
    first | exact rfl | exact ⟨rfl, hw'⟩
  simp only [Act.put, List.setIfInBounds_toArray, List.set_cons_succ, List.set_cons_zero]
  apply wpK_val
  · rfl
  · intro w' hw'
    have hcell := hw'.cell q3.out
    go_simp
    first | exact rfl | exact ⟨rfl, hw'⟩
  simp only [Act.put, List.setIfInBounds_toArray, List.set_cons_succ, List.set_cons_zero]
  apply wpK_val
  · rfl
  · intro w' hw'
    have h1 : _ := HZ.out
    go_simp
    first | exact rfl | exact ⟨rfl, hw'⟩
  simp only [Act.put, List.setIfInBounds_toArray, List.set_cons_succ, List.set_cons_zero]
  apply wpK_val
  · rfl
  · intro w' hw'
    have h1 : _ := HW1.out
    go_simp
    first | exact rfl | exact ⟨rfl, hw'⟩
  simp only [Act.put, List.setIfInBounds_toArray, List.set_cons_succ, List.set_cons_zero]
  apply wpK_val
  · rfl
  · intro w' hw'
    have h1 : _ := HY.out
    go_simp
    first | exact rfl | exact ⟨rfl, hw'⟩
  simp only [Act.put, List.setIfInBounds_toArray, List.set_cons_succ, List.set_cons_zero]
  apply wpK_val
  · rfl
  · intro w' hw'
    have h1 : _ := HW2.out
    go_simp
    first | exact rfl | exact ⟨rfl, hw'⟩
  simp only [Act.put, List.setIfInBounds_toArray, List.set_cons_succ, List.set_cons_zero]
  apply wpK_val
  · rfl
  · intro w' hw'
    go_simp
    first | exact rfl | exact ⟨rfl, hw'⟩
  simp only [Act.put, List.setIfInBounds_toArray, List.set_cons_succ, List.set_cons_zero]
  apply wpK_val
  · rfl
  · intro w' hw'
    go_simp
    first | exact rfl | exact ⟨rfl, hw'⟩
  simp only [Act.put, List.setIfInBounds_toArray, List.set_cons_succ, List.set_cons_zero]
  refine wpK_nil fun w3 hw3 => ?_
  have C3 := hid (hw3.blk C2.out)
  have B3 := hid (hw3.below B2.out)
  clear hw3 q2 q3 C2 B2 HX0 HX1 HX3 HZ HW1 HY HW2
  clear w2 w1
  have q0 : w3.cell? ⟨w.heap.size, 0, none⟩ = some (.slice K kn kcap) := C3.out.cell 0
  have q1 : w3.cell? ⟨w.heap.size, 1, none⟩ = some (.slice A n cap) := C3.out.cell 1
  have q2 : w3.cell? ⟨w.heap.size, 2, none⟩ = some (.int .i64 (r : Int)) := C3.out.cell 2
  have t1 : decide ((r : Int) < 1) = false := decide_eq_false (by omega)
  have K3 := hid (HK.out.on B3.out)
  have A3 := hid (HA.out.on B3.out)
  go_wp2_with fail
  refine (pkey_any K key kn kcap A l n cap r N (by omega) (by omega) hr (by omega) hN1 hN2 w3 K3.out A3.out (SA.out.on B3.out)).mono ?_
  rintro e w4 ⟨v4, rfl, o4, h4⟩
  obtain ⟨A4, c4, e4, a4⟩ := o4.arg (PbM.key_256 _ _ _ _)
  rw [PbM.key_length (by omega)] at e4 a4
  subst e4
  have X4 := hid a4
  have B4 := hid (B3.out.trans (h4.mono B3.out.size))
  have C4 := hid (C3.out.below h4 C3.out.lt)
  have K4 := hid (HK.out.on B4.out)
  have L4 := hid (HA.out.on B4.out)
  clear h4 o4 a4 K3 A3 C3 B3 q0 q1 q2
  clear w3
  have q0 : w4.cell? ⟨w.heap.size, 0, none⟩ = some (.slice K kn kcap) := C4.out.cell 0
  have q1 : w4.cell? ⟨w.heap.size, 1, none⟩ = some (.slice A n cap) := C4.out.cell 1
  have q2 : w4.cell? ⟨w.heap.size, 2, none⟩ = some (.int .i64 (r : Int)) := C4.out.cell 2
  go_wp2_with fail
  refine (pkey_any K key kn kcap A l n cap r M (by omega) (by omega) hr (by omega) hM1 hM2 w4 K4.out L4.out (SA.out.on B4.out)).mono ?_
  rintro e w5 ⟨v5, rfl, o5, h5⟩
  obtain ⟨A5, c5, e5, a5⟩ := o5.arg (PbM.key_256 _ _ _ _)
  rw [PbM.key_length (by omega)] at e5 a5
  subst e5
  have Y5 := hid a5
  have X5 := hid (X4.out.on h5)
  have B5 := hid (B4.out.trans (h5.mono B4.out.size))
  have C5 := hid (C4.out.below h5 C4.out.lt)
  clear h5 o5 a5 K4 L4 C4 B4 X4 q0 q1 q2 HK HA
  clear w4
  have q2 : w5.cell? ⟨w.heap.size, 2, none⟩ = some (.int .i64 (r : Int)) := C5.out.cell 2
  obtain ⟨k, hk⟩ : ∃ k, k = min N M := ⟨_, rfl⟩
  have hkN : k ≤ N := by omega
  have hkM : k ≤ M := by omega
  have z4 := X5.out.take hkN
  have z5 := Y5.out.take hkM
  rw [PbM.key_take _ _ _ hkN] at z4
  rw [PbM.key_take _ _ _ hkM] at z5
  have Z4 := hid z4
  have Z5 := hid z5
  have hc4 : (k : Int) ≤ (c4 : Int) := by have := z4.cap; omega
  have hc5 : (k : Int) ≤ (c5 : Int) := by have := z5.cap; omega
  have hmx4 := X5.out.max
  have hmx5 := Y5.out.max
  unfold maxLen at hmx4 hmx5
  have e11 := hid (show (if M < N then (M : Int) else (N : Int)) = (k : Int) by split <;> omega)
  generalize PbM.key key l r k = kk at *
  clear z4 z5 X5 Y5 C5 hk
  go_upto_region 9 with fail
  rw [e11.out]
  have E5 := hid (SA.out.on B5.out)
  refine wp_region_tail (C := fun w' => Below w5.heap.size w5 w') 32 (by kernel_rfl) (by kernel_rfl) (by kernel_rfl) (Below.refl _ _).drew ?_
  simp only [List.take_succ_cons, List.take_zero, List.drop_succ_cons, List.drop_zero]
  apply wpK_val
  · rfl
  · intro w' hw'
    go_simp
    first | exact rfl | exact ⟨rfl, hw'⟩
  simp only [Act.put, List.setIfInBounds_toArray, List.set_cons_succ, List.set_cons_zero]
  apply wpK_val
  · rfl
  · intro w' hw'
    go_simp
    first | exact rfl | exact ⟨rfl, hw'⟩
  simp only [Act.put, List.setIfInBounds_toArray, List.set_cons_succ, List.set_cons_zero]
  apply wpK_val
  · rfl
  · intro w' hw'
    go_simp
    first | exact rfl | exact ⟨rfl, hw'⟩
  simp only [Act.put, List.setIfInBounds_toArray, List.set_cons_succ, List.set_cons_zero]
  apply wpK_val
  · rfl
  · intro w' hw'
    go_simp
    first | exact rfl | exact ⟨rfl, hw'⟩
  simp only [Act.put, List.setIfInBounds_toArray, List.set_cons_succ, List.set_cons_zero]
  apply wpK_val
  · rfl
  · intro w' hw'
    go_simp
    first | exact rfl | exact ⟨rfl, hw'⟩
  simp only [Act.put, List.setIfInBounds_toArray, List.set_cons_succ, List.set_cons_zero]
  apply wpK_val
  · rfl
  · intro w' hw'
    go_simp
    first | exact rfl | exact ⟨rfl, hw'⟩
  simp only [Act.put, List.setIfInBounds_toArray, List.set_cons_succ, List.set_cons_zero]
  apply wpK_val
  · rfl
  · intro w' hw'
    go_simp
    first | exact rfl | exact ⟨rfl, hw'⟩
  simp only [Act.put, List.setIfInBounds_toArray, List.set_cons_succ, List.set_cons_zero]
  apply wpK_val
  · rfl
  · intro w' hw'
    go_simp
    first | exact rfl | exact ⟨rfl, hw'⟩
  simp only [Act.put, List.setIfInBounds_toArray, List.set_cons_succ, List.set_cons_zero]
  apply wpK_val
  · rfl
  · intro w' hw'
    go_simp
    first | exact rfl | exact ⟨rfl, hw'⟩
  simp only [Act.put, List.setIfInBounds_toArray, List.set_cons_succ, List.set_cons_zero]
  apply wpK_val
  · rfl
  · intro w' hw'
    go_simp
    first | exact rfl | exact ⟨rfl, hw'⟩
  simp only [Act.put, List.setIfInBounds_toArray, List.set_cons_succ, List.set_cons_zero]
  apply wpK_val
  · rfl
  · intro w' hw'
    go_simp
    first | exact rfl | exact ⟨rfl, hw'⟩
  simp only [Act.put, List.setIfInBounds_toArray, List.set_cons_succ, List.set_cons_zero]
  apply wpK_val
  · rfl
  · intro w' hw'
    go_simp
    first | exact rfl | exact ⟨rfl, hw'⟩
  simp only [Act.put, List.setIfInBounds_toArray, List.set_cons_succ, List.set_cons_zero]
  apply wpK_val
  · rfl
  · intro w' hw'
    go_simp
    first | exact rfl | exact ⟨rfl, hw'⟩
  simp only [Act.put, List.setIfInBounds_toArray, List.set_cons_succ, List.set_cons_zero]
  apply wpK_val
  · rfl
  · intro w' hw'
    go_simp
    first | exact rfl | exact ⟨rfl, hw'⟩
  simp only [Act.put, List.setIfInBounds_toArray, List.set_cons_succ, List.set_cons_zero]
  apply wpK_val
  · rfl
  · intro w' hw'
    go_simp
    first | exact rfl | exact ⟨rfl, hw'⟩
  simp only [Act.put, List.setIfInBounds_toArray, List.set_cons_succ, List.set_cons_zero]
  apply wpK_val
  · rfl
  · intro w' hw'
    go_simp
    first | exact rfl | exact ⟨rfl, hw'⟩
  simp only [Act.put, List.setIfInBounds_toArray, List.set_cons_succ, List.set_cons_zero]
  apply wpK_val
  · rfl
  · intro w' hw'
    go_simp
    first | exact rfl | exact ⟨rfl, hw'⟩
  simp only [Act.put, List.setIfInBounds_toArray, List.set_cons_succ, List.set_cons_zero]
  apply wpK_val
  · rfl
  · intro w' hw'
    go_simp
    first | exact rfl | exact ⟨rfl, hw'⟩
  simp only [Act.put, List.setIfInBounds_toArray, List.set_cons_succ, List.set_cons_zero]
  apply wpK_val
  · rfl
  · intro w' hw'
    go_simp
    first | exact rfl | exact ⟨rfl, hw'⟩
  simp only [Act.put, List.setIfInBounds_toArray, List.set_cons_succ, List.set_cons_zero]
  apply wpK_val
  · rfl
  · intro w' hw'
    go_simp
    first | exact rfl | exact ⟨rfl, hw'⟩
  simp only [Act.put, List.setIfInBounds_toArray, List.set_cons_succ, List.set_cons_zero]
  apply wpK_val
  · rfl
  · intro w' hw'
    go_simp
    first | exact rfl | exact ⟨rfl, hw'⟩
  simp only [Act.put, List.setIfInBounds_toArray, List.set_cons_succ, List.set_cons_zero]
  apply wpK_val
  · rfl
  · intro w' hw'
    go_simp
    first | exact rfl | exact ⟨rfl, hw'⟩
  simp only [Act.put, List.setIfInBounds_toArray, List.set_cons_succ, List.set_cons_zero]
  apply wpK_val
  · rfl
  · intro w' hw'
    have h1 : _ := (Z4.out.on hw').str
    go_simp
    first | exact rfl | exact ⟨rfl, hw'⟩
  simp only [Act.put, List.setIfInBounds_toArray, List.set_cons_succ, List.set_cons_zero]
  apply wpK_val
  · rfl
  · intro w' hw'
    go_simp
    first | exact rfl | exact ⟨rfl, hw'⟩
  simp only [Act.put, List.setIfInBounds_toArray, List.set_cons_succ, List.set_cons_zero]
  apply wpK_val
  · rfl
  · intro w' hw'
    go_simp
    first | exact rfl | exact ⟨rfl, hw'⟩
  simp only [Act.put, List.setIfInBounds_toArray, List.set_cons_succ, List.set_cons_zero]
  apply wpK_val
  · rfl
  · intro w' hw'
    go_simp
    first | exact rfl | exact ⟨rfl, hw'⟩
  simp only [Act.put, List.setIfInBounds_toArray, List.set_cons_succ, List.set_cons_zero]
  apply wpK_val
  · rfl
  · intro w' hw'
    have h1 : _ := (Z5.out.on hw').str
    go_simp
    first | exact rfl | exact ⟨rfl, hw'⟩
  simp only [Act.put, List.setIfInBounds_toArray, List.set_cons_succ, List.set_cons_zero]
  apply wpK_val
  · rfl
  · intro w' hw'
    go_simp
    first | exact rfl | exact ⟨rfl, hw'⟩
  simp only [Act.put, List.setIfInBounds_toArray, List.set_cons_succ, List.set_cons_zero]
  apply wpK_val
  · rfl
  · intro w' hw'
    go_simp
    first | exact rfl | exact ⟨rfl, hw'⟩
  simp only [Act.put, List.setIfInBounds_toArray, List.set_cons_succ, List.set_cons_zero]
  apply wpK_val
  · rfl
  · intro w' hw'
    go_simp
    first | exact rfl | exact ⟨rfl, hw'⟩
  simp only [Act.put, List.setIfInBounds_toArray, List.set_cons_succ, List.set_cons_zero]
  apply wpK_val
  · rfl
  · intro w' hw'
    go_simp
    exact (awake_any _ (E5.out.on hw')).mono fun e w'' ⟨he, hb''⟩ => ⟨he, hw'.trans (hb''.mono hw'.size)⟩
  simp only [Act.put, List.setIfInBounds_toArray, List.set_cons_succ, List.set_cons_zero]
  apply wpK_val
  · rfl
  · intro w' hw'
    go_simp
    first | exact rfl | exact ⟨rfl, hw'⟩
  simp only [Act.put, List.setIfInBounds_toArray, List.set_cons_succ, List.set_cons_zero]
  refine wpK_nil fun w7 hw7 => ?_
  have b7 := B5.out.trans (hw7.mono B5.out.size)
  clear hw7
  go_wp2_with fail
  go_ret
  exact ⟨rfl, b7⟩
set_option maxRecDepth 100000 in
theorem begins_law (K : Option Addr) (key : List Nat) (kn kcap : Nat) (A : Option Addr) (l : List Nat) (n cap : Nat) (rounds size : Int) (x : Nat) (hx : x < 256) (w : World) (hK : Arg w K key kn kcap) (hA : Arg w A l n cap) (hS : Salts w) :
    Calls Tryd.prog 6 #[.agg #[.slice K kn kcap, .slice A n cap, .int .i64 rounds, .int .i64 size], .int .u8 x] w fun e w' => e = .returned (.bool true) ∧ Below w.heap.size w w' := by
  by_cases hlong : 2000 < kn ∨ 2000 < n ∨ (200 < rounds ∧ rounds ≤ 4096 ∧ 1 ≤ size ∧ size ≤ 128) ∨ 60 < rounds
  · exact begins_awake K kn kcap A n cap rounds size x hlong w hS
  · have hl : decide (2000 < kn ∨ 2000 < n ∨ (200 < rounds ∧ rounds ≤ 4096 ∧ 1 ≤ size ∧ size ≤ 128)) = false := decide_eq_false (by omega)
    by_cases hr : rounds < 1
    · exact begins_bad K key kn kcap A l n cap rounds size x hr hl hx w hK hA hS
    · obtain ⟨r, rfl⟩ : ∃ r : Nat, rounds = r := ⟨rounds.toNat, by omega⟩
      exact begins_main K key kn kcap A l n cap r size x (by omega) (by omega) (by omega) (by omega) hl hx w hK hA hS
end Go.Proofs.YtnnhnlabkbjacaaDoor
