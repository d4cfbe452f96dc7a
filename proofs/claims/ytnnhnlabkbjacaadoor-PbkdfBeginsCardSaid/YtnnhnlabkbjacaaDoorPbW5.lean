/-
  The walk of PbkdfBegins.
-/
import Derived.Test.YtnnhnlabkbjacaaDoorPbW1
import Derived.Test.YtnnhnlabkbjacaaDoorPbCase
namespace Go.Proofs.YtnnhnlabkbjacaaDoor
open Go.ChangeShapes Go.WideShapes Go.ChangeAt Go.RowKit
attribute [local go_sem] Gives
section
variable {H : Type} {enc : TypeId × Value → H} {w : World} {base : Nat} {spare : Nat → Bool} {held : Bool}
theorem open_u8 {r : Reach} {b0 : Nat} {v : Value} {d : DataW H} {p : List MemPlace} (hv : Value.okWide Tryd.prog w r b0 5 v) (h : DataW.Trod enc Tryd.prog w base spare held 5 v d p) :
    ∃ x : Nat, v = .int .u8 x ∧ x < 256 := by
  obtain ⟨a, rfl, _, _, wf⟩ := open_int Tryd.underlying5 hv h
  obtain ⟨n, rfl, hn⟩ := u8_wf wf
  exact ⟨n, rfl, hn⟩
end
theorem Arg.take {w : World} {K : Option Addr} {key : List Nat} {kn kcap k : Nat} (h : Arg w K key kn kcap) (hk : k ≤ kn) : Arg w K (key.take k) k kcap where
  len := by rw [List.length_take, h.len]; omega
  cap := by have := h.cap; omega
  max := h.max
  b256 := h.b256.take k
  none e := by obtain ⟨h1, h2⟩ := h.none e; exact ⟨by omega, h2⟩
  byt := h.byt.take k
set_option maxHeartbeats 400000 in
set_option maxRecDepth 100000 in
theorem begins_awake (K : Option Addr) (kn kcap : Nat) (A : Option Addr) (n cap : Nat) (rounds size : Int) (x : Nat) (h : 2000 < kn ∨ 2000 < n ∨ (200 < rounds ∧ rounds ≤ 4096 ∧ 1 ≤ size ∧ size ≤ 128) ∨ 60 < rounds) (w : World) (hS : Salts w) :
    Calls Tryd.prog 6 #[.agg #[.slice K kn kcap, .slice A n cap, .int .i64 rounds, .int .i64 size], .int .u8 x] w fun e w' => e = .returned (.bool true) ∧ Below w.heap.size w w' := by
  have SA := hid hS
  have HLg := hid fun w => large_any K kn kcap A n cap rounds size w
  clear hS
  go_enter Tryd.func6, Tryd.ntmps6
  go_upto_region 1 with fail
  generalize hw1 : World.alloc w _ = w1
  have b1 : Blk w1 w.heap.size 24 #[.slice K kn kcap, .slice A n cap, .int .i64 rounds, .int .i64 size] := by rw [← hw1]; exact Blk.top rfl rfl
  have B1 : Hid (Below w.heap.size w w1) := by rw [← hw1]; exact (Below.refl _ _).alloc (Nat.le_refl _) _
  clear hw1
  have C1 := hid b1
  go_wp2_with ((with_reducible apply ldcase); rfl; exact b1)
  clear b1
  refine (HLg.out w1).mono ?_
  rintro e w2 ⟨rfl, h2⟩
  have C2 := hid (C1.out.below h2 C1.out.lt)
  have B2 := hid (B1.out.trans (h2.mono B1.out.size))
  have q2 : w2.cell? ⟨w.heap.size, 2, none⟩ = some (.int .i64 rounds) := C2.out.cell 2
  clear h2 C1 B1 HLg
  by_cases hl : 2000 < kn ∨ 2000 < n ∨ (200 < rounds ∧ rounds ≤ 4096 ∧ 1 ≤ size ∧ size ≤ 128)
  · rw [decide_eq_true hl]
    clear h hl
    go_wp2_with fail
    refine (awake_any w2 (SA.out.on B2.out)).mono ?_
    rintro e w3 ⟨rfl, h3⟩
    have b3 := B2.out.trans (h3.mono B2.out.size)
    clear h3
    go_wp2_with fail
    go_ret
    exact ⟨rfl, b3⟩
  · rw [decide_eq_false hl]
    have t1 : decide ((60 : Int) < rounds) = true := decide_eq_true (by omega)
    clear h hl
    go_wp2_with fail
    refine (awake_any w2 (SA.out.on B2.out)).mono ?_
    rintro e w3 ⟨rfl, h3⟩
    have b3 := B2.out.trans (h3.mono B2.out.size)
    clear h3
    go_wp2_with fail
    go_ret
    exact ⟨rfl, b3⟩
/-- The second size, counted round. -/
theorem size_ok (size : Int) : ∃ z y : Int, size.tmod 128 = z ∧ IntKind.i64.wrap (z + 128) = z + 128 ∧ (z + 128).tmod 128 = y ∧ 0 ≤ y ∧ y < 128 ∧ IntKind.i64.wrap (1 + y) = 1 + y := by
  have h1 := Int.lt_tmod_of_pos size (b := 128) (by omega)
  have h2 := Int.tmod_lt_of_pos size (b := 128) (by omega)
  refine ⟨size.tmod 128, (size.tmod 128 + 128).tmod 128, rfl, IntWalk.i64_in _ (by omega), rfl, ?_⟩
  have h3 := Int.tmod_eq_emod_of_nonneg (a := size.tmod 128 + 128) (b := 128) (by omega)
  rw [h3]
  exact ⟨by omega, by omega, IntWalk.i64_in _ (by omega)⟩
set_option maxHeartbeats 1000000 in
set_option maxRecDepth 100000 in
theorem begins_bad (K : Option Addr) (key : List Nat) (kn kcap : Nat) (A : Option Addr) (l : List Nat) (n cap : Nat) (rounds size : Int) (x : Nat) (hr : rounds < 1) (hl : decide (2000 < kn ∨ 2000 < n ∨ (200 < rounds ∧ rounds ≤ 4096 ∧ 1 ≤ size ∧ size ≤ 128)) = false) (hx : x < 256) (w : World) (hK : Arg w K key kn kcap) (hA : Arg w A l n cap) (hS : Salts w) :
    Calls Tryd.prog 6 #[.agg #[.slice K kn kcap, .slice A n cap, .int .i64 rounds, .int .i64 size], .int .u8 x] w fun e w' => e = .returned (.bool true) ∧ Below w.heap.size w w' := by
  have SA := hid hS
  have HK := hid hK
  have HA := hid hA
  have HLg := hid fun w => large_any K kn kcap A n cap rounds size w
  rw [hl] at HLg
  obtain ⟨z, y, hz, hw1, hy, hy0, hy1, hw2⟩ := size_ok size
  obtain ⟨q, hq⟩ : ∃ q : Nat, q = x % 128 := ⟨_, rfl⟩
  obtain ⟨N, hN⟩ : ∃ N : Nat, N = 1 + q := ⟨_, rfl⟩
  obtain ⟨M, hM⟩ : ∃ M : Nat, (M : Int) = 1 + y := ⟨(1 + y).toNat, by omega⟩
  have hN1 : 1 ≤ N := by omega
  have hN2 : N ≤ 128 := by omega
  have hM1 : 1 ≤ M := by omega
  have hM2 : M ≤ 128 := by omega
  have hx1 : (x : Int).tmod 128 = (q : Int) := by rw [Int.tmod_eq_emod_of_nonneg (Int.natCast_nonneg _)]; omega
  have hx2 : (1 : Int) + (q : Int) = (N : Int) := by omega
  have hx3 : IntKind.i64.wrap ((1 : Int) + (q : Int)) = (N : Int) := by rw [hx2]; exact IntWalk.i64_in _ (by omega)
  replace hw2 : IntKind.i64.wrap (1 + y) = (M : Int) := hw2.trans hM.symm
  have hx0 : IntKind.i64.wrap (x : Int) = (x : Int) := IntWalk.i64_in _ (by omega)
  have HX0 := hid hx0
  have HZ := hid hz
  have HW1 := hid hw1
  have HY := hid hy
  have HW2 := hid hw2
  have HX1 := hid hx1
  have HX3 := hid hx3
  clear hS hK hA hl hz hw1 hy hw2 hx0 hx1 hx2 hx3 hM hN hq hy0 hy1
  go_enter Tryd.func6, Tryd.ntmps6
  go_upto_region 1 with fail
  generalize hw1 : World.alloc w _ = w1
  have b1 : Blk w1 w.heap.size 24 #[.slice K kn kcap, .slice A n cap, .int .i64 rounds, .int .i64 size] := by rw [← hw1]; exact Blk.top rfl rfl
  have B1 : Hid (Below w.heap.size w w1) := by rw [← hw1]; exact (Below.refl _ _).alloc (Nat.le_refl _) _
  clear hw1
  have C1 := hid b1
  go_wp2_with ((with_reducible apply ldcase); rfl; exact b1)
  clear b1
  refine (HLg.out w1).mono ?_
  rintro e w2 ⟨rfl, h2⟩
  have C2 := hid (C1.out.below h2 C1.out.lt)
  have B2 := hid (B1.out.trans (h2.mono B1.out.size))
  have q2 : w2.cell? ⟨w.heap.size, 2, none⟩ = some (.int .i64 rounds) := C2.out.cell 2
  have q3 := hid (show w2.cell? ⟨w.heap.size, 3, none⟩ = some (.int .i64 size) from C2.out.cell 3)
  clear h2 C1 B1 HLg
  go_wp2_with fail
  refine wp_region_tail (C := Drew w2) 12 (by kernel_rfl) (by kernel_rfl) (by kernel_rfl) (Drew.refl _) ?_
  simp only [List.take_succ_cons, List.take_zero, List.drop_succ_cons, List.drop_zero]
  apply wpK_val
  · rfl
  · intro w' hw'
    go_simp
    first | exact rfl | exact ⟨rfl, hw'⟩
  simp only [Act.put, List.setIfInBounds_toArray, List.set_cons_succ, List.set_cons_zero]
  apply wpK_val
  · rfl
  · intro w' hw'
    have h1 : _ := HX0.out
    go_simp
    first | exact rfl | exact ⟨rfl, hw'⟩
  simp only [Act.put, List.setIfInBounds_toArray, List.set_cons_succ, List.set_cons_zero]
  apply wpK_val
  · rfl
  · intro w' hw'
    have h1 : _ := HX1.out
    go_simp
    first | exact rfl | exact ⟨rfl, hw'⟩
  simp only [Act.put, List.setIfInBounds_toArray, List.set_cons_succ, List.set_cons_zero]
  apply wpK_val
  · rfl
  · intro w' hw'
    have h1 : _ := HX3.out
    go_simp
    first | exact rfl | exact ⟨rfl, hw'⟩
  simp only [Act.put, List.setIfInBounds_toArray, List.set_cons_succ, List.set_cons_zero]
  apply wpK_val
  · rfl
  · intro w' hw'
    go_simp
    first | exact rfl | exact ⟨rfl, hw'⟩
  simp only [Act.put, List.setIfInBounds_toArray, List.set_cons_succ, List.set_cons_zero]
  apply wpK_val
  · rfl
  · intro w' hw'
    have hcell := hw'.cell q3.out
    go_simp
    first | exact rfl | exact ⟨rfl, hw'⟩
  simp only [Act.put, List.setIfInBounds_toArray, List.set_cons_succ, List.set_cons_zero]
  apply wpK_val
  · rfl
  · intro w' hw'
    have h1 : _ := HZ.out
    go_simp
    first | exact rfl | exact ⟨rfl, hw'⟩
  simp only [Act.put, List.setIfInBounds_toArray, List.set_cons_succ, List.set_cons_zero]
  apply wpK_val
  · rfl
  · intro w' hw'
    have h1 : _ := HW1.out
    go_simp
    first | exact rfl | exact ⟨rfl, hw'⟩
  simp only [Act.put, List.setIfInBounds_toArray, List.set_cons_succ, List.set_cons_zero]
  apply wpK_val
  · rfl
  · intro w' hw'
    have h1 : _ := HY.out
    go_simp
    first | exact rfl | exact ⟨rfl, hw'⟩
  simp only [Act.put, List.setIfInBounds_toArray, List.set_cons_succ, List.set_cons_zero]
  apply wpK_val
  · rfl
  · intro w' hw'
    have h1 : _ := HW2.out
    go_simp
    first | exact rfl | exact ⟨rfl, hw'⟩
  simp only [Act.put, List.setIfInBounds_toArray, List.set_cons_succ, List.set_cons_zero]
  apply wpK_val
  · rfl
  · intro w' hw'
    go_simp
    first | exact rfl | exact ⟨rfl, hw'⟩
  simp only [Act.put, List.setIfInBounds_toArray, List.set_cons_succ, List.set_cons_zero]
  apply wpK_val
  · rfl
  · intro w' hw'
    go_simp
    first | exact rfl | exact ⟨rfl, hw'⟩
  simp only [Act.put, List.setIfInBounds_toArray, List.set_cons_succ, List.set_cons_zero]
  refine wpK_nil fun w3 hw3 => ?_
  have C3 := hid (hw3.blk C2.out)
  have B3 := hid (hw3.below B2.out)
  clear hw3 q2 q3 C2 B2 HX0 HX1 HX3 HZ HW1 HY HW2
  clear w2 w1
  have q0 : w3.cell? ⟨w.heap.size, 0, none⟩ = some (.slice K kn kcap) := C3.out.cell 0
  have q1 : w3.cell? ⟨w.heap.size, 1, none⟩ = some (.slice A n cap) := C3.out.cell 1
  have q2 : w3.cell? ⟨w.heap.size, 2, none⟩ = some (.int .i64 rounds) := C3.out.cell 2
  have P1 := hid fun (s : Int) w => pkey_bad K kn kcap A n cap rounds s (.inl hr) w
  have t1 : decide (rounds < 1) = true := decide_eq_true hr
  go_wp2_with fail
  refine (P1.out _ w3).mono ?_
  rintro e w' ⟨rfl, rfl⟩
  go_wp2_with fail
  refine (P1.out _ w3).mono ?_
  rintro e w' ⟨rfl, rfl⟩
  go_wp2_with fail
  refine (awake_any w3 (SA.out.on B3.out)).mono ?_
  rintro e w4 ⟨rfl, h4⟩
  have b4 := B3.out.trans (h4.mono B3.out.size)
  clear h4 q0 q1 q2 t1
  go_wp2_with fail
  go_ret
  exact ⟨rfl, b4⟩
end Go.Proofs.YtnnhnlabkbjacaaDoor
