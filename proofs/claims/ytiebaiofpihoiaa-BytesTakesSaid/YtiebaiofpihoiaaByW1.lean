/-
  The walk of BytesNum.
-/
import Derived.Test.YtiebaiofpihoiaaByOpen
namespace Go.Proofs.Ytiebaiofpihoiaa
open Go.ChangeShapes Go.WideShapes Go.ChangeAt Go.RowKit
attribute [local go_sem] Gives
theorem nines (w : World) : Nums .u8 (w.alloc (.cells #[.int .u8 9, .int .u8 9, .int .u8 9] 5)) (w.heap.size + 1) (some ⟨w.heap.size, 0, none⟩) [9, 9, 9] :=
  Nums.row (Blk.top (cs := #[.int .u8 9, .int .u8 9, .int .u8 9]) rfl rfl) (Nat.lt_succ_self _) fun j hj => by
    match j, hj with
    | 0, _ => rfl
    | 1, _ => rfl
    | 2, _ => rfl
theorem own_more {w : World} {B k : Nat} {v : Value} {l m : List Nat} (ho : Own 5 .u8 w B v ([] ++ l ++ m)) (hl : l.length = k) (h6 : B256 l) (h7 : B256 m) (hm : 0 < m.length) :
    ∃ g c, v = .slice (some ⟨g, 0, none⟩) (k + m.length) c ∧ B ≤ g ∧ g < w.heap.size ∧ k + m.length ≤ c ∧ c ≤ maxLen ∧ Arg w (some ⟨g, 0, none⟩) l k c ∧ Arg w (some ⟨g, k, none⟩) m m.length (c - k) := by
  rw [List.nil_append] at ho
  obtain ⟨g, c, e, h1, h2, h3, h4, h5⟩ := ho.at (by rw [List.length_append]; omega)
  rw [List.length_append, hl] at e h3 h5
  have hg : ∀ i, i < k → (l ++ m).getD i 0 = l.getD i 0 := fun i hi => by
    rw [List.getD_eq_getElem?_getD, List.getElem?_append_left (by omega), List.getD_eq_getElem?_getD]
  have hg2 : ∀ i, i < m.length → (l ++ m).getD (k + i) 0 = m.getD i 0 := fun i hi => by
    rw [List.getD_eq_getElem?_getD, List.getElem?_append_right (by omega), List.getD_eq_getElem?_getD, hl, Nat.add_sub_cancel_left]
  refine ⟨g, c, e, h1, h2, h3, h4, ⟨hl, by omega, h4, h6, (fun e => by cases e), fun _ => ⟨g, 0, rfl, h2, fun i hi => ?_⟩⟩, ⟨rfl, by omega, by omega, h7, (fun e => by cases e), fun _ => ⟨g, k, rfl, h2, fun i hi => ?_⟩⟩⟩
  · rw [Nat.zero_add, ← hg i (by omega)]
    exact (h5 i (by omega)).1
  · rw [← hg2 i hi]
    exact (h5 (k + i) (by omega)).1
theorem nines_256 : B256 [9, 9, 9] := fun x hx => by
  have : ([9, 9, 9] : List Nat).all (fun x => decide (x < 256)) = true := by decide
  exact of_decide_eq_true (List.all_eq_true.1 this x hx)
theorem own_nine {w : World} {B k : Nat} {v : Value} {l : List Nat} (ho : Own 5 .u8 w B v ([] ++ l ++ [9, 9, 9])) (hl : l.length = k) (h6 : B256 l) :
    ∃ g c, v = .slice (some ⟨g, 0, none⟩) (k + 3) c ∧ (k : Int) ≤ (c : Int) ∧ ((k : Int) + 3 ≤ (c : Int)) ∧ c ≤ 9223372036854775807 ∧ Hid (B ≤ g) ∧ Hid (Arg w (some ⟨g, 0, none⟩) l k c) ∧ Hid (Arg w (some ⟨g, k, none⟩) [9, 9, 9] 3 (c - k)) := by
  obtain ⟨g, c, e, h1, h2, h3, h4, h5, h6⟩ := own_more ho hl h6 nines_256 (by decide)
  have h3' : k + 3 ≤ c := h3
  unfold maxLen at h4
  exact ⟨g, c, e, by omega, by omega, by omega, hid h1, hid h5, hid h6⟩
set_option maxHeartbeats 800000 in
theorem num_law (A : Option Addr) (l : List Nat) (n cap : Nat) (x : Int) (m : Nat) (hm : m < 18446744073709551616) (s : ByteArray) (hs : s.size ≤ maxLen) (w : World) (hA : Arg w A l n cap) :
    Calls Try.prog 3 #[.slice A n cap, .agg #[.int .i64 x, .int .u64 m, .string s]] w fun e w' => e = .returned (.bool true) ∧ Below w.heap.size w w' := by
  have C := hid fun w => lcut_any A n cap hA.cap hA.max w
  have a5 := hA.cutN 5000
  have hk : min n 5000 ≤ 5000 := by omega
  generalize l.take 5000 = l5 at *
  generalize min n 5000 = k at *
  have H5 := hid a5
  unfold maxLen at hs
  obtain ⟨z, hz⟩ : ∃ z, z = min s.size 70000 := ⟨_, rfl⟩
  have e1 : (if (70000 : Int) < (s.size : Int) then (70000 : Int) else (s.size : Int)) = (z : Int) := by split <;> omega
  have hz2 : (z : Int) ≤ (s.size : Int) := by omega
  have hz3 : z ≤ 70000 := by omega
  clear hA a5 hz
  go_enter Try.func3, Try.ntmps3
  go_upto_region 1 with fail
  generalize hw1 : World.alloc w _ = w1
  have b1 : Blk w1 w.heap.size 25 #[.int .i64 x, .int .u64 m, .string s] := by rw [← hw1]; exact Blk.top rfl rfl
  have B1 : Hid (Below w.heap.size w w1) := by rw [← hw1]; exact (Below.refl _ _).alloc (Nat.le_refl _) _
  have q0 : w1.cell? ⟨w.heap.size, 0, none⟩ = some (.int .i64 x) := b1.cell 0
  have q1 : w1.cell? ⟨w.heap.size, 1, none⟩ = some (.int .u64 m) := b1.cell 1
  have q2 : w1.cell? ⟨w.heap.size, 2, none⟩ = some (.string s) := b1.cell 2
  have BL := hid b1
  clear hw1 b1
  go_wp2_with fail
  refine (C.out w1).mono ?_
  rintro e w' ⟨rfl, rfl⟩
  clear C
  go_upto_region 3 with fail
  have ht : (s.extract 0 z).size ≤ 70000 := by rw [ByteArray.size_extract]; omega
  generalize s.extract 0 z = t at *
  clear e1 hz2 hz3 hs q2
  have OE : Hid (Own 5 .u8 (w1.alloc (.cells #[] 5)) w1.heap.size (.slice (some ⟨w1.heap.size, 0, none⟩) 0 0) []) := hid (Own.empty w1 (Nat.le_refl _))
  have BE := hid ((Below.refl w1.heap.size w1).alloc (Nat.le_refl _) (.cells #[] 5))
  have AE := hid ((H5.out.on B1.out).on BE.out)
  go_upto_region 4 with (first
    | (at_builtin; (with_reducible apply wappN_any eltB); rfl; rfl; exact AE.out.none; exact OE.out; exact AE.out.byt.nums; exact AE.out.len; (rw [List.length_nil]; omega); (simp); intro v2 w2 o2 g2)
    | (at_builtin; (with_reducible apply wappN eltB); rfl; rfl; exact o2.alloc _; exact nines w2; rfl; (rw [List.nil_append, H5.out.len]; omega); (have hz9 := g2.size; simp at hz9 ⊢; omega); intro v3 w3 o3 g3; obtain ⟨g4, c3, e3, k1, k2, k3, k4, k5, k6⟩ := own_nine o3 H5.out.len H5.out.b256; subst e3))
  have M2 := below_grown BE.out g2 OE.out (Nat.le_refl _) (Nat.le_refl _)
  have M3 := hid (below_grown (M2.alloc M2.size (.cells #[.int .u8 9, .int .u8 9, .int .u8 9] 5)) g3 o2 (Nat.le_refl _) (Nat.le_refl _))
  have hw1 : w.heap.size < w1.heap.size := BL.out.lt
  have Q := hid fun w' (h : Below w1.heap.size w1 w') => And.intro ((h.cell (p := ⟨w.heap.size, 0, none⟩) hw1).trans q0) ((h.cell (p := ⟨w.heap.size, 1, none⟩) hw1).trans q1)
  clear M2 g2 g3 o2 o3 q0 q1 AE OE BE hw1
  obtain ⟨q0, q1⟩ := Q.out _ M3.out
  go_wp2_with fail
  refine (pnum_all (some ⟨g4, 0, none⟩) l5 k c3 (by omega) x m w3 k5.out).mono ?_
  rintro e w4 ⟨A4, c4, rfl, a4, b4⟩
  have M4 := hid (M3.out.trans (b4.mono M3.out.size))
  have K4 := hid (k5.out.on b4)
  have N4 := hid (k6.out.on b4)
  have R4 := hid a4
  clear q0 q1 a4 b4 k5 k6 M3
  obtain ⟨q0, q1⟩ := Q.out _ M4.out
  go_wp2_with fail
  refine (rnum_all A l5 k cap (by omega) x m hm w4 ((H5.out.on B1.out).on M4.out)).mono ?_
  rintro e w5 ⟨A5, c5, rfl, a5, b5⟩
  have M5 := hid (M4.out.trans (b5.mono M4.out.size))
  have K5 := hid (K4.out.on b5)
  have N5 := hid (N4.out.on b5)
  have R5 := hid a5
  have R4' := hid (R4.out.on b5)
  clear q0 q1 a5 b5 K4 N4 R4 M4
  go_wp2_with fail
  refine (ptext_all (some ⟨g4, 0, none⟩) l5 k c3 (by omega) t w5 K5.out).mono ?_
  rintro e w6 ⟨A6, c6, rfl, a6, b6⟩
  have M6 := hid (M5.out.trans (b6.mono M5.out.size))
  have N6 := hid (N5.out.on b6)
  have R6 := hid a6
  have R4 := hid (R4'.out.on b6)
  have R5' := hid (R5.out.on b6)
  clear a6 b6 K5 N5 R4' R5 M5
  go_wp2_with fail
  refine (rtext_all A l5 k cap (by omega) t w6 ((H5.out.on B1.out).on M6.out)).mono ?_
  rintro e w7 ⟨A7, c7, rfl, a7, b7⟩
  have M7 := hid (M6.out.trans (b7.mono M6.out.size))
  have s1 := (R4.out.on b7).str
  have s2 := (R5'.out.on b7).str
  have s3 := (R6.out.on b7).str
  have s4 := a7.str
  have s5 := (N6.out.on b7).str
  generalize (numO l5 x m).length = L1 at *
  generalize (txtO l5 t).length = L2 at *
  generalize numO l5 x m = O1 at *
  generalize txtO l5 t = O2 at *
  generalize numE x m = E1 at *
  generalize txtE t = E2 at *
  have e9 : str [9, 9, 9] = ⟨#[9, 9, 9]⟩ := rfl
  rw [e9] at s5
  clear a7 b7 N6 R6 R4 R5' M6 e9
  go_wp2_with fail
  refine (works_any w7).mono ?_
  rintro e w8 ⟨rfl, b8⟩
  have B8 := hid (B1.out.trans ((M7.out.trans (b8.mono M7.out.size)).mono B1.out.size))
  clear b8 s1 s2 s3 s4 s5
  go_wp2_with fail
  go_ret
  exact ⟨rfl, B8.out⟩
end Go.Proofs.Ytiebaiofpihoiaa
