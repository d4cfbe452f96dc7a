/-
  Contract of aes.nextWord.
-/
import Derived.Test.YtfnepbkgmopjcaaAesB
import Derived.Test.YtfnepbkgmopjcaaAesW
namespace Go.Proofs.Ytfnepbkgmopjcaa
open Go.ChangeShapes Go.WideShapes Go.ChangeAt Go.RowKit
open AesM (Bt)
attribute [local go_sem] Gives
namespace AesP
theorem tWd : ArT 93 4 := ⟨by kernel_rfl, ⟨_, Try.underlying93, rfl⟩, (zero_of_info (P := Try.prog) (t := 93) (v := .agg (ar 4 fun _ => 0)) (n := 4) (by kernel_rfl)).1⟩
def sel4 (a b c d : Nat) (i : Nat) : Nat := if i = 0 then a else if i = 1 then b else if i = 2 then c else d
theorem built_wd (a b c d : Nat) : Try.prog.built 93 [(0, .int .u8 a), (1, .int .u8 b), (2, .int .u8 c), (3, .int .u8 d)] = some (ar 4 (sel4 a b c d)) := by
  have h1 : ∃ i, Try.prog.info? 93 = some i ∧ i.zero = some (.agg (ar 4 fun _ => 0)) := by
    have := (by kernel_rfl : (Try.prog.info? 93).bind (·.zero) = some (.agg (ar 4 fun _ => 0)))
    cases h : Try.prog.info? 93 with
    | none => rw [h] at this; cases this
    | some i => rw [h] at this; exact ⟨i, rfl, this⟩
  have h2 : ∃ i, Try.prog.info? 5 = some i ∧ i.size = 1 := by
    have := (by kernel_rfl : (Try.prog.info? 5).map (·.size) = some 1)
    cases h : Try.prog.info? 5 with
    | none => rw [h] at this; cases this
    | some i => rw [h] at this; exact ⟨i, rfl, by simpa using this⟩
  obtain ⟨i, hi, hz⟩ := h1
  obtain ⟨j, hj, hs⟩ := h2
  unfold Program.built
  rw [hi, Try.underlying93]
  simp only [hz, hj, hs]
  rfl
section
variable {ops : Array Oper} {a : Act} {w : World} {rest : List Oper} {dst : Option Tmp} {ty : TypeId} {pos : String} {after : Array Edge} {x y z u : Operand} {C : World → Prop} {Qk : Act → Prop} {gd : Option (Nat × Bool)} {p q r s : Nat}
set_option maxRecDepth 100000 in
theorem kb4 (hwt : Region.wanted ⟨dst, .build 93 #[(0, x), (1, y), (2, z), (3, u)], ty, pos, after, gd⟩ (yielded ops a.tmps) = true) (hx : a.eval x = .int .u8 p) (hy : a.eval y = .int .u8 q) (hz : a.eval z = .int .u8 r) (hu : a.eval u = .int .u8 s)
    (h : wpK Try.prog ops C Qk rest (a.put dst (.agg (ar 4 (sel4 p q r s))))) : wpK Try.prog ops C Qk (⟨dst, .build 93 #[(0, x), (1, y), (2, z), (3, u)], ty, pos, after, gd⟩ :: rest) a :=
  wpK_val hwt (fun w hw => by
    have hr := run_build (P := Try.prog) w 93 #[(0, a.eval x), (1, a.eval y), (2, a.eval z), (3, a.eval u)] _ (by rw [hx, hy, hz, hu]; exact built_wd p q r s)
    refine gives_value (w' := w) ?_ hw
    simp [execOp, hr, Result.andThen]) h
end
theorem sel4_lt {a b c d : Nat} (ha : a < 256) (hb : b < 256) (hc : c < 256) (hd : d < 256) (i : Nat) : sel4 a b c d i < 256 := by
  unfold sel4
  split
  · exact ha
  · split
    · exact hb
    · split <;> assumption
theorem pow_mod (e : Nat) (h : e < 7) : (2 : Int) ^ e % 256 = ((2 ^ e : Nat) : Int) := by
  match e, h with
  | 0, _ | 1, _ | 2, _ | 3, _ | 4, _ | 5, _ | 6, _ => rfl
set_option maxHeartbeats 400000 in
set_option maxRecDepth 100000 in
theorem next_any (far near T : Nat → Nat) (n : Nat) (h8 : 8 ≤ n) (h60 : n < 60) (hf : Bt far) (hn : Bt near) (hT : Bt T) (g o : Nat) (w : World) (hg : g < w.heap.size) (hR : w.rangeAt g o (ar 256 T).toList) :
    Calls Try.prog 46 #[.agg (ar 4 far), .agg (ar 4 near), .int .i64 n, .pointer (some ⟨g, o, none⟩)] w fun e w' => e = .returned (.agg (ar 4 (AesM.nxt T far near n))) ∧ Below w.heap.size w w' := by
  have HF := hid hf
  have HN := hid hn
  have HT := hid hT
  have HR := hid (show ∀ k, k < 256 → w.cell? ⟨g, o + k, none⟩ = some (.int .u8 (T k : Nat)) from fun k hk => hR k _ (by rw [Array.getElem?_toList, get_ar hk]))
  clear hf hn hT hR
  go_enter Try.func46, Try.ntmps46
  go_upto_region 1 with (with_reducible apply alA tWd)
  generalize hw1 : World.alloc (World.alloc (World.alloc w _) _) _ = w1
  have b1 : Blk w1 w.heap.size 93 (ar 4 far) := by rw [← hw1]; exact ((Blk.new _ _ _).alloc _).alloc _
  have b2 : Blk w1 (w.heap.size + 1) 93 (ar 4 near) := by rw [← hw1]; exact (Blk.top rfl (by simp)).alloc _
  have b3 : Blk w1 (w.heap.size + 2) 93 (ar 4 fun _ => 0) := by rw [← hw1]; exact Blk.top rfl (by simp)
  have hb : Below w.heap.size w w1 := by rw [← hw1]; exact (((Below.refl _ _).alloc (Nat.le_refl _) _).alloc (by simp) _).alloc (by simp; omega) _
  have hs : w1.heap.size = w.heap.size + 3 := by rw [← hw1]; simp
  clear hw1
  have hz : Blk (w1.alloc (.cells (ar 4 fun _ => 0) 93)) w1.heap.size 93 (ar 4 fun _ => 0) := Blk.new _ _ _
  go_upto_region 2 with (first | (with_reducible apply alA tWd) | ((with_reducible apply ldA tWd); rfl; exact b2) | ((with_reducible apply stA tWd); rfl; rfl; exact hz))
  generalize hw3 : World.setRow _ _ _ = w3
  have q1 := hid (show Blk w3 w.heap.size 93 (ar 4 far) by rw [← hw3]; exact (b1.alloc _).setRow_other (by omega) _)
  have q2 := hid (show Blk w3 (w.heap.size + 1) 93 (ar 4 near) by rw [← hw3]; exact (b2.alloc _).setRow_other (by omega) _)
  have q3 := hid (show Blk w3 (w.heap.size + 2) 93 (ar 4 fun _ => 0) by rw [← hw3]; exact (b3.alloc _).setRow_other (by omega) _)
  have q4 := hid (show Blk w3 (w.heap.size + 3) 93 (ar 4 near) by rw [← hw3, ← hs]; exact hz.setRow_same _)
  have qb := hid (show Below w.heap.size w w3 by rw [← hw3]; exact below_setRow (hb.alloc (by omega) _) (by omega) _)
  rw [hs]
  clear hw3 hz b1 b2 b3 hb hs w1
  by_cases c0 : n % 8 = 0
  · have t0 : (n : Int).tmod 8 = 0 := by rw [Int.tmod_eq_emod_of_nonneg (by omega)]; omega
    have t1 : (n : Int) % 8 = 0 := by omega
    have N0 := hid ((q2.out.cell 0).trans (get_ar (n := 4) (by omega)))
    have N1 := hid ((q2.out.cell 1).trans (get_ar (n := 4) (by omega)))
    have N2 := hid ((q2.out.cell 2).trans (get_ar (n := 4) (by omega)))
    have N3 := hid ((q2.out.cell 3).trans (get_ar (n := 4) (by omega)))
    have TL0 := hid (show ((near 0 : Nat) : Int) < 256 by have := HN.out 0; omega)
    have TL1 := hid (show ((near 1 : Nat) : Int) < 256 by have := HN.out 1; omega)
    have TL2 := hid (show ((near 2 : Nat) : Int) < 256 by have := HN.out 2; omega)
    have TL3 := hid (show ((near 3 : Nat) : Int) < 256 by have := HN.out 3; omega)
    go_wp2_with fail
    refine wp_region_tail (C := Drew w3) 25 (by kernel_rfl) (by kernel_rfl) (by kernel_rfl) (Drew.refl _) ?_
    simp only [List.take_succ_cons, List.take_zero, List.drop_succ_cons, List.drop_zero]
    apply wpK_val
    · rfl
    · intro w' hw'
      go_simp
      first | exact rfl | exact ⟨rfl, hw'⟩
    simp only [Act.put, List.setIfInBounds_toArray, List.set_cons_succ, List.set_cons_zero]
    apply wpK_val
    · rfl
    · intro w' hw'
      go_simp
      first | exact rfl | exact ⟨rfl, hw'⟩
    simp only [Act.put, List.setIfInBounds_toArray, List.set_cons_succ, List.set_cons_zero]
    apply wpK_val
    · rfl
    · intro w' hw'
      have hcell := hw'.cell N1.out
      go_simp
      first | exact rfl | exact ⟨rfl, hw'⟩
    simp only [Act.put, List.setIfInBounds_toArray, List.set_cons_succ, List.set_cons_zero]
    apply wpK_val
    · rfl
    · intro w' hw'
      go_simp
      first | exact rfl | exact ⟨rfl, hw'⟩
    simp only [Act.put, List.setIfInBounds_toArray, List.set_cons_succ, List.set_cons_zero]
    apply wpK_val
    · rfl
    · intro w' hw'
      have h1 : _ := TL1.out
      go_simp
      first | exact rfl | exact ⟨rfl, hw'⟩
    simp only [Act.put, List.setIfInBounds_toArray, List.set_cons_succ, List.set_cons_zero]
    apply wpK_val
    · rfl
    · intro w' hw'
      have hcell := (hw'.cell ((qb.out.cell hg).trans (HR.out _ (HN.out 1))))
      go_simp
      first | exact rfl | exact ⟨rfl, hw'⟩
    simp only [Act.put, List.setIfInBounds_toArray, List.set_cons_succ, List.set_cons_zero]
    apply wpK_val
    · rfl
    · intro w' hw'
      go_simp
      first | exact rfl | exact ⟨rfl, hw'⟩
    simp only [Act.put, List.setIfInBounds_toArray, List.set_cons_succ, List.set_cons_zero]
    apply wpK_val
    · rfl
    · intro w' hw'
      go_simp
      first | exact rfl | exact ⟨rfl, hw'⟩
    simp only [Act.put, List.setIfInBounds_toArray, List.set_cons_succ, List.set_cons_zero]
    apply wpK_val
    · rfl
    · intro w' hw'
      have hcell := hw'.cell N2.out
      go_simp
      first | exact rfl | exact ⟨rfl, hw'⟩
    simp only [Act.put, List.setIfInBounds_toArray, List.set_cons_succ, List.set_cons_zero]
    apply wpK_val
    · rfl
    · intro w' hw'
      go_simp
      first | exact rfl | exact ⟨rfl, hw'⟩
    simp only [Act.put, List.setIfInBounds_toArray, List.set_cons_succ, List.set_cons_zero]
    apply wpK_val
    · rfl
    · intro w' hw'
      have h1 : _ := TL2.out
      go_simp
      first | exact rfl | exact ⟨rfl, hw'⟩
    simp only [Act.put, List.setIfInBounds_toArray, List.set_cons_succ, List.set_cons_zero]
    apply wpK_val
    · rfl
    · intro w' hw'
      have hcell := (hw'.cell ((qb.out.cell hg).trans (HR.out _ (HN.out 2))))
      go_simp
      first | exact rfl | exact ⟨rfl, hw'⟩
    simp only [Act.put, List.setIfInBounds_toArray, List.set_cons_succ, List.set_cons_zero]
    apply wpK_val
    · rfl
    · intro w' hw'
      go_simp
      first | exact rfl | exact ⟨rfl, hw'⟩
    simp only [Act.put, List.setIfInBounds_toArray, List.set_cons_succ, List.set_cons_zero]
    apply wpK_val
    · rfl
    · intro w' hw'
      go_simp
      first | exact rfl | exact ⟨rfl, hw'⟩
    simp only [Act.put, List.setIfInBounds_toArray, List.set_cons_succ, List.set_cons_zero]
    apply wpK_val
    · rfl
    · intro w' hw'
      have hcell := hw'.cell N3.out
      go_simp
      first | exact rfl | exact ⟨rfl, hw'⟩
    simp only [Act.put, List.setIfInBounds_toArray, List.set_cons_succ, List.set_cons_zero]
    apply wpK_val
    · rfl
    · intro w' hw'
      go_simp
      first | exact rfl | exact ⟨rfl, hw'⟩
    simp only [Act.put, List.setIfInBounds_toArray, List.set_cons_succ, List.set_cons_zero]
    apply wpK_val
    · rfl
    · intro w' hw'
      have h1 : _ := TL3.out
      go_simp
      first | exact rfl | exact ⟨rfl, hw'⟩
    simp only [Act.put, List.setIfInBounds_toArray, List.set_cons_succ, List.set_cons_zero]
    apply wpK_val
    · rfl
    · intro w' hw'
      have hcell := (hw'.cell ((qb.out.cell hg).trans (HR.out _ (HN.out 3))))
      go_simp
      first | exact rfl | exact ⟨rfl, hw'⟩
    simp only [Act.put, List.setIfInBounds_toArray, List.set_cons_succ, List.set_cons_zero]
    apply wpK_val
    · rfl
    · intro w' hw'
      go_simp
      first | exact rfl | exact ⟨rfl, hw'⟩
    simp only [Act.put, List.setIfInBounds_toArray, List.set_cons_succ, List.set_cons_zero]
    apply wpK_val
    · rfl
    · intro w' hw'
      go_simp
      first | exact rfl | exact ⟨rfl, hw'⟩
    simp only [Act.put, List.setIfInBounds_toArray, List.set_cons_succ, List.set_cons_zero]
    apply wpK_val
    · rfl
    · intro w' hw'
      have hcell := hw'.cell N0.out
      go_simp
      first | exact rfl | exact ⟨rfl, hw'⟩
    simp only [Act.put, List.setIfInBounds_toArray, List.set_cons_succ, List.set_cons_zero]
    apply wpK_val
    · rfl
    · intro w' hw'
      go_simp
      first | exact rfl | exact ⟨rfl, hw'⟩
    simp only [Act.put, List.setIfInBounds_toArray, List.set_cons_succ, List.set_cons_zero]
    apply wpK_val
    · rfl
    · intro w' hw'
      have h1 : _ := TL0.out
      go_simp
      first | exact rfl | exact ⟨rfl, hw'⟩
    simp only [Act.put, List.setIfInBounds_toArray, List.set_cons_succ, List.set_cons_zero]
    apply wpK_val
    · rfl
    · intro w' hw'
      have hcell := (hw'.cell ((qb.out.cell hg).trans (HR.out _ (HN.out 0))))
      go_simp
      first | exact rfl | exact ⟨rfl, hw'⟩
    simp only [Act.put, List.setIfInBounds_toArray, List.set_cons_succ, List.set_cons_zero]
    apply kb4
    · rfl
    · rfl
    · rfl
    · rfl
    · rfl
    simp only [Act.put, List.setIfInBounds_toArray, List.set_cons_succ, List.set_cons_zero]
    refine wpK_nil fun w5 hw5 => ?_
    have r1 := hid (hw5.blk q1.out)
    have r3 := hid (hw5.blk q3.out)
    have r4 := hw5.blk q4.out
    have rb := hid (hw5.below qb.out)
    clear q1 q2 q3 q4 qb hw5 N0 N1 N2 N3 TL0 TL1 TL2 TL3
    go_upto_region 5 with ((with_reducible apply stA tWd); rfl; rfl; exact r4)
    generalize hw6 : World.setRow _ _ _ = w6
    have s1 := hid (show Blk w6 w.heap.size 93 (ar 4 far) by rw [← hw6]; exact r1.out.setRow_other (by omega) _)
    have s3 := hid (show Blk w6 (w.heap.size + 2) 93 (ar 4 fun _ => 0) by rw [← hw6]; exact r3.out.setRow_other (by omega) _)
    have s4 := hid (show Blk w6 (w.heap.size + 3) 93 (ar 4 (sel4 (T (near 1)) (T (near 2)) (T (near 3)) (T (near 0)))) by rw [← hw6]; exact r4.setRow_same _)
    have sb := hid (show Below w.heap.size w w6 by rw [← hw6]; exact below_setRow rb.out (by omega) _)
    clear hw6 r1 r3 r4 rb
    obtain ⟨m, hm⟩ : ∃ m, m = n / 8 := ⟨_, rfl⟩
    obtain ⟨e, he⟩ : ∃ e, e = m - 1 := ⟨_, rfl⟩
    have he7 : e < 7 := by omega
    have e0 : (0 : Int) ≤ (e : Int) := by omega
    have E1 := hid (show (n : Int).tdiv 8 = (m : Int) by rw [hm]; rfl)
    have E2 := hid (show IntKind.i64.wrap ((m : Int) - 1) = (e : Int) from wr_nat (by omega) (by omega))
    have E3 := hid (show IntKind.i64.wrap (m : Int) = (m : Int) from wr_nat rfl (by omega))
    have HE := hid (show e = n / 8 - 1 by rw [he, hm])
    have C4 := hid ((s4.out.cell 0).trans (get_ar (n := 4) (by omega)))
    have hT1 : T (near 1) < 256 := HT.out _
    have hp2 : 2 ^ e < 256 := Nat.lt_of_le_of_lt (Nat.pow_le_pow_right (by omega) (show e ≤ 6 by omega)) (by decide)
    have X := hid (show bits .xor .u8 ((sel4 (T (near 1)) (T (near 2)) (T (near 3)) (T (near 0)) 0 : Nat) : Int) ((2 : Int) ^ e % 256) = ((T (near 1) ^^^ 2 ^ e : Nat) : Int) by rw [pow_mod e he7]; exact u8_xor_nat _ _ hT1 hp2)
    clear hm he hT1
    refine wp_region_tail (C := Drew w6) 8 (by kernel_rfl) (by kernel_rfl) (by kernel_rfl) (Drew.refl _) ?_
    simp only [List.take_succ_cons, List.take_zero, List.drop_succ_cons, List.drop_zero]
    apply wpK_val
    · rfl
    · intro w' hw'
      go_simp
      first | exact rfl | exact ⟨rfl, hw'⟩
    simp only [Act.put, List.setIfInBounds_toArray, List.set_cons_succ, List.set_cons_zero]
    apply wpK_val
    · rfl
    · intro w' hw'
      have hcell := hw'.cell C4.out
      go_simp
      first | exact rfl | exact ⟨rfl, hw'⟩
    simp only [Act.put, List.setIfInBounds_toArray, List.set_cons_succ, List.set_cons_zero]
    apply wpK_val
    · rfl
    · intro w' hw'
      go_simp
      first | exact rfl | exact ⟨rfl, hw'⟩
    simp only [Act.put, List.setIfInBounds_toArray, List.set_cons_succ, List.set_cons_zero]
    apply wpK_val
    · rfl
    · intro w' hw'
      have h1 : _ := E1.out
      have h2 : _ := E3.out
      go_simp
      first | exact rfl | exact ⟨rfl, hw'⟩
    simp only [Act.put, List.setIfInBounds_toArray, List.set_cons_succ, List.set_cons_zero]
    apply wpK_val
    · rfl
    · intro w' hw'
      have h1 : _ := E2.out
      go_simp
      first | exact rfl | exact ⟨rfl, hw'⟩
    simp only [Act.put, List.setIfInBounds_toArray, List.set_cons_succ, List.set_cons_zero]
    apply wpK_val
    · rfl
    · intro w' hw'
      go_simp
      first | exact rfl | exact ⟨rfl, hw'⟩
    simp only [Act.put, List.setIfInBounds_toArray, List.set_cons_succ, List.set_cons_zero]
    apply wpK_val
    · rfl
    · intro w' hw'
      have h1 : _ := X.out
      go_simp
      first | exact rfl | exact ⟨rfl, hw'⟩
    simp only [Act.put, List.setIfInBounds_toArray, List.set_cons_succ, List.set_cons_zero]
    apply wpK_val
    · rfl
    · intro w' hw'
      go_simp
      first | exact rfl | exact ⟨rfl, hw'⟩
    simp only [Act.put, List.setIfInBounds_toArray, List.set_cons_succ, List.set_cons_zero]
    refine wpK_nil fun w5 hw5 => ?_
    have r1 := hid (hw5.blk s1.out)
    have r3 := hid (hw5.blk s3.out)
    have r4 := hid (hw5.blk s4.out)
    have rb := hid (hw5.below sb.out)
    have c4 := (r4.out.cell 0).trans (get_ar (n := 4) (by omega))
    have f4 := r4.out.frozen 0
    clear s1 s3 s4 sb hw5 E1 E2 E3 hp2 C4
    obtain ⟨t, ht⟩ : ∃ t : Nat → Nat, t = fun j => if j = 0 then T (near 1) ^^^ 2 ^ e else sel4 (T (near 1)) (T (near 2)) (T (near 3)) (T (near 0)) j := ⟨_, rfl⟩
    have HTE := hid (show ∀ i, i < 4 → t i = AesM.subW T near n i from fun i hi => by
      rw [ht]
      unfold AesM.subW
      rw [if_pos c0, ← HE.out]
      match i, hi with
      | 0, _ => rfl
      | 1, _ | 2, _ | 3, _ => exact (Nat.xor_zero _).symm)
    have HTB := hid (show Bt t from fun i => by
      have hp : 2 ^ e < 256 := Nat.lt_of_le_of_lt (Nat.pow_le_pow_right (by omega) (show e ≤ 6 by omega)) (by decide)
      rw [ht]
      show (if i = 0 then _ else sel4 _ _ _ _ i) < 256
      split
      · exact AesM.xor_lt (HT.out (near 1)) hp
      · exact sel4_lt (HT.out _) (HT.out _) (HT.out _) (HT.out _) i)
    have r4' : Blk (w5.setCell ⟨w.heap.size + 3, 0, none⟩ (.int .u8 (T (near 1) ^^^ 2 ^ e : Nat))) (w.heap.size + 3) 93 (ar 4 t) := by
      have h := r4.out.setCell_same 0 (.int .u8 (T (near 1) ^^^ 2 ^ e : Nat))
      rw [ar_set, ← ht] at h
      exact h
    have R4 := hid r4'
    clear ht r4 r4'
    have x1 := X.out
    clear X
    go_wp2_with fail
    rw [x1]
    clear x1
    generalize hw7 : World.setCell _ _ _ = w7
    have s1 := hid (show Blk w7 w.heap.size 93 (ar 4 far) by rw [← hw7]; exact r1.out.setCell_other (by simp) _)
    have s3 := hid (show Blk w7 (w.heap.size + 2) 93 (ar 4 fun _ => 0) by rw [← hw7]; exact r3.out.setCell_other (by simp) _)
    have s4 := hid (show Blk w7 (w.heap.size + 3) 93 (ar 4 t) by rw [← hw7]; exact R4.out)
    have sb := hid (show Below w.heap.size w w7 by rw [← hw7]; exact rb.out.setCell (by simp) _)
    clear hw7 r1 r3 R4 rb c4 f4
    go_loopw [76] (fun i wr => ∃ k : Nat, k ≤ 4 ∧ i = .int .i64 k ∧ Hid (Blk wr w.heap.size 93 (ar 4 far)) ∧ Hid (Blk wr (w.heap.size + 2) 93 (ar 4 fun _ => 0)) ∧ Hid (Blk wr (w.heap.size + 3) 93 (ar 4 (upTo k t fun j => t j ^^^ far j))) ∧ Hid (Below w.heap.size w wr)) (fun i _ => 4 - (intOf i).toNat)
    case atStart => exact ⟨0, by omega, rfl, s1, s3, by rw [upTo_zero]; exact s4, sb⟩
    case round =>
      clear s1 s3 s4 sb
      obtain ⟨k, hk, rfl, s1, s3, s4, sb⟩ := hrel
      by_cases hlt : k < 4
      · have tk : (k : Int) < 4 := by omega
        have c4 := (s4.out.cell k).trans (get_ar hlt)
        rw [upTo_at] at c4
        have c1 := (s1.out.cell k).trans (get_ar hlt)
        have f4 := s4.out.frozen k
        go_wp2_with fail
        go_still_tail 8, (by kernel_rfl)
        change wpList _ _ _ _ _ wr.drew
        rw [u8_xor_nat _ _ (HTB.out k) (HF.out k)]
        go_wp2_with fail
        go_roundw
        case rel => exact ⟨k + 1, by omega, by go_num, hid (s1.out.setCell_other (by simp) _).drew, hid (s3.out.setCell_other (by simp) _).drew, hid (upTo_step (s4.out.setCell_same k _).drew), hid (sb.out.setCell (by simp) _).drew⟩
        case measure => simp [intOf]; omega
      · have tk : decide ((k : Int) < 4) = false := by simp; omega
        have s4' := s4.out
        rw [upTo_all (by omega), ar_ext (g := AesM.nxt T far near n) fun j hj => by rw [HTE.out j hj]; rfl] at s4'
        have b3 := s3.out
        go_wp2_with (first | ((with_reducible apply ldA tWd); rfl; exact s4') | ((with_reducible apply stA tWd); rfl; rfl; exact b3))
        apply ret_ar tWd Try.results46
        · rfl
        · rfl
        · exact b3.setRow_same _
        exact ⟨rfl, below_setRow sb.out (by omega) _⟩
  · have t0 : decide ((n : Int).tmod 8 = 0) = false := by rw [Int.tmod_eq_emod_of_nonneg (by omega)]; simp; omega
    have t1 : ((n : Int) % 8 == 0) = false := by rw [beq_eq_false_iff_ne]; omega
    by_cases c4 : n % 8 = 4
    · have t2 : ((n : Int) % 8 == 4) = true := by rw [beq_iff_eq]; omega
      have N0 := hid ((q2.out.cell 0).trans (get_ar (n := 4) (by omega)))
      have N1 := hid ((q2.out.cell 1).trans (get_ar (n := 4) (by omega)))
      have N2 := hid ((q2.out.cell 2).trans (get_ar (n := 4) (by omega)))
      have N3 := hid ((q2.out.cell 3).trans (get_ar (n := 4) (by omega)))
      have TL0 := hid (show ((near 0 : Nat) : Int) < 256 by have := HN.out 0; omega)
      have TL1 := hid (show ((near 1 : Nat) : Int) < 256 by have := HN.out 1; omega)
      have TL2 := hid (show ((near 2 : Nat) : Int) < 256 by have := HN.out 2; omega)
      have TL3 := hid (show ((near 3 : Nat) : Int) < 256 by have := HN.out 3; omega)
      go_wp2_with fail
      refine wp_region_tail (C := Drew w3) 25 (by kernel_rfl) (by kernel_rfl) (by kernel_rfl) (Drew.refl _) ?_
      simp only [List.take_succ_cons, List.take_zero, List.drop_succ_cons, List.drop_zero]
      apply wpK_val
      · rfl
      · intro w' hw'
        go_simp
        first | exact rfl | exact ⟨rfl, hw'⟩
      simp only [Act.put, List.setIfInBounds_toArray, List.set_cons_succ, List.set_cons_zero]
      apply wpK_val
      · rfl
      · intro w' hw'
        go_simp
        first | exact rfl | exact ⟨rfl, hw'⟩
      simp only [Act.put, List.setIfInBounds_toArray, List.set_cons_succ, List.set_cons_zero]
      apply wpK_val
      · rfl
      · intro w' hw'
        have hcell := hw'.cell N0.out
        go_simp
        first | exact rfl | exact ⟨rfl, hw'⟩
      simp only [Act.put, List.setIfInBounds_toArray, List.set_cons_succ, List.set_cons_zero]
      apply wpK_val
      · rfl
      · intro w' hw'
        go_simp
        first | exact rfl | exact ⟨rfl, hw'⟩
      simp only [Act.put, List.setIfInBounds_toArray, List.set_cons_succ, List.set_cons_zero]
      apply wpK_val
      · rfl
      · intro w' hw'
        have h1 : _ := TL0.out
        go_simp
        first | exact rfl | exact ⟨rfl, hw'⟩
      simp only [Act.put, List.setIfInBounds_toArray, List.set_cons_succ, List.set_cons_zero]
      apply wpK_val
      · rfl
      · intro w' hw'
        have hcell := (hw'.cell ((qb.out.cell hg).trans (HR.out _ (HN.out 0))))
        go_simp
        first | exact rfl | exact ⟨rfl, hw'⟩
      simp only [Act.put, List.setIfInBounds_toArray, List.set_cons_succ, List.set_cons_zero]
      apply wpK_val
      · rfl
      · intro w' hw'
        go_simp
        first | exact rfl | exact ⟨rfl, hw'⟩
      simp only [Act.put, List.setIfInBounds_toArray, List.set_cons_succ, List.set_cons_zero]
      apply wpK_val
      · rfl
      · intro w' hw'
        go_simp
        first | exact rfl | exact ⟨rfl, hw'⟩
      simp only [Act.put, List.setIfInBounds_toArray, List.set_cons_succ, List.set_cons_zero]
      apply wpK_val
      · rfl
      · intro w' hw'
        have hcell := hw'.cell N1.out
        go_simp
        first | exact rfl | exact ⟨rfl, hw'⟩
      simp only [Act.put, List.setIfInBounds_toArray, List.set_cons_succ, List.set_cons_zero]
      apply wpK_val
      · rfl
      · intro w' hw'
        go_simp
        first | exact rfl | exact ⟨rfl, hw'⟩
      simp only [Act.put, List.setIfInBounds_toArray, List.set_cons_succ, List.set_cons_zero]
      apply wpK_val
      · rfl
      · intro w' hw'
        have h1 : _ := TL1.out
        go_simp
        first | exact rfl | exact ⟨rfl, hw'⟩
      simp only [Act.put, List.setIfInBounds_toArray, List.set_cons_succ, List.set_cons_zero]
      apply wpK_val
      · rfl
      · intro w' hw'
        have hcell := (hw'.cell ((qb.out.cell hg).trans (HR.out _ (HN.out 1))))
        go_simp
        first | exact rfl | exact ⟨rfl, hw'⟩
      simp only [Act.put, List.setIfInBounds_toArray, List.set_cons_succ, List.set_cons_zero]
      apply wpK_val
      · rfl
      · intro w' hw'
        go_simp
        first | exact rfl | exact ⟨rfl, hw'⟩
      simp only [Act.put, List.setIfInBounds_toArray, List.set_cons_succ, List.set_cons_zero]
      apply wpK_val
      · rfl
      · intro w' hw'
        go_simp
        first | exact rfl | exact ⟨rfl, hw'⟩
      simp only [Act.put, List.setIfInBounds_toArray, List.set_cons_succ, List.set_cons_zero]
      apply wpK_val
      · rfl
      · intro w' hw'
        have hcell := hw'.cell N2.out
        go_simp
        first | exact rfl | exact ⟨rfl, hw'⟩
      simp only [Act.put, List.setIfInBounds_toArray, List.set_cons_succ, List.set_cons_zero]
      apply wpK_val
      · rfl
      · intro w' hw'
        go_simp
        first | exact rfl | exact ⟨rfl, hw'⟩
      simp only [Act.put, List.setIfInBounds_toArray, List.set_cons_succ, List.set_cons_zero]
      apply wpK_val
      · rfl
      · intro w' hw'
        have h1 : _ := TL2.out
        go_simp
        first | exact rfl | exact ⟨rfl, hw'⟩
      simp only [Act.put, List.setIfInBounds_toArray, List.set_cons_succ, List.set_cons_zero]
      apply wpK_val
      · rfl
      · intro w' hw'
        have hcell := (hw'.cell ((qb.out.cell hg).trans (HR.out _ (HN.out 2))))
        go_simp
        first | exact rfl | exact ⟨rfl, hw'⟩
      simp only [Act.put, List.setIfInBounds_toArray, List.set_cons_succ, List.set_cons_zero]
      apply wpK_val
      · rfl
      · intro w' hw'
        go_simp
        first | exact rfl | exact ⟨rfl, hw'⟩
      simp only [Act.put, List.setIfInBounds_toArray, List.set_cons_succ, List.set_cons_zero]
      apply wpK_val
      · rfl
      · intro w' hw'
        go_simp
        first | exact rfl | exact ⟨rfl, hw'⟩
      simp only [Act.put, List.setIfInBounds_toArray, List.set_cons_succ, List.set_cons_zero]
      apply wpK_val
      · rfl
      · intro w' hw'
        have hcell := hw'.cell N3.out
        go_simp
        first | exact rfl | exact ⟨rfl, hw'⟩
      simp only [Act.put, List.setIfInBounds_toArray, List.set_cons_succ, List.set_cons_zero]
      apply wpK_val
      · rfl
      · intro w' hw'
        go_simp
        first | exact rfl | exact ⟨rfl, hw'⟩
      simp only [Act.put, List.setIfInBounds_toArray, List.set_cons_succ, List.set_cons_zero]
      apply wpK_val
      · rfl
      · intro w' hw'
        have h1 : _ := TL3.out
        go_simp
        first | exact rfl | exact ⟨rfl, hw'⟩
      simp only [Act.put, List.setIfInBounds_toArray, List.set_cons_succ, List.set_cons_zero]
      apply wpK_val
      · rfl
      · intro w' hw'
        have hcell := (hw'.cell ((qb.out.cell hg).trans (HR.out _ (HN.out 3))))
        go_simp
        first | exact rfl | exact ⟨rfl, hw'⟩
      simp only [Act.put, List.setIfInBounds_toArray, List.set_cons_succ, List.set_cons_zero]
      apply kb4
      · rfl
      · rfl
      · rfl
      · rfl
      · rfl
      simp only [Act.put, List.setIfInBounds_toArray, List.set_cons_succ, List.set_cons_zero]
      refine wpK_nil fun w5 hw5 => ?_
      have r1 := hid (hw5.blk q1.out)
      have r3 := hid (hw5.blk q3.out)
      have r4 := hw5.blk q4.out
      have rb := hid (hw5.below qb.out)
      clear q1 q2 q3 q4 qb hw5 N0 N1 N2 N3 TL0 TL1 TL2 TL3
      obtain ⟨t, ht⟩ : ∃ t : Nat → Nat, t = sel4 (T (near 0)) (T (near 1)) (T (near 2)) (T (near 3)) := ⟨_, rfl⟩
      have HTE := hid (show ∀ i, i < 4 → t i = AesM.subW T near n i from fun i hi => by
        rw [ht]
        unfold AesM.subW
        rw [if_neg c0, if_pos c4]
        match i, hi with
        | 0, _ | 1, _ | 2, _ | 3, _ => rfl)
      have HTB := hid (show Bt t from fun i => by
        rw [ht]
        exact sel4_lt (HT.out _) (HT.out _) (HT.out _) (HT.out _) i)
      rw [← ht]
      clear ht
      go_wp2_with ((with_reducible apply stA tWd); rfl; rfl; exact r4)
      generalize hw7 : World.setRow _ _ _ = w7
      have s1 := hid (show Blk w7 w.heap.size 93 (ar 4 far) by rw [← hw7]; exact r1.out.setRow_other (by omega) _)
      have s3 := hid (show Blk w7 (w.heap.size + 2) 93 (ar 4 fun _ => 0) by rw [← hw7]; exact r3.out.setRow_other (by omega) _)
      have s4 := hid (show Blk w7 (w.heap.size + 3) 93 (ar 4 t) by rw [← hw7]; exact r4.setRow_same _)
      have sb := hid (show Below w.heap.size w w7 by rw [← hw7]; exact below_setRow rb.out (by omega) _)
      clear hw7 r1 r3 r4 rb
      go_loopw [76] (fun i wr => ∃ k : Nat, k ≤ 4 ∧ i = .int .i64 k ∧ Hid (Blk wr w.heap.size 93 (ar 4 far)) ∧ Hid (Blk wr (w.heap.size + 2) 93 (ar 4 fun _ => 0)) ∧ Hid (Blk wr (w.heap.size + 3) 93 (ar 4 (upTo k t fun j => t j ^^^ far j))) ∧ Hid (Below w.heap.size w wr)) (fun i _ => 4 - (intOf i).toNat)
      case atStart => exact ⟨0, by omega, rfl, s1, s3, by rw [upTo_zero]; exact s4, sb⟩
      case round =>
        clear s1 s3 s4 sb
        obtain ⟨k, hk, rfl, s1, s3, s4, sb⟩ := hrel
        by_cases hlt : k < 4
        · have tk : (k : Int) < 4 := by omega
          have c4 := (s4.out.cell k).trans (get_ar hlt)
          rw [upTo_at] at c4
          have c1 := (s1.out.cell k).trans (get_ar hlt)
          have f4 := s4.out.frozen k
          go_wp2_with fail
          go_still_tail 8, (by kernel_rfl)
          change wpList _ _ _ _ _ wr.drew
          rw [u8_xor_nat _ _ (HTB.out k) (HF.out k)]
          go_wp2_with fail
          go_roundw
          case rel => exact ⟨k + 1, by omega, by go_num, hid (s1.out.setCell_other (by simp) _).drew, hid (s3.out.setCell_other (by simp) _).drew, hid (upTo_step (s4.out.setCell_same k _).drew), hid (sb.out.setCell (by simp) _).drew⟩
          case measure => simp [intOf]; omega
        · have tk : decide ((k : Int) < 4) = false := by simp; omega
          have s4' := s4.out
          rw [upTo_all (by omega), ar_ext (g := AesM.nxt T far near n) fun j hj => by rw [HTE.out j hj]; rfl] at s4'
          have b3 := s3.out
          go_wp2_with (first | ((with_reducible apply ldA tWd); rfl; exact s4') | ((with_reducible apply stA tWd); rfl; rfl; exact b3))
          apply ret_ar tWd Try.results46
          · rfl
          · rfl
          · exact b3.setRow_same _
          exact ⟨rfl, below_setRow sb.out (by omega) _⟩
    · have t2 : ((n : Int) % 8 == 4) = false := by rw [beq_eq_false_iff_ne]; omega
      have HTE := hid (show ∀ i, i < 4 → near i = AesM.subW T near n i from fun i hi => by
        unfold AesM.subW
        rw [if_neg c0, if_neg c4])
      have HTB := HN
      have s1 := q1
      have s3 := q3
      have s4 := q4
      have sb := qb
      clear q1 q2 q3 q4 qb
      go_wp2_with fail
      go_loopw [76] (fun i wr => ∃ k : Nat, k ≤ 4 ∧ i = .int .i64 k ∧ Hid (Blk wr w.heap.size 93 (ar 4 far)) ∧ Hid (Blk wr (w.heap.size + 2) 93 (ar 4 fun _ => 0)) ∧ Hid (Blk wr (w.heap.size + 3) 93 (ar 4 (upTo k near fun j => near j ^^^ far j))) ∧ Hid (Below w.heap.size w wr)) (fun i _ => 4 - (intOf i).toNat)
      case atStart => exact ⟨0, by omega, rfl, s1, s3, by rw [upTo_zero]; exact s4, sb⟩
      case round =>
        clear s1 s3 s4 sb
        obtain ⟨k, hk, rfl, s1, s3, s4, sb⟩ := hrel
        by_cases hlt : k < 4
        · have tk : (k : Int) < 4 := by omega
          have c4 := (s4.out.cell k).trans (get_ar hlt)
          rw [upTo_at] at c4
          have c1 := (s1.out.cell k).trans (get_ar hlt)
          have f4 := s4.out.frozen k
          go_wp2_with fail
          go_still_tail 8, (by kernel_rfl)
          change wpList _ _ _ _ _ wr.drew
          rw [u8_xor_nat _ _ (HTB.out k) (HF.out k)]
          go_wp2_with fail
          go_roundw
          case rel => exact ⟨k + 1, by omega, by go_num, hid (s1.out.setCell_other (by simp) _).drew, hid (s3.out.setCell_other (by simp) _).drew, hid (upTo_step (s4.out.setCell_same k _).drew), hid (sb.out.setCell (by simp) _).drew⟩
          case measure => simp [intOf]; omega
        · have tk : decide ((k : Int) < 4) = false := by simp; omega
          have s4' := s4.out
          rw [upTo_all (by omega), ar_ext (g := AesM.nxt T far near n) fun j hj => by rw [HTE.out j hj]; rfl] at s4'
          have b3 := s3.out
          go_wp2_with (first | ((with_reducible apply ldA tWd); rfl; exact s4') | ((with_reducible apply stA tWd); rfl; rfl; exact b3))
          apply ret_ar tWd Try.results46
          · rfl
          · rfl
          · exact b3.setRow_same _
          exact ⟨rfl, below_setRow sb.out (by omega) _⟩
end AesP
end Go.Proofs.Ytfnepbkgmopjcaa
