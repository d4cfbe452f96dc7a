/-
  The walk of BytesKnown.
-/
import Derived.Test.YtiebaiofpihoiaaByW2
import Derived.Test.YtiebaiofpihoiaaByCut2
namespace Go.Proofs.Ytiebaiofpihoiaa
open Go.ChangeShapes Go.WideShapes Go.ChangeAt Go.RowKit
attribute [local go_sem] Gives
theorem lit_arg {w : World} {C : Array Value} {L : List Nat} {n : Nat} (h : C = (nums .u8 L).toArray) (hn : L.length = n) (h1 : 0 < n) (hs : n ≤ 1000) (h6 : L.all (fun x => decide (x < 256)) = true) : Arg (w.alloc (.cells C 5)) (some ⟨w.heap.size, 0, none⟩) L n n :=
  ⟨hn, Nat.le_refl _, by unfold maxLen; omega, fun x hx => of_decide_eq_true (List.all_eq_true.1 h6 x hx), (fun e => by cases e), byt_lit (heap_alloc_new w _) (by simp) (lit_ok h)⟩
theorem b256_of {L : List Nat} (h6 : L.all (fun x => decide (x < 256)) = true) : B256 L := fun x hx => of_decide_eq_true (List.all_eq_true.1 h6 x hx)
theorem made_nils (n : Nat) : (madeCells (Value.slice none 0 0).cells (n * 1)).toList = List.replicate n (.slice none 0 0) := by
  unfold madeCells
  apply List.ext_getElem?
  intro j
  simp [Value.cells, Nat.mod_one, List.getElem?_replicate]
  by_cases h : j < n
  · rw [List.getElem?_range h, if_pos h]; rfl
  · rw [List.getElem?_eq_none (by simp; omega), if_neg h]; rfl
/-- A made slice of parts that are nil. -/
theorem mkP {ops : Array Oper} {Q : Exit → Act → World → Prop} {a : Act} {w : World} {rest : List Oper} {dst : Option Tmp} {ty : TypeId} {pos : String} {after : Array Edge} {x y : Operand} {n : Nat} (hn : n ≤ 1000)
    (hx : a.eval x = .int .i64 (n : Int)) (hy : a.eval y = .int .i64 (n : Int)) (h : ∀ A w', Rws w' A (List.replicate n []) n n → Below w.heap.size w w' → wpList Try.prog ops Q rest (a.put dst (.slice A n n)) w') :
    wpList Try.prog ops Q (⟨dst, .makeSlice 36 x y, ty, pos, after, none⟩ :: rest) a w := by
  obtain ⟨i, hi, hz, h1, h2⟩ := infP
  obtain ⟨w', hr, ho, hg⟩ := run_makeSlice_full (P := Try.prog) w w.heap.size 36 22 i (.slice none 0 0) 1 Try.underlying36 hi hz h1 .i64 .i64 n (by omega) (Nat.le_trans (Nat.mul_le_mul h2 hn) (by omega)) (by unfold maxLen; omega) (Nat.le_refl _)
  refine wpList_plain rfl fun K hK => ?_
  unfold Oper.wp execOp
  simp only [Sem.run_bind, hx, hy, hr, Result.andThen_ok]
  refine hK _ _ (h _ w' ?_ (below_none (Below.refl _ _) hg (Nat.le_refl _)))
  rw [made_nils] at ho
  have hP : PCell w' (List.replicate n []) (List.replicate n (.slice none 0 0)) := fun j hj => by
    rw [List.length_replicate] at hj
    have e : (List.replicate n ([] : List Nat)).getD j [] = [] := by rw [List.getD_eq_getElem?_getD, List.getElem?_replicate, if_pos hj]; rfl
    rw [e]
    exact ⟨none, 0, by rw [List.getElem?_replicate, if_pos hj]; rfl, Nat.le_refl _, Nat.zero_le _, Byt.none rfl, fun _ => ⟨rfl, rfl⟩⟩
  have hO : OwnP w' w.heap.size (.slice (some ⟨w.heap.size, 0, none⟩) n n) (List.replicate n (.slice none 0 0)) := by
    unfold OwnP
    rw [List.length_replicate]
    exact ho
  obtain ⟨A, c, e, hR⟩ := hO.rwsP hP (by simp) (Below.refl _ _) (fun l hl => by rw [(List.mem_replicate.1 hl).2]; exact fun x hx => by cases hx)
  simp only [Value.slice.injEq, List.length_replicate, true_and] at e
  obtain ⟨rfl, rfl⟩ := e
  rw [List.length_replicate] at hR
  exact hR
theorem own_lit {w : World} {B n : Nat} {v : Value} {L : List Nat} (o : Own 5 .u8 w B v L) (h6 : L.all (fun x => decide (x < 256)) = true) (hn : L.length = n) : ∃ A c, v = .slice A n c ∧ Arg w A L n c := by
  subst hn
  exact o.arg (b256_of h6)
theorem k_num (w : World) : Calls Try.prog 11 #[.slice none 0 0, .int .i64 2, .int .u64 258] w fun e w' => ∃ A c, e = .returned (.tuple #[.slice A 2 c, .int .i64 0]) ∧ Arg w' A [1, 2] 2 c ∧ Below w.heap.size w w' :=
  (pnum_any none [] 0 0 (by omega) 2 258 (by decide) w Arg.nil).mono fun e w' ⟨v, h1, o, b⟩ => by
    obtain ⟨A, c, rfl, a⟩ := own_lit (L := [1, 2]) (n := 2) o rfl rfl
    exact ⟨A, c, h1, a, b⟩
theorem k_text (w : World) (A : Option Addr) (h : Arg w A [7] 1 1) : Calls Try.prog 13 #[.slice A 1 1, .string ⟨#[97, 98]⟩] w fun e w' => ∃ A c, e = .returned (.tuple #[.slice A 5 c, .int .i64 0]) ∧ Arg w' A [7, 0, 2, 97, 98] 5 c ∧ Below w.heap.size w w' :=
  (ptext_any A [7] 1 1 (by omega) ⟨#[97, 98]⟩ (by decide) w h).mono fun e w' ⟨v, h1, o, b⟩ => by
    obtain ⟨A, c, rfl, a⟩ := own_lit (L := [7, 0, 2, 97, 98]) (n := 5) o rfl rfl
    exact ⟨A, c, h1, a, b⟩
theorem k_row (w : World) : Calls Try.prog 16 #[.int .u8 76, .slice none 0 0] w fun e w' => ∃ A c, e = .returned (.tuple #[.slice A 2 c, .int .i64 0]) ∧ Arg w' A [76, 0] 2 c ∧ Below w.heap.size w w' :=
  (prow_any 76 (by omega) none [] 0 0 (by omega) (by decide) w Rws.nil).mono fun e w' ⟨v, h1, o, b⟩ => by
    obtain ⟨A, c, rfl, a⟩ := own_lit (L := [76, 0]) (n := 2) o rfl rfl
    exact ⟨A, c, h1, a, b⟩
theorem k_row16 (w : World) (A : Option Addr) (h : Rws w A (List.replicate 16 []) 16 16) : Calls Try.prog 16 #[.int .u8 76, .slice A 16 16] w fun e w' => ∃ v, e = .returned (.tuple #[v, .int .i64 0]) ∧ Below w.heap.size w w' :=
  (prow_any 76 (by omega) A (List.replicate 16 []) 16 16 (by omega) (by decide) w h).mono fun e w' ⟨v, h1, _, b⟩ => ⟨v, h1, b⟩
theorem k_parts (w : World) (A : Option Addr) (h : Arg w A [76, 0] 2 2) : Calls Try.prog 18 #[.slice A 2 2] w fun e w' => ∃ Ap cp, e = .returned (.tuple #[.int .u8 76, .slice Ap 0 cp, .int .i64 0]) ∧ Below w.heap.size w w' :=
  (pparts_some A [76, 0] 2 2 (by omega) (d := 76) (ps := []) rfl w h).mono fun e w' ⟨Ap, cp, h1, _, b⟩ => ⟨Ap, cp, h1, b⟩
theorem k_txt1 {g lo : Nat} (w : World) (h : Tap w g lo (some [0, 2, 97, 98, 99])) : Calls Try.prog 26 #[.pointer (some ⟨g, 0, none⟩), .int .i64 1] w fun e w' => e = .returned (.string ⟨#[]⟩) ∧ Tap w' g lo none ∧ w.grownBy w' (some g) := ttext_any w h 1
theorem k_txt2 {g lo : Nat} (w : World) (h : Tap w g lo (some [0, 2, 97, 98, 99])) : Calls Try.prog 26 #[.pointer (some ⟨g, 0, none⟩), .int .i64 2] w fun e w' => e = .returned (.string ⟨#[97, 98]⟩) ∧ Tap w' g lo (some [99]) ∧ w.grownBy w' (some g) := ttext_any w h 2
theorem k_txt0 {g lo : Nat} (m : Int) (hm : BytM.txtL none m = []) (w : World) (h : Tap w g lo none) : Calls Try.prog 26 #[.pointer (some ⟨g, 0, none⟩), .int .i64 m] w fun e w' => e = .returned (.string ⟨#[]⟩) ∧ Tap w' g lo none ∧ w.grownBy w' (some g) := by
  have := ttext_any w h m
  rw [hm, BytM.txt_none] at this
  exact this
theorem k_byt1 {g lo : Nat} (w : World) (h : Tap w g lo (some [99])) : Calls Try.prog 24 #[.pointer (some ⟨g, 0, none⟩), .int .i64 1] w fun e w' => ∃ A c, e = .returned (.slice A 1 c) ∧ Arg w' A [99] 1 c ∧ Tap w' g lo (some []) ∧ w.grownBy w' (some g) :=
  (tbytes_any w h (fun l e => by cases e; decide) 1).mono fun e w' ⟨v, h1, o, t, b⟩ => by
    obtain ⟨A, c, rfl, a⟩ := own_lit (L := [99]) (n := 1) o rfl rfl
    exact ⟨A, c, h1, a, t, b⟩
theorem k_byt0 {g lo : Nat} (w : World) (h : Tap w g lo none) : Calls Try.prog 24 #[.pointer (some ⟨g, 0, none⟩), .int .i64 0] w fun e w' => ∃ A c, e = .returned (.slice A 0 c) ∧ Tap w' g lo none ∧ w.grownBy w' (some g) :=
  (tbytes_any w h (fun l e => by cases e) 0).mono fun e w' ⟨v, h1, o, t, b⟩ => by
    obtain ⟨A, c, rfl, _⟩ := own_lit (L := []) (n := 0) o rfl rfl
    exact ⟨A, c, h1, t, b⟩
set_option maxHeartbeats 4000000 in
set_option maxRecDepth 100000 in
theorem known_law (w : World) : Calls Try.prog 9 #[] w fun e w' => e = .returned (.bool true) ∧ Below w.heap.size w w' := by
  go_enter Try.func9, Try.ntmps9
  go_wp2_with fail
  refine (k_num w).mono ?_
  rintro e w1 ⟨A1, c1, rfl, a1, b1⟩
  have S1 := hid a1
  have B1 := hid b1
  clear a1 b1
  go_wp2_with fail
  refine (pnum_bad _ 1 256 (by decide) w1).mono ?_
  rintro e w' ⟨rfl, rfl⟩
  go_wp2_with fail
  refine (pnum_bad _ 3 1 (by decide) w1).mono ?_
  rintro e w' ⟨rfl, rfl⟩
  go_wp2_with fail
  refine (k_text _ _ (lit_arg rfl rfl (by omega) (by omega) rfl)).mono ?_
  rintro e w2 ⟨A2, c2, rfl, a2, b2⟩
  have S2 := hid a2
  clear a2
  have bb2 := (((Below.refl w1.heap.size w1).alloc (Nat.le_refl _) _).trans (b2.mono (by simp)))
  have B2 := hid (B1.out.trans (bb2.mono B1.out.size))
  have S1_2 := hid (S1.out.on bb2)
  clear S1
  have S1 := S1_2
  clear S1_2
  clear bb2 b2 B1
  go_wp2_with fail
  refine (k_row w2).mono ?_
  rintro e w3 ⟨A3, c3, rfl, a3, b3⟩
  have S3 := hid a3
  clear a3
  have bb3 := b3
  have B3 := hid (B2.out.trans (bb3.mono B2.out.size))
  have S1_3 := hid (S1.out.on bb3)
  clear S1
  have S1 := S1_3
  clear S1_3
  have S2_3 := hid (S2.out.on bb3)
  clear S2
  have S2 := S2_3
  clear S2_3
  clear bb3 b3 B2
  go_wp2_with fail
  refine (k_parts _ _ (lit_arg rfl rfl (by omega) (by omega) rfl)).mono ?_
  rintro e w4 ⟨A4, c4, rfl, b4⟩
  have bb4 := (((Below.refl w3.heap.size w3).alloc (Nat.le_refl _) _).trans (b4.mono (by simp)))
  have B4 := hid (B3.out.trans (bb4.mono B3.out.size))
  have S1_4 := hid (S1.out.on bb4)
  clear S1
  have S1 := S1_4
  clear S1_4
  have S2_4 := hid (S2.out.on bb4)
  clear S2
  have S2 := S2_4
  clear S2_4
  have S3_4 := hid (S3.out.on bb4)
  clear S3
  have S3 := S3_4
  clear S3_4
  clear bb4 b4 B3
  go_wp2_with fail
  refine (pparts_none _ [76] 1 1 (by omega) rfl _ (lit_arg rfl rfl (by omega) (by omega) rfl)).mono ?_
  rintro e w5 ⟨rfl, b5⟩
  have bb5 := (((Below.refl w4.heap.size w4).alloc (Nat.le_refl _) _).trans (b5.mono (by simp)))
  have B5 := hid (B4.out.trans (bb5.mono B4.out.size))
  have S1_5 := hid (S1.out.on bb5)
  clear S1
  have S1 := S1_5
  clear S1_5
  have S2_5 := hid (S2.out.on bb5)
  clear S2
  have S2 := S2_5
  clear S2_5
  have S3_5 := hid (S3.out.on bb5)
  clear S3
  have S3 := S3_5
  clear S3_5
  clear bb5 b5 B4
  go_wp2_with fail
  refine (pparts_none _ [76, 0, 0] 3 3 (by omega) rfl _ (lit_arg rfl rfl (by omega) (by omega) rfl)).mono ?_
  rintro e w6 ⟨rfl, b6⟩
  have bb6 := (((Below.refl w5.heap.size w5).alloc (Nat.le_refl _) _).trans (b6.mono (by simp)))
  have B6 := hid (B5.out.trans (bb6.mono B5.out.size))
  have S1_6 := hid (S1.out.on bb6)
  clear S1
  have S1 := S1_6
  clear S1_6
  have S2_6 := hid (S2.out.on bb6)
  clear S2
  have S2 := S2_6
  clear S2_6
  have S3_6 := hid (S3.out.on bb6)
  clear S3
  have S3 := S3_6
  clear S3_6
  clear bb6 b6 B5
  go_wp2_with fail
  refine (pparts_none _ [76, 1, 0, 0, 0, 2, 97] 7 7 (by omega) rfl _ (lit_arg rfl rfl (by omega) (by omega) rfl)).mono ?_
  rintro e w7 ⟨rfl, b7⟩
  have bb7 := (((Below.refl w6.heap.size w6).alloc (Nat.le_refl _) _).trans (b7.mono (by simp)))
  have B7 := hid (B6.out.trans (bb7.mono B6.out.size))
  have S1_7 := hid (S1.out.on bb7)
  clear S1
  have S1 := S1_7
  clear S1_7
  have S2_7 := hid (S2.out.on bb7)
  clear S2
  have S2 := S2_7
  clear S2_7
  have S3_7 := hid (S3.out.on bb7)
  clear S3
  have S3 := S3_7
  clear S3_7
  clear bb7 b7 B6
  have s1 := S1.out.str
  have s2 := S2.out.str
  have s3 := S3.out.str
  rw [show str [1, 2] = ⟨#[1, 2]⟩ from rfl] at s1
  rw [show str [7, 0, 2, 97, 98] = ⟨#[7, 0, 2, 97, 98]⟩ from rfl] at s2
  rw [show str [76, 0] = ⟨#[76, 0]⟩ from rfl] at s3
  clear S1 S2 S3
  go_upto_region 14 with fail
  clear s1 s2 s3
  go_wp2_with ((with_reducible apply mkP (n := 17)); omega; rfl; rfl; intro A8 w8 r8 b8)
  have B8 := hid (B7.out.trans (b8.mono B7.out.size))
  clear b8 r8 B7
  refine (prow_bad _ A8 17 17 (by omega) w8).mono ?_
  rintro e w' ⟨rfl, rfl⟩
  go_wp2_with ((with_reducible apply mkP (n := 16)); omega; rfl; rfl; intro A9 w9 r9 b9)
  have B9 := hid (B8.out.trans (b9.mono B8.out.size))
  clear b9 B8
  refine (k_row16 w9 A9 r9).mono ?_
  rintro e w10 ⟨v10, rfl, b10⟩
  clear r9
  have bb10 := b10
  have B10 := hid (B9.out.trans (bb10.mono B9.out.size))
  clear bb10 b10 B9
  go_wp2_with fail
  refine (open_any (some ⟨w10.heap.size, 0, none⟩) [0, 2, 97, 98, 99] 5 5 (by omega) _ (lit_arg rfl rfl (by omega) (by omega) rfl)).mono ?_
  rintro e w11 ⟨gt, rfl, t11, b11⟩
  have T11 := hid t11
  clear t11
  have BZ := hid B10.out.size
  have bb11 := (((Below.refl w10.heap.size w10).alloc (Nat.le_refl _) _).trans (b11.mono (by simp)))
  have B11 := hid (B10.out.trans (bb11.mono B10.out.size))
  clear bb11 b11 B10
  have LT := hid (Nat.le_trans (Nat.le_trans BZ.out (Nat.le_succ _)) (by simpa using T11.out.le))
  go_wp2_with fail
  refine (k_txt1 w11 T11.out).mono ?_
  rintro e w12 ⟨rfl, t12, g12⟩
  have T12 := hid t12
  have B12 := hid (below_by B11.out g12 LT.out (Nat.le_refl _))
  clear t12 g12 T11 B11
  go_wp2_with fail
  refine (torn_any w12 T12.out).mono ?_
  rintro e w' ⟨rfl, rfl⟩
  rw [show (!(none : BytM.Tp).isSome) = true from rfl]
  go_wp2_with fail
  refine (k_txt0 2 rfl w12 T12.out).mono ?_
  rintro e w13 ⟨rfl, t13, g13⟩
  have T13 := hid t13
  have B13 := hid (below_by B12.out g13 LT.out (Nat.le_refl _))
  have Z13 := hid B13.out.size
  clear t13 g13 T12 B12
  go_wp2_with fail
  refine (open_any (some ⟨w13.heap.size, 0, none⟩) [0, 2, 97, 98, 99] 5 5 (by omega) _ (lit_arg rfl rfl (by omega) (by omega) rfl)).mono ?_
  rintro e w14 ⟨gu, rfl, t14, b14⟩
  have U14 := hid t14
  have UL := hid (show w13.heap.size + 1 ≤ gu by simpa using t14.le)
  clear t14
  have bb14 := (((Below.refl w13.heap.size w13).alloc (Nat.le_refl _) _).trans (b14.mono (by simp)))
  have T14 := hid (T13.out.below bb14 T13.out.lt)
  have B14 := hid (B13.out.trans (bb14.mono B13.out.size))
  have GTU := hid (Nat.lt_of_lt_of_le T13.out.lt (Nat.le_trans (Nat.le_succ _) UL.out))
  have LU := hid (Nat.le_trans Z13.out (Nat.le_trans (Nat.le_succ _) UL.out))
  clear bb14 b14 T13 B13
  go_wp2_with fail
  refine (k_txt2 w14 U14.out).mono ?_
  rintro e w15 ⟨rfl, t15, g15⟩
  have U15 := hid t15
  have T15 := hid (T14.out.by' g15 (.inr GTU.out))
  have B15 := hid (below_by B14.out g15 LU.out (Nat.le_refl _))
  clear t15 g15 T14 B14 U14
  go_wp2_with fail
  refine (k_byt1 w15 U15.out).mono ?_
  rintro e w16 ⟨A16, c16, rfl, a16, t16, g16⟩
  have U16 := hid t16
  have T16 := hid (T15.out.by' g16 (.inr GTU.out))
  have B16 := hid (below_by B15.out g16 LU.out (Nat.le_refl _))
  have S16 := hid a16
  clear t16 g16 a16 T15 B15 U15
  go_upto_region 25 with fail
  generalize hw17 : World.alloc w16 _ = w17
  have bb17 : Below w16.heap.size w16 w17 := by rw [← hw17]; exact (Below.refl _ _).alloc (Nat.le_refl _) _
  have E17 : Hid (Tap w17 w16.heap.size w16.heap.size none) := hid ⟨Nat.le_refl _, none, 0, 0, by rw [← hw17]; exact Blk.top rfl rfl, rfl, rfl, rfl⟩
  have T17 := hid (T16.out.below bb17 T16.out.lt)
  have U17 := hid (U16.out.below bb17 U16.out.lt)
  have B17 := hid (B16.out.trans (bb17.mono B16.out.size))
  have LE := hid B16.out.size
  have hs := (S16.out.on bb17).str
  rw [show str [99] = ⟨#[99]⟩ from rfl] at hs
  generalize w16.heap.size = ge at *
  clear hw17 bb17 T16 U16 B16 S16 LT UL GTU LU
  go_wp2_with fail
  refine (end_any w17 T17.out).mono ?_
  rintro e w' ⟨rfl, rfl⟩
  rw [show decide ((none : BytM.Tp) = some []) = false from rfl]
  go_wp2_with fail
  refine (end_any w17 U17.out).mono ?_
  rintro e w' ⟨rfl, rfl⟩
  rw [show decide ((some [] : BytM.Tp) = some []) = true from rfl]
  go_wp2_with fail
  refine (torn_any w17 U17.out).mono ?_
  rintro e w' ⟨rfl, rfl⟩
  rw [show (!(some [] : BytM.Tp).isSome) = false from rfl]
  go_wp2_with fail
  refine (tnum_nil 1 w17).mono ?_
  rintro e w' ⟨rfl, rfl⟩
  go_wp2_with fail
  refine (torn_nil w17).mono ?_
  rintro e w' ⟨rfl, rfl⟩
  go_wp2_with fail
  refine (end_nil w17).mono ?_
  rintro e w' ⟨rfl, rfl⟩
  go_wp2_with fail
  clear hs T17 U17
  refine (k_txt0 3 rfl w17 E17.out).mono ?_
  rintro e w18 ⟨rfl, t18, g18⟩
  have E18 := hid t18
  have B18 := hid (below_by B17.out g18 LE.out (Nat.le_refl _))
  clear t18 g18 E17 B17
  go_wp2_with fail
  refine (k_byt0 w18 E18.out).mono ?_
  rintro e w19 ⟨A19, c19, rfl, t19, g19⟩
  have E19 := hid t19
  have B19 := hid (below_by B18.out g19 LE.out (Nat.le_refl _))
  clear t19 g19 E18 B18
  go_wp2_with fail
  refine (torn_any w19 E19.out).mono ?_
  rintro e w' ⟨rfl, rfl⟩
  rw [show (!(none : BytM.Tp).isSome) = true from rfl]
  go_wp2_with fail
  refine (works_any w19).mono ?_
  rintro e w20 ⟨rfl, b20⟩
  have B20 := hid (B19.out.trans (b20.mono B19.out.size))
  clear b20
  go_wp2_with fail
  go_ret
  exact ⟨rfl, B20.out⟩
end Go.Proofs.Ytiebaiofpihoiaa
