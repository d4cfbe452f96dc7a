/-
  The stage's theorem: the walk of casematelaw02.ParityBack.
-/
import Derived.Test.YteoccdcebgcdmaaParMath
namespace Go.Proofs.Yteoccdcebgcdmaa
open Go.ChangeShapes Go.WideShapes Go.ChangeAt Go.RowKit
attribute [local go_sem] Gives eqg_sec
attribute [local go_sem high] run_eql_sec run_neq_sec
theorem eq_nil (w : World) (a : Option Addr) (n c n' c' : Nat) : (binOp .eql 22 (.slice a n c) (.slice none n' c')).run Try.prog w = .ok (.bool a.isNone) w := Lib.run_eql_slice_nil w _ _ a n c n' c' Try.underlying22
attribute [local go_sem high] eq_nil
theorem marks_list {l : List Nat} {z : Nat} : marks l.length (fun j => ((l.getD j 0 : Nat) : Int)) z = true ↔ z ∈ l := by
  rw [marks_iff]
  constructor
  · rintro ⟨i, hi, h⟩
    have e : l.getD i 0 = z := by omega
    rw [List.getD_eq_getElem?_getD, List.getElem?_eq_getElem hi, Option.getD_some] at e
    exact e ▸ List.getElem_mem hi
  · intro h
    obtain ⟨i, hi, e⟩ := List.getElem_of_mem h
    exact ⟨i, hi, by rw [List.getD_eq_getElem?_getD, List.getElem?_eq_getElem hi, Option.getD_some, e]⟩
/-- What is lost of a right row comes back. -/
theorem fix_back (l : List Nat) (A A' : Option Addr) (m cap c : Nat) (F G : Nat → Nat → Nat) (hF : ∀ i k, F i k < 256) (hGl : ∀ i k, G i k < 256) (h1 : 1 ≤ m) (h2 : m ≤ 62) (h3 : l.length ≤ 2) (hl : ∀ x, x ∈ l → x < m + 2)
    (hG : ∀ i, i < m + 2 → i ∉ l → ∀ k, k < 64 → G i k = rowF m F i k) (w : World) (hs : Ints w w.heap.size A' l.length fun j => ((l.getD j 0 : Nat) : Int)) (hS : Secs w w.heap.size A (m + 2) G) :
    Calls Try.prog 17 #[.slice A (m + 2) cap, .slice A' l.length c] w fun e w' => ∃ g cap' : Nat, e = .returned (.tuple #[.slice (some ⟨g, 0, none⟩) (m + 2) cap', .int .i64 0]) ∧
      OwnS w' w.heap.size (.slice (some ⟨g, 0, none⟩) (m + 2) cap') (m + 2) (rowF m F) ∧ Below w.heap.size w w' := by
  have hc : cntM (marks l.length fun j => ((l.getD j 0 : Nat) : Int)) ≤ 2 := Nat.le_trans (cnt_le l fun x hx => marks_list.1 hx) h3
  refine (fix_ok A A' m cap l.length c _ G hGl (by omega) h1 h2 w hs hS (anyOut_iff.2 fun i hi => ?_) hc).mono ?_
  · have := hl (l.getD i 0) (by rw [List.getD_eq_getElem?_getD, List.getElem?_eq_getElem hi, Option.getD_some]; exact List.getElem_mem hi)
    omega
  · rintro e w' ⟨g, c', rfl, o, hb⟩
    refine ⟨g, c', rfl, o.mono fun i k hi hk => (back h2 hF hc (fun j hj hM => hG j hj (fun hx => ?_) k hk) i hi).symm, hb⟩
    rw [marks_list.2 hx] at hM; cases hM
set_option maxRecDepth 100000 in
theorem back_none (A : Option Addr) (cap : Nat) (x y : Int) (hA : A = none → cap = 0) (W : World) :
    Calls Try.prog 6 #[.slice A 0 cap, .int .i64 x, .int .i64 y] W fun e w' => e = .returned (.bool true) ∧ Below W.heap.size W w' := by
  go_enter Try.func6, Try.ntmps6
  go_wp2_with fail
  refine (row_none A cap hA W).mono ?_
  rintro e w1 ⟨rfl, hb1⟩
  go_wp2_with fail
  refine (works_any _).mono ?_
  rintro e w2 ⟨rfl, hb2⟩
  go_wp2_with fail
  go_ret
  exact ⟨rfl, hb1.trans (hb2.mono hb1.size)⟩
set_option maxRecDepth 100000 in
theorem back_some (A : Option Addr) (n cap : Nat) (F : Nat → Nat → Nat) (x y : Int) (hF : ∀ i k, F i k < 256) (hn : n ≤ cap) (hc : cap ≤ maxLen) (h1 : 1 ≤ n) (W : World) (hs : Secs W W.heap.size A n F) :
    Calls Try.prog 6 #[.slice A n cap, .int .i64 x, .int .i64 y] W fun e w' => e = .returned (.bool true) ∧ Below W.heap.size W w' := by
  have hrow := row_some A n cap F hF hn hc h1 W hs
  have hm1 : 1 ≤ min n 62 := by omega
  have hm2 : min n 62 ≤ 62 := Nat.min_le_right _ _
  clear hs h1 hn hc
  have HF := hid hF
  clear hF
  revert hrow hm1 hm2
  generalize min n 62 = m
  intro hrow h1 h2
  go_enter Try.func6, Try.ntmps6
  go_wp2_with fail
  refine hrow.mono ?_
  rintro e w1 ⟨g, c1, rfl, o1, hb1⟩
  obtain ⟨sr1, d1⟩ := o1.secs
  have O1 := HID o1
  have S1 := HID sr1
  clear o1 sr1 hrow
  go_wp2_with fail
  refine (right_any (some ⟨g, 0, none⟩) (m + 2) c1 (rowF m F) (rowF_lt HF.out) (by omega) d1 _ S1.out).mono ?_
  rintro e w2 ⟨rfl, hb2⟩
  have hR : rightA (m + 2) (rowF m F) = true := by unfold rightA; rw [if_pos (by omega)]; exact rowF_right
  rw [hR]
  have O2 := HID (OwnS.below O1.out hb2 (Nat.le_refl _))
  have hb3 := hb1.trans (hb2.mono hb1.size)
  clear O1 S1 hb1 hb2 hR
  go_wp2_with fail
  refine (at_any x (m + 2) (by omega) (by omega) _).mono ?_
  rintro e w' ⟨rfl, rfl⟩
  go_wp2_with fail
  refine (at_any y (m + 2) (by omega) (by omega) _).mono ?_
  rintro e w' ⟨rfl, rfl⟩
  have hi := atN_lt (i := x) (n := m + 2) (by omega)
  have hk := atN_lt (i := y) (n := m + 2) (by omega)
  revert hi hk
  generalize atN x (m + 2) = i
  generalize atN y (m + 2) = k
  intro hi hk
  have hbA : Below w2.heap.size w2 (w2.alloc (.cells #[] 25)) := (Below.refl _ _).alloc (Nat.le_refl _) _
  have S2 : RowKit.Hid (Secs (w2.alloc (.cells #[] 25)) w2.heap.size (some ⟨g, 0, none⟩) (m + 2) (rowF m F)) := hid (O2.out.secs.1.below hbA (Nat.le_refl _))
  go_wp2_with ((with_reducible apply wapp (v := .slice (some ⟨w2.heap.size, 0, none⟩) 0 0)); rfl; rfl; exact OwnS.empty w2 (Nat.le_refl _) (rowF m F); exact S2.out; omega; (simp); intro v' w3 own grow hnil)
  obtain ⟨g3, c3, rfl, hg3, _⟩ := OwnS.form own (fun e => by have := (hnil.1 e).1; cases this)
  rw [Nat.zero_add] at own ⊢
  have O3 : RowKit.Hid (OwnS w3 w2.heap.size (.slice (some ⟨g3, 0, none⟩) (m + 2) c3) (m + 2) (rowF m F)) := hid (own.mono fun i k _ _ => by simp [catF])
  have hbw : Below w2.heap.size w2 w3 := ((Below.refl _ _).alloc (Nat.le_refl _) _).grown grow (by simp) (fun k e => by have e2 : some w2.heap.size = some k := e; have e3 := Option.some.inj e2; omega)
  have R3 := HID (OwnS.below O2.out hbw (Nat.le_refl _))
  have hb4 := hb3.trans (hbw.mono hb3.size)
  obtain ⟨cx, ex, lx⟩ : ∃ c : Nat, x % 256 = (c : Int) ∧ c < 256 := ⟨(x % 256).toNat, by omega, by omega⟩
  have hW2 := hb3.size
  have hgg : g3 ≠ g := by have := (own_lt O2.out).1; omega
  clear own grow hnil S2 O2 hbA hb3
  rw [ex]
  refine (filled_any cx _).mono ?_
  rintro e w4 ⟨rfl, hb⟩
  have O4 := HID (OwnS.below O3.out hb (Nat.le_refl _))
  have R4 := HID (OwnS.below R3.out hb (Nat.le_refl _))
  have hb5 := hb4.trans (hb.mono hb4.size)
  clear O3 R3 hb4 hb
  have ti : (i : Int) < (m : Int) + 2 := by omega
  have tk : (k : Int) < (m : Int) + 2 := by omega
  go_wp2_with ((with_reducible apply sto (i := i)); (simp only [Nat.zero_add]; rfl); rfl; exact O4.out; omega; intro w5 o5 g5)
  have R5 := HID (OwnS.kept R4.out g5 (.inr (fun e => by have e2 : some g = some g3 := e; exact hgg (Option.some.inj e2).symm)))
  have O5 := HID o5
  have hb6 := below_only hb5 g5 (by omega) hb5.size
  clear O4 R4 hb5 o5 g5
  obtain ⟨cy, ey, ly⟩ : ∃ c : Nat, wrap64 (y + 1) % 256 = (c : Int) ∧ c < 256 := ⟨(wrap64 (y + 1) % 256).toNat, by omega, by omega⟩
  rw [ey]
  refine (filled_any cy _).mono ?_
  rintro e w6 ⟨rfl, hb⟩
  have O6 := HID (OwnS.below O5.out hb (Nat.le_refl _))
  have R6 := HID (OwnS.below R5.out hb (Nat.le_refl _))
  have hb7 := hb6.trans (hb.mono hb6.size)
  clear O5 R5 hb6 hb
  go_wp2_with ((with_reducible apply sto (i := k)); (simp only [Nat.zero_add]; rfl); rfl; exact O6.out; omega; intro w7 o7 g7)
  have R7 := HID (OwnS.kept R6.out g7 (.inr (fun e => by have e2 : some g = some g3 := e; exact hgg (Option.some.inj e2).symm)))
  have O7 := HID o7
  have hb8 := below_only hb7 g7 (by omega) hb7.size
  clear O6 R6 hb7 o7 g7
  have hbl : Blk (w7.alloc (.cells #[.int .i64 i, .int .i64 k] 3)) w7.heap.size 3 #[.int .i64 i, .int .i64 k] := Blk.new _ _ _
  have hbA : Below w7.heap.size w7 (w7.alloc (.cells #[.int .i64 i, .int .i64 k] 3)) := (Below.refl _ _).alloc (Nat.le_refl _) _
  have hin : Ints (w7.alloc (.cells #[.int .i64 i, .int .i64 k] 3)) (w7.alloc (.cells #[.int .i64 i, .int .i64 k] 3)).heap.size (some ⟨w7.heap.size, 0, none⟩) [i, k].length (fun j => (([i, k].getD j 0 : Nat) : Int)) := fun _ =>
    ⟨w7.heap.size, 0, rfl, by simp, fun j hj => by
      rw [hbl.cell, Nat.zero_add]
      match j, hj with
      | 0, _ => rfl
      | 1, _ => rfl⟩
  have O8 := (OwnS.below O7.out hbA (Nat.le_refl _))
  have R8 := HID (OwnS.below R7.out hbA (Nat.le_refl _))
  have hb9 := hb8.trans (hbA.mono hb8.size)
  have fb := fix_back [i, k] (some ⟨g3, 0, none⟩) (some ⟨w7.heap.size, 0, none⟩) m c3 2 F _ HF.out (upd_lt (upd_lt (rowF_lt HF.out) (fun _ => lx)) (fun _ => ly)) h1 h2 (by simp) (by simp; exact ⟨hi, hk⟩) (fun j hj hn z hz => by
    simp at hn
    rw [upd_ne hn.2, upd_ne hn.1]) _ hin O8.secs.1
  clear O7 R7 hb8 hbl hbA hin O8 ex ey
  generalize w7.alloc _ = w8 at *
  refine fb.mono ?_
  rintro e w9 ⟨ga, ca, rfl, oa, hb⟩
  have A9 := HID oa
  have R9 := HID (OwnS.below R8.out hb (Nat.le_refl _))
  have hbB := hb9.trans (hb.mono hb9.size)
  clear fb oa R8 hb hb9
  have hga := (own_lt A9.out).1
  have hgr := (own_lt R9.out).1
  have hW9 := hbB.size
  clear hgg hg3 hW2
  have hbA : Below w9.heap.size w9 (w9.alloc (.cells #[] 25)) := (Below.refl _ _).alloc (Nat.le_refl _) _
  have S9 : RowKit.Hid (Secs (w9.alloc (.cells #[] 25)) w9.heap.size (some ⟨g, 0, none⟩) (m + 2) (rowF m F)) := hid (R9.out.secs.1.below hbA (Nat.le_refl _))
  go_wp2_with ((with_reducible apply wapp (v := .slice (some ⟨w9.heap.size, 0, none⟩) 0 0)); rfl; rfl; exact OwnS.empty w9 (Nat.le_refl _) (rowF m F); exact S9.out; omega; (simp); intro v' w10 own grow hnil)
  obtain ⟨g4, c4, rfl, hg4, _⟩ := OwnS.form own (fun e => by have := (hnil.1 e).1; cases this)
  rw [Nat.zero_add] at own ⊢
  have O3 : RowKit.Hid (OwnS w10 w9.heap.size (.slice (some ⟨g4, 0, none⟩) (m + 2) c4) (m + 2) (rowF m F)) := hid (own.mono fun i k _ _ => by simp [catF])
  have hbw : Below w9.heap.size w9 w10 := ((Below.refl _ _).alloc (Nat.le_refl _) _).grown grow (by simp) (fun k e => by have e2 : some w9.heap.size = some k := e; have e3 := Option.some.inj e2; omega)
  have R3 := HID (OwnS.below R9.out hbw (Nat.le_refl _))
  have A3 := HID (OwnS.below A9.out hbw (Nat.le_refl _))
  have hb4 := hbB.trans (hbw.mono hbB.size)
  obtain ⟨cx, ex, lx⟩ : ∃ c : Nat, x % 256 = (c : Int) ∧ c < 256 := ⟨(x % 256).toNat, by omega, by omega⟩
  have hne1 : g ≠ g4 := by omega
  have hne2 : ga ≠ g4 := by omega
  clear own grow hnil S9 R9 A9 hbA hbB
  rw [ex]
  refine (filled_any cx _).mono ?_
  rintro e w11 ⟨rfl, hb⟩
  have O4 := HID (OwnS.below O3.out hb (Nat.le_refl _))
  have R4 := HID (OwnS.below R3.out hb (Nat.le_refl _))
  have A4 := HID (OwnS.below A3.out hb (Nat.le_refl _))
  have hb5 := hb4.trans (hb.mono hb4.size)
  clear O3 R3 A3 hb4 hb
  go_wp2_with ((with_reducible apply sto (i := k)); (simp only [Nat.zero_add]; rfl); rfl; exact O4.out; omega; intro w12 o7 g7)
  have R7 := HID (OwnS.kept R4.out g7 (.inr (fun e => by have e2 : some g = some g4 := e; exact hne1 (Option.some.inj e2))))
  have A7 := HID (OwnS.kept A4.out g7 (.inr (fun e => by have e2 : some ga = some g4 := e; exact hne2 (Option.some.inj e2))))
  have O7 := HID o7
  have hb8 := below_only hb5 g7 (by omega) hb5.size
  clear O4 R4 A4 hb5 o7 g7
  have hbl : Blk (w12.alloc (.cells #[.int .i64 k] 3)) w12.heap.size 3 #[.int .i64 k] := Blk.new _ _ _
  have hbA : Below w12.heap.size w12 (w12.alloc (.cells #[.int .i64 k] 3)) := (Below.refl _ _).alloc (Nat.le_refl _) _
  have hin : Ints (w12.alloc (.cells #[.int .i64 k] 3)) (w12.alloc (.cells #[.int .i64 k] 3)).heap.size (some ⟨w12.heap.size, 0, none⟩) [k].length (fun j => (([k].getD j 0 : Nat) : Int)) := fun _ =>
    ⟨w12.heap.size, 0, rfl, by simp, fun j hj => by
      rw [hbl.cell, Nat.zero_add]
      match j, hj with
      | 0, _ => rfl⟩
  have O8 := (OwnS.below O7.out hbA (Nat.le_refl _))
  have R8 := HID (OwnS.below R7.out hbA (Nat.le_refl _))
  have A8 := HID (OwnS.below A7.out hbA (Nat.le_refl _))
  have hb9 := hb8.trans (hbA.mono hb8.size)
  have fb := fix_back [k] (some ⟨g4, 0, none⟩) (some ⟨w12.heap.size, 0, none⟩) m c4 1 F _ HF.out (upd_lt (rowF_lt HF.out) (fun _ => lx)) h1 h2 (by simp) (by simp; exact hk) (fun j hj hn z hz => by
    simp at hn
    rw [upd_ne hn]) _ hin O8.secs.1
  clear O7 R7 A7 hb8 hbl hbA hin O8 ex
  generalize w12.alloc _ = w13 at *
  refine fb.mono ?_
  rintro e w14 ⟨gb, cb, rfl, ob, hb⟩
  have B9 := HID ob
  have R9 := HID (OwnS.below R8.out hb (Nat.le_refl _))
  have A9 := HID (OwnS.below A8.out hb (Nat.le_refl _))
  have hbB := hb9.trans (hb.mono hb9.size)
  clear fb ob R8 A8 hb hb9
  go_wp2_with fail
  refine (fix_back [] (some ⟨g, 0, none⟩) none m c1 0 F (rowF m F) HF.out (rowF_lt HF.out) h1 h2 (by simp) (by simp) (fun j hj hn z hz => rfl) _ (fun h => absurd h (by simp)) R9.out.secs.1).mono ?_
  rintro e w15 ⟨gc, cc, rfl, oc, hb⟩
  have s1 := oc.secs.1
  have s2 := (OwnS.below R9.out hb (Nat.le_refl _)).secs.1
  have s3 := (OwnS.below A9.out hb (Nat.le_refl _)).secs.1
  have s4 := (OwnS.below B9.out hb (Nat.le_refl _)).secs.1
  have hbC := hbB.trans (hb.mono hbB.size)
  clear R9 A9 B9 hb hbB oc
  have HS := HID (And.intro s1 (And.intro s2 (And.intro s3 s4)))
  clear s1 s2 s3 s4
  go_wp2_with fail
  have al := allS_yes (n := m + 2) (F := rowF m F) (G := rowF m F) fun _ _ _ _ => rfl
  refine (same_any (some ⟨ga, 0, none⟩) (some ⟨g, 0, none⟩) (m + 2) ca c1 (rowF m F) (rowF m F) (by omega) _ HS.out.2.2.1 HS.out.2.1).mono ?_
  rintro e w16 ⟨rfl, k1, rfl⟩
  rw [al]
  have D1 := below_drewN (Below.refl w15.heap.size w15) k1
  have HS1 := HID (And.intro ((HS.out.1.below D1 (Nat.le_refl _)).more D1.size) (And.intro ((HS.out.2.1.below D1 (Nat.le_refl _)).more D1.size) ((HS.out.2.2.2.below D1 (Nat.le_refl _)).more D1.size)))
  have hbD := hbC.trans (D1.mono hbC.size)
  clear HS hbC D1
  generalize w15.drewN k1 = w17 at *
  go_wp2_with fail
  refine (same_any (some ⟨gb, 0, none⟩) (some ⟨g, 0, none⟩) (m + 2) cb c1 (rowF m F) (rowF m F) (by omega) _ HS1.out.2.2 HS1.out.2.1).mono ?_
  rintro e w18 ⟨rfl, k2, rfl⟩
  rw [al]
  have D2 := below_drewN (Below.refl w17.heap.size w17) k2
  have HS2 := HID (And.intro ((HS1.out.1.below D2 (Nat.le_refl _)).more D2.size) ((HS1.out.2.1.below D2 (Nat.le_refl _)).more D2.size))
  have hbE := hbD.trans (D2.mono hbD.size)
  clear HS1 hbD D2
  generalize w17.drewN k2 = w19 at *
  go_wp2_with fail
  refine (same_any (some ⟨gc, 0, none⟩) (some ⟨g, 0, none⟩) (m + 2) cc c1 (rowF m F) (rowF m F) (by omega) _ HS2.out.1 HS2.out.2).mono ?_
  rintro e w20 ⟨rfl, k3, rfl⟩
  rw [al]
  have hbF := hbE.trans ((below_drewN (Below.refl w19.heap.size w19) k3).mono hbE.size)
  clear HS2 hbE
  generalize w19.drewN k3 = w21 at *
  go_wp2_with fail
  refine (works_any _).mono ?_
  rintro e w22 ⟨rfl, hb⟩
  have hbG := hbF.trans (hb.mono hbF.size)
  clear hbF hb
  go_wp2_with fail
  go_ret
  exact ⟨rfl, hbG⟩
end Go.Proofs.Yteoccdcebgcdmaa
