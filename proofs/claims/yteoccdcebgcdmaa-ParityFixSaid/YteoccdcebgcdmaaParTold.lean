/-
  The walk of casematelaw02.ParityTold.
-/
import Derived.Test.YteoccdcebgcdmaaParBack
namespace Go.Proofs.Yteoccdcebgcdmaa
open Go.ChangeShapes Go.WideShapes Go.ChangeAt Go.RowKit
attribute [local go_sem] Gives eqg_sec
attribute [local go_sem high] run_eql_sec run_neq_sec eq_nil
section
variable {w : World} {B g n cap i k : Nat} {F : Nat → Nat → Nat}
theorem grown_drew {a b : World} {r : Option Nat} (h : a.grownBy b r) : a.grownBy b.drew r := ⟨h.os, h.tape, h.output, h.size, h.block⟩
theorem OwnS.drew (h : OwnS w B (.slice (some ⟨g, 0, none⟩) n cap) n F) : OwnS w.drew B (.slice (some ⟨g, 0, none⟩) n cap) n F := World.ownsRow.drew h
theorem OwnS.cellAt (h : OwnS w B (.slice (some ⟨g, 0, none⟩) n cap) n F) (hi : i < n) (hk : k < 64) : w.cell? ⟨g, i * 64 + k, none⟩ = some (.int .u8 (F i k : Nat)) := by
  rw [World.ownsRow.cellAt h (i * 64 + k) (by have : (i + 1) * 64 ≤ n * 64 := Nat.mul_le_mul_right _ hi; omega), Array.getElem?_toList]
  exact get_secs hi hk
def upd2 (F : Nat → Nat → Nat) (i k v : Nat) : Nat → Nat → Nat := fun i' k' => if i' = i ∧ k' = k then v else F i' k'
theorem OwnS.put (h : OwnS w B (.slice (some ⟨g, 0, none⟩) n cap) n F) (hk : k < 64) (v : Nat) :
    OwnS (w.setCell ⟨g, i * 64 + k, none⟩ (.int .u8 v)) B (.slice (some ⟨g, 0, none⟩) n cap) n (upd2 F i k v) ∧ w.grownBy (w.setCell ⟨g, i * 64 + k, none⟩ (.int .u8 v)) (some g) := by
  obtain ⟨h1, h2⟩ := World.ownsRow.stored h (i * 64 + k) (.int .u8 v)
  refine ⟨?_, h2⟩
  unfold OwnS
  have e : (Go.Proofs.Yteoccdcebgcdmaa.secs n F).toList.set (i * 64 + k) (.int .u8 v) = (Go.Proofs.Yteoccdcebgcdmaa.secs n (upd2 F i k v)).toList := by
    rw [← Array.toList_setIfInBounds]
    congr 1
    unfold Go.Proofs.Yteoccdcebgcdmaa.secs
    rw [row_set]
    refine row_ext fun j _ => ?_
    unfold upd2
    by_cases ej : j = i * 64 + k
    · rw [if_pos ej, if_pos (by omega)]
    · rw [if_neg ej, if_neg (by omega)]
  rw [← e]
  exact h1
end
/-- What is added to a row. -/
def turned (m i k : Nat) (F D : Nat → Nat → Nat) : Nat → Nat → Nat := fun j q => (rowF m F j q ^^^ (if j = i then D 0 q else 0)) ^^^ (if j = k then D 1 q else 0)
def turnedTo (t m i k : Nat) (F D : Nat → Nat → Nat) : Nat → Nat → Nat := fun j q => if q < t then turned m i k F D j q else rowF m F j q
theorem turned_lt {m i k : Nat} {F D : Nat → Nat → Nat} (hF : ∀ i k, F i k < 256) (hD : ∀ i k, D i k < 256) : ∀ j q, turned m i k F D j q < 256 := fun j q => by
  unfold turned
  refine GfM.xor_lt (GfM.xor_lt (rowF_lt hF j q) ?_) ?_
  · split
    · exact hD 0 q
    · omega
  · split
    · exact hD 1 q
    · omega
theorem turned_step {t m i k : Nat} {F D : Nat → Nat → Nat} :
    upd2 (upd2 (turnedTo t m i k F D) i t (turnedTo t m i k F D i t ^^^ D 0 t)) k t (upd2 (turnedTo t m i k F D) i t (turnedTo t m i k F D i t ^^^ D 0 t) k t ^^^ D 1 t) = turnedTo (t + 1) m i k F D := by
  funext j q
  unfold upd2 turnedTo turned
  by_cases eq : q = t
  · subst eq
    by_cases ej : j = i <;> by_cases ek : j = k <;> by_cases eik : k = i <;> simp_all
  · have : (q < t + 1) = (q < t) := by apply propext; omega
    simp [eq, this]
set_option maxRecDepth 100000 in
theorem told_none (A : Option Addr) (cap : Nat) (x y : Int) (D : Nat → Nat → Nat) (hA : A = none → cap = 0) (W : World) :
    Calls Try.prog 7 #[.slice A 0 cap, .agg #[.int .i64 x, .int .i64 y], .agg (secs 2 D)] W fun e w' => e = .returned (.bool true) ∧ Below W.heap.size W w' := by
  go_enter Try.func7, Try.ntmps7
  go_wp2_with fail
  generalize hw3 : World.alloc (World.alloc W _) _ = w3
  have hb : Below W.heap.size W w3 := by rw [← hw3]; exact ((Below.refl _ _).alloc (Nat.le_refl _) _).alloc (by simp) _
  clear hw3
  refine (row_none A cap hA w3).mono ?_
  rintro e w1 ⟨rfl, hb1⟩
  go_wp2_with fail
  refine (works_any _).mono ?_
  rintro e w2 ⟨rfl, hb2⟩
  go_wp2_with fail
  go_ret
  exact ⟨rfl, (hb.trans (hb1.mono hb.size)).trans (hb2.mono (hb.trans (hb1.mono hb.size)).size)⟩
set_option maxRecDepth 100000 in
theorem told_some (A : Option Addr) (n cap : Nat) (F D : Nat → Nat → Nat) (x y : Int) (hF : ∀ i k, F i k < 256) (hD : ∀ i k, D i k < 256) (hn : n ≤ cap) (hc : cap ≤ maxLen) (h1 : 1 ≤ n) (W : World) (hs : Secs W W.heap.size A n F) :
    Calls Try.prog 7 #[.slice A n cap, .agg #[.int .i64 x, .int .i64 y], .agg (secs 2 D)] W fun e w' => e = .returned (.bool true) ∧ Below W.heap.size W w' := by
  have hrow : RowKit.Hid (∀ w, Below W.heap.size W w → Calls Try.prog 21 #[.slice A n cap] w (SomeOwn w (min n 62 + 2) (rowF (min n 62) F))) := hid fun w hw => row_some A n cap F hF hn hc h1 w ((hs.below hw (Nat.le_refl _)).more hw.size)
  have hm1 : 1 ≤ min n 62 := by omega
  have hm2 : min n 62 ≤ 62 := Nat.min_le_right _ _
  clear hs h1 hn hc
  have HF := hid hF
  have HD := hid hD
  clear hF hD
  revert hrow hm1 hm2
  generalize min n 62 = m
  intro hrow h1 h2
  go_enter Try.func7, Try.ntmps7
  go_wp2_with fail
  generalize hw3 : World.alloc (World.alloc W _) _ = w3
  have p1 : Blk w3 W.heap.size 50 #[.int .i64 x, .int .i64 y] := by rw [← hw3]; exact (Blk.new _ _ _).alloc _
  have p2 : Blk w3 (W.heap.size + 1) 51 (secs 2 D) := by rw [← hw3]; exact Blk.top rfl (by simp)
  have hb : Below W.heap.size W w3 := by rw [← hw3]; exact ((Below.refl _ _).alloc (Nat.le_refl _) _).alloc (by simp) _
  clear hw3
  refine (hrow.out w3 hb).mono ?_
  rintro e w1 ⟨g, c1, rfl, o1, hb1⟩
  have O1 := HID o1
  have p1 := p1.below hb1 p1.lt
  have p2 := p2.below hb1 p2.lt
  have hb2 := hb.trans (hb1.mono hb.size)
  have hg1 := (own_lt o1).2.1
  have hsz := hb.size
  have hl2 := p2.lt
  have P2 := HID p2
  clear o1 hb hb1 hrow p2
  go_wp2_with fail
  refine wp_region_tail (C := fun w' => Below w1.heap.size w1 w') 10 (by kernel_rfl) (by kernel_rfl) (by kernel_rfl) (Below.refl _ _).drew ?_
  simp only [List.take_succ_cons, List.take_zero, List.drop_succ_cons, List.drop_zero]
  apply wpK_val
  · rfl
  · intro w' hw'
    go_simp
    first | exact rfl | exact ⟨rfl, hw'⟩
  simp only [Act.put, List.setIfInBounds_toArray, List.set_cons_succ, List.set_cons_zero]
  apply wpK_val
  · rfl
  · intro w' hw'
    have hcell := (by rw [(p1.below hw' p1.lt).cell]; rfl : w'.cell? ⟨W.heap.size, 0, none⟩ = some (.int .i64 x))
    go_simp
    first | exact rfl | exact ⟨rfl, hw'⟩
  simp only [Act.put, List.setIfInBounds_toArray, List.set_cons_succ, List.set_cons_zero]
  apply wpK_val
  · rfl
  · intro w' hw'
    go_simp
    first | exact rfl | exact ⟨rfl, hw'⟩
  simp only [Act.put, List.setIfInBounds_toArray, List.set_cons_succ, List.set_cons_zero]
  apply wpK_val
  · rfl
  · intro w' hw'
    go_simp
    first | exact rfl | exact ⟨rfl, hw'⟩
  simp only [Act.put, List.setIfInBounds_toArray, List.set_cons_succ, List.set_cons_zero]
  apply wpK_val
  · rfl
  · intro w' hw'
    go_simp
    exact (at_any x (m + 2) (by omega) (by omega) _).mono fun e w'' ⟨he, hb'⟩ => ⟨he, by subst hb'; exact hw'⟩
  simp only [Act.put, List.setIfInBounds_toArray, List.set_cons_succ, List.set_cons_zero]
  apply wpK_val
  · rfl
  · intro w' hw'
    go_simp
    first | exact rfl | exact ⟨rfl, hw'⟩
  simp only [Act.put, List.setIfInBounds_toArray, List.set_cons_succ, List.set_cons_zero]
  apply wpK_val
  · rfl
  · intro w' hw'
    have hcell := (by rw [(p1.below hw' p1.lt).cell]; rfl : w'.cell? ⟨W.heap.size, 1, none⟩ = some (.int .i64 y))
    go_simp
    first | exact rfl | exact ⟨rfl, hw'⟩
  simp only [Act.put, List.setIfInBounds_toArray, List.set_cons_succ, List.set_cons_zero]
  apply wpK_val
  · rfl
  · intro w' hw'
    go_simp
    first | exact rfl | exact ⟨rfl, hw'⟩
  simp only [Act.put, List.setIfInBounds_toArray, List.set_cons_succ, List.set_cons_zero]
  apply wpK_val
  · rfl
  · intro w' hw'
    go_simp
    first | exact rfl | exact ⟨rfl, hw'⟩
  simp only [Act.put, List.setIfInBounds_toArray, List.set_cons_succ, List.set_cons_zero]
  apply wpK_val
  · rfl
  · intro w' hw'
    go_simp
    exact (at_any y (m + 2) (by omega) (by omega) _).mono fun e w'' ⟨he, hb'⟩ => ⟨he, by subst hb'; exact hw'⟩
  simp only [Act.put, List.setIfInBounds_toArray, List.set_cons_succ, List.set_cons_zero]
  refine wpK_nil fun w4 hw4 => ?_
  have O1 := HID (OwnS.below O1.out hw4 (Nat.le_refl _))
  have P2 := HID (P2.out.below hw4 P2.out.lt)
  have hb2 := hb2.trans (hw4.mono hb2.size)
  have hsz4 := hw4.size
  clear hw4 p1
  have hl2 : W.heap.size + 1 < w4.heap.size := by omega
  clear hsz4
  have hi := atN_lt (i := x) (n := m + 2) (by omega)
  have hk := atN_lt (i := y) (n := m + 2) (by omega)
  revert hi hk
  generalize atN x (m + 2) = i
  generalize atN y (m + 2) = k
  intro hi hk
  have hbA : Below w4.heap.size w4 (w4.alloc (.cells #[] 25)) := (Below.refl _ _).alloc (Nat.le_refl _) _
  have S2 : RowKit.Hid (Secs (w4.alloc (.cells #[] 25)) w4.heap.size (some ⟨g, 0, none⟩) (m + 2) (rowF m F)) := hid (O1.out.secs.1.below hbA (Nat.le_refl _))
  go_wp2_with ((with_reducible apply wapp (v := .slice (some ⟨w4.heap.size, 0, none⟩) 0 0)); rfl; rfl; exact OwnS.empty w4 (Nat.le_refl _) (rowF m F); exact S2.out; omega; (simp); intro v' w3 own grow hnil)
  obtain ⟨g3, c3, rfl, hg3, _⟩ := OwnS.form own (fun e => by have := (hnil.1 e).1; cases this)
  rw [Nat.zero_add] at own
  have O3 : RowKit.Hid (OwnS w3 w4.heap.size (.slice (some ⟨g3, 0, none⟩) (m + 2) c3) (m + 2) (rowF m F)) := hid (own.mono fun i k _ _ => by simp [catF])
  have hbw : Below w4.heap.size w4 w3 := ((Below.refl _ _).alloc (Nat.le_refl _) _).grown grow (by simp) (fun k e => by have e2 : some w4.heap.size = some k := e; have e3 := Option.some.inj e2; omega)
  have R3 := HID (OwnS.below O1.out hbw (Nat.le_refl _))
  have P3 := HID (P2.out.below hbw P2.out.lt)
  have hb4 := hb2.trans (hbw.mono hb2.size)
  have hgg : g3 ≠ g := by have := (own_lt O1.out).1; omega
  have hg3p : g3 ≠ W.heap.size + 1 := by omega
  rw [Nat.zero_add]
  clear own grow hnil S2 O1 hbA hb2 P2 hbw
  have T0 : turnedTo 0 m i k F D = rowF m F := by funext j q; simp [turnedTo]
  have ti : (i : Int) < (m : Int) + 2 := by omega
  have tk : (k : Int) < (m : Int) + 2 := by omega
  go_loopw [11] (fun v wr => ∃ t : Nat, t ≤ 64 ∧ v = .int .i64 t ∧ OwnS wr w4.heap.size (.slice (some ⟨g3, 0, none⟩) (m + 2) c3) (m + 2) (turnedTo t m i k F D) ∧ OwnS wr W.heap.size (.slice (some ⟨g, 0, none⟩) (m + 2) c1) (m + 2) (rowF m F) ∧ Blk wr (W.heap.size + 1) 51 (secs 2 D) ∧ Below W.heap.size W wr) (fun v _ => 64 - (intOf v).toNat)
  case atStart => exact ⟨0, by omega, rfl, by rw [T0]; exact O3.out, World.ownsRow.mono R3.out hsz, P3.out, hb4⟩
  case round =>
    obtain ⟨t, ht, rfl, o, r, p, hb⟩ := hrel
    by_cases hlt : t < 64
    · have ca1 : wr.cell? ⟨g3, i * 64 + t, none⟩ = some (.int .u8 (turnedTo t m i k F D i t : Nat)) := OwnS.cellAt o hi hlt
      have ca2 : wr.cell? ⟨W.heap.size + 1, t, none⟩ = some (.int .u8 (D 0 t : Nat)) := by rw [p.cell]; have := get_secs (n := 2) (F := D) (i := 0) (k := t) (by omega) hlt; simpa using this
      have ca3 := World.ownsRow.frozenAt o (i * 64 + t)
      go_upto_region 9 with (fail)
      have TL : RowKit.Hid (∀ j q, turnedTo t m i k F D j q < 256) := hid fun j q => by
        unfold turnedTo
        split
        · exact turned_lt HF.out HD.out j q
        · exact rowF_lt HF.out j q
      go_still_tail 12, (by kernel_rfl)
      change wpList _ _ _ _ _ wr.drew
      rw [u8_xor_nat _ _ (TL.out i t) (HD.out 0 t)]
      go_upto_region 10 with (fail)
      obtain ⟨oA, gA⟩ := OwnS.put (i := i) o hlt (turnedTo t m i k F D i t ^^^ D 0 t)
      have oA := OwnS.drew oA
      have gA := grown_drew gA
      generalize hwA : World.drew (World.setCell wr _ _) = wA at *
      have pA : Blk wA (W.heap.size + 1) 51 (secs 2 D) := p.only gA (Ne.symm hg3p)
      have rA := OwnS.kept r gA (.inr (fun e => by have e2 : some g = some g3 := e; exact hgg (Option.some.inj e2).symm))
      have hbA := below_only hb gA (by omega) hb.size
      clear hwA o r p hb gA ca1 ca2 ca3
      have hT1 : ∀ j q, upd2 (turnedTo t m i k F D) i t (turnedTo t m i k F D i t ^^^ D 0 t) j q < 256 := fun j q => by
        unfold upd2
        split
        · exact GfM.xor_lt (TL.out i t) (HD.out 0 t)
        · exact TL.out j q
      have st := turned_step (t := t) (m := m) (i := i) (k := k) (F := F) (D := D)
      revert oA hT1 st
      generalize upd2 (turnedTo t m i k F D) i t (turnedTo t m i k F D i t ^^^ D 0 t) = T1
      intro oA hT1 st
      have ST := hid st
      have HT1 := hid hT1
      clear st hT1
      have ca1 : wA.cell? ⟨g3, k * 64 + t, none⟩ = some (.int .u8 (T1 k t : Nat)) := OwnS.cellAt oA hk hlt
      have ca2 : wA.cell? ⟨W.heap.size + 1, 64 + t, none⟩ = some (.int .u8 (D 1 t : Nat)) := by rw [pA.cell]; have := get_secs (n := 2) (F := D) (i := 1) (k := t) (by omega) hlt; simpa using this
      have ca3 := World.ownsRow.frozenAt oA (k * 64 + t)
      go_still_tail 12, (by kernel_rfl)
      change wpList _ _ _ _ _ wA.drew
      rw [u8_xor_nat _ _ (HT1.out k t) (HD.out 1 t)]
      obtain ⟨oB, gB⟩ := OwnS.put (i := k) oA hlt (T1 k t ^^^ D 1 t)
      have oB := OwnS.drew oB
      have gB := grown_drew gB
      rw [ST.out] at oB
      have pB : Blk _ (W.heap.size + 1) 51 (secs 2 D) := pA.only gB (Ne.symm hg3p)
      have rB := OwnS.kept rA gB (.inr (fun e => by have e2 : some g = some g3 := e; exact hgg (Option.some.inj e2).symm))
      have hbB := below_only hbA gB (by omega) hbA.size
      clear ST
      go_wp2_with fail
      exact ⟨⟨t + 1, by omega, by go_num, oB, rB, pB, hbB⟩, by simp [intOf]; omega⟩
    · obtain rfl : t = 64 := by omega
      have O5 := HID (OwnS.mono o (G := turned m i k F D) fun j q _ hq => by unfold turnedTo; rw [if_pos hq])
      have R5 := HID r
      have hd3 := (OwnS.secs o).2
      clear o r p
      go_wp2_with fail
      refine (right_any (some ⟨g3, 0, none⟩) (m + 2) c3 (turned m i k F D) (turned_lt HF.out HD.out) (by omega) hd3 _ O5.out.secs.1).mono ?_
      rintro e w6 ⟨rfl, hb6⟩
      have S6 := HID (And.intro (OwnS.below O5.out hb6 (Nat.le_refl _)).secs.1 (OwnS.below R5.out hb6 (Nat.le_refl _)).secs.1)
      have hb7 := hb.trans (hb6.mono hb.size)
      have hR : rightA (m + 2) (turned m i k F D) = allS (m + 2) (turned m i k F D) (rowF m F) := by
        unfold rightA
        rw [if_pos (by omega)]
        exact told (x := i) (y := k) h2 HF.out (turned_lt HF.out HD.out) (fun j hj e1 e2 q hq => by unfold turned; simp [e1, e2])
      rw [hR]
      clear hR hb hb6 O5 R5
      go_wp2_with fail
      refine (same_any (some ⟨g3, 0, none⟩) (some ⟨g, 0, none⟩) (m + 2) c3 c1 (turned m i k F D) (rowF m F) (by omega) _ S6.out.1 S6.out.2).mono ?_
      rintro e w8 ⟨rfl, k1, rfl⟩
      have hb8 := hb7.trans ((below_drewN (Below.refl w6.heap.size w6) k1).mono hb7.size)
      clear S6 hb7
      generalize w6.drewN k1 = w9 at *
      generalize allS (m + 2) (turned m i k F D) (rowF m F) = b
      cases b with
      | true =>
        go_wp2_with fail
        refine (works_any _).mono ?_
        rintro e w10 ⟨rfl, hb9⟩
        go_wp2_with fail
        go_ret
        exact ⟨rfl, hb8.trans (hb9.mono hb8.size)⟩
      | false =>
        go_wp2_with fail
        refine (works_any _).mono ?_
        rintro e w10 ⟨rfl, hb9⟩
        go_wp2_with fail
        go_ret
        exact ⟨rfl, hb8.trans (hb9.mono hb8.size)⟩
end Go.Proofs.Yteoccdcebgcdmaa
