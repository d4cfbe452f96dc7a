/-
  casematelaw02's helpers: same, at, row.
-/
import Derived.Test.YteoccdcebgcdmaaParFix
import Derived.Test.YteoccdcebgcdmaaParOf2
import Derived.Test.YteoccdcebgcdmaaRefPQ
import Derived.Test.YteoccdcebgcdmaaParWorks
namespace Go.Proofs.Yteoccdcebgcdmaa
open Go.ChangeShapes Go.WideShapes Go.ChangeAt Go.RowKit
attribute [local go_sem] Gives eqg_sec
attribute [local go_sem high] run_eql_sec run_neq_sec
set_option maxRecDepth 100000 in
theorem same_any (A B : Option Addr) (n c c' : Nat) (F G : Nat → Nat → Nat) (hn : n ≤ 1000000) (w : World) (hs : Secs w w.heap.size A n F) (ht : Secs w w.heap.size B n G) :
    Calls Try.prog 24 #[.slice A n c, .slice B n c'] w fun e w' => e = .returned (.bool (allS n F G)) ∧ ∃ m, w' = w.drewN m := by
  have HS := hid hs
  have HT := hid ht
  clear hs ht
  go_enter Try.func24, Try.ntmps24
  go_wp2_with fail
  go_loopw [5] (fun i wr => ∃ j m : Nat, j ≤ n ∧ i = .int .i64 j ∧ wr = w.drewN m ∧ Hid (∀ i, i < j → eqS (F i) (G i) = true)) (fun i _ => n - (intOf i).toNat)
  case atStart => exact ⟨0, 0, by omega, rfl, rfl, hid fun i hi => absurd hi (by omega)⟩
  case round =>
    obtain ⟨j, m, hj, rfl, rfl, H⟩ := hrel
    by_cases hlt : j < n
    · obtain ⟨b, o, rfl, hB, hr⟩ := HS.out (by omega)
      obtain ⟨b', o', rfl, hB', hr'⟩ := HT.out (by omega)
      have r1 := hr j hlt
      have r2 := hr' j hlt
      clear hr hr'
      go_wp2_with fail
      refine wp_region_tail (C := fun w' => ∃ k, w' = w.drewN k) 9 (by kernel_rfl) (by kernel_rfl) (by kernel_rfl) ⟨m + 1, rfl⟩ ?_
      simp only [List.take_succ_cons, List.take_zero, List.drop_succ_cons, List.drop_zero]
      apply wpK_val
      · rfl
      · intro w' hw'
        go_simp
        first | exact rfl | exact ⟨rfl, hw'⟩
      simp only [Act.put, List.setIfInBounds_toArray, List.set_cons_succ, List.set_cons_zero]
      apply wpK_val
      · rfl
      · intro w' hw'
        go_simp
        first | exact rfl | exact ⟨rfl, hw'⟩
      simp only [Act.put, List.setIfInBounds_toArray, List.set_cons_succ, List.set_cons_zero]
      apply wpK_val
      · rfl
      · intro w' hw'
        go_simp
        first | exact rfl | exact ⟨rfl, hw'⟩
      simp only [Act.put, List.setIfInBounds_toArray, List.set_cons_succ, List.set_cons_zero]
      apply kldm
      · rfl
      · rfl
      · exact fun w' hw' => by obtain ⟨k, rfl⟩ := hw'; exact r1
      simp only [Act.put, List.setIfInBounds_toArray, List.set_cons_succ, List.set_cons_zero]
      apply wpK_val
      · rfl
      · intro w' hw'
        go_simp
        first | exact rfl | exact ⟨rfl, hw'⟩
      simp only [Act.put, List.setIfInBounds_toArray, List.set_cons_succ, List.set_cons_zero]
      apply wpK_val
      · rfl
      · intro w' hw'
        go_simp
        first | exact rfl | exact ⟨rfl, hw'⟩
      simp only [Act.put, List.setIfInBounds_toArray, List.set_cons_succ, List.set_cons_zero]
      apply wpK_val
      · rfl
      · intro w' hw'
        go_simp
        first | exact rfl | exact ⟨rfl, hw'⟩
      simp only [Act.put, List.setIfInBounds_toArray, List.set_cons_succ, List.set_cons_zero]
      apply kldm
      · rfl
      · rfl
      · exact fun w' hw' => by obtain ⟨k, rfl⟩ := hw'; exact r2
      simp only [Act.put, List.setIfInBounds_toArray, List.set_cons_succ, List.set_cons_zero]
      apply wpK_val
      · rfl
      · intro w' hw'
        go_simp
        first | exact rfl | exact ⟨rfl, hw'⟩
      simp only [Act.put, List.setIfInBounds_toArray, List.set_cons_succ, List.set_cons_zero]
      refine wpK_nil fun w4 hw4 => ?_
      obtain ⟨k, rfl⟩ := hw4
      cases he : eqS (F j) (G j) with
      | true =>
        go_wp2_with fail
        exact ⟨⟨j + 1, k, by omega, by go_num, rfl, hid fun i hi => by
          rcases Nat.lt_or_ge i j with h | h
          · exact H.out i h
          · obtain rfl : i = j := by omega
            exact he⟩, by simp [intOf]; omega⟩
      | false =>
        have HN := hid (allS_no hlt he)
        go_wp2_with fail
        go_ret
        exact ⟨by rw [HN.out]; rfl, _, rfl⟩
    · obtain rfl : j = n := by omega
      have HN := hid (allS_yes fun i hi => eqS_iff.1 (H.out i hi))
      clear H
      go_wp2_with fail
      go_ret
      exact ⟨by rw [HN.out]; rfl, _, rfl⟩
def atN (i : Int) (n : Nat) : Nat := (i % (n : Int)).toNat
theorem atN_lt {i : Int} {n : Nat} (h : 1 ≤ n) : atN i n < n := by
  unfold atN
  have := Int.emod_lt_of_pos i (b := n) (by omega)
  have := Int.emod_nonneg i (b := n) (by omega)
  omega
theorem at_any (i : Int) (n : Nat) (h1 : 1 ≤ n) (h2 : n ≤ 1000) (w : World) :
    Calls Try.prog 22 #[.int .i64 i, .int .i64 n] w fun e w' => e = .returned (.int .i64 (atN i n : Nat)) ∧ w = w' := by
  have hlo : -(n : Int) < i.tmod n := Int.lt_tmod_of_pos i (by omega)
  have hhi : i.tmod n < n := Int.tmod_lt_of_pos i (by omega)
  have hn0 : (n : Int) ≠ 0 := by omega
  by_cases h : i.tmod n < 0
  · have hfin : ((atN i n : Nat) : Int) = i.tmod n + n := by
      unfold atN
      have := Int.tmod_eq_emod (a := i) (b := n)
      have := Int.emod_lt_of_pos i (b := n) (by omega)
      have := Int.emod_nonneg i (b := n) (by omega)
      split at * <;> omega
    have HN := hid hfin
    clear hfin
    go_enter Try.func22, Try.ntmps22
    go_wp2_with fail
    go_ret
    exact ⟨by show Ending.returned (.int .i64 (i.tmod n + n)) = _; rw [HN.out], rfl⟩
  · have hfin : ((atN i n : Nat) : Int) = i.tmod n := by
      unfold atN
      have := Int.tmod_eq_emod (a := i) (b := n)
      have := Int.emod_lt_of_pos i (b := n) (by omega)
      have := Int.emod_nonneg i (b := n) (by omega)
      split at * <;> omega
    have HN := hid hfin
    clear hfin
    go_enter Try.func22, Try.ntmps22
    go_wp2_with fail
    go_ret
    exact ⟨by show Ending.returned (.int .i64 (i.tmod n)) = _; rw [HN.out], rfl⟩
def pairF (f g : Nat → Nat) : Nat → Nat → Nat := fun i => [f, g].getD i fun _ => 0
def rowF (m : Nat) (F : Nat → Nat → Nat) : Nat → Nat → Nat := fun i => if i < m then F i else if i = m then PP F m else QQ F m
set_option maxRecDepth 100000 in
theorem row_few (A : Option Addr) (n cap : Nat) (F : Nat → Nat → Nat) (hF : ∀ i k, F i k < 256) (hn : n ≤ cap) (hc : cap ≤ maxLen) (h1 : 1 ≤ n) (h62 : n ≤ 62) (w : World) (hs : Secs w w.heap.size A n F) :
    Calls Try.prog 21 #[.slice A n cap] w (SomeOwn w (n + 2) (rowF n F)) := by
  unfold maxLen at hc
  have t1 : min (n : Int) 62 = n := by omega
  obtain ⟨b, o, rfl, hB, hr⟩ := hs (by omega)
  have HS : RowKit.Hid (Secs (w.alloc (.cells #[] 25)) w.heap.size (some ⟨b, o, none⟩) n F) := hid fun _ => ⟨b, o, rfl, hB, fun i hi => rangeAt_below (hr i (by omega)) ((Below.refl _ _).alloc (Nat.le_refl _) _) hB⟩
  have HF := hid hF
  clear hs hF hr
  go_enter Try.func21, Try.ntmps21
  go_wp2_with ((with_reducible apply wapp (v := .slice (some ⟨w.heap.size, 0, none⟩) 0 0)); rfl; rfl; exact OwnS.empty w (Nat.le_refl _) F; exact HS.out; omega; (simp); intro v' w1 own grow hnil)
  obtain ⟨g, cap', rfl, hg1, hg2, hg3, _⟩ := OwnS.form own (fun e => by have := (hnil.1 e).1; cases this)
  rw [Nat.zero_add] at own hg3
  have own1 : OwnS w1 w.heap.size (.slice (some ⟨g, 0, none⟩) n cap') n F := own.mono fun i k _ _ => by simp [catF]
  have hb1 : Below w.heap.size w w1 := ((Below.refl _ _).alloc (Nat.le_refl _) _).grown grow (by simp) (fun k e => by simp [Value.ownBlock] at e; omega)
  clear own grow hnil HS
  have OF := hid (of_some (some ⟨g, 0, none⟩) n cap' F HF.out h1 h62 w1 own1.secs.1)
  have O1 := HID own1
  rw [Nat.zero_add]
  clear own1
  go_wp2_with fail
  refine OF.out.mono ?_
  rintro e w2 ⟨rfl, hb2⟩
  have O2 := HID (OwnS.below O1.out hb2 (Nat.le_refl _))
  have hb3 := hb1.trans (hb2.mono hb1.size)
  have hz1 := hb1.size
  have hz2 := hb2.size
  have hz3 := hb3.size
  clear O1 hb1 hb2 OF
  go_upto_region 3 with (first | ((with_reducible apply stx); rfl; rfl; exact (Blk.top zlit rfl).alloc _) | ((with_reducible apply stx); rfl; rfl; exact (Blk.top zlit (by simp)).setRow_other (by omega) _))
  generalize hw4 : World.setRow (World.setRow (World.alloc (World.alloc w2 _) _) _ _) _ _ = w4
  have p1 : Blk w4 w2.heap.size 25 (sec (PP F n)) := by rw [← hw4]; exact (((Blk.top zlit rfl).alloc _).setRow_same _).setRow_other (by omega) _
  have p2 : Blk w4 (w2.heap.size + 1) 25 (sec (QQ F n)) := by rw [← hw4]; exact ((Blk.top zlit (by simp)).setRow_other (by omega) _).setRow_same _
  have hb4 : Below w2.heap.size w2 w4 := by rw [← hw4]; exact below_setRow (below_setRow (((Below.refl _ _).alloc (Nat.le_refl _) _).alloc (by simp) _) (Nat.le_refl _) _) (by omega) _
  have O4 := HID (OwnS.below O2.out hb4 (Nat.le_refl _))
  have hb5 := hb3.trans (hb4.mono hz3)
  have hz5 := hb5.size
  clear hw4 O2 hb4 hb3
  go_wp2_with (first | ((with_reducible apply ld); rfl; exact p1) | ((with_reducible apply ld); rfl; exact p2) | ((with_reducible apply wlit (pairF (PP F n) (QQ F n)) [PP F n, QQ F n]); rfl; rfl; exact Nat.succ_pos _; exact (by decide : 2 ≤ 1000); rfl) | ((with_reducible apply wapp); rfl; rfl; exact World.ownsRow.alloc O4.out _; exact secs_Secs (Blk.new _ _ _) (Nat.lt_succ_self _); omega; (simp; omega); intro v' w6 own6 grow6 hnil6))
  obtain ⟨g', cap'', rfl, _⟩ := OwnS.form own6 (fun e => by have := (hnil6.1 e).1; cases this)
  go_ret
  refine ⟨g', cap'', rfl, own6.mono fun i k hi _ => ?_, ?_⟩
  · unfold rowF catF pairF
    by_cases e1 : i < n
    · simp [e1]
    · by_cases e2 : i = n
      · subst e2; simp
      · obtain rfl : i = n + 1 := by omega
        simp
  · exact (hb5.alloc hz5 _).grown grow6 (by simp; omega) (fun k e => by have e2 : some g = some k := e; have e3 := Option.some.inj e2; omega)
set_option maxRecDepth 100000 in
theorem row_cut (A : Option Addr) (n cap : Nat) (F : Nat → Nat → Nat) (hF : ∀ i k, F i k < 256) (hn : n ≤ cap) (hc : cap ≤ maxLen) (hlong : 62 < n) (w : World) (hs : Secs w w.heap.size A n F) :
    Calls Try.prog 21 #[.slice A n cap] w (SomeOwn w (62 + 2) (rowF 62 F)) := by
  unfold maxLen at hc
  have t1 : min (n : Int) 62 = 62 := by omega
  have h1 : 1 ≤ 62 := by omega
  have h62 : 62 ≤ 62 := by omega
  obtain ⟨b, o, rfl, hB, hr⟩ := hs (by omega)
  have HS : RowKit.Hid (Secs (w.alloc (.cells #[] 25)) w.heap.size (some ⟨b, o, none⟩) 62 F) := hid fun _ => ⟨b, o, rfl, hB, fun i hi => rangeAt_below (hr i (by omega)) ((Below.refl _ _).alloc (Nat.le_refl _) _) hB⟩
  have HF := hid hF
  clear hs hF hr
  go_enter Try.func21, Try.ntmps21
  go_wp2_with ((with_reducible apply wapp (v := .slice (some ⟨w.heap.size, 0, none⟩) 0 0)); rfl; rfl; exact OwnS.empty w (Nat.le_refl _) F; exact HS.out; omega; (simp); intro v' w1 own grow hnil)
  obtain ⟨g, cap', rfl, hg1, hg2, hg3, _⟩ := OwnS.form own (fun e => by have := (hnil.1 e).1; cases this)
  rw [Nat.zero_add] at own hg3
  have own1 : OwnS w1 w.heap.size (.slice (some ⟨g, 0, none⟩) 62 cap') 62 F := own.mono fun i k _ _ => by simp [catF]
  have hb1 : Below w.heap.size w w1 := ((Below.refl _ _).alloc (Nat.le_refl _) _).grown grow (by simp) (fun k e => by simp [Value.ownBlock] at e; omega)
  clear own grow hnil HS
  have OF := hid (of_some (some ⟨g, 0, none⟩) 62 cap' F HF.out h1 h62 w1 own1.secs.1)
  have O1 := HID own1
  rw [Nat.zero_add]
  clear own1
  go_wp2_with fail
  refine OF.out.mono ?_
  rintro e w2 ⟨rfl, hb2⟩
  have O2 := HID (OwnS.below O1.out hb2 (Nat.le_refl _))
  have hb3 := hb1.trans (hb2.mono hb1.size)
  have hz1 := hb1.size
  have hz2 := hb2.size
  have hz3 := hb3.size
  clear O1 hb1 hb2 OF
  go_upto_region 3 with (first | ((with_reducible apply stx); rfl; rfl; exact (Blk.top zlit rfl).alloc _) | ((with_reducible apply stx); rfl; rfl; exact (Blk.top zlit (by simp)).setRow_other (by omega) _))
  generalize hw4 : World.setRow (World.setRow (World.alloc (World.alloc w2 _) _) _ _) _ _ = w4
  have p1 : Blk w4 w2.heap.size 25 (sec (PP F 62)) := by rw [← hw4]; exact (((Blk.top zlit rfl).alloc _).setRow_same _).setRow_other (by omega) _
  have p2 : Blk w4 (w2.heap.size + 1) 25 (sec (QQ F 62)) := by rw [← hw4]; exact ((Blk.top zlit (by simp)).setRow_other (by omega) _).setRow_same _
  have hb4 : Below w2.heap.size w2 w4 := by rw [← hw4]; exact below_setRow (below_setRow (((Below.refl _ _).alloc (Nat.le_refl _) _).alloc (by simp) _) (Nat.le_refl _) _) (by omega) _
  have O4 := HID (OwnS.below O2.out hb4 (Nat.le_refl _))
  have hb5 := hb3.trans (hb4.mono hz3)
  have hz5 := hb5.size
  clear hw4 O2 hb4 hb3
  go_wp2_with (first | ((with_reducible apply ld); rfl; exact p1) | ((with_reducible apply ld); rfl; exact p2) | ((with_reducible apply wlit (pairF (PP F 62) (QQ F 62)) [PP F 62, QQ F 62]); rfl; rfl; exact Nat.succ_pos _; exact (by decide : 2 ≤ 1000); rfl) | ((with_reducible apply wapp); rfl; rfl; exact World.ownsRow.alloc O4.out _; exact secs_Secs (Blk.new _ _ _) (Nat.lt_succ_self _); omega; (simp; omega); intro v' w6 own6 grow6 hnil6))
  obtain ⟨g', cap'', rfl, _⟩ := OwnS.form own6 (fun e => by have := (hnil6.1 e).1; cases this)
  go_ret
  refine ⟨g', cap'', rfl, own6.mono fun i k hi _ => ?_, ?_⟩
  · unfold rowF catF pairF
    by_cases e1 : i < 62
    · simp [e1]
    · by_cases e2 : i = 62
      · subst e2; simp
      · obtain rfl : i = 62 + 1 := by omega
        simp
  · exact (hb5.alloc hz5 _).grown grow6 (by simp; omega) (fun k e => by have e2 : some g = some k := e; have e3 := Option.some.inj e2; omega)
theorem row_some (A : Option Addr) (n cap : Nat) (F : Nat → Nat → Nat) (hF : ∀ i k, F i k < 256) (hn : n ≤ cap) (hc : cap ≤ maxLen) (h1 : 1 ≤ n) (w : World) (hs : Secs w w.heap.size A n F) :
    Calls Try.prog 21 #[.slice A n cap] w (SomeOwn w (min n 62 + 2) (rowF (min n 62) F)) := by
  by_cases h : n ≤ 62
  · rw [Nat.min_eq_left h]; exact row_few A n cap F hF hn hc h1 h w hs
  · rw [Nat.min_eq_right (by omega)]; exact row_cut A n cap F hF hn hc (by omega) w hs
set_option maxRecDepth 100000 in
theorem row_none (A : Option Addr) (cap : Nat) (hA : A = none → cap = 0) (w : World) :
    Calls Try.prog 21 #[.slice A 0 cap] w fun e w' => e = .returned (.slice none 0 0) ∧ Below w.heap.size w w' := by
  have F : Nat → Nat → Nat := fun _ _ => 0
  cases A with
  | none =>
    obtain rfl := hA rfl
    clear hA
    go_enter Try.func21, Try.ntmps21
    go_wp2_with ((with_reducible apply wapp_none); rfl; rfl; exact OwnS.empty w (Nat.le_refl _) F)
    have hb1 : Below w.heap.size w (w.alloc (.cells #[] 25)) := (Below.refl _ _).alloc (Nat.le_refl _) _
    generalize w.alloc (.cells #[] 25) = w1 at *
    refine (of_none _ 0 w1).mono ?_
    rintro e w2 ⟨rfl, hb2⟩
    have hb3 := hb1.trans (hb2.mono hb1.size)
    have hz1 := hb3.size
    go_wp2_with (first | ((with_reducible apply stx); rfl; rfl; exact (Blk.top zlit rfl).alloc _) | ((with_reducible apply stx); rfl; rfl; exact (Blk.top zlit (by simp)).setRow_other (by omega) _))
    go_ret
    exact ⟨rfl, below_setRow (below_setRow ((hb3.alloc hz1 _).alloc (by simp; omega) _) hz1 _) (by omega) _⟩
  | some ad =>
    go_enter Try.func21, Try.ntmps21
    go_wp2_with ((with_reducible apply wapp (v := .slice (some ⟨w.heap.size, 0, none⟩) 0 0)); rfl; rfl; exact OwnS.empty w (Nat.le_refl _) F; exact (fun h => absurd h (by omega) : Secs _ w.heap.size (some ad) 0 F); omega; (simp); intro v' w1 own grow hnil)
    obtain ⟨g, cap', rfl, _⟩ := OwnS.form own (fun e => by have := (hnil.1 e).1; cases this)
    have hb1 : Below w.heap.size w w1 := ((Below.refl _ _).alloc (Nat.le_refl _) _).grown grow (by simp) (fun k e => by simp [Value.ownBlock] at e; omega)
    clear own grow hnil
    go_wp2_with fail
    refine (of_none _ cap' w1).mono ?_
    rintro e w2 ⟨rfl, hb2⟩
    have hb3 := hb1.trans (hb2.mono hb1.size)
    have hz1 := hb3.size
    go_wp2_with (first | ((with_reducible apply stx); rfl; rfl; exact (Blk.top zlit rfl).alloc _) | ((with_reducible apply stx); rfl; rfl; exact (Blk.top zlit (by simp)).setRow_other (by omega) _))
    go_ret
    exact ⟨rfl, below_setRow (below_setRow ((hb3.alloc hz1 _).alloc (by simp; omega) _) hz1 _) (by omega) _⟩
end Go.Proofs.Yteoccdcebgcdmaa
