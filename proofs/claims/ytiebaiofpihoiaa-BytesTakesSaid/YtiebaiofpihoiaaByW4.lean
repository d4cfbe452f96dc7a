/-
  The walk of BytesOwn.
-/
import Derived.Test.YtiebaiofpihoiaaByW2
import Derived.Test.YtiebaiofpihoiaaByCut2
import Derived.Test.YtiebaiofpihoiaaByW1
namespace Go.Proofs.Ytiebaiofpihoiaa
open Go.ChangeShapes Go.WideShapes Go.ChangeAt Go.RowKit
attribute [local go_sem] Gives
/-- The first k cells of a row are bytes. -/
def Cur (w : World) (g k : Nat) : Prop := ∃ cur, Blk w g 5 cur ∧ ∀ i, i < k → ∃ x : Nat, x < 256 ∧ cur[i]? = some (.int .u8 (x : Nat))
theorem Own.cur {w : World} {B k n c g : Nat} {l : List Nat} (h : Own 5 .u8 w B (.slice (some ⟨g, 0, none⟩) n c) l) (hk : k ≤ l.length) (h6 : B256 l) : Cur w g k := by
  rcases h.2 with ⟨e, _⟩ | ⟨g', cap, cur, e, hB, hg, hnc, hcm, hcs, ht⟩
  · cases e
  · simp only [Value.slice.injEq, Option.some.injEq, Addr.mk.injEq, and_true, true_and] at e
    obtain ⟨rfl, _, _⟩ := e
    refine ⟨cur, hg, fun i hi => ⟨l.getD i 0, ?_, ?_⟩⟩
    · rw [nums_at (by omega)]; exact h6 _ (List.getElem_mem (by omega))
    · have h1 := nums_get .u8 (show i < l.length by omega)
      rw [← ht, List.getElem?_take_of_lt (by omega), Array.getElem?_toList] at h1
      exact h1
theorem Cur.cell {w : World} {g k : Nat} (h : Cur w g k) {i : Nat} (hi : i < k) : ∃ x : Nat, x < 256 ∧ w.cell? ⟨g, i, none⟩ = some (.int .u8 (x : Nat)) ∧ w.frozen? ⟨g, i, none⟩ = false := by
  obtain ⟨cur, h1, h2⟩ := h
  obtain ⟨x, hx, hc⟩ := h2 i hi
  exact ⟨x, hx, (h1.cell i).trans hc, h1.frozen i⟩
theorem Cur.set {w : World} {g k i x : Nat} (h : Cur w g k) (hx : x < 256) : Cur (w.setCell ⟨g, i, none⟩ (.int .u8 (x : Nat))) g k := by
  obtain ⟨cur, h1, h2⟩ := h
  refine ⟨_, h1.setCell_same i _, fun j hj => ?_⟩
  obtain ⟨y, hy, hc⟩ := h2 j hj
  have hlt := (Array.getElem?_eq_some_iff.1 hc).1
  rw [Array.getElem?_setIfInBounds]
  by_cases e : i = j
  · subst e; rw [if_pos rfl, if_pos hlt]; exact ⟨x, hx, rfl⟩
  · rw [if_neg e]; exact ⟨y, hy, hc⟩
theorem Cur.below {w w' : World} {g k B : Nat} (h : Cur w g k) (hb : Below B w w') (hg : g < B) : Cur w' g k := by
  obtain ⟨cur, h1, h2⟩ := h
  exact ⟨cur, h1.below hb hg, h2⟩
theorem eights (w : World) : Nums .u8 (w.alloc (.cells #[.int .u8 1, .int .u8 2, .int .u8 3, .int .u8 4, .int .u8 5, .int .u8 6, .int .u8 7, .int .u8 8] 5)) (w.heap.size + 1) (some ⟨w.heap.size, 0, none⟩) [1, 2, 3, 4, 5, 6, 7, 8] :=
  Nums.row (Blk.top (cs := #[.int .u8 1, .int .u8 2, .int .u8 3, .int .u8 4, .int .u8 5, .int .u8 6, .int .u8 7, .int .u8 8]) rfl rfl) (Nat.lt_succ_self _) fun j hj => by
    match j, hj with
    | 0, _ => rfl
    | 1, _ => rfl
    | 2, _ => rfl
    | 3, _ => rfl
    | 4, _ => rfl
    | 5, _ => rfl
    | 6, _ => rfl
    | 7, _ => rfl
theorem eights_256 : B256 [1, 2, 3, 4, 5, 6, 7, 8] := fun x hx => by
  have : ([1, 2, 3, 4, 5, 6, 7, 8] : List Nat).all (fun x => decide (x < 256)) = true := by decide
  exact of_decide_eq_true (List.all_eq_true.1 this x hx)
theorem own_eight {w : World} {B k : Nat} {v : Value} {l : List Nat} (ho : Own 5 .u8 w B v ([] ++ l ++ [1, 2, 3, 4, 5, 6, 7, 8])) (hl : l.length = k) (h6 : B256 l) :
    ∃ g c, v = .slice (some ⟨g, 0, none⟩) (k + 8) c ∧ (k : Int) ≤ (c : Int) ∧ ((k : Int) + 8 ≤ (c : Int)) ∧ c ≤ 9223372036854775807 ∧ Hid (B ≤ g) ∧ Hid (g < w.heap.size) ∧ Hid (Arg w (some ⟨g, 0, none⟩) l k c) ∧ Hid (w.cell? ⟨g, k, none⟩ = some (.int .u8 1) ∧ w.cell? ⟨g, k + 1, none⟩ = some (.int .u8 2)) ∧ Hid (Cur w g k) := by
  obtain ⟨g, c, e, h1, h2, h3, h4, h5, h7⟩ := own_more ho hl h6 eights_256 (by decide)
  have h3' : k + 8 ≤ c := h3
  unfold maxLen at h4
  obtain ⟨b, o, e2, _, hr⟩ := h7.byt (by decide)
  cases e2
  have r0 := hr 0 (by decide)
  have r1 := hr 1 (by decide)
  have e' : v = .slice (some ⟨g, 0, none⟩) (k + 8) c := e
  rw [e', List.nil_append] at ho
  exact ⟨g, c, e, by omega, by omega, by omega, hid h1, hid h2, hid h5, hid ⟨r0, r1⟩, hid (ho.cur (by rw [List.length_append]; omega) (h6.append eights_256))⟩
/-- Of a slice of the call's own the first k bytes. -/
theorem own_first {w : World} {B k j : Nat} {v : Value} {l m : List Nat} (ho : Own 5 .u8 w B v (l ++ m)) (hl : l.length = k) (hm : m.length = j) (h6 : B256 l) (h7 : B256 m) (hj : 0 < j) :
    ∃ g c, v = .slice (some ⟨g, 0, none⟩) (k + j) c ∧ (k : Int) ≤ (c : Int) ∧ Hid (B ≤ g) ∧ Hid (Arg w (some ⟨g, 0, none⟩) l k c) := by
  obtain ⟨g, c, e, h1, h2, h3, h4, h5, _⟩ := own_more (by rw [List.nil_append]; exact ho) hl h6 h7 (by omega)
  rw [hm] at e h3
  exact ⟨g, c, e, by omega, hid h1, hid h5⟩
theorem Arg.other {w w' : World} {g : Nat} {K : Option Addr} {key : List Nat} {kn kcap : Nat} (h : Arg w K key kn kcap) (hg : w.grownBy w' (some g)) (hne : ∀ b o, K = some ⟨b, o, .none⟩ → b ≠ g) : Arg w' K key kn kcap where
  len := h.len
  cap := h.cap
  max := h.max
  b256 := h.b256
  none := h.none
  byt hn := by
    obtain ⟨b, o, rfl, hl, hr⟩ := h.byt hn
    exact ⟨b, o, rfl, Nat.lt_of_lt_of_le hl hg.size, fun i hi => hg.cell (hr i hi) fun e => hne b o rfl (Option.some.inj e)⟩
theorem one_256 : B256 [9] := fun x hx => by rw [List.mem_singleton.1 hx]; omega
set_option maxHeartbeats 800000 in
set_option maxRecDepth 100000 in
theorem own_law (A : Option Addr) (l : List Nat) (n cap : Nat) (w : World) (hA : Arg w A l n cap) :
    Calls Try.prog 8 #[.slice A n cap] w fun e w' => e = .returned (.bool true) ∧ Below w.heap.size w w' := by
  have C := hid fun w => lcut_any A n cap hA.cap hA.max w
  have a5 := hA.cutN 5000
  have hk : min n 5000 ≤ 5000 := by omega
  generalize l.take 5000 = l5 at *
  generalize min n 5000 = k at *
  have H5 := hid a5
  clear hA a5
  go_enter Try.func8, Try.ntmps8
  go_wp2_with fail
  refine (C.out w).mono ?_
  rintro e w' ⟨rfl, rfl⟩
  clear C
  go_upto_region 2 with fail
  have OE : Hid (Own 5 .u8 (w.alloc (.cells #[] 5)) w.heap.size (.slice (some ⟨w.heap.size, 0, none⟩) 0 0) []) := hid (Own.empty w (Nat.le_refl _))
  have BE := hid ((Below.refl w.heap.size w).alloc (Nat.le_refl _) (.cells #[] 5))
  have AE := hid (H5.out.on BE.out)
  go_upto_region 4 with (first
    | (at_builtin; (with_reducible apply wappN_any eltB); rfl; rfl; exact AE.out.none; exact OE.out; exact AE.out.byt.nums; exact AE.out.len; (rw [List.length_nil]; omega); (simp); intro v2 w2 o2 g2)
    | (at_builtin; (with_reducible apply wappN eltB); rfl; rfl; exact o2.alloc _; exact eights w2; rfl; (rw [List.nil_append, H5.out.len]; omega); (have hz9 := g2.size; simp at hz9 ⊢; omega); intro v3 w3 o3 g3; obtain ⟨g4, c3, e3, k1, k2, k3, k4, k5, k6, k7, k8⟩ := own_eight o3 H5.out.len H5.out.b256; subst e3))
  have M2 := below_grown BE.out g2 OE.out (Nat.le_refl _) (Nat.le_refl _)
  have M3 := hid (below_grown (M2.alloc M2.size (.cells #[.int .u8 1, .int .u8 2, .int .u8 3, .int .u8 4, .int .u8 5, .int .u8 6, .int .u8 7, .int .u8 8] 5)) g3 o2 (Nat.le_refl _) (Nat.le_refl _))
  clear M2 g2 g3 o2 o3 AE OE BE
  go_wp2_with fail
  refine (pnum_any (some ⟨g4, 0, none⟩) l5 k c3 (by omega) 4 77 (by decide) w3 k6.out).mono ?_
  rintro e w4 ⟨v4, rfl, o4, b4⟩
  obtain ⟨g5, c5, e5, hc5, hB5, a5⟩ := own_first (k := k) (j := 4) o4 H5.out.len (BytM.dig_length _ _) H5.out.b256 (BytM.dig_256 _ _) (by omega)
  subst e5
  have M4 := hid (M3.out.trans (b4.mono M3.out.size))
  have K4 := hid (k6.out.on b4)
  have Z4 := hid (And.intro ((b4.cell (p := ⟨g4, k, none⟩) k5.out).trans k7.out.1) ((b4.cell (p := ⟨g4, k + 1, none⟩) k5.out).trans k7.out.2))
  have X4 := hid (k8.out.below b4 k5.out)
  have G4 := hid (Nat.lt_of_lt_of_le k5.out b4.size)
  have hz34 := Nat.lt_of_lt_of_le k5.out hB5.out
  have HN := hid hz34
  clear o4 b4 k6 k7 k8 M3 hz34
  go_wp2_with fail
  refine (ptext_any (some ⟨g4, 0, none⟩) l5 k c3 (by omega) ⟨#[97, 98]⟩ (by decide) w4 K4.out).mono ?_
  rintro e w5 ⟨v5, rfl, o5, b5⟩
  obtain ⟨g6, c6, e6, hc6, hB6, a6⟩ := own_first (k := k) (j := 4) o5 H5.out.len rfl H5.out.b256 (BytM.txt_256 (nats_256 _)) (by omega)
  subst e6
  have M5 := hid (M4.out.trans (b5.mono M4.out.size))
  have A5 := hid (a5.out.on b5)
  have Z5 := And.intro ((b5.cell (p := ⟨g4, k, none⟩) G4.out).trans Z4.out.1) ((b5.cell (p := ⟨g4, k + 1, none⟩) G4.out).trans Z4.out.2)
  have X5 := hid (X4.out.below b5 G4.out)
  have HN6 := hid (Nat.lt_of_lt_of_le G4.out hB6.out)
  obtain ⟨z1, z2⟩ := Z5
  clear o5 b5 Z4 X4 K4 M4 a5 k5 G4
  have t1 : (k : Int) < ((k + 8 : Nat) : Int) := by omega
  have t2 : (k : Int) + 1 < ((k + 8 : Nat) : Int) := by omega
  go_wp2_with fail
  clear z1 z2 t1 t2
  have A6 := hid a6
  clear a6
  go_loopw [9] (fun i wr => ∃ (j : Nat), j ≤ k ∧ i = .int .i64 j ∧ Hid (w5.grownBy wr (some g4)) ∧ Hid (Cur wr g4 k)) (fun i _ => k - (intOf i).toNat)
  case atStart => exact ⟨0, by omega, rfl, hid (grown_refl _ _), X5⟩
  case round =>
    clear X5
    obtain ⟨j, hj, rfl, hg, hc⟩ := hrel
    by_cases hlt : j < k
    · have tj : (j : Int) < (k : Int) := by omega
      obtain ⟨x, hx, q1, q2⟩ := hc.out.cell hlt
      have hc2 := hid (hc.out.set (i := j) (x := (x + 1) % 256) (Nat.mod_lt _ (by omega)))
      have hg2 := hid (grown_trans hg.out (grown_setCell wr g4 j (.int .u8 (((x + 1) % 256 : Nat) : Int))))
      have ex : (((x + 1) % 256 : Nat) : Int) = ((x : Int) + 1) % 256 := by omega
      rw [ex] at hc2 hg2
      clear ex
      go_wp2_with fail
      go_roundw
      case rel => exact ⟨j + 1, by omega, by go_num, hg2, hc2⟩
      case measure => simp [intOf] <;> omega
    · obtain rfl : j = k := by omega
      have BR := hid (M5.out.grown hg.out M5.out.size fun k e => by cases e; exact k4.out)
      have HA := hid (H5.out.on BR.out)
      have P5 := hid (A5.out.other hg.out fun b o e => by cases e; exact Nat.ne_of_gt HN.out)
      have P6 := hid (A6.out.other hg.out fun b o e => by cases e; exact Nat.ne_of_gt HN6.out)
      have OP := hid (open_any A l5 j cap (by omega) wr HA.out)
      have HL := hid H5.out.len
      have H6 := hid H5.out.b256
      have hj5 : j ≤ 5000 := hk
      clear hg hc hlt A5 A6 M5 H5
      go_wp2_with fail
      refine OP.out.mono ?_
      rintro e w7 ⟨g7, rfl, t7, b7⟩
      have TB := tbytes_any w7 t7 (fun l e => by cases e; rw [HL.out]; omega) (j : Nat)
      have hcL : BytM.cutL (some l5) (j : Nat) = l5 := by
        unfold BytM.cutL; dsimp only; rw [if_pos (by rw [HL.out]; omega), Int.toNat_natCast, List.take_of_length_le (by rw [HL.out]; exact Nat.le_refl _)]
      have hcS : BytM.cutS (some l5) (j : Nat) = some [] := by
        unfold BytM.cutS; dsimp only; rw [if_pos (by rw [HL.out]; omega), Int.toNat_natCast, List.drop_of_length_le (by rw [HL.out]; exact Nat.le_refl _)]
      rw [hcL, hcS] at TB
      have TB' := hid TB
      have B7 := hid b7
      have G7 := hid t7.le
      have G7l := hid t7.lt
      clear TB hcL hcS t7 b7 OP
      go_wp2_with fail
      refine TB'.out.mono ?_
      rintro e w8 ⟨v8, rfl, o8, t8, g8⟩
      have O8 := hid o8
      have T8 := hid t8
      have B8 := hid (below_by B7.out g8 G7.out (Nat.le_refl _))
      have S78 := hid g8.size
      clear o8 t8 g8 TB'
      go_upto_region 15 with (at_builtin; (with_reducible apply wappN eltB); rfl; rfl; exact O8.out.alloc _; exact nums_one (x := 9) (B := w8.heap.size + 1) rfl (Nat.lt_succ_self _); rfl; (rw [HL.out]; omega); (simp; have := S78.out; omega); intro v9 w9 o9 g9; obtain ⟨g10, c10, e10, hc10, hB10, a10⟩ := own_first (k := j) (j := 1) o9 HL.out rfl H6.out one_256 (by omega); subst e10)
      have hge : ∀ k, v8.ownBlock = some k → w7.heap.size ≤ k := fun k e => (World.ownsRow.lt O8.out k e).1
      have T9 := hid ((T8.out.below ((Below.refl w8.heap.size w8).alloc (Nat.le_refl _) (.cells #[.int .u8 ((9 : Nat) : Int)] 5)) T8.out.lt).gr g9 fun k e => .inr (Nat.lt_of_lt_of_le G7l.out (hge k e)))
      have B9 := hid ((B8.out.alloc B8.out.size (.cells #[.int .u8 ((9 : Nat) : Int)] 5)).grown g9 (by simp; have := B8.out.size; omega) fun k e => Nat.le_trans B7.out.size (hge k e))
      have Q5 := hid (P5.out.on B9.out)
      have Q6 := hid (P6.out.on B9.out)
      have QA := hid (HA.out.on B9.out)
      have BF := hid (BR.out.trans (B9.out.mono BR.out.size))
      clear o9 g9 hge T8 O8 B8 P5 P6
      have a10' := a10
      have hcc : decide ((some [] : BytM.Tp) = some []) = true := rfl
      clear a10
      go_wp2_with fail
      refine wp_region_tail (C := fun w' => Below w9.heap.size w9 w') 35 (by kernel_rfl) (by kernel_rfl) (by kernel_rfl) (Below.refl _ _).drew ?_
      simp only [List.take_succ_cons, List.take_zero, List.drop_succ_cons, List.drop_zero]
      apply wpK_val
      · rfl
      · intro w' hw'
        go_simp
        first | exact rfl | exact ⟨rfl, hw'⟩
      simp only [Act.put, List.setIfInBounds_toArray, List.set_cons_succ, List.set_cons_zero]
      apply wpK_val
      · rfl
      · intro w' hw'
        go_simp
        first | exact rfl | exact ⟨rfl, hw'⟩
      simp only [Act.put, List.setIfInBounds_toArray, List.set_cons_succ, List.set_cons_zero]
      apply wpK_val
      · rfl
      · intro w' hw'
        go_simp
        first | exact rfl | exact ⟨rfl, hw'⟩
      simp only [Act.put, List.setIfInBounds_toArray, List.set_cons_succ, List.set_cons_zero]
      apply wpK_val
      · rfl
      · intro w' hw'
        go_simp
        first | exact rfl | exact ⟨rfl, hw'⟩
      simp only [Act.put, List.setIfInBounds_toArray, List.set_cons_succ, List.set_cons_zero]
      apply wpK_val
      · rfl
      · intro w' hw'
        have h1 : _ := (Q5.out.on hw').str
        go_simp
        first | exact rfl | exact ⟨rfl, hw'⟩
      simp only [Act.put, List.setIfInBounds_toArray, List.set_cons_succ, List.set_cons_zero]
      apply wpK_val
      · rfl
      · intro w' hw'
        go_simp
        first | exact rfl | exact ⟨rfl, hw'⟩
      simp only [Act.put, List.setIfInBounds_toArray, List.set_cons_succ, List.set_cons_zero]
      apply wpK_val
      · rfl
      · intro w' hw'
        have h1 : _ := (QA.out.on hw').str
        go_simp
        first | exact rfl | exact ⟨rfl, hw'⟩
      simp only [Act.put, List.setIfInBounds_toArray, List.set_cons_succ, List.set_cons_zero]
      apply wpK_val
      · rfl
      · intro w' hw'
        have h1 : ((str l5).toList == (str l5).toList) = true := beq_self_eq_true _
        go_simp
        first | exact rfl | exact ⟨rfl, hw'⟩
      simp only [Act.put, List.setIfInBounds_toArray, List.set_cons_succ, List.set_cons_zero]
      apply wpK_val
      · rfl
      · intro w' hw'
        go_simp
        first | exact rfl | exact ⟨rfl, hw'⟩
      simp only [Act.put, List.setIfInBounds_toArray, List.set_cons_succ, List.set_cons_zero]
      apply wpK_val
      · rfl
      · intro w' hw'
        go_simp
        first | exact rfl | exact ⟨rfl, hw'⟩
      simp only [Act.put, List.setIfInBounds_toArray, List.set_cons_succ, List.set_cons_zero]
      apply wpK_val
      · rfl
      · intro w' hw'
        go_simp
        first | exact rfl | exact ⟨rfl, hw'⟩
      simp only [Act.put, List.setIfInBounds_toArray, List.set_cons_succ, List.set_cons_zero]
      apply wpK_val
      · rfl
      · intro w' hw'
        go_simp
        first | exact rfl | exact ⟨rfl, hw'⟩
      simp only [Act.put, List.setIfInBounds_toArray, List.set_cons_succ, List.set_cons_zero]
      apply wpK_val
      · rfl
      · intro w' hw'
        go_simp
        first | exact rfl | exact ⟨rfl, hw'⟩
      simp only [Act.put, List.setIfInBounds_toArray, List.set_cons_succ, List.set_cons_zero]
      apply wpK_val
      · rfl
      · intro w' hw'
        have h1 : _ := (Q6.out.on hw').str
        go_simp
        first | exact rfl | exact ⟨rfl, hw'⟩
      simp only [Act.put, List.setIfInBounds_toArray, List.set_cons_succ, List.set_cons_zero]
      apply wpK_val
      · rfl
      · intro w' hw'
        go_simp
        first | exact rfl | exact ⟨rfl, hw'⟩
      simp only [Act.put, List.setIfInBounds_toArray, List.set_cons_succ, List.set_cons_zero]
      apply wpK_val
      · rfl
      · intro w' hw'
        have h1 : _ := (QA.out.on hw').str
        go_simp
        first | exact rfl | exact ⟨rfl, hw'⟩
      simp only [Act.put, List.setIfInBounds_toArray, List.set_cons_succ, List.set_cons_zero]
      apply wpK_val
      · rfl
      · intro w' hw'
        have h1 : ((str l5).toList == (str l5).toList) = true := beq_self_eq_true _
        go_simp
        first | exact rfl | exact ⟨rfl, hw'⟩
      simp only [Act.put, List.setIfInBounds_toArray, List.set_cons_succ, List.set_cons_zero]
      apply wpK_val
      · rfl
      · intro w' hw'
        go_simp
        first | exact rfl | exact ⟨rfl, hw'⟩
      simp only [Act.put, List.setIfInBounds_toArray, List.set_cons_succ, List.set_cons_zero]
      apply wpK_val
      · rfl
      · intro w' hw'
        go_simp
        first | exact rfl | exact ⟨rfl, hw'⟩
      simp only [Act.put, List.setIfInBounds_toArray, List.set_cons_succ, List.set_cons_zero]
      apply wpK_val
      · rfl
      · intro w' hw'
        go_simp
        first | exact rfl | exact ⟨rfl, hw'⟩
      simp only [Act.put, List.setIfInBounds_toArray, List.set_cons_succ, List.set_cons_zero]
      apply wpK_val
      · rfl
      · intro w' hw'
        go_simp
        first | exact rfl | exact ⟨rfl, hw'⟩
      simp only [Act.put, List.setIfInBounds_toArray, List.set_cons_succ, List.set_cons_zero]
      apply wpK_val
      · rfl
      · intro w' hw'
        go_simp
        first | exact rfl | exact ⟨rfl, hw'⟩
      simp only [Act.put, List.setIfInBounds_toArray, List.set_cons_succ, List.set_cons_zero]
      apply wpK_val
      · rfl
      · intro w' hw'
        go_simp
        first | exact rfl | exact ⟨rfl, hw'⟩
      simp only [Act.put, List.setIfInBounds_toArray, List.set_cons_succ, List.set_cons_zero]
      apply wpK_val
      · rfl
      · intro w' hw'
        have h1 : _ := (a10'.out.on hw').str
        go_simp
        first | exact rfl | exact ⟨rfl, hw'⟩
      simp only [Act.put, List.setIfInBounds_toArray, List.set_cons_succ, List.set_cons_zero]
      apply wpK_val
      · rfl
      · intro w' hw'
        go_simp
        first | exact rfl | exact ⟨rfl, hw'⟩
      simp only [Act.put, List.setIfInBounds_toArray, List.set_cons_succ, List.set_cons_zero]
      apply wpK_val
      · rfl
      · intro w' hw'
        have h1 : _ := (QA.out.on hw').str
        go_simp
        first | exact rfl | exact ⟨rfl, hw'⟩
      simp only [Act.put, List.setIfInBounds_toArray, List.set_cons_succ, List.set_cons_zero]
      apply wpK_val
      · rfl
      · intro w' hw'
        have h1 : ((str l5).toList == (str l5).toList) = true := beq_self_eq_true _
        go_simp
        first | exact rfl | exact ⟨rfl, hw'⟩
      simp only [Act.put, List.setIfInBounds_toArray, List.set_cons_succ, List.set_cons_zero]
      apply wpK_val
      · rfl
      · intro w' hw'
        go_simp
        first | exact rfl | exact ⟨rfl, hw'⟩
      simp only [Act.put, List.setIfInBounds_toArray, List.set_cons_succ, List.set_cons_zero]
      apply wpK_val
      · rfl
      · intro w' hw'
        go_simp
        first | exact rfl | exact ⟨rfl, hw'⟩
      simp only [Act.put, List.setIfInBounds_toArray, List.set_cons_succ, List.set_cons_zero]
      apply wpK_val
      · rfl
      · intro w' hw'
        go_simp
        first | exact rfl | exact ⟨rfl, hw'⟩
      simp only [Act.put, List.setIfInBounds_toArray, List.set_cons_succ, List.set_cons_zero]
      apply wpK_val
      · rfl
      · intro w' hw'
        go_simp
        exact (end_any _ (T9.out.below hw' T9.out.lt)).mono fun e w'' ⟨he, hb''⟩ => ⟨he, hb'' ▸ hw'⟩
      simp only [Act.put, List.setIfInBounds_toArray, List.set_cons_succ, List.set_cons_zero]
      apply wpK_val
      · rfl
      · intro w' hw'
        go_simp
        first | exact rfl | exact ⟨rfl, hw'⟩
      simp only [Act.put, List.setIfInBounds_toArray, List.set_cons_succ, List.set_cons_zero]
      apply wpK_val
      · rfl
      · intro w' hw'
        go_simp
        first | exact rfl | exact ⟨rfl, hw'⟩
      simp only [Act.put, List.setIfInBounds_toArray, List.set_cons_succ, List.set_cons_zero]
      apply wpK_val
      · rfl
      · intro w' hw'
        go_simp
        exact (works_any _).mono fun e w'' ⟨he, hb''⟩ => ⟨he, hw'.trans (hb''.mono hw'.size)⟩
      simp only [Act.put, List.setIfInBounds_toArray, List.set_cons_succ, List.set_cons_zero]
      apply wpK_val
      · rfl
      · intro w' hw'
        go_simp
        first | exact rfl | exact ⟨rfl, hw'⟩
      simp only [Act.put, List.setIfInBounds_toArray, List.set_cons_succ, List.set_cons_zero]
      refine wpK_nil fun w11 hw11 => ?_
      have b11 := BF.out.trans (hw11.mono BF.out.size)
      clear hw11
      go_wp2_with fail
      go_ret
      exact ⟨rfl, b11⟩
end Go.Proofs.Ytiebaiofpihoiaa
