/-
  Contracts of the document's Parts and Same (casemateref06) over this translation.
-/
import Derived.Test.YtiebaiofpihoiaaByOpen
import Derived.Test.YtiebaiofpihoiaaSlc
import Derived.Test.YtiebaiofpihoiaaRegion
namespace Go.Proofs.Ytiebaiofpihoiaa
open Go.ChangeShapes Go.WideShapes Go.ChangeAt Go.RowKit
attribute [local go_sem] Gives
/-- The parts' bytes lie in rows of bytes. -/
def PT (w : World) (cs : List Value) : Prop := ∀ (j b o n c : Nat), cs[j]? = some (Value.slice (some ⟨b, o, none⟩) n c) → 0 < n → ∃ xs : Array Value, w.heap[b]? = some (Obj.cells xs 5 (0, 0))
theorem PT.nil {w : World} : PT w [] := fun j b o n c h => by simp at h
theorem PT.keep {w w' : World} {r : Option Nat} {cs : List Value} (h : PT w cs) (hg : w.grownBy w' r) (hr : ∀ (k : Nat) (cur : Array Value), r = some k → w.heap[k]? = some (Obj.cells cur 5 (0, 0)) → False) : PT w' cs := fun j b o n c hj hn => by
  obtain ⟨xs, hx⟩ := h j b o n c hj hn
  have hlt : b < w.heap.size := Blk.lt (t := 5) (cs := xs) hx
  exact ⟨xs, (hg.block b hlt fun e => hr b xs e.symm hx).trans hx⟩
theorem PT.snoc {w : World} {cs : List Value} (h : PT w cs) {B : Nat} {v : Value} {l : List Nat} (ho : Own 5 .u8 w B v l) : PT w (cs ++ [v]) := fun j b o n c hj hn => by
  by_cases e : j < cs.length
  · rw [List.getElem?_append_left e] at hj
    exact h j b o n c hj hn
  · rw [List.getElem?_append_right (by omega)] at hj
    have e2 : j - cs.length = 0 := by
      have := (List.getElem?_eq_some_iff.1 hj).1
      simp at this; omega
    rw [e2] at hj
    simp only [List.getElem?_cons_zero, Option.some.injEq] at hj
    subst hj
    rcases ho.2 with ⟨e3, h0⟩ | ⟨g, cap, cur, e3, hB, hg, _⟩
    · cases e3
    · simp only [Value.slice.injEq, Option.some.injEq, Addr.mk.injEq, and_true] at e3
      obtain ⟨⟨rfl, rfl⟩, _, _⟩ := e3
      exact ⟨cur, hg⟩
theorem OwnP.row {w : World} {B : Nat} {v : Value} {cs : List Value} (h : OwnP w B v cs) {k : Nat} (hk : v.ownBlock = some k) : ∃ cur : Array Value, w.heap[k]? = some (Obj.cells cur 22 (0, 0)) := by
  rcases h.2 with ⟨rfl, _⟩ | ⟨g, cap, cur, rfl, hB, hg, _⟩
  · cases hk
  · cases hk
    exact ⟨cur, hg⟩
theorem PT.ne {w : World} {cs' : List Value} {B : Nat} {v : Value} (ho : OwnP w B v cs') : ∀ (k : Nat) (cur : Array Value), v.ownBlock = some k → w.heap[k]? = some (Obj.cells cur 5 (0, 0)) → False := fun k cur hk hc => by
  obtain ⟨c2, h2⟩ := ho.row hk
  rw [hc] at h2
  have : (5 : TypeId) = 22 := by
    simp only [Option.some.injEq, Obj.cells.injEq] at h2
    exact h2.2.1
  exact absurd this (by decide)
/-- What is read of the parts, as long as only rows of other things are turned. -/
theorem PRd.keep {w w' : World} {lo hi : Nat} {r : Option Nat} {cs : List Value} {ls : List (List Nat)} (h : PRd w lo hi cs ls) (ht : PT w cs) (hg : w.grownBy w' r) (hr : ∀ (k : Nat) (cur : Array Value), r = some k → w.heap[k]? = some (Obj.cells cur 5 (0, 0)) → False) : PRd w' lo hi cs ls :=
  ⟨h.1, fun j hj => by
    obtain ⟨A', c, h1, h2⟩ := h.2 j hj
    refine ⟨A', c, h1, h2.len, h2.cap, h2.max, h2.b256, h2.none, fun hn => ?_⟩
    obtain ⟨b, o, rfl, k1, k2, k3⟩ := h2.byt hn
    obtain ⟨xs, hx⟩ := ht j b o _ c h1 hn
    exact ⟨b, o, rfl, k1, k2, fun i hi => hg.cell (k3 i hi) fun e => hr b xs e.symm hx⟩⟩
theorem PRd.more {w : World} {lo hi hi' : Nat} {cs : List Value} {ls : List (List Nat)} (h : PRd w lo hi cs ls) (hh : hi ≤ hi') : PRd w lo hi' cs ls :=
  ⟨h.1, fun j hj => by
    obtain ⟨A', c, h1, h2⟩ := h.2 j hj
    exact ⟨A', c, h1, h2.len, h2.cap, h2.max, h2.b256, h2.none, h2.byt.more hh⟩⟩
set_option maxHeartbeats 800000 in
set_option maxRecDepth 100000 in
theorem rsame_any (A : Option Addr) (l : List (List Nat)) (n cap : Nat) (A' : Option Addr) (l' : List (List Nat)) (n' cap' : Nat) (w : World) (h : Rws w A l n cap) (h' : Rws w A' l' n' cap') :
    Calls Try.prog 20 #[.slice A n cap, .slice A' n' cap'] w fun e w' => e = .returned (.bool (decide (l = l'))) ∧ Below w.heap.size w w' := by
  obtain ⟨b, hb⟩ : ∃ b, b = decide (l = l') := ⟨_, rfl⟩
  rw [← hb]
  have HB := hid hb
  have H := hid h
  have H' := hid h'
  have hl := h.len
  have hl' := h'.len
  have hm := h.max
  have hc := h.cap
  unfold maxLen at hm
  clear hb h h'
  by_cases hnn : n = n'
  · subst hnn
    have HL := hid hl
    have HL' := hid hl'
    clear hl hl'
    go_enter Try.func20, Try.ntmps20
    go_wp2_with fail
    go_loopw [5] (fun i wr => ∃ (k : Nat), k ≤ n ∧ i = .int .i64 k ∧ Hid (∀ j, j < k → l.getD j [] = l'.getD j []) ∧ Hid (Below w.heap.size w wr)) (fun i _ => n - (intOf i).toNat)
    case atStart => exact ⟨0, by omega, rfl, hid (fun j hj => absurd hj (by omega)), hid (Below.refl _ _)⟩
    case round =>
      obtain ⟨k, hk, rfl, he, hb⟩ := hrel
      by_cases hlt : k < n
      · have tk : (k : Int) < (n : Int) := by omega
        obtain ⟨g, o, P, c, rfl, _, q0, a0⟩ := (H.out.on hb.out).part hlt
        obtain ⟨g', o', P', c', rfl, _, q1, a1⟩ := (H'.out.on hb.out).part hlt
        have Q0 := hid fun w' (hw : Below wr.heap.size wr w') => (hw.cell (World.block_lt_of_cell? wr ⟨g, o + k, none⟩ q0)).trans q0
        have Q1 := hid fun w' (hw : Below wr.heap.size wr w') => (hw.cell (World.block_lt_of_cell? wr ⟨g', o' + k, none⟩ q1)).trans q1
        obtain ⟨x, hx⟩ : ∃ x, x = l.getD k [] := ⟨_, rfl⟩
        obtain ⟨y, hy⟩ : ∃ y, y = l'.getD k [] := ⟨_, rfl⟩
        rw [← hx] at q0 a0 Q0
        rw [← hy] at q1 a1 Q1
        have HX := hid hx
        have HY := hid hy
        have A0 := hid a0
        have A1 := hid a1
        generalize x.length = X at *
        generalize y.length = Y at *
        clear q0 q1 hx hy a0 a1
        go_wp2_with fail
        refine wp_region_tail (C := fun w' => Below wr.heap.size wr w') 11 (by kernel_rfl) (by kernel_rfl) (by kernel_rfl) (Below.refl _ _).drew ?_
        simp only [List.take_succ_cons, List.take_zero, List.drop_succ_cons, List.drop_zero]
        apply wpK_val
        · rfl
        · intro w' hw'
          go_simp
          first | exact rfl | exact ⟨rfl, hw'⟩
        simp only [Act.put, List.setIfInBounds_toArray, List.set_cons_succ, List.set_cons_zero]
        apply wpK_val
        · rfl
        · intro w' hw'
          go_simp
          first | exact rfl | exact ⟨rfl, hw'⟩
        simp only [Act.put, List.setIfInBounds_toArray, List.set_cons_succ, List.set_cons_zero]
        apply wpK_val
        · rfl
        · intro w' hw'
          go_simp
          first | exact rfl | exact ⟨rfl, hw'⟩
        simp only [Act.put, List.setIfInBounds_toArray, List.set_cons_succ, List.set_cons_zero]
        apply wpK_val
        · rfl
        · intro w' hw'
          have hcell := Q0.out w' hw'
          go_simp
          first | exact rfl | exact ⟨rfl, hw'⟩
        simp only [Act.put, List.setIfInBounds_toArray, List.set_cons_succ, List.set_cons_zero]
        apply wpK_val
        · rfl
        · intro w' hw'
          have h1 : _ := (A0.out.on hw').str
          go_simp
          first | exact rfl | exact ⟨rfl, hw'⟩
        simp only [Act.put, List.setIfInBounds_toArray, List.set_cons_succ, List.set_cons_zero]
        apply wpK_val
        · rfl
        · intro w' hw'
          go_simp
          first | exact rfl | exact ⟨rfl, hw'⟩
        simp only [Act.put, List.setIfInBounds_toArray, List.set_cons_succ, List.set_cons_zero]
        apply wpK_val
        · rfl
        · intro w' hw'
          go_simp
          first | exact rfl | exact ⟨rfl, hw'⟩
        simp only [Act.put, List.setIfInBounds_toArray, List.set_cons_succ, List.set_cons_zero]
        apply wpK_val
        · rfl
        · intro w' hw'
          go_simp
          first | exact rfl | exact ⟨rfl, hw'⟩
        simp only [Act.put, List.setIfInBounds_toArray, List.set_cons_succ, List.set_cons_zero]
        apply wpK_val
        · rfl
        · intro w' hw'
          have hcell := Q1.out w' hw'
          go_simp
          first | exact rfl | exact ⟨rfl, hw'⟩
        simp only [Act.put, List.setIfInBounds_toArray, List.set_cons_succ, List.set_cons_zero]
        apply wpK_val
        · rfl
        · intro w' hw'
          have h1 : _ := (A1.out.on hw').str
          go_simp
          first | exact rfl | exact ⟨rfl, hw'⟩
        simp only [Act.put, List.setIfInBounds_toArray, List.set_cons_succ, List.set_cons_zero]
        apply wpK_val
        · rfl
        · intro w' hw'
          go_simp
          first | exact rfl | exact ⟨rfl, hw'⟩
        simp only [Act.put, List.setIfInBounds_toArray, List.set_cons_succ, List.set_cons_zero]
        refine wpK_nil fun w7 hw7 => ?_
        have B7 := hid (hb.out.trans (hw7.mono hb.out.size))
        clear hw7
        by_cases hxy : x = y
        · subst hxy
          have t1 : ((str x).toList == (str x).toList) = true := beq_self_eq_true _
          rw [t1]
          clear t1
          go_wp2_with fail
          go_roundw
          case rel =>
            refine ⟨k + 1, by omega, by go_num, hid (fun j hj => ?_), B7⟩
            by_cases e : j = k
            · subst e; rw [← HX.out, ← HY.out]
            · exact he.out j (by omega)
          case measure => simp [intOf] <;> omega
        · have hs : str x ≠ str y := fun e => hxy (str_inj A0.out.b256 A1.out.b256 e)
          have e : b = false := by
            rw [HB.out]
            exact decide_eq_false fun e => hxy (by rw [HX.out, HY.out, e])
          subst e
          clear HB
          rw [toList_ne hs]
          clear hs hxy
          go_wp2_with fail
          go_ret
          exact ⟨rfl, B7.out⟩
      · obtain rfl : k = n := by omega
        have e : b = true := by
          rw [HB.out]
          refine decide_eq_true (List.ext_getElem (by rw [HL.out, HL'.out]) fun j h1 h2 => ?_)
          have := he.out j (by rw [← HL.out]; exact h1)
          rw [List.getD_eq_getElem?_getD, List.getElem?_eq_getElem h1, List.getD_eq_getElem?_getD, List.getElem?_eq_getElem h2] at this
          exact this
        subst e
        clear HB
        go_wp2_with fail
        go_ret
        exact ⟨rfl, hb.out⟩
  · have t : ((n : Int) == (n' : Int)) = false := by rw [beq_eq_false_iff_ne]; omega
    have e : b = false := by
      rw [HB.out]
      exact decide_eq_false fun e => hnn (by rw [← hl, ← hl', e])
    subst e
    clear HB hl hl' hnn
    go_enter Try.func20, Try.ntmps20
    go_wp2_with fail
    go_ret
    exact ⟨rfl, Below.refl _ _⟩
set_option maxHeartbeats 800000 in
set_option maxRecDepth 100000 in
theorem lsame_any (A : Option Addr) (l : List (List Nat)) (n cap : Nat) (A' : Option Addr) (l' : List (List Nat)) (n' cap' : Nat) (w : World) (h : Rws w A l n cap) (h' : Rws w A' l' n' cap') :
    Calls Try.prog 32 #[.slice A n cap, .slice A' n' cap'] w fun e w' => e = .returned (.bool (decide (l = l'))) ∧ Below w.heap.size w w' := by
  obtain ⟨b, hb⟩ : ∃ b, b = decide (l = l') := ⟨_, rfl⟩
  rw [← hb]
  have HB := hid hb
  have H := hid h
  have H' := hid h'
  have hl := h.len
  have hl' := h'.len
  have hm := h.max
  have hc := h.cap
  unfold maxLen at hm
  clear hb h h'
  by_cases hnn : n = n'
  · subst hnn
    have HL := hid hl
    have HL' := hid hl'
    clear hl hl'
    go_enter Try.func32, Try.ntmps32
    go_wp2_with fail
    go_loopw [5] (fun i wr => ∃ (k : Nat), k ≤ n ∧ i = .int .i64 k ∧ Hid (∀ j, j < k → l.getD j [] = l'.getD j []) ∧ Hid (Below w.heap.size w wr)) (fun i _ => n - (intOf i).toNat)
    case atStart => exact ⟨0, by omega, rfl, hid (fun j hj => absurd hj (by omega)), hid (Below.refl _ _)⟩
    case round =>
      obtain ⟨k, hk, rfl, he, hb⟩ := hrel
      by_cases hlt : k < n
      · have tk : (k : Int) < (n : Int) := by omega
        obtain ⟨g, o, P, c, rfl, _, q0, a0⟩ := (H.out.on hb.out).part hlt
        obtain ⟨g', o', P', c', rfl, _, q1, a1⟩ := (H'.out.on hb.out).part hlt
        have Q0 := hid fun w' (hw : Below wr.heap.size wr w') => (hw.cell (World.block_lt_of_cell? wr ⟨g, o + k, none⟩ q0)).trans q0
        have Q1 := hid fun w' (hw : Below wr.heap.size wr w') => (hw.cell (World.block_lt_of_cell? wr ⟨g', o' + k, none⟩ q1)).trans q1
        obtain ⟨x, hx⟩ : ∃ x, x = l.getD k [] := ⟨_, rfl⟩
        obtain ⟨y, hy⟩ : ∃ y, y = l'.getD k [] := ⟨_, rfl⟩
        rw [← hx] at q0 a0 Q0
        rw [← hy] at q1 a1 Q1
        have HX := hid hx
        have HY := hid hy
        have A0 := hid a0
        have A1 := hid a1
        generalize x.length = X at *
        generalize y.length = Y at *
        clear q0 q1 hx hy a0 a1
        go_wp2_with fail
        refine wp_region_tail (C := fun w' => Below wr.heap.size wr w') 11 (by kernel_rfl) (by kernel_rfl) (by kernel_rfl) (Below.refl _ _).drew ?_
        simp only [List.take_succ_cons, List.take_zero, List.drop_succ_cons, List.drop_zero]
        apply wpK_val
        · rfl
        · intro w' hw'
          go_simp
          first | exact rfl | exact ⟨rfl, hw'⟩
        simp only [Act.put, List.setIfInBounds_toArray, List.set_cons_succ, List.set_cons_zero]
        apply wpK_val
        · rfl
        · intro w' hw'
          go_simp
          first | exact rfl | exact ⟨rfl, hw'⟩
        simp only [Act.put, List.setIfInBounds_toArray, List.set_cons_succ, List.set_cons_zero]
        apply wpK_val
        · rfl
        · intro w' hw'
          go_simp
          first | exact rfl | exact ⟨rfl, hw'⟩
        simp only [Act.put, List.setIfInBounds_toArray, List.set_cons_succ, List.set_cons_zero]
        apply wpK_val
        · rfl
        · intro w' hw'
          have hcell := Q0.out w' hw'
          go_simp
          first | exact rfl | exact ⟨rfl, hw'⟩
        simp only [Act.put, List.setIfInBounds_toArray, List.set_cons_succ, List.set_cons_zero]
        apply wpK_val
        · rfl
        · intro w' hw'
          have h1 : _ := (A0.out.on hw').str
          go_simp
          first | exact rfl | exact ⟨rfl, hw'⟩
        simp only [Act.put, List.setIfInBounds_toArray, List.set_cons_succ, List.set_cons_zero]
        apply wpK_val
        · rfl
        · intro w' hw'
          go_simp
          first | exact rfl | exact ⟨rfl, hw'⟩
        simp only [Act.put, List.setIfInBounds_toArray, List.set_cons_succ, List.set_cons_zero]
        apply wpK_val
        · rfl
        · intro w' hw'
          go_simp
          first | exact rfl | exact ⟨rfl, hw'⟩
        simp only [Act.put, List.setIfInBounds_toArray, List.set_cons_succ, List.set_cons_zero]
        apply wpK_val
        · rfl
        · intro w' hw'
          go_simp
          first | exact rfl | exact ⟨rfl, hw'⟩
        simp only [Act.put, List.setIfInBounds_toArray, List.set_cons_succ, List.set_cons_zero]
        apply wpK_val
        · rfl
        · intro w' hw'
          have hcell := Q1.out w' hw'
          go_simp
          first | exact rfl | exact ⟨rfl, hw'⟩
        simp only [Act.put, List.setIfInBounds_toArray, List.set_cons_succ, List.set_cons_zero]
        apply wpK_val
        · rfl
        · intro w' hw'
          have h1 : _ := (A1.out.on hw').str
          go_simp
          first | exact rfl | exact ⟨rfl, hw'⟩
        simp only [Act.put, List.setIfInBounds_toArray, List.set_cons_succ, List.set_cons_zero]
        apply wpK_val
        · rfl
        · intro w' hw'
          go_simp
          first | exact rfl | exact ⟨rfl, hw'⟩
        simp only [Act.put, List.setIfInBounds_toArray, List.set_cons_succ, List.set_cons_zero]
        refine wpK_nil fun w7 hw7 => ?_
        have B7 := hid (hb.out.trans (hw7.mono hb.out.size))
        clear hw7
        by_cases hxy : x = y
        · subst hxy
          have t1 : ((str x).toList == (str x).toList) = true := beq_self_eq_true _
          rw [t1]
          clear t1
          go_wp2_with fail
          go_roundw
          case rel =>
            refine ⟨k + 1, by omega, by go_num, hid (fun j hj => ?_), B7⟩
            by_cases e : j = k
            · subst e; rw [← HX.out, ← HY.out]
            · exact he.out j (by omega)
          case measure => simp [intOf] <;> omega
        · have hs : str x ≠ str y := fun e => hxy (str_inj A0.out.b256 A1.out.b256 e)
          have e : b = false := by
            rw [HB.out]
            exact decide_eq_false fun e => hxy (by rw [HX.out, HY.out, e])
          subst e
          clear HB
          rw [toList_ne hs]
          clear hs hxy
          go_wp2_with fail
          go_ret
          exact ⟨rfl, B7.out⟩
      · obtain rfl : k = n := by omega
        have e : b = true := by
          rw [HB.out]
          refine decide_eq_true (List.ext_getElem (by rw [HL.out, HL'.out]) fun j h1 h2 => ?_)
          have := he.out j (by rw [← HL.out]; exact h1)
          rw [List.getD_eq_getElem?_getD, List.getElem?_eq_getElem h1, List.getD_eq_getElem?_getD, List.getElem?_eq_getElem h2] at this
          exact this
        subst e
        clear HB
        go_wp2_with fail
        go_ret
        exact ⟨rfl, hb.out⟩
  · have t : ((n : Int) == (n' : Int)) = false := by rw [beq_eq_false_iff_ne]; omega
    have e : b = false := by
      rw [HB.out]
      exact decide_eq_false fun e => hnn (by rw [← hl, ← hl', e])
    subst e
    clear HB hl hl' hnn
    go_enter Try.func32, Try.ntmps32
    go_wp2_with fail
    go_ret
    exact ⟨rfl, Below.refl _ _⟩
end Go.Proofs.Ytiebaiofpihoiaa
