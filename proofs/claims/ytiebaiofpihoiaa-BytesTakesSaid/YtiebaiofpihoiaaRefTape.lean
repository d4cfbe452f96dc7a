/-
  Contracts of the document's tape (casemateref06.Tape) over this translation.
-/
import Derived.Test.YtiebaiofpihoiaaRefParts2
import Derived.Test.YtiebaiofpihoiaaByCut2
namespace Go.Proofs.Ytiebaiofpihoiaa
open Go.ChangeShapes Go.WideShapes Go.ChangeAt Go.RowKit
attribute [local go_sem] Gives
def slA (A : Option Addr) (cap i : Nat) : Option Addr := if cap = i then A else A.map (·.add (i * 1))
theorem run_slA {w : World} {A : Option Addr} {n cap i j : Nat} (hij : i ≤ j) (hj : j ≤ n) (hc : n ≤ cap) :
    (Instr.sliceAt 22 (.slice A n cap) (some (.int .i64 i)) (some (.int .i64 j)) none).run Try.prog w = .ok (.slice (slA A cap i) (j - i) (cap - i)) w := by
  rw [run_sliceAt_slice w 22 _ _ _ _ und_byts, run_slice_lh w 22 A n cap und_byts .i64 .i64 i j (by omega) (by omega) (by omega), size_byts]
  simp only [Result.andThen, sliced, Int.toNat_natCast, slA]
theorem arg_slA {w : World} {A : Option Addr} {l : List Nat} {n cap i N : Nat} (h : Arg w A l n cap) (hj : i + N ≤ n) : Arg w (slA A cap i) ((l.drop i).take N) N (cap - i) := by
  have hc := h.cap
  have hm := h.max
  unfold slA
  rw [Nat.mul_one]
  refine ⟨by rw [List.length_take, List.length_drop, h.len]; omega, by omega, by omega, (h.b256.drop i).take _, fun e => ?_, ((h.byt.dropIf cap i (by rw [h.len]; exact hc))).take _⟩
  by_cases hi : cap = i
  · exact ⟨by omega, by omega⟩
  · rw [if_neg hi] at e
    cases A with
    | none => have := h.none rfl; exact ⟨by omega, by omega⟩
    | some a => cases e
/-- The same in a region that draws its order. -/
theorem ksl {ops : Array Oper} {a : Act} {rest : List Oper} {dst : Option Tmp} {ty : TypeId} {pos : String} {after : Array Edge} {x y z : Operand} {A : Option Addr} {n cap i j N : Nat} {C : World → Prop} {Qk : Act → Prop} {gd : Option (Nat × Bool)}
    (hwt : Region.wanted ⟨dst, .slice 22 x (some y) (some z) none, ty, pos, after, gd⟩ (yielded ops a.tmps) = true) (hx : a.eval x = .slice A n cap) (hy : a.eval y = .int .i64 i) (hz : a.eval z = .int .i64 j) (hij : j = i + N) (hj : j ≤ n) (hc : n ≤ cap)
    (h : wpK Try.prog ops C Qk rest (a.put dst (.slice (slA A cap i) N (cap - i)))) : wpK Try.prog ops C Qk (⟨dst, .slice 22 x (some y) (some z) none, ty, pos, after, gd⟩ :: rest) a :=
  wpK_val hwt (fun w hw => gives_value (w' := w) (by
    have hr := run_slA (w := w) (A := A) (show i ≤ j by omega) hj hc
    rw [show j - i = N by omega] at hr
    unfold execOp
    simp only [Sem.run_bind, Option.map_some, Option.map_none, Sem.run_pure, hx, hy, hz, hr, Result.andThen_ok]) hw) h
theorem Own.otherG {w w' : World} {B g : Nat} {v : Value} {l : List Nat} (h : Own 5 .u8 w B v l) (hg : w.grownBy w' (some g)) (hB : g < B) : Own 5 .u8 w' B v l := by
  refine World.ownsRow.kept h hg ?_
  cases hv : v.ownBlock with
  | none => exact .inl rfl
  | some k =>
    refine .inr fun e => ?_
    have h1 := (World.ownsRow.lt h k hv).1
    have : k = g := Option.some.inj e
    omega
def rt (A : Option Addr) (n cp : Nat) (at0 : Nat) (b : Bool) : Array Value := #[.slice A n cp, .int .i64 at0, .bool b]
/-- The document's tape in block g, its bytes below block hi. -/
structure RTap (w : World) (g hi : Nat) (st : BytM.Tp) : Prop where
  le : hi ≤ g
  cells : ∃ A n cp l at0, Blk w g 50 (rt A n cp at0 (!st.isSome)) ∧ at0 ≤ n ∧ n ≤ 900000 ∧ Rd w 0 hi A l n cp ∧ ∀ s, st = some s → s = l.drop at0
theorem RTap.gr {w w' : World} {g hi : Nat} {r : Option Nat} {st : BytM.Tp} (h : RTap w g hi st) (hg : w.grownBy w' r) (hr : ∀ k, r = some k → hi ≤ k ∧ k ≠ g) : RTap w' g hi st := by
  obtain ⟨hl, A, n, cp, l, at0, h1, h2, h3, h4, h5⟩ := h
  exact ⟨hl, A, n, cp, l, at0, h1.gr hg (fun e => (hr g e).2 rfl), h2, h3, h4.gr hg fun k e => .inr (hr k e).1, h5⟩
theorem RTap.below {w w' : World} {g hi : Nat} {st : BytM.Tp} (h : RTap w g hi st) (hb : Below w.heap.size w w') : RTap w' g hi st := h.gr (grown_below hb none) fun k e => by cases e
theorem RTap.lt {w : World} {g hi : Nat} {st : BytM.Tp} (h : RTap w g hi st) : g < w.heap.size := by
  obtain ⟨_, A, n, cp, l, at0, h1, _⟩ := h
  exact h1.lt
theorem RTap.tear {w : World} {g hi : Nat} {st : BytM.Tp} (h : RTap w g hi st) : RTap (w.setCell ⟨g, 2, none⟩ (.bool true)) g hi none := by
  obtain ⟨hl, A, n, cp, l, at0, h1, h2, h3, h4, h5⟩ := h
  exact ⟨hl, A, n, cp, l, at0, h1.setCell_same 2 _, h2, h3, h4.gr (grown_setCell w g 2 _) (fun k e => by cases e; exact .inr hl), fun s e => by cases e⟩
set_option maxHeartbeats 400000 in
set_option maxRecDepth 100000 in
theorem rend_any {g hi : Nat} {st : BytM.Tp} (w : World) (h : RTap w g hi st) :
    Calls Try.prog 30 #[.pointer (some ⟨g, 0, none⟩)] w fun e w' => e = .returned (.bool (decide (st = some []))) ∧ Below w.heap.size w w' := by
  obtain ⟨hl, A, n, cp, l, at0, b1, hat, hn9, rd, hst⟩ := id h
  have hcap := rd.cap
  have hmx := rd.max
  unfold maxLen at hmx
  have Q0 := hid (show w.cell? ⟨g, 0, none⟩ = some (.slice A n cp) from b1.cell 0)
  have Q1 := hid (show w.cell? ⟨g, 1, none⟩ = some (.int .i64 at0) from b1.cell 1)
  have Q2 := hid (show w.cell? ⟨g, 2, none⟩ = some (.bool (!st.isSome)) from b1.cell 2)
  have GL := hid b1.lt
  have HT := hid h
  have RD := hid rd
  have HLEN := hid rd.len
  cases st with
  | none =>
    clear h b1 rd hst
    go_enter Try.func30, Try.ntmps30
    go_wp2_with fail
    refine wp_region_tail (C := fun w' => Below w.heap.size w w') 17 (by kernel_rfl) (by kernel_rfl) (by kernel_rfl) (Below.refl _ _).drew ?_
    simp only [List.take_succ_cons, List.take_zero, List.drop_succ_cons, List.drop_zero]
    apply wpK_val
    · rfl
    · intro w' hw'
      go_simp
      first | exact rfl | exact ⟨rfl, hw'⟩
    simp only [Act.put, List.setIfInBounds_toArray, List.set_cons_succ, List.set_cons_zero]
    apply wpK_val
    · rfl
    · intro w' hw'
      go_simp
      first | exact rfl | exact ⟨rfl, hw'⟩
    simp only [Act.put, List.setIfInBounds_toArray, List.set_cons_succ, List.set_cons_zero]
    apply wpK_val
    · rfl
    · intro w' hw'
      go_simp
      first | exact rfl | exact ⟨rfl, hw'⟩
    simp only [Act.put, List.setIfInBounds_toArray, List.set_cons_succ, List.set_cons_zero]
    apply wpK_val
    · rfl
    · intro w' hw'
      have hcell := (hw'.cell (p := ⟨g, 2, none⟩) GL.out).trans Q2.out
      go_simp
      first | exact rfl | exact ⟨rfl, hw'⟩
    simp only [Act.put, List.setIfInBounds_toArray, List.set_cons_succ, List.set_cons_zero]
    apply wpK_val
    · rfl
    · intro w' hw'
      go_simp
      first | exact rfl | exact ⟨rfl, hw'⟩
    simp only [Act.put, List.setIfInBounds_toArray, List.set_cons_succ, List.set_cons_zero]
    apply wpK_val
    · rfl
    · intro w' hw'
      go_simp
      first | exact rfl | exact ⟨rfl, hw'⟩
    simp only [Act.put, List.setIfInBounds_toArray, List.set_cons_succ, List.set_cons_zero]
    apply wpK_not
    · rfl
    simp only [Act.put, List.setIfInBounds_toArray, List.set_cons_succ, List.set_cons_zero]
    apply wpK_not
    · rfl
    simp only [Act.put, List.setIfInBounds_toArray, List.set_cons_succ, List.set_cons_zero]
    apply wpK_not
    · rfl
    simp only [Act.put, List.setIfInBounds_toArray, List.set_cons_succ, List.set_cons_zero]
    apply wpK_not
    · rfl
    simp only [Act.put, List.setIfInBounds_toArray, List.set_cons_succ, List.set_cons_zero]
    apply wpK_not
    · rfl
    simp only [Act.put, List.setIfInBounds_toArray, List.set_cons_succ, List.set_cons_zero]
    apply wpK_not
    · rfl
    simp only [Act.put, List.setIfInBounds_toArray, List.set_cons_succ, List.set_cons_zero]
    apply wpK_not
    · rfl
    simp only [Act.put, List.setIfInBounds_toArray, List.set_cons_succ, List.set_cons_zero]
    apply wpK_not
    · rfl
    simp only [Act.put, List.setIfInBounds_toArray, List.set_cons_succ, List.set_cons_zero]
    apply wpK_not
    · rfl
    simp only [Act.put, List.setIfInBounds_toArray, List.set_cons_succ, List.set_cons_zero]
    apply wpK_not
    · rfl
    simp only [Act.put, List.setIfInBounds_toArray, List.set_cons_succ, List.set_cons_zero]
    apply wpK_val
    · rfl
    · intro w' hw'
      go_simp
      first | exact rfl | exact ⟨rfl, hw'⟩
    simp only [Act.put, List.setIfInBounds_toArray, List.set_cons_succ, List.set_cons_zero]
    refine wpK_nil fun w7 h7 => ?_
    go_wp2_with fail
    go_ret
    exact ⟨rfl, h7⟩
  | some s =>
    have hs := hst s rfl
    obtain ⟨b, hb⟩ : ∃ b, b = decide ((some s : BytM.Tp) = some []) := ⟨_, rfl⟩
    rw [← hb]
    have e : ((at0 : Int) == (n : Int)) = b := by
      rw [hb]
      have hsl : s.length = n - at0 := by rw [hs, List.length_drop, rd.len]
      by_cases he : at0 = n
      · have : s = [] := List.eq_nil_of_length_eq_zero (by omega)
        rw [this, he]
        simp
      · have : s ≠ [] := fun e => by rw [e] at hsl; simp at hsl; omega
        rw [decide_eq_false (fun e => this (Option.some.inj e)), beq_eq_false_iff_ne]
        omega
    have EE := hid e
    clear h b1 rd hst hs hb e
    go_enter Try.func30, Try.ntmps30
    go_wp2_with fail
    refine wp_region_tail (C := fun w' => Below w.heap.size w w') 17 (by kernel_rfl) (by kernel_rfl) (by kernel_rfl) (Below.refl _ _).drew ?_
    simp only [List.take_succ_cons, List.take_zero, List.drop_succ_cons, List.drop_zero]
    apply wpK_val
    · rfl
    · intro w' hw'
      go_simp
      first | exact rfl | exact ⟨rfl, hw'⟩
    simp only [Act.put, List.setIfInBounds_toArray, List.set_cons_succ, List.set_cons_zero]
    apply wpK_val
    · rfl
    · intro w' hw'
      go_simp
      first | exact rfl | exact ⟨rfl, hw'⟩
    simp only [Act.put, List.setIfInBounds_toArray, List.set_cons_succ, List.set_cons_zero]
    apply wpK_val
    · rfl
    · intro w' hw'
      go_simp
      first | exact rfl | exact ⟨rfl, hw'⟩
    simp only [Act.put, List.setIfInBounds_toArray, List.set_cons_succ, List.set_cons_zero]
    apply wpK_val
    · rfl
    · intro w' hw'
      have hcell := (hw'.cell (p := ⟨g, 2, none⟩) GL.out).trans Q2.out
      go_simp
      first | exact rfl | exact ⟨rfl, hw'⟩
    simp only [Act.put, List.setIfInBounds_toArray, List.set_cons_succ, List.set_cons_zero]
    apply wpK_val
    · rfl
    · intro w' hw'
      go_simp
      first | exact rfl | exact ⟨rfl, hw'⟩
    simp only [Act.put, List.setIfInBounds_toArray, List.set_cons_succ, List.set_cons_zero]
    apply wpK_val
    · rfl
    · intro w' hw'
      go_simp
      first | exact rfl | exact ⟨rfl, hw'⟩
    simp only [Act.put, List.setIfInBounds_toArray, List.set_cons_succ, List.set_cons_zero]
    apply wpK_val
    · rfl
    · intro w' hw'
      go_simp
      first | exact rfl | exact ⟨rfl, hw'⟩
    simp only [Act.put, List.setIfInBounds_toArray, List.set_cons_succ, List.set_cons_zero]
    apply wpK_val
    · rfl
    · intro w' hw'
      go_simp
      first | exact rfl | exact ⟨rfl, hw'⟩
    simp only [Act.put, List.setIfInBounds_toArray, List.set_cons_succ, List.set_cons_zero]
    apply wpK_val
    · rfl
    · intro w' hw'
      go_simp
      first | exact rfl | exact ⟨rfl, hw'⟩
    simp only [Act.put, List.setIfInBounds_toArray, List.set_cons_succ, List.set_cons_zero]
    apply wpK_val
    · rfl
    · intro w' hw'
      have hcell := (hw'.cell (p := ⟨g, 1, none⟩) GL.out).trans Q1.out
      go_simp
      first | exact rfl | exact ⟨rfl, hw'⟩
    simp only [Act.put, List.setIfInBounds_toArray, List.set_cons_succ, List.set_cons_zero]
    apply wpK_val
    · rfl
    · intro w' hw'
      go_simp
      first | exact rfl | exact ⟨rfl, hw'⟩
    simp only [Act.put, List.setIfInBounds_toArray, List.set_cons_succ, List.set_cons_zero]
    apply wpK_val
    · rfl
    · intro w' hw'
      go_simp
      first | exact rfl | exact ⟨rfl, hw'⟩
    simp only [Act.put, List.setIfInBounds_toArray, List.set_cons_succ, List.set_cons_zero]
    apply wpK_val
    · rfl
    · intro w' hw'
      go_simp
      first | exact rfl | exact ⟨rfl, hw'⟩
    simp only [Act.put, List.setIfInBounds_toArray, List.set_cons_succ, List.set_cons_zero]
    apply wpK_val
    · rfl
    · intro w' hw'
      have hcell := (hw'.cell (p := ⟨g, 0, none⟩) GL.out).trans Q0.out
      go_simp
      first | exact rfl | exact ⟨rfl, hw'⟩
    simp only [Act.put, List.setIfInBounds_toArray, List.set_cons_succ, List.set_cons_zero]
    apply wpK_val
    · rfl
    · intro w' hw'
      go_simp
      first | exact rfl | exact ⟨rfl, hw'⟩
    simp only [Act.put, List.setIfInBounds_toArray, List.set_cons_succ, List.set_cons_zero]
    apply wpK_val
    · rfl
    · intro w' hw'
      have h1 : _ := EE.out
      go_simp
      first | exact rfl | exact ⟨rfl, hw'⟩
    simp only [Act.put, List.setIfInBounds_toArray, List.set_cons_succ, List.set_cons_zero]
    apply wpK_val
    · rfl
    · intro w' hw'
      go_simp
      first | exact rfl | exact ⟨rfl, hw'⟩
    simp only [Act.put, List.setIfInBounds_toArray, List.set_cons_succ, List.set_cons_zero]
    refine wpK_nil fun w7 h7 => ?_
    go_wp2_with fail
    go_ret
    exact ⟨rfl, h7⟩
set_option maxHeartbeats 400000 in
set_option maxRecDepth 100000 in
theorem rtnum_any {g hi : Nat} {st : BytM.Tp} (w : World) (h : RTap w g hi st) (m : Int) (hm1 : -9223372036854775808 ≤ m) (hm2 : m ≤ 9223372036854775807) :
    Calls Try.prog 23 #[.pointer (some ⟨g, 0, none⟩), .int .i64 m] w fun e w' => e = .returned (.int .u64 (BytM.numL st m)) ∧ RTap w' g hi (BytM.numS st m) ∧ w.grownBy w' (some g) := by
  obtain ⟨hl, A, n, cp, l, at0, b1, hat, hn9, rd, hst⟩ := id h
  have hcap := rd.cap
  have hmx := rd.max
  unfold maxLen at hmx
  have Q0 := hid (show w.cell? ⟨g, 0, none⟩ = some (.slice A n cp) from b1.cell 0)
  have Q1 := hid (show w.cell? ⟨g, 1, none⟩ = some (.int .i64 at0) from b1.cell 1)
  have Q2 := hid (show w.cell? ⟨g, 2, none⟩ = some (.bool (!st.isSome)) from b1.cell 2)
  have GL := hid b1.lt
  have HT := hid h
  have RD := hid rd
  have HLEN := hid rd.len
  have P := hid fun w => rwid_any m w
  cases st with
  | none =>
    have e1 : BytM.numL none m = 0 := by unfold BytM.numL; split <;> rfl
    rw [e1, BytM.num_none]
    clear h b1 rd hst e1 P
    go_enter Try.func23, Try.ntmps23
    go_wp2_with fail
    refine wp_region_tail (C := fun w' => Below w.heap.size w w') 23 (by kernel_rfl) (by kernel_rfl) (by kernel_rfl) (Below.refl _ _).drew ?_
    simp only [List.take_succ_cons, List.take_zero, List.drop_succ_cons, List.drop_zero]
    apply wpK_val
    · rfl
    · intro w' hw'
      go_simp
      first | exact rfl | exact ⟨rfl, hw'⟩
    simp only [Act.put, List.setIfInBounds_toArray, List.set_cons_succ, List.set_cons_zero]
    apply wpK_val
    · rfl
    · intro w' hw'
      go_simp
      first | exact rfl | exact ⟨rfl, hw'⟩
    simp only [Act.put, List.setIfInBounds_toArray, List.set_cons_succ, List.set_cons_zero]
    apply wpK_val
    · rfl
    · intro w' hw'
      go_simp
      first | exact rfl | exact ⟨rfl, hw'⟩
    simp only [Act.put, List.setIfInBounds_toArray, List.set_cons_succ, List.set_cons_zero]
    apply wpK_val
    · rfl
    · intro w' hw'
      have hcell := (hw'.cell (p := ⟨g, 2, none⟩) GL.out).trans Q2.out
      go_simp
      first | exact rfl | exact ⟨rfl, hw'⟩
    simp only [Act.put, List.setIfInBounds_toArray, List.set_cons_succ, List.set_cons_zero]
    apply wpK_val
    · rfl
    · intro w' hw'
      go_simp
      first | exact rfl | exact ⟨rfl, hw'⟩
    simp only [Act.put, List.setIfInBounds_toArray, List.set_cons_succ, List.set_cons_zero]
    apply wpK_not
    · rfl
    simp only [Act.put, List.setIfInBounds_toArray, List.set_cons_succ, List.set_cons_zero]
    apply wpK_not
    · rfl
    simp only [Act.put, List.setIfInBounds_toArray, List.set_cons_succ, List.set_cons_zero]
    apply wpK_not
    · rfl
    simp only [Act.put, List.setIfInBounds_toArray, List.set_cons_succ, List.set_cons_zero]
    apply wpK_val
    · rfl
    · intro w' hw'
      go_simp
      first | exact rfl | exact ⟨rfl, hw'⟩
    simp only [Act.put, List.setIfInBounds_toArray, List.set_cons_succ, List.set_cons_zero]
    apply wpK_val
    · rfl
    · intro w' hw'
      go_simp
      first | exact rfl | exact ⟨rfl, hw'⟩
    simp only [Act.put, List.setIfInBounds_toArray, List.set_cons_succ, List.set_cons_zero]
    apply wpK_not
    · rfl
    simp only [Act.put, List.setIfInBounds_toArray, List.set_cons_succ, List.set_cons_zero]
    apply wpK_not
    · rfl
    simp only [Act.put, List.setIfInBounds_toArray, List.set_cons_succ, List.set_cons_zero]
    apply wpK_not
    · rfl
    simp only [Act.put, List.setIfInBounds_toArray, List.set_cons_succ, List.set_cons_zero]
    apply wpK_not
    · rfl
    simp only [Act.put, List.setIfInBounds_toArray, List.set_cons_succ, List.set_cons_zero]
    apply wpK_not
    · rfl
    simp only [Act.put, List.setIfInBounds_toArray, List.set_cons_succ, List.set_cons_zero]
    apply wpK_not
    · rfl
    simp only [Act.put, List.setIfInBounds_toArray, List.set_cons_succ, List.set_cons_zero]
    apply wpK_not
    · rfl
    simp only [Act.put, List.setIfInBounds_toArray, List.set_cons_succ, List.set_cons_zero]
    apply wpK_not
    · rfl
    simp only [Act.put, List.setIfInBounds_toArray, List.set_cons_succ, List.set_cons_zero]
    apply wpK_not
    · rfl
    simp only [Act.put, List.setIfInBounds_toArray, List.set_cons_succ, List.set_cons_zero]
    apply wpK_not
    · rfl
    simp only [Act.put, List.setIfInBounds_toArray, List.set_cons_succ, List.set_cons_zero]
    apply wpK_not
    · rfl
    simp only [Act.put, List.setIfInBounds_toArray, List.set_cons_succ, List.set_cons_zero]
    apply wpK_not
    · rfl
    simp only [Act.put, List.setIfInBounds_toArray, List.set_cons_succ, List.set_cons_zero]
    apply wpK_val
    · rfl
    · intro w' hw'
      go_simp
      first | exact rfl | exact ⟨rfl, hw'⟩
    simp only [Act.put, List.setIfInBounds_toArray, List.set_cons_succ, List.set_cons_zero]
    refine wpK_nil fun w7 h7 => ?_
    have H7 := hid (HT.out.below h7)
    have c7 := (H7.out.cells)
    obtain ⟨A', n', cp', l', at', b7, _⟩ := c7
    have fz := b7.frozen 2
    have q2 := (h7.cell (p := ⟨g, 2, none⟩) GL.out).trans Q2.out
    have G7 := hid (grown_trans (grown_below h7 (some g)) (grown_setCell w7 g 2 (.bool true)))
    clear b7 h7
    go_wp2_with fail
    go_ret
    exact ⟨rfl, H7.out.tear, G7.out⟩
  | some s =>
    have hs := hst s rfl
    cases hw : BytM.isW m with
    | false =>
      rw [hw] at P
      have e1 : BytM.numL (some s) m = 0 := by unfold BytM.numL; rw [hw]; rfl
      have e2 : BytM.numS (some s) m = none := by unfold BytM.numS; rw [hw]; rfl
      rw [e1, e2]
      clear h b1 rd hst e1 e2 hs hw
      go_enter Try.func23, Try.ntmps23
      go_wp2_with fail
      refine wp_region_tail (C := fun w' => Below w.heap.size w w') 23 (by kernel_rfl) (by kernel_rfl) (by kernel_rfl) (Below.refl _ _).drew ?_
      simp only [List.take_succ_cons, List.take_zero, List.drop_succ_cons, List.drop_zero]
      apply wpK_val
      · rfl
      · intro w' hw'
        go_simp
        first | exact rfl | exact ⟨rfl, hw'⟩
      simp only [Act.put, List.setIfInBounds_toArray, List.set_cons_succ, List.set_cons_zero]
      apply wpK_val
      · rfl
      · intro w' hw'
        go_simp
        first | exact rfl | exact ⟨rfl, hw'⟩
      simp only [Act.put, List.setIfInBounds_toArray, List.set_cons_succ, List.set_cons_zero]
      apply wpK_val
      · rfl
      · intro w' hw'
        go_simp
        first | exact rfl | exact ⟨rfl, hw'⟩
      simp only [Act.put, List.setIfInBounds_toArray, List.set_cons_succ, List.set_cons_zero]
      apply wpK_val
      · rfl
      · intro w' hw'
        have hcell := (hw'.cell (p := ⟨g, 2, none⟩) GL.out).trans Q2.out
        go_simp
        first | exact rfl | exact ⟨rfl, hw'⟩
      simp only [Act.put, List.setIfInBounds_toArray, List.set_cons_succ, List.set_cons_zero]
      apply wpK_val
      · rfl
      · intro w' hw'
        go_simp
        first | exact rfl | exact ⟨rfl, hw'⟩
      simp only [Act.put, List.setIfInBounds_toArray, List.set_cons_succ, List.set_cons_zero]
      apply wpK_val
      · rfl
      · intro w' hw'
        go_simp
        first | exact rfl | exact ⟨rfl, hw'⟩
      simp only [Act.put, List.setIfInBounds_toArray, List.set_cons_succ, List.set_cons_zero]
      apply wpK_val
      · rfl
      · intro w' hw'
        go_simp
        exact (P.out _).mono fun e w'' ⟨he, hw2⟩ => ⟨he, hw2 ▸ hw'⟩
      simp only [Act.put, List.setIfInBounds_toArray, List.set_cons_succ, List.set_cons_zero]
      apply wpK_val
      · rfl
      · intro w' hw'
        go_simp
        first | exact rfl | exact ⟨rfl, hw'⟩
      simp only [Act.put, List.setIfInBounds_toArray, List.set_cons_succ, List.set_cons_zero]
      apply wpK_val
      · rfl
      · intro w' hw'
        go_simp
        first | exact rfl | exact ⟨rfl, hw'⟩
      simp only [Act.put, List.setIfInBounds_toArray, List.set_cons_succ, List.set_cons_zero]
      apply wpK_val
      · rfl
      · intro w' hw'
        go_simp
        first | exact rfl | exact ⟨rfl, hw'⟩
      simp only [Act.put, List.setIfInBounds_toArray, List.set_cons_succ, List.set_cons_zero]
      apply wpK_not
      · rfl
      simp only [Act.put, List.setIfInBounds_toArray, List.set_cons_succ, List.set_cons_zero]
      apply wpK_not
      · rfl
      simp only [Act.put, List.setIfInBounds_toArray, List.set_cons_succ, List.set_cons_zero]
      apply wpK_not
      · rfl
      simp only [Act.put, List.setIfInBounds_toArray, List.set_cons_succ, List.set_cons_zero]
      apply wpK_not
      · rfl
      simp only [Act.put, List.setIfInBounds_toArray, List.set_cons_succ, List.set_cons_zero]
      apply wpK_not
      · rfl
      simp only [Act.put, List.setIfInBounds_toArray, List.set_cons_succ, List.set_cons_zero]
      apply wpK_not
      · rfl
      simp only [Act.put, List.setIfInBounds_toArray, List.set_cons_succ, List.set_cons_zero]
      apply wpK_not
      · rfl
      simp only [Act.put, List.setIfInBounds_toArray, List.set_cons_succ, List.set_cons_zero]
      apply wpK_not
      · rfl
      simp only [Act.put, List.setIfInBounds_toArray, List.set_cons_succ, List.set_cons_zero]
      apply wpK_not
      · rfl
      simp only [Act.put, List.setIfInBounds_toArray, List.set_cons_succ, List.set_cons_zero]
      apply wpK_not
      · rfl
      simp only [Act.put, List.setIfInBounds_toArray, List.set_cons_succ, List.set_cons_zero]
      apply wpK_not
      · rfl
      simp only [Act.put, List.setIfInBounds_toArray, List.set_cons_succ, List.set_cons_zero]
      apply wpK_not
      · rfl
      simp only [Act.put, List.setIfInBounds_toArray, List.set_cons_succ, List.set_cons_zero]
      apply wpK_val
      · rfl
      · intro w' hw'
        go_simp
        first | exact rfl | exact ⟨rfl, hw'⟩
      simp only [Act.put, List.setIfInBounds_toArray, List.set_cons_succ, List.set_cons_zero]
      refine wpK_nil fun w7 h7 => ?_
      have H7 := hid (HT.out.below h7)
      have c7 := (H7.out.cells)
      obtain ⟨A', n', cp', l', at', b7, _⟩ := c7
      have fz := b7.frozen 2
      have q2 := (h7.cell (p := ⟨g, 2, none⟩) GL.out).trans Q2.out
      have G7 := hid (grown_trans (grown_below h7 (some g)) (grown_setCell w7 g 2 (.bool true)))
      clear b7 h7
      go_wp2_with fail
      go_ret
      exact ⟨rfl, H7.out.tear, G7.out⟩
    | true =>
      rw [hw] at P
      obtain ⟨k, rfl, hk1, hk8, hwk⟩ := BytM.isW_nat hw
      have eL : BytM.numL (some s) (k : Nat) = BytM.val (BytM.cutL (some s) (k : Nat)) := by unfold BytM.numL; rw [hw]; rfl
      have eS : BytM.numS (some s) (k : Nat) = BytM.cutS (some s) (k : Nat) := by unfold BytM.numS; rw [hw]; rfl
      rw [eL, eS, hs]
      rw [hs] at HT
      by_cases hfit : n < at0 + k
      · have e2 := drop_cut_none (l := l) (i := at0) (n := k) (by rw [HLEN.out]; exact hfit) (by rw [HLEN.out]; exact hat)
        have e3 : BytM.cutL (some (l.drop at0)) (k : Nat) = [] := by
          unfold BytM.cutL; dsimp only; rw [if_neg (by rw [List.length_drop, HLEN.out]; omega)]
        rw [e2, e3]
        obtain ⟨at1, e1⟩ : ∃ x, x = at0 + k := ⟨_, rfl⟩
        have EW := hid (show IntKind.i64.wrap ((at0 : Int) + (k : Int)) = (at1 : Int) by rw [IntWalk.i64_in _ (by omega)]; omega)
        have TF := hid (show decide ((n : Int) < (at1 : Int)) = true from decide_eq_true (by omega))
        have TFn := hid (show n < at1 by omega)
        clear h b1 rd hst eL eS e2 e3 hs hw hwk hfit e1
        go_enter Try.func23, Try.ntmps23
        go_wp2_with fail
        refine wp_region_tail (C := fun w' => Below w.heap.size w w') 23 (by kernel_rfl) (by kernel_rfl) (by kernel_rfl) (Below.refl _ _).drew ?_
        simp only [List.take_succ_cons, List.take_zero, List.drop_succ_cons, List.drop_zero]
        apply wpK_val
        · rfl
        · intro w' hw'
          go_simp
          first | exact rfl | exact ⟨rfl, hw'⟩
        simp only [Act.put, List.setIfInBounds_toArray, List.set_cons_succ, List.set_cons_zero]
        apply wpK_val
        · rfl
        · intro w' hw'
          go_simp
          first | exact rfl | exact ⟨rfl, hw'⟩
        simp only [Act.put, List.setIfInBounds_toArray, List.set_cons_succ, List.set_cons_zero]
        apply wpK_val
        · rfl
        · intro w' hw'
          go_simp
          first | exact rfl | exact ⟨rfl, hw'⟩
        simp only [Act.put, List.setIfInBounds_toArray, List.set_cons_succ, List.set_cons_zero]
        apply wpK_val
        · rfl
        · intro w' hw'
          have hcell := (hw'.cell (p := ⟨g, 2, none⟩) GL.out).trans Q2.out
          go_simp
          first | exact rfl | exact ⟨rfl, hw'⟩
        simp only [Act.put, List.setIfInBounds_toArray, List.set_cons_succ, List.set_cons_zero]
        apply wpK_val
        · rfl
        · intro w' hw'
          go_simp
          first | exact rfl | exact ⟨rfl, hw'⟩
        simp only [Act.put, List.setIfInBounds_toArray, List.set_cons_succ, List.set_cons_zero]
        apply wpK_val
        · rfl
        · intro w' hw'
          go_simp
          first | exact rfl | exact ⟨rfl, hw'⟩
        simp only [Act.put, List.setIfInBounds_toArray, List.set_cons_succ, List.set_cons_zero]
        apply wpK_val
        · rfl
        · intro w' hw'
          go_simp
          exact (P.out _).mono fun e w'' ⟨he, hw2⟩ => ⟨he, hw2 ▸ hw'⟩
        simp only [Act.put, List.setIfInBounds_toArray, List.set_cons_succ, List.set_cons_zero]
        apply wpK_val
        · rfl
        · intro w' hw'
          go_simp
          first | exact rfl | exact ⟨rfl, hw'⟩
        simp only [Act.put, List.setIfInBounds_toArray, List.set_cons_succ, List.set_cons_zero]
        apply wpK_val
        · rfl
        · intro w' hw'
          go_simp
          first | exact rfl | exact ⟨rfl, hw'⟩
        simp only [Act.put, List.setIfInBounds_toArray, List.set_cons_succ, List.set_cons_zero]
        apply wpK_val
        · rfl
        · intro w' hw'
          go_simp
          first | exact rfl | exact ⟨rfl, hw'⟩
        simp only [Act.put, List.setIfInBounds_toArray, List.set_cons_succ, List.set_cons_zero]
        apply wpK_val
        · rfl
        · intro w' hw'
          go_simp
          first | exact rfl | exact ⟨rfl, hw'⟩
        simp only [Act.put, List.setIfInBounds_toArray, List.set_cons_succ, List.set_cons_zero]
        apply wpK_val
        · rfl
        · intro w' hw'
          go_simp
          first | exact rfl | exact ⟨rfl, hw'⟩
        simp only [Act.put, List.setIfInBounds_toArray, List.set_cons_succ, List.set_cons_zero]
        apply wpK_val
        · rfl
        · intro w' hw'
          go_simp
          first | exact rfl | exact ⟨rfl, hw'⟩
        simp only [Act.put, List.setIfInBounds_toArray, List.set_cons_succ, List.set_cons_zero]
        apply wpK_val
        · rfl
        · intro w' hw'
          have hcell := (hw'.cell (p := ⟨g, 1, none⟩) GL.out).trans Q1.out
          go_simp
          first | exact rfl | exact ⟨rfl, hw'⟩
        simp only [Act.put, List.setIfInBounds_toArray, List.set_cons_succ, List.set_cons_zero]
        apply wpK_val
        · rfl
        · intro w' hw'
          go_simp
          first | exact rfl | exact ⟨rfl, hw'⟩
        simp only [Act.put, List.setIfInBounds_toArray, List.set_cons_succ, List.set_cons_zero]
        apply wpK_val
        · rfl
        · intro w' hw'
          have h1 : _ := EW.out
          go_simp
          first | exact rfl | exact ⟨rfl, hw'⟩
        simp only [Act.put, List.setIfInBounds_toArray, List.set_cons_succ, List.set_cons_zero]
        apply wpK_val
        · rfl
        · intro w' hw'
          go_simp
          first | exact rfl | exact ⟨rfl, hw'⟩
        simp only [Act.put, List.setIfInBounds_toArray, List.set_cons_succ, List.set_cons_zero]
        apply wpK_val
        · rfl
        · intro w' hw'
          go_simp
          first | exact rfl | exact ⟨rfl, hw'⟩
        simp only [Act.put, List.setIfInBounds_toArray, List.set_cons_succ, List.set_cons_zero]
        apply wpK_val
        · rfl
        · intro w' hw'
          go_simp
          first | exact rfl | exact ⟨rfl, hw'⟩
        simp only [Act.put, List.setIfInBounds_toArray, List.set_cons_succ, List.set_cons_zero]
        apply wpK_val
        · rfl
        · intro w' hw'
          have hcell := (hw'.cell (p := ⟨g, 0, none⟩) GL.out).trans Q0.out
          go_simp
          first | exact rfl | exact ⟨rfl, hw'⟩
        simp only [Act.put, List.setIfInBounds_toArray, List.set_cons_succ, List.set_cons_zero]
        apply wpK_val
        · rfl
        · intro w' hw'
          go_simp
          first | exact rfl | exact ⟨rfl, hw'⟩
        simp only [Act.put, List.setIfInBounds_toArray, List.set_cons_succ, List.set_cons_zero]
        apply wpK_val
        · rfl
        · intro w' hw'
          have h1 : _ := TF.out
          have h2 : _ := TFn.out
          go_simp
          first | exact rfl | exact ⟨rfl, hw'⟩
        simp only [Act.put, List.setIfInBounds_toArray, List.set_cons_succ, List.set_cons_zero]
        apply wpK_val
        · rfl
        · intro w' hw'
          go_simp
          first | exact rfl | exact ⟨rfl, hw'⟩
        simp only [Act.put, List.setIfInBounds_toArray, List.set_cons_succ, List.set_cons_zero]
        refine wpK_nil fun w7 h7 => ?_
        have H7 := hid (HT.out.below h7)
        have c7 := (H7.out.cells)
        obtain ⟨A', n', cp', l', at', b7, _⟩ := c7
        have fz := b7.frozen 2
        have q2 := (h7.cell (p := ⟨g, 2, none⟩) GL.out).trans Q2.out
        have G7 := hid (grown_trans (grown_below h7 (some g)) (grown_setCell w7 g 2 (.bool true)))
        clear b7 h7
        go_wp2_with fail
        go_ret
        exact ⟨rfl, H7.out.tear, G7.out⟩
      · obtain ⟨at1, e1⟩ : ∃ x, x = at0 + k := ⟨_, rfl⟩
        have e1i : (at0 : Int) + (k : Int) = (at1 : Int) := by omega
        have hd := drop_cut (l := l) (i := at0) (n := k) (by rw [HLEN.out]; exact hat) (by rw [HLEN.out]; omega)
        rw [hd.1, hd.2, ← e1]
        have hat1 : at1 ≤ n := by omega
        have TF := hid (show decide ((n : Int) < (at1 : Int)) = false from decide_eq_false (by omega))
        have TFn := hid (show ¬ n < at1 by omega)
        have EW := hid (show IntKind.i64.wrap ((at0 : Int) + (k : Int)) = (at1 : Int) by rw [IntWalk.i64_in _ (by omega)]; omega)
        have E1 := hid e1
        have E1I := hid e1i
        have HL := hid hl
        clear h b1 rd hst eL eS hd hs hw hwk hfit e1 e1i
        go_enter Try.func23, Try.ntmps23
        go_wp2_with fail
        refine wp_region_tail (C := fun w' => Below w.heap.size w w') 23 (by kernel_rfl) (by kernel_rfl) (by kernel_rfl) (Below.refl _ _).drew ?_
        simp only [List.take_succ_cons, List.take_zero, List.drop_succ_cons, List.drop_zero]
        apply wpK_val
        · rfl
        · intro w' hw'
          go_simp
          first | exact rfl | exact ⟨rfl, hw'⟩
        simp only [Act.put, List.setIfInBounds_toArray, List.set_cons_succ, List.set_cons_zero]
        apply wpK_val
        · rfl
        · intro w' hw'
          go_simp
          first | exact rfl | exact ⟨rfl, hw'⟩
        simp only [Act.put, List.setIfInBounds_toArray, List.set_cons_succ, List.set_cons_zero]
        apply wpK_val
        · rfl
        · intro w' hw'
          go_simp
          first | exact rfl | exact ⟨rfl, hw'⟩
        simp only [Act.put, List.setIfInBounds_toArray, List.set_cons_succ, List.set_cons_zero]
        apply wpK_val
        · rfl
        · intro w' hw'
          have hcell := (hw'.cell (p := ⟨g, 2, none⟩) GL.out).trans Q2.out
          go_simp
          first | exact rfl | exact ⟨rfl, hw'⟩
        simp only [Act.put, List.setIfInBounds_toArray, List.set_cons_succ, List.set_cons_zero]
        apply wpK_val
        · rfl
        · intro w' hw'
          go_simp
          first | exact rfl | exact ⟨rfl, hw'⟩
        simp only [Act.put, List.setIfInBounds_toArray, List.set_cons_succ, List.set_cons_zero]
        apply wpK_val
        · rfl
        · intro w' hw'
          go_simp
          first | exact rfl | exact ⟨rfl, hw'⟩
        simp only [Act.put, List.setIfInBounds_toArray, List.set_cons_succ, List.set_cons_zero]
        apply wpK_val
        · rfl
        · intro w' hw'
          go_simp
          exact (P.out _).mono fun e w'' ⟨he, hw2⟩ => ⟨he, hw2 ▸ hw'⟩
        simp only [Act.put, List.setIfInBounds_toArray, List.set_cons_succ, List.set_cons_zero]
        apply wpK_val
        · rfl
        · intro w' hw'
          go_simp
          first | exact rfl | exact ⟨rfl, hw'⟩
        simp only [Act.put, List.setIfInBounds_toArray, List.set_cons_succ, List.set_cons_zero]
        apply wpK_val
        · rfl
        · intro w' hw'
          go_simp
          first | exact rfl | exact ⟨rfl, hw'⟩
        simp only [Act.put, List.setIfInBounds_toArray, List.set_cons_succ, List.set_cons_zero]
        apply wpK_val
        · rfl
        · intro w' hw'
          go_simp
          first | exact rfl | exact ⟨rfl, hw'⟩
        simp only [Act.put, List.setIfInBounds_toArray, List.set_cons_succ, List.set_cons_zero]
        apply wpK_val
        · rfl
        · intro w' hw'
          go_simp
          first | exact rfl | exact ⟨rfl, hw'⟩
        simp only [Act.put, List.setIfInBounds_toArray, List.set_cons_succ, List.set_cons_zero]
        apply wpK_val
        · rfl
        · intro w' hw'
          go_simp
          first | exact rfl | exact ⟨rfl, hw'⟩
        simp only [Act.put, List.setIfInBounds_toArray, List.set_cons_succ, List.set_cons_zero]
        apply wpK_val
        · rfl
        · intro w' hw'
          go_simp
          first | exact rfl | exact ⟨rfl, hw'⟩
        simp only [Act.put, List.setIfInBounds_toArray, List.set_cons_succ, List.set_cons_zero]
        apply wpK_val
        · rfl
        · intro w' hw'
          have hcell := (hw'.cell (p := ⟨g, 1, none⟩) GL.out).trans Q1.out
          go_simp
          first | exact rfl | exact ⟨rfl, hw'⟩
        simp only [Act.put, List.setIfInBounds_toArray, List.set_cons_succ, List.set_cons_zero]
        apply wpK_val
        · rfl
        · intro w' hw'
          go_simp
          first | exact rfl | exact ⟨rfl, hw'⟩
        simp only [Act.put, List.setIfInBounds_toArray, List.set_cons_succ, List.set_cons_zero]
        apply wpK_val
        · rfl
        · intro w' hw'
          have h1 : _ := EW.out
          go_simp
          first | exact rfl | exact ⟨rfl, hw'⟩
        simp only [Act.put, List.setIfInBounds_toArray, List.set_cons_succ, List.set_cons_zero]
        apply wpK_val
        · rfl
        · intro w' hw'
          go_simp
          first | exact rfl | exact ⟨rfl, hw'⟩
        simp only [Act.put, List.setIfInBounds_toArray, List.set_cons_succ, List.set_cons_zero]
        apply wpK_val
        · rfl
        · intro w' hw'
          go_simp
          first | exact rfl | exact ⟨rfl, hw'⟩
        simp only [Act.put, List.setIfInBounds_toArray, List.set_cons_succ, List.set_cons_zero]
        apply wpK_val
        · rfl
        · intro w' hw'
          go_simp
          first | exact rfl | exact ⟨rfl, hw'⟩
        simp only [Act.put, List.setIfInBounds_toArray, List.set_cons_succ, List.set_cons_zero]
        apply wpK_val
        · rfl
        · intro w' hw'
          have hcell := (hw'.cell (p := ⟨g, 0, none⟩) GL.out).trans Q0.out
          go_simp
          first | exact rfl | exact ⟨rfl, hw'⟩
        simp only [Act.put, List.setIfInBounds_toArray, List.set_cons_succ, List.set_cons_zero]
        apply wpK_val
        · rfl
        · intro w' hw'
          go_simp
          first | exact rfl | exact ⟨rfl, hw'⟩
        simp only [Act.put, List.setIfInBounds_toArray, List.set_cons_succ, List.set_cons_zero]
        apply wpK_val
        · rfl
        · intro w' hw'
          have h1 : _ := TF.out
          have h2 : _ := TFn.out
          go_simp
          first | exact rfl | exact ⟨rfl, hw'⟩
        simp only [Act.put, List.setIfInBounds_toArray, List.set_cons_succ, List.set_cons_zero]
        apply wpK_val
        · rfl
        · intro w' hw'
          go_simp
          first | exact rfl | exact ⟨rfl, hw'⟩
        simp only [Act.put, List.setIfInBounds_toArray, List.set_cons_succ, List.set_cons_zero]
        refine wpK_nil fun w7 h7 => ?_
        have W7 := hid h7
        clear h7
        go_wp2_with fail
        refine wp_region_tail (C := fun w' => Below w.heap.size w w') 16 (by kernel_rfl) (by kernel_rfl) (by kernel_rfl) W7.out.drew ?_
        simp only [List.take_succ_cons, List.take_zero, List.drop_succ_cons, List.drop_zero]
        apply wpK_val
        · rfl
        · intro w' hw'
          go_simp
          first | exact rfl | exact ⟨rfl, hw'⟩
        simp only [Act.put, List.setIfInBounds_toArray, List.set_cons_succ, List.set_cons_zero]
        apply wpK_val
        · rfl
        · intro w' hw'
          go_simp
          first | exact rfl | exact ⟨rfl, hw'⟩
        simp only [Act.put, List.setIfInBounds_toArray, List.set_cons_succ, List.set_cons_zero]
        apply wpK_val
        · rfl
        · intro w' hw'
          go_simp
          first | exact rfl | exact ⟨rfl, hw'⟩
        simp only [Act.put, List.setIfInBounds_toArray, List.set_cons_succ, List.set_cons_zero]
        apply wpK_val
        · rfl
        · intro w' hw'
          have hcell := (hw'.cell (p := ⟨g, 0, none⟩) GL.out).trans Q0.out
          go_simp
          first | exact rfl | exact ⟨rfl, hw'⟩
        simp only [Act.put, List.setIfInBounds_toArray, List.set_cons_succ, List.set_cons_zero]
        apply wpK_val
        · rfl
        · intro w' hw'
          go_simp
          first | exact rfl | exact ⟨rfl, hw'⟩
        simp only [Act.put, List.setIfInBounds_toArray, List.set_cons_succ, List.set_cons_zero]
        apply wpK_val
        · rfl
        · intro w' hw'
          go_simp
          first | exact rfl | exact ⟨rfl, hw'⟩
        simp only [Act.put, List.setIfInBounds_toArray, List.set_cons_succ, List.set_cons_zero]
        apply wpK_val
        · rfl
        · intro w' hw'
          go_simp
          first | exact rfl | exact ⟨rfl, hw'⟩
        simp only [Act.put, List.setIfInBounds_toArray, List.set_cons_succ, List.set_cons_zero]
        apply wpK_val
        · rfl
        · intro w' hw'
          have hcell := (hw'.cell (p := ⟨g, 1, none⟩) GL.out).trans Q1.out
          go_simp
          first | exact rfl | exact ⟨rfl, hw'⟩
        simp only [Act.put, List.setIfInBounds_toArray, List.set_cons_succ, List.set_cons_zero]
        apply wpK_val
        · rfl
        · intro w' hw'
          go_simp
          first | exact rfl | exact ⟨rfl, hw'⟩
        simp only [Act.put, List.setIfInBounds_toArray, List.set_cons_succ, List.set_cons_zero]
        apply wpK_val
        · rfl
        · intro w' hw'
          go_simp
          first | exact rfl | exact ⟨rfl, hw'⟩
        simp only [Act.put, List.setIfInBounds_toArray, List.set_cons_succ, List.set_cons_zero]
        apply wpK_val
        · rfl
        · intro w' hw'
          go_simp
          first | exact rfl | exact ⟨rfl, hw'⟩
        simp only [Act.put, List.setIfInBounds_toArray, List.set_cons_succ, List.set_cons_zero]
        apply wpK_val
        · rfl
        · intro w' hw'
          have hcell := (hw'.cell (p := ⟨g, 1, none⟩) GL.out).trans Q1.out
          go_simp
          first | exact rfl | exact ⟨rfl, hw'⟩
        simp only [Act.put, List.setIfInBounds_toArray, List.set_cons_succ, List.set_cons_zero]
        apply wpK_val
        · rfl
        · intro w' hw'
          go_simp
          first | exact rfl | exact ⟨rfl, hw'⟩
        simp only [Act.put, List.setIfInBounds_toArray, List.set_cons_succ, List.set_cons_zero]
        apply wpK_val
        · rfl
        · intro w' hw'
          have h1 : _ := EW.out
          go_simp
          first | exact rfl | exact ⟨rfl, hw'⟩
        simp only [Act.put, List.setIfInBounds_toArray, List.set_cons_succ, List.set_cons_zero]
        apply ksl (i := at0) (j := at1) (N := k)
        · rfl
        · rfl
        · rfl
        · rfl
        · exact E1.out
        · exact hat1
        · exact hcap
        simp only [Act.put, List.setIfInBounds_toArray, List.set_cons_succ, List.set_cons_zero]
        apply wpK_val
        · rfl
        · intro w' hw'
          go_simp
          exact (rval_any (slA A cp at0) ((l.drop at0).take k) k (cp - at0) hk8 _ (arg_slA ((RD.out.below hw' (Nat.le_trans HL.out (Nat.le_of_lt GL.out))).arg (Nat.le_trans (Nat.le_trans HL.out (Nat.le_of_lt GL.out)) hw'.size)) (by rw [← E1.out]; exact hat1))).mono fun e w'' ⟨he, hw2⟩ => ⟨he, hw2 ▸ hw'⟩
        simp only [Act.put, List.setIfInBounds_toArray, List.set_cons_succ, List.set_cons_zero]
        refine wpK_nil fun w8 h8 => ?_
        have H8 := hid (HT.out.below h8)
        have q1 := (h8.cell (p := ⟨g, 1, none⟩) GL.out).trans Q1.out
        obtain ⟨hl8, A', n', cp', l', at', b8, k2, k3, k4, k5⟩ := H8.out
        have q0' := (h8.cell (p := ⟨g, 0, none⟩) GL.out).trans Q0.out
        have fz := b8.frozen 1
        have G8 := hid (grown_trans (grown_below h8 (some g)) (grown_setCell w8 g 1 (.int .i64 at1)))
        have T8 : Hid (RTap (w8.setCell ⟨g, 1, none⟩ (.int .i64 at1)) g hi (some (l.drop at1))) := hid (by
          have b9 : Blk w8 g 50 (rt A n cp at0 false) := by
            have hb := b8
            have e0 : some (Value.slice A' n' cp') = some (Value.slice A n cp) := (b8.cell 0).symm.trans q0'
            have e1 : some (Value.int .i64 (at' : Int)) = some (Value.int .i64 (at0 : Int)) := (b8.cell 1).symm.trans q1
            simp only [Option.some.injEq, Value.slice.injEq] at e0
            simp only [Option.some.injEq, Value.int.injEq, true_and] at e1
            obtain ⟨rfl, rfl, rfl⟩ := e0
            obtain rfl : at' = at0 := by omega
            exact hb
          exact ⟨HL.out, A, n, cp, l, at1, b9.setCell_same 1 _, hat1, hn9, (RD.out.below h8 (Nat.le_trans HL.out (Nat.le_of_lt GL.out))).gr (grown_setCell w8 g 1 _) (fun k e => by cases e; exact .inr HL.out), fun s e => by cases e; rfl⟩)
        have e1i := E1I.out
        clear h8 b8 k2 k3 k4 k5 q0' W7
        go_wp2_with fail
        go_ret
        exact ⟨rfl, T8.out, G8.out⟩
set_option maxHeartbeats 400000 in
set_option maxRecDepth 100000 in
theorem rtbytes_any {g hi : Nat} {st : BytM.Tp} (w : World) (h : RTap w g hi st) (m : Int) (hm1 : -9223372036854775808 ≤ m) (hm2 : m ≤ 9223372036854775807) :
    Calls Try.prog 25 #[.pointer (some ⟨g, 0, none⟩), .int .i64 m] w fun e w' => ∃ v, e = .returned v ∧ Own 5 .u8 w' w.heap.size v (BytM.cutL st m) ∧ RTap w' g hi (BytM.cutS st m) ∧ w.grownBy w' (some g) := by
  obtain ⟨hl, A, n, cp, l, at0, b1, hat, hn9, rd, hst⟩ := id h
  have hcap := rd.cap
  have hmx := rd.max
  unfold maxLen at hmx
  have Q0 := hid (show w.cell? ⟨g, 0, none⟩ = some (.slice A n cp) from b1.cell 0)
  have Q1 := hid (show w.cell? ⟨g, 1, none⟩ = some (.int .i64 at0) from b1.cell 1)
  have Q2 := hid (show w.cell? ⟨g, 2, none⟩ = some (.bool (!st.isSome)) from b1.cell 2)
  have GL := hid b1.lt
  have HT := hid h
  have RD := hid rd
  have HLEN := hid rd.len
  cases st with
  | none =>
    have e1 : BytM.cutL none m = [] := rfl
    rw [e1, BytM.cut_none]
    clear h b1 rd hst e1
    go_enter Try.func25, Try.ntmps25
    go_wp2_with fail
    refine wp_region_tail (C := fun w' => Below w.heap.size w w') 22 (by kernel_rfl) (by kernel_rfl) (by kernel_rfl) (Below.refl _ _).drew ?_
    simp only [List.take_succ_cons, List.take_zero, List.drop_succ_cons, List.drop_zero]
    apply wpK_val
    · rfl
    · intro w' hw'
      go_simp
      first | exact rfl | exact ⟨rfl, hw'⟩
    simp only [Act.put, List.setIfInBounds_toArray, List.set_cons_succ, List.set_cons_zero]
    apply wpK_val
    · rfl
    · intro w' hw'
      go_simp
      first | exact rfl | exact ⟨rfl, hw'⟩
    simp only [Act.put, List.setIfInBounds_toArray, List.set_cons_succ, List.set_cons_zero]
    apply wpK_val
    · rfl
    · intro w' hw'
      go_simp
      first | exact rfl | exact ⟨rfl, hw'⟩
    simp only [Act.put, List.setIfInBounds_toArray, List.set_cons_succ, List.set_cons_zero]
    apply wpK_val
    · rfl
    · intro w' hw'
      have hcell := (hw'.cell (p := ⟨g, 2, none⟩) GL.out).trans Q2.out
      go_simp
      first | exact rfl | exact ⟨rfl, hw'⟩
    simp only [Act.put, List.setIfInBounds_toArray, List.set_cons_succ, List.set_cons_zero]
    apply wpK_val
    · rfl
    · intro w' hw'
      go_simp
      first | exact rfl | exact ⟨rfl, hw'⟩
    simp only [Act.put, List.setIfInBounds_toArray, List.set_cons_succ, List.set_cons_zero]
    apply wpK_not
    · rfl
    simp only [Act.put, List.setIfInBounds_toArray, List.set_cons_succ, List.set_cons_zero]
    apply wpK_not
    · rfl
    simp only [Act.put, List.setIfInBounds_toArray, List.set_cons_succ, List.set_cons_zero]
    apply wpK_val
    · rfl
    · intro w' hw'
      go_simp
      first | exact rfl | exact ⟨rfl, hw'⟩
    simp only [Act.put, List.setIfInBounds_toArray, List.set_cons_succ, List.set_cons_zero]
    apply wpK_val
    · rfl
    · intro w' hw'
      go_simp
      first | exact rfl | exact ⟨rfl, hw'⟩
    simp only [Act.put, List.setIfInBounds_toArray, List.set_cons_succ, List.set_cons_zero]
    apply wpK_not
    · rfl
    simp only [Act.put, List.setIfInBounds_toArray, List.set_cons_succ, List.set_cons_zero]
    apply wpK_not
    · rfl
    simp only [Act.put, List.setIfInBounds_toArray, List.set_cons_succ, List.set_cons_zero]
    apply wpK_not
    · rfl
    simp only [Act.put, List.setIfInBounds_toArray, List.set_cons_succ, List.set_cons_zero]
    apply wpK_not
    · rfl
    simp only [Act.put, List.setIfInBounds_toArray, List.set_cons_succ, List.set_cons_zero]
    apply wpK_not
    · rfl
    simp only [Act.put, List.setIfInBounds_toArray, List.set_cons_succ, List.set_cons_zero]
    apply wpK_not
    · rfl
    simp only [Act.put, List.setIfInBounds_toArray, List.set_cons_succ, List.set_cons_zero]
    apply wpK_not
    · rfl
    simp only [Act.put, List.setIfInBounds_toArray, List.set_cons_succ, List.set_cons_zero]
    apply wpK_not
    · rfl
    simp only [Act.put, List.setIfInBounds_toArray, List.set_cons_succ, List.set_cons_zero]
    apply wpK_not
    · rfl
    simp only [Act.put, List.setIfInBounds_toArray, List.set_cons_succ, List.set_cons_zero]
    apply wpK_not
    · rfl
    simp only [Act.put, List.setIfInBounds_toArray, List.set_cons_succ, List.set_cons_zero]
    apply wpK_not
    · rfl
    simp only [Act.put, List.setIfInBounds_toArray, List.set_cons_succ, List.set_cons_zero]
    apply wpK_not
    · rfl
    simp only [Act.put, List.setIfInBounds_toArray, List.set_cons_succ, List.set_cons_zero]
    apply wpK_val
    · rfl
    · intro w' hw'
      go_simp
      first | exact rfl | exact ⟨rfl, hw'⟩
    simp only [Act.put, List.setIfInBounds_toArray, List.set_cons_succ, List.set_cons_zero]
    refine wpK_nil fun w7 h7 => ?_
    have H7 := hid (HT.out.below h7)
    have c7 := (H7.out.cells)
    obtain ⟨A', n', cp', l', at', b7, _⟩ := c7
    have fz := b7.frozen 2
    have q2 := (h7.cell (p := ⟨g, 2, none⟩) GL.out).trans Q2.out
    have G7 := hid (grown_trans (grown_below h7 (some g)) (grown_setCell w7 g 2 (.bool true)))
    clear b7 h7
    go_wp2_with fail
    go_ret
    exact ⟨_, rfl, Own.nil, H7.out.tear, G7.out⟩
  | some s =>
    have hs := hst s rfl
    rw [hs]
    rw [hs] at HT
    by_cases h0 : m < 0
    · obtain ⟨e1, e2⟩ := cut_bad (st := some (l.drop at0)) (n := m) (fun s e h => by omega)
      rw [e1, e2]
      have TF := hid (show decide (m < 0) = true from decide_eq_true h0)
      clear h b1 rd hst e1 e2 hs h0
      go_enter Try.func25, Try.ntmps25
      go_wp2_with fail
      refine wp_region_tail (C := fun w' => Below w.heap.size w w') 22 (by kernel_rfl) (by kernel_rfl) (by kernel_rfl) (Below.refl _ _).drew ?_
      simp only [List.take_succ_cons, List.take_zero, List.drop_succ_cons, List.drop_zero]
      apply wpK_val
      · rfl
      · intro w' hw'
        go_simp
        first | exact rfl | exact ⟨rfl, hw'⟩
      simp only [Act.put, List.setIfInBounds_toArray, List.set_cons_succ, List.set_cons_zero]
      apply wpK_val
      · rfl
      · intro w' hw'
        go_simp
        first | exact rfl | exact ⟨rfl, hw'⟩
      simp only [Act.put, List.setIfInBounds_toArray, List.set_cons_succ, List.set_cons_zero]
      apply wpK_val
      · rfl
      · intro w' hw'
        go_simp
        first | exact rfl | exact ⟨rfl, hw'⟩
      simp only [Act.put, List.setIfInBounds_toArray, List.set_cons_succ, List.set_cons_zero]
      apply wpK_val
      · rfl
      · intro w' hw'
        have hcell := (hw'.cell (p := ⟨g, 2, none⟩) GL.out).trans Q2.out
        go_simp
        first | exact rfl | exact ⟨rfl, hw'⟩
      simp only [Act.put, List.setIfInBounds_toArray, List.set_cons_succ, List.set_cons_zero]
      apply wpK_val
      · rfl
      · intro w' hw'
        go_simp
        first | exact rfl | exact ⟨rfl, hw'⟩
      simp only [Act.put, List.setIfInBounds_toArray, List.set_cons_succ, List.set_cons_zero]
      apply wpK_val
      · rfl
      · intro w' hw'
        go_simp
        first | exact rfl | exact ⟨rfl, hw'⟩
      simp only [Act.put, List.setIfInBounds_toArray, List.set_cons_succ, List.set_cons_zero]
      apply wpK_val
      · rfl
      · intro w' hw'
        have h1 : _ := TF.out
        go_simp
        first | exact rfl | exact ⟨rfl, hw'⟩
      simp only [Act.put, List.setIfInBounds_toArray, List.set_cons_succ, List.set_cons_zero]
      apply wpK_val
      · rfl
      · intro w' hw'
        go_simp
        first | exact rfl | exact ⟨rfl, hw'⟩
      simp only [Act.put, List.setIfInBounds_toArray, List.set_cons_succ, List.set_cons_zero]
      apply wpK_val
      · rfl
      · intro w' hw'
        go_simp
        first | exact rfl | exact ⟨rfl, hw'⟩
      simp only [Act.put, List.setIfInBounds_toArray, List.set_cons_succ, List.set_cons_zero]
      apply wpK_not
      · rfl
      simp only [Act.put, List.setIfInBounds_toArray, List.set_cons_succ, List.set_cons_zero]
      apply wpK_not
      · rfl
      simp only [Act.put, List.setIfInBounds_toArray, List.set_cons_succ, List.set_cons_zero]
      apply wpK_not
      · rfl
      simp only [Act.put, List.setIfInBounds_toArray, List.set_cons_succ, List.set_cons_zero]
      apply wpK_not
      · rfl
      simp only [Act.put, List.setIfInBounds_toArray, List.set_cons_succ, List.set_cons_zero]
      apply wpK_not
      · rfl
      simp only [Act.put, List.setIfInBounds_toArray, List.set_cons_succ, List.set_cons_zero]
      apply wpK_not
      · rfl
      simp only [Act.put, List.setIfInBounds_toArray, List.set_cons_succ, List.set_cons_zero]
      apply wpK_not
      · rfl
      simp only [Act.put, List.setIfInBounds_toArray, List.set_cons_succ, List.set_cons_zero]
      apply wpK_not
      · rfl
      simp only [Act.put, List.setIfInBounds_toArray, List.set_cons_succ, List.set_cons_zero]
      apply wpK_not
      · rfl
      simp only [Act.put, List.setIfInBounds_toArray, List.set_cons_succ, List.set_cons_zero]
      apply wpK_not
      · rfl
      simp only [Act.put, List.setIfInBounds_toArray, List.set_cons_succ, List.set_cons_zero]
      apply wpK_not
      · rfl
      simp only [Act.put, List.setIfInBounds_toArray, List.set_cons_succ, List.set_cons_zero]
      apply wpK_not
      · rfl
      simp only [Act.put, List.setIfInBounds_toArray, List.set_cons_succ, List.set_cons_zero]
      apply wpK_val
      · rfl
      · intro w' hw'
        go_simp
        first | exact rfl | exact ⟨rfl, hw'⟩
      simp only [Act.put, List.setIfInBounds_toArray, List.set_cons_succ, List.set_cons_zero]
      refine wpK_nil fun w7 h7 => ?_
      have H7 := hid (HT.out.below h7)
      have c7 := (H7.out.cells)
      obtain ⟨A', n', cp', l', at', b7, _⟩ := c7
      have fz := b7.frozen 2
      have q2 := (h7.cell (p := ⟨g, 2, none⟩) GL.out).trans Q2.out
      have G7 := hid (grown_trans (grown_below h7 (some g)) (grown_setCell w7 g 2 (.bool true)))
      clear b7 h7
      go_wp2_with fail
      go_ret
      exact ⟨_, rfl, Own.nil, H7.out.tear, G7.out⟩
    · have TF := hid (show decide (m < 0) = false from decide_eq_false h0)
      obtain ⟨k, rfl⟩ : ∃ k : Nat, m = k := ⟨m.toNat, by omega⟩
      obtain ⟨R, hR⟩ : ∃ x, x = n - at0 := ⟨_, rfl⟩
      have eR : (n : Int) - (at0 : Int) = (R : Int) := by omega
      have ER := hid (show IntKind.i64.wrap ((n : Int) - (at0 : Int)) = (R : Int) by rw [IntWalk.i64_in _ (by omega)]; omega)
      by_cases hfit : n < at0 + k
      · obtain ⟨e1, e2⟩ := cut_bad (st := some (l.drop at0)) (n := (k : Int)) (fun s e h => by cases e; rw [List.length_drop, HLEN.out] at h; omega)
        rw [e1, e2]
        have TG := hid (show decide ((R : Int) < (k : Int)) = true from decide_eq_true (by omega))
        have TGn := hid (show R < k by omega)
        clear h b1 rd hst e1 e2 hs h0 hfit hR eR
        go_enter Try.func25, Try.ntmps25
        go_wp2_with fail
        refine wp_region_tail (C := fun w' => Below w.heap.size w w') 22 (by kernel_rfl) (by kernel_rfl) (by kernel_rfl) (Below.refl _ _).drew ?_
        simp only [List.take_succ_cons, List.take_zero, List.drop_succ_cons, List.drop_zero]
        apply wpK_val
        · rfl
        · intro w' hw'
          go_simp
          first | exact rfl | exact ⟨rfl, hw'⟩
        simp only [Act.put, List.setIfInBounds_toArray, List.set_cons_succ, List.set_cons_zero]
        apply wpK_val
        · rfl
        · intro w' hw'
          go_simp
          first | exact rfl | exact ⟨rfl, hw'⟩
        simp only [Act.put, List.setIfInBounds_toArray, List.set_cons_succ, List.set_cons_zero]
        apply wpK_val
        · rfl
        · intro w' hw'
          go_simp
          first | exact rfl | exact ⟨rfl, hw'⟩
        simp only [Act.put, List.setIfInBounds_toArray, List.set_cons_succ, List.set_cons_zero]
        apply wpK_val
        · rfl
        · intro w' hw'
          have hcell := (hw'.cell (p := ⟨g, 2, none⟩) GL.out).trans Q2.out
          go_simp
          first | exact rfl | exact ⟨rfl, hw'⟩
        simp only [Act.put, List.setIfInBounds_toArray, List.set_cons_succ, List.set_cons_zero]
        apply wpK_val
        · rfl
        · intro w' hw'
          go_simp
          first | exact rfl | exact ⟨rfl, hw'⟩
        simp only [Act.put, List.setIfInBounds_toArray, List.set_cons_succ, List.set_cons_zero]
        apply wpK_val
        · rfl
        · intro w' hw'
          go_simp
          first | exact rfl | exact ⟨rfl, hw'⟩
        simp only [Act.put, List.setIfInBounds_toArray, List.set_cons_succ, List.set_cons_zero]
        apply wpK_val
        · rfl
        · intro w' hw'
          have h1 : _ := TF.out
          go_simp
          first | exact rfl | exact ⟨rfl, hw'⟩
        simp only [Act.put, List.setIfInBounds_toArray, List.set_cons_succ, List.set_cons_zero]
        apply wpK_val
        · rfl
        · intro w' hw'
          go_simp
          first | exact rfl | exact ⟨rfl, hw'⟩
        simp only [Act.put, List.setIfInBounds_toArray, List.set_cons_succ, List.set_cons_zero]
        apply wpK_val
        · rfl
        · intro w' hw'
          go_simp
          first | exact rfl | exact ⟨rfl, hw'⟩
        simp only [Act.put, List.setIfInBounds_toArray, List.set_cons_succ, List.set_cons_zero]
        apply wpK_val
        · rfl
        · intro w' hw'
          go_simp
          first | exact rfl | exact ⟨rfl, hw'⟩
        simp only [Act.put, List.setIfInBounds_toArray, List.set_cons_succ, List.set_cons_zero]
        apply wpK_val
        · rfl
        · intro w' hw'
          go_simp
          first | exact rfl | exact ⟨rfl, hw'⟩
        simp only [Act.put, List.setIfInBounds_toArray, List.set_cons_succ, List.set_cons_zero]
        apply wpK_val
        · rfl
        · intro w' hw'
          go_simp
          first | exact rfl | exact ⟨rfl, hw'⟩
        simp only [Act.put, List.setIfInBounds_toArray, List.set_cons_succ, List.set_cons_zero]
        apply wpK_val
        · rfl
        · intro w' hw'
          go_simp
          first | exact rfl | exact ⟨rfl, hw'⟩
        simp only [Act.put, List.setIfInBounds_toArray, List.set_cons_succ, List.set_cons_zero]
        apply wpK_val
        · rfl
        · intro w' hw'
          have hcell := (hw'.cell (p := ⟨g, 0, none⟩) GL.out).trans Q0.out
          go_simp
          first | exact rfl | exact ⟨rfl, hw'⟩
        simp only [Act.put, List.setIfInBounds_toArray, List.set_cons_succ, List.set_cons_zero]
        apply wpK_val
        · rfl
        · intro w' hw'
          go_simp
          first | exact rfl | exact ⟨rfl, hw'⟩
        simp only [Act.put, List.setIfInBounds_toArray, List.set_cons_succ, List.set_cons_zero]
        apply wpK_val
        · rfl
        · intro w' hw'
          go_simp
          first | exact rfl | exact ⟨rfl, hw'⟩
        simp only [Act.put, List.setIfInBounds_toArray, List.set_cons_succ, List.set_cons_zero]
        apply wpK_val
        · rfl
        · intro w' hw'
          go_simp
          first | exact rfl | exact ⟨rfl, hw'⟩
        simp only [Act.put, List.setIfInBounds_toArray, List.set_cons_succ, List.set_cons_zero]
        apply wpK_val
        · rfl
        · intro w' hw'
          go_simp
          first | exact rfl | exact ⟨rfl, hw'⟩
        simp only [Act.put, List.setIfInBounds_toArray, List.set_cons_succ, List.set_cons_zero]
        apply wpK_val
        · rfl
        · intro w' hw'
          have hcell := (hw'.cell (p := ⟨g, 1, none⟩) GL.out).trans Q1.out
          go_simp
          first | exact rfl | exact ⟨rfl, hw'⟩
        simp only [Act.put, List.setIfInBounds_toArray, List.set_cons_succ, List.set_cons_zero]
        apply wpK_val
        · rfl
        · intro w' hw'
          have h1 : _ := ER.out
          go_simp
          first | exact rfl | exact ⟨rfl, hw'⟩
        simp only [Act.put, List.setIfInBounds_toArray, List.set_cons_succ, List.set_cons_zero]
        apply wpK_val
        · rfl
        · intro w' hw'
          have h1 : _ := TG.out
          have h2 : _ := TGn.out
          go_simp
          first | exact rfl | exact ⟨rfl, hw'⟩
        simp only [Act.put, List.setIfInBounds_toArray, List.set_cons_succ, List.set_cons_zero]
        apply wpK_val
        · rfl
        · intro w' hw'
          go_simp
          first | exact rfl | exact ⟨rfl, hw'⟩
        simp only [Act.put, List.setIfInBounds_toArray, List.set_cons_succ, List.set_cons_zero]
        refine wpK_nil fun w7 h7 => ?_
        have H7 := hid (HT.out.below h7)
        have c7 := (H7.out.cells)
        obtain ⟨A', n', cp', l', at', b7, _⟩ := c7
        have fz := b7.frozen 2
        have q2 := (h7.cell (p := ⟨g, 2, none⟩) GL.out).trans Q2.out
        have G7 := hid (grown_trans (grown_below h7 (some g)) (grown_setCell w7 g 2 (.bool true)))
        clear b7 h7
        go_wp2_with fail
        go_ret
        exact ⟨_, rfl, Own.nil, H7.out.tear, G7.out⟩
      · obtain ⟨at1, e1⟩ : ∃ x, x = at0 + k := ⟨_, rfl⟩
        have e1i : (at0 : Int) + (k : Int) = (at1 : Int) := by omega
        have hd := drop_cut (l := l) (i := at0) (n := k) (by rw [HLEN.out]; exact hat) (by rw [HLEN.out]; omega)
        rw [hd.1, hd.2, ← e1]
        have hat1 : at1 ≤ n := by omega
        have TG := hid (show decide ((R : Int) < (k : Int)) = false from decide_eq_false (by omega))
        have EW := hid (show IntKind.i64.wrap ((at0 : Int) + (k : Int)) = (at1 : Int) by rw [IntWalk.i64_in _ (by omega)]; omega)
        have TGn := hid (show ¬ R < k by omega)
        have E1 := hid e1
        have E1I := hid e1i
        have HL := hid hl
        have HK9 := hid (show k ≤ 900000 by omega)
        clear h b1 rd hst hd hs h0 hfit e1 e1i hR eR
        go_enter Try.func25, Try.ntmps25
        go_wp2_with fail
        refine wp_region_tail (C := fun w' => Below w.heap.size w w') 22 (by kernel_rfl) (by kernel_rfl) (by kernel_rfl) (Below.refl _ _).drew ?_
        simp only [List.take_succ_cons, List.take_zero, List.drop_succ_cons, List.drop_zero]
        apply wpK_val
        · rfl
        · intro w' hw'
          go_simp
          first | exact rfl | exact ⟨rfl, hw'⟩
        simp only [Act.put, List.setIfInBounds_toArray, List.set_cons_succ, List.set_cons_zero]
        apply wpK_val
        · rfl
        · intro w' hw'
          go_simp
          first | exact rfl | exact ⟨rfl, hw'⟩
        simp only [Act.put, List.setIfInBounds_toArray, List.set_cons_succ, List.set_cons_zero]
        apply wpK_val
        · rfl
        · intro w' hw'
          go_simp
          first | exact rfl | exact ⟨rfl, hw'⟩
        simp only [Act.put, List.setIfInBounds_toArray, List.set_cons_succ, List.set_cons_zero]
        apply wpK_val
        · rfl
        · intro w' hw'
          have hcell := (hw'.cell (p := ⟨g, 2, none⟩) GL.out).trans Q2.out
          go_simp
          first | exact rfl | exact ⟨rfl, hw'⟩
        simp only [Act.put, List.setIfInBounds_toArray, List.set_cons_succ, List.set_cons_zero]
        apply wpK_val
        · rfl
        · intro w' hw'
          go_simp
          first | exact rfl | exact ⟨rfl, hw'⟩
        simp only [Act.put, List.setIfInBounds_toArray, List.set_cons_succ, List.set_cons_zero]
        apply wpK_val
        · rfl
        · intro w' hw'
          go_simp
          first | exact rfl | exact ⟨rfl, hw'⟩
        simp only [Act.put, List.setIfInBounds_toArray, List.set_cons_succ, List.set_cons_zero]
        apply wpK_val
        · rfl
        · intro w' hw'
          have h1 : _ := TF.out
          go_simp
          first | exact rfl | exact ⟨rfl, hw'⟩
        simp only [Act.put, List.setIfInBounds_toArray, List.set_cons_succ, List.set_cons_zero]
        apply wpK_val
        · rfl
        · intro w' hw'
          go_simp
          first | exact rfl | exact ⟨rfl, hw'⟩
        simp only [Act.put, List.setIfInBounds_toArray, List.set_cons_succ, List.set_cons_zero]
        apply wpK_val
        · rfl
        · intro w' hw'
          go_simp
          first | exact rfl | exact ⟨rfl, hw'⟩
        simp only [Act.put, List.setIfInBounds_toArray, List.set_cons_succ, List.set_cons_zero]
        apply wpK_val
        · rfl
        · intro w' hw'
          go_simp
          first | exact rfl | exact ⟨rfl, hw'⟩
        simp only [Act.put, List.setIfInBounds_toArray, List.set_cons_succ, List.set_cons_zero]
        apply wpK_val
        · rfl
        · intro w' hw'
          go_simp
          first | exact rfl | exact ⟨rfl, hw'⟩
        simp only [Act.put, List.setIfInBounds_toArray, List.set_cons_succ, List.set_cons_zero]
        apply wpK_val
        · rfl
        · intro w' hw'
          go_simp
          first | exact rfl | exact ⟨rfl, hw'⟩
        simp only [Act.put, List.setIfInBounds_toArray, List.set_cons_succ, List.set_cons_zero]
        apply wpK_val
        · rfl
        · intro w' hw'
          go_simp
          first | exact rfl | exact ⟨rfl, hw'⟩
        simp only [Act.put, List.setIfInBounds_toArray, List.set_cons_succ, List.set_cons_zero]
        apply wpK_val
        · rfl
        · intro w' hw'
          have hcell := (hw'.cell (p := ⟨g, 0, none⟩) GL.out).trans Q0.out
          go_simp
          first | exact rfl | exact ⟨rfl, hw'⟩
        simp only [Act.put, List.setIfInBounds_toArray, List.set_cons_succ, List.set_cons_zero]
        apply wpK_val
        · rfl
        · intro w' hw'
          go_simp
          first | exact rfl | exact ⟨rfl, hw'⟩
        simp only [Act.put, List.setIfInBounds_toArray, List.set_cons_succ, List.set_cons_zero]
        apply wpK_val
        · rfl
        · intro w' hw'
          go_simp
          first | exact rfl | exact ⟨rfl, hw'⟩
        simp only [Act.put, List.setIfInBounds_toArray, List.set_cons_succ, List.set_cons_zero]
        apply wpK_val
        · rfl
        · intro w' hw'
          go_simp
          first | exact rfl | exact ⟨rfl, hw'⟩
        simp only [Act.put, List.setIfInBounds_toArray, List.set_cons_succ, List.set_cons_zero]
        apply wpK_val
        · rfl
        · intro w' hw'
          go_simp
          first | exact rfl | exact ⟨rfl, hw'⟩
        simp only [Act.put, List.setIfInBounds_toArray, List.set_cons_succ, List.set_cons_zero]
        apply wpK_val
        · rfl
        · intro w' hw'
          have hcell := (hw'.cell (p := ⟨g, 1, none⟩) GL.out).trans Q1.out
          go_simp
          first | exact rfl | exact ⟨rfl, hw'⟩
        simp only [Act.put, List.setIfInBounds_toArray, List.set_cons_succ, List.set_cons_zero]
        apply wpK_val
        · rfl
        · intro w' hw'
          have h1 : _ := ER.out
          go_simp
          first | exact rfl | exact ⟨rfl, hw'⟩
        simp only [Act.put, List.setIfInBounds_toArray, List.set_cons_succ, List.set_cons_zero]
        apply wpK_val
        · rfl
        · intro w' hw'
          have h1 : _ := TG.out
          have h2 : _ := TGn.out
          go_simp
          first | exact rfl | exact ⟨rfl, hw'⟩
        simp only [Act.put, List.setIfInBounds_toArray, List.set_cons_succ, List.set_cons_zero]
        apply wpK_val
        · rfl
        · intro w' hw'
          go_simp
          first | exact rfl | exact ⟨rfl, hw'⟩
        simp only [Act.put, List.setIfInBounds_toArray, List.set_cons_succ, List.set_cons_zero]
        refine wpK_nil fun w7 h7 => ?_
        have W7 := hid h7
        clear h7
        go_wp2_with fail
        refine wp_region_tail (C := fun w' => Below w.heap.size w w') 16 (by kernel_rfl) (by kernel_rfl) (by kernel_rfl) W7.out.drew ?_
        simp only [List.take_succ_cons, List.take_zero, List.drop_succ_cons, List.drop_zero]
        apply wpK_val
        · rfl
        · intro w' hw'
          go_simp
          first | exact rfl | exact ⟨rfl, hw'⟩
        simp only [Act.put, List.setIfInBounds_toArray, List.set_cons_succ, List.set_cons_zero]
        apply wpK_val
        · rfl
        · intro w' hw'
          go_simp
          first | exact rfl | exact ⟨rfl, hw'⟩
        simp only [Act.put, List.setIfInBounds_toArray, List.set_cons_succ, List.set_cons_zero]
        apply wpK_val
        · rfl
        · intro w' hw'
          go_simp
          first | exact rfl | exact ⟨rfl, hw'⟩
        simp only [Act.put, List.setIfInBounds_toArray, List.set_cons_succ, List.set_cons_zero]
        apply wpK_val
        · rfl
        · intro w' hw'
          go_simp
          first | exact rfl | exact ⟨rfl, hw'⟩
        simp only [Act.put, List.setIfInBounds_toArray, List.set_cons_succ, List.set_cons_zero]
        apply wpK_val
        · rfl
        · intro w' hw'
          have hcell := (hw'.cell (p := ⟨g, 0, none⟩) GL.out).trans Q0.out
          go_simp
          first | exact rfl | exact ⟨rfl, hw'⟩
        simp only [Act.put, List.setIfInBounds_toArray, List.set_cons_succ, List.set_cons_zero]
        apply wpK_val
        · rfl
        · intro w' hw'
          go_simp
          first | exact rfl | exact ⟨rfl, hw'⟩
        simp only [Act.put, List.setIfInBounds_toArray, List.set_cons_succ, List.set_cons_zero]
        apply wpK_val
        · rfl
        · intro w' hw'
          go_simp
          first | exact rfl | exact ⟨rfl, hw'⟩
        simp only [Act.put, List.setIfInBounds_toArray, List.set_cons_succ, List.set_cons_zero]
        apply wpK_val
        · rfl
        · intro w' hw'
          go_simp
          first | exact rfl | exact ⟨rfl, hw'⟩
        simp only [Act.put, List.setIfInBounds_toArray, List.set_cons_succ, List.set_cons_zero]
        apply wpK_val
        · rfl
        · intro w' hw'
          have hcell := (hw'.cell (p := ⟨g, 1, none⟩) GL.out).trans Q1.out
          go_simp
          first | exact rfl | exact ⟨rfl, hw'⟩
        simp only [Act.put, List.setIfInBounds_toArray, List.set_cons_succ, List.set_cons_zero]
        apply wpK_val
        · rfl
        · intro w' hw'
          go_simp
          first | exact rfl | exact ⟨rfl, hw'⟩
        simp only [Act.put, List.setIfInBounds_toArray, List.set_cons_succ, List.set_cons_zero]
        apply wpK_val
        · rfl
        · intro w' hw'
          go_simp
          first | exact rfl | exact ⟨rfl, hw'⟩
        simp only [Act.put, List.setIfInBounds_toArray, List.set_cons_succ, List.set_cons_zero]
        apply wpK_val
        · rfl
        · intro w' hw'
          go_simp
          first | exact rfl | exact ⟨rfl, hw'⟩
        simp only [Act.put, List.setIfInBounds_toArray, List.set_cons_succ, List.set_cons_zero]
        apply wpK_val
        · rfl
        · intro w' hw'
          have hcell := (hw'.cell (p := ⟨g, 1, none⟩) GL.out).trans Q1.out
          go_simp
          first | exact rfl | exact ⟨rfl, hw'⟩
        simp only [Act.put, List.setIfInBounds_toArray, List.set_cons_succ, List.set_cons_zero]
        apply wpK_val
        · rfl
        · intro w' hw'
          go_simp
          first | exact rfl | exact ⟨rfl, hw'⟩
        simp only [Act.put, List.setIfInBounds_toArray, List.set_cons_succ, List.set_cons_zero]
        apply wpK_val
        · rfl
        · intro w' hw'
          have h1 : _ := EW.out
          go_simp
          first | exact rfl | exact ⟨rfl, hw'⟩
        simp only [Act.put, List.setIfInBounds_toArray, List.set_cons_succ, List.set_cons_zero]
        apply ksl (i := at0) (j := at1) (N := k)
        · rfl
        · rfl
        · rfl
        · rfl
        · exact E1.out
        · exact hat1
        · exact hcap
        simp only [Act.put, List.setIfInBounds_toArray, List.set_cons_succ, List.set_cons_zero]
        refine wpK_nil fun w8 h8 => ?_
        have AS := hid (arg_slA (i := at0) (N := k) ((RD.out.below h8 (Nat.le_trans HL.out (Nat.le_of_lt GL.out))).arg (Nat.le_trans (Nat.le_trans HL.out (Nat.le_of_lt GL.out)) h8.size)) (by rw [← E1.out]; exact hat1))
        have W8 := hid h8
        generalize slA A cp at0 = As at *
        clear h8 W7
        go_upto_region 6 with (at_builtin; (with_reducible apply wappN_any eltB); rfl; rfl; exact AS.out.none; exact Own.nil (B := w8.heap.size); exact AS.out.byt.nums; exact AS.out.len; (rw [List.length_nil]; have := HK9.out; omega); exact Nat.le_refl _; intro v9 w9 o9 g9)
        rw [List.nil_append] at o9
        have b9 := below_none (Below.refl w8.heap.size w8) g9 (Nat.le_refl _)
        have h9 := W8.out.trans (b9.mono W8.out.size)
        have O9 := hid (o9.lower (B' := w.heap.size) W8.out.size)
        have H9 := hid (HT.out.below h9)
        have q1 := (h9.cell (p := ⟨g, 1, none⟩) GL.out).trans Q1.out
        obtain ⟨hl8, A', n', cp', l', at', b8, k2, k3, k4, k5⟩ := H9.out
        have q0' := (h9.cell (p := ⟨g, 0, none⟩) GL.out).trans Q0.out
        have fz := b8.frozen 1
        have G8 := hid (grown_trans (grown_below h9 (some g)) (grown_setCell w9 g 1 (.int .i64 at1)))
        have T8 : Hid (RTap (w9.setCell ⟨g, 1, none⟩ (.int .i64 at1)) g hi (some (l.drop at1))) := hid (by
          have b9 : Blk w9 g 50 (rt A n cp at0 false) := by
            have hb := b8
            have e0 : some (Value.slice A' n' cp') = some (Value.slice A n cp) := (b8.cell 0).symm.trans q0'
            have e1 : some (Value.int .i64 (at' : Int)) = some (Value.int .i64 (at0 : Int)) := (b8.cell 1).symm.trans q1
            simp only [Option.some.injEq, Value.slice.injEq] at e0
            simp only [Option.some.injEq, Value.int.injEq, true_and] at e1
            obtain ⟨rfl, rfl, rfl⟩ := e0
            obtain rfl : at' = at0 := by omega
            exact hb
          exact ⟨HL.out, A, n, cp, l, at1, b9.setCell_same 1 _, hat1, hn9, (RD.out.below h9 (Nat.le_trans HL.out (Nat.le_of_lt GL.out))).gr (grown_setCell w9 g 1 _) (fun k e => by cases e; exact .inr HL.out), fun s e => by cases e; rfl⟩)
        have O10 := hid (O9.out.otherG (grown_setCell w9 g 1 (.int .i64 at1)) GL.out)
        have e1i := E1I.out
        clear b8 k2 k3 k4 k5 q0' o9 g9 b9 h9
        go_wp2_with fail
        go_ret
        exact ⟨_, rfl, O10.out, T8.out, G8.out⟩
end Go.Proofs.Ytiebaiofpihoiaa
