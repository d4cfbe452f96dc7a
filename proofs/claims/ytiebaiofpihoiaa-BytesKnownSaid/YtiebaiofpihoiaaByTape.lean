/-
  Contracts of bytes.Open and of a tape's Torn, End, tear and cut over this translation.
-/
import Derived.Test.YtiebaiofpihoiaaByPut2
import Derived.Test.YtiebaiofpihoiaaApp0
import Derived.OwnWalk
import Derived.Laws.Cover3
namespace Go.Proofs.Ytiebaiofpihoiaa
open Go.ChangeShapes Go.WideShapes Go.ChangeAt Go.RowKit
attribute [local go_sem] Gives
theorem grown_trans {w w' w2 : World} {r : Option Nat} (h : w.grownBy w' r) (h2 : w'.grownBy w2 r) : w.grownBy w2 r :=
  ⟨h2.os.trans h.os, h2.tape.trans h.tape, h2.output.trans h.output, Nat.le_trans h.size h2.size, fun k hk hne => (h2.block k (Nat.lt_of_lt_of_le hk h.size) hne).trans (h.block k hk hne)⟩
theorem grown_refl (w : World) (r : Option Nat) : w.grownBy w r := ⟨rfl, rfl, rfl, Nat.le_refl _, fun _ _ _ => rfl⟩
theorem grown_below {w w' : World} (h : Below w.heap.size w w') (r : Option Nat) : w.grownBy w' r := ⟨h.os, h.tape, h.output, h.size, fun k hk _ => h.block k hk⟩
theorem grown_setRow (w : World) (g : Nat) (cs : Array Value) : w.grownBy (w.setRow g cs) (some g) := ⟨rfl, rfl, rfl, by simp, fun k _ hne => Go.setRow_other w g k cs (fun e => hne (congrArg _ e))⟩
theorem grown_setCell (w : World) (g i : Nat) (v : Value) : w.grownBy (w.setCell ⟨g, i, none⟩ v) (some g) := ⟨rfl, rfl, rfl, by simp, fun k _ hne => Below.heap_setCell w ⟨g, i, none⟩ v k (fun e => hne (congrArg _ e))⟩
theorem Blk.by' {w w' : World} {g g' : Nat} {t : TypeId} {cs : Array Value} (h : Blk w g t cs) (hg : w.grownBy w' (some g')) (hne : g ≠ g') : Blk w' g t cs :=
  (hg.block g h.lt fun e => hne (Option.some.inj e)).trans h
theorem below_by {B g : Nat} {w0 w w' : World} (hb : Below B w0 w) (hg : w.grownBy w' (some g)) (hB : B ≤ g) (hs : B ≤ w0.heap.size) : Below B w0 w' :=
  hb.grown hg (Nat.le_trans hs hb.size) fun k e => by cases e; exact hB
/-- A slice of the bytes of l, in one row from block lo up to block hi. -/
def BytF (w : World) (lo hi : Nat) (A : Option Addr) (l : List Nat) : Prop :=
  0 < l.length → ∃ b o, A = some ⟨b, o, none⟩ ∧ lo ≤ b ∧ b < hi ∧ ∀ i, i < l.length → w.cell? ⟨b, o + i, none⟩ = some (.int .u8 (l.getD i 0 : Nat))
theorem BytF.byt {w : World} {lo hi : Nat} {A : Option Addr} {l : List Nat} (h : BytF w lo hi A l) : Byt w hi A l := fun hn => by
  obtain ⟨b, o, e, _, h2, h3⟩ := h hn
  exact ⟨b, o, e, h2, h3⟩
theorem BytF.below {w w' : World} {lo hi B : Nat} {A : Option Addr} {l : List Nat} (h : BytF w lo hi A l) (hb : Below B w w') (hB : hi ≤ B) : BytF w' lo hi A l := fun hn => by
  obtain ⟨b, o, rfl, h1, h2, h3⟩ := h hn
  exact ⟨b, o, rfl, h1, h2, fun i hi => (hb.cell (p := ⟨b, o + i, none⟩) (by show b < B; omega)).trans (h3 i hi)⟩
theorem BytF.by' {w w' : World} {lo hi g : Nat} {A : Option Addr} {l : List Nat} (h : BytF w lo hi A l) (hg : w.grownBy w' (some g)) (hne : g < lo ∨ hi ≤ g) : BytF w' lo hi A l := fun hn => by
  obtain ⟨b, o, rfl, h1, h2, h3⟩ := h hn
  exact ⟨b, o, rfl, h1, h2, fun i hi => hg.cell (h3 i hi) fun e => by have : b = g := Option.some.inj e; omega⟩
theorem BytF.more {w : World} {lo hi hi' : Nat} {A : Option Addr} {l : List Nat} (h : BytF w lo hi A l) (hh : hi ≤ hi') : BytF w lo hi' A l := fun hn => by
  obtain ⟨b, o, rfl, h1, h2, h3⟩ := h hn
  exact ⟨b, o, rfl, h1, by omega, h3⟩
theorem BytF.lower {w : World} {lo lo' hi : Nat} {A : Option Addr} {l : List Nat} (h : BytF w lo hi A l) (hh : lo' ≤ lo) : BytF w lo' hi A l := fun hn => by
  obtain ⟨b, o, rfl, h1, h2, h3⟩ := h hn
  exact ⟨b, o, rfl, by omega, h2, h3⟩
theorem BytF.nil {w : World} {lo hi : Nat} {A : Option Addr} : BytF w lo hi A [] := fun hn => absurd hn (by simp)
theorem BytF.take {w : World} {lo hi : Nat} {A : Option Addr} {l : List Nat} (h : BytF w lo hi A l) (n : Nat) : BytF w lo hi A (l.take n) := fun hn => by
  rw [List.length_take] at hn
  obtain ⟨b, o, rfl, h1, h2, h3⟩ := h (by omega)
  refine ⟨b, o, rfl, h1, h2, fun i hi => ?_⟩
  rw [List.length_take] at hi
  rw [getD_take (by omega)]
  exact h3 i (by omega)
theorem BytF.drop {w : World} {lo hi : Nat} {A : Option Addr} {l : List Nat} (h : BytF w lo hi A l) (cap W : Nat) (hc : l.length ≤ cap) : BytF w lo hi (if cap = W then A else Option.map (fun x => x.add W) A) (l.drop W) := fun hn => by
  rw [List.length_drop] at hn
  obtain ⟨b, o, rfl, h1, h2, h3⟩ := h (by omega)
  rw [if_neg (by omega)]
  refine ⟨b, o + W, by rw [Option.map_some, Addr.add_mid], h1, h2, fun i hi => ?_⟩
  rw [List.length_drop] at hi
  rw [getD_drop, Nat.add_assoc]
  exact h3 (W + i) (by omega)
/-- A slice of bytes that is read. -/
structure Rd (w : World) (lo hi : Nat) (A : Option Addr) (l : List Nat) (n cp : Nat) : Prop where
  len : l.length = n
  cap : n ≤ cp
  max : cp ≤ maxLen
  b256 : B256 l
  none : A = none → n = 0 ∧ cp = 0
  byt : BytF w lo hi A l
theorem Rd.arg {w : World} {lo hi : Nat} {A : Option Addr} {l : List Nat} {n cp : Nat} (h : Rd w lo hi A l n cp) (hh : hi ≤ w.heap.size) : Arg w A l n cp :=
  ⟨h.len, h.cap, h.max, h.b256, h.none, h.byt.byt.more hh⟩
theorem Rd.below {w w' : World} {lo hi B : Nat} {A : Option Addr} {l : List Nat} {n cp : Nat} (h : Rd w lo hi A l n cp) (hb : Below B w w') (hB : hi ≤ B) : Rd w' lo hi A l n cp :=
  ⟨h.len, h.cap, h.max, h.b256, h.none, h.byt.below hb hB⟩
theorem Rd.by' {w w' : World} {lo hi g : Nat} {A : Option Addr} {l : List Nat} {n cp : Nat} (h : Rd w lo hi A l n cp) (hg : w.grownBy w' (some g)) (hne : g < lo ∨ hi ≤ g) : Rd w' lo hi A l n cp :=
  ⟨h.len, h.cap, h.max, h.b256, h.none, h.byt.by' hg hne⟩
theorem Blk.gr {w w' : World} {g : Nat} {r : Option Nat} {t : TypeId} {cs : Array Value} (h : Blk w g t cs) (hg : w.grownBy w' r) (hr : r ≠ some g) : Blk w' g t cs :=
  (hg.block g h.lt fun e => hr e.symm).trans h
theorem BytF.gr {w w' : World} {lo hi : Nat} {r : Option Nat} {A : Option Addr} {l : List Nat} (h : BytF w lo hi A l) (hg : w.grownBy w' r) (hr : ∀ k, r = some k → k < lo ∨ hi ≤ k) : BytF w' lo hi A l := fun hn => by
  obtain ⟨b, o, rfl, h1, h2, h3⟩ := h hn
  exact ⟨b, o, rfl, h1, h2, fun i hi => hg.cell (h3 i hi) fun e => by have h9 := hr b e.symm; omega⟩
theorem Rd.gr {w w' : World} {lo hi : Nat} {r : Option Nat} {A : Option Addr} {l : List Nat} {n cp : Nat} (h : Rd w lo hi A l n cp) (hg : w.grownBy w' r) (hr : ∀ k, r = some k → k < lo ∨ hi ≤ k) : Rd w' lo hi A l n cp :=
  ⟨h.len, h.cap, h.max, h.b256, h.none, h.byt.gr hg hr⟩
/-- What a tape's two cells are. -/
def tp (A : Option Addr) (n cp : Nat) (b : Bool) : Array Value := #[.slice A n cp, .bool b]
/-- A tape in block g, its bytes from block lo on. -/
structure Tap (w : World) (g lo : Nat) (st : BytM.Tp) : Prop where
  le : lo ≤ g
  cells : ∃ A n cp, Blk w g 66 (tp A n cp st.isSome) ∧ match st with
    | some l => Rd w lo g A l n cp
    | none => A = none ∧ n = 0 ∧ cp = 0
theorem Tap.below {w w' : World} {g lo B : Nat} {st : BytM.Tp} (h : Tap w g lo st) (hb : Below B w w') (hB : g < B) : Tap w' g lo st := by
  obtain ⟨hl, A, n, cp, h1, h2⟩ := h
  refine ⟨hl, A, n, cp, h1.below hb hB, ?_⟩
  cases st with
  | none => exact h2
  | some l => exact Rd.below h2 hb (by omega)
theorem Tap.by' {w w' : World} {g lo g' : Nat} {st : BytM.Tp} (h : Tap w g lo st) (hg : w.grownBy w' (some g')) (hne : g' < lo ∨ g < g') : Tap w' g lo st := by
  obtain ⟨hl, A, n, cp, h1, h2⟩ := h
  refine ⟨hl, A, n, cp, h1.by' hg (by omega), ?_⟩
  cases st with
  | none => exact h2
  | some l => exact Rd.by' h2 hg (by omega)
theorem Tap.gr {w w' : World} {g lo : Nat} {r : Option Nat} {st : BytM.Tp} (h : Tap w g lo st) (hg : w.grownBy w' r) (hr : ∀ k, r = some k → k < lo ∨ g < k) : Tap w' g lo st := by
  obtain ⟨hl, A, n, cp, h1, h2⟩ := h
  refine ⟨hl, A, n, cp, h1.gr hg (fun e => by have := hr g e; omega), ?_⟩
  cases st with
  | none => exact h2
  | some l => exact Rd.gr h2 hg fun k e => by have := hr k e; omega
theorem Tap.lt {w : World} {g lo : Nat} {st : BytM.Tp} (h : Tap w g lo st) : g < w.heap.size := by
  obtain ⟨_, A, n, cp, h1, _⟩ := h
  exact h1.lt
theorem Tap.t256 {w : World} {g lo : Nat} {st : BytM.Tp} (h : Tap w g lo st) : BytM.T256 st := by
  obtain ⟨_, A, n, cp, _, h2⟩ := h
  cases st with
  | none => exact BytM.T256.none
  | some l => exact BytM.T256.some h2.b256
set_option maxHeartbeats 400000 in
theorem torn_any {g lo : Nat} {st : BytM.Tp} (w : World) (h : Tap w g lo st) :
    Calls Try.prog 28 #[.pointer (some ⟨g, 0, none⟩)] w fun e w' => e = .returned (.bool (!st.isSome)) ∧ w = w' := by
  obtain ⟨_, A, n, cp, h1, _⟩ := h
  have q1 : w.cell? ⟨g, 1, none⟩ = some (.bool st.isSome) := h1.cell 1
  generalize st.isSome = b at *
  clear h1
  go_enter Try.func28, Try.ntmps28
  go_wp2_with fail
  go_ret
  exact ⟨rfl, rfl⟩
set_option maxHeartbeats 400000 in
theorem torn_nil (w : World) : Calls Try.prog 28 #[.pointer none] w fun e w' => e = .returned (.bool true) ∧ w = w' := by
  go_enter Try.func28, Try.ntmps28
  go_wp2_with fail
  go_ret
  exact ⟨rfl, rfl⟩
section
variable {ops : Array Oper} {Q : Exit → Act → World → Prop} {a : Act} {w : World} {rest : List Oper} {dst : Option Tmp} {ty : TypeId} {pos : String} {after : Array Edge} {x y : Operand} {g : Nat} {A A' : Option Addr} {n n' cp cp' : Nat} {b b' : Bool}
theorem stT (hx : a.eval x = .pointer (some ⟨g, 0, none⟩)) (hy : a.eval y = .agg (tp A' n' cp' b')) (hb : Blk w g 66 (tp A n cp b)) (h : wpList Try.prog ops Q rest (a.put dst undef) (w.setRow g (tp A' n' cp' b'))) :
    wpList Try.prog ops Q (⟨dst, .store 66 x y, ty, pos, after, none⟩ :: rest) a w :=
  step_store_row hb (by kernel_rfl : (Try.prog.info? 66).map (·.size) = some (tp A' n' cp' b').size) (by rfl) (by cases A' <;> simp [tp, Value.oneCell']) hx hy h
end
set_option maxHeartbeats 400000 in
theorem tear_any {g lo : Nat} {st : BytM.Tp} (w : World) (h : Tap w g lo st) :
    Calls Try.prog 42 #[.pointer (some ⟨g, 0, none⟩)] w fun e w' => e = .returned (.tuple #[]) ∧ Tap w' g lo none ∧ w.grownBy w' (some g) := by
  obtain ⟨hl, A, n, cp, h1, _⟩ := h
  have H1 := hid h1
  clear h1
  go_enter Try.func42, Try.ntmps42
  go_wp2_with ((with_reducible apply stT (A' := none) (n' := 0) (cp' := 0) (b' := false)); rfl; rfl; exact H1.out)
  go_end0
  exact ⟨rfl, ⟨hl, none, 0, 0, H1.out.setRow_same _, rfl, rfl, rfl⟩, grown_setRow _ _ _⟩
set_option maxHeartbeats 400000 in
theorem tear_nil (w : World) : Calls Try.prog 42 #[.pointer none] w fun e w' => e = .returned (.tuple #[]) ∧ w = w' := by
  go_enter Try.func42, Try.ntmps42
  go_wp2_with fail
  go_end0
  exact ⟨rfl, rfl⟩
set_option maxHeartbeats 400000 in
theorem end_any {g lo : Nat} {st : BytM.Tp} (w : World) (h : Tap w g lo st) :
    Calls Try.prog 29 #[.pointer (some ⟨g, 0, none⟩)] w fun e w' => e = .returned (.bool (decide (st = some []))) ∧ w = w' := by
  have T := hid (torn_any w h)
  obtain ⟨_, A, n, cp, h1, h2⟩ := h
  have q0 : w.cell? ⟨g, 0, none⟩ = some (.slice A n cp) := h1.cell 0
  cases st with
  | none =>
    clear h1 h2 q0
    go_enter Try.func29, Try.ntmps29
    go_wp2_with fail
    refine (T.out).mono ?_
    rintro e w' ⟨rfl, rfl⟩
    go_wp2_with fail
    go_ret
    exact ⟨rfl, rfl⟩
  | some l =>
    obtain ⟨b, hb⟩ : ∃ b, b = decide ((some l : BytM.Tp) = some []) := ⟨_, rfl⟩
    rw [← hb]
    have hl := h2.len
    have e : ((n : Int) == 0) = b := by
      rw [hb]
      cases l with
      | nil => simp at hl; subst hl; rfl
      | cons x l => simp at hl; simp; omega
    clear h1 h2 hb hl
    go_enter Try.func29, Try.ntmps29
    go_wp2_with fail
    refine (T.out).mono ?_
    rintro e w' ⟨rfl, rfl⟩
    go_wp2_with fail
    go_ret
    exact ⟨rfl, rfl⟩
set_option maxHeartbeats 400000 in
theorem end_nil (w : World) : Calls Try.prog 29 #[.pointer none] w fun e w' => e = .returned (.bool false) ∧ w = w' := by
  go_enter Try.func29, Try.ntmps29
  go_wp2_with fail
  refine (torn_nil w).mono ?_
  rintro e w' ⟨rfl, rfl⟩
  go_wp2_with fail
  go_ret
  exact ⟨rfl, rfl⟩
theorem eq_nil_slice (A : Option Addr) (l c : Nat) (w : World) : (binOp .eql 22 (.slice A l c) (.slice none 0 0)).run Try.prog w = .ok (.bool A.isNone) w := by
  simp [binOp, run_equal_slice_nil w 22 5 A l c Try.underlying22]
attribute [local go_sem] eq_nil_slice
set_option maxHeartbeats 400000 in
/-- slices.Clone of bytes. -/
theorem clone_any (A : Option Addr) (l : List Nat) (n cap : Nat) (hn : n ≤ 1000000) (w : World) (hA : Arg w A l n cap) :
    Calls Try.prog 41 #[.slice A n cap] w fun e w' => ∃ v, e = .returned v ∧ Own 5 .u8 w' w.heap.size v l ∧ Below w.heap.size w w' := by
  have HA := hid hA
  clear hA
  cases A with
  | none =>
    obtain ⟨rfl, rfl⟩ := HA.out.none rfl
    have hl := List.eq_nil_of_length_eq_zero HA.out.len
    subst hl
    clear HA
    go_enter Try.func41, Try.ntmps41
    go_wp2_with fail
    go_ret
    exact ⟨_, rfl, Own.nil, Below.refl _ _⟩
  | some ad =>
    go_enter Try.func41, Try.ntmps41
    have OE : Hid (Own 5 .u8 (w.alloc (.cells #[] 5)) w.heap.size (.slice (some ⟨w.heap.size, 0, none⟩) 0 0) []) := hid (Own.empty w (Nat.le_refl _))
    have BE := hid ((Below.refl w.heap.size w).alloc (Nat.le_refl _) (.cells #[] 5))
    have AE := hid (HA.out.on BE.out)
    go_wp2_with (at_builtin; (with_reducible apply wappN eltB); rfl; rfl; exact OE.out; exact AE.out.byt.nums; exact AE.out.len; (rw [List.length_nil]; omega); (simp); intro v4 w4 o4 g4)
    have B4 := hid (below_grown BE.out g4 OE.out (Nat.le_refl _) (Nat.le_refl _))
    have O4 := hid o4
    clear o4 g4
    go_wp2_with fail
    go_ret
    exact ⟨_, rfl, O4.out, B4.out⟩
theorem Own.rd {w : World} {B : Nat} {v : Value} {l : List Nat} (h : Own 5 .u8 w B v l) (hb : B256 l) : ∃ A cap, v = .slice A l.length cap ∧ Rd w B w.heap.size A l l.length cap := by
  rcases h.2 with ⟨rfl, h0⟩ | ⟨g, cap, cur, rfl, hB, hg, hnc, hcm, hcs, ht⟩
  · exact ⟨.none, 0, by rw [h0], rfl, by omega, Nat.zero_le _, hb, fun _ => ⟨h0, rfl⟩, fun hn => by omega⟩
  · refine ⟨_, cap, rfl, rfl, hnc, hcm, hb, (fun e => by cases e), fun hn => ⟨g, 0, rfl, hB, Blk.lt (t := 5) (cs := cur) hg, fun i hi => ?_⟩⟩
    rw [Nat.zero_add, cell_of_row w g _ cur _ _ hg]
    have h1 := nums_get .u8 hi
    rw [← ht, List.getElem?_take_of_lt (by omega), Array.getElem?_toList] at h1
    exact h1
set_option maxHeartbeats 400000 in
theorem open_any (A : Option Addr) (l : List Nat) (n cap : Nat) (hn : n ≤ 1000000) (w : World) (hA : Arg w A l n cap) :
    Calls Try.prog 21 #[.slice A n cap] w fun e w' => ∃ g, e = .returned (.pointer (some ⟨g, 0, none⟩)) ∧ Tap w' g w.heap.size (some l) ∧ Below w.heap.size w w' := by
  have C := hid (clone_any A l n cap hn w hA)
  have H6 := hid hA.b256
  clear hA
  go_enter Try.func21, Try.ntmps21
  go_wp2_with fail
  refine C.out.mono ?_
  rintro e w2 ⟨v2, rfl, o2, b2⟩
  obtain ⟨A2, c2, e2, r2⟩ := o2.rd H6.out
  subst e2
  have B2 := hid b2
  have R2 := hid r2
  clear o2 b2 r2
  go_wp2_with fail
  go_ret
  refine ⟨_, rfl, ⟨B2.out.size, A2, l.length, c2, Blk.top rfl rfl, ?_⟩, B2.out.alloc B2.out.size _⟩
  exact R2.out.below ((Below.refl w2.heap.size w2).alloc (Nat.le_refl _) _) (Nat.le_refl _)
end Go.Proofs.Ytiebaiofpihoiaa
