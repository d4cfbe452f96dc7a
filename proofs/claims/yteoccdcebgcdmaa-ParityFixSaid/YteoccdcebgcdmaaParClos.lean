/-
  Slices of ints; the closures of parity.Fix; the library's ContainsFunc, IndexFunc, Clone at its types.
-/
import Derived.Test.YteoccdcebgcdmaaParOf2
import Derived.WalkSpells
namespace Go.Proofs.Yteoccdcebgcdmaa
open Go.ChangeShapes Go.WideShapes Go.ChangeAt Go.RowKit
/-- A slice of n ints, in one row below block B. -/
def Ints (w : World) (B : Nat) (A : Option Addr) (n : Nat) (L : Nat → Int) : Prop :=
  0 < n → ∃ b o, A = some ⟨b, o, none⟩ ∧ b < B ∧ ∀ i, i < n → w.cell? ⟨b, o + i, none⟩ = some (.int .i64 (L i))
theorem Ints.below {B B' n : Nat} {w w' : World} {A : Option Addr} {L : Nat → Int} (h : Ints w B A n L) (hb : Below B' w w') (hB : B ≤ B') : Ints w' B A n L := fun hn => by
  obtain ⟨b, o, rfl, hl, hr⟩ := h hn
  exact ⟨b, o, rfl, hl, fun i hi => (hb.cell (p := ⟨b, o + i, none⟩) (by show b < B'; omega)).trans (hr i hi)⟩
theorem Ints.more {B B' n : Nat} {w : World} {A : Option Addr} {L : Nat → Int} (h : Ints w B A n L) (hB : B ≤ B') : Ints w B' A n L := fun hn => by
  obtain ⟨b, o, rfl, hl, hr⟩ := h hn
  exact ⟨b, o, rfl, by omega, hr⟩
/-- No column's number, of N columns. -/
def outB (N : Nat) (x : Int) : Bool := decide (x < 0) || decide ((N : Int) ≤ x)
theorem outside_any (x : Int) (g N c : Nat) (A : Option Addr) (w : World) (hc : w.cell? ⟨g, 0, none⟩ = some (.slice A N c)) :
    Calls Try.prog 29 #[.int .i64 x, .pointer (some ⟨g, 0, none⟩)] w fun e w' => e = .returned (.bool (outB N x)) ∧ w = w' := by
  rcases Int.lt_or_le x 0 with h0 | h0
  · have HN : RowKit.Hid (outB N x = true) := by unfold outB; simp [h0]; exact hid trivial
    have t1 : decide (x < 0) = true := by simp [h0]
    go_enter Try.func29, Try.ntmps29
    go_wp2_with fail
    go_ret
    exact ⟨by rw [HN.out]; rfl, rfl⟩
  · have t1 : decide (x < 0) = false := by simp; omega
    have HN : RowKit.Hid (outB N x = decide ((N : Int) ≤ x)) := by unfold outB; rw [t1, Bool.false_or]; exact hid rfl
    go_enter Try.func29, Try.ntmps29
    go_wp2_with fail
    go_ret
    exact ⟨by rw [HN.out]; rfl, rfl⟩
/-- Is one of the first n no column's? -/
def anyOut (N n : Nat) (L : Nat → Int) : Bool := (List.range n).any fun i => outB N (L i)
theorem anyOut_no {N n : Nat} {L : Nat → Int} (h : ∀ i, i < n → outB N (L i) = false) : anyOut N n L = false := by
  unfold anyOut
  rw [List.any_eq_false]
  intro i hi
  rw [h i (List.mem_range.1 hi)]
  simp
theorem anyOut_yes {N n i : Nat} {L : Nat → Int} (hi : i < n) (h : outB N (L i) = true) : anyOut N n L = true := List.any_eq_true.2 ⟨i, List.mem_range.2 hi, h⟩
def IndexPost (N n : Nat) (L : Nat → Int) (w : World) (e : Ending) (w' : World) : Prop := w = w' ∧ ((anyOut N n L = true ∧ ∃ i : Nat, e = .returned (.int .i64 i) ∧ i < n) ∨ (anyOut N n L = false ∧ e = .returned (.int .i64 (-1))))
theorem index_any (A A' : Option Addr) (n c g N c' : Nat) (L : Nat → Int) (hn : n ≤ 1000000) (w : World) (hs : Ints w w.heap.size A n L) (hc : w.cell? ⟨g, 0, none⟩ = some (.slice A' N c')) :
    Calls Try.prog 43 #[.slice A n c, .func (.func 29) #[] #[.pointer (some ⟨g, 0, none⟩)]] w (IndexPost N n L w) := by
  have HS := hid hs
  have HC := hid hc
  clear hs hc
  go_enter Try.func43, Try.ntmps43
  go_wp2_with fail
  go_loop [8] (fun i => ∃ j : Nat, j ≤ n ∧ i = .int .i64 j ∧ Hid (∀ i, i < j → outB N (L i) = false)) (fun i => n - (intOf i).toNat)
  case atStart => exact ⟨0, by omega, rfl, hid fun i hi => absurd hi (by omega)⟩
  case round =>
    obtain ⟨j, hj, rfl, H⟩ := hrel
    by_cases hlt : j < n
    · obtain ⟨b, o, rfl, hB, hr⟩ := HS.out (by omega)
      have c1 := hr j hlt
      clear hr
      go_wp2_with fail
      refine (outside_any (L j) g N c' A' w HC.out).mono ?_
      rintro e w' ⟨rfl, rfl⟩
      cases ho : outB N (L j) with
      | true =>
        have HN : RowKit.Hid (anyOut N n L = true) := hid (anyOut_yes hlt ho)
        go_wp2_with fail
        go_ret
        exact ⟨rfl, .inl ⟨HN.out, j, rfl, hlt⟩⟩
      | false =>
        have HO := hid ho
        go_wp2_with fail
        go_round
        case rel => exact ⟨j + 1, by omega, by go_num, hid fun i hi => by
          rcases Nat.lt_or_ge i j with h | h
          · exact H.out i h
          · obtain rfl : i = j := by omega
            exact HO.out⟩
        case measure => simp [intOf]; omega
    · obtain rfl : j = n := by omega
      have HN := hid (anyOut_no H.out)
      clear H
      go_wp2_with fail
      go_ret
      exact ⟨rfl, .inr ⟨HN.out, rfl⟩⟩
theorem contains_any (A A' : Option Addr) (n c g N c' : Nat) (L : Nat → Int) (hn : n ≤ 1000000) (w : World) (hs : Ints w w.heap.size A n L) (hc : w.cell? ⟨g, 0, none⟩ = some (.slice A' N c')) :
    Calls Try.prog 30 #[.slice A n c, .func (.func 29) #[] #[.pointer (some ⟨g, 0, none⟩)]] w fun e w' => e = .returned (.bool (anyOut N n L)) ∧ w = w' := by
  have HS := hid hs
  have HC := hid hc
  clear hs hc
  go_enter Try.func30, Try.ntmps30
  go_wp2_with fail
  refine (index_any A A' n c g N c' L hn w HS.out HC.out).mono ?_
  rintro e w' ⟨rfl, ⟨h1, i, rfl, hi⟩ | ⟨h1, rfl⟩⟩
  · have HN := hid h1
    clear h1
    have t1 : (0 : Int) ≤ (i : Int) := by omega
    go_wp2_with fail
    go_ret
    exact ⟨by rw [HN.out]; simp, rfl⟩
  · have HN := hid h1
    clear h1
    go_wp2_with fail
    go_ret
    exact ⟨by rw [HN.out]; rfl, rfl⟩

/-! ### Which columns are lost -/
def marks (n : Nat) (L : Nat → Int) (j : Nat) : Bool := (List.range n).any fun i => L i == (j : Int)
theorem marks_iff {n : Nat} {L : Nat → Int} {j : Nat} : marks n L j = true ↔ ∃ i, i < n ∧ L i = (j : Int) := by
  unfold marks
  rw [List.any_eq_true]
  constructor
  · rintro ⟨i, hi, h⟩; exact ⟨i, List.mem_range.1 hi, beq_iff_eq.1 h⟩
  · rintro ⟨i, hi, h⟩; exact ⟨i, List.mem_range.2 hi, beq_iff_eq.2 h⟩
theorem marks_succ {n : Nat} {L : Nat → Int} {j : Nat} : marks (n + 1) L j = (marks n L j || (L n == (j : Int))) := by
  unfold marks
  rw [List.range_succ, List.any_append]
  simp
theorem marks_same {n x : Nat} {L : Nat → Int} (hx : L n = (x : Int)) (h : marks n L x = true) : marks (n + 1) L = marks n L := by
  funext j
  rw [marks_succ, hx]
  by_cases e : x = j
  · subst e; rw [h, Bool.true_or]
  · have : ((x : Int) == (j : Int)) = false := by rw [beq_eq_false_iff_ne]; omega
    rw [this, Bool.or_false]
theorem marks_new {n x : Nat} {L : Nat → Int} (hx : L n = (x : Int)) (j : Nat) : marks (n + 1) L j = if j = x then true else marks n L j := by
  rw [marks_succ, hx]
  by_cases e : j = x
  · subst e; simp
  · have : ((x : Int) == (j : Int)) = false := by rw [beq_eq_false_iff_ne]; omega
    rw [this, Bool.or_false, if_neg e]
/-- How many columns are lost. -/
def cntM (M : Nat → Bool) : Nat := (List.range 64).countP M
theorem cntM_le (M : Nat → Bool) : cntM M ≤ 64 := by
  have := List.countP_le_length (p := M) (l := List.range 64)
  simpa [cntM] using this
theorem cntM_new {n x : Nat} {L : Nat → Int} (hx : L n = (x : Int)) (h64 : x < 64) (h : marks n L x = false) : cntM (marks (n + 1) L) = cntM (marks n L) + 1 := by
  unfold cntM
  refine (countP_one (i := x) ?_ h (fun j hj => ?_) List.nodup_range (List.mem_range.2 h64)).symm
  · rw [marks_new hx, if_pos rfl]
  · rw [marks_new hx, if_neg hj]
theorem info_marks : (Try.prog.info? 72).map (·.size) = some 64 := by kernel_rfl
theorem zmarks : (#[.bool false, .bool false, .bool false, .bool false, .bool false, .bool false, .bool false, .bool false, .bool false, .bool false, .bool false, .bool false, .bool false, .bool false, .bool false, .bool false, .bool false, .bool false, .bool false, .bool false, .bool false, .bool false, .bool false, .bool false, .bool false, .bool false, .bool false, .bool false, .bool false, .bool false, .bool false, .bool false, .bool false, .bool false, .bool false, .bool false, .bool false, .bool false, .bool false, .bool false, .bool false, .bool false, .bool false, .bool false, .bool false, .bool false, .bool false, .bool false, .bool false, .bool false, .bool false, .bool false, .bool false, .bool false, .bool false, .bool false, .bool false, .bool false, .bool false, .bool false, .bool false, .bool false, .bool false, .bool false] : Array Value) = row 64 fun j => .bool (marks 0 (fun _ => 0) j) := by rfl
theorem marks_zero (L : Nat → Int) : (row 64 fun j => Value.bool (marks 0 L j)) = row 64 fun j => .bool (marks 0 (fun _ => 0) j) := row_ext fun _ _ => rfl
def FinderPost (n : Nat) (L : Nat → Int) (w : World) (e : Ending) (w' : World) : Prop :=
  e = .returned (.tuple #[.func (.func 44) #[] #[.pointer (some ⟨w.heap.size, 0, none⟩)], .int .i64 (cntM (marks n L) : Nat)]) ∧ Blk w' w.heap.size 72 (row 64 fun j => .bool (marks n L j)) ∧ Below w.heap.size w w'
set_option maxRecDepth 100000 in
theorem finder_any (A : Option Addr) (n c : Nat) (L : Nat → Int) (hn : n ≤ 1000000) (hL : ∀ i, i < n → 0 ≤ L i ∧ L i < 64) (w : World) (hs : Ints w w.heap.size A n L) :
    Calls Try.prog 31 #[.slice A n c] w (FinderPost n L w) := by
  have HS := hid hs
  have HL := hid hL
  clear hs hL
  have hmf : ∀ (fn : Fn) (first cap : Array Value) (w : World), (Instr.makeFunc fn first cap).run Try.prog w = .ok (.func fn first cap) w := fun _ _ _ _ => rfl
  go_enter Try.func31, Try.ntmps31
  go_wp2_with fail
  generalize hw3 : World.alloc w _ = w3
  have b1 : Blk w3 w.heap.size 72 (row 64 fun j => .bool (marks 0 L j)) := by rw [← hw3, marks_zero]; exact Blk.top zmarks rfl
  have hb : Below w.heap.size w w3 := by rw [← hw3]; exact (Below.refl _ _).alloc (Nat.le_refl _) _
  clear hw3
  go_loopw [3, 9] (fun k i wr => ∃ j : Nat, j ≤ n ∧ i = .int .i64 j ∧ k = .int .i64 (cntM (marks j L) : Nat) ∧ Blk wr w.heap.size 72 (row 64 fun l => .bool (marks j L l)) ∧ Below w.heap.size w wr) (fun _ i _ => n - (intOf i).toNat)
  case atStart => exact ⟨0, by omega, rfl, rfl, b1, hb⟩
  case round =>
    obtain ⟨j, hj, rfl, rfl, b1, hb⟩ := hrel
    have hcnt := cntM_le (marks j L)
    by_cases hlt : j < n
    · obtain ⟨b, o, rfl, hB, hr⟩ := HS.out (by omega)
      have c1 : wr.cell? ⟨b, o + j, none⟩ = some (.int .i64 (L j)) := (hb.cell (p := ⟨b, o + j, none⟩) hB).trans (hr j hlt)
      clear hr
      obtain ⟨h0, h64⟩ := HL.out j hlt
      obtain ⟨x, hx⟩ := Int.eq_ofNat_of_zero_le h0
      have hx' : x < 64 := by omega
      rw [hx] at c1
      have HX := hid hx
      clear hx h0 h64
      have c2 : wr.cell? ⟨w.heap.size, x, none⟩ = some (.bool (marks j L x)) := by rw [b1.cell]; exact get_row_lt hx'
      have c3 := b1.frozen x
      cases hm : marks j L x with
      | true =>
        have HM := hid hm
        rw [hm] at c2
        clear hm
        go_wp2_with fail
        have e := marks_same HX.out HM.out
        exact ⟨⟨j + 1, by omega, by go_num, by rw [e], by rw [e]; exact b1, hb⟩, by simp [intOf]; omega⟩
      | false =>
        have HM := hid hm
        rw [hm] at c2
        clear hm
        go_wp2_with fail
        have e := cntM_new HX.out hx' HM.out
        refine ⟨⟨j + 1, by omega, by go_num, by rw [e]; go_num, ?_, hb.setCell (by simp) _⟩, by simp [intOf]; omega⟩
        have h := b1.setCell_same x (.bool true)
        rw [row_set] at h
        rw [row_ext (f := fun l => .bool (marks (j + 1) L l)) fun l _ => ?_]
        · exact h
        · show Value.bool (marks (j + 1) L l) = _
          rw [marks_new HX.out]
          by_cases e : l = x <;> simp [e]
    · obtain rfl : j = n := by omega
      go_wp2_with fail
      go_ret2
      exact ⟨rfl, b1, hb⟩
theorem lost_any (g j : Nat) (M : Nat → Bool) (hj : j < 64) (w : World) (hb : Blk w g 72 (row 64 fun l => .bool (M l))) :
    Calls Try.prog 44 #[.int .i64 j, .pointer (some ⟨g, 0, none⟩)] w fun e w' => e = .returned (.bool (M j)) ∧ w = w' := by
  have c1 : w.cell? ⟨g, j, none⟩ = some (.bool (M j)) := by rw [hb.cell]; exact get_row_lt hj
  go_enter Try.func44, Try.ntmps44
  go_wp2_with fail
  go_ret
  exact ⟨rfl, rfl⟩
set_option maxRecDepth 100000 in
theorem clone_any (b o n cap : Nat) (F : Nat → Nat → Nat) (hn : n ≤ 1000) (w : World) (hs : Secs w w.heap.size (some ⟨b, o, none⟩) n F) :
    Calls Try.prog 32 #[.slice (some ⟨b, o, none⟩) n cap] w (SomeOwn w n F) := by
  have HS : RowKit.Hid (Secs (w.alloc (.cells #[] 25)) w.heap.size (some ⟨b, o, none⟩) n F) := hid (hs.below ((Below.refl _ _).alloc (Nat.le_refl _) _) (Nat.le_refl _))
  clear hs
  have qT : ∀ (w : World) (a : Option Addr) (n c n' c' : Nat), (binOp .eql 22 (.slice a n c) (.slice none n' c')).run Try.prog w = .ok (.bool a.isNone) w := fun w a n c n' c' => Lib.run_eql_slice_nil w _ _ a n c n' c' Try.underlying22
  go_enter Try.func32, Try.ntmps32
  go_wp2_with ((with_reducible apply wapp (v := .slice (some ⟨w.heap.size, 0, none⟩) 0 0)); rfl; rfl; exact OwnS.empty w (Nat.le_refl _) F; exact HS.out; omega; (simp); intro v' w1 own grow hnil)
  obtain ⟨g, cap', rfl, _⟩ := OwnS.form own (fun e => by have := (hnil.1 e).1; cases this)
  go_wp2_with fail
  go_ret
  exact ⟨g, cap', by simp, by rw [Nat.zero_add] at own; exact own.mono fun i k _ _ => by simp [catF], ((Below.refl _ _).alloc (Nat.le_refl _) _).grown grow (by simp) (fun k e => by simp [Value.ownBlock] at e; omega)⟩
end Go.Proofs.Yteoccdcebgcdmaa
