/-
  The document's member: what stands in memory of it; what it tells of a sector.
  The document's member: Read, Look, Write, Flush.
  The document's member: one field turned; Write.
  The document's member: Flush, Fail, Back.
  The document's member: made, copied.
  Texts of bytes.
  The document's member: Crash.
  The document's member: Set.
  The document's member: Mark.
  The document's member, by what is seen and durable: its calls.
  What is wanted of the program's member: the contracts of its calls, over whatever it lays in memory; a member of the program's beside one of the document's.
  Entries, steps and pointers as they lie in memory, the program's and the document's.
  The document's member's calls, by what is seen and durable.
  The document's bus: a label as a sector; what it is in memory; is there a member.
  The document's members of a bus, all together.
-/
import Derived.Test.YthogklchmhjjkaaGreatMrg2
import Derived.Laws.IdiomStrings
set_option linter.unusedVariables false
set_option linter.unusedSimpArgs false
set_option maxRecDepth 100000
namespace Go.Proofs.YthogklchmhjjkaaGreat
open Go.ChangeShapes Go.WideShapes Go.ChangeAt Go.RowKit
attribute [local go_sem] Gives
namespace MbP
open MbM
/-- Slices as elements. -/
abbrev SlE := Option Addr × Nat × Nat
def slE (x : SlE) : List Value := [.slice x.1 x.2.1 x.2.2]
theorem eltSl : EltX 97 1 slE where
  pos := by omega
  len _ := rfl
  one x u hu := by
    unfold slE at hu
    rw [List.mem_singleton] at hu
    subst hu; rfl
  info := elt_info (by kernel_rfl) (by kernel_rfl) (by kernel_rfl)
/-- The document's member, by its lists. -/
structure Ls where
  n : Int
  dur : List Pt
  log : List Pt
  marks : List (List Pt)
  fails : Bool
  hurt : Bool
def Ls.sem (s : Ls) : St := ⟨s.n, img s.dur, s.log, s.marks.map img, s.fails, s.hurt⟩
def mbC (n : Int) (A1 : Option Addr) (n1 c1 : Nat) (A2 : Option Addr) (n2 c2 : Nat) (A3 : Option Addr) (n3 c3 : Nat) (f h : Bool) : Array Value := #[.int .i64 n, .slice A1 n1 c1, .slice A2 n2 c2, .slice A3 n3 c3, .bool f, .bool h]
/-- Block g holds the member s; its lists lie in blocks of I, which are never turned. -/
structure Rm (w : World) (g : Nat) (I : Nat → Prop) (s : Ls) (A1 : Option Addr) (c1 : Nat) (A2 : Option Addr) (c2 : Nat) (A3 : Option Addr) (c3 : Nat) : Prop where
  blk : Blk w g 100 (mbC s.n A1 s.dur.length c1 A2 s.log.length c2 A3 s.marks.length c3 s.fails s.hurt)
  dur : Sli 65 atL I w A1 s.dur s.dur.length c1
  log : Sli 65 atL I w A2 s.log s.log.length c2
  marks : ∃ xs : List SlE, Sli 1 slE I w A3 xs s.marks.length c3 ∧ ∀ (i : Nat) (l : List Pt), s.marks[i]? = some l → ∃ A c, xs[i]? = some (A, l.length, c) ∧ Sli 65 atL I w A l l.length c
  out : ¬ I g
  lt : ∀ b, I b → b < w.heap.size
section
variable {w w' : World} {g : Nat} {I J T : Nat → Prop} {s : Ls} {A1 A2 A3 : Option Addr} {c1 c2 c3 : Nat}
theorem Rm.turn (h : Rm w g I s A1 c1 A2 c2 A3 c3) (ht : Turn T w w') (hg : ¬ T g) (hI : ∀ b, I b → ¬ T b) : Rm w' g I s A1 c1 A2 c2 A3 c3 where
  blk := h.blk.turn ht hg
  dur := h.dur.turn ht fun b hb _ => hI b hb
  log := h.log.turn ht fun b hb _ => hI b hb
  marks := by
    obtain ⟨xs, h1, h2⟩ := h.marks
    exact ⟨xs, h1.turn ht fun b hb _ => hI b hb, fun i l hi => by
      obtain ⟨A, c, h3, h4⟩ := h2 i l hi
      exact ⟨A, c, h3, h4.turn ht fun b hb _ => hI b hb⟩⟩
  out := h.out
  lt b hb := Nat.lt_of_lt_of_le (h.lt b hb) ht.size
theorem Rm.below {B : Nat} (h : Rm w g I s A1 c1 A2 c2 A3 c3) (hb : Below B w w') (hB : w.heap.size ≤ B) : Rm w' g I s A1 c1 A2 c2 A3 c3 :=
  h.turn (Turn.of_below hb) (by have := h.blk.lt; omega) fun b hi => by have := h.lt b hi; omega
end
theorem may_any (g : Nat) (I : Nat → Prop) (s : Ls) (A1 : Option Addr) (c1 : Nat) (A2 : Option Addr) (c2 : Nat) (A3 : Option Addr) (c3 : Nat) (i : Int) (q : Bool) (hq : decide (0 ≤ i ∧ i < s.n) = q) (w : World) (h : Rm w g I s A1 c1 A2 c2 A3 c3) :
    Calls Tryz.prog 67 #[.pointer (some ⟨g, 0, none⟩), .int .i64 i] w fun e w' => e = .returned (.bool q) ∧ w = w' := by
  have p0 : w.cell? ⟨g, 0, none⟩ = some (.int .i64 s.n) := h.blk.cell 0
  clear h
  by_cases h0 : 0 ≤ i
  · have t1 : decide (0 ≤ i) = true := by simp; omega
    have t2 : decide (i < s.n) = q := by rw [← hq]; simp [h0]
    clear hq h0
    go_enter Tryz.func67, Tryz.ntmps67
    go_wp2_with fail
    go_ret
    exact ⟨rfl, rfl⟩
  · have t1 : decide (0 ≤ i) = false := by simp; omega
    have t2 : q = false := by rw [← hq]; simp; omega
    subst t2
    clear hq h0
    go_enter Tryz.func67, Tryz.ntmps67
    go_wp2_with fail
    go_ret
    exact ⟨rfl, rfl⟩
def seenL (s : Ls) (i : Int) : Nat → Nat := (find s.log i).getD ((find s.dur i).getD zero)
theorem seenL_sem (s : Ls) (i : Int) : seenL s i = MbM.seen s.sem i := by
  show (find s.log i).getD ((find s.dur i).getD zero) = app (img s.dur) s.log i
  rw [app_find, img_find]
set_option maxRecDepth 100000 in
theorem seen_any (g : Nat) (I : Nat → Prop) (s : Ls) (A1 : Option Addr) (c1 : Nat) (A2 : Option Addr) (c2 : Nat) (A3 : Option Addr) (c3 : Nat) (i : Int) (w : World) (h : Rm w g I s A1 c1 A2 c2 A3 c3) :
    Calls Tryz.prog 82 #[.pointer (some ⟨g, 0, none⟩), .int .i64 i] w fun e w' => e = .returned (.agg (ar 64 (seenL s i))) ∧ Below w.heap.size w w' := by
  have H := hid h
  obtain ⟨o, ho⟩ : ∃ o, o = find s.log i := ⟨_, rfl⟩
  obtain ⟨f, hf⟩ : ∃ f, f = (find s.dur i).getD zero := ⟨_, rfl⟩
  unfold seenL
  rw [← ho, ← hf]
  have HO := hid (show tellS (find s.log i) = .tuple #[.agg (ar 64 (o.getD zero)), .bool o.isSome] by rw [ho]; rfl)
  have HF := hid (show tellS (find s.dur i) = .tuple #[.agg (ar 64 f), .bool (find s.dur i).isSome] by rw [hf]; rfl)
  clear h ho hf
  go_enter Tryz.func82, Tryz.ntmps82
  go_upto_region 1 with (with_reducible apply alA tSe)
  generalize hw1 : World.alloc w _ = w1
  have b1 := hid (show Blk w1 w.heap.size 43 (ar 64 fun _ => 0) by rw [← hw1]; exact Blk.new _ _ _)
  have BEL := hid (show Below w.heap.size w w1 by rw [← hw1]; exact (Below.refl _ _).alloc (Nat.le_refl _) _)
  have H1 := hid (H.out.below BEL.out (Nat.le_refl _))
  clear hw1
  have p2 : w1.cell? ⟨g, 2, none⟩ = some (.slice A2 s.log.length c2) := H1.out.blk.cell 2
  go_wp2_with fail
  refine (find_any I A2 s.log _ c2 i w1 H1.out.log).mono ?_
  rintro e w2 ⟨rfl, h2⟩
  have b2 := hid (b1.out.below h2 b1.out.lt)
  have B2 := hid (BEL.out.trans (h2.mono BEL.out.size))
  have H2 := hid (H1.out.below h2 (Nat.le_refl _))
  clear b1 BEL H1 h2 p2
  rw [HO.out]
  go_upto_region 2 with (first | (with_reducible apply alA tSe) | ((with_reducible apply stA tSe); rfl; rfl; exact Blk.new _ _ _))
  generalize hw3 : World.setRow _ _ _ = w3
  have b3 := hid (show Blk w3 w2.heap.size 43 (ar 64 (o.getD zero)) by rw [← hw3]; exact (Blk.new w2 _ _).setRow_same _)
  have h3 : Below w2.heap.size w2 w3 := by rw [← hw3]; exact below_setRow ((Below.refl _ _).alloc (Nat.le_refl _) _) (Nat.le_refl _) _
  have c1' := hid (b2.out.below h3 b2.out.lt)
  have B3 := hid (B2.out.trans (h3.mono B2.out.size))
  have H3 := hid (H2.out.below h3 (Nat.le_refl _))
  have hlt := b2.out.lt
  clear hw3 b2 B2 H2 h3
  cases o with
  | some x =>
    have c4 := c1'.out.setRow_same (ar 64 x)
    have hf := hid (below_setRow B3.out (Nat.le_refl w.heap.size) (ar 64 x))
    go_wp2_with (first | ((with_reducible apply ldA tSe); rfl; exact b3.out) | ((with_reducible apply stA tSe); rfl; rfl; exact c1'.out))
    apply ret_ar tSe Tryz.results82
    · rfl
    · rfl
    · exact c4
    exact ⟨rfl, hf.out⟩
  | none =>
    have p1 : w3.cell? ⟨g, 1, none⟩ = some (.slice A1 s.dur.length c1) := H3.out.blk.cell 1
    go_wp2_with fail
    refine (find_any I A1 s.dur _ c1 i w3 H3.out.dur).mono ?_
    rintro e w4 ⟨rfl, h4⟩
    have b4 := hid (b3.out.below h4 b3.out.lt)
    have c4 := hid (c1'.out.below h4 c1'.out.lt)
    have B4 := hid (B3.out.trans (h4.mono B3.out.size))
    clear b3 c1' B3 H3 h4 p1
    rw [HF.out]
    go_upto_region 4 with ((with_reducible apply stA tSe); rfl; rfl; exact b4.out)
    have b5 := hid (b4.out.setRow_same (ar 64 f))
    have c5 := hid (c4.out.setRow_other (g' := w2.heap.size) (by omega) (ar 64 f))
    have B5 := hid (below_setRow B4.out (show w.heap.size ≤ w2.heap.size by omega) (ar 64 f))
    generalize World.setRow w4 _ _ = w5 at b5 c5 B5 ⊢
    have c6 := c5.out.setRow_same (ar 64 f)
    have B6 := hid (below_setRow B5.out (Nat.le_refl w.heap.size) (ar 64 f))
    go_wp2_with (first | ((with_reducible apply ldA tSe); rfl; exact b5.out) | ((with_reducible apply stA tSe); rfl; rfl; exact c5.out))
    apply ret_ar tSe Tryz.results82
    · rfl
    · rfl
    · exact c6
    exact ⟨rfl, B6.out⟩
end MbP
end Go.Proofs.YthogklchmhjjkaaGreat
set_option maxRecDepth 100000
namespace Go.Proofs.YthogklchmhjjkaaGreat
open Go.ChangeShapes Go.WideShapes Go.ChangeAt Go.RowKit
attribute [local go_sem] Gives GivesE
namespace MbP
open MbM
/-- Block g holds the member s; its lists lie in blocks of I. -/
def RM (w : World) (g : Nat) (I : Nat → Prop) (s : Ls) : Prop := ∃ A1 c1 A2 c2 A3 c3, Rm w g I s A1 c1 A2 c2 A3 c3
/-- What a call leaves of it. -/
def RMo (w : World) (g : Nat) (I : Nat → Prop) (s : Ls) (w' : World) : Prop := ∃ J, RM w' g J s ∧ (∀ b, J b → I b ∨ w.heap.size ≤ b) ∧ Turn (fun b => b = g) w w'
theorem RMo.same {w w' : World} {g : Nat} {I : Nat → Prop} {s : Ls} (h : RM w g I s) (hb : Below w.heap.size w w') : RMo w g I s w' := by
  obtain ⟨A1, c1, A2, c2, A3, c3, h⟩ := h
  exact ⟨I, ⟨A1, c1, A2, c2, A3, c3, h.below hb (Nat.le_refl _)⟩, fun b e => .inl e, Turn.of_new hb⟩
def Ls.may (s : Ls) (i : Int) : Bool := decide (0 ≤ i ∧ i < s.n)
/-- What Read tells. -/
def readE (s : Ls) (i : Int) : Int := if s.may i then (if s.fails then 10 else 0) else 2
def readS (s : Ls) (i : Int) : Nat → Nat := if s.may i then (if s.fails then zero else seenL s i) else zero
set_option maxRecDepth 100000 in
theorem read_any (g : Nat) (I : Nat → Prop) (s : Ls) (i : Int) (w : World) (h : RM w g I s) :
    Calls Tryz.prog 64 #[.pointer (some ⟨g, 0, none⟩), .int .i64 i] w fun e w' => e = .returned (.tuple #[.agg (ar 64 (readS s i)), .int .i64 (readE s i)]) ∧ Below w.heap.size w w' := by
  obtain ⟨A1, c1, A2, c2, A3, c3, h⟩ := h
  have H := hid h
  clear h
  obtain ⟨q, hq⟩ : ∃ q, q = s.may i := ⟨_, rfl⟩
  obtain ⟨F, hF⟩ : ∃ F, F = s.fails := ⟨_, rfl⟩
  obtain ⟨X, hX⟩ : ∃ X, X = seenL s i := ⟨_, rfl⟩
  unfold readS readE
  rw [← hq, ← hF, ← hX]
  have HQ := hid (show decide (0 ≤ i ∧ i < s.n) = q from hq.symm)
  have HF := hid hF
  have HX := hid hX
  clear hq hF hX
  go_enter Tryz.func64, Tryz.ntmps64
  go_upto_region 1 with (with_reducible apply alA tSe)
  generalize hw1 : World.alloc w _ = w1
  have b1 := hid (show Blk w1 w.heap.size 43 (ar 64 fun _ => 0) by rw [← hw1]; exact Blk.new _ _ _)
  have BEL := hid (show Below w.heap.size w w1 by rw [← hw1]; exact (Below.refl _ _).alloc (Nat.le_refl _) _)
  have H1 := hid (H.out.below BEL.out (Nat.le_refl _))
  clear hw1 H
  go_wp2_with fail
  refine (may_any g I s A1 c1 A2 c2 A3 c3 i q HQ.out w1 H1.out).mono ?_
  rintro e w' ⟨rfl, rfl⟩
  have bz := b1.out.setRow_same (ar 64 fun _ => 0)
  have bb := hid (below_setRow BEL.out (Nat.le_refl w.heap.size) (ar 64 fun _ => 0))
  cases q with
  | false =>
    go_wp2_with (first | ((with_reducible apply bldZr (n := 64)); kernel_rfl) | ((with_reducible apply stA tSe); rfl; rfl; exact b1.out))
    apply retA tSe Tryz.results64
    · rfl
    · rfl
    · rfl
    · exact bz
    · exact ⟨rfl, bb.out⟩
  | true =>
    have p4 : w1.cell? ⟨g, 4, none⟩ = some (.bool F) := by rw [HF.out]; exact H1.out.blk.cell 4
    cases F with
    | true =>
      go_wp2_with (first | ((with_reducible apply bldZr (n := 64)); kernel_rfl) | ((with_reducible apply stA tSe); rfl; rfl; exact b1.out))
      apply retA tSe Tryz.results64
      · rfl
      · rfl
      · rfl
      · exact bz
      · exact ⟨rfl, bb.out⟩
    | false =>
      clear bz bb
      go_wp2_with fail
      refine (seen_any g I s A1 c1 A2 c2 A3 c3 i w1 H1.out).mono ?_
      rintro e w2 ⟨rfl, h2⟩
      rw [← HX.out]
      have b2 := hid (b1.out.below h2 b1.out.lt)
      have B2 := hid (BEL.out.trans (h2.mono BEL.out.size))
      clear b1 BEL H1 h2 p4
      have bz := b2.out.setRow_same (ar 64 X)
      have bb := hid (below_setRow B2.out (Nat.le_refl w.heap.size) (ar 64 X))
      go_wp2_with ((with_reducible apply stA tSe); rfl; rfl; exact b2.out)
      apply retA tSe Tryz.results64
      · rfl
      · rfl
      · rfl
      · exact bz
      · exact ⟨rfl, bb.out⟩
def lookE (s : Ls) (i : Int) : Int := if s.may i then 0 else 2
def lookS (s : Ls) (i : Int) : Nat → Nat := if s.may i then (find s.dur i).getD zero else zero
set_option maxRecDepth 100000 in
theorem look_any (g : Nat) (I : Nat → Prop) (s : Ls) (i : Int) (w : World) (h : RM w g I s) :
    Calls Tryz.prog 38 #[.pointer (some ⟨g, 0, none⟩), .int .i64 i] w fun e w' => e = .returned (.tuple #[.agg (ar 64 (lookS s i)), .int .i64 (lookE s i)]) ∧ Below w.heap.size w w' := by
  obtain ⟨A1, c1, A2, c2, A3, c3, h⟩ := h
  have H := hid h
  clear h
  obtain ⟨q, hq⟩ : ∃ q, q = s.may i := ⟨_, rfl⟩
  obtain ⟨f, hf⟩ : ∃ f, f = (find s.dur i).getD zero := ⟨_, rfl⟩
  unfold lookS lookE
  rw [← hq, ← hf]
  have HQ := hid (show decide (0 ≤ i ∧ i < s.n) = q from hq.symm)
  have HF := hid (show tellS (find s.dur i) = .tuple #[.agg (ar 64 f), .bool (find s.dur i).isSome] by rw [hf]; rfl)
  clear hq hf
  go_enter Tryz.func38, Tryz.ntmps38
  go_upto_region 1 with (with_reducible apply alA tSe)
  generalize hw1 : World.alloc w _ = w1
  have b1 := hid (show Blk w1 w.heap.size 43 (ar 64 fun _ => 0) by rw [← hw1]; exact Blk.new _ _ _)
  have BEL := hid (show Below w.heap.size w w1 by rw [← hw1]; exact (Below.refl _ _).alloc (Nat.le_refl _) _)
  have H1 := hid (H.out.below BEL.out (Nat.le_refl _))
  clear hw1 H
  go_wp2_with fail
  refine (may_any g I s A1 c1 A2 c2 A3 c3 i q HQ.out w1 H1.out).mono ?_
  rintro e w' ⟨rfl, rfl⟩
  cases q with
  | false =>
    have bz := b1.out.setRow_same (ar 64 fun _ => 0)
    have bb := hid (below_setRow BEL.out (Nat.le_refl w.heap.size) (ar 64 fun _ => 0))
    go_wp2_with (first | ((with_reducible apply bldZr (n := 64)); kernel_rfl) | ((with_reducible apply stA tSe); rfl; rfl; exact b1.out))
    apply retA tSe Tryz.results38
    · rfl
    · rfl
    · rfl
    · exact bz
    · exact ⟨rfl, bb.out⟩
  | true =>
    have p1 : w1.cell? ⟨g, 1, none⟩ = some (.slice A1 s.dur.length c1) := H1.out.blk.cell 1
    go_wp2_with fail
    refine (find_any I A1 s.dur _ c1 i w1 H1.out.dur).mono ?_
    rintro e w2 ⟨rfl, h2⟩
    have b2 := hid (b1.out.below h2 b1.out.lt)
    have B2 := hid (BEL.out.trans (h2.mono BEL.out.size))
    have hlt := b2.out.lt
    clear b1 BEL H1 h2 p1
    rw [HF.out]
    go_upto_region 4 with (first | (with_reducible apply alA tSe) | ((with_reducible apply stA tSe); rfl; rfl; exact Blk.new _ _ _))
    generalize hw3 : World.setRow _ _ _ = w3
    have b3 := hid (show Blk w3 w2.heap.size 43 (ar 64 f) by rw [← hw3]; exact (Blk.new w2 _ _).setRow_same _)
    have h3 : Below w2.heap.size w2 w3 := by rw [← hw3]; exact below_setRow ((Below.refl _ _).alloc (Nat.le_refl _) _) (Nat.le_refl _) _
    have c3 := hid (b2.out.below h3 b2.out.lt)
    have B3 := hid (B2.out.trans (h3.mono B2.out.size))
    clear hw3 b2 B2 h3
    have c6 := c3.out.setRow_same (ar 64 f)
    have B6 := hid (below_setRow B3.out (Nat.le_refl w.heap.size) (ar 64 f))
    go_wp2_with (first | ((with_reducible apply ldA tSe); rfl; exact b3.out) | ((with_reducible apply stA tSe); rfl; rfl; exact c3.out))
    apply retA tSe Tryz.results38
    · rfl
    · rfl
    · rfl
    · exact c6
    · exact ⟨rfl, B6.out⟩
theorem undMb : Tryz.prog.underlying 142 = some (.struct (Tryz.prog.fieldsOf 142)) := by kernel_rfl
/-- A put as a value. -/
theorem built_at (i : Int) (x : Nat → Nat) : Tryz.prog.built 142 [(0, .int .i64 i), (1, .agg (ar 64 x))] = some (atL ⟨i, x⟩).toArray := by
  have := built_struct (T := 142) (N := 65) (ss := [(0, 1), (1, 64)]) (by kernel_rfl) undMb (by kernel_rfl) ⟨rfl, rfl, trivial⟩ rfl [.int .i64 i, .agg (ar 64 x)] (by simp [Value.cells, size_ar])
  rw [show (partsAt 0 [Value.int .i64 i, .agg (ar 64 x)]) = [(0, .int .i64 i), (1, .agg (ar 64 x))] from rfl] at this
  rw [this]
  unfold atL
  simp [Value.cells]
section
variable {ops : Array Oper} {Q : Exit → Act → World → Prop} {a : Act} {w : World} {rest : List Oper} {dst : Option Tmp} {ty : TypeId} {pos : String} {after : Array Edge} {o1 o2 : Operand} {i : Int} {x : Nat → Nat}
theorem bldAt (h1 : a.eval o1 = .int .i64 i) (h2 : a.eval o2 = .agg (ar 64 x)) (h : wpList Tryz.prog ops Q rest (a.put dst (.agg (atL ⟨i, x⟩).toArray)) w) :
    wpList Tryz.prog ops Q (⟨dst, .build 142 #[(0, o1), (1, o2)], ty, pos, after, none⟩ :: rest) a w := by
  have hm : (#[(0, o1), (1, o2)] : Array (Nat × Operand)).map (fun (i, x) => (i, a.eval x)) = #[(0, .int .i64 i), (1, .agg (ar 64 x))] := by
    simp only [List.map_toArray, List.map_cons, List.map_nil, h1, h2]
  have hr : (Instr.build 142 #[(0, .int .i64 i), (1, .agg (ar 64 x))]).run Tryz.prog w = .ok (.agg (atL ⟨i, x⟩).toArray) w := run_build w _ _ _ (built_at i x)
  refine wpList_plain rfl fun K hK => ?_
  unfold Oper.wp execOp
  simp only [Sem.run_bind, hm, hr, Result.andThen_ok, Sem.run_pure]
  exact hK _ _ h
theorem gE_at {gd : Option (Nat × Bool)} {R : Value → World → Prop} (h1 : a.eval o1 = .int .i64 i) (h2 : a.eval o2 = .agg (ar 64 x)) (h : R (.agg (atL ⟨i, x⟩).toArray) w) : GivesE Tryz.prog ⟨dst, .build 142 #[(0, o1), (1, o2)], ty, pos, after, gd⟩ a w R := by
  have hm : (#[(0, o1), (1, o2)] : Array (Nat × Operand)).map (fun (i, x) => (i, a.eval x)) = #[(0, .int .i64 i), (1, .agg (ar 64 x))] := by
    simp only [List.map_toArray, List.map_cons, List.map_nil, h1, h2]
  have hr : (Instr.build 142 #[(0, .int .i64 i), (1, .agg (ar 64 x))]).run Tryz.prog w = .ok (.agg (atL ⟨i, x⟩).toArray) w := run_build w _ _ _ (built_at i x)
  unfold GivesE execOp
  simp only [Sem.run_bind, hm, hr, Result.andThen_ok, Sem.run_pure]
  exact h
end
end MbP
end Go.Proofs.YthogklchmhjjkaaGreat
set_option maxRecDepth 100000
namespace Go.Proofs.YthogklchmhjjkaaGreat
open Go.ChangeShapes Go.WideShapes Go.ChangeAt Go.RowKit
attribute [local go_sem] Gives GivesE
theorem Sli.bound {α : Type} {k : Nat} {en : α → List Value} {S : Nat → Prop} {w : World} {A : Option Addr} {l : List α} {n cp : Nat} (h : Sli k en S w A l n cp) : Sli k en (fun b => S b ∧ b < w.heap.size) w A l n cp :=
  ⟨h.len, h.cap, h.max, h.none, fun hn => by obtain ⟨b, o, e, hS, hl, hr⟩ := h.lst hn; exact ⟨b, o, e, ⟨hS, hl⟩, hl, hr⟩⟩
namespace MbP
open MbM
section
variable {w : World} {g : Nat} {I J : Nat → Prop} {s : Ls} {A1 A2 A3 A : Option Addr} {c1 c2 c3 c B : Nat} {l : List Pt}
/-- The lists of a member whose struct is turned, over more blocks. -/
theorem Rm.more (h : Rm w g I s A1 c1 A2 c2 A3 c3) (hIJ : ∀ b, I b → J b) (hg : ¬ J g) (hJ : ∀ b, J b → b < w.heap.size) : Rm w g J s A1 c1 A2 c2 A3 c3 where
  blk := h.blk
  dur := h.dur.mono hIJ
  log := h.log.mono hIJ
  marks := by
    obtain ⟨xs, h1, h2⟩ := h.marks
    exact ⟨xs, h1.mono hIJ, fun i l hi => by obtain ⟨A, c, h3, h4⟩ := h2 i l hi; exact ⟨A, c, h3, h4.mono hIJ⟩⟩
  out := hg
  lt := hJ
def nw (I : Nat → Prop) (B : Nat) (w : World) : Nat → Prop := fun b => I b ∨ (B ≤ b ∧ b < w.heap.size)
theorem Rm.nw (h : Rm w g I s A1 c1 A2 c2 A3 c3) (hB : g < B) : Rm w g (nw I B w) s A1 c1 A2 c2 A3 c3 :=
  h.more (fun _ e => .inl e) (fun e => e.elim h.out fun e => by omega) fun b e => e.elim (h.lt b) And.right
theorem tgt {v : Value} {j : Nat} : Turn (fun b => b = g) w (w.setCell ⟨g, j, none⟩ v) := Turn.setCell (S := fun b => b = g) w ⟨g, j, none⟩ v rfl
theorem Rm.keep {v : Value} {j : Nat} {s' : Ls} {A1' A2' A3' : Option Addr} {c1' c2' c3' : Nat} (h : Rm w g I s A1 c1 A2 c2 A3 c3) (hb : (mbC s.n A1 s.dur.length c1 A2 s.log.length c2 A3 s.marks.length c3 s.fails s.hurt).setIfInBounds j v = mbC s'.n A1' s'.dur.length c1' A2' s'.log.length c2' A3' s'.marks.length c3' s'.fails s'.hurt)
    (hd : Sli 65 atL I w A1' s'.dur s'.dur.length c1') (hl : Sli 65 atL I w A2' s'.log s'.log.length c2')
    (hm : ∃ xs : List SlE, Sli 1 slE I w A3' xs s'.marks.length c3' ∧ ∀ (i : Nat) (l : List Pt), s'.marks[i]? = some l → ∃ A c, xs[i]? = some (A, l.length, c) ∧ Sli 65 atL I w A l l.length c) :
    Rm (w.setCell ⟨g, j, none⟩ v) g I s' A1' c1' A2' c2' A3' c3' := by
  have hI : ∀ b, I b → b < w.heap.size → ¬ b = g := fun b hb _ e => h.out (e ▸ hb)
  refine ⟨by rw [← hb]; exact h.blk.setCell_same j v, hd.turn tgt hI, hl.turn tgt hI, ?_, h.out, fun b hb => by simp; exact h.lt b hb⟩
  obtain ⟨xs, h1, h2⟩ := hm
  exact ⟨xs, h1.turn tgt hI, fun i l hi => by obtain ⟨A, c, h3, h4⟩ := h2 i l hi; exact ⟨A, c, h3, h4.turn tgt hI⟩⟩
theorem Rm.setLog (h : Rm w g I s A1 c1 A2 c2 A3 c3) (hl : Sli 65 atL I w A l l.length c) : Rm (w.setCell ⟨g, 2, none⟩ (.slice A l.length c)) g I { s with log := l } A1 c1 A c A3 c3 := h.keep rfl h.dur hl h.marks
theorem Rm.setDur (h : Rm w g I s A1 c1 A2 c2 A3 c3) (hl : Sli 65 atL I w A l l.length c) : Rm (w.setCell ⟨g, 1, none⟩ (.slice A l.length c)) g I { s with dur := l } A c A2 c2 A3 c3 := h.keep rfl hl h.log h.marks
theorem Rm.setFails (h : Rm w g I s A1 c1 A2 c2 A3 c3) (q : Bool) : Rm (w.setCell ⟨g, 4, none⟩ (.bool q)) g I { s with fails := q } A1 c1 A2 c2 A3 c3 := h.keep rfl h.dur h.log h.marks
theorem Rm.setHurt (h : Rm w g I s A1 c1 A2 c2 A3 c3) (q : Bool) : Rm (w.setCell ⟨g, 5, none⟩ (.bool q)) g I { s with hurt := q } A1 c1 A2 c2 A3 c3 := h.keep rfl h.dur h.log h.marks
end
/-- From the start w through new blocks to w1, then a turn of g alone. -/
theorem RMo.of {w w1 w2 : World} {g : Nat} {I : Nat → Prop} {s : Ls} (hg : g < w.heap.size) (hb : Below w.heap.size w w1) (ht : Turn (fun b => b = g) w1 w2) (h : RM w2 g (nw I w.heap.size w1) s) : RMo w g I s w2 :=
  ⟨_, h, fun b e => e.imp id And.left, (Turn.of_new (S := fun b => b = g) hb).trans ht fun k hk => .inl hk⟩
def wrL (s : Ls) (i : Int) (x : Nat → Nat) : Ls := if s.may i then (if s.fails then s else { s with log := s.log ++ [⟨i, x⟩] }) else s
set_option maxRecDepth 100000 in
theorem write_any (g : Nat) (I : Nat → Prop) (s : Ls) (i : Int) (x : Nat → Nat) (hs : s.log.length ≤ 500000) (w : World) (h : RM w g I s) :
    Calls Tryz.prog 53 #[.pointer (some ⟨g, 0, none⟩), .int .i64 i, .agg (ar 64 x)] w fun e w' => e = .returned (.int .i64 (readE s i)) ∧ RMo w g I (wrL s i x) w' := by
  have HR := hid h
  obtain ⟨A1, c1, A2, c2, A3, c3, h⟩ := h
  have H := hid h
  have hgl := h.blk.lt
  clear h
  obtain ⟨q, hq⟩ : ∃ q, q = s.may i := ⟨_, rfl⟩
  obtain ⟨F, hF⟩ : ∃ F, F = s.fails := ⟨_, rfl⟩
  unfold wrL readE
  rw [← hq, ← hF]
  have HQ := hid (show decide (0 ≤ i ∧ i < s.n) = q from hq.symm)
  have HF := hid hF
  have HS := hid hs
  clear hq hF hs
  go_enter Tryz.func53, Tryz.ntmps53
  go_upto_region 1 with fail
  generalize hw1 : World.alloc w _ = w1
  have b1 := hid (show Blk w1 w.heap.size 43 (ar 64 x) by rw [← hw1]; exact Blk.new _ _ _)
  have BEL := hid (show Below w.heap.size w w1 by rw [← hw1]; exact (Below.refl _ _).alloc (Nat.le_refl _) _)
  have H1 := hid (H.out.below BEL.out (Nat.le_refl _))
  clear hw1 H
  go_wp2_with fail
  refine (may_any g I s A1 c1 A2 c2 A3 c3 i q HQ.out w1 H1.out).mono ?_
  rintro e w' ⟨rfl, rfl⟩
  cases q with
  | false =>
    go_wp2_with fail
    go_ret
    exact ⟨rfl, RMo.same HR.out BEL.out⟩
  | true =>
    have p4 : w1.cell? ⟨g, 4, none⟩ = some (.bool F) := by rw [HF.out]; exact H1.out.blk.cell 4
    cases F with
    | true =>
      go_wp2_with fail
      go_ret
      exact ⟨rfl, RMo.same HR.out BEL.out⟩
    | false =>
      have p2 : w1.cell? ⟨g, 2, none⟩ = some (.slice A2 s.log.length c2) := H1.out.blk.cell 2
      go_upto_region 5 with fail
      refine wp_region_y [some (.pointer (some ⟨g, 0, none⟩)), some (.pointer (some ⟨g, 0, none⟩)), some (.pointer (some ⟨g, 0, none⟩)), some (.pointer (some ⟨g, 2, none⟩)), some (.slice A2 s.log.length c2), some (.int .i64 i), some (.agg (ar 64 x)), some (.agg (atL ⟨i, x⟩).toArray), none, none, some (.pointer (some ⟨g, 0, none⟩)), some (.pointer (some ⟨g, 2, none⟩))]
        [(8, spX 65 atL (fun _ => True) [⟨i, x⟩]), (9, spX 65 atL (fun b => w1.heap.size ≤ b) (s.log ++ [⟨i, x⟩]))] (fun y hy => by simp only [List.mem_cons, List.not_mem_nil, or_false] at hy; rcases hy with rfl | rfl <;> exact spX_ok _ _ _ _) 12 (by kernel_rfl) (by kernel_rfl) (by kernel_rfl) fun vs => ?_
      simp only [List.take_succ_cons, List.take_zero, List.drop_succ_cons, List.drop_zero]
      refine ⟨.inl ⟨rfl, fun dd w' hd hC hDs => ?_⟩, fun e => ?_⟩
      · go_simp
        first | exact ⟨rfl, hC, Below.refl _ _, trivial⟩ | exact ⟨rfl, Below.refl _ _, trivial⟩ | exact ⟨hC, Below.refl _ _, trivial⟩
      have e' : vs 0 = _ := e
      rw [e']
      clear e e'
      simp only [Act.put, List.setIfInBounds_toArray, List.set_cons_succ, List.set_cons_zero]
      refine ⟨.inl ⟨rfl, fun dd w' hd hC hDs => ?_⟩, fun e => ?_⟩
      · go_simp
        first | exact ⟨rfl, hC, Below.refl _ _, trivial⟩ | exact ⟨rfl, Below.refl _ _, trivial⟩ | exact ⟨hC, Below.refl _ _, trivial⟩
      have e' : vs 1 = _ := e
      rw [e']
      clear e e'
      simp only [Act.put, List.setIfInBounds_toArray, List.set_cons_succ, List.set_cons_zero]
      refine ⟨.inl ⟨rfl, fun dd w' hd hC hDs => ?_⟩, fun e => ?_⟩
      · go_simp
        first | exact ⟨rfl, hC, Below.refl _ _, trivial⟩ | exact ⟨rfl, Below.refl _ _, trivial⟩ | exact ⟨hC, Below.refl _ _, trivial⟩
      have e' : vs 2 = _ := e
      rw [e']
      clear e e'
      simp only [Act.put, List.setIfInBounds_toArray, List.set_cons_succ, List.set_cons_zero]
      refine ⟨.inl ⟨rfl, fun dd w' hd hC hDs => ?_⟩, fun e => ?_⟩
      · go_simp
        first | exact ⟨rfl, hC, Below.refl _ _, trivial⟩ | exact ⟨rfl, Below.refl _ _, trivial⟩ | exact ⟨hC, Below.refl _ _, trivial⟩
      have e' : vs 3 = _ := e
      rw [e']
      clear e e'
      simp only [Act.put, List.setIfInBounds_toArray, List.set_cons_succ, List.set_cons_zero]
      refine ⟨.inl ⟨rfl, fun dd w' hd hC hDs => ?_⟩, fun e => ?_⟩
      · have h1 : w'.cell? ⟨g, 2, none⟩ = some (.slice A2 s.log.length c2) := (H1.out.below hC (Nat.le_refl _)).blk.cell 2
        go_simp
        first | exact ⟨rfl, hC, Below.refl _ _, trivial⟩ | exact ⟨rfl, Below.refl _ _, trivial⟩ | exact ⟨hC, Below.refl _ _, trivial⟩
      have e' : vs 4 = _ := e
      rw [e']
      clear e e'
      simp only [Act.put, List.setIfInBounds_toArray, List.set_cons_succ, List.set_cons_zero]
      refine ⟨.inl ⟨rfl, fun dd w' hd hC hDs => ?_⟩, fun e => ?_⟩
      · go_simp
        first | exact ⟨rfl, hC, Below.refl _ _, trivial⟩ | exact ⟨rfl, Below.refl _ _, trivial⟩ | exact ⟨hC, Below.refl _ _, trivial⟩
      have e' : vs 5 = _ := e
      rw [e']
      clear e e'
      simp only [Act.put, List.setIfInBounds_toArray, List.set_cons_succ, List.set_cons_zero]
      refine ⟨.inl ⟨rfl, fun dd w' hd hC hDs => ?_⟩, fun e => ?_⟩
      · exact gE_ldA tSe rfl (b1.out.below hC b1.out.lt).head ⟨rfl, hC, Below.refl _ _, trivial⟩
      have e' : vs 6 = _ := e
      rw [e']
      clear e e'
      simp only [Act.put, List.setIfInBounds_toArray, List.set_cons_succ, List.set_cons_zero]
      refine ⟨.inl ⟨rfl, fun dd w' hd hC hDs => ?_⟩, fun e => ?_⟩
      · exact gE_at rfl rfl ⟨rfl, hC, Below.refl _ _, trivial⟩
      have e' : vs 7 = _ := e
      rw [e']
      clear e e'
      simp only [Act.put, List.setIfInBounds_toArray, List.set_cons_succ, List.set_cons_zero]
      refine ⟨.inl ⟨rfl, fun dd w' hd hC hDs => ?_⟩, fun e => ?_⟩
      · have ha := (Below.refl w'.heap.size w').alloc (Nat.le_refl _) (.cells (atL ⟨i, x⟩).toArray 142)
        exact gE_lit1 (x := (⟨i, x⟩ : Pt)) eltAt undAt (by omega) rfl rfl ⟨⟨_, _, rfl⟩, hC.trans (ha.mono hC.size), ha, yD_some rfl ⟨_, _, rfl, sli_lit1 eltAt (⟨i, x⟩ : Pt) w' trivial⟩⟩
      obtain ⟨A8, c8, e'⟩ : ∃ (A : Option Addr) (c : Nat), vs 8 = .slice A 1 c := e
      rw [e']
      have E8 := hid e'
      clear e'
      simp only [Act.put, List.setIfInBounds_toArray, List.set_cons_succ, List.set_cons_zero]
      refine ⟨.inl ⟨rfl, fun dd w' hd hC hDs => ?_⟩, fun e => ?_⟩
      · obtain ⟨A', c', f, sl⟩ := hDs 8 (by kernel_rfl)
        rw [E8.out] at f
        cases f
        go_simp
        refine (joined_any I (fun _ => True) A2 A8 s.log [⟨i, x⟩] _ 1 c2 c8 (by have := HS.out; omega) w' (H1.out.below hC (Nat.le_refl _)).log sl).mono ?_
        rintro e w3 ⟨v, rfl, o3, h3⟩
        obtain ⟨A, c, rfl, s3⟩ := o3.sli atL_len
        exact ⟨_, rfl, ⟨A, c, rfl⟩, hC.trans (h3.mono hC.size), h3, yD_some rfl ⟨A, c, rfl, s3.mono fun b hb => Nat.le_trans hC.size hb⟩⟩
      obtain ⟨A9, c9, e'⟩ : ∃ (A : Option Addr) (c : Nat), vs 9 = .slice A (s.log ++ [(⟨i, x⟩ : Pt)]).length c := e
      rw [e']
      have E9 := hid e'
      clear e'
      simp only [Act.put, List.setIfInBounds_toArray, List.set_cons_succ, List.set_cons_zero]
      refine ⟨.inl ⟨rfl, fun dd w' hd hC hDs => ?_⟩, fun e => ?_⟩
      · go_simp
        first | exact ⟨rfl, hC, Below.refl _ _, trivial⟩ | exact ⟨rfl, Below.refl _ _, trivial⟩ | exact ⟨hC, Below.refl _ _, trivial⟩
      have e' : vs 10 = _ := e
      rw [e']
      clear e e'
      simp only [Act.put, List.setIfInBounds_toArray, List.set_cons_succ, List.set_cons_zero]
      refine ⟨.inl ⟨rfl, fun dd w' hd hC hDs => ?_⟩, fun e => ?_⟩
      · go_simp
        first | exact ⟨rfl, hC, Below.refl _ _, trivial⟩ | exact ⟨rfl, Below.refl _ _, trivial⟩ | exact ⟨hC, Below.refl _ _, trivial⟩
      have e' : vs 11 = _ := e
      rw [e']
      clear e e'
      simp only [Act.put, List.setIfInBounds_toArray, List.set_cons_succ, List.set_cons_zero]
      intro dd w3 hall hC3 hDs
      obtain ⟨A', c', f, sl⟩ := hDs 9 (by omega)
      rw [E9.out] at f
      cases f
      have B3 := hid (BEL.out.trans (hC3.mono BEL.out.size))
      have H3 := H1.out.below hC3 (Nat.le_refl _)
      have SL := hid ((sl.mono (T := fun b => w.heap.size ≤ b) fun b hb => Nat.le_trans BEL.out.size hb).bound.mono (T := nw I w.heap.size w3) fun b hb => .inr hb)
      have p3 : w3.cell? ⟨g, 2, none⟩ = some (.slice A2 s.log.length c2) := H3.blk.cell 2
      have fz := H3.blk.frozen 2
      have H4 := hid (H3.nw (B := w.heap.size) hgl)
      clear b1 BEL H1 p4 p2 hall hC3 hDs sl H3 E8 E9
      go_wp2_with fail
      go_ret
      have hfin := H4.out.setLog SL.out
      simp only [List.length_append, List.length_cons, List.length_nil, Nat.zero_add] at hfin
      rw [← HF.out] at hfin
      exact ⟨rfl, RMo.of hgl B3.out tgt ⟨_, _, _, _, _, _, hfin⟩⟩
end MbP
end Go.Proofs.YthogklchmhjjkaaGreat
set_option maxRecDepth 100000
namespace Go.Proofs.YthogklchmhjjkaaGreat
open Go.ChangeShapes Go.WideShapes Go.ChangeAt Go.RowKit
attribute [local go_sem] Gives GivesE
namespace MbP
open MbM
def flE (s : Ls) : Int := if s.fails then 10 else 0
def flL (s : Ls) : Ls := if s.fails then s else { s with dur := s.dur ++ s.log, log := [] }
set_option maxRecDepth 100000 in
theorem flush_any (g : Nat) (I : Nat → Prop) (s : Ls) (hs : s.dur.length + s.log.length ≤ 500000) (w : World) (h : RM w g I s) :
    Calls Tryz.prog 56 #[.pointer (some ⟨g, 0, none⟩)] w fun e w' => e = .returned (.int .i64 (flE s)) ∧ RMo w g I (flL s) w' := by
  have HR := hid h
  obtain ⟨A1, c1, A2, c2, A3, c3, h⟩ := h
  have H1 := hid h
  have hgl := h.blk.lt
  clear h
  obtain ⟨F, hF⟩ : ∃ F, F = s.fails := ⟨_, rfl⟩
  unfold flL flE
  rw [← hF]
  have HF := hid hF
  have HS := hid hs
  clear hF hs
  have p4 : w.cell? ⟨g, 4, none⟩ = some (.bool F) := by rw [HF.out]; exact H1.out.blk.cell 4
  go_enter Tryz.func56, Tryz.ntmps56
  cases F with
  | true =>
    go_wp2_with fail
    go_ret
    exact ⟨rfl, RMo.same HR.out (Below.refl _ _)⟩
  | false =>
    go_upto_region 3 with fail
    clear p4
    refine wp_region_y [some (.pointer (some ⟨g, 0, none⟩)), some (.pointer (some ⟨g, 0, none⟩)), some (.pointer (some ⟨g, 0, none⟩)), some (.pointer (some ⟨g, 1, none⟩)), some (.slice A1 s.dur.length c1), some (.pointer (some ⟨g, 0, none⟩)), some (.pointer (some ⟨g, 0, none⟩)), some (.pointer (some ⟨g, 2, none⟩)), some (.slice A2 s.log.length c2), none, some (.pointer (some ⟨g, 0, none⟩)), some (.pointer (some ⟨g, 1, none⟩))]
      [(9, spX 65 atL (fun b => w.heap.size ≤ b) (s.dur ++ s.log))] (fun y hy => by simp only [List.mem_cons, List.not_mem_nil, or_false] at hy; subst hy; exact spX_ok _ _ _ _) 12 (by kernel_rfl) (by kernel_rfl) (by kernel_rfl) fun vs => ?_
    simp only [List.take_succ_cons, List.take_zero, List.drop_succ_cons, List.drop_zero]
    refine ⟨.inl ⟨rfl, fun dd w' hd hC hDs => ?_⟩, fun e => ?_⟩
    · go_simp
      first | exact ⟨rfl, hC, Below.refl _ _, trivial⟩ | exact ⟨rfl, Below.refl _ _, trivial⟩ | exact ⟨hC, Below.refl _ _, trivial⟩
    have e' : vs 0 = _ := e
    rw [e']
    clear e e'
    simp only [Act.put, List.setIfInBounds_toArray, List.set_cons_succ, List.set_cons_zero]
    refine ⟨.inl ⟨rfl, fun dd w' hd hC hDs => ?_⟩, fun e => ?_⟩
    · go_simp
      first | exact ⟨rfl, hC, Below.refl _ _, trivial⟩ | exact ⟨rfl, Below.refl _ _, trivial⟩ | exact ⟨hC, Below.refl _ _, trivial⟩
    have e' : vs 1 = _ := e
    rw [e']
    clear e e'
    simp only [Act.put, List.setIfInBounds_toArray, List.set_cons_succ, List.set_cons_zero]
    refine ⟨.inl ⟨rfl, fun dd w' hd hC hDs => ?_⟩, fun e => ?_⟩
    · go_simp
      first | exact ⟨rfl, hC, Below.refl _ _, trivial⟩ | exact ⟨rfl, Below.refl _ _, trivial⟩ | exact ⟨hC, Below.refl _ _, trivial⟩
    have e' : vs 2 = _ := e
    rw [e']
    clear e e'
    simp only [Act.put, List.setIfInBounds_toArray, List.set_cons_succ, List.set_cons_zero]
    refine ⟨.inl ⟨rfl, fun dd w' hd hC hDs => ?_⟩, fun e => ?_⟩
    · go_simp
      first | exact ⟨rfl, hC, Below.refl _ _, trivial⟩ | exact ⟨rfl, Below.refl _ _, trivial⟩ | exact ⟨hC, Below.refl _ _, trivial⟩
    have e' : vs 3 = _ := e
    rw [e']
    clear e e'
    simp only [Act.put, List.setIfInBounds_toArray, List.set_cons_succ, List.set_cons_zero]
    refine ⟨.inl ⟨rfl, fun dd w' hd hC hDs => ?_⟩, fun e => ?_⟩
    · have h1 : w'.cell? ⟨g, 1, none⟩ = some (.slice A1 s.dur.length c1) := (H1.out.below hC (Nat.le_refl _)).blk.cell 1
      go_simp
      first | exact ⟨rfl, hC, Below.refl _ _, trivial⟩ | exact ⟨rfl, Below.refl _ _, trivial⟩ | exact ⟨hC, Below.refl _ _, trivial⟩
    have e' : vs 4 = _ := e
    rw [e']
    clear e e'
    simp only [Act.put, List.setIfInBounds_toArray, List.set_cons_succ, List.set_cons_zero]
    refine ⟨.inl ⟨rfl, fun dd w' hd hC hDs => ?_⟩, fun e => ?_⟩
    · go_simp
      first | exact ⟨rfl, hC, Below.refl _ _, trivial⟩ | exact ⟨rfl, Below.refl _ _, trivial⟩ | exact ⟨hC, Below.refl _ _, trivial⟩
    have e' : vs 5 = _ := e
    rw [e']
    clear e e'
    simp only [Act.put, List.setIfInBounds_toArray, List.set_cons_succ, List.set_cons_zero]
    refine ⟨.inl ⟨rfl, fun dd w' hd hC hDs => ?_⟩, fun e => ?_⟩
    · go_simp
      first | exact ⟨rfl, hC, Below.refl _ _, trivial⟩ | exact ⟨rfl, Below.refl _ _, trivial⟩ | exact ⟨hC, Below.refl _ _, trivial⟩
    have e' : vs 6 = _ := e
    rw [e']
    clear e e'
    simp only [Act.put, List.setIfInBounds_toArray, List.set_cons_succ, List.set_cons_zero]
    refine ⟨.inl ⟨rfl, fun dd w' hd hC hDs => ?_⟩, fun e => ?_⟩
    · go_simp
      first | exact ⟨rfl, hC, Below.refl _ _, trivial⟩ | exact ⟨rfl, Below.refl _ _, trivial⟩ | exact ⟨hC, Below.refl _ _, trivial⟩
    have e' : vs 7 = _ := e
    rw [e']
    clear e e'
    simp only [Act.put, List.setIfInBounds_toArray, List.set_cons_succ, List.set_cons_zero]
    refine ⟨.inl ⟨rfl, fun dd w' hd hC hDs => ?_⟩, fun e => ?_⟩
    · have h1 : w'.cell? ⟨g, 2, none⟩ = some (.slice A2 s.log.length c2) := (H1.out.below hC (Nat.le_refl _)).blk.cell 2
      go_simp
      first | exact ⟨rfl, hC, Below.refl _ _, trivial⟩ | exact ⟨rfl, Below.refl _ _, trivial⟩ | exact ⟨hC, Below.refl _ _, trivial⟩
    have e' : vs 8 = _ := e
    rw [e']
    clear e e'
    simp only [Act.put, List.setIfInBounds_toArray, List.set_cons_succ, List.set_cons_zero]
    refine ⟨.inl ⟨rfl, fun dd w' hd hC hDs => ?_⟩, fun e => ?_⟩
    · go_simp
      have hw := H1.out.below hC (Nat.le_refl _)
      refine (joined_any I I A1 A2 s.dur s.log _ _ c1 c2 (by have := HS.out; omega) w' hw.dur hw.log).mono ?_
      rintro e w3 ⟨v, rfl, o3, h3⟩
      obtain ⟨A, c, rfl, s3⟩ := o3.sli atL_len
      exact ⟨_, rfl, ⟨A, c, rfl⟩, hC.trans (h3.mono hC.size), h3, yD_some rfl ⟨A, c, rfl, s3.mono fun b hb => Nat.le_trans hC.size hb⟩⟩
    obtain ⟨A9, c9, e'⟩ : ∃ (A : Option Addr) (c : Nat), vs 9 = .slice A (s.dur ++ s.log).length c := e
    rw [e']
    have E9 := hid e'
    clear e'
    simp only [Act.put, List.setIfInBounds_toArray, List.set_cons_succ, List.set_cons_zero]
    refine ⟨.inl ⟨rfl, fun dd w' hd hC hDs => ?_⟩, fun e => ?_⟩
    · go_simp
      first | exact ⟨rfl, hC, Below.refl _ _, trivial⟩ | exact ⟨rfl, Below.refl _ _, trivial⟩ | exact ⟨hC, Below.refl _ _, trivial⟩
    have e' : vs 10 = _ := e
    rw [e']
    clear e e'
    simp only [Act.put, List.setIfInBounds_toArray, List.set_cons_succ, List.set_cons_zero]
    refine ⟨.inl ⟨rfl, fun dd w' hd hC hDs => ?_⟩, fun e => ?_⟩
    · go_simp
      first | exact ⟨rfl, hC, Below.refl _ _, trivial⟩ | exact ⟨rfl, Below.refl _ _, trivial⟩ | exact ⟨hC, Below.refl _ _, trivial⟩
    have e' : vs 11 = _ := e
    rw [e']
    clear e e'
    simp only [Act.put, List.setIfInBounds_toArray, List.set_cons_succ, List.set_cons_zero]
    intro dd w3 hall hC3 hDs
    obtain ⟨A', c', f, sl⟩ := hDs 9 (by omega)
    rw [E9.out] at f
    cases f
    have B3 := hid hC3
    have H3 := H1.out.below hC3 (Nat.le_refl _)
    have SL := hid (sl.bound.mono (T := nw I w.heap.size w3) fun b hb => .inr hb)
    have p3 : w3.cell? ⟨g, 1, none⟩ = some (.slice A1 s.dur.length c1) := H3.blk.cell 1
    have fz := H3.blk.frozen 1
    have H4 := hid (H3.nw (B := w.heap.size) hgl)
    clear H1 hall hC3 hDs sl H3 E9
    go_upto_region 4 with fail
    have H5 := H4.out.setDur SL.out
    have T5 := hid (tgt (w := w3) (g := g) (j := 1) (v := .slice A9 (s.dur ++ s.log).length c9))
    simp only [List.length_append] at H5 T5
    generalize w3.setCell ⟨g, 1, none⟩ _ = w5 at H5 T5 ⊢
    have HZ := hid H5
    have p6 : w5.cell? ⟨g, 2, none⟩ = some (.slice A2 s.log.length c2) := H5.blk.cell 2
    have f6 := H5.blk.frozen 2
    clear H5 p3 fz
    go_wp2_with fail
    go_ret
    have hfin := HZ.out.setLog (l := []) (Sli.nil _ _ _ _)
    simp only [List.length_append, List.length_nil] at hfin
    rw [← HF.out] at hfin
    exact ⟨rfl, RMo.of hgl B3.out (T5.out.trans tgt fun _ h => .inl h) ⟨_, _, _, _, _, _, hfin⟩⟩
def failL (s : Ls) (q : Bool) : Ls := { s with fails := q, hurt := s.hurt || q }
theorem fail_any (g : Nat) (I : Nat → Prop) (s : Ls) (q : Bool) (w : World) (h : RM w g I s) :
    Calls Tryz.prog 77 #[.pointer (some ⟨g, 0, none⟩), .bool q] w fun e w' => e = .returned (.tuple #[]) ∧ RMo w g I (failL s q) w' := by
  obtain ⟨A1, c1, A2, c2, A3, c3, h⟩ := h
  have hgl := h.blk.lt
  have p4 : w.cell? ⟨g, 4, none⟩ = some (.bool s.fails) := h.blk.cell 4
  have f4 := h.blk.frozen 4
  have H0 := hid (h.nw (B := w.heap.size) hgl)
  clear h
  go_enter Tryz.func77, Tryz.ntmps77
  go_upto_region 1 with fail
  have H5 := H0.out.setFails q
  have T5 := hid (tgt (w := w) (g := g) (j := 4) (v := .bool q))
  generalize w.setCell ⟨g, 4, none⟩ (.bool q) = w5 at H5 T5 ⊢
  have HZ := hid H5
  have p5 : w5.cell? ⟨g, 5, none⟩ = some (.bool s.hurt) := H5.blk.cell 5
  have f5 := H5.blk.frozen 5
  clear H5 p4 f4 H0
  cases q with
  | true =>
    go_wp2_with fail
    refine bodyPost_end (results_none rfl _ _ _) rfl ?_
    have hfin := HZ.out.setHurt true
    exact ⟨rfl, RMo.of hgl (Below.refl _ _) (T5.out.trans tgt fun _ h => .inl h) ⟨_, _, _, _, _, _, by unfold failL; rw [Bool.or_true]; exact hfin⟩⟩
  | false =>
    go_wp2_with fail
    refine bodyPost_end (results_none rfl _ _ _) rfl ?_
    exact ⟨rfl, RMo.of hgl (Below.refl _ _) T5.out ⟨_, _, _, _, _, _, by unfold failL; rw [Bool.or_false]; exact HZ.out⟩⟩
def backE (s : Ls) (n : Int) : Int := if n < 0 ∨ (s.marks.length : Int) ≤ n then 2 else 0
def backL (s : Ls) (n : Int) : Ls := if n < 0 ∨ (s.marks.length : Int) ≤ n then s else { s with dur := s.marks.getD n.toNat [], log := [], hurt := true }
theorem back_any (g : Nat) (I : Nat → Prop) (s : Ls) (n : Int) (w : World) (h : RM w g I s) :
    Calls Tryz.prog 76 #[.pointer (some ⟨g, 0, none⟩), .int .i64 n] w fun e w' => e = .returned (.int .i64 (backE s n)) ∧ RMo w g I (backL s n) w' := by
  have HR := hid h
  obtain ⟨A1, c1, A2, c2, A3, c3, h⟩ := h
  have hgl := h.blk.lt
  have p3 : w.cell? ⟨g, 3, none⟩ = some (.slice A3 s.marks.length c3) := h.blk.cell 3
  have H := hid h
  clear h
  unfold backE backL
  by_cases h0 : n < 0
  · rw [if_pos (.inl h0), if_pos (.inl h0)]
    have t1 : decide (n < 0) = true := by simp; omega
    clear h0 p3
    go_enter Tryz.func76, Tryz.ntmps76
    go_wp2_with fail
    go_ret
    exact ⟨rfl, RMo.same HR.out (Below.refl _ _)⟩
  · by_cases h1 : (s.marks.length : Int) ≤ n
    · rw [if_pos (.inr h1), if_pos (.inr h1)]
      have t1 : decide (n < 0) = false := by simp; omega
      have t2 : decide ((s.marks.length : Int) ≤ n) = true := by simp; omega
      clear h0 h1
      go_enter Tryz.func76, Tryz.ntmps76
      go_wp2_with fail
      go_ret
      exact ⟨rfl, RMo.same HR.out (Below.refl _ _)⟩
    · rw [if_neg (by omega), if_neg (by omega)]
      obtain ⟨k, rfl⟩ : ∃ k : Nat, n = k := ⟨n.toNat, by omega⟩
      have hk : k < s.marks.length := by omega
      obtain ⟨l, hl⟩ : ∃ l, s.marks[k]? = some l := ⟨_, List.getElem?_eq_getElem hk⟩
      obtain ⟨xs, hx, hm⟩ := H.out.marks
      obtain ⟨A, c, hxk, sl⟩ := hm k l hl
      obtain ⟨b, o, rfl, hIb, hbl, hr⟩ := hx.some hxk
      have pm : w.cell? ⟨b, o + k, none⟩ = some (.slice A l.length c) := by have := hr 0 (.slice A l.length c) rfl; rwa [Nat.mul_one, Nat.add_zero] at this
      have t1 : decide ((k : Int) < 0) = false := by simp
      have t2 : decide ((s.marks.length : Int) ≤ (k : Int)) = false := by simp; omega
      have t3 : (k : Int) < (s.marks.length : Int) := by omega
      have hgd : s.marks.getD (k : Int).toNat [] = l := by rw [Int.toNat_natCast, List.getD_eq_getElem?_getD, hl]; rfl
      rw [hgd]
      have SL := hid (sl.mono (T := nw I w.heap.size w) fun b hb => .inl hb)
      have q1 : w.cell? ⟨g, 1, none⟩ = some (.slice A1 s.dur.length c1) := H.out.blk.cell 1
      have fz := H.out.blk.frozen 1
      have H4 := hid (H.out.nw (B := w.heap.size) hgl)
      clear h0 h1 hk hl hx hm hxk sl hIb hbl hr hgd H
      go_enter Tryz.func76, Tryz.ntmps76
      go_upto_region 4 with fail
      have H5 := H4.out.setDur SL.out
      have T5 := hid (tgt (w := w) (g := g) (j := 1) (v := .slice A l.length c))
      generalize w.setCell ⟨g, 1, none⟩ _ = w5 at H5 T5 ⊢
      have HZ := hid H5
      have p6 : w5.cell? ⟨g, 2, none⟩ = some (.slice A2 s.log.length c2) := H5.blk.cell 2
      have f6 := H5.blk.frozen 2
      clear H5 q1 fz pm p3 H4
      go_upto_region 5 with fail
      have H6 := HZ.out.setLog (l := []) (Sli.nil _ _ _ _)
      have T6 := hid (T5.out.trans (tgt (w := w5) (g := g) (j := 2) (v := .slice none 0 0)) fun _ h => .inl h)
      simp only [List.length_nil] at H6
      generalize w5.setCell ⟨g, 2, none⟩ _ = w6 at H6 T6 ⊢
      have HY := hid H6
      have p7 : w6.cell? ⟨g, 5, none⟩ = some (.bool s.hurt) := H6.blk.cell 5
      have f7 := H6.blk.frozen 5
      clear H6 p6 f6 HZ T5
      go_wp2_with fail
      go_ret
      exact ⟨rfl, RMo.of hgl (Below.refl _ _) (T6.out.trans tgt fun _ h => .inl h) ⟨_, _, _, _, _, _, HY.out.setHurt true⟩⟩
end MbP
end Go.Proofs.YthogklchmhjjkaaGreat
set_option maxRecDepth 100000
namespace Go.Proofs.YthogklchmhjjkaaGreat
open Go.ChangeShapes Go.WideShapes Go.ChangeAt Go.RowKit
attribute [local go_sem] Gives GivesE
namespace MbP
open MbM
def Ls.made (n : Int) : Ls := ⟨n, [], [], [], false, false⟩
theorem made_any (n : Int) (w : World) :
    Calls Tryz.prog 20 #[.int .i64 n] w fun e w' => e = .returned (.pointer (some ⟨w.heap.size, 0, none⟩)) ∧ RM w' w.heap.size (fun _ => False) (Ls.made n) ∧ Below w.heap.size w w' := by
  go_enter Tryz.func20, Tryz.ntmps20
  go_wp2_with fail
  go_ret
  exact ⟨rfl, ⟨.none, 0, .none, 0, .none, 0, ⟨Blk.new _ _ _, Sli.nil _ _ _ _, Sli.nil _ _ _ _, ⟨[], Sli.nil _ _ _ _, fun i l hi => by simp [Ls.made] at hi⟩, id, fun b hb => hb.elim⟩⟩, (Below.refl _ _).alloc (Nat.le_refl _) _⟩
end MbP
end Go.Proofs.YthogklchmhjjkaaGreat
set_option maxRecDepth 100000
namespace Go.Proofs.YthogklchmhjjkaaGreat
open Go.ChangeShapes Go.WideShapes Go.ChangeAt Go.RowKit
def u8s (l : List Nat) : List UInt8 := l.map UInt8.ofNat
theorem u8s_length (l : List Nat) : (u8s l).length = l.length := List.length_map _
/-- A text of these bytes. -/
def str (l : List Nat) : ByteArray := ⟨(u8s l).toArray⟩
theorem run_bytes_str {A : Option Addr} {l : List Nat} {n cap B : Nat} (hl : l.length = n) (h256 : ∀ x ∈ l, x < 256) (h0 : A = none → n = 0 ∧ cap = 0) {w : World} (hA : Byt w B A l) :
    (convert 60 9 (.slice A n cap)).run Tryz.prog w = .ok (.string (str l)) w := by
  by_cases hn : 0 < l.length
  · obtain ⟨b, o, rfl, _, hr⟩ := hA hn
    have h := run_convert_bytes_back (P := Tryz.prog) w 60 9 5 ⟨b, o, none⟩ cap (u8s l) Tryz.underlying60 Tryz.underlying5 Tryz.underlying9 (fun j hj => by
      rw [u8s_length] at hj
      have hg : l.getD j 0 = l[j] := by rw [List.getD_eq_getElem?_getD, List.getElem?_eq_getElem hj]; rfl
      have hlt := h256 l[j] (List.getElem_mem hj)
      rw [Addr.add_mid, hr j hj, hg]
      simp only [u8s, List.getElem_map]
      congr 2
      simp; omega)
    rw [u8s_length, hl] at h
    exact h
  · obtain rfl := List.eq_nil_of_length_eq_zero (show l.length = 0 by omega)
    obtain rfl : n = 0 := hl.symm
    cases A with
    | some ad => exact run_convert_bytes_back (P := Tryz.prog) w 60 9 5 ad cap [] Tryz.underlying60 Tryz.underlying5 Tryz.underlying9 fun j hj => absurd hj (by simp)
    | none =>
      rw [run_convert_bytes_string w 60 9 5 none 0 cap Tryz.underlying60 Tryz.underlying5 Tryz.underlying9]
      simp [Conv.bytesToString, str, u8s]
      rfl
/-- A slice of bytes that came in, of which the first thousand are looked at. -/
structure Arg (w : World) (K : Option Addr) (key : List Nat) (kn kcap : Nat) : Prop where
  len : key.length = kn
  cap : kn ≤ kcap
  max : kcap ≤ maxLen
  b256 : B256 key
  none : K = none → kn = 0 ∧ kcap = 0
  byt : Byt w w.heap.size K key
theorem Arg.cut {w : World} {K : Option Addr} {key : List Nat} {kn kcap : Nat} (h : Arg w K key kn kcap) : Arg w K (key.take 1000) (min kn 1000) kcap where
  len := by rw [List.length_take, h.len]; omega
  cap := by have := h.cap; omega
  max := h.max
  b256 := h.b256.take 1000
  none e := by obtain ⟨h1, h2⟩ := h.none e; exact ⟨by omega, h2⟩
  byt := h.byt.take 1000
theorem Arg.on {w w' : World} {K : Option Addr} {key : List Nat} {kn kcap : Nat} (h : Arg w K key kn kcap) (hb : Below w.heap.size w w') : Arg w' K key kn kcap where
  len := h.len
  cap := h.cap
  max := h.max
  b256 := h.b256
  none := h.none
  byt := (h.byt.below hb (Nat.le_refl _)).more hb.size
theorem Own.arg {w : World} {B : Nat} {v : Value} {l : List Nat} (h : Own 5 .u8 w B v l) (hb : B256 l) : ∃ A cap, v = .slice A l.length cap ∧ Arg w A l l.length cap := by
  rcases h.form with ⟨rfl, rfl⟩ | ⟨g, cap, rfl, _, _, h1, h2, h3⟩
  · exact ⟨.none, 0, rfl, rfl, Nat.le_refl _, Nat.zero_le _, hb, fun _ => ⟨rfl, rfl⟩, Byt.none rfl⟩
  · exact ⟨_, cap, rfl, rfl, h1, h2, hb, (fun e => by cases e), h3.byt⟩
theorem Arg.str {w : World} {K : Option Addr} {key : List Nat} {kn kcap : Nat} (h : Arg w K key kn kcap) : (convert 60 9 (.slice K kn kcap)).run Tryz.prog w = .ok (.string (str key)) w := run_bytes_str h.len h.b256 h.none h.byt
end Go.Proofs.YthogklchmhjjkaaGreat
set_option maxRecDepth 100000
namespace Go.Proofs.YthogklchmhjjkaaGreat
open Go.ChangeShapes Go.WideShapes Go.ChangeAt Go.RowKit
attribute [local go_sem] Gives GivesE
theorem Arg.turn {S : Nat → Prop} {w w' : World} {K : Option Addr} {key : List Nat} {kn kcap : Nat} (h : Arg w K key kn kcap) (ht : Turn S w w') (hne : ∀ b o, 0 < key.length → K = some ⟨b, o, .none⟩ → ¬ S b) : Arg w' K key kn kcap where
  len := h.len
  cap := h.cap
  max := h.max
  b256 := h.b256
  none := h.none
  byt hn := by
    obtain ⟨b, o, e, hl, hr⟩ := h.byt hn
    exact ⟨b, o, e, Nat.lt_of_lt_of_le hl ht.size, fun i hi => ht.cell (p := ⟨b, o + i, .none⟩) (hr i hi) (hne b o hn e)⟩
namespace MbP
open MbM
theorem kept_length (l : List Pt) (picks : List Nat) : ∀ n, (keptN l picks n).length ≤ n
  | 0 => Nat.le_refl _
  | n + 1 => by
    rw [kept_step, List.length_append]
    have := kept_length l picks n
    have h2 : (if picks.getD n 0 = 0 then ([] : List Pt) else l[n]?.toList).length ≤ 1 := by
      split
      · simp
      · cases l[n]? <;> simp
    omega
def durK (s : Ls) (picks : List Nat) (k : Nat) : Ls := { s with dur := s.dur ++ keptN s.log picks k }
def crashL (s : Ls) (picks : List Nat) : Ls := { s with dur := s.dur ++ kept s.log picks, log := [] }
set_option maxHeartbeats 800000 in
set_option maxRecDepth 100000 in
theorem crash_any (g : Nat) (I : Nat → Prop) (s : Ls) (hs : s.dur.length + s.log.length ≤ 400000) (P : Option Addr) (picks : List Nat) (pn pc : Nat) (w : World) (h : RM w g I s) (hp : Arg w P picks pn pc) (hne : ∀ b o, 0 < picks.length → P = some ⟨b, o, none⟩ → b ≠ g) :
    Calls Tryz.prog 83 #[.pointer (some ⟨g, 0, none⟩), .slice P pn pc] w fun e w' => e = .returned (.tuple #[]) ∧ RMo w g I (crashL s picks) w' := by
  obtain ⟨A1, c1, A2, c2, A3, c3, h⟩ := h
  have hgl := h.blk.lt
  have HS := hid hs
  have HP := hid hp
  have HNE := hid hne
  have H := hid h
  have hpn : pn ≤ 9223372036854775807 := by have := hp.cap; have := hp.max; unfold maxLen at *; omega
  clear hs hp hne h
  go_enter Tryz.func83, Tryz.ntmps83
  go_wp2_with fail
  go_loopw [4] (fun u wr => ∃ (k : Nat) (J : Nat → Prop) (A : Option Addr) (c : Nat), u = .int .i64 k ∧ k ≤ s.log.length ∧ (k ≤ pn ∨ k = 0) ∧ Hid (Rm wr g J (durK s picks k) A c A2 c2 A3 c3) ∧ Hid (∀ b, J b → I b ∨ w.heap.size ≤ b) ∧ Hid (Turn (fun b => b = g) w wr)) (fun u _ => s.log.length - (intOf u).toNat)
  case atStart => exact ⟨0, I, A1, c1, rfl, Nat.zero_le _, .inr rfl, hid (by unfold durK; rw [kept_zero, List.append_nil]; exact H.out), hid fun b e => .inl e, hid (Turn.refl _ _)⟩
  case round =>
    obtain ⟨k, J, A, c, rfl, hk, hkp, hR, hJ, hT⟩ := hrel
    have p2 : wr.cell? ⟨g, 2, none⟩ = some (.slice A2 s.log.length c2) := hR.out.blk.cell 2
    by_cases hgo : k < s.log.length ∧ k < pn
    · obtain ⟨hk1, hk2⟩ := hgo
      have t1 : (k : Int) < (s.log.length : Int) := by omega
      have t2 : (k : Int) < (pn : Int) := by omega
      have AP := HP.out.turn hT.out HNE.out
      obtain ⟨b, o, rfl, hbl, hr⟩ := AP.byt (by rw [AP.len]; omega)
      obtain ⟨x, hx⟩ : ∃ x, x = picks.getD k 0 := ⟨_, rfl⟩
      have q1 : wr.cell? ⟨b, o + k, none⟩ = some (.int .u8 (x : Nat)) := by rw [hx]; exact hr k (by rw [AP.len]; exact hk2)
      obtain ⟨p, hpk⟩ : ∃ p, s.log[k]? = some p := ⟨_, List.getElem?_eq_getElem hk1⟩
      have HX := hid hx
      have HPK := hid hpk
      clear AP hr hx hpk hkp
      by_cases hx0 : x = 0
      · subst hx0
        go_wp2_with fail
        go_roundw
        case rel => exact ⟨k + 1, J, A, c, by go_num, by omega, .inl (by omega), hid (by unfold durK; rw [kept_skip HX.out.symm]; exact hR.out), hJ, hT⟩
        case measure => simp [intOf] <;> omega
      · have tx : ((x : Int) != 0) = true := by simp; omega
        have tw : IntKind.i64.wrap ((k : Int) + 1) = ((k + 1 : Nat) : Int) := (IntWalk.i64_in _ (by omega)).trans (by omega)
        obtain ⟨d, hd⟩ : ∃ d, d = (durK s picks k).dur := ⟨_, rfl⟩
        have HD := hid hd
        have hdl := hid (show d.length + 1 ≤ 1000000 by rw [hd]; unfold durK; rw [List.length_append]; have := kept_length s.log picks k; have := HS.out; omega)
        have hnx := hid (show (durK s picks (k + 1)).dur = d ++ [p] by rw [hd]; unfold durK; rw [kept_pick HPK.out (by rw [← HX.out]; exact hx0), List.append_assoc])
        have p1 : wr.cell? ⟨g, 1, none⟩ = some (.slice A d.length c) := by rw [hd]; exact hR.out.blk.cell 1
        have hpe := hid (show (s.log.drop k).take (k + 1 - k) = [p] by
          rw [show k + 1 - k = 1 by omega, List.drop_eq_getElem_cons hk1, List.take_succ_cons, List.take_zero]
          have := HPK.out
          rw [List.getElem?_eq_getElem hk1] at this
          rw [Option.some.inj this])
        clear hd
        go_upto_region 4 with fail
        refine wp_region_y [some (.pointer (some ⟨g, 0, none⟩)), some (.pointer (some ⟨g, 0, none⟩)), some (.pointer (some ⟨g, 0, none⟩)), some (.pointer (some ⟨g, 1, none⟩)), some (.slice A d.length c), some (.pointer (some ⟨g, 0, none⟩)), some (.pointer (some ⟨g, 0, none⟩)), some (.pointer (some ⟨g, 2, none⟩)), some (.slice A2 s.log.length c2), some (.int .i64 k), some (.int .i64 k), some (.int .i64 ((k + 1 : Nat) : Int)), none, none, some (.pointer (some ⟨g, 0, none⟩)), some (.pointer (some ⟨g, 1, none⟩))]
          [(12, spX 65 atL J [p]), (13, spX 65 atL (fun b => wr.heap.size ≤ b) (d ++ [p]))] (fun y hy => by simp only [List.mem_cons, List.not_mem_nil, or_false] at hy; rcases hy with rfl | rfl <;> exact spX_ok _ _ _ _) 16 (by kernel_rfl) (by kernel_rfl) (by kernel_rfl) fun vs => ?_
        simp only [List.take_succ_cons, List.take_zero, List.drop_succ_cons, List.drop_zero]
        refine ⟨.inl ⟨rfl, fun dd w' hd hC hDs => ?_⟩, fun e => ?_⟩
        · go_simp
          first | exact ⟨rfl, hC, Below.refl _ _, trivial⟩ | exact ⟨rfl, Below.refl _ _, trivial⟩ | exact ⟨hC, Below.refl _ _, trivial⟩
        have e' : vs 0 = _ := e
        rw [e']
        clear e e'
        simp only [Act.put, List.setIfInBounds_toArray, List.set_cons_succ, List.set_cons_zero]
        refine ⟨.inl ⟨rfl, fun dd w' hd hC hDs => ?_⟩, fun e => ?_⟩
        · go_simp
          first | exact ⟨rfl, hC, Below.refl _ _, trivial⟩ | exact ⟨rfl, Below.refl _ _, trivial⟩ | exact ⟨hC, Below.refl _ _, trivial⟩
        have e' : vs 1 = _ := e
        rw [e']
        clear e e'
        simp only [Act.put, List.setIfInBounds_toArray, List.set_cons_succ, List.set_cons_zero]
        refine ⟨.inl ⟨rfl, fun dd w' hd hC hDs => ?_⟩, fun e => ?_⟩
        · go_simp
          first | exact ⟨rfl, hC, Below.refl _ _, trivial⟩ | exact ⟨rfl, Below.refl _ _, trivial⟩ | exact ⟨hC, Below.refl _ _, trivial⟩
        have e' : vs 2 = _ := e
        rw [e']
        clear e e'
        simp only [Act.put, List.setIfInBounds_toArray, List.set_cons_succ, List.set_cons_zero]
        refine ⟨.inl ⟨rfl, fun dd w' hd hC hDs => ?_⟩, fun e => ?_⟩
        · go_simp
          first | exact ⟨rfl, hC, Below.refl _ _, trivial⟩ | exact ⟨rfl, Below.refl _ _, trivial⟩ | exact ⟨hC, Below.refl _ _, trivial⟩
        have e' : vs 3 = _ := e
        rw [e']
        clear e e'
        simp only [Act.put, List.setIfInBounds_toArray, List.set_cons_succ, List.set_cons_zero]
        refine ⟨.inl ⟨rfl, fun dd w' hd hC hDs => ?_⟩, fun e => ?_⟩
        · have h1 : w'.cell? ⟨g, 1, none⟩ = some (.slice A d.length c) := by rw [HD.out]; exact (hR.out.below hC (Nat.le_refl _)).blk.cell 1
          go_simp
          first | exact ⟨rfl, hC, Below.refl _ _, trivial⟩ | exact ⟨rfl, Below.refl _ _, trivial⟩ | exact ⟨hC, Below.refl _ _, trivial⟩
        have e' : vs 4 = _ := e
        rw [e']
        clear e e'
        simp only [Act.put, List.setIfInBounds_toArray, List.set_cons_succ, List.set_cons_zero]
        refine ⟨.inl ⟨rfl, fun dd w' hd hC hDs => ?_⟩, fun e => ?_⟩
        · go_simp
          first | exact ⟨rfl, hC, Below.refl _ _, trivial⟩ | exact ⟨rfl, Below.refl _ _, trivial⟩ | exact ⟨hC, Below.refl _ _, trivial⟩
        have e' : vs 5 = _ := e
        rw [e']
        clear e e'
        simp only [Act.put, List.setIfInBounds_toArray, List.set_cons_succ, List.set_cons_zero]
        refine ⟨.inl ⟨rfl, fun dd w' hd hC hDs => ?_⟩, fun e => ?_⟩
        · go_simp
          first | exact ⟨rfl, hC, Below.refl _ _, trivial⟩ | exact ⟨rfl, Below.refl _ _, trivial⟩ | exact ⟨hC, Below.refl _ _, trivial⟩
        have e' : vs 6 = _ := e
        rw [e']
        clear e e'
        simp only [Act.put, List.setIfInBounds_toArray, List.set_cons_succ, List.set_cons_zero]
        refine ⟨.inl ⟨rfl, fun dd w' hd hC hDs => ?_⟩, fun e => ?_⟩
        · go_simp
          first | exact ⟨rfl, hC, Below.refl _ _, trivial⟩ | exact ⟨rfl, Below.refl _ _, trivial⟩ | exact ⟨hC, Below.refl _ _, trivial⟩
        have e' : vs 7 = _ := e
        rw [e']
        clear e e'
        simp only [Act.put, List.setIfInBounds_toArray, List.set_cons_succ, List.set_cons_zero]
        refine ⟨.inl ⟨rfl, fun dd w' hd hC hDs => ?_⟩, fun e => ?_⟩
        · have h1 : w'.cell? ⟨g, 2, none⟩ = some (.slice A2 s.log.length c2) := (hR.out.below hC (Nat.le_refl _)).blk.cell 2
          go_simp
          first | exact ⟨rfl, hC, Below.refl _ _, trivial⟩ | exact ⟨rfl, Below.refl _ _, trivial⟩ | exact ⟨hC, Below.refl _ _, trivial⟩
        have e' : vs 8 = _ := e
        rw [e']
        clear e e'
        simp only [Act.put, List.setIfInBounds_toArray, List.set_cons_succ, List.set_cons_zero]
        refine ⟨.inl ⟨rfl, fun dd w' hd hC hDs => ?_⟩, fun e => ?_⟩
        · go_simp
          first | exact ⟨rfl, hC, Below.refl _ _, trivial⟩ | exact ⟨rfl, Below.refl _ _, trivial⟩ | exact ⟨hC, Below.refl _ _, trivial⟩
        have e' : vs 9 = _ := e
        rw [e']
        clear e e'
        simp only [Act.put, List.setIfInBounds_toArray, List.set_cons_succ, List.set_cons_zero]
        refine ⟨.inl ⟨rfl, fun dd w' hd hC hDs => ?_⟩, fun e => ?_⟩
        · go_simp
          first | exact ⟨rfl, hC, Below.refl _ _, trivial⟩ | exact ⟨rfl, Below.refl _ _, trivial⟩ | exact ⟨hC, Below.refl _ _, trivial⟩
        have e' : vs 10 = _ := e
        rw [e']
        clear e e'
        simp only [Act.put, List.setIfInBounds_toArray, List.set_cons_succ, List.set_cons_zero]
        refine ⟨.inl ⟨rfl, fun dd w' hd hC hDs => ?_⟩, fun e => ?_⟩
        · have h1 : IntKind.i64.wrap ((k : Int) + 1) = ((k + 1 : Nat) : Int) := tw
          go_simp
          first | exact ⟨rfl, hC, Below.refl _ _, trivial⟩ | exact ⟨rfl, Below.refl _ _, trivial⟩ | exact ⟨hC, Below.refl _ _, trivial⟩
        have e' : vs 11 = _ := e
        rw [e']
        clear e e'
        simp only [Act.put, List.setIfInBounds_toArray, List.set_cons_succ, List.set_cons_zero]
        refine ⟨.inl ⟨rfl, fun dd w' hd hC hDs => ?_⟩, fun e => ?_⟩
        · refine gE_slX eltAt undAt elemAt rfl rfl rfl (hR.out.below hC (Nat.le_refl _)).log (by omega) (by show k + 1 ≤ s.log.length; omega) fun A' ha => ?_
          rw [show (durK s picks k).log = s.log from rfl, hpe.out, show k + 1 - k = 1 by omega] at ha
          rw [show k + 1 - k = 1 by omega]
          exact ⟨⟨A', _, rfl⟩, hC, Below.refl _ _, yD_some rfl ⟨A', _, rfl, ha⟩⟩
        obtain ⟨A8, c8, e'⟩ : ∃ (A : Option Addr) (c : Nat), vs 12 = .slice A 1 c := e
        rw [e']
        have E8 := hid e'
        clear e'
        simp only [Act.put, List.setIfInBounds_toArray, List.set_cons_succ, List.set_cons_zero]
        refine ⟨.inl ⟨rfl, fun dd w' hd hC hDs => ?_⟩, fun e => ?_⟩
        · obtain ⟨A', c', f, sl⟩ := hDs 12 (by kernel_rfl)
          rw [E8.out] at f
          cases f
          go_simp
          have hdur := (hR.out.below hC (Nat.le_refl _)).dur
          rw [← HD.out] at hdur
          refine (joined_any J J A A8 d [p] _ 1 c c8 (by have := hdl.out; omega) w' hdur sl).mono ?_
          rintro e w3 ⟨v, rfl, o3, h3⟩
          obtain ⟨A', c', rfl, s3⟩ := o3.sli atL_len
          exact ⟨_, rfl, ⟨A', c', rfl⟩, hC.trans (h3.mono hC.size), h3, yD_some rfl ⟨A', c', rfl, s3.mono fun b hb => Nat.le_trans hC.size hb⟩⟩
        obtain ⟨A9, c9, e'⟩ : ∃ (A : Option Addr) (c : Nat), vs 13 = .slice A (d ++ [p]).length c := e
        rw [e']
        have E9 := hid e'
        clear e'
        simp only [Act.put, List.setIfInBounds_toArray, List.set_cons_succ, List.set_cons_zero]
        refine ⟨.inl ⟨rfl, fun dd w' hd hC hDs => ?_⟩, fun e => ?_⟩
        · go_simp
          first | exact ⟨rfl, hC, Below.refl _ _, trivial⟩ | exact ⟨rfl, Below.refl _ _, trivial⟩ | exact ⟨hC, Below.refl _ _, trivial⟩
        have e' : vs 14 = _ := e
        rw [e']
        clear e e'
        simp only [Act.put, List.setIfInBounds_toArray, List.set_cons_succ, List.set_cons_zero]
        refine ⟨.inl ⟨rfl, fun dd w' hd hC hDs => ?_⟩, fun e => ?_⟩
        · go_simp
          first | exact ⟨rfl, hC, Below.refl _ _, trivial⟩ | exact ⟨rfl, Below.refl _ _, trivial⟩ | exact ⟨hC, Below.refl _ _, trivial⟩
        have e' : vs 15 = _ := e
        rw [e']
        clear e e'
        simp only [Act.put, List.setIfInBounds_toArray, List.set_cons_succ, List.set_cons_zero]
        intro dd w3 hall hC3 hDs
        obtain ⟨A', c', f, sl⟩ := hDs 13 (by omega)
        rw [E9.out] at f
        cases f
        have B3 := hid hC3
        have hgr := hR.out.blk.lt
        have H3 := hR.out.below hC3 (Nat.le_refl _)
        have SL := hid (sl.bound.mono (T := nw J wr.heap.size w3) fun b hb => .inr hb)
        have p3 : w3.cell? ⟨g, 1, none⟩ = some (.slice A d.length c) := by rw [HD.out]; exact H3.blk.cell 1
        have fz := H3.blk.frozen 1
        have H4 := hid (H3.nw (B := wr.heap.size) hgr)
        have hwr := hid hT.out.size
        have hTT := hid (hT.out.trans (Turn.of_new (S := fun b => b = g) B3.out) fun _ h => .inl h)
        clear hR hT hall hC3 hDs sl H3 E8 E9 p1 q1 p2 hgr
        go_wp2_with fail
        have H5 := H4.out.setDur SL.out
        have T5 := hid (hTT.out.trans (tgt (w := w3) (g := g) (j := 1) (v := .slice A9 (d ++ [p]).length c9)) fun _ h => .inl h)
        simp only [List.length_append, List.length_cons, List.length_nil, Nat.zero_add] at H5 T5
        go_roundw
        case rel =>
          refine ⟨k + 1, nw J wr.heap.size w3, A9, c9, by go_num, by omega, .inl (by omega), hid ?_, hid ?_, T5⟩
          · have e : durK s picks (k + 1) = { durK s picks k with dur := d ++ [p] } := by
              show { s with dur := (durK s picks (k + 1)).dur } = _
              rw [hnx.out]; rfl
            rw [e]; exact H5
          · intro b hb
            rcases hb with hb | hb
            · exact hJ.out b hb
            · exact .inr (Nat.le_trans hwr.out hb.1)
        case measure => simp [intOf] <;> omega
    · have hkk : kept s.log picks = keptN s.log picks k := by
        unfold kept
        by_cases h1 : k < s.log.length
        · exact kept_stop (by rw [HP.out.len]; omega) (by omega)
        · rw [show k = s.log.length by omega]
      have HKK := hid hkk
      have f2 := hR.out.blk.frozen 2
      have hfin := hid (show Rm (wr.setCell ⟨g, 2, none⟩ (.slice none 0 0)) g J (crashL s picks) A c .none 0 A3 c3 by
        have h5 := hR.out.setLog (l := []) (Sli.nil _ _ _ _)
        have e : crashL s picks = { durK s picks k with log := [] } := by unfold crashL durK; rw [HKK.out]
        rw [e]; exact h5)
      have hend := hid (show RMo w g I (crashL s picks) (wr.setCell ⟨g, 2, none⟩ (.slice none 0 0)) from ⟨J, ⟨_, _, _, _, _, _, hfin.out⟩, hJ.out, hT.out.trans tgt fun _ h => .inl h⟩)
      clear hfin hR hJ hT hkk
      by_cases h1 : k < s.log.length
      · have t1 : (k : Int) < (s.log.length : Int) := by omega
        have t2 : decide (k < pn) = false := by simp; omega
        have t3 : ¬ k < pn := by omega
        clear hgo
        go_wp2_with fail
        refine bodyPost_end (results_none rfl _ _ _) rfl ?_
        exact ⟨rfl, hend.out⟩
      · have t1 : decide ((k : Int) < (s.log.length : Int)) = false := by simp; omega
        clear hgo
        go_wp2_with fail
        refine bodyPost_end (results_none rfl _ _ _) rfl ?_
        exact ⟨rfl, hend.out⟩
end MbP
end Go.Proofs.YthogklchmhjjkaaGreat
set_option maxRecDepth 100000
namespace Go.Proofs.YthogklchmhjjkaaGreat
open Go.ChangeShapes Go.WideShapes Go.ChangeAt Go.RowKit
attribute [local go_sem] Gives GivesE
namespace MbP
open MbM
/-- What of a list is not of sector i. -/
def oth (l : List Pt) (i : Int) : List Pt := l.filter fun p => decide (p.i ≠ i)
theorem oth_step {l : List Pt} {k : Nat} {p : Pt} (h : l[k]? = some p) (i : Int) : oth (l.take (k + 1)) i = oth (l.take k) i ++ (if p.i = i then [] else [p]) := by
  unfold oth
  rw [List.take_add_one, h, List.filter_append]
  congr 1
  by_cases e : p.i = i <;> simp [e]
theorem oth_length (l : List Pt) (i : Int) (k : Nat) : (oth (l.take k) i).length ≤ k := by
  unfold oth
  exact Nat.le_trans (List.length_filter_le _ _) (by rw [List.length_take]; omega)
def setL (s : Ls) (i : Int) (x : Nat → Nat) : Ls := if s.may i then { s with dur := s.dur ++ [⟨i, x⟩], log := oth s.log i, hurt := true } else s
theorem tAt (p : Pt) : RowT 142 (atL p).toArray.size := by
  rw [List.size_toArray, atL_len]
  exact ⟨by kernel_rfl, _, Tryz.underlying142, rfl⟩
set_option maxHeartbeats 800000 in
set_option maxRecDepth 100000 in
theorem set_any (g : Nat) (I : Nat → Prop) (s : Ls) (i : Int) (x : Nat → Nat) (hs : s.dur.length + s.log.length ≤ 400000) (w : World) (h : RM w g I s) :
    Calls Tryz.prog 74 #[.pointer (some ⟨g, 0, none⟩), .int .i64 i, .agg (ar 64 x)] w fun e w' => e = .returned (.int .i64 (lookE s i)) ∧ RMo w g I (setL s i x) w' := by
  have HR := hid h
  obtain ⟨A1, c1, A2, c2, A3, c3, h⟩ := h
  have H := hid h
  have hgl := h.blk.lt
  clear h
  obtain ⟨q, hq⟩ : ∃ q, q = s.may i := ⟨_, rfl⟩
  unfold setL lookE
  rw [← hq]
  have HQ := hid (show decide (0 ≤ i ∧ i < s.n) = q from hq.symm)
  have HS := hid hs
  have hl6 : s.log.length ≤ 400000 := by omega
  clear hq hs
  go_enter Tryz.func74, Tryz.ntmps74
  go_upto_region 1 with fail
  generalize hw1 : World.alloc w _ = w1
  have b1 := hid (show Blk w1 w.heap.size 43 (ar 64 x) by rw [← hw1]; exact Blk.new _ _ _)
  have BEL := hid (show Below w.heap.size w w1 by rw [← hw1]; exact (Below.refl _ _).alloc (Nat.le_refl _) _)
  have H1 := hid (H.out.below BEL.out (Nat.le_refl _))
  clear hw1 H
  go_wp2_with fail
  refine (may_any g I s A1 c1 A2 c2 A3 c3 i q HQ.out w1 H1.out).mono ?_
  rintro e w' ⟨rfl, rfl⟩
  cases q with
  | false =>
    go_wp2_with fail
    go_ret
    exact ⟨rfl, RMo.same HR.out BEL.out⟩
  | true =>
    go_wp2_with fail
    go_loopw [7, 8] (fun u v wr => ∃ (k : Nat) (vo : Value), u = vo ∧ v = .int .i64 k ∧ k ≤ s.log.length ∧ Hid (OwnP' wr w1.heap.size vo (oth (s.log.take k) i)) ∧ Hid (Below w1.heap.size w1 wr)) (fun _ v _ => s.log.length - (intOf v).toNat)
    case atStart => exact ⟨0, _, rfl, rfl, Nat.zero_le _, hid (by rw [List.take_zero]; exact OwnX.nil _ _ _ _ _), hid (Below.refl _ _)⟩
    case round =>
      obtain ⟨k, vo, rfl, rfl, hk, hO, hB⟩ := hrel
      have H2 := hid (H1.out.below hB.out (Nat.le_refl _))
      have p2 : wr.cell? ⟨g, 2, none⟩ = some (.slice A2 s.log.length c2) := H2.out.blk.cell 2
      by_cases hgo : k < s.log.length
      · have t1 : (k : Int) < (s.log.length : Int) := by omega
        obtain ⟨p, hp⟩ : ∃ p, s.log[k]? = some p := ⟨_, List.getElem?_eq_getElem hgo⟩
        obtain ⟨b, o, rfl, hIb, hbl, hr⟩ := H2.out.log.some hp
        have q0 : wr.cell? ⟨b, o + k * 65, none⟩ = some (.int .i64 p.i) := at_i hr
        have HRg := hid hr
        have hst := oth_step hp i
        clear hr hp hIb
        by_cases he : p.i = i
        · rw [if_pos he, List.append_nil] at hst
          have te : (p.i != i) = false := by simp [he]
          have HST := hid hst
          clear hst he
          go_wp2_with fail
          go_roundw
          case rel => exact ⟨k + 1, _, rfl, by go_num, by omega, hid (by rw [HST.out]; exact hO.out), hB⟩
          case measure => simp [intOf] <;> omega
        · rw [if_neg he] at hst
          have te : (p.i != i) = true := by simp [he]
          have HST := hid hst
          have hlen := hid (show (oth (s.log.take k) i).length + 1 ≤ 1000000 by have := oth_length s.log i k; have := HS.out; omega)
          clear hst he
          have hz := hB.out.size
          go_wp2_with (first
            | ((with_reducible apply ldR (cs := (atL p).toArray) (tAt p)); rfl; exact HRg.out)
            | ((with_reducible apply wlit1 eltAt undAt (x := p)); omega; rfl; rfl)
            | (at_builtin; (with_reducible apply wappX eltAt undAt (B := w1.heap.size) (m := [p]) (S := fun _ => True)); rfl; rfl; exact hO.out.below ((Below.refl _ _).alloc (Nat.le_refl _) _) (Nat.le_refl _); exact sli_lit1 eltAt p wr trivial; exact hlen.out; omega; (simp; omega); intro v2 w2 o2 g2))
          have h2 : Below w1.heap.size w1 w2 := (hB.out.alloc hz _).trans ((Turn.of_grown (S := fun b => w1.heap.size ≤ b) g2 (fun b e => (hO.out.own b e).1)).below (by simp; omega) fun _ h => h)
          go_roundw
          case rel => exact ⟨k + 1, v2, rfl, by go_num, by omega, hid (by rw [HST.out]; exact o2), hid h2⟩
          case measure => simp [intOf] <;> omega
      · have hfull : oth (s.log.take k) i = oth s.log i := by rw [List.take_of_length_le (by omega)]
        have t1 : decide ((k : Int) < (s.log.length : Int)) = false := by simp; omega
        have t2 : ¬ k < s.log.length := hgo
        clear hgo
        rw [hfull] at hO
        obtain ⟨A7, c7, hvo, sl7⟩ := hO.out.sli atL_len
        subst hvo
        obtain ⟨L, hL⟩ : ∃ L, L = oth s.log i := ⟨_, rfl⟩
        rw [← hL] at sl7 ⊢
        have HLL := hid hL
        have BW := hid (BEL.out.trans (hB.out.mono BEL.out.size))
        have SL7 := hid ((sl7.mono (T := fun b => w.heap.size ≤ b) fun b hb => Nat.le_trans BEL.out.size hb).bound.mono (T := nw I w.heap.size wr) fun b hb => .inr hb)
        have H4 := hid (H2.out.nw (B := w.heap.size) hgl)
        have bb := hid (b1.out.below hB.out b1.out.lt)
        have fz := H2.out.blk.frozen 2
        clear hfull hO hL sl7 H1 H2 BEL hB b1
        go_upto_region 10 with fail
        have H5 := H4.out.setLog SL7.out
        have T5 := hid (tgt (w := wr) (g := g) (j := 2) (v := .slice A7 L.length c7))
        have hbg : w.heap.size ≠ g := by omega
        have b5 := hid (bb.out.turn T5.out (fun e => hbg e))
        generalize wr.setCell ⟨g, 2, none⟩ (.slice A7 L.length c7) = w5 at H5 T5 b5 ⊢
        have HZ := hid H5
        clear H5 H4 SL7 bb fz p2 t1 t2
        refine wp_region_y [some (.pointer (some ⟨g, 0, none⟩)), some (.pointer (some ⟨g, 0, none⟩)), some (.pointer (some ⟨g, 0, none⟩)), some (.pointer (some ⟨g, 1, none⟩)), some (.slice A1 s.dur.length c1), some (.int .i64 i), some (.agg (ar 64 x)), some (.agg (atL ⟨i, x⟩).toArray), none, none, some (.pointer (some ⟨g, 0, none⟩)), some (.pointer (some ⟨g, 1, none⟩))]
          [(8, spX 65 atL (fun _ => True) [⟨i, x⟩]), (9, spX 65 atL (fun b => w5.heap.size ≤ b) (s.dur ++ [⟨i, x⟩]))] (fun y hy => by simp only [List.mem_cons, List.not_mem_nil, or_false] at hy; rcases hy with rfl | rfl <;> exact spX_ok _ _ _ _) 12 (by kernel_rfl) (by kernel_rfl) (by kernel_rfl) fun vs => ?_
        simp only [List.take_succ_cons, List.take_zero, List.drop_succ_cons, List.drop_zero]
        refine ⟨.inl ⟨rfl, fun dd w' hd hC hDs => ?_⟩, fun e => ?_⟩
        · go_simp
          first | exact ⟨rfl, hC, Below.refl _ _, trivial⟩ | exact ⟨rfl, Below.refl _ _, trivial⟩ | exact ⟨hC, Below.refl _ _, trivial⟩
        have e' : vs 0 = _ := e
        rw [e']
        clear e e'
        simp only [Act.put, List.setIfInBounds_toArray, List.set_cons_succ, List.set_cons_zero]
        refine ⟨.inl ⟨rfl, fun dd w' hd hC hDs => ?_⟩, fun e => ?_⟩
        · go_simp
          first | exact ⟨rfl, hC, Below.refl _ _, trivial⟩ | exact ⟨rfl, Below.refl _ _, trivial⟩ | exact ⟨hC, Below.refl _ _, trivial⟩
        have e' : vs 1 = _ := e
        rw [e']
        clear e e'
        simp only [Act.put, List.setIfInBounds_toArray, List.set_cons_succ, List.set_cons_zero]
        refine ⟨.inl ⟨rfl, fun dd w' hd hC hDs => ?_⟩, fun e => ?_⟩
        · go_simp
          first | exact ⟨rfl, hC, Below.refl _ _, trivial⟩ | exact ⟨rfl, Below.refl _ _, trivial⟩ | exact ⟨hC, Below.refl _ _, trivial⟩
        have e' : vs 2 = _ := e
        rw [e']
        clear e e'
        simp only [Act.put, List.setIfInBounds_toArray, List.set_cons_succ, List.set_cons_zero]
        refine ⟨.inl ⟨rfl, fun dd w' hd hC hDs => ?_⟩, fun e => ?_⟩
        · go_simp
          first | exact ⟨rfl, hC, Below.refl _ _, trivial⟩ | exact ⟨rfl, Below.refl _ _, trivial⟩ | exact ⟨hC, Below.refl _ _, trivial⟩
        have e' : vs 3 = _ := e
        rw [e']
        clear e e'
        simp only [Act.put, List.setIfInBounds_toArray, List.set_cons_succ, List.set_cons_zero]
        refine ⟨.inl ⟨rfl, fun dd w' hd hC hDs => ?_⟩, fun e => ?_⟩
        · have h1 : w'.cell? ⟨g, 1, none⟩ = some (.slice A1 s.dur.length c1) := (HZ.out.below hC (Nat.le_refl _)).blk.cell 1
          go_simp
          first | exact ⟨rfl, hC, Below.refl _ _, trivial⟩ | exact ⟨rfl, Below.refl _ _, trivial⟩ | exact ⟨hC, Below.refl _ _, trivial⟩
        have e' : vs 4 = _ := e
        rw [e']
        clear e e'
        simp only [Act.put, List.setIfInBounds_toArray, List.set_cons_succ, List.set_cons_zero]
        refine ⟨.inl ⟨rfl, fun dd w' hd hC hDs => ?_⟩, fun e => ?_⟩
        · go_simp
          first | exact ⟨rfl, hC, Below.refl _ _, trivial⟩ | exact ⟨rfl, Below.refl _ _, trivial⟩ | exact ⟨hC, Below.refl _ _, trivial⟩
        have e' : vs 5 = _ := e
        rw [e']
        clear e e'
        simp only [Act.put, List.setIfInBounds_toArray, List.set_cons_succ, List.set_cons_zero]
        refine ⟨.inl ⟨rfl, fun dd w' hd hC hDs => ?_⟩, fun e => ?_⟩
        · exact gE_ldA tSe rfl (b5.out.below hC b5.out.lt).head ⟨rfl, hC, Below.refl _ _, trivial⟩
        have e' : vs 6 = _ := e
        rw [e']
        clear e e'
        simp only [Act.put, List.setIfInBounds_toArray, List.set_cons_succ, List.set_cons_zero]
        refine ⟨.inl ⟨rfl, fun dd w' hd hC hDs => ?_⟩, fun e => ?_⟩
        · exact gE_at rfl rfl ⟨rfl, hC, Below.refl _ _, trivial⟩
        have e' : vs 7 = _ := e
        rw [e']
        clear e e'
        simp only [Act.put, List.setIfInBounds_toArray, List.set_cons_succ, List.set_cons_zero]
        refine ⟨.inl ⟨rfl, fun dd w' hd hC hDs => ?_⟩, fun e => ?_⟩
        · have ha := (Below.refl w'.heap.size w').alloc (Nat.le_refl _) (.cells (atL ⟨i, x⟩).toArray 142)
          exact gE_lit1 (x := (⟨i, x⟩ : Pt)) eltAt undAt (by omega) rfl rfl ⟨⟨_, _, rfl⟩, hC.trans (ha.mono hC.size), ha, yD_some rfl ⟨_, _, rfl, sli_lit1 eltAt (⟨i, x⟩ : Pt) w' trivial⟩⟩
        obtain ⟨A8, c8, e'⟩ : ∃ (A : Option Addr) (c : Nat), vs 8 = .slice A 1 c := e
        rw [e']
        have E8 := hid e'
        clear e'
        simp only [Act.put, List.setIfInBounds_toArray, List.set_cons_succ, List.set_cons_zero]
        refine ⟨.inl ⟨rfl, fun dd w' hd hC hDs => ?_⟩, fun e => ?_⟩
        · obtain ⟨A', c', f, sl⟩ := hDs 8 (by kernel_rfl)
          rw [E8.out] at f
          cases f
          go_simp
          refine (joined_any (nw I w.heap.size wr) (fun _ => True) A1 A8 s.dur [⟨i, x⟩] s.dur.length 1 c1 c8 (by have := HS.out; omega) w' (HZ.out.below hC (Nat.le_refl _)).dur sl).mono ?_
          rintro e w3 ⟨v, rfl, o3, h3⟩
          obtain ⟨A, c, rfl, s3⟩ := o3.sli atL_len
          exact ⟨_, rfl, ⟨A, c, rfl⟩, hC.trans (h3.mono hC.size), h3, yD_some rfl ⟨A, c, rfl, s3.mono fun b hb => Nat.le_trans hC.size hb⟩⟩
        obtain ⟨A9, c9, e'⟩ : ∃ (A : Option Addr) (c : Nat), vs 9 = .slice A (s.dur ++ [(⟨i, x⟩ : Pt)]).length c := e
        rw [e']
        have E9 := hid e'
        clear e'
        simp only [Act.put, List.setIfInBounds_toArray, List.set_cons_succ, List.set_cons_zero]
        refine ⟨.inl ⟨rfl, fun dd w' hd hC hDs => ?_⟩, fun e => ?_⟩
        · go_simp
          first | exact ⟨rfl, hC, Below.refl _ _, trivial⟩ | exact ⟨rfl, Below.refl _ _, trivial⟩ | exact ⟨hC, Below.refl _ _, trivial⟩
        have e' : vs 10 = _ := e
        rw [e']
        clear e e'
        simp only [Act.put, List.setIfInBounds_toArray, List.set_cons_succ, List.set_cons_zero]
        refine ⟨.inl ⟨rfl, fun dd w' hd hC hDs => ?_⟩, fun e => ?_⟩
        · go_simp
          first | exact ⟨rfl, hC, Below.refl _ _, trivial⟩ | exact ⟨rfl, Below.refl _ _, trivial⟩ | exact ⟨hC, Below.refl _ _, trivial⟩
        have e' : vs 11 = _ := e
        rw [e']
        clear e e'
        simp only [Act.put, List.setIfInBounds_toArray, List.set_cons_succ, List.set_cons_zero]
        intro dd w6 hall hC6 hDs
        obtain ⟨A', c', f, sl⟩ := hDs 9 (by omega)
        rw [E9.out] at f
        cases f
        have hg5 := HZ.out.blk.lt
        have H6 := HZ.out.below hC6 (Nat.le_refl _)
        have SL := hid (sl.bound.mono (T := nw (nw I w.heap.size wr) w5.heap.size w6) fun b hb => .inr hb)
        have p6 : w6.cell? ⟨g, 1, none⟩ = some (.slice A1 s.dur.length c1) := H6.blk.cell 1
        have f6 := H6.blk.frozen 1
        have HY := hid (H6.nw (B := w5.heap.size) hg5)
        have T6 := hid (T5.out.trans (Turn.of_new (S := fun b => b = g) hC6) fun _ h => .inl h)
        have hs5 := hid (show w.heap.size ≤ w5.heap.size from Nat.le_trans BW.out.size T5.out.size)
        clear hall hC6 hDs sl H6 E8 E9 b5 HZ T5 hg5
        go_upto_region 11 with fail
        have H7 := HY.out.setDur SL.out
        have T7 := hid (T6.out.trans (tgt (w := w6) (g := g) (j := 1) (v := .slice A9 (s.dur ++ [(⟨i, x⟩ : Pt)]).length c9)) fun _ h => .inl h)
        simp only [List.length_append, List.length_cons, List.length_nil, Nat.zero_add] at H7 T7
        generalize w6.setCell ⟨g, 1, none⟩ _ = w7 at H7 T7 ⊢
        have HX := hid H7
        have p7 : w7.cell? ⟨g, 5, none⟩ = some (.bool s.hurt) := H7.blk.cell 5
        have f7 := H7.blk.frozen 5
        clear H7 HY SL T6 p6 f6
        go_wp2_with fail
        go_ret
        have hfin := HX.out.setHurt true
        rw [HLL.out] at hfin
        refine ⟨rfl, nw (nw I w.heap.size wr) w5.heap.size w6, ⟨_, _, _, _, _, _, hfin⟩, fun b hb => ?_, ((Turn.of_new (S := fun b => b = g) BW.out).trans T7.out (fun k h => Or.inl h)).trans tgt (fun k h => Or.inl h)⟩
        rcases hb with hb | hb
        · exact hb.imp id And.left
        · exact .inr (Nat.le_trans hs5.out hb.1)
end MbP
end Go.Proofs.YthogklchmhjjkaaGreat
set_option maxRecDepth 100000
namespace Go.Proofs.YthogklchmhjjkaaGreat
open Go.ChangeShapes Go.WideShapes Go.ChangeAt Go.RowKit
attribute [local go_sem] Gives GivesE
namespace MbP
open MbM
theorem undSl : Tryz.prog.underlying 98 = some (.slice 97) := Tryz.underlying98
def markL (s : Ls) : Ls := if 64 ≤ s.marks.length then s else { s with marks := s.marks ++ [s.dur ++ s.log] }
def markE (s : Ls) : Int := if 64 ≤ s.marks.length then 7 else 0
def markN (s : Ls) : Int := if 64 ≤ s.marks.length then 0 else s.marks.length
/-- A slice of slices, the last of which is a list d. -/
def spM (S : Nat → Prop) (xs : List SlE) (d : List Pt) : Sp := ⟨fun v => ∃ (A : Option Addr) (c : Nat), v = .slice A (xs.length + 1) c,
  fun v w => ∃ (A : Option Addr) (c : Nat), v = .slice A (xs.length + 1) c ∧ ∃ (A' : Option Addr) (c' : Nat), Sli 1 slE S w A (xs ++ [(A', d.length, c')]) (xs.length + 1) c ∧ Sli 65 atL S w A' d d.length c', .slice none (xs.length + 1) 0⟩
theorem spM_ok (S : Nat → Prop) (xs : List SlE) (d : List Pt) : (spM S xs d).ok := ⟨⟨none, 0, rfl⟩, fun v w1 w2 ⟨A, c, h1, A', c', h2, h3⟩ hb => ⟨A, c, h1, A', c', h2.turn (Turn.of_new (S := fun _ => False) hb) fun _ _ _ e => e, h3.turn (Turn.of_new (S := fun _ => False) hb) fun _ _ _ e => e⟩⟩
theorem Rm.setMarks {w : World} {g : Nat} {I : Nat → Prop} {s : Ls} {A1 A2 A3 A : Option Addr} {c1 c2 c3 c : Nat} {ms : List (List Pt)} (h : Rm w g I s A1 c1 A2 c2 A3 c3)
    (hm : ∃ xs : List SlE, Sli 1 slE I w A xs ms.length c ∧ ∀ (i : Nat) (l : List Pt), ms[i]? = some l → ∃ A c, xs[i]? = some (A, l.length, c) ∧ Sli 65 atL I w A l l.length c) :
    Rm (w.setCell ⟨g, 3, none⟩ (.slice A ms.length c)) g I { s with marks := ms } A1 c1 A2 c2 A c := h.keep rfl h.dur h.log hm
set_option maxHeartbeats 800000 in
set_option maxRecDepth 100000 in
theorem mark_any (g : Nat) (I : Nat → Prop) (s : Ls) (hs : s.dur.length + s.log.length ≤ 400000) (w : World) (h : RM w g I s) :
    Calls Tryz.prog 75 #[.pointer (some ⟨g, 0, none⟩)] w fun e w' => e = .returned (.tuple #[.int .i64 (markN s), .int .i64 (markE s)]) ∧ RMo w g I (markL s) w' := by
  have HR := hid h
  obtain ⟨A1, c1, A2, c2, A3, c3, h⟩ := h
  have H1 := hid h
  have hgl := h.blk.lt
  have HS := hid hs
  have p3 : w.cell? ⟨g, 3, none⟩ = some (.slice A3 s.marks.length c3) := h.blk.cell 3
  clear h hs
  unfold markL markE markN
  by_cases hm : 64 ≤ s.marks.length
  · rw [if_pos hm, if_pos hm, if_pos hm]
    have t1 : (64 : Int) ≤ (s.marks.length : Int) := by omega
    clear hm
    go_enter Tryz.func75, Tryz.ntmps75
    go_wp2_with fail
    refine bodyPost_ret (results_tmp2 rfl _ _ _) rfl ?_
    exact ⟨rfl, RMo.same HR.out (Below.refl _ _)⟩
  · rw [if_neg hm, if_neg hm, if_neg hm]
    have t1 : decide ((64 : Int) ≤ (s.marks.length : Int)) = false := by simp; omega
    obtain ⟨xs, hxs, hxm⟩ := H1.out.marks
    obtain ⟨n, hn⟩ : ∃ n, n = s.marks.length := ⟨_, rfl⟩
    rw [← hn] at hxs p3 t1 hm ⊢
    have hxl : xs.length = n := hxs.len
    have hc3 : n ≤ c3 := hxs.cap
    have hcm : c3 ≤ 9223372036854775807 := by have := hxs.max; unfold maxLen at this; exact this
    have HXS := hid hxs
    have HXM := hid hxm
    have HXL := hid hxl
    have HN := hid hn
    have hm2 : n ≤ 64 := by omega
    clear hxs hxm hxl hn hm
    go_enter Tryz.func75, Tryz.ntmps75
    go_upto_region 3 with fail
    obtain ⟨D, hD⟩ : ∃ D, D = s.dur ++ s.log := ⟨_, rfl⟩
    have HD := hid hD
    clear hD
    refine wp_region_y [some (.pointer (some ⟨g, 0, none⟩)), some (.pointer (some ⟨g, 0, none⟩)), some (.pointer (some ⟨g, 0, none⟩)), some (.pointer (some ⟨g, 3, none⟩)), some (.slice A3 n c3), some (.pointer (some ⟨g, 0, none⟩)), some (.pointer (some ⟨g, 0, none⟩)), some (.pointer (some ⟨g, 3, none⟩)), some (.slice A3 n c3), some (.int .i64 n), some (.pointer (some ⟨g, 0, none⟩)), some (.pointer (some ⟨g, 0, none⟩)), some (.pointer (some ⟨g, 3, none⟩)), some (.slice A3 n c3), some (.int .i64 n), some (.slice A3 n n),
        some (.pointer (some ⟨g, 0, none⟩)), some (.pointer (some ⟨g, 0, none⟩)), some (.pointer (some ⟨g, 1, none⟩)), some (.slice A1 s.dur.length c1), some (.pointer (some ⟨g, 0, none⟩)), some (.pointer (some ⟨g, 0, none⟩)), some (.pointer (some ⟨g, 2, none⟩)), some (.slice A2 s.log.length c2), none, none, none, some (.pointer (some ⟨g, 0, none⟩)), some (.pointer (some ⟨g, 3, none⟩))]
      [(24, spX 65 atL (fun b => w.heap.size ≤ b) D), (25, spM (fun b => w.heap.size ≤ b) [] D), (26, spM (fun b => w.heap.size ≤ b) xs D)] (fun y hy => by simp only [List.mem_cons, List.not_mem_nil, or_false] at hy; rcases hy with rfl | rfl | rfl <;> first | exact spX_ok _ _ _ _ | exact spM_ok _ _ _) 29 (by kernel_rfl) (by kernel_rfl) (by kernel_rfl) fun vs => ?_
    simp only [List.take_succ_cons, List.take_zero, List.drop_succ_cons, List.drop_zero]
    have CM := hid (show ∀ w', Below w.heap.size w w' → w'.cell? ⟨g, 3, none⟩ = some (.slice A3 n c3) from fun w' hC => by rw [HN.out]; exact (H1.out.below hC (Nat.le_refl _)).blk.cell 3)
    refine ⟨.inl ⟨rfl, fun dd w' hd hC hDs => ?_⟩, fun e => ?_⟩
    · go_simp
      first | exact ⟨rfl, hC, Below.refl _ _, trivial⟩ | exact ⟨rfl, Below.refl _ _, trivial⟩ | exact ⟨hC, Below.refl _ _, trivial⟩
    have e' : vs 0 = _ := e
    rw [e']
    clear e e'
    simp only [Act.put, List.setIfInBounds_toArray, List.set_cons_succ, List.set_cons_zero]
    refine ⟨.inl ⟨rfl, fun dd w' hd hC hDs => ?_⟩, fun e => ?_⟩
    · go_simp
      first | exact ⟨rfl, hC, Below.refl _ _, trivial⟩ | exact ⟨rfl, Below.refl _ _, trivial⟩ | exact ⟨hC, Below.refl _ _, trivial⟩
    have e' : vs 1 = _ := e
    rw [e']
    clear e e'
    simp only [Act.put, List.setIfInBounds_toArray, List.set_cons_succ, List.set_cons_zero]
    refine ⟨.inl ⟨rfl, fun dd w' hd hC hDs => ?_⟩, fun e => ?_⟩
    · go_simp
      first | exact ⟨rfl, hC, Below.refl _ _, trivial⟩ | exact ⟨rfl, Below.refl _ _, trivial⟩ | exact ⟨hC, Below.refl _ _, trivial⟩
    have e' : vs 2 = _ := e
    rw [e']
    clear e e'
    simp only [Act.put, List.setIfInBounds_toArray, List.set_cons_succ, List.set_cons_zero]
    refine ⟨.inl ⟨rfl, fun dd w' hd hC hDs => ?_⟩, fun e => ?_⟩
    · go_simp
      first | exact ⟨rfl, hC, Below.refl _ _, trivial⟩ | exact ⟨rfl, Below.refl _ _, trivial⟩ | exact ⟨hC, Below.refl _ _, trivial⟩
    have e' : vs 3 = _ := e
    rw [e']
    clear e e'
    simp only [Act.put, List.setIfInBounds_toArray, List.set_cons_succ, List.set_cons_zero]
    refine ⟨.inl ⟨rfl, fun dd w' hd hC hDs => ?_⟩, fun e => ?_⟩
    · have h1 : w'.cell? ⟨g, 3, none⟩ = some (.slice A3 n c3) := CM.out w' hC
      go_simp
      first | exact ⟨rfl, hC, Below.refl _ _, trivial⟩ | exact ⟨rfl, Below.refl _ _, trivial⟩ | exact ⟨hC, Below.refl _ _, trivial⟩
    have e' : vs 4 = _ := e
    rw [e']
    clear e e'
    simp only [Act.put, List.setIfInBounds_toArray, List.set_cons_succ, List.set_cons_zero]
    refine ⟨.inl ⟨rfl, fun dd w' hd hC hDs => ?_⟩, fun e => ?_⟩
    · go_simp
      first | exact ⟨rfl, hC, Below.refl _ _, trivial⟩ | exact ⟨rfl, Below.refl _ _, trivial⟩ | exact ⟨hC, Below.refl _ _, trivial⟩
    have e' : vs 5 = _ := e
    rw [e']
    clear e e'
    simp only [Act.put, List.setIfInBounds_toArray, List.set_cons_succ, List.set_cons_zero]
    refine ⟨.inl ⟨rfl, fun dd w' hd hC hDs => ?_⟩, fun e => ?_⟩
    · go_simp
      first | exact ⟨rfl, hC, Below.refl _ _, trivial⟩ | exact ⟨rfl, Below.refl _ _, trivial⟩ | exact ⟨hC, Below.refl _ _, trivial⟩
    have e' : vs 6 = _ := e
    rw [e']
    clear e e'
    simp only [Act.put, List.setIfInBounds_toArray, List.set_cons_succ, List.set_cons_zero]
    refine ⟨.inl ⟨rfl, fun dd w' hd hC hDs => ?_⟩, fun e => ?_⟩
    · go_simp
      first | exact ⟨rfl, hC, Below.refl _ _, trivial⟩ | exact ⟨rfl, Below.refl _ _, trivial⟩ | exact ⟨hC, Below.refl _ _, trivial⟩
    have e' : vs 7 = _ := e
    rw [e']
    clear e e'
    simp only [Act.put, List.setIfInBounds_toArray, List.set_cons_succ, List.set_cons_zero]
    refine ⟨.inl ⟨rfl, fun dd w' hd hC hDs => ?_⟩, fun e => ?_⟩
    · have h1 : w'.cell? ⟨g, 3, none⟩ = some (.slice A3 n c3) := CM.out w' hC
      go_simp
      first | exact ⟨rfl, hC, Below.refl _ _, trivial⟩ | exact ⟨rfl, Below.refl _ _, trivial⟩ | exact ⟨hC, Below.refl _ _, trivial⟩
    have e' : vs 8 = _ := e
    rw [e']
    clear e e'
    simp only [Act.put, List.setIfInBounds_toArray, List.set_cons_succ, List.set_cons_zero]
    refine ⟨.inl ⟨rfl, fun dd w' hd hC hDs => ?_⟩, fun e => ?_⟩
    · go_simp
      first | exact ⟨rfl, hC, Below.refl _ _, trivial⟩ | exact ⟨rfl, Below.refl _ _, trivial⟩ | exact ⟨hC, Below.refl _ _, trivial⟩
    have e' : vs 9 = _ := e
    rw [e']
    clear e e'
    simp only [Act.put, List.setIfInBounds_toArray, List.set_cons_succ, List.set_cons_zero]
    refine ⟨.inl ⟨rfl, fun dd w' hd hC hDs => ?_⟩, fun e => ?_⟩
    · go_simp
      first | exact ⟨rfl, hC, Below.refl _ _, trivial⟩ | exact ⟨rfl, Below.refl _ _, trivial⟩ | exact ⟨hC, Below.refl _ _, trivial⟩
    have e' : vs 10 = _ := e
    rw [e']
    clear e e'
    simp only [Act.put, List.setIfInBounds_toArray, List.set_cons_succ, List.set_cons_zero]
    refine ⟨.inl ⟨rfl, fun dd w' hd hC hDs => ?_⟩, fun e => ?_⟩
    · go_simp
      first | exact ⟨rfl, hC, Below.refl _ _, trivial⟩ | exact ⟨rfl, Below.refl _ _, trivial⟩ | exact ⟨hC, Below.refl _ _, trivial⟩
    have e' : vs 11 = _ := e
    rw [e']
    clear e e'
    simp only [Act.put, List.setIfInBounds_toArray, List.set_cons_succ, List.set_cons_zero]
    refine ⟨.inl ⟨rfl, fun dd w' hd hC hDs => ?_⟩, fun e => ?_⟩
    · go_simp
      first | exact ⟨rfl, hC, Below.refl _ _, trivial⟩ | exact ⟨rfl, Below.refl _ _, trivial⟩ | exact ⟨hC, Below.refl _ _, trivial⟩
    have e' : vs 12 = _ := e
    rw [e']
    clear e e'
    simp only [Act.put, List.setIfInBounds_toArray, List.set_cons_succ, List.set_cons_zero]
    refine ⟨.inl ⟨rfl, fun dd w' hd hC hDs => ?_⟩, fun e => ?_⟩
    · have h1 : w'.cell? ⟨g, 3, none⟩ = some (.slice A3 n c3) := CM.out w' hC
      go_simp
      first | exact ⟨rfl, hC, Below.refl _ _, trivial⟩ | exact ⟨rfl, Below.refl _ _, trivial⟩ | exact ⟨hC, Below.refl _ _, trivial⟩
    have e' : vs 13 = _ := e
    rw [e']
    clear e e'
    simp only [Act.put, List.setIfInBounds_toArray, List.set_cons_succ, List.set_cons_zero]
    refine ⟨.inl ⟨rfl, fun dd w' hd hC hDs => ?_⟩, fun e => ?_⟩
    · go_simp
      first | exact ⟨rfl, hC, Below.refl _ _, trivial⟩ | exact ⟨rfl, Below.refl _ _, trivial⟩ | exact ⟨hC, Below.refl _ _, trivial⟩
    have e' : vs 14 = _ := e
    rw [e']
    clear e e'
    simp only [Act.put, List.setIfInBounds_toArray, List.set_cons_succ, List.set_cons_zero]
    refine ⟨.inl ⟨rfl, fun dd w' hd hC hDs => ?_⟩, fun e => ?_⟩
    · have h1 : (n : Int) ≤ (c3 : Int) := by omega
      go_simp
      first | exact ⟨rfl, hC, Below.refl _ _, trivial⟩ | exact ⟨rfl, Below.refl _ _, trivial⟩ | exact ⟨hC, Below.refl _ _, trivial⟩
    have e' : vs 15 = _ := e
    rw [e']
    clear e e'
    simp only [Act.put, List.setIfInBounds_toArray, List.set_cons_succ, List.set_cons_zero]
    refine ⟨.inl ⟨rfl, fun dd w' hd hC hDs => ?_⟩, fun e => ?_⟩
    · go_simp
      first | exact ⟨rfl, hC, Below.refl _ _, trivial⟩ | exact ⟨rfl, Below.refl _ _, trivial⟩ | exact ⟨hC, Below.refl _ _, trivial⟩
    have e' : vs 16 = _ := e
    rw [e']
    clear e e'
    simp only [Act.put, List.setIfInBounds_toArray, List.set_cons_succ, List.set_cons_zero]
    refine ⟨.inl ⟨rfl, fun dd w' hd hC hDs => ?_⟩, fun e => ?_⟩
    · go_simp
      first | exact ⟨rfl, hC, Below.refl _ _, trivial⟩ | exact ⟨rfl, Below.refl _ _, trivial⟩ | exact ⟨hC, Below.refl _ _, trivial⟩
    have e' : vs 17 = _ := e
    rw [e']
    clear e e'
    simp only [Act.put, List.setIfInBounds_toArray, List.set_cons_succ, List.set_cons_zero]
    refine ⟨.inl ⟨rfl, fun dd w' hd hC hDs => ?_⟩, fun e => ?_⟩
    · go_simp
      first | exact ⟨rfl, hC, Below.refl _ _, trivial⟩ | exact ⟨rfl, Below.refl _ _, trivial⟩ | exact ⟨hC, Below.refl _ _, trivial⟩
    have e' : vs 18 = _ := e
    rw [e']
    clear e e'
    simp only [Act.put, List.setIfInBounds_toArray, List.set_cons_succ, List.set_cons_zero]
    refine ⟨.inl ⟨rfl, fun dd w' hd hC hDs => ?_⟩, fun e => ?_⟩
    · have h1 : w'.cell? ⟨g, 1, none⟩ = some (.slice A1 s.dur.length c1) := (H1.out.below hC (Nat.le_refl _)).blk.cell 1
      go_simp
      first | exact ⟨rfl, hC, Below.refl _ _, trivial⟩ | exact ⟨rfl, Below.refl _ _, trivial⟩ | exact ⟨hC, Below.refl _ _, trivial⟩
    have e' : vs 19 = _ := e
    rw [e']
    clear e e'
    simp only [Act.put, List.setIfInBounds_toArray, List.set_cons_succ, List.set_cons_zero]
    refine ⟨.inl ⟨rfl, fun dd w' hd hC hDs => ?_⟩, fun e => ?_⟩
    · go_simp
      first | exact ⟨rfl, hC, Below.refl _ _, trivial⟩ | exact ⟨rfl, Below.refl _ _, trivial⟩ | exact ⟨hC, Below.refl _ _, trivial⟩
    have e' : vs 20 = _ := e
    rw [e']
    clear e e'
    simp only [Act.put, List.setIfInBounds_toArray, List.set_cons_succ, List.set_cons_zero]
    refine ⟨.inl ⟨rfl, fun dd w' hd hC hDs => ?_⟩, fun e => ?_⟩
    · go_simp
      first | exact ⟨rfl, hC, Below.refl _ _, trivial⟩ | exact ⟨rfl, Below.refl _ _, trivial⟩ | exact ⟨hC, Below.refl _ _, trivial⟩
    have e' : vs 21 = _ := e
    rw [e']
    clear e e'
    simp only [Act.put, List.setIfInBounds_toArray, List.set_cons_succ, List.set_cons_zero]
    refine ⟨.inl ⟨rfl, fun dd w' hd hC hDs => ?_⟩, fun e => ?_⟩
    · go_simp
      first | exact ⟨rfl, hC, Below.refl _ _, trivial⟩ | exact ⟨rfl, Below.refl _ _, trivial⟩ | exact ⟨hC, Below.refl _ _, trivial⟩
    have e' : vs 22 = _ := e
    rw [e']
    clear e e'
    simp only [Act.put, List.setIfInBounds_toArray, List.set_cons_succ, List.set_cons_zero]
    refine ⟨.inl ⟨rfl, fun dd w' hd hC hDs => ?_⟩, fun e => ?_⟩
    · have h1 : w'.cell? ⟨g, 2, none⟩ = some (.slice A2 s.log.length c2) := (H1.out.below hC (Nat.le_refl _)).blk.cell 2
      go_simp
      first | exact ⟨rfl, hC, Below.refl _ _, trivial⟩ | exact ⟨rfl, Below.refl _ _, trivial⟩ | exact ⟨hC, Below.refl _ _, trivial⟩
    have e' : vs 23 = _ := e
    rw [e']
    clear e e'
    simp only [Act.put, List.setIfInBounds_toArray, List.set_cons_succ, List.set_cons_zero]
    refine ⟨.inl ⟨rfl, fun dd w' hd hC hDs => ?_⟩, fun e => ?_⟩
    · go_simp
      have hw := H1.out.below hC (Nat.le_refl _)
      refine (joined_any I I A1 A2 s.dur s.log _ _ c1 c2 (by have := HS.out; omega) w' hw.dur hw.log).mono ?_
      rintro e w3 ⟨v, rfl, o3, h3⟩
      rw [← HD.out] at o3
      obtain ⟨A, c, rfl, s3⟩ := o3.sli atL_len
      exact ⟨_, rfl, ⟨A, c, rfl⟩, hC.trans (h3.mono hC.size), h3, yD_some rfl ⟨A, c, rfl, s3.mono fun b hb => Nat.le_trans hC.size hb⟩⟩
    obtain ⟨A8, c8, e'⟩ : ∃ (A : Option Addr) (c : Nat), vs 24 = .slice A D.length c := e
    rw [e']
    have E8 := hid e'
    clear e'
    simp only [Act.put, List.setIfInBounds_toArray, List.set_cons_succ, List.set_cons_zero]
    refine ⟨.inl ⟨rfl, fun dd w' hd hC hDs => ?_⟩, fun e => ?_⟩
    · obtain ⟨A', c', f, sl⟩ := hDs 24 (by kernel_rfl)
      rw [E8.out] at f
      cases f
      have ha := (Below.refl w'.heap.size w').alloc (Nat.le_refl _) (.cells (slE (A8, D.length, c8)).toArray 97)
      exact gE_lit1 (x := ((A8, D.length, c8) : SlE)) eltSl undSl (by omega) rfl rfl ⟨⟨_, _, rfl⟩, hC.trans (ha.mono hC.size), ha, yD_some rfl ⟨_, _, rfl, A8, c8, sli_lit1 eltSl ((A8, D.length, c8) : SlE) w' hC.size, sl.turn (Turn.of_new (S := fun _ => False) ha) fun _ _ _ e => e⟩⟩
    obtain ⟨A9, c9, e'⟩ : ∃ (A : Option Addr) (c : Nat), vs 25 = .slice A 1 c := e
    rw [e']
    have E9 := hid e'
    clear e'
    simp only [Act.put, List.setIfInBounds_toArray, List.set_cons_succ, List.set_cons_zero]
    refine ⟨.inl ⟨rfl, fun dd w' hd hC hDs => ?_⟩, fun e => ?_⟩
    · obtain ⟨A', c', f, A5, c5, sl, sd⟩ := hDs 25 (by kernel_rfl)
      rw [E9.out] at f
      cases f
      have hfull : Sli 1 slE I w' A3 xs n n := by
        have h := HXS.out.turn (Turn.of_new (S := fun _ => False) hC) fun _ _ _ e => e
        refine ⟨h.len, Nat.le_refl _, by have := h.cap; have := h.max; omega, fun e => ⟨(h.none e).1, (h.none e).1⟩, h.lst⟩
      refine gE_full (m := [] ++ [((A5, D.length, c5) : SlE)]) eltSl undSl rfl rfl hfull sl (by show 0 < 1; omega) (by show n + 1 ≤ 1000000; omega) (by omega) fun A' c' w3 h1 h2 => ?_
      have h1' : Sli 1 slE (fun b => w.heap.size ≤ b) w3 A' (xs ++ [(A5, D.length, c5)]) (xs.length + 1) c' := by rw [HXL.out]; exact h1.mono fun b hb => Nat.le_trans hC.size hb
      exact ⟨⟨A', c', by rw [HXL.out]⟩, hC.trans (h2.mono hC.size), h2, yD_some rfl ⟨A', c', by rw [HXL.out], A5, c5, h1', sd.turn (Turn.of_new (S := fun _ => False) h2) fun _ _ _ e => e⟩⟩
    obtain ⟨A7, c7, e'⟩ : ∃ (A : Option Addr) (c : Nat), vs 26 = .slice A (n + 1) c := by have h := e; rw [← HXL.out]; exact h
    rw [e']
    have E7 := hid e'
    clear e e'
    simp only [Act.put, List.setIfInBounds_toArray, List.set_cons_succ, List.set_cons_zero]
    refine ⟨.inl ⟨rfl, fun dd w' hd hC hDs => ?_⟩, fun e => ?_⟩
    · go_simp
      first | exact ⟨rfl, hC, Below.refl _ _, trivial⟩ | exact ⟨rfl, Below.refl _ _, trivial⟩ | exact ⟨hC, Below.refl _ _, trivial⟩
    have e' : vs 27 = _ := e
    rw [e']
    clear e e'
    simp only [Act.put, List.setIfInBounds_toArray, List.set_cons_succ, List.set_cons_zero]
    refine ⟨.inl ⟨rfl, fun dd w' hd hC hDs => ?_⟩, fun e => ?_⟩
    · go_simp
      first | exact ⟨rfl, hC, Below.refl _ _, trivial⟩ | exact ⟨rfl, Below.refl _ _, trivial⟩ | exact ⟨hC, Below.refl _ _, trivial⟩
    have e' : vs 28 = _ := e
    rw [e']
    clear e e'
    simp only [Act.put, List.setIfInBounds_toArray, List.set_cons_succ, List.set_cons_zero]
    intro dd w3 hall hC3 hDs
    obtain ⟨A', c', f, A5, c5, sl, sd⟩ := hDs 26 (by omega)
    rw [E7.out, HXL.out] at f
    cases f
    have H3 := H1.out.below hC3 (Nat.le_refl _)
    have q3 : w3.cell? ⟨g, 3, none⟩ = some (.slice A3 n c3) := CM.out w3 hC3
    have fz := H3.blk.frozen 3
    have H4 := H3.nw (B := w.heap.size) hgl
    have hmk : ∃ ys : List SlE, Sli 1 slE (nw I w.heap.size w3) w3 A7 ys (s.marks ++ [D]).length c7 ∧ ∀ (i : Nat) (l : List Pt), (s.marks ++ [D])[i]? = some l → ∃ A c, ys[i]? = some (A, l.length, c) ∧ Sli 65 atL (nw I w.heap.size w3) w3 A l l.length c := by
      refine ⟨xs ++ [(A5, D.length, c5)], ?_, fun i l hi => ?_⟩
      · rw [HXL.out] at sl
        rw [List.length_append, List.length_singleton, ← HN.out]
        exact sl.bound.mono fun b hb => .inr hb
      · by_cases hin : i < s.marks.length
        · rw [List.getElem?_append_left hin] at hi
          obtain ⟨A, c, h1, h2⟩ := HXM.out i l hi
          exact ⟨A, c, by rw [List.getElem?_append_left (by rw [HXL.out, HN.out]; exact hin)]; exact h1, (h2.turn (Turn.of_new (S := fun _ => False) hC3) fun _ _ _ e => e).mono fun b hb => .inl hb⟩
        · have hie : i = s.marks.length := by
            have := (List.getElem?_eq_some_iff.1 hi).1
            rw [List.length_append, List.length_singleton] at this
            omega
          subst hie
          rw [List.getElem?_append_right (Nat.le_refl _), Nat.sub_self] at hi
          obtain rfl : D = l := by simpa using hi
          exact ⟨A5, c5, by rw [List.getElem?_append_right (by rw [HXL.out, HN.out]; exact Nat.le_refl _), HXL.out, HN.out, Nat.sub_self]; rfl, sd.bound.mono fun b hb => .inr hb⟩
    have H5 := hid (H4.setMarks hmk)
    have T5 := hid ((Turn.of_new (S := fun b => b = g) hC3).trans (tgt (w := w3) (g := g) (j := 3) (v := .slice A7 (s.marks ++ [D]).length c7)) (fun k h => Or.inl h))
    rw [show (s.marks ++ [D]).length = n + 1 by rw [List.length_append, List.length_singleton, ← HN.out]] at H5 T5
    have B3 := hid hC3
    clear H3 H4 hmk hall hC3 hDs sl sd E7 E8 E9 CM H1 HXS HXM p3
    go_upto_region 4 with fail
    generalize w3.setCell ⟨g, 3, none⟩ (.slice A7 (n + 1) c7) = w4 at H5 T5 ⊢
    have q4 : w4.cell? ⟨g, 3, none⟩ = some (.slice A7 (n + 1) c7) := by
      have := H5.out.blk.cell 3
      rw [this]
      show some (Value.slice A7 (s.marks ++ [D]).length c7) = _
      rw [List.length_append, List.length_singleton, ← HN.out]
    clear q3 fz
    go_wp2_with fail
    refine bodyPost_ret (results_tmp2 rfl _ _ _) rfl ?_
    refine ⟨rfl, nw I w.heap.size w3, ⟨_, _, _, _, _, _, by rw [← HD.out]; exact H5.out⟩, fun b hb => hb.imp id And.left, T5.out⟩
end MbP
end Go.Proofs.YthogklchmhjjkaaGreat
set_option maxRecDepth 100000
namespace Go.Proofs.YthogklchmhjjkaaGreat
open Go.ChangeShapes Go.WideShapes Go.ChangeAt Go.RowKit
namespace MbP
open MbM
theorem sem_may (s : Ls) (i : Int) : s.sem.may i = s.may i := rfl
theorem sem_wr (s : Ls) (i : Int) (x : Nat → Nat) : (wrL s i x).sem = wrT s.sem i x := by
  unfold wrL wrT
  rw [sem_may]
  by_cases hm : s.may i = true
  · rw [if_pos hm, if_pos hm]
    by_cases hf : s.fails = true
    · rw [if_pos hf, if_pos (show s.sem.fails = true from hf)]
    · rw [if_neg hf, if_neg (show ¬ s.sem.fails = true from hf)]; rfl
  · rw [if_neg hm, if_neg hm]
theorem sem_fl (s : Ls) : (flL s).sem = flT s.sem := by
  unfold flL flT
  by_cases hf : s.fails = true
  · rw [if_pos hf, if_pos (show s.sem.fails = true from hf)]
  · rw [if_neg hf, if_neg (show ¬ s.sem.fails = true from hf)]
    show (⟨s.n, img (s.dur ++ s.log), [], s.marks.map img, s.fails, s.hurt⟩ : St) = ⟨s.n, app (img s.dur) s.log, [], s.marks.map img, s.fails, s.hurt⟩
    rw [img_append]
theorem sem_cr (s : Ls) (picks : List Nat) : (crashL s picks).sem = crash s.sem picks := by
  unfold crashL Ls.sem crash
  simp only [img_append]
theorem sem_se (s : Ls) (i : Int) (x : Nat → Nat) : (setL s i x).sem = seT s.sem i x := by
  unfold setL seT
  rw [sem_may]
  by_cases hm : s.may i = true
  · rw [if_pos hm, if_pos hm]
    show (⟨s.n, img (s.dur ++ [⟨i, x⟩]), oth s.log i, s.marks.map img, s.fails, true⟩ : St) = ⟨s.n, upd (img s.dur) ⟨i, x⟩, s.log.filter fun p => decide (p.i ≠ i), s.marks.map img, s.fails, true⟩
    rw [img_append]
    rfl
  · rw [if_neg hm, if_neg hm]
theorem sem_mk (s : Ls) : (markL s).sem = mkT s.sem := by
  unfold markL mkT
  show (if 64 ≤ s.marks.length then s else _).sem = if 64 ≤ (s.marks.map img).length then s.sem else _
  rw [List.length_map]
  by_cases h : 64 ≤ s.marks.length
  · rw [if_pos h, if_pos h]
  · rw [if_neg h, if_neg h]
    show (⟨s.n, img s.dur, s.log, (s.marks ++ [s.dur ++ s.log]).map img, s.fails, s.hurt⟩ : St) = ⟨s.n, img s.dur, s.log, s.marks.map img ++ [app (img s.dur) s.log], s.fails, s.hurt⟩
    rw [List.map_append, List.map_cons, List.map_nil, img_append]
theorem sem_bk (s : Ls) (n : Int) : (backL s n).sem = bkT s.sem n := by
  unfold backL bkT
  show (if n < 0 ∨ (s.marks.length : Int) ≤ n then s else _).sem = if n < 0 ∨ ((s.marks.map img).length : Int) ≤ n then s.sem else _
  rw [List.length_map]
  by_cases h : n < 0 ∨ (s.marks.length : Int) ≤ n
  · rw [if_pos h, if_pos h]
  · rw [if_neg h, if_neg h]
    have e : img (s.marks.getD n.toNat []) = (s.marks.map img).getD n.toNat fun _ => zero := by
      rw [List.getD_eq_getElem?_getD, List.getD_eq_getElem?_getD, List.getElem?_map]
      cases s.marks[n.toNat]? <;> rfl
    show (⟨s.n, img (s.marks.getD n.toNat []), [], s.marks.map img, s.fails, true⟩ : St) = ⟨s.n, (s.marks.map img).getD n.toNat fun _ => zero, [], s.marks.map img, s.fails, true⟩
    rw [e]
theorem sem_fa (s : Ls) (q : Bool) : (failL s q).sem = fail s.sem q := rfl
theorem sem_made (n : Int) : (Ls.made n).sem = made n := rfl
theorem sem_rdS (s : Ls) (i : Int) : readS s i = rdS s.sem i := by
  unfold readS rdS
  rw [sem_may, seenL_sem]
  rfl
theorem sem_rdE (s : Ls) (i : Int) : readE s i = rdE s.sem i := rfl
theorem sem_lkS (s : Ls) (i : Int) : lookS s i = lkS s.sem i := by
  unfold lookS lkS
  rw [sem_may]
  show (if s.may i = true then _ else _) = if s.may i = true then img s.dur i else zero
  rw [img_find]
theorem sem_lkE (s : Ls) (i : Int) : lookE s i = lkE s.sem i := rfl
theorem sem_mkE (s : Ls) : markE s = mkE s.sem := by
  unfold markE mkE
  show _ = if 64 ≤ (s.marks.map img).length then (7 : Int) else 0
  rw [List.length_map]
theorem sem_mkN (s : Ls) : markN s = mkN s.sem := by
  unfold markN mkN
  show _ = if 64 ≤ (s.marks.map img).length then (0 : Int) else (s.marks.map img).length
  rw [List.length_map]
theorem sem_bkE (s : Ls) (n : Int) : backE s n = bkE s.sem n := by
  unfold backE bkE
  show _ = if n < 0 ∨ ((s.marks.map img).length : Int) ≤ n then (2 : Int) else 0
  rw [List.length_map]
/-- How long its lists are. -/
def Ls.le (s : Ls) (k : Nat) : Prop := s.dur.length + s.log.length ≤ k ∧ ∀ m ∈ s.marks, m.length ≤ k
theorem le_mono {s : Ls} {k k' : Nat} (h : s.le k) (hk : k ≤ k') : s.le k' := ⟨Nat.le_trans h.1 hk, fun m hm => Nat.le_trans (h.2 m hm) hk⟩
theorem le_wr {s : Ls} {k : Nat} (h : s.le k) (i : Int) (x : Nat → Nat) : (wrL s i x).le (k + 1) := by
  unfold wrL
  split
  · split
    · exact le_mono h (by omega)
    · exact ⟨by show s.dur.length + (s.log ++ [_]).length ≤ _; rw [List.length_append, List.length_singleton]; have := h.1; omega, fun m hm => Nat.le_succ_of_le (h.2 m hm)⟩
  · exact le_mono h (by omega)
theorem le_fl {s : Ls} {k : Nat} (h : s.le k) : (flL s).le (k + 1) := by
  unfold flL
  split
  · exact le_mono h (by omega)
  · exact ⟨by show (s.dur ++ s.log).length + 0 ≤ _; rw [List.length_append]; have := h.1; omega, fun m hm => Nat.le_succ_of_le (h.2 m hm)⟩
theorem le_cr {s : Ls} {k : Nat} (h : s.le k) (picks : List Nat) : (crashL s picks).le (k + 1) :=
  ⟨by show (s.dur ++ kept s.log picks).length + 0 ≤ _; rw [List.length_append]; have := kept_length s.log picks s.log.length; have := h.1; unfold kept; omega, fun m hm => Nat.le_succ_of_le (h.2 m hm)⟩
theorem le_se {s : Ls} {k : Nat} (h : s.le k) (i : Int) (x : Nat → Nat) : (setL s i x).le (k + 1) := by
  unfold setL
  split
  · refine ⟨?_, fun m hm => Nat.le_succ_of_le (h.2 m hm)⟩
    show (s.dur ++ [_]).length + (oth s.log i).length ≤ _
    rw [List.length_append, List.length_singleton]
    have h1 := h.1
    have h2 : (oth s.log i).length ≤ s.log.length := List.length_filter_le _ _
    omega
  · exact le_mono h (by omega)
theorem le_mk {s : Ls} {k : Nat} (h : s.le k) : (markL s).le (k + 1) := by
  unfold markL
  split
  · exact le_mono h (by omega)
  · refine ⟨Nat.le_succ_of_le h.1, fun m hm => ?_⟩
    rcases List.mem_append.1 hm with hm | hm
    · exact Nat.le_succ_of_le (h.2 m hm)
    · rw [List.mem_singleton] at hm; subst hm; rw [List.length_append]; have := h.1; omega
theorem le_bk {s : Ls} {k : Nat} (h : s.le k) (n : Int) : (backL s n).le (k + 1) := by
  unfold backL
  split
  · exact le_mono h (by omega)
  · refine ⟨?_, fun m hm => Nat.le_succ_of_le (h.2 m hm)⟩
    show (s.marks.getD n.toNat []).length + 0 ≤ _
    rw [List.getD_eq_getElem?_getD]
    cases e : s.marks[n.toNat]? with
    | none => simp
    | some m => have := h.2 m (List.mem_of_getElem? e); show m.length + 0 ≤ _; omega
theorem le_fa {s : Ls} {k : Nat} (h : s.le k) (q : Bool) : (failL s q).le (k + 1) := le_mono (s := s) h (by omega)
/-- Block g holds a member st of the document's, by lists of at most k. -/
def RS (w : World) (g : Nat) (I : Nat → Prop) (k : Nat) (st : St) : Prop := ∃ s, RM w g I s ∧ s.sem = st ∧ s.le k
def RSo (w : World) (g : Nat) (I : Nat → Prop) (k : Nat) (st : St) (w' : World) : Prop := ∃ J, RS w' g J k st ∧ (∀ b, J b → I b ∨ w.heap.size ≤ b) ∧ Turn (fun b => b = g) w w'
theorem RSo.of {w w' : World} {g k : Nat} {I : Nat → Prop} {s : Ls} {st : St} (h : RMo w g I s w') (he : s.sem = st) (hk : s.le k) : RSo w g I k st w' := by
  obtain ⟨J, h1, h2, h3⟩ := h
  exact ⟨J, ⟨s, h1, he, hk⟩, h2, h3⟩
end MbP
end Go.Proofs.YthogklchmhjjkaaGreat
set_option maxRecDepth 100000
namespace Go.Proofs.YthogklchmhjjkaaGreat
open Go.ChangeShapes Go.WideShapes Go.ChangeAt Go.RowKit
attribute [local go_sem] Gives GivesE
namespace MbP
open MbM
def at' (g : Nat) : Value := .pointer (some ⟨g, 0, none⟩)
/-- rep w g M I k st: in w the pointer to block g is a member st; it turns blocks of M alone, and reads those of M and I; k calls have turned it. -/
abbrev RepT := World → Nat → (Nat → Prop) → (Nat → Prop) → Nat → St → Prop
def outP (rep : RepT) (w : World) (g : Nat) (M I : Nat → Prop) (k : Nat) (st : St) (w' : World) : Prop :=
  ∃ M' I', rep w' g M' I' k st ∧ (∀ b, M' b → M b ∨ w.heap.size ≤ b) ∧ (∀ b, I' b → M b ∨ I b ∨ w.heap.size ≤ b) ∧ Turn M w w'
/-- Of every call but Copy and Clean. -/
structure MemB (rep : RepT) : Prop where
  lt : ∀ {w g M I k st}, rep w g M I k st → ∀ b, M b ∨ I b → b < w.heap.size
  frame : ∀ {w w' g M I k st} {T : Nat → Prop}, rep w g M I k st → Turn T w w' → (∀ b, M b ∨ I b → ¬ T b) → rep w' g M I k st
  mono : ∀ {w g M I k k' st}, rep w g M I k st → k ≤ k' → rep w g M I k' st
  own : ∀ {w g M I k st}, rep w g M I k st → ∀ b, M b → ¬ I b
  new : ∀ n : Int, 1 ≤ n → n ≤ 65536 → ∀ w, Calls Tryz.prog 19 #[.int .i64 n] w fun e w' => ∃ g M I, e = .returned (.tuple #[at' g, .int .i64 0]) ∧ rep w' g M I 0 (made n) ∧ (∀ b, M b ∨ I b → w.heap.size ≤ b) ∧ Below w.heap.size w w'
  bad : ∀ n : Int, ¬ (1 ≤ n ∧ n ≤ 65536) → ∀ w, Calls Tryz.prog 19 #[.int .i64 n] w fun e w' => e = .returned (.tuple #[.pointer none, .int .i64 2]) ∧ Below w.heap.size w w'
  read : ∀ {w g M I k st}, rep w g M I k st → st.ok → k ≤ 9000 → ∀ i : Int, Calls Tryz.prog 45 #[at' g, .int .i64 i] w fun e w' => e = .returned (.tuple #[.agg (ar 64 (rdS st i)), .int .i64 (rdE st i)]) ∧ Below w.heap.size w w'
  look : ∀ {w g M I k st}, rep w g M I k st → st.ok → k ≤ 9000 → ∀ i : Int, Calls Tryz.prog 37 #[at' g, .int .i64 i] w fun e w' => e = .returned (.tuple #[.agg (ar 64 (lkS st i)), .int .i64 (lkE st i)]) ∧ Below w.heap.size w w'
  touched : ∀ {w g M I k st}, rep w g M I k st → Calls Tryz.prog 15 #[at' g] w fun e w' => e = .returned (.bool st.hurt) ∧ Below w.heap.size w w'
  len : ∀ {w g M I k st}, rep w g M I k st → Calls Tryz.prog 42 #[at' g] w fun e w' => e = .returned (.int .i64 st.n) ∧ Below w.heap.size w w'
  unflushed : ∀ {w g M I k st}, rep w g M I k st → Calls Tryz.prog 36 #[at' g] w fun e w' => e = .returned (.int .i64 (st.log.length : Nat)) ∧ Below w.heap.size w w'
  write : ∀ {w g M I k st}, rep w g M I k st → st.ok → k ≤ 9000 → ∀ (i : Int) (x : Nat → Nat), (∀ j, x j < 256) → Calls Tryz.prog 48 #[at' g, .int .i64 i, .agg (ar 64 x)] w fun e w' => e = .returned (.int .i64 (rdE st i)) ∧ outP rep w g M I (k + 1) (wrT st i x) w'
  flush : ∀ {w g M I k st}, rep w g M I k st → st.ok → k ≤ 9000 → Calls Tryz.prog 55 #[at' g] w fun e w' => e = .returned (.int .i64 (MbM.flE st)) ∧ outP rep w g M I (k + 1) (flT st) w'
  writeF : ∀ {w g M I k st}, rep w g M I k st → st.ok → k ≤ 9000 → st.fails = true → ∀ (i : Int) (x : Nat → Nat), (∀ j, x j < 256) → Calls Tryz.prog 48 #[at' g, .int .i64 i, .agg (ar 64 x)] w fun e w' => e = .returned (.int .i64 (rdE st i)) ∧ outP rep w g M I k st w'
  flushF : ∀ {w g M I k st}, rep w g M I k st → st.ok → k ≤ 9000 → st.fails = true → Calls Tryz.prog 55 #[at' g] w fun e w' => e = .returned (.int .i64 10) ∧ outP rep w g M I k st w'
  crash : ∀ {w g M I k st}, rep w g M I k st → st.ok → k ≤ 9000 → ∀ (P : Option Addr) (picks : List Nat) (pn pc : Nat), Arg w P picks pn pc → (∀ b o, 0 < picks.length → P = some ⟨b, o, none⟩ → ¬ (M b ∨ I b)) → Calls Tryz.prog 99 #[at' g, .slice P pn pc] w fun e w' => e = .returned (.int .i64 0) ∧ outP rep w g M I (k + 1) (crash st picks) w'
  set : ∀ {w g M I k st}, rep w g M I k st → st.ok → k ≤ 9000 → ∀ (i : Int) (x : Nat → Nat), (∀ j, x j < 256) → Calls Tryz.prog 86 #[at' g, .int .i64 i, .agg (ar 64 x)] w fun e w' => e = .returned (.int .i64 (lkE st i)) ∧ outP rep w g M I (k + 1) (seT st i x) w'
  mark : ∀ {w g M I k st}, rep w g M I k st → st.ok → k ≤ 9000 → Calls Tryz.prog 88 #[at' g] w fun e w' => e = .returned (.tuple #[.int .i64 (mkN st), .int .i64 (mkE st)]) ∧ outP rep w g M I (k + 1) (mkT st) w'
  back : ∀ {w g M I k st}, rep w g M I k st → st.ok → k ≤ 9000 → ∀ n : Int, Calls Tryz.prog 90 #[at' g, .int .i64 n] w fun e w' => e = .returned (.int .i64 (bkE st n)) ∧ outP rep w g M I (k + 1) (bkT st n) w'
  fail : ∀ {w g M I k st}, rep w g M I k st → ∀ q : Bool, Calls Tryz.prog 92 #[at' g, .bool q] w fun e w' => e = .returned (.int .i64 0) ∧ outP rep w g M I (k + 1) (fail st q) w'
/-- A member of the program's beside one of the document's; all that both lay lies from block B on. -/
structure J2 (rep : RepT) (B : Nat) (w : World) (m : Nat) (M I : Nat → Prop) (k : Nat) (st : St) (g : Nat) (L : Nat → Prop) (k2 : Nat) (st2 : St) : Prop where
  prog : rep w m M I k st
  ref : RS w g L k2 st2
  ok : st.ok
  apart : ∀ b, M b ∨ I b → ¬ (b = g ∨ L b)
  low : ∀ b, M b ∨ I b ∨ L b ∨ b = g → B ≤ b
  base : B ≤ w.heap.size
section
variable {rep : RepT} {B : Nat} {w w' : World} {m : Nat} {M I : Nat → Prop} {k : Nat} {st st' : St} {g : Nat} {L : Nat → Prop} {k2 : Nat} {st2 : St}
theorem RS.turn {T : Nat → Prop} (h : RS w g L k st) (ht : Turn T w w') (hg : ¬ T g) (hL : ∀ b, L b → ¬ T b) : RS w' g L k st := by
  obtain ⟨s, ⟨A1, c1, A2, c2, A3, c3, hr⟩, h2⟩ := h
  exact ⟨s, ⟨A1, c1, A2, c2, A3, c3, hr.turn ht hg hL⟩, h2⟩
theorem RS.lt (h : RS w g L k st) : g < w.heap.size ∧ ∀ b, L b → b < w.heap.size := by
  obtain ⟨s, ⟨A1, c1, A2, c2, A3, c3, hr⟩, h2⟩ := h
  exact ⟨hr.blk.lt, hr.lt⟩
theorem RS.out (h : RS w g L k st) : ¬ L g := by
  obtain ⟨s, ⟨A1, c1, A2, c2, A3, c3, hr⟩, h2⟩ := h
  exact hr.out
theorem RS.mono {k' : Nat} (h : RS w g L k st) (hk : k ≤ k') : RS w g L k' st := by
  obtain ⟨s, h1, h2, h3⟩ := h
  exact ⟨s, h1, h2, le_mono h3 hk⟩
/-- What may be turned, and what may come to what is laid. -/
def Grew (w : World) (M I L : Nat → Prop) (g : Nat) (w' : World) (M' I' L' : Nat → Prop) : Prop :=
  (∀ b, M' b → M b ∨ w.heap.size ≤ b) ∧ (∀ b, I' b → M b ∨ I b ∨ w.heap.size ≤ b) ∧ (∀ b, L' b → L b ∨ w.heap.size ≤ b) ∧ Turn (fun b => M b ∨ b = g) w w'
theorem Grew.refl (w : World) (M I L : Nat → Prop) (g : Nat) : Grew w M I L g w M I L := ⟨fun _ h => .inl h, fun _ h => .inr (.inl h), fun _ h => .inl h, Turn.refl _ _⟩
theorem Grew.trans {w2 : World} {M' I' L' M2 I2 L2 : Nat → Prop} (h : Grew w M I L g w' M' I' L') (h2 : Grew w' M' I' L' g w2 M2 I2 L2) : Grew w M I L g w2 M2 I2 L2 := by
  have hs := h.2.2.2.size
  refine ⟨fun b hb => ?_, fun b hb => ?_, fun b hb => ?_, h.2.2.2.trans h2.2.2.2 fun b hb => ?_⟩
  · rcases h2.1 b hb with e | e
    · exact h.1 b e
    · exact .inr (Nat.le_trans hs e)
  · rcases h2.2.1 b hb with e | e | e
    · rcases h.1 b e with e | e
      · exact .inl e
      · exact .inr (.inr e)
    · exact h.2.1 b e
    · exact .inr (.inr (Nat.le_trans hs e))
  · rcases h2.2.2.1 b hb with e | e
    · exact h.2.2.1 b e
    · exact .inr (Nat.le_trans hs e)
  · rcases hb with e | e
    · exact (h.1 b e).imp .inl id
    · exact .inl (.inr e)
theorem Grew.below {hb : Below w.heap.size w w'} : Grew w M I L g w' M I L := ⟨fun _ h => .inl h, fun _ h => .inr (.inl h), fun _ h => .inl h, Turn.of_new hb⟩
theorem Grew.low {M' I' L' : Nat → Prop} (h : J2 rep B w m M I k st g L k2 st2) (hg : Grew w M I L g w' M' I' L') : Below B w w' := hg.2.2.2.below h.base fun b e => by
  rcases e with e | e
  · exact h.low b (.inl e)
  · exact h.low b (.inr (.inr (.inr e)))
end
end MbP
end Go.Proofs.YthogklchmhjjkaaGreat
set_option maxRecDepth 100000
namespace Go.Proofs.YthogklchmhjjkaaGreat
open Go.ChangeShapes Go.WideShapes Go.ChangeAt Go.RowKit
attribute [local go_sem] Gives GivesE
namespace BuP
open BuM MbM
def ar64 (f : Nat → Nat) : List Value := (ar 64 f).toList
theorem ar64_len (f : Nat → Nat) : (ar64 f).length = 64 := by unfold ar64; rw [Array.length_toList, size_ar]
theorem ar64_one (f : Nat → Nat) : ∀ u ∈ ar64 f, u.oneCell' = true := fun u hu =>
  Array.all_eq_true_iff_forall_mem.1 (row_one (n := 64) (f := fun j => Value.int .u8 (f j : Nat)) fun _ _ => rfl) u (by simpa [ar64, ar] using hu)
/-- An entry as its 68 cells. -/
def enL (x : Ent) : List Value := .int .i64 x.d :: .int .i64 x.m :: .int .i64 x.i :: (ar64 x.s ++ [.int .i64 x.e])
theorem enL_len (x : Ent) : (enL x).length = 68 := by unfold enL; simp [ar64_len]
theorem enL_one (x : Ent) : ∀ u ∈ enL x, u.oneCell' = true := fun u hu => by
  unfold enL at hu
  simp only [List.mem_cons, List.mem_append, List.not_mem_nil, or_false] at hu
  rcases hu with rfl | rfl | rfl | hu | rfl
  · rfl
  · rfl
  · rfl
  · exact ar64_one _ u hu
  · rfl
theorem eltEnR : EltX 59 68 enL := ⟨by omega, enL_len, enL_one, elt_info (by kernel_rfl) (by kernel_rfl) (by kernel_rfl)⟩
theorem eltEnP : EltX 57 68 enL := ⟨by omega, enL_len, enL_one, elt_info (by kernel_rfl) (by kernel_rfl) (by kernel_rfl)⟩
theorem undEnR : Tryz.prog.underlying 52 = some (.slice 59) := Tryz.underlying52
theorem undEnP : Tryz.prog.underlying 47 = some (.slice 57) := Tryz.underlying47
/-- A step, and where its picks lie. -/
structure SlB where
  A : Option Addr
  c : Nat
def stL (x : Stp × SlB) : List Value := .int .i64 x.1.a :: .int .i64 x.1.kind :: .int .i64 x.1.m :: .int .i64 x.1.i :: .int .i64 x.1.n :: (ar64 x.1.s ++ [.slice x.2.A x.1.picks.length x.2.c])
theorem stL_len (x : Stp × SlB) : (stL x).length = 70 := by unfold stL; simp [ar64_len]
theorem stL_one (x : Stp × SlB) : ∀ u ∈ stL x, u.oneCell' = true := fun u hu => by
  unfold stL at hu
  simp only [List.mem_cons, List.mem_append, List.not_mem_nil, or_false] at hu
  rcases hu with rfl | rfl | rfl | rfl | rfl | hu | rfl
  · rfl
  · rfl
  · rfl
  · rfl
  · rfl
  · exact ar64_one _ u hu
  · rfl
theorem eltStR : EltX 76 70 stL := ⟨by omega, stL_len, stL_one, elt_info (by kernel_rfl) (by kernel_rfl) (by kernel_rfl)⟩
theorem eltStP : EltX 62 70 stL := ⟨by omega, stL_len, stL_one, elt_info (by kernel_rfl) (by kernel_rfl) (by kernel_rfl)⟩
theorem undStR : Tryz.prog.underlying 51 = some (.slice 76) := Tryz.underlying51
theorem undStP : Tryz.prog.underlying 28 = some (.slice 62) := Tryz.underlying28
/-- A pointer as its cell. -/
def ptL (g : Nat) : List Value := [.pointer (some ⟨g, 0, none⟩)]
theorem ptL_len (g : Nat) : (ptL g).length = 1 := rfl
theorem ptL_one (g : Nat) : ∀ u ∈ ptL g, u.oneCell' = true := fun u hu => by
  unfold ptL at hu
  simp only [List.mem_cons, List.not_mem_nil, or_false] at hu
  subst hu; rfl
theorem eltPtR : EltX 74 1 ptL := ⟨by omega, ptL_len, ptL_one, elt_info (by kernel_rfl) (by kernel_rfl) (by kernel_rfl)⟩
theorem eltPtP : EltX 63 1 ptL := ⟨by omega, ptL_len, ptL_one, elt_info (by kernel_rfl) (by kernel_rfl) (by kernel_rfl)⟩
section
variable {w : World} {b o : Nat}
theorem en_d {x : Ent} (h : w.rangeAt b o (enL x)) : w.cell? ⟨b, o, none⟩ = some (.int .i64 x.d) := h 0 _ rfl
theorem en_m {x : Ent} (h : w.rangeAt b o (enL x)) : w.cell? ⟨b, o + 1, none⟩ = some (.int .i64 x.m) := h 1 _ rfl
theorem en_s {x : Ent} (h : w.rangeAt b o (enL x)) : w.rangeAt b (o + 3) (ar 64 x.s).toList := fun j v hj => by
  have hl := (List.getElem?_eq_some_iff.1 hj).1
  have := h (j + 3) v (by unfold enL; rw [List.getElem?_cons_succ, List.getElem?_cons_succ, List.getElem?_cons_succ, List.getElem?_append_left (show j < (ar64 _).length from hl)]; exact hj)
  rwa [show o + (j + 3) = o + 3 + j by omega] at this
theorem en_e {x : Ent} (h : w.rangeAt b o (enL x)) : w.cell? ⟨b, o + 67, none⟩ = some (.int .i64 x.e) :=
  h 67 _ (by unfold enL; rw [List.getElem?_cons_succ, List.getElem?_cons_succ, List.getElem?_cons_succ, List.getElem?_append_right (by rw [ar64_len]; exact Nat.le_refl _), ar64_len]; rfl)
theorem st_a {x : Stp × SlB} (h : w.rangeAt b o (stL x)) : w.cell? ⟨b, o, none⟩ = some (.int .i64 x.1.a) := h 0 _ rfl
theorem st_k {x : Stp × SlB} (h : w.rangeAt b o (stL x)) : w.cell? ⟨b, o + 1, none⟩ = some (.int .i64 x.1.kind) := h 1 _ rfl
theorem st_m {x : Stp × SlB} (h : w.rangeAt b o (stL x)) : w.cell? ⟨b, o + 2, none⟩ = some (.int .i64 x.1.m) := h 2 _ rfl
theorem st_i {x : Stp × SlB} (h : w.rangeAt b o (stL x)) : w.cell? ⟨b, o + 3, none⟩ = some (.int .i64 x.1.i) := h 3 _ rfl
theorem st_n {x : Stp × SlB} (h : w.rangeAt b o (stL x)) : w.cell? ⟨b, o + 4, none⟩ = some (.int .i64 x.1.n) := h 4 _ rfl
theorem st_s {x : Stp × SlB} (h : w.rangeAt b o (stL x)) : w.rangeAt b (o + 5) (ar 64 x.1.s).toList := fun j v hj => by
  have hl := (List.getElem?_eq_some_iff.1 hj).1
  have := h (j + 5) v (by unfold stL; rw [List.getElem?_cons_succ, List.getElem?_cons_succ, List.getElem?_cons_succ, List.getElem?_cons_succ, List.getElem?_cons_succ, List.getElem?_append_left (show j < (ar64 _).length from hl)]; exact hj)
  rwa [show o + (j + 5) = o + 5 + j by omega] at this
theorem st_p {x : Stp × SlB} (h : w.rangeAt b o (stL x)) : w.cell? ⟨b, o + 69, none⟩ = some (.slice x.2.A x.1.picks.length x.2.c) :=
  h 69 _ (by unfold stL; rw [List.getElem?_cons_succ, List.getElem?_cons_succ, List.getElem?_cons_succ, List.getElem?_cons_succ, List.getElem?_cons_succ, List.getElem?_append_right (by rw [ar64_len]; exact Nat.le_refl _), ar64_len]; rfl)
theorem pt_p {g : Nat} (h : w.rangeAt b o (ptL g)) : w.cell? ⟨b, o, none⟩ = some (.pointer (some ⟨g, 0, none⟩)) := h 0 _ rfl
end
theorem tSt (x : Stp × SlB) : RowT 76 (stL x).toArray.size := by
  rw [List.size_toArray, stL_len]
  exact ⟨by kernel_rfl, _, Tryz.underlying76, rfl⟩
theorem tStP (x : Stp × SlB) : RowT 62 (stL x).toArray.size := by
  rw [List.size_toArray, stL_len]
  exact ⟨by kernel_rfl, _, Tryz.underlying62, rfl⟩
theorem tEn (x : Ent) : RowT 59 (enL x).toArray.size := by
  rw [List.size_toArray, enL_len]
  exact ⟨by kernel_rfl, _, Tryz.underlying59, rfl⟩
theorem tEnP (x : Ent) : RowT 57 (enL x).toArray.size := by
  rw [List.size_toArray, enL_len]
  exact ⟨by kernel_rfl, _, Tryz.underlying57, rfl⟩
end BuP
end Go.Proofs.YthogklchmhjjkaaGreat
set_option maxRecDepth 100000
namespace Go.Proofs.YthogklchmhjjkaaGreat
open Go.ChangeShapes Go.WideShapes Go.ChangeAt Go.RowKit
namespace MbP
open MbM
section
variable {w w' : World} {g : Nat} {L : Nat → Prop} {k : Nat} {st : St}
theorem rs_read (h : RS w g L k st) (i : Int) : Calls Tryz.prog 64 #[at' g, .int .i64 i] w fun e w' => e = .returned (.tuple #[.agg (ar 64 (rdS st i)), .int .i64 (rdE st i)]) ∧ Below w.heap.size w w' := by
  obtain ⟨s, h1, rfl, h3⟩ := h
  have := read_any g L s i w h1
  rw [sem_rdS, sem_rdE] at this
  exact this
theorem rs_look (h : RS w g L k st) (i : Int) : Calls Tryz.prog 38 #[at' g, .int .i64 i] w fun e w' => e = .returned (.tuple #[.agg (ar 64 (lkS st i)), .int .i64 (lkE st i)]) ∧ Below w.heap.size w w' := by
  obtain ⟨s, h1, rfl, h3⟩ := h
  have := look_any g L s i w h1
  rw [sem_lkS, sem_lkE] at this
  exact this
theorem rs_write (h : RS w g L k st) (hk : k ≤ 9000) (i : Int) (x : Nat → Nat) : Calls Tryz.prog 53 #[at' g, .int .i64 i, .agg (ar 64 x)] w fun e w' => e = .returned (.int .i64 (rdE st i)) ∧ RSo w g L (k + 1) (wrT st i x) w' := by
  obtain ⟨s, h1, rfl, h3⟩ := h
  exact (write_any g L s i x (by have := h3.1; omega) w h1).mono fun e w' ⟨e1, e2⟩ => ⟨e1, RSo.of e2 (sem_wr s i x) (le_wr h3 i x)⟩
theorem rs_flush (h : RS w g L k st) (hk : k ≤ 9000) : Calls Tryz.prog 56 #[at' g] w fun e w' => e = .returned (.int .i64 (MbM.flE st)) ∧ RSo w g L (k + 1) (flT st) w' := by
  obtain ⟨s, h1, rfl, h3⟩ := h
  exact (flush_any g L s (by have := h3.1; omega) w h1).mono fun e w' ⟨e1, e2⟩ => ⟨e1, RSo.of e2 (sem_fl s) (le_fl h3)⟩
theorem rs_crash (h : RS w g L k st) (hk : k ≤ 9000) (P : Option Addr) (picks : List Nat) (pn pc : Nat) (hp : Arg w P picks pn pc) (hne : ∀ b o, 0 < picks.length → P = some ⟨b, o, none⟩ → b ≠ g) : Calls Tryz.prog 83 #[at' g, .slice P pn pc] w fun e w' => e = .returned (.tuple #[]) ∧ RSo w g L (k + 1) (crash st picks) w' := by
  obtain ⟨s, h1, rfl, h3⟩ := h
  exact (crash_any g L s (by have := h3.1; omega) P picks pn pc w h1 hp hne).mono fun e w' ⟨e1, e2⟩ => ⟨e1, RSo.of e2 (sem_cr s picks) (le_cr h3 picks)⟩
theorem rs_set (h : RS w g L k st) (hk : k ≤ 9000) (i : Int) (x : Nat → Nat) : Calls Tryz.prog 74 #[at' g, .int .i64 i, .agg (ar 64 x)] w fun e w' => e = .returned (.int .i64 (lkE st i)) ∧ RSo w g L (k + 1) (seT st i x) w' := by
  obtain ⟨s, h1, rfl, h3⟩ := h
  exact (set_any g L s i x (by have := h3.1; omega) w h1).mono fun e w' ⟨e1, e2⟩ => ⟨e1, RSo.of e2 (sem_se s i x) (le_se h3 i x)⟩
theorem rs_mark (h : RS w g L k st) (hk : k ≤ 9000) : Calls Tryz.prog 75 #[at' g] w fun e w' => e = .returned (.tuple #[.int .i64 (mkN st), .int .i64 (mkE st)]) ∧ RSo w g L (k + 1) (mkT st) w' := by
  obtain ⟨s, h1, rfl, h3⟩ := h
  rw [← sem_mkN, ← sem_mkE]
  exact (mark_any g L s (by have := h3.1; omega) w h1).mono fun e w' ⟨e1, e2⟩ => ⟨e1, RSo.of e2 (sem_mk s) (le_mk h3)⟩
theorem rs_back (h : RS w g L k st) (n : Int) : Calls Tryz.prog 76 #[at' g, .int .i64 n] w fun e w' => e = .returned (.int .i64 (bkE st n)) ∧ RSo w g L (k + 1) (bkT st n) w' := by
  obtain ⟨s, h1, rfl, h3⟩ := h
  rw [← sem_bkE]
  exact (back_any g L s n w h1).mono fun e w' ⟨e1, e2⟩ => ⟨e1, RSo.of e2 (sem_bk s n) (le_bk h3 n)⟩
theorem rs_fail (h : RS w g L k st) (q : Bool) : Calls Tryz.prog 77 #[at' g, .bool q] w fun e w' => e = .returned (.tuple #[]) ∧ RSo w g L (k + 1) (fail st q) w' := by
  obtain ⟨s, h1, rfl, h3⟩ := h
  exact (fail_any g L s q w h1).mono fun e w' ⟨e1, e2⟩ => ⟨e1, RSo.of e2 (sem_fa s q) (le_fa h3 q)⟩
theorem rs_made (n : Int) (w : World) : Calls Tryz.prog 20 #[.int .i64 n] w fun e w' => e = .returned (at' w.heap.size) ∧ RS w' w.heap.size (fun _ => False) 0 (made n) ∧ Below w.heap.size w w' :=
  (made_any n w).mono fun e w' ⟨e1, e2, e3⟩ => ⟨e1, ⟨Ls.made n, e2, sem_made n, ⟨Nat.le_refl _, fun m hm => (by cases hm)⟩⟩, e3⟩
/-- 'r.Hurt = false'. -/
theorem RS.clean (h : RS w g L k st) : RS (w.setCell ⟨g, 5, none⟩ (.bool false)) g L (k + 1) (MbM.clean st) := by
  obtain ⟨s, ⟨A1, c1, A2, c2, A3, c3, h1⟩, rfl, h3⟩ := h
  exact ⟨{ s with hurt := false }, ⟨A1, c1, A2, c2, A3, c3, h1.setHurt false⟩, rfl, le_mono (s := s) h3 (by omega)⟩
theorem RS.fields (h : RS w g L k st) : w.cell? ⟨g, 0, none⟩ = some (.int .i64 st.n) ∧ (∃ A c, w.cell? ⟨g, 2, none⟩ = some (.slice A st.log.length c)) ∧ w.cell? ⟨g, 5, none⟩ = some (.bool st.hurt) ∧ (∃ u, w.cell? ⟨g, 1, none⟩ = some u) := by
  obtain ⟨s, ⟨A1, c1, A2, c2, A3, c3, h1⟩, rfl, h3⟩ := h
  exact ⟨h1.blk.cell 0, ⟨A2, c2, h1.blk.cell 2⟩, h1.blk.cell 5, ⟨_, h1.blk.cell 1⟩⟩
end
end MbP
end Go.Proofs.YthogklchmhjjkaaGreat
set_option maxRecDepth 100000
namespace Go.Proofs.YthogklchmhjjkaaGreat
open Go.ChangeShapes Go.WideShapes Go.ChangeAt Go.RowKit
attribute [local go_sem] Gives GivesE
namespace BuP
open BuM MbM MbP
/-- The first k bytes of a label, and zeros. -/
def padK (t : Nat → Nat) (k : Nat) : Nat → Nat := fun j => if j < k then t j else 0
set_option maxHeartbeats 800000 in
set_option maxRecDepth 100000 in
theorem sector_any (t : Nat → Nat) (w : World) : Calls Tryz.prog 60 #[.agg (ar 32 t)] w fun e w' => e = .returned (.agg (ar 64 (pad t))) ∧ Below w.heap.size w w' := by
  go_enter Tryz.func60, Tryz.ntmps60
  go_upto_region 2 with (with_reducible apply alA tSe)
  generalize hw3 : World.alloc (World.alloc (World.alloc w _) _) _ = w3
  have b0 : Blk w3 w.heap.size 25 (ar 32 t) := by rw [← hw3]; exact ((Blk.new _ _ _).alloc _).alloc _
  have b1 : Blk w3 (w.heap.size + 1) 43 (ar 64 fun _ => 0) := by rw [← hw3]; exact (Blk.top rfl (by simp)).alloc _
  have b2 : Blk w3 (w.heap.size + 2) 43 (ar 64 fun _ => 0) := by rw [← hw3]; exact Blk.top rfl (by simp)
  have hb : Below w.heap.size w w3 := by rw [← hw3]; exact (((Below.refl _ _).alloc (Nat.le_refl _) _).alloc (by simp) _).alloc (by simp <;> omega) _
  clear hw3
  go_wp2_with fail
  go_loopw [4] (fun i wr => ∃ k : Nat, k ≤ 32 ∧ i = .int .i64 k ∧ Blk wr w.heap.size 25 (ar 32 t) ∧ Blk wr (w.heap.size + 1) 43 (ar 64 fun _ => 0) ∧ Blk wr (w.heap.size + 2) 43 (ar 64 (upTo k (fun _ => 0) t)) ∧ Below w.heap.size w wr) (fun i _ => 32 - (intOf i).toNat)
  case atStart => exact ⟨0, by omega, rfl, b0, b1, by rw [upTo_zero]; exact b2, hb⟩
  case round =>
    clear b0 b1 b2 hb
    obtain ⟨k, hk, rfl, b0, b1, b2, hb⟩ := hrel
    by_cases hlt : k < 32
    · have tk : (k : Int) < 32 := by omega
      have c0 : wr.cell? ⟨w.heap.size, k, none⟩ = some (.int .u8 (t k : Nat)) := by rw [b0.cell, get_ar hlt]
      have c3 := b2.frozen k
      have e3 := (b2.cell k).trans (get_ar (show k < 64 by omega))
      go_wp2_with fail
      go_roundw
      case rel => exact ⟨k + 1, by omega, by go_num, b0.setCell_other (by show w.heap.size + 2 ≠ _; omega) _, b1.setCell_other (by show w.heap.size + 2 ≠ _; omega) _, upTo_step (b2.setCell_same k _), hb.setCell (show w.heap.size ≤ w.heap.size + 2 by omega) _⟩
      case measure => simp [intOf]; omega
    · have tk : decide ((k : Int) < 32) = false := by simp; omega
      obtain rfl : k = 32 := by omega
      rw [show ar 64 (upTo 32 (fun _ => 0) t) = ar 64 (pad t) from rfl] at b2
      have b4 := b1.setRow_same (ar 64 (pad t))
      have B4 := hid (below_setRow hb (show w.heap.size ≤ w.heap.size + 1 by omega) (ar 64 (pad t)))
      go_wp2_with (first | ((with_reducible apply ldA tSe); rfl; exact b2) | ((with_reducible apply stA tSe); rfl; rfl; exact b1))
      apply ret_ar tSe Tryz.results60
      · rfl
      · rfl
      · exact b4
      exact ⟨rfl, B4.out⟩
/-- The document's bus as its five cells. -/
def buR (Am : Option Addr) (n cm gc : Nat) (As : Option Addr) (ns cs : Nat) (off : Bool) (vl : Value) : Array Value := #[.slice Am n cm, .pointer (some ⟨gc, 0, none⟩), .slice As ns cs, .bool off, vl]
section
variable {w : World} {g n cm gc ns cs : Nat} {Am As : Option Addr} {off : Bool} {vl : Value}
theorem bu_ms (h : Blk w g 54 (buR Am n cm gc As ns cs off vl)) : w.cell? ⟨g, 0, none⟩ = some (.slice Am n cm) := by rw [h.cell]; rfl
theorem bu_c (h : Blk w g 54 (buR Am n cm gc As ns cs off vl)) : w.cell? ⟨g, 1, none⟩ = some (.pointer (some ⟨gc, 0, none⟩)) := by rw [h.cell]; rfl
theorem bu_st (h : Blk w g 54 (buR Am n cm gc As ns cs off vl)) : w.cell? ⟨g, 2, none⟩ = some (.slice As ns cs) := by rw [h.cell]; rfl
theorem bu_off (h : Blk w g 54 (buR Am n cm gc As ns cs off vl)) : w.cell? ⟨g, 3, none⟩ = some (.bool off) := by rw [h.cell]; rfl
theorem bu_lg (h : Blk w g 54 (buR Am n cm gc As ns cs off vl)) : w.cell? ⟨g, 4, none⟩ = some vl := by rw [h.cell]; rfl
theorem bu_setOff (h : Blk w g 54 (buR Am n cm gc As ns cs off vl)) (q : Bool) : Blk (w.setCell ⟨g, 3, none⟩ (.bool q)) g 54 (buR Am n cm gc As ns cs q vl) := h.setCell_same 3 (.bool q)
theorem bu_setLg (h : Blk w g 54 (buR Am n cm gc As ns cs off vl)) (v : Value) : Blk (w.setCell ⟨g, 4, none⟩ v) g 54 (buR Am n cm gc As ns cs off v) := h.setCell_same 4 v
/-- Is there a member, is the power there? -/
def mayN (off : Bool) (n : Nat) (m : Int) : Int := if off then 13 else if decide (0 ≤ m ∧ m < n) then 0 else 2
set_option maxRecDepth 100000 in
theorem may_any (m : Int) (h : Blk w g 54 (buR Am n cm gc As ns cs off vl)) : Calls Tryz.prog 52 #[MbP.at' g, .int .i64 m] w fun e w' => e = .returned (.int .i64 (mayN off n m)) ∧ Below w.heap.size w w' := by
  have q0 := bu_ms h
  have q3 := bu_off h
  clear h
  unfold MbP.at' mayN
  go_enter Tryz.func52, Tryz.ntmps52
  cases off with
  | true =>
    go_wp2_with fail
    go_ret
    exact ⟨rfl, Below.refl _ _⟩
  | false =>
    by_cases h0 : m < 0
    · have t1 : decide (m < 0) = true := by simp; omega
      have hm : ¬ (0 ≤ m ∧ m < n) := by omega
      rw [if_neg Bool.false_ne_true, if_neg (by simpa using hm)]
      clear hm
      go_wp2_with fail
      go_ret
      exact ⟨rfl, Below.refl _ _⟩
    · have t1 : decide (m < 0) = false := by simp; omega
      by_cases h1 : (n : Int) ≤ m
      · have hm : ¬ (0 ≤ m ∧ m < n) := by omega
        have t2 : decide ((n : Int) ≤ m) = true := by simp; omega
        rw [if_neg Bool.false_ne_true, if_neg (by simpa using hm)]
        clear hm
        go_wp2_with fail
        go_ret
        exact ⟨rfl, Below.refl _ _⟩
      · have hm : 0 ≤ m ∧ m < n := by omega
        have t2 : decide ((n : Int) ≤ m) = false := by simp; omega
        rw [if_neg Bool.false_ne_true, if_pos (by simpa using hm)]
        clear hm
        go_wp2_with fail
        go_ret
        exact ⟨rfl, Below.refl _ _⟩
end
end BuP
end Go.Proofs.YthogklchmhjjkaaGreat
set_option maxRecDepth 100000
namespace Go.Proofs.YthogklchmhjjkaaGreat
open Go.ChangeShapes Go.WideShapes Go.ChangeAt Go.RowKit
attribute [local go_sem] Gives GivesE
namespace BuP
open BuM MbM MbP
/-- Members of the document's: the i-th lies in block gs[i], and reads blocks of Ls i; ks i calls have turned it at most. -/
structure Mems (w : World) (gs : List Nat) (Ls : Nat → Nat → Prop) (k : Nat → Nat) (ms : List St) : Prop where
  len : gs.length = ms.length
  mem : ∀ (i gi : Nat) (st : St), gs[i]? = some gi → ms[i]? = some st → RS w gi (Ls i) (k i) st
  nd : ∀ (i j gi : Nat), gs[i]? = some gi → gs[j]? = some gi → i = j
  ro : ∀ (i j gi : Nat), gs[i]? = some gi → j < gs.length → ¬ Ls j gi
section
variable {w w' : World} {gs : List Nat} {Ls : Nat → Nat → Prop} {k : Nat → Nat} {ms : List St}
theorem Mems.mono {k' : Nat → Nat} (H : Mems w gs Ls k ms) (hk : ∀ i, i < gs.length → k i ≤ k' i) : Mems w gs Ls k' ms :=
  ⟨H.len, fun i gi st h1 h2 => (H.mem i gi st h1 h2).mono (hk i (List.getElem?_eq_some_iff.1 h1).1), H.nd, H.ro⟩
theorem Mems.at (H : Mems w gs Ls k ms) {i gi : Nat} (hi : gs[i]? = some gi) : ∃ st, ms[i]? = some st ∧ RS w gi (Ls i) (k i) st := by
  have hl := (List.getElem?_eq_some_iff.1 hi).1
  rw [H.len] at hl
  exact ⟨ms[i], List.getElem?_eq_getElem hl, H.mem i gi _ hi (List.getElem?_eq_getElem hl)⟩
theorem Mems.lt (H : Mems w gs Ls k ms) : (∀ gi ∈ gs, gi < w.heap.size) ∧ ∀ j b, j < gs.length → Ls j b → b < w.heap.size := by
  refine ⟨fun gi hg => ?_, fun j b hj hb => ?_⟩
  · obtain ⟨i, hi⟩ := List.mem_iff_getElem?.1 hg
    obtain ⟨st, _, h⟩ := H.at hi
    exact h.lt.1
  · obtain ⟨st, _, h⟩ := H.at (List.getElem?_eq_getElem hj)
    exact h.lt.2 b hb
theorem Mems.turn {T : Nat → Prop} (H : Mems w gs Ls k ms) (ht : Turn T w w') (h1 : ∀ gi ∈ gs, ¬ T gi) (h2 : ∀ j b, j < gs.length → Ls j b → ¬ T b) : Mems w' gs Ls k ms where
  len := H.len
  mem i gi st hi hs := (H.mem i gi st hi hs).turn ht (h1 gi (List.mem_of_getElem? hi)) fun b hb => h2 i b (List.getElem?_eq_some_iff.1 hi).1 hb
  nd := H.nd
  ro := H.ro
theorem Mems.below (H : Mems w gs Ls k ms) (hb : Below w.heap.size w w') : Mems w' gs Ls k ms :=
  H.turn (Turn.of_new (S := fun _ => False) hb) (fun _ _ e => e) fun _ _ _ _ e => e
/-- One of them is told something. -/
theorem Mems.put (H : Mems w gs Ls k ms) {i gi k' : Nat} {st' : St} (hi : gs[i]? = some gi) (ho : RSo w gi (Ls i) k' st' w') :
    ∃ Ls', Mems w' gs Ls' (fun j => if j = i then k' else k j) (ms.set i st') ∧ (∀ j b, Ls' j b → Ls j b ∨ w.heap.size ≤ b) ∧ Turn (fun b => b = gi) w w' := by
  obtain ⟨J, h1, h2, h3⟩ := ho
  have hlt := H.lt
  refine ⟨fun j => if j = i then J else Ls j, ⟨by rw [List.length_set]; exact H.len, fun j gj st hj hs => ?_, H.nd, fun j l gj hj hl => ?_⟩, fun j b hb => ?_, h3⟩
  · by_cases e : j = i
    · subst e
      rw [hi] at hj
      cases hj
      rw [List.getElem?_set_self (by rw [← H.len]; exact (List.getElem?_eq_some_iff.1 hi).1)] at hs
      cases hs
      rw [if_pos rfl, if_pos rfl]
      exact h1
    · rw [List.getElem?_set_ne (fun x => e x.symm)] at hs
      rw [if_neg e, if_neg e]
      exact (H.mem j gj st hj hs).turn h3 (fun x => e (H.nd j i gi (x ▸ hj) hi)) fun b hb x => H.ro i j gi hi (List.getElem?_eq_some_iff.1 hj).1 (x ▸ hb)
  · by_cases e : l = i
    · rw [if_pos e]
      intro hb
      rcases h2 gj hb with x | x
      · exact H.ro j i gj hj (e ▸ hl) x
      · have := hlt.1 gj (List.mem_of_getElem? hj); omega
    · rw [if_neg e]
      exact H.ro j l gj hj hl
  · replace hb : (if j = i then J else Ls j) b := hb
    by_cases e : j = i
    · subst e
      rw [if_pos rfl] at hb
      exact h2 b hb
    · rw [if_neg e] at hb
      exact .inl hb
end
end BuP
end Go.Proofs.YthogklchmhjjkaaGreat
