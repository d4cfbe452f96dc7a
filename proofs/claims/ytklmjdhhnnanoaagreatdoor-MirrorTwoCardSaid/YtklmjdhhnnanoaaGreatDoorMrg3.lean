/-
  The document's member: one field turned; Write.
  The document's member: Flush, Fail, Back.
  The document's member: made, copied.
  Texts of bytes.
  The document's member: Crash.
  The document's member: Set.
  The document's member: Mark.
  The document's member, by what is seen and durable: its calls.
  What is wanted of the program's member: the contracts of its calls, over whatever it lays in memory; a member of the program's beside one of the document's.
  Entries, steps and pointers as they lie in memory, the program's and the document's.
  The document's member's calls, by what is seen and durable.
  The document's bus: a label as a sector; what it is in memory; is there a member.
  The document's members of a bus, all together.
  The document's crash of all members.
  The document's bus in memory: members, cell, steps, log.
-/
import Derived.Test.YtklmjdhhnnanoaaGreatDoorMrg2
import Derived.Laws.IdiomStrings
set_option linter.unusedVariables false
set_option linter.unusedSimpArgs false
set_option maxRecDepth 100000
namespace Go.Proofs.YtklmjdhhnnanoaaGreatDoor
open Go.ChangeShapes Go.WideShapes Go.ChangeAt Go.RowKit
attribute [local go_sem] Gives GivesE
namespace MbP
open MbM
section
variable {w : World} {g : Nat} {I J : Nat → Prop} {s : Ls} {A1 A2 A3 A : Option Addr} {c1 c2 c3 c B : Nat} {l : List Pt}
theorem Rm.more (h : Rm w g I s A1 c1 A2 c2 A3 c3) (hIJ : ∀ b, I b → J b) (hg : ¬ J g) (hJ : ∀ b, J b → b < w.heap.size) : Rm w g J s A1 c1 A2 c2 A3 c3 where
  blk := h.blk
  dur := h.dur.mono hIJ
  log := h.log.mono hIJ
  marks := by
    obtain ⟨xs, h1, h2⟩ := h.marks
    exact ⟨xs, h1.mono hIJ, fun i l hi => by obtain ⟨A, c, h3, h4⟩ := h2 i l hi; exact ⟨A, c, h3, h4.mono hIJ⟩⟩
  out := hg
  lt := hJ
def nw (I : Nat → Prop) (B : Nat) (w : World) : Nat → Prop := fun b => I b ∨ (B ≤ b ∧ b < w.heap.size)
theorem Rm.nw (h : Rm w g I s A1 c1 A2 c2 A3 c3) (hB : g < B) : Rm w g (nw I B w) s A1 c1 A2 c2 A3 c3 :=
  h.more (fun _ e => .inl e) (fun e => e.elim h.out fun e => by omega) fun b e => e.elim (h.lt b) And.right
theorem tgt {v : Value} {j : Nat} : Turn (fun b => b = g) w (w.setCell ⟨g, j, none⟩ v) := Turn.setCell (S := fun b => b = g) w ⟨g, j, none⟩ v rfl
theorem Rm.keep {v : Value} {j : Nat} {s' : Ls} {A1' A2' A3' : Option Addr} {c1' c2' c3' : Nat} (h : Rm w g I s A1 c1 A2 c2 A3 c3) (hb : (mbC s.n A1 s.dur.length c1 A2 s.log.length c2 A3 s.marks.length c3 s.fails s.hurt).setIfInBounds j v = mbC s'.n A1' s'.dur.length c1' A2' s'.log.length c2' A3' s'.marks.length c3' s'.fails s'.hurt)
    (hd : Sli 65 atL I w A1' s'.dur s'.dur.length c1') (hl : Sli 65 atL I w A2' s'.log s'.log.length c2')
    (hm : ∃ xs : List SlE, Sli 1 slE I w A3' xs s'.marks.length c3' ∧ ∀ (i : Nat) (l : List Pt), s'.marks[i]? = some l → ∃ A c, xs[i]? = some (A, l.length, c) ∧ Sli 65 atL I w A l l.length c) :
    Rm (w.setCell ⟨g, j, none⟩ v) g I s' A1' c1' A2' c2' A3' c3' := by
  have hI : ∀ b, I b → b < w.heap.size → ¬ b = g := fun b hb _ e => h.out (e ▸ hb)
  refine ⟨by rw [← hb]; exact h.blk.setCell_same j v, hd.turn tgt hI, hl.turn tgt hI, ?_, h.out, fun b hb => by simp; exact h.lt b hb⟩
  obtain ⟨xs, h1, h2⟩ := hm
  exact ⟨xs, h1.turn tgt hI, fun i l hi => by obtain ⟨A, c, h3, h4⟩ := h2 i l hi; exact ⟨A, c, h3, h4.turn tgt hI⟩⟩
theorem Rm.setHurt (h : Rm w g I s A1 c1 A2 c2 A3 c3) (q : Bool) : Rm (w.setCell ⟨g, 5, none⟩ (.bool q)) g I { s with hurt := q } A1 c1 A2 c2 A3 c3 := h.keep rfl h.dur h.log h.marks
end
theorem RMo.of {w w1 w2 : World} {g : Nat} {I : Nat → Prop} {s : Ls} (hg : g < w.heap.size) (hb : Below w.heap.size w w1) (ht : Turn (fun b => b = g) w1 w2) (h : RM w2 g (nw I w.heap.size w1) s) : RMo w g I s w2 :=
  ⟨_, h, fun b e => e.imp id And.left, (Turn.of_new (S := fun b => b = g) hb).trans ht fun k hk => .inl hk⟩
def wrL (s : Ls) (i : Int) (x : Nat → Nat) : Ls := if s.may i then (if s.fails then s else { s with log := s.log ++ [⟨i, x⟩] }) else s
end MbP
end Go.Proofs.YtklmjdhhnnanoaaGreatDoor
set_option maxRecDepth 100000
namespace Go.Proofs.YtklmjdhhnnanoaaGreatDoor
open Go.ChangeShapes Go.WideShapes Go.ChangeAt Go.RowKit
attribute [local go_sem] Gives GivesE
namespace MbP
open MbM
def flE (s : Ls) : Int := if s.fails then 10 else 0
def flL (s : Ls) : Ls := if s.fails then s else { s with dur := s.dur ++ s.log, log := [] }
def failL (s : Ls) (q : Bool) : Ls := { s with fails := q, hurt := s.hurt || q }
def backE (s : Ls) (n : Int) : Int := if n < 0 ∨ (s.marks.length : Int) ≤ n then 2 else 0
def backL (s : Ls) (n : Int) : Ls := if n < 0 ∨ (s.marks.length : Int) ≤ n then s else { s with dur := s.marks.getD n.toNat [], log := [], hurt := true }
end MbP
end Go.Proofs.YtklmjdhhnnanoaaGreatDoor
set_option maxRecDepth 100000
namespace Go.Proofs.YtklmjdhhnnanoaaGreatDoor
open Go.ChangeShapes Go.WideShapes Go.ChangeAt Go.RowKit
attribute [local go_sem] Gives GivesE
namespace MbP
open MbM
def Ls.made (n : Int) : Ls := ⟨n, [], [], [], false, false⟩
theorem made_any (n : Int) (w : World) :
    Calls Tryz.prog 33 #[.int .i64 n] w fun e w' => e = .returned (.pointer (some ⟨w.heap.size, 0, none⟩)) ∧ RM w' w.heap.size (fun _ => False) (Ls.made n) ∧ Below w.heap.size w w' := by
  go_enter Tryz.func33, Tryz.ntmps33
  go_wp2_with fail
  go_ret
  exact ⟨rfl, ⟨.none, 0, .none, 0, .none, 0, ⟨Blk.new _ _ _, Sli.nil _ _ _ _, Sli.nil _ _ _ _, ⟨[], Sli.nil _ _ _ _, fun i l hi => by simp [Ls.made] at hi⟩, id, fun b hb => hb.elim⟩⟩, (Below.refl _ _).alloc (Nat.le_refl _) _⟩
end MbP
end Go.Proofs.YtklmjdhhnnanoaaGreatDoor
set_option maxRecDepth 100000
namespace Go.Proofs.YtklmjdhhnnanoaaGreatDoor
open Go.ChangeShapes Go.WideShapes Go.ChangeAt Go.RowKit
def u8s (l : List Nat) : List UInt8 := l.map UInt8.ofNat
theorem u8s_length (l : List Nat) : (u8s l).length = l.length := List.length_map _
def str (l : List Nat) : ByteArray := ⟨(u8s l).toArray⟩
theorem run_bytes_str {A : Option Addr} {l : List Nat} {n cap B : Nat} (hl : l.length = n) (h256 : ∀ x ∈ l, x < 256) (h0 : A = none → n = 0 ∧ cap = 0) {w : World} (hA : Byt w B A l) :
    (convert 93 9 (.slice A n cap)).run Tryz.prog w = .ok (.string (str l)) w := by
  by_cases hn : 0 < l.length
  · obtain ⟨b, o, rfl, _, hr⟩ := hA hn
    have h := run_convert_bytes_back (P := Tryz.prog) w 93 9 5 ⟨b, o, none⟩ cap (u8s l) Tryz.underlying93 Tryz.underlying5 Tryz.underlying9 (fun j hj => by
      rw [u8s_length] at hj
      have hg : l.getD j 0 = l[j] := by rw [List.getD_eq_getElem?_getD, List.getElem?_eq_getElem hj]; rfl
      have hlt := h256 l[j] (List.getElem_mem hj)
      rw [Addr.add_mid, hr j hj, hg]
      simp only [u8s, List.getElem_map]
      congr 2
      simp; omega)
    rw [u8s_length, hl] at h
    exact h
  · obtain rfl := List.eq_nil_of_length_eq_zero (show l.length = 0 by omega)
    obtain rfl : n = 0 := hl.symm
    cases A with
    | some ad => exact run_convert_bytes_back (P := Tryz.prog) w 93 9 5 ad cap [] Tryz.underlying93 Tryz.underlying5 Tryz.underlying9 fun j hj => absurd hj (by simp)
    | none =>
      rw [run_convert_bytes_string w 93 9 5 none 0 cap Tryz.underlying93 Tryz.underlying5 Tryz.underlying9]
      simp [Conv.bytesToString, str, u8s]
      rfl
structure Arg (w : World) (K : Option Addr) (key : List Nat) (kn kcap : Nat) : Prop where
  len : key.length = kn
  cap : kn ≤ kcap
  max : kcap ≤ maxLen
  b256 : B256 key
  none : K = none → kn = 0 ∧ kcap = 0
  byt : Byt w w.heap.size K key
theorem Arg.cut {w : World} {K : Option Addr} {key : List Nat} {kn kcap : Nat} (h : Arg w K key kn kcap) : Arg w K (key.take 1000) (min kn 1000) kcap where
  len := by rw [List.length_take, h.len]; omega
  cap := by have := h.cap; omega
  max := h.max
  b256 := h.b256.take 1000
  none e := by obtain ⟨h1, h2⟩ := h.none e; exact ⟨by omega, h2⟩
  byt := h.byt.take 1000
theorem Arg.on {w w' : World} {K : Option Addr} {key : List Nat} {kn kcap : Nat} (h : Arg w K key kn kcap) (hb : Below w.heap.size w w') : Arg w' K key kn kcap where
  len := h.len
  cap := h.cap
  max := h.max
  b256 := h.b256
  none := h.none
  byt := (h.byt.below hb (Nat.le_refl _)).more hb.size
theorem Own.arg {w : World} {B : Nat} {v : Value} {l : List Nat} (h : Own 5 .u8 w B v l) (hb : B256 l) : ∃ A cap, v = .slice A l.length cap ∧ Arg w A l l.length cap := by
  rcases h.form with ⟨rfl, rfl⟩ | ⟨g, cap, rfl, _, _, h1, h2, h3⟩
  · exact ⟨.none, 0, rfl, rfl, Nat.le_refl _, Nat.zero_le _, hb, fun _ => ⟨rfl, rfl⟩, Byt.none rfl⟩
  · exact ⟨_, cap, rfl, rfl, h1, h2, hb, (fun e => by cases e), h3.byt⟩
theorem Arg.str {w : World} {K : Option Addr} {key : List Nat} {kn kcap : Nat} (h : Arg w K key kn kcap) : (convert 93 9 (.slice K kn kcap)).run Tryz.prog w = .ok (.string (str key)) w := run_bytes_str h.len h.b256 h.none h.byt
end Go.Proofs.YtklmjdhhnnanoaaGreatDoor
set_option maxRecDepth 100000
namespace Go.Proofs.YtklmjdhhnnanoaaGreatDoor
open Go.ChangeShapes Go.WideShapes Go.ChangeAt Go.RowKit
attribute [local go_sem] Gives GivesE
theorem Arg.turn {S : Nat → Prop} {w w' : World} {K : Option Addr} {key : List Nat} {kn kcap : Nat} (h : Arg w K key kn kcap) (ht : Turn S w w') (hne : ∀ b o, 0 < key.length → K = some ⟨b, o, .none⟩ → ¬ S b) : Arg w' K key kn kcap where
  len := h.len
  cap := h.cap
  max := h.max
  b256 := h.b256
  none := h.none
  byt hn := by
    obtain ⟨b, o, e, hl, hr⟩ := h.byt hn
    exact ⟨b, o, e, Nat.lt_of_lt_of_le hl ht.size, fun i hi => ht.cell (p := ⟨b, o + i, .none⟩) (hr i hi) (hne b o hn e)⟩
namespace MbP
open MbM
def durK (s : Ls) (picks : List Nat) (k : Nat) : Ls := { s with dur := s.dur ++ keptN s.log picks k }
def crashL (s : Ls) (picks : List Nat) : Ls := { s with dur := s.dur ++ kept s.log picks, log := [] }
end MbP
end Go.Proofs.YtklmjdhhnnanoaaGreatDoor
set_option maxRecDepth 100000
namespace Go.Proofs.YtklmjdhhnnanoaaGreatDoor
open Go.ChangeShapes Go.WideShapes Go.ChangeAt Go.RowKit
attribute [local go_sem] Gives GivesE
namespace MbP
open MbM
def oth (l : List Pt) (i : Int) : List Pt := l.filter fun p => decide (p.i ≠ i)
theorem oth_step {l : List Pt} {k : Nat} {p : Pt} (h : l[k]? = some p) (i : Int) : oth (l.take (k + 1)) i = oth (l.take k) i ++ (if p.i = i then [] else [p]) := by
  unfold oth
  rw [List.take_add_one, h, List.filter_append]
  congr 1
  by_cases e : p.i = i <;> simp [e]
def setL (s : Ls) (i : Int) (x : Nat → Nat) : Ls := if s.may i then { s with dur := s.dur ++ [⟨i, x⟩], log := oth s.log i, hurt := true } else s
end MbP
end Go.Proofs.YtklmjdhhnnanoaaGreatDoor
set_option maxRecDepth 100000
namespace Go.Proofs.YtklmjdhhnnanoaaGreatDoor
open Go.ChangeShapes Go.WideShapes Go.ChangeAt Go.RowKit
attribute [local go_sem] Gives GivesE
namespace MbP
open MbM
def markL (s : Ls) : Ls := if 64 ≤ s.marks.length then s else { s with marks := s.marks ++ [s.dur ++ s.log] }
def markE (s : Ls) : Int := if 64 ≤ s.marks.length then 7 else 0
def markN (s : Ls) : Int := if 64 ≤ s.marks.length then 0 else s.marks.length
def spM (S : Nat → Prop) (xs : List SlE) (d : List Pt) : Sp := ⟨fun v => ∃ (A : Option Addr) (c : Nat), v = .slice A (xs.length + 1) c,
  fun v w => ∃ (A : Option Addr) (c : Nat), v = .slice A (xs.length + 1) c ∧ ∃ (A' : Option Addr) (c' : Nat), Sli 1 slE S w A (xs ++ [(A', d.length, c')]) (xs.length + 1) c ∧ Sli 65 atL S w A' d d.length c', .slice none (xs.length + 1) 0⟩
end MbP
end Go.Proofs.YtklmjdhhnnanoaaGreatDoor
set_option maxRecDepth 100000
namespace Go.Proofs.YtklmjdhhnnanoaaGreatDoor
open Go.ChangeShapes Go.WideShapes Go.ChangeAt Go.RowKit
namespace MbP
open MbM
theorem sem_made (n : Int) : (Ls.made n).sem = made n := rfl
def Ls.le (s : Ls) (k : Nat) : Prop := s.dur.length + s.log.length ≤ k ∧ ∀ m ∈ s.marks, m.length ≤ k
theorem le_mono {s : Ls} {k k' : Nat} (h : s.le k) (hk : k ≤ k') : s.le k' := ⟨Nat.le_trans h.1 hk, fun m hm => Nat.le_trans (h.2 m hm) hk⟩
def RS (w : World) (g : Nat) (I : Nat → Prop) (k : Nat) (st : St) : Prop := ∃ s, RM w g I s ∧ s.sem = st ∧ s.le k
def RSo (w : World) (g : Nat) (I : Nat → Prop) (k : Nat) (st : St) (w' : World) : Prop := ∃ J, RS w' g J k st ∧ (∀ b, J b → I b ∨ w.heap.size ≤ b) ∧ Turn (fun b => b = g) w w'
theorem RSo.of {w w' : World} {g k : Nat} {I : Nat → Prop} {s : Ls} {st : St} (h : RMo w g I s w') (he : s.sem = st) (hk : s.le k) : RSo w g I k st w' := by
  obtain ⟨J, h1, h2, h3⟩ := h
  exact ⟨J, ⟨s, h1, he, hk⟩, h2, h3⟩
end MbP
end Go.Proofs.YtklmjdhhnnanoaaGreatDoor
set_option maxRecDepth 100000
namespace Go.Proofs.YtklmjdhhnnanoaaGreatDoor
open Go.ChangeShapes Go.WideShapes Go.ChangeAt Go.RowKit
attribute [local go_sem] Gives GivesE
namespace MbP
open MbM
def at' (g : Nat) : Value := .pointer (some ⟨g, 0, none⟩)
abbrev RepT := World → Nat → (Nat → Prop) → (Nat → Prop) → Nat → St → Prop
def outP (rep : RepT) (w : World) (g : Nat) (M I : Nat → Prop) (k : Nat) (st : St) (w' : World) : Prop :=
  ∃ M' I', rep w' g M' I' k st ∧ (∀ b, M' b → M b ∨ w.heap.size ≤ b) ∧ (∀ b, I' b → M b ∨ I b ∨ w.heap.size ≤ b) ∧ Turn M w w'
structure MemB (rep : RepT) : Prop where
  lt : ∀ {w g M I k st}, rep w g M I k st → ∀ b, M b ∨ I b → b < w.heap.size
  frame : ∀ {w w' g M I k st} {T : Nat → Prop}, rep w g M I k st → Turn T w w' → (∀ b, M b ∨ I b → ¬ T b) → rep w' g M I k st
  mono : ∀ {w g M I k k' st}, rep w g M I k st → k ≤ k' → rep w g M I k' st
  own : ∀ {w g M I k st}, rep w g M I k st → ∀ b, M b → ¬ I b
  new : ∀ n : Int, 1 ≤ n → n ≤ 65536 → ∀ w, Calls Tryz.prog 32 #[.int .i64 n] w fun e w' => ∃ g M I, e = .returned (.tuple #[at' g, .int .i64 0]) ∧ rep w' g M I 0 (made n) ∧ (∀ b, M b ∨ I b → w.heap.size ≤ b) ∧ Below w.heap.size w w'
  bad : ∀ n : Int, ¬ (1 ≤ n ∧ n ≤ 65536) → ∀ w, Calls Tryz.prog 32 #[.int .i64 n] w fun e w' => e = .returned (.tuple #[.pointer none, .int .i64 2]) ∧ Below w.heap.size w w'
  read : ∀ {w g M I k st}, rep w g M I k st → st.ok → k ≤ 210000 → ∀ i : Int, Calls Tryz.prog 94 #[at' g, .int .i64 i] w fun e w' => e = .returned (.tuple #[.agg (ar 64 (rdS st i)), .int .i64 (rdE st i)]) ∧ Below w.heap.size w w'
  look : ∀ {w g M I k st}, rep w g M I k st → st.ok → k ≤ 210000 → ∀ i : Int, Calls Tryz.prog 13 #[at' g, .int .i64 i] w fun e w' => e = .returned (.tuple #[.agg (ar 64 (lkS st i)), .int .i64 (lkE st i)]) ∧ Below w.heap.size w w'
  len : ∀ {w g M I k st}, rep w g M I k st → Calls Tryz.prog 12 #[at' g] w fun e w' => e = .returned (.int .i64 st.n) ∧ Below w.heap.size w w'
  unflushed : ∀ {w g M I k st}, rep w g M I k st → Calls Tryz.prog 15 #[at' g] w fun e w' => e = .returned (.int .i64 (st.log.length : Nat)) ∧ Below w.heap.size w w'
  write : ∀ {w g M I k st}, rep w g M I k st → st.ok → k ≤ 210000 → ∀ (i : Int) (x : Nat → Nat), (∀ j, x j < 256) → Calls Tryz.prog 89 #[at' g, .int .i64 i, .agg (ar 64 x)] w fun e w' => e = .returned (.int .i64 (rdE st i)) ∧ outP rep w g M I (k + 1) (wrT st i x) w'
  flush : ∀ {w g M I k st}, rep w g M I k st → st.ok → k ≤ 210000 → Calls Tryz.prog 91 #[at' g] w fun e w' => e = .returned (.int .i64 (MbM.flE st)) ∧ outP rep w g M I (k + 1) (flT st) w'
  writeF : ∀ {w g M I k st}, rep w g M I k st → st.ok → k ≤ 210000 → st.fails = true → ∀ (i : Int) (x : Nat → Nat), (∀ j, x j < 256) → Calls Tryz.prog 89 #[at' g, .int .i64 i, .agg (ar 64 x)] w fun e w' => e = .returned (.int .i64 (rdE st i)) ∧ outP rep w g M I k st w'
  flushF : ∀ {w g M I k st}, rep w g M I k st → st.ok → k ≤ 210000 → st.fails = true → Calls Tryz.prog 91 #[at' g] w fun e w' => e = .returned (.int .i64 10) ∧ outP rep w g M I k st w'
  crash : ∀ {w g M I k st}, rep w g M I k st → st.ok → k ≤ 210000 → ∀ (P : Option Addr) (picks : List Nat) (pn pc : Nat), Arg w P picks pn pc → (∀ b o, 0 < picks.length → P = some ⟨b, o, none⟩ → ¬ (M b ∨ I b)) → Calls Tryz.prog 177 #[at' g, .slice P pn pc] w fun e w' => e = .returned (.int .i64 0) ∧ outP rep w g M I (k + 1) (crash st picks) w'
  set : ∀ {w g M I k st}, rep w g M I k st → st.ok → k ≤ 210000 → ∀ (i : Int) (x : Nat → Nat), (∀ j, x j < 256) → Calls Tryz.prog 24 #[at' g, .int .i64 i, .agg (ar 64 x)] w fun e w' => e = .returned (.int .i64 (lkE st i)) ∧ outP rep w g M I (k + 1) (seT st i x) w'
  mark : ∀ {w g M I k st}, rep w g M I k st → st.ok → k ≤ 210000 → Calls Tryz.prog 160 #[at' g] w fun e w' => e = .returned (.tuple #[.int .i64 (mkN st), .int .i64 (mkE st)]) ∧ outP rep w g M I (k + 1) (mkT st) w'
  back : ∀ {w g M I k st}, rep w g M I k st → st.ok → k ≤ 210000 → ∀ n : Int, Calls Tryz.prog 162 #[at' g, .int .i64 n] w fun e w' => e = .returned (.int .i64 (bkE st n)) ∧ outP rep w g M I (k + 1) (bkT st n) w'
  fail : ∀ {w g M I k st}, rep w g M I k st → ∀ q : Bool, Calls Tryz.prog 25 #[at' g, .bool q] w fun e w' => e = .returned (.int .i64 0) ∧ outP rep w g M I (k + 1) (fail st q) w'
structure J2 (rep : RepT) (B : Nat) (w : World) (m : Nat) (M I : Nat → Prop) (k : Nat) (st : St) (g : Nat) (L : Nat → Prop) (k2 : Nat) (st2 : St) : Prop where
  prog : rep w m M I k st
  ref : RS w g L k2 st2
  ok : st.ok
  apart : ∀ b, M b ∨ I b → ¬ (b = g ∨ L b)
  low : ∀ b, M b ∨ I b ∨ L b ∨ b = g → B ≤ b
  base : B ≤ w.heap.size
section
variable {rep : RepT} {B : Nat} {w w' : World} {m : Nat} {M I : Nat → Prop} {k : Nat} {st st' : St} {g : Nat} {L : Nat → Prop} {k2 : Nat} {st2 : St}
theorem RS.turn {T : Nat → Prop} (h : RS w g L k st) (ht : Turn T w w') (hg : ¬ T g) (hL : ∀ b, L b → ¬ T b) : RS w' g L k st := by
  obtain ⟨s, ⟨A1, c1, A2, c2, A3, c3, hr⟩, h2⟩ := h
  exact ⟨s, ⟨A1, c1, A2, c2, A3, c3, hr.turn ht hg hL⟩, h2⟩
theorem RS.lt (h : RS w g L k st) : g < w.heap.size ∧ ∀ b, L b → b < w.heap.size := by
  obtain ⟨s, ⟨A1, c1, A2, c2, A3, c3, hr⟩, h2⟩ := h
  exact ⟨hr.blk.lt, hr.lt⟩
theorem RS.out (h : RS w g L k st) : ¬ L g := by
  obtain ⟨s, ⟨A1, c1, A2, c2, A3, c3, hr⟩, h2⟩ := h
  exact hr.out
theorem RS.mono {k' : Nat} (h : RS w g L k st) (hk : k ≤ k') : RS w g L k' st := by
  obtain ⟨s, h1, h2, h3⟩ := h
  exact ⟨s, h1, h2, le_mono h3 hk⟩
def Grew (w : World) (M I L : Nat → Prop) (g : Nat) (w' : World) (M' I' L' : Nat → Prop) : Prop :=
  (∀ b, M' b → M b ∨ w.heap.size ≤ b) ∧ (∀ b, I' b → M b ∨ I b ∨ w.heap.size ≤ b) ∧ (∀ b, L' b → L b ∨ w.heap.size ≤ b) ∧ Turn (fun b => M b ∨ b = g) w w'
theorem Grew.refl (w : World) (M I L : Nat → Prop) (g : Nat) : Grew w M I L g w M I L := ⟨fun _ h => .inl h, fun _ h => .inr (.inl h), fun _ h => .inl h, Turn.refl _ _⟩
theorem Grew.trans {w2 : World} {M' I' L' M2 I2 L2 : Nat → Prop} (h : Grew w M I L g w' M' I' L') (h2 : Grew w' M' I' L' g w2 M2 I2 L2) : Grew w M I L g w2 M2 I2 L2 := by
  have hs := h.2.2.2.size
  refine ⟨fun b hb => ?_, fun b hb => ?_, fun b hb => ?_, h.2.2.2.trans h2.2.2.2 fun b hb => ?_⟩
  · rcases h2.1 b hb with e | e
    · exact h.1 b e
    · exact .inr (Nat.le_trans hs e)
  · rcases h2.2.1 b hb with e | e | e
    · rcases h.1 b e with e | e
      · exact .inl e
      · exact .inr (.inr e)
    · exact h.2.1 b e
    · exact .inr (.inr (Nat.le_trans hs e))
  · rcases h2.2.2.1 b hb with e | e
    · exact h.2.2.1 b e
    · exact .inr (Nat.le_trans hs e)
  · rcases hb with e | e
    · exact (h.1 b e).imp .inl id
    · exact .inl (.inr e)
theorem Grew.below {hb : Below w.heap.size w w'} : Grew w M I L g w' M I L := ⟨fun _ h => .inl h, fun _ h => .inr (.inl h), fun _ h => .inl h, Turn.of_new hb⟩
theorem Grew.low {M' I' L' : Nat → Prop} (h : J2 rep B w m M I k st g L k2 st2) (hg : Grew w M I L g w' M' I' L') : Below B w w' := hg.2.2.2.below h.base fun b e => by
  rcases e with e | e
  · exact h.low b (.inl e)
  · exact h.low b (.inr (.inr (.inr e)))
end
end MbP
end Go.Proofs.YtklmjdhhnnanoaaGreatDoor
set_option maxRecDepth 100000
namespace Go.Proofs.YtklmjdhhnnanoaaGreatDoor
open Go.ChangeShapes Go.WideShapes Go.ChangeAt Go.RowKit
attribute [local go_sem] Gives GivesE
namespace BuP
open BuM MbM
def ar64 (f : Nat → Nat) : List Value := (ar 64 f).toList
theorem ar64_len (f : Nat → Nat) : (ar64 f).length = 64 := by unfold ar64; rw [Array.length_toList, size_ar]
theorem ar64_one (f : Nat → Nat) : ∀ u ∈ ar64 f, u.oneCell' = true := fun u hu =>
  Array.all_eq_true_iff_forall_mem.1 (row_one (n := 64) (f := fun j => Value.int .u8 (f j : Nat)) fun _ _ => rfl) u (by simpa [ar64, ar] using hu)
def enL (x : Ent) : List Value := .int .i64 x.d :: .int .i64 x.m :: .int .i64 x.i :: (ar64 x.s ++ [.int .i64 x.e])
theorem enL_len (x : Ent) : (enL x).length = 68 := by unfold enL; simp [ar64_len]
theorem enL_one (x : Ent) : ∀ u ∈ enL x, u.oneCell' = true := fun u hu => by
  unfold enL at hu
  simp only [List.mem_cons, List.mem_append, List.not_mem_nil, or_false] at hu
  rcases hu with rfl | rfl | rfl | hu | rfl
  · rfl
  · rfl
  · rfl
  · exact ar64_one _ u hu
  · rfl
theorem eltEnR : EltX 187 68 enL := ⟨by omega, enL_len, enL_one, elt_info (by kernel_rfl) (by kernel_rfl) (by kernel_rfl)⟩
theorem eltEnP : EltX 89 68 enL := ⟨by omega, enL_len, enL_one, elt_info (by kernel_rfl) (by kernel_rfl) (by kernel_rfl)⟩
theorem undEnP : Tryz.prog.underlying 86 = some (.slice 89) := Tryz.underlying86
structure SlB where
  A : Option Addr
  c : Nat
def stL (x : Stp × SlB) : List Value := .int .i64 x.1.a :: .int .i64 x.1.kind :: .int .i64 x.1.m :: .int .i64 x.1.i :: .int .i64 x.1.n :: (ar64 x.1.s ++ [.slice x.2.A x.1.picks.length x.2.c])
theorem stL_len (x : Stp × SlB) : (stL x).length = 70 := by unfold stL; simp [ar64_len]
theorem stL_one (x : Stp × SlB) : ∀ u ∈ stL x, u.oneCell' = true := fun u hu => by
  unfold stL at hu
  simp only [List.mem_cons, List.mem_append, List.not_mem_nil, or_false] at hu
  rcases hu with rfl | rfl | rfl | rfl | rfl | hu | rfl
  · rfl
  · rfl
  · rfl
  · rfl
  · rfl
  · exact ar64_one _ u hu
  · rfl
theorem eltStR : EltX 96 70 stL := ⟨by omega, stL_len, stL_one, elt_info (by kernel_rfl) (by kernel_rfl) (by kernel_rfl)⟩
theorem eltStP : EltX 95 70 stL := ⟨by omega, stL_len, stL_one, elt_info (by kernel_rfl) (by kernel_rfl) (by kernel_rfl)⟩
theorem undStR : Tryz.prog.underlying 47 = some (.slice 96) := Tryz.underlying47
theorem undStP : Tryz.prog.underlying 24 = some (.slice 95) := Tryz.underlying24
def ptL (g : Nat) : List Value := [.pointer (some ⟨g, 0, none⟩)]
theorem ptL_len (g : Nat) : (ptL g).length = 1 := rfl
theorem ptL_one (g : Nat) : ∀ u ∈ ptL g, u.oneCell' = true := fun u hu => by
  unfold ptL at hu
  simp only [List.mem_cons, List.not_mem_nil, or_false] at hu
  subst hu; rfl
theorem eltPtR : EltX 56 1 ptL := ⟨by omega, ptL_len, ptL_one, elt_info (by kernel_rfl) (by kernel_rfl) (by kernel_rfl)⟩
theorem eltPtP : EltX 51 1 ptL := ⟨by omega, ptL_len, ptL_one, elt_info (by kernel_rfl) (by kernel_rfl) (by kernel_rfl)⟩
section
variable {w : World} {b o : Nat}
theorem en_m {x : Ent} (h : w.rangeAt b o (enL x)) : w.cell? ⟨b, o + 1, none⟩ = some (.int .i64 x.m) := h 1 _ rfl
theorem en_s {x : Ent} (h : w.rangeAt b o (enL x)) : w.rangeAt b (o + 3) (ar 64 x.s).toList := fun j v hj => by
  have hl := (List.getElem?_eq_some_iff.1 hj).1
  have := h (j + 3) v (by unfold enL; rw [List.getElem?_cons_succ, List.getElem?_cons_succ, List.getElem?_cons_succ, List.getElem?_append_left (show j < (ar64 _).length from hl)]; exact hj)
  rwa [show o + (j + 3) = o + 3 + j by omega] at this
theorem en_e {x : Ent} (h : w.rangeAt b o (enL x)) : w.cell? ⟨b, o + 67, none⟩ = some (.int .i64 x.e) :=
  h 67 _ (by unfold enL; rw [List.getElem?_cons_succ, List.getElem?_cons_succ, List.getElem?_cons_succ, List.getElem?_append_right (by rw [ar64_len]; exact Nat.le_refl _), ar64_len]; rfl)
theorem st_a {x : Stp × SlB} (h : w.rangeAt b o (stL x)) : w.cell? ⟨b, o, none⟩ = some (.int .i64 x.1.a) := h 0 _ rfl
theorem st_k {x : Stp × SlB} (h : w.rangeAt b o (stL x)) : w.cell? ⟨b, o + 1, none⟩ = some (.int .i64 x.1.kind) := h 1 _ rfl
theorem st_m {x : Stp × SlB} (h : w.rangeAt b o (stL x)) : w.cell? ⟨b, o + 2, none⟩ = some (.int .i64 x.1.m) := h 2 _ rfl
theorem st_i {x : Stp × SlB} (h : w.rangeAt b o (stL x)) : w.cell? ⟨b, o + 3, none⟩ = some (.int .i64 x.1.i) := h 3 _ rfl
theorem st_n {x : Stp × SlB} (h : w.rangeAt b o (stL x)) : w.cell? ⟨b, o + 4, none⟩ = some (.int .i64 x.1.n) := h 4 _ rfl
theorem st_s {x : Stp × SlB} (h : w.rangeAt b o (stL x)) : w.rangeAt b (o + 5) (ar 64 x.1.s).toList := fun j v hj => by
  have hl := (List.getElem?_eq_some_iff.1 hj).1
  have := h (j + 5) v (by unfold stL; rw [List.getElem?_cons_succ, List.getElem?_cons_succ, List.getElem?_cons_succ, List.getElem?_cons_succ, List.getElem?_cons_succ, List.getElem?_append_left (show j < (ar64 _).length from hl)]; exact hj)
  rwa [show o + (j + 5) = o + 5 + j by omega] at this
theorem st_p {x : Stp × SlB} (h : w.rangeAt b o (stL x)) : w.cell? ⟨b, o + 69, none⟩ = some (.slice x.2.A x.1.picks.length x.2.c) :=
  h 69 _ (by unfold stL; rw [List.getElem?_cons_succ, List.getElem?_cons_succ, List.getElem?_cons_succ, List.getElem?_cons_succ, List.getElem?_cons_succ, List.getElem?_append_right (by rw [ar64_len]; exact Nat.le_refl _), ar64_len]; rfl)
theorem pt_p {g : Nat} (h : w.rangeAt b o (ptL g)) : w.cell? ⟨b, o, none⟩ = some (.pointer (some ⟨g, 0, none⟩)) := h 0 _ rfl
end
theorem tSt (x : Stp × SlB) : RowT 96 (stL x).toArray.size := by
  rw [List.size_toArray, stL_len]
  exact ⟨by kernel_rfl, _, Tryz.underlying96, rfl⟩
theorem tStP (x : Stp × SlB) : RowT 95 (stL x).toArray.size := by
  rw [List.size_toArray, stL_len]
  exact ⟨by kernel_rfl, _, Tryz.underlying95, rfl⟩
theorem tEnP (x : Ent) : RowT 89 (enL x).toArray.size := by
  rw [List.size_toArray, enL_len]
  exact ⟨by kernel_rfl, _, Tryz.underlying89, rfl⟩
end BuP
end Go.Proofs.YtklmjdhhnnanoaaGreatDoor
set_option maxRecDepth 100000
namespace Go.Proofs.YtklmjdhhnnanoaaGreatDoor
open Go.ChangeShapes Go.WideShapes Go.ChangeAt Go.RowKit
namespace MbP
open MbM
section
variable {w w' : World} {g : Nat} {L : Nat → Prop} {k : Nat} {st : St}
theorem rs_made (n : Int) (w : World) : Calls Tryz.prog 33 #[.int .i64 n] w fun e w' => e = .returned (at' w.heap.size) ∧ RS w' w.heap.size (fun _ => False) 0 (made n) ∧ Below w.heap.size w w' :=
  (made_any n w).mono fun e w' ⟨e1, e2, e3⟩ => ⟨e1, ⟨Ls.made n, e2, sem_made n, ⟨Nat.le_refl _, fun m hm => (by cases hm)⟩⟩, e3⟩
theorem RS.clean (h : RS w g L k st) : RS (w.setCell ⟨g, 5, none⟩ (.bool false)) g L (k + 1) (MbM.clean st) := by
  obtain ⟨s, ⟨A1, c1, A2, c2, A3, c3, h1⟩, rfl, h3⟩ := h
  exact ⟨{ s with hurt := false }, ⟨A1, c1, A2, c2, A3, c3, h1.setHurt false⟩, rfl, le_mono (s := s) h3 (by omega)⟩
theorem RS.fields (h : RS w g L k st) : w.cell? ⟨g, 0, none⟩ = some (.int .i64 st.n) ∧ (∃ A c, w.cell? ⟨g, 2, none⟩ = some (.slice A st.log.length c)) ∧ w.cell? ⟨g, 5, none⟩ = some (.bool st.hurt) ∧ (∃ u, w.cell? ⟨g, 1, none⟩ = some u) := by
  obtain ⟨s, ⟨A1, c1, A2, c2, A3, c3, h1⟩, rfl, h3⟩ := h
  exact ⟨h1.blk.cell 0, ⟨A2, c2, h1.blk.cell 2⟩, h1.blk.cell 5, ⟨_, h1.blk.cell 1⟩⟩
theorem rdS_lt {st : St} (h : st.ok) (i : Int) : ∀ j, rdS st i j < 256 := fun j => by
  unfold rdS
  split
  · split
    · exact zero_lt j
    · exact seen_lt h i j
  · exact zero_lt j
end
end MbP
end Go.Proofs.YtklmjdhhnnanoaaGreatDoor
set_option maxRecDepth 100000
namespace Go.Proofs.YtklmjdhhnnanoaaGreatDoor
open Go.ChangeShapes Go.WideShapes Go.ChangeAt Go.RowKit
attribute [local go_sem] Gives GivesE
namespace BuP
open BuM MbM MbP
def padK (t : Nat → Nat) (k : Nat) : Nat → Nat := fun j => if j < k then t j else 0
def buR (Am : Option Addr) (n cm gc : Nat) (As : Option Addr) (ns cs : Nat) (off : Bool) (vl : Value) : Array Value := #[.slice Am n cm, .pointer (some ⟨gc, 0, none⟩), .slice As ns cs, .bool off, vl]
section
variable {w : World} {g n cm gc ns cs : Nat} {Am As : Option Addr} {off : Bool} {vl : Value}
def mayN (off : Bool) (n : Nat) (m : Int) : Int := if off then 13 else if decide (0 ≤ m ∧ m < n) then 0 else 2
end
end BuP
end Go.Proofs.YtklmjdhhnnanoaaGreatDoor
set_option maxRecDepth 100000
namespace Go.Proofs.YtklmjdhhnnanoaaGreatDoor
open Go.ChangeShapes Go.WideShapes Go.ChangeAt Go.RowKit
attribute [local go_sem] Gives GivesE
namespace BuP
open BuM MbM MbP
structure Mems (w : World) (gs : List Nat) (Ls : Nat → Nat → Prop) (k : Nat → Nat) (ms : List St) : Prop where
  len : gs.length = ms.length
  mem : ∀ (i gi : Nat) (st : St), gs[i]? = some gi → ms[i]? = some st → RS w gi (Ls i) (k i) st
  nd : ∀ (i j gi : Nat), gs[i]? = some gi → gs[j]? = some gi → i = j
  ro : ∀ (i j gi : Nat), gs[i]? = some gi → j < gs.length → ¬ Ls j gi
section
variable {w w' : World} {gs : List Nat} {Ls : Nat → Nat → Prop} {k : Nat → Nat} {ms : List St}
theorem Mems.mono {k' : Nat → Nat} (H : Mems w gs Ls k ms) (hk : ∀ i, i < gs.length → k i ≤ k' i) : Mems w gs Ls k' ms :=
  ⟨H.len, fun i gi st h1 h2 => (H.mem i gi st h1 h2).mono (hk i (List.getElem?_eq_some_iff.1 h1).1), H.nd, H.ro⟩
theorem Mems.at (H : Mems w gs Ls k ms) {i gi : Nat} (hi : gs[i]? = some gi) : ∃ st, ms[i]? = some st ∧ RS w gi (Ls i) (k i) st := by
  have hl := (List.getElem?_eq_some_iff.1 hi).1
  rw [H.len] at hl
  exact ⟨ms[i], List.getElem?_eq_getElem hl, H.mem i gi _ hi (List.getElem?_eq_getElem hl)⟩
theorem Mems.lt (H : Mems w gs Ls k ms) : (∀ gi ∈ gs, gi < w.heap.size) ∧ ∀ j b, j < gs.length → Ls j b → b < w.heap.size := by
  refine ⟨fun gi hg => ?_, fun j b hj hb => ?_⟩
  · obtain ⟨i, hi⟩ := List.mem_iff_getElem?.1 hg
    obtain ⟨st, _, h⟩ := H.at hi
    exact h.lt.1
  · obtain ⟨st, _, h⟩ := H.at (List.getElem?_eq_getElem hj)
    exact h.lt.2 b hb
theorem Mems.turn {T : Nat → Prop} (H : Mems w gs Ls k ms) (ht : Turn T w w') (h1 : ∀ gi ∈ gs, ¬ T gi) (h2 : ∀ j b, j < gs.length → Ls j b → ¬ T b) : Mems w' gs Ls k ms where
  len := H.len
  mem i gi st hi hs := (H.mem i gi st hi hs).turn ht (h1 gi (List.mem_of_getElem? hi)) fun b hb => h2 i b (List.getElem?_eq_some_iff.1 hi).1 hb
  nd := H.nd
  ro := H.ro
theorem Mems.below (H : Mems w gs Ls k ms) (hb : Below w.heap.size w w') : Mems w' gs Ls k ms :=
  H.turn (Turn.of_new (S := fun _ => False) hb) (fun _ _ e => e) fun _ _ _ _ e => e
theorem Mems.put (H : Mems w gs Ls k ms) {i gi k' : Nat} {st' : St} (hi : gs[i]? = some gi) (ho : RSo w gi (Ls i) k' st' w') :
    ∃ Ls', Mems w' gs Ls' (fun j => if j = i then k' else k j) (ms.set i st') ∧ (∀ j b, Ls' j b → Ls j b ∨ w.heap.size ≤ b) ∧ Turn (fun b => b = gi) w w' := by
  obtain ⟨J, h1, h2, h3⟩ := ho
  have hlt := H.lt
  refine ⟨fun j => if j = i then J else Ls j, ⟨by rw [List.length_set]; exact H.len, fun j gj st hj hs => ?_, H.nd, fun j l gj hj hl => ?_⟩, fun j b hb => ?_, h3⟩
  · by_cases e : j = i
    · subst e
      rw [hi] at hj
      cases hj
      rw [List.getElem?_set_self (by rw [← H.len]; exact (List.getElem?_eq_some_iff.1 hi).1)] at hs
      cases hs
      rw [if_pos rfl, if_pos rfl]
      exact h1
    · rw [List.getElem?_set_ne (fun x => e x.symm)] at hs
      rw [if_neg e, if_neg e]
      exact (H.mem j gj st hj hs).turn h3 (fun x => e (H.nd j i gi (x ▸ hj) hi)) fun b hb x => H.ro i j gi hi (List.getElem?_eq_some_iff.1 hj).1 (x ▸ hb)
  · by_cases e : l = i
    · rw [if_pos e]
      intro hb
      rcases h2 gj hb with x | x
      · exact H.ro j i gj hj (e ▸ hl) x
      · have := hlt.1 gj (List.mem_of_getElem? hj); omega
    · rw [if_neg e]
      exact H.ro j l gj hj hl
  · replace hb : (if j = i then J else Ls j) b := hb
    by_cases e : j = i
    · subst e
      rw [if_pos rfl] at hb
      exact h2 b hb
    · rw [if_neg e] at hb
      exact .inl hb
end
end BuP
end Go.Proofs.YtklmjdhhnnanoaaGreatDoor
set_option maxRecDepth 100000
namespace Go.Proofs.YtklmjdhhnnanoaaGreatDoor
open Go.ChangeShapes Go.WideShapes Go.ChangeAt Go.RowKit
attribute [local go_sem] Gives GivesE
namespace BuP
open BuM MbM MbP
def byL (x : Nat) : List Value := [.int .u8 (x : Nat)]
theorem undBy : Tryz.prog.underlying 93 = some (.slice 5) := Tryz.underlying93
end BuP
end Go.Proofs.YtklmjdhhnnanoaaGreatDoor
set_option maxRecDepth 100000
namespace Go.Proofs.YtklmjdhhnnanoaaGreatDoor
open Go.ChangeShapes Go.WideShapes Go.ChangeAt Go.RowKit
attribute [local go_sem] Gives GivesE
theorem Blk.neT {w : World} {g h : Nat} {t u : TypeId} {cs ds : Array Value} (H : Blk w g t cs) (K : Blk w h u ds) (e : t ≠ u) : g ≠ h := fun x => by
  subst x
  have h1 : w.heap[g]? = some (.cells cs t (0, 0)) := H
  have h2 : w.heap[g]? = some (.cells ds u (0, 0)) := K
  rw [h1] at h2
  simp only [Option.some.injEq, Obj.cells.injEq] at h2
  exact e h2.2.1
namespace BuP
open BuM MbM MbP
theorem rs_obj {w : World} {g k : Nat} {L : Nat → Prop} {st : St} (h : RS w g L k st) : ∃ cs, Blk w g 61 cs := by
  obtain ⟨s, ⟨A1, c1, A2, c2, A3, c3, hr⟩, _⟩ := h
  exact ⟨_, hr.blk⟩
structure Fp where
  gs : List Nat
  Ls : Nat → Nat → Prop
  Am : Option Addr
  cm : Nat
  gc : Nat
  As : Option Addr
  cs : Nat
  sl : List SlB
  rd : Nat → Prop
  vc : Value
  hist : List ClP.Held
  vl : Value
def mutR (g : Nat) (F : Fp) (q : Nat) : Prop := q = g ∨ q ∈ F.gs ∨ q = F.gc ∨ F.vc.ownBlock = some q ∨ F.vl.ownBlock = some q
def rdR (F : Fp) (q : Nat) : Prop := F.rd q ∨ ∃ j, j < F.gs.length ∧ F.Ls j q
structure Rb (w : World) (g : Nat) (F : Fp) (k : Nat) (b : Bs) : Prop where
  blk : Blk w g 50 (buR F.Am b.ms.length F.cm F.gc F.As b.steps.length F.cs b.off F.vl)
  arr : Sli 1 ptL F.rd w F.Am F.gs b.ms.length F.cm
  mem : Mems w F.gs F.Ls (fun _ => k) b.ms
  cel : ClP.Rc w F.gc F.vc F.hist b.c
  sll : F.sl.length = b.steps.length
  stp : Sli 70 stL F.rd w F.As (b.steps.zip F.sl) b.steps.length F.cs
  pk : ∀ s x, (s, x) ∈ b.steps.zip F.sl → Arg w x.A s.picks s.picks.length x.c ∧ s.picks.length ≤ 140737488351232 ∧ ∀ q o, 0 < s.picks.length → x.A = some ⟨q, o, none⟩ → F.rd q
  log : OwnX 187 68 enL w 0 F.vl b.log
  rlt : ∀ q, F.rd q → q < w.heap.size
  sep : ∀ q, rdR F q → ¬ mutR g F q
  sz : b.ms.length ≤ 100 ∧ b.steps.length ≤ 1000 ∧ F.hist.length ≤ k + 1 ∧ b.log.length ≤ k
  cmx : b.c.1 ≤ ClP.most
section
variable {w w' : World} {g k : Nat} {F : Fp} {b : Bs}
theorem Rb.mlt (H : Rb w g F k b) : ∀ q, mutR g F q → q < w.heap.size := fun q e => by
  rcases e with e | e | e | e | e
  · rw [e]; exact H.blk.lt
  · exact H.mem.lt.1 q e
  · rw [e]; exact H.cel.blk.lt
  · exact (H.cel.lg.own q e).2
  · exact (H.log.own q e).2
theorem Rb.ilt (H : Rb w g F k b) : ∀ q, rdR F q → q < w.heap.size := fun q e => by
  rcases e with e | ⟨j, hj, e⟩
  · exact H.rlt q e
  · exact H.mem.lt.2 j q hj e
theorem Rb.turn {T : Nat → Prop} (H : Rb w g F k b) (ht : Turn T w w') (hT : ∀ q, mutR g F q ∨ rdR F q → ¬ T q) : Rb w' g F k b where
  blk := H.blk.turn ht (hT g (.inl (.inl rfl)))
  arr := H.arr.turn ht fun q hq _ => hT q (.inr (.inl hq))
  mem := H.mem.turn ht (fun q hq => hT q (.inl (.inr (.inl hq)))) fun j q hj hq => hT q (.inr (.inr ⟨j, hj, hq⟩))
  cel := H.cel.turn ht (hT _ (.inl (.inr (.inr (.inl rfl))))) fun q hq => hT q (.inl (.inr (.inr (.inr (.inl hq)))))
  sll := H.sll
  stp := H.stp.turn ht fun q hq _ => hT q (.inr (.inl hq))
  pk s x hx := ⟨(H.pk s x hx).1.turn ht fun q o h1 h2 => hT q (.inr (.inl ((H.pk s x hx).2.2 q o h1 h2))), (H.pk s x hx).2⟩
  log := H.log.turn ht fun q hq => hT q (.inl (.inr (.inr (.inr (.inr hq)))))
  rlt q hq := Nat.lt_of_lt_of_le (H.rlt q hq) ht.size
  sep := H.sep
  sz := H.sz
  cmx := H.cmx
theorem Rb.below (H : Rb w g F k b) (hb : Below w.heap.size w w') : Rb w' g F k b :=
  H.turn (Turn.of_new (S := fun _ => False) hb) fun _ _ e => e
theorem Rb.mono {k' : Nat} (H : Rb w g F k b) (hk : k ≤ k') : Rb w g F k' b where
  blk := H.blk
  arr := H.arr
  mem := H.mem.mono fun _ _ => hk
  cel := H.cel
  sll := H.sll
  stp := H.stp
  pk := H.pk
  log := H.log
  rlt := H.rlt
  sep := H.sep
  sz := ⟨H.sz.1, H.sz.2.1, Nat.le_trans H.sz.2.2.1 (Nat.succ_le_succ hk), Nat.le_trans H.sz.2.2.2 hk⟩
  cmx := H.cmx
theorem Rb.g_gs (H : Rb w g F k b) : g ∉ F.gs := fun e => by
  obtain ⟨i, hi⟩ := List.mem_iff_getElem?.1 e
  obtain ⟨st, _, h⟩ := H.mem.at hi
  obtain ⟨cs, hc⟩ := rs_obj h
  exact H.blk.neT hc (by decide) rfl
theorem Rb.g_gc (H : Rb w g F k b) : g ≠ F.gc := H.blk.neT H.cel.blk (by decide)
theorem Rb.g_vc (H : Rb w g F k b) : F.vc.ownBlock ≠ some g := fun e => by
  obtain ⟨cs, hc⟩ := H.cel.lg.obj e
  exact H.blk.neT (show Blk w g 102 cs from hc) (by decide) rfl
theorem Rb.g_vl (H : Rb w g F k b) : F.vl.ownBlock ≠ some g := fun e => by
  obtain ⟨cs, hc⟩ := H.log.obj e
  exact H.blk.neT (show Blk w g 187 cs from hc) (by decide) rfl
theorem Rb.gc_gs (H : Rb w g F k b) : F.gc ∉ F.gs := fun e => by
  obtain ⟨i, hi⟩ := List.mem_iff_getElem?.1 e
  obtain ⟨st, _, h⟩ := H.mem.at hi
  obtain ⟨cs, hc⟩ := rs_obj h
  exact H.cel.blk.neT hc (by decide) rfl
theorem Rb.vc_gs (H : Rb w g F k b) : ∀ q, F.vc.ownBlock = some q → q ∉ F.gs := fun q e e2 => by
  obtain ⟨i, hi⟩ := List.mem_iff_getElem?.1 e2
  obtain ⟨st, _, h⟩ := H.mem.at hi
  obtain ⟨cs, hc⟩ := rs_obj h
  obtain ⟨ds, hd⟩ := H.cel.lg.obj e
  exact (show Blk w q 102 ds from hd).neT hc (by decide) rfl
theorem Rb.vl_gs (H : Rb w g F k b) : ∀ q, F.vl.ownBlock = some q → q ∉ F.gs := fun q e e2 => by
  obtain ⟨i, hi⟩ := List.mem_iff_getElem?.1 e2
  obtain ⟨st, _, h⟩ := H.mem.at hi
  obtain ⟨cs, hc⟩ := rs_obj h
  obtain ⟨ds, hd⟩ := H.log.obj e
  exact (show Blk w q 187 ds from hd).neT hc (by decide) rfl
theorem Rb.vl_gc (H : Rb w g F k b) : F.vl.ownBlock ≠ some F.gc := fun e => by
  obtain ⟨ds, hd⟩ := H.log.obj e
  exact (show Blk w F.gc 187 ds from hd).neT H.cel.blk (by decide) rfl
theorem Rb.vl_vc (H : Rb w g F k b) : ∀ q, F.vl.ownBlock = some q → F.vc.ownBlock ≠ some q := fun q e e2 => by
  obtain ⟨ds, hd⟩ := H.log.obj e
  obtain ⟨cs, hc⟩ := H.cel.lg.obj e2
  exact (show Blk w q 187 ds from hd).neT (show Blk w q 102 cs from hc) (by decide) rfl
def outB (w : World) (g : Nat) (F : Fp) (k : Nat) (b : Bs) (w' : World) : Prop :=
  ∃ F', Rb w' g F' k b ∧ F'.gs = F.gs ∧ F'.gc = F.gc ∧ (∀ q, mutR g F' q → mutR g F q ∨ w.heap.size ≤ q) ∧ (∀ q, rdR F' q → rdR F q ∨ w.heap.size ≤ q) ∧ Turn (mutR g F) w w'
theorem outB.trans {w2 : World} {F' : Fp} {k2 : Nat} {b2 : Bs} (hg : F'.gs = F.gs) (hc : F'.gc = F.gc) (h1 : ∀ q, mutR g F' q → mutR g F q ∨ w.heap.size ≤ q) (h2 : ∀ q, rdR F' q → rdR F q ∨ w.heap.size ≤ q) (h3 : Turn (mutR g F) w w') (h : outB w' g F' k2 b2 w2) : outB w g F k2 b2 w2 := by
  obtain ⟨F2, r, e1, e2, m, i, t⟩ := h
  refine ⟨F2, r, e1.trans hg, e2.trans hc, fun q hq => ?_, fun q hq => ?_, h3.trans t h1⟩
  · rcases m q hq with e | e
    · exact h1 q e
    · exact .inr (Nat.le_trans h3.size e)
  · rcases i q hq with e | e
    · exact h2 q e
    · exact .inr (Nat.le_trans h3.size e)
theorem outB.below (h : outB w g F k b w') {B : Nat} (hB : B ≤ w.heap.size) (hm : ∀ q, mutR g F q → B ≤ q) : Below B w w' := by
  obtain ⟨F2, _, _, _, _, _, t⟩ := h
  exact t.below hB hm
theorem Rb.put (H : Rb w g F k b) {Ls' : Nat → Nat → Prop} {ms' : List St} {off' : Bool} {T : Nat → Prop} (hm : Mems w' F.gs Ls' (fun _ => k + 1) ms') (hl : ms'.length = b.ms.length) (hL : ∀ j q, j < F.gs.length → Ls' j q → F.Ls j q ∨ w.heap.size ≤ q)
    (hb : Blk w' g 50 (buR F.Am b.ms.length F.cm F.gc F.As b.steps.length F.cs off' F.vl)) (ht : Turn T w w') (hT : ∀ q, T q → q = g ∨ q ∈ F.gs) : Rb w' g { F with Ls := Ls' } (k + 1) { b with ms := ms', off := off' } where
  blk := by show Blk w' g _ (buR F.Am ms'.length F.cm F.gc F.As b.steps.length F.cs off' F.vl); rw [hl]; exact hb
  arr := by
    show Sli 1 ptL F.rd w' F.Am F.gs ms'.length F.cm
    rw [hl]
    exact H.arr.turn ht fun q hq _ e => H.sep q (.inl hq) ((hT q e).imp id .inl)
  mem := hm
  cel := H.cel.turn ht (fun e => (hT _ e).elim (fun x => H.g_gc x.symm) H.gc_gs) fun q hq e => (hT q e).elim (fun x => H.g_vc (x ▸ hq)) (H.vc_gs q hq)
  sll := H.sll
  stp := H.stp.turn ht fun q hq _ e => H.sep q (.inl hq) ((hT q e).imp id .inl)
  pk s x hx := ⟨(H.pk s x hx).1.turn ht fun q o h1 h2 e => H.sep q (.inl ((H.pk s x hx).2.2 q o h1 h2)) ((hT q e).imp id .inl), (H.pk s x hx).2⟩
  log := H.log.turn ht fun q hq e => (hT q e).elim (fun x => H.g_vl (x ▸ hq)) (H.vl_gs q hq)
  rlt q hq := Nat.lt_of_lt_of_le (H.rlt q hq) ht.size
  sep q hq e := by
    rcases hq with hq | ⟨j, hj, hq⟩
    · exact H.sep q (.inl hq) e
    · rcases hL j q hj hq with x | x
      · exact H.sep q (.inr ⟨j, hj, x⟩) e
      · have := H.mlt q e; omega
  sz := ⟨by show ms'.length ≤ 100; rw [hl]; exact H.sz.1, H.sz.2.1, Nat.le_succ_of_le H.sz.2.2.1, Nat.le_succ_of_le H.sz.2.2.2⟩
  cmx := H.cmx
theorem Rb.step (H : Rb w g F k b) {i : Nat} (hi : i < b.steps.length) : ∃ s x, b.steps[i]? = some s ∧ (b.steps.zip F.sl)[i]? = some (s, x) := by
  have h2 : i < F.sl.length := by rw [H.sll]; exact hi
  refine ⟨b.steps[i], F.sl[i], List.getElem?_eq_getElem hi, ?_⟩
  rw [List.getElem?_zip_eq_some]
  exact ⟨List.getElem?_eq_getElem hi, List.getElem?_eq_getElem h2⟩
end
end BuP
end Go.Proofs.YtklmjdhhnnanoaaGreatDoor
