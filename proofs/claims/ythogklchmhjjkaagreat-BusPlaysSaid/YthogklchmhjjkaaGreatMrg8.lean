/-
  A bus in plain words: what an act leaves of steps, log and power; without steps; while the power is gone.
  The law BusOff: from a crash on, till the power is there again, each I/O is ErrOff, and changes nothing.
  What comes in, number by number.
  What comes in: rows of n bytes by value.
  Slices of bytes that come in.
  Slices of slices of bytes that come in.
  Slices of structs of k cells that come in.
  What comes in to the laws of chapter 13: rows of acts; bytes.
  What comes in to the laws of chapter 13: steps, each with picks.
  What comes in to BusPlays: how many sectors, what the cell holds, steps with picks.
  BusPlays: is there more than is looked at?
  A bus of the program's, of which one part is turned: a member, the cell, its own blocks.
  Maps of slices by whole numbers: a block that reads as a function of the number; looked up, put, struck out.
  The program's calls of members that New did not make: of none, and of a block of zeros.
  The landed bus in memory; the calls that turn nothing of it, or one cell.
  The type of slices of bytes; bytes out of a literal.
  append of bytes, as many as a memory holds.
  The landed bus: Members, Count, Off, Power, Sectors, Log; the crash.
  A slice of bytes cut out of another one: as an operation of the walk that leaves one address, whatever it is.
  The landed bus: the crash.
-/
import Derived.Test.YthogklchmhjjkaaGreatMrg7
import Derived.Deep.Slices
import Derived.OpenShut
import Derived.ChangeMaps5
import Derived.ChangeSlices
import Derived.Deep.Strs
import Derived.Lib.SliceRun
set_option linter.unusedVariables false
set_option linter.unusedSimpArgs false
set_option maxRecDepth 100000
namespace Go.Proofs.YthogklchmhjjkaaGreat
namespace BuP
open BuM MbM
/-- What each I/O leaves. -/
structure Kept (b b' : Bs) : Prop where
  steps : b'.steps = b.steps
  log : b'.log.length = b.log.length + 1
  off : b'.off = (BuM.ahead b).off
  ms : b'.ms.length = b.ms.length
/-- The acts that count as I/Os. -/
def ios (l : List ActB) : Nat := l.countP fun a => decide (kind7 a.d ≠ 6)
end BuP
end Go.Proofs.YthogklchmhjjkaaGreat
set_option maxRecDepth 100000
namespace Go.Proofs.YthogklchmhjjkaaGreat
open Go.ChangeShapes Go.WideShapes Go.ChangeAt Go.RowKit
attribute [local go_sem] Gives GivesE
namespace BuP
open BuM MbM MbP
theorem tAb (a : ActB) : RowT 45 (abL a).toArray.size := by
  rw [List.size_toArray, abL_len]
  exact ⟨by kernel_rfl, _, Tryz.underlying45, rfl⟩
section
variable {ops : Array Oper} {Q : Exit → Act → World → Prop} {a : Act} {w : World} {rest : List Oper} {dst : Option Tmp} {ty T : TypeId} {pos : String} {after : Array Edge} {x : Operand} {g o : Nat} {cs : Array Value} {gd : Option (Nat × Bool)}
end
/-- The crash. -/
def crSt (n : Nat) (picks : List Nat) : Stp := ⟨n, 6, 0, 0, 0, fun _ => 0, picks⟩
section
variable {ops : Array Oper} {Q : Exit → Act → World → Prop} {a : Act} {w : World} {rest : List Oper} {dst : Option Tmp} {ty : TypeId} {pos : String} {after : Array Edge} {x y : Operand} {n : Int} {P : Option Addr} {picks : List Nat} {pc : Nat}
end
/-- A bus of two members, behind some acts. -/
structure Alone (repB : RepB) (W w : World) (g m1 m2 : Nat) (F : Fq) (k : Nat) (b : Bs) : Prop where
  pp : Pp repB w g F k b
  gs : F.gs = [m1, m2]
  low : ∀ q, mutP F q → W.heap.size ≤ q
  bel : Below W.heap.size W w
section
variable {repB : RepB} {W w w' : World} {g m1 m2 k k' : Nat} {F : Fq} {b b' : Bs}
theorem Alone.below (hC : BusC repB) (H : Alone repB W w g m1 m2 F k b) (hb : Below w.heap.size w w') : Alone repB W w' g m1 m2 F k b :=
  ⟨H.pp.below hC hb, H.gs, H.low, H.bel.trans (hb.mono H.bel.size)⟩
theorem Alone.out (H : Alone repB W w g m1 m2 F k b) (ho : outS repB w g F k' b' w') : ∃ F', Alone repB W w' g m1 m2 F' k' b' ∧ (∀ q, mutP F' q → mutP F q ∨ w.heap.size ≤ q) ∧ (∀ q, rdP F' q → mutP F q ∨ rdP F q ∨ w.heap.size ≤ q) ∧ Turn (mutP F) w w' := by
  obtain ⟨F', h1, h2, h4, h5, h6⟩ := ho
  exact ⟨F', ⟨h1, h2.trans H.gs, fun q e => (h4 q e).elim (H.low q) fun x => Nat.le_trans H.bel.size x, H.bel.trans (h6.below H.bel.size H.low)⟩, h4, h5, h6⟩
theorem outS.ofQ (h : outQ repB w g F k b w') : outS repB w g F k b w' := outS.of (Below.refl _ _) h
end
end BuP
end Go.Proofs.YthogklchmhjjkaaGreat
set_option maxRecDepth 100000
namespace Go.Proofs.YthogklchmhjjkaaGreat
open Go.ChangeShapes Go.WideShapes Go.ChangeAt Go.RowKit Go.Deep
theorem choose_lt {α : Type} [Inhabited α] {n : Nat} {P : Nat → α → Prop} (h : ∀ k, k < n → ∃ a, P k a) : ∃ f : Nat → α, ∀ k, k < n → P k (f k) :=
  ⟨fun k => if hk : k < n then (h k hk).choose else default, fun k hk => by simp only [hk, dif_pos]; exact (h k hk).choose_spec⟩
theorem u8_wf {a : Int} (h : (Lit.int .u8 a).wf = true) : ∃ n : Nat, a = n ∧ n < 256 := by
  simp [Lit.wf, IntKind.min, IntKind.max, IntKind.bits, IntKind.signed] at h
  exact ⟨a.toNat, by omega, by omega⟩
theorem cells_u8 : Tryz.prog.cellsOf 5 = 1 := by kernel_rfl
end Go.Proofs.YthogklchmhjjkaaGreat
set_option maxRecDepth 100000
namespace Go.Proofs.YthogklchmhjjkaaGreat
open Go.ChangeShapes Go.WideShapes Go.ChangeAt Go.RowKit Go.Deep
section
variable {H : Type} {enc : TypeId × Value → H} {w : World} {base : Nat} {spare : Nat → Bool} {held : Bool}
theorem trod_ar {T : TypeId} {n : Nat} (hT : Tryz.prog.underlying T = some (.array n 5)) (hc : Tryz.prog.cellsOf T = n) {fuel : Nat} {cs : List Value} {x : DataW H × List MemPlace} (h : DataW.trod enc Tryz.prog w base spare held fuel T cs = some x) : ∃ f : Nat → Nat, (∀ k, f k < 256) ∧ cs = (ar n f).toList := by
  obtain ⟨xs, m, rfl, rfl, hlen, hxl, hx⟩ := DataW.trod_array hT h
  rw [hc] at hlen
  have hk : ∀ k, k < n → ∃ n : Nat, n < 256 ∧ cs[k]? = some (.int .u8 n) := fun k hk => by
    have h1 := hx k hk
    rw [cells_u8, Nat.mul_one, List.getElem?_eq_getElem (by omega)] at h1
    obtain ⟨n, e1, e2, wf⟩ := DataW.trod_int Tryz.underlying5 h1
    obtain ⟨n, rfl, hn⟩ := u8_wf wf
    refine ⟨n, hn, ?_⟩
    have : ((cs.drop k).take 1)[0]? = some (.int .u8 n) := by rw [e1]; rfl
    rw [List.getElem?_take_of_lt (by omega), List.getElem?_drop] at this
    exact this
  obtain ⟨f, hf⟩ := choose_lt hk
  refine ⟨fun k => if k < n then f k else 0, fun k => ?_, ?_⟩
  · by_cases h : k < n
    · simp only [h, if_true]; exact (hf k h).1
    · simp [h]
  · apply List.ext_getElem?
    intro k
    have e : (ar n fun k => if k < n then f k else 0).toList[k]? = if k < n then some (.int .u8 ((if k < n then f k else 0 : Nat) : Int)) else none := by
      rw [Array.getElem?_toList]
      exact get_row k
    rw [e]
    by_cases h : k < n
    · rw [if_pos h, if_pos h]; exact (hf k h).2
    · rw [if_neg h, List.getElem?_eq_none (by omega)]
end
end Go.Proofs.YthogklchmhjjkaaGreat
set_option maxRecDepth 100000
namespace Go.Proofs.YthogklchmhjjkaaGreat
open Go.ChangeShapes Go.WideShapes Go.ChangeAt Go.RowKit Go.Deep
section
variable {H : Type} {enc : TypeId × Value → H} {w : World} {base : Nat} {spare : Nat → Bool} {held : Bool}
end
end Go.Proofs.YthogklchmhjjkaaGreat
set_option maxRecDepth 100000
namespace Go.Proofs.YthogklchmhjjkaaGreat
open Go.ChangeShapes Go.WideShapes Go.ChangeAt Go.RowKit Go.Deep
/-- A slice of slices of bytes that came in; a part that is nil has no bytes and no room. -/
def PrtsN (w : World) (B : Nat) (A : Option Addr) (ls : List (List Nat)) : Prop :=
  0 < ls.length → ∃ b o, A = some ⟨b, o, none⟩ ∧ b < B ∧ ∀ i, i < ls.length → ∃ A' c, w.cell? ⟨b, o + i, none⟩ = some (.slice A' (ls.getD i []).length c) ∧ (ls.getD i []).length ≤ c ∧ c ≤ maxLen ∧ Byt w B A' (ls.getD i []) ∧ (A' = none → (ls.getD i []).length = 0 ∧ c = 0)
theorem PrtsN.below {B B' : Nat} {w w' : World} {A : Option Addr} {ls : List (List Nat)} (h : PrtsN w B A ls) (hb : Below B' w w') (hB : B ≤ B') : PrtsN w' B A ls := fun hn => by
  obtain ⟨b, o, rfl, hl, hr⟩ := h hn
  refine ⟨b, o, rfl, hl, fun i hi => ?_⟩
  obtain ⟨A', c, h1, h2, h3, h4, h5⟩ := hr i hi
  exact ⟨A', c, (hb.cell (p := ⟨b, o + i, none⟩) (by show b < B'; omega)).trans h1, h2, h3, h4.below hb hB, h5⟩
theorem PrtsN.more {w : World} {B B' : Nat} {A : Option Addr} {ls : List (List Nat)} (h : PrtsN w B A ls) (hB : B ≤ B') : PrtsN w B' A ls := fun hn => by
  obtain ⟨b, o, rfl, hl, hr⟩ := h hn
  refine ⟨b, o, rfl, by omega, fun i hi => ?_⟩
  obtain ⟨A', c, h1, h2, h3, h4, h5⟩ := hr i hi
  exact ⟨A', c, h1, h2, h3, h4.more hB, h5⟩
section
variable {H : Type} {enc : TypeId × Value → H} {w : World} {base : Nat} {spare : Nat → Bool} {held : Bool}
theorem trod_byts {fuel : Nat} {cs : List Value} {x : DataW H × List MemPlace} (h : DataW.trod enc Tryz.prog w base spare held fuel 60 cs = some x) :
    ∃ (A : Option Addr) (l : List Nat) (cap : Nat), cs = [.slice A l.length cap] ∧ l.length ≤ cap ∧ cap ≤ maxLen ∧ B256 l ∧ Byt w w.heap.size A l ∧ (A = none → l.length = 0 ∧ cap = 0) := by
  rcases open_ints Tryz.underlying60 Tryz.underlying5 cells_u8 h with ⟨hcs, _⟩ | ⟨a, n, cap, zs, hcs, _, hl, hm, hz, _, hcell, hwz⟩
  · subst hcs
    exact ⟨none, [], 0, rfl, Nat.le_refl _, Nat.zero_le _, (fun x hx => by cases hx), Byt.none rfl, fun _ => ⟨rfl, rfl⟩⟩
  · subst hcs
    have hnz : n ≤ zs.length := by rw [hz]; split <;> omega
    have hlen : ((zs.take n).map Int.toNat).length = n := by rw [List.length_map, List.length_take]; omega
    have hat : ∀ i, i < n → ∃ k : Nat, zs.getD i 0 = k ∧ k < 256 ∧ ((zs.take n).map Int.toNat).getD i 0 = k := fun i hi => by
      have hi' : i < zs.length := by omega
      have hg : zs.getD i 0 = zs[i] := by rw [List.getD_eq_getElem?_getD, List.getElem?_eq_getElem hi']; rfl
      obtain ⟨k, hk, hk2⟩ := u8_wf (hwz zs[i] (List.getElem_mem hi'))
      refine ⟨k, hg.trans hk, hk2, ?_⟩
      rw [List.getD_eq_getElem?_getD, List.getElem?_map, List.getElem?_take_of_lt hi, List.getElem?_eq_getElem hi', hk]
      rfl
    refine ⟨some a, (zs.take n).map Int.toNat, cap, by rw [hlen], by rw [hlen]; exact hl, hm, fun x hx => ?_, fun hn => ?_, fun h => by cases h⟩
    · obtain ⟨i, hi⟩ := List.getElem?_of_mem hx
      have hin : i < n := by have := (List.getElem?_eq_some_iff.1 hi).1; omega
      obtain ⟨k, _, hk, he⟩ := hat i hin
      rw [List.getD_eq_getElem?_getD, hi] at he
      have : x = k := he
      omega
    · rw [hlen] at hn
      have h0 := hcell 0 (by omega)
      have hsp : a.spot = none := by
        simp only [Addr.add, if_true] at h0
        unfold World.cell? at h0
        split at h0
        · cases hs : a.spot with
          | none => rfl
          | some s => simp [hs] at h0
        · cases h0
      have hblk : a.block < w.heap.size := by
        have := World.block_lt_of_cell? w _ h0
        simpa [Addr.add] using this
      obtain ⟨b, o, sp⟩ := a
      subst hsp
      refine ⟨b, o, rfl, hblk, fun i hi => ?_⟩
      rw [hlen] at hi
      obtain ⟨k, h1, _, h2⟩ := hat i hi
      have h3 := hcell i (by omega)
      rw [Addr.add_mid, h1] at h3
      rw [h3, h2]
end
end Go.Proofs.YthogklchmhjjkaaGreat
set_option maxRecDepth 100000
namespace Go.Proofs.YthogklchmhjjkaaGreat
open Go.ChangeShapes Go.WideShapes Go.ChangeAt Go.RowKit Go.Deep
/-- A slice of structs of k cells, in one row below block B. -/
def Elems (k : Nat) (w : World) (B : Nat) (A : Option Addr) (xs : List (List Value)) : Prop :=
  0 < xs.length → ∃ b o, A = some ⟨b, o, none⟩ ∧ b < B ∧ ∀ (i : Nat) (cs : List Value), xs[i]? = some cs → ∀ (j : Nat) (v : Value), cs[j]? = some v → w.cell? ⟨b, o + i * k + j, none⟩ = some v
theorem Elems.below {k B B' : Nat} {w w' : World} {A : Option Addr} {xs : List (List Value)} (h : Elems k w B A xs) (hb : Below B' w w') (hB : B ≤ B') : Elems k w' B A xs := fun hn => by
  obtain ⟨b, o, rfl, hl, hr⟩ := h hn
  exact ⟨b, o, rfl, hl, fun i cs hi j v hj => (hb.cell (p := ⟨b, o + i * k + j, none⟩) (by show b < B'; omega)).trans (hr i cs hi j v hj)⟩
section
variable {H : Type} {enc : TypeId × Value → H} {w : World} {base : Nat} {spare : Nat → Bool} {held : Bool}
theorem open_elems {S E : TypeId} {k : Nat} {R : List Value → Prop} {r : Reach} {b0 : Nat} {v : Value} {d : DataW H} {p : List MemPlace} (hS : Tryz.prog.underlying S = some (.slice E)) (hk : Tryz.prog.cellsOf E = k) (hk0 : 0 < k)
    (hR : ∀ (fuel : Nat) (cs : List Value) (x : DataW H × List MemPlace), DataW.trod enc Tryz.prog w base spare held fuel E cs = some x → cs.length = k → R cs)
    (hv : Value.okWide Tryz.prog w r b0 S v) (h : DataW.Trod enc Tryz.prog w base spare held S v d p) :
    ∃ (A : Option Addr) (xs : List (List Value)) (n cap : Nat), v = .slice A n cap ∧ xs.length = n ∧ n ≤ cap ∧ cap ≤ maxLen ∧ (∀ cs ∈ xs, R cs ∧ cs.length = k) ∧ Elems k w w.heap.size A xs ∧ (A = none → n = 0 ∧ cap = 0) := by
  obtain ⟨A, n, cap, rfl⟩ := okWide_slice hS hv
  obtain ⟨fuel, hf⟩ := h
  rcases open_slice hS hf with ⟨hcs, _⟩ | ⟨a, len, cap', m, fu, D, Pl, hcs, hb, hl, hm, hmm, hx, hi⟩
  · simp [Value.cells] at hcs
    obtain ⟨rfl, rfl, rfl⟩ := hcs
    exact ⟨none, [], 0, 0, rfl, rfl, Nat.le_refl _, Nat.zero_le _, (fun x hx => by cases hx), (fun h => absurd h (by simp)), fun _ => ⟨rfl, rfl⟩⟩
  · simp [Value.cells] at hcs
    obtain ⟨rfl, rfl, rfl⟩ := hcs
    have hnm : n ≤ m := by rw [hmm]; split <;> omega
    have one : ∀ i, i < n → ∃ cs : List Value, R cs ∧ cs.length = k ∧ ∀ j, j < k → w.cell? (a.add (i * k + j)) = cs[j]? := fun i hin => by
      obtain ⟨cs', hc, ht⟩ := hi i (by omega)
      have h3 := World.cells?_some hc
      rw [hk] at h3
      refine ⟨cs', hR fu cs' _ ht h3.2.1, h3.2.1, fun j hj => ?_⟩
      have h6 := h3.2.2 j hj
      rw [Go.Deep.add_add] at h6
      exact h6
    obtain ⟨F, hF⟩ := choose_lt one
    have hg : ∀ i, ((List.range n).map F)[i]? = if i < n then some (F i) else none := fun i => by
      by_cases hi : i < n
      · rw [if_pos hi, List.getElem?_map, List.getElem?_range hi]; rfl
      · rw [if_neg hi, List.getElem?_eq_none (by simp; omega)]
    refine ⟨some a, (List.range n).map F, n, cap, rfl, by simp, hl, hm, fun l hl2 => ?_, fun hn => ?_, fun h => by cases h⟩
    · obtain ⟨i, hi2, rfl⟩ := List.mem_map.1 hl2
      exact ⟨(hF i (List.mem_range.1 hi2)).1, (hF i (List.mem_range.1 hi2)).2.1⟩
    · have hn' : 0 < n := by simpa using hn
      obtain ⟨_, h1, h0⟩ := hF 0 hn'
      have h00 := h0 0 hk0
      rw [List.getElem?_eq_getElem (by omega)] at h00
      have hsp : a.spot = none := by
        simp only [Nat.zero_mul, Nat.zero_add, Addr.add, if_true] at h00
        unfold World.cell? at h00
        split at h00
        · cases hs : a.spot with
          | none => rfl
          | some s => simp [hs] at h00
        · cases h00
      have hblk : a.block < w.heap.size := by
        have := World.block_lt_of_cell? w _ h00
        simpa [Addr.add] using this
      obtain ⟨b, o, sp⟩ := a
      subst hsp
      refine ⟨b, o, rfl, hblk, fun i cs hi2 j v hj => ?_⟩
      rw [hg] at hi2
      split at hi2
      · rename_i hin
        obtain rfl := Option.some.inj hi2
        obtain ⟨_, h1, h2⟩ := hF i hin
        have hjk : j < k := by have := (List.getElem?_eq_some_iff.1 hj).1; omega
        have h3 := h2 j hjk
        rw [Addr.add_mid, hj, ← Nat.add_assoc] at h3
        exact h3
      · cases hi2
end
end Go.Proofs.YthogklchmhjjkaaGreat
set_option maxRecDepth 100000
namespace Go.Proofs.YthogklchmhjjkaaGreat
open Go.ChangeShapes Go.WideShapes Go.ChangeAt Go.RowKit Go.Deep
namespace BuP
open MbP
theorem cells_ab : Tryz.prog.cellsOf 45 = 99 := by kernel_rfl
theorem cells_se13 : Tryz.prog.cellsOf 43 = 64 := by kernel_rfl
theorem cells_tg13 : Tryz.prog.cellsOf 25 = 32 := by kernel_rfl
theorem cells_i13 : Tryz.prog.cellsOf 3 = 1 := by kernel_rfl
theorem at_one13 {l : List Value} {o : Nat} {v : Value} (h : (l.drop o).take 1 = [v]) : l[o]? = some v := by
  have h1 : ((l.drop o).take 1)[0]? = some v := by rw [h]; rfl
  rwa [List.getElem?_take_of_lt (by omega), List.getElem?_drop] at h1
theorem at_ar13 {l : List Value} {o m j : Nat} {f : Nat → Nat} (h : (l.drop o).take m = (ar m f).toList) (hj : j < m) : l[o + j]? = some (.int .u8 (f j : Nat)) := by
  have h1 : ((l.drop o).take m)[j]? = some (.int .u8 (f j : Nat)) := by rw [h, Array.getElem?_toList, get_ar hj]
  rwa [List.getElem?_take_of_lt hj, List.getElem?_drop] at h1
theorem ab_get (a : ActB) (j : Nat) (hj : j < 99) : (abL a)[j]? = some (if j = 0 then .int .i64 a.d else if j = 1 then .int .i64 a.m else if j = 2 then .int .i64 a.i else if j < 67 then .int .u8 (a.s (j - 3) : Nat) else .int .u8 (a.t (j - 67) : Nat)) := by
  unfold abL
  rcases j with _ | _ | _ | j
  · rfl
  · rfl
  · rfl
  · rw [List.getElem?_cons_succ, List.getElem?_cons_succ, List.getElem?_cons_succ, if_neg (by omega), if_neg (by omega), if_neg (by omega)]
    by_cases h : j < 64
    · rw [if_pos (by omega), List.getElem?_append_left (by rw [ar64_len]; exact h), ar64, Array.getElem?_toList, get_ar h]; rfl
    · rw [if_neg (by omega), List.getElem?_append_right (by rw [ar64_len]; omega), ar64_len, Array.getElem?_toList, get_ar (by omega), show j + 1 + 1 + 1 - 67 = j - 64 by omega]
section
variable {H : Type} {enc : TypeId × Value → H} {w : World} {base : Nat} {spare : Nat → Bool} {held : Bool}
set_option maxRecDepth 100000 in
theorem trod_ab {fuel : Nat} {cs : List Value} {x : DataW H × List MemPlace} (h : DataW.trod enc Tryz.prog w base spare held fuel 45 cs = some x) : ∃ y : ActB, (∀ j, y.s j < 256) ∧ cs = abL y := by
  obtain ⟨xs, n, _, rfl, hl, hlen, hf⟩ := DataW.trod_struct Tryz.underlying45 h
  rw [cells_ab] at hl
  match xs, hlen with
  | [y0, y1, y2, y3, y4], _ =>
    have h0 : DataW.trod enc Tryz.prog w base spare held n 3 ((cs.drop 0).take (Tryz.prog.cellsOf 3)) = some y0 := hf 0 _ rfl
    have h1 : DataW.trod enc Tryz.prog w base spare held n 3 ((cs.drop 1).take (Tryz.prog.cellsOf 3)) = some y1 := hf 1 _ rfl
    have h2 : DataW.trod enc Tryz.prog w base spare held n 3 ((cs.drop 2).take (Tryz.prog.cellsOf 3)) = some y2 := hf 2 _ rfl
    have h3 : DataW.trod enc Tryz.prog w base spare held n 43 ((cs.drop 3).take (Tryz.prog.cellsOf 43)) = some y3 := hf 3 _ rfl
    have h4 : DataW.trod enc Tryz.prog w base spare held n 25 ((cs.drop 67).take (Tryz.prog.cellsOf 25)) = some y4 := hf 4 _ rfl
    rw [cells_i13] at h0 h1 h2
    rw [cells_se13] at h3
    rw [cells_tg13] at h4
    obtain ⟨d, e0, _, _⟩ := DataW.trod_int Tryz.underlying3 h0
    obtain ⟨m, e1, _, _⟩ := DataW.trod_int Tryz.underlying3 h1
    obtain ⟨i, e2, _, _⟩ := DataW.trod_int Tryz.underlying3 h2
    obtain ⟨f, hf3, e3⟩ := trod_ar uSe' cells_se13 h3
    obtain ⟨t, _, e4⟩ := trod_ar ClP.uTg cells_tg13 h4
    refine ⟨⟨d, m, i, f, t⟩, hf3, ?_⟩
    apply List.ext_getElem?
    intro j
    have r0 := at_one13 e0
    have r1 := at_one13 e1
    have r2 := at_one13 e2
    by_cases hj : j < 99
    · rw [ab_get _ j hj]
      by_cases c0 : j = 0
      · rw [if_pos c0, c0]; exact r0
      · rw [if_neg c0]
        by_cases c1 : j = 1
        · rw [if_pos c1, c1]; exact r1
        · rw [if_neg c1]
          by_cases c2 : j = 2
          · rw [if_pos c2, c2]; exact r2
          · rw [if_neg c2]
            by_cases c3 : j < 67
            · rw [if_pos c3]
              have := at_ar13 e3 (show j - 3 < 64 by omega)
              rwa [show 3 + (j - 3) = j by omega] at this
            · rw [if_neg c3]
              have := at_ar13 e4 (show j - 67 < 32 by omega)
              rwa [show 67 + (j - 67) = j by omega] at this
    · rw [List.getElem?_eq_none (by omega), List.getElem?_eq_none (by rw [abL_len]; omega)]
theorem sli_of_elemsP {α : Type} {P : α → Prop} {k n cap : Nat} {en : α → List Value} {A : Option Addr} {xs : List (List Value)} (hn : xs.length = n) (hc : n ≤ cap) (hm : cap ≤ maxLen) (hx : ∀ cs ∈ xs, ∃ x, P x ∧ cs = en x) (he : Elems k w w.heap.size A xs) (h0 : A = none → n = 0 ∧ cap = 0) :
    ∃ l : List α, (∀ x ∈ l, P x) ∧ Sli k en (fun b => b < w.heap.size) w A l n cap := by
  have key : ∀ ys : List (List Value), (∀ cs ∈ ys, ∃ x, P x ∧ cs = en x) → ∃ l : List α, (∀ x ∈ l, P x) ∧ ys = l.map en := fun ys => by
    induction ys with
    | nil => exact fun _ => ⟨[], fun _ h => (by cases h), rfl⟩
    | cons y ys ih =>
      intro h
      obtain ⟨x, hp, hx⟩ := h y List.mem_cons_self
      obtain ⟨l, hl1, hl⟩ := ih fun cs hcs => h cs (List.mem_cons_of_mem _ hcs)
      refine ⟨x :: l, fun z hz => ?_, by rw [List.map_cons, ← hx, ← hl]⟩
      rcases List.mem_cons.1 hz with e | e
      · rw [e]; exact hp
      · exact hl1 z e
  obtain ⟨l, hp, rfl⟩ := key xs hx
  rw [List.length_map] at hn
  refine ⟨l, hp, hn, hc, hm, h0, fun hp => ?_⟩
  obtain ⟨b, o, e, hb, hr⟩ := he (by rw [List.length_map]; exact hp)
  exact ⟨b, o, e, hb, hb, fun i x hi j v hj => hr i (en x) (by rw [List.getElem?_map, hi]; rfl) j v hj⟩
theorem open_acts13 {r : Reach} {b0 : Nat} {v : Value} {d : DataW H} {p : List MemPlace} (hv : Value.okWide Tryz.prog w r b0 31 v) (h : DataW.Trod enc Tryz.prog w base spare held 31 v d p) :
    ∃ (A : Option Addr) (la : List ActB) (n cap : Nat), v = .slice A n cap ∧ (∀ a ∈ la, ∀ j, a.s j < 256) ∧ Sli 99 abL (fun b => b < w.heap.size) w A la n cap := by
  obtain ⟨A, xs, n, cap, rfl, hlen, hc, hm, hR, he, h0⟩ := open_elems (k := 99) (R := fun cs => ∃ y : ActB, (∀ j, y.s j < 256) ∧ cs = abL y) Tryz.underlying31 cells_ab (by omega) (fun fuel cs x h _ => trod_ab h) hv h
  obtain ⟨l, hp, hl⟩ := sli_of_elemsP (P := fun a : ActB => ∀ j, a.s j < 256) hlen hc hm (fun cs hcs => (hR cs hcs).1) he h0
  exact ⟨A, l, n, cap, rfl, hp, hl⟩
end
end BuP
end Go.Proofs.YthogklchmhjjkaaGreat
set_option maxRecDepth 100000
namespace Go.Proofs.YthogklchmhjjkaaGreat
open Go.ChangeShapes Go.WideShapes Go.ChangeAt Go.RowKit Go.Deep
namespace BuP
open MbP BuM
theorem cells_st13 : Tryz.prog.cellsOf 62 = 70 := by kernel_rfl
theorem cells_bs13 : Tryz.prog.cellsOf 60 = 1 := by kernel_rfl
theorem bytes_u813 : Tryz.prog.bytesOf 5 = 1 := by kernel_rfl
theorem st_get (y : Stp × SlB) (j : Nat) (hj : j < 70) : (stL y)[j]? = some (if j = 0 then .int .i64 y.1.a else if j = 1 then .int .i64 y.1.kind else if j = 2 then .int .i64 y.1.m else if j = 3 then .int .i64 y.1.i else if j = 4 then .int .i64 y.1.n else if j < 69 then .int .u8 (y.1.s (j - 5) : Nat) else .slice y.2.A y.1.picks.length y.2.c) := by
  unfold stL
  rcases j with _ | _ | _ | _ | _ | j
  · rfl
  · rfl
  · rfl
  · rfl
  · rfl
  · rw [List.getElem?_cons_succ, List.getElem?_cons_succ, List.getElem?_cons_succ, List.getElem?_cons_succ, List.getElem?_cons_succ, if_neg (by omega), if_neg (by omega), if_neg (by omega), if_neg (by omega), if_neg (by omega)]
    by_cases h : j < 64
    · rw [if_pos (by omega), List.getElem?_append_left (by rw [ar64_len]; exact h), ar64, Array.getElem?_toList, get_ar h]; rfl
    · obtain rfl : j = 64 := by omega
      rw [if_neg (by omega), List.getElem?_append_right (by rw [ar64_len]; exact Nat.le_refl _), ar64_len]; rfl
section
variable {H : Type} {enc : TypeId × Value → H} {w : World} {base : Nat} {spare : Nat → Bool} {held : Bool}
theorem weightsAll_mem13 {e : TypeId} {d : DataW H} {n : Nat} : ∀ {l : List (DataW H)}, d ∈ l → n ∈ d.weights Tryz.prog e → n ∈ DataW.weightsAll Tryz.prog e l
  | [], h, _ => by cases h
  | c :: r, h, hn => by
    rw [DataW.weightsAll]
    rcases List.mem_cons.1 h with e | e
    · subst e; exact List.mem_append_left _ hn
    · exact List.mem_append_right _ (weightsAll_mem13 e hn)
theorem weightsEach_mem13 {n : Nat} : ∀ {ts : List TypeId} {l : List (DataW H)} {i : Nat} {t : TypeId} {d : DataW H}, ts[i]? = some t → l[i]? = some d → n ∈ d.weights Tryz.prog t → n ∈ DataW.weightsEach Tryz.prog ts l
  | [], _, _, _, _, h, _, _ => by simp at h
  | _ :: _, [], _, _, _, _, h, _ => by simp at h
  | t :: ts, d :: l, 0, _, _, h, h2, hn => by
    simp only [List.getElem?_cons_zero, Option.some.injEq] at h h2
    subst h; subst h2
    rw [DataW.weightsEach]
    exact List.mem_append_left _ hn
  | t :: ts, d :: l, i + 1, _, _, h, h2, hn => by
    rw [List.getElem?_cons_succ] at h h2
    rw [DataW.weightsEach]
    exact List.mem_append_right _ (weightsEach_mem13 h h2 hn)
/-- A slice of bytes weighs what it is long. -/
theorem byts_weigh13 {fuel : Nat} {A : Option Addr} {n c R : Nat} {x : DataW H × List MemPlace} (h : DataW.trod enc Tryz.prog w base spare held fuel 60 [.slice A n c] = some x) (hw : ∀ m ∈ x.1.weights Tryz.prog 60, m ≤ R) (hA : A ≠ none) : n ≤ R := by
  rcases DataW.trod_slice Tryz.underlying60 h with ⟨h0, _⟩ | ⟨a, len, cap, elems, rest, m, _, e1, e2, hb, hl, hm, hlen, hel, hsp, hns⟩
  · simp only [List.cons.injEq, and_true] at h0
    exact absurd (Value.slice.inj h0).1 hA
  · simp only [List.cons.injEq, and_true] at e1
    obtain ⟨_, rfl, _⟩ := Value.slice.inj e1
    have := hw ((elems.length + rest.length) * Tryz.prog.bytesOf 5) (by
      rw [e2, DataW.weights, Tryz.underlying60]
      simp)
    rw [bytes_u813] at this
    omega
/-- A step as it comes in: its picks lie in a block that stands. -/
structure StOk (w : World) (y : Stp × SlB) : Prop where
  ok : okS y.1
  arg : Arg w y.2.A y.1.picks y.1.picks.length y.2.c
  few : y.1.picks.length ≤ 140737488351232
  old : ∀ q o, 0 < y.1.picks.length → y.2.A = some ⟨q, o, none⟩ → q < w.heap.size
set_option maxRecDepth 100000 in
theorem trod_st {fuel : Nat} {cs : List Value} {x : DataW H × List MemPlace} (h : DataW.trod enc Tryz.prog w base spare held fuel 62 cs = some x) (hw : ∀ m ∈ x.1.weights Tryz.prog 62, m ≤ 140737488351232) : ∃ y : Stp × SlB, cs = stL y ∧ StOk w y := by
  obtain ⟨xs, n, _, rfl, hl, hlen, hf⟩ := DataW.trod_struct Tryz.underlying62 h
  rw [cells_st13] at hl
  match xs, hlen with
  | [y0, y1, y2, y3, y4, y5, y6], _ =>
    have h0 : DataW.trod enc Tryz.prog w base spare held n 3 ((cs.drop 0).take (Tryz.prog.cellsOf 3)) = some y0 := hf 0 _ rfl
    have h1 : DataW.trod enc Tryz.prog w base spare held n 3 ((cs.drop 1).take (Tryz.prog.cellsOf 3)) = some y1 := hf 1 _ rfl
    have h2 : DataW.trod enc Tryz.prog w base spare held n 3 ((cs.drop 2).take (Tryz.prog.cellsOf 3)) = some y2 := hf 2 _ rfl
    have h3 : DataW.trod enc Tryz.prog w base spare held n 3 ((cs.drop 3).take (Tryz.prog.cellsOf 3)) = some y3 := hf 3 _ rfl
    have h4 : DataW.trod enc Tryz.prog w base spare held n 3 ((cs.drop 4).take (Tryz.prog.cellsOf 3)) = some y4 := hf 4 _ rfl
    have h5 : DataW.trod enc Tryz.prog w base spare held n 43 ((cs.drop 5).take (Tryz.prog.cellsOf 43)) = some y5 := hf 5 _ rfl
    have h6 : DataW.trod enc Tryz.prog w base spare held n 60 ((cs.drop 69).take (Tryz.prog.cellsOf 60)) = some y6 := hf 6 _ rfl
    rw [cells_i13] at h0 h1 h2 h3 h4
    rw [cells_se13] at h5
    rw [cells_bs13] at h6
    obtain ⟨a0, e0, _, _⟩ := DataW.trod_int Tryz.underlying3 h0
    obtain ⟨a1, e1, _, _⟩ := DataW.trod_int Tryz.underlying3 h1
    obtain ⟨a2, e2, _, _⟩ := DataW.trod_int Tryz.underlying3 h2
    obtain ⟨a3, e3, _, _⟩ := DataW.trod_int Tryz.underlying3 h3
    obtain ⟨a4, e4, _, _⟩ := DataW.trod_int Tryz.underlying3 h4
    obtain ⟨f, hf5, e5⟩ := trod_ar uSe' cells_se13 h5
    obtain ⟨A, l, cap, e6, l1, l2, l3, l4, l5⟩ := trod_byts h6
    refine ⟨(⟨a0, a1, a2, a3, a4, f, l⟩, ⟨A, cap⟩), ?_, ⟨⟨hf5, fun p hp => l3 p hp⟩, ⟨rfl, l1, l2, l3, l5, l4⟩, ?_, fun q o hn e => ?_⟩⟩
    · apply List.ext_getElem?
      intro j
      have r0 := at_one13 e0
      have r1 := at_one13 e1
      have r2 := at_one13 e2
      have r3 := at_one13 e3
      have r4 := at_one13 e4
      have r6 := at_one13 e6
      by_cases hj : j < 70
      · rw [st_get _ j hj]
        by_cases c0 : j = 0
        · rw [if_pos c0, c0]; exact r0
        · rw [if_neg c0]
          by_cases c1 : j = 1
          · rw [if_pos c1, c1]; exact r1
          · rw [if_neg c1]
            by_cases c2 : j = 2
            · rw [if_pos c2, c2]; exact r2
            · rw [if_neg c2]
              by_cases c3 : j = 3
              · rw [if_pos c3, c3]; exact r3
              · rw [if_neg c3]
                by_cases c4 : j = 4
                · rw [if_pos c4, c4]; exact r4
                · rw [if_neg c4]
                  by_cases c5 : j < 69
                  · rw [if_pos c5]
                    have := at_ar13 e5 (show j - 5 < 64 by omega)
                    rwa [show 5 + (j - 5) = j by omega] at this
                  · rw [if_neg c5]
                    obtain rfl : j = 69 := by omega
                    exact r6
      · rw [List.getElem?_eq_none (by omega), List.getElem?_eq_none (by rw [stL_len]; omega)]
    · show l.length ≤ _
      cases A with
      | none => rw [(l5 rfl).1]; omega
      | some ad =>
        rw [e6] at h6
        refine byts_weigh13 h6 (fun m hm => hw m ?_) (by simp)
        rw [DataW.weights, Tryz.underlying62]
        exact weightsEach_mem13 (i := 6) rfl rfl hm
    · obtain ⟨b', o', e', hlt, _⟩ := l4 hn
      have e2 : A = some ⟨q, o, none⟩ := e
      rw [e2] at e'
      cases e'
      exact hlt
instance : Inhabited (Stp × SlB) := ⟨st0⟩
end
end BuP
end Go.Proofs.YthogklchmhjjkaaGreat
set_option maxRecDepth 100000
namespace Go.Proofs.YthogklchmhjjkaaGreat
open Go.ChangeShapes Go.WideShapes Go.ChangeAt Go.RowKit Go.Deep
namespace BuP
open MbP BuM
def inL (i : Int) : List Value := [.int .i64 i]
/-- A case as it comes in. -/
def caR (A : Option Addr) (n c : Nat) (h : ClP.Held) (A2 : Option Addr) (n2 c2 : Nat) : Array Value := (.slice A n c :: (ClP.ceL h ++ [.slice A2 n2 c2])).toArray
theorem cells_ca : Tryz.prog.cellsOf 30 = 35 := by kernel_rfl
theorem cells_li : Tryz.prog.cellsOf 22 = 1 := by kernel_rfl
theorem cells_ls : Tryz.prog.cellsOf 28 = 1 := by kernel_rfl
theorem cells_ce13 : Tryz.prog.cellsOf 27 = 33 := by kernel_rfl
theorem cells_n64' : Tryz.prog.cellsOf 23 = 1 := by kernel_rfl
theorem u64_wf13 {b : Int} (h : (Lit.int .u64 b).wf = true) : ∃ n : Nat, b = n := by
  simp [Lit.wf, IntKind.min, IntKind.max, IntKind.bits, IntKind.signed] at h
  exact ⟨b.toNat, by omega⟩
theorem list_33' {cs : List Value} {v : Value} {f : Nat → Nat} (hl : cs.length = 33) (h0 : (cs.drop 0).take 1 = [v]) (h1 : (cs.drop 1).take 32 = (ar 32 f).toList) : cs = v :: (ar 32 f).toList := by
  match cs, hl with
  | c :: r, hl =>
    have e0 : c = v := by simpa using h0
    have e1 : r.take 32 = (ar 32 f).toList := h1
    rw [List.take_of_length_le (by simp at hl; omega)] at e1
    rw [e0, e1]
section
variable {H : Type} {enc : TypeId × Value → H} {w : World} {base : Nat} {spare : Nat → Bool} {held : Bool}
theorem trod_ce13 {fuel : Nat} {cs : List Value} {x : DataW H × List MemPlace} (h : DataW.trod enc Tryz.prog w base spare held fuel 27 cs = some x) (hl : cs.length = 33) : ∃ y : ClP.Held, cs = ClP.ceL y := by
  obtain ⟨y0, y1, m, _, _, h0, h1⟩ := trod_struct2 Tryz.underlying27 h
  rw [cells_n64'] at h0
  rw [cells_tg13] at h1
  obtain ⟨b, e0, _, w0⟩ := DataW.trod_int Tryz.underlying23 h0
  obtain ⟨f, _, e1⟩ := trod_ar ClP.uTg cells_tg13 h1
  obtain ⟨n, rfl⟩ := u64_wf13 w0
  exact ⟨(n, f), list_33' hl e0 e1⟩
set_option maxRecDepth 100000 in
theorem trod_steps {fuel : Nat} {c : Value} {x : DataW H × List MemPlace} (hf : DataW.trod enc Tryz.prog w base spare held fuel 28 [c] = some x) (hw : ∀ m ∈ x.1.weights Tryz.prog 28, m ≤ 140737488351232) :
    ∃ (A : Option Addr) (l : List (Stp × SlB)) (n cap : Nat), c = .slice A n cap ∧ Sli 70 stL (fun b => b < w.heap.size) w A l n cap ∧ ∀ y ∈ l, StOk w y := by
  rcases open_slice Tryz.underlying28 hf with ⟨hcs, _⟩ | ⟨a, n, cap, m, fu, D, Plc, hcs, hb, hl, hm, hmm, hx, hi⟩
  · simp only [List.cons.injEq, and_true] at hcs
    exact ⟨none, [], 0, 0, hcs, Sli.nil _ _ _ _, fun a ha => by cases ha⟩
  · simp only [List.cons.injEq, and_true] at hcs
    subst hcs
    have hnm : n ≤ m := by rw [hmm]; split <;> omega
    subst hx
    have hwD : ∀ i, i < n → ∀ k ∈ (D i).weights Tryz.prog 62, k ≤ 140737488351232 := fun i hin k hk => hw k (by
      rw [DataW.weights, Tryz.underlying28]
      refine List.mem_cons_of_mem _ (List.mem_append_left _ (weightsAll_mem13 (d := D i) ?_ hk))
      exact List.mem_map.2 ⟨i, List.mem_range.2 hin, rfl⟩)
    have one : ∀ i, i < n → ∃ y : Stp × SlB, StOk w y ∧ ∀ j, j < 70 → w.cell? (a.add (i * 70 + j)) = (stL y)[j]? := fun i hin => by
      obtain ⟨cs', hc, ht⟩ := hi i (by omega)
      have h3 := World.cells?_some hc
      rw [cells_st13] at h3
      obtain ⟨y, y1, y2⟩ := trod_st ht (hwD i hin)
      refine ⟨y, y2, fun j hj => ?_⟩
      have h6 := h3.2.2 j hj
      rw [Go.Deep.add_add, y1] at h6
      exact h6
    obtain ⟨F, hF⟩ := choose_lt one
    have hg : ∀ i, ((List.range n).map F)[i]? = if i < n then some (F i) else none := fun i => by
      by_cases hi : i < n
      · rw [if_pos hi, List.getElem?_map, List.getElem?_range hi]; rfl
      · rw [if_neg hi, List.getElem?_eq_none (by simp; omega)]
    refine ⟨some a, (List.range n).map F, n, cap, rfl, ⟨by simp, hl, hm, (fun h => by cases h), fun hn => ?_⟩, fun x hx => ?_⟩
    · have hn' : 0 < n := by simpa using hn
      obtain ⟨_, h0⟩ := hF 0 hn'
      have h00 := h0 0 (by omega)
      have e00 : (stL (F 0))[0]? = some (.int .i64 (F 0).1.a) := rfl
      rw [e00] at h00
      have hsp : a.spot = none := by
        simp only [Nat.zero_mul, Nat.zero_add, Addr.add, if_true] at h00
        unfold World.cell? at h00
        split at h00
        · cases hs : a.spot with
          | none => rfl
          | some s => simp [hs] at h00
        · cases h00
      have hblk : a.block < w.heap.size := by
        have := World.block_lt_of_cell? w _ h00
        simpa [Addr.add] using this
      obtain ⟨b, o, sp⟩ := a
      subst hsp
      refine ⟨b, o, rfl, hblk, hblk, fun i x hi2 j u hj => ?_⟩
      rw [hg] at hi2
      split at hi2
      · rename_i hin
        obtain rfl := Option.some.inj hi2
        have hjl : j < 70 := by have := (List.getElem?_eq_some_iff.1 hj).1; rwa [stL_len] at this
        have := (hF i hin).2 j hjl
        rw [Addr.add_mid, hj] at this
        rwa [show o + (i * 70 + j) = o + i * 70 + j by omega] at this
      · cases hi2
    · obtain ⟨i, hi, rfl⟩ := List.mem_map.1 hx
      exact (hF i (List.mem_range.1 hi)).1
theorem trod_ints {fuel : Nat} {c : Value} {x : DataW H × List MemPlace} (hf : DataW.trod enc Tryz.prog w base spare held fuel 22 [c] = some x) :
    ∃ (A : Option Addr) (l : List Int) (n cap : Nat), c = .slice A n cap ∧ Sli 1 inL (fun b => b < w.heap.size) w A l n cap := by
  rcases open_slice1 Tryz.underlying22 cells_i13 hf with ⟨hcs, _⟩ | ⟨a, n, cap, m, fu, V, D, Plc, hcs, hb, hl, hm, hmm, hx, hi⟩
  · simp only [List.cons.injEq, and_true] at hcs
    exact ⟨none, [], 0, 0, hcs, Sli.nil _ _ _ _⟩
  · simp only [List.cons.injEq, and_true] at hcs
    subst hcs
    have hnm : n ≤ m := by rw [hmm]; split <;> omega
    have one : ∀ i, i < n → ∃ y : Int, w.cell? (a.add i) = some (.int .i64 y) := fun i hin => by
      obtain ⟨h1, h2⟩ := hi i (by omega)
      obtain ⟨y, e, _, _⟩ := DataW.trod_int Tryz.underlying3 h2
      simp only [List.cons.injEq, and_true] at e
      exact ⟨y, by rw [h1, e]⟩
    obtain ⟨F, hF⟩ := choose_lt one
    have hg : ∀ i, ((List.range n).map F)[i]? = if i < n then some (F i) else none := fun i => by
      by_cases hi : i < n
      · rw [if_pos hi, List.getElem?_map, List.getElem?_range hi]; rfl
      · rw [if_neg hi, List.getElem?_eq_none (by simp; omega)]
    refine ⟨some a, (List.range n).map F, n, cap, rfl, ⟨by simp, hl, hm, (fun h => by cases h), fun hn => ?_⟩⟩
    have hn' : 0 < n := by simpa using hn
    have h00 := hF 0 hn'
    have hsp : a.spot = none := by
      simp only [Addr.add, if_true] at h00
      unfold World.cell? at h00
      split at h00
      · cases hs : a.spot with
        | none => rfl
        | some s => simp [hs] at h00
      · cases h00
    have hblk : a.block < w.heap.size := by
      have := World.block_lt_of_cell? w _ h00
      simpa [Addr.add] using this
    obtain ⟨b, o, sp⟩ := a
    subst hsp
    refine ⟨b, o, rfl, hblk, hblk, fun i x hi2 j u hj => ?_⟩
    rw [hg] at hi2
    split at hi2
    · rename_i hin
      obtain rfl := Option.some.inj hi2
      have hj0 : j = 0 := by have := (List.getElem?_eq_some_iff.1 hj).1; simp [inL] at this; omega
      subst hj0
      have hu : u = .int .i64 (F i) := by simp [inL] at hj; exact hj.symm
      rw [hu]
      have := hF i hin
      rw [Addr.add_mid] at this
      rwa [show o + i * 1 + 0 = o + i by omega]
    · cases hi2
theorem open_case13 {r : Reach} {b0 : Nat} {v : Value} {d : DataW H} {p : List MemPlace} (hv : Value.okWide Tryz.prog w r b0 30 v) (h : DataW.Trod enc Tryz.prog w base spare held 30 v d p) (hw : ∀ m ∈ d.weights Tryz.prog 30, m ≤ 140737488351232) :
    ∃ (A : Option Addr) (ls : List Int) (n c : Nat) (h : ClP.Held) (A2 : Option Addr) (l : List (Stp × SlB)) (n2 c2 : Nat), v = .agg (caR A n c h A2 n2 c2) ∧ Sli 1 inL (fun b => b < w.heap.size) w A ls n c ∧ Sli 70 stL (fun b => b < w.heap.size) w A2 l n2 c2 ∧ ∀ y ∈ l, StOk w y := by
  obtain ⟨cs, rfl, hsz⟩ := okWide_struct Tryz.underlying30 hv
  rw [cells_ca] at hsz
  obtain ⟨fuel, hf⟩ := h
  obtain ⟨xs, n, _, e, hl, hlen, hff⟩ := DataW.trod_struct Tryz.underlying30 hf
  match xs, hlen with
  | [y0, y1, y2], _ =>
    have h0 : DataW.trod enc Tryz.prog w base spare held n 22 ((cs.toList.drop 0).take (Tryz.prog.cellsOf 22)) = some y0 := hff 0 _ rfl
    have h1 : DataW.trod enc Tryz.prog w base spare held n 27 ((cs.toList.drop 1).take (Tryz.prog.cellsOf 27)) = some y1 := hff 1 _ rfl
    have h2 : DataW.trod enc Tryz.prog w base spare held n 28 ((cs.toList.drop 34).take (Tryz.prog.cellsOf 28)) = some y2 := hff 2 _ rfl
    rw [cells_li] at h0
    rw [cells_ce13] at h1
    rw [cells_ls] at h2
    have hL : cs.toList.length = 35 := by rw [Array.length_toList]; exact hsz
    obtain ⟨c0, e0⟩ : ∃ c0, (cs.toList.drop 0).take 1 = [c0] := by
      match hcs : cs.toList, hL with
      | a :: t, _ => exact ⟨a, rfl⟩
    obtain ⟨c2, e2⟩ : ∃ c2, (cs.toList.drop 34).take 1 = [c2] := by
      have : ((cs.toList.drop 34).take 1).length = 1 := by simp [hL]
      match hcs : (cs.toList.drop 34).take 1, this with
      | [a], _ => exact ⟨a, rfl⟩
    rw [e0] at h0
    rw [e2] at h2
    obtain ⟨A, ls, n1, c1, rfl, s1⟩ := trod_ints h0
    obtain ⟨hh, e1⟩ := trod_ce13 h1 (by simp [hL])
    have hdw : ∀ m ∈ y2.1.weights Tryz.prog 28, m ≤ 140737488351232 := fun m hm => hw m (by
      have hd : d = _ := (Prod.mk.inj e).1
      rw [hd, DataW.weights, Tryz.underlying30]
      exact weightsEach_mem13 (i := 2) rfl rfl hm)
    obtain ⟨A2, l, n2, c3, rfl, s2, s3⟩ := trod_steps h2 hdw
    refine ⟨A, ls, n1, c1, hh, A2, l, n2, c3, ?_, s1, s2, s3⟩
    congr 1
    apply Array.ext'
    unfold caR
    have key : cs.toList = (cs.toList.drop 0).take 1 ++ ((cs.toList.drop 1).take 33 ++ (cs.toList.drop 34).take 1) := by
      apply List.ext_getElem?
      intro j
      by_cases j0 : j < 1
      · rw [List.getElem?_append_left (by simp [hL]; omega), List.getElem?_take_of_lt j0, List.getElem?_drop, Nat.zero_add]
      · rw [List.getElem?_append_right (by simp [hL]; omega)]
        have l1 : ((cs.toList.drop 0).take 1).length = 1 := by simp [hL]
        rw [l1]
        by_cases j1 : j < 34
        · rw [List.getElem?_append_left (by simp [hL]; omega), List.getElem?_take_of_lt (by omega), List.getElem?_drop, show 1 + (j - 1) = j by omega]
        · have l2 : ((cs.toList.drop 1).take 33).length = 33 := by simp [hL]
          rw [List.getElem?_append_right (by rw [l2]; omega), l2]
          by_cases j2 : j < 35
          · rw [List.getElem?_take_of_lt (by omega), List.getElem?_drop, show 34 + (j - 1 - 33) = j by omega]
          · rw [List.getElem?_eq_none (by omega), List.getElem?_eq_none (by simp [hL]; omega)]
    rw [key, e0, e1, e2]
    rfl
end
end BuP
end Go.Proofs.YthogklchmhjjkaaGreat
set_option maxRecDepth 100000
namespace Go.Proofs.YthogklchmhjjkaaGreat
open Go.ChangeShapes Go.WideShapes Go.ChangeAt Go.RowKit
attribute [local go_sem] Gives GivesE
namespace BuP
open MbP BuM
section
variable {A A2 : Option Addr} {n c n2 c2 : Nat} {h : ClP.Held} {w : World} {g : Nat}
theorem caR_size : (caR A n c h A2 n2 c2).size = 35 := by unfold caR; simp [ClP.ceL, size_ar]
theorem ca_0 (H : Blk w g 30 (caR A n c h A2 n2 c2)) : w.cell? ⟨g, 0, none⟩ = some (.slice A n c) := H.cell 0
theorem ca_34 (H : Blk w g 30 (caR A n c h A2 n2 c2)) : w.cell? ⟨g, 34, none⟩ = some (.slice A2 n2 c2) := by
  rw [H.cell 34]
  unfold caR
  rw [List.getElem?_toArray, List.getElem?_cons_succ, List.getElem?_append_right (by simp [ClP.ceL, size_ar])]
  simp [ClP.ceL, size_ar]
theorem ca_c (H : Blk w g 30 (caR A n c h A2 n2 c2)) : w.rangeAt g 1 (ClP.ceL h) := fun j v hj => by
  rw [H.cell]
  unfold caR
  have hl := (List.getElem?_eq_some_iff.1 hj).1
  rw [List.getElem?_toArray, Nat.add_comm, List.getElem?_cons_succ, List.getElem?_append_left hl]
  exact hj
end
/-- What large tells: there is more than is looked at, or all is small. -/
def LgV (l : List (Stp × SlB)) (n n2 n3 : Nat) (v : Value) : Prop := v = .bool true ∨ v = .bool false ∧ n ≤ 70 ∧ n2 ≤ 60 ∧ n3 ≤ 80 ∧ ∀ y ∈ l, y.1.picks.length ≤ 200
set_option maxHeartbeats 4000000 in
set_option maxRecDepth 100000 in
theorem large_any {A A2 A3 : Option Addr} {ls : List Int} {l : List (Stp × SlB)} {la : List ActB} {n c n2 c2 n3 c3 : Nat} {h : ClP.Held} (W : World) (hA : Sli 1 inL (fun b => b < W.heap.size) W A ls n c) (h2 : Sli 70 stL (fun b => b < W.heap.size) W A2 l n2 c2) (h3 : n3 ≤ maxLen) :
    Calls Tryz.prog 4 #[.agg (caR A n c h A2 n2 c2), .slice A3 n3 c3] W fun e w' => ∃ v, e = .returned v ∧ LgV l n n2 n3 v ∧ Below W.heap.size W w' := by
  have H2 := hid h2
  have hn : n ≤ 9223372036854775807 := by have := hA.cap; have := hA.max; unfold maxLen at *; omega
  have hn2 : n2 ≤ 9223372036854775807 := by have := h2.cap; have := h2.max; unfold maxLen at *; omega
  have hn3 : n3 ≤ 9223372036854775807 := by unfold maxLen at *; omega
  clear hA h2 h3
  go_enter Tryz.func4, Tryz.ntmps4
  go_upto_region 1 with fail
  generalize hw1 : World.alloc W _ = w1
  have B1 := hid (show Below W.heap.size W w1 by rw [← hw1]; exact (Below.refl _ _).alloc (Nat.le_refl _) _)
  have C1 := hid (show Blk w1 W.heap.size 30 (caR A n c h A2 n2 c2) by rw [← hw1]; exact Blk.new _ _ _)
  clear hw1
  have S1 := hid (H2.out.turn (Turn.of_new (S := fun _ => False) B1.out) fun _ _ _ e => e)
  have q0 := ca_0 C1.out
  have q1 := ca_34 C1.out
  clear H2
  go_wp2_with fail
  go_loop [5] (fun u => ∃ k : Nat, u = .int .i64 k ∧ k ≤ n2 ∧ k ≤ 60 ∧ Hid (∀ i y, i < k → l[i]? = some y → y.1.picks.length ≤ 200)) (fun u => 60 - (intOf u).toNat)
  case atStart => exact ⟨0, rfl, Nat.zero_le _, Nat.zero_le _, hid fun i y hi => absurd hi (Nat.not_lt_zero _)⟩
  case round =>
    obtain ⟨k, rfl, hk, hk6, HM⟩ := hrel
    by_cases hgo : k < n2 ∧ k < 60
    · obtain ⟨g1, g2⟩ := hgo
      have t1 : (k : Int) < n2 := by omega
      have t2 : (k : Int) < 60 := by omega
      obtain ⟨y, hy⟩ : ∃ y, l[k]? = some y := ⟨_, List.getElem?_eq_getElem (by rw [S1.out.len]; exact g1)⟩
      obtain ⟨b, o, rfl, _, hbl, hr⟩ := S1.out.some hy
      have q2 := st_p hr
      have HY := hid hy
      have hpl : y.1.picks.length ≤ y.1.picks.length := Nat.le_refl _
      obtain ⟨pn, hpn⟩ : ∃ pn, pn = y.1.picks.length := ⟨_, rfl⟩
      rw [← hpn] at q2
      have HPN := hid hpn
      clear hy hr hpn hpl
      by_cases hbig : 200 < pn
      · have t3 : (200 : Int) < pn := by omega
        go_wp2_with fail
        go_ret
        exact ⟨_, rfl, .inl rfl, B1.out⟩
      · have t3 : ¬ (200 : Int) < pn := by omega
        go_wp2_with fail
        go_round
        case rel =>
          refine ⟨k + 1, by go_num, by omega, by omega, hid fun i x hi hx => ?_⟩
          by_cases e : i = k
          · subst e
            rw [HY.out] at hx
            cases hx
            have := HPN.out
            omega
          · exact HM.out i x (by omega) hx
        case measure => simp [intOf] <;> omega
    · by_cases hg : k < n2
      · have e60 : k = 60 := by omega
        subst e60
        have t1 : ((60 : Nat) : Int) < n2 := by omega
        have t5 : (60 : Int) < n2 := by omega
        by_cases h70 : 70 < n
        · have t4 : (70 : Int) < n := by omega
          go_wp2_with fail
          go_ret
          exact ⟨_, rfl, .inl rfl, B1.out⟩
        · have t4 : ¬ (70 : Int) < n := by omega
          go_wp2_with fail
          go_ret
          exact ⟨_, rfl, .inl rfl, B1.out⟩
      · have t1 : ¬ (k : Int) < n2 := by omega
        have t5 : ¬ (60 : Int) < n2 := by omega
        have HALL := hid (show ∀ y ∈ l, y.1.picks.length ≤ 200 from fun y hy => by
          obtain ⟨i, hi⟩ := List.mem_iff_getElem?.1 hy
          have := (List.getElem?_eq_some_iff.1 hi).1
          rw [S1.out.len] at this
          exact HM.out i y (by omega) hi)
        by_cases h70 : 70 < n
        · have t4 : (70 : Int) < n := by omega
          go_wp2_with fail
          go_ret
          exact ⟨_, rfl, .inl rfl, B1.out⟩
        · have t4 : ¬ (70 : Int) < n := by omega
          by_cases h80 : 80 < n3
          · have t6 : (80 : Int) < n3 := by omega
            go_wp2_with fail
            go_ret
            exact ⟨_, rfl, .inl rfl, B1.out⟩
          · have t6 : ¬ (80 : Int) < n3 := by omega
            go_wp2_with fail
            go_ret
            exact ⟨_, rfl, .inr ⟨rfl, by omega, by omega, by omega, HALL.out⟩, B1.out⟩
end BuP
end Go.Proofs.YthogklchmhjjkaaGreat
set_option maxRecDepth 100000
namespace Go.Proofs.YthogklchmhjjkaaGreat
open Go.ChangeShapes Go.WideShapes Go.ChangeAt Go.RowKit
attribute [local go_sem] Gives GivesE
namespace BuP
open BuM MbM MbP
section
variable {repB : RepB} {w w' w2 : World} {g k k' k2 : Nat} {F : Fq} {b b2 : Bs}
theorem Pp.own {repB2 : RepB} (H : Pp repB w g F k b) {Mo' : Nat → Prop} {off' : Bool} {log' : List BuM.Ent} (hs : repB2 w' g F.gs F.gc Mo' F.Io b.steps off' log') (ht : Turn F.Mo w w') (hM : ∀ q, Mo' q → F.Mo q ∨ w.heap.size ≤ q) (hlt : ∀ q, Mo' q → q < w'.heap.size) (hk : k ≤ k') (hl : log'.length ≤ k') :
    outQ repB2 w g F k' { b with off := off', log := log' } w' := by
  refine ⟨{ F with Mo := Mo' }, ⟨hs, H.len, fun i gi st h1 h2 => ?_, H.ok, ?_, fun q e => ?_, fun q e x => ?_, H.nd, fun q e => ⟨fun x => ?_, (H.mc q e).2⟩, fun q e i hi x => ?_, ⟨H.sz.1, H.sz.2.1, Nat.le_trans H.sz.2.2.1 (Nat.succ_le_succ hk), hl, H.sz.2.2.2.2⟩, H.cmx⟩, rfl, rfl, fun q e => ?_, fun q e => .inr (.inl e), ht.mono fun q e => .inl e⟩
  · have hi := (List.getElem?_eq_some_iff.1 h1).1
    exact MbP.memB_ok.mono (MbP.memB_ok.frame (H.mem i gi st h1 h2) ht fun q e x => e.elim (H.mo q x i hi) fun y => H.sep q (.inr ⟨i, hi, y⟩) (.inl x)) hk
  · exact cb_turn H.cel ht fun q e x => (H.mc q e).1 x
  · exact e.elim (hlt q) fun x => Nat.lt_of_lt_of_le (H.olt q (.inr x)) ht.size
  · rcases x with x | x
    · rcases hM q x with y | y
      · exact H.sep q e (.inl y)
      · have := H.ilt q e; omega
    · exact H.sep q e (.inr x)
  · rcases hM q x with y | y
    · exact (H.mc q e).1 y
    · have := cb_lt H.cel q e; omega
  · rcases hM q e with y | y
    · exact H.mo q y i hi x
    · have := H.mlt q (.inr (.inr ⟨i, hi, x⟩)); omega
  · rcases e with e | e
    · exact (hM q e).imp .inl id
    · exact .inl (.inr e)
theorem Pp.put (hfr : ∀ {w w' g gs gc Mo Io steps off log} {T : Nat → Prop}, repB w g gs gc Mo Io steps off log → Turn T w w' → (∀ q, Mo q ∨ Io q → ¬ T q) → repB w' g gs gc Mo Io steps off log)
    (H : Pp repB w g F k b) {i gi : Nat} {st' : St} (hgi : F.gs[i]? = some gi) (ho : outP RepM w gi (F.Ms i) (F.Is i) k' st' w') (hk : k ≤ k') (hok : st'.ok) :
    outQ repB w g F k' { b with ms := b.ms.set i st' } w' := by
  obtain ⟨M', I', h1, h2, h3, h4⟩ := ho
  have hi := (List.getElem?_eq_some_iff.1 hgi).1
  have hib : i < b.ms.length := by rw [← H.len]; exact hi
  have hown := MbP.memB_ok.own h1
  have hlt1 := MbP.memB_ok.lt h1
  refine ⟨{ F with Ms := fun j => if j = i then M' else F.Ms j, Is := fun j => if j = i then I' else F.Is j }, ⟨?_, ?_, fun j gj st e1 e2 => ?_, ⟨set_ok H.ok.1 _ hok, H.ok.2⟩, ?_, fun q e => ?_, fun q e x => ?_, fun j l q hj hl e x => ?_, fun q e => ⟨(H.mc q e).1, fun j hj x => ?_⟩, fun q e j hj x => ?_, ⟨by show (b.ms.set i st').length ≤ 64; rw [List.length_set]; exact H.sz.1, H.sz.2.1, Nat.le_trans H.sz.2.2.1 (Nat.succ_le_succ hk), Nat.le_trans H.sz.2.2.2.1 hk, H.sz.2.2.2.2⟩, H.cmx⟩, rfl, rfl, fun q e => ?_, fun q e => ?_, h4.mono fun q e => .inr (.inr ⟨i, hi, e⟩)⟩
  · exact hfr H.skel h4 fun q e x => e.elim (fun y => H.mo q y i hi x) fun y => H.sep q (.inl y) (.inr (.inr ⟨i, hi, x⟩))
  · show F.gs.length = (b.ms.set i st').length
    rw [List.length_set]; exact H.len
  · by_cases e : j = i
    · subst e
      have e1' : F.gs[j]? = some gj := e1
      rw [hgi] at e1'
      cases e1'
      have e2' : (b.ms.set j st')[j]? = some st := e2
      rw [List.getElem?_set_self hib] at e2'
      cases e2'
      show RepM w' gi (if j = j then M' else F.Ms j) (if j = j then I' else F.Is j) k' st'
      rw [if_pos rfl, if_pos rfl]
      exact h1
    · have e2' : (b.ms.set i st')[j]? = some st := e2
      rw [List.getElem?_set_ne (Ne.symm e)] at e2'
      show RepM w' gj (if j = i then M' else F.Ms j) (if j = i then I' else F.Is j) k' st
      rw [if_neg e, if_neg e]
      have hj := (List.getElem?_eq_some_iff.1 e1).1
      exact MbP.memB_ok.mono (MbP.memB_ok.frame (H.mem j gj st e1 e2') h4 fun q y x => y.elim (fun z => e (H.nd j i q hj hi z x)) fun z => H.sep q (.inr ⟨j, hj, z⟩) (.inr (.inr ⟨i, hi, x⟩))) hk
  · exact cb_turn H.cel h4 fun q e x => (H.mc q e).2 i hi x
  · exact Nat.lt_of_lt_of_le (H.olt q e) h4.size
  · -- what is read is not turned
    have hx : mutP F q ∨ w.heap.size ≤ q := by
      rcases x with x | x | ⟨j, hj, x⟩
      · exact .inl (.inl x)
      · exact .inl (.inr (.inl x))
      · by_cases ej : j = i
        · subst ej
          have x' : (if j = j then M' else F.Ms j) q := x
          rw [if_pos rfl] at x'
          exact (h2 q x').imp (fun y => .inr (.inr ⟨j, hj, y⟩)) id
        · have x' : (if j = i then M' else F.Ms j) q := x
          rw [if_neg ej] at x'
          exact .inl (.inr (.inr ⟨j, hj, x'⟩))
    rcases e with e | ⟨j, hj, e⟩
    · rcases hx with y | y
      · exact H.sep q (.inl e) y
      · have := H.olt q (.inr e); omega
    · by_cases ej : j = i
      · subst ej
        have e' : (if j = j then I' else F.Is j) q := e
        rw [if_pos rfl] at e'
        have hM' : ¬ M' q := fun z => hown q z e'
        have hq : F.Ms j q ∨ F.Is j q ∨ w.heap.size ≤ q := h3 q e'
        rcases x with x | x | ⟨l, hl, x⟩
        · rcases hq with y | y | y
          · exact H.mo q x j hj y
          · exact H.sep q (.inr ⟨j, hj, y⟩) (.inl x)
          · have := H.olt q (.inl x); omega
        · rcases hq with y | y | y
          · exact (H.mc q x).2 j hj y
          · exact H.sep q (.inr ⟨j, hj, y⟩) (.inr (.inl x))
          · have := cb_lt H.cel q x; omega
        · by_cases el : l = j
          · subst el
            have x' : (if l = l then M' else F.Ms l) q := x
            rw [if_pos rfl] at x'
            exact hM' x'
          · have x' : (if l = j then M' else F.Ms l) q := x
            rw [if_neg el] at x'
            rcases hq with y | y | y
            · exact el (H.nd l j q hl hj x' y)
            · exact H.sep q (.inr ⟨j, hj, y⟩) (.inr (.inr ⟨l, hl, x'⟩))
            · have := H.mlt q (.inr (.inr ⟨l, hl, x'⟩)); omega
      · have e' : (if j = i then I' else F.Is j) q := e
        rw [if_neg ej] at e'
        rcases hx with y | y
        · exact H.sep q (.inr ⟨j, hj, e'⟩) y
        · have := H.ilt q (.inr ⟨j, hj, e'⟩); omega
  · have e' : (if j = i then M' else F.Ms j) q := e
    have x' : (if l = i then M' else F.Ms l) q := x
    by_cases ej : j = i
    · by_cases el : l = i
      · rw [ej, el]
      · rw [if_pos ej] at e'
        rw [if_neg el] at x'
        rcases h2 q e' with y | y
        · exact absurd (H.nd l i q hl hi x' y) el
        · have := H.mlt q (.inr (.inr ⟨l, hl, x'⟩)); omega
    · rw [if_neg ej] at e'
      by_cases el : l = i
      · rw [if_pos el] at x'
        rcases h2 q x' with y | y
        · exact absurd (H.nd j i q hj hi e' y) ej
        · have := H.mlt q (.inr (.inr ⟨j, hj, e'⟩)); omega
      · rw [if_neg el] at x'
        exact H.nd j l q hj hl e' x'
  · have x' : (if j = i then M' else F.Ms j) q := x
    by_cases ej : j = i
    · rw [if_pos ej] at x'
      rcases h2 q x' with y | y
      · exact (H.mc q e).2 i hi y
      · have := cb_lt H.cel q e; omega
    · rw [if_neg ej] at x'
      exact (H.mc q e).2 j hj x'
  · have x' : (if j = i then M' else F.Ms j) q := x
    by_cases ej : j = i
    · rw [if_pos ej] at x'
      rcases h2 q x' with y | y
      · exact H.mo q e i hi y
      · have := H.olt q (.inl e); omega
    · rw [if_neg ej] at x'
      exact H.mo q e j hj x'
  · rcases e with e | e | ⟨j, hj, e⟩
    · exact .inl (.inl e)
    · exact .inl (.inr (.inl e))
    · have e' : (if j = i then M' else F.Ms j) q := e
      by_cases ej : j = i
      · rw [if_pos ej] at e'
        exact (h2 q e').imp (fun y => .inr (.inr ⟨i, hi, y⟩)) id
      · rw [if_neg ej] at e'
        exact .inl (.inr (.inr ⟨j, hj, e'⟩))
  · rcases e with e | ⟨j, hj, e⟩
    · exact .inr (.inl (.inl e))
    · have e' : (if j = i then I' else F.Is j) q := e
      by_cases ej : j = i
      · rw [if_pos ej] at e'
        rcases h3 q e' with y | y | y
        · exact .inl (.inr (.inr ⟨i, hi, y⟩))
        · exact .inr (.inl (.inr ⟨i, hi, y⟩))
        · exact .inr (.inr y)
      · rw [if_neg ej] at e'
        exact .inr (.inl (.inr ⟨j, hj, e'⟩))
theorem Pp.celled (hfr : ∀ {w w' g gs gc Mo Io steps off log} {T : Nat → Prop}, repB w g gs gc Mo Io steps off log → Turn T w w' → (∀ q, Mo q ∨ Io q → ¬ T q) → repB w' g gs gc Mo Io steps off log)
    (H : Pp repB w g F k b) {Mc' : Nat → Prop} {hist' : List ClP.Held} {c' : ClP.Held} (hc : repCb w' F.gc Mc' hist' c') (hM : ∀ q, Mc' q → F.Mc q ∨ w.heap.size ≤ q) (ht : Turn F.Mc w w') (hk : k ≤ k') (hl : hist'.length ≤ k' + 1) (hm : c'.1 ≤ ClP.most) :
    outQ repB w g F k' { b with c := c' } w' := by
  refine ⟨{ F with Mc := Mc', hist := hist' }, ⟨?_, H.len, fun i gi st h1 h2 => ?_, H.ok, hc, fun q e => ?_, fun q e x => ?_, H.nd, fun q e => ⟨fun x => ?_, fun i hi x => ?_⟩, H.mo, ⟨H.sz.1, H.sz.2.1, hl, Nat.le_trans H.sz.2.2.2.1 hk, H.sz.2.2.2.2⟩, hm⟩, rfl, rfl, fun q e => ?_, fun q e => .inr (.inl e), ht.mono fun q e => .inr (.inl e)⟩
  · exact hfr H.skel ht fun q e x => e.elim (H.mc q x).1 fun y => H.sep q (.inl y) (.inr (.inl x))
  · have hi := (List.getElem?_eq_some_iff.1 h1).1
    exact MbP.memB_ok.mono (MbP.memB_ok.frame (H.mem i gi st h1 h2) ht fun q e x => e.elim ((H.mc q x).2 i hi) fun y => H.sep q (.inr ⟨i, hi, y⟩) (.inr (.inl x))) hk
  · exact Nat.lt_of_lt_of_le (H.olt q e) ht.size
  · rcases x with x | x | x
    · exact H.sep q e (.inl x)
    · rcases hM q x with y | y
      · exact H.sep q e (.inr (.inl y))
      · have := H.ilt q e; omega
    · exact H.sep q e (.inr (.inr x))
  · rcases hM q e with y | y
    · exact (H.mc q y).1 x
    · have := H.olt q (.inl x); omega
  · rcases hM q e with y | y
    · exact (H.mc q y).2 i hi x
    · have := H.mlt q (.inr (.inr ⟨i, hi, x⟩)); omega
  · rcases e with e | e | e
    · exact .inl (.inl e)
    · exact (hM q e).imp (fun y => .inr (.inl y)) id
    · exact .inl (.inr (.inr e))
theorem outQ.mono (h : outQ repB w g F k b w') (hk : k ≤ k') : outQ repB w g F k' b w' := by
  obtain ⟨F', h1, h2⟩ := h
  exact ⟨F', h1.mono hk, h2⟩
theorem outQ.trans {F' : Fq} (hg : F'.gs = F.gs) (hc : F'.gc = F.gc) (hm : ∀ q, mutP F' q → mutP F q ∨ w.heap.size ≤ q) (hr : ∀ q, rdP F' q → mutP F q ∨ rdP F q ∨ w.heap.size ≤ q) (ht : Turn (mutP F) w w') (h : outQ repB w' g F' k2 b2 w2) : outQ repB w g F k2 b2 w2 := by
  obtain ⟨F2, h1, h2, h3, h4, h5, h6⟩ := h
  refine ⟨F2, h1, h2.trans hg, h3.trans hc, fun q e => ?_, fun q e => ?_, ht.trans h6 hm⟩
  · rcases h4 q e with y | y
    · exact hm q y
    · exact .inr (Nat.le_trans ht.size y)
  · rcases h5 q e with y | y | y
    · exact (hm q y).imp id .inr
    · exact hr q y
    · exact .inr (.inr (Nat.le_trans ht.size y))
theorem outQ.on (hfr : ∀ {w w' g gs gc Mo Io steps off log} {T : Nat → Prop}, repB w g gs gc Mo Io steps off log → Turn T w w' → (∀ q, Mo q ∨ Io q → ¬ T q) → repB w' g gs gc Mo Io steps off log)
    (H : Pp repB w g F k b) {T : Nat → Prop} (ht : Turn T w w') (hT : ∀ q, mutP F q ∨ rdP F q → ¬ T q) : Pp repB w' g F k b where
  skel := hfr H.skel ht fun q e => hT q (e.imp .inl .inl)
  len := H.len
  mem i gi st h1 h2 := MbP.memB_ok.frame (H.mem i gi st h1 h2) ht fun q e => hT q (e.imp (fun x => .inr (.inr ⟨i, (List.getElem?_eq_some_iff.1 h1).1, x⟩)) fun x => .inr ⟨i, (List.getElem?_eq_some_iff.1 h1).1, x⟩)
  ok := H.ok
  cel := cb_turn H.cel ht fun q e => hT q (.inl (.inr (.inl e)))
  olt q e := Nat.lt_of_lt_of_le (H.olt q e) ht.size
  sep := H.sep
  nd := H.nd
  mc := H.mc
  mo := H.mo
  sz := H.sz
  cmx := H.cmx
end
end BuP
end Go.Proofs.YthogklchmhjjkaaGreat
set_option maxRecDepth 100000
namespace Go.Proofs.YthogklchmhjjkaaGreat
open Go.ChangeShapes Go.WideShapes Go.ChangeAt Go.RowKit
attribute [local go_sem] Gives
namespace MpV
abbrev Ent := Int × Value
abbrev zero : Value := .slice none 0 0
abbrev Img := Int → Value
def upd (F : Img) (i : Int) (s : Value) : Img := fun j => if j = i then s else F j
def look : List Ent → Int → Nat → Option (Nat × Value)
  | [], _, _ => none
  | p :: l, i, n => if p.1 = i then some (n, p.2) else look l i (n + 1)
def putE : List Ent → Int → Value → List Ent
  | [], i, s => [(i, s)]
  | p :: l, i, s => if p.1 = i then (i, s) :: l else p :: putE l i s
def delE : List Ent → Int → List Ent
  | [], _ => []
  | p :: l, i => if p.1 = i then l else p :: delE l i
def getE : List Ent → Int → Value
  | [], _ => zero
  | p :: l, i => if p.1 = i then p.2 else getE l i
theorem look_get (i : Int) : ∀ (l : List Ent) (n : Nat), ((look l i n).map (·.2)).getD zero = getE l i
  | [], n => rfl
  | p :: l, n => by
    unfold look getE
    split
    · rfl
    · exact look_get i l (n + 1)
theorem look_some {i : Int} : ∀ {l : List Ent} {n : Nat} {q : Nat × Value}, look l i n = some q → ∃ d, q.1 = n + d ∧ l[d]? = some (i, q.2) ∧ (∀ s, l.set d (i, s) = putE l i s) ∧ l.eraseIdx d = delE l i
  | [], n, q, h => by cases h
  | p :: l, n, q, h => by
    unfold look at h
    by_cases e : p.1 = i
    · rw [if_pos e] at h
      cases h
      refine ⟨0, rfl, ?_, fun s => ?_, ?_⟩
      · show some p = _; rw [← e]
      · show _ :: _ = _; unfold putE; rw [if_pos e]
      · show l = _; unfold delE; rw [if_pos e]
    · rw [if_neg e] at h
      obtain ⟨d, h1, h2, h3, h4⟩ := look_some h
      refine ⟨d + 1, by omega, h2, fun s => ?_, ?_⟩
      · rw [List.set_cons_succ, h3, putE, if_neg e]
      · rw [List.eraseIdx_cons_succ, h4, delE, if_neg e]
theorem look_none {i : Int} : ∀ {l : List Ent} {n : Nat}, look l i n = none → (∀ s, putE l i s = l ++ [(i, s)]) ∧ delE l i = l
  | [], n, h => ⟨fun s => rfl, rfl⟩
  | p :: l, n, h => by
    unfold look at h
    by_cases e : p.1 = i
    · rw [if_pos e] at h; cases h
    · rw [if_neg e] at h
      obtain ⟨h1, h2⟩ := look_none h
      exact ⟨fun s => by rw [putE, if_neg e, h1]; rfl, by rw [delE, if_neg e, h2]⟩
theorem get_put (i : Int) (s : Value) (j : Int) : ∀ l : List Ent, getE (putE l i s) j = if j = i then s else getE l j
  | [] => by
    unfold putE getE getE
    by_cases e : j = i
    · rw [if_pos e.symm, if_pos e]
    · rw [if_neg fun h => e h.symm, if_neg e]
  | p :: l => by
    unfold putE
    by_cases e : p.1 = i
    · rw [if_pos e]
      unfold getE
      by_cases h : j = i
      · rw [if_pos h.symm, if_pos h]
      · rw [if_neg fun x => h x.symm, if_neg h, if_neg fun x => h (x.symm.trans e)]
    · rw [if_neg e]
      unfold getE
      by_cases h : p.1 = j
      · rw [if_pos h, if_pos h, if_neg fun x => e (h.trans x)]
      · rw [if_neg h, if_neg h]; exact get_put i s j l
theorem get_out {i : Int} : ∀ {l : List Ent}, i ∉ l.map (·.1) → getE l i = zero
  | [], _ => rfl
  | p :: l, h => by
    rw [List.map_cons, List.mem_cons, not_or] at h
    unfold getE
    rw [if_neg fun e => h.1 e.symm]
    exact get_out h.2
theorem get_del (i j : Int) : ∀ l : List Ent, (l.map (·.1)).Nodup → getE (delE l i) j = if j = i then zero else getE l j
  | [], _ => by unfold delE getE; split <;> rfl
  | p :: l, h => by
    rw [List.map_cons, List.nodup_cons] at h
    unfold delE
    by_cases e : p.1 = i
    · rw [if_pos e]
      by_cases hj : j = i
      · rw [if_pos hj, hj]; exact get_out (e ▸ h.1)
      · rw [if_neg hj]
        conv => rhs; unfold getE
        rw [if_neg fun x => hj (x.symm.trans e)]
    · rw [if_neg e]
      unfold getE
      by_cases hp : p.1 = j
      · rw [if_pos hp, if_pos hp, if_neg fun x => e (hp.trans x)]
      · rw [if_neg hp, if_neg hp]; exact get_del i j l h.2
theorem del_sub (i : Int) : ∀ l : List Ent, (delE l i).Sublist l
  | [] => List.Sublist.refl _
  | p :: l => by
    unfold delE
    split
    · exact List.sublist_cons_self p l
    · exact (del_sub i l).cons_cons p
theorem nodup_del {i : Int} {l : List Ent} (h : (l.map (·.1)).Nodup) : ((delE l i).map (·.1)).Nodup := List.Nodup.sublist ((del_sub i l).map _) h
theorem mem_put {i k : Int} {s : Value} : ∀ {l : List Ent}, k ∈ (putE l i s).map (·.1) → k = i ∨ k ∈ l.map (·.1)
  | [], h => by simpa [putE] using h
  | p :: l, h => by
    unfold putE at h
    by_cases e : p.1 = i
    · rw [if_pos e, List.map_cons, List.mem_cons] at h
      exact h.imp id fun x => List.mem_cons_of_mem _ x
    · rw [if_neg e, List.map_cons, List.mem_cons] at h
      rcases h with h | h
      · exact .inr (by rw [List.map_cons, h]; exact List.mem_cons_self)
      · exact (mem_put h).imp id fun x => List.mem_cons_of_mem _ x
theorem nodup_put {i : Int} {s : Value} : ∀ {l : List Ent}, (l.map (·.1)).Nodup → ((putE l i s).map (·.1)).Nodup
  | [], _ => by simp [putE]
  | p :: l, h => by
    rw [List.map_cons, List.nodup_cons] at h
    unfold putE
    by_cases e : p.1 = i
    · rw [if_pos e, List.map_cons, List.nodup_cons]
      exact ⟨e ▸ h.1, h.2⟩
    · rw [if_neg e, List.map_cons, List.nodup_cons]
      exact ⟨fun x => (mem_put x).elim e h.1, nodup_put h.2⟩
/-- What is keyed, and by what. -/
def kvE (e : MapEntry) : Value × Value := (e.key, e.val)
def kvP (p : Ent) : Value × Value := (.int .i64 p.1, p.2)
theorem find_now (i : Int) : ∀ (es : List MapEntry) (l : List Ent) (n : Nat), es.map kvE = l.map kvP → Instr.findNow (.int .i64) (.int .i64 i) es n = some ((look l i n).map fun q => (q.1, q.2))
  | [], [], n, _ => rfl
  | [], _ :: _, n, h => by simp at h
  | _ :: _, [], n, h => by simp at h
  | e :: es, p :: l, n, h => by
    simp only [List.map_cons, List.cons.injEq] at h
    obtain ⟨h1, h2⟩ := h
    have hk : e.key = .int .i64 p.1 := congrArg Prod.fst h1
    have hv : e.val = p.2 := congrArg Prod.snd h1
    unfold Instr.findNow look
    rw [hk, hv]
    by_cases e' : p.1 = i
    · simp [Instr.sameNow, e']
    · have : (i == p.1) = false := by simp; exact fun h => e' h.symm
      simp only [Instr.sameNow, this, if_neg e', if_true]
      exact find_now i es l (n + 1) h2
/-- Block r is a map of sectors that reads as F. -/
def MapV (w : World) (r : Nat) (F : Img) : Prop := ∃ es clock l, w.heap[r]? = some (.map es clock) ∧ es.toList.map kvE = l.map kvP ∧ (l.map (·.1)).Nodup ∧ ∀ i, getE l i = F i
section
variable {w w' : World} {r : Nat} {F G : Img} {T : Nat → Prop}
theorem MapV.lt (h : MapV w r F) : r < w.heap.size := by
  obtain ⟨es, c, l, h1, _⟩ := h
  exact (Array.getElem?_eq_some_iff.1 h1).1
theorem MapV.turn (h : MapV w r F) (ht : Turn T w w') (hr : ¬ T r) : MapV w' r F := by
  have hl := h.lt
  obtain ⟨es, c, l, h1, h2⟩ := h
  exact ⟨es, c, l, (ht.block r hl hr).trans h1, h2⟩
theorem MapV.below (h : MapV w r F) (hb : Below w.heap.size w w') : MapV w' r F := h.turn (Turn.of_below hb) (by have := h.lt; omega)
theorem MapV.congr (h : MapV w r F) (e : ∀ i, F i = G i) : MapV w r G := by
  obtain ⟨es, c, l, h1, h2, h3, h4⟩ := h
  exact ⟨es, c, l, h1, h2, h3, fun i => (h4 i).trans (e i)⟩
theorem MapV.new (w : World) : MapV (w.alloc (.map #[] 0)) w.heap.size fun _ => zero := ⟨#[], 0, [], heap_alloc_new w _, rfl, List.nodup_nil, fun _ => rfl⟩
theorem MapV.twin (h : MapV w r F) : ∃ es clock, w.heap[r]? = some (.map es clock) ∧ ∀ w' r', w'.heap[r']? = some (.map es clock) → MapV w' r' F := by
  obtain ⟨es, c, l, h1, h2⟩ := h
  exact ⟨es, c, h1, fun w' r' e => ⟨es, c, l, e, h2⟩⟩
end
theorem undImg : Tryz.prog.underlying 104 = some (.map 3 28) := Tryz.underlying104
theorem zSlSt (w : World) : (zeroValue 28).run Tryz.prog w = .ok (.slice none 0 0) w := (zero_of_info (P := Tryz.prog) (t := 28) (v := .slice none 0 0) (n := 1) (by kernel_rfl)).1 w
theorem undInt : Tryz.prog.underlying 3 = some (.int .i64) := Tryz.underlying3
section
variable {w : World} {r : Nat} {F : Img}
theorem run_chk' (b : Bool) (n : Nat) (i : Int) (w : World) : (Instr.checkKey b (n + 1) 3 (.int .i64 i)).run Tryz.prog w = .ok () w := by
  unfold Instr.checkKey
  simp [run_underlying undInt, Result.andThen]
theorem run_chk (b : Bool) (i : Int) (w : World) : (Instr.checkKey b 10000 3 (.int .i64 i)).run Tryz.prog w = .ok () w := run_chk' b 9999 i w
theorem map_mod {α β : Type} {f : α → β} {g : α → α} {v : β} (hg : ∀ x, f (g x) = v) : ∀ (l : List α) (d : Nat), (l.modify d g).map f = (l.map f).set d v
  | [], d => by simp
  | x :: l, 0 => by simp [hg]
  | x :: l, d + 1 => by simp [map_mod hg l d]
theorem map_era {α β : Type} (f : α → β) : ∀ (l : List α) (d : Nat), (l.eraseIdx d).map f = (l.map f).eraseIdx d
  | [], d => by simp
  | x :: l, 0 => by simp
  | x :: l, d + 1 => by simp [map_era f l d]
theorem run_find {es : Array MapEntry} {l : List Ent} (h : es.toList.map kvE = l.map kvP) (i : Int) (w : World) : (Instr.findKey 3 (.int .i64 i) es.toList).run Tryz.prog w = .ok ((look l i 0).map fun q => (q.1, q.2)) w := by
  simp [Instr.findKey, run_underlying undInt, Result.andThen, find_now i es.toList l 0 h]
theorem run_look (h : MapV w r F) (i : Int) : (Instr.lookup 104 (.map (some r)) (.int .i64 i) false).run Tryz.prog w = .ok (F i) w := by
  obtain ⟨es, c, l, h1, h2, h3, h4⟩ := h
  have e := look_get i l 0
  cases hl : look l i 0 with
  | none =>
    rw [hl] at e
    have e2 : zero = getE l i := e
    have e3 : Value.slice none 0 0 = F i := e2.trans (h4 i)
    simp [Instr.lookup, run_underlying undImg, MapKept.run_getObj_map h1, run_chk, run_find h2, hl, Result.andThen, zSlSt w, e3]
  | some q =>
    rw [hl] at e
    have e2 : q.2 = getE l i := e
    have e3 : q.2 = F i := e2.trans (h4 i)
    simp [Instr.lookup, run_underlying undImg, MapKept.run_getObj_map h1, run_chk, run_find h2, hl, Result.andThen, e3]
theorem turn_set (w : World) (r : Nat) (o : Obj) : Turn (fun b => b = r) w { w with heap := w.heap.setIfInBounds r o } := ⟨rfl, rfl, rfl, by simp, fun k _ hk => by
  show (w.heap.setIfInBounds r o)[k]? = _
  rw [Array.getElem?_setIfInBounds_ne fun e => hk e.symm]⟩
theorem run_put (h : MapV w r F) (i : Int) (s : Value) : ∃ w', (Instr.mapUpdate 104 (.map (some r)) (.int .i64 i) (s)).run Tryz.prog w = .ok () w' ∧ MapV w' r (upd F i s) ∧ Turn (fun b => b = r) w w' := by
  have hlt := h.lt
  obtain ⟨es, c, l, h1, h2, h3, h4⟩ := h
  have hval : ∀ j, getE (putE l i s) j = upd F i s j := fun j => by
    rw [get_put]
    unfold upd
    by_cases e : j = i
    · rw [if_pos e, if_pos e]
    · rw [if_neg e, if_neg e]; exact h4 j
  cases hl : look l i 0 with
  | none =>
    obtain ⟨e1, e2⟩ := look_none hl
    refine ⟨_, by simp [Instr.mapUpdate, run_underlying undImg, MapKept.run_getObj_map h1, run_chk, run_find h2, hl, Result.andThen, MapKept.run_setObj_map _ h1]; rfl, ?_, turn_set _ _ _⟩
    refine ⟨_, _, putE l i s, by simp [hlt]; exact ⟨rfl, rfl⟩, ?_, nodup_put h3, hval⟩
    rw [e1, Array.toList_push, List.map_append, List.map_append, h2]
    rfl
  | some q =>
    obtain ⟨d, e1, e2, e3, e4⟩ := look_some hl
    rw [Nat.zero_add] at e1
    subst e1
    have hd : q.1 < l.length := (List.getElem?_eq_some_iff.1 e2).1
    have hlen : es.size = l.length := by have := congrArg List.length h2; simpa using this
    have hes : q.1 < es.size := by omega
    have hkey : es[q.1].key = .int .i64 i := by
      have := congrArg (fun x => x[q.1]?) h2
      simp only [List.getElem?_map, e2, Array.getElem?_toList, Array.getElem?_eq_getElem hes, Option.map_some, Option.some.injEq] at this
      exact congrArg Prod.fst this
    have hst : ∀ w, (Instr.keyThatStays (.int .i64 i) (.int .i64 i)).run Tryz.prog w = .ok (.int .i64 i) w := fun w => by
      simp [Instr.keyThatStays, Instr.sameBits]
    refine ⟨_, by simp [Instr.mapUpdate, run_underlying undImg, MapKept.run_getObj_map h1, run_chk, run_find h2, hl, Result.andThen, MapKept.run_setObj_map _ h1, Array.getElem?_eq_getElem hes, hkey, hst]; rfl, ?_, turn_set _ _ _⟩
    refine ⟨_, _, putE l i s, by simp [hlt]; exact ⟨rfl, rfl⟩, ?_, nodup_put h3, hval⟩
    rw [← e3, Array.toList_modify, List.map_set, ← h2]
    exact map_mod (f := kvE) (g := fun e => { key := Value.int IntKind.i64 i, val := s, born := e.born }) (v := kvP (i, s)) (fun _ => rfl) _ _
theorem run_del {ty : TypeId} (h : MapV w r F) (i : Int) : ∃ w', (Builtin.delete_ #[104, 3] ty #[.map (some r), .int .i64 i]).run Tryz.prog w = .ok (.tuple #[]) w' ∧ MapV w' r (upd F i zero) ∧ Turn (fun b => b = r) w w' := by
  have hlt := h.lt
  obtain ⟨es, c, l, h1, h2, h3, h4⟩ := h
  have hval : ∀ j, getE (delE l i) j = upd F i zero j := fun j => by
    rw [get_del i j l h3]
    unfold upd
    by_cases e : j = i
    · rw [if_pos e, if_pos e]
    · rw [if_neg e, if_neg e]; exact h4 j
  cases hl : look l i 0 with
  | none =>
    obtain ⟨e1, e2⟩ := look_none hl
    refine ⟨_, by simp [Builtin.delete_, run_underlying undImg, MapKept.run_getObj_map h1, run_chk, run_find h2, hl, Result.andThen, MapKept.run_setObj_map _ h1]; rfl, ?_, turn_set _ _ _⟩
    exact ⟨_, _, delE l i, by simp [hlt]; exact ⟨rfl, rfl⟩, by rw [e2]; exact h2, nodup_del h3, hval⟩
  | some q =>
    obtain ⟨d, e1, e2, e3, e4⟩ := look_some hl
    rw [Nat.zero_add] at e1
    subst e1
    refine ⟨_, by simp [Builtin.delete_, run_underlying undImg, MapKept.run_getObj_map h1, run_chk, run_find h2, hl, Result.andThen, MapKept.run_setObj_map _ h1]; rfl, ?_, turn_set _ _ _⟩
    refine ⟨_, _, delE l i, by simp [hlt]; exact ⟨rfl, rfl⟩, ?_, nodup_del h3, hval⟩
    rw [← e4, map_era, ← h2, ← map_era]
    congr 1
    rw [Array.toList_eraseIdxIfInBounds]
end
end MpV
end Go.Proofs.YthogklchmhjjkaaGreat
set_option maxRecDepth 100000
namespace Go.Proofs.YthogklchmhjjkaaGreat
open Go.ChangeShapes Go.WideShapes Go.ChangeAt Go.RowKit
attribute [local go_sem] Gives GivesE
namespace MbO
open MbM MbP
theorem madeN (w : World) : Calls Tryz.prog 46 #[.pointer none] w fun e w' => e = .returned (.bool false) ∧ w = w' := by
  go_enter Tryz.func46, Tryz.ntmps46
  go_wp2_with fail
  go_ret
  exact ⟨rfl, rfl⟩
theorem findN (i : Int) (w : World) : Calls Tryz.prog 66 #[.pointer none, .int .i64 i] w fun e w' => e = .returned (.int .i64 1) ∧ w = w' := by
  go_enter Tryz.func66, Tryz.ntmps66
  go_wp2_with fail
  refine (madeN w).mono ?_
  rintro e w' ⟨rfl, rfl⟩
  go_wp2_with fail
  go_ret
  exact ⟨rfl, rfl⟩
theorem backN (i : Int) (w : World) : Calls Tryz.prog 90 #[.pointer none, .int .i64 i] w fun e w' => e = .returned (.int .i64 1) ∧ Below w.heap.size w w' := by
  go_enter Tryz.func90, Tryz.ntmps90
  go_wp2_with fail
  refine (madeN w).mono ?_
  rintro e w' ⟨rfl, rfl⟩
  go_wp2_with fail
  go_ret
  exact ⟨rfl, Below.refl _ _⟩
theorem lenN (w : World) : Calls Tryz.prog 42 #[.pointer none] w fun e w' => e = .returned (.int .i64 0) ∧ Below w.heap.size w w' := by
  go_enter Tryz.func42, Tryz.ntmps42
  go_wp2_with fail
  refine (madeN w).mono ?_
  rintro e w' ⟨rfl, rfl⟩
  go_wp2_with fail
  go_ret
  exact ⟨rfl, Below.refl _ _⟩
section
variable {ops : Array Oper} {Q : Exit → Act → World → Prop} {a : Act} {w : World} {rest : List Oper} {dst : Option Tmp} {ty : TypeId} {pos : String} {after : Array Edge}
end
end MbO
end Go.Proofs.YthogklchmhjjkaaGreat
set_option maxRecDepth 100000
namespace Go.Proofs.YthogklchmhjjkaaGreat
open Go.ChangeShapes Go.WideShapes Go.ChangeAt Go.RowKit
attribute [local go_sem] Gives GivesE
namespace BuP
open BuM MbM MbP MpV
def pbV (A : Option Addr) (n c gc r : Nat) (vl : Value) (off : Bool) : Array Value := #[.slice A n c, .pointer (some ⟨gc, 0, none⟩), .map (some r), vl, .bool off]
def mutK (g r : Nat) (vl : Value) (q : Nat) : Prop := q = g ∨ q = r ∨ vl.ownBlock = some q
/-- In v lie the steps l, from block to block of S. -/
def Due (w : World) (S : Nat → Prop) (v : Value) (l : List Stp) : Prop := ∃ (L : List (Stp × SlB)) (A : Option Addr) (c : Nat), v = .slice A l.length c ∧ L.map (·.1) = l ∧ Sli 70 stL S w A L l.length c ∧
  ∀ x ∈ L, Arg w x.2.A x.1.picks x.1.picks.length x.2.c ∧ ∀ q o, 0 < x.1.picks.length → x.2.A = some ⟨q, o, none⟩ → S q
structure Sk (d : Nat) (w : World) (g : Nat) (gs : List Nat) (gc : Nat) (A : Option Addr) (c r : Nat) (vl : Value) (Fm : MpV.Img) (S : Nat → Prop) (steps : List Stp) (off : Bool) (log : List BuM.Ent) : Prop where
  blk : Blk w g 106 (pbV A gs.length c gc r vl off)
  pos : 1 ≤ gs.length
  arr : Sli 1 ptL S w A gs gs.length c
  map : MapV w r Fm
  due : ∀ n : Nat, log.length + d ≤ n → Due w S (Fm n) (steps.filter fun s => decide (s.a = (n : Int)))
  lg : OwnX 57 68 enL w 0 vl log
  slt : ∀ q, S q → q < w.heap.size
/-- The landed bus; d = 1 while the steps of the I/O under way are struck out, and it is not logged yet. -/
def RepK (d : Nat) : RepB := fun w g gs gc Mo Io steps off log => ∃ A c r vl Fm, Sk d w g gs gc A c r vl Fm Io steps off log ∧ Mo = mutK g r vl
section
variable {w w' : World} {d g gc c r : Nat} {gs : List Nat} {A : Option Addr} {vl : Value} {Fm : MpV.Img} {S : Nat → Prop} {steps : List Stp} {off : Bool} {log : List BuM.Ent}
theorem Due.turn {v : Value} {l : List Stp} {T : Nat → Prop} (H : Due w S v l) (ht : Turn T w w') (hT : ∀ q, S q → ¬ T q) : Due w' S v l := by
  obtain ⟨L, A, c, h1, h2, h3, h4⟩ := H
  exact ⟨L, A, c, h1, h2, h3.turn ht fun q hq _ => hT q hq, fun x hx => ⟨(h4 x hx).1.turn ht fun q o e1 e2 => hT q ((h4 x hx).2 q o e1 e2), (h4 x hx).2⟩⟩
theorem Sk.turn {T : Nat → Prop} (H : Sk d w g gs gc A c r vl Fm S steps off log) (ht : Turn T w w') (hT : ∀ q, mutK g r vl q ∨ S q → ¬ T q) : Sk d w' g gs gc A c r vl Fm S steps off log where
  blk := H.blk.turn ht (hT g (.inl (.inl rfl)))
  pos := H.pos
  arr := H.arr.turn ht fun q hq _ => hT q (.inr hq)
  map := H.map.turn ht (hT r (.inl (.inr (.inl rfl))))
  due n hn := (H.due n hn).turn ht fun q hq => hT q (.inr hq)
  lg := H.lg.turn ht fun q e => hT q (.inl (.inr (.inr e)))
  slt q hq := Nat.lt_of_lt_of_le (H.slt q hq) ht.size
theorem repK_frame {d : Nat} {w w' : World} {g : Nat} {gs : List Nat} {gc : Nat} {Mo Io : Nat → Prop} {steps : List Stp} {off : Bool} {log : List BuM.Ent} {T : Nat → Prop} (h : RepK d w g gs gc Mo Io steps off log) (ht : Turn T w w') (hT : ∀ q, Mo q ∨ Io q → ¬ T q) : RepK d w' g gs gc Mo Io steps off log := by
  obtain ⟨A, c, r, vl, Fm, H, rfl⟩ := h
  exact ⟨A, c, r, vl, Fm, H.turn ht hT, rfl⟩
theorem Sk.g_r (H : Sk d w g gs gc A c r vl Fm S steps off log) : g ≠ r := fun e => by
  obtain ⟨es, cl, l, h1, _⟩ := H.map
  have h2 : w.heap[g]? = some (.cells _ 106 (0, 0)) := H.blk
  rw [e, h1] at h2
  cases h2
theorem Sk.l_g (H : Sk d w g gs gc A c r vl Fm S steps off log) : vl.ownBlock ≠ some g := fun e => by
  obtain ⟨cs, hc⟩ := H.lg.obj e
  exact H.blk.neT (show Blk w g 57 cs from hc) (by decide) rfl
theorem Sk.l_r (H : Sk d w g gs gc A c r vl Fm S steps off log) : vl.ownBlock ≠ some r := fun e => by
  obtain ⟨cs, hc⟩ := H.lg.obj e
  obtain ⟨es, cl, l, h1, _⟩ := H.map
  rw [h1] at hc
  cases hc
theorem pb_ms (H : Blk w g 106 (pbV A gs.length c gc r vl off)) : w.cell? ⟨g, 0, none⟩ = some (.slice A gs.length c) := H.cell 0
theorem pb_gc (H : Blk w g 106 (pbV A gs.length c gc r vl off)) : w.cell? ⟨g, 1, none⟩ = some (.pointer (some ⟨gc, 0, none⟩)) := H.cell 1
theorem pb_mp (H : Blk w g 106 (pbV A gs.length c gc r vl off)) : w.cell? ⟨g, 2, none⟩ = some (.map (some r)) := H.cell 2
theorem pb_lg (H : Blk w g 106 (pbV A gs.length c gc r vl off)) : w.cell? ⟨g, 3, none⟩ = some vl := H.cell 3
theorem pb_off (H : Blk w g 106 (pbV A gs.length c gc r vl off)) : w.cell? ⟨g, 4, none⟩ = some (.bool off) := H.cell 4
theorem lb_made {n : Nat} (hb : w.cell? ⟨g, 0, none⟩ = some (.slice A n c)) (hn : 1 ≤ n) : Calls Tryz.prog 39 #[MbP.at' g] w fun e w' => e = .returned (.bool true) ∧ w = w' := by
  have t1 : (0 : Int) < (n : Int) := by omega
  have t2 : decide ((0 : Int) < (n : Int)) = true := by simp; omega
  have t3 : 0 < n := by omega
  unfold MbP.at'
  go_enter Tryz.func39, Tryz.ntmps39
  go_wp2_with fail
  go_ret
  exact ⟨rfl, rfl⟩
theorem lb_in {n mi bA oA gi : Nat} (hb : w.cell? ⟨g, 0, none⟩ = some (.slice (some ⟨bA, oA, none⟩) n c)) (hn : 1 ≤ n) (hm : mi < n) (hq : w.cell? ⟨bA, oA + mi, none⟩ = some (.pointer (some ⟨gi, 0, none⟩))) :
    Calls Tryz.prog 41 #[MbP.at' g, .int .i64 (mi : Nat)] w fun e w' => e = .returned (MbP.at' gi) ∧ w = w' := by
  have t7 : decide ((mi : Int) < 0) = false := by simp
  have t8 : decide ((mi : Int) ≥ (n : Int)) = false := by simp; omega
  have t8' : decide ((n : Int) ≤ (mi : Int)) = false := by simp; omega
  have t9 : (mi : Int) < (n : Int) := by omega
  unfold MbP.at'
  go_enter Tryz.func41, Tryz.ntmps41
  go_wp2_with fail
  refine (lb_made hb hn).mono ?_
  rintro e w' ⟨rfl, rfl⟩
  go_wp2_with fail
  go_ret
  exact ⟨rfl, rfl⟩
theorem lb_out {n : Nat} {m : Int} (hb : w.cell? ⟨g, 0, none⟩ = some (.slice A n c)) (hn : 1 ≤ n) (hm : ¬ (0 ≤ m ∧ m < n)) :
    Calls Tryz.prog 41 #[MbP.at' g, .int .i64 m] w fun e w' => e = .returned (.pointer none) ∧ w = w' := by
  by_cases h0 : m < 0
  · have t7 : decide (m < 0) = true := by simp; omega
    clear hm
    unfold MbP.at'
    go_enter Tryz.func41, Tryz.ntmps41
    go_wp2_with fail
    refine (lb_made hb hn).mono ?_
    rintro e w' ⟨rfl, rfl⟩
    go_wp2_with fail
    go_ret
    exact ⟨rfl, rfl⟩
  · have t7 : decide (m < 0) = false := by simp; omega
    have t8 : decide (m ≥ (n : Int)) = true := by simp; omega
    have t8' : decide ((n : Int) ≤ m) = true := by simp; omega
    clear hm
    unfold MbP.at'
    go_enter Tryz.func41, Tryz.ntmps41
    go_wp2_with fail
    refine (lb_made hb hn).mono ?_
    rintro e w' ⟨rfl, rfl⟩
    go_wp2_with fail
    go_ret
    exact ⟨rfl, rfl⟩
/-- Calls of no member. -/
theorem lb_setN (i : Int) (x : Nat → Nat) (w : World) : Calls Tryz.prog 86 #[.pointer none, .int .i64 i, .agg (ar 64 x)] w fun e w' => e = .returned (.int .i64 1) ∧ Below w.heap.size w w' := by
  go_enter Tryz.func86, Tryz.ntmps86
  go_upto_region 1 with fail
  generalize hw1 : World.alloc (World.alloc w _) _ = w1
  have BEL := hid (show Below w.heap.size w w1 by rw [← hw1]; exact ((Below.refl _ _).alloc (Nat.le_refl _) _).alloc (by simp) _)
  have b0 := hid (show Blk w1 w.heap.size 3 #[.int .i64 i] by rw [← hw1]; exact (Blk.new _ _ _).alloc _)
  clear hw1
  have pi : w1.cell? ⟨w.heap.size, 0, none⟩ = some (.int .i64 i) := b0.out.cell 0
  go_wp2_with fail
  refine (MbO.findN i w1).mono ?_
  rintro e w' ⟨rfl, rfl⟩
  go_wp2_with fail
  go_ret
  exact ⟨rfl, BEL.out⟩
theorem lb_markN (w : World) : Calls Tryz.prog 88 #[.pointer none] w fun e w' => e = .returned (.tuple #[.int .i64 0, .int .i64 1]) ∧ Below w.heap.size w w' := by
  go_enter Tryz.func88, Tryz.ntmps88
  go_wp2_with fail
  refine (MbO.madeN w).mono ?_
  rintro e w' ⟨rfl, rfl⟩
  go_wp2_with fail
  go_ret2
  exact ⟨rfl, Below.refl _ _⟩
theorem lb_failN (q : Bool) (w : World) : Calls Tryz.prog 92 #[.pointer none, .bool q] w fun e w' => e = .returned (.int .i64 1) ∧ Below w.heap.size w w' := by
  go_enter Tryz.func92, Tryz.ntmps92
  go_wp2_with fail
  refine (MbO.madeN w).mono ?_
  rintro e w' ⟨rfl, rfl⟩
  go_wp2_with fail
  go_ret
  exact ⟨rfl, Below.refl _ _⟩
end
end BuP
end Go.Proofs.YthogklchmhjjkaaGreat
set_option maxRecDepth 100000
namespace Go.Proofs.YthogklchmhjjkaaGreat
open Go.ChangeShapes Go.WideShapes Go.ChangeAt Go.RowKit
theorem eltB : Elt 60 5 .u8 := elt_of Tryz.underlying60 (by kernel_rfl) (by kernel_rfl) (by kernel_rfl)
end Go.Proofs.YthogklchmhjjkaaGreat
set_option maxRecDepth 100000
namespace Go.Proofs.YthogklchmhjjkaaGreat
open Go.ChangeShapes Go.WideShapes Go.ChangeAt Go.RowKit
theorem infB : ∃ i : TypeInfo, Tryz.prog.info? 5 = some i ∧ i.zero = some (.int .u8 0) ∧ i.size = 1 ∧ i.bytes ≤ 1 := by
  have h1 : (Tryz.prog.info? 5).map (·.size) = some 1 := by kernel_rfl
  have h2 : (Tryz.prog.info? 5).map (fun i => decide (i.bytes ≤ 1)) = some true := by kernel_rfl
  have h3 : (Tryz.prog.info? 5).bind (·.zero) = some (.int .u8 0) := by kernel_rfl
  cases hi : Tryz.prog.info? 5 with
  | none => rw [hi] at h1; cases h1
  | some i =>
    rw [hi] at h1 h2 h3
    simp only [Option.map_some, Option.some.injEq, decide_eq_true_eq, Option.bind_some] at h1 h2 h3
    exact ⟨i, rfl, h3, h1, h2⟩
section
variable {w : World} {B B' : Nat} {v : Value} {l kk : List Nat} {ad : Addr} {m c : Nat} {ty : TypeId} {ops : Array Oper} {Q : Exit → Act → World → Prop} {a : Act} {rest : List Oper} {dst : Option Tmp} {pos : String} {after : Array Edge} {s x : Operand}
theorem run_appB (hown : Own 5 .u8 w B v l) (hrd : Nums .u8 w B' (some ad) kk) (hk : kk.length = m) (hsz : l.length + m ≤ 140737488355328) (hB : B ≤ w.heap.size) :
    ∃ v' w', (Builtin.append_ #[60, 60] ty #[v, .slice (some ad) m c]).run Tryz.prog w = .ok v' w' ∧ Own 5 .u8 w' B v' (l ++ kk) ∧ w.grownBy w' v.ownBlock := by
  obtain ⟨i, hi, hz, h1, h2⟩ := infB
  subst hk
  obtain ⟨v', w', hr, ho, hg, _⟩ := run_append_own (P := Tryz.prog) w B 60 ty 5 i (.int .u8 0) 1 i.bytes eltB.und hi hz h1 rfl rfl (by decide) v l.length _ hown ad kk.length c (nums .u8 kk) (by rw [nums_length, Nat.mul_one])
    (fun j u hj => by
      have hjm : j < kk.length := by
        have := (List.getElem?_eq_some_iff.1 hj).1
        rwa [nums_length] at this
      obtain ⟨b, o, e', _, hr⟩ := hrd (by omega)
      obtain rfl : ad = ⟨b, o, none⟩ := Option.some.inj e'
      rw [nums_get .u8 hjm] at hj
      rw [Addr.add_mid, hr j hjm]
      exact hj)
    (fun u hu => by
      obtain ⟨y, _, rfl⟩ := List.mem_map.1 hu
      rfl)
    (by unfold maxLen; omega) (Nat.le_trans (Nat.mul_le_mul hsz h2) (by omega)) hB
  refine ⟨v', w', hr, ?_, hg⟩
  unfold Own
  rw [List.length_append, nums_append]
  exact ho
theorem wappB {A : Option Addr} (hs : a.eval s = v) (hx : a.eval x = .slice A m c) (h0 : A = none → m = 0 ∧ c = 0) (hown : Own 5 .u8 w B v l) (hrd : Nums .u8 w B' A kk) (hk : kk.length = m) (hsz : l.length + m ≤ 140737488355328) (hB : B ≤ w.heap.size)
    (h : ∀ v' w', Own 5 .u8 w' B v' (l ++ kk) → w.grownBy w' v.ownBlock → wpList Tryz.prog ops Q rest (a.put dst v') w') :
    wpList Tryz.prog ops Q (⟨dst, .call { callee := .builtin .append, args := #[s, x], argTypes := #[60, 60] }, ty, pos, after, none⟩ :: rest) a w := by
  cases A with
  | none =>
    obtain ⟨rfl, rfl⟩ := h0 rfl
    obtain rfl := List.eq_nil_of_length_eq_zero hk
    rw [List.append_nil] at h
    exact wappN_none eltB hs hx hown (h v w hown ⟨rfl, rfl, rfl, Nat.le_refl _, fun _ _ _ => rfl⟩)
  | some ad =>
    obtain ⟨v', w', hr, h1, h2⟩ := run_appB (ty := ty) (c := c) hown hrd hk hsz hB
    refine wpList_plain rfl fun K hK => ?_
    unfold Oper.wp execOp
    simp only [resolve, invoke, builtin, Sem.run_bind, Sem.run_pure, Result.andThen_ok, List.map_toArray, List.map_cons, List.map_nil, hs, hx, hr]
    exact hK _ _ (h v' w' h1 h2)
end
end Go.Proofs.YthogklchmhjjkaaGreat
set_option maxRecDepth 100000
namespace Go.Proofs.YthogklchmhjjkaaGreat
open Go.ChangeShapes Go.WideShapes Go.ChangeAt Go.RowKit
attribute [local go_sem] Gives GivesE
namespace BuP
open BuM MbM MbP MpV
section
variable {w w' : World} {d g k : Nat} {F : Fq} {b : Bs}
theorem lb_members (H : Pp (RepK d) w g F k b) : Calls Tryz.prog 34 #[MbP.at' g] w fun e w' => e = .returned (.int .i64 (b.ms.length : Nat)) ∧ Below w.heap.size w w' := by
  obtain ⟨A, c, r, vl, Fm, K, _⟩ := H.skel
  have p0 := pb_ms K.blk
  have hp := K.pos
  rw [H.len] at p0 hp
  clear K H
  unfold MbP.at'
  go_enter Tryz.func34, Tryz.ntmps34
  go_wp2_with fail
  refine (lb_made p0 hp).mono ?_
  rintro e w' ⟨rfl, rfl⟩
  go_wp2_with fail
  go_ret
  exact ⟨rfl, Below.refl _ _⟩
theorem lb_count (H : Pp (RepK d) w g F k b) : Calls Tryz.prog 18 #[MbP.at' g] w fun e w' => e = .returned (.int .i64 (b.log.length : Nat)) ∧ Below w.heap.size w w' := by
  obtain ⟨A, c, r, vl, Fm, K, _⟩ := H.skel
  have p0 := pb_ms K.blk
  have p3 := pb_lg K.blk
  have hp := K.pos
  obtain ⟨Al, cl, rfl, _⟩ := K.lg.sli enL_len
  clear K H
  unfold MbP.at'
  go_enter Tryz.func18, Tryz.ntmps18
  go_wp2_with fail
  refine (lb_made p0 hp).mono ?_
  rintro e w' ⟨rfl, rfl⟩
  go_wp2_with fail
  go_ret
  exact ⟨rfl, Below.refl _ _⟩
theorem lb_off (H : Pp (RepK d) w g F k b) : Calls Tryz.prog 17 #[MbP.at' g] w fun e w' => e = .returned (.bool b.off) ∧ Below w.heap.size w w' := by
  obtain ⟨A, c, r, vl, Fm, K, _⟩ := H.skel
  have p0 := pb_ms K.blk
  have p4 := pb_off K.blk
  have hp := K.pos
  clear K H
  unfold MbP.at'
  go_enter Tryz.func17, Tryz.ntmps17
  go_wp2_with fail
  refine (lb_made p0 hp).mono ?_
  rintro e w' ⟨rfl, rfl⟩
  go_wp2_with fail
  go_ret
  exact ⟨rfl, Below.refl _ _⟩
theorem pb_setOff {A : Option Addr} {n c gc r : Nat} {vl : Value} {off : Bool} (H : Blk w g 106 (pbV A n c gc r vl off)) (off' : Bool) : Blk (w.setCell ⟨g, 4, none⟩ (.bool off')) g 106 (pbV A n c gc r vl off') := H.setCell_same 4 _
theorem pb_setLg {A : Option Addr} {n c gc r : Nat} {vl : Value} {off : Bool} (H : Blk w g 106 (pbV A n c gc r vl off)) (v' : Value) : Blk (w.setCell ⟨g, 3, none⟩ v') g 106 (pbV A n c gc r v' off) := H.setCell_same 3 _
/-- The power alone is turned. -/
theorem Pp.offed (H : Pp (RepK d) w g F k b) (off' : Bool) : outQ (RepK d) w g F k { b with off := off' } (w.setCell ⟨g, 4, none⟩ (.bool off')) := by
  obtain ⟨A, c, r, vl, Fm, K, hM⟩ := H.skel
  have ht := Turn.setCell (S := fun q => q = g) w ⟨g, 4, none⟩ (.bool off') rfl
  refine H.own (Mo' := F.Mo) (log' := b.log) ⟨A, c, r, vl, Fm, ⟨pb_setOff K.blk off', K.pos, K.arr.turn ht fun q hq _ e => ?_, K.map.turn ht fun e => K.g_r e.symm, fun n hn => (K.due n hn).turn ht fun q hq e => ?_, K.lg.turn ht fun q e e2 => K.l_g (by rw [e, e2]), fun q hq => ?_⟩, hM⟩ (ht.mono fun q e => by rw [hM]; exact .inl e) (fun q e => .inl e) (fun q e => Nat.lt_of_lt_of_le (H.olt q (.inl e)) ht.size) (Nat.le_refl _) H.sz.2.2.2.1
  · exact H.sep q (.inl hq) (.inl (by rw [hM]; exact .inl e))
  · exact H.sep q (.inl hq) (.inl (by rw [hM]; exact .inl e))
  · exact Nat.lt_of_lt_of_le (K.slt q hq) ht.size
theorem lb_power (H : Pp (RepK d) w g F k b) : Calls Tryz.prog 31 #[MbP.at' g] w fun e w' => e = .returned (.int .i64 0) ∧ outQ (RepK d) w g F k (BuM.power b) w' := by
  have HO := hid (H.offed false)
  obtain ⟨A, c, r, vl, Fm, K, _⟩ := H.skel
  have p0 := pb_ms K.blk
  have p4 := pb_off K.blk
  have fz := K.blk.frozen 4
  have hp := K.pos
  clear K H
  unfold MbP.at'
  go_enter Tryz.func31, Tryz.ntmps31
  go_wp2_with fail
  refine (lb_made p0 hp).mono ?_
  rintro e w' ⟨rfl, rfl⟩
  go_wp2_with fail
  go_ret
  exact ⟨rfl, HO.out⟩
theorem Pp.at (H : Pp (RepK d) w g F k b) {mi : Nat} (hm : mi < b.ms.length) : ∃ gi st A c bA oA, F.gs[mi]? = some gi ∧ b.ms[mi]? = some st ∧ RepM w gi (F.Ms mi) (F.Is mi) k st ∧ BuM.at' b.ms (mi : Int) = st ∧ w.cell? ⟨g, 0, none⟩ = some (.slice A b.ms.length c) ∧ A = some ⟨bA, oA, none⟩ ∧ w.cell? ⟨bA, oA + mi, none⟩ = some (.pointer (some ⟨gi, 0, none⟩)) ∧ F.Io bA := by
  obtain ⟨A, c, r, vl, Fm, K, _⟩ := H.skel
  have p0 := pb_ms K.blk
  have hg : mi < F.gs.length := by rw [H.len]; exact hm
  obtain ⟨bA, oA, hA, hS, _, hr⟩ := K.arr.some (List.getElem?_eq_getElem hg)
  rw [Nat.mul_one] at hr
  rw [H.len] at p0
  refine ⟨F.gs[mi], b.ms[mi], A, c, bA, oA, List.getElem?_eq_getElem hg, List.getElem?_eq_getElem hm, H.mem mi _ _ (List.getElem?_eq_getElem hg) (List.getElem?_eq_getElem hm), ?_, p0, hA, pt_p hr, hS⟩
  unfold BuM.at'
  rw [Int.toNat_natCast, List.getD_eq_getElem?_getD, List.getElem?_eq_getElem hm]; rfl
theorem Pp.pos (H : Pp (RepK d) w g F k b) : 1 ≤ b.ms.length := by
  obtain ⟨A, c, r, vl, Fm, K, _⟩ := H.skel
  rw [← H.len]; exact K.pos
theorem Pp.hd (H : Pp (RepK d) w g F k b) : ∃ A c, w.cell? ⟨g, 0, none⟩ = some (.slice A b.ms.length c) := by
  obtain ⟨A, c, r, vl, Fm, K, _⟩ := H.skel
  have p0 := pb_ms K.blk
  rw [H.len] at p0
  exact ⟨A, c, p0⟩
theorem lb_sectors (H : Pp (RepK d) w g F k b) (m : Int) : Calls Tryz.prog 10 #[MbP.at' g, .int .i64 m] w fun e w' => e = .returned (.int .i64 (if mem b.ms m then (BuM.at' b.ms m).n else 0)) ∧ Below w.heap.size w w' := by
  by_cases hm : mem b.ms m = true
  · have hm' := hm
    unfold mem at hm'
    rw [decide_eq_true_eq] at hm'
    obtain ⟨mi, rfl⟩ : ∃ mi : Nat, m = mi := Int.eq_ofNat_of_zero_le hm'.1
    have hmi : mi < b.ms.length := by omega
    obtain ⟨gi, st, A, c, bA, oA, h1, h2, h3, h4, h5, rfl, h7, _⟩ := H.at hmi
    have hp := H.pos
    have RMi := hid h3
    rw [if_pos hm, h4]
    clear hm hm' h1 h2 h4 H h3
    unfold MbP.at'
    go_enter Tryz.func10, Tryz.ntmps10
    go_wp2_with fail
    refine (lb_in h5 hp hmi h7).mono ?_
    rintro e w' ⟨rfl, rfl⟩
    clear h5 h7
    go_wp2_with fail
    refine (MbP.memB_ok.len RMi.out).mono ?_
    rintro e w2 ⟨rfl, hb⟩
    have HB := hid hb
    clear hb
    go_wp2_with fail
    go_ret
    exact ⟨rfl, HB.out⟩
  · have hm' := hm
    unfold mem at hm'
    rw [decide_eq_true_eq] at hm'
    obtain ⟨A, c, p0⟩ := H.hd
    have hp := H.pos
    rw [if_neg hm]
    clear hm H
    unfold MbP.at'
    go_enter Tryz.func10, Tryz.ntmps10
    go_wp2_with fail
    refine (lb_out p0 hp hm').mono ?_
    rintro e w' ⟨rfl, rfl⟩
    clear p0
    go_wp2_with fail
    refine (MbO.lenN _).mono ?_
    rintro e w2 ⟨rfl, hb⟩
    have HB := hid hb
    clear hb
    go_wp2_with fail
    go_ret
    exact ⟨rfl, HB.out⟩
set_option maxRecDepth 100000 in
theorem lb_cloneE {v : Value} {l : List BuM.Ent} (hO : OwnX 57 68 enL w 0 v l) (hlen : l.length ≤ 10000) :
    Calls Tryz.prog 40 #[v] w fun e w' => ∃ v', e = .returned v' ∧ OwnX 57 68 enL w' w.heap.size v' l ∧ Below w.heap.size w w' := by
  obtain ⟨A, cap, rfl, sl⟩ := hO.sli enL_len
  have SL := hid sl
  cases A with
  | none =>
    obtain ⟨hl0, rfl⟩ := sl.none rfl
    obtain rfl := List.eq_nil_of_length_eq_zero hl0
    have hq : ∀ w, (binOp .eql 47 (.slice none 0 0) (.slice none 0 0)).run Tryz.prog w = .ok (.bool true) w := fun w => Go.Lib.run_eql_slice_nil (P := Tryz.prog) w 47 57 none 0 0 0 0 undEnP
    rw [List.length_nil]
    clear hO sl SL hl0
    go_enter Tryz.func40, Tryz.ntmps40
    go_wp2_with fail
    go_ret
    exact ⟨_, rfl, OwnX.nil _ _ _ _ _, Below.refl _ _⟩
  | some ad =>
    have hq : ∀ w, (binOp .eql 47 (.slice (some ad) l.length cap) (.slice none 0 0)).run Tryz.prog w = .ok (.bool false) w := fun w => Go.Lib.run_eql_slice_nil (P := Tryz.prog) w 47 57 (some ad) l.length cap 0 0 undEnP
    clear hO sl
    go_enter Tryz.func40, Tryz.ntmps40
    go_wp2_with (at_builtin; (with_reducible apply wappX eltEnP undEnP (B := w.heap.size)); rfl; rfl; exact OwnX.empty (Nat.le_refl _); exact SL.out.turn (Turn.alloc (S := fun _ => False) w _) (fun _ _ _ e => e); (simp; omega); omega; (simp); intro v2 w2 o2 g2)
    rw [List.nil_append] at o2
    have b2 : Below w.heap.size w w2 := ((Below.refl _ _).alloc (Nat.le_refl _) _).trans ((Turn.of_grown (S := fun b => w.heap.size ≤ b) g2 fun b e => by cases e; simp).below (by simp) fun _ h => h)
    go_ret
    exact ⟨_, rfl, o2, b2⟩
theorem lb_log (H : Pp (RepK d) w g F k b) (hk : k ≤ 8000) : Calls Tryz.prog 9 #[MbP.at' g] w fun e w' => ∃ v, e = .returned v ∧ OwnX 57 68 enL w' w.heap.size v b.log ∧ Below w.heap.size w w' := by
  have hs := H.sz.2.2.2.1
  obtain ⟨A, c, r, vl, Fm, K, _⟩ := H.skel
  have p0 := pb_ms K.blk
  have p3 := pb_lg K.blk
  have hp := K.pos
  have O := hid K.lg
  clear K H
  unfold MbP.at'
  go_enter Tryz.func9, Tryz.ntmps9
  go_wp2_with fail
  refine (lb_made p0 hp).mono ?_
  rintro e w' ⟨rfl, rfl⟩
  go_wp2_with fail
  refine (lb_cloneE O.out (by omega)).mono ?_
  rintro e w2 ⟨v', rfl, o2, hb⟩
  have O2 := hid o2
  have HB := hid hb
  clear o2 hb p0 p3 O
  go_wp2_with fail
  go_ret
  exact ⟨_, rfl, O2.out, HB.out⟩
end
end BuP
end Go.Proofs.YthogklchmhjjkaaGreat
set_option maxRecDepth 100000
namespace Go.Proofs.YthogklchmhjjkaaGreat
open Go.ChangeShapes Go.WideShapes Go.ChangeAt Go.RowKit
theorem und_byts : Tryz.prog.underlying 60 = some (.slice (Tryz.prog.elem 60)) := by kernel_rfl
theorem size_byts (w : World) : (sizeOf (Tryz.prog.elem 60)).run Tryz.prog w = .ok 1 w := by
  have h : (Tryz.prog.info? (Tryz.prog.elem 60)).map (·.size) = some 1 := by kernel_rfl
  cases hi : Tryz.prog.info? (Tryz.prog.elem 60) with
  | none => rw [hi] at h; cases h
  | some i =>
    rw [hi] at h
    simp only [Option.map_some, Option.some.injEq] at h
    simp [sizeOf, typeInfo, hi, h]
theorem Byt.dropIf {w : World} {B : Nat} {A : Option Addr} {l : List Nat} (h : Byt w B A l) (cap W : Nat) (hc : l.length ≤ cap) : Byt w B (if cap = W then A else Option.map (fun x => x.add W) A) (l.drop W) := fun hn => by
  have hn' := hn
  rw [List.length_drop] at hn
  obtain ⟨b, o, rfl, hl, hr⟩ := h (by omega)
  rw [if_neg (by omega)]
  have e : Option.map (fun x => Addr.add x W) (some ⟨b, o, Option.none⟩) = some ⟨b, o + W, Option.none⟩ := by rw [Option.map_some, Addr.add_mid]
  rw [e]
  exact Byt.drop (l := l) (fun _ => ⟨b, o, rfl, hl, hr⟩) W hn'
end Go.Proofs.YthogklchmhjjkaaGreat
set_option maxRecDepth 100000
namespace Go.Proofs.YthogklchmhjjkaaGreat
open Go.ChangeShapes Go.WideShapes Go.ChangeAt Go.RowKit
attribute [local go_sem] Gives GivesE
namespace BuP
open BuM MbM MbP MpV
theorem run_min2 (ts : Array TypeId) (t : TypeId) {x y n : Nat} (h : n = min x y) (w : World) : (Builtin.min_ ts t #[.int .i64 (x : Int), .int .i64 (y : Int)]).run Tryz.prog w = .ok (.int .i64 (n : Int)) w := by
  have e : (if (y : Int) < (x : Int) then (y : Int) else x) = (n : Int) := by
    subst h
    split <;> omega
  rw [← e]
  simp [Builtin.min_, Builtin.min2]
section
variable {ops : Array Oper} {Q : Exit → Act → World → Prop} {a : Act} {w : World} {rest : List Oper} {dst : Option Tmp} {ty : TypeId} {pos : String} {after : Array Edge} {x y : Operand} {A : Option Addr} {l : List Nat} {n cap i : Nat}
theorem byt_cut (h : Arg w A l n cap) {B m W : Nat} (hm : 0 < m) (hn : m ≤ n) {q o : Nat} (e : (if cap = W then A else Option.map (fun x => x.add B) A) = some ⟨q, o, none⟩) : ∃ o', A = some ⟨q, o', none⟩ := by
  obtain ⟨b, o1, rfl, _, _⟩ := h.byt (by rw [h.len]; omega)
  split at e
  · cases e; exact ⟨_, rfl⟩
  · rw [Option.map_some, Addr.add_mid] at e
    cases e
    exact ⟨_, rfl⟩
/-- The first i bytes of a slice. -/
theorem run_slT (h : Arg w A l n cap) (hj : i ≤ n) :
    ∃ A', (Instr.sliceAt 60 (.slice A n cap) none (some (.int .i64 i)) none).run Tryz.prog w = .ok (.slice A' i cap) w ∧ Arg w A' (l.take i) i cap ∧ (∀ q o, 0 < i → A' = some ⟨q, o, none⟩ → ∃ o', A = some ⟨q, o', none⟩) := by
  have hc := h.cap
  have hm := h.max
  refine ⟨if cap = 0 then A else A.map (·.add (0 * 1)), ?_, ?_, fun q o hi e => byt_cut h hi hj e⟩
  · rw [run_sliceAt_slice w 60 _ _ _ _ und_byts, run_slice_h w 60 A n cap und_byts .i64 i (by omega) (by omega), size_byts]
    simp only [Result.andThen, sliced, Int.toNat_natCast, Nat.sub_zero]
  · refine ⟨by rw [List.length_take, h.len]; omega, by omega, hm, h.b256.take _, fun e => ?_, (h.byt.dropIf cap 0 (by rw [h.len]; exact hc)).take _⟩
    by_cases hi : cap = 0
    · exact ⟨by omega, by omega⟩
    · rw [if_neg hi] at e
      cases A with
      | none => have := h.none rfl; exact ⟨by omega, by omega⟩
      | some a => cases e
/-- The bytes behind the first i. -/
theorem run_slF (h : Arg w A l n cap) (hj : i ≤ n) :
    ∃ A', (Instr.sliceAt 60 (.slice A n cap) (some (.int .i64 i)) none none).run Tryz.prog w = .ok (.slice A' (n - i) (cap - i)) w ∧ Arg w A' (l.drop i) (n - i) (cap - i) ∧ (∀ q o, 0 < n - i → A' = some ⟨q, o, none⟩ → ∃ o', A = some ⟨q, o', none⟩) := by
  have hc := h.cap
  have hm := h.max
  refine ⟨if cap = i then A else A.map (·.add (i * 1)), ?_, ?_, fun q o hi e => byt_cut h hi (by omega) e⟩
  · rw [run_sliceAt_slice w 60 _ _ _ _ und_byts, run_slice_l w 60 A n cap und_byts .i64 i (by omega) (by omega), size_byts]
    simp only [Result.andThen, sliced, Int.toNat_natCast]
  · rw [Nat.mul_one]
    refine ⟨by rw [List.length_drop, h.len], by omega, by omega, h.b256.drop i, fun e => ?_, h.byt.dropIf cap i (by rw [h.len]; exact hc)⟩
    by_cases hi : cap = i
    · exact ⟨by omega, by omega⟩
    · rw [if_neg hi] at e
      cases A with
      | none => have := h.none rfl; exact ⟨by omega, by omega⟩
      | some a => cases e
theorem wslT1 {y : Operand} (hx : a.eval x = .slice A n cap) (hy : a.eval y = .int .i64 i) (h : Arg w A l n cap) (hj : i ≤ n)
    (hk : ∀ A', Arg w A' (l.take i) i cap → (∀ q o, 0 < i → A' = some ⟨q, o, none⟩ → ∃ o', A = some ⟨q, o', none⟩) → wpList Tryz.prog ops Q rest (a.put dst (.slice A' i cap)) w) : wpList Tryz.prog ops Q (⟨dst, .slice 60 x none (some y) none, ty, pos, after, none⟩ :: rest) a w := by
  obtain ⟨A', hr, ha, hp⟩ := run_slT h hj
  refine wpList_plain rfl fun K hK => ?_
  unfold Oper.wp execOp
  simp only [Sem.run_bind, Option.map_some, Option.map_none, Sem.run_pure, hx, hy, hr, Result.andThen_ok]
  exact hK _ _ (hk A' ha hp)
theorem wslF1 {y : Operand} (hx : a.eval x = .slice A n cap) (hy : a.eval y = .int .i64 i) (h : Arg w A l n cap) (hj : i ≤ n)
    (hk : ∀ A', Arg w A' (l.drop i) (n - i) (cap - i) → (∀ q o, 0 < n - i → A' = some ⟨q, o, none⟩ → ∃ o', A = some ⟨q, o', none⟩) → wpList Tryz.prog ops Q rest (a.put dst (.slice A' (n - i) (cap - i))) w) : wpList Tryz.prog ops Q (⟨dst, .slice 60 x (some y) none none, ty, pos, after, none⟩ :: rest) a w := by
  obtain ⟨A', hr, ha, hp⟩ := run_slF h hj
  refine wpList_plain rfl fun K hK => ?_
  unfold Oper.wp execOp
  simp only [Sem.run_bind, Option.map_some, Option.map_none, Sem.run_pure, hx, hy, hr, Result.andThen_ok]
  exact hK _ _ (hk A' ha hp)
end
theorem rep_low {w : World} {g k k' : Nat} {M I : Nat → Prop} {st : St} (h : RepM w g M I k st) (hk : st.log.length ≤ k') : RepM w g M I k' st := by
  obtain ⟨rs, rd, vl, vm, ms, H, ⟨_, hm, hn⟩, rfl, rfl⟩ := h
  exact ⟨rs, rd, vl, vm, ms, H, ⟨hk, hm, hn⟩, rfl, rfl⟩
theorem rep_log {w : World} {g k : Nat} {M I : Nat → Prop} {st : St} (h : RepM w g M I k st) : st.log.length ≤ k := by
  obtain ⟨rs, rd, vl, vm, ms, H, ⟨h1, hm, hn⟩, rfl, rfl⟩ := h
  exact h1
/-- What a member's marks lie in holds no bytes. -/
theorem rep_marks {w : World} {g k : Nat} {M I : Nat → Prop} {st : St} (h : RepM w g M I k st) {q o : Nat} {v : Value} (hI : I q) : w.cell? ⟨q, o, none⟩ ≠ some v := fun hc => by
  obtain ⟨rs, rd, vl, vm, ms, H, _, rfl, rfl⟩ := h
  obtain ⟨E, es, cl, l, h1, _⟩ := H.im_lt hI
  unfold World.cell? at hc
  simp [h1] at hc
theorem arg_ne {w : World} {A : Option Addr} {l : List Nat} {n c q o : Nat} (h : Arg w A l n c) (hl : 0 < l.length) (e : A = some ⟨q, o, none⟩) : ∃ o v, w.cell? ⟨q, o, none⟩ = some v := by
  obtain ⟨b, o1, e2, _, hr⟩ := h.byt hl
  rw [e] at e2
  cases e2
  exact ⟨_, _, hr 0 hl⟩
section
variable {w : World} {d g k : Nat} {F : Fq} {b : Bs}
theorem repK_fr (d : Nat) : ∀ {w w' g gs gc Mo Io steps off log} {T : Nat → Prop}, RepK d w g gs gc Mo Io steps off log → Turn T w w' → (∀ q, Mo q ∨ Io q → ¬ T q) → RepK d w' g gs gc Mo Io steps off log := fun h ht hT => repK_frame h ht hT
theorem Pp.belowK {w' : World} (H : Pp (RepK d) w g F k b) (hb : Below w.heap.size w w') : Pp (RepK d) w' g F k b := outQ.on (repK_fr d) H (T := fun _ => False) (Turn.of_new hb) fun _ _ e => e
theorem Pp.turnK {w' : World} {T : Nat → Prop} (H : Pp (RepK d) w g F k b) (ht : Turn T w w') (hT : ∀ q, mutP F q ∨ rdP F q → ¬ T q) : Pp (RepK d) w' g F k b := outQ.on (repK_fr d) H ht hT
theorem outQ.same {w' : World} (H : Pp (RepK d) w g F k b) (hb : Below w.heap.size w w') : outQ (RepK d) w g F k b w' := ⟨F, H.belowK hb, rfl, rfl, fun _ e => .inl e, fun _ e => .inr (.inl e), Turn.of_new hb⟩
set_option maxHeartbeats 1000000 in
set_option maxRecDepth 100000 in
theorem lb_crash (H : Pp (RepK d) w g F k b) (hk : k ≤ 8000) {P : Option Addr} {picks : List Nat} {pn pc : Nat} (HP : Arg w P picks pn pc) (hpm : pn ≤ 140737488351232) (hPS : ∀ q o, 0 < picks.length → P = some ⟨q, o, none⟩ → ¬ mutP F q ∧ q < w.heap.size) :
    Calls Tryz.prog 95 #[MbP.at' g, .slice P pn pc] w fun e w' => e = .returned (.tuple #[]) ∧ outQ (RepK d) w g F k { b with ms := crashAll b.ms picks, off := true } w' := by
  have HH := hid H
  have HA := hid HP
  have HS := hid hPS
  obtain ⟨A, c, r, vl, Fm, K, _⟩ := H.skel
  have p0 := pb_ms K.blk
  have AR := hid K.arr
  have GL := hid H.len
  have hmx := H.sz.1
  rw [H.len] at p0
  clear K H HP hPS
  unfold MbP.at'
  go_enter Tryz.func95, Tryz.ntmps95
  go_wp2_with fail
  clear p0
  go_loopw [1, 12] (fun u1 u12 wr => ∃ (i : Nat) (P' : Option Addr) (n' c' : Nat) (pk : List Nat) (F' : Fq) (dn : List St), u1 = .slice P' n' c' ∧ u12 = .int .i64 i ∧ i ≤ b.ms.length ∧ n' ≤ 140737488351232 ∧ dn.length = i ∧ Hid (dn ++ crashAll (b.ms.drop i) pk = crashAll b.ms picks) ∧
    Hid (Arg wr P' pk n' c' ∧ ∀ q o, 0 < pk.length → P' = some ⟨q, o, none⟩ → ¬ mutP F q ∧ q < w.heap.size) ∧ Hid (Pp (RepK d) wr g F' k { b with ms := dn ++ b.ms.drop i }) ∧
    Hid (F'.gs = F.gs ∧ F'.gc = F.gc ∧ (∀ q, mutP F' q → mutP F q ∨ w.heap.size ≤ q) ∧ (∀ q, rdP F' q → mutP F q ∨ rdP F q ∨ w.heap.size ≤ q) ∧ Turn (mutP F) w wr)) (fun _ u12 _ => b.ms.length - (intOf u12).toNat)
  case atStart => exact ⟨0, P, pn, pc, picks, F, [], rfl, rfl, Nat.zero_le _, hpm, rfl, hid rfl, hid ⟨HA.out, HS.out⟩, HH, hid ⟨rfl, rfl, fun _ e => .inl e, fun _ e => .inr (.inl e), Turn.refl _ _⟩⟩
  case round =>
    obtain ⟨i, P', n', c', pk, F', dn, rfl, rfl, hi, hn', hdn, HE, HAr, HPp, HF⟩ := hrel
    obtain ⟨wo, hwo⟩ : ∃ x, x = wr := ⟨_, rfl⟩
    subst hwo
    by_cases hin : i < b.ms.length
    · have t1 : (i : Int) < (b.ms.length : Int) := by omega
      have hgi0 : i < F.gs.length := by rw [GL.out]; exact hin
      obtain ⟨gi, hgi⟩ : ∃ gi, F.gs[i]? = some gi := ⟨_, List.getElem?_eq_getElem hgi0⟩
      obtain ⟨bA, oA, rfl, hbS, hbl, hr⟩ := AR.out.some hgi
      rw [Nat.mul_one] at hr
      have q1 : wo.cell? ⟨bA, oA + i, none⟩ = some (.pointer (some ⟨gi, 0, none⟩)) := HF.out.2.2.2.2.cell (p := ⟨bA, oA + i, none⟩) (pt_p hr) fun e => HH.out.sep bA (.inl hbS) e
      obtain ⟨st, hst⟩ : ∃ st, b.ms[i]? = some st := ⟨_, List.getElem?_eq_getElem hin⟩
      have hst2 : (dn ++ b.ms.drop i)[i]? = some st := by
        rw [List.getElem?_append_right (by omega), hdn, Nat.sub_self, List.getElem?_drop, Nat.add_zero]; exact hst
      have hgi2 : F'.gs[i]? = some gi := by rw [HF.out.1]; exact hgi
      have RMi := hid (HPp.out.mem i gi st hgi2 hst2)
      have hll := rep_log RMi.out
      have HGI := hid hgi2
      have HST := hid hst
      have HST2 := hid hst2
      have hpl := hid HAr.out.1.len
      clear hr hgi hgi2 hst hst2
      go_upto_region 3 with fail
      go_wp2_with fail
      refine (MbP.memB_ok.unflushed RMi.out).mono ?_
      rintro e w2 ⟨rfl, hb2⟩
      have HB2 := hid hb2
      obtain ⟨m, hm⟩ : ∃ m, m = min st.log.length n' := ⟨_, rfl⟩
      have HM := hid hm
      have hmn : m ≤ n' := by omega
      have hmi := fun w => run_min2 #[3, 3] 3 (x := st.log.length) (y := n') (n := m) hm w
      have A2 := hid (HAr.out.1.on hb2)
      have P2 := hid (HPp.out.belowK hb2)
      have R2 := hid (MbP.memB_ok.frame RMi.out (T := fun _ => False) (Turn.of_new hb2) fun _ _ e => e)
      clear hb2 hm q1
      go_upto_region 4 with fail
      go_wp2_with ((with_reducible apply wslT1); rfl; rfl; exact A2.out; exact hmn; intro A3 hA3 hp3)
      have hne : ∀ q, (¬ mutP F q ∧ q < w.heap.size) → ¬ mutP F' q := fun q e x => by
        rcases HF.out.2.2.1 q x with y | y
        · exact e.1 y
        · omega
      have NE := hid hne
      have P3 := hid hp3
      have A3h := hid hA3
      have hgl : i < F'.gs.length := (List.getElem?_eq_some_iff.1 HGI.out).1
      have hok : st.ok := P2.out.ok.1 st (List.mem_of_getElem? HST2.out)
      have htk := hid (show pk.take m = pk.take st.log.length by
        have := hpl.out; have := HM.out
        by_cases e : st.log.length ≤ n'
        · rw [show m = st.log.length by omega]
        · rw [List.take_of_length_le (by omega), List.take_of_length_le (by omega)])
      have hdk := hid (show pk.drop m = pk.drop st.log.length by
        have := hpl.out; have := HM.out
        by_cases e : st.log.length ≤ n'
        · rw [show m = st.log.length by omega]
        · rw [List.drop_eq_nil_of_le (by omega), List.drop_eq_nil_of_le (by omega)])
      have htl := hid (show (pk.take m).length = m by rw [List.length_take]; have := hpl.out; omega)
      have hpkS := hid (show ∀ q o, 0 < (pk.take m).length → A3 = some ⟨q, o, none⟩ → ¬ (F'.Ms i q ∨ F'.Is i q) from fun q o h1 h2 x => by
        have hm0 : 0 < m := by rw [htl.out] at h1; exact h1
        obtain ⟨o', h3⟩ := P3.out q o hm0 h2
        have hIo := HAr.out.2 q o' (by have := hpl.out; omega) h3
        rcases x with x | x
        · exact NE.out q hIo (.inr (.inr ⟨i, hgl, x⟩))
        · obtain ⟨o2, v2, h4⟩ := arg_ne A3h.out h1 h2
          exact rep_marks R2.out x h4)
      clear hne hp3 hA3
      refine (MbP.memB_ok.crash R2.out hok (by omega) A3 (pk.take m) m c' A3h.out hpkS.out).mono ?_
      rintro e w4 ⟨rfl, ho⟩
      have ho2 : outP RepM w2 gi (F'.Ms i) (F'.Is i) k (crash st (pk.take m)) w4 := by
        obtain ⟨M', I', h1, h2⟩ := ho
        exact ⟨M', I', rep_low h1 (Nat.zero_le _), h2⟩
      obtain ⟨F2, hP4, e1, e2, e3, e4, e5⟩ := Pp.put (repB := RepK d) (repK_fr d) P2.out HGI.out ho2 (Nat.le_refl _) (cr_ok hok _)
      have T4 := hid e5
      have A4 := hid (show Arg w4 P' pk n' c' from A2.out.turn e5 fun q o h1 h2 => NE.out q (HAr.out.2 q o h1 h2))
      have HB0 := HB2.out
      have F4 := hid (show F2.gs = F.gs ∧ F2.gc = F.gc ∧ (∀ q, mutP F2 q → mutP F q ∨ w.heap.size ≤ q) ∧ (∀ q, rdP F2 q → mutP F q ∨ rdP F q ∨ w.heap.size ≤ q) ∧ Turn (mutP F) w w4 from by
        obtain ⟨f1, f2, f3, f4, f5⟩ := HF.out
        have hsz := f5.size
        have hs2 := HB0.size
        refine ⟨e1.trans f1, e2.trans f2, fun q e => ?_, fun q e => ?_, (f5.trans (Turn.of_new (S := fun _ => False) HB0) fun _ e => e.elim).trans e5 f3⟩
        · rcases e3 q e with y | y
          · exact f3 q y
          · exact .inr (by omega)
        · rcases e4 q e with y | y | y
          · exact (f3 q y).imp id .inr
          · exact f4 q y
          · exact .inr (.inr (by omega)))
      have PP4 := hid (show Pp (RepK d) w4 g F2 k { b with ms := (dn ++ [crash st (pk.take m)]) ++ b.ms.drop (i + 1) } from by
        have h0 := hP4
        have : (dn ++ b.ms.drop i).set i (crash st (pk.take m)) = (dn ++ [crash st (pk.take m)]) ++ b.ms.drop (i + 1) := by
          rw [List.set_append_right _ _ (by omega), hdn, Nat.sub_self, List.drop_eq_getElem_cons hin, List.set_cons_zero, ← List.singleton_append, ← List.append_assoc]
        rw [← this]; exact h0)
      have HE4 := hid (show (dn ++ [crash st (pk.take m)]) ++ crashAll (b.ms.drop (i + 1)) (pk.drop m) = crashAll b.ms picks from by
        have e9 : b.ms[i] = st := by have := List.getElem?_eq_getElem hin; rw [HST.out] at this; exact (Option.some.inj this).symm
        rw [← HE.out, List.drop_eq_getElem_cons hin, crashAll, List.append_assoc, List.singleton_append, e9, htk.out, hdk.out])
      clear ho ho2 hP4 e1 e2 e3 e4 e5 HB0 R2 P2 A2 hpkS hok
      go_upto_region 5 with fail
      go_wp2_with ((with_reducible apply wslF1); rfl; rfl; exact A4.out; exact hmn; intro A5 hA5 hp5)
      have A5h := hid (show Arg w4 A5 (pk.drop m) (n' - m) (c' - m) ∧ ∀ q o, 0 < (pk.drop m).length → A5 = some ⟨q, o, none⟩ → ¬ mutP F q ∧ q < w.heap.size from ⟨hA5, fun q o h1 h2 => by
        have hl := hpl.out
        rw [List.length_drop] at h1
        obtain ⟨o', h3⟩ := hp5 q o (by omega) h2
        exact HAr.out.2 q o' (by omega) h3⟩)
      clear hA5 hp5
      go_roundw
      case rel => exact ⟨i + 1, A5, n' - m, c' - m, pk.drop m, F2, dn ++ [crash st (pk.take m)], rfl, by go_num, by omega, by omega, by rw [List.length_append, hdn]; rfl, HE4, A5h, PP4, F4⟩
      case measure => simp [intOf] <;> omega
    · have t1 : decide ((i : Int) < (b.ms.length : Int)) = false := by simp; omega
      obtain rfl : i = b.ms.length := by omega
      have HO := hid (show outQ (RepK d) w g F k { b with ms := crashAll b.ms picks, off := true } (wo.setCell ⟨g, 4, none⟩ (.bool true)) from by
        have h1 := HE.out
        have h2 := HPp.out
        rw [List.drop_length, crashAll, List.append_nil] at h1
        rw [List.drop_length, List.append_nil, h1] at h2
        obtain ⟨f1, f2, f3, f4, f5⟩ := HF.out
        exact outQ.trans f1 f2 f3 f4 f5 (h2.offed true))
      obtain ⟨A', c1, r', vl', Fm', K', _⟩ := HPp.out.skel
      have p4 := pb_off K'.blk
      have fz := K'.blk.frozen 4
      clear K' HPp HE HF HAr
      go_wp2_with fail
      refine bodyPost_end (results_none rfl _ _ _) rfl ?_
      exact ⟨rfl, HO.out⟩
end
end BuP
end Go.Proofs.YthogklchmhjjkaaGreat
