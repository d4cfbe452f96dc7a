/-
  What comes in, number by number.
  What comes in: rows of n bytes by value.
  Slices of bytes that come in.
  Slices of slices of bytes that come in.
  Acts that come in.
  Maps of sectors by their places: a block that reads as a function of the place; looked up, written, struck out, cloned.
  Contracts of what the program's member is made of: a sector put into an image, an image's clone, whether a sector is there, the closures.
  The program's member in memory; the calls that turn nothing of it, or one cell.
  The program's settle: unflushed writes made durable, or lost; Flush and Crash.
  A region that draws its order: of each operation's value one states what it is like (S); of the worlds what holds by which operations have come up, and by their values (C).
  The program's Write and Mark.
-/
import Derived.Test.YteglhalninlapaaMrg4
import Derived.Deep.Slices
import Derived.OpenShut
import Derived.ChangeMaps5
import Derived.ChangeSlices
import Derived.MapKept
import Derived.Laws.Externs
set_option linter.unusedVariables false
set_option linter.unusedSimpArgs false
set_option maxRecDepth 100000
namespace Go.Proofs.Yteglhalninlapaa
open Go.ChangeShapes Go.WideShapes Go.ChangeAt Go.RowKit Go.Deep
theorem choose_lt {α : Type} [Inhabited α] {n : Nat} {P : Nat → α → Prop} (h : ∀ k, k < n → ∃ a, P k a) : ∃ f : Nat → α, ∀ k, k < n → P k (f k) :=
  ⟨fun k => if hk : k < n then (h k hk).choose else default, fun k hk => by simp only [hk, dif_pos]; exact (h k hk).choose_spec⟩
theorem u8_wf {a : Int} (h : (Lit.int .u8 a).wf = true) : ∃ n : Nat, a = n ∧ n < 256 := by
  simp [Lit.wf, IntKind.min, IntKind.max, IntKind.bits, IntKind.signed] at h
  exact ⟨a.toNat, by omega, by omega⟩
theorem cells_u8 : Try.prog.cellsOf 5 = 1 := by kernel_rfl
end Go.Proofs.Yteglhalninlapaa
set_option maxRecDepth 100000
namespace Go.Proofs.Yteglhalninlapaa
open Go.ChangeShapes Go.WideShapes Go.ChangeAt Go.RowKit Go.Deep
section
variable {H : Type} {enc : TypeId × Value → H} {w : World} {base : Nat} {spare : Nat → Bool} {held : Bool}
theorem trod_ar {T : TypeId} {n : Nat} (hT : Try.prog.underlying T = some (.array n 5)) (hc : Try.prog.cellsOf T = n) {fuel : Nat} {cs : List Value} {x : DataW H × List MemPlace} (h : DataW.trod enc Try.prog w base spare held fuel T cs = some x) : ∃ f : Nat → Nat, (∀ k, f k < 256) ∧ cs = (ar n f).toList := by
  obtain ⟨xs, m, rfl, rfl, hlen, hxl, hx⟩ := DataW.trod_array hT h
  rw [hc] at hlen
  have hk : ∀ k, k < n → ∃ n : Nat, n < 256 ∧ cs[k]? = some (.int .u8 n) := fun k hk => by
    have h1 := hx k hk
    rw [cells_u8, Nat.mul_one, List.getElem?_eq_getElem (by omega)] at h1
    obtain ⟨n, e1, e2, wf⟩ := DataW.trod_int Try.underlying5 h1
    obtain ⟨n, rfl, hn⟩ := u8_wf wf
    refine ⟨n, hn, ?_⟩
    have : ((cs.drop k).take 1)[0]? = some (.int .u8 n) := by rw [e1]; rfl
    rw [List.getElem?_take_of_lt (by omega), List.getElem?_drop] at this
    exact this
  obtain ⟨f, hf⟩ := choose_lt hk
  refine ⟨fun k => if k < n then f k else 0, fun k => ?_, ?_⟩
  · by_cases h : k < n
    · simp only [h, if_true]; exact (hf k h).1
    · simp [h]
  · apply List.ext_getElem?
    intro k
    have e : (ar n fun k => if k < n then f k else 0).toList[k]? = if k < n then some (.int .u8 ((if k < n then f k else 0 : Nat) : Int)) else none := by
      rw [Array.getElem?_toList]
      exact get_row k
    rw [e]
    by_cases h : k < n
    · rw [if_pos h, if_pos h]; exact (hf k h).2
    · rw [if_neg h, List.getElem?_eq_none (by omega)]
set_option maxRecDepth 100000 in
theorem open_ar {T : TypeId} {n : Nat} (hT : Try.prog.underlying T = some (.array n 5)) (hc : Try.prog.cellsOf T = n) {r : Reach} {b0 : Nat} {v : Value} {d : DataW H} {p : List MemPlace} (hv : Value.okWide Try.prog w r b0 T v) (h : DataW.Trod enc Try.prog w base spare held T v d p) :
    ∃ f : Nat → Nat, (∀ k, f k < 256) ∧ v = .agg (ar n f) := by
  have hv' : ∃ cs, v = .agg cs := by
    simp only [Value.okWide, hT] at hv
    obtain ⟨cs, h1, _⟩ := hv
    exact ⟨cs, h1⟩
  obtain ⟨cs, rfl⟩ := hv'
  obtain ⟨fuel, hf⟩ := h
  obtain ⟨f, h1, h2⟩ := trod_ar hT hc hf
  refine ⟨f, h1, ?_⟩
  have : cs = ar n f := by
    apply Array.ext'
    exact h2
  rw [this]
end
end Go.Proofs.Yteglhalninlapaa
set_option maxRecDepth 100000
namespace Go.Proofs.Yteglhalninlapaa
open Go.ChangeShapes Go.WideShapes Go.ChangeAt Go.RowKit Go.Deep
section
variable {H : Type} {enc : TypeId × Value → H} {w : World} {base : Nat} {spare : Nat → Bool} {held : Bool}
set_option maxRecDepth 100000 in
theorem open_byts {r : Reach} {b0 : Nat} {v : Value} {d : DataW H} {p : List MemPlace} (hv : Value.okWide Try.prog w r b0 33 v) (h : DataW.Trod enc Try.prog w base spare held 33 v d p) :
    ∃ (A : Option Addr) (l : List Nat) (n cap : Nat), v = .slice A n cap ∧ l.length = n ∧ n ≤ cap ∧ cap ≤ maxLen ∧ B256 l ∧ Byt w w.heap.size A l ∧ (A = none → n = 0 ∧ cap = 0) := by
  obtain ⟨A, n, cap, rfl⟩ := okWide_slice Try.underlying33 hv
  obtain ⟨fuel, hf⟩ := h
  rcases open_ints Try.underlying33 Try.underlying5 cells_u8 hf with ⟨hcs, _⟩ | ⟨a, len, cap', zs, hcs, _, hl, hm, hz, _, hcell, hwz⟩
  · simp [Value.cells] at hcs
    obtain ⟨rfl, rfl, rfl⟩ := hcs
    exact ⟨none, [], 0, 0, rfl, rfl, Nat.le_refl _, Nat.zero_le _, (fun x hx => by cases hx), Byt.none rfl, fun _ => ⟨rfl, rfl⟩⟩
  · simp [Value.cells] at hcs
    obtain ⟨rfl, rfl, rfl⟩ := hcs
    have hnz : n ≤ zs.length := by rw [hz]; split <;> omega
    have hlen : ((zs.take n).map Int.toNat).length = n := by rw [List.length_map, List.length_take]; omega
    have hat : ∀ i, i < n → ∃ k : Nat, zs.getD i 0 = k ∧ k < 256 ∧ ((zs.take n).map Int.toNat).getD i 0 = k := fun i hi => by
      have hi' : i < zs.length := by omega
      have hg : zs.getD i 0 = zs[i] := by rw [List.getD_eq_getElem?_getD, List.getElem?_eq_getElem hi']; rfl
      obtain ⟨k, hk, hk2⟩ := u8_wf (hwz zs[i] (List.getElem_mem hi'))
      refine ⟨k, hg.trans hk, hk2, ?_⟩
      rw [List.getD_eq_getElem?_getD, List.getElem?_map, List.getElem?_take_of_lt hi, List.getElem?_eq_getElem hi', hk]
      rfl
    refine ⟨some a, (zs.take n).map Int.toNat, n, cap, rfl, hlen, hl, hm, fun x hx => ?_, fun hn => ?_, fun h => by cases h⟩
    · obtain ⟨i, hi⟩ := List.getElem?_of_mem hx
      have hin : i < n := by have := (List.getElem?_eq_some_iff.1 hi).1; omega
      obtain ⟨k, _, hk, he⟩ := hat i hin
      rw [List.getD_eq_getElem?_getD, hi] at he
      have : x = k := he
      omega
    · rw [hlen] at hn
      have h0 := hcell 0 (by omega)
      have hsp : a.spot = none := by
        simp only [Addr.add, if_true] at h0
        unfold World.cell? at h0
        split at h0
        · cases hs : a.spot with
          | none => rfl
          | some s => simp [hs] at h0
        · cases h0
      have hblk : a.block < w.heap.size := by
        have := World.block_lt_of_cell? w _ h0
        simpa [Addr.add] using this
      obtain ⟨b, o, sp⟩ := a
      subst hsp
      refine ⟨b, o, rfl, hblk, fun i hi => ?_⟩
      rw [hlen] at hi
      obtain ⟨k, h1, _, h2⟩ := hat i hi
      have h3 := hcell i (by omega)
      rw [Addr.add_mid, h1] at h3
      rw [h3, h2]
end
end Go.Proofs.Yteglhalninlapaa
set_option maxRecDepth 100000
namespace Go.Proofs.Yteglhalninlapaa
open Go.ChangeShapes Go.WideShapes Go.ChangeAt Go.RowKit Go.Deep
/-- A slice of slices of bytes that came in; a part that is nil has no bytes and no room. -/
def PrtsN (w : World) (B : Nat) (A : Option Addr) (ls : List (List Nat)) : Prop :=
  0 < ls.length → ∃ b o, A = some ⟨b, o, none⟩ ∧ b < B ∧ ∀ i, i < ls.length → ∃ A' c, w.cell? ⟨b, o + i, none⟩ = some (.slice A' (ls.getD i []).length c) ∧ (ls.getD i []).length ≤ c ∧ c ≤ maxLen ∧ Byt w B A' (ls.getD i []) ∧ (A' = none → (ls.getD i []).length = 0 ∧ c = 0)
theorem PrtsN.below {B B' : Nat} {w w' : World} {A : Option Addr} {ls : List (List Nat)} (h : PrtsN w B A ls) (hb : Below B' w w') (hB : B ≤ B') : PrtsN w' B A ls := fun hn => by
  obtain ⟨b, o, rfl, hl, hr⟩ := h hn
  refine ⟨b, o, rfl, hl, fun i hi => ?_⟩
  obtain ⟨A', c, h1, h2, h3, h4, h5⟩ := hr i hi
  exact ⟨A', c, (hb.cell (p := ⟨b, o + i, none⟩) (by show b < B'; omega)).trans h1, h2, h3, h4.below hb hB, h5⟩
theorem PrtsN.more {w : World} {B B' : Nat} {A : Option Addr} {ls : List (List Nat)} (h : PrtsN w B A ls) (hB : B ≤ B') : PrtsN w B' A ls := fun hn => by
  obtain ⟨b, o, rfl, hl, hr⟩ := h hn
  refine ⟨b, o, rfl, by omega, fun i hi => ?_⟩
  obtain ⟨A', c, h1, h2, h3, h4, h5⟩ := hr i hi
  exact ⟨A', c, h1, h2, h3, h4.more hB, h5⟩
theorem cells_sl : Try.prog.cellsOf 33 = 1 := by kernel_rfl
section
variable {H : Type} {enc : TypeId × Value → H} {w : World} {base : Nat} {spare : Nat → Bool} {held : Bool}
theorem trod_byts {fuel : Nat} {cs : List Value} {x : DataW H × List MemPlace} (h : DataW.trod enc Try.prog w base spare held fuel 33 cs = some x) :
    ∃ (A : Option Addr) (l : List Nat) (cap : Nat), cs = [.slice A l.length cap] ∧ l.length ≤ cap ∧ cap ≤ maxLen ∧ B256 l ∧ Byt w w.heap.size A l ∧ (A = none → l.length = 0 ∧ cap = 0) := by
  rcases open_ints Try.underlying33 Try.underlying5 cells_u8 h with ⟨hcs, _⟩ | ⟨a, n, cap, zs, hcs, _, hl, hm, hz, _, hcell, hwz⟩
  · subst hcs
    exact ⟨none, [], 0, rfl, Nat.le_refl _, Nat.zero_le _, (fun x hx => by cases hx), Byt.none rfl, fun _ => ⟨rfl, rfl⟩⟩
  · subst hcs
    have hnz : n ≤ zs.length := by rw [hz]; split <;> omega
    have hlen : ((zs.take n).map Int.toNat).length = n := by rw [List.length_map, List.length_take]; omega
    have hat : ∀ i, i < n → ∃ k : Nat, zs.getD i 0 = k ∧ k < 256 ∧ ((zs.take n).map Int.toNat).getD i 0 = k := fun i hi => by
      have hi' : i < zs.length := by omega
      have hg : zs.getD i 0 = zs[i] := by rw [List.getD_eq_getElem?_getD, List.getElem?_eq_getElem hi']; rfl
      obtain ⟨k, hk, hk2⟩ := u8_wf (hwz zs[i] (List.getElem_mem hi'))
      refine ⟨k, hg.trans hk, hk2, ?_⟩
      rw [List.getD_eq_getElem?_getD, List.getElem?_map, List.getElem?_take_of_lt hi, List.getElem?_eq_getElem hi', hk]
      rfl
    refine ⟨some a, (zs.take n).map Int.toNat, cap, by rw [hlen], by rw [hlen]; exact hl, hm, fun x hx => ?_, fun hn => ?_, fun h => by cases h⟩
    · obtain ⟨i, hi⟩ := List.getElem?_of_mem hx
      have hin : i < n := by have := (List.getElem?_eq_some_iff.1 hi).1; omega
      obtain ⟨k, _, hk, he⟩ := hat i hin
      rw [List.getD_eq_getElem?_getD, hi] at he
      have : x = k := he
      omega
    · rw [hlen] at hn
      have h0 := hcell 0 (by omega)
      have hsp : a.spot = none := by
        simp only [Addr.add, if_true] at h0
        unfold World.cell? at h0
        split at h0
        · cases hs : a.spot with
          | none => rfl
          | some s => simp [hs] at h0
        · cases h0
      have hblk : a.block < w.heap.size := by
        have := World.block_lt_of_cell? w _ h0
        simpa [Addr.add] using this
      obtain ⟨b, o, sp⟩ := a
      subst hsp
      refine ⟨b, o, rfl, hblk, fun i hi => ?_⟩
      rw [hlen] at hi
      obtain ⟨k, h1, _, h2⟩ := hat i hi
      have h3 := hcell i (by omega)
      rw [Addr.add_mid, h1] at h3
      rw [h3, h2]
end
end Go.Proofs.Yteglhalninlapaa
set_option maxRecDepth 100000
namespace Go.Proofs.Yteglhalninlapaa
open Go.ChangeShapes Go.WideShapes Go.ChangeAt Go.RowKit Go.Deep
namespace MbP
open MbM
theorem cells_act : Try.prog.cellsOf 35 = 68 := by kernel_rfl
theorem cells_se : Try.prog.cellsOf 32 = 64 := by kernel_rfl
theorem cells_i : Try.prog.cellsOf 3 = 1 := by kernel_rfl
theorem cells_bs : Try.prog.cellsOf 33 = 1 := by kernel_rfl
theorem cells_bo : Try.prog.cellsOf 4 = 1 := by kernel_rfl
theorem bytes_u8 : Try.prog.bytesOf 5 = 1 := by kernel_rfl
section
variable {H : Type} {enc : TypeId × Value → H} {w : World} {base : Nat} {spare : Nat → Bool} {held : Bool}
theorem weightsAll_mem {e : TypeId} {d : DataW H} {n : Nat} : ∀ {l : List (DataW H)}, d ∈ l → n ∈ d.weights Try.prog e → n ∈ DataW.weightsAll Try.prog e l
  | [], h, _ => by cases h
  | c :: r, h, hn => by
    rw [DataW.weightsAll]
    rcases List.mem_cons.1 h with e | e
    · subst e; exact List.mem_append_left _ hn
    · exact List.mem_append_right _ (weightsAll_mem e hn)
theorem weightsEach_mem {n : Nat} : ∀ {ts : List TypeId} {l : List (DataW H)} {i : Nat} {t : TypeId} {d : DataW H}, ts[i]? = some t → l[i]? = some d → n ∈ d.weights Try.prog t → n ∈ DataW.weightsEach Try.prog ts l
  | [], _, _, _, _, h, _, _ => by simp at h
  | _ :: _, [], _, _, _, _, h, _ => by simp at h
  | t :: ts, d :: l, 0, _, _, h, h2, hn => by
    simp only [List.getElem?_cons_zero, Option.some.injEq] at h h2
    subst h; subst h2
    rw [DataW.weightsEach]
    exact List.mem_append_left _ hn
  | t :: ts, d :: l, i + 1, _, _, h, h2, hn => by
    rw [List.getElem?_cons_succ] at h h2
    rw [DataW.weightsEach]
    exact List.mem_append_right _ (weightsEach_mem h h2 hn)
/-- A slice of bytes weighs what it is long. -/
theorem byts_weigh {fuel : Nat} {A : Option Addr} {n c R : Nat} {x : DataW H × List MemPlace} (h : DataW.trod enc Try.prog w base spare held fuel 33 [.slice A n c] = some x) (hw : ∀ m ∈ x.1.weights Try.prog 33, m ≤ R) (hA : A ≠ none) : n ≤ R := by
  rcases DataW.trod_slice Try.underlying33 h with ⟨h0, _⟩ | ⟨a, len, cap, elems, rest, m, _, e1, e2, hb, hl, hm, hlen, hel, hsp, hns⟩
  · simp only [List.cons.injEq, and_true] at h0
    exact absurd (Value.slice.inj h0).1 hA
  · simp only [List.cons.injEq, and_true] at e1
    obtain ⟨_, rfl, _⟩ := Value.slice.inj e1
    have := hw ((elems.length + rest.length) * Try.prog.bytesOf 5) (by
      rw [e2, DataW.weights, Try.underlying33]
      simp)
    rw [bytes_u8] at this
    omega
theorem at_one {l : List Value} {o : Nat} {v : Value} (h : (l.drop o).take 1 = [v]) : l[o]? = some v := by
  have h1 : ((l.drop o).take 1)[0]? = some v := by rw [h]; rfl
  rwa [List.getElem?_take_of_lt (by omega), List.getElem?_drop] at h1
theorem at_ar {l : List Value} {o m j : Nat} {f : Nat → Nat} (h : (l.drop o).take m = (ar m f).toList) (hj : j < m) : l[o + j]? = some (.int .u8 (f j : Nat)) := by
  have h1 : ((l.drop o).take m)[j]? = some (.int .u8 (f j : Nat)) := by rw [h, Array.getElem?_toList, get_ar hj]
  rwa [List.getElem?_take_of_lt hj, List.getElem?_drop] at h1
theorem actL_get (a : ActV) (j : Nat) : (actA a)[j]? = (actL a)[j]? := by unfold actA; rw [List.getElem?_toArray]
set_option maxRecDepth 100000 in
theorem trod_act {fuel : Nat} {cs : List Value} {x : DataW H × List MemPlace} {R : Nat} (h : DataW.trod enc Try.prog w base spare held fuel 35 cs = some x) (hw : ∀ m ∈ x.1.weights Try.prog 35, m ≤ R) :
    ∃ y : ActV, (∀ j, y.s j < 256) ∧ cs = actL y ∧ Arg w y.p y.picks y.pn y.pc ∧ y.pn ≤ R := by
  obtain ⟨xs, n, _, rfl, hl, hlen, hf⟩ := DataW.trod_struct Try.underlying35 h
  rw [cells_act] at hl
  match xs, hlen with
  | [y0, y1, y2, y3, y4], _ =>
    have h0 : DataW.trod enc Try.prog w base spare held n 3 ((cs.drop 0).take (Try.prog.cellsOf 3)) = some y0 := hf 0 _ rfl
    have h1 : DataW.trod enc Try.prog w base spare held n 3 ((cs.drop 1).take (Try.prog.cellsOf 3)) = some y1 := hf 1 _ rfl
    have h2 : DataW.trod enc Try.prog w base spare held n 32 ((cs.drop 2).take (Try.prog.cellsOf 32)) = some y2 := hf 2 _ rfl
    have h3 : DataW.trod enc Try.prog w base spare held n 33 ((cs.drop 66).take (Try.prog.cellsOf 33)) = some y3 := hf 3 _ rfl
    have h4 : DataW.trod enc Try.prog w base spare held n 4 ((cs.drop 67).take (Try.prog.cellsOf 4)) = some y4 := hf 4 _ rfl
    rw [cells_i] at h0 h1
    rw [cells_se] at h2
    rw [cells_bs] at h3
    rw [cells_bo] at h4
    obtain ⟨d, e0, _, _⟩ := DataW.trod_int Try.underlying3 h0
    obtain ⟨i, e1, _, _⟩ := DataW.trod_int Try.underlying3 h1
    obtain ⟨f, hf2, e2⟩ := trod_ar uSe cells_se h2
    obtain ⟨A, l, cap, e3, l1, l2, l3, l4, l5⟩ := trod_byts h3
    obtain ⟨q, e4, _⟩ := DataW.trod_bool Try.underlying4 h4
    refine ⟨⟨d, i, f, A, l.length, cap, q, l⟩, hf2, ?_, ⟨rfl, l1, l2, l3, l5, l4⟩, ?_⟩
    · obtain ⟨Y, hY⟩ : ∃ Y : ActV, Y = ⟨d, i, f, A, l.length, cap, q, l⟩ := ⟨_, rfl⟩
      rw [← hY]
      have v0 : (actL Y)[0]? = some (.int .i64 d) := by rw [← actL_get, act_0, hY]
      have v1 : (actL Y)[1]? = some (.int .i64 i) := by rw [← actL_get, act_1, hY]
      have v3 : (actL Y)[66]? = some (.slice A l.length cap) := by rw [← actL_get, act_66, hY]
      have v4 : (actL Y)[67]? = some (.bool q) := by rw [← actL_get, act_67, hY]
      have v2 : ∀ k, k < 64 → (actL Y)[2 + k]? = some (.int .u8 (f k : Nat)) := fun k hk => by
        rw [← actL_get]
        exact act_s Y (by rw [hY, Array.getElem?_toList]; exact get_ar hk)
      clear hY
      apply List.ext_getElem?
      intro j
      have r0 := at_one e0
      have r1 := at_one e1
      have r3 := at_one e3
      have r4 := at_one e4
      by_cases hj : j < 68
      · rcases Nat.lt_or_ge j 2 with a | a
        · obtain rfl | rfl : j = 0 ∨ j = 1 := by omega
          · rw [r0, v0]
          · rw [r1, v1]
        · rcases Nat.lt_or_ge j 66 with b | b
          · obtain ⟨k, rfl⟩ : ∃ k, j = 2 + k := ⟨j - 2, by omega⟩
            rw [at_ar e2 (by omega), v2 k (by omega)]
          · obtain rfl | rfl : j = 66 ∨ j = 67 := by omega
            · rw [r3, v3]
            · rw [r4, v4]
      · rw [List.getElem?_eq_none (by omega), List.getElem?_eq_none (by rw [actL_length]; omega)]
    · show l.length ≤ R
      cases A with
      | none => rw [(l5 rfl).1]; omega
      | some ad =>
        rw [e3] at h3
        refine byts_weigh h3 (fun m hm => hw m ?_) (by simp)
        rw [DataW.weights, Try.underlying35]
        exact weightsEach_mem (i := 3) rfl rfl hm
theorem open_int {r : Reach} {b0 : Nat} {v : Value} {d : DataW H} {p : List MemPlace} (hv : Value.okWide Try.prog w r b0 3 v) (_h : DataW.Trod enc Try.prog w base spare held 3 v d p) : ∃ i : Int, v = .int .i64 i := okWide_int Try.underlying3 hv
instance : Inhabited ActV := ⟨⟨0, 0, zero, none, 0, 0, false, []⟩⟩
set_option maxRecDepth 100000 in
theorem open_acts {r : Reach} {b0 : Nat} {v : Value} {d : DataW H} {p : List MemPlace} (hv : Value.okWide Try.prog w r b0 22 v) (h : DataW.Trod enc Try.prog w base spare held 22 v d p) (hw : ∀ m ∈ d.weights Try.prog 22, m ≤ 140737488351232) :
    ∃ (A : Option Addr) (l : List ActV) (n cap : Nat), v = .slice A n cap ∧ Acts w.heap.size w A l n cap := by
  obtain ⟨A, n, cap, rfl⟩ := okWide_slice Try.underlying22 hv
  obtain ⟨fuel, hf⟩ := h
  rcases open_slice Try.underlying22 hf with ⟨hcs, _⟩ | ⟨a, len, cap', m, fu, D, Pl, hcs, hb, hl, hm, hmm, hx, hi⟩
  · simp [Value.cells] at hcs
    obtain ⟨rfl, rfl, rfl⟩ := hcs
    exact ⟨none, [], 0, 0, rfl, ⟨Sli.nil _ _ _ _, fun a ha => by cases ha⟩⟩
  · simp [Value.cells] at hcs
    obtain ⟨rfl, rfl, rfl⟩ := hcs
    have hnm : n ≤ m := by rw [hmm]; split <;> omega
    obtain ⟨rfl, _⟩ := Prod.mk.inj hx
    have hwD : ∀ i, i < n → ∀ k ∈ (D i).weights Try.prog 35, k ≤ 140737488351232 := fun i hin k hk => hw k (by
      rw [DataW.weights, Try.underlying22]
      refine List.mem_cons_of_mem _ (List.mem_append_left _ (weightsAll_mem (d := D i) ?_ hk))
      exact List.mem_map.2 ⟨i, List.mem_range.2 hin, rfl⟩)
    have one : ∀ i, i < n → ∃ y : ActV, ActOk w w.heap.size y ∧ ∀ j, j < 68 → w.cell? (a.add (i * 68 + j)) = (actL y)[j]? := fun i hin => by
      obtain ⟨cs', hc, ht⟩ := hi i (by omega)
      have h3 := World.cells?_some hc
      rw [cells_act] at h3
      obtain ⟨y, y1, y2, y3, y4⟩ := trod_act ht (hwD i hin)
      refine ⟨y, ⟨y1, y3, fun b o hn e => ?_, y4⟩, fun j hj => ?_⟩
      · obtain ⟨b', o', e', hlt, _⟩ := y3.byt hn
        rw [e] at e'
        cases e'
        exact hlt
      · have h6 := h3.2.2 j hj
        rw [Go.Deep.add_add, y2] at h6
        exact h6
    obtain ⟨F, hF⟩ := choose_lt one
    have hg : ∀ i, ((List.range n).map F)[i]? = if i < n then some (F i) else none := fun i => by
      by_cases hi : i < n
      · rw [if_pos hi, List.getElem?_map, List.getElem?_range hi]; rfl
      · rw [if_neg hi, List.getElem?_eq_none (by simp; omega)]
    refine ⟨some a, (List.range n).map F, n, cap, rfl, ⟨⟨by simp, hl, hm, (fun h => by cases h), fun hn => ?_⟩, fun x hx => ?_⟩⟩
    · have hn' : 0 < n := by simpa using hn
      obtain ⟨_, h0⟩ := hF 0 hn'
      have h00 := h0 0 (by omega)
      have e00 : (actL (F 0))[0]? = some (.int .i64 (F 0).d) := by rw [← actL_get, act_0]
      rw [e00] at h00
      have hsp : a.spot = none := by
        simp only [Nat.zero_mul, Nat.zero_add, Addr.add, if_true] at h00
        unfold World.cell? at h00
        split at h00
        · cases hs : a.spot with
          | none => rfl
          | some s => simp [hs] at h00
        · cases h00
      have hblk : a.block < w.heap.size := by
        have := World.block_lt_of_cell? w _ h00
        simpa [Addr.add] using this
      obtain ⟨b, o, sp⟩ := a
      subst hsp
      refine ⟨b, o, rfl, hblk, hblk, fun i x hi2 j u hj => ?_⟩
      rw [hg] at hi2
      split at hi2
      · rename_i hin
        obtain rfl := Option.some.inj hi2
        have hj68 : j < 68 := by have := (List.getElem?_eq_some_iff.1 hj).1; rw [actL_length] at this; exact this
        have h3 := (hF i hin).2 j hj68
        rw [Addr.add_mid, hj, ← Nat.add_assoc] at h3
        exact h3
      · cases hi2
    · obtain ⟨i, hi2, rfl⟩ := List.mem_map.1 hx
      exact (hF i (List.mem_range.1 hi2)).1
end
end MbP
end Go.Proofs.Yteglhalninlapaa
set_option maxRecDepth 100000
namespace Go.Proofs.Yteglhalninlapaa
open Go.ChangeShapes Go.WideShapes Go.ChangeAt Go.RowKit
attribute [local go_sem] Gives
namespace MbP
open MbM
abbrev Ent := Int × (Nat → Nat)
def look : List Ent → Int → Nat → Option (Nat × (Nat → Nat))
  | [], _, _ => none
  | p :: l, i, n => if p.1 = i then some (n, p.2) else look l i (n + 1)
def putE : List Ent → Int → (Nat → Nat) → List Ent
  | [], i, s => [(i, s)]
  | p :: l, i, s => if p.1 = i then (i, s) :: l else p :: putE l i s
def delE : List Ent → Int → List Ent
  | [], _ => []
  | p :: l, i => if p.1 = i then l else p :: delE l i
def getE : List Ent → Int → Nat → Nat
  | [], _ => zero
  | p :: l, i => if p.1 = i then p.2 else getE l i
theorem look_get (i : Int) : ∀ (l : List Ent) (n : Nat), ((look l i n).map (·.2)).getD zero = getE l i
  | [], n => rfl
  | p :: l, n => by
    unfold look getE
    split
    · rfl
    · exact look_get i l (n + 1)
theorem look_some {i : Int} : ∀ {l : List Ent} {n : Nat} {q : Nat × (Nat → Nat)}, look l i n = some q → ∃ d, q.1 = n + d ∧ l[d]? = some (i, q.2) ∧ (∀ s, l.set d (i, s) = putE l i s) ∧ l.eraseIdx d = delE l i
  | [], n, q, h => by cases h
  | p :: l, n, q, h => by
    unfold look at h
    by_cases e : p.1 = i
    · rw [if_pos e] at h
      cases h
      refine ⟨0, rfl, ?_, fun s => ?_, ?_⟩
      · show some p = _; rw [← e]
      · show _ :: _ = _; unfold putE; rw [if_pos e]
      · show l = _; unfold delE; rw [if_pos e]
    · rw [if_neg e] at h
      obtain ⟨d, h1, h2, h3, h4⟩ := look_some h
      refine ⟨d + 1, by omega, h2, fun s => ?_, ?_⟩
      · rw [List.set_cons_succ, h3, putE, if_neg e]
      · rw [List.eraseIdx_cons_succ, h4, delE, if_neg e]
theorem look_none {i : Int} : ∀ {l : List Ent} {n : Nat}, look l i n = none → (∀ s, putE l i s = l ++ [(i, s)]) ∧ delE l i = l
  | [], n, h => ⟨fun s => rfl, rfl⟩
  | p :: l, n, h => by
    unfold look at h
    by_cases e : p.1 = i
    · rw [if_pos e] at h; cases h
    · rw [if_neg e] at h
      obtain ⟨h1, h2⟩ := look_none h
      exact ⟨fun s => by rw [putE, if_neg e, h1]; rfl, by rw [delE, if_neg e, h2]⟩
theorem get_put (i : Int) (s : Nat → Nat) (j : Int) : ∀ l : List Ent, getE (putE l i s) j = if j = i then s else getE l j
  | [] => by
    unfold putE getE getE
    by_cases e : j = i
    · rw [if_pos e.symm, if_pos e]
    · rw [if_neg fun h => e h.symm, if_neg e]
  | p :: l => by
    unfold putE
    by_cases e : p.1 = i
    · rw [if_pos e]
      unfold getE
      by_cases h : j = i
      · rw [if_pos h.symm, if_pos h]
      · rw [if_neg fun x => h x.symm, if_neg h, if_neg fun x => h (x.symm.trans e)]
    · rw [if_neg e]
      unfold getE
      by_cases h : p.1 = j
      · rw [if_pos h, if_pos h, if_neg fun x => e (h.trans x)]
      · rw [if_neg h, if_neg h]; exact get_put i s j l
theorem get_out {i : Int} : ∀ {l : List Ent}, i ∉ l.map (·.1) → getE l i = zero
  | [], _ => rfl
  | p :: l, h => by
    rw [List.map_cons, List.mem_cons, not_or] at h
    unfold getE
    rw [if_neg fun e => h.1 e.symm]
    exact get_out h.2
theorem get_del (i j : Int) : ∀ l : List Ent, (l.map (·.1)).Nodup → getE (delE l i) j = if j = i then zero else getE l j
  | [], _ => by unfold delE getE; split <;> rfl
  | p :: l, h => by
    rw [List.map_cons, List.nodup_cons] at h
    unfold delE
    by_cases e : p.1 = i
    · rw [if_pos e]
      by_cases hj : j = i
      · rw [if_pos hj, hj]; exact get_out (e ▸ h.1)
      · rw [if_neg hj]
        conv => rhs; unfold getE
        rw [if_neg fun x => hj (x.symm.trans e)]
    · rw [if_neg e]
      unfold getE
      by_cases hp : p.1 = j
      · rw [if_pos hp, if_pos hp, if_neg fun x => e (hp.trans x)]
      · rw [if_neg hp, if_neg hp]; exact get_del i j l h.2
theorem del_sub (i : Int) : ∀ l : List Ent, (delE l i).Sublist l
  | [] => List.Sublist.refl _
  | p :: l => by
    unfold delE
    split
    · exact List.sublist_cons_self p l
    · exact (del_sub i l).cons_cons p
theorem nodup_del {i : Int} {l : List Ent} (h : (l.map (·.1)).Nodup) : ((delE l i).map (·.1)).Nodup := List.Nodup.sublist ((del_sub i l).map _) h
theorem mem_put {i k : Int} {s : Nat → Nat} : ∀ {l : List Ent}, k ∈ (putE l i s).map (·.1) → k = i ∨ k ∈ l.map (·.1)
  | [], h => by simpa [putE] using h
  | p :: l, h => by
    unfold putE at h
    by_cases e : p.1 = i
    · rw [if_pos e, List.map_cons, List.mem_cons] at h
      exact h.imp id fun x => List.mem_cons_of_mem _ x
    · rw [if_neg e, List.map_cons, List.mem_cons] at h
      rcases h with h | h
      · exact .inr (by rw [List.map_cons, h]; exact List.mem_cons_self)
      · exact (mem_put h).imp id fun x => List.mem_cons_of_mem _ x
theorem nodup_put {i : Int} {s : Nat → Nat} : ∀ {l : List Ent}, (l.map (·.1)).Nodup → ((putE l i s).map (·.1)).Nodup
  | [], _ => by simp [putE]
  | p :: l, h => by
    rw [List.map_cons, List.nodup_cons] at h
    unfold putE
    by_cases e : p.1 = i
    · rw [if_pos e, List.map_cons, List.nodup_cons]
      exact ⟨e ▸ h.1, h.2⟩
    · rw [if_neg e, List.map_cons, List.nodup_cons]
      exact ⟨fun x => (mem_put x).elim e h.1, nodup_put h.2⟩
/-- What is keyed, and by what. -/
def kvE (e : MapEntry) : Value × Value := (e.key, e.val)
def kvP (p : Ent) : Value × Value := (.int .i64 p.1, .agg (ar 64 p.2))
theorem find_now (i : Int) : ∀ (es : List MapEntry) (l : List Ent) (n : Nat), es.map kvE = l.map kvP → Instr.findNow (.int .i64) (.int .i64 i) es n = some ((look l i n).map fun q => (q.1, Value.agg (ar 64 q.2)))
  | [], [], n, _ => rfl
  | [], _ :: _, n, h => by simp at h
  | _ :: _, [], n, h => by simp at h
  | e :: es, p :: l, n, h => by
    simp only [List.map_cons, List.cons.injEq] at h
    obtain ⟨h1, h2⟩ := h
    have hk : e.key = .int .i64 p.1 := congrArg Prod.fst h1
    have hv : e.val = .agg (ar 64 p.2) := congrArg Prod.snd h1
    unfold Instr.findNow look
    rw [hk, hv]
    by_cases e' : p.1 = i
    · have : (i == p.1) = true := by simp [e']
      simp [Instr.sameNow, this, e']
    · have : (i == p.1) = false := by simp; exact fun h => e' h.symm
      simp only [Instr.sameNow, this, if_neg e', if_true]
      exact find_now i es l (n + 1) h2
/-- Block r is a map of sectors that reads as F. -/
def MapB (w : World) (r : Nat) (F : Img) : Prop := ∃ es clock l, w.heap[r]? = some (.map es clock) ∧ es.toList.map kvE = l.map kvP ∧ (l.map (·.1)).Nodup ∧ ∀ i k, k < 64 → getE l i k = F i k
section
variable {w w' : World} {r : Nat} {F G : Img} {T : Nat → Prop}
theorem MapB.lt (h : MapB w r F) : r < w.heap.size := by
  obtain ⟨es, c, l, h1, _⟩ := h
  exact (Array.getElem?_eq_some_iff.1 h1).1
theorem MapB.turn (h : MapB w r F) (ht : Turn T w w') (hr : ¬ T r) : MapB w' r F := by
  have hl := h.lt
  obtain ⟨es, c, l, h1, h2⟩ := h
  exact ⟨es, c, l, (ht.block r hl hr).trans h1, h2⟩
theorem MapB.below (h : MapB w r F) (hb : Below w.heap.size w w') : MapB w' r F := h.turn (Turn.of_below hb) (by have := h.lt; omega)
theorem MapB.congr (h : MapB w r F) (e : ∀ i k, k < 64 → F i k = G i k) : MapB w r G := by
  obtain ⟨es, c, l, h1, h2, h3, h4⟩ := h
  exact ⟨es, c, l, h1, h2, h3, fun i k hk => (h4 i k hk).trans (e i k hk)⟩
theorem MapB.new (w : World) : MapB (w.alloc (.map #[] 0)) w.heap.size fun _ => zero := ⟨#[], 0, [], heap_alloc_new w _, rfl, List.nodup_nil, fun _ _ _ => rfl⟩
theorem MapB.twin (h : MapB w r F) : ∃ es clock, w.heap[r]? = some (.map es clock) ∧ ∀ w' r', w'.heap[r']? = some (.map es clock) → MapB w' r' F := by
  obtain ⟨es, c, l, h1, h2⟩ := h
  exact ⟨es, c, h1, fun w' r' e => ⟨es, c, l, e, h2⟩⟩
theorem ar_get {l : List Ent} {F : Img} (h : ∀ i k, k < 64 → getE l i k = F i k) (i : Int) : ar 64 (getE l i) = ar 64 (F i) := ar_ext fun k hk => h i k hk
end
theorem undImg : Try.prog.underlying 54 = some (.map 3 32) := Try.underlying54
theorem undInt : Try.prog.underlying 3 = some (.int .i64) := Try.underlying3
section
variable {w : World} {r : Nat} {F : Img}
theorem run_chk' (b : Bool) (n : Nat) (i : Int) (w : World) : (Instr.checkKey b (n + 1) 3 (.int .i64 i)).run Try.prog w = .ok () w := by
  unfold Instr.checkKey
  simp [run_underlying undInt, Result.andThen]
theorem run_chk (b : Bool) (i : Int) (w : World) : (Instr.checkKey b 10000 3 (.int .i64 i)).run Try.prog w = .ok () w := run_chk' b 9999 i w
theorem map_mod {α β : Type} {f : α → β} {g : α → α} {v : β} (hg : ∀ x, f (g x) = v) : ∀ (l : List α) (d : Nat), (l.modify d g).map f = (l.map f).set d v
  | [], d => by simp
  | x :: l, 0 => by simp [hg]
  | x :: l, d + 1 => by simp [map_mod hg l d]
theorem map_era {α β : Type} (f : α → β) : ∀ (l : List α) (d : Nat), (l.eraseIdx d).map f = (l.map f).eraseIdx d
  | [], d => by simp
  | x :: l, 0 => by simp
  | x :: l, d + 1 => by simp [map_era f l d]
theorem run_find {es : Array MapEntry} {l : List Ent} (h : es.toList.map kvE = l.map kvP) (i : Int) (w : World) : (Instr.findKey 3 (.int .i64 i) es.toList).run Try.prog w = .ok ((look l i 0).map fun q => (q.1, Value.agg (ar 64 q.2))) w := by
  simp [Instr.findKey, run_underlying undInt, Result.andThen, find_now i es.toList l 0 h]
theorem run_look (h : MapB w r F) (i : Int) : (Instr.lookup 54 (.map (some r)) (.int .i64 i) false).run Try.prog w = .ok (.agg (ar 64 (F i))) w := by
  obtain ⟨es, c, l, h1, h2, h3, h4⟩ := h
  have e := look_get i l 0
  cases hl : look l i 0 with
  | none =>
    rw [hl] at e
    have e2 : zero = getE l i := e
    have e3 : ar 64 (fun _ => 0) = ar 64 (F i) := ((by rw [← e2]; rfl : ar 64 (fun _ => 0) = ar 64 (getE l i))).trans (ar_get h4 i)
    simp [Instr.lookup, run_underlying undImg, MapKept.run_getObj_map h1, run_chk, run_find h2, hl, Result.andThen, tSe.zero w, e3]
  | some q =>
    rw [hl] at e
    have e2 : q.2 = getE l i := e
    have e3 : ar 64 q.2 = ar 64 (F i) := by rw [e2]; exact ar_get h4 i
    simp [Instr.lookup, run_underlying undImg, MapKept.run_getObj_map h1, run_chk, run_find h2, hl, Result.andThen, e3]
theorem turn_set (w : World) (r : Nat) (o : Obj) : Turn (fun b => b = r) w { w with heap := w.heap.setIfInBounds r o } := ⟨rfl, rfl, rfl, by simp, fun k _ hk => by
  show (w.heap.setIfInBounds r o)[k]? = _
  rw [Array.getElem?_setIfInBounds_ne fun e => hk e.symm]⟩
theorem run_put (h : MapB w r F) (i : Int) (s : Nat → Nat) : ∃ w', (Instr.mapUpdate 54 (.map (some r)) (.int .i64 i) (.agg (ar 64 s))).run Try.prog w = .ok () w' ∧ MapB w' r (upd F ⟨i, s⟩) ∧ Turn (fun b => b = r) w w' := by
  have hlt := h.lt
  obtain ⟨es, c, l, h1, h2, h3, h4⟩ := h
  have hval : ∀ j k, k < 64 → getE (putE l i s) j k = upd F ⟨i, s⟩ j k := fun j k hk => by
    rw [get_put]
    unfold upd
    by_cases e : j = i
    · rw [if_pos e, if_pos e]
    · rw [if_neg e, if_neg e]; exact h4 j k hk
  cases hl : look l i 0 with
  | none =>
    obtain ⟨e1, e2⟩ := look_none hl
    refine ⟨_, by simp [Instr.mapUpdate, run_underlying undImg, MapKept.run_getObj_map h1, run_chk, run_find h2, hl, Result.andThen, MapKept.run_setObj_map _ h1]; rfl, ?_, turn_set _ _ _⟩
    refine ⟨_, _, putE l i s, by simp [hlt]; exact ⟨rfl, rfl⟩, ?_, nodup_put h3, hval⟩
    rw [e1, Array.toList_push, List.map_append, List.map_append, h2]
    rfl
  | some q =>
    obtain ⟨d, e1, e2, e3, e4⟩ := look_some hl
    rw [Nat.zero_add] at e1
    subst e1
    have hd : q.1 < l.length := (List.getElem?_eq_some_iff.1 e2).1
    have hlen : es.size = l.length := by have := congrArg List.length h2; simpa using this
    have hes : q.1 < es.size := by omega
    have hkey : es[q.1].key = .int .i64 i := by
      have := congrArg (fun x => x[q.1]?) h2
      simp only [List.getElem?_map, e2, Array.getElem?_toList, Array.getElem?_eq_getElem hes, Option.map_some, Option.some.injEq] at this
      exact congrArg Prod.fst this
    have hst : ∀ w, (Instr.keyThatStays (.int .i64 i) (.int .i64 i)).run Try.prog w = .ok (.int .i64 i) w := fun w => by
      simp [Instr.keyThatStays, Instr.sameBits]
    refine ⟨_, by simp [Instr.mapUpdate, run_underlying undImg, MapKept.run_getObj_map h1, run_chk, run_find h2, hl, Result.andThen, MapKept.run_setObj_map _ h1, Array.getElem?_eq_getElem hes, hkey, hst]; rfl, ?_, turn_set _ _ _⟩
    refine ⟨_, _, putE l i s, by simp [hlt]; exact ⟨rfl, rfl⟩, ?_, nodup_put h3, hval⟩
    rw [← e3, Array.toList_modify, List.map_set, ← h2]
    exact map_mod (f := kvE) (g := fun e => { key := Value.int IntKind.i64 i, val := Value.agg (ar 64 s), born := e.born }) (v := kvP (i, s)) (fun _ => rfl) _ _
theorem run_del {ty : TypeId} (h : MapB w r F) (i : Int) : ∃ w', (Builtin.delete_ #[54, 3] ty #[.map (some r), .int .i64 i]).run Try.prog w = .ok (.tuple #[]) w' ∧ MapB w' r (upd F ⟨i, zero⟩) ∧ Turn (fun b => b = r) w w' := by
  have hlt := h.lt
  obtain ⟨es, c, l, h1, h2, h3, h4⟩ := h
  have hval : ∀ j k, k < 64 → getE (delE l i) j k = upd F ⟨i, zero⟩ j k := fun j k hk => by
    rw [get_del i j l h3]
    unfold upd
    by_cases e : j = i
    · rw [if_pos e, if_pos e]
    · rw [if_neg e, if_neg e]; exact h4 j k hk
  cases hl : look l i 0 with
  | none =>
    obtain ⟨e1, e2⟩ := look_none hl
    refine ⟨_, by simp [Builtin.delete_, run_underlying undImg, MapKept.run_getObj_map h1, run_chk, run_find h2, hl, Result.andThen, MapKept.run_setObj_map _ h1]; rfl, ?_, turn_set _ _ _⟩
    exact ⟨_, _, delE l i, by simp [hlt]; exact ⟨rfl, rfl⟩, by rw [e2]; exact h2, nodup_del h3, hval⟩
  | some q =>
    obtain ⟨d, e1, e2, e3, e4⟩ := look_some hl
    rw [Nat.zero_add] at e1
    subst e1
    refine ⟨_, by simp [Builtin.delete_, run_underlying undImg, MapKept.run_getObj_map h1, run_chk, run_find h2, hl, Result.andThen, MapKept.run_setObj_map _ h1]; rfl, ?_, turn_set _ _ _⟩
    refine ⟨_, _, delE l i, by simp [hlt]; exact ⟨rfl, rfl⟩, ?_, nodup_del h3, hval⟩
    rw [← e4, map_era, ← h2, ← map_era]
    congr 1
    rw [Array.toList_eraseIdxIfInBounds]
end
end MbP
end Go.Proofs.Yteglhalninlapaa
set_option maxRecDepth 100000
namespace Go.Proofs.Yteglhalninlapaa
open Go.ChangeShapes Go.WideShapes Go.ChangeAt Go.RowKit
attribute [local go_sem] Gives
namespace MbO
open MbM MbP
section
variable {ops : Array Oper} {Q : Exit → Act → World → Prop} {a : Act} {w : World} {rest : List Oper} {dst : Option Tmp} {ty t2 : TypeId} {pos : String} {after : Array Edge} {m x y : Operand} {r : Nat} {i : Int} {F : Img} {s f g : Nat → Nat} {n : Nat} {T : TypeId}
theorem wlookM (hm : a.eval m = .map (some r)) (hx : a.eval x = .int .i64 i) (h : MapB w r F) (hk : wpList Try.prog ops Q rest (a.put dst (.agg (ar 64 (F i)))) w) :
    wpList Try.prog ops Q (⟨dst, .lookup 54 m x false, ty, pos, after, none⟩ :: rest) a w := by
  have hr := run_look h i
  refine wpList_plain rfl fun K hK => ?_
  unfold Oper.wp execOp
  simp [hm, hx, hr, Result.andThen]
  exact hK _ _ hk
theorem wputM (hm : a.eval m = .map (some r)) (hx : a.eval x = .int .i64 i) (hy : a.eval y = .agg (ar 64 s)) (h : MapB w r F) (hk : ∀ w', MapB w' r (upd F ⟨i, s⟩) → Turn (fun b => b = r) w w' → wpList Try.prog ops Q rest (a.put dst undef) w') :
    wpList Try.prog ops Q (⟨dst, .mapUpdate 54 m x y, ty, pos, after, none⟩ :: rest) a w := by
  obtain ⟨w', hr, h1, h2⟩ := run_put h i s
  refine wpList_plain rfl fun K hK => ?_
  unfold Oper.wp execOp
  simp [hm, hx, hy, hr, Result.andThen]
  exact hK _ _ (hk w' h1 h2)
theorem wdelM (hm : a.eval m = .map (some r)) (hx : a.eval x = .int .i64 i) (h : MapB w r F) (hk : ∀ w', MapB w' r (upd F ⟨i, zero⟩) → Turn (fun b => b = r) w w' → wpList Try.prog ops Q rest (a.put dst (.tuple #[])) w') :
    wpList Try.prog ops Q (⟨dst, .call { callee := .builtin .delete, args := #[m, x], argTypes := #[54, 3] }, ty, pos, after, none⟩ :: rest) a w := by
  obtain ⟨w', hr, h1, h2⟩ := run_del (ty := ty) h i
  refine wpList_plain rfl fun K hK => ?_
  unfold Oper.wp execOp
  simp only [resolve, invoke, builtin, Sem.run_bind, Sem.run_pure, Result.andThen_ok, List.map_toArray, List.map_cons, List.map_nil, hm, hx, hr]
  exact hK _ _ (hk w' h1 h2)
theorem weqU (b : Bool) (hT : Try.prog.underlying T = some (.array n 5)) (hg : Try.prog.eqGuardType Try.prog.depth T = false) (hx : a.eval x = .agg (ar n f)) (hy : a.eval y = .agg (ar n g)) (hb : eqA n f g = b) (h : wpList Try.prog ops Q rest (a.put dst (.bool b)) w) :
    wpList Try.prog ops Q (⟨dst, .binOp .eql T x y t2, ty, pos, after, none⟩ :: rest) a w := by
  have hr := exec_eqU (r := t2) (dst := dst) (ty := ty) (pos := pos) (after := after) (gd := none) (w := w) hT hg hx hy
  rw [hb] at hr
  refine wpList_plain rfl fun K hK => ?_
  unfold Oper.wp
  simp [hr, Result.andThen]
  exact hK _ _ h
end
theorem uSe : Try.prog.underlying 32 = some (.array 64 5) := Try.underlying32
theorem gSe : Try.prog.eqGuardType Try.prog.depth 32 = false := by kernel_rfl
set_option maxRecDepth 100000 in
theorem put_any (r : Nat) (F : Img) (i : Int) (x : Nat → Nat) (w : World) (h : MapB w r F) :
    Calls Try.prog 46 #[.map (some r), .int .i64 i, .agg (ar 64 x)] w fun e w' => e = .returned (.tuple #[]) ∧ MapB w' r (upd F ⟨i, x⟩) ∧ Turn (fun b => b = r) w w' := by
  have H := hid h
  clear h
  go_enter Try.func46, Try.ntmps46
  go_upto_region 1 with fail
  generalize hw1 : World.alloc w _ = w1
  have b1 := hid (show Blk w1 w.heap.size 32 (ar 64 x) by rw [← hw1]; exact Blk.new _ _ _)
  have BEL := hid (show Below w.heap.size w w1 by rw [← hw1]; exact (Below.refl _ _).alloc (Nat.le_refl _) _)
  have H1 := hid (H.out.below BEL.out)
  clear hw1 H
  by_cases hz : ∀ k, k < 64 → x k = 0
  · have he := hid (show eqA 64 x (fun _ => 0) = true from eqA_yes hz)
    have HZ := hid hz
    clear hz
    go_wp2_with (first | ((with_reducible apply ldA tSe); rfl; exact b1.out) | ((with_reducible apply bldZr (n := 64)); kernel_rfl) | ((with_reducible apply weqU true uSe gSe); rfl; rfl; exact he.out) | ((with_reducible apply wdelM); rfl; rfl; exact H1.out; intro w2 h2 ht2))
    simp only [Act.put]
    refine bodyPost_ret (results_none rfl _ _ _) rfl ?_
    refine ⟨rfl, h2.congr fun j k hk => ?_, (Turn.of_new BEL.out).trans ht2 fun _ e => .inl e⟩
    unfold upd
    split
    · exact (HZ.out k hk).symm
    · rfl
  · have he := hid (show eqA 64 x (fun _ => 0) = false from eqA_no hz)
    clear hz
    go_wp2_with (first | ((with_reducible apply ldA tSe); rfl; exact b1.out) | ((with_reducible apply bldZr (n := 64)); kernel_rfl) | ((with_reducible apply weqU false uSe gSe); rfl; rfl; exact he.out) | ((with_reducible apply wputM); rfl; rfl; rfl; exact H1.out; intro w2 h2 ht2))
    go_end0
    exact ⟨rfl, h2, (Turn.of_new BEL.out).trans ht2 fun _ e => .inl e⟩
theorem run_eqi_map (w : World) (d : Nat) (p : Option Nat) : (Op.equalIn (d + 1) 54 (.map p) (.map none)).run Try.prog w = .ok p.isNone w := by
  cases p <;> simp [Op.equalIn, run_underlying undImg]
theorem run_eq_map (w : World) (p : Option Nat) : (binOp .eql 54 (.map p) (.map none)).run Try.prog w = .ok (.bool p.isNone) w := by
  simp only [binOp]
  simp [show Op.equal 54 (.map p) (.map none) = Op.equalIn (9999 + 1) 54 (.map p) (.map none) from rfl, run_eqi_map w 9999 p]
theorem run_ta_map (w : World) (v : Value) (xT : TypeId) : (Instr.typeAssert (.iface 54 v) xT 54 false).run Try.prog w = .ok v w := by
  simp [Instr.typeAssert, run_underlying undImg, go_sem, Result.andThen]
theorem run_clone {w : World} {r : Nat} {es : Array MapEntry} {clock : Nat} (t : TypeId) (hb : w.heap[r]? = some (.map es clock)) :
    (Extern.MapsClone.clone #[.iface t (.map (some r))]).run Try.prog w = .ok (.iface t (.map (some w.heap.size))) (w.alloc (.map es clock)) := by
  have e : Extern.MapsClone.clone #[.iface t (.map (some r))] = (getObj r >>= fun o => match o with
      | .map entries clock => (newObj (.map entries clock) >>= fun n => pure (.iface t (.map (some n))))
      | _ => stuck "maps.clone: a map expected") := rfl
  rw [e]
  simp [MapKept.run_getObj_map hb, Result.andThen, go_sem]
set_option maxHeartbeats 800000 in
theorem clone_any (r : Nat) (F : Img) (w : World) (h : MapB w r F) :
    Calls Try.prog 43 #[.map (some r)] w fun e w' => e = .returned (.map (some w.heap.size)) ∧ MapB w' w.heap.size F ∧ Below w.heap.size w w' ∧ w'.heap.size = w.heap.size + 1 := by
  obtain ⟨es, clock, hb, htw⟩ := h.twin
  have HT := hid htw
  clear h htw
  have hq := fun w => run_eq_map w (some r)
  go_enter Try.func43, Try.ntmps43
  go_wp2
  rw [run_callFunc_extern Try.func57 (by kernel_rfl) (by kernel_rfl) (by kernel_rfl) (e := Extern.MapsClone.clone) (by kernel_rfl), run_clone 54 hb]
  simp only [Result.andThen]
  rw [Oper.upon_value]
  go_wp2
  rw [run_ta_map]
  simp only [Result.andThen]
  rw [Oper.upon_value]
  go_wp2
  go_ret
  exact ⟨rfl, HT.out _ _ (heap_alloc_new w _), (Below.refl _ _).alloc (Nat.le_refl _) _, by simp⟩
/-- Is it made: of a block with sectors. -/
theorem made_any (g : Nat) (n : Int) (hn : 0 < n) (w : World) (h : w.cell? ⟨g, 0, none⟩ = some (.int .i64 n)) :
    Calls Try.prog 42 #[.pointer (some ⟨g, 0, none⟩)] w fun e w' => e = .returned (.bool true) ∧ w = w' := by
  have t1 : decide ((0 : Int) < n) = true := by simp; omega
  clear hn
  go_enter Try.func42, Try.ntmps42
  go_wp2_with fail
  go_ret
  exact ⟨rfl, rfl⟩
theorem find2_any (g : Nat) (n : Int) (hn : 0 < n) (i : Int) (q : Bool) (hq : decide (0 ≤ i ∧ i < n) = q) (w : World) (h : w.cell? ⟨g, 0, none⟩ = some (.int .i64 n)) :
    Calls Try.prog 49 #[.pointer (some ⟨g, 0, none⟩), .int .i64 i] w fun e w' => e = .returned (.int .i64 (if q then 0 else 2)) ∧ w = w' := by
  by_cases h0 : 0 ≤ i
  · have t1 : decide (i < 0) = false := by simp; omega
    by_cases h1 : i < n
    · have t2 : decide (n ≤ i) = false := by simp; omega
      have t3 : q = true := by rw [← hq]; simp; omega
      subst t3
      clear hq h0 h1
      go_enter Try.func49, Try.ntmps49
      go_wp2_with fail
      refine (made_any g n hn w h).mono ?_
      rintro e w' ⟨rfl, rfl⟩
      go_wp2_with fail
      go_ret
      exact ⟨rfl, rfl⟩
    · have t2 : decide (n ≤ i) = true := by simp; omega
      have t3 : q = false := by rw [← hq]; simp; omega
      subst t3
      clear hq h0 h1
      go_enter Try.func49, Try.ntmps49
      go_wp2_with fail
      refine (made_any g n hn w h).mono ?_
      rintro e w' ⟨rfl, rfl⟩
      go_wp2_with fail
      go_ret
      exact ⟨rfl, rfl⟩
  · have t1 : decide (i < 0) = true := by simp; omega
    have t3 : q = false := by rw [← hq]; simp; omega
    subst t3
    clear hq h0
    go_enter Try.func49, Try.ntmps49
    go_wp2_with fail
    refine (made_any g n hn w h).mono ?_
    rintro e w' ⟨rfl, rfl⟩
    go_wp2_with fail
    go_ret
    exact ⟨rfl, rfl⟩
theorem reach_any (g : Nat) (n : Int) (hn : 0 < n) (i : Int) (q F : Bool) (hq : decide (0 ≤ i ∧ i < n) = q) (w : World) (h : w.cell? ⟨g, 0, none⟩ = some (.int .i64 n)) (h5 : w.cell? ⟨g, 5, none⟩ = some (.bool F)) :
    Calls Try.prog 45 #[.pointer (some ⟨g, 0, none⟩), .int .i64 i] w fun e w' => e = .returned (.int .i64 (if q then (if F then 10 else 0) else 2)) ∧ w = w' := by
  have HQ := hid hq
  clear hq
  go_enter Try.func45, Try.ntmps45
  go_wp2_with fail
  refine (find2_any g n hn i q HQ.out w h).mono ?_
  rintro e w' ⟨rfl, rfl⟩
  cases q with
  | false =>
    go_wp2_with fail
    go_ret
    exact ⟨rfl, rfl⟩
  | true =>
    cases F with
    | false =>
      go_wp2_with fail
      go_ret
      exact ⟨rfl, rfl⟩
    | true =>
      go_wp2_with fail
      go_ret
      exact ⟨rfl, rfl⟩
theorem yes_any (k : Int) (w : World) : Calls Try.prog 52 #[.int .i64 k] w fun e w' => e = .returned (.bool true) ∧ w = w' := by
  go_enter Try.func52, Try.ntmps52
  go_wp2_with fail
  go_ret
  exact ⟨rfl, rfl⟩
/-- The closure of Crash: is the k-th pick there, and not 0. -/
theorem picked_any (h : Nat) (P : Option Addr) (picks : List Nat) (pn pc : Nat) (k : Nat) (w : World) (hb : w.cell? ⟨h, 0, none⟩ = some (.slice P pn pc)) (ha : Arg w P picks pn pc) :
    Calls Try.prog 48 #[.int .i64 k, .pointer (some ⟨h, 0, none⟩)] w fun e w' => e = .returned (.bool (decide (picks.getD k 0 ≠ 0))) ∧ w = w' := by
  have hl := ha.len
  by_cases hk : k < pn
  · obtain ⟨b, o, rfl, hbl, hr⟩ := ha.byt (by omega)
    obtain ⟨x, hx⟩ : ∃ x, x = picks.getD k 0 := ⟨_, rfl⟩
    have q1 : w.cell? ⟨b, o + k, none⟩ = some (.int .u8 (x : Nat)) := by rw [hx]; exact hr k (by omega)
    rw [← hx]
    have t1 : (k : Int) < (pn : Int) := by omega
    clear hx hr ha hl
    by_cases e : x = 0
    · subst e
      go_enter Try.func48, Try.ntmps48
      go_wp2_with fail
      go_ret
      exact ⟨rfl, rfl⟩
    · have tx : ((x : Int) != 0) = true := by simp; omega
      rw [show decide (x ≠ 0) = true by simp [e]]
      go_enter Try.func48, Try.ntmps48
      go_wp2_with fail
      go_ret
      exact ⟨rfl, rfl⟩
  · have t1 : decide ((k : Int) < (pn : Int)) = false := by simp; omega
    have HF := hid (show decide (picks.getD k 0 ≠ 0) = false by rw [List.getD_eq_getElem?_getD, List.getElem?_eq_none (by omega)]; rfl)
    clear ha hl
    go_enter Try.func48, Try.ntmps48
    go_wp2_with fail
    go_ret
    exact ⟨by rw [HF.out]; rfl, rfl⟩
theorem tWr (p : Pt) : RowT 77 (atL p).toArray.size := by
  rw [List.size_toArray, atL_len]
  exact ⟨by kernel_rfl, _, Try.underlying77, rfl⟩
theorem at_one (p : Pt) : (atL p).toArray.all (·.oneCell') = true := by
  rw [Array.all_eq_true_iff_forall_mem]
  intro u hu
  exact eltAt.one p u (by simpa using hu)
/-- The closure of Set: was it written there. -/
theorem there_any (h : Nat) (i : Int) (p : Pt) (w : World) (hb : w.cell? ⟨h, 0, none⟩ = some (.int .i64 i)) :
    Calls Try.prog 51 #[.agg (atL p).toArray, .pointer (some ⟨h, 0, none⟩)] w fun e w' => e = .returned (.bool (decide (p.i = i))) ∧ Below w.heap.size w w' := by
  have hl : h < w.heap.size := World.block_lt_of_cell? w ⟨h, 0, none⟩ hb
  have HB := hid hb
  clear hb
  go_enter Try.func51, Try.ntmps51
  go_upto_region 1 with fail
  generalize hw1 : World.alloc w _ = w1
  have b1 := hid (show Blk w1 w.heap.size 77 (atL p).toArray by rw [← hw1]; exact Blk.new _ _ _)
  have BEL := hid (show Below w.heap.size w w1 by rw [← hw1]; exact (Below.refl _ _).alloc (Nat.le_refl _) _)
  have q0 : w1.cell? ⟨h, 0, none⟩ = some (.int .i64 i) := (BEL.out.cell (p := ⟨h, 0, none⟩) hl).trans HB.out
  have q1 : w1.cell? ⟨w.heap.size, 0, none⟩ = some (.int .i64 p.i) := at_i b1.out.whole
  clear hw1 HB b1
  go_wp2_with fail
  go_ret
  exact ⟨rfl, BEL.out⟩
end MbO
end Go.Proofs.Yteglhalninlapaa
set_option maxRecDepth 100000
namespace Go.Proofs.Yteglhalninlapaa
open Go.ChangeShapes Go.WideShapes Go.ChangeAt Go.RowKit
attribute [local go_sem] Gives
namespace MbP
theorem MapB.obj {w : World} {r : Nat} {F : MbM.Img} (h : MapB w r F) : ∃ es c, w.heap[r]? = some (.map es c) := by
  obtain ⟨es, c, l, h1, _⟩ := h
  exact ⟨es, c, h1⟩
theorem map_ne {w : World} {r b : Nat} {F : MbM.Img} {cs : Array Value} {t : TypeId} {q : Nat × Nat} (h : MapB w r F) (hb : w.heap[b]? = some (.cells cs t q)) : b ≠ r := fun e => by
  obtain ⟨es, c, h1⟩ := h.obj
  rw [← e, hb] at h1
  cases h1
end MbP
theorem OwnX.obj {w : World} {α : Type} {E : TypeId} {k : Nat} {en : α → List Value} {B b : Nat} {v : Value} {l : List α} (h : OwnX E k en w B v l) (hb : v.ownBlock = some b) : ∃ cur, w.heap[b]? = some (.cells cur E (0, 0)) := by
  rcases h.2 with ⟨rfl, _⟩ | ⟨g, cap, cur, rfl, _, hg, _⟩
  · cases hb
  · cases hb
    exact ⟨cur, hg⟩
namespace MbO
open MbM MbP
theorem eltWr : EltX 77 65 atL where
  pos := by omega
  len := atL_len
  one := eltAt.one
  info := elt_info (by kernel_rfl) (by kernel_rfl) (by kernel_rfl)
theorem undWr : Try.prog.underlying 55 = some (.slice 77) := Try.underlying55
/-- Maps as elements. -/
def imE (r : Option Nat) : List Value := [.map r]
theorem eltIm : EltX 54 1 imE where
  pos := by omega
  len _ := rfl
  one x u hu := by
    unfold imE at hu
    rw [List.mem_singleton] at hu
    subst hu; rfl
  info := elt_info (by kernel_rfl) (by kernel_rfl) (by kernel_rfl)
theorem undIm : Try.prog.underlying 56 = some (.slice 54) := Try.underlying56
abbrev OwnL (w : World) (B : Nat) (v : Value) (l : List Pt) : Prop := OwnX 77 65 atL w B v l
abbrev OwnM (w : World) (B : Nat) (v : Value) (l : List (Option Nat)) : Prop := OwnX 54 1 imE w B v l
def mbC7 (n : Int) (rs rd : Nat) (vl vm : Value) (f h : Bool) : Array Value := #[.int .i64 n, .map (some rs), .map (some rd), vl, vm, .bool f, .bool h]
/-- Block g holds a member. -/
structure Mm (w : World) (g rs rd : Nat) (vl vm : Value) (ms : List Nat) (n : Int) (S D : Img) (log : List Pt) (marks : List Img) (f h : Bool) : Prop where
  blk : Blk w g 58 (mbC7 n rs rd vl vm f h)
  pos : 0 < n
  seen : MapB w rs S
  dur : MapB w rd D
  lg : OwnL w 0 vl log
  mr : OwnM w 0 vm (ms.map some)
  len : ms.length = marks.length
  im : ∀ (i m : Nat) (F : Img), ms[i]? = some m → marks[i]? = some F → MapB w m F
  ne : rs ≠ rd
  out : ∀ m, m ∈ ms → m ≠ rs ∧ m ≠ rd
/-- What it turns. -/
def mSet (g rs rd : Nat) (vl vm : Value) (b : Nat) : Prop := b = g ∨ b = rs ∨ b = rd ∨ vl.ownBlock = some b ∨ vm.ownBlock = some b
section
variable {w w' : World} {g rs rd : Nat} {vl vm : Value} {ms : List Nat} {n : Int} {S D : Img} {log : List Pt} {marks : List Img} {f h : Bool} {T : Nat → Prop}
theorem Mm.lt (H : Mm w g rs rd vl vm ms n S D log marks f h) {b : Nat} (hb : mSet g rs rd vl vm b ∨ b ∈ ms) : b < w.heap.size := by
  rcases hb with (rfl | rfl | rfl | e | e) | e
  · exact H.blk.lt
  · exact H.seen.lt
  · exact H.dur.lt
  · exact (H.lg.own b e).2
  · exact (H.mr.own b e).2
  · obtain ⟨i, hi⟩ := List.mem_iff_getElem?.1 e
    have hil : i < marks.length := by rw [← H.len]; exact (List.getElem?_eq_some_iff.1 hi).1
    exact (H.im i b _ hi (List.getElem?_eq_getElem hil)).lt
theorem Mm.turn (H : Mm w g rs rd vl vm ms n S D log marks f h) (ht : Turn T w w') (hT : ∀ b, mSet g rs rd vl vm b ∨ b ∈ ms → ¬ T b) : Mm w' g rs rd vl vm ms n S D log marks f h where
  blk := H.blk.turn ht (hT _ (.inl (.inl rfl)))
  pos := H.pos
  seen := H.seen.turn ht (hT _ (.inl (.inr (.inl rfl))))
  dur := H.dur.turn ht (hT _ (.inl (.inr (.inr (.inl rfl)))))
  lg := H.lg.turn ht fun b e => hT b (.inl (.inr (.inr (.inr (.inl e)))))
  mr := H.mr.turn ht fun b e => hT b (.inl (.inr (.inr (.inr (.inr e)))))
  len := H.len
  im i m F h1 h2 := (H.im i m F h1 h2).turn ht (hT m (.inr (List.mem_of_getElem? h1)))
  ne := H.ne
  out := H.out
theorem Mm.below (H : Mm w g rs rd vl vm ms n S D log marks f h) (hb : Below w.heap.size w w') : Mm w' g rs rd vl vm ms n S D log marks f h :=
  H.turn (Turn.of_below hb) fun b e => by have := H.lt e; omega
theorem Mm.g_rs (H : Mm w g rs rd vl vm ms n S D log marks f h) : g ≠ rs := map_ne H.seen H.blk
theorem Mm.g_rd (H : Mm w g rs rd vl vm ms n S D log marks f h) : g ≠ rd := map_ne H.dur H.blk
theorem Mm.l_rs (H : Mm w g rs rd vl vm ms n S D log marks f h) : vl.ownBlock ≠ some rs := fun e => by obtain ⟨c, hc⟩ := H.lg.obj e; exact map_ne H.seen hc rfl
theorem Mm.l_rd (H : Mm w g rs rd vl vm ms n S D log marks f h) : vl.ownBlock ≠ some rd := fun e => by obtain ⟨c, hc⟩ := H.lg.obj e; exact map_ne H.dur hc rfl
theorem Mm.m_rs (H : Mm w g rs rd vl vm ms n S D log marks f h) : vm.ownBlock ≠ some rs := fun e => by obtain ⟨c, hc⟩ := H.mr.obj e; exact map_ne H.seen hc rfl
theorem Mm.m_rd (H : Mm w g rs rd vl vm ms n S D log marks f h) : vm.ownBlock ≠ some rd := fun e => by obtain ⟨c, hc⟩ := H.mr.obj e; exact map_ne H.dur hc rfl
theorem Mm.l_g (H : Mm w g rs rd vl vm ms n S D log marks f h) : vl.ownBlock ≠ some g := fun e => by
  obtain ⟨c, hc⟩ := H.lg.obj e
  have h2 : w.heap[g]? = some (.cells _ 58 (0, 0)) := H.blk
  rw [hc] at h2
  simp at h2
theorem Mm.m_g (H : Mm w g rs rd vl vm ms n S D log marks f h) : vm.ownBlock ≠ some g := fun e => by
  obtain ⟨c, hc⟩ := H.mr.obj e
  have h2 : w.heap[g]? = some (.cells _ 58 (0, 0)) := H.blk
  rw [hc] at h2
  simp at h2
theorem Mm.l_m (H : Mm w g rs rd vl vm ms n S D log marks f h) {b : Nat} (e : vl.ownBlock = some b) : vm.ownBlock ≠ some b := fun e2 => by
  obtain ⟨c, hc⟩ := H.lg.obj e
  obtain ⟨c2, hc2⟩ := H.mr.obj e2
  rw [hc] at hc2
  simp at hc2
theorem Mm.im_lt (H : Mm w g rs rd vl vm ms n S D log marks f h) {m : Nat} (hm : m ∈ ms) : ∃ F, MapB w m F := by
  obtain ⟨i, hi⟩ := List.mem_iff_getElem?.1 hm
  have hil : i < marks.length := by rw [← H.len]; exact (List.getElem?_eq_some_iff.1 hi).1
  exact ⟨_, H.im i m _ hi (List.getElem?_eq_getElem hil)⟩
theorem Mm.own (H : Mm w g rs rd vl vm ms n S D log marks f h) {b : Nat} (hb : mSet g rs rd vl vm b) : ¬ b ∈ ms := fun hm => by
  obtain ⟨F, hF⟩ := H.im_lt hm
  rcases hb with rfl | rfl | rfl | e | e
  · exact map_ne hF H.blk rfl
  · exact (H.out _ hm).1 rfl
  · exact (H.out _ hm).2 rfl
  · obtain ⟨c, hc⟩ := H.lg.obj e; exact map_ne hF hc rfl
  · obtain ⟨c, hc⟩ := H.mr.obj e; exact map_ne hF hc rfl
/-- Cells of the member's own block alone are turned. -/
theorem Mm.flags (H : Mm w g rs rd vl vm ms n S D log marks f h) (f' h' : Bool) (ht : Turn (fun b => b = g) w w') (hb : Blk w' g 58 (mbC7 n rs rd vl vm f' h')) : Mm w' g rs rd vl vm ms n S D log marks f' h' where
  blk := hb
  pos := H.pos
  seen := H.seen.turn ht fun e => H.g_rs e.symm
  dur := H.dur.turn ht fun e => H.g_rd e.symm
  lg := H.lg.turn ht fun b e e2 => H.l_g (by rw [e, e2])
  mr := H.mr.turn ht fun b e e2 => H.m_g (by rw [e, e2])
  len := H.len
  im i m F h1 h2 := (H.im i m F h1 h2).turn ht fun e => map_ne (H.im i m F h1 h2) H.blk e.symm
  ne := H.ne
  out := H.out
end
def Rep (w : World) (g : Nat) (M I : Nat → Prop) (k : Nat) (st : St) : Prop := ∃ rs rd vl vm ms, Mm w g rs rd vl vm ms st.n (MbM.seen st) st.dur st.log st.marks st.fails st.hurt ∧
  (st.log.length ≤ k ∧ st.marks.length ≤ 64 ∧ st.n ≤ 65536) ∧ M = mSet g rs rd vl vm ∧ I = fun b => b ∈ ms
/-- What a call leaves of a member. -/
theorem Rep.out {w w' : World} {g rs rd : Nat} {vl vm : Value} {ms : List Nat} {rs' rd' : Nat} {vl' vm' : Value} {ms' : List Nat} {k : Nat} {st' : St}
    (H : Mm w' g rs' rd' vl' vm' ms' st'.n (MbM.seen st') st'.dur st'.log st'.marks st'.fails st'.hurt) (hk : st'.log.length ≤ k ∧ st'.marks.length ≤ 64 ∧ st'.n ≤ 65536)
    (hM : ∀ b, mSet g rs' rd' vl' vm' b → mSet g rs rd vl vm b ∨ w.heap.size ≤ b) (hI : ∀ b, b ∈ ms' → b ∈ ms ∨ w.heap.size ≤ b) (ht : Turn (mSet g rs rd vl vm) w w') :
    outP Rep w g (mSet g rs rd vl vm) (fun b => b ∈ ms) k st' w' :=
  ⟨_, _, ⟨rs', rd', vl', vm', ms', H, hk, rfl, rfl⟩, hM, fun b e => .inr (hI b e), ht⟩
theorem Rep.same {w w' : World} {g : Nat} {M I : Nat → Prop} {k : Nat} {st : St} (h : Rep w g M I k st) (hb : Below w.heap.size w w') : outP Rep w g M I k st w' := by
  obtain ⟨rs, rd, vl, vm, ms, H, hk, rfl, rfl⟩ := h
  exact Rep.out (H.below hb) hk (fun b e => .inl e) (fun b e => .inl e) (Turn.of_new hb)
section
variable {ops : Array Oper} {Q : Exit → Act → World → Prop} {a : Act} {w : World} {rest : List Oper} {dst : Option Tmp} {ty : TypeId} {pos : String} {after : Array Edge}
theorem wmkM {T : TypeId} (h : wpList Try.prog ops Q rest (a.put dst (.map (some w.heap.size))) (w.alloc (.map #[] 0))) :
    wpList Try.prog ops Q (⟨dst, .makeMap T none, ty, pos, after, none⟩ :: rest) a w := by
  have hr : (Instr.makeMap T none).run Try.prog w = .ok (.map (some w.heap.size)) (w.alloc (.map #[] 0)) := by
    simp [Instr.makeMap, go_sem, Result.andThen]
  refine wpList_plain rfl fun K hK => ?_
  unfold Oper.wp execOp
  simp only [Option.map_none, Sem.run_bind, hr, Result.andThen_ok, Sem.run_pure]
  exact hK _ _ h
end
theorem built_new (n : Int) (r1 r2 : Nat) : Try.prog.built 58 [(0, .int .i64 n), (1, .map (some r1)), (2, .map (some r2))] = some (mbC7 n r1 r2 (.slice none 0 0) (.slice none 0 0) false false) := by kernel_rfl
section
variable {ops : Array Oper} {Q : Exit → Act → World → Prop} {a : Act} {w : World} {rest : List Oper} {dst : Option Tmp} {ty : TypeId} {pos : String} {after : Array Edge} {x y z : Operand} {n : Int} {r1 r2 : Nat}
theorem bldMb (hx : a.eval x = .int .i64 n) (hy : a.eval y = .map (some r1)) (hz : a.eval z = .map (some r2)) (hk : wpList Try.prog ops Q rest (a.put dst (.agg (mbC7 n r1 r2 (.slice none 0 0) (.slice none 0 0) false false))) w) :
    wpList Try.prog ops Q (⟨dst, .build 58 #[(0, x), (1, y), (2, z)], ty, pos, after, none⟩ :: rest) a w := by
  have hr : (Instr.build 58 #[(0, .int .i64 n), (1, .map (some r1)), (2, .map (some r2))]).run Try.prog w = .ok (.agg (mbC7 n r1 r2 (.slice none 0 0) (.slice none 0 0) false false)) w := run_build w _ _ _ (built_new n r1 r2)
  refine wpList_plain rfl fun K hK => ?_
  unfold Oper.wp execOp
  simp [hx, hy, hz, hr, Result.andThen]
  exact hK _ _ hk
end
theorem new_any (n : Int) (h1 : 1 ≤ n) (h2 : n ≤ 65536) (w : World) : Calls Try.prog 10 #[.int .i64 n] w fun e w' => ∃ g M I, e = .returned (.tuple #[at' g, .int .i64 0]) ∧ Rep w' g M I 0 (made n) ∧ (∀ b, M b ∨ I b → w.heap.size ≤ b) ∧ Below w.heap.size w w' := by
  have t1 : decide (n < 1) = false := by simp; omega
  have t2 : decide ((65536 : Int) < n) = false := by simp; omega
  go_enter Try.func10, Try.ntmps10
  go_wp2_with (first | (with_reducible apply wmkM) | ((with_reducible apply bldMb); rfl; rfl; rfl))
  go_ret2
  refine ⟨w.heap.size + 2, mSet (w.heap.size + 2) w.heap.size (w.heap.size + 1) (.slice none 0 0) (.slice none 0 0), fun b => b ∈ [], by simp [at'], ?_, ?_, ?_⟩
  · refine ⟨w.heap.size, w.heap.size + 1, _, _, [], ?_, ⟨Nat.zero_le _, Nat.zero_le _, h2⟩, rfl, rfl⟩
    have m0 := MapB.new w
    have m1 : MapB ((w.alloc (.map #[] 0)).alloc (.map #[] 0)) (w.heap.size + 1) fun _ => zero := by
      have := MapB.new (w.alloc (.map #[] 0))
      rwa [show (w.alloc (.map #[] 0)).heap.size = w.heap.size + 1 by simp] at this
    have hb : ∀ (w : World) (o : Obj), Below w.heap.size w (w.alloc o) := fun w o => (Below.refl _ _).alloc (Nat.le_refl _) _
    exact ⟨Blk.top rfl (by simp), by show 0 < n; omega, (m0.below (hb _ _)).below (hb _ _), m1.below (hb _ _), OwnX.nil _ _ _ _ _, OwnX.nil _ _ _ _ _, rfl, fun i m F h => by simp at h, by omega, fun m h => by simp at h⟩
  · intro b hb
    rcases hb with (rfl | rfl | rfl | e | e) | e
    · omega
    · omega
    · omega
    · cases e
    · cases e
    · cases e
  · exact (((Below.refl _ _).alloc (Nat.le_refl _) _).alloc (by simp) _).alloc (by simp; omega) _
theorem bad_any (n : Int) (hn : ¬ (1 ≤ n ∧ n ≤ 65536)) (w : World) : Calls Try.prog 10 #[.int .i64 n] w fun e w' => e = .returned (.tuple #[.pointer none, .int .i64 2]) ∧ Below w.heap.size w w' := by
  by_cases h1 : n < 1
  · have t1 : decide (n < 1) = true := by simp; omega
    clear hn
    go_enter Try.func10, Try.ntmps10
    go_wp2_with fail
    go_ret2
    exact ⟨rfl, Below.refl _ _⟩
  · have t1 : decide (n < 1) = false := by simp; omega
    have t2 : decide ((65536 : Int) < n) = true := by simp; omega
    clear hn
    go_enter Try.func10, Try.ntmps10
    go_wp2_with fail
    go_ret2
    exact ⟨rfl, Below.refl _ _⟩
section
variable {w : World} {g rs rd : Nat} {vl vm : Value} {ms : List Nat} {n : Int} {S D : Img} {log : List Pt} {marks : List Img} {f h : Bool}
set_option maxRecDepth 100000 in
theorem read2_any (H : Mm w g rs rd vl vm ms n S D log marks f h) (i : Int) (q : Bool) (hq : decide (0 ≤ i ∧ i < n) = q) :
    Calls Try.prog 26 #[at' g, .int .i64 i] w fun e w' => e = .returned (.tuple #[.agg (ar 64 (if q then (if f then zero else S i) else zero)), .int .i64 (if q then (if f then 10 else 0) else 2)]) ∧ Below w.heap.size w w' := by
  have HH := hid H
  have HQ := hid hq
  unfold at'
  clear H hq
  go_enter Try.func26, Try.ntmps26
  go_upto_region 1 with (with_reducible apply alA tSe)
  generalize hw1 : World.alloc w _ = w1
  have b1 := hid (show Blk w1 w.heap.size 32 (ar 64 fun _ => 0) by rw [← hw1]; exact Blk.new _ _ _)
  have BEL := hid (show Below w.heap.size w w1 by rw [← hw1]; exact (Below.refl _ _).alloc (Nat.le_refl _) _)
  have H1 := hid (HH.out.below BEL.out)
  clear hw1 HH
  have p0 : w1.cell? ⟨g, 0, none⟩ = some (.int .i64 n) := H1.out.blk.cell 0
  have p5 : w1.cell? ⟨g, 5, none⟩ = some (.bool f) := H1.out.blk.cell 5
  have hn := hid H1.out.pos
  go_wp2_with fail
  refine (reach_any g n hn.out i q f HQ.out w1 p0 p5).mono ?_
  rintro e w' ⟨rfl, rfl⟩
  cases q with
  | false =>
    have bz := b1.out.setRow_same (ar 64 fun _ => 0)
    have bb := hid (below_setRow BEL.out (Nat.le_refl w.heap.size) (ar 64 fun _ => 0))
    go_wp2_with (first | ((with_reducible apply bldZr (n := 64)); kernel_rfl) | ((with_reducible apply stA tSe); rfl; rfl; exact b1.out))
    apply retA tSe Try.results26
    · rfl
    · rfl
    · rfl
    · exact bz
    · exact ⟨rfl, bb.out⟩
  | true =>
    cases f with
    | true =>
      have bz := b1.out.setRow_same (ar 64 fun _ => 0)
      have bb := hid (below_setRow BEL.out (Nat.le_refl w.heap.size) (ar 64 fun _ => 0))
      go_wp2_with (first | ((with_reducible apply bldZr (n := 64)); kernel_rfl) | ((with_reducible apply stA tSe); rfl; rfl; exact b1.out))
      apply retA tSe Try.results26
      · rfl
      · rfl
      · rfl
      · exact bz
      · exact ⟨rfl, bb.out⟩
    | false =>
      have p1 : w1.cell? ⟨g, 1, none⟩ = some (.map (some rs)) := H1.out.blk.cell 1
      have bz := b1.out.setRow_same (ar 64 (S i))
      have bb := hid (below_setRow BEL.out (Nat.le_refl w.heap.size) (ar 64 (S i)))
      go_wp2_with (first | ((with_reducible apply wlookM); rfl; rfl; exact H1.out.seen) | ((with_reducible apply stA tSe); rfl; rfl; exact b1.out))
      apply retA tSe Try.results26
      · rfl
      · rfl
      · rfl
      · exact bz
      · exact ⟨rfl, bb.out⟩
set_option maxRecDepth 100000 in
theorem look2_any (H : Mm w g rs rd vl vm ms n S D log marks f h) (i : Int) (q : Bool) (hq : decide (0 ≤ i ∧ i < n) = q) :
    Calls Try.prog 29 #[at' g, .int .i64 i] w fun e w' => e = .returned (.tuple #[.agg (ar 64 (if q then D i else zero)), .int .i64 (if q then 0 else 2)]) ∧ Below w.heap.size w w' := by
  have HH := hid H
  have HQ := hid hq
  unfold at'
  clear H hq
  go_enter Try.func29, Try.ntmps29
  go_upto_region 1 with (with_reducible apply alA tSe)
  generalize hw1 : World.alloc w _ = w1
  have b1 := hid (show Blk w1 w.heap.size 32 (ar 64 fun _ => 0) by rw [← hw1]; exact Blk.new _ _ _)
  have BEL := hid (show Below w.heap.size w w1 by rw [← hw1]; exact (Below.refl _ _).alloc (Nat.le_refl _) _)
  have H1 := hid (HH.out.below BEL.out)
  clear hw1 HH
  have p0 : w1.cell? ⟨g, 0, none⟩ = some (.int .i64 n) := H1.out.blk.cell 0
  have hn := hid H1.out.pos
  go_wp2_with fail
  refine (find2_any g n hn.out i q HQ.out w1 p0).mono ?_
  rintro e w' ⟨rfl, rfl⟩
  cases q with
  | false =>
    have bz := b1.out.setRow_same (ar 64 fun _ => 0)
    have bb := hid (below_setRow BEL.out (Nat.le_refl w.heap.size) (ar 64 fun _ => 0))
    go_wp2_with (first | ((with_reducible apply bldZr (n := 64)); kernel_rfl) | ((with_reducible apply stA tSe); rfl; rfl; exact b1.out))
    apply retA tSe Try.results29
    · rfl
    · rfl
    · rfl
    · exact bz
    · exact ⟨rfl, bb.out⟩
  | true =>
    have p1 : w1.cell? ⟨g, 2, none⟩ = some (.map (some rd)) := H1.out.blk.cell 2
    have bz := b1.out.setRow_same (ar 64 (D i))
    have bb := hid (below_setRow BEL.out (Nat.le_refl w.heap.size) (ar 64 (D i)))
    go_wp2_with (first | ((with_reducible apply wlookM); rfl; rfl; exact H1.out.dur) | ((with_reducible apply stA tSe); rfl; rfl; exact b1.out))
    apply retA tSe Try.results29
    · rfl
    · rfl
    · rfl
    · exact bz
    · exact ⟨rfl, bb.out⟩
theorem touched2_any (H : Mm w g rs rd vl vm ms n S D log marks f h) : Calls Try.prog 22 #[at' g] w fun e w' => e = .returned (.bool h) ∧ w = w' := by
  have p0 : w.cell? ⟨g, 0, none⟩ = some (.int .i64 n) := H.blk.cell 0
  have p6 : w.cell? ⟨g, 6, none⟩ = some (.bool h) := H.blk.cell 6
  have hn := hid H.pos
  unfold at'
  clear H
  go_enter Try.func22, Try.ntmps22
  go_wp2_with fail
  refine (made_any g n hn.out w p0).mono ?_
  rintro e w' ⟨rfl, rfl⟩
  go_wp2_with fail
  go_ret
  exact ⟨rfl, rfl⟩
theorem len2_any (H : Mm w g rs rd vl vm ms n S D log marks f h) : Calls Try.prog 30 #[at' g] w fun e w' => e = .returned (.int .i64 n) ∧ w = w' := by
  have p0 : w.cell? ⟨g, 0, none⟩ = some (.int .i64 n) := H.blk.cell 0
  have hn := hid H.pos
  unfold at'
  clear H
  go_enter Try.func30, Try.ntmps30
  go_wp2_with fail
  refine (made_any g n hn.out w p0).mono ?_
  rintro e w' ⟨rfl, rfl⟩
  go_wp2_with fail
  go_ret
  exact ⟨rfl, rfl⟩
theorem unflushed2_any (H : Mm w g rs rd vl vm ms n S D log marks f h) : Calls Try.prog 24 #[at' g] w fun e w' => e = .returned (.int .i64 (log.length : Nat)) ∧ w = w' := by
  have p0 : w.cell? ⟨g, 0, none⟩ = some (.int .i64 n) := H.blk.cell 0
  obtain ⟨A, c, e, _⟩ := H.lg.sli atL_len
  have p3 : w.cell? ⟨g, 3, none⟩ = some (.slice A log.length c) := by rw [← e]; exact H.blk.cell 3
  have hn := hid H.pos
  unfold at'
  clear H e
  go_enter Try.func24, Try.ntmps24
  go_wp2_with fail
  refine (made_any g n hn.out w p0).mono ?_
  rintro e w' ⟨rfl, rfl⟩
  go_wp2_with fail
  go_ret
  exact ⟨rfl, rfl⟩
theorem fail2_any (H : Mm w g rs rd vl vm ms n S D log marks f h) (q : Bool) : Calls Try.prog 25 #[at' g, .bool q] w fun e w' => e = .returned (.int .i64 0) ∧ Mm w' g rs rd vl vm ms n S D log marks q (h || q) ∧ Turn (fun b => b = g) w w' := by
  have p0 : w.cell? ⟨g, 0, none⟩ = some (.int .i64 n) := H.blk.cell 0
  have HH := hid H
  have hn := hid H.pos
  have fz := H.blk.frozen 5
  have p5 : w.cell? ⟨g, 5, none⟩ = some (.bool f) := H.blk.cell 5
  unfold at'
  clear H
  go_enter Try.func25, Try.ntmps25
  go_wp2_with fail
  refine (made_any g n hn.out w p0).mono ?_
  rintro e w' ⟨rfl, rfl⟩
  go_upto_region 4 with fail
  have b1 : Blk (w.setCell ⟨g, 5, none⟩ (.bool q)) g 58 (mbC7 n rs rd vl vm q h) := HH.out.blk.setCell_same 5 (.bool q)
  have tu := Turn.setCell (S := fun b => b = g) w ⟨g, 5, none⟩ (.bool q) rfl
  have H1 := hid (HH.out.flags q h tu b1)
  have TU := hid tu
  generalize World.setCell w _ _ = w1 at H1 TU ⊢
  have p6 : w1.cell? ⟨g, 6, none⟩ = some (.bool h) := H1.out.blk.cell 6
  have fz := H1.out.blk.frozen 6
  have b2 : Blk (w1.setCell ⟨g, 6, none⟩ (.bool (h || q))) g 58 (mbC7 n rs rd vl vm q (h || q)) := H1.out.blk.setCell_same 6 (.bool (h || q))
  have tu2 := Turn.setCell (S := fun b => b = g) w1 ⟨g, 6, none⟩ (.bool (h || q)) rfl
  have hfin := hid (And.intro (H1.out.flags q (h || q) tu2 b2) (TU.out.trans tu2 fun _ e => .inl e))
  clear HH b1 tu H1 TU b2 tu2
  cases h with
  | false =>
    go_wp2_with fail
    go_ret
    exact ⟨rfl, hfin.out⟩
  | true =>
    go_wp2_with fail
    go_ret
    exact ⟨rfl, hfin.out⟩
theorem clean2_any (H : Mm w g rs rd vl vm ms n S D log marks f h) : Calls Try.prog 28 #[at' g] w fun e w' => e = .returned (.tuple #[]) ∧ Mm w' g rs rd vl vm ms n S D log marks f false ∧ Turn (fun b => b = g) w w' := by
  have p0 : w.cell? ⟨g, 0, none⟩ = some (.int .i64 n) := H.blk.cell 0
  have hn := hid H.pos
  have fz := H.blk.frozen 6
  have p6 : w.cell? ⟨g, 6, none⟩ = some (.bool h) := H.blk.cell 6
  have b2 : Blk (w.setCell ⟨g, 6, none⟩ (.bool false)) g 58 (mbC7 n rs rd vl vm f false) := H.blk.setCell_same 6 (.bool false)
  have tu2 := Turn.setCell (S := fun b => b = g) w ⟨g, 6, none⟩ (.bool false) rfl
  have hfin := hid (And.intro (H.flags f false tu2 b2) tu2)
  unfold at'
  clear H b2 tu2
  go_enter Try.func28, Try.ntmps28
  go_wp2_with fail
  refine (made_any g n hn.out w p0).mono ?_
  rintro e w' ⟨rfl, rfl⟩
  go_wp2_with fail
  go_end0
  exact ⟨rfl, hfin.out⟩
end
end MbO
end Go.Proofs.Yteglhalninlapaa
set_option maxRecDepth 100000
namespace Go.Proofs.Yteglhalninlapaa
open Go.ChangeShapes Go.WideShapes Go.ChangeAt Go.RowKit
attribute [local go_sem] Gives
namespace MbO
open MbM MbP
def keptB (l : List Pt) (q : Nat → Bool) (n : Nat) : List Pt := (List.range n).flatMap fun k => if q k then l[k]?.toList else []
theorem keptB_step (l : List Pt) (q : Nat → Bool) (k : Nat) : keptB l q (k + 1) = keptB l q k ++ (if q k then l[k]?.toList else []) := by
  unfold keptB
  rw [List.range_succ, List.flatMap_append, List.flatMap_singleton]
theorem keptB_yes {l : List Pt} {q : Nat → Bool} {k : Nat} {p : Pt} (hp : l[k]? = some p) (h : q k = true) : keptB l q (k + 1) = keptB l q k ++ [p] := by
  rw [keptB_step, if_pos h, hp]; rfl
theorem keptB_no {l : List Pt} {q : Nat → Bool} {k : Nat} (h : q k = false) : keptB l q (k + 1) = keptB l q k := by
  rw [keptB_step, if_neg (by simp [h]), List.append_nil]
theorem keptB_all (l : List Pt) : ∀ n, n ≤ l.length → keptB l (fun _ => true) n = l.take n
  | 0, _ => by rw [List.take_zero]; rfl
  | n + 1, h => by
    rw [keptB_yes (p := l[n]) (List.getElem?_eq_getElem (by omega)) rfl, keptB_all l n (by omega), List.take_add_one, List.getElem?_eq_getElem (by omega)]; rfl
theorem keptB_picks (l : List Pt) (picks : List Nat) (n : Nat) : keptB l (fun k => decide (picks.getD k 0 ≠ 0)) n = keptN l picks n := by
  unfold keptB keptN
  congr 1
  funext k
  by_cases e : picks.getD k 0 = 0
  · rw [if_neg (by rw [decide_eq_true_eq]; exact fun h => h e), if_pos e]
  · rw [if_pos (by simp only [decide_eq_true_eq]; exact e), if_neg e]
theorem app_out {i : Int} : ∀ {l : List Pt} {d : Img}, (∀ p ∈ l, p.i ≠ i) → app d l i = d i
  | [], d, _ => rfl
  | p :: l, d, h => by
    rw [app_cons, app_out fun q hq => h q (List.mem_cons_of_mem _ hq)]
    unfold upd
    rw [if_neg fun e => h p List.mem_cons_self e.symm]
theorem app_in {i : Int} {x : Nat → Nat} : ∀ {l : List Pt} {d : Img}, (∀ p ∈ l, p.i = i → p.s = x) → (∃ p ∈ l, p.i = i) → app d l i = x
  | [], d, _, ⟨p, hp, _⟩ => by cases hp
  | p :: l, d, h, he => by
    rw [app_cons]
    by_cases e : ∃ q ∈ l, q.i = i
    · exact app_in (fun q hq => h q (List.mem_cons_of_mem _ hq)) e
    · rw [app_out fun q hq hi => e ⟨q, hq, hi⟩]
      obtain ⟨q, hq, hi⟩ := he
      rcases List.mem_cons.1 hq with rfl | hq
      · unfold upd
        rw [if_pos hi.symm]
        exact h q List.mem_cons_self hi
      · exact absurd ⟨q, hq, hi⟩ e
/-- What is seen, once each place of an unflushed write has what is durable there. -/
theorem resee {d : Img} {l k : List Pt} (hk : ∀ p ∈ k, p ∈ l) : app (app d l) (l.map fun p => ⟨p.i, app d k p.i⟩) = app d k := by
  funext i
  by_cases h : ∃ p ∈ l, p.i = i
  · obtain ⟨p, hp, hi⟩ := h
    refine app_in (fun q hq e => ?_) ⟨⟨p.i, app d k p.i⟩, List.mem_map.2 ⟨p, hp, rfl⟩, hi⟩
    obtain ⟨p2, _, rfl⟩ := List.mem_map.1 hq
    show app d k p2.i = app d k i
    rw [show p2.i = i from e]
  · rw [app_out fun q hq e => ?_, app_out fun p hp e => h ⟨p, hp, e⟩, app_out fun p hp e => h ⟨p, hk p hp, e⟩]
    obtain ⟨p2, hp2, rfl⟩ := List.mem_map.1 hq
    exact h ⟨p2, hp2, e⟩
theorem keptB_mem {l : List Pt} {q : Nat → Bool} {n : Nat} : ∀ p ∈ keptB l q n, p ∈ l := fun p h => by
  unfold keptB at h
  obtain ⟨k, _, hk⟩ := List.mem_flatMap.1 h
  split at hk
  · cases e : l[k]? with
    | none => rw [e] at hk; cases hk
    | some x =>
      rw [e] at hk
      simp only [Option.toList_some, List.mem_singleton] at hk
      subst hk
      exact List.mem_of_getElem? e
  · cases hk
section
variable {w w' : World} {g rs rd : Nat} {vl vm : Value} {ms : List Nat} {n : Int} {S D S' D' : Img} {log : List Pt} {marks : List Img} {f h : Bool}
theorem Mm.setD (H : Mm w g rs rd vl vm ms n S D log marks f h) (ht : Turn (fun b => b = rd) w w') (hd : MapB w' rd D') : Mm w' g rs rd vl vm ms n S D' log marks f h where
  blk := H.blk.turn ht H.g_rd
  pos := H.pos
  seen := H.seen.turn ht H.ne
  dur := hd
  lg := H.lg.turn ht fun b e e2 => H.l_rd (by rw [e, e2])
  mr := H.mr.turn ht fun b e e2 => H.m_rd (by rw [e, e2])
  len := H.len
  im i m F h1 h2 := (H.im i m F h1 h2).turn ht fun e => (H.out m (List.mem_of_getElem? h1)).2 e
  ne := H.ne
  out := H.out
theorem Mm.setS (H : Mm w g rs rd vl vm ms n S D log marks f h) (ht : Turn (fun b => b = rs) w w') (hs : MapB w' rs S') : Mm w' g rs rd vl vm ms n S' D log marks f h where
  blk := H.blk.turn ht H.g_rs
  pos := H.pos
  seen := hs
  dur := H.dur.turn ht H.ne.symm
  lg := H.lg.turn ht fun b e e2 => H.l_rs (by rw [e, e2])
  mr := H.mr.turn ht fun b e e2 => H.m_rs (by rw [e, e2])
  len := H.len
  im i m F h1 h2 := (H.im i m F h1 h2).turn ht fun e => (H.out m (List.mem_of_getElem? h1)).1 e
  ne := H.ne
  out := H.out
/-- The unflushed writes let go of. -/
theorem Mm.noLog (H : Mm w g rs rd vl vm ms n S D log marks f h) : Mm (w.setCell ⟨g, 3, none⟩ (.slice none 0 0)) g rs rd (.slice none 0 0) vm ms n S D [] marks f h where
  blk := H.blk.setCell_same 3 _
  pos := H.pos
  seen := H.seen.turn (Turn.setCell (S := fun b => b = g) w ⟨g, 3, none⟩ _ rfl) fun e => H.g_rs e.symm
  dur := H.dur.turn (Turn.setCell (S := fun b => b = g) w ⟨g, 3, none⟩ _ rfl) fun e => H.g_rd e.symm
  lg := OwnX.nil _ _ _ _ _
  mr := H.mr.turn (Turn.setCell (S := fun b => b = g) w ⟨g, 3, none⟩ _ rfl) fun b e e2 => H.m_g (by rw [e, e2])
  len := H.len
  im i m F h1 h2 := (H.im i m F h1 h2).turn (Turn.setCell (S := fun b => b = g) w ⟨g, 3, none⟩ _ rfl) fun e => map_ne (H.im i m F h1 h2) H.blk e.symm
  ne := H.ne
  out := H.out
end
section
variable {ops : Array Oper} {Q : Exit → Act → World → Prop} {a : Act} {w : World} {rest : List Oper} {dst : Option Tmp} {ty T : TypeId} {pos : String} {after : Array Edge} {z : Array Value} {C : World → Prop} {Qk : Act → Prop} {gd : Option (Nat × Bool)} {m x : Operand} {r : Nat} {i : Int} {F : Img}
theorem alZ (hz : ∀ w, (zeroValue T).run Try.prog w = .ok (.agg z) w) (h : wpList Try.prog ops Q rest (a.put dst (.pointer (some ⟨w.heap.size, 0, none⟩))) (w.alloc (.cells z T))) :
    wpList Try.prog ops Q (⟨dst, .alloc T, ty, pos, after, none⟩ :: rest) a w := by
  have hr : (Instr.alloc T true (.tuple #[])).run Try.prog w = .ok (.pointer (some ⟨w.heap.size, 0, none⟩)) (w.alloc (.cells z T)) := by
    simp [Instr.alloc, Sem.run_bind, hz w, newVar, newRow, Value.cells]
  refine wpList_plain rfl fun K hK => ?_
  unfold Oper.wp execOp
  simp only [Sem.run_bind, hr, Result.andThen_ok, Sem.run_pure]
  exact hK _ _ h
theorem klookM (hwt : Region.wanted ⟨dst, .lookup 54 m x false, ty, pos, after, gd⟩ (yielded ops a.tmps) = true) (hm : a.eval m = .map (some r)) (hx : a.eval x = .int .i64 i) (h : ∀ w, C w → MapB w r F)
    (hk : wpK Try.prog ops C Qk rest (a.put dst (.agg (ar 64 (F i))))) : wpK Try.prog ops C Qk (⟨dst, .lookup 54 m x false, ty, pos, after, gd⟩ :: rest) a :=
  wpK_val hwt (fun w hw => gives_value (w' := w) (by simp [execOp, hm, hx, run_look (h w hw) i, Result.andThen]) hw) hk
end
theorem cf_yes (args : Array Value) (w : World) : (callFunc 52 args).run Try.prog w = .ok (.enter 52 args) w := by
  simp [callFunc, Try.func52, Try.f52]
theorem cf_pick (args : Array Value) (w : World) : (callFunc 48 args).run Try.prog w = .ok (.enter 48 args) w := by
  simp [callFunc, Try.func48, Try.f48]
theorem zWr (w : World) : (zeroValue 77).run Try.prog w = .ok (.agg (atL ⟨0, zero⟩).toArray) w := (zero_of_info (P := Try.prog) (t := 77) (v := .agg (atL ⟨0, zero⟩).toArray) (n := 65) (by kernel_rfl)).1 w
theorem atL_size (p q : Pt) : (atL p).toArray.size = (atL q).toArray.size := by rw [List.size_toArray, List.size_toArray, atL_len, atL_len]
section
variable {w : World} {g rs rd : Nat} {vl vm : Value} {ms : List Nat} {n : Int} {S D : Img} {log : List Pt} {marks : List Img} {f h : Bool}
set_option maxHeartbeats 1000000 in
set_option maxRecDepth 100000 in
theorem settle_any (fn : FuncId) (cap : Array Value) (q : Nat → Bool) (hcf : ∀ args w, (callFunc fn args).run Try.prog w = .ok (.enter fn args) w) (H : Mm w g rs rd vl vm ms n S D log marks f h) (hlen : log.length ≤ 1000000)
    (hq : ∀ (k : Nat) w1, k < log.length → Turn (fun b => b = rd) w w1 → Calls Try.prog fn (#[.int .i64 k] ++ cap) w1 fun e w' => e = .returned (.bool (q k)) ∧ w1 = w') :
    Calls Try.prog 47 #[at' g, .func (.func fn) #[] cap] w fun e w' => ∃ E, E = app D (keptB log q log.length) ∧ e = .returned (.tuple #[]) ∧
      Mm w' g rs rd (.slice none 0 0) vm ms n (app S (log.map fun p => ⟨p.i, E p.i⟩)) E [] marks f h ∧ Turn (fun b => b = g ∨ b = rs ∨ b = rd) w w' := by
  obtain ⟨A, c, rfl, _⟩ := H.lg.sli atL_len
  have HH := hid H
  have HQ := hid hq
  have p3 : w.cell? ⟨g, 3, none⟩ = some (.slice A log.length c) := H.blk.cell 3
  unfold at'
  clear H hq
  go_enter Try.func47, Try.ntmps47
  go_wp2_with fail
  go_loopw [13] (fun u wr => ∃ k : Nat, u = .int .i64 k ∧ k ≤ log.length ∧ Hid (Mm wr g rs rd (.slice A log.length c) vm ms n S (app D (keptB log q k)) log marks f h) ∧ Hid (Turn (fun b => b = rd) w wr)) (fun u _ => log.length - (intOf u).toNat)
  case atStart => exact ⟨0, rfl, Nat.zero_le _, hid HH.out, hid (Turn.refl _ _)⟩
  case round =>
    obtain ⟨k, rfl, hk, hM, hT⟩ := hrel
    by_cases hgo : k < log.length
    · have t1 : (k : Int) < (log.length : Int) := by omega
      obtain ⟨p, hp⟩ : ∃ p, log[k]? = some p := ⟨_, List.getElem?_eq_getElem hgo⟩
      obtain ⟨A', c', e', sl⟩ := hM.out.lg.sli atL_len
      cases e'
      obtain ⟨b, o, rfl, _, hbl, hr⟩ := sl.some hp
      have HR := hid hr
      have HP := hid hp
      clear sl hr hp
      go_upto_region 3 with (first
        | ((with_reducible apply ldR (cs := (atL p).toArray) (tWr p)); rfl; exact HR.out)
        | (with_reducible apply alZ zWr)
        | ((with_reducible apply stR (tWr p)); rfl; rfl; exact Blk.new _ _ _; exact atL_size _ _; exact at_one p))
      generalize hw2 : World.setRow _ _ _ = w2
      have b2 := hid (show Blk w2 wr.heap.size 77 (atL p).toArray by rw [← hw2]; exact (Blk.new wr _ _).setRow_same _)
      have h2 := hid (show Below wr.heap.size wr w2 by rw [← hw2]; exact below_setRow ((Below.refl _ _).alloc (Nat.le_refl _) _) (Nat.le_refl _) _)
      have M2 := hid (hM.out.below h2.out)
      have T2 := hid (show Turn (fun b => b = rd) w w2 from hT.out.trans (Turn.of_new (S := fun b => b = rd) h2.out) fun _ e => .inl e)
      clear hw2 hM hT h2 HR
      go_wp2_with fail
      refine (HQ.out k w2 hgo T2.out).mono ?_
      rintro e w3 ⟨rfl, rfl⟩
      obtain ⟨v, hv⟩ : ∃ v, v = q k := ⟨_, rfl⟩
      rw [← hv]
      have HV := hid hv.symm
      clear hv
      cases v with
      | false =>
        have hk1 := hid (show keptB log q (k + 1) = keptB log q k from keptB_no HV.out)
        go_wp2_with fail
        go_roundw
        case rel => exact ⟨k + 1, by go_num, by omega, hid (by rw [hk1.out]; exact M2.out), T2⟩
        case measure => simp [intOf] <;> omega
      | true =>
        have hk1 := hid (show app D (keptB log q (k + 1)) = upd (app D (keptB log q k)) ⟨p.i, p.s⟩ by rw [keptB_yes HP.out HV.out, app_snoc])
        go_upto_region 4 with fail
        refine wp_region_tail (C := fun w' => Below w2.heap.size w2 w') 8 (by kernel_rfl) (by kernel_rfl) (by kernel_rfl) (Below.refl _ _).drew ?_
        apply wpK_val
        · rfl
        · intro w' hw'
          go_simp
          first | exact rfl | exact ⟨rfl, hw'⟩
        simp only [Act.put, List.setIfInBounds_toArray, List.set_cons_succ, List.set_cons_zero]
        apply wpK_val
        · rfl
        · intro w' hw'
          go_simp
          first | exact rfl | exact ⟨rfl, hw'⟩
        simp only [Act.put, List.setIfInBounds_toArray, List.set_cons_succ, List.set_cons_zero]
        apply wpK_val
        · rfl
        · intro w' hw'
          go_simp
          first | exact rfl | exact ⟨rfl, hw'⟩
        simp only [Act.put, List.setIfInBounds_toArray, List.set_cons_succ, List.set_cons_zero]
        apply wpK_val
        · rfl
        · intro w' hw'
          have hcell := (M2.out.below hw').blk.cell 2
          go_simp
          first | exact rfl | exact ⟨rfl, hw'⟩
        simp only [Act.put, List.setIfInBounds_toArray, List.set_cons_succ, List.set_cons_zero]
        apply wpK_val
        · rfl
        · intro w' hw'
          go_simp
          first | exact rfl | exact ⟨rfl, hw'⟩
        simp only [Act.put, List.setIfInBounds_toArray, List.set_cons_succ, List.set_cons_zero]
        apply wpK_val
        · rfl
        · intro w' hw'
          have hcell := at_i ((b2.out.below hw' b2.out.lt).whole)
          go_simp
          first | exact rfl | exact ⟨rfl, hw'⟩
        simp only [Act.put, List.setIfInBounds_toArray, List.set_cons_succ, List.set_cons_zero]
        apply wpK_val
        · rfl
        · intro w' hw'
          go_simp
          first | exact rfl | exact ⟨rfl, hw'⟩
        simp only [Act.put, List.setIfInBounds_toArray, List.set_cons_succ, List.set_cons_zero]
        apply kldA tSe
        · rfl
        · rfl
        · exact fun w' hw' => at_s ((b2.out.below hw' b2.out.lt).whole)
        simp only [Act.put, List.setIfInBounds_toArray, List.set_cons_succ, List.set_cons_zero]
        intro w3 hC3
        have M3 := hid (M2.out.below hC3)
        have T3 := hid (T2.out.trans (Turn.of_new (S := fun b => b = rd) hC3) fun _ e => .inl e)
        clear b2 M2 T2 hC3
        go_wp2_with fail
        refine (put_any rd (app D (keptB log q k)) p.i p.s w3 M3.out.dur).mono ?_
        rintro e w4 ⟨rfl, m4, t4⟩
        have M4 := hid (M3.out.setD t4 m4)
        have T4 := hid (T3.out.trans t4 fun _ e => .inl e)
        clear M3 T3 m4 t4
        go_wp2_with fail
        go_roundw
        case rel => exact ⟨k + 1, by go_num, by omega, hid (by rw [hk1.out]; exact M4.out), T4⟩
        case measure => simp [intOf] <;> omega
    · have hkl : k = log.length := by omega
      subst hkl
      have t1 : ¬ log.length < log.length := by omega
      obtain ⟨E, hE⟩ : ∃ E, E = app D (keptB log q log.length) := ⟨_, rfl⟩
      have HE := hid hE
      rw [← hE] at hM
      have p3 : wr.cell? ⟨g, 3, none⟩ = some (.slice A log.length c) := hM.out.blk.cell 3
      clear HH HQ hgo hk hE
      go_wp2_with fail
      go_loopw [36] (fun u wr => ∃ k : Nat, u = .int .i64 k ∧ k ≤ log.length ∧ Hid (Mm wr g rs rd (.slice A log.length c) vm ms n (app S ((log.take k).map fun p => ⟨p.i, E p.i⟩)) E log marks f h) ∧ Hid (Turn (fun b => b = g ∨ b = rs ∨ b = rd) w wr)) (fun u _ => log.length - (intOf u).toNat)
      case atStart => exact ⟨0, rfl, Nat.zero_le _, hid (by rw [List.take_zero]; exact hM.out), hid (hT.out.mono fun _ e => .inr (.inr e))⟩
      case round =>
        clear hM hT
        obtain ⟨k, rfl, hk, hM, hT⟩ := hrel
        by_cases hgo : k < log.length
        · have t1 : (k : Int) < (log.length : Int) := by omega
          obtain ⟨p, hp⟩ : ∃ p, log[k]? = some p := ⟨_, List.getElem?_eq_getElem hgo⟩
          obtain ⟨A', c', e', sl⟩ := hM.out.lg.sli atL_len
          cases e'
          obtain ⟨b, o, rfl, _, hbl, hr⟩ := sl.some hp
          have HR := hid hr
          have hk1 := hid (show app S ((log.take (k + 1)).map fun p => ⟨p.i, E p.i⟩) = upd (app S ((log.take k).map fun p => ⟨p.i, E p.i⟩)) ⟨p.i, E p.i⟩ by
            rw [List.take_add_one, hp, Option.toList_some, List.map_append, List.map_cons, List.map_nil, app_snoc])
          clear sl hr hp
          go_upto_region 9 with (first
            | ((with_reducible apply ldR (cs := (atL p).toArray) (tWr p)); rfl; exact HR.out)
            | (with_reducible apply alZ zWr)
            | ((with_reducible apply stR (tWr p)); rfl; rfl; exact Blk.new _ _ _; exact atL_size _ _; exact at_one p))
          generalize hw2 : World.setRow _ _ _ = w3
          have b2 := hid (show Blk w3 wr.heap.size 77 (atL p).toArray by rw [← hw2]; exact (Blk.new wr _ _).setRow_same _)
          have h2 := hid (show Below wr.heap.size wr w3 by rw [← hw2]; exact below_setRow ((Below.refl _ _).alloc (Nat.le_refl _) _) (Nat.le_refl _) _)
          have M2 := hid (hM.out.below h2.out)
          have T2 := hid (show Turn (fun b => b = g ∨ b = rs ∨ b = rd) w w3 from hT.out.trans (Turn.of_new (S := fun b => b = g) h2.out) fun _ e => .inl (.inl e))
          clear hw2 hM hT h2 HR
          refine wp_region_tail (C := fun w' => Below w3.heap.size w3 w') 13 (by kernel_rfl) (by kernel_rfl) (by kernel_rfl) (Below.refl _ _).drew ?_
          apply wpK_val
          · rfl
          · intro w' hw'
            go_simp
            first | exact rfl | exact ⟨rfl, hw'⟩
          simp only [Act.put, List.setIfInBounds_toArray, List.set_cons_succ, List.set_cons_zero]
          apply wpK_val
          · rfl
          · intro w' hw'
            go_simp
            first | exact rfl | exact ⟨rfl, hw'⟩
          simp only [Act.put, List.setIfInBounds_toArray, List.set_cons_succ, List.set_cons_zero]
          apply wpK_val
          · rfl
          · intro w' hw'
            go_simp
            first | exact rfl | exact ⟨rfl, hw'⟩
          simp only [Act.put, List.setIfInBounds_toArray, List.set_cons_succ, List.set_cons_zero]
          apply wpK_val
          · rfl
          · intro w' hw'
            have hcell := (M2.out.below hw').blk.cell 1
            go_simp
            first | exact rfl | exact ⟨rfl, hw'⟩
          simp only [Act.put, List.setIfInBounds_toArray, List.set_cons_succ, List.set_cons_zero]
          apply wpK_val
          · rfl
          · intro w' hw'
            go_simp
            first | exact rfl | exact ⟨rfl, hw'⟩
          simp only [Act.put, List.setIfInBounds_toArray, List.set_cons_succ, List.set_cons_zero]
          apply wpK_val
          · rfl
          · intro w' hw'
            have hcell := at_i ((b2.out.below hw' b2.out.lt).whole)
            go_simp
            first | exact rfl | exact ⟨rfl, hw'⟩
          simp only [Act.put, List.setIfInBounds_toArray, List.set_cons_succ, List.set_cons_zero]
          apply wpK_val
          · rfl
          · intro w' hw'
            go_simp
            first | exact rfl | exact ⟨rfl, hw'⟩
          simp only [Act.put, List.setIfInBounds_toArray, List.set_cons_succ, List.set_cons_zero]
          apply wpK_val
          · rfl
          · intro w' hw'
            go_simp
            first | exact rfl | exact ⟨rfl, hw'⟩
          simp only [Act.put, List.setIfInBounds_toArray, List.set_cons_succ, List.set_cons_zero]
          apply wpK_val
          · rfl
          · intro w' hw'
            go_simp
            first | exact rfl | exact ⟨rfl, hw'⟩
          simp only [Act.put, List.setIfInBounds_toArray, List.set_cons_succ, List.set_cons_zero]
          apply wpK_val
          · rfl
          · intro w' hw'
            have hcell := (M2.out.below hw').blk.cell 2
            go_simp
            first | exact rfl | exact ⟨rfl, hw'⟩
          simp only [Act.put, List.setIfInBounds_toArray, List.set_cons_succ, List.set_cons_zero]
          apply wpK_val
          · rfl
          · intro w' hw'
            go_simp
            first | exact rfl | exact ⟨rfl, hw'⟩
          simp only [Act.put, List.setIfInBounds_toArray, List.set_cons_succ, List.set_cons_zero]
          apply wpK_val
          · rfl
          · intro w' hw'
            have hcell := at_i ((b2.out.below hw' b2.out.lt).whole)
            go_simp
            first | exact rfl | exact ⟨rfl, hw'⟩
          simp only [Act.put, List.setIfInBounds_toArray, List.set_cons_succ, List.set_cons_zero]
          apply klookM (r := rd) (i := p.i) (F := E)
          · rfl
          · rfl
          · rfl
          · exact fun w' hw' => (M2.out.below hw').dur
          simp only [Act.put, List.setIfInBounds_toArray, List.set_cons_succ, List.set_cons_zero]
          intro w4 hC4
          have M4 := hid (M2.out.below hC4)
          have T4 := hid (T2.out.trans (Turn.of_new (S := fun b => b = g) hC4) fun _ e => .inl (.inl e))
          clear b2 M2 T2 hC4
          go_wp2_with fail
          refine (put_any rs (app S ((log.take k).map fun p => ⟨p.i, E p.i⟩)) p.i (E p.i) w4 M4.out.seen).mono ?_
          rintro e w5 ⟨rfl, m5, t5⟩
          have M5 := hid (M4.out.setS t5 m5)
          have T5 := hid (T4.out.trans t5 fun _ e => .inl (.inr (.inl e)))
          clear M4 T4 m5 t5
          go_wp2_with fail
          go_roundw
          case rel => exact ⟨k + 1, by go_num, by omega, hid (by rw [hk1.out]; exact M5.out), T5⟩
          case measure => simp [intOf] <;> omega
        · have hkl : k = log.length := by omega
          subst hkl
          have t1 : ¬ log.length < log.length := by omega
          rw [List.take_length] at hM
          have p3 : wr.cell? ⟨g, 3, none⟩ = some (.slice A log.length c) := hM.out.blk.cell 3
          have fz := hM.out.blk.frozen 3
          have hfin := hid (And.intro hM.out.noLog (hT.out.trans (Turn.setCell (S := fun b => b = g) wr ⟨g, 3, none⟩ (.slice none 0 0) rfl) fun _ e => .inl (.inl e)))
          clear hM hT hgo hk
          go_wp2_with fail
          go_end0
          exact ⟨E, HE.out, rfl, hfin.out⟩
/-- What settle leaves, in the words of the document. -/
theorem sem_settle {st : St} {k : List Pt} (hk : ∀ p ∈ k, p ∈ st.log) : app (MbM.seen st) (st.log.map fun p => ⟨p.i, app st.dur k p.i⟩) = app st.dur k := resee hk
set_option maxHeartbeats 400000 in
theorem flush2_any (H : Mm w g rs rd vl vm ms n S D log marks f h) (hlen : log.length ≤ 1000000) :
    Calls Try.prog 27 #[at' g] w fun e w' => (f = true ∧ e = .returned (.int .i64 10) ∧ w = w') ∨ (f = false ∧ ∃ E, E = app D log ∧ e = .returned (.int .i64 0) ∧
      Mm w' g rs rd (.slice none 0 0) vm ms n (app S (log.map fun p => ⟨p.i, E p.i⟩)) E [] marks f h ∧ Turn (fun b => b = g ∨ b = rs ∨ b = rd) w w') := by
  have HH := hid H
  have hn := hid H.pos
  have hq := hid (show decide ((0 : Int) ≤ 0 ∧ 0 < n) = true by simp; exact H.pos)
  have p0 : w.cell? ⟨g, 0, none⟩ = some (.int .i64 n) := H.blk.cell 0
  have p5 : w.cell? ⟨g, 5, none⟩ = some (.bool f) := H.blk.cell 5
  unfold at'
  clear H
  go_enter Try.func27, Try.ntmps27
  go_wp2_with fail
  refine (reach_any g n hn.out 0 true f hq.out w p0 p5).mono ?_
  rintro e w' ⟨rfl, rfl⟩
  cases f with
  | true =>
    go_wp2_with fail
    go_ret
    exact ⟨rfl, rfl⟩
  | false =>
    go_wp2_with fail
    refine (settle_any 52 #[] (fun _ => true) cf_yes HH.out hlen fun k w1 _ _ => yes_any k w1).mono ?_
    rintro e w2 ⟨E, hE, rfl, M2, T2⟩
    have M2 := hid M2
    have T2 := hid T2
    have HE := hid (show E = app D log by rw [hE, keptB_all log _ (Nat.le_refl _), List.take_length])
    clear hE
    have M3 := hid (show Mm w2 g rs rd (.slice none 0 0) vm ms n (app S (log.map fun p => ⟨p.i, app D log p.i⟩)) (app D log) [] marks false h by have := M2.out; rw [HE.out] at this; exact this)
    go_wp2_with fail
    go_ret
    exact ⟨rfl, M3.out, T2.out⟩
set_option maxHeartbeats 400000 in
theorem crash2_any (H : Mm w g rs rd vl vm ms n S D log marks f h) (hlen : log.length ≤ 1000000) (P : Option Addr) (picks : List Nat) (pn pc : Nat) (hp : Arg w P picks pn pc) (hne : ∀ b o, 0 < picks.length → P = some ⟨b, o, none⟩ → b ≠ rd) :
    Calls Try.prog 18 #[at' g, .slice P pn pc] w fun e w' => ∃ E, E = app D (kept log picks) ∧ e = .returned (.int .i64 0) ∧
      Mm w' g rs rd (.slice none 0 0) vm ms n (app S (log.map fun p => ⟨p.i, E p.i⟩)) E [] marks f h ∧ Turn (fun b => b = g ∨ b = rs ∨ b = rd) w w' := by
  have HH := hid H
  have hn := hid H.pos
  have HP := hid hp
  have HN := hid hne
  unfold at'
  clear H hp hne
  go_enter Try.func18, Try.ntmps18
  go_upto_region 1 with fail
  generalize hw1 : World.alloc w _ = w1
  have b1 := hid (show Blk w1 w.heap.size 33 #[.slice P pn pc] by rw [← hw1]; exact Blk.new _ _ _)
  have BEL := hid (show Below w.heap.size w w1 by rw [← hw1]; exact (Below.refl _ _).alloc (Nat.le_refl _) _)
  have H1 := hid (HH.out.below BEL.out)
  have P1 := hid (HP.out.on BEL.out)
  have hgl := HH.out.dur.lt
  clear hw1 HP
  have p0 : w1.cell? ⟨g, 0, none⟩ = some (.int .i64 n) := H1.out.blk.cell 0
  go_wp2_with fail
  refine (made_any g n hn.out w1 p0).mono ?_
  rintro e w' ⟨rfl, rfl⟩
  go_wp2_with fail
  refine (settle_any 48 #[.pointer (some ⟨w.heap.size, 0, none⟩)] (fun k => decide (picks.getD k 0 ≠ 0)) cf_pick H1.out hlen fun k w2 _ ht => picked_any w.heap.size P picks pn pc k w2 ?_ ?_).mono ?_
  · exact (b1.out.turn ht (by omega)).cell 0
  · exact P1.out.turn ht fun b o h1 h2 => HN.out b o h1 h2
  rintro e w2 ⟨E, hE, rfl, M2, T2⟩
  have M2 := hid M2
  have T2 := hid ((Turn.of_new (S := fun b => b = g ∨ b = rs ∨ b = rd) BEL.out).trans T2 fun _ e => .inl e)
  have HE := hid (show E = app D (kept log picks) by rw [hE, keptB_picks]; rfl)
  clear hE
  go_wp2_with fail
  go_ret
  exact ⟨E, HE.out, rfl, M2.out, T2.out⟩
end
end MbO
end Go.Proofs.Yteglhalninlapaa
set_option maxRecDepth 100000
namespace Go.Proofs.Yteglhalninlapaa
open Go.RowKit
section
variable {P : Program} {ops : Array Oper}
/-- The operations in the order of the text, the k-th first. -/
def wpC (P : Program) (ops : Array Oper) (S : Nat → Value → Prop) (C : (Nat → Bool) → (Nat → Value) → World → Prop) (Q : (Nat → Value) → Act → Prop) : Nat → (Nat → Value) → List Oper → Act → Prop
  | _, vs, [], a => Q vs a
  | k, vs, o :: rest, a => ((Region.wanted o (yielded ops a.tmps) = true ∧ ∀ d w, d k = false → (∀ j, Region.waitsFor .any ops j k = true → d j = false) → (∀ j, Region.waitsFor .any ops k j = true → d j = true) → C d vs w →
      GivesE P o a w fun v w' => S k v ∧ C (upB d k) (updV vs k v) w') ∨
      (Region.wanted o (yielded ops a.tmps) = false ∧ S k undef ∧ (∀ d w, C d vs w → C (upB d k) (updV vs k undef) w))) ∧ (S k (vs k) → wpC P ops S C Q (k + 1) vs rest (a.put o.dst (vs k)))
theorem wpC_at {S : Nat → Value → Prop} {C : (Nat → Bool) → (Nat → Value) → World → Prop} {Qk : (Nat → Value) → Act → Prop} {vs : Nat → Value} (hS : ∀ j, S j (vs j)) : ∀ (l : List Oper) (k : Nat) (a : Act), wpC P ops S C Qk k vs l a →
    Qk vs (lexF l (fun i => vs (k + i)) l.length a) ∧ ∀ i o, l[i]? = some o →
      ((Region.wanted o (yielded ops (lexF l (fun i => vs (k + i)) i a).tmps) = true ∧ ∀ d w, d (k + i) = false → (∀ j, Region.waitsFor .any ops j (k + i) = true → d j = false) → (∀ j, Region.waitsFor .any ops (k + i) j = true → d j = true) → C d vs w →
        GivesE P o (lexF l (fun i => vs (k + i)) i a) w fun v w' => S (k + i) v ∧ C (upB d (k + i)) (updV vs (k + i) v) w') ∨
      (Region.wanted o (yielded ops (lexF l (fun i => vs (k + i)) i a).tmps) = false ∧ S (k + i) undef ∧ (∀ d w, C d vs w → C (upB d (k + i)) (updV vs (k + i) undef) w)))
  | [], k, a, h => ⟨h, fun i o hi => by simp at hi⟩
  | o :: l, k, a, h => by
    obtain ⟨h1, h2⟩ := h
    obtain ⟨hq, hs⟩ := wpC_at hS l (k + 1) _ (h2 (hS k))
    have e : (fun i => vs (k + 1 + i)) = fun i => vs (k + (i + 1)) := funext fun i => by rw [show k + 1 + i = k + (i + 1) by omega]
    rw [e] at hq hs
    refine ⟨?_, fun i o' hi => ?_⟩
    · rw [List.length_cons, lexF_cons]; exact hq
    · cases i with
      | zero =>
        simp only [List.getElem?_cons_zero, Option.some.injEq] at hi
        subst hi
        exact h1
      | succ i =>
        rw [lexF_cons, show k + (i + 1) = k + 1 + i by omega]
        exact hs i o' (by simpa using hi)
theorem wp_region_c {id : Nat} {Q : Exit → Act → World → Prop} {C : (Nat → Bool) → (Nat → Value) → World → Prop} {S : Nat → Value → Prop} {a : Act} {w : World} {l : List Oper} (n : Nat)
    (hm : P.follows .mixedOrders = true) (ht : tidy l.toArray = true) (hB : tailB l.toArray n = true)
    (v0 : Nat → Value) (h0 : ∀ j, S j (v0 j)) (hC : C (fun _ => false) v0 w.drew)
    (h : ∀ vs : Nat → Value, wpC P l.toArray S C (fun vs a' => ∀ d w', (∀ k, k < n → d k = true) → C d vs w' → wpList P l.toArray Q (l.drop n) a' w') 0 vs (l.take n) a) : (Code.region id l.toArray true).wp P Q a w := by
  refine region_coreE (Γ := {vs : Nat → Value // ∀ j, S j (vs j)}) (C := fun γ L w' => C (fun j => L.getD j false) γ.1 w' ∧ Closed l.toArray L) n hm ht hB ⟨v0, h0⟩
    ⟨by rw [show (fun j => (Array.replicate l.length false).getD j false) = fun _ => false from funext fun j => getD_replicate_false _ j]; exact hC, (fun j o _ hl => by rw [getD_replicate_false] at hl; cases hl)⟩ (fun γ => γ.1) ?_ ?_
  · intro i o hi γ L w' hsz hr ⟨hC', hcl⟩
    have hun := getD_both (mem_ready.1 hr).1
    have hlt : i < L.size := by
      obtain ⟨o', ho', _⟩ := (mem_ready.1 hr).2
      have := (Array.getElem?_eq_some_iff.1 ho').1
      simp at this; omega
    have hup : (fun j => (L.setIfInBounds i true).getD j false) = upB (fun j => L.getD j false) i := funext fun j => by
      unfold upB
      by_cases e : j = i
      · subst e; rw [if_pos rfl]; simp [hlt]
      · rw [if_neg e, getD_set_ne false (Ne.symm e)]
    have hcl2 := closed_set hcl hr
    have key := (wpC_at γ.2 (l.take n) 0 a (h γ.1)).2 i o hi
    simp only [Nat.zero_add] at key
    have hwait : ∀ j, Region.waitsFor .any l.toArray i j = true → L.getD j false = true := fun j hj => waits_ready hr hj
    have hnext : ∀ j, Region.waitsFor .any l.toArray j i = true → L.getD j false = false := fun j hj => by
      cases hx : L.getD j false with
      | false => rfl
      | true =>
        have := waits_closed hcl hx hj
        rw [hun] at this
        cases this
    have upd : ∀ v, S i v → ∀ j, S j (updV γ.1 i v j) := fun v hv j => by
      by_cases e : j = i
      · subst e; rw [updV_self]; exact hv
      · rw [updV_ne _ _ e]; exact γ.2 j
    have keep : ∀ v j, L.getD j false = true → γ.1 j = updV γ.1 i v j := fun v j hj => by
      have : j ≠ i := fun e => by subst e; rw [hun] at hj; cases hj
      rw [updV_ne _ _ this]
    rcases key with ⟨k1, k2⟩ | ⟨k1, k2, k3⟩
    · refine .inl ⟨k1, givesE_mono (k2 _ w' hun hnext hwait hC') fun v w2 ⟨h1, h2⟩ => ⟨⟨updV γ.1 i v, upd v h1⟩, keep v, updV_self _ _ _, ?_, hcl2⟩⟩
      rw [hup]; exact h2
    · refine .inr ⟨k1, ⟨updV γ.1 i undef, upd undef k2⟩, keep undef, updV_self _ _ _, ?_, hcl2⟩
      rw [hup]; exact k3 _ _ hC'
  · intro γ L w' hall ⟨hC', _⟩
    have key := (wpC_at γ.2 (l.take n) 0 a (h γ.1)).1
    have ez : (fun i => γ.1 (0 + i)) = γ.1 := funext fun i => by rw [Nat.zero_add]
    rw [ez] at key
    exact key _ w' hall hC'
end
open Go.ChangeShapes Go.WideShapes Go.ChangeAt
/-- A slice of so many elements. -/
def kSl (m : Nat) : Sp := ⟨fun v => ∃ (A : Option Addr) (c : Nat), v = .slice A m c, fun _ _ => True, .slice none m 0⟩
theorem kSl_ok (m : Nat) : (kSl m).ok := ⟨⟨none, 0, rfl⟩, fun _ _ _ _ _ => trivial⟩
/-- A map. -/
def kMp : Sp := ⟨fun v => ∃ r : Nat, v = .map (some r), fun _ _ => True, .map (some 0)⟩
theorem kMp_ok : kMp.ok := ⟨⟨0, rfl⟩, fun _ _ _ _ _ => trivial⟩
section
variable {α : Type} {k : Nat} {en : α → List Value} {E L : TypeId} {S : Nat → Prop} {w : World} {a : Act} {dst : Option Tmp} {ty : TypeId} {pos : String} {after : Array Edge} {gd : Option (Nat × Bool)} {R : Value → World → Prop} {o1 o2 : Operand} {v : Value} {l m : List α} {A : Option Addr} {n cap B : Nat}
/-- An append's result lies where the slice lay, or anew. -/
theorem run_appX_where (hE : EltX E k en) (hu : Try.prog.underlying L = some (.slice E)) (hown : OwnX E k en w B v l) (hm : Sli k en S w A m n cap) (hsz : l.length + n ≤ 1000000) (hk : k ≤ 1000) {v' : Value} {w' : World}
    (hr : (Builtin.append_ #[L, L] ty #[v, .slice A n cap]).run Try.prog w = .ok v' w') : v'.ownBlock = v.ownBlock ∨ v'.ownBlock = some w.heap.size := by
  obtain ⟨i, z, hi, hz, h1, h2, h3⟩ := hE.info
  cases A with
  | none =>
    obtain ⟨rfl, rfl⟩ := hm.none rfl
    rw [run_append_owned_none (P := Try.prog) w B L ty E i k hu hi v l.length _ hown] at hr
    cases hr
    exact .inl rfl
  | some ad =>
    have hbytes : (l.length + n) * i.bytes ≤ 140737488355328 := Nat.le_trans (Nat.mul_le_mul hsz (Nat.le_trans h2 (show 16 * k + 16 ≤ 16016 by omega))) (by omega)
    have hl1 : (m.flatMap en).length = n * i.size := by rw [flat_len hE.len, hm.len, h1]
    have hne := flat_read hE hm
    have hone : ∀ u ∈ m.flatMap en, u.oneCell' = true := fun u hu => by obtain ⟨x, _, hx⟩ := List.mem_flatMap.1 hu; exact hE.one x u hx
    rcases hown.2 with ⟨rfl, h0⟩ | ⟨g, c, cur, rfl, hB, hg, hnc, hcm, hcs, ht⟩
    · by_cases hn0 : n = 0
      · subst hn0
        have hn : m = [] := List.eq_nil_of_length_eq_zero hm.len
        subst hn
        left
        have hrun : (Builtin.append_ #[L, L] ty #[.slice none 0 0, .slice (some ad) 0 cap]).run Try.prog w = .ok (.slice none 0 0) w := by
          simp [Builtin.append_, run_underlying hu, sizeOf, typeInfo, hi, Builtin.lenOf, Builtin.firstCells, loadCells, loadCellsFrom]
        rw [hrun] at hr
        cases hr
        rfl
      · right
        rw [h0, Nat.zero_add] at hbytes
        have hrun := run_append_nil (P := Try.prog) w L ty E i z hu hi hz ad n cap _ hl1 hne (by omega) (by omega) (by omega)
        rw [hrun] at hr
        cases hr
        rfl
    · by_cases hroom : l.length + n ≤ c
      · left
        have hrun := run_append_room (P := Try.prog) w L ty E i hu hi g l.length c cur hg ad n cap _ hl1 hne hone hroom (by
          rw [h1, flat_len hE.len, hm.len, hcs, ← Nat.add_mul]; exact Nat.mul_le_mul_right k hroom)
        rw [hrun] at hr
        cases hr
        rfl
      · right
        have hown' : w.ownsRow B E i.size (.slice (some ⟨g, 0, none⟩) l.length c) l.length (l.flatMap en) := by rw [h1]; exact hown
        have holds : ∀ j u, (l.flatMap en)[j]? = some u → w.cell? ((⟨g, 0, none⟩ : Addr).add j) = some u := hown'.cells (g := g) rfl
        have hrun := run_append_grow (P := Try.prog) w L ty E i z hu hi hz ⟨g, 0, none⟩ l.length c (l.flatMap en) (by rw [flat_len hE.len, h1]) holds ad n cap _ hl1 hne (by omega) (by omega) (growslice_fits (by omega) hbytes)
        rw [hrun] at hr
        cases hr
        rfl
theorem gE_appW (hE : EltX E k en) (hu : Try.prog.underlying L = some (.slice E)) (hx : a.eval o1 = v) (hy : a.eval o2 = .slice A n cap) (hown : OwnX E k en w B v l) (hm : Sli k en S w A m n cap) (hsz : l.length + n ≤ 1000000) (hk : k ≤ 1000) (hB : B ≤ w.heap.size)
    (hR : ∀ v' w', OwnX E k en w' B v' (l ++ m) → w.grownBy w' v.ownBlock → (v'.ownBlock = v.ownBlock ∨ v'.ownBlock = some w.heap.size) → R v' w') :
    GivesE Try.prog ⟨dst, .call { callee := .builtin .append, args := #[o1, o2], argTypes := #[L, L] }, ty, pos, after, gd⟩ a w R := by
  obtain ⟨v', w', hr, h1, h2⟩ := run_appX (ty := ty) hE hu hown hm hsz hk hB
  have h3 := run_appX_where hE hu hown hm hsz hk hr
  unfold GivesE execOp
  simp only [resolve, invoke, builtin, Sem.run_bind, Sem.run_pure, Result.andThen_ok, List.map_toArray, List.map_cons, List.map_nil, hx, hy, hr]
  exact hR v' w' h1 h2 h3
end
end Go.Proofs.Yteglhalninlapaa
set_option maxRecDepth 100000
namespace Go.Proofs.Yteglhalninlapaa
open Go.ChangeShapes Go.WideShapes Go.ChangeAt Go.RowKit
attribute [local go_sem] Gives GivesE
namespace MbO
open MbM MbP
theorem built_wr (i : Int) (x : Nat → Nat) : Try.prog.built 77 [(0, .int .i64 i), (1, .agg (ar 64 x))] = some (atL ⟨i, x⟩).toArray := by
  have h := built_struct (T := 77) (ss := [(0, 1), (1, 64)]) (N := 65) (by kernel_rfl) Try.underlying77 (by kernel_rfl) ⟨rfl, rfl, trivial⟩ rfl [.int .i64 i, .agg (ar 64 x)] (by simp [Value.cells, size_ar])
  simp only [partsAt] at h
  rw [h]
  simp [atL, Value.cells]
section
variable {a : Act} {w : World} {dst : Option Tmp} {ty : TypeId} {pos : String} {after : Array Edge} {o1 o2 : Operand} {i : Int} {x : Nat → Nat}
theorem gE_wr {gd : Option (Nat × Bool)} {R : Value → World → Prop} (h1 : a.eval o1 = .int .i64 i) (h2 : a.eval o2 = .agg (ar 64 x)) (h : R (.agg (atL ⟨i, x⟩).toArray) w) : GivesE Try.prog ⟨dst, .build 77 #[(0, o1), (1, o2)], ty, pos, after, gd⟩ a w R := by
  have hm : (#[(0, o1), (1, o2)] : Array (Nat × Operand)).map (fun (i, x) => (i, a.eval x)) = #[(0, .int .i64 i), (1, .agg (ar 64 x))] := by
    simp only [List.map_toArray, List.map_cons, List.map_nil, h1, h2]
  have hr : (Instr.build 77 #[(0, .int .i64 i), (1, .agg (ar 64 x))]).run Try.prog w = .ok (.agg (atL ⟨i, x⟩).toArray) w := run_build w _ _ _ (built_wr i x)
  unfold GivesE execOp
  simp only [Sem.run_bind, hm, hr, Result.andThen_ok, Sem.run_pure]
  exact h
end
/-- What holds in the midst of an append of one element to a slice of the member's own. -/
structure ApC {α : Type} (E : TypeId) (k : Nat) (en : α → List Value) (w0 : World) (vl : Value) (l : List α) (x : α) (d8 d9 : Bool) (v8 v9 : Value) (w' : World) : Prop where
  t : Turn (fun b => vl.ownBlock = some b) w0 w'
  b : d9 = false → Below w0.heap.size w0 w'
  lit : d8 = true → d9 = false → ∃ A c, v8 = .slice A 1 c ∧ Sli k en (fun b => w0.heap.size ≤ b) w' A [x] 1 c
  own : d9 = true → OwnX E k en w' 0 v9 (l ++ [x]) ∧ ∀ b, v9.ownBlock = some b → vl.ownBlock = some b ∨ w0.heap.size ≤ b
/-- What holds in the midst of Mark. -/
structure MkC (w0 : World) (vm : Value) (l : List (Option Nat)) (S : Img) (d9 d10 d11 : Bool) (v9 v10 v11 : Value) (w' : World) : Prop where
  t : Turn (fun b => vm.ownBlock = some b) w0 w'
  b : d11 = false → Below w0.heap.size w0 w'
  c1 : d11 = true → d10 = true
  c2 : d10 = true → d9 = true
  im : d9 = true → ∃ r, v9 = .map (some r) ∧ MapB w' r S ∧ w0.heap.size ≤ r
  lit : d10 = true → d11 = false → ∃ A c r, v9 = .map (some r) ∧ v10 = .slice A 1 c ∧ Sli 1 imE (fun b => w0.heap.size ≤ b) w' A [some r] 1 c
  own : d11 = true → ∃ r, v9 = .map (some r) ∧ OwnM w' 0 v11 (l ++ [some r]) ∧ ∀ b, v11.ownBlock = some b → vm.ownBlock = some b ∨ w0.heap.size ≤ b
section
variable {w w' : World} {g rs rd : Nat} {vl vl' vm vm' : Value} {ms ms' : List Nat} {n : Int} {S D : Img} {log log' : List Pt} {marks marks' : List Img} {f h : Bool}
/-- The unflushed writes are others. -/
theorem Mm.setL (H : Mm w g rs rd vl vm ms n S D log marks f h) (ht : Turn (fun b => vl.ownBlock = some b) w w') (ho : OwnL w' 0 vl' log') : Mm (w'.setCell ⟨g, 3, none⟩ vl') g rs rd vl' vm ms n S D log' marks f h := by
  have hb : Blk w' g 58 (mbC7 n rs rd vl vm f h) := H.blk.turn ht H.l_g
  have hs : MapB w' rs S := H.seen.turn ht H.l_rs
  have hd : MapB w' rd D := H.dur.turn ht H.l_rd
  have hm : OwnM w' 0 vm (ms.map some) := H.mr.turn ht fun b e e2 => H.l_m e2 e
  have hi : ∀ (i m : Nat) (F : Img), ms[i]? = some m → marks[i]? = some F → MapB w' m F := fun i m F h1 h2 => (H.im i m F h1 h2).turn ht fun e => by
    obtain ⟨c, hc⟩ := H.lg.obj e; exact map_ne (H.im i m F h1 h2) hc rfl
  have tu := Turn.setCell (S := fun b => b = g) w' ⟨g, 3, none⟩ vl' rfl
  exact {
    blk := hb.setCell_same 3 vl'
    pos := H.pos
    seen := hs.turn tu fun e => H.g_rs e.symm
    dur := hd.turn tu fun e => H.g_rd e.symm
    lg := ho.turn tu fun b e e2 => by
      obtain ⟨c, hc⟩ := ho.obj e
      have h2 : w'.heap[g]? = some (.cells _ 58 (0, 0)) := hb
      rw [e2, h2] at hc
      simp at hc
    mr := hm.turn tu fun b e e2 => H.m_g (by rw [e, e2])
    len := H.len
    im := fun i m F h1 h2 => (hi i m F h1 h2).turn tu fun e => map_ne (H.im i m F h1 h2) H.blk e.symm
    ne := H.ne
    out := H.out }
/-- The marks are others. -/
theorem Mm.setM (H : Mm w g rs rd vl vm ms n S D log marks f h) (ht : Turn (fun b => vm.ownBlock = some b) w w') (ho : OwnM w' 0 vm' (ms'.map some)) (hl : ms'.length = marks'.length)
    (him : ∀ (i m : Nat) (F : Img), ms'[i]? = some m → marks'[i]? = some F → MapB w' m F) (hout : ∀ m, m ∈ ms' → m ≠ rs ∧ m ≠ rd) : Mm (w'.setCell ⟨g, 4, none⟩ vm') g rs rd vl vm' ms' n S D log marks' f h := by
  have hb : Blk w' g 58 (mbC7 n rs rd vl vm f h) := H.blk.turn ht H.m_g
  have hs : MapB w' rs S := H.seen.turn ht H.m_rs
  have hd : MapB w' rd D := H.dur.turn ht H.m_rd
  have hl2 : OwnL w' 0 vl log := H.lg.turn ht fun b e e2 => H.l_m e e2
  have tu := Turn.setCell (S := fun b => b = g) w' ⟨g, 4, none⟩ vm' rfl
  exact {
    blk := hb.setCell_same 4 vm'
    pos := H.pos
    seen := hs.turn tu fun e => H.g_rs e.symm
    dur := hd.turn tu fun e => H.g_rd e.symm
    lg := hl2.turn tu fun b e e2 => H.l_g (by rw [e, e2])
    mr := ho.turn tu fun b e e2 => by
      obtain ⟨c, hc⟩ := ho.obj e
      have h2 : w'.heap[g]? = some (.cells _ 58 (0, 0)) := hb
      rw [e2, h2] at hc
      simp at hc
    len := hl
    im := fun i m F h1 h2 => (him i m F h1 h2).turn tu fun e => map_ne (him i m F h1 h2) hb e.symm
    ne := H.ne
    out := hout }
set_option maxHeartbeats 400000 in
theorem write2_bad (H : Mm w g rs rd vl vm ms n S D log marks f h) (i : Int) (q : Bool) (hq : decide (0 ≤ i ∧ i < n) = q) (x : Nat → Nat) (hb : q = false ∨ f = true) :
    Calls Try.prog 16 #[at' g, .int .i64 i, .agg (ar 64 x)] w fun e w' => e = .returned (.int .i64 (if q then (if f then 10 else 0) else 2)) ∧ Below w.heap.size w w' := by
  have HH := hid H
  have HQ := hid hq
  have hn := hid H.pos
  unfold at'
  clear H hq
  go_enter Try.func16, Try.ntmps16
  go_upto_region 1 with fail
  generalize hw1 : World.alloc w _ = w1
  have BEL := hid (show Below w.heap.size w w1 by rw [← hw1]; exact (Below.refl _ _).alloc (Nat.le_refl _) _)
  have H1 := hid (HH.out.below BEL.out)
  clear hw1 HH
  have p0 : w1.cell? ⟨g, 0, none⟩ = some (.int .i64 n) := H1.out.blk.cell 0
  have p5 : w1.cell? ⟨g, 5, none⟩ = some (.bool f) := H1.out.blk.cell 5
  go_wp2_with fail
  refine (reach_any g n hn.out i q f HQ.out w1 p0 p5).mono ?_
  rintro e w' ⟨rfl, rfl⟩
  cases q with
  | false =>
    go_wp2_with fail
    go_ret
    exact ⟨rfl, BEL.out⟩
  | true =>
    obtain rfl : f = true := by rcases hb with e | e; cases e; exact e
    go_wp2_with fail
    go_ret
    exact ⟨rfl, BEL.out⟩
set_option maxHeartbeats 1000000 in
set_option maxRecDepth 100000 in
theorem write2_any (H : Mm w g rs rd vl vm ms n S D log marks false h) (i : Int) (hq : decide (0 ≤ i ∧ i < n) = true) (x : Nat → Nat) (hlen : log.length ≤ 10000) :
    Calls Try.prog 16 #[at' g, .int .i64 i, .agg (ar 64 x)] w fun e w' => e = .returned (.int .i64 0) ∧ ∃ vl', Mm w' g rs rd vl' vm ms n (upd S ⟨i, x⟩) D (log ++ [⟨i, x⟩]) marks false h ∧
      (∀ b, vl'.ownBlock = some b → vl.ownBlock = some b ∨ w.heap.size ≤ b) ∧ Turn (mSet g rs rd vl vm) w w' := by
  obtain ⟨A, c, rfl, _⟩ := H.lg.sli atL_len
  have HH := hid H
  have HQ := hid hq
  have hn := hid H.pos
  unfold at'
  clear H hq
  go_enter Try.func16, Try.ntmps16
  go_upto_region 1 with fail
  generalize hw1 : World.alloc w _ = w1
  have b1 := hid (show Blk w1 w.heap.size 32 (ar 64 x) by rw [← hw1]; exact Blk.new _ _ _)
  have BEL := hid (show Below w.heap.size w w1 by rw [← hw1]; exact (Below.refl _ _).alloc (Nat.le_refl _) _)
  have H1 := hid (HH.out.below BEL.out)
  have hrs := HH.out.seen.lt
  clear hw1 HH
  have p0 : w1.cell? ⟨g, 0, none⟩ = some (.int .i64 n) := H1.out.blk.cell 0
  have p5 : w1.cell? ⟨g, 5, none⟩ = some (.bool false) := H1.out.blk.cell 5
  go_wp2_with fail
  refine (reach_any g n hn.out i true false HQ.out w1 p0 p5).mono ?_
  rintro e w' ⟨rfl, rfl⟩
  go_upto_region 4 with fail
  refine wp_region_tail (C := fun w' => Below w1.heap.size w1 w') 6 (by kernel_rfl) (by kernel_rfl) (by kernel_rfl) (Below.refl _ _).drew ?_
  apply wpK_val
  · rfl
  · intro w' hw'
    go_simp
    first | exact rfl | exact ⟨rfl, hw'⟩
  simp only [Act.put, List.setIfInBounds_toArray, List.set_cons_succ, List.set_cons_zero]
  apply wpK_val
  · rfl
  · intro w' hw'
    go_simp
    first | exact rfl | exact ⟨rfl, hw'⟩
  simp only [Act.put, List.setIfInBounds_toArray, List.set_cons_succ, List.set_cons_zero]
  apply wpK_val
  · rfl
  · intro w' hw'
    go_simp
    first | exact rfl | exact ⟨rfl, hw'⟩
  simp only [Act.put, List.setIfInBounds_toArray, List.set_cons_succ, List.set_cons_zero]
  apply wpK_val
  · rfl
  · intro w' hw'
    have hcell := (H1.out.below hw').blk.cell 1
    go_simp
    first | exact rfl | exact ⟨rfl, hw'⟩
  simp only [Act.put, List.setIfInBounds_toArray, List.set_cons_succ, List.set_cons_zero]
  apply wpK_val
  · rfl
  · intro w' hw'
    go_simp
    first | exact rfl | exact ⟨rfl, hw'⟩
  simp only [Act.put, List.setIfInBounds_toArray, List.set_cons_succ, List.set_cons_zero]
  apply kldA tSe
  · rfl
  · rfl
  · exact fun w' hw' => ((b1.out.below hw' b1.out.lt).head)
  simp only [Act.put, List.setIfInBounds_toArray, List.set_cons_succ, List.set_cons_zero]
  intro w2 hC2
  have H2 := hid (H1.out.below hC2)
  have B2 := hid (BEL.out.trans (hC2.mono BEL.out.size))
  have b2 := hid (b1.out.below hC2 b1.out.lt)
  clear H1 BEL b1 hC2 p0 p5
  go_wp2_with fail
  refine (put_any rs S i x w2 H2.out.seen).mono ?_
  rintro e w3 ⟨rfl, m3, t3⟩
  have H3 := hid (H2.out.setS t3 m3)
  have T3 := hid ((Turn.of_new (S := fun b => b = rs) B2.out).trans t3 fun _ e => .inl e)
  have b3 := hid (b2.out.turn t3 (by omega))
  have HBX := hid (show ¬ (Value.slice A log.length c).ownBlock = some w.heap.size from fun e => by
    obtain ⟨cur, hc⟩ := H3.out.lg.obj e
    have h2 : w3.heap[w.heap.size]? = some (.cells _ 32 (0, 0)) := b3.out
    rw [h2] at hc
    simp at hc)
  clear H2 B2 b2 m3 t3
  go_upto_region 5 with fail
  refine wp_region_c (S := yS [some (.pointer (some ⟨g, 0, none⟩)), some (.pointer (some ⟨g, 0, none⟩)), some (.pointer (some ⟨g, 0, none⟩)), some (.pointer (some ⟨g, 3, none⟩)), some (.slice A log.length c), some (.int .i64 i), some (.agg (ar 64 x)), some (.agg (atL ⟨i, x⟩).toArray), none, none, some (.pointer (some ⟨g, 0, none⟩)), some (.pointer (some ⟨g, 3, none⟩))]
      [(8, kSl 1), (9, kSl (log.length + 1))]) (C := fun d vs w' => ApC 77 65 atL w3 (.slice A log.length c) log (⟨i, x⟩ : Pt) (d 8) (d 9) (vs 8) (vs 9) w') 12 (by kernel_rfl) (by kernel_rfl) (by kernel_rfl) _
    (yS_ok _ fun y hy => by simp only [List.mem_cons, List.not_mem_nil, or_false] at hy; rcases hy with rfl | rfl <;> exact kSl_ok _) ⟨Turn.drew _, fun _ => (Below.refl _ _).drew, (fun e => by cases e), (fun e => by cases e)⟩ fun vs => ?_
  simp only [List.take_succ_cons, List.take_zero, List.drop_succ_cons, List.drop_zero]
  refine ⟨.inl ⟨rfl, fun dd w' hd hnx hw hC => ?_⟩, fun e => ?_⟩
  · go_simp
    first | exact ⟨rfl, hC⟩ | exact hC
  have e' : vs 0 = _ := e
  rw [e']
  clear e e'
  simp only [Act.put, List.setIfInBounds_toArray, List.set_cons_succ, List.set_cons_zero]
  refine ⟨.inl ⟨rfl, fun dd w' hd hnx hw hC => ?_⟩, fun e => ?_⟩
  · go_simp
    first | exact ⟨rfl, hC⟩ | exact hC
  have e' : vs 1 = _ := e
  rw [e']
  clear e e'
  simp only [Act.put, List.setIfInBounds_toArray, List.set_cons_succ, List.set_cons_zero]
  refine ⟨.inl ⟨rfl, fun dd w' hd hnx hw hC => ?_⟩, fun e => ?_⟩
  · go_simp
    first | exact ⟨rfl, hC⟩ | exact hC
  have e' : vs 2 = _ := e
  rw [e']
  clear e e'
  simp only [Act.put, List.setIfInBounds_toArray, List.set_cons_succ, List.set_cons_zero]
  refine ⟨.inl ⟨rfl, fun dd w' hd hnx hw hC => ?_⟩, fun e => ?_⟩
  · go_simp
    first | exact ⟨rfl, hC⟩ | exact hC
  have e' : vs 3 = _ := e
  rw [e']
  clear e e'
  simp only [Act.put, List.setIfInBounds_toArray, List.set_cons_succ, List.set_cons_zero]
  refine ⟨.inl ⟨rfl, fun dd w' hd hnx hw hC => ?_⟩, fun e => ?_⟩
  · have h1 : w'.cell? ⟨g, 3, none⟩ = some (.slice A log.length c) := (H3.out.blk.turn hC.t H3.out.l_g).cell 3
    go_simp
    first | exact ⟨rfl, hC⟩ | exact hC
  have e' : vs 4 = _ := e
  rw [e']
  clear e e'
  simp only [Act.put, List.setIfInBounds_toArray, List.set_cons_succ, List.set_cons_zero]
  refine ⟨.inl ⟨rfl, fun dd w' hd hnx hw hC => ?_⟩, fun e => ?_⟩
  · go_simp
    first | exact ⟨rfl, hC⟩ | exact hC
  have e' : vs 5 = _ := e
  rw [e']
  clear e e'
  simp only [Act.put, List.setIfInBounds_toArray, List.set_cons_succ, List.set_cons_zero]
  refine ⟨.inl ⟨rfl, fun dd w' hd hnx hw hC => ?_⟩, fun e => ?_⟩
  · exact gE_ldA tSe rfl ((b3.out.turn hC.t (HBX.out)).head) ⟨rfl, hC⟩
  have e' : vs 6 = _ := e
  rw [e']
  clear e e'
  simp only [Act.put, List.setIfInBounds_toArray, List.set_cons_succ, List.set_cons_zero]
  refine ⟨.inl ⟨rfl, fun dd w' hd hnx hw hC => ?_⟩, fun e => ?_⟩
  · exact gE_wr rfl rfl ⟨rfl, hC⟩
  have e' : vs 7 = _ := e
  rw [e']
  clear e e'
  simp only [Act.put, List.setIfInBounds_toArray, List.set_cons_succ, List.set_cons_zero]
  refine ⟨.inl ⟨rfl, fun dd w' hd hnx hw hC => ?_⟩, fun e => ?_⟩
  · have h9 : dd 9 = false := hnx 9 (by kernel_rfl)
    have ha := (Below.refl w'.heap.size w').alloc (Nat.le_refl _) (.cells (atL ⟨i, x⟩).toArray 77)
    have hbl := hC.b h9
    exact gE_lit1 (x := (⟨i, x⟩ : Pt)) eltWr undWr (by omega) rfl rfl ⟨⟨_, _, rfl⟩, hC.t.trans (Turn.of_new (S := fun _ => False) ha) (fun _ e => e.elim), (fun _ => hbl.trans (ha.mono hbl.size)), (fun _ _ => ⟨_, _, rfl, sli_lit1 eltWr (⟨i, x⟩ : Pt) w' hbl.size⟩), fun e => by
      have e' : dd 9 = true := e
      rw [h9] at e'; cases e'⟩
  obtain ⟨A8, c8, e'⟩ : ∃ (A : Option Addr) (c : Nat), vs 8 = .slice A 1 c := e
  rw [e']
  have E8 := hid e'
  clear e'
  simp only [Act.put, List.setIfInBounds_toArray, List.set_cons_succ, List.set_cons_zero]
  refine ⟨.inl ⟨rfl, fun dd w' hd hnx hw hC => ?_⟩, fun e => ?_⟩
  · have h8 : dd 8 = true := hw 8 (by kernel_rfl)
    have hbl := hC.b hd
    obtain ⟨A', c', f, sl⟩ := hC.lit h8 hd
    rw [E8.out] at f
    cases f
    refine gE_appW eltWr undWr (B := 0) (v := .slice A log.length c) (l := log) (m := [(⟨i, x⟩ : Pt)]) rfl rfl (H3.out.lg.below hbl (Nat.le_refl _)) sl (by omega) (by omega) (Nat.zero_le _) fun v' w4 o4 g4 wh => ?_
    obtain ⟨A4, c4, rfl, _⟩ := o4.sli atL_len
    refine ⟨⟨A4, c4, by rw [List.length_append]; rfl⟩, ?_⟩
    exact ⟨(Turn.of_new (S := fun b => (Value.slice A log.length c).ownBlock = some b) hbl).trans (Turn.of_grown (S := fun b => (Value.slice A log.length c).ownBlock = some b) g4 fun b e => e) (fun b e => .inl e), (fun e => by cases e), (fun _ e => by cases e), fun _ => ⟨o4, fun b e => by
      have e' : (Value.slice A4 (log ++ [(⟨i, x⟩ : Pt)]).length c4).ownBlock = some b := e
      rcases wh with e2 | e2
      · exact .inl (e2.symm.trans e')
      · rw [e2] at e'; cases e'; exact .inr hbl.size⟩⟩
  obtain ⟨A9, c9, e'⟩ : ∃ (A : Option Addr) (c : Nat), vs 9 = .slice A (log.length + 1) c := e
  rw [e']
  have E9 := hid e'
  clear e'
  simp only [Act.put, List.setIfInBounds_toArray, List.set_cons_succ, List.set_cons_zero]
  refine ⟨.inl ⟨rfl, fun dd w' hd hnx hw hC => ?_⟩, fun e => ?_⟩
  · go_simp
    first | exact ⟨rfl, hC⟩ | exact hC
  have e' : vs 10 = _ := e
  rw [e']
  clear e e'
  simp only [Act.put, List.setIfInBounds_toArray, List.set_cons_succ, List.set_cons_zero]
  refine ⟨.inl ⟨rfl, fun dd w' hd hnx hw hC => ?_⟩, fun e => ?_⟩
  · go_simp
    first | exact ⟨rfl, hC⟩ | exact hC
  have e' : vs 11 = _ := e
  rw [e']
  clear e e'
  simp only [Act.put, List.setIfInBounds_toArray, List.set_cons_succ, List.set_cons_zero]
  intro dd w4 hall hC
  obtain ⟨o4, wh⟩ := hC.own (hall 9 (by omega))
  rw [E9.out] at o4 wh
  have hfin := hid (show Mm (w4.setCell ⟨g, 3, none⟩ (.slice A9 (log.length + 1) c9)) g rs rd (.slice A9 (log.length + 1) c9) vm ms n (upd S ⟨i, x⟩) D (log ++ [⟨i, x⟩]) marks false h from H3.out.setL hC.t o4)
  have hT := hid (show Turn (mSet g rs rd (.slice A log.length c) vm) w (w4.setCell ⟨g, 3, none⟩ (.slice A9 (log.length + 1) c9)) from
    ((T3.out.mono (T := mSet g rs rd (.slice A log.length c) vm) fun b e => .inr (.inl e)).trans hC.t fun b e => .inl (.inr (.inr (.inr (.inl e))))).trans (Turn.setCell (S := fun b => b = g) w4 ⟨g, 3, none⟩ _ rfl) fun b e => .inl (.inl e))
  have hsz := T3.out.size
  have W := hid wh
  have bb := H3.out.blk.turn hC.t H3.out.l_g
  have p3 : w4.cell? ⟨g, 3, none⟩ = some (.slice A log.length c) := bb.cell 3
  have fz := bb.frozen 3
  clear H3 T3 b3 hC o4 wh bb HBX hall E8 E9
  go_wp2_with fail
  go_ret
  exact ⟨rfl, _, hfin.out, fun b e => (W.out b e).imp id fun e => Nat.le_trans hsz e, hT.out⟩
set_option maxHeartbeats 400000 in
theorem mark2_full (H : Mm w g rs rd vl vm ms n S D log marks f h) (hl : marks.length = 64) :
    Calls Try.prog 20 #[at' g] w fun e w' => e = .returned (.tuple #[.int .i64 0, .int .i64 7]) ∧ w = w' := by
  have p0 : w.cell? ⟨g, 0, none⟩ = some (.int .i64 n) := H.blk.cell 0
  obtain ⟨A, c, e, _⟩ := H.mr.sli eltIm.len
  rw [List.length_map, H.len, hl] at e
  have p4 : w.cell? ⟨g, 4, none⟩ = some (.slice A 64 c) := by rw [← e]; exact H.blk.cell 4
  have hn := hid H.pos
  unfold at'
  clear H e
  go_enter Try.func20, Try.ntmps20
  go_wp2_with fail
  refine (made_any g n hn.out w p0).mono ?_
  rintro e w' ⟨rfl, rfl⟩
  go_wp2_with fail
  go_ret2
  exact ⟨rfl, rfl⟩
set_option maxHeartbeats 1000000 in
set_option maxRecDepth 100000 in
theorem mark2_any (H : Mm w g rs rd vl vm ms n S D log marks f h) (hl : marks.length < 64) :
    Calls Try.prog 20 #[at' g] w fun e w' => e = .returned (.tuple #[.int .i64 (marks.length : Nat), .int .i64 0]) ∧ ∃ vm' r, Mm w' g rs rd vl vm' (ms ++ [r]) n S D log (marks ++ [S]) f h ∧
      (∀ b, vm'.ownBlock = some b → vm.ownBlock = some b ∨ w.heap.size ≤ b) ∧ w.heap.size ≤ r ∧ Turn (mSet g rs rd vl vm) w w' := by
  have p0 : w.cell? ⟨g, 0, none⟩ = some (.int .i64 n) := H.blk.cell 0
  obtain ⟨A, c, rfl, _⟩ := H.mr.sli eltIm.len
  have hml : (ms.map some).length = marks.length := by rw [List.length_map, H.len]
  have HML := hid hml
  have p4 : w.cell? ⟨g, 4, none⟩ = some (.slice A marks.length c) := by rw [← hml]; exact H.blk.cell 4
  have hn := hid H.pos
  have HH := hid H
  rw [hml]
  unfold at'
  have t1 : ((marks.length : Int) == 64) = false := by simp; omega
  have t2 : decide ((marks.length : Int) = 64) = false := by simp; omega
  clear H hml
  go_enter Try.func20, Try.ntmps20
  go_wp2_with fail
  refine (made_any g n hn.out w p0).mono ?_
  rintro e w' ⟨rfl, rfl⟩
  go_upto_region 6 with fail
  have HV := hid (show (Value.slice A (ms.map some).length c) = .slice A marks.length c by rw [HML.out])
  refine wp_region_c (S := yS [some (.pointer (some ⟨g, 0, none⟩)), some (.pointer (some ⟨g, 0, none⟩)), some (.pointer (some ⟨g, 0, none⟩)), some (.pointer (some ⟨g, 4, none⟩)), some (.slice A marks.length c), some (.pointer (some ⟨g, 0, none⟩)), some (.pointer (some ⟨g, 0, none⟩)), some (.pointer (some ⟨g, 1, none⟩)), some (.map (some rs)), none, none, none, some (.pointer (some ⟨g, 0, none⟩)), some (.pointer (some ⟨g, 4, none⟩))]
      [(9, kMp), (10, kSl 1), (11, kSl (marks.length + 1))]) (C := fun d vs w' => MkC w (.slice A marks.length c) (ms.map some) S (d 9) (d 10) (d 11) (vs 9) (vs 10) (vs 11) w') 14 (by kernel_rfl) (by kernel_rfl) (by kernel_rfl) _
    (yS_ok _ fun y hy => by simp only [List.mem_cons, List.not_mem_nil, or_false] at hy; rcases hy with rfl | rfl | rfl <;> first | exact kSl_ok _ | exact kMp_ok)
    ⟨Turn.drew _, fun _ => (Below.refl _ _).drew, (fun e => by cases e), (fun e => by cases e), (fun e => by cases e), (fun e => by cases e), (fun e => by cases e)⟩ fun vs => ?_
  simp only [List.take_succ_cons, List.take_zero, List.drop_succ_cons, List.drop_zero]
  have BK := hid (show ∀ w', Turn (fun b => (Value.slice A marks.length c).ownBlock = some b) w w' → Blk w' g 58 (mbC7 n rs rd vl (.slice A marks.length c) f h) from fun w' ht => by
    have := HH.out.blk.turn ht (by rw [← HV.out]; exact HH.out.m_g)
    rw [HV.out] at this
    exact this)
  refine ⟨.inl ⟨rfl, fun dd w' hd hnx hw hC => ?_⟩, fun e => ?_⟩
  · go_simp
    first | exact ⟨rfl, hC⟩ | exact hC
  have e' : vs 0 = _ := e
  rw [e']
  clear e e'
  simp only [Act.put, List.setIfInBounds_toArray, List.set_cons_succ, List.set_cons_zero]
  refine ⟨.inl ⟨rfl, fun dd w' hd hnx hw hC => ?_⟩, fun e => ?_⟩
  · go_simp
    first | exact ⟨rfl, hC⟩ | exact hC
  have e' : vs 1 = _ := e
  rw [e']
  clear e e'
  simp only [Act.put, List.setIfInBounds_toArray, List.set_cons_succ, List.set_cons_zero]
  refine ⟨.inl ⟨rfl, fun dd w' hd hnx hw hC => ?_⟩, fun e => ?_⟩
  · go_simp
    first | exact ⟨rfl, hC⟩ | exact hC
  have e' : vs 2 = _ := e
  rw [e']
  clear e e'
  simp only [Act.put, List.setIfInBounds_toArray, List.set_cons_succ, List.set_cons_zero]
  refine ⟨.inl ⟨rfl, fun dd w' hd hnx hw hC => ?_⟩, fun e => ?_⟩
  · go_simp
    first | exact ⟨rfl, hC⟩ | exact hC
  have e' : vs 3 = _ := e
  rw [e']
  clear e e'
  simp only [Act.put, List.setIfInBounds_toArray, List.set_cons_succ, List.set_cons_zero]
  refine ⟨.inl ⟨rfl, fun dd w' hd hnx hw hC => ?_⟩, fun e => ?_⟩
  · have h1 : w'.cell? ⟨g, 4, none⟩ = some (.slice A marks.length c) := (BK.out _ hC.t).cell 4
    go_simp
    first | exact ⟨rfl, hC⟩ | exact hC
  have e' : vs 4 = _ := e
  rw [e']
  clear e e'
  simp only [Act.put, List.setIfInBounds_toArray, List.set_cons_succ, List.set_cons_zero]
  refine ⟨.inl ⟨rfl, fun dd w' hd hnx hw hC => ?_⟩, fun e => ?_⟩
  · go_simp
    first | exact ⟨rfl, hC⟩ | exact hC
  have e' : vs 5 = _ := e
  rw [e']
  clear e e'
  simp only [Act.put, List.setIfInBounds_toArray, List.set_cons_succ, List.set_cons_zero]
  refine ⟨.inl ⟨rfl, fun dd w' hd hnx hw hC => ?_⟩, fun e => ?_⟩
  · go_simp
    first | exact ⟨rfl, hC⟩ | exact hC
  have e' : vs 6 = _ := e
  rw [e']
  clear e e'
  simp only [Act.put, List.setIfInBounds_toArray, List.set_cons_succ, List.set_cons_zero]
  refine ⟨.inl ⟨rfl, fun dd w' hd hnx hw hC => ?_⟩, fun e => ?_⟩
  · go_simp
    first | exact ⟨rfl, hC⟩ | exact hC
  have e' : vs 7 = _ := e
  rw [e']
  clear e e'
  simp only [Act.put, List.setIfInBounds_toArray, List.set_cons_succ, List.set_cons_zero]
  refine ⟨.inl ⟨rfl, fun dd w' hd hnx hw hC => ?_⟩, fun e => ?_⟩
  · have h1 : w'.cell? ⟨g, 1, none⟩ = some (.map (some rs)) := (BK.out _ hC.t).cell 1
    go_simp
    first | exact ⟨rfl, hC⟩ | exact hC
  have e' : vs 8 = _ := e
  rw [e']
  clear e e'
  simp only [Act.put, List.setIfInBounds_toArray, List.set_cons_succ, List.set_cons_zero]
  refine ⟨.inl ⟨rfl, fun dd w' hd hnx hw hC => ?_⟩, fun e => ?_⟩
  · have h10 : dd 10 = false := by
      cases e : dd 10 with
      | false => rfl
      | true => have := hC.c2 e; rw [hd] at this; cases this
    have h11 : dd 11 = false := by
      cases e : dd 11 with
      | false => rfl
      | true => have := hC.c1 e; rw [h10] at this; cases this
    have hbl := hC.b h11
    go_simp
    refine (clone_any rs S w' (HH.out.seen.below hbl)).mono ?_
    rintro e w4 ⟨rfl, m4, h4, _⟩
    exact ⟨_, rfl, ⟨_, rfl⟩, hC.t.trans (Turn.of_new (S := fun _ => False) h4) (fun _ e => e.elim), (fun _ => hbl.trans (h4.mono hbl.size)), hC.c1, (fun _ => rfl), (fun _ => ⟨_, rfl, m4, hbl.size⟩), (fun e => by
      have e' : dd 10 = true := e
      rw [h10] at e'; cases e'), fun e => by
      have e' : dd 11 = true := e
      rw [h11] at e'; cases e'⟩
  obtain ⟨r9, e'⟩ : ∃ r : Nat, vs 9 = .map (some r) := e
  rw [e']
  have E9 := hid e'
  clear e'
  simp only [Act.put, List.setIfInBounds_toArray, List.set_cons_succ, List.set_cons_zero]
  refine ⟨.inl ⟨rfl, fun dd w' hd hnx hw hC => ?_⟩, fun e => ?_⟩
  · have h9 : dd 9 = true := hw 9 (by kernel_rfl)
    have h11 : dd 11 = false := by
      cases e : dd 11 with
      | false => rfl
      | true => have := hC.c1 e; rw [hd] at this; cases this
    have hbl := hC.b h11
    have ha := (Below.refl w'.heap.size w').alloc (Nat.le_refl _) (.cells (imE (some r9)).toArray 54)
    refine gE_lit1 (x := some r9) (v := .map (some r9)) eltIm undIm (by omega) rfl rfl ⟨⟨_, _, rfl⟩, hC.t.trans (Turn.of_new (S := fun _ => False) ha) (fun _ e => e.elim), (fun _ => hbl.trans (ha.mono hbl.size)), (fun _ => rfl), (fun _ => h9), (fun _ => ?_), (fun _ _ => ⟨_, _, r9, E9.out, rfl, sli_lit1 eltIm (some r9) w' hbl.size⟩), fun e => by
      have e' : dd 11 = true := e
      rw [h11] at e'; cases e'⟩
    obtain ⟨r, e1, e2, e3⟩ := hC.im h9
    exact ⟨r, e1, e2.below ha, e3⟩
  obtain ⟨A10, c10, e'⟩ : ∃ (A : Option Addr) (c : Nat), vs 10 = .slice A 1 c := e
  rw [e']
  have E10 := hid e'
  clear e'
  simp only [Act.put, List.setIfInBounds_toArray, List.set_cons_succ, List.set_cons_zero]
  refine ⟨.inl ⟨rfl, fun dd w' hd hnx hw hC => ?_⟩, fun e => ?_⟩
  · have h10 : dd 10 = true := hw 10 (by kernel_rfl)
    have hbl := hC.b hd
    obtain ⟨A', c', r, e1, f1, sl⟩ := hC.lit h10 hd
    rw [E10.out] at f1
    cases f1
    have hvo : OwnM w' 0 (.slice A marks.length c) (ms.map some) := by rw [← HV.out]; exact HH.out.mr.below hbl (Nat.le_refl _)
    have hlen := HML.out
    refine gE_appW eltIm undIm (B := 0) (v := .slice A marks.length c) (l := ms.map some) (m := [some r]) rfl rfl hvo sl (by omega) (by omega) (Nat.zero_le _) fun v' w4 o4 g4 wh => ?_
    obtain ⟨A4, c4, rfl, _⟩ := o4.sli eltIm.len
    have tg := Turn.of_grown (S := fun b => (Value.slice A marks.length c).ownBlock = some b) g4 fun b e => e
    refine ⟨⟨A4, c4, by rw [List.length_append, hlen]; rfl⟩, (hC.t.trans tg (fun b e => .inl e)), (fun e => by cases e), (fun _ => h10), hC.c2, (fun e => ?_), (fun _ e => by cases e), fun _ => ⟨r, e1, o4, fun b e => ?_⟩⟩
    · obtain ⟨r2, e2, e3, e4⟩ := hC.im e
      refine ⟨r2, e2, e3.turn tg fun x => ?_, e4⟩
      have := (hvo.own _ x).2
      obtain ⟨cur, hc⟩ := hvo.obj x
      exact map_ne e3 hc rfl
    · have e' : (Value.slice A4 (ms.map some ++ [some r]).length c4).ownBlock = some b := e
      rcases wh with e2 | e2
      · exact .inl (e2.symm.trans e')
      · rw [e2] at e'; cases e'; exact .inr hbl.size
  obtain ⟨A11, c11, e'⟩ : ∃ (A : Option Addr) (c : Nat), vs 11 = .slice A (marks.length + 1) c := e
  rw [e']
  have E11 := hid e'
  clear e'
  simp only [Act.put, List.setIfInBounds_toArray, List.set_cons_succ, List.set_cons_zero]
  refine ⟨.inl ⟨rfl, fun dd w' hd hnx hw hC => ?_⟩, fun e => ?_⟩
  · go_simp
    first | exact ⟨rfl, hC⟩ | exact hC
  have e' : vs 12 = _ := e
  rw [e']
  clear e e'
  simp only [Act.put, List.setIfInBounds_toArray, List.set_cons_succ, List.set_cons_zero]
  refine ⟨.inl ⟨rfl, fun dd w' hd hnx hw hC => ?_⟩, fun e => ?_⟩
  · go_simp
    first | exact ⟨rfl, hC⟩ | exact hC
  have e' : vs 13 = _ := e
  rw [e']
  clear e e'
  simp only [Act.put, List.setIfInBounds_toArray, List.set_cons_succ, List.set_cons_zero]
  intro dd w4 hall hC
  obtain ⟨r, e1, o4, wh⟩ := hC.own (hall 11 (by omega))
  obtain ⟨r', e2, m4, hr4⟩ := hC.im (hall 9 (by omega))
  rw [E9.out] at e1 e2
  cases e1
  cases e2
  rw [E11.out] at o4 wh
  have ht' : Turn (fun b => (Value.slice A (ms.map some).length c).ownBlock = some b) w w4 := by rw [HV.out]; exact hC.t
  have hfin := hid (show Mm (w4.setCell ⟨g, 4, none⟩ (.slice A11 (marks.length + 1) c11)) g rs rd vl (.slice A11 (marks.length + 1) c11) (ms ++ [r9]) n S D log (marks ++ [S]) f h from
    HH.out.setM ht' (by rw [List.map_append]; exact o4) (by rw [List.length_append, List.length_append, HH.out.len]; rfl) (fun i m F h1 h2 => by
      by_cases hi : i < ms.length
      · rw [List.getElem?_append_left hi] at h1
        rw [List.getElem?_append_left (by rw [← HH.out.len]; exact hi)] at h2
        exact (HH.out.im i m F h1 h2).turn ht' fun e => by obtain ⟨cur, hc⟩ := HH.out.mr.obj e; exact map_ne (HH.out.im i m F h1 h2) hc rfl
      · have hi2 : i = ms.length := by
          have := (List.getElem?_eq_some_iff.1 h1).1
          rw [List.length_append, List.length_cons, List.length_nil] at this
          omega
        subst hi2
        rw [List.getElem?_append_right (Nat.le_refl _), Nat.sub_self, List.getElem?_cons_zero] at h1
        rw [HH.out.len, List.getElem?_append_right (Nat.le_refl _), Nat.sub_self, List.getElem?_cons_zero] at h2
        cases h1
        cases h2
        exact m4) (fun m hm => by
      rcases List.mem_append.1 hm with hm | hm
      · exact HH.out.out m hm
      · rw [List.mem_singleton] at hm
        subst hm
        have := HH.out.seen.lt
        have := HH.out.dur.lt
        exact ⟨by omega, by omega⟩))
  have hT := hid (show Turn (mSet g rs rd vl (.slice A marks.length c)) w (w4.setCell ⟨g, 4, none⟩ (.slice A11 (marks.length + 1) c11)) from
    (hC.t.mono (T := mSet g rs rd vl (.slice A marks.length c)) fun b e => .inr (.inr (.inr (.inr e)))).trans (Turn.setCell (S := fun b => b = g) w4 ⟨g, 4, none⟩ _ rfl) fun b e => .inl (.inl e))
  have W := hid wh
  have bb := BK.out _ hC.t
  have p4 : w4.cell? ⟨g, 4, none⟩ = some (.slice A marks.length c) := bb.cell 4
  have fz := bb.frozen 4
  clear HH hC o4 wh bb BK hall E9 E10 E11 ht' HV HML m4
  go_wp2_with fail
  go_ret2
  exact ⟨rfl, _, r9, hfin.out, W.out, hr4, hT.out⟩
end
end MbO
end Go.Proofs.Yteglhalninlapaa
