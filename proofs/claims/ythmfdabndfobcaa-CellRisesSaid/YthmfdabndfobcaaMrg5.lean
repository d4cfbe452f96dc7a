/-
  What comes in, number by number.
  What comes in: rows of n bytes by value.
  Slices of bytes that come in.
  Slices of structs of k cells that come in.
  What comes in to the laws of chapter 12: a count and a label, rows of labels, rows of acts.
  An append of one element to a slice that is the call's own, or that is full: what it turns, place by place.
  The program's cell in memory; isMade, New, Read.
  The program's History and Copy.
  The program's Advance.
  The program's cell keeps its contracts.
-/
import Derived.Test.YthmfdabndfobcaaMrg4
import Derived.Deep.Slices
import Derived.OpenShut
import Derived.ChangeMaps5
import Derived.ChangeSlices
import Derived.Deep.Strs
import Derived.Lib.SliceRun
set_option linter.unusedVariables false
set_option linter.unusedSimpArgs false
set_option maxRecDepth 100000
namespace Go.Proofs.Ythmfdabndfobcaa
open Go.ChangeShapes Go.WideShapes Go.ChangeAt Go.RowKit Go.Deep
theorem choose_lt {α : Type} [Inhabited α] {n : Nat} {P : Nat → α → Prop} (h : ∀ k, k < n → ∃ a, P k a) : ∃ f : Nat → α, ∀ k, k < n → P k (f k) :=
  ⟨fun k => if hk : k < n then (h k hk).choose else default, fun k hk => by simp only [hk, dif_pos]; exact (h k hk).choose_spec⟩
theorem u8_wf {a : Int} (h : (Lit.int .u8 a).wf = true) : ∃ n : Nat, a = n ∧ n < 256 := by
  simp [Lit.wf, IntKind.min, IntKind.max, IntKind.bits, IntKind.signed] at h
  exact ⟨a.toNat, by omega, by omega⟩
theorem cells_u8 : Try.prog.cellsOf 5 = 1 := by kernel_rfl
end Go.Proofs.Ythmfdabndfobcaa
set_option maxRecDepth 100000
namespace Go.Proofs.Ythmfdabndfobcaa
open Go.ChangeShapes Go.WideShapes Go.ChangeAt Go.RowKit Go.Deep
section
variable {H : Type} {enc : TypeId × Value → H} {w : World} {base : Nat} {spare : Nat → Bool} {held : Bool}
theorem trod_ar {T : TypeId} {n : Nat} (hT : Try.prog.underlying T = some (.array n 5)) (hc : Try.prog.cellsOf T = n) {fuel : Nat} {cs : List Value} {x : DataW H × List MemPlace} (h : DataW.trod enc Try.prog w base spare held fuel T cs = some x) : ∃ f : Nat → Nat, (∀ k, f k < 256) ∧ cs = (ar n f).toList := by
  obtain ⟨xs, m, rfl, rfl, hlen, hxl, hx⟩ := DataW.trod_array hT h
  rw [hc] at hlen
  have hk : ∀ k, k < n → ∃ n : Nat, n < 256 ∧ cs[k]? = some (.int .u8 n) := fun k hk => by
    have h1 := hx k hk
    rw [cells_u8, Nat.mul_one, List.getElem?_eq_getElem (by omega)] at h1
    obtain ⟨n, e1, e2, wf⟩ := DataW.trod_int Try.underlying5 h1
    obtain ⟨n, rfl, hn⟩ := u8_wf wf
    refine ⟨n, hn, ?_⟩
    have : ((cs.drop k).take 1)[0]? = some (.int .u8 n) := by rw [e1]; rfl
    rw [List.getElem?_take_of_lt (by omega), List.getElem?_drop] at this
    exact this
  obtain ⟨f, hf⟩ := choose_lt hk
  refine ⟨fun k => if k < n then f k else 0, fun k => ?_, ?_⟩
  · by_cases h : k < n
    · simp only [h, if_true]; exact (hf k h).1
    · simp [h]
  · apply List.ext_getElem?
    intro k
    have e : (ar n fun k => if k < n then f k else 0).toList[k]? = if k < n then some (.int .u8 ((if k < n then f k else 0 : Nat) : Int)) else none := by
      rw [Array.getElem?_toList]
      exact get_row k
    rw [e]
    by_cases h : k < n
    · rw [if_pos h, if_pos h]; exact (hf k h).2
    · rw [if_neg h, List.getElem?_eq_none (by omega)]
set_option maxRecDepth 100000 in
theorem open_ar {T : TypeId} {n : Nat} (hT : Try.prog.underlying T = some (.array n 5)) (hc : Try.prog.cellsOf T = n) {r : Reach} {b0 : Nat} {v : Value} {d : DataW H} {p : List MemPlace} (hv : Value.okWide Try.prog w r b0 T v) (h : DataW.Trod enc Try.prog w base spare held T v d p) :
    ∃ f : Nat → Nat, (∀ k, f k < 256) ∧ v = .agg (ar n f) := by
  have hv' : ∃ cs, v = .agg cs := by
    simp only [Value.okWide, hT] at hv
    obtain ⟨cs, h1, _⟩ := hv
    exact ⟨cs, h1⟩
  obtain ⟨cs, rfl⟩ := hv'
  obtain ⟨fuel, hf⟩ := h
  obtain ⟨f, h1, h2⟩ := trod_ar hT hc hf
  refine ⟨f, h1, ?_⟩
  have : cs = ar n f := by
    apply Array.ext'
    exact h2
  rw [this]
end
end Go.Proofs.Ythmfdabndfobcaa
set_option maxRecDepth 100000
namespace Go.Proofs.Ythmfdabndfobcaa
open Go.ChangeShapes Go.WideShapes Go.ChangeAt Go.RowKit Go.Deep
section
variable {H : Type} {enc : TypeId × Value → H} {w : World} {base : Nat} {spare : Nat → Bool} {held : Bool}
end
end Go.Proofs.Ythmfdabndfobcaa
set_option maxRecDepth 100000
namespace Go.Proofs.Ythmfdabndfobcaa
open Go.ChangeShapes Go.WideShapes Go.ChangeAt Go.RowKit Go.Deep
/-- A slice of structs of k cells, in one row below block B. -/
def Elems (k : Nat) (w : World) (B : Nat) (A : Option Addr) (xs : List (List Value)) : Prop :=
  0 < xs.length → ∃ b o, A = some ⟨b, o, none⟩ ∧ b < B ∧ ∀ (i : Nat) (cs : List Value), xs[i]? = some cs → ∀ (j : Nat) (v : Value), cs[j]? = some v → w.cell? ⟨b, o + i * k + j, none⟩ = some v
theorem Elems.below {k B B' : Nat} {w w' : World} {A : Option Addr} {xs : List (List Value)} (h : Elems k w B A xs) (hb : Below B' w w') (hB : B ≤ B') : Elems k w' B A xs := fun hn => by
  obtain ⟨b, o, rfl, hl, hr⟩ := h hn
  exact ⟨b, o, rfl, hl, fun i cs hi j v hj => (hb.cell (p := ⟨b, o + i * k + j, none⟩) (by show b < B'; omega)).trans (hr i cs hi j v hj)⟩
section
variable {H : Type} {enc : TypeId × Value → H} {w : World} {base : Nat} {spare : Nat → Bool} {held : Bool}
theorem open_elems {S E : TypeId} {k : Nat} {R : List Value → Prop} {r : Reach} {b0 : Nat} {v : Value} {d : DataW H} {p : List MemPlace} (hS : Try.prog.underlying S = some (.slice E)) (hk : Try.prog.cellsOf E = k) (hk0 : 0 < k)
    (hR : ∀ (fuel : Nat) (cs : List Value) (x : DataW H × List MemPlace), DataW.trod enc Try.prog w base spare held fuel E cs = some x → cs.length = k → R cs)
    (hv : Value.okWide Try.prog w r b0 S v) (h : DataW.Trod enc Try.prog w base spare held S v d p) :
    ∃ (A : Option Addr) (xs : List (List Value)) (n cap : Nat), v = .slice A n cap ∧ xs.length = n ∧ n ≤ cap ∧ cap ≤ maxLen ∧ (∀ cs ∈ xs, R cs ∧ cs.length = k) ∧ Elems k w w.heap.size A xs ∧ (A = none → n = 0 ∧ cap = 0) := by
  obtain ⟨A, n, cap, rfl⟩ := okWide_slice hS hv
  obtain ⟨fuel, hf⟩ := h
  rcases open_slice hS hf with ⟨hcs, _⟩ | ⟨a, len, cap', m, fu, D, Pl, hcs, hb, hl, hm, hmm, hx, hi⟩
  · simp [Value.cells] at hcs
    obtain ⟨rfl, rfl, rfl⟩ := hcs
    exact ⟨none, [], 0, 0, rfl, rfl, Nat.le_refl _, Nat.zero_le _, (fun x hx => by cases hx), (fun h => absurd h (by simp)), fun _ => ⟨rfl, rfl⟩⟩
  · simp [Value.cells] at hcs
    obtain ⟨rfl, rfl, rfl⟩ := hcs
    have hnm : n ≤ m := by rw [hmm]; split <;> omega
    have one : ∀ i, i < n → ∃ cs : List Value, R cs ∧ cs.length = k ∧ ∀ j, j < k → w.cell? (a.add (i * k + j)) = cs[j]? := fun i hin => by
      obtain ⟨cs', hc, ht⟩ := hi i (by omega)
      have h3 := World.cells?_some hc
      rw [hk] at h3
      refine ⟨cs', hR fu cs' _ ht h3.2.1, h3.2.1, fun j hj => ?_⟩
      have h6 := h3.2.2 j hj
      rw [Go.Deep.add_add] at h6
      exact h6
    obtain ⟨F, hF⟩ := choose_lt one
    have hg : ∀ i, ((List.range n).map F)[i]? = if i < n then some (F i) else none := fun i => by
      by_cases hi : i < n
      · rw [if_pos hi, List.getElem?_map, List.getElem?_range hi]; rfl
      · rw [if_neg hi, List.getElem?_eq_none (by simp; omega)]
    refine ⟨some a, (List.range n).map F, n, cap, rfl, by simp, hl, hm, fun l hl2 => ?_, fun hn => ?_, fun h => by cases h⟩
    · obtain ⟨i, hi2, rfl⟩ := List.mem_map.1 hl2
      exact ⟨(hF i (List.mem_range.1 hi2)).1, (hF i (List.mem_range.1 hi2)).2.1⟩
    · have hn' : 0 < n := by simpa using hn
      obtain ⟨_, h1, h0⟩ := hF 0 hn'
      have h00 := h0 0 hk0
      rw [List.getElem?_eq_getElem (by omega)] at h00
      have hsp : a.spot = none := by
        simp only [Nat.zero_mul, Nat.zero_add, Addr.add, if_true] at h00
        unfold World.cell? at h00
        split at h00
        · cases hs : a.spot with
          | none => rfl
          | some s => simp [hs] at h00
        · cases h00
      have hblk : a.block < w.heap.size := by
        have := World.block_lt_of_cell? w _ h00
        simpa [Addr.add] using this
      obtain ⟨b, o, sp⟩ := a
      subst hsp
      refine ⟨b, o, rfl, hblk, fun i cs hi2 j v hj => ?_⟩
      rw [hg] at hi2
      split at hi2
      · rename_i hin
        obtain rfl := Option.some.inj hi2
        obtain ⟨_, h1, h2⟩ := hF i hin
        have hjk : j < k := by have := (List.getElem?_eq_some_iff.1 hj).1; omega
        have h3 := h2 j hjk
        rw [Addr.add_mid, hj, ← Nat.add_assoc] at h3
        exact h3
      · cases hi2
end
end Go.Proofs.Ythmfdabndfobcaa
set_option maxRecDepth 100000
namespace Go.Proofs.Ythmfdabndfobcaa
open Go.ChangeShapes Go.WideShapes Go.ChangeAt Go.RowKit Go.Deep
namespace ClP
theorem cells_ce : Try.prog.cellsOf 26 = 33 := by kernel_rfl
theorem cells_tg : Try.prog.cellsOf 24 = 32 := by kernel_rfl
theorem cells_n64 : Try.prog.cellsOf 22 = 1 := by kernel_rfl
theorem cells_i64 : Try.prog.cellsOf 3 = 1 := by kernel_rfl
theorem cells_ac : Try.prog.cellsOf 39 = 33 := by kernel_rfl
theorem u64_wf {b : Int} (h : (Lit.int .u64 b).wf = true) : ∃ n : Nat, b = n := by
  simp [Lit.wf, IntKind.min, IntKind.max, IntKind.bits, IntKind.signed] at h
  exact ⟨b.toNat, by omega⟩
theorem list_33 {cs : List Value} {v : Value} {f : Nat → Nat} (hl : cs.length = 33) (h0 : (cs.drop 0).take 1 = [v]) (h1 : (cs.drop 1).take 32 = (ar 32 f).toList) : cs = v :: (ar 32 f).toList := by
  match cs, hl with
  | c :: r, hl =>
    have e0 : c = v := by simpa using h0
    have e1 : r.take 32 = (ar 32 f).toList := h1
    rw [List.take_of_length_le (by simp at hl; omega)] at e1
    rw [e0, e1]
section
variable {H : Type} {enc : TypeId × Value → H} {w : World} {base : Nat} {spare : Nat → Bool} {held : Bool}
theorem trod_ce {fuel : Nat} {cs : List Value} {x : DataW H × List MemPlace} (h : DataW.trod enc Try.prog w base spare held fuel 26 cs = some x) (hl : cs.length = 33) : ∃ y : Held, cs = ceL y := by
  obtain ⟨y0, y1, m, _, _, h0, h1⟩ := trod_struct2 Try.underlying26 h
  rw [cells_n64] at h0
  rw [cells_tg] at h1
  obtain ⟨b, e0, _, w0⟩ := DataW.trod_int Try.underlying22 h0
  obtain ⟨f, _, e1⟩ := trod_ar uTg cells_tg h1
  obtain ⟨n, rfl⟩ := u64_wf w0
  exact ⟨(n, f), list_33 hl e0 e1⟩
theorem trod_ac {fuel : Nat} {cs : List Value} {x : DataW H × List MemPlace} (h : DataW.trod enc Try.prog w base spare held fuel 39 cs = some x) (hl : cs.length = 33) : ∃ y : Act12, cs = acL y := by
  obtain ⟨y0, y1, m, _, _, h0, h1⟩ := trod_struct2 Try.underlying39 h
  rw [cells_i64] at h0
  rw [cells_tg] at h1
  obtain ⟨b, e0, _, _⟩ := DataW.trod_int Try.underlying3 h0
  obtain ⟨f, _, e1⟩ := trod_ar uTg cells_tg h1
  exact ⟨(b, f), list_33 hl e0 e1⟩
theorem open_cell {r : Reach} {b0 : Nat} {v : Value} {d : DataW H} {p : List MemPlace} (hv : Value.okWide Try.prog w r b0 26 v) (h : DataW.Trod enc Try.prog w base spare held 26 v d p) :
    ∃ (c : Nat) (l : Nat → Nat), v = .agg (ceL (c, l)).toArray := by
  obtain ⟨cs, rfl, hsz⟩ := okWide_struct Try.underlying26 hv
  rw [cells_ce] at hsz
  obtain ⟨fuel, hf⟩ := h
  obtain ⟨y, hy⟩ := trod_ce hf (by rw [Array.length_toList]; exact hsz)
  refine ⟨y.1, y.2, ?_⟩
  congr 1
  apply Array.ext'
  exact hy
theorem sli_of_elems {α : Type} {k n cap : Nat} {en : α → List Value} {A : Option Addr} {xs : List (List Value)} (hn : xs.length = n) (hc : n ≤ cap) (hm : cap ≤ maxLen) (hx : ∀ cs ∈ xs, ∃ x, cs = en x) (he : Elems k w w.heap.size A xs) (h0 : A = none → n = 0 ∧ cap = 0) :
    ∃ l : List α, Sli k en (fun b => b < w.heap.size) w A l n cap := by
  have key : ∀ ys : List (List Value), (∀ cs ∈ ys, ∃ x, cs = en x) → ∃ l : List α, ys = l.map en := fun ys => by
    induction ys with
    | nil => exact fun _ => ⟨[], rfl⟩
    | cons y ys ih =>
      intro h
      obtain ⟨x, hx⟩ := h y List.mem_cons_self
      obtain ⟨l, hl⟩ := ih fun cs hcs => h cs (List.mem_cons_of_mem _ hcs)
      exact ⟨x :: l, by rw [List.map_cons, ← hx, ← hl]⟩
  obtain ⟨l, rfl⟩ := key xs hx
  rw [List.length_map] at hn
  refine ⟨l, hn, hc, hm, h0, fun hp => ?_⟩
  obtain ⟨b, o, e, hb, hr⟩ := he (by rw [List.length_map]; exact hp)
  exact ⟨b, o, e, hb, hb, fun i x hi j v hj => hr i (en x) (by rw [List.getElem?_map, hi]; rfl) j v hj⟩
theorem open_tags {r : Reach} {b0 : Nat} {v : Value} {d : DataW H} {p : List MemPlace} (hv : Value.okWide Try.prog w r b0 53 v) (h : DataW.Trod enc Try.prog w base spare held 53 v d p) :
    ∃ (A : Option Addr) (la : List (Nat → Nat)) (n cap : Nat), v = .slice A n cap ∧ Sli 32 tgL (fun b => b < w.heap.size) w A la n cap := by
  obtain ⟨A, xs, n, cap, rfl, hlen, hc, hm, hR, he, h0⟩ := open_elems (k := 32) (R := fun cs => ∃ f : Nat → Nat, cs = tgL f) Try.underlying53 cells_tg (by omega) (fun fuel cs x h _ => by obtain ⟨f, _, e⟩ := trod_ar uTg cells_tg h; exact ⟨f, e⟩) hv h
  obtain ⟨l, hl⟩ := sli_of_elems hlen hc hm (fun cs hcs => (hR cs hcs).1) he h0
  exact ⟨A, l, n, cap, rfl, hl⟩
theorem open_acts12 {r : Reach} {b0 : Nat} {v : Value} {d : DataW H} {p : List MemPlace} (hv : Value.okWide Try.prog w r b0 27 v) (h : DataW.Trod enc Try.prog w base spare held 27 v d p) :
    ∃ (A : Option Addr) (la : List Act12) (n cap : Nat), v = .slice A n cap ∧ Sli 33 acL (fun b => b < w.heap.size) w A la n cap := by
  obtain ⟨A, xs, n, cap, rfl, hlen, hc, hm, hR, he, h0⟩ := open_elems (k := 33) (R := fun cs => ∃ y : Act12, cs = acL y) Try.underlying27 cells_ac (by omega) (fun fuel cs x h hl => trod_ac h hl) hv h
  obtain ⟨l, hl⟩ := sli_of_elems hlen hc hm (fun cs hcs => (hR cs hcs).1) he h0
  exact ⟨A, l, n, cap, rfl, hl⟩
end
end ClP
end Go.Proofs.Ythmfdabndfobcaa
set_option maxRecDepth 100000
namespace Go.Proofs.Ythmfdabndfobcaa
open Go.ChangeShapes Go.WideShapes Go.ChangeAt Go.RowKit
attribute [local go_sem] Gives GivesE
section
variable {α : Type} {k : Nat} {en : α → List Value} {E L : TypeId} {S : Nat → Prop} {w : World} {a : Act} {dst : Option Tmp} {ty : TypeId} {pos : String} {after : Array Edge} {gd : Option (Nat × Bool)} {R : Value → World → Prop} {o1 o2 : Operand} {v : Value} {l m : List α} {A : Option Addr} {n cap B : Nat}
/-- An append's result lies where the slice lay, or anew: then nothing of old is turned. -/
theorem run_appX_grown (hE : EltX E k en) (hu : Try.prog.underlying L = some (.slice E)) (hown : OwnX E k en w B v l) (hm : Sli k en S w A m n cap) (hsz : l.length + n ≤ 1000000) (hk : k ≤ 1000) {v' : Value} {w' : World}
    (hr : (Builtin.append_ #[L, L] ty #[v, .slice A n cap]).run Try.prog w = .ok v' w') : v'.ownBlock = v.ownBlock ∨ v'.ownBlock = some w.heap.size ∧ Below w.heap.size w w' := by
  obtain ⟨i, z, hi, hz, h1, h2, h3⟩ := hE.info
  cases A with
  | none =>
    obtain ⟨rfl, rfl⟩ := hm.none rfl
    rw [run_append_owned_none (P := Try.prog) w B L ty E i k hu hi v l.length _ hown] at hr
    cases hr
    exact .inl rfl
  | some ad =>
    have hbytes : (l.length + n) * i.bytes ≤ 140737488355328 := Nat.le_trans (Nat.mul_le_mul hsz (Nat.le_trans h2 (show 16 * k + 16 ≤ 16016 by omega))) (by omega)
    have hl1 : (m.flatMap en).length = n * i.size := by rw [flat_len hE.len, hm.len, h1]
    have hne := flat_read hE hm
    have hone : ∀ u ∈ m.flatMap en, u.oneCell' = true := fun u hu => by obtain ⟨x, _, hx⟩ := List.mem_flatMap.1 hu; exact hE.one x u hx
    rcases hown.2 with ⟨rfl, h0⟩ | ⟨g, c, cur, rfl, hB, hg, hnc, hcm, hcs, ht⟩
    · by_cases hn0 : n = 0
      · subst hn0
        have hn : m = [] := List.eq_nil_of_length_eq_zero hm.len
        subst hn
        left
        have hrun : (Builtin.append_ #[L, L] ty #[.slice none 0 0, .slice (some ad) 0 cap]).run Try.prog w = .ok (.slice none 0 0) w := by
          simp [Builtin.append_, run_underlying hu, sizeOf, typeInfo, hi, Builtin.lenOf, Builtin.firstCells, loadCells, loadCellsFrom]
        rw [hrun] at hr
        cases hr
        rfl
      · right
        rw [h0, Nat.zero_add] at hbytes
        have hrun := run_append_nil (P := Try.prog) w L ty E i z hu hi hz ad n cap _ hl1 hne (by omega) (by omega) (by omega)
        rw [hrun] at hr
        cases hr
        exact ⟨rfl, (Below.refl _ _).drew.alloc (Nat.le_refl _) _⟩
    · by_cases hroom : l.length + n ≤ c
      · left
        have hrun := run_append_room (P := Try.prog) w L ty E i hu hi g l.length c cur hg ad n cap _ hl1 hne hone hroom (by
          rw [h1, flat_len hE.len, hm.len, hcs, ← Nat.add_mul]; exact Nat.mul_le_mul_right k hroom)
        rw [hrun] at hr
        cases hr
        rfl
      · right
        have hown' : w.ownsRow B E i.size (.slice (some ⟨g, 0, none⟩) l.length c) l.length (l.flatMap en) := by rw [h1]; exact hown
        have holds : ∀ j u, (l.flatMap en)[j]? = some u → w.cell? ((⟨g, 0, none⟩ : Addr).add j) = some u := hown'.cells (g := g) rfl
        have hrun := run_append_grow (P := Try.prog) w L ty E i z hu hi hz ⟨g, 0, none⟩ l.length c (l.flatMap en) (by rw [flat_len hE.len, h1]) holds ad n cap _ hl1 hne (by omega) (by omega) (growslice_fits (by omega) hbytes)
        rw [hrun] at hr
        cases hr
        exact ⟨rfl, (Below.refl _ _).drew.alloc (Nat.le_refl _) _⟩
theorem take_app (x y : List Value) (z : Array Value) (n : Nat) (hn : n = x.length + y.length) : (x.toArray ++ y.toArray ++ z).toList.take n = x ++ y := by
  subst hn
  simp [List.take_append, List.take_of_length_le]
/-- An append to a slice that is full and not empty: a row of its own. -/
theorem run_fullX (hE : EltX E k en) (hu : Try.prog.underlying L = some (.slice E)) {T : Nat → Prop} {j cB : Nat} {b1 b2 : Addr} (h : Sli k en S w (some b1) l n n) (hm : Sli k en T w (some b2) m j cB) (hj : 0 < j) (hsz : n + j ≤ 1000000) (hk : k ≤ 1000) :
    ∃ c' w', (Builtin.append_ #[L, L] ty #[.slice (some b1) n n, .slice (some b2) j cB]).run Try.prog w = .ok (.slice (some ⟨w.heap.size, 0, none⟩) (n + j) c') w' ∧ OwnX E k en w' w.heap.size (.slice (some ⟨w.heap.size, 0, none⟩) (n + j) c') (l ++ m) ∧ Below w.heap.size w w' := by
  obtain ⟨i, z, hi, hz, h1, h2, h3⟩ := hE.info
  have hbytes : (n + j) * i.bytes ≤ 140737488355328 := Nat.le_trans (Nat.mul_le_mul hsz (Nat.le_trans h2 (show 16 * k + 16 ≤ 16016 by omega))) (by omega)
  have hlm : (m.flatMap en).length = j * i.size := by rw [flat_len hE.len, hm.len, h1]
  have hll : (l.flatMap en).length = n * i.size := by rw [flat_len hE.len, h.len, h1]
  have hr := run_append_grow (P := Try.prog) w L ty E i z hu hi hz b1 n n (l.flatMap en) hll (flat_read hE h) b2 j cB (m.flatMap en) hlm (flat_read hE hm) (by omega) (by omega) (growslice_fits (by omega) hbytes)
  have hc := grownCap_ge w (n + j) n E
  have hcm : grownCap w (n + j) n E ≤ maxLen := grownCap_le_maxLen _ _ _ _ (by unfold maxLen; omega)
  refine ⟨_, _, hr, ⟨?_, .inr ⟨w.heap.size, _, _, ?_, Nat.le_refl _, heap_alloc_new w.drew _, ?_, hcm, ?_, ?_⟩⟩, (Below.refl _ _).drew.alloc (Nat.le_refl _) _⟩
  · rw [flat_len hE.len]
  · rw [List.length_append, h.len, hm.len]
  · rw [List.length_append, h.len, hm.len]; exact hc
  · simp only [Array.size_append, List.size_toArray, size_zeroCells, h3]
    rw [hll, hlm, h1, ← Nat.add_mul, ← Nat.add_mul]
    congr 1
    omega
  · rw [List.flatMap_append]
    exact take_app _ _ _ _ (by rw [hll, hlm, h1, List.length_append, h.len, hm.len, Nat.add_mul])
end
namespace ClP
theorem TurnC.refl (M : Cs) (w : World) : TurnC M w w := ⟨Turn.refl _ _, fun _ _ _ _ => rfl⟩
theorem TurnC.trans {M N : Cs} {w w' w2 : World} (h : TurnC M w w') (h2 : TurnC N w' w2) (hT : ∀ p, N p → M p ∨ w.heap.size ≤ p.1) : TurnC M w w2 where
  out := h.out.trans h2.out fun k e => e.elim fun i e => (hT (k, i) e).imp (fun x => ⟨i, x⟩) id
  cell b i hb hn := (h2.cell b i (Nat.lt_of_lt_of_le hb h.size) fun e => (hT _ e).elim hn fun h3 => absurd hb (Nat.not_lt.2 h3)).trans (h.cell b i hb hn)
theorem TurnC.of_new {M : Cs} {w w' : World} (h : Below w.heap.size w w') : TurnC M w w' where
  out := Turn.of_new h
  cell b i hb _ := World.cell?_of_block (h.block b hb)
/-- A history: of the cell's own, or one that is full; it lies in block b from its start on. -/
structure Hst (w : World) (own : Bool) (b : Nat) (v : Value) (L : List Held) : Prop where
  pos : 0 < L.length
  lt : b < w.heap.size
  sli : ∃ c, v = .slice (some ⟨b, 0, none⟩) L.length c ∧ Sli 33 ceL (fun x => x = b) w (some ⟨b, 0, none⟩) L L.length c ∧ (own = false → c = L.length)
  lg : own = true → OwnX 26 33 ceL w 0 v L
def tailC (own : Bool) (b n : Nat) : Cs := fun p => own = true ∧ p.1 = b ∧ n * 33 ≤ p.2
theorem own_sli {w : World} {v : Value} {L : List Held} {b : Nat} (h : OwnX 26 33 ceL w 0 v L) (hv : v.ownBlock = some b) : b < w.heap.size ∧ ∃ c, v = .slice (some ⟨b, 0, none⟩) L.length c ∧ Sli 33 ceL (fun x => x = b) w (some ⟨b, 0, none⟩) L L.length c := by
  refine ⟨(h.own b hv).2, ?_⟩
  have h2 := h.2
  obtain ⟨A, c, rfl, s⟩ := h.sli ceL_len
  rcases h2 with ⟨e, _⟩ | ⟨g, cap, cur, e, _⟩
  · rw [e] at hv; cases hv
  · rw [e] at hv
    obtain rfl : g = b := by cases hv; rfl
    cases e
    refine ⟨c, rfl, s.len, s.cap, s.max, (fun e => by cases e), fun hn => ?_⟩
    obtain ⟨b', o', e', _, hl, hr⟩ := s.lst hn
    cases e'
    exact ⟨g, 0, rfl, rfl, hl, hr⟩
theorem hst_own {w : World} {v : Value} {L : List Held} {b : Nat} (h : OwnX 26 33 ceL w 0 v L) (hv : v.ownBlock = some b) (hL : 0 < L.length) : Hst w true b v L := by
  obtain ⟨h1, c, h2, h3⟩ := own_sli h hv
  exact ⟨hL, h1, ⟨c, h2, h3, fun e => by cases e⟩, fun _ => h⟩
theorem Hst.turn {w w' : World} {own : Bool} {b : Nat} {v : Value} {L : List Held} {T : Cs} (h : Hst w own b v L) (ht : TurnC T w w') (h1 : ∀ p, p.1 = b → p.2 < L.length * 33 → ¬ T p) (h2 : ∀ p, tailC own b L.length p → ¬ T p) : Hst w' own b v L := by
  refine ⟨h.pos, Nat.lt_of_lt_of_le h.lt ht.size, ?_, fun e => ?_⟩
  · obtain ⟨c, e, s, f⟩ := h.sli
    refine ⟨c, e, ⟨s.len, s.cap, s.max, s.none, fun hn => ?_⟩, f⟩
    obtain ⟨b', o', e', hb', hl, hr⟩ := s.lst hn
    cases e'
    refine ⟨b, 0, rfl, rfl, Nat.lt_of_lt_of_le hl ht.size, fun q x hq j u hj => ?_⟩
    have hq' := (List.getElem?_eq_some_iff.1 hq).1
    have hj' : j < 33 := by have := (List.getElem?_eq_some_iff.1 hj).1; rwa [ceL_len] at this
    rw [ht.cell b _ hl (h1 (b, 0 + q * 33 + j) rfl (show 0 + q * 33 + j < L.length * 33 by omega))]
    exact hr q x hq j u hj
  · subst e
    refine (h.lg rfl).turn ht.out fun b' hb' ⟨i, hi⟩ => ?_
    obtain ⟨c, e, _⟩ := h.sli
    rw [e] at hb'
    obtain rfl : b = b' := by cases hb'; rfl
    by_cases hlt : i < L.length * 33
    · exact h1 (b, i) rfl hlt hi
    · exact h2 (b, i) ⟨rfl, rfl, Nat.not_lt.1 hlt⟩ hi
theorem Hst.below {w w' : World} {own : Bool} {b : Nat} {v : Value} {L : List Held} (h : Hst w own b v L) (hb : Below w.heap.size w w') : Hst w' own b v L :=
  h.turn (T := fun _ => False) (TurnC.of_new hb) (fun _ _ _ e => e) fun _ _ e => e
theorem run_app1 {w : World} {own : Bool} {b : Nat} {v : Value} {L : List Held} {x : Held} {S : Nat → Prop} {A : Option Addr} {c : Nat} {ty : TypeId} (h : Hst w own b v L) (hm : Sli 33 ceL S w A [x] 1 c) (hsz : L.length ≤ 10000) :
    ∃ v' w' b', (Builtin.append_ #[48, 48] ty #[v, .slice A 1 c]).run Try.prog w = .ok v' w' ∧ Hst w' true b' v' (L ++ [x]) ∧ (own = true ∧ b' = b ∨ w.heap.size ≤ b') ∧ TurnC (tailC own b L.length) w w' := by
  obtain ⟨ad, rfl⟩ : ∃ ad, A = some ad := by
    cases A with
    | none => have := hm.none rfl; omega
    | some ad => exact ⟨ad, rfl⟩
  have hp : 0 < (L ++ [x]).length := by rw [List.length_append, List.length_cons]; omega
  cases own with
  | true =>
    have ho := h.lg rfl
    obtain ⟨c0, hv, s0, _⟩ := h.sli
    obtain ⟨v', w', hr, h1, h2⟩ := run_appX (ty := ty) eltCe undCe ho hm (by omega) (by omega) (Nat.zero_le _)
    have hw := run_appX_grown eltCe undCe ho hm (by omega) (by omega) hr
    have hvb : v.ownBlock = some b := by rw [hv]; rfl
    rcases hw with hw | ⟨hw, hb⟩
    · rw [hvb] at hw
      have H' := hst_own h1 hw hp
      refine ⟨v', w', b, hr, H', .inl ⟨rfl, rfl⟩, ?_, ?_⟩
      · exact (Turn.of_grown (S := fun k => k = b) h2 fun k e => by rw [hvb] at e; cases e; rfl).mono fun k e => ⟨L.length * 33, rfl, e, Nat.le_refl _⟩
      · intro b' i hb' hn
        by_cases e : b' = b
        · subst e
          have hi : i < L.length * 33 := Nat.lt_of_not_le fun e => hn ⟨rfl, rfl, e⟩
          obtain ⟨c1, _, s1, _⟩ := H'.sli
          obtain ⟨u, hu⟩ : ∃ u, (L.flatMap ceL)[i]? = some u := ⟨_, List.getElem?_eq_getElem (by rw [flat_len ceL_len]; exact hi)⟩
          have e0 := flat_read eltCe s0 i u hu
          have e1 := flat_read eltCe s1 i u (by rw [List.flatMap_append, List.getElem?_append_left (by rw [flat_len ceL_len]; exact hi)]; exact hu)
          rw [Addr.add_mid, Nat.zero_add] at e0 e1
          rw [e0, e1]
        · exact World.cell?_of_block (h2.block b' hb' fun f => e (by rw [hvb] at f; cases f; rfl))
    · exact ⟨v', w', w.heap.size, hr, hst_own h1 hw hp, .inr (Nat.le_refl _), TurnC.of_new hb⟩
  | false =>
    obtain ⟨c0, rfl, s0, f⟩ := h.sli
    obtain rfl := f rfl
    obtain ⟨c', w', hr, h1, h2⟩ := run_fullX (ty := ty) eltCe undCe s0 hm (by omega) (by omega) (by omega)
    exact ⟨_, w', w.heap.size, hr, hst_own (h1.lower (Nat.zero_le _)) rfl hp, .inr (Nat.le_refl _), TurnC.of_new h2⟩
section
variable {a : Act} {w : World} {dst : Option Tmp} {ty : TypeId} {pos : String} {after : Array Edge} {gd : Option (Nat × Bool)} {R : Value → World → Prop} {o1 o2 : Operand} {own : Bool} {b : Nat} {v : Value} {L : List Held} {x : Held} {S : Nat → Prop} {A : Option Addr} {c : Nat}
theorem gE_app1 (hx : a.eval o1 = v) (hy : a.eval o2 = .slice A 1 c) (h : Hst w own b v L) (hm : Sli 33 ceL S w A [x] 1 c) (hsz : L.length ≤ 10000)
    (hR : ∀ v' w' b', Hst w' true b' v' (L ++ [x]) → (own = true ∧ b' = b ∨ w.heap.size ≤ b') → TurnC (tailC own b L.length) w w' → R v' w') :
    GivesE Try.prog ⟨dst, .call { callee := .builtin .append, args := #[o1, o2], argTypes := #[48, 48] }, ty, pos, after, gd⟩ a w R := by
  obtain ⟨v', w', b', hr, h1, h2, h3⟩ := run_app1 (ty := ty) h hm hsz
  unfold GivesE execOp
  simp only [resolve, invoke, builtin, Sem.run_bind, Sem.run_pure, Result.andThen_ok, List.map_toArray, List.map_cons, List.map_nil, hx, hy, hr]
  exact hR v' w' b' h1 h2 h3
end
/-- What holds in the midst of an append of one element to a history. -/
structure ApH (w0 : World) (own : Bool) (bk : Nat) (L : List Held) (x : Held) (d8 d9 : Bool) (v8 v9 : Value) (w' : World) : Prop where
  t : TurnC (tailC own bk L.length) w0 w'
  b : d9 = false → Below w0.heap.size w0 w'
  lit : d8 = true → d9 = false → ∃ A c, v8 = .slice A 1 c ∧ Sli 33 ceL (fun b => w0.heap.size ≤ b) w' A [x] 1 c
  own : d9 = true → ∃ b', Hst w' true b' v9 (L ++ [x]) ∧ (own = true ∧ b' = bk ∨ w0.heap.size ≤ b')
end ClP
end Go.Proofs.Ythmfdabndfobcaa
set_option maxRecDepth 100000
namespace Go.Proofs.Ythmfdabndfobcaa
open Go.ChangeShapes Go.WideShapes Go.ChangeAt Go.RowKit
attribute [local go_sem] Gives GivesE
theorem ret_rowt' {a : Act} {w : World} {g : Nat} {t T : TypeId} {cs : Array Value} {fn : Func} {R : Ending → World → Prop} {p q : Tmp} {v : Value} (hT : RowT T cs.size) (hr : fn.results = #[.cell p T, .tmp q]) (hp : a.tmps.getD p undef = .pointer (some ⟨g, 0, none⟩))
    (hq : a.tmps.getD q undef = v) (hdf : a.defers = []) (hb : Blk w g t cs) (hR : R (.returned (.tuple #[.agg cs, v])) w) : bodyPost Try.prog fn R .ret a w := by
  obtain ⟨d, h1, h2⟩ := hT.desc
  refine bodyPost_ret ?_ hdf hR
  have hv : (loadVar T ⟨g, 0, none⟩).run Try.prog w = .ok (.agg cs) w := run_loadVar_row w g _ _ cs (0, 0) _ hb h1 (by cases d <;> first | rfl | exact h2) hT.size
  have hp' : a.tmps[p]?.getD undef = .pointer (some ⟨g, 0, none⟩) := by simpa using hp
  have hq' : a.tmps[q]?.getD undef = v := by simpa using hq
  simp [results, hr, hp', hq', asAddr, hv]
namespace ClP
def pcF (m : Bool) (h : Held) (v : Value) (j : Nat) : Value := if j = 0 then .bool m else if j = 34 then v else (ceL h).getD (j - 1) undef
def pcV (m : Bool) (h : Held) (v : Value) : Array Value := row 35 (pcF m h v)
section
variable {w : World} {g : Nat} {m : Bool} {h : Held} {v : Value} {t : TypeId}
theorem pc_m (H : Blk w g t (pcV m h v)) : w.cell? ⟨g, 0, none⟩ = some (.bool m) := by
  rw [H.cell, pcV, get_row_lt (by omega)]; rfl
theorem pc_v (H : Blk w g t (pcV m h v)) : w.cell? ⟨g, 34, none⟩ = some v := by
  rw [H.cell, pcV, get_row_lt (by omega)]; rfl
theorem pc_h (H : Blk w g t (pcV m h v)) : w.rangeAt g 1 (ceL h) := fun j u hj => by
  have hlt : j < 33 := by have := (List.getElem?_eq_some_iff.1 hj).1; rwa [ceL_len] at this
  rw [H.cell, pcV, get_row_lt (by omega)]
  unfold pcF
  rw [if_neg (by omega), if_neg (by omega), show 1 + j - 1 = j by omega, List.getD_eq_getElem?_getD, hj]; rfl
theorem pc_c (H : Blk w g t (pcV m h v)) : w.cell? ⟨g, 1, none⟩ = some (.int .u64 (h.1 : Nat)) := ce_n (pc_h H)
theorem pc_setV (H : Blk w g t (pcV m h v)) (v' : Value) : Blk (w.setCell ⟨g, 34, none⟩ v') g t (pcV m h v') := by
  have h1 := H.setCell_same 34 v'
  rw [pcV, row_set, row_ext (g := pcF m h v') fun j hj => by
    unfold pcF
    by_cases e : j = 34
    · subst e; rfl
    · rw [if_neg e, if_neg e, if_neg e]] at h1
  exact h1
theorem pc_setH (H : Blk w g t (pcV m h v)) (p : Held) : Blk (w.setCells g 1 (ceL p).toArray.toList) g t (pcV m p v) := by
  have h1 := (blk_setCells (ceL p).toArray.toList 1 w (pcF m h v) H (by simp [ceL_len])).1
  have hlen : (ceL p).length = 33 := ceL_len p
  rw [row_ext (g := pcF m p v) fun j hj => by
    show (if 1 ≤ j ∧ j < 1 + (ceL p).length then (ceL p).getD (j - 1) undef else pcF m h v j) = _
    rw [hlen]
    unfold pcF
    by_cases e : 1 ≤ j ∧ j < 1 + 33
    · rw [if_pos e, if_neg (by omega), if_neg (by omega)]
    · rw [if_neg e]
      by_cases e0 : j = 0
      · rw [if_pos e0, if_pos e0]
      · rw [if_neg e0, if_neg e0, if_pos (by omega), if_pos (by omega)]] at h1
  exact h1
theorem pc_there (H : Blk w g t (pcV m h v)) {o n : Nat} (hm : o + n ≤ 35) : w.there g o n := there_of (t := t) (cur := pcV m h v) H (by rw [pcV, size_row]; exact hm)
end
theorem built_pc (h : Held) (A : Option Addr) (n k : Nat) : Try.prog.built 56 [(0, .bool true), (1, .agg (ceL h).toArray), (2, .slice A n k)] = some (pcV true h (.slice A n k)) := by kernel_rfl
theorem built_pn (h : Held) : Try.prog.built 56 [(0, .bool true), (1, .agg (ceL h).toArray)] = some (pcV true h (.slice none 0 0)) := by kernel_rfl
/-- Block g holds a cell that holds h, and has held H ahead of it. -/
structure Pc (w : World) (g : Nat) (v : Value) (H : List Held) (h : Held) : Prop where
  blk : Blk w g 56 (pcV true h v)
  hs : OwnX 26 33 ceL w 0 v H
  nil : H = [] → v = .slice none 0 0
def mutC (g : Nat) (v : Value) : Cs := fun p => p.1 = g ∨ v.ownBlock = some p.1
def mutB (g : Nat) (v : Value) (b : Nat) : Prop := b = g ∨ v.ownBlock = some b
def repC : RepC := fun w g M I L h => ∃ H v, Pc w g v H h ∧ L = H ++ [h] ∧ M = mutC g v ∧ I = fun _ => False
section
variable {w w' : World} {g : Nat} {v : Value} {H : List Held} {h : Held}
theorem Pc.ne (P : Pc w g v H h) : v.ownBlock ≠ some g := fun e => by
  obtain ⟨c, hc⟩ := P.hs.obj e
  have h2 : w.heap[g]? = some (.cells _ 56 (0, 0)) := P.blk
  rw [hc] at h2
  simp at h2
theorem Pc.turn {T : Nat → Prop} (P : Pc w g v H h) (ht : Turn T w w') (hT : ∀ b, mutB g v b → ¬ T b) : Pc w' g v H h where
  blk := P.blk.turn ht (hT g (.inl rfl))
  hs := P.hs.turn ht fun b hb => hT b (.inr hb)
  nil := P.nil
theorem Pc.below (P : Pc w g v H h) (hb : Below w.heap.size w w') : Pc w' g v H h :=
  P.turn (T := fun _ => False) (Turn.of_new hb) fun _ _ e => e
theorem made_any (P : Pc w g v H h) : Calls Try.prog 18 #[ptr' g] w fun e w' => e = .returned (.bool true) ∧ w' = w := by
  have p0 := pc_m P.blk
  unfold ptr'
  clear P
  go_enter Try.func18, Try.ntmps18
  go_wp2_with fail
  go_ret
  exact ⟨rfl, rfl⟩
section
variable {ops : Array Oper} {Q : Exit → Act → World → Prop} {a : Act} {w : World} {rest : List Oper} {dst : Option Tmp} {ty : TypeId} {pos : String} {after : Array Edge} {x y : Operand} {n k : Nat} {h : Held} {A : Option Addr}
theorem wblP (hx : a.eval x = .agg (ceL h).toArray) (hy : a.eval y = .slice A n k) (hk : wpList Try.prog ops Q rest (a.put dst (.agg (pcV true h (.slice A n k)))) w) : wpList Try.prog ops Q (⟨dst, .build 56 #[(0, .const (.bool true)), (1, x), (2, y)], ty, pos, after, none⟩ :: rest) a w := by
  have hr : (Instr.build 56 #[(0, .bool true), (1, .agg (ceL h).toArray), (2, .slice A n k)]).run Try.prog w = .ok (.agg (pcV true h (.slice A n k))) w := run_build w _ _ _ (built_pc h A n k)
  have hm : (#[(0, .const (.bool true)), (1, x), (2, y)] : Array (Nat × Operand)).map (fun (i, x) => (i, a.eval x)) = #[(0, .bool true), (1, .agg (ceL h).toArray), (2, .slice A n k)] := by
    simp only [List.map_toArray, List.map_cons, List.map_nil, hx, hy]; rfl
  refine wpList_plain rfl fun K hK => ?_
  unfold Oper.wp execOp
  simp only [Sem.run_bind, hm, hr, Result.andThen_ok, Sem.run_pure]
  exact hK _ _ hk
theorem wblN (hx : a.eval x = .agg (ceL h).toArray) (hk : wpList Try.prog ops Q rest (a.put dst (.agg (pcV true h (.slice none 0 0)))) w) : wpList Try.prog ops Q (⟨dst, .build 56 #[(0, .const (.bool true)), (1, x)], ty, pos, after, none⟩ :: rest) a w := by
  have hr : (Instr.build 56 #[(0, .bool true), (1, .agg (ceL h).toArray)]).run Try.prog w = .ok (.agg (pcV true h (.slice none 0 0))) w := run_build w _ _ _ (built_pn h)
  have hm : (#[(0, .const (.bool true)), (1, x)] : Array (Nat × Operand)).map (fun (i, x) => (i, a.eval x)) = #[(0, .bool true), (1, .agg (ceL h).toArray)] := by
    simp only [List.map_toArray, List.map_cons, List.map_nil, hx]; rfl
  refine wpList_plain rfl fun K hK => ?_
  unfold Oper.wp execOp
  simp only [Sem.run_bind, hm, hr, Result.andThen_ok, Sem.run_pure]
  exact hK _ _ hk
end
set_option maxHeartbeats 600000 in
set_option maxRecDepth 100000 in
theorem pread_any (P : Pc w g v H h) : Calls Try.prog 14 #[ptr' g] w fun e w' => e = .returned (.tuple #[.agg (ceL h).toArray, .int .i64 0]) ∧ Below w.heap.size w w' := by
  have HH := hid P
  clear P
  unfold ptr'
  go_enter Try.func14, Try.ntmps14
  go_upto_region 1 with (with_reducible apply alZ' zCe)
  generalize hw1 : World.alloc w _ = w1
  have b1 := hid (show Blk w1 w.heap.size 26 (ceL (0, zero)).toArray by rw [← hw1]; exact Blk.new _ _ _)
  have BEL := hid (show Below w.heap.size w w1 by rw [← hw1]; exact (Below.refl _ _).alloc (Nat.le_refl _) _)
  have H1 := hid (HH.out.below BEL.out)
  clear hw1 HH
  go_wp2_with fail
  refine (made_any H1.out).mono ?_
  rintro e w2 ⟨rfl, rfl⟩
  have b3 := b1.out.setRow_same (ceL h).toArray
  have B3 := hid (below_setRow BEL.out (Nat.le_refl w.heap.size) (ceL h).toArray)
  go_wp2_with (first | ((with_reducible apply ldR (cs := (ceL h).toArray) (tCe h)); rfl; exact pc_h H1.out.blk) | ((with_reducible apply stR (tCe h)); rfl; rfl; exact b1.out; exact ce_size _ _; exact ce_one _))
  apply ret_rowt' (tCe h) Try.results14
  · rfl
  · rfl
  · rfl
  · exact b3
  exact ⟨rfl, B3.out⟩
end
set_option maxHeartbeats 600000 in
set_option maxRecDepth 100000 in
theorem pnew_any (c : Nat) (l : Nat → Nat) (hc : c ≤ most) (w : World) :
    Calls Try.prog 7 #[.agg (ceL (c, l)).toArray] w fun e w' => ∃ g, e = .returned (.tuple #[ptr' g, .int .i64 0]) ∧ Pc w' g (.slice none 0 0) [] (c, l) ∧ w.heap.size ≤ g ∧ Below w.heap.size w w' := by
  unfold ptr'
  have t1 : decide ((4611686018427387904 : Int) < (c : Int)) = false := by unfold most at hc; simp; omega
  have t2 : ¬ 4611686018427387904 < c := by unfold most at hc; omega
  clear hc
  go_enter Try.func7, Try.ntmps7
  go_upto_region 1 with fail
  generalize hw1 : World.alloc w _ = w1
  have b1 := hid (show Blk w1 w.heap.size 26 (ceL (c, l)).toArray by rw [← hw1]; exact Blk.new _ _ _)
  have BEL := hid (show Below w.heap.size w w1 by rw [← hw1]; exact (Below.refl _ _).alloc (Nat.le_refl _) _)
  clear hw1
  have q0 : w1.cell? ⟨w.heap.size, 0, none⟩ = some (.int .u64 (c : Nat)) := ce_n b1.out.whole
  go_wp2_with (first
    | ((with_reducible apply ldR (cs := (ceL (c, l)).toArray) (tCe (c, l))); rfl; exact b1.out.whole)
    | ((with_reducible apply wblN (h := (c, l))); rfl))
  go_ret2
  have hs := BEL.out.size
  exact ⟨w1.heap.size, by simp, ⟨Blk.new _ _ _, OwnX.nil _ _ _ _ _, fun _ => rfl⟩, hs, BEL.out.alloc hs _⟩
theorem pnew_bad (c : Nat) (l : Nat → Nat) (hc : most < c) (w : World) :
    Calls Try.prog 7 #[.agg (ceL (c, l)).toArray] w fun e w' => e = .returned (.tuple #[.pointer none, .int .i64 2]) ∧ Below w.heap.size w w' := by
  have t1 : decide ((4611686018427387904 : Int) < (c : Int)) = true := by unfold most at hc; simp; omega
  have t2 : 4611686018427387904 < c := hc
  clear hc
  go_enter Try.func7, Try.ntmps7
  go_upto_region 1 with fail
  generalize hw1 : World.alloc w _ = w1
  have b1 := hid (show Blk w1 w.heap.size 26 (ceL (c, l)).toArray by rw [← hw1]; exact Blk.new _ _ _)
  have BEL := hid (show Below w.heap.size w w1 by rw [← hw1]; exact (Below.refl _ _).alloc (Nat.le_refl _) _)
  clear hw1
  have q0 : w1.cell? ⟨w.heap.size, 0, none⟩ = some (.int .u64 (c : Nat)) := ce_n b1.out.whole
  go_wp2_with fail
  go_ret2
  exact ⟨rfl, BEL.out⟩
end ClP
end Go.Proofs.Ythmfdabndfobcaa
set_option maxRecDepth 100000
namespace Go.Proofs.Ythmfdabndfobcaa
open Go.ChangeShapes Go.WideShapes Go.ChangeAt Go.RowKit
attribute [local go_sem] Gives GivesE
namespace ClP
set_option maxRecDepth 100000 in
theorem clone_any {w : World} {v : Value} {H : List Held} (hO : OwnX 26 33 ceL w 0 v H) (hlen : H.length ≤ 10000) :
    Calls Try.prog 19 #[v] w fun e w' => ∃ v', e = .returned v' ∧ OwnX 26 33 ceL w' w.heap.size v' H ∧ (v = .slice none 0 0 → v' = .slice none 0 0) ∧ Below w.heap.size w w' := by
  obtain ⟨A, cap, rfl, sl⟩ := hO.sli ceL_len
  have SL := hid sl
  cases A with
  | none =>
    obtain ⟨hl0, rfl⟩ := sl.none rfl
    obtain rfl := List.eq_nil_of_length_eq_zero hl0
    have hq : ∀ w, (binOp .eql 48 (.slice none 0 0) (.slice none 0 0)).run Try.prog w = .ok (.bool true) w := fun w => Go.Lib.run_eql_slice_nil (P := Try.prog) w 48 26 none 0 0 0 0 undCe
    rw [List.length_nil]
    clear hO sl SL hl0
    go_enter Try.func19, Try.ntmps19
    go_wp2_with fail
    go_ret
    exact ⟨_, rfl, OwnX.nil _ _ _ _ _, fun _ => rfl, Below.refl _ _⟩
  | some ad =>
    have hq : ∀ w, (binOp .eql 48 (.slice (some ad) H.length cap) (.slice none 0 0)).run Try.prog w = .ok (.bool false) w := fun w => Go.Lib.run_eql_slice_nil (P := Try.prog) w 48 26 (some ad) H.length cap 0 0 undCe
    clear hO sl
    go_enter Try.func19, Try.ntmps19
    go_wp2_with (at_builtin; (with_reducible apply wappX eltCe undCe (B := w.heap.size)); rfl; rfl; exact OwnX.empty (Nat.le_refl _); exact SL.out.turn (Turn.alloc (S := fun _ => False) w _) (fun _ _ _ e => e); (simp; omega); omega; (simp); intro v2 w2 o2 g2)
    rw [List.nil_append] at o2
    have b2 : Below w.heap.size w w2 := ((Below.refl _ _).alloc (Nat.le_refl _) _).trans ((Turn.of_grown (S := fun b => w.heap.size ≤ b) g2 fun b e => by cases e; simp).below (by simp) fun _ h => h)
    go_ret
    exact ⟨_, rfl, o2, (fun e => by cases e), b2⟩
section
variable {w : World} {g : Nat} {v : Value} {H : List Held} {h : Held}
/-- What holds in the midst of Copy. -/
structure CoC (w0 : World) (H : List Held) (nl : Prop) (d8 : Bool) (v8 : Value) (w' : World) : Prop where
  b : Below w0.heap.size w0 w'
  own : d8 = true → OwnX 26 33 ceL w' w0.heap.size v8 H ∧ (nl → v8 = .slice none 0 0)
set_option maxHeartbeats 600000 in
set_option maxRecDepth 100000 in
theorem pcopy_any (P : Pc w g v H h) (hL : H.length ≤ 10000) :
    Calls Try.prog 10 #[ptr' g] w fun e w' => ∃ g2 v2, e = .returned (ptr' g2) ∧ Pc w' g2 v2 H h ∧ (∀ b, mutB g2 v2 b → w.heap.size ≤ b) ∧ Below w.heap.size w w' := by
  obtain ⟨A, c0, rfl, _⟩ := P.hs.sli ceL_len
  have HH := hid P
  have N0 := hid (show H = [] → (Value.slice A H.length c0) = .slice none 0 0 from P.nil)
  clear P
  unfold ptr'
  go_enter Try.func10, Try.ntmps10
  go_wp2_with fail
  refine (made_any HH.out).mono ?_
  rintro e w2 ⟨rfl, rfl⟩
  go_upto_region 3 with fail
  refine wp_region_c (S := yS [some (.pointer (some ⟨g, 0, none⟩)), some (.pointer (some ⟨g, 0, none⟩)), some (.pointer (some ⟨g, 1, none⟩)), some (.agg (ceL h).toArray), some (.pointer (some ⟨g, 0, none⟩)), some (.pointer (some ⟨g, 0, none⟩)), some (.pointer (some ⟨g, 34, none⟩)), some (.slice A H.length c0), none]
      [(8, kSl H.length)]) (C := fun d vs w' => CoC w2 H (H = []) (d 8) (vs 8) w') 9 (by kernel_rfl) (by kernel_rfl) (by kernel_rfl) _
    (yS_ok _ fun y hy => by simp only [List.mem_cons, List.not_mem_nil, or_false] at hy; rcases hy with rfl; exact kSl_ok _) ⟨(Below.refl _ _).drew, (fun e => by cases e)⟩ fun vs => ?_
  simp only [List.take_succ_cons, List.take_zero, List.drop_succ_cons, List.drop_zero]
  refine ⟨.inl ⟨rfl, fun dd w' hd hnx hw hC => ?_⟩, fun e => ?_⟩
  · go_simp
    first | exact ⟨rfl, hC⟩ | exact hC
  have e' : vs 0 = _ := e
  rw [e']
  clear e e'
  simp only [Act.put, List.setIfInBounds_toArray, List.set_cons_succ, List.set_cons_zero]
  refine ⟨.inl ⟨rfl, fun dd w' hd hnx hw hC => ?_⟩, fun e => ?_⟩
  · go_simp
    first | exact ⟨rfl, hC⟩ | exact hC
  have e' : vs 1 = _ := e
  rw [e']
  clear e e'
  simp only [Act.put, List.setIfInBounds_toArray, List.set_cons_succ, List.set_cons_zero]
  refine ⟨.inl ⟨rfl, fun dd w' hd hnx hw hC => ?_⟩, fun e => ?_⟩
  · go_simp
    first | exact ⟨rfl, hC⟩ | exact hC
  have e' : vs 2 = _ := e
  rw [e']
  clear e e'
  simp only [Act.put, List.setIfInBounds_toArray, List.set_cons_succ, List.set_cons_zero]
  refine ⟨.inl ⟨rfl, fun dd w' hd hnx hw hC => ?_⟩, fun e => ?_⟩
  · exact gE_ldR (cs := (ceL h).toArray) (tCe h) rfl (pc_h (HH.out.below hC.b).blk) ⟨rfl, hC⟩
  have e' : vs 3 = _ := e
  rw [e']
  clear e e'
  simp only [Act.put, List.setIfInBounds_toArray, List.set_cons_succ, List.set_cons_zero]
  refine ⟨.inl ⟨rfl, fun dd w' hd hnx hw hC => ?_⟩, fun e => ?_⟩
  · go_simp
    first | exact ⟨rfl, hC⟩ | exact hC
  have e' : vs 4 = _ := e
  rw [e']
  clear e e'
  simp only [Act.put, List.setIfInBounds_toArray, List.set_cons_succ, List.set_cons_zero]
  refine ⟨.inl ⟨rfl, fun dd w' hd hnx hw hC => ?_⟩, fun e => ?_⟩
  · go_simp
    first | exact ⟨rfl, hC⟩ | exact hC
  have e' : vs 5 = _ := e
  rw [e']
  clear e e'
  simp only [Act.put, List.setIfInBounds_toArray, List.set_cons_succ, List.set_cons_zero]
  refine ⟨.inl ⟨rfl, fun dd w' hd hnx hw hC => ?_⟩, fun e => ?_⟩
  · go_simp
    first | exact ⟨rfl, hC⟩ | exact hC
  have e' : vs 6 = _ := e
  rw [e']
  clear e e'
  simp only [Act.put, List.setIfInBounds_toArray, List.set_cons_succ, List.set_cons_zero]
  refine ⟨.inl ⟨rfl, fun dd w' hd hnx hw hC => ?_⟩, fun e => ?_⟩
  · have h1 : w'.cell? ⟨g, 34, none⟩ = some (.slice A H.length c0) := pc_v (HH.out.below hC.b).blk
    go_simp
    first | exact ⟨rfl, hC⟩ | exact hC
  have e' : vs 7 = _ := e
  rw [e']
  clear e e'
  simp only [Act.put, List.setIfInBounds_toArray, List.set_cons_succ, List.set_cons_zero]
  refine ⟨.inl ⟨rfl, fun dd w' hd hnx hw hC => ?_⟩, fun e => ?_⟩
  · go_simp
    refine (clone_any (HH.out.below hC.b).hs hL).mono ?_
    rintro e w4 ⟨v', rfl, o4, n4, h4⟩
    obtain ⟨A4, c4, rfl, _⟩ := o4.sli ceL_len
    exact ⟨_, rfl, ⟨A4, c4, rfl⟩, hC.b.trans (h4.mono hC.b.size), fun _ => ⟨o4.lower hC.b.size, fun e => n4 (N0.out e)⟩⟩
  obtain ⟨A8, c8, e'⟩ : ∃ (A : Option Addr) (c : Nat), vs 8 = .slice A H.length c := e
  rw [e']
  have E8 := hid e'
  clear e'
  simp only [Act.put, List.setIfInBounds_toArray, List.set_cons_succ, List.set_cons_zero]
  intro dd w3 hall hC
  obtain ⟨o3, n3⟩ := hC.own (hall 8 (by omega))
  rw [E8.out] at o3 n3
  have O3 := hid o3
  have N3 := hid n3
  have B3 := hid hC.b
  clear HH hC o3 n3 E8 N0 hall
  go_wp2_with ((with_reducible apply wblP (h := h)); rfl; rfl)
  go_ret
  have hA := (Below.refl w3.heap.size w3).alloc (Nat.le_refl _) (.cells (pcV true h (.slice A8 H.length c8)) 56)
  refine ⟨w3.heap.size, .slice A8 H.length c8, by simp, ⟨Blk.new _ _ _, (O3.out.below hA (Nat.le_refl _)).lower (Nat.zero_le _), N3.out⟩, fun b hb => ?_, B3.out.alloc B3.out.size _⟩
  rcases hb with rfl | e
  · exact B3.out.size
  · exact (O3.out.own b e).1
/-- An append to a slice that is full, of a row of its own. -/
theorem run_fullO {w : World} {A : Option Addr} {S T : Nat → Prop} {x : Held} {b2 : Addr} {cB : Nat} {ty : TypeId} (hs : Sli 33 ceL S w A H H.length H.length) (hm : Sli 33 ceL T w (some b2) [x] 1 cB) (hsz : H.length ≤ 10000) :
    ∃ v' w', (Builtin.append_ #[48, 48] ty #[.slice A H.length H.length, .slice (some b2) 1 cB]).run Try.prog w = .ok v' w' ∧ OwnX 26 33 ceL w' w.heap.size v' (H ++ [x]) ∧ Below w.heap.size w w' := by
  cases A with
  | none =>
    obtain ⟨h0, _⟩ := hs.none rfl
    obtain rfl := List.eq_nil_of_length_eq_zero h0
    obtain ⟨v', w', hr, h1, h2⟩ := run_appX (ty := ty) (w := w) (B := w.heap.size) eltCe undCe (OwnX.nil _ _ _ _ _) hm (by simp) (by omega) (Nat.le_refl _)
    exact ⟨v', w', hr, h1, (Turn.of_grown (S := fun b => w.heap.size ≤ b) h2 fun b e => by cases e).below (Nat.le_refl _) fun _ h => h⟩
  | some ad =>
    obtain ⟨c', w', hr, h1, h2⟩ := run_fullX (ty := ty) eltCe undCe hs hm (by omega) (by omega) (by omega)
    exact ⟨_, w', hr, h1, h2⟩
section
variable {a : Act} {w : World} {dst : Option Tmp} {ty : TypeId} {pos : String} {after : Array Edge} {gd : Option (Nat × Bool)} {R : Value → World → Prop} {x y z : Operand} {n c : Nat} {A : Option Addr}
theorem run_three (h0 : n = 0 → A = none) (hA : A = none → n = 0 ∧ c = 0) (hB : ∀ ad, A = some ad → ∃ b o, ad = ⟨b, o, none⟩) (hc : n ≤ c) (w : World) : (Instr.sliceAt 48 (.slice A n c) none (some (.int .i64 n)) (some (.int .i64 n))).run Try.prog w = .ok (.slice A n n) w := by
  obtain ⟨ie, z, hi, hz, h1, h2, h3⟩ := eltCe.info
  have hsz : (sizeOf (Try.prog.elem 48)).run Try.prog w = .ok 33 w := by rw [elemCe]; simp [sizeOf, typeInfo, hi, h1]
  have hu' : Try.prog.underlying 48 = some (.slice (Try.prog.elem 48)) := by rw [elemCe]; exact undCe
  rw [run_sliceAt_slice w _ _ _ _ _ hu', run_slice_hm w _ _ n c hu' .i64 .i64 n n (by omega) (by omega) (by omega), hsz]
  simp only [Result.andThen, sliced, Int.toNat_natCast, Nat.sub_zero]
  cases A with
  | none => obtain ⟨rfl, _⟩ := hA rfl; simp
  | some ad =>
    obtain ⟨b, o, rfl⟩ := hB ad rfl
    rw [if_neg (fun e => by have := h0 e; cases this), Option.map_some, Addr.add_mid, Nat.zero_mul, Nat.add_zero]
theorem gE_fullO {S T : Nat → Prop} {h : Held} {b2 : Addr} {cB : Nat} (hx : a.eval x = .slice A H.length H.length) (hy : a.eval y = .slice (some b2) 1 cB) (hs : Sli 33 ceL S w A H H.length H.length) (hm : Sli 33 ceL T w (some b2) [h] 1 cB) (hsz : H.length ≤ 10000)
    (hR : ∀ v' w', OwnX 26 33 ceL w' w.heap.size v' (H ++ [h]) → Below w.heap.size w w' → R v' w') :
    GivesE Try.prog ⟨dst, .call { callee := .builtin .append, args := #[x, y], argTypes := #[48, 48] }, ty, pos, after, gd⟩ a w R := by
  obtain ⟨v', w', hr, h1, h2⟩ := run_fullO (ty := ty) hs hm hsz
  unfold GivesE execOp
  simp only [resolve, invoke, builtin, Sem.run_bind, Sem.run_pure, Result.andThen_ok, List.map_toArray, List.map_cons, List.map_nil, hx, hy, hr]
  exact hR v' w' h1 h2
theorem gE_sl3 (h0 : n = 0 → A = none) (hA : A = none → n = 0 ∧ c = 0) (hB : ∀ ad, A = some ad → ∃ b o, ad = ⟨b, o, none⟩) (hc : n ≤ c) (hx : a.eval x = .slice A n c) (hy : a.eval y = .int .i64 n) (hz : a.eval z = .int .i64 n) (hR : R (.slice A n n) w) :
    GivesE Try.prog ⟨dst, .slice 48 x none (some y) (some z), ty, pos, after, gd⟩ a w R := by
  unfold GivesE execOp
  simp only [Sem.run_bind, Option.map_some, Option.map_none, Sem.run_pure, hx, hy, hz, run_three h0 hA hB hc w, Result.andThen_ok]
  exact hR
end
/-- What holds in the midst of History. -/
structure HiC (w0 : World) (H : List Held) (h : Held) (d11 d12 : Bool) (v11 v12 : Value) (w' : World) : Prop where
  b : Below w0.heap.size w0 w'
  lit : d11 = true → d12 = false → ∃ A c, v11 = .slice A 1 c ∧ Sli 33 ceL (fun b => w0.heap.size ≤ b) w' A [h] 1 c
  own : d12 = true → OwnX 26 33 ceL w' w0.heap.size v12 (H ++ [h])
set_option maxHeartbeats 600000 in
set_option maxRecDepth 100000 in
theorem phist_any (P : Pc w g v H h) (hL : H.length ≤ 10000) : Calls Try.prog 17 #[ptr' g] w fun e w' => ∃ v, e = .returned v ∧ OwnX 26 33 ceL w' w.heap.size v (H ++ [h]) ∧ Below w.heap.size w w' := by
  obtain ⟨A, c0, rfl, sl⟩ := P.hs.sli ceL_len
  have HH := hid P
  have SL := hid (show Sli 33 ceL (fun b => b < w.heap.size) w A H H.length c0 from ⟨sl.len, sl.cap, sl.max, sl.none, fun hn => by obtain ⟨b, o, e, _, hl, hr⟩ := sl.lst hn; exact ⟨b, o, e, hl, hl, hr⟩⟩)
  have p34 := pc_v P.blk
  have k0 := hid (show H.length = 0 → A = none from fun e => by exact (Value.slice.inj (P.nil (List.eq_nil_of_length_eq_zero e))).1)
  have k1 := hid (show A = none → H.length = 0 ∧ c0 = 0 from sl.none)
  have k2 := hid (show ∀ ad, A = some ad → ∃ b o, ad = ⟨b, o, none⟩ from fun ad e => by
    have hn : 0 < H.length := by
      rcases Nat.eq_zero_or_pos H.length with h0 | h0
      · have := k0.out h0; rw [this] at e; cases e
      · exact h0
    obtain ⟨b, o, e2, _⟩ := sl.lst hn
    rw [e] at e2; cases e2; exact ⟨b, o, rfl⟩)
  have k3 := hid sl.cap
  clear P sl
  unfold ptr'
  go_enter Try.func17, Try.ntmps17
  go_wp2_with fail
  refine (made_any HH.out).mono ?_
  rintro e w2 ⟨rfl, rfl⟩
  go_upto_region 4 with fail
  refine wp_region_c (S := yS [some (.pointer (some ⟨g, 0, none⟩)), some (.pointer (some ⟨g, 0, none⟩)), some (.pointer (some ⟨g, 34, none⟩)), some (.slice A H.length c0), some (.int .i64 (H.length : Nat)), some (.int .i64 (H.length : Nat)), some (.slice A H.length H.length), some (.pointer (some ⟨g, 0, none⟩)), some (.pointer (some ⟨g, 0, none⟩)), some (.pointer (some ⟨g, 1, none⟩)), some (.agg (ceL h).toArray), none, none]
      [(11, kSl 1), (12, kSl (H.length + 1))]) (C := fun d vs w' => HiC w2 H h (d 11) (d 12) (vs 11) (vs 12) w') 13 (by kernel_rfl) (by kernel_rfl) (by kernel_rfl) _
    (yS_ok _ fun y hy => by simp only [List.mem_cons, List.not_mem_nil, or_false] at hy; rcases hy with rfl | rfl <;> exact kSl_ok _) ⟨(Below.refl _ _).drew, (fun e => by cases e), (fun e => by cases e)⟩ fun vs => ?_
  simp only [List.take_succ_cons, List.take_zero, List.drop_succ_cons, List.drop_zero]
  refine ⟨.inl ⟨rfl, fun dd w' hd hnx hw hC => ?_⟩, fun e => ?_⟩
  · go_simp
    first | exact ⟨rfl, hC⟩ | exact hC
  have e' : vs 0 = _ := e
  rw [e']
  clear e e'
  simp only [Act.put, List.setIfInBounds_toArray, List.set_cons_succ, List.set_cons_zero]
  refine ⟨.inl ⟨rfl, fun dd w' hd hnx hw hC => ?_⟩, fun e => ?_⟩
  · go_simp
    first | exact ⟨rfl, hC⟩ | exact hC
  have e' : vs 1 = _ := e
  rw [e']
  clear e e'
  simp only [Act.put, List.setIfInBounds_toArray, List.set_cons_succ, List.set_cons_zero]
  refine ⟨.inl ⟨rfl, fun dd w' hd hnx hw hC => ?_⟩, fun e => ?_⟩
  · go_simp
    first | exact ⟨rfl, hC⟩ | exact hC
  have e' : vs 2 = _ := e
  rw [e']
  clear e e'
  simp only [Act.put, List.setIfInBounds_toArray, List.set_cons_succ, List.set_cons_zero]
  refine ⟨.inl ⟨rfl, fun dd w' hd hnx hw hC => ?_⟩, fun e => ?_⟩
  · have h1 : w'.cell? ⟨g, 34, none⟩ = some (.slice A H.length c0) := pc_v (HH.out.below hC.b).blk
    go_simp
    first | exact ⟨rfl, hC⟩ | exact hC
  have e' : vs 3 = _ := e
  rw [e']
  clear e e'
  simp only [Act.put, List.setIfInBounds_toArray, List.set_cons_succ, List.set_cons_zero]
  refine ⟨.inl ⟨rfl, fun dd w' hd hnx hw hC => ?_⟩, fun e => ?_⟩
  · go_simp
    first | exact ⟨rfl, hC⟩ | exact hC
  have e' : vs 4 = _ := e
  rw [e']
  clear e e'
  simp only [Act.put, List.setIfInBounds_toArray, List.set_cons_succ, List.set_cons_zero]
  refine ⟨.inl ⟨rfl, fun dd w' hd hnx hw hC => ?_⟩, fun e => ?_⟩
  · go_simp
    first | exact ⟨rfl, hC⟩ | exact hC
  have e' : vs 5 = _ := e
  rw [e']
  clear e e'
  simp only [Act.put, List.setIfInBounds_toArray, List.set_cons_succ, List.set_cons_zero]
  refine ⟨.inl ⟨rfl, fun dd w' hd hnx hw hC => ?_⟩, fun e => ?_⟩
  · exact gE_sl3 k0.out k1.out k2.out k3.out rfl rfl rfl ⟨rfl, hC⟩
  have e' : vs 6 = _ := e
  rw [e']
  clear e e'
  simp only [Act.put, List.setIfInBounds_toArray, List.set_cons_succ, List.set_cons_zero]
  refine ⟨.inl ⟨rfl, fun dd w' hd hnx hw hC => ?_⟩, fun e => ?_⟩
  · go_simp
    first | exact ⟨rfl, hC⟩ | exact hC
  have e' : vs 7 = _ := e
  rw [e']
  clear e e'
  simp only [Act.put, List.setIfInBounds_toArray, List.set_cons_succ, List.set_cons_zero]
  refine ⟨.inl ⟨rfl, fun dd w' hd hnx hw hC => ?_⟩, fun e => ?_⟩
  · go_simp
    first | exact ⟨rfl, hC⟩ | exact hC
  have e' : vs 8 = _ := e
  rw [e']
  clear e e'
  simp only [Act.put, List.setIfInBounds_toArray, List.set_cons_succ, List.set_cons_zero]
  refine ⟨.inl ⟨rfl, fun dd w' hd hnx hw hC => ?_⟩, fun e => ?_⟩
  · go_simp
    first | exact ⟨rfl, hC⟩ | exact hC
  have e' : vs 9 = _ := e
  rw [e']
  clear e e'
  simp only [Act.put, List.setIfInBounds_toArray, List.set_cons_succ, List.set_cons_zero]
  refine ⟨.inl ⟨rfl, fun dd w' hd hnx hw hC => ?_⟩, fun e => ?_⟩
  · exact gE_ldR (cs := (ceL h).toArray) (tCe h) rfl (pc_h (HH.out.below hC.b).blk) ⟨rfl, hC⟩
  have e' : vs 10 = _ := e
  rw [e']
  clear e e'
  simp only [Act.put, List.setIfInBounds_toArray, List.set_cons_succ, List.set_cons_zero]
  refine ⟨.inl ⟨rfl, fun dd w' hd hnx hw hC => ?_⟩, fun e => ?_⟩
  · have h12 : dd 12 = false := hnx 12 (by kernel_rfl)
    have ha := (Below.refl w'.heap.size w').alloc (Nat.le_refl _) (.cells (ceL h).toArray 26)
    exact gE_lit1 (x := h) eltCe undCe (by omega) rfl rfl ⟨⟨_, _, rfl⟩, hC.b.trans (ha.mono hC.b.size), (fun _ _ => ⟨_, _, rfl, sli_lit1 eltCe h w' hC.b.size⟩), fun e => by
      have e' : dd 12 = true := e
      rw [h12] at e'; cases e'⟩
  obtain ⟨A7, c7, e'⟩ : ∃ (A : Option Addr) (c : Nat), vs 11 = .slice A 1 c := e
  rw [e']
  have E7 := hid e'
  clear e'
  simp only [Act.put, List.setIfInBounds_toArray, List.set_cons_succ, List.set_cons_zero]
  refine ⟨.inl ⟨rfl, fun dd w' hd hnx hw hC => ?_⟩, fun e => ?_⟩
  · have h7 : dd 11 = true := hw 11 (by kernel_rfl)
    obtain ⟨A', c', f, slx⟩ := hC.lit h7 hd
    rw [E7.out] at f
    cases f
    obtain ⟨ad, rfl⟩ : ∃ ad, A7 = some ad := by
      cases A7 with
      | none => have := slx.none rfl; omega
      | some ad => exact ⟨ad, rfl⟩
    have sf : Sli 33 ceL (fun b => b < w2.heap.size) w' A H H.length H.length := by
      have := SL.out.turn (Turn.of_new (S := fun _ => False) hC.b) fun _ _ _ e => e
      exact ⟨this.len, Nat.le_refl _, Nat.le_trans this.cap this.max, fun e => by have := (k1.out e).1; omega, this.lst⟩
    refine gE_fullO rfl rfl sf slx hL fun v' w4 o4 b4 => ?_
    obtain ⟨A4, c4, rfl, _⟩ := o4.sli ceL_len
    exact ⟨⟨A4, c4, by rw [List.length_append]; rfl⟩, hC.b.trans (b4.mono hC.b.size), (fun _ e => by cases e), fun _ => o4.lower hC.b.size⟩
  obtain ⟨A8, c8, e'⟩ : ∃ (A : Option Addr) (c : Nat), vs 12 = .slice A (H.length + 1) c := e
  rw [e']
  have E8 := hid e'
  clear e'
  simp only [Act.put, List.setIfInBounds_toArray, List.set_cons_succ, List.set_cons_zero]
  intro dd w3 hall hC
  have o3 := hC.own (hall 12 (by omega))
  rw [E8.out] at o3
  have O3 := hid o3
  have B3 := hid hC.b
  clear HH SL hC o3 E7 E8 hall p34 k0 k1 k2 k3
  go_wp2_with fail
  go_ret
  exact ⟨_, rfl, O3.out, B3.out⟩
end
end ClP
end Go.Proofs.Ythmfdabndfobcaa
set_option maxRecDepth 100000
namespace Go.Proofs.Ythmfdabndfobcaa
open Go.ChangeShapes Go.WideShapes Go.ChangeAt Go.RowKit
attribute [local go_sem] Gives GivesE
namespace ClP
section
variable {w w' : World} {g : Nat} {v : Value} {H : List Held} {h : Held}
theorem padv_full (P : Pc w g v H h) (hc : h.1 = most) (t : Nat → Nat) :
    Calls Try.prog 12 #[ptr' g, .agg (ar 32 t)] w fun e w' => e = .returned (.tuple #[.int .u64 0, .int .i64 15]) ∧ Below w.heap.size w w' := by
  have HH := hid P
  unfold ptr'
  clear P
  go_enter Try.func12, Try.ntmps12
  go_upto_region 1 with fail
  generalize hw1 : World.alloc w _ = w1
  have BEL := hid (show Below w.heap.size w w1 by rw [← hw1]; exact (Below.refl _ _).alloc (Nat.le_refl _) _)
  have H1 := hid (HH.out.below BEL.out)
  have q0 : w1.cell? ⟨g, 1, none⟩ = some (.int .u64 (4611686018427387904 : Int)) := by
    have := pc_c H1.out.blk
    rw [hc] at this
    exact this
  clear hw1 HH
  go_wp2_with fail
  refine (made_any H1.out).mono ?_
  rintro e w2 ⟨rfl, rfl⟩
  go_wp2_with fail
  go_ret2
  exact ⟨rfl, BEL.out⟩
set_option maxHeartbeats 1000000 in
set_option maxRecDepth 100000 in
theorem padv_any (P : Pc w g v H h) (hc : h.1 < most) (hl : H.length ≤ 10000) (t : Nat → Nat) :
    Calls Try.prog 12 #[ptr' g, .agg (ar 32 t)] w fun e w' => e = .returned (.tuple #[.int .u64 ((h.1 + 1 : Nat) : Int), .int .i64 0]) ∧ ∃ v', Pc w' g v' (H ++ [h]) (h.1 + 1, t) ∧
      (∀ b, v'.ownBlock = some b → v.ownBlock = some b ∨ w.heap.size ≤ b) ∧ Turn (mutB g v) w w' := by
  obtain ⟨A, c0, rfl, _⟩ := P.hs.sli ceL_len
  obtain ⟨c, l0⟩ := h
  have HH := hid P
  have hgl := P.blk.lt
  unfold ptr'
  unfold most at hc
  have hc' : c < 4611686018427387904 := hc
  have t1 : ((c : Int) == 4611686018427387904) = false := by simp; omega
  have t2 : decide (c = 4611686018427387904) = false := by simp; omega
  have t3 : decide ((c : Int) = 4611686018427387904) = false := by simp; omega
  have tw : IntKind.u64.wrap ((c : Int) + 1) = ((c + 1 : Nat) : Int) := (IntWalk.u64_in _ (by omega)).trans (by omega)
  clear P hc
  go_enter Try.func12, Try.ntmps12
  go_upto_region 1 with fail
  generalize hw1 : World.alloc w _ = w1
  have b1 := hid (show Blk w1 w.heap.size 24 (ar 32 t) by rw [← hw1]; exact Blk.new _ _ _)
  have BEL := hid (show Below w.heap.size w w1 by rw [← hw1]; exact (Below.refl _ _).alloc (Nat.le_refl _) _)
  have H1 := hid (HH.out.below BEL.out)
  clear hw1 HH
  have q0 : w1.cell? ⟨g, 1, none⟩ = some (.int .u64 (c : Nat)) := pc_c H1.out.blk
  go_wp2_with fail
  refine (made_any H1.out).mono ?_
  rintro e w2 ⟨rfl, rfl⟩
  go_upto_region 5 with fail
  have C2 := hid H1.out.blk
  have O2 := hid H1.out.hs
  have hne := hid H1.out.ne
  refine wp_region_c (S := yS [some (.pointer (some ⟨g, 0, none⟩)), some (.pointer (some ⟨g, 0, none⟩)), some (.pointer (some ⟨g, 0, none⟩)), some (.pointer (some ⟨g, 34, none⟩)), some (.slice A H.length c0), some (.pointer (some ⟨g, 0, none⟩)), some (.pointer (some ⟨g, 0, none⟩)), some (.pointer (some ⟨g, 1, none⟩)), some (.agg (ceL (c, l0)).toArray), none, none, some (.pointer (some ⟨g, 0, none⟩)), some (.pointer (some ⟨g, 34, none⟩))]
      [(9, kSl 1), (10, kSl (H.length + 1))]) (C := fun d vs w' => ApC 26 33 ceL w2 (.slice A H.length c0) H ((c, l0) : Held) (d 9) (d 10) (vs 9) (vs 10) w') 13 (by kernel_rfl) (by kernel_rfl) (by kernel_rfl) _
    (yS_ok _ fun y hy => by simp only [List.mem_cons, List.not_mem_nil, or_false] at hy; rcases hy with rfl | rfl <;> exact kSl_ok _) ⟨Turn.drew _, fun _ => (Below.refl _ _).drew, (fun e => by cases e), (fun e => by cases e)⟩ fun vs => ?_
  simp only [List.take_succ_cons, List.take_zero, List.drop_succ_cons, List.drop_zero]
  refine ⟨.inl ⟨rfl, fun dd w' hd hnx hw hC => ?_⟩, fun e => ?_⟩
  · go_simp
    first | exact ⟨rfl, hC⟩ | exact hC
  have e' : vs 0 = _ := e
  rw [e']
  clear e e'
  simp only [Act.put, List.setIfInBounds_toArray, List.set_cons_succ, List.set_cons_zero]
  refine ⟨.inl ⟨rfl, fun dd w' hd hnx hw hC => ?_⟩, fun e => ?_⟩
  · go_simp
    first | exact ⟨rfl, hC⟩ | exact hC
  have e' : vs 1 = _ := e
  rw [e']
  clear e e'
  simp only [Act.put, List.setIfInBounds_toArray, List.set_cons_succ, List.set_cons_zero]
  refine ⟨.inl ⟨rfl, fun dd w' hd hnx hw hC => ?_⟩, fun e => ?_⟩
  · go_simp
    first | exact ⟨rfl, hC⟩ | exact hC
  have e' : vs 2 = _ := e
  rw [e']
  clear e e'
  simp only [Act.put, List.setIfInBounds_toArray, List.set_cons_succ, List.set_cons_zero]
  refine ⟨.inl ⟨rfl, fun dd w' hd hnx hw hC => ?_⟩, fun e => ?_⟩
  · go_simp
    first | exact ⟨rfl, hC⟩ | exact hC
  have e' : vs 3 = _ := e
  rw [e']
  clear e e'
  simp only [Act.put, List.setIfInBounds_toArray, List.set_cons_succ, List.set_cons_zero]
  refine ⟨.inl ⟨rfl, fun dd w' hd hnx hw hC => ?_⟩, fun e => ?_⟩
  · have h1 : w'.cell? ⟨g, 34, none⟩ = some (.slice A H.length c0) := pc_v (C2.out.turn hC.t hne.out)
    go_simp
    first | exact ⟨rfl, hC⟩ | exact hC
  have e' : vs 4 = _ := e
  rw [e']
  clear e e'
  simp only [Act.put, List.setIfInBounds_toArray, List.set_cons_succ, List.set_cons_zero]
  refine ⟨.inl ⟨rfl, fun dd w' hd hnx hw hC => ?_⟩, fun e => ?_⟩
  · go_simp
    first | exact ⟨rfl, hC⟩ | exact hC
  have e' : vs 5 = _ := e
  rw [e']
  clear e e'
  simp only [Act.put, List.setIfInBounds_toArray, List.set_cons_succ, List.set_cons_zero]
  refine ⟨.inl ⟨rfl, fun dd w' hd hnx hw hC => ?_⟩, fun e => ?_⟩
  · go_simp
    first | exact ⟨rfl, hC⟩ | exact hC
  have e' : vs 6 = _ := e
  rw [e']
  clear e e'
  simp only [Act.put, List.setIfInBounds_toArray, List.set_cons_succ, List.set_cons_zero]
  refine ⟨.inl ⟨rfl, fun dd w' hd hnx hw hC => ?_⟩, fun e => ?_⟩
  · go_simp
    first | exact ⟨rfl, hC⟩ | exact hC
  have e' : vs 7 = _ := e
  rw [e']
  clear e e'
  simp only [Act.put, List.setIfInBounds_toArray, List.set_cons_succ, List.set_cons_zero]
  refine ⟨.inl ⟨rfl, fun dd w' hd hnx hw hC => ?_⟩, fun e => ?_⟩
  · exact gE_ldR (cs := (ceL (c, l0)).toArray) (tCe (c, l0)) rfl (pc_h (C2.out.turn hC.t hne.out)) ⟨rfl, hC⟩
  have e' : vs 8 = _ := e
  rw [e']
  clear e e'
  simp only [Act.put, List.setIfInBounds_toArray, List.set_cons_succ, List.set_cons_zero]
  refine ⟨.inl ⟨rfl, fun dd w' hd hnx hw hC => ?_⟩, fun e => ?_⟩
  · have h8 : dd 10 = false := hnx 10 (by kernel_rfl)
    have ha := (Below.refl w'.heap.size w').alloc (Nat.le_refl _) (.cells (ceL (c, l0)).toArray 26)
    have hbl := hC.b h8
    exact gE_lit1 (x := ((c, l0) : Held)) eltCe undCe (by omega) rfl rfl ⟨⟨_, _, rfl⟩, hC.t.trans (Turn.of_new (S := fun _ => False) ha) (fun _ e => e.elim), (fun _ => hbl.trans (ha.mono hbl.size)), (fun _ _ => ⟨_, _, rfl, sli_lit1 eltCe ((c, l0) : Held) w' hbl.size⟩), fun e => by
      have e' : dd 10 = true := e
      rw [h8] at e'; cases e'⟩
  obtain ⟨A7, c7, e'⟩ : ∃ (A : Option Addr) (c : Nat), vs 9 = .slice A 1 c := e
  rw [e']
  have E7 := hid e'
  clear e'
  simp only [Act.put, List.setIfInBounds_toArray, List.set_cons_succ, List.set_cons_zero]
  refine ⟨.inl ⟨rfl, fun dd w' hd hnx hw hC => ?_⟩, fun e => ?_⟩
  · have h7 : dd 9 = true := hw 9 (by kernel_rfl)
    have hbl := hC.b hd
    obtain ⟨A', c', f, sl⟩ := hC.lit h7 hd
    rw [E7.out] at f
    cases f
    refine gE_appW eltCe undCe (B := 0) (v := .slice A H.length c0) (l := H) (m := [((c, l0) : Held)]) rfl rfl (O2.out.below hbl (Nat.le_refl _)) sl (by omega) (by omega) (Nat.zero_le _) fun v' w4 o4 g4 wh => ?_
    obtain ⟨A4, c4, rfl, _⟩ := o4.sli ceL_len
    refine ⟨⟨A4, c4, by rw [List.length_append]; rfl⟩, ?_⟩
    exact ⟨(Turn.of_new (S := fun b => (Value.slice A H.length c0).ownBlock = some b) hbl).trans (Turn.of_grown (S := fun b => (Value.slice A H.length c0).ownBlock = some b) g4 fun b e => e) (fun b e => .inl e), (fun e => by cases e), (fun _ e => by cases e), fun _ => ⟨o4, fun b e => by
      have e3 : (Value.slice A4 (H ++ [((c, l0) : Held)]).length c4).ownBlock = some b := e
      rcases wh with x | x
      · exact .inl (x.symm.trans e3)
      · rw [x] at e3; cases e3; exact .inr hbl.size⟩⟩
  obtain ⟨A8, c8, e'⟩ : ∃ (A : Option Addr) (c : Nat), vs 10 = .slice A (H.length + 1) c := e
  rw [e']
  have E8 := hid e'
  clear e'
  simp only [Act.put, List.setIfInBounds_toArray, List.set_cons_succ, List.set_cons_zero]
  refine ⟨.inl ⟨rfl, fun dd w' hd hnx hw hC => ?_⟩, fun e => ?_⟩
  · go_simp
    first | exact ⟨rfl, hC⟩ | exact hC
  have e' : vs 11 = _ := e
  rw [e']
  clear e e'
  simp only [Act.put, List.setIfInBounds_toArray, List.set_cons_succ, List.set_cons_zero]
  refine ⟨.inl ⟨rfl, fun dd w' hd hnx hw hC => ?_⟩, fun e => ?_⟩
  · go_simp
    first | exact ⟨rfl, hC⟩ | exact hC
  have e' : vs 12 = _ := e
  rw [e']
  clear e e'
  simp only [Act.put, List.setIfInBounds_toArray, List.set_cons_succ, List.set_cons_zero]
  intro dd w4 hall hC
  obtain ⟨o4, wh⟩ := hC.own (hall 10 (by omega))
  rw [E8.out] at o4 wh
  have bb := C2.out.turn hC.t hne.out
  have tu5 := Turn.setCell (S := fun b => b = g) w4 ⟨g, 34, none⟩ (.slice A8 (H.length + 1) c8) rfl
  have hne4 : ∀ b, (Value.slice A8 (H.length + 1) c8).ownBlock = some b → b ≠ g := fun b e e2 => by
    rcases wh b e with x | x
    · exact hne.out (by rw [x, e2])
    · have := C2.out.lt; omega
  have P3 := hid (show Pc (w4.setCell ⟨g, 34, none⟩ (.slice A8 (H.length + 1) c8)) g (.slice A8 (H.length + 1) c8) (H ++ [((c, l0) : Held)]) (c, l0) from
    ⟨pc_setV bb _, o4.turn tu5 hne4, fun e => by simp at e⟩)
  have T3 := hid (show Turn (mutB g (.slice A H.length c0)) w (w4.setCell ⟨g, 34, none⟩ (.slice A8 (H.length + 1) c8)) from
    ((Turn.of_new (S := mutB g (.slice A H.length c0)) BEL.out).trans (hC.t.mono (T := mutB g (.slice A H.length c0)) fun b e => .inr e) fun b e => .inl e).trans tu5 fun b e => .inl (.inl e))
  have b3 := hid (b1.out.turn (Turn.trans (S := mutB g (.slice A H.length c0)) (hC.t.mono fun b e => .inr e) tu5 fun b e => .inl (.inl e)) fun e => by
    rcases e with e | e
    · omega
    · have := H1.out.hs.own _ e; have := (H1.out.hs.obj e); obtain ⟨cur, hcur⟩ := this; have hb := b1.out; unfold Blk at hb; rw [hcur] at hb; simp at hb)
  have W := hid (show ∀ b, (Value.slice A8 (H.length + 1) c8).ownBlock = some b → (Value.slice A H.length c0).ownBlock = some b ∨ w.heap.size ≤ b from fun b e => (wh b e).imp id fun x => Nat.le_trans BEL.out.size x)
  have p34 : w4.cell? ⟨g, 34, none⟩ = some (.slice A H.length c0) := pc_v bb
  have fz := bb.frozen 34
  clear C2 O2 hC o4 wh bb hall E7 E8 tu5 hne4 H1 b1 BEL q0 hne
  go_upto_region 6 with fail
  generalize World.setCell w4 _ _ = w5 at P3 T3 b3 ⊢
  clear p34 fz
  refine wp_region_tail (C := fun w' => Below w5.heap.size w5 w') 11 (by kernel_rfl) (by kernel_rfl) (by kernel_rfl) (Below.refl _ _).drew ?_
  simp only [List.take_succ_cons, List.take_zero, List.drop_succ_cons, List.drop_zero]
  apply wpK_val
  · rfl
  · intro w' hw'
    go_simp
    first | exact rfl | exact ⟨rfl, hw'⟩
  simp only [Act.put, List.setIfInBounds_toArray, List.set_cons_succ, List.set_cons_zero]
  apply wpK_val
  · rfl
  · intro w' hw'
    go_simp
    first | exact rfl | exact ⟨rfl, hw'⟩
  simp only [Act.put, List.setIfInBounds_toArray, List.set_cons_succ, List.set_cons_zero]
  apply wpK_val
  · rfl
  · intro w' hw'
    go_simp
    first | exact rfl | exact ⟨rfl, hw'⟩
  simp only [Act.put, List.setIfInBounds_toArray, List.set_cons_succ, List.set_cons_zero]
  apply wpK_val
  · rfl
  · intro w' hw'
    go_simp
    first | exact rfl | exact ⟨rfl, hw'⟩
  simp only [Act.put, List.setIfInBounds_toArray, List.set_cons_succ, List.set_cons_zero]
  apply wpK_val
  · rfl
  · intro w' hw'
    go_simp
    first | exact rfl | exact ⟨rfl, hw'⟩
  simp only [Act.put, List.setIfInBounds_toArray, List.set_cons_succ, List.set_cons_zero]
  apply wpK_val
  · rfl
  · intro w' hw'
    have hcell := pc_c (P3.out.below hw').blk
    go_simp
    first | exact rfl | exact ⟨rfl, hw'⟩
  simp only [Act.put, List.setIfInBounds_toArray, List.set_cons_succ, List.set_cons_zero]
  apply wpK_val
  · rfl
  · intro w' hw'
    go_simp
    first | exact rfl | exact ⟨rfl, hw'⟩
  simp only [Act.put, List.setIfInBounds_toArray, List.set_cons_succ, List.set_cons_zero]
  apply kldA tTg
  · rfl
  · rfl
  · exact fun w' hw' => (b3.out.below hw' b3.out.lt).head
  simp only [Act.put, List.setIfInBounds_toArray, List.set_cons_succ, List.set_cons_zero]
  apply kblC (c := c + 1) (l := t)
  · rfl
  · rfl
  · rfl
  simp only [Act.put, List.setIfInBounds_toArray, List.set_cons_succ, List.set_cons_zero]
  apply wpK_val
  · rfl
  · intro w' hw'
    go_simp
    first | exact rfl | exact ⟨rfl, hw'⟩
  simp only [Act.put, List.setIfInBounds_toArray, List.set_cons_succ, List.set_cons_zero]
  apply wpK_val
  · rfl
  · intro w' hw'
    go_simp
    first | exact rfl | exact ⟨rfl, hw'⟩
  simp only [Act.put, List.setIfInBounds_toArray, List.set_cons_succ, List.set_cons_zero]
  intro wa hCa
  have P4 := hid (P3.out.below hCa)
  have T4 := hid (T3.out.trans (Turn.of_new (S := fun _ => False) hCa) fun _ e => e.elim)
  have th := hid (pc_there (o := 1) (n := (ceL (c + 1, t)).toArray.size) P4.out.blk (by rw [List.size_toArray, ceL_len]; omega))
  clear P3 T3 b3 hCa
  go_upto_region 7 with ((with_reducible apply stRM (tCe (c + 1, t))); rfl; rfl; exact th.out; exact ce_one _)
  have tu2 := turn_setCells (g := g) (ceL (c + 1, t)).toArray.toList 1 wa
  have hne5 := P4.out.ne
  have P5 := hid (show Pc (wa.setCells g 1 (ceL (c + 1, t)).toArray.toList) g (.slice A8 (H.length + 1) c8) (H ++ [((c, l0) : Held)]) (c + 1, t) from
    ⟨pc_setH P4.out.blk (c + 1, t), P4.out.hs.turn tu2 fun b e e2 => hne5 (by rw [e, e2]), fun e => by simp at e⟩)
  have T5 := hid (T4.out.trans tu2 fun _ e => .inl (.inl e))
  clear tu2 hne5 P4 T4 th
  generalize World.setCells wa _ _ _ = w6 at P5 T5 ⊢
  have p1 : w6.cell? ⟨g, 1, none⟩ = some (.int .u64 ((c + 1 : Nat) : Int)) := pc_c P5.out.blk
  go_wp2_with fail
  go_ret2
  exact ⟨rfl, _, P5.out, W.out, T5.out⟩
end
end ClP
end Go.Proofs.Ythmfdabndfobcaa
set_option maxRecDepth 100000
namespace Go.Proofs.Ythmfdabndfobcaa
open Go.ChangeShapes Go.WideShapes Go.ChangeAt Go.RowKit
attribute [local go_sem] Gives GivesE
namespace ClP
theorem rep_turn {w w' : World} {g : Nat} {v : Value} {T : Nat → Prop} (ht : Turn T w w') (hT : ∀ b, T b → mutB g v b) : TurnC (mutC g v) w w' :=
  (TurnC.of_turn ht).mono fun p e => hT p.1 e
theorem cellD_ok : CellD repC where
  lt H b hb := by
    obtain ⟨K, v, P, _, rfl, rfl⟩ := H
    rcases hb with (e | e) | e
    · rw [e]; exact P.blk.lt
    · exact (P.hs.own _ e).2
    · exact e.elim
  frame H ht hT := by
    obtain ⟨K, v, P, hL, rfl, rfl⟩ := H
    exact ⟨K, v, P.turn ht.out fun b hb ⟨i, e⟩ => hT (b, i) (.inl hb) e, hL, rfl, rfl⟩
  own H b hb := by
    obtain ⟨K, v, P, _, rfl, rfl⟩ := H
    exact fun e => e
  new c l hc w := (pnew_any c l hc w).mono fun e w' ⟨g, he, hP, hg, hB⟩ => ⟨g, _, _, he, ⟨[], _, hP, rfl, rfl, rfl⟩, fun p hp => by
    rcases hp with (e | e) | e
    · rw [e]; exact hg
    · cases e
    · exact e.elim, hB⟩
  bad c l hc w := pnew_bad c l hc w
  read H := by
    obtain ⟨K, v, P, _, _, _⟩ := H
    exact pread_any P
  adv H hc hl t := by
    obtain ⟨K, v, P, rfl, rfl, rfl⟩ := H
    refine (padv_any P hc (by rw [List.length_append] at hl; omega) t).mono ?_
    rintro e w' ⟨rfl, v', hP, hw, ht⟩
    refine ⟨rfl, _, _, ⟨_, v', hP, rfl, rfl, rfl⟩, fun p hp => ?_, fun p hp => hp.elim, rep_turn ht fun b e => e⟩
    rcases hp with e | e
    · exact .inl (.inl e)
    · exact (hw _ e).imp .inr id
  full H hc t := by
    obtain ⟨K, v, P, hL, rfl, rfl⟩ := H
    refine (padv_full P hc t).mono ?_
    rintro e w' ⟨rfl, hB⟩
    exact ⟨rfl, _, _, ⟨K, v, P.below hB, hL, rfl, rfl⟩, fun p hp => .inl hp, fun p hp => hp.elim, TurnC.of_new hB⟩
theorem cell_ok : CellC repC where
  toCellD := cellD_ok
  hist H hl := by
    obtain ⟨K, v, P, rfl, _, _⟩ := H
    exact phist_any P (by rw [List.length_append] at hl; omega)
  copy H hl := by
    obtain ⟨K, v, P, hL, rfl, rfl⟩ := H
    refine (pcopy_any P (by rw [hL, List.length_append] at hl; omega)).mono ?_
    rintro e w' ⟨g2, v2, rfl, hP, hg, hB⟩
    exact ⟨g2, _, _, rfl, ⟨K, v2, hP, hL, rfl, rfl⟩, fun p hp => hg p.1 hp, fun p hp => hp.elim, hB⟩
/-! ### Of nil, and of what New did not make -/
def zPc : Array Value := pcV false (0, zero) (.slice none 0 0)
theorem made_nil (w : World) : Calls Try.prog 18 #[.pointer none] w fun e w' => e = .returned (.bool false) ∧ w' = w := by
  go_enter Try.func18, Try.ntmps18
  go_wp2_with fail
  go_ret
  exact ⟨rfl, rfl⟩
theorem made_zero (z : Nat) (w : World) (H : Blk w z 56 zPc) : Calls Try.prog 18 #[ptr' z] w fun e w' => e = .returned (.bool false) ∧ w' = w := by
  have p0 := pc_m H
  unfold ptr'
  clear H
  go_enter Try.func18, Try.ntmps18
  go_wp2_with fail
  go_ret
  exact ⟨rfl, rfl⟩
set_option maxHeartbeats 600000 in
set_option maxRecDepth 100000 in
theorem none_ok : NoneC none 0 zPc where
  built := by kernel_rfl
  readN w := by
    go_enter Try.func14, Try.ntmps14
    go_upto_region 1 with (with_reducible apply alZ' zCe)
    generalize hw1 : World.alloc w _ = w1
    have b1 := hid (show Blk w1 w.heap.size 26 (ceL (0, zero)).toArray by rw [← hw1]; exact Blk.new _ _ _)
    have BEL := hid (show Below w.heap.size w w1 by rw [← hw1]; exact (Below.refl _ _).alloc (Nat.le_refl _) _)
    clear hw1
    go_wp2_with fail
    refine (made_nil w1).mono ?_
    rintro e w2 ⟨rfl, rfl⟩
    have b3 := b1.out.setRow_same (ceL (0, zero)).toArray
    have B3 := hid (below_setRow BEL.out (Nat.le_refl w.heap.size) (ceL (0, zero)).toArray)
    go_wp2_with (first | (with_reducible apply wblZ) | ((with_reducible apply stR (tCe (0, zero))); rfl; rfl; exact b1.out; exact ce_size _ _; exact ce_one _))
    apply ret_rowt' (tCe (0, zero)) Try.results14
    · rfl
    · rfl
    · rfl
    · exact b3
    exact ⟨rfl, B3.out⟩
  advZ z w t H := by
    unfold ptr'
    go_enter Try.func12, Try.ntmps12
    go_upto_region 1 with fail
    generalize hw1 : World.alloc w _ = w1
    have BEL := hid (show Below w.heap.size w w1 by rw [← hw1]; exact (Below.refl _ _).alloc (Nat.le_refl _) _)
    clear hw1
    go_wp2_with fail
    refine (made_zero z w1 (H.below BEL.out H.lt)).mono ?_
    rintro e w2 ⟨rfl, rfl⟩
    go_wp2_with fail
    go_ret2
    exact ⟨rfl, BEL.out⟩
  histN w := by
    go_enter Try.func17, Try.ntmps17
    go_wp2_with fail
    refine (made_nil w).mono ?_
    rintro e w2 ⟨rfl, rfl⟩
    go_wp2_with fail
    go_ret
    exact ⟨rfl, Below.refl _ _⟩
  copyZ z w H := by
    unfold ptr'
    go_enter Try.func10, Try.ntmps10
    go_wp2_with fail
    refine (made_zero z w H).mono ?_
    rintro e w2 ⟨rfl, rfl⟩
    go_wp2_with fail
    go_ret
    exact ⟨rfl, Below.refl _ _⟩
end ClP
end Go.Proofs.Ythmfdabndfobcaa
