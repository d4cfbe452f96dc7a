/-
  Trees: Path and Check of whatever arguments, the document's and the program's; lists of ints in drawn regions; what comes in.
  Contract of casemateref02.Same where both lists hold the same sectors.
  Trees: what is told and set for whatever number, refused or not; the program's and the document's.
  Trees: claims (leaf, its tag, a proof, a top) as they come in; TreeChecks over TreeC and TreeD.
  Slices of bytes that come in.
  Slices of structs of k cells that come in.
  A list of elements that came in, as Sli.
  Trees: settings (a height, tags) and acts as they come in.
  Trees in plain numbers: what one leaf turns.
  Trees: New of whatever comes in, in drawn regions.
  Trees: the document's tree as a representation; an act in memory.
  Trees: the program's and the document's in the midst of an act (Pl).
  TreeAnew, over TreeC and TreeD (written by tools/gen_tranew.py).
-/
import Derived.Test.YtdmnhpgafbcehaaDoorMrg8
import Derived.ChangeSlices
import Derived.Deep.Strs
set_option linter.unusedVariables false
set_option linter.unusedSimpArgs false
set_option maxRecDepth 100000
namespace Go.Proofs.YtdmnhpgafbcehaaDoor
open Go.ChangeShapes Go.WideShapes Go.ChangeAt Go.RowKit Go.Deep
attribute [local go_sem] Gives GivesE
namespace TrM
open TgP RwP
/-- What Path tells. -/
def plist (h leaf : Int) : List Nat := if pathOk h leaf then pthL h.toNat leaf.toNat else []
theorem path_cases (h leaf : Int) : (∃ a b : Nat, h = a ∧ leaf = b ∧ okH h ∧ b < 2 ^ a) ∨ ¬ pathOk h leaf := by
  by_cases hp : pathOk h leaf
  · left
    have h1 := hp.1.1
    refine ⟨h.toNat, leaf.toNat, by omega, by have := hp.2.1; omega, hp.1, ?_⟩
    have := hp.2.2
    have := hp.2.1
    omega
  · exact .inr hp
/-- A list of ints of one's own, in a drawn region. -/
def spI (l : List Nat) : Sp := ⟨fun v => ∃ (A : Option Addr) (c : Nat), v = .slice A l.length c, fun v w => ∃ (A : Option Addr) (c : Nat), v = .slice A l.length c ∧ OwnI w 0 (.slice A l.length c) l, .slice none l.length 0⟩
/-! ### What comes in -/
theorem cells_k18 : Tryd.prog.cellsOf 23 = 32 := by kernel_rfl
theorem uK18 : Tryd.prog.underlying 23 = some (.array 32 5) := Tryd.underlying23
theorem cells_t18 : Tryd.prog.cellsOf 36 = 32 := by kernel_rfl
theorem cells_i18 : Tryd.prog.cellsOf 3 = 1 := by kernel_rfl
theorem cells_lt18 : Tryd.prog.cellsOf 24 = 1 := by kernel_rfl
section
variable {H : Type} {enc : TypeId × Value → H} {w : World} {base : Nat} {spare : Nat → Bool} {held : Bool}
/-- A list of rows of bytes. -/
theorem trod_rows {L E : TypeId} {K : Nat} (hK : 0 < K) (hu : Tryd.prog.underlying L = some (.slice E)) (hE : Tryd.prog.underlying E = some (.array K 5)) (hc : Tryd.prog.cellsOf E = K) {fuel : Nat} {c : Value} {x : DataW H × List MemPlace} (hf : DataW.trod enc Tryd.prog w base spare held fuel L [c] = some x) :
    ∃ (A : Option Addr) (F : Nat → Nat → Nat) (n cap : Nat), c = .slice A n cap ∧ SliF K (fun b => b < w.heap.size) w A n F cap ∧ ∀ i j, F i j < 256 := by
  rcases open_slice hu hf with ⟨hcs, _⟩ | ⟨a, n, cap, m, fu, D, Plc, hcs, hb, hl, hm, hmm, hx, hi⟩
  · simp only [List.cons.injEq, and_true] at hcs
    exact ⟨none, fun _ _ => 0, 0, 0, hcs, Sli.nil _ _ _ _, fun _ _ => by show 0 < 256; omega⟩
  · simp only [List.cons.injEq, and_true] at hcs
    subst hcs
    have hnm : n ≤ m := by rw [hmm]; split <;> omega
    have one : ∀ i, i < n → ∃ f : Nat → Nat, (∀ j, f j < 256) ∧ ∀ j, j < K → w.cell? (a.add (i * K + j)) = some (.int .u8 (f j : Nat)) := fun i hin => by
      obtain ⟨cs', hc', ht⟩ := hi i (by omega)
      have h3 := World.cells?_some hc'
      rw [hc] at h3
      obtain ⟨f, h1, h2⟩ := trod_ar hE hc ht
      refine ⟨f, h1, fun j hj => ?_⟩
      have h6 := h3.2.2 j hj
      rw [Go.Deep.add_add, h2, Array.getElem?_toList, get_ar hj] at h6
      exact h6
    obtain ⟨F, hF⟩ := choose_lt one
    refine ⟨some a, fun i => if i < n then F i else fun _ => 0, n, cap, rfl, ⟨lsF_len _ _, hl, hm, (fun h => by cases h), fun hn => ?_⟩, fun i j => ?_⟩
    · rw [lsF_len] at hn
      have h00 := (hF 0 hn).2 0 hK
      have hsp : a.spot = none := by
        simp only [Nat.zero_mul, Nat.zero_add, Addr.add, if_true] at h00
        unfold World.cell? at h00
        split at h00
        · cases hs : a.spot with
          | none => rfl
          | some s => simp [hs] at h00
        · cases h00
      have hblk : a.block < w.heap.size := by
        have := World.block_lt_of_cell? w _ h00
        simpa [Addr.add] using this
      obtain ⟨b, o, sp⟩ := a
      subst hsp
      refine ⟨b, o, rfl, hblk, hblk, fun i x hi2 j u hj => ?_⟩
      obtain ⟨hin, rfl⟩ := lsF_some hi2
      rw [if_pos hin] at hj
      obtain ⟨hjK, rfl⟩ := ar_list_get hj
      have := (hF i hin).2 j hjK
      rw [Addr.add_mid] at this
      rwa [show o + (i * K + j) = o + i * K + j by omega] at this
    · show (if i < n then F i else fun _ => 0) j < 256
      split
      · rename_i h; exact (hF i h).1 j
      · show 0 < 256; omega
end
theorem SliF.cut {K : Nat} {S : Nat → Prop} {w : World} {A : Option Addr} {n cap m : Nat} {F : Nat → Nat → Nat} (h : SliF K S w A n F cap) (hm : m ≤ n) : SliF K S w A m F cap :=
  ⟨lsF_len _ _, by have := h.cap; omega, h.max, fun e => by obtain ⟨h1, h2⟩ := h.none e; exact ⟨by omega, h2⟩, fun hn => by
    rw [lsF_len] at hn
    obtain ⟨b, o, e, h1, h2, h3⟩ := h.lst (by rw [lsF_len]; omega)
    exact ⟨b, o, e, h1, h2, fun i x hx => by
      obtain ⟨hi, rfl⟩ := lsF_some hx
      exact h3 i _ (lsF_get (by omega))⟩⟩
end TrM
end Go.Proofs.YtdmnhpgafbcehaaDoor
set_option maxRecDepth 100000
namespace Go.Proofs.YtdmnhpgafbcehaaDoor
open Go.ChangeShapes Go.WideShapes Go.ChangeAt Go.RowKit
attribute [local go_sem] Gives
namespace TrM
open TgP RwP
end TrM
end Go.Proofs.YtdmnhpgafbcehaaDoor
set_option maxRecDepth 100000
namespace Go.Proofs.YtdmnhpgafbcehaaDoor
open Go.ChangeShapes Go.WideShapes Go.ChangeAt Go.RowKit
namespace TrM
open TgP RwP
def tgV (t : Tr) (j : Int) : Nat → Nat := if 1 ≤ j ∧ j < ((2 * t.n : Nat) : Int) then t.tg j.toNat else fun _ => 0
def tgE (t : Tr) (j : Int) : Int := if 1 ≤ j ∧ j < ((2 * t.n : Nat) : Int) then 0 else 2
def ndV (t : Tr) (j : Int) : Nat → Nat := if 1 ≤ j ∧ j < ((t.n : Nat) : Int) then t.nd j.toNat else fun _ => 0
def ndE (t : Tr) (j : Int) : Int := if 1 ≤ j ∧ j < ((t.n : Nat) : Int) then 0 else 2
def lfE (t : Tr) (j : Int) : Int := if 0 ≤ j ∧ j < ((t.n : Nat) : Int) then 0 else 2
def setV (t : Tr) (j : Int) (f : Nat → Nat) : Tr := if 0 ≤ j ∧ j < ((t.n : Nat) : Int) then t.set j.toNat f else t
def chV (t : Tr) (j : Int) (f : Nat → Nat) : List Nat := if 0 ≤ j ∧ j < ((t.n : Nat) : Int) then chg t (t.set j.toNat f) j.toNat else []
def prN (t : Tr) (j : Int) : Nat := if 0 ≤ j ∧ j < ((t.n : Nat) : Int) then t.h else 0
section
variable {repT : RepT} {w : World} {g : Nat} {M : Nat → Prop} {t : Tr}
theorem proof_all (C : TreeC repT) (D : TreeD repT) (j : Int) (R : repT w g M t) (S : Salts w) : Calls Tryd.prog 19 #[pT g, .int .i64 j] w fun e w' => ∃ (A : Option Addr) (c : Nat) (T : Nat → Prop), e = .returned (.tuple #[.slice A (prN t j) c, .int .i64 (lfE t j)]) ∧ SliF 64 T w' A (prN t j) (prf t j.toNat) c ∧ Below w.heap.size w w' := by
  unfold prN lfE
  by_cases h : 0 ≤ j ∧ j < ((t.n : Nat) : Int)
  · rw [if_pos h, if_pos h]
    obtain ⟨n, rfl⟩ : ∃ n : Nat, j = n := ⟨j.toNat, by omega⟩
    rw [Int.toNat_natCast]
    refine (C.proof n (by omega) R S).mono ?_
    rintro e w2 ⟨v, rfl, p, hb⟩
    obtain ⟨A, c, rfl, sl⟩ := OwnX.sli (arL_len 64) p
    rw [lsF_len] at sl ⊢
    exact ⟨A, c, _, rfl, sl, hb⟩
  · rw [if_neg h, if_neg h]
    refine (D.proofNo j h R S).mono ?_
    rintro e w2 ⟨rfl, hb⟩
    exact ⟨none, 0, fun _ => False, rfl, Sli.nil _ _ _ _, hb⟩
theorem set_all (C : TreeC repT) (D : TreeD repT) (j : Int) (f : Nat → Nat) (hf : ∀ i, f i < 256) (R : repT w g M t) (S : Salts w) : Calls Tryd.prog 12 #[pT g, .int .i64 j, .agg (ar 32 f)] w fun e w' => ∃ (v : Value) (M' : Nat → Prop), e = .returned (.tuple #[v, .int .i64 (lfE t j)]) ∧ OwnI w' w.heap.size v (chV t j f) ∧ repT w' g M' (setV t j f) ∧ (∀ b, M' b → M b ∨ w.heap.size ≤ b) ∧ (∀ b, v.ownBlock = some b → ¬ M' b) ∧ Turn M w w' := by
  unfold lfE chV setV
  by_cases h : 0 ≤ j ∧ j < ((t.n : Nat) : Int)
  · rw [if_pos h, if_pos h, if_pos h]
    obtain ⟨n, rfl⟩ : ∃ n : Nat, j = n := ⟨j.toNat, by omega⟩
    rw [Int.toNat_natCast]
    exact C.set n f (by omega) hf R S
  · rw [if_neg h, if_neg h, if_neg h]
    refine (D.setNo j f h R S).mono ?_
    rintro e w2 ⟨rfl, hb⟩
    exact ⟨_, M, rfl, OwnI.nil _ _, C.keep R (Turn.of_new (S := fun _ => False) hb) (fun _ _ h => h), fun b hb => .inl hb, (fun b hb => by cases hb), Turn.of_new hb⟩
end
section
variable {w : World} {g gl cl : Nat} {t : Tr}
end
end TrM
end Go.Proofs.YtdmnhpgafbcehaaDoor
set_option maxRecDepth 100000
namespace Go.Proofs.YtdmnhpgafbcehaaDoor
open Go.ChangeShapes Go.WideShapes Go.ChangeAt Go.RowKit Go.Deep
attribute [local go_sem] Gives GivesE
namespace TrM
open TgP RwP
/-- A claim in memory: 66 cells. -/
def cmF (leaf : Int) (f : Nat → Nat) (v : Value) (top : Nat → Nat) (j : Nat) : Value :=
  if j = 0 then .int .i64 leaf else if j < 33 then .int .u8 (f (j - 1) : Nat) else if j = 33 then v else .int .u8 (top (j - 34) : Nat)
def cm (leaf : Int) (f : Nat → Nat) (v : Value) (top : Nat → Nat) : Array Value := row 66 (cmF leaf f v top)
section
variable {w : World} {g : Nat} {leaf : Int} {f top : Nat → Nat} {v : Value} {t : TypeId}
end
section
variable {H : Type} {enc : TypeId × Value → H} {w : World} {base : Nat} {spare : Nat → Bool} {held : Bool}
end
end TrM
end Go.Proofs.YtdmnhpgafbcehaaDoor
set_option maxRecDepth 100000
namespace Go.Proofs.YtdmnhpgafbcehaaDoor
open Go.ChangeShapes Go.WideShapes Go.ChangeAt Go.RowKit Go.Deep
section
variable {H : Type} {enc : TypeId × Value → H} {w : World} {base : Nat} {spare : Nat → Bool} {held : Bool}
end
end Go.Proofs.YtdmnhpgafbcehaaDoor
set_option maxRecDepth 100000
namespace Go.Proofs.YtdmnhpgafbcehaaDoor
open Go.ChangeShapes Go.WideShapes Go.ChangeAt Go.RowKit Go.Deep
/-- A slice of structs of k cells, in one row below block B. -/
def Elems (k : Nat) (w : World) (B : Nat) (A : Option Addr) (xs : List (List Value)) : Prop :=
  0 < xs.length → ∃ b o, A = some ⟨b, o, none⟩ ∧ b < B ∧ ∀ (i : Nat) (cs : List Value), xs[i]? = some cs → ∀ (j : Nat) (v : Value), cs[j]? = some v → w.cell? ⟨b, o + i * k + j, none⟩ = some v
theorem Elems.below {k B B' : Nat} {w w' : World} {A : Option Addr} {xs : List (List Value)} (h : Elems k w B A xs) (hb : Below B' w w') (hB : B ≤ B') : Elems k w' B A xs := fun hn => by
  obtain ⟨b, o, rfl, hl, hr⟩ := h hn
  exact ⟨b, o, rfl, hl, fun i cs hi j v hj => (hb.cell (p := ⟨b, o + i * k + j, none⟩) (by show b < B'; omega)).trans (hr i cs hi j v hj)⟩
section
variable {H : Type} {enc : TypeId × Value → H} {w : World} {base : Nat} {spare : Nat → Bool} {held : Bool}
theorem open_elems {S E : TypeId} {k : Nat} {R : List Value → Prop} {r : Reach} {b0 : Nat} {v : Value} {d : DataW H} {p : List MemPlace} (hS : Tryd.prog.underlying S = some (.slice E)) (hk : Tryd.prog.cellsOf E = k) (hk0 : 0 < k)
    (hR : ∀ (fuel : Nat) (cs : List Value) (x : DataW H × List MemPlace), DataW.trod enc Tryd.prog w base spare held fuel E cs = some x → cs.length = k → R cs)
    (hv : Value.okWide Tryd.prog w r b0 S v) (h : DataW.Trod enc Tryd.prog w base spare held S v d p) :
    ∃ (A : Option Addr) (xs : List (List Value)) (n cap : Nat), v = .slice A n cap ∧ xs.length = n ∧ n ≤ cap ∧ cap ≤ maxLen ∧ (∀ cs ∈ xs, R cs ∧ cs.length = k) ∧ Elems k w w.heap.size A xs ∧ (A = none → n = 0 ∧ cap = 0) := by
  obtain ⟨A, n, cap, rfl⟩ := okWide_slice hS hv
  obtain ⟨fuel, hf⟩ := h
  rcases open_slice hS hf with ⟨hcs, _⟩ | ⟨a, len, cap', m, fu, D, Pl, hcs, hb, hl, hm, hmm, hx, hi⟩
  · simp [Value.cells] at hcs
    obtain ⟨rfl, rfl, rfl⟩ := hcs
    exact ⟨none, [], 0, 0, rfl, rfl, Nat.le_refl _, Nat.zero_le _, (fun x hx => by cases hx), (fun h => absurd h (by simp)), fun _ => ⟨rfl, rfl⟩⟩
  · simp [Value.cells] at hcs
    obtain ⟨rfl, rfl, rfl⟩ := hcs
    have hnm : n ≤ m := by rw [hmm]; split <;> omega
    have one : ∀ i, i < n → ∃ cs : List Value, R cs ∧ cs.length = k ∧ ∀ j, j < k → w.cell? (a.add (i * k + j)) = cs[j]? := fun i hin => by
      obtain ⟨cs', hc, ht⟩ := hi i (by omega)
      have h3 := World.cells?_some hc
      rw [hk] at h3
      refine ⟨cs', hR fu cs' _ ht h3.2.1, h3.2.1, fun j hj => ?_⟩
      have h6 := h3.2.2 j hj
      rw [Go.Deep.add_add] at h6
      exact h6
    obtain ⟨F, hF⟩ := choose_lt one
    have hg : ∀ i, ((List.range n).map F)[i]? = if i < n then some (F i) else none := fun i => by
      by_cases hi : i < n
      · rw [if_pos hi, List.getElem?_map, List.getElem?_range hi]; rfl
      · rw [if_neg hi, List.getElem?_eq_none (by simp; omega)]
    refine ⟨some a, (List.range n).map F, n, cap, rfl, by simp, hl, hm, fun l hl2 => ?_, fun hn => ?_, fun h => by cases h⟩
    · obtain ⟨i, hi2, rfl⟩ := List.mem_map.1 hl2
      exact ⟨(hF i (List.mem_range.1 hi2)).1, (hF i (List.mem_range.1 hi2)).2.1⟩
    · have hn' : 0 < n := by simpa using hn
      obtain ⟨_, h1, h0⟩ := hF 0 hn'
      have h00 := h0 0 hk0
      rw [List.getElem?_eq_getElem (by omega)] at h00
      have hsp : a.spot = none := by
        simp only [Nat.zero_mul, Nat.zero_add, Addr.add, if_true] at h00
        unfold World.cell? at h00
        split at h00
        · cases hs : a.spot with
          | none => rfl
          | some s => simp [hs] at h00
        · cases h00
      have hblk : a.block < w.heap.size := by
        have := World.block_lt_of_cell? w _ h00
        simpa [Addr.add] using this
      obtain ⟨b, o, sp⟩ := a
      subst hsp
      refine ⟨b, o, rfl, hblk, fun i cs hi2 j v hj => ?_⟩
      rw [hg] at hi2
      split at hi2
      · rename_i hin
        obtain rfl := Option.some.inj hi2
        obtain ⟨_, h1, h2⟩ := hF i hin
        have hjk : j < k := by have := (List.getElem?_eq_some_iff.1 hj).1; omega
        have h3 := h2 j hjk
        rw [Addr.add_mid, hj, ← Nat.add_assoc] at h3
        exact h3
      · cases hi2
end
end Go.Proofs.YtdmnhpgafbcehaaDoor
set_option maxRecDepth 100000
namespace Go.Proofs.YtdmnhpgafbcehaaDoor
open Go.ChangeShapes Go.WideShapes Go.ChangeAt Go.RowKit Go.Deep
namespace StM
section
variable {w : World}
theorem sli_of_elems {α : Type} {k n cap : Nat} {en : α → List Value} {Q : α → Prop} {A : Option Addr} {xs : List (List Value)} (hn : xs.length = n) (hc : n ≤ cap) (hm : cap ≤ maxLen) (hx : ∀ cs ∈ xs, ∃ x, Q x ∧ cs = en x) (he : Elems k w w.heap.size A xs) (h0 : A = none → n = 0 ∧ cap = 0) :
    ∃ l : List α, (∀ x ∈ l, Q x) ∧ Sli k en (fun b => b < w.heap.size) w A l n cap := by
  have key : ∀ ys : List (List Value), (∀ cs ∈ ys, ∃ x, Q x ∧ cs = en x) → ∃ l : List α, (∀ x ∈ l, Q x) ∧ ys = l.map en := fun ys => by
    induction ys with
    | nil => exact fun _ => ⟨[], (fun x hx => by cases hx), rfl⟩
    | cons y ys ih =>
      intro h
      obtain ⟨x, hq, hx⟩ := h y List.mem_cons_self
      obtain ⟨l, hl, hl2⟩ := ih fun cs hm => h cs (List.mem_cons_of_mem _ hm)
      exact ⟨x :: l, (fun z hz => (List.mem_cons.1 hz).elim (fun e => e ▸ hq) (hl z)), by rw [List.map_cons, ← hx, ← hl2]⟩
  obtain ⟨l, hl, rfl⟩ := key xs hx
  rw [List.length_map] at hn
  refine ⟨l, hl, hn, hc, hm, fun e => h0 e, fun hlen => ?_⟩
  obtain ⟨b, o, e1, e2, e3⟩ := he (by rw [List.length_map]; exact hlen)
  exact ⟨b, o, e1, e2, e2, fun i x hi => e3 i (en x) (by rw [List.getElem?_map, hi]; rfl)⟩
end
end StM
end Go.Proofs.YtdmnhpgafbcehaaDoor
set_option maxRecDepth 100000
namespace Go.Proofs.YtdmnhpgafbcehaaDoor
open Go.ChangeShapes Go.WideShapes Go.ChangeAt Go.RowKit Go.Deep
namespace TrM
open TgP RwP
theorem cells_a18 : Tryd.prog.cellsOf 38 = 34 := by kernel_rfl
theorem cells_st18 : Tryd.prog.cellsOf 26 = 2 := by kernel_rfl
/-- An act: what, the leaf, its tag. -/
structure Ac where
  d : Int
  c : Int
  s : Nat → Nat
def acL (y : Ac) : List Value := .int .i64 y.d :: .int .i64 y.c :: (ar 32 y.s).toList
theorem list_34 {cs : List Value} {v u : Value} {f : Nat → Nat} (hl : cs.length = 34) (h0 : (cs.drop 0).take 1 = [v]) (h1 : (cs.drop 1).take 1 = [u]) (h2 : (cs.drop 2).take 32 = (ar 32 f).toList) : cs = v :: u :: (ar 32 f).toList := by
  match cs, hl with
  | c :: d :: r, hl =>
    have e0 : c = v := by simpa using h0
    have e1 : d = u := by simpa using h1
    have e2 : r.take 32 = (ar 32 f).toList := h2
    rw [List.take_of_length_le (by simp at hl; omega)] at e2
    rw [e0, e1, e2]
section
variable {H : Type} {enc : TypeId × Value → H} {w : World} {base : Nat} {spare : Nat → Bool} {held : Bool}
theorem trod_a18 {fuel : Nat} {cs : List Value} {x : DataW H × List MemPlace} (h : DataW.trod enc Tryd.prog w base spare held fuel 38 cs = some x) (hl : cs.length = 34) : ∃ y : Ac, (∀ k, y.s k < 256) ∧ cs = acL y := by
  obtain ⟨xs, n, _, rfl, _, hlen, hf⟩ := DataW.trod_struct Tryd.underlying38 h
  match xs, hlen with
  | [y0, y1, y2], _ =>
    have h0 : DataW.trod enc Tryd.prog w base spare held n 3 ((cs.drop 0).take (Tryd.prog.cellsOf 3)) = some y0 := hf 0 _ rfl
    have h1 : DataW.trod enc Tryd.prog w base spare held n 3 ((cs.drop 1).take (Tryd.prog.cellsOf 3)) = some y1 := hf 1 _ rfl
    have h2 : DataW.trod enc Tryd.prog w base spare held n 36 ((cs.drop 2).take (Tryd.prog.cellsOf 36)) = some y2 := hf 2 _ rfl
    rw [cells_i18] at h0 h1
    rw [cells_t18] at h2
    obtain ⟨d, e0, _, _⟩ := DataW.trod_int Tryd.underlying3 h0
    obtain ⟨i, e1, _, _⟩ := DataW.trod_int Tryd.underlying3 h1
    obtain ⟨f, hf2, e2⟩ := trod_ar uT cells_t18 h2
    exact ⟨⟨d, i, f⟩, hf2, list_34 hl e0 e1 e2⟩
theorem open_a18 {r : Reach} {b0 : Nat} {v : Value} {d : DataW H} {p : List MemPlace} (hv : Value.okWide Tryd.prog w r b0 27 v) (h : DataW.Trod enc Tryd.prog w base spare held 27 v d p) :
    ∃ (A : Option Addr) (l : List Ac) (n cap : Nat), v = .slice A n cap ∧ (∀ y ∈ l, ∀ k, y.s k < 256) ∧ Sli 34 acL (fun b => b < w.heap.size) w A l n cap := by
  obtain ⟨A, xs, n, cap, rfl, h1, h2, h3, h4, h5, h6⟩ := open_elems (R := fun cs => ∃ y : Ac, (∀ k, y.s k < 256) ∧ cs = acL y) Tryd.underlying27 cells_a18 (by omega) (fun fuel cs x hh hl => trod_a18 hh hl) hv h
  obtain ⟨l, hl, hs⟩ := StM.sli_of_elems (Q := fun y : Ac => ∀ k, y.s k < 256) (en := acL) h1 h2 h3 (fun cs hm => (h4 cs hm).1) h5 h6
  exact ⟨A, l, n, cap, rfl, hl, hs⟩
/-- A height and tags. -/
abbrev stV (h : Int) (A : Option Addr) (n cap : Nat) : Value := .agg #[.int .i64 h, .slice A n cap]
theorem open_st18 {r : Reach} {b0 : Nat} {v : Value} {d : DataW H} {p : List MemPlace} (hv : Value.okWide Tryd.prog w r b0 26 v) (h : DataW.Trod enc Tryd.prog w base spare held 26 v d p) :
    ∃ (h : Int) (A : Option Addr) (F : Nat → Nat → Nat) (n cap : Nat), v = stV h A n cap ∧ (∀ i j, F i j < 256) ∧ SliF 32 (fun b => b < w.heap.size) w A n F cap := by
  obtain ⟨cs, rfl, hsz⟩ := okWide_struct Tryd.underlying26 hv
  rw [cells_st18] at hsz
  obtain ⟨fuel, hf0⟩ := h
  obtain ⟨xs, n, _, _, hl, hlen, hf⟩ := DataW.trod_struct Tryd.underlying26 hf0
  obtain ⟨l⟩ := cs
  match l, hsz with
  | [c0, c1], _ =>
  match xs, hlen with
  | [y0, y1], _ =>
    have h0 : DataW.trod enc Tryd.prog w base spare held n 3 (([c0, c1].drop 0).take (Tryd.prog.cellsOf 3)) = some y0 := hf 0 _ rfl
    have h1 : DataW.trod enc Tryd.prog w base spare held n 24 (([c0, c1].drop 1).take (Tryd.prog.cellsOf 24)) = some y1 := hf 1 _ rfl
    rw [cells_i18] at h0
    rw [cells_lt18] at h1
    obtain ⟨a, e0, _, _⟩ := DataW.trod_int Tryd.underlying3 h0
    obtain ⟨A, F, m, cap, e1, hs, hF⟩ := trod_rows (K := 32) (by omega) Tryd.underlying24 uT cells_t18 (show DataW.trod enc Tryd.prog w base spare held n 24 [c1] = some y1 from h1)
    have e0' : c0 = .int .i64 a := by simpa using e0
    exact ⟨a, A, F, m, cap, by rw [e0', e1], hF, hs⟩
end
end TrM
end Go.Proofs.YtdmnhpgafbcehaaDoor
set_option maxRecDepth 100000
namespace Go.Proofs.YtdmnhpgafbcehaaDoor
open Go.RowKit
namespace TrM
open TgP
theorem tgF_off {k : Nat → Nat} {n c : Nat} {L L' : Nat → Nat → Nat} (hL : ∀ i, i ≠ c → L i = L' i) : ∀ (f j : Nat), (∀ i, (n + c) / 2 ^ i ≠ j) → n ≤ 2 ^ f * j → tgF k n L f j = tgF k n L' f j
  | 0, j, h, hn => by
    rw [Nat.pow_zero, Nat.one_mul] at hn
    have h0 := h 0
    rw [Nat.pow_zero, Nat.div_one] at h0
    exact hL _ (by omega)
  | f + 1, j, h, hn => by
    unfold tgF
    by_cases e : n ≤ j
    · rw [if_pos e, if_pos e]
      have h0 := h 0
      rw [Nat.pow_zero, Nat.div_one] at h0
      exact hL _ (by omega)
    · rw [if_neg e, if_neg e]
      have e1 : 2 ^ (f + 1) * j = 2 ^ f * (2 * j) := by rw [Nat.pow_succ, Nat.mul_assoc]
      have h5 : n ≤ 2 ^ f * (2 * j) := by rw [← e1]; exact hn
      have h6 : n ≤ 2 ^ f * (2 * j + 1) := Nat.le_trans h5 (Nat.mul_le_mul_left _ (by omega))
      have hs : ∀ i, (n + c) / 2 ^ (i + 1) = (n + c) / 2 ^ i / 2 := fun i => by rw [Nat.pow_succ, Nat.div_div_eq_div_mul]
      rw [tgF_off hL f (2 * j) (fun i e2 => h (i + 1) (by rw [hs, e2]; omega)) h5, tgF_off hL f (2 * j + 1) (fun i e2 => h (i + 1) (by rw [hs, e2]; omega)) h6]
end TrM
end Go.Proofs.YtdmnhpgafbcehaaDoor
set_option maxRecDepth 100000
namespace Go.Proofs.YtdmnhpgafbcehaaDoor
open Go.ChangeShapes Go.WideShapes Go.ChangeAt Go.RowKit Go.Deep
namespace TrM
open TgP RwP
section
variable {repT : RepT}
/-- What New answers where it makes a tree; the tree. -/
def spN (repT : RepT) (t : Tr) (B : Nat) : Sp := ⟨fun v => ∃ g, v = .tuple #[pT g, .int .i64 0], fun v w => ∃ (g : Nat) (M : Nat → Prop), v = .tuple #[pT g, .int .i64 0] ∧ repT w g M t ∧ ∀ b, M b → B ≤ b, .tuple #[pT 0, .int .i64 0]⟩
def spG (repT : RepT) (t : Tr) (B : Nat) : Sp := ⟨fun v => ∃ g, v = pT g, fun v w => ∃ (g : Nat) (M : Nat → Prop), v = pT g ∧ repT w g M t ∧ ∀ b, M b → B ≤ b, pT 0⟩
/-- Which heights and counts New refuses. -/
def newBad (h : Int) (m : Nat) : Prop := h < 1 ∨ 12 < h ∨ (okH h ∧ 2 ^ h.toNat < m)
theorem new_cases (h : Int) (m : Nat) : newBad h m ∨ ∃ a : Nat, h = a ∧ okH (a : Nat) ∧ m ≤ 2 ^ a := by
  by_cases h1 : h < 1
  · exact .inl (.inl h1)
  by_cases h2 : 12 < h
  · exact .inl (.inr (.inl h2))
  have hk : okH h := ⟨by omega, by omega⟩
  by_cases h3 : 2 ^ h.toNat < m
  · exact .inl (.inr (.inr ⟨hk, h3⟩))
  · exact .inr ⟨h.toNat, by omega, by rw [show ((h.toNat : Nat) : Int) = h by omega]; exact hk, by omega⟩
/-- A list cut at so many. -/
theorem cut_at (n c : Nat) : ∃ m : Nat, (if (c : Int) < (n : Int) then (c : Int) else (n : Int)) = (m : Int) ∧ m ≤ n ∧ m ≤ c := by
  by_cases h : n ≤ c
  · exact ⟨n, by rw [if_neg (by omega)], Nat.le_refl _, h⟩
  · exact ⟨c, by rw [if_pos (by omega)], by omega, Nat.le_refl _⟩
theorem shl_n {a N : Nat} (ha : a ≤ 5) (h : N = 2 ^ a) : wrap64 (2 ^ a) = (N : Int) := by
  subst h
  rcases (show a = 0 ∨ a = 1 ∨ a = 2 ∨ a = 3 ∨ a = 4 ∨ a = 5 by omega) with rfl | rfl | rfl | rfl | rfl | rfl <;> decide +kernel
theorem pow32 {a : Nat} (ha : a ≤ 5) : 2 ^ a ≤ 32 := Nat.pow_le_pow_right (n := 2) (by omega) ha
theorem wrap_small {n : Nat} (h : n < 1000000) : wrap64 (n : Int) = (n : Int) := by unfold wrap64; omega
end
end TrM
end Go.Proofs.YtdmnhpgafbcehaaDoor
set_option maxRecDepth 100000
namespace Go.Proofs.YtdmnhpgafbcehaaDoor
open Go.ChangeShapes Go.WideShapes Go.ChangeAt Go.RowKit
namespace TrM
open TgP RwP
/-- The document's tree, and the blocks it lies in. -/
def refRep : RepT := fun w g M t => ∃ gl cl, RefT w g gl cl t ∧ M = fun b => b = g ∨ b = gl
/-- An act in memory: 34 cells. -/
def acA (y : Ac) : Array Value := (acL y).toArray
section
variable {w : World} {b : Nat} {y : Ac} (h : Blk w b 38 (acA y))
include h
end
end TrM
end Go.Proofs.YtdmnhpgafbcehaaDoor
set_option maxRecDepth 100000
namespace Go.Proofs.YtdmnhpgafbcehaaDoor
open Go.ChangeShapes Go.WideShapes Go.ChangeAt Go.RowKit
namespace TrM
open TgP RwP
structure Pl (repT : RepT) (w1 w' : World) (ga gq gl cl bA : Nat) (M : Nat → Prop) (s : Tr) (y : Ac) : Prop where
  a : repT w' ga M s
  r : RefT w' gq gl cl s
  m : ∀ b, M b → w1.heap.size ≤ b ∧ b ≠ gq ∧ b ≠ gl ∧ b ≠ bA
  q : w1.heap.size ≤ gl
  h : Below w1.heap.size w1 w'
  k : Blk w' bA 38 (acA y)
  e : bA ≠ gl
section
variable {repT : RepT} {w1 w2 w3 : World} {ga gq gl cl bA : Nat} {M : Nat → Prop} {s : Tr} {y : Ac}
theorem Pl.below (C : TreeC repT) (P : Pl repT w1 w2 ga gq gl cl bA M s y) (hb : Below w2.heap.size w2 w3) : Pl repT w1 w3 ga gq gl cl bA M s y :=
  ⟨C.keep P.a (Turn.of_new (S := fun _ => False) hb) fun _ _ h => h, P.r.below hb, P.m, P.q, P.h.trans (hb.mono P.h.size), P.k.below hb P.k.lt, P.e⟩
theorem Pl.set (C : TreeC repT) {M' : Nat → Prop} {s' : Tr} (P : Pl repT w1 w2 ga gq gl cl bA M s y) (R : repT w3 ga M' s') (hM : ∀ b, M' b → M b ∨ w2.heap.size ≤ b) (T : Turn M w2 w3) :
    repT w3 ga M' s' ∧ RefT w3 gq gl cl s ∧ (∀ b, M' b → w1.heap.size ≤ b ∧ b ≠ gq ∧ b ≠ gl ∧ b ≠ bA) ∧ Below w1.heap.size w1 w3 ∧ Blk w3 bA 38 (acA y) := by
  have h1 := P.r.lt
  have h2 := P.k.lt
  have h3 := P.h.size
  refine ⟨R, P.r.turn T (fun hg => (P.m _ hg).2.1 rfl) (fun hg => (P.m _ hg).2.2.1 rfl), fun b hb => ?_, P.h.trans (T.below h3 fun k hk => (P.m k hk).1), P.k.turn T fun hg => (P.m _ hg).2.2.2 rfl⟩
  rcases hM b hb with h | h
  · exact P.m b h
  · exact ⟨by omega, by omega, by omega, by omega⟩
theorem Pl.both (C : TreeC repT) {w4 : World} {s' : Tr} (R : repT w3 ga M s') (hm : ∀ b, M b → w1.heap.size ≤ b ∧ b ≠ gq ∧ b ≠ gl ∧ b ≠ bA) (hb : Below w1.heap.size w1 w3) (hk : Blk w3 bA 38 (acA y)) (hq : w1.heap.size ≤ gl) (he : bA ≠ gl)
    (R2 : RefT w4 gq gl cl s') (T : Turn (fun b => b = gl) w3 w4) : Pl repT w1 w4 ga gq gl cl bA M s' y :=
  ⟨C.keep R T fun b h e => (hm b h).2.2.1 e, R2, hm, hq, hb.trans (T.below hb.size fun k e => by omega), hk.turn T he, he⟩
end
end TrM
end Go.Proofs.YtdmnhpgafbcehaaDoor
set_option maxRecDepth 100000
namespace Go.Proofs.YtdmnhpgafbcehaaDoor
open Go.ChangeShapes Go.WideShapes Go.ChangeAt Go.RowKit Go.Deep
attribute [local go_sem] Gives GivesE
namespace TrM
open TgP RwP
theorem ownF_slice {E : TypeId} {K B n : Nat} {w : World} {v : Value} {F : Nat → Nat → Nat} (h : OwnF E K w B v n F) : ∃ A c, v = .slice A n c := by
  obtain ⟨A, c, e, _⟩ := OwnX.sli (arL_len K) h
  exact ⟨A, c, by rw [e, lsF_len]⟩
theorem ownF_sli {E : TypeId} {K B n c : Nat} {w : World} {A : Option Addr} {F : Nat → Nat → Nat} (h : OwnF E K w B (.slice A n c) n F) : SliF K (fun b => B ≤ b) w A n F c := by
  obtain ⟨A', c', e, sl⟩ := OwnX.sli (arL_len K) h
  simp only [Value.slice.injEq] at e
  obtain ⟨rfl, _, rfl⟩ := e
  rw [lsF_len] at sl
  exact sl
theorem ownF_at {E : TypeId} {K B n c : Nat} {w : World} {A : Option Addr} {F : Nat → Nat → Nat} (h : OwnF E K w B (.slice A n c) n F) (hn : 0 < n) : ∃ g, A = some ⟨g, 0, none⟩ := by
  rcases h.2 with ⟨e, h0⟩ | ⟨g, cap, cur, e, _⟩
  · rw [lsF_len] at h0; omega
  · simp only [Value.slice.injEq] at e
    exact ⟨g, e.1⟩
section
variable {α : Type} {k : Nat} {en : α → List Value} {E L : TypeId} {S : Nat → Prop} {P : Program} {ops : Array Oper} {Q : Exit → Act → World → Prop} {a : Act} {w : World} {rest : List Oper} {dst : Option Tmp} {ty : TypeId} {pos : String} {after : Array Edge} {s x : Operand} {v : Value} {l m : List α} {A : Option Addr} {n cap B : Nat}
/-- As wappX; where the result lies is told. -/
theorem wappXV (hE : EltX E k en) (hu : Tryd.prog.underlying L = some (.slice E)) (hs : a.eval s = v) (hx : a.eval x = .slice A n cap) (hown : OwnX E k en w B v l) (hm : Sli k en S w A m n cap) (hsz : l.length + n ≤ 1000000) (hk : k ≤ 1000) (hB : B ≤ w.heap.size)
    (h : ∀ v' w', OwnX E k en w' B v' (l ++ m) → w.grownBy w' v.ownBlock → (v'.ownBlock = v.ownBlock ∨ v'.ownBlock = some w.heap.size) → wpList Tryd.prog ops Q rest (a.put dst v') w') :
    wpList Tryd.prog ops Q (⟨dst, .call { callee := .builtin .append, args := #[s, x], argTypes := #[L, L] }, ty, pos, after, none⟩ :: rest) a w := by
  obtain ⟨v', w', hr, ho, hg⟩ := run_appX (ty := ty) hE hu hown hm hsz hk hB
  have hw := run_appX_where hE hu hown hm hsz hk hr
  refine wpList_plain rfl fun K hK => ?_
  unfold Oper.wp execOp
  simp only [resolve, invoke, builtin, Sem.run_bind, Sem.run_pure, Result.andThen_ok, List.map_toArray, List.map_cons, List.map_nil, hs, hx, hr]
  exact hK _ _ (h v' w' ho hg hw)
end
/-- The tree beside its leaves' list. -/
structure An (repT : RepT) (w1 w' : World) (ga gv c N : Nat) (M : Nat → Prop) (s : Tr) (L : Nat → Nat → Nat) : Prop where
  a : repT w' ga M s
  o : OwnF 36 32 w' w1.heap.size (.slice (some ⟨gv, 0, none⟩) N c) N L
  m : ¬ M gv
  q : ∀ b, M b → w1.heap.size ≤ b
  h : Below w1.heap.size w1 w'
theorem An.below {repT : RepT} (C : TreeC repT) {w1 w2 w3 : World} {ga gv c N : Nat} {M : Nat → Prop} {s : Tr} {L : Nat → Nat → Nat} (P : An repT w1 w2 ga gv c N M s L) (hb : Below w2.heap.size w2 w3) : An repT w1 w3 ga gv c N M s L :=
  ⟨C.keep P.a (Turn.of_new (S := fun _ => False) hb) fun _ _ h => h, P.o.below hb (Nat.le_refl _), P.m, P.q, P.h.trans (hb.mono P.h.size)⟩
theorem An.set {repT : RepT} (C : TreeC repT) {w1 w2 w3 : World} {ga gv c N : Nat} {M M' : Nat → Prop} {s s' : Tr} {L : Nat → Nat → Nat} (P : An repT w1 w2 ga gv c N M s L) (R : repT w3 ga M' s') (hM : ∀ b, M' b → M b ∨ w2.heap.size ≤ b) (T : Turn M w2 w3) : An repT w1 w3 ga gv c N M' s' L := by
  have h1 := P.o.lt
  have h2 := P.h.size
  refine ⟨R, P.o.turn T fun b e => by cases e; exact P.m, fun h => ?_, fun b hb => ?_, P.h.trans (T.below h2 P.q)⟩
  · rcases hM gv h with h | h
    · exact P.m h
    · omega
  · rcases hM b hb with h | h
    · exact P.q b h
    · omega
def AnC (repT : RepT) (w1 : World) (ga gv c N : Nat) (M : Nat → Prop) (s s' : Tr) (L : Nat → Nat → Nat) (b : Bool) (w' : World) : Prop := if b then ∃ M', An repT w1 w' ga gv c N M' s' L else An repT w1 w' ga gv c N M s L
theorem AnC.h {repT : RepT} {w1 w' : World} {ga gv c N : Nat} {M : Nat → Prop} {s s' : Tr} {L : Nat → Nat → Nat} {b : Bool} (h : AnC repT w1 ga gv c N M s s' L b w') : Below w1.heap.size w1 w' := by
  unfold AnC at h
  cases b
  · exact An.h h
  · obtain ⟨_, h⟩ := h
    exact h.h
def kTup (E : Int) : Value → Prop := fun v => ∃ u, v = .tuple #[u, .int .i64 E]
def kTupS (E : Int) : Sp := ⟨kTup E, fun _ _ => True, .tuple #[undef, .int .i64 E]⟩
theorem kTupS_ok (E : Int) : (kTupS E).ok := ⟨⟨_, rfl⟩, fun _ _ _ _ _ => trivial⟩
section
variable {repT : RepT} {w1 w' : World} {ga gv c N : Nat} {M : Nat → Prop} {s s' : Tr} {L : Nat → Nat → Nat}
theorem anC_start (h : An repT w1 w' ga gv c N M s L) : AnC repT w1 ga gv c N M s s' L false w' := h
theorem anC_out (h : AnC repT w1 ga gv c N M s s' L false w') : An repT w1 w' ga gv c N M s L := h
theorem anC_in {M' : Nat → Prop} (h : An repT w1 w' ga gv c N M' s' L) : AnC repT w1 ga gv c N M s s' L true w' := ⟨M', h⟩
theorem anC_out2 (h : AnC repT w1 ga gv c N M s s' L true w') : ∃ M', An repT w1 w' ga gv c N M' s' L := h
end
set_option maxHeartbeats 1600000 in
set_option maxRecDepth 100000 in
theorem anew_law {repT : RepT} (HC : TreeC repT) (HD : TreeD repT) (k : Nat → Nat) (hk : ∀ i, k i < 256) (h : Int) (A : Option Addr) (F : Nat → Nat → Nat) (hF : ∀ i j, F i j < 256) (n cap : Nat) (A3 : Option Addr) (l : List Ac) (ln c3 : Nat) (w : World) (hl : ∀ y ∈ l, ∀ k, y.s k < 256) (hA : SliF 32 (fun b => b < w.heap.size) w A n F cap) (hL : Sli 34 acL (fun b => b < w.heap.size) w A3 l ln c3) (hS : Salts w) :
    Calls Tryd.prog 5 #[.agg (ar 32 k), stV h A n cap, .slice A3 ln c3] w fun e w' => e = .returned (.bool true) ∧ Below w.heap.size w w' := by
  have C := hid HC
  have D := hid HD
  have K := hid hk
  have FF := hid hF
  have LF := hid hl
  have AA := hid hA
  have AL := hid hL
  have SA := hid hS
  have MX := hid hA.max
  have NC := hid hA.cap
  have LN := hid hL.len
  clear HC HD hk hF hl hA hL hS
  go_enter Tryd.func5, Tryd.ntmps5
  go_upto_region 1 with fail
  generalize hw1 : World.alloc (World.alloc w _) _ = w1
  have B1 := hid (show Blk w1 w.heap.size 23 (ar 32 k) by rw [← hw1]; exact (Blk.new _ _ _).alloc _)
  have B2 := hid (show Blk w1 (w.heap.size + 1) 26 #[.int .i64 h, .slice A n cap] by rw [← hw1]; exact Blk.top rfl (by simp))
  have hb := hid (show Below w.heap.size w w1 by rw [← hw1]; exact ((Below.refl _ _).alloc (Nat.le_refl _) _).alloc (by simp) _)
  have A1 := hid (AA.out.turn (Turn.of_new (S := fun _ => False) hb.out) fun _ _ _ h => h)
  have L1 := hid (AL.out.turn (Turn.of_new (S := fun _ => False) hb.out) fun _ _ _ h => h)
  have S1 := hid (SA.out.on hb.out)
  clear hw1 AA AL SA
  have c0 : w1.cell? ⟨w.heap.size + 1, 0, none⟩ = some (.int .i64 h) := B2.out.cell 0
  have c1 : w1.cell? ⟨w.heap.size + 1, 1, none⟩ = some (.slice A n cap) := B2.out.cell 1
  have WE := hid (fun (w2 : World) (h : Below w1.heap.size w1 w2) => works_any C.out w2 (S1.out.on h))
  by_cases hbig : 5 < h ∧ h ≤ 12
  · have t1 : decide (5 < h) = true := decide_eq_true hbig.1
    have t2 : decide (h ≤ 12) = true := decide_eq_true hbig.2
    have t3 : 5 < h := hbig.1
    have t4 : h ≤ 12 := hbig.2
    clear hbig
    go_wp2_with fail
    refine (WE.out w1 (Below.refl w1.heap.size w1)).mono ?_
    rintro e w9 ⟨rfl, h9⟩
    have db := hid (hb.out.trans (((Below.refl w1.heap.size w1).trans (h9.mono (Below.refl w1.heap.size w1).size)).mono hb.out.size))
    clear h9
    go_wp2_with fail
    go_ret
    exact ⟨rfl, db.out⟩
  obtain ⟨m, hm1, hm2, hm3⟩ := cut_at n 32
  have HZ := (show (if (32 : Int) < (n : Int) then (32 : Int) else (n : Int)) = (m : Int) from hm1)
  have MC := Nat.le_trans hm2 NC.out
  have MX2 := MX.out
  have NC2 := NC.out
  have A2' := hid (SliF.cut A1.out hm2)
  have M32 := hm3
  clear hm1 hm2 hm3 A1
  have hbg : (5 < h → ¬ h ≤ 12) := fun a b => hbig ⟨a, b⟩
  rcases new_cases h m with hno | ⟨a, rfl, ho, hm⟩
  · have NO := hid (fun (A7 : Option Addr) (c7 : Nat) (w2 : World) => C.out.newNo k h A7 m c7 hno w2)
    by_cases h5 : 5 < h
    · have t1 : decide (5 < h) = true := decide_eq_true h5
      have t2 : decide (h ≤ 12) = false := decide_eq_false (hbg h5)
      have t3 : 5 < h := h5
      have t4 : ¬ h ≤ 12 := hbg h5
      clear hbig hbg h5 hno
      go_upto_region 3 with fail
      clear t1 t2 t3 t4 c0 c1
      have w1b : Below w1.heap.size w1 (w1.alloc (.cells #[] 36)) := (Below.refl _ _).alloc (Nat.le_refl _) _
      have c1' : (w1.alloc (.cells #[] 36)).cell? ⟨w.heap.size + 1, 1, none⟩ = some (.slice A n cap) := (B2.out.alloc _).cell 1
      have O0 := hid (show OwnX 36 32 (arL 32) (w1.alloc (.cells #[] 36)) w1.heap.size (.slice (some ⟨w1.heap.size, 0, none⟩) 0 0) ([] : List (Nat → Nat)) from ⟨rfl, .inr ⟨w1.heap.size, 0, #[], rfl, Nat.le_refl _, Blk.new _ _ _, Nat.le_refl _, Nat.zero_le _, rfl, rfl⟩⟩)
      have AL0 := hid (A2'.out.turn (Turn.of_new (S := fun _ => False) w1b) fun _ _ _ h => h)
      have S0 := hid (show ([] : List (Nat → Nat)).length + m ≤ 1000000 by simp; omega)
      have B0 := hid (show w1.heap.size ≤ (w1.alloc (.cells #[] 36)).heap.size by simp)
      have w1B := hid w1b
      clear w1b A2'
      go_upto_region 4 with (at_builtin; (with_reducible apply wappX eltT Tryd.underlying24); rfl; rfl; exact O0.out; exact AL0.out; exact S0.out; decide; exact B0.out; intro v2 w2 o2 g2; obtain ⟨A7, c7, rfl⟩ := ownF_slice (n := m) (F := F) o2)
      have O2 := hid (show OwnF 36 32 w2 w1.heap.size (.slice A7 m c7) m F from o2)
      have b2 := hid (w1B.out.grown g2 B0.out fun g hg => (O0.out.own g hg).1)
      have y1 := hid (B1.out.below b2.out B1.out.lt)
      have y2 := hid (B2.out.below b2.out B2.out.lt)
      clear o2 g2 O0 AL0 S0 B0 w1B c1' HZ MC MX2 NC2 B1
      have c0 : w2.cell? ⟨w.heap.size + 1, 0, none⟩ = some (.int .i64 h) := y2.out.cell 0
      go_wp2_with ((with_reducible apply ldA tK); rfl; exact y1.out)
      refine (NO.out A7 c7 w2).mono ?_
      rintro e w3 ⟨rfl, h3⟩
      have b3 := hid (b2.out.trans (h3.mono b2.out.size))
      clear h3 c0
      go_wp2_with fail
      refine (WE.out w3 (b3.out)).mono ?_
      rintro e w9 ⟨rfl, h9⟩
      have db := hid (hb.out.trans (((b3.out).trans (h9.mono (b3.out).size)).mono hb.out.size))
      clear h9
      go_wp2_with fail
      go_ret
      exact ⟨rfl, db.out⟩
    · have t1 : decide (5 < h) = false := decide_eq_false h5
      have t3 : ¬ 5 < h := h5
      clear hbig hbg h5 hno
      go_upto_region 3 with fail
      clear t1 t3 c0 c1
      have w1b : Below w1.heap.size w1 (w1.alloc (.cells #[] 36)) := (Below.refl _ _).alloc (Nat.le_refl _) _
      have c1' : (w1.alloc (.cells #[] 36)).cell? ⟨w.heap.size + 1, 1, none⟩ = some (.slice A n cap) := (B2.out.alloc _).cell 1
      have O0 := hid (show OwnX 36 32 (arL 32) (w1.alloc (.cells #[] 36)) w1.heap.size (.slice (some ⟨w1.heap.size, 0, none⟩) 0 0) ([] : List (Nat → Nat)) from ⟨rfl, .inr ⟨w1.heap.size, 0, #[], rfl, Nat.le_refl _, Blk.new _ _ _, Nat.le_refl _, Nat.zero_le _, rfl, rfl⟩⟩)
      have AL0 := hid (A2'.out.turn (Turn.of_new (S := fun _ => False) w1b) fun _ _ _ h => h)
      have S0 := hid (show ([] : List (Nat → Nat)).length + m ≤ 1000000 by simp; omega)
      have B0 := hid (show w1.heap.size ≤ (w1.alloc (.cells #[] 36)).heap.size by simp)
      have w1B := hid w1b
      clear w1b A2'
      go_upto_region 4 with (at_builtin; (with_reducible apply wappX eltT Tryd.underlying24); rfl; rfl; exact O0.out; exact AL0.out; exact S0.out; decide; exact B0.out; intro v2 w2 o2 g2; obtain ⟨A7, c7, rfl⟩ := ownF_slice (n := m) (F := F) o2)
      have O2 := hid (show OwnF 36 32 w2 w1.heap.size (.slice A7 m c7) m F from o2)
      have b2 := hid (w1B.out.grown g2 B0.out fun g hg => (O0.out.own g hg).1)
      have y1 := hid (B1.out.below b2.out B1.out.lt)
      have y2 := hid (B2.out.below b2.out B2.out.lt)
      clear o2 g2 O0 AL0 S0 B0 w1B c1' HZ MC MX2 NC2 B1
      have c0 : w2.cell? ⟨w.heap.size + 1, 0, none⟩ = some (.int .i64 h) := y2.out.cell 0
      go_wp2_with ((with_reducible apply ldA tK); rfl; exact y1.out)
      refine (NO.out A7 c7 w2).mono ?_
      rintro e w3 ⟨rfl, h3⟩
      have b3 := hid (b2.out.trans (h3.mono b2.out.size))
      clear h3 c0
      go_wp2_with fail
      refine (WE.out w3 (b3.out)).mono ?_
      rintro e w9 ⟨rfl, h9⟩
      have db := hid (hb.out.trans (((b3.out).trans (h9.mono (b3.out).size)).mono hb.out.size))
      clear h9
      go_wp2_with fail
      go_ret
      exact ⟨rfl, db.out⟩
  · have ha5 : a ≤ 5 := by have := ho.1; have := ho.2; omega
    have ha1 : 1 ≤ a := by have := ho.1; omega
    have HO := hid ho
    have HM := hid hm
    obtain ⟨t, ht⟩ : ∃ t : Tr, t = ⟨k, a, newL m F⟩ := ⟨_, rfl⟩
    have TE := hid ht
    have t1 : decide (5 < (a : Int)) = false := decide_eq_false (by omega)
    have t3 : ¬ 5 < (a : Int) := by omega
    have B1k := hid B1.out
    have B2k := hid B2.out
    clear hbig hbg ho hm ht
    go_upto_region 3 with fail
    clear t1 t3 c0 c1
    have w1b : Below w1.heap.size w1 (w1.alloc (.cells #[] 36)) := (Below.refl _ _).alloc (Nat.le_refl _) _
    have c1' : (w1.alloc (.cells #[] 36)).cell? ⟨w.heap.size + 1, 1, none⟩ = some (.slice A n cap) := (B2.out.alloc _).cell 1
    have O0 := hid (show OwnX 36 32 (arL 32) (w1.alloc (.cells #[] 36)) w1.heap.size (.slice (some ⟨w1.heap.size, 0, none⟩) 0 0) ([] : List (Nat → Nat)) from ⟨rfl, .inr ⟨w1.heap.size, 0, #[], rfl, Nat.le_refl _, Blk.new _ _ _, Nat.le_refl _, Nat.zero_le _, rfl, rfl⟩⟩)
    have AL0 := hid (A2'.out.turn (Turn.of_new (S := fun _ => False) w1b) fun _ _ _ h => h)
    have S0 := hid (show ([] : List (Nat → Nat)).length + m ≤ 1000000 by simp; omega)
    have B0 := hid (show w1.heap.size ≤ (w1.alloc (.cells #[] 36)).heap.size by simp)
    have w1B := hid w1b
    clear w1b A2'
    go_upto_region 4 with (at_builtin; (with_reducible apply wappX eltT Tryd.underlying24); rfl; rfl; exact O0.out; exact AL0.out; exact S0.out; decide; exact B0.out; intro v2 w2 o2 g2; obtain ⟨A7, c7, rfl⟩ := ownF_slice (n := m) (F := F) o2)
    have O2 := hid (show OwnF 36 32 w2 w1.heap.size (.slice A7 m c7) m F from o2)
    have b2 := hid (w1B.out.grown g2 B0.out fun g hg => (O0.out.own g hg).1)
    have y1 := hid (B1.out.below b2.out B1.out.lt)
    have y2 := hid (B2.out.below b2.out B2.out.lt)
    clear o2 g2 O0 AL0 S0 B0 w1B c1' HZ MC MX2 NC2 B1
    have c0 : w2.cell? ⟨w.heap.size + 1, 0, none⟩ = some (.int .i64 (a : Nat)) := y2.out.cell 0
    obtain ⟨N, hN1⟩ : ∃ N, N = 2 ^ a := ⟨_, rfl⟩
    have NN := hid hN1
    have hN : wrap64 (2 ^ a) = (N : Int) := shl_n ha5 hN1
    have hN32 : N ≤ 32 := by rw [hN1]; exact pow32 ha5
    have hN0 : 0 < N := by rw [hN1]; exact Nat.pow_pos (by omega)
    have hmN : m ≤ N := by rw [hN1]; exact HM.out
    clear hN1
    go_wp2_with ((with_reducible apply ldA tK); rfl; exact y1.out)
    refine (C.out.new k K.out a HO.out A7 F FF.out m c7 HM.out _ w2 (ownF_sli O2.out) (S1.out.on b2.out)).mono ?_
    rintro e w3 ⟨ga, M0, rfl, r3, hM3, h3⟩
    rw [← TE.out] at r3
    have R3 := hid r3
    have M3 := hid hM3
    have LA := hid (C.out.lt r3).2
    have O3 := hid (O2.out.below h3 (Nat.le_refl _))
    have b3 := hid (b2.out.trans (h3.mono b2.out.size))
    have x1 := hid (y1.out.below h3 y1.out.lt)
    have x2 := hid (y2.out.below h3 y2.out.lt)
    have s23 := h3.size
    have s12 := b2.out.size
    have PL := hid (show ∀ b, (Value.slice A7 m c7).ownBlock = some b → b < w2.heap.size ∨ w3.heap.size ≤ b from fun b e => .inl (O2.out.own b e).2)
    clear r3 hM3 h3 c0 O2 y1 y2 b2 B2
    have c0 : w3.cell? ⟨w.heap.size + 1, 0, none⟩ = some (.int .i64 (a : Nat)) := x2.out.cell 0
    have O4 := hid (OwnF.ext O3.out (G := newL m F) fun i j hi _ => by unfold newL; rw [if_pos hi])
    clear O3
    go_wp2_with fail
    go_loopw [7] (fun uu wr => ∃ (j : Nat) (A' : Option Addr) (c' : Nat), uu = .slice A' j c' ∧ m ≤ j ∧ j ≤ N ∧ Hid (OwnF 36 32 wr w1.heap.size (.slice A' j c') j (newL m F)) ∧ Hid (∀ b, (Value.slice A' j c').ownBlock = some b → b < w2.heap.size ∨ w3.heap.size ≤ b) ∧ Hid (repT wr ga M0 t) ∧ Hid (Below w1.heap.size w1 wr) ∧ Hid (w3.heap.size ≤ wr.heap.size)) (fun uu _ => match uu with | .slice _ q _ => N - q | _ => 0)
    case atStart => exact ⟨m, A7, c7, rfl, Nat.le_refl _, hmN, O4, PL, R3, b3, hid (Nat.le_refl _)⟩
    case round =>
      clear O4 PL R3 c0
      obtain ⟨j, A', c', rfl, hmj, hjN, ho, hp, hr, hbl, hsz⟩ := hrel
      by_cases hlt : j < N
      · have t1 : (j : Int) < N := by omega
        have o1 := hid (ho.out.below ((Below.refl wr.heap.size wr).alloc (Nat.le_refl _) (.cells (arL 32 fun _ => 0).toArray 36)) (Nat.le_refl _))
        have sl := hid (sli_lit1 (S := fun _ => True) eltT (fun _ => 0) wr trivial)
        have LE := hid (show (lsF j (newL m F)).length + 1 ≤ 1000000 by rw [lsF_len]; omega)
        have BL := hid (show w1.heap.size ≤ (wr.alloc (.cells (arL 32 fun _ => 0).toArray 36)).heap.size by have := hbl.out.size; simp; omega)
        go_wp2_with (first | (with_reducible apply bldZ zT) | ((with_reducible apply wlit1 (x := fun _ => 0) eltT Tryd.underlying24 (by omega)); rfl; rfl) | (at_builtin; (with_reducible apply wappXV eltT Tryd.underlying24); rfl; rfl; exact o1.out; exact sl.out; exact LE.out; decide; exact BL.out; intro v8 w8 o8 g8 q8; rw [lsF_snoc] at o8; obtain ⟨A8, c8, rfl⟩ := ownF_slice o8))
        have TT : Turn (fun b => (Value.slice A' j c').ownBlock = some b) wr w8 := (Turn.of_new (S := fun b => (Value.slice A' j c').ownBlock = some b) ((Below.refl wr.heap.size wr).alloc (Nat.le_refl _) (.cells (arL 32 fun _ => 0).toArray 36))).trans (Turn.of_grown g8 fun b e => e) fun _ e => .inl e
        have O8 := hid (OwnF.ext o8 (G := newL m F) fun q z _ _ => by unfold upF newL; by_cases e : q = j; rw [if_pos e, if_neg (by omega)]; rw [if_neg e])
        have P8 := hid (show ∀ b, (Value.slice A8 (j + 1) c8).ownBlock = some b → b < w2.heap.size ∨ w3.heap.size ≤ b from fun b e => by
            rcases q8 with q8 | q8
            · rw [q8] at e; exact hp.out b e
            · rw [q8] at e; cases e; right; have := hsz.out; simp; omega)
        have R8 := hid (C.out.keep hr.out TT fun b hb e => by have h1 := M3.out b hb; have h2 := LA.out b hb; rcases hp.out b e with h | h <;> omega)
        have b8 := hid (hbl.out.trans (TT.below hbl.out.size fun b e => (ho.out.own b e).1))
        have s8 := hid (Nat.le_trans hsz.out TT.size)
        clear o8 g8 q8 TT o1 sl LE BL ho hp hr hbl hsz
        go_roundw
        case rel => exact ⟨j + 1, A8, c8, ⟨rfl, rfl, rfl⟩, by omega, by omega, O8, P8, R8, b8, s8⟩
        case measure => first | omega | (simp <;> omega)
      · obtain rfl : j = N := by omega
        have t1 : ¬ (j : Int) < j := by omega
        obtain ⟨gv, rfl⟩ := ownF_at ho.out hN0
        have P0 := hid (show An repT w1 wr ga gv c' j M0 t t.L from ⟨hr.out, by rw [show t.L = newL m F by rw [TE.out]]; exact ho.out, fun hM => by have h1 := M3.out gv hM; have h2 := LA.out gv hM; rcases hp.out gv rfl with h | h <;> omega, fun b hb => by have := M3.out b hb; have := b3.out.size; omega, hbl.out⟩)
        have TK := hid (show t.k = k ∧ t.h = a by rw [TE.out]; exact ⟨rfl, rfl⟩)
        have S23 := hid hsz.out
        clear ho hp hr hbl hsz LA M3 hmj hjN
        obtain ⟨wz, hwz⟩ : ∃ x, x = wr := ⟨_, rfl⟩
        rw [← hwz] at P0 S23 ⊢
        clear hwz
        go_wp2_with fail
        go_loopw [11] (fun uu wx => ∃ (i : Nat) (s : Tr) (M : Nat → Prop), uu = .int .i64 i ∧ i ≤ ln ∧ Hid (An repT w1 wx ga gv c' j M s s.L) ∧ Hid (s.k = k ∧ s.h = a)) (fun uu _ => ln - (intOf uu).toNat)
        case atStart => exact ⟨0, t, M0, rfl, Nat.zero_le _, P0, TK⟩
        case round =>
          clear P0 TK
          obtain ⟨i, s, M, rfl, hi, P, SK⟩ := hrel
          by_cases hgo : i < ln ∧ i < 20
          · obtain ⟨y, hy⟩ : ∃ y, l[i]? = some y := ⟨l[i]'(by rw [LN.out]; omega), List.getElem?_eq_getElem _⟩
            have LB := hid (L1.out.turn (Turn.of_new (S := fun _ => False) P.out.h) fun _ _ _ h => h)
            obtain ⟨b2, o2, rfl, hbS, hb2, hr⟩ := L1.out.some hy
            have hys := hid (LF.out y (List.mem_of_getElem? hy))
            have R0 := hid (show ∀ w', Below w1.heap.size w1 w' → w'.cell? ⟨b2, o2 + i * 34 + 1, none⟩ = some (.int .i64 y.c) ∧ w'.rangeAt b2 (o2 + i * 34 + 2) (ar 32 y.s).toList from fun w' hw' => ⟨(hw'.cell (p := ⟨b2, o2 + i * 34 + 1, none⟩) hb2).trans (hr 1 _ rfl), fun q v hq => (hw'.cell (p := ⟨b2, o2 + i * 34 + 2 + q, none⟩) hb2).trans (by rw [show o2 + i * 34 + 2 + q = o2 + i * 34 + (2 + q) by omega]; exact hr (2 + q) v (by unfold acL; rw [show 2 + q = q + 1 + 1 by omega, List.getElem?_cons_succ, List.getElem?_cons_succ]; exact hq))⟩)
            have t1 : (i : Int) < ln := by omega
            have t2 : (i : Int) < 20 := by omega
            have hiln : i < ln := hgo.1
            clear hr hgo LB hy
            obtain ⟨E, hE⟩ : ∃ E, E = lfE s y.c := ⟨_, rfl⟩
            have HE := hid hE
            clear hE
            go_wp2_with fail
            refine wp_region_c (S := yS [some (pT ga), some (.slice (some ⟨b2, o2, none⟩) ln c3), some (.int .i64 i), some (.pointer (some ⟨b2, o2 + i * 34, none⟩)), some (.pointer (some ⟨b2, o2 + i * 34 + 1, none⟩)), some (.int .i64 y.c), some (.slice (some ⟨b2, o2, none⟩) ln c3), some (.int .i64 i), some (.pointer (some ⟨b2, o2 + i * 34, none⟩)), some (.pointer (some ⟨b2, o2 + i * 34 + 2, none⟩)), some (.agg (ar 32 y.s)), none, none, none, some (.int .i64 E), none, some (.int .i64 E)] [(11, kTupS E), (12, kTupS E)])
                (C := fun d vs w' => AnC repT w1 ga gv c' j M s (setV s y.c y.s) s.L (d 11) w') 17 (by kernel_rfl) (by kernel_rfl) (by kernel_rfl) _ (yS_ok _ fun y hy => by simp only [List.mem_cons, List.not_mem_nil, or_false] at hy; rcases hy with rfl | rfl <;> exact kTupS_ok _) (anC_start (P.out.below C.out (Below.refl _ _).drew)) fun vs => ?_
            simp only [List.take_succ_cons, List.take_zero, List.drop_succ_cons, List.drop_zero]
            refine ⟨.inl ⟨rfl, fun dd w' hd hnx hw hC => ?_⟩, fun e => ?_⟩
            · go_simp
              first | exact ⟨rfl, hC⟩ | exact hC
            have e' : vs 0 = _ := e
            rw [e']
            clear e e'
            simp only [Act.put, List.setIfInBounds_toArray, List.set_cons_succ, List.set_cons_zero]
            refine ⟨.inl ⟨rfl, fun dd w' hd hnx hw hC => ?_⟩, fun e => ?_⟩
            · go_simp
              first | exact ⟨rfl, hC⟩ | exact hC
            have e' : vs 1 = _ := e
            rw [e']
            clear e e'
            simp only [Act.put, List.setIfInBounds_toArray, List.set_cons_succ, List.set_cons_zero]
            refine ⟨.inl ⟨rfl, fun dd w' hd hnx hw hC => ?_⟩, fun e => ?_⟩
            · go_simp
              first | exact ⟨rfl, hC⟩ | exact hC
            have e' : vs 2 = _ := e
            rw [e']
            clear e e'
            simp only [Act.put, List.setIfInBounds_toArray, List.set_cons_succ, List.set_cons_zero]
            refine ⟨.inl ⟨rfl, fun dd w' hd hnx hw hC => ?_⟩, fun e => ?_⟩
            · have h1 : i < ln := hiln
              go_simp
              first | exact ⟨rfl, hC⟩ | exact hC
            have e' : vs 3 = _ := e
            rw [e']
            clear e e'
            simp only [Act.put, List.setIfInBounds_toArray, List.set_cons_succ, List.set_cons_zero]
            refine ⟨.inl ⟨rfl, fun dd w' hd hnx hw hC => ?_⟩, fun e => ?_⟩
            · go_simp
              first | exact ⟨rfl, hC⟩ | exact hC
            have e' : vs 4 = _ := e
            rw [e']
            clear e e'
            simp only [Act.put, List.setIfInBounds_toArray, List.set_cons_succ, List.set_cons_zero]
            refine ⟨.inl ⟨rfl, fun dd w' hd hnx hw hC => ?_⟩, fun e => ?_⟩
            · have hA : w'.cell? ⟨b2, o2 + i * 34 + 1, none⟩ = some (.int .i64 y.c) := (R0.out w' (AnC.h hC)).1
              go_simp
              first | exact ⟨rfl, hC⟩ | exact hC
            have e' : vs 5 = _ := e
            rw [e']
            clear e e'
            simp only [Act.put, List.setIfInBounds_toArray, List.set_cons_succ, List.set_cons_zero]
            refine ⟨.inl ⟨rfl, fun dd w' hd hnx hw hC => ?_⟩, fun e => ?_⟩
            · go_simp
              first | exact ⟨rfl, hC⟩ | exact hC
            have e' : vs 6 = _ := e
            rw [e']
            clear e e'
            simp only [Act.put, List.setIfInBounds_toArray, List.set_cons_succ, List.set_cons_zero]
            refine ⟨.inl ⟨rfl, fun dd w' hd hnx hw hC => ?_⟩, fun e => ?_⟩
            · go_simp
              first | exact ⟨rfl, hC⟩ | exact hC
            have e' : vs 7 = _ := e
            rw [e']
            clear e e'
            simp only [Act.put, List.setIfInBounds_toArray, List.set_cons_succ, List.set_cons_zero]
            refine ⟨.inl ⟨rfl, fun dd w' hd hnx hw hC => ?_⟩, fun e => ?_⟩
            · have h1 : i < ln := hiln
              go_simp
              first | exact ⟨rfl, hC⟩ | exact hC
            have e' : vs 8 = _ := e
            rw [e']
            clear e e'
            simp only [Act.put, List.setIfInBounds_toArray, List.set_cons_succ, List.set_cons_zero]
            refine ⟨.inl ⟨rfl, fun dd w' hd hnx hw hC => ?_⟩, fun e => ?_⟩
            · go_simp
              first | exact ⟨rfl, hC⟩ | exact hC
            have e' : vs 9 = _ := e
            rw [e']
            clear e e'
            simp only [Act.put, List.setIfInBounds_toArray, List.set_cons_succ, List.set_cons_zero]
            refine ⟨.inl ⟨rfl, fun dd w' hd hnx hw hC => ?_⟩, fun e => ?_⟩
            · exact gE_ldA tT rfl (R0.out w' (AnC.h hC)).2 ⟨rfl, hC⟩
            have e' : vs 10 = _ := e
            rw [e']
            clear e e'
            simp only [Act.put, List.setIfInBounds_toArray, List.set_cons_succ, List.set_cons_zero]
            refine ⟨.inl ⟨rfl, fun dd w' hd hnx hw hC => ?_⟩, fun e => ?_⟩
            · have hd' : dd 11 = false := hd
              have hA : AnC repT w1 ga gv c' j M s (setV s y.c y.s) s.L (dd 11) w' := hC
              rw [hd'] at hA
              have hA := anC_out hA
              go_simp
              refine (set_all C.out D.out y.c y.s hys.out hA.a (S1.out.on hA.h)).mono ?_
              rintro e w4 ⟨v, M', rfl, o4, R4, hM', _, T4⟩
              rw [← HE.out]
              exact ⟨_, rfl, ⟨v, rfl⟩, anC_in (hA.set C.out R4 hM' T4)⟩
            obtain ⟨u11, e'⟩ : ∃ u, vs 11 = .tuple #[u, .int .i64 E] := e
            rw [e']
            clear e'
            simp only [Act.put, List.setIfInBounds_toArray, List.set_cons_succ, List.set_cons_zero]
            refine ⟨.inl ⟨rfl, fun dd w' hd hnx hw hC => ?_⟩, fun e => ?_⟩
            · go_simp
              exact ⟨⟨_, rfl⟩, hC⟩
            obtain ⟨u12, e'⟩ : ∃ u, vs 12 = .tuple #[u, .int .i64 E] := e
            rw [e']
            clear e'
            simp only [Act.put, List.setIfInBounds_toArray, List.set_cons_succ, List.set_cons_zero]
            refine ⟨.inl ⟨rfl, fun dd w' hd hnx hw hC => ?_⟩, fun _ => ?_⟩
            · go_simp
              exact ⟨trivial, hC⟩
            simp only [Act.put, List.setIfInBounds_toArray, List.set_cons_succ, List.set_cons_zero]
            refine ⟨.inl ⟨rfl, fun dd w' hd hnx hw hC => ?_⟩, fun e => ?_⟩
            · go_simp
              first | exact ⟨rfl, hC⟩ | exact hC
            have e' : vs 14 = _ := e
            rw [e']
            clear e e'
            simp only [Act.put, List.setIfInBounds_toArray, List.set_cons_succ, List.set_cons_zero]
            refine ⟨.inl ⟨rfl, fun dd w' hd hnx hw hC => ?_⟩, fun _ => ?_⟩
            · go_simp
              exact ⟨trivial, hC⟩
            simp only [Act.put, List.setIfInBounds_toArray, List.set_cons_succ, List.set_cons_zero]
            refine ⟨.inl ⟨rfl, fun dd w' hd hnx hw hC => ?_⟩, fun e => ?_⟩
            · go_simp
              first | exact ⟨rfl, hC⟩ | exact hC
            have e' : vs 16 = _ := e
            rw [e']
            clear e e'
            simp only [Act.put, List.setIfInBounds_toArray, List.set_cons_succ, List.set_cons_zero]
            intro dd w5 hall hC
            have hA : AnC repT w1 ga gv c' j M s (setV s y.c y.s) s.L (dd 11) w5 := hC
            rw [hall 11 (by omega)] at hA
            obtain ⟨M5, hA⟩ := anC_out2 hA
            have P5 := hid hA
            clear hA hC hall P
            generalize vs 13 = u13
            generalize vs 15 = u15
            have SN := hid (show s.n = j by show 2 ^ s.h = j; rw [SK.out.2, NN.out])
            have a1 := (R0.out w5 P5.out.h).1
            by_cases hin : 0 ≤ y.c ∧ y.c < (j : Int)
            · obtain ⟨c, hc⟩ : ∃ c : Nat, y.c = c := ⟨y.c.toNat, by omega⟩
              have hcj : c < j := by omega
              have hE0 : E = 0 := by rw [HE.out]; unfold lfE; rw [if_pos (by rw [SN.out]; exact hin)]
              have hsv := hid (show setV s y.c y.s = s.set c y.s by unfold setV; rw [if_pos (by rw [SN.out]; exact hin), hc, Int.toNat_natCast])
              rw [hc] at a1
              subst hE0
              have t5 : decide ((0 : Int) ≤ (c : Int)) = true := decide_eq_true (by omega)
              have t6 : decide ((c : Int) < (j : Int)) = true := decide_eq_true (by omega)
              have t7 : decide (c < j) = true := decide_eq_true hcj
              have t8 : (c : Int) < (j : Int) := by omega
              have CE := hid hc
              clear hin hc
              go_upto_region 17 with fail
              clear t5 t6 t7 t8
              refine wp_region_tail (C := fun w' => Below w5.heap.size w5 w') 12 (by kernel_rfl) (by kernel_rfl) (by kernel_rfl) (Below.refl _ _).drew ?_
              simp only [List.take_succ_cons, List.take_zero, List.drop_succ_cons, List.drop_zero]
              apply wpK_val
              · rfl
              · intro w' hw'
                go_simp
                first | exact rfl | exact ⟨rfl, hw'⟩
              simp only [Act.put, List.setIfInBounds_toArray, List.set_cons_succ, List.set_cons_zero]
              apply wpK_val
              · rfl
              · intro w' hw'
                go_simp
                first | exact rfl | exact ⟨rfl, hw'⟩
              simp only [Act.put, List.setIfInBounds_toArray, List.set_cons_succ, List.set_cons_zero]
              apply wpK_val
              · rfl
              · intro w' hw'
                go_simp
                first | exact rfl | exact ⟨rfl, hw'⟩
              simp only [Act.put, List.setIfInBounds_toArray, List.set_cons_succ, List.set_cons_zero]
              apply wpK_val
              · rfl
              · intro w' hw'
                have h1 : i < ln := hiln
                go_simp
                first | exact rfl | exact ⟨rfl, hw'⟩
              simp only [Act.put, List.setIfInBounds_toArray, List.set_cons_succ, List.set_cons_zero]
              apply wpK_val
              · rfl
              · intro w' hw'
                go_simp
                first | exact rfl | exact ⟨rfl, hw'⟩
              simp only [Act.put, List.setIfInBounds_toArray, List.set_cons_succ, List.set_cons_zero]
              apply wpK_val
              · rfl
              · intro w' hw'
                have hcell := (by rw [← CE.out]; exact (R0.out w' (P5.out.below C.out hw').h).1 : w'.cell? ⟨b2, o2 + i * 34 + 1, none⟩ = some (.int .i64 (c : Nat)))
                go_simp
                first | exact rfl | exact ⟨rfl, hw'⟩
              simp only [Act.put, List.setIfInBounds_toArray, List.set_cons_succ, List.set_cons_zero]
              apply wpK_val
              · rfl
              · intro w' hw'
                go_simp
                first | exact rfl | exact ⟨rfl, hw'⟩
              simp only [Act.put, List.setIfInBounds_toArray, List.set_cons_succ, List.set_cons_zero]
              apply wpK_val
              · rfl
              · intro w' hw'
                go_simp
                first | exact rfl | exact ⟨rfl, hw'⟩
              simp only [Act.put, List.setIfInBounds_toArray, List.set_cons_succ, List.set_cons_zero]
              apply wpK_val
              · rfl
              · intro w' hw'
                have h1 : i < ln := hiln
                go_simp
                first | exact rfl | exact ⟨rfl, hw'⟩
              simp only [Act.put, List.setIfInBounds_toArray, List.set_cons_succ, List.set_cons_zero]
              apply wpK_val
              · rfl
              · intro w' hw'
                go_simp
                first | exact rfl | exact ⟨rfl, hw'⟩
              simp only [Act.put, List.setIfInBounds_toArray, List.set_cons_succ, List.set_cons_zero]
              apply kldA tT
              · rfl
              · rfl
              · exact fun w' hw' => (R0.out w' (P5.out.below C.out hw').h).2
              simp only [Act.put, List.setIfInBounds_toArray, List.set_cons_succ, List.set_cons_zero]
              apply wpK_val
              · rfl
              · intro w' hw'
                have h1 : c < j := hcj
                go_simp
                first | exact rfl | exact ⟨rfl, hw'⟩
              simp only [Act.put, List.setIfInBounds_toArray, List.set_cons_succ, List.set_cons_zero]
              refine wpK_nil fun w6 h6 => ?_
              have P6 := hid (P5.out.below C.out h6)
              clear h6
              go_wp2_with ((with_reducible apply wstF (i := c) tT (by omega)); rfl; rfl; rfl; exact P6.out.o; exact hcj; intro w7 o7 t7)
              have P7 := hid (show An repT w1 w7 ga gv c' j M5 (s.set c y.s) (s.set c y.s).L from ⟨C.out.keep (by have := P6.out.a; rwa [hsv.out] at this) t7 fun b hb e => by cases e; exact P6.out.m hb, OwnF.ext o7 fun q z _ _ => rfl, P6.out.m, P6.out.q, P6.out.h.trans (t7.below P6.out.h.size fun b e => by cases e; exact P6.out.o.lt.2)⟩)
              clear P6 P5 o7 t7 a1
              go_roundw
              case rel => exact ⟨i + 1, s.set c y.s, M5, by go_num, by omega, P7, hid SK.out⟩
              case measure => simp [intOf] <;> omega
            · have hE2 : E = 2 := by rw [HE.out]; unfold lfE; rw [if_neg (by rw [SN.out]; exact hin)]
              have hsv := hid (show setV s y.c y.s = s by unfold setV; rw [if_neg (by rw [SN.out]; exact hin)])
              have P6 := hid (show An repT w1 w5 ga gv c' j M5 s s.L by have := P5.out; rwa [hsv.out] at this)
              clear P5 hsv
              subst hE2
              by_cases hneg : 0 ≤ y.c
              · have t5 : decide ((0 : Int) ≤ y.c) = true := decide_eq_true hneg
                have t6 : decide (y.c < (j : Int)) = false := decide_eq_false (by omega)
                have t8 : ¬ y.c < (j : Int) := by omega
                clear hin
                go_wp2_with fail
                go_roundw
                case rel => exact ⟨i + 1, s, M5, by go_num, by omega, P6, hid SK.out⟩
                case measure => simp [intOf] <;> omega
              · have t5 : decide ((0 : Int) ≤ y.c) = false := decide_eq_false hneg
                clear hin
                go_wp2_with fail
                go_roundw
                case rel => exact ⟨i + 1, s, M5, by go_num, by omega, P6, hid SK.out⟩
                case measure => simp [intOf] <;> omega
          · have z1 := hid (show Blk wr w.heap.size 23 (ar 32 k) from (B1k.out.below P.out.h B1k.out.lt))
            have z2 := hid (show Blk wr (w.heap.size + 1) 26 #[.int .i64 (a : Nat), .slice A n cap] from (B2k.out.below P.out.h B2k.out.lt))
            have s256 := hid (C.out.wf P.out.a).2.2.2
            obtain ⟨wx0, hwx0⟩ : ∃ x, x = wr := ⟨_, rfl⟩
            rw [← hwx0] at z1 z2 P ⊢
            clear hwx0
            have c0 : wx0.cell? ⟨w.heap.size + 1, 0, none⟩ = some (.int .i64 (a : Nat)) := z2.out.cell 0
            by_cases hln : i < ln
            · have t1 : (i : Int) < ln := by omega
              have t2 : ¬ (i : Int) < 20 := by omega
              have t3 : decide ((i : Int) < ln) = true := decide_eq_true t1
              have t4 : decide ((i : Int) < 20) = false := decide_eq_false t2
              go_wp2_with ((with_reducible apply ldA tK); rfl; exact z1.out)
              refine (C.out.new k K.out a HO.out (some ⟨gv, 0, none⟩) s.L s256.out j c' (by rw [← NN.out]; exact Nat.le_refl _) _ wx0 (ownF_sli P.out.o) (S1.out.on P.out.h)).mono ?_
              rintro e w6 ⟨gu, Mu, rfl, r6, _, h6⟩
              have Q := hid (P.out.below C.out h6)
              have RU := hid r6
              have AL := hid (show Al s ⟨k, a, newL j s.L⟩ from ⟨SK.out.1, SK.out.2, fun i z hi _ => by show s.L i z = (if i < j then s.L i else fun _ => 0) z; rw [if_pos (by have : i < 2 ^ s.h := hi; rw [SK.out.2, ← NN.out] at this; exact this)]⟩)
              have SN := hid (show s.n = j by show 2 ^ s.h = j; rw [SK.out.2, NN.out])
              have UN := hid (show (⟨k, a, newL j s.L⟩ : Tr).n = j from NN.out.symm)
              clear r6 h6 P c0
              generalize (⟨k, a, newL j s.L⟩ : Tr) = u at RU AL UN
              go_wp2_with fail
              refine (C.out.top Q.out.a (S1.out.on Q.out.h)).mono ?_
              rintro e w7 ⟨rfl, h7⟩
              have Q7 := hid (Q.out.below C.out h7)
              have RU7 := hid (C.out.keep RU.out (Turn.of_new (S := fun _ => False) h7) fun _ _ h => h)
              clear h7 Q RU
              go_wp2_with fail
              refine (C.out.top RU7.out (S1.out.on Q7.out.h)).mono ?_
              rintro e w8 ⟨rfl, h8⟩
              have Q8 := hid (Q7.out.below C.out h8)
              have RU8 := hid (C.out.keep RU7.out (Turn.of_new (S := fun _ => False) h8) fun _ _ h => h)
              clear h8 Q7 RU7
              have ET := hid (eqA_yes (n := 32) (f := s.tg 1) (g := u.tg 1) (AL.out.tg (by omega) (by rw [SN.out]; omega)))
              have t5 : wrap64 (2 * (j : Int)) = ((2 * j : Nat) : Int) := by rw [show 2 * (j : Int) = ((2 * j : Nat) : Int) by omega]; exact wrap_small (by omega)
              obtain ⟨N2, hN2⟩ : ∃ N2, N2 = 2 * j := ⟨_, rfl⟩
              have t6 : 2 * (j : Int) = (N2 : Int) := by omega
              have NE2 := hid hN2
              have hN2b : N2 ≤ 64 := by omega
              have hN21 : 1 ≤ N2 := by omega
              clear t5 hN2
              go_wp2_with ((with_reducible apply wneAq false uT eqgT); rfl; rfl; rfl; (rw [ET.out]; rfl))
              clear ET
              go_loopw [16] (fun uu wx => ∃ q : Nat, uu = .int .i64 q ∧ 1 ≤ q ∧ q ≤ N2 ∧ Hid (An repT w1 wx ga gv c' j M s s.L) ∧ Hid (repT wx gu Mu u)) (fun uu _ => N2 - (intOf uu).toNat)
              case atStart => exact ⟨1, rfl, Nat.le_refl _, hN21, Q8, RU8⟩
              case round =>
                clear Q8 RU8
                obtain ⟨q, rfl, hq1, hq2, Q, RU⟩ := hrel
                by_cases hqn : q < N2
                · have t1 : (q : Int) < N2 := by omega
                  go_wp2_with fail
                  refine (D.out.tag q ⟨by omega, by rw [SN.out, ← NE2.out]; omega⟩ Q.out.a (S1.out.on Q.out.h)).mono ?_
                  rintro e x1 ⟨rfl, h1⟩
                  have Q1 := hid (Q.out.below C.out h1)
                  have U1 := hid (C.out.keep RU.out (Turn.of_new (S := fun _ => False) h1) fun _ _ h => h)
                  clear h1 Q RU
                  go_upto_region 25 with (first | (with_reducible apply alA tT) | ((with_reducible apply stA tT); rfl; rfl; exact Blk.new _ _ _))
                  generalize hx2 : World.setRow (World.alloc x1 _) _ _ = x2
                  have p2 := hid (show Blk x2 x1.heap.size 36 (ar 32 (s.tg q)) by rw [← hx2]; exact (Blk.new _ _ _).setRow_same _)
                  have h2 : Below x1.heap.size x1 x2 := by rw [← hx2]; exact below_setRow ((Below.refl _ _).alloc (Nat.le_refl _) _) (Nat.le_refl _) _
                  have Q2 := hid (Q1.out.below C.out h2)
                  have U2 := hid (C.out.keep U1.out (Turn.of_new (S := fun _ => False) h2) fun _ _ h => h)
                  clear h2 hx2 Q1 U1
                  generalize x1.heap.size = g1 at p2 ⊢
                  go_wp2_with fail
                  refine (D.out.tag q ⟨by omega, by rw [UN.out, ← NE2.out]; omega⟩ U2.out (S1.out.on Q2.out.h)).mono ?_
                  rintro e x3 ⟨rfl, h3⟩
                  have Q3 := hid (Q2.out.below C.out h3)
                  have U3 := hid (C.out.keep U2.out (Turn.of_new (S := fun _ => False) h3) fun _ _ h => h)
                  have p3 := hid (p2.out.below h3 p2.out.lt)
                  clear h3 Q2 U2 p2
                  go_upto_region 26 with (first | (with_reducible apply alA tT) | ((with_reducible apply stA tT); rfl; rfl; exact Blk.new _ _ _))
                  generalize hx4 : World.setRow (World.alloc x3 _) _ _ = x4
                  have p4 := hid (show Blk x4 x3.heap.size 36 (ar 32 (u.tg q)) by rw [← hx4]; exact (Blk.new _ _ _).setRow_same _)
                  have h4 : Below x3.heap.size x3 x4 := by rw [← hx4]; exact below_setRow ((Below.refl _ _).alloc (Nat.le_refl _) _) (Nat.le_refl _) _
                  have Q4 := hid (Q3.out.below C.out h4)
                  have U4 := hid (C.out.keep U3.out (Turn.of_new (S := fun _ => False) h4) fun _ _ h => h)
                  have p5 := hid (p3.out.below h4 p3.out.lt)
                  clear h4 hx4 Q3 U3 p3
                  generalize x3.heap.size = g2 at p4 ⊢
                  have EQ := hid (eqA_yes (n := 32) (f := s.tg q) (g := u.tg q) (AL.out.tg (by omega) (by rw [SN.out, ← NE2.out]; exact hqn)))
                  go_wp2_with (first | ((with_reducible apply ldAq tT); rfl; rfl; exact p5.out.head) | ((with_reducible apply ldAq tT); rfl; rfl; exact p4.out.head) | ((with_reducible apply wneAq false uT eqgT); rfl; rfl; rfl; (rw [EQ.out]; rfl)))
                  go_roundw
                  case rel => exact ⟨q + 1, by go_num, by omega, by omega, Q4, U4⟩
                  case measure => simp [intOf] <;> omega
                · have t1 : ¬ (q : Int) < N2 := by omega
                  have BE := hid Q.out.h
                  clear Q RU
                  obtain ⟨wy, hwy⟩ : ∃ x, x = wr := ⟨_, rfl⟩
                  rw [← hwy] at BE ⊢
                  clear hwy
                  go_wp2_with fail
                  refine (WE.out wy (BE.out)).mono ?_
                  rintro e w9 ⟨rfl, h9⟩
                  have db := hid (hb.out.trans (((BE.out).trans (h9.mono (BE.out).size)).mono hb.out.size))
                  clear h9
                  go_wp2_with fail
                  go_ret
                  exact ⟨rfl, db.out⟩
            · have t1 : ¬ (i : Int) < ln := by omega
              have t3 : decide ((i : Int) < ln) = false := decide_eq_false t1
              go_wp2_with ((with_reducible apply ldA tK); rfl; exact z1.out)
              refine (C.out.new k K.out a HO.out (some ⟨gv, 0, none⟩) s.L s256.out j c' (by rw [← NN.out]; exact Nat.le_refl _) _ wx0 (ownF_sli P.out.o) (S1.out.on P.out.h)).mono ?_
              rintro e w6 ⟨gu, Mu, rfl, r6, _, h6⟩
              have Q := hid (P.out.below C.out h6)
              have RU := hid r6
              have AL := hid (show Al s ⟨k, a, newL j s.L⟩ from ⟨SK.out.1, SK.out.2, fun i z hi _ => by show s.L i z = (if i < j then s.L i else fun _ => 0) z; rw [if_pos (by have : i < 2 ^ s.h := hi; rw [SK.out.2, ← NN.out] at this; exact this)]⟩)
              have SN := hid (show s.n = j by show 2 ^ s.h = j; rw [SK.out.2, NN.out])
              have UN := hid (show (⟨k, a, newL j s.L⟩ : Tr).n = j from NN.out.symm)
              clear r6 h6 P c0
              generalize (⟨k, a, newL j s.L⟩ : Tr) = u at RU AL UN
              go_wp2_with fail
              refine (C.out.top Q.out.a (S1.out.on Q.out.h)).mono ?_
              rintro e w7 ⟨rfl, h7⟩
              have Q7 := hid (Q.out.below C.out h7)
              have RU7 := hid (C.out.keep RU.out (Turn.of_new (S := fun _ => False) h7) fun _ _ h => h)
              clear h7 Q RU
              go_wp2_with fail
              refine (C.out.top RU7.out (S1.out.on Q7.out.h)).mono ?_
              rintro e w8 ⟨rfl, h8⟩
              have Q8 := hid (Q7.out.below C.out h8)
              have RU8 := hid (C.out.keep RU7.out (Turn.of_new (S := fun _ => False) h8) fun _ _ h => h)
              clear h8 Q7 RU7
              have ET := hid (eqA_yes (n := 32) (f := s.tg 1) (g := u.tg 1) (AL.out.tg (by omega) (by rw [SN.out]; omega)))
              have t5 : wrap64 (2 * (j : Int)) = ((2 * j : Nat) : Int) := by rw [show 2 * (j : Int) = ((2 * j : Nat) : Int) by omega]; exact wrap_small (by omega)
              obtain ⟨N2, hN2⟩ : ∃ N2, N2 = 2 * j := ⟨_, rfl⟩
              have t6 : 2 * (j : Int) = (N2 : Int) := by omega
              have NE2 := hid hN2
              have hN2b : N2 ≤ 64 := by omega
              have hN21 : 1 ≤ N2 := by omega
              clear t5 hN2
              go_wp2_with ((with_reducible apply wneAq false uT eqgT); rfl; rfl; rfl; (rw [ET.out]; rfl))
              clear ET
              go_loopw [16] (fun uu wx => ∃ q : Nat, uu = .int .i64 q ∧ 1 ≤ q ∧ q ≤ N2 ∧ Hid (An repT w1 wx ga gv c' j M s s.L) ∧ Hid (repT wx gu Mu u)) (fun uu _ => N2 - (intOf uu).toNat)
              case atStart => exact ⟨1, rfl, Nat.le_refl _, hN21, Q8, RU8⟩
              case round =>
                clear Q8 RU8
                obtain ⟨q, rfl, hq1, hq2, Q, RU⟩ := hrel
                by_cases hqn : q < N2
                · have t1 : (q : Int) < N2 := by omega
                  go_wp2_with fail
                  refine (D.out.tag q ⟨by omega, by rw [SN.out, ← NE2.out]; omega⟩ Q.out.a (S1.out.on Q.out.h)).mono ?_
                  rintro e x1 ⟨rfl, h1⟩
                  have Q1 := hid (Q.out.below C.out h1)
                  have U1 := hid (C.out.keep RU.out (Turn.of_new (S := fun _ => False) h1) fun _ _ h => h)
                  clear h1 Q RU
                  go_upto_region 25 with (first | (with_reducible apply alA tT) | ((with_reducible apply stA tT); rfl; rfl; exact Blk.new _ _ _))
                  generalize hx2 : World.setRow (World.alloc x1 _) _ _ = x2
                  have p2 := hid (show Blk x2 x1.heap.size 36 (ar 32 (s.tg q)) by rw [← hx2]; exact (Blk.new _ _ _).setRow_same _)
                  have h2 : Below x1.heap.size x1 x2 := by rw [← hx2]; exact below_setRow ((Below.refl _ _).alloc (Nat.le_refl _) _) (Nat.le_refl _) _
                  have Q2 := hid (Q1.out.below C.out h2)
                  have U2 := hid (C.out.keep U1.out (Turn.of_new (S := fun _ => False) h2) fun _ _ h => h)
                  clear h2 hx2 Q1 U1
                  generalize x1.heap.size = g1 at p2 ⊢
                  go_wp2_with fail
                  refine (D.out.tag q ⟨by omega, by rw [UN.out, ← NE2.out]; omega⟩ U2.out (S1.out.on Q2.out.h)).mono ?_
                  rintro e x3 ⟨rfl, h3⟩
                  have Q3 := hid (Q2.out.below C.out h3)
                  have U3 := hid (C.out.keep U2.out (Turn.of_new (S := fun _ => False) h3) fun _ _ h => h)
                  have p3 := hid (p2.out.below h3 p2.out.lt)
                  clear h3 Q2 U2 p2
                  go_upto_region 26 with (first | (with_reducible apply alA tT) | ((with_reducible apply stA tT); rfl; rfl; exact Blk.new _ _ _))
                  generalize hx4 : World.setRow (World.alloc x3 _) _ _ = x4
                  have p4 := hid (show Blk x4 x3.heap.size 36 (ar 32 (u.tg q)) by rw [← hx4]; exact (Blk.new _ _ _).setRow_same _)
                  have h4 : Below x3.heap.size x3 x4 := by rw [← hx4]; exact below_setRow ((Below.refl _ _).alloc (Nat.le_refl _) _) (Nat.le_refl _) _
                  have Q4 := hid (Q3.out.below C.out h4)
                  have U4 := hid (C.out.keep U3.out (Turn.of_new (S := fun _ => False) h4) fun _ _ h => h)
                  have p5 := hid (p3.out.below h4 p3.out.lt)
                  clear h4 hx4 Q3 U3 p3
                  generalize x3.heap.size = g2 at p4 ⊢
                  have EQ := hid (eqA_yes (n := 32) (f := s.tg q) (g := u.tg q) (AL.out.tg (by omega) (by rw [SN.out, ← NE2.out]; exact hqn)))
                  go_wp2_with (first | ((with_reducible apply ldAq tT); rfl; rfl; exact p5.out.head) | ((with_reducible apply ldAq tT); rfl; rfl; exact p4.out.head) | ((with_reducible apply wneAq false uT eqgT); rfl; rfl; rfl; (rw [EQ.out]; rfl)))
                  go_roundw
                  case rel => exact ⟨q + 1, by go_num, by omega, by omega, Q4, U4⟩
                  case measure => simp [intOf] <;> omega
                · have t1 : ¬ (q : Int) < N2 := by omega
                  have BE := hid Q.out.h
                  clear Q RU
                  obtain ⟨wy, hwy⟩ : ∃ x, x = wr := ⟨_, rfl⟩
                  rw [← hwy] at BE ⊢
                  clear hwy
                  go_wp2_with fail
                  refine (WE.out wy (BE.out)).mono ?_
                  rintro e w9 ⟨rfl, h9⟩
                  have db := hid (hb.out.trans (((BE.out).trans (h9.mono (BE.out).size)).mono hb.out.size))
                  clear h9
                  go_wp2_with fail
                  go_ret
                  exact ⟨rfl, db.out⟩
end TrM
end Go.Proofs.YtdmnhpgafbcehaaDoor
