/-
  Slices of numbers of any kind: read out of one row; made by a call for itself, append.
-/
import Derived.Test.YtfnepbkgmopjcaaByt
import Derived.Laws.AppendOwn
import Derived.Laws.AppendOwnNone
namespace Go.Proofs.Ytfnepbkgmopjcaa
open Go.ChangeShapes Go.WideShapes Go.ChangeAt Go.RowKit
/-- A type of slices, of numbers of kind k. -/
structure Elt (S e : TypeId) (k : IntKind) : Prop where
  und : Try.prog.underlying S = some (.slice e)
  inf : ∃ i : TypeInfo, Try.prog.info? e = some i ∧ i.zero = some (.int k 0) ∧ i.size = 1 ∧ i.bytes ≤ 8
theorem elt_of {S e : TypeId} {k : IntKind} (h : Try.prog.underlying S = some (.slice e)) (h1 : (Try.prog.info? e).map (·.size) = some 1) (h2 : (Try.prog.info? e).map (fun i => decide (i.bytes ≤ 8)) = some true) (h3 : (Try.prog.info? e).bind (·.zero) = some (.int k 0)) : Elt S e k := by
  refine ⟨h, ?_⟩
  cases hi : Try.prog.info? e with
  | none => rw [hi] at h1; cases h1
  | some i =>
    rw [hi] at h1 h2 h3
    simp only [Option.map_some, Option.some.injEq, decide_eq_true_eq, Option.bind_some] at h1 h2 h3
    exact ⟨i, rfl, h3, h1, h2⟩
def nums (k : IntKind) (l : List Nat) : List Value := l.map fun x => Value.int k (x : Nat)
theorem nums_length (k : IntKind) (l : List Nat) : (nums k l).length = l.length := List.length_map _
theorem nums_append (k : IntKind) (l m : List Nat) : nums k (l ++ m) = nums k l ++ nums k m := List.map_append
theorem nums_get (k : IntKind) {l : List Nat} {i : Nat} (h : i < l.length) : (nums k l)[i]? = some (.int k (l.getD i 0 : Nat)) := by
  unfold nums
  rw [List.getElem?_map, List.getD_eq_getElem?_getD, List.getElem?_eq_getElem h]; rfl
/-- A slice of the numbers of l, in one row below block B. -/
def Nums (k : IntKind) (w : World) (B : Nat) (A : Option Addr) (l : List Nat) : Prop :=
  0 < l.length → ∃ b o, A = some ⟨b, o, none⟩ ∧ b < B ∧ ∀ i, i < l.length → w.cell? ⟨b, o + i, none⟩ = some (.int k (l.getD i 0 : Nat))
theorem Nums.below {k : IntKind} {B B' : Nat} {w w' : World} {A : Option Addr} {l : List Nat} (h : Nums k w B A l) (hb : Below B' w w') (hB : B ≤ B') : Nums k w' B A l := fun hn => by
  obtain ⟨b, o, rfl, hl, hr⟩ := h hn
  exact ⟨b, o, rfl, hl, fun i hi => (hb.cell (p := ⟨b, o + i, none⟩) (by show b < B'; omega)).trans (hr i hi)⟩
theorem Nums.more {k : IntKind} {B B' : Nat} {w : World} {A : Option Addr} {l : List Nat} (h : Nums k w B A l) (hB : B ≤ B') : Nums k w B' A l := fun hn => by
  obtain ⟨b, o, rfl, hl, hr⟩ := h hn
  exact ⟨b, o, rfl, by omega, hr⟩
theorem Nums.byt {w : World} {B : Nat} {A : Option Addr} {l : List Nat} (h : Nums .u8 w B A l) : Byt w B A l := h
theorem Byt.nums {w : World} {B : Nat} {A : Option Addr} {l : List Nat} (h : Byt w B A l) : Nums .u8 w B A l := h
theorem Nums.none {k : IntKind} {w : World} {B : Nat} {A : Option Addr} {l : List Nat} (h : l.length = 0) : Nums k w B A l := fun hn => absurd hn (by omega)
theorem Nums.row {k : IntKind} {w : World} {B g : Nat} {t : TypeId} {cs : Array Value} {l : List Nat} (h : Blk w g t cs) (hg : g < B) (hc : ∀ j, j < l.length → cs[j]? = some (.int k (l.getD j 0 : Nat))) : Nums k w B (some ⟨g, 0, .none⟩) l := fun _ =>
  ⟨g, 0, rfl, hg, fun i hi => by rw [Nat.zero_add, h.cell]; exact hc i hi⟩
/-- v is a slice of the numbers l, in a row of its own from block B on. -/
def Own (e : TypeId) (k : IntKind) (w : World) (B : Nat) (v : Value) (l : List Nat) : Prop := w.ownsRow B e 1 v l.length (nums k l)
section
variable {e : TypeId} {k : IntKind} {w w' : World} {B : Nat} {v : Value} {l : List Nat}
theorem Own.nil : Own e k w B (.slice none 0 0) [] := World.ownsRow_nil w B e 1
theorem Own.empty (w : World) (hB : B ≤ w.heap.size) : Own e k (w.alloc (.cells #[] e)) B (.slice (some ⟨w.heap.size, 0, none⟩) 0 0) [] :=
  World.ownsRow_made w #[] 0 hB (Nat.zero_le _) rfl
theorem Own.form (h : Own e k w B v l) : (v = .slice none 0 0 ∧ l = []) ∨ ∃ g cap, v = .slice (some ⟨g, 0, none⟩) l.length cap ∧ B ≤ g ∧ g < w.heap.size ∧ l.length ≤ cap ∧ cap ≤ maxLen ∧ Nums k w w.heap.size (some ⟨g, 0, none⟩) l := by
  rcases h.2 with ⟨h', h0⟩ | ⟨g, cap, cur, hv, hB, hg, hnc, hcm, hcs, ht⟩
  · exact .inl ⟨h', List.eq_nil_of_length_eq_zero h0⟩
  · have hlt : g < w.heap.size := Blk.lt (t := e) (cs := cur) hg
    refine .inr ⟨g, cap, hv, hB, hlt, hnc, hcm, fun _ => ⟨g, 0, rfl, hlt, fun i hi => ?_⟩⟩
    rw [Nat.zero_add, cell_of_row w g _ cur _ _ hg]
    have h1 := nums_get k hi
    rw [← ht, List.getElem?_take_of_lt (by omega), Array.getElem?_toList] at h1
    exact h1
/-- The same, whichever it is. -/
theorem Own.any (h : Own e k w B v l) : ∃ A cap, v = .slice A l.length cap ∧ l.length ≤ cap ∧ cap ≤ maxLen ∧ Nums k w w.heap.size A l := by
  rcases h.form with ⟨rfl, rfl⟩ | ⟨g, cap, rfl, _, _, h1, h2, h3⟩
  · exact ⟨.none, 0, rfl, Nat.le_refl _, Nat.zero_le _, Nums.none rfl⟩
  · exact ⟨_, cap, rfl, h1, h2, h3⟩
theorem Own.below (h : Own e k w B v l) (hb : Below w.heap.size w w') : Own e k w' B v l := by
  refine ⟨h.1, ?_⟩
  rcases h.2 with h' | ⟨g, cap, cur, hv, hB, hg, hr⟩
  · exact .inl h'
  · exact .inr ⟨g, cap, cur, hv, hB, Blk.below (t := e) (cs := cur) hg hb (Blk.lt (t := e) (cs := cur) hg), hr⟩
theorem Own.alloc (h : Own e k w B v l) (o : Obj) : Own e k (w.alloc o) B v l := World.ownsRow.alloc h o
theorem Own.drew (h : Own e k w B v l) : Own e k w.drew B v l := ⟨h.1, h.2⟩
end
theorem below_grown {B B' : Nat} {w0 w w' w1 : World} {v : Value} {e : TypeId} {k : IntKind} {l : List Nat} (hb : Below B w0 w) (hg : w.grownBy w' v.ownBlock) (ho : Own e k w1 B' v l) (hB : B ≤ B') (hs : B ≤ w0.heap.size) : Below B w0 w' :=
  hb.grown hg (Nat.le_trans hs hb.size) fun g h => Nat.le_trans hB (World.ownsRow.lt ho g h).1
theorem Blk.grown {e : TypeId} {k : IntKind} {w w' w0 : World} {g B : Nat} {t : TypeId} {cs : Array Value} {v : Value} {l : List Nat} (h : Blk w g t cs) (hg : w.grownBy w' v.ownBlock) (ho : Own e k w0 B v l) (hlt : g < B) : Blk w' g t cs :=
  (hg.block g h.lt fun e' => by have := (World.ownsRow.lt ho g e'.symm).1; omega).trans h
theorem Nums.grown {e : TypeId} {k k' : IntKind} {w w' w0 : World} {A : Option Addr} {B B' : Nat} {v : Value} {l m : List Nat} (h : Nums k' w B' A m) (_hB : B' ≤ w.heap.size) (hg : w.grownBy w' v.ownBlock) (ho : Own e k w0 B v l) (hlt : B' ≤ B) : Nums k' w' B' A m := fun hn => by
  obtain ⟨b, o, rfl, hl, hr⟩ := h hn
  exact ⟨b, o, rfl, hl, fun i hi => hg.cell (hr i hi) fun e' => by have := (World.ownsRow.lt ho b e'.symm).1; omega⟩
theorem below_none {B : Nat} {w0 w w' : World} (hb : Below B w0 w) (hg : w.grownBy w' none) (hs : B ≤ w0.heap.size) : Below B w0 w' :=
  hb.grown hg (Nat.le_trans hs hb.size) fun g h => by cases h
theorem Own.heap {e : TypeId} {k : IntKind} {w w' : World} {B : Nat} {v : Value} {l : List Nat} (h : Own e k w B v l) (hh : w'.heap = w.heap) : Own e k w' B v l := by
  refine ⟨h.1, ?_⟩
  rcases h.2 with h' | ⟨g, cap, cur, hv, hB, hg, hr⟩
  · exact .inl h'
  · exact .inr ⟨g, cap, cur, hv, hB, by rw [hh]; exact hg, hr⟩
section
variable {ops : Array Oper} {Q : Exit → Act → World → Prop} {a : Act} {w : World} {rest : List Oper} {dst : Option Tmp} {ty : TypeId} {pos : String} {after : Array Edge} {s x : Operand} {m c B B' : Nat} {v : Value} {l kk : List Nat} {S e : TypeId} {k : IntKind} {ad : Addr}
theorem run_appN (E : Elt S e k) (hown : Own e k w B v l) (hrd : Nums k w B' (some ad) kk) (hk : kk.length = m) (hsz : l.length + m ≤ 1000000) (hB : B ≤ w.heap.size) :
    ∃ v' w', (Builtin.append_ #[S, S] ty #[v, .slice (some ad) m c]).run Try.prog w = .ok v' w' ∧ Own e k w' B v' (l ++ kk) ∧ w.grownBy w' v.ownBlock := by
  obtain ⟨i, hi, hz, h1, h2⟩ := E.inf
  subst hk
  obtain ⟨v', w', hr, ho, hg, _⟩ := run_append_own (P := Try.prog) w B S ty e i (.int k 0) 1 i.bytes E.und hi hz h1 rfl rfl (by decide) v l.length _ hown ad kk.length c (nums k kk) (by rw [nums_length, Nat.mul_one])
    (fun j u hj => by
      have hjm : j < kk.length := by
        have := (List.getElem?_eq_some_iff.1 hj).1
        rwa [nums_length] at this
      obtain ⟨b, o, e', _, hr⟩ := hrd (by omega)
      obtain rfl : ad = ⟨b, o, none⟩ := Option.some.inj e'
      rw [nums_get k hjm] at hj
      rw [Addr.add_mid, hr j hjm]
      exact hj)
    (fun u hu => by
      obtain ⟨y, _, rfl⟩ := List.mem_map.1 hu
      rfl)
    (by unfold maxLen; omega) (Nat.le_trans (Nat.mul_le_mul hsz h2) (by omega)) hB
  refine ⟨v', w', hr, ?_, hg⟩
  unfold Own
  rw [List.length_append, nums_append]
  exact ho
/-- append of numbers to a slice of the call's own. -/
theorem wappN (E : Elt S e k) (hs : a.eval s = v) (hx : a.eval x = .slice (some ad) m c) (hown : Own e k w B v l) (hrd : Nums k w B' (some ad) kk) (hk : kk.length = m) (hsz : l.length + m ≤ 1000000) (hB : B ≤ w.heap.size)
    (h : ∀ v' w', Own e k w' B v' (l ++ kk) → w.grownBy w' v.ownBlock → wpList Try.prog ops Q rest (a.put dst v') w') :
    wpList Try.prog ops Q (⟨dst, .call { callee := .builtin .append, args := #[s, x], argTypes := #[S, S] }, ty, pos, after, none⟩ :: rest) a w := by
  obtain ⟨v', w', hr, h1, h2⟩ := run_appN (ty := ty) (c := c) E hown hrd hk hsz hB
  refine wpList_plain rfl fun K hK => ?_
  unfold Oper.wp execOp
  simp only [resolve, invoke, builtin, Sem.run_bind, Sem.run_pure, Result.andThen_ok, List.map_toArray, List.map_cons, List.map_nil, hs, hx, hr]
  exact hK _ _ (h v' w' h1 h2)
theorem wappN_none (E : Elt S e k) (hs : a.eval s = v) (hx : a.eval x = .slice none 0 0) (hown : Own e k w B v l) (h : wpList Try.prog ops Q rest (a.put dst v) w) :
    wpList Try.prog ops Q (⟨dst, .call { callee := .builtin .append, args := #[s, x], argTypes := #[S, S] }, ty, pos, after, none⟩ :: rest) a w := by
  obtain ⟨i, hi, hz, h1, h2⟩ := E.inf
  refine wpList_plain rfl fun K hK => ?_
  unfold Oper.wp execOp
  have := run_append_owned_none (P := Try.prog) w B S ty e i 1 E.und hi v l.length _ hown
  simp only [resolve, invoke, builtin, Sem.run_bind, Sem.run_pure, Result.andThen_ok, List.map_toArray, List.map_cons, List.map_nil, hs, hx, this]
  exact hK _ _ h
theorem wappN_any {A : Option Addr} (E : Elt S e k) (hs : a.eval s = v) (hx : a.eval x = .slice A m c) (h0 : A = none → m = 0 ∧ c = 0) (hown : Own e k w B v l) (hrd : Nums k w B' A kk) (hk : kk.length = m) (hsz : l.length + m ≤ 1000000) (hB : B ≤ w.heap.size)
    (h : ∀ v' w', Own e k w' B v' (l ++ kk) → w.grownBy w' v.ownBlock → wpList Try.prog ops Q rest (a.put dst v') w') :
    wpList Try.prog ops Q (⟨dst, .call { callee := .builtin .append, args := #[s, x], argTypes := #[S, S] }, ty, pos, after, none⟩ :: rest) a w := by
  cases A with
  | some ad => exact wappN E hs hx hown hrd hk hsz hB h
  | none =>
    obtain ⟨rfl, rfl⟩ := h0 rfl
    obtain rfl := List.eq_nil_of_length_eq_zero hk
    rw [List.append_nil] at h
    exact wappN_none E hs hx hown (h v w hown ⟨rfl, rfl, rfl, Nat.le_refl _, fun _ _ _ => rfl⟩)
end
/-- A literal of one number. -/
theorem nums_one {k : IntKind} {w : World} {t : TypeId} {x : Nat} {v : Value} (h : v = .int k (x : Nat)) {B : Nat} (hB : w.heap.size < B) : Nums k (w.alloc (.cells #[v] t)) B (some ⟨w.heap.size, 0, none⟩) [x] := fun _ =>
  ⟨w.heap.size, 0, rfl, hB, fun i hi => by
    obtain rfl : i = 0 := by simp at hi; omega
    rw [(Blk.top (t := t) rfl rfl).cell, h]; rfl⟩
end Go.Proofs.Ytfnepbkgmopjcaa
