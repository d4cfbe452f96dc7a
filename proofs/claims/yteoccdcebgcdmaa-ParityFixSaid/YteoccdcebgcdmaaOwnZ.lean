/-
  Lists of ints (of any sign) of the call's own; append to them.
-/
import Derived.Test.YteoccdcebgcdmaaParClos
import Derived.Laws.AppendOwn
import Derived.Laws.AppendOwnNone
namespace Go.Proofs.Yteoccdcebgcdmaa
open Go.ChangeShapes Go.WideShapes Go.ChangeAt Go.RowKit
def zs (l : List Int) : List Value := l.map fun x => Value.int .i64 x
theorem zs_length (l : List Int) : (zs l).length = l.length := List.length_map _
theorem zs_append (l m : List Int) : zs (l ++ m) = zs l ++ zs m := List.map_append
theorem zs_get {l : List Int} {i : Nat} (h : i < l.length) : (zs l)[i]? = some (.int .i64 (l.getD i 0)) := by
  unfold zs
  rw [List.getElem?_map, List.getElem?_eq_getElem h]
  simp [List.getD, h]
/-- The list l stands at A. -/
def IntL (w : World) (B : Nat) (A : Option Addr) (l : List Int) : Prop := Ints w B A l.length fun i => l.getD i 0
def OwnZ (w : World) (B : Nat) (v : Value) (l : List Int) : Prop := w.ownsRow B 3 1 v l.length (zs l)
section
variable {w w' : World} {B : Nat} {v : Value} {l : List Int}
theorem OwnZ.nil : OwnZ w B (.slice none 0 0) [] := World.ownsRow_nil w B 3 1
theorem IntL.empt {A : Option Addr} (h : l.length = 0) : IntL w B A l := fun hn => absurd hn (by omega)
theorem IntL.below {B' : Nat} {A : Option Addr} (h : IntL w B A l) (hb : Below B' w w') (hB : B ≤ B') : IntL w' B A l := Ints.below h hb hB
theorem OwnZ.form (h : OwnZ w B v l) : (v = .slice none 0 0 ∧ l = []) ∨ ∃ g cap, v = .slice (some ⟨g, 0, none⟩) l.length cap ∧ B ≤ g ∧ g < w.heap.size ∧ l.length ≤ cap ∧ cap ≤ maxLen ∧ IntL w w.heap.size (some ⟨g, 0, none⟩) l := by
  rcases h.2 with ⟨h', h0⟩ | ⟨g, cap, cur, hv, hB, hg, hnc, hcm, hcs, ht⟩
  · exact .inl ⟨h', List.eq_nil_of_length_eq_zero h0⟩
  · have hlt : g < w.heap.size := Blk.lt (t := 3) (cs := cur) hg
    refine .inr ⟨g, cap, hv, hB, hlt, hnc, hcm, fun _ => ⟨g, 0, rfl, hlt, fun i hi => ?_⟩⟩
    rw [Nat.zero_add, cell_of_row w g _ cur _ _ hg]
    have h1 := zs_get hi
    rw [← ht, List.getElem?_take_of_lt (by omega), Array.getElem?_toList] at h1
    exact h1
theorem OwnZ.any (h : OwnZ w B v l) : ∃ A cap, v = .slice A l.length cap ∧ l.length ≤ cap ∧ cap ≤ maxLen ∧ (A = none → cap = 0) ∧ IntL w w.heap.size A l := by
  rcases h.form with ⟨rfl, rfl⟩ | ⟨g, cap, rfl, _, _, h1, h2, h3⟩
  · exact ⟨.none, 0, rfl, Nat.le_refl _, Nat.zero_le _, fun _ => rfl, IntL.empt rfl⟩
  · exact ⟨_, cap, rfl, h1, h2, fun h => (by cases h), h3⟩
theorem OwnZ.below (h : OwnZ w B v l) (hb : Below w.heap.size w w') : OwnZ w' B v l := by
  refine ⟨h.1, ?_⟩
  rcases h.2 with h' | ⟨g, cap, cur, hv, hB, hg, hr⟩
  · exact .inl h'
  · exact .inr ⟨g, cap, cur, hv, hB, Blk.below (t := 3) (cs := cur) hg hb (Blk.lt (t := 3) (cs := cur) hg), hr⟩
theorem OwnZ.lower {B' : Nat} (h : OwnZ w B v l) (hB : B' ≤ B) : OwnZ w B' v l := by
  refine ⟨h.1, ?_⟩
  rcases h.2 with h' | ⟨g, cap, cur, hv, hg, hr⟩
  · exact .inl h'
  · exact .inr ⟨g, cap, cur, hv, by omega, hr⟩
theorem OwnZ.alloc (h : OwnZ w B v l) (o : Obj) : OwnZ (w.alloc o) B v l := World.ownsRow.alloc h o
end
theorem below_grownZ {B B' : Nat} {w0 w w' w1 : World} {v : Value} {l : List Int} (hb : Below B w0 w) (hg : w.grownBy w' v.ownBlock) (ho : OwnZ w1 B' v l) (hB : B ≤ B') (hs : B ≤ w0.heap.size) : Below B w0 w' :=
  hb.grown hg (Nat.le_trans hs hb.size) fun g h => Nat.le_trans hB (World.ownsRow.lt ho g h).1
theorem IntL.grown {w w' w0 : World} {A : Option Addr} {B B' : Nat} {v : Value} {l m : List Int} (h : IntL w B' A m) (hg : w.grownBy w' v.ownBlock) (ho : OwnZ w0 B v l) (hlt : B' ≤ B) : IntL w' B' A m := fun hn => by
  obtain ⟨b, o, rfl, hl, hr⟩ := h hn
  exact ⟨b, o, rfl, hl, fun i hi => hg.cell (hr i hi) fun e' => by have := (World.ownsRow.lt ho b e'.symm).1; omega⟩
/-- A change of another block leaves it. -/
theorem OwnZ.only {w w' : World} {B g : Nat} {v : Value} {l : List Int} (h : OwnZ w B v l) (ho : w.grownBy w' (some g)) (hg : g < B) : OwnZ w' B v l :=
  World.ownsRow.kept h ho (by
    cases e : v.ownBlock with
    | none => exact .inl rfl
    | some k => exact .inr (fun e2 => by injection e2 with e2; have := (World.ownsRow.lt h k e).1; omega))
theorem IntL.only {w w' : World} {B g : Nat} {A : Option Addr} {l : List Int} (h : IntL w B A l) (ho : w.grownBy w' (some g)) (hg : B ≤ g) : IntL w' B A l := fun hn => by
  obtain ⟨b, o, rfl, hl, hr⟩ := h hn
  exact ⟨b, o, rfl, hl, fun i hi => ho.cell (hr i hi) fun e' => by injection e' with e'; simp at e'; omega⟩
theorem IntL.take {w : World} {B k : Nat} {A : Option Addr} {l : List Int} (h : IntL w B A l) : IntL w B A (l.take k) := fun hn => by
  rw [List.length_take] at hn
  obtain ⟨b, o, rfl, hl, hr⟩ := h (by omega)
  refine ⟨b, o, rfl, hl, fun i hi => ?_⟩
  rw [List.length_take] at hi
  rw [hr i (by omega)]
  simp only [List.getD_eq_getElem?_getD]
  rw [List.getElem?_take_of_lt (by omega)]
theorem IntL.drop {w : World} {B k g : Nat} {l : List Int} (h : IntL w B (some ⟨g, 0, none⟩) l) : IntL w B (some ⟨g, k, none⟩) (l.drop k) := fun hn => by
  rw [List.length_drop] at hn
  obtain ⟨b, o, e, hl, hr⟩ := h (by omega)
  simp only [Option.some.injEq, Addr.mk.injEq, and_true] at e
  obtain ⟨rfl, rfl⟩ := e
  refine ⟨g, k, rfl, hl, fun i hi => ?_⟩
  rw [List.length_drop] at hi
  have := hr (k + i) (by omega)
  rw [Nat.zero_add] at this
  rw [this]
  simp only [List.getD_eq_getElem?_getD]
  rw [List.getElem?_drop]
section
variable {ops : Array Oper} {Q : Exit → Act → World → Prop} {a : Act} {w : World} {rest : List Oper} {dst : Option Tmp} {ty : TypeId} {pos : String} {after : Array Edge} {s x : Operand} {m c B B' : Nat} {v : Value} {l kk : List Int} {ad : Addr}
theorem und_ints : Try.prog.underlying 34 = some (.slice 3) := Try.underlying34
theorem inf_int : ∃ i : TypeInfo, Try.prog.info? 3 = some i ∧ i.zero = some (.int .i64 0) ∧ i.size = 1 ∧ i.bytes ≤ 8 := by
  have hi : ∃ ie, Try.prog.info? 3 = some ie := ⟨_, rfl⟩
  obtain ⟨i, hi⟩ := hi
  have h1 : (Try.prog.info? 3).map (·.size) = some 1 := by kernel_rfl
  have h2 : (Try.prog.info? 3).map (fun i => decide (i.bytes ≤ 8)) = some true := by kernel_rfl
  have h3 : (Try.prog.info? 3).bind (·.zero) = some (.int .i64 0) := by kernel_rfl
  rw [hi] at h1 h2 h3
  simp only [Option.map_some, Option.some.injEq, decide_eq_true_eq, Option.bind_some] at h1 h2 h3
  exact ⟨i, hi, h3, h1, h2⟩
theorem run_appz (hown : OwnZ w B v l) (hrd : IntL w B' (some ad) kk) (hk : kk.length = m) (hsz : l.length + m ≤ 1000000) (hB : B ≤ w.heap.size) :
    ∃ v' w', (Builtin.append_ #[34, 34] ty #[v, .slice (some ad) m c]).run Try.prog w = .ok v' w' ∧ OwnZ w' B v' (l ++ kk) ∧ w.grownBy w' v.ownBlock := by
  obtain ⟨i, hi, hz, h1, h2⟩ := inf_int
  subst hk
  obtain ⟨v', w', hr, ho, hg, _⟩ := run_append_own (P := Try.prog) w B 34 ty 3 i (.int .i64 0) 1 i.bytes und_ints hi hz h1 rfl rfl (by decide) v l.length _ hown ad kk.length c (zs kk) (by rw [zs_length, Nat.mul_one])
    (fun j u hj => by
      have hjm : j < kk.length := by
        have := (List.getElem?_eq_some_iff.1 hj).1
        rwa [zs_length] at this
      obtain ⟨b, o, e', _, hr⟩ := hrd (by omega)
      obtain rfl : ad = ⟨b, o, none⟩ := Option.some.inj e'
      rw [zs_get hjm] at hj
      rw [Addr.add_mid, hr j hjm]
      exact hj)
    (fun u hu => by
      obtain ⟨y, _, rfl⟩ := List.mem_map.1 hu
      rfl)
    (by unfold maxLen; omega) (Nat.le_trans (Nat.mul_le_mul hsz h2) (by omega)) hB
  refine ⟨v', w', hr, ?_, hg⟩
  unfold OwnZ
  rw [List.length_append, zs_append]
  exact ho
/-- append of ints to a list of the call's own. -/
theorem wappz {A : Option Addr} (hs : a.eval s = v) (hx : a.eval x = .slice A m c) (h0 : A = none → m = 0 ∧ c = 0) (hown : OwnZ w B v l) (hrd : IntL w B' A kk) (hk : kk.length = m) (hsz : l.length + m ≤ 1000000) (hB : B ≤ w.heap.size)
    (h : ∀ v' w', OwnZ w' B v' (l ++ kk) → w.grownBy w' v.ownBlock → wpList Try.prog ops Q rest (a.put dst v') w') :
    wpList Try.prog ops Q (⟨dst, .call { callee := .builtin .append, args := #[s, x], argTypes := #[34, 34] }, ty, pos, after, none⟩ :: rest) a w := by
  cases A with
  | some ad =>
    obtain ⟨v', w', hr, h1, h2⟩ := run_appz (ty := ty) (c := c) hown hrd hk hsz hB
    refine wpList_plain rfl fun K hK => ?_
    unfold Oper.wp execOp
    simp only [resolve, invoke, builtin, Sem.run_bind, Sem.run_pure, Result.andThen_ok, List.map_toArray, List.map_cons, List.map_nil, hs, hx, hr]
    exact hK _ _ (h v' w' h1 h2)
  | none =>
    obtain ⟨rfl, rfl⟩ := h0 rfl
    obtain rfl := List.eq_nil_of_length_eq_zero hk
    rw [List.append_nil] at h
    obtain ⟨i, hi, hz, h1, h2⟩ := inf_int
    refine wpList_plain rfl fun K hK => ?_
    unfold Oper.wp execOp
    have := run_append_owned_none (P := Try.prog) w B 34 ty 3 i 1 und_ints hi v l.length _ hown
    simp only [resolve, invoke, builtin, Sem.run_bind, Sem.run_pure, Result.andThen_ok, List.map_toArray, List.map_cons, List.map_nil, hs, hx, this]
    exact hK _ _ (h v w hown ⟨rfl, rfl, rfl, Nat.le_refl _, fun _ _ _ => rfl⟩)
end
/-- A literal of one int. -/
theorem ints_one {w : World} {t : TypeId} {x : Int} {B : Nat} (hB : w.heap.size < B) : IntL (w.alloc (.cells #[.int .i64 x] t)) B (some ⟨w.heap.size, 0, none⟩) [x] := fun _ =>
  ⟨w.heap.size, 0, rfl, hB, fun i hi => by
    obtain rfl : i = 0 := by simp at hi; omega
    rw [(Blk.top (t := t) rfl rfl).cell]; rfl⟩
end Go.Proofs.Yteoccdcebgcdmaa
