/-
  The laws' made: members of both, steps, while they are put together.
  The laws' made: the document's bus beside it all, while it is put together.
  The laws' made: a bus of the program's beside one of the document's.
  Geometries in plain numbers: how many sectors of which region there are, and where they lie.
  Contracts of geom's check, leaves and logical sectors over this translation.
  Contracts of the Go library's functions over this translation, laid by the kit's own tool.
  Contracts of geom's counts over this translation.
  Contracts of geom's places over this translation.
  Contracts of geom.Place and What over this translation.
  Contracts of geom.around (slices.IndexFunc, its closure) and What over this translation.
  The contract of geom.What over this translation.
  Contracts of the document's geometry (casemateref14) over this translation: the same plain numbers.
-/
import Derived.Test.YtklmjdhhnnanoaaGreatDoorMrg8
import Derived.Shelf.Small.Bits
import Derived.Shelf.Strconv.Itoa0
import Derived.Shelf.Bits.Mul64
import Derived.Test.YtklmjdhhnnanoaaGreatDoorProg
import Derived.Lib.ItoaNum
import Derived.OwnWalk
set_option linter.unusedVariables false
set_option linter.unusedSimpArgs false
set_option maxRecDepth 100000
namespace Go.Proofs.YtklmjdhhnnanoaaGreatDoor
open Go.ChangeShapes Go.WideShapes Go.ChangeAt Go.RowKit
attribute [local go_sem] Gives GivesE
section
variable {α : Type} {k : Nat} {en : α → List Value} {E L : TypeId} {S : Nat → Prop} {P : Program} {ops : Array Oper} {Q : Exit → Act → World → Prop} {a : Act} {w : World} {rest : List Oper} {dst : Option Tmp} {ty : TypeId} {pos : String} {after : Array Edge} {s x : Operand} {v : Value} {l m : List α} {A : Option Addr} {n cap B : Nat}
theorem wappXW (hE : EltX E k en) (hu : Tryz.prog.underlying L = some (.slice E)) (hs : a.eval s = v) (hx : a.eval x = .slice A n cap) (hown : OwnX E k en w B v l) (hm : Sli k en S w A m n cap) (hsz : l.length + n ≤ 1000000) (hk : k ≤ 1000) (hB : B ≤ w.heap.size)
    (h : ∀ v' w', OwnX E k en w' B v' (l ++ m) → w.grownBy w' v.ownBlock → (v'.ownBlock = v.ownBlock ∨ v'.ownBlock = some w.heap.size) → wpList Tryz.prog ops Q rest (a.put dst v') w') :
    wpList Tryz.prog ops Q (⟨dst, .call { callee := .builtin .append, args := #[s, x], argTypes := #[L, L] }, ty, pos, after, none⟩ :: rest) a w := by
  obtain ⟨v', w', hr, ho, hg⟩ := run_appX (ty := ty) hE hu hown hm hsz hk hB
  have hw := run_appX_where hE hu hown hm hsz hk hr
  refine wpList_plain rfl fun K hK => ?_
  unfold Oper.wp execOp
  simp only [resolve, invoke, builtin, Sem.run_bind, Sem.run_pure, Result.andThen_ok, List.map_toArray, List.map_cons, List.map_nil, hs, hx, hr]
  exact hK _ _ (h v' w' ho hg hw)
theorem own_blk {v : Value} {l : List α} {B b : Nat} (h : OwnX E k en w B v l) (hb : v.ownBlock = some b) : ∃ cs, Blk w b E cs := h.obj hb
theorem own_ne {β : Type} {F : TypeId} {k' B' : Nat} {en' : β → List Value} {v u : Value} {l : List α} {m : List β} {B q : Nat} (h : OwnX E k en w B v l) (h' : OwnX F k' en' w B' u m) (hne : E ≠ F) (e : v.ownBlock = some q) : u.ownBlock ≠ some q := fun e' => by
  obtain ⟨c, hc⟩ := own_blk h e
  obtain ⟨d, hd⟩ := own_blk h' e'
  exact hc.neT hd hne rfl
theorem own_not {v : Value} {l : List α} {B g : Nat} {t : TypeId} {cs : Array Value} (h : OwnX E k en w B v l) (hb : Blk w g t cs) (hne : E ≠ t) : v.ownBlock ≠ some g := fun e => by
  obtain ⟨c, hc⟩ := own_blk h e
  exact hc.neT hb hne rfl
end
namespace MiP
open BuP MbP BuM MbM
def mdOf (z : Int) : St := made z
structure Kc (W : World) (ls : List Int) (ca : Array Value) (gC kp kd : Nat) (gs es : List Nat) (Ms Is : Nat → Nat → Prop) (w : World) : Prop where
  low : Below W.heap.size W w
  cas : Blk w gC 23 ca
  clo : W.heap.size ≤ gC
  len : gs.length = kp
  mem : ∀ (i gi : Nat) (z : Int), gs[i]? = some gi → ls[i]? = some z → RepM w gi (Ms i) (Is i) 0 (mdOf z)
  lo : ∀ i q, i < kp → Ms i q ∨ Is i q → W.heap.size ≤ q ∧ q < w.heap.size
  nd : ∀ i j q, i < kp → j < kp → Ms i q → Ms j q → i = j
  sep : ∀ i j q, i < kp → j < kp → Is i q → ¬ Ms j q
  ref : Mems w es (fun _ _ => False) (fun _ => 0) ((ls.take kd).map mdOf)
  elo : ∀ q ∈ es, W.heap.size ≤ q
section
variable {W : World} {ls : List Int} {ca : Array Value} {gC kp kd : Nat} {gs es : List Nat} {Ms Is : Nat → Nat → Prop} {w w' : World}
theorem Kc.es_obj (H : Kc W ls ca gC kp kd gs es Ms Is w) {q : Nat} (hq : q ∈ es) : ∃ cs, Blk w q 61 cs := by
  obtain ⟨i, hi⟩ := List.mem_iff_getElem?.1 hq
  obtain ⟨st, _, h⟩ := H.ref.at hi
  exact rs_obj h
theorem Kc.turn {T : Nat → Prop} (H : Kc W ls ca gC kp kd gs es Ms Is w) (ht : Turn T w w') (h0 : ∀ q, T q → W.heap.size ≤ q) (h1 : ¬ T gC) (h2 : ∀ q ∈ es, ¬ T q) (h3 : ∀ i q, i < kp → Ms i q ∨ Is i q → ¬ T q) : Kc W ls ca gC kp kd gs es Ms Is w' where
  low := H.low.trans (ht.below H.low.size h0)
  cas := H.cas.turn ht h1
  clo := H.clo
  len := H.len
  mem i gi z e1 e2 := MbP.memB_ok.frame (H.mem i gi z e1 e2) ht fun q e => h3 i q (by have := (List.getElem?_eq_some_iff.1 e1).1; have := H.len; omega) e
  lo i q hi e := ⟨(H.lo i q hi e).1, Nat.lt_of_lt_of_le (H.lo i q hi e).2 ht.size⟩
  nd := H.nd
  sep := H.sep
  ref := H.ref.turn ht h2 fun _ _ _ e => e.elim
  elo := H.elo
theorem Kc.below (H : Kc W ls ca gC kp kd gs es Ms Is w) (hb : Below w.heap.size w w') : Kc W ls ca gC kp kd gs es Ms Is w' :=
  H.turn (Turn.of_new (S := fun _ => False) hb) (fun _ e => e.elim) id (fun _ _ e => e) fun _ _ _ _ e => e
theorem Kc.more (H : Kc W ls ca gC kp kd gs es Ms Is w) {z : Int} (hz : ls[kp]? = some z) (hb : Below w.heap.size w w') {gm : Nat} {M I : Nat → Prop} (hr : RepM w' gm M I 0 (mdOf z)) (hn : ∀ q, M q ∨ I q → w.heap.size ≤ q) :
    Kc W ls ca gC (kp + 1) kd (gs ++ [gm]) es (fun i => if i = kp then M else Ms i) (fun i => if i = kp then I else Is i) w' where
  low := (H.below hb).low
  cas := (H.below hb).cas
  clo := H.clo
  len := by rw [List.length_append, H.len]; rfl
  mem i gi z' e1 e2 := by
    by_cases e : i = kp
    · subst e
      rw [if_pos rfl, if_pos rfl]
      rw [List.getElem?_append_right (by rw [H.len]; exact Nat.le_refl _), H.len, Nat.sub_self] at e1
      cases e1
      rw [hz] at e2
      cases e2
      exact hr
    · rw [if_neg e, if_neg e]
      have hl := (List.getElem?_eq_some_iff.1 e1).1
      rw [List.length_append, H.len] at hl
      rw [List.getElem?_append_left (by rw [H.len]; have : i < kp + 1 := hl; omega)] at e1
      exact (H.below hb).mem i gi z' e1 e2
  lo i q hi e := by
    by_cases e0 : i = kp
    · rw [if_pos e0, if_pos e0] at e
      exact ⟨Nat.le_trans H.low.size (hn q e), MbP.memB_ok.lt hr q e⟩
    · rw [if_neg e0, if_neg e0] at e
      exact (H.below hb).lo i q (by omega) e
  nd i j q hi hj e1 e2 := by
    by_cases i0 : i = kp <;> by_cases j0 : j = kp
    · omega
    · rw [if_pos i0] at e1; rw [if_neg j0] at e2
      have := hn q (.inl e1); have := (H.lo j q (by omega) (.inl e2)).2; omega
    · rw [if_neg i0] at e1; rw [if_pos j0] at e2
      have := hn q (.inl e2); have := (H.lo i q (by omega) (.inl e1)).2; omega
    · rw [if_neg i0] at e1; rw [if_neg j0] at e2
      exact H.nd i j q (by omega) (by omega) e1 e2
  sep i j q hi hj e1 e2 := by
    by_cases i0 : i = kp <;> by_cases j0 : j = kp
    · rw [if_pos i0] at e1; rw [if_pos j0] at e2
      exact MbP.memB_ok.own hr q e2 e1
    · rw [if_pos i0] at e1; rw [if_neg j0] at e2
      have := hn q (.inr e1); have := (H.lo j q (by omega) (.inl e2)).2; omega
    · rw [if_neg i0] at e1; rw [if_pos j0] at e2
      have := hn q (.inl e2); have := (H.lo i q (by omega) (.inr e1)).2; omega
    · rw [if_neg i0] at e1; rw [if_neg j0] at e2
      exact H.sep i j q (by omega) (by omega) e1 e2
  ref := (H.below hb).ref
  elo := H.elo
theorem Kc.moreR (H : Kc W ls ca gC kp kd gs es Ms Is w) {z : Int} (hz : ls[kd]? = some z) (he : es.length = kd) {T : Nat → Prop} (ht : Turn T w w') (h0 : ∀ q, T q → W.heap.size ≤ q) (h1 : ¬ T gC) (h2 : ∀ q ∈ es, ¬ T q) (h3 : ∀ i q, i < kp → Ms i q ∨ Is i q → ¬ T q)
    {ge : Nat} (hr : RS w' ge (fun _ => False) 0 (mdOf z)) (hn : w.heap.size ≤ ge) : Kc W ls ca gC kp (kd + 1) gs (es ++ [ge]) Ms Is w' :=
  have K := H.turn ht h0 h1 h2 h3
  { low := K.low
    cas := K.cas
    clo := K.clo
    len := K.len
    mem := K.mem
    lo := K.lo
    nd := K.nd
    sep := K.sep
    ref := by
      have hk : kd < ls.length := (List.getElem?_eq_some_iff.1 hz).1
      have ht' : (ls.take (kd + 1)).map mdOf = (ls.take kd).map mdOf ++ [mdOf z] := by
        rw [List.take_add_one, hz, List.map_append]; rfl
      have hl : ((ls.take kd).map mdOf).length = kd := by rw [List.length_map, List.length_take]; omega
      rw [ht']
      refine ⟨by rw [List.length_append, List.length_append, he, hl]; rfl, fun i gi st e1 e2 => ?_, fun i j gi e1 e2 => ?_, fun _ _ _ _ _ e => e⟩
      · by_cases e : i < kd
        · rw [List.getElem?_append_left (by omega)] at e1 e2
          exact K.ref.mem i gi st e1 e2
        · have hi := (List.getElem?_eq_some_iff.1 e1).1
          rw [List.length_append, he] at hi
          have ei : i = kd := by have : i < kd + 1 := hi; omega
          subst ei
          rw [List.getElem?_append_right (by omega), he, Nat.sub_self] at e1
          rw [List.getElem?_append_right (by omega), hl, Nat.sub_self] at e2
          cases e1; cases e2
          exact hr
      · have key : ∀ (i j : Nat), es[i]? = some gi → (es ++ [ge])[j]? = some gi → i = j := fun i j e1 e2 => by
          have hm : gi ∈ es := List.mem_iff_getElem?.2 ⟨i, e1⟩
          have hlt := H.ref.lt.1 gi hm
          by_cases ej : j < kd
          · rw [List.getElem?_append_left (by omega)] at e2
            exact H.ref.nd i j gi e1 e2
          · have hj := (List.getElem?_eq_some_iff.1 e2).1
            rw [List.length_append, he] at hj
            have ej : j = kd := by have : j < kd + 1 := hj; omega
            subst ej
            rw [List.getElem?_append_right (by omega), he, Nat.sub_self] at e2
            cases e2
            omega
        by_cases ei : i < kd
        · rw [List.getElem?_append_left (by omega)] at e1
          exact key i j e1 e2
        · by_cases ej : j < kd
          · rw [List.getElem?_append_left (by omega)] at e2
            exact (key j i e2 e1).symm
          · have hi := (List.getElem?_eq_some_iff.1 e1).1
            have hj := (List.getElem?_eq_some_iff.1 e2).1
            rw [List.length_append, he] at hi hj
            have hi' : i < kd + 1 := hi
            have hj' : j < kd + 1 := hj
            omega
    elo := fun q hq => by
      rcases List.mem_append.1 hq with e | e
      · exact H.elo q e
      · rw [List.mem_singleton] at e; rw [e]; exact Nat.le_trans H.low.size hn }
end
end MiP
end Go.Proofs.YtklmjdhhnnanoaaGreatDoor
set_option maxRecDepth 100000
namespace Go.Proofs.YtklmjdhhnnanoaaGreatDoor
open Go.ChangeShapes Go.WideShapes Go.ChangeAt Go.RowKit
attribute [local go_sem] Gives GivesE
namespace MiP
open BuP MbP BuM MbM
def buV (vm vs : Value) : Array Value := #[vm, .pointer none, vs, .bool false, .slice none 0 0]
structure Kd (W : World) (ls : List Int) (ca : Array Value) (gC gr kp kd ks : Nat) (gs es : List Nat) (Ms Is : Nat → Nat → Prop) (v vm vs : Value) (l : List (Stp × SlB)) (w : World) : Prop where
  c : Kc W ls ca gC kp kd gs es Ms Is w
  bus : Blk w gr 50 (buV vm vs)
  rlo : W.heap.size ≤ gr
  o1 : OwnX 51 1 ptL w W.heap.size v gs
  o2 : OwnX 56 1 ptL w W.heap.size vm es
  o3 : OwnX 96 70 stL w W.heap.size vs (l.take ks)
  elen : es.length = kd
  eap : ∀ i q, i < kp → Ms i q ∨ Is i q → q ∉ es ∧ q ≠ gr ∧ q ≠ gC ∧ v.ownBlock ≠ some q ∧ vm.ownBlock ≠ some q ∧ vs.ownBlock ≠ some q
section
variable {W : World} {ls : List Int} {ca : Array Value} {gC gr kp kd ks : Nat} {gs es : List Nat} {Ms Is : Nat → Nat → Prop} {v vm vs : Value} {l : List (Stp × SlB)} {w w' w3 : World}
theorem Kd.below (H : Kd W ls ca gC gr kp kd ks gs es Ms Is v vm vs l w) (hb : Below w.heap.size w w') : Kd W ls ca gC gr kp kd ks gs es Ms Is v vm vs l w' where
  c := H.c.below hb
  bus := H.bus.below hb H.bus.lt
  rlo := H.rlo
  o1 := H.o1.below hb (Nat.le_refl _)
  o2 := H.o2.below hb (Nat.le_refl _)
  o3 := H.o3.below hb (Nat.le_refl _)
  elen := H.elen
  eap := H.eap
theorem Kd.v_es (H : Kd W ls ca gC gr kp kd ks gs es Ms Is v vm vs l w) {q : Nat} (e : v.ownBlock = some q) : q ∉ es := fun hq => by
  obtain ⟨cs, hc⟩ := H.c.es_obj hq
  exact own_not H.o1 hc (by decide) e
theorem Kd.vm_es (H : Kd W ls ca gC gr kp kd ks gs es Ms Is v vm vs l w) {q : Nat} (e : vm.ownBlock = some q) : q ∉ es := fun hq => by
  obtain ⟨cs, hc⟩ := H.c.es_obj hq
  exact own_not H.o2 hc (by decide) e
theorem Kd.vs_es (H : Kd W ls ca gC gr kp kd ks gs es Ms Is v vm vs l w) {q : Nat} (e : vs.ownBlock = some q) : q ∉ es := fun hq => by
  obtain ⟨cs, hc⟩ := H.c.es_obj hq
  exact own_not H.o3 hc (by decide) e
theorem Kd.gr_es (H : Kd W ls ca gC gr kp kd ks gs es Ms Is v vm vs l w) : gr ∉ es := fun hq => by
  obtain ⟨cs, hc⟩ := H.c.es_obj hq
  exact H.bus.neT hc (by decide) rfl
theorem Kd.more (H : Kd W ls ca gC gr kp kd ks gs es Ms Is v vm vs l w) {z : Int} (hz : ls[kp]? = some z) (hb : Below w.heap.size w w') {gm : Nat} {M I : Nat → Prop} (hr : RepM w' gm M I 0 (mdOf z)) (hn : ∀ q, M q ∨ I q → w.heap.size ≤ q)
    (ht : Turn (fun b => v.ownBlock = some b) w' w3) {v' : Value} (ho : OwnX 51 1 ptL w3 W.heap.size v' (gs ++ [gm])) (wh : v'.ownBlock = v.ownBlock ∨ ∃ q, v'.ownBlock = some q ∧ w'.heap.size ≤ q) :
    Kd W ls ca gC gr (kp + 1) kd ks (gs ++ [gm]) es (fun i => if i = kp then M else Ms i) (fun i => if i = kp then I else Is i) v' vm vs l w3 where
  c := (H.c.more hz hb hr hn).turn ht (fun q e => (H.o1.own q e).1) (fun e => own_not H.o1 H.c.cas (by decide) e) (fun q hq e => H.v_es e hq) fun i q hi e e2 => by
    have hq := (H.o1.own q e2).2
    by_cases e0 : i = kp
    · rw [if_pos e0, if_pos e0] at e
      have := hn q e; omega
    · rw [if_neg e0, if_neg e0] at e
      exact (H.eap i q (by omega) e).2.2.2.1 e2
  bus := (H.bus.below hb H.bus.lt).turn ht fun e => own_not H.o1 H.bus (by decide) e
  rlo := H.rlo
  o1 := ho
  o2 := (H.o2.below hb (Nat.le_refl _)).turn ht fun q e e2 => own_ne H.o2 H.o1 (by decide) e e2
  o3 := (H.o3.below hb (Nat.le_refl _)).turn ht fun q e e2 => own_ne H.o3 H.o1 (by decide) e e2
  elen := H.elen
  eap i q hi e := by
    have new : ∀ q, v'.ownBlock = some q → v.ownBlock = some q ∨ w'.heap.size ≤ q := fun q e => by
      rcases wh with x | ⟨q', x, y⟩
      · exact .inl (x ▸ e)
      · rw [x] at e; cases e; exact .inr y
    by_cases e0 : i = kp
    · rw [if_pos e0, if_pos e0] at e
      have h1 := hn q e
      have h2 := MbP.memB_ok.lt hr q e
      refine ⟨fun e2 => ?_, fun e2 => ?_, fun e2 => ?_, fun e2 => ?_, fun e2 => ?_, fun e2 => ?_⟩
      · have := H.c.ref.lt.1 q e2; omega
      · have := H.bus.lt; omega
      · have := H.c.cas.lt; omega
      · rcases new q e2 with x | x
        · have := (H.o1.own q x).2; omega
        · omega
      · have := (H.o2.own q e2).2; omega
      · have := (H.o3.own q e2).2; omega
    · rw [if_neg e0, if_neg e0] at e
      obtain ⟨a1, a2, a3, a4, a5, a6⟩ := H.eap i q (by omega) e
      refine ⟨a1, a2, a3, fun e2 => ?_, a5, a6⟩
      rcases new q e2 with x | x
      · exact a4 x
      · have := (H.c.lo i q (by omega) e).2; have := hb.size; omega
theorem Kd.moreR (H : Kd W ls ca gC gr kp kd ks gs es Ms Is v vm vs l w) {z : Int} (hz : ls[kd]? = some z) (ht : Turn (fun b => vm.ownBlock = some b) w w') {ge : Nat} (hr : RS w' ge (fun _ => False) 0 (mdOf z)) (hn : w.heap.size ≤ ge)
    {vm' : Value} (ho : OwnX 56 1 ptL w' W.heap.size vm' (es ++ [ge])) (wh : ∀ q, vm'.ownBlock = some q → vm.ownBlock = some q ∨ w.heap.size ≤ q) :
    Kd W ls ca gC gr kp (kd + 1) ks gs (es ++ [ge]) Ms Is v vm' vs l (w'.setCell ⟨gr, 0, none⟩ vm') := by
  have hbus := H.bus.turn ht fun e => own_not H.o2 H.bus (by decide) e
  have t2 := Turn.setCell (S := fun q => q = gr) w' ⟨gr, 0, none⟩ vm' rfl
  have hge : ge ≠ gr := fun e => by have := H.bus.lt; omega
  have K1 : Kc W ls ca gC kp (kd + 1) gs (es ++ [ge]) Ms Is w' := H.c.moreR hz H.elen ht (fun q e => (H.o2.own q e).1) (fun e => own_not H.o2 H.c.cas (by decide) e) (fun q hq e => H.vm_es e hq) (fun i q hi e e2 => (H.eap i q hi e).2.2.2.2.1 e2) hr hn
  have hes : gr ∉ es ++ [ge] := fun e => by
    rcases List.mem_append.1 e with e | e
    · exact H.gr_es e
    · rw [List.mem_singleton] at e; exact hge e.symm
  exact {
    c := K1.turn t2 (fun q e => by rw [e]; exact H.rlo) (fun e => H.bus.neT H.c.cas (by decide) e.symm) (fun q hq e => hes (e ▸ hq)) fun i q hi e e2 => (H.eap i q hi e).2.1 e2
    bus := hbus.setCell_same 0 vm'
    rlo := H.rlo
    o1 := (H.o1.turn ht fun q e e2 => own_ne H.o1 H.o2 (by decide) e e2).turn t2 fun q e e2 => own_not H.o1 H.bus (by decide) (e2 ▸ e)
    o2 := ho.turn t2 fun q e e2 => own_not ho hbus (by decide) (e2 ▸ e)
    o3 := (H.o3.turn ht fun q e e2 => own_ne H.o3 H.o2 (by decide) e e2).turn t2 fun q e e2 => own_not H.o3 H.bus (by decide) (e2 ▸ e)
    elen := by rw [List.length_append, H.elen]; rfl
    eap := fun i q hi e => by
      obtain ⟨a1, a2, a3, a4, a5, a6⟩ := H.eap i q hi e
      have hq := (H.c.lo i q hi e).2
      refine ⟨fun e2 => ?_, a2, a3, a4, fun e2 => ?_, a6⟩
      · rcases List.mem_append.1 e2 with e2 | e2
        · exact a1 e2
        · rw [List.mem_singleton] at e2; omega
      · rcases wh q e2 with x | x
        · exact a5 x
        · omega }
theorem Kd.moreS (H : Kd W ls ca gC gr kp kd ks gs es Ms Is v vm vs l w) {y : Stp × SlB} (hy : l[ks]? = some y) (ht : Turn (fun b => vs.ownBlock = some b) w w') {vs' : Value} (ho : OwnX 96 70 stL w' W.heap.size vs' (l.take ks ++ [y]))
    (wh : ∀ q, vs'.ownBlock = some q → vs.ownBlock = some q ∨ w.heap.size ≤ q) :
    Kd W ls ca gC gr kp kd (ks + 1) gs es Ms Is v vm vs' l (w'.setCell ⟨gr, 2, none⟩ vs') := by
  have hbus := H.bus.turn ht fun e => own_not H.o3 H.bus (by decide) e
  have t2 := Turn.setCell (S := fun q => q = gr) w' ⟨gr, 2, none⟩ vs' rfl
  have K1 : Kc W ls ca gC kp kd gs es Ms Is w' := H.c.turn ht (fun q e => (H.o3.own q e).1) (fun e => own_not H.o3 H.c.cas (by decide) e) (fun q hq e => H.vs_es e hq) (fun i q hi e e2 => (H.eap i q hi e).2.2.2.2.2 e2)
  have htk : l.take (ks + 1) = l.take ks ++ [y] := by rw [List.take_add_one, hy]; rfl
  exact {
    c := K1.turn t2 (fun q e => by rw [e]; exact H.rlo) (fun e => H.bus.neT H.c.cas (by decide) e.symm) (fun q hq e => H.gr_es (e ▸ hq)) fun i q hi e e2 => (H.eap i q hi e).2.1 e2
    bus := hbus.setCell_same 2 vs'
    rlo := H.rlo
    o1 := (H.o1.turn ht fun q e e2 => own_ne H.o1 H.o3 (by decide) e e2).turn t2 fun q e e2 => own_not H.o1 H.bus (by decide) (e2 ▸ e)
    o2 := (H.o2.turn ht fun q e e2 => own_ne H.o2 H.o3 (by decide) e e2).turn t2 fun q e e2 => own_not H.o2 H.bus (by decide) (e2 ▸ e)
    o3 := by rw [htk]; exact ho.turn t2 fun q e e2 => own_not ho hbus (by decide) (e2 ▸ e)
    elen := H.elen
    eap := fun i q hi e => by
      obtain ⟨a1, a2, a3, a4, a5, a6⟩ := H.eap i q hi e
      have hq := (H.c.lo i q hi e).2
      refine ⟨a1, a2, a3, a4, a5, fun e2 => ?_⟩
      rcases wh q e2 with x | x
      · exact a6 x
      · omega }
end
structure MkC (w0 : World) (vm : Value) (es : List Nat) (z : Int) (ge : Nat) (d6 d7 d8 : Bool) (v7 v8 : Value) (w' : World) : Prop where
  t : Turn (fun b => vm.ownBlock = some b) w0 w'
  pre : d6 = false → w'.heap.size = ge
  b : d8 = false → Below w0.heap.size w0 w'
  mem : d6 = true → RS w' ge (fun _ => False) 0 (mdOf z)
  lit : d7 = true → d8 = false → ∃ A c, v7 = .slice A 1 c ∧ Sli 1 ptL (fun b => w0.heap.size ≤ b) w' A [ge] 1 c
  own : d8 = true → OwnX 56 1 ptL w' 0 v8 (es ++ [ge]) ∧ ∀ b, v8.ownBlock = some b → vm.ownBlock = some b ∨ w0.heap.size ≤ b
end MiP
end Go.Proofs.YtklmjdhhnnanoaaGreatDoor
set_option maxRecDepth 100000
namespace Go.Proofs.YtklmjdhhnnanoaaGreatDoor
open Go.ChangeShapes Go.WideShapes Go.ChangeAt Go.RowKit
attribute [local go_sem] Gives GivesE
theorem sli_own {α : Type} {k : Nat} {en : α → List Value} {S : Nat → Prop} {w : World} {A : Option Addr} {l : List α} {n c : Nat} (h : Sli k en S w A l n c) : Sli k en (fun b => (Value.slice A n c).ownBlock = some b) w A l n c :=
  ⟨h.len, h.cap, h.max, h.none, fun hn => by obtain ⟨b, o, rfl, _, hl, hr⟩ := h.lst hn; exact ⟨b, o, rfl, rfl, hl, hr⟩⟩
theorem zip_maps' {α β : Type} : ∀ l : List (α × β), (l.map (·.1)).zip (l.map (·.2)) = l
  | [] => rfl
  | (a, b) :: l => by rw [List.map_cons, List.map_cons, List.zip_cons_cons, zip_maps' l]
namespace MiP
open BuP MbP BuM MbM
def mdB (ls : List Int) (h : ClP.Held) (l : List (Stp × SlB)) : Bs := BuM.new (ls.map mdOf) h (l.map (·.1))
section
variable {W : World} {ls : List Int} {ca : Array Value} {gC gr n n2 cm cs a s2 s4 gk gq g : Nat} {gs es : List Nat} {Ms Is : Nat → Nat → Prop} {Am As : Option Addr} {vc vst : Value} {h : ClP.Held} {l : List (Stp × SlB)} {Mc Mo Io : Nat → Prop} {w5 w6 w7 : World}
def mdF (gs : List Nat) (Ms Is : Nat → Nat → Prop) (gk : Nat) (Mc : Nat → Prop) (h : ClP.Held) (Mo Io : Nat → Prop) : Fq := ⟨gs, Ms, Is, gk, Mc, [h], Mo, Io⟩
def mdE (W : World) (es : List Nat) (Am : Option Addr) (n cm gq : Nat) (As : Option Addr) (n2 cs : Nat) (l : List (Stp × SlB)) (vc : Value) (h : ClP.Held) : Fp :=
  ⟨es, fun _ _ => False, Am, cm, gq, As, cs, l.map (·.2), fun q => q < W.heap.size ∨ (Value.slice Am n cm).ownBlock = some q ∨ (Value.slice As n2 cs).ownBlock = some q, vc, [h], .slice none 0 0⟩
set_option maxHeartbeats 1000000 in
theorem made_both (K : Kc W ls ca gC n n gs es Ms Is w5) (hn : ls.length = n) (hn64 : n ≤ 64) (hl : l.length = n2) (hn2 : n2 ≤ 60) (hs : ∀ y ∈ l, StOk W y) (hc : h.1 ≤ ClP.most)
    (bb : Blk w5 gr 50 (buR Am n cm gq As n2 cs false (.slice none 0 0))) (o2 : OwnX 56 1 ptL w5 W.heap.size (.slice Am n cm) es) (o3 : OwnX 96 70 stL w5 W.heap.size (.slice As n2 cs) l)
    (eap : ∀ i q, i < n → Ms i q ∨ Is i q → q ∉ es ∧ q ≠ gr ∧ (Value.slice Am n cm).ownBlock ≠ some q ∧ (Value.slice As n2 cs).ownBlock ≠ some q)
    (z0 : W.heap.size ≤ a) (z1 : a ≤ s2) (z2 : s2 ≤ s4) (z3 : s4 ≤ w5.heap.size) (l1 : ∀ i q, i < n → Ms i q ∨ Is i q → q < a) (l2 : ∀ q ∈ es, q < a) (l6 : gC < a) (l3 : gr < a) (l3' : W.heap.size ≤ gr) (l4 : ∀ q, (Value.slice Am n cm).ownBlock = some q → q < a) (l5 : ∀ q, (Value.slice As n2 cs).ownBlock = some q → q < a)
    (rC : repCb w5 gk Mc [h] h) (c1 : ∀ q, Mc q → a ≤ q ∧ q < s2) (rq : ClP.Rc w5 gq vc [h] h) (q1 : s2 ≤ gq ∧ gq < s4) (q2 : ∀ q, vc.ownBlock = some q → s2 ≤ q ∧ q < s4)
    (ov : ∀ q, vst.ownBlock = some q → s4 ≤ q ∧ q < w5.heap.size)
    (sk : RepK 0 w6 g gs gk Mo Io (l.map (·.1)) false []) (m1 : ∀ q, Mo q → w5.heap.size ≤ q) (m2 : ∀ q, Io q → w5.heap.size ≤ q ∧ q < w6.heap.size ∨ q < W.heap.size) (m3 : ∀ q, Mo q → q < w6.heap.size ∧ ¬ Io q) (b6 : Below w5.heap.size w5 w6) (t7 : Turn (fun q => vst.ownBlock = some q) w6 w7) :
    Both (RepK 0) W.heap.size w7 g (mdF gs Ms Is gk Mc h Mo Io) 0 gr (mdE W es Am n cm gq As n2 cs l vc h) (mdB ls h l) := by
  have t57 : Turn (fun q => vst.ownBlock = some q) w5 w7 := (Turn.of_new (S := fun q => vst.ownBlock = some q) b6).trans t7 fun q e => .inl e
  have s6 := b6.size
  have s7 := t7.size
  have K7 := K.turn t57 (fun q e => by have := ov q e; omega) (fun e => by have := ov _ e; omega) (fun q hq e => by have := ov q e; have := l2 q hq; omega) fun i q hi e e2 => by have := ov q e2; have := l1 i q hi e; omega
  have hml : (ls.map mdOf).length = n := by rw [List.length_map, hn]
  have hsl : (l.map (·.1)).length = n2 := by rw [List.length_map, hl]
  have hgs : gs.length = n := K.len
  have smem : ∀ s ∈ l.map (·.1), ∃ y ∈ l, y.1 = s := fun s hs' => by
    obtain ⟨y, hy, e⟩ := List.mem_map.1 hs'
    exact ⟨y, hy, e⟩
  have hP : Pp (RepK 0) w7 g (mdF gs Ms Is gk Mc h Mo Io) 0 (mdB ls h l) := {
    skel := bus_ok.frame sk t7 fun q e e2 => by
      have := ov q e2
      rcases e with e | e
      · have := m1 q e; omega
      · rcases m2 q e with x | x <;> omega
    len := hgs.trans hml.symm
    mem := fun i gi st h1 h2 => by
      have h2' : (ls.map mdOf)[i]? = some st := h2
      rw [List.getElem?_map] at h2'
      cases hz : ls[i]? with
      | none => rw [hz] at h2'; cases h2'
      | some z =>
        rw [hz] at h2'
        cases h2'
        exact K7.mem i gi z h1 hz
    ok := ⟨fun st hst => by
      obtain ⟨z, _, rfl⟩ := List.mem_map.1 (show st ∈ ls.map mdOf from hst)
      exact made_ok _, fun s hs' => by
      obtain ⟨y, hy, rfl⟩ := smem s hs'
      exact (hs y hy).ok⟩
    cel := (cb_turn rC t57 fun q e e2 => by have := ov q e2; have := c1 q e; omega)
    olt := fun q e => by
      rcases e with e | e
      · have := (m3 q e).1; omega
      · rcases m2 q e with x | x <;> omega
    sep := fun q e e2 => by
      rcases e with e | ⟨i, hi, e⟩
      · replace e : Io q := e
        rcases e2 with e2 | e2 | ⟨j, hj, e2⟩
        · exact (m3 q e2).2 e
        · have := c1 q e2
          rcases m2 q e with x | x <;> omega
        · have := l1 j q (by rw [← hgs]; exact hj) (.inl e2)
          have := (K.lo j q (by rw [← hgs]; exact hj) (.inl e2)).1
          rcases m2 q e with x | x <;> omega
      · replace e : Is i q := e
        replace hi : i < n := by rw [← hgs]; exact hi
        have hq := l1 i q hi (.inr e)
        rcases e2 with e2 | e2 | ⟨j, hj, e2⟩
        · have := m1 q e2; omega
        · have := c1 q e2; omega
        · exact K.sep i j q hi (by rw [← hgs]; exact hj) e e2
    nd := fun i j q hi hj h1 h2 => K.nd i j q (by rw [← hgs]; exact hi) (by rw [← hgs]; exact hj) h1 h2
    mc := fun q e => by
      have := c1 q e
      exact ⟨fun e2 => by have := m1 q e2; omega, fun i hi e2 => by have := l1 i q (by rw [← hgs]; exact hi) (.inl e2); omega⟩
    mo := fun q e i hi e2 => by have := m1 q e; have := l1 i q (by rw [← hgs]; exact hi) (.inl e2); omega
    sz := ⟨by show (ls.map mdOf).length ≤ 64; omega, by show (l.map (·.1)).length ≤ 1000; omega, Nat.le_refl _, Nat.le_refl _, fun s hs' => by
      obtain ⟨y, hy, rfl⟩ := smem s hs'
      exact (hs y hy).few⟩
    cmx := hc }
  have hel : es.length = n := by have := K.ref.len; rw [List.length_map, List.length_take] at this; omega
  have S2 : Sli 1 ptL (fun b => (Value.slice Am n cm).ownBlock = some b) w5 Am es n cm := by
    obtain ⟨A, cap, e, s⟩ := o2.sli ptL_len
    rw [hel] at e s
    cases e
    exact sli_own s
  have S3 : Sli 70 stL (fun b => (Value.slice As n2 cs).ownBlock = some b) w5 As l n2 cs := by
    obtain ⟨A, cap, e, s⟩ := o3.sli stL_len
    rw [hl] at e s
    cases e
    exact sli_own s
  have hR : Rb w7 gr (mdE W es Am n cm gq As n2 cs l vc h) 0 (mdB ls h l) := {
    blk := by
      show Blk w7 gr _ (buR Am (ls.map mdOf).length cm gq As (l.map (·.1)).length cs false (.slice none 0 0))
      rw [hml, hsl]
      exact bb.turn t57 fun e => by have := ov gr e; omega
    arr := by
      show Sli 1 ptL _ w7 Am es (ls.map mdOf).length cm
      rw [hml]
      exact (S2.turn t57 fun q e _ e2 => by have := ov q e2; have := l4 q e; omega).mono fun q e => .inr (.inl e)
    mem := by
      have := K7.ref
      rw [List.take_of_length_le (by omega)] at this
      exact this
    cel := rq.turn t57 (fun e => by have := ov gq e; omega) fun q e e2 => by have := ov q e2; have := q2 q e; omega
    sll := by show (l.map (·.2)).length = (l.map (·.1)).length; rw [List.length_map, List.length_map]
    stp := by
      show Sli 70 stL _ w7 As ((l.map (·.1)).zip (l.map (·.2))) (l.map (·.1)).length cs
      rw [zip_maps', hsl]
      exact (S3.turn t57 fun q e _ e2 => by have := ov q e2; have := l5 q e; omega).mono fun q e => .inr (.inr e)
    pk := fun s x hx => by
      have hx' : (s, x) ∈ l := by rw [← zip_maps' l]; exact hx
      have k := hs _ hx'
      refine ⟨(k.arg.turn (Turn.of_below K.low) fun q o h1 h2 e => ?_).turn t57 fun q o h1 h2 e => ?_, k.few, fun q o h1 h2 => .inl (k.old q o h1 h2)⟩
      · have := k.old q o h1 h2; omega
      · have := k.old q o h1 h2; have := ov q e; omega
    log := OwnX.nil _ _ _ _ _
    rlt := fun q e => by
      rcases e with e | e | e
      · omega
      · have := l4 q e; omega
      · have := l5 q e; omega
    sep := fun q e e2 => by
      have e' : q < W.heap.size ∨ (Value.slice Am n cm).ownBlock = some q ∨ (Value.slice As n2 cs).ownBlock = some q := by
        rcases e with e | ⟨j, _, e⟩
        · exact e
        · exact e.elim
      rcases e2 with e2 | e2 | e2 | e2 | e2
      · subst e2
        rcases e' with x | x | x
        · omega
        · exact own_not o2 bb (by decide) x
        · exact own_not o3 bb (by decide) x
      · have := K.elo q e2
        obtain ⟨cs', hc'⟩ := K.es_obj e2
        rcases e' with x | x | x
        · omega
        · exact own_not o2 hc' (by decide) x
        · exact own_not o3 hc' (by decide) x
      · have e2 : q = gq := e2
        rcases e' with x | x | x
        · omega
        · have := l4 q x; omega
        · have := l5 q x; omega
      · have := q2 q e2
        rcases e' with x | x | x
        · omega
        · have := l4 q x; omega
        · have := l5 q x; omega
      · cases e2
    sz := ⟨by show (ls.map mdOf).length ≤ 100; omega, by show (l.map (·.1)).length ≤ 1000; omega, Nat.le_refl _, Nat.le_refl _⟩
    cmx := hc }
  have lowP : ∀ q, mutP (mdF gs Ms Is gk Mc h Mo Io) q → Mo q ∨ Mc q ∨ ∃ i, i < n ∧ Ms i q := fun q e => by
    rcases e with e | e | ⟨i, hi, e⟩
    · exact .inl e
    · exact .inr (.inl e)
    · exact .inr (.inr ⟨i, by rw [← hgs]; exact hi, e⟩)
  have mutR' : ∀ q, mutR gr (mdE W es Am n cm gq As n2 cs l vc h) q → q = gr ∨ q ∈ es ∨ q = gq ∨ vc.ownBlock = some q := fun q e => by
    rcases e with e | e | e | e | e
    · exact .inl e
    · exact .inr (.inl e)
    · exact .inr (.inr (.inl e))
    · exact .inr (.inr (.inr e))
    · cases e
  refine ⟨hP, hR, fun q e e2 => ?_, fun q e e2 => ?_, fun q e => ?_, by omega⟩
  · have e2' : (q = gr ∨ q ∈ es ∨ q = gq ∨ vc.ownBlock = some q) ∨ (q < W.heap.size ∨ (Value.slice Am n cm).ownBlock = some q ∨ (Value.slice As n2 cs).ownBlock = some q) := by
      rcases e2 with e2 | e2 | ⟨j, _, e2⟩
      · exact .inl (mutR' q e2)
      · exact .inr e2
      · exact e2.elim
    have hq : q < s4 := by
      rcases e2' with (x | x | x | x) | (x | x | x)
      · omega
      · have := l2 q x; omega
      · omega
      · have := q2 q x; omega
      · omega
      · have := l4 q x; omega
      · have := l5 q x; omega
    rcases lowP q e with e | e | ⟨i, hi, e⟩
    · have := m1 q e; omega
    · have := c1 q e
      rcases e2' with (x | x | x | x) | (x | x | x)
      · omega
      · have := l2 q x; omega
      · omega
      · have := q2 q x; omega
      · omega
      · have := l4 q x; omega
      · have := l5 q x; omega
    · have h1 := l1 i q hi (.inl e)
      have h2 := (K.lo i q hi (.inl e)).1
      obtain ⟨p1, p2, p3, p4⟩ := eap i q hi (.inl e)
      rcases e2' with (x | x | x | x) | (x | x | x)
      · exact p2 x
      · exact p1 x
      · omega
      · have := q2 q x; omega
      · omega
      · exact p3 x
      · exact p4 x
  · rcases e2 with e2 | ⟨i, hi, e2⟩
    · replace e2 : Io q := e2
      have h1 : W.heap.size ≤ q ∧ q < s4 := by
        rcases mutR' q e with x | x | x | x
        · omega
        · have := l2 q x; have := K.elo q x; omega
        · omega
        · have := q2 q x; omega
      rcases m2 q e2 with x | x <;> omega
    · replace e2 : Is i q := e2
      replace hi : i < n := by rw [← hgs]; exact hi
      have h1 := l1 i q hi (.inr e2)
      obtain ⟨p1, p2, p3, p4⟩ := eap i q hi (.inr e2)
      rcases mutR' q e with x | x | x | x
      · exact p2 x
      · exact p1 x
      · omega
      · have := q2 q x; omega
  · rcases e with e | e
    · rcases lowP q e with e | e | ⟨i, hi, e⟩
      · have := m1 q e; omega
      · have := c1 q e; omega
      · exact (K.lo i q hi (.inl e)).1
    · rcases mutR' q e with x | x | x | x
      · omega
      · exact K.elo q x
      · omega
      · have := q2 q x; omega
def NewP (W w5 : World) (gs : List Nat) (gk n : Nat) (l : List (Stp × SlB)) (v1 : Value) (er : Int) (w6 : World) : Prop :=
  ((n < 1 ∨ 64 < n) ∧ v1 = .pointer none ∧ er = 2) ∨
  ∃ g Mo Io, (1 ≤ n ∧ n ≤ 64) ∧ v1 = MbP.at' g ∧ er = 0 ∧ RepK 0 w6 g gs gk Mo Io (l.map (·.1)) false [] ∧ (∀ q, Mo q → w5.heap.size ≤ q) ∧ (∀ q, Io q → w5.heap.size ≤ q ∧ q < w6.heap.size ∨ q < W.heap.size) ∧ ∀ q, Mo q → q < w6.heap.size ∧ ¬ Io q
theorem new19 {Av Ast : Option Addr} {cv cst : Nat} {S S' : Nat → Prop} (K : Kc W ls ca gC n n gs es Ms Is w5) (hn : ls.length = n) (hz1 : ∀ z ∈ ls, 1 ≤ z) (hn70 : n ≤ 70) (hl : l.length = n2) (hn2 : n2 ≤ 60) (hs : ∀ y ∈ l, StOk W y) (sv : Sli 1 ptL S w5 Av gs n cv) (rC : repCb w5 gk Mc [h] h) (sst : Sli 70 stL S' w5 Ast l n2 cst) :
    Calls Tryz.prog 36 #[.slice Av n cv, MbP.at' gk, .slice Ast n2 cst] w5 fun e w6 => ∃ v1 er, e = .returned (.tuple #[v1, .int .i64 er]) ∧ NewP W w5 gs gk n l v1 er w6 ∧ Below w5.heap.size w5 w6 := by
  have hml : (ls.map mdOf).length = n := by rw [List.length_map, hn]
  have hgs : gs.length = (ls.map mdOf).length := by rw [hml]; exact K.len
  have mem : ∀ (i gi : Nat) (st : St), gs[i]? = some gi → (ls.map mdOf)[i]? = some st → RepM w5 gi (Ms i) (Is i) 0 st ∧ 1 ≤ st.n := fun i gi st h1 h2 => by
    rw [List.getElem?_map] at h2
    cases hz : ls[i]? with
    | none => rw [hz] at h2; cases h2
    | some z =>
      rw [hz] at h2
      cases h2
      exact ⟨K.mem i gi z h1 hz, hz1 z (List.mem_of_getElem? hz)⟩
  have sst' : Sli 70 stL S' w5 Ast ((l.map (·.1)).zip (l.map (·.2))) n2 cst := by rw [zip_maps']; exact sst
  by_cases hr : 1 ≤ n ∧ n ≤ 64
  · refine (bus_ok.new (S := fun _ => True) (Sp := fun q => q < W.heap.size) (sv.mono fun _ _ => trivial) hgs mem hr.1 hr.2 rC (sst'.mono fun _ _ => trivial) (by rw [List.length_map, List.length_map]) (by omega) (fun s x hx => ?_)).mono ?_
    · rw [zip_maps'] at hx
      have k := hs _ hx
      exact ⟨k.arg.turn (Turn.of_below K.low) fun q o h1 h2 e => by have := k.old q o h1 h2; omega, k.few, k.ok, fun q o h1 h2 => k.old q o h1 h2⟩
    · rintro e w6 ⟨g, Mo, Io, rfl, h1, h2, h3, h4, h5⟩
      exact ⟨_, 0, rfl, .inr ⟨g, Mo, Io, hr, rfl, rfl, h1, h2, h3, h4⟩, h5⟩
  · refine (bus_ok.bad (S := fun _ => True) (sv.mono fun _ _ => trivial) hgs mem (by omega) (by omega) rC (sst'.mono fun _ _ => trivial) (by rw [List.length_map, List.length_map]) (by omega)).mono ?_
    rintro e w6 ⟨rfl, h5⟩
    exact ⟨_, 2, rfl, .inl ⟨by omega, rfl, rfl⟩, h5⟩
end
end MiP
end Go.Proofs.YtklmjdhhnnanoaaGreatDoor
set_option maxRecDepth 100000
namespace Go.Proofs.YtklmjdhhnnanoaaGreatDoor
namespace GeM
def Good (a b : Int) : Prop := 4 ≤ a ∧ a ≤ 64 ∧ 1 ≤ b ∧ b ≤ 64
instance (a b : Int) : Decidable (Good a b) := by unfold Good; infer_instance
def lv (m r : Nat) : Nat := m * r
def ht (m r : Nat) : Nat := Nat.log2 (m * r - 1) + 1
def nd (m r : Nat) : Nat := 2 ^ ht m r - 1
def lo (m r : Nat) : Nat := r * (m - 2)
def mx (m : Nat) : Nat := if 6 < m then m else 6
def cp (m r : Nat) : Nat := mx m + (if nd m r < mx m * ht m r then nd m r else mx m * ht m r) + 8
def hf (m r : Nat) : Nat := 2 + (69 * cp m r + 63) / 64
def sz (m r k : Nat) : Nat := match k with
  | 1 => 8
  | 2 => 2 * hf m r
  | 3 => nd m r
  | 4 => r
  | _ => 0
def st (m r k : Nat) : Nat := match k with
  | 2 => 8
  | 3 => 8 + 2 * hf m r
  | 4 => 8 + 2 * hf m r + nd m r
  | 5 => 8 + 2 * hf m r + nd m r + r
  | _ => 0
def sec (m r : Nat) : Nat := st m r 5
def lw (k : Int) : Nat := if k = 3 then 1 else 0
def L (f : Nat → Nat → Nat) (a b : Int) : Nat := if Good a b then f a.toNat b.toNat else 0
theorem L_good {f : Nat → Nat → Nat} {m r : Nat} (h : Good m r) : L f m r = f m r := by simp [L, h]
theorem L_bad {f : Nat → Nat → Nat} {a b : Int} (h : ¬ Good a b) : L f a b = 0 := by simp [L, h]
theorem good_nat {a b : Int} (h : Good a b) : ∃ m r : Nat, a = m ∧ b = r ∧ 4 ≤ m ∧ m ≤ 64 ∧ 1 ≤ r ∧ r ≤ 64 := by
  obtain ⟨h1, h2, h3, h4⟩ := h
  exact ⟨a.toNat, b.toNat, by omega, by omega, by omega, by omega, by omega, by omega⟩
section
variable {m r : Nat}
theorem lv_bd (h : Good m r) : 4 ≤ lv m r ∧ lv m r ≤ 4096 := by
  obtain ⟨h1, h2, h3, h4⟩ := h
  unfold lv
  have a := Nat.mul_le_mul (show m ≤ 64 by omega) (show r ≤ 64 by omega)
  have b := Nat.mul_le_mul (show 4 ≤ m by omega) (show 1 ≤ r by omega)
  omega
theorem ht_up (h : Good m r) : lv m r ≤ 2 ^ ht m r := by
  have := lv_bd h
  have h1 : m * r - 1 < 2 ^ (Nat.log2 (m * r - 1) + 1) := Nat.lt_log2_self
  unfold ht lv at *
  omega
theorem ht_lo (h : Good m r) : 2 ^ (ht m r - 1) < lv m r := by
  have := lv_bd h
  unfold lv at this
  have h1 : 2 ^ Nat.log2 (m * r - 1) ≤ m * r - 1 := Nat.log2_self_le (by omega)
  unfold ht lv
  rw [Nat.add_sub_cancel]
  omega
theorem ht_pos : 1 ≤ ht m r := by unfold ht; omega
theorem ht_bd (h : Good m r) : ht m r ≤ 12 := by
  have h1 := ht_lo h
  have h2 := lv_bd h
  rcases Nat.lt_or_ge 12 (ht m r) with e | e
  · have := Nat.pow_le_pow_right (show 0 < 2 by omega) (show 12 ≤ ht m r - 1 by omega)
    omega
  · exact e
theorem pow_two (h : Good m r) : 2 ^ ht m r < 2 * lv m r := by
  have h1 := ht_lo h
  have h2 : 2 ^ ht m r = 2 * 2 ^ (ht m r - 1) := by
    have := @ht_pos m r
    rw [show ht m r = (ht m r - 1) + 1 by omega, Nat.pow_succ, Nat.add_sub_cancel]
    omega
  omega
theorem ht_of (h : Good m r) {k : Nat} (hk : lv m r ≤ 2 ^ k) (hl : ∀ j, j < k → 2 ^ j < lv m r) : k = ht m r := by
  rcases Nat.lt_trichotomy k (ht m r) with e | e | e
  · have h1 := ht_lo h
    have := Nat.pow_le_pow_right (show 0 < 2 by omega) (show k ≤ ht m r - 1 by omega)
    omega
  · exact e
  · have := hl _ e
    have := ht_up h
    omega
theorem nd_eq (_ : Good m r) : nd m r + 1 = 2 ^ ht m r := by
  have := Nat.pow_pos (n := ht m r) (show 0 < 2 by omega)
  unfold nd
  omega
theorem nd_bd (h : Good m r) : 3 ≤ nd m r ∧ nd m r ≤ 8190 := by
  have h1 := nd_eq h
  have h2 := pow_two h
  have h3 := ht_up h
  have h4 := lv_bd h
  omega
theorem mx_bd (h : Good m r) : 6 ≤ mx m ∧ mx m ≤ 64 := by
  obtain ⟨h1, h2, h3, h4⟩ := h
  unfold mx
  split <;> omega
theorem mh_bd (h : Good m r) : mx m * ht m r ≤ 768 := by
  have h1 := ht_bd h
  have h2 := mx_bd h
  have := Nat.mul_le_mul h2.2 h1
  omega
theorem cp_bd (h : Good m r) : 14 ≤ cp m r ∧ cp m r ≤ 840 := by
  have h1 := mh_bd h
  have h2 := mx_bd h
  unfold cp
  split <;> omega
theorem hf_bd (h : Good m r) : 2 ≤ hf m r ∧ hf m r ≤ 908 := by
  have := cp_bd h
  unfold hf
  omega
theorem r_bd (h : Good m r) : 4 ≤ m ∧ m ≤ 64 ∧ 1 ≤ r ∧ r ≤ 64 := by
  obtain ⟨h1, h2, h3, h4⟩ := h
  omega
theorem sec_bd (h : Good m r) : sec m r ≤ 20000 := by
  have h1 := hf_bd h
  have h2 := nd_bd h
  have h3 := r_bd h
  show 8 + 2 * hf m r + nd m r + r ≤ 20000
  omega
end
def pl (a b k i : Int) : Option Nat :=
  if Good a b ∧ 1 ≤ k ∧ k ≤ 4 ∧ (lw k : Int) ≤ i ∧ i - lw k < sz a.toNat b.toNat k.toNat then some (st a.toNat b.toNat k.toNat + (i - lw k).toNat) else none
def rg (a b p : Int) : Nat :=
  if p < st a.toNat b.toNat 2 then 1 else if p < st a.toNat b.toNat 3 then 2 else if p < st a.toNat b.toNat 4 then 3 else 4
def wh (a b p : Int) : Option (Nat × Nat) :=
  if Good a b ∧ 0 ≤ p ∧ p < sec a.toNat b.toNat then some (rg a b p, p.toNat - st a.toNat b.toNat (rg a b p) + lw (rg a b p)) else none
theorem st_2 (m r : Nat) : st m r 2 = 8 := rfl
theorem st_3 (m r : Nat) : st m r 3 = 8 + 2 * hf m r := rfl
theorem st_4 (m r : Nat) : st m r 4 = 8 + 2 * hf m r + nd m r := rfl
theorem st_5 (m r : Nat) : st m r 5 = 8 + 2 * hf m r + nd m r + r := rfl
theorem sz_2 (m r : Nat) : sz m r 2 = 2 * hf m r := rfl
theorem sz_3 (m r : Nat) : sz m r 3 = nd m r := rfl
theorem sz_4 (m r : Nat) : sz m r 4 = r := rfl
theorem st_sz (m r : Nat) {k : Nat} (h1 : 1 ≤ k) (h4 : k ≤ 4) : st m r (k + 1) = st m r k + sz m r k := by
  have : k = 1 ∨ k = 2 ∨ k = 3 ∨ k = 4 := by omega
  rcases this with rfl | rfl | rfl | rfl <;> simp [st, sz]
end GeM
end Go.Proofs.YtklmjdhhnnanoaaGreatDoor
set_option maxRecDepth 100000
namespace Go.Proofs.YtklmjdhhnnanoaaGreatDoor
open Go.ChangeShapes Go.WideShapes Go.ChangeAt Go.RowKit
attribute [local go_sem] Gives
namespace GeM
theorem ret_i {k : IntKind} {a b : Int} (h : a = b) : Ending.returned (.int k a) = .returned (.int k b) := by rw [h]
abbrev gv (a b : Int) : Value := .agg #[.int .i64 a, .int .i64 b]
theorem below_al {w : World} (o : Obj) : Below w.heap.size w (w.alloc o) := (Below.refl _ _).alloc (Nat.le_refl _) _
set_option maxHeartbeats 400000 in
theorem check_any (a b : Int) (w : World) : Calls Tryz.prog 85 #[gv a b] w fun e w' => e = .returned (.int .i64 (if Good a b then 0 else 2)) ∧ Below w.heap.size w w' := by
  obtain ⟨c, hc⟩ : ∃ c : Int, c = if Good a b then 0 else 2 := ⟨_, rfl⟩
  rw [← hc]
  have HC := hid hc
  clear hc
  unfold gv
  go_enter Tryz.func85, Tryz.ntmps85
  go_wp2_with fail
  all_goals
    go_ret
    refine ⟨ret_i ?_, below_al _⟩
    have hc := HC.out
    clear HC
    simp only [Good] at hc
    first | (simp_all; done) | (simp_all; omega) | omega
abbrev Tells (f : FuncId) (n : Int → Int → Nat) : Prop := ∀ (a b : Int) (w : World), Calls Tryz.prog f #[gv a b] w fun e w' => e = .returned (.int .i64 (n a b)) ∧ Below w.heap.size w w'
abbrev tyG : TypeId := 23
theorem tGe (a b : Int) : RowT tyG (#[Value.int .i64 a, .int .i64 b] : Array Value).size := ⟨by kernel_rfl, _, Tryz.underlying23, rfl⟩
structure At (B : World) (g : Nat) (a b : Int) (w : World) : Prop where
  blk : Blk w g tyG #[.int .i64 a, .int .i64 b]
  bel : Below B.heap.size B w
theorem At.new (B : World) (a b : Int) : At B B.heap.size a b (B.alloc (.cells #[.int .i64 a, .int .i64 b] tyG)) := ⟨Blk.new _ _ _, below_al _⟩
theorem At.on {B : World} {g : Nat} {a b : Int} {w w' : World} (h : At B g a b w) (hb : Below w.heap.size w w') : At B g a b w' := ⟨h.blk.below hb h.blk.lt, h.bel.trans (hb.mono h.bel.size)⟩
theorem At.c0 {B : World} {g : Nat} {a b : Int} {w : World} (h : At B g a b w) : w.cell? ⟨g, 0, none⟩ = some (.int .i64 a) := h.blk.cell 0
theorem At.c1 {B : World} {g : Nat} {a b : Int} {w : World} (h : At B g a b w) : w.cell? ⟨g, 1, none⟩ = some (.int .i64 b) := h.blk.cell 1
theorem At.drew {B : World} {g : Nat} {a b : Int} {w : World} (h : At B g a b w) : At B g a b w.drew := ⟨h.blk.drew, h.bel.drew⟩
set_option maxHeartbeats 400000 in
theorem leaves_any : Tells 96 (L lv) := fun a b w => by
  by_cases hg : Good a b
  · obtain ⟨m, r, rfl, rfl, h1, h2, h3, h4⟩ := good_nat hg
    have hl := lv_bd hg
    rw [L_good hg]
    obtain ⟨n, hn⟩ : ∃ n, n = lv m r := ⟨_, rfl⟩
    have HN := hid (show (m : Int) * r = (n : Nat) by rw [hn]; unfold lv; push_cast; rfl)
    rw [← hn] at hl ⊢
    clear h1 h2 h3 h4
    unfold gv
    go_enter Tryz.func96, Tryz.ntmps96
    go_wp2_with fail
    refine (check_any _ _ _).mono ?_
    rw [if_pos hg]
    rintro e w1 ⟨rfl, h1⟩
    have A1 := hid ((At.new w m r).on h1)
    have q0 := A1.out.c0
    have q1 := A1.out.c1
    clear h1
    go_wp2_with fail
    rw [HN.out]
    go_wp2_with fail
    go_ret
    exact ⟨ret_i (IntWalk.wrap64_in _ (by omega)), A1.out.bel⟩
  · rw [L_bad hg]
    unfold gv
    go_enter Tryz.func96, Tryz.ntmps96
    go_wp2_with fail
    refine (check_any _ _ _).mono ?_
    rw [if_neg hg]
    rintro e w1 ⟨rfl, h1⟩
    have A1 := hid ((At.new w a b).on h1)
    clear h1
    go_wp2_with fail
    go_ret
    exact ⟨rfl, A1.out.bel⟩
end GeM
end Go.Proofs.YtklmjdhhnnanoaaGreatDoor
namespace Go.Proofs
open Go.Shelf
def Tryz.lays128_ren : Go.Shelf.Ren := ⟨fun | 128 => 120 | n => n, fun | 51 => 196 | 3 => 3 | 4 => 4 | 46 => 79 | 5 => 5 | 9 => 9 | n => n, fun | n => n⟩
def Tryz.lays125_ren : Go.Shelf.Ren := ⟨fun | 125 => 95 | 128 => 120 | 129 => 121 | n => n, fun | 46 => 79 | 3 => 3 | 51 => 196 | 53 => 100 | 4 => 4 | 5 => 5 | 9 => 9 | n => n, fun | n => n⟩
theorem Tryz.lays125 : Go.Proofs.Lays.n125 Tryz.prog Tryz.lays125_ren := {
  mixed := by kernel_rfl
  f125 := Tryz.func95.trans (congrArg some (by kernel_rfl))
  f128 := Tryz.func120.trans (congrArg some (by kernel_rfl))
  f129 := Tryz.func121.trans (congrArg some (by kernel_rfl))
  t3 := Tryz.underlying3
  a3 := Tryz.isAgg3
  z3 := Tryz.sizeOf3
  v3 := Tryz.zeroValue3
  t4 := Tryz.underlying4
  a4 := Tryz.isAgg4
  z4 := Tryz.sizeOf4
  v4 := Tryz.zeroValue4
  t5 := Tryz.underlying5
  a5 := Tryz.isAgg5
  z5 := Tryz.sizeOf5
  v5 := Tryz.zeroValue5
  t9 := Tryz.underlying9
  a9 := Tryz.isAgg9
  z9 := Tryz.sizeOf9
  v9 := Tryz.zeroValue9
  t46 := Tryz.underlying79
  a46 := Tryz.isAgg79
  z46 := Tryz.sizeOf79
  v46 := Tryz.zeroValue79
  t51 := Tryz.underlying196
  a51 := Tryz.isAgg196
  z51 := Tryz.sizeOf196
  v51 := Tryz.zeroValue196
  t53 := Tryz.underlying100
  a53 := Tryz.isAgg100
  z53 := Tryz.sizeOf100
  v53 := Tryz.zeroValue100 }
theorem Tryz.bits_Len (x : Int) (w : World) (h0 : 0 ≤ x) (h1 : x ≤ 18446744073709551615) :
    Calls Tryz.prog 95 #[.int .u64 x] w fun e w' => e = .returned (.int .i64 (Lib.bitLen x.toNat)) ∧ w' = w := Any.bits_Len Tryz.lays125 x w h0 h1
def Tryz.lays129_ren : Go.Shelf.Ren := ⟨fun | 129 => 121 | n => n, fun | 53 => 100 | 3 => 3 | 4 => 4 | 46 => 79 | 5 => 5 | 9 => 9 | n => n, fun | n => n⟩
def Tryz.lays264_ren : Go.Shelf.Ren := ⟨fun | 264 => 181 | n => n, fun | 53 => 100 | 46 => 79 | n => n, fun | n => n⟩
end Go.Proofs
set_option maxRecDepth 100000
namespace Go.Proofs.YtklmjdhhnnanoaaGreatDoor
open Go.ChangeShapes Go.WideShapes Go.ChangeAt Go.RowKit
attribute [local go_sem] Gives
namespace GeM
theorem len_ht {m r : Nat} (hg : Good m r) : Go.Lib.bitLen (lv m r - 1) = ht m r := by
  have hl := lv_bd hg
  obtain ⟨a, b, c⟩ := Go.Lib.bitLenAux_bounds 64 (lv m r - 1) (by omega) (by omega)
  refine ht_of hg ?_ fun j hj => ?_
  · show lv m r ≤ 2 ^ Go.Lib.bitLenAux 64 (lv m r - 1)
    omega
  · have hj' : j < Go.Lib.bitLenAux 64 (lv m r - 1) := hj
    have := Nat.pow_le_pow_right (show 0 < 2 by omega) (show j ≤ Go.Lib.bitLenAux 64 (lv m r - 1) - 1 by omega)
    omega
set_option maxHeartbeats 400000 in
theorem height_any : Tells 65 (L ht) := fun a b w => by
  by_cases hg : Good a b
  · obtain ⟨m, r, rfl, rfl, k1, k2, k3, k4⟩ := good_nat hg
    rw [L_good hg]
    unfold gv
    go_enter Tryz.func65, Tryz.ntmps65
    go_wp2_with fail
    refine (check_any _ _ _).mono ?_
    rw [if_pos hg]
    rintro e w1 ⟨rfl, h1⟩
    have A1 := hid ((At.new w m r).on h1)
    have q0 := A1.out.c0
    have q1 := A1.out.c1
    clear h1
    have hl := lv_bd hg
    have HT := hid (len_ht hg)
    go_wp2_with ((with_reducible apply ldR (cs := #[Value.int .i64 m, .int .i64 r]) (tGe _ _)); rfl; exact A1.out.blk.whole)
    refine (leaves_any _ _ _).mono ?_
    rintro e w2 ⟨rfl, h2⟩
    rw [L_good hg]
    have A2 := hid (A1.out.on h2)
    clear h2 A1 q0 q1
    have e1 : ((lv m r : Nat) : Int) - 1 = ((lv m r - 1 : Nat) : Int) := by omega
    go_wp2_with fail
    refine (Tryz.bits_Len _ _ (by omega) (by omega)).mono ?_
    rintro e w3 ⟨rfl, rfl⟩
    go_wp2_with fail
    go_ret
    exact ⟨ret_i (by rw [HT.out]), A2.out.bel⟩
  · rw [L_bad hg]
    unfold gv
    go_enter Tryz.func65, Tryz.ntmps65
    go_wp2_with fail
    refine (check_any _ _ _).mono ?_
    rw [if_neg hg]
    rintro e w1 ⟨rfl, h1⟩
    have A1 := hid ((At.new w a b).on h1)
    clear h1
    go_wp2_with fail
    go_ret
    exact ⟨rfl, A1.out.bel⟩
set_option maxHeartbeats 400000 in
theorem nodes_any : Tells 27 (L nd) := fun a b w => by
  have hh : L ht a b ≤ 12 ∧ 2 ^ L ht a b = L nd a b + 1 := by
    by_cases hg : Good a b
    · obtain ⟨m, r, rfl, rfl, k1, k2, k3, k4⟩ := good_nat hg
      rw [L_good hg, L_good hg]
      exact ⟨ht_bd hg, (nd_eq hg).symm⟩
    · rw [L_bad hg, L_bad hg]
      exact ⟨by omega, rfl⟩
  obtain ⟨h, hh'⟩ : ∃ h, h = L ht a b := ⟨_, rfl⟩
  have HH := hid hh'
  rw [← hh'] at hh
  obtain ⟨h1, h2⟩ := hh
  have H2 := hid h2
  clear hh' h2
  unfold gv
  go_enter Tryz.func27, Tryz.ntmps27
  go_wp2_with ((with_reducible apply ldR (cs := #[Value.int .i64 a, .int .i64 b]) (tGe _ _)); rfl; exact (hid (At.new w a b)).out.blk.whole)
  refine (height_any _ _ _).mono ?_
  rintro e w1 ⟨rfl, h1⟩
  have A1 := hid ((At.new w a b).on h1)
  rw [← HH.out]
  clear h1
  go_wp2_with fail
  all_goals go_ret
  all_goals refine ⟨ret_i ?_, A1.out.bel⟩
  all_goals have h2 := H2.out
  have e2 : ((2 : Int) ^ h) = ((2 ^ h : Nat) : Int) := by push_cast; rfl
  have e3 : 2 ^ h ≤ 2 ^ 12 := Nat.pow_le_pow_right (by omega) h1
  rw [IntWalk.wrap64_in (2 ^ h) (by rw [e2]; omega), IntWalk.wrap64_in _ (by rw [e2]; omega), e2]
  omega
set_option maxHeartbeats 400000 in
theorem capacity_any : Tells 113 (L cp) := fun a b w => by
  by_cases hg : Good a b
  · obtain ⟨m, r, rfl, rfl, k1, k2, k3, k4⟩ := good_nat hg
    rw [L_good hg]
    unfold gv
    go_enter Tryz.func113, Tryz.ntmps113
    go_wp2_with fail
    refine (check_any _ _ _).mono ?_
    rw [if_pos hg]
    rintro e w1 ⟨rfl, h1⟩
    have A1 := hid ((At.new w m r).on h1)
    have q0 := A1.out.c0
    clear h1
    go_wp2_with fail
    have hm : (max 6 (m : Int)) = ((mx m : Nat) : Int) := by unfold mx; split <;> omega
    rw [hm]
    have B1 := hid (mx_bd hg)
    have B2 := hid (ht_bd hg)
    have B3 := hid (nd_bd hg)
    have B4 := hid (mh_bd hg)
    obtain ⟨x, hx⟩ : ∃ x, x = mx m * ht m r := ⟨_, rfl⟩
    obtain ⟨y, hy⟩ : ∃ y, y = (if nd m r < x then nd m r else x) := ⟨_, rfl⟩
    have X1 := hid hx
    have Y1 := hid hy
    have hq : IntKind.i64.wrap (((mx m : Nat) : Int) * ((ht m r : Nat) : Int)) = ((x : Nat) : Int) := by rw [hx, Int.natCast_mul]; exact IntWalk.i64_in _ (by have := B4.out; rw [← Int.natCast_mul]; omega)
    have hn : min (x : Int) ((nd m r : Nat) : Int) = (y : Nat) := by rw [hy]; split <;> omega
    have yb : y ≤ 768 := by have := B4.out; rw [hy]; split <;> omega
    have ha : IntKind.i64.wrap (((mx m : Nat) : Int) + (y : Int)) = ((mx m + y : Nat) : Int) := by rw [IntWalk.i64_in _ (by have := B1.out; omega)]; omega
    have hb : IntKind.i64.wrap (((mx m + y : Nat) : Int) + 8) = ((mx m + y + 8 : Nat) : Int) := by rw [IntWalk.i64_in _ (by have := B1.out; omega)]; omega
    have HQ := hid hq
    have HN := hid hn
    have HA := hid ha
    have HB := hid hb
    have YB := hid yb
    clear hq hn ha hb hx hy yb
    refine wp_region_tail (C := At w w.heap.size m r) 10 (by kernel_rfl) (by kernel_rfl) (by kernel_rfl) A1.out.drew ?_
    simp only [List.take_succ_cons, List.take_zero, List.drop_succ_cons, List.drop_zero]
    apply wpK_val
    · rfl
    · intro w' hw'
      go_simp
      first | exact rfl | exact ⟨rfl, hw'⟩
    simp only [Act.put, sqA, sqB, sqC]
    apply wpK_val
    · rfl
    · intro w' hw'
      go_simp
      first | exact rfl | exact ⟨rfl, hw'⟩
    simp only [Act.put, sqA, sqB, sqC]
    apply kldR (tGe _ _)
    · rfl
    · rfl
    · exact fun w' hw' => hw'.blk.whole
    simp only [Act.put, sqA, sqB, sqC]
    apply wpK_val
    · rfl
    · intro w' hw'
      go_simp
      exact (height_any _ _ w').mono fun e w5 h => ⟨h.1, hw'.on h.2⟩
    simp only [Act.put, sqA, sqB, sqC]
    rw [L_good hg]
    apply wpK_val
    · rfl
    · intro w' hw'
      have h1 : _ = _ := HQ.out
      go_simp
      first | exact rfl | exact ⟨rfl, hw'⟩
    simp only [Act.put, sqA, sqB, sqC]
    apply kldR (tGe _ _)
    · rfl
    · rfl
    · exact fun w' hw' => hw'.blk.whole
    simp only [Act.put, sqA, sqB, sqC]
    apply wpK_val
    · rfl
    · intro w' hw'
      go_simp
      exact (nodes_any _ _ w').mono fun e w5 h => ⟨h.1, hw'.on h.2⟩
    simp only [Act.put, sqA, sqB, sqC]
    rw [L_good hg]
    apply wpK_val
    · rfl
    · intro w' hw'
      have h1 : _ = _ := HN.out
      go_simp
      first | exact rfl | exact ⟨rfl, hw'⟩
    simp only [Act.put, sqA, sqB, sqC]
    apply wpK_val
    · rfl
    · intro w' hw'
      have h1 : _ = _ := HA.out
      go_simp
      first | exact rfl | exact ⟨rfl, hw'⟩
    simp only [Act.put, sqA, sqB, sqC]
    apply wpK_val
    · rfl
    · intro w' hw'
      have h1 : _ = _ := HB.out
      go_simp
      first | exact rfl | exact ⟨rfl, hw'⟩
    simp only [Act.put, sqA, sqB, sqC]
    refine wpK_nil fun w5 hw5 => ?_
    have A5 := hid hw5
    clear hw5
    go_wp2_with fail
    go_ret
    exact ⟨ret_i (by rw [cp, ← X1.out, ← Y1.out, IntWalk.i64_in _ (by have := YB.out; have := B1.out; omega)]; omega), A5.out.bel⟩
  · rw [L_bad hg]
    unfold gv
    go_enter Tryz.func113, Tryz.ntmps113
    go_wp2_with fail
    refine (check_any _ _ _).mono ?_
    rw [if_neg hg]
    rintro e w1 ⟨rfl, h1⟩
    have A1 := hid ((At.new w a b).on h1)
    clear h1
    go_wp2_with fail
    go_ret
    exact ⟨rfl, A1.out.bel⟩
set_option maxHeartbeats 400000 in
theorem half_any : Tells 86 (L hf) := fun a b w => by
  by_cases hg : Good a b
  · obtain ⟨m, r, rfl, rfl, k1, k2, k3, k4⟩ := good_nat hg
    rw [L_good hg]
    unfold gv
    go_enter Tryz.func86, Tryz.ntmps86
    go_wp2_with fail
    refine (check_any _ _ _).mono ?_
    rw [if_pos hg]
    rintro e w1 ⟨rfl, h1⟩
    have A1 := hid ((At.new w m r).on h1)
    clear h1
    go_wp2_with ((with_reducible apply ldR (cs := #[Value.int .i64 m, .int .i64 r]) (tGe _ _)); rfl; exact A1.out.blk.whole)
    refine (capacity_any _ _ _).mono ?_
    rw [L_good hg]
    rintro e w2 ⟨rfl, h2⟩
    have A2 := hid (A1.out.on h2)
    have hc := cp_bd hg
    clear h2 A1
    go_wp2_with fail
    go_ret
    exact ⟨ret_i (by unfold hf; omega), A2.out.bel⟩
  · rw [L_bad hg]
    unfold gv
    go_enter Tryz.func86, Tryz.ntmps86
    go_wp2_with fail
    refine (check_any _ _ _).mono ?_
    rw [if_neg hg]
    rintro e w1 ⟨rfl, h1⟩
    have A1 := hid ((At.new w a b).on h1)
    clear h1
    go_wp2_with fail
    go_ret
    exact ⟨rfl, A1.out.bel⟩
theorem lowest_any (k : Int) (w : World) : Calls Tryz.prog 53 #[.int .i64 k] w fun e w' => e = .returned (.int .i64 (lw k)) ∧ w = w' := by
  unfold lw
  go_enter Tryz.func53, Tryz.ntmps53
  go_wp2_with fail
  all_goals go_ret
  all_goals exact ⟨ret_i (by simp_all), rfl⟩
end GeM
end Go.Proofs.YtklmjdhhnnanoaaGreatDoor
set_option maxRecDepth 100000
namespace Go.Proofs.YtklmjdhhnnanoaaGreatDoor
open Go.ChangeShapes Go.WideShapes Go.ChangeAt Go.RowKit
attribute [local go_sem] Gives
namespace GeM
abbrev tyS : TypeId := 137
abbrev tyZ : TypeId := 176
theorem tZ (a b c d e : Value) : RowT tyZ (#[a, b, c, d, e] : Array Value).size := ⟨by kernel_rfl, _, Tryz.underlying176, rfl⟩
theorem tSt (a b c d e f : Value) : RowT tyS (#[a, b, c, d, e, f] : Array Value).size := ⟨by kernel_rfl, _, Tryz.underlying137, rfl⟩
theorem run_indexI {T : TypeId} {n k : Nat} {cs : Array Value} {v : Value} (hT : Tryz.prog.underlying T = some (.array n 3)) (hk : k < n) (hs : cs[k]? = some v) (w : World) : (Instr.index T (.agg cs) (.int .i64 k)).run Tryz.prog w = .ok v w := by
  have h1 : (0 : Int) ≤ (k : Int) ∧ (k : Int) < n := by omega
  have hz : (Tryz.prog.info? 3).map (·.size) = some 1 := by kernel_rfl
  obtain ⟨hk2, hv⟩ := Array.getElem?_eq_some_iff.1 hs
  simp [Instr.index, run_underlying hT, asIntOf, h1, go_sem]
  rw [if_pos hk, hs]
  rfl
section
variable {ops : Array Oper} {Q : Exit → Act → World → Prop} {a : Act} {w : World} {rest : List Oper} {dst : Option Tmp} {ty : TypeId} {pos : String} {after : Array Edge} {x y : Operand}
theorem ixI {T : TypeId} {n k : Nat} {cs : Array Value} {v : Value} (hT : Tryz.prog.underlying T = some (.array n 3)) (hk : k < n) (hx : a.eval x = .agg cs) (hy : a.eval y = .int .i64 k) (hs : cs[k]? = some v) (h : wpList Tryz.prog ops Q rest (a.put dst v) w) :
    wpList Tryz.prog ops Q (⟨dst, .index T x y, ty, pos, after, none⟩ :: rest) a w := by
  refine wpList_plain rfl fun K hK => ?_
  unfold Oper.wp execOp
  simp only [hx, hy, Sem.run_bind, run_indexI hT hk hs w, Result.andThen_ok, Sem.run_pure]
  exact hK _ _ h
end
theorem one5 (a b c d e : Int) : (#[Value.int .i64 a, .int .i64 b, .int .i64 c, .int .i64 d, .int .i64 e] : Array Value).all (·.oneCell') = true := by simp [Value.oneCell']
theorem one6 (a b c d e f : Int) : (#[Value.int .i64 a, .int .i64 b, .int .i64 c, .int .i64 d, .int .i64 e, .int .i64 f] : Array Value).all (·.oneCell') = true := by simp [Value.oneCell']
theorem At.re {B : World} {g : Nat} {a b : Int} {w : World} (h : At B g a b w) : At w g a b w := ⟨h.blk, Below.refl _ _⟩
def sv (a b : Int) : Array Value := #[.int .i64 0, .int .i64 (L (st · · 1) a b : Nat), .int .i64 (L (st · · 2) a b : Nat), .int .i64 (L (st · · 3) a b : Nat), .int .i64 (L (st · · 4) a b : Nat), .int .i64 (L (st · · 5) a b : Nat)]
theorem sv_bad {a b : Int} (hg : ¬ Good a b) : sv a b = #[.int .i64 0, .int .i64 0, .int .i64 0, .int .i64 0, .int .i64 0, .int .i64 0] := by
  unfold sv
  simp [L_bad hg]
def pr (m r k : Nat) : Array Value := #[.int .i64 0, .int .i64 0, .int .i64 (if 2 ≤ k then 8 else 0 : Nat), .int .i64 (if 3 ≤ k then 8 + 2 * hf m r else 0 : Nat), .int .i64 (if 4 ≤ k then 8 + 2 * hf m r + nd m r else 0 : Nat), .int .i64 (if 5 ≤ k then 8 + 2 * hf m r + nd m r + r else 0 : Nat)]
theorem sv_good {m r : Nat} (hg : Good m r) : sv m r = pr m r 5 := by
  unfold sv pr
  simp only [L_good hg]
  rfl
set_option maxHeartbeats 800000 in
theorem of_any (a b : Int) (w : World) : Calls Tryz.prog 52 #[gv a b] w fun e w' => e = .returned (.agg (sv a b)) ∧ Below w.heap.size w w' := by
  by_cases hg : Good a b
  · obtain ⟨m, r, rfl, rfl, k1, k2, k3, k4⟩ := good_nat hg
    unfold gv
    go_enter Tryz.func52, Tryz.ntmps52
    go_wp2_with fail
    refine (check_any _ _ _).mono ?_
    rw [if_pos hg]
    rintro e w1 ⟨rfl, h1⟩
    have A1 := hid (((At.new w m r).on (below_al _)).on h1)
    have R1 := hid (show Blk w1 (w.heap.size + 1) tyS #[.int .i64 0, .int .i64 0, .int .i64 0, .int .i64 0, .int .i64 0, .int .i64 0] from (Blk.top (w := w.alloc (.cells #[.int .i64 m, .int .i64 r] tyG)) rfl (by simp)).below h1 (by simp))
    clear h1
    go_wp2_with fail
    have B3 := hid (nd_bd hg)
    have B4 := hid (hf_bd hg)
    refine wp_region_new1 (C := At w1 w.heap.size m r) 8 tyZ #[.int .i64 0, .int .i64 0, .int .i64 0, .int .i64 0, .int .i64 0] 3 rfl (by kernel_rfl) (by kernel_rfl) (by kernel_rfl) (fun w => by rfl) A1.out.re.drew (fun w' hw' => hw'.on (below_al _)) (fun w' hw' => hw'.bel.size) ?_
    simp only [List.take_succ_cons, List.take_zero, List.drop_succ_cons, List.drop_zero]
    apply bldR (tGe _ _)
    · rfl
    · rfl
    · exact fun w' hw' => hw'.blk.whole
    simp only [Act.put, sqA, sqB, sqC]
    apply wpB_val
    · rfl
    · intro w' hw'
      go_simp
      exact (half_any _ _ w').mono fun e w5 h => ⟨h.1, hw'.on h.2, h.2⟩
    simp only [Act.put, sqA, sqB, sqC]
    rw [L_good hg]
    apply wpB_val
    · rfl
    · intro w' hw'
      have hbl := Below.refl w'.heap.size w'
      have h1 : IntKind.i64.wrap (2 * ((hf m r : Nat) : Int)) = ((2 * hf m r : Nat) : Int) := by rw [IntWalk.i64_in _ (by have := B4.out; omega)]; omega
      go_simp
      first | exact rfl | exact ⟨rfl, hbl⟩ | exact ⟨rfl, hw', hbl⟩
    simp only [Act.put, sqA, sqB, sqC]
    apply bldR (tGe _ _)
    · rfl
    · rfl
    · exact fun w' hw' => hw'.blk.whole
    simp only [Act.put, sqA, sqB, sqC]
    apply wpB_val
    · rfl
    · intro w' hw'
      go_simp
      exact (nodes_any _ _ w').mono fun e w5 h => ⟨h.1, hw'.on h.2, h.2⟩
    simp only [Act.put, sqA, sqB, sqC]
    rw [L_good hg]
    apply wpB_val
    · rfl
    · intro w' hw'
      have hbl := Below.refl w'.heap.size w'
      go_simp
      first | exact rfl | exact ⟨rfl, hbl⟩ | exact ⟨rfl, hw', hbl⟩
    simp only [Act.put, sqA, sqB, sqC]
    apply wpB_val
    · rfl
    · intro w' hw'
      have hbl := Below.refl w'.heap.size w'
      have h1 : _ = _ := hw'.c1
      go_simp
      first | exact rfl | exact ⟨rfl, hbl⟩ | exact ⟨rfl, hw', hbl⟩
    simp only [Act.put, sqA, sqB, sqC]
    apply wpB_val
    · rfl
    · intro w' hw'
      have hbl := Below.refl w'.heap.size w'
      go_simp
      first | exact rfl | exact ⟨rfl, hbl⟩ | exact ⟨rfl, hw', hbl⟩
    simp only [Act.put, sqA, sqB, sqC]
    refine wpB_nil fun z w5 hw5 z5 hz => ?_
    have R5 := hid (R1.out.below hw5.bel R1.out.lt)
    have B5 := hid (A1.out.bel.trans (hw5.bel.mono A1.out.bel.size))
    have Z5 := hid z5
    have HZ := hid (show w.heap.size + 1 ≠ z by have := R1.out.lt; omega)
    have HZ2 := hid (show w.heap.size ≤ z by have := R1.out.lt; omega)
    clear hw5 A1 R1 z5 hz
    unfold ptr
    apply stR (tZ _ _ _ _ _)
    · rfl
    · rfl
    · exact Z5.out
    · rfl
    · exact one5 _ _ _ _ _
    generalize hw6 : World.setRow _ _ _ = w6
    have Z6 := hid (show Blk w6 z tyZ #[.int .i64 0, .int .i64 8, .int .i64 (2 * (hf m r : Nat)), .int .i64 (nd m r : Nat), .int .i64 r] by rw [← hw6]; exact Z5.out.setRow_same _)
    have R6 := hid (show Blk w6 (w.heap.size + 1) tyS _ by rw [← hw6]; exact R5.out.setRow_other HZ.out.symm _)
    have B6 := hid (show Below w.heap.size w w6 by rw [← hw6]; exact below_setRow B5.out HZ2.out _)
    clear hw6 Z5 R5 B5 HZ HZ2
    obtain ⟨z2, hz2⟩ : ∃ z2, z2 = w6.heap.size := ⟨_, rfl⟩
    go_wp2_with ((with_reducible apply ldR (tZ _ _ _ _ _)); rfl; exact (Z6.out.alloc _).whole)
    generalize hw7 : World.alloc w6 _ = w7
    have S7 := hid (show Blk w7 z2 tyS (pr m r 0) by rw [← hw7, hz2]; exact Blk.new _ _ _)
    have R7 := hid (show Blk w7 (w.heap.size + 1) tyS _ by rw [← hw7]; exact R6.out.alloc _)
    have B7 := hid (show Below w.heap.size w w7 by rw [← hw7]; exact B6.out.alloc B6.out.size _)
    have HZ := hid (show z2 ≠ w.heap.size + 1 by have := R6.out.lt; omega)
    have HZ2 := hid (show w.heap.size ≤ z2 by have := B6.out.size; omega)
    rw [← hz2]
    clear hw7 Z6 R6 B6 hz2
    go_loopw [20] (fun u wr => ∃ k : Nat, u = .int .i64 k ∧ k ≤ 5 ∧ Hid (Blk wr z2 tyS (pr m r k)) ∧ Hid (Blk wr (w.heap.size + 1) tyS #[.int .i64 0, .int .i64 0, .int .i64 0, .int .i64 0, .int .i64 0, .int .i64 0]) ∧ Hid (Below w.heap.size w wr)) (fun u _ => 5 - (intOf u).toNat)
    case atStart => exact ⟨0, rfl, by omega, S7, R7, B7⟩
    case round =>
      obtain ⟨k, rfl, hk, HS, HR, HB⟩ := hrel
      clear S7 R7 B7
      have hk' : k = 0 ∨ k = 1 ∨ k = 2 ∨ k = 3 ∨ k = 4 ∨ k = 5 := by omega
      rcases hk' with rfl | rfl | rfl | rfl | rfl | rfl
      · have q1 : wr.cell? ⟨z2, 0, none⟩ = some (.int .i64 0) := HS.out.cell 0
        have q2 : wr.cell? ⟨z2, 1, none⟩ = some (.int .i64 0) := HS.out.cell 1
        have q3 := HS.out.frozen 1
        have b3 := B3.out
        have b4 := B4.out
        go_wp2_with ((with_reducible apply ixI (k := 0) Tryz.underlying176); decide; rfl; rfl; rfl)
        go_roundw
        case rel =>
          refine ⟨1, by go_num, by omega, hid ?_, hid (HR.out.setCell_other (p := ⟨z2, 1, none⟩) HZ.out _), hid (HB.out.setCell HZ2.out _)⟩
          have h := HS.out.setCell_same 1 (.int .i64 0)
          simpa [pr] using h
        case measure => simp [intOf]
      · have q1 : wr.cell? ⟨z2, 1, none⟩ = some (.int .i64 0) := HS.out.cell 1
        have q2 : wr.cell? ⟨z2, 2, none⟩ = some (.int .i64 0) := HS.out.cell 2
        have q3 := HS.out.frozen 2
        have b3 := B3.out
        have b4 := B4.out
        go_wp2_with ((with_reducible apply ixI (k := 1) Tryz.underlying176); decide; rfl; rfl; rfl)
        go_roundw
        case rel =>
          refine ⟨2, by go_num, by omega, hid ?_, hid (HR.out.setCell_other (p := ⟨z2, 2, none⟩) HZ.out _), hid (HB.out.setCell HZ2.out _)⟩
          have h := HS.out.setCell_same 2 (.int .i64 8)
          simpa [pr] using h
        case measure => simp [intOf]
      · have q1 : wr.cell? ⟨z2, 2, none⟩ = some (.int .i64 8) := HS.out.cell 2
        have q2 : wr.cell? ⟨z2, 3, none⟩ = some (.int .i64 0) := HS.out.cell 3
        have q3 := HS.out.frozen 3
        have b3 := B3.out
        have b4 := B4.out
        go_wp2_with ((with_reducible apply ixI (k := 2) Tryz.underlying176); decide; rfl; rfl; rfl)
        go_roundw
        case rel =>
          refine ⟨3, by go_num, by omega, hid ?_, hid (HR.out.setCell_other (p := ⟨z2, 3, none⟩) HZ.out _), hid (HB.out.setCell HZ2.out _)⟩
          have h := HS.out.setCell_same 3 (.int .i64 (8 + 2 * (hf m r : Nat)))
          simpa [pr] using h
        case measure => simp [intOf]
      · have q1 : wr.cell? ⟨z2, 3, none⟩ = some (.int .i64 (8 + 2 * (hf m r : Nat))) := HS.out.cell 3
        have q2 : wr.cell? ⟨z2, 4, none⟩ = some (.int .i64 0) := HS.out.cell 4
        have q3 := HS.out.frozen 4
        have b3 := B3.out
        have b4 := B4.out
        go_wp2_with ((with_reducible apply ixI (k := 3) Tryz.underlying176); decide; rfl; rfl; rfl)
        go_roundw
        case rel =>
          refine ⟨4, by go_num, by omega, hid ?_, hid (HR.out.setCell_other (p := ⟨z2, 4, none⟩) HZ.out _), hid (HB.out.setCell HZ2.out _)⟩
          have h := HS.out.setCell_same 4 (.int .i64 (8 + 2 * (hf m r : Nat) + (nd m r : Nat)))
          simpa [pr] using h
        case measure => simp [intOf]
      · have q1 : wr.cell? ⟨z2, 4, none⟩ = some (.int .i64 (8 + 2 * (hf m r : Nat) + (nd m r : Nat))) := HS.out.cell 4
        have q2 : wr.cell? ⟨z2, 5, none⟩ = some (.int .i64 0) := HS.out.cell 5
        have q3 := HS.out.frozen 5
        have b3 := B3.out
        have b4 := B4.out
        go_wp2_with ((with_reducible apply ixI (k := 4) Tryz.underlying176); decide; rfl; rfl; rfl)
        go_roundw
        case rel =>
          refine ⟨5, by go_num, by omega, hid ?_, hid (HR.out.setCell_other (p := ⟨z2, 5, none⟩) HZ.out _), hid (HB.out.setCell HZ2.out _)⟩
          have h := HS.out.setCell_same 5 (.int .i64 (8 + 2 * (hf m r : Nat) + (nd m r : Nat) + r))
          simpa [pr] using h
        case measure => simp [intOf]
      · go_upto_region 1 with (first | ((with_reducible apply ldR (tSt _ _ _ _ _ _)); rfl; exact HS.out.whole) | ((with_reducible apply stR (tSt _ _ _ _ _ _)); rfl; rfl; exact HR.out; rfl; exact one6 _ _ _ _ _ _))
        generalize hw8 : World.setRow _ _ _ = w8
        have R8 := hid (show Blk w8 (w.heap.size + 1) tyS (sv m r) by rw [← hw8, sv_good hg]; exact HR.out.setRow_same _)
        have B8 := hid (show Below w.heap.size w w8 by rw [← hw8]; exact below_setRow HB.out (Nat.le_succ _) _)
        clear hw8 HR HS HB
        go_wp2_with fail
        refine ret_row rfl R8.out Tryz.underlying137 rfl (by kernel_rfl) rfl rfl ?_
        exact ⟨rfl, B8.out⟩
  · unfold gv
    go_enter Tryz.func52, Tryz.ntmps52
    go_wp2_with fail
    refine (check_any _ _ _).mono ?_
    rw [if_neg hg]
    rintro e w1 ⟨rfl, h1⟩
    have A1 := hid (((At.new w a b).on (below_al _)).on h1)
    have R1 := hid (show Blk w1 (w.heap.size + 1) tyS #[.int .i64 0, .int .i64 0, .int .i64 0, .int .i64 0, .int .i64 0, .int .i64 0] from (Blk.top (w := w.alloc (.cells #[.int .i64 a, .int .i64 b] tyG)) rfl (by simp)).below h1 (by simp))
    clear h1
    go_wp2_with ((with_reducible apply stR (tSt _ _ _ _ _ _)); rfl; rfl; exact R1.out; rfl; exact one6 _ _ _ _ _ _)
    generalize hw2 : World.setRow _ _ _ = w2
    have R2 := hid (show Blk w2 (w.heap.size + 1) tyS #[.int .i64 0, .int .i64 0, .int .i64 0, .int .i64 0, .int .i64 0, .int .i64 0] by rw [← hw2]; exact R1.out.setRow_same _)
    have B2 := hid (show Below w.heap.size w w2 by rw [← hw2]; exact below_setRow A1.out.bel (Nat.le_succ _) _)
    clear hw2 A1 R1
    simp only [Act.put]
    refine ret_row rfl R2.out Tryz.underlying137 rfl (by kernel_rfl) rfl rfl ?_
    rw [sv_bad hg]
    exact ⟨rfl, B2.out⟩
end GeM
end Go.Proofs.YtklmjdhhnnanoaaGreatDoor
set_option maxRecDepth 100000
namespace Go.Proofs.YtklmjdhhnnanoaaGreatDoor
open Go.ChangeShapes Go.WideShapes Go.ChangeAt Go.RowKit
attribute [local go_sem] Gives
namespace GeM
def plV (o : Option Nat) : Value := match o with
  | some p => .tuple #[.int .i64 p, .int .i64 0]
  | none => .tuple #[.int .i64 0, .int .i64 2]
theorem pl_none {a b k i : Int} (h : ¬ (Good a b ∧ 1 ≤ k ∧ k ≤ 4 ∧ (lw k : Int) ≤ i ∧ i - lw k < sz a.toNat b.toNat k.toNat)) : pl a b k i = none := by unfold pl; rw [if_neg h]
theorem L_le {f : Nat → Nat → Nat} {a b : Int} {n : Nat} (h : ∀ {m r : Nat}, Good m r → f m r ≤ n) : L f a b ≤ n := by
  by_cases hg : Good a b
  · obtain ⟨m, r, rfl, rfl, _⟩ := good_nat hg
    rw [L_good hg]
    exact h hg
  · rw [L_bad hg]; omega
theorem st_le {m r k : Nat} (h : Good m r) : st m r k ≤ 20000 := by
  have h5 := sec_bd h
  unfold sec at h5
  rw [st_5] at h5
  by_cases e : k = 2 ∨ k = 3 ∨ k = 4 ∨ k = 5
  · rcases e with rfl | rfl | rfl | rfl
    · rw [st_2]; omega
    · rw [st_3]; omega
    · rw [st_4]; omega
    · rw [st_5]; omega
  · have : st m r k = 0 := by
      unfold st
      split <;> first | omega | rfl
    omega
theorem st_up {a b : Int} {k : Nat} (h1 : 1 ≤ k) (h4 : k ≤ 4) : L (st · · k) a b ≤ L (st · · (k + 1)) a b ∧ L (st · · (k + 1)) a b ≤ 20000 := by
  by_cases hg : Good a b
  · obtain ⟨m, r, rfl, rfl, _⟩ := good_nat hg
    rw [L_good hg, L_good hg]
    exact ⟨by rw [st_sz m r h1 h4]; omega, st_le hg⟩
  · rw [L_bad hg, L_bad hg]; omega
theorem pl_L {k : Nat} (h1 : 1 ≤ k) (h4 : k ≤ 4) (a b i : Int) : pl a b k i = if (lw k : Int) ≤ i ∧ i - lw k < (L (st · · (k + 1)) a b : Int) - L (st · · k) a b then some (L (st · · k) a b + (i - lw k).toNat) else none := by
  by_cases hg : Good a b
  · obtain ⟨m, r, rfl, rfl, _⟩ := good_nat hg
    rw [L_good hg, L_good hg]
    have hz := st_sz m r h1 h4
    unfold pl
    simp only [Int.toNat_natCast]
    by_cases hc : (lw k : Int) ≤ i ∧ i - lw k < (st m r (k + 1) : Int) - st m r k
    · rw [if_pos hc, if_pos ⟨hg, by omega, by omega, hc.1, by omega⟩]
    · rw [if_neg hc, if_neg fun e => hc ⟨e.2.2.2.1, by have := e.2.2.2.2; omega⟩]
  · rw [L_bad hg, L_bad hg, pl_none fun e => hg e.1, if_neg (by omega)]
set_option maxHeartbeats 800000 in
theorem place_any (a b k i : Int) (hi : -9223372036854775808 ≤ i ∧ i ≤ 9223372036854775807) (w : World) : Calls Tryz.prog 19 #[gv a b, .int .i64 k, .int .i64 i] w fun e w' => e = .returned (plV (pl a b k i)) ∧ Below w.heap.size w w' := by
  by_cases h1 : k < 1
  · rw [pl_none (by omega)]
    unfold gv
    go_enter Tryz.func19, Tryz.ntmps19
    go_wp2_with fail
    go_ret2
    exact ⟨rfl, below_al _⟩
  by_cases h4 : 4 < k
  · rw [pl_none (by omega)]
    unfold gv
    go_enter Tryz.func19, Tryz.ntmps19
    go_wp2_with fail
    go_ret2
    exact ⟨rfl, below_al _⟩
  have hk : k = 1 ∨ k = 2 ∨ k = 3 ∨ k = 4 := by omega
  clear h1 h4
  rcases hk with rfl | rfl | rfl | rfl
  · obtain ⟨x, hx⟩ : ∃ x, x = L (st · · 1) a b := ⟨_, rfl⟩
    obtain ⟨y, hy⟩ : ∃ y, y = L (st · · 2) a b := ⟨_, rfl⟩
    have hp : pl a b 1 i = if (0 : Int) ≤ i ∧ i - 0 < (y : Int) - x then some (x + (i - 0).toNat) else none := by rw [hx, hy]; exact pl_L (k := 1) (by omega) (by omega) a b i
    have hb : x ≤ y ∧ y ≤ 20000 := by rw [hx, hy]; exact @st_up a b 1 (by omega) (by omega)
    have hl : ((lw 1 : Nat) : Int) = 0 := rfl
    have HX := hid hx
    have HY := hid hy
    have HP := hid hp
    obtain ⟨b1, b2⟩ := hb
    clear hp hx hy
    unfold gv
    go_enter Tryz.func19, Tryz.ntmps19
    go_wp2_with ((with_reducible apply ldR (cs := #[Value.int .i64 a, .int .i64 b]) (tGe _ _)); rfl; exact (At.new w a b).blk.whole)
    refine (of_any _ _ _).mono ?_
    rintro e w1 ⟨rfl, h1⟩
    have A1 := hid ((At.new w a b).on h1)
    clear h1
    go_wp2_with fail
    refine (lowest_any _ _).mono ?_
    rintro e w2 ⟨rfl, rfl⟩
    rw [hl]
    unfold sv
    rw [← HX.out, ← HY.out]
    clear hl
    go_upto_region 4 with ((with_reducible apply stR (tSt _ _ _ _ _ _)); rfl; rfl; exact Blk.new _ _ _; rfl; exact one6 _ _ _ _ _ _)
    generalize hw3 : World.setRow _ _ _ = w3
    obtain ⟨z, hz⟩ : ∃ z, z = w1.heap.size := ⟨_, rfl⟩
    have S3 := hid (show Blk w3 z tyS _ by rw [← hw3, hz]; exact (Blk.new w1 _ _).setRow_same _)
    have B3 := hid (show Below w.heap.size w w3 by rw [← hw3]; exact below_setRow (A1.out.bel.alloc A1.out.bel.size _) A1.out.bel.size _)
    have Q1 := hid (show ∀ w', Below w3.heap.size w3 w' → w'.cell? ⟨z, 1, none⟩ = some (.int .i64 x) from fun w' h => (S3.out.below h S3.out.lt).cell 1)
    have Q2 := hid (show ∀ w', Below w3.heap.size w3 w' → w'.cell? ⟨z, 2, none⟩ = some (.int .i64 y) from fun w' h => (S3.out.below h S3.out.lt).cell 2)
    rw [← hz]
    clear hw3 hz A1 S3 HX HY
    refine wp_region_tail (C := fun w' => Below w3.heap.size w3 w') 16 (by kernel_rfl) (by kernel_rfl) (by kernel_rfl) (Below.refl _ _).drew ?_
    simp only [List.take_succ_cons, List.take_zero, List.drop_succ_cons, List.drop_zero]
    by_cases hlt : i < 0
    · have HD := hid (show decide (i < 0) = true by simp [hlt])
      have HL := hid hlt
      clear hlt b1 b2
      apply wpK_val
      · rfl
      · intro w' hw'
        go_simp
        first | exact rfl | exact ⟨rfl, hw'⟩
      simp only [Act.put, sqA, sqB, sqC]
      apply wpK_val
      · rfl
      · intro w' hw'
        go_simp
        first | exact rfl | exact ⟨rfl, hw'⟩
      simp only [Act.put, sqA, sqB, sqC]
      apply wpK_val
      · rfl
      · intro w' hw'
        have h1 : _ = _ := HD.out
        go_simp
        first | exact rfl | exact ⟨rfl, hw'⟩
      simp only [Act.put, sqA, sqB, sqC]
      apply wpK_val
      · rfl
      · intro w' hw'
        go_simp
        first | exact rfl | exact ⟨rfl, hw'⟩
      simp only [Act.put, sqA, sqB, sqC]
      apply wpK_not
      · rfl
      simp only [Act.put, sqA, sqB, sqC]
      apply wpK_not
      · rfl
      simp only [Act.put, sqA, sqB, sqC]
      apply wpK_not
      · rfl
      simp only [Act.put, sqA, sqB, sqC]
      apply wpK_not
      · rfl
      simp only [Act.put, sqA, sqB, sqC]
      apply wpK_not
      · rfl
      simp only [Act.put, sqA, sqB, sqC]
      apply wpK_not
      · rfl
      simp only [Act.put, sqA, sqB, sqC]
      apply wpK_not
      · rfl
      simp only [Act.put, sqA, sqB, sqC]
      apply wpK_not
      · rfl
      simp only [Act.put, sqA, sqB, sqC]
      apply wpK_not
      · rfl
      simp only [Act.put, sqA, sqB, sqC]
      apply wpK_not
      · rfl
      simp only [Act.put, sqA, sqB, sqC]
      apply wpK_not
      · rfl
      simp only [Act.put, sqA, sqB, sqC]
      apply wpK_not
      · rfl
      simp only [Act.put, sqA, sqB, sqC]
      refine wpK_nil fun w5 hw5 => ?_
      have B5 := hid (B3.out.trans (hw5.mono B3.out.size))
      clear hw5 HD Q1 Q2 B3
      go_wp2_with fail
      go_ret2
      rw [HP.out]
      exact ⟨by rw [if_neg (by have := HL.out; omega)]; rfl, B5.out⟩
    · have HD := hid (show decide (i < 0) = false by simp [hlt])
      have HL := hid hlt
      have HI := hid hi
      have hw : IntKind.i64.wrap (i) = i := IntWalk.i64_in _ (by omega)
      have hu : IntKind.i64.wrap ((y : Int) - x) = (y : Int) - x := IntWalk.i64_in _ (by omega)
      have HW := hid hw
      have HU := hid hu
      clear hlt hw hu hi
      apply wpK_val
      · rfl
      · intro w' hw'
        go_simp
        first | exact rfl | exact ⟨rfl, hw'⟩
      simp only [Act.put, sqA, sqB, sqC]
      apply wpK_val
      · rfl
      · intro w' hw'
        go_simp
        first | exact rfl | exact ⟨rfl, hw'⟩
      simp only [Act.put, sqA, sqB, sqC]
      apply wpK_val
      · rfl
      · intro w' hw'
        have h1 : _ = _ := HD.out
        go_simp
        first | exact rfl | exact ⟨rfl, hw'⟩
      simp only [Act.put, sqA, sqB, sqC]
      apply wpK_val
      · rfl
      · intro w' hw'
        go_simp
        first | exact rfl | exact ⟨rfl, hw'⟩
      simp only [Act.put, sqA, sqB, sqC]
      apply wpK_val
      · rfl
      · intro w' hw'
        go_simp
        first | exact rfl | exact ⟨rfl, hw'⟩
      simp only [Act.put, sqA, sqB, sqC]
      apply wpK_val
      · rfl
      · intro w' hw'
        go_simp
        first | exact rfl | exact ⟨rfl, hw'⟩
      simp only [Act.put, sqA, sqB, sqC]
      apply wpK_val
      · rfl
      · intro w' hw'
        have h1 : _ = _ := HW.out
        go_simp
        first | exact rfl | exact ⟨rfl, hw'⟩
      simp only [Act.put, sqA, sqB, sqC]
      apply wpK_val
      · rfl
      · intro w' hw'
        go_simp
        first | exact rfl | exact ⟨rfl, hw'⟩
      simp only [Act.put, sqA, sqB, sqC]
      apply wpK_val
      · rfl
      · intro w' hw'
        have h1 : IntKind.i64.wrap 2 = 2 := rfl
        go_simp
        first | exact rfl | exact ⟨rfl, hw'⟩
      simp only [Act.put, sqA, sqB, sqC]
      apply wpK_val
      · rfl
      · intro w' hw'
        go_simp
        first | exact rfl | exact ⟨rfl, hw'⟩
      simp only [Act.put, sqA, sqB, sqC]
      apply wpK_val
      · rfl
      · intro w' hw'
        have hcell := Q2.out w' hw'
        go_simp
        first | exact rfl | exact ⟨rfl, hw'⟩
      simp only [Act.put, sqA, sqB, sqC]
      apply wpK_val
      · rfl
      · intro w' hw'
        go_simp
        first | exact rfl | exact ⟨rfl, hw'⟩
      simp only [Act.put, sqA, sqB, sqC]
      apply wpK_val
      · rfl
      · intro w' hw'
        go_simp
        first | exact rfl | exact ⟨rfl, hw'⟩
      simp only [Act.put, sqA, sqB, sqC]
      apply wpK_val
      · rfl
      · intro w' hw'
        have hcell := Q1.out w' hw'
        go_simp
        first | exact rfl | exact ⟨rfl, hw'⟩
      simp only [Act.put, sqA, sqB, sqC]
      apply wpK_val
      · rfl
      · intro w' hw'
        have h1 : _ = _ := HU.out
        go_simp
        first | exact rfl | exact ⟨rfl, hw'⟩
      simp only [Act.put, sqA, sqB, sqC]
      by_cases hc : (y : Int) - x ≤ i
      · have HC := hid hc
        have HD2 := hid (show decide ((y : Int) - x ≤ i) = true by simp [hc])
        clear hc
        apply wpK_val
        · rfl
        · intro w' hw'
          have h1 : _ = _ := HD2.out
          go_simp
          first | exact rfl | exact ⟨rfl, hw'⟩
        simp only [Act.put, sqA, sqB, sqC]
        refine wpK_nil fun w5 hw5 => ?_
        have B5 := hid (B3.out.trans (hw5.mono B3.out.size))
        clear hw5 HD HD2 Q1 Q2 B3
        go_wp2_with fail
        go_ret2
        rw [HP.out]
        exact ⟨by rw [if_neg (by have := HC.out; omega)]; rfl, B5.out⟩
      · have HC := hid hc
        have HD2 := hid (show decide ((y : Int) - x ≤ i) = false by simp [hc])
        have c1 : 0 ≤ i := by have := HL.out; omega
        have c2 : i ≤ 30000 := by omega
        clear hc
        apply wpK_val
        · rfl
        · intro w' hw'
          have h1 : _ = _ := HD2.out
          go_simp
          first | exact rfl | exact ⟨rfl, hw'⟩
        simp only [Act.put, sqA, sqB, sqC]
        refine wpK_nil fun w5 hw5 => ?_
        have B5 := hid (B3.out.trans (hw5.mono B3.out.size))
        have q1 := Q1.out w5 hw5
        clear hw5 HD HD2 Q1 Q2 B3
        go_wp2_with fail
        go_ret2
        rw [HP.out]
        refine ⟨?_, B5.out⟩
        rw [if_pos (by have := HC.out; omega)]
        unfold plV
        refine congrArg (fun v : Int => Ending.returned (.tuple #[.int .i64 v, .int .i64 0])) ?_
        have := HC.out
        omega
  · obtain ⟨x, hx⟩ : ∃ x, x = L (st · · 2) a b := ⟨_, rfl⟩
    obtain ⟨y, hy⟩ : ∃ y, y = L (st · · 3) a b := ⟨_, rfl⟩
    have hp : pl a b 2 i = if (0 : Int) ≤ i ∧ i - 0 < (y : Int) - x then some (x + (i - 0).toNat) else none := by rw [hx, hy]; exact pl_L (k := 2) (by omega) (by omega) a b i
    have hb : x ≤ y ∧ y ≤ 20000 := by rw [hx, hy]; exact @st_up a b 2 (by omega) (by omega)
    have hl : ((lw 2 : Nat) : Int) = 0 := rfl
    have HX := hid hx
    have HY := hid hy
    have HP := hid hp
    obtain ⟨b1, b2⟩ := hb
    clear hp hx hy
    unfold gv
    go_enter Tryz.func19, Tryz.ntmps19
    go_wp2_with ((with_reducible apply ldR (cs := #[Value.int .i64 a, .int .i64 b]) (tGe _ _)); rfl; exact (At.new w a b).blk.whole)
    refine (of_any _ _ _).mono ?_
    rintro e w1 ⟨rfl, h1⟩
    have A1 := hid ((At.new w a b).on h1)
    clear h1
    go_wp2_with fail
    refine (lowest_any _ _).mono ?_
    rintro e w2 ⟨rfl, rfl⟩
    rw [hl]
    unfold sv
    rw [← HX.out, ← HY.out]
    clear hl
    go_upto_region 4 with ((with_reducible apply stR (tSt _ _ _ _ _ _)); rfl; rfl; exact Blk.new _ _ _; rfl; exact one6 _ _ _ _ _ _)
    generalize hw3 : World.setRow _ _ _ = w3
    obtain ⟨z, hz⟩ : ∃ z, z = w1.heap.size := ⟨_, rfl⟩
    have S3 := hid (show Blk w3 z tyS _ by rw [← hw3, hz]; exact (Blk.new w1 _ _).setRow_same _)
    have B3 := hid (show Below w.heap.size w w3 by rw [← hw3]; exact below_setRow (A1.out.bel.alloc A1.out.bel.size _) A1.out.bel.size _)
    have Q1 := hid (show ∀ w', Below w3.heap.size w3 w' → w'.cell? ⟨z, 2, none⟩ = some (.int .i64 x) from fun w' h => (S3.out.below h S3.out.lt).cell 2)
    have Q2 := hid (show ∀ w', Below w3.heap.size w3 w' → w'.cell? ⟨z, 3, none⟩ = some (.int .i64 y) from fun w' h => (S3.out.below h S3.out.lt).cell 3)
    rw [← hz]
    clear hw3 hz A1 S3 HX HY
    refine wp_region_tail (C := fun w' => Below w3.heap.size w3 w') 16 (by kernel_rfl) (by kernel_rfl) (by kernel_rfl) (Below.refl _ _).drew ?_
    simp only [List.take_succ_cons, List.take_zero, List.drop_succ_cons, List.drop_zero]
    by_cases hlt : i < 0
    · have HD := hid (show decide (i < 0) = true by simp [hlt])
      have HL := hid hlt
      clear hlt b1 b2
      apply wpK_val
      · rfl
      · intro w' hw'
        go_simp
        first | exact rfl | exact ⟨rfl, hw'⟩
      simp only [Act.put, sqA, sqB, sqC]
      apply wpK_val
      · rfl
      · intro w' hw'
        go_simp
        first | exact rfl | exact ⟨rfl, hw'⟩
      simp only [Act.put, sqA, sqB, sqC]
      apply wpK_val
      · rfl
      · intro w' hw'
        have h1 : _ = _ := HD.out
        go_simp
        first | exact rfl | exact ⟨rfl, hw'⟩
      simp only [Act.put, sqA, sqB, sqC]
      apply wpK_val
      · rfl
      · intro w' hw'
        go_simp
        first | exact rfl | exact ⟨rfl, hw'⟩
      simp only [Act.put, sqA, sqB, sqC]
      apply wpK_not
      · rfl
      simp only [Act.put, sqA, sqB, sqC]
      apply wpK_not
      · rfl
      simp only [Act.put, sqA, sqB, sqC]
      apply wpK_not
      · rfl
      simp only [Act.put, sqA, sqB, sqC]
      apply wpK_not
      · rfl
      simp only [Act.put, sqA, sqB, sqC]
      apply wpK_not
      · rfl
      simp only [Act.put, sqA, sqB, sqC]
      apply wpK_not
      · rfl
      simp only [Act.put, sqA, sqB, sqC]
      apply wpK_not
      · rfl
      simp only [Act.put, sqA, sqB, sqC]
      apply wpK_not
      · rfl
      simp only [Act.put, sqA, sqB, sqC]
      apply wpK_not
      · rfl
      simp only [Act.put, sqA, sqB, sqC]
      apply wpK_not
      · rfl
      simp only [Act.put, sqA, sqB, sqC]
      apply wpK_not
      · rfl
      simp only [Act.put, sqA, sqB, sqC]
      apply wpK_not
      · rfl
      simp only [Act.put, sqA, sqB, sqC]
      refine wpK_nil fun w5 hw5 => ?_
      have B5 := hid (B3.out.trans (hw5.mono B3.out.size))
      clear hw5 HD Q1 Q2 B3
      go_wp2_with fail
      go_ret2
      rw [HP.out]
      exact ⟨by rw [if_neg (by have := HL.out; omega)]; rfl, B5.out⟩
    · have HD := hid (show decide (i < 0) = false by simp [hlt])
      have HL := hid hlt
      have HI := hid hi
      have hw : IntKind.i64.wrap (i) = i := IntWalk.i64_in _ (by omega)
      have hu : IntKind.i64.wrap ((y : Int) - x) = (y : Int) - x := IntWalk.i64_in _ (by omega)
      have HW := hid hw
      have HU := hid hu
      clear hlt hw hu hi
      apply wpK_val
      · rfl
      · intro w' hw'
        go_simp
        first | exact rfl | exact ⟨rfl, hw'⟩
      simp only [Act.put, sqA, sqB, sqC]
      apply wpK_val
      · rfl
      · intro w' hw'
        go_simp
        first | exact rfl | exact ⟨rfl, hw'⟩
      simp only [Act.put, sqA, sqB, sqC]
      apply wpK_val
      · rfl
      · intro w' hw'
        have h1 : _ = _ := HD.out
        go_simp
        first | exact rfl | exact ⟨rfl, hw'⟩
      simp only [Act.put, sqA, sqB, sqC]
      apply wpK_val
      · rfl
      · intro w' hw'
        go_simp
        first | exact rfl | exact ⟨rfl, hw'⟩
      simp only [Act.put, sqA, sqB, sqC]
      apply wpK_val
      · rfl
      · intro w' hw'
        go_simp
        first | exact rfl | exact ⟨rfl, hw'⟩
      simp only [Act.put, sqA, sqB, sqC]
      apply wpK_val
      · rfl
      · intro w' hw'
        go_simp
        first | exact rfl | exact ⟨rfl, hw'⟩
      simp only [Act.put, sqA, sqB, sqC]
      apply wpK_val
      · rfl
      · intro w' hw'
        have h1 : _ = _ := HW.out
        go_simp
        first | exact rfl | exact ⟨rfl, hw'⟩
      simp only [Act.put, sqA, sqB, sqC]
      apply wpK_val
      · rfl
      · intro w' hw'
        go_simp
        first | exact rfl | exact ⟨rfl, hw'⟩
      simp only [Act.put, sqA, sqB, sqC]
      apply wpK_val
      · rfl
      · intro w' hw'
        have h1 : IntKind.i64.wrap 3 = 3 := rfl
        go_simp
        first | exact rfl | exact ⟨rfl, hw'⟩
      simp only [Act.put, sqA, sqB, sqC]
      apply wpK_val
      · rfl
      · intro w' hw'
        go_simp
        first | exact rfl | exact ⟨rfl, hw'⟩
      simp only [Act.put, sqA, sqB, sqC]
      apply wpK_val
      · rfl
      · intro w' hw'
        have hcell := Q2.out w' hw'
        go_simp
        first | exact rfl | exact ⟨rfl, hw'⟩
      simp only [Act.put, sqA, sqB, sqC]
      apply wpK_val
      · rfl
      · intro w' hw'
        go_simp
        first | exact rfl | exact ⟨rfl, hw'⟩
      simp only [Act.put, sqA, sqB, sqC]
      apply wpK_val
      · rfl
      · intro w' hw'
        go_simp
        first | exact rfl | exact ⟨rfl, hw'⟩
      simp only [Act.put, sqA, sqB, sqC]
      apply wpK_val
      · rfl
      · intro w' hw'
        have hcell := Q1.out w' hw'
        go_simp
        first | exact rfl | exact ⟨rfl, hw'⟩
      simp only [Act.put, sqA, sqB, sqC]
      apply wpK_val
      · rfl
      · intro w' hw'
        have h1 : _ = _ := HU.out
        go_simp
        first | exact rfl | exact ⟨rfl, hw'⟩
      simp only [Act.put, sqA, sqB, sqC]
      by_cases hc : (y : Int) - x ≤ i
      · have HC := hid hc
        have HD2 := hid (show decide ((y : Int) - x ≤ i) = true by simp [hc])
        clear hc
        apply wpK_val
        · rfl
        · intro w' hw'
          have h1 : _ = _ := HD2.out
          go_simp
          first | exact rfl | exact ⟨rfl, hw'⟩
        simp only [Act.put, sqA, sqB, sqC]
        refine wpK_nil fun w5 hw5 => ?_
        have B5 := hid (B3.out.trans (hw5.mono B3.out.size))
        clear hw5 HD HD2 Q1 Q2 B3
        go_wp2_with fail
        go_ret2
        rw [HP.out]
        exact ⟨by rw [if_neg (by have := HC.out; omega)]; rfl, B5.out⟩
      · have HC := hid hc
        have HD2 := hid (show decide ((y : Int) - x ≤ i) = false by simp [hc])
        have c1 : 0 ≤ i := by have := HL.out; omega
        have c2 : i ≤ 30000 := by omega
        clear hc
        apply wpK_val
        · rfl
        · intro w' hw'
          have h1 : _ = _ := HD2.out
          go_simp
          first | exact rfl | exact ⟨rfl, hw'⟩
        simp only [Act.put, sqA, sqB, sqC]
        refine wpK_nil fun w5 hw5 => ?_
        have B5 := hid (B3.out.trans (hw5.mono B3.out.size))
        have q1 := Q1.out w5 hw5
        clear hw5 HD HD2 Q1 Q2 B3
        go_wp2_with fail
        go_ret2
        rw [HP.out]
        refine ⟨?_, B5.out⟩
        rw [if_pos (by have := HC.out; omega)]
        unfold plV
        refine congrArg (fun v : Int => Ending.returned (.tuple #[.int .i64 v, .int .i64 0])) ?_
        have := HC.out
        omega
  · obtain ⟨x, hx⟩ : ∃ x, x = L (st · · 3) a b := ⟨_, rfl⟩
    obtain ⟨y, hy⟩ : ∃ y, y = L (st · · 4) a b := ⟨_, rfl⟩
    have hp : pl a b 3 i = if (1 : Int) ≤ i ∧ i - 1 < (y : Int) - x then some (x + (i - 1).toNat) else none := by rw [hx, hy]; exact pl_L (k := 3) (by omega) (by omega) a b i
    have hb : x ≤ y ∧ y ≤ 20000 := by rw [hx, hy]; exact @st_up a b 3 (by omega) (by omega)
    have hl : ((lw 3 : Nat) : Int) = 1 := rfl
    have HX := hid hx
    have HY := hid hy
    have HP := hid hp
    obtain ⟨b1, b2⟩ := hb
    clear hp hx hy
    unfold gv
    go_enter Tryz.func19, Tryz.ntmps19
    go_wp2_with ((with_reducible apply ldR (cs := #[Value.int .i64 a, .int .i64 b]) (tGe _ _)); rfl; exact (At.new w a b).blk.whole)
    refine (of_any _ _ _).mono ?_
    rintro e w1 ⟨rfl, h1⟩
    have A1 := hid ((At.new w a b).on h1)
    clear h1
    go_wp2_with fail
    refine (lowest_any _ _).mono ?_
    rintro e w2 ⟨rfl, rfl⟩
    rw [hl]
    unfold sv
    rw [← HX.out, ← HY.out]
    clear hl
    go_upto_region 4 with ((with_reducible apply stR (tSt _ _ _ _ _ _)); rfl; rfl; exact Blk.new _ _ _; rfl; exact one6 _ _ _ _ _ _)
    generalize hw3 : World.setRow _ _ _ = w3
    obtain ⟨z, hz⟩ : ∃ z, z = w1.heap.size := ⟨_, rfl⟩
    have S3 := hid (show Blk w3 z tyS _ by rw [← hw3, hz]; exact (Blk.new w1 _ _).setRow_same _)
    have B3 := hid (show Below w.heap.size w w3 by rw [← hw3]; exact below_setRow (A1.out.bel.alloc A1.out.bel.size _) A1.out.bel.size _)
    have Q1 := hid (show ∀ w', Below w3.heap.size w3 w' → w'.cell? ⟨z, 3, none⟩ = some (.int .i64 x) from fun w' h => (S3.out.below h S3.out.lt).cell 3)
    have Q2 := hid (show ∀ w', Below w3.heap.size w3 w' → w'.cell? ⟨z, 4, none⟩ = some (.int .i64 y) from fun w' h => (S3.out.below h S3.out.lt).cell 4)
    rw [← hz]
    clear hw3 hz A1 S3 HX HY
    refine wp_region_tail (C := fun w' => Below w3.heap.size w3 w') 16 (by kernel_rfl) (by kernel_rfl) (by kernel_rfl) (Below.refl _ _).drew ?_
    simp only [List.take_succ_cons, List.take_zero, List.drop_succ_cons, List.drop_zero]
    by_cases hlt : i < 1
    · have HD := hid (show decide (i < 1) = true by simp [hlt])
      have HL := hid hlt
      clear hlt b1 b2
      apply wpK_val
      · rfl
      · intro w' hw'
        go_simp
        first | exact rfl | exact ⟨rfl, hw'⟩
      simp only [Act.put, sqA, sqB, sqC]
      apply wpK_val
      · rfl
      · intro w' hw'
        go_simp
        first | exact rfl | exact ⟨rfl, hw'⟩
      simp only [Act.put, sqA, sqB, sqC]
      apply wpK_val
      · rfl
      · intro w' hw'
        have h1 : _ = _ := HD.out
        go_simp
        first | exact rfl | exact ⟨rfl, hw'⟩
      simp only [Act.put, sqA, sqB, sqC]
      apply wpK_val
      · rfl
      · intro w' hw'
        go_simp
        first | exact rfl | exact ⟨rfl, hw'⟩
      simp only [Act.put, sqA, sqB, sqC]
      apply wpK_not
      · rfl
      simp only [Act.put, sqA, sqB, sqC]
      apply wpK_not
      · rfl
      simp only [Act.put, sqA, sqB, sqC]
      apply wpK_not
      · rfl
      simp only [Act.put, sqA, sqB, sqC]
      apply wpK_not
      · rfl
      simp only [Act.put, sqA, sqB, sqC]
      apply wpK_not
      · rfl
      simp only [Act.put, sqA, sqB, sqC]
      apply wpK_not
      · rfl
      simp only [Act.put, sqA, sqB, sqC]
      apply wpK_not
      · rfl
      simp only [Act.put, sqA, sqB, sqC]
      apply wpK_not
      · rfl
      simp only [Act.put, sqA, sqB, sqC]
      apply wpK_not
      · rfl
      simp only [Act.put, sqA, sqB, sqC]
      apply wpK_not
      · rfl
      simp only [Act.put, sqA, sqB, sqC]
      apply wpK_not
      · rfl
      simp only [Act.put, sqA, sqB, sqC]
      apply wpK_not
      · rfl
      simp only [Act.put, sqA, sqB, sqC]
      refine wpK_nil fun w5 hw5 => ?_
      have B5 := hid (B3.out.trans (hw5.mono B3.out.size))
      clear hw5 HD Q1 Q2 B3
      go_wp2_with fail
      go_ret2
      rw [HP.out]
      exact ⟨by rw [if_neg (by have := HL.out; omega)]; rfl, B5.out⟩
    · have HD := hid (show decide (i < 1) = false by simp [hlt])
      have HL := hid hlt
      have HI := hid hi
      have hw : IntKind.i64.wrap (i - 1) = i - 1 := IntWalk.i64_in _ (by omega)
      have hu : IntKind.i64.wrap ((y : Int) - x) = (y : Int) - x := IntWalk.i64_in _ (by omega)
      have HW := hid hw
      have HU := hid hu
      clear hlt hw hu hi
      apply wpK_val
      · rfl
      · intro w' hw'
        go_simp
        first | exact rfl | exact ⟨rfl, hw'⟩
      simp only [Act.put, sqA, sqB, sqC]
      apply wpK_val
      · rfl
      · intro w' hw'
        go_simp
        first | exact rfl | exact ⟨rfl, hw'⟩
      simp only [Act.put, sqA, sqB, sqC]
      apply wpK_val
      · rfl
      · intro w' hw'
        have h1 : _ = _ := HD.out
        go_simp
        first | exact rfl | exact ⟨rfl, hw'⟩
      simp only [Act.put, sqA, sqB, sqC]
      apply wpK_val
      · rfl
      · intro w' hw'
        go_simp
        first | exact rfl | exact ⟨rfl, hw'⟩
      simp only [Act.put, sqA, sqB, sqC]
      apply wpK_val
      · rfl
      · intro w' hw'
        go_simp
        first | exact rfl | exact ⟨rfl, hw'⟩
      simp only [Act.put, sqA, sqB, sqC]
      apply wpK_val
      · rfl
      · intro w' hw'
        go_simp
        first | exact rfl | exact ⟨rfl, hw'⟩
      simp only [Act.put, sqA, sqB, sqC]
      apply wpK_val
      · rfl
      · intro w' hw'
        have h1 : _ = _ := HW.out
        go_simp
        first | exact rfl | exact ⟨rfl, hw'⟩
      simp only [Act.put, sqA, sqB, sqC]
      apply wpK_val
      · rfl
      · intro w' hw'
        go_simp
        first | exact rfl | exact ⟨rfl, hw'⟩
      simp only [Act.put, sqA, sqB, sqC]
      apply wpK_val
      · rfl
      · intro w' hw'
        have h1 : IntKind.i64.wrap 4 = 4 := rfl
        go_simp
        first | exact rfl | exact ⟨rfl, hw'⟩
      simp only [Act.put, sqA, sqB, sqC]
      apply wpK_val
      · rfl
      · intro w' hw'
        go_simp
        first | exact rfl | exact ⟨rfl, hw'⟩
      simp only [Act.put, sqA, sqB, sqC]
      apply wpK_val
      · rfl
      · intro w' hw'
        have hcell := Q2.out w' hw'
        go_simp
        first | exact rfl | exact ⟨rfl, hw'⟩
      simp only [Act.put, sqA, sqB, sqC]
      apply wpK_val
      · rfl
      · intro w' hw'
        go_simp
        first | exact rfl | exact ⟨rfl, hw'⟩
      simp only [Act.put, sqA, sqB, sqC]
      apply wpK_val
      · rfl
      · intro w' hw'
        go_simp
        first | exact rfl | exact ⟨rfl, hw'⟩
      simp only [Act.put, sqA, sqB, sqC]
      apply wpK_val
      · rfl
      · intro w' hw'
        have hcell := Q1.out w' hw'
        go_simp
        first | exact rfl | exact ⟨rfl, hw'⟩
      simp only [Act.put, sqA, sqB, sqC]
      apply wpK_val
      · rfl
      · intro w' hw'
        have h1 : _ = _ := HU.out
        go_simp
        first | exact rfl | exact ⟨rfl, hw'⟩
      simp only [Act.put, sqA, sqB, sqC]
      by_cases hc : (y : Int) - x ≤ i - 1
      · have HC := hid hc
        have HD2 := hid (show decide ((y : Int) - x ≤ i - 1) = true by simp [hc])
        clear hc
        apply wpK_val
        · rfl
        · intro w' hw'
          have h1 : _ = _ := HD2.out
          go_simp
          first | exact rfl | exact ⟨rfl, hw'⟩
        simp only [Act.put, sqA, sqB, sqC]
        refine wpK_nil fun w5 hw5 => ?_
        have B5 := hid (B3.out.trans (hw5.mono B3.out.size))
        clear hw5 HD HD2 Q1 Q2 B3
        go_wp2_with fail
        go_ret2
        rw [HP.out]
        exact ⟨by rw [if_neg (by have := HC.out; omega)]; rfl, B5.out⟩
      · have HC := hid hc
        have HD2 := hid (show decide ((y : Int) - x ≤ i - 1) = false by simp [hc])
        have c1 : 1 ≤ i := by have := HL.out; omega
        have c2 : i ≤ 30000 := by omega
        clear hc
        apply wpK_val
        · rfl
        · intro w' hw'
          have h1 : _ = _ := HD2.out
          go_simp
          first | exact rfl | exact ⟨rfl, hw'⟩
        simp only [Act.put, sqA, sqB, sqC]
        refine wpK_nil fun w5 hw5 => ?_
        have B5 := hid (B3.out.trans (hw5.mono B3.out.size))
        have q1 := Q1.out w5 hw5
        clear hw5 HD HD2 Q1 Q2 B3
        go_wp2_with fail
        go_ret2
        rw [HP.out]
        refine ⟨?_, B5.out⟩
        rw [if_pos (by have := HC.out; omega)]
        unfold plV
        refine congrArg (fun v : Int => Ending.returned (.tuple #[.int .i64 v, .int .i64 0])) ?_
        have := HC.out
        omega
  · obtain ⟨x, hx⟩ : ∃ x, x = L (st · · 4) a b := ⟨_, rfl⟩
    obtain ⟨y, hy⟩ : ∃ y, y = L (st · · 5) a b := ⟨_, rfl⟩
    have hp : pl a b 4 i = if (0 : Int) ≤ i ∧ i - 0 < (y : Int) - x then some (x + (i - 0).toNat) else none := by rw [hx, hy]; exact pl_L (k := 4) (by omega) (by omega) a b i
    have hb : x ≤ y ∧ y ≤ 20000 := by rw [hx, hy]; exact @st_up a b 4 (by omega) (by omega)
    have hl : ((lw 4 : Nat) : Int) = 0 := rfl
    have HX := hid hx
    have HY := hid hy
    have HP := hid hp
    obtain ⟨b1, b2⟩ := hb
    clear hp hx hy
    unfold gv
    go_enter Tryz.func19, Tryz.ntmps19
    go_wp2_with ((with_reducible apply ldR (cs := #[Value.int .i64 a, .int .i64 b]) (tGe _ _)); rfl; exact (At.new w a b).blk.whole)
    refine (of_any _ _ _).mono ?_
    rintro e w1 ⟨rfl, h1⟩
    have A1 := hid ((At.new w a b).on h1)
    clear h1
    go_wp2_with fail
    refine (lowest_any _ _).mono ?_
    rintro e w2 ⟨rfl, rfl⟩
    rw [hl]
    unfold sv
    rw [← HX.out, ← HY.out]
    clear hl
    go_upto_region 4 with ((with_reducible apply stR (tSt _ _ _ _ _ _)); rfl; rfl; exact Blk.new _ _ _; rfl; exact one6 _ _ _ _ _ _)
    generalize hw3 : World.setRow _ _ _ = w3
    obtain ⟨z, hz⟩ : ∃ z, z = w1.heap.size := ⟨_, rfl⟩
    have S3 := hid (show Blk w3 z tyS _ by rw [← hw3, hz]; exact (Blk.new w1 _ _).setRow_same _)
    have B3 := hid (show Below w.heap.size w w3 by rw [← hw3]; exact below_setRow (A1.out.bel.alloc A1.out.bel.size _) A1.out.bel.size _)
    have Q1 := hid (show ∀ w', Below w3.heap.size w3 w' → w'.cell? ⟨z, 4, none⟩ = some (.int .i64 x) from fun w' h => (S3.out.below h S3.out.lt).cell 4)
    have Q2 := hid (show ∀ w', Below w3.heap.size w3 w' → w'.cell? ⟨z, 5, none⟩ = some (.int .i64 y) from fun w' h => (S3.out.below h S3.out.lt).cell 5)
    rw [← hz]
    clear hw3 hz A1 S3 HX HY
    refine wp_region_tail (C := fun w' => Below w3.heap.size w3 w') 16 (by kernel_rfl) (by kernel_rfl) (by kernel_rfl) (Below.refl _ _).drew ?_
    simp only [List.take_succ_cons, List.take_zero, List.drop_succ_cons, List.drop_zero]
    by_cases hlt : i < 0
    · have HD := hid (show decide (i < 0) = true by simp [hlt])
      have HL := hid hlt
      clear hlt b1 b2
      apply wpK_val
      · rfl
      · intro w' hw'
        go_simp
        first | exact rfl | exact ⟨rfl, hw'⟩
      simp only [Act.put, sqA, sqB, sqC]
      apply wpK_val
      · rfl
      · intro w' hw'
        go_simp
        first | exact rfl | exact ⟨rfl, hw'⟩
      simp only [Act.put, sqA, sqB, sqC]
      apply wpK_val
      · rfl
      · intro w' hw'
        have h1 : _ = _ := HD.out
        go_simp
        first | exact rfl | exact ⟨rfl, hw'⟩
      simp only [Act.put, sqA, sqB, sqC]
      apply wpK_val
      · rfl
      · intro w' hw'
        go_simp
        first | exact rfl | exact ⟨rfl, hw'⟩
      simp only [Act.put, sqA, sqB, sqC]
      apply wpK_not
      · rfl
      simp only [Act.put, sqA, sqB, sqC]
      apply wpK_not
      · rfl
      simp only [Act.put, sqA, sqB, sqC]
      apply wpK_not
      · rfl
      simp only [Act.put, sqA, sqB, sqC]
      apply wpK_not
      · rfl
      simp only [Act.put, sqA, sqB, sqC]
      apply wpK_not
      · rfl
      simp only [Act.put, sqA, sqB, sqC]
      apply wpK_not
      · rfl
      simp only [Act.put, sqA, sqB, sqC]
      apply wpK_not
      · rfl
      simp only [Act.put, sqA, sqB, sqC]
      apply wpK_not
      · rfl
      simp only [Act.put, sqA, sqB, sqC]
      apply wpK_not
      · rfl
      simp only [Act.put, sqA, sqB, sqC]
      apply wpK_not
      · rfl
      simp only [Act.put, sqA, sqB, sqC]
      apply wpK_not
      · rfl
      simp only [Act.put, sqA, sqB, sqC]
      apply wpK_not
      · rfl
      simp only [Act.put, sqA, sqB, sqC]
      refine wpK_nil fun w5 hw5 => ?_
      have B5 := hid (B3.out.trans (hw5.mono B3.out.size))
      clear hw5 HD Q1 Q2 B3
      go_wp2_with fail
      go_ret2
      rw [HP.out]
      exact ⟨by rw [if_neg (by have := HL.out; omega)]; rfl, B5.out⟩
    · have HD := hid (show decide (i < 0) = false by simp [hlt])
      have HL := hid hlt
      have HI := hid hi
      have hw : IntKind.i64.wrap (i) = i := IntWalk.i64_in _ (by omega)
      have hu : IntKind.i64.wrap ((y : Int) - x) = (y : Int) - x := IntWalk.i64_in _ (by omega)
      have HW := hid hw
      have HU := hid hu
      clear hlt hw hu hi
      apply wpK_val
      · rfl
      · intro w' hw'
        go_simp
        first | exact rfl | exact ⟨rfl, hw'⟩
      simp only [Act.put, sqA, sqB, sqC]
      apply wpK_val
      · rfl
      · intro w' hw'
        go_simp
        first | exact rfl | exact ⟨rfl, hw'⟩
      simp only [Act.put, sqA, sqB, sqC]
      apply wpK_val
      · rfl
      · intro w' hw'
        have h1 : _ = _ := HD.out
        go_simp
        first | exact rfl | exact ⟨rfl, hw'⟩
      simp only [Act.put, sqA, sqB, sqC]
      apply wpK_val
      · rfl
      · intro w' hw'
        go_simp
        first | exact rfl | exact ⟨rfl, hw'⟩
      simp only [Act.put, sqA, sqB, sqC]
      apply wpK_val
      · rfl
      · intro w' hw'
        go_simp
        first | exact rfl | exact ⟨rfl, hw'⟩
      simp only [Act.put, sqA, sqB, sqC]
      apply wpK_val
      · rfl
      · intro w' hw'
        go_simp
        first | exact rfl | exact ⟨rfl, hw'⟩
      simp only [Act.put, sqA, sqB, sqC]
      apply wpK_val
      · rfl
      · intro w' hw'
        have h1 : _ = _ := HW.out
        go_simp
        first | exact rfl | exact ⟨rfl, hw'⟩
      simp only [Act.put, sqA, sqB, sqC]
      apply wpK_val
      · rfl
      · intro w' hw'
        go_simp
        first | exact rfl | exact ⟨rfl, hw'⟩
      simp only [Act.put, sqA, sqB, sqC]
      apply wpK_val
      · rfl
      · intro w' hw'
        have h1 : IntKind.i64.wrap 5 = 5 := rfl
        go_simp
        first | exact rfl | exact ⟨rfl, hw'⟩
      simp only [Act.put, sqA, sqB, sqC]
      apply wpK_val
      · rfl
      · intro w' hw'
        go_simp
        first | exact rfl | exact ⟨rfl, hw'⟩
      simp only [Act.put, sqA, sqB, sqC]
      apply wpK_val
      · rfl
      · intro w' hw'
        have hcell := Q2.out w' hw'
        go_simp
        first | exact rfl | exact ⟨rfl, hw'⟩
      simp only [Act.put, sqA, sqB, sqC]
      apply wpK_val
      · rfl
      · intro w' hw'
        go_simp
        first | exact rfl | exact ⟨rfl, hw'⟩
      simp only [Act.put, sqA, sqB, sqC]
      apply wpK_val
      · rfl
      · intro w' hw'
        go_simp
        first | exact rfl | exact ⟨rfl, hw'⟩
      simp only [Act.put, sqA, sqB, sqC]
      apply wpK_val
      · rfl
      · intro w' hw'
        have hcell := Q1.out w' hw'
        go_simp
        first | exact rfl | exact ⟨rfl, hw'⟩
      simp only [Act.put, sqA, sqB, sqC]
      apply wpK_val
      · rfl
      · intro w' hw'
        have h1 : _ = _ := HU.out
        go_simp
        first | exact rfl | exact ⟨rfl, hw'⟩
      simp only [Act.put, sqA, sqB, sqC]
      by_cases hc : (y : Int) - x ≤ i
      · have HC := hid hc
        have HD2 := hid (show decide ((y : Int) - x ≤ i) = true by simp [hc])
        clear hc
        apply wpK_val
        · rfl
        · intro w' hw'
          have h1 : _ = _ := HD2.out
          go_simp
          first | exact rfl | exact ⟨rfl, hw'⟩
        simp only [Act.put, sqA, sqB, sqC]
        refine wpK_nil fun w5 hw5 => ?_
        have B5 := hid (B3.out.trans (hw5.mono B3.out.size))
        clear hw5 HD HD2 Q1 Q2 B3
        go_wp2_with fail
        go_ret2
        rw [HP.out]
        exact ⟨by rw [if_neg (by have := HC.out; omega)]; rfl, B5.out⟩
      · have HC := hid hc
        have HD2 := hid (show decide ((y : Int) - x ≤ i) = false by simp [hc])
        have c1 : 0 ≤ i := by have := HL.out; omega
        have c2 : i ≤ 30000 := by omega
        clear hc
        apply wpK_val
        · rfl
        · intro w' hw'
          have h1 : _ = _ := HD2.out
          go_simp
          first | exact rfl | exact ⟨rfl, hw'⟩
        simp only [Act.put, sqA, sqB, sqC]
        refine wpK_nil fun w5 hw5 => ?_
        have B5 := hid (B3.out.trans (hw5.mono B3.out.size))
        have q1 := Q1.out w5 hw5
        clear hw5 HD HD2 Q1 Q2 B3
        go_wp2_with fail
        go_ret2
        rw [HP.out]
        refine ⟨?_, B5.out⟩
        rw [if_pos (by have := HC.out; omega)]
        unfold plV
        refine congrArg (fun v : Int => Ending.returned (.tuple #[.int .i64 v, .int .i64 0])) ?_
        have := HC.out
        omega
end GeM
end Go.Proofs.YtklmjdhhnnanoaaGreatDoor
set_option maxRecDepth 100000
namespace Go.Proofs.YtklmjdhhnnanoaaGreatDoor
open Go.ChangeShapes Go.WideShapes Go.ChangeAt Go.RowKit
attribute [local go_sem] Gives
namespace GeM
def ar' (a b p : Int) : Int := if p < 0 then -1 else if Good a b ∧ p < L sec a b then rg a b p else -2
def cv (a b : Int) (k : Nat) : Int := if k = 0 then 0 else (L (st · · k) a b : Nat)
end GeM
end Go.Proofs.YtklmjdhhnnanoaaGreatDoor
set_option maxRecDepth 100000
namespace Go.Proofs.YtklmjdhhnnanoaaGreatDoor
open Go.ChangeShapes Go.WideShapes Go.ChangeAt Go.RowKit
attribute [local go_sem] Gives
namespace GeM
def whV (o : Option (Nat × Nat)) : Value := match o with
  | some q => .tuple #[.int .i64 q.1, .int .i64 q.2, .int .i64 0]
  | none => .tuple #[.int .i64 0, .int .i64 0, .int .i64 2]
end GeM
end Go.Proofs.YtklmjdhhnnanoaaGreatDoor
set_option maxRecDepth 100000
namespace Go.Proofs.YtklmjdhhnnanoaaGreatDoor
open Go.ChangeShapes Go.WideShapes Go.ChangeAt Go.RowKit
attribute [local go_sem] Gives
namespace GeM
set_option maxHeartbeats 400000 in
theorem rcheck_any (a b : Int) (w : World) : Calls Tryz.prog 69 #[gv a b] w fun e w' => e = .returned (.int .i64 (if Good a b then 0 else 2)) ∧ Below w.heap.size w w' := by
  obtain ⟨c, hc⟩ : ∃ c : Int, c = if Good a b then 0 else 2 := ⟨_, rfl⟩
  rw [← hc]
  have HC := hid hc
  clear hc
  unfold gv
  go_enter Tryz.func69, Tryz.ntmps69
  go_wp2_with fail
  all_goals
    go_ret
    refine ⟨ret_i ?_, below_al _⟩
    have hc := HC.out
    clear HC
    simp only [Good] at hc
    first | (simp_all; done) | (simp_all; omega) | omega
set_option maxHeartbeats 400000 in
theorem rleaves_any : Tells 141 (L lv) := fun a b w => by
  by_cases hg : Good a b
  · obtain ⟨m, r, rfl, rfl, h1, h2, h3, h4⟩ := good_nat hg
    have hl := lv_bd hg
    rw [L_good hg]
    obtain ⟨n, hn⟩ : ∃ n, n = lv m r := ⟨_, rfl⟩
    have HN := hid (show (m : Int) * r = (n : Nat) by rw [hn]; unfold lv; push_cast; rfl)
    rw [← hn] at hl ⊢
    clear h1 h2 h3 h4
    unfold gv
    go_enter Tryz.func141, Tryz.ntmps141
    go_wp2_with fail
    refine (rcheck_any _ _ _).mono ?_
    rw [if_pos hg]
    rintro e w1 ⟨rfl, h1⟩
    have A1 := hid ((At.new w m r).on h1)
    have q0 := A1.out.c0
    have q1 := A1.out.c1
    clear h1
    go_wp2_with fail
    rw [HN.out]
    go_wp2_with fail
    go_ret
    exact ⟨ret_i (IntWalk.wrap64_in _ (by omega)), A1.out.bel⟩
  · rw [L_bad hg]
    unfold gv
    go_enter Tryz.func141, Tryz.ntmps141
    go_wp2_with fail
    refine (rcheck_any _ _ _).mono ?_
    rw [if_neg hg]
    rintro e w1 ⟨rfl, h1⟩
    have A1 := hid ((At.new w a b).on h1)
    clear h1
    go_wp2_with fail
    go_ret
    exact ⟨rfl, A1.out.bel⟩
set_option maxHeartbeats 400000 in
theorem rpower_any (h : Nat) (hh : h ≤ 12) (w : World) : Calls Tryz.prog 125 #[.int .i64 h] w fun e w' => e = .returned (.int .i64 (2 ^ h : Nat)) ∧ w = w' := by
  go_enter Tryz.func125, Tryz.ntmps125
  go_wp2_with fail
  go_loop [3, 4] (fun n i => ∃ k x : Nat, n = .int .i64 x ∧ i = .int .i64 k ∧ k ≤ h ∧ Hid (x = 2 ^ k)) (fun _ i => h - (intOf i).toNat)
  case atStart => exact ⟨0, 1, rfl, rfl, by omega, hid rfl⟩
  case round =>
    obtain ⟨k, x, rfl, rfl, hk, HX⟩ := hrel
    have hb : x ≤ 4096 := by
      have := Nat.pow_le_pow_right (show 0 < 2 by omega) (show k ≤ 12 by omega)
      rw [HX.out]; omega
    by_cases hgo : k < h
    · have t1 : (k : Int) < h := by omega
      go_wp2_with fail
      go_round
      case rel => exact ⟨k + 1, 2 * x, by go_num, by go_num, by omega, hid (by rw [HX.out, Nat.pow_succ]; omega)⟩
      case measure => simp [intOf] <;> omega
    · have t1 : ¬ (k : Int) < h := by omega
      go_wp2_with fail
      go_ret
      have : k = h := by omega
      subst this
      exact ⟨ret_i (congrArg (fun n : Nat => (n : Int)) HX.out), rfl⟩
set_option maxHeartbeats 800000 in
theorem rheight_any : Tells 126 (L ht) := fun a b w => by
  have hl : L lv a b ≤ 4096 ∧ (∀ k, k < L ht a b → 2 ^ k < L lv a b) ∧ L lv a b ≤ 2 ^ L ht a b ∧ L ht a b ≤ 12 := by
    by_cases hg : Good a b
    · obtain ⟨m, r, rfl, rfl, _⟩ := good_nat hg
      simp only [L_good hg]
      refine ⟨(lv_bd hg).2, fun k hk => ?_, ht_up hg, ht_bd hg⟩
      have h1 := ht_lo hg
      have := Nat.pow_le_pow_right (show 0 < 2 by omega) (show k ≤ ht m r - 1 by omega)
      omega
    · simp only [L_bad hg]
      exact ⟨by omega, fun k hk => absurd hk (Nat.not_lt_zero _), by omega, by omega⟩
  obtain ⟨n, hn⟩ : ∃ n, n = L lv a b := ⟨_, rfl⟩
  obtain ⟨t, ht'⟩ : ∃ t, t = L ht a b := ⟨_, rfl⟩
  rw [← hn, ← ht'] at hl
  rw [← ht']
  obtain ⟨l1, l2, l3, l4⟩ := hl
  have HL2 := hid l2
  have HL3 := hid l3
  have HN := hid hn
  clear l2 l3 hn ht'
  unfold gv
  go_enter Tryz.func126, Tryz.ntmps126
  go_wp2_with fail
  go_loopw [3] (fun u wr => ∃ k : Nat, u = .int .i64 k ∧ k ≤ t ∧ Hid (At w w.heap.size a b wr)) (fun u _ => t - (intOf u).toNat)
  case atStart => exact ⟨0, rfl, by omega, hid (At.new w a b)⟩
  case round =>
    obtain ⟨k, rfl, hk, HA⟩ := hrel
    go_wp2_with fail
    have HK := hid hk
    obtain ⟨x, hx⟩ : ∃ x, x = 2 ^ k := ⟨_, rfl⟩
    have HX := hid hx
    clear hx
    have hk12 := hid (show k ≤ 12 by omega)
    refine wp_region_tail (C := At w w.heap.size a b) 4 (by kernel_rfl) (by kernel_rfl) (by kernel_rfl) HA.out.drew ?_
    simp only [List.take_succ_cons, List.take_zero, List.drop_succ_cons, List.drop_zero]
    apply wpK_val
    · rfl
    · intro w' hw'
      go_simp
      first | exact rfl | exact ⟨rfl, hw'⟩
    simp only [Act.put, sqA, sqB, sqC]
    apply wpK_val
    · rfl
    · intro w' hw'
      go_simp
      exact (rpower_any k hk12.out w').mono fun e w5 h => ⟨h.1, h.2 ▸ hw'⟩
    simp only [Act.put, sqA, sqB, sqC]
    rw [← HX.out]
    apply kldR (tGe _ _)
    · rfl
    · rfl
    · exact fun w' hw' => hw'.blk.whole
    simp only [Act.put, sqA, sqB, sqC]
    apply wpK_val
    · rfl
    · intro w' hw'
      go_simp
      exact (rleaves_any _ _ w').mono fun e w5 h => ⟨h.1, hw'.on h.2⟩
    simp only [Act.put, sqA, sqB, sqC]
    refine wpK_nil fun w5 hw5 => ?_
    have A5 := hid hw5
    rw [← HN.out]
    clear hw5 HA
    by_cases hgo : k < t
    · have t1 : (x : Int) < (n : Int) := by have := HL2.out k hgo; have := HX.out; omega
      go_wp2_with fail
      go_roundw
      case rel => exact ⟨k + 1, by go_num, by omega, A5⟩
      case measure => simp [intOf] <;> omega
    · have e : k = t := by have := HK.out; omega
      subst e
      have t1 : ¬ (x : Int) < (n : Int) := by have := HL3.out; have := HX.out; omega
      go_wp2_with fail
      go_ret
      exact ⟨rfl, A5.out.bel⟩
theorem L_ht (a b : Int) : L ht a b ≤ 12 ∧ 2 ^ L ht a b = L nd a b + 1 := by
  by_cases hg : Good a b
  · obtain ⟨m, r, rfl, rfl, k1, k2, k3, k4⟩ := good_nat hg
    rw [L_good hg, L_good hg]
    exact ⟨ht_bd hg, (nd_eq hg).symm⟩
  · rw [L_bad hg, L_bad hg]
    exact ⟨by omega, rfl⟩
set_option maxHeartbeats 400000 in
theorem rnodes_any : Tells 100 (L nd) := fun a b w => by
  obtain ⟨h1, h2⟩ := L_ht a b
  have H1 := hid h1
  have H2 := hid h2
  clear h1 h2
  have hb : L nd a b ≤ 8190 := L_le fun h => (nd_bd h).2
  unfold gv
  go_enter Tryz.func100, Tryz.ntmps100
  go_wp2_with ((with_reducible apply ldR (cs := #[Value.int .i64 a, .int .i64 b]) (tGe _ _)); rfl; exact (At.new w a b).blk.whole)
  refine (rheight_any _ _ _).mono ?_
  rintro e w1 ⟨rfl, h1⟩
  have A1 := hid ((At.new w a b).on h1)
  clear h1
  go_wp2_with fail
  refine (rpower_any _ H1.out _).mono ?_
  rintro e w2 ⟨rfl, rfl⟩
  rw [H2.out]
  go_wp2_with fail
  go_ret
  exact ⟨ret_i (by omega), A1.out.bel⟩
set_option maxHeartbeats 800000 in
theorem rcapacity_any : Tells 124 (L cp) := fun a b w => by
  by_cases hg : Good a b
  · obtain ⟨m, r, rfl, rfl, k1, k2, k3, k4⟩ := good_nat hg
    rw [L_good hg]
    unfold gv
    go_enter Tryz.func124, Tryz.ntmps124
    go_wp2_with fail
    refine (rcheck_any _ _ _).mono ?_
    rw [if_pos hg]
    rintro e w1 ⟨rfl, h1⟩
    have A1 := hid ((At.new w m r).on h1)
    have q0 := A1.out.c0
    have q1 := A1.out.c1
    clear h1
    by_cases h6 : 6 < m
    · have hM : mx m = m := by unfold mx; rw [if_pos h6]
      have b2 := nd_bd hg
      have b3 := mh_bd hg
      have b4 := ht_bd hg
      obtain ⟨x, hx⟩ : ∃ x, x = m * ht m r := ⟨_, rfl⟩
      rw [hM, ← hx] at b3
      have hc : cp m r = m + (if nd m r < x then nd m r else x) + 8 := by rw [cp, hM, hx]
      have HQ := hid (show wrap64 ((m : Int) * ((ht m r : Nat) : Int)) = ((x : Nat) : Int) by rw [hx, Int.natCast_mul]; exact IntWalk.wrap64_in _ (by rw [show ((m : Int) * ((ht m r : Nat) : Int)) = ((m * ht m r : Nat) : Int) by push_cast; rfl, ← hx]; omega))
      have X1 := hid hx
      have HC := hid hc
      have t6 : (6 : Int) < m := by omega
      clear hx hc hM
      go_wp2_with ((with_reducible apply ldR (cs := #[Value.int .i64 m, .int .i64 r]) (tGe _ _)); rfl; exact A1.out.blk.whole)
      refine (rheight_any _ _ _).mono ?_
      rw [L_good hg]
      rintro e w2 ⟨rfl, h2⟩
      have A2 := hid (A1.out.on h2)
      clear h2 A1 q0 q1
      
      go_wp2_with ((with_reducible apply ldR (cs := #[Value.int .i64 m, .int .i64 r]) (tGe _ _)); rfl; exact A2.out.blk.whole)
      refine (rnodes_any _ _ _).mono ?_
      rw [L_good hg]
      rintro e w3 ⟨rfl, h3⟩
      have A3 := hid (A2.out.on h3)
      clear h3 A2
      rw [HQ.out]
      by_cases hn : nd m r < x
      · rw [if_pos hn] at HC
        have t7 : ((nd m r : Nat) : Int) < x := by omega
        go_wp2_with ((with_reducible apply ldR (cs := #[Value.int .i64 m, .int .i64 r]) (tGe _ _)); rfl; exact A3.out.blk.whole)
        refine (rnodes_any _ _ _).mono ?_
        rw [L_good hg]
        rintro e w4 ⟨rfl, h4⟩
        have A4 := hid (A3.out.on h4)
        clear h4 A3
        go_wp2_with fail
        go_ret
        exact ⟨ret_i (by have := HC.out; omega), A4.out.bel⟩
      · rw [if_neg hn] at HC
        have t7 : ¬ ((nd m r : Nat) : Int) < x := by omega
        go_wp2_with fail
        go_ret
        exact ⟨ret_i (by have := HC.out; omega), A3.out.bel⟩
    · have hM : mx m = 6 := by unfold mx; rw [if_neg h6]
      have b2 := nd_bd hg
      have b3 := mh_bd hg
      have b4 := ht_bd hg
      obtain ⟨x, hx⟩ : ∃ x, x = 6 * ht m r := ⟨_, rfl⟩
      rw [hM, ← hx] at b3
      have hc : cp m r = 6 + (if nd m r < x then nd m r else x) + 8 := by rw [cp, hM, hx]
      have HQ := hid (show wrap64 (6 * ((ht m r : Nat) : Int)) = ((x : Nat) : Int) by rw [hx, Int.natCast_mul]; exact IntWalk.wrap64_in _ (by rw [show (6 * ((ht m r : Nat) : Int)) = ((6 * ht m r : Nat) : Int) by push_cast; rfl, ← hx]; omega))
      have X1 := hid hx
      have HC := hid hc
      have t6 : ¬ (6 : Int) < m := by omega
      clear hx hc hM
      go_wp2_with ((with_reducible apply ldR (cs := #[Value.int .i64 m, .int .i64 r]) (tGe _ _)); rfl; exact A1.out.blk.whole)
      refine (rheight_any _ _ _).mono ?_
      rw [L_good hg]
      rintro e w2 ⟨rfl, h2⟩
      have A2 := hid (A1.out.on h2)
      clear h2 A1 q0 q1
      have b5 : ((6 * ht m r : Nat) : Int) = x := by rw [X1.out]
      go_wp2_with ((with_reducible apply ldR (cs := #[Value.int .i64 m, .int .i64 r]) (tGe _ _)); rfl; exact A2.out.blk.whole)
      refine (rnodes_any _ _ _).mono ?_
      rw [L_good hg]
      rintro e w3 ⟨rfl, h3⟩
      have A3 := hid (A2.out.on h3)
      clear h3 A2
      rw [show (6 : Int) * ((ht m r : Nat) : Int) = (x : Nat) by rw [← b5]; push_cast; rfl]
      by_cases hn : nd m r < x
      · rw [if_pos hn] at HC
        have t7 : ((nd m r : Nat) : Int) < x := by omega
        go_wp2_with ((with_reducible apply ldR (cs := #[Value.int .i64 m, .int .i64 r]) (tGe _ _)); rfl; exact A3.out.blk.whole)
        refine (rnodes_any _ _ _).mono ?_
        rw [L_good hg]
        rintro e w4 ⟨rfl, h4⟩
        have A4 := hid (A3.out.on h4)
        clear h4 A3
        go_wp2_with fail
        go_ret
        exact ⟨ret_i (by have := HC.out; omega), A4.out.bel⟩
      · rw [if_neg hn] at HC
        have t7 : ¬ ((nd m r : Nat) : Int) < x := by omega
        go_wp2_with fail
        go_ret
        exact ⟨ret_i (by have := HC.out; omega), A3.out.bel⟩
  · rw [L_bad hg]
    unfold gv
    go_enter Tryz.func124, Tryz.ntmps124
    go_wp2_with fail
    refine (rcheck_any _ _ _).mono ?_
    rw [if_neg hg]
    rintro e w1 ⟨rfl, h1⟩
    have A1 := hid ((At.new w a b).on h1)
    clear h1
    go_wp2_with fail
    go_ret
    exact ⟨rfl, A1.out.bel⟩
set_option maxHeartbeats 800000 in
theorem rhalf_any : Tells 99 (L hf) := fun a b w => by
  by_cases hg : Good a b
  · obtain ⟨m, r, rfl, rfl, k1, k2, k3, k4⟩ := good_nat hg
    rw [L_good hg]
    obtain ⟨c, hc⟩ : ∃ c, c = cp m r := ⟨_, rfl⟩
    have hb := cp_bd hg
    have hh : hf m r = 2 + (69 * c + 63) / 64 := by rw [hf, hc]
    rw [← hc] at hb
    rw [hh]
    have HC := hid hc
    clear hc hh
    unfold gv
    go_enter Tryz.func99, Tryz.ntmps99
    go_wp2_with fail
    refine (rcheck_any _ _ _).mono ?_
    rw [if_pos hg]
    rintro e w1 ⟨rfl, h1⟩
    have A1 := hid ((At.new w m r).on h1)
    clear h1
    go_wp2_with fail
    go_loopw [3] (fun u wr => ∃ k : Nat, u = .int .i64 k ∧ k ≤ (69 * c + 63) / 64 ∧ Hid (At w w.heap.size m r wr)) (fun u _ => 2000 - (intOf u).toNat)
    case atStart => exact ⟨0, rfl, by omega, A1⟩
    case round =>
      obtain ⟨k, rfl, hk, HA⟩ := hrel
      go_wp2_with ((with_reducible apply ldR (cs := #[Value.int .i64 m, .int .i64 r]) (tGe _ _)); rfl; exact HA.out.blk.whole)
      refine (rcapacity_any _ _ _).mono ?_
      rw [L_good hg]
      rintro e w2 ⟨rfl, h2⟩
      have A2 := hid (HA.out.on h2)
      clear h2 HA
      rw [← HC.out]
      by_cases hgo : 64 * k < 69 * c
      · have t1 : 64 * (k : Int) < 69 * (c : Int) := by omega
        go_wp2_with fail
        go_roundw
        case rel => exact ⟨k + 1, by go_num, by omega, A2⟩
        case measure => simp [intOf] <;> omega
      · have t1 : ¬ 64 * (k : Int) < 69 * (c : Int) := by omega
        go_wp2_with fail
        go_ret
        exact ⟨ret_i (by omega), A2.out.bel⟩
  · rw [L_bad hg]
    unfold gv
    go_enter Tryz.func99, Tryz.ntmps99
    go_wp2_with fail
    refine (rcheck_any _ _ _).mono ?_
    rw [if_neg hg]
    rintro e w1 ⟨rfl, h1⟩
    have A1 := hid ((At.new w a b).on h1)
    clear h1
    go_wp2_with fail
    go_ret
    exact ⟨rfl, A1.out.bel⟩
set_option maxHeartbeats 800000 in
theorem rcount_any {m r k : Nat} (hg : Good m r) (h1 : 1 ≤ k) (h4 : k ≤ 4) (w : World) : Calls Tryz.prog 70 #[gv m r, .int .i64 k] w fun e w' => e = .returned (.int .i64 (sz m r k)) ∧ Below w.heap.size w w' := by
  have hk : k = 1 ∨ k = 2 ∨ k = 3 ∨ k = 4 := by omega
  have b1 := hf_bd hg
  clear h1 h4
  rcases hk with rfl | rfl | rfl | rfl
  · unfold gv
    go_enter Tryz.func70, Tryz.ntmps70
    go_wp2_with fail
    go_ret
    exact ⟨rfl, below_al _⟩
  · unfold gv
    rw [sz_2]
    go_enter Tryz.func70, Tryz.ntmps70
    go_wp2_with ((with_reducible apply ldR (cs := #[Value.int .i64 m, .int .i64 r]) (tGe _ _)); rfl; exact (At.new w m r).blk.whole)
    refine (rhalf_any _ _ _).mono ?_
    rw [L_good hg]
    rintro e w2 ⟨rfl, h2⟩
    have A2 := hid ((At.new w m r).on h2)
    clear h2
    go_wp2_with fail
    go_ret
    exact ⟨ret_i (by omega), A2.out.bel⟩
  · unfold gv
    rw [sz_3]
    go_enter Tryz.func70, Tryz.ntmps70
    go_wp2_with ((with_reducible apply ldR (cs := #[Value.int .i64 m, .int .i64 r]) (tGe _ _)); rfl; exact (At.new w m r).blk.whole)
    refine (rnodes_any _ _ _).mono ?_
    rw [L_good hg]
    rintro e w2 ⟨rfl, h2⟩
    have A2 := hid ((At.new w m r).on h2)
    clear h2
    go_wp2_with fail
    go_ret
    exact ⟨rfl, A2.out.bel⟩
  · unfold gv
    rw [sz_4]
    go_enter Tryz.func70, Tryz.ntmps70
    go_wp2_with fail
    go_ret
    exact ⟨rfl, below_al _⟩
theorem sz_le {m r k : Nat} (hg : Good m r) (h1 : 1 ≤ k) (h4 : k ≤ 4) : sz m r k ≤ 20000 := by
  have := st_sz m r h1 h4
  have := @st_le m r (k + 1) hg
  omega
set_option maxHeartbeats 800000 in
theorem rsectors_any : Tells 31 (L sec) := fun a b w => by
  by_cases hg : Good a b
  · obtain ⟨m, r, rfl, rfl, k1, k2, k3, k4⟩ := good_nat hg
    rw [L_good hg]
    unfold gv
    go_enter Tryz.func31, Tryz.ntmps31
    go_wp2_with fail
    refine (rcheck_any _ _ _).mono ?_
    rw [if_pos hg]
    rintro e w1 ⟨rfl, h1⟩
    have A1 := hid ((At.new w m r).on h1)
    clear h1
    go_wp2_with fail
    go_loopw [3, 4] (fun n u wr => ∃ k x : Nat, n = .int .i64 x ∧ u = .int .i64 k ∧ 1 ≤ k ∧ k ≤ 5 ∧ Hid (x = st m r k) ∧ Hid (At w w.heap.size m r wr)) (fun _ u _ => 5 - (intOf u).toNat)
    case atStart => exact ⟨1, 0, rfl, rfl, by omega, by omega, hid rfl, A1⟩
    case round =>
      obtain ⟨k, x, rfl, rfl, hk, hk5, HX, HA⟩ := hrel
      by_cases hgo : k ≤ 4
      · have t1 : (k : Int) ≤ 4 := by omega
        have b1 := @st_le m r k hg
        have b2 := sz_le hg hk hgo
        have b3 := st_sz m r hk hgo
        have b4 := HX.out
        have HK := hid hk
        go_wp2_with ((with_reducible apply ldR (cs := #[Value.int .i64 m, .int .i64 r]) (tGe _ _)); rfl; exact HA.out.blk.whole)
        refine (rcount_any hg HK.out hgo _).mono ?_
        rintro e w2 ⟨rfl, h2⟩
        have A2 := hid (HA.out.on h2)
        clear h2 HA
        go_wp2_with fail
        go_roundw
        case rel => exact ⟨k + 1, x + sz m r k, by go_num, by go_num, by omega, by omega, hid (by omega), A2⟩
        case measure => simp [intOf] <;> omega
      · have t1 : ¬ (k : Int) ≤ 4 := by omega
        go_wp2_with fail
        go_ret
        exact ⟨ret_i (by have := HX.out; rw [this, show k = 5 by omega]; rfl), HA.out.bel⟩
  · rw [L_bad hg]
    unfold gv
    go_enter Tryz.func31, Tryz.ntmps31
    go_wp2_with fail
    refine (rcheck_any _ _ _).mono ?_
    rw [if_neg hg]
    rintro e w1 ⟨rfl, h1⟩
    have A1 := hid ((At.new w a b).on h1)
    clear h1
    go_wp2_with fail
    go_ret
    exact ⟨rfl, A1.out.bel⟩
end GeM
end Go.Proofs.YtklmjdhhnnanoaaGreatDoor
