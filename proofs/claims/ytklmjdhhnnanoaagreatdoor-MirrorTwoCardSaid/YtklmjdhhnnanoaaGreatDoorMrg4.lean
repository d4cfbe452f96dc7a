/-
  The document's steps ahead of an I/O.
  An entry of the document's log as a row; what a bus is behind an entry, a member's, the cell's call.
  The document's bus in the midst of an I/O: what it is, what has been turned, and the call's own variables.
  The document's Copy and Same.
  The law CellPlays.
  The document's Read of a bus.
  The document's Cell and Advance of a bus.
  The document's Advance of a bus.
  The document's Write and Flush of a bus.
-/
import Derived.Test.YtklmjdhhnnanoaaGreatDoorMrg3
set_option linter.unusedVariables false
set_option linter.unusedSimpArgs false
set_option maxRecDepth 100000
namespace Go.Proofs.YtklmjdhhnnanoaaGreatDoor
open Go.ChangeShapes Go.WideShapes Go.ChangeAt Go.RowKit
attribute [local go_sem] Gives GivesE
namespace BuP
open BuM MbM MbP
def st0 : Stp × SlB := (⟨0, 0, 0, 0, 0, fun _ => 0, []⟩, ⟨none, 0⟩)
theorem st_size (x y : Stp × SlB) : (stL x).toArray.size = (stL y).toArray.size := by rw [List.size_toArray, List.size_toArray, stL_len, stL_len]
theorem st_one' (x : Stp × SlB) : (stL x).toArray.all (·.oneCell') = true := by
  rw [Array.all_eq_true_iff_forall_mem]
  intro u hu
  exact stL_one x u (by simpa using hu)
structure AhR (w0 : World) (g : Nat) (F : Fp) (k : Nat) (b : Bs) (i : Nat) (wr : World) (Ls' : Nat → Nat → Prop) (ms' : List St) (off' : Bool) : Prop where
  eq : hands b.log.length (b.steps.take i) (b.ms, b.off) = (ms', off')
  rb : Rb wr g { F with Ls := Ls' } (k + i) { b with ms := ms', off := off' }
  len : ms'.length = b.ms.length
  ls : ∀ j q, j < F.gs.length → Ls' j q → F.Ls j q ∨ w0.heap.size ≤ q
  tu : Turn (fun q => q = g ∨ q ∈ F.gs) w0 wr
section
variable {w0 wr w3 : World} {g k i : Nat} {F : Fp} {b : Bs} {Ls' Ls2 : Nat → Nat → Prop} {ms' ms2 : List St} {off' off2 : Bool} {s : Stp}
theorem AhR.on (H : AhR w0 g F k b i wr Ls' ms' off') (hb : Below wr.heap.size wr w3) : AhR w0 g F k b i w3 Ls' ms' off' where
  eq := H.eq
  rb := H.rb.below hb
  len := H.len
  ls := H.ls
  tu := H.tu.trans (Turn.of_new (S := fun _ => False) hb) fun _ e => e.elim
theorem AhR.none (H : AhR w0 g F k b i wr Ls' ms' off') (hs : b.steps[i]? = some s) (he : hand b.log.length s (ms', off') = (ms', off')) : AhR w0 g F k b (i + 1) wr Ls' ms' off' where
  eq := by rw [List.take_add_one, hs, Option.toList_some, hands_snoc, H.eq, he]
  rb := H.rb.mono (by omega)
  len := H.len
  ls := H.ls
  tu := H.tu
theorem AhR.next (H : AhR w0 g F k b i wr Ls' ms' off') (hs : b.steps[i]? = some s) (he : hand b.log.length s (ms', off') = (ms2, off2)) (hm : Mems w3 F.gs Ls2 (fun _ => k + i + 1) ms2) (hl : ms2.length = ms'.length) (hL : ∀ j q, j < F.gs.length → Ls2 j q → Ls' j q ∨ wr.heap.size ≤ q)
    (hb : Blk w3 g 50 (buR F.Am b.ms.length F.cm F.gc F.As b.steps.length F.cs off2 F.vl)) (ht : Turn (fun q => q = g ∨ q ∈ F.gs) wr w3) : AhR w0 g F k b (i + 1) w3 Ls2 ms2 off2 where
  eq := by rw [List.take_add_one, hs, Option.toList_some, hands_snoc, H.eq, he]
  rb := H.rb.put (Ls' := Ls2) hm hl hL (by rw [← H.len] at hb; exact hb) ht fun q e => e
  len := hl.trans H.len
  ls j q hj hq := by
    rcases hL j q hj hq with e | e
    · exact H.ls j q hj e
    · exact .inr (Nat.le_trans H.tu.size e)
  tu := H.tu.trans ht fun _ e => .inl e
theorem AhR.one (H : AhR w0 g F k b i wr Ls' ms' off') (hs : b.steps[i]? = some s) {mi gi : Nat} {st st' : St} (hgi : F.gs[mi]? = some gi) (hst : ms'[mi]? = some st) (he : hand b.log.length s (ms', off') = (ms'.set mi st', off')) (ho : RSo wr gi (Ls' mi) (k + i + 1) st' w3) :
    ∃ Ls2, AhR w0 g F k b (i + 1) w3 Ls2 (ms'.set mi st') off' := by
  obtain ⟨Ls2, m1, m2, m3⟩ := H.rb.mem.put hgi ho
  have hgm : gi ∈ F.gs := List.mem_of_getElem? hgi
  refine ⟨Ls2, H.next hs he (m1.mono fun j _ => ?_) (by rw [List.length_set]) (fun j q _ hq => m2 j q hq) ?_ (m3.mono fun q e => .inr (e ▸ hgm))⟩
  · show (if j = mi then k + i + 1 else k + i) ≤ k + i + 1
    split <;> omega
  · have := H.rb.blk.turn m3 fun e => H.rb.g_gs (by rw [e]; exact hgm)
    rw [← H.len]; exact this
end
end BuP
end Go.Proofs.YtklmjdhhnnanoaaGreatDoor
set_option maxRecDepth 100000
namespace Go.Proofs.YtklmjdhhnnanoaaGreatDoor
open Go.ChangeShapes Go.WideShapes Go.ChangeAt Go.RowKit
attribute [local go_sem] Gives GivesE
namespace BuP
open BuM MbM MbP
def enF (x : Ent) (j : Nat) : Value := if j = 0 then .int .i64 x.d else if j = 1 then .int .i64 x.m else if j = 2 then .int .i64 x.i else if j = 67 then .int .i64 x.e else .int .u8 (x.s (j - 3) : Nat)
theorem en_row (x : Ent) : (enL x).toArray = row 68 (enF x) := by
  apply Array.ext'
  apply List.ext_getElem?
  intro j
  rw [Array.getElem?_toList, Array.getElem?_toList, List.getElem?_toArray]
  by_cases hj : j < 68
  · rw [get_row_lt hj]
    unfold enF enL
    rcases j with _ | _ | _ | j
    · rfl
    · rfl
    · rfl
    · rw [List.getElem?_cons_succ, List.getElem?_cons_succ, List.getElem?_cons_succ, if_neg (by omega), if_neg (by omega), if_neg (by omega)]
      by_cases e : j = 64
      · subst e
        rw [if_pos rfl, List.getElem?_append_right (by rw [ar64_len]; exact Nat.le_refl _), ar64_len]; rfl
      · rw [if_neg (by omega), List.getElem?_append_left (by rw [ar64_len]; omega), ar64, Array.getElem?_toList, ar, get_row_lt (by omega)]; rfl
  · rw [List.getElem?_eq_none (by rw [enL_len]; omega), Array.getElem?_eq_none (by rw [size_row]; omega)]
theorem en_setE {w : World} {g : Nat} {t : TypeId} {x : Ent} (h : Blk w g t (enL x).toArray) (e : Int) : Blk (w.setCell ⟨g, 67, none⟩ (.int .i64 e)) g t (enL { x with e := e }).toArray := by
  rw [en_row] at h ⊢
  have h1 := h.setCell_same 67 (.int .i64 e)
  rw [row_set, row_ext (g := enF { x with e := e }) fun j hj => by
    unfold enF
    by_cases e1 : j = 67
    · subst e1; rfl
    · rw [if_neg e1, if_neg e1, if_neg e1]] at h1
  exact h1
theorem en_setS {w : World} {g : Nat} {t : TypeId} {x : Ent} (h : Blk w g t (enL x).toArray) (s : Nat → Nat) : Blk (w.setCells g 3 (ar 64 s).toList) g t (enL { x with s := s }).toArray := by
  rw [en_row] at h ⊢
  have h1 := (blk_setCells (ar 64 s).toList 3 w (enF x) h (by rw [Array.length_toList, size_ar]; omega)).1
  rw [row_ext (g := enF { x with s := s }) fun j hj => by
    rw [Array.length_toList, size_ar]
    unfold enF
    by_cases e : 3 ≤ j ∧ j < 3 + 64
    · rw [if_pos e, if_neg (by omega), if_neg (by omega), if_neg (by omega), if_neg (by omega)]
      have : (ar 64 s).toList[j - 3]? = some (.int .u8 (s (j - 3) : Nat)) := by
        rw [Array.getElem?_toList, ar, get_row_lt (by omega)]
      rw [List.getD_eq_getElem?_getD, this]; rfl
    · rw [if_neg e]
      by_cases e0 : j = 0
      · rw [if_pos e0, if_pos e0]
      · by_cases e1 : j = 1
        · rw [if_neg e0, if_neg e0, if_pos e1, if_pos e1]
        · by_cases e2 : j = 2
          · rw [if_neg e0, if_neg e0, if_neg e1, if_neg e1, if_pos e2, if_pos e2]
          · rw [if_neg e0, if_neg e0, if_neg e1, if_neg e1, if_neg e2, if_neg e2, if_pos (by omega), if_pos (by omega)]] at h1
  exact h1
theorem en_there {w : World} {g : Nat} {t : TypeId} {x : Ent} (h : Blk w g t (enL x).toArray) {o n : Nat} (hm : o + n ≤ 68) : w.there g o n := there_of (t := t) (cur := (enL x).toArray) h (by rw [List.size_toArray, enL_len]; exact hm)
theorem en_qe {w : World} {g : Nat} {t : TypeId} {x : Ent} (h : Blk w g t (enL x).toArray) : w.cell? ⟨g, 67, none⟩ = some (.int .i64 x.e) := en_e (o := 0) (x := x) h.whole
theorem en_qs {w : World} {g : Nat} {t : TypeId} {x : Ent} (h : Blk w g t (enL x).toArray) : w.rangeAt g 3 (ar 64 x.s).toList := en_s (o := 0) (x := x) h.whole
def en0 : Ent := ⟨0, 0, 0, fun _ => 0, 0⟩
theorem en_size (x y : Ent) : (enL x).toArray.size = (enL y).toArray.size := by rw [List.size_toArray, List.size_toArray, enL_len, enL_len]
theorem en_one' (x : Ent) : (enL x).toArray.all (·.oneCell') = true := by
  rw [Array.all_eq_true_iff_forall_mem]
  intro u hu
  exact enL_one x u (by simpa using hu)
section
variable {ops : Array Oper} {Q : Exit → Act → World → Prop} {a : Act} {w : World} {rest : List Oper} {dst : Option Tmp} {ty : TypeId} {pos : String} {after : Array Edge} {x y z : Operand} {m i : Int} {s : Nat → Nat}
end
section
variable {w w' : World} {g k : Nat} {F : Fp} {b : Bs}
theorem Rb.logged (H : Rb w g F k b) {v' : Value} {x : Ent} (ht : Turn (fun q => q = g ∨ F.vl.ownBlock = some q) w w') (hb : Blk w' g 50 (buR F.Am b.ms.length F.cm F.gc F.As b.steps.length F.cs b.off v'))
    (ho : OwnX 187 68 enL w' 0 v' (b.log ++ [x])) (hv : ∀ q, v'.ownBlock = some q → F.vl.ownBlock = some q ∨ w.heap.size ≤ q) : Rb w' g { F with vl := v' } (k + 1) (BuM.put b x) where
  blk := hb
  arr := H.arr.turn ht fun q hq _ e => H.sep q (.inl hq) (e.imp id fun x => .inr (.inr (.inr x)))
  mem := (H.mem.turn ht (fun q hq e => e.elim (fun x => H.g_gs (x ▸ hq)) fun x => H.vl_gs q x hq) fun j q hj hq e => H.sep q (.inr ⟨j, hj, hq⟩) (e.imp id fun x => .inr (.inr (.inr x)))).mono fun _ _ => Nat.le_succ _
  cel := H.cel.turn ht (fun e => e.elim (fun x => H.g_gc x.symm) H.vl_gc) fun q hq e => e.elim (fun x => H.g_vc (x ▸ hq)) fun x => H.vl_vc q x hq
  sll := H.sll
  stp := H.stp.turn ht fun q hq _ e => H.sep q (.inl hq) (e.imp id fun x => .inr (.inr (.inr x)))
  pk s x hx := ⟨(H.pk s x hx).1.turn ht fun q o h1 h2 e => H.sep q (.inl ((H.pk s x hx).2.2 q o h1 h2)) (e.imp id fun x => .inr (.inr (.inr x))), (H.pk s x hx).2⟩
  log := ho
  rlt q hq := Nat.lt_of_lt_of_le (H.rlt q hq) ht.size
  sep q hq e := by
    have hl := H.ilt q hq
    rcases e with e | e | e | e | e
    · exact H.sep q hq (.inl e)
    · exact H.sep q hq (.inr (.inl e))
    · exact H.sep q hq (.inr (.inr (.inl e)))
    · exact H.sep q hq (.inr (.inr (.inr (.inl e))))
    · rcases hv q e with x | x
      · exact H.sep q hq (.inr (.inr (.inr (.inr x))))
      · omega
  sz := ⟨H.sz.1, H.sz.2.1, Nat.le_succ_of_le H.sz.2.2.1, by show (b.log ++ [x]).length ≤ k + 1; rw [List.length_append, List.length_cons, List.length_nil]; have := H.sz.2.2.2; omega⟩
  cmx := H.cmx
theorem Rb.tell (H : Rb w g F k b) {mi gi : Nat} {st st' : St} (hgi : F.gs[mi]? = some gi) (ho : RSo w gi (F.Ls mi) (k + 1) st' w') :
    ∃ Ls', Rb w' g { F with Ls := Ls' } (k + 1) { b with ms := b.ms.set mi st' } ∧ (∀ j q, Ls' j q → F.Ls j q ∨ w.heap.size ≤ q) ∧ Turn (fun q => q = gi) w w' := by
  obtain ⟨Ls2, m1, m2, m3⟩ := H.mem.put hgi ho
  have hgm : gi ∈ F.gs := List.mem_of_getElem? hgi
  refine ⟨Ls2, H.put (off' := b.off) (m1.mono fun j _ => ?_) (by rw [List.length_set]) (fun j q _ hq => m2 j q hq) ?_ m3 (fun q e => .inr (e ▸ hgm)), m2, m3⟩
  · show (if j = mi then k + 1 else k) ≤ k + 1
    split <;> omega
  · exact H.blk.turn m3 fun e => H.g_gs (by rw [e]; exact hgm)
end
end BuP
end Go.Proofs.YtklmjdhhnnanoaaGreatDoor
set_option maxRecDepth 100000
namespace Go.Proofs.YtklmjdhhnnanoaaGreatDoor
open Go.ChangeShapes Go.WideShapes Go.ChangeAt Go.RowKit
attribute [local go_sem] Gives GivesE
namespace BuP
open BuM MbM MbP
structure IoS (w0 : World) (g : Nat) (F0 : Fp) (w : World) (F : Fp) (k : Nat) (b : Bs) (V : Nat → Prop) : Prop where
  rb : Rb w g F k b
  gs : F.gs = F0.gs
  gc : F.gc = F0.gc
  mu : ∀ q, mutR g F q → mutR g F0 q ∨ w0.heap.size ≤ q
  ru : ∀ q, rdR F q → rdR F0 q ∨ w0.heap.size ≤ q
  tu : Turn (mutR g F0) w0 w
  vr : ∀ q, V q → w0.heap.size ≤ q ∧ q < w.heap.size ∧ ¬ mutR g F q ∧ ¬ rdR F q
section
variable {w0 w w' : World} {g k k' : Nat} {F0 F F' : Fp} {b b' : Bs} {V : Nat → Prop}
theorem IoS.start (H : Rb w g F k b) : IoS w g F w F k b (fun _ => False) := ⟨H, rfl, rfl, fun _ e => .inl e, fun _ e => .inl e, Turn.refl _ _, fun _ e => e.elim⟩
theorem IoS.out (H : IoS w0 g F0 w F k b V) : outB w0 g F0 k b w := ⟨F, H.rb, H.gs, H.gc, H.mu, H.ru, H.tu⟩
theorem IoS.below (H : IoS w0 g F0 w F k b V) (hb : Below w.heap.size w w') : IoS w0 g F0 w' F k b V where
  rb := H.rb.below hb
  gs := H.gs
  gc := H.gc
  mu := H.mu
  ru := H.ru
  tu := H.tu.trans (Turn.of_new (S := fun _ => False) hb) fun _ e => e.elim
  vr q hq := ⟨(H.vr q hq).1, Nat.lt_of_lt_of_le (H.vr q hq).2.1 hb.size, (H.vr q hq).2.2⟩
theorem IoS.var (H : IoS w0 g F0 w F k b V) (hb : Below w.heap.size w w') (hl : w.heap.size < w'.heap.size) : IoS w0 g F0 w' F k b (fun q => q = w.heap.size ∨ V q) :=
  let H' := H.below hb
  { rb := H'.rb, gs := H.gs, gc := H.gc, mu := H.mu, ru := H.ru, tu := H'.tu
    vr := fun q hq => by
      rcases hq with rfl | hq
      · exact ⟨H.tu.size, hl, fun e => Nat.lt_irrefl _ (H.rb.mlt _ e), fun e => Nat.lt_irrefl _ (H.rb.ilt _ e)⟩
      · exact H'.vr q hq }
theorem IoS.set (H : IoS w0 g F0 w F k b V) {v : Nat} (hv : V v) (ht : Turn (fun q => q = v) w w') : IoS w0 g F0 w' F k b V where
  rb := H.rb.turn ht fun q hq e => hq.elim (fun x => (H.vr v hv).2.2.1 (e ▸ x)) fun x => (H.vr v hv).2.2.2 (e ▸ x)
  gs := H.gs
  gc := H.gc
  mu := H.mu
  ru := H.ru
  tu := H.tu.trans ht fun q e => .inr (by rw [e]; exact (H.vr v hv).1)
  vr q hq := ⟨(H.vr q hq).1, Nat.lt_of_lt_of_le (H.vr q hq).2.1 ht.size, (H.vr q hq).2.2⟩
theorem IoS.go (H : IoS w0 g F0 w F k b V) (hr : Rb w' g F' k' b') (h1 : F'.gs = F.gs) (h2 : F'.gc = F.gc) (hm : ∀ q, mutR g F' q → mutR g F q ∨ w.heap.size ≤ q) (hi : ∀ q, rdR F' q → rdR F q ∨ w.heap.size ≤ q) (ht : Turn (mutR g F) w w') : IoS w0 g F0 w' F' k' b' V where
  rb := hr
  gs := h1.trans H.gs
  gc := h2.trans H.gc
  mu q hq := by
    rcases hm q hq with e | e
    · exact H.mu q e
    · exact .inr (Nat.le_trans H.tu.size e)
  ru q hq := by
    rcases hi q hq with e | e
    · exact H.ru q e
    · exact .inr (Nat.le_trans H.tu.size e)
  tu := H.tu.trans ht H.mu
  vr q hq := by
    obtain ⟨v1, v2, v3, v4⟩ := H.vr q hq
    refine ⟨v1, Nat.lt_of_lt_of_le v2 ht.size, fun e => ?_, fun e => ?_⟩
    · rcases hm q e with x | x
      · exact v3 x
      · omega
    · rcases hi q e with x | x
      · exact v4 x
      · omega
theorem IoS.mono (H : IoS w0 g F0 w F k b V) (hk : k ≤ k') : IoS w0 g F0 w F k' b V := ⟨H.rb.mono hk, H.gs, H.gc, H.mu, H.ru, H.tu, H.vr⟩
theorem IoS.ahead (H : IoS w0 g F0 w F k b V) {Ls' : Nat → Nat → Prop} {b' : Bs} (hr : Rb w' g { F with Ls := Ls' } k' b') (hl : ∀ j q, j < F.gs.length → Ls' j q → F.Ls j q ∨ w.heap.size ≤ q) (ht : Turn (fun q => q = g ∨ q ∈ F.gs) w w') : IoS w0 g F0 w' { F with Ls := Ls' } k' b' V ∧ Turn (mutR g F) w w' := by
  have ht' : Turn (mutR g F) w w' := ht.mono fun q e => e.imp id .inl
  refine ⟨H.go hr rfl rfl (fun q e => .inl e) (fun q e => ?_) ht', ht'⟩
  rcases e with e | ⟨j, hj, e⟩
  · exact .inl (.inl e)
  · exact (hl j q hj e).imp (fun x => .inr ⟨j, hj, x⟩) id
theorem IoS.tell (H : IoS w0 g F0 w F k b V) {mi gi : Nat} {st st' : St} (hgi : F.gs[mi]? = some gi) (ho : RSo w gi (F.Ls mi) (k + 1) st' w') :
    ∃ Ls', IoS w0 g F0 w' { F with Ls := Ls' } (k + 1) { b with ms := b.ms.set mi st' } V ∧ Turn (mutR g F) w w' := by
  obtain ⟨Ls', h1, h2, h3⟩ := H.rb.tell (st := st) hgi ho
  have ht : Turn (mutR g F) w w' := h3.mono fun q e => .inr (.inl (e ▸ List.mem_of_getElem? hgi))
  refine ⟨Ls', H.go h1 rfl rfl (fun q e => .inl e) (fun q e => ?_) ht, ht⟩
  rcases e with e | ⟨j, hj, e⟩
  · exact .inl (.inl e)
  · exact (h2 j q e).imp (fun x => .inr ⟨j, hj, x⟩) id
theorem IoS.logged (H : IoS w0 g F0 w F k b V) {v' : Value} {x : Ent} (ht : Turn (fun q => q = g ∨ F.vl.ownBlock = some q) w w') (hb : Blk w' g 50 (buR F.Am b.ms.length F.cm F.gc F.As b.steps.length F.cs b.off v'))
    (ho : OwnX 187 68 enL w' 0 v' (b.log ++ [x])) (hv : ∀ q, v'.ownBlock = some q → F.vl.ownBlock = some q ∨ w.heap.size ≤ q) : IoS w0 g F0 w' { F with vl := v' } (k + 1) (BuM.put b x) V ∧ Turn (mutR g F) w w' := by
  have ht' : Turn (mutR g F) w w' := ht.mono fun q e => e.imp id fun x => .inr (.inr (.inr x))
  refine ⟨H.go (H.rb.logged ht hb ho hv) rfl rfl (fun q e => ?_) (fun q e => .inl e) ht', ht'⟩
  rcases e with e | e | e | e | e
  · exact .inl (.inl e)
  · exact .inl (.inr (.inl e))
  · exact .inl (.inr (.inr (.inl e)))
  · exact .inl (.inr (.inr (.inr (.inl e))))
  · exact (hv q e).imp (fun x => .inr (.inr (.inr (.inr x)))) id
theorem IoS.keep (H : IoS w0 g F0 w F k b V) {v : Nat} {t : TypeId} {cs : Array Value} (hv : V v) (hb : Blk w v t cs) (ht : Turn (mutR g F) w w') : Blk w' v t cs := hb.turn ht (H.vr v hv).2.2.1
end
end BuP
end Go.Proofs.YtklmjdhhnnanoaaGreatDoor
set_option maxRecDepth 100000
namespace Go.Proofs.YtklmjdhhnnanoaaGreatDoor
open Go.ChangeShapes Go.WideShapes Go.ChangeAt Go.RowKit
attribute [local go_sem] Gives GivesE
namespace ClP
section
variable {w : World} {g : Nat} {v : Value} {L : List Held} {h : Held}
end
end ClP
end Go.Proofs.YtklmjdhhnnanoaaGreatDoor
set_option maxRecDepth 100000
namespace Go.Proofs.YtklmjdhhnnanoaaGreatDoor
open Go.ChangeShapes Go.WideShapes Go.ChangeAt Go.RowKit
attribute [local go_sem] Gives GivesE
namespace ClP
structure Pl (rep : RepC) (B : Nat) (w : World) (g : Nat) (M I : Cs) (gr : Nat) (v : Value) (L : List Held) (h : Held) (g0 : Nat) (M0 I0 : Cs) (gr0 : Nat) (v0 : Value) (L0 : List Held) (h0 : Held) : Prop where
  p : C1 rep B w g M I L h
  r : Rc w gr v L h
  p0 : C1 rep B w g0 M0 I0 L0 h0
  r0 : Rc w gr0 v0 L0 h0
  s1 : ∀ b, M b → ¬ (M0 b ∨ I0 b)
  s2 : ∀ b, M b ∨ I b → ¬ rSet gr v b.1
  s3 : ∀ b, M b → ¬ rSet gr0 v0 b.1
  s4 : ∀ b, rSet gr v b.1 → ¬ (M0 b ∨ I0 b)
  s5 : ∀ b, rSet gr v b → ¬ rSet gr0 v0 b
  low : ∀ b, rSet gr v b → B ≤ b
theorem Rc.lt {w : World} {g : Nat} {v : Value} {L : List Held} {h : Held} (H : Rc w g v L h) (b : Nat) (hb : rSet g v b) : b < w.heap.size := by
  rcases hb with rfl | e
  · exact H.blk.lt
  · exact (H.lg.own b e).2
section
variable {rep : RepC} {B g gr g0 gr0 : Nat} {w w' : World} {M I M0 I0 : Cs} {v v0 : Value} {L L0 L' : List Held} {h h0 h' : Held}
end
section
variable {a : Act} {w : World} {dst : Option Tmp} {ty r T : TypeId} {pos : String} {after : Array Edge} {x y : Operand} {gd : Option (Nat × Bool)} {p q : Held} {R : Value → World → Prop} {g o : Nat} {cs : Array Value}
theorem gE_ldR (hT : RowT T cs.size) (hx : a.eval x = .pointer (some ⟨g, o, none⟩)) (hb : w.rangeAt g o cs.toList) (hR : R (.agg cs) w) : GivesE Tryz.prog ⟨dst, .load T x, ty, pos, after, gd⟩ a w R := by
  unfold GivesE
  simp only [execOp, hx, Sem.run_bind, run_ldR hT hb, Result.andThen_ok, Sem.run_pure]
  exact hR
end
structure HsC (w0 : World) (L : List Held) (d : Bool) (v : Value) (w' : World) : Prop where
  b : Below w0.heap.size w0 w'
  s : d = true → ∃ A c, v = .slice A L.length c ∧ Sli 33 ceL (fun _ => True) w' A L L.length c
theorem HsC.on {w0 w1 w2 : World} {L : List Held} {d : Bool} {v : Value} (h : HsC w0 L d v w1) (hb : Below w1.heap.size w1 w2) : HsC w0 L d v w2 :=
  ⟨h.b.trans (hb.mono h.b.size), fun e => by
    obtain ⟨A, c, h1, h2⟩ := h.s e
    exact ⟨A, c, h1, h2.turn (Turn.of_new (S := fun _ => False) hb) fun _ _ _ e => e⟩⟩
end ClP
end Go.Proofs.YtklmjdhhnnanoaaGreatDoor
set_option maxRecDepth 100000
namespace Go.Proofs.YtklmjdhhnnanoaaGreatDoor
open Go.ChangeShapes Go.WideShapes Go.ChangeAt Go.RowKit
attribute [local go_sem] Gives GivesE
namespace BuP
open BuM MbM MbP
section
variable {a : Act} {w : World} {dst : Option Tmp} {ty T : TypeId} {pos : String} {after : Array Edge} {gd : Option (Nat × Bool)} {R : Value → World → Prop} {x y : Operand} {g n : Nat} {t : TypeId} {f f0 : Nat → Nat} {cs old : Array Value}
theorem gE_stA (hT : ArT T n) (hx : a.eval x = .pointer (some ⟨g, 0, none⟩)) (hy : a.eval y = .agg (ar n f)) (hb : Blk w g t (ar n f0)) (hR : R undef (w.setRow g (ar n f))) : GivesE Tryz.prog ⟨dst, .store T x y, ty, pos, after, gd⟩ a w R := by
  have h1 := run_st_ar hT hb f
  unfold GivesE execOp
  simp only [Sem.run_bind, hx, hy, h1, Result.andThen_ok, Sem.run_pure]
  exact hR
end
structure ResC (w0 : World) (gR : Nat) (s : Nat → Nat) (d : Bool) (w' : World) : Prop where
  t : Turn (fun q => q = gR) w0 w'
  b : Blk w' gR 37 (ar 64 (if d then s else fun _ => 0))
theorem ResC.put {w0 w' : World} {gR : Nat} {s : Nat → Nat} {d : Bool} (h : ResC w0 gR s d w') : ResC w0 gR s true (w'.setRow gR (ar 64 s)) :=
  ⟨h.t.trans (Turn.setRow (S := fun q => q = gR) _ _ _ rfl) fun q e => .inl e, by rw [if_pos rfl]; exact h.b.setRow_same _⟩
structure TeC (w0 : World) (gi k : Nat) (L : Nat → Prop) (st : St) (d : Bool) (w' : World) : Prop where
  t : Turn (fun b => b = gi) w0 w'
  b : d = false → Below w0.heap.size w0 w'
  o : d = true → RSo w0 gi L k st w'
theorem tSeR {s : Nat → Nat} : RowT 37 (ar 64 s).size := by rw [size_ar]; exact ⟨by kernel_rfl, _, Tryz.underlying37, rfl⟩
end BuP
end Go.Proofs.YtklmjdhhnnanoaaGreatDoor
set_option maxRecDepth 100000
namespace Go.Proofs.YtklmjdhhnnanoaaGreatDoor
open Go.ChangeShapes Go.WideShapes Go.ChangeAt Go.RowKit
attribute [local go_sem] Gives GivesE
namespace BuP
open BuM MbM MbP
structure ResQ (w0 : World) (gR : Nat) (h : ClP.Held) (d : Bool) (w' : World) : Prop where
  t : Turn (fun q => q = gR) w0 w'
  b : Blk w' gR 102 (ClP.ceL (if d then h else (0, ClP.zero))).toArray
theorem ResQ.put {w0 w' : World} {gR : Nat} {h : ClP.Held} {d : Bool} (H : ResQ w0 gR h d w') : ResQ w0 gR h true (w'.setRow gR (ClP.ceL h).toArray) :=
  ⟨H.t.trans (Turn.setRow (S := fun q => q = gR) _ _ _ rfl) fun q e => .inl e, by rw [if_pos rfl]; exact H.b.setRow_same _⟩
structure TcC (w0 : World) (gc : Nat) (vc : Value) (L : List ClP.Held) (h : ClP.Held) (d : Bool) (w' : World) : Prop where
  t : Turn (ClP.rSet gc vc) w0 w'
  b : d = false → Below w0.heap.size w0 w'
  o : d = true → ∃ v', ClP.Rc w' gc v' L h ∧ ∀ q, v'.ownBlock = some q → vc.ownBlock = some q ∨ w0.heap.size ≤ q
end BuP
end Go.Proofs.YtklmjdhhnnanoaaGreatDoor
set_option maxRecDepth 100000
namespace Go.Proofs.YtklmjdhhnnanoaaGreatDoor
open Go.ChangeShapes Go.WideShapes Go.ChangeAt Go.RowKit
attribute [local go_sem] Gives GivesE
namespace BuP
open BuM MbM MbP
end BuP
end Go.Proofs.YtklmjdhhnnanoaaGreatDoor
set_option maxRecDepth 100000
namespace Go.Proofs.YtklmjdhhnnanoaaGreatDoor
open Go.ChangeShapes Go.WideShapes Go.ChangeAt Go.RowKit
attribute [local go_sem] Gives GivesE
namespace BuP
open BuM MbM MbP
end BuP
end Go.Proofs.YtklmjdhhnnanoaaGreatDoor
