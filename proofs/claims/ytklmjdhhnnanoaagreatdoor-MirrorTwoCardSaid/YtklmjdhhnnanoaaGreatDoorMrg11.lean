/-
  The landed mirror: does a bus fit; who took it.
  Regions that draw their order, within a round of a loop over a function: the laws of XRegion and XRegEx2 said of all orders (wpAny), and carried into a round.
  The landed mirror: what is done to members, one behind the other; who did it.
  The landed mirror: Put, Flush, Read.
  A region that draws its order and in which several operations write, within a round of a range over a function.
  Rows of bytes loaded and stored in a region in which several operations write.
  Numbers, texts and rows as bytes, and tapes, in plain numbers (no text of the program).
  Tags: words of the document in plain numbers; what the program's messages answer, as hypotheses of the laws (LeafC, RestC).
  An empty slice of bytes that is made with room.
  Texts' bytes: looked at one by one, laid behind bytes of the call's own; one byte of the call's own turned.
  Contracts of bytes.isWidth, copied, lay, Num and Text over this translation.
  Contracts of bytes.lay, Num and Text over this translation.
  Contracts of the document's Width, Digits, Value, Num and Text (casemateref06) over this translation.
  Contracts of the document's Text and Row (casemateref06), and of bytes.Row, over this translation.
  Contract of bytes.Row over this translation.
  The landed tags: message, and the messages of one part.
  The landed tags: numbered, LeafText, NodeText; LeafC and RestC.
  Contracts of casemateref17.part and Plain: the document's rows of one part.
-/
import Derived.Test.YtklmjdhhnnanoaaGreatDoorMrg10
import Derived.OrdersIn
import Derived.OwnWalkIn
import Derived.RangeFuncCalls
import Derived.Sort.CutIn
import Derived.Deep.WholeRow
import Derived.Laws.MakeOwn
import Derived.Laws.OwnMore
import Derived.Lib.AppendStr
set_option linter.unusedVariables false
set_option linter.unusedSimpArgs false
set_option maxRecDepth 100000
namespace Go.Proofs.YtklmjdhhnnanoaaGreatDoor
open Go.ChangeShapes Go.WideShapes Go.ChangeAt Go.RowKit Go.Shelf
attribute [local go_sem] Gives
attribute [local go_sem] Oper.semAt_some
namespace MiM
open GeM StM RgM BuP BuM
def BuAt (repB : RepB) (C g : Nat) (F : Fq) (k : Nat) (b : Bs) (V : Nat → Prop) (W : World) : Prop :=
  ∃ F', Pp repB W g F' k b ∧ F'.gs = F.gs ∧ F'.gc = F.gc ∧ (∀ q, mutP F' q → mutP F q ∨ C ≤ q) ∧ (∀ q, rdP F' q → mutP F q ∨ rdP F q ∨ C ≤ q) ∧ ∀ q, V q → ¬ (mutP F' q ∨ rdP F' q)
section
variable {repB : RepB} {C g k k2 : Nat} {F : Fq} {b b2 : Bs} {V : Nat → Prop} {w W W' : World}
theorem BuAt.new (H : Pp repB W g F k b) (hV : ∀ q, ¬ V q) : BuAt repB C g F k b V W := ⟨F, H, rfl, rfl, fun _ e => .inl e, fun _ e => .inr (.inl e), fun q e => (hV q e).elim⟩
theorem BuAt.turn (hC : BusC repB) (h : BuAt repB C g F k b V W) {S : Nat → Prop} (ht : Turn S W W') (hS : ∀ q, mutP F q ∨ rdP F q ∨ C ≤ q → S q → V q) : BuAt repB C g F k b V W' := by
  obtain ⟨F', h1, h2, h3, h4, h5, h6⟩ := h
  exact ⟨F', h1.turn hC ht fun q e e2 => h6 q (hS q (e.elim (fun x => (h4 q x).imp id .inr) (h5 q)) e2) e, h2, h3, h4, h5, h6⟩
theorem BuAt.now (hC : BusC repB) (h : BuAt repB C g F k b V W) {U : Nat → Prop} (hb : ∀ q, U q → V q ∨ W.heap.size ≤ q) : BuAt repB C g F k b U W := by
  obtain ⟨F', h1, h2, h3, h4, h5, h6⟩ := h
  refine ⟨F', h1, h2, h3, h4, h5, fun q e e2 => ?_⟩
  rcases hb q e with x | x
  · exact h6 q x e2
  · have := e2.elim (h1.mlt q) (h1.ilt q); omega
theorem BuAt.out {F' : Fq} (h2 : F'.gs = F.gs) (h3 : F'.gc = F.gc) (h4 : ∀ q, mutP F' q → mutP F q ∨ C ≤ q) (h5 : ∀ q, rdP F' q → mutP F q ∨ rdP F q ∨ C ≤ q) (h6 : ∀ q, V q → ¬ (mutP F' q ∨ rdP F' q)) (ho : outQ repB W g F' k2 b2 W') (hC : C ≤ W.heap.size) (hV : ∀ q, V q → q < W.heap.size) : BuAt repB C g F k2 b2 V W' ∧ Turn (fun q => (mutP F q ∨ C ≤ q) ∧ ¬ V q) W W' := by
  obtain ⟨F2, o1, o2, o3, o4, o5, o6⟩ := ho
  refine ⟨⟨F2, o1, o2.trans h2, o3.trans h3, fun q e => ?_, fun q e => ?_, fun q e e2 => ?_⟩, o6.mono fun q e => ⟨h4 q e, fun e2 => h6 q e2 (.inl e)⟩⟩
  · rcases o4 q e with x | x
    · exact h4 q x
    · exact .inr (Nat.le_trans hC x)
  · rcases o5 q e with x | x | x
    · exact (h4 q x).imp id .inr
    · exact h5 q x
    · exact .inr (.inr (Nat.le_trans hC x))
  · rcases e2 with e2 | e2
    · rcases o4 q e2 with x | x
      · exact h6 q e (.inl x)
      · have := hV q e; omega
    · rcases o5 q e2 with x | x | x
      · exact h6 q e (.inl x)
      · exact h6 q e (.inr x)
      · have := hV q e; omega
theorem BuAt.outQ (h : BuAt repB C g F k b V W) {T : Nat → Prop} (ht : Turn T w W) (hT : ∀ q, T q → mutP F q ∨ w.heap.size ≤ q) (hC : w.heap.size ≤ C) : outQ repB w g F k b W := by
  obtain ⟨F', h1, h2, h3, h4, h5, _⟩ := h
  refine ⟨F', h1, h2, h3, fun q e => (h4 q e).imp id fun x => Nat.le_trans hC x, fun q e => (h5 q e).imp id (Or.imp id fun x => Nat.le_trans hC x), ?_⟩
  exact ⟨ht.os, ht.tape, ht.output, ht.size, fun q hq e => ht.block q hq fun x => (hT q x).elim e fun y => by omega⟩
end
def fitE (n : Nat) (a : Int) : Int := if n = 0 then 1 else if (n : Int) = a then 0 else 2
set_option maxHeartbeats 800000 in
theorem fits_gen (v : Value) (n : Nat) (a c : Int) (w : World) (hn : n ≤ 64) (hM : ∀ w', Below w.heap.size w w' → Calls Tryz.prog 58 #[v] w' fun e w2 => e = .returned (.int .i64 (n : Nat)) ∧ Below w'.heap.size w' w2) :
    Calls Tryz.prog 63 #[v, gv a c] w fun e w' => e = .returned (.int .i64 (fitE n a)) ∧ Below w.heap.size w w' := by
  obtain ⟨R, hR⟩ : ∃ R, R = fitE n a := ⟨_, rfl⟩
  rw [← hR]
  have HR := hid hR
  have HM := hid hM
  clear hR hM
  unfold gv
  go_enter Tryz.func63, Tryz.ntmps63
  go_upto_region 1 with fail
  have B1 := hid (show Below w.heap.size w (w.alloc (.cells #[.int .i64 a, .int .i64 c] tyG)) from (Below.refl _ _).alloc (Nat.le_refl _) _)
  have G1 := hid (show Blk (w.alloc (.cells #[.int .i64 a, .int .i64 c] tyG)) w.heap.size tyG #[.int .i64 a, .int .i64 c] from Blk.new _ _ _)
  obtain ⟨gg, hgg⟩ : ∃ g, g = w.heap.size := ⟨_, rfl⟩
  rw [← hgg] at G1 ⊢
  change Hid (Below w.heap.size w (w.alloc (.cells #[.int .i64 a, .int .i64 c] tyG))) at B1
  generalize World.alloc w _ = w1 at B1 G1 ⊢
  clear hgg
  go_wp2_with fail
  refine (HM.out w1 B1.out).mono ?_
  rintro e w2 ⟨rfl, h2⟩
  have B2 := hid (B1.out.trans (h2.mono B1.out.size))
  have r0 : w2.cell? ⟨gg, 0, none⟩ = some (.int .i64 a) := (G1.out.below h2 G1.out.lt).cell 0
  clear h2 B1 G1 HM
  by_cases h0 : n = 0
  · subst h0
    go_wp2_with fail
    go_ret
    exact ⟨by rw [HR.out]; rfl, B2.out⟩
  · have t0 : ((n : Int) == 0) = false := beq_eq_false_iff_ne.2 (by omega)
    have t1 : ¬ (n : Int) = 0 := by omega
    by_cases h1 : (n : Int) = a
    · subst h1
      go_wp2_with fail
      go_ret
      exact ⟨by rw [HR.out]; unfold fitE; rw [if_neg h0, if_pos rfl]; rfl, B2.out⟩
    · have t2 : ((n : Int) == a) = false := beq_eq_false_iff_ne.2 h1
      go_wp2_with fail
      go_ret
      exact ⟨by rw [HR.out]; unfold fitE; rw [if_neg h0, if_neg h1]; rfl, B2.out⟩
def rch (n : Nat) (a c k i : Int) : Option (Nat × Nat × Nat) := if (n : Int) = a then hom a c k i else none
def rchE (n : Nat) (a c k i : Int) : Int := if n = 0 then 1 else match rch n a c k i with
  | some _ => 0
  | none => 2
def rchH (n : Nat) (a c k i : Int) : Array Value := match rch n a c k i with
  | some (f, j, p) => hoL f j p
  | none => hoL 0 0 0
theorem rch_zero {a c k i : Int} : rch 0 a c k i = none := by
  unfold rch
  split
  · rename_i h
    cases hh : hom a c k i with
    | none => rfl
    | some y =>
      obtain ⟨f, n, p⟩ := y
      obtain ⟨m, q, h1, _, _, h4, _⟩ := hom_some hh
      omega
  · rfl
set_option maxHeartbeats 1600000 in
theorem reach_gen (v : Value) (n : Nat) (a c k i : Int) (x : Nat → Nat) (hi : -9223372036854775808 ≤ i ∧ i ≤ 9223372036854775807) (w : World) (hn : n ≤ 64) (hM : ∀ w', Below w.heap.size w w' → Calls Tryz.prog 58 #[v] w' fun e w2 => e = .returned (.int .i64 (n : Nat)) ∧ Below w'.heap.size w' w2) :
    Calls Tryz.prog 54 #[v, gv a c, .agg (wrL k i x).toArray] w fun e w' => e = .returned (.tuple #[.agg (rchH n a c k i), .int .i64 (rchE n a c k i)]) ∧ Below w.heap.size w w' := by
  obtain ⟨R, hR⟩ : ∃ R, R = rchH n a c k i := ⟨_, rfl⟩
  obtain ⟨E, hE⟩ : ∃ E, E = rchE n a c k i := ⟨_, rfl⟩
  rw [← hR, ← hE]
  have HR := hid hR
  have HE := hid hE
  have HM := hid hM
  clear hR hE hM
  unfold gv
  go_enter Tryz.func54, Tryz.ntmps54
  go_upto_region 1 with fail
  obtain ⟨gg, hgg⟩ : ∃ g, g = w.heap.size := ⟨_, rfl⟩
  obtain ⟨gw, hgw⟩ : ∃ g, g = w.heap.size + 1 := ⟨_, rfl⟩
  obtain ⟨gh, hgh⟩ : ∃ g, g = w.heap.size + 2 := ⟨_, rfl⟩
  rw [show w.heap.size + 1 + 1 = gh by omega, ← hgw, ← hgg]
  generalize hW : World.alloc (World.alloc (World.alloc w _) _) _ = w1
  have E1 := hid (show HoB w a c k i x gg gw gh w1 by rw [hgg, hgw, hgh, ← hW]; exact HoB.mk' w a c k i x)
  clear hgg hgw hgh hW
  go_wp2_with ((with_reducible apply ldR (cs := #[Value.int .i64 a, .int .i64 c]) (tGe _ _)); rfl; exact E1.out.geo.whole)
  refine (fits_gen v n a c w1 hn fun w' hb => HM.out w' (E1.out.bel.trans (hb.mono E1.out.bel.size))).mono ?_
  rintro e w2 ⟨rfl, h2⟩
  have E2 := hid (E1.out.on h2)
  clear h2 E1 HM
  by_cases h0 : n = 0
  · subst h0
    have f0 : fitE 0 a = 1 := rfl
    rw [f0]
    go_wp2_with ((with_reducible apply stR (tHo 0 0 0)); rfl; rfl; exact E2.out.ho; rfl; exact ho_one _ _ _)
    refine ret_rowM (tHo 0 0 0) rfl rfl rfl rfl (E2.out.ho.setRow_same _) ?_
    exact ⟨by rw [HR.out, HE.out]; unfold rchH rchE; rw [rch_zero]; rfl, below_setRow E2.out.bel E2.out.lo _⟩
  by_cases h1 : (n : Int) = a
  · subst h1
    have f0 : fitE n (n : Int) = 0 := by unfold fitE; rw [if_neg h0, if_pos rfl]
    have HH := hid (show rch n (n : Int) c k i = hom (n : Int) c k i by unfold rch; rw [if_pos rfl])
    rw [f0]
    clear f0
    go_wp2_with (first | ((with_reducible apply ldR (cs := #[Value.int .i64 n, .int .i64 c]) (tGe _ _)); rfl; exact E2.out.geo.whole) | ((with_reducible apply ldR (cs := (wrL k i x).toArray) (tWr k i x)); rfl; exact E2.out.wr.whole))
    refine (home_any n c k i x hi w2).mono ?_
    rintro e w3 ⟨rfl, h3⟩
    have E3 := hid (E2.out.on h3)
    clear h3 E2
    cases hh : hom (n : Int) c k i with
    | none =>
      unfold hoV
      go_wp2_with ((with_reducible apply stR (tHo 0 0 0)); rfl; rfl; exact E3.out.ho; rfl; exact ho_one _ _ _)
      refine ret_rowM (tHo 0 0 0) rfl rfl rfl rfl (E3.out.ho.setRow_same _) ?_
      exact ⟨by rw [HR.out, HE.out]; unfold rchH rchE; rw [HH.out, hh, if_neg h0]; rfl, below_setRow E3.out.bel E3.out.lo _⟩
    | some y =>
      obtain ⟨f, j, p⟩ := y
      unfold hoV
      go_wp2_with ((with_reducible apply stR (tHo f j p)); rfl; rfl; exact E3.out.ho; rfl; exact ho_one _ _ _)
      refine ret_rowM (tHo f j p) rfl rfl rfl rfl (E3.out.ho.setRow_same _) ?_
      exact ⟨by rw [HR.out, HE.out]; unfold rchH rchE; rw [HH.out, hh, if_neg h0]; rfl, below_setRow E3.out.bel E3.out.lo _⟩
  · have f0 : fitE n a = 2 := by unfold fitE; rw [if_neg h0, if_neg h1]
    rw [f0]
    go_wp2_with ((with_reducible apply stR (tHo 0 0 0)); rfl; rfl; exact E2.out.ho; rfl; exact ho_one _ _ _)
    refine ret_rowM (tHo 0 0 0) rfl rfl rfl rfl (E2.out.ho.setRow_same _) ?_
    exact ⟨by rw [HR.out, HE.out]; unfold rchH rchE; rw [show rch n a c k i = none by unfold rch; rw [if_neg h1], if_neg h0]; rfl, below_setRow E2.out.bel E2.out.lo _⟩
end MiM
end Go.Proofs.YtklmjdhhnnanoaaGreatDoor
set_option maxRecDepth 100000
namespace Go.Proofs.YtklmjdhhnnanoaaGreatDoor
open Go.ChangeShapes Go.WideShapes Go.ChangeAt Go.RowKit
attribute [local go_sem] GivesE
section
variable {P : Program}
theorem region_coreA {Q : Exit → Act → World → Prop} {Γ : Type} {C : Γ → Array Bool → World → Prop} {a : Act} {w : World} {l : List Oper} (n : Nat) (ht : tidy l.toArray = true) (hB : tailB l.toArray n = true)
    (γ0 : Γ) (hC : C γ0 (Array.replicate l.length false) w.drew) (vals : Γ → Nat → Value)
    (hs : ∀ i o, (l.take n)[i]? = some o → ∀ γ L w, L.size = l.length → i ∈ Region.ready .any l.toArray L → C γ L w →
      ∃ γ', (∀ j, L.getD j false = true → vals γ j = vals γ' j) ∧
      ((Region.wanted o (yielded l.toArray (lexF (l.take n) (vals γ) i a).tmps) = true ∧ Gives P o (lexF (l.take n) (vals γ) i a) w (vals γ' i) (C γ' (L.setIfInBounds i true))) ∨
      (Region.wanted o (yielded l.toArray (lexF (l.take n) (vals γ) i a).tmps) = false ∧ vals γ' i = undef ∧ C γ' (L.setIfInBounds i true) w)))
    (hq : ∀ γ L w', (∀ i, i < n → L.getD i false = true) → C γ L w' → wpList P l.toArray Q (l.drop n) (lexF (l.take n) (vals γ) (l.take n).length a) w') : wpAny P .any l.toArray Q l.toArray.size (Array.replicate l.toArray.size false) a { w with drawn := w.drawn + 1 } := by
  have hn : n ≤ l.toArray.size := by
    simp only [tailB, Bool.or_eq_true, Bool.and_eq_true, decide_eq_true_eq] at hB
    rcases hB with h | h <;> omega
  have hlen : (l.take n).length = n := by rw [List.length_take]; simp at hn; omega
  simp only [hlen] at hq
  have hfr : ∀ (γ : Γ) i, i ≤ n → lexF (l.take n) (vals γ) i a = fr l.toArray (vals γ) (fun j => decide (j < i)) l.toArray.size a := fun γ i hi => by
    have := lexF_fr (ops := l.toArray) (vals := vals γ) (a := a) hn i hi
    simpa using this
  have H := head_any (P := P) (ops := l.toArray) (n := n) (g := l.toArray.size - n) (Q := Q) (vals := vals) (C := C) (a0 := a) ht hn
    (fun k o hk ho γ L w' hsz _ hr hC' => by
      have hko : (l.take n)[k]? = some o := by rw [List.getElem?_take_of_lt hk]; simpa using ho
      have := hs k o hko γ L w' (by simpa using hsz) hr hC'
      rwa [hfr γ k (by omega)] at this)
    (fun L hL hcl htl i hi hun t hr => by
      obtain ⟨hunt, o, ho, _⟩ := mem_ready.1 hr
      have hto : t < l.toArray.size := (Array.getElem?_eq_some_iff.1 ho).1
      simp only [tailB, Bool.or_eq_true, Bool.and_eq_true, decide_eq_true_eq] at hB
      rcases hB with hB | ⟨⟨⟨hB1, hB2⟩, hB3⟩, _⟩
      · omega
      · rcases Nat.lt_or_ge t n with h | h
        · exact h
        · exact absurd hr (tail_waits hB2 hB3 hB1 ⟨hL, hcl, htl⟩ _ i rfl hi hun t h))
    (fun γ L w' hL hall htl hC' => by
      rw [← hfr γ n (Nat.le_refl n)]
      have hlist := hq γ L w' hall hC'
      have hLe : L = tailL n (l.toArray.size - n) := by
        apply Array.ext_getElem?
        intro j
        unfold tailL
        rw [show ((List.replicate n true ++ List.replicate (l.toArray.size - n) false).toArray)[j]? = (List.replicate n true ++ List.replicate (l.toArray.size - n) false)[j]? from List.getElem?_toArray .., List.getElem?_append]
        simp only [List.length_replicate]
        by_cases hj : j < n
        · have := hall j hj
          rw [if_pos hj]
          simp [show j < L.size by omega] at this
          simp [hj, show j < L.size by omega, this]
        · rw [if_neg hj]
          by_cases hj2 : j < l.toArray.size
          · have := htl j (by omega) hj2
            simp [show j < L.size by omega] at this
            rw [Array.getElem?_eq_getElem (by omega), this, List.getElem?_replicate, if_pos (by omega)]
          · rw [Array.getElem?_eq_none (by omega), List.getElem?_replicate, if_neg (by omega)]
      simp only [tailB, Bool.or_eq_true, Bool.and_eq_true, decide_eq_true_eq] at hB
      rcases hB with hB | ⟨⟨⟨hB1, hB2⟩, hB3⟩, hB4⟩
      · rw [show l.toArray.size - n = 0 by omega]
        have hd : l.drop n = [] := List.drop_eq_nil_of_le (by simp at hB; omega)
        rw [hd] at hlist
        refine ⟨?_, hlist⟩
        apply List.eq_nil_iff_forall_not_mem.2
        intro t hr
        obtain ⟨hunt, o, ho, _⟩ := mem_ready.1 hr
        have hto : t < l.toArray.size := (Array.getElem?_eq_some_iff.1 ho).1
        have := hall t (by omega)
        rw [getD_both hunt] at this
        cases this
      · have hdl : (l.drop n).length = l.toArray.size - n := by simp
        have := wpAny_of_seq (P := P) (ops := l.toArray) (md := .any) (Q' := Q) (l.drop n) n L _ w' (fun j => by simp [List.getElem?_drop]) (by rw [hdl, hLe]; exact hB4) hlist
        rwa [hdl] at this)
    (cnt n (Array.replicate l.toArray.size false)) γ0 (Array.replicate l.toArray.size false) w.drew (by simp) (fun j o _ hl => by rw [getD_replicate_false] at hl; cases hl)
    (fun t _ hts => getD_in (by simpa using hts) (getD_replicate_false _ _)) rfl (by simpa using hC)
  have hc : cnt n (Array.replicate l.toArray.size false) = n := by
    unfold cnt
    have : ∀ i ∈ List.range n, (!(Array.replicate l.toArray.size false).getD i true) = true := fun i hi => by
      have hi' := List.mem_range.1 hi
      have : i < l.length := by simp at hn; omega
      simp [this]
    rw [List.countP_eq_length.2 this, List.length_range]
  rw [hc, show n + (l.toArray.size - n) = l.toArray.size by omega] at H
  have hz : fr l.toArray (vals γ0) (fun j => (Array.replicate l.toArray.size false).getD j false) l.toArray.size a = a := by
    rw [fr_congr (l' := fun j => decide (j < 0)) fun j _ => by rw [getD_replicate_false]; simp]
    have := fr_stop (ops := l.toArray) (vals := vals γ0) (k := 0) l.toArray.size a
    rw [Nat.zero_add] at this
    exact this
  rw [hz] at H
  exact H
theorem any_tail {Q : Exit → Act → World → Prop} {C : World → Prop} {a : Act} {w : World} {l : List Oper} (n : Nat) (ht : tidy l.toArray = true) (hB : tailB l.toArray n = true)
    (hC : C w.drew) (h : wpK P l.toArray C (fun a' => ∀ w', C w' → wpList P l.toArray Q (l.drop n) a' w') (l.take n) a) : wpAny P .any l.toArray Q l.toArray.size (Array.replicate l.toArray.size false) a { w with drawn := w.drawn + 1 } := by
  obtain ⟨vals, hq, hs⟩ := wpK_vals _ _ h
  refine region_coreA (Γ := Unit) (C := fun _ _ w => C w) n ht hB () hC (fun _ => vals) (fun i o hi γ L w _ _ hC' => ⟨(), fun _ _ => rfl, ?_⟩) (fun _ L w' _ hC' => hq w' hC')
  rcases hs i o hi with ⟨h1, h2⟩ | ⟨h1, h2⟩
  · exact .inl ⟨h1, h2 w hC'⟩
  · exact .inr ⟨h1, h2, hC'⟩

end
def plainOp (o : Oper) : Bool := match o.op with | .defer _ => false | _ => true
section
variable {P : Program} {Q : Exit → Act → World → Prop} {n lo : Nat} {md : Region.Mode}
theorem plain_at {l : List Oper} (h : l.all plainOp = true) {i : Nat} {o : Oper} (ho : l.toArray[i]? = some o) : ∀ c, o.op ≠ Op.defer c := by
  intro c e
  have hm : o ∈ l := by
    rw [List.getElem?_toArray] at ho
    exact List.mem_of_getElem? ho
  have := List.all_eq_true.1 h o hm
  unfold plainOp at this
  rw [e] at this
  cases this
theorem opIn_of {o : Oper} {a : Act} {w : World} {K : Act → World → Prop} (hnd : ∀ c, o.op ≠ Op.defer c) (h : o.wp P a w K Q) : o.wpIn (Fence.wide.inRound lo) n P a w K Q := by
  unfold Oper.wpIn
  unfold Oper.wp at h
  refine ⟨fun _ _ => trivial, ?_⟩
  rw [Oper.semAt_eq _ _ _ hnd]
  generalize (execOp a.eval o).run P w = r at *
  cases r with
  | ok x w' =>
    cases x <;> simp only [Oper.upon, Oper.uponIn] at h ⊢
    case value => exact h
    case skip => exact h
    case defer => exact h
    case enter f args =>
      refine ⟨(fun h => by cases h), CallsIn.inRound lo ((callsIn_wide.2 h).mono fun e w'' he => ?_)⟩
      cases e <;> exact he
    case row row args =>
      refine ⟨(fun h => by cases h), fun c cs _ => ?_⟩
      obtain ⟨v, w2, hr, hs⟩ := h c cs
      exact ⟨v, w2, hr, stepsIn_wide.2 hs⟩
  | halt x w' => cases x <;> simp only [Oper.upon, Oper.uponIn] at h ⊢ <;> exact h
theorem anyIn_of {ops : Array Oper} (hnd : ∀ (i : Nat) (o : Oper), ops[i]? = some o → ∀ c, o.op ≠ Op.defer c) (hL : ¬ LetsOut Q) : ∀ (fuel : Nat) (listed : Array Bool) (a : Act) (w : World), wpAny P md ops Q fuel listed a w → wpAnyIn (Fence.wide.inRound lo) n P md ops Q fuel listed a w
  | 0, _, _, _, h => h
  | fuel + 1, listed, a, w, h => by
    refine ⟨h.1, fun i hi => ?_⟩
    have h1 := h.2 i hi
    unfold wpOp at h1
    unfold wpOpIn
    cases ho : ops[i]? with
    | none =>
      simp only [ho] at h1 ⊢
      exact anyIn_of hnd hL fuel _ _ _ h1
    | some o =>
      simp only [ho] at h1 ⊢
      by_cases hw : Region.wanted o (yielded ops a.tmps) = true
      · rw [if_pos hw] at h1 ⊢
        rcases h1 with h1 | h1
        · exact Oper.wpIn_mono (fun a w => anyIn_of hnd hL fuel _ a w) (opIn_of (hnd i o ho) h1)
        · exact absurd h1.2 hL
      · rw [if_neg hw] at h1 ⊢
        exact ⟨fun _ _ => trivial, anyIn_of hnd hL fuel _ _ _ h1⟩
theorem listIn_of {ops : Array Oper} (hL : ¬ LetsOut Q) : ∀ (l : List Oper) (a : Act) (w : World), l.all plainOp = true → wpList P ops Q l a w → wpListIn (Fence.wide.inRound lo) n P ops Q l a w
  | [], _, _, _, h => h
  | o :: l, a, w, hp, h => by
    rw [List.all_cons, Bool.and_eq_true] at hp
    unfold wpList at h
    unfold wpListIn
    have hnd : ∀ c, o.op ≠ Op.defer c := fun c e => by
      have := hp.1
      unfold plainOp at this
      rw [e] at this
      cases this
    by_cases hw : Region.wanted o (yielded ops a.tmps) = true
    · rw [if_pos hw] at h ⊢
      rcases h with h | h
      · exact Oper.wpIn_mono (fun a w => listIn_of hL l a w hp.2) (opIn_of hnd h)
      · exact absurd h.2 hL
    · rw [if_neg hw] at h ⊢
      exact ⟨fun _ _ => trivial, listIn_of hL l _ _ hp.2 h⟩
theorem wpi_region_lex {id : Nat} {a : Act} {w : World} {l : List Oper} (hp : l.all plainOp = true) (hL : ¬ LetsOut Q) (h : wpList P l.toArray Q l a w) : (Code.region id l.toArray false).wpIn (Fence.wide.inRound lo) n P Q a w :=
  wpIn_region_lit (listIn_of hL l a w hp h)
theorem wpi_region_tail {id : Nat} {C : World → Prop} {a : Act} {w : World} {l : List Oper} (m : Nat) (hm : P.follows .mixedOrders = true) (hp : l.all plainOp = true) (hL : ¬ LetsOut Q) (ht : tidy l.toArray = true) (hB : tailB l.toArray m = true)
    (hC : C w.drew) (h : wpK P l.toArray C (fun a' => ∀ w', C w' → wpList P l.toArray Q (l.drop m) a' w') (l.take m) a) : (Code.region id l.toArray true).wpIn (Fence.wide.inRound lo) n P Q a w :=
  wpIn_region_any hm (anyIn_of (fun _ _ ho => plain_at hp ho) hL _ _ _ _ (any_tail m ht hB hC h))
end
end Go.Proofs.YtklmjdhhnnanoaaGreatDoor
set_option maxRecDepth 100000
namespace Go.Proofs.YtklmjdhhnnanoaaGreatDoor
open Go.ChangeShapes Go.WideShapes Go.ChangeAt Go.RowKit Go.Shelf
attribute [local go_sem] Gives
attribute [local go_sem] Oper.semAt_some
namespace MiM
open GeM StM RgM BuP BuM
theorem results_cell2m {fn : Func} {p q : Tmp} (h : fn.results = #[.cell p 64, .cell q 52]) (tmps : Array Value) (w : World) (B C : Nat) (v : Value) (E : Int) (hv : ∃ A m c, v = .slice A m c) (hp : tmps.getD p undef = .pointer (some ⟨B, 0, none⟩)) (hq : tmps.getD q undef = .pointer (some ⟨C, 0, none⟩))
    (hb : w.cell? ⟨B, 0, none⟩ = some v) (hc : w.cell? ⟨C, 0, none⟩ = some (.int .i64 E)) :
    (results fn tmps).run Tryz.prog w = .ok (.tuple #[v, .int .i64 E]) w := by
  obtain ⟨A, m, c, rfl⟩ := hv
  have hp' : tmps[p]?.getD undef = .pointer (some ⟨B, 0, none⟩) := by simpa using hp
  have hq' : tmps[q]?.getD undef = .pointer (some ⟨C, 0, none⟩) := by simpa using hq
  have hv : (loadVar 64 ⟨B, 0, none⟩).run Tryz.prog w = .ok (.slice A m c) w := by
    simp [loadVar, go_sem, hb]
  have hu : (loadVar 52 ⟨C, 0, none⟩).run Tryz.prog w = .ok (.int .i64 E) w := by
    simp [loadVar, go_sem, hc]
  simp [results, h, hp', hq', asAddr, hv, hu]
theorem run_steps {t : Bs → Nat → Bs} (ht : ∀ b m, (t b m).steps = b.steps) : ∀ (l : List Nat) (b : Bs), (run t b l).steps = b.steps
  | [], _ => rfl
  | x :: l, b => (run_steps ht l (t b x)).trans (ht b x)
structure TkB (w w1 : World) (v : Value) : Prop where
  f : Blk w1 w.heap.size 124 #[v]
  l : Blk w1 (w.heap.size + 1) 64 #[.slice none 0 0]
  e : Blk w1 (w.heap.size + 2) 52 #[.int .i64 0]
  d : Blk w1 (w.heap.size + 3) 64 #[.slice none 0 0]
  b : Below w.heap.size w w1
  sz : w1.heap.size = w.heap.size + 4
theorem TkB.mk' (w : World) (v : Value) : TkB w ((((w.alloc (.cells #[v] 124)).alloc (.cells #[.slice none 0 0] 64)).alloc (.cells #[.int .i64 0] 52)).alloc (.cells #[.slice none 0 0] 64)) v :=
  ⟨(((Blk.new _ _ _).alloc _).alloc _).alloc _, ((Blk.top rfl (by simp)).alloc _).alloc _, (Blk.top rfl (by simp)).alloc _, Blk.top rfl (by simp),
    ((((Below.refl _ _).alloc (Nat.le_refl _) _).alloc (by simp) _).alloc (by simp; omega) _).alloc (by simp; omega) _, by simp⟩
def Tt (F : Fq) (b4 b5 b6 B k : Nat) : Prop := mutP F k ∨ k = b4 ∨ k = b5 ∨ k = b6 ∨ B + 2 ≤ k
def tkI (repB : RepB) (e : Bs → Nat → Int) (t : Bs → Nat → Bs) (B g : Nat) (F : Fq) (k s : Nat) (b : Bs) (b4 b5 b6 : Nat) (pre : List Nat) (W : World) : Prop :=
  ∃ v, BuAt repB (B + 2) g F (k + pre.length * (s + 2)) (run t b pre) (fun q => v.ownBlock = some q) W ∧ nof e t b pre ∧ Blk W b4 64 #[.slice none 0 0] ∧ Blk W b5 52 #[.int .i64 0] ∧
    Blk W b6 64 #[v] ∧ OwnI W (B + 2) v (did e t b pre)
def tkX (repB : RepB) (e : Bs → Nat → Int) (t : Bs → Nat → Bs) (B g : Nat) (F : Fq) (k s : Nat) (b : Bs) (b4 b5 : Nat) (pre : List Nat) (W : World) : Prop :=
  BuAt repB (B + 2) g F (k + pre.length * (s + 2)) (run t b pre) (fun _ => False) W ∧ (∃ p0 x, pre = p0 ++ [x] ∧ nof e t b p0 ∧ e (run t b p0) x = 13) ∧ Blk W b4 64 #[.slice none 0 0] ∧ Blk W b5 52 #[.int .i64 13]
set_option maxHeartbeats 4000000 in
set_option maxRecDepth 100000 in
theorem took_any {repB : RepB} (hC : BusC repB) (e : Bs → Nat → Int) (t : Bs → Nat → Bs) (ht : ∀ b m, (t b m).steps = b.steps) (f n m p bH bM : Nat) (hm : 0 < m) (hm64 : m ≤ 64) (hn : n ≤ 64) (hf : f ≤ 8192) (fd : FuncId) (bd lb : Array Value)
    {w : World} {g k : Nat} {F : Fq} {b : Bs} (H : Pp repB w g F k b) (hk : k + n * (b.steps.length + 2) ≤ 200000) (q1 : Blk w bH tyH (hoL f n p)) (q2 : Blk w bM 3 #[.int .i64 (m : Nat)]) (d1 : ¬ mutP F bH) (d2 : ¬ mutP F bM)
    (eFd : ∀ args w, (callFunc fd args).run Tryz.prog w = .ok (.enter fd args) w)
    (hdo : ∀ (x : Nat) W F' k' b', Turn (fun q => mutP F q ∨ w.heap.size ≤ q) w W → Pp repB W g F' k' b' → b'.steps = b.steps → k' + b'.steps.length + 2 ≤ 200000 → Calls Tryz.prog fd (bd ++ #[.int .i64 (x : Nat)] ++ lb) W fun r W' => r = .returned (.int .i64 (e b' x)) ∧ outQ repB W g F' (k' + b'.steps.length + 2) (t b' x) W') :
    Calls Tryz.prog 55 #[.func (.func 84) #[] #[.pointer (some ⟨bH, 0, none⟩), .pointer (some ⟨bM, 0, none⟩)], .func (.func fd) bd lb] w fun r w' => ∃ v E, r = .returned (.tuple #[v, .int .i64 E]) ∧ OwnI w' w.heap.size v ((took e t b (rnd m f n)).1.getD []) ∧ E = tkE (took e t b (rnd m f n)).1 ∧ outQ repB w g F (k + n * (b.steps.length + 2)) (took e t b (rnd m f n)).2 w' := by
  obtain ⟨R, hR⟩ : ∃ R, R = took e t b (rnd m f n) := ⟨_, rfl⟩
  rw [← hR]
  have HR := hid hR
  have HP := hid H
  have K := hid (TkB.mk' w (.func (.func fd) bd lb))
  have HD := hid hdo
  have HS := hid ht
  have lP := hid H.mlt
  have lI := hid H.ilt
  have lH := q1.lt
  have lM := q2.lt
  obtain ⟨s, hs⟩ : ∃ s, s = b.steps.length := ⟨_, rfl⟩
  rw [← hs] at hk ⊢
  have SE := hid hs
  have HK := hid hk
  clear H hR hdo ht hs hk
  refine (callsIn_wide (n := 7)).1 ?_
  refine callsIn_of_wp_marks Tryz.func55 rfl trivial ?_ rfl
  simp only [Tryz.ntmps55, List.size_toArray, List.length_cons, List.length_nil, Nat.reduceAdd, Nat.reduceSub, Array.replicate_succ, Array.replicate_zero, List.push_toArray, List.append_toArray, List.nil_append, List.cons_append]
  gi_upto_region 2 with fail
  obtain ⟨w3, hw3⟩ : ∃ w3, w3 = (((w.alloc (.cells #[.func (.func fd) bd lb] 124)).alloc (.cells #[.slice none 0 0] 64)).alloc (.cells #[.int .i64 0] 52)).alloc (.cells #[.slice none 0 0] 64) := ⟨_, rfl⟩
  rw [← hw3] at K ⊢
  clear hw3
  obtain ⟨b3, hb3⟩ : ∃ x, x = w.heap.size := ⟨_, rfl⟩
  obtain ⟨b4, hb4⟩ : ∃ x, x = w.heap.size + 1 := ⟨_, rfl⟩
  obtain ⟨b5, hb5⟩ : ∃ x, x = w.heap.size + 2 := ⟨_, rfl⟩
  obtain ⟨b6, hb6⟩ : ∃ x, x = w.heap.size + 3 := ⟨_, rfl⟩
  rw [show w.heap.size + 1 + 1 + 1 = b6 by omega, show w.heap.size + 1 + 1 = b5 by omega, show w.heap.size + 1 = b4 by omega]
  have hk3 := hid (show Blk w3 b3 124 #[.func (.func fd) bd lb] by rw [hb3]; exact K.out.f)
  have hk4 := hid (show Blk w3 b4 64 #[.slice none 0 0] by rw [hb4]; exact K.out.l)
  have hk5 := hid (show Blk w3 b5 52 #[.int .i64 0] by rw [hb5]; exact K.out.e)
  have hk6 := hid (show Blk w3 b6 64 #[.slice none 0 0] by rw [hb6]; exact K.out.d)
  have B3 := hid K.out.b
  have hsz := K.out.sz
  have r1 := q1.below K.out.b lH
  have r2 := (q2.below K.out.b lM).cell 0
  have P3 := hid (HP.out.below hC K.out.b)
  have I0 : w.heap.size = b3 := hb3.symm
  have I1 : b3 < b4 := by omega
  have I2 : b4 < b5 := by omega
  have I3 : b5 < b6 := by omega
  have I4 : w3.heap.size = b6 + 1 := by omega
  rw [I0] at lH lM ⊢
  have LP := hid (show ∀ q, mutP F q → q < b3 from fun q e => by have := lP.out q e; omega)
  have LI := hid (show ∀ q, rdP F q → q < b3 from fun q e => by have := lI.out q e; omega)
  clear K q1 q2 hb3 hb4 hb5 hb6 hsz lP lI HP
  have NB := hid (show ∀ q, b3 ≤ q → q < w3.heap.size → ¬ (mutP F q ∨ w3.heap.size + 2 ≤ q) from fun q h1 h2 e => by
    rcases e with e | e
    · have := LP.out q e; omega
    · omega)
  have HB := hid (show ∀ W, Turn (fun k => Tt F b4 b5 b6 w3.heap.size k ∨ Bk w3.heap.size k) w3 W → Turn (fun q => mutP F q ∨ w.heap.size ≤ q) w W from fun W h => (Turn.of_new B3.out).trans h fun k e => by
    unfold Tt Bk at e
    rcases e with (e | e | e | e | e) | e | e
    · exact .inl (.inl e)
    all_goals exact .inl (.inr (by omega)))
  obtain ⟨i0, hi, hz0, hz1, hz2⟩ := info_parts infoI
  have II := hid (And.intro hi (And.intro hz0 (And.intro hz1 hz2)))
  clear hi hz0 hz1 hz2
  gi_wp2
  refine wpIn_range (α := Nat) rfl (by omega) (gf := 84) (lb := #[.pointer (some ⟨bH, 0, none⟩), .pointer (some ⟨bM, 0, none⟩)]) rfl trivial (enters_of Tryz.func84 (by kernel_rfl) rfl)
    (encs := fun x : Nat => #[Value.int .i64 x]) (T := Tt F b4 b5 b6 w3.heap.size) (S := fun ys => ys = rnd m f n) (Sp := fun pre => pre = (rnd m f n).take pre.length ∧ pre.length ≤ n) (N := n)
    (around1_in f n p m bH bM w3.heap.size hm hm64 hn hf (Tt F b4 b5 b6 w3.heap.size) w3 r1 r2 (by unfold Tt; rintro (e | e | e | e | e) <;> first | exact d1 e | omega) (by unfold Tt; rintro (e | e | e | e | e) <;> first | exact d2 e | omega) (by omega) (by omega))
    (fun k e => by
      unfold Tt at e
      unfold Bk
      rcases e with e | e | e | e | e
      · have := LP.out k e; omega
      all_goals omega) (fun _ => rfl)
    (fun pre W => tkI repB e t w3.heap.size g F k s b b4 b5 b6 pre W ∧ Turn (fun k => Tt F b4 b5 b6 w3.heap.size k ∨ Bk w3.heap.size k) w3 W)
    (fun c pre W => (c = .ret ∧ tkX repB e t w3.heap.size g F k s b b4 b5 pre W) ∧ Turn (fun k => Tt F b4 b5 b6 w3.heap.size k ∨ Bk w3.heap.size k) w3 W)
    (fun s' X Y ⟨⟨v, h1, h2, h3, h4, h5, h6⟩, h7⟩ ht => ⟨⟨v, h1.turn hC ht fun q e e2 => by
        unfold Bk at e2
        rcases e with e | e | e
        · have := LP.out q e; omega
        · have := LI.out q e; omega
        · omega, h2, h3.turn ht (fun e => by unfold Bk at e; omega), h4.turn ht (fun e => by unfold Bk at e; omega), h5.turn ht (fun e => by unfold Bk at e; omega), row_from h6 ht (Nat.le_refl _)⟩, h7.trans ht fun k e => .inl (.inr e)⟩)
    (fun c s' X Y ⟨⟨h0, h1, h2, h3, h4⟩, h7⟩ ht => ⟨⟨h0, h1.turn hC ht fun q e e2 => by
        unfold Bk at e2
        rcases e with e | e | e
        · have := LP.out q e; omega
        · have := LI.out q e; omega
        · omega, h2, h3.turn ht (fun e => by unfold Bk at e; omega), h4.turn ht (fun e => by unfold Bk at e; omega)⟩, h7.trans ht fun k e => .inl (.inr e)⟩)
    ⟨⟨.slice none 0 0, by rw [List.length_nil, Nat.zero_mul, Nat.add_zero]; exact BuAt.new P3.out (fun q e => by cases e), trivial, hk4.out, hk5.out, hk6.out, ownI_nil _ _⟩, Turn.refl _ _⟩
    (fun x => { tmps := #[.func (.func 84) #[] #[.pointer (some ⟨bH, 0, none⟩), .pointer (some ⟨bM, 0, none⟩)], .func (.func fd) bd lb, undef, .pointer (some ⟨b3, 0, none⟩), .pointer (some ⟨b4, 0, none⟩), .pointer (some ⟨b5, 0, none⟩), .pointer (some ⟨b6, 0, none⟩), .int .i64 x, .func (.func 84) #[] #[.pointer (some ⟨bH, 0, none⟩), .pointer (some ⟨bM, 0, none⟩)], .int .i64 x, undef, undef, undef, undef, undef, undef, undef, undef, undef, undef, undef, undef], defers := [] }) ?assign ?body ?done ?stop
  case assign =>
    intro l x W K hK
    gi_wp2
    exact hK
  case body =>
    rintro l pre x W ⟨⟨v, h1, h2, h3, h4, hv, hrow⟩, hT2⟩ hlt hW2
    have cf : W.cell? ⟨b3, 0, none⟩ = some (.func (.func fd) bd lb) := (hk3.out.turn hT2 (by
      unfold Tt Bk
      rintro ((e | e | e | e | e) | e | e)
      · have := LP.out _ e; omega
      all_goals omega)).cell 0
    have hst := run_steps HS.out pre b
    have hkb : k + (pre.length + 1) * (s + 2) ≤ 200000 := Nat.le_trans (Nat.add_le_add_left (Nat.mul_le_mul_right _ (show pre.length + 1 ≤ n by omega)) k) HK.out
    have hks : k + pre.length * (s + 2) + (s + 2) = k + (pre.length + 1) * (s + 2) := by rw [Nat.add_mul]; omega
    obtain ⟨F', p1, p2, p3, p4, p5, p6⟩ := h1
    have HCALL := hid (HD.out x W F' _ _ (HB.out W hT2) p1 hst (by rw [hst, ← SE.out]; omega))
    rw [hst, ← SE.out, show k + pre.length * (s + 2) + s + 2 = k + (pre.length + 1) * (s + 2) by omega] at HCALL
    have VL := hid (fun q (e : v.ownBlock = some q) => hrow.lt q e)
    have OUT := hid (fun W' (ho : outQ repB W g F' (k + (pre.length + 1) * (s + 2)) (t (run t b pre) x) W') => BuAt.out p2 p3 p4 p5 p6 ho hW2 fun q e => (VL.out q e).2)
    have E0 := hid (run_snoc (t := t) (b := b) pre x)
    have E1 := hid (nof_snoc (e := e) (t := t) pre b x)
    have E2 := hid (did_snoc (e := e) (t := t) pre b x)
    have N2 := hid h2
    have DL := hid (Nat.le_trans (did_sub (e := e) (t := t) pre b) (show pre.length ≤ 64 by omega))
    obtain ⟨ev, hev⟩ : ∃ ev, ev = e (run t b pre) x := ⟨_, rfl⟩
    rw [← hev] at HCALL E1 E2
    have EV := hid hev
    have H3 := hid h3
    have H4 := hid h4
    have HV := hid hv
    have HR2 := hid hrow
    have T2 := hid hT2
    have PL := hid (show (pre ++ [x]).length = pre.length + 1 by rw [List.length_append]; rfl)
    clear hv hrow h2 h3 h4 hT2 hev p1 p2 p3 p4 p5 p6 hst hkb hks
    gi_wp2
    refine ⟨trivial, (callsIn_wide.2 HCALL.out).mono ?_⟩
    rintro r W1 ⟨rfl, ho⟩
    have O1 := hid (OUT.out W1 ho).1
    have T1 := hid (OUT.out W1 ho).2
    have T1' := hid (T1.out.mono (T := Tt F b4 b5 b6 w3.heap.size) fun q e => by
      unfold Tt
      rcases e.1 with e | e
      · exact .inl e
      · exact .inr (.inr (.inr (.inr e))))
    have G4 := hid (H3.out.turn T1.out fun e => NB.out b4 (by omega) (by omega) e.1)
    have G5 := hid (H4.out.turn T1.out fun e => NB.out b5 (by omega) (by omega) e.1)
    have G6 := hid (HV.out.turn T1.out fun e => NB.out b6 (by omega) (by omega) e.1)
    have R1 := hid (show OwnI W1 (w3.heap.size + 2) v (did e t b pre) from row_turn HR2.out T1.out fun q e1 e2 => e2.2 e1)
    have hW1 : w3.heap.size + 2 ≤ W1.heap.size := Nat.le_trans hW2 T1.out.size
    clear ho HCALL OUT HR2 HV H3 H4
    by_cases hz : ev = 0
    · subst hz
      have hc : W1.cell? ⟨b6, 0, none⟩ = some v := G6.out.cell 0
      have hf := G6.out.frozen 0
      gi_upto_region 6 with fail
      refine wpi_region_lex (by kernel_rfl) (by rintro ⟨_, _, h⟩; exact h) ?_
      have BA := hid (show Below W1.heap.size W1 (W1.alloc (.cells (natL x).toArray 3)) from (Below.refl _ _).alloc (Nat.le_refl _) _)
      go_wp2_with (first
        | ((with_reducible apply wlit1 eltNat undNat (x := x)); omega; rfl; rfl)
        | (at_builtin; (with_reducible apply wappM (B := w3.heap.size + 2) (n := x)); rfl; rfl; exact OwnI.below R1.out BA.out (Nat.le_refl _); exact sli_lit1 eltNat x W1 trivial; (have := DL.out; omega); (have := BA.out.size; omega); intro v' w4 o4 g4 wh4; obtain ⟨A4, c4, hv4⟩ := OwnI.len o4; rw [List.length_append, List.length_singleton] at hv4; subst hv4; have T4 := hid ((Turn.of_new (S := fun q => v.ownBlock = some q) BA.out).trans (Turn.of_grown (S := fun q => v.ownBlock = some q) g4 fun q e => e) fun q e => .inl e); have G64 := hid (G6.out.turn T4.out fun e => by have := (VL.out _ e).1; omega); have hc6 := G64.out.cell 0; have hf6 := G64.out.frozen 0))
      have TS := hid (Turn.setCell (S := fun q => q = b6) w4 ⟨b6, 0, none⟩ (.slice A4 ((did e t b pre).length + 1) c4) rfl)
      have S4 := hid (Nat.le_trans BA.out.size g4.size)
      have TT := hid (T1'.out.trans ((T4.out.mono (T := Tt F b4 b5 b6 w3.heap.size) fun q e => by have := (VL.out q e).1; unfold Tt; omega).trans (TS.out.mono (T := Tt F b4 b5 b6 w3.heap.size) fun q e => by unfold Tt; omega) fun q e => .inl e) fun q e => .inl e)
      have VQ := hid (show ∀ q, (Value.slice A4 ((did e t b pre).length + 1) c4).ownBlock = some q → w3.heap.size + 2 ≤ q from fun q e => (o4.lt q e).1)
      refine ⟨TT.out, ⟨_, ?_, ?_, ?_, ?_, G64.out.setCell_same 0 _, ?_⟩, T2.out.trans TT.out fun q e => .inl (.inl e)⟩
      · rw [PL.out, E0.out]
        have a1 := BuAt.now hC O1.out (U := fun q => v.ownBlock = some q ∨ (Value.slice A4 ((did e t b pre).length + 1) c4).ownBlock = some q) fun q e => by
          rcases e with e | e
          · exact .inl e
          · rcases wh4 with y | y
            · exact .inl (y ▸ e)
            · rw [y] at e
              cases e
              exact .inr BA.out.size
        have a2 := a1.turn hC T4.out fun q _ e => .inl e
        have a3 := a2.turn hC TS.out fun q e e2 => by
          rcases e with e | e | e
          · have := LP.out q e; omega
          · have := LI.out q e; omega
          · omega
        exact a3.now hC fun q e => .inl (.inr e)
      · exact E1.out.2 ⟨N2.out, by omega⟩
      · exact (G4.out.turn T4.out fun e => by have := (VL.out _ e).1; omega).setCell_other (p := ⟨b6, 0, none⟩) (by show b6 ≠ b4; omega) _
      · exact (G5.out.turn T4.out fun e => by have := (VL.out _ e).1; omega).setCell_other (p := ⟨b6, 0, none⟩) (by show b6 ≠ b5; omega) _
      · rw [E2.out, if_pos trivial]
        exact row_turn o4 TS.out fun q e e2 => by have := VQ.out q e; omega
    by_cases h13 : ev = 13
    · subst h13
      have hc4 : W1.cell? ⟨b4, 0, none⟩ = some (.slice none 0 0) := G4.out.cell 0
      have hf4 := G4.out.frozen 0
      have hc5 : W1.cell? ⟨b5, 0, none⟩ = some (.int .i64 0) := G5.out.cell 0
      have hf5 := G5.out.frozen 0
      gi_wp2
      have TS := hid (show Turn (fun q => q = b4 ∨ q = b5) W1 ((W1.setCell ⟨b4, 0, none⟩ (.slice none 0 0)).setCell ⟨b5, 0, none⟩ (.int .i64 13)) from (Turn.setCell (S := fun q => q = b4 ∨ q = b5) _ ⟨b4, 0, none⟩ _ (.inl rfl)).trans (Turn.setCell (S := fun q => q = b4 ∨ q = b5) _ ⟨b5, 0, none⟩ _ (.inr rfl)) fun q e => .inl e)
      have TT := hid (T1'.out.trans (TS.out.mono (T := Tt F b4 b5 b6 w3.heap.size) fun q e => by unfold Tt; omega) fun q e => .inl e)
      refine ⟨TT.out, ⟨rfl, ?_, ⟨pre, x, rfl, N2.out, EV.out.symm⟩, ?_, ?_⟩, T2.out.trans TT.out fun q e => .inl (.inl e)⟩
      · rw [PL.out, E0.out]
        refine BuAt.turn hC (BuAt.now hC O1.out (U := fun _ => False) fun q e => e.elim) TS.out fun q e e2 => ?_
        rcases e with e | e | e
        · have := LP.out q e; omega
        · have := LI.out q e; omega
        · omega
      · exact (G4.out.setCell_same 0 _).setCell_other (p := ⟨b5, 0, none⟩) (by show b5 ≠ b4; omega) _
      · exact (G5.out.setCell_other (p := ⟨b4, 0, none⟩) (by show b4 ≠ b5; omega) _).setCell_same 0 _
    · have z0 : (ev == 0) = false := by simp [hz]
      have z1 : (ev == 13) = false := by simp [h13]
      gi_wp2
      refine ⟨T1'.out, ⟨v, ?_, ?_, G4.out, G5.out, G6.out, ?_⟩, T2.out.trans T1'.out fun q e => .inl (.inl e)⟩
      · rw [PL.out, E0.out]; exact O1.out
      · exact E1.out.2 ⟨N2.out, h13⟩
      · rw [E2.out, if_neg hz, List.append_nil]; exact R1.out
  case done =>
    rintro D ys W rfl rfl ⟨⟨v, h1, h2, h3, h4, hv, hrow⟩, hT2⟩ hK
    obtain ⟨A9, c9, hv9⟩ := OwnI.len hrow
    have hc6 : W.cell? ⟨b6, 0, none⟩ = some v := hv.cell 0
    have hc4 := h3.cell 0
    have hf4 := h3.frozen 0
    have hc5 := h4.cell 0
    have hf5 := h4.frozen 0
    have O1 := hid h1
    have R1 := hid hrow
    have N2 := hid (took_done _ _ h2)
    have H3 := hid h3
    have H4 := hid h4
    have T2 := hid hT2
    have HKD := hid hK
    have hl4 := h4.lt
    have hDl := (Array.getElem?_eq_some_iff.1 hK).1
    subst hv9
    clear h1 hrow h2 h3 h4 hT2 hv hK
    gi_wp2
    obtain ⟨vv, hvv⟩ : ∃ vv, vv = Value.slice A9 (did e t b (rnd m f n)).length c9 := ⟨_, rfl⟩
    rw [← hvv] at R1 O1 ⊢
    have TE : Turn (fun q => q = b4 ∨ q = b5) W ((W.setCell ⟨b4, 0, none⟩ vv).setCell ⟨b5, 0, none⟩ (.int .i64 0)) :=
      (Turn.setCell (S := fun q => q = b4 ∨ q = b5) W ⟨b4, 0, none⟩ _ (.inl rfl)).trans (Turn.setCell (S := fun q => q = b4 ∨ q = b5) _ ⟨b5, 0, none⟩ _ (.inr rfl)) fun _ e => .inl e
    have h6E : Blk ((W.setCell ⟨b4, 0, none⟩ vv).setCell ⟨b5, 0, none⟩ (.int .i64 0)) b4 64 #[vv] := (H3.out.setCell_same 0 _).setCell_other (p := ⟨b5, 0, none⟩) (by show b5 ≠ b4; omega) _
    have h7E : Blk ((W.setCell ⟨b4, 0, none⟩ vv).setCell ⟨b5, 0, none⟩ (.int .i64 0)) b5 52 #[.int .i64 0] := (H4.out.setCell_other (p := ⟨b4, 0, none⟩) (by show b4 ≠ b5; omega) _).setCell_same 0 _
    generalize World.setCell (World.setCell W _ _) _ _ = wE at h6E h7E TE ⊢
    have HKE : wE.heap[w3.heap.size]? = some (.deferred (some [])) := (TE.block w3.heap.size hDl (by omega)).trans HKD.out
    have hRE := row_turn R1.out TE fun q e e2 => by have := (R1.out.lt q e).1; omega
    have TWw := ((T2.out.trans (TE.mono (T := fun k => Tt F b4 b5 b6 w3.heap.size k ∨ Bk w3.heap.size k) fun q e => by unfold Tt; omega) fun q e => .inl e).trans ((turn_putObj (T := fun k => k = w3.heap.size) wE w3.heap.size (.deferred none) rfl).mono (T := fun k => Tt F b4 b5 b6 w3.heap.size k ∨ Bk w3.heap.size k) fun q e => by unfold Bk; omega) fun q e => .inl e)
    have OF := (BuAt.turn hC O1.out TE (fun q e e2 => by
      rcases e with e | e | e
      · have := LP.out q e; omega
      · have := LI.out q e; omega
      · omega)).turn hC (turn_putObj (T := fun k => k = w3.heap.size) wE w3.heap.size (.deferred none) rfl) fun q e e2 => by
        rcases e with e | e | e
        · have := LP.out q e; omega
        · have := LI.out q e; omega
        · omega
    refine ⟨by simp, .inl ⟨_, _, rfl, run_takeDeferred HKE, ?_⟩⟩
    refine ⟨_, results_cell2m rfl _ _ b4 b5 vv 0 ⟨_, _, _, hvv⟩ rfl rfl ((Blk.turn h6E (turn_putObj (T := fun k => k = w3.heap.size) wE w3.heap.size (.deferred none) rfl) (by omega)).cell 0) ((Blk.turn h7E (turn_putObj (T := fun k => k = w3.heap.size) wE w3.heap.size (.deferred none) rfl) (by omega)).cell 0), vv, 0, rfl, ?_, ?_, ?_⟩
    · rw [HR.out, N2.out]
      exact OwnI.down (ownsRow_putObj hRE (.deferred none) HKE rfl) (by omega)
    · rw [HR.out, N2.out]; rfl
    · rw [HR.out, N2.out]
      rw [rnd_length] at OF
      exact OF.outQ (HB.out _ TWw) (fun q e => e) (by omega)
  case stop =>
    rintro D c pre W rfl ⟨hpre, hle⟩ ⟨⟨rfl, h1, ⟨p0, x, hp0, hno, h13⟩, h3, h4⟩, hT2⟩ hK
    have hcut : rnd m f n = p0 ++ x :: (rnd m f n).drop pre.length := by
      have := (List.take_append_drop pre.length (rnd m f n)).symm
      rw [← hpre, hp0, List.append_assoc] at this
      rw [hp0]
      exact this
    have hst := took_stop p0 b x ((rnd m f n).drop pre.length) hno h13
    rw [← hcut, ← hp0] at hst
    have HST := hid hst
    have O1 := hid h1
    have H3 := hid h3
    have H4 := hid h4
    have T2 := hid hT2
    have HKD := hid hK
    have hkk : k + pre.length * (s + 2) ≤ k + n * (s + 2) := Nat.add_le_add_left (Nat.mul_le_mul_right _ hle) k
    clear h1 h3 h4 hT2 hK hst hcut hno h13 hpre hp0
    gi_wp2
    have TP := turn_putObj (T := fun k => k = w3.heap.size) W w3.heap.size (.deferred none) rfl
    have OF := O1.out.turn hC TP fun q e e2 => by
      rcases e with e | e | e
      · have := LP.out q e; omega
      · have := LI.out q e; omega
      · omega
    have TWw := T2.out.trans (TP.mono (T := fun k => Tt F b4 b5 b6 w3.heap.size k ∨ Bk w3.heap.size k) fun q e => by unfold Bk; omega) fun q e => .inl e
    refine ⟨by simp, .inl ⟨_, _, rfl, run_takeDeferred HKD.out, ?_⟩⟩
    refine ⟨_, results_cell2m rfl _ _ b4 b5 (.slice none 0 0) 13 ⟨_, _, _, rfl⟩ rfl rfl ((Blk.turn H3.out TP (by omega)).cell 0) ((Blk.turn H4.out TP (by omega)).cell 0), .slice none 0 0, 13, rfl, ?_, ?_, ?_⟩
    · rw [HR.out, HST.out]
      exact ownI_nil _ _
    · rw [HR.out, HST.out]; rfl
    · rw [HR.out, HST.out]
      exact (OF.outQ (HB.out _ TWw) (fun q e => e) (by omega)).mono hkk
end MiM
end Go.Proofs.YtklmjdhhnnanoaaGreatDoor
set_option maxRecDepth 100000
namespace Go.Proofs.YtklmjdhhnnanoaaGreatDoor
open Go.ChangeShapes Go.WideShapes Go.ChangeAt Go.RowKit
attribute [local go_sem] Gives GivesE
namespace MiM
open GeM RgM BuP BuM MbP
def pe (p : Nat) (x : Nat → Nat) (b : Bs) (m : Nat) : Int := (wrB (BuM.ahead b) (m : Int) (p : Int) x).e
def pt (p : Nat) (x : Nat → Nat) (b : Bs) (m : Nat) : Bs := BuM.wrT b (m : Int) (p : Int) x
def fe (b : Bs) (m : Nat) : Int := (flB (BuM.ahead b) (m : Int)).e
def ft (b : Bs) (m : Nat) : Bs := BuM.flT b (m : Int)
theorem wrM_steps (b : Bs) (m i : Int) (x : Nat → Nat) : (BuM.wrM b m i x).steps = b.steps := by unfold BuM.wrM; split <;> rfl
theorem wrM_len (b : Bs) (m i : Int) (x : Nat → Nat) : (BuM.wrM b m i x).ms.length = b.ms.length := by
  unfold BuM.wrM
  split
  · exact List.length_set
  · rfl
theorem pt_steps (p : Nat) (x : Nat → Nat) (b : Bs) (m : Nat) : (pt p x b m).steps = b.steps := wrM_steps _ _ _ _
theorem pt_len (p : Nat) (x : Nat → Nat) (b : Bs) (m : Nat) : (pt p x b m).ms.length = b.ms.length := (wrM_len _ _ _ _).trans (hands_len _ _ _)
def putR (b : Bs) (a c k i : Int) (x : Nat → Nat) : List Nat × Int × Bs := match rch b.ms.length a c k i with
  | some (f, j, p) => ((took (pe p x) (pt p x) b (rnd b.ms.length f j)).1.getD [], tkE (took (pe p x) (pt p x) b (rnd b.ms.length f j)).1, (took (pe p x) (pt p x) b (rnd b.ms.length f j)).2)
  | none => ([], 2, b)
def fluR (b : Bs) : List Nat × Int × Bs := ((took fe ft b (List.range b.ms.length)).1.getD [], tkE (took fe ft b (List.range b.ms.length)).1, (took fe ft b (List.range b.ms.length)).2)
theorem rch_some {n : Nat} {a c k i : Int} {f j p : Nat} (h : rch n a c k i = some (f, j, p)) : (n : Int) = a ∧ hom a c k i = some (f, j, p) := by
  unfold rch at h
  split at h
  · exact ⟨‹_›, h⟩
  · cases h
set_option maxHeartbeats 800000 in
theorem put1_any {repB : RepB} (hC : BusC repB) {W : World} {g k : Nat} {F : Fq} {b : Bs} (H : Pp repB W g F k b) (hk : k + b.steps.length + 2 ≤ 200000) (m f n p bB bH bW : Nat) (kk i : Int) (x : Nat → Nat) (hx : ∀ j, x j < 256)
    (q1 : Blk W bB 30 #[MbP.at' g]) (q2 : Blk W bH tyH (hoL f n p)) (q3 : Blk W bW tyW (wrL kk i x).toArray) :
    Calls Tryz.prog 56 #[.int .i64 (m : Nat), .pointer (some ⟨bB, 0, none⟩), .pointer (some ⟨bH, 0, none⟩), .pointer (some ⟨bW, 0, none⟩)] W fun r W' => r = .returned (.int .i64 (pe p x b m)) ∧ outQ repB W g F (k + b.steps.length + 2) (pt p x b m) W' := by
  have HW := hid (hC.write H hk (m : Nat) (p : Nat) x hx)
  have r1 : W.cell? ⟨bB, 0, none⟩ = some (MbP.at' g) := q1.cell 0
  have r2 := ho_2 q2
  have Q3 := hid (wr_x q3)
  clear q1 q2 q3 H
  unfold MbP.at' at r1 HW
  go_enter Tryz.func56, Tryz.ntmps56
  go_wp2_with ((with_reducible apply ldAm tSe); rfl; exact Q3.out)
  refine HW.out.mono ?_
  rintro e w2 ⟨rfl, ho⟩
  have HO := hid ho
  clear ho HW r1 r2 Q3
  go_wp2_with fail
  go_ret
  exact ⟨rfl, HO.out⟩
section
variable {repB : RepB} {w : World} {g k : Nat} {F : Fq} {b : Bs}
theorem outQ.newer {w1 w2 : World} (hb : Below w.heap.size w w1) (h : outQ repB w1 g F k b w2) : outQ repB w g F k b w2 := outQ.trans rfl rfl (fun _ e => .inl e) (fun _ e => .inr (.inl e)) (Turn.of_new hb) h
theorem outQ.below (hC : BusC repB) {w1 w2 : World} (h : outQ repB w g F k b w1) (hb : Below w1.heap.size w1 w2) : outQ repB w g F k b w2 := by
  obtain ⟨F', h1, h2, h3, h4, h5, h6⟩ := h
  exact ⟨F', h1.below hC hb, h2, h3, h4, h5, h6.trans (Turn.of_new (S := fun _ => False) hb) fun _ e => e.elim⟩
theorem members_of (hC : BusC repB) (H : Pp repB w g F k b) : ∀ w', Below w.heap.size w w' → Calls Tryz.prog 58 #[MbP.at' g] w' fun e w2 => e = .returned (.int .i64 (b.ms.length : Nat)) ∧ Below w'.heap.size w' w2 := fun w' hb => hC.members (H.below hC hb)
set_option maxHeartbeats 3200000 in
set_option maxRecDepth 100000 in
theorem put_any (hC : BusC repB) (H : Pp repB w g F k b) (hn : 0 < b.ms.length) (hk : k + 64 * (b.steps.length + 2) ≤ 200000) (a c kk i : Int) (x : Nat → Nat) (hx : ∀ j, x j < 256) (hi : -9223372036854775808 ≤ i ∧ i ≤ 9223372036854775807) :
    Calls Tryz.prog 20 #[MbP.at' g, gv a c, .agg (wrL kk i x).toArray] w fun r w' => ∃ v, r = .returned (.tuple #[v, .int .i64 (putR b a c kk i x).2.1]) ∧ OwnI w' w.heap.size v (putR b a c kk i x).1 ∧ outQ repB w g F (k + 64 * (b.steps.length + 2)) (putR b a c kk i x).2.2 w' := by
  obtain ⟨R, hR⟩ : ∃ R, R = putR b a c kk i x := ⟨_, rfl⟩
  rw [← hR]
  have HR := hid hR
  have HP := hid H
  have HM := hid (members_of hC H)
  have hlt := H.sz.1
  have HX := hid hx
  have HK := hid hk
  have HN := hid hn
  have lP := hid H.mlt
  obtain ⟨n, hnn⟩ : ∃ n, n = b.ms.length := ⟨_, rfl⟩
  have NN := hid hnn
  rw [← hnn] at hlt HM hn
  clear H hR hx hnn hk
  unfold gv MbP.at'
  unfold MbP.at' at HM
  go_enter Tryz.func20, Tryz.ntmps20
  go_upto_region 1 with fail
  obtain ⟨bB, hbB⟩ : ∃ g, g = w.heap.size := ⟨_, rfl⟩
  obtain ⟨gg, hgg⟩ : ∃ g, g = w.heap.size + 1 := ⟨_, rfl⟩
  obtain ⟨gw, hgw⟩ : ∃ g, g = w.heap.size + 2 := ⟨_, rfl⟩
  rw [show w.heap.size + 1 + 1 = gw by omega, ← hgg, ← hbB]
  generalize hW : World.alloc (World.alloc (World.alloc w _) _) _ = w1
  have E1 := hid (show Blk w1 bB 30 #[MbP.at' g] by rw [hbB, ← hW]; exact ((Blk.new _ _ _).alloc _).alloc _)
  have G1 := hid (show Blk w1 gg tyG #[.int .i64 a, .int .i64 c] by rw [hgg, ← hW]; exact (Blk.top rfl (by simp)).alloc _)
  have W1 := hid (show Blk w1 gw tyW (wrL kk i x).toArray by rw [hgw, ← hW]; exact Blk.top rfl (by simp))
  have B1 := hid (show Below w.heap.size w w1 by rw [← hW]; exact (((Below.refl _ _).alloc (Nat.le_refl _) _).alloc (by simp) _).alloc (by simp; omega) _)
  have l1 : w.heap.size ≤ bB := by omega
  have l2 : w.heap.size ≤ gw := by omega
  have e0 : w1.cell? ⟨bB, 0, none⟩ = some (.pointer (some ⟨g, 0, none⟩)) := E1.out.cell 0
  clear hbB hgg hgw hW
  go_wp2_with (first | ((with_reducible apply ldR (cs := #[Value.int .i64 a, .int .i64 c]) (tGe _ _)); rfl; exact G1.out.whole) | ((with_reducible apply ldR (cs := (wrL kk i x).toArray) (tWr kk i x)); rfl; exact W1.out.whole))
  refine (reach_gen (.pointer (some ⟨g, 0, none⟩)) n a c kk i x hi w1 hlt fun w' hb => HM.out w' (B1.out.trans (hb.mono B1.out.size))).mono ?_
  rintro e w2 ⟨rfl, h2⟩
  have E2 := hid (E1.out.below h2 E1.out.lt)
  have G2 := hid (G1.out.below h2 G1.out.lt)
  have W2 := hid (W1.out.below h2 W1.out.lt)
  have B2 := hid (B1.out.trans (h2.mono B1.out.size))
  clear h2 E1 G1 W1 B1 e0 HM
  cases hh : rch n a c kk i with
  | none =>
    have hR2 : R = ([], 2, b) := by rw [HR.out]; unfold putR; rw [← NN.out, hh]
    have hE : rchE n a c kk i = 2 := by unfold rchE; rw [if_neg (by omega), hh]
    have hH : rchH n a c kk i = hoL 0 0 0 := by unfold rchH; rw [hh]
    rw [hE, hH]
    have HR2 := hid hR2
    clear hR2 hE hH hh
    go_wp2_with ((with_reducible apply stR (tHo 0 0 0)); rfl; rfl; exact Blk.new _ _ _; rfl; exact ho_one _ _ _)
    go_ret2
    have b3 := below_setRow (B2.out.alloc B2.out.size (.cells (hoL 0 0 0) tyH)) B2.out.size (hoL 0 0 0)
    refine ⟨.slice none 0 0, by rw [HR2.out]; rfl, by rw [HR2.out]; exact ownI_nil _ _, by rw [HR2.out]; exact ⟨F, (HP.out.mono (Nat.le_add_right _ _)).below hC b3, rfl, rfl, fun _ e => .inl e, fun _ e => .inr (.inl e), Turn.of_new b3⟩⟩
  | some y =>
    obtain ⟨f, j, p⟩ := y
    obtain ⟨hna, hom⟩ := rch_some hh
    obtain ⟨m, q, hma, _, _, hm4, hm64, hj1, hjm, hf, _⟩ := hom_some hom
    have hmn : m = n := by omega
    subst hmn
    have HRR := hid (show R = ((took (pe p x) (pt p x) b (rnd m f j)).1.getD [], tkE (took (pe p x) (pt p x) b (rnd m f j)).1, (took (pe p x) (pt p x) b (rnd m f j)).2) by rw [HR.out]; unfold putR; rw [← NN.out, hh])
    have hE : rchE m a c kk i = 0 := by unfold rchE; rw [if_neg (by omega), hh]
    have hH : rchH m a c kk i = hoL f j p := by unfold rchH; rw [hh]
    rw [hE, hH]
    clear hE hH hh hom HR
    subst hna
    go_upto_region 2 with ((with_reducible apply stR (tHo f j p)); rfl; rfl; exact Blk.new _ _ _; rfl; exact ho_one _ _ _)
    obtain ⟨gh, hgh⟩ : ∃ g, g = w2.heap.size := ⟨_, rfl⟩
    rw [← hgh]
    generalize hW : World.setRow (World.alloc w2 _) _ _ = w3
    have K3 := hid (show Blk w3 gh tyH (hoL f j p) by rw [← hW, hgh]; exact (Blk.new w2 _ _).setRow_same _)
    have b3 : Below w2.heap.size w2 w3 := by rw [← hW, hgh]; exact below_setRow ((Below.refl _ _).alloc (Nat.le_refl _) _) (Nat.le_refl _) _
    have B3 := hid (B2.out.trans (b3.mono B2.out.size))
    have E3 := hid (E2.out.below b3 E2.out.lt)
    have G3 := hid (G2.out.below b3 G2.out.lt)
    have W3 := hid (W2.out.below b3 W2.out.lt)
    have l3 : w.heap.size ≤ gh := by rw [hgh]; exact B2.out.size
    have r0 : w3.cell? ⟨gg, 0, none⟩ = some (.int .i64 (m : Nat)) := G3.out.cell 0
    clear hW b3 hgh G2 E2 W2 B2
    go_wp2_with ((with_reducible apply ldR (cs := hoL f j p) (tHo f j p)); rfl; exact K3.out.whole)
    refine (around_any f j p m w3).mono ?_
    rintro e w4 ⟨rfl, h4, k1, k2, _⟩
    have B4 := hid (B3.out.trans (h4.mono B3.out.size))
    have K4 := hid (K3.out.below h4 K3.out.lt)
    have E4 := hid (E3.out.below h4 E3.out.lt)
    have W4 := hid (W3.out.below h4 W3.out.lt)
    have P4 := hid (HP.out.below hC B4.out)
    have hw3 := B3.out.size
    have lP4 := hid (show ∀ q, mutP F q → q < w.heap.size from lP.out)
    have TK := hid (took_any hC (pe p x) (pt p x) (pt_steps p x) f j m p w3.heap.size (w3.heap.size + 1) (by omega) hm64 (by omega) hf 56 #[] #[.pointer (some ⟨bB, 0, none⟩), .pointer (some ⟨gh, 0, none⟩), .pointer (some ⟨gw, 0, none⟩)] P4.out
      (Nat.le_trans (Nat.add_le_add_left (Nat.mul_le_mul_right _ (show j ≤ 64 by omega)) k) HK.out) k1 k2 (fun e => by have := lP4.out _ e; omega) (fun e => by have := lP4.out _ e; omega) (enters_of Tryz.func56 (by kernel_rfl) rfl)
      fun y W F' k' b' ht hP' _ hkk => by
        have n1 : ∀ q, w.heap.size ≤ q → q < w4.heap.size → ¬ (mutP F q ∨ w4.heap.size ≤ q) := fun q h1 h2 e => by
          rcases e with e | e
          · have := lP4.out q e; omega
          · omega
        exact put1_any hC hP' hkk y f j p bB gh gw kk i x HX.out (E4.out.turn ht (n1 _ l1 E4.out.lt)) (K4.out.turn ht (n1 _ l3 K4.out.lt)) (W4.out.turn ht (n1 _ l2 W4.out.lt)))
    clear h4 k1 k2 B3 G3 K3 E3 W3 r0 K4 E4 W4
    go_wp2_with fail
    refine TK.out.mono ?_
    rintro r w5 ⟨v, E, rfl, o5, hE, ho⟩
    have O5 := hid (OwnI.down o5 B4.out.size)
    have HO := hid (outQ.newer B4.out ho)
    have HE := hid hE
    have hkk : k + j * (b.steps.length + 2) ≤ k + 64 * (b.steps.length + 2) := Nat.add_le_add_left (Nat.mul_le_mul_right _ (show j ≤ 64 by omega)) k
    obtain ⟨A5, c5, rfl⟩ := OwnI.len o5
    clear o5 ho hE TK P4 B4 lP4
    go_wp2_with fail
    go_ret2
    exact ⟨_, by rw [HRR.out, ← HE.out]; rfl, by rw [HRR.out]; exact O5.out, by rw [HRR.out]; exact HO.out.mono hkk⟩
def reaR (b : Bs) (a c kk i m : Int) : (Nat → Nat) × Int × Bs :=
  if (b.ms.length : Int) = a ∧ 0 ≤ m ∧ m < a then (match pl a c kk i with
    | some p => ((rdB (BuM.ahead b) m (p : Int)).s, (rdB (BuM.ahead b) m (p : Int)).e, BuM.rdT b m (p : Int))
    | none => (fun _ => 0, 2, b)) else (fun _ => 0, 2, b)
theorem zSeB : Tryz.prog.built 37 [] = some (ar 64 fun _ => 0) := by kernel_rfl
end
end MiM
end Go.Proofs.YtklmjdhhnnanoaaGreatDoor
set_option maxRecDepth 100000
namespace Go.Proofs.YtklmjdhhnnanoaaGreatDoor
open Go.ChangeShapes Go.WideShapes Go.ChangeAt Go.RowKit
attribute [local go_sem] GivesE
section
variable {P : Program}
theorem any_set {Q : Exit → Act → World → Prop} {D : (Nat → Bool) → World → Prop} {a : Act} {w : World} {l : List Oper} (st : Nat → Bool) (n : Nat) (hst : ∀ j, st j = true → j < n) (ht : tidy l.toArray = true) (hB : tailB l.toArray n = true)
    (hirr : ∀ d d' w, (∀ j, st j = true → d j = d' j) → D d w → D d' w) (hC : D (fun _ => false) w.drew)
    (h : wpM P l.toArray st D (fun a' => ∀ w', D (fun _ => true) w' → wpList P l.toArray Q (l.drop n) a' w') 0 (l.take n) a) : wpAny P .any l.toArray Q l.toArray.size (Array.replicate l.toArray.size false) a { w with drawn := w.drawn + 1 } := by
  obtain ⟨vals, hq, hs⟩ := wpM_vals _ _ _ h
  refine region_coreA (Γ := Unit) (C := fun _ L w => D (fun j => L.getD j false) w) n ht hB () (hirr _ _ _ (fun j _ => (getD_replicate_false _ j).symm) hC) (fun _ => vals) (fun i o hi γ L w hsz hr hC' => ⟨(), fun _ _ => rfl, ?_⟩)
    (fun _ L w' hall hC' => hq w' (hirr _ _ _ (fun j hj => hall j (hst j hj)) hC'))
  have hun := getD_both (mem_ready.1 hr).1
  have hlt : i < L.size := by
    obtain ⟨o', ho', _⟩ := (mem_ready.1 hr).2
    have := (Array.getElem?_eq_some_iff.1 ho').1
    simp at this; omega
  rcases hs i o hi with ⟨h1, ⟨h2, h3⟩ | ⟨h2, h3⟩⟩ | ⟨h1, h2, h3⟩
  · rw [Nat.zero_add] at h2 h3
    refine .inl ⟨h1, gives_imp (h3 _ w hun hC') fun w' hw' => hirr _ _ _ (fun j _ => ?_) hw'⟩
    unfold upB
    by_cases e : j = i
    · subst e; rw [if_pos rfl]; simp [hlt]
    · rw [if_neg e, getD_set_ne false (Ne.symm e)]
  · rw [Nat.zero_add] at h2
    refine .inl ⟨h1, gives_imp (h3 _ w hC') fun w' hw' => hirr _ _ _ (fun j hj => ?_) hw'⟩
    have e : j ≠ i := fun e => by subst e; rw [h2] at hj; cases hj
    rw [getD_set_ne false (Ne.symm e)]
  · rw [Nat.zero_add] at h2
    refine .inr ⟨h1, h3, hirr _ _ _ (fun j hj => ?_) hC'⟩
    have e : j ≠ i := fun e => by subst e; rw [h2] at hj; cases hj
    rw [getD_set_ne false (Ne.symm e)]
theorem wpi_region_set {Q : Exit → Act → World → Prop} {lo n : Nat} {id : Nat} {D : (Nat → Bool) → World → Prop} {a : Act} {w : World} {l : List Oper} (st : Nat → Bool) (m : Nat) (hst : ∀ j, st j = true → j < m) (hm : P.follows .mixedOrders = true) (hp : l.all plainOp = true) (hL : ¬ LetsOut Q) (ht : tidy l.toArray = true) (hB : tailB l.toArray m = true)
    (hirr : ∀ d d' w, (∀ j, st j = true → d j = d' j) → D d w → D d' w) (hC : D (fun _ => false) w.drew)
    (h : wpM P l.toArray st D (fun a' => ∀ w', D (fun _ => true) w' → wpList P l.toArray Q (l.drop m) a' w') 0 (l.take m) a) : (Code.region id l.toArray true).wpIn (Fence.wide.inRound lo) n P Q a w :=
  wpIn_region_any hm (anyIn_of (fun _ _ ho => plain_at hp ho) hL _ _ _ _ (any_set st m hst ht hB hirr hC h))
end
end Go.Proofs.YtklmjdhhnnanoaaGreatDoor
set_option maxRecDepth 100000
namespace Go.Proofs.YtklmjdhhnnanoaaGreatDoor
open Go.ChangeShapes Go.WideShapes Go.ChangeAt Go.RowKit
attribute [local go_sem] Gives
namespace TgP
section
variable {ops : Array Oper} {a : Act} {rest : List Oper} {dst : Option Tmp} {ty : TypeId} {pos : String} {after : Array Edge} {x y : Operand} {g o n k : Nat} {f : Nat → Nat} {T : TypeId} {st : Nat → Bool} {D : (Nat → Bool) → World → Prop} {Qk : Act → Prop} {gd : Option (Nat × Bool)}
theorem mld (hT : ArT T n) (hk : st k = false) (hwt : Region.wanted ⟨dst, .load T x, ty, pos, after, gd⟩ (yielded ops a.tmps) = true) (hx : a.eval x = .pointer (some ⟨g, o, none⟩)) (hb : ∀ d w, D d w → w.rangeAt g o (ar n f).toList) (h : wpM Tryz.prog ops st D Qk (k + 1) rest (a.put dst (.agg (ar n f)))) :
    wpM Tryz.prog ops st D Qk k (⟨dst, .load T x, ty, pos, after, gd⟩ :: rest) a :=
  wpM_val hk hwt (fun d w hw => gives_value (w' := w) (by simp only [execOp, hx, Sem.run_bind, run_ldm hT (hb d w hw), Result.andThen_ok, Sem.run_pure]) hw) h
theorem mst {t : TypeId} (hT : ArT T n) (hk : st k = true) (hwt : Region.wanted ⟨dst, .store T x y, ty, pos, after, gd⟩ (yielded ops a.tmps) = true) (hx : a.eval x = .pointer (some ⟨g, 0, none⟩)) (hy : a.eval y = .agg (ar n f))
    (hb : ∀ d w, d k = false → D d w → ∃ f0, Blk w g t (ar n f0)) (hD : ∀ d w, d k = false → D d w → D (upB d k) (w.setRow g (ar n f))) (h : wpM Tryz.prog ops st D Qk (k + 1) rest (a.put dst undef)) :
    wpM Tryz.prog ops st D Qk k (⟨dst, .store T x y, ty, pos, after, gd⟩ :: rest) a :=
  wpM_put hk hwt (fun d w hd hw => gives_skip (w' := w.setRow g (ar n f)) (by
    obtain ⟨f0, hb0⟩ := hb d w hd hw
    have := run_storeVar_row (P := Tryz.prog) w g t T (ar n f0) (ar n f) hb0 (hT.size.trans (by rw [size_ar])) (by rw [size_ar, size_ar]) ar_one
    simp only [execOp, hx, hy, Instr.storeAt, Instr.sureAddr, Sem.run_bind, this, Result.andThen_ok, Sem.run_pure]) (hD d w hd hw)) h
end
end TgP
end Go.Proofs.YtklmjdhhnnanoaaGreatDoor
set_option maxRecDepth 100000
namespace Go.Proofs.YtklmjdhhnnanoaaGreatDoor
namespace BytM
def dig : Nat → Nat → List Nat
  | 0, _ => []
  | w + 1, n => (n / 256 ^ w % 256) :: dig w n
def val (l : List Nat) : Nat := l.foldl (fun n b => 256 * n + b) 0
theorem dig_length : ∀ w n, (dig w n).length = w
  | 0, _ => rfl
  | w + 1, n => by rw [dig, List.length_cons, dig_length w n]
theorem dig_256 : ∀ w n, B256 (dig w n)
  | 0, _ => fun x hx => by cases hx
  | w + 1, n => fun x hx => by
    rw [dig] at hx
    rcases List.mem_cons.1 hx with rfl | hx
    · exact Nat.mod_lt _ (by omega)
    · exact dig_256 w n x hx
theorem dig_get : ∀ (w n k : Nat), k < w → (dig w n).getD k 0 = n / 256 ^ (w - 1 - k) % 256
  | 0, _, _, h => absurd h (by omega)
  | w + 1, n, 0, _ => by rw [dig]; simp
  | w + 1, n, k + 1, h => by
    rw [dig, List.getD_cons_succ, dig_get w n k (by omega), show w + 1 - 1 - (k + 1) = w - 1 - k by omega]
theorem dig_step {w n k : Nat} (h : k < w) : (dig w n).take (k + 1) = (dig w n).take k ++ [n / 256 ^ (w - 1 - k) % 256] := by
  have hl : k < (dig w n).length := by rw [dig_length]; exact h
  rw [List.take_succ_eq_append_getElem hl, ← nums_at hl, dig_get w n k h]
def isW (w : Int) : Bool := decide (w = 1) || decide (w = 2) || decide (w = 4) || decide (w = 8)
def okN (w : Int) (n : Nat) : Bool := isW w && decide (n < 256 ^ w.toNat)
def txt (s : List Nat) : List Nat := dig 2 s.length ++ s
def flatP : List (List Nat) → List Nat
  | [] => []
  | p :: ps => dig 4 p.length ++ p ++ flatP ps
theorem flatP_append : ∀ (a b : List (List Nat)), flatP (a ++ b) = flatP a ++ flatP b
  | [], _ => rfl
  | p :: a, b => by rw [List.cons_append, flatP, flatP, flatP_append a b, List.append_assoc (dig 4 p.length ++ p)]
theorem flatP_256 : ∀ {ps : List (List Nat)}, (∀ p ∈ ps, B256 p) → B256 (flatP ps)
  | [], _ => fun x hx => by cases hx
  | p :: ps, h => ((dig_256 _ _).append (h p List.mem_cons_self)).append (flatP_256 fun q hq => h q (List.mem_cons_of_mem _ hq))
def rowB (d : Nat) (ps : List (List Nat)) : List Nat := d :: ps.length :: flatP ps
abbrev Tp := Option (List Nat)
def cutL (st : Tp) (n : Int) : List Nat := match st with
  | none => []
  | some l => if 0 ≤ n ∧ n ≤ (l.length : Int) then l.take n.toNat else []
def cutS (st : Tp) (n : Int) : Tp := match st with
  | none => none
  | some l => if 0 ≤ n ∧ n ≤ (l.length : Int) then some (l.drop n.toNat) else none
def numL (st : Tp) (w : Int) : Nat := if isW w then val (cutL st w) else 0
def numS (st : Tp) (w : Int) : Tp := if isW w then cutS st w else none
def txtL (st : Tp) (most : Int) : List Nat := if (numL st 2 : Int) > most then [] else cutL (numS st 2) (numL st 2 : Nat)
def txtS (st : Tp) (most : Int) : Tp := if (numL st 2 : Int) > most then none else cutS (numS st 2) (numL st 2 : Nat)
def T256 (st : Tp) : Prop := ∀ l, st = some l → B256 l
theorem T256.some {l : List Nat} (h : B256 l) : T256 (some l) := fun m e => by cases e; exact h
theorem T256.none : T256 none := fun m e => by cases e
theorem T256.cut {st : Tp} (h : T256 st) (n : Int) : T256 (cutS st n) := by
  intro l e
  unfold cutS at e
  split at e
  · cases e
  · split at e
    · cases e; exact (h _ rfl).drop _
    · cases e
theorem T256.num {st : Tp} (h : T256 st) (w : Int) : T256 (numS st w) := by
  unfold numS
  split
  · exact h.cut w
  · exact T256.none
theorem T256.txt {st : Tp} (h : T256 st) (m : Int) : T256 (txtS st m) := by
  unfold txtS
  split
  · exact T256.none
  · exact (h.num 2).cut _
def prsL : Nat → Tp → List (List Nat)
  | 0, _ => []
  | k + 1, st => cutL (numS st 4) (numL st 4 : Nat) :: prsL k (cutS (numS st 4) (numL st 4 : Nat))
def prsS : Nat → Tp → Tp
  | 0, st => st
  | k + 1, st => prsS k (cutS (numS st 4) (numL st 4 : Nat))
def parse : List Nat → Option (Nat × List (List Nat))
  | d :: m :: l => if 16 < m then none else if prsS m (some l) = some [] then some (d, prsL m (some l)) else none
  | _ => none
def pDom (l : List Nat) : Nat := numL (some l) 1
def pMany (l : List Nat) : Nat := numL (numS (some l) 1) 1
def pRest (l : List Nat) : Tp := numS (numS (some l) 1) 1
end BytM
end Go.Proofs.YtklmjdhhnnanoaaGreatDoor
set_option maxRecDepth 100000
namespace Go.Proofs.YtklmjdhhnnanoaaGreatDoor
open Go.ChangeShapes Go.WideShapes Go.ChangeAt Go.RowKit
attribute [local go_sem] Gives
namespace TgP
theorem tK : ArT 41 32 := ⟨by kernel_rfl, ⟨_, Tryz.underlying41, rfl⟩, (zero_of_info (P := Tryz.prog) (t := 41) (v := .agg (ar 32 fun _ => 0)) (n := 32) (by kernel_rfl)).1⟩
theorem tT : ArT 81 32 := ⟨by kernel_rfl, ⟨_, Tryz.underlying81, rfl⟩, (zero_of_info (P := Tryz.prog) (t := 81) (v := .agg (ar 32 fun _ => 0)) (n := 32) (by kernel_rfl)).1⟩
theorem tS : ArT 37 64 := ⟨by kernel_rfl, ⟨_, Tryz.underlying37, rfl⟩, (zero_of_info (P := Tryz.prog) (t := 37) (v := .agg (ar 64 fun _ => 0)) (n := 64) (by kernel_rfl)).1⟩
def ls (n : Nat) (f : Nat → Nat) : List Nat := (List.range n).map f
theorem ls_length (n : Nat) (f : Nat → Nat) : (ls n f).length = n := by simp [ls]
theorem ls_256 {n : Nat} {f : Nat → Nat} (h : ∀ i, f i < 256) : B256 (ls n f) := fun x hx => by
  obtain ⟨i, _, rfl⟩ := List.mem_map.1 hx
  exact h i
def bits (x : Int) : Nat := (x % 18446744073709551616).toNat
theorem bits_lt (x : Int) : bits x < 18446744073709551616 := by unfold bits; omega
theorem ownDown {w : World} {B B' : Nat} {v : Value} {l : List Nat} (h : Own 5 .u8 w B v l) (hB : B' ≤ B) : Own 5 .u8 w B' v l :=
  ⟨h.1, h.2.imp id fun ⟨g, cap, cur, hv, hb, hr⟩ => ⟨g, cap, cur, hv, Nat.le_trans hB hb, hr⟩⟩
def joined (f g : Nat → Nat) (j : Nat) : Nat := if j < 32 then f j else g (j - 32)
theorem rowB2_length {d x : Nat} {s : Nat → Nat} : (BytM.rowB d [BytM.dig 8 x, ls 64 s]).length = 82 := by
  unfold BytM.rowB BytM.flatP BytM.flatP BytM.flatP
  simp only [List.length_cons, List.length_append, BytM.dig_length, ls_length, List.length_nil]
theorem rowB2_256 {d : Nat} {l m : List Nat} (hd : d < 256) (h : B256 l) (h2 : B256 m) : B256 (BytM.rowB d [l, m]) := fun x hx => by
  unfold BytM.rowB at hx
  rcases List.mem_cons.1 hx with rfl | hx
  · exact hd
  rcases List.mem_cons.1 hx with rfl | hx
  · show 2 < 256; omega
  · refine BytM.flatP_256 (fun p hp => ?_) x hx
    rcases List.mem_cons.1 hp with rfl | hp
    · exact h
    · obtain rfl := List.mem_singleton.1 hp
      exact h2
def numT (d : Nat) (num : Int) (s : Nat → Nat) : List Nat := BytM.rowB d [BytM.dig 8 (bits num), ls 64 s]
def plainT (d : Nat) (l : List Nat) : List Nat := BytM.rowB d [l]
abbrev NumText (f d : Nat) : Prop := ∀ (num : Int), (-9223372036854775808 ≤ num ∧ num ≤ 9223372036854775807) → ∀ (s : Nat → Nat), (∀ i, s i < 256) → ∀ w : World,
  Calls Tryz.prog f #[.int .i64 num, .agg (ar 64 s)] w fun e w' => ∃ v, e = .returned v ∧ Own 5 .u8 w' w.heap.size v (numT d num s) ∧ Below w.heap.size w w'
abbrev PlainText (f d : Nat) : Prop := ∀ (A : Option Addr) (l : List Nat) (n cap : Nat), n ≤ 10000 → ∀ w : World, Arg w A l n cap →
  Calls Tryz.prog f #[.slice A n cap] w fun e w' => ∃ v, e = .returned v ∧ Own 5 .u8 w' w.heap.size v (plainT d l) ∧ Below w.heap.size w w'
end TgP
end Go.Proofs.YtklmjdhhnnanoaaGreatDoor
set_option maxRecDepth 100000
namespace Go.Proofs.YtklmjdhhnnanoaaGreatDoor
open Go.ChangeShapes Go.WideShapes Go.ChangeAt Go.RowKit
theorem mk0 {ops : Array Oper} {Q : Exit → Act → World → Prop} {a : Act} {w : World} {rest : List Oper} {dst : Option Tmp} {ty : TypeId} {pos : String} {after : Array Edge} {x y : Operand} {n : Nat} (hn : n ≤ 1000000)
    (hx : a.eval x = .int .i64 0) (hy : a.eval y = .int .i64 (n : Int)) (h : ∀ v w', Own 5 .u8 w' w.heap.size v [] → Below w.heap.size w w' → wpList Tryz.prog ops Q rest (a.put dst v) w') :
    wpList Tryz.prog ops Q (⟨dst, .makeSlice 93 x y, ty, pos, after, none⟩ :: rest) a w := by
  obtain ⟨i, hi, hz, h1, h2⟩ := eltB.inf
  obtain ⟨w', hr, ho, hg⟩ := run_make_own (P := Tryz.prog) w w.heap.size 93 5 i (.int .u8 0) 1 eltB.und hi hz h1 .i64 .i64 n (Nat.le_trans (Nat.mul_le_mul h2 hn) (by omega)) (by unfold maxLen; omega) (Nat.le_refl _)
  refine wpList_plain rfl fun K hK => ?_
  unfold Oper.wp execOp
  simp only [Sem.run_bind, hx, hy, hr, Result.andThen_ok]
  exact hK _ _ (h _ w' ho (below_none (Below.refl _ _) hg (Nat.le_refl _)))
end Go.Proofs.YtklmjdhhnnanoaaGreatDoor
set_option maxRecDepth 100000
namespace Go.Proofs.YtklmjdhhnnanoaaGreatDoor
open Go.ChangeShapes Go.WideShapes Go.ChangeAt Go.RowKit
def nats (s : ByteArray) : List Nat := s.data.toList.map (·.toNat)
section
variable {ops : Array Oper} {Q : Exit → Act → World → Prop} {a : Act} {w : World} {rest : List Oper} {dst : Option Tmp} {ty : TypeId} {pos : String} {after : Array Edge} {s x : Operand} {B g n cap i : Nat} {v : Value} {l : List Nat} {t : ByteArray}
end
theorem Own.at {w : World} {B : Nat} {v : Value} {l : List Nat} (h : Own 5 .u8 w B v l) (hl : 0 < l.length) : ∃ g cap, v = .slice (some ⟨g, 0, none⟩) l.length cap ∧ B ≤ g ∧ g < w.heap.size ∧ l.length ≤ cap ∧ cap ≤ maxLen ∧ ∀ i, i < l.length → w.cell? ⟨g, i, none⟩ = some (.int .u8 (l.getD i 0 : Nat)) ∧ w.frozen? ⟨g, i, none⟩ = false := by
  rcases h.2 with ⟨rfl, h0⟩ | ⟨g, cap, cur, rfl, hB, hg, hnc, hcm, hcs, ht⟩
  · omega
  · have hb : Blk w g 5 cur := hg
    refine ⟨g, cap, rfl, hB, hb.lt, hnc, hcm, fun i hi => ⟨?_, hb.frozen i⟩⟩
    rw [hb.cell]
    have h1 := nums_get .u8 hi
    rw [← ht, List.getElem?_take_of_lt (by omega), Array.getElem?_toList] at h1
    exact h1
theorem Own.put {w : World} {B g n cap i x : Nat} {l : List Nat} (h : Own 5 .u8 w B (.slice (some ⟨g, 0, none⟩) n cap) l) (_hi : i < l.length) :
    Own 5 .u8 (w.setCell ⟨g, i, none⟩ (.int .u8 (x : Nat))) B (.slice (some ⟨g, 0, none⟩) n cap) (l.set i x) := by
  rcases h.2 with ⟨e, h0⟩ | ⟨g2, cap2, cur, e, hB, hg, hnc, hcm, hcs, ht⟩
  · cases e
  · have e2 := e
    simp only [Value.slice.injEq, Option.some.injEq, Addr.mk.injEq, and_true] at e2
    obtain ⟨rfl, rfl, rfl⟩ := e2
    have hb : Blk w g 5 cur := hg
    refine ⟨?_, .inr ⟨g, cap, cur.setIfInBounds i (.int .u8 (x : Nat)), by rw [List.length_set], hB, hb.setCell_same i _, by rw [List.length_set]; exact hnc, hcm, by rw [Array.size_setIfInBounds]; exact hcs, ?_⟩⟩
    · simp [nums]
    · rw [Array.toList_setIfInBounds, List.length_set, List.take_set, ht]
      unfold nums
      rw [List.map_set]
theorem Own.other {e : TypeId} {k : IntKind} {w : World} {B g g' n cap : Nat} {l : List Nat} {cs : Array Value} (h : Own e k w B (.slice (some ⟨g, 0, none⟩) n cap) l) (hne : g' ≠ g) : Own e k (w.setRow g' cs) B (.slice (some ⟨g, 0, none⟩) n cap) l := by
  rcases h.2 with ⟨e', _⟩ | ⟨g2, cap2, cur, e', hB, hg, hr⟩
  · cases e'
  · have e2 := e'
    simp only [Value.slice.injEq, Option.some.injEq, Addr.mk.injEq, and_true] at e2
    obtain ⟨rfl, _, _⟩ := e2
    exact ⟨h.1, .inr ⟨_, cap2, cur, e', hB, Blk.setRow_other (t := e) (cs := cur) hg hne _, hr⟩⟩
end Go.Proofs.YtklmjdhhnnanoaaGreatDoor
set_option maxRecDepth 100000
namespace Go.Proofs.YtklmjdhhnnanoaaGreatDoor
open Go.ChangeShapes Go.WideShapes Go.ChangeAt Go.RowKit
attribute [local go_sem] Gives
end Go.Proofs.YtklmjdhhnnanoaaGreatDoor
set_option maxRecDepth 100000
namespace Go.Proofs.YtklmjdhhnnanoaaGreatDoor
open Go.ChangeShapes Go.WideShapes Go.ChangeAt Go.RowKit
attribute [local go_sem] Gives
theorem shr_cast (n j : Nat) : ((n : Int) / 2 ^ (8 * j) % 256) = ((n / 256 ^ j % 256 : Nat) : Int) := by
  have h : (256 : Nat) ^ j = 2 ^ (8 * j) := by rw [Nat.pow_mul]
  rw [h]
  simp
set_option maxHeartbeats 400000 in
theorem lay_any (v : Value) (l : List Nat) (B m n : Nat) (hm : m ≤ 8) (hsz : l.length ≤ 900000) (W : World) (ho : Own 5 .u8 W B v l) (hB : B ≤ W.heap.size) :
    Calls Tryz.prog 151 #[v, .int .i64 m, .int .u64 n] W fun e w' => ∃ v', e = .returned v' ∧ Own 5 .u8 w' B v' (l ++ BytM.dig m n) ∧ Below B W w' := by
  have HO := hid ho
  have HB := hid hB
  have HZ := hid hsz
  clear ho hB hsz
  go_enter Tryz.func151, Tryz.ntmps151
  go_wp2_with fail
  go_loopw [0, 9] (fun u i wr => ∃ (k : Nat) (vo : Value), k ≤ m ∧ i = .int .i64 k ∧ u = vo ∧ Hid (Own 5 .u8 wr B vo (l ++ (BytM.dig m n).take k)) ∧ Hid (Below B W wr)) (fun _ i _ => m - (intOf i).toNat)
  case atStart => exact ⟨0, _, by omega, rfl, rfl, hid (by rw [List.take_zero, List.append_nil]; exact HO.out), hid (Below.refl _ _)⟩
  case round =>
    obtain ⟨k, vo, hk, rfl, rfl, ho, hb⟩ := hrel
    by_cases hlt : k < m
    · have ti : (k : Int) < (m : Int) := by omega
      have hst := BytM.dig_step (n := n) hlt
      have hlen : ((BytM.dig m n).take k).length = k := by rw [List.length_take, BytM.dig_length]; omega
      have hx := shr_cast n (m - 1 - k)
      generalize n / 256 ^ (m - 1 - k) % 256 = x at *
      have HX := hid hx
      have HST := hid hst
      have HLEN := hid hlen
      have hzw := hb.out.size
      clear hx hst hlen
      go_wp2_with (at_builtin; (with_reducible apply wappN eltB); rfl; rfl; exact ho.out.alloc _; exact nums_one (x := x) (B := wr.heap.size + 1) (congrArg (Value.int .u8) HX.out) (Nat.lt_succ_self _); rfl; (rw [List.length_append, HLEN.out]; have := HZ.out; omega); (simp; have := HB.out; omega); intro v' w4 o4 g4)
      have b4 := below_grown (hb.out.alloc (Nat.le_trans HB.out hzw) (.cells #[.int .u8 (x : Nat)] 5)) (by rw [← HX.out]; exact g4) ho.out (Nat.le_refl _) HB.out
      go_roundw
      case rel => exact ⟨k + 1, v', by omega, by go_num, rfl, hid (by rw [HST.out, ← List.append_assoc]; exact o4), hid b4⟩
      case measure => simp [intOf]; omega
    · obtain rfl : k = m := by omega
      have ho2 := ho.out
      rw [List.take_of_length_le (by rw [BytM.dig_length]; exact Nat.le_refl _)] at ho2
      have O2 := hid ho2
      clear ho2 ho
      go_wp2_with fail
      go_ret
      exact ⟨_, rfl, O2.out, hb.out⟩
end Go.Proofs.YtklmjdhhnnanoaaGreatDoor
set_option maxRecDepth 100000
namespace Go.Proofs.YtklmjdhhnnanoaaGreatDoor
open Go.ChangeShapes Go.WideShapes Go.ChangeAt Go.RowKit
attribute [local go_sem] Gives
theorem B256.getD {l : List Nat} (h : B256 l) (k : Nat) : l.getD k 0 < 256 := by
  rw [List.getD_eq_getElem?_getD]
  cases e : l[k]? with
  | none => simp
  | some x => simp only [Option.getD_some]; exact h x (List.mem_of_getElem? e)
end Go.Proofs.YtklmjdhhnnanoaaGreatDoor
set_option maxRecDepth 100000
namespace Go.Proofs.YtklmjdhhnnanoaaGreatDoor
open Go.ChangeShapes Go.WideShapes Go.ChangeAt Go.RowKit
attribute [local go_sem] Gives
structure Rws (w : World) (A : Option Addr) (ls : List (List Nat)) (n cp : Nat) : Prop where
  len : ls.length = n
  cap : n ≤ cp
  max : cp ≤ maxLen
  b256 : ∀ l ∈ ls, B256 l
  none : A = none → n = 0 ∧ cp = 0
  prts : PrtsN w w.heap.size A ls
theorem Rws.on {w w' : World} {A : Option Addr} {ls : List (List Nat)} {n cap : Nat} (h : Rws w A ls n cap) (hb : Below w.heap.size w w') : Rws w' A ls n cap where
  len := h.len
  cap := h.cap
  max := h.max
  b256 := h.b256
  none := h.none
  prts := (h.prts.below hb (Nat.le_refl _)).more hb.size
theorem getD_mem {ls : List (List Nat)} {i : Nat} (h : i < ls.length) : ls.getD i [] ∈ ls := by
  rw [List.getD_eq_getElem?_getD, List.getElem?_eq_getElem h]; exact List.getElem_mem h
theorem Rws.part {w : World} {A : Option Addr} {ls : List (List Nat)} {n cap : Nat} (h : Rws w A ls n cap) {i : Nat} (hi : i < n) :
    ∃ b o A' c, A = some ⟨b, o, .none⟩ ∧ b < w.heap.size ∧ w.cell? ⟨b, o + i, .none⟩ = some (.slice A' (ls.getD i []).length c) ∧ Arg w A' (ls.getD i []) (ls.getD i []).length c := by
  obtain ⟨b, o, rfl, hl, hr⟩ := h.prts (by rw [h.len]; omega)
  obtain ⟨A', c, h1, h2, h3, h4, h5⟩ := hr i (by rw [h.len]; exact hi)
  exact ⟨b, o, A', c, rfl, hl, h1, rfl, h2, h3, h.b256 _ (getD_mem (by rw [h.len]; exact hi)), h5, h4⟩
theorem flatP_step {ls : List (List Nat)} {i : Nat} (h : i < ls.length) : BytM.flatP (ls.take (i + 1)) = BytM.flatP (ls.take i) ++ (BytM.dig 4 (ls.getD i []).length ++ ls.getD i []) := by
  have e : ls.getD i [] = ls[i] := by rw [List.getD_eq_getElem?_getD, List.getElem?_eq_getElem h]; rfl
  rw [List.take_succ_eq_append_getElem h, ← e, BytM.flatP_append]
  show _ ++ (BytM.dig 4 _ ++ _ ++ []) = _
  rw [List.append_nil]
theorem flatP_take_le (ls : List (List Nat)) (i : Nat) : (BytM.flatP (ls.take i)).length ≤ (BytM.flatP ls).length := by
  conv => rhs; rw [← List.take_append_drop i ls, BytM.flatP_append, List.length_append]
  omega
end Go.Proofs.YtklmjdhhnnanoaaGreatDoor
set_option maxRecDepth 100000
namespace Go.Proofs.YtklmjdhhnnanoaaGreatDoor
open Go.ChangeShapes Go.WideShapes Go.ChangeAt Go.RowKit
attribute [local go_sem] Gives
theorem dig1 {d : Nat} (h : d < 256) : BytM.dig 1 d = [d] := by
  show [d / 256 ^ 0 % 256] = [d]
  rw [Nat.pow_zero, Nat.div_one, Nat.mod_eq_of_lt h]
set_option maxHeartbeats 400000 in
theorem prow_any (d : Nat) (hd : d < 256) (A : Option Addr) (ls : List (List Nat)) (n cap : Nat) (hn : n ≤ 16) (hz : (BytM.flatP ls).length ≤ 800000) (W : World) (h : Rws W A ls n cap) :
    Calls Tryz.prog 140 #[.int .u8 d, .slice A n cap] W fun e w' => ∃ v, e = .returned (.tuple #[v, .int .i64 0]) ∧ Own 5 .u8 w' W.heap.size v (BytM.rowB d ls) ∧ Below W.heap.size W w' := by
  have t : decide ((16 : Int) < (n : Int)) = false := decide_eq_false (by omega)
  have H := hid h
  have HZ := hid hz
  have D1 := hid (dig1 hd)
  have N1 := hid (dig1 (d := n) (by omega))
  clear h hz
  go_enter Tryz.func140, Tryz.ntmps140
  go_wp2_with fail
  clear t
  go_loopw [6, 17] (fun u i wr => ∃ (k L : Nat), k ≤ n ∧ i = .int .i64 k ∧ u = .int .i64 ((2 + L : Nat) : Int) ∧ L ≤ 800000 ∧ Hid (L = (BytM.flatP (ls.take k)).length) ∧ W = wr) (fun _ i _ => n - (intOf i).toNat)
  case atStart => exact ⟨0, 0, by omega, rfl, rfl, by omega, hid rfl, rfl⟩
  case round =>
    obtain ⟨k, L, hk, rfl, rfl, hL, hLe, rfl⟩ := hrel
    by_cases hlt : k < n
    · have tk : (k : Int) < (n : Int) := by omega
      obtain ⟨b, o, A', c, rfl, _, q1, _⟩ := H.out.part hlt
      have hst := flatP_step (ls := ls) (i := k) (by rw [H.out.len]; exact hlt)
      have hle := flatP_take_le ls (k + 1)
      have hst2 := congrArg List.length hst
      rw [List.length_append, List.length_append, BytM.dig_length, ← hLe.out] at hst2
      have hM : (ls.getD k []).length ≤ 800000 := by have := HZ.out; omega
      generalize (ls.getD k []).length = M at *
      have hL2 : L + (4 + M) ≤ 800000 := by have := HZ.out; omega
      have S2 := hid hst2.symm
      clear hst hle hst2
      go_wp2_with fail
      go_roundw
      case rel => exact ⟨k + 1, L + (4 + M), by omega, by go_num, by go_num, hL2, S2, trivial⟩
      case measure => simp [intOf] <;> omega
    · obtain rfl : k = n := by omega
      have hL2 := hLe.out
      rw [List.take_of_length_le (by rw [H.out.len]; exact Nat.le_refl _)] at hL2
      have HL2 := hid hL2
      clear hL2 hLe
      have hk64 : (k : Int) ≤ 16 := by omega
      go_upto_region 10 with ((with_reducible apply mk0 (n := 2 + L)); omega; rfl; rfl; intro v2 w2 o2 b2)
      have O2 := hid o2
      have B2 := hid b2
      clear o2 b2
      go_wp2_with fail
      refine (lay_any _ [] W.heap.size 1 d (by omega) (by simp) w2 O2.out B2.out.size).mono ?_
      rintro e w3 ⟨v3, rfl, o3, b3⟩
      rw [D1.out, List.nil_append] at o3
      have O3 := hid o3
      have B3 := hid (B2.out.trans b3)
      clear o3 b3 O2 B2
      go_wp2_with fail
      refine (lay_any v3 [d] W.heap.size 1 k (by omega) (by simp) w3 O3.out B3.out.size).mono ?_
      rintro e w4 ⟨v4, rfl, o4, b4⟩
      rw [N1.out] at o4
      have O4 := hid o4
      have B4 := hid (B3.out.trans b4)
      clear o4 b4 O3 B3
      go_wp2_with fail
      go_loopw [9, 40] (fun u i wr => ∃ (j : Nat) (vo : Value), j ≤ k ∧ i = .int .i64 j ∧ u = vo ∧ Hid (Own 5 .u8 wr W.heap.size vo (d :: k :: BytM.flatP (ls.take j))) ∧ Hid (Below W.heap.size W wr)) (fun _ i _ => k - (intOf i).toNat)
      case atStart => exact ⟨0, _, by omega, rfl, rfl, O4, B4⟩
      case round =>
        clear O4 B4
        obtain ⟨j, vo, hj, rfl, rfl, ho, hb⟩ := hrel
        by_cases hlt2 : j < k
        · have tj : (j : Int) < (k : Int) := by omega
          obtain ⟨b, o, A', c, rfl, hbl, q0, a1⟩ := H.out.part hlt2
          have q1 := (hb.out.cell (p := ⟨b, o + j, none⟩) hbl).trans q0
          have hst := flatP_step (ls := ls) (i := j) (by rw [H.out.len]; exact hlt2)
          have hle := flatP_take_le ls (j + 1)
          rw [hst, List.length_append, List.length_append, BytM.dig_length] at hle
          have hM : (ls.getD j []).length ≤ 800000 := by have := HZ.out; omega
          have hLt : (BytM.flatP (ls.take j)).length ≤ 800000 := by have := HZ.out; omega
          have HLT := hid hLt
          have ST := hid hst
          generalize ls.getD j [] = m at *
          have A1 := hid a1
          have HLE := hid (Nat.le_trans hle HZ.out)
          clear hst hle hLt a1 q0
          obtain ⟨M, hMe⟩ : ∃ M, M = m.length := ⟨_, rfl⟩
          rw [← hMe] at q1 hM
          have ME := hid hMe
          clear hMe
          go_wp2_with fail
          refine (lay_any u9 _ W.heap.size 4 M (by omega) (by simp only [List.length_cons]; have := HLT.out; omega) wr ho.out hb.out.size).mono ?_
          rintro e w5 ⟨v5, rfl, o5, b5⟩
          have O5 := hid o5
          have B5 := hid (hb.out.trans b5)
          have a5 := A1.out.on B5.out
          rw [← ME.out] at a5
          have A5 := hid a5
          clear o5 b5 a5 q1
          go_wp2_with (at_builtin; (with_reducible apply wappN_any eltB); rfl; rfl; exact A5.out.none; exact O5.out; exact A5.out.byt.nums; exact ME.out.symm; (simp only [List.length_append, List.length_cons, BytM.dig_length]; have := HLE.out; have := ME.out; omega); exact B5.out.size; intro v6 w6 o6 g6)
          have b6 := below_grown B5.out g6 O5.out (Nat.le_refl _) (Nat.le_refl _)
          go_roundw
          case rel => exact ⟨j + 1, v6, by omega, by go_num, rfl, hid (by rw [ST.out, ← ME.out, ← List.append_assoc]; exact o6), hid b6⟩
          case measure => simp [intOf] <;> omega
        · obtain rfl : j = k := by omega
          have ho2 := ho.out
          rw [List.take_of_length_le (by rw [H.out.len]; exact Nat.le_refl _)] at ho2
          have O2 := hid ho2
          have HN := hid H.out.len
          clear ho2 ho
          go_wp2_with fail
          go_ret2
          refine ⟨_, rfl, ?_, hb.out⟩
          unfold BytM.rowB
          rw [HN.out]
          exact O2.out
end Go.Proofs.YtklmjdhhnnanoaaGreatDoor
set_option maxRecDepth 100000
namespace Go.Proofs.YtklmjdhhnnanoaaGreatDoor
open Go.ChangeShapes Go.WideShapes Go.ChangeAt Go.RowKit
attribute [local go_sem] Gives
namespace TgP
theorem rws_lit {w : World} {g n : Nat} {t : TypeId} {cs : Array Value} {ls : List (List Nat)} (hb : Blk w g t cs) (hn : ls.length = n) (hm : n ≤ 1000) (h : ∀ i, i < ls.length → ∃ A' c, cs[i]? = some (.slice A' (ls.getD i []).length c) ∧ Arg w A' (ls.getD i []) (ls.getD i []).length c) : Rws w (some ⟨g, 0, none⟩) ls n n where
  len := hn
  cap := Nat.le_refl _
  max := by unfold maxLen; omega
  b256 l hl := by
    obtain ⟨i, hi⟩ := List.getElem?_of_mem hl
    have hi' := (List.getElem?_eq_some_iff.1 hi).1
    obtain ⟨A', c, _, h2⟩ := h i hi'
    have e : ls.getD i [] = l := by rw [List.getD_eq_getElem?_getD, hi]; rfl
    rw [e] at h2
    exact h2.b256
  none h := by cases h
  prts _ := ⟨g, 0, rfl, hb.lt, fun i hi => by
    obtain ⟨A', c, h1, h2⟩ := h i hi
    exact ⟨A', c, by rw [Nat.zero_add, hb.cell i, h1], h2.cap, h2.max, h2.byt, fun e => by have := h2.none e; exact this⟩⟩
theorem ar_arg {w : World} {g n : Nat} {t : TypeId} {f : Nat → Nat} (h : Blk w g t (ar n f)) (hf : ∀ i, f i < 256) (hn : n ≤ 100000) : Arg w (some ⟨g, 0, none⟩) (ls n f) (ls n f).length n where
  len := rfl
  cap := by rw [ls_length]; exact Nat.le_refl _
  max := by unfold maxLen; omega
  b256 := ls_256 hf
  none e := by cases e
  byt := fun _ => ⟨g, 0, rfl, h.lt, fun i hi => by
    rw [ls_length] at hi
    rw [Nat.zero_add, h.cell, get_ar hi]
    unfold ls
    rw [List.getD_eq_getElem?_getD, List.getElem?_map, List.getElem?_range hi]; rfl⟩
set_option maxHeartbeats 400000 in
theorem message_any (d : Nat) (hd : d < 256) (A : Option Addr) (ls : List (List Nat)) (n cap : Nat) (hn : n ≤ 16) (hz : (BytM.flatP ls).length ≤ 800000) (W : World) (h : Rws W A ls n cap) :
    Calls Tryz.prog 123 #[.int .u8 d, .slice A n cap] W fun e w' => ∃ v, e = .returned v ∧ Own 5 .u8 w' W.heap.size v (BytM.rowB d ls) ∧ Below W.heap.size W w' := by
  have HC := hid (prow_any d hd A ls n cap hn hz W h)
  clear h hz hn hd
  go_enter Tryz.func123, Tryz.ntmps123
  go_wp2_with fail
  refine HC.out.mono ?_
  rintro e w2 ⟨v, rfl, o2, h2⟩
  have O2 := hid o2
  have B2 := hid h2
  clear o2 h2 HC
  go_wp2_with fail
  go_ret
  exact ⟨_, rfl, O2.out, B2.out⟩
theorem flat2 {l m : List Nat} : (BytM.flatP [l, m]).length = 8 + l.length + m.length := by
  show (BytM.dig 4 l.length ++ l ++ (BytM.dig 4 m.length ++ m ++ [])).length = _
  rw [List.append_nil, List.length_append, List.length_append, List.length_append, BytM.dig_length, BytM.dig_length]; omega
theorem rws2 {w : World} {g n cap m cap2 : Nat} {t : TypeId} {A B : Option Addr} {l k : List Nat} (hb : Blk w g t #[.slice A n cap, .slice B m cap2]) (h : Arg w A l n cap) (h2 : Arg w B k m cap2) : Rws w (some ⟨g, 0, none⟩) [l, k] 2 2 :=
  rws_lit hb rfl (by omega) fun i hi => by
    have hi' : i = 0 ∨ i = 1 := by simp at hi; omega
    rcases hi' with rfl | rfl
    · have e : ([l, k] : List (List Nat)).getD 0 [] = l := rfl
      rw [e, h.len]
      exact ⟨A, cap, rfl, h⟩
    · have e : ([l, k] : List (List Nat)).getD 1 [] = k := rfl
      rw [e, h2.len]
      exact ⟨B, cap2, rfl, h2⟩
end TgP
end Go.Proofs.YtklmjdhhnnanoaaGreatDoor
set_option maxRecDepth 100000
namespace Go.Proofs.YtklmjdhhnnanoaaGreatDoor
open Go.ChangeShapes Go.WideShapes Go.ChangeAt Go.RowKit
attribute [local go_sem] Gives
namespace TgP
theorem t8 : ArT 199 8 := ⟨by kernel_rfl, ⟨_, Tryz.underlying199, rfl⟩, (zero_of_info (P := Tryz.prog) (t := 199) (v := .agg (ar 8 fun _ => 0)) (n := 8) (by kernel_rfl)).1⟩
def dgF (n j : Nat) : Nat := n / 256 ^ (7 - j) % 256
theorem dgF_lt (n j : Nat) : dgF n j < 256 := Nat.mod_lt _ (by omega)
theorem dgF_ls (n : Nat) : ls 8 (dgF n) = BytM.dig 8 n := rfl
theorem shr8 {U i : Nat} (h : i < 8) : (U : Int) / 2 ^ (8 * (7 - i)) % 256 = ((dgF U i : Nat) : Int) := by
  have e : (256 : Nat) ^ (7 - i) = 2 ^ (8 * (7 - i)) := by rw [Nat.pow_mul]
  unfold dgF
  rw [e]
  simp
set_option maxHeartbeats 400000 in
set_option maxRecDepth 100000 in
theorem numbered_any (d : Nat) (hd : d < 256) (num : Int) (s : Nat → Nat) (hs : ∀ i, s i < 256) (w : World) :
    Calls Tryz.prog 98 #[.int .u8 d, .int .i64 num, .agg (ar 64 s)] w fun e w' => ∃ v, e = .returned v ∧ Own 5 .u8 w' w.heap.size v (numT d num s) ∧ Below w.heap.size w w' := by
  have HF := hid hs
  have HD := hid hd
  have hbi : num % 18446744073709551616 = ((bits num : Nat) : Int) := by unfold bits; omega
  have hul := bits_lt num
  clear hs hd
  go_enter Tryz.func98, Tryz.ntmps98
  go_upto_region 1 with fail
  generalize hw1 : World.alloc w _ = w1
  have B1 := hid (show Blk w1 w.heap.size 37 (ar 64 s) by rw [← hw1]; exact Blk.new _ _ _)
  have BEL := hid (show Below w.heap.size w w1 by rw [← hw1]; exact (Below.refl _ _).alloc (Nat.le_refl _) _)
  clear hw1
  have hl1 := B1.out.lt
  go_upto_region 2 with fail
  rw [show IntKind.u64.wrap num = ((bits num : Nat) : Int) from hbi]
  clear hbi
  obtain ⟨U, hU⟩ : ∃ U, U = bits num := ⟨_, rfl⟩
  rw [← hU] at hul ⊢
  have HUE := hid hU
  clear hU
  have hz : Blk (w1.alloc (.cells (ar 8 fun _ => 0) 199)) w1.heap.size 199 (ar 8 fun _ => 0) := Blk.new _ _ _
  obtain ⟨g, hg⟩ : ∃ g, g = w1.heap.size := ⟨_, rfl⟩
  go_upto_region 3 with (with_reducible apply alA t8)
  rw [← hg] at hz hl1 ⊢
  generalize hw2 : World.alloc w1 _ = w2 at hz ⊢
  have B2 := hid (show Blk w2 w.heap.size 37 (ar 64 s) by rw [← hw2]; exact B1.out.alloc _)
  have BE2 := hid (show Below w.heap.size w w2 by rw [← hw2]; exact BEL.out.alloc BEL.out.size _)
  have Z2 := hid hz
  clear hw2 B1 BEL hz hg
  go_wp2_with fail
  go_loopw [12] (fun v wr => ∃ i : Nat, i ≤ 8 ∧ v = .int .i64 i ∧ Hid (Blk wr w.heap.size 37 (ar 64 s)) ∧ Hid (Blk wr g 199 (ar 8 (upTo i (fun _ => 0) (dgF U)))) ∧ Hid (Below w.heap.size w wr)) (fun v _ => 8 - (intOf v).toNat)
  case atStart => exact ⟨0, by omega, rfl, B2, hid (by rw [upTo_zero]; exact Z2.out), BE2⟩
  case round =>
    clear B2 BE2 Z2
    obtain ⟨i, hi, rfl, b1, b2, hb⟩ := hrel
    by_cases hlt : i < 8
    · have ti : (i : Int) < 8 := by omega
      have c3 := b2.out.frozen i
      have c4 := (b2.out.cell i).trans (get_ar hlt)
      have hx := shr8 (U := U) hlt
      go_wp2_with fail
      go_roundw
      case rel => exact ⟨i + 1, by omega, by go_num, hid (b1.out.setCell_other (by show g ≠ _; omega) _), hid (upTo_step (b2.out.setCell_same i _)), hid (hb.out.setCell (by show w.heap.size ≤ g; omega) _)⟩
      case measure => simp [intOf]; omega
    · obtain rfl : i = 8 := by omega
      have e8 := b2.out
      rw [upTo_all (Nat.le_refl 8)] at e8
      have hgl := b2.out.lt
      have hwl := b1.out.lt
      have aN := ar_arg e8 (dgF_lt U) (by omega)
      have aS := ar_arg b1.out HF.out (by omega)
      rw [dgF_ls, BytM.dig_length] at aN
      rw [ls_length] at aS
      have AN := hid aN
      have AS := hid aS
      clear e8 aN aS b1 b2
      go_upto_region 8 with fail
      refine wp_region_put (C := Put wr (.cells #[.slice (some ⟨g, 0, none⟩) 8 8, .slice (some ⟨w.heap.size, 0, none⟩) 64 64] 93)) 3 4 (by omega) (by kernel_rfl) (by kernel_rfl) (by kernel_rfl) (Drew.refl _) ?_
      simp only [List.take_succ_cons, List.take_zero, List.drop_succ_cons, List.drop_zero]
      apply wpS_val
      · decide
      · rfl
      · intro bb w' hw'
        go_simp
        first | exact rfl | exact ⟨rfl, hw'⟩
      simp only [Act.put, sqA, sqB, sqC]
      apply wpS_val
      · decide
      · rfl
      · intro bb w' hw'
        go_simp
        first | exact rfl | exact ⟨rfl, hw'⟩
      simp only [Act.put, sqA, sqB, sqC]
      apply wpS_val
      · decide
      · rfl
      · intro bb w' hw'
        go_simp
        first | exact rfl | exact ⟨rfl, hw'⟩
      simp only [Act.put, sqA, sqB, sqC]
      apply wpS_put
      · rfl
      · rfl
      · intro w' hw'
        have hw2 : Drew wr w' := hw'
        have hzz := hw2.heap
        go_simp
        exact ⟨rfl, w', hw2, rfl⟩
      simp only [Act.put, sqA, sqB, sqC]
      refine wpS_nil fun w8 hw8 => ?_
      obtain ⟨w7, h7, rfl⟩ := hw8
      have hz7 : wr.heap.size = w7.heap.size := by rw [h7.heap]
      have b7 := h7.below hb.out
      have a7 := AN.out.on (h7.below (Below.refl wr.heap.size wr))
      have s7 := AS.out.on (h7.below (Below.refl wr.heap.size wr))
      have bl : Blk (w7.alloc (.cells #[.slice (some ⟨g, 0, none⟩) 8 8, .slice (some ⟨w.heap.size, 0, none⟩) 64 64] 93)) wr.heap.size 93 #[.slice (some ⟨g, 0, none⟩) 8 8, .slice (some ⟨w.heap.size, 0, none⟩) 64 64] := by rw [hz7]; exact Blk.new _ _ _
      have ba : Below w7.heap.size w7 (w7.alloc (.cells #[.slice (some ⟨g, 0, none⟩) 8 8, .slice (some ⟨w.heap.size, 0, none⟩) 64 64] 93)) := (Below.refl _ _).alloc (Nat.le_refl _) _
      have BE9 := hid (b7.trans (ba.mono b7.size))
      have HR := hid (rws2 bl (a7.on ba) (s7.on ba))
      generalize World.alloc w7 _ = w9 at BE9 HR ⊢
      have HZ := hid (show (BytM.flatP [BytM.dig 8 U, ls 64 s]).length ≤ 800000 by rw [flat2, BytM.dig_length, ls_length]; omega)
      clear bl ba a7 s7 b7 AN AS h7 hz7
      go_wp2_with fail
      refine (message_any d HD.out _ _ 2 2 (by omega) HZ.out w9 HR.out).mono ?_
      rintro e w2 ⟨v, rfl, o2, h2⟩
      rw [HUE.out] at o2
      have O2 := hid (ownDown o2 BE9.out.size)
      have B3 := hid (BE9.out.trans (h2.mono BE9.out.size))
      clear o2 h2 HR HZ
      go_wp2_with fail
      go_ret
      exact ⟨_, rfl, O2.out, B3.out⟩
set_option maxHeartbeats 400000 in
set_option maxRecDepth 100000 in
theorem nodetext_any : NumText 67 78 := fun num hn s hs w => by
  have HF := hid hs
  clear hs
  go_enter Tryz.func67, Tryz.ntmps67
  go_upto_region 1 with fail
  generalize hw1 : World.alloc w _ = w1
  have B1 := hid (show Blk w1 w.heap.size 37 (ar 64 s) by rw [← hw1]; exact Blk.new _ _ _)
  have hb := hid (show Below w.heap.size w w1 by rw [← hw1]; exact (Below.refl _ _).alloc (Nat.le_refl _) _)
  clear hw1
  go_wp2_with ((with_reducible apply ldA tS); rfl; exact B1.out)
  refine (numbered_any 78 (by omega) num s HF.out w1).mono ?_
  rintro e w2 ⟨v, rfl, o2, h2⟩
  have O2 := hid (ownDown o2 hb.out.size)
  have B3 := hid (hb.out.trans (h2.mono hb.out.size))
  clear o2 h2 B1
  go_wp2_with fail
  go_ret
  exact ⟨_, rfl, O2.out, B3.out⟩
end TgP
end Go.Proofs.YtklmjdhhnnanoaaGreatDoor
set_option maxRecDepth 100000
namespace Go.Proofs.YtklmjdhhnnanoaaGreatDoor
open Go.ChangeShapes Go.WideShapes Go.ChangeAt Go.RowKit
attribute [local go_sem] Gives
namespace TgP
end TgP
end Go.Proofs.YtklmjdhhnnanoaaGreatDoor
