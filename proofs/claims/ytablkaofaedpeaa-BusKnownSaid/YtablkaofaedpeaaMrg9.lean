/-
  What comes in to the laws of chapter 13: steps, each with picks.
  The law BusQuiet: a bus beside members alone.
  The law BusKnown, in plain words; what it compares.
  The law BusKnown: the chapter's examples; buses that are none.
-/
import Derived.Test.YtablkaofaedpeaaMrg8
set_option linter.unusedVariables false
set_option linter.unusedSimpArgs false
set_option maxRecDepth 100000
namespace Go.Proofs.Ytablkaofaedpeaa
open Go.ChangeShapes Go.WideShapes Go.ChangeAt Go.RowKit Go.Deep
namespace BuP
open MbP BuM
theorem cells_st13 : Try.prog.cellsOf 67 = 70 := by kernel_rfl
theorem cells_bs13 : Try.prog.cellsOf 65 = 1 := by kernel_rfl
theorem bytes_u813 : Try.prog.bytesOf 5 = 1 := by kernel_rfl
theorem st_get (y : Stp × SlB) (j : Nat) (hj : j < 70) : (stL y)[j]? = some (if j = 0 then .int .i64 y.1.a else if j = 1 then .int .i64 y.1.kind else if j = 2 then .int .i64 y.1.m else if j = 3 then .int .i64 y.1.i else if j = 4 then .int .i64 y.1.n else if j < 69 then .int .u8 (y.1.s (j - 5) : Nat) else .slice y.2.A y.1.picks.length y.2.c) := by
  unfold stL
  rcases j with _ | _ | _ | _ | _ | j
  · rfl
  · rfl
  · rfl
  · rfl
  · rfl
  · rw [List.getElem?_cons_succ, List.getElem?_cons_succ, List.getElem?_cons_succ, List.getElem?_cons_succ, List.getElem?_cons_succ, if_neg (by omega), if_neg (by omega), if_neg (by omega), if_neg (by omega), if_neg (by omega)]
    by_cases h : j < 64
    · rw [if_pos (by omega), List.getElem?_append_left (by rw [ar64_len]; exact h), ar64, Array.getElem?_toList, get_ar h]; rfl
    · obtain rfl : j = 64 := by omega
      rw [if_neg (by omega), List.getElem?_append_right (by rw [ar64_len]; exact Nat.le_refl _), ar64_len]; rfl
section
variable {H : Type} {enc : TypeId × Value → H} {w : World} {base : Nat} {spare : Nat → Bool} {held : Bool}
theorem weightsAll_mem13 {e : TypeId} {d : DataW H} {n : Nat} : ∀ {l : List (DataW H)}, d ∈ l → n ∈ d.weights Try.prog e → n ∈ DataW.weightsAll Try.prog e l
  | [], h, _ => by cases h
  | c :: r, h, hn => by
    rw [DataW.weightsAll]
    rcases List.mem_cons.1 h with e | e
    · subst e; exact List.mem_append_left _ hn
    · exact List.mem_append_right _ (weightsAll_mem13 e hn)
theorem weightsEach_mem13 {n : Nat} : ∀ {ts : List TypeId} {l : List (DataW H)} {i : Nat} {t : TypeId} {d : DataW H}, ts[i]? = some t → l[i]? = some d → n ∈ d.weights Try.prog t → n ∈ DataW.weightsEach Try.prog ts l
  | [], _, _, _, _, h, _, _ => by simp at h
  | _ :: _, [], _, _, _, _, h, _ => by simp at h
  | t :: ts, d :: l, 0, _, _, h, h2, hn => by
    simp only [List.getElem?_cons_zero, Option.some.injEq] at h h2
    subst h; subst h2
    rw [DataW.weightsEach]
    exact List.mem_append_left _ hn
  | t :: ts, d :: l, i + 1, _, _, h, h2, hn => by
    rw [List.getElem?_cons_succ] at h h2
    rw [DataW.weightsEach]
    exact List.mem_append_right _ (weightsEach_mem13 h h2 hn)
/-- A slice of bytes weighs what it is long. -/
theorem byts_weigh13 {fuel : Nat} {A : Option Addr} {n c R : Nat} {x : DataW H × List MemPlace} (h : DataW.trod enc Try.prog w base spare held fuel 65 [.slice A n c] = some x) (hw : ∀ m ∈ x.1.weights Try.prog 65, m ≤ R) (hA : A ≠ none) : n ≤ R := by
  rcases DataW.trod_slice Try.underlying65 h with ⟨h0, _⟩ | ⟨a, len, cap, elems, rest, m, _, e1, e2, hb, hl, hm, hlen, hel, hsp, hns⟩
  · simp only [List.cons.injEq, and_true] at h0
    exact absurd (Value.slice.inj h0).1 hA
  · simp only [List.cons.injEq, and_true] at e1
    obtain ⟨_, rfl, _⟩ := Value.slice.inj e1
    have := hw ((elems.length + rest.length) * Try.prog.bytesOf 5) (by
      rw [e2, DataW.weights, Try.underlying65]
      simp)
    rw [bytes_u813] at this
    omega
/-- A step as it comes in: its picks lie in a block that stands. -/
structure StOk (w : World) (y : Stp × SlB) : Prop where
  ok : okS y.1
  arg : Arg w y.2.A y.1.picks y.1.picks.length y.2.c
  few : y.1.picks.length ≤ 140737488351232
  old : ∀ q o, 0 < y.1.picks.length → y.2.A = some ⟨q, o, none⟩ → q < w.heap.size
set_option maxRecDepth 100000 in
theorem trod_st {fuel : Nat} {cs : List Value} {x : DataW H × List MemPlace} (h : DataW.trod enc Try.prog w base spare held fuel 67 cs = some x) (hw : ∀ m ∈ x.1.weights Try.prog 67, m ≤ 140737488351232) : ∃ y : Stp × SlB, cs = stL y ∧ StOk w y := by
  obtain ⟨xs, n, _, rfl, hl, hlen, hf⟩ := DataW.trod_struct Try.underlying67 h
  rw [cells_st13] at hl
  match xs, hlen with
  | [y0, y1, y2, y3, y4, y5, y6], _ =>
    have h0 : DataW.trod enc Try.prog w base spare held n 3 ((cs.drop 0).take (Try.prog.cellsOf 3)) = some y0 := hf 0 _ rfl
    have h1 : DataW.trod enc Try.prog w base spare held n 3 ((cs.drop 1).take (Try.prog.cellsOf 3)) = some y1 := hf 1 _ rfl
    have h2 : DataW.trod enc Try.prog w base spare held n 3 ((cs.drop 2).take (Try.prog.cellsOf 3)) = some y2 := hf 2 _ rfl
    have h3 : DataW.trod enc Try.prog w base spare held n 3 ((cs.drop 3).take (Try.prog.cellsOf 3)) = some y3 := hf 3 _ rfl
    have h4 : DataW.trod enc Try.prog w base spare held n 3 ((cs.drop 4).take (Try.prog.cellsOf 3)) = some y4 := hf 4 _ rfl
    have h5 : DataW.trod enc Try.prog w base spare held n 30 ((cs.drop 5).take (Try.prog.cellsOf 30)) = some y5 := hf 5 _ rfl
    have h6 : DataW.trod enc Try.prog w base spare held n 65 ((cs.drop 69).take (Try.prog.cellsOf 65)) = some y6 := hf 6 _ rfl
    rw [cells_i13] at h0 h1 h2 h3 h4
    rw [cells_se13] at h5
    rw [cells_bs13] at h6
    obtain ⟨a0, e0, _, _⟩ := DataW.trod_int Try.underlying3 h0
    obtain ⟨a1, e1, _, _⟩ := DataW.trod_int Try.underlying3 h1
    obtain ⟨a2, e2, _, _⟩ := DataW.trod_int Try.underlying3 h2
    obtain ⟨a3, e3, _, _⟩ := DataW.trod_int Try.underlying3 h3
    obtain ⟨a4, e4, _, _⟩ := DataW.trod_int Try.underlying3 h4
    obtain ⟨f, hf5, e5⟩ := trod_ar uSe' cells_se13 h5
    obtain ⟨A, l, cap, e6, l1, l2, l3, l4, l5⟩ := trod_byts h6
    refine ⟨(⟨a0, a1, a2, a3, a4, f, l⟩, ⟨A, cap⟩), ?_, ⟨⟨hf5, fun p hp => l3 p hp⟩, ⟨rfl, l1, l2, l3, l5, l4⟩, ?_, fun q o hn e => ?_⟩⟩
    · apply List.ext_getElem?
      intro j
      have r0 := at_one13 e0
      have r1 := at_one13 e1
      have r2 := at_one13 e2
      have r3 := at_one13 e3
      have r4 := at_one13 e4
      have r6 := at_one13 e6
      by_cases hj : j < 70
      · rw [st_get _ j hj]
        by_cases c0 : j = 0
        · rw [if_pos c0, c0]; exact r0
        · rw [if_neg c0]
          by_cases c1 : j = 1
          · rw [if_pos c1, c1]; exact r1
          · rw [if_neg c1]
            by_cases c2 : j = 2
            · rw [if_pos c2, c2]; exact r2
            · rw [if_neg c2]
              by_cases c3 : j = 3
              · rw [if_pos c3, c3]; exact r3
              · rw [if_neg c3]
                by_cases c4 : j = 4
                · rw [if_pos c4, c4]; exact r4
                · rw [if_neg c4]
                  by_cases c5 : j < 69
                  · rw [if_pos c5]
                    have := at_ar13 e5 (show j - 5 < 64 by omega)
                    rwa [show 5 + (j - 5) = j by omega] at this
                  · rw [if_neg c5]
                    obtain rfl : j = 69 := by omega
                    exact r6
      · rw [List.getElem?_eq_none (by omega), List.getElem?_eq_none (by rw [stL_len]; omega)]
    · show l.length ≤ _
      cases A with
      | none => rw [(l5 rfl).1]; omega
      | some ad =>
        rw [e6] at h6
        refine byts_weigh13 h6 (fun m hm => hw m ?_) (by simp)
        rw [DataW.weights, Try.underlying67]
        exact weightsEach_mem13 (i := 6) rfl rfl hm
    · obtain ⟨b', o', e', hlt, _⟩ := l4 hn
      have e2 : A = some ⟨q, o, none⟩ := e
      rw [e2] at e'
      cases e'
      exact hlt
instance : Inhabited (Stp × SlB) := ⟨st0⟩
set_option maxRecDepth 100000 in
theorem open_steps13 {r : Reach} {b0 : Nat} {v : Value} {d : DataW H} {p : List MemPlace} (hv : Value.okWide Try.prog w r b0 26 v) (h : DataW.Trod enc Try.prog w base spare held 26 v d p) (hw : ∀ m ∈ d.weights Try.prog 26, m ≤ 140737488351232) :
    ∃ (A : Option Addr) (l : List (Stp × SlB)) (n cap : Nat), v = .slice A n cap ∧ Sli 70 stL (fun b => b < w.heap.size) w A l n cap ∧ ∀ y ∈ l, StOk w y := by
  obtain ⟨A, n, cap, rfl⟩ := okWide_slice Try.underlying26 hv
  obtain ⟨fuel, hf⟩ := h
  rcases open_slice Try.underlying26 hf with ⟨hcs, _⟩ | ⟨a, len, cap', m, fu, D, Plc, hcs, hb, hl, hm, hmm, hx, hi⟩
  · simp [Value.cells] at hcs
    obtain ⟨rfl, rfl, rfl⟩ := hcs
    exact ⟨none, [], 0, 0, rfl, Sli.nil _ _ _ _, fun a ha => by cases ha⟩
  · simp [Value.cells] at hcs
    obtain ⟨rfl, rfl, rfl⟩ := hcs
    have hnm : n ≤ m := by rw [hmm]; split <;> omega
    obtain ⟨rfl, _⟩ := Prod.mk.inj hx
    have hwD : ∀ i, i < n → ∀ k ∈ (D i).weights Try.prog 67, k ≤ 140737488351232 := fun i hin k hk => hw k (by
      rw [DataW.weights, Try.underlying26]
      refine List.mem_cons_of_mem _ (List.mem_append_left _ (weightsAll_mem13 (d := D i) ?_ hk))
      exact List.mem_map.2 ⟨i, List.mem_range.2 hin, rfl⟩)
    have one : ∀ i, i < n → ∃ y : Stp × SlB, StOk w y ∧ ∀ j, j < 70 → w.cell? (a.add (i * 70 + j)) = (stL y)[j]? := fun i hin => by
      obtain ⟨cs', hc, ht⟩ := hi i (by omega)
      have h3 := World.cells?_some hc
      rw [cells_st13] at h3
      obtain ⟨y, y1, y2⟩ := trod_st ht (hwD i hin)
      refine ⟨y, y2, fun j hj => ?_⟩
      have h6 := h3.2.2 j hj
      rw [Go.Deep.add_add, y1] at h6
      exact h6
    obtain ⟨F, hF⟩ := choose_lt one
    have hg : ∀ i, ((List.range n).map F)[i]? = if i < n then some (F i) else none := fun i => by
      by_cases hi : i < n
      · rw [if_pos hi, List.getElem?_map, List.getElem?_range hi]; rfl
      · rw [if_neg hi, List.getElem?_eq_none (by simp; omega)]
    refine ⟨some a, (List.range n).map F, n, cap, rfl, ⟨by simp, hl, hm, (fun h => by cases h), fun hn => ?_⟩, fun x hx => ?_⟩
    · have hn' : 0 < n := by simpa using hn
      obtain ⟨_, h0⟩ := hF 0 hn'
      have h00 := h0 0 (by omega)
      have e00 : (stL (F 0))[0]? = some (.int .i64 (F 0).1.a) := rfl
      rw [e00] at h00
      have hsp : a.spot = none := by
        simp only [Nat.zero_mul, Nat.zero_add, Addr.add, if_true] at h00
        unfold World.cell? at h00
        split at h00
        · cases hs : a.spot with
          | none => rfl
          | some s => simp [hs] at h00
        · cases h00
      have hblk : a.block < w.heap.size := by
        have := World.block_lt_of_cell? w _ h00
        simpa [Addr.add] using this
      obtain ⟨b, o, sp⟩ := a
      subst hsp
      refine ⟨b, o, rfl, hblk, hblk, fun i x hi2 j u hj => ?_⟩
      rw [hg] at hi2
      split at hi2
      · rename_i hin
        obtain rfl := Option.some.inj hi2
        have hjl : j < 70 := by have := (List.getElem?_eq_some_iff.1 hj).1; rwa [stL_len] at this
        have := (hF i hin).2 j hjl
        rw [Addr.add_mid, hj] at this
        rwa [show o + (i * 70 + j) = o + i * 70 + j by omega] at this
      · cases hi2
    · obtain ⟨i, hi, rfl⟩ := List.mem_map.1 hx
      exact (hF i (List.mem_range.1 hi)).1
end
end BuP
end Go.Proofs.Ytablkaofaedpeaa
set_option maxRecDepth 100000
namespace Go.Proofs.Ytablkaofaedpeaa
open Go.ChangeShapes Go.WideShapes Go.ChangeAt Go.RowKit
attribute [local go_sem] Gives GivesE
namespace BuP
open BuM MbM MbP
/-- A bus beside members alone, all from W's size on; blocks of V are as they were in w0. -/
structure Qu (repB : RepB) (W w0 : World) (V : Nat → Prop) (w : World) (g : Nat) (F : Fq) (k : Nat) (b : Bs) (al : List Nat) (Ms Is : Nat → Nat → Prop) (k2 : Nat) (ms : List St) : Prop where
  pp : Pp repB w g F k b
  len : al.length = ms.length
  mem : ∀ (i gi : Nat) (st : St), al[i]? = some gi → ms[i]? = some st → RepM w gi (Ms i) (Is i) k2 st
  ok : okM ms
  ap : ∀ i j q, i < al.length → j < al.length → i ≠ j → Ms i q → ¬ (Ms j q ∨ Is j q)
  d1 : ∀ q, mutP F q → ∀ i, i < al.length → ¬ (Ms i q ∨ Is i q)
  d2 : ∀ i q, i < al.length → Ms i q → ¬ rdP F q
  lowP : ∀ q, mutP F q → W.heap.size ≤ q ∧ ¬ V q
  lowM : ∀ i q, i < al.length → Ms i q → W.heap.size ≤ q ∧ ¬ V q
  vl : ∀ q, V q → q < w.heap.size
  kp : ∀ q, V q → w.heap[q]? = w0.heap[q]?
  bel : Below W.heap.size W w
section
variable {repB : RepB} {W w0 w w' : World} {V V2 : Nat → Prop} {g k k' k2 : Nat} {F : Fq} {b b' : Bs} {al : List Nat} {Ms Is : Nat → Nat → Prop} {ms : List St}
theorem Qu.lt (H : Qu repB W w0 V w g F k b al Ms Is k2 ms) : ∀ i q, i < al.length → Ms i q ∨ Is i q → q < w.heap.size := fun i q hi e =>
  MbP.memD_ok.lt (H.mem i _ _ (List.getElem?_eq_getElem hi) (List.getElem?_eq_getElem (by rw [← H.len]; exact hi))) q e
theorem Qu.below (hC : BusC repB) (H : Qu repB W w0 V w g F k b al Ms Is k2 ms) (hb : Below w.heap.size w w') : Qu repB W w0 V w' g F k b al Ms Is k2 ms where
  pp := H.pp.below hC hb
  len := H.len
  mem i gi st h1 h2 := MbP.memD_ok.frame (H.mem i gi st h1 h2) (Turn.of_new (S := fun _ => False) hb) fun _ _ e => e
  ok := H.ok
  ap := H.ap
  d1 := H.d1
  d2 := H.d2
  lowP := H.lowP
  lowM := H.lowM
  vl q e := Nat.lt_of_lt_of_le (H.vl q e) hb.size
  kp q e := (hb.block q (H.vl q e)).trans (H.kp q e)
  bel := H.bel.trans (hb.mono H.bel.size)
/-- From now on blocks of V2 stay. -/
theorem Qu.base (H : Qu repB W w0 V w g F k b al Ms Is k2 ms) (hV : ∀ q, V2 q → q < w.heap.size ∧ ¬ mutP F q ∧ ∀ i, i < al.length → ¬ Ms i q) : Qu repB W w V2 w g F k b al Ms Is k2 ms where
  pp := H.pp
  len := H.len
  mem := H.mem
  ok := H.ok
  ap := H.ap
  d1 := H.d1
  d2 := H.d2
  lowP q e := ⟨(H.lowP q e).1, fun x => (hV q x).2.1 e⟩
  lowM i q hi e := ⟨(H.lowM i q hi e).1, fun x => (hV q x).2.2 i hi e⟩
  vl q e := (hV q e).1
  kp _ _ := rfl
  bel := H.bel
theorem Qu.mono (H : Qu repB W w0 V w g F k b al Ms Is k2 ms) {k3 : Nat} (h1 : k ≤ k') (h2 : k2 ≤ k3) : Qu repB W w0 V w g F k' b al Ms Is k3 ms where
  pp := H.pp.mono h1
  len := H.len
  mem i gi st e1 e2 := MbP.memD_ok.mono (H.mem i gi st e1 e2) h2
  ok := H.ok
  ap := H.ap
  d1 := H.d1
  d2 := H.d2
  lowP := H.lowP
  lowM := H.lowM
  vl := H.vl
  kp := H.kp
  bel := H.bel
/-- The bus is told something. -/
theorem Qu.bus (H : Qu repB W w0 V w g F k b al Ms Is k2 ms) (ho : outQ repB w g F k' b' w') : ∃ F', F'.gs = F.gs ∧ Qu repB W w0 V w' g F' k' b' al Ms Is k2 ms := by
  obtain ⟨F', h1, h2, _, h4, h5, h6⟩ := ho
  have hW := H.bel.size
  refine ⟨F', h2, { pp := h1, len := H.len, mem := fun i gi st e1 e2 => ?_, ok := H.ok, ap := H.ap, d1 := fun q e i hi x => ?_, d2 := fun i q hi e x => ?_, lowP := fun q e => ?_, lowM := H.lowM, vl := fun q e => Nat.lt_of_lt_of_le (H.vl q e) h6.size, kp := fun q e => ?_, bel := H.bel.trans (h6.below hW fun q e => (H.lowP q e).1) }⟩
  · exact MbP.memD_ok.frame (H.mem i gi st e1 e2) h6 fun q x e => H.d1 q e i (List.getElem?_eq_some_iff.1 e1).1 x
  · rcases h4 q e with y | y
    · exact H.d1 q y i hi x
    · have := H.lt i q hi x; omega
  · rcases h5 q x with y | y | y
    · exact H.d1 q y i hi (.inl e)
    · exact H.d2 i q hi e y
    · have := H.lt i q hi (.inl e); omega
  · rcases h4 q e with y | y
    · exact H.lowP q y
    · exact ⟨Nat.le_trans hW y, fun x => by have := H.vl q x; omega⟩
  · exact (h6.block q (H.vl q e) fun x => (H.lowP q x).2 e).trans (H.kp q e)
/-- One of the members alone is told something. -/
theorem Qu.alone (hC : BusC repB) (H : Qu repB W w0 V w g F k b al Ms Is k2 ms) {j gj k3 : Nat} {st' : St} (hk : k2 ≤ k3) (hj : al[j]? = some gj) (hok : st'.ok) (ho : outP RepM w gj (Ms j) (Is j) k3 st' w') :
    ∃ Ms' Is', Qu repB W w0 V w' g F k b al Ms' Is' k3 (ms.set j st') := by
  obtain ⟨M', I', h1, h2, h3, h4⟩ := ho
  have hjl := (List.getElem?_eq_some_iff.1 hj).1
  have hW := H.bel.size
  refine ⟨fun i => if i = j then M' else Ms i, fun i => if i = j then I' else Is i, ?_⟩
  refine { pp := H.pp.turn hC h4 fun q e x => ?_, len := by rw [List.length_set]; exact H.len, mem := fun i gi st e1 e2 => ?_, ok := set_ok H.ok j hok, ap := fun i l q hi hl hne e e2 => ?_, d1 := fun q e i hi x => ?_, d2 := fun i q hi e x => ?_, lowP := H.lowP, lowM := fun i q hi e => ?_, vl := fun q e => Nat.lt_of_lt_of_le (H.vl q e) h4.size, kp := fun q e => ?_, bel := H.bel.trans (h4.below hW fun q e => (H.lowM j q hjl e).1) }
  · rcases e with e | e
    · exact H.d1 q e j hjl (.inl x)
    · exact H.d2 j q hjl x e
  · by_cases e : i = j
    · subst e
      rw [hj] at e1
      cases e1
      rw [List.getElem?_set_self (by rw [← H.len]; exact hjl)] at e2
      cases e2
      rw [if_pos rfl, if_pos rfl]
      exact h1
    · rw [List.getElem?_set_ne (fun x => e x.symm)] at e2
      rw [if_neg e, if_neg e]
      exact MbP.memD_ok.mono (MbP.memD_ok.frame (H.mem i gi st e1 e2) h4 fun q x y => H.ap j i q hjl (List.getElem?_eq_some_iff.1 e1).1 (fun z => e z.symm) y x) hk
  · replace e : (if i = j then M' else Ms i) q := e
    replace e2 : (if l = j then M' else Ms l) q ∨ (if l = j then I' else Is l) q := e2
    by_cases c : i = j
    · rw [if_pos c] at e
      rw [if_neg (fun z => hne (c.trans z.symm)), if_neg (fun z => hne (c.trans z.symm))] at e2
      rcases h2 q e with x | x
      · exact H.ap j l q hjl hl (fun z => hne (c.trans z)) x e2
      · have := H.lt l q hl e2; omega
    · rw [if_neg c] at e
      by_cases d : l = j
      · rw [if_pos d, if_pos d] at e2
        have hq := H.lt i q hi (.inl e)
        rcases e2 with x | x
        · rcases h2 q x with y | y
          · exact H.ap i j q hi hjl c e (.inl y)
          · omega
        · rcases h3 q x with y | y | y
          · exact H.ap i j q hi hjl c e (.inl y)
          · exact H.ap i j q hi hjl c e (.inr y)
          · omega
      · rw [if_neg d, if_neg d] at e2
        exact H.ap i l q hi hl hne e e2
  · replace x : (if i = j then M' else Ms i) q ∨ (if i = j then I' else Is i) q := x
    have hq := H.pp.mlt q e
    by_cases c : i = j
    · rw [if_pos c, if_pos c] at x
      rcases x with x | x
      · rcases h2 q x with y | y
        · exact H.d1 q e j hjl (.inl y)
        · omega
      · rcases h3 q x with y | y | y
        · exact H.d1 q e j hjl (.inl y)
        · exact H.d1 q e j hjl (.inr y)
        · omega
    · rw [if_neg c, if_neg c] at x
      exact H.d1 q e i hi x
  · replace e : (if i = j then M' else Ms i) q := e
    by_cases c : i = j
    · rw [if_pos c] at e
      rcases h2 q e with y | y
      · exact H.d2 j q hjl y x
      · have := H.pp.ilt q x; omega
    · rw [if_neg c] at e
      exact H.d2 i q hi e x
  · replace e : (if i = j then M' else Ms i) q := e
    by_cases c : i = j
    · rw [if_pos c] at e
      rcases h2 q e with y | y
      · exact H.lowM j q hjl y
      · exact ⟨Nat.le_trans hW y, fun z => by have := H.vl q z; omega⟩
    · rw [if_neg c] at e
      exact H.lowM i q hi e
  · exact (h4.block q (H.vl q e) fun x => (H.lowM j q hjl x).2 e).trans (H.kp q e)
theorem Qu.blk {t : TypeId} {cs : Array Value} {q : Nat} (H : Qu repB W w0 V w g F k b al Ms Is k2 ms) (hb : Blk w0 q t cs) (hq : V q) : Blk w q t cs := (H.kp q hq).trans hb
theorem Qu.cell {p : Addr} {v : Value} (H : Qu repB W w0 V w g F k b al Ms Is k2 ms) (hc : w0.cell? p = some v) (hq : V p.block) : w.cell? p = some v := (World.cell?_of_block (H.kp p.block hq)).trans hc
end
/-! What a bus of members in order, whose steps are not yet, does. -/
structure Calm (b : Bs) (ms : List St) (i : Nat) : Prop where
  far : ∀ s ∈ b.steps, (1000 : Int) ≤ s.a
  few : b.steps.length ≤ 30
  off : b.off = false
  bm : b.ms = ms
  two : ms.length = 2
  log : b.log.length ≤ i
  hurt : ∀ st ∈ ms, st.hurt = false
section
variable {b : Bs} {ms : List St} {i : Nat}
theorem Calm.ahead (H : Calm b ms i) (hi : i ≤ 60) : BuM.ahead b = b := ahead_none fun s hs e => by
  have := H.far s hs
  have := H.log
  omega
theorem Calm.may (H : Calm b ms i) {m : Nat} (hm : m < 2) : BuM.may b (m : Int) = 0 := by
  unfold BuM.may
  rw [if_neg (by rw [H.off]; decide), if_pos]
  unfold BuM.mem
  rw [decide_eq_true_eq, H.bm, H.two]
  omega
theorem Calm.at' (H : Calm b ms i) {m : Nat} {st : St} (hs : ms[m]? = some st) : BuM.at' b.ms (m : Int) = st := by
  unfold BuM.at'
  rw [H.bm, Int.toNat_natCast, List.getD_eq_getElem?_getD, hs]; rfl
theorem wr_hurt (st : St) (i : Int) (x : Nat → Nat) : (MbM.wrT st i x).hurt = st.hurt := by
  unfold MbM.wrT
  split
  · split <;> rfl
  · rfl
theorem fl_hurt (st : St) : (MbM.flT st).hurt = st.hurt := by
  unfold MbM.flT
  split <;> rfl
theorem hurt_set {l : List St} {m : Nat} {st : St} (h : ∀ s ∈ l, s.hurt = false) (hs : st.hurt = false) : ∀ s ∈ l.set m st, s.hurt = false := fun s hm => by
  rcases List.mem_or_eq_of_mem_set hm with e | rfl
  · exact h s e
  · exact hs
theorem Calm.rd (H : Calm b ms i) (hi : i ≤ 60) {m : Nat} {st : St} (hs : ms[m]? = some st) (hm : m < 2) (j : Int) : (BuM.rdB (BuM.ahead b) (m : Int) j).s = rdS st j ∧ (BuM.rdB (BuM.ahead b) (m : Int) j).e = rdE st j ∧ Calm (BuM.rdT b (m : Int) j) ms (i + 1) := by
  have h0 := H.ahead hi
  have h1 : BuM.rdB (BuM.ahead b) (m : Int) j = ⟨1, m, j, rdS st j, rdE st j⟩ := by
    rw [h0]
    unfold BuM.rdB
    rw [if_pos (H.may hm), H.at' hs]
  refine ⟨by rw [h1], by rw [h1], ?_⟩
  unfold BuM.rdT
  rw [h0] at h1 ⊢
  exact ⟨H.far, H.few, H.off, H.bm, H.two, by show (b.log ++ [_]).length ≤ i + 1; rw [List.length_append, List.length_cons, List.length_nil]; have := H.log; omega, H.hurt⟩
theorem Calm.wr (H : Calm b ms i) (hi : i ≤ 60) {m : Nat} {st : St} (hs : ms[m]? = some st) (hm : m < 2) (j : Int) (x : Nat → Nat) : (BuM.wrB (BuM.ahead b) (m : Int) j x).e = rdE st j ∧ Calm (BuM.wrT b (m : Int) j x) (ms.set m (MbM.wrT st j x)) (i + 1) := by
  have h0 := H.ahead hi
  refine ⟨?_, ?_⟩
  · rw [h0]
    unfold BuM.wrB
    show (if BuM.may b m = 0 then _ else _) = _
    rw [if_pos (H.may hm), H.at' hs]
  · have h2 : BuM.wrM b (m : Int) j x = { b with ms := ms.set m (MbM.wrT st j x) } := by
      unfold BuM.wrM BuM.upd
      rw [if_pos (H.may hm), H.at' hs, H.bm, Int.toNat_natCast]
    unfold BuM.wrT
    rw [h0, h2]
    exact ⟨H.far, H.few, H.off, rfl, by rw [List.length_set]; exact H.two, by show (b.log ++ [_]).length ≤ i + 1; rw [List.length_append, List.length_cons, List.length_nil]; have := H.log; omega, hurt_set H.hurt (by rw [wr_hurt]; exact H.hurt st (List.mem_of_getElem? hs))⟩
theorem Calm.fl (H : Calm b ms i) (hi : i ≤ 60) {m : Nat} {st : St} (hs : ms[m]? = some st) (hm : m < 2) : (BuM.flB (BuM.ahead b) (m : Int)).e = MbM.flE st ∧ Calm (BuM.flT b (m : Int)) (ms.set m (MbM.flT st)) (i + 1) := by
  have h0 := H.ahead hi
  refine ⟨?_, ?_⟩
  · rw [h0]
    unfold BuM.flB
    show (if BuM.may b m = 0 then _ else _) = _
    rw [if_pos (H.may hm), H.at' hs]
  · have h2 : BuM.flM b (m : Int) = { b with ms := ms.set m (MbM.flT st) } := by
      unfold BuM.flM BuM.upd
      rw [if_pos (H.may hm), H.at' hs, H.bm, Int.toNat_natCast]
    unfold BuM.flT
    rw [h0, h2]
    exact ⟨H.far, H.few, H.off, rfl, by rw [List.length_set]; exact H.two, by show (b.log ++ [_]).length ≤ i + 1; rw [List.length_append, List.length_cons, List.length_nil]; have := H.log; omega, hurt_set H.hurt (by rw [fl_hurt]; exact H.hurt st (List.mem_of_getElem? hs))⟩
theorem Calm.more (H : Calm b ms i) : Calm b ms (i + 1) := ⟨H.far, H.few, H.off, H.bm, H.two, Nat.le_succ_of_le H.log, H.hurt⟩
end
end BuP
end Go.Proofs.Ytablkaofaedpeaa
set_option maxRecDepth 100000
namespace Go.Proofs.Ytablkaofaedpeaa
open Go.ChangeShapes Go.WideShapes Go.ChangeAt Go.RowKit
attribute [local go_sem] Gives GivesE
namespace BuP
open BuM MbM MbP
def t7 : Nat → Nat := fun j => if j = 0 then 7 else 0
def aw5 : Bs := BuM.power aw4
def aw6 : Bs := BuM.rdT aw5 1 0
def aw7 : Bs := BuM.adT aw6 t7
def aw8 : Bs := BuM.ceT aw7
def aw9 : Bs := BuM.rdT aw8 2 0
def aw10 : Bs := BuM.rdT aw9 0 4
def aw11 : Bs := BuM.wrT aw10 0 0 f1
def aw12 : Bs := BuM.flT aw11 0
theorem kn_5 : aw5.off = false := rfl
theorem kn_r5 : (BuM.rdB (BuM.ahead aw5) 1 0).s = (fun _ => 0) ∧ (BuM.rdB (BuM.ahead aw5) 1 0).e = 0 := ⟨rfl, rfl⟩
theorem kn_a6 : BuM.adN (BuM.ahead aw6) = 1 ∧ (BuM.adB (BuM.ahead aw6) t7).e = 0 := ⟨rfl, rfl⟩
theorem kn_c7 : BuM.ceV (BuM.ahead aw7) = (1, t7) ∧ (BuM.ceB (BuM.ahead aw7)).e = 0 := ⟨rfl, rfl⟩
theorem kn_r8 : (BuM.rdB (BuM.ahead aw8) 2 0).e = 2 := rfl
theorem kn_r9 : (BuM.rdB (BuM.ahead aw9) 0 4).e = 2 := rfl
theorem kn_w10 : (BuM.wrB (BuM.ahead aw10) 0 0 f1).e = 0 := rfl
theorem kn_f11 : (BuM.flB (BuM.ahead aw11) 0).e = 0 := rfl
theorem kn_len : aw12.log.length = 11 := rfl
theorem kn_1 : aw12.log[1]? = some ⟨1, 0, 2, f1, 0⟩ := rfl
theorem kn_3 : aw12.log[3]? = some ⟨2, 1, 1, f1, 13⟩ := rfl
theorem kn_51 : aw12.log[5]? = some ⟨5, 0, 0, pad t7, 0⟩ := rfl
theorem kn_7 : aw12.log[7]? = some ⟨1, 2, 0, fun _ => 0, 2⟩ := rfl
theorem kn_steps : aw5.steps.length = 2 ∧ aw6.steps.length = 2 ∧ aw7.steps.length = 2 ∧ aw8.steps.length = 2 ∧ aw9.steps.length = 2 ∧ aw10.steps.length = 2 ∧ aw11.steps.length = 2 := ⟨rfl, rfl, rfl, rfl, rfl, rfl, rfl⟩
theorem run_t7 (w : World) : (Instr.build 41 #[(0, .int .u8 7)]).run Try.prog w = .ok (.agg (ar 32 t7)) w := run_build w _ _ _ (by kernel_rfl)
theorem run_s7 (w : World) : (Instr.build 30 #[(0, .int .u8 7)]).run Try.prog w = .ok (.agg (ar 64 t7)) w := run_build w _ _ _ (by kernel_rfl)
theorem run_c7 (w : World) : (Instr.build 43 #[(0, .int .u64 1), (1, .agg (ar 32 t7))]).run Try.prog w = .ok (.agg (ClP.ceL (1, t7)).toArray) w := run_build w _ _ _ (by kernel_rfl)
theorem run_e1 (w : World) : (Instr.build 51 #[(0, .int .i64 1), (2, .int .i64 2), (3, .agg (ar 64 f1))]).run Try.prog w = .ok (.agg (enL ⟨1, 0, 2, f1, 0⟩).toArray) w := run_build w _ _ _ (by kernel_rfl)
theorem run_e7 (w : World) : (Instr.build 51 #[(0, .int .i64 1), (1, .int .i64 2), (4, .int .i64 2)]).run Try.prog w = .ok (.agg (enL ⟨1, 2, 0, fun _ => 0, 2⟩).toArray) w := run_build w _ _ _ (by kernel_rfl)
theorem ne_c7 (w : World) : (binOp .neq 43 (.agg (ClP.ceL (1, t7)).toArray) (.agg (ClP.ceL (1, t7)).toArray)).run Try.prog w = .ok (.bool false) w := by kernel_rfl
theorem ne_e1 (w : World) : (binOp .neq 51 (.agg (enL ⟨1, 0, 2, f1, 0⟩).toArray) (.agg (enL ⟨1, 0, 2, f1, 0⟩).toArray)).run Try.prog w = .ok (.bool false) w := by kernel_rfl
theorem ne_e7 (w : World) : (binOp .neq 51 (.agg (enL ⟨1, 2, 0, fun _ => 0, 2⟩).toArray) (.agg (enL ⟨1, 2, 0, fun _ => 0, 2⟩).toArray)).run Try.prog w = .ok (.bool false) w := by kernel_rfl
theorem gEn : Try.prog.eqGuardType Try.prog.depth 51 = false := by kernel_rfl
theorem s7_eq : eqA 64 (pad t7) t7 = true := eqA_yes fun j _ => by unfold pad t7; split <;> split <;> omega
end BuP
end Go.Proofs.Ytablkaofaedpeaa
set_option maxRecDepth 100000
namespace Go.Proofs.Ytablkaofaedpeaa
open Go.ChangeShapes Go.WideShapes Go.ChangeAt Go.RowKit
attribute [local go_sem] Gives GivesE
namespace BuP
open BuM MbM MbP
section
variable {ops : Array Oper} {C : World → Prop} {Qk : Act → Prop} {a : Act} {rest : List Oper} {dst : Option Tmp} {ty r : TypeId} {pos : String} {after : Array Edge} {gd : Option (Nat × Bool)} {x y : Operand}
theorem kC7 (hwt : Region.wanted ⟨dst, .build 43 #[(0, .const (.int .u64 1)), (1, x)], ty, pos, after, gd⟩ (yielded ops a.tmps) = true) (hx : a.eval x = .agg (ar 32 t7)) (h : wpK Try.prog ops C Qk rest (a.put dst (.agg (ClP.ceL (1, t7)).toArray))) : wpK Try.prog ops C Qk (⟨dst, .build 43 #[(0, .const (.int .u64 1)), (1, x)], ty, pos, after, gd⟩ :: rest) a :=
  wpK_val hwt (fun w hw => gives_value (w' := w) (by
    have hm : (#[(0, .const (.int .u64 1)), (1, x)] : Array (Nat × Operand)).map (fun (i, x) => (i, a.eval x)) = #[(0, .int .u64 1), (1, .agg (ar 32 t7))] := by
      simp only [List.map_toArray, List.map_cons, List.map_nil, hx]; rfl
    simp only [execOp, Sem.run_bind, hm, run_c7, Result.andThen_ok, Sem.run_pure]) hw) h
theorem kE1 (hwt : Region.wanted ⟨dst, .build 51 #[(0, .const (.int .i64 1)), (2, .const (.int .i64 2)), (3, x)], ty, pos, after, gd⟩ (yielded ops a.tmps) = true) (hx : a.eval x = .agg (ar 64 f1)) (h : wpK Try.prog ops C Qk rest (a.put dst (.agg (enL ⟨1, 0, 2, f1, 0⟩).toArray))) : wpK Try.prog ops C Qk (⟨dst, .build 51 #[(0, .const (.int .i64 1)), (2, .const (.int .i64 2)), (3, x)], ty, pos, after, gd⟩ :: rest) a :=
  wpK_val hwt (fun w hw => gives_value (w' := w) (by
    have hm : (#[(0, .const (.int .i64 1)), (2, .const (.int .i64 2)), (3, x)] : Array (Nat × Operand)).map (fun (i, x) => (i, a.eval x)) = #[(0, .int .i64 1), (2, .int .i64 2), (3, .agg (ar 64 f1))] := by
      simp only [List.map_toArray, List.map_cons, List.map_nil, hx]; rfl
    simp only [execOp, Sem.run_bind, hm, run_e1, Result.andThen_ok, Sem.run_pure]) hw) h
theorem kE7 (hwt : Region.wanted ⟨dst, .build 51 #[(0, .const (.int .i64 1)), (1, .const (.int .i64 2)), (4, .const (.int .i64 2))], ty, pos, after, gd⟩ (yielded ops a.tmps) = true) (h : wpK Try.prog ops C Qk rest (a.put dst (.agg (enL ⟨1, 2, 0, fun _ => 0, 2⟩).toArray))) : wpK Try.prog ops C Qk (⟨dst, .build 51 #[(0, .const (.int .i64 1)), (1, .const (.int .i64 2)), (4, .const (.int .i64 2))], ty, pos, after, gd⟩ :: rest) a :=
  wpK_val hwt (fun w hw => gives_value (w' := w) (by
    have hm : (#[(0, .const (.int .i64 1)), (1, .const (.int .i64 2)), (4, .const (.int .i64 2))] : Array (Nat × Operand)).map (fun (i, x) => (i, a.eval x)) = #[(0, .int .i64 1), (1, .int .i64 2), (4, .int .i64 2)] := by
      simp only [List.map_toArray, List.map_cons, List.map_nil]; rfl
    simp only [execOp, Sem.run_bind, hm, run_e7, Result.andThen_ok, Sem.run_pure]) hw) h
/-- Two that are alike, of whatever type. -/
theorem kneV {T : TypeId} {cs : Array Value} (hg : Try.prog.eqGuardType Try.prog.depth T = false) (hn : ∀ w, (binOp .neq T (.agg cs) (.agg cs)).run Try.prog w = .ok (.bool false) w) (hwt : Region.wanted ⟨dst, .binOp .neq T x y r, ty, pos, after, gd⟩ (yielded ops a.tmps) = true) (hx : a.eval x = .agg cs) (hy : a.eval y = .agg cs)
    (h : wpK Try.prog ops C Qk rest (a.put dst (.bool false))) : wpK Try.prog ops C Qk (⟨dst, .binOp .neq T x y r, ty, pos, after, gd⟩ :: rest) a :=
  wpK_val hwt (fun w hw => gives_value (w' := w) (by
    have h1 : (eqGuard .neq T x y (.agg cs) (.agg cs)).run Try.prog w = .ok () w := by
      simp [eqGuard, hg, go_sem]
    simp only [execOp, hx, hy, Sem.run_bind, h1, hn, Result.andThen_ok, Sem.run_pure]) hw) h
end
def zBus : Array Value := #[.slice none 0 0, .pointer none, .map none, .slice none 0 0, .bool false]
theorem run_bus0 (w : World) : (Instr.build 56 #[]).run Try.prog w = .ok (.agg zBus) w := run_build w _ _ _ (by kernel_rfl)
theorem run_litPN (m : Nat) (w : World) : (Instr.buildSlice 52 2 #[(0, .pointer (some ⟨m, 0, none⟩)), (1, .pointer none)]).run Try.prog w = .ok (.slice (some ⟨w.heap.size, 0, none⟩) 2 2) (w.alloc (.cells #[.pointer (some ⟨m, 0, none⟩), .pointer none] 23)) := by
  have h1 : (Try.prog.info? 23).map (·.size) = some 1 := by kernel_rfl
  have h3 : (Try.prog.info? 23).bind (·.zero) = some (.pointer none) := by kernel_rfl
  cases hi : Try.prog.info? 23 with
  | none => rw [hi] at h1; cases h1
  | some i =>
    rw [hi] at h1 h3
    simp only [Option.map_some, Option.some.injEq, Option.bind_some] at h1 h3
    exact run_buildSlice w _ _ 2 _ _ i _ undPtP hi h3 (by rw [h1]; omega) (by rw [h1]; omega) (by rw [h1]; kernel_rfl)
section
variable {ops : Array Oper} {Q : Exit → Act → World → Prop} {a : Act} {w : World} {rest : List Oper} {dst : Option Tmp} {ty : TypeId} {pos : String} {after : Array Edge} {x : Operand} {m : Nat}
theorem wblBus0 (hk : wpList Try.prog ops Q rest (a.put dst (.agg zBus)) w) : wpList Try.prog ops Q (⟨dst, .build 56 #[], ty, pos, after, none⟩ :: rest) a w := by
  have hm : (#[] : Array (Nat × Operand)).map (fun (i, x) => (i, a.eval x)) = #[] := by simp
  refine wpList_plain rfl fun K hK => ?_
  unfold Oper.wp execOp
  simp only [Sem.run_bind, hm, run_bus0, Result.andThen_ok, Sem.run_pure]
  exact hK _ _ hk
theorem wblT7 (hk : wpList Try.prog ops Q rest (a.put dst (.agg (ar 32 t7))) w) : wpList Try.prog ops Q (⟨dst, .build 41 #[(0, .const (.int .u8 7))], ty, pos, after, none⟩ :: rest) a w := by
  have hm : (#[(0, .const (.int .u8 7))] : Array (Nat × Operand)).map (fun (i, x) => (i, a.eval x)) = #[(0, .int .u8 7)] := by
    simp only [List.map_toArray, List.map_cons, List.map_nil]; rfl
  refine wpList_plain rfl fun K hK => ?_
  unfold Oper.wp execOp
  simp only [Sem.run_bind, hm, run_t7, Result.andThen_ok, Sem.run_pure]
  exact hK _ _ hk
theorem wlitPN (hx : a.eval x = .pointer (some ⟨m, 0, none⟩)) (hk : wpList Try.prog ops Q rest (a.put dst (.slice (some ⟨w.heap.size, 0, none⟩) 2 2)) (w.alloc (.cells #[.pointer (some ⟨m, 0, none⟩), .pointer none] 23))) : wpList Try.prog ops Q (⟨dst, .buildSlice 52 2 #[(0, x), (1, .const (.pointer none))], ty, pos, after, none⟩ :: rest) a w := by
  have hm : (#[(0, x), (1, .const (.pointer none))] : Array (Nat × Operand)).map (fun (i, x) => (i, a.eval x)) = #[(0, .pointer (some ⟨m, 0, none⟩)), (1, .pointer none)] := by
    simp only [List.map_toArray, List.map_cons, List.map_nil, hx]; rfl
  refine wpList_plain rfl fun K hK => ?_
  unfold Oper.wp execOp
  simp only [Sem.run_bind, hm, run_litPN m w, Result.andThen_ok, Sem.run_pure]
  exact hK _ _ hk
end
theorem rgB {w w' : World} {B b o : Nat} {cs : List Value} (h : w.rangeAt b o cs) (hb : Below B w w') (hlt : b < B) : w'.rangeAt b o cs := fun j v hj => (hb.cell hlt).trans (h j v hj)
/-- A bus of the law alone; blocks of V stay. -/
abbrev Kn (W w0 : World) (V : Nat → Prop) (w : World) (g : Nat) (F : Fq) (k : Nat) (b : Bs) : Prop := Qu (RepK 0) W w0 V w g F k b [] (fun _ _ => False) (fun _ _ => False) 0 []
theorem Kn.io {W w0 w w' : World} {V : Nat → Prop} {g k k' : Nat} {F : Fq} {b b' : Bs} (H : Kn W w0 V w g F k b) (ho : outQ (RepK 0) w g F k' b' w') : ∃ F', Kn W w0 V w' g F' k' b' := by
  obtain ⟨F', _, h⟩ := Qu.bus H ho
  exact ⟨F', h⟩
set_option maxHeartbeats 8000000 in
set_option maxRecDepth 100000 in
theorem bknown_law (w : World) : Calls Try.prog 3 #[] w fun e w' => e = .returned (.bool true) ∧ Below w.heap.size w w' := by
  go_enter Try.func3, Try.ntmps3
  go_wp2_with fail
  refine (given_any w).mono ?_
  rintro e w1 ⟨gS, gB, rfl, hs, hp, hgB, hne, h1⟩
  have HS := hid hs
  have HP := hid hp
  have B1 := hid h1
  clear hs hp h1
  go_wp2_with fail
  refine (two_any bus_ok (steps := [gs1, gs2]) (sl := [⟨none, 0⟩, ⟨some ⟨gB, 0, none⟩, 2⟩]) (Sp := fun q => q = gB) HS.out rfl (by omega) (fun s x hx => ?_) (fun q e => ?_)).mono ?_
  · have hx' : (s, x) = (gs1, (⟨none, 0⟩ : SlB)) ∨ (s, x) = (gs2, (⟨some ⟨gB, 0, none⟩, 2⟩ : SlB)) := by simpa using hx
    rcases hx' with hx' | hx'
    · cases hx'
      exact ⟨⟨rfl, Nat.le_refl _, Nat.zero_le _, (fun x hx => by cases hx), fun _ => ⟨rfl, rfl⟩, Byt.none rfl⟩, by show 0 ≤ _; omega, ⟨fun _ => by show 1 < 256; omega, fun p hp => by cases hp⟩, fun q o h0 _ => by cases h0⟩
    · cases hx'
      exact ⟨HP.out, by show 2 ≤ _; omega, ⟨fun _ => by show 0 < 256; omega, fun p hp => (by have h9 : p = 0 ∨ p = 1 := (by simpa [gs2] using hp); omega)⟩, fun q o _ e => by cases e; rfl⟩
  · obtain ⟨b, o, e', hl, _⟩ := HP.out.byt (by show 0 < 2; omega)
    cases e'
    rw [e]; exact hl
  rintro e w2 ⟨g, m1, m2, F, rfl, hP, hgs, hm, _, h2⟩
  have Q2 := hid (show Kn w w2 (fun _ => False) w2 g F 0 aw0 from by
    have hw1 := B1.out.size
    refine { pp := hP, len := rfl, mem := fun i gi st h1 _ => by simp at h1, ok := fun st h => (by cases h), ap := fun i j q hi => absurd hi (Nat.not_lt_zero i), d1 := fun q _ i hi => absurd hi (Nat.not_lt_zero i), d2 := fun i q hi => absurd hi (Nat.not_lt_zero i), lowP := fun q e => ⟨by have := hm q e; omega, id⟩, lowM := fun i q hi => absurd hi (Nat.not_lt_zero i), vl := fun q e => e.elim, kp := fun q e => e.elim, bel := B1.out.trans (h2.mono hw1) })
  clear hP hm h2 HS HP hgs B1
  unfold MbP.at'
  go_wp2_with fail
  refine (awake_any bus_ok w2).mono ?_
  rintro e w3 ⟨rfl, h3⟩
  have K3 := hid (Q2.out.below bus_ok h3)
  clear h3 Q2
  go_wp2_with fail
  refine (bus_ok.read (b := aw0) K3.out.pp (by show 0 + 2 + 2 ≤ _; omega) 0 2).mono ?_
  rintro e w4 ⟨rfl, ho⟩
  rw [aw_r1.1, aw_r1.2]
  obtain ⟨F4, q4⟩ := Kn.io K3.out ho
  have K4 := hid (show Kn w w2 (fun _ => False) w4 g F4 4 aw1 from q4)
  clear ho q4 K3
  go_wp2_with fail
  refine (bus_ok.read (b := aw1) K4.out.pp (by show 4 + 2 + 2 ≤ _; omega) 0 2).mono ?_
  rintro e w5 ⟨rfl, ho⟩
  rw [aw_r2.1, aw_r2.2]
  obtain ⟨F5, q5⟩ := Kn.io K4.out ho
  have K5 := hid (show Kn w w2 (fun _ => False) w5 g F5 8 aw2 from q5)
  clear ho q5 K4
  go_wp2_with fail
  refine (full13_any 1 w5).mono ?_
  rintro e w6 ⟨rfl, hb⟩
  have K6 := hid (K5.out.below bus_ok hb)
  clear hb K5
  go_wp2_with fail
  refine (bus_ok.write (b := aw2) K6.out.pp (by show 8 + 2 + 2 ≤ _; omega) 1 0 f1 (fun _ => by show 1 < 256; omega)).mono ?_
  rintro e w7 ⟨rfl, ho⟩
  rw [aw_w3]
  obtain ⟨F7, q7⟩ := Kn.io K6.out ho
  have K7 := hid (show Kn w w2 (fun _ => False) w7 g F7 12 aw3 from q7)
  clear ho q7 K6
  go_wp2_with fail
  refine (full13_any 1 w7).mono ?_
  rintro e w8 ⟨rfl, hb⟩
  have K8 := hid (K7.out.below bus_ok hb)
  clear hb K7
  go_wp2_with fail
  refine (bus_ok.write (b := aw3) K8.out.pp (by show 12 + 2 + 2 ≤ _; omega) 1 1 f1 (fun _ => by show 1 < 256; omega)).mono ?_
  rintro e w9 ⟨rfl, ho⟩
  rw [aw_w4]
  obtain ⟨F9, q9⟩ := Kn.io K8.out ho
  have K9 := hid (show Kn w w2 (fun _ => False) w9 g F9 16 aw4 from q9)
  clear ho q9 K8
  go_wp2_with fail
  refine (bus_ok.power (b := aw4) K9.out.pp).mono ?_
  rintro e w10 ⟨rfl, ho⟩
  obtain ⟨F10, q10⟩ := Kn.io K9.out ho
  have K10 := hid (show Kn w w2 (fun _ => False) w10 g F10 16 aw5 from q10)
  clear ho q10 K9
  go_wp2_with fail
  refine (bus_ok.off (b := aw5) K10.out.pp).mono ?_
  rintro e w11 ⟨rfl, hb⟩
  rw [kn_5]
  have K11 := hid (K10.out.below bus_ok hb)
  clear hb K10
  go_wp2_with fail
  refine (bus_ok.read (b := aw5) K11.out.pp (by show 16 + 2 + 2 ≤ _; omega) 1 0).mono ?_
  rintro e w12 ⟨rfl, ho⟩
  rw [kn_r5.1, kn_r5.2]
  obtain ⟨F12, q12⟩ := Kn.io K11.out ho
  have K12 := hid (show Kn w w2 (fun _ => False) w12 g F12 20 aw6 from q12)
  clear ho q12 K11
  go_upto_region 11 with (first | (with_reducible apply alA tSe) | ((with_reducible apply stA tSe); rfl; rfl; exact Blk.new _ _ _))
  generalize hwX : World.setRow _ _ _ = w13
  have b6 : Below w12.heap.size w12 w13 := by rw [← hwX]; exact below_setRow ((Below.refl _ _).alloc (Nat.le_refl _) _) (Nat.le_refl _) _
  have SX := hid (show Blk w13 w12.heap.size 30 (ar 64 fun _ => 0) by rw [← hwX]; exact (Blk.new w12 _ _).setRow_same _)
  obtain ⟨gX, hgX⟩ : ∃ n, n = w12.heap.size := ⟨_, rfl⟩
  rw [← hgX] at SX ⊢
  have K13 := hid (show Kn w w13 (fun q => q = gX) w13 g F12 20 aw6 from (K12.out.below bus_ok b6).base fun q e => ⟨by rw [e]; exact SX.out.lt, fun x => by have := K12.out.pp.mlt q x; omega, fun i hi => absurd hi (Nat.not_lt_zero i)⟩)
  clear hwX b6 hgX K12
  go_wp2_with (with_reducible apply wblT7)
  have hca := bus_ok.adv (b := aw6) K13.out.pp (by show 20 + 2 + 2 ≤ _; omega) t7
  rw [kn_a6.1, kn_a6.2] at hca
  refine hca.mono ?_
  rintro e w14 ⟨rfl, ho⟩
  obtain ⟨F14, q14⟩ := Kn.io K13.out ho
  have K14 := hid (show Kn w w13 (fun q => q = gX) w14 g F14 24 aw7 from q14)
  clear ho q14 K13 hca
  go_wp2_with fail
  have hca := bus_ok.cell (b := aw7) K14.out.pp (by show 24 + 2 + 2 ≤ _; omega)
  rw [kn_c7.1, kn_c7.2] at hca
  refine hca.mono ?_
  rintro e w15 ⟨rfl, ho⟩
  obtain ⟨F15, q15⟩ := Kn.io K14.out ho
  have K15 := hid (show Kn w w13 (fun q => q = gX) w15 g F15 28 aw8 from q15)
  clear ho q15 K14 hca
  go_upto_region 13 with (first | (with_reducible apply alZ' ClP.zCe) | ((with_reducible apply stR (ClP.tCe (1, t7))); rfl; rfl; exact Blk.new _ _ _; exact ClP.ce_size _ _; exact ClP.ce_one _))
  generalize hwX : World.setRow _ _ _ = w16
  have b6 : Below w15.heap.size w15 w16 := by rw [← hwX]; exact below_setRow ((Below.refl _ _).alloc (Nat.le_refl _) _) (Nat.le_refl _) _
  have SC := hid (show Blk w16 w15.heap.size 43 (ClP.ceL (1, t7)).toArray by rw [← hwX]; exact (Blk.new w15 _ _).setRow_same _)
  obtain ⟨gC, hgC⟩ : ∃ n, n = w15.heap.size := ⟨_, rfl⟩
  rw [← hgC] at SC ⊢
  have SX2 := hid ((K15.out.blk SX.out rfl).below b6 (K15.out.vl gX rfl))
  have K16 := hid (show Kn w w16 (fun q => q = gX ∨ q = gC) w16 g F15 28 aw8 from (K15.out.below bus_ok b6).base fun q e => ⟨by rcases e with e | e <;> rw [e] <;> first | exact SX2.out.lt | exact SC.out.lt, fun x => by
    rcases e with e | e
    · exact (K15.out.lowP q x).2 e
    · have := K15.out.pp.mlt q x; omega, fun i hi => absurd hi (Nat.not_lt_zero i)⟩)
  clear hwX b6 hgC K15 SX
  go_wp2_with fail
  have hca := bus_ok.read (b := aw8) K16.out.pp (by show 28 + 2 + 2 ≤ _; omega) 2 0
  rw [kn_r8] at hca
  obtain ⟨sv17, hsv⟩ : ∃ s, s = (BuM.rdB (BuM.ahead aw8) 2 0).s := ⟨_, rfl⟩
  rw [← hsv] at hca
  refine hca.mono ?_
  rintro e w17 ⟨rfl, ho⟩
  obtain ⟨F17, q17⟩ := Kn.io K16.out ho
  have K17 := hid (show Kn w w16 (fun q => q = gX ∨ q = gC) w17 g F17 32 aw9 from q17)
  clear ho q17 K16 hca hsv
  go_upto_region 14 with (first | (with_reducible apply alA tSe) | ((with_reducible apply stA tSe); rfl; rfl; exact Blk.new _ _ _))
  generalize hwX : World.setRow _ _ _ = w18
  have K18 := hid (K17.out.below bus_ok (show Below w17.heap.size w17 w18 by rw [← hwX]; exact below_setRow ((Below.refl _ _).alloc (Nat.le_refl _) _) (Nat.le_refl _) _))
  obtain ⟨gY18, hgY⟩ : ∃ n, n = w17.heap.size := ⟨_, rfl⟩
  rw [← hgY]
  clear hwX K17 hgY
  go_wp2_with fail
  have hca := bus_ok.read (b := aw9) K18.out.pp (by show 32 + 2 + 2 ≤ _; omega) 0 4
  rw [kn_r9] at hca
  obtain ⟨sv19, hsv⟩ : ∃ s, s = (BuM.rdB (BuM.ahead aw9) 0 4).s := ⟨_, rfl⟩
  rw [← hsv] at hca
  refine hca.mono ?_
  rintro e w19 ⟨rfl, ho⟩
  obtain ⟨F19, q19⟩ := Kn.io K18.out ho
  have K19 := hid (show Kn w w16 (fun q => q = gX ∨ q = gC) w19 g F19 36 aw10 from q19)
  clear ho q19 K18 hca hsv
  go_upto_region 15 with (first | (with_reducible apply alA tSe) | ((with_reducible apply stA tSe); rfl; rfl; exact Blk.new _ _ _))
  generalize hwX : World.setRow _ _ _ = w20
  have K20 := hid (K19.out.below bus_ok (show Below w19.heap.size w19 w20 by rw [← hwX]; exact below_setRow ((Below.refl _ _).alloc (Nat.le_refl _) _) (Nat.le_refl _) _))
  obtain ⟨gY20, hgY⟩ : ∃ n, n = w19.heap.size := ⟨_, rfl⟩
  rw [← hgY]
  clear hwX K19 hgY
  have SX3 := hid (K20.out.blk SX2.out (.inl rfl))
  have SC3 := hid (K20.out.blk SC.out (.inr rfl))
  refine wp_region_fixed (C := fun w' => Below w20.heap.size w20 w') 21 (Below.refl _ _) ?_
  simp only [List.take_succ_cons, List.take_zero, List.drop_succ_cons, List.drop_zero]
  apply kldA tSe
  · rfl
  · rfl
  · exact fun w' hw' => (SX3.out.below hw' SX3.out.lt).head
  simp only [Act.put, List.setIfInBounds_toArray, List.set_cons_succ, List.set_cons_zero]
  apply kbldZ (hb := run_se0)
  · rfl
  simp only [Act.put, List.setIfInBounds_toArray, List.set_cons_succ, List.set_cons_zero]
  apply kneU false uSe' gSe'
  · rfl
  · rfl
  · rfl
  · exact (by rw [eqA_yes fun _ _ => rfl]; rfl)
  simp only [Act.put, List.setIfInBounds_toArray, List.set_cons_succ, List.set_cons_zero]
  apply wpK_val
  · rfl
  · intro w' hw'
    go_simp
    first | exact rfl | exact ⟨rfl, hw'⟩
  simp only [Act.put, List.setIfInBounds_toArray, List.set_cons_succ, List.set_cons_zero]
  apply wpK_val
  · rfl
  · intro w' hw'
    go_simp
    first | exact rfl | exact ⟨rfl, hw'⟩
  simp only [Act.put, List.setIfInBounds_toArray, List.set_cons_succ, List.set_cons_zero]
  apply wpK_val
  · rfl
  · intro w' hw'
    go_simp
    first | exact rfl | exact ⟨rfl, hw'⟩
  simp only [Act.put, List.setIfInBounds_toArray, List.set_cons_succ, List.set_cons_zero]
  apply wpK_val
  · rfl
  · intro w' hw'
    go_simp
    first | exact rfl | exact ⟨rfl, hw'⟩
  simp only [Act.put, List.setIfInBounds_toArray, List.set_cons_succ, List.set_cons_zero]
  apply wpK_val
  · rfl
  · intro w' hw'
    go_simp
    first | exact rfl | exact ⟨rfl, hw'⟩
  simp only [Act.put, List.setIfInBounds_toArray, List.set_cons_succ, List.set_cons_zero]
  apply wpK_val
  · rfl
  · intro w' hw'
    go_simp
    first | exact rfl | exact ⟨rfl, hw'⟩
  simp only [Act.put, List.setIfInBounds_toArray, List.set_cons_succ, List.set_cons_zero]
  apply wpK_val
  · rfl
  · intro w' hw'
    go_simp
    first | exact rfl | exact ⟨rfl, hw'⟩
  simp only [Act.put, List.setIfInBounds_toArray, List.set_cons_succ, List.set_cons_zero]
  apply wpK_val
  · rfl
  · intro w' hw'
    go_simp
    first | exact rfl | exact ⟨rfl, hw'⟩
  simp only [Act.put, List.setIfInBounds_toArray, List.set_cons_succ, List.set_cons_zero]
  apply wpK_val
  · rfl
  · intro w' hw'
    go_simp
    first | exact rfl | exact ⟨rfl, hw'⟩
  simp only [Act.put, List.setIfInBounds_toArray, List.set_cons_succ, List.set_cons_zero]
  apply wpK_val
  · rfl
  · intro w' hw'
    go_simp
    first | exact rfl | exact ⟨rfl, hw'⟩
  simp only [Act.put, List.setIfInBounds_toArray, List.set_cons_succ, List.set_cons_zero]
  apply wpK_val
  · rfl
  · intro w' hw'
    go_simp
    first | exact rfl | exact ⟨rfl, hw'⟩
  simp only [Act.put, List.setIfInBounds_toArray, List.set_cons_succ, List.set_cons_zero]
  apply wpK_val
  · rfl
  · intro w' hw'
    go_simp
    first | exact rfl | exact ⟨rfl, hw'⟩
  simp only [Act.put, List.setIfInBounds_toArray, List.set_cons_succ, List.set_cons_zero]
  apply wpK_val
  · rfl
  · intro w' hw'
    go_simp
    first | exact rfl | exact ⟨rfl, hw'⟩
  simp only [Act.put, List.setIfInBounds_toArray, List.set_cons_succ, List.set_cons_zero]
  apply kldR (cs := (ClP.ceL (1, t7)).toArray) (ClP.tCe (1, t7))
  · rfl
  · rfl
  · exact fun w' hw' => (SC3.out.below hw' SC3.out.lt).whole
  simp only [Act.put, List.setIfInBounds_toArray, List.set_cons_succ, List.set_cons_zero]
  apply kbldOne (hb := run_t7)
  · rfl
  simp only [Act.put, List.setIfInBounds_toArray, List.set_cons_succ, List.set_cons_zero]
  apply kC7
  · rfl
  · rfl
  simp only [Act.put, List.setIfInBounds_toArray, List.set_cons_succ, List.set_cons_zero]
  apply kneV ClP.gCe ne_c7
  · rfl
  · rfl
  · rfl
  simp only [Act.put, List.setIfInBounds_toArray, List.set_cons_succ, List.set_cons_zero]
  apply wpK_val
  · rfl
  · intro w' hw'
    go_simp
    first | exact rfl | exact ⟨rfl, hw'⟩
  simp only [Act.put, List.setIfInBounds_toArray, List.set_cons_succ, List.set_cons_zero]
  intro wq hCq
  have K21 := hid (K20.out.below bus_ok hCq)
  clear hCq SX3 SC3 SX2 SC K20
  go_wp2_with fail
  refine (full13_any 1 wq).mono ?_
  rintro e w22 ⟨rfl, hb⟩
  have K22 := hid (K21.out.below bus_ok hb)
  clear hb K21
  go_wp2_with fail
  refine (bus_ok.write (b := aw10) K22.out.pp (by show 36 + 2 + 2 ≤ _; omega) 0 0 f1 (fun _ => by show 1 < 256; omega)).mono ?_
  rintro e w23 ⟨rfl, ho⟩
  rw [kn_w10]
  obtain ⟨F23, q23⟩ := Kn.io K22.out ho
  have K23 := hid (show Kn w w16 (fun q => q = gX ∨ q = gC) w23 g F23 40 aw11 from q23)
  clear ho q23 K22
  go_wp2_with fail
  refine (bus_ok.flush (b := aw11) K23.out.pp (by show 40 + 2 + 2 ≤ _; omega) 0).mono ?_
  rintro e w24 ⟨rfl, ho⟩
  rw [kn_f11]
  obtain ⟨F24, q24⟩ := Kn.io K23.out ho
  have K24 := hid (show Kn w w16 (fun q => q = gX ∨ q = gC) w24 g F24 44 aw12 from q24)
  clear ho q24 K23
  go_wp2_with fail
  have hca := bus_ok.count (b := aw12) K24.out.pp
  rw [kn_len] at hca
  refine hca.mono ?_
  rintro e w25 ⟨rfl, hb⟩
  have K25 := hid (K24.out.below bus_ok hb)
  clear hb K24 hca
  go_wp2_with fail
  refine (bus_ok.log (b := aw12) K25.out.pp (by omega)).mono ?_
  rintro e w26 ⟨v, rfl, ow, hb⟩
  obtain ⟨AV, cv, rfl, sl⟩ := ow.sli enL_len
  rw [kn_len] at sl ⊢
  obtain ⟨bL, oL, rfl, _, hbl, hr1⟩ := sl.some kn_1
  obtain ⟨_, _, e3, _, _, hr3⟩ := sl.some kn_3
  cases e3
  obtain ⟨_, _, e3, _, _, hr5⟩ := sl.some kn_51
  cases e3
  obtain ⟨_, _, e3, _, _, hr7⟩ := sl.some kn_7
  cases e3
  have BE := hid (K25.out.bel.trans (hb.mono K25.out.bel.size))
  have R1 := hid (show w26.rangeAt bL (oL + 68) (enL ⟨1, 0, 2, f1, 0⟩) from hr1)
  have R3 := hid (show w26.rangeAt bL (oL + 204) (enL ⟨2, 1, 1, f1, 13⟩) from hr3)
  have R5 := hid (show w26.rangeAt bL (oL + 340) (enL ⟨5, 0, 0, pad t7, 0⟩) from hr5)
  have R7 := hid (show w26.rangeAt bL (oL + 476) (enL ⟨1, 2, 0, fun _ => 0, 2⟩) from hr7)
  clear ow sl hr1 hr3 hr5 hr7 hb K25
  go_wp2_with fail
  go_upto_region 18 with fail
  refine wp_region_tail (C := fun w' => Below w26.heap.size w26 w') 48 (by kernel_rfl) (by kernel_rfl) (by kernel_rfl) (Below.refl _ _).drew ?_
  simp only [List.take_succ_cons, List.take_zero, List.drop_succ_cons, List.drop_zero]
  apply wpK_val
  · rfl
  · intro w' hw'
    go_simp
    first | exact rfl | exact ⟨rfl, hw'⟩
  simp only [Act.put, List.setIfInBounds_toArray, List.set_cons_succ, List.set_cons_zero]
  apply wpK_val
  · rfl
  · intro w' hw'
    go_simp
    first | exact rfl | exact ⟨rfl, hw'⟩
  simp only [Act.put, List.setIfInBounds_toArray, List.set_cons_succ, List.set_cons_zero]
  apply wpK_val
  · rfl
  · intro w' hw'
    go_simp
    first | exact rfl | exact ⟨rfl, hw'⟩
  simp only [Act.put, List.setIfInBounds_toArray, List.set_cons_succ, List.set_cons_zero]
  apply wpK_val
  · rfl
  · intro w' hw'
    go_simp
    first | exact rfl | exact ⟨rfl, hw'⟩
  simp only [Act.put, List.setIfInBounds_toArray, List.set_cons_succ, List.set_cons_zero]
  apply wpK_val
  · rfl
  · intro w' hw'
    go_simp
    first | exact rfl | exact ⟨rfl, hw'⟩
  simp only [Act.put, List.setIfInBounds_toArray, List.set_cons_succ, List.set_cons_zero]
  apply wpK_val
  · rfl
  · intro w' hw'
    go_simp
    first | exact rfl | exact ⟨rfl, hw'⟩
  simp only [Act.put, List.setIfInBounds_toArray, List.set_cons_succ, List.set_cons_zero]
  apply kldR (cs := (enL ⟨1, 0, 2, f1, 0⟩).toArray) (tEnP _)
  · rfl
  · rfl
  · exact fun w' hw' => rgB R1.out hw' hbl
  simp only [Act.put, List.setIfInBounds_toArray, List.set_cons_succ, List.set_cons_zero]
  apply wpK_val
  · rfl
  · intro w' hw'
    go_simp
    exact (full13_any 1 w').mono fun e w5 ⟨h1, h5⟩ => ⟨h1, hw'.trans (h5.mono hw'.size)⟩
  simp only [Act.put, List.setIfInBounds_toArray, List.set_cons_succ, List.set_cons_zero]
  apply kE1
  · rfl
  · rfl
  simp only [Act.put, List.setIfInBounds_toArray, List.set_cons_succ, List.set_cons_zero]
  apply kneV gEn ne_e1
  · rfl
  · rfl
  · rfl
  simp only [Act.put, List.setIfInBounds_toArray, List.set_cons_succ, List.set_cons_zero]
  apply wpK_val
  · rfl
  · intro w' hw'
    go_simp
    first | exact rfl | exact ⟨rfl, hw'⟩
  simp only [Act.put, List.setIfInBounds_toArray, List.set_cons_succ, List.set_cons_zero]
  apply wpK_val
  · rfl
  · intro w' hw'
    go_simp
    first | exact rfl | exact ⟨rfl, hw'⟩
  simp only [Act.put, List.setIfInBounds_toArray, List.set_cons_succ, List.set_cons_zero]
  apply wpK_val
  · rfl
  · intro w' hw'
    go_simp
    first | exact rfl | exact ⟨rfl, hw'⟩
  simp only [Act.put, List.setIfInBounds_toArray, List.set_cons_succ, List.set_cons_zero]
  apply wpK_val
  · rfl
  · intro w' hw'
    go_simp
    first | exact rfl | exact ⟨rfl, hw'⟩
  simp only [Act.put, List.setIfInBounds_toArray, List.set_cons_succ, List.set_cons_zero]
  apply wpK_val
  · rfl
  · intro w' hw'
    go_simp
    first | exact rfl | exact ⟨rfl, hw'⟩
  simp only [Act.put, List.setIfInBounds_toArray, List.set_cons_succ, List.set_cons_zero]
  apply wpK_val
  · rfl
  · intro w' hw'
    have hcell := rgB R3.out hw' hbl 67 (.int .i64 13) rfl
    go_simp
    first | exact rfl | exact ⟨rfl, hw'⟩
  simp only [Act.put, List.setIfInBounds_toArray, List.set_cons_succ, List.set_cons_zero]
  apply wpK_val
  · rfl
  · intro w' hw'
    go_simp
    first | exact rfl | exact ⟨rfl, hw'⟩
  simp only [Act.put, List.setIfInBounds_toArray, List.set_cons_succ, List.set_cons_zero]
  apply wpK_val
  · rfl
  · intro w' hw'
    go_simp
    first | exact rfl | exact ⟨rfl, hw'⟩
  simp only [Act.put, List.setIfInBounds_toArray, List.set_cons_succ, List.set_cons_zero]
  apply wpK_val
  · rfl
  · intro w' hw'
    go_simp
    first | exact rfl | exact ⟨rfl, hw'⟩
  simp only [Act.put, List.setIfInBounds_toArray, List.set_cons_succ, List.set_cons_zero]
  apply wpK_val
  · rfl
  · intro w' hw'
    go_simp
    first | exact rfl | exact ⟨rfl, hw'⟩
  simp only [Act.put, List.setIfInBounds_toArray, List.set_cons_succ, List.set_cons_zero]
  apply wpK_val
  · rfl
  · intro w' hw'
    go_simp
    first | exact rfl | exact ⟨rfl, hw'⟩
  simp only [Act.put, List.setIfInBounds_toArray, List.set_cons_succ, List.set_cons_zero]
  apply wpK_val
  · rfl
  · intro w' hw'
    go_simp
    first | exact rfl | exact ⟨rfl, hw'⟩
  simp only [Act.put, List.setIfInBounds_toArray, List.set_cons_succ, List.set_cons_zero]
  apply kldA tSe
  · rfl
  · rfl
  · exact fun w' hw' => en_s (rgB R3.out hw' hbl)
  simp only [Act.put, List.setIfInBounds_toArray, List.set_cons_succ, List.set_cons_zero]
  apply wpK_val
  · rfl
  · intro w' hw'
    go_simp
    exact (full13_any 1 w').mono fun e w5 ⟨h1, h5⟩ => ⟨h1, hw'.trans (h5.mono hw'.size)⟩
  simp only [Act.put, List.setIfInBounds_toArray, List.set_cons_succ, List.set_cons_zero]
  apply kneU false uSe' gSe'
  · rfl
  · rfl
  · rfl
  · exact (by show (!eqA 64 f1 f1) = false; rw [eqA_yes fun _ _ => rfl]; rfl)
  simp only [Act.put, List.setIfInBounds_toArray, List.set_cons_succ, List.set_cons_zero]
  apply wpK_val
  · rfl
  · intro w' hw'
    go_simp
    first | exact rfl | exact ⟨rfl, hw'⟩
  simp only [Act.put, List.setIfInBounds_toArray, List.set_cons_succ, List.set_cons_zero]
  apply wpK_val
  · rfl
  · intro w' hw'
    go_simp
    first | exact rfl | exact ⟨rfl, hw'⟩
  simp only [Act.put, List.setIfInBounds_toArray, List.set_cons_succ, List.set_cons_zero]
  apply wpK_val
  · rfl
  · intro w' hw'
    go_simp
    first | exact rfl | exact ⟨rfl, hw'⟩
  simp only [Act.put, List.setIfInBounds_toArray, List.set_cons_succ, List.set_cons_zero]
  apply wpK_val
  · rfl
  · intro w' hw'
    go_simp
    first | exact rfl | exact ⟨rfl, hw'⟩
  simp only [Act.put, List.setIfInBounds_toArray, List.set_cons_succ, List.set_cons_zero]
  apply wpK_val
  · rfl
  · intro w' hw'
    go_simp
    first | exact rfl | exact ⟨rfl, hw'⟩
  simp only [Act.put, List.setIfInBounds_toArray, List.set_cons_succ, List.set_cons_zero]
  apply wpK_val
  · rfl
  · intro w' hw'
    have hcell := rgB R5.out hw' hbl 0 (.int .i64 5) rfl
    go_simp
    first | exact rfl | exact ⟨rfl, hw'⟩
  simp only [Act.put, List.setIfInBounds_toArray, List.set_cons_succ, List.set_cons_zero]
  apply wpK_val
  · rfl
  · intro w' hw'
    go_simp
    first | exact rfl | exact ⟨rfl, hw'⟩
  simp only [Act.put, List.setIfInBounds_toArray, List.set_cons_succ, List.set_cons_zero]
  apply wpK_val
  · rfl
  · intro w' hw'
    go_simp
    first | exact rfl | exact ⟨rfl, hw'⟩
  simp only [Act.put, List.setIfInBounds_toArray, List.set_cons_succ, List.set_cons_zero]
  apply wpK_val
  · rfl
  · intro w' hw'
    go_simp
    first | exact rfl | exact ⟨rfl, hw'⟩
  simp only [Act.put, List.setIfInBounds_toArray, List.set_cons_succ, List.set_cons_zero]
  apply wpK_val
  · rfl
  · intro w' hw'
    go_simp
    first | exact rfl | exact ⟨rfl, hw'⟩
  simp only [Act.put, List.setIfInBounds_toArray, List.set_cons_succ, List.set_cons_zero]
  apply wpK_val
  · rfl
  · intro w' hw'
    go_simp
    first | exact rfl | exact ⟨rfl, hw'⟩
  simp only [Act.put, List.setIfInBounds_toArray, List.set_cons_succ, List.set_cons_zero]
  apply wpK_val
  · rfl
  · intro w' hw'
    go_simp
    first | exact rfl | exact ⟨rfl, hw'⟩
  simp only [Act.put, List.setIfInBounds_toArray, List.set_cons_succ, List.set_cons_zero]
  apply kldA tSe
  · rfl
  · rfl
  · exact fun w' hw' => en_s (rgB R5.out hw' hbl)
  simp only [Act.put, List.setIfInBounds_toArray, List.set_cons_succ, List.set_cons_zero]
  apply kbldOne (hb := run_s7)
  · rfl
  simp only [Act.put, List.setIfInBounds_toArray, List.set_cons_succ, List.set_cons_zero]
  apply kneU false uSe' gSe'
  · rfl
  · rfl
  · rfl
  · exact (by rw [s7_eq]; rfl)
  simp only [Act.put, List.setIfInBounds_toArray, List.set_cons_succ, List.set_cons_zero]
  apply wpK_val
  · rfl
  · intro w' hw'
    go_simp
    first | exact rfl | exact ⟨rfl, hw'⟩
  simp only [Act.put, List.setIfInBounds_toArray, List.set_cons_succ, List.set_cons_zero]
  apply wpK_val
  · rfl
  · intro w' hw'
    go_simp
    first | exact rfl | exact ⟨rfl, hw'⟩
  simp only [Act.put, List.setIfInBounds_toArray, List.set_cons_succ, List.set_cons_zero]
  apply wpK_val
  · rfl
  · intro w' hw'
    go_simp
    first | exact rfl | exact ⟨rfl, hw'⟩
  simp only [Act.put, List.setIfInBounds_toArray, List.set_cons_succ, List.set_cons_zero]
  apply wpK_val
  · rfl
  · intro w' hw'
    go_simp
    first | exact rfl | exact ⟨rfl, hw'⟩
  simp only [Act.put, List.setIfInBounds_toArray, List.set_cons_succ, List.set_cons_zero]
  apply kldR (cs := (enL ⟨1, 2, 0, fun _ => 0, 2⟩).toArray) (tEnP _)
  · rfl
  · rfl
  · exact fun w' hw' => rgB R7.out hw' hbl
  simp only [Act.put, List.setIfInBounds_toArray, List.set_cons_succ, List.set_cons_zero]
  apply kE7
  · rfl
  simp only [Act.put, List.setIfInBounds_toArray, List.set_cons_succ, List.set_cons_zero]
  apply kneV gEn ne_e7
  · rfl
  · rfl
  · rfl
  simp only [Act.put, List.setIfInBounds_toArray, List.set_cons_succ, List.set_cons_zero]
  apply wpK_val
  · rfl
  · intro w' hw'
    go_simp
    first | exact rfl | exact ⟨rfl, hw'⟩
  simp only [Act.put, List.setIfInBounds_toArray, List.set_cons_succ, List.set_cons_zero]
  intro wq hCq
  have B1 := hid (BE.out.trans (hCq.mono BE.out.size))
  clear hCq BE R1 R3 R5 R7 hbl
  go_upto_region 22 with (with_reducible apply wblBus0)
  generalize hwZ : World.alloc wq _ = wz
  obtain ⟨gZ, hgZ⟩ : ∃ n, n = wq.heap.size := ⟨_, rfl⟩
  have hb : Below wq.heap.size wq wz := by rw [← hwZ]; exact (Below.refl _ _).alloc (Nat.le_refl _) _
  have Z1 := hid (show Blk wz gZ 56 zBus by rw [← hwZ, hgZ]; exact Blk.new _ _ _)
  have D1 := hid (B1.out.trans (hb.mono B1.out.size))
  rw [← hgZ]
  clear hwZ hgZ hb B1
  go_wp2_with (with_reducible apply wblCe0)
  refine (cb_new 0 ClP.zero (by unfold ClP.most; omega) wz).mono ?_
  rintro e wc ⟨gk, Mk, rfl, rc, lc, hb⟩
  have RC1 := hid rc
  have D2 := hid (D1.out.trans (hb.mono D1.out.size))
  have Z2 := hid (Z1.out.below hb Z1.out.lt)
  clear rc lc hb Z1 D1
  unfold MbP.at'
  go_wp2_with fail
  refine (MbP.memD_ok.new 4 (by omega) (by omega) wc).mono ?_
  rintro e wm ⟨m, Mm, Im, rfl, rm, lm, hb⟩
  have RM1 := hid rm
  have RC2 := hid (cb_turn RC1.out (Turn.of_new (S := fun _ => False) hb) fun _ _ e => e)
  have D3 := hid (D2.out.trans (hb.mono D2.out.size))
  have Z3 := hid (Z2.out.below hb Z2.out.lt)
  clear rm lm hb Z2 D2 RC1
  unfold MbP.at'
  go_wp2_with ((with_reducible apply wlitPN); rfl)
  generalize hwL : World.alloc wm _ = wl
  obtain ⟨gL, hgL⟩ : ∃ n, n = wm.heap.size := ⟨_, rfl⟩
  have hb : Below wm.heap.size wm wl := by rw [← hwL]; exact (Below.refl _ _).alloc (Nat.le_refl _) _
  have BL := hid (show Blk wl gL 23 #[.pointer (some ⟨m, 0, none⟩), .pointer none] by rw [← hwL, hgL]; exact Blk.new _ _ _)
  have RM2 := hid (MbP.memD_ok.frame RM1.out (Turn.of_new (S := fun _ => False) hb) fun _ _ e => e)
  have RC3 := hid (cb_turn RC2.out (Turn.of_new (S := fun _ => False) hb) fun _ _ e => e)
  have D4 := hid (D3.out.trans (hb.mono D3.out.size))
  have Z4 := hid (Z3.out.below hb Z3.out.lt)
  rw [← hgL]
  clear hwL hgL hb RM1 RC2 D3 Z3
  refine (xb_newM (k := 0) (st := made 4) RM2.out (by show 1 ≤ 4; omega) RC3.out (BL.out.cell 0) (BL.out.cell 1)).mono ?_
  rintro e wn ⟨rfl, hb⟩
  have RC4 := hid (cb_turn RC3.out (Turn.of_new (S := fun _ => False) hb) fun _ _ e => e)
  have D5 := hid (D4.out.trans (hb.mono D4.out.size))
  have Z5 := hid (Z4.out.below hb Z4.out.lt)
  clear hb RM2 RC3 D4 Z4 BL
  go_wp2_with ((with_reducible apply wlit1 eltPtP undPtP (x := m)); omega; rfl; rfl)
  have hb : Below wn.heap.size wn (wn.alloc (.cells (ptL m).toArray 23)) := (Below.refl _ _).alloc (Nat.le_refl _) _
  generalize World.alloc wn _ = wo at hb ⊢
  have RC5 := hid (cb_turn RC4.out (Turn.of_new (S := fun _ => False) hb) fun _ _ e => e)
  have D6 := hid (D5.out.trans (hb.mono D5.out.size))
  have Z6 := hid (Z5.out.below hb Z5.out.lt)
  clear hb RC4 D5 Z5
  refine (xb_newC wo).mono ?_
  rintro e wp ⟨rfl, hb⟩
  have RC6 := hid (cb_turn RC5.out (Turn.of_new (S := fun _ => False) hb) fun _ _ e => e)
  have D7 := hid (D6.out.trans (hb.mono D6.out.size))
  have Z7 := hid (Z6.out.below hb Z6.out.lt)
  clear hb RC5 D6 Z6
  go_wp2_with fail
  refine (lb_bad (gs := []) (ms := []) (k := 0) (Ms := fun _ _ => False) (Is := fun _ _ => False) (S := fun _ => True) (Sli.nil 1 ptL _ wp) rfl (fun i gi st h1 _ => by simp at h1) (.inl rfl) (by omega) RC6.out).mono ?_
  rintro e wr ⟨rfl, hb⟩
  have D8 := hid (D7.out.trans (hb.mono D7.out.size))
  have Z8 := hid (Z7.out.below hb Z7.out.lt)
  clear hb RC6 D7 Z7
  go_wp2_with fail
  refine (xb_read (noBus_nil wr)).mono ?_
  rintro e ws ⟨rfl, hb⟩
  have D9 := hid (D8.out.trans (hb.mono D8.out.size))
  have Z9 := hid (Z8.out.below hb Z8.out.lt)
  clear hb D8 Z8
  go_upto_region 28 with (first | (with_reducible apply alA tSe) | ((with_reducible apply stA tSe); rfl; rfl; exact Blk.new _ _ _))
  generalize hwX : World.setRow _ _ _ = wt
  have hb : Below ws.heap.size ws wt := by rw [← hwX]; exact below_setRow ((Below.refl _ _).alloc (Nat.le_refl _) _) (Nat.le_refl _) _
  have D10 := hid (D9.out.trans (hb.mono D9.out.size))
  have Z10 := hid (Z9.out.below hb Z9.out.lt)
  clear hwX hb D9 Z9
  go_wp2_with fail
  refine (xb_cell (noBus_zero (Z10.out.cell 0))).mono ?_
  rintro e wu ⟨rfl, hb⟩
  have D11 := hid (D10.out.trans (hb.mono D10.out.size))
  have Z11 := hid (Z10.out.below hb Z10.out.lt)
  clear hb D10 Z10
  go_upto_region 29 with (first | (with_reducible apply alZ' ClP.zCe) | ((with_reducible apply stR (ClP.tCe (0, ClP.zero))); rfl; rfl; exact Blk.new _ _ _; exact ClP.ce_size _ _; exact ClP.ce_one _))
  generalize hwX : World.setRow _ _ _ = wv
  have hb : Below wu.heap.size wu wv := by rw [← hwX]; exact below_setRow ((Below.refl _ _).alloc (Nat.le_refl _) _) (Nat.le_refl _) _
  have D12 := hid (D11.out.trans (hb.mono D11.out.size))
  have Z12 := hid (Z11.out.below hb Z11.out.lt)
  clear hwX hb D11 Z11
  go_wp2_with ((with_reducible apply bldZr (n := 32)); kernel_rfl)
  refine (xb_adv (noBus_nil wv) (fun _ => 0)).mono ?_
  rintro e ww ⟨rfl, hb⟩
  have D13 := hid (D12.out.trans (hb.mono D12.out.size))
  have Z13 := hid (Z12.out.below hb Z12.out.lt)
  clear hb D12 Z12
  go_upto_region 30 with fail
  refine wp_region_fixed (C := fun w' => Below ww.heap.size ww w') 58 (Below.refl _ _) ?_
  simp only [List.take_succ_cons, List.take_zero, List.drop_succ_cons, List.drop_zero]
  apply wpK_val
  · rfl
  · intro w' hw'
    go_simp
    first | exact rfl | exact ⟨rfl, hw'⟩
  simp only [Act.put, List.setIfInBounds_toArray, List.set_cons_succ, List.set_cons_zero]
  apply wpK_val
  · rfl
  · intro w' hw'
    go_simp
    first | exact rfl | exact ⟨rfl, hw'⟩
  simp only [Act.put, List.setIfInBounds_toArray, List.set_cons_succ, List.set_cons_zero]
  apply wpK_val
  · rfl
  · intro w' hw'
    go_simp
    first | exact rfl | exact ⟨rfl, hw'⟩
  simp only [Act.put, List.setIfInBounds_toArray, List.set_cons_succ, List.set_cons_zero]
  apply wpK_val
  · rfl
  · intro w' hw'
    go_simp
    first | exact rfl | exact ⟨rfl, hw'⟩
  simp only [Act.put, List.setIfInBounds_toArray, List.set_cons_succ, List.set_cons_zero]
  apply wpK_val
  · rfl
  · intro w' hw'
    go_simp
    first | exact rfl | exact ⟨rfl, hw'⟩
  simp only [Act.put, List.setIfInBounds_toArray, List.set_cons_succ, List.set_cons_zero]
  apply wpK_val
  · rfl
  · intro w' hw'
    go_simp
    first | exact rfl | exact ⟨rfl, hw'⟩
  simp only [Act.put, List.setIfInBounds_toArray, List.set_cons_succ, List.set_cons_zero]
  apply wpK_val
  · rfl
  · intro w' hw'
    go_simp
    first | exact rfl | exact ⟨rfl, hw'⟩
  simp only [Act.put, List.setIfInBounds_toArray, List.set_cons_succ, List.set_cons_zero]
  apply wpK_val
  · rfl
  · intro w' hw'
    go_simp
    first | exact rfl | exact ⟨rfl, hw'⟩
  simp only [Act.put, List.setIfInBounds_toArray, List.set_cons_succ, List.set_cons_zero]
  apply wpK_val
  · rfl
  · intro w' hw'
    go_simp
    first | exact rfl | exact ⟨rfl, hw'⟩
  simp only [Act.put, List.setIfInBounds_toArray, List.set_cons_succ, List.set_cons_zero]
  apply wpK_val
  · rfl
  · intro w' hw'
    go_simp
    first | exact rfl | exact ⟨rfl, hw'⟩
  simp only [Act.put, List.setIfInBounds_toArray, List.set_cons_succ, List.set_cons_zero]
  apply wpK_val
  · rfl
  · intro w' hw'
    go_simp
    first | exact rfl | exact ⟨rfl, hw'⟩
  simp only [Act.put, List.setIfInBounds_toArray, List.set_cons_succ, List.set_cons_zero]
  apply wpK_val
  · rfl
  · intro w' hw'
    go_simp
    first | exact rfl | exact ⟨rfl, hw'⟩
  simp only [Act.put, List.setIfInBounds_toArray, List.set_cons_succ, List.set_cons_zero]
  apply wpK_val
  · rfl
  · intro w' hw'
    go_simp
    first | exact rfl | exact ⟨rfl, hw'⟩
  simp only [Act.put, List.setIfInBounds_toArray, List.set_cons_succ, List.set_cons_zero]
  apply wpK_val
  · rfl
  · intro w' hw'
    go_simp
    first | exact rfl | exact ⟨rfl, hw'⟩
  simp only [Act.put, List.setIfInBounds_toArray, List.set_cons_succ, List.set_cons_zero]
  apply wpK_val
  · rfl
  · intro w' hw'
    go_simp
    first | exact rfl | exact ⟨rfl, hw'⟩
  simp only [Act.put, List.setIfInBounds_toArray, List.set_cons_succ, List.set_cons_zero]
  apply wpK_val
  · rfl
  · intro w' hw'
    go_simp
    first | exact rfl | exact ⟨rfl, hw'⟩
  simp only [Act.put, List.setIfInBounds_toArray, List.set_cons_succ, List.set_cons_zero]
  apply wpK_val
  · rfl
  · intro w' hw'
    go_simp
    first | exact rfl | exact ⟨rfl, hw'⟩
  simp only [Act.put, List.setIfInBounds_toArray, List.set_cons_succ, List.set_cons_zero]
  apply wpK_val
  · rfl
  · intro w' hw'
    go_simp
    first | exact rfl | exact ⟨rfl, hw'⟩
  simp only [Act.put, List.setIfInBounds_toArray, List.set_cons_succ, List.set_cons_zero]
  apply wpK_val
  · rfl
  · intro w' hw'
    go_simp
    first | exact rfl | exact ⟨rfl, hw'⟩
  simp only [Act.put, List.setIfInBounds_toArray, List.set_cons_succ, List.set_cons_zero]
  apply wpK_val
  · rfl
  · intro w' hw'
    go_simp
    first | exact rfl | exact ⟨rfl, hw'⟩
  simp only [Act.put, List.setIfInBounds_toArray, List.set_cons_succ, List.set_cons_zero]
  apply wpK_val
  · rfl
  · intro w' hw'
    go_simp
    first | exact rfl | exact ⟨rfl, hw'⟩
  simp only [Act.put, List.setIfInBounds_toArray, List.set_cons_succ, List.set_cons_zero]
  apply wpK_val
  · rfl
  · intro w' hw'
    go_simp
    first | exact rfl | exact ⟨rfl, hw'⟩
  simp only [Act.put, List.setIfInBounds_toArray, List.set_cons_succ, List.set_cons_zero]
  apply wpK_val
  · rfl
  · intro w' hw'
    go_simp
    first | exact rfl | exact ⟨rfl, hw'⟩
  simp only [Act.put, List.setIfInBounds_toArray, List.set_cons_succ, List.set_cons_zero]
  apply wpK_val
  · rfl
  · intro w' hw'
    go_simp
    first | exact rfl | exact ⟨rfl, hw'⟩
  simp only [Act.put, List.setIfInBounds_toArray, List.set_cons_succ, List.set_cons_zero]
  apply wpK_val
  · rfl
  · intro w' hw'
    go_simp
    exact (full13_any 1 w').mono fun e w5 ⟨h1, h5⟩ => ⟨h1, hw'.trans (h5.mono hw'.size)⟩
  simp only [Act.put, List.setIfInBounds_toArray, List.set_cons_succ, List.set_cons_zero]
  apply wpK_val
  · rfl
  · intro w' hw'
    go_simp
    exact ((xb_write (noBus_nil w')).mono fun e w5 ⟨h1, h5⟩ => ⟨h1, hw'.trans (h5.mono hw'.size)⟩)
  simp only [Act.put, List.setIfInBounds_toArray, List.set_cons_succ, List.set_cons_zero]
  apply wpK_val
  · rfl
  · intro w' hw'
    go_simp
    first | exact rfl | exact ⟨rfl, hw'⟩
  simp only [Act.put, List.setIfInBounds_toArray, List.set_cons_succ, List.set_cons_zero]
  apply wpK_val
  · rfl
  · intro w' hw'
    go_simp
    first | exact rfl | exact ⟨rfl, hw'⟩
  simp only [Act.put, List.setIfInBounds_toArray, List.set_cons_succ, List.set_cons_zero]
  apply wpK_val
  · rfl
  · intro w' hw'
    go_simp
    first | exact rfl | exact ⟨rfl, hw'⟩
  simp only [Act.put, List.setIfInBounds_toArray, List.set_cons_succ, List.set_cons_zero]
  apply wpK_val
  · rfl
  · intro w' hw'
    go_simp
    first | exact rfl | exact ⟨rfl, hw'⟩
  simp only [Act.put, List.setIfInBounds_toArray, List.set_cons_succ, List.set_cons_zero]
  apply wpK_val
  · rfl
  · intro w' hw'
    go_simp
    exact ((xb_flush (noBus_zero ((Z13.out.below hw' Z13.out.lt).cell 0))).mono fun e w5 ⟨h1, h5⟩ => ⟨h1, hw'.trans (h5.mono hw'.size)⟩)
  simp only [Act.put, List.setIfInBounds_toArray, List.set_cons_succ, List.set_cons_zero]
  apply wpK_val
  · rfl
  · intro w' hw'
    go_simp
    first | exact rfl | exact ⟨rfl, hw'⟩
  simp only [Act.put, List.setIfInBounds_toArray, List.set_cons_succ, List.set_cons_zero]
  apply wpK_val
  · rfl
  · intro w' hw'
    go_simp
    first | exact rfl | exact ⟨rfl, hw'⟩
  simp only [Act.put, List.setIfInBounds_toArray, List.set_cons_succ, List.set_cons_zero]
  apply wpK_val
  · rfl
  · intro w' hw'
    go_simp
    first | exact rfl | exact ⟨rfl, hw'⟩
  simp only [Act.put, List.setIfInBounds_toArray, List.set_cons_succ, List.set_cons_zero]
  apply wpK_val
  · rfl
  · intro w' hw'
    go_simp
    first | exact rfl | exact ⟨rfl, hw'⟩
  simp only [Act.put, List.setIfInBounds_toArray, List.set_cons_succ, List.set_cons_zero]
  apply wpK_val
  · rfl
  · intro w' hw'
    go_simp
    exact ((nb_power w').mono fun e w5 ⟨h1, h5⟩ => ⟨h1, hw'.trans (h5.mono hw'.size)⟩)
  simp only [Act.put, List.setIfInBounds_toArray, List.set_cons_succ, List.set_cons_zero]
  apply wpK_val
  · rfl
  · intro w' hw'
    go_simp
    first | exact rfl | exact ⟨rfl, hw'⟩
  simp only [Act.put, List.setIfInBounds_toArray, List.set_cons_succ, List.set_cons_zero]
  apply wpK_val
  · rfl
  · intro w' hw'
    go_simp
    first | exact rfl | exact ⟨rfl, hw'⟩
  simp only [Act.put, List.setIfInBounds_toArray, List.set_cons_succ, List.set_cons_zero]
  apply wpK_val
  · rfl
  · intro w' hw'
    go_simp
    first | exact rfl | exact ⟨rfl, hw'⟩
  simp only [Act.put, List.setIfInBounds_toArray, List.set_cons_succ, List.set_cons_zero]
  apply wpK_val
  · rfl
  · intro w' hw'
    go_simp
    first | exact rfl | exact ⟨rfl, hw'⟩
  simp only [Act.put, List.setIfInBounds_toArray, List.set_cons_succ, List.set_cons_zero]
  apply wpK_val
  · rfl
  · intro w' hw'
    go_simp
    exact ((nb_count w').mono fun e w5 ⟨h1, h5⟩ => ⟨h1, hw'.trans (h5.mono hw'.size)⟩)
  simp only [Act.put, List.setIfInBounds_toArray, List.set_cons_succ, List.set_cons_zero]
  apply wpK_val
  · rfl
  · intro w' hw'
    go_simp
    first | exact rfl | exact ⟨rfl, hw'⟩
  simp only [Act.put, List.setIfInBounds_toArray, List.set_cons_succ, List.set_cons_zero]
  apply wpK_val
  · rfl
  · intro w' hw'
    go_simp
    exact ((zb_members gZ w' ((Z13.out.below hw' Z13.out.lt).cell 0)).mono fun e w5 ⟨h1, h5⟩ => ⟨h1, hw'.trans (h5.mono hw'.size)⟩)
  simp only [Act.put, List.setIfInBounds_toArray, List.set_cons_succ, List.set_cons_zero]
  apply wpK_val
  · rfl
  · intro w' hw'
    go_simp
    first | exact rfl | exact ⟨rfl, hw'⟩
  simp only [Act.put, List.setIfInBounds_toArray, List.set_cons_succ, List.set_cons_zero]
  apply wpK_val
  · rfl
  · intro w' hw'
    go_simp
    first | exact rfl | exact ⟨rfl, hw'⟩
  simp only [Act.put, List.setIfInBounds_toArray, List.set_cons_succ, List.set_cons_zero]
  apply wpK_val
  · rfl
  · intro w' hw'
    go_simp
    exact ((nb_sectors 0 w').mono fun e w5 ⟨h1, h5⟩ => ⟨h1, hw'.trans (h5.mono hw'.size)⟩)
  simp only [Act.put, List.setIfInBounds_toArray, List.set_cons_succ, List.set_cons_zero]
  apply wpK_val
  · rfl
  · intro w' hw'
    go_simp
    first | exact rfl | exact ⟨rfl, hw'⟩
  simp only [Act.put, List.setIfInBounds_toArray, List.set_cons_succ, List.set_cons_zero]
  apply wpK_val
  · rfl
  · intro w' hw'
    go_simp
    first | exact rfl | exact ⟨rfl, hw'⟩
  simp only [Act.put, List.setIfInBounds_toArray, List.set_cons_succ, List.set_cons_zero]
  apply wpK_val
  · rfl
  · intro w' hw'
    go_simp
    exact ((zb_log gZ w' ((Z13.out.below hw' Z13.out.lt).cell 0)).mono fun e w5 ⟨h1, h5⟩ => ⟨h1, hw'.trans (h5.mono hw'.size)⟩)
  simp only [Act.put, List.setIfInBounds_toArray, List.set_cons_succ, List.set_cons_zero]
  apply wpK_val
  · rfl
  · intro w' hw'
    go_simp
    first | exact rfl | exact ⟨rfl, hw'⟩
  simp only [Act.put, List.setIfInBounds_toArray, List.set_cons_succ, List.set_cons_zero]
  apply wpK_val
  · rfl
  · intro w' hw'
    go_simp
    first | exact rfl | exact ⟨rfl, hw'⟩
  simp only [Act.put, List.setIfInBounds_toArray, List.set_cons_succ, List.set_cons_zero]
  apply wpK_val
  · rfl
  · intro w' hw'
    go_simp
    first | exact rfl | exact ⟨rfl, hw'⟩
  simp only [Act.put, List.setIfInBounds_toArray, List.set_cons_succ, List.set_cons_zero]
  apply wpK_val
  · rfl
  · intro w' hw'
    go_simp
    first | exact rfl | exact ⟨rfl, hw'⟩
  simp only [Act.put, List.setIfInBounds_toArray, List.set_cons_succ, List.set_cons_zero]
  apply wpK_val
  · rfl
  · intro w' hw'
    go_simp
    first | exact rfl | exact ⟨rfl, hw'⟩
  simp only [Act.put, List.setIfInBounds_toArray, List.set_cons_succ, List.set_cons_zero]
  apply wpK_val
  · rfl
  · intro w' hw'
    go_simp
    first | exact rfl | exact ⟨rfl, hw'⟩
  simp only [Act.put, List.setIfInBounds_toArray, List.set_cons_succ, List.set_cons_zero]
  apply wpK_val
  · rfl
  · intro w' hw'
    go_simp
    exact ((nb_off w').mono fun e w5 ⟨h1, h5⟩ => ⟨h1, hw'.trans (h5.mono hw'.size)⟩)
  simp only [Act.put, List.setIfInBounds_toArray, List.set_cons_succ, List.set_cons_zero]
  apply wpK_val
  · rfl
  · intro w' hw'
    go_simp
    first | exact rfl | exact ⟨rfl, hw'⟩
  simp only [Act.put, List.setIfInBounds_toArray, List.set_cons_succ, List.set_cons_zero]
  apply wpK_val
  · rfl
  · intro w' hw'
    go_simp
    first | exact rfl | exact ⟨rfl, hw'⟩
  simp only [Act.put, List.setIfInBounds_toArray, List.set_cons_succ, List.set_cons_zero]
  intro wq2 hC2
  have D14 := hid (D13.out.trans (hC2.mono D13.out.size))
  clear hC2 D13 Z13
  go_wp2_with fail
  go_ret
  exact ⟨rfl, D14.out⟩
end BuP
end Go.Proofs.Ytablkaofaedpeaa
