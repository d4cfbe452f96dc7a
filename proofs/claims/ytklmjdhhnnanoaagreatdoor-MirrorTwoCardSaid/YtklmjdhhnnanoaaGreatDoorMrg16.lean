/-
  What comes in to the outright laws of chapter 19; what stands while they run.
  A node put on its mirrors, two of which are spoilt.
  The law MirrorTwo: two of a node's mirrors spoilt.
-/
import Derived.Test.YtklmjdhhnnanoaaGreatDoorMrg15
set_option linter.unusedVariables false
set_option linter.unusedSimpArgs false
set_option maxRecDepth 100000
namespace Go.Proofs.YtklmjdhhnnanoaaGreatDoor
open Go.ChangeShapes Go.WideShapes Go.ChangeAt Go.RowKit Go.Deep
namespace MiM
open GeM BuP MbP BuM MbM MiP
abbrev tySp : TypeId := 78
def spL (A B : Nat) (X Y : Nat → Nat) (q : Bool) : List Value := .int .u8 A :: .int .u8 B :: ((ar 64 X).toList ++ ((ar 64 Y).toList ++ [.bool q]))
theorem cells_sp : Tryz.prog.cellsOf tySp = 131 := by kernel_rfl
theorem cells_u819 : Tryz.prog.cellsOf 5 = 1 := by kernel_rfl
theorem cells_bo19 : Tryz.prog.cellsOf 4 = 1 := by kernel_rfl
theorem list_sp {cs X Y : List Value} {a b q : Value} (hl : cs.length = 131) (h0 : (cs.drop 0).take 1 = [a]) (h1 : (cs.drop 1).take 1 = [b]) (h2 : (cs.drop 2).take 64 = X) (h3 : (cs.drop 66).take 64 = Y) (h4 : (cs.drop 130).take 1 = [q]) : cs = a :: b :: (X ++ (Y ++ [q])) := by
  match cs, hl with
  | x :: y :: r, hl =>
    have e0 : x = a := by simpa using h0
    have e1 : y = b := by simpa using h1
    have e2 : r.take 64 = X := h2
    have e3 : (r.drop 64).take 64 = Y := h3
    have e4 : (r.drop 128).take 1 = [q] := h4
    have hr : r.length = 129 := by simp at hl; omega
    have e5 : r.drop 128 = (r.drop 64).drop 64 := by rw [List.drop_drop]
    rw [List.take_of_length_le (by rw [List.length_drop]; omega), e5] at e4
    rw [e0, e1, ← e2, ← e3, ← e4, List.take_append_drop, List.take_append_drop]
section
variable {H : Type} {enc : TypeId × Value → H} {w : World} {base : Nat} {spare : Nat → Bool} {held : Bool}
theorem trod_sp {fuel : Nat} {cs : List Value} {x : DataW H × List MemPlace} (h : DataW.trod enc Tryz.prog w base spare held fuel tySp cs = some x) : ∃ (A B : Nat) (X Y : Nat → Nat) (q : Bool), cs = spL A B X Y q ∧ A < 256 ∧ B < 256 ∧ (∀ j, X j < 256) ∧ ∀ j, Y j < 256 := by
  obtain ⟨xs, n, _, rfl, hl, hlen, hf⟩ := DataW.trod_struct Tryz.underlying78 h
  rw [cells_sp] at hl
  match xs, hlen with
  | [y0, y1, y2, y3, y4], _ =>
    have h0 : DataW.trod enc Tryz.prog w base spare held n 5 ((cs.drop 0).take (Tryz.prog.cellsOf 5)) = some y0 := hf 0 _ rfl
    have h1 : DataW.trod enc Tryz.prog w base spare held n 5 ((cs.drop 1).take (Tryz.prog.cellsOf 5)) = some y1 := hf 1 _ rfl
    have h2 : DataW.trod enc Tryz.prog w base spare held n 37 ((cs.drop 2).take (Tryz.prog.cellsOf 37)) = some y2 := hf 2 _ rfl
    have h3 : DataW.trod enc Tryz.prog w base spare held n 37 ((cs.drop 66).take (Tryz.prog.cellsOf 37)) = some y3 := hf 3 _ rfl
    have h4 : DataW.trod enc Tryz.prog w base spare held n 4 ((cs.drop 130).take (Tryz.prog.cellsOf 4)) = some y4 := hf 4 _ rfl
    rw [cells_u819] at h0 h1
    rw [cells_se19] at h2 h3
    rw [cells_bo19] at h4
    obtain ⟨k, e0, _, w0⟩ := DataW.trod_int Tryz.underlying5 h0
    obtain ⟨i, e1, _, w1⟩ := DataW.trod_int Tryz.underlying5 h1
    obtain ⟨f, hf2, e2⟩ := trod_ar uSe19 cells_se19 h2
    obtain ⟨f3, hf3, e3⟩ := trod_ar uSe19 cells_se19 h3
    obtain ⟨q, e4, _⟩ := DataW.trod_bool Tryz.underlying4 h4
    obtain ⟨A, rfl, hA⟩ := u8_wf19 w0
    obtain ⟨B, rfl, hB⟩ := u8_wf19 w1
    exact ⟨A, B, f, f3, q, list_sp hl e0 e1 e2 e3 e4, hA, hB, hf2, hf3⟩
theorem open_sp {r : Reach} {b0 : Nat} {v : Value} {d : DataW H} {p : List MemPlace} (hv : Value.okWide Tryz.prog w r b0 tySp v) (h : DataW.Trod enc Tryz.prog w base spare held tySp v d p) :
    ∃ (A B : Nat) (X Y : Nat → Nat) (q : Bool), v = .agg (spL A B X Y q).toArray ∧ A < 256 ∧ B < 256 ∧ (∀ j, X j < 256) ∧ ∀ j, Y j < 256 := by
  obtain ⟨cs, rfl, hsz⟩ := okWide_struct Tryz.underlying78 hv
  obtain ⟨fuel, hf⟩ := h
  obtain ⟨A, B, X, Y, q, e, hx⟩ := trod_sp hf
  exact ⟨A, B, X, Y, q, congrArg Value.agg (Array.ext' (by rw [List.toList_toArray]; exact e)), hx⟩
end
theorem arlen19 (f : Nat → Nat) : (ar 64 f).toList.length = 64 := by rw [Array.length_toList]; exact size_ar
section
variable {w : World} {g A B : Nat} {X Y : Nat → Nat} {q : Bool}
theorem sp_x (h : w.rangeAt g 0 (spL A B X Y q)) : w.rangeAt g 2 (ar 64 X).toList := fun j v hj => by
  have hj2 : j < 64 := by have := (List.getElem?_eq_some_iff.1 hj).1; rw [arlen19] at this; exact this
  have := h (2 + j) v (by unfold spL; rw [show 2 + j = j + 1 + 1 by omega, List.getElem?_cons_succ, List.getElem?_cons_succ, List.getElem?_append_left (by rw [arlen19]; exact hj2)]; exact hj)
  rwa [Nat.zero_add] at this
theorem sp_y (h : w.rangeAt g 0 (spL A B X Y q)) : w.rangeAt g 66 (ar 64 Y).toList := fun j v hj => by
  have hj2 : j < 64 := by have := (List.getElem?_eq_some_iff.1 hj).1; rw [arlen19] at this; exact this
  have := h (66 + j) v (by
    unfold spL
    rw [show 66 + j = 64 + j + 1 + 1 by omega, List.getElem?_cons_succ, List.getElem?_cons_succ, List.getElem?_append_right (by rw [arlen19]; omega), arlen19, show 64 + j - 64 = j by omega, List.getElem?_append_left (by rw [arlen19]; exact hj2)]
    exact hj)
  rwa [Nat.zero_add] at this
theorem sp_q (h : w.rangeAt g 0 (spL A B X Y q)) : w.cell? ⟨g, 130, none⟩ = some (.bool q) := by
  have := h 130 (.bool q) (by
    unfold spL
    rw [show (130 : Nat) = 128 + 1 + 1 from rfl, List.getElem?_cons_succ, List.getElem?_cons_succ, List.getElem?_append_right (by rw [arlen19]; omega), arlen19, List.getElem?_append_right (by rw [arlen19]; omega), arlen19]
    rfl)
  rwa [Nat.zero_add] at this
end
structure Lw (W : World) (g bA oA : Nat) (F : Fq) (k : Nat) (b : Bs) (gg gx gp gw : Nat) (a c : Int) (s : Nat → Nat) (sp : List Value) (i : Int) (vs : List Nat) (w : World) : Prop where
  p : Pp (RepK 0) w g F k b
  bel : Below W.heap.size W w
  low : ∀ q, mutP F q → W.heap.size ≤ q
  cell : ∀ i gi, F.gs[i]? = some gi → w.cell? ⟨bA, oA + i, none⟩ = some (.pointer (some ⟨gi, 0, none⟩))
  mine : ∀ q, q ∈ vs → q < w.heap.size ∧ ¬ mutP F q
  vs4 : bA ∈ vs ∧ gg ∈ vs ∧ gx ∈ vs ∧ gp ∈ vs ∧ gw ∈ vs
  geo : Blk w gg tyG #[.int .i64 a, .int .i64 c]
  sec : Blk w gx 37 (ar 64 s)
  spo : Blk w gp tySp sp.toArray
  wr : Blk w gw tyW (wrL 3 i s).toArray
section
variable {W : World} {g bA oA : Nat} {F : Fq} {k k' : Nat} {b b' : Bs} {gg gx gp gw : Nat} {a c : Int} {s : Nat → Nat} {sp : List Value} {i : Int} {vs : List Nat} {w w' : World}
theorem Lw.on (H : Lw W g bA oA F k b gg gx gp gw a c s sp i vs w) (hb : Below w.heap.size w w') : Lw W g bA oA F k b gg gx gp gw a c s sp i vs w' where
  p := H.p.below bus_ok hb
  bel := H.bel.trans (hb.mono H.bel.size)
  low := H.low
  cell i gi e := (hb.cell (p := ⟨bA, oA + i, none⟩) (H.mine bA H.vs4.1).1).trans (H.cell i gi e)
  mine q e := ⟨Nat.lt_of_lt_of_le (H.mine q e).1 hb.size, (H.mine q e).2⟩
  vs4 := H.vs4
  geo := H.geo.below hb H.geo.lt
  sec := H.sec.below hb H.sec.lt
  spo := H.spo.below hb H.spo.lt
  wr := H.wr.below hb H.wr.lt
theorem Lw.out (H : Lw W g bA oA F k b gg gx gp gw a c s sp i vs w) (ho : outQ (RepK 0) w g F k' b' w') : ∃ F', F'.gs = F.gs ∧ Lw W g bA oA F' k' b' gg gx gp gw a c s sp i vs w' ∧ Turn (mutP F) w w' := by
  obtain ⟨F', h1, h2, h3, h4, h5, h6⟩ := ho
  exact ⟨F', h2, {
    p := h1
    bel := H.bel.trans (h6.below H.bel.size H.low)
    low := fun q e => (h4 q e).elim (H.low q) fun x => Nat.le_trans H.bel.size x
    cell := fun i gi e => (h6.cell (p := ⟨bA, oA + i, none⟩) (H.cell i gi (h2 ▸ e)) (H.mine bA H.vs4.1).2)
    mine := fun q e => ⟨Nat.lt_of_lt_of_le (H.mine q e).1 h6.size, fun x => (h4 q x).elim (H.mine q e).2 fun y => by have := (H.mine q e).1; omega⟩
    vs4 := H.vs4
    geo := H.geo.turn h6 (H.mine gg H.vs4.2.1).2
    sec := H.sec.turn h6 (H.mine gx H.vs4.2.2.1).2
    spo := H.spo.turn h6 (H.mine gp H.vs4.2.2.2.1).2
    wr := H.wr.turn h6 (H.mine gw H.vs4.2.2.2.2).2 }, h6⟩
theorem Lw.more (H : Lw W g bA oA F k b gg gx gp gw a c s sp i vs w) (hb : Below w.heap.size w w') {q : Nat} (h1 : w.heap.size ≤ q) (h2 : q < w'.heap.size) : Lw W g bA oA F k b gg gx gp gw a c s sp i (q :: vs) w' :=
  have K := H.on hb
  { p := K.p
    bel := K.bel
    low := K.low
    cell := K.cell
    mine := fun q' e => by
      rcases List.mem_cons.1 e with rfl | e
      · exact ⟨h2, fun x => by have := H.p.mlt _ x; omega⟩
      · exact K.mine q' e
    vs4 := ⟨List.mem_cons_of_mem _ K.vs4.1, List.mem_cons_of_mem _ K.vs4.2.1, List.mem_cons_of_mem _ K.vs4.2.2.1, List.mem_cons_of_mem _ K.vs4.2.2.2.1, List.mem_cons_of_mem _ K.vs4.2.2.2.2⟩
    geo := K.geo
    sec := K.sec
    spo := K.spo
    wr := K.wr }
theorem Lw.member (H : Lw W g bA oA F k b gg gx gp gw a c s sp i vs w) {m : Nat} (hm : m < b.ms.length) : ∃ gi st, F.gs[m]? = some gi ∧ b.ms[m]? = some st ∧ RepM w gi (F.Ms m) (F.Is m) k st ∧ st.ok ∧ w.cell? ⟨bA, oA + m, none⟩ = some (.pointer (some ⟨gi, 0, none⟩)) := by
  have hg : m < F.gs.length := by rw [H.p.len]; exact hm
  have e1 := List.getElem?_eq_getElem hg
  have e2 := List.getElem?_eq_getElem hm
  exact ⟨_, _, e1, e2, H.p.mem m _ _ e1 e2, H.p.ok.1 _ (List.mem_of_getElem? e2), H.cell m _ e1⟩
theorem Lw.put (H : Lw W g bA oA F k b gg gx gp gw a c s sp i vs w) {m gi : Nat} {st' : St} (hgi : F.gs[m]? = some gi) (ho : outP RepM w gi (F.Ms m) (F.Is m) (k + 1) st' w') (hok : st'.ok) :
    ∃ F', F'.gs = F.gs ∧ Lw W g bA oA F' (k + 1) { b with ms := b.ms.set m st' } gg gx gp gw a c s sp i vs w' ∧ Turn (mutP F) w w' :=
  H.out (Pp.put (repB := RepK 0) bus_ok.frame H.p hgi ho (Nat.le_succ _) hok)
theorem Lw.start {N m gg gx gp gw : Nat} {W W1 : World} {v : Value} (h : MadeP W1 m N [] v w) (hm : 0 < m) (hbW : Below W.heap.size W W1) (hb : Below W1.heap.size W1 w)
    (geo : Blk W1 gg tyG #[.int .i64 a, .int .i64 c]) (sec : Blk W1 gx 37 (ar 64 s)) (spo : Blk W1 gp tySp sp.toArray) (wr : Blk W1 gw tyW (wrL 3 i s).toArray) :
    ∃ g bA oA cA r F, v = .tuple #[MbP.at' g, .slice (some ⟨bA, oA, none⟩) m cA, MbP.at' r] ∧ Lw W g bA oA F 0 (mdB (lsM m N) (0, ClP.zero) []) gg gx gp gw a c s sp i [bA, gg, gx, gp, gw] w := by
  obtain ⟨g, A, cA, r, F, E, S, rfl, HB, hS, hN⟩ := h
  have hl : F.gs.length = m := hS.len
  obtain ⟨bA, oA, rfl, hSb, hlt, hr⟩ := hS.some (List.getElem?_eq_getElem (by rw [hl]; exact hm))
  refine ⟨g, bA, oA, cA, r, F, rfl, {
    p := HB.prog
    bel := hbW.trans (hb.mono hbW.size)
    low := fun q e => Nat.le_trans hbW.size (HB.low q (.inl e))
    cell := fun i gi e => by
      obtain ⟨b', o', e', _, _, hr'⟩ := hS.some e
      cases e'
      have := hr' 0 _ rfl
      rwa [Nat.mul_one, Nat.add_zero] at this
    mine := fun q e => by
      have old : ∀ q, q < W1.heap.size → q < w.heap.size ∧ ¬ mutP F q := fun q h => ⟨Nat.lt_of_lt_of_le h hb.size, fun x => by have := HB.low q (.inl x); omega⟩
      simp only [List.mem_cons, List.not_mem_nil, or_false] at e
      rcases e with rfl | rfl | rfl | rfl | rfl
      · exact ⟨hlt, fun x => hN _ hSb (.inl x)⟩
      · exact old _ geo.lt
      · exact old _ sec.lt
      · exact old _ spo.lt
      · exact old _ wr.lt
    vs4 := by simp
    geo := geo.below hb geo.lt
    sec := sec.below hb sec.lt
    spo := spo.below hb spo.lt
    wr := wr.below hb wr.lt }⟩
end
theorem rest_made (m N : Nat) : Rest (mdB (lsM m N) (0, ClP.zero) []) N ∧ (mdB (lsM m N) (0, ClP.zero) []).ms.length = m ∧ ∀ st ∈ (mdB (lsM m N) (0, ClP.zero) []).ms, st.fails = false := by
  refine ⟨⟨rfl, rfl, fun st hst => ?_⟩, ?_, fun st hst => ?_⟩
  · obtain ⟨z, hz, rfl⟩ := List.mem_map.1 (show st ∈ (lsM m N).map mdOf from hst)
    exact List.eq_of_mem_replicate hz
  · show ((lsM m N).map mdOf).length = m
    rw [List.length_map, lsM_len]
  · obtain ⟨z, hz, rfl⟩ := List.mem_map.1 (show st ∈ (lsM m N).map mdOf from hst)
    rfl
theorem node_place {m r j : Nat} (hg : GeM.Good m r) (hj : j < GeM.nd m r) : ∃ p, GeM.pl m r 3 ((1 + j : Nat) : Int) = some p ∧ p < GeM.sec m r ∧ hom m r 3 ((1 + j : Nat) : Int) = some (1 + j, 3, p) := by
  have h : GeM.pl m r 3 ((1 + j : Nat) : Int) = some (GeM.st m r 3 + (((1 + j : Nat) : Int) - GeM.lw 3).toNat) := by
    unfold GeM.pl
    have e : (GeM.lw 3 : Int) = 1 := rfl
    have e2 : GeM.sz (m : Int).toNat (r : Int).toNat (3 : Int).toNat = GeM.nd m r := rfl
    rw [if_pos ⟨hg, by omega, by omega, by omega, by rw [e2]; omega⟩]
    rfl
  refine ⟨_, h, ?_, by rw [hom_3, h]; rfl⟩
  have e : (GeM.lw 3 : Int) = 1 := rfl
  rw [GeM.st_3]
  show _ < GeM.st m r 5
  rw [GeM.st_5]
  omega
end MiM
end Go.Proofs.YtklmjdhhnnanoaaGreatDoor
set_option maxRecDepth 100000
namespace Go.Proofs.YtklmjdhhnnanoaaGreatDoor
open Go.ChangeShapes Go.WideShapes Go.ChangeAt Go.RowKit
namespace MiM
open GeM BuP MbP BuM MbM MiP
section
variable {b b' : Bs} {N p f m : Nat} {a c i : Int} {x key want : Nat → Nat}
theorem putR_node (h : Rest b N) (hf : ∀ st ∈ b.ms, st.fails = false) (hl : b.ms.length = m) (hh : hom m c 3 i = some (f, 3, p)) (hp : p < N) (hm : 0 < m) : putR b m c 3 i x = (rnd m f 3, 0, run (MiM.pt p x) b (rnd m f 3)) := by
  unfold putR rch
  rw [hl, if_pos rfl, hh]
  show ((took (MiM.pe p x) (MiM.pt p x) b (rnd m f 3)).1.getD [], tkE (took (MiM.pe p x) (MiM.pt p x) b (rnd m f 3)).1, (took (MiM.pe p x) (MiM.pt p x) b (rnd m f 3)).2) = _
  rw [took_all hp (rnd m f 3) b h hf fun y hy => by rw [hl]; exact rnd_lt hm y hy]
  rfl
theorem nodR_node (hl : b.ms.length = m) (hh : hom m c 3 i = some (f, 3, p)) : nodR b m c i key want = nodeR (hasT key i want) p b [] (rnd m f 3) 10 := by
  unfold nodR rch
  rw [hl, if_pos rfl, hh]
theorem rest_set (h : Rest b N) {y : Nat} {st : MbM.St} (hs : st.n = (N : Int)) : Rest { b with ms := b.ms.set y st } N := by
  refine ⟨h.st, h.off, fun s hs' => ?_⟩
  rcases List.mem_or_eq_of_mem_set hs' with e | e
  · exact h.n s e
  · rw [e]; exact hs
theorem seT_n (st : MbM.St) (i : Int) (x : Nat → Nat) : (seT st i x).n = st.n := by unfold seT; split <;> rfl
theorem rnd3_get {m f j : Nat} (hj : j < 3) : (rnd m f 3).getD j 0 = (f + j) % m := by
  rw [List.getD_eq_getElem?_getD, rnd_get hj]; rfl
theorem near {m f j k : Nat} (hm : 3 ≤ m) (hj : j < 3) (hk : k < 3) (h : (f + j) % m = (f + k) % m) : j = k := by
  have h1 := Nat.div_add_mod (f + j) m
  have h2 := Nat.div_add_mod (f + k) m
  rw [h] at h1
  rcases Nat.lt_trichotomy ((f + j) / m) ((f + k) / m) with e | e | e
  · have := Nat.mul_le_mul_left m (show (f + j) / m + 1 ≤ (f + k) / m from e)
    rw [Nat.mul_add] at this
    omega
  · rw [e] at h1; omega
  · have := Nat.mul_le_mul_left m (show (f + k) / m + 1 ≤ (f + j) / m from e)
    rw [Nat.mul_add] at this
    omega
theorem third {j k : Nat} : ∃ t, t < 3 ∧ t ≠ j ∧ t ≠ k := by
  by_cases h0 : 0 ≠ j ∧ 0 ≠ k
  · exact ⟨0, by omega, h0⟩
  · by_cases h1 : 1 ≠ j ∧ 1 ≠ k
    · exact ⟨1, by omega, h1⟩
    · exact ⟨2, by omega, by omega, by omega⟩
theorem two_left {b0 : Bs} {i : Int} (H : Put1 b0 b N p x (rnd m f 3)) (hp : p < N) (hl : b0.ms.length = m) (hm : 3 ≤ m) {j k : Nat} (hj : j < 3) (hk : k < 3) {ms' : List MbM.St} (hms : ∀ y, y ≠ (f + j) % m → y ≠ (f + k) % m → ms'[y]? = b.ms[y]?)
    (hx : want = ndT key i x) : ∃ y st, y ∈ rnd m f 3 ∧ ms'[y]? = some st ∧ rdE st p = 0 ∧ hasT key i want (rdS st p) = true := by
  obtain ⟨t, ht, hne1, hne2⟩ := third (j := j) (k := k)
  have hy : (f + t) % m < b.ms.length := by rw [H.len, hl]; exact Nat.mod_lt _ (by omega)
  have hst := List.getElem?_eq_getElem hy
  have hmem : (f + t) % m ∈ rnd m f 3 := List.mem_of_getElem? (rnd_get ht)
  have hin := List.mem_of_getElem? hst
  refine ⟨_, _, hmem, (hms _ (fun e => hne1 (near hm ht hj e)) fun e => hne2 (near hm ht hk e)).trans hst, rdE_ok (H.rest.n _ hin) (H.fine _ hin) hp, ?_⟩
  rw [rdS_ok (H.rest.n _ hin) (H.fine _ hin) hp, H.held _ _ hmem hst, hx]
  exact eqA_yes fun _ _ => rfl
theorem nodeR_lt {T : (Nat → Nat) → Bool} : ∀ (l : List Nat) (b : Bs) (pre : List Nat) (y : Int), Rest b N → okM b.ms → (∀ z ∈ l, z < b.ms.length) → ∀ j, (nodeR T p b pre l y).1 j < 256
  | [], _, _, _, _, _, _, _ => Nat.zero_lt_succ _
  | z :: l, b, pre, y, h, ho, hl, j => by
    obtain ⟨sz, hsz⟩ : ∃ st, b.ms[z]? = some st := ⟨_, List.getElem?_eq_getElem (hl z (List.mem_cons_self ..))⟩
    have hr := h.rde (p := p) hsz
    have hms : (MiM.rdt p b z).ms = b.ms := by rw [h.rdt]
    have key : nodeR T p b pre (z :: l) y = if (MiM.rde p b z).e = 13 then (fun _ => 0, [], 13, MiM.rdt p b z) else if hit T p b z = true then ((MiM.rde p b z).s, pre, 0, MiM.rdt p b z) else nodeR T p (MiM.rdt p b z) (pre ++ [z]) l (if (MiM.rde p b z).e = 0 then 11 else y) := rfl
    rw [key]
    split
    · exact Nat.zero_lt_succ _
    · split
      · show (MiM.rde p b z).s j < 256
        rw [hr]
        exact rdS_lt (ho _ (List.mem_of_getElem? hsz)) _ j
      · exact nodeR_lt l _ _ _ h.rdt' (by rw [hms]; exact ho) (by rw [hms]; exact fun w hw => hl w (List.mem_cons_of_mem _ hw)) j
end
structure Lx (W : World) (g bA oA : Nat) (F : Fq) (k : Nat) (b : Bs) (gg gx gp gw : Nat) (a c : Int) (s : Nat → Nat) (sp : List Value) (i : Int) (g9 : Nat) (ns : List Nat) (vs : List Nat) (w : World) : Prop where
  l : Lw W g bA oA F k b gg gx gp gw a c s sp i vs w
  nine : g9 ∈ vs
  ints : ∀ j, j < ns.length → w.cell? ⟨g9, j, none⟩ = some (.int .i64 (ns.getD j 0 : Nat))
section
variable {W : World} {g bA oA : Nat} {F : Fq} {k k' : Nat} {b b' : Bs} {gg gx gp gw : Nat} {a c : Int} {s : Nat → Nat} {sp : List Value} {i : Int} {g9 : Nat} {ns vs : List Nat} {w w' : World}
theorem Lx.on (H : Lx W g bA oA F k b gg gx gp gw a c s sp i g9 ns vs w) (hb : Below w.heap.size w w') : Lx W g bA oA F k b gg gx gp gw a c s sp i g9 ns vs w' :=
  ⟨H.l.on hb, H.nine, fun j hj => (hb.cell (p := ⟨g9, j, none⟩) (H.l.mine g9 H.nine).1).trans (H.ints j hj)⟩
theorem Lx.out (H : Lx W g bA oA F k b gg gx gp gw a c s sp i g9 ns vs w) (ho : outQ (RepK 0) w g F k' b' w') : ∃ F', F'.gs = F.gs ∧ Lx W g bA oA F' k' b' gg gx gp gw a c s sp i g9 ns vs w' ∧ Turn (mutP F) w w' := by
  obtain ⟨F', h1, h2, h3⟩ := H.l.out ho
  exact ⟨F', h1, ⟨h2, H.nine, fun j hj => h3.cell (p := ⟨g9, j, none⟩) (H.ints j hj) (H.l.mine g9 H.nine).2⟩, h3⟩
theorem Lx.put (H : Lx W g bA oA F k b gg gx gp gw a c s sp i g9 ns vs w) {m gi : Nat} {st' : MbM.St} (hgi : F.gs[m]? = some gi) (ho : outP RepM w gi (F.Ms m) (F.Is m) (k + 1) st' w') (hok : MbM.St.ok st') :
    ∃ F', F'.gs = F.gs ∧ Lx W g bA oA F' (k + 1) { b with ms := b.ms.set m st' } gg gx gp gw a c s sp i g9 ns vs w' ∧ Turn (mutP F) w w' := by
  obtain ⟨F', h1, h2, h3⟩ := H.l.put hgi ho hok
  exact ⟨F', h1, ⟨h2, H.nine, fun j hj => h3.cell (p := ⟨g9, j, none⟩) (H.ints j hj) (H.l.mine g9 H.nine).2⟩, h3⟩
theorem Lx.more (H : Lx W g bA oA F k b gg gx gp gw a c s sp i g9 ns vs w) (hb : Below w.heap.size w w') {q : Nat} (h1 : w.heap.size ≤ q) (h2 : q < w'.heap.size) : Lx W g bA oA F k b gg gx gp gw a c s sp i g9 ns (q :: vs) w' :=
  ⟨H.l.more hb h1 h2, List.mem_cons_of_mem _ H.nine, (H.on hb).ints⟩
end
end MiM
end Go.Proofs.YtklmjdhhnnanoaaGreatDoor
set_option maxRecDepth 100000
namespace Go.Proofs.YtklmjdhhnnanoaaGreatDoor
open Go.ChangeShapes Go.WideShapes Go.ChangeAt Go.RowKit
attribute [local go_sem] Gives GivesE
namespace MiM
open GeM BuP MbP BuM MbM MiP
section
variable {ops : Array Oper} {a : Act} {rest : List Oper} {dst : Option Tmp} {ty : TypeId} {pos : String} {after : Array Edge} {C : World → Prop} {Qk : Act → Prop} {gd : Option (Nat × Bool)} {T : TypeId} {vs : List (Nat × Value)} {cs : Array Value} {parts : Array (Nat × Operand)}
theorem bblV (hb : Tryz.prog.built T vs = some cs) (hwt : Region.wanted ⟨dst, .build T parts, ty, pos, after, gd⟩ (yielded ops a.tmps) = true) (hp : (parts.map fun (i, x) => (i, a.eval x)) = vs.toArray) (h : wpB Tryz.prog ops C Qk rest (a.put dst (.agg cs))) :
    wpB Tryz.prog ops C Qk (⟨dst, .build T parts, ty, pos, after, gd⟩ :: rest) a :=
  wpB_val hwt (fun w hw => gives_value (w' := w) (by
    have hr : (Instr.build T vs.toArray).run Tryz.prog w = .ok (.agg cs) w := run_build w _ _ _ hb
    simp only [execOp, Sem.run_bind, hp, hr, Result.andThen_ok, Sem.run_pure]) ⟨hw, Below.refl _ _⟩) h
end
theorem aWr (w : World) : (Instr.alloc tyW true (.tuple #[])).run Tryz.prog w = .ok (.pointer (some ⟨w.heap.size, 0, none⟩)) (w.alloc (.cells (wrL 0 0 fun _ => 0).toArray tyW)) := by
  simp [Instr.alloc, Sem.run_bind, zWr w, newVar, newRow, Value.cells]
def k19 (x z j : Nat) : Nat := if j = 0 then x else if j = 31 then z else 0
theorem k19_lt {x z : Nat} (hx : x < 256) (hz : z < 256) : ∀ j, k19 x z j < 256 := fun j => by unfold k19; split <;> (try split) <;> omega
theorem built_k19 (x : Nat) : Tryz.prog.built 41 [(0, .int .u8 (x : Nat)), (31, .int .u8 1)] = some (ar 32 (k19 x 1)) := by kernel_rfl
set_option maxHeartbeats 4000000 in
theorem two_law (A0 : Nat) (hA0 : A0 < 256) (s : Nat → Nat) (hs : ∀ j, s j < 256) (A B : Nat) (hA : A < 256) (hB : B < 256) (X Y : Nat → Nat) (hX : ∀ j, X j < 256) (hY : ∀ j, Y j < 256) (q : Bool) (W : World) (S0 : Salts W) :
    Calls Tryz.prog 5 #[.int .u8 A0, .agg (ar 64 s), .agg (spL A B X Y q).toArray] W fun e w' => e = .returned (.bool true) ∧ Below W.heap.size W w' := by
  obtain ⟨sp, hsp⟩ : ∃ sp, sp = spL A B X Y q := ⟨_, rfl⟩
  rw [← hsp]
  have HSP := hid hsp
  have SA := hid S0
  have HS := hid hs
  have HX := hid hX
  have HY := hid hY
  clear hsp S0 hs hX hY
  go_enter Tryz.func5, Tryz.ntmps5
  go_upto_region 1 with fail
  obtain ⟨gx, hgx⟩ : ∃ g, g = W.heap.size := ⟨_, rfl⟩
  obtain ⟨gp, hgp⟩ : ∃ g, g = W.heap.size + 1 := ⟨_, rfl⟩
  rw [← hgp, ← hgx]
  generalize hW : World.alloc (World.alloc W _) _ = w1
  have X1 := hid (show Blk w1 gx 37 (ar 64 s) by rw [← hW, hgx]; exact (Blk.new _ _ _).alloc _)
  have P1 := hid (show Blk w1 gp tySp sp.toArray by rw [← hW, hgp]; exact Blk.top rfl (by simp))
  have B1 := hid (show Below W.heap.size W w1 by rw [← hW]; exact ((Below.refl _ _).alloc (Nat.le_refl _) _).alloc (by simp) _)
  clear hW hgx hgp
  go_wp2_with fail
  rw [show (A0 : Int) / 16 = ((A0 / 16 : Nat) : Int) by omega]
  refine (small19_any (A0 / 16) 2 (by omega) (by omega) w1).mono ?_
  rintro e w2 ⟨rfl, h2⟩
  obtain ⟨m, hm⟩ : ∃ m, m = 4 + A0 / 16 % 4 := ⟨_, rfl⟩
  rw [← hm, show 1 + 2 % 4 = 3 from rfl]
  have hm4 : 4 ≤ m := by omega
  have hm7 : m ≤ 7 := by omega
  clear hm
  have X2 := hid (X1.out.below h2 X1.out.lt)
  have P2 := hid (P1.out.below h2 P1.out.lt)
  have B2 := hid (B1.out.trans (h2.mono B1.out.size))
  clear h2 X1 P1 B1
  unfold gv
  go_upto_region 2 with fail
  obtain ⟨gg, hgg⟩ : ∃ g, g = w2.heap.size := ⟨_, rfl⟩
  rw [← hgg]
  generalize hW : World.alloc w2 _ = w3
  have hG := hid (show GeM.Good m 3 from ⟨by omega, by omega, by omega, by omega⟩)
  have G3 := hid (show Blk w3 gg tyG #[.int .i64 (m : Nat), .int .i64 (3 : Nat)] by rw [← hW, hgg]; exact Blk.new _ _ _)
  have X3 := hid (show Blk w3 gx 37 (ar 64 s) by rw [← hW]; exact X2.out.alloc _)
  have P3 := hid (show Blk w3 gp tySp sp.toArray by rw [← hW]; exact P2.out.alloc _)
  have B3 := hid (show Below W.heap.size W w3 by rw [← hW]; exact B2.out.alloc B2.out.size _)
  clear hW hgg X2 P2 B2
  go_wp2_with ((with_reducible apply ldR (cs := #[Value.int .i64 (m : Nat), .int .i64 (3 : Nat)]) (tGe _ _)); rfl; exact G3.out.whole)
  obtain ⟨n, hn⟩ : ∃ n, n = GeM.nd m 3 := ⟨_, rfl⟩
  have HN := hid hn
  have NE := hid (show L GeM.nd (m : Int) (3 : Int) = (n : Nat) by rw [hn]; exact L_good hG.out)
  have hn3 : 3 ≤ n := by rw [hn]; exact (nd_bd hG.out).1
  have hn2 : n ≤ 8190 := by rw [hn]; exact (nd_bd hG.out).2
  clear hn
  refine (nodes_any (m : Nat) 3 w3).mono ?_
  rintro e w4 ⟨rfl, h4⟩
  rw [NE.out]
  have G4 := hid (G3.out.below h4 G3.out.lt)
  have X4 := hid (X3.out.below h4 X3.out.lt)
  have P4 := hid (P3.out.below h4 P3.out.lt)
  have B4 := hid (B3.out.trans (h4.mono B3.out.size))
  clear h4 X3 P3 B3 G3
  have t1 : ¬ (n : Int) < 1 := by omega
  go_wp2_with fail
  clear t1
  obtain ⟨j, hj⟩ : ∃ j, j = A0 % n := ⟨_, rfl⟩
  have hjn : j < n := by rw [hj]; exact Nat.mod_lt _ (by omega)
  have HJ := hid (show (A0 : Int).tmod (n : Int) = (j : Int) by rw [hj]; exact (Int.ofNat_tmod _ _).symm)
  have NZ := hid (show ¬ n = 0 by omega)
  have HA0 := hid (show IntKind.i64.wrap (A0 : Int) = (A0 : Int) from IntWalk.i64_in _ (by omega))
  obtain ⟨i, hi⟩ : ∃ i, i = 1 + j := ⟨_, rfl⟩
  have HI := hid (show IntKind.i64.wrap (1 + (j : Int)) = (i : Int) by rw [IntWalk.i64_in _ (by omega), hi]; omega)
  have HI2 := hid hi
  clear hj hi
  refine wp_region_new1 (C := fun w' => Below w4.heap.size w4 w') 8 tyW (wrL 0 0 fun _ => 0).toArray 8 rfl (by kernel_rfl) (by kernel_rfl) (by kernel_rfl) aWr (Below.refl _ _).drew (fun w' hw' => hw'.alloc hw'.size _) (fun w' hw' => hw'.size) ?_
  simp only [List.take_succ_cons, List.take_zero, List.drop_succ_cons, List.drop_zero]
  apply wpB_val
  · rfl
  · intro w' hw'
    have hbl := Below.refl w'.heap.size w'
    go_simp
    first | exact rfl | exact ⟨rfl, hbl⟩ | exact ⟨rfl, hw', hbl⟩
  simp only [Act.put, sqA, sqB, sqC]
  apply wpB_val
  · rfl
  · intro w' hw'
    have hbl := Below.refl w'.heap.size w'
    have h1 : _ = _ := HA0.out
    go_simp
    first | exact rfl | exact ⟨rfl, hbl⟩ | exact ⟨rfl, hw', hbl⟩
  simp only [Act.put, sqA, sqB, sqC]
  apply bldR (tGe _ _)
  · rfl
  · rfl
  · exact fun w' hw' => (G4.out.below hw' G4.out.lt).whole
  simp only [Act.put, sqA, sqB, sqC]
  apply wpB_val
  · rfl
  · intro w' hw'
    go_simp
    exact (nodes_any (m : Nat) 3 w').mono fun e w2 h => ⟨h.1.trans (by rw [NE.out]), hw'.trans (h.2.mono hw'.size), h.2⟩
  simp only [Act.put, sqA, sqB, sqC]
  apply wpB_val
  · rfl
  · intro w' hw'
    have hbl := Below.refl w'.heap.size w'
    have h1 : _ = _ := HJ.out
    have h2 := NZ.out
    go_simp
    first | exact rfl | exact ⟨rfl, hbl⟩ | exact ⟨rfl, hw', hbl⟩
  simp only [Act.put, sqA, sqB, sqC]
  apply wpB_val
  · rfl
  · intro w' hw'
    have hbl := Below.refl w'.heap.size w'
    have h1 : _ = _ := HI.out
    go_simp
    first | exact rfl | exact ⟨rfl, hbl⟩ | exact ⟨rfl, hw', hbl⟩
  simp only [Act.put, sqA, sqB, sqC]
  apply bldA tSe
  · rfl
  · rfl
  · exact fun w' hw' => (X4.out.below hw' X4.out.lt).whole
  simp only [Act.put, sqA, sqB, sqC]
  apply bblV (built_wr 3 (i : Nat) s)
  · rfl
  · simp only [List.map_toArray, List.map_cons, List.map_nil]; rfl
  simp only [Act.put, sqA, sqB, sqC]
  refine wpB_nil fun gw w5 hw5 z5 hz => ?_
  have G5 := hid (G4.out.below hw5 G4.out.lt)
  have X5 := hid (X4.out.below hw5 X4.out.lt)
  have P5 := hid (P4.out.below hw5 P4.out.lt)
  have B5 := hid (B4.out.trans (hw5.mono B4.out.size))
  have Z5 := hid z5
  have GW := hid (show W.heap.size ≤ gw ∧ gg ≠ gw ∧ gx ≠ gw ∧ gp ≠ gw from ⟨Nat.le_trans B4.out.size hz, fun e => by have := G4.out.lt; omega, fun e => by have := X4.out.lt; omega, fun e => by have := P4.out.lt; omega⟩)
  clear hw5 z5 hz G4 X4 P4 B4
  unfold ptr
  apply stR (tWr 3 (i : Nat) s)
  · rfl
  · rfl
  · exact Z5.out
  · exact wr_size _ _ _ _ _ _
  · exact wr_one _ _ _
  generalize hw6 : World.setRow _ _ _ = w6
  have G6 := hid (show Blk w6 gg tyG #[.int .i64 (m : Nat), .int .i64 (3 : Nat)] by rw [← hw6]; exact G5.out.setRow_other GW.out.2.1.symm _)
  have X6 := hid (show Blk w6 gx 37 (ar 64 s) by rw [← hw6]; exact X5.out.setRow_other GW.out.2.2.1.symm _)
  have P6 := hid (show Blk w6 gp tySp sp.toArray by rw [← hw6]; exact P5.out.setRow_other GW.out.2.2.2.symm _)
  have W6 := hid (show Blk w6 gw tyW (wrL 3 (i : Nat) s).toArray by rw [← hw6]; exact Z5.out.setRow_same _)
  have B6 := hid (show Below W.heap.size W w6 by rw [← hw6]; exact below_setRow B5.out GW.out.1 _)
  clear hw6 G5 X5 P5 B5 Z5 GW
  go_wp2_with ((with_reducible apply ldR (cs := #[Value.int .i64 (m : Nat), .int .i64 (3 : Nat)]) (tGe _ _)); rfl; exact G6.out.whole)
  refine (made19_any (m := m) (q := 3) w6 hG.out (Sli.nil 70 stL _ _) (fun y hy => nomatch hy) (by omega)).mono ?_
  rintro e w7 ⟨v, rfl, hM, h7⟩
  obtain ⟨N, hN⟩ : ∃ N, N = GeM.sec m 3 := ⟨_, rfl⟩
  rw [← hN] at hM
  obtain ⟨g, bA, oA, cA, r, F, rfl, hL⟩ := Lw.start (i := (i : Nat)) hM (by omega) B6.out h7 G6.out X6.out P6.out W6.out
  have K := hid hL
  have HNN := hid hN
  clear hM hL h7 hN G6 X6 P6 W6 B6
  obtain ⟨b, hb⟩ : ∃ b, b = mdB (lsM m N) (0, ClP.zero) [] := ⟨_, rfl⟩
  rw [← hb] at K
  obtain ⟨r1, r2, r3⟩ := rest_made m N
  rw [← hb] at r1 r2 r3
  have R1 := hid r1
  have R2 := hid r2
  have R3 := hid r3
  obtain ⟨p, pp1, pp2, pp3⟩ := node_place hG.out (show j < GeM.nd m 3 by rw [← HN.out]; exact hjn)
  rw [← HI2.out] at pp1 pp3
  rw [← HNN.out] at pp2
  have PL := hid pp1
  have PN := hid pp2
  have PH := hid pp3
  have WH := hid (show whL (m : Nat) (3 : Nat) 3 (i : Nat) = rnd m i 3 by unfold whL; rw [pp3]; rfl)
  have hi2 : i ≤ 8190 := by have := HI2.out; omega
  clear hb r1 r2 r3 pp1 pp2 pp3
  unfold MbP.at'
  have qw0 : w7.cell? ⟨gw, 0, none⟩ = some (.int .i64 3) := K.out.wr.cell 0
  have qw1 : w7.cell? ⟨gw, 1, none⟩ = some (.int .i64 (i : Nat)) := K.out.wr.cell 1
  go_wp2_with (first | ((with_reducible apply ldR (cs := #[Value.int .i64 (m : Nat), .int .i64 (3 : Nat)]) (tGe _ _)); rfl; exact K.out.geo.whole) | ((with_reducible apply ldR (cs := (wrL 3 (i : Nat) s).toArray) (tWr _ _ _)); rfl; exact K.out.wr.whole))
  clear qw0 qw1
  refine (place_any (m : Nat) (3 : Nat) 3 (i : Nat) (by omega) w7).mono ?_
  rintro e w8 ⟨rfl, h8⟩
  rw [PL.out]
  unfold plV
  replace K := hid (K.out.on h8)
  clear h8
  go_wp2_with (first | ((with_reducible apply ldR (cs := #[Value.int .i64 (m : Nat), .int .i64 (3 : Nat)]) (tGe _ _)); rfl; exact K.out.geo.whole) | ((with_reducible apply ldR (cs := (wrL 3 (i : Nat) s).toArray) (tWr _ _ _)); rfl; exact K.out.wr.whole))
  refine (where_any (m : Nat) (3 : Nat) 3 (i : Nat) s (by omega) w8).mono ?_
  rintro e w9 ⟨v, rfl, o9, h9⟩
  rw [WH.out] at o9
  obtain ⟨g9, c9, rfl, cc⟩ := OwnI.get o9 (j := 0) (by rw [rnd_length]; omega)
  obtain ⟨z1, z2⟩ := (ownX_I.2 o9).own g9 rfl
  have K9 := hid (Lx.mk (g9 := g9) (ns := rnd m i 3) (K.out.more h9 z1 z2) (List.mem_cons_self ..) cc)
  obtain ⟨vs, hvs⟩ : ∃ vs, vs = g9 :: [bA, gg, gx, gp, gw] := ⟨_, rfl⟩
  rw [← hvs] at K9
  replace K := K9
  rw [rnd_length] at o9 ⊢
  have O9 := hid o9
  clear cc o9 h9 z1 z2 K9 hvs
  go_wp2_with (first | ((with_reducible apply ldR (cs := #[Value.int .i64 (m : Nat), .int .i64 (3 : Nat)]) (tGe _ _)); rfl; exact K.out.l.geo.whole) | ((with_reducible apply ldR (cs := (wrL 3 (i : Nat) s).toArray) (tWr _ _ _)); rfl; exact K.out.l.wr.whole))
  obtain ⟨k1, hk1⟩ : ∃ k1, k1 = 0 + 64 * (b.steps.length + 2) := ⟨_, rfl⟩
  have hk1' : k1 ≤ 128 := by rw [hk1, R1.out.st]; simp
  refine (put_any bus_ok K.out.l.p (by rw [R2.out]; omega) (by rw [R1.out.st]; simp) (m : Nat) (3 : Nat) 3 (i : Nat) s HS.out (by omega)).mono ?_
  rintro e w10 ⟨v, rfl, o10, ho⟩
  rw [putR_node R1.out R3.out R2.out PH.out PN.out (by omega)] at o10 ho ⊢
  rw [← hk1] at ho
  obtain ⟨b1, hb1⟩ : ∃ b1, b1 = run (MiM.pt p s) b (rnd m i 3) := ⟨_, rfl⟩
  have Q1 := hid (show Put1 b b1 N p s (rnd m i 3) by rw [hb1]; exact put_all PN.out (rnd m i 3) [] b b (put_one b R1.out R3.out) fun y hy => by rw [R2.out]; exact rnd_lt (by omega) y hy)
  rw [← hb1] at ho
  obtain ⟨F1, _, kk, tt⟩ := K.out.out ho
  have O1 := hid (show OwnI w10 w8.heap.size _ _ from ownX_I.1 ((ownX_I.2 O9.out).turn tt fun q e => by cases e; exact (K.out.l.mine g9 K.out.nine).2))
  replace K := hid kk
  obtain ⟨A10, c10, rfl⟩ := OwnI.len o10
  have O2 := hid o10
  clear ho kk tt o10 O9 hb1 hk1
  rw [rnd_length]
  go_wp2_with fail
  refine (is19_any (l1 := rnd m i 3) (l2 := rnd m i 3) O2.out O1.out (by rw [rnd_length]; omega) (by rw [rnd_length]; omega)).mono ?_
  rintro e w11 ⟨rfl, h11⟩
  rw [decide_eq_true rfl]
  replace K := hid (K.out.on h11)
  have Rb1 := hid Q1.out.rest
  have Nb1 := hid (Q1.out.len.trans R2.out)
  clear h11 O1 O2
  go_wp2_with fail
  obtain ⟨jA, hjA⟩ : ∃ jA, jA = A % 3 := ⟨_, rfl⟩
  have hjA3 : jA < 3 := by omega
  obtain ⟨jB, hjB⟩ : ∃ jB, jB = B % 3 := ⟨_, rfl⟩
  have hjB3 : jB < 3 := by omega
  obtain ⟨ya, hya⟩ : ∃ y, y = (i + jA) % m := ⟨_, rfl⟩
  have hya3 : ya < m := by rw [hya]; exact Nat.mod_lt _ (by omega)
  obtain ⟨yb, hyb⟩ : ∃ y, y = (i + jB) % m := ⟨_, rfl⟩
  have hyb3 : yb < m := by rw [hyb]; exact Nat.mod_lt _ (by omega)
  have RjA := hid (show (A : Int).tmod 3 = (jA : Int) by rw [hjA]; exact (Int.ofNat_tmod A 3).symm)
  have RjB := hid (show (B : Int).tmod 3 = (jB : Int) by rw [hjB]; exact (Int.ofNat_tmod B 3).symm)
  have Yya := hid hya
  have Yyb := hid hyb
  clear hjA hjB hya hyb
  obtain ⟨gi, st, hgi, hst, _, hok, hcell⟩ := K.out.l.member (m := ya) (by rw [Nb1.out]; exact hya3)
  have GI := hid hgi
  have ST := hid hst
  have OK := hid hok
  have MC := hid (show ∀ w', Below w11.heap.size w11 w' → w'.cell? ⟨bA, oA + ya, none⟩ = some (.pointer (some ⟨gi, 0, none⟩)) from fun w' h => (h.cell (p := ⟨bA, oA + ya, none⟩) (K.out.l.mine bA K.out.l.vs4.1).1).trans hcell)
  have LC := hid (show ∀ w', Below w11.heap.size w11 w' → w'.cell? ⟨g9, jA, none⟩ = some (.int .i64 (ya : Nat)) from fun w' h => by
    have := (K.out.on h).ints jA (by rw [rnd_length]; exact hjA3)
    rw [this, rnd3_get hjA3, ← Yya.out])
  have SR := hid (show ∀ w', Below w11.heap.size w11 w' → w'.rangeAt gp 0 (spL A B X Y q) from fun w' h => by
    have := (K.out.l.spo.below h K.out.l.spo.lt).whole
    rwa [HSP.out] at this)
  clear hgi hst hok hcell
  refine wp_region_tail (C := fun w' => Below w11.heap.size w11 w') 12 (by kernel_rfl) (by kernel_rfl) (by kernel_rfl) (Below.refl _ _).drew ?_
  simp only [List.take_succ_cons, List.take_zero, List.drop_succ_cons, List.drop_zero]
  apply wpK_val
  · rfl
  · intro w' hw'
    go_simp
    first | exact rfl | exact ⟨rfl, hw'⟩
  simp only [Act.put, sqA, sqB, sqC]
  apply wpK_val
  · rfl
  · intro w' hw'
    go_simp
    first | exact rfl | exact ⟨rfl, hw'⟩
  simp only [Act.put, sqA, sqB, sqC]
  apply wpK_val
  · rfl
  · intro w' hw'
    go_simp
    first | exact rfl | exact ⟨rfl, hw'⟩
  simp only [Act.put, sqA, sqB, sqC]
  apply wpK_val
  · rfl
  · intro w' hw'
    have hcell := (SR.out w' hw' 0 _ rfl : w'.cell? ⟨gp, 0 + 0, none⟩ = some (.int .u8 A))
    go_simp
    first | exact rfl | exact ⟨rfl, hw'⟩
  simp only [Act.put, sqA, sqB, sqC]
  apply wpK_val
  · rfl
  · intro w' hw'
    have h1 : _ = _ := RjA.out
    go_simp
    first | exact rfl | exact ⟨rfl, hw'⟩
  simp only [Act.put, sqA, sqB, sqC]
  apply wpK_val
  · rfl
  · intro w' hw'
    have h1 : (jA : Int) < 3 := by omega
    go_simp
    first | exact rfl | exact ⟨rfl, hw'⟩
  simp only [Act.put, sqA, sqB, sqC]
  apply wpK_val
  · rfl
  · intro w' hw'
    have hcell := LC.out w' hw'
    go_simp
    first | exact rfl | exact ⟨rfl, hw'⟩
  simp only [Act.put, sqA, sqB, sqC]
  apply wpK_val
  · rfl
  · intro w' hw'
    have h1 : (ya : Int) < m := by omega
    go_simp
    first | exact rfl | exact ⟨rfl, hw'⟩
  simp only [Act.put, sqA, sqB, sqC]
  apply wpK_val
  · rfl
  · intro w' hw'
    have hcell := MC.out w' hw'
    go_simp
    first | exact rfl | exact ⟨rfl, hw'⟩
  simp only [Act.put, sqA, sqB, sqC]
  apply wpK_val
  · rfl
  · intro w' hw'
    go_simp
    first | exact rfl | exact ⟨rfl, hw'⟩
  simp only [Act.put, sqA, sqB, sqC]
  apply wpK_val
  · rfl
  · intro w' hw'
    go_simp
    first | exact rfl | exact ⟨rfl, hw'⟩
  simp only [Act.put, sqA, sqB, sqC]
  apply kldA tSe
  · rfl
  · rfl
  · exact fun w' hw' => sp_x (SR.out w' hw')
  simp only [Act.put, sqA, sqB, sqC]
  refine wpK_nil fun w11' hw' => ?_
  replace K := hid (K.out.on hw')
  clear hw'
  go_wp2_with fail
  refine (MbP.memB_ok.set (K.out.l.p.mem _ _ _ GI.out ST.out) OK.out (by omega) (p : Nat) X HX.out).mono ?_
  rintro e b2w ⟨rfl, ho⟩
  obtain ⟨F2, _, k1, _⟩ := K.out.put GI.out ho (se_ok OK.out _ HX.out)
  have Rb2 := hid (rest_set (y := ya) (st := (seT st (p : Nat) X)) Rb1.out ((seT_n st _ _).trans (Rb1.out.n _ (List.mem_of_getElem? ST.out))))
  have Nb2 := hid (show (b1.ms.set ya (seT st (p : Nat) X)).length = m by rw [List.length_set]; exact Nb1.out)
  have Ub2 := hid (show ∀ z, z ≠ ya → (b1.ms.set ya (seT st (p : Nat) X))[z]? = b1.ms[z]? from fun z hz => List.getElem?_set_ne (Ne.symm hz))
  obtain ⟨b2, hb2⟩ : ∃ b', b' = { b1 with ms := b1.ms.set ya (seT st (p : Nat) X) } := ⟨_, rfl⟩
  rw [← hb2] at k1 Rb2
  replace Nb2 := hid (show b2.ms.length = m by rw [hb2]; exact Nb2.out)
  replace Ub2 := hid (show ∀ z, z ≠ ya → b2.ms[z]? = b1.ms[z]? by rw [hb2]; exact Ub2.out)
  replace K := hid k1
  clear k1 ho hb2 GI ST OK
  go_wp2_with fail
  obtain ⟨gi, st, hgi, hst, _, hok, hcell⟩ := K.out.l.member (m := yb) (by rw [Nb2.out]; exact hyb3)
  have GI := hid hgi
  have ST := hid hst
  have OK := hid hok
  have MC := hid (show ∀ w', Below b2w.heap.size b2w w' → w'.cell? ⟨bA, oA + yb, none⟩ = some (.pointer (some ⟨gi, 0, none⟩)) from fun w' h => (h.cell (p := ⟨bA, oA + yb, none⟩) (K.out.l.mine bA K.out.l.vs4.1).1).trans hcell)
  have LC := hid (show ∀ w', Below b2w.heap.size b2w w' → w'.cell? ⟨g9, jB, none⟩ = some (.int .i64 (yb : Nat)) from fun w' h => by
    have := (K.out.on h).ints jB (by rw [rnd_length]; exact hjB3)
    rw [this, rnd3_get hjB3, ← Yyb.out])
  have SR := hid (show ∀ w', Below b2w.heap.size b2w w' → w'.rangeAt gp 0 (spL A B X Y q) from fun w' h => by
    have := (K.out.l.spo.below h K.out.l.spo.lt).whole
    rwa [HSP.out] at this)
  clear hgi hst hok hcell
  refine wp_region_tail (C := fun w' => Below b2w.heap.size b2w w') 12 (by kernel_rfl) (by kernel_rfl) (by kernel_rfl) (Below.refl _ _).drew ?_
  simp only [List.take_succ_cons, List.take_zero, List.drop_succ_cons, List.drop_zero]
  apply wpK_val
  · rfl
  · intro w' hw'
    go_simp
    first | exact rfl | exact ⟨rfl, hw'⟩
  simp only [Act.put, sqA, sqB, sqC]
  apply wpK_val
  · rfl
  · intro w' hw'
    go_simp
    first | exact rfl | exact ⟨rfl, hw'⟩
  simp only [Act.put, sqA, sqB, sqC]
  apply wpK_val
  · rfl
  · intro w' hw'
    go_simp
    first | exact rfl | exact ⟨rfl, hw'⟩
  simp only [Act.put, sqA, sqB, sqC]
  apply wpK_val
  · rfl
  · intro w' hw'
    have hcell := (SR.out w' hw' 1 _ rfl : w'.cell? ⟨gp, 0 + 1, none⟩ = some (.int .u8 B))
    go_simp
    first | exact rfl | exact ⟨rfl, hw'⟩
  simp only [Act.put, sqA, sqB, sqC]
  apply wpK_val
  · rfl
  · intro w' hw'
    have h1 : _ = _ := RjB.out
    go_simp
    first | exact rfl | exact ⟨rfl, hw'⟩
  simp only [Act.put, sqA, sqB, sqC]
  apply wpK_val
  · rfl
  · intro w' hw'
    have h1 : (jB : Int) < 3 := by omega
    go_simp
    first | exact rfl | exact ⟨rfl, hw'⟩
  simp only [Act.put, sqA, sqB, sqC]
  apply wpK_val
  · rfl
  · intro w' hw'
    have hcell := LC.out w' hw'
    go_simp
    first | exact rfl | exact ⟨rfl, hw'⟩
  simp only [Act.put, sqA, sqB, sqC]
  apply wpK_val
  · rfl
  · intro w' hw'
    have h1 : (yb : Int) < m := by omega
    go_simp
    first | exact rfl | exact ⟨rfl, hw'⟩
  simp only [Act.put, sqA, sqB, sqC]
  apply wpK_val
  · rfl
  · intro w' hw'
    have hcell := MC.out w' hw'
    go_simp
    first | exact rfl | exact ⟨rfl, hw'⟩
  simp only [Act.put, sqA, sqB, sqC]
  apply wpK_val
  · rfl
  · intro w' hw'
    go_simp
    first | exact rfl | exact ⟨rfl, hw'⟩
  simp only [Act.put, sqA, sqB, sqC]
  apply wpK_val
  · rfl
  · intro w' hw'
    go_simp
    first | exact rfl | exact ⟨rfl, hw'⟩
  simp only [Act.put, sqA, sqB, sqC]
  apply kldA tSe
  · rfl
  · rfl
  · exact fun w' hw' => sp_y (SR.out w' hw')
  simp only [Act.put, sqA, sqB, sqC]
  refine wpK_nil fun b2w' hw' => ?_
  replace K := hid (K.out.on hw')
  clear hw'
  go_wp2_with fail
  refine (MbP.memB_ok.set (K.out.l.p.mem _ _ _ GI.out ST.out) OK.out (by omega) (p : Nat) Y HY.out).mono ?_
  rintro e b3w ⟨rfl, ho⟩
  obtain ⟨F3, _, k1, _⟩ := K.out.put GI.out ho (se_ok OK.out _ HY.out)
  have Rb3 := hid (rest_set (y := yb) (st := (seT st (p : Nat) Y)) Rb2.out ((seT_n st _ _).trans (Rb2.out.n _ (List.mem_of_getElem? ST.out))))
  have Nb3 := hid (show (b2.ms.set yb (seT st (p : Nat) Y)).length = m by rw [List.length_set]; exact Nb2.out)
  have Ub3 := hid (show ∀ z, z ≠ yb → (b2.ms.set yb (seT st (p : Nat) Y))[z]? = b2.ms[z]? from fun z hz => List.getElem?_set_ne (Ne.symm hz))
  obtain ⟨b3, hb3⟩ : ∃ b', b' = { b2 with ms := b2.ms.set yb (seT st (p : Nat) Y) } := ⟨_, rfl⟩
  rw [← hb3] at k1 Rb3
  replace Nb3 := hid (show b3.ms.length = m by rw [hb3]; exact Nb3.out)
  replace Ub3 := hid (show ∀ z, z ≠ yb → b3.ms[z]? = b2.ms[z]? by rw [hb3]; exact Ub3.out)
  replace K := hid k1
  clear k1 ho hb3 GI ST OK
  go_wp2_with fail
  obtain ⟨gi, st, hgi, hst, _, hok, hcell⟩ := K.out.l.member (m := yb) (by rw [Nb3.out]; exact hyb3)
  have GI := hid hgi
  have ST := hid hst
  have OK := hid hok
  have MC := hid (show ∀ w', Below b3w.heap.size b3w w' → w'.cell? ⟨bA, oA + yb, none⟩ = some (.pointer (some ⟨gi, 0, none⟩)) from fun w' h => (h.cell (p := ⟨bA, oA + yb, none⟩) (K.out.l.mine bA K.out.l.vs4.1).1).trans hcell)
  have LC := hid (show ∀ w', Below b3w.heap.size b3w w' → w'.cell? ⟨g9, jB, none⟩ = some (.int .i64 (yb : Nat)) from fun w' h => by
    have := (K.out.on h).ints jB (by rw [rnd_length]; exact hjB3)
    rw [this, rnd3_get hjB3, ← Yyb.out])
  have SR := hid (show ∀ w', Below b3w.heap.size b3w w' → w'.rangeAt gp 0 (spL A B X Y q) from fun w' h => by
    have := (K.out.l.spo.below h K.out.l.spo.lt).whole
    rwa [HSP.out] at this)
  clear hgi hst hok hcell
  refine wp_region_tail (C := fun w' => Below b3w.heap.size b3w w') 11 (by kernel_rfl) (by kernel_rfl) (by kernel_rfl) (Below.refl _ _).drew ?_
  simp only [List.take_succ_cons, List.take_zero, List.drop_succ_cons, List.drop_zero]
  apply wpK_val
  · rfl
  · intro w' hw'
    go_simp
    first | exact rfl | exact ⟨rfl, hw'⟩
  simp only [Act.put, sqA, sqB, sqC]
  apply wpK_val
  · rfl
  · intro w' hw'
    go_simp
    first | exact rfl | exact ⟨rfl, hw'⟩
  simp only [Act.put, sqA, sqB, sqC]
  apply wpK_val
  · rfl
  · intro w' hw'
    go_simp
    first | exact rfl | exact ⟨rfl, hw'⟩
  simp only [Act.put, sqA, sqB, sqC]
  apply wpK_val
  · rfl
  · intro w' hw'
    have hcell := (SR.out w' hw' 1 _ rfl : w'.cell? ⟨gp, 0 + 1, none⟩ = some (.int .u8 B))
    go_simp
    first | exact rfl | exact ⟨rfl, hw'⟩
  simp only [Act.put, sqA, sqB, sqC]
  apply wpK_val
  · rfl
  · intro w' hw'
    have h1 : _ = _ := RjB.out
    go_simp
    first | exact rfl | exact ⟨rfl, hw'⟩
  simp only [Act.put, sqA, sqB, sqC]
  apply wpK_val
  · rfl
  · intro w' hw'
    have h1 : (jB : Int) < 3 := by omega
    go_simp
    first | exact rfl | exact ⟨rfl, hw'⟩
  simp only [Act.put, sqA, sqB, sqC]
  apply wpK_val
  · rfl
  · intro w' hw'
    have hcell := LC.out w' hw'
    go_simp
    first | exact rfl | exact ⟨rfl, hw'⟩
  simp only [Act.put, sqA, sqB, sqC]
  apply wpK_val
  · rfl
  · intro w' hw'
    have h1 : (yb : Int) < m := by omega
    go_simp
    first | exact rfl | exact ⟨rfl, hw'⟩
  simp only [Act.put, sqA, sqB, sqC]
  apply wpK_val
  · rfl
  · intro w' hw'
    have hcell := MC.out w' hw'
    go_simp
    first | exact rfl | exact ⟨rfl, hw'⟩
  simp only [Act.put, sqA, sqB, sqC]
  apply wpK_val
  · rfl
  · intro w' hw'
    go_simp
    first | exact rfl | exact ⟨rfl, hw'⟩
  simp only [Act.put, sqA, sqB, sqC]
  apply wpK_val
  · rfl
  · intro w' hw'
    have hcell := sp_q (SR.out w' hw')
    go_simp
    first | exact rfl | exact ⟨rfl, hw'⟩
  simp only [Act.put, sqA, sqB, sqC]
  refine wpK_nil fun b3w' hw' => ?_
  replace K := hid (K.out.on hw')
  clear hw'
  go_wp2_with fail
  refine (MbP.memB_ok.fail (K.out.l.p.mem _ _ _ GI.out ST.out) q).mono ?_
  rintro e b4w ⟨rfl, ho⟩
  obtain ⟨F4, _, k1, _⟩ := K.out.put GI.out ho (fa_ok OK.out q)
  have Rb4 := hid (rest_set (y := yb) (st := (MbM.fail st q)) Rb3.out (show (MbM.fail st q).n = _ from Rb3.out.n st (List.mem_of_getElem? ST.out)))
  have Nb4 := hid (show (b3.ms.set yb (MbM.fail st q)).length = m by rw [List.length_set]; exact Nb3.out)
  have Ub4 := hid (show ∀ z, z ≠ yb → (b3.ms.set yb (MbM.fail st q))[z]? = b3.ms[z]? from fun z hz => List.getElem?_set_ne (Ne.symm hz))
  obtain ⟨b4, hb4⟩ : ∃ b', b' = { b3 with ms := b3.ms.set yb (MbM.fail st q) } := ⟨_, rfl⟩
  rw [← hb4] at k1 Rb4
  replace Nb4 := hid (show b4.ms.length = m by rw [hb4]; exact Nb4.out)
  replace Ub4 := hid (show ∀ z, z ≠ yb → b4.ms[z]? = b3.ms[z]? by rw [hb4]; exact Ub4.out)
  replace K := hid k1
  clear k1 ho hb4 GI ST OK
  obtain ⟨key, hkey⟩ : ∃ key, key = k19 A0 1 := ⟨_, rfl⟩
  have HK := hid (show ∀ j, key j < 256 by rw [hkey]; exact k19_lt hA0 (by omega))
  have BK := hid (show Tryz.prog.built 41 [(0, .int .u8 (A0 : Nat)), (31, .int .u8 1)] = some (ar 32 key) by rw [hkey]; exact built_k19 A0)
  clear hkey
  go_upto_region 17 with (first | (with_reducible apply alA tKy) | ((with_reducible apply wblV BK.out); (simp only [List.map_toArray, List.map_cons, List.map_nil]; rfl)) | ((with_reducible apply stA tKy); rfl; rfl; exact Blk.new _ _ _))
  obtain ⟨gk, hgk⟩ : ∃ z, z = b4w.heap.size := ⟨_, rfl⟩
  rw [← hgk]
  generalize hW : World.setRow _ _ _ = w12
  have b12 : Below b4w.heap.size b4w w12 := by rw [← hW, hgk]; exact below_setRow ((Below.refl _ _).alloc (Nat.le_refl _) _) (Nat.le_refl _) _
  have KB := hid (show Blk w12 gk 41 (ar 32 key) by rw [← hW, hgk]; exact (Blk.new _ _ _).setRow_same _)
  replace K := hid (K.out.more b12 (q := gk) (by omega) (by have := KB.out.lt; omega))
  clear hW b12 hgk
  have qw1 : w12.cell? ⟨gw, 1, none⟩ = some (.int .i64 (i : Nat)) := K.out.l.wr.cell 1
  go_wp2_with (first | ((with_reducible apply ldA tKy); rfl; exact KB.out) | ((with_reducible apply ldA tSe); rfl; exact K.out.l.sec))
  clear qw1
  refine (node_ndT key HK.out (i : Nat) (by omega) s HS.out w12 (SA.out.below K.out.l.bel SA.out.1)).mono ?_
  rintro e w13 ⟨rfl, h13⟩
  obtain ⟨want, hwant⟩ : ∃ want, want = ndT key (i : Nat) s := ⟨_, rfl⟩
  rw [← hwant]
  have HW := hid hwant
  replace K := hid (K.out.on h13)
  replace KB := hid (KB.out.below h13 KB.out.lt)
  clear h13 hwant
  go_upto_region 18 with (first | (with_reducible apply alA tTg) | ((with_reducible apply stA tTg); rfl; rfl; exact Blk.new _ _ _))
  obtain ⟨gt, hgt⟩ : ∃ z, z = w13.heap.size := ⟨_, rfl⟩
  rw [← hgt]
  generalize hW : World.setRow _ _ _ = w14
  have b14 : Below w13.heap.size w13 w14 := by rw [← hW, hgt]; exact below_setRow ((Below.refl _ _).alloc (Nat.le_refl _) _) (Nat.le_refl _) _
  have TB := hid (show Blk w14 gt 81 (ar 32 want) by rw [← hW, hgt]; exact (Blk.new _ _ _).setRow_same _)
  replace K := hid (K.out.more b14 (q := gt) (by omega) (by have := TB.out.lt; omega))
  replace KB := hid (KB.out.below b14 KB.out.lt)
  clear hW b14 hgt
  have qw1 : w14.cell? ⟨gw, 1, none⟩ = some (.int .i64 (i : Nat)) := K.out.l.wr.cell 1
  go_wp2_with (first | ((with_reducible apply ldR (cs := #[Value.int .i64 (m : Nat), .int .i64 (3 : Nat)]) (tGe _ _)); rfl; exact K.out.l.geo.whole) | ((with_reducible apply ldA tKy); rfl; exact KB.out) | ((with_reducible apply ldA tTg); rfl; exact TB.out))
  clear qw1
  refine (readnode_any bus_ok K.out.l.p (by rw [Nb4.out]; omega) (by rw [Rb4.out.st]; simp; omega) (SA.out.below K.out.l.bel SA.out.1) (fun z e => Nat.lt_of_lt_of_le SA.out.1 (K.out.l.low z e)) (m : Nat) (3 : Nat) (i : Nat) (by omega) key want HK.out).mono ?_
  rintro e w15 ⟨v, rfl, o15, ho⟩
  rw [nodR_node Nb4.out PH.out] at o15 ho ⊢
  obtain ⟨tL, tLm, tLs, tLe, tLh⟩ : ∃ y st, y ∈ rnd m i 3 ∧ b4.ms[y]? = some st ∧ rdE st p = 0 ∧ hasT key (i : Nat) want (rdS st p) = true := by
    refine two_left Q1.out PN.out R2.out (by omega) hjA3 hjB3 (ms' := b4.ms) (fun y h1 h2 => ?_) HW.out
    rw [← Yya.out] at h1
    rw [← Yyb.out] at h2
    rw [Ub4.out y h2, Ub3.out y h2, Ub2.out y h1]
  obtain ⟨n1, n2, n3⟩ := node_some (T := hasT key (i : Nat) want) (p := p) (rnd m i 3) b4 [] 10 Rb4.out (fun z hz => by rw [Nb4.out]; exact rnd_lt (by omega) z hz) ⟨tL, tLm, tLs, tLe, tLh⟩
  have n4 := nodeR_lt (T := hasT key (i : Nat) want) (p := p) (rnd m i 3) b4 [] 10 Rb4.out K.out.l.p.ok.1 (fun z hz => by rw [Nb4.out]; exact rnd_lt (by omega) z hz)
  obtain ⟨bad, hbad⟩ : ∃ l, l = (nodeR (hasT key (i : Nat) want) p b4 [] (rnd m i 3) 10).2.1 := ⟨_, rfl⟩
  obtain ⟨got, hgot⟩ : ∃ l, l = (nodeR (hasT key (i : Nat) want) p b4 [] (rnd m i 3) 10).1 := ⟨_, rfl⟩
  rw [n1, ← hgot]
  rw [← hbad] at o15 n2
  rw [← hgot] at n3 n4
  have HG := hid n4
  have hb2 : ¬ 2 < bad.length := by rw [rnd_length] at n2; simp at n2; omega
  obtain ⟨F5, _, kk, tt⟩ := K.out.out ho
  have KB5 := hid (KB.out.turn tt (K.out.l.mine gk (by simp)).2)
  have TB5 := hid (TB.out.turn tt (K.out.l.mine gt (by simp)).2)
  replace K := hid kk
  obtain ⟨A15, c15, rfl⟩ := OwnI.len o15
  have N3 := hid n3
  clear ho kk tt o15 KB TB n1 n2 n3 n4 hbad hgot tLm tLs tLe tLh
  go_upto_region 21 with (first | (with_reducible apply alA tSe) | ((with_reducible apply stA tSe); rfl; rfl; exact Blk.new _ _ _))
  obtain ⟨gs, hgs⟩ : ∃ z, z = w15.heap.size := ⟨_, rfl⟩
  rw [← hgs]
  generalize hW : World.setRow _ _ _ = w16
  have b16 : Below w15.heap.size w15 w16 := by rw [← hW, hgs]; exact below_setRow ((Below.refl _ _).alloc (Nat.le_refl _) _) (Nat.le_refl _) _
  have GS := hid (show Blk w16 gs 37 (ar 64 got) by rw [← hW, hgs]; exact (Blk.new _ _ _).setRow_same _)
  replace K := hid (K.out.on b16)
  have KB6 := hid (KB5.out.below b16 KB5.out.lt)
  have TB6 := hid (TB5.out.below b16 TB5.out.lt)
  clear hW b16 hgs KB5 TB5
  by_cases hgs : eqA 64 got s = true
  · refine wp_region_tail (C := fun w' => Below w16.heap.size w16 w') 16 (by kernel_rfl) (by kernel_rfl) (by kernel_rfl) (Below.refl _ _).drew ?_
    simp only [List.take_succ_cons, List.take_zero, List.drop_succ_cons, List.drop_zero]
    apply kldA tSe
    · rfl
    · rfl
    · exact fun w' hw' => (GS.out.below hw' GS.out.lt).head
    simp only [Act.put, sqA, sqB, sqC]
    apply kldA tSe
    · rfl
    · rfl
    · exact fun w' hw' => (K.out.l.sec.below hw' K.out.l.sec.lt).head
    simp only [Act.put, sqA, sqB, sqC]
    apply keqU true uSe19 TgP.eqgS
    · rfl
    · rfl
    · rfl
    · exact hgs
    simp only [Act.put, sqA, sqB, sqC]
    apply wpK_val
    · rfl
    · intro w' hw'
      go_simp
      first | exact rfl | exact ⟨rfl, hw'⟩
    simp only [Act.put, sqA, sqB, sqC]
    apply wpK_not
    · rfl
    simp only [Act.put, sqA, sqB, sqC]
    apply wpK_not
    · rfl
    simp only [Act.put, sqA, sqB, sqC]
    apply wpK_not
    · rfl
    simp only [Act.put, sqA, sqB, sqC]
    apply wpK_not
    · rfl
    simp only [Act.put, sqA, sqB, sqC]
    apply wpK_not
    · rfl
    simp only [Act.put, sqA, sqB, sqC]
    apply wpK_not
    · rfl
    simp only [Act.put, sqA, sqB, sqC]
    apply wpK_not
    · rfl
    simp only [Act.put, sqA, sqB, sqC]
    apply wpK_val
    · rfl
    · intro w' hw'
      go_simp
      first | exact rfl | exact ⟨rfl, hw'⟩
    simp only [Act.put, sqA, sqB, sqC]
    apply wpK_val
    · rfl
    · intro w' hw'
      go_simp
      first | exact rfl | exact ⟨rfl, hw'⟩
    simp only [Act.put, sqA, sqB, sqC]
    apply wpK_val
    · rfl
    · intro w' hw'
      go_simp
      exact (awake19_any w').mono fun e w2 h => ⟨h.1, hw'.trans (h.2.mono hw'.size)⟩
    simp only [Act.put, sqA, sqB, sqC]
    apply wpK_val
    · rfl
    · intro w' hw'
      go_simp
      first | exact rfl | exact ⟨rfl, hw'⟩
    simp only [Act.put, sqA, sqB, sqC]
    apply wpK_val
    · rfl
    · intro w' hw'
      go_simp
      first | exact rfl | exact ⟨rfl, hw'⟩
    simp only [Act.put, sqA, sqB, sqC]
    refine wpK_nil fun w' hw' => ?_
    replace K := hid (K.out.on hw')
    clear hw'
    go_wp2_with fail
    go_ret
    exact ⟨rfl, K.out.l.bel⟩
  · have hgs2 : eqA 64 got s = false := by rw [Bool.not_eq_true] at hgs; exact hgs
    refine wp_region_tail (C := fun w' => Below w16.heap.size w16 w') 16 (by kernel_rfl) (by kernel_rfl) (by kernel_rfl) (Below.refl _ _).drew ?_
    simp only [List.take_succ_cons, List.take_zero, List.drop_succ_cons, List.drop_zero]
    apply kldA tSe
    · rfl
    · rfl
    · exact fun w' hw' => (GS.out.below hw' GS.out.lt).head
    simp only [Act.put, sqA, sqB, sqC]
    apply kldA tSe
    · rfl
    · rfl
    · exact fun w' hw' => (K.out.l.sec.below hw' K.out.l.sec.lt).head
    simp only [Act.put, sqA, sqB, sqC]
    apply keqU false uSe19 TgP.eqgS
    · rfl
    · rfl
    · rfl
    · exact hgs2
    simp only [Act.put, sqA, sqB, sqC]
    apply wpK_val
    · rfl
    · intro w' hw'
      go_simp
      first | exact rfl | exact ⟨rfl, hw'⟩
    simp only [Act.put, sqA, sqB, sqC]
    apply kldA tKy
    · rfl
    · rfl
    · exact fun w' hw' => (KB6.out.below hw' KB6.out.lt).head
    simp only [Act.put, sqA, sqB, sqC]
    apply wpK_val
    · rfl
    · intro w' hw'
      go_simp
      first | exact rfl | exact ⟨rfl, hw'⟩
    simp only [Act.put, sqA, sqB, sqC]
    apply wpK_val
    · rfl
    · intro w' hw'
      have hcell := ((K.out.l.wr.below hw' K.out.l.wr.lt).cell 1 : w'.cell? ⟨gw, 0 + 1, none⟩ = some (.int .i64 (i : Nat)))
      go_simp
      first | exact rfl | exact ⟨rfl, hw'⟩
    simp only [Act.put, sqA, sqB, sqC]
    apply kldA tSe
    · rfl
    · rfl
    · exact fun w' hw' => (GS.out.below hw' GS.out.lt).head
    simp only [Act.put, sqA, sqB, sqC]
    apply wpK_val
    · rfl
    · intro w' hw'
      go_simp
      exact (node_ndT key HK.out (i : Nat) (by omega) got HG.out w' (SA.out.below (K.out.l.on hw').bel SA.out.1)).mono fun e w2 h => ⟨h.1, hw'.trans (h.2.mono hw'.size)⟩
    simp only [Act.put, sqA, sqB, sqC]
    apply kldA tTg
    · rfl
    · rfl
    · exact fun w' hw' => (TB6.out.below hw' TB6.out.lt).head
    simp only [Act.put, sqA, sqB, sqC]
    apply keqU true ClP.uTg TgP.eqgT
    · rfl
    · rfl
    · rfl
    · exact N3.out
    simp only [Act.put, sqA, sqB, sqC]
    apply wpK_val
    · rfl
    · intro w' hw'
      go_simp
      first | exact rfl | exact ⟨rfl, hw'⟩
    simp only [Act.put, sqA, sqB, sqC]
    apply wpK_val
    · rfl
    · intro w' hw'
      go_simp
      first | exact rfl | exact ⟨rfl, hw'⟩
    simp only [Act.put, sqA, sqB, sqC]
    apply wpK_val
    · rfl
    · intro w' hw'
      go_simp
      exact (awake19_any w').mono fun e w2 h => ⟨h.1, hw'.trans (h.2.mono hw'.size)⟩
    simp only [Act.put, sqA, sqB, sqC]
    apply wpK_val
    · rfl
    · intro w' hw'
      go_simp
      first | exact rfl | exact ⟨rfl, hw'⟩
    simp only [Act.put, sqA, sqB, sqC]
    apply wpK_val
    · rfl
    · intro w' hw'
      go_simp
      first | exact rfl | exact ⟨rfl, hw'⟩
    simp only [Act.put, sqA, sqB, sqC]
    refine wpK_nil fun w' hw' => ?_
    replace K := hid (K.out.on hw')
    clear hw'
    go_wp2_with fail
    go_ret
    exact ⟨rfl, K.out.l.bel⟩
end MiM
end Go.Proofs.YtklmjdhhnnanoaaGreatDoor
