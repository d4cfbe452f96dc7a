/-
  Slices of structs of k cells that come in.
  What comes in to the laws of chapter 13: rows of acts; bytes.
  The log of a bus, done again on other members, in plain words; members of the program's, alone.
  What comes in to the laws of chapter 13: steps, each with picks.
  The law BusQuiet: a bus beside members alone.
  The law BusQuiet: steps that come late.
-/
import Derived.Test.YtablkaofaedpeaaMrg5
import Derived.Deep.Strs
set_option linter.unusedVariables false
set_option linter.unusedSimpArgs false
set_option maxRecDepth 100000
namespace Go.Proofs.Ytablkaofaedpeaa
open Go.ChangeShapes Go.WideShapes Go.ChangeAt Go.RowKit Go.Deep
/-- A slice of structs of k cells, in one row below block B. -/
def Elems (k : Nat) (w : World) (B : Nat) (A : Option Addr) (xs : List (List Value)) : Prop :=
  0 < xs.length → ∃ b o, A = some ⟨b, o, none⟩ ∧ b < B ∧ ∀ (i : Nat) (cs : List Value), xs[i]? = some cs → ∀ (j : Nat) (v : Value), cs[j]? = some v → w.cell? ⟨b, o + i * k + j, none⟩ = some v
theorem Elems.below {k B B' : Nat} {w w' : World} {A : Option Addr} {xs : List (List Value)} (h : Elems k w B A xs) (hb : Below B' w w') (hB : B ≤ B') : Elems k w' B A xs := fun hn => by
  obtain ⟨b, o, rfl, hl, hr⟩ := h hn
  exact ⟨b, o, rfl, hl, fun i cs hi j v hj => (hb.cell (p := ⟨b, o + i * k + j, none⟩) (by show b < B'; omega)).trans (hr i cs hi j v hj)⟩
section
variable {H : Type} {enc : TypeId × Value → H} {w : World} {base : Nat} {spare : Nat → Bool} {held : Bool}
theorem open_elems {S E : TypeId} {k : Nat} {R : List Value → Prop} {r : Reach} {b0 : Nat} {v : Value} {d : DataW H} {p : List MemPlace} (hS : Try.prog.underlying S = some (.slice E)) (hk : Try.prog.cellsOf E = k) (hk0 : 0 < k)
    (hR : ∀ (fuel : Nat) (cs : List Value) (x : DataW H × List MemPlace), DataW.trod enc Try.prog w base spare held fuel E cs = some x → cs.length = k → R cs)
    (hv : Value.okWide Try.prog w r b0 S v) (h : DataW.Trod enc Try.prog w base spare held S v d p) :
    ∃ (A : Option Addr) (xs : List (List Value)) (n cap : Nat), v = .slice A n cap ∧ xs.length = n ∧ n ≤ cap ∧ cap ≤ maxLen ∧ (∀ cs ∈ xs, R cs ∧ cs.length = k) ∧ Elems k w w.heap.size A xs ∧ (A = none → n = 0 ∧ cap = 0) := by
  obtain ⟨A, n, cap, rfl⟩ := okWide_slice hS hv
  obtain ⟨fuel, hf⟩ := h
  rcases open_slice hS hf with ⟨hcs, _⟩ | ⟨a, len, cap', m, fu, D, Pl, hcs, hb, hl, hm, hmm, hx, hi⟩
  · simp [Value.cells] at hcs
    obtain ⟨rfl, rfl, rfl⟩ := hcs
    exact ⟨none, [], 0, 0, rfl, rfl, Nat.le_refl _, Nat.zero_le _, (fun x hx => by cases hx), (fun h => absurd h (by simp)), fun _ => ⟨rfl, rfl⟩⟩
  · simp [Value.cells] at hcs
    obtain ⟨rfl, rfl, rfl⟩ := hcs
    have hnm : n ≤ m := by rw [hmm]; split <;> omega
    have one : ∀ i, i < n → ∃ cs : List Value, R cs ∧ cs.length = k ∧ ∀ j, j < k → w.cell? (a.add (i * k + j)) = cs[j]? := fun i hin => by
      obtain ⟨cs', hc, ht⟩ := hi i (by omega)
      have h3 := World.cells?_some hc
      rw [hk] at h3
      refine ⟨cs', hR fu cs' _ ht h3.2.1, h3.2.1, fun j hj => ?_⟩
      have h6 := h3.2.2 j hj
      rw [Go.Deep.add_add] at h6
      exact h6
    obtain ⟨F, hF⟩ := choose_lt one
    have hg : ∀ i, ((List.range n).map F)[i]? = if i < n then some (F i) else none := fun i => by
      by_cases hi : i < n
      · rw [if_pos hi, List.getElem?_map, List.getElem?_range hi]; rfl
      · rw [if_neg hi, List.getElem?_eq_none (by simp; omega)]
    refine ⟨some a, (List.range n).map F, n, cap, rfl, by simp, hl, hm, fun l hl2 => ?_, fun hn => ?_, fun h => by cases h⟩
    · obtain ⟨i, hi2, rfl⟩ := List.mem_map.1 hl2
      exact ⟨(hF i (List.mem_range.1 hi2)).1, (hF i (List.mem_range.1 hi2)).2.1⟩
    · have hn' : 0 < n := by simpa using hn
      obtain ⟨_, h1, h0⟩ := hF 0 hn'
      have h00 := h0 0 hk0
      rw [List.getElem?_eq_getElem (by omega)] at h00
      have hsp : a.spot = none := by
        simp only [Nat.zero_mul, Nat.zero_add, Addr.add, if_true] at h00
        unfold World.cell? at h00
        split at h00
        · cases hs : a.spot with
          | none => rfl
          | some s => simp [hs] at h00
        · cases h00
      have hblk : a.block < w.heap.size := by
        have := World.block_lt_of_cell? w _ h00
        simpa [Addr.add] using this
      obtain ⟨b, o, sp⟩ := a
      subst hsp
      refine ⟨b, o, rfl, hblk, fun i cs hi2 j v hj => ?_⟩
      rw [hg] at hi2
      split at hi2
      · rename_i hin
        obtain rfl := Option.some.inj hi2
        obtain ⟨_, h1, h2⟩ := hF i hin
        have hjk : j < k := by have := (List.getElem?_eq_some_iff.1 hj).1; omega
        have h3 := h2 j hjk
        rw [Addr.add_mid, hj, ← Nat.add_assoc] at h3
        exact h3
      · cases hi2
end
end Go.Proofs.Ytablkaofaedpeaa
set_option maxRecDepth 100000
namespace Go.Proofs.Ytablkaofaedpeaa
open Go.ChangeShapes Go.WideShapes Go.ChangeAt Go.RowKit Go.Deep
namespace BuP
open MbP
theorem cells_ab : Try.prog.cellsOf 70 = 99 := by kernel_rfl
theorem cells_se13 : Try.prog.cellsOf 30 = 64 := by kernel_rfl
theorem cells_tg13 : Try.prog.cellsOf 41 = 32 := by kernel_rfl
theorem cells_i13 : Try.prog.cellsOf 3 = 1 := by kernel_rfl
theorem at_one13 {l : List Value} {o : Nat} {v : Value} (h : (l.drop o).take 1 = [v]) : l[o]? = some v := by
  have h1 : ((l.drop o).take 1)[0]? = some v := by rw [h]; rfl
  rwa [List.getElem?_take_of_lt (by omega), List.getElem?_drop] at h1
theorem at_ar13 {l : List Value} {o m j : Nat} {f : Nat → Nat} (h : (l.drop o).take m = (ar m f).toList) (hj : j < m) : l[o + j]? = some (.int .u8 (f j : Nat)) := by
  have h1 : ((l.drop o).take m)[j]? = some (.int .u8 (f j : Nat)) := by rw [h, Array.getElem?_toList, get_ar hj]
  rwa [List.getElem?_take_of_lt hj, List.getElem?_drop] at h1
theorem ab_get (a : ActB) (j : Nat) (hj : j < 99) : (abL a)[j]? = some (if j = 0 then .int .i64 a.d else if j = 1 then .int .i64 a.m else if j = 2 then .int .i64 a.i else if j < 67 then .int .u8 (a.s (j - 3) : Nat) else .int .u8 (a.t (j - 67) : Nat)) := by
  unfold abL
  rcases j with _ | _ | _ | j
  · rfl
  · rfl
  · rfl
  · rw [List.getElem?_cons_succ, List.getElem?_cons_succ, List.getElem?_cons_succ, if_neg (by omega), if_neg (by omega), if_neg (by omega)]
    by_cases h : j < 64
    · rw [if_pos (by omega), List.getElem?_append_left (by rw [ar64_len]; exact h), ar64, Array.getElem?_toList, get_ar h]; rfl
    · rw [if_neg (by omega), List.getElem?_append_right (by rw [ar64_len]; omega), ar64_len, Array.getElem?_toList, get_ar (by omega), show j + 1 + 1 + 1 - 67 = j - 64 by omega]
section
variable {H : Type} {enc : TypeId × Value → H} {w : World} {base : Nat} {spare : Nat → Bool} {held : Bool}
set_option maxRecDepth 100000 in
theorem trod_ab {fuel : Nat} {cs : List Value} {x : DataW H × List MemPlace} (h : DataW.trod enc Try.prog w base spare held fuel 70 cs = some x) : ∃ y : ActB, (∀ j, y.s j < 256) ∧ cs = abL y := by
  obtain ⟨xs, n, _, rfl, hl, hlen, hf⟩ := DataW.trod_struct Try.underlying70 h
  rw [cells_ab] at hl
  match xs, hlen with
  | [y0, y1, y2, y3, y4], _ =>
    have h0 : DataW.trod enc Try.prog w base spare held n 3 ((cs.drop 0).take (Try.prog.cellsOf 3)) = some y0 := hf 0 _ rfl
    have h1 : DataW.trod enc Try.prog w base spare held n 3 ((cs.drop 1).take (Try.prog.cellsOf 3)) = some y1 := hf 1 _ rfl
    have h2 : DataW.trod enc Try.prog w base spare held n 3 ((cs.drop 2).take (Try.prog.cellsOf 3)) = some y2 := hf 2 _ rfl
    have h3 : DataW.trod enc Try.prog w base spare held n 30 ((cs.drop 3).take (Try.prog.cellsOf 30)) = some y3 := hf 3 _ rfl
    have h4 : DataW.trod enc Try.prog w base spare held n 41 ((cs.drop 67).take (Try.prog.cellsOf 41)) = some y4 := hf 4 _ rfl
    rw [cells_i13] at h0 h1 h2
    rw [cells_se13] at h3
    rw [cells_tg13] at h4
    obtain ⟨d, e0, _, _⟩ := DataW.trod_int Try.underlying3 h0
    obtain ⟨m, e1, _, _⟩ := DataW.trod_int Try.underlying3 h1
    obtain ⟨i, e2, _, _⟩ := DataW.trod_int Try.underlying3 h2
    obtain ⟨f, hf3, e3⟩ := trod_ar uSe' cells_se13 h3
    obtain ⟨t, _, e4⟩ := trod_ar ClP.uTg cells_tg13 h4
    refine ⟨⟨d, m, i, f, t⟩, hf3, ?_⟩
    apply List.ext_getElem?
    intro j
    have r0 := at_one13 e0
    have r1 := at_one13 e1
    have r2 := at_one13 e2
    by_cases hj : j < 99
    · rw [ab_get _ j hj]
      by_cases c0 : j = 0
      · rw [if_pos c0, c0]; exact r0
      · rw [if_neg c0]
        by_cases c1 : j = 1
        · rw [if_pos c1, c1]; exact r1
        · rw [if_neg c1]
          by_cases c2 : j = 2
          · rw [if_pos c2, c2]; exact r2
          · rw [if_neg c2]
            by_cases c3 : j < 67
            · rw [if_pos c3]
              have := at_ar13 e3 (show j - 3 < 64 by omega)
              rwa [show 3 + (j - 3) = j by omega] at this
            · rw [if_neg c3]
              have := at_ar13 e4 (show j - 67 < 32 by omega)
              rwa [show 67 + (j - 67) = j by omega] at this
    · rw [List.getElem?_eq_none (by omega), List.getElem?_eq_none (by rw [abL_len]; omega)]
theorem sli_of_elemsP {α : Type} {P : α → Prop} {k n cap : Nat} {en : α → List Value} {A : Option Addr} {xs : List (List Value)} (hn : xs.length = n) (hc : n ≤ cap) (hm : cap ≤ maxLen) (hx : ∀ cs ∈ xs, ∃ x, P x ∧ cs = en x) (he : Elems k w w.heap.size A xs) (h0 : A = none → n = 0 ∧ cap = 0) :
    ∃ l : List α, (∀ x ∈ l, P x) ∧ Sli k en (fun b => b < w.heap.size) w A l n cap := by
  have key : ∀ ys : List (List Value), (∀ cs ∈ ys, ∃ x, P x ∧ cs = en x) → ∃ l : List α, (∀ x ∈ l, P x) ∧ ys = l.map en := fun ys => by
    induction ys with
    | nil => exact fun _ => ⟨[], fun _ h => (by cases h), rfl⟩
    | cons y ys ih =>
      intro h
      obtain ⟨x, hp, hx⟩ := h y List.mem_cons_self
      obtain ⟨l, hl1, hl⟩ := ih fun cs hcs => h cs (List.mem_cons_of_mem _ hcs)
      refine ⟨x :: l, fun z hz => ?_, by rw [List.map_cons, ← hx, ← hl]⟩
      rcases List.mem_cons.1 hz with e | e
      · rw [e]; exact hp
      · exact hl1 z e
  obtain ⟨l, hp, rfl⟩ := key xs hx
  rw [List.length_map] at hn
  refine ⟨l, hp, hn, hc, hm, h0, fun hp => ?_⟩
  obtain ⟨b, o, e, hb, hr⟩ := he (by rw [List.length_map]; exact hp)
  exact ⟨b, o, e, hb, hb, fun i x hi j v hj => hr i (en x) (by rw [List.getElem?_map, hi]; rfl) j v hj⟩
theorem open_b13 {r : Reach} {b0 : Nat} {v : Value} {d : DataW H} {p : List MemPlace} (hv : Value.okWide Try.prog w r b0 5 v) (h : DataW.Trod enc Try.prog w base spare held 5 v d p) : ∃ x : Nat, v = .int .u8 x ∧ x < 256 := by
  obtain ⟨a, rfl, _, _, wf⟩ := Go.ChangeShapes.open_int Try.underlying5 hv h
  obtain ⟨n, rfl, hn⟩ := u8_wf wf
  exact ⟨n, rfl, hn⟩
theorem open_acts13 {r : Reach} {b0 : Nat} {v : Value} {d : DataW H} {p : List MemPlace} (hv : Value.okWide Try.prog w r b0 64 v) (h : DataW.Trod enc Try.prog w base spare held 64 v d p) :
    ∃ (A : Option Addr) (la : List ActB) (n cap : Nat), v = .slice A n cap ∧ (∀ a ∈ la, ∀ j, a.s j < 256) ∧ Sli 99 abL (fun b => b < w.heap.size) w A la n cap := by
  obtain ⟨A, xs, n, cap, rfl, hlen, hc, hm, hR, he, h0⟩ := open_elems (k := 99) (R := fun cs => ∃ y : ActB, (∀ j, y.s j < 256) ∧ cs = abL y) Try.underlying64 cells_ab (by omega) (fun fuel cs x h _ => trod_ab h) hv h
  obtain ⟨l, hp, hl⟩ := sli_of_elemsP (P := fun a : ActB => ∀ j, a.s j < 256) hlen hc hm (fun cs hcs => (hR cs hcs).1) he h0
  exact ⟨A, l, n, cap, rfl, hp, hl⟩
end
end BuP
end Go.Proofs.Ytablkaofaedpeaa
set_option maxRecDepth 100000
namespace Go.Proofs.Ytablkaofaedpeaa
open Go.ChangeShapes Go.WideShapes Go.ChangeAt Go.RowKit
attribute [local go_sem] Gives GivesE
namespace BuP
open BuM MbM MbP
/-- An entry done again. -/
def rep1 (ms : List St) (x : BuM.Ent) : List St :=
  if x.e = 0 then (if x.d = 2 then ms.set x.m.toNat (MbM.wrT (BuM.at' ms x.m) x.i x.s) else if x.d = 3 then ms.set x.m.toNat (MbM.flT (BuM.at' ms x.m)) else ms) else ms
def repl (ms : List St) (L : List BuM.Ent) : List St := L.foldl rep1 ms
theorem repl_snoc (ms : List St) (L : List BuM.Ent) (x : BuM.Ent) : repl ms (L ++ [x]) = rep1 (repl ms L) x := by unfold repl; rw [List.foldl_append]; rfl
theorem set_at {ms : List St} {mi : Nat} (h : mi < ms.length) : ms.set ((mi : Int).toNat) (BuM.at' ms (mi : Int)) = ms := by
  rw [at_of (List.getElem?_eq_getElem h), Int.toNat_natCast, List.set_getElem_self]
theorem wrT_bad {st : St} {i : Int} {x : Nat → Nat} (h : rdE st i ≠ 0) : MbM.wrT st i x = st := by
  unfold MbM.wrT
  unfold rdE at h
  split
  · rename_i h1
    rw [if_pos h1] at h
    split
    · rfl
    · rename_i h2; rw [if_neg h2] at h; exact absurd rfl h
  · rfl
theorem flT_bad {st : St} (h : MbM.flE st ≠ 0) : MbM.flT st = st := by
  unfold MbM.flT
  unfold MbM.flE at h
  split
  · rfl
  · rename_i h2; rw [if_neg h2] at h; exact absurd rfl h
/-- Without steps the members are what the log says. -/
theorem ov_rep {b : Bs} (hs : b.steps = []) (a : ActB) (K : Nat) {ms0 : List St} (h : b.ms = repl ms0 b.log) : (ovB b a K).ms = repl ms0 (ovB b a K).log := by
  have hn : BuM.ahead b = b := ahead_none fun s hs' => by rw [hs] at hs'; cases hs'
  unfold ovB
  have wr : (BuM.wrT b a.m a.i a.s).ms = repl ms0 (BuM.wrT b a.m a.i a.s).log := by
    unfold BuM.wrT
    rw [hn]
    show (BuM.wrM b a.m a.i a.s).ms = repl ms0 ((BuM.wrM b a.m a.i a.s).log ++ [BuM.wrB b a.m a.i a.s])
    rw [(wrM_same b a.m a.i a.s).2.1, repl_snoc, ← h]
    unfold BuM.wrM BuM.wrB rep1 BuM.upd
    by_cases hm : BuM.may b a.m = 0
    · obtain ⟨_, mi, hmi, hlt⟩ := may_zero hm
      simp only [if_pos hm]
      by_cases he : rdE (BuM.at' b.ms a.m) a.i = 0
      · rw [if_pos he, if_pos trivial]
      · rw [if_neg he, wrT_bad he, hmi, set_at hlt]
    · simp only [if_neg hm]
  have fl : (BuM.flT b a.m).ms = repl ms0 (BuM.flT b a.m).log := by
    unfold BuM.flT
    rw [hn]
    show (BuM.flM b a.m).ms = repl ms0 ((BuM.flM b a.m).log ++ [BuM.flB b a.m])
    rw [(flM_same b a.m).2.1, repl_snoc, ← h]
    unfold BuM.flM BuM.flB rep1 BuM.upd
    by_cases hm : BuM.may b a.m = 0
    · obtain ⟨_, mi, hmi, hlt⟩ := may_zero hm
      simp only [if_pos hm]
      by_cases he : MbM.flE (BuM.at' b.ms a.m) = 0
      · rw [if_pos he, if_neg (by omega), if_pos trivial]
      · rw [if_neg he, flT_bad he, hmi, set_at hlt]
    · simp only [if_neg hm]
  split
  · exact wr
  · exact wr
  · exact fl
  · unfold BuM.ceT; rw [hn]
    show b.ms = repl ms0 (b.log ++ [BuM.ceB b])
    rw [repl_snoc, ← h]; unfold rep1
    have : (BuM.ceB b).d = 4 := by unfold BuM.ceB; split <;> rfl
    rw [this]; split <;> rfl
  · unfold BuM.adT; rw [hn]
    show (BuM.adM b a.t).ms = repl ms0 ((BuM.adM b a.t).log ++ [BuM.adB b a.t])
    rw [(adM_same b a.t).2.1, (adM_same b a.t).2.2.2, repl_snoc, ← h]; unfold rep1
    have : (BuM.adB b a.t).d = 5 := rfl
    rw [this]; split <;> rfl
  · exact h
  · unfold BuM.rdT; rw [hn]
    show b.ms = repl ms0 (b.log ++ [BuM.rdB b a.m a.i])
    rw [repl_snoc, ← h]; unfold rep1
    have : (BuM.rdB b a.m a.i).d = 1 := by unfold BuM.rdB; split <;> rfl
    rw [this]; split <;> rfl
/-- What is sure of an entry. -/
def okEnt (n : Nat) (x : BuM.Ent) : Prop := (x.d = 2 → ∀ j, x.s j < 256) ∧ (x.e = 0 → x.d = 2 ∨ x.d = 3 → ∃ mi : Nat, x.m = mi ∧ mi < n)
theorem ov_okE {b : Bs} (hs : b.steps = []) (a : ActB) (ha : ∀ j, a.s j < 256) (K : Nat) (h : ∀ x ∈ b.log, okEnt b.ms.length x) : ∀ x ∈ (ovB b a K).log, okEnt b.ms.length x := by
  have hn : BuM.ahead b = b := ahead_none fun s hs' => by rw [hs] at hs'; cases hs'
  have app : ∀ (L : List BuM.Ent) (y : BuM.Ent), L = b.log → okEnt b.ms.length y → ∀ x ∈ L ++ [y], okEnt b.ms.length x := fun L y e hy x hx => by
    rw [List.mem_append, List.mem_singleton] at hx
    rcases hx with hx | hx
    · exact h x (e ▸ hx)
    · rw [hx]; exact hy
  have wr : ∀ x ∈ (BuM.wrT b a.m a.i a.s).log, okEnt b.ms.length x := by
    unfold BuM.wrT
    rw [hn]
    refine app _ _ (wrM_same b a.m a.i a.s).2.1 ⟨fun _ => ha, fun he _ => ?_⟩
    have hm : BuM.may b a.m = 0 := by
      have he' : (if BuM.may b a.m = 0 then rdE (BuM.at' b.ms a.m) a.i else BuM.may b a.m) = 0 := he
      by_cases e : BuM.may b a.m = 0
      · exact e
      · rw [if_neg e] at he'; exact absurd he' e
    exact (may_zero hm).2
  have oth : ∀ y : BuM.Ent, y.d ≠ 2 → y.d ≠ 3 → okEnt b.ms.length y := fun y h2 h3 => ⟨fun e => absurd e h2, fun _ e => e.elim (fun e => absurd e h2) fun e => absurd e h3⟩
  unfold ovB
  split
  · exact wr
  · exact wr
  · unfold BuM.flT
    rw [hn]
    refine app _ _ (flM_same b a.m).2.1 ⟨fun e => absurd (show (3 : Int) = 2 from e) (by omega), fun he _ => ?_⟩
    have hm : BuM.may b a.m = 0 := by
      have he' : (if BuM.may b a.m = 0 then MbM.flE (BuM.at' b.ms a.m) else BuM.may b a.m) = 0 := he
      by_cases e : BuM.may b a.m = 0
      · exact e
      · rw [if_neg e] at he'; exact absurd he' e
    exact (may_zero hm).2
  · unfold BuM.ceT; rw [hn]
    have : (BuM.ceB b).d = 4 := by unfold BuM.ceB; split <;> rfl
    exact app _ _ rfl (oth _ (by rw [this]; omega) (by rw [this]; omega))
  · unfold BuM.adT; rw [hn]
    exact app _ _ (adM_same b a.t).2.1 (oth _ (show (5 : Int) ≠ 2 by omega) (show (5 : Int) ≠ 3 by omega))
  · exact h
  · unfold BuM.rdT; rw [hn]
    have : (BuM.rdB b a.m a.i).d = 1 := by unfold BuM.rdB; split <;> rfl
    exact app _ _ rfl (oth _ (by rw [this]; omega) (by rw [this]; omega))
/-- Members of the program's that are told things, apart from all that lies in blocks of X. -/
structure Fr (B : Nat) (X : Nat → Prop) (w : World) (gs : List Nat) (Ms Is : Nat → Nat → Prop) (k : Nat) (ms : List St) : Prop where
  len : gs.length = ms.length
  mem : ∀ (i gi : Nat) (st : St), gs[i]? = some gi → ms[i]? = some st → RepM w gi (Ms i) (Is i) k st
  ok : okM ms
  ap : ∀ i j q, i < gs.length → j < gs.length → i ≠ j → Ms i q → ¬ (Ms j q ∨ Is j q)
  low : ∀ i q, i < gs.length → Ms i q → B ≤ q ∧ ¬ X q
  xlt : ∀ q, X q → q < w.heap.size
  base : B ≤ w.heap.size
section
variable {B : Nat} {X : Nat → Prop} {w w' : World} {gs : List Nat} {Ms Is : Nat → Nat → Prop} {k : Nat} {ms : List St}
theorem Fr.below (H : Fr B X w gs Ms Is k ms) (hb : Below w.heap.size w w') : Fr B X w' gs Ms Is k ms where
  len := H.len
  mem i gi st h1 h2 := MbP.memD_ok.frame (H.mem i gi st h1 h2) (Turn.of_new (S := fun _ => False) hb) fun _ _ e => e
  ok := H.ok
  ap := H.ap
  low := H.low
  xlt q e := Nat.lt_of_lt_of_le (H.xlt q e) hb.size
  base := Nat.le_trans H.base hb.size
theorem Fr.put (H : Fr B X w gs Ms Is k ms) {j gj k' : Nat} {st' : St} (hk : k ≤ k') (hj : gs[j]? = some gj) (hok : st'.ok) (ho : outP RepM w gj (Ms j) (Is j) k' st' w') :
    ∃ Ms' Is', Fr B X w' gs Ms' Is' k' (ms.set j st') ∧ Turn (fun q => B ≤ q ∧ ¬ X q) w w' := by
  obtain ⟨M', I', h1, h2, h3, h4⟩ := ho
  have hjl := (List.getElem?_eq_some_iff.1 hj).1
  have lt : ∀ i q, i < gs.length → Ms i q ∨ Is i q → q < w.heap.size := fun i q hi e =>
    MbP.memD_ok.lt (H.mem i _ _ (List.getElem?_eq_getElem hi) (List.getElem?_eq_getElem (by rw [← H.len]; exact hi))) q e
  refine ⟨fun i => if i = j then M' else Ms i, fun i => if i = j then I' else Is i, ?_, h4.mono fun q e => H.low j q hjl e⟩
  refine { len := by rw [List.length_set]; exact H.len, mem := fun i gi st e1 e2 => ?_, ok := set_ok H.ok j hok, ap := fun i l q hi hl hne e e2 => ?_, low := fun i q hi e => ?_, xlt := fun q e => Nat.lt_of_lt_of_le (H.xlt q e) h4.size, base := Nat.le_trans H.base h4.size }
  · by_cases e : i = j
    · subst e
      rw [hj] at e1
      cases e1
      rw [List.getElem?_set_self (by rw [← H.len]; exact hjl)] at e2
      cases e2
      rw [if_pos rfl, if_pos rfl]
      exact h1
    · rw [List.getElem?_set_ne (fun x => e x.symm)] at e2
      rw [if_neg e, if_neg e]
      exact MbP.memD_ok.mono (MbP.memD_ok.frame (H.mem i gi st e1 e2) h4 fun q x y => H.ap j i q hjl (List.getElem?_eq_some_iff.1 e1).1 (fun z => e z.symm) y x) hk
  · replace e : (if i = j then M' else Ms i) q := e
    replace e2 : (if l = j then M' else Ms l) q ∨ (if l = j then I' else Is l) q := e2
    by_cases c : i = j
    · rw [if_pos c] at e
      rw [if_neg (fun z => hne (c.trans z.symm)), if_neg (fun z => hne (c.trans z.symm))] at e2
      rcases h2 q e with x | x
      · exact H.ap j l q hjl hl (fun z => hne (c.trans z)) x e2
      · have := lt l q hl e2; omega
    · rw [if_neg c] at e
      by_cases d : l = j
      · rw [if_pos d, if_pos d] at e2
        have hq := lt i q hi (.inl e)
        rcases e2 with x | x
        · rcases h2 q x with y | y
          · exact H.ap i j q hi hjl c e (.inl y)
          · omega
        · rcases h3 q x with y | y | y
          · exact H.ap i j q hi hjl c e (.inl y)
          · exact H.ap i j q hi hjl c e (.inr y)
          · omega
      · rw [if_neg d, if_neg d] at e2
        exact H.ap i l q hi hl hne e e2
  · replace e : (if i = j then M' else Ms i) q := e
    by_cases c : i = j
    · rw [if_pos c] at e
      rcases h2 q e with x | x
      · exact H.low j q hjl x
      · exact ⟨Nat.le_trans H.base x, fun y => by have := H.xlt q y; omega⟩
    · rw [if_neg c] at e
      exact H.low i q hi e
end
end BuP
end Go.Proofs.Ytablkaofaedpeaa
set_option maxRecDepth 100000
namespace Go.Proofs.Ytablkaofaedpeaa
open Go.ChangeShapes Go.WideShapes Go.ChangeAt Go.RowKit Go.Deep
namespace BuP
open MbP BuM
theorem cells_st13 : Try.prog.cellsOf 67 = 70 := by kernel_rfl
theorem cells_bs13 : Try.prog.cellsOf 65 = 1 := by kernel_rfl
theorem bytes_u813 : Try.prog.bytesOf 5 = 1 := by kernel_rfl
theorem st_get (y : Stp × SlB) (j : Nat) (hj : j < 70) : (stL y)[j]? = some (if j = 0 then .int .i64 y.1.a else if j = 1 then .int .i64 y.1.kind else if j = 2 then .int .i64 y.1.m else if j = 3 then .int .i64 y.1.i else if j = 4 then .int .i64 y.1.n else if j < 69 then .int .u8 (y.1.s (j - 5) : Nat) else .slice y.2.A y.1.picks.length y.2.c) := by
  unfold stL
  rcases j with _ | _ | _ | _ | _ | j
  · rfl
  · rfl
  · rfl
  · rfl
  · rfl
  · rw [List.getElem?_cons_succ, List.getElem?_cons_succ, List.getElem?_cons_succ, List.getElem?_cons_succ, List.getElem?_cons_succ, if_neg (by omega), if_neg (by omega), if_neg (by omega), if_neg (by omega), if_neg (by omega)]
    by_cases h : j < 64
    · rw [if_pos (by omega), List.getElem?_append_left (by rw [ar64_len]; exact h), ar64, Array.getElem?_toList, get_ar h]; rfl
    · obtain rfl : j = 64 := by omega
      rw [if_neg (by omega), List.getElem?_append_right (by rw [ar64_len]; exact Nat.le_refl _), ar64_len]; rfl
section
variable {H : Type} {enc : TypeId × Value → H} {w : World} {base : Nat} {spare : Nat → Bool} {held : Bool}
theorem weightsAll_mem13 {e : TypeId} {d : DataW H} {n : Nat} : ∀ {l : List (DataW H)}, d ∈ l → n ∈ d.weights Try.prog e → n ∈ DataW.weightsAll Try.prog e l
  | [], h, _ => by cases h
  | c :: r, h, hn => by
    rw [DataW.weightsAll]
    rcases List.mem_cons.1 h with e | e
    · subst e; exact List.mem_append_left _ hn
    · exact List.mem_append_right _ (weightsAll_mem13 e hn)
theorem weightsEach_mem13 {n : Nat} : ∀ {ts : List TypeId} {l : List (DataW H)} {i : Nat} {t : TypeId} {d : DataW H}, ts[i]? = some t → l[i]? = some d → n ∈ d.weights Try.prog t → n ∈ DataW.weightsEach Try.prog ts l
  | [], _, _, _, _, h, _, _ => by simp at h
  | _ :: _, [], _, _, _, _, h, _ => by simp at h
  | t :: ts, d :: l, 0, _, _, h, h2, hn => by
    simp only [List.getElem?_cons_zero, Option.some.injEq] at h h2
    subst h; subst h2
    rw [DataW.weightsEach]
    exact List.mem_append_left _ hn
  | t :: ts, d :: l, i + 1, _, _, h, h2, hn => by
    rw [List.getElem?_cons_succ] at h h2
    rw [DataW.weightsEach]
    exact List.mem_append_right _ (weightsEach_mem13 h h2 hn)
/-- A slice of bytes weighs what it is long. -/
theorem byts_weigh13 {fuel : Nat} {A : Option Addr} {n c R : Nat} {x : DataW H × List MemPlace} (h : DataW.trod enc Try.prog w base spare held fuel 65 [.slice A n c] = some x) (hw : ∀ m ∈ x.1.weights Try.prog 65, m ≤ R) (hA : A ≠ none) : n ≤ R := by
  rcases DataW.trod_slice Try.underlying65 h with ⟨h0, _⟩ | ⟨a, len, cap, elems, rest, m, _, e1, e2, hb, hl, hm, hlen, hel, hsp, hns⟩
  · simp only [List.cons.injEq, and_true] at h0
    exact absurd (Value.slice.inj h0).1 hA
  · simp only [List.cons.injEq, and_true] at e1
    obtain ⟨_, rfl, _⟩ := Value.slice.inj e1
    have := hw ((elems.length + rest.length) * Try.prog.bytesOf 5) (by
      rw [e2, DataW.weights, Try.underlying65]
      simp)
    rw [bytes_u813] at this
    omega
/-- A step as it comes in: its picks lie in a block that stands. -/
structure StOk (w : World) (y : Stp × SlB) : Prop where
  ok : okS y.1
  arg : Arg w y.2.A y.1.picks y.1.picks.length y.2.c
  few : y.1.picks.length ≤ 140737488351232
  old : ∀ q o, 0 < y.1.picks.length → y.2.A = some ⟨q, o, none⟩ → q < w.heap.size
set_option maxRecDepth 100000 in
theorem trod_st {fuel : Nat} {cs : List Value} {x : DataW H × List MemPlace} (h : DataW.trod enc Try.prog w base spare held fuel 67 cs = some x) (hw : ∀ m ∈ x.1.weights Try.prog 67, m ≤ 140737488351232) : ∃ y : Stp × SlB, cs = stL y ∧ StOk w y := by
  obtain ⟨xs, n, _, rfl, hl, hlen, hf⟩ := DataW.trod_struct Try.underlying67 h
  rw [cells_st13] at hl
  match xs, hlen with
  | [y0, y1, y2, y3, y4, y5, y6], _ =>
    have h0 : DataW.trod enc Try.prog w base spare held n 3 ((cs.drop 0).take (Try.prog.cellsOf 3)) = some y0 := hf 0 _ rfl
    have h1 : DataW.trod enc Try.prog w base spare held n 3 ((cs.drop 1).take (Try.prog.cellsOf 3)) = some y1 := hf 1 _ rfl
    have h2 : DataW.trod enc Try.prog w base spare held n 3 ((cs.drop 2).take (Try.prog.cellsOf 3)) = some y2 := hf 2 _ rfl
    have h3 : DataW.trod enc Try.prog w base spare held n 3 ((cs.drop 3).take (Try.prog.cellsOf 3)) = some y3 := hf 3 _ rfl
    have h4 : DataW.trod enc Try.prog w base spare held n 3 ((cs.drop 4).take (Try.prog.cellsOf 3)) = some y4 := hf 4 _ rfl
    have h5 : DataW.trod enc Try.prog w base spare held n 30 ((cs.drop 5).take (Try.prog.cellsOf 30)) = some y5 := hf 5 _ rfl
    have h6 : DataW.trod enc Try.prog w base spare held n 65 ((cs.drop 69).take (Try.prog.cellsOf 65)) = some y6 := hf 6 _ rfl
    rw [cells_i13] at h0 h1 h2 h3 h4
    rw [cells_se13] at h5
    rw [cells_bs13] at h6
    obtain ⟨a0, e0, _, _⟩ := DataW.trod_int Try.underlying3 h0
    obtain ⟨a1, e1, _, _⟩ := DataW.trod_int Try.underlying3 h1
    obtain ⟨a2, e2, _, _⟩ := DataW.trod_int Try.underlying3 h2
    obtain ⟨a3, e3, _, _⟩ := DataW.trod_int Try.underlying3 h3
    obtain ⟨a4, e4, _, _⟩ := DataW.trod_int Try.underlying3 h4
    obtain ⟨f, hf5, e5⟩ := trod_ar uSe' cells_se13 h5
    obtain ⟨A, l, cap, e6, l1, l2, l3, l4, l5⟩ := trod_byts h6
    refine ⟨(⟨a0, a1, a2, a3, a4, f, l⟩, ⟨A, cap⟩), ?_, ⟨⟨hf5, fun p hp => l3 p hp⟩, ⟨rfl, l1, l2, l3, l5, l4⟩, ?_, fun q o hn e => ?_⟩⟩
    · apply List.ext_getElem?
      intro j
      have r0 := at_one13 e0
      have r1 := at_one13 e1
      have r2 := at_one13 e2
      have r3 := at_one13 e3
      have r4 := at_one13 e4
      have r6 := at_one13 e6
      by_cases hj : j < 70
      · rw [st_get _ j hj]
        by_cases c0 : j = 0
        · rw [if_pos c0, c0]; exact r0
        · rw [if_neg c0]
          by_cases c1 : j = 1
          · rw [if_pos c1, c1]; exact r1
          · rw [if_neg c1]
            by_cases c2 : j = 2
            · rw [if_pos c2, c2]; exact r2
            · rw [if_neg c2]
              by_cases c3 : j = 3
              · rw [if_pos c3, c3]; exact r3
              · rw [if_neg c3]
                by_cases c4 : j = 4
                · rw [if_pos c4, c4]; exact r4
                · rw [if_neg c4]
                  by_cases c5 : j < 69
                  · rw [if_pos c5]
                    have := at_ar13 e5 (show j - 5 < 64 by omega)
                    rwa [show 5 + (j - 5) = j by omega] at this
                  · rw [if_neg c5]
                    obtain rfl : j = 69 := by omega
                    exact r6
      · rw [List.getElem?_eq_none (by omega), List.getElem?_eq_none (by rw [stL_len]; omega)]
    · show l.length ≤ _
      cases A with
      | none => rw [(l5 rfl).1]; omega
      | some ad =>
        rw [e6] at h6
        refine byts_weigh13 h6 (fun m hm => hw m ?_) (by simp)
        rw [DataW.weights, Try.underlying67]
        exact weightsEach_mem13 (i := 6) rfl rfl hm
    · obtain ⟨b', o', e', hlt, _⟩ := l4 hn
      have e2 : A = some ⟨q, o, none⟩ := e
      rw [e2] at e'
      cases e'
      exact hlt
instance : Inhabited (Stp × SlB) := ⟨st0⟩
set_option maxRecDepth 100000 in
theorem open_steps13 {r : Reach} {b0 : Nat} {v : Value} {d : DataW H} {p : List MemPlace} (hv : Value.okWide Try.prog w r b0 26 v) (h : DataW.Trod enc Try.prog w base spare held 26 v d p) (hw : ∀ m ∈ d.weights Try.prog 26, m ≤ 140737488351232) :
    ∃ (A : Option Addr) (l : List (Stp × SlB)) (n cap : Nat), v = .slice A n cap ∧ Sli 70 stL (fun b => b < w.heap.size) w A l n cap ∧ ∀ y ∈ l, StOk w y := by
  obtain ⟨A, n, cap, rfl⟩ := okWide_slice Try.underlying26 hv
  obtain ⟨fuel, hf⟩ := h
  rcases open_slice Try.underlying26 hf with ⟨hcs, _⟩ | ⟨a, len, cap', m, fu, D, Plc, hcs, hb, hl, hm, hmm, hx, hi⟩
  · simp [Value.cells] at hcs
    obtain ⟨rfl, rfl, rfl⟩ := hcs
    exact ⟨none, [], 0, 0, rfl, Sli.nil _ _ _ _, fun a ha => by cases ha⟩
  · simp [Value.cells] at hcs
    obtain ⟨rfl, rfl, rfl⟩ := hcs
    have hnm : n ≤ m := by rw [hmm]; split <;> omega
    obtain ⟨rfl, _⟩ := Prod.mk.inj hx
    have hwD : ∀ i, i < n → ∀ k ∈ (D i).weights Try.prog 67, k ≤ 140737488351232 := fun i hin k hk => hw k (by
      rw [DataW.weights, Try.underlying26]
      refine List.mem_cons_of_mem _ (List.mem_append_left _ (weightsAll_mem13 (d := D i) ?_ hk))
      exact List.mem_map.2 ⟨i, List.mem_range.2 hin, rfl⟩)
    have one : ∀ i, i < n → ∃ y : Stp × SlB, StOk w y ∧ ∀ j, j < 70 → w.cell? (a.add (i * 70 + j)) = (stL y)[j]? := fun i hin => by
      obtain ⟨cs', hc, ht⟩ := hi i (by omega)
      have h3 := World.cells?_some hc
      rw [cells_st13] at h3
      obtain ⟨y, y1, y2⟩ := trod_st ht (hwD i hin)
      refine ⟨y, y2, fun j hj => ?_⟩
      have h6 := h3.2.2 j hj
      rw [Go.Deep.add_add, y1] at h6
      exact h6
    obtain ⟨F, hF⟩ := choose_lt one
    have hg : ∀ i, ((List.range n).map F)[i]? = if i < n then some (F i) else none := fun i => by
      by_cases hi : i < n
      · rw [if_pos hi, List.getElem?_map, List.getElem?_range hi]; rfl
      · rw [if_neg hi, List.getElem?_eq_none (by simp; omega)]
    refine ⟨some a, (List.range n).map F, n, cap, rfl, ⟨by simp, hl, hm, (fun h => by cases h), fun hn => ?_⟩, fun x hx => ?_⟩
    · have hn' : 0 < n := by simpa using hn
      obtain ⟨_, h0⟩ := hF 0 hn'
      have h00 := h0 0 (by omega)
      have e00 : (stL (F 0))[0]? = some (.int .i64 (F 0).1.a) := rfl
      rw [e00] at h00
      have hsp : a.spot = none := by
        simp only [Nat.zero_mul, Nat.zero_add, Addr.add, if_true] at h00
        unfold World.cell? at h00
        split at h00
        · cases hs : a.spot with
          | none => rfl
          | some s => simp [hs] at h00
        · cases h00
      have hblk : a.block < w.heap.size := by
        have := World.block_lt_of_cell? w _ h00
        simpa [Addr.add] using this
      obtain ⟨b, o, sp⟩ := a
      subst hsp
      refine ⟨b, o, rfl, hblk, hblk, fun i x hi2 j u hj => ?_⟩
      rw [hg] at hi2
      split at hi2
      · rename_i hin
        obtain rfl := Option.some.inj hi2
        have hjl : j < 70 := by have := (List.getElem?_eq_some_iff.1 hj).1; rwa [stL_len] at this
        have := (hF i hin).2 j hjl
        rw [Addr.add_mid, hj] at this
        rwa [show o + (i * 70 + j) = o + i * 70 + j by omega] at this
      · cases hi2
    · obtain ⟨i, hi, rfl⟩ := List.mem_map.1 hx
      exact (hF i (List.mem_range.1 hi)).1
end
end BuP
end Go.Proofs.Ytablkaofaedpeaa
set_option maxRecDepth 100000
namespace Go.Proofs.Ytablkaofaedpeaa
open Go.ChangeShapes Go.WideShapes Go.ChangeAt Go.RowKit
attribute [local go_sem] Gives GivesE
namespace BuP
open BuM MbM MbP
/-- A bus beside members alone, all from W's size on; blocks of V are as they were in w0. -/
structure Qu (repB : RepB) (W w0 : World) (V : Nat → Prop) (w : World) (g : Nat) (F : Fq) (k : Nat) (b : Bs) (al : List Nat) (Ms Is : Nat → Nat → Prop) (k2 : Nat) (ms : List St) : Prop where
  pp : Pp repB w g F k b
  len : al.length = ms.length
  mem : ∀ (i gi : Nat) (st : St), al[i]? = some gi → ms[i]? = some st → RepM w gi (Ms i) (Is i) k2 st
  ok : okM ms
  ap : ∀ i j q, i < al.length → j < al.length → i ≠ j → Ms i q → ¬ (Ms j q ∨ Is j q)
  d1 : ∀ q, mutP F q → ∀ i, i < al.length → ¬ (Ms i q ∨ Is i q)
  d2 : ∀ i q, i < al.length → Ms i q → ¬ rdP F q
  lowP : ∀ q, mutP F q → W.heap.size ≤ q ∧ ¬ V q
  lowM : ∀ i q, i < al.length → Ms i q → W.heap.size ≤ q ∧ ¬ V q
  vl : ∀ q, V q → q < w.heap.size
  kp : ∀ q, V q → w.heap[q]? = w0.heap[q]?
  bel : Below W.heap.size W w
section
variable {repB : RepB} {W w0 w w' : World} {V V2 : Nat → Prop} {g k k' k2 : Nat} {F : Fq} {b b' : Bs} {al : List Nat} {Ms Is : Nat → Nat → Prop} {ms : List St}
theorem Qu.lt (H : Qu repB W w0 V w g F k b al Ms Is k2 ms) : ∀ i q, i < al.length → Ms i q ∨ Is i q → q < w.heap.size := fun i q hi e =>
  MbP.memD_ok.lt (H.mem i _ _ (List.getElem?_eq_getElem hi) (List.getElem?_eq_getElem (by rw [← H.len]; exact hi))) q e
theorem Qu.below (hC : BusC repB) (H : Qu repB W w0 V w g F k b al Ms Is k2 ms) (hb : Below w.heap.size w w') : Qu repB W w0 V w' g F k b al Ms Is k2 ms where
  pp := H.pp.below hC hb
  len := H.len
  mem i gi st h1 h2 := MbP.memD_ok.frame (H.mem i gi st h1 h2) (Turn.of_new (S := fun _ => False) hb) fun _ _ e => e
  ok := H.ok
  ap := H.ap
  d1 := H.d1
  d2 := H.d2
  lowP := H.lowP
  lowM := H.lowM
  vl q e := Nat.lt_of_lt_of_le (H.vl q e) hb.size
  kp q e := (hb.block q (H.vl q e)).trans (H.kp q e)
  bel := H.bel.trans (hb.mono H.bel.size)
/-- From now on blocks of V2 stay. -/
theorem Qu.base (H : Qu repB W w0 V w g F k b al Ms Is k2 ms) (hV : ∀ q, V2 q → q < w.heap.size ∧ ¬ mutP F q ∧ ∀ i, i < al.length → ¬ Ms i q) : Qu repB W w V2 w g F k b al Ms Is k2 ms where
  pp := H.pp
  len := H.len
  mem := H.mem
  ok := H.ok
  ap := H.ap
  d1 := H.d1
  d2 := H.d2
  lowP q e := ⟨(H.lowP q e).1, fun x => (hV q x).2.1 e⟩
  lowM i q hi e := ⟨(H.lowM i q hi e).1, fun x => (hV q x).2.2 i hi e⟩
  vl q e := (hV q e).1
  kp _ _ := rfl
  bel := H.bel
theorem Qu.mono (H : Qu repB W w0 V w g F k b al Ms Is k2 ms) {k3 : Nat} (h1 : k ≤ k') (h2 : k2 ≤ k3) : Qu repB W w0 V w g F k' b al Ms Is k3 ms where
  pp := H.pp.mono h1
  len := H.len
  mem i gi st e1 e2 := MbP.memD_ok.mono (H.mem i gi st e1 e2) h2
  ok := H.ok
  ap := H.ap
  d1 := H.d1
  d2 := H.d2
  lowP := H.lowP
  lowM := H.lowM
  vl := H.vl
  kp := H.kp
  bel := H.bel
/-- The bus is told something. -/
theorem Qu.bus (H : Qu repB W w0 V w g F k b al Ms Is k2 ms) (ho : outQ repB w g F k' b' w') : ∃ F', F'.gs = F.gs ∧ Qu repB W w0 V w' g F' k' b' al Ms Is k2 ms := by
  obtain ⟨F', h1, h2, _, h4, h5, h6⟩ := ho
  have hW := H.bel.size
  refine ⟨F', h2, { pp := h1, len := H.len, mem := fun i gi st e1 e2 => ?_, ok := H.ok, ap := H.ap, d1 := fun q e i hi x => ?_, d2 := fun i q hi e x => ?_, lowP := fun q e => ?_, lowM := H.lowM, vl := fun q e => Nat.lt_of_lt_of_le (H.vl q e) h6.size, kp := fun q e => ?_, bel := H.bel.trans (h6.below hW fun q e => (H.lowP q e).1) }⟩
  · exact MbP.memD_ok.frame (H.mem i gi st e1 e2) h6 fun q x e => H.d1 q e i (List.getElem?_eq_some_iff.1 e1).1 x
  · rcases h4 q e with y | y
    · exact H.d1 q y i hi x
    · have := H.lt i q hi x; omega
  · rcases h5 q x with y | y | y
    · exact H.d1 q y i hi (.inl e)
    · exact H.d2 i q hi e y
    · have := H.lt i q hi (.inl e); omega
  · rcases h4 q e with y | y
    · exact H.lowP q y
    · exact ⟨Nat.le_trans hW y, fun x => by have := H.vl q x; omega⟩
  · exact (h6.block q (H.vl q e) fun x => (H.lowP q x).2 e).trans (H.kp q e)
/-- One of the members alone is told something. -/
theorem Qu.alone (hC : BusC repB) (H : Qu repB W w0 V w g F k b al Ms Is k2 ms) {j gj k3 : Nat} {st' : St} (hk : k2 ≤ k3) (hj : al[j]? = some gj) (hok : st'.ok) (ho : outP RepM w gj (Ms j) (Is j) k3 st' w') :
    ∃ Ms' Is', Qu repB W w0 V w' g F k b al Ms' Is' k3 (ms.set j st') := by
  obtain ⟨M', I', h1, h2, h3, h4⟩ := ho
  have hjl := (List.getElem?_eq_some_iff.1 hj).1
  have hW := H.bel.size
  refine ⟨fun i => if i = j then M' else Ms i, fun i => if i = j then I' else Is i, ?_⟩
  refine { pp := H.pp.turn hC h4 fun q e x => ?_, len := by rw [List.length_set]; exact H.len, mem := fun i gi st e1 e2 => ?_, ok := set_ok H.ok j hok, ap := fun i l q hi hl hne e e2 => ?_, d1 := fun q e i hi x => ?_, d2 := fun i q hi e x => ?_, lowP := H.lowP, lowM := fun i q hi e => ?_, vl := fun q e => Nat.lt_of_lt_of_le (H.vl q e) h4.size, kp := fun q e => ?_, bel := H.bel.trans (h4.below hW fun q e => (H.lowM j q hjl e).1) }
  · rcases e with e | e
    · exact H.d1 q e j hjl (.inl x)
    · exact H.d2 j q hjl x e
  · by_cases e : i = j
    · subst e
      rw [hj] at e1
      cases e1
      rw [List.getElem?_set_self (by rw [← H.len]; exact hjl)] at e2
      cases e2
      rw [if_pos rfl, if_pos rfl]
      exact h1
    · rw [List.getElem?_set_ne (fun x => e x.symm)] at e2
      rw [if_neg e, if_neg e]
      exact MbP.memD_ok.mono (MbP.memD_ok.frame (H.mem i gi st e1 e2) h4 fun q x y => H.ap j i q hjl (List.getElem?_eq_some_iff.1 e1).1 (fun z => e z.symm) y x) hk
  · replace e : (if i = j then M' else Ms i) q := e
    replace e2 : (if l = j then M' else Ms l) q ∨ (if l = j then I' else Is l) q := e2
    by_cases c : i = j
    · rw [if_pos c] at e
      rw [if_neg (fun z => hne (c.trans z.symm)), if_neg (fun z => hne (c.trans z.symm))] at e2
      rcases h2 q e with x | x
      · exact H.ap j l q hjl hl (fun z => hne (c.trans z)) x e2
      · have := H.lt l q hl e2; omega
    · rw [if_neg c] at e
      by_cases d : l = j
      · rw [if_pos d, if_pos d] at e2
        have hq := H.lt i q hi (.inl e)
        rcases e2 with x | x
        · rcases h2 q x with y | y
          · exact H.ap i j q hi hjl c e (.inl y)
          · omega
        · rcases h3 q x with y | y | y
          · exact H.ap i j q hi hjl c e (.inl y)
          · exact H.ap i j q hi hjl c e (.inr y)
          · omega
      · rw [if_neg d, if_neg d] at e2
        exact H.ap i l q hi hl hne e e2
  · replace x : (if i = j then M' else Ms i) q ∨ (if i = j then I' else Is i) q := x
    have hq := H.pp.mlt q e
    by_cases c : i = j
    · rw [if_pos c, if_pos c] at x
      rcases x with x | x
      · rcases h2 q x with y | y
        · exact H.d1 q e j hjl (.inl y)
        · omega
      · rcases h3 q x with y | y | y
        · exact H.d1 q e j hjl (.inl y)
        · exact H.d1 q e j hjl (.inr y)
        · omega
    · rw [if_neg c, if_neg c] at x
      exact H.d1 q e i hi x
  · replace e : (if i = j then M' else Ms i) q := e
    by_cases c : i = j
    · rw [if_pos c] at e
      rcases h2 q e with y | y
      · exact H.d2 j q hjl y x
      · have := H.pp.ilt q x; omega
    · rw [if_neg c] at e
      exact H.d2 i q hi e x
  · replace e : (if i = j then M' else Ms i) q := e
    by_cases c : i = j
    · rw [if_pos c] at e
      rcases h2 q e with y | y
      · exact H.lowM j q hjl y
      · exact ⟨Nat.le_trans hW y, fun z => by have := H.vl q z; omega⟩
    · rw [if_neg c] at e
      exact H.lowM i q hi e
  · exact (h4.block q (H.vl q e) fun x => (H.lowM j q hjl x).2 e).trans (H.kp q e)
theorem Qu.blk {t : TypeId} {cs : Array Value} {q : Nat} (H : Qu repB W w0 V w g F k b al Ms Is k2 ms) (hb : Blk w0 q t cs) (hq : V q) : Blk w q t cs := (H.kp q hq).trans hb
theorem Qu.cell {p : Addr} {v : Value} (H : Qu repB W w0 V w g F k b al Ms Is k2 ms) (hc : w0.cell? p = some v) (hq : V p.block) : w.cell? p = some v := (World.cell?_of_block (H.kp p.block hq)).trans hc
end
/-! What a bus of members in order, whose steps are not yet, does. -/
structure Calm (b : Bs) (ms : List St) (i : Nat) : Prop where
  far : ∀ s ∈ b.steps, (1000 : Int) ≤ s.a
  few : b.steps.length ≤ 30
  off : b.off = false
  bm : b.ms = ms
  two : ms.length = 2
  log : b.log.length ≤ i
  hurt : ∀ st ∈ ms, st.hurt = false
section
variable {b : Bs} {ms : List St} {i : Nat}
theorem Calm.ahead (H : Calm b ms i) (hi : i ≤ 60) : BuM.ahead b = b := ahead_none fun s hs e => by
  have := H.far s hs
  have := H.log
  omega
theorem Calm.may (H : Calm b ms i) {m : Nat} (hm : m < 2) : BuM.may b (m : Int) = 0 := by
  unfold BuM.may
  rw [if_neg (by rw [H.off]; decide), if_pos]
  unfold BuM.mem
  rw [decide_eq_true_eq, H.bm, H.two]
  omega
theorem Calm.at' (H : Calm b ms i) {m : Nat} {st : St} (hs : ms[m]? = some st) : BuM.at' b.ms (m : Int) = st := by
  unfold BuM.at'
  rw [H.bm, Int.toNat_natCast, List.getD_eq_getElem?_getD, hs]; rfl
theorem wr_hurt (st : St) (i : Int) (x : Nat → Nat) : (MbM.wrT st i x).hurt = st.hurt := by
  unfold MbM.wrT
  split
  · split <;> rfl
  · rfl
theorem fl_hurt (st : St) : (MbM.flT st).hurt = st.hurt := by
  unfold MbM.flT
  split <;> rfl
theorem hurt_set {l : List St} {m : Nat} {st : St} (h : ∀ s ∈ l, s.hurt = false) (hs : st.hurt = false) : ∀ s ∈ l.set m st, s.hurt = false := fun s hm => by
  rcases List.mem_or_eq_of_mem_set hm with e | rfl
  · exact h s e
  · exact hs
theorem Calm.rd (H : Calm b ms i) (hi : i ≤ 60) {m : Nat} {st : St} (hs : ms[m]? = some st) (hm : m < 2) (j : Int) : (BuM.rdB (BuM.ahead b) (m : Int) j).s = rdS st j ∧ (BuM.rdB (BuM.ahead b) (m : Int) j).e = rdE st j ∧ Calm (BuM.rdT b (m : Int) j) ms (i + 1) := by
  have h0 := H.ahead hi
  have h1 : BuM.rdB (BuM.ahead b) (m : Int) j = ⟨1, m, j, rdS st j, rdE st j⟩ := by
    rw [h0]
    unfold BuM.rdB
    rw [if_pos (H.may hm), H.at' hs]
  refine ⟨by rw [h1], by rw [h1], ?_⟩
  unfold BuM.rdT
  rw [h0] at h1 ⊢
  exact ⟨H.far, H.few, H.off, H.bm, H.two, by show (b.log ++ [_]).length ≤ i + 1; rw [List.length_append, List.length_cons, List.length_nil]; have := H.log; omega, H.hurt⟩
theorem Calm.wr (H : Calm b ms i) (hi : i ≤ 60) {m : Nat} {st : St} (hs : ms[m]? = some st) (hm : m < 2) (j : Int) (x : Nat → Nat) : (BuM.wrB (BuM.ahead b) (m : Int) j x).e = rdE st j ∧ Calm (BuM.wrT b (m : Int) j x) (ms.set m (MbM.wrT st j x)) (i + 1) := by
  have h0 := H.ahead hi
  refine ⟨?_, ?_⟩
  · rw [h0]
    unfold BuM.wrB
    show (if BuM.may b m = 0 then _ else _) = _
    rw [if_pos (H.may hm), H.at' hs]
  · have h2 : BuM.wrM b (m : Int) j x = { b with ms := ms.set m (MbM.wrT st j x) } := by
      unfold BuM.wrM BuM.upd
      rw [if_pos (H.may hm), H.at' hs, H.bm, Int.toNat_natCast]
    unfold BuM.wrT
    rw [h0, h2]
    exact ⟨H.far, H.few, H.off, rfl, by rw [List.length_set]; exact H.two, by show (b.log ++ [_]).length ≤ i + 1; rw [List.length_append, List.length_cons, List.length_nil]; have := H.log; omega, hurt_set H.hurt (by rw [wr_hurt]; exact H.hurt st (List.mem_of_getElem? hs))⟩
theorem Calm.fl (H : Calm b ms i) (hi : i ≤ 60) {m : Nat} {st : St} (hs : ms[m]? = some st) (hm : m < 2) : (BuM.flB (BuM.ahead b) (m : Int)).e = MbM.flE st ∧ Calm (BuM.flT b (m : Int)) (ms.set m (MbM.flT st)) (i + 1) := by
  have h0 := H.ahead hi
  refine ⟨?_, ?_⟩
  · rw [h0]
    unfold BuM.flB
    show (if BuM.may b m = 0 then _ else _) = _
    rw [if_pos (H.may hm), H.at' hs]
  · have h2 : BuM.flM b (m : Int) = { b with ms := ms.set m (MbM.flT st) } := by
      unfold BuM.flM BuM.upd
      rw [if_pos (H.may hm), H.at' hs, H.bm, Int.toNat_natCast]
    unfold BuM.flT
    rw [h0, h2]
    exact ⟨H.far, H.few, H.off, rfl, by rw [List.length_set]; exact H.two, by show (b.log ++ [_]).length ≤ i + 1; rw [List.length_append, List.length_cons, List.length_nil]; have := H.log; omega, hurt_set H.hurt (by rw [fl_hurt]; exact H.hurt st (List.mem_of_getElem? hs))⟩
theorem Calm.more (H : Calm b ms i) : Calm b ms (i + 1) := ⟨H.far, H.few, H.off, H.bm, H.two, Nat.le_succ_of_le H.log, H.hurt⟩
end
end BuP
end Go.Proofs.Ytablkaofaedpeaa
set_option maxRecDepth 100000
namespace Go.Proofs.Ytablkaofaedpeaa
open Go.ChangeShapes Go.WideShapes Go.ChangeAt Go.RowKit
attribute [local go_sem] Gives GivesE
namespace BuP
open BuM MbM MbP
def setA (y : Stp × SlB) (a : Int) : Stp × SlB := ({ y.1 with a := a }, y.2)
/-- One cell of an element is set. -/
theorem sli_setA {w : World} {b o n cap i : Nat} {L : List (Stp × SlB)} {S : Nat → Prop} (h : Sli 70 stL S w (some ⟨b, o, none⟩) L n cap) {y : Stp × SlB} (hy : L[i]? = some y) (a : Int) : Sli 70 stL S (w.setCell ⟨b, o + i * 70, none⟩ (.int .i64 a)) (some ⟨b, o, none⟩) (L.set i (setA y a)) n cap := by
  have hil := (List.getElem?_eq_some_iff.1 hy).1
  refine ⟨by rw [List.length_set]; exact h.len, h.cap, h.max, h.none, fun hn => ?_⟩
  rw [List.length_set] at hn
  obtain ⟨b', o', e, hS, hl, hr⟩ := h.lst hn
  cases e
  refine ⟨b, o, rfl, hS, by simpa using hl, fun j x hj => ?_⟩
  by_cases e : i = j
  · subst e
    rw [List.getElem?_set_self hil] at hj
    cases hj
    have h0 := hr i y hy
    intro t v ht
    have htl := (List.getElem?_eq_some_iff.1 ht).1
    rcases t with _ | t
    · have h1 : w.cell? ⟨b, o + i * 70, none⟩ = some (.int .i64 y.1.a) := h0 0 _ rfl
      have h2 : some (.int .i64 a) = some v := ht
      rw [← h2]
      exact World.cell?_setCell_same w _ _ h1
    · have h1 := h0 (t + 1) v ht
      rw [World.cell?_setCell_other w _ _ _ (fun e => by have := congrArg Addr.off e; simp at this)]
      exact h1
  · rw [List.getElem?_set_ne e] at hj
    have h0 := hr j x hj
    intro t v ht
    have htl := (List.getElem?_eq_some_iff.1 ht).1
    rw [stL_len] at htl
    rw [World.cell?_setCell_other w _ _ _ (fun e => by
      have := congrArg Addr.off e
      simp at this
      rcases Nat.lt_or_gt_of_ne (show i ≠ j by assumption) with h | h
      · have : (i + 1) * 70 ≤ j * 70 := Nat.mul_le_mul_right 70 h
        omega
      · have : (j + 1) * 70 ≤ i * 70 := Nat.mul_le_mul_right 70 h
        omega)]
    exact h0 t v ht
/-- As the steps that came in, but that the first i come late. -/
def LateL (L L' : List (Stp × SlB)) (i : Nat) : Prop := L'.length = L.length ∧ ∀ j y', L'[j]? = some y' → ∃ y, L[j]? = some y ∧ (y' = y ∨ ∃ a, y' = setA y a) ∧ (j < i → (1000 : Int) ≤ y'.1.a)
theorem LateL.refl (L : List (Stp × SlB)) : LateL L L 0 := ⟨rfl, fun j y h => ⟨y, h, .inl rfl, fun h => absurd h (Nat.not_lt_zero j)⟩⟩
theorem LateL.step {L L' : List (Stp × SlB)} {i : Nat} (h : LateL L L' i) {y' : Stp × SlB} (hy : L'[i]? = some y') {a : Int} (ha : (1000 : Int) ≤ a) : LateL L (L'.set i (setA y' a)) (i + 1) := by
  refine ⟨by rw [List.length_set]; exact h.1, fun j z hz => ?_⟩
  by_cases e : i = j
  · subst e
    rw [List.getElem?_set_self (List.getElem?_eq_some_iff.1 hy).1] at hz
    cases hz
    obtain ⟨y, h1, h2, _⟩ := h.2 i y' hy
    refine ⟨y, h1, .inr ⟨a, ?_⟩, fun _ => ha⟩
    rcases h2 with rfl | ⟨a', rfl⟩ <;> rfl
  · rw [List.getElem?_set_ne e] at hz
    obtain ⟨y, h1, h2, h3⟩ := h.2 j z hz
    exact ⟨y, h1, h2, fun hj => h3 (by omega)⟩
theorem zip_maps : ∀ L : List (Stp × SlB), (L.map (·.1)).zip (L.map (·.2)) = L
  | [] => rfl
  | y :: L => by rw [List.map_cons, List.map_cons, List.zip_cons_cons, zip_maps L]
def ab0 : ActB := ⟨0, 0, 0, fun _ => 0, fun _ => 0⟩
theorem zAb (w : World) : (zeroValue 70).run Try.prog w = .ok (.agg (abL ab0).toArray) w := (zero_of_info (P := Try.prog) (t := 70) (v := .agg (abL ab0).toArray) (n := 99) (by kernel_rfl)).1 w
theorem abL_size (a b : ActB) : (abL a).toArray.size = (abL b).toArray.size := by rw [List.size_toArray, List.size_toArray, abL_len, abL_len]
theorem abL_one (a : ActB) : (abL a).toArray.all (·.oneCell') = true := by
  rw [Array.all_eq_true_iff_forall_mem]
  intro u hu
  have hu' : u ∈ abL a := by simpa using hu
  unfold abL at hu'
  simp only [List.mem_cons, List.mem_append] at hu'
  rcases hu' with rfl | rfl | rfl | hu' | hu'
  · rfl
  · rfl
  · rfl
  · exact ar64_one _ u hu'
  · exact Array.all_eq_true_iff_forall_mem.1 (row_one (n := 32) (f := fun j => Value.int .u8 (a.t j : Nat)) fun _ _ => rfl) u (by simpa [ar] using hu')
/-- A write over the bus, and one of the member alone, in whatever order. -/
structure QW (repB : RepB) (W w0 : World) (V : Nat → Prop) (g : Nat) (gs : List Nat) (k k' : Nat) (b b' : Bs) (al : List Nat) (k2 : Nat) (ms ms' : List St) (d7 d13 : Bool) (w : World) : Prop where
  q : ∃ F Ms Is, F.gs = gs ∧ Qu repB W w0 V w g F (if d7 then k' else k) (if d7 then b' else b) al Ms Is (if d13 then k2 + 1 else k2) (if d13 then ms' else ms)
section
variable {repB : RepB} {W w0 w : World} {V : Nat → Prop} {g k k' k2 : Nat} {gs : List Nat} {b b' : Bs} {al : List Nat} {ms ms' : List St} {d7 d13 : Bool} {f : FuncId} {args : Array Value} {v : Value}
theorem QW.bus (H : QW repB W w0 V g gs k k' b b' al k2 ms ms' false d13 w) (hcall : ∀ F, Pp repB w g F k b → Calls Try.prog f args w fun e w' => e = .returned v ∧ outQ repB w g F k' b' w') : Calls Try.prog f args w fun e w' => e = .returned v ∧ QW repB W w0 V g gs k k' b b' al k2 ms ms' true d13 w' := by
  obtain ⟨F, Ms, Is, e1, hq⟩ := H.q
  refine (hcall F hq.pp).mono ?_
  rintro e w' ⟨he, ho⟩
  obtain ⟨F', e2, hq'⟩ := Qu.bus hq ho
  exact ⟨he, ⟨F', Ms, Is, e2.trans e1, hq'⟩⟩
theorem QW.told (hC : BusC repB) {j gj : Nat} {st st' : St} (H : QW repB W w0 V g gs k k' b b' al k2 ms (ms.set j st') d7 false w) (hj : al[j]? = some gj) (hst : ms[j]? = some st) (hok : st'.ok) (hcall : ∀ M I, RepM w gj M I k2 st → Calls Try.prog f args w fun e w' => e = .returned v ∧ outP RepM w gj M I (k2 + 1) st' w') : Calls Try.prog f args w fun e w' => e = .returned v ∧ QW repB W w0 V g gs k k' b b' al k2 ms (ms.set j st') d7 true w' := by
  obtain ⟨F, Ms, Is, e1, hq⟩ := H.q
  refine (hcall _ _ (hq.mem j gj st hj hst)).mono ?_
  rintro e w' ⟨he, ho⟩
  obtain ⟨Ms', Is', hq'⟩ := Qu.alone hC hq (Nat.le_succ k2) hj hok ho
  exact ⟨he, ⟨F, Ms', Is', e1, hq'⟩⟩
theorem QW.blk {q : Nat} {t : TypeId} {cs : Array Value} (H : QW repB W w0 V g gs k k' b b' al k2 ms ms' d7 d13 w) (hb : Blk w0 q t cs) (hq : V q) : Blk w q t cs := by
  obtain ⟨F, Ms, Is, e1, h⟩ := H.q
  exact h.blk hb hq
theorem QW.drew (hC : BusC repB) (H : QW repB W w0 V g gs k k' b b' al k2 ms ms' d7 d13 w) : QW repB W w0 V g gs k k' b b' al k2 ms ms' d7 d13 w.drew := by
  obtain ⟨F, Ms, Is, e1, h⟩ := H.q
  exact ⟨F, Ms, Is, e1, h.below hC (Below.refl _ _).drew⟩
end
set_option maxHeartbeats 8000000 in
set_option maxRecDepth 100000 in
theorem quiet_law {repB : RepB} (hC : BusC repB) {W : World} {A1 A2 : Option Addr} {L : List (Stp × SlB)} {la : List ActB} {n1 c1 n2 c2 : Nat} (h1 : Sli 70 stL (fun b => b < W.heap.size) W A1 L n1 c1) (h2 : Sli 99 abL (fun b => b < W.heap.size) W A2 la n2 c2) (b1 : ∀ y ∈ L, StOk W y) (b2 : ∀ a ∈ la, ∀ j, a.s j < 256) :
    Calls Try.prog 4 #[.slice A1 n1 c1, .slice A2 n2 c2] W fun e w' => e = .returned (.bool true) ∧ Below W.heap.size W w' := by
  have L1 := hid h1
  have L2 := hid h2
  have K1 := hid b1
  have K2 := hid b2
  have hl1 := h1.len
  have hl2 := h2.len
  clear h1 h2 b1 b2
  go_enter Try.func4, Try.ntmps4
  by_cases x1 : 30 < n1 ∨ 60 < n2
  · by_cases x2 : 30 < n1
    · have t1 : decide (30 < n1) = true := by simp; omega
      clear x1
      go_wp2_with fail
      refine (awake_any hC W).mono ?_
      rintro e w2 ⟨rfl, h2⟩
      go_wp2_with fail
      go_ret
      exact ⟨rfl, h2⟩
    · have t1 : decide (30 < n1) = false := by simp; omega
      have t2 : decide (60 < n2) = true := by simp; omega
      have t2' : 60 < n2 := by omega
      clear x1
      go_wp2_with fail
      refine (awake_any hC W).mono ?_
      rintro e w2 ⟨rfl, h2⟩
      go_wp2_with fail
      go_ret
      exact ⟨rfl, h2⟩
  · have t1 : decide (30 < n1) = false := by simp; omega
    have t2 : decide (60 < n2) = false := by simp; omega
    have u1 : n1 ≤ 30 := by omega
    have u2 : n2 ≤ 60 := by omega
    clear x1
    go_wp2_with (at_builtin; (with_reducible apply wappX eltStP undStP (B := W.heap.size)); rfl; rfl; exact OwnX.empty (Nat.le_refl _); exact L1.out.turn (Turn.alloc (S := fun _ => False) W _) (fun _ _ _ e => e); (simp; omega); omega; (simp); intro v3 w3 o3 g3)
    rw [List.nil_append] at o3
    have B3 := hid (show Below W.heap.size W w3 from ((Below.refl _ _).alloc (Nat.le_refl _) _).trans ((Turn.of_grown (S := fun b => W.heap.size ≤ b) g3 fun b e => by cases e; simp).below (by simp) fun _ h => h))
    obtain ⟨Av, cv, rfl, sv⟩ := o3.sli stL_len
    have S3 := hid sv
    have O3 := hid (show ∀ b o, Av = some ⟨b, o, none⟩ → ∃ cur, Blk w3 b 67 cur from fun b o e => o3.obj (by rw [e]; rfl))
    clear sv o3 g3 t1 t2
    rw [hl1] at S3 ⊢
    go_loopw [6] (fun u6 wr => ∃ (i : Nat) (L' : List (Stp × SlB)), u6 = .int .i64 i ∧ i ≤ n1 ∧ Hid (LateL L L' i) ∧ Hid (Sli 70 stL (fun b => W.heap.size ≤ b) wr Av L' n1 cv) ∧ Hid (∀ b o, Av = some ⟨b, o, none⟩ → ∃ cur, Blk wr b 67 cur) ∧ Hid (Below W.heap.size W wr)) (fun u6 _ => n1 - (intOf u6).toNat)
    case atStart => exact ⟨0, L, rfl, Nat.zero_le _, hid (LateL.refl L), S3, O3, B3⟩
    case round =>
      clear S3 O3 B3
      obtain ⟨i, L', rfl, hi, HLt, HS, HO, HB⟩ := hrel
      by_cases hin : i < n1
      · have t1 : (i : Int) < (n1 : Int) := by omega
        obtain ⟨y', hy'⟩ : ∃ y, L'[i]? = some y := ⟨_, List.getElem?_eq_getElem (by rw [HLt.out.1, hl1]; exact hin)⟩
        obtain ⟨b, o, rfl, hbW, hbl, hr⟩ := HS.out.some hy'
        obtain ⟨cur, hcur⟩ := HO.out b o rfl
        have fz := hcur.frozen (o + i * 70)
        have qa : wr.cell? ⟨b, o + i * 70, none⟩ = some (.int .i64 y'.1.a) := st_a hr
        have LT2 := hid (HLt.out.step hy' (a := 1000 + (i : Int)) (by omega))
        have SS2 := hid (sli_setA HS.out hy' (1000 + (i : Int)))
        have OO2 := hid (show ∀ b' o', (some (⟨b, o, none⟩ : Addr)) = some ⟨b', o', none⟩ → ∃ cur, Blk (wr.setCell ⟨b, o + i * 70, none⟩ (.int .i64 (1000 + (i : Int)))) b' 67 cur from fun b' o' e => by
          cases e
          exact ⟨_, hcur.setCell_same _ _⟩)
        have BB2 := hid (HB.out.setCell (p := ⟨b, o + i * 70, none⟩) hbW (.int .i64 (1000 + (i : Int))))
        have tw : IntKind.i64.wrap (1000 + (i : Int)) = 1000 + (i : Int) := IntWalk.i64_in _ (by omega)
        clear hy' hr hcur HLt HS HO HB
        go_wp2_with fail
        go_roundw
        case rel => exact ⟨i + 1, L'.set i (setA y' (1000 + (i : Int))), by go_num, by omega, LT2, SS2, OO2, BB2⟩
        case measure => simp [intOf] <;> omega
      · have t1 : decide ((i : Int) < (n1 : Int)) = false := by simp; omega
        obtain rfl : i = n1 := by omega
        obtain ⟨wo, hwo⟩ : ∃ x, x = wr := ⟨_, rfl⟩
        subst hwo
        have hz := zip_maps L'
        have hl' : L'.length = i := HLt.out.1.trans hl1
        have key := hid (show ∀ y' ∈ L', Arg wo y'.2.A y'.1.picks y'.1.picks.length y'.2.c ∧ y'.1.picks.length ≤ 140737488351232 ∧ okS y'.1 ∧ (1000 : Int) ≤ y'.1.a ∧ ∀ q o, 0 < y'.1.picks.length → y'.2.A = some ⟨q, o, none⟩ → q < W.heap.size from fun y' hy => by
          obtain ⟨j, hj⟩ := List.mem_iff_getElem?.1 hy
          have hjl := (List.getElem?_eq_some_iff.1 hj).1
          obtain ⟨y, e1, e2, e3⟩ := HLt.out.2 j y' hj
          have k1 := K1.out y (List.mem_of_getElem? e1)
          have e5 : y'.1.picks = y.1.picks ∧ y'.2 = y.2 ∧ y'.1.s = y.1.s := by
            rcases e2 with rfl | ⟨a, rfl⟩
            · exact ⟨rfl, rfl, rfl⟩
            · exact ⟨rfl, rfl, rfl⟩
          obtain ⟨p1, p2, p3⟩ := e5
          refine ⟨?_, by rw [p1]; exact k1.few, ⟨by rw [p3]; exact k1.ok.1, by rw [p1]; exact k1.ok.2⟩, e3 (by omega), by rw [p1, p2]; exact k1.old⟩
          rw [p1, p2]
          exact k1.arg.turn (Turn.of_below HB.out) fun q o h1 h2 e => by have := k1.old q o h1 h2; omega)
        have SZ := hid (show Sli 70 stL (fun b => W.heap.size ≤ b) wo Av ((L'.map (·.1)).zip (L'.map (·.2))) i cv by rw [hz]; exact HS.out)
        have HZ := hid hz
        have BW := hid HB.out
        have hsW := hid HB.out.size
        have HL' := hid hl'
        clear HLt HS HO HB hz hl'
        go_wp2_with fail
        refine (two_any hC (w := wo) (Sp := fun q => q < W.heap.size) SZ.out (by rw [List.length_map, List.length_map]) (by omega) (fun s x hx => ?_) (fun q e => Nat.lt_of_lt_of_le e hsW.out)).mono ?_
        · rw [HZ.out] at hx
          obtain ⟨k1, k2, k3, _, k5⟩ := key.out (s, x) hx
          exact ⟨k1, k2, k3, k5⟩
        rintro e w4 ⟨g, m1, m2, F, rfl, hP, hgs, hm, hr, h4⟩
        have CA := hid (show Calm (two (L'.map (·.1))) [made 4, made 4] 0 from ⟨fun s hs => by
          obtain ⟨y', hy, rfl⟩ := List.mem_map.1 hs
          exact (key.out y' hy).2.2.2.1, by show (L'.map (·.1)).length ≤ 30; rw [List.length_map, HL'.out]; exact u1, rfl, rfl, rfl, Nat.zero_le _, fun st hst => by
          have : st = made 4 := by simpa using hst
          rw [this]; rfl⟩)
        have PP := hid hP
        have GS := hid hgs
        have HM := hid hm
        have B4 := hid (BW.out.trans (h4.mono hsW.out))
        have s4 := hid h4.size
        clear hP hgs hm hr h4 SZ key HZ
        unfold MbP.at'
        have RM1 := hid (PP.out.mem 0 m1 (made 4) (by rw [GS.out]; rfl) rfl)
        have RM2 := hid (PP.out.mem 1 m2 (made 4) (by rw [GS.out]; rfl) rfl)
        go_wp2_with fail
        refine (MbP.memD_ok.copy RM1.out (made_ok 4) (by omega)).mono ?_
        rintro e w5 ⟨a1, M1, I1, rfl, hr1, hm1, hi1, h5⟩
        have C1 := hid hr1
        have CM1 := hid hm1
        have CI1 := hid hi1
        have B5 := hid h5
        have RM2' := hid (MbP.memD_ok.frame RM2.out (T := fun _ => False) (Turn.of_new h5) fun _ _ e => e)
        clear hr1 hm1 hi1 h5
        unfold MbP.at'
        go_wp2_with fail
        refine (MbP.memD_ok.copy RM2'.out (made_ok 4) (by omega)).mono ?_
        rintro e w6 ⟨a2, M2, I2, rfl, hr2, hm2, hi2, h6⟩
        have C2 := hid hr2
        have CM2 := hid hm2
        have CI2 := hid hi2
        have B6 := hid h6
        clear hr2 hm2 hi2 h6
        unfold MbP.at'
        go_upto_region 12 with ((with_reducible apply wlit2 eltPtP undPtP (x := a1) (y := a2)); omega; rfl; rfl; rfl; rfl)
        have a7 : Below w6.heap.size w6 (w6.alloc (.cells (ptL a1 ++ ptL a2).toArray 23)) := (Below.refl _ _).alloc (Nat.le_refl _) _
        have hl7 := sli_lit2 (S := fun q => q = w6.heap.size) eltPtP a1 a2 w6 rfl
        have z7 : (w6.alloc (.cells (ptL a1 ++ ptL a2).toArray 23)).heap.size = w6.heap.size + 1 := by simp
        generalize World.alloc w6 _ = w7 at a7 hl7 z7 ⊢
        obtain ⟨gA, hgA⟩ : ∃ n, n = w6.heap.size := ⟨_, rfl⟩
        have pA := hid (show ∀ mi gi, [a1, a2][mi]? = some gi → w7.cell? ⟨gA, mi, none⟩ = some (.pointer (some ⟨gi, 0, none⟩)) from fun mi gi hgi => by
          obtain ⟨b5, o5, e5, hb5, hlt5, hr5⟩ := hl7.some hgi
          cases e5
          rw [Nat.mul_one, Nat.zero_add] at hr5
          rw [hgA]
          exact pt_p hr5)
        have QS := hid (show Qu repB W w7 (fun q => q = gA) w7 g F 0 (two (L'.map (·.1))) [a1, a2] (fun i => if i = 0 then M1 else M2) (fun i => if i = 0 then I1 else I2) 0 [made 4, made 4] from by
          have lt1 := MbP.memD_ok.lt C1.out
          have lt2 := MbP.memD_ok.lt C2.out
          have hP4 := PP.out
          have m4 := hP4.mlt
          have i4 := hP4.ilt
          have x5 := B5.out.size
          have x6 := B6.out.size
          have x4 := s4.out
          have xW := hsW.out
          have gl : F.gs.length = 2 := by rw [GS.out]; rfl
          have e47 : Below w4.heap.size w4 w7 := (B5.out.trans (B6.out.mono x5)).trans (a7.mono (Nat.le_trans x5 x6))
          have cas : ∀ i : Nat, i < [a1, a2].length → i = 0 ∨ i = 1 := fun i hi => by
            have : i < 2 := hi
            omega
          have hII1 : ∀ q, I1 q → (q < w4.heap.size ∧ ¬ mutP F q) ∨ (w4.heap.size ≤ q ∧ q < w5.heap.size) := fun q e => by
            rcases CI1.out q e with y | y
            · exact .inl ⟨i4 q (.inr ⟨0, by omega, y⟩), hP4.sep q (.inr ⟨0, by omega, y⟩)⟩
            · exact .inr ⟨y, lt1 q (.inr e)⟩
          have hII2 : ∀ q, I2 q → (q < w4.heap.size ∧ ¬ mutP F q) ∨ w5.heap.size ≤ q := fun q e => by
            rcases CI2.out q e with y | y
            · exact .inl ⟨i4 q (.inr ⟨1, by omega, y⟩), hP4.sep q (.inr ⟨1, by omega, y⟩)⟩
            · exact .inr y
          refine { pp := hP4.below hC e47, len := rfl, mem := fun i gi st h1 h2 => ?_, ok := fun st hst => by have : st = made 4 := (by simpa using hst); rw [this]; exact made_ok 4, ap := fun i j q hi hj hne e e2 => ?_, d1 := fun q e i hi x => ?_, d2 := fun i q hi e x => ?_, lowP := fun q e => ⟨by have := HM.out q e; omega, fun x => by have := m4 q e; omega⟩, lowM := fun i q hi e => ?_, vl := fun q e => by omega, kp := fun q e => rfl, bel := B4.out.trans (e47.mono (by omega)) }
          · rcases cas i (List.getElem?_eq_some_iff.1 h1).1 with rfl | rfl
            · cases h1; cases h2
              exact MbP.memD_ok.frame C1.out (T := fun _ => False) (Turn.of_new (B6.out.trans (a7.mono x6))) fun _ _ e => e
            · cases h1; cases h2
              exact MbP.memD_ok.frame C2.out (T := fun _ => False) (Turn.of_new a7) fun _ _ e => e
          · rcases cas i hi with rfl | rfl
            · rcases cas j hj with rfl | rfl
              · exact hne rfl
              · have e' : M1 q := e
                have e2' : M2 q ∨ I2 q := e2
                have h1 := CM1.out q e'
                have h2 := lt1 q (.inl e')
                rcases e2' with x | x
                · have := CM2.out q x; omega
                · rcases hII2 q x with y | y
                  · omega
                  · omega
            · rcases cas j hj with rfl | rfl
              · have e' : M2 q := e
                have e2' : M1 q ∨ I1 q := e2
                have h1 := CM2.out q e'
                have := lt1 q e2'
                omega
              · exact hne rfl
          · have h1 := m4 q e
            rcases cas i hi with rfl | rfl
            · have x' : M1 q ∨ I1 q := x
              rcases x' with y | y
              · have := CM1.out q y; omega
              · rcases hII1 q y with z | z
                · exact z.2 e
                · omega
            · have x' : M2 q ∨ I2 q := x
              rcases x' with y | y
              · have := CM2.out q y; omega
              · rcases hII2 q y with z | z
                · exact z.2 e
                · omega
          · have h1 := i4 q x
            rcases cas i hi with rfl | rfl
            · have e' : M1 q := e
              have := CM1.out q e'; omega
            · have e' : M2 q := e
              have := CM2.out q e'; omega
          · rcases cas i hi with rfl | rfl
            · have e' : M1 q := e
              have h1 := CM1.out q e'
              have h2 := lt1 q (.inl e')
              exact ⟨by omega, fun x => by omega⟩
            · have e' : M2 q := e
              have h1 := CM2.out q e'
              have h2 := lt2 q (.inl e')
              exact ⟨by omega, fun x => by omega⟩)
        have gl7 := hid (show gA < w7.heap.size by omega)
        rw [← hgA]
        clear a7 hl7 z7 hgA RM1 RM2 RM2' C1 C2 CM1 CM2 CI1 CI2 B5 B6 PP HM B4 s4 BW hsW HL' t1
        go_wp2_with fail
        go_loopw [11] (fun u11 wr => ∃ (j : Nat) (F' : Fq) (b : Bs) (Ms Is : Nat → Nat → Prop) (ms : List St), u11 = .int .i64 j ∧ j ≤ n2 ∧ Hid (Qu repB W w7 (fun q => q = gA) wr g F' (j * 32) b [a1, a2] Ms Is j ms) ∧ Hid (Calm b ms j) ∧ Hid (F'.gs = [m1, m2])) (fun u11 _ => n2 - (intOf u11).toNat)
        case atStart => exact ⟨0, F, _, _, _, _, rfl, Nat.zero_le _, QS, CA, GS⟩
        case round =>
          clear QS CA GS
          obtain ⟨j, F', b, Ms, Is, ms, rfl, hj, HQ, HC2, HG⟩ := hrel
          obtain ⟨wo2, hwo2⟩ : ∃ x, x = wr := ⟨_, rfl⟩
          subst hwo2
          by_cases hjn : j < n2
          · have t1 : (j : Int) < (n2 : Int) := by omega
            obtain ⟨a, ha⟩ : ∃ a, la[j]? = some a := ⟨_, List.getElem?_eq_getElem (by omega)⟩
            obtain ⟨bA, oA, rfl, hbS, hbl, hr⟩ := L2.out.some ha
            have R1 := hid (show wo2.rangeAt bA (oA + j * 99) (abL a).toArray.toList from fun t v ht => (HQ.out.bel.cell (p := ⟨bA, oA + j * 99 + t, none⟩) hbl).trans (hr t v (by simpa using ht)))
            have HKA := hid (K2.out a (List.mem_of_getElem? ha))
            clear hr ha
            go_upto_region 16 with (first | ((with_reducible apply ldR (cs := (abL a).toArray) (tAb a)); rfl; exact R1.out) | (with_reducible apply alZ' zAb) | ((with_reducible apply stR (tAb a)); rfl; rfl; exact Blk.new _ _ _; exact abL_size _ _; exact abL_one _))
            generalize hw8 : World.setRow _ _ _ = w8
            obtain ⟨gX, hgX⟩ : ∃ n, n = wo2.heap.size := ⟨_, rfl⟩
            have B8 := hid (show Below wo2.heap.size wo2 w8 by rw [← hw8]; exact below_setRow ((Below.refl _ _).alloc (Nat.le_refl _) _) (Nat.le_refl _) _)
            have bX := hid (show Blk w8 gX 70 (abL a).toArray by rw [← hw8, hgX]; exact (Blk.new wo2 _ _).setRow_same _)
            have XA := hid (show ∀ mi gi, [a1, a2][mi]? = some gi → w8.cell? ⟨gA, mi, none⟩ = some (.pointer (some ⟨gi, 0, none⟩)) from fun mi gi hgi => (B8.out.cell (p := ⟨gA, mi, none⟩) (HQ.out.vl gA rfl)).trans (HQ.out.cell (pA.out mi gi hgi) rfl))
            have KA := hid (show ∀ q, q = gA → w8.heap[q]? = w7.heap[q]? from fun q e => (B8.out.block q (HQ.out.vl q e)).trans (HQ.out.kp q e))
            have Q8 := hid (show Qu repB W w8 (fun q => q = gA ∨ q = gX) w8 g F' (j * 32) b [a1, a2] Ms Is j ms from (HQ.out.below hC B8.out).base fun q e => by
              have hsz := B8.out.size
              have hXl := bX.out.lt
              rcases e with e | e
              · have hl := HQ.out.vl q e
                exact ⟨by omega, fun x => (HQ.out.lowP q x).2 e, fun i hi x => (HQ.out.lowM i q hi x).2 e⟩
              · exact ⟨by rw [e]; exact hXl, fun x => by have := HQ.out.pp.mlt q x; omega, fun i hi x => by have := HQ.out.lt i q hi (.inl x); omega⟩)
            rw [← hgX]
            have p0 : w8.cell? ⟨gX, 0, none⟩ = some (.int .i64 a.d) := ab_d (o := 0) bX.out.whole
            have p1 : w8.cell? ⟨gX, 1, none⟩ = some (.int .i64 a.m) := ab_m (o := 0) bX.out.whole
            have p2 : w8.cell? ⟨gX, 2, none⟩ = some (.int .i64 a.i) := ab_i (o := 0) bX.out.whole
            clear hw8 hgX R1 HQ
            have STAY := hid (show ∀ (wz : World) (F2 : Fq) (b2 : Bs) (Ms2 Is2 : Nat → Nat → Prop) (ms2 : List St), Qu repB W w8 (fun q => q = gA ∨ q = gX) wz g F2 ((j + 1) * 32) b2 [a1, a2] Ms2 Is2 (j + 1) ms2 → Qu repB W w7 (fun q => q = gA) wz g F2 ((j + 1) * 32) b2 [a1, a2] Ms2 Is2 (j + 1) ms2 from fun wz F2 b2 Ms2 Is2 ms2 H =>
              ⟨H.pp, H.len, H.mem, H.ok, H.ap, H.d1, H.d2, fun q e => ⟨(H.lowP q e).1, fun x => (H.lowP q e).2 (.inl x)⟩, fun i q hi e => ⟨(H.lowM i q hi e).1, fun x => (H.lowM i q hi e).2 (.inl x)⟩, fun q e => H.vl q (.inl e), fun q e => (H.kp q (.inl e)).trans (KA.out q e), H.bel⟩)
            have hst30 : b.steps.length ≤ 30 := HC2.out.few
            have hk32 : j * 32 + 32 = (j + 1) * 32 := by omega
            by_cases hm : a.m = 0 ∨ a.m = 1
            · obtain ⟨mi, hmi, hm2⟩ : ∃ mi : Nat, a.m = (mi : Int) ∧ mi < 2 := by
                rcases hm with h | h
                · exact ⟨0, h, by omega⟩
                · exact ⟨1, h, by omega⟩
              obtain ⟨gj, hgj⟩ : ∃ gj, [a1, a2][mi]? = some gj := ⟨_, List.getElem?_eq_getElem (by simpa using hm2)⟩
              obtain ⟨st, hst⟩ : ∃ st, ms[mi]? = some st := ⟨_, List.getElem?_eq_getElem (by rw [HC2.out.two]; exact hm2)⟩
              have GJ := hid hgj
              have ST := hid hst
              have OK := hid (Q8.out.ok st (List.mem_of_getElem? hst))
              have qf := XA.out mi gj hgj
              rw [hmi] at p1
              have t2 : decide ((mi : Int) < 0) = false := by simp
              have t3 : decide (1 < (mi : Int)) = false := by simp; omega
              have t3' : ¬ 1 < mi := by omega
              have t4 : (mi : Int) < 2 := by omega
              obtain ⟨kd, hkd⟩ : ∃ z, z = kind7 a.d := ⟨_, rfl⟩
              have kb := kind7_bits a.d
              have kl := kind7_le a.d
              rw [← hkd] at kb kl
              have hk8 : j * 32 + b.steps.length + 2 ≤ 8000 := by omega
              clear hkd hm hmi hgj hst
              obtain h12 | h3 | h07 | h456 : (kd = 1 ∨ kd = 2) ∨ kd = 3 ∨ (kd = 0 ∨ kd = 7) ∨ (kd = 4 ∨ kd = 5 ∨ kd = 6) := by omega
              · have CW := hid (HC2.out.wr (by omega) ST.out hm2 a.i a.s)
                obtain ⟨ev, hev⟩ : ∃ z, z = rdE st a.i := ⟨_, rfl⟩
                have HEV := hid hev
                have QW0 := hid (show QW repB W w8 (fun q => q = gA ∨ q = gX) g [m1, m2] (j * 32) ((j + 1) * 32) b (BuM.wrT b (mi : Int) a.i a.s) [a1, a2] j ms (ms.set mi (MbM.wrT st a.i a.s)) false false w8 from ⟨F', Ms, Is, HG.out, Q8.out⟩)
                have FIN := hid (show ∀ w', QW repB W w8 (fun q => q = gA ∨ q = gX) g [m1, m2] (j * 32) ((j + 1) * 32) b (BuM.wrT b (mi : Int) a.i a.s) [a1, a2] j ms (ms.set mi (MbM.wrT st a.i a.s)) true true w' → ∃ F2 Ms2 Is2, F2.gs = [m1, m2] ∧ Qu repB W w7 (fun q => q = gA) w' g F2 ((j + 1) * 32) (BuM.wrT b (mi : Int) a.i a.s) [a1, a2] Ms2 Is2 (j + 1) (ms.set mi (MbM.wrT st a.i a.s)) from fun w' H => by
                  obtain ⟨F2, Ms2, Is2, e1, hq⟩ := H.q
                  exact ⟨F2, Ms2, Is2, e1, STAY.out _ _ _ _ _ _ hq⟩)
                clear hev Q8 STAY XA KA B8
                have e12 : kd = 1 ∨ kd = 2 := h12
                rcases e12 with rfl | rfl
                · have kb' : bits .and .i64 a.d 7 = 1 := kb
                  clear kb kl h12
                  go_upto_region 21 with fail
                  refine wp_region_d (S := yS [some (.pointer (some ⟨g, 0, none⟩)), some (.pointer (some ⟨gX, 1, none⟩)), some (.int .i64 (mi : Nat)), some (.pointer (some ⟨gX, 2, none⟩)), some (.int .i64 a.i), some (.pointer (some ⟨gX, 3, none⟩)), some (.agg (ar 64 a.s)), some (.int .i64 ev), some (.pointer (some ⟨gj, 0, none⟩)), some (.pointer (some ⟨gX, 2, none⟩)), some (.int .i64 a.i), some (.pointer (some ⟨gX, 3, none⟩)), some (.agg (ar 64 a.s)), some (.int .i64 ev), some (.bool false)] [])
                    (C := fun d' vs w' => QW repB W w8 (fun q => q = gA ∨ q = gX) g [m1, m2] (j * 32) ((j + 1) * 32) b (BuM.wrT b (mi : Int) a.i a.s) [a1, a2] j ms (ms.set mi (MbM.wrT st a.i a.s)) (d' 7) (d' 13) w') 15 (by kernel_rfl) (by kernel_rfl) (by kernel_rfl) _
                    (yS_ok _ fun y hy => by cases hy) (QW0.out.drew hC) fun vs => ?_
                  simp only [List.take_succ_cons, List.take_zero, List.drop_succ_cons, List.drop_zero]
                  refine ⟨.inl ⟨rfl, fun dd w' hd hcl hnx hw hC => ?_⟩, fun e => ?_⟩
                  · go_simp
                    first | exact ⟨rfl, hC⟩ | exact hC
                  have e' : vs 0 = _ := e
                  rw [e']
                  clear e e'
                  simp only [Act.put, List.setIfInBounds_toArray, List.set_cons_succ, List.set_cons_zero]
                  refine ⟨.inl ⟨rfl, fun dd w' hd hcl hnx hw hC => ?_⟩, fun e => ?_⟩
                  · go_simp
                    first | exact ⟨rfl, hC⟩ | exact hC
                  have e' : vs 1 = _ := e
                  rw [e']
                  clear e e'
                  simp only [Act.put, List.setIfInBounds_toArray, List.set_cons_succ, List.set_cons_zero]
                  refine ⟨.inl ⟨rfl, fun dd w' hd hcl hnx hw hQ => ?_⟩, fun e => ?_⟩
                  · have hcell : w'.cell? ⟨gX, 1, none⟩ = some (.int .i64 (mi : Nat)) := ((QW.blk hQ bX.out (.inr rfl)).cell 1).trans ((bX.out.cell 1).symm.trans p1)
                    go_simp
                    exact ⟨rfl, hQ⟩
                  have e' : vs 2 = _ := e
                  rw [e']
                  clear e e'
                  simp only [Act.put, List.setIfInBounds_toArray, List.set_cons_succ, List.set_cons_zero]
                  refine ⟨.inl ⟨rfl, fun dd w' hd hcl hnx hw hC => ?_⟩, fun e => ?_⟩
                  · go_simp
                    first | exact ⟨rfl, hC⟩ | exact hC
                  have e' : vs 3 = _ := e
                  rw [e']
                  clear e e'
                  simp only [Act.put, List.setIfInBounds_toArray, List.set_cons_succ, List.set_cons_zero]
                  refine ⟨.inl ⟨rfl, fun dd w' hd hcl hnx hw hQ => ?_⟩, fun e => ?_⟩
                  · have hcell : w'.cell? ⟨gX, 2, none⟩ = some (.int .i64 a.i) := ((QW.blk hQ bX.out (.inr rfl)).cell 2).trans ((bX.out.cell 2).symm.trans p2)
                    go_simp
                    exact ⟨rfl, hQ⟩
                  have e' : vs 4 = _ := e
                  rw [e']
                  clear e e'
                  simp only [Act.put, List.setIfInBounds_toArray, List.set_cons_succ, List.set_cons_zero]
                  refine ⟨.inl ⟨rfl, fun dd w' hd hcl hnx hw hC => ?_⟩, fun e => ?_⟩
                  · go_simp
                    first | exact ⟨rfl, hC⟩ | exact hC
                  have e' : vs 5 = _ := e
                  rw [e']
                  clear e e'
                  simp only [Act.put, List.setIfInBounds_toArray, List.set_cons_succ, List.set_cons_zero]
                  refine ⟨.inl ⟨rfl, fun dd w' hd hcl hnx hw hQ => ?_⟩, fun e => ?_⟩
                  · exact gE_ldA tSe rfl (show w'.rangeAt gX 3 (ar 64 a.s).toList from ab_s (o := 0) (a := a) (QW.blk hQ bX.out (.inr rfl)).whole) ⟨rfl, hQ⟩
                  have e' : vs 6 = _ := e
                  rw [e']
                  clear e e'
                  simp only [Act.put, List.setIfInBounds_toArray, List.set_cons_succ, List.set_cons_zero]
                  refine ⟨.inl ⟨rfl, fun dd w' hd hcl hnx hw hQ => ?_⟩, fun e => ?_⟩
                  · have hcw : ∀ F, Pp repB w' g F (j * 32) b → Calls Try.prog 12 #[.pointer (some ⟨g, 0, none⟩), .int .i64 (mi : Nat), .int .i64 a.i, .agg (ar 64 a.s)] w' fun e w2 => e = .returned (.int .i64 ev) ∧ outQ repB w' g F ((j + 1) * 32) (BuM.wrT b (mi : Int) a.i a.s) w2 := fun F hF => by
                      have h := hC.write hF hk8 (mi : Int) a.i a.s HKA.out
                      rw [CW.out.1, ← HEV.out] at h
                      refine h.mono fun e w2 h => ⟨h.1, by obtain ⟨F2, p, r⟩ := h.2; exact ⟨F2, p.mono (by omega), r⟩⟩
                    have hQ' : QW repB W w8 (fun q => q = gA ∨ q = gX) g [m1, m2] (j * 32) ((j + 1) * 32) b (BuM.wrT b (mi : Int) a.i a.s) [a1, a2] j ms (ms.set mi (MbM.wrT st a.i a.s)) false (dd 13) w' := by have h9 : dd 7 = false := hd; rw [← h9]; exact hQ
                    go_simp
                    refine (hQ'.bus hcw).mono ?_
                    rintro e w2 ⟨rfl, h⟩
                    exact ⟨_, rfl, rfl, h⟩
                  have e' : vs 7 = _ := e
                  rw [e']
                  clear e e'
                  simp only [Act.put, List.setIfInBounds_toArray, List.set_cons_succ, List.set_cons_zero]
                  refine ⟨.inl ⟨rfl, fun dd w' hd hcl hnx hw hC => ?_⟩, fun e => ?_⟩
                  · go_simp
                    first | exact ⟨rfl, hC⟩ | exact hC
                  have e' : vs 8 = _ := e
                  rw [e']
                  clear e e'
                  simp only [Act.put, List.setIfInBounds_toArray, List.set_cons_succ, List.set_cons_zero]
                  refine ⟨.inl ⟨rfl, fun dd w' hd hcl hnx hw hC => ?_⟩, fun e => ?_⟩
                  · go_simp
                    first | exact ⟨rfl, hC⟩ | exact hC
                  have e' : vs 9 = _ := e
                  rw [e']
                  clear e e'
                  simp only [Act.put, List.setIfInBounds_toArray, List.set_cons_succ, List.set_cons_zero]
                  refine ⟨.inl ⟨rfl, fun dd w' hd hcl hnx hw hQ => ?_⟩, fun e => ?_⟩
                  · have hcell : w'.cell? ⟨gX, 2, none⟩ = some (.int .i64 a.i) := ((QW.blk hQ bX.out (.inr rfl)).cell 2).trans ((bX.out.cell 2).symm.trans p2)
                    go_simp
                    exact ⟨rfl, hQ⟩
                  have e' : vs 10 = _ := e
                  rw [e']
                  clear e e'
                  simp only [Act.put, List.setIfInBounds_toArray, List.set_cons_succ, List.set_cons_zero]
                  refine ⟨.inl ⟨rfl, fun dd w' hd hcl hnx hw hC => ?_⟩, fun e => ?_⟩
                  · go_simp
                    first | exact ⟨rfl, hC⟩ | exact hC
                  have e' : vs 11 = _ := e
                  rw [e']
                  clear e e'
                  simp only [Act.put, List.setIfInBounds_toArray, List.set_cons_succ, List.set_cons_zero]
                  refine ⟨.inl ⟨rfl, fun dd w' hd hcl hnx hw hQ => ?_⟩, fun e => ?_⟩
                  · exact gE_ldA tSe rfl (show w'.rangeAt gX 3 (ar 64 a.s).toList from ab_s (o := 0) (a := a) (QW.blk hQ bX.out (.inr rfl)).whole) ⟨rfl, hQ⟩
                  have e' : vs 12 = _ := e
                  rw [e']
                  clear e e'
                  simp only [Act.put, List.setIfInBounds_toArray, List.set_cons_succ, List.set_cons_zero]
                  refine ⟨.inl ⟨rfl, fun dd w' hd hcl hnx hw hQ => ?_⟩, fun e => ?_⟩
                  · have hcw : ∀ M I, RepM w' gj M I j st → Calls Try.prog 27 #[.pointer (some ⟨gj, 0, none⟩), .int .i64 a.i, .agg (ar 64 a.s)] w' fun e w2 => e = .returned (.int .i64 ev) ∧ outP RepM w' gj M I (j + 1) (MbM.wrT st a.i a.s) w2 := fun M I hR => by
                      have h := MbP.memD_ok.write hR OK.out (by omega) a.i a.s HKA.out
                      rw [← HEV.out] at h
                      exact h
                    have hQ' : QW repB W w8 (fun q => q = gA ∨ q = gX) g [m1, m2] (j * 32) ((j + 1) * 32) b (BuM.wrT b (mi : Int) a.i a.s) [a1, a2] j ms (ms.set mi (MbM.wrT st a.i a.s)) (dd 7) false w' := by have h9 : dd 13 = false := hd; rw [← h9]; exact hQ
                    go_simp
                    refine (hQ'.told hC GJ.out ST.out (wr_ok OK.out a.i HKA.out) hcw).mono ?_
                    rintro e w2 ⟨rfl, h⟩
                    exact ⟨_, rfl, rfl, h⟩
                  have e' : vs 13 = _ := e
                  rw [e']
                  clear e e'
                  simp only [Act.put, List.setIfInBounds_toArray, List.set_cons_succ, List.set_cons_zero]
                  refine ⟨.inl ⟨rfl, fun dd w' hd hcl hnx hw hC => ?_⟩, fun e => ?_⟩
                  · go_simp
                    first | exact ⟨rfl, hC⟩ | exact hC
                  have e' : vs 14 = _ := e
                  rw [e']
                  clear e e'
                  simp only [Act.put, List.setIfInBounds_toArray, List.set_cons_succ, List.set_cons_zero]
                  intro dd wz hall hQ
                  have h7 : dd 7 = true := hall 7 (by omega)
                  have h13 : dd 13 = true := hall 13 (by omega)
                  have hQz : QW repB W w8 (fun q => q = gA ∨ q = gX) g [m1, m2] (j * 32) ((j + 1) * 32) b (BuM.wrT b (mi : Int) a.i a.s) [a1, a2] j ms (ms.set mi (MbM.wrT st a.i a.s)) (dd 7) (dd 13) wz := hQ
                  rw [h7, h13] at hQz
                  obtain ⟨F2, Ms2, Is2, e1, hq2⟩ := FIN.out wz hQz
                  have Q9 := hid hq2
                  have G9 := hid e1
                  have C9 := hid CW.out.2
                  clear hQz hQ h7 h13 hall e1 hq2 QW0 FIN CW bX p0 p1 p2 qf
                  go_wp2_with fail
                  go_roundw
                  case rel => exact ⟨j + 1, F2, _, Ms2, Is2, _, by go_num, by omega, Q9, C9, G9⟩
                  case measure => simp [intOf] <;> omega
                · have kb' : bits .and .i64 a.d 7 = 2 := kb
                  clear kb kl h12
                  go_upto_region 21 with fail
                  refine wp_region_d (S := yS [some (.pointer (some ⟨g, 0, none⟩)), some (.pointer (some ⟨gX, 1, none⟩)), some (.int .i64 (mi : Nat)), some (.pointer (some ⟨gX, 2, none⟩)), some (.int .i64 a.i), some (.pointer (some ⟨gX, 3, none⟩)), some (.agg (ar 64 a.s)), some (.int .i64 ev), some (.pointer (some ⟨gj, 0, none⟩)), some (.pointer (some ⟨gX, 2, none⟩)), some (.int .i64 a.i), some (.pointer (some ⟨gX, 3, none⟩)), some (.agg (ar 64 a.s)), some (.int .i64 ev), some (.bool false)] [])
                    (C := fun d' vs w' => QW repB W w8 (fun q => q = gA ∨ q = gX) g [m1, m2] (j * 32) ((j + 1) * 32) b (BuM.wrT b (mi : Int) a.i a.s) [a1, a2] j ms (ms.set mi (MbM.wrT st a.i a.s)) (d' 7) (d' 13) w') 15 (by kernel_rfl) (by kernel_rfl) (by kernel_rfl) _
                    (yS_ok _ fun y hy => by cases hy) (QW0.out.drew hC) fun vs => ?_
                  simp only [List.take_succ_cons, List.take_zero, List.drop_succ_cons, List.drop_zero]
                  refine ⟨.inl ⟨rfl, fun dd w' hd hcl hnx hw hC => ?_⟩, fun e => ?_⟩
                  · go_simp
                    first | exact ⟨rfl, hC⟩ | exact hC
                  have e' : vs 0 = _ := e
                  rw [e']
                  clear e e'
                  simp only [Act.put, List.setIfInBounds_toArray, List.set_cons_succ, List.set_cons_zero]
                  refine ⟨.inl ⟨rfl, fun dd w' hd hcl hnx hw hC => ?_⟩, fun e => ?_⟩
                  · go_simp
                    first | exact ⟨rfl, hC⟩ | exact hC
                  have e' : vs 1 = _ := e
                  rw [e']
                  clear e e'
                  simp only [Act.put, List.setIfInBounds_toArray, List.set_cons_succ, List.set_cons_zero]
                  refine ⟨.inl ⟨rfl, fun dd w' hd hcl hnx hw hQ => ?_⟩, fun e => ?_⟩
                  · have hcell : w'.cell? ⟨gX, 1, none⟩ = some (.int .i64 (mi : Nat)) := ((QW.blk hQ bX.out (.inr rfl)).cell 1).trans ((bX.out.cell 1).symm.trans p1)
                    go_simp
                    exact ⟨rfl, hQ⟩
                  have e' : vs 2 = _ := e
                  rw [e']
                  clear e e'
                  simp only [Act.put, List.setIfInBounds_toArray, List.set_cons_succ, List.set_cons_zero]
                  refine ⟨.inl ⟨rfl, fun dd w' hd hcl hnx hw hC => ?_⟩, fun e => ?_⟩
                  · go_simp
                    first | exact ⟨rfl, hC⟩ | exact hC
                  have e' : vs 3 = _ := e
                  rw [e']
                  clear e e'
                  simp only [Act.put, List.setIfInBounds_toArray, List.set_cons_succ, List.set_cons_zero]
                  refine ⟨.inl ⟨rfl, fun dd w' hd hcl hnx hw hQ => ?_⟩, fun e => ?_⟩
                  · have hcell : w'.cell? ⟨gX, 2, none⟩ = some (.int .i64 a.i) := ((QW.blk hQ bX.out (.inr rfl)).cell 2).trans ((bX.out.cell 2).symm.trans p2)
                    go_simp
                    exact ⟨rfl, hQ⟩
                  have e' : vs 4 = _ := e
                  rw [e']
                  clear e e'
                  simp only [Act.put, List.setIfInBounds_toArray, List.set_cons_succ, List.set_cons_zero]
                  refine ⟨.inl ⟨rfl, fun dd w' hd hcl hnx hw hC => ?_⟩, fun e => ?_⟩
                  · go_simp
                    first | exact ⟨rfl, hC⟩ | exact hC
                  have e' : vs 5 = _ := e
                  rw [e']
                  clear e e'
                  simp only [Act.put, List.setIfInBounds_toArray, List.set_cons_succ, List.set_cons_zero]
                  refine ⟨.inl ⟨rfl, fun dd w' hd hcl hnx hw hQ => ?_⟩, fun e => ?_⟩
                  · exact gE_ldA tSe rfl (show w'.rangeAt gX 3 (ar 64 a.s).toList from ab_s (o := 0) (a := a) (QW.blk hQ bX.out (.inr rfl)).whole) ⟨rfl, hQ⟩
                  have e' : vs 6 = _ := e
                  rw [e']
                  clear e e'
                  simp only [Act.put, List.setIfInBounds_toArray, List.set_cons_succ, List.set_cons_zero]
                  refine ⟨.inl ⟨rfl, fun dd w' hd hcl hnx hw hQ => ?_⟩, fun e => ?_⟩
                  · have hcw : ∀ F, Pp repB w' g F (j * 32) b → Calls Try.prog 12 #[.pointer (some ⟨g, 0, none⟩), .int .i64 (mi : Nat), .int .i64 a.i, .agg (ar 64 a.s)] w' fun e w2 => e = .returned (.int .i64 ev) ∧ outQ repB w' g F ((j + 1) * 32) (BuM.wrT b (mi : Int) a.i a.s) w2 := fun F hF => by
                      have h := hC.write hF hk8 (mi : Int) a.i a.s HKA.out
                      rw [CW.out.1, ← HEV.out] at h
                      refine h.mono fun e w2 h => ⟨h.1, by obtain ⟨F2, p, r⟩ := h.2; exact ⟨F2, p.mono (by omega), r⟩⟩
                    have hQ' : QW repB W w8 (fun q => q = gA ∨ q = gX) g [m1, m2] (j * 32) ((j + 1) * 32) b (BuM.wrT b (mi : Int) a.i a.s) [a1, a2] j ms (ms.set mi (MbM.wrT st a.i a.s)) false (dd 13) w' := by have h9 : dd 7 = false := hd; rw [← h9]; exact hQ
                    go_simp
                    refine (hQ'.bus hcw).mono ?_
                    rintro e w2 ⟨rfl, h⟩
                    exact ⟨_, rfl, rfl, h⟩
                  have e' : vs 7 = _ := e
                  rw [e']
                  clear e e'
                  simp only [Act.put, List.setIfInBounds_toArray, List.set_cons_succ, List.set_cons_zero]
                  refine ⟨.inl ⟨rfl, fun dd w' hd hcl hnx hw hC => ?_⟩, fun e => ?_⟩
                  · go_simp
                    first | exact ⟨rfl, hC⟩ | exact hC
                  have e' : vs 8 = _ := e
                  rw [e']
                  clear e e'
                  simp only [Act.put, List.setIfInBounds_toArray, List.set_cons_succ, List.set_cons_zero]
                  refine ⟨.inl ⟨rfl, fun dd w' hd hcl hnx hw hC => ?_⟩, fun e => ?_⟩
                  · go_simp
                    first | exact ⟨rfl, hC⟩ | exact hC
                  have e' : vs 9 = _ := e
                  rw [e']
                  clear e e'
                  simp only [Act.put, List.setIfInBounds_toArray, List.set_cons_succ, List.set_cons_zero]
                  refine ⟨.inl ⟨rfl, fun dd w' hd hcl hnx hw hQ => ?_⟩, fun e => ?_⟩
                  · have hcell : w'.cell? ⟨gX, 2, none⟩ = some (.int .i64 a.i) := ((QW.blk hQ bX.out (.inr rfl)).cell 2).trans ((bX.out.cell 2).symm.trans p2)
                    go_simp
                    exact ⟨rfl, hQ⟩
                  have e' : vs 10 = _ := e
                  rw [e']
                  clear e e'
                  simp only [Act.put, List.setIfInBounds_toArray, List.set_cons_succ, List.set_cons_zero]
                  refine ⟨.inl ⟨rfl, fun dd w' hd hcl hnx hw hC => ?_⟩, fun e => ?_⟩
                  · go_simp
                    first | exact ⟨rfl, hC⟩ | exact hC
                  have e' : vs 11 = _ := e
                  rw [e']
                  clear e e'
                  simp only [Act.put, List.setIfInBounds_toArray, List.set_cons_succ, List.set_cons_zero]
                  refine ⟨.inl ⟨rfl, fun dd w' hd hcl hnx hw hQ => ?_⟩, fun e => ?_⟩
                  · exact gE_ldA tSe rfl (show w'.rangeAt gX 3 (ar 64 a.s).toList from ab_s (o := 0) (a := a) (QW.blk hQ bX.out (.inr rfl)).whole) ⟨rfl, hQ⟩
                  have e' : vs 12 = _ := e
                  rw [e']
                  clear e e'
                  simp only [Act.put, List.setIfInBounds_toArray, List.set_cons_succ, List.set_cons_zero]
                  refine ⟨.inl ⟨rfl, fun dd w' hd hcl hnx hw hQ => ?_⟩, fun e => ?_⟩
                  · have hcw : ∀ M I, RepM w' gj M I j st → Calls Try.prog 27 #[.pointer (some ⟨gj, 0, none⟩), .int .i64 a.i, .agg (ar 64 a.s)] w' fun e w2 => e = .returned (.int .i64 ev) ∧ outP RepM w' gj M I (j + 1) (MbM.wrT st a.i a.s) w2 := fun M I hR => by
                      have h := MbP.memD_ok.write hR OK.out (by omega) a.i a.s HKA.out
                      rw [← HEV.out] at h
                      exact h
                    have hQ' : QW repB W w8 (fun q => q = gA ∨ q = gX) g [m1, m2] (j * 32) ((j + 1) * 32) b (BuM.wrT b (mi : Int) a.i a.s) [a1, a2] j ms (ms.set mi (MbM.wrT st a.i a.s)) (dd 7) false w' := by have h9 : dd 13 = false := hd; rw [← h9]; exact hQ
                    go_simp
                    refine (hQ'.told hC GJ.out ST.out (wr_ok OK.out a.i HKA.out) hcw).mono ?_
                    rintro e w2 ⟨rfl, h⟩
                    exact ⟨_, rfl, rfl, h⟩
                  have e' : vs 13 = _ := e
                  rw [e']
                  clear e e'
                  simp only [Act.put, List.setIfInBounds_toArray, List.set_cons_succ, List.set_cons_zero]
                  refine ⟨.inl ⟨rfl, fun dd w' hd hcl hnx hw hC => ?_⟩, fun e => ?_⟩
                  · go_simp
                    first | exact ⟨rfl, hC⟩ | exact hC
                  have e' : vs 14 = _ := e
                  rw [e']
                  clear e e'
                  simp only [Act.put, List.setIfInBounds_toArray, List.set_cons_succ, List.set_cons_zero]
                  intro dd wz hall hQ
                  have h7 : dd 7 = true := hall 7 (by omega)
                  have h13 : dd 13 = true := hall 13 (by omega)
                  have hQz : QW repB W w8 (fun q => q = gA ∨ q = gX) g [m1, m2] (j * 32) ((j + 1) * 32) b (BuM.wrT b (mi : Int) a.i a.s) [a1, a2] j ms (ms.set mi (MbM.wrT st a.i a.s)) (dd 7) (dd 13) wz := hQ
                  rw [h7, h13] at hQz
                  obtain ⟨F2, Ms2, Is2, e1, hq2⟩ := FIN.out wz hQz
                  have Q9 := hid hq2
                  have G9 := hid e1
                  have C9 := hid CW.out.2
                  clear hQz hQ h7 h13 hall e1 hq2 QW0 FIN CW bX p0 p1 p2 qf
                  go_wp2_with fail
                  go_roundw
                  case rel => exact ⟨j + 1, F2, _, Ms2, Is2, _, by go_num, by omega, Q9, C9, G9⟩
                  case measure => simp [intOf] <;> omega
              · subst h3
                have kb' : bits .and .i64 a.d 7 = 3 := kb
                have CW := hid (HC2.out.fl (by omega) ST.out hm2)
                obtain ⟨ev, hev⟩ : ∃ z, z = MbM.flE st := ⟨_, rfl⟩
                have HEV := hid hev
                have QW0 := hid (show QW repB W w8 (fun q => q = gA ∨ q = gX) g [m1, m2] (j * 32) ((j + 1) * 32) b (BuM.flT b (mi : Int)) [a1, a2] j ms (ms.set mi (MbM.flT st)) false false w8 from ⟨F', Ms, Is, HG.out, Q8.out⟩)
                clear hev kb kl XA KA B8 Q8
                go_wp2_with fail
                have hcw : ∀ F, Pp repB w8 g F (j * 32) b → Calls Try.prog 18 #[.pointer (some ⟨g, 0, none⟩), .int .i64 (mi : Nat)] w8 fun e w2 => e = .returned (.int .i64 ev) ∧ outQ repB w8 g F ((j + 1) * 32) (BuM.flT b (mi : Int)) w2 := fun F hF => by
                  have h := hC.flush hF hk8 (mi : Int)
                  rw [CW.out.1, ← HEV.out] at h
                  refine h.mono fun e w2 h => ⟨h.1, by obtain ⟨F2, p, r⟩ := h.2; exact ⟨F2, p.mono (by omega), r⟩⟩
                refine (QW0.out.bus hcw).mono ?_
                rintro e w9 ⟨rfl, h⟩
                have HQ9 := hid h
                clear h hcw QW0 p0 p1 p2 qf
                go_wp2_with fail
                have hcw : ∀ M I, RepM w9 gj M I j st → Calls Try.prog 28 #[.pointer (some ⟨gj, 0, none⟩)] w9 fun e w2 => e = .returned (.int .i64 ev) ∧ outP RepM w9 gj M I (j + 1) (MbM.flT st) w2 := fun M I hR => by
                  have h := MbP.memD_ok.flush hR OK.out (by omega)
                  rw [← HEV.out] at h
                  exact h
                refine (HQ9.out.told hC GJ.out ST.out (fl_ok OK.out) hcw).mono ?_
                rintro e wz ⟨rfl, h⟩
                obtain ⟨F2, Ms2, Is2, e1, hq⟩ := h.q
                have Q9 := hid (STAY.out _ _ _ _ _ _ hq)
                have G9 := hid e1
                have C9 := hid CW.out.2
                clear h hcw hq e1 HQ9 STAY CW bX
                go_wp2_with fail
                go_roundw
                case rel => exact ⟨j + 1, F2, _, Ms2, Is2, _, by go_num, by omega, Q9, C9, G9⟩
                case measure => simp [intOf] <;> omega
              · rcases h07 with rfl | rfl
                · have kb' : bits .and .i64 a.d 7 = 0 := kb
                  have CW := hid (HC2.out.rd (by omega) ST.out hm2 a.i)
                  obtain ⟨ev, hev⟩ : ∃ z, z = rdE st a.i := ⟨_, rfl⟩
                  obtain ⟨sv, hsv⟩ : ∃ z, z = rdS st a.i := ⟨_, rfl⟩
                  have HEV := hid hev
                  have HSV := hid hsv
                  clear hev hsv kb kl XA KA B8
                  go_wp2_with fail
                  have hcr := hC.read Q8.out.pp hk8 (mi : Int) a.i
                  rw [CW.out.1, CW.out.2.1, ← HEV.out, ← HSV.out] at hcr
                  refine hcr.mono ?_
                  rintro e w9 ⟨rfl, ho⟩
                  obtain ⟨F2, e1, hq⟩ := Qu.bus Q8.out ho
                  have Q9 := hid (hq.mono (k' := (j + 1) * 32) (by omega) (Nat.le_refl j))
                  have G9 := hid (e1.trans HG.out)
                  clear hcr ho e1 hq Q8 p0 p1 p2 qf
                  go_upto_region 29 with (first | (with_reducible apply alA tSe) | ((with_reducible apply stA tSe); rfl; rfl; exact Blk.new _ _ _))
                  generalize hwX : World.setRow _ _ _ = wX
                  have b6 : Below w9.heap.size w9 wX := by rw [← hwX]; exact below_setRow ((Below.refl _ _).alloc (Nat.le_refl _) _) (Nat.le_refl _) _
                  have SX := hid (show Blk wX w9.heap.size 30 (ar 64 sv) by rw [← hwX]; exact (Blk.new w9 _ _).setRow_same _)
                  obtain ⟨gU, hgU⟩ : ∃ n, n = w9.heap.size := ⟨_, rfl⟩
                  rw [← hgU] at SX ⊢
                  have QX := hid (Q9.out.below hC b6)
                  clear hwX b6 hgU Q9
                  have bXX := QX.out.blk bX.out (.inr rfl)
                  have p2 : wX.cell? ⟨gX, 2, none⟩ = some (.int .i64 a.i) := ab_i (o := 0) (a := a) bXX.whole
                  clear bXX
                  go_wp2_with fail
                  have hcr := MbP.memD_ok.read (QX.out.mem mi gj st GJ.out ST.out) OK.out (by omega) a.i
                  rw [← HEV.out, ← HSV.out] at hcr
                  refine hcr.mono ?_
                  rintro e wy ⟨rfl, h5⟩
                  have QY := hid (QX.out.below hC h5)
                  have SY := hid (SX.out.below h5 SX.out.lt)
                  clear hcr h5 QX SX p2
                  go_upto_region 30 with (first | (with_reducible apply alA tSe) | ((with_reducible apply stA tSe); rfl; rfl; exact Blk.new _ _ _))
                  generalize hwZ : World.setRow _ _ _ = wZ
                  have b6 : Below wy.heap.size wy wZ := by rw [← hwZ]; exact below_setRow ((Below.refl _ _).alloc (Nat.le_refl _) _) (Nat.le_refl _) _
                  have SZ := hid (show Blk wZ wy.heap.size 30 (ar 64 sv) by rw [← hwZ]; exact (Blk.new wy _ _).setRow_same _)
                  obtain ⟨gZ, hgZ⟩ : ∃ n, n = wy.heap.size := ⟨_, rfl⟩
                  rw [← hgZ] at SZ ⊢
                  have QZ := hid (QY.out.below hC b6)
                  have SX := hid (SY.out.below b6 SY.out.lt)
                  clear hwZ b6 hgZ QY SY
                  refine wp_region_fixed (C := fun w' => Below wZ.heap.size wZ w') 8 (Below.refl _ _) ?_
                  simp only [List.take_succ_cons, List.take_zero, List.drop_succ_cons, List.drop_zero]
                  apply kldA tSe
                  · rfl
                  · rfl
                  · exact fun w' hw' => (SX.out.below hw' SX.out.lt).head
                  simp only [Act.put, List.setIfInBounds_toArray, List.set_cons_succ, List.set_cons_zero]
                  apply kldA tSe
                  · rfl
                  · rfl
                  · exact fun w' hw' => (SZ.out.below hw' SZ.out.lt).head
                  simp only [Act.put, List.setIfInBounds_toArray, List.set_cons_succ, List.set_cons_zero]
                  apply kneU false uSe' gSe'
                  · rfl
                  · rfl
                  · rfl
                  · exact (by rw [eqA_yes fun _ _ => rfl]; rfl)
                  simp only [Act.put, List.setIfInBounds_toArray, List.set_cons_succ, List.set_cons_zero]
                  apply wpK_val
                  · rfl
                  · intro w' hw'
                    go_simp
                    first | exact rfl | exact ⟨rfl, hw'⟩
                  simp only [Act.put, List.setIfInBounds_toArray, List.set_cons_succ, List.set_cons_zero]
                  apply wpK_val
                  · rfl
                  · intro w' hw'
                    go_simp
                    first | exact rfl | exact ⟨rfl, hw'⟩
                  simp only [Act.put, List.setIfInBounds_toArray, List.set_cons_succ, List.set_cons_zero]
                  apply wpK_val
                  · rfl
                  · intro w' hw'
                    go_simp
                    first | exact rfl | exact ⟨rfl, hw'⟩
                  simp only [Act.put, List.setIfInBounds_toArray, List.set_cons_succ, List.set_cons_zero]
                  apply wpK_val
                  · rfl
                  · intro w' hw'
                    go_simp
                    first | exact rfl | exact ⟨rfl, hw'⟩
                  simp only [Act.put, List.setIfInBounds_toArray, List.set_cons_succ, List.set_cons_zero]
                  apply wpK_val
                  · rfl
                  · intro w' hw'
                    go_simp
                    first | exact rfl | exact ⟨rfl, hw'⟩
                  simp only [Act.put, List.setIfInBounds_toArray, List.set_cons_succ, List.set_cons_zero]
                  intro wq hCq
                  have QQ := hid (STAY.out _ _ _ _ _ _ ((QZ.out.below hC hCq).mono (Nat.le_refl _) (Nat.le_succ j)))
                  have C9 := hid CW.out.2.2
                  clear hCq SX SZ QZ STAY CW bX
                  go_wp2_with fail
                  go_roundw
                  case rel => exact ⟨j + 1, F2, _, Ms, Is, ms, by go_num, by omega, QQ, C9, G9⟩
                  case measure => simp [intOf] <;> omega
                · have kb' : bits .and .i64 a.d 7 = 7 := kb
                  have CW := hid (HC2.out.rd (by omega) ST.out hm2 a.i)
                  obtain ⟨ev, hev⟩ : ∃ z, z = rdE st a.i := ⟨_, rfl⟩
                  obtain ⟨sv, hsv⟩ : ∃ z, z = rdS st a.i := ⟨_, rfl⟩
                  have HEV := hid hev
                  have HSV := hid hsv
                  clear hev hsv kb kl XA KA B8
                  go_wp2_with fail
                  have hcr := hC.read Q8.out.pp hk8 (mi : Int) a.i
                  rw [CW.out.1, CW.out.2.1, ← HEV.out, ← HSV.out] at hcr
                  refine hcr.mono ?_
                  rintro e w9 ⟨rfl, ho⟩
                  obtain ⟨F2, e1, hq⟩ := Qu.bus Q8.out ho
                  have Q9 := hid (hq.mono (k' := (j + 1) * 32) (by omega) (Nat.le_refl j))
                  have G9 := hid (e1.trans HG.out)
                  clear hcr ho e1 hq Q8 p0 p1 p2 qf
                  go_upto_region 29 with (first | (with_reducible apply alA tSe) | ((with_reducible apply stA tSe); rfl; rfl; exact Blk.new _ _ _))
                  generalize hwX : World.setRow _ _ _ = wX
                  have b6 : Below w9.heap.size w9 wX := by rw [← hwX]; exact below_setRow ((Below.refl _ _).alloc (Nat.le_refl _) _) (Nat.le_refl _) _
                  have SX := hid (show Blk wX w9.heap.size 30 (ar 64 sv) by rw [← hwX]; exact (Blk.new w9 _ _).setRow_same _)
                  obtain ⟨gU, hgU⟩ : ∃ n, n = w9.heap.size := ⟨_, rfl⟩
                  rw [← hgU] at SX ⊢
                  have QX := hid (Q9.out.below hC b6)
                  clear hwX b6 hgU Q9
                  have bXX := QX.out.blk bX.out (.inr rfl)
                  have p2 : wX.cell? ⟨gX, 2, none⟩ = some (.int .i64 a.i) := ab_i (o := 0) (a := a) bXX.whole
                  clear bXX
                  go_wp2_with fail
                  have hcr := MbP.memD_ok.read (QX.out.mem mi gj st GJ.out ST.out) OK.out (by omega) a.i
                  rw [← HEV.out, ← HSV.out] at hcr
                  refine hcr.mono ?_
                  rintro e wy ⟨rfl, h5⟩
                  have QY := hid (QX.out.below hC h5)
                  have SY := hid (SX.out.below h5 SX.out.lt)
                  clear hcr h5 QX SX p2
                  go_upto_region 30 with (first | (with_reducible apply alA tSe) | ((with_reducible apply stA tSe); rfl; rfl; exact Blk.new _ _ _))
                  generalize hwZ : World.setRow _ _ _ = wZ
                  have b6 : Below wy.heap.size wy wZ := by rw [← hwZ]; exact below_setRow ((Below.refl _ _).alloc (Nat.le_refl _) _) (Nat.le_refl _) _
                  have SZ := hid (show Blk wZ wy.heap.size 30 (ar 64 sv) by rw [← hwZ]; exact (Blk.new wy _ _).setRow_same _)
                  obtain ⟨gZ, hgZ⟩ : ∃ n, n = wy.heap.size := ⟨_, rfl⟩
                  rw [← hgZ] at SZ ⊢
                  have QZ := hid (QY.out.below hC b6)
                  have SX := hid (SY.out.below b6 SY.out.lt)
                  clear hwZ b6 hgZ QY SY
                  refine wp_region_fixed (C := fun w' => Below wZ.heap.size wZ w') 8 (Below.refl _ _) ?_
                  simp only [List.take_succ_cons, List.take_zero, List.drop_succ_cons, List.drop_zero]
                  apply kldA tSe
                  · rfl
                  · rfl
                  · exact fun w' hw' => (SX.out.below hw' SX.out.lt).head
                  simp only [Act.put, List.setIfInBounds_toArray, List.set_cons_succ, List.set_cons_zero]
                  apply kldA tSe
                  · rfl
                  · rfl
                  · exact fun w' hw' => (SZ.out.below hw' SZ.out.lt).head
                  simp only [Act.put, List.setIfInBounds_toArray, List.set_cons_succ, List.set_cons_zero]
                  apply kneU false uSe' gSe'
                  · rfl
                  · rfl
                  · rfl
                  · exact (by rw [eqA_yes fun _ _ => rfl]; rfl)
                  simp only [Act.put, List.setIfInBounds_toArray, List.set_cons_succ, List.set_cons_zero]
                  apply wpK_val
                  · rfl
                  · intro w' hw'
                    go_simp
                    first | exact rfl | exact ⟨rfl, hw'⟩
                  simp only [Act.put, List.setIfInBounds_toArray, List.set_cons_succ, List.set_cons_zero]
                  apply wpK_val
                  · rfl
                  · intro w' hw'
                    go_simp
                    first | exact rfl | exact ⟨rfl, hw'⟩
                  simp only [Act.put, List.setIfInBounds_toArray, List.set_cons_succ, List.set_cons_zero]
                  apply wpK_val
                  · rfl
                  · intro w' hw'
                    go_simp
                    first | exact rfl | exact ⟨rfl, hw'⟩
                  simp only [Act.put, List.setIfInBounds_toArray, List.set_cons_succ, List.set_cons_zero]
                  apply wpK_val
                  · rfl
                  · intro w' hw'
                    go_simp
                    first | exact rfl | exact ⟨rfl, hw'⟩
                  simp only [Act.put, List.setIfInBounds_toArray, List.set_cons_succ, List.set_cons_zero]
                  apply wpK_val
                  · rfl
                  · intro w' hw'
                    go_simp
                    first | exact rfl | exact ⟨rfl, hw'⟩
                  simp only [Act.put, List.setIfInBounds_toArray, List.set_cons_succ, List.set_cons_zero]
                  intro wq hCq
                  have QQ := hid (STAY.out _ _ _ _ _ _ ((QZ.out.below hC hCq).mono (Nat.le_refl _) (Nat.le_succ j)))
                  have C9 := hid CW.out.2.2
                  clear hCq SX SZ QZ STAY CW bX
                  go_wp2_with fail
                  go_roundw
                  case rel => exact ⟨j + 1, F2, _, Ms, Is, ms, by go_num, by omega, QQ, C9, G9⟩
                  case measure => simp [intOf] <;> omega
              · have Q9 := hid (STAY.out _ _ _ _ _ _ (Q8.out.mono (by omega) (Nat.le_succ j)))
                have C9 := hid HC2.out.more
                clear Q8 STAY XA KA B8 bX
                rcases h456 with rfl | rfl | rfl
                · have kb' : bits .and .i64 a.d 7 = 4 := kb
                  clear kb kl
                  go_wp2_with fail
                  go_roundw
                  case rel => exact ⟨j + 1, F', b, Ms, Is, ms, by go_num, by omega, Q9, C9, HG⟩
                  case measure => simp [intOf] <;> omega
                · have kb' : bits .and .i64 a.d 7 = 5 := kb
                  clear kb kl
                  go_wp2_with fail
                  go_roundw
                  case rel => exact ⟨j + 1, F', b, Ms, Is, ms, by go_num, by omega, Q9, C9, HG⟩
                  case measure => simp [intOf] <;> omega
                · have kb' : bits .and .i64 a.d 7 = 6 := kb
                  clear kb kl
                  go_wp2_with fail
                  go_roundw
                  case rel => exact ⟨j + 1, F', b, Ms, Is, ms, by go_num, by omega, Q9, C9, HG⟩
                  case measure => simp [intOf] <;> omega
            · have Q9 := hid (STAY.out _ _ _ _ _ _ (Q8.out.mono (by omega) (Nat.le_succ j)))
              have C9 := hid HC2.out.more
              by_cases h0 : a.m < 0
              · have t2 : decide (a.m < 0) = true := by simp; omega
                clear hm Q8 STAY XA KA B8 bX
                go_wp2_with fail
                go_roundw
                case rel => exact ⟨j + 1, F', b, Ms, Is, ms, by go_num, by omega, Q9, C9, HG⟩
                case measure => simp [intOf] <;> omega
              · have t2 : decide (a.m < 0) = false := by simp; omega
                have t3 : decide (1 < a.m) = true := by simp; omega
                have t3' : 1 < a.m := by omega
                clear hm Q8 STAY XA KA B8 bX
                go_wp2_with fail
                go_roundw
                case rel => exact ⟨j + 1, F', b, Ms, Is, ms, by go_num, by omega, Q9, C9, HG⟩
                case measure => simp [intOf] <;> omega
          · have t1 : decide ((j : Int) < (n2 : Int)) = false := by simp; omega
            obtain ⟨s1, hs1⟩ : ∃ x, ms[0]? = some x := ⟨_, List.getElem?_eq_getElem (by rw [HC2.out.two]; omega)⟩
            obtain ⟨s2, hs2⟩ : ∃ x, ms[1]? = some x := ⟨_, List.getElem?_eq_getElem (by rw [HC2.out.two]; omega)⟩
            have hbm := HC2.out.bm
            have Q1 := hid (MbP.memD_ok.mono (HQ.out.pp.mem 0 m1 s1 (by rw [HG.out]; rfl) (by rw [hbm]; exact hs1)) (show j * 32 ≤ 2000 by omega))
            have Q2 := hid (MbP.memD_ok.mono (HQ.out.pp.mem 1 m2 s2 (by rw [HG.out]; rfl) (by rw [hbm]; exact hs2)) (show j * 32 ≤ 2000 by omega))
            have Q3 := hid (MbP.memD_ok.mono (HQ.out.mem 0 a1 s1 rfl hs1) (show j ≤ 2000 by omega))
            have Q4 := hid (MbP.memD_ok.mono (HQ.out.mem 1 a2 s2 rfl hs2) (show j ≤ 2000 by omega))
            have OK1 := hid (HQ.out.ok s1 (List.mem_of_getElem? hs1))
            have OK2 := hid (HQ.out.ok s2 (List.mem_of_getElem? hs2))
            have HU1 := hid (HC2.out.hurt s1 (List.mem_of_getElem? hs1))
            have HU2 := hid (HC2.out.hurt s2 (List.mem_of_getElem? hs2))
            have PB := hid HQ.out.pp
            have OFF := hid HC2.out.off
            have BW9 := hid HQ.out.bel
            have pz0 : wo2.cell? ⟨gA, 0, none⟩ = some (.pointer (some ⟨a1, 0, none⟩)) := HQ.out.cell (pA.out 0 a1 rfl) rfl
            have pz1 : wo2.cell? ⟨gA, 1, none⟩ = some (.pointer (some ⟨a2, 0, none⟩)) := HQ.out.cell (pA.out 1 a2 rfl) rfl
            obtain ⟨w9, hw9⟩ : ∃ z, z = wo2 := ⟨_, rfl⟩
            subst hw9
            have PZ0 := hid pz0
            have PZ1 := hid pz1
            clear hs1 hs2 hbm HQ HC2 HG pz0 pz1
            go_wp2_with fail
            go_loopw [18] (fun u wr => ∃ i : Nat, u = .int .i64 i ∧ i ≤ 4 ∧ Hid (Below w9.heap.size w9 wr)) (fun u _ => 4 - (intOf u).toNat)
            case atStart => exact ⟨0, rfl, by omega, hid (Below.refl _ _)⟩
            case round =>
              obtain ⟨i, rfl, hi, HV⟩ := hrel
              have fr : ∀ {gg : Nat} {M I : Nat → Prop} {st : St} {w' : World}, RepM w9 gg M I 2000 st → Below w9.heap.size w9 w' → RepM w' gg M I 2000 st := fun h hb => MbP.memD_ok.frame h (Turn.of_new (S := fun _ => False) hb) fun _ _ e => e
              by_cases hi4 : i < 4
              · have t3 : (i : Int) < 4 := by omega
                obtain ⟨v1, hv1⟩ : ∃ z, z = lkS s1 (i : Int) := ⟨_, rfl⟩
                obtain ⟨v2, hv2⟩ : ∃ z, z = lkS s2 (i : Int) := ⟨_, rfl⟩
                have HV1 := hid hv1
                have HV2 := hid hv2
                clear hv1 hv2
                go_wp2_with fail
                refine (MbP.memD_ok.look (fr Q1.out HV.out) OK1.out (by omega) (i : Int)).mono ?_
                rintro e uX ⟨rfl, h5⟩
                rw [← HV1.out]
                go_upto_region 36 with (first | (with_reducible apply alA tSe) | ((with_reducible apply stA tSe); rfl; rfl; exact Blk.new _ _ _))
                generalize hwX : World.setRow _ _ _ = wX
                have b6 : Below uX.heap.size uX wX := by rw [← hwX]; exact below_setRow ((Below.refl _ _).alloc (Nat.le_refl _) _) (Nat.le_refl _) _
                have SX := hid (show Blk wX uX.heap.size 30 (ar 64 v1) by rw [← hwX]; exact (Blk.new uX _ _).setRow_same _)
                replace HV := hid (HV.out.trans ((h5.trans (b6.mono h5.size)).mono HV.out.size))
                obtain ⟨gX, hgX⟩ : ∃ n, n = uX.heap.size := ⟨_, rfl⟩
                rw [← hgX] at SX ⊢
                clear hwX b6 h5 hgX
                have pc0 : wX.cell? ⟨gA, 0, none⟩ = some (.pointer (some ⟨a1, 0, none⟩)) := (HV.out.cell (p := ⟨gA, 0, none⟩) (World.block_lt_of_cell? w9 _ PZ0.out)).trans PZ0.out
                go_wp2_with fail
                refine (MbP.memD_ok.look (fr Q3.out HV.out) OK1.out (by omega) (i : Int)).mono ?_
                rintro e uY ⟨rfl, h5⟩
                rw [← HV1.out]
                clear pc0
                go_upto_region 37 with (first | (with_reducible apply alA tSe) | ((with_reducible apply stA tSe); rfl; rfl; exact Blk.new _ _ _))
                generalize hwY : World.setRow _ _ _ = wY
                have b6 : Below uY.heap.size uY wY := by rw [← hwY]; exact below_setRow ((Below.refl _ _).alloc (Nat.le_refl _) _) (Nat.le_refl _) _
                have SY := hid (show Blk wY uY.heap.size 30 (ar 64 v1) by rw [← hwY]; exact (Blk.new uY _ _).setRow_same _)
                replace SX := hid (SX.out.below (h5.trans (b6.mono h5.size)) SX.out.lt)
                replace HV := hid (HV.out.trans ((h5.trans (b6.mono h5.size)).mono HV.out.size))
                obtain ⟨gY, hgY⟩ : ∃ n, n = uY.heap.size := ⟨_, rfl⟩
                rw [← hgY] at SY ⊢
                clear hwY b6 h5 hgY
                go_wp2_with fail
                refine (MbP.memD_ok.look (fr Q2.out HV.out) OK2.out (by omega) (i : Int)).mono ?_
                rintro e uZ ⟨rfl, h5⟩
                rw [← HV2.out]
                go_upto_region 38 with (first | (with_reducible apply alA tSe) | ((with_reducible apply stA tSe); rfl; rfl; exact Blk.new _ _ _))
                generalize hwZ : World.setRow _ _ _ = wZ
                have b6 : Below uZ.heap.size uZ wZ := by rw [← hwZ]; exact below_setRow ((Below.refl _ _).alloc (Nat.le_refl _) _) (Nat.le_refl _) _
                have SZ := hid (show Blk wZ uZ.heap.size 30 (ar 64 v2) by rw [← hwZ]; exact (Blk.new uZ _ _).setRow_same _)
                replace SX := hid (SX.out.below (h5.trans (b6.mono h5.size)) SX.out.lt)
                replace SY := hid (SY.out.below (h5.trans (b6.mono h5.size)) SY.out.lt)
                replace HV := hid (HV.out.trans ((h5.trans (b6.mono h5.size)).mono HV.out.size))
                obtain ⟨gZ, hgZ⟩ : ∃ n, n = uZ.heap.size := ⟨_, rfl⟩
                rw [← hgZ] at SZ ⊢
                clear hwZ b6 h5 hgZ
                have pc1 : wZ.cell? ⟨gA, 1, none⟩ = some (.pointer (some ⟨a2, 0, none⟩)) := (HV.out.cell (p := ⟨gA, 1, none⟩) (World.block_lt_of_cell? w9 _ PZ1.out)).trans PZ1.out
                go_wp2_with fail
                refine (MbP.memD_ok.look (fr Q4.out HV.out) OK2.out (by omega) (i : Int)).mono ?_
                rintro e uT ⟨rfl, h5⟩
                rw [← HV2.out]
                clear pc1
                go_upto_region 39 with (first | (with_reducible apply alA tSe) | ((with_reducible apply stA tSe); rfl; rfl; exact Blk.new _ _ _))
                generalize hwT : World.setRow _ _ _ = wT
                have b6 : Below uT.heap.size uT wT := by rw [← hwT]; exact below_setRow ((Below.refl _ _).alloc (Nat.le_refl _) _) (Nat.le_refl _) _
                have ST := hid (show Blk wT uT.heap.size 30 (ar 64 v2) by rw [← hwT]; exact (Blk.new uT _ _).setRow_same _)
                replace SX := hid (SX.out.below (h5.trans (b6.mono h5.size)) SX.out.lt)
                replace SY := hid (SY.out.below (h5.trans (b6.mono h5.size)) SY.out.lt)
                replace SZ := hid (SZ.out.below (h5.trans (b6.mono h5.size)) SZ.out.lt)
                replace HV := hid (HV.out.trans ((h5.trans (b6.mono h5.size)).mono HV.out.size))
                obtain ⟨gT, hgT⟩ : ∃ n, n = uT.heap.size := ⟨_, rfl⟩
                rw [← hgT] at ST ⊢
                clear hwT b6 h5 hgT
                refine wp_region_fixed (C := fun w' => Below wT.heap.size wT w') 8 (Below.refl _ _) ?_
                simp only [List.take_succ_cons, List.take_zero, List.drop_succ_cons, List.drop_zero]
                apply kldA tSe
                · rfl
                · rfl
                · exact fun w' hw' => (SX.out.below hw' SX.out.lt).head
                simp only [Act.put, List.setIfInBounds_toArray, List.set_cons_succ, List.set_cons_zero]
                apply kldA tSe
                · rfl
                · rfl
                · exact fun w' hw' => (SY.out.below hw' SY.out.lt).head
                simp only [Act.put, List.setIfInBounds_toArray, List.set_cons_succ, List.set_cons_zero]
                apply kneU false uSe' gSe'
                · rfl
                · rfl
                · rfl
                · exact (by rw [eqA_yes fun _ _ => rfl]; rfl)
                simp only [Act.put, List.setIfInBounds_toArray, List.set_cons_succ, List.set_cons_zero]
                apply wpK_val
                · rfl
                · intro w' hw'
                  go_simp
                  first | exact rfl | exact ⟨rfl, hw'⟩
                simp only [Act.put, List.setIfInBounds_toArray, List.set_cons_succ, List.set_cons_zero]
                apply kldA tSe
                · rfl
                · rfl
                · exact fun w' hw' => (SZ.out.below hw' SZ.out.lt).head
                simp only [Act.put, List.setIfInBounds_toArray, List.set_cons_succ, List.set_cons_zero]
                apply kldA tSe
                · rfl
                · rfl
                · exact fun w' hw' => (ST.out.below hw' ST.out.lt).head
                simp only [Act.put, List.setIfInBounds_toArray, List.set_cons_succ, List.set_cons_zero]
                apply kneU false uSe' gSe'
                · rfl
                · rfl
                · rfl
                · exact (by rw [eqA_yes fun _ _ => rfl]; rfl)
                simp only [Act.put, List.setIfInBounds_toArray, List.set_cons_succ, List.set_cons_zero]
                apply wpK_val
                · rfl
                · intro w' hw'
                  go_simp
                  first | exact rfl | exact ⟨rfl, hw'⟩
                simp only [Act.put, List.setIfInBounds_toArray, List.set_cons_succ, List.set_cons_zero]
                intro wq hCq
                have HVq := hid (HV.out.trans (hCq.mono HV.out.size))
                clear hCq SX SY SZ ST HV HV1 HV2 fr
                go_wp2_with fail
                go_roundw
                case rel => exact ⟨i + 1, by go_num, by omega, HVq⟩
                case measure => simp [intOf] <;> omega
              · have t3 : decide ((i : Int) < 4) = false := by simp; omega
                have U1 := hid (show ∀ w', Below w9.heap.size w9 w' → Calls Try.prog 31 #[.pointer (some ⟨m1, 0, none⟩)] w' fun e w2 => e = .returned (.bool false) ∧ Below w'.heap.size w' w2 from fun w' hb => by have := MbP.memD_ok.touched (fr Q1.out hb); rw [HU1.out] at this; exact this)
                have U2 := hid (show ∀ w', Below w9.heap.size w9 w' → Calls Try.prog 31 #[.pointer (some ⟨m2, 0, none⟩)] w' fun e w2 => e = .returned (.bool false) ∧ Below w'.heap.size w' w2 from fun w' hb => by have := MbP.memD_ok.touched (fr Q2.out hb); rw [HU2.out] at this; exact this)
                have U3 := hid (show ∀ w', Below w9.heap.size w9 w' → Calls Try.prog 15 #[.pointer (some ⟨g, 0, none⟩)] w' fun e w2 => e = .returned (.bool false) ∧ Below w'.heap.size w' w2 from fun w' hb => by have := hC.off (PB.out.below hC hb); rw [OFF.out] at this; exact this)
                clear Q1 Q2 Q3 Q4 OK1 OK2 fr HU1 HU2 PB OFF
                go_wp2_with fail
                refine (U1.out wr HV.out).mono ?_
                rintro e wa ⟨rfl, ha⟩
                have VA := hid (HV.out.trans (ha.mono HV.out.size))
                clear ha
                go_wp2_with fail
                refine (U2.out wa VA.out).mono ?_
                rintro e wb ⟨rfl, hb⟩
                have VB := hid (VA.out.trans (hb.mono VA.out.size))
                clear hb
                go_wp2_with fail
                refine (U3.out wb VB.out).mono ?_
                rintro e wc ⟨rfl, hc⟩
                have VC := hid (VB.out.trans (hc.mono VB.out.size))
                clear hc VA VB HV U1 U2 U3
                go_wp2_with fail
                refine (awake_any hC wc).mono ?_
                rintro e wx ⟨rfl, h7⟩
                have B7 := hid ((BW9.out.trans (VC.out.mono BW9.out.size)).trans (h7.mono (Nat.le_trans BW9.out.size VC.out.size)))
                clear h7 VC BW9
                go_wp2_with fail
                go_ret
                exact ⟨rfl, B7.out⟩
end BuP
end Go.Proofs.Ytablkaofaedpeaa
