/-
  Slices of structs of k cells that come in.
  What comes in to the laws of chapter 13: rows of acts; bytes.
  The log of a bus, done again on other members, in plain words; members of the program's, alone.
  The law BusReplay: the writes and flushes of the log that are OK, done again on new members, make them the same.
-/
import Derived.Test.YtablkaofaedpeaaMrg5
import Derived.Deep.Strs
set_option linter.unusedVariables false
set_option linter.unusedSimpArgs false
set_option maxRecDepth 100000
namespace Go.Proofs.Ytablkaofaedpeaa
open Go.ChangeShapes Go.WideShapes Go.ChangeAt Go.RowKit Go.Deep
/-- A slice of structs of k cells, in one row below block B. -/
def Elems (k : Nat) (w : World) (B : Nat) (A : Option Addr) (xs : List (List Value)) : Prop :=
  0 < xs.length → ∃ b o, A = some ⟨b, o, none⟩ ∧ b < B ∧ ∀ (i : Nat) (cs : List Value), xs[i]? = some cs → ∀ (j : Nat) (v : Value), cs[j]? = some v → w.cell? ⟨b, o + i * k + j, none⟩ = some v
theorem Elems.below {k B B' : Nat} {w w' : World} {A : Option Addr} {xs : List (List Value)} (h : Elems k w B A xs) (hb : Below B' w w') (hB : B ≤ B') : Elems k w' B A xs := fun hn => by
  obtain ⟨b, o, rfl, hl, hr⟩ := h hn
  exact ⟨b, o, rfl, hl, fun i cs hi j v hj => (hb.cell (p := ⟨b, o + i * k + j, none⟩) (by show b < B'; omega)).trans (hr i cs hi j v hj)⟩
section
variable {H : Type} {enc : TypeId × Value → H} {w : World} {base : Nat} {spare : Nat → Bool} {held : Bool}
theorem open_elems {S E : TypeId} {k : Nat} {R : List Value → Prop} {r : Reach} {b0 : Nat} {v : Value} {d : DataW H} {p : List MemPlace} (hS : Try.prog.underlying S = some (.slice E)) (hk : Try.prog.cellsOf E = k) (hk0 : 0 < k)
    (hR : ∀ (fuel : Nat) (cs : List Value) (x : DataW H × List MemPlace), DataW.trod enc Try.prog w base spare held fuel E cs = some x → cs.length = k → R cs)
    (hv : Value.okWide Try.prog w r b0 S v) (h : DataW.Trod enc Try.prog w base spare held S v d p) :
    ∃ (A : Option Addr) (xs : List (List Value)) (n cap : Nat), v = .slice A n cap ∧ xs.length = n ∧ n ≤ cap ∧ cap ≤ maxLen ∧ (∀ cs ∈ xs, R cs ∧ cs.length = k) ∧ Elems k w w.heap.size A xs ∧ (A = none → n = 0 ∧ cap = 0) := by
  obtain ⟨A, n, cap, rfl⟩ := okWide_slice hS hv
  obtain ⟨fuel, hf⟩ := h
  rcases open_slice hS hf with ⟨hcs, _⟩ | ⟨a, len, cap', m, fu, D, Pl, hcs, hb, hl, hm, hmm, hx, hi⟩
  · simp [Value.cells] at hcs
    obtain ⟨rfl, rfl, rfl⟩ := hcs
    exact ⟨none, [], 0, 0, rfl, rfl, Nat.le_refl _, Nat.zero_le _, (fun x hx => by cases hx), (fun h => absurd h (by simp)), fun _ => ⟨rfl, rfl⟩⟩
  · simp [Value.cells] at hcs
    obtain ⟨rfl, rfl, rfl⟩ := hcs
    have hnm : n ≤ m := by rw [hmm]; split <;> omega
    have one : ∀ i, i < n → ∃ cs : List Value, R cs ∧ cs.length = k ∧ ∀ j, j < k → w.cell? (a.add (i * k + j)) = cs[j]? := fun i hin => by
      obtain ⟨cs', hc, ht⟩ := hi i (by omega)
      have h3 := World.cells?_some hc
      rw [hk] at h3
      refine ⟨cs', hR fu cs' _ ht h3.2.1, h3.2.1, fun j hj => ?_⟩
      have h6 := h3.2.2 j hj
      rw [Go.Deep.add_add] at h6
      exact h6
    obtain ⟨F, hF⟩ := choose_lt one
    have hg : ∀ i, ((List.range n).map F)[i]? = if i < n then some (F i) else none := fun i => by
      by_cases hi : i < n
      · rw [if_pos hi, List.getElem?_map, List.getElem?_range hi]; rfl
      · rw [if_neg hi, List.getElem?_eq_none (by simp; omega)]
    refine ⟨some a, (List.range n).map F, n, cap, rfl, by simp, hl, hm, fun l hl2 => ?_, fun hn => ?_, fun h => by cases h⟩
    · obtain ⟨i, hi2, rfl⟩ := List.mem_map.1 hl2
      exact ⟨(hF i (List.mem_range.1 hi2)).1, (hF i (List.mem_range.1 hi2)).2.1⟩
    · have hn' : 0 < n := by simpa using hn
      obtain ⟨_, h1, h0⟩ := hF 0 hn'
      have h00 := h0 0 hk0
      rw [List.getElem?_eq_getElem (by omega)] at h00
      have hsp : a.spot = none := by
        simp only [Nat.zero_mul, Nat.zero_add, Addr.add, if_true] at h00
        unfold World.cell? at h00
        split at h00
        · cases hs : a.spot with
          | none => rfl
          | some s => simp [hs] at h00
        · cases h00
      have hblk : a.block < w.heap.size := by
        have := World.block_lt_of_cell? w _ h00
        simpa [Addr.add] using this
      obtain ⟨b, o, sp⟩ := a
      subst hsp
      refine ⟨b, o, rfl, hblk, fun i cs hi2 j v hj => ?_⟩
      rw [hg] at hi2
      split at hi2
      · rename_i hin
        obtain rfl := Option.some.inj hi2
        obtain ⟨_, h1, h2⟩ := hF i hin
        have hjk : j < k := by have := (List.getElem?_eq_some_iff.1 hj).1; omega
        have h3 := h2 j hjk
        rw [Addr.add_mid, hj, ← Nat.add_assoc] at h3
        exact h3
      · cases hi2
end
end Go.Proofs.Ytablkaofaedpeaa
set_option maxRecDepth 100000
namespace Go.Proofs.Ytablkaofaedpeaa
open Go.ChangeShapes Go.WideShapes Go.ChangeAt Go.RowKit Go.Deep
namespace BuP
open MbP
theorem cells_ab : Try.prog.cellsOf 70 = 99 := by kernel_rfl
theorem cells_se13 : Try.prog.cellsOf 30 = 64 := by kernel_rfl
theorem cells_tg13 : Try.prog.cellsOf 41 = 32 := by kernel_rfl
theorem cells_i13 : Try.prog.cellsOf 3 = 1 := by kernel_rfl
theorem at_one13 {l : List Value} {o : Nat} {v : Value} (h : (l.drop o).take 1 = [v]) : l[o]? = some v := by
  have h1 : ((l.drop o).take 1)[0]? = some v := by rw [h]; rfl
  rwa [List.getElem?_take_of_lt (by omega), List.getElem?_drop] at h1
theorem at_ar13 {l : List Value} {o m j : Nat} {f : Nat → Nat} (h : (l.drop o).take m = (ar m f).toList) (hj : j < m) : l[o + j]? = some (.int .u8 (f j : Nat)) := by
  have h1 : ((l.drop o).take m)[j]? = some (.int .u8 (f j : Nat)) := by rw [h, Array.getElem?_toList, get_ar hj]
  rwa [List.getElem?_take_of_lt hj, List.getElem?_drop] at h1
theorem ab_get (a : ActB) (j : Nat) (hj : j < 99) : (abL a)[j]? = some (if j = 0 then .int .i64 a.d else if j = 1 then .int .i64 a.m else if j = 2 then .int .i64 a.i else if j < 67 then .int .u8 (a.s (j - 3) : Nat) else .int .u8 (a.t (j - 67) : Nat)) := by
  unfold abL
  rcases j with _ | _ | _ | j
  · rfl
  · rfl
  · rfl
  · rw [List.getElem?_cons_succ, List.getElem?_cons_succ, List.getElem?_cons_succ, if_neg (by omega), if_neg (by omega), if_neg (by omega)]
    by_cases h : j < 64
    · rw [if_pos (by omega), List.getElem?_append_left (by rw [ar64_len]; exact h), ar64, Array.getElem?_toList, get_ar h]; rfl
    · rw [if_neg (by omega), List.getElem?_append_right (by rw [ar64_len]; omega), ar64_len, Array.getElem?_toList, get_ar (by omega), show j + 1 + 1 + 1 - 67 = j - 64 by omega]
section
variable {H : Type} {enc : TypeId × Value → H} {w : World} {base : Nat} {spare : Nat → Bool} {held : Bool}
set_option maxRecDepth 100000 in
theorem trod_ab {fuel : Nat} {cs : List Value} {x : DataW H × List MemPlace} (h : DataW.trod enc Try.prog w base spare held fuel 70 cs = some x) : ∃ y : ActB, (∀ j, y.s j < 256) ∧ cs = abL y := by
  obtain ⟨xs, n, _, rfl, hl, hlen, hf⟩ := DataW.trod_struct Try.underlying70 h
  rw [cells_ab] at hl
  match xs, hlen with
  | [y0, y1, y2, y3, y4], _ =>
    have h0 : DataW.trod enc Try.prog w base spare held n 3 ((cs.drop 0).take (Try.prog.cellsOf 3)) = some y0 := hf 0 _ rfl
    have h1 : DataW.trod enc Try.prog w base spare held n 3 ((cs.drop 1).take (Try.prog.cellsOf 3)) = some y1 := hf 1 _ rfl
    have h2 : DataW.trod enc Try.prog w base spare held n 3 ((cs.drop 2).take (Try.prog.cellsOf 3)) = some y2 := hf 2 _ rfl
    have h3 : DataW.trod enc Try.prog w base spare held n 30 ((cs.drop 3).take (Try.prog.cellsOf 30)) = some y3 := hf 3 _ rfl
    have h4 : DataW.trod enc Try.prog w base spare held n 41 ((cs.drop 67).take (Try.prog.cellsOf 41)) = some y4 := hf 4 _ rfl
    rw [cells_i13] at h0 h1 h2
    rw [cells_se13] at h3
    rw [cells_tg13] at h4
    obtain ⟨d, e0, _, _⟩ := DataW.trod_int Try.underlying3 h0
    obtain ⟨m, e1, _, _⟩ := DataW.trod_int Try.underlying3 h1
    obtain ⟨i, e2, _, _⟩ := DataW.trod_int Try.underlying3 h2
    obtain ⟨f, hf3, e3⟩ := trod_ar uSe' cells_se13 h3
    obtain ⟨t, _, e4⟩ := trod_ar ClP.uTg cells_tg13 h4
    refine ⟨⟨d, m, i, f, t⟩, hf3, ?_⟩
    apply List.ext_getElem?
    intro j
    have r0 := at_one13 e0
    have r1 := at_one13 e1
    have r2 := at_one13 e2
    by_cases hj : j < 99
    · rw [ab_get _ j hj]
      by_cases c0 : j = 0
      · rw [if_pos c0, c0]; exact r0
      · rw [if_neg c0]
        by_cases c1 : j = 1
        · rw [if_pos c1, c1]; exact r1
        · rw [if_neg c1]
          by_cases c2 : j = 2
          · rw [if_pos c2, c2]; exact r2
          · rw [if_neg c2]
            by_cases c3 : j < 67
            · rw [if_pos c3]
              have := at_ar13 e3 (show j - 3 < 64 by omega)
              rwa [show 3 + (j - 3) = j by omega] at this
            · rw [if_neg c3]
              have := at_ar13 e4 (show j - 67 < 32 by omega)
              rwa [show 67 + (j - 67) = j by omega] at this
    · rw [List.getElem?_eq_none (by omega), List.getElem?_eq_none (by rw [abL_len]; omega)]
theorem sli_of_elemsP {α : Type} {P : α → Prop} {k n cap : Nat} {en : α → List Value} {A : Option Addr} {xs : List (List Value)} (hn : xs.length = n) (hc : n ≤ cap) (hm : cap ≤ maxLen) (hx : ∀ cs ∈ xs, ∃ x, P x ∧ cs = en x) (he : Elems k w w.heap.size A xs) (h0 : A = none → n = 0 ∧ cap = 0) :
    ∃ l : List α, (∀ x ∈ l, P x) ∧ Sli k en (fun b => b < w.heap.size) w A l n cap := by
  have key : ∀ ys : List (List Value), (∀ cs ∈ ys, ∃ x, P x ∧ cs = en x) → ∃ l : List α, (∀ x ∈ l, P x) ∧ ys = l.map en := fun ys => by
    induction ys with
    | nil => exact fun _ => ⟨[], fun _ h => (by cases h), rfl⟩
    | cons y ys ih =>
      intro h
      obtain ⟨x, hp, hx⟩ := h y List.mem_cons_self
      obtain ⟨l, hl1, hl⟩ := ih fun cs hcs => h cs (List.mem_cons_of_mem _ hcs)
      refine ⟨x :: l, fun z hz => ?_, by rw [List.map_cons, ← hx, ← hl]⟩
      rcases List.mem_cons.1 hz with e | e
      · rw [e]; exact hp
      · exact hl1 z e
  obtain ⟨l, hp, rfl⟩ := key xs hx
  rw [List.length_map] at hn
  refine ⟨l, hp, hn, hc, hm, h0, fun hp => ?_⟩
  obtain ⟨b, o, e, hb, hr⟩ := he (by rw [List.length_map]; exact hp)
  exact ⟨b, o, e, hb, hb, fun i x hi j v hj => hr i (en x) (by rw [List.getElem?_map, hi]; rfl) j v hj⟩
theorem open_b13 {r : Reach} {b0 : Nat} {v : Value} {d : DataW H} {p : List MemPlace} (hv : Value.okWide Try.prog w r b0 5 v) (h : DataW.Trod enc Try.prog w base spare held 5 v d p) : ∃ x : Nat, v = .int .u8 x ∧ x < 256 := by
  obtain ⟨a, rfl, _, _, wf⟩ := Go.ChangeShapes.open_int Try.underlying5 hv h
  obtain ⟨n, rfl, hn⟩ := u8_wf wf
  exact ⟨n, rfl, hn⟩
theorem open_acts13 {r : Reach} {b0 : Nat} {v : Value} {d : DataW H} {p : List MemPlace} (hv : Value.okWide Try.prog w r b0 64 v) (h : DataW.Trod enc Try.prog w base spare held 64 v d p) :
    ∃ (A : Option Addr) (la : List ActB) (n cap : Nat), v = .slice A n cap ∧ (∀ a ∈ la, ∀ j, a.s j < 256) ∧ Sli 99 abL (fun b => b < w.heap.size) w A la n cap := by
  obtain ⟨A, xs, n, cap, rfl, hlen, hc, hm, hR, he, h0⟩ := open_elems (k := 99) (R := fun cs => ∃ y : ActB, (∀ j, y.s j < 256) ∧ cs = abL y) Try.underlying64 cells_ab (by omega) (fun fuel cs x h _ => trod_ab h) hv h
  obtain ⟨l, hp, hl⟩ := sli_of_elemsP (P := fun a : ActB => ∀ j, a.s j < 256) hlen hc hm (fun cs hcs => (hR cs hcs).1) he h0
  exact ⟨A, l, n, cap, rfl, hp, hl⟩
end
end BuP
end Go.Proofs.Ytablkaofaedpeaa
set_option maxRecDepth 100000
namespace Go.Proofs.Ytablkaofaedpeaa
open Go.ChangeShapes Go.WideShapes Go.ChangeAt Go.RowKit
attribute [local go_sem] Gives GivesE
namespace BuP
open BuM MbM MbP
/-- An entry done again. -/
def rep1 (ms : List St) (x : BuM.Ent) : List St :=
  if x.e = 0 then (if x.d = 2 then ms.set x.m.toNat (MbM.wrT (BuM.at' ms x.m) x.i x.s) else if x.d = 3 then ms.set x.m.toNat (MbM.flT (BuM.at' ms x.m)) else ms) else ms
def repl (ms : List St) (L : List BuM.Ent) : List St := L.foldl rep1 ms
theorem repl_snoc (ms : List St) (L : List BuM.Ent) (x : BuM.Ent) : repl ms (L ++ [x]) = rep1 (repl ms L) x := by unfold repl; rw [List.foldl_append]; rfl
theorem set_at {ms : List St} {mi : Nat} (h : mi < ms.length) : ms.set ((mi : Int).toNat) (BuM.at' ms (mi : Int)) = ms := by
  rw [at_of (List.getElem?_eq_getElem h), Int.toNat_natCast, List.set_getElem_self]
theorem wrT_bad {st : St} {i : Int} {x : Nat → Nat} (h : rdE st i ≠ 0) : MbM.wrT st i x = st := by
  unfold MbM.wrT
  unfold rdE at h
  split
  · rename_i h1
    rw [if_pos h1] at h
    split
    · rfl
    · rename_i h2; rw [if_neg h2] at h; exact absurd rfl h
  · rfl
theorem flT_bad {st : St} (h : MbM.flE st ≠ 0) : MbM.flT st = st := by
  unfold MbM.flT
  unfold MbM.flE at h
  split
  · rfl
  · rename_i h2; rw [if_neg h2] at h; exact absurd rfl h
/-- Without steps the members are what the log says. -/
theorem ov_rep {b : Bs} (hs : b.steps = []) (a : ActB) (K : Nat) {ms0 : List St} (h : b.ms = repl ms0 b.log) : (ovB b a K).ms = repl ms0 (ovB b a K).log := by
  have hn : BuM.ahead b = b := ahead_none fun s hs' => by rw [hs] at hs'; cases hs'
  unfold ovB
  have wr : (BuM.wrT b a.m a.i a.s).ms = repl ms0 (BuM.wrT b a.m a.i a.s).log := by
    unfold BuM.wrT
    rw [hn]
    show (BuM.wrM b a.m a.i a.s).ms = repl ms0 ((BuM.wrM b a.m a.i a.s).log ++ [BuM.wrB b a.m a.i a.s])
    rw [(wrM_same b a.m a.i a.s).2.1, repl_snoc, ← h]
    unfold BuM.wrM BuM.wrB rep1 BuM.upd
    by_cases hm : BuM.may b a.m = 0
    · obtain ⟨_, mi, hmi, hlt⟩ := may_zero hm
      simp only [if_pos hm]
      by_cases he : rdE (BuM.at' b.ms a.m) a.i = 0
      · rw [if_pos he, if_pos trivial]
      · rw [if_neg he, wrT_bad he, hmi, set_at hlt]
    · simp only [if_neg hm]
  have fl : (BuM.flT b a.m).ms = repl ms0 (BuM.flT b a.m).log := by
    unfold BuM.flT
    rw [hn]
    show (BuM.flM b a.m).ms = repl ms0 ((BuM.flM b a.m).log ++ [BuM.flB b a.m])
    rw [(flM_same b a.m).2.1, repl_snoc, ← h]
    unfold BuM.flM BuM.flB rep1 BuM.upd
    by_cases hm : BuM.may b a.m = 0
    · obtain ⟨_, mi, hmi, hlt⟩ := may_zero hm
      simp only [if_pos hm]
      by_cases he : MbM.flE (BuM.at' b.ms a.m) = 0
      · rw [if_pos he, if_neg (by omega), if_pos trivial]
      · rw [if_neg he, flT_bad he, hmi, set_at hlt]
    · simp only [if_neg hm]
  split
  · exact wr
  · exact wr
  · exact fl
  · unfold BuM.ceT; rw [hn]
    show b.ms = repl ms0 (b.log ++ [BuM.ceB b])
    rw [repl_snoc, ← h]; unfold rep1
    have : (BuM.ceB b).d = 4 := by unfold BuM.ceB; split <;> rfl
    rw [this]; split <;> rfl
  · unfold BuM.adT; rw [hn]
    show (BuM.adM b a.t).ms = repl ms0 ((BuM.adM b a.t).log ++ [BuM.adB b a.t])
    rw [(adM_same b a.t).2.1, (adM_same b a.t).2.2.2, repl_snoc, ← h]; unfold rep1
    have : (BuM.adB b a.t).d = 5 := rfl
    rw [this]; split <;> rfl
  · exact h
  · unfold BuM.rdT; rw [hn]
    show b.ms = repl ms0 (b.log ++ [BuM.rdB b a.m a.i])
    rw [repl_snoc, ← h]; unfold rep1
    have : (BuM.rdB b a.m a.i).d = 1 := by unfold BuM.rdB; split <;> rfl
    rw [this]; split <;> rfl
/-- What is sure of an entry. -/
def okEnt (n : Nat) (x : BuM.Ent) : Prop := (x.d = 2 → ∀ j, x.s j < 256) ∧ (x.e = 0 → x.d = 2 ∨ x.d = 3 → ∃ mi : Nat, x.m = mi ∧ mi < n)
theorem ov_okE {b : Bs} (hs : b.steps = []) (a : ActB) (ha : ∀ j, a.s j < 256) (K : Nat) (h : ∀ x ∈ b.log, okEnt b.ms.length x) : ∀ x ∈ (ovB b a K).log, okEnt b.ms.length x := by
  have hn : BuM.ahead b = b := ahead_none fun s hs' => by rw [hs] at hs'; cases hs'
  have app : ∀ (L : List BuM.Ent) (y : BuM.Ent), L = b.log → okEnt b.ms.length y → ∀ x ∈ L ++ [y], okEnt b.ms.length x := fun L y e hy x hx => by
    rw [List.mem_append, List.mem_singleton] at hx
    rcases hx with hx | hx
    · exact h x (e ▸ hx)
    · rw [hx]; exact hy
  have wr : ∀ x ∈ (BuM.wrT b a.m a.i a.s).log, okEnt b.ms.length x := by
    unfold BuM.wrT
    rw [hn]
    refine app _ _ (wrM_same b a.m a.i a.s).2.1 ⟨fun _ => ha, fun he _ => ?_⟩
    have hm : BuM.may b a.m = 0 := by
      have he' : (if BuM.may b a.m = 0 then rdE (BuM.at' b.ms a.m) a.i else BuM.may b a.m) = 0 := he
      by_cases e : BuM.may b a.m = 0
      · exact e
      · rw [if_neg e] at he'; exact absurd he' e
    exact (may_zero hm).2
  have oth : ∀ y : BuM.Ent, y.d ≠ 2 → y.d ≠ 3 → okEnt b.ms.length y := fun y h2 h3 => ⟨fun e => absurd e h2, fun _ e => e.elim (fun e => absurd e h2) fun e => absurd e h3⟩
  unfold ovB
  split
  · exact wr
  · exact wr
  · unfold BuM.flT
    rw [hn]
    refine app _ _ (flM_same b a.m).2.1 ⟨fun e => absurd (show (3 : Int) = 2 from e) (by omega), fun he _ => ?_⟩
    have hm : BuM.may b a.m = 0 := by
      have he' : (if BuM.may b a.m = 0 then MbM.flE (BuM.at' b.ms a.m) else BuM.may b a.m) = 0 := he
      by_cases e : BuM.may b a.m = 0
      · exact e
      · rw [if_neg e] at he'; exact absurd he' e
    exact (may_zero hm).2
  · unfold BuM.ceT; rw [hn]
    have : (BuM.ceB b).d = 4 := by unfold BuM.ceB; split <;> rfl
    exact app _ _ rfl (oth _ (by rw [this]; omega) (by rw [this]; omega))
  · unfold BuM.adT; rw [hn]
    exact app _ _ (adM_same b a.t).2.1 (oth _ (show (5 : Int) ≠ 2 by omega) (show (5 : Int) ≠ 3 by omega))
  · exact h
  · unfold BuM.rdT; rw [hn]
    have : (BuM.rdB b a.m a.i).d = 1 := by unfold BuM.rdB; split <;> rfl
    exact app _ _ rfl (oth _ (by rw [this]; omega) (by rw [this]; omega))
/-- Members of the program's that are told things, apart from all that lies in blocks of X. -/
structure Fr (B : Nat) (X : Nat → Prop) (w : World) (gs : List Nat) (Ms Is : Nat → Nat → Prop) (k : Nat) (ms : List St) : Prop where
  len : gs.length = ms.length
  mem : ∀ (i gi : Nat) (st : St), gs[i]? = some gi → ms[i]? = some st → RepM w gi (Ms i) (Is i) k st
  ok : okM ms
  ap : ∀ i j q, i < gs.length → j < gs.length → i ≠ j → Ms i q → ¬ (Ms j q ∨ Is j q)
  low : ∀ i q, i < gs.length → Ms i q → B ≤ q ∧ ¬ X q
  xlt : ∀ q, X q → q < w.heap.size
  base : B ≤ w.heap.size
section
variable {B : Nat} {X : Nat → Prop} {w w' : World} {gs : List Nat} {Ms Is : Nat → Nat → Prop} {k : Nat} {ms : List St}
theorem Fr.below (H : Fr B X w gs Ms Is k ms) (hb : Below w.heap.size w w') : Fr B X w' gs Ms Is k ms where
  len := H.len
  mem i gi st h1 h2 := MbP.memD_ok.frame (H.mem i gi st h1 h2) (Turn.of_new (S := fun _ => False) hb) fun _ _ e => e
  ok := H.ok
  ap := H.ap
  low := H.low
  xlt q e := Nat.lt_of_lt_of_le (H.xlt q e) hb.size
  base := Nat.le_trans H.base hb.size
theorem Fr.put (H : Fr B X w gs Ms Is k ms) {j gj k' : Nat} {st' : St} (hk : k ≤ k') (hj : gs[j]? = some gj) (hok : st'.ok) (ho : outP RepM w gj (Ms j) (Is j) k' st' w') :
    ∃ Ms' Is', Fr B X w' gs Ms' Is' k' (ms.set j st') ∧ Turn (fun q => B ≤ q ∧ ¬ X q) w w' := by
  obtain ⟨M', I', h1, h2, h3, h4⟩ := ho
  have hjl := (List.getElem?_eq_some_iff.1 hj).1
  have lt : ∀ i q, i < gs.length → Ms i q ∨ Is i q → q < w.heap.size := fun i q hi e =>
    MbP.memD_ok.lt (H.mem i _ _ (List.getElem?_eq_getElem hi) (List.getElem?_eq_getElem (by rw [← H.len]; exact hi))) q e
  refine ⟨fun i => if i = j then M' else Ms i, fun i => if i = j then I' else Is i, ?_, h4.mono fun q e => H.low j q hjl e⟩
  refine { len := by rw [List.length_set]; exact H.len, mem := fun i gi st e1 e2 => ?_, ok := set_ok H.ok j hok, ap := fun i l q hi hl hne e e2 => ?_, low := fun i q hi e => ?_, xlt := fun q e => Nat.lt_of_lt_of_le (H.xlt q e) h4.size, base := Nat.le_trans H.base h4.size }
  · by_cases e : i = j
    · subst e
      rw [hj] at e1
      cases e1
      rw [List.getElem?_set_self (by rw [← H.len]; exact hjl)] at e2
      cases e2
      rw [if_pos rfl, if_pos rfl]
      exact h1
    · rw [List.getElem?_set_ne (fun x => e x.symm)] at e2
      rw [if_neg e, if_neg e]
      exact MbP.memD_ok.mono (MbP.memD_ok.frame (H.mem i gi st e1 e2) h4 fun q x y => H.ap j i q hjl (List.getElem?_eq_some_iff.1 e1).1 (fun z => e z.symm) y x) hk
  · replace e : (if i = j then M' else Ms i) q := e
    replace e2 : (if l = j then M' else Ms l) q ∨ (if l = j then I' else Is l) q := e2
    by_cases c : i = j
    · rw [if_pos c] at e
      rw [if_neg (fun z => hne (c.trans z.symm)), if_neg (fun z => hne (c.trans z.symm))] at e2
      rcases h2 q e with x | x
      · exact H.ap j l q hjl hl (fun z => hne (c.trans z)) x e2
      · have := lt l q hl e2; omega
    · rw [if_neg c] at e
      by_cases d : l = j
      · rw [if_pos d, if_pos d] at e2
        have hq := lt i q hi (.inl e)
        rcases e2 with x | x
        · rcases h2 q x with y | y
          · exact H.ap i j q hi hjl c e (.inl y)
          · omega
        · rcases h3 q x with y | y | y
          · exact H.ap i j q hi hjl c e (.inl y)
          · exact H.ap i j q hi hjl c e (.inr y)
          · omega
      · rw [if_neg d, if_neg d] at e2
        exact H.ap i l q hi hl hne e e2
  · replace e : (if i = j then M' else Ms i) q := e
    by_cases c : i = j
    · rw [if_pos c] at e
      rcases h2 q e with x | x
      · exact H.low j q hjl x
      · exact ⟨Nat.le_trans H.base x, fun y => by have := H.xlt q y; omega⟩
    · rw [if_neg c] at e
      exact H.low i q hi e
end
end BuP
end Go.Proofs.Ytablkaofaedpeaa
set_option maxRecDepth 100000
namespace Go.Proofs.Ytablkaofaedpeaa
open Go.ChangeShapes Go.WideShapes Go.ChangeAt Go.RowKit
attribute [local go_sem] Gives GivesE
namespace BuP
open BuM MbM MbP
def ms0 : List St := [made 4, made 4]
set_option maxHeartbeats 8000000 in
set_option maxRecDepth 100000 in
theorem replay_law {repB : RepB} (hC : BusC repB) {W : World} {A1 : Option Addr} {la1 : List ActB} {n1 c1 : Nat} (h1 : Sli 99 abL (fun b => b < W.heap.size) W A1 la1 n1 c1) (b1 : ∀ a ∈ la1, ∀ j, a.s j < 256) :
    Calls Try.prog 6 #[.slice A1 n1 c1] W fun e w' => e = .returned (.bool true) ∧ Below W.heap.size W w' := by
  have L1 := hid h1
  have K1 := hid b1
  have hl1 := h1.len
  clear h1 b1
  go_enter Try.func6, Try.ntmps6
  by_cases x1 : 60 < n1
  · have t1 : decide (60 < n1) = true := by simp; omega
    go_wp2_with fail
    refine (awake_any hC W).mono ?_
    rintro e w2 ⟨rfl, h2⟩
    go_wp2_with fail
    go_ret
    exact ⟨rfl, h2⟩
  · have t1 : decide (60 < n1) = false := by simp; omega
    have u1 : n1 ≤ 60 := by omega
    clear x1
    go_wp2_with fail
    clear t1
    refine (two_any hC (w := W) (steps := []) (sl := []) (S := fun _ => True) (Sp := fun _ => False) (Sli.nil _ _ _ _) rfl (by omega) (fun s' y hy => by cases hy) (fun q e => e.elim)).mono ?_
    rintro e w3 ⟨g, m1, m2, F, rfl, hP, hgs, hm, hr, h3⟩
    have AL := hid (show Alone repB W w3 g m1 m2 F 0 (two []) from ⟨hP, hgs, hm, h3⟩)
    clear hP hgs hm hr h3
    unfold MbP.at'
    go_wp2_with fail
    go_loopw [6] (fun u wr => ∃ (i : Nat) (F' : Fq) (b : Bs), u = .int .i64 i ∧ i ≤ n1 ∧ Hid (Alone repB W wr g m1 m2 F' (2 * i) b) ∧ Hid (b.steps = [] ∧ b.ms = repl ms0 b.log ∧ b.ms.length = 2 ∧ (∀ x ∈ b.log, okEnt b.ms.length x))) (fun u _ => n1 - (intOf u).toNat)
    case atStart => exact ⟨0, F, _, rfl, Nat.zero_le _, AL, hid ⟨rfl, rfl, rfl, fun x hx => by cases hx⟩⟩
    case round =>
      clear AL
      obtain ⟨i, F', b, rfl, hi, HAL, HBB⟩ := hrel
      by_cases hin : i < n1
      · have t1 : (i : Int) < (n1 : Int) := by omega
        obtain ⟨a, ha⟩ : ∃ a, la1[i]? = some a := ⟨_, List.getElem?_eq_getElem (by omega)⟩
        obtain ⟨bA, oA, rfl, hbS, hbl, hr⟩ := L1.out.some ha
        have R1 := hid (show wr.rangeAt bA (oA + i * 99) (abL a).toArray.toList from fun j v hj => (HAL.out.bel.cell (p := ⟨bA, oA + i * 99 + j, none⟩) hbl).trans (hr j v (by simpa using hj)))
        have HKA := hid (K1.out a (List.mem_of_getElem? ha))
        clear hr ha
        go_wp2_with ((with_reducible apply ldR (cs := (abL a).toArray) (tAb a)); rfl; exact R1.out)
        refine (over_any hC HAL.out.pp (by have := HBB.out.1; rw [this]; show 2 * i + 0 + 2 ≤ _; omega) a HKA.out).mono ?_
        rintro e w4 ⟨rfl, ho⟩
        have ho' : outS repB wr g F' (2 * (i + 1)) (ovB b a (kind7 a.d)) w4 := by
          have := ho
          rw [HBB.out.1] at this
          exact this
        obtain ⟨F2, al2, _, _, _⟩ := HAL.out.out ho'
        have AL2 := hid al2
        have BB2 := hid (show (ovB b a (kind7 a.d)).steps = [] ∧ (ovB b a (kind7 a.d)).ms = repl ms0 (ovB b a (kind7 a.d)).log ∧ (ovB b a (kind7 a.d)).ms.length = 2 ∧ (∀ x ∈ (ovB b a (kind7 a.d)).log, okEnt (ovB b a (kind7 a.d)).ms.length x) by
          obtain ⟨e1, e2, e3, e4⟩ := HBB.out
          have e5 := ov_rep e1 a (kind7 a.d) e2
          have e6 := ov_okE e1 a HKA.out (kind7 a.d) e4
          have e7 : (ovB b a (kind7 a.d)).steps = [] ∧ (ovB b a (kind7 a.d)).ms.length = b.ms.length := by
            by_cases h6 : kind7 a.d = 6
            · rw [h6]; exact ⟨e1, rfl⟩
            · have hk := ov_kept b a _ h6
              exact ⟨hk.steps.trans e1, hk.ms⟩
          exact ⟨e7.1, e5, e7.2.trans e3, by rw [e7.2]; exact e6⟩)
        obtain ⟨b', hb'⟩ : ∃ z, z = ovB b a (kind7 a.d) := ⟨_, rfl⟩
        rw [← hb'] at AL2 BB2
        obtain ⟨ev, hev⟩ : ∃ z, z = ovE b a (kind7 a.d) := ⟨_, rfl⟩
        rw [← hev]
        clear ho ho' al2 hb' hev HAL HBB R1 HKA
        go_wp2_with fail
        go_roundw
        case rel => exact ⟨i + 1, F2, b', by go_num, by omega, AL2, BB2⟩
        case measure => simp [intOf] <;> omega
      · have t1 : decide ((i : Int) < (n1 : Int)) = false := by simp; omega
        obtain rfl : n1 = i := by omega
        obtain ⟨wB, hwB⟩ : ∃ z, z = wr := ⟨_, rfl⟩
        subst hwB
        have hll := hid (show b.log.length ≤ 200 by have := HAL.out.pp.sz.2.2.2.1; omega)
        obtain ⟨s1, hs1⟩ : ∃ x, b.ms[0]? = some x := ⟨_, List.getElem?_eq_getElem (by have := HBB.out.2.2.1; omega)⟩
        obtain ⟨s2, hs2⟩ : ∃ x, b.ms[1]? = some x := ⟨_, List.getElem?_eq_getElem (by have := HBB.out.2.2.1; omega)⟩
        have HS1 := hid hs1
        have HS2 := hid hs2
        have RM1 := hid (MbP.memD_ok.mono (HAL.out.pp.mem 0 m1 s1 (by rw [HAL.out.gs]; rfl) hs1) (show 2 * n1 ≤ 200 by omega))
        have RM2 := hid (MbP.memD_ok.mono (HAL.out.pp.mem 1 m2 s2 (by rw [HAL.out.gs]; rfl) hs2) (show 2 * n1 ≤ 200 by omega))
        have OK1 := hid (HAL.out.pp.ok.1 s1 (List.mem_of_getElem? hs1))
        have OK2 := hid (HAL.out.pp.ok.1 s2 (List.mem_of_getElem? hs2))
        clear hs1 hs2
        go_wp2_with fail
        refine (two_any hC (w := wB) (steps := []) (sl := []) (S := fun _ => True) (Sp := fun _ => False) (Sli.nil _ _ _ _) rfl (by omega) (fun s' y hy => by cases hy) (fun q e => e.elim)).mono ?_
        rintro e w4 ⟨g2, m3, m4, G, rfl, hP, hgs, hm, hr, h4⟩
        have PG := hid hP
        have GG := hid hgs
        have HM := hid hm
        have B4 := hid h4
        have AL4 := hid (HAL.out.below hC h4)
        have s4 := h4.size
        have BWB := hid HAL.out.bel
        clear hP hgs hm hr h4 HAL t1
        unfold MbP.at'
        go_upto_region 12 with ((with_reducible apply wlit2 eltPtP undPtP (x := m3) (y := m4)); omega; rfl; rfl; rfl; rfl)
        have a5 : Below w4.heap.size w4 (w4.alloc (.cells (ptL m3 ++ ptL m4).toArray 23)) := (Below.refl _ _).alloc (Nat.le_refl _) _
        have hl5 := sli_lit2 (S := fun q => q = w4.heap.size) eltPtP m3 m4 w4 rfl
        have z5 : (w4.alloc (.cells (ptL m3 ++ ptL m4).toArray 23)).heap.size = w4.heap.size + 1 := by simp
        generalize World.alloc w4 _ = w5 at a5 hl5 z5 ⊢
        have HL5 := hid hl5
        have B5 := hid (B4.out.trans (a5.mono B4.out.size))
        have AL5 := hid (AL4.out.below hC a5)
        have PG5 := hid (PG.out.below hC a5)
        have PG4 := hid PG.out
        clear a5 hl5 PG AL4
        go_wp2_with fail
        refine (hC.log AL5.out.pp (by omega)).mono ?_
        rintro e w6 ⟨v, rfl, ow, h6⟩
        obtain ⟨AV, cv, rfl, sl⟩ := ow.sli enL_len
        have SV := hid sl
        have B6 := hid (B5.out.trans (h6.mono B5.out.size))
        have s6 := h6.size
        obtain ⟨X, hX⟩ : ∃ X : Nat → Prop, X = fun q => w4.heap.size ≤ q ∧ q < w6.heap.size := ⟨_, rfl⟩
        have HX := hid (show ∀ q, X q ↔ w4.heap.size ≤ q ∧ q < w6.heap.size from fun q => by rw [hX])
        have FR := hid (show Fr wB.heap.size X w6 [m3, m4] G.Ms G.Is 0 (repl ms0 (b.log.take 0)) from by
          have P6 := PG5.out.below hC h6
          have hg2 : G.gs = [m3, m4] := GG.out
          refine { len := rfl, mem := fun i gi st e1 e2 => P6.mem i gi st (by rw [hg2]; exact e1) e2, ok := P6.ok.1, ap := fun i j q hi hj hne e e2 => ?_, low := fun i q hi e => ?_, xlt := fun q e => ((HX.out q).1 e).2, base := B6.out.size }
          · have hi' : i < G.gs.length := by rw [hg2]; exact hi
            have hj' : j < G.gs.length := by rw [hg2]; exact hj
            rcases e2 with e2 | e2
            · exact hne (P6.nd i j q hi' hj' e e2)
            · exact P6.sep q (.inr ⟨j, hj', e2⟩) (.inr (.inr ⟨i, hi', e⟩))
          · have hi' : i < G.gs.length := by rw [hg2]; exact hi
            have hmq : mutP G q := .inr (.inr ⟨i, hi', e⟩)
            refine ⟨HM.out q hmq, fun x => ?_⟩
            have h1 := ((HX.out q).1 x).1
            have h2 := B4.out
            have h3 := PG4.out.mlt q hmq
            omega)
        have SF := hid (show ∀ w', Turn (fun q => wB.heap.size ≤ q ∧ ¬ X q) w6 w' → ∀ mi gi, [m3, m4][mi]? = some gi → w'.cell? ⟨w4.heap.size, mi, none⟩ = some (.pointer (some ⟨gi, 0, none⟩)) from fun w' ht mi gi hgi => by
          obtain ⟨b5, o5, e5, hb5, hlt5, hr5⟩ := HL5.out.some hgi
          cases e5
          rw [Nat.mul_one, Nat.zero_add] at hr5
          have hc := (h6.cell (p := ⟨w4.heap.size, mi, none⟩) hlt5).trans (pt_p hr5)
          exact ht.cell (p := ⟨w4.heap.size, mi, none⟩) hc fun e => e.2 ((HX.out _).2 ⟨Nat.le_refl _, Nat.lt_of_lt_of_le hlt5 s6⟩))
        have SE := hid (show ∀ w', Turn (fun q => wB.heap.size ≤ q ∧ ¬ X q) w6 w' → ∀ (i : Nat) (x : BuM.Ent), b.log[i]? = some x → ∃ bL oL, AV = some ⟨bL, oL, none⟩ ∧ w'.rangeAt bL (oL + i * 68) (enL x) ∧ bL < w'.heap.size from fun w' ht i x hx => by
          obtain ⟨bL, oL, e5, hbL, hlt5, hr5⟩ := SV.out.some hx
          have hbL' : w5.heap.size ≤ bL := hbL
          exact ⟨bL, oL, e5, fun j u hj => ht.cell (p := ⟨bL, oL + i * 68 + j, none⟩) (hr5 j u hj) fun e => e.2 ((HX.out _).2 ⟨by show w4.heap.size ≤ bL; omega, hlt5⟩), Nat.lt_of_lt_of_le hlt5 ht.size⟩)
        have HEN := hid (show ∀ x ∈ b.log, okEnt 2 x from by have := HBB.out.2.2.2; rw [HBB.out.2.2.1] at this; exact this)
        clear ow sl h6 hX HL5 SV AL5 PG5 HM
        obtain ⟨nl, hnl⟩ : ∃ z, z = b.log.length := ⟨_, rfl⟩
        have HNL := hid hnl
        rw [← hnl]
        have hnl2 : nl ≤ 200 := by rw [hnl]; exact hll.out
        clear hnl
        go_wp2_with fail
        go_loopw [12] (fun u wr => ∃ (i : Nat) (Ms Is : Nat → Nat → Prop), u = .int .i64 i ∧ i ≤ nl ∧ Hid (Fr wB.heap.size X wr [m3, m4] Ms Is i (repl ms0 (b.log.take i))) ∧ Hid (Turn (fun q => wB.heap.size ≤ q ∧ ¬ X q) w6 wr)) (fun u _ => nl - (intOf u).toNat)
        case atStart => exact ⟨0, G.Ms, G.Is, rfl, Nat.zero_le _, FR, hid (Turn.refl _ _)⟩
        case round =>
          clear FR
          obtain ⟨i, Ms, Is, rfl, hi, HF, HT⟩ := hrel
          by_cases hin : i < nl
          · have t1 : (i : Int) < (nl : Int) := by omega
            obtain ⟨x, hx⟩ : ∃ x, b.log[i]? = some x := ⟨_, List.getElem?_eq_getElem (by rw [← HNL.out]; exact hin)⟩
            have OKX := hid (HEN.out x (List.mem_of_getElem? hx))
            have HXX := hid hx
            obtain ⟨bL, oL, rfl, hr, hbl⟩ := SE.out wr HT.out i x hx
            have q67 : wr.cell? ⟨bL, oL + i * 68 + 67, none⟩ = some (.int .i64 x.e) := en_e hr
            have qd : wr.cell? ⟨bL, oL + i * 68, none⟩ = some (.int .i64 x.d) := en_d hr
            have qm : wr.cell? ⟨bL, oL + i * 68 + 1, none⟩ = some (.int .i64 x.m) := en_m hr
            have qi : wr.cell? ⟨bL, oL + i * 68 + 2, none⟩ = some (.int .i64 x.i) := en_i hr
            have qs := hid (en_s hr)
            have HSN := hid (show repl ms0 (b.log.take (i + 1)) = rep1 (repl ms0 (b.log.take i)) x by rw [List.take_add_one, hx, Option.toList_some, repl_snoc])
            clear hr hx
            by_cases he : x.e = 0
            · rw [he] at q67
              by_cases hd2 : x.d = 2
              · rw [hd2] at qd
                obtain ⟨mi, hmi, hml⟩ := OKX.out.2 he (.inl hd2)
                rw [hmi] at qm
                obtain ⟨gi, hgi⟩ : ∃ gi, [m3, m4][mi]? = some gi := ⟨_, List.getElem?_eq_getElem (by simpa using hml)⟩
                have qf := SF.out wr HT.out mi gi hgi
                obtain ⟨st, hst⟩ : ∃ st, (repl ms0 (b.log.take i))[mi]? = some st := ⟨_, List.getElem?_eq_getElem (by rw [← HF.out.len]; simpa using hml)⟩
                have RX := hid (HF.out.mem mi gi st hgi hst)
                have HGI := hid hgi
                have HOK := hid (HF.out.ok st (List.mem_of_getElem? hst))
                have HNX := hid (show rep1 (repl ms0 (b.log.take i)) x = (repl ms0 (b.log.take i)).set mi (MbM.wrT st x.i x.s) by unfold rep1; rw [if_pos he, if_pos hd2, hmi, at_of hst, Int.toNat_natCast])
                have t9 : (mi : Int) < 2 := by omega
                have t9' : mi < 2 := hml
                have HBY := hid (OKX.out.1 hd2)
                clear hgi hst he hd2 hmi OKX
                go_upto_region 19 with fail
                refine wp_region_tail (C := fun w' => Below wr.heap.size wr w') 18 (by kernel_rfl) (by kernel_rfl) (by kernel_rfl) (Below.refl _ _).drew ?_
                simp only [List.take_succ_cons, List.take_zero, List.drop_succ_cons, List.drop_zero]
                apply wpK_val
                · rfl
                · intro w' hw'
                  go_simp
                  first | exact rfl | exact ⟨rfl, hw'⟩
                simp only [Act.put, List.setIfInBounds_toArray, List.set_cons_succ, List.set_cons_zero]
                apply wpK_val
                · rfl
                · intro w' hw'
                  go_simp
                  first | exact rfl | exact ⟨rfl, hw'⟩
                simp only [Act.put, List.setIfInBounds_toArray, List.set_cons_succ, List.set_cons_zero]
                apply wpK_val
                · rfl
                · intro w' hw'
                  go_simp
                  first | exact rfl | exact ⟨rfl, hw'⟩
                simp only [Act.put, List.setIfInBounds_toArray, List.set_cons_succ, List.set_cons_zero]
                apply wpK_val
                · rfl
                · intro w' hw'
                  go_simp
                  first | exact rfl | exact ⟨rfl, hw'⟩
                simp only [Act.put, List.setIfInBounds_toArray, List.set_cons_succ, List.set_cons_zero]
                apply wpK_val
                · rfl
                · intro w' hw'
                  go_simp
                  first | exact rfl | exact ⟨rfl, hw'⟩
                simp only [Act.put, List.setIfInBounds_toArray, List.set_cons_succ, List.set_cons_zero]
                apply wpK_val
                · rfl
                · intro w' hw'
                  have hcell := (hw'.cell (p := ⟨bL, oL + i * 68 + 1, none⟩) hbl).trans qm
                  go_simp
                  first | exact rfl | exact ⟨rfl, hw'⟩
                simp only [Act.put, List.setIfInBounds_toArray, List.set_cons_succ, List.set_cons_zero]
                apply wpK_val
                · rfl
                · intro w' hw'
                  go_simp
                  first | exact rfl | exact ⟨rfl, hw'⟩
                simp only [Act.put, List.setIfInBounds_toArray, List.set_cons_succ, List.set_cons_zero]
                apply wpK_val
                · rfl
                · intro w' hw'
                  have hcell := (hw'.cell (p := ⟨w4.heap.size, mi, none⟩) (World.block_lt_of_cell? wr _ qf)).trans qf
                  go_simp
                  first | exact rfl | exact ⟨rfl, hw'⟩
                simp only [Act.put, List.setIfInBounds_toArray, List.set_cons_succ, List.set_cons_zero]
                apply wpK_val
                · rfl
                · intro w' hw'
                  go_simp
                  first | exact rfl | exact ⟨rfl, hw'⟩
                simp only [Act.put, List.setIfInBounds_toArray, List.set_cons_succ, List.set_cons_zero]
                apply wpK_val
                · rfl
                · intro w' hw'
                  go_simp
                  first | exact rfl | exact ⟨rfl, hw'⟩
                simp only [Act.put, List.setIfInBounds_toArray, List.set_cons_succ, List.set_cons_zero]
                apply wpK_val
                · rfl
                · intro w' hw'
                  go_simp
                  first | exact rfl | exact ⟨rfl, hw'⟩
                simp only [Act.put, List.setIfInBounds_toArray, List.set_cons_succ, List.set_cons_zero]
                apply wpK_val
                · rfl
                · intro w' hw'
                  go_simp
                  first | exact rfl | exact ⟨rfl, hw'⟩
                simp only [Act.put, List.setIfInBounds_toArray, List.set_cons_succ, List.set_cons_zero]
                apply wpK_val
                · rfl
                · intro w' hw'
                  have hcell := (hw'.cell (p := ⟨bL, oL + i * 68 + 2, none⟩) hbl).trans qi
                  go_simp
                  first | exact rfl | exact ⟨rfl, hw'⟩
                simp only [Act.put, List.setIfInBounds_toArray, List.set_cons_succ, List.set_cons_zero]
                apply wpK_val
                · rfl
                · intro w' hw'
                  go_simp
                  first | exact rfl | exact ⟨rfl, hw'⟩
                simp only [Act.put, List.setIfInBounds_toArray, List.set_cons_succ, List.set_cons_zero]
                apply wpK_val
                · rfl
                · intro w' hw'
                  go_simp
                  first | exact rfl | exact ⟨rfl, hw'⟩
                simp only [Act.put, List.setIfInBounds_toArray, List.set_cons_succ, List.set_cons_zero]
                apply wpK_val
                · rfl
                · intro w' hw'
                  go_simp
                  first | exact rfl | exact ⟨rfl, hw'⟩
                simp only [Act.put, List.setIfInBounds_toArray, List.set_cons_succ, List.set_cons_zero]
                apply wpK_val
                · rfl
                · intro w' hw'
                  go_simp
                  first | exact rfl | exact ⟨rfl, hw'⟩
                simp only [Act.put, List.setIfInBounds_toArray, List.set_cons_succ, List.set_cons_zero]
                apply kldA tSe
                · rfl
                · rfl
                · exact fun w' hw' => (fun j v hj => (hw'.cell (p := ⟨bL, oL + i * 68 + 3 + j, none⟩) hbl).trans (qs.out j v hj))
                simp only [Act.put, List.setIfInBounds_toArray, List.set_cons_succ, List.set_cons_zero]
                intro w7 hC7
                have F7 := hid (HF.out.below hC7)
                have R7 := hid (MbP.memD_ok.frame RX.out (Turn.of_new (S := fun _ => False) hC7) fun _ _ e => e)
                have T7 := hid (HT.out.trans (Turn.of_new (S := fun _ => False) hC7) fun _ e => e.elim)
                clear hC7 HF RX HT qd qm qi qs q67 qf
                go_wp2_with fail
                refine (MbP.memD_ok.write R7.out HOK.out (by omega) x.i x.s HBY.out).mono ?_
                rintro e w8 ⟨rfl, ho⟩
                obtain ⟨Ms8, Is8, f8, t8⟩ := F7.out.put (Nat.le_succ i) HGI.out (wr_ok HOK.out x.i HBY.out) ho
                have F8 := hid (show Fr wB.heap.size X w8 [m3, m4] Ms8 Is8 (i + 1) (repl ms0 (b.log.take (i + 1))) by rw [HSN.out, HNX.out]; exact f8)
                have T8 := hid (T7.out.trans t8 fun q e => .inl e)
                obtain ⟨ev, hev⟩ : ∃ z, z = rdE st x.i := ⟨_, rfl⟩
                rw [← hev]
                clear ho f8 t8 hev F7 T7 R7
                go_wp2_with fail
                go_roundw
                case rel => exact ⟨i + 1, Ms8, Is8, by go_num, by omega, F8, T8⟩
                case measure => simp [intOf] <;> omega
              · have v2 : decide (x.d = 2) = false := by simp; omega
                have v2' : (x.d == 2) = false := by simp; omega
                by_cases hd3 : x.d = 3
                · rw [hd3] at qd
                  obtain ⟨mi, hmi, hml⟩ := OKX.out.2 he (.inr hd3)
                  rw [hmi] at qm
                  obtain ⟨gi, hgi⟩ : ∃ gi, [m3, m4][mi]? = some gi := ⟨_, List.getElem?_eq_getElem (by simpa using hml)⟩
                  have qf := SF.out wr HT.out mi gi hgi
                  obtain ⟨st, hst⟩ : ∃ st, (repl ms0 (b.log.take i))[mi]? = some st := ⟨_, List.getElem?_eq_getElem (by rw [← HF.out.len]; simpa using hml)⟩
                  have RX := hid (HF.out.mem mi gi st hgi hst)
                  have HGI := hid hgi
                  have HOK := hid (HF.out.ok st (List.mem_of_getElem? hst))
                  have HNX := hid (show rep1 (repl ms0 (b.log.take i)) x = (repl ms0 (b.log.take i)).set mi (MbM.flT st) by unfold rep1; rw [if_pos he, if_neg hd2, if_pos hd3, hmi, at_of hst, Int.toNat_natCast])
                  have t9 : (mi : Int) < 2 := by omega
                  have t9' : mi < 2 := hml
                  clear hgi hst he hd2 hd3 hmi OKX v2 v2'
                  go_wp2_with fail
                  refine (MbP.memD_ok.flush RX.out HOK.out (by omega)).mono ?_
                  rintro e w8 ⟨rfl, ho⟩
                  obtain ⟨Ms8, Is8, f8, t8⟩ := HF.out.put (Nat.le_succ i) HGI.out (fl_ok HOK.out) ho
                  have F8 := hid (show Fr wB.heap.size X w8 [m3, m4] Ms8 Is8 (i + 1) (repl ms0 (b.log.take (i + 1))) by rw [HSN.out, HNX.out]; exact f8)
                  have T8 := hid (HT.out.trans t8 fun q e => .inl e)
                  obtain ⟨ev, hev⟩ : ∃ z, z = MbM.flE st := ⟨_, rfl⟩
                  rw [← hev]
                  clear ho f8 t8 hev HF HT RX qd qm qi qs q67 qf
                  go_wp2_with fail
                  go_roundw
                  case rel => exact ⟨i + 1, Ms8, Is8, by go_num, by omega, F8, T8⟩
                  case measure => simp [intOf] <;> omega
                · have v3 : decide (x.d = 3) = false := by simp; omega
                  have v3' : (x.d == 3) = false := by simp; omega
                  have F8 := hid (show Fr wB.heap.size X wr [m3, m4] Ms Is (i + 1) (repl ms0 (b.log.take (i + 1))) by
                    rw [HSN.out, show rep1 (repl ms0 (b.log.take i)) x = repl ms0 (b.log.take i) from by unfold rep1; rw [if_pos he, if_neg hd2, if_neg hd3]]
                    exact ⟨HF.out.len, fun j gj st e1 e2 => MbP.memD_ok.mono (HF.out.mem j gj st e1 e2) (Nat.le_succ i), HF.out.ok, HF.out.ap, HF.out.low, HF.out.xlt, HF.out.base⟩)
                  clear HF he hd2 hd3
                  go_wp2_with fail
                  go_roundw
                  case rel => exact ⟨i + 1, Ms, Is, by go_num, by omega, F8, HT⟩
                  case measure => simp [intOf] <;> omega
            · have v0 : decide (x.e = 0) = false := by simp; omega
              have v0' : (x.e == 0) = false := by simp; omega
              have v0'' : (x.e != 0) = true := by simp; omega
              have F8 := hid (show Fr wB.heap.size X wr [m3, m4] Ms Is (i + 1) (repl ms0 (b.log.take (i + 1))) by
                rw [HSN.out, show rep1 (repl ms0 (b.log.take i)) x = repl ms0 (b.log.take i) from by unfold rep1; rw [if_neg he]]
                exact ⟨HF.out.len, fun j gj st e1 e2 => MbP.memD_ok.mono (HF.out.mem j gj st e1 e2) (Nat.le_succ i), HF.out.ok, HF.out.ap, HF.out.low, HF.out.xlt, HF.out.base⟩)
              clear HF
              go_wp2_with fail
              go_roundw
              case rel => exact ⟨i + 1, Ms, Is, by go_num, by omega, F8, HT⟩
              case measure => simp [intOf] <;> omega
          · have t1 : decide ((i : Int) < (nl : Int)) = false := by simp; omega
            have hi2 : i = nl := by omega
            have hms : repl ms0 (b.log.take i) = b.ms := by rw [hi2, HNL.out, List.take_length]; exact HBB.out.2.1.symm
            have F9 := hid (show Fr wB.heap.size X wr [m3, m4] Ms Is 200 b.ms by
              rw [← hms]
              exact ⟨HF.out.len, fun j gj st e1 e2 => MbP.memD_ok.mono (HF.out.mem j gj st e1 e2) (by omega), HF.out.ok, HF.out.ap, HF.out.low, HF.out.xlt, HF.out.base⟩)
            have B9 := hid (B6.out.trans ((HT.out.below (B := wB.heap.size) B6.out.size fun q e => e.1)))
            have BW := hid (BWB.out.trans (B9.out.mono BWB.out.size))
            have fr1 : ∀ {gg : Nat} {M I : Nat → Prop} {st : St} {w' : World}, RepM wB gg M I 200 st → Below wB.heap.size wB w' → RepM w' gg M I 200 st := fun h hb => MbP.memD_ok.frame h (Turn.of_new (S := fun _ => False) hb) fun _ _ e => e
            obtain ⟨w9, hw9⟩ : ∃ z, z = wr := ⟨_, rfl⟩
            subst hw9
            have Q1 := hid (fr1 RM1.out B9.out)
            have Q2 := hid (fr1 RM2.out B9.out)
            have Q3 := hid (F9.out.mem 0 m3 s1 rfl HS1.out)
            have Q4 := hid (F9.out.mem 1 m4 s2 rfl HS2.out)
            clear fr1 HF HT hms hi2 F9 B9 RM1 RM2 SF SE HEN
            go_wp2_with fail
            go_loopw [13] (fun u wr => ∃ j : Nat, u = .int .i64 j ∧ j ≤ 4 ∧ Hid (Below w9.heap.size w9 wr)) (fun u _ => 4 - (intOf u).toNat)
            case atStart => exact ⟨0, rfl, by omega, hid (Below.refl _ _)⟩
            case round =>
              obtain ⟨j, rfl, hj, HV⟩ := hrel
              have fr : ∀ {gg : Nat} {M I : Nat → Prop} {st : St} {w' : World}, RepM w9 gg M I 200 st → Below w9.heap.size w9 w' → RepM w' gg M I 200 st := fun h hb => MbP.memD_ok.frame h (Turn.of_new (S := fun _ => False) hb) fun _ _ e => e
              by_cases hj4 : j < 4
              · have t3 : (j : Int) < 4 := by omega
                obtain ⟨v1, hv1⟩ : ∃ z, z = lkS s1 (j : Int) := ⟨_, rfl⟩
                obtain ⟨v2, hv2⟩ : ∃ z, z = rdS s2 (j : Int) := ⟨_, rfl⟩
                have HV1 := hid hv1
                have HV2 := hid hv2
                clear hv1 hv2
                go_wp2_with fail
                refine (MbP.memD_ok.look (fr Q1.out HV.out) OK1.out (by omega) (j : Int)).mono ?_
                rintro e uX ⟨rfl, h5⟩
                rw [← HV1.out]
                go_upto_region 26 with (first | (with_reducible apply alA tSe) | ((with_reducible apply stA tSe); rfl; rfl; exact Blk.new _ _ _))
                generalize hwX : World.setRow _ _ _ = wX
                have b6 : Below uX.heap.size uX wX := by rw [← hwX]; exact below_setRow ((Below.refl _ _).alloc (Nat.le_refl _) _) (Nat.le_refl _) _
                have SX := hid (show Blk wX uX.heap.size 30 (ar 64 v1) by rw [← hwX]; exact (Blk.new uX _ _).setRow_same _)
                replace HV := hid (HV.out.trans ((h5.trans (b6.mono h5.size)).mono HV.out.size))
                obtain ⟨gX, hgX⟩ : ∃ n, n = uX.heap.size := ⟨_, rfl⟩
                rw [← hgX] at SX ⊢
                clear hwX b6 h5 hgX
                go_wp2_with fail
                refine (MbP.memD_ok.look (fr Q3.out HV.out) OK1.out (by omega) (j : Int)).mono ?_
                rintro e uY ⟨rfl, h5⟩
                rw [← HV1.out]
                go_upto_region 27 with (first | (with_reducible apply alA tSe) | ((with_reducible apply stA tSe); rfl; rfl; exact Blk.new _ _ _))
                generalize hwY : World.setRow _ _ _ = wY
                have b6 : Below uY.heap.size uY wY := by rw [← hwY]; exact below_setRow ((Below.refl _ _).alloc (Nat.le_refl _) _) (Nat.le_refl _) _
                have SY := hid (show Blk wY uY.heap.size 30 (ar 64 v1) by rw [← hwY]; exact (Blk.new uY _ _).setRow_same _)
                replace SX := hid (SX.out.below (h5.trans (b6.mono h5.size)) SX.out.lt)
                replace HV := hid (HV.out.trans ((h5.trans (b6.mono h5.size)).mono HV.out.size))
                obtain ⟨gY, hgY⟩ : ∃ n, n = uY.heap.size := ⟨_, rfl⟩
                rw [← hgY] at SY ⊢
                clear hwY b6 h5 hgY
                go_wp2_with fail
                refine (MbP.memD_ok.read (fr Q2.out HV.out) OK2.out (by omega) (j : Int)).mono ?_
                rintro e uZ ⟨rfl, h5⟩
                rw [← HV2.out]
                go_upto_region 28 with (first | (with_reducible apply alA tSe) | ((with_reducible apply stA tSe); rfl; rfl; exact Blk.new _ _ _))
                generalize hwZ : World.setRow _ _ _ = wZ
                have b6 : Below uZ.heap.size uZ wZ := by rw [← hwZ]; exact below_setRow ((Below.refl _ _).alloc (Nat.le_refl _) _) (Nat.le_refl _) _
                have SZ := hid (show Blk wZ uZ.heap.size 30 (ar 64 v2) by rw [← hwZ]; exact (Blk.new uZ _ _).setRow_same _)
                replace SX := hid (SX.out.below (h5.trans (b6.mono h5.size)) SX.out.lt)
                replace SY := hid (SY.out.below (h5.trans (b6.mono h5.size)) SY.out.lt)
                replace HV := hid (HV.out.trans ((h5.trans (b6.mono h5.size)).mono HV.out.size))
                obtain ⟨gZ, hgZ⟩ : ∃ n, n = uZ.heap.size := ⟨_, rfl⟩
                rw [← hgZ] at SZ ⊢
                clear hwZ b6 h5 hgZ
                go_wp2_with fail
                refine (MbP.memD_ok.read (fr Q4.out HV.out) OK2.out (by omega) (j : Int)).mono ?_
                rintro e uT ⟨rfl, h5⟩
                rw [← HV2.out]
                go_upto_region 29 with (first | (with_reducible apply alA tSe) | ((with_reducible apply stA tSe); rfl; rfl; exact Blk.new _ _ _))
                generalize hwT : World.setRow _ _ _ = wT
                have b6 : Below uT.heap.size uT wT := by rw [← hwT]; exact below_setRow ((Below.refl _ _).alloc (Nat.le_refl _) _) (Nat.le_refl _) _
                have ST := hid (show Blk wT uT.heap.size 30 (ar 64 v2) by rw [← hwT]; exact (Blk.new uT _ _).setRow_same _)
                replace SX := hid (SX.out.below (h5.trans (b6.mono h5.size)) SX.out.lt)
                replace SY := hid (SY.out.below (h5.trans (b6.mono h5.size)) SY.out.lt)
                replace SZ := hid (SZ.out.below (h5.trans (b6.mono h5.size)) SZ.out.lt)
                replace HV := hid (HV.out.trans ((h5.trans (b6.mono h5.size)).mono HV.out.size))
                obtain ⟨gT, hgT⟩ : ∃ n, n = uT.heap.size := ⟨_, rfl⟩
                rw [← hgT] at ST ⊢
                clear hwT b6 h5 hgT
                refine wp_region_fixed (C := fun w' => Below wT.heap.size wT w') 8 (Below.refl _ _) ?_
                simp only [List.take_succ_cons, List.take_zero, List.drop_succ_cons, List.drop_zero]
                apply kldA tSe
                · rfl
                · rfl
                · exact fun w' hw' => (SX.out.below hw' SX.out.lt).head
                simp only [Act.put, List.setIfInBounds_toArray, List.set_cons_succ, List.set_cons_zero]
                apply kldA tSe
                · rfl
                · rfl
                · exact fun w' hw' => (SY.out.below hw' SY.out.lt).head
                simp only [Act.put, List.setIfInBounds_toArray, List.set_cons_succ, List.set_cons_zero]
                apply kneU false uSe' gSe'
                · rfl
                · rfl
                · rfl
                · exact (by rw [eqA_yes fun _ _ => rfl]; rfl)
                simp only [Act.put, List.setIfInBounds_toArray, List.set_cons_succ, List.set_cons_zero]
                apply wpK_val
                · rfl
                · intro w' hw'
                  go_simp
                  first | exact rfl | exact ⟨rfl, hw'⟩
                simp only [Act.put, List.setIfInBounds_toArray, List.set_cons_succ, List.set_cons_zero]
                apply kldA tSe
                · rfl
                · rfl
                · exact fun w' hw' => (SZ.out.below hw' SZ.out.lt).head
                simp only [Act.put, List.setIfInBounds_toArray, List.set_cons_succ, List.set_cons_zero]
                apply kldA tSe
                · rfl
                · rfl
                · exact fun w' hw' => (ST.out.below hw' ST.out.lt).head
                simp only [Act.put, List.setIfInBounds_toArray, List.set_cons_succ, List.set_cons_zero]
                apply kneU false uSe' gSe'
                · rfl
                · rfl
                · rfl
                · exact (by rw [eqA_yes fun _ _ => rfl]; rfl)
                simp only [Act.put, List.setIfInBounds_toArray, List.set_cons_succ, List.set_cons_zero]
                apply wpK_val
                · rfl
                · intro w' hw'
                  go_simp
                  first | exact rfl | exact ⟨rfl, hw'⟩
                simp only [Act.put, List.setIfInBounds_toArray, List.set_cons_succ, List.set_cons_zero]
                intro wq hCq
                have HVq := hid (HV.out.trans (hCq.mono HV.out.size))
                clear hCq SX SY SZ ST HV HV1 HV2 fr
                go_wp2_with fail
                go_roundw
                case rel => exact ⟨j + 1, by go_num, by omega, HVq⟩
                case measure => simp [intOf] <;> omega
              · have t3 : decide ((j : Int) < 4) = false := by simp; omega
                obtain ⟨c1, hc1⟩ : ∃ z, z = s1.log.length := ⟨_, rfl⟩
                obtain ⟨c2, hc2⟩ : ∃ z, z = s2.log.length := ⟨_, rfl⟩
                have U1 := hid (show ∀ w', Below w9.heap.size w9 w' → Calls Try.prog 33 #[.pointer (some ⟨m1, 0, none⟩)] w' fun e w2 => e = .returned (.int .i64 (c1 : Nat)) ∧ Below w'.heap.size w' w2 from fun w' hb => by rw [hc1]; exact MbP.memD_ok.unflushed (fr Q1.out hb))
                have U2 := hid (show ∀ w', Below w9.heap.size w9 w' → Calls Try.prog 33 #[.pointer (some ⟨m2, 0, none⟩)] w' fun e w2 => e = .returned (.int .i64 (c2 : Nat)) ∧ Below w'.heap.size w' w2 from fun w' hb => by rw [hc2]; exact MbP.memD_ok.unflushed (fr Q2.out hb))
                have U3 := hid (show ∀ w', Below w9.heap.size w9 w' → Calls Try.prog 33 #[.pointer (some ⟨m3, 0, none⟩)] w' fun e w2 => e = .returned (.int .i64 (c1 : Nat)) ∧ Below w'.heap.size w' w2 from fun w' hb => by rw [hc1]; exact MbP.memD_ok.unflushed (fr Q3.out hb))
                have U4 := hid (show ∀ w', Below w9.heap.size w9 w' → Calls Try.prog 33 #[.pointer (some ⟨m4, 0, none⟩)] w' fun e w2 => e = .returned (.int .i64 (c2 : Nat)) ∧ Below w'.heap.size w' w2 from fun w' hb => by rw [hc2]; exact MbP.memD_ok.unflushed (fr Q4.out hb))
                clear hc1 hc2 Q1 Q2 Q3 Q4 OK1 OK2 fr
                go_wp2_with fail
                refine (U1.out wr HV.out).mono ?_
                rintro e wa ⟨rfl, ha⟩
                have VA := hid (HV.out.trans (ha.mono HV.out.size))
                clear ha
                go_wp2_with fail
                refine (U3.out wa VA.out).mono ?_
                rintro e wb ⟨rfl, hb⟩
                have VB := hid (VA.out.trans (hb.mono VA.out.size))
                clear hb
                go_wp2_with fail
                refine (U2.out wb VB.out).mono ?_
                rintro e wc ⟨rfl, hc⟩
                have VC := hid (VB.out.trans (hc.mono VB.out.size))
                clear hc
                go_wp2_with fail
                refine (U4.out wc VC.out).mono ?_
                rintro e wd ⟨rfl, hd⟩
                have VD := hid (VC.out.trans (hd.mono VC.out.size))
                clear hd VA VB VC HV U1 U2 U3 U4
                go_wp2_with fail
                refine (awake_any hC wd).mono ?_
                rintro e wx ⟨rfl, h7⟩
                have B7 := hid ((BW.out.trans (VD.out.mono BW.out.size)).trans (h7.mono (Nat.le_trans BW.out.size VD.out.size)))
                clear h7 VD BW
                go_wp2_with fail
                go_ret
                exact ⟨rfl, B7.out⟩
end BuP
end Go.Proofs.Ytablkaofaedpeaa
