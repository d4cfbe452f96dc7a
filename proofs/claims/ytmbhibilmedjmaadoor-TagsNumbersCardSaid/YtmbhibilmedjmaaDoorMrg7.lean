/-
  What the listed variable gives a walk: the table of the salts.
  An empty slice of bytes that is made with room.
  Contracts of bytes.isWidth, copied, lay, Num and Text over this translation.
  Contracts of bytes.lay, Num and Text over this translation.
  Contracts of the document's Width, Digits, Value, Num and Text (casemateref06) over this translation.
  What comes in, number by number.
  Slices of bytes that come in.
  Slices of slices of bytes that come in.
  Contracts of the document's Text and Row (casemateref06), and of bytes.Row, over this translation.
  Contract of bytes.Row over this translation.
  The landed tags: message, and the messages of one part.
  The landed tags: numbered, LeafText, NodeText; LeafC and RestC.
  The landed tags: Of, Leaf, Node, Label, Head, Body; TagC.
  The landed tags: Join, Split; JoinC.
  What comes in: rows of n bytes by value.
  What comes in to the laws of chapter 17: numbers.
  What comes in: a digest by value, a text, bytes.
-/
import Derived.Test.YtmbhibilmedjmaaDoorMrg6
import Derived.Test.YtmbhibilmedjmaaDoorRows
import Derived.Deep.Slices
import Derived.MakeChecks
import Derived.Lay
import Derived.Lib.LaidTab
import Derived.Laws.MakeOwn
import Derived.Laws.OwnMore
import Derived.OpenShut
import Derived.ChangeMaps5
import Derived.ChangeSlices
import Derived.Laws.CopyOwn
import Derived.Laws.Cover3
set_option linter.unusedVariables false
set_option linter.unusedSimpArgs false
set_option maxRecDepth 100000
namespace Go.Proofs.YtmbhibilmedjmaaDoor
open Go.ChangeShapes Go.WideShapes Go.ChangeAt Go.RowKit Go.Deep
theorem salts_named : Tryd.prog.globalNamed "casemate/sha.salts" = some 1 := by kernel_rfl
theorem salts_type : (Tryd.prog.globals[1]?).map (·.type) = some 107 := by kernel_rfl
theorem cells_u32 : Tryd.prog.cellsOf 65 = 1 := by kernel_rfl
theorem cells_wds : Tryd.prog.cellsOf 107 = 64 := by kernel_rfl
def laidL : List (String × DataW Unit) := [
  ("casemate/sha.salts", Rows.laid_casemate_sha_salts)]
theorem laid_plain : (laidL.all fun x => x.2.handleName?.isNone) = true := by kernel_rfl
theorem laid_salts : (Rows.laid_casemate_sha_salts : DataW Unit) = Lib.tabData .u32 (ShaM.salts.map fun n : Nat => (n : Int)) := by rfl
/-- Wherever a variable stands on the list: what is told of it. -/
theorem laid_at {P : Program} {w : World} : ∀ {l : List (String × DataW Unit)} {ps : List MemPlace}, DataW.LaidVars P w l ps → ∀ {n : String} {d : DataW Unit}, (n, d) ∈ l →
    ∃ g t cs fuel p, P.globalNamed n = some g ∧ (P.globals[g]?).map (·.type) = some t ∧ w.var? P n = some cs ∧ DataW.trod (fun _ => ()) P w 0 (fun _ => true) false fuel t cs.toList = some (d, p)
  | [], _, _, _, _, hm => nomatch hm
  | _ :: _, _, ⟨g, t, cs, fuel, p, _, a1, a2, a3, a4, tl, _⟩, n, d, hm => by
    cases hm with
    | head => exact ⟨g, t, cs, fuel, p, a1, a2, a3, a4⟩
    | tail _ hm => exact laid_at tl hm
/-- One table out of the list: its cells. -/
theorem tab_of {W : World} (h : laidMet Tryd.prog laidL W) {name : String} {k : IntKind} {zs : List Int} {g : Nat} {t e : TypeId} {n : Nat}
    (hg : Tryd.prog.globalNamed name = some g) (hty : (Tryd.prog.globals[g]?).map (·.type) = some t) (ht : Tryd.prog.underlying t = some (.array n e)) (he : Tryd.prog.underlying e = some (.int k)) (hce : Tryd.prog.cellsOf e = 1) (hct : Tryd.prog.cellsOf t = n)
    (hm : (name, Lib.tabData k zs) ∈ laidL) : Lib.TabIs Tryd.prog W name k zs ∧ g < W.heap.size := by
  obtain ⟨_, hv, _⟩ := h
  obtain ⟨g', t', cs, fuel, p, hg', ht', hvar, hd⟩ := laid_at hv hm
  obtain rfl := Option.some.inj (hg.symm.trans hg')
  obtain rfl := Option.some.inj (hty.symm.trans ht')
  refine ⟨?_, ?_⟩
  · unfold Lib.TabIs
    rw [hvar, ← Lib.cells_of_tab ht he hce hct hd]
  · unfold World.var? at hvar
    rw [hg] at hvar
    simp only [Option.bind_some] at hvar
    rcases Nat.lt_or_ge g W.heap.size with h1 | h1
    · exact h1
    · rw [Array.getElem?_eq_none (by exact h1)] at hvar
      cases hvar
theorem salts_of_laid {W : World} (h : laidMetH Tryd.prog laidL W) : Salts W := by
  rw [MakeChecks.laidMetH_plain _ _ _ laid_plain] at h
  obtain ⟨h1, h2⟩ := tab_of h salts_named salts_type Tryd.underlying107 Tryd.underlying65 cells_u32 cells_wds (by rw [← laid_salts]; unfold laidL; simp)
  refine ⟨by unfold tabs; omega, fun n hn => ?_, ?_⟩
  · have := h1.cell salts_named n (by rw [List.length_map]; exact hn)
    rw [this, List.getD_eq_getElem?_getD, List.getElem?_map, List.getElem?_eq_getElem (show n < ShaM.salts.length from hn)]
    unfold ShaM.saltAt
    rw [List.getD_eq_getElem?_getD, List.getElem?_eq_getElem (show n < ShaM.salts.length from hn)]
    rfl
  · trivial
theorem laid_met (os : Os) (args : Array Value) : laidMetH Tryd.prog laidL ((World.laidAll Tryd.prog os laidL).forCall (fun _ _ => 0) ⟨#[], args, []⟩).memory := by
  rw [MakeChecks.laidMetH_plain _ _ _ laid_plain]
  exact laidMet_laidAll args (by kernel_rfl) (by kernel_rfl)
end Go.Proofs.YtmbhibilmedjmaaDoor
set_option maxRecDepth 100000
namespace Go.Proofs.YtmbhibilmedjmaaDoor
open Go.ChangeShapes Go.WideShapes Go.ChangeAt Go.RowKit
/-- An empty slice with room. -/
theorem mk0 {ops : Array Oper} {Q : Exit → Act → World → Prop} {a : Act} {w : World} {rest : List Oper} {dst : Option Tmp} {ty : TypeId} {pos : String} {after : Array Edge} {x y : Operand} {n : Nat} (hn : n ≤ 1000000)
    (hx : a.eval x = .int .i64 0) (hy : a.eval y = .int .i64 (n : Int)) (h : ∀ v w', Own 5 .u8 w' w.heap.size v [] → Below w.heap.size w w' → wpList Tryd.prog ops Q rest (a.put dst v) w') :
    wpList Tryd.prog ops Q (⟨dst, .makeSlice 26 x y, ty, pos, after, none⟩ :: rest) a w := by
  obtain ⟨i, hi, hz, h1, h2⟩ := eltB.inf
  obtain ⟨w', hr, ho, hg⟩ := run_make_own (P := Tryd.prog) w w.heap.size 26 5 i (.int .u8 0) 1 eltB.und hi hz h1 .i64 .i64 n (Nat.le_trans (Nat.mul_le_mul h2 hn) (by omega)) (by unfold maxLen; omega) (Nat.le_refl _)
  refine wpList_plain rfl fun K hK => ?_
  unfold Oper.wp execOp
  simp only [Sem.run_bind, hx, hy, hr, Result.andThen_ok]
  exact hK _ _ (h _ w' ho (below_none (Below.refl _ _) hg (Nat.le_refl _)))
theorem nums_zero (n : Nat) : nums .u8 (List.replicate n 0) = List.replicate n (.int .u8 0) := by
  unfold nums; rw [List.map_replicate]; rfl
/-- n bytes 0. -/
theorem mkz {ops : Array Oper} {Q : Exit → Act → World → Prop} {a : Act} {w : World} {rest : List Oper} {dst : Option Tmp} {ty : TypeId} {pos : String} {after : Array Edge} {x y : Operand} {n : Nat} (hn : n ≤ 1000000)
    (hx : a.eval x = .int .i64 n) (hy : a.eval y = .int .i64 (n : Int)) (h : ∀ v w', Own 5 .u8 w' w.heap.size v (List.replicate n 0) → Below w.heap.size w w' → wpList Tryd.prog ops Q rest (a.put dst v) w') :
    wpList Tryd.prog ops Q (⟨dst, .makeSlice 26 x y, ty, pos, after, none⟩ :: rest) a w := by
  obtain ⟨i, hi, hz, h1, h2⟩ := eltB.inf
  obtain ⟨w', hr, ho, hg⟩ := run_makeSlice_full (P := Tryd.prog) w w.heap.size 26 5 i (.int .u8 0) 1 eltB.und hi hz h1 .i64 .i64 n (by omega) (Nat.le_trans (Nat.mul_le_mul h2 hn) (by omega)) (by unfold maxLen; omega) (Nat.le_refl _)
  refine wpList_plain rfl fun K hK => ?_
  unfold Oper.wp execOp
  simp only [Sem.run_bind, hx, hy, hr, Result.andThen_ok]
  refine hK _ _ (h _ w' ?_ (below_none (Below.refl _ _) hg (Nat.le_refl _)))
  have e : (madeCells (Value.int IntKind.u8 0).cells (n * 1)).toList = List.replicate n (.int .u8 0) := by
    unfold madeCells
    apply List.ext_getElem?
    intro j
    simp [Value.cells, Nat.mod_one, List.getElem?_replicate]
    by_cases h : j < n
    · rw [List.getElem?_range h, if_pos h]; rfl
    · rw [List.getElem?_eq_none (by simp; omega), if_neg h]; rfl
  unfold Own
  rw [List.length_replicate, nums_zero, ← e]
  exact ho
end Go.Proofs.YtmbhibilmedjmaaDoor
set_option maxRecDepth 100000
namespace Go.Proofs.YtmbhibilmedjmaaDoor
open Go.ChangeShapes Go.WideShapes Go.ChangeAt Go.RowKit
attribute [local go_sem] Gives
theorem beq_false {a b : Int} (h : a ≠ b) : (a == b) = false := by rw [beq_eq_false_iff_ne]; exact h
end Go.Proofs.YtmbhibilmedjmaaDoor
set_option maxRecDepth 100000
namespace Go.Proofs.YtmbhibilmedjmaaDoor
open Go.ChangeShapes Go.WideShapes Go.ChangeAt Go.RowKit
attribute [local go_sem] Gives
theorem shr_cast (n j : Nat) : ((n : Int) / 2 ^ (8 * j) % 256) = ((n / 256 ^ j % 256 : Nat) : Int) := by
  have h : (256 : Nat) ^ j = 2 ^ (8 * j) := by rw [Nat.pow_mul]
  rw [h]
  simp
set_option maxHeartbeats 400000 in
theorem lay_any (v : Value) (l : List Nat) (B m n : Nat) (hm : m ≤ 8) (hsz : l.length ≤ 900000) (W : World) (ho : Own 5 .u8 W B v l) (hB : B ≤ W.heap.size) :
    Calls Tryd.prog 53 #[v, .int .i64 m, .int .u64 n] W fun e w' => ∃ v', e = .returned v' ∧ Own 5 .u8 w' B v' (l ++ BytM.dig m n) ∧ Below B W w' := by
  have HO := hid ho
  have HB := hid hB
  have HZ := hid hsz
  clear ho hB hsz
  go_enter Tryd.func53, Tryd.ntmps53
  go_wp2_with fail
  go_loopw [0, 9] (fun u i wr => ∃ (k : Nat) (vo : Value), k ≤ m ∧ i = .int .i64 k ∧ u = vo ∧ Hid (Own 5 .u8 wr B vo (l ++ (BytM.dig m n).take k)) ∧ Hid (Below B W wr)) (fun _ i _ => m - (intOf i).toNat)
  case atStart => exact ⟨0, _, by omega, rfl, rfl, hid (by rw [List.take_zero, List.append_nil]; exact HO.out), hid (Below.refl _ _)⟩
  case round =>
    obtain ⟨k, vo, hk, rfl, rfl, ho, hb⟩ := hrel
    by_cases hlt : k < m
    · have ti : (k : Int) < (m : Int) := by omega
      have hst := BytM.dig_step (n := n) hlt
      have hlen : ((BytM.dig m n).take k).length = k := by rw [List.length_take, BytM.dig_length]; omega
      have hx := shr_cast n (m - 1 - k)
      generalize n / 256 ^ (m - 1 - k) % 256 = x at *
      have HX := hid hx
      have HST := hid hst
      have HLEN := hid hlen
      have hzw := hb.out.size
      clear hx hst hlen
      go_wp2_with (at_builtin; (with_reducible apply wappN eltB); rfl; rfl; exact ho.out.alloc _; exact nums_one (x := x) (B := wr.heap.size + 1) (congrArg (Value.int .u8) HX.out) (Nat.lt_succ_self _); rfl; (rw [List.length_append, HLEN.out]; have := HZ.out; omega); (simp; have := HB.out; omega); intro v' w4 o4 g4)
      have b4 := below_grown (hb.out.alloc (Nat.le_trans HB.out hzw) (.cells #[.int .u8 (x : Nat)] 5)) (by rw [← HX.out]; exact g4) ho.out (Nat.le_refl _) HB.out
      go_roundw
      case rel => exact ⟨k + 1, v', by omega, by go_num, rfl, hid (by rw [HST.out, ← List.append_assoc]; exact o4), hid b4⟩
      case measure => simp [intOf]; omega
    · obtain rfl : k = m := by omega
      have ho2 := ho.out
      rw [List.take_of_length_le (by rw [BytM.dig_length]; exact Nat.le_refl _)] at ho2
      have O2 := hid ho2
      clear ho2 ho
      go_wp2_with fail
      go_ret
      exact ⟨_, rfl, O2.out, hb.out⟩
theorem sh_zero {n k : Nat} (h : n < 256 ^ k) : (n : Int) / 2 ^ (8 * k) = 0 := by
  have e : (256 : Nat) ^ k = 2 ^ (8 * k) := by rw [Nat.pow_mul]
  rw [e] at h
  have : ((n / 2 ^ (8 * k) : Nat) : Int) = 0 := by rw [Nat.div_eq_of_lt h]; rfl
  simpa using this
theorem sh_pos {n k : Nat} (h : ¬ n < 256 ^ k) : ((n : Int) / 2 ^ (8 * k) == 0) = false := by
  have e : (256 : Nat) ^ k = 2 ^ (8 * k) := by rw [Nat.pow_mul]
  rw [e] at h
  have h2 : 0 < n / 2 ^ (8 * k) := Nat.div_pos (by omega) (Nat.pow_pos (by omega))
  apply beq_false
  have : ((n / 2 ^ (8 * k) : Nat) : Int) ≠ 0 := by omega
  simpa using this
end Go.Proofs.YtmbhibilmedjmaaDoor
set_option maxRecDepth 100000
namespace Go.Proofs.YtmbhibilmedjmaaDoor
open Go.ChangeShapes Go.WideShapes Go.ChangeAt Go.RowKit
attribute [local go_sem] Gives
theorem set_zeros (j x : Nat) (t : List Nat) : (List.replicate (j + 1) 0 ++ t).set j x = List.replicate j 0 ++ x :: t := by
  rw [List.replicate_succ', List.append_assoc, List.set_append_right _ _ (by simp)]
  simp
theorem val_step {l : List Nat} {k : Nat} (h : k < l.length) : BytM.val (l.take (k + 1)) = 256 * BytM.val (l.take k) + l.getD k 0 := by
  rw [List.take_succ_eq_append_getElem h, ← nums_at h, BytM.val_snoc]
theorem B256.getD {l : List Nat} (h : B256 l) (k : Nat) : l.getD k 0 < 256 := by
  rw [List.getD_eq_getElem?_getD]
  cases e : l[k]? with
  | none => simp
  | some x => simp only [Option.getD_some]; exact h x (List.mem_of_getElem? e)
theorem val_7 {l : List Nat} (h : B256 l) {k : Nat} (hk : k ≤ 7) : BytM.val (l.take k) < 72057594037927936 :=
  Nat.lt_of_lt_of_le (BytM.val_lt_of (h.take k) (w := 7) (by rw [List.length_take]; omega)) (by omega)
theorem val_8 {l : List Nat} (h : B256 l) (hl : l.length ≤ 8) : BytM.val l < 18446744073709551616 :=
  Nat.lt_of_lt_of_le (BytM.val_lt_of h hl) (by omega)
end Go.Proofs.YtmbhibilmedjmaaDoor
set_option maxRecDepth 100000
namespace Go.Proofs.YtmbhibilmedjmaaDoor
open Go.ChangeShapes Go.WideShapes Go.ChangeAt Go.RowKit Go.Deep
theorem choose_lt {α : Type} [Inhabited α] {n : Nat} {P : Nat → α → Prop} (h : ∀ k, k < n → ∃ a, P k a) : ∃ f : Nat → α, ∀ k, k < n → P k (f k) :=
  ⟨fun k => if hk : k < n then (h k hk).choose else default, fun k hk => by simp only [hk, dif_pos]; exact (h k hk).choose_spec⟩
theorem u8_wf {a : Int} (h : (Lit.int .u8 a).wf = true) : ∃ n : Nat, a = n ∧ n < 256 := by
  simp [Lit.wf, IntKind.min, IntKind.max, IntKind.bits, IntKind.signed] at h
  exact ⟨a.toNat, by omega, by omega⟩
theorem cells_u8 : Tryd.prog.cellsOf 5 = 1 := by kernel_rfl
end Go.Proofs.YtmbhibilmedjmaaDoor
set_option maxRecDepth 100000
namespace Go.Proofs.YtmbhibilmedjmaaDoor
open Go.ChangeShapes Go.WideShapes Go.ChangeAt Go.RowKit Go.Deep
section
variable {H : Type} {enc : TypeId × Value → H} {w : World} {base : Nat} {spare : Nat → Bool} {held : Bool}
set_option maxRecDepth 100000 in
theorem open_byts {r : Reach} {b0 : Nat} {v : Value} {d : DataW H} {p : List MemPlace} (hv : Value.okWide Tryd.prog w r b0 26 v) (h : DataW.Trod enc Tryd.prog w base spare held 26 v d p) :
    ∃ (A : Option Addr) (l : List Nat) (n cap : Nat), v = .slice A n cap ∧ l.length = n ∧ n ≤ cap ∧ cap ≤ maxLen ∧ B256 l ∧ Byt w w.heap.size A l ∧ (A = none → n = 0 ∧ cap = 0) := by
  obtain ⟨A, n, cap, rfl⟩ := okWide_slice Tryd.underlying26 hv
  obtain ⟨fuel, hf⟩ := h
  rcases open_ints Tryd.underlying26 Tryd.underlying5 cells_u8 hf with ⟨hcs, _⟩ | ⟨a, len, cap', zs, hcs, _, hl, hm, hz, _, hcell, hwz⟩
  · simp [Value.cells] at hcs
    obtain ⟨rfl, rfl, rfl⟩ := hcs
    exact ⟨none, [], 0, 0, rfl, rfl, Nat.le_refl _, Nat.zero_le _, (fun x hx => by cases hx), Byt.none rfl, fun _ => ⟨rfl, rfl⟩⟩
  · simp [Value.cells] at hcs
    obtain ⟨rfl, rfl, rfl⟩ := hcs
    have hnz : n ≤ zs.length := by rw [hz]; split <;> omega
    have hlen : ((zs.take n).map Int.toNat).length = n := by rw [List.length_map, List.length_take]; omega
    have hat : ∀ i, i < n → ∃ k : Nat, zs.getD i 0 = k ∧ k < 256 ∧ ((zs.take n).map Int.toNat).getD i 0 = k := fun i hi => by
      have hi' : i < zs.length := by omega
      have hg : zs.getD i 0 = zs[i] := by rw [List.getD_eq_getElem?_getD, List.getElem?_eq_getElem hi']; rfl
      obtain ⟨k, hk, hk2⟩ := u8_wf (hwz zs[i] (List.getElem_mem hi'))
      refine ⟨k, hg.trans hk, hk2, ?_⟩
      rw [List.getD_eq_getElem?_getD, List.getElem?_map, List.getElem?_take_of_lt hi, List.getElem?_eq_getElem hi', hk]
      rfl
    refine ⟨some a, (zs.take n).map Int.toNat, n, cap, rfl, hlen, hl, hm, fun x hx => ?_, fun hn => ?_, fun h => by cases h⟩
    · obtain ⟨i, hi⟩ := List.getElem?_of_mem hx
      have hin : i < n := by have := (List.getElem?_eq_some_iff.1 hi).1; omega
      obtain ⟨k, _, hk, he⟩ := hat i hin
      rw [List.getD_eq_getElem?_getD, hi] at he
      have : x = k := he
      omega
    · rw [hlen] at hn
      have h0 := hcell 0 (by omega)
      have hsp : a.spot = none := by
        simp only [Addr.add, if_true] at h0
        unfold World.cell? at h0
        split at h0
        · cases hs : a.spot with
          | none => rfl
          | some s => simp [hs] at h0
        · cases h0
      have hblk : a.block < w.heap.size := by
        have := World.block_lt_of_cell? w _ h0
        simpa [Addr.add] using this
      obtain ⟨b, o, sp⟩ := a
      subst hsp
      refine ⟨b, o, rfl, hblk, fun i hi => ?_⟩
      rw [hlen] at hi
      obtain ⟨k, h1, _, h2⟩ := hat i hi
      have h3 := hcell i (by omega)
      rw [Addr.add_mid, h1] at h3
      rw [h3, h2]
end
end Go.Proofs.YtmbhibilmedjmaaDoor
set_option maxRecDepth 100000
namespace Go.Proofs.YtmbhibilmedjmaaDoor
open Go.ChangeShapes Go.WideShapes Go.ChangeAt Go.RowKit Go.Deep
/-- A slice of slices of bytes that came in; a part that is nil has no bytes and no room. -/
def PrtsN (w : World) (B : Nat) (A : Option Addr) (ls : List (List Nat)) : Prop :=
  0 < ls.length → ∃ b o, A = some ⟨b, o, none⟩ ∧ b < B ∧ ∀ i, i < ls.length → ∃ A' c, w.cell? ⟨b, o + i, none⟩ = some (.slice A' (ls.getD i []).length c) ∧ (ls.getD i []).length ≤ c ∧ c ≤ maxLen ∧ Byt w B A' (ls.getD i []) ∧ (A' = none → (ls.getD i []).length = 0 ∧ c = 0)
theorem PrtsN.below {B B' : Nat} {w w' : World} {A : Option Addr} {ls : List (List Nat)} (h : PrtsN w B A ls) (hb : Below B' w w') (hB : B ≤ B') : PrtsN w' B A ls := fun hn => by
  obtain ⟨b, o, rfl, hl, hr⟩ := h hn
  refine ⟨b, o, rfl, hl, fun i hi => ?_⟩
  obtain ⟨A', c, h1, h2, h3, h4, h5⟩ := hr i hi
  exact ⟨A', c, (hb.cell (p := ⟨b, o + i, none⟩) (by show b < B'; omega)).trans h1, h2, h3, h4.below hb hB, h5⟩
theorem PrtsN.more {w : World} {B B' : Nat} {A : Option Addr} {ls : List (List Nat)} (h : PrtsN w B A ls) (hB : B ≤ B') : PrtsN w B' A ls := fun hn => by
  obtain ⟨b, o, rfl, hl, hr⟩ := h hn
  refine ⟨b, o, rfl, by omega, fun i hi => ?_⟩
  obtain ⟨A', c, h1, h2, h3, h4, h5⟩ := hr i hi
  exact ⟨A', c, h1, h2, h3, h4.more hB, h5⟩
theorem cells_sl : Tryd.prog.cellsOf 26 = 1 := by kernel_rfl
section
variable {H : Type} {enc : TypeId × Value → H} {w : World} {base : Nat} {spare : Nat → Bool} {held : Bool}
theorem trod_byts {fuel : Nat} {cs : List Value} {x : DataW H × List MemPlace} (h : DataW.trod enc Tryd.prog w base spare held fuel 26 cs = some x) :
    ∃ (A : Option Addr) (l : List Nat) (cap : Nat), cs = [.slice A l.length cap] ∧ l.length ≤ cap ∧ cap ≤ maxLen ∧ B256 l ∧ Byt w w.heap.size A l ∧ (A = none → l.length = 0 ∧ cap = 0) := by
  rcases open_ints Tryd.underlying26 Tryd.underlying5 cells_u8 h with ⟨hcs, _⟩ | ⟨a, n, cap, zs, hcs, _, hl, hm, hz, _, hcell, hwz⟩
  · subst hcs
    exact ⟨none, [], 0, rfl, Nat.le_refl _, Nat.zero_le _, (fun x hx => by cases hx), Byt.none rfl, fun _ => ⟨rfl, rfl⟩⟩
  · subst hcs
    have hnz : n ≤ zs.length := by rw [hz]; split <;> omega
    have hlen : ((zs.take n).map Int.toNat).length = n := by rw [List.length_map, List.length_take]; omega
    have hat : ∀ i, i < n → ∃ k : Nat, zs.getD i 0 = k ∧ k < 256 ∧ ((zs.take n).map Int.toNat).getD i 0 = k := fun i hi => by
      have hi' : i < zs.length := by omega
      have hg : zs.getD i 0 = zs[i] := by rw [List.getD_eq_getElem?_getD, List.getElem?_eq_getElem hi']; rfl
      obtain ⟨k, hk, hk2⟩ := u8_wf (hwz zs[i] (List.getElem_mem hi'))
      refine ⟨k, hg.trans hk, hk2, ?_⟩
      rw [List.getD_eq_getElem?_getD, List.getElem?_map, List.getElem?_take_of_lt hi, List.getElem?_eq_getElem hi', hk]
      rfl
    refine ⟨some a, (zs.take n).map Int.toNat, cap, by rw [hlen], by rw [hlen]; exact hl, hm, fun x hx => ?_, fun hn => ?_, fun h => by cases h⟩
    · obtain ⟨i, hi⟩ := List.getElem?_of_mem hx
      have hin : i < n := by have := (List.getElem?_eq_some_iff.1 hi).1; omega
      obtain ⟨k, _, hk, he⟩ := hat i hin
      rw [List.getD_eq_getElem?_getD, hi] at he
      have : x = k := he
      omega
    · rw [hlen] at hn
      have h0 := hcell 0 (by omega)
      have hsp : a.spot = none := by
        simp only [Addr.add, if_true] at h0
        unfold World.cell? at h0
        split at h0
        · cases hs : a.spot with
          | none => rfl
          | some s => simp [hs] at h0
        · cases h0
      have hblk : a.block < w.heap.size := by
        have := World.block_lt_of_cell? w _ h0
        simpa [Addr.add] using this
      obtain ⟨b, o, sp⟩ := a
      subst hsp
      refine ⟨b, o, rfl, hblk, fun i hi => ?_⟩
      rw [hlen] at hi
      obtain ⟨k, h1, _, h2⟩ := hat i hi
      have h3 := hcell i (by omega)
      rw [Addr.add_mid, h1] at h3
      rw [h3, h2]
set_option maxRecDepth 100000 in
theorem open_prts {r : Reach} {b0 : Nat} {v : Value} {d : DataW H} {p : List MemPlace} (hv : Value.okWide Tryd.prog w r b0 60 v) (h : DataW.Trod enc Tryd.prog w base spare held 60 v d p) :
    ∃ (A : Option Addr) (ls : List (List Nat)) (n cap : Nat), v = .slice A n cap ∧ ls.length = n ∧ n ≤ cap ∧ cap ≤ maxLen ∧ (∀ l ∈ ls, B256 l) ∧ PrtsN w w.heap.size A ls ∧ (A = none → n = 0 ∧ cap = 0) := by
  obtain ⟨A, n, cap, rfl⟩ := okWide_slice Tryd.underlying60 hv
  obtain ⟨fuel, hf⟩ := h
  rcases open_slice Tryd.underlying60 hf with ⟨hcs, _⟩ | ⟨a, len, cap', m, fu, D, Plc, hcs, hb, hl, hm, hmm, hx, hi⟩
  · simp [Value.cells] at hcs
    obtain ⟨rfl, rfl, rfl⟩ := hcs
    exact ⟨none, [], 0, 0, rfl, rfl, Nat.le_refl _, Nat.zero_le _, (fun x hx => by cases hx), (fun h => absurd h (by simp)), fun _ => ⟨rfl, rfl⟩⟩
  · simp [Value.cells] at hcs
    obtain ⟨rfl, rfl, rfl⟩ := hcs
    have hnm : n ≤ m := by rw [hmm]; split <;> omega
    have one : ∀ i, i < n → ∃ y : List Nat, B256 y ∧ ∃ (A' : Option Addr) (c : Nat), w.cell? (a.add i) = some (.slice A' y.length c) ∧ y.length ≤ c ∧ c ≤ maxLen ∧ Byt w w.heap.size A' y ∧ (A' = none → y.length = 0 ∧ c = 0) := fun i hin => by
      obtain ⟨cs', hc, ht⟩ := hi i (by omega)
      obtain ⟨A', y, c, e, h1, h2, h3, h4, h5⟩ := trod_byts ht
      subst e
      have h6 := (World.cells?_some hc).2.2 0 (by rw [cells_sl]; omega)
      rw [Go.Deep.add_add, cells_sl, Nat.mul_one, Nat.add_zero] at h6
      exact ⟨y, h3, A', c, h6, h1, h2, h4, h5⟩
    obtain ⟨F, hF⟩ := choose_lt one
    have hg : ∀ i, i < n → (((List.range n).map F).getD i []) = F i := fun i hi => by
      rw [List.getD_eq_getElem?_getD, List.getElem?_map, List.getElem?_range hi]; rfl
    refine ⟨some a, (List.range n).map F, n, cap, rfl, by simp, hl, hm, fun l hl2 => ?_, fun hn => ?_, fun h => by cases h⟩
    · obtain ⟨i, hi2, rfl⟩ := List.mem_map.1 hl2
      exact (hF i (List.mem_range.1 hi2)).1
    · have hn' : 0 < n := by simpa using hn
      obtain ⟨_, A0, c0, h0, _⟩ := hF 0 hn'
      have hsp : a.spot = none := by
        simp only [Addr.add, if_true] at h0
        unfold World.cell? at h0
        split at h0
        · cases hs : a.spot with
          | none => rfl
          | some s => simp [hs] at h0
        · cases h0
      have hblk : a.block < w.heap.size := by
        have := World.block_lt_of_cell? w _ h0
        simpa [Addr.add] using this
      obtain ⟨b, o, sp⟩ := a
      subst hsp
      refine ⟨b, o, rfl, hblk, fun i hi2 => ?_⟩
      have hin : i < n := by simpa using hi2
      obtain ⟨_, A', c, h1, h2, h3, h4, h5⟩ := hF i hin
      rw [Addr.add_mid] at h1
      rw [hg i hin]
      exact ⟨A', c, h1, h2, h3, h4, h5⟩
end
end Go.Proofs.YtmbhibilmedjmaaDoor
set_option maxRecDepth 100000
namespace Go.Proofs.YtmbhibilmedjmaaDoor
open Go.ChangeShapes Go.WideShapes Go.ChangeAt Go.RowKit
attribute [local go_sem] Gives
/-- Slices of slices that are not large. -/
structure Rws (w : World) (A : Option Addr) (ls : List (List Nat)) (n cp : Nat) : Prop where
  len : ls.length = n
  cap : n ≤ cp
  max : cp ≤ maxLen
  b256 : ∀ l ∈ ls, B256 l
  none : A = none → n = 0 ∧ cp = 0
  prts : PrtsN w w.heap.size A ls
theorem Rws.on {w w' : World} {A : Option Addr} {ls : List (List Nat)} {n cap : Nat} (h : Rws w A ls n cap) (hb : Below w.heap.size w w') : Rws w' A ls n cap where
  len := h.len
  cap := h.cap
  max := h.max
  b256 := h.b256
  none := h.none
  prts := (h.prts.below hb (Nat.le_refl _)).more hb.size
theorem getD_mem {ls : List (List Nat)} {i : Nat} (h : i < ls.length) : ls.getD i [] ∈ ls := by
  rw [List.getD_eq_getElem?_getD, List.getElem?_eq_getElem h]; exact List.getElem_mem h
theorem Rws.part {w : World} {A : Option Addr} {ls : List (List Nat)} {n cap : Nat} (h : Rws w A ls n cap) {i : Nat} (hi : i < n) :
    ∃ b o A' c, A = some ⟨b, o, .none⟩ ∧ b < w.heap.size ∧ w.cell? ⟨b, o + i, .none⟩ = some (.slice A' (ls.getD i []).length c) ∧ Arg w A' (ls.getD i []) (ls.getD i []).length c := by
  obtain ⟨b, o, rfl, hl, hr⟩ := h.prts (by rw [h.len]; omega)
  obtain ⟨A', c, h1, h2, h3, h4, h5⟩ := hr i (by rw [h.len]; exact hi)
  exact ⟨b, o, A', c, rfl, hl, h1, rfl, h2, h3, h.b256 _ (getD_mem (by rw [h.len]; exact hi)), h5, h4⟩
theorem flatP_step {ls : List (List Nat)} {i : Nat} (h : i < ls.length) : BytM.flatP (ls.take (i + 1)) = BytM.flatP (ls.take i) ++ (BytM.dig 4 (ls.getD i []).length ++ ls.getD i []) := by
  have e : ls.getD i [] = ls[i] := by rw [List.getD_eq_getElem?_getD, List.getElem?_eq_getElem h]; rfl
  rw [List.take_succ_eq_append_getElem h, ← e, BytM.flatP_append]
  show _ ++ (BytM.dig 4 _ ++ _ ++ []) = _
  rw [List.append_nil]
theorem flatP_take_le (ls : List (List Nat)) (i : Nat) : (BytM.flatP (ls.take i)).length ≤ (BytM.flatP ls).length := by
  conv => rhs; rw [← List.take_append_drop i ls, BytM.flatP_append, List.length_append]
  omega
set_option maxHeartbeats 400000 in
theorem prow_bad (d : Value) (A : Option Addr) (n cap : Nat) (h : 16 < n) (W : World) :
    Calls Tryd.prog 43 #[d, .slice A n cap] W fun e w' => e = .returned (.tuple #[.slice none 0 0, .int .i64 3]) ∧ W = w' := by
  have t : decide ((16 : Int) < (n : Int)) = true := decide_eq_true (by omega)
  clear h
  go_enter Tryd.func43, Tryd.ntmps43
  go_wp2_with fail
  go_ret2
  exact ⟨rfl, rfl⟩
end Go.Proofs.YtmbhibilmedjmaaDoor
set_option maxRecDepth 100000
namespace Go.Proofs.YtmbhibilmedjmaaDoor
open Go.ChangeShapes Go.WideShapes Go.ChangeAt Go.RowKit
attribute [local go_sem] Gives
theorem dig1 {d : Nat} (h : d < 256) : BytM.dig 1 d = [d] := by
  show [d / 256 ^ 0 % 256] = [d]
  rw [Nat.pow_zero, Nat.div_one, Nat.mod_eq_of_lt h]
set_option maxHeartbeats 400000 in
theorem prow_any (d : Nat) (hd : d < 256) (A : Option Addr) (ls : List (List Nat)) (n cap : Nat) (hn : n ≤ 16) (hz : (BytM.flatP ls).length ≤ 800000) (W : World) (h : Rws W A ls n cap) :
    Calls Tryd.prog 43 #[.int .u8 d, .slice A n cap] W fun e w' => ∃ v, e = .returned (.tuple #[v, .int .i64 0]) ∧ Own 5 .u8 w' W.heap.size v (BytM.rowB d ls) ∧ Below W.heap.size W w' := by
  have t : decide ((16 : Int) < (n : Int)) = false := decide_eq_false (by omega)
  have H := hid h
  have HZ := hid hz
  have D1 := hid (dig1 hd)
  have N1 := hid (dig1 (d := n) (by omega))
  clear h hz
  go_enter Tryd.func43, Tryd.ntmps43
  go_wp2_with fail
  clear t
  go_loopw [6, 17] (fun u i wr => ∃ (k L : Nat), k ≤ n ∧ i = .int .i64 k ∧ u = .int .i64 ((2 + L : Nat) : Int) ∧ L ≤ 800000 ∧ Hid (L = (BytM.flatP (ls.take k)).length) ∧ W = wr) (fun _ i _ => n - (intOf i).toNat)
  case atStart => exact ⟨0, 0, by omega, rfl, rfl, by omega, hid rfl, rfl⟩
  case round =>
    obtain ⟨k, L, hk, rfl, rfl, hL, hLe, rfl⟩ := hrel
    by_cases hlt : k < n
    · have tk : (k : Int) < (n : Int) := by omega
      obtain ⟨b, o, A', c, rfl, _, q1, _⟩ := H.out.part hlt
      have hst := flatP_step (ls := ls) (i := k) (by rw [H.out.len]; exact hlt)
      have hle := flatP_take_le ls (k + 1)
      have hst2 := congrArg List.length hst
      rw [List.length_append, List.length_append, BytM.dig_length, ← hLe.out] at hst2
      have hM : (ls.getD k []).length ≤ 800000 := by have := HZ.out; omega
      generalize (ls.getD k []).length = M at *
      have hL2 : L + (4 + M) ≤ 800000 := by have := HZ.out; omega
      have S2 := hid hst2.symm
      clear hst hle hst2
      go_wp2_with fail
      go_roundw
      case rel => exact ⟨k + 1, L + (4 + M), by omega, by go_num, by go_num, hL2, S2, trivial⟩
      case measure => simp [intOf] <;> omega
    · obtain rfl : k = n := by omega
      have hL2 := hLe.out
      rw [List.take_of_length_le (by rw [H.out.len]; exact Nat.le_refl _)] at hL2
      have HL2 := hid hL2
      clear hL2 hLe
      have hk64 : (k : Int) ≤ 16 := by omega
      go_upto_region 10 with ((with_reducible apply mk0 (n := 2 + L)); omega; rfl; rfl; intro v2 w2 o2 b2)
      have O2 := hid o2
      have B2 := hid b2
      clear o2 b2
      go_wp2_with fail
      refine (lay_any _ [] W.heap.size 1 d (by omega) (by simp) w2 O2.out B2.out.size).mono ?_
      rintro e w3 ⟨v3, rfl, o3, b3⟩
      rw [D1.out, List.nil_append] at o3
      have O3 := hid o3
      have B3 := hid (B2.out.trans b3)
      clear o3 b3 O2 B2
      go_wp2_with fail
      refine (lay_any v3 [d] W.heap.size 1 k (by omega) (by simp) w3 O3.out B3.out.size).mono ?_
      rintro e w4 ⟨v4, rfl, o4, b4⟩
      rw [N1.out] at o4
      have O4 := hid o4
      have B4 := hid (B3.out.trans b4)
      clear o4 b4 O3 B3
      go_wp2_with fail
      go_loopw [9, 40] (fun u i wr => ∃ (j : Nat) (vo : Value), j ≤ k ∧ i = .int .i64 j ∧ u = vo ∧ Hid (Own 5 .u8 wr W.heap.size vo (d :: k :: BytM.flatP (ls.take j))) ∧ Hid (Below W.heap.size W wr)) (fun _ i _ => k - (intOf i).toNat)
      case atStart => exact ⟨0, _, by omega, rfl, rfl, O4, B4⟩
      case round =>
        clear O4 B4
        obtain ⟨j, vo, hj, rfl, rfl, ho, hb⟩ := hrel
        by_cases hlt2 : j < k
        · have tj : (j : Int) < (k : Int) := by omega
          obtain ⟨b, o, A', c, rfl, hbl, q0, a1⟩ := H.out.part hlt2
          have q1 := (hb.out.cell (p := ⟨b, o + j, none⟩) hbl).trans q0
          have hst := flatP_step (ls := ls) (i := j) (by rw [H.out.len]; exact hlt2)
          have hle := flatP_take_le ls (j + 1)
          rw [hst, List.length_append, List.length_append, BytM.dig_length] at hle
          have hM : (ls.getD j []).length ≤ 800000 := by have := HZ.out; omega
          have hLt : (BytM.flatP (ls.take j)).length ≤ 800000 := by have := HZ.out; omega
          have HLT := hid hLt
          have ST := hid hst
          generalize ls.getD j [] = m at *
          have A1 := hid a1
          have HLE := hid (Nat.le_trans hle HZ.out)
          clear hst hle hLt a1 q0
          obtain ⟨M, hMe⟩ : ∃ M, M = m.length := ⟨_, rfl⟩
          rw [← hMe] at q1 hM
          have ME := hid hMe
          clear hMe
          go_wp2_with fail
          refine (lay_any u9 _ W.heap.size 4 M (by omega) (by simp only [List.length_cons]; have := HLT.out; omega) wr ho.out hb.out.size).mono ?_
          rintro e w5 ⟨v5, rfl, o5, b5⟩
          have O5 := hid o5
          have B5 := hid (hb.out.trans b5)
          have a5 := A1.out.on B5.out
          rw [← ME.out] at a5
          have A5 := hid a5
          clear o5 b5 a5 q1
          go_wp2_with (at_builtin; (with_reducible apply wappN_any eltB); rfl; rfl; exact A5.out.none; exact O5.out; exact A5.out.byt.nums; exact ME.out.symm; (simp only [List.length_append, List.length_cons, BytM.dig_length]; have := HLE.out; have := ME.out; omega); exact B5.out.size; intro v6 w6 o6 g6)
          have b6 := below_grown B5.out g6 O5.out (Nat.le_refl _) (Nat.le_refl _)
          go_roundw
          case rel => exact ⟨j + 1, v6, by omega, by go_num, rfl, hid (by rw [ST.out, ← ME.out, ← List.append_assoc]; exact o6), hid b6⟩
          case measure => simp [intOf] <;> omega
        · obtain rfl : j = k := by omega
          have ho2 := ho.out
          rw [List.take_of_length_le (by rw [H.out.len]; exact Nat.le_refl _)] at ho2
          have O2 := hid ho2
          have HN := hid H.out.len
          clear ho2 ho
          go_wp2_with fail
          go_ret2
          refine ⟨_, rfl, ?_, hb.out⟩
          unfold BytM.rowB
          rw [HN.out]
          exact O2.out
end Go.Proofs.YtmbhibilmedjmaaDoor
set_option maxRecDepth 100000
namespace Go.Proofs.YtmbhibilmedjmaaDoor
open Go.ChangeShapes Go.WideShapes Go.ChangeAt Go.RowKit
attribute [local go_sem] Gives
namespace TgP
/-- Parts of a message that lie in one block of slices. -/
theorem rws_lit {w : World} {g n : Nat} {t : TypeId} {cs : Array Value} {ls : List (List Nat)} (hb : Blk w g t cs) (hn : ls.length = n) (hm : n ≤ 1000) (h : ∀ i, i < ls.length → ∃ A' c, cs[i]? = some (.slice A' (ls.getD i []).length c) ∧ Arg w A' (ls.getD i []) (ls.getD i []).length c) : Rws w (some ⟨g, 0, none⟩) ls n n where
  len := hn
  cap := Nat.le_refl _
  max := by unfold maxLen; omega
  b256 l hl := by
    obtain ⟨i, hi⟩ := List.getElem?_of_mem hl
    have hi' := (List.getElem?_eq_some_iff.1 hi).1
    obtain ⟨A', c, _, h2⟩ := h i hi'
    have e : ls.getD i [] = l := by rw [List.getD_eq_getElem?_getD, hi]; rfl
    rw [e] at h2
    exact h2.b256
  none h := by cases h
  prts _ := ⟨g, 0, rfl, hb.lt, fun i hi => by
    obtain ⟨A', c, h1, h2⟩ := h i hi
    exact ⟨A', c, by rw [Nat.zero_add, hb.cell i, h1], h2.cap, h2.max, h2.byt, fun e => by have := h2.none e; exact this⟩⟩
theorem ar_arg {w : World} {g n : Nat} {t : TypeId} {f : Nat → Nat} (h : Blk w g t (ar n f)) (hf : ∀ i, f i < 256) (hn : n ≤ 100000) : Arg w (some ⟨g, 0, none⟩) (ls n f) (ls n f).length n where
  len := rfl
  cap := by rw [ls_length]; exact Nat.le_refl _
  max := by unfold maxLen; omega
  b256 := ls_256 hf
  none e := by cases e
  byt := fun _ => ⟨g, 0, rfl, h.lt, fun i hi => by
    rw [ls_length] at hi
    rw [Nat.zero_add, h.cell, get_ar hi]
    unfold ls
    rw [List.getD_eq_getElem?_getD, List.getElem?_map, List.getElem?_range hi]; rfl⟩
set_option maxHeartbeats 400000 in
theorem message_any (d : Nat) (hd : d < 256) (A : Option Addr) (ls : List (List Nat)) (n cap : Nat) (hn : n ≤ 16) (hz : (BytM.flatP ls).length ≤ 800000) (W : World) (h : Rws W A ls n cap) :
    Calls Tryd.prog 34 #[.int .u8 d, .slice A n cap] W fun e w' => ∃ v, e = .returned v ∧ Own 5 .u8 w' W.heap.size v (BytM.rowB d ls) ∧ Below W.heap.size W w' := by
  have HC := hid (prow_any d hd A ls n cap hn hz W h)
  clear h hz hn hd
  go_enter Tryd.func34, Tryd.ntmps34
  go_wp2_with fail
  refine HC.out.mono ?_
  rintro e w2 ⟨v, rfl, o2, h2⟩
  have O2 := hid o2
  have B2 := hid h2
  clear o2 h2 HC
  go_wp2_with fail
  go_ret
  exact ⟨_, rfl, O2.out, B2.out⟩
theorem flat1 {l : List Nat} : (BytM.flatP [l]).length = 4 + l.length := by
  show (BytM.dig 4 l.length ++ l ++ []).length = _
  rw [List.append_nil, List.length_append, BytM.dig_length]
theorem flat2 {l m : List Nat} : (BytM.flatP [l, m]).length = 8 + l.length + m.length := by
  show (BytM.dig 4 l.length ++ l ++ (BytM.dig 4 m.length ++ m ++ [])).length = _
  rw [List.append_nil, List.length_append, List.length_append, List.length_append, BytM.dig_length, BytM.dig_length]; omega
theorem rws1 {w : World} {g n cap : Nat} {t : TypeId} {A : Option Addr} {l : List Nat} (hb : Blk w g t #[.slice A n cap]) (h : Arg w A l n cap) : Rws w (some ⟨g, 0, none⟩) [l] 1 1 :=
  rws_lit hb rfl (by omega) fun i hi => by
    obtain rfl : i = 0 := by simpa using hi
    have e : ([l] : List (List Nat)).getD 0 [] = l := rfl
    rw [e, h.len]
    exact ⟨A, cap, rfl, h⟩
theorem rws2 {w : World} {g n cap m cap2 : Nat} {t : TypeId} {A B : Option Addr} {l k : List Nat} (hb : Blk w g t #[.slice A n cap, .slice B m cap2]) (h : Arg w A l n cap) (h2 : Arg w B k m cap2) : Rws w (some ⟨g, 0, none⟩) [l, k] 2 2 :=
  rws_lit hb rfl (by omega) fun i hi => by
    have hi' : i = 0 ∨ i = 1 := by simp at hi; omega
    rcases hi' with rfl | rfl
    · have e : ([l, k] : List (List Nat)).getD 0 [] = l := rfl
      rw [e, h.len]
      exact ⟨A, cap, rfl, h⟩
    · have e : ([l, k] : List (List Nat)).getD 1 [] = k := rfl
      rw [e, h2.len]
      exact ⟨B, cap2, rfl, h2⟩
set_option maxHeartbeats 400000 in
theorem roottext_any : PlainText 18 82 := fun A l n cap hn w h => by
  have H := hid h
  have HN := hid hn
  clear h hn
  go_enter Tryd.func18, Tryd.ntmps18
  go_wp2_with fail
  generalize hw1 : World.alloc w _ = w1
  have hb := hid (show Below w.heap.size w w1 by rw [← hw1]; exact (Below.refl _ _).alloc (Nat.le_refl _) _)
  have hr := hid (rws1 (show Blk w1 w.heap.size 26 #[.slice A n cap] by rw [← hw1]; exact Blk.new _ _ _) (H.out.on hb.out))
  have hz := hid (show (BytM.flatP [l]).length ≤ 800000 by rw [flat1, H.out.len]; have := HN.out; omega)
  clear hw1
  refine (message_any 82 (by omega) _ [l] 1 1 (by omega) hz.out w1 hr.out).mono ?_
  rintro e w2 ⟨v, rfl, o2, h2⟩
  have O2 := hid (ownDown o2 hb.out.size)
  have B2 := hid (hb.out.trans (h2.mono hb.out.size))
  clear o2 h2 hr hz H
  go_wp2_with fail
  go_ret
  exact ⟨_, rfl, O2.out, B2.out⟩
set_option maxHeartbeats 400000 in
theorem headtext_any : PlainText 19 72 := fun A l n cap hn w h => by
  have H := hid h
  have HN := hid hn
  clear h hn
  go_enter Tryd.func19, Tryd.ntmps19
  go_wp2_with fail
  generalize hw1 : World.alloc w _ = w1
  have hb := hid (show Below w.heap.size w w1 by rw [← hw1]; exact (Below.refl _ _).alloc (Nat.le_refl _) _)
  have hr := hid (rws1 (show Blk w1 w.heap.size 26 #[.slice A n cap] by rw [← hw1]; exact Blk.new _ _ _) (H.out.on hb.out))
  have hz := hid (show (BytM.flatP [l]).length ≤ 800000 by rw [flat1, H.out.len]; have := HN.out; omega)
  clear hw1
  refine (message_any 72 (by omega) _ [l] 1 1 (by omega) hz.out w1 hr.out).mono ?_
  rintro e w2 ⟨v, rfl, o2, h2⟩
  have O2 := hid (ownDown o2 hb.out.size)
  have B2 := hid (hb.out.trans (h2.mono hb.out.size))
  clear o2 h2 hr hz H
  go_wp2_with fail
  go_ret
  exact ⟨_, rfl, O2.out, B2.out⟩
set_option maxHeartbeats 400000 in
theorem bodytext_any : PlainText 20 66 := fun A l n cap hn w h => by
  have H := hid h
  have HN := hid hn
  clear h hn
  go_enter Tryd.func20, Tryd.ntmps20
  go_wp2_with fail
  generalize hw1 : World.alloc w _ = w1
  have hb := hid (show Below w.heap.size w w1 by rw [← hw1]; exact (Below.refl _ _).alloc (Nat.le_refl _) _)
  have hr := hid (rws1 (show Blk w1 w.heap.size 26 #[.slice A n cap] by rw [← hw1]; exact Blk.new _ _ _) (H.out.on hb.out))
  have hz := hid (show (BytM.flatP [l]).length ≤ 800000 by rw [flat1, H.out.len]; have := HN.out; omega)
  clear hw1
  refine (message_any 66 (by omega) _ [l] 1 1 (by omega) hz.out w1 hr.out).mono ?_
  rintro e w2 ⟨v, rfl, o2, h2⟩
  have O2 := hid (ownDown o2 hb.out.size)
  have B2 := hid (hb.out.trans (h2.mono hb.out.size))
  clear o2 h2 hr hz H
  go_wp2_with fail
  go_ret
  exact ⟨_, rfl, O2.out, B2.out⟩
end TgP
end Go.Proofs.YtmbhibilmedjmaaDoor
set_option maxRecDepth 100000
namespace Go.Proofs.YtmbhibilmedjmaaDoor
open Go.ChangeShapes Go.WideShapes Go.ChangeAt Go.RowKit
attribute [local go_sem] Gives
namespace TgP
theorem t8 : ArT 45 8 := ⟨by kernel_rfl, ⟨_, Tryd.underlying45, rfl⟩, (zero_of_info (P := Tryd.prog) (t := 45) (v := .agg (ar 8 fun _ => 0)) (n := 8) (by kernel_rfl)).1⟩
/-- The bytes of a number, the highest first. -/
def dgF (n j : Nat) : Nat := n / 256 ^ (7 - j) % 256
theorem dgF_lt (n j : Nat) : dgF n j < 256 := Nat.mod_lt _ (by omega)
theorem dgF_ls (n : Nat) : ls 8 (dgF n) = BytM.dig 8 n := rfl
theorem shr8 {U i : Nat} (h : i < 8) : (U : Int) / 2 ^ (8 * (7 - i)) % 256 = ((dgF U i : Nat) : Int) := by
  have e : (256 : Nat) ^ (7 - i) = 2 ^ (8 * (7 - i)) := by rw [Nat.pow_mul]
  unfold dgF
  rw [e]
  simp
set_option maxHeartbeats 400000 in
set_option maxRecDepth 100000 in
theorem numbered_any (d : Nat) (hd : d < 256) (num : Int) (s : Nat → Nat) (hs : ∀ i, s i < 256) (w : World) :
    Calls Tryd.prog 31 #[.int .u8 d, .int .i64 num, .agg (ar 64 s)] w fun e w' => ∃ v, e = .returned v ∧ Own 5 .u8 w' w.heap.size v (numT d num s) ∧ Below w.heap.size w w' := by
  have HF := hid hs
  have HD := hid hd
  have hbi : num % 18446744073709551616 = ((bits num : Nat) : Int) := by unfold bits; omega
  have hul := bits_lt num
  clear hs hd
  go_enter Tryd.func31, Tryd.ntmps31
  go_upto_region 1 with fail
  generalize hw1 : World.alloc w _ = w1
  have B1 := hid (show Blk w1 w.heap.size 25 (ar 64 s) by rw [← hw1]; exact Blk.new _ _ _)
  have BEL := hid (show Below w.heap.size w w1 by rw [← hw1]; exact (Below.refl _ _).alloc (Nat.le_refl _) _)
  clear hw1
  have hl1 := B1.out.lt
  go_upto_region 2 with fail
  rw [show IntKind.u64.wrap num = ((bits num : Nat) : Int) from hbi]
  clear hbi
  obtain ⟨U, hU⟩ : ∃ U, U = bits num := ⟨_, rfl⟩
  rw [← hU] at hul ⊢
  have HUE := hid hU
  clear hU
  have hz : Blk (w1.alloc (.cells (ar 8 fun _ => 0) 45)) w1.heap.size 45 (ar 8 fun _ => 0) := Blk.new _ _ _
  obtain ⟨g, hg⟩ : ∃ g, g = w1.heap.size := ⟨_, rfl⟩
  go_upto_region 3 with (with_reducible apply alA t8)
  rw [← hg] at hz hl1 ⊢
  generalize hw2 : World.alloc w1 _ = w2 at hz ⊢
  have B2 := hid (show Blk w2 w.heap.size 25 (ar 64 s) by rw [← hw2]; exact B1.out.alloc _)
  have BE2 := hid (show Below w.heap.size w w2 by rw [← hw2]; exact BEL.out.alloc BEL.out.size _)
  have Z2 := hid hz
  clear hw2 B1 BEL hz hg
  go_wp2_with fail
  go_loopw [12] (fun v wr => ∃ i : Nat, i ≤ 8 ∧ v = .int .i64 i ∧ Hid (Blk wr w.heap.size 25 (ar 64 s)) ∧ Hid (Blk wr g 45 (ar 8 (upTo i (fun _ => 0) (dgF U)))) ∧ Hid (Below w.heap.size w wr)) (fun v _ => 8 - (intOf v).toNat)
  case atStart => exact ⟨0, by omega, rfl, B2, hid (by rw [upTo_zero]; exact Z2.out), BE2⟩
  case round =>
    clear B2 BE2 Z2
    obtain ⟨i, hi, rfl, b1, b2, hb⟩ := hrel
    by_cases hlt : i < 8
    · have ti : (i : Int) < 8 := by omega
      have c3 := b2.out.frozen i
      have c4 := (b2.out.cell i).trans (get_ar hlt)
      have hx := shr8 (U := U) hlt
      go_wp2_with fail
      go_roundw
      case rel => exact ⟨i + 1, by omega, by go_num, hid (b1.out.setCell_other (by show g ≠ _; omega) _), hid (upTo_step (b2.out.setCell_same i _)), hid (hb.out.setCell (by show w.heap.size ≤ g; omega) _)⟩
      case measure => simp [intOf]; omega
    · obtain rfl : i = 8 := by omega
      have e8 := b2.out
      rw [upTo_all (Nat.le_refl 8)] at e8
      have hgl := b2.out.lt
      have hwl := b1.out.lt
      have aN := ar_arg e8 (dgF_lt U) (by omega)
      have aS := ar_arg b1.out HF.out (by omega)
      rw [dgF_ls, BytM.dig_length] at aN
      rw [ls_length] at aS
      have AN := hid aN
      have AS := hid aS
      clear e8 aN aS b1 b2
      go_upto_region 8 with fail
      refine wp_region_put (C := Put wr (.cells #[.slice (some ⟨g, 0, none⟩) 8 8, .slice (some ⟨w.heap.size, 0, none⟩) 64 64] 26)) 3 4 (by omega) (by kernel_rfl) (by kernel_rfl) (by kernel_rfl) (Drew.refl _) ?_
      simp only [List.take_succ_cons, List.take_zero, List.drop_succ_cons, List.drop_zero]
      apply wpS_val
      · decide
      · rfl
      · intro bb w' hw'
        go_simp
        first | exact rfl | exact ⟨rfl, hw'⟩
      simp only [Act.put, List.setIfInBounds_toArray, List.set_cons_succ, List.set_cons_zero]
      apply wpS_val
      · decide
      · rfl
      · intro bb w' hw'
        go_simp
        first | exact rfl | exact ⟨rfl, hw'⟩
      simp only [Act.put, List.setIfInBounds_toArray, List.set_cons_succ, List.set_cons_zero]
      apply wpS_val
      · decide
      · rfl
      · intro bb w' hw'
        go_simp
        first | exact rfl | exact ⟨rfl, hw'⟩
      simp only [Act.put, List.setIfInBounds_toArray, List.set_cons_succ, List.set_cons_zero]
      apply wpS_put
      · rfl
      · rfl
      · intro w' hw'
        have hw2 : Drew wr w' := hw'
        have hzz := hw2.heap
        go_simp
        exact ⟨rfl, w', hw2, rfl⟩
      simp only [Act.put, List.setIfInBounds_toArray, List.set_cons_succ, List.set_cons_zero]
      refine wpS_nil fun w8 hw8 => ?_
      obtain ⟨w7, h7, rfl⟩ := hw8
      have hz7 : wr.heap.size = w7.heap.size := by rw [h7.heap]
      have b7 := h7.below hb.out
      have a7 := AN.out.on (h7.below (Below.refl wr.heap.size wr))
      have s7 := AS.out.on (h7.below (Below.refl wr.heap.size wr))
      have bl : Blk (w7.alloc (.cells #[.slice (some ⟨g, 0, none⟩) 8 8, .slice (some ⟨w.heap.size, 0, none⟩) 64 64] 26)) wr.heap.size 26 #[.slice (some ⟨g, 0, none⟩) 8 8, .slice (some ⟨w.heap.size, 0, none⟩) 64 64] := by rw [hz7]; exact Blk.new _ _ _
      have ba : Below w7.heap.size w7 (w7.alloc (.cells #[.slice (some ⟨g, 0, none⟩) 8 8, .slice (some ⟨w.heap.size, 0, none⟩) 64 64] 26)) := (Below.refl _ _).alloc (Nat.le_refl _) _
      have BE9 := hid (b7.trans (ba.mono b7.size))
      have HR := hid (rws2 bl (a7.on ba) (s7.on ba))
      generalize World.alloc w7 _ = w9 at BE9 HR ⊢
      have HZ := hid (show (BytM.flatP [BytM.dig 8 U, ls 64 s]).length ≤ 800000 by rw [flat2, BytM.dig_length, ls_length]; omega)
      clear bl ba a7 s7 b7 AN AS h7 hz7
      go_wp2_with fail
      refine (message_any d HD.out _ _ 2 2 (by omega) HZ.out w9 HR.out).mono ?_
      rintro e w2 ⟨v, rfl, o2, h2⟩
      rw [HUE.out] at o2
      have O2 := hid (ownDown o2 BE9.out.size)
      have B3 := hid (BE9.out.trans (h2.mono BE9.out.size))
      clear o2 h2 HR HZ
      go_wp2_with fail
      go_ret
      exact ⟨_, rfl, O2.out, B3.out⟩
set_option maxHeartbeats 400000 in
set_option maxRecDepth 100000 in
theorem leaftext_any : NumText 6 76 := fun num hn s hs w => by
  have HF := hid hs
  clear hs
  go_enter Tryd.func6, Tryd.ntmps6
  go_upto_region 1 with fail
  generalize hw1 : World.alloc w _ = w1
  have B1 := hid (show Blk w1 w.heap.size 25 (ar 64 s) by rw [← hw1]; exact Blk.new _ _ _)
  have hb := hid (show Below w.heap.size w w1 by rw [← hw1]; exact (Below.refl _ _).alloc (Nat.le_refl _) _)
  clear hw1
  go_wp2_with ((with_reducible apply ldA tS); rfl; exact B1.out)
  refine (numbered_any 76 (by omega) num s HF.out w1).mono ?_
  rintro e w2 ⟨v, rfl, o2, h2⟩
  have O2 := hid (ownDown o2 hb.out.size)
  have B3 := hid (hb.out.trans (h2.mono hb.out.size))
  clear o2 h2 B1
  go_wp2_with fail
  go_ret
  exact ⟨_, rfl, O2.out, B3.out⟩
set_option maxHeartbeats 400000 in
set_option maxRecDepth 100000 in
theorem nodetext_any : NumText 8 78 := fun num hn s hs w => by
  have HF := hid hs
  clear hs
  go_enter Tryd.func8, Tryd.ntmps8
  go_upto_region 1 with fail
  generalize hw1 : World.alloc w _ = w1
  have B1 := hid (show Blk w1 w.heap.size 25 (ar 64 s) by rw [← hw1]; exact Blk.new _ _ _)
  have hb := hid (show Below w.heap.size w w1 by rw [← hw1]; exact (Below.refl _ _).alloc (Nat.le_refl _) _)
  clear hw1
  go_wp2_with ((with_reducible apply ldA tS); rfl; exact B1.out)
  refine (numbered_any 78 (by omega) num s HF.out w1).mono ?_
  rintro e w2 ⟨v, rfl, o2, h2⟩
  have O2 := hid (ownDown o2 hb.out.size)
  have B3 := hid (hb.out.trans (h2.mono hb.out.size))
  clear o2 h2 B1
  go_wp2_with fail
  go_ret
  exact ⟨_, rfl, O2.out, B3.out⟩
theorem leaf_ok : LeafC := ⟨leaftext_any, roottext_any⟩
theorem rest_ok : RestC := ⟨nodetext_any, headtext_any, bodytext_any⟩
end TgP
end Go.Proofs.YtmbhibilmedjmaaDoor
set_option maxRecDepth 100000
namespace Go.Proofs.YtmbhibilmedjmaaDoor
open Go.ChangeShapes Go.WideShapes Go.ChangeAt Go.RowKit
attribute [local go_sem] Gives GivesE
namespace TgP
theorem key_argT {w : World} {g : Nat} {t : TypeId} {k : Nat → Nat} (h : Blk w g t (ar 32 k)) : Byt w w.heap.size (some ⟨g, 0, none⟩) (HmM.dl k) := fun _ =>
  ⟨g, 0, rfl, h.lt, fun i hi => by rw [HmM.dl_length] at hi; rw [Nat.zero_add, h.cell, get_ar hi, HmM.dl_get _ hi]⟩
set_option maxHeartbeats 400000 in
set_option maxRecDepth 100000 in
theorem of_any (k : Nat → Nat) (hk : ∀ i, k i < 256) (A : Option Addr) (l : List Nat) (n cap : Nat) (hn : n ≤ 90000) (w : World) (h : Arg w A l n cap) (hS : Salts w) :
    Calls Tryd.prog 28 #[.agg (ar 32 k), .slice A n cap] w fun e w' => e = .returned (.agg (ar 32 (HmM.tag (HmM.dl k) l))) ∧ Below w.heap.size w w' := by
  have HF := hid hk
  have HN := hid hn
  have H := hid h
  have SA := hid hS
  clear hk hn h hS
  go_enter Tryd.func28, Tryd.ntmps28
  go_upto_region 1 with (with_reducible apply alA tT)
  try rw [show (w.alloc (.cells (ar 32 k) 23)).heap.size = w.heap.size + 1 by simp]
  generalize hw1 : World.alloc (World.alloc w _) _ = w1
  have B1 := hid (show Blk w1 w.heap.size 23 (ar 32 k) by rw [← hw1]; exact (Blk.new _ _ _).alloc _)
  have B2 := hid (show Blk w1 (w.heap.size + 1) 29 (ar 32 fun _ => 0) by rw [← hw1]; exact Blk.top rfl (by simp))
  have hb := hid (show Below w.heap.size w w1 by rw [← hw1]; exact ((Below.refl _ _).alloc (Nat.le_refl _) _).alloc (by simp) _)
  have sa := hid (SA.out.on hb.out)
  have A1 := hid (H.out.on hb.out)
  clear hw1 SA H
  go_wp2_with fail
  refine (hof_any _ (HmM.dl k) 32 32 (HmM.dl_length k) (Nat.le_refl _) (by unfold maxLen; omega) (by omega) (HmM.dl_256 HF.out) A l n cap A1.out.len A1.out.cap A1.out.max A1.out.b256 (by have := HN.out; omega) w1 (key_argT B1.out) A1.out.byt sa.out).mono ?_
  rintro e w4 ⟨rfl, h4⟩
  rw [show tag (HmM.tag (HmM.dl k) l) = ar 32 (HmM.tag (HmM.dl k) l) from rfl]
  obtain ⟨F, hF⟩ : ∃ F, F = HmM.tag (HmM.dl k) l := ⟨_, rfl⟩
  have HFE := hid hF
  rw [← hF]
  have d2 := B2.out.below h4 B2.out.lt
  have cd := hid (hb.out.trans (h4.mono hb.out.size))
  clear hF h4 B1 B2 hb sa A1
  go_wp2_with ((with_reducible apply stA tT); rfl; rfl; exact d2)
  apply ret_ar tT Tryd.results28
  · rfl
  · rfl
  · exact d2.setRow_same _
  exact ⟨by rw [HFE.out], below_setRow cd.out (by omega) _⟩
set_option maxHeartbeats 400000 in
set_option maxRecDepth 100000 in
theorem leaf_any (k : Nat → Nat) (hk : ∀ i, k i < 256) (num : Int) (hnum : -9223372036854775808 ≤ num ∧ num ≤ 9223372036854775807) (s : Nat → Nat) (hs : ∀ i, s i < 256) (w : World) (hS : Salts w) :
    Calls Tryd.prog 11 #[.agg (ar 32 k), .int .i64 num, .agg (ar 64 s)] w fun e w' => e = .returned (.agg (ar 32 (HmM.tag (HmM.dl k) (BytM.rowB 76 [BytM.dig 8 (bits num), ls 64 s])))) ∧ Below w.heap.size w w' := by
  have HK := hid hk
  have SA := hid hS
  have HS := hid hs
  have HU := hid hnum
  clear hk hs hS hnum
  obtain ⟨L, hL⟩ : ∃ L, L = BytM.rowB 76 [BytM.dig 8 (bits num), ls 64 s] := ⟨_, rfl⟩
  have HL := hid hL
  have HN := hid (show L.length ≤ 90000 by rw [hL, rowB2_length]; omega)
  have HL256 := hid (show B256 L by rw [hL]; exact rowB2_256 (by omega) (BytM.dig_256 _ _) (ls_256 HS.out))
  clear hL
  obtain ⟨F, hF⟩ : ∃ F, F = HmM.tag (HmM.dl k) L := ⟨_, rfl⟩
  have HF := hid hF
  clear hF
  rw [← HL.out, ← HF.out]
  go_enter Tryd.func11, Tryd.ntmps11
  go_upto_region 1 with (with_reducible apply alA tT)
  rw [show ((w.alloc (.cells (ar 32 k) 23)).alloc (.cells (ar 64 s) 25)).heap.size = w.heap.size + 2 by simp]
  generalize hw1 : World.alloc (World.alloc (World.alloc w _) _) _ = w1
  have z0 := hid (show Blk w1 w.heap.size 23 (ar 32 k) by rw [← hw1]; exact ((Blk.new _ _ _).alloc _).alloc _)
  have z1 := hid (show Blk w1 (w.heap.size + 1) 25 (ar 64 s) by rw [← hw1]; exact (Blk.top rfl (by simp)).alloc _)
  have z2 := hid (show Blk w1 (w.heap.size + 2) 29 (ar 32 fun _ => 0) by rw [← hw1]; exact Blk.top rfl (by simp))
  have hb := hid (show Below w.heap.size w w1 by rw [← hw1]; exact (((Below.refl _ _).alloc (Nat.le_refl _) _).alloc (by simp) _).alloc (by simp; omega) _)
  have sa := hid (SA.out.on hb.out)
  clear hw1 SA
  refine wp_region_eS [some (.agg (ar 32 k)), some (.int .i64 num), some (.agg (ar 64 s)), none, some (.agg (ar 32 F))] [(3, L)] 5 (by kernel_rfl) (by kernel_rfl) (by kernel_rfl) fun vs => ?_
  simp only [List.take_succ_cons, List.take_zero, List.drop_succ_cons, List.drop_zero]
  refine ⟨.inl ⟨rfl, fun dd w' hd hC hDs => ?_⟩, fun e => ?_⟩
  · exact gE_ldA tK rfl ((z0.out.below hC z0.out.lt).head) ⟨rfl, hC, Below.refl _ _, eD_none rfl⟩
  have e' : vs 0 = _ := e
  rw [e']
  clear e e'
  simp only [Act.put, List.setIfInBounds_toArray, List.set_cons_succ, List.set_cons_zero]
  refine ⟨.inl ⟨rfl, fun dd w' hd hC hDs => ?_⟩, fun e => ?_⟩
  · go_simp
    first | exact ⟨rfl, hC, Below.refl _ _, eD_none rfl⟩ | exact ⟨rfl, Below.refl _ _, eD_none rfl⟩ | exact ⟨hC, Below.refl _ _, eD_none rfl⟩
  have e' : vs 1 = _ := e
  rw [e']
  clear e e'
  simp only [Act.put, List.setIfInBounds_toArray, List.set_cons_succ, List.set_cons_zero]
  refine ⟨.inl ⟨rfl, fun dd w' hd hC hDs => ?_⟩, fun e => ?_⟩
  · exact gE_ldA tS rfl ((z1.out.below hC z1.out.lt).head) ⟨rfl, hC, Below.refl _ _, eD_none rfl⟩
  have e' : vs 2 = _ := e
  rw [e']
  clear e e'
  simp only [Act.put, List.setIfInBounds_toArray, List.set_cons_succ, List.set_cons_zero]
  refine ⟨.inl ⟨rfl, fun dd w' hd hC hDs => ?_⟩, fun e => ?_⟩
  · go_simp
    refine ((by have := leaftext_any num HU.out s HS.out w'; unfold numT at this; rwa [← HL.out] at this : Calls _ _ _ _ _)).mono ?_
    rintro e w2 ⟨v, rfl, o2, h2⟩
    have hbs : B256 _ := HL256.out
    exact ⟨_, rfl, own_sl o2 hbs, hC.trans (h2.mono hC.size), h2, own_eD rfl o2 hbs⟩
  obtain ⟨A3, c3, e'⟩ : ∃ (A : Option Addr) (c : Nat), vs 3 = .slice A _ c := e
  rw [e']
  have E3 := hid e'
  clear e'
  simp only [Act.put, List.setIfInBounds_toArray, List.set_cons_succ, List.set_cons_zero]
  refine ⟨.inl ⟨rfl, fun dd w' hd hC hDs => ?_⟩, fun e => ?_⟩
  · obtain ⟨B3, k3, f3, a3⟩ := hDs 3 (by kernel_rfl) L rfl
    rw [E3.out] at f3
    cases f3
    go_simp
    have ht := of_any k HK.out A3 L _ _ HN.out w' a3 (sa.out.on hC)
    rw [← HF.out] at ht
    refine ht.mono ?_
    rintro e w2 ⟨rfl, h2⟩
    exact ⟨_, rfl, rfl, hC.trans (h2.mono hC.size), h2, eD_none rfl⟩
  have e' : vs 4 = _ := e
  rw [e']
  clear e e'
  simp only [Act.put, List.setIfInBounds_toArray, List.set_cons_succ, List.set_cons_zero]
  intro dd w4 hall hC4 hDs
  have d2 := z2.out.below hC4 z2.out.lt
  have db := hid (hb.out.trans (hC4.mono hb.out.size))
  clear hall hC4 hDs E3 z0 z1 z2 hb
  go_wp2_with ((with_reducible apply stA tT); rfl; rfl; exact d2)
  apply ret_ar tT Tryd.results11
  · rfl
  · rfl
  · exact d2.setRow_same _
  exact ⟨rfl, below_setRow db.out (by omega) _⟩
set_option maxHeartbeats 400000 in
set_option maxRecDepth 100000 in
theorem node_any (k : Nat → Nat) (hk : ∀ i, k i < 256) (num : Int) (hnum : -9223372036854775808 ≤ num ∧ num ≤ 9223372036854775807) (s : Nat → Nat) (hs : ∀ i, s i < 256) (w : World) (hS : Salts w) :
    Calls Tryd.prog 13 #[.agg (ar 32 k), .int .i64 num, .agg (ar 64 s)] w fun e w' => e = .returned (.agg (ar 32 (HmM.tag (HmM.dl k) (BytM.rowB 78 [BytM.dig 8 (bits num), ls 64 s])))) ∧ Below w.heap.size w w' := by
  have HK := hid hk
  have SA := hid hS
  have HS := hid hs
  have HU := hid hnum
  clear hk hs hS hnum
  obtain ⟨L, hL⟩ : ∃ L, L = BytM.rowB 78 [BytM.dig 8 (bits num), ls 64 s] := ⟨_, rfl⟩
  have HL := hid hL
  have HN := hid (show L.length ≤ 90000 by rw [hL, rowB2_length]; omega)
  have HL256 := hid (show B256 L by rw [hL]; exact rowB2_256 (by omega) (BytM.dig_256 _ _) (ls_256 HS.out))
  clear hL
  obtain ⟨F, hF⟩ : ∃ F, F = HmM.tag (HmM.dl k) L := ⟨_, rfl⟩
  have HF := hid hF
  clear hF
  rw [← HL.out, ← HF.out]
  go_enter Tryd.func13, Tryd.ntmps13
  go_upto_region 1 with (with_reducible apply alA tT)
  rw [show ((w.alloc (.cells (ar 32 k) 23)).alloc (.cells (ar 64 s) 25)).heap.size = w.heap.size + 2 by simp]
  generalize hw1 : World.alloc (World.alloc (World.alloc w _) _) _ = w1
  have z0 := hid (show Blk w1 w.heap.size 23 (ar 32 k) by rw [← hw1]; exact ((Blk.new _ _ _).alloc _).alloc _)
  have z1 := hid (show Blk w1 (w.heap.size + 1) 25 (ar 64 s) by rw [← hw1]; exact (Blk.top rfl (by simp)).alloc _)
  have z2 := hid (show Blk w1 (w.heap.size + 2) 29 (ar 32 fun _ => 0) by rw [← hw1]; exact Blk.top rfl (by simp))
  have hb := hid (show Below w.heap.size w w1 by rw [← hw1]; exact (((Below.refl _ _).alloc (Nat.le_refl _) _).alloc (by simp) _).alloc (by simp; omega) _)
  have sa := hid (SA.out.on hb.out)
  clear hw1 SA
  refine wp_region_eS [some (.agg (ar 32 k)), some (.int .i64 num), some (.agg (ar 64 s)), none, some (.agg (ar 32 F))] [(3, L)] 5 (by kernel_rfl) (by kernel_rfl) (by kernel_rfl) fun vs => ?_
  simp only [List.take_succ_cons, List.take_zero, List.drop_succ_cons, List.drop_zero]
  refine ⟨.inl ⟨rfl, fun dd w' hd hC hDs => ?_⟩, fun e => ?_⟩
  · exact gE_ldA tK rfl ((z0.out.below hC z0.out.lt).head) ⟨rfl, hC, Below.refl _ _, eD_none rfl⟩
  have e' : vs 0 = _ := e
  rw [e']
  clear e e'
  simp only [Act.put, List.setIfInBounds_toArray, List.set_cons_succ, List.set_cons_zero]
  refine ⟨.inl ⟨rfl, fun dd w' hd hC hDs => ?_⟩, fun e => ?_⟩
  · go_simp
    first | exact ⟨rfl, hC, Below.refl _ _, eD_none rfl⟩ | exact ⟨rfl, Below.refl _ _, eD_none rfl⟩ | exact ⟨hC, Below.refl _ _, eD_none rfl⟩
  have e' : vs 1 = _ := e
  rw [e']
  clear e e'
  simp only [Act.put, List.setIfInBounds_toArray, List.set_cons_succ, List.set_cons_zero]
  refine ⟨.inl ⟨rfl, fun dd w' hd hC hDs => ?_⟩, fun e => ?_⟩
  · exact gE_ldA tS rfl ((z1.out.below hC z1.out.lt).head) ⟨rfl, hC, Below.refl _ _, eD_none rfl⟩
  have e' : vs 2 = _ := e
  rw [e']
  clear e e'
  simp only [Act.put, List.setIfInBounds_toArray, List.set_cons_succ, List.set_cons_zero]
  refine ⟨.inl ⟨rfl, fun dd w' hd hC hDs => ?_⟩, fun e => ?_⟩
  · go_simp
    refine ((by have := nodetext_any num HU.out s HS.out w'; unfold numT at this; rwa [← HL.out] at this : Calls _ _ _ _ _)).mono ?_
    rintro e w2 ⟨v, rfl, o2, h2⟩
    have hbs : B256 _ := HL256.out
    exact ⟨_, rfl, own_sl o2 hbs, hC.trans (h2.mono hC.size), h2, own_eD rfl o2 hbs⟩
  obtain ⟨A3, c3, e'⟩ : ∃ (A : Option Addr) (c : Nat), vs 3 = .slice A _ c := e
  rw [e']
  have E3 := hid e'
  clear e'
  simp only [Act.put, List.setIfInBounds_toArray, List.set_cons_succ, List.set_cons_zero]
  refine ⟨.inl ⟨rfl, fun dd w' hd hC hDs => ?_⟩, fun e => ?_⟩
  · obtain ⟨B3, k3, f3, a3⟩ := hDs 3 (by kernel_rfl) L rfl
    rw [E3.out] at f3
    cases f3
    go_simp
    have ht := of_any k HK.out A3 L _ _ HN.out w' a3 (sa.out.on hC)
    rw [← HF.out] at ht
    refine ht.mono ?_
    rintro e w2 ⟨rfl, h2⟩
    exact ⟨_, rfl, rfl, hC.trans (h2.mono hC.size), h2, eD_none rfl⟩
  have e' : vs 4 = _ := e
  rw [e']
  clear e e'
  simp only [Act.put, List.setIfInBounds_toArray, List.set_cons_succ, List.set_cons_zero]
  intro dd w4 hall hC4 hDs
  have d2 := z2.out.below hC4 z2.out.lt
  have db := hid (hb.out.trans (hC4.mono hb.out.size))
  clear hall hC4 hDs E3 z0 z1 z2 hb
  go_wp2_with ((with_reducible apply stA tT); rfl; rfl; exact d2)
  apply ret_ar tT Tryd.results13
  · rfl
  · rfl
  · exact d2.setRow_same _
  exact ⟨rfl, below_setRow db.out (by omega) _⟩
set_option maxHeartbeats 400000 in
set_option maxRecDepth 100000 in
theorem label_any (k : Nat → Nat) (hk : ∀ i, k i < 256) (A : Option Addr) (l : List Nat) (n cap : Nat) (hn : n ≤ 10000) (w : World) (h : Arg w A l n cap) (hS : Salts w) :
    Calls Tryd.prog 22 #[.agg (ar 32 k), .slice A n cap] w fun e w' => e = .returned (.agg (ar 32 (HmM.tag (HmM.dl k) (BytM.rowB 82 [l])))) ∧ Below w.heap.size w w' := by
  have HK := hid hk
  have SA := hid hS
  have H := hid h
  have HM := hid hn
  clear hk h hn hS
  obtain ⟨L, hL⟩ : ∃ L, L = BytM.rowB 82 [l] := ⟨_, rfl⟩
  have HL := hid hL
  have HN := hid (show L.length ≤ 90000 by rw [hL, rowB1_length]; have := H.out.len; have := HM.out; omega)
  have HL256 := hid (show B256 L by rw [hL]; exact rowB1_256 (by omega) H.out.b256)
  clear hL
  obtain ⟨F, hF⟩ : ∃ F, F = HmM.tag (HmM.dl k) L := ⟨_, rfl⟩
  have HF := hid hF
  clear hF
  rw [← HL.out, ← HF.out]
  go_enter Tryd.func22, Tryd.ntmps22
  go_upto_region 1 with (with_reducible apply alA tT)
  rw [show (w.alloc (.cells (ar 32 k) 23)).heap.size = w.heap.size + 1 by simp]
  generalize hw1 : World.alloc (World.alloc w _) _ = w1
  have z0 := hid (show Blk w1 w.heap.size 23 (ar 32 k) by rw [← hw1]; exact (Blk.new _ _ _).alloc _)
  have z2 := hid (show Blk w1 (w.heap.size + 1) 29 (ar 32 fun _ => 0) by rw [← hw1]; exact Blk.top rfl (by simp))
  have hb := hid (show Below w.heap.size w w1 by rw [← hw1]; exact ((Below.refl _ _).alloc (Nat.le_refl _) _).alloc (by simp) _)
  have HA := hid (H.out.on hb.out)
  have sa := hid (SA.out.on hb.out)
  clear hw1 SA
  refine wp_region_eS [some (.agg (ar 32 k)), some (.slice A n cap), none, some (.agg (ar 32 F))] [(2, L)] 4 (by kernel_rfl) (by kernel_rfl) (by kernel_rfl) fun vs => ?_
  simp only [List.take_succ_cons, List.take_zero, List.drop_succ_cons, List.drop_zero]
  refine ⟨.inl ⟨rfl, fun dd w' hd hC hDs => ?_⟩, fun e => ?_⟩
  · exact gE_ldA tK rfl ((z0.out.below hC z0.out.lt).head) ⟨rfl, hC, Below.refl _ _, eD_none rfl⟩
  have e' : vs 0 = _ := e
  rw [e']
  clear e e'
  simp only [Act.put, List.setIfInBounds_toArray, List.set_cons_succ, List.set_cons_zero]
  refine ⟨.inl ⟨rfl, fun dd w' hd hC hDs => ?_⟩, fun e => ?_⟩
  · go_simp
    first | exact ⟨rfl, hC, Below.refl _ _, eD_none rfl⟩ | exact ⟨rfl, Below.refl _ _, eD_none rfl⟩ | exact ⟨hC, Below.refl _ _, eD_none rfl⟩
  have e' : vs 1 = _ := e
  rw [e']
  clear e e'
  simp only [Act.put, List.setIfInBounds_toArray, List.set_cons_succ, List.set_cons_zero]
  refine ⟨.inl ⟨rfl, fun dd w' hd hC hDs => ?_⟩, fun e => ?_⟩
  · go_simp
    refine ((by have := roottext_any A l n cap HM.out w' (HA.out.on hC); unfold plainT at this; rwa [← HL.out] at this : Calls _ _ _ _ _)).mono ?_
    rintro e w2 ⟨v, rfl, o2, h2⟩
    have hbs : B256 _ := HL256.out
    exact ⟨_, rfl, own_sl o2 hbs, hC.trans (h2.mono hC.size), h2, own_eD rfl o2 hbs⟩
  obtain ⟨A2, c2, e'⟩ : ∃ (A : Option Addr) (c : Nat), vs 2 = .slice A _ c := e
  rw [e']
  have E2 := hid e'
  clear e'
  simp only [Act.put, List.setIfInBounds_toArray, List.set_cons_succ, List.set_cons_zero]
  refine ⟨.inl ⟨rfl, fun dd w' hd hC hDs => ?_⟩, fun e => ?_⟩
  · obtain ⟨B2, k2, f2, a2⟩ := hDs 2 (by kernel_rfl) L rfl
    rw [E2.out] at f2
    cases f2
    go_simp
    have ht := of_any k HK.out A2 L _ _ HN.out w' a2 (sa.out.on hC)
    rw [← HF.out] at ht
    refine ht.mono ?_
    rintro e w2 ⟨rfl, h2⟩
    exact ⟨_, rfl, rfl, hC.trans (h2.mono hC.size), h2, eD_none rfl⟩
  have e' : vs 3 = _ := e
  rw [e']
  clear e e'
  simp only [Act.put, List.setIfInBounds_toArray, List.set_cons_succ, List.set_cons_zero]
  intro dd w4 hall hC4 hDs
  have d2 := z2.out.below hC4 z2.out.lt
  have db := hid (hb.out.trans (hC4.mono hb.out.size))
  clear hall hC4 hDs E2 z0 z2 hb HA H
  go_wp2_with ((with_reducible apply stA tT); rfl; rfl; exact d2)
  apply ret_ar tT Tryd.results22
  · rfl
  · rfl
  · exact d2.setRow_same _
  exact ⟨rfl, below_setRow db.out (by omega) _⟩
set_option maxHeartbeats 400000 in
set_option maxRecDepth 100000 in
theorem head_any (k : Nat → Nat) (hk : ∀ i, k i < 256) (A : Option Addr) (l : List Nat) (n cap : Nat) (hn : n ≤ 10000) (w : World) (h : Arg w A l n cap) (hS : Salts w) :
    Calls Tryd.prog 24 #[.agg (ar 32 k), .slice A n cap] w fun e w' => e = .returned (.agg (ar 32 (HmM.tag (HmM.dl k) (BytM.rowB 72 [l])))) ∧ Below w.heap.size w w' := by
  have HK := hid hk
  have SA := hid hS
  have H := hid h
  have HM := hid hn
  clear hk h hn hS
  obtain ⟨L, hL⟩ : ∃ L, L = BytM.rowB 72 [l] := ⟨_, rfl⟩
  have HL := hid hL
  have HN := hid (show L.length ≤ 90000 by rw [hL, rowB1_length]; have := H.out.len; have := HM.out; omega)
  have HL256 := hid (show B256 L by rw [hL]; exact rowB1_256 (by omega) H.out.b256)
  clear hL
  obtain ⟨F, hF⟩ : ∃ F, F = HmM.tag (HmM.dl k) L := ⟨_, rfl⟩
  have HF := hid hF
  clear hF
  rw [← HL.out, ← HF.out]
  go_enter Tryd.func24, Tryd.ntmps24
  go_upto_region 1 with (with_reducible apply alA tT)
  rw [show (w.alloc (.cells (ar 32 k) 23)).heap.size = w.heap.size + 1 by simp]
  generalize hw1 : World.alloc (World.alloc w _) _ = w1
  have z0 := hid (show Blk w1 w.heap.size 23 (ar 32 k) by rw [← hw1]; exact (Blk.new _ _ _).alloc _)
  have z2 := hid (show Blk w1 (w.heap.size + 1) 29 (ar 32 fun _ => 0) by rw [← hw1]; exact Blk.top rfl (by simp))
  have hb := hid (show Below w.heap.size w w1 by rw [← hw1]; exact ((Below.refl _ _).alloc (Nat.le_refl _) _).alloc (by simp) _)
  have HA := hid (H.out.on hb.out)
  have sa := hid (SA.out.on hb.out)
  clear hw1 SA
  refine wp_region_eS [some (.agg (ar 32 k)), some (.slice A n cap), none, some (.agg (ar 32 F))] [(2, L)] 4 (by kernel_rfl) (by kernel_rfl) (by kernel_rfl) fun vs => ?_
  simp only [List.take_succ_cons, List.take_zero, List.drop_succ_cons, List.drop_zero]
  refine ⟨.inl ⟨rfl, fun dd w' hd hC hDs => ?_⟩, fun e => ?_⟩
  · exact gE_ldA tK rfl ((z0.out.below hC z0.out.lt).head) ⟨rfl, hC, Below.refl _ _, eD_none rfl⟩
  have e' : vs 0 = _ := e
  rw [e']
  clear e e'
  simp only [Act.put, List.setIfInBounds_toArray, List.set_cons_succ, List.set_cons_zero]
  refine ⟨.inl ⟨rfl, fun dd w' hd hC hDs => ?_⟩, fun e => ?_⟩
  · go_simp
    first | exact ⟨rfl, hC, Below.refl _ _, eD_none rfl⟩ | exact ⟨rfl, Below.refl _ _, eD_none rfl⟩ | exact ⟨hC, Below.refl _ _, eD_none rfl⟩
  have e' : vs 1 = _ := e
  rw [e']
  clear e e'
  simp only [Act.put, List.setIfInBounds_toArray, List.set_cons_succ, List.set_cons_zero]
  refine ⟨.inl ⟨rfl, fun dd w' hd hC hDs => ?_⟩, fun e => ?_⟩
  · go_simp
    refine ((by have := headtext_any A l n cap HM.out w' (HA.out.on hC); unfold plainT at this; rwa [← HL.out] at this : Calls _ _ _ _ _)).mono ?_
    rintro e w2 ⟨v, rfl, o2, h2⟩
    have hbs : B256 _ := HL256.out
    exact ⟨_, rfl, own_sl o2 hbs, hC.trans (h2.mono hC.size), h2, own_eD rfl o2 hbs⟩
  obtain ⟨A2, c2, e'⟩ : ∃ (A : Option Addr) (c : Nat), vs 2 = .slice A _ c := e
  rw [e']
  have E2 := hid e'
  clear e'
  simp only [Act.put, List.setIfInBounds_toArray, List.set_cons_succ, List.set_cons_zero]
  refine ⟨.inl ⟨rfl, fun dd w' hd hC hDs => ?_⟩, fun e => ?_⟩
  · obtain ⟨B2, k2, f2, a2⟩ := hDs 2 (by kernel_rfl) L rfl
    rw [E2.out] at f2
    cases f2
    go_simp
    have ht := of_any k HK.out A2 L _ _ HN.out w' a2 (sa.out.on hC)
    rw [← HF.out] at ht
    refine ht.mono ?_
    rintro e w2 ⟨rfl, h2⟩
    exact ⟨_, rfl, rfl, hC.trans (h2.mono hC.size), h2, eD_none rfl⟩
  have e' : vs 3 = _ := e
  rw [e']
  clear e e'
  simp only [Act.put, List.setIfInBounds_toArray, List.set_cons_succ, List.set_cons_zero]
  intro dd w4 hall hC4 hDs
  have d2 := z2.out.below hC4 z2.out.lt
  have db := hid (hb.out.trans (hC4.mono hb.out.size))
  clear hall hC4 hDs E2 z0 z2 hb HA H
  go_wp2_with ((with_reducible apply stA tT); rfl; rfl; exact d2)
  apply ret_ar tT Tryd.results24
  · rfl
  · rfl
  · exact d2.setRow_same _
  exact ⟨rfl, below_setRow db.out (by omega) _⟩
set_option maxHeartbeats 400000 in
set_option maxRecDepth 100000 in
theorem body_any (k : Nat → Nat) (hk : ∀ i, k i < 256) (A : Option Addr) (l : List Nat) (n cap : Nat) (hn : n ≤ 10000) (w : World) (h : Arg w A l n cap) (hS : Salts w) :
    Calls Tryd.prog 26 #[.agg (ar 32 k), .slice A n cap] w fun e w' => e = .returned (.agg (ar 32 (HmM.tag (HmM.dl k) (BytM.rowB 66 [l])))) ∧ Below w.heap.size w w' := by
  have HK := hid hk
  have SA := hid hS
  have H := hid h
  have HM := hid hn
  clear hk h hn hS
  obtain ⟨L, hL⟩ : ∃ L, L = BytM.rowB 66 [l] := ⟨_, rfl⟩
  have HL := hid hL
  have HN := hid (show L.length ≤ 90000 by rw [hL, rowB1_length]; have := H.out.len; have := HM.out; omega)
  have HL256 := hid (show B256 L by rw [hL]; exact rowB1_256 (by omega) H.out.b256)
  clear hL
  obtain ⟨F, hF⟩ : ∃ F, F = HmM.tag (HmM.dl k) L := ⟨_, rfl⟩
  have HF := hid hF
  clear hF
  rw [← HL.out, ← HF.out]
  go_enter Tryd.func26, Tryd.ntmps26
  go_upto_region 1 with (with_reducible apply alA tT)
  rw [show (w.alloc (.cells (ar 32 k) 23)).heap.size = w.heap.size + 1 by simp]
  generalize hw1 : World.alloc (World.alloc w _) _ = w1
  have z0 := hid (show Blk w1 w.heap.size 23 (ar 32 k) by rw [← hw1]; exact (Blk.new _ _ _).alloc _)
  have z2 := hid (show Blk w1 (w.heap.size + 1) 29 (ar 32 fun _ => 0) by rw [← hw1]; exact Blk.top rfl (by simp))
  have hb := hid (show Below w.heap.size w w1 by rw [← hw1]; exact ((Below.refl _ _).alloc (Nat.le_refl _) _).alloc (by simp) _)
  have HA := hid (H.out.on hb.out)
  have sa := hid (SA.out.on hb.out)
  clear hw1 SA
  refine wp_region_eS [some (.agg (ar 32 k)), some (.slice A n cap), none, some (.agg (ar 32 F))] [(2, L)] 4 (by kernel_rfl) (by kernel_rfl) (by kernel_rfl) fun vs => ?_
  simp only [List.take_succ_cons, List.take_zero, List.drop_succ_cons, List.drop_zero]
  refine ⟨.inl ⟨rfl, fun dd w' hd hC hDs => ?_⟩, fun e => ?_⟩
  · exact gE_ldA tK rfl ((z0.out.below hC z0.out.lt).head) ⟨rfl, hC, Below.refl _ _, eD_none rfl⟩
  have e' : vs 0 = _ := e
  rw [e']
  clear e e'
  simp only [Act.put, List.setIfInBounds_toArray, List.set_cons_succ, List.set_cons_zero]
  refine ⟨.inl ⟨rfl, fun dd w' hd hC hDs => ?_⟩, fun e => ?_⟩
  · go_simp
    first | exact ⟨rfl, hC, Below.refl _ _, eD_none rfl⟩ | exact ⟨rfl, Below.refl _ _, eD_none rfl⟩ | exact ⟨hC, Below.refl _ _, eD_none rfl⟩
  have e' : vs 1 = _ := e
  rw [e']
  clear e e'
  simp only [Act.put, List.setIfInBounds_toArray, List.set_cons_succ, List.set_cons_zero]
  refine ⟨.inl ⟨rfl, fun dd w' hd hC hDs => ?_⟩, fun e => ?_⟩
  · go_simp
    refine ((by have := bodytext_any A l n cap HM.out w' (HA.out.on hC); unfold plainT at this; rwa [← HL.out] at this : Calls _ _ _ _ _)).mono ?_
    rintro e w2 ⟨v, rfl, o2, h2⟩
    have hbs : B256 _ := HL256.out
    exact ⟨_, rfl, own_sl o2 hbs, hC.trans (h2.mono hC.size), h2, own_eD rfl o2 hbs⟩
  obtain ⟨A2, c2, e'⟩ : ∃ (A : Option Addr) (c : Nat), vs 2 = .slice A _ c := e
  rw [e']
  have E2 := hid e'
  clear e'
  simp only [Act.put, List.setIfInBounds_toArray, List.set_cons_succ, List.set_cons_zero]
  refine ⟨.inl ⟨rfl, fun dd w' hd hC hDs => ?_⟩, fun e => ?_⟩
  · obtain ⟨B2, k2, f2, a2⟩ := hDs 2 (by kernel_rfl) L rfl
    rw [E2.out] at f2
    cases f2
    go_simp
    have ht := of_any k HK.out A2 L _ _ HN.out w' a2 (sa.out.on hC)
    rw [← HF.out] at ht
    refine ht.mono ?_
    rintro e w2 ⟨rfl, h2⟩
    exact ⟨_, rfl, rfl, hC.trans (h2.mono hC.size), h2, eD_none rfl⟩
  have e' : vs 3 = _ := e
  rw [e']
  clear e e'
  simp only [Act.put, List.setIfInBounds_toArray, List.set_cons_succ, List.set_cons_zero]
  intro dd w4 hall hC4 hDs
  have d2 := z2.out.below hC4 z2.out.lt
  have db := hid (hb.out.trans (hC4.mono hb.out.size))
  clear hall hC4 hDs E2 z0 z2 hb HA H
  go_wp2_with ((with_reducible apply stA tT); rfl; rfl; exact d2)
  apply ret_ar tT Tryd.results26
  · rfl
  · rfl
  · exact d2.setRow_same _
  exact ⟨rfl, below_setRow db.out (by omega) _⟩
theorem tag_ok : TagC := ⟨of_any, leaf_any, node_any, label_any, head_any, body_any⟩
end TgP
end Go.Proofs.YtmbhibilmedjmaaDoor
set_option maxRecDepth 100000
namespace Go.Proofs.YtmbhibilmedjmaaDoor
open Go.ChangeShapes Go.WideShapes Go.ChangeAt Go.RowKit
attribute [local go_sem] Gives GivesE
namespace TgP
section
variable {ops : Array Oper} {Q : Exit → Act → World → Prop} {a : Act} {w : World} {rest : List Oper} {dst : Option Tmp} {ty : TypeId} {pos : String} {after : Array Edge} {d s : Operand}
/-- A row of bytes copied into the middle of another one. -/
theorem wcopyA {g o n N m cap' cap g' : Nat} {t t' : TypeId} {f h : Nat → Nat} (hd : a.eval d = .slice (some ⟨g, o, none⟩) m cap') (hs : a.eval s = .slice (some ⟨g', 0, none⟩) n cap) (hg : Blk w g t (ar N f)) (hsrc : Blk w g' t' (ar n h)) (hnm : n ≤ m) (hfit : o + n ≤ N)
    (hk : wpList Tryd.prog ops Q rest (a.put dst (goInt n)) (w.setRow g (ar N (putA o n f h)))) :
    wpList Tryd.prog ops Q (⟨dst, .call { callee := .builtin .copy, args := #[d, s], argTypes := #[26, 26] }, ty, pos, after, none⟩ :: rest) a w := by
  have hlen : (ar n h).toList.length = n := by rw [Array.length_toList, size_ar]
  refine wpList_copy_own rfl d s 26 26 rfl 5 Tryd.underlying26 (by kernel_rfl) g o m cap' ⟨g', 0, none⟩ n cap hd hs (ar N f) t hg (ar n h).toList (by rw [hlen]; exact (Nat.min_eq_left hnm).symm) ?_ (by rw [hlen, size_ar]; omega) ?_ ?_
  · intro j v hj
    obtain ⟨hj', rfl⟩ := ar_list_get hj
    rw [Addr.add_mid, hsrc.cell, Nat.zero_add, get_ar hj']
  · intro v hv
    exact (Array.all_eq_true_iff_forall_mem.1 ar_one) v (by simpa using hv)
  · rw [hlen]
    have e : (List.take o (ar N f).toList ++ ((ar n h).toList ++ (ar N f).toList.drop (o + n))).toArray = ar N (putA o n f h) := by
      have hto : (List.take o (ar N f).toList).length = o := by rw [List.length_take, Array.length_toList, size_ar]; omega
      apply Array.ext_getElem?
      intro k
      rw [List.getElem?_toArray, List.getElem?_append, hto]
      by_cases hk : k < o
      · rw [if_pos hk, List.getElem?_take_of_lt hk, Array.getElem?_toList, get_ar (by omega), get_ar (by omega)]
        unfold putA; rw [if_neg (by omega)]
      · rw [if_neg hk, List.getElem?_append, hlen]
        by_cases hk2 : k - o < n
        · rw [if_pos hk2, Array.getElem?_toList, get_ar hk2, get_ar (by omega)]
          unfold putA; rw [if_pos (by omega)]
        · rw [if_neg hk2, List.getElem?_drop, Array.getElem?_toList, show o + n + (k - o - n) = k by omega]
          unfold ar
          rw [get_row, get_row]
          by_cases hk3 : k < N
          · rw [if_pos hk3, if_pos hk3]; unfold putA; rw [if_neg (by omega)]
          · rw [if_neg hk3, if_neg hk3]
    rw [e]
    exact hk
end
theorem putA_joined (f g : Nat → Nat) : ar 64 (putA 32 32 (putA 0 32 (fun _ => 0) f) g) = ar 64 (joined f g) := ar_ext fun j hj => by
  unfold putA joined
  by_cases h : j < 32
  · rw [if_neg (by omega), if_pos (by omega), if_pos h]; rfl
  · rw [if_pos (by omega), if_neg h]
set_option maxHeartbeats 400000 in
set_option maxRecDepth 100000 in
theorem join_any (f g : Nat → Nat) (w : World) :
    Calls Tryd.prog 15 #[.agg (ar 32 f), .agg (ar 32 g)] w fun e w' => e = .returned (.agg (ar 64 (joined f g))) ∧ Below w.heap.size w w' := by
  go_enter Tryd.func15, Tryd.ntmps15
  go_upto_region 1 with (with_reducible apply alA tS)
  rw [show ((w.alloc (.cells (ar 32 f) 29)).alloc (.cells (ar 32 g) 29)).heap.size = w.heap.size + 2 by simp]
  generalize hw1 : World.alloc (World.alloc (World.alloc w _) _) _ = w1
  have B1 := hid (show Blk w1 w.heap.size 29 (ar 32 f) by rw [← hw1]; exact ((Blk.new _ _ _).alloc _).alloc _)
  have B2 := hid (show Blk w1 (w.heap.size + 1) 29 (ar 32 g) by rw [← hw1]; exact (Blk.top rfl (by simp)).alloc _)
  have B3 := hid (show Blk w1 (w.heap.size + 2) 25 (ar 64 fun _ => 0) by rw [← hw1]; exact Blk.top rfl (by simp))
  have BEL := hid (show Below w.heap.size w w1 by rw [← hw1]; exact (((Below.refl _ _).alloc (Nat.le_refl _) _).alloc (by simp) _).alloc (by simp; omega) _)
  clear hw1
  have hl := B3.out.lt
  obtain ⟨gt, hgt⟩ : ∃ gt, gt = w1.heap.size := ⟨_, rfl⟩
  have hz : Blk (w1.alloc (.cells (ar 64 fun _ => 0) 25)) w1.heap.size 25 (ar 64 fun _ => 0) := Blk.new _ _ _
  go_upto_region 2 with (with_reducible apply alA tS)
  rw [← hgt] at hz hl ⊢
  generalize hw2 : World.alloc w1 _ = w2 at hz ⊢
  have C1 := hid (show Blk w2 w.heap.size 29 (ar 32 f) by rw [← hw2]; exact B1.out.alloc _)
  have C2 := hid (show Blk w2 (w.heap.size + 1) 29 (ar 32 g) by rw [← hw2]; exact B2.out.alloc _)
  have C3 := hid (show Blk w2 (w.heap.size + 2) 25 (ar 64 fun _ => 0) by rw [← hw2]; exact B3.out.alloc _)
  have CB := hid (show Below w.heap.size w w2 by rw [← hw2]; exact BEL.out.alloc BEL.out.size _)
  have CZ := hid hz
  clear hw2 B1 B2 B3 BEL hgt hz
  refine wp_region_tail (C := Drew w2) 2 (by kernel_rfl) (by kernel_rfl) (by kernel_rfl) (Drew.refl _) ?_
  simp only [List.take_succ_cons, List.take_zero, List.drop_succ_cons, List.drop_zero]
  apply wpK_val
  · rfl
  · intro w' hw'
    go_simp
    first | exact rfl | exact ⟨rfl, hw'⟩
  simp only [Act.put, List.setIfInBounds_toArray, List.set_cons_succ, List.set_cons_zero]
  apply wpK_val
  · rfl
  · intro w' hw'
    go_simp
    first | exact rfl | exact ⟨rfl, hw'⟩
  simp only [Act.put, List.setIfInBounds_toArray, List.set_cons_succ, List.set_cons_zero]
  refine wpK_nil fun w3 h3 => ?_
  have d1 := hid (h3.blk C1.out)
  have d2 := hid (h3.blk C2.out)
  have d3 := hid (h3.blk C3.out)
  have dz := hid (h3.blk CZ.out)
  have db := hid (h3.below CB.out)
  clear h3 C1 C2 C3 CZ CB
  go_upto_region 3 with ((with_reducible apply wcopyA); rfl; rfl; exact dz.out; exact d1.out; omega; omega)
  generalize hw4 : World.setRow w3 _ _ = w4
  have e2 := hid (show Blk w4 (w.heap.size + 1) 29 (ar 32 g) by rw [← hw4]; exact d2.out.setRow_other (by omega) _)
  have e3 := hid (show Blk w4 (w.heap.size + 2) 25 (ar 64 fun _ => 0) by rw [← hw4]; exact d3.out.setRow_other (by omega) _)
  have ez := hid (show Blk w4 gt 25 (ar 64 (putA 0 32 (fun _ => 0) f)) by rw [← hw4]; exact dz.out.setRow_same _)
  have eb := hid (show Below w.heap.size w w4 by rw [← hw4]; exact below_setRow db.out (by omega) _)
  clear hw4 d1 d2 d3 dz db
  refine wp_region_tail (C := Drew w4) 2 (by kernel_rfl) (by kernel_rfl) (by kernel_rfl) (Drew.refl _) ?_
  simp only [List.take_succ_cons, List.take_zero, List.drop_succ_cons, List.drop_zero]
  apply wpK_val
  · rfl
  · intro w' hw'
    go_simp
    first | exact rfl | exact ⟨rfl, hw'⟩
  simp only [Act.put, List.setIfInBounds_toArray, List.set_cons_succ, List.set_cons_zero]
  apply wpK_val
  · rfl
  · intro w' hw'
    go_simp
    first | exact rfl | exact ⟨rfl, hw'⟩
  simp only [Act.put, List.setIfInBounds_toArray, List.set_cons_succ, List.set_cons_zero]
  refine wpK_nil fun w5 h5 => ?_
  have f2 := hid (h5.blk e2.out)
  have f3 := hid (h5.blk e3.out)
  have fz := hid (h5.blk ez.out)
  have fb := hid (h5.below eb.out)
  clear h5 e2 e3 ez eb
  go_upto_region 4 with ((with_reducible apply wcopyA); rfl; rfl; exact fz.out; exact f2.out; omega; omega)
  generalize hw6 : World.setRow w5 _ _ = w6
  have g3 := (show Blk w6 (w.heap.size + 2) 25 (ar 64 fun _ => 0) by rw [← hw6]; exact f3.out.setRow_other (by omega) _)
  have gz := (show Blk w6 gt 25 (ar 64 (joined f g)) by rw [← hw6, ← putA_joined]; exact fz.out.setRow_same _)
  have gb := hid (show Below w.heap.size w w6 by rw [← hw6]; exact below_setRow fb.out (by omega) _)
  clear hw6 f2 f3 fz fb
  go_wp2_with (first | ((with_reducible apply ldA tS); rfl; exact gz) | ((with_reducible apply stA tS); rfl; rfl; exact g3))
  apply ret_ar tS Tryd.results15
  · rfl
  · rfl
  · exact g3.setRow_same _
  exact ⟨rfl, below_setRow gb.out (by omega) _⟩
theorem run_tagAt (g o c : Nat) (w : World) : (Instr.arrayAt 29 (.slice (some ⟨g, o, none⟩) 32 c)).run Tryd.prog w = .ok (.pointer (some ⟨g, o, none⟩)) w := run_arrayAt w 29 5 32 _ _ _ Tryd.underlying29 (Nat.le_refl _)
/-- A sector, and two tags laid as a call's answers. -/
def T6 (g g0 g1 : Nat) (B : Nat) (w : World) (f K F : Nat → Nat) (d : Nat → Bool) (w' : World) : Prop :=
  Blk w' g 25 (ar 64 f) ∧ Blk w' g0 29 (ar 32 (if d 6 then K else fun _ => 0)) ∧ Blk w' g1 29 (ar 32 (if d 7 then F else fun _ => 0)) ∧ Below B w w'
set_option maxHeartbeats 400000 in
set_option maxRecDepth 100000 in
theorem split_any (f : Nat → Nat) (w : World) :
    Calls Tryd.prog 9 #[.agg (ar 64 f)] w fun e w' => e = .returned (.tuple #[.agg (ar 32 f), .agg (ar 32 fun j => f (32 + j))]) ∧ Below w.heap.size w w' := by
  go_enter Tryd.func9, Tryd.ntmps9
  go_upto_region 1 with (with_reducible apply alA tT)
  try rw [show ((w.alloc (.cells (ar 64 f) 25)).alloc (.cells (ar 32 fun _ => 0) 29)).heap.size = w.heap.size + 2 by simp]
  try rw [show (w.alloc (.cells (ar 64 f) 25)).heap.size = w.heap.size + 1 by simp]
  generalize hw1 : World.alloc (World.alloc (World.alloc w _) _) _ = w1
  have B1 := show Blk w1 w.heap.size 25 (ar 64 f) by rw [← hw1]; exact ((Blk.new _ _ _).alloc _).alloc _
  have B2 := show Blk w1 (w.heap.size + 1) 29 (ar 32 fun _ => 0) by rw [← hw1]; exact (Blk.top rfl (by simp)).alloc _
  have B3 := show Blk w1 (w.heap.size + 2) 29 (ar 32 fun _ => 0) by rw [← hw1]; exact Blk.top rfl (by simp)
  have BEL := show Below w.heap.size w w1 by rw [← hw1]; exact (((Below.refl _ _).alloc (Nat.le_refl _) _).alloc (by simp) _).alloc (by simp; omega) _
  clear hw1
  refine wp_region_set (D := T6 w.heap.size (w.heap.size + 1) (w.heap.size + 2) w.heap.size w f f fun j => f (32 + j)) (fun j => decide (j = 6) || decide (j = 7)) 8 (fun j hj => by simp at hj; omega) (by kernel_rfl) (by kernel_rfl) (by kernel_rfl)
    (fun d d' w hd h => by unfold T6 at h ⊢; rw [← hd 6 rfl, ← hd 7 rfl]; exact h) ⟨B1.drew, B2.drew, B3.drew, BEL.drew⟩ ?_
  simp only [List.take_succ_cons, List.take_zero, List.drop_succ_cons, List.drop_zero]
  apply wpM_val
  · rfl
  · rfl
  · intro dd w' hw'
    go_simp
    first | exact rfl | exact ⟨rfl, hw'⟩
  simp only [Act.put, List.setIfInBounds_toArray, List.set_cons_succ, List.set_cons_zero]
  apply wpM_val
  · rfl
  · rfl
  · intro dd w' hw'
    have h1 := run_tagAt w.heap.size 0 64 w'
    go_simp
    first | exact rfl | exact ⟨rfl, hw'⟩
  simp only [Act.put, List.setIfInBounds_toArray, List.set_cons_succ, List.set_cons_zero]
  apply mld tT
  · rfl
  · rfl
  · rfl
  · exact fun d w' h => by
      have hr := h.1.arRange (o := 0) (m := 32) (by omega)
      rwa [ar_ext (g := f) fun k _ => by rw [Nat.zero_add]] at hr
  simp only [Act.put, List.setIfInBounds_toArray, List.set_cons_succ, List.set_cons_zero]
  apply wpM_val
  · rfl
  · rfl
  · intro dd w' hw'
    go_simp
    first | exact rfl | exact ⟨rfl, hw'⟩
  simp only [Act.put, List.setIfInBounds_toArray, List.set_cons_succ, List.set_cons_zero]
  apply wpM_val
  · rfl
  · rfl
  · intro dd w' hw'
    have h1 := run_tagAt w.heap.size 32 32 w'
    go_simp
    first | exact rfl | exact ⟨rfl, hw'⟩
  simp only [Act.put, List.setIfInBounds_toArray, List.set_cons_succ, List.set_cons_zero]
  apply mld tT
  · rfl
  · rfl
  · rfl
  · exact fun d w' h => h.1.arRange (o := 32) (m := 32) (by omega)
  simp only [Act.put, List.setIfInBounds_toArray, List.set_cons_succ, List.set_cons_zero]
  apply mst tT
  · rfl
  · rfl
  · rfl
  · rfl
  · exact fun d w' _ h => ⟨_, h.2.1⟩
  · exact fun d w' hd h => ⟨h.1.setRow_other (by omega) _, by unfold upB; simp only [if_true]; exact h.2.1.setRow_same _, h.2.2.1.setRow_other (by omega) _, below_setRow h.2.2.2 (by omega) _⟩
  simp only [Act.put]
  apply mst tT
  · rfl
  · rfl
  · rfl
  · rfl
  · exact fun d w' _ h => ⟨_, h.2.2.1⟩
  · exact fun d w' hd h => ⟨h.1.setRow_other (by omega) _, h.2.1.setRow_other (by omega) _, by unfold upB; simp only [if_true]; exact h.2.2.1.setRow_same _, below_setRow h.2.2.2 (by omega) _⟩
  simp only [Act.put]
  refine wpM_nil fun w5 h5 => ?_
  have d0 := h5.2.1
  have d1 := h5.2.2.1
  simp only [if_true] at d0 d1
  have db := h5.2.2.2
  clear B1 B2 B3 BEL h5
  go_wp2_with fail
  apply ret_ar2 tT tT Tryd.results9
  · rfl
  · rfl
  · rfl
  · exact d0
  · exact d1
  exact ⟨rfl, db⟩
theorem join_ok : JoinC := ⟨join_any, split_any⟩
end TgP
end Go.Proofs.YtmbhibilmedjmaaDoor
set_option maxRecDepth 100000
namespace Go.Proofs.YtmbhibilmedjmaaDoor
open Go.ChangeShapes Go.WideShapes Go.ChangeAt Go.RowKit Go.Deep
section
variable {H : Type} {enc : TypeId × Value → H} {w : World} {base : Nat} {spare : Nat → Bool} {held : Bool}
theorem trod_ar {T : TypeId} {n : Nat} (hT : Tryd.prog.underlying T = some (.array n 5)) (hc : Tryd.prog.cellsOf T = n) {fuel : Nat} {cs : List Value} {x : DataW H × List MemPlace} (h : DataW.trod enc Tryd.prog w base spare held fuel T cs = some x) : ∃ f : Nat → Nat, (∀ k, f k < 256) ∧ cs = (ar n f).toList := by
  obtain ⟨xs, m, rfl, rfl, hlen, hxl, hx⟩ := DataW.trod_array hT h
  rw [hc] at hlen
  have hk : ∀ k, k < n → ∃ n : Nat, n < 256 ∧ cs[k]? = some (.int .u8 n) := fun k hk => by
    have h1 := hx k hk
    rw [cells_u8, Nat.mul_one, List.getElem?_eq_getElem (by omega)] at h1
    obtain ⟨n, e1, e2, wf⟩ := DataW.trod_int Tryd.underlying5 h1
    obtain ⟨n, rfl, hn⟩ := u8_wf wf
    refine ⟨n, hn, ?_⟩
    have : ((cs.drop k).take 1)[0]? = some (.int .u8 n) := by rw [e1]; rfl
    rw [List.getElem?_take_of_lt (by omega), List.getElem?_drop] at this
    exact this
  obtain ⟨f, hf⟩ := choose_lt hk
  refine ⟨fun k => if k < n then f k else 0, fun k => ?_, ?_⟩
  · by_cases h : k < n
    · simp only [h, if_true]; exact (hf k h).1
    · simp [h]
  · apply List.ext_getElem?
    intro k
    have e : (ar n fun k => if k < n then f k else 0).toList[k]? = if k < n then some (.int .u8 ((if k < n then f k else 0 : Nat) : Int)) else none := by
      rw [Array.getElem?_toList]
      exact get_row k
    rw [e]
    by_cases h : k < n
    · rw [if_pos h, if_pos h]; exact (hf k h).2
    · rw [if_neg h, List.getElem?_eq_none (by omega)]
set_option maxRecDepth 100000 in
theorem open_ar {T : TypeId} {n : Nat} (hT : Tryd.prog.underlying T = some (.array n 5)) (hc : Tryd.prog.cellsOf T = n) {r : Reach} {b0 : Nat} {v : Value} {d : DataW H} {p : List MemPlace} (hv : Value.okWide Tryd.prog w r b0 T v) (h : DataW.Trod enc Tryd.prog w base spare held T v d p) :
    ∃ f : Nat → Nat, (∀ k, f k < 256) ∧ v = .agg (ar n f) := by
  have hv' : ∃ cs, v = .agg cs := by
    simp only [Value.okWide, hT] at hv
    obtain ⟨cs, h1, _⟩ := hv
    exact ⟨cs, h1⟩
  obtain ⟨cs, rfl⟩ := hv'
  obtain ⟨fuel, hf⟩ := h
  obtain ⟨f, h1, h2⟩ := trod_ar hT hc hf
  refine ⟨f, h1, ?_⟩
  have : cs = ar n f := by
    apply Array.ext'
    exact h2
  rw [this]
end
end Go.Proofs.YtmbhibilmedjmaaDoor
set_option maxRecDepth 100000
namespace Go.Proofs.YtmbhibilmedjmaaDoor
open Go.ChangeShapes Go.WideShapes Go.ChangeAt Go.RowKit Go.Deep
namespace TgP
theorem cells_K17 : Tryd.prog.cellsOf 23 = 32 := by kernel_rfl
theorem uK17 : Tryd.prog.underlying 23 = some (.array 32 5) := Tryd.underlying23
theorem cells_S17 : Tryd.prog.cellsOf 25 = 64 := by kernel_rfl
theorem uS17 : Tryd.prog.underlying 25 = some (.array 64 5) := Tryd.underlying25
theorem i64_wf17 {a : Int} (h : (Lit.int .i64 a).wf = true) : -9223372036854775808 ≤ a ∧ a ≤ 9223372036854775807 := by
  simp [Lit.wf, IntKind.min, IntKind.max, IntKind.bits, IntKind.signed] at h
  exact ⟨by omega, by omega⟩
section
variable {H : Type} {enc : TypeId × Value → H} {w : World} {base : Nat} {spare : Nat → Bool} {held : Bool}
theorem open_num17 {r : Reach} {b0 : Nat} {v : Value} {d : DataW H} {p : List MemPlace} (hv : Value.okWide Tryd.prog w r b0 3 v) (h : DataW.Trod enc Tryd.prog w base spare held 3 v d p) :
    ∃ a : Int, v = .int .i64 a ∧ (-9223372036854775808 ≤ a ∧ a ≤ 9223372036854775807) := by
  obtain ⟨a, rfl⟩ := okWide_int Tryd.underlying3 hv
  obtain ⟨fuel, hf⟩ := h
  obtain ⟨b, e, _, wf⟩ := DataW.trod_int Tryd.underlying3 hf
  simp [Value.cells] at e
  subst e
  exact ⟨_, rfl, i64_wf17 wf⟩
end
end TgP
end Go.Proofs.YtmbhibilmedjmaaDoor
set_option maxRecDepth 100000
namespace Go.Proofs.YtmbhibilmedjmaaDoor
open Go.ChangeShapes Go.WideShapes Go.ChangeAt Go.RowKit Go.Deep
theorem cells_tag : Tryd.prog.cellsOf 29 = 32 := by kernel_rfl
section
variable {H : Type} {enc : TypeId × Value → H} {w : World} {base : Nat} {spare : Nat → Bool} {held : Bool}
/-- A row of n bytes by value. -/
theorem trod_bytes {T : TypeId} {n fuel : Nat} {cs : List Value} {x : DataW H × List MemPlace} (hT : Tryd.prog.underlying T = some (.array n 5)) (hc : Tryd.prog.cellsOf T = n) (h : DataW.trod enc Tryd.prog w base spare held fuel T cs = some x) :
    ∃ f : Nat → Nat, (∀ k, f k < 256) ∧ cs = (bts n f).toList := by
  obtain ⟨xs, m, rfl, rfl, hlen, hxl, hx⟩ := DataW.trod_array hT h
  rw [hc] at hlen
  have hk : ∀ k, k < n → ∃ v : Nat, v < 256 ∧ cs[k]? = some (.int .u8 v) := fun k hk => by
    have h1 := hx k hk
    rw [cells_u8, Nat.mul_one, List.getElem?_eq_getElem (by omega)] at h1
    obtain ⟨v, e1, e2, wf⟩ := DataW.trod_int Tryd.underlying5 h1
    obtain ⟨v, rfl, hv⟩ := u8_wf wf
    refine ⟨v, hv, ?_⟩
    have : ((cs.drop k).take 1)[0]? = some (.int .u8 v) := by rw [e1]; rfl
    rw [List.getElem?_take_of_lt (by omega), List.getElem?_drop] at this
    exact this
  obtain ⟨f, hf⟩ := choose_lt hk
  refine ⟨fun k => if k < n then f k else 0, fun k => ?_, ?_⟩
  · by_cases h : k < n
    · simp only [h, if_true]; exact (hf k h).1
    · simp [h]
  · apply List.ext_getElem?
    intro k
    have e : (bts n fun k => if k < n then f k else 0).toList[k]? = if k < n then some (.int .u8 ((if k < n then f k else 0 : Nat) : Int)) else none := by
      rw [Array.getElem?_toList]
      exact get_row k
    rw [e]
    by_cases h : k < n
    · rw [if_pos h, if_pos h]; exact (hf k h).2
    · rw [if_neg h, List.getElem?_eq_none (by omega)]
theorem open_bytes {T : TypeId} {n : Nat} {r : Reach} {b0 : Nat} {v : Value} {d : DataW H} {p : List MemPlace} (hT : Tryd.prog.underlying T = some (.array n 5)) (hc : Tryd.prog.cellsOf T = n) (hv : Value.okWide Tryd.prog w r b0 T v) (h : DataW.Trod enc Tryd.prog w base spare held T v d p) :
    ∃ f : Nat → Nat, (∀ k, f k < 256) ∧ v = .agg (bts n f) := by
  have hv' : ∃ cs, v = .agg cs := by
    simp only [Value.okWide, hT] at hv
    obtain ⟨cs, h1, _⟩ := hv
    exact ⟨cs, h1⟩
  obtain ⟨cs, rfl⟩ := hv'
  obtain ⟨fuel, hf⟩ := h
  obtain ⟨f, h1, h2⟩ := trod_bytes hT hc hf
  refine ⟨f, h1, ?_⟩
  have : cs = bts n f := by
    apply Array.ext'
    exact h2
  rw [this]
theorem open_tag {r : Reach} {b0 : Nat} {v : Value} {d : DataW H} {p : List MemPlace} (hv : Value.okWide Tryd.prog w r b0 29 v) (h : DataW.Trod enc Tryd.prog w base spare held 29 v d p) :
    ∃ f : Nat → Nat, (∀ k, f k < 256) ∧ v = .agg (tag f) := open_bytes Tryd.underlying29 cells_tag hv h
end
end Go.Proofs.YtmbhibilmedjmaaDoor
