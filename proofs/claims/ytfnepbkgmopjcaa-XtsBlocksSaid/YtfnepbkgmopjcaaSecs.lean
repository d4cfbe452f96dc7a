/-
  Rows of sectors in one block: a slice literal of sectors; what lies in such a block.
-/
import Derived.Test.YtfnepbkgmopjcaaMem
import Derived.Great.BuildSlice
namespace Go.Proofs.Ytfnepbkgmopjcaa
open Go.RowKit
/-- n sectors, one behind the other. -/
def secs (n : Nat) (F : Nat → Nat → Nat) : Array Value := row (n * 64) fun j => .int .u8 (F (j / 64) (j % 64))
theorem size_secs {n : Nat} {F : Nat → Nat → Nat} : (secs n F).size = n * 64 := size_row
theorem get_secs {n : Nat} {F : Nat → Nat → Nat} {i k : Nat} (hi : i < n) (hk : k < 64) : (secs n F)[i * 64 + k]? = some (.int .u8 (F i k)) := by
  unfold secs
  rw [get_row_lt (by omega)]
  rw [show (i * 64 + k) / 64 = i by omega, show (i * 64 + k) % 64 = k by omega]
theorem secs_ext {n : Nat} {F G : Nat → Nat → Nat} (h : ∀ i k, i < n → k < 64 → F i k = G i k) : secs n F = secs n G :=
  row_ext fun j hj => by rw [h (j / 64) (j % 64) (by omega) (Nat.mod_lt _ (by omega))]
theorem get_sec_list {f : Nat → Nat} {j : Nat} {v : Value} (h : (sec f).toList[j]? = some v) : j < 64 ∧ v = .int .u8 (f j) := by
  rw [Array.getElem?_toList] at h
  unfold sec at h
  rw [get_row] at h
  split at h
  · exact ⟨‹_›, (Option.some.inj h).symm⟩
  · cases h
theorem range_secs {w : World} {g n i : Nat} {t : TypeId} {F : Nat → Nat → Nat} (hb : Blk w g t (secs n F)) (hi : i < n) : w.rangeAt g (0 + i * 64) (sec (F i)).toList := fun j v hv => by
  obtain ⟨hj, rfl⟩ := get_sec_list hv
  rw [hb.cell, Nat.zero_add]
  exact get_secs hi hj

theorem extract_secs {n i : Nat} {F : Nat → Nat → Nat} (hi : i < n) : (secs n F).extract (i * 64) (i * 64 + 64) = sec (F i) := by
  apply Array.ext_getElem?
  intro k
  rw [Array.getElem?_extract, size_secs]
  unfold sec
  rw [get_row]
  by_cases hk : k < 64
  · rw [if_pos hk, if_pos (by omega)]
    exact get_secs hi hk
  · rw [if_neg hk, if_neg (by omega)]
theorem secs_one {n : Nat} {F : Nat → Nat → Nat} : (secs n F).all (·.oneCell') = true := row_one fun _ _ => rfl
theorem secs_set {n i k v : Nat} {F : Nat → Nat → Nat} (hk : k < 64) : (secs n F).setIfInBounds (i * 64 + k) (.int .u8 v) = secs n fun j l => if j = i ∧ l = k then v else F j l := by
  unfold secs
  rw [row_set]
  refine row_ext fun j _ => ?_
  by_cases h : j = i * 64 + k
  · have e1 : j / 64 = i := by omega
    have e2 : j % 64 = k := by omega
    simp [h, show (i * 64 + k) / 64 = i by omega, show (i * 64 + k) % 64 = k by omega]
  · have e : ¬ (j / 64 = i ∧ j % 64 = k) := by omega
    simp [h, e]
theorem Blk.at_ {w : World} {g n i k o : Nat} {t : TypeId} {F : Nat → Nat → Nat} (hb : Blk w g t (secs n F)) (hi : i < n) (hk : k < 64) (ho : o = i * 64 + k) : w.cell? ⟨g, o, none⟩ = some (.int .u8 (F i k : Nat)) := by
  rw [ho, hb.cell]; exact get_secs hi hk
theorem fold_row (off N : Nat) : ∀ (cs : List Value) (k : Nat) (g : Nat → Value),
    (cs.zipIdx k).foldl (fun acc x => acc.setIfInBounds (off + x.2) x.1) (row N g) = row N fun j => if off + k ≤ j ∧ j < off + k + cs.length then cs.getD (j - (off + k)) undef else g j
  | [], k, g => by
    simp only [List.zipIdx_nil, List.foldl_nil, List.length_nil, Nat.add_zero]
    exact row_ext fun j _ => by rw [if_neg (by omega)]
  | c :: cs, k, g => by
    rw [List.zipIdx_cons, List.foldl_cons, row_set, fold_row off N cs (k + 1)]
    refine row_ext fun j _ => ?_
    simp only [List.length_cons]
    by_cases h1 : j = off + k
    · subst h1
      rw [if_neg (by omega), if_pos rfl, if_pos (by omega), Nat.sub_self]; rfl
    · by_cases h2 : off + (k + 1) ≤ j ∧ j < off + (k + 1) + cs.length
      · rw [if_pos h2, if_pos (by omega), show j - (off + k) = (j - (off + (k + 1))) + 1 by omega]; rfl
      · rw [if_neg h2, if_neg h1]
        by_cases h3 : off + k ≤ j ∧ j < off + k + (cs.length + 1)
        · omega
        · rw [if_neg h3]
/-- The parts of a literal, from place i on. -/
def partsFrom : Nat → List (Nat → Nat) → List (Nat × Value)
  | _, [] => []
  | i, f :: l => (i, .agg (sec f)) :: partsFrom (i + 1) l
theorem getD_sec_list {f : Nat → Nat} {j : Nat} (h : j < 64) : (sec f).toList.getD j undef = .int .u8 (f j) := by
  rw [List.getD_eq_getElem?_getD, Array.getElem?_toList, get_sec h]; rfl
theorem fill_secs (N : Nat) {place : Nat → Option (Nat × Nat)} (hpl : ∀ i, i < N → place i = some (i * 64, 64)) : ∀ (l : List (Nat → Nat)) (i : Nat) (g : Nat → Value), i + l.length ≤ N →
    Instr.fill place (row (N * 64) g) (partsFrom i l) = some (row (N * 64) fun j => if i * 64 ≤ j ∧ j < (i + l.length) * 64 then .int .u8 (l.getD (j / 64 - i) (fun _ => 0) (j % 64)) else g j)
  | [], i, g, _ => by
    simp only [partsFrom, Instr.fill, List.length_nil, Nat.add_zero, Option.some.injEq]
    exact row_ext fun j _ => by rw [if_neg (by omega)]
  | f :: l, i, g, h => by
    simp only [List.length_cons] at h
    simp only [partsFrom, Instr.fill, Value.cells, size_sec, size_row, hpl i (by omega)]
    rw [if_neg (by simp; omega)]
    have e : (sec f).zipIdx.foldl (fun cs (c, j) => cs.setIfInBounds (i * 64 + j) c) (row (N * 64) g) = row (N * 64) fun j => if i * 64 ≤ j ∧ j < i * 64 + 64 then .int .u8 (f (j - i * 64)) else g j := by
      rw [← Array.foldl_toList, Array.toList_zipIdx]
      refine (fold_row (i * 64) (N * 64) (sec f).toList 0 g).trans ?_
      simp only [Array.length_toList, size_sec, Nat.add_zero]
      refine row_ext fun j _ => ?_
      by_cases hj : i * 64 ≤ j ∧ j < i * 64 + 64
      · rw [if_pos hj, if_pos hj, getD_sec_list (by omega)]
      · rw [if_neg hj, if_neg hj]
    rw [e, fill_secs N hpl l (i + 1) _ (by omega)]
    refine congrArg some (row_ext fun j _ => ?_)
    simp only [List.length_cons]
    by_cases h1 : (i + 1) * 64 ≤ j ∧ j < (i + 1 + l.length) * 64
    · rw [if_pos h1, if_pos (by omega), show j / 64 - i = (j / 64 - (i + 1)) + 1 by omega]; rfl
    · rw [if_neg h1]
      by_cases h2 : i * 64 ≤ j ∧ j < i * 64 + 64
      · rw [if_pos h2, if_pos (by omega), show j / 64 - i = 0 by omega, show j - i * 64 = j % 64 by omega]; rfl
      · rw [if_neg h2, if_neg (by omega)]
theorem range_row {n : Nat} {f : Nat → Value} : (Array.range n).map f = row n f := by
  apply Array.ext_getElem?
  intro k
  rw [get_row]
  by_cases h : k < n <;> simp [h]
section
variable {P : Program} {ops : Array Oper} {Q : Exit → Act → World → Prop} {a : Act} {w : World} {rest : List Oper} {dst : Option Tmp} {ty : TypeId} {pos : String} {after : Array Edge}
/-- A literal of n sectors: a block of its own. -/
theorem run_lit {T e : TypeId} {n : Nat} {parts : Array (Nat × Value)} {ie : TypeInfo} {z : Value} (l : List (Nat → Nat)) (hl : l.length = n) (h0 : 0 < n) (h1 : n ≤ 1000) (hp : parts.toList = partsFrom 0 l)
    (hu : P.underlying T = some (.slice e)) (hie : P.info? e = some ie) (hz : ie.zero = some z) (hs : ie.size = 64) (w : World) :
    (Instr.buildSlice T n parts).run P w = .ok (.slice (some ⟨w.heap.size, 0, none⟩) n n) (w.alloc (.cells (secs n fun i => l.getD i fun _ => 0) e)) := by
  refine run_buildSlice w T e n parts _ ie z hu hie hz (by rw [hs]; omega) (by rw [hs]; omega) ?_
  rw [hs, hp, range_row, fill_secs n (fun _ _ => rfl) l 0 _ (by omega)]
  refine congrArg some (row_ext fun j hj => ?_)
  rw [if_pos (by omega), Nat.sub_zero]
end
end Go.Proofs.Ytfnepbkgmopjcaa
