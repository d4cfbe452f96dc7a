/-
  Texts' bytes: looked at one by one, laid behind bytes of the call's own; one byte of the call's own turned.
-/
import Derived.Test.YtiebaiofpihoiaaStr
import Derived.Test.YtiebaiofpihoiaaEltB
import Derived.Test.YtiebaiofpihoiaaOwn2
import Derived.Lib.AppendStr
namespace Go.Proofs.Ytiebaiofpihoiaa
open Go.ChangeShapes Go.WideShapes Go.ChangeAt Go.RowKit
/-- A text's bytes. -/
def nats (s : ByteArray) : List Nat := s.data.toList.map (·.toNat)
theorem nats_length (s : ByteArray) : (nats s).length = s.size := by simp [nats]
theorem nats_256 (s : ByteArray) : B256 (nats s) := fun x hx => by
  obtain ⟨b, _, rfl⟩ := List.mem_map.1 hx
  exact UInt8.toNat_lt _
theorem nats_inj {s t : ByteArray} (h : nats s = nats t) : s = t := by
  unfold nats at h
  have h2 : s.data.toList = t.data.toList := List.map_inj_right (fun a b e => UInt8.toNat_inj.1 e) |>.1 h
  cases s; cases t
  simp only [ByteArray.mk.injEq]
  exact Array.ext' h2
theorem str_nats (s : ByteArray) : str (nats s) = s := by
  cases s with
  | mk d =>
    unfold str u8s nats
    rw [List.map_map]
    have : (UInt8.ofNat ∘ fun x => x.toNat) = (id : UInt8 → UInt8) := funext fun x => by simp
    rw [this, List.map_id]
theorem nats_str {l : List Nat} (h : B256 l) : nats (str l) = l := by
  unfold nats str u8s
  rw [show (List.map UInt8.ofNat l).toArray.toList = List.map UInt8.ofNat l from rfl, List.map_map]
  conv => rhs; rw [← List.map_id l]
  exact List.map_congr_left fun x hx => by
    have := h x hx
    simp; omega
theorem run_idxs (s : ByteArray) {j : Nat} (hj : j < s.size) (w : World) : (Instr.index 9 (.string s) (.int .i64 j)).run Try.prog w = .ok (.int .u8 ((nats s).getD j 0 : Nat)) w := by
  have h1 : (0 : Int) ≤ (j : Int) := by omega
  have h2 : j < s.data.toList.length := by simpa using hj
  simp [Instr.index, run_underlying Try.underlying9, asIntOf, go_sem, nats, hj, List.getD_eq_getElem?_getD]
  rfl
theorem strCells_nums (s : ByteArray) : Lib.strCells s = nums .u8 (nats s) := by
  unfold Lib.strCells nums nats
  rw [List.map_map]
  rfl
section
variable {ops : Array Oper} {Q : Exit → Act → World → Prop} {a : Act} {w : World} {rest : List Oper} {dst : Option Tmp} {ty : TypeId} {pos : String} {after : Array Edge} {s x : Operand} {B g n cap i : Nat} {v : Value} {l : List Nat} {t : ByteArray}
theorem wappS (hs : a.eval s = v) (hx : a.eval x = .string t) (hown : Own 5 .u8 w B v l) (hsz : l.length + t.size ≤ 1000000) (hB : B ≤ w.heap.size)
    (h : ∀ v' w', Own 5 .u8 w' B v' (l ++ nats t) → w.grownBy w' v.ownBlock → wpList Try.prog ops Q rest (a.put dst v') w') :
    wpList Try.prog ops Q (⟨dst, .call { callee := .builtin .append, args := #[s, x], argTypes := #[22, 9] }, ty, pos, after, none⟩ :: rest) a w := by
  obtain ⟨i, hi, hz, h1, h2⟩ := eltB.inf
  have hb : i.bytes = 1 := by
    have : (Try.prog.info? 5).map (·.bytes) = some 1 := by kernel_rfl
    rw [hi] at this
    simpa using this
  obtain ⟨v', w', hr, ho, hg, _⟩ := Lib.run_append_own_string (P := Try.prog) w B 22 9 ty 5 i eltB.und Try.underlying9 hi hz h1 hb v l.length _ hown t (by unfold maxLen; omega) (by omega) hB
  refine wpList_plain rfl fun K hK => ?_
  unfold Oper.wp execOp
  simp only [resolve, invoke, builtin, Sem.run_bind, Sem.run_pure, Result.andThen_ok, List.map_toArray, List.map_cons, List.map_nil, hs, hx, hr]
  refine hK _ _ (h v' w' ?_ hg)
  unfold Own
  rw [List.length_append, nats_length, nums_append, ← strCells_nums]
  exact ho
end
/-- A literal of one byte is the call's own. -/
theorem Own.lit1 {w : World} {B x : Nat} (hB : B ≤ w.heap.size) : Own 5 .u8 (w.alloc (.cells #[.int .u8 (x : Nat)] 5)) B (.slice (some ⟨w.heap.size, 0, none⟩) 1 1) [x] :=
  ⟨rfl, .inr ⟨w.heap.size, 1, _, rfl, hB, heap_alloc_new w _, Nat.le_refl _, by unfold maxLen; omega, rfl, rfl⟩⟩
/-- Where it lies, and what is in its cells. -/
theorem Own.at {w : World} {B : Nat} {v : Value} {l : List Nat} (h : Own 5 .u8 w B v l) (hl : 0 < l.length) : ∃ g cap, v = .slice (some ⟨g, 0, none⟩) l.length cap ∧ B ≤ g ∧ g < w.heap.size ∧ l.length ≤ cap ∧ cap ≤ maxLen ∧ ∀ i, i < l.length → w.cell? ⟨g, i, none⟩ = some (.int .u8 (l.getD i 0 : Nat)) ∧ w.frozen? ⟨g, i, none⟩ = false := by
  rcases h.2 with ⟨rfl, h0⟩ | ⟨g, cap, cur, rfl, hB, hg, hnc, hcm, hcs, ht⟩
  · omega
  · have hb : Blk w g 5 cur := hg
    refine ⟨g, cap, rfl, hB, hb.lt, hnc, hcm, fun i hi => ⟨?_, hb.frozen i⟩⟩
    rw [hb.cell]
    have h1 := nums_get .u8 hi
    rw [← ht, List.getElem?_take_of_lt (by omega), Array.getElem?_toList] at h1
    exact h1
theorem Own.put {w : World} {B g n cap i x : Nat} {l : List Nat} (h : Own 5 .u8 w B (.slice (some ⟨g, 0, none⟩) n cap) l) (_hi : i < l.length) :
    Own 5 .u8 (w.setCell ⟨g, i, none⟩ (.int .u8 (x : Nat))) B (.slice (some ⟨g, 0, none⟩) n cap) (l.set i x) := by
  rcases h.2 with ⟨e, h0⟩ | ⟨g2, cap2, cur, e, hB, hg, hnc, hcm, hcs, ht⟩
  · cases e
  · have e2 := e
    simp only [Value.slice.injEq, Option.some.injEq, Addr.mk.injEq, and_true] at e2
    obtain ⟨rfl, rfl, rfl⟩ := e2
    have hb : Blk w g 5 cur := hg
    refine ⟨?_, .inr ⟨g, cap, cur.setIfInBounds i (.int .u8 (x : Nat)), by rw [List.length_set], hB, hb.setCell_same i _, by rw [List.length_set]; exact hnc, hcm, by rw [Array.size_setIfInBounds]; exact hcs, ?_⟩⟩
    · simp [nums]
    · rw [Array.toList_setIfInBounds, List.length_set, List.take_set, ht]
      unfold nums
      rw [List.map_set]
theorem Own.other {e : TypeId} {k : IntKind} {w : World} {B g g' n cap : Nat} {l : List Nat} {cs : Array Value} (h : Own e k w B (.slice (some ⟨g, 0, none⟩) n cap) l) (hne : g' ≠ g) : Own e k (w.setRow g' cs) B (.slice (some ⟨g, 0, none⟩) n cap) l := by
  rcases h.2 with ⟨e', _⟩ | ⟨g2, cap2, cur, e', hB, hg, hr⟩
  · cases e'
  · have e2 := e'
    simp only [Value.slice.injEq, Option.some.injEq, Addr.mk.injEq, and_true] at e2
    obtain ⟨rfl, _, _⟩ := e2
    exact ⟨h.1, .inr ⟨_, cap2, cur, e', hB, Blk.setRow_other (t := e) (cs := cur) hg hne _, hr⟩⟩
theorem Own.otherCell {e : TypeId} {k : IntKind} {w : World} {B g' i : Nat} {v u : Value} {l : List Nat} (h : Own e k w B v l) (hne : g' < B) : Own e k (w.setCell ⟨g', i, none⟩ u) B v l := by
  rcases h.2 with h' | ⟨g2, cap2, cur, e', hB, hg, hr⟩
  · exact ⟨h.1, .inl h'⟩
  · exact ⟨h.1, .inr ⟨g2, cap2, cur, e', hB, Blk.setCell_other (t := e) (cs := cur) hg (by show g' ≠ g2; omega) _, hr⟩⟩
theorem Own.putBelow {w w0 : World} {B g i : Nat} {u : Value} (hb : Below B w0 w) (hg : B ≤ g) : Below B w0 (w.setCell ⟨g, i, none⟩ u) := hb.setCell (p := ⟨g, i, none⟩) hg u
end Go.Proofs.Ytiebaiofpihoiaa
