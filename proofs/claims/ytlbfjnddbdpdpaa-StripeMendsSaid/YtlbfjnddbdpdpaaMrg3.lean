/-
  What is written into a row of the call's own; the contract of parity.mendParities.
  The contract of parity.mendData.
  The contract of parity.mendData: the walk.
  The contract of parity.mendParities.
  The contract of parity.Fix.
  casematelaw02's helpers: same, at, row.
  P2.3, the mathematics: two lost columns of a right row come back.
  The different numbers of a list, rising, against the marks of the program (no text of the program).
  The document's bytes found by going through all: casemateref02.single, pair.
  casemateref02.Fix: what it refuses.
  The stage's theorem: the walk of casematelaw02.ParityBack.
  The walk of casematelaw02.ParityTold.
  The document's way to mend, a column at a time (no text of the program).
  What is lost, two columns at most; the parities put back a byte at a time (no text of the program).
-/
import Derived.Test.YtlbfjnddbdpdpaaMrg2
import Derived.Deep.Cut
import Derived.Deep.WholeRow
import Derived.Deep.Onto
set_option linter.unusedVariables false
set_option linter.unusedSimpArgs false
set_option maxRecDepth 100000
namespace Go.Proofs.Ytlbfjnddbdpdpaa
open Go.ChangeShapes Go.WideShapes Go.ChangeAt Go.RowKit
attribute [local go_sem] Gives
/-! ### Only block g has turned -/
theorem only_row {a b : World} {g g' : Nat} (h : a.grownBy b (some g)) (cs : Array Value) (hg : g' = g ∨ a.heap.size ≤ g') : a.grownBy (b.setRow g' cs) (some g) :=
  ⟨h.os, h.tape, h.output, by simpa using h.size, fun i hi hne => (Go.setRow_other b g' i cs (by
    rintro rfl
    rcases hg with rfl | hg
    · exact hne rfl
    · omega)).trans (h.block i hi hne)⟩
theorem Blk.ty {w : World} {g : Nat} {t t' : TypeId} {cs cs' : Array Value} (h : Blk w g t cs) (h' : Blk w g t' cs') : t = t' := by
  unfold Blk at h h'
  rw [h] at h'
  simp only [Option.some.injEq, Obj.cells.injEq] at h'
  exact h'.2.1
/-! ### One sector of a row of the call's own -/
def upd (F : Nat → Nat → Nat) (i : Nat) (f : Nat → Nat) : Nat → Nat → Nat := fun j => if j = i then f else F j
theorem upd_self {F : Nat → Nat → Nat} {i : Nat} {f : Nat → Nat} : upd F i f i = f := by simp [upd]
theorem upd_ne {F : Nat → Nat → Nat} {i j : Nat} {f : Nat → Nat} (h : j ≠ i) : upd F i f j = F j := by simp [upd, h]
theorem OwnS.store {w : World} {B g n cap i : Nat} {F : Nat → Nat → Nat} (f : Nat → Nat) (h : OwnS w B (.slice (some ⟨g, 0, none⟩) n cap) n F) (hi : i < n) :
    ∃ cur, (storeVar 32 ⟨g, i * 64, none⟩ (.agg (sec f))).run Try.prog w = .ok () (w.setRow g cur) ∧ OwnS (w.setRow g cur) B (.slice (some ⟨g, 0, none⟩) n cap) n (upd F i f) := by
  rcases h.2 with ⟨h', _⟩ | ⟨g', cap', cur, hv, hB, hg, hnc, hcm, hcs, ht⟩
  · cases h'
  simp only [Value.slice.injEq, Option.some.injEq, Addr.mk.injEq, and_true, true_and] at hv
  obtain ⟨rfl, rfl⟩ := hv
  have hfit : i * 64 + 64 ≤ cur.size := by rw [hcs]; have : (i + 1) * 64 ≤ cap * 64 := Nat.mul_le_mul_right _ (by omega); omega
  have hst := run_storeCells_at (P := Try.prog) g (i * 64) 32 (sec f).toList 0 cur w hg (by rw [Array.length_toList, size_sec]; omega) (fun v hv => (Array.all_eq_true_iff_forall_mem.1 sec_one) v (by simpa using hv))
  rw [Nat.add_zero] at hst
  refine ⟨(cur.toList.take (i * 64) ++ (sec f).toList ++ cur.toList.drop (i * 64 + (sec f).toList.length)).toArray, ?_, ?_⟩
  · have hi64 := info_sec
    cases hq : Try.prog.info? 32 with
    | none => rw [hq] at hi64; cases hi64
    | some ie =>
      rw [hq] at hi64
      simp only [Option.map_some, Option.some.injEq] at hi64
      simp [storeVar, sizeOf, typeInfo, hq, hi64, Value.cells, size_sec] at hst ⊢
      exact hst
  · refine ⟨by rw [Array.length_toList, size_secs], .inr ⟨g, cap, _, rfl, hB, setRow_heap w g cur _ _ _ hg, hnc, hcm, ?_, ?_⟩⟩
    · simp only [List.size_toArray, List.length_append, List.length_take, List.length_drop, Array.length_toList, size_sec]
      omega
    · apply List.ext_getElem?
      intro j
      by_cases hj : j < n * 64
      · have hR : (Go.Proofs.Ytlbfjnddbdpdpaa.secs n (upd F i f)).toList[j]? = some (.int .u8 (upd F i f (j / 64) (j % 64) : Nat)) := by
          rw [Array.getElem?_toList]; exact get_row_lt hj
        rw [List.getElem?_take_of_lt hj, hR]
        show (cur.toList.take (i * 64) ++ (sec f).toList ++ cur.toList.drop (i * 64 + (sec f).toList.length))[j]? = _
        have h0 : cur.toList[j]? = some (.int .u8 (F (j / 64) (j % 64) : Nat)) := by
          have : (cur.toList.take (n * 64))[j]? = (Go.Proofs.Ytlbfjnddbdpdpaa.secs n F).toList[j]? := by rw [ht]
          rw [List.getElem?_take_of_lt hj] at this
          rw [this, Array.getElem?_toList]
          exact get_row_lt hj
        rw [List.append_assoc, List.getElem?_append, List.length_take, Array.length_toList, Nat.min_eq_left (by omega)]
        by_cases h1 : j < i * 64
        · rw [if_pos h1, List.getElem?_take_of_lt h1, h0, upd_ne (by omega)]
        · rw [if_neg h1, List.getElem?_append, Array.length_toList, size_sec]
          by_cases h2 : j - i * 64 < 64
          · rw [if_pos h2, Array.getElem?_toList, get_sec h2, show j / 64 = i by omega, upd_self, show j % 64 = j - i * 64 by omega]
          · rw [if_neg h2, List.getElem?_drop, show i * 64 + 64 + (j - i * 64 - 64) = j by omega, h0, upd_ne (by omega)]
      · rw [List.getElem?_eq_none (by simp; omega), List.getElem?_eq_none (by rw [Array.length_toList, size_secs]; omega)]
section
variable {ops : Array Oper} {Q : Exit → Act → World → Prop} {a : Act} {w : World} {rest : List Oper} {dst : Option Tmp} {ty : TypeId} {pos : String} {after : Array Edge} {x y : Operand} {g n cap i B : Nat} {F : Nat → Nat → Nat} {f : Nat → Nat}
/-- A sector into a row of the call's own. -/
theorem sto (hx : a.eval x = .pointer (some ⟨g, 0 + i * 64, none⟩)) (hy : a.eval y = .agg (sec f)) (h : OwnS w B (.slice (some ⟨g, 0, none⟩) n cap) n F) (hi : i < n)
    (hk : ∀ w', OwnS w' B (.slice (some ⟨g, 0, none⟩) n cap) n (upd F i f) → w.grownBy w' (some g) → wpList Try.prog ops Q rest (a.put dst undef) w') :
    wpList Try.prog ops Q (⟨dst, .store 32 x y, ty, pos, after, none⟩ :: rest) a w := by
  obtain ⟨cur, h1, h2⟩ := h.store f hi
  refine wpList_plain rfl fun K hK => ?_
  unfold Oper.wp execOp
  rw [Nat.zero_add] at hx
  simp only [hx, hy, Instr.storeAt, Instr.sureAddr, Sem.run_bind, Sem.run_pure, h1, Result.andThen_ok]
  exact hK _ _ (hk _ h2 (only_row (only_refl w g) _ (.inl rfl)))
/-- A sector's zero value, as a literal. -/
theorem built_sec : Try.prog.built 32 [] = some (sec fun _ => 0) := by kernel_rfl
theorem bsec (h : wpList Try.prog ops Q rest (a.put dst (.agg (sec fun _ => 0))) w) : wpList Try.prog ops Q (⟨dst, .build 32 #[], ty, pos, after, none⟩ :: rest) a w := by
  refine wpList_plain rfl fun K hK => ?_
  unfold Oper.wp execOp
  simp only [Sem.run_bind, Array.map_empty, run_build w 32 #[] _ built_sec, Result.andThen_ok]
  exact hK _ _ h
end
theorem own_range {w : World} {B g n cap i : Nat} {F : Nat → Nat → Nat} (h : OwnS w B (.slice (some ⟨g, 0, none⟩) n cap) n F) (hi : i < n) : w.rangeAt g (0 + i * 64) (sec (F i)).toList := by
  obtain ⟨g', c', e, _, _, _, hr⟩ := h.form (fun e => by cases e)
  simp only [Value.slice.injEq, Option.some.injEq, Addr.mk.injEq, and_true, true_and] at e
  obtain ⟨rfl, rfl⟩ := e
  exact hr i hi
theorem own_lt {w : World} {B g n cap : Nat} {F : Nat → Nat → Nat} (h : OwnS w B (.slice (some ⟨g, 0, none⟩) n cap) n F) : g < w.heap.size ∧ B ≤ g ∧ n ≤ cap := by
  obtain ⟨g', c', e, h1, h2, h3, _⟩ := h.form (fun e => by cases e)
  simp only [Value.slice.injEq, Option.some.injEq, Addr.mk.injEq, and_true, true_and] at e
  obtain ⟨rfl, rfl⟩ := e
  exact ⟨h2, h1, h3⟩
theorem own_ne {w : World} {B g n cap h : Nat} {F : Nat → Nat → Nat} {cs : Array Value} {t : TypeId} (ho : OwnS w B (.slice (some ⟨g, 0, none⟩) n cap) n F) (hb : Blk w h t cs) (ht : t ≠ 32) : h ≠ g := by
  rcases ho.2 with ⟨h', _⟩ | ⟨g', cap', cur, hv, _, hg, _⟩
  · cases h'
  simp only [Value.slice.injEq, Option.some.injEq, Addr.mk.injEq, and_true, true_and] at hv
  obtain ⟨rfl, rfl⟩ := hv
  rintro rfl
  exact ht (Blk.ty hb hg)
/-- The parities made anew where they are lost. -/
def mendP (m : Nat) (M : Nat → Bool) (F : Nat → Nat → Nat) : Nat → Nat → Nat := fun i =>
  if i = m ∧ M m = true then PP F m else if i = m + 1 ∧ M (m + 1) = true then QQ F m else F i
def MendPost (w : World) (B g n cap h : Nat) (F : Nat → Nat → Nat) (M : Nat → Bool) (e : Ending) (w' : World) : Prop :=
  e = .returned (.tuple #[]) ∧ OwnS w' B (.slice (some ⟨g, 0, none⟩) n cap) n F ∧ Blk w' h 107 (row 64 fun j => .bool (M j)) ∧ w.grownBy w' (some g)
theorem lost_succ (g j : Nat) (M : Nat → Bool) (hj : j + 1 < 64) (w : World) (hb : Blk w g 107 (row 64 fun l => .bool (M l))) :
    Calls Try.prog 67 #[.int .i64 ((j : Int) + 1), .pointer (some ⟨g, 0, none⟩)] w fun e w' => e = .returned (.bool (M (j + 1))) ∧ w = w' := by
  have := lost_any g (j + 1) M hj w hb
  simpa using this
theorem HID {p : Prop} (h : p) : RowKit.Hid p := h
end Go.Proofs.Ytlbfjnddbdpdpaa
set_option maxRecDepth 100000
namespace Go.Proofs.Ytlbfjnddbdpdpaa
open Go.ChangeShapes Go.WideShapes Go.ChangeAt Go.RowKit
attribute [local go_sem] Gives
/-! ### A list of ints of the call's own -/
def OwnI (w : World) (B : Nat) (v : Value) (G : List Nat) : Prop := w.ownsRow B 3 1 v G.length (G.map fun j : Nat => Value.int .i64 j)
theorem parts_int : ∃ (i : TypeInfo) (z : Value), Try.prog.info? 3 = some i ∧ i.zero = some z ∧ i.size = 1 ∧ i.bytes = 8 ∧ z.cells.size = 1 := by
  have hi : ∃ ie, Try.prog.info? 3 = some ie := ⟨_, rfl⟩
  obtain ⟨i, hi⟩ := hi
  have h1 : (Try.prog.info? 3).map (·.size) = some 1 := by kernel_rfl
  have h2 : (Try.prog.info? 3).map (·.bytes) = some 8 := by kernel_rfl
  have h3 : ((Try.prog.info? 3).bind (·.zero)).map (·.cells.size) = some 1 := by kernel_rfl
  rw [hi] at h1 h2 h3
  simp only [Option.map_some, Option.some.injEq, Option.bind_some] at h1 h2 h3
  cases hz : i.zero with
  | none => rw [hz] at h3; cases h3
  | some z => rw [hz] at h3; exact ⟨i, z, hi, hz, h1, h2, by simpa using h3⟩
theorem only_grown {a b c : World} {g : Nat} {r : Option Nat} (h : a.grownBy b (some g)) (k : b.grownBy c r) (hr : ∀ x, r = some x → a.heap.size ≤ x) : a.grownBy c (some g) :=
  ⟨k.os.trans h.os, k.tape.trans h.tape, k.output.trans h.output, Nat.le_trans h.size k.size, fun i hi hne => (k.block i (Nat.lt_of_lt_of_le hi h.size) (fun e => by have := hr i e.symm; omega)).trans (h.block i hi hne)⟩
theorem Blk.grownR {a b : World} {k : Nat} {r : Option Nat} {t : TypeId} {cs : Array Value} (h : Blk a k t cs) (hg : a.grownBy b r) (hne : ∀ x, r = some x → x ≠ k) : Blk b k t cs :=
  (hg.block k h.lt (fun e => hne k e.symm rfl)).trans h
theorem OwnI.lt {w : World} {B : Nat} {v : Value} {G : List Nat} (h : OwnI w B v G) : ∀ k, v.ownBlock = some k → B ≤ k ∧ k < w.heap.size := World.ownsRow.lt h
theorem OwnI.only {w w' : World} {B g : Nat} {v : Value} {G : List Nat} (h : OwnI w B v G) (ho : w.grownBy w' (some g)) (hg : g < B) : OwnI w' B v G :=
  World.ownsRow.kept h ho (by
    cases e : v.ownBlock with
    | none => exact .inl rfl
    | some k => exact .inr (fun e2 => by injection e2 with e2; have := (h.lt k e).1; omega))
theorem OwnI.below {w w' : World} {B k : Nat} {v : Value} {G : List Nat} (h : OwnI w B v G) (hb : Below k w w') (hk : w.heap.size ≤ k) : OwnI w' B v G :=
  World.ownsRow.kept (row := none) h ⟨hb.os, hb.tape, hb.output, hb.size, fun i hi _ => hb.block i (by omega)⟩ (by
    cases v.ownBlock with
    | none => exact .inl rfl
    | some g => exact .inr (fun e => by cases e))
theorem OwnI.len {w : World} {B : Nat} {v : Value} {G : List Nat} (h : OwnI w B v G) : ∃ A c, v = .slice A G.length c := by
  rcases h.2 with ⟨h1, h2⟩ | ⟨g, cap, cur, h1, _⟩
  · exact ⟨none, 0, by rw [h1, h2]⟩
  · exact ⟨_, _, h1⟩
theorem OwnI.get {w : World} {B j : Nat} {v : Value} {G : List Nat} (h : OwnI w B v G) (hj : j < G.length) : ∃ g c, v = .slice (some ⟨g, 0, none⟩) G.length c ∧ ∀ i, i < G.length → w.cell? ⟨g, i, none⟩ = some (.int .i64 (G.getD i 0 : Nat)) := by
  rcases h.2 with ⟨h1, h2⟩ | ⟨g, cap, cur, h1, _⟩
  · omega
  · refine ⟨g, cap, h1, fun i hi => ?_⟩
    have := World.ownsRow.cellAt (h1 ▸ h : w.ownsRow B 3 1 (.slice (some ⟨g, 0, none⟩) G.length cap) G.length _) i (by omega)
    rw [this, List.getElem?_map, List.getElem?_eq_getElem hi]
    simp [List.getD, hi]
theorem OwnI.cell {w : World} {B gg n c i : Nat} {G : List Nat} (h : OwnI w B (.slice (some ⟨gg, 0, none⟩) n c) G) (hi : i < G.length) : w.cell? ⟨gg, i, none⟩ = some (.int .i64 (G.getD i 0 : Nat)) := by
  obtain ⟨g', c', e, hr⟩ := h.get hi
  simp only [Value.slice.injEq, Option.some.injEq, Addr.mk.injEq, and_true, true_and] at e
  obtain ⟨rfl, _, _⟩ := e
  exact hr i hi
section
variable {ops : Array Oper} {Q : Exit → Act → World → Prop} {a : Act} {w : World} {rest : List Oper} {dst : Option Tmp} {ty : TypeId} {pos : String} {after : Array Edge} {s x : Operand} {c B : Nat} {v : Value} {G : List Nat}
/-- One int more. -/
theorem wappi {b y : Nat} (hs : a.eval s = v) (hx : a.eval x = .slice (some ⟨b, 0, none⟩) 1 c) (hown : OwnI w B v G) (hc : w.cell? ⟨b, 0, none⟩ = some (.int .i64 y)) (hsz : G.length ≤ 1000) (hB : B ≤ w.heap.size)
    (h : ∀ v' w', OwnI w' B v' (G ++ [y]) → w.grownBy w' v.ownBlock → wpList Try.prog ops Q rest (a.put dst v') w') :
    wpList Try.prog ops Q (⟨dst, .call { callee := .builtin .append, args := #[s, x], argTypes := #[39, 39] }, ty, pos, after, none⟩ :: rest) a w := by
  obtain ⟨i, z, hi, hz, h1, h2, h3⟩ := parts_int
  refine wpList_append_own w rfl s x 39 rfl B 3 i z 1 8 Try.underlying39 hi hz h1 h2 h3 (by omega) v G.length _ hs hown ⟨b, 0, none⟩ 1 c [.int .i64 y] hx rfl ?_ (fun u hu => by simp at hu; subst hu; rfl)
    (by unfold maxLen; omega) (by omega) hB ?_
  · intro j u hj
    match j, hj with
    | 0, hj =>
      simp at hj
      subst hj
      simpa [Addr.add] using hc
  · intro v' w' h4 h5 _
    refine h v' w' ?_ h5
    unfold OwnI
    rw [List.length_append, List.map_append]
    exact h4
end
/-! ### What is brought back -/
def zeroed (m : Nat) (M : Nat → Bool) (F : Nat → Nat → Nat) : Nat → Nat → Nat := fun i => if i < m ∧ M i = true then fun _ => 0 else F i
def gapsL (m : Nat) (M : Nat → Bool) : List Nat := (List.range m).filter M
theorem gapsL_yes {m : Nat} {M : Nat → Bool} (h : M m = true) : gapsL (m + 1) M = gapsL m M ++ [m] := by unfold gapsL; rw [List.range_succ, List.filter_append]; simp [h]
theorem gapsL_no {m : Nat} {M : Nat → Bool} (h : M m = false) : gapsL (m + 1) M = gapsL m M := by unfold gapsL; rw [List.range_succ, List.filter_append]; simp [h]
theorem gapsL_le (m : Nat) (M : Nat → Bool) : (gapsL m M).length ≤ m := by
  have := List.length_filter_le M (List.range m)
  simpa [gapsL] using this
theorem zeroed_yes {m i k : Nat} {M : Nat → Bool} {F : Nat → Nat → Nat} (h : M m = true) : zeroed (m + 1) M F i k = upd (zeroed m M F) m (fun _ => 0) i k := by
  unfold zeroed upd
  by_cases e : i = m
  · subst e; simp [h]
  · by_cases e2 : i < m
    · simp [e, e2, show i < m + 1 by omega]
    · simp [e, e2, show ¬ i < m + 1 by omega]
theorem zeroed_no {m : Nat} {M : Nat → Bool} {F : Nat → Nat → Nat} (h : M m = false) : zeroed (m + 1) M F = zeroed m M F := by
  funext i
  unfold zeroed
  by_cases e : i = m
  · subst e; simp [h]
  · by_cases e2 : i < m
    · simp [e2, show i < m + 1 by omega]
    · simp [e2, show ¬ i < m + 1 by omega]
theorem zeroed_out {m i : Nat} {M : Nat → Bool} {F : Nat → Nat → Nat} (h : m ≤ i) : zeroed m M F i = F i := by
  unfold zeroed
  exact if_neg (fun hh => by have := hh.1; omega)
theorem zeroed_lt {m : Nat} {M : Nat → Bool} {F : Nat → Nat → Nat} (hF : ∀ i k, F i k < 256) : ∀ i k, zeroed m M F i k < 256 := fun i k => by
  unfold zeroed
  split
  · show 0 < 256; omega
  · exact hF i k
def mis (m : Nat) (M : Nat → Bool) (F : Nat → Nat → Nat) : Nat → Nat := fun k => PP (zeroed m M F) m k ^^^ F m k
def wei (m : Nat) (M : Nat → Bool) (F : Nat → Nat → Nat) : Nat → Nat := fun k => QQ (zeroed m M F) m k ^^^ F (m + 1) k
def mendD (m : Nat) (M : Nat → Bool) (F : Nat → Nat → Nat) : Nat → Nat → Nat :=
  match gapsL m M with
  | [] => zeroed m M F
  | [x] => upd (zeroed m M F) x (if M m then fun k => GfM.mul (pwI (-(x : Int))) (wei m M F k) else mis m M F)
  | x :: y :: _ => upd (upd (zeroed m M F) x (twoX x y (mis m M F) (wei m M F))) y (twoY x y (mis m M F) (wei m M F))
section
variable {ops : Array Oper} {a : Act} {rest : List Oper} {dst : Option Tmp} {ty : TypeId} {pos : String} {after : Array Edge} {x y : Operand} {g : Nat} {f : Nat → Nat} {C : World → Prop} {Qk : Act → Prop} {gd : Option (Nat × Bool)}
theorem bldm {o : Nat} (hwt : Region.wanted ⟨dst, .load 32 x, ty, pos, after, gd⟩ (yielded ops a.tmps) = true) (hx : a.eval x = .pointer (some ⟨g, o, none⟩)) (hb : ∀ w, C w → w.rangeAt g o (sec f).toList) (h : wpB Try.prog ops C Qk rest (a.put dst (.agg (sec f)))) :
    wpB Try.prog ops C Qk (⟨dst, .load 32 x, ty, pos, after, gd⟩ :: rest) a :=
  wpB_val hwt (fun w hw => gives_value (w' := w) (by simp only [execOp, hx, Sem.run_bind, run_ldS (hb w hw), Result.andThen_ok, Sem.run_pure]) ⟨hw, Below.refl _ _⟩) h
theorem bld (hwt : Region.wanted ⟨dst, .load 32 x, ty, pos, after, gd⟩ (yielded ops a.tmps) = true) (hx : a.eval x = .pointer (some ⟨g, 0, none⟩)) (hb : ∀ w, C w → Blk w g 32 (sec f)) (h : wpB Try.prog ops C Qk rest (a.put dst (.agg (sec f)))) :
    wpB Try.prog ops C Qk (⟨dst, .load 32 x, ty, pos, after, gd⟩ :: rest) a :=
  wpB_val hwt (fun w hw => gives_value (w' := w) (by simp only [execOp, hx, Sem.run_bind, run_ld (hb w hw), Result.andThen_ok, Sem.run_pure]) ⟨hw, Below.refl _ _⟩) h
end
theorem alloc_sec (w : World) : (Instr.alloc 32 true (.tuple #[])).run Try.prog w = .ok (.pointer (some ⟨w.heap.size, 0, none⟩)) (w.alloc (.cells (sec fun _ => 0) 32)) := by
  have hz := (zero_of_info (P := Try.prog) (t := 32) (v := .agg (sec fun _ => 0)) (n := 64) (by kernel_rfl)).1
  simp [Instr.alloc, Sem.run_bind, hz w, newVar, newRow, Value.cells]
end Go.Proofs.Ytlbfjnddbdpdpaa
set_option maxRecDepth 100000
namespace Go.Proofs.Ytlbfjnddbdpdpaa
open Go.ChangeShapes Go.WideShapes Go.ChangeAt Go.RowKit
attribute [local go_sem] Gives
set_option maxRecDepth 100000 in
set_option maxHeartbeats 3000000 in
theorem mendD_any (B g m cap h : Nat) (F : Nat → Nat → Nat) (M : Nat → Bool) (hF : ∀ i k, F i k < 256) (h1 : 1 ≤ m) (h2 : m ≤ 62) (hM2 : (gapsL m M).length ≤ 2) (w : World) (ho : OwnS w B (.slice (some ⟨g, 0, none⟩) (m + 2) cap) (m + 2) F)
    (hM : Blk w h 107 (row 64 fun j => .bool (M j))) :
    Calls Try.prog 49 #[.slice (some ⟨g, 0, none⟩) (m + 2) cap, .func (.func 67) #[] #[.pointer (some ⟨h, 0, none⟩)]] w (MendPost w B g (m + 2) cap h (mendD m M F) M) := by
  have HF := hid hF
  have HO := hid ho
  have HM := hid hM
  have HG := hid hM2
  obtain ⟨hg1, hg2, hg3⟩ := own_lt ho
  have hne := own_ne ho hM (by decide)
  have hh := hM.lt
  clear hF ho hM hM2
  go_enter Try.func49, Try.ntmps49
  go_wp2_with fail
  refine (places_any (some ⟨g, 0, none⟩) m cap (by omega) _).mono ?_
  rintro e w' ⟨rfl, rfl⟩
  go_wp2_with fail
  go_loopw [6, 20] (fun v i wr => ∃ j : Nat, j ≤ m ∧ i = .int .i64 j ∧ OwnI wr w.heap.size v (gapsL j M) ∧ OwnS wr B (.slice (some ⟨g, 0, none⟩) (m + 2) cap) (m + 2) (zeroed j M F) ∧ Blk wr h 107 (row 64 fun j => .bool (M j)) ∧ w.grownBy wr (some g)) (fun _ i _ => m - (intOf i).toNat)
  case atStart => exact ⟨0, by omega, rfl, World.ownsRow_nil w _ _ _, HO.out.mono (fun i k _ _ => by simp [zeroed]), HM.out, only_refl w g⟩
  case round =>
    obtain ⟨j, hj, rfl, gp, o1, b1, g1⟩ := hrel
    by_cases hlt : j < m
    · have O1 := HID o1
      have GP := HID gp
      have hle := gapsL_le j M
      clear o1 gp
      go_wp2_with fail
      refine (lost_any h j M (by omega) _ b1).mono ?_
      rintro e w' ⟨rfl, rfl⟩
      cases eM : M j with
      | false =>
        have e1 := gapsL_no eM
        have e2 := zeroed_no (F := F) eM
        have HN : RowKit.Hid (gapsL (j + 1) M = gapsL j M ∧ zeroed (j + 1) M F = zeroed j M F) := hid ⟨e1, e2⟩
        clear e1 e2
        go_wp2_with fail
        refine ⟨⟨j + 1, by omega, by go_num, ?_, ?_, b1, g1⟩, by simp [intOf]; omega⟩
        · rw [HN.out.1]; exact GP.out
        · rw [HN.out.2]; exact O1.out
      | true =>
        have HN : RowKit.Hid (gapsL (j + 1) M = gapsL j M ++ [j]) := hid (gapsL_yes eM)
        have HZ : RowKit.Hid (∀ i k, i < m + 2 → k < 64 → zeroed (j + 1) M F i k = upd (zeroed j M F) j (fun _ => 0) i k) := hid fun i k _ _ => zeroed_yes eM
        clear eM
        have tm : (j : Int) < (m : Int) + 2 := by omega
        go_upto_region 7 with (first | (with_reducible apply bsec) | ((with_reducible apply sto (i := j)); (simp only [Nat.zero_add]; rfl); rfl; exact O1.out; omega; intro w6 o6 g6))
        have gp6 := GP.out.only g6 hg1
        have b6 := b1.only g6 hne
        have g7 := only_trans g1 g6
        have O6 := HID (o6.mono HZ.out)
        have GP6 := HID gp6
        have hs6 : w.heap.size ≤ w6.heap.size := g7.size
        clear O1 GP o6 gp6 g6 g1 b1 HZ tm
        go_upto_region 8 with ((with_reducible apply wappi (y := j)); rfl; rfl; exact World.ownsRow.alloc GP6.out _; simp; omega; (simp; omega); intro v' w7 gp7 g8)
        have hk1 : ∀ x, u6.ownBlock = some x → w.heap.size ≤ x := fun x e => (GP6.out.lt x e).1
        have o7 : OwnS w7 B (.slice (some ⟨g, 0, none⟩) (m + 2) cap) (m + 2) (zeroed (j + 1) M F) := OwnS.kept (World.ownsRow.alloc O6.out _) g8 (.inr (fun e => by have := hk1 g e.symm; omega))
        have b7 := (b6.alloc (.cells #[.int .i64 j] 3)).grownR g8 (fun x e => by have := hk1 x e; omega)
        have g9 := only_grown (only_below g7 ((Below.refl w6.heap.size w6).alloc (Nat.le_refl _) _) hs6) g8 hk1
        rw [← HN.out] at gp7
        clear GP6 O6 b6 g7 g8 hk1
        go_wp2_with fail
        exact ⟨⟨j + 1, by omega, by go_num, gp7, o7, b7, g9⟩, by simp [intOf]; omega⟩
    · obtain rfl : m = j := by omega
      have hfilt : ∀ x, x ∈ gapsL m M → x < m ∧ M x = true := fun x hx => by
        unfold gapsL at hx
        rw [List.mem_filter, List.mem_range] at hx
        exact hx
      have hlen := HG.out
      have HS : RowKit.Hid (Secs wr wr.heap.size (some ⟨g, 0, none⟩) m (zeroed m M F)) := hid fun _ => ⟨g, 0, rfl, by have := g1.size; omega, fun i hi => own_range o1 (by omega)⟩
      have O1 := HID o1
      clear o1
      cases hgl : gapsL m M with
      | nil =>
        have HN : RowKit.Hid (mendD m M F = zeroed m M F) := hid (by unfold mendD; rw [hgl])
        rw [hgl] at gp
        obtain ⟨A, c, rfl⟩ := OwnI.len gp
        clear hgl gp hfilt hlen HS
        go_wp2_with fail
        refine bodyPost_ret (results_none Try.results49 _ _ _) rfl ?_
        exact ⟨rfl, by rw [HN.out]; exact O1.out, b1, g1⟩
      | cons x t =>
        have hx := hfilt x (by rw [hgl]; exact List.mem_cons_self ..)
        obtain ⟨hx, hMx⟩ := hx
        cases t with
        | nil =>
          rw [hgl] at gp
          obtain ⟨gg, cg, rfl, _⟩ := OwnI.get gp (j := 0) (by simp)
          have GP := HID gp
          have HN : RowKit.Hid (mendD m M F = upd (zeroed m M F) x (if M m then fun k => GfM.mul (pwI (-(x : Int))) (wei m M F k) else mis m M F)) := hid (by unfold mendD; rw [hgl])
          clear hgl gp hfilt hlen hMx
          go_wp2_with fail
          refine (sums_any (some ⟨g, 0, none⟩) m cap (zeroed m M F) (zeroed_lt HF.out) (by omega) _ HS.out).mono ?_
          rintro e w4 ⟨rfl, hb⟩
          have hs4 := hb.size
          go_upto_region 11 with (first | ((with_reducible apply stx); rfl; rfl; exact (Blk.top zlit rfl).alloc _) | ((with_reducible apply stx); rfl; rfl; exact (Blk.top zlit (by simp)).setRow_other (by omega) _))
          generalize hw5 : World.setRow (World.setRow (World.alloc (World.alloc w4 _) _) _ _) _ _ = w5
          have p1 : Blk w5 w4.heap.size 32 (sec (PP (zeroed m M F) m)) := by rw [← hw5]; exact (((Blk.top zlit rfl).alloc _).setRow_same _).setRow_other (by omega) _
          have p2 : Blk w5 (w4.heap.size + 1) 32 (sec (QQ (zeroed m M F) m)) := by rw [← hw5]; exact ((Blk.top zlit (by simp)).setRow_other (by omega) _).setRow_same _
          have hc : Below w4.heap.size w4 w5 := by rw [← hw5]; exact below_setRow (below_setRow (((Below.refl _ _).alloc (Nat.le_refl _) _).alloc (by simp) _) (Nat.le_refl _) _) (by omega) _
          have hd : Below wr.heap.size wr w5 := hb.trans (hc.mono hs4)
          have O5 := HID (OwnS.below O1.out hd (Nat.le_refl _))
          have G5 := HID (OwnI.below GP.out hd (Nat.le_refl _))
          have b5 := b1.below hd b1.lt
          have g5 : w.grownBy w5 (some g) := only_below g1 hd g1.size
          have rP := own_range O5.out (i := m) (by omega)
          have rQ := own_range O5.out (i := m + 1) (by omega)
          have hgw : g < w5.heap.size := by have := g5.size; omega
          clear hw5 hc hb hd O1 GP b1 g1 HS
          rw [Nat.zero_add] at rP rQ
          have tm : (m : Int) < (m : Int) + 2 := by omega
          have tm1 : (m : Int) + 1 < (m : Int) + 2 := by omega
          have hz5 : ∀ i k, zeroed m M F i k < 256 := zeroed_lt HF.out
          have HZ := hid hz5
          clear hz5
          refine wp_region_new2 (C := fun w' => Below w5.heap.size w5 w') 12 32 (sec fun _ => 0) 10 11 rfl rfl (by kernel_rfl) (by kernel_rfl) (by kernel_rfl) alloc_sec (Below.refl _ _).drew (fun w' hw' => hw'.alloc hw'.size _) (fun w' hw' => hw'.size) ?_
          simp only [List.take_succ_cons, List.take_zero, List.drop_succ_cons, List.drop_zero]
          apply bld
          · rfl
          · rfl
          · exact fun w' hw' => p1.below hw' p1.lt
          simp only [Act.put, List.setIfInBounds_toArray, List.set_cons_succ, List.set_cons_zero]
          apply wpB_val
          · rfl
          · intro w' hw'
            have hbl := Below.refl w'.heap.size w'
            go_simp
            first | exact rfl | exact ⟨rfl, hbl⟩ | exact ⟨rfl, hw', hbl⟩
          simp only [Act.put, List.setIfInBounds_toArray, List.set_cons_succ, List.set_cons_zero]
          apply wpB_val
          · rfl
          · intro w' hw'
            have hbl := Below.refl w'.heap.size w'
            go_simp
            first | exact rfl | exact ⟨rfl, hbl⟩ | exact ⟨rfl, hw', hbl⟩
          simp only [Act.put, List.setIfInBounds_toArray, List.set_cons_succ, List.set_cons_zero]
          apply wpB_val
          · rfl
          · intro w' hw'
            have hbl := Below.refl w'.heap.size w'
            go_simp
            first | exact rfl | exact ⟨rfl, hbl⟩ | exact ⟨rfl, hw', hbl⟩
          simp only [Act.put, List.setIfInBounds_toArray, List.set_cons_succ, List.set_cons_zero]
          apply bldm
          · rfl
          · rfl
          · exact fun w' hw' => rangeAt_below rP hw' hgw
          simp only [Act.put, List.setIfInBounds_toArray, List.set_cons_succ, List.set_cons_zero]
          apply wpB_val
          · rfl
          · intro w' hw'
            go_simp
            exact (add_any _ _ (PP_lt HZ.out m) (HZ.out m) _).mono fun e w'' ⟨he, hb'⟩ => ⟨he, hw'.trans (hb'.mono hw'.size), hb'⟩
          simp only [Act.put, List.setIfInBounds_toArray, List.set_cons_succ, List.set_cons_zero]
          apply bld
          · rfl
          · rfl
          · exact fun w' hw' => p2.below hw' p2.lt
          simp only [Act.put, List.setIfInBounds_toArray, List.set_cons_succ, List.set_cons_zero]
          apply wpB_val
          · rfl
          · intro w' hw'
            have hbl := Below.refl w'.heap.size w'
            go_simp
            first | exact rfl | exact ⟨rfl, hbl⟩ | exact ⟨rfl, hw', hbl⟩
          simp only [Act.put, List.setIfInBounds_toArray, List.set_cons_succ, List.set_cons_zero]
          apply wpB_val
          · rfl
          · intro w' hw'
            have hbl := Below.refl w'.heap.size w'
            go_simp
            first | exact rfl | exact ⟨rfl, hbl⟩ | exact ⟨rfl, hw', hbl⟩
          simp only [Act.put, List.setIfInBounds_toArray, List.set_cons_succ, List.set_cons_zero]
          apply wpB_val
          · rfl
          · intro w' hw'
            have hbl := Below.refl w'.heap.size w'
            go_simp
            first | exact rfl | exact ⟨rfl, hbl⟩ | exact ⟨rfl, hw', hbl⟩
          simp only [Act.put, List.setIfInBounds_toArray, List.set_cons_succ, List.set_cons_zero]
          apply bldm
          · rfl
          · rfl
          · exact fun w' hw' => rangeAt_below rQ hw' hgw
          simp only [Act.put, List.setIfInBounds_toArray, List.set_cons_succ, List.set_cons_zero]
          apply wpB_val
          · rfl
          · intro w' hw'
            go_simp
            exact (add_any _ _ (QQ_lt m) (HZ.out (m + 1)) _).mono fun e w'' ⟨he, hb'⟩ => ⟨he, hw'.trans (hb'.mono hw'.size), hb'⟩
          simp only [Act.put, List.setIfInBounds_toArray, List.set_cons_succ, List.set_cons_zero]
          refine wpB_nil fun c1 c2 w6 hcc hw6 q1 q2 hc1 hc2 => ?_
          have eM1 : (fun k => PP (zeroed m M F) m k ^^^ zeroed m M F m k) = mis m M F := by funext k; unfold mis; rw [zeroed_out (Nat.le_refl m)]
          have eW1 : (fun k => QQ (zeroed m M F) m k ^^^ zeroed m M F (m + 1) k) = wei m M F := by funext k; unfold wei; rw [zeroed_out (Nat.le_succ m)]
          rw [eM1, eW1]
          have hgs := g5.size
          clear eM1 eW1 rP rQ p1 p2 tm tm1
          simp only [Act.put, List.setIfInBounds_toArray, List.set_cons_succ, List.set_cons_zero, ptr]
          go_upto_region 12 with (first | ((with_reducible apply stx); rfl; rfl; exact q1) | ((with_reducible apply stx); rfl; rfl; exact q2.setRow_other hcc _))
          generalize hw7 : World.setRow (World.setRow w6 _ _) _ _ = w7
          have r1 : Blk w7 c1 32 (sec (mis m M F)) := by rw [← hw7]; exact (q1.setRow_same _).setRow_other (Ne.symm hcc) _
          have r2 : Blk w7 c2 32 (sec (wei m M F)) := by rw [← hw7]; exact (q2.setRow_other hcc _).setRow_same _
          have hd : Below w5.heap.size w6 w7 := by rw [← hw7]; exact below_setRow (below_setRow (Below.refl _ _) hc1 _) hc2 _
          have hd5 := hw6.trans hd
          have O7 := HID (OwnS.below O5.out hd5 (Nat.le_refl _))
          have G7 := HID (OwnI.below G5.out hd5 (Nat.le_refl _))
          have b7 := b5.below hd5 b5.lt
          have g7 : w.grownBy w7 (some g) := only_below g5 hd5 g5.size
          have hw7s : w5.heap.size ≤ w7.heap.size := hd5.size
          clear hw7 hd hd5 hw6 q1 q2 O5 G5 b5 g5
          have k0 := OwnI.cell G7.out (i := 0) (by simp)
          go_wp2_with fail
          refine (lost_any h m M (by omega) _ b7).mono ?_
          rintro e w8 ⟨rfl, rfl⟩
          cases eM : M m with
          | false =>
            rw [eM] at HN
            have tm : (x : Int) < (m : Int) + 2 := by omega
            go_wp2_with (first | ((with_reducible apply ld); rfl; exact r1) | ((with_reducible apply sto (i := x)); (simp only [Nat.zero_add]; rfl); rfl; exact O7.out; omega; intro w8 o8 g8))
            refine bodyPost_end (results_none Try.results49 _ _ _) rfl ?_
            exact ⟨rfl, o8.mono fun i k _ _ => by rw [HN.out, if_neg (by decide)], b7.only g8 hne, only_trans g7 g8⟩
          | true =>
            rw [eM] at HN
            have g7s := g7.size
            have hgw7 : g < w7.heap.size := by omega
            have hwl : ∀ k, wei m M F k < 256 := fun k => GfM.xor_lt (QQ_lt m k) (HF.out (m + 1) k)
            have hwr : IntKind.i64.wrap (-(x : Int)) = -(x : Int) := by rw [IntKind.wrap_i64]; omega
            go_upto_region 18 with (fail)
            refine wp_region_tail (C := fun w' => Below w7.heap.size w7 w') 8 (by kernel_rfl) (by kernel_rfl) (by kernel_rfl) (Below.refl _ _).drew ?_
            simp only [List.take_succ_cons, List.take_zero, List.drop_succ_cons, List.drop_zero]
            apply wpK_val
            · rfl
            · intro w' hw'
              go_simp
              first | exact rfl | exact ⟨rfl, hw'⟩
            simp only [Act.put, List.setIfInBounds_toArray, List.set_cons_succ, List.set_cons_zero]
            apply wpK_val
            · rfl
            · intro w' hw'
              go_simp
              first | exact rfl | exact ⟨rfl, hw'⟩
            simp only [Act.put, List.setIfInBounds_toArray, List.set_cons_succ, List.set_cons_zero]
            apply wpK_val
            · rfl
            · intro w' hw'
              go_simp
              first | exact rfl | exact ⟨rfl, hw'⟩
            simp only [Act.put, List.setIfInBounds_toArray, List.set_cons_succ, List.set_cons_zero]
            apply wpK_val
            · rfl
            · intro w' hw'
              have hw1 : IntKind.i64.wrap (-(x : Int)) = -(x : Int) := hwr
              go_simp
              first | exact rfl | exact ⟨rfl, hw'⟩
            simp only [Act.put, List.setIfInBounds_toArray, List.set_cons_succ, List.set_cons_zero]
            apply wpK_val
            · rfl
            · intro w' hw'
              go_simp
              exact (pow_any _ _).mono fun e w'' ⟨he, hb'⟩ => ⟨he, by subst hb'; exact hw'⟩
            simp only [Act.put, List.setIfInBounds_toArray, List.set_cons_succ, List.set_cons_zero]
            apply kld
            · rfl
            · rfl
            · exact fun w' hw' => r2.below hw' r2.lt
            simp only [Act.put, List.setIfInBounds_toArray, List.set_cons_succ, List.set_cons_zero]
            apply wpK_val
            · rfl
            · intro w' hw'
              go_simp
              exact (scale_any _ _ (pwI_lt _) hwl _).mono fun e w'' ⟨he, hb'⟩ => ⟨he, hw'.trans (hb'.mono hw'.size)⟩
            simp only [Act.put, List.setIfInBounds_toArray, List.set_cons_succ, List.set_cons_zero]
            apply wpK_val
            · rfl
            · intro w' hw'
              have tm : (x : Int) < (m : Int) + 2 := by omega
              go_simp
              first | exact rfl | exact ⟨rfl, hw'⟩
            simp only [Act.put, List.setIfInBounds_toArray, List.set_cons_succ, List.set_cons_zero]
            refine wpK_nil fun w9 hw9 => ?_
            have O9 := HID (OwnS.below O7.out hw9 (Nat.le_refl _))
            have b9 := b7.below hw9 b7.lt
            have g9 : w.grownBy w9 (some g) := only_below g7 hw9 g7s
            clear O7 b7 g7 r1 r2 G7
            go_wp2_with ((with_reducible apply sto (i := x)); (simp only [Nat.zero_add]; rfl); rfl; exact O9.out; omega; intro w8 o8 g8)
            refine bodyPost_end (results_none Try.results49 _ _ _) rfl ?_
            exact ⟨rfl, o8.mono fun i k _ _ => by rw [HN.out]; rfl, b9.only g8 hne, only_trans g9 g8⟩
        | cons y t =>
          have hy := hfilt y (by rw [hgl]; exact List.mem_cons_of_mem _ (List.mem_cons_self ..))
          obtain ⟨hy, hMy⟩ := hy
          have hnd : (gapsL m M).Nodup := List.nodup_range.filter _
          have hxy : x ≠ y := by
            rw [hgl] at hnd
            intro e
            subst e
            exact (List.nodup_cons.mp hnd).1 (List.mem_cons_self ..)
          obtain rfl : [] = t := by
            rw [hgl] at hlen
            match t, hlen with
            | [], _ => rfl
            | z :: t, hlen => simp at hlen
          rw [hgl] at gp
          obtain ⟨gg, cg, rfl, _⟩ := OwnI.get gp (j := 0) (by simp)
          have GP := HID gp
          have HN : RowKit.Hid (mendD m M F = upd (upd (zeroed m M F) x (twoX x y (mis m M F) (wei m M F))) y (twoY x y (mis m M F) (wei m M F))) := hid (by unfold mendD; rw [hgl])
          clear hgl gp hfilt hlen hMx hMy hnd
          go_wp2_with fail
          refine (sums_any (some ⟨g, 0, none⟩) m cap (zeroed m M F) (zeroed_lt HF.out) (by omega) _ HS.out).mono ?_
          rintro e w4 ⟨rfl, hb⟩
          have hs4 := hb.size
          go_upto_region 11 with (first | ((with_reducible apply stx); rfl; rfl; exact (Blk.top zlit rfl).alloc _) | ((with_reducible apply stx); rfl; rfl; exact (Blk.top zlit (by simp)).setRow_other (by omega) _))
          generalize hw5 : World.setRow (World.setRow (World.alloc (World.alloc w4 _) _) _ _) _ _ = w5
          have p1 : Blk w5 w4.heap.size 32 (sec (PP (zeroed m M F) m)) := by rw [← hw5]; exact (((Blk.top zlit rfl).alloc _).setRow_same _).setRow_other (by omega) _
          have p2 : Blk w5 (w4.heap.size + 1) 32 (sec (QQ (zeroed m M F) m)) := by rw [← hw5]; exact ((Blk.top zlit (by simp)).setRow_other (by omega) _).setRow_same _
          have hc : Below w4.heap.size w4 w5 := by rw [← hw5]; exact below_setRow (below_setRow (((Below.refl _ _).alloc (Nat.le_refl _) _).alloc (by simp) _) (Nat.le_refl _) _) (by omega) _
          have hd : Below wr.heap.size wr w5 := hb.trans (hc.mono hs4)
          have O5 := HID (OwnS.below O1.out hd (Nat.le_refl _))
          have G5 := HID (OwnI.below GP.out hd (Nat.le_refl _))
          have b5 := b1.below hd b1.lt
          have g5 : w.grownBy w5 (some g) := only_below g1 hd g1.size
          have rP := own_range O5.out (i := m) (by omega)
          have rQ := own_range O5.out (i := m + 1) (by omega)
          have hgw : g < w5.heap.size := by have := g5.size; omega
          clear hw5 hc hb hd O1 GP b1 g1 HS
          rw [Nat.zero_add] at rP rQ
          have tm : (m : Int) < (m : Int) + 2 := by omega
          have tm1 : (m : Int) + 1 < (m : Int) + 2 := by omega
          have hz5 : ∀ i k, zeroed m M F i k < 256 := zeroed_lt HF.out
          have HZ := hid hz5
          clear hz5
          refine wp_region_new2 (C := fun w' => Below w5.heap.size w5 w') 12 32 (sec fun _ => 0) 10 11 rfl rfl (by kernel_rfl) (by kernel_rfl) (by kernel_rfl) alloc_sec (Below.refl _ _).drew (fun w' hw' => hw'.alloc hw'.size _) (fun w' hw' => hw'.size) ?_
          simp only [List.take_succ_cons, List.take_zero, List.drop_succ_cons, List.drop_zero]
          apply bld
          · rfl
          · rfl
          · exact fun w' hw' => p1.below hw' p1.lt
          simp only [Act.put, List.setIfInBounds_toArray, List.set_cons_succ, List.set_cons_zero]
          apply wpB_val
          · rfl
          · intro w' hw'
            have hbl := Below.refl w'.heap.size w'
            go_simp
            first | exact rfl | exact ⟨rfl, hbl⟩ | exact ⟨rfl, hw', hbl⟩
          simp only [Act.put, List.setIfInBounds_toArray, List.set_cons_succ, List.set_cons_zero]
          apply wpB_val
          · rfl
          · intro w' hw'
            have hbl := Below.refl w'.heap.size w'
            go_simp
            first | exact rfl | exact ⟨rfl, hbl⟩ | exact ⟨rfl, hw', hbl⟩
          simp only [Act.put, List.setIfInBounds_toArray, List.set_cons_succ, List.set_cons_zero]
          apply wpB_val
          · rfl
          · intro w' hw'
            have hbl := Below.refl w'.heap.size w'
            go_simp
            first | exact rfl | exact ⟨rfl, hbl⟩ | exact ⟨rfl, hw', hbl⟩
          simp only [Act.put, List.setIfInBounds_toArray, List.set_cons_succ, List.set_cons_zero]
          apply bldm
          · rfl
          · rfl
          · exact fun w' hw' => rangeAt_below rP hw' hgw
          simp only [Act.put, List.setIfInBounds_toArray, List.set_cons_succ, List.set_cons_zero]
          apply wpB_val
          · rfl
          · intro w' hw'
            go_simp
            exact (add_any _ _ (PP_lt HZ.out m) (HZ.out m) _).mono fun e w'' ⟨he, hb'⟩ => ⟨he, hw'.trans (hb'.mono hw'.size), hb'⟩
          simp only [Act.put, List.setIfInBounds_toArray, List.set_cons_succ, List.set_cons_zero]
          apply bld
          · rfl
          · rfl
          · exact fun w' hw' => p2.below hw' p2.lt
          simp only [Act.put, List.setIfInBounds_toArray, List.set_cons_succ, List.set_cons_zero]
          apply wpB_val
          · rfl
          · intro w' hw'
            have hbl := Below.refl w'.heap.size w'
            go_simp
            first | exact rfl | exact ⟨rfl, hbl⟩ | exact ⟨rfl, hw', hbl⟩
          simp only [Act.put, List.setIfInBounds_toArray, List.set_cons_succ, List.set_cons_zero]
          apply wpB_val
          · rfl
          · intro w' hw'
            have hbl := Below.refl w'.heap.size w'
            go_simp
            first | exact rfl | exact ⟨rfl, hbl⟩ | exact ⟨rfl, hw', hbl⟩
          simp only [Act.put, List.setIfInBounds_toArray, List.set_cons_succ, List.set_cons_zero]
          apply wpB_val
          · rfl
          · intro w' hw'
            have hbl := Below.refl w'.heap.size w'
            go_simp
            first | exact rfl | exact ⟨rfl, hbl⟩ | exact ⟨rfl, hw', hbl⟩
          simp only [Act.put, List.setIfInBounds_toArray, List.set_cons_succ, List.set_cons_zero]
          apply bldm
          · rfl
          · rfl
          · exact fun w' hw' => rangeAt_below rQ hw' hgw
          simp only [Act.put, List.setIfInBounds_toArray, List.set_cons_succ, List.set_cons_zero]
          apply wpB_val
          · rfl
          · intro w' hw'
            go_simp
            exact (add_any _ _ (QQ_lt m) (HZ.out (m + 1)) _).mono fun e w'' ⟨he, hb'⟩ => ⟨he, hw'.trans (hb'.mono hw'.size), hb'⟩
          simp only [Act.put, List.setIfInBounds_toArray, List.set_cons_succ, List.set_cons_zero]
          refine wpB_nil fun c1 c2 w6 hcc hw6 q1 q2 hc1 hc2 => ?_
          have eM1 : (fun k => PP (zeroed m M F) m k ^^^ zeroed m M F m k) = mis m M F := by funext k; unfold mis; rw [zeroed_out (Nat.le_refl m)]
          have eW1 : (fun k => QQ (zeroed m M F) m k ^^^ zeroed m M F (m + 1) k) = wei m M F := by funext k; unfold wei; rw [zeroed_out (Nat.le_succ m)]
          rw [eM1, eW1]
          have hgs := g5.size
          clear eM1 eW1 rP rQ p1 p2 tm tm1
          simp only [Act.put, List.setIfInBounds_toArray, List.set_cons_succ, List.set_cons_zero, ptr]
          go_upto_region 12 with (first | ((with_reducible apply stx); rfl; rfl; exact q1) | ((with_reducible apply stx); rfl; rfl; exact q2.setRow_other hcc _))
          generalize hw7 : World.setRow (World.setRow w6 _ _) _ _ = w7
          have r1 : Blk w7 c1 32 (sec (mis m M F)) := by rw [← hw7]; exact (q1.setRow_same _).setRow_other (Ne.symm hcc) _
          have r2 : Blk w7 c2 32 (sec (wei m M F)) := by rw [← hw7]; exact (q2.setRow_other hcc _).setRow_same _
          have hd : Below w5.heap.size w6 w7 := by rw [← hw7]; exact below_setRow (below_setRow (Below.refl _ _) hc1 _) hc2 _
          have hd5 := hw6.trans hd
          have O7 := HID (OwnS.below O5.out hd5 (Nat.le_refl _))
          have G7 := HID (OwnI.below G5.out hd5 (Nat.le_refl _))
          have b7 := b5.below hd5 b5.lt
          have g7 : w.grownBy w7 (some g) := only_below g5 hd5 g5.size
          have hw7s : w5.heap.size ≤ w7.heap.size := hd5.size
          clear hw7 hd hd5 hw6 q1 q2 O5 G5 b5 g5
          have k0 := OwnI.cell G7.out (i := 0) (by simp)
          have k1 := OwnI.cell G7.out (i := 1) (by simp)
          go_upto_region 16 with (fail)
          have hml : ∀ k, mis m M F k < 256 := fun k => GfM.xor_lt (PP_lt (zeroed_lt HF.out) m k) (HF.out m k)
          have hwl : ∀ k, wei m M F k < 256 := fun k => GfM.xor_lt (QQ_lt m k) (HF.out (m + 1) k)
          go_wp2_with (first | ((with_reducible apply ld); rfl; exact r1) | ((with_reducible apply ld); rfl; exact r2))
          refine (two_any x y _ _ (by omega) (by omega) hxy hml hwl _).mono ?_
          rintro e w9 ⟨rfl, hb9⟩
          have O9 := HID (OwnS.below O7.out hb9 (Nat.le_refl _))
          have b9 := b7.below hb9 b7.lt
          have g9 : w.grownBy w9 (some g) := only_below g7 hb9 g7.size
          have tx : (x : Int) < (m : Int) + 2 := by omega
          have ty' : (y : Int) < (m : Int) + 2 := by omega
          clear O7 b7 g7 r1 r2 G7
          go_wp2_with (first | ((with_reducible apply sto (i := x)); (simp only [Nat.zero_add]; rfl); rfl; exact O9.out; omega; intro w8 o8 g8) | ((with_reducible apply sto (i := y)); (simp only [Nat.zero_add]; rfl); rfl; assumption; omega; intro w10 o10 g10))
          refine bodyPost_end (results_none Try.results49 _ _ _) rfl ?_
          exact ⟨rfl, o10.mono fun i k _ _ => by rw [HN.out], (b9.only g8 hne).only g10 hne, only_trans g9 (only_trans g8 g10)⟩
end Go.Proofs.Ytlbfjnddbdpdpaa
set_option maxRecDepth 100000
namespace Go.Proofs.Ytlbfjnddbdpdpaa
open Go.ChangeShapes Go.WideShapes Go.ChangeAt Go.RowKit
attribute [local go_sem] Gives
set_option maxRecDepth 100000 in
theorem mendP_false_false (B g m cap h : Nat) (F : Nat → Nat → Nat) (M : Nat → Bool) (hF : ∀ i k, F i k < 256) (h2 : m ≤ 62) (w : World) (ho : OwnS w B (.slice (some ⟨g, 0, none⟩) (m + 2) cap) (m + 2) F)
    (hM : Blk w h 107 (row 64 fun j => .bool (M j))) (eP : M m = false) (eQ : M (m + 1) = false) :
    Calls Try.prog 50 #[.slice (some ⟨g, 0, none⟩) (m + 2) cap, .func (.func 67) #[] #[.pointer (some ⟨h, 0, none⟩)]] w (MendPost w B g (m + 2) cap h (mendP m M F) M) := by
  have HF := hid hF
  have HO := hid ho
  have HM := hid hM
  obtain ⟨hg1, hg2, hg3⟩ := own_lt ho
  have hne := own_ne ho hM (by decide)
  have hh := hM.lt
  have HS : RowKit.Hid (Secs w w.heap.size (some ⟨g, 0, none⟩) m F) := hid fun _ => ⟨g, 0, rfl, hg1, fun i hi => own_range ho (by omega)⟩
  have HN : RowKit.Hid (mendP m M F = F) := hid (by funext i; unfold mendP; simp [eP, eQ])
  clear hF ho hM
  go_enter Try.func50, Try.ntmps50
  go_wp2_with fail
  refine (places_any (some ⟨g, 0, none⟩) m cap (by omega) _).mono ?_
  rintro e w' ⟨rfl, rfl⟩
  go_wp2_with fail
  refine (lost_any h m M (by omega) _ HM.out).mono ?_
  rintro e w' ⟨rfl, rfl⟩
  rw [eP]
  go_wp2_with fail
  refine (lost_succ h m M (by omega) _ HM.out).mono ?_
  rintro e w' ⟨rfl, rfl⟩
  rw [eQ]
  go_wp2_with fail
  refine bodyPost_ret (results_none Try.results50 _ _ _) rfl ?_
  exact ⟨rfl, by rw [HN.out]; exact HO.out, HM.out, only_refl _ _⟩
set_option maxRecDepth 100000 in
theorem mendP_false_true (B g m cap h : Nat) (F : Nat → Nat → Nat) (M : Nat → Bool) (hF : ∀ i k, F i k < 256) (h2 : m ≤ 62) (w : World) (ho : OwnS w B (.slice (some ⟨g, 0, none⟩) (m + 2) cap) (m + 2) F)
    (hM : Blk w h 107 (row 64 fun j => .bool (M j))) (eP : M m = false) (eQ : M (m + 1) = true) :
    Calls Try.prog 50 #[.slice (some ⟨g, 0, none⟩) (m + 2) cap, .func (.func 67) #[] #[.pointer (some ⟨h, 0, none⟩)]] w (MendPost w B g (m + 2) cap h (mendP m M F) M) := by
  have HF := hid hF
  have HO := hid ho
  have HM := hid hM
  obtain ⟨hg1, hg2, hg3⟩ := own_lt ho
  have hne := own_ne ho hM (by decide)
  have hh := hM.lt
  have HS : RowKit.Hid (Secs w w.heap.size (some ⟨g, 0, none⟩) m F) := hid fun _ => ⟨g, 0, rfl, hg1, fun i hi => own_range ho (by omega)⟩
  have HN : RowKit.Hid (∀ i k, i < m + 2 → k < 64 → mendP m M F i k = upd F (m + 1) (QQ F m) i k) := hid fun i k _ _ => by
    unfold mendP upd
    by_cases e1 : i = m
    · subst e1; simp [eP, eQ]
    · by_cases e2 : i = m + 1
      · subst e2; simp [eP, eQ]
      · simp [e1, e2]
  clear hF ho hM
  go_enter Try.func50, Try.ntmps50
  go_wp2_with fail
  refine (places_any (some ⟨g, 0, none⟩) m cap (by omega) _).mono ?_
  rintro e w' ⟨rfl, rfl⟩
  go_wp2_with fail
  refine (lost_any h m M (by omega) _ HM.out).mono ?_
  rintro e w' ⟨rfl, rfl⟩
  rw [eP]
  go_wp2_with fail
  refine (lost_succ h m M (by omega) _ HM.out).mono ?_
  rintro e w' ⟨rfl, rfl⟩
  rw [eQ]
  go_wp2_with fail
  refine (sums_any (some ⟨g, 0, none⟩) m cap F HF.out (by omega) _ HS.out).mono ?_
  rintro e w4 ⟨rfl, hb⟩
  have hs4 := hb.size
  have o4 := HO.out.below hb (Nat.le_refl _)
  have m4 := HM.out.below hb hh
  go_upto_region 3 with (first | ((with_reducible apply stx); rfl; rfl; exact (Blk.top zlit rfl).alloc _) | ((with_reducible apply stx); rfl; rfl; exact (Blk.top zlit (by simp)).setRow_other (by omega) _))
  generalize hw5 : World.setRow (World.setRow (World.alloc (World.alloc w4 _) _) _ _) _ _ = w5
  have p1 : Blk w5 w4.heap.size 32 (sec (PP F m)) := by rw [← hw5]; exact (((Blk.top zlit rfl).alloc _).setRow_same _).setRow_other (by omega) _
  have p2 : Blk w5 (w4.heap.size + 1) 32 (sec (QQ F m)) := by rw [← hw5]; exact ((Blk.top zlit (by simp)).setRow_other (by omega) _).setRow_same _
  have hc : Below w4.heap.size w4 w5 := by rw [← hw5]; exact below_setRow (below_setRow (((Below.refl _ _).alloc (Nat.le_refl _) _).alloc (by simp) _) (Nat.le_refl _) _) (by omega) _
  have o5 := HID (OwnS.below o4 hc (Nat.le_refl _))
  have m5 := m4.below hc m4.lt
  have g5 : w.grownBy w5 (some g) := only_below (only_refl w g) (hb.trans (hc.mono hs4)) (Nat.le_refl _)
  clear hw5 hc hb o4 m4
  go_wp2_with fail
  refine (lost_any h m M (by omega) _ m5).mono ?_
  rintro e w' ⟨rfl, rfl⟩
  rw [eP]
  go_wp2_with fail
  refine (lost_succ h m M (by omega) _ m5).mono ?_
  rintro e w' ⟨rfl, rfl⟩
  rw [eQ]
  have tm : (m : Int) + 1 < (m : Int) + 2 := by omega
  go_wp2_with (first | ((with_reducible apply ld); rfl; exact p2) | ((with_reducible apply sto (i := m + 1)); (simp only [Nat.zero_add]; rfl); rfl; exact o5.out; omega; intro w7 o7 g7))
  have m5 := m5.only g7 hne
  have g5 := only_trans g5 g7
  have o5 := HID o7
  clear o7 g7 tm
  go_wp2_with fail
  refine bodyPost_end (results_none Try.results50 _ _ _) rfl ?_
  exact ⟨rfl, o5.out.mono HN.out, m5, g5⟩
set_option maxRecDepth 100000 in
theorem mendP_true_false (B g m cap h : Nat) (F : Nat → Nat → Nat) (M : Nat → Bool) (hF : ∀ i k, F i k < 256) (h2 : m ≤ 62) (w : World) (ho : OwnS w B (.slice (some ⟨g, 0, none⟩) (m + 2) cap) (m + 2) F)
    (hM : Blk w h 107 (row 64 fun j => .bool (M j))) (eP : M m = true) (eQ : M (m + 1) = false) :
    Calls Try.prog 50 #[.slice (some ⟨g, 0, none⟩) (m + 2) cap, .func (.func 67) #[] #[.pointer (some ⟨h, 0, none⟩)]] w (MendPost w B g (m + 2) cap h (mendP m M F) M) := by
  have HF := hid hF
  have HO := hid ho
  have HM := hid hM
  obtain ⟨hg1, hg2, hg3⟩ := own_lt ho
  have hne := own_ne ho hM (by decide)
  have hh := hM.lt
  have HS : RowKit.Hid (Secs w w.heap.size (some ⟨g, 0, none⟩) m F) := hid fun _ => ⟨g, 0, rfl, hg1, fun i hi => own_range ho (by omega)⟩
  have HN : RowKit.Hid (∀ i k, i < m + 2 → k < 64 → mendP m M F i k = upd F m (PP F m) i k) := hid fun i k _ _ => by
    unfold mendP upd
    by_cases e1 : i = m
    · subst e1; simp [eP, eQ]
    · by_cases e2 : i = m + 1
      · subst e2; simp [eP, eQ]
      · simp [e1, e2]
  clear hF ho hM
  go_enter Try.func50, Try.ntmps50
  go_wp2_with fail
  refine (places_any (some ⟨g, 0, none⟩) m cap (by omega) _).mono ?_
  rintro e w' ⟨rfl, rfl⟩
  go_wp2_with fail
  refine (lost_any h m M (by omega) _ HM.out).mono ?_
  rintro e w' ⟨rfl, rfl⟩
  rw [eP]
  go_wp2_with fail
  refine (sums_any (some ⟨g, 0, none⟩) m cap F HF.out (by omega) _ HS.out).mono ?_
  rintro e w4 ⟨rfl, hb⟩
  have hs4 := hb.size
  have o4 := HO.out.below hb (Nat.le_refl _)
  have m4 := HM.out.below hb hh
  go_upto_region 3 with (first | ((with_reducible apply stx); rfl; rfl; exact (Blk.top zlit rfl).alloc _) | ((with_reducible apply stx); rfl; rfl; exact (Blk.top zlit (by simp)).setRow_other (by omega) _))
  generalize hw5 : World.setRow (World.setRow (World.alloc (World.alloc w4 _) _) _ _) _ _ = w5
  have p1 : Blk w5 w4.heap.size 32 (sec (PP F m)) := by rw [← hw5]; exact (((Blk.top zlit rfl).alloc _).setRow_same _).setRow_other (by omega) _
  have p2 : Blk w5 (w4.heap.size + 1) 32 (sec (QQ F m)) := by rw [← hw5]; exact ((Blk.top zlit (by simp)).setRow_other (by omega) _).setRow_same _
  have hc : Below w4.heap.size w4 w5 := by rw [← hw5]; exact below_setRow (below_setRow (((Below.refl _ _).alloc (Nat.le_refl _) _).alloc (by simp) _) (Nat.le_refl _) _) (by omega) _
  have o5 := HID (OwnS.below o4 hc (Nat.le_refl _))
  have m5 := m4.below hc m4.lt
  have g5 : w.grownBy w5 (some g) := only_below (only_refl w g) (hb.trans (hc.mono hs4)) (Nat.le_refl _)
  clear hw5 hc hb o4 m4
  go_wp2_with fail
  refine (lost_any h m M (by omega) _ m5).mono ?_
  rintro e w' ⟨rfl, rfl⟩
  rw [eP]
  have tm : (m : Int) < (m : Int) + 2 := by omega
  go_upto_region 5 with (first | ((with_reducible apply ld); rfl; exact p1) | ((with_reducible apply sto (i := m)); (simp only [Nat.zero_add]; rfl); rfl; exact o5.out; omega; intro w6 o6 g6))
  have p1 := p1.only g6 (by omega)
  have p2 := p2.only g6 (by omega)
  have m5 := m5.only g6 hne
  have g5 := only_trans g5 g6
  have o5 := HID o6
  clear o6 g6 tm
  go_wp2_with fail
  refine (lost_succ h m M (by omega) _ m5).mono ?_
  rintro e w' ⟨rfl, rfl⟩
  rw [eQ]
  go_wp2_with fail
  refine bodyPost_end (results_none Try.results50 _ _ _) rfl ?_
  exact ⟨rfl, o5.out.mono HN.out, m5, g5⟩
set_option maxRecDepth 100000 in
theorem mendP_true_true (B g m cap h : Nat) (F : Nat → Nat → Nat) (M : Nat → Bool) (hF : ∀ i k, F i k < 256) (h2 : m ≤ 62) (w : World) (ho : OwnS w B (.slice (some ⟨g, 0, none⟩) (m + 2) cap) (m + 2) F)
    (hM : Blk w h 107 (row 64 fun j => .bool (M j))) (eP : M m = true) (eQ : M (m + 1) = true) :
    Calls Try.prog 50 #[.slice (some ⟨g, 0, none⟩) (m + 2) cap, .func (.func 67) #[] #[.pointer (some ⟨h, 0, none⟩)]] w (MendPost w B g (m + 2) cap h (mendP m M F) M) := by
  have HF := hid hF
  have HO := hid ho
  have HM := hid hM
  obtain ⟨hg1, hg2, hg3⟩ := own_lt ho
  have hne := own_ne ho hM (by decide)
  have hh := hM.lt
  have HS : RowKit.Hid (Secs w w.heap.size (some ⟨g, 0, none⟩) m F) := hid fun _ => ⟨g, 0, rfl, hg1, fun i hi => own_range ho (by omega)⟩
  have HN : RowKit.Hid (∀ i k, i < m + 2 → k < 64 → mendP m M F i k = upd (upd F m (PP F m)) (m + 1) (QQ F m) i k) := hid fun i k _ _ => by
    unfold mendP upd
    by_cases e1 : i = m
    · subst e1; simp [eP, eQ]
    · by_cases e2 : i = m + 1
      · subst e2; simp [eP, eQ]
      · simp [e1, e2]
  clear hF ho hM
  go_enter Try.func50, Try.ntmps50
  go_wp2_with fail
  refine (places_any (some ⟨g, 0, none⟩) m cap (by omega) _).mono ?_
  rintro e w' ⟨rfl, rfl⟩
  go_wp2_with fail
  refine (lost_any h m M (by omega) _ HM.out).mono ?_
  rintro e w' ⟨rfl, rfl⟩
  rw [eP]
  go_wp2_with fail
  refine (sums_any (some ⟨g, 0, none⟩) m cap F HF.out (by omega) _ HS.out).mono ?_
  rintro e w4 ⟨rfl, hb⟩
  have hs4 := hb.size
  have o4 := HO.out.below hb (Nat.le_refl _)
  have m4 := HM.out.below hb hh
  go_upto_region 3 with (first | ((with_reducible apply stx); rfl; rfl; exact (Blk.top zlit rfl).alloc _) | ((with_reducible apply stx); rfl; rfl; exact (Blk.top zlit (by simp)).setRow_other (by omega) _))
  generalize hw5 : World.setRow (World.setRow (World.alloc (World.alloc w4 _) _) _ _) _ _ = w5
  have p1 : Blk w5 w4.heap.size 32 (sec (PP F m)) := by rw [← hw5]; exact (((Blk.top zlit rfl).alloc _).setRow_same _).setRow_other (by omega) _
  have p2 : Blk w5 (w4.heap.size + 1) 32 (sec (QQ F m)) := by rw [← hw5]; exact ((Blk.top zlit (by simp)).setRow_other (by omega) _).setRow_same _
  have hc : Below w4.heap.size w4 w5 := by rw [← hw5]; exact below_setRow (below_setRow (((Below.refl _ _).alloc (Nat.le_refl _) _).alloc (by simp) _) (Nat.le_refl _) _) (by omega) _
  have o5 := HID (OwnS.below o4 hc (Nat.le_refl _))
  have m5 := m4.below hc m4.lt
  have g5 : w.grownBy w5 (some g) := only_below (only_refl w g) (hb.trans (hc.mono hs4)) (Nat.le_refl _)
  clear hw5 hc hb o4 m4
  go_wp2_with fail
  refine (lost_any h m M (by omega) _ m5).mono ?_
  rintro e w' ⟨rfl, rfl⟩
  rw [eP]
  have tm : (m : Int) < (m : Int) + 2 := by omega
  go_upto_region 5 with (first | ((with_reducible apply ld); rfl; exact p1) | ((with_reducible apply sto (i := m)); (simp only [Nat.zero_add]; rfl); rfl; exact o5.out; omega; intro w6 o6 g6))
  have p1 := p1.only g6 (by omega)
  have p2 := p2.only g6 (by omega)
  have m5 := m5.only g6 hne
  have g5 := only_trans g5 g6
  have o5 := HID o6
  clear o6 g6 tm
  go_wp2_with fail
  refine (lost_succ h m M (by omega) _ m5).mono ?_
  rintro e w' ⟨rfl, rfl⟩
  rw [eQ]
  have tm : (m : Int) + 1 < (m : Int) + 2 := by omega
  go_wp2_with (first | ((with_reducible apply ld); rfl; exact p2) | ((with_reducible apply sto (i := m + 1)); (simp only [Nat.zero_add]; rfl); rfl; exact o5.out; omega; intro w7 o7 g7))
  have m5 := m5.only g7 hne
  have g5 := only_trans g5 g7
  have o5 := HID o7
  clear o7 g7 tm
  go_wp2_with fail
  refine bodyPost_end (results_none Try.results50 _ _ _) rfl ?_
  exact ⟨rfl, o5.out.mono HN.out, m5, g5⟩
theorem mendP_any (B g m cap h : Nat) (F : Nat → Nat → Nat) (M : Nat → Bool) (hF : ∀ i k, F i k < 256) (h2 : m ≤ 62) (w : World) (ho : OwnS w B (.slice (some ⟨g, 0, none⟩) (m + 2) cap) (m + 2) F)
    (hM : Blk w h 107 (row 64 fun j => .bool (M j))) :
    Calls Try.prog 50 #[.slice (some ⟨g, 0, none⟩) (m + 2) cap, .func (.func 67) #[] #[.pointer (some ⟨h, 0, none⟩)]] w (MendPost w B g (m + 2) cap h (mendP m M F) M) := by
  cases eP : M m with
  | false =>
    cases eQ : M (m + 1) with
    | false => exact mendP_false_false B g m cap h F M hF h2 w ho hM eP eQ
    | true => exact mendP_false_true B g m cap h F M hF h2 w ho hM eP eQ
  | true =>
    cases eQ : M (m + 1) with
    | false => exact mendP_true_false B g m cap h F M hF h2 w ho hM eP eQ
    | true => exact mendP_true_true B g m cap h F M hF h2 w ho hM eP eQ
end Go.Proofs.Ytlbfjnddbdpdpaa
set_option maxRecDepth 100000
namespace Go.Proofs.Ytlbfjnddbdpdpaa
open Go.ChangeShapes Go.WideShapes Go.ChangeAt Go.RowKit
attribute [local go_sem] Gives
theorem below_only {k g : Nat} {a b c : World} (h : Below k a b) (ho : b.grownBy c (some g)) (hg : k ≤ g) (hk : k ≤ b.heap.size) : Below k a c :=
  h.trans ⟨ho.os, ho.tape, ho.output, ho.size, fun i hi => ho.block i (by omega) (by intro e; injection e; omega)⟩
theorem gaps_cnt {m : Nat} {M : Nat → Bool} (h : m ≤ 62) : (gapsL m M).length ≤ cntM M := by
  unfold gapsL cntM
  rw [← List.countP_eq_length_filter]
  exact (List.range_sublist.2 (by omega)).countP_le
theorem upd_lt {F : Nat → Nat → Nat} {j : Nat} {f : Nat → Nat} (hF : ∀ i k, F i k < 256) (hf : ∀ k, f k < 256) : ∀ i k, upd F j f i k < 256 := fun i k => by
  unfold upd
  split
  · exact hf k
  · exact hF i k
theorem mis_lt {m : Nat} {M : Nat → Bool} {F : Nat → Nat → Nat} (hF : ∀ i k, F i k < 256) : ∀ k, mis m M F k < 256 := fun k => GfM.xor_lt (PP_lt (zeroed_lt hF) m k) (hF m k)
theorem wei_lt {m : Nat} {M : Nat → Bool} {F : Nat → Nat → Nat} (hF : ∀ i k, F i k < 256) : ∀ k, wei m M F k < 256 := fun k => GfM.xor_lt (QQ_lt m k) (hF (m + 1) k)
theorem twoX_lt {x y : Nat} {s q : Nat → Nat} : ∀ k, twoX x y s q k < 256 := fun k => GfM.mul_lt (GfM.inv_lt _)
theorem twoY_lt {x y : Nat} {s q : Nat → Nat} (hs : ∀ k, s k < 256) : ∀ k, twoY x y s q k < 256 := fun k => GfM.xor_lt (hs k) (twoX_lt k)
theorem mendD_lt {m : Nat} {M : Nat → Bool} {F : Nat → Nat → Nat} (hF : ∀ i k, F i k < 256) : ∀ i k, mendD m M F i k < 256 := by
  intro i k
  unfold mendD
  match gapsL m M with
  | [] => exact zeroed_lt hF i k
  | [x] =>
    refine upd_lt (zeroed_lt hF) ?_ i k
    split
    · exact fun k => GfM.mul_lt (pwI_lt _)
    · exact mis_lt hF
  | x :: y :: _ => exact upd_lt (upd_lt (zeroed_lt hF) twoX_lt) (twoY_lt (mis_lt hF)) i k
theorem anyOut_iff {N n : Nat} {L : Nat → Int} : anyOut N n L = false ↔ ∀ i, i < n → 0 ≤ L i ∧ L i < N := by
  constructor
  · intro h i hi
    have := List.any_eq_false.1 h i (List.mem_range.2 hi)
    simp [outB] at this
    omega
  · intro h
    exact anyOut_no fun i hi => by have := h i hi; simp [outB]; omega
def FixBad (E : Int) (w : World) (e : Ending) (w' : World) : Prop := e = .returned (.tuple #[.slice none 0 0, .int .i64 E]) ∧ Below w.heap.size w w'
set_option maxRecDepth 100000 in
theorem fix_few (A A' : Option Addr) (N cap n c : Nat) (h : N < 3) (w : World) :
    Calls Try.prog 32 #[.slice A N cap, .slice A' n c] w (FixBad 2 w) := by
  have hmf : ∀ (fn : Fn) (first cap : Array Value) (w : World), (Instr.makeFunc fn first cap).run Try.prog w = .ok (.func fn first cap) w := fun _ _ _ _ => rfl
  have hb := (Below.refl w.heap.size w).alloc (Nat.le_refl _) (.cells #[.slice A N cap] 53)
  go_enter Try.func32, Try.ntmps32
  go_wp2_with fail
  go_ret2
  exact ⟨rfl, hb⟩
section
variable (A A' : Option Addr) (N cap n c : Nat) (L : Nat → Int) (hn : n ≤ 1000000) (h3 : 3 ≤ N) (hN : N ≤ 1000000) (w : World) (hs : Ints w w.heap.size A' n L)
include hn h3 hN hs
set_option maxRecDepth 100000 in
theorem fix_out (hO : anyOut N n L = true) :
    Calls Try.prog 32 #[.slice A N cap, .slice A' n c] w (FixBad 2 w) := by
  have hmf : ∀ (fn : Fn) (first cap : Array Value) (w : World), (Instr.makeFunc fn first cap).run Try.prog w = .ok (.func fn first cap) w := fun _ _ _ _ => rfl
  have hb := (Below.refl w.heap.size w).alloc (Nat.le_refl _) (.cells #[.slice A N cap] 53)
  have hk : Blk (w.alloc (.cells #[.slice A N cap] 53)) w.heap.size 53 #[.slice A N cap] := Blk.new _ _ _
  have hc := contains_any A' A n c w.heap.size N cap L hn _ ((hs.below hb (Nat.le_refl _)).more hb.size) (by rw [hk.cell]; rfl)
  rw [hO] at hc
  go_enter Try.func32, Try.ntmps32
  go_wp2_with fail
  refine (hc).mono ?_
  rintro e w' ⟨rfl, rfl⟩
  go_wp2_with fail
  go_ret2
  exact ⟨rfl, hb⟩
variable (hO : anyOut N n L = false)
include hO
set_option maxRecDepth 100000 in
theorem fix_long (h64 : 64 < N) :
    Calls Try.prog 32 #[.slice A N cap, .slice A' n c] w (FixBad 3 w) := by
  have hmf : ∀ (fn : Fn) (first cap : Array Value) (w : World), (Instr.makeFunc fn first cap).run Try.prog w = .ok (.func fn first cap) w := fun _ _ _ _ => rfl
  have hb := (Below.refl w.heap.size w).alloc (Nat.le_refl _) (.cells #[.slice A N cap] 53)
  have hk : Blk (w.alloc (.cells #[.slice A N cap] 53)) w.heap.size 53 #[.slice A N cap] := Blk.new _ _ _
  have hcell : (w.alloc (.cells #[.slice A N cap] 53)).cell? ⟨w.heap.size, 0, none⟩ = some (.slice A N cap) := by rw [hk.cell]; rfl
  have hc := contains_any A' A n c w.heap.size N cap L hn _ ((hs.below hb (Nat.le_refl _)).more hb.size) hcell
  rw [hO] at hc
  go_enter Try.func32, Try.ntmps32
  go_wp2_with fail
  refine (hc).mono ?_
  rintro e w' ⟨rfl, rfl⟩
  go_wp2_with fail
  go_ret2
  exact ⟨rfl, hb⟩
variable (h64 : N ≤ 64)
include h64
set_option maxRecDepth 100000 in
theorem fix_full (hC : 2 < cntM (marks n L)) :
    Calls Try.prog 32 #[.slice A N cap, .slice A' n c] w (FixBad 7 w) := by
  have hmf : ∀ (fn : Fn) (first cap : Array Value) (w : World), (Instr.makeFunc fn first cap).run Try.prog w = .ok (.func fn first cap) w := fun _ _ _ _ => rfl
  have hb := (Below.refl w.heap.size w).alloc (Nat.le_refl _) (.cells #[.slice A N cap] 53)
  have hk : Blk (w.alloc (.cells #[.slice A N cap] 53)) w.heap.size 53 #[.slice A N cap] := Blk.new _ _ _
  have hcell : (w.alloc (.cells #[.slice A N cap] 53)).cell? ⟨w.heap.size, 0, none⟩ = some (.slice A N cap) := by rw [hk.cell]; rfl
  have hi := (hs.below hb (Nat.le_refl _)).more hb.size
  have hc := contains_any A' A n c w.heap.size N cap L hn _ hi hcell
  rw [hO] at hc
  have hf := finder_any A' n c L hn (fun i hi => by have := anyOut_iff.1 hO i hi; omega) _ hi
  have hle := cntM_le (marks n L)
  go_enter Try.func32, Try.ntmps32
  go_wp2_with fail
  refine (hc).mono ?_
  rintro e w' ⟨rfl, rfl⟩
  go_wp2_with fail
  refine hf.mono ?_
  rintro e w2 ⟨rfl, b2, hb2⟩
  have hb3 := hb.trans (hb2.mono hb.size)
  clear b2 hb2
  revert hC hle
  generalize cntM (marks n L) = K
  intro hC hle
  go_wp2_with fail
  go_ret2
  exact ⟨rfl, hb3⟩
end
set_option maxRecDepth 100000 in
theorem fix_ok (A A' : Option Addr) (m cap n c : Nat) (L : Nat → Int) (F : Nat → Nat → Nat) (hF : ∀ i k, F i k < 256) (hn : n ≤ 1000000) (h1 : 1 ≤ m) (h2 : m ≤ 62) (w : World) (hs : Ints w w.heap.size A' n L) (hS : Secs w w.heap.size A (m + 2) F)
    (hO : anyOut (m + 2) n L = false) (hC : cntM (marks n L) ≤ 2) :
    Calls Try.prog 32 #[.slice A (m + 2) cap, .slice A' n c] w fun e w' => ∃ g cap' : Nat, e = .returned (.tuple #[.slice (some ⟨g, 0, none⟩) (m + 2) cap', .int .i64 0]) ∧
      OwnS w' w.heap.size (.slice (some ⟨g, 0, none⟩) (m + 2) cap') (m + 2) (mendP m (marks n L) (mendD m (marks n L) F)) ∧ Below w.heap.size w w' := by
  have hmf : ∀ (fn : Fn) (first cap : Array Value) (w : World), (Instr.makeFunc fn first cap).run Try.prog w = .ok (.func fn first cap) w := fun _ _ _ _ => rfl
  obtain ⟨b, o, rfl, _, _⟩ := hS (by omega)
  have hb := (Below.refl w.heap.size w).alloc (Nat.le_refl _) (.cells #[.slice (some ⟨b, o, none⟩) (m + 2) cap] 53)
  have hk : Blk (w.alloc (.cells #[.slice (some ⟨b, o, none⟩) (m + 2) cap] 53)) w.heap.size 53 #[.slice (some ⟨b, o, none⟩) (m + 2) cap] := Blk.new _ _ _
  have hcell : (w.alloc (.cells #[.slice (some ⟨b, o, none⟩) (m + 2) cap] 53)).cell? ⟨w.heap.size, 0, none⟩ = some (.slice (some ⟨b, o, none⟩) (m + 2) cap) := by rw [hk.cell]; rfl
  have hi := (hs.below hb (Nat.le_refl _)).more hb.size
  have hS1 := (hS.below hb (Nat.le_refl _)).more hb.size
  have hc := contains_any A' (some ⟨b, o, none⟩) n c w.heap.size (m + 2) cap L hn _ hi hcell
  rw [hO] at hc
  have hf := finder_any A' n c L hn (fun i hi => by have := anyOut_iff.1 hO i hi; omega) _ hi
  have hG : (gapsL m (marks n L)).length ≤ 2 := Nat.le_trans (gaps_cnt h2) hC
  have HS1 := hid hS1
  have HF := hid hF
  clear hS hs hi hS1 hF hO
  revert hC hf hG
  unfold FinderPost
  generalize marks n L = M
  generalize cntM M = K
  intro hC hf hG
  have HG := hid hG
  clear hG
  generalize hw1 : World.alloc w _ = w1 at *
  go_enter Try.func32, Try.ntmps32
  go_wp2_with fail
  refine (hc).mono ?_
  rintro e w' ⟨rfl, rfl⟩
  go_wp2_with fail
  refine hf.mono ?_
  rintro e w2 ⟨rfl, b2, hb2⟩
  have hk2 := hk.below hb2 hk.lt
  have hcell2 : w2.cell? ⟨w.heap.size, 0, none⟩ = some (.slice (some ⟨b, o, none⟩) (m + 2) cap) := by rw [hk2.cell]; rfl
  have HM := HID b2
  have hd := hb.trans (hb2.mono hb.size)
  have HS2 := HID ((HS1.out.below hb2 (Nat.le_refl _)).more hb2.size)
  have hl2 := b2.lt
  have hs1 := hb.size
  have hs2 := hb2.size
  clear b2 hk2 hk hb2 hb hf hc HS1 hcell
  go_wp2_with fail
  refine (clone_any b o (m + 2) cap F (by omega) _ HS2.out).mono ?_
  rintro e w3 ⟨g, cap', rfl, own, hb3⟩
  have hM3 := HM.out.below hb3 HM.out.lt
  have hd3 := hd.trans (hb3.mono hd.size)
  obtain ⟨hg1, hg2, hg3⟩ := own_lt own
  clear HS2 HM hd hb3
  go_wp2_with fail
  refine (mendD_any w2.heap.size g m cap' w1.heap.size F M HF.out h1 h2 HG.out _ own hM3).mono ?_
  rintro e w4 ⟨rfl, own4, hM4, ho4⟩
  have hd4 := below_only hd3 ho4 (by omega) hd3.size
  go_wp2_with fail
  refine (mendP_any w2.heap.size g m cap' w1.heap.size (mendD m M F) M (mendD_lt HF.out) h2 _ own4 hM4).mono ?_
  rintro e w5 ⟨rfl, own5, _, ho5⟩
  have hd5 := below_only hd4 ho5 (by omega) hd4.size
  go_wp2_with fail
  go_ret2
  exact ⟨_, _, rfl, World.ownsRow.mono own5 (by omega), hd5⟩
end Go.Proofs.Ytlbfjnddbdpdpaa
set_option maxRecDepth 100000
namespace Go.Proofs.Ytlbfjnddbdpdpaa
open Go.ChangeShapes Go.WideShapes Go.ChangeAt Go.RowKit
attribute [local go_sem] Gives eqg_sec
attribute [local go_sem high] run_eql_sec run_neq_sec
def atN (i : Int) (n : Nat) : Nat := (i % (n : Int)).toNat
theorem atN_lt {i : Int} {n : Nat} (h : 1 ≤ n) : atN i n < n := by
  unfold atN
  have := Int.emod_lt_of_pos i (b := n) (by omega)
  have := Int.emod_nonneg i (b := n) (by omega)
  omega
def pairF (f g : Nat → Nat) : Nat → Nat → Nat := fun i => [f, g].getD i fun _ => 0
def rowF (m : Nat) (F : Nat → Nat → Nat) : Nat → Nat → Nat := fun i => if i < m then F i else if i = m then PP F m else QQ F m
end Go.Proofs.Ytlbfjnddbdpdpaa
set_option maxRecDepth 100000
namespace Go.Proofs.Ytlbfjnddbdpdpaa
theorem xrc (a b c : Nat) : (a ^^^ b) ^^^ c = (a ^^^ c) ^^^ b := by rw [Nat.xor_assoc, Nat.xor_comm b c, ← Nat.xor_assoc]
theorem xcan (a b : Nat) : (a ^^^ b) ^^^ b = a := by rw [Nat.xor_assoc, Nat.xor_self, Nat.xor_zero]
theorem xcan2 (a b : Nat) : (a ^^^ b) ^^^ a = b := by rw [xrc, Nat.xor_self, Nat.zero_xor]
theorem xcan3 (p b c : Nat) : ((p ^^^ b) ^^^ c) ^^^ p = b ^^^ c := by rw [xrc, xcan2]
theorem PP_same {Z F : Nat → Nat → Nat} {k : Nat} : ∀ m, (∀ i, i < m → Z i k = F i k) → PP Z m k = PP F m k
  | 0, _ => rfl
  | m + 1, h => by unfold PP; rw [PP_same m fun i hi => h i (by omega), h m (by omega)]
theorem QQ_same {Z F : Nat → Nat → Nat} {k : Nat} : ∀ m, (∀ i, i < m → Z i k = F i k) → QQ Z m k = QQ F m k
  | 0, _ => rfl
  | m + 1, h => by unfold QQ; rw [QQ_same m fun i hi => h i (by omega), h m (by omega)]
theorem PP_off {Z F : Nat → Nat → Nat} {k x : Nat} : ∀ m, x < m → (∀ i, i < m → i ≠ x → Z i k = F i k) → PP Z m k ^^^ Z x k = PP F m k ^^^ F x k
  | 0, h, _ => by omega
  | m + 1, h, he => by
    unfold PP
    by_cases e : x = m
    · subst e
      rw [xcan, xcan]
      exact PP_same x fun i hi => he i (by omega) (by omega)
    · rw [xrc, xrc _ (F m k), PP_off m (by omega) fun i hi hx => he i (by omega) hx, he m (by omega) (Ne.symm e)]
theorem QQ_off {Z F : Nat → Nat → Nat} {k x : Nat} : ∀ m, x < m → (∀ i, i < m → i ≠ x → Z i k = F i k) → QQ Z m k ^^^ GfM.mul (GfM.pw x) (Z x k) = QQ F m k ^^^ GfM.mul (GfM.pw x) (F x k)
  | 0, h, _ => by omega
  | m + 1, h, he => by
    unfold QQ
    by_cases e : x = m
    · subst e
      rw [xcan, xcan]
      exact QQ_same x fun i hi => he i (by omega) (by omega)
    · rw [xrc, xrc _ (GfM.mul (GfM.pw m) (F m k)), QQ_off m (by omega) fun i hi hx => he i (by omega) hx, he m (by omega) (Ne.symm e)]
theorem PP_one {Z F : Nat → Nat → Nat} {k x m : Nat} (hx : x < m) (h : ∀ i, i < m → i ≠ x → Z i k = F i k) (h0 : Z x k = 0) : PP Z m k = PP F m k ^^^ F x k := by
  have := PP_off m hx h
  rwa [h0, Nat.xor_zero] at this
theorem QQ_one {Z F : Nat → Nat → Nat} {k x m : Nat} (hx : x < m) (h : ∀ i, i < m → i ≠ x → Z i k = F i k) (h0 : Z x k = 0) : QQ Z m k = QQ F m k ^^^ GfM.mul (GfM.pw x) (F x k) := by
  have := QQ_off m hx h
  rwa [h0, GfM.mul_zero, Nat.xor_zero] at this
theorem PP_two {Z F : Nat → Nat → Nat} {k x y m : Nat} (hx : x < m) (hy : y < m) (hxy : x ≠ y) (h : ∀ i, i < m → i ≠ x → i ≠ y → Z i k = F i k) (h0 : Z x k = 0) (h1 : Z y k = 0) : PP Z m k = (PP F m k ^^^ F y k) ^^^ F x k := by
  have e1 := PP_one (Z := Z) (F := fun i => if i = x then F x else Z i) (k := k) hx (fun i _ hi => by simp [hi]) h0
  have e2 := PP_one (Z := fun i => if i = x then F x else Z i) (F := F) (k := k) (x := y) hy (fun i hi hiy => by
    by_cases e : i = x
    · subst e; simp
    · simp [e]; exact h i hi e hiy) (by simp [Ne.symm hxy, h1])
  rw [e1, e2]; simp
theorem QQ_two {Z F : Nat → Nat → Nat} {k x y m : Nat} (hx : x < m) (hy : y < m) (hxy : x ≠ y) (h : ∀ i, i < m → i ≠ x → i ≠ y → Z i k = F i k) (h0 : Z x k = 0) (h1 : Z y k = 0) :
    QQ Z m k = (QQ F m k ^^^ GfM.mul (GfM.pw y) (F y k)) ^^^ GfM.mul (GfM.pw x) (F x k) := by
  have e1 := QQ_one (Z := Z) (F := fun i => if i = x then F x else Z i) (k := k) hx (fun i _ hi => by simp [hi]) h0
  have e2 := QQ_one (Z := fun i => if i = x then F x else Z i) (F := F) (k := k) (x := y) hy (fun i hi hiy => by
    by_cases e : i = x
    · subst e; simp
    · simp [e]; exact h i hi e hiy) (by simp [Ne.symm hxy, h1])
  rw [e1, e2]; simp
/-! ### How many are lost -/
theorem cnt_list : ∀ l : List Nat, l.Nodup → (∀ x, x ∈ l → x < 64) → (List.range 64).countP (fun j => decide (j ∈ l)) = l.length
  | [], _, _ => by simp
  | x :: l, hn, h => by
    obtain ⟨h1, h2⟩ := List.nodup_cons.1 hn
    have ih := cnt_list l h2 fun y hy => h y (List.mem_cons_of_mem _ hy)
    have := countP_one (l := List.range 64) (i := x) (p := fun j => decide (j ∈ x :: l)) (q := fun j => decide (j ∈ l)) (by simp) (by simp [h1]) (fun j hj => by simp [hj]) List.nodup_range (List.mem_range.2 (h x (List.mem_cons_self ..)))
    rw [← this, ih]; rfl
theorem cnt_ge {M : Nat → Bool} (l : List Nat) (hn : l.Nodup) (h : ∀ x, x ∈ l → x < 64 ∧ M x = true) : l.length ≤ cntM M := by
  rw [← cnt_list l hn fun x hx => (h x hx).1]
  exact List.countP_mono_left fun x _ hx => (h x (by simpa using hx)).2
theorem cnt_le {M : Nat → Bool} (l : List Nat) (h : ∀ x, M x = true → x ∈ l) : cntM M ≤ l.length := by
  have : ∀ l : List Nat, (List.range 64).countP (fun j => decide (j ∈ l)) ≤ l.length := by
    intro l
    induction l with
    | nil => simp
    | cons x l ih =>
      by_cases hx : x ∈ l
      · refine Nat.le_trans (List.countP_mono_left fun y _ hy => ?_) (Nat.le_succ_of_le ih)
        simp at hy ⊢
        rcases hy with rfl | hy
        · exact hx
        · exact hy
      · by_cases h64 : x < 64
        · have := countP_one (l := List.range 64) (i := x) (p := fun j => decide (j ∈ x :: l)) (q := fun j => decide (j ∈ l)) (by simp) (by simp [hx]) (fun j hj => by simp [hj]) List.nodup_range (List.mem_range.2 h64)
          rw [← this]; simpa using ih
        · refine Nat.le_trans (List.countP_mono_left fun y hy1 hy => ?_) (Nat.le_succ_of_le ih)
          have := List.mem_range.1 hy1
          simp at hy ⊢
          rcases hy with rfl | hy
          · omega
          · exact hy
  exact Nat.le_trans (List.countP_mono_left fun x _ hx => by simpa using h x hx) (this l)
/-! ### They come back -/
theorem gaps_mem {m x : Nat} {M : Nat → Bool} : x ∈ gapsL m M ↔ x < m ∧ M x = true := by unfold gapsL; rw [List.mem_filter, List.mem_range]
theorem zeroed_at {m i : Nat} {M : Nat → Bool} {G : Nat → Nat → Nat} (h1 : i < m) (h2 : M i = true) (k : Nat) : zeroed m M G i k = 0 := by unfold zeroed; simp [h1, h2]
theorem zeroed_not {m i : Nat} {M : Nat → Bool} {G : Nat → Nat → Nat} (h2 : M i = false) : zeroed m M G i = G i := by unfold zeroed; simp [h2]
theorem single_back {x q : Nat} (hq : q < 256) : GfM.mul (pwI (-(x : Int))) (GfM.mul (GfM.pw x) q) = q := by
  rw [← GfM.mul_assoc (pwI_lt _) (GfM.pw_lt _) hq, ← pwI_nat, ← pwI_add]
  have : pwI (-(x : Int) + (x : Int)) = 1 := by rw [show -(x : Int) + (x : Int) = 0 by omega]; decide +kernel
  rw [this, GfM.one_mul hq]
theorem two_back {x y a b : Nat} (hx : x < 255) (hy : y < 255) (hxy : x ≠ y) (ha : a < 256) (hb : b < 256) :
    GfM.mul (GfM.inv (GfM.pw x ^^^ GfM.pw y)) ((GfM.mul (GfM.pw y) b ^^^ GfM.mul (GfM.pw x) a) ^^^ GfM.mul (GfM.pw y) (b ^^^ a)) = a := by
  have hl := GfM.xor_lt (GfM.pw_lt x) (GfM.pw_lt y)
  have e : (GfM.mul (GfM.pw y) b ^^^ GfM.mul (GfM.pw x) a) ^^^ GfM.mul (GfM.pw y) (b ^^^ a) = GfM.mul (GfM.pw x ^^^ GfM.pw y) a := by
    rw [GfM.mul_xor_right (b := b) (b' := a), ← Nat.xor_assoc, xcan2, GfM.mul_xor_left (GfM.pw_lt _) (GfM.pw_lt _)]
  rw [e, ← GfM.mul_assoc (GfM.inv_lt _) hl ha, GfM.inv_mul hl (pw_apart hx hy hxy), GfM.one_mul ha]
theorem back_data {m : Nat} {M : Nat → Bool} {F G : Nat → Nat → Nat} (h2 : m ≤ 62) (hF : ∀ i k, F i k < 256) (hc : cntM M ≤ 2) {k : Nat}
    (hG : ∀ i, i < m + 2 → M i = false → G i k = rowF m F i k) : ∀ i, i < m → mendD m M G i k = F i k := by
  have hrow : ∀ i, i < m → rowF m F i k = F i k := fun i hi => by unfold rowF; simp [hi]
  have hP : rowF m F m k = PP F m k := by unfold rowF; simp
  have hQ : rowF m F (m + 1) k = QQ F m k := by unfold rowF; simp [show ¬ m + 1 < m by omega]
  have hnd : (gapsL m M).Nodup := List.nodup_range.filter _
  have hmem : ∀ x, x ∈ gapsL m M ↔ x < m ∧ M x = true := fun x => gaps_mem
  have hlen : (gapsL m M).length ≤ 2 := Nat.le_trans (gaps_cnt h2) hc
  intro i hi
  unfold mendD
  revert hnd hmem hlen
  match gapsL m M with
  | [] =>
    intro _ hmem _
    have : M i = false := by
      cases e : M i with
      | false => rfl
      | true => exact absurd ((hmem i).2 ⟨hi, e⟩) (by simp)
    show zeroed m M G i k = _
    rw [zeroed_not this, hG i (by omega) this, hrow i hi]
  | [x] =>
    intro _ hmem _
    obtain ⟨hx, hMx⟩ := (hmem x).1 (List.mem_cons_self ..)
    have hoff : ∀ j, j < m → j ≠ x → M j = false := fun j hj hne => by
      cases e : M j with
      | false => rfl
      | true => exact absurd ((hmem j).2 ⟨hj, e⟩) (by simpa using hne)
    have hz : ∀ j, j < m → j ≠ x → zeroed m M G j k = F j k := fun j hj hne => by rw [zeroed_not (hoff j hj hne), hG j (by omega) (hoff j hj hne), hrow j hj]
    show upd (zeroed m M G) x _ i k = _
    by_cases e : i = x
    · subst e
      rw [upd_self]
      cases eM : M m with
      | false =>
        simp only [Bool.false_eq_true, if_false]
        unfold mis
        rw [PP_one hx hz (zeroed_at hx hMx k), hG m (by omega) eM, hP, xcan2]
      | true =>
        have eQ : M (m + 1) = false := by
          cases e : M (m + 1) with
          | false => rfl
          | true =>
            have := cnt_ge [i, m, m + 1] (by simp; omega) (fun z hz => by
              simp at hz
              rcases hz with rfl | rfl | rfl
              · exact ⟨by omega, hMx⟩
              · exact ⟨by omega, eM⟩
              · exact ⟨by omega, e⟩)
            simp at this; omega
        simp only [if_true]
        unfold wei
        rw [QQ_one hx hz (zeroed_at hx hMx k), hG (m + 1) (by omega) eQ, hQ, xcan2, single_back (hF i k)]
    · rw [upd_ne e, hz i hi e]
  | [x, y] =>
    intro hnd hmem _
    have hxy : x ≠ y := fun e => by subst e; simp at hnd
    obtain ⟨hx, hMx⟩ := (hmem x).1 (List.mem_cons_self ..)
    obtain ⟨hy, hMy⟩ := (hmem y).1 (by simp)
    have hoff : ∀ j, j < m → j ≠ x → j ≠ y → M j = false := fun j hj hne hne' => by
      cases e : M j with
      | false => rfl
      | true => exact absurd ((hmem j).2 ⟨hj, e⟩) (by simp; exact ⟨hne, hne'⟩)
    have hz : ∀ j, j < m → j ≠ x → j ≠ y → zeroed m M G j k = F j k := fun j hj hne hne' => by rw [zeroed_not (hoff j hj hne hne'), hG j (by omega) (hoff j hj hne hne'), hrow j hj]
    have hno : ∀ j, m ≤ j → j < m + 2 → M j = false := fun j h1 h3 => by
      cases e : M j with
      | false => rfl
      | true =>
        have := cnt_ge [x, y, j] (by simp; omega) (fun z hz => by
          simp at hz
          rcases hz with rfl | rfl | rfl
          · exact ⟨by omega, hMx⟩
          · exact ⟨by omega, hMy⟩
          · exact ⟨by omega, e⟩)
        simp at this; omega
    have em : mis m M G k = F y k ^^^ F x k := by
      unfold mis
      rw [PP_two hx hy hxy hz (zeroed_at hx hMx k) (zeroed_at hy hMy k), hG m (by omega) (hno m (by omega) (by omega)), hP, xcan3]
    have ew : wei m M G k = GfM.mul (GfM.pw y) (F y k) ^^^ GfM.mul (GfM.pw x) (F x k) := by
      unfold wei
      rw [QQ_two hx hy hxy hz (zeroed_at hx hMx k) (zeroed_at hy hMy k), hG (m + 1) (by omega) (hno (m + 1) (by omega) (by omega)), hQ, xcan3]
    have eX : twoX x y (mis m M G) (wei m M G) k = F x k := by
      unfold twoX
      rw [em, ew, two_back (by omega) (by omega) hxy (hF x k) (hF y k)]
    show upd (upd (zeroed m M G) x _) y _ i k = _
    by_cases e : i = y
    · subst e
      rw [upd_self]
      unfold twoY
      rw [eX, em, xcan]
    · rw [upd_ne e]
      by_cases e' : i = x
      · subst e'; rw [upd_self, eX]
      · rw [upd_ne e', hz i hi e' e]
  | x :: y :: z :: t =>
    intro _ _ h
    simp at h
theorem mendD_out {m i : Nat} {M : Nat → Bool} {G : Nat → Nat → Nat} (h : m ≤ i) : mendD m M G i = G i := by
  unfold mendD
  have hmem : ∀ x, x ∈ gapsL m M → x ≠ i := fun x hx => by have := (gaps_mem.1 hx).1; omega
  revert hmem
  match gapsL m M with
  | [] => intro _; exact zeroed_out h
  | [x] => intro hm; show upd _ _ _ _ = _; rw [upd_ne (Ne.symm (hm x (by simp))), zeroed_out h]
  | x :: y :: t => intro hm; show upd (upd _ _ _) _ _ _ = _; rw [upd_ne (Ne.symm (hm y (by simp))), upd_ne (Ne.symm (hm x (by simp))), zeroed_out h]
theorem back {m : Nat} {M : Nat → Bool} {F G : Nat → Nat → Nat} (h2 : m ≤ 62) (hF : ∀ i k, F i k < 256) (hc : cntM M ≤ 2) {k : Nat}
    (hG : ∀ i, i < m + 2 → M i = false → G i k = rowF m F i k) : ∀ i, i < m + 2 → mendP m M (mendD m M G) i k = rowF m F i k := by
  have hd := back_data h2 hF hc hG
  intro i hi
  unfold mendP
  by_cases h1 : i = m ∧ M m = true
  · obtain ⟨rfl, hM⟩ := h1
    rw [if_pos ⟨rfl, hM⟩, PP_same i hd]
    unfold rowF; simp
  · rw [if_neg h1]
    by_cases h3 : i = m + 1 ∧ M (m + 1) = true
    · obtain ⟨rfl, hM⟩ := h3
      rw [if_pos ⟨rfl, hM⟩, QQ_same m hd]
      unfold rowF; simp [show ¬ m + 1 < m by omega]
    · rw [if_neg h3]
      by_cases h4 : i < m
      · rw [hd i h4]; unfold rowF; simp [h4]
      · rw [mendD_out (by omega)]
        refine hG i hi ?_
        cases e : M i with
        | false => rfl
        | true =>
          exfalso
          by_cases h5 : i = m
          · subst h5; exact h1 ⟨rfl, e⟩
          · obtain rfl : i = m + 1 := by omega
            exact h3 ⟨rfl, e⟩
theorem rowF_lt {m : Nat} {F : Nat → Nat → Nat} (hF : ∀ i k, F i k < 256) : ∀ i k, rowF m F i k < 256 := fun i k => by
  unfold rowF
  split
  · exact hF i k
  · split
    · exact PP_lt hF m k
    · exact QQ_lt m k
theorem rowF_P {m k : Nat} {F : Nat → Nat → Nat} : PP (rowF m F) m k = PP F m k := PP_same m fun i hi => by unfold rowF; simp [hi]
theorem rowF_Q {m k : Nat} {F : Nat → Nat → Nat} : QQ (rowF m F) m k = QQ F m k := QQ_same m fun i hi => by unfold rowF; simp [hi]
theorem rowF_right {m : Nat} {F : Nat → Nat → Nat} : rightB m (rowF m F) = true := by
  unfold rightB
  rw [eqS_yes fun k _ => ?_, eqS_yes fun k _ => ?_]
  · rfl
  · rw [rowF_Q]; unfold rowF; simp [show ¬ m + 1 < m by omega]
  · rw [rowF_P]; unfold rowF; simp
theorem row_of_right {m : Nat} {T : Nat → Nat → Nat} (h : rightB m T = true) : ∀ i, i < m + 2 → ∀ k, k < 64 → T i k = rowF m T i k := by
  unfold rightB at h
  rw [Bool.and_eq_true] at h
  have h1 := eqS_iff.1 h.1
  have h2 := eqS_iff.1 h.2
  intro i hi k hk
  unfold rowF
  by_cases e : i < m
  · simp [e]
  · by_cases e2 : i = m
    · subst e2; simp [h1 k hk]
    · obtain rfl : i = m + 1 := by omega
      simp [show ¬ m + 1 < m by omega, h2 k hk]
theorem right_of_same {m : Nat} {T F : Nat → Nat → Nat} (h : ∀ i, i < m + 2 → ∀ k, k < 64 → T i k = rowF m F i k) : rightB m T = true := by
  unfold rightB
  rw [eqS_yes fun k hk => ?_, eqS_yes fun k hk => ?_]
  · rfl
  · rw [h (m + 1) (by omega) k hk, QQ_same m fun i hi => (h i (by omega) k hk), rowF_Q]; unfold rowF; simp [show ¬ m + 1 < m by omega]
  · rw [h m (by omega) k hk, PP_same m fun i hi => (h i (by omega) k hk), rowF_P]; unfold rowF; simp
theorem marks2_cnt (x y : Nat) : cntM (fun j => j == x || j == y) ≤ 2 := cnt_le [x, y] fun j hj => by simpa using hj
/-- A row that is a right one off two columns is right only when it is that one. -/
theorem told {m x y : Nat} {T F : Nat → Nat → Nat} (h2 : m ≤ 62) (hF : ∀ i k, F i k < 256) (hT : ∀ i k, T i k < 256) (h : ∀ i, i < m + 2 → i ≠ x → i ≠ y → ∀ k, k < 64 → T i k = rowF m F i k) : rightB m T = allS (m + 2) T (rowF m F) := by
  cases e : allS (m + 2) T (rowF m F) with
  | true => exact right_of_same (allS_iff.1 e)
  | false =>
    cases e2 : rightB m T with
    | false => rfl
    | true =>
      have hr := row_of_right e2
      have : allS (m + 2) T (rowF m F) = true := allS_yes fun i hi k hk => by
        have b1 := back (M := fun j => j == x || j == y) (F := T) (G := T) (k := k) h2 hT (marks2_cnt x y) (fun i hi _ => hr i hi k hk) i hi
        have b2 := back (M := fun j => j == x || j == y) (F := F) (G := T) (k := k) h2 hF (marks2_cnt x y) (fun i hi hM => by simp at hM; exact h i hi hM.1 hM.2 k hk) i hi
        rw [hr i hi k hk, ← b1, b2]
      rw [this] at e; cases e
end Go.Proofs.Ytlbfjnddbdpdpaa
set_option maxRecDepth 100000
namespace Go.Proofs.Ytlbfjnddbdpdpaa
open Go.ChangeShapes Go.WideShapes Go.ChangeAt Go.RowKit
/-- The marks of a list. -/
def mk (l : List Int) : Nat → Bool := marks l.length fun i => l.getD i 0
theorem mk_iff {l : List Int} {j : Nat} : mk l j = true ↔ (j : Int) ∈ l := by
  unfold mk
  rw [marks_iff]
  constructor
  · rintro ⟨i, hi, h⟩
    rw [← h, List.getD_eq_getElem?_getD, List.getElem?_eq_getElem hi]
    exact List.getElem_mem _
  · intro h
    obtain ⟨i, hi, e⟩ := List.mem_iff_getElem.1 h
    exact ⟨i, hi, by rw [List.getD_eq_getElem?_getD, List.getElem?_eq_getElem hi]; exact e⟩
theorem cnt_uniq {l : List Int} {N : Nat} (hN : N ≤ 64) (h : ∀ x, x ∈ l → 0 ≤ x ∧ x < N) : cntM (mk l) = (uniq l).length := by
  refine Nat.le_antisymm ?_ ?_
  · have := cnt_le (M := mk l) ((uniq l).map Int.toNat) fun x hx => List.mem_map.2 ⟨(x : Int), mem_uniq.2 (mk_iff.1 hx), by simp⟩
    rwa [List.length_map] at this
  · have := cnt_ge (M := mk l) ((uniq l).map Int.toNat) (List.pairwise_map.2 ((uniq_up l).imp_of_mem fun {a b} ha hb hab => by
      have := h a (mem_uniq.1 ha)
      omega)) fun x hx => by
        obtain ⟨y, hy, rfl⟩ := List.mem_map.1 hx
        have hy' := mem_uniq.1 hy
        have := h y hy'
        exact ⟨by omega, mk_iff.2 (by rw [Int.toNat_of_nonneg this.1]; exact hy')⟩
    rwa [List.length_map] at this
/-- The data columns that are lost, rising. -/
theorem gaps_uniq {l : List Int} {m : Nat} (h : ∀ x, x ∈ l → 0 ≤ x) : (gapsL m (mk l)).map (fun x : Nat => (x : Int)) = (uniq l).filter fun x => decide (x < (m : Int)) := by
  refine up_same ?_ ((uniq_up l).filter _) fun z => ?_
  · refine List.pairwise_map.2 ?_
    unfold gapsL
    exact (List.pairwise_lt_range.filter _).imp fun {a b} hab => by omega
  · rw [List.mem_map, List.mem_filter, mem_uniq]
    constructor
    · rintro ⟨x, hx, rfl⟩
      have := gaps_mem.1 hx
      exact ⟨mk_iff.1 this.2, by simpa using this.1⟩
    · rintro ⟨h1, h2⟩
      have := h z h1
      have h2' : z < (m : Int) := by simpa using h2
      exact ⟨z.toNat, gaps_mem.2 ⟨by omega, mk_iff.2 (by rw [Int.toNat_of_nonneg this]; exact h1)⟩, Int.toNat_of_nonneg this⟩
/-- In a rising list the first is the least, the last the greatest. -/
theorem up_first {u : List Int} (hu : u.Pairwise (· < ·)) {x : Int} (hx : x ∈ u) : u.getD 0 0 ≤ x := by
  match u, hu, hx with
  | y :: t, hu, hx =>
    rcases List.mem_cons.1 hx with rfl | hx
    · simp
    · have := (List.pairwise_cons.1 hu).1 x hx
      simp; omega
theorem up_last : ∀ {u : List Int}, u.Pairwise (· < ·) → ∀ {x : Int}, x ∈ u → x ≤ u.getD (u.length - 1) 0
  | [y], _, x, hx => by simp at hx; subst hx; simp
  | y :: z :: t, hu, x, hx => by
    have hu' := List.pairwise_cons.1 hu
    have hl := up_last hu'.2 (x := z) (by simp)
    have e : (y :: z :: t).getD ((y :: z :: t).length - 1) 0 = (z :: t).getD ((z :: t).length - 1) 0 := by simp
    rw [e]
    rcases List.mem_cons.1 hx with rfl | hx
    · have := hu'.1 z (by simp); omega
    · exact up_last hu'.2 hx
/-- The document's test for a number that is no column's. -/
theorem out_iff {l : List Int} {N : Nat} : anyOut N l.length (fun i => l.getD i 0) = true ↔ 0 < (uniq l).length ∧ ((uniq l).getD 0 0 < 0 ∨ (N : Int) ≤ (uniq l).getD ((uniq l).length - 1) 0) := by
  have key : anyOut N l.length (fun i => l.getD i 0) = true ↔ ∃ x, x ∈ l ∧ (x < 0 ∨ (N : Int) ≤ x) := by
    unfold anyOut
    rw [List.any_eq_true]
    constructor
    · rintro ⟨i, hi, h⟩
      have hi := List.mem_range.1 hi
      refine ⟨l.getD i 0, ?_, by simpa [outB] using h⟩
      rw [List.getD_eq_getElem?_getD, List.getElem?_eq_getElem hi]
      exact List.getElem_mem _
    · rintro ⟨x, hx, h⟩
      obtain ⟨i, hi, e⟩ := List.mem_iff_getElem.1 hx
      refine ⟨i, List.mem_range.2 hi, ?_⟩
      have e' : l.getD i 0 = x := by rw [List.getD_eq_getElem?_getD, List.getElem?_eq_getElem hi]; exact e
      show outB N (l.getD i 0) = true
      rw [e']
      simpa [outB] using h
  rw [key]
  constructor
  · rintro ⟨x, hx, h⟩
    have hu := mem_uniq.2 hx
    have h1 := up_first (uniq_up l) hu
    have h2 := up_last (uniq_up l) hu
    exact ⟨List.length_pos_of_mem hu, by omega⟩
  · rintro ⟨h0, h | h⟩
    · refine ⟨_, mem_uniq.1 (?_ : (uniq l).getD 0 0 ∈ uniq l), .inl h⟩
      rw [List.getD_eq_getElem?_getD, List.getElem?_eq_getElem h0]
      exact List.getElem_mem _
    · refine ⟨_, mem_uniq.1 (?_ : (uniq l).getD ((uniq l).length - 1) 0 ∈ uniq l), .inr h⟩
      rw [List.getD_eq_getElem?_getD, List.getElem?_eq_getElem (by omega)]
      exact List.getElem_mem _
end Go.Proofs.Ytlbfjnddbdpdpaa
set_option maxRecDepth 100000
namespace Go.Proofs.Ytlbfjnddbdpdpaa
open Go.ChangeShapes Go.WideShapes Go.ChangeAt Go.RowKit
attribute [local go_sem] Gives
/-- The byte with 2 to the x times it being q. -/
def sing (x q : Nat) : Nat := GfM.mul (pwI (-(x : Int))) q
theorem sing_lt {x q : Nat} : sing x q < 256 := GfM.mul_lt (pwI_lt _)
theorem sing_is {x q : Nat} (hq : q < 256) : GfM.mul (GfM.pw x) (sing x q) = q := by
  unfold sing
  rw [← GfM.mul_assoc (GfM.pw_lt _) (pwI_lt _) hq, ← pwI_nat, ← pwI_add]
  have : pwI ((x : Int) + -(x : Int)) = 1 := by rw [show (x : Int) + -(x : Int) = 0 by omega]; decide +kernel
  rw [this, GfM.one_mul hq]
theorem sing_only {x q j : Nat} (hj : j < 256) (h : GfM.mul (GfM.pw x) j = q) : j = sing x q := by
  rw [← h]; exact (single_back hj).symm
set_option maxRecDepth 100000 in
theorem rsingle_any (q x : Nat) (hq : q < 256) (w : World) :
    Calls Try.prog 55 #[.int .u8 (q : Nat), .int .i64 (x : Nat)] w fun e w' => e = .returned (.int .u8 (sing x q : Nat)) ∧ w = w' := by
  have HS := hid (sing_lt (x := x) (q := q))
  have HI := hid (sing_is (x := x) hq)
  have HO := hid (fun j hj => sing_only (x := x) (q := q) (j := j) hj)
  revert HS HI HO
  generalize sing x q = f
  intro HS HI HO
  go_enter Try.func55, Try.ntmps55
  go_wp2_with fail
  go_loop [5] (fun i => ∃ j : Nat, j ≤ f ∧ i = .int .i64 j) (fun i => f - (intOf i).toNat)
  case atStart => exact ⟨0, by omega, rfl⟩
  case round =>
    obtain ⟨j, hj, rfl⟩ := hrel
    have h3 := pwI_lt (x : Int)
    have hj2 : j < 256 := by have := HS.out; omega
    have tj : (j : Int) < 256 := by omega
    have h4 := GfM.mul_lt (b := j) h3
    by_cases he : j = f
    · have HE := hid he
      clear he
      have hq2 : (((GfM.mul (pwI (x : Int)) j : Nat) : Int) == (q : Int)) = true := nat_yes (by rw [pwI_nat, HE.out, HI.out])
      go_wp2_with fail
      refine (rpow_any _ _).mono ?_
      rintro e w' ⟨rfl, rfl⟩
      go_wp2_with fail
      refine (rmul_any (pwI (x : Int)) j h3 hj2 _).mono ?_
      rintro e w' ⟨rfl, rfl⟩
      go_wp2_with fail
      go_ret
      exact ⟨by have := HE.out; subst this; rfl, rfl⟩
    · have hq2 : (((GfM.mul (pwI (x : Int)) j : Nat) : Int) == (q : Int)) = false := nat_no fun h => he (HO.out j hj2 (by rw [← pwI_nat]; exact h))
      go_wp2_with fail
      refine (rpow_any _ _).mono ?_
      rintro e w' ⟨rfl, rfl⟩
      go_wp2_with fail
      refine (rmul_any (pwI (x : Int)) j h3 hj2 _).mono ?_
      rintro e w' ⟨rfl, rfl⟩
      go_wp2_with fail
      go_round
      case rel => exact ⟨j + 1, by omega, by go_num⟩
      case measure => simp [intOf]; omega
/-- The first of the two bytes at x and y with the sums p and q. -/
def pairX (x y p q : Nat) : Nat := GfM.mul (GfM.inv (GfM.pw x ^^^ GfM.pw y)) (q ^^^ GfM.mul (GfM.pw y) p)
theorem pairX_lt {x y p q : Nat} : pairX x y p q < 256 := GfM.mul_lt (GfM.inv_lt _)
theorem pair_sum {x y p a : Nat} : GfM.mul (GfM.pw x) a ^^^ GfM.mul (GfM.pw y) (a ^^^ p) = GfM.mul (GfM.pw x ^^^ GfM.pw y) a ^^^ GfM.mul (GfM.pw y) p := by
  rw [GfM.mul_xor_right, ← Nat.xor_assoc, GfM.mul_xor_left (GfM.pw_lt _) (GfM.pw_lt _)]
theorem pair_is {x y p q : Nat} (hx : x < 255) (hy : y < 255) (hxy : x ≠ y) (hq : q < 256) : GfM.mul (GfM.pw x) (pairX x y p q) ^^^ GfM.mul (GfM.pw y) (pairX x y p q ^^^ p) = q := by
  have hl := GfM.xor_lt (GfM.pw_lt x) (GfM.pw_lt y)
  have hz : q ^^^ GfM.mul (GfM.pw y) p < 256 := GfM.xor_lt hq (GfM.mul_lt (GfM.pw_lt _))
  rw [pair_sum]
  unfold pairX
  rw [← GfM.mul_assoc hl (GfM.inv_lt _) hz, GfM.mul_comm hl (GfM.inv_lt _), GfM.inv_mul hl (pw_apart hx hy hxy), GfM.one_mul hz, xcan]
theorem pair_only {x y p q j : Nat} (hx : x < 255) (hy : y < 255) (hxy : x ≠ y) (hj : j < 256) (h : GfM.mul (GfM.pw x) j ^^^ GfM.mul (GfM.pw y) (j ^^^ p) = q) : j = pairX x y p q := by
  have hl := GfM.xor_lt (GfM.pw_lt x) (GfM.pw_lt y)
  rw [pair_sum] at h
  unfold pairX
  rw [← h, xcan, ← GfM.mul_assoc (GfM.inv_lt _) hl hj, GfM.inv_mul hl (pw_apart hx hy hxy), GfM.one_mul hj]
set_option maxRecDepth 100000 in
set_option maxHeartbeats 800000 in
theorem rpair_any (p q x y : Nat) (hp : p < 256) (hq : q < 256) (hx : x < 255) (hy : y < 255) (hxy : x ≠ y) (w : World) :
    Calls Try.prog 54 #[.int .u8 (p : Nat), .int .u8 (q : Nat), .int .i64 (x : Nat), .int .i64 (y : Nat)] w fun e w' => e = .returned (.tuple #[.int .u8 (pairX x y p q : Nat), .int .u8 (pairX x y p q ^^^ p : Nat)]) ∧ w = w' := by
  have HS := hid (pairX_lt (x := x) (y := y) (p := p) (q := q))
  have HI := hid (pair_is (p := p) hx hy hxy hq)
  have HO := hid (fun j hj => pair_only (p := p) (q := q) (j := j) hx hy hxy hj)
  clear hx hy hxy
  revert HS HI HO
  generalize pairX x y p q = f
  intro HS HI HO
  go_enter Try.func54, Try.ntmps54
  go_wp2_with fail
  go_loop [10] (fun i => ∃ j : Nat, j ≤ f ∧ i = .int .i64 j) (fun i => f - (intOf i).toNat)
  case atStart => exact ⟨0, by omega, rfl⟩
  case round =>
    obtain ⟨j, hj, rfl⟩ := hrel
    have h3 := pwI_lt (x : Int)
    have h4 := pwI_lt (y : Int)
    have hj2 : j < 256 := by have := HS.out; omega
    have tj : (j : Int) < 256 := by omega
    have hjp := GfM.xor_lt hj2 hp
    have EX := u8_xor_nat j p hj2 hp
    have h5 := GfM.mul_lt (b := j) h3
    have h6 := GfM.mul_lt (b := j ^^^ p) h4
    have EX2 := u8_xor_nat _ _ h5 h6
    by_cases he : j = f
    · have HE := hid he
      clear he
      have hq2 : (((GfM.mul (pwI (x : Int)) j ^^^ GfM.mul (pwI (y : Int)) (j ^^^ p) : Nat) : Int) == (q : Int)) = true := nat_yes (by rw [pwI_nat, pwI_nat, HE.out, HI.out])
      go_wp2_with fail
      refine (rpow_any _ _).mono ?_
      rintro e w' ⟨rfl, rfl⟩
      go_wp2_with fail
      refine (rmul_any (pwI (x : Int)) j h3 hj2 _).mono ?_
      rintro e w' ⟨rfl, rfl⟩
      go_wp2_with fail
      refine (rpow_any _ _).mono ?_
      rintro e w' ⟨rfl, rfl⟩
      go_wp2_with fail
      refine (rmul_any (pwI (y : Int)) (j ^^^ p) h4 hjp _).mono ?_
      rintro e w' ⟨rfl, rfl⟩
      go_wp2_with fail
      go_ret2
      exact ⟨by have := HE.out; subst this; rfl, rfl⟩
    · have hq2 : (((GfM.mul (pwI (x : Int)) j ^^^ GfM.mul (pwI (y : Int)) (j ^^^ p) : Nat) : Int) == (q : Int)) = false := nat_no fun h => he (HO.out j hj2 (by rw [← pwI_nat, ← pwI_nat]; exact h))
      go_wp2_with fail
      refine (rpow_any _ _).mono ?_
      rintro e w' ⟨rfl, rfl⟩
      go_wp2_with fail
      refine (rmul_any (pwI (x : Int)) j h3 hj2 _).mono ?_
      rintro e w' ⟨rfl, rfl⟩
      go_wp2_with fail
      refine (rpow_any _ _).mono ?_
      rintro e w' ⟨rfl, rfl⟩
      go_wp2_with fail
      refine (rmul_any (pwI (y : Int)) (j ^^^ p) h4 hjp _).mono ?_
      rintro e w' ⟨rfl, rfl⟩
      go_wp2_with fail
      go_round
      case rel => exact ⟨j + 1, by omega, by go_num⟩
      case measure => simp [intOf]; omega
end Go.Proofs.Ytlbfjnddbdpdpaa
set_option maxRecDepth 100000
namespace Go.Proofs.Ytlbfjnddbdpdpaa
open Go.ChangeShapes Go.WideShapes Go.ChangeAt Go.RowKit
attribute [local go_sem] Gives
theorem IntL.at {w : World} {B : Nat} {A : Option Addr} {l : List Int} (h : IntL w B A l) (h0 : 0 < l.length) : ∃ b o, A = some ⟨b, o, none⟩ ∧ ∀ i, i < l.length → w.cell? ⟨b, o + i, none⟩ = some (.int .i64 (l.getD i 0)) := by
  obtain ⟨b, o, e, _, hr⟩ := h h0
  exact ⟨b, o, e, hr⟩
def RFixBad (E : Int) (w : World) (e : Ending) (w' : World) : Prop := e = .returned (.tuple #[.slice none 0 0, .int .i64 E]) ∧ Below w.heap.size w w'
section
variable (A A' : Option Addr) (N cap n c : Nat) (l : List Int) (hl : l.length = n) (hn : n ≤ 1000) (hN : N ≤ 1000000) (w : World) (hs : IntL w w.heap.size A' l)
include hl hn hN hs
set_option maxRecDepth 100000 in
theorem rfix_few (h : N < 3) : Calls Try.prog 33 #[.slice A N cap, .slice A' n c] w (RFixBad 2 w) := by
  have HU := hid (runlike_any A' n c l hl hn w hs)
  have tN : (N : Int) - 2 < 1 := by omega
  go_enter Try.func33, Try.ntmps33
  go_wp2_with fail
  refine HU.out.mono ?_
  rintro e w' ⟨v, rfl, hO, hb⟩
  have HB := hid hb
  clear hb
  go_wp2_with fail
  go_ret2
  exact ⟨rfl, HB.out⟩
variable (h3 : 3 ≤ N)
include h3
set_option maxRecDepth 100000 in
theorem rfix_out (h : anyOut N l.length (fun i => l.getD i 0) = true) : Calls Try.prog 33 #[.slice A N cap, .slice A' n c] w (RFixBad 2 w) := by
  have HU := hid (runlike_any A' n c l hl hn w hs)
  obtain ⟨h0, hx⟩ := out_iff.1 h
  have tN : decide ((N : Int) - 2 < 1) = false := by simp; omega
  clear h
  have hul := Nat.le_trans (uniq_length l) (Nat.le_of_eq hl)
  revert HU h0 hx hul
  generalize uniq l = u
  intro HU h0 hx hul
  obtain ⟨k, hk⟩ : ∃ k, u.length = k + 1 := ⟨u.length - 1, by omega⟩
  go_enter Try.func33, Try.ntmps33
  go_wp2_with fail
  refine HU.out.mono ?_
  rintro e w' ⟨v, rfl, hO, hb⟩
  have HB := hid hb
  clear hb
  obtain ⟨A2, c2, rfl, hc1, _, _, hI⟩ := hO.any
  obtain ⟨b, o, rfl, hr⟩ := hI.at h0
  have c0 := hr 0 h0
  have c9' := hr k (by omega)
  rw [Nat.add_zero] at c0
  clear hO hI hr HU h0 hs
  rw [hk] at hx hc1 hul ⊢
  rw [Nat.add_sub_cancel] at hx
  have c9 : w'.cell? ⟨b, o + k, none⟩ = some (.int .i64 (u.getD k 0)) := c9'
  clear c9'
  clear hk
  have hk1 : k ≤ 1000 := by omega
  have ew : wrap64 (k : Int) = (k : Int) := by unfold wrap64; omega
  revert c0 c9 hx
  generalize u.getD 0 0 = y0
  generalize u.getD k 0 = y9
  intro hx c0 c9
  by_cases hlo : y0 < 0
  · clear hx
    go_wp2_with fail
    go_ret2
    exact ⟨rfl, HB.out⟩
  · have hhi : (N : Int) ≤ y9 := by omega
    have hlo2 : decide (y0 < 0) = false := by simp; omega
    have hhi2 : decide ((N : Int) ≤ y9) = true := by simp; omega
    have hhi3 : decide (y9 < (N : Int)) = false := by simp; omega
    clear hx hlo
    go_wp2_with fail
    go_ret2
    exact ⟨rfl, HB.out⟩
set_option maxRecDepth 100000 in
theorem rfix_long (h : anyOut N l.length (fun i => l.getD i 0) = false) (h64 : 64 < N) : Calls Try.prog 33 #[.slice A N cap, .slice A' n c] w (RFixBad 3 w) := by
  have HU := hid (runlike_any A' n c l hl hn w hs)
  have hx : ¬ (0 < (uniq l).length ∧ ((uniq l).getD 0 0 < 0 ∨ (N : Int) ≤ (uniq l).getD ((uniq l).length - 1) 0)) := fun h' => by rw [out_iff.2 h'] at h; cases h
  have hul := Nat.le_trans (uniq_length l) (Nat.le_of_eq hl)
  have tN : decide ((N : Int) - 2 < 1) = false := by simp; omega
  have hN0 : N ≤ 1000000 := hN
  have t62 : decide ((62 : Int) < (N : Int) - 2) = true := by simp; omega
  clear h
  revert HU hx hul
  generalize uniq l = u
  intro HU hx hul
  go_enter Try.func33, Try.ntmps33
  go_wp2_with fail
  refine HU.out.mono ?_
  rintro e w' ⟨v, rfl, hO, hb⟩
  have HB := hid hb
  clear hb
  obtain ⟨A2, c2, rfl, hc1, _, _, hI⟩ := hO.any
  clear hs HU
  rcases Nat.eq_zero_or_pos u.length with h0 | h0
  · rw [h0] at hc1 ⊢
    clear hO hI hx hul h0
    go_wp2_with fail
    go_ret2
    exact ⟨rfl, HB.out⟩
  · obtain ⟨k, hk⟩ : ∃ k, u.length = k + 1 := ⟨u.length - 1, by omega⟩
    obtain ⟨b, o, rfl, hr⟩ := hI.at h0
    have c0 := hr 0 h0
    have c9' := hr k (by omega)
    rw [Nat.add_zero] at c0
    clear hO hI hr
    have hx0 : ¬ u.getD 0 0 < 0 := fun h' => hx ⟨h0, .inl h'⟩
    have hx9 : ¬ (N : Int) ≤ u.getD k 0 := fun h' => hx ⟨h0, .inr (by rw [hk, Nat.add_sub_cancel]; exact h')⟩
    clear hx h0
    rw [hk] at hc1 hul ⊢
    have c9 : w'.cell? ⟨b, o + k, none⟩ = some (.int .i64 (u.getD k 0)) := c9'
    clear hk c9'
    have hk1 : k ≤ 1000 := by omega
    have ew : wrap64 (k : Int) = (k : Int) := by unfold wrap64; omega
    revert c0 hx0 hx9 c9
    generalize u.getD 0 0 = y0
    generalize u.getD k 0 = y9
    intro c0 hx0 hx9 c9
    have t1 : decide (y0 < 0) = false := by simp; omega
    have t2 : decide ((N : Int) ≤ y9) = false := by simp; omega
    clear hx0 hx9
    go_wp2_with fail
    go_ret2
    exact ⟨rfl, HB.out⟩
set_option maxRecDepth 100000 in
theorem rfix_full (h : anyOut N l.length (fun i => l.getD i 0) = false) (h64 : N ≤ 64) (hC : 2 < (uniq l).length) : Calls Try.prog 33 #[.slice A N cap, .slice A' n c] w (RFixBad 7 w) := by
  have HU := hid (runlike_any A' n c l hl hn w hs)
  have hx : ¬ (0 < (uniq l).length ∧ ((uniq l).getD 0 0 < 0 ∨ (N : Int) ≤ (uniq l).getD ((uniq l).length - 1) 0)) := fun h' => by rw [out_iff.2 h'] at h; cases h
  have hul := Nat.le_trans (uniq_length l) (Nat.le_of_eq hl)
  have tN : decide ((N : Int) - 2 < 1) = false := by simp; omega
  have hN0 : N ≤ 1000000 := hN
  have t62 : decide ((62 : Int) < (N : Int) - 2) = false := by simp; omega
  clear h
  revert HU hx hul hC
  generalize uniq l = u
  intro hC HU hx hul
  go_enter Try.func33, Try.ntmps33
  go_wp2_with fail
  refine HU.out.mono ?_
  rintro e w' ⟨v, rfl, hO, hb⟩
  have HB := hid hb
  clear hb
  obtain ⟨A2, c2, rfl, hc1, _, _, hI⟩ := hO.any
  clear hs HU
  rcases Nat.eq_zero_or_pos u.length with h0 | h0
  · omega
  · obtain ⟨k, hk⟩ : ∃ k, u.length = k + 1 := ⟨u.length - 1, by omega⟩
    obtain ⟨b, o, rfl, hr⟩ := hI.at h0
    have c0 := hr 0 h0
    have c9' := hr k (by omega)
    rw [Nat.add_zero] at c0
    clear hO hI hr
    have hx0 : ¬ u.getD 0 0 < 0 := fun h' => hx ⟨h0, .inl h'⟩
    have hx9 : ¬ (N : Int) ≤ u.getD k 0 := fun h' => hx ⟨h0, .inr (by rw [hk, Nat.add_sub_cancel]; exact h')⟩
    clear hx h0
    rw [hk] at hc1 hul hC ⊢
    have c9 : w'.cell? ⟨b, o + k, none⟩ = some (.int .i64 (u.getD k 0)) := c9'
    clear hk c9'
    have hk1 : k ≤ 1000 := by omega
    have ew : wrap64 (k : Int) = (k : Int) := by unfold wrap64; omega
    revert c0 hx0 hx9 c9
    generalize u.getD 0 0 = y0
    generalize u.getD k 0 = y9
    intro c0 hx0 hx9 c9
    have t3 : decide ((2 : Int) < (k : Int) + 1) = true := by simp; omega
    have t1 : decide (y0 < 0) = false := by simp; omega
    have t2 : decide ((N : Int) ≤ y9) = false := by simp; omega
    clear hx0 hx9
    go_wp2_with fail
    go_ret2
    exact ⟨rfl, HB.out⟩
end
end Go.Proofs.Ytlbfjnddbdpdpaa
set_option maxRecDepth 100000
namespace Go.Proofs.Ytlbfjnddbdpdpaa
open Go.ChangeShapes Go.WideShapes Go.ChangeAt Go.RowKit
attribute [local go_sem] Gives eqg_sec
attribute [local go_sem high] run_eql_sec run_neq_sec
theorem eq_nil (w : World) (a : Option Addr) (n c n' c' : Nat) : (binOp .eql 53 (.slice a n c) (.slice none n' c')).run Try.prog w = .ok (.bool a.isNone) w := Lib.run_eql_slice_nil w _ _ a n c n' c' Try.underlying53
attribute [local go_sem high] eq_nil
theorem marks_list {l : List Nat} {z : Nat} : marks l.length (fun j => ((l.getD j 0 : Nat) : Int)) z = true ↔ z ∈ l := by
  rw [marks_iff]
  constructor
  · rintro ⟨i, hi, h⟩
    have e : l.getD i 0 = z := by omega
    rw [List.getD_eq_getElem?_getD, List.getElem?_eq_getElem hi, Option.getD_some] at e
    exact e ▸ List.getElem_mem hi
  · intro h
    obtain ⟨i, hi, e⟩ := List.getElem_of_mem h
    exact ⟨i, hi, by rw [List.getD_eq_getElem?_getD, List.getElem?_eq_getElem hi, Option.getD_some, e]⟩
/-- What is lost of a right row comes back. -/
theorem fix_back (l : List Nat) (A A' : Option Addr) (m cap c : Nat) (F G : Nat → Nat → Nat) (hF : ∀ i k, F i k < 256) (hGl : ∀ i k, G i k < 256) (h1 : 1 ≤ m) (h2 : m ≤ 62) (h3 : l.length ≤ 2) (hl : ∀ x, x ∈ l → x < m + 2)
    (hG : ∀ i, i < m + 2 → i ∉ l → ∀ k, k < 64 → G i k = rowF m F i k) (w : World) (hs : Ints w w.heap.size A' l.length fun j => ((l.getD j 0 : Nat) : Int)) (hS : Secs w w.heap.size A (m + 2) G) :
    Calls Try.prog 32 #[.slice A (m + 2) cap, .slice A' l.length c] w fun e w' => ∃ g cap' : Nat, e = .returned (.tuple #[.slice (some ⟨g, 0, none⟩) (m + 2) cap', .int .i64 0]) ∧
      OwnS w' w.heap.size (.slice (some ⟨g, 0, none⟩) (m + 2) cap') (m + 2) (rowF m F) ∧ Below w.heap.size w w' := by
  have hc : cntM (marks l.length fun j => ((l.getD j 0 : Nat) : Int)) ≤ 2 := Nat.le_trans (cnt_le l fun x hx => marks_list.1 hx) h3
  refine (fix_ok A A' m cap l.length c _ G hGl (by omega) h1 h2 w hs hS (anyOut_iff.2 fun i hi => ?_) hc).mono ?_
  · have := hl (l.getD i 0) (by rw [List.getD_eq_getElem?_getD, List.getElem?_eq_getElem hi, Option.getD_some]; exact List.getElem_mem hi)
    omega
  · rintro e w' ⟨g, c', rfl, o, hb⟩
    refine ⟨g, c', rfl, o.mono fun i k hi hk => (back h2 hF hc (fun j hj hM => hG j hj (fun hx => ?_) k hk) i hi).symm, hb⟩
    rw [marks_list.2 hx] at hM; cases hM
end Go.Proofs.Ytlbfjnddbdpdpaa
set_option maxRecDepth 100000
namespace Go.Proofs.Ytlbfjnddbdpdpaa
open Go.ChangeShapes Go.WideShapes Go.ChangeAt Go.RowKit
attribute [local go_sem] Gives eqg_sec
attribute [local go_sem high] run_eql_sec run_neq_sec eq_nil
section
variable {w : World} {B g n cap i k : Nat} {F : Nat → Nat → Nat}
theorem grown_drew {a b : World} {r : Option Nat} (h : a.grownBy b r) : a.grownBy b.drew r := ⟨h.os, h.tape, h.output, h.size, h.block⟩
theorem OwnS.drew (h : OwnS w B (.slice (some ⟨g, 0, none⟩) n cap) n F) : OwnS w.drew B (.slice (some ⟨g, 0, none⟩) n cap) n F := World.ownsRow.drew h
theorem OwnS.cellAt (h : OwnS w B (.slice (some ⟨g, 0, none⟩) n cap) n F) (hi : i < n) (hk : k < 64) : w.cell? ⟨g, i * 64 + k, none⟩ = some (.int .u8 (F i k : Nat)) := by
  rw [World.ownsRow.cellAt h (i * 64 + k) (by have : (i + 1) * 64 ≤ n * 64 := Nat.mul_le_mul_right _ hi; omega), Array.getElem?_toList]
  exact get_secs hi hk
def upd2 (F : Nat → Nat → Nat) (i k v : Nat) : Nat → Nat → Nat := fun i' k' => if i' = i ∧ k' = k then v else F i' k'
theorem OwnS.put (h : OwnS w B (.slice (some ⟨g, 0, none⟩) n cap) n F) (hk : k < 64) (v : Nat) :
    OwnS (w.setCell ⟨g, i * 64 + k, none⟩ (.int .u8 v)) B (.slice (some ⟨g, 0, none⟩) n cap) n (upd2 F i k v) ∧ w.grownBy (w.setCell ⟨g, i * 64 + k, none⟩ (.int .u8 v)) (some g) := by
  obtain ⟨h1, h2⟩ := World.ownsRow.stored h (i * 64 + k) (.int .u8 v)
  refine ⟨?_, h2⟩
  unfold OwnS
  have e : (Go.Proofs.Ytlbfjnddbdpdpaa.secs n F).toList.set (i * 64 + k) (.int .u8 v) = (Go.Proofs.Ytlbfjnddbdpdpaa.secs n (upd2 F i k v)).toList := by
    rw [← Array.toList_setIfInBounds]
    congr 1
    unfold Go.Proofs.Ytlbfjnddbdpdpaa.secs
    rw [row_set]
    refine row_ext fun j _ => ?_
    unfold upd2
    by_cases ej : j = i * 64 + k
    · rw [if_pos ej, if_pos (by omega)]
    · rw [if_neg ej, if_neg (by omega)]
  rw [← e]
  exact h1
end
/-- What is added to a row. -/
def turned (m i k : Nat) (F D : Nat → Nat → Nat) : Nat → Nat → Nat := fun j q => (rowF m F j q ^^^ (if j = i then D 0 q else 0)) ^^^ (if j = k then D 1 q else 0)
def turnedTo (t m i k : Nat) (F D : Nat → Nat → Nat) : Nat → Nat → Nat := fun j q => if q < t then turned m i k F D j q else rowF m F j q
theorem turned_lt {m i k : Nat} {F D : Nat → Nat → Nat} (hF : ∀ i k, F i k < 256) (hD : ∀ i k, D i k < 256) : ∀ j q, turned m i k F D j q < 256 := fun j q => by
  unfold turned
  refine GfM.xor_lt (GfM.xor_lt (rowF_lt hF j q) ?_) ?_
  · split
    · exact hD 0 q
    · omega
  · split
    · exact hD 1 q
    · omega
theorem turned_step {t m i k : Nat} {F D : Nat → Nat → Nat} :
    upd2 (upd2 (turnedTo t m i k F D) i t (turnedTo t m i k F D i t ^^^ D 0 t)) k t (upd2 (turnedTo t m i k F D) i t (turnedTo t m i k F D i t ^^^ D 0 t) k t ^^^ D 1 t) = turnedTo (t + 1) m i k F D := by
  funext j q
  unfold upd2 turnedTo turned
  by_cases eq : q = t
  · subst eq
    by_cases ej : j = i <;> by_cases ek : j = k <;> by_cases eik : k = i <;> simp_all
  · have : (q < t + 1) = (q < t) := by apply propext; omega
    simp [eq, this]
end Go.Proofs.Ytlbfjnddbdpdpaa
set_option maxRecDepth 100000
namespace Go.Proofs.Ytlbfjnddbdpdpaa
open Go.ChangeShapes Go.WideShapes Go.ChangeAt Go.RowKit
/-- Every lost column emptied, the parities too. -/
def zal (M : Nat → Bool) (F : Nat → Nat → Nat) : Nat → Nat → Nat := fun i => if M i = true then fun _ => 0 else F i
theorem zal_lt {M : Nat → Bool} {F : Nat → Nat → Nat} (hF : ∀ i k, F i k < 256) : ∀ i k, zal M F i k < 256 := fun i k => by
  unfold zal
  split
  · exact Nat.zero_lt_succ _
  · exact hF i k
theorem zal_data {m i : Nat} {M : Nat → Bool} {F : Nat → Nat → Nat} (h : i < m) : zal M F i = zeroed m M F i := by unfold zal zeroed; simp [h]
theorem zal_not {i : Nat} {M : Nat → Bool} {F : Nat → Nat → Nat} (h : M i = false) : zal M F i = F i := by unfold zal; simp [h]
theorem mk_snoc {l : List Int} {x j : Nat} : mk (l ++ [(x : Int)]) j = (mk l j || decide (j = x)) := by
  rw [Bool.eq_iff_iff, Bool.or_eq_true, mk_iff, mk_iff, List.mem_append, List.mem_singleton, decide_eq_true_eq]
  constructor
  · rintro (h | h)
    · exact .inl h
    · exact .inr (by omega)
  · rintro (h | h)
    · exact .inl h
    · exact .inr (by omega)
theorem zal_nil {F : Nat → Nat → Nat} : zal (mk []) F = F := by
  funext i
  exact zal_not (by cases h : mk [] i with | false => rfl | true => exact absurd (mk_iff.1 h) (by simp))
/-- One lost column more is emptied. -/
theorem zal_snoc {l : List Int} {x : Nat} {F : Nat → Nat → Nat} : zal (mk (l ++ [(x : Int)])) F = upd (zal (mk l) F) x fun _ => 0 := by
  funext i
  unfold zal upd
  rw [mk_snoc]
  by_cases h : i = x
  · simp [h]
  · simp [h]
/-- Whether P's column is among them. -/
theorem withP_snoc {l : List Int} {x m : Nat} : mk (l ++ [(x : Int)]) m = if mk l m = true then true else decide ((x : Int) = (m : Int)) := by
  rw [mk_snoc]
  cases mk l m with
  | true => simp
  | false => simp only [Bool.false_or, if_neg (by simp : ¬ false = true)]; rw [decide_eq_decide]; omega
/-- What stands behind t columns: the data mended there. -/
def mid (m t : Nat) (M : Nat → Bool) (F : Nat → Nat → Nat) : Nat → Nat → Nat := fun i k => if i < m ∧ k < t then mendD m M F i k else zal M F i k
theorem mid_lt {m t : Nat} {M : Nat → Bool} {F : Nat → Nat → Nat} (hF : ∀ i k, F i k < 256) : ∀ i k, mid m t M F i k < 256 := fun i k => by
  unfold mid
  split
  · exact mendD_lt hF i k
  · exact zal_lt hF i k
theorem mid_zero {m : Nat} {M : Nat → Bool} {F : Nat → Nat → Nat} : mid m 0 M F = zal M F := by funext i k; unfold mid; simp
theorem mid_P {m t : Nat} {M : Nat → Bool} {F : Nat → Nat → Nat} : PP (mid m t M F) m t = PP (zeroed m M F) m t :=
  PP_same m fun i hi => by unfold mid; simp [zal_data hi]
theorem mid_Q {m t : Nat} {M : Nat → Bool} {F : Nat → Nat → Nat} : QQ (mid m t M F) m t = QQ (zeroed m M F) m t :=
  QQ_same m fun i hi => by unfold mid; simp [zal_data hi]
theorem mid_out {m t i : Nat} {M : Nat → Bool} {F : Nat → Nat → Nat} (h : m ≤ i) : mid m t M F i = zal M F i := by funext k; unfold mid; rw [if_neg (by omega)]
/-- The two sums that the document takes of column t. -/
theorem mid_mis {m t : Nat} {M : Nat → Bool} {F : Nat → Nat → Nat} (h : M m = false) : mid m t M F m t ^^^ PP (mid m t M F) m t = mis m M F t := by
  rw [mid_P, mid_out (Nat.le_refl _), zal_not h, Nat.xor_comm]; rfl
theorem mid_wei {m t : Nat} {M : Nat → Bool} {F : Nat → Nat → Nat} (h : M (m + 1) = false) : mid m t M F (m + 1) t ^^^ QQ (mid m t M F) m t = wei m M F t := by
  rw [mid_Q, mid_out (Nat.le_succ _), zal_not h, Nat.xor_comm]; rfl
theorem mid_step0 {m t : Nat} {M : Nat → Bool} {F : Nat → Nat → Nat} (h : gapsL m M = []) : mid m (t + 1) M F = mid m t M F := by
  funext i k
  unfold mid
  by_cases hi : i < m
  · have e : mendD m M F i k = zal M F i k := by unfold mendD; rw [h, zal_data hi]
    rw [e]; simp
  · simp [hi]
theorem mid_step1 {m t x v : Nat} {M : Nat → Bool} {F : Nat → Nat → Nat} (h : gapsL m M = [x]) (hv : v = mendD m M F x t) : mid m (t + 1) M F = upd2 (mid m t M F) x t v := by
  have hx : x < m := (gaps_mem.1 (show x ∈ gapsL m M by rw [h]; simp)).1
  funext i k
  unfold upd2 mid
  by_cases hi : i < m
  · by_cases hk : k < t
    · rw [if_pos ⟨hi, by omega⟩, if_neg (by omega), if_pos ⟨hi, hk⟩]
    · by_cases hkt : k = t
      · subst hkt
        rw [if_pos ⟨hi, by omega⟩]
        by_cases hix : i = x
        · subst hix; rw [if_pos ⟨rfl, rfl⟩, hv]
        · rw [if_neg (by omega), if_neg (by omega), zal_data hi]
          unfold mendD
          rw [h]
          show upd _ _ _ i k = _
          rw [upd_ne hix]
      · rw [if_neg (by omega), if_neg (by omega), if_neg (by omega)]
  · rw [if_neg (by omega), if_neg (by omega), if_neg (by omega)]
theorem mid_step2 {m t x y a b : Nat} {M : Nat → Bool} {F : Nat → Nat → Nat} (h : gapsL m M = [x, y]) (ha : a = mendD m M F x t) (hb : b = mendD m M F y t) :
    mid m (t + 1) M F = upd2 (upd2 (mid m t M F) x t a) y t b := by
  funext i k
  unfold upd2 mid
  have hx : x < m := (gaps_mem.1 (show x ∈ gapsL m M by rw [h]; simp)).1
  have hy : y < m := (gaps_mem.1 (show y ∈ gapsL m M by rw [h]; simp)).1
  by_cases hi : i < m
  · by_cases hk : k < t
    · rw [if_pos ⟨hi, by omega⟩, if_neg (by omega), if_neg (by omega), if_pos ⟨hi, hk⟩]
    · by_cases hkt : k = t
      · subst hkt
        rw [if_pos ⟨hi, by omega⟩]
        by_cases hiy : i = y
        · subst hiy; rw [if_pos ⟨rfl, rfl⟩, hb]
        · rw [if_neg (by omega)]
          by_cases hix : i = x
          · subst hix; rw [if_pos ⟨rfl, rfl⟩, ha]
          · rw [if_neg (by omega), if_neg (by omega), zal_data hi]
            unfold mendD
            rw [h]
            show upd (upd _ _ _) _ _ i k = _
            rw [upd_ne hiy, upd_ne hix]
      · rw [if_neg (by omega), if_neg (by omega), if_neg (by omega), if_neg (by omega)]
  · rw [if_neg (by omega), if_neg (by omega), if_neg (by omega), if_neg (by omega)]
/-- The bytes of the three cases. -/
theorem one_P {m x t : Nat} {M : Nat → Bool} {F : Nat → Nat → Nat} (h : gapsL m M = [x]) (hP : M m = true) : mendD m M F x t = sing x (wei m M F t) := by
  unfold mendD
  rw [h]
  show upd _ _ _ x t = _
  rw [upd_self, if_pos hP]; rfl
theorem one_D {m x t : Nat} {M : Nat → Bool} {F : Nat → Nat → Nat} (h : gapsL m M = [x]) (hP : M m = false) : mendD m M F x t = mis m M F t := by
  unfold mendD
  rw [h]
  show upd _ _ _ x t = _
  rw [upd_self, if_neg (by rw [hP]; simp)]
theorem two_D {m x y t : Nat} {M : Nat → Bool} {F : Nat → Nat → Nat} (h : gapsL m M = [x, y]) (hxy : x ≠ y) :
    mendD m M F x t = pairX x y (mis m M F t) (wei m M F t) ∧ mendD m M F y t = pairX x y (mis m M F t) (wei m M F t) ^^^ mis m M F t := by
  unfold mendD
  rw [h]
  constructor
  · show upd (upd _ _ _) _ _ x t = _
    rw [upd_ne hxy, upd_self]; rfl
  · show upd (upd _ _ _) _ _ y t = _
    rw [upd_self]
    show _ ^^^ twoX x y _ _ t = _
    rw [Nat.xor_comm]; rfl
theorem mid_all {m i : Nat} {M : Nat → Bool} {F : Nat → Nat → Nat} (hi : i < m) {k : Nat} (hk : k < 64) : mid m 64 M F i k = mendD m M F i k := by unfold mid; rw [if_pos ⟨hi, hk⟩]
/-- The parities of the mended row are those of what the document has mended. -/
theorem fin_same {m i k : Nat} {M : Nat → Bool} {F : Nat → Nat → Nat} (hi : i < m + 2) (hk : k < 64) : mendP m M (mid m 64 M F) i k = mendP m M (mendD m M F) i k := by
  have hP : PP (mid m 64 M F) m k = PP (mendD m M F) m k := PP_same m fun j hj => mid_all hj hk
  have hQ : QQ (mid m 64 M F) m k = QQ (mendD m M F) m k := QQ_same m fun j hj => mid_all hj hk
  by_cases h : i < m
  · have := mid_all (M := M) (F := F) h hk
    unfold mendP
    simp only [show ¬ i = m by omega, show ¬ i = m + 1 by omega, false_and, if_false]
    exact this
  · have e1 : mid m 64 M F i = zal M F i := mid_out (by omega)
    have e2 : mendD m M F i = F i := mendD_out (by omega)
    rcases (by omega : i = m ∨ i = m + 1) with rfl | rfl
    · cases hM : M i with
      | true => unfold mendP; simp [hM, hP]
      | false => unfold mendP; simp [hM, e1, e2, zal_not hM]
    · cases hM : M (m + 1) with
      | true => unfold mendP; simp [hM, hQ]
      | false => unfold mendP; simp [hM, e1, e2, zal_not hM]
end Go.Proofs.Ytlbfjnddbdpdpaa
set_option maxRecDepth 100000
namespace Go.Proofs.Ytlbfjnddbdpdpaa
open Go.ChangeShapes Go.WideShapes Go.ChangeAt Go.RowKit
theorem three_out {u : List Int} (hu : u.length ≤ 2) {a b c : Int} (ha : a ∈ u) (hb : b ∈ u) (hc : c ∈ u) (h1 : a ≠ b) (h2 : a ≠ c) (h3 : b ≠ c) : False := by
  match u, hu, ha, hb, hc with
  | [], _, ha, _, _ => exact absurd ha (by simp)
  | [p], _, ha, hb, _ => simp at ha hb; omega
  | [p, q], _, ha, hb, hc => simp at ha hb hc; omega
  | _ :: _ :: _ :: _, hu, _, _, _ => simp at hu
theorem gl_mem {m x : Nat} {u : List Int} (h : x ∈ gapsL m (mk u)) : x < m ∧ (x : Int) ∈ u := ⟨(gaps_mem.1 h).1, mk_iff.1 (gaps_mem.1 h).2⟩
theorem gl_cases {m : Nat} {u : List Int} (hu : u.length ≤ 2) :
    gapsL m (mk u) = [] ∨ (∃ x, gapsL m (mk u) = [x] ∧ x < m) ∨ ∃ x y, gapsL m (mk u) = [x, y] ∧ x < y ∧ y < m := by
  have hp : (gapsL m (mk u)).Pairwise (· < ·) := by unfold gapsL; exact List.pairwise_lt_range.filter _
  have hm : ∀ x, x ∈ gapsL m (mk u) → x < m ∧ (x : Int) ∈ u := fun x hx => gl_mem hx
  revert hp hm
  generalize gapsL m (mk u) = l
  intro hp hm
  match l, hp, hm with
  | [], _, _ => exact .inl rfl
  | [x], _, hm => exact .inr (.inl ⟨x, rfl, (hm x (by simp)).1⟩)
  | [x, y], hp, hm => exact .inr (.inr ⟨x, y, rfl, by simpa using hp, (hm y (by simp)).1⟩)
  | x :: y :: z :: _, hp, hm =>
    have h1 := List.pairwise_cons.1 hp
    have h2 := List.pairwise_cons.1 h1.2
    have e1 := h1.1 y (by simp)
    have e2 := h2.1 z (by simp)
    exact absurd (three_out hu (hm x (by simp)).2 (hm y (by simp)).2 (hm z (by simp)).2 (by omega) (by omega) (by omega)) id
theorem two_out {m x y z : Nat} {u : List Int} (hu : u.length ≤ 2) (h : gapsL m (mk u) = [x, y]) (hxy : x < y) (hz : m ≤ z) : mk u z = false := by
  cases e : mk u z with
  | false => rfl
  | true =>
    have hx := gl_mem (show x ∈ gapsL m (mk u) by rw [h]; simp)
    have hy := gl_mem (show y ∈ gapsL m (mk u) by rw [h]; simp)
    exact absurd (three_out hu hx.2 hy.2 (mk_iff.1 e) (by omega) (by omega) (by omega)) id
theorem one_out {m x : Nat} {u : List Int} (hu : u.length ≤ 2) (h : gapsL m (mk u) = [x]) (hm : mk u m = true) : mk u (m + 1) = false := by
  cases e : mk u (m + 1) with
  | false => rfl
  | true =>
    have hx := gl_mem (show x ∈ gapsL m (mk u) by rw [h]; simp)
    exact absurd (three_out hu hx.2 (mk_iff.1 hm) (mk_iff.1 e) (by omega) (by omega) (by omega)) id
/-- The row while one lost column's parity is put back, t bytes done. -/
def fin (m t : Nat) (M M' : Nat → Bool) (G : Nat → Nat → Nat) : Nat → Nat → Nat := fun j q => if q < t then mendP m M' G j q else mendP m M G j q
theorem mendP_none {m : Nat} {G : Nat → Nat → Nat} {M : Nat → Bool} (h1 : M m = false) (h2 : M (m + 1) = false) : mendP m M G = G := by
  funext j
  unfold mendP
  simp [h1, h2]
theorem mendP_data {m i : Nat} {G : Nat → Nat → Nat} {M : Nat → Bool} (h : i < m) : mendP m M G i = G i := by
  unfold mendP
  rw [if_neg (by omega), if_neg (by omega)]
theorem mendP_byte {m : Nat} {G : Nat → Nat → Nat} {M : Nat → Bool} (hG : ∀ i k, G i k < 256) : ∀ i k, mendP m M G i k < 256 := fun i k => by
  unfold mendP
  split
  · exact PP_lt hG m k
  · split
    · exact QQ_lt (F := G) m k
    · exact hG i k
theorem fin_lt {m t : Nat} {M M' : Nat → Bool} {G : Nat → Nat → Nat} (hG : ∀ i k, G i k < 256) : ∀ i k, fin m t M M' G i k < 256 := fun i k => by
  unfold fin
  split
  · exact mendP_byte hG i k
  · exact mendP_byte hG i k
theorem fin_zero {m : Nat} {M M' : Nat → Bool} {G : Nat → Nat → Nat} : fin m 0 M M' G = mendP m M G := by funext j q; unfold fin; simp
theorem fin_data {m t i : Nat} {M M' : Nat → Bool} {G : Nat → Nat → Nat} (h : i < m) : fin m t M M' G i = G i := by
  funext q
  unfold fin
  rw [mendP_data h, mendP_data h, ite_self]
theorem fin_PP {m t k : Nat} {M M' : Nat → Bool} {G : Nat → Nat → Nat} : PP (fin m t M M' G) m k = PP G m k := PP_same m fun i hi => by rw [fin_data hi]
theorem fin_QQ {m t k : Nat} {M M' : Nat → Bool} {G : Nat → Nat → Nat} : QQ (fin m t M M' G) m k = QQ G m k := QQ_same m fun i hi => by rw [fin_data hi]
theorem fin_64 {m : Nat} {M M' : Nat → Bool} {G : Nat → Nat → Nat} {i k : Nat} (hk : k < 64) : fin m 64 M M' G i k = mendP m M' G i k := by unfold fin; rw [if_pos hk]
theorem fin_step0 {m t x : Nat} {l : List Int} {G : Nat → Nat → Nat} (hx : x < m) : fin m (t + 1) (mk l) (mk (l ++ [(x : Int)])) G = fin m t (mk l) (mk (l ++ [(x : Int)])) G := by
  have e : mendP m (mk (l ++ [(x : Int)])) G = mendP m (mk l) G := by
    unfold mendP
    rw [mk_snoc, mk_snoc]
    simp only [show ¬ m = x by omega, show ¬ m + 1 = x by omega, decide_false, Bool.or_false]
  unfold fin
  rw [e]
  funext j q
  simp
theorem fin_stepP {m t : Nat} {l : List Int} {G : Nat → Nat → Nat} : fin m (t + 1) (mk l) (mk (l ++ [(m : Int)])) G = upd2 (fin m t (mk l) (mk (l ++ [(m : Int)])) G) m t (PP G m t) := by
  have e : ∀ j q, j ≠ m → mendP m (mk (l ++ [(m : Int)])) G j q = mendP m (mk l) G j q := fun j q hj => by
    unfold mendP
    rw [mk_snoc (x := m) (j := m + 1)]
    simp [hj]
  have e2 : mendP m (mk (l ++ [(m : Int)])) G m t = PP G m t := by
    unfold mendP
    rw [if_pos ⟨rfl, by rw [mk_snoc]; simp⟩]
  funext j q
  unfold upd2 fin
  by_cases hj : j = m
  · subst hj
    by_cases hq : q = t
    · subst hq
      rw [if_pos (by omega), if_pos ⟨rfl, rfl⟩, e2]
    · rw [if_neg (c := j = j ∧ q = t) (by omega)]
      by_cases h : q < t
      · rw [if_pos (by omega), if_pos h]
      · rw [if_neg (by omega), if_neg h]
  · rw [if_neg (c := j = m ∧ q = t) (by omega), e j q hj, ite_self, ite_self]
theorem fin_stepQ {m t : Nat} {l : List Int} {G : Nat → Nat → Nat} : fin m (t + 1) (mk l) (mk (l ++ [((m + 1 : Nat) : Int)])) G = upd2 (fin m t (mk l) (mk (l ++ [((m + 1 : Nat) : Int)])) G) (m + 1) t (QQ G m t) := by
  have e : ∀ j q, j ≠ m + 1 → mendP m (mk (l ++ [((m + 1 : Nat) : Int)])) G j q = mendP m (mk l) G j q := fun j q hj => by
    unfold mendP
    rw [mk_snoc (x := m + 1) (j := m)]
    simp [hj]
  have e2 : mendP m (mk (l ++ [((m + 1 : Nat) : Int)])) G (m + 1) t = QQ G m t := by
    unfold mendP
    rw [if_neg (by omega), if_pos ⟨rfl, by rw [mk_snoc]; simp⟩]
  funext j q
  unfold upd2 fin
  by_cases hj : j = m + 1
  · subst hj
    by_cases hq : q = t
    · subst hq
      rw [if_pos (by omega), if_pos ⟨rfl, rfl⟩, e2]
    · rw [if_neg (c := m + 1 = m + 1 ∧ q = t) (by omega)]
      by_cases h : q < t
      · rw [if_pos (by omega), if_pos h]
      · rw [if_neg (by omega), if_neg h]
  · rw [if_neg (c := j = m + 1 ∧ q = t) (by omega), e j q hj, ite_self, ite_self]
/-- A row before and behind one byte's store into column j. -/
def yb (bb : Bool) (Y : Nat → Nat → Nat) (j t v : Nat) : Nat → Nat → Nat := bif bb then upd2 Y j t v else Y
theorem yb_PP {bb : Bool} {Y : Nat → Nat → Nat} {j t v m k : Nat} (h : m ≤ j) : PP (yb bb Y j t v) m k = PP Y m k := PP_same m fun i hi => by
  cases bb with
  | true => show upd2 Y j t v i k = _; unfold upd2; rw [if_neg (by omega)]
  | false => rfl
theorem yb_QQ {bb : Bool} {Y : Nat → Nat → Nat} {j t v m k : Nat} (h : m ≤ j) : QQ (yb bb Y j t v) m k = QQ Y m k := QQ_same m fun i hi => by
  cases bb with
  | true => show upd2 Y j t v i k = _; unfold upd2; rw [if_neg (by omega)]
  | false => rfl
theorem yb_lt {bb : Bool} {Y : Nat → Nat → Nat} {j t v : Nat} (hY : ∀ i k, Y i k < 256) (hv : v < 256) : ∀ i k, yb bb Y j t v i k < 256 := fun i k => by
  cases bb with
  | true =>
    show upd2 Y j t v i k < 256
    unfold upd2
    split
    · exact hv
    · exact hY i k
  | false => exact hY i k
end Go.Proofs.Ytlbfjnddbdpdpaa
