/-
  Lists of a width, a number and a text: what comes in; a list of the call's own.
-/
import Derived.Test.YtiebaiofpihoiaaByW1
import Derived.Test.YtiebaiofpihoiaaElems
namespace Go.Proofs.Ytiebaiofpihoiaa
open Go.ChangeShapes Go.WideShapes Go.ChangeAt Go.RowKit Go.Deep
/-- A width, a number and a text. -/
structure Ld where
  w : Int
  n : Nat
  s : ByteArray
def Ld.v (x : Ld) : List Value := [.int .i64 x.w, .int .u64 x.n, .string x.s]
def Ld.ok (x : Ld) : Prop := (-9223372036854775808 ≤ x.w ∧ x.w ≤ 9223372036854775807) ∧ x.n < 18446744073709551616 ∧ x.s.size ≤ maxLen
theorem cells_int : Try.prog.cellsOf 3 = 1 := by kernel_rfl
theorem cells_u64 : Try.prog.cellsOf 23 = 1 := by kernel_rfl
theorem cells_str : Try.prog.cellsOf 9 = 1 := by kernel_rfl
section
variable {H : Type} {enc : TypeId × Value → H} {w : World} {base : Nat} {spare : Nat → Bool} {held : Bool}
theorem trod_laid (fuel : Nat) (cs : List Value) (x : DataW H × List MemPlace) (h : DataW.trod enc Try.prog w base spare held fuel 25 cs = some x) (hl : cs.length = 3) : ∃ y : Ld, y.ok ∧ cs = y.v := by
  obtain ⟨y0, y1, y2, m, _, _, h0, h1, h2⟩ := trod_struct3 Try.underlying25 h
  match cs, hl with
  | [c0, c1, c2], _ =>
    have h0' : DataW.trod enc Try.prog w base spare held m 3 [c0] = some y0 := by simpa [cells_int] using h0
    have h1' : DataW.trod enc Try.prog w base spare held m 23 [c1] = some y1 := by simpa [cells_u64] using h1
    have h2' : DataW.trod enc Try.prog w base spare held m 9 [c2] = some y2 := by simpa [cells_str] using h2
    obtain ⟨a, e0, _, w0⟩ := DataW.trod_int Try.underlying3 h0'
    obtain ⟨b, e1, _, w1⟩ := DataW.trod_int Try.underlying23 h1'
    obtain ⟨s, e2, _, w2⟩ := DataW.trod_string Try.underlying9 h2'
    simp only [List.cons.injEq, and_true] at e0 e1 e2
    subst e0 e1 e2
    obtain ⟨n, rfl, hn⟩ := u64_wf' w1
    exact ⟨⟨a, n, s⟩, ⟨i64_wf' w0, hn, w2⟩, rfl⟩
end
/-- A list of the call's own. -/
def OwnL (w : World) (B : Nat) (v : Value) (xs : List Ld) : Prop := w.ownsRow B 25 3 v xs.length (xs.flatMap Ld.v)
theorem infL : ∃ (i : TypeInfo) (z : Value), Try.prog.info? 25 = some i ∧ i.zero = some z ∧ i.size = 3 ∧ i.bytes ≤ 32 ∧ z.cells.size = 3 := by
  have h1 : (Try.prog.info? 25).map (·.size) = some 3 := by kernel_rfl
  have h2 : (Try.prog.info? 25).map (fun i => decide (i.bytes ≤ 32)) = some true := by kernel_rfl
  have h3 : ((Try.prog.info? 25).bind (·.zero)).map (·.cells.size) = some 3 := by kernel_rfl
  cases hi : Try.prog.info? 25 with
  | none => rw [hi] at h1; cases h1
  | some i =>
    rw [hi] at h1 h2 h3
    simp only [Option.map_some, Option.some.injEq, decide_eq_true_eq, Option.bind_some] at h1 h2 h3
    cases hz : i.zero with
    | none => rw [hz] at h3; cases h3
    | some z => rw [hz] at h3; exact ⟨i, z, rfl, hz, h1, h2, by simpa using h3⟩
theorem OwnL.nil (w : World) (B : Nat) : OwnL w B (.slice none 0 0) [] := World.ownsRow_nil w B _ 3
theorem flat_get : ∀ (xs : List Ld) (i j : Nat) (x : Ld) (v : Value), xs[i]? = some x → x.v[j]? = some v → (xs.flatMap Ld.v)[i * 3 + j]? = some v
  | [], i, j, x, v, h, _ => by simp at h
  | y :: xs, 0, j, x, v, h, hj => by
    simp only [List.getElem?_cons_zero, Option.some.injEq] at h
    subst h
    have hlt := (List.getElem?_eq_some_iff.1 hj).1
    rw [List.flatMap_cons, Nat.zero_mul, Nat.zero_add, List.getElem?_append_left hlt]
    exact hj
  | y :: xs, i + 1, j, x, v, h, hj => by
    rw [List.getElem?_cons_succ] at h
    have h3 : y.v.length = 3 := rfl
    rw [List.flatMap_cons, List.getElem?_append_right (by rw [h3]; omega), h3, show (i + 1) * 3 + j - 3 = i * 3 + j by omega]
    exact flat_get xs i j x v h hj
theorem flat_length : ∀ xs : List Ld, (xs.flatMap Ld.v).length = xs.length * 3
  | [] => rfl
  | x :: xs => by rw [List.flatMap_cons, List.length_append, flat_length xs, List.length_cons, show x.v.length = 3 from rfl]; omega
/-- As one reads it. -/
theorem OwnL.form {w : World} {B : Nat} {v : Value} {xs : List Ld} (h : OwnL w B v xs) : ∃ A cap, v = .slice A xs.length cap ∧ (A = none → xs = []) ∧ ∀ b o, A = some ⟨b, o, none⟩ → B ≤ b ∧ b < w.heap.size ∧ (∀ (i : Nat) (x : Ld), xs[i]? = some x → ∀ (j : Nat) (u : Value), x.v[j]? = some u → w.cell? ⟨b, o + i * 3 + j, none⟩ = some u) ∧ o = 0 := by
  rcases h.2 with ⟨rfl, h0⟩ | ⟨g, cap, cur, rfl, hB, hg, hnc, hcm, hcs, ht⟩
  · exact ⟨none, 0, by rw [h0], (fun _ => List.eq_nil_of_length_eq_zero h0), fun b o e => by cases e⟩
  · refine ⟨_, cap, rfl, (fun e => by cases e), fun b o e => ?_⟩
    simp only [Option.some.injEq, Addr.mk.injEq, and_true] at e
    obtain ⟨rfl, rfl⟩ := e
    refine ⟨hB, Blk.lt (t := 25) (cs := cur) hg, fun i x hi j u hj => ?_, rfl⟩
    have hil := (List.getElem?_eq_some_iff.1 hi).1
    have hjl : j < 3 := (List.getElem?_eq_some_iff.1 hj).1
    rw [Nat.zero_add, cell_of_row w g _ cur _ _ hg]
    have h1 := flat_get xs i j x u hi hj
    rw [← ht, List.getElem?_take_of_lt (by omega), Array.getElem?_toList] at h1
    exact h1
theorem OwnL.rowGe {w : World} {B : Nat} {v : Value} {xs : List Ld} (h : OwnL w B v xs) : ∀ k, v.ownBlock = some k → B ≤ k ∧ k < w.heap.size := fun k hk => World.ownsRow.lt h k hk
theorem OwnL.gr {w w' : World} {B : Nat} {r : Option Nat} {v : Value} {xs : List Ld} (h : OwnL w B v xs) (hg : w.grownBy w' r) (hr : ∀ k, r = some k → v.ownBlock ≠ some k) : OwnL w' B v xs := by
  refine World.ownsRow.kept h hg ?_
  cases hv : v.ownBlock with
  | none => exact .inl rfl
  | some k => exact .inr fun e => hr k e.symm hv
theorem OwnL.alloc {w : World} {B : Nat} {v : Value} {xs : List Ld} (h : OwnL w B v xs) (o : Obj) : OwnL (w.alloc o) B v xs := World.ownsRow.alloc h o
section
variable {ops : Array Oper} {Q : Exit → Act → World → Prop} {a : Act} {w : World} {rest : List Oper} {dst : Option Tmp} {ty : TypeId} {pos : String} {after : Array Edge} {s x : Operand} {c B g : Nat} {v : Value} {xs : List Ld} {y : Ld} {t : TypeId}
theorem wappL (hs : a.eval s = v) (hx : a.eval x = .slice (some ⟨g, 0, none⟩) 1 c) (hown : OwnL w B v xs) (hb : Blk w g t #[.int .i64 y.w, .int .u64 y.n, .string y.s]) (hsz : xs.length ≤ 1000) (hB : B ≤ w.heap.size)
    (h : ∀ v' w', OwnL w' B v' (xs ++ [y]) → w.grownBy w' v.ownBlock → wpList Try.prog ops Q rest (a.put dst v') w') :
    wpList Try.prog ops Q (⟨dst, .call { callee := .builtin .append, args := #[s, x], argTypes := #[57, 57] }, ty, pos, after, none⟩ :: rest) a w := by
  obtain ⟨i, z, hi, hz, h1, h2, h3⟩ := infL
  obtain ⟨v', w', hr, ho, hg, _⟩ := run_append_own (P := Try.prog) w B 57 ty 25 i z 3 i.bytes Try.underlying57 hi hz h1 rfl h3 (by decide) v xs.length _ hown ⟨g, 0, none⟩ 1 c y.v rfl
    (fun j u hj => by
      have := hb.cell j
      rw [Addr.add_mid, Nat.zero_add, this]
      match j, hj with
      | 0, hj => exact hj
      | 1, hj => exact hj
      | 2, hj => exact hj)
    (fun u hu => by
      simp only [Ld.v, List.mem_cons, List.not_mem_nil, or_false] at hu
      rcases hu with rfl | rfl | rfl <;> rfl)
    (by unfold maxLen; omega) (Nat.le_trans (Nat.mul_le_mul (show xs.length + 1 ≤ 1001 by omega) h2) (by omega)) hB
  refine wpList_plain rfl fun K hK => ?_
  unfold Oper.wp execOp
  simp only [resolve, invoke, builtin, Sem.run_bind, Sem.run_pure, Result.andThen_ok, List.map_toArray, List.map_cons, List.map_nil, hs, hx, hr]
  exact hK _ _ (h v' w' (by unfold OwnL; rw [List.length_append, List.flatMap_append]; exact ho) hg)
end
/-- What is laid. -/
def layAll : List Ld → List Nat
  | [] => []
  | x :: xs => BytM.dig x.w.toNat x.n ++ BytM.txt (nats x.s) ++ layAll xs
theorem layAll_append : ∀ xs ys, layAll (xs ++ ys) = layAll xs ++ layAll ys
  | [], _ => rfl
  | x :: xs, ys => by rw [List.cons_append, layAll, layAll, layAll_append xs ys]; simp only [List.append_assoc]
theorem layAll_256 : ∀ xs, B256 (layAll xs)
  | [] => fun x hx => by cases hx
  | x :: xs => ((BytM.dig_256 _ _).append (BytM.txt_256 (nats_256 _))).append (layAll_256 xs)
theorem layAll_le : ∀ xs : List Ld, (∀ x ∈ xs, x.w.toNat ≤ 8 ∧ x.s.size ≤ 300) → (layAll xs).length ≤ 310 * xs.length
  | [], _ => Nat.le_refl _
  | x :: xs, h => by
    have h1 := layAll_le xs fun y hy => h y (List.mem_cons_of_mem _ hy)
    have h2 := h x List.mem_cons_self
    have h3 : (BytM.txt (nats x.s)).length = 2 + x.s.size := by unfold BytM.txt; rw [List.length_append, BytM.dig_length, nats_length]
    rw [layAll, List.length_append, List.length_append, BytM.dig_length, h3, List.length_cons]
    omega
/-- The cut text. -/
def Ld.cut (x : Ld) : Ld := ⟨x.w, x.n, x.s.extract 0 (min x.s.size 300)⟩
end Go.Proofs.Ytiebaiofpihoiaa
