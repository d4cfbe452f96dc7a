/-
  A slice of bytes cut out of another one: as an operation of the walk that leaves one address, whatever it is.
-/
import Derived.Test.YtiebaiofpihoiaaEltB
import Derived.Test.YtiebaiofpihoiaaStr
namespace Go.Proofs.Ytiebaiofpihoiaa
open Go.ChangeShapes Go.WideShapes Go.ChangeAt Go.RowKit
theorem und_byts : Try.prog.underlying 22 = some (.slice (Try.prog.elem 22)) := by kernel_rfl
theorem size_byts (w : World) : (sizeOf (Try.prog.elem 22)).run Try.prog w = .ok 1 w := by
  have h : (Try.prog.info? (Try.prog.elem 22)).map (·.size) = some 1 := by kernel_rfl
  cases hi : Try.prog.info? (Try.prog.elem 22) with
  | none => rw [hi] at h; cases h
  | some i =>
    rw [hi] at h
    simp only [Option.map_some, Option.some.injEq] at h
    simp [sizeOf, typeInfo, hi, h]
theorem Byt.dropIf {w : World} {B : Nat} {A : Option Addr} {l : List Nat} (h : Byt w B A l) (cap W : Nat) (hc : l.length ≤ cap) : Byt w B (if cap = W then A else Option.map (fun x => x.add W) A) (l.drop W) := fun hn => by
  have hn' := hn
  rw [List.length_drop] at hn
  obtain ⟨b, o, rfl, hl, hr⟩ := h (by omega)
  rw [if_neg (by omega)]
  have e : Option.map (fun x => Addr.add x W) (some ⟨b, o, Option.none⟩) = some ⟨b, o + W, Option.none⟩ := by rw [Option.map_some, Addr.add_mid]
  rw [e]
  exact Byt.drop (l := l) (fun _ => ⟨b, o, rfl, hl, hr⟩) W hn'
theorem run_sl {w : World} {A : Option Addr} {l : List Nat} {n cap i j : Nat} (h : Arg w A l n cap) (hij : i ≤ j) (hj : j ≤ n) :
    ∃ A', (Instr.sliceAt 22 (.slice A n cap) (some (.int .i64 i)) (some (.int .i64 j)) none).run Try.prog w = .ok (.slice A' (j - i) (cap - i)) w ∧ Arg w A' ((l.drop i).take (j - i)) (j - i) (cap - i) := by
  have hc := h.cap
  have hm := h.max
  refine ⟨if cap = i then A else A.map (·.add (i * 1)), ?_, ?_⟩
  · rw [run_sliceAt_slice w 22 _ _ _ _ und_byts, run_slice_lh w 22 A n cap und_byts .i64 .i64 i j (by omega) (by omega) (by omega), size_byts]
    simp only [Result.andThen, sliced, Int.toNat_natCast]
  · rw [Nat.mul_one]
    refine ⟨by rw [List.length_take, List.length_drop, h.len]; omega, by omega, by omega, (h.b256.drop i).take _, fun e => ?_, ((h.byt.dropIf cap i (by rw [h.len]; exact hc))).take _⟩
    by_cases hi : cap = i
    · exact ⟨by omega, by omega⟩
    · rw [if_neg hi] at e
      cases A with
      | none => have := h.none rfl; exact ⟨by omega, by omega⟩
      | some a => cases e
theorem wsl {ops : Array Oper} {Q : Exit → Act → World → Prop} {a : Act} {w : World} {rest : List Oper} {dst : Option Tmp} {ty : TypeId} {pos : String} {after : Array Edge} {x y z : Operand} {A : Option Addr} {l : List Nat} {n cap i j : Nat}
    (hx : a.eval x = .slice A n cap) (hy : a.eval y = .int .i64 i) (hz : a.eval z = .int .i64 j) (h : Arg w A l n cap) (hij : i ≤ j) (hj : j ≤ n)
    (hk : ∀ A', Arg w A' ((l.drop i).take (j - i)) (j - i) (cap - i) → wpList Try.prog ops Q rest (a.put dst (.slice A' (j - i) (cap - i))) w) :
    wpList Try.prog ops Q (⟨dst, .slice 22 x (some y) (some z) none, ty, pos, after, none⟩ :: rest) a w := by
  obtain ⟨A', hr, ha⟩ := run_sl h hij hj
  refine wpList_plain rfl fun K hK => ?_
  unfold Oper.wp execOp
  simp only [Sem.run_bind, Option.map_some, Option.map_none, Sem.run_pure, hx, hy, hz, hr, Result.andThen_ok]
  exact hK _ _ (hk A' ha)
theorem wslN {ops : Array Oper} {Q : Exit → Act → World → Prop} {a : Act} {w : World} {rest : List Oper} {dst : Option Tmp} {ty : TypeId} {pos : String} {after : Array Edge} {x y z : Operand} {A : Option Addr} {l : List Nat} {n cap i j N : Nat}
    (hx : a.eval x = .slice A n cap) (hy : a.eval y = .int .i64 i) (hz : a.eval z = .int .i64 j) (h : Arg w A l n cap) (hij : j = i + N) (hj : j ≤ n)
    (hk : ∀ A', Arg w A' ((l.drop i).take N) N (cap - i) → wpList Try.prog ops Q rest (a.put dst (.slice A' N (cap - i))) w) :
    wpList Try.prog ops Q (⟨dst, .slice 22 x (some y) (some z) none, ty, pos, after, none⟩ :: rest) a w := by
  subst hij
  refine wsl hx hy hz h (Nat.le_add_right _ _) hj fun A' ha => ?_
  rw [Nat.add_sub_cancel_left] at ha ⊢
  exact hk A' ha
end Go.Proofs.Ytiebaiofpihoiaa
