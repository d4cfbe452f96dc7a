/-
  '==' of two arrays of integers.
-/
import Derived.Test.YtfnepbkgmopjcaaMem
import Derived.Laws.StructEq
namespace Go.Proofs.Ytfnepbkgmopjcaa
open Go.RowKit
/-- Are the first n alike? -/
def eqN (n : Nat) (f g : Nat → Int) : Bool := (List.range n).all fun k => f k == g k
section
variable {P : Program}
theorem eq_rounds {d e : TypeId} {k' : IntKind} {k : IntKind} {n : Nat} {f g : Nat → Int} (he : P.underlying e = some (.int k')) (w : World) : ∀ (m i : Nat), i + m = n →
    (forIn (m := Sem) (List.range' i m) ((none, ()) : Option Bool × Unit) (fun i _ => do
      let a ← part e (row n fun k' => .int k (f k')) (i * 1)
      let b ← part e (row n fun k' => .int k (g k')) (i * 1)
      let r ← Op.equalIn (d + 1) e a b
      if !r then pure (ForInStep.done (some false, ())) else pure (ForInStep.yield (none, ())))).run P w =
    .ok (if (List.range' i m).all (fun k => f k == g k) then (none, ()) else (some false, ())) w
  | 0, i, _ => by simp
  | m + 1, i, h => by
    have hp : ∀ (h : Nat → Int), (part e (row n fun k' => .int k (h k')) (i * 1)).run P w = .ok (.int k (h i)) w := fun h' => by
      have : (isAgg e).run P w = .ok false w := by unfold isAgg; rw [Sem.run_bind, run_underlying he w]; rfl
      simp [part, Sem.run_bind, this, get_row_lt (show i < n by omega)]
    rw [List.range'_succ, List.forIn_cons]
    simp only [Sem.run_bind, hp, Result.andThen_ok, run_equalIn_int w d e k k' _ _ he, List.all_cons]
    by_cases hfg : f i == g i
    · simp only [hfg, Bool.not_true, Bool.false_eq_true, if_false, Sem.run_pure, Result.andThen_ok, Bool.true_and]
      exact eq_rounds he w m (i + 1) (by omega)
    · simp [hfg, Sem.run_pure, Result.andThen_ok]
theorem run_equalIn_row {d t e : TypeId} {k' : IntKind} {k : IntKind} {n : Nat} {f g : Nat → Int} (ht : P.underlying t = some (.array n e)) (he : P.underlying e = some (.int k')) (hi : (P.info? e).map (·.size) = some 1) (w : World) :
    (Op.equalIn (d + 2) t (.agg (row n fun j => .int k (f j))) (.agg (row n fun j => .int k (g j)))).run P w = .ok (eqN n f g) w := by
  have hs : (sizeOf e).run P w = .ok 1 w := by
    cases hq : P.info? e with
    | none => simp [hq] at hi
    | some i => simp [hq] at hi; simp [sizeOf, typeInfo, hq, hi]
  have key := eq_rounds (P := P) (d := d) (k := k) (f := f) (g := g) (n := n) he w n 0 (by omega)
  unfold Op.equalIn
  simp only [Sem.run_bind, run_underlying ht, Result.andThen_ok, hs]
  rw [Std.Legacy.Range.forIn_eq_forIn_range']
  have hr : List.range' (Std.Legacy.Range.mk 0 n 1 (by decide)).start (Std.Legacy.Range.mk 0 n 1 (by decide)).size (Std.Legacy.Range.mk 0 n 1 (by decide)).step = List.range' 0 n := by
    simp [Std.Legacy.Range.size]
  rw [hr, key]
  simp only [Result.andThen_ok]
  unfold eqN
  rw [List.range_eq_range']
  by_cases h : ((List.range' 0 n).all fun k => f k == g k) = true
  · simp [h]
  · simp [h]
end
/-- Are two sectors alike? -/
def eqS (f g : Nat → Nat) : Bool := eqN 64 (fun k => f k) fun k => g k
theorem eqS_iff {f g : Nat → Nat} : eqS f g = true ↔ ∀ k, k < 64 → f k = g k := by
  unfold eqS eqN
  rw [List.all_eq_true]
  constructor
  · intro h k hk
    have := h k (List.mem_range.2 hk)
    exact Int.ofNat_inj.1 (beq_iff_eq.1 this)
  · intro h k hk
    have := h k (List.mem_range.1 hk)
    exact beq_iff_eq.2 (congrArg _ this)
theorem eqS_yes {f g : Nat → Nat} (h : ∀ k, k < 64 → f k = g k) : eqS f g = true := eqS_iff.2 h
theorem eqS_no {f g : Nat → Nat} (h : ¬ ∀ k, k < 64 → f k = g k) : eqS f g = false := by
  cases e : eqS f g with
  | false => rfl
  | true => exact absurd (eqS_iff.1 e) h
theorem eqS_sec {f g : Nat → Nat} : eqS f g = true ↔ sec f = sec g := by
  rw [eqS_iff]
  exact ⟨sec_ext, sec_inj⟩
end Go.Proofs.Ytfnepbkgmopjcaa
