/-
  An append to an empty slice without room lays nothing into what is there.
-/
import Derived.Test.YtiebaiofpihoiaaOwn3
namespace Go.Proofs.Ytiebaiofpihoiaa
open Go.ChangeShapes Go.WideShapes Go.ChangeAt Go.RowKit
section
variable {a : Act} {w : World} {dst : Option Tmp} {ty : TypeId} {pos : String} {after : Array Edge} {gd : Option (Nat × Bool)} {s x : Operand} {m c B B' g : Nat} {kk : List Nat} {S e : TypeId} {k : IntKind} {ad : Addr}
theorem run_app0 (E : Elt S e k) (hown : Own e k w B (.slice (some ⟨g, 0, none⟩) 0 0) []) (hrd : Nums k w B' (some ad) kk) (hk : kk.length = m) (hsz : m ≤ 1000000) (hB : B ≤ w.heap.size) :
    ∃ v' w', (Builtin.append_ #[S, S] ty #[.slice (some ⟨g, 0, none⟩) 0 0, .slice (some ad) m c]).run Try.prog w = .ok v' w' ∧ Own e k w' B v' kk ∧ Below w.heap.size w w' := by
  obtain ⟨v', w', hr, ho, _⟩ := run_appN (ty := ty) (c := c) E hown hrd hk (by rw [List.length_nil]; omega) hB
  rw [List.nil_append] at ho
  obtain ⟨i, hi, hz, h1, h2⟩ := E.inf
  have hbytes : (0 + m) * i.bytes ≤ 140737488355328 := Nat.le_trans (Nat.mul_le_mul (show 0 + m ≤ 1000000 by omega) h2) (by omega)
  have hl1 : (nums k kk).length = m * i.size := by rw [nums_length, h1, Nat.mul_one, hk]
  refine ⟨v', w', hr, ho, ?_⟩
  by_cases hm : m = 0
  · rcases hown.2 with ⟨e', _⟩ | ⟨g2, cap2, cur, e', hB2, hg, hnc, hcm, hcs, ht⟩
    · cases e'
    · simp only [List.length_nil, Value.slice.injEq, Option.some.injEq, Addr.mk.injEq, and_true, true_and] at e'
      obtain ⟨rfl, rfl⟩ := e'
      have hkk : kk = [] := List.eq_nil_of_length_eq_zero (by omega)
      subst hkk
      subst hm
      have hrun := run_append_room (P := Try.prog) w S ty e i E.und hi g 0 0 cur hg ad 0 c (nums k []) hl1 (nums_reads hrd hk) (nums_oneCell []) (Nat.le_refl _) (by simp [nums])
      rw [hrun] at hr
      cases hr
      have hb : Blk w g e cur := hg
      simp only [List.take_zero, List.nil_append, show nums k [] = [] from rfl, Nat.zero_mul, Nat.add_zero, List.length_nil, List.drop_zero, Array.toArray_toList]
      rw [hb.setRow_id]
      exact Below.refl _ _
  · have hrun := run_append_grow (P := Try.prog) w S ty e i (.int k 0) E.und hi hz ⟨g, 0, none⟩ 0 0 [] (by simp) (fun j v hj => by simp at hj) ad m c (nums k kk) hl1 (nums_reads hrd hk) (by omega) (by omega) (growslice_fits (by omega) hbytes)
    rw [hrun] at hr
    cases hr
    exact (Below.refl _ _).drew.alloc (Nat.le_refl _) _
/-- The same in a region that draws its order. -/
theorem gives_app0 {A : Option Addr} {T : Value → Prop} {R : Value → World → Prop} (E : Elt S e k) (hs : a.eval s = .slice (some ⟨g, 0, none⟩) 0 0) (hx : a.eval x = .slice A m c) (h0 : A = none → m = 0 ∧ c = 0) (hown : Own e k w B (.slice (some ⟨g, 0, none⟩) 0 0) []) (hrd : Nums k w B' A kk) (hk : kk.length = m) (hsz : m ≤ 1000000) (hB : B ≤ w.heap.size)
    (h : ∀ v' w', Own e k w' B v' kk → Below w.heap.size w w' → T v' ∧ R v' w') :
    ∃ v', T v' ∧ Gives Try.prog ⟨dst, .call { callee := .builtin .append, args := #[s, x], argTypes := #[S, S] }, ty, pos, after, gd⟩ a w v' (R v') := by
  cases A with
  | some ad =>
    obtain ⟨v', w', hr, h1, h2⟩ := run_app0 (ty := ty) (c := c) E hown hrd hk hsz hB
    obtain ⟨h6, h7⟩ := h v' w' h1 h2
    refine ⟨v', h6, gives_value ?_ h7⟩
    unfold execOp
    simp only [resolve, invoke, builtin, Sem.run_bind, Sem.run_pure, Result.andThen_ok, List.map_toArray, List.map_cons, List.map_nil, hs, hx, hr]
  | none =>
    obtain ⟨rfl, rfl⟩ := h0 rfl
    obtain rfl := List.eq_nil_of_length_eq_zero hk
    obtain ⟨h6, h7⟩ := h _ w hown (Below.refl _ _)
    refine ⟨_, h6, gives_value ?_ h7⟩
    have hr : (Builtin.append_ #[S, S] ty #[.slice (some ⟨g, 0, none⟩) 0 0, .slice none 0 0]).run Try.prog w = .ok (.slice (some ⟨g, 0, none⟩) 0 0) w := by
      obtain ⟨i, hi, hz, h1, h2⟩ := E.inf
      exact run_append_owned_none (P := Try.prog) w B S ty e i 1 E.und hi _ 0 _ hown
    unfold execOp
    simp only [resolve, invoke, builtin, Sem.run_bind, Sem.run_pure, Result.andThen_ok, List.map_toArray, List.map_cons, List.map_nil, hs, hx, hr]
end
end Go.Proofs.Ytiebaiofpihoiaa
