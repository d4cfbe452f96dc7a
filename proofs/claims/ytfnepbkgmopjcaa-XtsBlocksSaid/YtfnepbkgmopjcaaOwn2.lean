/-
  Two slices of the call's own beside each other: where the result of an append lies.
-/
import Derived.Test.YtfnepbkgmopjcaaOwn
import Derived.Deep.DeepAppendRoom
namespace Go.Proofs.Ytfnepbkgmopjcaa
open Go.ChangeShapes Go.WideShapes Go.ChangeAt Go.RowKit
section
variable {ops : Array Oper} {Q : Exit → Act → World → Prop} {a : Act} {w : World} {rest : List Oper} {dst : Option Tmp} {ty : TypeId} {pos : String} {after : Array Edge} {s x : Operand} {m c B B' : Nat} {v : Value} {l kk : List Nat} {S e : TypeId} {k : IntKind} {ad : Addr}
theorem nums_reads (hrd : Nums k w B' (some ad) kk) (_hk : kk.length = m) : ∀ j u, (nums k kk)[j]? = some u → w.cell? (ad.add j) = some u := fun j u hj => by
  have hjm : j < kk.length := by
    have := (List.getElem?_eq_some_iff.1 hj).1
    rwa [nums_length] at this
  obtain ⟨b, o, e', _, hr⟩ := hrd (by omega)
  obtain rfl : ad = ⟨b, o, none⟩ := Option.some.inj e'
  rw [nums_get k hjm] at hj
  rw [Addr.add_mid, hr j hjm]
  exact hj
theorem nums_oneCell (kk : List Nat) : ∀ u ∈ nums k kk, u.oneCell' = true := fun u hu => by
  obtain ⟨y, _, rfl⟩ := List.mem_map.1 hu
  rfl
/-- It lies where the slice lay, or anew. -/
theorem run_appN_where (E : Elt S e k) (hown : Own e k w B v l) (hrd : Nums k w B' (some ad) kk) (hk : kk.length = m) (hsz : l.length + m ≤ 1000000) {v' : Value} {w' : World}
    (hr : (Builtin.append_ #[S, S] ty #[v, .slice (some ad) m c]).run Try.prog w = .ok v' w') : v'.ownBlock = v.ownBlock ∨ v'.ownBlock = some w.heap.size := by
  obtain ⟨i, hi, hz, h1, h2⟩ := E.inf
  have hbytes : (l.length + m) * i.bytes ≤ 140737488355328 := Nat.le_trans (Nat.mul_le_mul hsz h2) (by omega)
  have hl1 : (nums k kk).length = m * i.size := by rw [nums_length, h1, Nat.mul_one, hk]
  rcases hown.2 with ⟨rfl, h0⟩ | ⟨g, cap, cur, rfl, hB, hg, hnc, hcm, hcs, ht⟩
  · by_cases hm : m = 0
    · subst hm
      have hn : kk = [] := List.eq_nil_of_length_eq_zero hk
      subst hn
      left
      have hrun : (Builtin.append_ #[S, S] ty #[.slice none 0 0, .slice (some ad) 0 c]).run Try.prog w = .ok (.slice none 0 0) w := by
        simp [Builtin.append_, run_underlying E.und, sizeOf, typeInfo, hi, Builtin.lenOf, Builtin.firstCells, loadCells, loadCellsFrom]
      rw [hrun] at hr
      cases hr
      rfl
    · right
      rw [h0] at hbytes hsz
      rw [Nat.zero_add] at hbytes
      have hrun := run_append_nil (P := Try.prog) w S ty e i (.int k 0) E.und hi hz ad m c (nums k kk) hl1 (nums_reads hrd hk) (by omega) (by omega) (by omega)
      rw [hrun] at hr
      cases hr
      rfl
  · rw [Nat.mul_one] at hcs ht
    by_cases hroom : l.length + m ≤ cap
    · left
      have hrun := run_append_room (P := Try.prog) w S ty e i E.und hi g l.length cap cur hg ad m c (nums k kk) hl1 (nums_reads hrd hk) (nums_oneCell kk) hroom (by rw [h1, Nat.mul_one, nums_length, hcs]; omega)
      rw [hrun] at hr
      cases hr
      rfl
    · right
      have hown' : w.ownsRow B e i.size (.slice (some ⟨g, 0, none⟩) l.length cap) l.length (nums k l) := by rw [h1]; exact hown
      have holds : ∀ j u, (nums k l)[j]? = some u → w.cell? ((⟨g, 0, none⟩ : Addr).add j) = some u := hown.cells (g := g) rfl
      have hrun := run_append_grow (P := Try.prog) w S ty e i (.int k 0) E.und hi hz ⟨g, 0, none⟩ l.length cap (nums k l) (by rw [nums_length, h1, Nat.mul_one]) holds ad m c (nums k kk) hl1 (nums_reads hrd hk) (by omega) (by omega) (growslice_fits (by omega) hbytes)
      rw [hrun] at hr
      cases hr
      rfl
theorem wappW {A : Option Addr} (E : Elt S e k) (hs : a.eval s = v) (hx : a.eval x = .slice A m c) (h0 : A = none → m = 0 ∧ c = 0) (hown : Own e k w B v l) (hrd : Nums k w B' A kk) (hk : kk.length = m) (hsz : l.length + m ≤ 1000000) (hB : B ≤ w.heap.size)
    (h : ∀ v' w', Own e k w' B v' (l ++ kk) → w.grownBy w' v.ownBlock → (v'.ownBlock = v.ownBlock ∨ v'.ownBlock = some w.heap.size) → wpList Try.prog ops Q rest (a.put dst v') w') :
    wpList Try.prog ops Q (⟨dst, .call { callee := .builtin .append, args := #[s, x], argTypes := #[S, S] }, ty, pos, after, none⟩ :: rest) a w := by
  cases A with
  | some ad =>
    obtain ⟨v', w', hr, h1, h2⟩ := run_appN (ty := ty) (c := c) E hown hrd hk hsz hB
    have h3 := run_appN_where E hown hrd hk hsz hr
    refine wpList_plain rfl fun K hK => ?_
    unfold Oper.wp execOp
    simp only [resolve, invoke, builtin, Sem.run_bind, Sem.run_pure, Result.andThen_ok, List.map_toArray, List.map_cons, List.map_nil, hs, hx, hr]
    exact hK _ _ (h v' w' h1 h2 h3)
  | none =>
    obtain ⟨rfl, rfl⟩ := h0 rfl
    obtain rfl := List.eq_nil_of_length_eq_zero hk
    rw [List.append_nil] at h
    exact wappN_none E hs hx hown (h v w hown ⟨rfl, rfl, rfl, Nat.le_refl _, fun _ _ _ => rfl⟩ (.inl rfl))
end
theorem Own.lower {e : TypeId} {k : IntKind} {w : World} {B B' : Nat} {v : Value} {l : List Nat} (h : Own e k w B v l) (hB : B' ≤ B) : Own e k w B' v l := by
  refine ⟨h.1, ?_⟩
  rcases h.2 with h' | ⟨g, cap, cur, hv, hb, hr⟩
  · exact .inl h'
  · exact .inr ⟨g, cap, cur, hv, Nat.le_trans hB hb, hr⟩
/-- They lie in rows of their own. -/
def Apart (v u : Value) : Prop := ∀ g, v.ownBlock = some g → u.ownBlock ≠ some g
theorem Apart.symm {v u : Value} (h : Apart v u) : Apart u v := fun g hu hv => h g hv hu
theorem Apart.nil (v : Value) : Apart v (.slice none 0 0) := fun g _ h => by cases h
theorem Own.keep {e : TypeId} {k : IntKind} {w w' : World} {B : Nat} {v u : Value} {l : List Nat} (h : Own e k w B v l) (hg : w.grownBy w' u.ownBlock) (hne : Apart v u) : Own e k w' B v l := by
  refine World.ownsRow.kept h hg ?_
  cases hv : v.ownBlock with
  | none => exact .inl rfl
  | some g => exact .inr (Ne.symm (hne g hv))
theorem Apart.app {e : TypeId} {k : IntKind} {w : World} {B : Nat} {v v' u : Value} {l : List Nat} (h : Apart v u) (hv : Own e k w B v l) (hw : v'.ownBlock = u.ownBlock ∨ v'.ownBlock = some w.heap.size) : Apart v v' := fun g hg => by
  rcases hw with hw | hw
  · rw [hw]; exact h g hg
  · rw [hw]
    intro e'
    have := (World.ownsRow.lt hv g hg).2
    rw [Option.some.inj e'] at this
    exact Nat.lt_irrefl _ this
theorem Blk.apart {w w' : World} {g : Nat} {t : TypeId} {cs : Array Value} {v : Value} (h : Blk w g t cs) (hg : w.grownBy w' v.ownBlock) (hne : v.ownBlock ≠ some g) : Blk w' g t cs :=
  (hg.block g h.lt fun e => hne e.symm).trans h
end Go.Proofs.Ytfnepbkgmopjcaa
