/-
  Ciphers of one key among blocks that stand: Seal and Open asked of them.
-/
import Derived.Test.YtfnepbkgmopjcaaAesG
import Derived.Test.YtfnepbkgmopjcaaRegNewG
import Derived.Test.YtfnepbkgmopjcaaArOpen
namespace Go.Proofs.Ytfnepbkgmopjcaa
open Go.ChangeShapes Go.WideShapes Go.ChangeAt Go.RowKit
open AesM (Bt ls Q16)
attribute [local go_sem] Gives GivesE
namespace AesP
/-- From w1 on: the blocks gs are ciphers of K, made by the call itself; all other blocks stand. -/
def Cl (W w1 : World) (gs : List Nat) (K : Nat → Nat) (w' : World) : Prop :=
  (∀ g ∈ gs, (∃ b, Cip w' g K b) ∧ W.heap.size ≤ g) ∧ (∀ k, k < w1.heap.size → k ∉ gs → w'.heap[k]? = w1.heap[k]?) ∧ Below W.heap.size W w' ∧ w1.heap.size ≤ w'.heap.size
section
variable {W w1 w' w2 : World} {gs : List Nat} {K f : Nat → Nat} {g : Nat}
theorem Cl.blk {k : Nat} {t : TypeId} {cs : Array Value} (h : Cl W w1 gs K w') (hb : Blk w1 k t cs) (hk : k ∉ gs) : Blk w' k t cs := (h.2.1 k hb.lt hk).trans hb
theorem Cl.below (h : Cl W w1 gs K w') (hb : Below w'.heap.size w' w2) : Cl W w1 gs K w2 :=
  ⟨fun g hg => ⟨by obtain ⟨b, hc⟩ := (h.1 g hg).1; exact ⟨b, Blk.below hc hb (cip_lt hc)⟩, (h.1 g hg).2⟩, fun k hk hn => (hb.block k (by have := h.2.2.2; omega)).trans (h.2.1 k hk hn), h.2.2.1.trans (hb.mono h.2.2.1.size), Nat.le_trans h.2.2.2 hb.size⟩
theorem Cl.drew (h : Cl W w1 gs K w') : Cl W w1 gs K w'.drew := ⟨h.1, h.2.1, h.2.2.1.drew, h.2.2.2⟩
theorem Cl.start (hc : ∀ g ∈ gs, (∃ b, Cip w1 g K b) ∧ W.heap.size ≤ g) (hb : Below W.heap.size W w1) : Cl W w1 gs K w1 := ⟨hc, fun _ _ _ => rfl, hb, Nat.le_refl _⟩
theorem Cl.sealing (h : Cl W w1 gs K w') (hg : g ∈ gs) (hK : Bt K) (hf : Bt f) :
    Calls Try.prog 18 #[.pointer (some ⟨g, 0, none⟩), .agg (ar 16 f)] w' fun e w2 => e = .returned (.agg (ar 16 (AesM.sealM K f))) ∧ Cl W w1 gs K w2 := by
  obtain ⟨b, hc⟩ := (h.1 g hg).1
  exact (seal_any K f b hK hf g w' hc).mono fun e _ ⟨he, hb⟩ => ⟨he, h.below hb⟩
theorem Cl.only (h : Cl W w1 gs K w') (hg : g ∈ gs) {b : Bool} (hc : Cip w2 g K b) (ho : w'.grownBy w2 (some g)) : Cl W w1 gs K w2 := by
  refine ⟨fun k hk => ⟨?_, (h.1 k hk).2⟩, fun k hk hn => ?_, ?_, Nat.le_trans h.2.2.2 ho.size⟩
  · by_cases e : k = g
    · subst e; exact ⟨b, hc⟩
    · obtain ⟨b', hc'⟩ := (h.1 k hk).1
      exact ⟨b', Blk.only hc' ho e⟩
  · have hne : k ≠ g := fun e => hn (by rw [e]; exact hg)
    exact (ho.block k (by have := h.2.2.2; omega) (fun e => hne (by injection e))).trans (h.2.1 k hk hn)
  · exact h.2.2.1.trans (only_Below ho (h.1 g hg).2 h.2.2.1.size)
theorem Cl.open' (h : Cl W w1 gs K w') (hg : g ∈ gs) (hK : Bt K) (hf : Bt f) :
    Calls Try.prog 25 #[.pointer (some ⟨g, 0, none⟩), .agg (ar 16 f)] w' fun e w2 => e = .returned (.agg (ar 16 (AesM.open' K f))) ∧ Cl W w1 gs K w2 := by
  obtain ⟨b, hc⟩ := (h.1 g hg).1
  exact (open_any K f b hK hf g w' hc).mono fun e _ ⟨he, hc2, ho⟩ => ⟨he, h.only hg hc2 ho⟩
end
theorem eqA_seal {K f g : Nat → Nat} (hK : Bt K) (hf : Bt f) (hg : Bt g) : eqA 16 (AesM.sealM K f) (AesM.sealM K g) = eqA 16 f g := by
  by_cases h : Q16 f g
  · rw [eqA_yes h, eqA_yes (AesM.seal_q h)]
  · rw [eqA_no h, eqA_no fun h2 => h (((AesM.open_seal hK hf).symm.trans (AesM.open_q h2)).trans (AesM.open_seal hK hg))]
theorem eqA_open {K f g : Nat → Nat} (hK : Bt K) (hf : Bt f) (hg : Bt g) : eqA 16 (AesM.open' K f) (AesM.open' K g) = eqA 16 f g := by
  by_cases h : Q16 f g
  · rw [eqA_yes h, eqA_yes (AesM.open_q h)]
  · rw [eqA_no h, eqA_no fun h2 => h (((AesM.seal_open hK hf).symm.trans (AesM.seal_q h2)).trans (AesM.seal_open hK hg))]
theorem cells_key : Try.prog.cellsOf 23 = 32 := by kernel_rfl
theorem cells_bk : Try.prog.cellsOf 35 = 16 := by kernel_rfl
theorem uKey : Try.prog.underlying 23 = some (.array 32 5) := Try.underlying23
end AesP
end Go.Proofs.Ytfnepbkgmopjcaa
