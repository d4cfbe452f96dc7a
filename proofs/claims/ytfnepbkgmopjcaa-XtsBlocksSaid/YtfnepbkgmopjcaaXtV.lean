/-
  A mode among blocks that stand: Seal and Open asked of it.
-/
import Derived.Test.YtfnepbkgmopjcaaXtO
namespace Go.Proofs.Ytfnepbkgmopjcaa
open Go.ChangeShapes Go.WideShapes Go.ChangeAt Go.RowKit
open AesM (Bt Q16)
open AesP (tBk tKey wr_nat Cip cip_lt)
attribute [local go_sem] Gives
section
variable {ops : Array Oper} {Q : Exit → Act → World → Prop} {a : Act} {w : World} {rest : List Oper} {dst : Option Tmp} {ty : TypeId} {pos : String} {after : Array Edge}
theorem bldL {T : TypeId} {parts : Array (Nat × Operand)} {cs : Array Value} (hb : ∀ w, (Instr.build T (parts.map fun (i, x) => (i, a.eval x))).run Try.prog w = .ok (.agg cs) w) (h : wpList Try.prog ops Q rest (a.put dst (.agg cs)) w) :
    wpList Try.prog ops Q (⟨dst, .build T parts, ty, pos, after, none⟩ :: rest) a w := by
  refine wpList_plain rfl fun K hK => ?_
  unfold Oper.wp execOp
  simp only [Sem.run_bind, hb w, Result.andThen_ok, Sem.run_pure]
  exact hK _ _ h
theorem map_one (i : Nat) (v : Value) (a : Act) : (#[(i, Operand.const v)] : Array (Nat × Operand)).map (fun (i, x) => (i, a.eval x)) = #[(i, v)] := by
  simp only [List.map_toArray, List.map_cons, List.map_nil]; rfl
theorem map_none (a : Act) : (#[] : Array (Nat × Operand)).map (fun (i, x) => (i, a.eval x)) = #[] := by
  simp only [List.map_toArray, List.map_nil]
theorem bld_one {T : TypeId} {i : Nat} {v : Value} {cs : Array Value} (hb : ∀ w, (Instr.build T #[(i, v)]).run Try.prog w = .ok (.agg cs) w) (h : wpList Try.prog ops Q rest (a.put dst (.agg cs)) w) :
    wpList Try.prog ops Q (⟨dst, .build T #[(i, .const v)], ty, pos, after, none⟩ :: rest) a w := bldL (fun w => by rw [map_one]; exact hb w) h
theorem bld_none {T : TypeId} {cs : Array Value} (hb : ∀ w, (Instr.build T #[]).run Try.prog w = .ok (.agg cs) w) (h : wpList Try.prog ops Q rest (a.put dst (.agg cs)) w) :
    wpList Try.prog ops Q (⟨dst, .build T #[], ty, pos, after, none⟩ :: rest) a w := bldL (fun w => by rw [map_none]; exact hb w) h
section
variable {C : World → Prop} {Qk : Act → Prop} {gd : Option (Nat × Bool)}
theorem kbld_one {T : TypeId} {i : Nat} {v : Value} {cs : Array Value} (hwt : Region.wanted ⟨dst, .build T #[(i, .const v)], ty, pos, after, gd⟩ (yielded ops a.tmps) = true) (hb : ∀ w, (Instr.build T #[(i, v)]).run Try.prog w = .ok (.agg cs) w)
    (h : wpK Try.prog ops C Qk rest (a.put dst (.agg cs))) : wpK Try.prog ops C Qk (⟨dst, .build T #[(i, .const v)], ty, pos, after, gd⟩ :: rest) a := kbldA hwt (fun w => by rw [map_one]; exact hb w) h
theorem kbld_none {T : TypeId} {cs : Array Value} (hwt : Region.wanted ⟨dst, .build T #[], ty, pos, after, gd⟩ (yielded ops a.tmps) = true) (hb : ∀ w, (Instr.build T #[]).run Try.prog w = .ok (.agg cs) w)
    (h : wpK Try.prog ops C Qk rest (a.put dst (.agg cs))) : wpK Try.prog ops C Qk (⟨dst, .build T #[], ty, pos, after, gd⟩ :: rest) a := kbldA hwt (fun w => by rw [map_none]; exact hb w) h
end
end
namespace XtP
/-- From w1 on: the mode at g, of ciphers of K and L, stands; all blocks but the first cipher stand. -/
def Mo (W w1 : World) (g c d : Nat) (K L : Nat → Nat) (w' : World) : Prop :=
  Md w' g c d ∧ (∃ b, Cip w' c K b) ∧ (∃ b, Cip w' d L b) ∧ W.heap.size ≤ c ∧ (∀ k, k < w1.heap.size → k ≠ c → w'.heap[k]? = w1.heap[k]?) ∧ Below W.heap.size W w' ∧ w1.heap.size ≤ w'.heap.size
section
variable {W w1 w' w2 : World} {g c d n : Nat} {K L s : Nat → Nat}
theorem Mo.blk {k : Nat} {t : TypeId} {cs : Array Value} (h : Mo W w1 g c d K L w') (hb : Blk w1 k t cs) (hk : k ≠ c) : Blk w' k t cs := (h.2.2.2.2.1 k hb.lt hk).trans hb
theorem Mo.base (h : Mo W w1 g c d K L w') : Below W.heap.size W w' := h.2.2.2.2.2.1
theorem Mo.lt (h : Mo W w1 g c d K L w') : c < w'.heap.size := by obtain ⟨b, h1⟩ := h.2.1; exact cip_lt h1
theorem Mo.ne (h : Mo W w1 g c d K L w') : g ≠ c := by obtain ⟨b, h1⟩ := h.2.1; exact (h.1.ne h1).symm
theorem Mo.kc (h : Mo W w1 g c d K L w') (hk : Kc w' c K w2) : Mo W w1 g c d K L w2 :=
  ⟨hk.blk h.1 h.ne, hk.1, cip_keep h.2.1 h.2.2.1 hk.1 hk.2, h.2.2.2.1, fun k hk1 hne => (hk.2.block k (by have := h.2.2.2.2.2.2; omega) (fun e => hne (by injection e))).trans (h.2.2.2.2.1 k hk1 hne),
    h.base.trans (only_Below hk.2 h.2.2.2.1 h.base.size), Nat.le_trans h.2.2.2.2.2.2 hk.2.size⟩
theorem Mo.below (h : Mo W w1 g c d K L w') (hb : Below w'.heap.size w' w2) : Mo W w1 g c d K L w2 := h.kc ((show Kc w' c K w' from ⟨h.2.1, only_refl _ _⟩).more hb)
theorem Mo.drew (h : Mo W w1 g c d K L w') : Mo W w1 g c d K L w'.drew := ⟨h.1, h.2.1, h.2.2.1, h.2.2.2.1, h.2.2.2.2.1, h.base.drew, h.2.2.2.2.2.2⟩
theorem Mo.renew (h : Mo W w1 g c d K L w') : Mo W w' g c d K L w' := ⟨h.1, h.2.1, h.2.2.1, h.2.2.2.1, fun _ _ _ => rfl, h.base, Nat.le_refl _⟩
theorem Mo.alloc (h : Mo W w1 g c d K L w') (o : Obj) : Mo W w1 g c d K L (w'.alloc o) := h.below ((Below.refl _ _).alloc (Nat.le_refl _) _)
theorem Mo.setRow (h : Mo W w1 g c d K L w') {k : Nat} (hk : w1.heap.size ≤ k) (hW : W.heap.size ≤ w1.heap.size) (hg : k ≠ g) (hc : k ≠ c) (hd : k ≠ d) (cs : Array Value) : Mo W w1 g c d K L (w'.setRow k cs) :=
  ⟨Blk.setRow_other h.1 hg _, by obtain ⟨b, h1⟩ := h.2.1; exact ⟨b, Blk.setRow_other h1 hc _⟩, by obtain ⟨b, h1⟩ := h.2.2.1; exact ⟨b, Blk.setRow_other h1 hd _⟩, h.2.2.2.1,
    fun j hj hne => (Go.setRow_other w' k j cs (by omega)).trans (h.2.2.2.2.1 j hj hne), below_setRow h.base (by omega) _, by simpa using h.2.2.2.2.2.2⟩
theorem Mo.setCell (h : Mo W w1 g c d K L w') {p : Addr} (hk : w1.heap.size ≤ p.block) (hW : W.heap.size ≤ w1.heap.size) (hg : p.block ≠ g) (hc : p.block ≠ c) (hd : p.block ≠ d) (v : Value) : Mo W w1 g c d K L (w'.setCell p v) :=
  ⟨Blk.setCell_other h.1 hg _, by obtain ⟨b, h1⟩ := h.2.1; exact ⟨b, Blk.setCell_other h1 hc _⟩, by obtain ⟨b, h1⟩ := h.2.2.1; exact ⟨b, Blk.setCell_other h1 hd _⟩, h.2.2.2.1,
    fun j hj hne => (Below.heap_setCell w' p v j (by omega)).trans (h.2.2.2.2.1 j hj hne), h.base.setCell (by omega) _, by simpa using h.2.2.2.2.2.2⟩
theorem Mo.three (h : Mo W w1 g c d K L w') : g < w'.heap.size ∧ c < w'.heap.size ∧ d < w'.heap.size := by
  obtain ⟨b, h1⟩ := h.2.1
  obtain ⟨b', h2⟩ := h.2.2.1
  exact ⟨h.1.lt, cip_lt h1, cip_lt h2⟩
theorem Mo.double (h : Mo W w1 g c d K L w') {t : Nat → Nat} (ht : Bt t) :
    Calls Try.prog 15 #[.agg (ar 16 t)] w' fun e w2 => e = .returned (.agg (ar 16 (XtM.dbl t))) ∧ Mo W w1 g c d K L w2 := (double_any t ht w').mono fun _ _ ⟨he, hb⟩ => ⟨he, h.below hb⟩
theorem Mo.sealing (h : Mo W w1 g c d K L w') (hK : Bt K) (hL : Bt L) (hs : Bt s) (hn : n < 18446744073709551616) :
    Calls Try.prog 10 #[.pointer (some ⟨g, 0, none⟩), .int .u64 n, .agg (ar 64 s)] w' fun e w2 => e = .returned (.agg (ar 64 (XtM.sect (AesM.sealM K) (AesM.sealM L (XtM.tw n)) s))) ∧ Mo W w1 g c d K L w2 :=
  (sealing_any K L s hK hL hs n hn g c d w' h.1 h.2.1 h.2.2.1).mono fun _ _ ⟨he, hk⟩ => ⟨he, h.kc hk⟩
theorem Mo.opening (h : Mo W w1 g c d K L w') (hK : Bt K) (hL : Bt L) (hs : Bt s) (hn : n < 18446744073709551616) :
    Calls Try.prog 12 #[.pointer (some ⟨g, 0, none⟩), .int .u64 n, .agg (ar 64 s)] w' fun e w2 => e = .returned (.agg (ar 64 (XtM.sect (AesM.open' K) (AesM.sealM L (XtM.tw n)) s))) ∧ Mo W w1 g c d K L w2 :=
  (opening_any K L s hK hL hs n hn g c d w' h.1 h.2.1 h.2.2.1).mono fun _ _ ⟨he, hk⟩ => ⟨he, h.kc hk⟩
theorem Mo.start (hm : Md w' g c d) (hc : ∃ b, Cip w' c K b) (hd : ∃ b, Cip w' d L b) (hW : W.heap.size ≤ c) (hb : Below W.heap.size W w') : Mo W w' g c d K L w' := ⟨hm, hc, hd, hW, fun _ _ _ => rfl, hb, Nat.le_refl _⟩
end
theorem back_sealed {K L s : Nat → Nat} (hK : Bt K) (hL : Bt L) (hs : Bt s) (n j : Nat) : XtM.sect (AesM.open' K) (AesM.sealM L (XtM.tw n)) (XtM.sect (AesM.sealM K) (AesM.sealM L (XtM.tw n)) s) j = s j :=
  XtM.sect_back (fun _ _ h => AesM.open_q h) (fun _ h => AesM.open_seal hK h) (AesM.seal_bt hL) hs j
theorem back_opened {K L s : Nat → Nat} (hK : Bt K) (hL : Bt L) (hs : Bt s) (n j : Nat) : XtM.sect (AesM.sealM K) (AesM.sealM L (XtM.tw n)) (XtM.sect (AesM.open' K) (AesM.sealM L (XtM.tw n)) s) j = s j :=
  XtM.sect_back (fun _ _ h => AesM.seal_q h) (fun _ h => AesM.seal_open hK h) (AesM.seal_bt hL) hs j
theorem sealed_bt {K L s : Nat → Nat} (hK : Bt K) (hL : Bt L) (hs : Bt s) (n : Nat) : Bt (XtM.sect (AesM.sealM K) (AesM.sealM L (XtM.tw n)) s) := XtM.sect_bt (fun _ _ => AesM.seal_bt hK) (AesM.seal_bt hL) hs
theorem opened_bt {K L s : Nat → Nat} (hK : Bt K) (hL : Bt L) (hs : Bt s) (n : Nat) : Bt (XtM.sect (AesM.open' K) (AesM.sealM L (XtM.tw n)) s) := XtM.sect_bt (fun _ _ => AesM.open_bt hK) (AesM.seal_bt hL) hs
end XtP
end Go.Proofs.Ytfnepbkgmopjcaa
