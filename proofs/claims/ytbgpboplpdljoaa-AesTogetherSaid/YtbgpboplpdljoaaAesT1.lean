/-
  The law AesTogether.
-/
import Derived.Test.YtbgpboplpdljoaaAesT0
namespace Go.Proofs.Ytbgpboplpdljoaa
open Go.ChangeShapes Go.WideShapes Go.ChangeAt Go.RowKit
open AesM (Bt ls Q16)
attribute [local go_sem] Gives GivesE
namespace AesP
theorem Blk.setCells_other {g g' : Nat} {t : TypeId} {cs : Array Value} (hne : g' ≠ g) : ∀ (vs : List Value) (o : Nat) (w : World), Blk w g t cs → Blk (w.setCells g' o vs) g t cs
  | [], _, _, h => by rw [World.setCells]; exact h
  | v :: r, o, w, h => by rw [World.setCells]; exact Blk.setCells_other hne r _ _ (h.setCell_other hne v)
/-- The opened blocks up to i. -/
def LoO (w : World) (g n : Nat) (L : Nat → Nat → Nat) (K : Nat → Nat) (i : Nat) : Prop :=
  ∃ F : Nat → Nat, Blk w g 24 (ar (n * 16) F) ∧ ∀ a, a < i → ∀ j, j < 16 → F (a * 16 + j) = AesM.open' K (L a) j
/-- The sealed blocks from behind. -/
def LoS (w : World) (g n : Nat) (L : Nat → Nat → Nat) (K : Nat → Nat) (i : Nat) : Prop :=
  ∃ F : Nat → Nat, Blk w g 24 (ar (n * 16) F) ∧ ∀ a, n ≤ a + i → a < n → ∀ j, j < 16 → F (a * 16 + j) = AesM.sealM K (L a) j
section
variable {w w' : World} {g n i p : Nat} {L : Nat → Nat → Nat} {K : Nat → Nat}
theorem LoO.blk (h : LoO w g n L K i) : ∃ F, Blk w g 24 (ar (n * 16) F) := h.imp fun _ h => h.1
theorem LoS.blk (h : LoS w g n L K i) : ∃ F, Blk w g 24 (ar (n * 16) F) := h.imp fun _ h => h.1
theorem LoO.to (h : LoO w g n L K i) (hk : w'.heap[g]? = w.heap[g]?) : LoO w' g n L K i := h.imp fun _ h => ⟨hk.trans h.1, h.2⟩
theorem LoS.to (h : LoS w g n L K i) (hk : w'.heap[g]? = w.heap[g]?) : LoS w' g n L K i := h.imp fun _ h => ⟨hk.trans h.1, h.2⟩
theorem LoO.step (h : LoO w g n L K i) (hi : i < n) : LoO (w.setCells g (i * 16) (ar 16 (AesM.open' K (L i))).toList) g n L K (i + 1) := by
  obtain ⟨F, hb, hF⟩ := h
  refine ⟨putA (i * 16) 16 F (AesM.open' K (L i)), (hb.arPut (by omega)).1, fun a ha j hj => ?_⟩
  unfold putA
  by_cases e : a = i
  · subst e
    rw [if_pos (by omega), show a * 16 + j - a * 16 = j by omega]
  · rw [if_neg (by omega)]
    exact hF a (by omega) j hj
theorem LoS.step (h : LoS w g n L K i) (hi : i < n) (hp : p = n - 1 - i) : LoS (w.setCells g (p * 16) (ar 16 (AesM.sealM K (L p))).toList) g n L K (i + 1) := by
  obtain ⟨F, hb, hF⟩ := h
  refine ⟨putA (p * 16) 16 F (AesM.sealM K (L p)), (hb.arPut (by omega)).1, fun a ha han j hj => ?_⟩
  unfold putA
  by_cases e : a = p
  · subst e
    rw [if_pos (by omega), show a * 16 + j - a * 16 = j by omega]
  · rw [if_neg (by omega)]
    exact hF a (by omega) han j hj
theorem LoO.range (h : LoO w g n L K n) (hi : i < n) : w.rangeAt g (i * 16) (ar 16 (AesM.open' K (L i))).toList := by
  obtain ⟨F, hb, hF⟩ := h
  have h1 := hb.arRange (o := i * 16) (m := 16) (by omega)
  rw [ar_ext (g := AesM.open' K (L i)) fun j hj => hF i hi j hj] at h1
  exact h1
theorem LoS.range (h : LoS w g n L K n) (hi : i < n) : w.rangeAt g (i * 16) (ar 16 (AesM.sealM K (L i))).toList := by
  obtain ⟨F, hb, hF⟩ := h
  have h1 := hb.arRange (o := i * 16) (m := 16) (by omega)
  rw [ar_ext (g := AesM.sealM K (L i)) fun j hj => hF i (by omega) hi j hj] at h1
  exact h1
theorem setCells_at {k o : Nat} {vs : List Value} (h : g ≠ k) : (w.setCells g o vs).heap[k]? = w.heap[k]? := by
  induction vs generalizing o w with
  | nil => rfl
  | cons v r ih => rw [World.setCells, ih]; exact Below.heap_setCell w ⟨g, o, none⟩ v k (Ne.symm h)
end
section
variable {a : Act} {w : World} {dst : Option Tmp} {ty : TypeId} {pos : String} {after : Array Edge} {gd : Option (Nat × Bool)} {x y : Operand} {r : TypeId} {f g : Nat → Nat}
theorem exec_neA (hx : a.eval x = .agg (ar 16 f)) (hy : a.eval y = .agg (ar 16 g)) : (execOp a.eval ⟨dst, .binOp .neq 24 x y r, ty, pos, after, gd⟩).run Try.prog w = .ok (.value (.bool (!eqA 16 f g))) w := by
  have h1 : (eqGuard .neq 24 x y (.agg (ar 16 f)) (.agg (ar 16 g))).run Try.prog w = .ok () w := by
    simp [eqGuard, eqg_bk, go_sem]
  simp only [execOp, hx, hy, Sem.run_bind, h1, run_neq_ar uBk, Result.andThen_ok, Sem.run_pure]
theorem kneA {ops : Array Oper} {C : World → Prop} {Qk : Act → Prop} {rest : List Oper} (b : Bool) (hwt : Region.wanted ⟨dst, .binOp .neq 24 x y r, ty, pos, after, gd⟩ (yielded ops a.tmps) = true) (hx : a.eval x = .agg (ar 16 f)) (hy : a.eval y = .agg (ar 16 g)) (hb : (!eqA 16 f g) = b)
    (h : wpK Try.prog ops C Qk rest (a.put dst (.bool b))) : wpK Try.prog ops C Qk (⟨dst, .binOp .neq 24 x y r, ty, pos, after, gd⟩ :: rest) a :=
  wpK_val hwt (fun w hw => gives_value (w' := w) (by rw [exec_neA hx hy, hb]) hw) h
end
def vB (A : Option Addr) (n cap : Nat) (γ : Nat × Nat) : Nat → Value
  | 0 | 3 => .slice A n cap
  | 2 | 6 => .slice (some ⟨γ.1, 0, none⟩) n n
  | 5 => .slice (some ⟨γ.2, 0, none⟩) n n
  | _ => .int .i64 n
theorem vB_other2 {A : Option Addr} {n cap g j : Nat} {γ : Nat × Nat} (h : j ≠ 2) (h6 : j ≠ 6) : vB A n cap γ j = vB A n cap (g, γ.2) j := by
  unfold vB; split <;> first | rfl | (exact absurd rfl h) | (exact absurd rfl h6)
theorem vB_other5 {A : Option Addr} {n cap g j : Nat} {γ : Nat × Nat} (h : j ≠ 5) : vB A n cap γ j = vB A n cap (γ.1, g) j := by
  unfold vB; split <;> first | rfl | (exact absurd rfl h)
theorem exec_mkB {a : Act} {w : World} {n : Nat} {x y : Operand} {dst : Option Tmp} {ty : TypeId} {pos : String} {after : Array Edge} {gd : Option (Nat × Bool)}
    (h : ∀ w : World, (Instr.makeSlice 52 (.int .i64 (n : Int)) (.int .i64 (n : Int))).run Try.prog w = .ok (.slice (some ⟨w.heap.size, 0, none⟩) n n) (w.alloc (.cells (ar (n * 16) fun _ => 0) 24)))
    (hx : a.eval x = .int .i64 (n : Int)) (hy : a.eval y = .int .i64 (n : Int)) :
    (execOp a.eval ⟨dst, .makeSlice 52 x y, ty, pos, after, gd⟩).run Try.prog w = .ok (.value (.slice (some ⟨w.heap.size, 0, none⟩) n n)) (w.alloc (.cells (ar (n * 16) fun _ => 0) 24)) := by
  simp only [execOp, hx, hy, Sem.run_bind, h w, Result.andThen_ok, Sem.run_pure]
set_option linter.unusedSimpArgs false in
set_option maxHeartbeats 2400000 in
set_option maxRecDepth 100000 in
theorem together_law (k : Nat → Nat) (hk : Bt k) (A : Option Addr) (n cap : Nat) (L : Nat → Nat → Nat) (hL : ∀ i, Bt (L i)) (W : World) (hA : Bks W W.heap.size A n L) :
    Calls Try.prog 8 #[.agg (ar 32 k), .slice A n cap] W fun e w' => e = .returned (.bool true) ∧ Below W.heap.size W w' := by
  have HK := hid hk
  have HL := hid hL
  have HA := hid hA
  have HKK := hid (AesM.ks_bt hk)
  clear hk hL hA
  go_enter Try.func8, Try.ntmps8
  go_upto_region 1 with fail
  generalize hw1 : World.alloc W _ = w1
  have b0 := hid (show Blk w1 W.heap.size 23 (ar 32 k) by rw [← hw1]; exact Blk.top rfl (by simp))
  have hb := hid (show Below W.heap.size W w1 by rw [← hw1]; exact (Below.refl _ _).alloc (Nat.le_refl _) _)
  clear hw1
  by_cases hn : 8 < n
  · have tn : (8 : Int) < (n : Int) := by omega
    go_wp2_with fail
    refine (awake_any w1).mono ?_
    rintro e w2 ⟨rfl, h2⟩
    go_wp2_with fail
    go_ret
    exact ⟨rfl, hb.out.trans (h2.mono hb.out.size)⟩
  · have tn : decide ((8 : Int) < (n : Int)) = false := by simp; omega
    have hn8 : n ≤ 8 := by omega
    clear hn
    go_wp2_with ((with_reducible apply ldA tKey); rfl; exact b0.out)
    refine (new_any k HK.out w1).mono ?_
    rintro e w2 ⟨c, rfl, hc1, hc2, h2⟩
    have d0 := hid (b0.out.below h2 b0.out.lt)
    have db := hid (hb.out.trans (h2.mono hb.out.size))
    have hcW : W.heap.size < c := by have := b0.out.lt; omega
    have hc := hid hc2
    clear b0 hb hc1 hc2 h2
    go_wp2_with fail
    have MK := hid (run_mkB n hn8)
    refine region_core (Γ := Nat × Nat) (C := Two w2 n) 7 (by kernel_rfl) (by kernel_rfl) (by kernel_rfl) (0, 0)
      ⟨(Below.refl _ _).drew, (fun h => by rw [getD_replicate_false] at h; cases h), (fun h => by rw [getD_replicate_false] at h; cases h), (fun h => by rw [getD_replicate_false] at h; cases h), (fun h => by rw [getD_replicate_false] at h; cases h)⟩
      (vB A n cap) ?_ ?_
    · intro i o hi γ M w' hsz hr hC
      have hi6 : i < 7 := by
        have := (List.getElem?_eq_some_iff.1 hi).1
        simpa using this
      match i, hi6 with
      | 0, _ =>
        simp only [List.take_succ_cons, List.getElem?_cons_zero, List.getElem?_cons_succ, Option.some.injEq] at hi
        subst hi
        refine ⟨γ, fun _ _ => rfl, .inl ⟨rfl, ?_⟩⟩
        simp only [lexF, List.take_succ_cons, List.take_zero, List.getElem?_cons_zero, List.getElem?_cons_succ, Option.bind_some, Act.put, List.setIfInBounds_toArray, List.set_cons_succ, List.set_cons_zero, vB]
        have hC' := hC.other (k := 0) (by omega) (by omega) (by omega)
        go_simp
      | 1, _ =>
        simp only [List.take_succ_cons, List.getElem?_cons_zero, List.getElem?_cons_succ, Option.some.injEq] at hi
        subst hi
        refine ⟨γ, fun _ _ => rfl, .inl ⟨rfl, ?_⟩⟩
        simp only [lexF, List.take_succ_cons, List.take_zero, List.getElem?_cons_zero, List.getElem?_cons_succ, Option.bind_some, Act.put, List.setIfInBounds_toArray, List.set_cons_succ, List.set_cons_zero, vB]
        have hC' := hC.other (k := 1) (by omega) (by omega) (by omega)
        go_simp
      | 2, _ =>
        simp only [List.take_succ_cons, List.getElem?_cons_zero, List.getElem?_cons_succ, Option.some.injEq] at hi
        subst hi
        refine ⟨(w'.heap.size, γ.2), fun j hj => ?_, .inl ⟨rfl, ?_⟩⟩
        · have hjn : j ≠ 2 := fun e => by subst e; rw [getD_both (mem_ready.1 hr).1] at hj; cases hj
          have hj6 : j ≠ 6 := fun e => by
            subst e
            have h := hC.2.2.2.2 hj
            rw [getD_both (mem_ready.1 hr).1] at h; cases h
          exact vB_other2 hjn hj6
        · simp only [lexF, List.take_succ_cons, List.take_zero, List.getElem?_cons_zero, List.getElem?_cons_succ, Option.bind_some, Act.put, List.setIfInBounds_toArray, List.set_cons_succ, List.set_cons_zero, vB]
          exact gives_value (exec_mkB MK.out rfl rfl) (hC.one (by rw [hsz]; decide))
      | 3, _ =>
        simp only [List.take_succ_cons, List.getElem?_cons_zero, List.getElem?_cons_succ, Option.some.injEq] at hi
        subst hi
        refine ⟨γ, fun _ _ => rfl, .inl ⟨rfl, ?_⟩⟩
        simp only [lexF, List.take_succ_cons, List.take_zero, List.getElem?_cons_zero, List.getElem?_cons_succ, Option.bind_some, Act.put, List.setIfInBounds_toArray, List.set_cons_succ, List.set_cons_zero, vB]
        have hC' := hC.other (k := 3) (by omega) (by omega) (by omega)
        go_simp
      | 4, _ =>
        simp only [List.take_succ_cons, List.getElem?_cons_zero, List.getElem?_cons_succ, Option.some.injEq] at hi
        subst hi
        refine ⟨γ, fun _ _ => rfl, .inl ⟨rfl, ?_⟩⟩
        simp only [lexF, List.take_succ_cons, List.take_zero, List.getElem?_cons_zero, List.getElem?_cons_succ, Option.bind_some, Act.put, List.setIfInBounds_toArray, List.set_cons_succ, List.set_cons_zero, vB]
        have hC' := hC.other (k := 4) (by omega) (by omega) (by omega)
        go_simp
      | 5, _ =>
        simp only [List.take_succ_cons, List.getElem?_cons_zero, List.getElem?_cons_succ, Option.some.injEq] at hi
        subst hi
        refine ⟨(γ.1, w'.heap.size), fun j hj => ?_, .inl ⟨rfl, ?_⟩⟩
        · have hjn : j ≠ 5 := fun e => by subst e; rw [getD_both (mem_ready.1 hr).1] at hj; cases hj
          exact vB_other5 hjn
        · simp only [lexF, List.take_succ_cons, List.take_zero, List.getElem?_cons_zero, List.getElem?_cons_succ, Option.bind_some, Act.put, List.setIfInBounds_toArray, List.set_cons_succ, List.set_cons_zero, vB]
          exact gives_value (exec_mkB MK.out rfl rfl) hC.two
      | 6, _ =>
        have h2 : M.getD 2 false = true := by
          obtain ⟨_, o', ho', hal⟩ := mem_ready.1 hr
          obtain rfl := Option.some.inj ho'
          exact hal ⟨2, .data⟩ (by simp) rfl
        simp only [List.take_succ_cons, List.getElem?_cons_zero, List.getElem?_cons_succ, Option.some.injEq] at hi
        subst hi
        refine ⟨γ, fun _ _ => rfl, .inl ⟨rfl, ?_⟩⟩
        simp only [lexF, List.take_succ_cons, List.take_zero, List.getElem?_cons_zero, List.getElem?_cons_succ, Option.bind_some, Act.put, List.setIfInBounds_toArray, List.set_cons_succ, List.set_cons_zero, vB]
        have hC' := hC.six h2
        go_simp
    intro γ M w3 hall hC
    obtain ⟨h3, hg1, hg2, hg3, _⟩ := hC
    have hs := hg1 (hall 2 (by omega))
    have ho := hg2 (hall 5 (by omega))
    have hne := hg3 (hall 2 (by omega)) (hall 5 (by omega))
    obtain ⟨gs, go⟩ := γ
    simp only at hs ho hne
    have d0' := hid (d0.out.below h3 d0.out.lt)
    have db' := hid (db.out.trans (h3.mono db.out.size))
    have hc' := hid (Blk.below hc.out h3 (cip_lt hc.out))
    have hs0 := hid hs.1
    have ho0 := hid ho.1
    have hcs : c < gs := Nat.lt_of_lt_of_le (cip_lt hc.out) hs.2
    have hco : c < go := Nat.lt_of_lt_of_le (cip_lt hc.out) ho.2
    clear d0 db hc MK hg1 hg2 hg3 h3 hs ho hall
    simp only [lexF, List.take_succ_cons, List.take_zero, List.drop_succ_cons, List.drop_zero, List.length_cons, List.length_nil, List.getElem?_cons_zero, List.getElem?_cons_succ, Option.bind_some, Act.put, List.setIfInBounds_toArray, List.set_cons_succ, List.set_cons_zero, vB]
    have hS0 : LoS w3 gs n L (AesM.ks k) 0 := ⟨_, hs0.out, fun a h1 h2 => by omega⟩
    have hO0 : LoO w3 go n L (AesM.ks k) 0 := ⟨_, ho0.out, fun a h1 => by omega⟩
    have S0 := hid hS0
    have O0 := hid hO0
    clear hs0 ho0 hS0 hO0
    go_wp2_with fail
    go_loopw [8] (fun u wr => ∃ (i : Nat) (m : Bool), i ≤ n ∧ u = .int .i64 i ∧ Hid (Cip wr c (AesM.ks k) m) ∧ Hid (Blk wr W.heap.size 23 (ar 32 k)) ∧ Hid (Below W.heap.size W wr) ∧ Hid (LoS wr gs n L (AesM.ks k) i) ∧ Hid (LoO wr go n L (AesM.ks k) i)) (fun u => fun _ => n - (intOf u).toNat)
    case atStart => exact ⟨0, _, by omega, rfl, hc', d0', db', S0, O0⟩
    case round =>
      clear hc' d0' db' S0 O0
      obtain ⟨i, m, hi, rfl, hc, d0, db, S0, O0⟩ := hrel
      by_cases hli : i < n
      · have ti : (i : Int) < (n : Int) := by omega
        obtain ⟨b, o, hA', hbW, hr⟩ := HA.out (by omega)
        subst hA'
        have RI := hid (range_below (hr i hli) db.out hbW)
        obtain ⟨p, hp⟩ : ∃ p, p = n - 1 - i := ⟨_, rfl⟩
        have hpn : p < n := by omega
        have tp : (p : Int) < (n : Int) := by omega
        have RP := hid fun (w' : World) (h : Below W.heap.size W w') => range_below (hr p hpn) h hbW
        obtain ⟨q, hq⟩ : ∃ q, q = n - 1 := ⟨_, rfl⟩
        have e1 := hid (show IntKind.i64.wrap ((n : Int) - 1) = (q : Int) from wr_nat (by omega) (by omega))
        have e2 := hid (show IntKind.i64.wrap ((q : Int) - (i : Int)) = (p : Int) from wr_nat (by omega) (by omega))
        have HP := hid hp
        clear hr hp hq
        have hWw := db.out.size
        go_wp2_with ((with_reducible apply ldAm tBk); rfl; exact RI.out)
        refine (open_any (AesM.ks k) (L i) m HKK.out (HL.out i) c wr hc.out).mono ?_
        rintro e wA ⟨rfl, hcA, hoA⟩
        have eA : ∀ k, k < wr.heap.size → k ≠ c → wA.heap[k]? = wr.heap[k]? := fun k h1 h2 => hoA.block k h1 (fun e => h2 (by injection e))
        obtain ⟨_, hgo⟩ := O0.out.blk
        obtain ⟨_, hgs⟩ := S0.out.blk
        have OA := hid (O0.out.to (eA go hgo.lt (by omega)))
        have SA := hid (S0.out.to (eA gs hgs.lt (by omega)))
        have dA := hid (Blk.only d0.out hoA (by omega))
        have bA := hid (db.out.trans (only_Below hoA (by omega) db.out.size))
        have cA := hid hcA
        clear hc d0 db S0 O0 hcA hoA eA hgo hgs RI
        obtain ⟨F1, hF1⟩ := OA.out.blk
        go_upto_region 9 with ((with_reducible apply stAm tBk); rfl; rfl; exact hF1; omega)
        generalize hwB : World.setCells _ _ _ _ = wB
        have OB := hid (show LoO wB go n L (AesM.ks k) (i + 1) by rw [← hwB]; exact OA.out.step hli)
        have SB := hid (show LoS wB gs n L (AesM.ks k) i by rw [← hwB]; exact SA.out.to (setCells_at (by omega)))
        have cB := hid (show Cip wB c (AesM.ks k) true by rw [← hwB]; exact Blk.setCells_other (by omega) _ _ _ cA.out)
        have dB := hid (show Blk wB W.heap.size 23 (ar 32 k) by rw [← hwB]; exact Blk.setCells_other (by omega) _ _ _ dA.out)
        have bB := hid (show Below W.heap.size W wB by rw [← hwB]; exact bA.out.trans ((hF1.arPut (by omega)).2.mono (by omega)))
        clear hwB OA SA cA dA bA hF1
        have RQ := hid (RP.out _ bB.out)
        have e1' := e1.out
        have e2' := e2.out
        go_wp2_with ((with_reducible apply ldAm tBk); rfl; exact RQ.out)
        refine (seal_any (AesM.ks k) (L p) true HKK.out (HL.out p) c wB cB.out).mono ?_
        rintro e wC ⟨rfl, hC⟩
        obtain ⟨_, hgo⟩ := OB.out.blk
        obtain ⟨_, hgs⟩ := SB.out.blk
        have OC := hid (OB.out.to (hC.block go hgo.lt))
        have SC := hid (SB.out.to (hC.block gs hgs.lt))
        have cC := hid (show Cip wC c (AesM.ks k) true from Blk.below cB.out hC (cip_lt cB.out))
        have dC := hid (dB.out.below hC dB.out.lt)
        have bC := hid (bB.out.trans (hC.mono bB.out.size))
        clear OB SB cB dB bB hC hgo hgs RQ
        obtain ⟨F2, hF2⟩ := SC.out.blk
        go_wp2_with ((with_reducible apply stAm tBk); rfl; rfl; exact hF2; omega)
        go_roundw
        case rel =>
          exact ⟨i + 1, true, by omega, by go_num, hid (Blk.setCells_other (by omega) _ _ _ cC.out), hid (Blk.setCells_other (by omega) _ _ _ dC.out), hid (bC.out.trans ((hF2.arPut (by omega)).2.mono (by omega))),
            hid (SC.out.step hli HP.out), hid (OC.out.to (setCells_at (by omega)))⟩
        case measure => simp [intOf]; omega
      · have ti : decide ((i : Int) < (n : Int)) = false := by simp; omega
        have SE := hid (show LoS wr gs n L (AesM.ks k) n by
          have e : i = n := by omega
          have h := S0.out
          rw [e] at h
          exact h)
        have OE := hid (show LoO wr go n L (AesM.ks k) n by
          have e : i = n := by omega
          have h := O0.out
          rw [e] at h
          exact h)
        clear S0 O0 hc
        go_wp2_with fail
        go_loopw [9] (fun u wr => ∃ i : Nat, i ≤ n ∧ u = .int .i64 i ∧ Hid (Blk wr W.heap.size 23 (ar 32 k)) ∧ Hid (Below W.heap.size W wr) ∧ Hid (LoS wr gs n L (AesM.ks k) n) ∧ Hid (LoO wr go n L (AesM.ks k) n)) (fun u => fun _ => n - (intOf u).toNat)
        case atStart => exact ⟨0, by omega, rfl, d0, db, SE, OE⟩
        case round =>
          clear d0 db SE OE ti hli hi
          obtain ⟨i, hi, rfl, d0, db, SE, OE⟩ := hrel
          by_cases hli : i < n
          · have ti : (i : Int) < (n : Int) := by omega
            obtain ⟨b, o, hA', hbW, hr⟩ := HA.out (by omega)
            subst hA'
            have RI := hid fun (w' : World) (h : Below W.heap.size W w') => range_below (hr i hli) h hbW
            clear hr
            go_wp2_with ((with_reducible apply ldA tKey); rfl; exact d0.out)
            refine (new_any k HK.out wr).mono ?_
            rintro e wD ⟨d, rfl, hd1, hd2, hD⟩
            obtain ⟨_, hgo⟩ := OE.out.blk
            obtain ⟨_, hgs⟩ := SE.out.blk
            have OD := hid (OE.out.to (hD.block go hgo.lt))
            have SD := hid (SE.out.to (hD.block gs hgs.lt))
            have dD := hid (d0.out.below hD d0.out.lt)
            have ngo : go ∉ [d] := by have := hgo.lt; simp; omega
            have ngs : gs ∉ [d] := by have := hgs.lt; simp; omega
            have nk : W.heap.size ∉ [d] := by have := d0.out.lt; simp; omega
            have lgo : go < wD.heap.size := Nat.lt_of_lt_of_le hgo.lt hD.size
            have lgs : gs < wD.heap.size := Nat.lt_of_lt_of_le hgs.lt hD.size
            have hcl : Cl W wD [d] (AesM.ks k) wD := Cl.start (fun g hg => by rw [List.mem_singleton] at hg; subst hg; exact ⟨⟨_, hd2⟩, Nat.le_trans db.out.size hd1⟩) (db.out.trans (hD.mono db.out.size))
            have HCL := hid hcl
            have mc : d ∈ [d] := List.mem_singleton.2 rfl
            clear OE SE d0 db hgo hgs hd1 hd2 hD hcl
            go_wp2_with fail
            refine wp_region_tail (C := Cl W wD [d] (AesM.ks k)) 24 (by kernel_rfl) (by kernel_rfl) (by kernel_rfl) HCL.out.drew ?_
            simp only [List.take_succ_cons, List.take_zero, List.drop_succ_cons, List.drop_zero]
            apply wpK_val
            · rfl
            · intro w' hw'
              go_simp
              first | exact rfl | exact ⟨rfl, hw'⟩
            simp only [Act.put, List.setIfInBounds_toArray, List.set_cons_succ, List.set_cons_zero]
            apply wpK_val
            · rfl
            · intro w' hw'
              go_simp
              first | exact rfl | exact ⟨rfl, hw'⟩
            simp only [Act.put, List.setIfInBounds_toArray, List.set_cons_succ, List.set_cons_zero]
            apply wpK_val
            · rfl
            · intro w' hw'
              go_simp
              first | exact rfl | exact ⟨rfl, hw'⟩
            simp only [Act.put, List.setIfInBounds_toArray, List.set_cons_succ, List.set_cons_zero]
            apply kldA tBk
            · rfl
            · rfl
            · exact fun w' hw' => (SD.out.to (hw'.2.1 gs lgs ngs)).range hli
            simp only [Act.put, List.setIfInBounds_toArray, List.set_cons_succ, List.set_cons_zero]
            apply wpK_val
            · rfl
            · intro w' hw'
              go_simp
              first | exact rfl | exact ⟨rfl, hw'⟩
            simp only [Act.put, List.setIfInBounds_toArray, List.set_cons_succ, List.set_cons_zero]
            apply wpK_val
            · rfl
            · intro w' hw'
              go_simp
              first | exact rfl | exact ⟨rfl, hw'⟩
            simp only [Act.put, List.setIfInBounds_toArray, List.set_cons_succ, List.set_cons_zero]
            apply wpK_val
            · rfl
            · intro w' hw'
              go_simp
              first | exact rfl | exact ⟨rfl, hw'⟩
            simp only [Act.put, List.setIfInBounds_toArray, List.set_cons_succ, List.set_cons_zero]
            apply wpK_val
            · rfl
            · intro w' hw'
              go_simp
              first | exact rfl | exact ⟨rfl, hw'⟩
            simp only [Act.put, List.setIfInBounds_toArray, List.set_cons_succ, List.set_cons_zero]
            apply kldA tBk
            · rfl
            · rfl
            · exact fun w' hw' => RI.out w' hw'.2.2.1
            simp only [Act.put, List.setIfInBounds_toArray, List.set_cons_succ, List.set_cons_zero]
            apply wpK_val
            · rfl
            · intro w' hw'
              go_simp
              exact hw'.sealing mc HKK.out (HL.out i)
            simp only [Act.put, List.setIfInBounds_toArray, List.set_cons_succ, List.set_cons_zero]
            apply kneA false
            · rfl
            · rfl
            · rfl
            · exact (by rw [eqA_yes fun _ _ => rfl]; rfl)
            simp only [Act.put, List.setIfInBounds_toArray, List.set_cons_succ, List.set_cons_zero]
            apply wpK_val
            · rfl
            · intro w' hw'
              go_simp
              first | exact rfl | exact ⟨rfl, hw'⟩
            simp only [Act.put, List.setIfInBounds_toArray, List.set_cons_succ, List.set_cons_zero]
            apply wpK_val
            · rfl
            · intro w' hw'
              go_simp
              first | exact rfl | exact ⟨rfl, hw'⟩
            simp only [Act.put, List.setIfInBounds_toArray, List.set_cons_succ, List.set_cons_zero]
            apply wpK_val
            · rfl
            · intro w' hw'
              go_simp
              first | exact rfl | exact ⟨rfl, hw'⟩
            simp only [Act.put, List.setIfInBounds_toArray, List.set_cons_succ, List.set_cons_zero]
            apply wpK_val
            · rfl
            · intro w' hw'
              go_simp
              first | exact rfl | exact ⟨rfl, hw'⟩
            simp only [Act.put, List.setIfInBounds_toArray, List.set_cons_succ, List.set_cons_zero]
            apply kldA tBk
            · rfl
            · rfl
            · exact fun w' hw' => (OD.out.to (hw'.2.1 go lgo ngo)).range hli
            simp only [Act.put, List.setIfInBounds_toArray, List.set_cons_succ, List.set_cons_zero]
            apply wpK_val
            · rfl
            · intro w' hw'
              go_simp
              first | exact rfl | exact ⟨rfl, hw'⟩
            simp only [Act.put, List.setIfInBounds_toArray, List.set_cons_succ, List.set_cons_zero]
            apply wpK_val
            · rfl
            · intro w' hw'
              go_simp
              first | exact rfl | exact ⟨rfl, hw'⟩
            simp only [Act.put, List.setIfInBounds_toArray, List.set_cons_succ, List.set_cons_zero]
            apply wpK_val
            · rfl
            · intro w' hw'
              go_simp
              first | exact rfl | exact ⟨rfl, hw'⟩
            simp only [Act.put, List.setIfInBounds_toArray, List.set_cons_succ, List.set_cons_zero]
            apply wpK_val
            · rfl
            · intro w' hw'
              go_simp
              first | exact rfl | exact ⟨rfl, hw'⟩
            simp only [Act.put, List.setIfInBounds_toArray, List.set_cons_succ, List.set_cons_zero]
            apply kldA tBk
            · rfl
            · rfl
            · exact fun w' hw' => RI.out w' hw'.2.2.1
            simp only [Act.put, List.setIfInBounds_toArray, List.set_cons_succ, List.set_cons_zero]
            apply wpK_val
            · rfl
            · intro w' hw'
              go_simp
              exact hw'.open' mc HKK.out (HL.out i)
            simp only [Act.put, List.setIfInBounds_toArray, List.set_cons_succ, List.set_cons_zero]
            apply kneA false
            · rfl
            · rfl
            · rfl
            · exact (by rw [eqA_yes fun _ _ => rfl]; rfl)
            simp only [Act.put, List.setIfInBounds_toArray, List.set_cons_succ, List.set_cons_zero]
            apply wpK_val
            · rfl
            · intro w' hw'
              go_simp
              first | exact rfl | exact ⟨rfl, hw'⟩
            simp only [Act.put, List.setIfInBounds_toArray, List.set_cons_succ, List.set_cons_zero]
            refine wpK_nil fun w5 hw5 => ?_
            have r0 := hid (hw5.blk dD.out nk)
            have rb := hid hw5.2.2.1
            have rS := hid (SD.out.to (hw5.2.1 gs lgs ngs))
            have rO := hid (OD.out.to (hw5.2.1 go lgo ngo))
            clear dD SD OD HCL hw5 RI
            go_wp2_with fail
            go_roundw
            case rel => exact ⟨i + 1, by omega, by go_num, r0, rb, rS, rO⟩
            case measure => simp [intOf]; omega
          · have ti : decide ((i : Int) < (n : Int)) = false := by simp; omega
            go_wp2_with fail
            refine (awake_any wr).mono ?_
            rintro e w2 ⟨rfl, h2⟩
            have fb := db.out.trans (h2.mono db.out.size)
            clear SE OE d0 db
            go_wp2_with fail
            go_ret
            exact ⟨rfl, fb⟩
end AesP
end Go.Proofs.Ytbgpboplpdljoaa
