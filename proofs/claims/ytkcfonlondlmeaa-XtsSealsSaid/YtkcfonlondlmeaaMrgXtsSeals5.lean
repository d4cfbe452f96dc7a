/-
  Contract of casemateref07.Words.
  The document's mixing of a column, in plain numbers: it is the program's, and what undoes it.
  Contracts of casemateref07's state, block, added, mixed.
  Contract of casemateref07.mixed.
-/
import Derived.Test.YtkcfonlondlmeaaMrgXtsSeals4
set_option linter.unusedVariables false
namespace Go.Proofs.Ytkcfonlondlmeaa
open Go.ChangeShapes Go.WideShapes Go.ChangeAt Go.RowKit
open AesM (Bt tab)
attribute [local go_sem] Gives GivesE
namespace AesP
theorem lit4 (a b c d : Nat) : (#[.int .u8 (a : Nat), .int .u8 (b : Nat), .int .u8 (c : Nat), .int .u8 (d : Nat)] : Array Value) = ar 4 (sel4 a b c d) := by rfl
theorem sel4_ext {f : Nat → Nat} : ar 4 (sel4 (f 0) (f 1) (f 2) (f 3)) = ar 4 f := ar_ext fun i hi => by
  match i, hi with
  | 0, _ | 1, _ | 2, _ | 3, _ => rfl
/-- What the operations' values are like: told, or a slice. -/
def rS (fx : List (Option Value)) (j : Nat) (v : Value) : Prop := match fx[j]? with
  | some (some u) => v = u
  | some none => ∃ g m : Nat, v = .slice (some ⟨g, 0, none⟩) m m
  | none => True
def rV (fx : List (Option Value)) (j : Nat) : Value := match fx[j]? with
  | some (some u) => u
  | some none => .slice (some ⟨0, 0, none⟩) 0 0
  | none => undef
theorem rS_ok (fx : List (Option Value)) (j : Nat) : rS fx j (rV fx j) := by
  unfold rS rV
  cases fx[j]? with
  | none => trivial
  | some o => cases o with
    | none => exact ⟨0, 0, rfl⟩
    | some u => rfl
/-- Behind operation 20 a word lies in memory, behind 21 a slice of it. -/
def rD (f : Nat → Nat) (j : Nat) (vs : Nat → Value) (w : World) : Prop :=
  (j = 20 → ∃ g : Nat, vs 20 = .slice (some ⟨g, 0, none⟩) 4 4 ∧ Blk w g 5 (ar 4 f)) ∧
  (j = 21 → ∃ g g' : Nat, vs 21 = .slice (some ⟨g', 0, none⟩) 1 1 ∧ Blk w g' 71 #[.slice (some ⟨g, 0, none⟩) 4 4] ∧ Blk w g 5 (ar 4 f))
theorem rD_below {f : Nat → Nat} {j : Nat} {vs : Nat → Value} {w w' : World} (h : rD f j vs w) (hb : Below w.heap.size w w') : rD f j vs w' :=
  ⟨fun e => by obtain ⟨g, h1, h2⟩ := h.1 e; exact ⟨g, h1, h2.below hb h2.lt⟩, fun e => by obtain ⟨g, g', h1, h2, h3⟩ := h.2 e; exact ⟨g, g', h1, h2.below hb h2.lt, h3.below hb h3.lt⟩⟩
theorem rD_loc {f : Nat → Nat} {i j : Nat} {vs : Nat → Value} {v : Value} {w : World} (hji : j ≠ i) (h : rD f j vs w) : rD f j (updV vs i v) w :=
  ⟨fun e => by obtain ⟨g, h1, h2⟩ := h.1 e; exact ⟨g, by rw [updV_ne _ _ (by omega)]; exact h1, h2⟩, fun e => by obtain ⟨g, g', h1, h2⟩ := h.2 e; exact ⟨g, g', by rw [updV_ne _ _ (by omega)]; exact h1, h2⟩⟩
theorem rD_none {f : Nat → Nat} {j : Nat} {vs : Nat → Value} {w : World} (h0 : j ≠ 20) (h1 : j ≠ 21) : rD f j vs w := ⟨fun e => absurd e h0, fun e => absurd e h1⟩
set_option maxHeartbeats 1600000 in
set_option maxRecDepth 100000 in
theorem words_any (k : Nat → Nat) (hk : Bt k) (gb ob cb : Nat) (w : World) (hg : gb < w.heap.size) (hR : w.rangeAt gb ob (ar 256 AesM.boxF).toList) :
    Calls Try.prog 32 #[.agg (ar 32 k), .slice (some ⟨gb, ob, none⟩) 256 cb] w fun e w' => ∃ v, e = .returned v ∧ WS w' (w.heap.size + 1) v (AesM.wd AesM.boxF k) 60 ∧ Below w.heap.size w w' := by
  have HK := hid hk
  have HR := hid (show ∀ j, j < 256 → w.cell? ⟨gb, ob + j, none⟩ = some (.int .u8 (AesM.boxF j : Nat)) from fun j hj => hR j _ (by rw [Array.getElem?_toList, get_ar hj]))
  clear hk hR
  go_enter Try.func32, Try.ntmps32
  go_upto_region 1 with fail
  generalize hw1 : World.alloc w _ = w1
  have b0 := hid (show Blk w1 w.heap.size 23 (ar 32 k) by rw [← hw1]; exact Blk.new _ _ _)
  have hb := hid (show Below w.heap.size w w1 by rw [← hw1]; exact (Below.refl _ _).alloc (Nat.le_refl _) _)
  clear hw1
  go_wp2_with fail
  go_loopw [5, 6] (fun u i wr => ∃ (n : Nat) (vo : Value), n ≤ 8 ∧ i = .int .i64 n ∧ u = vo ∧ Hid (Blk wr w.heap.size 23 (ar 32 k)) ∧ Hid (WS wr (w.heap.size + 1) vo (AesM.wd AesM.boxF k) n) ∧ Hid (Below w.heap.size w wr)) (fun _ i => fun _ => 8 - (intOf i).toNat)
  case atStart => exact ⟨0, _, by omega, rfl, rfl, b0, hid (WS.nil _ _ _), hb⟩
  case round =>
    clear b0 hb
    obtain ⟨n, vo, hn, rfl, rfl, b0, hs, hb⟩ := hrel
    have hzw := hb.out.size
    by_cases hlt : n < 8
    · have tn : (n : Int) < 8 := by omega
      have hkl := b0.out.lt
      obtain ⟨q, hq⟩ : ∃ q, q = 4 * n := ⟨_, rfl⟩
      obtain ⟨q1, hq1⟩ : ∃ q1, q1 = q + 1 := ⟨_, rfl⟩
      obtain ⟨q2, hq2⟩ : ∃ q2, q2 = q + 2 := ⟨_, rfl⟩
      obtain ⟨q3, hq3⟩ : ∃ q3, q3 = q + 3 := ⟨_, rfl⟩
      have t0 : (q : Int) < 32 := by omega
      have t1 : (q1 : Int) < 32 := by omega
      have t2 : (q2 : Int) < 32 := by omega
      have t3 : (q3 : Int) < 32 := by omega
      have m0 := hid (show IntKind.i64.wrap (4 * (n : Int)) = (q : Int) from wr_nat (by omega) (by omega))
      have m1 := hid (show IntKind.i64.wrap ((q : Int) + 1) = (q1 : Int) from wr_nat (by omega) (by omega))
      have m2 := hid (show IntKind.i64.wrap ((q : Int) + 2) = (q2 : Int) from wr_nat (by omega) (by omega))
      have m3 := hid (show IntKind.i64.wrap ((q : Int) + 3) = (q3 : Int) from wr_nat (by omega) (by omega))
      have C0 := hid ((b0.out.cell q).trans (get_ar (n := 32) (by omega)))
      have C1 := hid ((b0.out.cell q1).trans (get_ar (n := 32) (by omega)))
      have C2 := hid ((b0.out.cell q2).trans (get_ar (n := 32) (by omega)))
      have C3 := hid ((b0.out.cell q3).trans (get_ar (n := 32) (by omega)))
      have HW := hid (show ar 4 (sel4 (k q) (k q1) (k q2) (k q3)) = ar 4 (AesM.wd AesM.boxF k n) from by
        rw [← sel4_ext (f := AesM.wd AesM.boxF k n), AesM.wd_first _ k hlt (by omega), AesM.wd_first _ k hlt (by omega), AesM.wd_first _ k hlt (by omega), AesM.wd_first _ k hlt (by omega), Nat.add_zero, ← hq, ← hq1, ← hq2, ← hq3])
      clear hq hq1 hq2 hq3
      go_wp2_with fail
      refine wp_region_ex (S := rS [some u5, some (.int .i64 n), some (.int .i64 q), some (.pointer (some ⟨w.heap.size, q, none⟩)), some (.int .u8 (k q : Nat)), some (.int .i64 n), some (.int .i64 q), some (.int .i64 q1), some (.pointer (some ⟨w.heap.size, q1, none⟩)), some (.int .u8 (k q1 : Nat)), some (.int .i64 n), some (.int .i64 q), some (.int .i64 q2), some (.pointer (some ⟨w.heap.size, q2, none⟩)), some (.int .u8 (k q2 : Nat)), some (.int .i64 n), some (.int .i64 q), some (.int .i64 q3), some (.pointer (some ⟨w.heap.size, q3, none⟩)), some (.int .u8 (k q3 : Nat)), none, none]) (D := rD (AesM.wd AesM.boxF k n)) (K := fun _ _ w w' => Below w.heap.size w w') (C := fun _ w' => Below wr.heap.size wr w') 22 (by kernel_rfl) (by kernel_rfl) (by kernel_rfl)
        _ (rS_ok _) (fun i j vs w w' _ _ _ h hb => rD_below h hb) (fun j i vs v w hji _ h => rD_loc hji h) (Below.refl _ _).drew fun vs => ?_
      simp only [List.take_succ_cons, List.take_zero, List.drop_succ_cons, List.drop_zero]
      refine ⟨.inl ⟨rfl, fun dd w' hd hC hDs => ?_⟩, fun e => ?_⟩
      · have hC' : Below wr.heap.size wr w' := hC
        go_simp
        first | exact ⟨rfl, hC, Below.refl _ _, rD_none (by decide) (by decide)⟩ | exact ⟨hC, Below.refl _ _, rD_none (by decide) (by decide)⟩ | exact ⟨rfl, Below.refl _ _, rD_none (by decide) (by decide)⟩ | exact ⟨Below.refl _ _, rD_none (by decide) (by decide)⟩
      have e' : vs 0 = _ := e
      rw [e']
      clear e e'
      simp only [Act.put, List.setIfInBounds_toArray, List.set_cons_succ, List.set_cons_zero]
      refine ⟨.inl ⟨rfl, fun dd w' hd hC hDs => ?_⟩, fun e => ?_⟩
      · have hC' : Below wr.heap.size wr w' := hC
        go_simp
        first | exact ⟨rfl, hC, Below.refl _ _, rD_none (by decide) (by decide)⟩ | exact ⟨hC, Below.refl _ _, rD_none (by decide) (by decide)⟩ | exact ⟨rfl, Below.refl _ _, rD_none (by decide) (by decide)⟩ | exact ⟨Below.refl _ _, rD_none (by decide) (by decide)⟩
      have e' : vs 1 = _ := e
      rw [e']
      clear e e'
      simp only [Act.put, List.setIfInBounds_toArray, List.set_cons_succ, List.set_cons_zero]
      refine ⟨.inl ⟨rfl, fun dd w' hd hC hDs => ?_⟩, fun e => ?_⟩
      · have hC' : Below wr.heap.size wr w' := hC
        have h1 := m0.out
        go_simp
        first | exact ⟨rfl, hC, Below.refl _ _, rD_none (by decide) (by decide)⟩ | exact ⟨hC, Below.refl _ _, rD_none (by decide) (by decide)⟩ | exact ⟨rfl, Below.refl _ _, rD_none (by decide) (by decide)⟩ | exact ⟨Below.refl _ _, rD_none (by decide) (by decide)⟩
      have e' : vs 2 = _ := e
      rw [e']
      clear e e'
      simp only [Act.put, List.setIfInBounds_toArray, List.set_cons_succ, List.set_cons_zero]
      refine ⟨.inl ⟨rfl, fun dd w' hd hC hDs => ?_⟩, fun e => ?_⟩
      · have hC' : Below wr.heap.size wr w' := hC
        go_simp
        first | exact ⟨rfl, hC, Below.refl _ _, rD_none (by decide) (by decide)⟩ | exact ⟨hC, Below.refl _ _, rD_none (by decide) (by decide)⟩ | exact ⟨rfl, Below.refl _ _, rD_none (by decide) (by decide)⟩ | exact ⟨Below.refl _ _, rD_none (by decide) (by decide)⟩
      have e' : vs 3 = _ := e
      rw [e']
      clear e e'
      simp only [Act.put, List.setIfInBounds_toArray, List.set_cons_succ, List.set_cons_zero]
      refine ⟨.inl ⟨rfl, fun dd w' hd hC hDs => ?_⟩, fun e => ?_⟩
      · have hC' : Below wr.heap.size wr w' := hC
        have hcell := (hC'.cell (p := ⟨w.heap.size, q, none⟩) hkl).trans C0.out
        go_simp
        first | exact ⟨rfl, hC, Below.refl _ _, rD_none (by decide) (by decide)⟩ | exact ⟨hC, Below.refl _ _, rD_none (by decide) (by decide)⟩ | exact ⟨rfl, Below.refl _ _, rD_none (by decide) (by decide)⟩ | exact ⟨Below.refl _ _, rD_none (by decide) (by decide)⟩
      have e' : vs 4 = _ := e
      rw [e']
      clear e e'
      simp only [Act.put, List.setIfInBounds_toArray, List.set_cons_succ, List.set_cons_zero]
      refine ⟨.inl ⟨rfl, fun dd w' hd hC hDs => ?_⟩, fun e => ?_⟩
      · have hC' : Below wr.heap.size wr w' := hC
        go_simp
        first | exact ⟨rfl, hC, Below.refl _ _, rD_none (by decide) (by decide)⟩ | exact ⟨hC, Below.refl _ _, rD_none (by decide) (by decide)⟩ | exact ⟨rfl, Below.refl _ _, rD_none (by decide) (by decide)⟩ | exact ⟨Below.refl _ _, rD_none (by decide) (by decide)⟩
      have e' : vs 5 = _ := e
      rw [e']
      clear e e'
      simp only [Act.put, List.setIfInBounds_toArray, List.set_cons_succ, List.set_cons_zero]
      refine ⟨.inl ⟨rfl, fun dd w' hd hC hDs => ?_⟩, fun e => ?_⟩
      · have hC' : Below wr.heap.size wr w' := hC
        have h1 := m0.out
        go_simp
        first | exact ⟨rfl, hC, Below.refl _ _, rD_none (by decide) (by decide)⟩ | exact ⟨hC, Below.refl _ _, rD_none (by decide) (by decide)⟩ | exact ⟨rfl, Below.refl _ _, rD_none (by decide) (by decide)⟩ | exact ⟨Below.refl _ _, rD_none (by decide) (by decide)⟩
      have e' : vs 6 = _ := e
      rw [e']
      clear e e'
      simp only [Act.put, List.setIfInBounds_toArray, List.set_cons_succ, List.set_cons_zero]
      refine ⟨.inl ⟨rfl, fun dd w' hd hC hDs => ?_⟩, fun e => ?_⟩
      · have hC' : Below wr.heap.size wr w' := hC
        have h1 := m1.out
        go_simp
        first | exact ⟨rfl, hC, Below.refl _ _, rD_none (by decide) (by decide)⟩ | exact ⟨hC, Below.refl _ _, rD_none (by decide) (by decide)⟩ | exact ⟨rfl, Below.refl _ _, rD_none (by decide) (by decide)⟩ | exact ⟨Below.refl _ _, rD_none (by decide) (by decide)⟩
      have e' : vs 7 = _ := e
      rw [e']
      clear e e'
      simp only [Act.put, List.setIfInBounds_toArray, List.set_cons_succ, List.set_cons_zero]
      refine ⟨.inl ⟨rfl, fun dd w' hd hC hDs => ?_⟩, fun e => ?_⟩
      · have hC' : Below wr.heap.size wr w' := hC
        go_simp
        first | exact ⟨rfl, hC, Below.refl _ _, rD_none (by decide) (by decide)⟩ | exact ⟨hC, Below.refl _ _, rD_none (by decide) (by decide)⟩ | exact ⟨rfl, Below.refl _ _, rD_none (by decide) (by decide)⟩ | exact ⟨Below.refl _ _, rD_none (by decide) (by decide)⟩
      have e' : vs 8 = _ := e
      rw [e']
      clear e e'
      simp only [Act.put, List.setIfInBounds_toArray, List.set_cons_succ, List.set_cons_zero]
      refine ⟨.inl ⟨rfl, fun dd w' hd hC hDs => ?_⟩, fun e => ?_⟩
      · have hC' : Below wr.heap.size wr w' := hC
        have hcell := (hC'.cell (p := ⟨w.heap.size, q1, none⟩) hkl).trans C1.out
        go_simp
        first | exact ⟨rfl, hC, Below.refl _ _, rD_none (by decide) (by decide)⟩ | exact ⟨hC, Below.refl _ _, rD_none (by decide) (by decide)⟩ | exact ⟨rfl, Below.refl _ _, rD_none (by decide) (by decide)⟩ | exact ⟨Below.refl _ _, rD_none (by decide) (by decide)⟩
      have e' : vs 9 = _ := e
      rw [e']
      clear e e'
      simp only [Act.put, List.setIfInBounds_toArray, List.set_cons_succ, List.set_cons_zero]
      refine ⟨.inl ⟨rfl, fun dd w' hd hC hDs => ?_⟩, fun e => ?_⟩
      · have hC' : Below wr.heap.size wr w' := hC
        go_simp
        first | exact ⟨rfl, hC, Below.refl _ _, rD_none (by decide) (by decide)⟩ | exact ⟨hC, Below.refl _ _, rD_none (by decide) (by decide)⟩ | exact ⟨rfl, Below.refl _ _, rD_none (by decide) (by decide)⟩ | exact ⟨Below.refl _ _, rD_none (by decide) (by decide)⟩
      have e' : vs 10 = _ := e
      rw [e']
      clear e e'
      simp only [Act.put, List.setIfInBounds_toArray, List.set_cons_succ, List.set_cons_zero]
      refine ⟨.inl ⟨rfl, fun dd w' hd hC hDs => ?_⟩, fun e => ?_⟩
      · have hC' : Below wr.heap.size wr w' := hC
        have h1 := m0.out
        go_simp
        first | exact ⟨rfl, hC, Below.refl _ _, rD_none (by decide) (by decide)⟩ | exact ⟨hC, Below.refl _ _, rD_none (by decide) (by decide)⟩ | exact ⟨rfl, Below.refl _ _, rD_none (by decide) (by decide)⟩ | exact ⟨Below.refl _ _, rD_none (by decide) (by decide)⟩
      have e' : vs 11 = _ := e
      rw [e']
      clear e e'
      simp only [Act.put, List.setIfInBounds_toArray, List.set_cons_succ, List.set_cons_zero]
      refine ⟨.inl ⟨rfl, fun dd w' hd hC hDs => ?_⟩, fun e => ?_⟩
      · have hC' : Below wr.heap.size wr w' := hC
        have h1 := m2.out
        go_simp
        first | exact ⟨rfl, hC, Below.refl _ _, rD_none (by decide) (by decide)⟩ | exact ⟨hC, Below.refl _ _, rD_none (by decide) (by decide)⟩ | exact ⟨rfl, Below.refl _ _, rD_none (by decide) (by decide)⟩ | exact ⟨Below.refl _ _, rD_none (by decide) (by decide)⟩
      have e' : vs 12 = _ := e
      rw [e']
      clear e e'
      simp only [Act.put, List.setIfInBounds_toArray, List.set_cons_succ, List.set_cons_zero]
      refine ⟨.inl ⟨rfl, fun dd w' hd hC hDs => ?_⟩, fun e => ?_⟩
      · have hC' : Below wr.heap.size wr w' := hC
        go_simp
        first | exact ⟨rfl, hC, Below.refl _ _, rD_none (by decide) (by decide)⟩ | exact ⟨hC, Below.refl _ _, rD_none (by decide) (by decide)⟩ | exact ⟨rfl, Below.refl _ _, rD_none (by decide) (by decide)⟩ | exact ⟨Below.refl _ _, rD_none (by decide) (by decide)⟩
      have e' : vs 13 = _ := e
      rw [e']
      clear e e'
      simp only [Act.put, List.setIfInBounds_toArray, List.set_cons_succ, List.set_cons_zero]
      refine ⟨.inl ⟨rfl, fun dd w' hd hC hDs => ?_⟩, fun e => ?_⟩
      · have hC' : Below wr.heap.size wr w' := hC
        have hcell := (hC'.cell (p := ⟨w.heap.size, q2, none⟩) hkl).trans C2.out
        go_simp
        first | exact ⟨rfl, hC, Below.refl _ _, rD_none (by decide) (by decide)⟩ | exact ⟨hC, Below.refl _ _, rD_none (by decide) (by decide)⟩ | exact ⟨rfl, Below.refl _ _, rD_none (by decide) (by decide)⟩ | exact ⟨Below.refl _ _, rD_none (by decide) (by decide)⟩
      have e' : vs 14 = _ := e
      rw [e']
      clear e e'
      simp only [Act.put, List.setIfInBounds_toArray, List.set_cons_succ, List.set_cons_zero]
      refine ⟨.inl ⟨rfl, fun dd w' hd hC hDs => ?_⟩, fun e => ?_⟩
      · have hC' : Below wr.heap.size wr w' := hC
        go_simp
        first | exact ⟨rfl, hC, Below.refl _ _, rD_none (by decide) (by decide)⟩ | exact ⟨hC, Below.refl _ _, rD_none (by decide) (by decide)⟩ | exact ⟨rfl, Below.refl _ _, rD_none (by decide) (by decide)⟩ | exact ⟨Below.refl _ _, rD_none (by decide) (by decide)⟩
      have e' : vs 15 = _ := e
      rw [e']
      clear e e'
      simp only [Act.put, List.setIfInBounds_toArray, List.set_cons_succ, List.set_cons_zero]
      refine ⟨.inl ⟨rfl, fun dd w' hd hC hDs => ?_⟩, fun e => ?_⟩
      · have hC' : Below wr.heap.size wr w' := hC
        have h1 := m0.out
        go_simp
        first | exact ⟨rfl, hC, Below.refl _ _, rD_none (by decide) (by decide)⟩ | exact ⟨hC, Below.refl _ _, rD_none (by decide) (by decide)⟩ | exact ⟨rfl, Below.refl _ _, rD_none (by decide) (by decide)⟩ | exact ⟨Below.refl _ _, rD_none (by decide) (by decide)⟩
      have e' : vs 16 = _ := e
      rw [e']
      clear e e'
      simp only [Act.put, List.setIfInBounds_toArray, List.set_cons_succ, List.set_cons_zero]
      refine ⟨.inl ⟨rfl, fun dd w' hd hC hDs => ?_⟩, fun e => ?_⟩
      · have hC' : Below wr.heap.size wr w' := hC
        have h1 := m3.out
        go_simp
        first | exact ⟨rfl, hC, Below.refl _ _, rD_none (by decide) (by decide)⟩ | exact ⟨hC, Below.refl _ _, rD_none (by decide) (by decide)⟩ | exact ⟨rfl, Below.refl _ _, rD_none (by decide) (by decide)⟩ | exact ⟨Below.refl _ _, rD_none (by decide) (by decide)⟩
      have e' : vs 17 = _ := e
      rw [e']
      clear e e'
      simp only [Act.put, List.setIfInBounds_toArray, List.set_cons_succ, List.set_cons_zero]
      refine ⟨.inl ⟨rfl, fun dd w' hd hC hDs => ?_⟩, fun e => ?_⟩
      · have hC' : Below wr.heap.size wr w' := hC
        go_simp
        first | exact ⟨rfl, hC, Below.refl _ _, rD_none (by decide) (by decide)⟩ | exact ⟨hC, Below.refl _ _, rD_none (by decide) (by decide)⟩ | exact ⟨rfl, Below.refl _ _, rD_none (by decide) (by decide)⟩ | exact ⟨Below.refl _ _, rD_none (by decide) (by decide)⟩
      have e' : vs 18 = _ := e
      rw [e']
      clear e e'
      simp only [Act.put, List.setIfInBounds_toArray, List.set_cons_succ, List.set_cons_zero]
      refine ⟨.inl ⟨rfl, fun dd w' hd hC hDs => ?_⟩, fun e => ?_⟩
      · have hC' : Below wr.heap.size wr w' := hC
        have hcell := (hC'.cell (p := ⟨w.heap.size, q3, none⟩) hkl).trans C3.out
        go_simp
        first | exact ⟨rfl, hC, Below.refl _ _, rD_none (by decide) (by decide)⟩ | exact ⟨hC, Below.refl _ _, rD_none (by decide) (by decide)⟩ | exact ⟨rfl, Below.refl _ _, rD_none (by decide) (by decide)⟩ | exact ⟨Below.refl _ _, rD_none (by decide) (by decide)⟩
      have e' : vs 19 = _ := e
      rw [e']
      clear e e'
      simp only [Act.put, List.setIfInBounds_toArray, List.set_cons_succ, List.set_cons_zero]
      refine ⟨.inl ⟨rfl, fun dd w' hd hC hDs => ?_⟩, fun e => ?_⟩
      · have hC' : Below wr.heap.size wr w' := hC
        go_simp
        have hbl : Blk (w'.alloc (.cells #[.int .u8 (k q : Nat), .int .u8 (k q1 : Nat), .int .u8 (k q2 : Nat), .int .u8 (k q3 : Nat)] 5)) w'.heap.size 5 (ar 4 (AesM.wd AesM.boxF k n)) := Blk.top ((lit4 _ _ _ _).trans HW.out) rfl
        exact ⟨⟨_, _, rfl⟩, hC'.alloc hC'.size _, (Below.refl _ _).alloc (Nat.le_refl _) _, fun _ => ⟨w'.heap.size, updV_self _ _ _, hbl⟩, fun e => absurd e (by decide)⟩
      clear e
      simp only [Act.put, List.setIfInBounds_toArray, List.set_cons_succ, List.set_cons_zero]
      refine ⟨.inl ⟨rfl, fun dd w' hd hC hDs => ?_⟩, fun e => ?_⟩
      · have hC' : Below wr.heap.size wr w' := hC
        obtain ⟨g, e1, h3⟩ := (hDs 20 (by kernel_rfl)).1 rfl
        rw [e1]
        go_simp
        exact ⟨⟨_, _, rfl⟩, hC'.alloc hC'.size _, (Below.refl _ _).alloc (Nat.le_refl _) _, fun e => absurd e (by decide), fun _ => ⟨g, w'.heap.size, updV_self _ _ _, Blk.top rfl rfl, h3.alloc _⟩⟩
      clear e
      simp only [Act.put, List.setIfInBounds_toArray, List.set_cons_succ, List.set_cons_zero]
      intro dd w5 _ hw5 hDD
      obtain ⟨g, g', e2, x1, x2⟩ := (hDD 21 (by omega)).2 rfl
      rw [e2]
      have hw5' : Below wr.heap.size wr w5 := hw5
      have d0 := hid (b0.out.below hw5' hkl)
      have db := hid (hb.out.trans (hw5'.mono hb.out.size))
      obtain ⟨cs, s1, s2, s3⟩ := hs.out.below hw5'
      have S1 := hid s1
      have S2 := hid s2
      have S3 := hid s3
      have X1 := hid x1
      have X2 := hid x2
      clear b0 hs hb hDD e2 hw5 hw5' s1 s2 s3 x1 x2 C0 C1 C2 C3 m0 m1 m2 m3 HW
      go_wp2_with (at_builtin; (with_reducible apply wappP); rfl; rfl; exact S1.out; exact X1.out; (rw [S2.out]; omega); exact (by have := d0.out.lt; omega); intro v9 w9 o9 g9)
      go_roundw
      case rel =>
        refine ⟨n + 1, v9, by omega, by go_num, rfl, hid (d0.out.apart g9 fun e => by have := S1.out.ownGe e; omega), hid (WS.snoc S1.out S2.out S3.out X2.out o9 g9), hid (below_grownP db.out g9 S1.out (by omega) db.out.size)⟩
      case measure => simp [intOf] <;> omega
    · have tn : decide ((n : Int) < 8) = false := by simp; omega
      have h8 : n = 8 := by omega
      rw [h8] at hs
      clear h8
      go_wp2_with fail
      clear tn hlt hn
      go_loopw [5, 7, 8] (fun u p i wr => ∃ (n : Nat) (q : Nat) (vo : Value), 8 ≤ n ∧ n ≤ 60 ∧ i = .int .i64 n ∧ u = vo ∧ p = .int .u8 (q : Nat) ∧ q = 2 ^ ((n + 7) / 8 - 1) ∧ Hid (Blk wr w.heap.size 23 (ar 32 k)) ∧ Hid (WS wr (w.heap.size + 1) vo (AesM.wd AesM.boxF k) n) ∧ Hid (Below w.heap.size w wr)) (fun _ _ i => fun _ => 60 - (intOf i).toNat)
      case atStart => exact ⟨8, 1, _, by omega, by omega, rfl, rfl, rfl, rfl, b0, hs, hb⟩
      case round =>
        clear b0 hs hb
        obtain ⟨n, q, _, h8n, hn60, rfl, rfl, rfl, hq, b0, hs, hb⟩ := hrel
        have hzw := hb.out.size
        by_cases hlt : n < 60
        · have tn : (n : Int) < 60 := by omega
          have hkl := b0.out.lt
          obtain ⟨m, hm⟩ : ∃ m, m = n - 8 := ⟨_, rfl⟩
          obtain ⟨l, hl⟩ : ∃ l, l = n - 1 := ⟨_, rfl⟩
          obtain ⟨gv, cv, rfl, hgv, hcells⟩ := hs.out.form (by omega)
          obtain ⟨GL, fl, fb⟩ := hcells l (by omega)
          obtain ⟨GM, fm, fmb⟩ := hcells m (by omega)
          have em := hid (show IntKind.i64.wrap ((n : Int) - 8) = (m : Int) from wr_nat (by omega) (by omega))
          have el := hid (show IntKind.i64.wrap ((n : Int) - 1) = (l : Int) from wr_nat (by omega) (by omega))
          have tm : (m : Int) < (n : Int) := by omega
          have tl : (l : Int) < (n : Int) := by omega
          have HN := hid (AesM.wd_bt AesM.boxF_lt HK.out (show l < 60 by omega))
          have HFB := hid (AesM.wd_bt AesM.boxF_lt HK.out (show m < 60 by omega))
          have EM := em
          have HM := hid hm
          have HL := hid hl
          have FL := hid fl
          have FB := hid fmb
          have FM := hid fm
          have FN := hid fb
          have HQ := hid hq
          clear hm hl fl fb fm fmb hcells hq em
          have el1 := el.out
          have fl1 := FL.out
          go_wp2_with fail
          have N0 := hid ((FN.out.cell 0).trans (get_ar (n := 4) (by omega)))
          have N1 := hid ((FN.out.cell 1).trans (get_ar (n := 4) (by omega)))
          have N2 := hid ((FN.out.cell 2).trans (get_ar (n := 4) (by omega)))
          have N3 := hid ((FN.out.cell 3).trans (get_ar (n := 4) (by omega)))
          refine wp_region_tail (C := Drew wr) 12 (by kernel_rfl) (by kernel_rfl) (by kernel_rfl) (Drew.refl _) ?_
          simp only [List.take_succ_cons, List.take_zero, List.drop_succ_cons, List.drop_zero]
          apply wpK_val
          · rfl
          · intro w' hw'
            go_simp
            first | exact rfl | exact ⟨rfl, hw'⟩
          simp only [Act.put, List.setIfInBounds_toArray, List.set_cons_succ, List.set_cons_zero]
          apply wpK_val
          · rfl
          · intro w' hw'
            go_simp
            first | exact rfl | exact ⟨rfl, hw'⟩
          simp only [Act.put, List.setIfInBounds_toArray, List.set_cons_succ, List.set_cons_zero]
          apply wpK_val
          · rfl
          · intro w' hw'
            have hcell := hw'.cell N0.out
            go_simp
            first | exact rfl | exact ⟨rfl, hw'⟩
          simp only [Act.put, List.setIfInBounds_toArray, List.set_cons_succ, List.set_cons_zero]
          apply wpK_val
          · rfl
          · intro w' hw'
            go_simp
            first | exact rfl | exact ⟨rfl, hw'⟩
          simp only [Act.put, List.setIfInBounds_toArray, List.set_cons_succ, List.set_cons_zero]
          apply wpK_val
          · rfl
          · intro w' hw'
            go_simp
            first | exact rfl | exact ⟨rfl, hw'⟩
          simp only [Act.put, List.setIfInBounds_toArray, List.set_cons_succ, List.set_cons_zero]
          apply wpK_val
          · rfl
          · intro w' hw'
            have hcell := hw'.cell N1.out
            go_simp
            first | exact rfl | exact ⟨rfl, hw'⟩
          simp only [Act.put, List.setIfInBounds_toArray, List.set_cons_succ, List.set_cons_zero]
          apply wpK_val
          · rfl
          · intro w' hw'
            go_simp
            first | exact rfl | exact ⟨rfl, hw'⟩
          simp only [Act.put, List.setIfInBounds_toArray, List.set_cons_succ, List.set_cons_zero]
          apply wpK_val
          · rfl
          · intro w' hw'
            go_simp
            first | exact rfl | exact ⟨rfl, hw'⟩
          simp only [Act.put, List.setIfInBounds_toArray, List.set_cons_succ, List.set_cons_zero]
          apply wpK_val
          · rfl
          · intro w' hw'
            have hcell := hw'.cell N2.out
            go_simp
            first | exact rfl | exact ⟨rfl, hw'⟩
          simp only [Act.put, List.setIfInBounds_toArray, List.set_cons_succ, List.set_cons_zero]
          apply wpK_val
          · rfl
          · intro w' hw'
            go_simp
            first | exact rfl | exact ⟨rfl, hw'⟩
          simp only [Act.put, List.setIfInBounds_toArray, List.set_cons_succ, List.set_cons_zero]
          apply wpK_val
          · rfl
          · intro w' hw'
            go_simp
            first | exact rfl | exact ⟨rfl, hw'⟩
          simp only [Act.put, List.setIfInBounds_toArray, List.set_cons_succ, List.set_cons_zero]
          apply wpK_val
          · rfl
          · intro w' hw'
            have hcell := hw'.cell N3.out
            go_simp
            first | exact rfl | exact ⟨rfl, hw'⟩
          simp only [Act.put, List.setIfInBounds_toArray, List.set_cons_succ, List.set_cons_zero]
          refine wpK_nil fun w5 hw5 => ?_
          have hh5 := hw5.heap
          have x5 := hid (hw5.below (Below.refl wr.heap.size wr))
          clear N0 N1 N2 N3
          go_upto_region 12 with fail
          generalize hw6 : World.alloc w5 _ = w6
          have gt0 := hid (show Blk w6 wr.heap.size 5 (ar 4 (AesM.wd AesM.boxF k l)) by rw [← hw6]; exact Blk.top ((lit4 _ _ _ _).trans sel4_ext) (by rw [hh5]))
          have xr6 := hid (show Below wr.heap.size wr w6 by rw [← hw6]; exact x5.out.alloc (by rw [hh5]; exact Nat.le_refl _) _)
          have x6 := hid (hb.out.trans (xr6.out.mono hb.out.size))
          have FN6 := hid (FN.out.below xr6.out FN.out.lt)
          have hs6 : w6.heap.size = wr.heap.size + 1 := by rw [← hw6]; simp [hh5]
          clear hw6 x5 hw5 hh5 FN w5
          have TL0 := hid (show ((AesM.wd AesM.boxF k l 0 : Nat) : Int) < 256 by have := HN.out 0; omega)
          have TL1 := hid (show ((AesM.wd AesM.boxF k l 1 : Nat) : Int) < 256 by have := HN.out 1; omega)
          have TL2 := hid (show ((AesM.wd AesM.boxF k l 2 : Nat) : Int) < 256 by have := HN.out 2; omega)
          have TL3 := hid (show ((AesM.wd AesM.boxF k l 3 : Nat) : Int) < 256 by have := HN.out 3; omega)
          have N0 := hid ((FN6.out.cell 0).trans (get_ar (n := 4) (by omega)))
          have N1 := hid ((FN6.out.cell 1).trans (get_ar (n := 4) (by omega)))
          have N2 := hid ((FN6.out.cell 2).trans (get_ar (n := 4) (by omega)))
          have N3 := hid ((FN6.out.cell 3).trans (get_ar (n := 4) (by omega)))
          by_cases c0 : n % 8 = 0
          · have t0 : ((n : Int).tmod 8 == 0) = true := by rw [beq_iff_eq, Int.tmod_eq_emod_of_nonneg (by omega)]; omega
            have t1 : ((n : Int) % 8 == 0) = true := by rw [beq_iff_eq]; omega
            have t2 : ((n : Int) % 8 == 4) = false := by rw [beq_eq_false_iff_ne]; omega
            have hp2 : q < 256 := by
              rw [HQ.out]
              exact Nat.lt_of_le_of_lt (Nat.pow_le_pow_right (by omega) (show (n + 7) / 8 - 1 ≤ 7 by omega)) (by decide)
            have X := hid (u8_xor_nat _ _ (AesM.boxF_lt (AesM.wd AesM.boxF k l 1)) hp2)
            go_upto_region 13 with fail
            refine wp_region_tail (C := Drew w6) 26 (by kernel_rfl) (by kernel_rfl) (by kernel_rfl) (Drew.refl _) ?_
            simp only [List.take_succ_cons, List.take_zero, List.drop_succ_cons, List.drop_zero]
            apply wpK_val
            · rfl
            · intro w' hw'
              go_simp
              first | exact rfl | exact ⟨rfl, hw'⟩
            simp only [Act.put, List.setIfInBounds_toArray, List.set_cons_succ, List.set_cons_zero]
            apply wpK_val
            · rfl
            · intro w' hw'
              go_simp
              first | exact rfl | exact ⟨rfl, hw'⟩
            simp only [Act.put, List.setIfInBounds_toArray, List.set_cons_succ, List.set_cons_zero]
            apply wpK_val
            · rfl
            · intro w' hw'
              go_simp
              first | exact rfl | exact ⟨rfl, hw'⟩
            simp only [Act.put, List.setIfInBounds_toArray, List.set_cons_succ, List.set_cons_zero]
            apply wpK_val
            · rfl
            · intro w' hw'
              have hcell := hw'.cell N1.out
              go_simp
              first | exact rfl | exact ⟨rfl, hw'⟩
            simp only [Act.put, List.setIfInBounds_toArray, List.set_cons_succ, List.set_cons_zero]
            apply wpK_val
            · rfl
            · intro w' hw'
              have h1 : _ := TL1.out
              go_simp
              first | exact rfl | exact ⟨rfl, hw'⟩
            simp only [Act.put, List.setIfInBounds_toArray, List.set_cons_succ, List.set_cons_zero]
            apply wpK_val
            · rfl
            · intro w' hw'
              have hcell := (hw'.cell ((x6.out.cell (p := ⟨gb, ob + AesM.wd AesM.boxF k l 1, none⟩) hg).trans (HR.out _ (HN.out 1))))
              go_simp
              first | exact rfl | exact ⟨rfl, hw'⟩
            simp only [Act.put, List.setIfInBounds_toArray, List.set_cons_succ, List.set_cons_zero]
            apply wpK_val
            · rfl
            · intro w' hw'
              go_simp
              first | exact rfl | exact ⟨rfl, hw'⟩
            simp only [Act.put, List.setIfInBounds_toArray, List.set_cons_succ, List.set_cons_zero]
            apply wpK_val
            · rfl
            · intro w' hw'
              have h1 : _ := X.out
              go_simp
              first | exact rfl | exact ⟨rfl, hw'⟩
            simp only [Act.put, List.setIfInBounds_toArray, List.set_cons_succ, List.set_cons_zero]
            apply wpK_val
            · rfl
            · intro w' hw'
              go_simp
              first | exact rfl | exact ⟨rfl, hw'⟩
            simp only [Act.put, List.setIfInBounds_toArray, List.set_cons_succ, List.set_cons_zero]
            apply wpK_val
            · rfl
            · intro w' hw'
              go_simp
              first | exact rfl | exact ⟨rfl, hw'⟩
            simp only [Act.put, List.setIfInBounds_toArray, List.set_cons_succ, List.set_cons_zero]
            apply wpK_val
            · rfl
            · intro w' hw'
              go_simp
              first | exact rfl | exact ⟨rfl, hw'⟩
            simp only [Act.put, List.setIfInBounds_toArray, List.set_cons_succ, List.set_cons_zero]
            apply wpK_val
            · rfl
            · intro w' hw'
              have hcell := hw'.cell N2.out
              go_simp
              first | exact rfl | exact ⟨rfl, hw'⟩
            simp only [Act.put, List.setIfInBounds_toArray, List.set_cons_succ, List.set_cons_zero]
            apply wpK_val
            · rfl
            · intro w' hw'
              have h1 : _ := TL2.out
              go_simp
              first | exact rfl | exact ⟨rfl, hw'⟩
            simp only [Act.put, List.setIfInBounds_toArray, List.set_cons_succ, List.set_cons_zero]
            apply wpK_val
            · rfl
            · intro w' hw'
              have hcell := (hw'.cell ((x6.out.cell (p := ⟨gb, ob + AesM.wd AesM.boxF k l 2, none⟩) hg).trans (HR.out _ (HN.out 2))))
              go_simp
              first | exact rfl | exact ⟨rfl, hw'⟩
            simp only [Act.put, List.setIfInBounds_toArray, List.set_cons_succ, List.set_cons_zero]
            apply wpK_val
            · rfl
            · intro w' hw'
              go_simp
              first | exact rfl | exact ⟨rfl, hw'⟩
            simp only [Act.put, List.setIfInBounds_toArray, List.set_cons_succ, List.set_cons_zero]
            apply wpK_val
            · rfl
            · intro w' hw'
              go_simp
              first | exact rfl | exact ⟨rfl, hw'⟩
            simp only [Act.put, List.setIfInBounds_toArray, List.set_cons_succ, List.set_cons_zero]
            apply wpK_val
            · rfl
            · intro w' hw'
              go_simp
              first | exact rfl | exact ⟨rfl, hw'⟩
            simp only [Act.put, List.setIfInBounds_toArray, List.set_cons_succ, List.set_cons_zero]
            apply wpK_val
            · rfl
            · intro w' hw'
              have hcell := hw'.cell N3.out
              go_simp
              first | exact rfl | exact ⟨rfl, hw'⟩
            simp only [Act.put, List.setIfInBounds_toArray, List.set_cons_succ, List.set_cons_zero]
            apply wpK_val
            · rfl
            · intro w' hw'
              have h1 : _ := TL3.out
              go_simp
              first | exact rfl | exact ⟨rfl, hw'⟩
            simp only [Act.put, List.setIfInBounds_toArray, List.set_cons_succ, List.set_cons_zero]
            apply wpK_val
            · rfl
            · intro w' hw'
              have hcell := (hw'.cell ((x6.out.cell (p := ⟨gb, ob + AesM.wd AesM.boxF k l 3, none⟩) hg).trans (HR.out _ (HN.out 3))))
              go_simp
              first | exact rfl | exact ⟨rfl, hw'⟩
            simp only [Act.put, List.setIfInBounds_toArray, List.set_cons_succ, List.set_cons_zero]
            apply wpK_val
            · rfl
            · intro w' hw'
              go_simp
              first | exact rfl | exact ⟨rfl, hw'⟩
            simp only [Act.put, List.setIfInBounds_toArray, List.set_cons_succ, List.set_cons_zero]
            apply wpK_val
            · rfl
            · intro w' hw'
              go_simp
              first | exact rfl | exact ⟨rfl, hw'⟩
            simp only [Act.put, List.setIfInBounds_toArray, List.set_cons_succ, List.set_cons_zero]
            apply wpK_val
            · rfl
            · intro w' hw'
              go_simp
              first | exact rfl | exact ⟨rfl, hw'⟩
            simp only [Act.put, List.setIfInBounds_toArray, List.set_cons_succ, List.set_cons_zero]
            apply wpK_val
            · rfl
            · intro w' hw'
              have hcell := hw'.cell N0.out
              go_simp
              first | exact rfl | exact ⟨rfl, hw'⟩
            simp only [Act.put, List.setIfInBounds_toArray, List.set_cons_succ, List.set_cons_zero]
            apply wpK_val
            · rfl
            · intro w' hw'
              have h1 : _ := TL0.out
              go_simp
              first | exact rfl | exact ⟨rfl, hw'⟩
            simp only [Act.put, List.setIfInBounds_toArray, List.set_cons_succ, List.set_cons_zero]
            apply wpK_val
            · rfl
            · intro w' hw'
              have hcell := (hw'.cell ((x6.out.cell (p := ⟨gb, ob + AesM.wd AesM.boxF k l 0, none⟩) hg).trans (HR.out _ (HN.out 0))))
              go_simp
              first | exact rfl | exact ⟨rfl, hw'⟩
            simp only [Act.put, List.setIfInBounds_toArray, List.set_cons_succ, List.set_cons_zero]
            refine wpK_nil fun w7 hw7 => ?_
            have hh7 := hw7.heap
            have x7 := hid (hw7.below xr6.out)
            clear X N0 N1 N2 N3 TL0 TL1 TL2 TL3 gt0 x6 xr6 FN6 hw7
            go_upto_region 14 with fail
            obtain ⟨gt, hgte⟩ : ∃ gt, gt = wr.heap.size + 1 := ⟨_, rfl⟩
            rw [← hgte]
            obtain ⟨t, ht⟩ : ∃ t : Nat → Nat, t = sel4 (AesM.boxF (AesM.wd AesM.boxF k l 1) ^^^ q) (AesM.boxF (AesM.wd AesM.boxF k l 2)) (AesM.boxF (AesM.wd AesM.boxF k l 3)) (AesM.boxF (AesM.wd AesM.boxF k l 0)) := ⟨_, rfl⟩
            have HTE := hid (show ∀ i, i < 4 → t i = AesM.subW AesM.boxF (AesM.wd AesM.boxF k l) n i from fun i hi => by
              rw [ht]
              unfold AesM.subW
              rw [if_pos c0]
              have hqq : q = 2 ^ (n / 8 - 1) := by rw [HQ.out, show (n + 7) / 8 = n / 8 by omega]
              match i, hi with
              | 0, _ => rw [hqq]; rfl
              | 1, _ | 2, _ | 3, _ => exact (Nat.xor_zero _).symm)
            have HTB := hid (show Bt t from fun i => by
              rw [ht]
              exact sel4_lt (AesM.xor_lt (AesM.boxF_lt _) hp2) (AesM.boxF_lt _) (AesM.boxF_lt _) (AesM.boxF_lt _) i)
            generalize hw8 : World.alloc w7 _ = w8
            have y4 := hid (show Blk w8 gt 5 (ar 4 t) by rw [← hw8]; exact Blk.top ((lit4 _ _ _ _).trans (by rw [ht])) (by rw [hh7, hs6, hgte]))
            have yb := hid (show Below wr.heap.size wr w8 by rw [← hw8]; exact x7.out.alloc (by rw [hh7, hs6]; omega) _)
            have yl := hid (show gt < w8.heap.size by rw [← hw8, hgte]; simp [hh7, hs6])
            have hgt : wr.heap.size ≤ gt := by omega
            clear hw8 x7 hh7 hs6 ht hgte w7 w6
            have HQ2 := hid (show AesM.rm q 2 = 2 ^ ((n + 1 + 7) / 8 - 1) by
              rw [HQ.out, AesM.rm_pow _ (by omega)]
              congr 1
              omega)
            go_wp2_with fail
            refine (rmul_any q 2 hp2 (by omega) w8).mono ?_
            rintro e w9 ⟨rfl, rfl⟩
            go_wp2_with fail
            obtain ⟨wr0, hwr0⟩ : ∃ wr0, wr0 = wr := ⟨_, rfl⟩
            rw [← hwr0] at hs b0 hb FM FB hgv hgt yb hkl hzw
            clear hwr0
            go_loopw [11] (fun i wk => ∃ j : Nat, j ≤ 4 ∧ i = .int .i64 j ∧ Hid (Blk wk gt 5 (ar 4 (upTo j t fun i => t i ^^^ AesM.wd AesM.boxF k m i))) ∧ Hid (Below wr0.heap.size wr0 wk) ∧ Hid (gt < wk.heap.size)) (fun i => fun _ => 4 - (intOf i).toNat)
            case atStart => exact ⟨0, by omega, rfl, by rw [upTo_zero]; exact y4, yb, yl⟩
            case round =>
              clear y4 yb yl
              obtain ⟨j, hj, rfl, y4, yb, yl⟩ := hrel
              by_cases hlj : j < 4
              · have tj : (j : Int) < 4 := by omega
                have D4 := hid ((y4.out.cell j).trans (get_ar hlj))
                have DF := hid ((yb.out.cell (p := ⟨gv, m, none⟩) hgv).trans FM.out)
                have DG := hid (((FB.out.below yb.out FB.out.lt).cell j).trans (get_ar hlj))
                have X := hid (show bits .xor .u8 ((upTo j t (fun i => t i ^^^ AesM.wd AesM.boxF k m i) j : Nat) : Int) ((AesM.wd AesM.boxF k m j : Nat) : Int) = ((t j ^^^ AesM.wd AesM.boxF k m j : Nat) : Int) by rw [upTo_at]; exact u8_xor_nat _ _ (HTB.out j) (HFB.out j))
                go_wp2_with fail
                refine wp_region_tail (C := Drew wr) 16 (by kernel_rfl) (by kernel_rfl) (by kernel_rfl) (Drew.refl _) ?_
                simp only [List.take_succ_cons, List.take_zero, List.drop_succ_cons, List.drop_zero]
                apply wpK_val
                · rfl
                · intro w' hw'
                  go_simp
                  first | exact rfl | exact ⟨rfl, hw'⟩
                simp only [Act.put, List.setIfInBounds_toArray, List.set_cons_succ, List.set_cons_zero]
                apply wpK_val
                · rfl
                · intro w' hw'
                  go_simp
                  first | exact rfl | exact ⟨rfl, hw'⟩
                simp only [Act.put, List.setIfInBounds_toArray, List.set_cons_succ, List.set_cons_zero]
                apply wpK_val
                · rfl
                · intro w' hw'
                  go_simp
                  first | exact rfl | exact ⟨rfl, hw'⟩
                simp only [Act.put, List.setIfInBounds_toArray, List.set_cons_succ, List.set_cons_zero]
                apply wpK_val
                · rfl
                · intro w' hw'
                  go_simp
                  first | exact rfl | exact ⟨rfl, hw'⟩
                simp only [Act.put, List.setIfInBounds_toArray, List.set_cons_succ, List.set_cons_zero]
                apply wpK_val
                · rfl
                · intro w' hw'
                  go_simp
                  first | exact rfl | exact ⟨rfl, hw'⟩
                simp only [Act.put, List.setIfInBounds_toArray, List.set_cons_succ, List.set_cons_zero]
                apply wpK_val
                · rfl
                · intro w' hw'
                  have hcell := hw'.cell D4.out
                  go_simp
                  first | exact rfl | exact ⟨rfl, hw'⟩
                simp only [Act.put, List.setIfInBounds_toArray, List.set_cons_succ, List.set_cons_zero]
                apply wpK_val
                · rfl
                · intro w' hw'
                  go_simp
                  first | exact rfl | exact ⟨rfl, hw'⟩
                simp only [Act.put, List.setIfInBounds_toArray, List.set_cons_succ, List.set_cons_zero]
                apply wpK_val
                · rfl
                · intro w' hw'
                  go_simp
                  first | exact rfl | exact ⟨rfl, hw'⟩
                simp only [Act.put, List.setIfInBounds_toArray, List.set_cons_succ, List.set_cons_zero]
                apply wpK_val
                · rfl
                · intro w' hw'
                  have h1 : _ := EM.out
                  go_simp
                  first | exact rfl | exact ⟨rfl, hw'⟩
                simp only [Act.put, List.setIfInBounds_toArray, List.set_cons_succ, List.set_cons_zero]
                apply wpK_val
                · rfl
                · intro w' hw'
                  go_simp
                  first | exact rfl | exact ⟨rfl, hw'⟩
                simp only [Act.put, List.setIfInBounds_toArray, List.set_cons_succ, List.set_cons_zero]
                apply wpK_val
                · rfl
                · intro w' hw'
                  have hcell := hw'.cell DF.out
                  go_simp
                  first | exact rfl | exact ⟨rfl, hw'⟩
                simp only [Act.put, List.setIfInBounds_toArray, List.set_cons_succ, List.set_cons_zero]
                apply wpK_val
                · rfl
                · intro w' hw'
                  go_simp
                  first | exact rfl | exact ⟨rfl, hw'⟩
                simp only [Act.put, List.setIfInBounds_toArray, List.set_cons_succ, List.set_cons_zero]
                apply wpK_val
                · rfl
                · intro w' hw'
                  go_simp
                  first | exact rfl | exact ⟨rfl, hw'⟩
                simp only [Act.put, List.setIfInBounds_toArray, List.set_cons_succ, List.set_cons_zero]
                apply wpK_val
                · rfl
                · intro w' hw'
                  have hcell := hw'.cell DG.out
                  go_simp
                  first | exact rfl | exact ⟨rfl, hw'⟩
                simp only [Act.put, List.setIfInBounds_toArray, List.set_cons_succ, List.set_cons_zero]
                apply wpK_val
                · rfl
                · intro w' hw'
                  have h1 : _ := X.out
                  go_simp
                  first | exact rfl | exact ⟨rfl, hw'⟩
                simp only [Act.put, List.setIfInBounds_toArray, List.set_cons_succ, List.set_cons_zero]
                apply wpK_val
                · rfl
                · intro w' hw'
                  go_simp
                  first | exact rfl | exact ⟨rfl, hw'⟩
                simp only [Act.put, List.setIfInBounds_toArray, List.set_cons_succ, List.set_cons_zero]
                refine wpK_nil fun w7 hw7 => ?_
                have z4 := hid (hw7.blk y4.out)
                have zb := hid (hw7.below yb.out)
                have zl := hid (show gt < w7.heap.size by rw [hw7.heap]; exact yl.out)
                have c4 := (z4.out.cell j).trans (get_ar hlj)
                have f4 := z4.out.frozen j
                clear y4 yb yl hw7 D4 DF DG X
                go_wp2_with fail
                go_roundw
                case rel => exact ⟨j + 1, by omega, by go_num, hid (upTo_step (z4.out.setCell_same j _)), hid (zb.out.setCell hgt _), hid (by simpa using zl.out)⟩
                case measure => simp [intOf]; omega
              · have tj : decide ((j : Int) < 4) = false := by simp; omega
                have z4 := y4.out
                rw [upTo_all (by omega), ar_ext (g := AesM.wd AesM.boxF k n) fun i hi => by rw [AesM.wd_next _ k h8n hi, ← HM.out, ← HL.out]; show _ = AesM.subW _ _ _ _ ^^^ _; rw [HTE.out i hi]] at z4
                have Z4 := hid z4
                have d0 := hid (b0.out.below yb.out hkl)
                have db := hid (hb.out.trans (yb.out.mono hb.out.size))
                obtain ⟨cs, s1, s2, s3⟩ := hs.out.below yb.out
                have S1 := hid s1
                have S2 := hid s2
                have S3 := hid s3
                have hkl2 := d0.out.lt
                clear b0 hs hb s1 s2 s3 z4 y4 yb yl FM FB
                go_wp2_with (at_builtin; (with_reducible apply wappP); rfl; rfl; exact S1.out.alloc _; exact Blk.top rfl rfl; (rw [S2.out]; omega); (simp; omega); intro v9 w9 o9 g9)
                have d0' := d0.out.alloc (.cells #[.slice (some ⟨gt, 0, none⟩) 4 4] 71)
                have dbl := db.out.alloc db.out.size (.cells #[.slice (some ⟨gt, 0, none⟩) 4 4] 71)
                go_roundw
                case rel =>
                  refine ⟨n + 1, AesM.rm q 2, v9, by omega, by omega, by go_num, rfl, rfl, HQ2.out, hid (d0'.apart g9 fun e => by have := S1.out.ownGe e; omega), hid (WS.snoc (S1.out.alloc _) S2.out (fun i hi => by obtain ⟨G, q1, q2⟩ := S3.out i hi; exact ⟨G, q1, q2.alloc _⟩) (Z4.out.alloc _) o9 g9), hid (below_grownP dbl g9 (S1.out.alloc _) (by omega) dbl.size)⟩
                case measure => simp [intOf] <;> omega
          · have t0 : ((n : Int).tmod 8 == 0) = false := by rw [beq_eq_false_iff_ne, Int.tmod_eq_emod_of_nonneg (by omega)]; omega
            have t1 : ((n : Int) % 8 == 0) = false := by rw [beq_eq_false_iff_ne]; omega
            by_cases c4 : n % 8 = 4
            · have t2 : ((n : Int) % 8 == 4) = true := by rw [beq_iff_eq]; omega
              go_upto_region 16 with fail
              refine wp_region_tail (C := Drew w6) 24 (by kernel_rfl) (by kernel_rfl) (by kernel_rfl) (Drew.refl _) ?_
              simp only [List.take_succ_cons, List.take_zero, List.drop_succ_cons, List.drop_zero]
              apply wpK_val
              · rfl
              · intro w' hw'
                go_simp
                first | exact rfl | exact ⟨rfl, hw'⟩
              simp only [Act.put, List.setIfInBounds_toArray, List.set_cons_succ, List.set_cons_zero]
              apply wpK_val
              · rfl
              · intro w' hw'
                go_simp
                first | exact rfl | exact ⟨rfl, hw'⟩
              simp only [Act.put, List.setIfInBounds_toArray, List.set_cons_succ, List.set_cons_zero]
              apply wpK_val
              · rfl
              · intro w' hw'
                go_simp
                first | exact rfl | exact ⟨rfl, hw'⟩
              simp only [Act.put, List.setIfInBounds_toArray, List.set_cons_succ, List.set_cons_zero]
              apply wpK_val
              · rfl
              · intro w' hw'
                have hcell := hw'.cell N0.out
                go_simp
                first | exact rfl | exact ⟨rfl, hw'⟩
              simp only [Act.put, List.setIfInBounds_toArray, List.set_cons_succ, List.set_cons_zero]
              apply wpK_val
              · rfl
              · intro w' hw'
                have h1 : _ := TL0.out
                go_simp
                first | exact rfl | exact ⟨rfl, hw'⟩
              simp only [Act.put, List.setIfInBounds_toArray, List.set_cons_succ, List.set_cons_zero]
              apply wpK_val
              · rfl
              · intro w' hw'
                have hcell := (hw'.cell ((x6.out.cell (p := ⟨gb, ob + AesM.wd AesM.boxF k l 0, none⟩) hg).trans (HR.out _ (HN.out 0))))
                go_simp
                first | exact rfl | exact ⟨rfl, hw'⟩
              simp only [Act.put, List.setIfInBounds_toArray, List.set_cons_succ, List.set_cons_zero]
              apply wpK_val
              · rfl
              · intro w' hw'
                go_simp
                first | exact rfl | exact ⟨rfl, hw'⟩
              simp only [Act.put, List.setIfInBounds_toArray, List.set_cons_succ, List.set_cons_zero]
              apply wpK_val
              · rfl
              · intro w' hw'
                go_simp
                first | exact rfl | exact ⟨rfl, hw'⟩
              simp only [Act.put, List.setIfInBounds_toArray, List.set_cons_succ, List.set_cons_zero]
              apply wpK_val
              · rfl
              · intro w' hw'
                go_simp
                first | exact rfl | exact ⟨rfl, hw'⟩
              simp only [Act.put, List.setIfInBounds_toArray, List.set_cons_succ, List.set_cons_zero]
              apply wpK_val
              · rfl
              · intro w' hw'
                have hcell := hw'.cell N1.out
                go_simp
                first | exact rfl | exact ⟨rfl, hw'⟩
              simp only [Act.put, List.setIfInBounds_toArray, List.set_cons_succ, List.set_cons_zero]
              apply wpK_val
              · rfl
              · intro w' hw'
                have h1 : _ := TL1.out
                go_simp
                first | exact rfl | exact ⟨rfl, hw'⟩
              simp only [Act.put, List.setIfInBounds_toArray, List.set_cons_succ, List.set_cons_zero]
              apply wpK_val
              · rfl
              · intro w' hw'
                have hcell := (hw'.cell ((x6.out.cell (p := ⟨gb, ob + AesM.wd AesM.boxF k l 1, none⟩) hg).trans (HR.out _ (HN.out 1))))
                go_simp
                first | exact rfl | exact ⟨rfl, hw'⟩
              simp only [Act.put, List.setIfInBounds_toArray, List.set_cons_succ, List.set_cons_zero]
              apply wpK_val
              · rfl
              · intro w' hw'
                go_simp
                first | exact rfl | exact ⟨rfl, hw'⟩
              simp only [Act.put, List.setIfInBounds_toArray, List.set_cons_succ, List.set_cons_zero]
              apply wpK_val
              · rfl
              · intro w' hw'
                go_simp
                first | exact rfl | exact ⟨rfl, hw'⟩
              simp only [Act.put, List.setIfInBounds_toArray, List.set_cons_succ, List.set_cons_zero]
              apply wpK_val
              · rfl
              · intro w' hw'
                go_simp
                first | exact rfl | exact ⟨rfl, hw'⟩
              simp only [Act.put, List.setIfInBounds_toArray, List.set_cons_succ, List.set_cons_zero]
              apply wpK_val
              · rfl
              · intro w' hw'
                have hcell := hw'.cell N2.out
                go_simp
                first | exact rfl | exact ⟨rfl, hw'⟩
              simp only [Act.put, List.setIfInBounds_toArray, List.set_cons_succ, List.set_cons_zero]
              apply wpK_val
              · rfl
              · intro w' hw'
                have h1 : _ := TL2.out
                go_simp
                first | exact rfl | exact ⟨rfl, hw'⟩
              simp only [Act.put, List.setIfInBounds_toArray, List.set_cons_succ, List.set_cons_zero]
              apply wpK_val
              · rfl
              · intro w' hw'
                have hcell := (hw'.cell ((x6.out.cell (p := ⟨gb, ob + AesM.wd AesM.boxF k l 2, none⟩) hg).trans (HR.out _ (HN.out 2))))
                go_simp
                first | exact rfl | exact ⟨rfl, hw'⟩
              simp only [Act.put, List.setIfInBounds_toArray, List.set_cons_succ, List.set_cons_zero]
              apply wpK_val
              · rfl
              · intro w' hw'
                go_simp
                first | exact rfl | exact ⟨rfl, hw'⟩
              simp only [Act.put, List.setIfInBounds_toArray, List.set_cons_succ, List.set_cons_zero]
              apply wpK_val
              · rfl
              · intro w' hw'
                go_simp
                first | exact rfl | exact ⟨rfl, hw'⟩
              simp only [Act.put, List.setIfInBounds_toArray, List.set_cons_succ, List.set_cons_zero]
              apply wpK_val
              · rfl
              · intro w' hw'
                go_simp
                first | exact rfl | exact ⟨rfl, hw'⟩
              simp only [Act.put, List.setIfInBounds_toArray, List.set_cons_succ, List.set_cons_zero]
              apply wpK_val
              · rfl
              · intro w' hw'
                have hcell := hw'.cell N3.out
                go_simp
                first | exact rfl | exact ⟨rfl, hw'⟩
              simp only [Act.put, List.setIfInBounds_toArray, List.set_cons_succ, List.set_cons_zero]
              apply wpK_val
              · rfl
              · intro w' hw'
                have h1 : _ := TL3.out
                go_simp
                first | exact rfl | exact ⟨rfl, hw'⟩
              simp only [Act.put, List.setIfInBounds_toArray, List.set_cons_succ, List.set_cons_zero]
              apply wpK_val
              · rfl
              · intro w' hw'
                have hcell := (hw'.cell ((x6.out.cell (p := ⟨gb, ob + AesM.wd AesM.boxF k l 3, none⟩) hg).trans (HR.out _ (HN.out 3))))
                go_simp
                first | exact rfl | exact ⟨rfl, hw'⟩
              simp only [Act.put, List.setIfInBounds_toArray, List.set_cons_succ, List.set_cons_zero]
              refine wpK_nil fun w7 hw7 => ?_
              have hh7 := hw7.heap
              have x7 := hid (hw7.below xr6.out)
              clear N0 N1 N2 N3 TL0 TL1 TL2 TL3 gt0 x6 xr6 FN6 hw7
              go_upto_region 17 with fail
              obtain ⟨gt, hgte⟩ : ∃ gt, gt = wr.heap.size + 1 := ⟨_, rfl⟩
              rw [← hgte]
              obtain ⟨t, ht⟩ : ∃ t : Nat → Nat, t = sel4 (AesM.boxF (AesM.wd AesM.boxF k l 0)) (AesM.boxF (AesM.wd AesM.boxF k l 1)) (AesM.boxF (AesM.wd AesM.boxF k l 2)) (AesM.boxF (AesM.wd AesM.boxF k l 3)) := ⟨_, rfl⟩
              have HTE := hid (show ∀ i, i < 4 → t i = AesM.subW AesM.boxF (AesM.wd AesM.boxF k l) n i from fun i hi => by
                rw [ht]
                unfold AesM.subW
                rw [if_neg c0, if_pos c4]
                match i, hi with
                | 0, _ | 1, _ | 2, _ | 3, _ => rfl)
              have HTB := hid (show Bt t from fun i => by
                rw [ht]
                exact sel4_lt (AesM.boxF_lt _) (AesM.boxF_lt _) (AesM.boxF_lt _) (AesM.boxF_lt _) i)
              generalize hw8 : World.alloc w7 _ = w8
              have y4 := hid (show Blk w8 gt 5 (ar 4 t) by rw [← hw8]; exact Blk.top ((lit4 _ _ _ _).trans (by rw [ht])) (by rw [hh7, hs6, hgte]))
              have yb := hid (show Below wr.heap.size wr w8 by rw [← hw8]; exact x7.out.alloc (by rw [hh7, hs6]; omega) _)
              have yl := hid (show gt < w8.heap.size by rw [← hw8, hgte]; simp [hh7, hs6])
              have hgt : wr.heap.size ≤ gt := by omega
              clear hw8 x7 hh7 hs6 ht hgte w7 w6
              have HQ2 := hid (show q = 2 ^ ((n + 1 + 7) / 8 - 1) by rw [HQ.out, show (n + 1 + 7) / 8 = (n + 7) / 8 by omega])
              go_wp2_with fail
              obtain ⟨wr0, hwr0⟩ : ∃ wr0, wr0 = wr := ⟨_, rfl⟩
              rw [← hwr0] at hs b0 hb FM FB hgv hgt yb hkl hzw
              clear hwr0
              go_loopw [11] (fun i wk => ∃ j : Nat, j ≤ 4 ∧ i = .int .i64 j ∧ Hid (Blk wk gt 5 (ar 4 (upTo j t fun i => t i ^^^ AesM.wd AesM.boxF k m i))) ∧ Hid (Below wr0.heap.size wr0 wk) ∧ Hid (gt < wk.heap.size)) (fun i => fun _ => 4 - (intOf i).toNat)
              case atStart => exact ⟨0, by omega, rfl, by rw [upTo_zero]; exact y4, yb, yl⟩
              case round =>
                clear y4 yb yl
                obtain ⟨j, hj, rfl, y4, yb, yl⟩ := hrel
                by_cases hlj : j < 4
                · have tj : (j : Int) < 4 := by omega
                  have D4 := hid ((y4.out.cell j).trans (get_ar hlj))
                  have DF := hid ((yb.out.cell (p := ⟨gv, m, none⟩) hgv).trans FM.out)
                  have DG := hid (((FB.out.below yb.out FB.out.lt).cell j).trans (get_ar hlj))
                  have X := hid (show bits .xor .u8 ((upTo j t (fun i => t i ^^^ AesM.wd AesM.boxF k m i) j : Nat) : Int) ((AesM.wd AesM.boxF k m j : Nat) : Int) = ((t j ^^^ AesM.wd AesM.boxF k m j : Nat) : Int) by rw [upTo_at]; exact u8_xor_nat _ _ (HTB.out j) (HFB.out j))
                  go_wp2_with fail
                  refine wp_region_tail (C := Drew wr) 16 (by kernel_rfl) (by kernel_rfl) (by kernel_rfl) (Drew.refl _) ?_
                  simp only [List.take_succ_cons, List.take_zero, List.drop_succ_cons, List.drop_zero]
                  apply wpK_val
                  · rfl
                  · intro w' hw'
                    go_simp
                    first | exact rfl | exact ⟨rfl, hw'⟩
                  simp only [Act.put, List.setIfInBounds_toArray, List.set_cons_succ, List.set_cons_zero]
                  apply wpK_val
                  · rfl
                  · intro w' hw'
                    go_simp
                    first | exact rfl | exact ⟨rfl, hw'⟩
                  simp only [Act.put, List.setIfInBounds_toArray, List.set_cons_succ, List.set_cons_zero]
                  apply wpK_val
                  · rfl
                  · intro w' hw'
                    go_simp
                    first | exact rfl | exact ⟨rfl, hw'⟩
                  simp only [Act.put, List.setIfInBounds_toArray, List.set_cons_succ, List.set_cons_zero]
                  apply wpK_val
                  · rfl
                  · intro w' hw'
                    go_simp
                    first | exact rfl | exact ⟨rfl, hw'⟩
                  simp only [Act.put, List.setIfInBounds_toArray, List.set_cons_succ, List.set_cons_zero]
                  apply wpK_val
                  · rfl
                  · intro w' hw'
                    go_simp
                    first | exact rfl | exact ⟨rfl, hw'⟩
                  simp only [Act.put, List.setIfInBounds_toArray, List.set_cons_succ, List.set_cons_zero]
                  apply wpK_val
                  · rfl
                  · intro w' hw'
                    have hcell := hw'.cell D4.out
                    go_simp
                    first | exact rfl | exact ⟨rfl, hw'⟩
                  simp only [Act.put, List.setIfInBounds_toArray, List.set_cons_succ, List.set_cons_zero]
                  apply wpK_val
                  · rfl
                  · intro w' hw'
                    go_simp
                    first | exact rfl | exact ⟨rfl, hw'⟩
                  simp only [Act.put, List.setIfInBounds_toArray, List.set_cons_succ, List.set_cons_zero]
                  apply wpK_val
                  · rfl
                  · intro w' hw'
                    go_simp
                    first | exact rfl | exact ⟨rfl, hw'⟩
                  simp only [Act.put, List.setIfInBounds_toArray, List.set_cons_succ, List.set_cons_zero]
                  apply wpK_val
                  · rfl
                  · intro w' hw'
                    have h1 : _ := EM.out
                    go_simp
                    first | exact rfl | exact ⟨rfl, hw'⟩
                  simp only [Act.put, List.setIfInBounds_toArray, List.set_cons_succ, List.set_cons_zero]
                  apply wpK_val
                  · rfl
                  · intro w' hw'
                    go_simp
                    first | exact rfl | exact ⟨rfl, hw'⟩
                  simp only [Act.put, List.setIfInBounds_toArray, List.set_cons_succ, List.set_cons_zero]
                  apply wpK_val
                  · rfl
                  · intro w' hw'
                    have hcell := hw'.cell DF.out
                    go_simp
                    first | exact rfl | exact ⟨rfl, hw'⟩
                  simp only [Act.put, List.setIfInBounds_toArray, List.set_cons_succ, List.set_cons_zero]
                  apply wpK_val
                  · rfl
                  · intro w' hw'
                    go_simp
                    first | exact rfl | exact ⟨rfl, hw'⟩
                  simp only [Act.put, List.setIfInBounds_toArray, List.set_cons_succ, List.set_cons_zero]
                  apply wpK_val
                  · rfl
                  · intro w' hw'
                    go_simp
                    first | exact rfl | exact ⟨rfl, hw'⟩
                  simp only [Act.put, List.setIfInBounds_toArray, List.set_cons_succ, List.set_cons_zero]
                  apply wpK_val
                  · rfl
                  · intro w' hw'
                    have hcell := hw'.cell DG.out
                    go_simp
                    first | exact rfl | exact ⟨rfl, hw'⟩
                  simp only [Act.put, List.setIfInBounds_toArray, List.set_cons_succ, List.set_cons_zero]
                  apply wpK_val
                  · rfl
                  · intro w' hw'
                    have h1 : _ := X.out
                    go_simp
                    first | exact rfl | exact ⟨rfl, hw'⟩
                  simp only [Act.put, List.setIfInBounds_toArray, List.set_cons_succ, List.set_cons_zero]
                  apply wpK_val
                  · rfl
                  · intro w' hw'
                    go_simp
                    first | exact rfl | exact ⟨rfl, hw'⟩
                  simp only [Act.put, List.setIfInBounds_toArray, List.set_cons_succ, List.set_cons_zero]
                  refine wpK_nil fun w7 hw7 => ?_
                  have z4 := hid (hw7.blk y4.out)
                  have zb := hid (hw7.below yb.out)
                  have zl := hid (show gt < w7.heap.size by rw [hw7.heap]; exact yl.out)
                  have c4 := (z4.out.cell j).trans (get_ar hlj)
                  have f4 := z4.out.frozen j
                  clear y4 yb yl hw7 D4 DF DG X
                  go_wp2_with fail
                  go_roundw
                  case rel => exact ⟨j + 1, by omega, by go_num, hid (upTo_step (z4.out.setCell_same j _)), hid (zb.out.setCell hgt _), hid (by simpa using zl.out)⟩
                  case measure => simp [intOf]; omega
                · have tj : decide ((j : Int) < 4) = false := by simp; omega
                  have z4 := y4.out
                  rw [upTo_all (by omega), ar_ext (g := AesM.wd AesM.boxF k n) fun i hi => by rw [AesM.wd_next _ k h8n hi, ← HM.out, ← HL.out]; show _ = AesM.subW _ _ _ _ ^^^ _; rw [HTE.out i hi]] at z4
                  have Z4 := hid z4
                  have d0 := hid (b0.out.below yb.out hkl)
                  have db := hid (hb.out.trans (yb.out.mono hb.out.size))
                  obtain ⟨cs, s1, s2, s3⟩ := hs.out.below yb.out
                  have S1 := hid s1
                  have S2 := hid s2
                  have S3 := hid s3
                  have hkl2 := d0.out.lt
                  clear b0 hs hb s1 s2 s3 z4 y4 yb yl FM FB
                  go_wp2_with (at_builtin; (with_reducible apply wappP); rfl; rfl; exact S1.out.alloc _; exact Blk.top rfl rfl; (rw [S2.out]; omega); (simp; omega); intro v9 w9 o9 g9)
                  have d0' := d0.out.alloc (.cells #[.slice (some ⟨gt, 0, none⟩) 4 4] 71)
                  have dbl := db.out.alloc db.out.size (.cells #[.slice (some ⟨gt, 0, none⟩) 4 4] 71)
                  go_roundw
                  case rel =>
                    refine ⟨n + 1, q, v9, by omega, by omega, by go_num, rfl, rfl, HQ2.out, hid (d0'.apart g9 fun e => by have := S1.out.ownGe e; omega), hid (WS.snoc (S1.out.alloc _) S2.out (fun i hi => by obtain ⟨G, q1, q2⟩ := S3.out i hi; exact ⟨G, q1, q2.alloc _⟩) (Z4.out.alloc _) o9 g9), hid (below_grownP dbl g9 (S1.out.alloc _) (by omega) dbl.size)⟩
                  case measure => simp [intOf] <;> omega
            · have t2 : ((n : Int) % 8 == 4) = false := by rw [beq_eq_false_iff_ne]; omega
              have HTE := hid (show ∀ i, i < 4 → AesM.wd AesM.boxF k l i = AesM.subW AesM.boxF (AesM.wd AesM.boxF k l) n i from fun i hi => by
                unfold AesM.subW
                rw [if_neg c0, if_neg c4])
              have HTB := HN
              obtain ⟨gt, hgte⟩ : ∃ gt, gt = wr.heap.size := ⟨_, rfl⟩
              have hgt : wr.heap.size ≤ gt := by omega
              have y4 := gt0
              rw [← hgte] at y4
              have yb := xr6
              have yl := hid (show gt < w6.heap.size by omega)
              rw [← hgte]
              clear gt0 xr6 x6 FN6 hs6 hgte N0 N1 N2 N3 TL0 TL1 TL2 TL3
              have HQ2 := hid (show q = 2 ^ ((n + 1 + 7) / 8 - 1) by rw [HQ.out, show (n + 1 + 7) / 8 = (n + 7) / 8 by omega])
              go_wp2_with fail
              obtain ⟨wr0, hwr0⟩ : ∃ wr0, wr0 = wr := ⟨_, rfl⟩
              rw [← hwr0] at hs b0 hb FM FB hgv hgt yb hkl hzw
              clear hwr0
              go_loopw [11] (fun i wk => ∃ j : Nat, j ≤ 4 ∧ i = .int .i64 j ∧ Hid (Blk wk gt 5 (ar 4 (upTo j (AesM.wd AesM.boxF k l) fun i => (AesM.wd AesM.boxF k l) i ^^^ AesM.wd AesM.boxF k m i))) ∧ Hid (Below wr0.heap.size wr0 wk) ∧ Hid (gt < wk.heap.size)) (fun i => fun _ => 4 - (intOf i).toNat)
              case atStart => exact ⟨0, by omega, rfl, by rw [upTo_zero]; exact y4, yb, yl⟩
              case round =>
                clear y4 yb yl
                obtain ⟨j, hj, rfl, y4, yb, yl⟩ := hrel
                by_cases hlj : j < 4
                · have tj : (j : Int) < 4 := by omega
                  have D4 := hid ((y4.out.cell j).trans (get_ar hlj))
                  have DF := hid ((yb.out.cell (p := ⟨gv, m, none⟩) hgv).trans FM.out)
                  have DG := hid (((FB.out.below yb.out FB.out.lt).cell j).trans (get_ar hlj))
                  have X := hid (show bits .xor .u8 ((upTo j (AesM.wd AesM.boxF k l) (fun i => (AesM.wd AesM.boxF k l) i ^^^ AesM.wd AesM.boxF k m i) j : Nat) : Int) ((AesM.wd AesM.boxF k m j : Nat) : Int) = (((AesM.wd AesM.boxF k l) j ^^^ AesM.wd AesM.boxF k m j : Nat) : Int) by rw [upTo_at]; exact u8_xor_nat _ _ (HTB.out j) (HFB.out j))
                  go_wp2_with fail
                  refine wp_region_tail (C := Drew wr) 16 (by kernel_rfl) (by kernel_rfl) (by kernel_rfl) (Drew.refl _) ?_
                  simp only [List.take_succ_cons, List.take_zero, List.drop_succ_cons, List.drop_zero]
                  apply wpK_val
                  · rfl
                  · intro w' hw'
                    go_simp
                    first | exact rfl | exact ⟨rfl, hw'⟩
                  simp only [Act.put, List.setIfInBounds_toArray, List.set_cons_succ, List.set_cons_zero]
                  apply wpK_val
                  · rfl
                  · intro w' hw'
                    go_simp
                    first | exact rfl | exact ⟨rfl, hw'⟩
                  simp only [Act.put, List.setIfInBounds_toArray, List.set_cons_succ, List.set_cons_zero]
                  apply wpK_val
                  · rfl
                  · intro w' hw'
                    go_simp
                    first | exact rfl | exact ⟨rfl, hw'⟩
                  simp only [Act.put, List.setIfInBounds_toArray, List.set_cons_succ, List.set_cons_zero]
                  apply wpK_val
                  · rfl
                  · intro w' hw'
                    go_simp
                    first | exact rfl | exact ⟨rfl, hw'⟩
                  simp only [Act.put, List.setIfInBounds_toArray, List.set_cons_succ, List.set_cons_zero]
                  apply wpK_val
                  · rfl
                  · intro w' hw'
                    go_simp
                    first | exact rfl | exact ⟨rfl, hw'⟩
                  simp only [Act.put, List.setIfInBounds_toArray, List.set_cons_succ, List.set_cons_zero]
                  apply wpK_val
                  · rfl
                  · intro w' hw'
                    have hcell := hw'.cell D4.out
                    go_simp
                    first | exact rfl | exact ⟨rfl, hw'⟩
                  simp only [Act.put, List.setIfInBounds_toArray, List.set_cons_succ, List.set_cons_zero]
                  apply wpK_val
                  · rfl
                  · intro w' hw'
                    go_simp
                    first | exact rfl | exact ⟨rfl, hw'⟩
                  simp only [Act.put, List.setIfInBounds_toArray, List.set_cons_succ, List.set_cons_zero]
                  apply wpK_val
                  · rfl
                  · intro w' hw'
                    go_simp
                    first | exact rfl | exact ⟨rfl, hw'⟩
                  simp only [Act.put, List.setIfInBounds_toArray, List.set_cons_succ, List.set_cons_zero]
                  apply wpK_val
                  · rfl
                  · intro w' hw'
                    have h1 : _ := EM.out
                    go_simp
                    first | exact rfl | exact ⟨rfl, hw'⟩
                  simp only [Act.put, List.setIfInBounds_toArray, List.set_cons_succ, List.set_cons_zero]
                  apply wpK_val
                  · rfl
                  · intro w' hw'
                    go_simp
                    first | exact rfl | exact ⟨rfl, hw'⟩
                  simp only [Act.put, List.setIfInBounds_toArray, List.set_cons_succ, List.set_cons_zero]
                  apply wpK_val
                  · rfl
                  · intro w' hw'
                    have hcell := hw'.cell DF.out
                    go_simp
                    first | exact rfl | exact ⟨rfl, hw'⟩
                  simp only [Act.put, List.setIfInBounds_toArray, List.set_cons_succ, List.set_cons_zero]
                  apply wpK_val
                  · rfl
                  · intro w' hw'
                    go_simp
                    first | exact rfl | exact ⟨rfl, hw'⟩
                  simp only [Act.put, List.setIfInBounds_toArray, List.set_cons_succ, List.set_cons_zero]
                  apply wpK_val
                  · rfl
                  · intro w' hw'
                    go_simp
                    first | exact rfl | exact ⟨rfl, hw'⟩
                  simp only [Act.put, List.setIfInBounds_toArray, List.set_cons_succ, List.set_cons_zero]
                  apply wpK_val
                  · rfl
                  · intro w' hw'
                    have hcell := hw'.cell DG.out
                    go_simp
                    first | exact rfl | exact ⟨rfl, hw'⟩
                  simp only [Act.put, List.setIfInBounds_toArray, List.set_cons_succ, List.set_cons_zero]
                  apply wpK_val
                  · rfl
                  · intro w' hw'
                    have h1 : _ := X.out
                    go_simp
                    first | exact rfl | exact ⟨rfl, hw'⟩
                  simp only [Act.put, List.setIfInBounds_toArray, List.set_cons_succ, List.set_cons_zero]
                  apply wpK_val
                  · rfl
                  · intro w' hw'
                    go_simp
                    first | exact rfl | exact ⟨rfl, hw'⟩
                  simp only [Act.put, List.setIfInBounds_toArray, List.set_cons_succ, List.set_cons_zero]
                  refine wpK_nil fun w7 hw7 => ?_
                  have z4 := hid (hw7.blk y4.out)
                  have zb := hid (hw7.below yb.out)
                  have zl := hid (show gt < w7.heap.size by rw [hw7.heap]; exact yl.out)
                  have c4 := (z4.out.cell j).trans (get_ar hlj)
                  have f4 := z4.out.frozen j
                  clear y4 yb yl hw7 D4 DF DG X
                  go_wp2_with fail
                  go_roundw
                  case rel => exact ⟨j + 1, by omega, by go_num, hid (upTo_step (z4.out.setCell_same j _)), hid (zb.out.setCell hgt _), hid (by simpa using zl.out)⟩
                  case measure => simp [intOf]; omega
                · have tj : decide ((j : Int) < 4) = false := by simp; omega
                  have z4 := y4.out
                  rw [upTo_all (by omega), ar_ext (g := AesM.wd AesM.boxF k n) fun i hi => by rw [AesM.wd_next _ k h8n hi, ← HM.out, ← HL.out]; show _ = AesM.subW _ _ _ _ ^^^ _; rw [HTE.out i hi]] at z4
                  have Z4 := hid z4
                  have d0 := hid (b0.out.below yb.out hkl)
                  have db := hid (hb.out.trans (yb.out.mono hb.out.size))
                  obtain ⟨cs, s1, s2, s3⟩ := hs.out.below yb.out
                  have S1 := hid s1
                  have S2 := hid s2
                  have S3 := hid s3
                  have hkl2 := d0.out.lt
                  clear b0 hs hb s1 s2 s3 z4 y4 yb yl FM FB
                  go_wp2_with (at_builtin; (with_reducible apply wappP); rfl; rfl; exact S1.out.alloc _; exact Blk.top rfl rfl; (rw [S2.out]; omega); (simp; omega); intro v9 w9 o9 g9)
                  have d0' := d0.out.alloc (.cells #[.slice (some ⟨gt, 0, none⟩) 4 4] 71)
                  have dbl := db.out.alloc db.out.size (.cells #[.slice (some ⟨gt, 0, none⟩) 4 4] 71)
                  go_roundw
                  case rel =>
                    refine ⟨n + 1, q, v9, by omega, by omega, by go_num, rfl, rfl, HQ2.out, hid (d0'.apart g9 fun e => by have := S1.out.ownGe e; omega), hid (WS.snoc (S1.out.alloc _) S2.out (fun i hi => by obtain ⟨G, q1, q2⟩ := S3.out i hi; exact ⟨G, q1, q2.alloc _⟩) (Z4.out.alloc _) o9 g9), hid (below_grownP dbl g9 (S1.out.alloc _) (by omega) dbl.size)⟩
                  case measure => simp [intOf] <;> omega
        · obtain rfl : n = 60 := by omega
          go_wp2_with fail
          go_ret
          exact ⟨_, rfl, hs.out, hb.out⟩
end AesP
end Go.Proofs.Ytkcfonlondlmeaa
namespace Go.Proofs.Ytkcfonlondlmeaa
namespace AesM
def mxGo (f l : Nat → Nat) (c i : Nat) : Nat → Nat
  | 0 => 0
  | k + 1 => mxGo f l c i k ^^^ rm (f (4 * c + k)) (l ((k + 4 - i) % 4))
theorem mxGo_lt (f l : Nat → Nat) (c i : Nat) : ∀ k, mxGo f l c i k < 256
  | 0 => Nat.zero_lt_succ _
  | k + 1 => xor_lt (mxGo_lt f l c i k) (rm_lt _ _)
def mixD (f l : Nat → Nat) (n : Nat) : Nat := mxGo f l (n / 4) (n % 4) 4
theorem mixD_at (f l : Nat → Nat) (c : Nat) {i : Nat} (hi : i < 4) : mixD f l (4 * c + i) = mxGo f l c i 4 := by
  unfold mixD
  rw [show (4 * c + i) / 4 = c by omega, show (4 * c + i) % 4 = i by omega]
def lF : List Nat := [2, 3, 1, 1]
def lB : List Nat := [14, 11, 13, 9]
theorem mix_lF {f : Nat → Nat} (h : Bt f) : Q16 (mixD f (ls lF)) (mix f) := fun n hn => by
  obtain ⟨c, i, hi, rfl⟩ : ∃ c i, i < 4 ∧ n = 4 * c + i := ⟨n / 4, n % 4, by omega, by omega⟩
  rw [mixD_at f _ c hi]
  unfold mix
  rw [show (4 * c + i) / 4 * 4 = 4 * c by omega, show (4 * c + i) % 4 = i by omega]
  have h0 := h (4 * c)
  have h1 := h (4 * c + 1)
  have h2 := h (4 * c + 2)
  have h3 := h (4 * c + 3)
  match i, hi with
  | 0, _ =>
    show 0 ^^^ rm (f (4 * c + 0)) 2 ^^^ rm (f (4 * c + 1)) 3 ^^^ rm (f (4 * c + 2)) 1 ^^^ rm (f (4 * c + 3)) 1 = f (4 * c + 0) ^^^ (f (4 * c) ^^^ f (4 * c + 1) ^^^ f (4 * c + 2) ^^^ f (4 * c + 3)) ^^^ dbl (f (4 * c + 0) ^^^ f (4 * c + 1))
    rw [Nat.add_zero, rm_two _ h0, rm_three _ h1, rm_one _ h2, rm_one _ h3, dbl_xor h0 h1, Nat.zero_xor]
    generalize f (4 * c) = a
    generalize f (4 * c + 1) = b
    simp only [Nat.xor_assoc, Nat.xor_comm, xlc, xor_cancel, Nat.xor_self, Nat.xor_zero]
  | 1, _ =>
    show 0 ^^^ rm (f (4 * c + 0)) 1 ^^^ rm (f (4 * c + 1)) 2 ^^^ rm (f (4 * c + 2)) 3 ^^^ rm (f (4 * c + 3)) 1 = f (4 * c + 1) ^^^ (f (4 * c) ^^^ f (4 * c + 1) ^^^ f (4 * c + 2) ^^^ f (4 * c + 3)) ^^^ dbl (f (4 * c + 1) ^^^ f (4 * c + 2))
    rw [Nat.add_zero, rm_one _ h0, rm_two _ h1, rm_three _ h2, rm_one _ h3, dbl_xor h1 h2, Nat.zero_xor]
    simp only [Nat.xor_assoc, Nat.xor_comm, xlc, xor_cancel, Nat.xor_self, Nat.xor_zero]
  | 2, _ =>
    show 0 ^^^ rm (f (4 * c + 0)) 1 ^^^ rm (f (4 * c + 1)) 1 ^^^ rm (f (4 * c + 2)) 2 ^^^ rm (f (4 * c + 3)) 3 = f (4 * c + 2) ^^^ (f (4 * c) ^^^ f (4 * c + 1) ^^^ f (4 * c + 2) ^^^ f (4 * c + 3)) ^^^ dbl (f (4 * c + 2) ^^^ f (4 * c + 3))
    rw [Nat.add_zero, rm_one _ h0, rm_one _ h1, rm_two _ h2, rm_three _ h3, dbl_xor h2 h3, Nat.zero_xor]
    simp only [Nat.xor_assoc, Nat.xor_comm, xlc, xor_cancel, Nat.xor_self, Nat.xor_zero]
  | 3, _ =>
    show 0 ^^^ rm (f (4 * c + 0)) 3 ^^^ rm (f (4 * c + 1)) 1 ^^^ rm (f (4 * c + 2)) 1 ^^^ rm (f (4 * c + 3)) 2 = f (4 * c + 3) ^^^ (f (4 * c) ^^^ f (4 * c + 1) ^^^ f (4 * c + 2) ^^^ f (4 * c + 3)) ^^^ dbl (f (4 * c + 3) ^^^ f (4 * c + 0))
    rw [Nat.add_zero, rm_three _ h0, rm_one _ h1, rm_one _ h2, rm_two _ h3, dbl_xor h3 h0, Nat.zero_xor]
    simp only [Nat.xor_assoc, Nat.xor_comm, xlc, xor_cancel, Nat.xor_self, Nat.xor_zero, Nat.zero_xor]
/-- A column mixed three times. -/
theorem mixB_at {a b p q : Nat} (ha : a < 256) (hb : b < 256) (hp : p < 256) (hq : q < 256) :
    (a ^^^ dbl (dbl (a ^^^ p))) ^^^ (a ^^^ b ^^^ p ^^^ q) ^^^ dbl ((a ^^^ dbl (dbl (a ^^^ p))) ^^^ (b ^^^ dbl (dbl (b ^^^ q)))) =
      (dbl (dbl (dbl a)) ^^^ dbl (dbl a) ^^^ dbl a) ^^^ (dbl (dbl (dbl b)) ^^^ dbl b ^^^ b) ^^^ (dbl (dbl (dbl p)) ^^^ dbl (dbl p) ^^^ p) ^^^ (dbl (dbl (dbl q)) ^^^ q) := by
  have da := dbl_lt ha
  have db := dbl_lt hb
  have dp := dbl_lt hp
  have dq := dbl_lt hq
  have dda := dbl_lt da
  have ddb := dbl_lt db
  have ddp := dbl_lt dp
  have ddq := dbl_lt dq
  rw [dbl_xor ha hp, dbl_xor hb hq, dbl_xor da dp, dbl_xor db dq, dbl_xor (xor_lt ha (xor_lt dda ddp)) (xor_lt hb (xor_lt ddb ddq)), dbl_xor ha (xor_lt dda ddp), dbl_xor hb (xor_lt ddb ddq), dbl_xor dda ddp, dbl_xor ddb ddq]
  generalize dbl (dbl (dbl a)) = a3
  generalize dbl (dbl (dbl b)) = b3
  generalize dbl (dbl (dbl p)) = p3
  generalize dbl (dbl (dbl q)) = q3
  generalize dbl (dbl a) = a2
  generalize dbl (dbl p) = p2
  generalize dbl a = a1
  generalize dbl b = b1
  simp only [Nat.xor_assoc, Nat.xor_comm, xlc, xor_cancel, Nat.xor_self, Nat.xor_zero]
theorem mix_lB {f : Nat → Nat} (h : Bt f) : Q16 (mixD f (ls lB)) (mixB f) := fun n hn => by
  obtain ⟨c, i, hi, rfl⟩ : ∃ c i, i < 4 ∧ n = 4 * c + i := ⟨n / 4, n % 4, by omega, by omega⟩
  rw [mixD_at f _ c hi]
  have hq : ∀ j, j < 4 → mix (mix f) (4 * c + j) = f (4 * c + j) ^^^ dbl (dbl (f (4 * c + j) ^^^ f (4 * c + (j + 2) % 4))) := fun j hj => mix_two h hj
  have e0 := hq 0 (by omega)
  have e1 := hq 1 (by omega)
  have e2 := hq 2 (by omega)
  have e3 := hq 3 (by omega)
  simp only [Nat.reduceAdd, Nat.reduceMod, Nat.add_zero] at e0 e1 e2 e3
  have h0 := h (4 * c)
  have h1 := h (4 * c + 1)
  have h2 := h (4 * c + 2)
  have h3 := h (4 * c + 3)
  have sum : mix (mix f) (4 * c) ^^^ mix (mix f) (4 * c + 1) ^^^ mix (mix f) (4 * c + 2) ^^^ mix (mix f) (4 * c + 3) = f (4 * c) ^^^ f (4 * c + 1) ^^^ f (4 * c + 2) ^^^ f (4 * c + 3) := by
    rw [e0, e1, e2, e3, Nat.xor_comm (f (4 * c + 2)) (f (4 * c)), Nat.xor_comm (f (4 * c + 3)) (f (4 * c + 1))]
    generalize dbl (dbl (f (4 * c) ^^^ f (4 * c + 2))) = x
    generalize dbl (dbl (f (4 * c + 1) ^^^ f (4 * c + 3))) = y
    simp only [Nat.xor_assoc, Nat.xor_comm, xlc, xor_cancel, Nat.xor_self, Nat.xor_zero]
  have top : ∀ j, j < 4 → mixB f (4 * c + j) = mix (mix f) (4 * c + j) ^^^ (f (4 * c) ^^^ f (4 * c + 1) ^^^ f (4 * c + 2) ^^^ f (4 * c + 3)) ^^^ dbl (mix (mix f) (4 * c + j) ^^^ mix (mix f) (4 * c + (j + 1) % 4)) := fun j hj => by
    rw [← sum]
    show mix (mix (mix f)) (4 * c + j) = _
    generalize mix (mix f) = g
    unfold mix
    rw [show (4 * c + j) / 4 * 4 = 4 * c by omega, show (4 * c + j) % 4 = j by omega]
  rw [top i hi]
  match i, hi with
  | 0, _ =>
    show 0 ^^^ rm (f (4 * c + 0)) 14 ^^^ rm (f (4 * c + 1)) 11 ^^^ rm (f (4 * c + 2)) 13 ^^^ rm (f (4 * c + 3)) 9 = mix (mix f) (4 * c + 0) ^^^ _ ^^^ dbl (mix (mix f) (4 * c + 0) ^^^ mix (mix f) (4 * c + 1))
    rw [Nat.add_zero, e0, e1, rm_14 _ h0, rm_11 _ h1, rm_13 _ h2, rm_9 _ h3, mixB_at h0 h1 h2 h3, Nat.zero_xor]
  | 1, _ =>
    show 0 ^^^ rm (f (4 * c + 0)) 9 ^^^ rm (f (4 * c + 1)) 14 ^^^ rm (f (4 * c + 2)) 11 ^^^ rm (f (4 * c + 3)) 13 = mix (mix f) (4 * c + 1) ^^^ _ ^^^ dbl (mix (mix f) (4 * c + 1) ^^^ mix (mix f) (4 * c + 2))
    have := mixB_at h1 h2 h3 h0
    rw [show f (4 * c + 1) ^^^ f (4 * c + 2) ^^^ f (4 * c + 3) ^^^ f (4 * c) = f (4 * c) ^^^ f (4 * c + 1) ^^^ f (4 * c + 2) ^^^ f (4 * c + 3) by ac_rfl] at this
    rw [Nat.add_zero, e1, e2, this, rm_9 _ h0, rm_14 _ h1, rm_11 _ h2, rm_13 _ h3, Nat.zero_xor]
    ac_rfl
  | 2, _ =>
    show 0 ^^^ rm (f (4 * c + 0)) 13 ^^^ rm (f (4 * c + 1)) 9 ^^^ rm (f (4 * c + 2)) 14 ^^^ rm (f (4 * c + 3)) 11 = mix (mix f) (4 * c + 2) ^^^ _ ^^^ dbl (mix (mix f) (4 * c + 2) ^^^ mix (mix f) (4 * c + 3))
    have := mixB_at h2 h3 h0 h1
    rw [show f (4 * c + 2) ^^^ f (4 * c + 3) ^^^ f (4 * c) ^^^ f (4 * c + 1) = f (4 * c) ^^^ f (4 * c + 1) ^^^ f (4 * c + 2) ^^^ f (4 * c + 3) by ac_rfl] at this
    rw [Nat.add_zero, e2, e3, this, rm_13 _ h0, rm_9 _ h1, rm_14 _ h2, rm_11 _ h3, Nat.zero_xor]
    ac_rfl
  | 3, _ =>
    show 0 ^^^ rm (f (4 * c + 0)) 11 ^^^ rm (f (4 * c + 1)) 13 ^^^ rm (f (4 * c + 2)) 9 ^^^ rm (f (4 * c + 3)) 14 = mix (mix f) (4 * c + 3) ^^^ _ ^^^ dbl (mix (mix f) (4 * c + 3) ^^^ mix (mix f) (4 * c + 0))
    have := mixB_at h3 h0 h1 h2
    rw [show f (4 * c + 3) ^^^ f (4 * c) ^^^ f (4 * c + 1) ^^^ f (4 * c + 2) = f (4 * c) ^^^ f (4 * c + 1) ^^^ f (4 * c + 2) ^^^ f (4 * c + 3) by ac_rfl] at this
    rw [Nat.add_zero, e3, e0, this, rm_11 _ h0, rm_13 _ h1, rm_9 _ h2, rm_14 _ h3, Nat.zero_xor]
    ac_rfl
end AesM
end Go.Proofs.Ytkcfonlondlmeaa
namespace Go.Proofs.Ytkcfonlondlmeaa
open Go.ChangeShapes Go.WideShapes Go.ChangeAt Go.RowKit
open AesM (Bt tab ls)
attribute [local go_sem] Gives
namespace AesP
theorem tSS : ArT 81 16 := ⟨by kernel_rfl, ⟨_, Try.underlying81, rfl⟩, (zero_of_info (P := Try.prog) (t := 81) (v := .agg (ar 16 fun _ => 0)) (n := 16) (by kernel_rfl)).1⟩
set_option maxHeartbeats 400000 in
set_option maxRecDepth 100000 in
theorem rstate_any (f : Nat → Nat) (w : World) :
    Calls Try.prog 34 #[.agg (ar 16 f)] w fun e w' => e = .returned (.agg (ar 16 f)) ∧ Below w.heap.size w w' := by
  go_enter Try.func34, Try.ntmps34
  go_upto_region 2 with (with_reducible apply alA tSS)
  generalize hw3 : World.alloc (World.alloc (World.alloc w _) _) _ = w3
  have b1 := hid (show Blk w3 w.heap.size 35 (ar 16 f) by rw [← hw3]; exact ((Blk.new _ _ _).alloc _).alloc _)
  have b2 := hid (show Blk w3 (w.heap.size + 1) 81 (ar 16 fun _ => 0) by rw [← hw3]; exact (Blk.top rfl (by simp)).alloc _)
  have b3 := hid (show Blk w3 (w.heap.size + 2) 81 (ar 16 fun _ => 0) by rw [← hw3]; exact Blk.top rfl (by simp))
  have hb := hid (show Below w.heap.size w w3 by rw [← hw3]; exact (((Below.refl _ _).alloc (Nat.le_refl _) _).alloc (by simp) _).alloc (by simp; omega) _)
  clear hw3
  go_wp2_with fail
  go_loopw [4] (fun i wr => ∃ n : Nat, n ≤ 16 ∧ i = .int .i64 n ∧ Hid (Blk wr w.heap.size 35 (ar 16 f)) ∧ Hid (Blk wr (w.heap.size + 1) 81 (ar 16 fun _ => 0)) ∧ Hid (Blk wr (w.heap.size + 2) 81 (ar 16 (upTo n (fun _ => 0) f))) ∧ Hid (Below w.heap.size w wr)) (fun i => fun _ => 16 - (intOf i).toNat)
  case atStart => exact ⟨0, by omega, rfl, b1, b2, by rw [upTo_zero]; exact b3, hb⟩
  case round =>
    clear b1 b2 b3 hb
    obtain ⟨n, hn, rfl, b1, b2, b3, hb⟩ := hrel
    by_cases hlt : n < 16
    · have tn : (n : Int) < 16 := by omega
      obtain ⟨x, hx⟩ : ∃ x, x = n / 4 := ⟨_, rfl⟩
      obtain ⟨y, hy⟩ : ∃ y, y = n % 4 := ⟨_, rfl⟩
      have tx : (x : Int) < 4 := by omega
      have ty : (y : Int) < 4 := by omega
      have e1 := hid (show (n : Int).tdiv 4 = (x : Int) by rw [hx]; rfl)
      have e2 := hid (show IntKind.i64.wrap (x : Int) = (x : Int) from wr_nat rfl (by omega))
      have e3 := hid (show (n : Int).tmod 4 = (y : Int) by rw [hy]; rfl)
      have hxy := hid (show x * 4 + y = n by omega)
      have C1 := hid ((b1.out.cell n).trans (get_ar hlt))
      clear hx hy
      go_wp2_with fail
      refine wp_region_tail (C := Drew wr) 9 (by kernel_rfl) (by kernel_rfl) (by kernel_rfl) (Drew.refl _) ?_
      simp only [List.take_succ_cons, List.take_zero, List.drop_succ_cons, List.drop_zero]
      apply wpK_val
      · rfl
      · intro w' hw'
        go_simp
        first | exact rfl | exact ⟨rfl, hw'⟩
      simp only [Act.put, List.setIfInBounds_toArray, List.set_cons_succ, List.set_cons_zero]
      apply wpK_val
      · rfl
      · intro w' hw'
        have h1 : _ := e1.out
        have h2 : _ := e2.out
        go_simp
        first | exact rfl | exact ⟨rfl, hw'⟩
      simp only [Act.put, List.setIfInBounds_toArray, List.set_cons_succ, List.set_cons_zero]
      apply wpK_val
      · rfl
      · intro w' hw'
        go_simp
        first | exact rfl | exact ⟨rfl, hw'⟩
      simp only [Act.put, List.setIfInBounds_toArray, List.set_cons_succ, List.set_cons_zero]
      apply wpK_val
      · rfl
      · intro w' hw'
        have h1 : _ := e3.out
        go_simp
        first | exact rfl | exact ⟨rfl, hw'⟩
      simp only [Act.put, List.setIfInBounds_toArray, List.set_cons_succ, List.set_cons_zero]
      apply wpK_val
      · rfl
      · intro w' hw'
        go_simp
        first | exact rfl | exact ⟨rfl, hw'⟩
      simp only [Act.put, List.setIfInBounds_toArray, List.set_cons_succ, List.set_cons_zero]
      apply wpK_val
      · rfl
      · intro w' hw'
        go_simp
        first | exact rfl | exact ⟨rfl, hw'⟩
      simp only [Act.put, List.setIfInBounds_toArray, List.set_cons_succ, List.set_cons_zero]
      apply wpK_val
      · rfl
      · intro w' hw'
        have hcell := hw'.cell C1.out
        go_simp
        first | exact rfl | exact ⟨rfl, hw'⟩
      simp only [Act.put, List.setIfInBounds_toArray, List.set_cons_succ, List.set_cons_zero]
      apply wpK_val
      · rfl
      · intro w' hw'
        go_simp
        first | exact rfl | exact ⟨rfl, hw'⟩
      simp only [Act.put, List.setIfInBounds_toArray, List.set_cons_succ, List.set_cons_zero]
      apply wpK_val
      · rfl
      · intro w' hw'
        go_simp
        first | exact rfl | exact ⟨rfl, hw'⟩
      simp only [Act.put, List.setIfInBounds_toArray, List.set_cons_succ, List.set_cons_zero]
      refine wpK_nil fun w5 hw5 => ?_
      have r1 := hid (hw5.blk b1.out)
      have r2 := hid (hw5.blk b2.out)
      have r3 := hid (hw5.blk b3.out)
      have rb := hid (hw5.below hb.out)
      have hs := hid (upTo_step (h := f) (hid (r3.out.setCell_same n (.int .u8 (f n : Nat)))).out)
      have c3 := (r3.out.cell n).trans (get_ar hlt)
      have f3 := r3.out.frozen n
      rw [← hxy.out] at c3 f3
      clear b1 b2 b3 hb hw5 C1 e1 e2 e3
      go_wp2_with fail
      go_roundw
      case rel =>
        rw [hxy.out]
        exact ⟨n + 1, by omega, by go_num, hid (r1.out.setCell_other (by first | (simp; done) | (simp; omega)) _), hid (r2.out.setCell_other (by first | (simp; done) | (simp; omega)) _), hs, hid (rb.out.setCell (by first | (simp; done) | (simp; omega)) _)⟩
      case measure => simp [intOf]; omega
    · have tn : decide ((n : Int) < 16) = false := by simp; omega
      have q3 := b3.out
      rw [upTo_all (by omega)] at q3
      have q2 := b2.out
      go_wp2_with (first | ((with_reducible apply ldA tSS); rfl; exact q3) | ((with_reducible apply stA tSS); rfl; rfl; exact q2))
      apply ret_ar tSS Try.results34
      · rfl
      · rfl
      · exact q2.setRow_same _
      exact ⟨rfl, below_setRow hb.out (by omega) _⟩
set_option maxHeartbeats 400000 in
set_option maxRecDepth 100000 in
theorem rblock_any (f : Nat → Nat) (w : World) :
    Calls Try.prog 36 #[.agg (ar 16 f)] w fun e w' => e = .returned (.agg (ar 16 f)) ∧ Below w.heap.size w w' := by
  go_enter Try.func36, Try.ntmps36
  go_upto_region 2 with (with_reducible apply alA tBk)
  generalize hw3 : World.alloc (World.alloc (World.alloc w _) _) _ = w3
  have b1 := hid (show Blk w3 w.heap.size 81 (ar 16 f) by rw [← hw3]; exact ((Blk.new _ _ _).alloc _).alloc _)
  have b2 := hid (show Blk w3 (w.heap.size + 1) 35 (ar 16 fun _ => 0) by rw [← hw3]; exact (Blk.top rfl (by simp)).alloc _)
  have b3 := hid (show Blk w3 (w.heap.size + 2) 35 (ar 16 fun _ => 0) by rw [← hw3]; exact Blk.top rfl (by simp))
  have hb := hid (show Below w.heap.size w w3 by rw [← hw3]; exact (((Below.refl _ _).alloc (Nat.le_refl _) _).alloc (by simp) _).alloc (by simp; omega) _)
  clear hw3
  go_wp2_with fail
  go_loopw [4] (fun i wr => ∃ n : Nat, n ≤ 16 ∧ i = .int .i64 n ∧ Hid (Blk wr w.heap.size 81 (ar 16 f)) ∧ Hid (Blk wr (w.heap.size + 1) 35 (ar 16 fun _ => 0)) ∧ Hid (Blk wr (w.heap.size + 2) 35 (ar 16 (upTo n (fun _ => 0) f))) ∧ Hid (Below w.heap.size w wr)) (fun i => fun _ => 16 - (intOf i).toNat)
  case atStart => exact ⟨0, by omega, rfl, b1, b2, by rw [upTo_zero]; exact b3, hb⟩
  case round =>
    clear b1 b2 b3 hb
    obtain ⟨n, hn, rfl, b1, b2, b3, hb⟩ := hrel
    by_cases hlt : n < 16
    · have tn : (n : Int) < 16 := by omega
      obtain ⟨x, hx⟩ : ∃ x, x = n / 4 := ⟨_, rfl⟩
      obtain ⟨y, hy⟩ : ∃ y, y = n % 4 := ⟨_, rfl⟩
      have tx : (x : Int) < 4 := by omega
      have ty : (y : Int) < 4 := by omega
      have e1 : (n : Int) / 4 = (x : Int) := by omega
      have e3 : (n : Int) % 4 = (y : Int) := by omega
      have hxy := hid (show x * 4 + y = n by omega)
      have C1 := hid (show wr.cell? ⟨w.heap.size, x * 4 + y, none⟩ = some (.int .u8 (f n : Nat)) by rw [hxy.out]; exact (b1.out.cell n).trans (get_ar hlt))
      clear hx hy
      have c1 := C1.out
      have c3 := (b3.out.cell n).trans (get_ar hlt)
      have f3 := b3.out.frozen n
      go_wp2_with fail
      go_roundw
      case rel => exact ⟨n + 1, by omega, by go_num, hid (b1.out.setCell_other (by first | (simp; done) | (simp; omega)) _), hid (b2.out.setCell_other (by first | (simp; done) | (simp; omega)) _), hid (upTo_step (b3.out.setCell_same n _)), hid (hb.out.setCell (by first | (simp; done) | (simp; omega)) _)⟩
      case measure => simp [intOf]; omega
    · have tn : decide ((n : Int) < 16) = false := by simp; omega
      have q3 := b3.out
      rw [upTo_all (by omega)] at q3
      have q2 := b2.out
      go_wp2_with (first | ((with_reducible apply ldA tBk); rfl; exact q3) | ((with_reducible apply stA tBk); rfl; rfl; exact q2))
      apply ret_ar tBk Try.results36
      · rfl
      · rfl
      · exact q2.setRow_same _
      exact ⟨rfl, below_setRow hb.out (by omega) _⟩
set_option maxHeartbeats 400000 in
set_option maxRecDepth 100000 in
theorem radded_any (f k : Nat → Nat) (hf : Bt f) (hk : Bt k) (r : Nat) (hr : r < 15) (v : Value) (B : Nat) (w : World) (hs : WS w B v (AesM.wd AesM.boxF k) 60) :
    Calls Try.prog 33 #[.agg (ar 16 f), v, .int .i64 r] w fun e w' => e = .returned (.agg (ar 16 (AesM.add f (AesM.rk (AesM.ks k) r)))) ∧ Below w.heap.size w w' := by
  have HF := hid hf
  have HK := hid hk
  obtain ⟨gv, cv, rfl, hgv, hcells⟩ := hs.form (by omega)
  have HC := hid hcells
  obtain ⟨M, hM⟩ : ∃ M : Nat → Nat, M = AesM.add f (AesM.rk (AesM.ks k) r) := ⟨_, rfl⟩
  rw [← hM]
  have HM := hid (show ∀ c i, c < 4 → i < 4 → M (4 * c + i) = f (4 * c + i) ^^^ AesM.wd AesM.boxF k (4 * r + c) i from fun c i hc hi => by
    rw [hM]
    unfold AesM.add AesM.rk AesM.ks AesM.W
    rw [if_pos (by omega), show (16 * r + (4 * c + i)) / 4 = 4 * r + c by omega, show (16 * r + (4 * c + i)) % 4 = i by omega])
  clear hs hcells hf hk hM
  go_enter Try.func33, Try.ntmps33
  go_upto_region 1 with (with_reducible apply alA tSS)
  generalize hw3 : World.alloc (World.alloc w _) _ = w3
  have b1 := hid (show Blk w3 w.heap.size 81 (ar 16 f) by rw [← hw3]; exact (Blk.new _ _ _).alloc _)
  have b2 := hid (show Blk w3 (w.heap.size + 1) 81 (ar 16 fun _ => 0) by rw [← hw3]; exact Blk.top rfl (by simp))
  have hb := hid (show Below w.heap.size w w3 by rw [← hw3]; exact ((Below.refl _ _).alloc (Nat.le_refl _) _).alloc (by simp) _)
  clear hw3
  go_wp2_with fail
  go_loopw [7] (fun u wr => ∃ c : Nat, c ≤ 4 ∧ u = .int .i64 c ∧ Hid (Blk wr w.heap.size 81 (ar 16 (upTo (4 * c) f M))) ∧ Hid (Blk wr (w.heap.size + 1) 81 (ar 16 fun _ => 0)) ∧ Hid (Below w.heap.size w wr)) (fun u => fun _ => 4 - (intOf u).toNat)
  case atStart => exact ⟨0, by omega, rfl, by rw [upTo_zero]; exact b1, b2, hb⟩
  case round =>
    clear b1 b2 hb
    obtain ⟨c, hc, rfl, b1, b2, hb⟩ := hrel
    by_cases hlc : c < 4
    · have tc : (c : Int) < 4 := by omega
      go_wp2_with fail
      go_loopw [8] (fun u wk => ∃ i : Nat, i ≤ 4 ∧ u = .int .i64 i ∧ Hid (Blk wk w.heap.size 81 (ar 16 (upTo (4 * c + i) f M))) ∧ Hid (Blk wk (w.heap.size + 1) 81 (ar 16 fun _ => 0)) ∧ Hid (Below w.heap.size w wk)) (fun u => fun _ => 4 - (intOf u).toNat)
      case atStart => exact ⟨0, by omega, rfl, b1, b2, hb⟩
      case round =>
        clear b1 b2 hb
        obtain ⟨i, hi, rfl, b1, b2, hb⟩ := hrel
        by_cases hli : i < 4
        · have ti : (i : Int) < 4 := by omega
          obtain ⟨n, hn⟩ : ∃ n, n = 4 * c + i := ⟨_, rfl⟩
          obtain ⟨r4, hr4⟩ : ∃ r4, r4 = 4 * r := ⟨_, rfl⟩
          obtain ⟨j, hj⟩ : ∃ j, j = r4 + c := ⟨_, rfl⟩
          have hn16 : n < 16 := by omega
          have hj60 : j < 60 := by omega
          have tj : (j : Int) < 60 := by omega
          have e1 := hid (show IntKind.i64.wrap (4 * (r : Int)) = (r4 : Int) from wr_nat (by omega) (by omega))
          have e2 := hid (show IntKind.i64.wrap ((r4 : Int) + (c : Int)) = (j : Int) from wr_nat (by omega) (by omega))
          have hxy := hid (show c * 4 + i = n by omega)
          obtain ⟨G, g1, g2⟩ := HC.out j hj60
          have C1 := hid (show wr.cell? ⟨w.heap.size, c * 4 + i, none⟩ = some (.int .u8 (f n : Nat)) by rw [hxy.out]; have h := (b1.out.cell n).trans (get_ar hn16); rw [hn, upTo_at, ← hn] at h; rw [hn] at h ⊢; exact h)
          have G1 := hid ((hb.out.cell (p := ⟨gv, j, none⟩) hgv).trans g1)
          have G2 := hid (((g2.below hb.out g2.lt).cell i).trans (get_ar hli))
          have X := hid (show bits .xor .u8 ((f n : Nat) : Int) ((AesM.wd AesM.boxF k j i : Nat) : Int) = ((M n : Nat) : Int) by
            rw [hn, HM.out c i hlc hli, ← hr4, ← hj]
            exact u8_xor_nat _ _ (HF.out _) (AesM.wd_bt AesM.boxF_lt HK.out hj60 i))
          have HN := hid hn
          clear hn hr4 hj g1 g2
          go_wp2_with fail
          refine wp_region_tail (C := Drew wr) 20 (by kernel_rfl) (by kernel_rfl) (by kernel_rfl) (Drew.refl _) ?_
          simp only [List.take_succ_cons, List.take_zero, List.drop_succ_cons, List.drop_zero]
          apply wpK_val
          · rfl
          · intro w' hw'
            go_simp
            first | exact rfl | exact ⟨rfl, hw'⟩
          simp only [Act.put, List.setIfInBounds_toArray, List.set_cons_succ, List.set_cons_zero]
          apply wpK_val
          · rfl
          · intro w' hw'
            go_simp
            first | exact rfl | exact ⟨rfl, hw'⟩
          simp only [Act.put, List.setIfInBounds_toArray, List.set_cons_succ, List.set_cons_zero]
          apply wpK_val
          · rfl
          · intro w' hw'
            go_simp
            first | exact rfl | exact ⟨rfl, hw'⟩
          simp only [Act.put, List.setIfInBounds_toArray, List.set_cons_succ, List.set_cons_zero]
          apply wpK_val
          · rfl
          · intro w' hw'
            go_simp
            first | exact rfl | exact ⟨rfl, hw'⟩
          simp only [Act.put, List.setIfInBounds_toArray, List.set_cons_succ, List.set_cons_zero]
          apply wpK_val
          · rfl
          · intro w' hw'
            go_simp
            first | exact rfl | exact ⟨rfl, hw'⟩
          simp only [Act.put, List.setIfInBounds_toArray, List.set_cons_succ, List.set_cons_zero]
          apply wpK_val
          · rfl
          · intro w' hw'
            go_simp
            first | exact rfl | exact ⟨rfl, hw'⟩
          simp only [Act.put, List.setIfInBounds_toArray, List.set_cons_succ, List.set_cons_zero]
          apply wpK_val
          · rfl
          · intro w' hw'
            have hcell := hw'.cell C1.out
            go_simp
            first | exact rfl | exact ⟨rfl, hw'⟩
          simp only [Act.put, List.setIfInBounds_toArray, List.set_cons_succ, List.set_cons_zero]
          apply wpK_val
          · rfl
          · intro w' hw'
            go_simp
            first | exact rfl | exact ⟨rfl, hw'⟩
          simp only [Act.put, List.setIfInBounds_toArray, List.set_cons_succ, List.set_cons_zero]
          apply wpK_val
          · rfl
          · intro w' hw'
            go_simp
            first | exact rfl | exact ⟨rfl, hw'⟩
          simp only [Act.put, List.setIfInBounds_toArray, List.set_cons_succ, List.set_cons_zero]
          apply wpK_val
          · rfl
          · intro w' hw'
            have h1 : _ := e1.out
            go_simp
            first | exact rfl | exact ⟨rfl, hw'⟩
          simp only [Act.put, List.setIfInBounds_toArray, List.set_cons_succ, List.set_cons_zero]
          apply wpK_val
          · rfl
          · intro w' hw'
            go_simp
            first | exact rfl | exact ⟨rfl, hw'⟩
          simp only [Act.put, List.setIfInBounds_toArray, List.set_cons_succ, List.set_cons_zero]
          apply wpK_val
          · rfl
          · intro w' hw'
            have h1 : _ := e2.out
            go_simp
            first | exact rfl | exact ⟨rfl, hw'⟩
          simp only [Act.put, List.setIfInBounds_toArray, List.set_cons_succ, List.set_cons_zero]
          apply wpK_val
          · rfl
          · intro w' hw'
            go_simp
            first | exact rfl | exact ⟨rfl, hw'⟩
          simp only [Act.put, List.setIfInBounds_toArray, List.set_cons_succ, List.set_cons_zero]
          apply wpK_val
          · rfl
          · intro w' hw'
            have hcell := hw'.cell G1.out
            go_simp
            first | exact rfl | exact ⟨rfl, hw'⟩
          simp only [Act.put, List.setIfInBounds_toArray, List.set_cons_succ, List.set_cons_zero]
          apply wpK_val
          · rfl
          · intro w' hw'
            go_simp
            first | exact rfl | exact ⟨rfl, hw'⟩
          simp only [Act.put, List.setIfInBounds_toArray, List.set_cons_succ, List.set_cons_zero]
          apply wpK_val
          · rfl
          · intro w' hw'
            go_simp
            first | exact rfl | exact ⟨rfl, hw'⟩
          simp only [Act.put, List.setIfInBounds_toArray, List.set_cons_succ, List.set_cons_zero]
          apply wpK_val
          · rfl
          · intro w' hw'
            have hcell := hw'.cell G2.out
            go_simp
            first | exact rfl | exact ⟨rfl, hw'⟩
          simp only [Act.put, List.setIfInBounds_toArray, List.set_cons_succ, List.set_cons_zero]
          apply wpK_val
          · rfl
          · intro w' hw'
            have h1 : _ := X.out
            go_simp
            first | exact rfl | exact ⟨rfl, hw'⟩
          simp only [Act.put, List.setIfInBounds_toArray, List.set_cons_succ, List.set_cons_zero]
          apply wpK_val
          · rfl
          · intro w' hw'
            go_simp
            first | exact rfl | exact ⟨rfl, hw'⟩
          simp only [Act.put, List.setIfInBounds_toArray, List.set_cons_succ, List.set_cons_zero]
          apply wpK_val
          · rfl
          · intro w' hw'
            go_simp
            first | exact rfl | exact ⟨rfl, hw'⟩
          simp only [Act.put, List.setIfInBounds_toArray, List.set_cons_succ, List.set_cons_zero]
          refine wpK_nil fun w5 hw5 => ?_
          have r1 := hid (hw5.blk b1.out)
          have r2 := hid (hw5.blk b2.out)
          have rb := hid (hw5.below hb.out)
          have c3 := (r1.out.cell n).trans (get_ar hn16)
          have f3 := r1.out.frozen n
          rw [← hxy.out] at c3 f3
          clear b1 b2 hb hw5 C1 G1 G2 X e1 e2
          go_wp2_with fail
          go_roundw
          case rel =>
            rw [hxy.out]
            have h := r1.out
            rw [← HN.out] at h
            exact ⟨i + 1, by omega, by go_num, hid (by rw [show 4 * c + (i + 1) = n + 1 by have := HN.out; omega]; exact upTo_step (h.setCell_same n _)), hid (r2.out.setCell_other (by first | (simp; done) | (simp; omega)) _), hid (rb.out.setCell (by first | (simp; done) | (simp; omega)) _)⟩
          case measure => simp [intOf]; omega
        · have ti : decide ((i : Int) < 4) = false := by simp; omega
          obtain rfl : i = 4 := by omega
          go_wp2_with fail
          go_roundw
          case rel => exact ⟨c + 1, by omega, by go_num, hid (by rw [show 4 * (c + 1) = 4 * c + 4 by omega]; exact b1.out), b2, hb⟩
          case measure => simp [intOf]; omega
    · have tc : decide ((c : Int) < 4) = false := by simp; omega
      have q1 := b1.out
      rw [upTo_all (by omega)] at q1
      have q2 := b2.out
      go_wp2_with (first | ((with_reducible apply ldA tSS); rfl; exact q1) | ((with_reducible apply stA tSS); rfl; rfl; exact q2))
      apply ret_ar tSS Try.results33
      · rfl
      · rfl
      · exact q2.setRow_same _
      exact ⟨rfl, below_setRow hb.out (by omega) _⟩
end AesP
end Go.Proofs.Ytkcfonlondlmeaa
namespace Go.Proofs.Ytkcfonlondlmeaa
open Go.ChangeShapes Go.WideShapes Go.ChangeAt Go.RowKit
open AesM (Bt tab ls)
attribute [local go_sem] Gives
namespace AesP
/-- Place n partly summed. -/
def part (n : Nat) (v : Nat) (M : Nat → Nat) : Nat → Nat := fun j => if j = n then v else upTo n (fun _ => 0) M j
theorem part_zero {n : Nat} {M : Nat → Nat} : part n 0 M = upTo n (fun _ => 0) M := funext fun j => by
  unfold part upTo
  by_cases h : j = n
  · subst h; simp
  · rw [if_neg h]
theorem part_full {n : Nat} {M : Nat → Nat} : part n (M n) M = upTo (n + 1) (fun _ => 0) M := funext fun j => by
  unfold part upTo
  by_cases h : j = n
  · subst h; simp
  · rw [if_neg h]
    by_cases h2 : j < n
    · rw [if_pos h2, if_pos (by omega)]
    · rw [if_neg h2, if_neg (by omega)]
theorem part_set {w : World} {b n v v' : Nat} {t : TypeId} {M : Nat → Nat} (hb : Blk w b t ((ar 16 (part n v M)).setIfInBounds n (.int .u8 (v' : Nat)))) : Blk w b t (ar 16 (part n v' M)) := by
  rw [ar_set] at hb
  rw [ar_ext (g := fun j => if j = n then v' else part n v M j) fun j _ => ?_]
  · exact hb
  · unfold part
    by_cases h : j = n
    · rw [if_pos h, if_pos h]
    · rw [if_neg h, if_neg h, if_neg h]
set_option maxHeartbeats 800000 in
set_option maxRecDepth 100000 in
theorem rmixed_any (f l : Nat → Nat) (hf : Bt f) (hl : Bt l) (gl : Nat) (w : World) (hL : Blk w gl 5 (ar 4 l)) :
    Calls Try.prog 35 #[.agg (ar 16 f), .slice (some ⟨gl, 0, none⟩) 4 4] w fun e w' => e = .returned (.agg (ar 16 (AesM.mixD f l))) ∧ Below w.heap.size w w' := by
  have HF := hid hf
  have HLB := hid hl
  have HL := hid hL
  obtain ⟨M, hM⟩ : ∃ M : Nat → Nat, M = AesM.mixD f l := ⟨_, rfl⟩
  rw [← hM]
  have HM := hid (show ∀ c i, i < 4 → M (4 * c + i) = AesM.mxGo f l c i 4 from fun c i hi => by rw [hM]; exact AesM.mixD_at f l c hi)
  clear hf hl hL hM
  go_enter Try.func35, Try.ntmps35
  go_upto_region 2 with (with_reducible apply alA tSS)
  generalize hw3 : World.alloc (World.alloc (World.alloc w _) _) _ = w3
  have b1 := hid (show Blk w3 w.heap.size 81 (ar 16 f) by rw [← hw3]; exact ((Blk.new _ _ _).alloc _).alloc _)
  have b2 := hid (show Blk w3 (w.heap.size + 1) 81 (ar 16 fun _ => 0) by rw [← hw3]; exact (Blk.top rfl (by simp)).alloc _)
  have b3 := hid (show Blk w3 (w.heap.size + 2) 81 (ar 16 fun _ => 0) by rw [← hw3]; exact Blk.top rfl (by simp))
  have hb := hid (show Below w.heap.size w w3 by rw [← hw3]; exact (((Below.refl _ _).alloc (Nat.le_refl _) _).alloc (by simp) _).alloc (by simp; omega) _)
  clear hw3
  go_wp2_with fail
  go_loopw [6] (fun u wr => ∃ c : Nat, c ≤ 4 ∧ u = .int .i64 c ∧ Hid (Blk wr w.heap.size 81 (ar 16 f)) ∧ Hid (Blk wr (w.heap.size + 1) 81 (ar 16 fun _ => 0)) ∧ Hid (Blk wr (w.heap.size + 2) 81 (ar 16 (upTo (4 * c) (fun _ => 0) M))) ∧ Hid (Below w.heap.size w wr)) (fun u => fun _ => 4 - (intOf u).toNat)
  case atStart => exact ⟨0, by omega, rfl, b1, b2, by rw [upTo_zero]; exact b3, hb⟩
  case round =>
    clear b1 b2 b3 hb
    obtain ⟨c, hc, rfl, b1, b2, b3, hb⟩ := hrel
    by_cases hlc : c < 4
    · have tc : (c : Int) < 4 := by omega
      go_wp2_with fail
      go_loopw [7] (fun u wr => ∃ i : Nat, i ≤ 4 ∧ u = .int .i64 i ∧ Hid (Blk wr w.heap.size 81 (ar 16 f)) ∧ Hid (Blk wr (w.heap.size + 1) 81 (ar 16 fun _ => 0)) ∧ Hid (Blk wr (w.heap.size + 2) 81 (ar 16 (upTo (4 * c + i) (fun _ => 0) M))) ∧ Hid (Below w.heap.size w wr)) (fun u => fun _ => 4 - (intOf u).toNat)
      case atStart => exact ⟨0, by omega, rfl, b1, b2, b3, hb⟩
      case round =>
        clear b1 b2 b3 hb
        obtain ⟨i, hi, rfl, b1, b2, b3, hb⟩ := hrel
        by_cases hli : i < 4
        · have ti : (i : Int) < 4 := by omega
          obtain ⟨n, hn⟩ : ∃ n, n = 4 * c + i := ⟨_, rfl⟩
          rw [← hn] at b3
          have hn16 : n < 16 := by omega
          have hxy := hid (show c * 4 + i = n by omega)
          have HMN := hid (show M n = AesM.mxGo f l c i 4 by rw [hn]; exact HM.out c i hli)
          have HN := hid hn
          clear hn
          go_wp2_with fail
          go_loopw [8] (fun u wr => ∃ k : Nat, k ≤ 4 ∧ u = .int .i64 k ∧ Hid (Blk wr w.heap.size 81 (ar 16 f)) ∧ Hid (Blk wr (w.heap.size + 1) 81 (ar 16 fun _ => 0)) ∧ Hid (Blk wr (w.heap.size + 2) 81 (ar 16 (part n (AesM.mxGo f l c i k) M))) ∧ Hid (Below w.heap.size w wr)) (fun u => fun _ => 4 - (intOf u).toNat)
          case atStart => exact ⟨0, by omega, rfl, b1, b2, hid (by rw [AesM.mxGo, part_zero]; exact b3.out), hb⟩
          case round =>
            clear b1 b2 b3 hb
            obtain ⟨k, hk, rfl, b1, b2, b3, hb⟩ := hrel
            by_cases hlk : k < 4
            · have tk : (k : Int) < 4 := by omega
              obtain ⟨z, hz⟩ : ∃ z, z = 4 * c + k := ⟨_, rfl⟩
              obtain ⟨m, hm⟩ : ∃ m, m = k + 4 - i := ⟨_, rfl⟩
              obtain ⟨p, hp⟩ : ∃ p, p = m % 4 := ⟨_, rfl⟩
              have hz16 : z < 16 := by omega
              have hp4 : p < 4 := by omega
              have tp : (p : Int) < 4 := by omega
              have e1 := hid (show IntKind.i64.wrap ((k : Int) - (i : Int)) = (k : Int) - (i : Int) from IntWalk.i64_in _ (by omega))
              have e2 := hid (show IntKind.i64.wrap ((k : Int) - (i : Int) + 4) = (m : Int) from wr_nat (by omega) (by omega))
              have e3 := hid (show (m : Int).tmod 4 = (p : Int) by rw [hp]; rfl)
              have hcz := hid (show c * 4 + k = z by omega)
              have C1 := hid (show wr.cell? ⟨w.heap.size, c * 4 + k, none⟩ = some (.int .u8 (f z : Nat)) by rw [hcz.out]; exact (b1.out.cell z).trans (get_ar hz16))
              have C3 := hid (show wr.cell? ⟨w.heap.size + 2, c * 4 + i, none⟩ = some (.int .u8 (AesM.mxGo f l c i k : Nat)) by
                rw [hxy.out]
                have h := (b3.out.cell n).trans (get_ar hn16)
                rw [show part n (AesM.mxGo f l c i k) M n = AesM.mxGo f l c i k from if_pos rfl] at h
                exact h)
              have CL := hid (((HL.out.below hb.out HL.out.lt).cell p).trans (get_ar hp4))
              have MM := hid fun w => rmul_any (f z) (l p) (HF.out z) (HLB.out p) w
              have X := hid (show bits .xor .u8 ((AesM.mxGo f l c i k : Nat) : Int) ((AesM.rm (f z) (l p) : Nat) : Int) = ((AesM.mxGo f l c i (k + 1) : Nat) : Int) by
                rw [AesM.mxGo, ← hz, ← hm, ← hp]
                exact u8_xor_nat _ _ (AesM.mxGo_lt _ _ _ _ _) (AesM.rm_lt _ _))
              clear hz hm hp
              go_wp2_with fail
              refine wp_region_tail (C := Drew wr) 24 (by kernel_rfl) (by kernel_rfl) (by kernel_rfl) (Drew.refl _) ?_
              simp only [List.take_succ_cons, List.take_zero, List.drop_succ_cons, List.drop_zero]
              apply wpK_val
              · rfl
              · intro w' hw'
                go_simp
                first | exact rfl | exact ⟨rfl, hw'⟩
              simp only [Act.put, List.setIfInBounds_toArray, List.set_cons_succ, List.set_cons_zero]
              apply wpK_val
              · rfl
              · intro w' hw'
                go_simp
                first | exact rfl | exact ⟨rfl, hw'⟩
              simp only [Act.put, List.setIfInBounds_toArray, List.set_cons_succ, List.set_cons_zero]
              apply wpK_val
              · rfl
              · intro w' hw'
                go_simp
                first | exact rfl | exact ⟨rfl, hw'⟩
              simp only [Act.put, List.setIfInBounds_toArray, List.set_cons_succ, List.set_cons_zero]
              apply wpK_val
              · rfl
              · intro w' hw'
                go_simp
                first | exact rfl | exact ⟨rfl, hw'⟩
              simp only [Act.put, List.setIfInBounds_toArray, List.set_cons_succ, List.set_cons_zero]
              apply wpK_val
              · rfl
              · intro w' hw'
                go_simp
                first | exact rfl | exact ⟨rfl, hw'⟩
              simp only [Act.put, List.setIfInBounds_toArray, List.set_cons_succ, List.set_cons_zero]
              apply wpK_val
              · rfl
              · intro w' hw'
                go_simp
                first | exact rfl | exact ⟨rfl, hw'⟩
              simp only [Act.put, List.setIfInBounds_toArray, List.set_cons_succ, List.set_cons_zero]
              apply wpK_val
              · rfl
              · intro w' hw'
                have hcell := hw'.cell C3.out
                go_simp
                first | exact rfl | exact ⟨rfl, hw'⟩
              simp only [Act.put, List.setIfInBounds_toArray, List.set_cons_succ, List.set_cons_zero]
              apply wpK_val
              · rfl
              · intro w' hw'
                go_simp
                first | exact rfl | exact ⟨rfl, hw'⟩
              simp only [Act.put, List.setIfInBounds_toArray, List.set_cons_succ, List.set_cons_zero]
              apply wpK_val
              · rfl
              · intro w' hw'
                go_simp
                first | exact rfl | exact ⟨rfl, hw'⟩
              simp only [Act.put, List.setIfInBounds_toArray, List.set_cons_succ, List.set_cons_zero]
              apply wpK_val
              · rfl
              · intro w' hw'
                go_simp
                first | exact rfl | exact ⟨rfl, hw'⟩
              simp only [Act.put, List.setIfInBounds_toArray, List.set_cons_succ, List.set_cons_zero]
              apply wpK_val
              · rfl
              · intro w' hw'
                go_simp
                first | exact rfl | exact ⟨rfl, hw'⟩
              simp only [Act.put, List.setIfInBounds_toArray, List.set_cons_succ, List.set_cons_zero]
              apply wpK_val
              · rfl
              · intro w' hw'
                have hcell := hw'.cell C1.out
                go_simp
                first | exact rfl | exact ⟨rfl, hw'⟩
              simp only [Act.put, List.setIfInBounds_toArray, List.set_cons_succ, List.set_cons_zero]
              apply wpK_val
              · rfl
              · intro w' hw'
                go_simp
                first | exact rfl | exact ⟨rfl, hw'⟩
              simp only [Act.put, List.setIfInBounds_toArray, List.set_cons_succ, List.set_cons_zero]
              apply wpK_val
              · rfl
              · intro w' hw'
                go_simp
                first | exact rfl | exact ⟨rfl, hw'⟩
              simp only [Act.put, List.setIfInBounds_toArray, List.set_cons_succ, List.set_cons_zero]
              apply wpK_val
              · rfl
              · intro w' hw'
                go_simp
                first | exact rfl | exact ⟨rfl, hw'⟩
              simp only [Act.put, List.setIfInBounds_toArray, List.set_cons_succ, List.set_cons_zero]
              apply wpK_val
              · rfl
              · intro w' hw'
                have h1 : _ := e1.out
                go_simp
                first | exact rfl | exact ⟨rfl, hw'⟩
              simp only [Act.put, List.setIfInBounds_toArray, List.set_cons_succ, List.set_cons_zero]
              apply wpK_val
              · rfl
              · intro w' hw'
                have h1 : _ := e2.out
                go_simp
                first | exact rfl | exact ⟨rfl, hw'⟩
              simp only [Act.put, List.setIfInBounds_toArray, List.set_cons_succ, List.set_cons_zero]
              apply wpK_val
              · rfl
              · intro w' hw'
                have h1 : _ := e3.out
                go_simp
                first | exact rfl | exact ⟨rfl, hw'⟩
              simp only [Act.put, List.setIfInBounds_toArray, List.set_cons_succ, List.set_cons_zero]
              apply wpK_val
              · rfl
              · intro w' hw'
                go_simp
                first | exact rfl | exact ⟨rfl, hw'⟩
              simp only [Act.put, List.setIfInBounds_toArray, List.set_cons_succ, List.set_cons_zero]
              apply wpK_val
              · rfl
              · intro w' hw'
                have hcell := hw'.cell CL.out
                go_simp
                first | exact rfl | exact ⟨rfl, hw'⟩
              simp only [Act.put, List.setIfInBounds_toArray, List.set_cons_succ, List.set_cons_zero]
              apply wpK_val
              · rfl
              · intro w' hw'
                go_simp
                exact (MM.out w').mono fun e w2 h => by obtain ⟨he, rfl⟩ := h; exact ⟨he, hw'⟩
              simp only [Act.put, List.setIfInBounds_toArray, List.set_cons_succ, List.set_cons_zero]
              apply wpK_val
              · rfl
              · intro w' hw'
                have h1 : _ := X.out
                go_simp
                first | exact rfl | exact ⟨rfl, hw'⟩
              simp only [Act.put, List.setIfInBounds_toArray, List.set_cons_succ, List.set_cons_zero]
              apply wpK_val
              · rfl
              · intro w' hw'
                go_simp
                first | exact rfl | exact ⟨rfl, hw'⟩
              simp only [Act.put, List.setIfInBounds_toArray, List.set_cons_succ, List.set_cons_zero]
              apply wpK_val
              · rfl
              · intro w' hw'
                go_simp
                first | exact rfl | exact ⟨rfl, hw'⟩
              simp only [Act.put, List.setIfInBounds_toArray, List.set_cons_succ, List.set_cons_zero]
              refine wpK_nil fun w5 hw5 => ?_
              have r1 := hid (hw5.blk b1.out)
              have r2 := hid (hw5.blk b2.out)
              have r3 := hid (hw5.blk b3.out)
              have rb := hid (hw5.below hb.out)
              have c3 := (r3.out.cell n).trans (get_ar hn16)
              have f3 := r3.out.frozen n
              rw [← hxy.out] at c3 f3
              clear b1 b2 b3 hb hw5 C1 C3 CL MM X e1 e2 e3
              go_wp2_with fail
              go_roundw
              case rel =>
                rw [hxy.out]
                exact ⟨k + 1, by omega, by go_num, hid (r1.out.setCell_other (by first | (simp; done) | (simp; omega)) _), hid (r2.out.setCell_other (by first | (simp; done) | (simp; omega)) _), hid (part_set (r3.out.setCell_same n _)), hid (rb.out.setCell (by first | (simp; done) | (simp; omega)) _)⟩
              case measure => simp [intOf]; omega
            · have tk : decide ((k : Int) < 4) = false := by simp; omega
              obtain rfl : k = 4 := by omega
              have q3 := b3.out
              rw [← HMN.out, part_full] at q3
              go_wp2_with fail
              go_roundw
              case rel => exact ⟨i + 1, by omega, by go_num, b1, b2, hid (by rw [show 4 * c + (i + 1) = n + 1 by have := HN.out; omega]; exact q3), hb⟩
              case measure => simp [intOf]; omega
        · have ti : decide ((i : Int) < 4) = false := by simp; omega
          obtain rfl : i = 4 := by omega
          go_wp2_with fail
          go_roundw
          case rel => exact ⟨c + 1, by omega, by go_num, b1, b2, hid (by rw [show 4 * (c + 1) = 4 * c + 4 by omega]; exact b3.out), hb⟩
          case measure => simp [intOf]; omega
    · have tc : decide ((c : Int) < 4) = false := by simp; omega
      have q3 := b3.out
      rw [upTo_all (by omega)] at q3
      have q2 := b2.out
      go_wp2_with (first | ((with_reducible apply ldA tSS); rfl; exact q3) | ((with_reducible apply stA tSS); rfl; rfl; exact q2))
      apply ret_ar tSS Try.results35
      · rfl
      · rfl
      · exact q2.setRow_same _
      exact ⟨rfl, below_setRow hb.out (by omega) _⟩
end AesP
end Go.Proofs.Ytkcfonlondlmeaa
