/-
  Contract of casemateref07.Words.
-/
import Derived.Test.YtodjfliakhhjaaaRAesB
import Derived.Test.YtodjfliakhhjaaaRegEx
namespace Go.Proofs.Ytodjfliakhhjaaa
open Go.ChangeShapes Go.WideShapes Go.ChangeAt Go.RowKit
open AesM (Bt tab)
attribute [local go_sem] Gives GivesE
namespace AesP
theorem lit4 (a b c d : Nat) : (#[.int .u8 (a : Nat), .int .u8 (b : Nat), .int .u8 (c : Nat), .int .u8 (d : Nat)] : Array Value) = ar 4 (sel4 a b c d) := by rfl
theorem sel4_ext {f : Nat → Nat} : ar 4 (sel4 (f 0) (f 1) (f 2) (f 3)) = ar 4 f := ar_ext fun i hi => by
  match i, hi with
  | 0, _ | 1, _ | 2, _ | 3, _ => rfl
/-- What the operations' values are like: told, or a slice. -/
def rS (fx : List (Option Value)) (j : Nat) (v : Value) : Prop := match fx[j]? with
  | some (some u) => v = u
  | some none => ∃ g m : Nat, v = .slice (some ⟨g, 0, none⟩) m m
  | none => True
def rV (fx : List (Option Value)) (j : Nat) : Value := match fx[j]? with
  | some (some u) => u
  | some none => .slice (some ⟨0, 0, none⟩) 0 0
  | none => undef
theorem rS_ok (fx : List (Option Value)) (j : Nat) : rS fx j (rV fx j) := by
  unfold rS rV
  cases fx[j]? with
  | none => trivial
  | some o => cases o with
    | none => exact ⟨0, 0, rfl⟩
    | some u => rfl
/-- Behind operation 20 a word lies in memory, behind 21 a slice of it. -/
def rD (f : Nat → Nat) (j : Nat) (vs : Nat → Value) (w : World) : Prop :=
  (j = 20 → ∃ g : Nat, vs 20 = .slice (some ⟨g, 0, none⟩) 4 4 ∧ Blk w g 5 (ar 4 f)) ∧
  (j = 21 → ∃ g g' : Nat, vs 21 = .slice (some ⟨g', 0, none⟩) 1 1 ∧ Blk w g' 55 #[.slice (some ⟨g, 0, none⟩) 4 4] ∧ Blk w g 5 (ar 4 f))
theorem rD_below {f : Nat → Nat} {j : Nat} {vs : Nat → Value} {w w' : World} (h : rD f j vs w) (hb : Below w.heap.size w w') : rD f j vs w' :=
  ⟨fun e => by obtain ⟨g, h1, h2⟩ := h.1 e; exact ⟨g, h1, h2.below hb h2.lt⟩, fun e => by obtain ⟨g, g', h1, h2, h3⟩ := h.2 e; exact ⟨g, g', h1, h2.below hb h2.lt, h3.below hb h3.lt⟩⟩
theorem rD_loc {f : Nat → Nat} {i j : Nat} {vs : Nat → Value} {v : Value} {w : World} (hji : j ≠ i) (h : rD f j vs w) : rD f j (updV vs i v) w :=
  ⟨fun e => by obtain ⟨g, h1, h2⟩ := h.1 e; exact ⟨g, by rw [updV_ne _ _ (by omega)]; exact h1, h2⟩, fun e => by obtain ⟨g, g', h1, h2⟩ := h.2 e; exact ⟨g, g', by rw [updV_ne _ _ (by omega)]; exact h1, h2⟩⟩
theorem rD_none {f : Nat → Nat} {j : Nat} {vs : Nat → Value} {w : World} (h0 : j ≠ 20) (h1 : j ≠ 21) : rD f j vs w := ⟨fun e => absurd e h0, fun e => absurd e h1⟩
set_option maxHeartbeats 1600000 in
set_option maxRecDepth 100000 in
theorem words_any (k : Nat → Nat) (hk : Bt k) (gb ob cb : Nat) (w : World) (hg : gb < w.heap.size) (hR : w.rangeAt gb ob (ar 256 AesM.boxF).toList) :
    Calls Try.prog 18 #[.agg (ar 32 k), .slice (some ⟨gb, ob, none⟩) 256 cb] w fun e w' => ∃ v, e = .returned v ∧ WS w' (w.heap.size + 1) v (AesM.wd AesM.boxF k) 60 ∧ Below w.heap.size w w' := by
  have HK := hid hk
  have HR := hid (show ∀ j, j < 256 → w.cell? ⟨gb, ob + j, none⟩ = some (.int .u8 (AesM.boxF j : Nat)) from fun j hj => hR j _ (by rw [Array.getElem?_toList, get_ar hj]))
  clear hk hR
  go_enter Try.func18, Try.ntmps18
  go_upto_region 1 with fail
  generalize hw1 : World.alloc w _ = w1
  have b0 := hid (show Blk w1 w.heap.size 23 (ar 32 k) by rw [← hw1]; exact Blk.new _ _ _)
  have hb := hid (show Below w.heap.size w w1 by rw [← hw1]; exact (Below.refl _ _).alloc (Nat.le_refl _) _)
  clear hw1
  go_wp2_with fail
  go_loopw [5, 6] (fun u i wr => ∃ (n : Nat) (vo : Value), n ≤ 8 ∧ i = .int .i64 n ∧ u = vo ∧ Hid (Blk wr w.heap.size 23 (ar 32 k)) ∧ Hid (WS wr (w.heap.size + 1) vo (AesM.wd AesM.boxF k) n) ∧ Hid (Below w.heap.size w wr)) (fun _ i => fun _ => 8 - (intOf i).toNat)
  case atStart => exact ⟨0, _, by omega, rfl, rfl, b0, hid (WS.nil _ _ _), hb⟩
  case round =>
    clear b0 hb
    obtain ⟨n, vo, hn, rfl, rfl, b0, hs, hb⟩ := hrel
    have hzw := hb.out.size
    by_cases hlt : n < 8
    · have tn : (n : Int) < 8 := by omega
      have hkl := b0.out.lt
      obtain ⟨q, hq⟩ : ∃ q, q = 4 * n := ⟨_, rfl⟩
      obtain ⟨q1, hq1⟩ : ∃ q1, q1 = q + 1 := ⟨_, rfl⟩
      obtain ⟨q2, hq2⟩ : ∃ q2, q2 = q + 2 := ⟨_, rfl⟩
      obtain ⟨q3, hq3⟩ : ∃ q3, q3 = q + 3 := ⟨_, rfl⟩
      have t0 : (q : Int) < 32 := by omega
      have t1 : (q1 : Int) < 32 := by omega
      have t2 : (q2 : Int) < 32 := by omega
      have t3 : (q3 : Int) < 32 := by omega
      have m0 := hid (show IntKind.i64.wrap (4 * (n : Int)) = (q : Int) from wr_nat (by omega) (by omega))
      have m1 := hid (show IntKind.i64.wrap ((q : Int) + 1) = (q1 : Int) from wr_nat (by omega) (by omega))
      have m2 := hid (show IntKind.i64.wrap ((q : Int) + 2) = (q2 : Int) from wr_nat (by omega) (by omega))
      have m3 := hid (show IntKind.i64.wrap ((q : Int) + 3) = (q3 : Int) from wr_nat (by omega) (by omega))
      have C0 := hid ((b0.out.cell q).trans (get_ar (n := 32) (by omega)))
      have C1 := hid ((b0.out.cell q1).trans (get_ar (n := 32) (by omega)))
      have C2 := hid ((b0.out.cell q2).trans (get_ar (n := 32) (by omega)))
      have C3 := hid ((b0.out.cell q3).trans (get_ar (n := 32) (by omega)))
      have HW := hid (show ar 4 (sel4 (k q) (k q1) (k q2) (k q3)) = ar 4 (AesM.wd AesM.boxF k n) from by
        rw [← sel4_ext (f := AesM.wd AesM.boxF k n), AesM.wd_first _ k hlt (by omega), AesM.wd_first _ k hlt (by omega), AesM.wd_first _ k hlt (by omega), AesM.wd_first _ k hlt (by omega), Nat.add_zero, ← hq, ← hq1, ← hq2, ← hq3])
      clear hq hq1 hq2 hq3
      go_wp2_with fail
      refine wp_region_ex (S := rS [some u5, some (.int .i64 n), some (.int .i64 q), some (.pointer (some ⟨w.heap.size, q, none⟩)), some (.int .u8 (k q : Nat)), some (.int .i64 n), some (.int .i64 q), some (.int .i64 q1), some (.pointer (some ⟨w.heap.size, q1, none⟩)), some (.int .u8 (k q1 : Nat)), some (.int .i64 n), some (.int .i64 q), some (.int .i64 q2), some (.pointer (some ⟨w.heap.size, q2, none⟩)), some (.int .u8 (k q2 : Nat)), some (.int .i64 n), some (.int .i64 q), some (.int .i64 q3), some (.pointer (some ⟨w.heap.size, q3, none⟩)), some (.int .u8 (k q3 : Nat)), none, none]) (D := rD (AesM.wd AesM.boxF k n)) (K := fun _ _ w w' => Below w.heap.size w w') (C := fun _ w' => Below wr.heap.size wr w') 22 (by kernel_rfl) (by kernel_rfl) (by kernel_rfl)
        _ (rS_ok _) (fun i j vs w w' _ _ _ h hb => rD_below h hb) (fun j i vs v w hji _ h => rD_loc hji h) (Below.refl _ _).drew fun vs => ?_
      simp only [List.take_succ_cons, List.take_zero, List.drop_succ_cons, List.drop_zero]
      refine ⟨.inl ⟨rfl, fun dd w' hd hC hDs => ?_⟩, fun e => ?_⟩
      · have hC' : Below wr.heap.size wr w' := hC
        go_simp
        first | exact ⟨rfl, hC, Below.refl _ _, rD_none (by decide) (by decide)⟩ | exact ⟨hC, Below.refl _ _, rD_none (by decide) (by decide)⟩ | exact ⟨rfl, Below.refl _ _, rD_none (by decide) (by decide)⟩ | exact ⟨Below.refl _ _, rD_none (by decide) (by decide)⟩
      have e' : vs 0 = _ := e
      rw [e']
      clear e e'
      simp only [Act.put, List.setIfInBounds_toArray, List.set_cons_succ, List.set_cons_zero]
      refine ⟨.inl ⟨rfl, fun dd w' hd hC hDs => ?_⟩, fun e => ?_⟩
      · have hC' : Below wr.heap.size wr w' := hC
        go_simp
        first | exact ⟨rfl, hC, Below.refl _ _, rD_none (by decide) (by decide)⟩ | exact ⟨hC, Below.refl _ _, rD_none (by decide) (by decide)⟩ | exact ⟨rfl, Below.refl _ _, rD_none (by decide) (by decide)⟩ | exact ⟨Below.refl _ _, rD_none (by decide) (by decide)⟩
      have e' : vs 1 = _ := e
      rw [e']
      clear e e'
      simp only [Act.put, List.setIfInBounds_toArray, List.set_cons_succ, List.set_cons_zero]
      refine ⟨.inl ⟨rfl, fun dd w' hd hC hDs => ?_⟩, fun e => ?_⟩
      · have hC' : Below wr.heap.size wr w' := hC
        have h1 := m0.out
        go_simp
        first | exact ⟨rfl, hC, Below.refl _ _, rD_none (by decide) (by decide)⟩ | exact ⟨hC, Below.refl _ _, rD_none (by decide) (by decide)⟩ | exact ⟨rfl, Below.refl _ _, rD_none (by decide) (by decide)⟩ | exact ⟨Below.refl _ _, rD_none (by decide) (by decide)⟩
      have e' : vs 2 = _ := e
      rw [e']
      clear e e'
      simp only [Act.put, List.setIfInBounds_toArray, List.set_cons_succ, List.set_cons_zero]
      refine ⟨.inl ⟨rfl, fun dd w' hd hC hDs => ?_⟩, fun e => ?_⟩
      · have hC' : Below wr.heap.size wr w' := hC
        go_simp
        first | exact ⟨rfl, hC, Below.refl _ _, rD_none (by decide) (by decide)⟩ | exact ⟨hC, Below.refl _ _, rD_none (by decide) (by decide)⟩ | exact ⟨rfl, Below.refl _ _, rD_none (by decide) (by decide)⟩ | exact ⟨Below.refl _ _, rD_none (by decide) (by decide)⟩
      have e' : vs 3 = _ := e
      rw [e']
      clear e e'
      simp only [Act.put, List.setIfInBounds_toArray, List.set_cons_succ, List.set_cons_zero]
      refine ⟨.inl ⟨rfl, fun dd w' hd hC hDs => ?_⟩, fun e => ?_⟩
      · have hC' : Below wr.heap.size wr w' := hC
        have hcell := (hC'.cell (p := ⟨w.heap.size, q, none⟩) hkl).trans C0.out
        go_simp
        first | exact ⟨rfl, hC, Below.refl _ _, rD_none (by decide) (by decide)⟩ | exact ⟨hC, Below.refl _ _, rD_none (by decide) (by decide)⟩ | exact ⟨rfl, Below.refl _ _, rD_none (by decide) (by decide)⟩ | exact ⟨Below.refl _ _, rD_none (by decide) (by decide)⟩
      have e' : vs 4 = _ := e
      rw [e']
      clear e e'
      simp only [Act.put, List.setIfInBounds_toArray, List.set_cons_succ, List.set_cons_zero]
      refine ⟨.inl ⟨rfl, fun dd w' hd hC hDs => ?_⟩, fun e => ?_⟩
      · have hC' : Below wr.heap.size wr w' := hC
        go_simp
        first | exact ⟨rfl, hC, Below.refl _ _, rD_none (by decide) (by decide)⟩ | exact ⟨hC, Below.refl _ _, rD_none (by decide) (by decide)⟩ | exact ⟨rfl, Below.refl _ _, rD_none (by decide) (by decide)⟩ | exact ⟨Below.refl _ _, rD_none (by decide) (by decide)⟩
      have e' : vs 5 = _ := e
      rw [e']
      clear e e'
      simp only [Act.put, List.setIfInBounds_toArray, List.set_cons_succ, List.set_cons_zero]
      refine ⟨.inl ⟨rfl, fun dd w' hd hC hDs => ?_⟩, fun e => ?_⟩
      · have hC' : Below wr.heap.size wr w' := hC
        have h1 := m0.out
        go_simp
        first | exact ⟨rfl, hC, Below.refl _ _, rD_none (by decide) (by decide)⟩ | exact ⟨hC, Below.refl _ _, rD_none (by decide) (by decide)⟩ | exact ⟨rfl, Below.refl _ _, rD_none (by decide) (by decide)⟩ | exact ⟨Below.refl _ _, rD_none (by decide) (by decide)⟩
      have e' : vs 6 = _ := e
      rw [e']
      clear e e'
      simp only [Act.put, List.setIfInBounds_toArray, List.set_cons_succ, List.set_cons_zero]
      refine ⟨.inl ⟨rfl, fun dd w' hd hC hDs => ?_⟩, fun e => ?_⟩
      · have hC' : Below wr.heap.size wr w' := hC
        have h1 := m1.out
        go_simp
        first | exact ⟨rfl, hC, Below.refl _ _, rD_none (by decide) (by decide)⟩ | exact ⟨hC, Below.refl _ _, rD_none (by decide) (by decide)⟩ | exact ⟨rfl, Below.refl _ _, rD_none (by decide) (by decide)⟩ | exact ⟨Below.refl _ _, rD_none (by decide) (by decide)⟩
      have e' : vs 7 = _ := e
      rw [e']
      clear e e'
      simp only [Act.put, List.setIfInBounds_toArray, List.set_cons_succ, List.set_cons_zero]
      refine ⟨.inl ⟨rfl, fun dd w' hd hC hDs => ?_⟩, fun e => ?_⟩
      · have hC' : Below wr.heap.size wr w' := hC
        go_simp
        first | exact ⟨rfl, hC, Below.refl _ _, rD_none (by decide) (by decide)⟩ | exact ⟨hC, Below.refl _ _, rD_none (by decide) (by decide)⟩ | exact ⟨rfl, Below.refl _ _, rD_none (by decide) (by decide)⟩ | exact ⟨Below.refl _ _, rD_none (by decide) (by decide)⟩
      have e' : vs 8 = _ := e
      rw [e']
      clear e e'
      simp only [Act.put, List.setIfInBounds_toArray, List.set_cons_succ, List.set_cons_zero]
      refine ⟨.inl ⟨rfl, fun dd w' hd hC hDs => ?_⟩, fun e => ?_⟩
      · have hC' : Below wr.heap.size wr w' := hC
        have hcell := (hC'.cell (p := ⟨w.heap.size, q1, none⟩) hkl).trans C1.out
        go_simp
        first | exact ⟨rfl, hC, Below.refl _ _, rD_none (by decide) (by decide)⟩ | exact ⟨hC, Below.refl _ _, rD_none (by decide) (by decide)⟩ | exact ⟨rfl, Below.refl _ _, rD_none (by decide) (by decide)⟩ | exact ⟨Below.refl _ _, rD_none (by decide) (by decide)⟩
      have e' : vs 9 = _ := e
      rw [e']
      clear e e'
      simp only [Act.put, List.setIfInBounds_toArray, List.set_cons_succ, List.set_cons_zero]
      refine ⟨.inl ⟨rfl, fun dd w' hd hC hDs => ?_⟩, fun e => ?_⟩
      · have hC' : Below wr.heap.size wr w' := hC
        go_simp
        first | exact ⟨rfl, hC, Below.refl _ _, rD_none (by decide) (by decide)⟩ | exact ⟨hC, Below.refl _ _, rD_none (by decide) (by decide)⟩ | exact ⟨rfl, Below.refl _ _, rD_none (by decide) (by decide)⟩ | exact ⟨Below.refl _ _, rD_none (by decide) (by decide)⟩
      have e' : vs 10 = _ := e
      rw [e']
      clear e e'
      simp only [Act.put, List.setIfInBounds_toArray, List.set_cons_succ, List.set_cons_zero]
      refine ⟨.inl ⟨rfl, fun dd w' hd hC hDs => ?_⟩, fun e => ?_⟩
      · have hC' : Below wr.heap.size wr w' := hC
        have h1 := m0.out
        go_simp
        first | exact ⟨rfl, hC, Below.refl _ _, rD_none (by decide) (by decide)⟩ | exact ⟨hC, Below.refl _ _, rD_none (by decide) (by decide)⟩ | exact ⟨rfl, Below.refl _ _, rD_none (by decide) (by decide)⟩ | exact ⟨Below.refl _ _, rD_none (by decide) (by decide)⟩
      have e' : vs 11 = _ := e
      rw [e']
      clear e e'
      simp only [Act.put, List.setIfInBounds_toArray, List.set_cons_succ, List.set_cons_zero]
      refine ⟨.inl ⟨rfl, fun dd w' hd hC hDs => ?_⟩, fun e => ?_⟩
      · have hC' : Below wr.heap.size wr w' := hC
        have h1 := m2.out
        go_simp
        first | exact ⟨rfl, hC, Below.refl _ _, rD_none (by decide) (by decide)⟩ | exact ⟨hC, Below.refl _ _, rD_none (by decide) (by decide)⟩ | exact ⟨rfl, Below.refl _ _, rD_none (by decide) (by decide)⟩ | exact ⟨Below.refl _ _, rD_none (by decide) (by decide)⟩
      have e' : vs 12 = _ := e
      rw [e']
      clear e e'
      simp only [Act.put, List.setIfInBounds_toArray, List.set_cons_succ, List.set_cons_zero]
      refine ⟨.inl ⟨rfl, fun dd w' hd hC hDs => ?_⟩, fun e => ?_⟩
      · have hC' : Below wr.heap.size wr w' := hC
        go_simp
        first | exact ⟨rfl, hC, Below.refl _ _, rD_none (by decide) (by decide)⟩ | exact ⟨hC, Below.refl _ _, rD_none (by decide) (by decide)⟩ | exact ⟨rfl, Below.refl _ _, rD_none (by decide) (by decide)⟩ | exact ⟨Below.refl _ _, rD_none (by decide) (by decide)⟩
      have e' : vs 13 = _ := e
      rw [e']
      clear e e'
      simp only [Act.put, List.setIfInBounds_toArray, List.set_cons_succ, List.set_cons_zero]
      refine ⟨.inl ⟨rfl, fun dd w' hd hC hDs => ?_⟩, fun e => ?_⟩
      · have hC' : Below wr.heap.size wr w' := hC
        have hcell := (hC'.cell (p := ⟨w.heap.size, q2, none⟩) hkl).trans C2.out
        go_simp
        first | exact ⟨rfl, hC, Below.refl _ _, rD_none (by decide) (by decide)⟩ | exact ⟨hC, Below.refl _ _, rD_none (by decide) (by decide)⟩ | exact ⟨rfl, Below.refl _ _, rD_none (by decide) (by decide)⟩ | exact ⟨Below.refl _ _, rD_none (by decide) (by decide)⟩
      have e' : vs 14 = _ := e
      rw [e']
      clear e e'
      simp only [Act.put, List.setIfInBounds_toArray, List.set_cons_succ, List.set_cons_zero]
      refine ⟨.inl ⟨rfl, fun dd w' hd hC hDs => ?_⟩, fun e => ?_⟩
      · have hC' : Below wr.heap.size wr w' := hC
        go_simp
        first | exact ⟨rfl, hC, Below.refl _ _, rD_none (by decide) (by decide)⟩ | exact ⟨hC, Below.refl _ _, rD_none (by decide) (by decide)⟩ | exact ⟨rfl, Below.refl _ _, rD_none (by decide) (by decide)⟩ | exact ⟨Below.refl _ _, rD_none (by decide) (by decide)⟩
      have e' : vs 15 = _ := e
      rw [e']
      clear e e'
      simp only [Act.put, List.setIfInBounds_toArray, List.set_cons_succ, List.set_cons_zero]
      refine ⟨.inl ⟨rfl, fun dd w' hd hC hDs => ?_⟩, fun e => ?_⟩
      · have hC' : Below wr.heap.size wr w' := hC
        have h1 := m0.out
        go_simp
        first | exact ⟨rfl, hC, Below.refl _ _, rD_none (by decide) (by decide)⟩ | exact ⟨hC, Below.refl _ _, rD_none (by decide) (by decide)⟩ | exact ⟨rfl, Below.refl _ _, rD_none (by decide) (by decide)⟩ | exact ⟨Below.refl _ _, rD_none (by decide) (by decide)⟩
      have e' : vs 16 = _ := e
      rw [e']
      clear e e'
      simp only [Act.put, List.setIfInBounds_toArray, List.set_cons_succ, List.set_cons_zero]
      refine ⟨.inl ⟨rfl, fun dd w' hd hC hDs => ?_⟩, fun e => ?_⟩
      · have hC' : Below wr.heap.size wr w' := hC
        have h1 := m3.out
        go_simp
        first | exact ⟨rfl, hC, Below.refl _ _, rD_none (by decide) (by decide)⟩ | exact ⟨hC, Below.refl _ _, rD_none (by decide) (by decide)⟩ | exact ⟨rfl, Below.refl _ _, rD_none (by decide) (by decide)⟩ | exact ⟨Below.refl _ _, rD_none (by decide) (by decide)⟩
      have e' : vs 17 = _ := e
      rw [e']
      clear e e'
      simp only [Act.put, List.setIfInBounds_toArray, List.set_cons_succ, List.set_cons_zero]
      refine ⟨.inl ⟨rfl, fun dd w' hd hC hDs => ?_⟩, fun e => ?_⟩
      · have hC' : Below wr.heap.size wr w' := hC
        go_simp
        first | exact ⟨rfl, hC, Below.refl _ _, rD_none (by decide) (by decide)⟩ | exact ⟨hC, Below.refl _ _, rD_none (by decide) (by decide)⟩ | exact ⟨rfl, Below.refl _ _, rD_none (by decide) (by decide)⟩ | exact ⟨Below.refl _ _, rD_none (by decide) (by decide)⟩
      have e' : vs 18 = _ := e
      rw [e']
      clear e e'
      simp only [Act.put, List.setIfInBounds_toArray, List.set_cons_succ, List.set_cons_zero]
      refine ⟨.inl ⟨rfl, fun dd w' hd hC hDs => ?_⟩, fun e => ?_⟩
      · have hC' : Below wr.heap.size wr w' := hC
        have hcell := (hC'.cell (p := ⟨w.heap.size, q3, none⟩) hkl).trans C3.out
        go_simp
        first | exact ⟨rfl, hC, Below.refl _ _, rD_none (by decide) (by decide)⟩ | exact ⟨hC, Below.refl _ _, rD_none (by decide) (by decide)⟩ | exact ⟨rfl, Below.refl _ _, rD_none (by decide) (by decide)⟩ | exact ⟨Below.refl _ _, rD_none (by decide) (by decide)⟩
      have e' : vs 19 = _ := e
      rw [e']
      clear e e'
      simp only [Act.put, List.setIfInBounds_toArray, List.set_cons_succ, List.set_cons_zero]
      refine ⟨.inl ⟨rfl, fun dd w' hd hC hDs => ?_⟩, fun e => ?_⟩
      · have hC' : Below wr.heap.size wr w' := hC
        go_simp
        have hbl : Blk (w'.alloc (.cells #[.int .u8 (k q : Nat), .int .u8 (k q1 : Nat), .int .u8 (k q2 : Nat), .int .u8 (k q3 : Nat)] 5)) w'.heap.size 5 (ar 4 (AesM.wd AesM.boxF k n)) := Blk.top ((lit4 _ _ _ _).trans HW.out) rfl
        exact ⟨⟨_, _, rfl⟩, hC'.alloc hC'.size _, (Below.refl _ _).alloc (Nat.le_refl _) _, fun _ => ⟨w'.heap.size, updV_self _ _ _, hbl⟩, fun e => absurd e (by decide)⟩
      clear e
      simp only [Act.put, List.setIfInBounds_toArray, List.set_cons_succ, List.set_cons_zero]
      refine ⟨.inl ⟨rfl, fun dd w' hd hC hDs => ?_⟩, fun e => ?_⟩
      · have hC' : Below wr.heap.size wr w' := hC
        obtain ⟨g, e1, h3⟩ := (hDs 20 (by kernel_rfl)).1 rfl
        rw [e1]
        go_simp
        exact ⟨⟨_, _, rfl⟩, hC'.alloc hC'.size _, (Below.refl _ _).alloc (Nat.le_refl _) _, fun e => absurd e (by decide), fun _ => ⟨g, w'.heap.size, updV_self _ _ _, Blk.top rfl rfl, h3.alloc _⟩⟩
      clear e
      simp only [Act.put, List.setIfInBounds_toArray, List.set_cons_succ, List.set_cons_zero]
      intro dd w5 _ hw5 hDD
      obtain ⟨g, g', e2, x1, x2⟩ := (hDD 21 (by omega)).2 rfl
      rw [e2]
      have hw5' : Below wr.heap.size wr w5 := hw5
      have d0 := hid (b0.out.below hw5' hkl)
      have db := hid (hb.out.trans (hw5'.mono hb.out.size))
      obtain ⟨cs, s1, s2, s3⟩ := hs.out.below hw5'
      have S1 := hid s1
      have S2 := hid s2
      have S3 := hid s3
      have X1 := hid x1
      have X2 := hid x2
      clear b0 hs hb hDD e2 hw5 hw5' s1 s2 s3 x1 x2 C0 C1 C2 C3 m0 m1 m2 m3 HW
      go_wp2_with (at_builtin; (with_reducible apply wappP); rfl; rfl; exact S1.out; exact X1.out; (rw [S2.out]; omega); exact (by have := d0.out.lt; omega); intro v9 w9 o9 g9)
      go_roundw
      case rel =>
        refine ⟨n + 1, v9, by omega, by go_num, rfl, hid (d0.out.apart g9 fun e => by have := S1.out.ownGe e; omega), hid (WS.snoc S1.out S2.out S3.out X2.out o9 g9), hid (below_grownP db.out g9 S1.out (by omega) db.out.size)⟩
      case measure => simp [intOf] <;> omega
    · have tn : decide ((n : Int) < 8) = false := by simp; omega
      have h8 : n = 8 := by omega
      rw [h8] at hs
      clear h8
      go_wp2_with fail
      clear tn hlt hn
      go_loopw [5, 7, 8] (fun u p i wr => ∃ (n : Nat) (q : Nat) (vo : Value), 8 ≤ n ∧ n ≤ 60 ∧ i = .int .i64 n ∧ u = vo ∧ p = .int .u8 (q : Nat) ∧ q = 2 ^ ((n + 7) / 8 - 1) ∧ Hid (Blk wr w.heap.size 23 (ar 32 k)) ∧ Hid (WS wr (w.heap.size + 1) vo (AesM.wd AesM.boxF k) n) ∧ Hid (Below w.heap.size w wr)) (fun _ _ i => fun _ => 60 - (intOf i).toNat)
      case atStart => exact ⟨8, 1, _, by omega, by omega, rfl, rfl, rfl, rfl, b0, hs, hb⟩
      case round =>
        clear b0 hs hb
        obtain ⟨n, q, _, h8n, hn60, rfl, rfl, rfl, hq, b0, hs, hb⟩ := hrel
        have hzw := hb.out.size
        by_cases hlt : n < 60
        · have tn : (n : Int) < 60 := by omega
          have hkl := b0.out.lt
          obtain ⟨m, hm⟩ : ∃ m, m = n - 8 := ⟨_, rfl⟩
          obtain ⟨l, hl⟩ : ∃ l, l = n - 1 := ⟨_, rfl⟩
          obtain ⟨gv, cv, rfl, hgv, hcells⟩ := hs.out.form (by omega)
          obtain ⟨GL, fl, fb⟩ := hcells l (by omega)
          obtain ⟨GM, fm, fmb⟩ := hcells m (by omega)
          have em := hid (show IntKind.i64.wrap ((n : Int) - 8) = (m : Int) from wr_nat (by omega) (by omega))
          have el := hid (show IntKind.i64.wrap ((n : Int) - 1) = (l : Int) from wr_nat (by omega) (by omega))
          have tm : (m : Int) < (n : Int) := by omega
          have tl : (l : Int) < (n : Int) := by omega
          have HN := hid (AesM.wd_bt AesM.boxF_lt HK.out (show l < 60 by omega))
          have HFB := hid (AesM.wd_bt AesM.boxF_lt HK.out (show m < 60 by omega))
          have EM := em
          have HM := hid hm
          have HL := hid hl
          have FL := hid fl
          have FB := hid fmb
          have FM := hid fm
          have FN := hid fb
          have HQ := hid hq
          clear hm hl fl fb fm fmb hcells hq em
          have el1 := el.out
          have fl1 := FL.out
          go_wp2_with fail
          have N0 := hid ((FN.out.cell 0).trans (get_ar (n := 4) (by omega)))
          have N1 := hid ((FN.out.cell 1).trans (get_ar (n := 4) (by omega)))
          have N2 := hid ((FN.out.cell 2).trans (get_ar (n := 4) (by omega)))
          have N3 := hid ((FN.out.cell 3).trans (get_ar (n := 4) (by omega)))
          refine wp_region_tail (C := Drew wr) 12 (by kernel_rfl) (by kernel_rfl) (by kernel_rfl) (Drew.refl _) ?_
          simp only [List.take_succ_cons, List.take_zero, List.drop_succ_cons, List.drop_zero]
          apply wpK_val
          · rfl
          · intro w' hw'
            go_simp
            first | exact rfl | exact ⟨rfl, hw'⟩
          simp only [Act.put, List.setIfInBounds_toArray, List.set_cons_succ, List.set_cons_zero]
          apply wpK_val
          · rfl
          · intro w' hw'
            go_simp
            first | exact rfl | exact ⟨rfl, hw'⟩
          simp only [Act.put, List.setIfInBounds_toArray, List.set_cons_succ, List.set_cons_zero]
          apply wpK_val
          · rfl
          · intro w' hw'
            have hcell := hw'.cell N0.out
            go_simp
            first | exact rfl | exact ⟨rfl, hw'⟩
          simp only [Act.put, List.setIfInBounds_toArray, List.set_cons_succ, List.set_cons_zero]
          apply wpK_val
          · rfl
          · intro w' hw'
            go_simp
            first | exact rfl | exact ⟨rfl, hw'⟩
          simp only [Act.put, List.setIfInBounds_toArray, List.set_cons_succ, List.set_cons_zero]
          apply wpK_val
          · rfl
          · intro w' hw'
            go_simp
            first | exact rfl | exact ⟨rfl, hw'⟩
          simp only [Act.put, List.setIfInBounds_toArray, List.set_cons_succ, List.set_cons_zero]
          apply wpK_val
          · rfl
          · intro w' hw'
            have hcell := hw'.cell N1.out
            go_simp
            first | exact rfl | exact ⟨rfl, hw'⟩
          simp only [Act.put, List.setIfInBounds_toArray, List.set_cons_succ, List.set_cons_zero]
          apply wpK_val
          · rfl
          · intro w' hw'
            go_simp
            first | exact rfl | exact ⟨rfl, hw'⟩
          simp only [Act.put, List.setIfInBounds_toArray, List.set_cons_succ, List.set_cons_zero]
          apply wpK_val
          · rfl
          · intro w' hw'
            go_simp
            first | exact rfl | exact ⟨rfl, hw'⟩
          simp only [Act.put, List.setIfInBounds_toArray, List.set_cons_succ, List.set_cons_zero]
          apply wpK_val
          · rfl
          · intro w' hw'
            have hcell := hw'.cell N2.out
            go_simp
            first | exact rfl | exact ⟨rfl, hw'⟩
          simp only [Act.put, List.setIfInBounds_toArray, List.set_cons_succ, List.set_cons_zero]
          apply wpK_val
          · rfl
          · intro w' hw'
            go_simp
            first | exact rfl | exact ⟨rfl, hw'⟩
          simp only [Act.put, List.setIfInBounds_toArray, List.set_cons_succ, List.set_cons_zero]
          apply wpK_val
          · rfl
          · intro w' hw'
            go_simp
            first | exact rfl | exact ⟨rfl, hw'⟩
          simp only [Act.put, List.setIfInBounds_toArray, List.set_cons_succ, List.set_cons_zero]
          apply wpK_val
          · rfl
          · intro w' hw'
            have hcell := hw'.cell N3.out
            go_simp
            first | exact rfl | exact ⟨rfl, hw'⟩
          simp only [Act.put, List.setIfInBounds_toArray, List.set_cons_succ, List.set_cons_zero]
          refine wpK_nil fun w5 hw5 => ?_
          have hh5 := hw5.heap
          have x5 := hid (hw5.below (Below.refl wr.heap.size wr))
          clear N0 N1 N2 N3
          go_upto_region 12 with fail
          generalize hw6 : World.alloc w5 _ = w6
          have gt0 := hid (show Blk w6 wr.heap.size 5 (ar 4 (AesM.wd AesM.boxF k l)) by rw [← hw6]; exact Blk.top ((lit4 _ _ _ _).trans sel4_ext) (by rw [hh5]))
          have xr6 := hid (show Below wr.heap.size wr w6 by rw [← hw6]; exact x5.out.alloc (by rw [hh5]; exact Nat.le_refl _) _)
          have x6 := hid (hb.out.trans (xr6.out.mono hb.out.size))
          have FN6 := hid (FN.out.below xr6.out FN.out.lt)
          have hs6 : w6.heap.size = wr.heap.size + 1 := by rw [← hw6]; simp [hh5]
          clear hw6 x5 hw5 hh5 FN w5
          have TL0 := hid (show ((AesM.wd AesM.boxF k l 0 : Nat) : Int) < 256 by have := HN.out 0; omega)
          have TL1 := hid (show ((AesM.wd AesM.boxF k l 1 : Nat) : Int) < 256 by have := HN.out 1; omega)
          have TL2 := hid (show ((AesM.wd AesM.boxF k l 2 : Nat) : Int) < 256 by have := HN.out 2; omega)
          have TL3 := hid (show ((AesM.wd AesM.boxF k l 3 : Nat) : Int) < 256 by have := HN.out 3; omega)
          have N0 := hid ((FN6.out.cell 0).trans (get_ar (n := 4) (by omega)))
          have N1 := hid ((FN6.out.cell 1).trans (get_ar (n := 4) (by omega)))
          have N2 := hid ((FN6.out.cell 2).trans (get_ar (n := 4) (by omega)))
          have N3 := hid ((FN6.out.cell 3).trans (get_ar (n := 4) (by omega)))
          by_cases c0 : n % 8 = 0
          · have t0 : ((n : Int).tmod 8 == 0) = true := by rw [beq_iff_eq, Int.tmod_eq_emod_of_nonneg (by omega)]; omega
            have t1 : ((n : Int) % 8 == 0) = true := by rw [beq_iff_eq]; omega
            have t2 : ((n : Int) % 8 == 4) = false := by rw [beq_eq_false_iff_ne]; omega
            have hp2 : q < 256 := by
              rw [HQ.out]
              exact Nat.lt_of_le_of_lt (Nat.pow_le_pow_right (by omega) (show (n + 7) / 8 - 1 ≤ 7 by omega)) (by decide)
            have X := hid (u8_xor_nat _ _ (AesM.boxF_lt (AesM.wd AesM.boxF k l 1)) hp2)
            go_upto_region 13 with fail
            refine wp_region_tail (C := Drew w6) 26 (by kernel_rfl) (by kernel_rfl) (by kernel_rfl) (Drew.refl _) ?_
            simp only [List.take_succ_cons, List.take_zero, List.drop_succ_cons, List.drop_zero]
            apply wpK_val
            · rfl
            · intro w' hw'
              go_simp
              first | exact rfl | exact ⟨rfl, hw'⟩
            simp only [Act.put, List.setIfInBounds_toArray, List.set_cons_succ, List.set_cons_zero]
            apply wpK_val
            · rfl
            · intro w' hw'
              go_simp
              first | exact rfl | exact ⟨rfl, hw'⟩
            simp only [Act.put, List.setIfInBounds_toArray, List.set_cons_succ, List.set_cons_zero]
            apply wpK_val
            · rfl
            · intro w' hw'
              go_simp
              first | exact rfl | exact ⟨rfl, hw'⟩
            simp only [Act.put, List.setIfInBounds_toArray, List.set_cons_succ, List.set_cons_zero]
            apply wpK_val
            · rfl
            · intro w' hw'
              have hcell := hw'.cell N1.out
              go_simp
              first | exact rfl | exact ⟨rfl, hw'⟩
            simp only [Act.put, List.setIfInBounds_toArray, List.set_cons_succ, List.set_cons_zero]
            apply wpK_val
            · rfl
            · intro w' hw'
              have h1 : _ := TL1.out
              go_simp
              first | exact rfl | exact ⟨rfl, hw'⟩
            simp only [Act.put, List.setIfInBounds_toArray, List.set_cons_succ, List.set_cons_zero]
            apply wpK_val
            · rfl
            · intro w' hw'
              have hcell := (hw'.cell ((x6.out.cell (p := ⟨gb, ob + AesM.wd AesM.boxF k l 1, none⟩) hg).trans (HR.out _ (HN.out 1))))
              go_simp
              first | exact rfl | exact ⟨rfl, hw'⟩
            simp only [Act.put, List.setIfInBounds_toArray, List.set_cons_succ, List.set_cons_zero]
            apply wpK_val
            · rfl
            · intro w' hw'
              go_simp
              first | exact rfl | exact ⟨rfl, hw'⟩
            simp only [Act.put, List.setIfInBounds_toArray, List.set_cons_succ, List.set_cons_zero]
            apply wpK_val
            · rfl
            · intro w' hw'
              have h1 : _ := X.out
              go_simp
              first | exact rfl | exact ⟨rfl, hw'⟩
            simp only [Act.put, List.setIfInBounds_toArray, List.set_cons_succ, List.set_cons_zero]
            apply wpK_val
            · rfl
            · intro w' hw'
              go_simp
              first | exact rfl | exact ⟨rfl, hw'⟩
            simp only [Act.put, List.setIfInBounds_toArray, List.set_cons_succ, List.set_cons_zero]
            apply wpK_val
            · rfl
            · intro w' hw'
              go_simp
              first | exact rfl | exact ⟨rfl, hw'⟩
            simp only [Act.put, List.setIfInBounds_toArray, List.set_cons_succ, List.set_cons_zero]
            apply wpK_val
            · rfl
            · intro w' hw'
              go_simp
              first | exact rfl | exact ⟨rfl, hw'⟩
            simp only [Act.put, List.setIfInBounds_toArray, List.set_cons_succ, List.set_cons_zero]
            apply wpK_val
            · rfl
            · intro w' hw'
              have hcell := hw'.cell N2.out
              go_simp
              first | exact rfl | exact ⟨rfl, hw'⟩
            simp only [Act.put, List.setIfInBounds_toArray, List.set_cons_succ, List.set_cons_zero]
            apply wpK_val
            · rfl
            · intro w' hw'
              have h1 : _ := TL2.out
              go_simp
              first | exact rfl | exact ⟨rfl, hw'⟩
            simp only [Act.put, List.setIfInBounds_toArray, List.set_cons_succ, List.set_cons_zero]
            apply wpK_val
            · rfl
            · intro w' hw'
              have hcell := (hw'.cell ((x6.out.cell (p := ⟨gb, ob + AesM.wd AesM.boxF k l 2, none⟩) hg).trans (HR.out _ (HN.out 2))))
              go_simp
              first | exact rfl | exact ⟨rfl, hw'⟩
            simp only [Act.put, List.setIfInBounds_toArray, List.set_cons_succ, List.set_cons_zero]
            apply wpK_val
            · rfl
            · intro w' hw'
              go_simp
              first | exact rfl | exact ⟨rfl, hw'⟩
            simp only [Act.put, List.setIfInBounds_toArray, List.set_cons_succ, List.set_cons_zero]
            apply wpK_val
            · rfl
            · intro w' hw'
              go_simp
              first | exact rfl | exact ⟨rfl, hw'⟩
            simp only [Act.put, List.setIfInBounds_toArray, List.set_cons_succ, List.set_cons_zero]
            apply wpK_val
            · rfl
            · intro w' hw'
              go_simp
              first | exact rfl | exact ⟨rfl, hw'⟩
            simp only [Act.put, List.setIfInBounds_toArray, List.set_cons_succ, List.set_cons_zero]
            apply wpK_val
            · rfl
            · intro w' hw'
              have hcell := hw'.cell N3.out
              go_simp
              first | exact rfl | exact ⟨rfl, hw'⟩
            simp only [Act.put, List.setIfInBounds_toArray, List.set_cons_succ, List.set_cons_zero]
            apply wpK_val
            · rfl
            · intro w' hw'
              have h1 : _ := TL3.out
              go_simp
              first | exact rfl | exact ⟨rfl, hw'⟩
            simp only [Act.put, List.setIfInBounds_toArray, List.set_cons_succ, List.set_cons_zero]
            apply wpK_val
            · rfl
            · intro w' hw'
              have hcell := (hw'.cell ((x6.out.cell (p := ⟨gb, ob + AesM.wd AesM.boxF k l 3, none⟩) hg).trans (HR.out _ (HN.out 3))))
              go_simp
              first | exact rfl | exact ⟨rfl, hw'⟩
            simp only [Act.put, List.setIfInBounds_toArray, List.set_cons_succ, List.set_cons_zero]
            apply wpK_val
            · rfl
            · intro w' hw'
              go_simp
              first | exact rfl | exact ⟨rfl, hw'⟩
            simp only [Act.put, List.setIfInBounds_toArray, List.set_cons_succ, List.set_cons_zero]
            apply wpK_val
            · rfl
            · intro w' hw'
              go_simp
              first | exact rfl | exact ⟨rfl, hw'⟩
            simp only [Act.put, List.setIfInBounds_toArray, List.set_cons_succ, List.set_cons_zero]
            apply wpK_val
            · rfl
            · intro w' hw'
              go_simp
              first | exact rfl | exact ⟨rfl, hw'⟩
            simp only [Act.put, List.setIfInBounds_toArray, List.set_cons_succ, List.set_cons_zero]
            apply wpK_val
            · rfl
            · intro w' hw'
              have hcell := hw'.cell N0.out
              go_simp
              first | exact rfl | exact ⟨rfl, hw'⟩
            simp only [Act.put, List.setIfInBounds_toArray, List.set_cons_succ, List.set_cons_zero]
            apply wpK_val
            · rfl
            · intro w' hw'
              have h1 : _ := TL0.out
              go_simp
              first | exact rfl | exact ⟨rfl, hw'⟩
            simp only [Act.put, List.setIfInBounds_toArray, List.set_cons_succ, List.set_cons_zero]
            apply wpK_val
            · rfl
            · intro w' hw'
              have hcell := (hw'.cell ((x6.out.cell (p := ⟨gb, ob + AesM.wd AesM.boxF k l 0, none⟩) hg).trans (HR.out _ (HN.out 0))))
              go_simp
              first | exact rfl | exact ⟨rfl, hw'⟩
            simp only [Act.put, List.setIfInBounds_toArray, List.set_cons_succ, List.set_cons_zero]
            refine wpK_nil fun w7 hw7 => ?_
            have hh7 := hw7.heap
            have x7 := hid (hw7.below xr6.out)
            clear X N0 N1 N2 N3 TL0 TL1 TL2 TL3 gt0 x6 xr6 FN6 hw7
            go_upto_region 14 with fail
            obtain ⟨gt, hgte⟩ : ∃ gt, gt = wr.heap.size + 1 := ⟨_, rfl⟩
            rw [← hgte]
            obtain ⟨t, ht⟩ : ∃ t : Nat → Nat, t = sel4 (AesM.boxF (AesM.wd AesM.boxF k l 1) ^^^ q) (AesM.boxF (AesM.wd AesM.boxF k l 2)) (AesM.boxF (AesM.wd AesM.boxF k l 3)) (AesM.boxF (AesM.wd AesM.boxF k l 0)) := ⟨_, rfl⟩
            have HTE := hid (show ∀ i, i < 4 → t i = AesM.subW AesM.boxF (AesM.wd AesM.boxF k l) n i from fun i hi => by
              rw [ht]
              unfold AesM.subW
              rw [if_pos c0]
              have hqq : q = 2 ^ (n / 8 - 1) := by rw [HQ.out, show (n + 7) / 8 = n / 8 by omega]
              match i, hi with
              | 0, _ => rw [hqq]; rfl
              | 1, _ | 2, _ | 3, _ => exact (Nat.xor_zero _).symm)
            have HTB := hid (show Bt t from fun i => by
              rw [ht]
              exact sel4_lt (AesM.xor_lt (AesM.boxF_lt _) hp2) (AesM.boxF_lt _) (AesM.boxF_lt _) (AesM.boxF_lt _) i)
            generalize hw8 : World.alloc w7 _ = w8
            have y4 := hid (show Blk w8 gt 5 (ar 4 t) by rw [← hw8]; exact Blk.top ((lit4 _ _ _ _).trans (by rw [ht])) (by rw [hh7, hs6, hgte]))
            have yb := hid (show Below wr.heap.size wr w8 by rw [← hw8]; exact x7.out.alloc (by rw [hh7, hs6]; omega) _)
            have yl := hid (show gt < w8.heap.size by rw [← hw8, hgte]; simp [hh7, hs6])
            have hgt : wr.heap.size ≤ gt := by omega
            clear hw8 x7 hh7 hs6 ht hgte w7 w6
            have HQ2 := hid (show AesM.rm q 2 = 2 ^ ((n + 1 + 7) / 8 - 1) by
              rw [HQ.out, AesM.rm_pow _ (by omega)]
              congr 1
              omega)
            go_wp2_with fail
            refine (rmul_any q 2 hp2 (by omega) w8).mono ?_
            rintro e w9 ⟨rfl, rfl⟩
            go_wp2_with fail
            obtain ⟨wr0, hwr0⟩ : ∃ wr0, wr0 = wr := ⟨_, rfl⟩
            rw [← hwr0] at hs b0 hb FM FB hgv hgt yb hkl hzw
            clear hwr0
            go_loopw [11] (fun i wk => ∃ j : Nat, j ≤ 4 ∧ i = .int .i64 j ∧ Hid (Blk wk gt 5 (ar 4 (upTo j t fun i => t i ^^^ AesM.wd AesM.boxF k m i))) ∧ Hid (Below wr0.heap.size wr0 wk) ∧ Hid (gt < wk.heap.size)) (fun i => fun _ => 4 - (intOf i).toNat)
            case atStart => exact ⟨0, by omega, rfl, by rw [upTo_zero]; exact y4, yb, yl⟩
            case round =>
              clear y4 yb yl
              obtain ⟨j, hj, rfl, y4, yb, yl⟩ := hrel
              by_cases hlj : j < 4
              · have tj : (j : Int) < 4 := by omega
                have D4 := hid ((y4.out.cell j).trans (get_ar hlj))
                have DF := hid ((yb.out.cell (p := ⟨gv, m, none⟩) hgv).trans FM.out)
                have DG := hid (((FB.out.below yb.out FB.out.lt).cell j).trans (get_ar hlj))
                have X := hid (show bits .xor .u8 ((upTo j t (fun i => t i ^^^ AesM.wd AesM.boxF k m i) j : Nat) : Int) ((AesM.wd AesM.boxF k m j : Nat) : Int) = ((t j ^^^ AesM.wd AesM.boxF k m j : Nat) : Int) by rw [upTo_at]; exact u8_xor_nat _ _ (HTB.out j) (HFB.out j))
                go_wp2_with fail
                refine wp_region_tail (C := Drew wr) 16 (by kernel_rfl) (by kernel_rfl) (by kernel_rfl) (Drew.refl _) ?_
                simp only [List.take_succ_cons, List.take_zero, List.drop_succ_cons, List.drop_zero]
                apply wpK_val
                · rfl
                · intro w' hw'
                  go_simp
                  first | exact rfl | exact ⟨rfl, hw'⟩
                simp only [Act.put, List.setIfInBounds_toArray, List.set_cons_succ, List.set_cons_zero]
                apply wpK_val
                · rfl
                · intro w' hw'
                  go_simp
                  first | exact rfl | exact ⟨rfl, hw'⟩
                simp only [Act.put, List.setIfInBounds_toArray, List.set_cons_succ, List.set_cons_zero]
                apply wpK_val
                · rfl
                · intro w' hw'
                  go_simp
                  first | exact rfl | exact ⟨rfl, hw'⟩
                simp only [Act.put, List.setIfInBounds_toArray, List.set_cons_succ, List.set_cons_zero]
                apply wpK_val
                · rfl
                · intro w' hw'
                  go_simp
                  first | exact rfl | exact ⟨rfl, hw'⟩
                simp only [Act.put, List.setIfInBounds_toArray, List.set_cons_succ, List.set_cons_zero]
                apply wpK_val
                · rfl
                · intro w' hw'
                  go_simp
                  first | exact rfl | exact ⟨rfl, hw'⟩
                simp only [Act.put, List.setIfInBounds_toArray, List.set_cons_succ, List.set_cons_zero]
                apply wpK_val
                · rfl
                · intro w' hw'
                  have hcell := hw'.cell D4.out
                  go_simp
                  first | exact rfl | exact ⟨rfl, hw'⟩
                simp only [Act.put, List.setIfInBounds_toArray, List.set_cons_succ, List.set_cons_zero]
                apply wpK_val
                · rfl
                · intro w' hw'
                  go_simp
                  first | exact rfl | exact ⟨rfl, hw'⟩
                simp only [Act.put, List.setIfInBounds_toArray, List.set_cons_succ, List.set_cons_zero]
                apply wpK_val
                · rfl
                · intro w' hw'
                  go_simp
                  first | exact rfl | exact ⟨rfl, hw'⟩
                simp only [Act.put, List.setIfInBounds_toArray, List.set_cons_succ, List.set_cons_zero]
                apply wpK_val
                · rfl
                · intro w' hw'
                  have h1 : _ := EM.out
                  go_simp
                  first | exact rfl | exact ⟨rfl, hw'⟩
                simp only [Act.put, List.setIfInBounds_toArray, List.set_cons_succ, List.set_cons_zero]
                apply wpK_val
                · rfl
                · intro w' hw'
                  go_simp
                  first | exact rfl | exact ⟨rfl, hw'⟩
                simp only [Act.put, List.setIfInBounds_toArray, List.set_cons_succ, List.set_cons_zero]
                apply wpK_val
                · rfl
                · intro w' hw'
                  have hcell := hw'.cell DF.out
                  go_simp
                  first | exact rfl | exact ⟨rfl, hw'⟩
                simp only [Act.put, List.setIfInBounds_toArray, List.set_cons_succ, List.set_cons_zero]
                apply wpK_val
                · rfl
                · intro w' hw'
                  go_simp
                  first | exact rfl | exact ⟨rfl, hw'⟩
                simp only [Act.put, List.setIfInBounds_toArray, List.set_cons_succ, List.set_cons_zero]
                apply wpK_val
                · rfl
                · intro w' hw'
                  go_simp
                  first | exact rfl | exact ⟨rfl, hw'⟩
                simp only [Act.put, List.setIfInBounds_toArray, List.set_cons_succ, List.set_cons_zero]
                apply wpK_val
                · rfl
                · intro w' hw'
                  have hcell := hw'.cell DG.out
                  go_simp
                  first | exact rfl | exact ⟨rfl, hw'⟩
                simp only [Act.put, List.setIfInBounds_toArray, List.set_cons_succ, List.set_cons_zero]
                apply wpK_val
                · rfl
                · intro w' hw'
                  have h1 : _ := X.out
                  go_simp
                  first | exact rfl | exact ⟨rfl, hw'⟩
                simp only [Act.put, List.setIfInBounds_toArray, List.set_cons_succ, List.set_cons_zero]
                apply wpK_val
                · rfl
                · intro w' hw'
                  go_simp
                  first | exact rfl | exact ⟨rfl, hw'⟩
                simp only [Act.put, List.setIfInBounds_toArray, List.set_cons_succ, List.set_cons_zero]
                refine wpK_nil fun w7 hw7 => ?_
                have z4 := hid (hw7.blk y4.out)
                have zb := hid (hw7.below yb.out)
                have zl := hid (show gt < w7.heap.size by rw [hw7.heap]; exact yl.out)
                have c4 := (z4.out.cell j).trans (get_ar hlj)
                have f4 := z4.out.frozen j
                clear y4 yb yl hw7 D4 DF DG X
                go_wp2_with fail
                go_roundw
                case rel => exact ⟨j + 1, by omega, by go_num, hid (upTo_step (z4.out.setCell_same j _)), hid (zb.out.setCell hgt _), hid (by simpa using zl.out)⟩
                case measure => simp [intOf]; omega
              · have tj : decide ((j : Int) < 4) = false := by simp; omega
                have z4 := y4.out
                rw [upTo_all (by omega), ar_ext (g := AesM.wd AesM.boxF k n) fun i hi => by rw [AesM.wd_next _ k h8n hi, ← HM.out, ← HL.out]; show _ = AesM.subW _ _ _ _ ^^^ _; rw [HTE.out i hi]] at z4
                have Z4 := hid z4
                have d0 := hid (b0.out.below yb.out hkl)
                have db := hid (hb.out.trans (yb.out.mono hb.out.size))
                obtain ⟨cs, s1, s2, s3⟩ := hs.out.below yb.out
                have S1 := hid s1
                have S2 := hid s2
                have S3 := hid s3
                have hkl2 := d0.out.lt
                clear b0 hs hb s1 s2 s3 z4 y4 yb yl FM FB
                go_wp2_with (at_builtin; (with_reducible apply wappP); rfl; rfl; exact S1.out.alloc _; exact Blk.top rfl rfl; (rw [S2.out]; omega); (simp; omega); intro v9 w9 o9 g9)
                have d0' := d0.out.alloc (.cells #[.slice (some ⟨gt, 0, none⟩) 4 4] 55)
                have dbl := db.out.alloc db.out.size (.cells #[.slice (some ⟨gt, 0, none⟩) 4 4] 55)
                go_roundw
                case rel =>
                  refine ⟨n + 1, AesM.rm q 2, v9, by omega, by omega, by go_num, rfl, rfl, HQ2.out, hid (d0'.apart g9 fun e => by have := S1.out.ownGe e; omega), hid (WS.snoc (S1.out.alloc _) S2.out (fun i hi => by obtain ⟨G, q1, q2⟩ := S3.out i hi; exact ⟨G, q1, q2.alloc _⟩) (Z4.out.alloc _) o9 g9), hid (below_grownP dbl g9 (S1.out.alloc _) (by omega) dbl.size)⟩
                case measure => simp [intOf] <;> omega
          · have t0 : ((n : Int).tmod 8 == 0) = false := by rw [beq_eq_false_iff_ne, Int.tmod_eq_emod_of_nonneg (by omega)]; omega
            have t1 : ((n : Int) % 8 == 0) = false := by rw [beq_eq_false_iff_ne]; omega
            by_cases c4 : n % 8 = 4
            · have t2 : ((n : Int) % 8 == 4) = true := by rw [beq_iff_eq]; omega
              go_upto_region 16 with fail
              refine wp_region_tail (C := Drew w6) 24 (by kernel_rfl) (by kernel_rfl) (by kernel_rfl) (Drew.refl _) ?_
              simp only [List.take_succ_cons, List.take_zero, List.drop_succ_cons, List.drop_zero]
              apply wpK_val
              · rfl
              · intro w' hw'
                go_simp
                first | exact rfl | exact ⟨rfl, hw'⟩
              simp only [Act.put, List.setIfInBounds_toArray, List.set_cons_succ, List.set_cons_zero]
              apply wpK_val
              · rfl
              · intro w' hw'
                go_simp
                first | exact rfl | exact ⟨rfl, hw'⟩
              simp only [Act.put, List.setIfInBounds_toArray, List.set_cons_succ, List.set_cons_zero]
              apply wpK_val
              · rfl
              · intro w' hw'
                go_simp
                first | exact rfl | exact ⟨rfl, hw'⟩
              simp only [Act.put, List.setIfInBounds_toArray, List.set_cons_succ, List.set_cons_zero]
              apply wpK_val
              · rfl
              · intro w' hw'
                have hcell := hw'.cell N0.out
                go_simp
                first | exact rfl | exact ⟨rfl, hw'⟩
              simp only [Act.put, List.setIfInBounds_toArray, List.set_cons_succ, List.set_cons_zero]
              apply wpK_val
              · rfl
              · intro w' hw'
                have h1 : _ := TL0.out
                go_simp
                first | exact rfl | exact ⟨rfl, hw'⟩
              simp only [Act.put, List.setIfInBounds_toArray, List.set_cons_succ, List.set_cons_zero]
              apply wpK_val
              · rfl
              · intro w' hw'
                have hcell := (hw'.cell ((x6.out.cell (p := ⟨gb, ob + AesM.wd AesM.boxF k l 0, none⟩) hg).trans (HR.out _ (HN.out 0))))
                go_simp
                first | exact rfl | exact ⟨rfl, hw'⟩
              simp only [Act.put, List.setIfInBounds_toArray, List.set_cons_succ, List.set_cons_zero]
              apply wpK_val
              · rfl
              · intro w' hw'
                go_simp
                first | exact rfl | exact ⟨rfl, hw'⟩
              simp only [Act.put, List.setIfInBounds_toArray, List.set_cons_succ, List.set_cons_zero]
              apply wpK_val
              · rfl
              · intro w' hw'
                go_simp
                first | exact rfl | exact ⟨rfl, hw'⟩
              simp only [Act.put, List.setIfInBounds_toArray, List.set_cons_succ, List.set_cons_zero]
              apply wpK_val
              · rfl
              · intro w' hw'
                go_simp
                first | exact rfl | exact ⟨rfl, hw'⟩
              simp only [Act.put, List.setIfInBounds_toArray, List.set_cons_succ, List.set_cons_zero]
              apply wpK_val
              · rfl
              · intro w' hw'
                have hcell := hw'.cell N1.out
                go_simp
                first | exact rfl | exact ⟨rfl, hw'⟩
              simp only [Act.put, List.setIfInBounds_toArray, List.set_cons_succ, List.set_cons_zero]
              apply wpK_val
              · rfl
              · intro w' hw'
                have h1 : _ := TL1.out
                go_simp
                first | exact rfl | exact ⟨rfl, hw'⟩
              simp only [Act.put, List.setIfInBounds_toArray, List.set_cons_succ, List.set_cons_zero]
              apply wpK_val
              · rfl
              · intro w' hw'
                have hcell := (hw'.cell ((x6.out.cell (p := ⟨gb, ob + AesM.wd AesM.boxF k l 1, none⟩) hg).trans (HR.out _ (HN.out 1))))
                go_simp
                first | exact rfl | exact ⟨rfl, hw'⟩
              simp only [Act.put, List.setIfInBounds_toArray, List.set_cons_succ, List.set_cons_zero]
              apply wpK_val
              · rfl
              · intro w' hw'
                go_simp
                first | exact rfl | exact ⟨rfl, hw'⟩
              simp only [Act.put, List.setIfInBounds_toArray, List.set_cons_succ, List.set_cons_zero]
              apply wpK_val
              · rfl
              · intro w' hw'
                go_simp
                first | exact rfl | exact ⟨rfl, hw'⟩
              simp only [Act.put, List.setIfInBounds_toArray, List.set_cons_succ, List.set_cons_zero]
              apply wpK_val
              · rfl
              · intro w' hw'
                go_simp
                first | exact rfl | exact ⟨rfl, hw'⟩
              simp only [Act.put, List.setIfInBounds_toArray, List.set_cons_succ, List.set_cons_zero]
              apply wpK_val
              · rfl
              · intro w' hw'
                have hcell := hw'.cell N2.out
                go_simp
                first | exact rfl | exact ⟨rfl, hw'⟩
              simp only [Act.put, List.setIfInBounds_toArray, List.set_cons_succ, List.set_cons_zero]
              apply wpK_val
              · rfl
              · intro w' hw'
                have h1 : _ := TL2.out
                go_simp
                first | exact rfl | exact ⟨rfl, hw'⟩
              simp only [Act.put, List.setIfInBounds_toArray, List.set_cons_succ, List.set_cons_zero]
              apply wpK_val
              · rfl
              · intro w' hw'
                have hcell := (hw'.cell ((x6.out.cell (p := ⟨gb, ob + AesM.wd AesM.boxF k l 2, none⟩) hg).trans (HR.out _ (HN.out 2))))
                go_simp
                first | exact rfl | exact ⟨rfl, hw'⟩
              simp only [Act.put, List.setIfInBounds_toArray, List.set_cons_succ, List.set_cons_zero]
              apply wpK_val
              · rfl
              · intro w' hw'
                go_simp
                first | exact rfl | exact ⟨rfl, hw'⟩
              simp only [Act.put, List.setIfInBounds_toArray, List.set_cons_succ, List.set_cons_zero]
              apply wpK_val
              · rfl
              · intro w' hw'
                go_simp
                first | exact rfl | exact ⟨rfl, hw'⟩
              simp only [Act.put, List.setIfInBounds_toArray, List.set_cons_succ, List.set_cons_zero]
              apply wpK_val
              · rfl
              · intro w' hw'
                go_simp
                first | exact rfl | exact ⟨rfl, hw'⟩
              simp only [Act.put, List.setIfInBounds_toArray, List.set_cons_succ, List.set_cons_zero]
              apply wpK_val
              · rfl
              · intro w' hw'
                have hcell := hw'.cell N3.out
                go_simp
                first | exact rfl | exact ⟨rfl, hw'⟩
              simp only [Act.put, List.setIfInBounds_toArray, List.set_cons_succ, List.set_cons_zero]
              apply wpK_val
              · rfl
              · intro w' hw'
                have h1 : _ := TL3.out
                go_simp
                first | exact rfl | exact ⟨rfl, hw'⟩
              simp only [Act.put, List.setIfInBounds_toArray, List.set_cons_succ, List.set_cons_zero]
              apply wpK_val
              · rfl
              · intro w' hw'
                have hcell := (hw'.cell ((x6.out.cell (p := ⟨gb, ob + AesM.wd AesM.boxF k l 3, none⟩) hg).trans (HR.out _ (HN.out 3))))
                go_simp
                first | exact rfl | exact ⟨rfl, hw'⟩
              simp only [Act.put, List.setIfInBounds_toArray, List.set_cons_succ, List.set_cons_zero]
              refine wpK_nil fun w7 hw7 => ?_
              have hh7 := hw7.heap
              have x7 := hid (hw7.below xr6.out)
              clear N0 N1 N2 N3 TL0 TL1 TL2 TL3 gt0 x6 xr6 FN6 hw7
              go_upto_region 17 with fail
              obtain ⟨gt, hgte⟩ : ∃ gt, gt = wr.heap.size + 1 := ⟨_, rfl⟩
              rw [← hgte]
              obtain ⟨t, ht⟩ : ∃ t : Nat → Nat, t = sel4 (AesM.boxF (AesM.wd AesM.boxF k l 0)) (AesM.boxF (AesM.wd AesM.boxF k l 1)) (AesM.boxF (AesM.wd AesM.boxF k l 2)) (AesM.boxF (AesM.wd AesM.boxF k l 3)) := ⟨_, rfl⟩
              have HTE := hid (show ∀ i, i < 4 → t i = AesM.subW AesM.boxF (AesM.wd AesM.boxF k l) n i from fun i hi => by
                rw [ht]
                unfold AesM.subW
                rw [if_neg c0, if_pos c4]
                match i, hi with
                | 0, _ | 1, _ | 2, _ | 3, _ => rfl)
              have HTB := hid (show Bt t from fun i => by
                rw [ht]
                exact sel4_lt (AesM.boxF_lt _) (AesM.boxF_lt _) (AesM.boxF_lt _) (AesM.boxF_lt _) i)
              generalize hw8 : World.alloc w7 _ = w8
              have y4 := hid (show Blk w8 gt 5 (ar 4 t) by rw [← hw8]; exact Blk.top ((lit4 _ _ _ _).trans (by rw [ht])) (by rw [hh7, hs6, hgte]))
              have yb := hid (show Below wr.heap.size wr w8 by rw [← hw8]; exact x7.out.alloc (by rw [hh7, hs6]; omega) _)
              have yl := hid (show gt < w8.heap.size by rw [← hw8, hgte]; simp [hh7, hs6])
              have hgt : wr.heap.size ≤ gt := by omega
              clear hw8 x7 hh7 hs6 ht hgte w7 w6
              have HQ2 := hid (show q = 2 ^ ((n + 1 + 7) / 8 - 1) by rw [HQ.out, show (n + 1 + 7) / 8 = (n + 7) / 8 by omega])
              go_wp2_with fail
              obtain ⟨wr0, hwr0⟩ : ∃ wr0, wr0 = wr := ⟨_, rfl⟩
              rw [← hwr0] at hs b0 hb FM FB hgv hgt yb hkl hzw
              clear hwr0
              go_loopw [11] (fun i wk => ∃ j : Nat, j ≤ 4 ∧ i = .int .i64 j ∧ Hid (Blk wk gt 5 (ar 4 (upTo j t fun i => t i ^^^ AesM.wd AesM.boxF k m i))) ∧ Hid (Below wr0.heap.size wr0 wk) ∧ Hid (gt < wk.heap.size)) (fun i => fun _ => 4 - (intOf i).toNat)
              case atStart => exact ⟨0, by omega, rfl, by rw [upTo_zero]; exact y4, yb, yl⟩
              case round =>
                clear y4 yb yl
                obtain ⟨j, hj, rfl, y4, yb, yl⟩ := hrel
                by_cases hlj : j < 4
                · have tj : (j : Int) < 4 := by omega
                  have D4 := hid ((y4.out.cell j).trans (get_ar hlj))
                  have DF := hid ((yb.out.cell (p := ⟨gv, m, none⟩) hgv).trans FM.out)
                  have DG := hid (((FB.out.below yb.out FB.out.lt).cell j).trans (get_ar hlj))
                  have X := hid (show bits .xor .u8 ((upTo j t (fun i => t i ^^^ AesM.wd AesM.boxF k m i) j : Nat) : Int) ((AesM.wd AesM.boxF k m j : Nat) : Int) = ((t j ^^^ AesM.wd AesM.boxF k m j : Nat) : Int) by rw [upTo_at]; exact u8_xor_nat _ _ (HTB.out j) (HFB.out j))
                  go_wp2_with fail
                  refine wp_region_tail (C := Drew wr) 16 (by kernel_rfl) (by kernel_rfl) (by kernel_rfl) (Drew.refl _) ?_
                  simp only [List.take_succ_cons, List.take_zero, List.drop_succ_cons, List.drop_zero]
                  apply wpK_val
                  · rfl
                  · intro w' hw'
                    go_simp
                    first | exact rfl | exact ⟨rfl, hw'⟩
                  simp only [Act.put, List.setIfInBounds_toArray, List.set_cons_succ, List.set_cons_zero]
                  apply wpK_val
                  · rfl
                  · intro w' hw'
                    go_simp
                    first | exact rfl | exact ⟨rfl, hw'⟩
                  simp only [Act.put, List.setIfInBounds_toArray, List.set_cons_succ, List.set_cons_zero]
                  apply wpK_val
                  · rfl
                  · intro w' hw'
                    go_simp
                    first | exact rfl | exact ⟨rfl, hw'⟩
                  simp only [Act.put, List.setIfInBounds_toArray, List.set_cons_succ, List.set_cons_zero]
                  apply wpK_val
                  · rfl
                  · intro w' hw'
                    go_simp
                    first | exact rfl | exact ⟨rfl, hw'⟩
                  simp only [Act.put, List.setIfInBounds_toArray, List.set_cons_succ, List.set_cons_zero]
                  apply wpK_val
                  · rfl
                  · intro w' hw'
                    go_simp
                    first | exact rfl | exact ⟨rfl, hw'⟩
                  simp only [Act.put, List.setIfInBounds_toArray, List.set_cons_succ, List.set_cons_zero]
                  apply wpK_val
                  · rfl
                  · intro w' hw'
                    have hcell := hw'.cell D4.out
                    go_simp
                    first | exact rfl | exact ⟨rfl, hw'⟩
                  simp only [Act.put, List.setIfInBounds_toArray, List.set_cons_succ, List.set_cons_zero]
                  apply wpK_val
                  · rfl
                  · intro w' hw'
                    go_simp
                    first | exact rfl | exact ⟨rfl, hw'⟩
                  simp only [Act.put, List.setIfInBounds_toArray, List.set_cons_succ, List.set_cons_zero]
                  apply wpK_val
                  · rfl
                  · intro w' hw'
                    go_simp
                    first | exact rfl | exact ⟨rfl, hw'⟩
                  simp only [Act.put, List.setIfInBounds_toArray, List.set_cons_succ, List.set_cons_zero]
                  apply wpK_val
                  · rfl
                  · intro w' hw'
                    have h1 : _ := EM.out
                    go_simp
                    first | exact rfl | exact ⟨rfl, hw'⟩
                  simp only [Act.put, List.setIfInBounds_toArray, List.set_cons_succ, List.set_cons_zero]
                  apply wpK_val
                  · rfl
                  · intro w' hw'
                    go_simp
                    first | exact rfl | exact ⟨rfl, hw'⟩
                  simp only [Act.put, List.setIfInBounds_toArray, List.set_cons_succ, List.set_cons_zero]
                  apply wpK_val
                  · rfl
                  · intro w' hw'
                    have hcell := hw'.cell DF.out
                    go_simp
                    first | exact rfl | exact ⟨rfl, hw'⟩
                  simp only [Act.put, List.setIfInBounds_toArray, List.set_cons_succ, List.set_cons_zero]
                  apply wpK_val
                  · rfl
                  · intro w' hw'
                    go_simp
                    first | exact rfl | exact ⟨rfl, hw'⟩
                  simp only [Act.put, List.setIfInBounds_toArray, List.set_cons_succ, List.set_cons_zero]
                  apply wpK_val
                  · rfl
                  · intro w' hw'
                    go_simp
                    first | exact rfl | exact ⟨rfl, hw'⟩
                  simp only [Act.put, List.setIfInBounds_toArray, List.set_cons_succ, List.set_cons_zero]
                  apply wpK_val
                  · rfl
                  · intro w' hw'
                    have hcell := hw'.cell DG.out
                    go_simp
                    first | exact rfl | exact ⟨rfl, hw'⟩
                  simp only [Act.put, List.setIfInBounds_toArray, List.set_cons_succ, List.set_cons_zero]
                  apply wpK_val
                  · rfl
                  · intro w' hw'
                    have h1 : _ := X.out
                    go_simp
                    first | exact rfl | exact ⟨rfl, hw'⟩
                  simp only [Act.put, List.setIfInBounds_toArray, List.set_cons_succ, List.set_cons_zero]
                  apply wpK_val
                  · rfl
                  · intro w' hw'
                    go_simp
                    first | exact rfl | exact ⟨rfl, hw'⟩
                  simp only [Act.put, List.setIfInBounds_toArray, List.set_cons_succ, List.set_cons_zero]
                  refine wpK_nil fun w7 hw7 => ?_
                  have z4 := hid (hw7.blk y4.out)
                  have zb := hid (hw7.below yb.out)
                  have zl := hid (show gt < w7.heap.size by rw [hw7.heap]; exact yl.out)
                  have c4 := (z4.out.cell j).trans (get_ar hlj)
                  have f4 := z4.out.frozen j
                  clear y4 yb yl hw7 D4 DF DG X
                  go_wp2_with fail
                  go_roundw
                  case rel => exact ⟨j + 1, by omega, by go_num, hid (upTo_step (z4.out.setCell_same j _)), hid (zb.out.setCell hgt _), hid (by simpa using zl.out)⟩
                  case measure => simp [intOf]; omega
                · have tj : decide ((j : Int) < 4) = false := by simp; omega
                  have z4 := y4.out
                  rw [upTo_all (by omega), ar_ext (g := AesM.wd AesM.boxF k n) fun i hi => by rw [AesM.wd_next _ k h8n hi, ← HM.out, ← HL.out]; show _ = AesM.subW _ _ _ _ ^^^ _; rw [HTE.out i hi]] at z4
                  have Z4 := hid z4
                  have d0 := hid (b0.out.below yb.out hkl)
                  have db := hid (hb.out.trans (yb.out.mono hb.out.size))
                  obtain ⟨cs, s1, s2, s3⟩ := hs.out.below yb.out
                  have S1 := hid s1
                  have S2 := hid s2
                  have S3 := hid s3
                  have hkl2 := d0.out.lt
                  clear b0 hs hb s1 s2 s3 z4 y4 yb yl FM FB
                  go_wp2_with (at_builtin; (with_reducible apply wappP); rfl; rfl; exact S1.out.alloc _; exact Blk.top rfl rfl; (rw [S2.out]; omega); (simp; omega); intro v9 w9 o9 g9)
                  have d0' := d0.out.alloc (.cells #[.slice (some ⟨gt, 0, none⟩) 4 4] 55)
                  have dbl := db.out.alloc db.out.size (.cells #[.slice (some ⟨gt, 0, none⟩) 4 4] 55)
                  go_roundw
                  case rel =>
                    refine ⟨n + 1, q, v9, by omega, by omega, by go_num, rfl, rfl, HQ2.out, hid (d0'.apart g9 fun e => by have := S1.out.ownGe e; omega), hid (WS.snoc (S1.out.alloc _) S2.out (fun i hi => by obtain ⟨G, q1, q2⟩ := S3.out i hi; exact ⟨G, q1, q2.alloc _⟩) (Z4.out.alloc _) o9 g9), hid (below_grownP dbl g9 (S1.out.alloc _) (by omega) dbl.size)⟩
                  case measure => simp [intOf] <;> omega
            · have t2 : ((n : Int) % 8 == 4) = false := by rw [beq_eq_false_iff_ne]; omega
              have HTE := hid (show ∀ i, i < 4 → AesM.wd AesM.boxF k l i = AesM.subW AesM.boxF (AesM.wd AesM.boxF k l) n i from fun i hi => by
                unfold AesM.subW
                rw [if_neg c0, if_neg c4])
              have HTB := HN
              obtain ⟨gt, hgte⟩ : ∃ gt, gt = wr.heap.size := ⟨_, rfl⟩
              have hgt : wr.heap.size ≤ gt := by omega
              have y4 := gt0
              rw [← hgte] at y4
              have yb := xr6
              have yl := hid (show gt < w6.heap.size by omega)
              rw [← hgte]
              clear gt0 xr6 x6 FN6 hs6 hgte N0 N1 N2 N3 TL0 TL1 TL2 TL3
              have HQ2 := hid (show q = 2 ^ ((n + 1 + 7) / 8 - 1) by rw [HQ.out, show (n + 1 + 7) / 8 = (n + 7) / 8 by omega])
              go_wp2_with fail
              obtain ⟨wr0, hwr0⟩ : ∃ wr0, wr0 = wr := ⟨_, rfl⟩
              rw [← hwr0] at hs b0 hb FM FB hgv hgt yb hkl hzw
              clear hwr0
              go_loopw [11] (fun i wk => ∃ j : Nat, j ≤ 4 ∧ i = .int .i64 j ∧ Hid (Blk wk gt 5 (ar 4 (upTo j (AesM.wd AesM.boxF k l) fun i => (AesM.wd AesM.boxF k l) i ^^^ AesM.wd AesM.boxF k m i))) ∧ Hid (Below wr0.heap.size wr0 wk) ∧ Hid (gt < wk.heap.size)) (fun i => fun _ => 4 - (intOf i).toNat)
              case atStart => exact ⟨0, by omega, rfl, by rw [upTo_zero]; exact y4, yb, yl⟩
              case round =>
                clear y4 yb yl
                obtain ⟨j, hj, rfl, y4, yb, yl⟩ := hrel
                by_cases hlj : j < 4
                · have tj : (j : Int) < 4 := by omega
                  have D4 := hid ((y4.out.cell j).trans (get_ar hlj))
                  have DF := hid ((yb.out.cell (p := ⟨gv, m, none⟩) hgv).trans FM.out)
                  have DG := hid (((FB.out.below yb.out FB.out.lt).cell j).trans (get_ar hlj))
                  have X := hid (show bits .xor .u8 ((upTo j (AesM.wd AesM.boxF k l) (fun i => (AesM.wd AesM.boxF k l) i ^^^ AesM.wd AesM.boxF k m i) j : Nat) : Int) ((AesM.wd AesM.boxF k m j : Nat) : Int) = (((AesM.wd AesM.boxF k l) j ^^^ AesM.wd AesM.boxF k m j : Nat) : Int) by rw [upTo_at]; exact u8_xor_nat _ _ (HTB.out j) (HFB.out j))
                  go_wp2_with fail
                  refine wp_region_tail (C := Drew wr) 16 (by kernel_rfl) (by kernel_rfl) (by kernel_rfl) (Drew.refl _) ?_
                  simp only [List.take_succ_cons, List.take_zero, List.drop_succ_cons, List.drop_zero]
                  apply wpK_val
                  · rfl
                  · intro w' hw'
                    go_simp
                    first | exact rfl | exact ⟨rfl, hw'⟩
                  simp only [Act.put, List.setIfInBounds_toArray, List.set_cons_succ, List.set_cons_zero]
                  apply wpK_val
                  · rfl
                  · intro w' hw'
                    go_simp
                    first | exact rfl | exact ⟨rfl, hw'⟩
                  simp only [Act.put, List.setIfInBounds_toArray, List.set_cons_succ, List.set_cons_zero]
                  apply wpK_val
                  · rfl
                  · intro w' hw'
                    go_simp
                    first | exact rfl | exact ⟨rfl, hw'⟩
                  simp only [Act.put, List.setIfInBounds_toArray, List.set_cons_succ, List.set_cons_zero]
                  apply wpK_val
                  · rfl
                  · intro w' hw'
                    go_simp
                    first | exact rfl | exact ⟨rfl, hw'⟩
                  simp only [Act.put, List.setIfInBounds_toArray, List.set_cons_succ, List.set_cons_zero]
                  apply wpK_val
                  · rfl
                  · intro w' hw'
                    go_simp
                    first | exact rfl | exact ⟨rfl, hw'⟩
                  simp only [Act.put, List.setIfInBounds_toArray, List.set_cons_succ, List.set_cons_zero]
                  apply wpK_val
                  · rfl
                  · intro w' hw'
                    have hcell := hw'.cell D4.out
                    go_simp
                    first | exact rfl | exact ⟨rfl, hw'⟩
                  simp only [Act.put, List.setIfInBounds_toArray, List.set_cons_succ, List.set_cons_zero]
                  apply wpK_val
                  · rfl
                  · intro w' hw'
                    go_simp
                    first | exact rfl | exact ⟨rfl, hw'⟩
                  simp only [Act.put, List.setIfInBounds_toArray, List.set_cons_succ, List.set_cons_zero]
                  apply wpK_val
                  · rfl
                  · intro w' hw'
                    go_simp
                    first | exact rfl | exact ⟨rfl, hw'⟩
                  simp only [Act.put, List.setIfInBounds_toArray, List.set_cons_succ, List.set_cons_zero]
                  apply wpK_val
                  · rfl
                  · intro w' hw'
                    have h1 : _ := EM.out
                    go_simp
                    first | exact rfl | exact ⟨rfl, hw'⟩
                  simp only [Act.put, List.setIfInBounds_toArray, List.set_cons_succ, List.set_cons_zero]
                  apply wpK_val
                  · rfl
                  · intro w' hw'
                    go_simp
                    first | exact rfl | exact ⟨rfl, hw'⟩
                  simp only [Act.put, List.setIfInBounds_toArray, List.set_cons_succ, List.set_cons_zero]
                  apply wpK_val
                  · rfl
                  · intro w' hw'
                    have hcell := hw'.cell DF.out
                    go_simp
                    first | exact rfl | exact ⟨rfl, hw'⟩
                  simp only [Act.put, List.setIfInBounds_toArray, List.set_cons_succ, List.set_cons_zero]
                  apply wpK_val
                  · rfl
                  · intro w' hw'
                    go_simp
                    first | exact rfl | exact ⟨rfl, hw'⟩
                  simp only [Act.put, List.setIfInBounds_toArray, List.set_cons_succ, List.set_cons_zero]
                  apply wpK_val
                  · rfl
                  · intro w' hw'
                    go_simp
                    first | exact rfl | exact ⟨rfl, hw'⟩
                  simp only [Act.put, List.setIfInBounds_toArray, List.set_cons_succ, List.set_cons_zero]
                  apply wpK_val
                  · rfl
                  · intro w' hw'
                    have hcell := hw'.cell DG.out
                    go_simp
                    first | exact rfl | exact ⟨rfl, hw'⟩
                  simp only [Act.put, List.setIfInBounds_toArray, List.set_cons_succ, List.set_cons_zero]
                  apply wpK_val
                  · rfl
                  · intro w' hw'
                    have h1 : _ := X.out
                    go_simp
                    first | exact rfl | exact ⟨rfl, hw'⟩
                  simp only [Act.put, List.setIfInBounds_toArray, List.set_cons_succ, List.set_cons_zero]
                  apply wpK_val
                  · rfl
                  · intro w' hw'
                    go_simp
                    first | exact rfl | exact ⟨rfl, hw'⟩
                  simp only [Act.put, List.setIfInBounds_toArray, List.set_cons_succ, List.set_cons_zero]
                  refine wpK_nil fun w7 hw7 => ?_
                  have z4 := hid (hw7.blk y4.out)
                  have zb := hid (hw7.below yb.out)
                  have zl := hid (show gt < w7.heap.size by rw [hw7.heap]; exact yl.out)
                  have c4 := (z4.out.cell j).trans (get_ar hlj)
                  have f4 := z4.out.frozen j
                  clear y4 yb yl hw7 D4 DF DG X
                  go_wp2_with fail
                  go_roundw
                  case rel => exact ⟨j + 1, by omega, by go_num, hid (upTo_step (z4.out.setCell_same j _)), hid (zb.out.setCell hgt _), hid (by simpa using zl.out)⟩
                  case measure => simp [intOf]; omega
                · have tj : decide ((j : Int) < 4) = false := by simp; omega
                  have z4 := y4.out
                  rw [upTo_all (by omega), ar_ext (g := AesM.wd AesM.boxF k n) fun i hi => by rw [AesM.wd_next _ k h8n hi, ← HM.out, ← HL.out]; show _ = AesM.subW _ _ _ _ ^^^ _; rw [HTE.out i hi]] at z4
                  have Z4 := hid z4
                  have d0 := hid (b0.out.below yb.out hkl)
                  have db := hid (hb.out.trans (yb.out.mono hb.out.size))
                  obtain ⟨cs, s1, s2, s3⟩ := hs.out.below yb.out
                  have S1 := hid s1
                  have S2 := hid s2
                  have S3 := hid s3
                  have hkl2 := d0.out.lt
                  clear b0 hs hb s1 s2 s3 z4 y4 yb yl FM FB
                  go_wp2_with (at_builtin; (with_reducible apply wappP); rfl; rfl; exact S1.out.alloc _; exact Blk.top rfl rfl; (rw [S2.out]; omega); (simp; omega); intro v9 w9 o9 g9)
                  have d0' := d0.out.alloc (.cells #[.slice (some ⟨gt, 0, none⟩) 4 4] 55)
                  have dbl := db.out.alloc db.out.size (.cells #[.slice (some ⟨gt, 0, none⟩) 4 4] 55)
                  go_roundw
                  case rel =>
                    refine ⟨n + 1, q, v9, by omega, by omega, by go_num, rfl, rfl, HQ2.out, hid (d0'.apart g9 fun e => by have := S1.out.ownGe e; omega), hid (WS.snoc (S1.out.alloc _) S2.out (fun i hi => by obtain ⟨G, q1, q2⟩ := S3.out i hi; exact ⟨G, q1, q2.alloc _⟩) (Z4.out.alloc _) o9 g9), hid (below_grownP dbl g9 (S1.out.alloc _) (by omega) dbl.size)⟩
                  case measure => simp [intOf] <;> omega
        · obtain rfl : n = 60 := by omega
          go_wp2_with fail
          go_ret
          exact ⟨_, rfl, hs.out, hb.out⟩
end AesP
end Go.Proofs.Ytodjfliakhhjaaa
