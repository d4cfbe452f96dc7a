/-
  Contract of the document's message's numbers (casemateref03.Message) over this translation.
-/
import Derived.Test.YtfgmgfniolmpkaaDoorRefSha4
import Derived.Laws.BitsAllLaws
namespace Go.Proofs.YtfgmgfniolmpkaaDoor
open Go.ChangeShapes Go.WideShapes Go.ChangeAt Go.RowKit
attribute [local go_sem] Gives
theorem add_wrap (a b : Nat) : IntKind.u32.wrap ((a : Int) + (b : Int)) = ((ShaM.add a b : Nat) : Int) := by
  rw [IntKind.wrap_u32]; unfold ShaM.add; simp
theorem w32_nat {x : Int} {y : Nat} (h : x = y) (hy : y < 4294967296) : IntKind.u32.wrap x = (y : Int) := by rw [h]; exact IntWalk.u32_in _ (by omega)
theorem xor3 {a b : Nat} (ha : a < 4294967296) (hb : b < 4294967296) : bits .xor .u32 (a : Int) (b : Int) = ((a ^^^ b : Nat) : Int) := u32_xor_nat _ _ ha hb
/-- The bytes of one number. -/
theorem word_sum (b : Nat → Nat) (i : Nat) : ShaM.word b i = b (4 * i) * 16777216 + b (4 * i + 1) * 65536 + b (4 * i + 2) * 256 + b (4 * i + 3) := by
  unfold ShaM.word; omega
theorem first_take (b : Nat → Nat) {i : Nat} (h : i < 16) : (ShaM.first b).take (i + 1) = (ShaM.first b).take i ++ [ShaM.word b i] := by
  have hl : i < (ShaM.first b).length := by rw [ShaM.first_length]; exact h
  rw [List.take_succ_eq_append_getElem hl, ← nums_at hl, ShaM.first_get b h]
theorem ext_take (b : Nat → Nat) (k : Nat) : ShaM.ext (k + 1) (ShaM.first b) = ShaM.ext k (ShaM.first b) ++ [ShaM.next (ShaM.ext k (ShaM.first b)) (16 + k)] := by
  rw [ShaM.ext_succ, ShaM.ext_length, ShaM.first_length]
/-- The worlds of a region in which one new row is made. -/
def Put (w : World) (o : Obj) (bb : Bool) (w' : World) : Prop := match bb with
  | false => Drew w w'
  | true => ∃ w7, Drew w w7 ∧ w' = w7.alloc o
theorem nums_one' {k : IntKind} {w : World} {t : TypeId} {n x : Nat} {v : Value} (h : v = .int k (x : Nat)) {B : Nat} (hn : n = w.heap.size) (hB : w.heap.size < B) : Nums k (w.alloc (.cells #[v] t)) B (some ⟨n, 0, none⟩) [x] := by
  subst hn; exact nums_one h hB
theorem Put.cell {w w' : World} {o : Obj} {bb : Bool} (h : Put w o bb w') {p : Addr} {v : Value} (hp : p.block < w.heap.size) (hc : w.cell? p = some v) : w'.cell? p = some v := by
  cases bb with
  | false => exact Drew.cell h hc
  | true =>
    obtain ⟨w7, h7, rfl⟩ := h
    exact (((Below.refl w7.heap.size w7).alloc (Nat.le_refl _) _).cell (by rw [h7.heap]; exact hp)).trans (h7.cell hc)
theorem rcut3 (x : Nat) (hx : x < 4294967296) (w : World) :
    Calls Tryd.prog 47 #[.int .u32 x, .int .i64 3] w fun e w' => e = .returned (.int .u32 (x / 8 : Nat)) ∧ w = w' := rcut_any x 3 hx (by omega) w
theorem rcut10 (x : Nat) (hx : x < 4294967296) (w : World) :
    Calls Tryd.prog 47 #[.int .u32 x, .int .i64 10] w fun e w' => e = .returned (.int .u32 (x / 1024 : Nat)) ∧ w = w' := rcut_any x 10 hx (by omega) w
theorem Drew.trans {w w' w'' : World} (h : Drew w w') (h2 : Drew w' w'') : Drew w w'' := by
  obtain ⟨a, ha⟩ := h
  obtain ⟨b, hb⟩ := h2
  exact ⟨a + b, by rw [hb, ha]; simp⟩
set_option maxHeartbeats 1000000 in
set_option maxRecDepth 100000 in
theorem message_any (A : Option Addr) (l : List Nat) (cap : Nat) (hl : l.length = 64) (h256 : ∀ k, ShaM.at' l k < 256) (w : World) (hA : Byt w w.heap.size A l) :
    Calls Tryd.prog 39 #[.slice A 64 cap] w fun e w' => Fresh .u32 w w' e (ShaM.sched (ShaM.at' l)) := by
  obtain ⟨b, o, rfl, hB, hr⟩ := hA (by omega)
  rw [hl] at hr
  have HR := hid hr
  have HB := hid h256
  clear hA hr h256
  go_enter Tryd.func39, Tryd.ntmps39
  go_wp2_with fail
  go_loopw [3, 4] (fun u v wr => ∃ (i : Nat) (vs : Value), i ≤ 16 ∧ v = .int .i64 i ∧ u = vs ∧ Hid (Own 46 .u32 wr w.heap.size vs ((ShaM.first (ShaM.at' l)).take i)) ∧ Hid (Below w.heap.size w wr)) (fun _ v _ => 16 - (intOf v).toNat)
  case atStart => exact ⟨0, _, by omega, rfl, rfl, hid Own.nil, hid (Below.refl _ _)⟩
  case round =>
    obtain ⟨i, vs, hi, rfl, rfl, ho, hb⟩ := hrel
    have hsz := hb.out.size
    by_cases hlt : i < 16
    · have ti : (i : Int) < 16 := by omega
      obtain ⟨c0, hc0⟩ : ∃ c, c = 4 * i := ⟨_, rfl⟩
      obtain ⟨c1, hc1⟩ : ∃ c, c = 4 * i + 1 := ⟨_, rfl⟩
      obtain ⟨c2, hc2⟩ : ∃ c, c = 4 * i + 2 := ⟨_, rfl⟩
      obtain ⟨c3, hc3⟩ : ∃ c, c = 4 * i + 3 := ⟨_, rfl⟩
      have E0 := hid (show IntKind.i64.wrap (4 * (i : Int)) = (c0 : Int) from wr_nat (by omega) (by omega))
      have E1 := hid (show IntKind.i64.wrap ((c0 : Int) + 1) = (c1 : Int) from wr_nat (by omega) (by omega))
      have E2 := hid (show IntKind.i64.wrap ((c0 : Int) + 2) = (c2 : Int) from wr_nat (by omega) (by omega))
      have E3 := hid (show IntKind.i64.wrap ((c0 : Int) + 3) = (c3 : Int) from wr_nat (by omega) (by omega))
      have t0 : (c0 : Int) < 64 := by omega
      have t1 : (c1 : Int) < 64 := by omega
      have t2 : (c2 : Int) < 64 := by omega
      have t3 : (c3 : Int) < 64 := by omega
      have cell : ∀ c, c < 64 → wr.cell? ⟨b, o + c, none⟩ = some (.int .u8 (ShaM.at' l c : Nat)) := fun c hc => (hb.out.cell (p := ⟨b, o + c, none⟩) hB).trans (HR.out c hc)
      have Q0 := hid (cell c0 (by omega))
      have Q1 := hid (cell c1 (by omega))
      have Q2 := hid (cell c2 (by omega))
      have Q3 := hid (cell c3 (by omega))
      have l0 := HB.out c0
      have l1 := HB.out c1
      have l2 := HB.out c2
      have l3 := HB.out c3
      have hw := word_sum (ShaM.at' l) i
      rw [← hc1, ← hc2, ← hc3, ← hc0] at hw
      generalize ShaM.at' l c0 = b0 at *
      generalize ShaM.at' l c1 = b1 at *
      generalize ShaM.at' l c2 = b2 at *
      generalize ShaM.at' l c3 = b3 at *
      have HFT := hid (first_take (ShaM.at' l) hlt)
      obtain ⟨W, hW⟩ : ∃ W, W = ShaM.word (ShaM.at' l) i := ⟨_, rfl⟩
      rw [← hW] at HFT hw
      have HW := hid hw
      clear hW
      clear hc0 hc1 hc2 hc3 cell hw
      go_wp2_with fail
      refine wp_region_tail (C := Drew wr) 33 (by kernel_rfl) (by kernel_rfl) (by kernel_rfl) (Drew.refl _) ?_
      simp only [List.take_succ_cons, List.take_zero, List.drop_succ_cons, List.drop_zero]
      apply wpK_val
      · rfl
      · intro w' hw'
        go_simp
        first | exact rfl | exact ⟨rfl, hw'⟩
      simp only [Act.put, List.setIfInBounds_toArray, List.set_cons_succ, List.set_cons_zero]
      apply wpK_val
      · rfl
      · intro w' hw'
        go_simp
        first | exact rfl | exact ⟨rfl, hw'⟩
      simp only [Act.put, List.setIfInBounds_toArray, List.set_cons_succ, List.set_cons_zero]
      apply wpK_val
      · rfl
      · intro w' hw'
        have h1 : _ := E0.out
        go_simp
        first | exact rfl | exact ⟨rfl, hw'⟩
      simp only [Act.put, List.setIfInBounds_toArray, List.set_cons_succ, List.set_cons_zero]
      apply wpK_val
      · rfl
      · intro w' hw'
        go_simp
        first | exact rfl | exact ⟨rfl, hw'⟩
      simp only [Act.put, List.setIfInBounds_toArray, List.set_cons_succ, List.set_cons_zero]
      apply wpK_val
      · rfl
      · intro w' hw'
        have hcell := hw'.cell Q0.out
        go_simp
        first | exact rfl | exact ⟨rfl, hw'⟩
      simp only [Act.put, List.setIfInBounds_toArray, List.set_cons_succ, List.set_cons_zero]
      apply wpK_val
      · rfl
      · intro w' hw'
        go_simp
        first | exact rfl | exact ⟨rfl, hw'⟩
      simp only [Act.put, List.setIfInBounds_toArray, List.set_cons_succ, List.set_cons_zero]
      apply wpK_val
      · rfl
      · intro w' hw'
        go_simp
        first | exact rfl | exact ⟨rfl, hw'⟩
      simp only [Act.put, List.setIfInBounds_toArray, List.set_cons_succ, List.set_cons_zero]
      apply wpK_val
      · rfl
      · intro w' hw'
        go_simp
        first | exact rfl | exact ⟨rfl, hw'⟩
      simp only [Act.put, List.setIfInBounds_toArray, List.set_cons_succ, List.set_cons_zero]
      apply wpK_val
      · rfl
      · intro w' hw'
        go_simp
        first | exact rfl | exact ⟨rfl, hw'⟩
      simp only [Act.put, List.setIfInBounds_toArray, List.set_cons_succ, List.set_cons_zero]
      apply wpK_val
      · rfl
      · intro w' hw'
        have h1 : _ := E0.out
        go_simp
        first | exact rfl | exact ⟨rfl, hw'⟩
      simp only [Act.put, List.setIfInBounds_toArray, List.set_cons_succ, List.set_cons_zero]
      apply wpK_val
      · rfl
      · intro w' hw'
        have h1 : _ := E1.out
        go_simp
        first | exact rfl | exact ⟨rfl, hw'⟩
      simp only [Act.put, List.setIfInBounds_toArray, List.set_cons_succ, List.set_cons_zero]
      apply wpK_val
      · rfl
      · intro w' hw'
        go_simp
        first | exact rfl | exact ⟨rfl, hw'⟩
      simp only [Act.put, List.setIfInBounds_toArray, List.set_cons_succ, List.set_cons_zero]
      apply wpK_val
      · rfl
      · intro w' hw'
        have hcell := hw'.cell Q1.out
        go_simp
        first | exact rfl | exact ⟨rfl, hw'⟩
      simp only [Act.put, List.setIfInBounds_toArray, List.set_cons_succ, List.set_cons_zero]
      apply wpK_val
      · rfl
      · intro w' hw'
        go_simp
        first | exact rfl | exact ⟨rfl, hw'⟩
      simp only [Act.put, List.setIfInBounds_toArray, List.set_cons_succ, List.set_cons_zero]
      apply wpK_val
      · rfl
      · intro w' hw'
        go_simp
        first | exact rfl | exact ⟨rfl, hw'⟩
      simp only [Act.put, List.setIfInBounds_toArray, List.set_cons_succ, List.set_cons_zero]
      apply wpK_val
      · rfl
      · intro w' hw'
        go_simp
        first | exact rfl | exact ⟨rfl, hw'⟩
      simp only [Act.put, List.setIfInBounds_toArray, List.set_cons_succ, List.set_cons_zero]
      apply wpK_val
      · rfl
      · intro w' hw'
        go_simp
        first | exact rfl | exact ⟨rfl, hw'⟩
      simp only [Act.put, List.setIfInBounds_toArray, List.set_cons_succ, List.set_cons_zero]
      apply wpK_val
      · rfl
      · intro w' hw'
        go_simp
        first | exact rfl | exact ⟨rfl, hw'⟩
      simp only [Act.put, List.setIfInBounds_toArray, List.set_cons_succ, List.set_cons_zero]
      apply wpK_val
      · rfl
      · intro w' hw'
        have h1 : _ := E0.out
        go_simp
        first | exact rfl | exact ⟨rfl, hw'⟩
      simp only [Act.put, List.setIfInBounds_toArray, List.set_cons_succ, List.set_cons_zero]
      apply wpK_val
      · rfl
      · intro w' hw'
        have h1 : _ := E2.out
        go_simp
        first | exact rfl | exact ⟨rfl, hw'⟩
      simp only [Act.put, List.setIfInBounds_toArray, List.set_cons_succ, List.set_cons_zero]
      apply wpK_val
      · rfl
      · intro w' hw'
        go_simp
        first | exact rfl | exact ⟨rfl, hw'⟩
      simp only [Act.put, List.setIfInBounds_toArray, List.set_cons_succ, List.set_cons_zero]
      apply wpK_val
      · rfl
      · intro w' hw'
        have hcell := hw'.cell Q2.out
        go_simp
        first | exact rfl | exact ⟨rfl, hw'⟩
      simp only [Act.put, List.setIfInBounds_toArray, List.set_cons_succ, List.set_cons_zero]
      apply wpK_val
      · rfl
      · intro w' hw'
        go_simp
        first | exact rfl | exact ⟨rfl, hw'⟩
      simp only [Act.put, List.setIfInBounds_toArray, List.set_cons_succ, List.set_cons_zero]
      apply wpK_val
      · rfl
      · intro w' hw'
        go_simp
        first | exact rfl | exact ⟨rfl, hw'⟩
      simp only [Act.put, List.setIfInBounds_toArray, List.set_cons_succ, List.set_cons_zero]
      apply wpK_val
      · rfl
      · intro w' hw'
        go_simp
        first | exact rfl | exact ⟨rfl, hw'⟩
      simp only [Act.put, List.setIfInBounds_toArray, List.set_cons_succ, List.set_cons_zero]
      apply wpK_val
      · rfl
      · intro w' hw'
        go_simp
        first | exact rfl | exact ⟨rfl, hw'⟩
      simp only [Act.put, List.setIfInBounds_toArray, List.set_cons_succ, List.set_cons_zero]
      apply wpK_val
      · rfl
      · intro w' hw'
        go_simp
        first | exact rfl | exact ⟨rfl, hw'⟩
      simp only [Act.put, List.setIfInBounds_toArray, List.set_cons_succ, List.set_cons_zero]
      apply wpK_val
      · rfl
      · intro w' hw'
        have h1 : _ := E0.out
        go_simp
        first | exact rfl | exact ⟨rfl, hw'⟩
      simp only [Act.put, List.setIfInBounds_toArray, List.set_cons_succ, List.set_cons_zero]
      apply wpK_val
      · rfl
      · intro w' hw'
        have h1 : _ := E3.out
        go_simp
        first | exact rfl | exact ⟨rfl, hw'⟩
      simp only [Act.put, List.setIfInBounds_toArray, List.set_cons_succ, List.set_cons_zero]
      apply wpK_val
      · rfl
      · intro w' hw'
        go_simp
        first | exact rfl | exact ⟨rfl, hw'⟩
      simp only [Act.put, List.setIfInBounds_toArray, List.set_cons_succ, List.set_cons_zero]
      apply wpK_val
      · rfl
      · intro w' hw'
        have hcell := hw'.cell Q3.out
        go_simp
        first | exact rfl | exact ⟨rfl, hw'⟩
      simp only [Act.put, List.setIfInBounds_toArray, List.set_cons_succ, List.set_cons_zero]
      apply wpK_val
      · rfl
      · intro w' hw'
        go_simp
        first | exact rfl | exact ⟨rfl, hw'⟩
      simp only [Act.put, List.setIfInBounds_toArray, List.set_cons_succ, List.set_cons_zero]
      apply wpK_val
      · rfl
      · intro w' hw'
        go_simp
        first | exact rfl | exact ⟨rfl, hw'⟩
      simp only [Act.put, List.setIfInBounds_toArray, List.set_cons_succ, List.set_cons_zero]
      refine wpK_nil fun w5 hw5 => ?_
      have o5 := hid (ho.out.heap hw5.heap)
      have b5 := hid (hw5.below hb.out)
      have hsz5 := b5.out.size
      have hlen : ((ShaM.first (ShaM.at' l)).take i).length = i := by rw [List.length_take, ShaM.first_length]; omega
      have HLEN := hid hlen
      clear hw5 hlen Q0 Q1 Q2 Q3
      go_wp2_with (at_builtin; (with_reducible apply wappN elt32); rfl; rfl; exact o5.out.alloc _; exact nums_one (x := W) (B := w5.heap.size + 1) (congrArg (Value.int .u32) (by have := HW.out; omega)) (Nat.lt_succ_self _); rfl; (rw [HLEN.out]; omega); (simp; omega); intro v' w6 o6 g6)
      have b6 := below_grown (b5.out.alloc hsz5 _) g6 o5.out (Nat.le_refl _) (Nat.le_refl _)
      go_roundw
      case rel => exact ⟨i + 1, v', by omega, by go_num, rfl, hid (by rw [HFT.out]; exact o6), hid b6⟩
      case measure => simp [intOf] <;> omega
    · obtain rfl : i = 16 := by omega
      have ho16 := ho.out
      rw [List.take_of_length_le (by rw [ShaM.first_length]; omega)] at ho16
      have O16 := hid ho16
      clear ho16 ho
      obtain ⟨A2, c2, e2, _, _, _⟩ := O16.out.any
      rw [ShaM.first_length] at e2
      subst e2
      rw [show ((16 : Nat) : Int) = (16 : Int) from rfl]
      go_wp2_with fail
      go_loopw [3, 6] (fun u v wr => ∃ (N k : Nat) (A : Option Addr) (cap : Nat), N = 16 + k ∧ k ≤ 48 ∧ v = .int .i64 N ∧ u = .slice A N cap ∧ Hid (Own 46 .u32 wr w.heap.size u (ShaM.ext k (ShaM.first (ShaM.at' l)))) ∧ Hid (Below w.heap.size w wr)) (fun _ v _ => 64 - (intOf v).toNat)
      case atStart => exact ⟨16, 0, A2, c2, rfl, by omega, rfl, rfl, O16, hb⟩
      case round =>
        clear O16 hb hsz
        obtain ⟨N, k, A, cap, hN, hk, rfl, rfl, ho, hb⟩ := hrel
        have hsz := hb.out.size
        by_cases hlt : k < 48
        · have tN : (N : Int) < 64 := by omega
          obtain ⟨j1, hj1⟩ : ∃ j, j = k + 1 := ⟨_, rfl⟩
          obtain ⟨j9, hj9⟩ : ∃ j, j = k + 9 := ⟨_, rfl⟩
          obtain ⟨j14, hj14⟩ : ∃ j, j = k + 14 := ⟨_, rfl⟩
          have E0 := hid (show IntKind.i64.wrap ((N : Int) - 16) = (k : Int) from wr_nat (by omega) (by omega))
          have E1 := hid (show IntKind.i64.wrap ((N : Int) - 15) = (j1 : Int) from wr_nat (by omega) (by omega))
          have E9 := hid (show IntKind.i64.wrap ((N : Int) - 7) = (j9 : Int) from wr_nat (by omega) (by omega))
          have E14 := hid (show IntKind.i64.wrap ((N : Int) - 2) = (j14 : Int) from wr_nat (by omega) (by omega))
          have t0 : (k : Int) < (N : Int) := by omega
          have t1 : (j1 : Int) < (N : Int) := by omega
          have t9 : (j9 : Int) < (N : Int) := by omega
          have t14 : (j14 : Int) < (N : Int) := by omega
          have hlen : (ShaM.ext k (ShaM.first (ShaM.at' l))).length = N := by rw [ShaM.ext_length, ShaM.first_length]; omega
          obtain ⟨A', cap', e1, _, _, hn⟩ := ho.out.any
          rw [hlen] at e1
          simp only [Value.slice.injEq, true_and] at e1
          obtain ⟨rfl, rfl⟩ := e1
          have hnx : ShaM.next (ShaM.ext k (ShaM.first (ShaM.at' l))) (16 + k) = ShaM.add (ShaM.add (ShaM.add ((ShaM.ext k (ShaM.first (ShaM.at' l))).getD k 0) (ShaM.l0 ((ShaM.ext k (ShaM.first (ShaM.at' l))).getD j1 0))) ((ShaM.ext k (ShaM.first (ShaM.at' l))).getD j9 0)) (ShaM.l1 ((ShaM.ext k (ShaM.first (ShaM.at' l))).getD j14 0)) := by
            rw [hj1, hj9, hj14]; exact ShaM.next_upM (ShaM.at' l) k
          have hst := ext_take (ShaM.at' l) k
          have hlt4 : ∀ j, (ShaM.ext k (ShaM.first (ShaM.at' l))).getD j 0 < 4294967296 := fun j => ShaM.upM_lt HB.out k j
          rw [hnx] at hst
          have HST := hid hst
          clear hst hnx
          generalize hM : ShaM.ext k (ShaM.first (ShaM.at' l)) = M at *
          have HM := hid hM
          obtain ⟨b2, o2, rfl, hB2, hr2⟩ := hn (by omega)
          have C0 := hid (hr2 k (by omega))
          have C1 := hid (hr2 j1 (by omega))
          have C9 := hid (hr2 j9 (by omega))
          have C14 := hid (hr2 j14 (by omega))
          have x0 := hlt4 k
          have x1 := hlt4 j1
          have x9 := hlt4 j9
          have x14 := hlt4 j14
          generalize M.getD k 0 = m0 at *
          generalize M.getD j1 0 = m1 at *
          generalize M.getD j9 0 = m9 at *
          generalize M.getD j14 0 = m14 at *
          have HN := hid hN
          have HLEN := hid hlen
          have r7 := ShaM.rr_lt x1 7
          have r18 := ShaM.rr_lt x1 18
          have r17 := ShaM.rr_lt x14 17
          have r19 := ShaM.rr_lt x14 19
          have X1 := hid (xor3 r7 r18)
          obtain ⟨L, hL⟩ : ∃ L, L = ShaM.l0 m1 := ⟨_, rfl⟩
          obtain ⟨R, hRR⟩ : ∃ R, R = ShaM.l1 m14 := ⟨_, rfl⟩
          have hLl : L < 4294967296 := by rw [hL]; exact Nat.xor_lt_two_pow (n := 32) (Nat.xor_lt_two_pow (n := 32) r7 r18) (Nat.lt_of_le_of_lt (Nat.div_le_self _ _) x1)
          have hRl : R < 4294967296 := by rw [hRR]; exact Nat.xor_lt_two_pow (n := 32) (Nat.xor_lt_two_pow (n := 32) r17 r19) (Nat.lt_of_le_of_lt (Nat.div_le_self _ _) x14)
          have X2 : Hid (bits .xor .u32 ((ShaM.rr m1 7 ^^^ ShaM.rr m1 18 : Nat) : Int) ((m1 : Int) / 8) = (L : Int)) := hid (by rw [hL]; exact xor3 (Nat.xor_lt_two_pow (n := 32) r7 r18) (show m1 / 8 < 4294967296 from Nat.lt_of_le_of_lt (Nat.div_le_self _ _) x1))
          have Y1 := hid (xor3 r17 r19)
          have Y2 : Hid (bits .xor .u32 ((ShaM.rr m14 17 ^^^ ShaM.rr m14 19 : Nat) : Int) ((m14 : Int) / 1024) = (R : Int)) := hid (by rw [hRR]; exact xor3 (Nat.xor_lt_two_pow (n := 32) r17 r19) (show m14 / 1024 < 4294967296 from Nat.lt_of_le_of_lt (Nat.div_le_self _ _) x14))
          rw [← hL, ← hRR] at HST
          obtain ⟨s1, hs1⟩ : ∃ s, s = ShaM.add m0 L := ⟨_, rfl⟩
          obtain ⟨s2, hs2⟩ : ∃ s, s = ShaM.add s1 m9 := ⟨_, rfl⟩
          obtain ⟨s3, hs3⟩ : ∃ s, s = ShaM.add s2 R := ⟨_, rfl⟩
          rw [← hs1, ← hs2, ← hs3] at HST
          have S1 : Hid (IntKind.u32.wrap ((m0 : Int) + (L : Int)) = (s1 : Int)) := hid (by rw [hs1]; exact add_wrap _ _)
          have S2 : Hid (IntKind.u32.wrap ((s1 : Int) + (m9 : Int)) = (s2 : Int)) := hid (by rw [hs2]; exact add_wrap _ _)
          have S3 : Hid (IntKind.u32.wrap ((s2 : Int) + (R : Int)) = (s3 : Int)) := hid (by rw [hs3]; exact add_wrap _ _)
          have s1l : s1 < 4294967296 := by rw [hs1]; exact ShaM.add_lt _ _
          have s2l : s2 < 4294967296 := by rw [hs2]; exact ShaM.add_lt _ _
          have s3l : s3 < 4294967296 := by rw [hs3]; exact ShaM.add_lt _ _
          have R7 := hid fun w => rrot_any m1 7 x1 (by omega) (by omega) w
          have R18 := hid fun w => rrot_any m1 18 x1 (by omega) (by omega) w
          have R17 := hid fun w => rrot_any m14 17 x14 (by omega) (by omega) w
          have R19 := hid fun w => rrot_any m14 19 x14 (by omega) (by omega) w
          have R3 := hid fun w => rcut3 m1 x1 w
          have R10 := hid fun w => rcut10 m14 x14 w
          clear hr2 hn hlt4 hj1 hj9 hj14 hN hlen hM r7 r18 r17 r19 hL hRR hs1 hs2 hs3
          go_wp2_with fail
          refine wp_region_tail (C := Drew wr) 20 (by kernel_rfl) (by kernel_rfl) (by kernel_rfl) (Drew.refl _) ?_
          simp only [List.take_succ_cons, List.take_zero, List.drop_succ_cons, List.drop_zero]
          apply wpK_val
          · rfl
          · intro w' hw'
            go_simp
            first | exact rfl | exact ⟨rfl, hw'⟩
          simp only [Act.put, List.setIfInBounds_toArray, List.set_cons_succ, List.set_cons_zero]
          apply wpK_val
          · rfl
          · intro w' hw'
            go_simp
            first | exact rfl | exact ⟨rfl, hw'⟩
          simp only [Act.put, List.setIfInBounds_toArray, List.set_cons_succ, List.set_cons_zero]
          apply wpK_val
          · rfl
          · intro w' hw'
            have h1 : _ := E1.out
            go_simp
            first | exact rfl | exact ⟨rfl, hw'⟩
          simp only [Act.put, List.setIfInBounds_toArray, List.set_cons_succ, List.set_cons_zero]
          apply wpK_val
          · rfl
          · intro w' hw'
            go_simp
            first | exact rfl | exact ⟨rfl, hw'⟩
          simp only [Act.put, List.setIfInBounds_toArray, List.set_cons_succ, List.set_cons_zero]
          apply wpK_val
          · rfl
          · intro w' hw'
            have hcell := hw'.cell C1.out
            go_simp
            first | exact rfl | exact ⟨rfl, hw'⟩
          simp only [Act.put, List.setIfInBounds_toArray, List.set_cons_succ, List.set_cons_zero]
          apply wpK_val
          · rfl
          · intro w' hw'
            go_simp
            exact (R7.out _).mono fun e w'' ⟨he, hb''⟩ => ⟨he, hb'' ▸ hw'⟩
          simp only [Act.put, List.setIfInBounds_toArray, List.set_cons_succ, List.set_cons_zero]
          apply wpK_val
          · rfl
          · intro w' hw'
            go_simp
            first | exact rfl | exact ⟨rfl, hw'⟩
          simp only [Act.put, List.setIfInBounds_toArray, List.set_cons_succ, List.set_cons_zero]
          apply wpK_val
          · rfl
          · intro w' hw'
            go_simp
            first | exact rfl | exact ⟨rfl, hw'⟩
          simp only [Act.put, List.setIfInBounds_toArray, List.set_cons_succ, List.set_cons_zero]
          apply wpK_val
          · rfl
          · intro w' hw'
            have h1 : _ := E1.out
            go_simp
            first | exact rfl | exact ⟨rfl, hw'⟩
          simp only [Act.put, List.setIfInBounds_toArray, List.set_cons_succ, List.set_cons_zero]
          apply wpK_val
          · rfl
          · intro w' hw'
            go_simp
            first | exact rfl | exact ⟨rfl, hw'⟩
          simp only [Act.put, List.setIfInBounds_toArray, List.set_cons_succ, List.set_cons_zero]
          apply wpK_val
          · rfl
          · intro w' hw'
            have hcell := hw'.cell C1.out
            go_simp
            first | exact rfl | exact ⟨rfl, hw'⟩
          simp only [Act.put, List.setIfInBounds_toArray, List.set_cons_succ, List.set_cons_zero]
          apply wpK_val
          · rfl
          · intro w' hw'
            go_simp
            exact (R18.out _).mono fun e w'' ⟨he, hb''⟩ => ⟨he, hb'' ▸ hw'⟩
          simp only [Act.put, List.setIfInBounds_toArray, List.set_cons_succ, List.set_cons_zero]
          apply wpK_val
          · rfl
          · intro w' hw'
            have h1 : _ := X1.out
            go_simp
            first | exact rfl | exact ⟨rfl, hw'⟩
          simp only [Act.put, List.setIfInBounds_toArray, List.set_cons_succ, List.set_cons_zero]
          apply wpK_val
          · rfl
          · intro w' hw'
            go_simp
            first | exact rfl | exact ⟨rfl, hw'⟩
          simp only [Act.put, List.setIfInBounds_toArray, List.set_cons_succ, List.set_cons_zero]
          apply wpK_val
          · rfl
          · intro w' hw'
            go_simp
            first | exact rfl | exact ⟨rfl, hw'⟩
          simp only [Act.put, List.setIfInBounds_toArray, List.set_cons_succ, List.set_cons_zero]
          apply wpK_val
          · rfl
          · intro w' hw'
            have h1 : _ := E1.out
            go_simp
            first | exact rfl | exact ⟨rfl, hw'⟩
          simp only [Act.put, List.setIfInBounds_toArray, List.set_cons_succ, List.set_cons_zero]
          apply wpK_val
          · rfl
          · intro w' hw'
            go_simp
            first | exact rfl | exact ⟨rfl, hw'⟩
          simp only [Act.put, List.setIfInBounds_toArray, List.set_cons_succ, List.set_cons_zero]
          apply wpK_val
          · rfl
          · intro w' hw'
            have hcell := hw'.cell C1.out
            go_simp
            first | exact rfl | exact ⟨rfl, hw'⟩
          simp only [Act.put, List.setIfInBounds_toArray, List.set_cons_succ, List.set_cons_zero]
          apply wpK_val
          · rfl
          · intro w' hw'
            go_simp
            exact (R3.out _).mono fun e w'' ⟨he, hb''⟩ => ⟨he, hb'' ▸ hw'⟩
          simp only [Act.put, List.setIfInBounds_toArray, List.set_cons_succ, List.set_cons_zero]
          apply wpK_val
          · rfl
          · intro w' hw'
            have h1 : _ := X2.out
            go_simp
            first | exact rfl | exact ⟨rfl, hw'⟩
          simp only [Act.put, List.setIfInBounds_toArray, List.set_cons_succ, List.set_cons_zero]
          refine wpK_nil fun w5 hw5 => ?_
          go_wp2_with fail
          refine wp_region_tail (C := Drew wr) 20 (by kernel_rfl) (by kernel_rfl) (by kernel_rfl) (hw5.trans (Drew.refl _)) ?_
          simp only [List.take_succ_cons, List.take_zero, List.drop_succ_cons, List.drop_zero]
          apply wpK_val
          · rfl
          · intro w' hw'
            go_simp
            first | exact rfl | exact ⟨rfl, hw'⟩
          simp only [Act.put, List.setIfInBounds_toArray, List.set_cons_succ, List.set_cons_zero]
          apply wpK_val
          · rfl
          · intro w' hw'
            go_simp
            first | exact rfl | exact ⟨rfl, hw'⟩
          simp only [Act.put, List.setIfInBounds_toArray, List.set_cons_succ, List.set_cons_zero]
          apply wpK_val
          · rfl
          · intro w' hw'
            have h1 : _ := E14.out
            go_simp
            first | exact rfl | exact ⟨rfl, hw'⟩
          simp only [Act.put, List.setIfInBounds_toArray, List.set_cons_succ, List.set_cons_zero]
          apply wpK_val
          · rfl
          · intro w' hw'
            go_simp
            first | exact rfl | exact ⟨rfl, hw'⟩
          simp only [Act.put, List.setIfInBounds_toArray, List.set_cons_succ, List.set_cons_zero]
          apply wpK_val
          · rfl
          · intro w' hw'
            have hcell := hw'.cell C14.out
            go_simp
            first | exact rfl | exact ⟨rfl, hw'⟩
          simp only [Act.put, List.setIfInBounds_toArray, List.set_cons_succ, List.set_cons_zero]
          apply wpK_val
          · rfl
          · intro w' hw'
            go_simp
            exact (R17.out _).mono fun e w'' ⟨he, hb''⟩ => ⟨he, hb'' ▸ hw'⟩
          simp only [Act.put, List.setIfInBounds_toArray, List.set_cons_succ, List.set_cons_zero]
          apply wpK_val
          · rfl
          · intro w' hw'
            go_simp
            first | exact rfl | exact ⟨rfl, hw'⟩
          simp only [Act.put, List.setIfInBounds_toArray, List.set_cons_succ, List.set_cons_zero]
          apply wpK_val
          · rfl
          · intro w' hw'
            go_simp
            first | exact rfl | exact ⟨rfl, hw'⟩
          simp only [Act.put, List.setIfInBounds_toArray, List.set_cons_succ, List.set_cons_zero]
          apply wpK_val
          · rfl
          · intro w' hw'
            have h1 : _ := E14.out
            go_simp
            first | exact rfl | exact ⟨rfl, hw'⟩
          simp only [Act.put, List.setIfInBounds_toArray, List.set_cons_succ, List.set_cons_zero]
          apply wpK_val
          · rfl
          · intro w' hw'
            go_simp
            first | exact rfl | exact ⟨rfl, hw'⟩
          simp only [Act.put, List.setIfInBounds_toArray, List.set_cons_succ, List.set_cons_zero]
          apply wpK_val
          · rfl
          · intro w' hw'
            have hcell := hw'.cell C14.out
            go_simp
            first | exact rfl | exact ⟨rfl, hw'⟩
          simp only [Act.put, List.setIfInBounds_toArray, List.set_cons_succ, List.set_cons_zero]
          apply wpK_val
          · rfl
          · intro w' hw'
            go_simp
            exact (R19.out _).mono fun e w'' ⟨he, hb''⟩ => ⟨he, hb'' ▸ hw'⟩
          simp only [Act.put, List.setIfInBounds_toArray, List.set_cons_succ, List.set_cons_zero]
          apply wpK_val
          · rfl
          · intro w' hw'
            have h1 : _ := Y1.out
            go_simp
            first | exact rfl | exact ⟨rfl, hw'⟩
          simp only [Act.put, List.setIfInBounds_toArray, List.set_cons_succ, List.set_cons_zero]
          apply wpK_val
          · rfl
          · intro w' hw'
            go_simp
            first | exact rfl | exact ⟨rfl, hw'⟩
          simp only [Act.put, List.setIfInBounds_toArray, List.set_cons_succ, List.set_cons_zero]
          apply wpK_val
          · rfl
          · intro w' hw'
            go_simp
            first | exact rfl | exact ⟨rfl, hw'⟩
          simp only [Act.put, List.setIfInBounds_toArray, List.set_cons_succ, List.set_cons_zero]
          apply wpK_val
          · rfl
          · intro w' hw'
            have h1 : _ := E14.out
            go_simp
            first | exact rfl | exact ⟨rfl, hw'⟩
          simp only [Act.put, List.setIfInBounds_toArray, List.set_cons_succ, List.set_cons_zero]
          apply wpK_val
          · rfl
          · intro w' hw'
            go_simp
            first | exact rfl | exact ⟨rfl, hw'⟩
          simp only [Act.put, List.setIfInBounds_toArray, List.set_cons_succ, List.set_cons_zero]
          apply wpK_val
          · rfl
          · intro w' hw'
            have hcell := hw'.cell C14.out
            go_simp
            first | exact rfl | exact ⟨rfl, hw'⟩
          simp only [Act.put, List.setIfInBounds_toArray, List.set_cons_succ, List.set_cons_zero]
          apply wpK_val
          · rfl
          · intro w' hw'
            go_simp
            exact (R10.out _).mono fun e w'' ⟨he, hb''⟩ => ⟨he, hb'' ▸ hw'⟩
          simp only [Act.put, List.setIfInBounds_toArray, List.set_cons_succ, List.set_cons_zero]
          apply wpK_val
          · rfl
          · intro w' hw'
            have h1 : _ := Y2.out
            go_simp
            first | exact rfl | exact ⟨rfl, hw'⟩
          simp only [Act.put, List.setIfInBounds_toArray, List.set_cons_succ, List.set_cons_zero]
          refine wpK_nil fun w6 hw6 => ?_
          clear hw5
          go_wp2_with fail
          have hz6 := hw6.heap
          have C0' := hid (hw6.cell C0.out)
          have C9' := hid (hw6.cell C9.out)
          have hB6 : b2 < w6.heap.size := by rw [hz6]; exact hB2
          refine wp_region_put (C := Put w6 (.cells #[.int .u32 (s3 : Nat)] 46)) 16 17 (by omega) (by kernel_rfl) (by kernel_rfl) (by kernel_rfl) (Drew.refl _) ?_
          simp only [List.take_succ_cons, List.take_zero, List.drop_succ_cons, List.drop_zero]
          apply wpS_val
          · decide
          · rfl
          · intro bb w' hw'
            go_simp
            first | exact rfl | exact ⟨rfl, hw'⟩
          simp only [Act.put, List.setIfInBounds_toArray, List.set_cons_succ, List.set_cons_zero]
          apply wpS_val
          · decide
          · rfl
          · intro bb w' hw'
            go_simp
            first | exact rfl | exact ⟨rfl, hw'⟩
          simp only [Act.put, List.setIfInBounds_toArray, List.set_cons_succ, List.set_cons_zero]
          apply wpS_val
          · decide
          · rfl
          · intro bb w' hw'
            go_simp
            first | exact rfl | exact ⟨rfl, hw'⟩
          simp only [Act.put, List.setIfInBounds_toArray, List.set_cons_succ, List.set_cons_zero]
          apply wpS_val
          · decide
          · rfl
          · intro bb w' hw'
            have h1 : _ := E0.out
            go_simp
            first | exact rfl | exact ⟨rfl, hw'⟩
          simp only [Act.put, List.setIfInBounds_toArray, List.set_cons_succ, List.set_cons_zero]
          apply wpS_val
          · decide
          · rfl
          · intro bb w' hw'
            go_simp
            first | exact rfl | exact ⟨rfl, hw'⟩
          simp only [Act.put, List.setIfInBounds_toArray, List.set_cons_succ, List.set_cons_zero]
          apply wpS_val
          · decide
          · rfl
          · intro bb w' hw'
            have hcell : _ := hw'.cell hB6 C0'.out
            go_simp
            first | exact rfl | exact ⟨rfl, hw'⟩
          simp only [Act.put, List.setIfInBounds_toArray, List.set_cons_succ, List.set_cons_zero]
          apply wpS_val
          · decide
          · rfl
          · intro bb w' hw'
            go_simp
            first | exact rfl | exact ⟨rfl, hw'⟩
          simp only [Act.put, List.setIfInBounds_toArray, List.set_cons_succ, List.set_cons_zero]
          apply wpS_val
          · decide
          · rfl
          · intro bb w' hw'
            have h1 : _ := S1.out
            go_simp
            first | exact rfl | exact ⟨rfl, hw'⟩
          simp only [Act.put, List.setIfInBounds_toArray, List.set_cons_succ, List.set_cons_zero]
          apply wpS_val
          · decide
          · rfl
          · intro bb w' hw'
            go_simp
            first | exact rfl | exact ⟨rfl, hw'⟩
          simp only [Act.put, List.setIfInBounds_toArray, List.set_cons_succ, List.set_cons_zero]
          apply wpS_val
          · decide
          · rfl
          · intro bb w' hw'
            go_simp
            first | exact rfl | exact ⟨rfl, hw'⟩
          simp only [Act.put, List.setIfInBounds_toArray, List.set_cons_succ, List.set_cons_zero]
          apply wpS_val
          · decide
          · rfl
          · intro bb w' hw'
            have h1 : _ := E9.out
            go_simp
            first | exact rfl | exact ⟨rfl, hw'⟩
          simp only [Act.put, List.setIfInBounds_toArray, List.set_cons_succ, List.set_cons_zero]
          apply wpS_val
          · decide
          · rfl
          · intro bb w' hw'
            go_simp
            first | exact rfl | exact ⟨rfl, hw'⟩
          simp only [Act.put, List.setIfInBounds_toArray, List.set_cons_succ, List.set_cons_zero]
          apply wpS_val
          · decide
          · rfl
          · intro bb w' hw'
            have hcell : _ := hw'.cell hB6 C9'.out
            go_simp
            first | exact rfl | exact ⟨rfl, hw'⟩
          simp only [Act.put, List.setIfInBounds_toArray, List.set_cons_succ, List.set_cons_zero]
          apply wpS_val
          · decide
          · rfl
          · intro bb w' hw'
            have h1 : _ := S2.out
            go_simp
            first | exact rfl | exact ⟨rfl, hw'⟩
          simp only [Act.put, List.setIfInBounds_toArray, List.set_cons_succ, List.set_cons_zero]
          apply wpS_val
          · decide
          · rfl
          · intro bb w' hw'
            go_simp
            first | exact rfl | exact ⟨rfl, hw'⟩
          simp only [Act.put, List.setIfInBounds_toArray, List.set_cons_succ, List.set_cons_zero]
          apply wpS_val
          · decide
          · rfl
          · intro bb w' hw'
            have h1 : _ := S3.out
            go_simp
            first | exact rfl | exact ⟨rfl, hw'⟩
          simp only [Act.put, List.setIfInBounds_toArray, List.set_cons_succ, List.set_cons_zero]
          apply wpS_put
          · rfl
          · rfl
          · intro w' hw'
            have hw2 : Drew w6 w' := hw'
            have hz := hw2.heap
            go_simp
            exact ⟨rfl, w', hw2, rfl⟩
          simp only [Act.put, List.setIfInBounds_toArray, List.set_cons_succ, List.set_cons_zero]
          refine wpS_nil fun w8 hw8 => ?_
          obtain ⟨w7, h7, rfl⟩ := hw8
          have hz7 : wr.heap.size = w7.heap.size := by rw [h7.heap, hz6]
          have o7 := hid (ho.out.heap (by rw [h7.heap, hz6]))
          have b7 := hid (h7.below (hw6.below hb.out))
          have HZ7 := hid hz7
          clear hw6 h7 hz6 hB6 C0' C9' hz7 S1 S2 S3 X1 X2 Y1 Y2
          go_wp2_with (at_builtin; (with_reducible apply wappN elt32); rfl; rfl; exact o7.out.alloc _; exact nums_one' (x := s3) (B := w7.heap.size + 1) rfl HZ7.out (Nat.lt_succ_self _); rfl; (rw [HLEN.out]; omega); (simp; have := HZ7.out; omega); intro v' w9 o9 g9)
          have b9 := below_grown (b7.out.alloc (by have := HZ7.out; omega) (.cells #[.int .u32 (s3 : Nat)] 46)) g9 o7.out (Nat.le_refl _) (Nat.le_refl _)
          obtain ⟨A3, c3, e3, _, _, _⟩ := o9.any
          rw [List.length_append, HLEN.out, List.length_singleton] at e3
          subst e3
          go_roundw
          case rel => exact ⟨N + 1, k + 1, A3, c3, by have := HN.out; omega, by omega, by go_num, rfl, hid (by rw [HST.out]; exact o9), hid b9⟩
          case measure => simp [intOf] <;> omega
        · obtain rfl : k = 48 := by omega
          have tN : decide ((N : Int) < 64) = false := by simp; omega
          have hfin := hid (ho.out.fresh hb.out)
          clear ho
          go_wp2_with fail
          go_ret
          exact hfin.out
end Go.Proofs.YtfgmgfniolmpkaaDoor
