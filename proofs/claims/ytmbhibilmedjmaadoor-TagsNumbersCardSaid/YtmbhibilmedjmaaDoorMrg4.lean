/-
  Contract of the document's message's numbers (casemateref03.Message) over this translation.
  Contract of the document's pass (casemateref03.Pass) over this translation.
  Contract of the document's digest (casemateref03.Sum) over this translation.
  Contract of sha.Ahead over this translation.
  HMAC-SHA-256 in plain numbers: a key's block, tags, stretches; nothing of the program stands here.
  Contracts of hmac.keyBlock, hmac.padded over this translation.
  The structs hmac.keyed and hmac.message, as values and in memory; contracts of hmac.under, (*hmac.message).goOver over this translation.
-/
import Derived.Test.YtmbhibilmedjmaaDoorMrg3
import Derived.Laws.BitsAllLaws
set_option linter.unusedVariables false
set_option linter.unusedSimpArgs false
set_option maxRecDepth 100000
namespace Go.Proofs.YtmbhibilmedjmaaDoor
open Go.ChangeShapes Go.WideShapes Go.ChangeAt Go.RowKit
attribute [local go_sem] Gives
theorem add_wrap (a b : Nat) : IntKind.u32.wrap ((a : Int) + (b : Int)) = ((ShaM.add a b : Nat) : Int) := by
  rw [IntKind.wrap_u32]; unfold ShaM.add; simp
theorem w32_nat {x : Int} {y : Nat} (h : x = y) (hy : y < 4294967296) : IntKind.u32.wrap x = (y : Int) := by rw [h]; exact IntWalk.u32_in _ (by omega)
theorem xor3 {a b : Nat} (ha : a < 4294967296) (hb : b < 4294967296) : bits .xor .u32 (a : Int) (b : Int) = ((a ^^^ b : Nat) : Int) := u32_xor_nat _ _ ha hb
/-- The bytes of one number. -/
theorem word_sum (b : Nat → Nat) (i : Nat) : ShaM.word b i = b (4 * i) * 16777216 + b (4 * i + 1) * 65536 + b (4 * i + 2) * 256 + b (4 * i + 3) := by
  unfold ShaM.word; omega
theorem first_take (b : Nat → Nat) {i : Nat} (h : i < 16) : (ShaM.first b).take (i + 1) = (ShaM.first b).take i ++ [ShaM.word b i] := by
  have hl : i < (ShaM.first b).length := by rw [ShaM.first_length]; exact h
  rw [List.take_succ_eq_append_getElem hl, ← nums_at hl, ShaM.first_get b h]
theorem ext_take (b : Nat → Nat) (k : Nat) : ShaM.ext (k + 1) (ShaM.first b) = ShaM.ext k (ShaM.first b) ++ [ShaM.next (ShaM.ext k (ShaM.first b)) (16 + k)] := by
  rw [ShaM.ext_succ, ShaM.ext_length, ShaM.first_length]
theorem nums_one' {k : IntKind} {w : World} {t : TypeId} {n x : Nat} {v : Value} (h : v = .int k (x : Nat)) {B : Nat} (hn : n = w.heap.size) (hB : w.heap.size < B) : Nums k (w.alloc (.cells #[v] t)) B (some ⟨n, 0, none⟩) [x] := by
  subst hn; exact nums_one h hB
theorem rcut3 (x : Nat) (hx : x < 4294967296) (w : World) :
    Calls Tryd.prog 76 #[.int .u32 x, .int .i64 3] w fun e w' => e = .returned (.int .u32 (x / 8 : Nat)) ∧ w = w' := rcut_any x 3 hx (by omega) w
theorem rcut10 (x : Nat) (hx : x < 4294967296) (w : World) :
    Calls Tryd.prog 76 #[.int .u32 x, .int .i64 10] w fun e w' => e = .returned (.int .u32 (x / 1024 : Nat)) ∧ w = w' := rcut_any x 10 hx (by omega) w
set_option maxHeartbeats 1000000 in
set_option maxRecDepth 100000 in
theorem message_any (A : Option Addr) (l : List Nat) (cap : Nat) (hl : l.length = 64) (h256 : ∀ k, ShaM.at' l k < 256) (w : World) (hA : Byt w w.heap.size A l) :
    Calls Tryd.prog 65 #[.slice A 64 cap] w fun e w' => Fresh .u32 w w' e (ShaM.sched (ShaM.at' l)) := by
  obtain ⟨b, o, rfl, hB, hr⟩ := hA (by omega)
  rw [hl] at hr
  have HR := hid hr
  have HB := hid h256
  clear hA hr h256
  go_enter Tryd.func65, Tryd.ntmps65
  go_wp2_with fail
  go_loopw [3, 4] (fun u v wr => ∃ (i : Nat) (vs : Value), i ≤ 16 ∧ v = .int .i64 i ∧ u = vs ∧ Hid (Own 65 .u32 wr w.heap.size vs ((ShaM.first (ShaM.at' l)).take i)) ∧ Hid (Below w.heap.size w wr)) (fun _ v _ => 16 - (intOf v).toNat)
  case atStart => exact ⟨0, _, by omega, rfl, rfl, hid Own.nil, hid (Below.refl _ _)⟩
  case round =>
    obtain ⟨i, vs, hi, rfl, rfl, ho, hb⟩ := hrel
    have hsz := hb.out.size
    by_cases hlt : i < 16
    · have ti : (i : Int) < 16 := by omega
      obtain ⟨c0, hc0⟩ : ∃ c, c = 4 * i := ⟨_, rfl⟩
      obtain ⟨c1, hc1⟩ : ∃ c, c = 4 * i + 1 := ⟨_, rfl⟩
      obtain ⟨c2, hc2⟩ : ∃ c, c = 4 * i + 2 := ⟨_, rfl⟩
      obtain ⟨c3, hc3⟩ : ∃ c, c = 4 * i + 3 := ⟨_, rfl⟩
      have E0 := hid (show IntKind.i64.wrap (4 * (i : Int)) = (c0 : Int) from wr_nat (by omega) (by omega))
      have E1 := hid (show IntKind.i64.wrap ((c0 : Int) + 1) = (c1 : Int) from wr_nat (by omega) (by omega))
      have E2 := hid (show IntKind.i64.wrap ((c0 : Int) + 2) = (c2 : Int) from wr_nat (by omega) (by omega))
      have E3 := hid (show IntKind.i64.wrap ((c0 : Int) + 3) = (c3 : Int) from wr_nat (by omega) (by omega))
      have t0 : (c0 : Int) < 64 := by omega
      have t1 : (c1 : Int) < 64 := by omega
      have t2 : (c2 : Int) < 64 := by omega
      have t3 : (c3 : Int) < 64 := by omega
      have cell : ∀ c, c < 64 → wr.cell? ⟨b, o + c, none⟩ = some (.int .u8 (ShaM.at' l c : Nat)) := fun c hc => (hb.out.cell (p := ⟨b, o + c, none⟩) hB).trans (HR.out c hc)
      have Q0 := hid (cell c0 (by omega))
      have Q1 := hid (cell c1 (by omega))
      have Q2 := hid (cell c2 (by omega))
      have Q3 := hid (cell c3 (by omega))
      have l0 := HB.out c0
      have l1 := HB.out c1
      have l2 := HB.out c2
      have l3 := HB.out c3
      have hw := word_sum (ShaM.at' l) i
      rw [← hc1, ← hc2, ← hc3, ← hc0] at hw
      generalize ShaM.at' l c0 = b0 at *
      generalize ShaM.at' l c1 = b1 at *
      generalize ShaM.at' l c2 = b2 at *
      generalize ShaM.at' l c3 = b3 at *
      have HFT := hid (first_take (ShaM.at' l) hlt)
      obtain ⟨W, hW⟩ : ∃ W, W = ShaM.word (ShaM.at' l) i := ⟨_, rfl⟩
      rw [← hW] at HFT hw
      have HW := hid hw
      clear hW
      clear hc0 hc1 hc2 hc3 cell hw
      go_wp2_with fail
      refine wp_region_tail (C := Drew wr) 33 (by kernel_rfl) (by kernel_rfl) (by kernel_rfl) (Drew.refl _) ?_
      simp only [List.take_succ_cons, List.take_zero, List.drop_succ_cons, List.drop_zero]
      apply wpK_val
      · rfl
      · intro w' hw'
        go_simp
        first | exact rfl | exact ⟨rfl, hw'⟩
      simp only [Act.put, List.setIfInBounds_toArray, List.set_cons_succ, List.set_cons_zero]
      apply wpK_val
      · rfl
      · intro w' hw'
        go_simp
        first | exact rfl | exact ⟨rfl, hw'⟩
      simp only [Act.put, List.setIfInBounds_toArray, List.set_cons_succ, List.set_cons_zero]
      apply wpK_val
      · rfl
      · intro w' hw'
        have h1 : _ := E0.out
        go_simp
        first | exact rfl | exact ⟨rfl, hw'⟩
      simp only [Act.put, List.setIfInBounds_toArray, List.set_cons_succ, List.set_cons_zero]
      apply wpK_val
      · rfl
      · intro w' hw'
        go_simp
        first | exact rfl | exact ⟨rfl, hw'⟩
      simp only [Act.put, List.setIfInBounds_toArray, List.set_cons_succ, List.set_cons_zero]
      apply wpK_val
      · rfl
      · intro w' hw'
        have hcell := hw'.cell Q0.out
        go_simp
        first | exact rfl | exact ⟨rfl, hw'⟩
      simp only [Act.put, List.setIfInBounds_toArray, List.set_cons_succ, List.set_cons_zero]
      apply wpK_val
      · rfl
      · intro w' hw'
        go_simp
        first | exact rfl | exact ⟨rfl, hw'⟩
      simp only [Act.put, List.setIfInBounds_toArray, List.set_cons_succ, List.set_cons_zero]
      apply wpK_val
      · rfl
      · intro w' hw'
        go_simp
        first | exact rfl | exact ⟨rfl, hw'⟩
      simp only [Act.put, List.setIfInBounds_toArray, List.set_cons_succ, List.set_cons_zero]
      apply wpK_val
      · rfl
      · intro w' hw'
        go_simp
        first | exact rfl | exact ⟨rfl, hw'⟩
      simp only [Act.put, List.setIfInBounds_toArray, List.set_cons_succ, List.set_cons_zero]
      apply wpK_val
      · rfl
      · intro w' hw'
        go_simp
        first | exact rfl | exact ⟨rfl, hw'⟩
      simp only [Act.put, List.setIfInBounds_toArray, List.set_cons_succ, List.set_cons_zero]
      apply wpK_val
      · rfl
      · intro w' hw'
        have h1 : _ := E0.out
        go_simp
        first | exact rfl | exact ⟨rfl, hw'⟩
      simp only [Act.put, List.setIfInBounds_toArray, List.set_cons_succ, List.set_cons_zero]
      apply wpK_val
      · rfl
      · intro w' hw'
        have h1 : _ := E1.out
        go_simp
        first | exact rfl | exact ⟨rfl, hw'⟩
      simp only [Act.put, List.setIfInBounds_toArray, List.set_cons_succ, List.set_cons_zero]
      apply wpK_val
      · rfl
      · intro w' hw'
        go_simp
        first | exact rfl | exact ⟨rfl, hw'⟩
      simp only [Act.put, List.setIfInBounds_toArray, List.set_cons_succ, List.set_cons_zero]
      apply wpK_val
      · rfl
      · intro w' hw'
        have hcell := hw'.cell Q1.out
        go_simp
        first | exact rfl | exact ⟨rfl, hw'⟩
      simp only [Act.put, List.setIfInBounds_toArray, List.set_cons_succ, List.set_cons_zero]
      apply wpK_val
      · rfl
      · intro w' hw'
        go_simp
        first | exact rfl | exact ⟨rfl, hw'⟩
      simp only [Act.put, List.setIfInBounds_toArray, List.set_cons_succ, List.set_cons_zero]
      apply wpK_val
      · rfl
      · intro w' hw'
        go_simp
        first | exact rfl | exact ⟨rfl, hw'⟩
      simp only [Act.put, List.setIfInBounds_toArray, List.set_cons_succ, List.set_cons_zero]
      apply wpK_val
      · rfl
      · intro w' hw'
        go_simp
        first | exact rfl | exact ⟨rfl, hw'⟩
      simp only [Act.put, List.setIfInBounds_toArray, List.set_cons_succ, List.set_cons_zero]
      apply wpK_val
      · rfl
      · intro w' hw'
        go_simp
        first | exact rfl | exact ⟨rfl, hw'⟩
      simp only [Act.put, List.setIfInBounds_toArray, List.set_cons_succ, List.set_cons_zero]
      apply wpK_val
      · rfl
      · intro w' hw'
        go_simp
        first | exact rfl | exact ⟨rfl, hw'⟩
      simp only [Act.put, List.setIfInBounds_toArray, List.set_cons_succ, List.set_cons_zero]
      apply wpK_val
      · rfl
      · intro w' hw'
        have h1 : _ := E0.out
        go_simp
        first | exact rfl | exact ⟨rfl, hw'⟩
      simp only [Act.put, List.setIfInBounds_toArray, List.set_cons_succ, List.set_cons_zero]
      apply wpK_val
      · rfl
      · intro w' hw'
        have h1 : _ := E2.out
        go_simp
        first | exact rfl | exact ⟨rfl, hw'⟩
      simp only [Act.put, List.setIfInBounds_toArray, List.set_cons_succ, List.set_cons_zero]
      apply wpK_val
      · rfl
      · intro w' hw'
        go_simp
        first | exact rfl | exact ⟨rfl, hw'⟩
      simp only [Act.put, List.setIfInBounds_toArray, List.set_cons_succ, List.set_cons_zero]
      apply wpK_val
      · rfl
      · intro w' hw'
        have hcell := hw'.cell Q2.out
        go_simp
        first | exact rfl | exact ⟨rfl, hw'⟩
      simp only [Act.put, List.setIfInBounds_toArray, List.set_cons_succ, List.set_cons_zero]
      apply wpK_val
      · rfl
      · intro w' hw'
        go_simp
        first | exact rfl | exact ⟨rfl, hw'⟩
      simp only [Act.put, List.setIfInBounds_toArray, List.set_cons_succ, List.set_cons_zero]
      apply wpK_val
      · rfl
      · intro w' hw'
        go_simp
        first | exact rfl | exact ⟨rfl, hw'⟩
      simp only [Act.put, List.setIfInBounds_toArray, List.set_cons_succ, List.set_cons_zero]
      apply wpK_val
      · rfl
      · intro w' hw'
        go_simp
        first | exact rfl | exact ⟨rfl, hw'⟩
      simp only [Act.put, List.setIfInBounds_toArray, List.set_cons_succ, List.set_cons_zero]
      apply wpK_val
      · rfl
      · intro w' hw'
        go_simp
        first | exact rfl | exact ⟨rfl, hw'⟩
      simp only [Act.put, List.setIfInBounds_toArray, List.set_cons_succ, List.set_cons_zero]
      apply wpK_val
      · rfl
      · intro w' hw'
        go_simp
        first | exact rfl | exact ⟨rfl, hw'⟩
      simp only [Act.put, List.setIfInBounds_toArray, List.set_cons_succ, List.set_cons_zero]
      apply wpK_val
      · rfl
      · intro w' hw'
        have h1 : _ := E0.out
        go_simp
        first | exact rfl | exact ⟨rfl, hw'⟩
      simp only [Act.put, List.setIfInBounds_toArray, List.set_cons_succ, List.set_cons_zero]
      apply wpK_val
      · rfl
      · intro w' hw'
        have h1 : _ := E3.out
        go_simp
        first | exact rfl | exact ⟨rfl, hw'⟩
      simp only [Act.put, List.setIfInBounds_toArray, List.set_cons_succ, List.set_cons_zero]
      apply wpK_val
      · rfl
      · intro w' hw'
        go_simp
        first | exact rfl | exact ⟨rfl, hw'⟩
      simp only [Act.put, List.setIfInBounds_toArray, List.set_cons_succ, List.set_cons_zero]
      apply wpK_val
      · rfl
      · intro w' hw'
        have hcell := hw'.cell Q3.out
        go_simp
        first | exact rfl | exact ⟨rfl, hw'⟩
      simp only [Act.put, List.setIfInBounds_toArray, List.set_cons_succ, List.set_cons_zero]
      apply wpK_val
      · rfl
      · intro w' hw'
        go_simp
        first | exact rfl | exact ⟨rfl, hw'⟩
      simp only [Act.put, List.setIfInBounds_toArray, List.set_cons_succ, List.set_cons_zero]
      apply wpK_val
      · rfl
      · intro w' hw'
        go_simp
        first | exact rfl | exact ⟨rfl, hw'⟩
      simp only [Act.put, List.setIfInBounds_toArray, List.set_cons_succ, List.set_cons_zero]
      refine wpK_nil fun w5 hw5 => ?_
      have o5 := hid (ho.out.heap hw5.heap)
      have b5 := hid (hw5.below hb.out)
      have hsz5 := b5.out.size
      have hlen : ((ShaM.first (ShaM.at' l)).take i).length = i := by rw [List.length_take, ShaM.first_length]; omega
      have HLEN := hid hlen
      clear hw5 hlen Q0 Q1 Q2 Q3
      go_wp2_with (at_builtin; (with_reducible apply wappN elt32); rfl; rfl; exact o5.out.alloc _; exact nums_one (x := W) (B := w5.heap.size + 1) (congrArg (Value.int .u32) (by have := HW.out; omega)) (Nat.lt_succ_self _); rfl; (rw [HLEN.out]; omega); (simp; omega); intro v' w6 o6 g6)
      have b6 := below_grown (b5.out.alloc hsz5 _) g6 o5.out (Nat.le_refl _) (Nat.le_refl _)
      go_roundw
      case rel => exact ⟨i + 1, v', by omega, by go_num, rfl, hid (by rw [HFT.out]; exact o6), hid b6⟩
      case measure => simp [intOf] <;> omega
    · obtain rfl : i = 16 := by omega
      have ho16 := ho.out
      rw [List.take_of_length_le (by rw [ShaM.first_length]; omega)] at ho16
      have O16 := hid ho16
      clear ho16 ho
      obtain ⟨A2, c2, e2, _, _, _⟩ := O16.out.any
      rw [ShaM.first_length] at e2
      subst e2
      rw [show ((16 : Nat) : Int) = (16 : Int) from rfl]
      go_wp2_with fail
      go_loopw [3, 6] (fun u v wr => ∃ (N k : Nat) (A : Option Addr) (cap : Nat), N = 16 + k ∧ k ≤ 48 ∧ v = .int .i64 N ∧ u = .slice A N cap ∧ Hid (Own 65 .u32 wr w.heap.size u (ShaM.ext k (ShaM.first (ShaM.at' l)))) ∧ Hid (Below w.heap.size w wr)) (fun _ v _ => 64 - (intOf v).toNat)
      case atStart => exact ⟨16, 0, A2, c2, rfl, by omega, rfl, rfl, O16, hb⟩
      case round =>
        clear O16 hb hsz
        obtain ⟨N, k, A, cap, hN, hk, rfl, rfl, ho, hb⟩ := hrel
        have hsz := hb.out.size
        by_cases hlt : k < 48
        · have tN : (N : Int) < 64 := by omega
          obtain ⟨j1, hj1⟩ : ∃ j, j = k + 1 := ⟨_, rfl⟩
          obtain ⟨j9, hj9⟩ : ∃ j, j = k + 9 := ⟨_, rfl⟩
          obtain ⟨j14, hj14⟩ : ∃ j, j = k + 14 := ⟨_, rfl⟩
          have E0 := hid (show IntKind.i64.wrap ((N : Int) - 16) = (k : Int) from wr_nat (by omega) (by omega))
          have E1 := hid (show IntKind.i64.wrap ((N : Int) - 15) = (j1 : Int) from wr_nat (by omega) (by omega))
          have E9 := hid (show IntKind.i64.wrap ((N : Int) - 7) = (j9 : Int) from wr_nat (by omega) (by omega))
          have E14 := hid (show IntKind.i64.wrap ((N : Int) - 2) = (j14 : Int) from wr_nat (by omega) (by omega))
          have t0 : (k : Int) < (N : Int) := by omega
          have t1 : (j1 : Int) < (N : Int) := by omega
          have t9 : (j9 : Int) < (N : Int) := by omega
          have t14 : (j14 : Int) < (N : Int) := by omega
          have hlen : (ShaM.ext k (ShaM.first (ShaM.at' l))).length = N := by rw [ShaM.ext_length, ShaM.first_length]; omega
          obtain ⟨A', cap', e1, _, _, hn⟩ := ho.out.any
          rw [hlen] at e1
          simp only [Value.slice.injEq, true_and] at e1
          obtain ⟨rfl, rfl⟩ := e1
          have hnx : ShaM.next (ShaM.ext k (ShaM.first (ShaM.at' l))) (16 + k) = ShaM.add (ShaM.add (ShaM.add ((ShaM.ext k (ShaM.first (ShaM.at' l))).getD k 0) (ShaM.l0 ((ShaM.ext k (ShaM.first (ShaM.at' l))).getD j1 0))) ((ShaM.ext k (ShaM.first (ShaM.at' l))).getD j9 0)) (ShaM.l1 ((ShaM.ext k (ShaM.first (ShaM.at' l))).getD j14 0)) := by
            rw [hj1, hj9, hj14]; exact ShaM.next_upM (ShaM.at' l) k
          have hst := ext_take (ShaM.at' l) k
          have hlt4 : ∀ j, (ShaM.ext k (ShaM.first (ShaM.at' l))).getD j 0 < 4294967296 := fun j => ShaM.upM_lt HB.out k j
          rw [hnx] at hst
          have HST := hid hst
          clear hst hnx
          generalize hM : ShaM.ext k (ShaM.first (ShaM.at' l)) = M at *
          have HM := hid hM
          obtain ⟨b2, o2, rfl, hB2, hr2⟩ := hn (by omega)
          have C0 := hid (hr2 k (by omega))
          have C1 := hid (hr2 j1 (by omega))
          have C9 := hid (hr2 j9 (by omega))
          have C14 := hid (hr2 j14 (by omega))
          have x0 := hlt4 k
          have x1 := hlt4 j1
          have x9 := hlt4 j9
          have x14 := hlt4 j14
          generalize M.getD k 0 = m0 at *
          generalize M.getD j1 0 = m1 at *
          generalize M.getD j9 0 = m9 at *
          generalize M.getD j14 0 = m14 at *
          have HN := hid hN
          have HLEN := hid hlen
          have r7 := ShaM.rr_lt x1 7
          have r18 := ShaM.rr_lt x1 18
          have r17 := ShaM.rr_lt x14 17
          have r19 := ShaM.rr_lt x14 19
          have X1 := hid (xor3 r7 r18)
          obtain ⟨L, hL⟩ : ∃ L, L = ShaM.l0 m1 := ⟨_, rfl⟩
          obtain ⟨R, hRR⟩ : ∃ R, R = ShaM.l1 m14 := ⟨_, rfl⟩
          have hLl : L < 4294967296 := by rw [hL]; exact Nat.xor_lt_two_pow (n := 32) (Nat.xor_lt_two_pow (n := 32) r7 r18) (Nat.lt_of_le_of_lt (Nat.div_le_self _ _) x1)
          have hRl : R < 4294967296 := by rw [hRR]; exact Nat.xor_lt_two_pow (n := 32) (Nat.xor_lt_two_pow (n := 32) r17 r19) (Nat.lt_of_le_of_lt (Nat.div_le_self _ _) x14)
          have X2 : Hid (bits .xor .u32 ((ShaM.rr m1 7 ^^^ ShaM.rr m1 18 : Nat) : Int) ((m1 : Int) / 8) = (L : Int)) := hid (by rw [hL]; exact xor3 (Nat.xor_lt_two_pow (n := 32) r7 r18) (show m1 / 8 < 4294967296 from Nat.lt_of_le_of_lt (Nat.div_le_self _ _) x1))
          have Y1 := hid (xor3 r17 r19)
          have Y2 : Hid (bits .xor .u32 ((ShaM.rr m14 17 ^^^ ShaM.rr m14 19 : Nat) : Int) ((m14 : Int) / 1024) = (R : Int)) := hid (by rw [hRR]; exact xor3 (Nat.xor_lt_two_pow (n := 32) r17 r19) (show m14 / 1024 < 4294967296 from Nat.lt_of_le_of_lt (Nat.div_le_self _ _) x14))
          rw [← hL, ← hRR] at HST
          obtain ⟨s1, hs1⟩ : ∃ s, s = ShaM.add m0 L := ⟨_, rfl⟩
          obtain ⟨s2, hs2⟩ : ∃ s, s = ShaM.add s1 m9 := ⟨_, rfl⟩
          obtain ⟨s3, hs3⟩ : ∃ s, s = ShaM.add s2 R := ⟨_, rfl⟩
          rw [← hs1, ← hs2, ← hs3] at HST
          have S1 : Hid (IntKind.u32.wrap ((m0 : Int) + (L : Int)) = (s1 : Int)) := hid (by rw [hs1]; exact add_wrap _ _)
          have S2 : Hid (IntKind.u32.wrap ((s1 : Int) + (m9 : Int)) = (s2 : Int)) := hid (by rw [hs2]; exact add_wrap _ _)
          have S3 : Hid (IntKind.u32.wrap ((s2 : Int) + (R : Int)) = (s3 : Int)) := hid (by rw [hs3]; exact add_wrap _ _)
          have s1l : s1 < 4294967296 := by rw [hs1]; exact ShaM.add_lt _ _
          have s2l : s2 < 4294967296 := by rw [hs2]; exact ShaM.add_lt _ _
          have s3l : s3 < 4294967296 := by rw [hs3]; exact ShaM.add_lt _ _
          have R7 := hid fun w => rrot_any m1 7 x1 (by omega) (by omega) w
          have R18 := hid fun w => rrot_any m1 18 x1 (by omega) (by omega) w
          have R17 := hid fun w => rrot_any m14 17 x14 (by omega) (by omega) w
          have R19 := hid fun w => rrot_any m14 19 x14 (by omega) (by omega) w
          have R3 := hid fun w => rcut3 m1 x1 w
          have R10 := hid fun w => rcut10 m14 x14 w
          clear hr2 hn hlt4 hj1 hj9 hj14 hN hlen hM r7 r18 r17 r19 hL hRR hs1 hs2 hs3
          go_wp2_with fail
          refine wp_region_tail (C := Drew wr) 20 (by kernel_rfl) (by kernel_rfl) (by kernel_rfl) (Drew.refl _) ?_
          simp only [List.take_succ_cons, List.take_zero, List.drop_succ_cons, List.drop_zero]
          apply wpK_val
          · rfl
          · intro w' hw'
            go_simp
            first | exact rfl | exact ⟨rfl, hw'⟩
          simp only [Act.put, List.setIfInBounds_toArray, List.set_cons_succ, List.set_cons_zero]
          apply wpK_val
          · rfl
          · intro w' hw'
            go_simp
            first | exact rfl | exact ⟨rfl, hw'⟩
          simp only [Act.put, List.setIfInBounds_toArray, List.set_cons_succ, List.set_cons_zero]
          apply wpK_val
          · rfl
          · intro w' hw'
            have h1 : _ := E1.out
            go_simp
            first | exact rfl | exact ⟨rfl, hw'⟩
          simp only [Act.put, List.setIfInBounds_toArray, List.set_cons_succ, List.set_cons_zero]
          apply wpK_val
          · rfl
          · intro w' hw'
            go_simp
            first | exact rfl | exact ⟨rfl, hw'⟩
          simp only [Act.put, List.setIfInBounds_toArray, List.set_cons_succ, List.set_cons_zero]
          apply wpK_val
          · rfl
          · intro w' hw'
            have hcell := hw'.cell C1.out
            go_simp
            first | exact rfl | exact ⟨rfl, hw'⟩
          simp only [Act.put, List.setIfInBounds_toArray, List.set_cons_succ, List.set_cons_zero]
          apply wpK_val
          · rfl
          · intro w' hw'
            go_simp
            exact (R7.out _).mono fun e w'' ⟨he, hb''⟩ => ⟨he, hb'' ▸ hw'⟩
          simp only [Act.put, List.setIfInBounds_toArray, List.set_cons_succ, List.set_cons_zero]
          apply wpK_val
          · rfl
          · intro w' hw'
            go_simp
            first | exact rfl | exact ⟨rfl, hw'⟩
          simp only [Act.put, List.setIfInBounds_toArray, List.set_cons_succ, List.set_cons_zero]
          apply wpK_val
          · rfl
          · intro w' hw'
            go_simp
            first | exact rfl | exact ⟨rfl, hw'⟩
          simp only [Act.put, List.setIfInBounds_toArray, List.set_cons_succ, List.set_cons_zero]
          apply wpK_val
          · rfl
          · intro w' hw'
            have h1 : _ := E1.out
            go_simp
            first | exact rfl | exact ⟨rfl, hw'⟩
          simp only [Act.put, List.setIfInBounds_toArray, List.set_cons_succ, List.set_cons_zero]
          apply wpK_val
          · rfl
          · intro w' hw'
            go_simp
            first | exact rfl | exact ⟨rfl, hw'⟩
          simp only [Act.put, List.setIfInBounds_toArray, List.set_cons_succ, List.set_cons_zero]
          apply wpK_val
          · rfl
          · intro w' hw'
            have hcell := hw'.cell C1.out
            go_simp
            first | exact rfl | exact ⟨rfl, hw'⟩
          simp only [Act.put, List.setIfInBounds_toArray, List.set_cons_succ, List.set_cons_zero]
          apply wpK_val
          · rfl
          · intro w' hw'
            go_simp
            exact (R18.out _).mono fun e w'' ⟨he, hb''⟩ => ⟨he, hb'' ▸ hw'⟩
          simp only [Act.put, List.setIfInBounds_toArray, List.set_cons_succ, List.set_cons_zero]
          apply wpK_val
          · rfl
          · intro w' hw'
            have h1 : _ := X1.out
            go_simp
            first | exact rfl | exact ⟨rfl, hw'⟩
          simp only [Act.put, List.setIfInBounds_toArray, List.set_cons_succ, List.set_cons_zero]
          apply wpK_val
          · rfl
          · intro w' hw'
            go_simp
            first | exact rfl | exact ⟨rfl, hw'⟩
          simp only [Act.put, List.setIfInBounds_toArray, List.set_cons_succ, List.set_cons_zero]
          apply wpK_val
          · rfl
          · intro w' hw'
            go_simp
            first | exact rfl | exact ⟨rfl, hw'⟩
          simp only [Act.put, List.setIfInBounds_toArray, List.set_cons_succ, List.set_cons_zero]
          apply wpK_val
          · rfl
          · intro w' hw'
            have h1 : _ := E1.out
            go_simp
            first | exact rfl | exact ⟨rfl, hw'⟩
          simp only [Act.put, List.setIfInBounds_toArray, List.set_cons_succ, List.set_cons_zero]
          apply wpK_val
          · rfl
          · intro w' hw'
            go_simp
            first | exact rfl | exact ⟨rfl, hw'⟩
          simp only [Act.put, List.setIfInBounds_toArray, List.set_cons_succ, List.set_cons_zero]
          apply wpK_val
          · rfl
          · intro w' hw'
            have hcell := hw'.cell C1.out
            go_simp
            first | exact rfl | exact ⟨rfl, hw'⟩
          simp only [Act.put, List.setIfInBounds_toArray, List.set_cons_succ, List.set_cons_zero]
          apply wpK_val
          · rfl
          · intro w' hw'
            go_simp
            exact (R3.out _).mono fun e w'' ⟨he, hb''⟩ => ⟨he, hb'' ▸ hw'⟩
          simp only [Act.put, List.setIfInBounds_toArray, List.set_cons_succ, List.set_cons_zero]
          apply wpK_val
          · rfl
          · intro w' hw'
            have h1 : _ := X2.out
            go_simp
            first | exact rfl | exact ⟨rfl, hw'⟩
          simp only [Act.put, List.setIfInBounds_toArray, List.set_cons_succ, List.set_cons_zero]
          refine wpK_nil fun w5 hw5 => ?_
          go_wp2_with fail
          refine wp_region_tail (C := Drew wr) 20 (by kernel_rfl) (by kernel_rfl) (by kernel_rfl) (hw5.trans (Drew.refl _)) ?_
          simp only [List.take_succ_cons, List.take_zero, List.drop_succ_cons, List.drop_zero]
          apply wpK_val
          · rfl
          · intro w' hw'
            go_simp
            first | exact rfl | exact ⟨rfl, hw'⟩
          simp only [Act.put, List.setIfInBounds_toArray, List.set_cons_succ, List.set_cons_zero]
          apply wpK_val
          · rfl
          · intro w' hw'
            go_simp
            first | exact rfl | exact ⟨rfl, hw'⟩
          simp only [Act.put, List.setIfInBounds_toArray, List.set_cons_succ, List.set_cons_zero]
          apply wpK_val
          · rfl
          · intro w' hw'
            have h1 : _ := E14.out
            go_simp
            first | exact rfl | exact ⟨rfl, hw'⟩
          simp only [Act.put, List.setIfInBounds_toArray, List.set_cons_succ, List.set_cons_zero]
          apply wpK_val
          · rfl
          · intro w' hw'
            go_simp
            first | exact rfl | exact ⟨rfl, hw'⟩
          simp only [Act.put, List.setIfInBounds_toArray, List.set_cons_succ, List.set_cons_zero]
          apply wpK_val
          · rfl
          · intro w' hw'
            have hcell := hw'.cell C14.out
            go_simp
            first | exact rfl | exact ⟨rfl, hw'⟩
          simp only [Act.put, List.setIfInBounds_toArray, List.set_cons_succ, List.set_cons_zero]
          apply wpK_val
          · rfl
          · intro w' hw'
            go_simp
            exact (R17.out _).mono fun e w'' ⟨he, hb''⟩ => ⟨he, hb'' ▸ hw'⟩
          simp only [Act.put, List.setIfInBounds_toArray, List.set_cons_succ, List.set_cons_zero]
          apply wpK_val
          · rfl
          · intro w' hw'
            go_simp
            first | exact rfl | exact ⟨rfl, hw'⟩
          simp only [Act.put, List.setIfInBounds_toArray, List.set_cons_succ, List.set_cons_zero]
          apply wpK_val
          · rfl
          · intro w' hw'
            go_simp
            first | exact rfl | exact ⟨rfl, hw'⟩
          simp only [Act.put, List.setIfInBounds_toArray, List.set_cons_succ, List.set_cons_zero]
          apply wpK_val
          · rfl
          · intro w' hw'
            have h1 : _ := E14.out
            go_simp
            first | exact rfl | exact ⟨rfl, hw'⟩
          simp only [Act.put, List.setIfInBounds_toArray, List.set_cons_succ, List.set_cons_zero]
          apply wpK_val
          · rfl
          · intro w' hw'
            go_simp
            first | exact rfl | exact ⟨rfl, hw'⟩
          simp only [Act.put, List.setIfInBounds_toArray, List.set_cons_succ, List.set_cons_zero]
          apply wpK_val
          · rfl
          · intro w' hw'
            have hcell := hw'.cell C14.out
            go_simp
            first | exact rfl | exact ⟨rfl, hw'⟩
          simp only [Act.put, List.setIfInBounds_toArray, List.set_cons_succ, List.set_cons_zero]
          apply wpK_val
          · rfl
          · intro w' hw'
            go_simp
            exact (R19.out _).mono fun e w'' ⟨he, hb''⟩ => ⟨he, hb'' ▸ hw'⟩
          simp only [Act.put, List.setIfInBounds_toArray, List.set_cons_succ, List.set_cons_zero]
          apply wpK_val
          · rfl
          · intro w' hw'
            have h1 : _ := Y1.out
            go_simp
            first | exact rfl | exact ⟨rfl, hw'⟩
          simp only [Act.put, List.setIfInBounds_toArray, List.set_cons_succ, List.set_cons_zero]
          apply wpK_val
          · rfl
          · intro w' hw'
            go_simp
            first | exact rfl | exact ⟨rfl, hw'⟩
          simp only [Act.put, List.setIfInBounds_toArray, List.set_cons_succ, List.set_cons_zero]
          apply wpK_val
          · rfl
          · intro w' hw'
            go_simp
            first | exact rfl | exact ⟨rfl, hw'⟩
          simp only [Act.put, List.setIfInBounds_toArray, List.set_cons_succ, List.set_cons_zero]
          apply wpK_val
          · rfl
          · intro w' hw'
            have h1 : _ := E14.out
            go_simp
            first | exact rfl | exact ⟨rfl, hw'⟩
          simp only [Act.put, List.setIfInBounds_toArray, List.set_cons_succ, List.set_cons_zero]
          apply wpK_val
          · rfl
          · intro w' hw'
            go_simp
            first | exact rfl | exact ⟨rfl, hw'⟩
          simp only [Act.put, List.setIfInBounds_toArray, List.set_cons_succ, List.set_cons_zero]
          apply wpK_val
          · rfl
          · intro w' hw'
            have hcell := hw'.cell C14.out
            go_simp
            first | exact rfl | exact ⟨rfl, hw'⟩
          simp only [Act.put, List.setIfInBounds_toArray, List.set_cons_succ, List.set_cons_zero]
          apply wpK_val
          · rfl
          · intro w' hw'
            go_simp
            exact (R10.out _).mono fun e w'' ⟨he, hb''⟩ => ⟨he, hb'' ▸ hw'⟩
          simp only [Act.put, List.setIfInBounds_toArray, List.set_cons_succ, List.set_cons_zero]
          apply wpK_val
          · rfl
          · intro w' hw'
            have h1 : _ := Y2.out
            go_simp
            first | exact rfl | exact ⟨rfl, hw'⟩
          simp only [Act.put, List.setIfInBounds_toArray, List.set_cons_succ, List.set_cons_zero]
          refine wpK_nil fun w6 hw6 => ?_
          clear hw5
          go_wp2_with fail
          have hz6 := hw6.heap
          have C0' := hid (hw6.cell C0.out)
          have C9' := hid (hw6.cell C9.out)
          have hB6 : b2 < w6.heap.size := by rw [hz6]; exact hB2
          refine wp_region_put (C := Put w6 (.cells #[.int .u32 (s3 : Nat)] 65)) 16 17 (by omega) (by kernel_rfl) (by kernel_rfl) (by kernel_rfl) (Drew.refl _) ?_
          simp only [List.take_succ_cons, List.take_zero, List.drop_succ_cons, List.drop_zero]
          apply wpS_val
          · decide
          · rfl
          · intro bb w' hw'
            go_simp
            first | exact rfl | exact ⟨rfl, hw'⟩
          simp only [Act.put, List.setIfInBounds_toArray, List.set_cons_succ, List.set_cons_zero]
          apply wpS_val
          · decide
          · rfl
          · intro bb w' hw'
            go_simp
            first | exact rfl | exact ⟨rfl, hw'⟩
          simp only [Act.put, List.setIfInBounds_toArray, List.set_cons_succ, List.set_cons_zero]
          apply wpS_val
          · decide
          · rfl
          · intro bb w' hw'
            go_simp
            first | exact rfl | exact ⟨rfl, hw'⟩
          simp only [Act.put, List.setIfInBounds_toArray, List.set_cons_succ, List.set_cons_zero]
          apply wpS_val
          · decide
          · rfl
          · intro bb w' hw'
            have h1 : _ := E0.out
            go_simp
            first | exact rfl | exact ⟨rfl, hw'⟩
          simp only [Act.put, List.setIfInBounds_toArray, List.set_cons_succ, List.set_cons_zero]
          apply wpS_val
          · decide
          · rfl
          · intro bb w' hw'
            go_simp
            first | exact rfl | exact ⟨rfl, hw'⟩
          simp only [Act.put, List.setIfInBounds_toArray, List.set_cons_succ, List.set_cons_zero]
          apply wpS_val
          · decide
          · rfl
          · intro bb w' hw'
            have hcell : _ := hw'.cell hB6 C0'.out
            go_simp
            first | exact rfl | exact ⟨rfl, hw'⟩
          simp only [Act.put, List.setIfInBounds_toArray, List.set_cons_succ, List.set_cons_zero]
          apply wpS_val
          · decide
          · rfl
          · intro bb w' hw'
            go_simp
            first | exact rfl | exact ⟨rfl, hw'⟩
          simp only [Act.put, List.setIfInBounds_toArray, List.set_cons_succ, List.set_cons_zero]
          apply wpS_val
          · decide
          · rfl
          · intro bb w' hw'
            have h1 : _ := S1.out
            go_simp
            first | exact rfl | exact ⟨rfl, hw'⟩
          simp only [Act.put, List.setIfInBounds_toArray, List.set_cons_succ, List.set_cons_zero]
          apply wpS_val
          · decide
          · rfl
          · intro bb w' hw'
            go_simp
            first | exact rfl | exact ⟨rfl, hw'⟩
          simp only [Act.put, List.setIfInBounds_toArray, List.set_cons_succ, List.set_cons_zero]
          apply wpS_val
          · decide
          · rfl
          · intro bb w' hw'
            go_simp
            first | exact rfl | exact ⟨rfl, hw'⟩
          simp only [Act.put, List.setIfInBounds_toArray, List.set_cons_succ, List.set_cons_zero]
          apply wpS_val
          · decide
          · rfl
          · intro bb w' hw'
            have h1 : _ := E9.out
            go_simp
            first | exact rfl | exact ⟨rfl, hw'⟩
          simp only [Act.put, List.setIfInBounds_toArray, List.set_cons_succ, List.set_cons_zero]
          apply wpS_val
          · decide
          · rfl
          · intro bb w' hw'
            go_simp
            first | exact rfl | exact ⟨rfl, hw'⟩
          simp only [Act.put, List.setIfInBounds_toArray, List.set_cons_succ, List.set_cons_zero]
          apply wpS_val
          · decide
          · rfl
          · intro bb w' hw'
            have hcell : _ := hw'.cell hB6 C9'.out
            go_simp
            first | exact rfl | exact ⟨rfl, hw'⟩
          simp only [Act.put, List.setIfInBounds_toArray, List.set_cons_succ, List.set_cons_zero]
          apply wpS_val
          · decide
          · rfl
          · intro bb w' hw'
            have h1 : _ := S2.out
            go_simp
            first | exact rfl | exact ⟨rfl, hw'⟩
          simp only [Act.put, List.setIfInBounds_toArray, List.set_cons_succ, List.set_cons_zero]
          apply wpS_val
          · decide
          · rfl
          · intro bb w' hw'
            go_simp
            first | exact rfl | exact ⟨rfl, hw'⟩
          simp only [Act.put, List.setIfInBounds_toArray, List.set_cons_succ, List.set_cons_zero]
          apply wpS_val
          · decide
          · rfl
          · intro bb w' hw'
            have h1 : _ := S3.out
            go_simp
            first | exact rfl | exact ⟨rfl, hw'⟩
          simp only [Act.put, List.setIfInBounds_toArray, List.set_cons_succ, List.set_cons_zero]
          apply wpS_put
          · rfl
          · rfl
          · intro w' hw'
            have hw2 : Drew w6 w' := hw'
            have hz := hw2.heap
            go_simp
            exact ⟨rfl, w', hw2, rfl⟩
          simp only [Act.put, List.setIfInBounds_toArray, List.set_cons_succ, List.set_cons_zero]
          refine wpS_nil fun w8 hw8 => ?_
          obtain ⟨w7, h7, rfl⟩ := hw8
          have hz7 : wr.heap.size = w7.heap.size := by rw [h7.heap, hz6]
          have o7 := hid (ho.out.heap (by rw [h7.heap, hz6]))
          have b7 := hid (h7.below (hw6.below hb.out))
          have HZ7 := hid hz7
          clear hw6 h7 hz6 hB6 C0' C9' hz7 S1 S2 S3 X1 X2 Y1 Y2
          go_wp2_with (at_builtin; (with_reducible apply wappN elt32); rfl; rfl; exact o7.out.alloc _; exact nums_one' (x := s3) (B := w7.heap.size + 1) rfl HZ7.out (Nat.lt_succ_self _); rfl; (rw [HLEN.out]; omega); (simp; have := HZ7.out; omega); intro v' w9 o9 g9)
          have b9 := below_grown (b7.out.alloc (by have := HZ7.out; omega) (.cells #[.int .u32 (s3 : Nat)] 65)) g9 o7.out (Nat.le_refl _) (Nat.le_refl _)
          obtain ⟨A3, c3, e3, _, _, _⟩ := o9.any
          rw [List.length_append, HLEN.out, List.length_singleton] at e3
          subst e3
          go_roundw
          case rel => exact ⟨N + 1, k + 1, A3, c3, by have := HN.out; omega, by omega, by go_num, rfl, hid (by rw [HST.out]; exact o9), hid b9⟩
          case measure => simp [intOf] <;> omega
        · obtain rfl : k = 48 := by omega
          have tN : decide ((N : Int) < 64) = false := by simp; omega
          have hfin := hid (ho.out.fresh hb.out)
          clear ho
          go_wp2_with fail
          go_ret
          exact hfin.out
end Go.Proofs.YtmbhibilmedjmaaDoor
set_option maxRecDepth 100000
namespace Go.Proofs.YtmbhibilmedjmaaDoor
open Go.ChangeShapes Go.WideShapes Go.ChangeAt Go.RowKit
attribute [local go_sem] Gives
/-- The eight numbers. -/
def lst8 (s : ShaM.S8) : List Nat := [s.a, s.b, s.c, s.d, s.e, s.f, s.g, s.h]
theorem lst8_get (s : ShaM.S8) {j : Nat} (h : j < 8) : (lst8 s).getD j 0 = s.get j := by
  match j, h with
  | 0, _ | 1, _ | 2, _ | 3, _ | 4, _ | 5, _ | 6, _ | 7, _ => rfl
theorem nums_lit8 {w : World} {t : TypeId} {n : Nat} {x0 x1 x2 x3 x4 x5 x6 x7 : Nat} {B : Nat} (hn : n = w.heap.size) (hB : w.heap.size < B) :
    Nums .u32 (w.alloc (.cells #[.int .u32 (x0 : Nat), .int .u32 (x1 : Nat), .int .u32 (x2 : Nat), .int .u32 (x3 : Nat), .int .u32 (x4 : Nat), .int .u32 (x5 : Nat), .int .u32 (x6 : Nat), .int .u32 (x7 : Nat)] t)) B (some ⟨n, 0, none⟩) [x0, x1, x2, x3, x4, x5, x6, x7] := by
  subst hn
  refine Nums.row (Blk.top (t := t) rfl rfl) hB fun j hj => ?_
  match j, hj with
  | 0, _ | 1, _ | 2, _ | 3, _ | 4, _ | 5, _ | 6, _ | 7, _ => rfl
set_option maxHeartbeats 2000000 in
set_option maxRecDepth 100000 in
theorem rpass_any (s : ShaM.S8) (hs : s.ok) (A0 : Option Addr) (cap0 : Nat) (A : Option Addr) (l : List Nat) (cap : Nat) (hl : l.length = 64) (h256 : ∀ k, ShaM.at' l k < 256) (A9 : Option Addr) (cap9 : Nat) (w : World)
    (h0 : Nums .u32 w w.heap.size A0 (lst8 s)) (hA : Byt w w.heap.size A l) (h9 : Nums .u32 w w.heap.size A9 ShaM.salts) :
    Calls Tryd.prog 56 #[.slice A0 8 cap0, .slice A 64 cap, .slice A9 64 cap9] w fun e w' => Fresh .u32 w w' e (lst8 (ShaM.pass s (ShaM.at' l))) := by
  obtain ⟨b9, o9, rfl, hB9, hr9⟩ := h9 (by show 0 < 64; omega)
  obtain ⟨b0, o0, rfl, hB0, hr0⟩ := h0 (by show 0 < 8; omega)
  have HS := hid hs
  have HR9 := hid hr9
  have HR0 := hid hr0
  have HB := hid h256
  have M := message_any A l cap hl h256 w hA
  have hml := ShaM.sched_length (ShaM.at' l)
  have hmlt := fun i => ShaM.sched_lt HB.out i
  have hfin : ShaM.pass s (ShaM.at' l) = ShaM.addS (ShaM.steps (ShaM.sched (ShaM.at' l)) 64 s) s := rfl
  rw [hfin]
  clear hfin
  generalize ShaM.sched (ShaM.at' l) = m at *
  unfold Fresh at M
  rw [hml] at M
  have HMLT := hid hmlt
  have HML := hid hml
  have MM := hid M
  clear h0 hA h9 hr9 hr0 hs h256 hmlt hml M
  go_enter Tryd.func56, Tryd.ntmps56
  go_wp2_with fail
  refine MM.out.mono ?_
  rintro e w1 ⟨Am, cm, rfl, _, _, hm, hb1⟩
  obtain ⟨bm, om, rfl, hBm, hrm⟩ := hm (by rw [HML.out]; omega)
  have HRM := hid hrm
  have HB1 := hid hb1
  clear hrm hb1 hm MM
  have N0 : Nums .u32 w1 w1.heap.size (some ⟨b0, o0, none⟩) (lst8 s) := fun _ => ⟨b0, o0, rfl, Nat.lt_of_lt_of_le hB0 HB1.out.size, fun i hi => (HB1.out.cell (p := ⟨b0, o0 + i, none⟩) hB0).trans (HR0.out i hi)⟩
  have HN0 := hid N0
  clear N0
  go_wp2_with fail
  go_loopw [8, 9] (fun u v wr => ∃ (i : Nat) (An : Option Addr) (cn : Nat), i ≤ 64 ∧ v = .int .i64 i ∧ u = .slice An 8 cn ∧ Hid (Nums .u32 wr wr.heap.size An (lst8 (ShaM.steps m i s))) ∧ Hid (Below w1.heap.size w1 wr)) (fun _ v _ => 64 - (intOf v).toNat)
  case atStart => exact ⟨0, _, _, by omega, rfl, rfl, HN0, hid (Below.refl _ _)⟩
  case round =>
    obtain ⟨i, An, cn, hi, rfl, rfl, hn, hb⟩ := hrel
    clear HN0
    by_cases hlt : i < 64
    · have ti : (i : Int) < 64 := by omega
      obtain ⟨bn, on, rfl, hBn, hrn⟩ := hn.out (by show 0 < 8; omega)
      have hTok := ShaM.steps_ok m HS.out i
      have hstep : ShaM.steps m (i + 1) s = ShaM.step (ShaM.steps m i s) (ShaM.add (ShaM.saltAt i) (m.getD i 0)) := rfl
      have HSTEP := hid hstep
      clear hstep
      generalize hT : ShaM.steps m i s = T at *
      clear hT
      have hk := ShaM.salt_lt i
      have hmm := HMLT.out i
      have k9 : wr.cell? ⟨b9, o9 + i, none⟩ = some (.int .u32 (ShaM.saltAt i : Nat)) := (hb.out.cell (p := ⟨b9, o9 + i, none⟩) (Nat.lt_of_lt_of_le hB9 HB1.out.size)).trans ((HB1.out.cell (p := ⟨b9, o9 + i, none⟩) hB9).trans (HR9.out i hlt))
      have km : wr.cell? ⟨bm, om + i, none⟩ = some (.int .u32 (m.getD i 0 : Nat)) := (hb.out.cell (p := ⟨bm, om + i, none⟩) hBm).trans (HRM.out i (by rw [HML.out]; exact hlt))
      have hp := ShaM.pOf_sum T (ShaM.saltAt i) (m.getD i 0)
      have hq := ShaM.qOf_sum T
      have hst : ShaM.step T (ShaM.add (ShaM.saltAt i) (m.getD i 0)) = ⟨ShaM.add (ShaM.pOf T (ShaM.add (ShaM.saltAt i) (m.getD i 0))) (ShaM.qOf T), T.a, T.b, T.c, ShaM.add T.d (ShaM.pOf T (ShaM.add (ShaM.saltAt i) (m.getD i 0))), T.e, T.f, T.g⟩ := rfl
      rw [hst] at HSTEP
      generalize ShaM.pOf T (ShaM.add (ShaM.saltAt i) (m.getD i 0)) = P at *
      generalize ShaM.qOf T = Q at *
      generalize ShaM.saltAt i = kk at *
      generalize m.getD i 0 = mm at *
      obtain ⟨la, lb, lc, ld, le', lf, lg, lh⟩ := hTok
      have K0 := hid (hrn 0 (by show 0 < 8; omega))
      have K1 := hid (hrn 1 (by show 1 < 8; omega))
      have K2 := hid (hrn 2 (by show 2 < 8; omega))
      have K3 := hid (hrn 3 (by show 3 < 8; omega))
      have K4 := hid (hrn 4 (by show 4 < 8; omega))
      have K5 := hid (hrn 5 (by show 5 < 8; omega))
      have K6 := hid (hrn 6 (by show 6 < 8; omega))
      have K7 := hid (hrn 7 (by show 7 < 8; omega))
      obtain ⟨a, b, c, d, e, f, g, h⟩ := T
      simp only [lst8, List.getD_cons_zero, List.getD_cons_succ, Nat.add_zero] at K0 K1 K2 K3 K4 K5 K6 K7
      simp only [] at la lb lc ld le' lf lg lh hp hq HSTEP
      have K9 := hid k9
      have KM := hid km
      clear hrn k9 km hn hst
      have r6 := ShaM.rr_lt le' 6
      have r11 := ShaM.rr_lt le' 11
      have r25 := ShaM.rr_lt le' 25
      have r2 := ShaM.rr_lt la 2
      have r13 := ShaM.rr_lt la 13
      have r22 := ShaM.rr_lt la 22
      have c6 := hid fun w => rrot_any e 6 le' (by omega) (by omega) w
      have c11 := hid fun w => rrot_any e 11 le' (by omega) (by omega) w
      have c25 := hid fun w => rrot_any e 25 le' (by omega) (by omega) w
      have c2 := hid fun w => rrot_any a 2 la (by omega) (by omega) w
      have c13 := hid fun w => rrot_any a 13 la (by omega) (by omega) w
      have c22 := hid fun w => rrot_any a 22 la (by omega) (by omega) w
      have cc := hid fun w => chosen_any e f g le' lf lg w
      have ct := hid fun w => two_any a b c la lb lc w
      have lch := ShaM.chN_lt (e := e) lf lg
      have ltw := ShaM.twN_lt (a := a) lb lc
      obtain ⟨z1, hz1⟩ : ∃ z, z = ShaM.rr e 6 ^^^ ShaM.rr e 11 := ⟨_, rfl⟩
      obtain ⟨z2, hz2⟩ : ∃ z, z = z1 ^^^ ShaM.rr e 25 := ⟨_, rfl⟩
      obtain ⟨y1, hy1⟩ : ∃ z, z = ShaM.rr a 2 ^^^ ShaM.rr a 13 := ⟨_, rfl⟩
      obtain ⟨y2, hy2⟩ : ∃ z, z = y1 ^^^ ShaM.rr a 22 := ⟨_, rfl⟩
      have lz1 : z1 < 4294967296 := by rw [hz1]; exact Nat.xor_lt_two_pow (n := 32) r6 r11
      have ly1 : y1 < 4294967296 := by rw [hy1]; exact Nat.xor_lt_two_pow (n := 32) r2 r13
      have lz2 : z2 < 4294967296 := by rw [hz2]; exact Nat.xor_lt_two_pow (n := 32) lz1 r25
      have ly2 : y2 < 4294967296 := by rw [hy2]; exact Nat.xor_lt_two_pow (n := 32) ly1 r22
      have X1 : Hid (bits .xor .u32 ((ShaM.rr e 6 : Nat) : Int) ((ShaM.rr e 11 : Nat) : Int) = (z1 : Int)) := hid (by rw [hz1]; exact xor3 r6 r11)
      have X2 : Hid (bits .xor .u32 (z1 : Int) ((ShaM.rr e 25 : Nat) : Int) = (z2 : Int)) := hid (by rw [hz2]; exact xor3 lz1 r25)
      have Y1 : Hid (bits .xor .u32 ((ShaM.rr a 2 : Nat) : Int) ((ShaM.rr a 13 : Nat) : Int) = (y1 : Int)) := hid (by rw [hy1]; exact xor3 r2 r13)
      have Y2 : Hid (bits .xor .u32 (y1 : Int) ((ShaM.rr a 22 : Nat) : Int) = (y2 : Int)) := hid (by rw [hy2]; exact xor3 ly1 r22)
      rw [← hz1, ← hz2] at hp
      rw [← hy1, ← hy2] at hq
      generalize ShaM.chN e f g = ch at *
      generalize ShaM.twN a b c = tw at *
      obtain ⟨P1, hP1⟩ : ∃ z, z = ShaM.add h z2 := ⟨_, rfl⟩
      obtain ⟨P2, hP2⟩ : ∃ z, z = ShaM.add P1 ch := ⟨_, rfl⟩
      obtain ⟨P3, hP3⟩ : ∃ z, z = ShaM.add P2 kk := ⟨_, rfl⟩
      rw [← hP1, ← hP2, ← hP3] at hp
      have lP1 : P1 < 4294967296 := by rw [hP1]; exact ShaM.add_lt _ _
      have lP2 : P2 < 4294967296 := by rw [hP2]; exact ShaM.add_lt _ _
      have lP3 : P3 < 4294967296 := by rw [hP3]; exact ShaM.add_lt _ _
      have lP : P < 4294967296 := by rw [hp]; exact ShaM.add_lt _ _
      have lQ : Q < 4294967296 := by rw [hq]; exact ShaM.add_lt _ _
      have S1 : Hid (IntKind.u32.wrap ((h : Int) + (z2 : Int)) = (P1 : Int)) := hid (by rw [hP1]; exact add_wrap _ _)
      have S2 : Hid (IntKind.u32.wrap ((P1 : Int) + (ch : Int)) = (P2 : Int)) := hid (by rw [hP2]; exact add_wrap _ _)
      have S3 : Hid (IntKind.u32.wrap ((P2 : Int) + (kk : Int)) = (P3 : Int)) := hid (by rw [hP3]; exact add_wrap _ _)
      have S4 : Hid (IntKind.u32.wrap ((P3 : Int) + (mm : Int)) = (P : Int)) := hid (by rw [hp]; exact add_wrap _ _)
      have U1 : Hid (IntKind.u32.wrap ((y2 : Int) + (tw : Int)) = (Q : Int)) := hid (by rw [hq]; exact add_wrap _ _)
      obtain ⟨PQ, hPQ⟩ : ∃ z, z = ShaM.add P Q := ⟨_, rfl⟩
      obtain ⟨dP, hdP⟩ : ∃ z, z = ShaM.add d P := ⟨_, rfl⟩
      rw [← hPQ, ← hdP] at HSTEP
      have V1 : Hid (IntKind.u32.wrap ((P : Int) + (Q : Int)) = (PQ : Int)) := hid (by rw [hPQ]; exact add_wrap _ _)
      have V2 : Hid (IntKind.u32.wrap ((d : Int) + (P : Int)) = (dP : Int)) := hid (by rw [hdP]; exact add_wrap _ _)
      clear hp hq hz1 hz2 hy1 hy2 hP1 hP2 hP3 hPQ hdP r6 r11 r25 r2 r13 r22
      have k4 := K4.out
      go_wp2_with fail
      clear k4
      refine wp_region_tail (C := Drew wr) 31 (by kernel_rfl) (by kernel_rfl) (by kernel_rfl) (Drew.refl _) ?_
      simp only [List.take_succ_cons, List.take_zero, List.drop_succ_cons, List.drop_zero]
      apply wpK_val
      · rfl
      · intro w' hw'
        go_simp
        first | exact rfl | exact ⟨rfl, hw'⟩
      simp only [Act.put, List.setIfInBounds_toArray, List.set_cons_succ, List.set_cons_zero]
      apply wpK_val
      · rfl
      · intro w' hw'
        go_simp
        first | exact rfl | exact ⟨rfl, hw'⟩
      simp only [Act.put, List.setIfInBounds_toArray, List.set_cons_succ, List.set_cons_zero]
      apply wpK_val
      · rfl
      · intro w' hw'
        have hcell := hw'.cell K7.out
        go_simp
        first | exact rfl | exact ⟨rfl, hw'⟩
      simp only [Act.put, List.setIfInBounds_toArray, List.set_cons_succ, List.set_cons_zero]
      apply wpK_val
      · rfl
      · intro w' hw'
        go_simp
        first | exact rfl | exact ⟨rfl, hw'⟩
      simp only [Act.put, List.setIfInBounds_toArray, List.set_cons_succ, List.set_cons_zero]
      apply wpK_val
      · rfl
      · intro w' hw'
        go_simp
        exact (c6.out _).mono fun e w'' ⟨he, hb''⟩ => ⟨he, hb'' ▸ hw'⟩
      simp only [Act.put, List.setIfInBounds_toArray, List.set_cons_succ, List.set_cons_zero]
      apply wpK_val
      · rfl
      · intro w' hw'
        go_simp
        first | exact rfl | exact ⟨rfl, hw'⟩
      simp only [Act.put, List.setIfInBounds_toArray, List.set_cons_succ, List.set_cons_zero]
      apply wpK_val
      · rfl
      · intro w' hw'
        go_simp
        exact (c11.out _).mono fun e w'' ⟨he, hb''⟩ => ⟨he, hb'' ▸ hw'⟩
      simp only [Act.put, List.setIfInBounds_toArray, List.set_cons_succ, List.set_cons_zero]
      apply wpK_val
      · rfl
      · intro w' hw'
        have h1 : _ := X1.out
        go_simp
        first | exact rfl | exact ⟨rfl, hw'⟩
      simp only [Act.put, List.setIfInBounds_toArray, List.set_cons_succ, List.set_cons_zero]
      apply wpK_val
      · rfl
      · intro w' hw'
        go_simp
        first | exact rfl | exact ⟨rfl, hw'⟩
      simp only [Act.put, List.setIfInBounds_toArray, List.set_cons_succ, List.set_cons_zero]
      apply wpK_val
      · rfl
      · intro w' hw'
        go_simp
        exact (c25.out _).mono fun e w'' ⟨he, hb''⟩ => ⟨he, hb'' ▸ hw'⟩
      simp only [Act.put, List.setIfInBounds_toArray, List.set_cons_succ, List.set_cons_zero]
      apply wpK_val
      · rfl
      · intro w' hw'
        have h1 : _ := X2.out
        go_simp
        first | exact rfl | exact ⟨rfl, hw'⟩
      simp only [Act.put, List.setIfInBounds_toArray, List.set_cons_succ, List.set_cons_zero]
      apply wpK_val
      · rfl
      · intro w' hw'
        have h1 : _ := S1.out
        go_simp
        first | exact rfl | exact ⟨rfl, hw'⟩
      simp only [Act.put, List.setIfInBounds_toArray, List.set_cons_succ, List.set_cons_zero]
      apply wpK_val
      · rfl
      · intro w' hw'
        go_simp
        first | exact rfl | exact ⟨rfl, hw'⟩
      simp only [Act.put, List.setIfInBounds_toArray, List.set_cons_succ, List.set_cons_zero]
      apply wpK_val
      · rfl
      · intro w' hw'
        go_simp
        first | exact rfl | exact ⟨rfl, hw'⟩
      simp only [Act.put, List.setIfInBounds_toArray, List.set_cons_succ, List.set_cons_zero]
      apply wpK_val
      · rfl
      · intro w' hw'
        go_simp
        first | exact rfl | exact ⟨rfl, hw'⟩
      simp only [Act.put, List.setIfInBounds_toArray, List.set_cons_succ, List.set_cons_zero]
      apply wpK_val
      · rfl
      · intro w' hw'
        have hcell := hw'.cell K5.out
        go_simp
        first | exact rfl | exact ⟨rfl, hw'⟩
      simp only [Act.put, List.setIfInBounds_toArray, List.set_cons_succ, List.set_cons_zero]
      apply wpK_val
      · rfl
      · intro w' hw'
        go_simp
        first | exact rfl | exact ⟨rfl, hw'⟩
      simp only [Act.put, List.setIfInBounds_toArray, List.set_cons_succ, List.set_cons_zero]
      apply wpK_val
      · rfl
      · intro w' hw'
        go_simp
        first | exact rfl | exact ⟨rfl, hw'⟩
      simp only [Act.put, List.setIfInBounds_toArray, List.set_cons_succ, List.set_cons_zero]
      apply wpK_val
      · rfl
      · intro w' hw'
        have hcell := hw'.cell K6.out
        go_simp
        first | exact rfl | exact ⟨rfl, hw'⟩
      simp only [Act.put, List.setIfInBounds_toArray, List.set_cons_succ, List.set_cons_zero]
      apply wpK_val
      · rfl
      · intro w' hw'
        go_simp
        exact (cc.out _).mono fun e w'' ⟨he, hb''⟩ => ⟨he, hb'' ▸ hw'⟩
      simp only [Act.put, List.setIfInBounds_toArray, List.set_cons_succ, List.set_cons_zero]
      apply wpK_val
      · rfl
      · intro w' hw'
        have h1 : _ := S2.out
        go_simp
        first | exact rfl | exact ⟨rfl, hw'⟩
      simp only [Act.put, List.setIfInBounds_toArray, List.set_cons_succ, List.set_cons_zero]
      apply wpK_val
      · rfl
      · intro w' hw'
        go_simp
        first | exact rfl | exact ⟨rfl, hw'⟩
      simp only [Act.put, List.setIfInBounds_toArray, List.set_cons_succ, List.set_cons_zero]
      apply wpK_val
      · rfl
      · intro w' hw'
        go_simp
        first | exact rfl | exact ⟨rfl, hw'⟩
      simp only [Act.put, List.setIfInBounds_toArray, List.set_cons_succ, List.set_cons_zero]
      apply wpK_val
      · rfl
      · intro w' hw'
        go_simp
        first | exact rfl | exact ⟨rfl, hw'⟩
      simp only [Act.put, List.setIfInBounds_toArray, List.set_cons_succ, List.set_cons_zero]
      apply wpK_val
      · rfl
      · intro w' hw'
        have hcell := hw'.cell K9.out
        go_simp
        first | exact rfl | exact ⟨rfl, hw'⟩
      simp only [Act.put, List.setIfInBounds_toArray, List.set_cons_succ, List.set_cons_zero]
      apply wpK_val
      · rfl
      · intro w' hw'
        have h1 : _ := S3.out
        go_simp
        first | exact rfl | exact ⟨rfl, hw'⟩
      simp only [Act.put, List.setIfInBounds_toArray, List.set_cons_succ, List.set_cons_zero]
      apply wpK_val
      · rfl
      · intro w' hw'
        go_simp
        first | exact rfl | exact ⟨rfl, hw'⟩
      simp only [Act.put, List.setIfInBounds_toArray, List.set_cons_succ, List.set_cons_zero]
      apply wpK_val
      · rfl
      · intro w' hw'
        go_simp
        first | exact rfl | exact ⟨rfl, hw'⟩
      simp only [Act.put, List.setIfInBounds_toArray, List.set_cons_succ, List.set_cons_zero]
      apply wpK_val
      · rfl
      · intro w' hw'
        go_simp
        first | exact rfl | exact ⟨rfl, hw'⟩
      simp only [Act.put, List.setIfInBounds_toArray, List.set_cons_succ, List.set_cons_zero]
      apply wpK_val
      · rfl
      · intro w' hw'
        have hcell := hw'.cell KM.out
        go_simp
        first | exact rfl | exact ⟨rfl, hw'⟩
      simp only [Act.put, List.setIfInBounds_toArray, List.set_cons_succ, List.set_cons_zero]
      apply wpK_val
      · rfl
      · intro w' hw'
        have h1 : _ := S4.out
        go_simp
        first | exact rfl | exact ⟨rfl, hw'⟩
      simp only [Act.put, List.setIfInBounds_toArray, List.set_cons_succ, List.set_cons_zero]
      refine wpK_nil fun w5 hw5 => ?_
      go_wp2_with fail
      refine wp_region_tail (C := Drew wr) 25 (by kernel_rfl) (by kernel_rfl) (by kernel_rfl) (hw5.trans (Drew.refl _)) ?_
      simp only [List.take_succ_cons, List.take_zero, List.drop_succ_cons, List.drop_zero]
      apply wpK_val
      · rfl
      · intro w' hw'
        go_simp
        first | exact rfl | exact ⟨rfl, hw'⟩
      simp only [Act.put, List.setIfInBounds_toArray, List.set_cons_succ, List.set_cons_zero]
      apply wpK_val
      · rfl
      · intro w' hw'
        go_simp
        first | exact rfl | exact ⟨rfl, hw'⟩
      simp only [Act.put, List.setIfInBounds_toArray, List.set_cons_succ, List.set_cons_zero]
      apply wpK_val
      · rfl
      · intro w' hw'
        have hcell := hw'.cell K0.out
        go_simp
        first | exact rfl | exact ⟨rfl, hw'⟩
      simp only [Act.put, List.setIfInBounds_toArray, List.set_cons_succ, List.set_cons_zero]
      apply wpK_val
      · rfl
      · intro w' hw'
        go_simp
        exact (c2.out _).mono fun e w'' ⟨he, hb''⟩ => ⟨he, hb'' ▸ hw'⟩
      simp only [Act.put, List.setIfInBounds_toArray, List.set_cons_succ, List.set_cons_zero]
      apply wpK_val
      · rfl
      · intro w' hw'
        go_simp
        first | exact rfl | exact ⟨rfl, hw'⟩
      simp only [Act.put, List.setIfInBounds_toArray, List.set_cons_succ, List.set_cons_zero]
      apply wpK_val
      · rfl
      · intro w' hw'
        go_simp
        first | exact rfl | exact ⟨rfl, hw'⟩
      simp only [Act.put, List.setIfInBounds_toArray, List.set_cons_succ, List.set_cons_zero]
      apply wpK_val
      · rfl
      · intro w' hw'
        have hcell := hw'.cell K0.out
        go_simp
        first | exact rfl | exact ⟨rfl, hw'⟩
      simp only [Act.put, List.setIfInBounds_toArray, List.set_cons_succ, List.set_cons_zero]
      apply wpK_val
      · rfl
      · intro w' hw'
        go_simp
        exact (c13.out _).mono fun e w'' ⟨he, hb''⟩ => ⟨he, hb'' ▸ hw'⟩
      simp only [Act.put, List.setIfInBounds_toArray, List.set_cons_succ, List.set_cons_zero]
      apply wpK_val
      · rfl
      · intro w' hw'
        have h1 : _ := Y1.out
        go_simp
        first | exact rfl | exact ⟨rfl, hw'⟩
      simp only [Act.put, List.setIfInBounds_toArray, List.set_cons_succ, List.set_cons_zero]
      apply wpK_val
      · rfl
      · intro w' hw'
        go_simp
        first | exact rfl | exact ⟨rfl, hw'⟩
      simp only [Act.put, List.setIfInBounds_toArray, List.set_cons_succ, List.set_cons_zero]
      apply wpK_val
      · rfl
      · intro w' hw'
        go_simp
        first | exact rfl | exact ⟨rfl, hw'⟩
      simp only [Act.put, List.setIfInBounds_toArray, List.set_cons_succ, List.set_cons_zero]
      apply wpK_val
      · rfl
      · intro w' hw'
        have hcell := hw'.cell K0.out
        go_simp
        first | exact rfl | exact ⟨rfl, hw'⟩
      simp only [Act.put, List.setIfInBounds_toArray, List.set_cons_succ, List.set_cons_zero]
      apply wpK_val
      · rfl
      · intro w' hw'
        go_simp
        exact (c22.out _).mono fun e w'' ⟨he, hb''⟩ => ⟨he, hb'' ▸ hw'⟩
      simp only [Act.put, List.setIfInBounds_toArray, List.set_cons_succ, List.set_cons_zero]
      apply wpK_val
      · rfl
      · intro w' hw'
        have h1 : _ := Y2.out
        go_simp
        first | exact rfl | exact ⟨rfl, hw'⟩
      simp only [Act.put, List.setIfInBounds_toArray, List.set_cons_succ, List.set_cons_zero]
      apply wpK_val
      · rfl
      · intro w' hw'
        go_simp
        first | exact rfl | exact ⟨rfl, hw'⟩
      simp only [Act.put, List.setIfInBounds_toArray, List.set_cons_succ, List.set_cons_zero]
      apply wpK_val
      · rfl
      · intro w' hw'
        go_simp
        first | exact rfl | exact ⟨rfl, hw'⟩
      simp only [Act.put, List.setIfInBounds_toArray, List.set_cons_succ, List.set_cons_zero]
      apply wpK_val
      · rfl
      · intro w' hw'
        have hcell := hw'.cell K0.out
        go_simp
        first | exact rfl | exact ⟨rfl, hw'⟩
      simp only [Act.put, List.setIfInBounds_toArray, List.set_cons_succ, List.set_cons_zero]
      apply wpK_val
      · rfl
      · intro w' hw'
        go_simp
        first | exact rfl | exact ⟨rfl, hw'⟩
      simp only [Act.put, List.setIfInBounds_toArray, List.set_cons_succ, List.set_cons_zero]
      apply wpK_val
      · rfl
      · intro w' hw'
        go_simp
        first | exact rfl | exact ⟨rfl, hw'⟩
      simp only [Act.put, List.setIfInBounds_toArray, List.set_cons_succ, List.set_cons_zero]
      apply wpK_val
      · rfl
      · intro w' hw'
        have hcell := hw'.cell K1.out
        go_simp
        first | exact rfl | exact ⟨rfl, hw'⟩
      simp only [Act.put, List.setIfInBounds_toArray, List.set_cons_succ, List.set_cons_zero]
      apply wpK_val
      · rfl
      · intro w' hw'
        go_simp
        first | exact rfl | exact ⟨rfl, hw'⟩
      simp only [Act.put, List.setIfInBounds_toArray, List.set_cons_succ, List.set_cons_zero]
      apply wpK_val
      · rfl
      · intro w' hw'
        go_simp
        first | exact rfl | exact ⟨rfl, hw'⟩
      simp only [Act.put, List.setIfInBounds_toArray, List.set_cons_succ, List.set_cons_zero]
      apply wpK_val
      · rfl
      · intro w' hw'
        have hcell := hw'.cell K2.out
        go_simp
        first | exact rfl | exact ⟨rfl, hw'⟩
      simp only [Act.put, List.setIfInBounds_toArray, List.set_cons_succ, List.set_cons_zero]
      apply wpK_val
      · rfl
      · intro w' hw'
        go_simp
        exact (ct.out _).mono fun e w'' ⟨he, hb''⟩ => ⟨he, hb'' ▸ hw'⟩
      simp only [Act.put, List.setIfInBounds_toArray, List.set_cons_succ, List.set_cons_zero]
      apply wpK_val
      · rfl
      · intro w' hw'
        have h1 : _ := U1.out
        go_simp
        first | exact rfl | exact ⟨rfl, hw'⟩
      simp only [Act.put, List.setIfInBounds_toArray, List.set_cons_succ, List.set_cons_zero]
      refine wpK_nil fun w6 hw6 => ?_
      clear hw5
      go_wp2_with fail
      refine wp_region_tail (C := Drew wr) 26 (by kernel_rfl) (by kernel_rfl) (by kernel_rfl) (hw6.trans (Drew.refl _)) ?_
      simp only [List.take_succ_cons, List.take_zero, List.drop_succ_cons, List.drop_zero]
      apply wpK_val
      · rfl
      · intro w' hw'
        go_simp
        first | exact rfl | exact ⟨rfl, hw'⟩
      simp only [Act.put, List.setIfInBounds_toArray, List.set_cons_succ, List.set_cons_zero]
      apply wpK_val
      · rfl
      · intro w' hw'
        go_simp
        first | exact rfl | exact ⟨rfl, hw'⟩
      simp only [Act.put, List.setIfInBounds_toArray, List.set_cons_succ, List.set_cons_zero]
      apply wpK_val
      · rfl
      · intro w' hw'
        have h1 : _ := V1.out
        go_simp
        first | exact rfl | exact ⟨rfl, hw'⟩
      simp only [Act.put, List.setIfInBounds_toArray, List.set_cons_succ, List.set_cons_zero]
      apply wpK_val
      · rfl
      · intro w' hw'
        go_simp
        first | exact rfl | exact ⟨rfl, hw'⟩
      simp only [Act.put, List.setIfInBounds_toArray, List.set_cons_succ, List.set_cons_zero]
      apply wpK_val
      · rfl
      · intro w' hw'
        go_simp
        first | exact rfl | exact ⟨rfl, hw'⟩
      simp only [Act.put, List.setIfInBounds_toArray, List.set_cons_succ, List.set_cons_zero]
      apply wpK_val
      · rfl
      · intro w' hw'
        have hcell := hw'.cell K0.out
        go_simp
        first | exact rfl | exact ⟨rfl, hw'⟩
      simp only [Act.put, List.setIfInBounds_toArray, List.set_cons_succ, List.set_cons_zero]
      apply wpK_val
      · rfl
      · intro w' hw'
        go_simp
        first | exact rfl | exact ⟨rfl, hw'⟩
      simp only [Act.put, List.setIfInBounds_toArray, List.set_cons_succ, List.set_cons_zero]
      apply wpK_val
      · rfl
      · intro w' hw'
        go_simp
        first | exact rfl | exact ⟨rfl, hw'⟩
      simp only [Act.put, List.setIfInBounds_toArray, List.set_cons_succ, List.set_cons_zero]
      apply wpK_val
      · rfl
      · intro w' hw'
        have hcell := hw'.cell K1.out
        go_simp
        first | exact rfl | exact ⟨rfl, hw'⟩
      simp only [Act.put, List.setIfInBounds_toArray, List.set_cons_succ, List.set_cons_zero]
      apply wpK_val
      · rfl
      · intro w' hw'
        go_simp
        first | exact rfl | exact ⟨rfl, hw'⟩
      simp only [Act.put, List.setIfInBounds_toArray, List.set_cons_succ, List.set_cons_zero]
      apply wpK_val
      · rfl
      · intro w' hw'
        go_simp
        first | exact rfl | exact ⟨rfl, hw'⟩
      simp only [Act.put, List.setIfInBounds_toArray, List.set_cons_succ, List.set_cons_zero]
      apply wpK_val
      · rfl
      · intro w' hw'
        have hcell := hw'.cell K2.out
        go_simp
        first | exact rfl | exact ⟨rfl, hw'⟩
      simp only [Act.put, List.setIfInBounds_toArray, List.set_cons_succ, List.set_cons_zero]
      apply wpK_val
      · rfl
      · intro w' hw'
        go_simp
        first | exact rfl | exact ⟨rfl, hw'⟩
      simp only [Act.put, List.setIfInBounds_toArray, List.set_cons_succ, List.set_cons_zero]
      apply wpK_val
      · rfl
      · intro w' hw'
        go_simp
        first | exact rfl | exact ⟨rfl, hw'⟩
      simp only [Act.put, List.setIfInBounds_toArray, List.set_cons_succ, List.set_cons_zero]
      apply wpK_val
      · rfl
      · intro w' hw'
        have hcell := hw'.cell K3.out
        go_simp
        first | exact rfl | exact ⟨rfl, hw'⟩
      simp only [Act.put, List.setIfInBounds_toArray, List.set_cons_succ, List.set_cons_zero]
      apply wpK_val
      · rfl
      · intro w' hw'
        go_simp
        first | exact rfl | exact ⟨rfl, hw'⟩
      simp only [Act.put, List.setIfInBounds_toArray, List.set_cons_succ, List.set_cons_zero]
      apply wpK_val
      · rfl
      · intro w' hw'
        have h1 : _ := V2.out
        go_simp
        first | exact rfl | exact ⟨rfl, hw'⟩
      simp only [Act.put, List.setIfInBounds_toArray, List.set_cons_succ, List.set_cons_zero]
      apply wpK_val
      · rfl
      · intro w' hw'
        go_simp
        first | exact rfl | exact ⟨rfl, hw'⟩
      simp only [Act.put, List.setIfInBounds_toArray, List.set_cons_succ, List.set_cons_zero]
      apply wpK_val
      · rfl
      · intro w' hw'
        go_simp
        first | exact rfl | exact ⟨rfl, hw'⟩
      simp only [Act.put, List.setIfInBounds_toArray, List.set_cons_succ, List.set_cons_zero]
      apply wpK_val
      · rfl
      · intro w' hw'
        have hcell := hw'.cell K4.out
        go_simp
        first | exact rfl | exact ⟨rfl, hw'⟩
      simp only [Act.put, List.setIfInBounds_toArray, List.set_cons_succ, List.set_cons_zero]
      apply wpK_val
      · rfl
      · intro w' hw'
        go_simp
        first | exact rfl | exact ⟨rfl, hw'⟩
      simp only [Act.put, List.setIfInBounds_toArray, List.set_cons_succ, List.set_cons_zero]
      apply wpK_val
      · rfl
      · intro w' hw'
        go_simp
        first | exact rfl | exact ⟨rfl, hw'⟩
      simp only [Act.put, List.setIfInBounds_toArray, List.set_cons_succ, List.set_cons_zero]
      apply wpK_val
      · rfl
      · intro w' hw'
        have hcell := hw'.cell K5.out
        go_simp
        first | exact rfl | exact ⟨rfl, hw'⟩
      simp only [Act.put, List.setIfInBounds_toArray, List.set_cons_succ, List.set_cons_zero]
      apply wpK_val
      · rfl
      · intro w' hw'
        go_simp
        first | exact rfl | exact ⟨rfl, hw'⟩
      simp only [Act.put, List.setIfInBounds_toArray, List.set_cons_succ, List.set_cons_zero]
      apply wpK_val
      · rfl
      · intro w' hw'
        go_simp
        first | exact rfl | exact ⟨rfl, hw'⟩
      simp only [Act.put, List.setIfInBounds_toArray, List.set_cons_succ, List.set_cons_zero]
      apply wpK_val
      · rfl
      · intro w' hw'
        have hcell := hw'.cell K6.out
        go_simp
        first | exact rfl | exact ⟨rfl, hw'⟩
      simp only [Act.put, List.setIfInBounds_toArray, List.set_cons_succ, List.set_cons_zero]
      refine wpK_nil fun w7 hw7 => ?_
      have hb7 := hw7.below hb.out
      have hsz := hb7.size
      clear hw6
      go_wp2_with fail
      go_roundw
      case rel =>
        exact ⟨i + 1, some ⟨w7.heap.size, 0, none⟩, 8, by omega, by go_num, rfl, hid (by rw [HSTEP.out]; exact nums_lit8 rfl (by simp)), hid (hb7.alloc hsz _)⟩
      case measure => simp [intOf] <;> omega
    · obtain rfl : i = 64 := by omega
      rw [show ((64 : Nat) : Int) = (64 : Int) from rfl]
      obtain ⟨bn, on, rfl, hBn, hrn⟩ := hn.out (by show 0 < 8; omega)
      have hTok := ShaM.steps_ok m HS.out 64
      generalize hTE : ShaM.steps m 64 s = T at *
      have HTE := hid hTE
      clear hTE
      obtain ⟨w2, hw2⟩ : ∃ w2, w2 = wr := ⟨_, rfl⟩
      subst hw2
      have HRN := hid hrn
      have HT := hid hTok
      have hb2 := HB1.out.trans (hb.out.mono HB1.out.size)
      have HB2 := hid hb2
      have cb0 : b0 < w2.heap.size := Nat.lt_of_lt_of_le hB0 hb2.size
      have C0 : Hid (∀ j, j < 8 → w2.cell? ⟨b0, o0 + j, none⟩ = some (.int .u32 (s.get j : Nat))) := hid fun j hj => by
        rw [← lst8_get s hj]
        exact (hb2.cell (p := ⟨b0, o0 + j, none⟩) hB0).trans (HR0.out j hj)
      have CN : Hid (∀ j, j < 8 → w2.cell? ⟨bn, on + j, none⟩ = some (.int .u32 (T.get j : Nat))) := hid fun j hj => by
        rw [← lst8_get T hj]
        exact HRN.out j hj
      clear hrn hn hTok hb2 hb HRN
      go_wp2_with fail
      go_loopw [13, 14] (fun u v wr => ∃ (i : Nat) (vo : Value), i ≤ 8 ∧ v = .int .i64 i ∧ u = vo ∧ Hid (Own 65 .u32 wr w2.heap.size vo ((lst8 (ShaM.addS T s)).take i)) ∧ Hid (Below w2.heap.size w2 wr)) (fun _ v _ => 8 - (intOf v).toNat)
      case atStart => exact ⟨0, _, by omega, rfl, rfl, hid Own.nil, hid (Below.refl _ _)⟩
      case round =>
        obtain ⟨i, vo, hi, rfl, rfl, ho, hb⟩ := hrel
        by_cases hlt : i < 8
        · have ti : (i : Int) < 8 := by omega
          have x1 := ShaM.S8.get_lt HT.out i
          have x2 := ShaM.S8.get_lt HS.out i
          have Q1 := hid ((hb.out.cell (p := ⟨bn, on + i, none⟩) hBn).trans (CN.out i hlt))
          have Q2 := hid ((hb.out.cell (p := ⟨b0, o0 + i, none⟩) cb0).trans (C0.out i hlt))
          have hst : (lst8 (ShaM.addS T s)).take (i + 1) = (lst8 (ShaM.addS T s)).take i ++ [ShaM.add (T.get i) (s.get i)] := by
            have hl8 : i < (lst8 (ShaM.addS T s)).length := hlt
            rw [List.take_succ_eq_append_getElem hl8, ← nums_at hl8, lst8_get _ hlt, ShaM.addS_get _ _ hlt]
          have HST := hid hst
          have hlen : ((lst8 (ShaM.addS T s)).take i).length = i := by rw [List.length_take]; show min i 8 = i; omega
          have HLEN := hid hlen
          clear hst hlen
          generalize T.get i = u1 at *
          generalize s.get i = u2 at *
          obtain ⟨u3, hu3⟩ : ∃ z, z = ShaM.add u1 u2 := ⟨_, rfl⟩
          rw [← hu3] at HST
          have S1 : Hid (IntKind.u32.wrap ((u1 : Int) + (u2 : Int)) = (u3 : Int)) := hid (by rw [hu3]; exact add_wrap _ _)
          have u3l : u3 < 4294967296 := by rw [hu3]; exact ShaM.add_lt _ _
          have hBn' : bn < wr.heap.size := Nat.lt_of_lt_of_le hBn hb.out.size
          have hB0' : b0 < wr.heap.size := Nat.lt_of_lt_of_le cb0 hb.out.size
          have hszw := hb.out.size
          clear hu3
          go_wp2_with fail
          refine wp_region_put (C := Put wr (.cells #[.int .u32 (u3 : Nat)] 65)) 10 11 (by omega) (by kernel_rfl) (by kernel_rfl) (by kernel_rfl) (Drew.refl _) ?_
          simp only [List.take_succ_cons, List.take_zero, List.drop_succ_cons, List.drop_zero]
          apply wpS_val
          · decide
          · rfl
          · intro bb w' hw'
            go_simp
            first | exact rfl | exact ⟨rfl, hw'⟩
          simp only [Act.put, List.setIfInBounds_toArray, List.set_cons_succ, List.set_cons_zero]
          apply wpS_val
          · decide
          · rfl
          · intro bb w' hw'
            go_simp
            first | exact rfl | exact ⟨rfl, hw'⟩
          simp only [Act.put, List.setIfInBounds_toArray, List.set_cons_succ, List.set_cons_zero]
          apply wpS_val
          · decide
          · rfl
          · intro bb w' hw'
            go_simp
            first | exact rfl | exact ⟨rfl, hw'⟩
          simp only [Act.put, List.setIfInBounds_toArray, List.set_cons_succ, List.set_cons_zero]
          apply wpS_val
          · decide
          · rfl
          · intro bb w' hw'
            go_simp
            first | exact rfl | exact ⟨rfl, hw'⟩
          simp only [Act.put, List.setIfInBounds_toArray, List.set_cons_succ, List.set_cons_zero]
          apply wpS_val
          · decide
          · rfl
          · intro bb w' hw'
            have hcell : _ := hw'.cell hBn' Q1.out
            go_simp
            first | exact rfl | exact ⟨rfl, hw'⟩
          simp only [Act.put, List.setIfInBounds_toArray, List.set_cons_succ, List.set_cons_zero]
          apply wpS_val
          · decide
          · rfl
          · intro bb w' hw'
            go_simp
            first | exact rfl | exact ⟨rfl, hw'⟩
          simp only [Act.put, List.setIfInBounds_toArray, List.set_cons_succ, List.set_cons_zero]
          apply wpS_val
          · decide
          · rfl
          · intro bb w' hw'
            go_simp
            first | exact rfl | exact ⟨rfl, hw'⟩
          simp only [Act.put, List.setIfInBounds_toArray, List.set_cons_succ, List.set_cons_zero]
          apply wpS_val
          · decide
          · rfl
          · intro bb w' hw'
            go_simp
            first | exact rfl | exact ⟨rfl, hw'⟩
          simp only [Act.put, List.setIfInBounds_toArray, List.set_cons_succ, List.set_cons_zero]
          apply wpS_val
          · decide
          · rfl
          · intro bb w' hw'
            have hcell : _ := hw'.cell hB0' Q2.out
            go_simp
            first | exact rfl | exact ⟨rfl, hw'⟩
          simp only [Act.put, List.setIfInBounds_toArray, List.set_cons_succ, List.set_cons_zero]
          apply wpS_val
          · decide
          · rfl
          · intro bb w' hw'
            have h1 : _ := S1.out
            go_simp
            first | exact rfl | exact ⟨rfl, hw'⟩
          simp only [Act.put, List.setIfInBounds_toArray, List.set_cons_succ, List.set_cons_zero]
          apply wpS_put
          · rfl
          · rfl
          · intro w' hw'
            have hw3 : Drew wr w' := hw'
            have hz := hw3.heap
            go_simp
            exact ⟨rfl, w', hw3, rfl⟩
          simp only [Act.put, List.setIfInBounds_toArray, List.set_cons_succ, List.set_cons_zero]
          refine wpS_nil fun w8 hw8 => ?_
          obtain ⟨w7, h7, rfl⟩ := hw8
          have hz7 : wr.heap.size = w7.heap.size := by rw [h7.heap]
          have o7 := hid (ho.out.heap h7.heap)
          have b7 := hid (h7.below hb.out)
          have HZ7 := hid hz7
          clear h7 hz7 S1 Q1 Q2 hBn' hB0'
          go_wp2_with (at_builtin; (with_reducible apply wappN elt32); rfl; rfl; exact o7.out.alloc _; exact nums_one' (x := u3) (B := w7.heap.size + 1) rfl HZ7.out (Nat.lt_succ_self _); rfl; (rw [HLEN.out]; omega); (simp; have := HZ7.out; omega); intro v' w9 o9 g9)
          have b9 := below_grown (b7.out.alloc (by have := HZ7.out; omega) (.cells #[.int .u32 (u3 : Nat)] 65)) g9 o7.out (Nat.le_refl _) (Nat.le_refl _)
          go_roundw
          case rel => exact ⟨i + 1, v', by omega, by go_num, rfl, hid (by rw [HST.out]; exact o9), hid b9⟩
          case measure => simp [intOf] <;> omega
        · obtain rfl : i = 8 := by omega
          have ho8 := ho.out
          rw [show (lst8 (ShaM.addS T s)).take 8 = lst8 (ShaM.addS T s) from rfl] at ho8
          have hfin := hid (ho8.fresh (HB2.out.trans (hb.out.mono HB2.out.size)))
          clear ho ho8
          go_wp2_with fail
          go_ret
          have hf := hfin.out
          rw [← HTE.out] at hf
          exact hf
end Go.Proofs.YtmbhibilmedjmaaDoor
set_option maxRecDepth 100000
namespace Go.Proofs.YtmbhibilmedjmaaDoor
open Go.ChangeShapes Go.WideShapes Go.ChangeAt Go.RowKit
attribute [local go_sem] Gives
theorem passes_step (s : ShaM.S8) (l : List Nat) (k : Nat) (h : 64 * k + 64 ≤ l.length) :
    ShaM.passes s (l.take (64 * (k + 1))) = ShaM.pass (ShaM.passes s (l.take (64 * k))) (ShaM.at' ((l.drop (64 * k)).take 64)) := by
  have e : l.take (64 * (k + 1)) = l.take (64 * k) ++ (l.drop (64 * k)).take 64 := by
    rw [show 64 * (k + 1) = 64 * k + 64 by omega, List.take_add]
  rw [e, ShaM.passes_append k (by rw [List.length_take]; omega), ShaM.passes_long (by rw [List.length_take, List.length_drop]; omega), ShaM.passes_short (by rw [List.length_drop, List.length_take]; omega)]
theorem digest_at (s : ShaM.S8) (i r : Nat) (hr : r < 4) : ShaM.digest s (4 * i + r) = s.get i / 2 ^ (8 * (3 - r)) % 256 := by
  unfold ShaM.digest
  rw [show (4 * i + r) / 4 = i by omega, show (4 * i + r) % 4 = r by omega]
theorem dg_step4 (s : ShaM.S8) (i : Nat) : (fun j => if j = 4 * i + 3 then ShaM.digest s (4 * i + 3) else if j = 4 * i + 2 then ShaM.digest s (4 * i + 2) else if j = 4 * i + 1 then ShaM.digest s (4 * i + 1) else if j = 4 * i then ShaM.digest s (4 * i) else dg s (4 * i) j) = dg s (4 * (i + 1)) := by
  rw [show 4 * (i + 1) = 4 * i + 3 + 1 by omega, ← dg_step s (4 * i + 3), ← dg_step s (4 * i + 2), ← dg_step s (4 * i + 1), ← dg_step s (4 * i)]
/-- Four bytes laid, each or not. -/
def F4 (c0 c1 c2 c3 v0 v1 v2 v3 : Nat) (base : Nat → Nat) (d : Nat → Bool) (j : Nat) : Nat :=
  if j = c3 ∧ d 41 = true then v3 else if j = c2 ∧ d 39 = true then v2 else if j = c1 ∧ d 37 = true then v1 else if j = c0 ∧ d 35 = true then v0 else base j
def st4 (j : Nat) : Bool := j == 35 || j == 37 || j == 39 || j == 41
theorem st4_lt (j : Nat) (h : st4 j = true) : j < 42 := by
  unfold st4 at h; simp at h; omega
theorem F4_set0 (c v0 v1 v2 v3 : Nat) (base : Nat → Nat) (d : Nat → Bool) : (fun j => if j = c + 0 then v0 else F4 c (c + 1) (c + 2) (c + 3) v0 v1 v2 v3 base d j) = F4 c (c + 1) (c + 2) (c + 3) v0 v1 v2 v3 base (upB d 35) := funext fun j => by
  unfold F4 upB
  by_cases e : j = c + 0
  · subst e; simp
  · by_cases e3 : j = c + 3 <;> by_cases e2 : j = c + 2 <;> by_cases e1 : j = c + 1 <;> by_cases e0 : j = c <;> simp_all
theorem F4_set1 (c v0 v1 v2 v3 : Nat) (base : Nat → Nat) (d : Nat → Bool) : (fun j => if j = c + 1 then v1 else F4 c (c + 1) (c + 2) (c + 3) v0 v1 v2 v3 base d j) = F4 c (c + 1) (c + 2) (c + 3) v0 v1 v2 v3 base (upB d 37) := funext fun j => by
  unfold F4 upB
  by_cases e : j = c + 1
  · subst e; simp
  · by_cases e3 : j = c + 3 <;> by_cases e2 : j = c + 2 <;> by_cases e1 : j = c + 1 <;> by_cases e0 : j = c <;> simp_all
theorem F4_set2 (c v0 v1 v2 v3 : Nat) (base : Nat → Nat) (d : Nat → Bool) : (fun j => if j = c + 2 then v2 else F4 c (c + 1) (c + 2) (c + 3) v0 v1 v2 v3 base d j) = F4 c (c + 1) (c + 2) (c + 3) v0 v1 v2 v3 base (upB d 39) := funext fun j => by
  unfold F4 upB
  by_cases e : j = c + 2
  · subst e; simp
  · by_cases e3 : j = c + 3 <;> by_cases e2 : j = c + 2 <;> by_cases e1 : j = c + 1 <;> by_cases e0 : j = c <;> simp_all
theorem F4_set3 (c v0 v1 v2 v3 : Nat) (base : Nat → Nat) (d : Nat → Bool) : (fun j => if j = c + 3 then v3 else F4 c (c + 1) (c + 2) (c + 3) v0 v1 v2 v3 base d j) = F4 c (c + 1) (c + 2) (c + 3) v0 v1 v2 v3 base (upB d 41) := funext fun j => by
  unfold F4 upB
  by_cases e : j = c + 3
  · subst e; simp
  · by_cases e3 : j = c + 3 <;> by_cases e2 : j = c + 2 <;> by_cases e1 : j = c + 1 <;> by_cases e0 : j = c <;> simp_all
theorem byte_wrap (x d : Nat) (_hx : x < 4294967296) : IntKind.u8.wrap (IntKind.u32.wrap ((x : Int) / ((d : Nat) : Int))) = ((x / d % 256 : Nat) : Int) := by
  have h : x / d ≤ x := Nat.div_le_self _ _
  rw [show (x : Int) / ((d : Nat) : Int) = ((x / d : Nat) : Int) by simp, IntKind.wrap_u32, IntKind.wrap_u8]
  omega
theorem byte_wrap1 (x : Nat) : IntKind.u8.wrap (x : Int) = ((x / 2 ^ (8 * (3 - 3)) % 256 : Nat) : Int) := by
  rw [IntKind.wrap_u8, show 2 ^ (8 * (3 - 3)) = 1 from rfl, Nat.div_one]; omega
theorem nil_byt {w : World} {l : List Nat} (h : Byt w w.heap.size none l) : l = [] := by
  by_cases h0 : 0 < l.length
  · obtain ⟨b, o, e, _⟩ := h h0
    cases e
  · exact List.eq_nil_of_length_eq_zero (by omega)
set_option maxHeartbeats 2000000 in
set_option maxRecDepth 100000 in
theorem rsum_any (A : Option Addr) (l : List Nat) (n cap : Nat) (hl : l.length = n) (hn : n ≤ 100000) (h0 : A = none → n = 0 ∧ cap = 0) (h256 : B256 l) (w : World) (hA : Byt w w.heap.size A l) :
    Calls Tryd.prog 45 #[.slice A n cap] w fun e w' => e = .returned (.agg (tag (ShaM.sum l))) ∧ Below w.heap.size w w' := by
  have htl := ShaM.tail_length n
  have hzl : ShaM.zeros n < 64 := by unfold ShaM.zeros; omega
  have hwhole := ShaM.tail_whole n
  have hsum : ShaM.sum l = ShaM.digest (ShaM.passes ShaM.seeds (l ++ ShaM.tail n)) := by unfold ShaM.sum ShaM.ended; rw [Nat.zero_add, hl]
  have ht256 := ShaM.tail_256 n
  have TA := hid fun w => tail_any n (by omega) w
  rw [hsum]
  clear hsum
  generalize ShaM.tail n = tl at *
  have htl9 : 9 ≤ tl.length := by omega
  have htl100 : tl.length ≤ 100 := by omega
  have HWH := hid hwhole
  have HT256 := hid ht256
  have HA := hid hA
  have HL := hid hl
  have H256 := hid h256
  clear hA hl h256 htl hzl hwhole ht256
  go_enter Tryd.func45, Tryd.ntmps45
  go_upto_region 2 with fail
  generalize hw3 : World.alloc w _ = w3
  have b1 : Blk w3 w.heap.size 29 (tag fun _ => 0) := by rw [← hw3]; exact Blk.top zlit_tag rfl
  have hb : Below w.heap.size w w3 := by rw [← hw3]; exact (Below.refl _ _).alloc (Nat.le_refl _) _
  clear hw3
  have a3 := ((HA.out.below hb (Nat.le_refl _)).more hb.size)
  have B1 := hid b1
  have BEL := hid hb
  have A3 := hid a3
  clear b1 hb a3
  go_upto_region 3 with (at_builtin; (with_reducible apply wappN_any elt8); rfl; rfl; exact h0; exact (Own.nil (e := 5) (k := .u8) (w := w3) (B := w3.heap.size)); exact A3.out; exact HL.out; (rw [List.length_nil]; omega); exact Nat.le_refl _; intro v1 w4 o4 g4)
  rw [List.nil_append] at o4
  have b4 := below_grown (Below.refl w3.heap.size w3) g4 (Own.nil (e := 5) (k := .u8) (w := w3) (B := w3.heap.size)) (Nat.le_refl _) (Nat.le_refl _)
  have O4 := hid o4
  have B4 := hid b4
  clear o4 b4 g4
  go_wp2_with fail
  refine (TA.out w4).mono ?_
  rintro e w5 ⟨A5, c5, rfl, _, _, n5, b5⟩
  obtain ⟨tn, htn⟩ : ∃ t, t = tl.length := ⟨_, rfl⟩
  rw [← htn] at htl9 htl100 ⊢
  obtain ⟨bt, ot, rfl, hBt, hrt⟩ := n5 (by omega)
  have N5 : Hid (Nums .u8 w5 w5.heap.size (some ⟨bt, ot, none⟩) tl) := hid fun _ => ⟨bt, ot, rfl, hBt, hrt⟩
  have O5 := hid (O4.out.below b5)
  have B5 := hid (B4.out.trans (b5.mono B4.out.size))
  have HTN := hid htn
  have hsz5 := B5.out.size
  clear n5 b5 hrt htn O4 B4 TA
  go_upto_region 4 with (at_builtin; (with_reducible apply wappN elt8); rfl; rfl; exact O5.out; exact N5.out; exact HTN.out.symm; (rw [HL.out]; omega); exact hsz5; intro v2 w6 o6 g6)
  have b6 := below_grown B5.out g6 O5.out (Nat.le_refl _) (Nat.le_refl _)
  rcases o6.form with ⟨_, e6⟩ | ⟨ga, ca, e6, hga, hgl, hca, hcm, hna⟩
  · exact absurd (congrArg List.length e6) (by rw [List.length_append, List.length_nil, ← HTN.out]; omega)
  subst e6
  have hall : (l ++ tl).length = n + tn := by rw [List.length_append, HL.out, HTN.out]
  obtain ⟨N, hN⟩ : ∃ N, N = n + tn := ⟨_, rfl⟩
  rw [← hN] at hall
  rw [hall] at hca ⊢
  have hwhole : N % 64 = 0 := by have := HWH.out; rw [← HTN.out] at this; omega
  have hall256 : B256 (l ++ tl) := H256.out.append HT256.out
  generalize hal : l ++ tl = al at *
  have HAL := hid hal
  clear hal
  have hNs : N ≤ 200000 := by omega
  have NA := hid hna
  have B6 := hid b6
  have HALL := hid hall
  have HA256 := hid hall256
  clear hna b6 hall hall256 o6 g6 hN N5 O5 B5
  go_wp2_with fail
  refine (salts_any w6).mono ?_
  rintro e w7 ⟨A7, c7, rfl, _, _, n7, b7⟩
  have N7 := hid n7
  have B7 := hid b7
  rw [show ShaM.salts.length = 64 from rfl]
  clear n7 b7
  go_wp2_with fail
  refine (seeds_any w7).mono ?_
  rintro e w8 ⟨A8, c8, rfl, _, _, n8, b8⟩
  rw [show [ShaM.seeds.a, ShaM.seeds.b, ShaM.seeds.c, ShaM.seeds.d, ShaM.seeds.e, ShaM.seeds.f, ShaM.seeds.g, ShaM.seeds.h].length = 8 from rfl]
  have n8' : Nums .u32 w8 w8.heap.size A8 (lst8 (ShaM.passes ShaM.seeds (al.take (64 * 0)))) := by
    rw [Nat.mul_zero, List.take_zero, ShaM.passes_short (by simp)]; exact n8
  have N8 := hid n8'
  have bb : Below w6.heap.size w6 w8 := B7.out.trans (b8.mono B7.out.size)
  have NA8 := hid ((NA.out.below bb (Nat.le_refl _)).more bb.size)
  have N78 := hid ((N7.out.below b8 (Nat.le_refl _)).more b8.size)
  have B38 := hid (B6.out.trans (bb.mono B6.out.size))
  have hgl8 : ga < w8.heap.size := Nat.lt_of_lt_of_le hgl bb.size
  clear n8 b8 bb n8' NA N7 B7 B6
  go_wp2_with fail
  go_loopw [5, 6] (fun u v wr => ∃ (k i : Nat) (An : Option Addr) (cn : Nat), Hid (i = 64 * k) ∧ i ≤ N ∧ v = .int .i64 i ∧ u = .slice An 8 cn ∧ Hid (Nums .u32 wr wr.heap.size An (lst8 (ShaM.passes ShaM.seeds (al.take (64 * k))))) ∧ Hid (Below w8.heap.size w8 wr)) (fun _ v _ => N - (intOf v).toNat)
  case atStart => exact ⟨0, 0, _, _, hid rfl, Nat.zero_le _, rfl, rfl, N8, hid (Below.refl _ _)⟩
  case round =>
    obtain ⟨k, i, An, cn, hik, hi, rfl, rfl, hn', hb⟩ := hrel
    clear N8
    by_cases hlt : i < N
    · have ti : decide (i < N) = true := decide_eq_true hlt
      have h64 : i + 64 ≤ N := by have := hik.out; omega
      have hici : ¬ (ca = i) := by omega
      have hok : (ShaM.passes ShaM.seeds (al.take (64 * k))).ok := ShaM.passes_ok _ (Nat.le_refl _) ShaM.seeds_ok
      have hst : ShaM.passes ShaM.seeds (al.take (64 * (k + 1))) = ShaM.pass (ShaM.passes ShaM.seeds (al.take (64 * k))) (ShaM.at' ((al.drop i).take 64)) := by
        rw [hik.out]; exact passes_step ShaM.seeds al k (by rw [HALL.out]; have := hik.out; omega)
      have hby : Byt wr wr.heap.size (some ⟨ga, 0 + i, none⟩) ((al.drop i).take 64) := ((NA8.out.below hb.out (Nat.le_refl _)).more hb.out.size).byt.drop i |>.take 64
      rw [Nat.zero_add] at hby
      have hl64 : ((al.drop i).take 64).length = 64 := by rw [List.length_take, List.length_drop, HALL.out]; omega
      have HST := hid hst
      have HBY := hid hby
      have HOK := hid hok
      have HL64 := hid hl64
      have HI64 := hid h64
      have ec : (i : Int) + 64 ≤ (ca : Int) := by omega
      clear hst hby hok hl64
      go_wp2_with fail
      refine (rpass_any _ HOK.out An cn _ ((al.drop i).take 64) (ca - i) HL64.out (fun j => ((HA256.out.drop i).take 64).at' j) A7 c7 wr hn'.out HBY.out ((N78.out.below hb.out (Nat.le_refl _)).more hb.out.size)).mono ?_
      rintro e w9 ⟨A9, c9, rfl, _, _, n9, b9⟩
      rw [show ∀ S, (lst8 S).length = 8 from fun _ => rfl]
      have N9 := hid n9
      have B9 := hid (hb.out.trans (b9.mono hb.out.size))
      clear n9 b9 HBY HOK hn'
      have ei : (i : Int) + 64 ≤ 9223372036854775807 := by have := hNs; omega
      go_wp2_with fail
      go_roundw
      case rel => exact ⟨k + 1, i + 64, A9, c9, hid (by have := hik.out; omega), HI64.out, by go_num, rfl, hid (by rw [HST.out]; exact N9.out), B9⟩
      case measure => simp [intOf] <;> omega
    · obtain rfl : i = N := by omega
      have hfull : al.take (64 * k) = al := by rw [← hik.out, ← HALL.out, List.take_length]
      have hN := hn'.out
      rw [hfull] at hN
      have hok := ShaM.passes_ok (l := al) _ (Nat.le_refl _) ShaM.seeds_ok
      generalize hT : ShaM.passes ShaM.seeds al = T at *
      have HT := hid hT
      have HTok := hid hok
      obtain ⟨bn, on, rfl, hBn, hrn⟩ := hN (by show 0 < 8; omega)
      have CN : Hid (∀ j, j < 8 → wr.cell? ⟨bn, on + j, none⟩ = some (.int .u32 (T.get j : Nat))) := hid fun j hj => by
        rw [← lst8_get T hj]; exact hrn j hj
      have hbw := B38.out.trans (hb.out.mono B38.out.size)
      have c1 := (B1.out.below hbw B1.out.lt)
      have bw := BEL.out.trans (hbw.mono BEL.out.size)
      have hwz : w.heap.size < wr.heap.size := c1.lt
      have C1 := hid c1
      have BW := hid bw
      clear hN hrn hok hT hbw c1 bw hn' N78 NA8 B38 hfull
      go_upto_region 11 with fail
      generalize hg7 : World.alloc wr _ = wa
      have d1 : Blk wa w.heap.size 29 (tag fun _ => 0) := by rw [← hg7]; exact C1.out.alloc _
      have d2 : Blk wa wr.heap.size 29 (tag (dg T (4 * 0))) := by rw [← hg7, Nat.mul_zero, dg_zero]; exact Blk.top zlit_tag rfl
      have db : Below w.heap.size w wa := by rw [← hg7]; exact BW.out.alloc (by omega) _
      have CA : Hid (∀ j, j < 8 → wa.cell? ⟨bn, on + j, none⟩ = some (.int .u32 (T.get j : Nat))) := hid fun j hj => by
        rw [← hg7]; exact (((Below.refl wr.heap.size wr).alloc (Nat.le_refl _) _).cell (p := ⟨bn, on + j, none⟩) hBn).trans (CN.out j hj)
      clear hg7 C1 BW CN
      obtain ⟨g, hg⟩ : ∃ g, g = wr.heap.size := ⟨_, rfl⟩
      rw [← hg] at d2 hBn hwz ⊢
      clear hg
      go_wp2_with fail
      go_loopw [8] (fun v wr => ∃ i : Nat, i ≤ 8 ∧ v = .int .i64 i ∧ Blk wr w.heap.size 29 (tag fun _ => 0) ∧ Blk wr g 29 (tag (dg T (4 * i))) ∧ Hid (∀ j, j < 8 → wr.cell? ⟨bn, on + j, none⟩ = some (.int .u32 (T.get j : Nat))) ∧ Hid (Below w.heap.size w wr)) (fun v _ => 8 - (intOf v).toNat)
      case atStart => exact ⟨0, by omega, rfl, d1, d2, CA, hid db⟩
      case round =>
        clear d1 d2 db CA
        obtain ⟨i, hi, rfl, d1, d2, ca', db⟩ := hrel
        by_cases hlt : i < 8
        · have ti : (i : Int) < 8 := by omega
          have x1 := ShaM.S8.get_lt HTok.out i
          have Q1 := hid (ca'.out i hlt)
          obtain ⟨c0, hc0⟩ : ∃ c, c = 4 * i := ⟨_, rfl⟩
          obtain ⟨c1, hc1⟩ : ∃ c, c = 4 * i + 1 := ⟨_, rfl⟩
          obtain ⟨c2, hc2⟩ : ∃ c, c = 4 * i + 2 := ⟨_, rfl⟩
          obtain ⟨c3, hc3⟩ : ∃ c, c = 4 * i + 3 := ⟨_, rfl⟩
          have E0 := hid (show IntKind.i64.wrap (4 * (i : Int)) = (c0 : Int) from wr_nat (by omega) (by omega))
          have E1 := hid (show IntKind.i64.wrap ((c0 : Int) + 1) = (c1 : Int) from wr_nat (by omega) (by omega))
          have E2 := hid (show IntKind.i64.wrap ((c0 : Int) + 2) = (c2 : Int) from wr_nat (by omega) (by omega))
          have E3 := hid (show IntKind.i64.wrap ((c0 : Int) + 3) = (c3 : Int) from wr_nat (by omega) (by omega))
          have t0 : (c0 : Int) < 32 := by omega
          have t1 : (c1 : Int) < 32 := by omega
          have t2 : (c2 : Int) < 32 := by omega
          have t3 : (c3 : Int) < 32 := by omega
          have D1 := hid d1
          have D2 := hid d2
          have DB := hid db
          have HC := hid (And.intro hc0 (And.intro hc1 (And.intro hc2 hc3)))
          have v0 := digest_at T i 0 (by omega)
          have v1' := digest_at T i 1 (by omega)
          have v2' := digest_at T i 2 (by omega)
          have v3' := digest_at T i 3 (by omega)
          have hst := dg_step4 T i
          rw [← hc3, ← hc2, ← hc1, ← hc0] at hst
          rw [Nat.add_zero, ← hc0] at v0
          rw [← hc1] at v1'
          rw [← hc2] at v2'
          rw [← hc3] at v3'
          have HV := hid (And.intro v0 (And.intro v1' (And.intro v2' v3')))
          have HST := hid hst
          clear d1 d2 db hc0 hc1 hc2 hc3 v0 v1' v2' v3' hst
          go_wp2_with fail
          refine wp_region_set (D := fun d w' => Below g wr w' ∧ Blk w' g 29 (tag (F4 c0 c1 c2 c3 (ShaM.digest T c0) (ShaM.digest T c1) (ShaM.digest T c2) (ShaM.digest T c3) (dg T c0) d))) st4 42 st4_lt (by kernel_rfl) (by kernel_rfl) (by kernel_rfl) ?_ ?_ ?_
          · intro d d' w' hd hw'
            refine ⟨hw'.1, ?_⟩
            have e : F4 c0 c1 c2 c3 (ShaM.digest T c0) (ShaM.digest T c1) (ShaM.digest T c2) (ShaM.digest T c3) (dg T c0) d' = F4 c0 c1 c2 c3 (ShaM.digest T c0) (ShaM.digest T c1) (ShaM.digest T c2) (ShaM.digest T c3) (dg T c0) d := funext fun j => by
              unfold F4
              rw [hd 35 rfl, hd 37 rfl, hd 39 rfl, hd 41 rfl]
            rw [e]; exact hw'.2
          · refine ⟨(Below.refl g wr).drew, ?_⟩
            have e : F4 c0 c1 c2 c3 (ShaM.digest T c0) (ShaM.digest T c1) (ShaM.digest T c2) (ShaM.digest T c3) (dg T c0) (fun _ => false) = dg T c0 := funext fun j => by
              unfold F4; simp
            rw [e, HC.out.1]; exact D2.out.drew
          simp only [List.take_succ_cons, List.take_zero, List.drop_succ_cons, List.drop_zero]
          apply wpM_val
          · rfl
          · rfl
          · intro dd w' hw'
            go_simp
            first | exact rfl | exact ⟨rfl, hw'⟩
          simp only [Act.put, List.setIfInBounds_toArray, List.set_cons_succ, List.set_cons_zero]
          apply wpM_val
          · rfl
          · rfl
          · intro dd w' hw'
            have h1 : _ := E0.out
            go_simp
            first | exact rfl | exact ⟨rfl, hw'⟩
          simp only [Act.put, List.setIfInBounds_toArray, List.set_cons_succ, List.set_cons_zero]
          apply wpM_val
          · rfl
          · rfl
          · intro dd w' hw'
            go_simp
            first | exact rfl | exact ⟨rfl, hw'⟩
          simp only [Act.put, List.setIfInBounds_toArray, List.set_cons_succ, List.set_cons_zero]
          apply wpM_val
          · rfl
          · rfl
          · intro dd w' hw'
            have h1 : _ := E0.out
            go_simp
            first | exact rfl | exact ⟨rfl, hw'⟩
          simp only [Act.put, List.setIfInBounds_toArray, List.set_cons_succ, List.set_cons_zero]
          apply wpM_val
          · rfl
          · rfl
          · intro dd w' hw'
            have h1 : _ := E1.out
            go_simp
            first | exact rfl | exact ⟨rfl, hw'⟩
          simp only [Act.put, List.setIfInBounds_toArray, List.set_cons_succ, List.set_cons_zero]
          apply wpM_val
          · rfl
          · rfl
          · intro dd w' hw'
            go_simp
            first | exact rfl | exact ⟨rfl, hw'⟩
          simp only [Act.put, List.setIfInBounds_toArray, List.set_cons_succ, List.set_cons_zero]
          apply wpM_val
          · rfl
          · rfl
          · intro dd w' hw'
            have h1 : _ := E0.out
            go_simp
            first | exact rfl | exact ⟨rfl, hw'⟩
          simp only [Act.put, List.setIfInBounds_toArray, List.set_cons_succ, List.set_cons_zero]
          apply wpM_val
          · rfl
          · rfl
          · intro dd w' hw'
            have h1 : _ := E2.out
            go_simp
            first | exact rfl | exact ⟨rfl, hw'⟩
          simp only [Act.put, List.setIfInBounds_toArray, List.set_cons_succ, List.set_cons_zero]
          apply wpM_val
          · rfl
          · rfl
          · intro dd w' hw'
            go_simp
            first | exact rfl | exact ⟨rfl, hw'⟩
          simp only [Act.put, List.setIfInBounds_toArray, List.set_cons_succ, List.set_cons_zero]
          apply wpM_val
          · rfl
          · rfl
          · intro dd w' hw'
            have h1 : _ := E0.out
            go_simp
            first | exact rfl | exact ⟨rfl, hw'⟩
          simp only [Act.put, List.setIfInBounds_toArray, List.set_cons_succ, List.set_cons_zero]
          apply wpM_val
          · rfl
          · rfl
          · intro dd w' hw'
            have h1 : _ := E3.out
            go_simp
            first | exact rfl | exact ⟨rfl, hw'⟩
          simp only [Act.put, List.setIfInBounds_toArray, List.set_cons_succ, List.set_cons_zero]
          apply wpM_val
          · rfl
          · rfl
          · intro dd w' hw'
            go_simp
            first | exact rfl | exact ⟨rfl, hw'⟩
          simp only [Act.put, List.setIfInBounds_toArray, List.set_cons_succ, List.set_cons_zero]
          apply wpM_val
          · rfl
          · rfl
          · intro dd w' hw'
            go_simp
            first | exact rfl | exact ⟨rfl, hw'⟩
          simp only [Act.put, List.setIfInBounds_toArray, List.set_cons_succ, List.set_cons_zero]
          apply wpM_val
          · rfl
          · rfl
          · intro dd w' hw'
            go_simp
            first | exact rfl | exact ⟨rfl, hw'⟩
          simp only [Act.put, List.setIfInBounds_toArray, List.set_cons_succ, List.set_cons_zero]
          apply wpM_val
          · rfl
          · rfl
          · intro dd w' hw'
            have hcell := (hw'.1.cell (p := ⟨bn, on + i, none⟩) hBn).trans Q1.out
            go_simp
            first | exact rfl | exact ⟨rfl, hw'⟩
          simp only [Act.put, List.setIfInBounds_toArray, List.set_cons_succ, List.set_cons_zero]
          apply wpM_val
          · rfl
          · rfl
          · intro dd w' hw'
            go_simp
            first | exact rfl | exact ⟨rfl, hw'⟩
          simp only [Act.put, List.setIfInBounds_toArray, List.set_cons_succ, List.set_cons_zero]
          apply wpM_val
          · rfl
          · rfl
          · intro dd w' hw'
            go_simp
            first | exact rfl | exact ⟨rfl, hw'⟩
          simp only [Act.put, List.setIfInBounds_toArray, List.set_cons_succ, List.set_cons_zero]
          apply wpM_val
          · rfl
          · rfl
          · intro dd w' hw'
            go_simp
            first | exact rfl | exact ⟨rfl, hw'⟩
          simp only [Act.put, List.setIfInBounds_toArray, List.set_cons_succ, List.set_cons_zero]
          apply wpM_val
          · rfl
          · rfl
          · intro dd w' hw'
            go_simp
            first | exact rfl | exact ⟨rfl, hw'⟩
          simp only [Act.put, List.setIfInBounds_toArray, List.set_cons_succ, List.set_cons_zero]
          apply wpM_val
          · rfl
          · rfl
          · intro dd w' hw'
            go_simp
            first | exact rfl | exact ⟨rfl, hw'⟩
          simp only [Act.put, List.setIfInBounds_toArray, List.set_cons_succ, List.set_cons_zero]
          apply wpM_val
          · rfl
          · rfl
          · intro dd w' hw'
            have hcell := (hw'.1.cell (p := ⟨bn, on + i, none⟩) hBn).trans Q1.out
            go_simp
            first | exact rfl | exact ⟨rfl, hw'⟩
          simp only [Act.put, List.setIfInBounds_toArray, List.set_cons_succ, List.set_cons_zero]
          apply wpM_val
          · rfl
          · rfl
          · intro dd w' hw'
            go_simp
            first | exact rfl | exact ⟨rfl, hw'⟩
          simp only [Act.put, List.setIfInBounds_toArray, List.set_cons_succ, List.set_cons_zero]
          apply wpM_val
          · rfl
          · rfl
          · intro dd w' hw'
            go_simp
            first | exact rfl | exact ⟨rfl, hw'⟩
          simp only [Act.put, List.setIfInBounds_toArray, List.set_cons_succ, List.set_cons_zero]
          apply wpM_val
          · rfl
          · rfl
          · intro dd w' hw'
            go_simp
            first | exact rfl | exact ⟨rfl, hw'⟩
          simp only [Act.put, List.setIfInBounds_toArray, List.set_cons_succ, List.set_cons_zero]
          apply wpM_val
          · rfl
          · rfl
          · intro dd w' hw'
            go_simp
            first | exact rfl | exact ⟨rfl, hw'⟩
          simp only [Act.put, List.setIfInBounds_toArray, List.set_cons_succ, List.set_cons_zero]
          apply wpM_val
          · rfl
          · rfl
          · intro dd w' hw'
            go_simp
            first | exact rfl | exact ⟨rfl, hw'⟩
          simp only [Act.put, List.setIfInBounds_toArray, List.set_cons_succ, List.set_cons_zero]
          apply wpM_val
          · rfl
          · rfl
          · intro dd w' hw'
            have hcell := (hw'.1.cell (p := ⟨bn, on + i, none⟩) hBn).trans Q1.out
            go_simp
            first | exact rfl | exact ⟨rfl, hw'⟩
          simp only [Act.put, List.setIfInBounds_toArray, List.set_cons_succ, List.set_cons_zero]
          apply wpM_val
          · rfl
          · rfl
          · intro dd w' hw'
            go_simp
            first | exact rfl | exact ⟨rfl, hw'⟩
          simp only [Act.put, List.setIfInBounds_toArray, List.set_cons_succ, List.set_cons_zero]
          apply wpM_val
          · rfl
          · rfl
          · intro dd w' hw'
            go_simp
            first | exact rfl | exact ⟨rfl, hw'⟩
          simp only [Act.put, List.setIfInBounds_toArray, List.set_cons_succ, List.set_cons_zero]
          apply wpM_val
          · rfl
          · rfl
          · intro dd w' hw'
            go_simp
            first | exact rfl | exact ⟨rfl, hw'⟩
          simp only [Act.put, List.setIfInBounds_toArray, List.set_cons_succ, List.set_cons_zero]
          apply wpM_val
          · rfl
          · rfl
          · intro dd w' hw'
            go_simp
            first | exact rfl | exact ⟨rfl, hw'⟩
          simp only [Act.put, List.setIfInBounds_toArray, List.set_cons_succ, List.set_cons_zero]
          apply wpM_val
          · rfl
          · rfl
          · intro dd w' hw'
            go_simp
            first | exact rfl | exact ⟨rfl, hw'⟩
          simp only [Act.put, List.setIfInBounds_toArray, List.set_cons_succ, List.set_cons_zero]
          apply wpM_val
          · rfl
          · rfl
          · intro dd w' hw'
            have hcell := (hw'.1.cell (p := ⟨bn, on + i, none⟩) hBn).trans Q1.out
            go_simp
            first | exact rfl | exact ⟨rfl, hw'⟩
          simp only [Act.put, List.setIfInBounds_toArray, List.set_cons_succ, List.set_cons_zero]
          apply wpM_val
          · rfl
          · rfl
          · intro dd w' hw'
            go_simp
            first | exact rfl | exact ⟨rfl, hw'⟩
          simp only [Act.put, List.setIfInBounds_toArray, List.set_cons_succ, List.set_cons_zero]
          apply wpM_val
          · rfl
          · rfl
          · intro dd w' hw'
            go_simp
            first | exact rfl | exact ⟨rfl, hw'⟩
          simp only [Act.put, List.setIfInBounds_toArray, List.set_cons_succ, List.set_cons_zero]
          apply wpM_put
          · rfl
          · rfl
          · intro d w' hd hw'
            have q := (hw'.2.cell c0).trans (get_tag (by omega))
            have qf := hw'.2.frozen c0
            go_simp
            refine ⟨rfl, hw'.1.setCell (Nat.le_refl _) _, ?_⟩
            have h := hw'.2.setCell_same c0 (.int .u8 (ShaM.digest T c0 : Nat))
            rw [tag_set] at h
            obtain ⟨hc0, hc1, hc2, hc3⟩ := HC.out
            obtain ⟨v0, v1', v2', v3'⟩ := HV.out
            have ev : IntKind.u8.wrap (IntKind.u32.wrap (((T.get i : Nat) : Int) / 16777216)) = ((ShaM.digest T c0 : Nat) : Int) := by
              rw [v0]; exact byte_wrap _ 16777216 x1
            have ef := F4_set0 c0 (ShaM.digest T c0) (ShaM.digest T c1) (ShaM.digest T c2) (ShaM.digest T c3) (dg T c0) d
            rw [← show c1 = c0 + 1 by omega, ← show c2 = c0 + 2 by omega, ← show c3 = c0 + 3 by omega] at ef
            rw [ev, ← ef]
            exact h
          simp only [Act.put]
          apply wpM_val
          · rfl
          · rfl
          · intro dd w' hw'
            go_simp
            first | exact rfl | exact ⟨rfl, hw'⟩
          simp only [Act.put, List.setIfInBounds_toArray, List.set_cons_succ, List.set_cons_zero]
          apply wpM_put
          · rfl
          · rfl
          · intro d w' hd hw'
            have q := (hw'.2.cell c1).trans (get_tag (by omega))
            have qf := hw'.2.frozen c1
            go_simp
            refine ⟨rfl, hw'.1.setCell (Nat.le_refl _) _, ?_⟩
            have h := hw'.2.setCell_same c1 (.int .u8 (ShaM.digest T c1 : Nat))
            rw [tag_set] at h
            obtain ⟨hc0, hc1, hc2, hc3⟩ := HC.out
            obtain ⟨v0, v1', v2', v3'⟩ := HV.out
            have ev : IntKind.u8.wrap (IntKind.u32.wrap (((T.get i : Nat) : Int) / 65536)) = ((ShaM.digest T c1 : Nat) : Int) := by
              rw [v1']; exact byte_wrap _ 65536 x1
            have ef := F4_set1 c0 (ShaM.digest T c0) (ShaM.digest T c1) (ShaM.digest T c2) (ShaM.digest T c3) (dg T c0) d
            rw [← show c1 = c0 + 1 by omega, ← show c2 = c0 + 2 by omega, ← show c3 = c0 + 3 by omega] at ef
            rw [ev, ← ef]
            exact h
          simp only [Act.put]
          apply wpM_val
          · rfl
          · rfl
          · intro dd w' hw'
            go_simp
            first | exact rfl | exact ⟨rfl, hw'⟩
          simp only [Act.put, List.setIfInBounds_toArray, List.set_cons_succ, List.set_cons_zero]
          apply wpM_put
          · rfl
          · rfl
          · intro d w' hd hw'
            have q := (hw'.2.cell c2).trans (get_tag (by omega))
            have qf := hw'.2.frozen c2
            go_simp
            refine ⟨rfl, hw'.1.setCell (Nat.le_refl _) _, ?_⟩
            have h := hw'.2.setCell_same c2 (.int .u8 (ShaM.digest T c2 : Nat))
            rw [tag_set] at h
            obtain ⟨hc0, hc1, hc2, hc3⟩ := HC.out
            obtain ⟨v0, v1', v2', v3'⟩ := HV.out
            have ev : IntKind.u8.wrap (IntKind.u32.wrap (((T.get i : Nat) : Int) / 256)) = ((ShaM.digest T c2 : Nat) : Int) := by
              rw [v2']; exact byte_wrap _ 256 x1
            have ef := F4_set2 c0 (ShaM.digest T c0) (ShaM.digest T c1) (ShaM.digest T c2) (ShaM.digest T c3) (dg T c0) d
            rw [← show c1 = c0 + 1 by omega, ← show c2 = c0 + 2 by omega, ← show c3 = c0 + 3 by omega] at ef
            rw [ev, ← ef]
            exact h
          simp only [Act.put]
          apply wpM_val
          · rfl
          · rfl
          · intro dd w' hw'
            go_simp
            first | exact rfl | exact ⟨rfl, hw'⟩
          simp only [Act.put, List.setIfInBounds_toArray, List.set_cons_succ, List.set_cons_zero]
          apply wpM_put
          · rfl
          · rfl
          · intro d w' hd hw'
            have q := (hw'.2.cell c3).trans (get_tag (by omega))
            have qf := hw'.2.frozen c3
            go_simp
            refine ⟨rfl, hw'.1.setCell (Nat.le_refl _) _, ?_⟩
            have h := hw'.2.setCell_same c3 (.int .u8 (ShaM.digest T c3 : Nat))
            rw [tag_set] at h
            obtain ⟨hc0, hc1, hc2, hc3⟩ := HC.out
            obtain ⟨v0, v1', v2', v3'⟩ := HV.out
            have ev : IntKind.u8.wrap ((T.get i : Nat) : Int) = ((ShaM.digest T c3 : Nat) : Int) := by
              rw [v3']; exact byte_wrap1 _
            have ef := F4_set3 c0 (ShaM.digest T c0) (ShaM.digest T c1) (ShaM.digest T c2) (ShaM.digest T c3) (dg T c0) d
            rw [← show c1 = c0 + 1 by omega, ← show c2 = c0 + 2 by omega, ← show c3 = c0 + 3 by omega] at ef
            rw [ev, ← ef]
            exact h
          simp only [Act.put]
          refine wpM_nil fun w5 hw5 => ?_
          have efull : F4 c0 c1 c2 c3 (ShaM.digest T c0) (ShaM.digest T c1) (ShaM.digest T c2) (ShaM.digest T c3) (dg T c0) (fun _ => true) = dg T (4 * (i + 1)) := by
            rw [← HST.out]
            exact funext fun j => by unfold F4; simp
          have g5 := hid hw5.2
          have b5 := hid hw5.1
          have DB5 := hid (DB.out.trans (hw5.1.mono (Nat.le_of_lt hwz)))
          have EF := hid efull
          clear hw5 efull
          go_wp2_with fail
          go_roundw
          case rel => exact ⟨i + 1, by omega, by go_num, D1.out.below b5.out hwz, by rw [← EF.out]; exact g5.out, hid fun j hj => (b5.out.cell (p := ⟨bn, on + j, none⟩) hBn).trans (ca'.out j hj), DB5⟩
          case measure => simp [intOf] <;> omega
        · obtain rfl : i = 8 := by omega
          rw [show 4 * 8 = 32 from rfl, dg_full] at d2
          have HD2 := hid d2
          have HDB := hid db
          clear ca' db
          go_wp2_with (first | ((with_reducible apply ldt); rfl; exact d2) | ((with_reducible apply stt); rfl; rfl; exact d1))
          apply ret_row Tryd.results45
          · exact d1.setRow_same _
          · exact Tryd.underlying29
          · rfl
          · exact (info_tag.trans (by rw [size_tag]))
          · rfl
          · rfl
          exact ⟨by rw [HAL.out, HT.out], below_setRow HDB.out (Nat.le_refl _) _⟩
end Go.Proofs.YtmbhibilmedjmaaDoor
set_option maxRecDepth 100000
namespace Go.Proofs.YtmbhibilmedjmaaDoor
open Go.ChangeShapes Go.WideShapes Go.ChangeAt Go.RowKit
attribute [local go_sem] Gives
set_option maxHeartbeats 400000 in
set_option maxRecDepth 100000 in
/-- P3.2, of whole blocks. -/
theorem ahead_ok (A : Option Addr) (l : List Nat) (n cap : Nat) (hl : l.length = n) (hn : n % 64 = 0) (hc : n ≤ cap) (hm : cap ≤ maxLen) (hz : n ≤ 1000000000000000) (hb : B256 l) (w : World) (hA : Byt w w.heap.size A l) (hS : Salts w) :
    Calls Tryd.prog 70 #[.slice A n cap] w fun e w' => e = .returned (.tuple #[.agg (pre (ShaM.passes ShaM.seeds l).get n true), .int .i64 0]) ∧ Below w.heap.size w w' := by
  have HB := hid hb
  have HA := hid hA
  have SA := hid hS
  have HL := hid hl
  clear hb hA hS hl
  go_enter Tryd.func70, Tryd.ntmps70
  go_wp2_with fail
  generalize hw3 : World.alloc w _ = w3
  have b2 : Blk w3 w.heap.size 69 (pre (fun _ => 0) 0 false) := by rw [← hw3]; exact Blk.top zlit_pre rfl
  have hb : Below w.heap.size w w3 := by rw [← hw3]; exact (Below.refl _ _).alloc (Nat.le_refl _) _
  clear hw3
  refine (start_any w3).mono ?_
  rintro e w4 ⟨rfl, hb'⟩
  have b2' := b2.below hb' b2.lt
  have hb4 := hb.trans (hb'.mono hb.size)
  clear hb' b2 hb w3
  have B2 := hid b2'
  have BEL := hid hb4
  clear b2' hb4
  go_wp2_with fail
  refine (more_ok ShaM.seeds ShaM.seeds_ok A l n cap 0 HL.out hn hc hm (by omega) HB.out w4 ((HA.out.below BEL.out (Nat.le_refl _)).more BEL.out.size) (SA.out.on BEL.out)).mono ?_
  rintro e w5 ⟨rfl, hb'⟩
  rw [Nat.zero_add]
  have b2 := B2.out.below hb' B2.out.lt
  have hb := BEL.out.trans (hb'.mono BEL.out.size)
  clear hb'
  go_wp2_with ((with_reducible apply stp); rfl; rfl; exact b2)
  apply ret_pre2 Tryd.results70
  · rfl
  · rfl
  · rfl
  · exact b2.setRow_same _
  exact ⟨rfl, below_setRow hb (Nat.le_refl _) _⟩
set_option maxHeartbeats 400000 in
set_option maxRecDepth 100000 in
/-- P3.2, of bytes that are no whole blocks. -/
theorem ahead_arg (A : Option Addr) (n cap : Nat) (hn : n % 64 ≠ 0) (hz : n ≤ 1000000000000000) (w : World) :
    Calls Tryd.prog 70 #[.slice A n cap] w fun e w' => e = .returned (.tuple #[.agg (pre (fun _ => 0) 0 false), .int .i64 2]) ∧ Below w.heap.size w w' := by
  go_enter Tryd.func70, Tryd.ntmps70
  go_wp2_with fail
  generalize hw3 : World.alloc w _ = w3
  have b2 : Blk w3 w.heap.size 69 (pre (fun _ => 0) 0 false) := by rw [← hw3]; exact Blk.top zlit_pre rfl
  have hb : Below w.heap.size w w3 := by rw [← hw3]; exact (Below.refl _ _).alloc (Nat.le_refl _) _
  clear hw3
  refine (start_any w3).mono ?_
  rintro e w4 ⟨rfl, hb'⟩
  have b2' := b2.below hb' b2.lt
  have hb4 := hb.trans (hb'.mono hb.size)
  clear hb' b2 hb w3
  have B2 := hid b2'
  have BEL := hid hb4
  clear b2' hb4
  go_wp2_with fail
  refine (more_arg _ _ n cap A hn hz w4).mono ?_
  rintro e w5 ⟨rfl, hb'⟩
  have b2 := B2.out.below hb' B2.out.lt
  have hb := BEL.out.trans (hb'.mono BEL.out.size)
  clear hb'
  go_wp2_with ((with_reducible apply stp); rfl; rfl; exact b2)
  apply ret_pre2 Tryd.results70
  · rfl
  · rfl
  · rfl
  · exact b2.setRow_same _
  exact ⟨rfl, below_setRow hb (Nat.le_refl _) _⟩
end Go.Proofs.YtmbhibilmedjmaaDoor
set_option maxRecDepth 100000
namespace Go.Proofs.YtmbhibilmedjmaaDoor.HmM
open ShaM
/-- A digest's bytes as a list. -/
def dl (f : Nat → Nat) : List Nat := (List.range 32).map f
theorem dl_length (f : Nat → Nat) : (dl f).length = 32 := by simp [dl]
theorem dl_get (f : Nat → Nat) {k : Nat} (h : k < 32) : (dl f).getD k 0 = f k := by simp [dl, h]
theorem dl_256 {f : Nat → Nat} (h : ∀ k, f k < 256) : ∀ x ∈ dl f, x < 256 := fun x hx => by
  obtain ⟨k, _, rfl⟩ := List.mem_map.1 hx
  exact h k
theorem dl_congr {f g : Nat → Nat} (h : ∀ k, k < 32 → f k = g k) : dl f = dl g := List.map_congr_left fun k hk => h k (List.mem_range.1 hk)
/-- A key, or the digest of one that is longer than a block. -/
def cutK (key : List Nat) : List Nat := if 64 < key.length then dl (sum key) else key
theorem cutK_len (key : List Nat) : (cutK key).length ≤ 64 := by
  unfold cutK; split
  · rw [dl_length]; omega
  · omega
/-- A key's block. -/
def blk (key : List Nat) : List Nat := cutK key ++ List.replicate (64 - (cutK key).length) 0
theorem blk_length (key : List Nat) : (blk key).length = 64 := by
  have := cutK_len key
  simp [blk]; omega
theorem blk_get (key : List Nat) (j : Nat) : (blk key).getD j 0 = if j < (cutK key).length then (cutK key).getD j 0 else 0 := by
  unfold blk
  rw [List.getD_eq_getElem?_getD, List.getD_eq_getElem?_getD]
  by_cases h : j < (cutK key).length
  · rw [if_pos h, List.getElem?_append_left h]
  · rw [if_neg h, List.getElem?_append_right (by omega), List.getElem?_replicate]
    split <;> rfl
theorem sum_256 (l : List Nat) (k : Nat) : sum l k < 256 := digest_lt _ k
theorem cutK_256 {key : List Nat} (h : ∀ x ∈ key, x < 256) : ∀ x ∈ cutK key, x < 256 := by
  unfold cutK; split
  · exact dl_256 (sum_256 key)
  · exact h
theorem blk_256 {key : List Nat} (h : ∀ x ∈ key, x < 256) : ∀ x ∈ blk key, x < 256 := fun x hx => by
  rcases List.mem_append.1 hx with hx | hx
  · exact cutK_256 h x hx
  · rw [(List.mem_replicate.1 hx).2]; omega
/-- Each byte added to x. -/
def pad (x : Nat) (k : List Nat) : List Nat := k.map (· ^^^ x)
theorem pad_length (x : Nat) (k : List Nat) : (pad x k).length = k.length := by simp [pad]
theorem pad_get (x : Nat) (k : List Nat) {j : Nat} (h : j < k.length) : (pad x k).getD j 0 = k.getD j 0 ^^^ x := by
  simp [pad, List.getD_eq_getElem?_getD, h]
theorem pad_256 {x : Nat} (hx : x < 256) {k : List Nat} (h : ∀ y ∈ k, y < 256) : ∀ y ∈ pad x k, y < 256 := fun y hy => by
  obtain ⟨z, hz, rfl⟩ := List.mem_map.1 hy
  exact Nat.xor_lt_two_pow (n := 8) (h z hz) hx
/-- The tag of b under key. -/
def tag (key b : List Nat) : Nat → Nat := sum (pad 92 (blk key) ++ dl (sum (pad 54 (blk key) ++ b)))
theorem tag_256 (key b : List Nat) (k : Nat) : tag key b k < 256 := sum_256 _ k
/-- Where all tags under a block begin. -/
def from' (x : Nat) (bk : List Nat) : S8 := passes seeds (pad x bk)
theorem from_ok (x : Nat) (bk : List Nat) : (from' x bk).ok := passes_ok _ (Nat.le_refl _) seeds_ok
theorem sum_from {x : Nat} {bk b : List Nat} (h : bk.length = 64) : sum (pad x bk ++ b) = digest (ended (from' x bk) 64 b) := by
  unfold sum from'
  rw [ended_append (n := 1) (by rw [pad_length, h]), pad_length, h]
/-- The tag of whole blocks A and what is left behind them. -/
theorem tag_parts {key A L : List Nat} {n : Nat} (hA : A.length = 64 * n) : tag key (A ++ L) = digest (ended (from' 92 (blk key)) 64 (dl (digest (ended (passes (from' 54 (blk key)) A) (64 + A.length) L)))) := by
  unfold tag
  rw [sum_from (blk_length key), sum_from (blk_length key), ended_append hA]
theorem tag_zeros {key : List Nat} {m : Nat} (h : key.length + m ≤ 64) (b : List Nat) : tag (key ++ List.replicate m 0) b = tag key b := by
  have e : blk (key ++ List.replicate m 0) = blk key := by
    have c1 : cutK (key ++ List.replicate m 0) = key ++ List.replicate m 0 := by unfold cutK; rw [if_neg (by simp; omega)]
    have c2 : cutK key = key := by unfold cutK; rw [if_neg (by omega)]
    unfold blk
    rw [c1, c2, List.append_assoc, List.length_append, List.length_replicate, List.replicate_append_replicate, show m + (64 - (key.length + m)) = 64 - key.length by omega]
  unfold tag
  rw [e]
theorem tag_long {key : List Nat} (h : 64 < key.length) (b : List Nat) : tag (dl (sum key)) b = tag key b := by
  have e : blk (dl (sum key)) = blk key := by
    have c1 : cutK (dl (sum key)) = dl (sum key) := by unfold cutK; rw [if_neg (by rw [dl_length]; omega)]
    have c2 : cutK key = dl (sum key) := by unfold cutK; rw [if_pos h]
    unfold blk
    rw [c1, c2]
  unfold tag
  rw [e]
/-- The n-th tag of a stretch, from 1 on; the one ahead of the first has no bytes. -/
def link (key b : List Nat) : Nat → List Nat
  | 0 => []
  | n + 1 => dl (tag key (link key b n ++ b ++ [(n + 1) % 256]))
theorem link_length (key b : List Nat) (n : Nat) : (link key b (n + 1)).length = 32 := dl_length _
theorem link_256 (key b : List Nat) : ∀ n, ∀ x ∈ link key b n, x < 256
  | 0 => fun x hx => by cases hx
  | n + 1 => dl_256 (tag_256 _ _)
/-- The first n tags of a stretch. -/
def chain (key b : List Nat) : Nat → List Nat
  | 0 => []
  | n + 1 => chain key b n ++ link key b (n + 1)
theorem chain_length (key b : List Nat) : ∀ n, (chain key b n).length = 32 * n
  | 0 => rfl
  | n + 1 => by rw [chain, List.length_append, chain_length key b n, link_length]; omega
theorem chain_256 (key b : List Nat) : ∀ n, ∀ x ∈ chain key b n, x < 256
  | 0 => fun x hx => by cases hx
  | n + 1 => fun x hx => by
    rcases List.mem_append.1 hx with hx | hx
    · exact chain_256 key b n x hx
    · exact link_256 key b (n + 1) x hx
/-- The first size bytes. -/
def stretch (key b : List Nat) (size : Nat) : List Nat := (chain key b ((size + 31) / 32)).take size
theorem stretch_length (key b : List Nat) (size : Nat) : (stretch key b size).length = size := by
  unfold stretch; rw [List.length_take, chain_length]; omega
theorem chain_take (key b : List Nat) {n : Nat} : ∀ {m : Nat}, n ≤ m → (chain key b m).take (32 * n) = chain key b n := by
  intro m h
  induction m with
  | zero => rw [show n = 0 by omega]; rfl
  | succ m ih =>
    by_cases e : n = m + 1
    · subst e; rw [← chain_length key b (m + 1), List.take_length]
    · rw [chain, List.take_append_of_le_length (by rw [chain_length]; omega), ih (by omega)]
theorem stretch_any (key b : List Nat) {size n : Nat} (h : size ≤ 32 * n) : (chain key b n).take size = stretch key b size := by
  unfold stretch
  rw [← chain_take key b (n := (size + 31) / 32) (m := n) (by omega), List.take_take, Nat.min_eq_left (by omega)]
theorem stretch_take (key b : List Nat) {n m : Nat} (h : m ≤ n) : (stretch key b n).take m = stretch key b m := by
  have e : stretch key b n = (chain key b ((n + 31) / 32)).take n := rfl
  rw [e, List.take_take, Nat.min_eq_left h]
  exact stretch_any key b (by omega)
end Go.Proofs.YtmbhibilmedjmaaDoor.HmM
set_option maxRecDepth 100000
namespace Go.Proofs.YtmbhibilmedjmaaDoor
open Go.ChangeShapes Go.WideShapes Go.ChangeAt Go.RowKit
attribute [local go_sem] Gives
theorem zlit_b64 : (#[.int .u8 0, .int .u8 0, .int .u8 0, .int .u8 0, .int .u8 0, .int .u8 0, .int .u8 0, .int .u8 0, .int .u8 0, .int .u8 0, .int .u8 0, .int .u8 0, .int .u8 0, .int .u8 0, .int .u8 0, .int .u8 0, .int .u8 0, .int .u8 0, .int .u8 0, .int .u8 0, .int .u8 0, .int .u8 0, .int .u8 0, .int .u8 0, .int .u8 0, .int .u8 0, .int .u8 0, .int .u8 0, .int .u8 0, .int .u8 0, .int .u8 0, .int .u8 0, .int .u8 0, .int .u8 0, .int .u8 0, .int .u8 0, .int .u8 0, .int .u8 0, .int .u8 0, .int .u8 0, .int .u8 0, .int .u8 0, .int .u8 0, .int .u8 0, .int .u8 0, .int .u8 0, .int .u8 0, .int .u8 0, .int .u8 0, .int .u8 0, .int .u8 0, .int .u8 0, .int .u8 0, .int .u8 0, .int .u8 0, .int .u8 0, .int .u8 0, .int .u8 0, .int .u8 0, .int .u8 0, .int .u8 0, .int .u8 0, .int .u8 0, .int .u8 0] : Array Value) = bts 64 fun _ => 0 := by rfl
theorem info_b64 : (Tryd.prog.info? 24).map (·.size) = some 64 := by kernel_rfl
section
variable {ops : Array Oper} {Q : Exit → Act → World → Prop} {a : Act} {w : World} {rest : List Oper} {dst : Option Tmp} {ty : TypeId} {pos : String} {after : Array Edge} {x y : Operand} {g : Nat} {f f0 : Nat → Nat}
theorem ldb (hx : a.eval x = .pointer (some ⟨g, 0, none⟩)) (hb : Blk w g 24 (bts 64 f)) (h : wpList Tryd.prog ops Q rest (a.put dst (.agg (bts 64 f))) w) :
    wpList Tryd.prog ops Q (⟨dst, .load 24 x, ty, pos, after, none⟩ :: rest) a w :=
  step_load_row hb Tryd.underlying24 rfl (info_b64.trans (by rw [size_bts])) hx h
theorem stb (hx : a.eval x = .pointer (some ⟨g, 0, none⟩)) (hy : a.eval y = .agg (bts 64 f)) (hb : Blk w g 24 (bts 64 f0)) (h : wpList Tryd.prog ops Q rest (a.put dst undef) (w.setRow g (bts 64 f))) :
    wpList Tryd.prog ops Q (⟨dst, .store 24 x y, ty, pos, after, none⟩ :: rest) a w :=
  step_store_row hb (info_b64.trans (by rw [size_bts])) (by rw [size_bts, size_bts]) bts_one hx hy h
end
/-- A list's bytes as a row of 64. -/
abbrev l64 (l : List Nat) : Array Value := bts 64 fun j => l.getD j 0
theorem key_row {key : List Nat} {n : Nat} (h : (HmM.cutK key).length = n) : (bts 64 fun j => if j < n then ShaM.at' (HmM.cutK key) j else 0) = l64 (HmM.blk key) := bts_ext fun j _ => by
  subst h
  rw [HmM.blk_get]; rfl
set_option maxHeartbeats 400000 in
set_option maxRecDepth 100000 in
theorem key_short (A : Option Addr) (l : List Nat) (n cap : Nat) (hl : l.length = n) (hn : n ≤ 64) (hc : n ≤ cap) (hm : cap ≤ maxLen) (w : World) (hA : Byt w w.heap.size A l) :
    Calls Tryd.prog 57 #[.slice A n cap] w fun e w' => e = .returned (.agg (l64 (HmM.blk l))) ∧ Below w.heap.size w w' := by
  have HA := hid hA
  have HL := hid hl
  have hk : HmM.cutK l = l := by unfold HmM.cutK; rw [if_neg (by omega)]
  have HK := hid hk
  clear hA hl hk
  have t0 : decide ((64 : Int) < (n : Int)) = false := by simp; omega
  go_enter Tryd.func57, Tryd.ntmps57
  go_upto_region 5 with fail
  generalize hw3 : World.alloc (World.alloc w _) _ = w3
  have b1 : Blk w3 w.heap.size 24 (bts 64 fun _ => 0) := by rw [← hw3]; exact (Blk.top zlit_b64 rfl).alloc _
  have b2 : Blk w3 (w.heap.size + 1) 24 (bts 64 fun _ => 0) := by rw [← hw3]; exact Blk.top zlit_b64 (by simp)
  have hb : Below w.heap.size w w3 := by rw [← hw3]; exact ((Below.refl _ _).alloc (Nat.le_refl _) _).alloc (by simp) _
  clear hw3
  have ha := (HA.out.below hb (Nat.le_refl _))
  go_upto_region 6 with ((with_reducible apply wcopy); rfl; rfl; exact b2; exact ha; exact HL.out; omega)
  generalize hw4 : World.setRow _ _ _ = w4
  have c2 : Blk w4 (w.heap.size + 1) 24 (l64 (HmM.blk l)) := by
    rw [← hw4]
    have h := b2.setRow_same (bts 64 fun j => if j < n then ShaM.at' l j else 0)
    rw [← key_row (key := l) (n := n) (by rw [HK.out, HL.out]), HK.out]
    exact h
  have c1 : Blk w4 w.heap.size 24 (bts 64 fun _ => 0) := by rw [← hw4]; exact b1.setRow_other (by omega) _
  have cb : Below w.heap.size w w4 := by rw [← hw4]; exact below_setRow hb (by omega) _
  clear hw4 b1 b2 hb ha w3
  go_wp2_with (first | ((with_reducible apply ldb); rfl; exact c2) | ((with_reducible apply stb); rfl; rfl; exact c1))
  apply ret_row Tryd.results57
  · exact c1.setRow_same _
  · exact Tryd.underlying24
  · rfl
  · exact (info_b64.trans (by rw [size_bts]))
  · rfl
  · rfl
  exact ⟨rfl, below_setRow cb (Nat.le_refl _) _⟩
set_option maxHeartbeats 400000 in
set_option maxRecDepth 100000 in
theorem key_long (A : Option Addr) (l : List Nat) (n cap : Nat) (hl : l.length = n) (hn : 64 < n) (hc : n ≤ cap) (hm : cap ≤ maxLen) (hz : n ≤ 1000000000000000) (h256 : B256 l) (w : World) (hA : Byt w w.heap.size A l) (hS : Salts w) :
    Calls Tryd.prog 57 #[.slice A n cap] w fun e w' => e = .returned (.agg (l64 (HmM.blk l))) ∧ Below w.heap.size w w' := by
  have HA := hid hA
  have HL := hid hl
  have SA := hid hS
  have H256 := hid h256
  have hk : HmM.cutK l = HmM.dl (ShaM.sum l) := by unfold HmM.cutK; rw [if_pos (by omega)]
  have HK := hid hk
  clear hA hl hk hS h256
  have t0 : decide ((64 : Int) < (n : Int)) = true := by simp; omega
  go_enter Tryd.func57, Tryd.ntmps57
  go_upto_region 3 with fail
  generalize hw3 : World.alloc (World.alloc w _) _ = w3
  have b1 : Blk w3 w.heap.size 24 (bts 64 fun _ => 0) := by rw [← hw3]; exact (Blk.top zlit_b64 rfl).alloc _
  have b2 : Blk w3 (w.heap.size + 1) 24 (bts 64 fun _ => 0) := by rw [← hw3]; exact Blk.top zlit_b64 (by simp)
  have hb : Below w.heap.size w w3 := by rw [← hw3]; exact ((Below.refl _ _).alloc (Nat.le_refl _) _).alloc (by simp) _
  clear hw3
  have B1 := hid b1
  have B2 := hid b2
  have BEL := hid hb
  clear b1 b2 hb
  go_wp2_with fail
  refine (sum_any A l n cap HL.out hc hm hz H256.out w3 ((HA.out.below BEL.out (Nat.le_refl _)).more BEL.out.size) (SA.out.on BEL.out)).mono ?_
  rintro e w4 ⟨rfl, h4⟩
  have b1 := B1.out.below h4 B1.out.lt
  have b2 := B2.out.below h4 B2.out.lt
  have hb := BEL.out.trans (h4.mono BEL.out.size)
  have hz2 : w.heap.size + 1 < w4.heap.size := b2.lt
  clear h4 B1 B2 BEL
  go_upto_region 5 with ((with_reducible apply stt); rfl; rfl; exact Blk.top zlit_tag rfl)
  generalize hw5 : World.setRow _ _ _ = w5
  have c3 : Blk w5 w4.heap.size 29 (tag (ShaM.sum l)) := by rw [← hw5]; exact (Blk.top zlit_tag rfl).setRow_same _
  have c1 : Blk w5 w.heap.size 24 (bts 64 fun _ => 0) := by rw [← hw5]; exact (b1.alloc _).setRow_other (by omega) _
  have c2 : Blk w5 (w.heap.size + 1) 24 (bts 64 fun _ => 0) := by rw [← hw5]; exact (b2.alloc _).setRow_other (by omega) _
  have cb : Below w.heap.size w w5 := by rw [← hw5]; exact below_setRow (hb.alloc (by omega) _) (by omega) _
  have ha : Byt w5 w5.heap.size (some ⟨w4.heap.size, 0, none⟩) (HmM.dl (ShaM.sum l)) := Blk.byt c3 c3.lt (by rw [HmM.dl_length]; omega) fun j hj => by rw [HmM.dl_length] at hj; exact HmM.dl_get _ hj
  clear hw5 b1 b2 hb
  go_upto_region 6 with ((with_reducible apply wcopy); rfl; rfl; exact c2; exact ha; exact HmM.dl_length _; omega)
  generalize hw6 : World.setRow _ _ _ = w6
  have d2 : Blk w6 (w.heap.size + 1) 24 (l64 (HmM.blk l)) := by
    rw [← hw6]
    have h := c2.setRow_same (bts 64 fun j => if j < 32 then ShaM.at' (HmM.dl (ShaM.sum l)) j else 0)
    rw [← key_row (key := l) (n := 32) (by rw [HK.out, HmM.dl_length]), HK.out]
    exact h
  have d1 : Blk w6 w.heap.size 24 (bts 64 fun _ => 0) := by rw [← hw6]; exact c1.setRow_other (by omega) _
  have db : Below w.heap.size w w6 := by rw [← hw6]; exact below_setRow cb (by omega) _
  clear hw6 c1 c2 c3 cb ha
  go_wp2_with (first | ((with_reducible apply ldb); rfl; exact d2) | ((with_reducible apply stb); rfl; rfl; exact d1))
  apply ret_row Tryd.results57
  · exact d1.setRow_same _
  · exact Tryd.underlying24
  · rfl
  · exact (info_b64.trans (by rw [size_bts]))
  · rfl
  · rfl
  exact ⟨rfl, below_setRow db (Nat.le_refl _) _⟩
theorem key_any (A : Option Addr) (l : List Nat) (n cap : Nat) (hl : l.length = n) (hc : n ≤ cap) (hm : cap ≤ maxLen) (hz : n ≤ 1000000000000000) (h256 : B256 l) (w : World) (hA : Byt w w.heap.size A l) (hS : Salts w) :
    Calls Tryd.prog 57 #[.slice A n cap] w fun e w' => e = .returned (.agg (l64 (HmM.blk l))) ∧ Below w.heap.size w w' := by
  rcases Nat.lt_or_ge 64 n with h | h
  · exact key_long A l n cap hl h hc hm hz h256 w hA hS
  · exact key_short A l n cap hl h hc hm w hA
/-- The first k bytes added to x. -/
def padK (x : Nat) (l : List Nat) (k j : Nat) : Nat := if j < k then l.getD j 0 ^^^ x else l.getD j 0
theorem padK_step (x : Nat) (l : List Nat) (k : Nat) : (fun j => if j = k then l.getD k 0 ^^^ x else padK x l k j) = padK x l (k + 1) := funext fun j => by
  unfold padK
  by_cases h : j = k
  · subst h; rw [if_pos rfl, if_pos (by omega)]
  · rw [if_neg h]
    by_cases h2 : j < k
    · rw [if_pos h2, if_pos (by omega)]
    · rw [if_neg h2, if_neg (by omega)]
theorem padK_full {x : Nat} {l : List Nat} (h : l.length = 64) : bts 64 (padK x l 64) = l64 (HmM.pad x l) := bts_ext fun j hj => by
  unfold padK
  rw [if_pos hj, HmM.pad_get x l (by omega)]
set_option maxHeartbeats 400000 in
set_option maxRecDepth 100000 in
theorem padded_any (l : List Nat) (hl : l.length = 64) (h256 : B256 l) (x : Nat) (hx : x < 256) (w : World) (hS : Salts w) :
    Calls Tryd.prog 58 #[.agg (l64 l), .int .u8 x] w fun e w' => e = .returned (.agg (pre (HmM.from' x l).get 64 true)) ∧ Below w.heap.size w w' := by
  have HL := hid hl
  have SA := hid hS
  have H256 := hid h256
  clear hl hS h256
  go_enter Tryd.func58, Tryd.ntmps58
  go_upto_region 2 with fail
  generalize hw3 : World.alloc (World.alloc w _) _ = w3
  have b1 : Blk w3 w.heap.size 24 (bts 64 (padK x l 0)) := by rw [← hw3]; exact (Blk.top rfl rfl).alloc _
  have b2 : Blk w3 (w.heap.size + 1) 69 (pre (fun _ => 0) 0 false) := by rw [← hw3]; exact Blk.top zlit_pre (by simp)
  have hb : Below w.heap.size w w3 := by rw [← hw3]; exact ((Below.refl _ _).alloc (Nat.le_refl _) _).alloc (by simp) _
  clear hw3
  go_loopw [8] (fun v wr => ∃ k : Nat, k ≤ 64 ∧ v = .int .i64 k ∧ Blk wr w.heap.size 24 (bts 64 (padK x l k)) ∧ Blk wr (w.heap.size + 1) 69 (pre (fun _ => 0) 0 false) ∧ Below w.heap.size w wr) (fun v _ => 64 - (intOf v).toNat)
  case atStart => exact ⟨0, by omega, rfl, b1, b2, hb⟩
  case round =>
    clear b1 b2 hb
    obtain ⟨k, hk, rfl, b1, b2, hb⟩ := hrel
    by_cases hlt : k < 64
    · have tk : (k : Int) < 64 := by omega
      have hg : padK x l k k = l.getD k 0 := by unfold padK; rw [if_neg (by omega)]
      have q1 : wr.cell? ⟨w.heap.size, k, none⟩ = some (.int .u8 (l.getD k 0 : Nat)) := by rw [b1.cell, get_bts hlt, hg]
      have q3 := b1.frozen k
      have h1 : l.getD k 0 < 256 := ShaM.getD_lt (by omega) H256.out k
      have hx1 : bits .xor .u8 ((l.getD k 0 : Nat) : Int) (x : Int) = ((l.getD k 0 ^^^ x : Nat) : Int) := u8_xor_nat _ _ h1 hx
      generalize hy : l.getD k 0 = y at *
      have HY := hid hy
      have HG := hid hg
      have B1 := hid b1
      have B2 := hid b2
      have BEL := hid hb
      clear hy hg b1 b2 hb
      go_wp2_with fail
      go_roundw
      case rel =>
        refine ⟨k + 1, by omega, by go_num, ?_, B2.out.setCell_other (by simp) _, BEL.out.setCell (by simp) _⟩
        have h := B1.out.setCell_same k (.int .u8 (y ^^^ x : Nat))
        rw [bts_set, ← HY.out, padK_step] at h
        rw [← HY.out]
        exact h
      case measure => simp [intOf]; omega
    · have tk : decide ((k : Int) < 64) = false := by simp; omega
      rw [show k = 64 by omega, padK_full HL.out] at b1
      have hpl : (HmM.pad x l).length = 64 := by rw [HmM.pad_length, HL.out]
      have hp256 : B256 (HmM.pad x l) := HmM.pad_256 hx H256.out
      have hby : Byt wr wr.heap.size (some ⟨w.heap.size, 0, none⟩) (HmM.pad x l) := b1.byt b1.lt (by omega) fun _ _ => rfl
      have HP := hid hpl
      have HP2 := hid hp256
      have BY := hid hby
      have B2 := hid b2
      have BEL := hid hb
      clear b1 b2 hb hpl hp256 hby
      go_wp2_with fail
      refine (ahead_ok _ (HmM.pad x l) 64 64 HP.out rfl (Nat.le_refl _) (by unfold maxLen; omega) (by omega) HP2.out wr BY.out (SA.out.on BEL.out)).mono ?_
      rintro e w4 ⟨rfl, h4⟩
      have b2 := B2.out.below h4 B2.out.lt
      have hb := BEL.out.trans (h4.mono BEL.out.size)
      have hz2 : w.heap.size + 1 < w4.heap.size := b2.lt
      clear h4 B2 BEL BY HP2 HP
      rw [show ShaM.passes ShaM.seeds (HmM.pad x l) = HmM.from' x l from rfl]
      go_upto_region 7 with ((with_reducible apply stp); rfl; rfl; exact Blk.top zlit_pre rfl)
      generalize hw5 : World.setRow _ _ _ = w5
      have c3 : Blk w5 w4.heap.size 69 (pre (HmM.from' x l).get 64 true) := by rw [← hw5]; exact (Blk.top zlit_pre rfl).setRow_same _
      have c2 : Blk w5 (w.heap.size + 1) 69 (pre (fun _ => 0) 0 false) := by rw [← hw5]; exact (b2.alloc _).setRow_other (by omega) _
      have cb : Below w.heap.size w w5 := by rw [← hw5]; exact below_setRow (hb.alloc (by omega) _) (by omega) _
      clear hw5 b2 hb
      go_wp2_with (first | ((with_reducible apply ldp); rfl; exact c3) | ((with_reducible apply stp); rfl; rfl; exact c2))
      apply ret_row Tryd.results58
      · exact c2.setRow_same _
      · exact Tryd.underlying69
      · rfl
      · exact (info_pre.trans (by rw [size_pre]))
      · rfl
      · rfl
      exact ⟨rfl, below_setRow cb (by omega) _⟩
end Go.Proofs.YtmbhibilmedjmaaDoor
set_option maxRecDepth 100000
namespace Go.Proofs.YtmbhibilmedjmaaDoor
open Go.ChangeShapes Go.WideShapes Go.ChangeAt Go.RowKit
attribute [local go_sem] Gives
/-- A prefix's cells. -/
def preC (f : Nat → Nat) (m : Nat) (b : Bool) (j : Nat) : Value := if j < 8 then .int .u32 (f j : Nat) else if j = 8 then .int .i64 m else .bool b
theorem pre_row (f : Nat → Nat) (m : Nat) (b : Bool) : pre f m b = row 10 (preC f m b) := rfl
theorem preC_one (f : Nat → Nat) (m : Nat) (b : Bool) (j : Nat) : (preC f m b j).oneCell' = true := by
  unfold preC
  by_cases h : j < 8
  · simp only [h, if_true]; rfl
  · simp only [h, if_false]
    by_cases h2 : j = 8
    · simp only [h2, if_true]; rfl
    · simp only [h2, if_false]; rfl
/-- Where all tags under one key begin. -/
def kyd (f g : Nat → Nat) : Array Value := row 20 fun j => if j < 10 then preC f 64 true j else preC g 64 true (j - 10)
theorem size_kyd {f g : Nat → Nat} : (kyd f g).size = 20 := size_row
theorem info_kyd : (Tryd.prog.info? 71).map (·.size) = some 20 := by kernel_rfl
theorem built_kyd (f g : Nat → Nat) : Tryd.prog.built 71 [(0, .agg (pre f 64 true)), (1, .agg (pre g 64 true))] = some (kyd f g) := by kernel_rfl
theorem zlit_kyd : (#[.int .u32 0, .int .u32 0, .int .u32 0, .int .u32 0, .int .u32 0, .int .u32 0, .int .u32 0, .int .u32 0, .int .i64 0, .bool false, .int .u32 0, .int .u32 0, .int .u32 0, .int .u32 0, .int .u32 0, .int .u32 0, .int .u32 0, .int .u32 0, .int .i64 0, .bool false] : Array Value) = row 20 fun j => if j < 10 then preC (fun _ => 0) 0 false j else preC (fun _ => 0) 0 false (j - 10) := by rfl
theorem kyd_one {f g : Nat → Nat} : (kyd f g).all (·.oneCell') = true := row_one fun k _ => by
  by_cases h : k < 10
  · simp only [h, if_true]; exact preC_one _ _ _ _
  · simp only [h, if_false]; exact preC_one _ _ _ _
/-- The message: what was gone through, 64 bytes of which the first n wait. -/
def msg (f : Nat → Nat) (m : Nat) (l : Nat → Nat) (n : Nat) : Array Value := row 75 fun j => if j < 10 then preC f m true j else if j < 74 then .int .u8 (l (j - 10) : Nat) else .int .i64 n
theorem size_msg {f : Nat → Nat} {m : Nat} {l : Nat → Nat} {n : Nat} : (msg f m l n).size = 75 := size_row
theorem info_msg : (Tryd.prog.info? 87).map (·.size) = some 75 := by kernel_rfl
theorem built_msg (f : Nat → Nat) : Tryd.prog.built 87 [(0, .agg (pre f 64 true))] = some (msg f 64 (fun _ => 0) 0) := by kernel_rfl
theorem msg_one {f : Nat → Nat} {m : Nat} {l : Nat → Nat} {n : Nat} : (msg f m l n).all (·.oneCell') = true := row_one fun k _ => by
  by_cases h : k < 10
  · simp only [h, if_true]; exact preC_one _ _ _ _
  · simp only [h, if_false]
    by_cases h2 : k < 74
    · simp only [h2, if_true]; rfl
    · simp only [h2, if_false]; rfl
section
variable {w : World} {g m n : Nat} {t : TypeId} {f k : Nat → Nat} {l : Nat → Nat}
theorem Blk.kydA (h : Blk w g t (kyd f k)) : w.rangeAt g 0 (pre f 64 true).toList := fun j v hj => by
  have hj8 : j < 10 := by have := (List.getElem?_eq_some_iff.1 hj).1; rwa [Array.length_toList, size_pre] at this
  rw [Array.getElem?_toList, pre_row, get_row_lt hj8] at hj
  rw [Nat.zero_add, h.cell]
  unfold kyd
  rw [get_row_lt (by omega), if_pos hj8]
  exact hj
theorem Blk.kydB (h : Blk w g t (kyd f k)) : w.rangeAt g 10 (pre k 64 true).toList := fun j v hj => by
  have hj8 : j < 10 := by have := (List.getElem?_eq_some_iff.1 hj).1; rwa [Array.length_toList, size_pre] at this
  rw [Array.getElem?_toList, pre_row, get_row_lt hj8] at hj
  rw [h.cell]
  unfold kyd
  rw [get_row_lt (by omega), if_neg (by omega), show 10 + j - 10 = j by omega]
  exact hj
theorem Blk.msgA (h : Blk w g t (msg f m l n)) : w.rangeAt g 0 (pre f m true).toList := fun j v hj => by
  have hj8 : j < 10 := by have := (List.getElem?_eq_some_iff.1 hj).1; rwa [Array.length_toList, size_pre] at this
  rw [Array.getElem?_toList, pre_row, get_row_lt hj8] at hj
  rw [Nat.zero_add, h.cell]
  unfold msg
  rw [get_row_lt (by omega), if_pos hj8]
  exact hj
theorem Blk.msgN (h : Blk w g t (msg f m l n)) : w.cell? ⟨g, 74, none⟩ = some (.int .i64 n) := by
  rw [h.cell]; unfold msg; rw [get_row_lt (by omega), if_neg (by omega), if_neg (by omega)]
theorem Blk.msgL (h : Blk w g t (msg f m l n)) {j : Nat} (hj : j < 64) : w.cell? ⟨g, 10 + j, none⟩ = some (.int .u8 (l j : Nat)) := by
  rw [h.cell]; unfold msg; rw [get_row_lt (by omega), if_neg (by omega), if_pos (by omega), show 10 + j - 10 = j by omega]
theorem Blk.msgByt (h : Blk w g t (msg f m l n)) {B : Nat} (hg : g < B) {L : List Nat} (hL : L.length ≤ 64) (he : ∀ j, j < L.length → L.getD j 0 = l j) : Byt w B (some ⟨g, 10, none⟩) L := fun _ =>
  ⟨g, 10, rfl, hg, fun i hi => by rw [h.msgL (by omega), he i hi]⟩
theorem Blk.msgSetN (h : Blk w g t (msg f m l n)) (n' : Nat) : Blk (w.setCell ⟨g, 74, none⟩ (.int .i64 n')) g t (msg f m l n') := by
  have h1 := h.setCell_same 74 (.int .i64 n')
  have e : (msg f m l n).setIfInBounds 74 (.int .i64 n') = msg f m l n' := by
    unfold msg
    rw [row_set]
    refine row_ext fun j hj => ?_
    by_cases h2 : j = 74
    · subst h2; simp
    · rw [if_neg h2]
      by_cases h3 : j < 10
      · rw [if_pos h3, if_pos h3]
      · rw [if_neg h3, if_neg h3, if_pos (by omega), if_pos (by omega)]
  rw [e] at h1
  exact h1
theorem pre_getD (f : Nat → Nat) (m : Nat) (b : Bool) {j : Nat} (h : j < 10) : (pre f m b).toList.getD j undef = preC f m b j := by
  rw [List.getD_eq_getElem?_getD, Array.getElem?_toList, pre_row, get_row_lt h]; rfl
theorem Blk.msgSetP (h : Blk w g t (msg f m l n)) (f' : Nat → Nat) (m' : Nat) : Blk (w.setCells g 0 (pre f' m' true).toList) g t (msg f' m' l n) ∧ Below g w (w.setCells g 0 (pre f' m' true).toList) := by
  have hl : (pre f' m' true).toList.length = 10 := by rw [Array.length_toList, size_pre]
  obtain ⟨h1, h2⟩ := blk_setCells (pre f' m' true).toList 0 w _ h (by rw [hl]; omega)
  refine ⟨?_, h2⟩
  unfold msg
  rw [row_ext (g := fun j => if j < 10 then preC f' m' true j else if j < 74 then .int .u8 (l (j - 10) : Nat) else .int .i64 n) fun j _ => ?_] at h1
  · exact h1
  · rw [hl]
    by_cases e : j < 10
    · rw [if_pos (by omega), if_pos e, Nat.sub_zero, pre_getD _ _ _ e]
    · rw [if_neg (by omega), if_neg e, if_neg e]
end
section
variable {ops : Array Oper} {Q : Exit → Act → World → Prop} {a : Act} {w : World} {rest : List Oper} {dst : Option Tmp} {ty : TypeId} {pos : String} {after : Array Edge} {x y : Operand} {g o m m' n : Nat} {f f' l : Nat → Nat} {b : Bool}
/-- A prefix out of the middle of a block. -/
theorem ldpm (hx : a.eval x = .pointer (some ⟨g, o, none⟩)) (hc : w.rangeAt g o (pre f m b).toList) (h : wpList Tryd.prog ops Q rest (a.put dst (.agg (pre f m b))) w) :
    wpList Tryd.prog ops Q (⟨dst, .load 69 x, ty, pos, after, none⟩ :: rest) a w :=
  step_load_mid hc Tryd.underlying69 rfl (info_pre.trans (by rw [Array.length_toList, size_pre])) hx (by rw [Array.toArray_toList]; exact h)
/-- A message's prefix stored. -/
theorem stpm {t : TypeId} (hx : a.eval x = .pointer (some ⟨g, 0, none⟩)) (hy : a.eval y = .agg (pre f' m' true)) (hb : Blk w g t (msg f m l n))
    (h : ∀ w', Blk w' g t (msg f' m' l n) → Below g w w' → wpList Tryd.prog ops Q rest (a.put dst undef) w') :
    wpList Tryd.prog ops Q (⟨dst, .store 69 x y, ty, pos, after, none⟩ :: rest) a w := by
  refine wpList_store_mid rfl 69 x y rfl g 0 (pre f' m' true) hx hy ?_ (info_pre.trans (by rw [size_pre])) pre_one ?_
  · intro j hj
    rw [size_pre] at hj
    refine ⟨?_, hb.frozen _⟩
    rw [hb.cell]
    unfold msg
    rw [get_row_lt (by omega)]; rfl
  · exact h _ (hb.msgSetP f' m').1 (hb.msgSetP f' m').2
theorem bldm (hy : a.eval x = .agg (pre f 64 true)) (h : wpList Tryd.prog ops Q rest (a.put dst (.agg (msg f 64 (fun _ => 0) 0))) w) :
    wpList Tryd.prog ops Q (⟨dst, .build 87 #[(0, x)], ty, pos, after, none⟩ :: rest) a w := by
  refine wpList_plain rfl fun K hK => ?_
  have hr := run_build (P := Tryd.prog) w 87 #[(0, a.eval x)] _ (by rw [hy]; exact built_msg f)
  unfold Oper.wp
  simp [execOp, hr, Result.andThen]
  exact hK _ _ h
theorem stm {t : TypeId} {old : Array Value} (hx : a.eval x = .pointer (some ⟨g, 0, none⟩)) (hy : a.eval y = .agg (msg f m l n)) (hb : Blk w g t old) (ho : old.size = 75) (h : wpList Tryd.prog ops Q rest (a.put dst undef) (w.setRow g (msg f m l n))) :
    wpList Tryd.prog ops Q (⟨dst, .store 87 x y, ty, pos, after, none⟩ :: rest) a w :=
  step_store_row hb (info_msg.trans (by rw [size_msg])) (by rw [size_msg, ho]) msg_one hx hy h
theorem stk {t : TypeId} {old : Array Value} (hx : a.eval x = .pointer (some ⟨g, 0, none⟩)) (hy : a.eval y = .agg (kyd f f')) (hb : Blk w g t old) (ho : old.size = 20) (h : wpList Tryd.prog ops Q rest (a.put dst undef) (w.setRow g (kyd f f'))) :
    wpList Tryd.prog ops Q (⟨dst, .store 71 x y, ty, pos, after, none⟩ :: rest) a w :=
  step_store_row hb (info_kyd.trans (by rw [size_kyd])) (by rw [size_kyd, ho]) kyd_one hx hy h
theorem klb {C : World → Prop} {Qk : Act → Prop} {gd : Option (Nat × Bool)} (hwt : Region.wanted ⟨dst, .load 24 x, ty, pos, after, gd⟩ (yielded ops a.tmps) = true) (hx : a.eval x = .pointer (some ⟨g, 0, none⟩)) (hb : ∀ w, C w → Blk w g 24 (bts 64 f)) (h : wpK Tryd.prog ops C Qk rest (a.put dst (.agg (bts 64 f)))) :
    wpK Tryd.prog ops C Qk (⟨dst, .load 24 x, ty, pos, after, gd⟩ :: rest) a :=
  wpK_val hwt (fun w hw => gives_value (w' := w) (by
    have h1 : w.rangeAt g 0 (bts 64 f).toList := fun j v hj => by
      rw [Array.getElem?_toList] at hj
      rw [Nat.zero_add, (hb w hw).cell]
      exact hj
    have := run_loadAt_mid (P := Tryd.prog) w g 0 24 (bts 64 f).toList _ h1 Tryd.underlying24 rfl (info_b64.trans (by rw [Array.length_toList, size_bts]))
    rw [Array.toArray_toList] at this
    simp only [execOp, hx, Sem.run_bind, this, Result.andThen_ok, Sem.run_pure]) hw) h
theorem bldk {C : World → Prop} {Qk : Act → Prop} {gd : Option (Nat × Bool)} (hwt : Region.wanted ⟨dst, .build 71 #[(0, x), (1, y)], ty, pos, after, gd⟩ (yielded ops a.tmps) = true) (hx : a.eval x = .agg (pre f 64 true)) (hy : a.eval y = .agg (pre f' 64 true))
    (h : wpK Tryd.prog ops C Qk rest (a.put dst (.agg (kyd f f')))) : wpK Tryd.prog ops C Qk (⟨dst, .build 71 #[(0, x), (1, y)], ty, pos, after, gd⟩ :: rest) a :=
  wpK_val hwt (fun w hw => by
    have hr := run_build (P := Tryd.prog) w 71 #[(0, a.eval x), (1, a.eval y)] _ (by rw [hx, hy]; exact built_kyd f f')
    refine gives_value (w' := w) ?_ hw
    simp [execOp, hr, Result.andThen]) h
end
set_option maxHeartbeats 400000 in
set_option maxRecDepth 100000 in
theorem under_any (A : Option Addr) (l : List Nat) (n cap : Nat) (hl : l.length = n) (hc : n ≤ cap) (hm : cap ≤ maxLen) (hz : n ≤ 1000000000000000) (h256 : B256 l) (w : World) (hA : Byt w w.heap.size A l) (hS : Salts w) :
    Calls Tryd.prog 46 #[.slice A n cap] w fun e w' => e = .returned (.agg (kyd (HmM.from' 54 (HmM.blk l)).get (HmM.from' 92 (HmM.blk l)).get)) ∧ Below w.heap.size w w' := by
  have HA := hid hA
  have HL := hid hl
  have SA := hid hS
  have H256 := hid h256
  clear hA hl hS h256
  go_enter Tryd.func46, Tryd.ntmps46
  go_upto_region 1 with fail
  generalize hw3 : World.alloc w _ = w3
  have b1 : Blk w3 w.heap.size 71 (row 20 fun j => if j < 10 then preC (fun _ => 0) 0 false j else preC (fun _ => 0) 0 false (j - 10)) := by rw [← hw3]; exact Blk.top zlit_kyd rfl
  have hb : Below w.heap.size w w3 := by rw [← hw3]; exact (Below.refl _ _).alloc (Nat.le_refl _) _
  clear hw3
  have B1 := hid b1
  have BEL := hid hb
  clear b1 hb
  go_wp2_with fail
  refine (key_any A l n cap HL.out hc hm hz H256.out w3 ((HA.out.below BEL.out (Nat.le_refl _)).more BEL.out.size) (SA.out.on BEL.out)).mono ?_
  rintro e w4 ⟨rfl, h4⟩
  have b1 := B1.out.below h4 B1.out.lt
  have hb := BEL.out.trans (h4.mono BEL.out.size)
  have hz2 : w.heap.size < w4.heap.size := b1.lt
  clear h4 B1 BEL w3
  go_upto_region 2 with ((with_reducible apply stb); rfl; rfl; exact Blk.top zlit_b64 rfl)
  generalize hw5 : World.setRow _ _ _ = w5
  have c3 : Blk w5 w4.heap.size 24 (l64 (HmM.blk l)) := by rw [← hw5]; exact (Blk.top zlit_b64 rfl).setRow_same _
  have c1 : Blk w5 w.heap.size 71 (row 20 fun j => if j < 10 then preC (fun _ => 0) 0 false j else preC (fun _ => 0) 0 false (j - 10)) := by rw [← hw5]; exact (b1.alloc _).setRow_other (by omega) _
  have cb : Below w.heap.size w w5 := by rw [← hw5]; exact below_setRow (hb.alloc (by omega) _) (by omega) _
  clear hw5 b1 hb
  have C1 := hid c1
  have C3 := hid c3
  have CB := hid cb
  clear c1 c3 cb
  have hbl := HmM.blk_length l
  have hb256 := HmM.blk_256 H256.out
  have HBL := hid hbl
  have HB256 := hid hb256
  clear hbl hb256
  go_wp2_with fail
  refine wp_region_tail (C := fun w' => Below w5.heap.size w5 w') 5 (by kernel_rfl) (by kernel_rfl) (by kernel_rfl) (Below.refl _ _).drew ?_
  simp only [List.take_succ_cons, List.take_zero, List.drop_succ_cons, List.drop_zero]
  apply klb
  · rfl
  · rfl
  · exact fun w' hw' => C3.out.below hw' C3.out.lt
  simp only [Act.put, List.setIfInBounds_toArray, List.set_cons_succ, List.set_cons_zero]
  apply wpK_val
  · rfl
  · intro w' hw'
    go_simp
    exact (padded_any (HmM.blk l) HBL.out HB256.out 54 (by omega) _ (SA.out.on (CB.out.trans (hw'.mono CB.out.size)))).mono fun e w'' ⟨he, hb''⟩ => ⟨he, hw'.trans (hb''.mono hw'.size)⟩
  simp only [Act.put, List.setIfInBounds_toArray, List.set_cons_succ, List.set_cons_zero]
  apply klb
  · rfl
  · rfl
  · exact fun w' hw' => C3.out.below hw' C3.out.lt
  simp only [Act.put, List.setIfInBounds_toArray, List.set_cons_succ, List.set_cons_zero]
  apply wpK_val
  · rfl
  · intro w' hw'
    go_simp
    exact (padded_any (HmM.blk l) HBL.out HB256.out 92 (by omega) _ (SA.out.on (CB.out.trans (hw'.mono CB.out.size)))).mono fun e w'' ⟨he, hb''⟩ => ⟨he, hw'.trans (hb''.mono hw'.size)⟩
  simp only [Act.put, List.setIfInBounds_toArray, List.set_cons_succ, List.set_cons_zero]
  apply bldk
  · rfl
  · rfl
  · rfl
  simp only [Act.put, List.setIfInBounds_toArray, List.set_cons_succ, List.set_cons_zero]
  refine wpK_nil fun w6 hw6 => ?_
  have d1 := C1.out.below hw6 C1.out.lt
  have db := CB.out.trans (hw6.mono CB.out.size)
  clear C1 C3 CB hw6
  go_wp2_with ((with_reducible apply stk); rfl; rfl; exact d1; exact size_row)
  apply ret_row Tryd.results46
  · exact d1.setRow_same _
  · exact Tryd.underlying71
  · rfl
  · exact (info_kyd.trans (by rw [size_kyd]))
  · rfl
  · rfl
  exact ⟨rfl, below_setRow db (Nat.le_refl _) _⟩
set_option maxHeartbeats 400000 in
set_option maxRecDepth 100000 in
/-- Whole blocks are gone through: l, which lies in an older block or in this one. -/
theorem goOver_any (s : ShaM.S8) (hs : s.ok) (g m q : Nat) (L : Nat → Nat) (A : Option Addr) (l : List Nat) (n cap : Nat) (hl : l.length = n) (hn : n % 64 = 0) (hc : n ≤ cap) (hm : cap ≤ maxLen) (hz : m + n ≤ 1000000000000000) (h256 : B256 l) (w : World)
    (hg : Blk w g 87 (msg s.get m L q)) (hA : Byt w w.heap.size A l) (hS : Salts w) :
    Calls Tryd.prog 71 #[.pointer (some ⟨g, 0, none⟩), .slice A n cap] w fun e w' => e = .returned (.tuple #[]) ∧ Blk w' g 87 (msg (ShaM.passes s l).get (m + n) L q) ∧ Below g w w' := by
  have HS := hid hs
  have HA := hid hA
  have HL := hid hl
  have SA := hid hS
  have H256 := hid h256
  have hr := hg.msgA
  have HG := hid hg
  clear hA hl hS h256 hs hg
  go_enter Tryd.func71, Tryd.ntmps71
  go_wp2_with ((with_reducible apply ldpm); rfl; exact hr)
  refine (more_ok s HS.out A l n cap m HL.out hn hc hm hz H256.out w HA.out SA.out).mono ?_
  rintro e w4 ⟨rfl, h4⟩
  have g4 := HG.out.below h4 HG.out.lt
  have hb : Below g w w4 := h4.mono (Nat.le_of_lt HG.out.lt)
  clear h4 hr
  go_wp2_with ((with_reducible apply stpm); rfl; rfl; exact g4; intro w5 g5 b5)
  go_end0
  exact ⟨rfl, g5, hb.trans b5⟩
end Go.Proofs.YtmbhibilmedjmaaDoor
