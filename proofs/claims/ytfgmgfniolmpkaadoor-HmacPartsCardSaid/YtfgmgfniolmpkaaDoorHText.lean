/-
  Bytes to the base 16, as the law of the examples has them.
-/
import Derived.Test.YtfgmgfniolmpkaaDoorHStr
import Derived.Test.YtfgmgfniolmpkaaDoorRefSha5
namespace Go.Proofs.YtfgmgfniolmpkaaDoor
open Go.ChangeShapes Go.WideShapes Go.ChangeAt Go.RowKit
attribute [local go_sem] Gives
/-- A digit's byte. -/
def hexb (h : Nat) : Nat := if h < 10 then 48 + h else 87 + h
theorem digb_fin : ∀ h : Fin 16, ((⟨#[48, 49, 50, 51, 52, 53, 54, 55, 56, 57, 97, 98, 99, 100, 101, 102]⟩ : ByteArray)[h.val]'(h.isLt)).toNat = hexb h.val := by decide
theorem digb_hex (h : Nat) (p : h < ByteArray.size ⟨#[48, 49, 50, 51, 52, 53, 54, 55, 56, 57, 97, 98, 99, 100, 101, 102]⟩) : ((⟨#[48, 49, 50, 51, 52, 53, 54, 55, 56, 57, 97, 98, 99, 100, 101, 102]⟩ : ByteArray)[h]'p).toNat = hexb h := digb_fin ⟨h, p⟩
theorem hexb_lt {h : Nat} (hh : h < 16) : hexb h < 256 := by unfold hexb; split <;> omega
/-- All digits. -/
def hx (l : List Nat) : List Nat := l.flatMap fun x => [hexb (x / 16), hexb (x % 16)]
theorem hx_step {l : List Nat} {i : Nat} (h : i < l.length) : hx (l.take (i + 1)) = hx (l.take i) ++ [hexb (l.getD i 0 / 16), hexb (l.getD i 0 % 16)] := by
  unfold hx
  rw [List.take_succ_eq_append_getElem h, List.flatMap_append, List.getD_eq_getElem?_getD, List.getElem?_eq_getElem h]
  simp
theorem hx_length (l : List Nat) : (hx l).length = 2 * l.length := by
  unfold hx
  induction l with
  | nil => rfl
  | cons x l ih => rw [List.flatMap_cons, List.length_append, ih]; simp; omega
theorem hx_256 {l : List Nat} (h : B256 l) : B256 (hx l) := fun y hy => by
  unfold hx at hy
  obtain ⟨x, hx, hy⟩ := List.mem_flatMap.1 hy
  have := h x hx
  simp only [List.mem_cons, List.not_mem_nil, or_false] at hy
  rcases hy with rfl | rfl
  · exact hexb_lt (by omega)
  · exact hexb_lt (Nat.mod_lt _ (by omega))
set_option maxHeartbeats 400000 in
set_option maxRecDepth 100000 in
theorem htext_any (b o : Nat) (l : List Nat) (n cap : Nat) (hn : n ≤ 1000) (hn0 : 0 < n) (w : World) (hA : Arg w (some ⟨b, o, none⟩) l n cap) :
    Calls Tryd.prog 20 #[.slice (some ⟨b, o, none⟩) n cap] w fun e w' => e = .returned (.string (str (hx l))) ∧ Below w.heap.size w w' := by
  obtain ⟨b', o', e, hB, hr⟩ := hA.byt (by rw [hA.len]; exact hn0)
  cases e
  have hl := hA.len
  rw [hl] at hr
  have HR := hid hr
  have H256 := hid hA.b256
  have HL := hid hl
  clear hA hr hl
  go_enter Tryd.func20, Tryd.ntmps20
  go_wp2_with fail
  go_loopw [4, 5] (fun u v wr => ∃ (i : Nat) (vs : Value), i ≤ n ∧ v = .int .i64 i ∧ u = vs ∧ Hid (Own 5 .u8 wr w.heap.size vs (hx (l.take i))) ∧ Hid (Below w.heap.size w wr)) (fun _ v _ => n - (intOf v).toNat)
  case atStart => exact ⟨0, _, by omega, rfl, rfl, hid Own.nil, hid (Below.refl _ _)⟩
  case round =>
    obtain ⟨i, vs, hi, rfl, rfl, ho, hb⟩ := hrel
    have hsz := hb.out.size
    by_cases hlt : i < n
    · have ti : (i : Int) < n := by omega
      obtain ⟨x, hx0⟩ : ∃ x, x = l.getD i 0 := ⟨_, rfl⟩
      have hx1 : x < 256 := by
        have := HL.out
        rw [hx0, List.getD_eq_getElem?_getD, List.getElem?_eq_getElem (by omega)]
        exact H256.out _ (List.getElem_mem (by omega))
      obtain ⟨p, hp⟩ : ∃ p, p = x / 16 := ⟨_, rfl⟩
      obtain ⟨q, hq⟩ : ∃ q, q = x % 16 := ⟨_, rfl⟩
      have e1 : (x : Int) / 16 = (p : Int) := by omega
      have e2 : (x : Int).tmod 16 = (q : Int) := by rw [Int.tmod_eq_emod_of_nonneg (Int.natCast_nonneg _)]; omega
      have hp16 : p < 16 := by omega
      have hq16 : q < 16 := by omega
      have ST := hid (hx_step (l := l) (i := i) (by rw [HL.out]; exact hlt))
      rw [← hx0, ← hp, ← hq] at ST
      have C0 := hid ((hb.out.cell (p := ⟨b, o + i, none⟩) hB).trans (HR.out i hlt))
      rw [← hx0] at C0
      have e3 : IntKind.u8.wrap (p : Int) = (p : Int) := IntWalk.u8_in _ (by omega)
      have hpi : (p : Int) < 16 := by omega
      have hqi : (q : Int) < 16 := by omega
      have hp8 := hexb_lt hp16
      have hq8 := hexb_lt hq16
      have hLn : (hx (l.take i)).length ≤ 2000 := by rw [hx_length, List.length_take]; omega
      have HLn := hid hLn
      have hBr : b < wr.heap.size := Nat.lt_of_lt_of_le hB hsz
      obtain ⟨P, hP⟩ : ∃ P, P = hexb p := ⟨_, rfl⟩
      obtain ⟨R, hR⟩ : ∃ R, R = hexb q := ⟨_, rfl⟩
      rw [← hP] at hp8 ST
      rw [← hR] at hq8 ST
      have HP := hid hP
      have HR2 := hid hR
      clear hx0 hp hq hLn hP hR
      go_wp2_with fail
      refine wp_region_put (C := Put wr (.cells #[.int .u8 (P : Nat), .int .u8 (R : Nat)] 5)) 15 16 (by omega) (by kernel_rfl) (by kernel_rfl) (by kernel_rfl) (Drew.refl _) ?_
      simp only [List.take_succ_cons, List.take_zero, List.drop_succ_cons, List.drop_zero]
      apply wpS_val
      · decide
      · rfl
      · intro bb w' hw'
        go_simp
        first | exact rfl | exact ⟨rfl, hw'⟩
      simp only [Act.put, List.setIfInBounds_toArray, List.set_cons_succ, List.set_cons_zero]
      apply wpS_val
      · decide
      · rfl
      · intro bb w' hw'
        go_simp
        first | exact rfl | exact ⟨rfl, hw'⟩
      simp only [Act.put, List.setIfInBounds_toArray, List.set_cons_succ, List.set_cons_zero]
      apply wpS_val
      · decide
      · rfl
      · intro bb w' hw'
        go_simp
        first | exact rfl | exact ⟨rfl, hw'⟩
      simp only [Act.put, List.setIfInBounds_toArray, List.set_cons_succ, List.set_cons_zero]
      apply wpS_val
      · decide
      · rfl
      · intro bb w' hw'
        go_simp
        first | exact rfl | exact ⟨rfl, hw'⟩
      simp only [Act.put, List.setIfInBounds_toArray, List.set_cons_succ, List.set_cons_zero]
      apply wpS_val
      · decide
      · rfl
      · intro bb w' hw'
        go_simp
        first | exact rfl | exact ⟨rfl, hw'⟩
      simp only [Act.put, List.setIfInBounds_toArray, List.set_cons_succ, List.set_cons_zero]
      apply wpS_val
      · decide
      · rfl
      · intro bb w' hw'
        have hcell : _ := hw'.cell hBr C0.out
        go_simp
        first | exact rfl | exact ⟨rfl, hw'⟩
      simp only [Act.put, List.setIfInBounds_toArray, List.set_cons_succ, List.set_cons_zero]
      apply wpS_val
      · decide
      · rfl
      · intro bb w' hw'
        go_simp
        first | exact rfl | exact ⟨rfl, hw'⟩
      simp only [Act.put, List.setIfInBounds_toArray, List.set_cons_succ, List.set_cons_zero]
      apply wpS_val
      · decide
      · rfl
      · intro bb w' hw'
        go_simp
        rw [digb_hex, ← HP.out]
      simp only [Act.put, List.setIfInBounds_toArray, List.set_cons_succ, List.set_cons_zero]
      apply wpS_val
      · decide
      · rfl
      · intro bb w' hw'
        go_simp
        first | exact rfl | exact ⟨rfl, hw'⟩
      simp only [Act.put, List.setIfInBounds_toArray, List.set_cons_succ, List.set_cons_zero]
      apply wpS_val
      · decide
      · rfl
      · intro bb w' hw'
        go_simp
        first | exact rfl | exact ⟨rfl, hw'⟩
      simp only [Act.put, List.setIfInBounds_toArray, List.set_cons_succ, List.set_cons_zero]
      apply wpS_val
      · decide
      · rfl
      · intro bb w' hw'
        go_simp
        first | exact rfl | exact ⟨rfl, hw'⟩
      simp only [Act.put, List.setIfInBounds_toArray, List.set_cons_succ, List.set_cons_zero]
      apply wpS_val
      · decide
      · rfl
      · intro bb w' hw'
        go_simp
        first | exact rfl | exact ⟨rfl, hw'⟩
      simp only [Act.put, List.setIfInBounds_toArray, List.set_cons_succ, List.set_cons_zero]
      apply wpS_val
      · decide
      · rfl
      · intro bb w' hw'
        have hcell : _ := hw'.cell hBr C0.out
        go_simp
        first | exact rfl | exact ⟨rfl, hw'⟩
      simp only [Act.put, List.setIfInBounds_toArray, List.set_cons_succ, List.set_cons_zero]
      apply wpS_val
      · decide
      · rfl
      · intro bb w' hw'
        go_simp
        first | exact rfl | exact ⟨rfl, hw'⟩
      simp only [Act.put, List.setIfInBounds_toArray, List.set_cons_succ, List.set_cons_zero]
      apply wpS_val
      · decide
      · rfl
      · intro bb w' hw'
        go_simp
        rw [digb_hex, ← HR2.out]
      simp only [Act.put, List.setIfInBounds_toArray, List.set_cons_succ, List.set_cons_zero]
      clear e1 e2 e3 hpi hqi HP HR2
      apply wpS_put
      · rfl
      · rfl
      · intro w' hw'
        have hw2 : Drew wr w' := hw'
        have hz := hw2.heap
        go_simp
        exact ⟨rfl, w', hw2, rfl⟩
      simp only [Act.put, List.setIfInBounds_toArray, List.set_cons_succ, List.set_cons_zero]
      refine wpS_nil fun w8 hw8 => ?_
      obtain ⟨w7, h7, rfl⟩ := hw8
      have hz7 : wr.heap.size = w7.heap.size := by rw [h7.heap]
      have o7 := hid (ho.out.heap h7.heap)
      have b7 := hid (h7.below hb.out)
      have bl : Byt (w7.alloc (.cells #[.int .u8 (P : Nat), .int .u8 (R : Nat)] 5)) (w7.heap.size + 1) (some ⟨wr.heap.size, 0, none⟩) [P, R] := by
        rw [hz7]; exact byt_lit (heap_alloc_new w7 _) (Nat.lt_succ_self _) (lit_ok (by rfl))
      have HZ7 := hid hz7
      have BL := hid bl
      clear h7 hz7 hBr C0 bl
      go_wp2_with (at_builtin; (with_reducible apply wappN eltB); rfl; rfl; exact o7.out.alloc _; exact BL.out.nums; rfl; (have := HLn.out; omega); (simp; have := HZ7.out; omega); intro v' w9 o9 g9)
      have b9 := below_grown (b7.out.alloc (by have := HZ7.out; omega) (.cells #[.int .u8 (P : Nat), .int .u8 (R : Nat)] 5)) g9 o7.out (Nat.le_refl _) (Nat.le_refl _)
      go_roundw
      case rel => exact ⟨i + 1, v', by omega, by go_num, rfl, hid (by rw [ST.out]; exact o9), hid b9⟩
      case measure => simp [intOf]; omega
    · have ti : decide ((i : Int) < n) = false := by simp; omega
      obtain rfl : i = n := by omega
      have ho2 := ho.out
      rw [List.take_of_length_le (by rw [HL.out]; exact Nat.le_refl _)] at ho2
      obtain ⟨A3, c3, rfl, a3⟩ := ho2.arg (hx_256 H256.out)
      have hc := a3.str
      have HB := hid hb.out
      clear ho hb ho2 a3
      go_wp2_with fail
      go_ret
      exact ⟨rfl, HB.out⟩
end Go.Proofs.YtfgmgfniolmpkaaDoor
