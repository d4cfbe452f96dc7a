/-
  Contracts of hmac.Same, casematelaw04.cut, casematelaw04.works over this translation.
-/
import Derived.Test.YtfgmgfniolmpkaaDoorHTag
import Derived.Test.YtfgmgfniolmpkaaDoorHFox
import Derived.Test.YtfgmgfniolmpkaaDoorEq
import Derived.Lib.SlBytesConst
namespace Go.Proofs.YtfgmgfniolmpkaaDoor
open Go.ChangeShapes Go.WideShapes Go.ChangeAt Go.RowKit
attribute [local go_sem] Gives
/-- Are two tags alike? -/
def eqT (f g : Nat → Nat) : Bool := eqN 32 (fun k => f k) fun k => g k
theorem eqT_iff {f g : Nat → Nat} : eqT f g = true ↔ ∀ k, k < 32 → f k = g k := by
  unfold eqT eqN
  rw [List.all_eq_true]
  constructor
  · intro h k hk
    have := h k (List.mem_range.2 hk)
    exact Int.ofNat_inj.1 (beq_iff_eq.1 this)
  · intro h k hk
    have := h k (List.mem_range.1 hk)
    exact beq_iff_eq.2 (congrArg _ this)
theorem eqT_self (f : Nat → Nat) : eqT f f = true := eqT_iff.2 fun _ _ => rfl
theorem xor_zero {x y : Nat} : x ^^^ y = 0 ↔ x = y := by
  constructor
  · intro h
    have h2 : x ^^^ (x ^^^ y) = y := by rw [← Nat.xor_assoc, Nat.xor_self, Nat.zero_xor]
    rw [h, Nat.xor_zero] at h2
    exact h2
  · rintro rfl; exact Nat.xor_self _
/-- What the first k bytes' differences make. -/
def dif (f g : Nat → Nat) : Nat → Nat
  | 0 => 0
  | k + 1 => dif f g k ||| (f k ^^^ g k)
theorem dif_lt {f g : Nat → Nat} (hf : ∀ k, f k < 256) (hg : ∀ k, g k < 256) : ∀ k, dif f g k < 256
  | 0 => by unfold dif; omega
  | k + 1 => Nat.or_lt_two_pow (n := 8) (dif_lt hf hg k) (Nat.xor_lt_two_pow (n := 8) (hf k) (hg k))
theorem dif_zero (f g : Nat → Nat) : ∀ k, dif f g k = 0 ↔ ∀ j, j < k → f j = g j
  | 0 => ⟨fun _ j hj => absurd hj (by omega), fun _ => rfl⟩
  | k + 1 => by
    rw [dif, Nat.or_eq_zero_iff, dif_zero f g k, xor_zero]
    constructor
    · rintro ⟨h1, h2⟩ j hj
      by_cases e : j = k
      · subst e; exact h2
      · exact h1 j (by omega)
    · intro h; exact ⟨fun j hj => h j (by omega), h k (by omega)⟩
theorem dif_eqT (f g : Nat → Nat) : decide (dif f g 32 = 0) = eqT f g := by
  by_cases h : dif f g 32 = 0
  · rw [decide_eq_true h, eqT_iff.2 ((dif_zero f g 32).1 h)]
  · rw [decide_eq_false h]
    cases e : eqT f g with
    | false => rfl
    | true => exact absurd ((dif_zero f g 32).2 (eqT_iff.1 e)) h
set_option maxHeartbeats 400000 in
set_option maxRecDepth 100000 in
/-- P4.2. -/
theorem same_any (f g : Nat → Nat) (hf : ∀ k, f k < 256) (hg : ∀ k, g k < 256) (w : World) :
    Calls Tryd.prog 18 #[.agg (tag f), .agg (tag g)] w fun e w' => e = .returned (.bool (eqT f g)) ∧ Below w.heap.size w w' := by
  have HF := hid hf
  have HG := hid hg
  clear hf hg
  go_enter Tryd.func18, Tryd.ntmps18
  go_upto_region 3 with fail
  generalize hw3 : World.alloc (World.alloc w _) _ = w3
  have b1 : Blk w3 w.heap.size 25 (tag f) := by rw [← hw3]; exact (Blk.top rfl rfl).alloc _
  have b2 : Blk w3 (w.heap.size + 1) 25 (tag g) := by rw [← hw3]; exact Blk.top rfl (by simp)
  have hb : Below w.heap.size w w3 := by rw [← hw3]; exact ((Below.refl _ _).alloc (Nat.le_refl _) _).alloc (by simp) _
  clear hw3
  have B1 := hid b1
  have B2 := hid b2
  have BEL := hid hb
  clear b1 b2 hb
  go_loopw [5, 7] (fun u v wr => ∃ k d : Nat, k ≤ 32 ∧ v = .int .i64 k ∧ u = .int .u8 d ∧ Hid (d = dif f g k) ∧ Hid (Drew w3 wr ∨ wr = w3)) (fun _ v _ => 32 - (intOf v).toNat)
  case atStart => exact ⟨0, 0, by omega, rfl, rfl, hid rfl, hid (.inr rfl)⟩
  case round =>
    obtain ⟨k, d, hk, rfl, rfl, hd, hw⟩ := hrel
    have b1 : Blk wr w.heap.size 25 (tag f) := by
      rcases hw.out with h | h
      · exact h.blk B1.out
      · rw [h]; exact B1.out
    have b2 : Blk wr (w.heap.size + 1) 25 (tag g) := by
      rcases hw.out with h | h
      · exact h.blk B2.out
      · rw [h]; exact B2.out
    have hb : Below w.heap.size w wr := by
      rcases hw.out with h | h
      · exact h.below BEL.out
      · rw [h]; exact BEL.out
    have hdl : d < 256 := by rw [hd.out]; exact dif_lt HF.out HG.out k
    by_cases hlt : k < 32
    · have tk : (k : Int) < 32 := by omega
      have q1 := (b1.cell k).trans (get_tag hlt)
      have q2 := (b2.cell k).trans (get_tag hlt)
      have hfk := HF.out k
      have hgk := HG.out k
      have ex : bits .xor .u8 ((f k : Nat) : Int) ((g k : Nat) : Int) = ((f k ^^^ g k : Nat) : Int) := u8_xor_nat _ _ hfk hgk
      have eo : bits .or .u8 (d : Int) ((f k ^^^ g k : Nat) : Int) = ((d ||| (f k ^^^ g k) : Nat) : Int) := u8_or_nat _ _ hdl (Nat.xor_lt_two_pow (n := 8) hfk hgk)
      have Q1 := hid q1
      have Q2 := hid q2
      have EX := hid ex
      have EO := hid eo
      clear q1 q2 ex eo b1 b2 hb
      go_wp2_with fail
      refine wp_region_tail (C := Drew wr) 9 (by kernel_rfl) (by kernel_rfl) (by kernel_rfl) (Drew.refl _) ?_
      simp only [List.take_succ_cons, List.take_zero, List.drop_succ_cons, List.drop_zero]
      apply wpK_val
      · rfl
      · intro w' hw'
        go_simp
        first | exact rfl | exact ⟨rfl, hw'⟩
      simp only [Act.put, List.setIfInBounds_toArray, List.set_cons_succ, List.set_cons_zero]
      apply wpK_val
      · rfl
      · intro w' hw'
        go_simp
        first | exact rfl | exact ⟨rfl, hw'⟩
      simp only [Act.put, List.setIfInBounds_toArray, List.set_cons_succ, List.set_cons_zero]
      apply wpK_val
      · rfl
      · intro w' hw'
        go_simp
        first | exact rfl | exact ⟨rfl, hw'⟩
      simp only [Act.put, List.setIfInBounds_toArray, List.set_cons_succ, List.set_cons_zero]
      apply wpK_val
      · rfl
      · intro w' hw'
        have hcell := hw'.cell Q1.out
        go_simp
        first | exact rfl | exact ⟨rfl, hw'⟩
      simp only [Act.put, List.setIfInBounds_toArray, List.set_cons_succ, List.set_cons_zero]
      apply wpK_val
      · rfl
      · intro w' hw'
        go_simp
        first | exact rfl | exact ⟨rfl, hw'⟩
      simp only [Act.put, List.setIfInBounds_toArray, List.set_cons_succ, List.set_cons_zero]
      apply wpK_val
      · rfl
      · intro w' hw'
        go_simp
        first | exact rfl | exact ⟨rfl, hw'⟩
      simp only [Act.put, List.setIfInBounds_toArray, List.set_cons_succ, List.set_cons_zero]
      apply wpK_val
      · rfl
      · intro w' hw'
        have hcell := hw'.cell Q2.out
        go_simp
        first | exact rfl | exact ⟨rfl, hw'⟩
      simp only [Act.put, List.setIfInBounds_toArray, List.set_cons_succ, List.set_cons_zero]
      apply wpK_val
      · rfl
      · intro w' hw'
        have h1 : _ := EX.out
        go_simp
        first | exact rfl | exact ⟨rfl, hw'⟩
      simp only [Act.put, List.setIfInBounds_toArray, List.set_cons_succ, List.set_cons_zero]
      apply wpK_val
      · rfl
      · intro w' hw'
        have h1 : _ := EO.out
        go_simp
        first | exact rfl | exact ⟨rfl, hw'⟩
      simp only [Act.put, List.setIfInBounds_toArray, List.set_cons_succ, List.set_cons_zero]
      refine wpK_nil fun w5 hw5 => ?_
      go_wp2_with fail
      go_roundw
      case rel =>
        refine ⟨k + 1, d ||| (f k ^^^ g k), by omega, by go_num, rfl, hid (by rw [dif, hd.out]), hid (.inl ?_)⟩
        rcases hw.out with h | h
        · obtain ⟨a, ha⟩ := h
          obtain ⟨b, hb⟩ := hw5
          exact ⟨a + b, by rw [hb, ha]; simp⟩
        · rw [← h]; exact hw5
      case measure => simp [intOf]; omega
    · have tk : decide ((k : Int) < 32) = false := by simp; omega
      obtain rfl : k = 32 := by omega
      have hE := dif_eqT f g
      rw [← hd.out] at hE
      have HE := hid hE
      clear hE b1 b2
      by_cases hd0 : d = 0
      · have t0 : ((d : Int) == 0) = true := by rw [beq_iff_eq]; omega
        go_wp2_with fail
        go_ret
        exact ⟨by rw [← HE.out, decide_eq_true hd0]; rfl, hb⟩
      · have t0 : ((d : Int) == 0) = false := by rw [beq_eq_false_iff_ne]; omega
        go_wp2_with fail
        go_ret
        exact ⟨by rw [← HE.out, decide_eq_false hd0]; rfl, hb⟩
/-- The first thousand bytes. -/
theorem cut_any (A : Option Addr) (n cap : Nat) (hc : n ≤ cap) (hm : cap ≤ maxLen) (w : World) :
    Calls Tryd.prog 10 #[.slice A n cap] w fun e w' => e = .returned (.slice A (min n 1000) cap) ∧ w = w' := by
  unfold maxLen at hm
  have hcap : ((min n 1000 : Nat) : Int) ≤ (cap : Int) := by omega
  have e1 : min (n : Int) 1000 = ((min n 1000 : Nat) : Int) := by omega
  go_enter Tryd.func10, Tryd.ntmps10
  go_wp2_with fail
  · have e : min n 1000 = 1000 := by omega
    go_ret
    exact ⟨by rw [e]; rfl, rfl⟩
  · have e : min n 1000 = n := by omega
    go_ret
    exact ⟨by rw [e]; rfl, rfl⟩
section
variable {ops : Array Oper} {Q : Exit → Act → World → Prop} {a : Act} {w : World} {rest : List Oper} {dst : Option Tmp} {ty : TypeId} {pos : String} {after : Array Edge} {x : Operand} {g : Nat} {f : Nat → Nat}
/-- A tag loaded, behind a guard that says yes. -/
theorem ldtg {gd : Option (Nat × Bool)} (hwt : Region.wanted ⟨dst, .load 25 x, ty, pos, after, gd⟩ (yielded ops a.tmps) = true) (hx : a.eval x = .pointer (some ⟨g, 0, none⟩)) (hb : Blk w g 25 (tag f))
    (h : wpList Tryd.prog ops Q rest (a.put dst (.agg (tag f))) w) : wpList Tryd.prog ops Q (⟨dst, .load 25 x, ty, pos, after, gd⟩ :: rest) a w := by
  unfold wpList
  rw [if_pos hwt]
  exact .inl (wp_load_row (P := Tryd.prog) 25 x rfl g hx 25 (tag f) (0, 0) _ hb Tryd.underlying25 rfl (info_tag.trans (by rw [size_tag])) h)
end
theorem byt_lit {w : World} {B g : Nat} {t : TypeId} {cs : Array Value} {fr : Nat × Nat} (h : w.heap[g]? = some (.cells cs t fr)) (hg : g < B) {l : List Nat} (hl : ∀ j, j < l.length → cs[j]? = some (.int .u8 (l.getD j 0 : Nat))) : Byt w B (some ⟨g, 0, none⟩) l := fun _ =>
  ⟨g, 0, rfl, hg, fun i hi => by rw [Nat.zero_add, cell_of_row w g i cs t fr h]; exact hl i hi⟩
/-- The bytes of the known text. -/
def foxL : List Nat := [84, 104, 101, 32, 113, 117, 105, 99, 107, 32, 98, 114, 111, 119, 110, 32, 102, 111, 120, 32, 106, 117, 109, 112, 115, 32, 111, 118, 101, 114, 32, 116, 104, 101, 32, 108, 97, 122, 121, 32, 100, 111, 103]
theorem foxL_length : foxL.length = 43 := rfl
theorem foxL_256 : B256 foxL := by unfold B256 foxL; decide
def keyL : List Nat := [107, 101, 121]
theorem keyL_256 : B256 keyL := by unfold B256 keyL; decide
theorem fox_0 : HmM.tag keyL foxL 0 = 247 := by unfold keyL foxL; rw [tag_fox]; decide +kernel
theorem fox_1 : HmM.tag keyL foxL 1 = 188 := by unfold keyL foxL; rw [tag_fox]; decide +kernel
theorem fox_31 : HmM.tag keyL foxL 31 = 216 := by unfold keyL foxL; rw [tag_fox]; decide +kernel
theorem lit_ok {l : List Nat} {cs : Array Value} (h : cs = (nums .u8 l).toArray) : ∀ j, j < l.length → cs[j]? = some (.int .u8 (l.getD j 0 : Nat)) := fun j hj => by
  rw [h, List.getElem?_toArray]; exact nums_get .u8 hj
set_option maxHeartbeats 400000 in
set_option maxRecDepth 100000 in
theorem works_any (w : World) (hS : Salts w) :
    Calls Tryd.prog 13 #[] w fun e w' => e = .returned (.bool true) ∧ Below w.heap.size w w' := by
  have SA := hid hS
  clear hS
  have kc := fun (w : World) (C : Array Value) (n c : Nat) => Lib.run_convert_bytes_const (P := Tryd.prog) w 22 5 C n c Tryd.underlying22 Tryd.underlying5
  go_enter Tryd.func13, Tryd.ntmps13
  go_wp2_with fail
  generalize hw3 : World.alloc w _ = w3
  have hz3 : w.heap.size + 1 = w3.heap.size := by rw [← hw3]; simp
  have k3 : Byt w3 w3.heap.size (some ⟨w.heap.size, 0, none⟩) keyL := by
    rw [← hw3]
    exact byt_lit (heap_alloc_new w _) (by simp) (lit_ok (by rfl))
  have b3 : Below w.heap.size w w3 := by rw [← hw3]; exact (Below.refl _ _).alloc (Nat.le_refl _) _
  clear hw3
  rw [hz3, kc]
  clear hz3 kc
  simp only [Result.andThen]
  rw [Oper.upon_value]
  generalize hw4 : World.alloc w3 _ = w4
  have k4 : Byt w4 w4.heap.size (some ⟨w3.heap.size, 0, none⟩) foxL := by
    rw [← hw4]
    exact byt_lit (heap_alloc_new w3 _) (by simp) (lit_ok (by rfl))
  have b4 : Below w.heap.size w w4 := by rw [← hw4]; exact b3.alloc b3.size _
  have k3' : Byt w4 w4.heap.size (some ⟨w.heap.size, 0, none⟩) keyL := by
    rw [← hw4]
    exact (k3.below ((Below.refl w3.heap.size w3).alloc (Nat.le_refl _) _) (Nat.le_refl _)).more (by simp)
  clear hw4 k3 b3
  have K3 := hid k3'
  have K4 := hid k4
  have B4 := hid b4
  clear k3' k4 b4
  go_wp2_with fail
  refine (hof_any _ keyL 3 3 rfl (Nat.le_refl _) (by unfold maxLen; omega) (by omega) keyL_256 _ foxL 43 43 foxL_length (Nat.le_refl _) (by unfold maxLen; omega) foxL_256 (by omega) w4 K3.out K4.out (SA.out.on B4.out)).mono ?_
  rintro e w5 ⟨rfl, h5⟩
  have b5 := B4.out.trans (h5.mono B4.out.size)
  clear h5 B4 K3 K4
  have hz5 := b5.size
  go_upto_region 2 with ((with_reducible apply stt); rfl; rfl; exact Blk.top zlit_tag rfl)
  generalize hw6 : World.setRow _ _ _ = w6
  have c6 : Blk w6 w5.heap.size 25 (tag (HmM.tag keyL foxL)) := by rw [← hw6]; exact (Blk.top zlit_tag rfl).setRow_same _
  have b6 : Below w.heap.size w w6 := by rw [← hw6]; exact below_setRow (b5.alloc hz5 _) hz5 _
  clear hw6 b5 hz5 w4
  have q0 : w6.cell? ⟨w5.heap.size, 0, none⟩ = some (.int .u8 247) := by rw [c6.cell, get_tag (by omega), fox_0]; rfl
  have q1 : w6.cell? ⟨w5.heap.size, 1, none⟩ = some (.int .u8 188) := by rw [c6.cell, get_tag (by omega), fox_1]; rfl
  have q31 : w6.cell? ⟨w5.heap.size, 31, none⟩ = some (.int .u8 216) := by rw [c6.cell, get_tag (by omega), fox_31]; rfl
  have B6 := hid b6
  clear b6
  go_wp2_with ((with_reducible apply ldtg); rfl; rfl; exact c6)
  refine (same_any (HmM.tag keyL foxL) (HmM.tag keyL foxL) (HmM.tag_256 _ _) (HmM.tag_256 _ _) w6).mono ?_
  rintro e w7 ⟨rfl, h7⟩
  rw [eqT_self]
  have b7 := B6.out.trans (h7.mono B6.out.size)
  clear h7 q0 q1 q31 c6 B6
  go_wp2_with fail
  go_ret
  exact ⟨rfl, b7⟩
end Go.Proofs.YtfgmgfniolmpkaaDoor
