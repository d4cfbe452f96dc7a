/-
  Contracts of the document's bits, rotations and choices (casemateref03.bit, Cut, Rot, chosen, two) over this translation.
  Contracts of the document's roots (casemateref03.within, root) over this translation.
  Contracts of the document's primes and their roots (casemateref03.Primes, Roots) over this translation.
  append of so many zeros ('append(l, make([]byte, n)...)'), to a slice of the call's own that is full.
  Contracts of the document's tail and message's numbers (casemateref03.Tail, Message) over this translation.
  Contract of the document's message's numbers (casemateref03.Message) over this translation.
  Contract of the document's pass (casemateref03.Pass) over this translation.
  A region that draws its order, in which several operations write: the class of worlds hangs on which of them have come up (D), and on nothing else.
-/
import Derived.Test.YtdmnhpgafbcehaaDoorMrg2
import Derived.Laws.OwnMore
import Derived.Laws.BitsAllLaws
set_option linter.unusedVariables false
set_option linter.unusedSimpArgs false
set_option maxRecDepth 100000
namespace Go.Proofs.YtdmnhpgafbcehaaDoor
open Go.ChangeShapes Go.WideShapes Go.ChangeAt Go.RowKit
theorem rcut_any (x n : Nat) (hx : x < 4294967296) (hn : n < 32) (w : World) :
    Calls Tryd.prog 82 #[.int .u32 x, .int .i64 n] w fun e w' => e = .returned (.int .u32 (x / 2 ^ n : Nat)) ∧ w = w' := by
  obtain ⟨P, hP⟩ : ∃ P : Nat, P = 2 ^ n := ⟨_, rfl⟩
  have h1 : P < 4294967296 := by have h := Nat.pow_lt_pow_right (a := 2) (by decide) hn; omega
  have h2 : ¬ P = 0 := by rw [hP]; exact Nat.ne_of_gt (Nat.two_pow_pos n)
  have e0 : (2 : Int) ^ n = (P : Int) := by rw [hP]; simp
  have e : (2 : Int) ^ n % 4294967296 = (P : Int) := by rw [e0]; omega
  clear e0
  have hq : x / P < 4294967296 := Nat.lt_of_le_of_lt (Nat.div_le_self _ _) hx
  obtain ⟨q, hqq⟩ : ∃ q, q = x / P := ⟨_, rfl⟩
  have e2 : (x : Int) / (P : Int) % 4294967296 = (q : Int) := by
    rw [show (x : Int) / (P : Int) = ((x / P : Nat) : Int) by simp, ← hqq]; omega
  rw [← hP, ← hqq]
  have HP := hid hP
  have HQ := hid hqq
  clear hP hqq hq
  go_enter Tryd.func82, Tryd.ntmps82
  go_wp2
  go_ret
  exact ⟨ret_int e2, rfl⟩
theorem rrot_any (x n : Nat) (hx : x < 4294967296) (h0 : 0 < n) (hn : n < 32) (w : World) :
    Calls Tryd.prog 72 #[.int .u32 x, .int .i64 n] w fun e w' => e = .returned (.int .u32 (ShaM.rr x n : Nat)) ∧ w = w' := by
  obtain ⟨P, hP⟩ : ∃ P : Nat, P = 2 ^ n := ⟨_, rfl⟩
  obtain ⟨R, hR⟩ : ∃ R : Nat, R = ShaM.rr x n := ⟨_, rfl⟩
  have h1 : P < 4294967296 := by have h := Nat.pow_lt_pow_right (a := 2) (by decide) hn; omega
  have h2 : ¬ P = 0 := by rw [hP]; exact Nat.ne_of_gt (Nat.two_pow_pos n)
  have e0 : (2 : Int) ^ n = (P : Int) := by rw [hP]; simp
  have e : (2 : Int) ^ n % 4294967296 = (P : Int) := by rw [e0]; omega
  clear e0
  have hs := ShaM.rr_sum hx (Nat.le_of_lt hn)
  have hl := ShaM.rot_low_lt (x := x) (Nat.le_of_lt hn)
  have hr := ShaM.rr_lt hx n
  rw [← hP] at hs hl
  rw [← hR] at hs hr ⊢
  have HP := hid hP
  have HR := hid hR
  have HS := hid hs
  have HL := hid hl
  clear hP hR hs hl
  go_enter Tryd.func72, Tryd.ntmps72
  go_wp2
  go_ret
  refine ⟨ret_int ?_, rfl⟩
  have hs := HS.out
  have hl := HL.out
  have e0 : (2 : Int) ^ n = (P : Int) := by rw [HP.out]; simp
  have e3 : (x : Int) % (P : Int) * 2 ^ (32 - n) = ((x % P * 2 ^ (32 - n) : Nat) : Int) := by simp
  have e4 : (x : Int) / (P : Int) = ((x / P : Nat) : Int) := by simp
  rw [e3, e0, e4]
  generalize x % P * 2 ^ (32 - n) = y at *
  generalize x / P = z at *
  omega
end Go.Proofs.YtdmnhpgafbcehaaDoor
set_option maxRecDepth 100000
namespace Go.Proofs.YtdmnhpgafbcehaaDoor
open Go.ChangeShapes Go.WideShapes Go.ChangeAt Go.RowKit
/-- What the last test tells. -/
def tellN (high low limit : Nat) : Bool := decide (high < limit) || (high == limit && low == 0)
end Go.Proofs.YtdmnhpgafbcehaaDoor
set_option maxRecDepth 100000
namespace Go.Proofs.YtdmnhpgafbcehaaDoor
open Go.ChangeShapes Go.WideShapes Go.ChangeAt Go.RowKit
attribute [local go_sem] Gives
theorem elt32 : Elt 115 103 .u32 := elt_of Tryd.underlying115 (by kernel_rfl) (by kernel_rfl) (by kernel_rfl)
def bls (n : Nat) (f : Nat → Bool) : Array Value := row n fun j => .bool (f j)
/-- What is marked when the multiples of n below k are. -/
def markTo (out : List Nat) (n k j : Nat) : Bool := ShaM.mark out j || (decide (n ≤ j) && j % n == 0 && decide (j < k))
/-- A slice of the numbers l that was made anew. -/
def Fresh (k : IntKind) (w w' : World) (e : Ending) (l : List Nat) : Prop := ∃ A cap, e = .returned (.slice A l.length cap) ∧ l.length ≤ cap ∧ cap ≤ maxLen ∧ Nums k w' w'.heap.size A l ∧ Below w.heap.size w w'
theorem Own.fresh {e : TypeId} {k : IntKind} {w0 w : World} {B : Nat} {v : Value} {l : List Nat} (h : Own e k w B v l) (hb : Below w0.heap.size w0 w) : Fresh k w0 w (.returned v) l := by
  obtain ⟨A, cap, rfl, h1, h2, h3⟩ := h.any
  exact ⟨A, cap, rfl, h1, h2, h3, hb⟩
end Go.Proofs.YtdmnhpgafbcehaaDoor
set_option maxRecDepth 100000
namespace Go.Proofs.YtdmnhpgafbcehaaDoor
open Go.ChangeShapes Go.WideShapes Go.ChangeAt Go.RowKit
/-- A literal of one number is a slice of the call's own, and full. -/
theorem Own.lit {e : TypeId} {k : IntKind} (w : World) {B x : Nat} {v : Value} (h : v = .int k (x : Nat)) (hB : B ≤ w.heap.size) : Own e k (w.alloc (.cells #[v] e)) B (.slice (some ⟨w.heap.size, 0, none⟩) 1 1) [x] := by
  subst h
  exact ⟨rfl, .inr ⟨w.heap.size, 1, #[.int k (x : Nat)], rfl, hB, heap_alloc_new w _, Nat.le_refl _, by unfold maxLen; omega, rfl, rfl⟩⟩
end Go.Proofs.YtdmnhpgafbcehaaDoor
set_option maxRecDepth 100000
namespace Go.Proofs.YtdmnhpgafbcehaaDoor
open Go.ChangeShapes Go.WideShapes Go.ChangeAt Go.RowKit
attribute [local go_sem] Gives
end Go.Proofs.YtdmnhpgafbcehaaDoor
set_option maxRecDepth 100000
namespace Go.Proofs.YtdmnhpgafbcehaaDoor
open Go.ChangeShapes Go.WideShapes Go.ChangeAt Go.RowKit
attribute [local go_sem] Gives
theorem add_wrap (a b : Nat) : IntKind.u32.wrap ((a : Int) + (b : Int)) = ((ShaM.add a b : Nat) : Int) := by
  rw [IntKind.wrap_u32]; unfold ShaM.add; simp
theorem xor3 {a b : Nat} (ha : a < 4294967296) (hb : b < 4294967296) : bits .xor .u32 (a : Int) (b : Int) = ((a ^^^ b : Nat) : Int) := u32_xor_nat _ _ ha hb
/-- The bytes of one number. -/
theorem word_sum (b : Nat → Nat) (i : Nat) : ShaM.word b i = b (4 * i) * 16777216 + b (4 * i + 1) * 65536 + b (4 * i + 2) * 256 + b (4 * i + 3) := by
  unfold ShaM.word; omega
theorem first_take (b : Nat → Nat) {i : Nat} (h : i < 16) : (ShaM.first b).take (i + 1) = (ShaM.first b).take i ++ [ShaM.word b i] := by
  have hl : i < (ShaM.first b).length := by rw [ShaM.first_length]; exact h
  rw [List.take_succ_eq_append_getElem hl, ← nums_at hl, ShaM.first_get b h]
theorem ext_take (b : Nat → Nat) (k : Nat) : ShaM.ext (k + 1) (ShaM.first b) = ShaM.ext k (ShaM.first b) ++ [ShaM.next (ShaM.ext k (ShaM.first b)) (16 + k)] := by
  rw [ShaM.ext_succ, ShaM.ext_length, ShaM.first_length]
theorem nums_one' {k : IntKind} {w : World} {t : TypeId} {n x : Nat} {v : Value} (h : v = .int k (x : Nat)) {B : Nat} (hn : n = w.heap.size) (hB : w.heap.size < B) : Nums k (w.alloc (.cells #[v] t)) B (some ⟨n, 0, none⟩) [x] := by
  subst hn; exact nums_one h hB
theorem rcut3 (x : Nat) (hx : x < 4294967296) (w : World) :
    Calls Tryd.prog 82 #[.int .u32 x, .int .i64 3] w fun e w' => e = .returned (.int .u32 (x / 8 : Nat)) ∧ w = w' := rcut_any x 3 hx (by omega) w
theorem rcut10 (x : Nat) (hx : x < 4294967296) (w : World) :
    Calls Tryd.prog 82 #[.int .u32 x, .int .i64 10] w fun e w' => e = .returned (.int .u32 (x / 1024 : Nat)) ∧ w = w' := rcut_any x 10 hx (by omega) w
set_option maxHeartbeats 1000000 in
set_option maxRecDepth 100000 in
theorem message_any (A : Option Addr) (l : List Nat) (cap : Nat) (hl : l.length = 64) (h256 : ∀ k, ShaM.at' l k < 256) (w : World) (hA : Byt w w.heap.size A l) :
    Calls Tryd.prog 71 #[.slice A 64 cap] w fun e w' => Fresh .u32 w w' e (ShaM.sched (ShaM.at' l)) := by
  obtain ⟨b, o, rfl, hB, hr⟩ := hA (by omega)
  rw [hl] at hr
  have HR := hid hr
  have HB := hid h256
  clear hA hr h256
  go_enter Tryd.func71, Tryd.ntmps71
  go_wp2_with fail
  go_loopw [3, 4] (fun u v wr => ∃ (i : Nat) (vs : Value), i ≤ 16 ∧ v = .int .i64 i ∧ u = vs ∧ Hid (Own 103 .u32 wr w.heap.size vs ((ShaM.first (ShaM.at' l)).take i)) ∧ Hid (Below w.heap.size w wr)) (fun _ v _ => 16 - (intOf v).toNat)
  case atStart => exact ⟨0, _, by omega, rfl, rfl, hid Own.nil, hid (Below.refl _ _)⟩
  case round =>
    obtain ⟨i, vs, hi, rfl, rfl, ho, hb⟩ := hrel
    have hsz := hb.out.size
    by_cases hlt : i < 16
    · have ti : (i : Int) < 16 := by omega
      obtain ⟨c0, hc0⟩ : ∃ c, c = 4 * i := ⟨_, rfl⟩
      obtain ⟨c1, hc1⟩ : ∃ c, c = 4 * i + 1 := ⟨_, rfl⟩
      obtain ⟨c2, hc2⟩ : ∃ c, c = 4 * i + 2 := ⟨_, rfl⟩
      obtain ⟨c3, hc3⟩ : ∃ c, c = 4 * i + 3 := ⟨_, rfl⟩
      have E0 := hid (show IntKind.i64.wrap (4 * (i : Int)) = (c0 : Int) from wr_nat (by omega) (by omega))
      have E1 := hid (show IntKind.i64.wrap ((c0 : Int) + 1) = (c1 : Int) from wr_nat (by omega) (by omega))
      have E2 := hid (show IntKind.i64.wrap ((c0 : Int) + 2) = (c2 : Int) from wr_nat (by omega) (by omega))
      have E3 := hid (show IntKind.i64.wrap ((c0 : Int) + 3) = (c3 : Int) from wr_nat (by omega) (by omega))
      have t0 : (c0 : Int) < 64 := by omega
      have t1 : (c1 : Int) < 64 := by omega
      have t2 : (c2 : Int) < 64 := by omega
      have t3 : (c3 : Int) < 64 := by omega
      have cell : ∀ c, c < 64 → wr.cell? ⟨b, o + c, none⟩ = some (.int .u8 (ShaM.at' l c : Nat)) := fun c hc => (hb.out.cell (p := ⟨b, o + c, none⟩) hB).trans (HR.out c hc)
      have Q0 := hid (cell c0 (by omega))
      have Q1 := hid (cell c1 (by omega))
      have Q2 := hid (cell c2 (by omega))
      have Q3 := hid (cell c3 (by omega))
      have l0 := HB.out c0
      have l1 := HB.out c1
      have l2 := HB.out c2
      have l3 := HB.out c3
      have hw := word_sum (ShaM.at' l) i
      rw [← hc1, ← hc2, ← hc3, ← hc0] at hw
      generalize ShaM.at' l c0 = b0 at *
      generalize ShaM.at' l c1 = b1 at *
      generalize ShaM.at' l c2 = b2 at *
      generalize ShaM.at' l c3 = b3 at *
      have HFT := hid (first_take (ShaM.at' l) hlt)
      obtain ⟨W, hW⟩ : ∃ W, W = ShaM.word (ShaM.at' l) i := ⟨_, rfl⟩
      rw [← hW] at HFT hw
      have HW := hid hw
      clear hW
      clear hc0 hc1 hc2 hc3 cell hw
      go_wp2_with fail
      refine wp_region_tail (C := Drew wr) 33 (by kernel_rfl) (by kernel_rfl) (by kernel_rfl) (Drew.refl _) ?_
      simp only [List.take_succ_cons, List.take_zero, List.drop_succ_cons, List.drop_zero]
      apply wpK_val
      · rfl
      · intro w' hw'
        go_simp
        first | exact rfl | exact ⟨rfl, hw'⟩
      simp only [Act.put, List.setIfInBounds_toArray, List.set_cons_succ, List.set_cons_zero]
      apply wpK_val
      · rfl
      · intro w' hw'
        go_simp
        first | exact rfl | exact ⟨rfl, hw'⟩
      simp only [Act.put, List.setIfInBounds_toArray, List.set_cons_succ, List.set_cons_zero]
      apply wpK_val
      · rfl
      · intro w' hw'
        have h1 : _ := E0.out
        go_simp
        first | exact rfl | exact ⟨rfl, hw'⟩
      simp only [Act.put, List.setIfInBounds_toArray, List.set_cons_succ, List.set_cons_zero]
      apply wpK_val
      · rfl
      · intro w' hw'
        go_simp
        first | exact rfl | exact ⟨rfl, hw'⟩
      simp only [Act.put, List.setIfInBounds_toArray, List.set_cons_succ, List.set_cons_zero]
      apply wpK_val
      · rfl
      · intro w' hw'
        have hcell := hw'.cell Q0.out
        go_simp
        first | exact rfl | exact ⟨rfl, hw'⟩
      simp only [Act.put, List.setIfInBounds_toArray, List.set_cons_succ, List.set_cons_zero]
      apply wpK_val
      · rfl
      · intro w' hw'
        go_simp
        first | exact rfl | exact ⟨rfl, hw'⟩
      simp only [Act.put, List.setIfInBounds_toArray, List.set_cons_succ, List.set_cons_zero]
      apply wpK_val
      · rfl
      · intro w' hw'
        go_simp
        first | exact rfl | exact ⟨rfl, hw'⟩
      simp only [Act.put, List.setIfInBounds_toArray, List.set_cons_succ, List.set_cons_zero]
      apply wpK_val
      · rfl
      · intro w' hw'
        go_simp
        first | exact rfl | exact ⟨rfl, hw'⟩
      simp only [Act.put, List.setIfInBounds_toArray, List.set_cons_succ, List.set_cons_zero]
      apply wpK_val
      · rfl
      · intro w' hw'
        go_simp
        first | exact rfl | exact ⟨rfl, hw'⟩
      simp only [Act.put, List.setIfInBounds_toArray, List.set_cons_succ, List.set_cons_zero]
      apply wpK_val
      · rfl
      · intro w' hw'
        have h1 : _ := E0.out
        go_simp
        first | exact rfl | exact ⟨rfl, hw'⟩
      simp only [Act.put, List.setIfInBounds_toArray, List.set_cons_succ, List.set_cons_zero]
      apply wpK_val
      · rfl
      · intro w' hw'
        have h1 : _ := E1.out
        go_simp
        first | exact rfl | exact ⟨rfl, hw'⟩
      simp only [Act.put, List.setIfInBounds_toArray, List.set_cons_succ, List.set_cons_zero]
      apply wpK_val
      · rfl
      · intro w' hw'
        go_simp
        first | exact rfl | exact ⟨rfl, hw'⟩
      simp only [Act.put, List.setIfInBounds_toArray, List.set_cons_succ, List.set_cons_zero]
      apply wpK_val
      · rfl
      · intro w' hw'
        have hcell := hw'.cell Q1.out
        go_simp
        first | exact rfl | exact ⟨rfl, hw'⟩
      simp only [Act.put, List.setIfInBounds_toArray, List.set_cons_succ, List.set_cons_zero]
      apply wpK_val
      · rfl
      · intro w' hw'
        go_simp
        first | exact rfl | exact ⟨rfl, hw'⟩
      simp only [Act.put, List.setIfInBounds_toArray, List.set_cons_succ, List.set_cons_zero]
      apply wpK_val
      · rfl
      · intro w' hw'
        go_simp
        first | exact rfl | exact ⟨rfl, hw'⟩
      simp only [Act.put, List.setIfInBounds_toArray, List.set_cons_succ, List.set_cons_zero]
      apply wpK_val
      · rfl
      · intro w' hw'
        go_simp
        first | exact rfl | exact ⟨rfl, hw'⟩
      simp only [Act.put, List.setIfInBounds_toArray, List.set_cons_succ, List.set_cons_zero]
      apply wpK_val
      · rfl
      · intro w' hw'
        go_simp
        first | exact rfl | exact ⟨rfl, hw'⟩
      simp only [Act.put, List.setIfInBounds_toArray, List.set_cons_succ, List.set_cons_zero]
      apply wpK_val
      · rfl
      · intro w' hw'
        go_simp
        first | exact rfl | exact ⟨rfl, hw'⟩
      simp only [Act.put, List.setIfInBounds_toArray, List.set_cons_succ, List.set_cons_zero]
      apply wpK_val
      · rfl
      · intro w' hw'
        have h1 : _ := E0.out
        go_simp
        first | exact rfl | exact ⟨rfl, hw'⟩
      simp only [Act.put, List.setIfInBounds_toArray, List.set_cons_succ, List.set_cons_zero]
      apply wpK_val
      · rfl
      · intro w' hw'
        have h1 : _ := E2.out
        go_simp
        first | exact rfl | exact ⟨rfl, hw'⟩
      simp only [Act.put, List.setIfInBounds_toArray, List.set_cons_succ, List.set_cons_zero]
      apply wpK_val
      · rfl
      · intro w' hw'
        go_simp
        first | exact rfl | exact ⟨rfl, hw'⟩
      simp only [Act.put, List.setIfInBounds_toArray, List.set_cons_succ, List.set_cons_zero]
      apply wpK_val
      · rfl
      · intro w' hw'
        have hcell := hw'.cell Q2.out
        go_simp
        first | exact rfl | exact ⟨rfl, hw'⟩
      simp only [Act.put, List.setIfInBounds_toArray, List.set_cons_succ, List.set_cons_zero]
      apply wpK_val
      · rfl
      · intro w' hw'
        go_simp
        first | exact rfl | exact ⟨rfl, hw'⟩
      simp only [Act.put, List.setIfInBounds_toArray, List.set_cons_succ, List.set_cons_zero]
      apply wpK_val
      · rfl
      · intro w' hw'
        go_simp
        first | exact rfl | exact ⟨rfl, hw'⟩
      simp only [Act.put, List.setIfInBounds_toArray, List.set_cons_succ, List.set_cons_zero]
      apply wpK_val
      · rfl
      · intro w' hw'
        go_simp
        first | exact rfl | exact ⟨rfl, hw'⟩
      simp only [Act.put, List.setIfInBounds_toArray, List.set_cons_succ, List.set_cons_zero]
      apply wpK_val
      · rfl
      · intro w' hw'
        go_simp
        first | exact rfl | exact ⟨rfl, hw'⟩
      simp only [Act.put, List.setIfInBounds_toArray, List.set_cons_succ, List.set_cons_zero]
      apply wpK_val
      · rfl
      · intro w' hw'
        go_simp
        first | exact rfl | exact ⟨rfl, hw'⟩
      simp only [Act.put, List.setIfInBounds_toArray, List.set_cons_succ, List.set_cons_zero]
      apply wpK_val
      · rfl
      · intro w' hw'
        have h1 : _ := E0.out
        go_simp
        first | exact rfl | exact ⟨rfl, hw'⟩
      simp only [Act.put, List.setIfInBounds_toArray, List.set_cons_succ, List.set_cons_zero]
      apply wpK_val
      · rfl
      · intro w' hw'
        have h1 : _ := E3.out
        go_simp
        first | exact rfl | exact ⟨rfl, hw'⟩
      simp only [Act.put, List.setIfInBounds_toArray, List.set_cons_succ, List.set_cons_zero]
      apply wpK_val
      · rfl
      · intro w' hw'
        go_simp
        first | exact rfl | exact ⟨rfl, hw'⟩
      simp only [Act.put, List.setIfInBounds_toArray, List.set_cons_succ, List.set_cons_zero]
      apply wpK_val
      · rfl
      · intro w' hw'
        have hcell := hw'.cell Q3.out
        go_simp
        first | exact rfl | exact ⟨rfl, hw'⟩
      simp only [Act.put, List.setIfInBounds_toArray, List.set_cons_succ, List.set_cons_zero]
      apply wpK_val
      · rfl
      · intro w' hw'
        go_simp
        first | exact rfl | exact ⟨rfl, hw'⟩
      simp only [Act.put, List.setIfInBounds_toArray, List.set_cons_succ, List.set_cons_zero]
      apply wpK_val
      · rfl
      · intro w' hw'
        go_simp
        first | exact rfl | exact ⟨rfl, hw'⟩
      simp only [Act.put, List.setIfInBounds_toArray, List.set_cons_succ, List.set_cons_zero]
      refine wpK_nil fun w5 hw5 => ?_
      have o5 := hid (ho.out.heap hw5.heap)
      have b5 := hid (hw5.below hb.out)
      have hsz5 := b5.out.size
      have hlen : ((ShaM.first (ShaM.at' l)).take i).length = i := by rw [List.length_take, ShaM.first_length]; omega
      have HLEN := hid hlen
      clear hw5 hlen Q0 Q1 Q2 Q3
      go_wp2_with (at_builtin; (with_reducible apply wappN elt32); rfl; rfl; exact o5.out.alloc _; exact nums_one (x := W) (B := w5.heap.size + 1) (congrArg (Value.int .u32) (by have := HW.out; omega)) (Nat.lt_succ_self _); rfl; (rw [HLEN.out]; omega); (simp; omega); intro v' w6 o6 g6)
      have b6 := below_grown (b5.out.alloc hsz5 _) g6 o5.out (Nat.le_refl _) (Nat.le_refl _)
      go_roundw
      case rel => exact ⟨i + 1, v', by omega, by go_num, rfl, hid (by rw [HFT.out]; exact o6), hid b6⟩
      case measure => simp [intOf] <;> omega
    · obtain rfl : i = 16 := by omega
      have ho16 := ho.out
      rw [List.take_of_length_le (by rw [ShaM.first_length]; omega)] at ho16
      have O16 := hid ho16
      clear ho16 ho
      obtain ⟨A2, c2, e2, _, _, _⟩ := O16.out.any
      rw [ShaM.first_length] at e2
      subst e2
      rw [show ((16 : Nat) : Int) = (16 : Int) from rfl]
      go_wp2_with fail
      go_loopw [3, 6] (fun u v wr => ∃ (N k : Nat) (A : Option Addr) (cap : Nat), N = 16 + k ∧ k ≤ 48 ∧ v = .int .i64 N ∧ u = .slice A N cap ∧ Hid (Own 103 .u32 wr w.heap.size u (ShaM.ext k (ShaM.first (ShaM.at' l)))) ∧ Hid (Below w.heap.size w wr)) (fun _ v _ => 64 - (intOf v).toNat)
      case atStart => exact ⟨16, 0, A2, c2, rfl, by omega, rfl, rfl, O16, hb⟩
      case round =>
        clear O16 hb hsz
        obtain ⟨N, k, A, cap, hN, hk, rfl, rfl, ho, hb⟩ := hrel
        have hsz := hb.out.size
        by_cases hlt : k < 48
        · have tN : (N : Int) < 64 := by omega
          obtain ⟨j1, hj1⟩ : ∃ j, j = k + 1 := ⟨_, rfl⟩
          obtain ⟨j9, hj9⟩ : ∃ j, j = k + 9 := ⟨_, rfl⟩
          obtain ⟨j14, hj14⟩ : ∃ j, j = k + 14 := ⟨_, rfl⟩
          have E0 := hid (show IntKind.i64.wrap ((N : Int) - 16) = (k : Int) from wr_nat (by omega) (by omega))
          have E1 := hid (show IntKind.i64.wrap ((N : Int) - 15) = (j1 : Int) from wr_nat (by omega) (by omega))
          have E9 := hid (show IntKind.i64.wrap ((N : Int) - 7) = (j9 : Int) from wr_nat (by omega) (by omega))
          have E14 := hid (show IntKind.i64.wrap ((N : Int) - 2) = (j14 : Int) from wr_nat (by omega) (by omega))
          have t0 : (k : Int) < (N : Int) := by omega
          have t1 : (j1 : Int) < (N : Int) := by omega
          have t9 : (j9 : Int) < (N : Int) := by omega
          have t14 : (j14 : Int) < (N : Int) := by omega
          have hlen : (ShaM.ext k (ShaM.first (ShaM.at' l))).length = N := by rw [ShaM.ext_length, ShaM.first_length]; omega
          obtain ⟨A', cap', e1, _, _, hn⟩ := ho.out.any
          rw [hlen] at e1
          simp only [Value.slice.injEq, true_and] at e1
          obtain ⟨rfl, rfl⟩ := e1
          have hnx : ShaM.next (ShaM.ext k (ShaM.first (ShaM.at' l))) (16 + k) = ShaM.add (ShaM.add (ShaM.add ((ShaM.ext k (ShaM.first (ShaM.at' l))).getD k 0) (ShaM.l0 ((ShaM.ext k (ShaM.first (ShaM.at' l))).getD j1 0))) ((ShaM.ext k (ShaM.first (ShaM.at' l))).getD j9 0)) (ShaM.l1 ((ShaM.ext k (ShaM.first (ShaM.at' l))).getD j14 0)) := by
            rw [hj1, hj9, hj14]; exact ShaM.next_upM (ShaM.at' l) k
          have hst := ext_take (ShaM.at' l) k
          have hlt4 : ∀ j, (ShaM.ext k (ShaM.first (ShaM.at' l))).getD j 0 < 4294967296 := fun j => ShaM.upM_lt HB.out k j
          rw [hnx] at hst
          have HST := hid hst
          clear hst hnx
          generalize hM : ShaM.ext k (ShaM.first (ShaM.at' l)) = M at *
          have HM := hid hM
          obtain ⟨b2, o2, rfl, hB2, hr2⟩ := hn (by omega)
          have C0 := hid (hr2 k (by omega))
          have C1 := hid (hr2 j1 (by omega))
          have C9 := hid (hr2 j9 (by omega))
          have C14 := hid (hr2 j14 (by omega))
          have x0 := hlt4 k
          have x1 := hlt4 j1
          have x9 := hlt4 j9
          have x14 := hlt4 j14
          generalize M.getD k 0 = m0 at *
          generalize M.getD j1 0 = m1 at *
          generalize M.getD j9 0 = m9 at *
          generalize M.getD j14 0 = m14 at *
          have HN := hid hN
          have HLEN := hid hlen
          have r7 := ShaM.rr_lt x1 7
          have r18 := ShaM.rr_lt x1 18
          have r17 := ShaM.rr_lt x14 17
          have r19 := ShaM.rr_lt x14 19
          have X1 := hid (xor3 r7 r18)
          obtain ⟨L, hL⟩ : ∃ L, L = ShaM.l0 m1 := ⟨_, rfl⟩
          obtain ⟨R, hRR⟩ : ∃ R, R = ShaM.l1 m14 := ⟨_, rfl⟩
          have hLl : L < 4294967296 := by rw [hL]; exact Nat.xor_lt_two_pow (n := 32) (Nat.xor_lt_two_pow (n := 32) r7 r18) (Nat.lt_of_le_of_lt (Nat.div_le_self _ _) x1)
          have hRl : R < 4294967296 := by rw [hRR]; exact Nat.xor_lt_two_pow (n := 32) (Nat.xor_lt_two_pow (n := 32) r17 r19) (Nat.lt_of_le_of_lt (Nat.div_le_self _ _) x14)
          have X2 : Hid (bits .xor .u32 ((ShaM.rr m1 7 ^^^ ShaM.rr m1 18 : Nat) : Int) ((m1 : Int) / 8) = (L : Int)) := hid (by rw [hL]; exact xor3 (Nat.xor_lt_two_pow (n := 32) r7 r18) (show m1 / 8 < 4294967296 from Nat.lt_of_le_of_lt (Nat.div_le_self _ _) x1))
          have Y1 := hid (xor3 r17 r19)
          have Y2 : Hid (bits .xor .u32 ((ShaM.rr m14 17 ^^^ ShaM.rr m14 19 : Nat) : Int) ((m14 : Int) / 1024) = (R : Int)) := hid (by rw [hRR]; exact xor3 (Nat.xor_lt_two_pow (n := 32) r17 r19) (show m14 / 1024 < 4294967296 from Nat.lt_of_le_of_lt (Nat.div_le_self _ _) x14))
          rw [← hL, ← hRR] at HST
          obtain ⟨s1, hs1⟩ : ∃ s, s = ShaM.add m0 L := ⟨_, rfl⟩
          obtain ⟨s2, hs2⟩ : ∃ s, s = ShaM.add s1 m9 := ⟨_, rfl⟩
          obtain ⟨s3, hs3⟩ : ∃ s, s = ShaM.add s2 R := ⟨_, rfl⟩
          rw [← hs1, ← hs2, ← hs3] at HST
          have S1 : Hid (IntKind.u32.wrap ((m0 : Int) + (L : Int)) = (s1 : Int)) := hid (by rw [hs1]; exact add_wrap _ _)
          have S2 : Hid (IntKind.u32.wrap ((s1 : Int) + (m9 : Int)) = (s2 : Int)) := hid (by rw [hs2]; exact add_wrap _ _)
          have S3 : Hid (IntKind.u32.wrap ((s2 : Int) + (R : Int)) = (s3 : Int)) := hid (by rw [hs3]; exact add_wrap _ _)
          have s1l : s1 < 4294967296 := by rw [hs1]; exact ShaM.add_lt _ _
          have s2l : s2 < 4294967296 := by rw [hs2]; exact ShaM.add_lt _ _
          have s3l : s3 < 4294967296 := by rw [hs3]; exact ShaM.add_lt _ _
          have R7 := hid fun w => rrot_any m1 7 x1 (by omega) (by omega) w
          have R18 := hid fun w => rrot_any m1 18 x1 (by omega) (by omega) w
          have R17 := hid fun w => rrot_any m14 17 x14 (by omega) (by omega) w
          have R19 := hid fun w => rrot_any m14 19 x14 (by omega) (by omega) w
          have R3 := hid fun w => rcut3 m1 x1 w
          have R10 := hid fun w => rcut10 m14 x14 w
          clear hr2 hn hlt4 hj1 hj9 hj14 hN hlen hM r7 r18 r17 r19 hL hRR hs1 hs2 hs3
          go_wp2_with fail
          refine wp_region_tail (C := Drew wr) 20 (by kernel_rfl) (by kernel_rfl) (by kernel_rfl) (Drew.refl _) ?_
          simp only [List.take_succ_cons, List.take_zero, List.drop_succ_cons, List.drop_zero]
          apply wpK_val
          · rfl
          · intro w' hw'
            go_simp
            first | exact rfl | exact ⟨rfl, hw'⟩
          simp only [Act.put, List.setIfInBounds_toArray, List.set_cons_succ, List.set_cons_zero]
          apply wpK_val
          · rfl
          · intro w' hw'
            go_simp
            first | exact rfl | exact ⟨rfl, hw'⟩
          simp only [Act.put, List.setIfInBounds_toArray, List.set_cons_succ, List.set_cons_zero]
          apply wpK_val
          · rfl
          · intro w' hw'
            have h1 : _ := E1.out
            go_simp
            first | exact rfl | exact ⟨rfl, hw'⟩
          simp only [Act.put, List.setIfInBounds_toArray, List.set_cons_succ, List.set_cons_zero]
          apply wpK_val
          · rfl
          · intro w' hw'
            go_simp
            first | exact rfl | exact ⟨rfl, hw'⟩
          simp only [Act.put, List.setIfInBounds_toArray, List.set_cons_succ, List.set_cons_zero]
          apply wpK_val
          · rfl
          · intro w' hw'
            have hcell := hw'.cell C1.out
            go_simp
            first | exact rfl | exact ⟨rfl, hw'⟩
          simp only [Act.put, List.setIfInBounds_toArray, List.set_cons_succ, List.set_cons_zero]
          apply wpK_val
          · rfl
          · intro w' hw'
            go_simp
            exact (R7.out _).mono fun e w'' ⟨he, hb''⟩ => ⟨he, hb'' ▸ hw'⟩
          simp only [Act.put, List.setIfInBounds_toArray, List.set_cons_succ, List.set_cons_zero]
          apply wpK_val
          · rfl
          · intro w' hw'
            go_simp
            first | exact rfl | exact ⟨rfl, hw'⟩
          simp only [Act.put, List.setIfInBounds_toArray, List.set_cons_succ, List.set_cons_zero]
          apply wpK_val
          · rfl
          · intro w' hw'
            go_simp
            first | exact rfl | exact ⟨rfl, hw'⟩
          simp only [Act.put, List.setIfInBounds_toArray, List.set_cons_succ, List.set_cons_zero]
          apply wpK_val
          · rfl
          · intro w' hw'
            have h1 : _ := E1.out
            go_simp
            first | exact rfl | exact ⟨rfl, hw'⟩
          simp only [Act.put, List.setIfInBounds_toArray, List.set_cons_succ, List.set_cons_zero]
          apply wpK_val
          · rfl
          · intro w' hw'
            go_simp
            first | exact rfl | exact ⟨rfl, hw'⟩
          simp only [Act.put, List.setIfInBounds_toArray, List.set_cons_succ, List.set_cons_zero]
          apply wpK_val
          · rfl
          · intro w' hw'
            have hcell := hw'.cell C1.out
            go_simp
            first | exact rfl | exact ⟨rfl, hw'⟩
          simp only [Act.put, List.setIfInBounds_toArray, List.set_cons_succ, List.set_cons_zero]
          apply wpK_val
          · rfl
          · intro w' hw'
            go_simp
            exact (R18.out _).mono fun e w'' ⟨he, hb''⟩ => ⟨he, hb'' ▸ hw'⟩
          simp only [Act.put, List.setIfInBounds_toArray, List.set_cons_succ, List.set_cons_zero]
          apply wpK_val
          · rfl
          · intro w' hw'
            have h1 : _ := X1.out
            go_simp
            first | exact rfl | exact ⟨rfl, hw'⟩
          simp only [Act.put, List.setIfInBounds_toArray, List.set_cons_succ, List.set_cons_zero]
          apply wpK_val
          · rfl
          · intro w' hw'
            go_simp
            first | exact rfl | exact ⟨rfl, hw'⟩
          simp only [Act.put, List.setIfInBounds_toArray, List.set_cons_succ, List.set_cons_zero]
          apply wpK_val
          · rfl
          · intro w' hw'
            go_simp
            first | exact rfl | exact ⟨rfl, hw'⟩
          simp only [Act.put, List.setIfInBounds_toArray, List.set_cons_succ, List.set_cons_zero]
          apply wpK_val
          · rfl
          · intro w' hw'
            have h1 : _ := E1.out
            go_simp
            first | exact rfl | exact ⟨rfl, hw'⟩
          simp only [Act.put, List.setIfInBounds_toArray, List.set_cons_succ, List.set_cons_zero]
          apply wpK_val
          · rfl
          · intro w' hw'
            go_simp
            first | exact rfl | exact ⟨rfl, hw'⟩
          simp only [Act.put, List.setIfInBounds_toArray, List.set_cons_succ, List.set_cons_zero]
          apply wpK_val
          · rfl
          · intro w' hw'
            have hcell := hw'.cell C1.out
            go_simp
            first | exact rfl | exact ⟨rfl, hw'⟩
          simp only [Act.put, List.setIfInBounds_toArray, List.set_cons_succ, List.set_cons_zero]
          apply wpK_val
          · rfl
          · intro w' hw'
            go_simp
            exact (R3.out _).mono fun e w'' ⟨he, hb''⟩ => ⟨he, hb'' ▸ hw'⟩
          simp only [Act.put, List.setIfInBounds_toArray, List.set_cons_succ, List.set_cons_zero]
          apply wpK_val
          · rfl
          · intro w' hw'
            have h1 : _ := X2.out
            go_simp
            first | exact rfl | exact ⟨rfl, hw'⟩
          simp only [Act.put, List.setIfInBounds_toArray, List.set_cons_succ, List.set_cons_zero]
          refine wpK_nil fun w5 hw5 => ?_
          go_wp2_with fail
          refine wp_region_tail (C := Drew wr) 20 (by kernel_rfl) (by kernel_rfl) (by kernel_rfl) (hw5.trans (Drew.refl _)) ?_
          simp only [List.take_succ_cons, List.take_zero, List.drop_succ_cons, List.drop_zero]
          apply wpK_val
          · rfl
          · intro w' hw'
            go_simp
            first | exact rfl | exact ⟨rfl, hw'⟩
          simp only [Act.put, List.setIfInBounds_toArray, List.set_cons_succ, List.set_cons_zero]
          apply wpK_val
          · rfl
          · intro w' hw'
            go_simp
            first | exact rfl | exact ⟨rfl, hw'⟩
          simp only [Act.put, List.setIfInBounds_toArray, List.set_cons_succ, List.set_cons_zero]
          apply wpK_val
          · rfl
          · intro w' hw'
            have h1 : _ := E14.out
            go_simp
            first | exact rfl | exact ⟨rfl, hw'⟩
          simp only [Act.put, List.setIfInBounds_toArray, List.set_cons_succ, List.set_cons_zero]
          apply wpK_val
          · rfl
          · intro w' hw'
            go_simp
            first | exact rfl | exact ⟨rfl, hw'⟩
          simp only [Act.put, List.setIfInBounds_toArray, List.set_cons_succ, List.set_cons_zero]
          apply wpK_val
          · rfl
          · intro w' hw'
            have hcell := hw'.cell C14.out
            go_simp
            first | exact rfl | exact ⟨rfl, hw'⟩
          simp only [Act.put, List.setIfInBounds_toArray, List.set_cons_succ, List.set_cons_zero]
          apply wpK_val
          · rfl
          · intro w' hw'
            go_simp
            exact (R17.out _).mono fun e w'' ⟨he, hb''⟩ => ⟨he, hb'' ▸ hw'⟩
          simp only [Act.put, List.setIfInBounds_toArray, List.set_cons_succ, List.set_cons_zero]
          apply wpK_val
          · rfl
          · intro w' hw'
            go_simp
            first | exact rfl | exact ⟨rfl, hw'⟩
          simp only [Act.put, List.setIfInBounds_toArray, List.set_cons_succ, List.set_cons_zero]
          apply wpK_val
          · rfl
          · intro w' hw'
            go_simp
            first | exact rfl | exact ⟨rfl, hw'⟩
          simp only [Act.put, List.setIfInBounds_toArray, List.set_cons_succ, List.set_cons_zero]
          apply wpK_val
          · rfl
          · intro w' hw'
            have h1 : _ := E14.out
            go_simp
            first | exact rfl | exact ⟨rfl, hw'⟩
          simp only [Act.put, List.setIfInBounds_toArray, List.set_cons_succ, List.set_cons_zero]
          apply wpK_val
          · rfl
          · intro w' hw'
            go_simp
            first | exact rfl | exact ⟨rfl, hw'⟩
          simp only [Act.put, List.setIfInBounds_toArray, List.set_cons_succ, List.set_cons_zero]
          apply wpK_val
          · rfl
          · intro w' hw'
            have hcell := hw'.cell C14.out
            go_simp
            first | exact rfl | exact ⟨rfl, hw'⟩
          simp only [Act.put, List.setIfInBounds_toArray, List.set_cons_succ, List.set_cons_zero]
          apply wpK_val
          · rfl
          · intro w' hw'
            go_simp
            exact (R19.out _).mono fun e w'' ⟨he, hb''⟩ => ⟨he, hb'' ▸ hw'⟩
          simp only [Act.put, List.setIfInBounds_toArray, List.set_cons_succ, List.set_cons_zero]
          apply wpK_val
          · rfl
          · intro w' hw'
            have h1 : _ := Y1.out
            go_simp
            first | exact rfl | exact ⟨rfl, hw'⟩
          simp only [Act.put, List.setIfInBounds_toArray, List.set_cons_succ, List.set_cons_zero]
          apply wpK_val
          · rfl
          · intro w' hw'
            go_simp
            first | exact rfl | exact ⟨rfl, hw'⟩
          simp only [Act.put, List.setIfInBounds_toArray, List.set_cons_succ, List.set_cons_zero]
          apply wpK_val
          · rfl
          · intro w' hw'
            go_simp
            first | exact rfl | exact ⟨rfl, hw'⟩
          simp only [Act.put, List.setIfInBounds_toArray, List.set_cons_succ, List.set_cons_zero]
          apply wpK_val
          · rfl
          · intro w' hw'
            have h1 : _ := E14.out
            go_simp
            first | exact rfl | exact ⟨rfl, hw'⟩
          simp only [Act.put, List.setIfInBounds_toArray, List.set_cons_succ, List.set_cons_zero]
          apply wpK_val
          · rfl
          · intro w' hw'
            go_simp
            first | exact rfl | exact ⟨rfl, hw'⟩
          simp only [Act.put, List.setIfInBounds_toArray, List.set_cons_succ, List.set_cons_zero]
          apply wpK_val
          · rfl
          · intro w' hw'
            have hcell := hw'.cell C14.out
            go_simp
            first | exact rfl | exact ⟨rfl, hw'⟩
          simp only [Act.put, List.setIfInBounds_toArray, List.set_cons_succ, List.set_cons_zero]
          apply wpK_val
          · rfl
          · intro w' hw'
            go_simp
            exact (R10.out _).mono fun e w'' ⟨he, hb''⟩ => ⟨he, hb'' ▸ hw'⟩
          simp only [Act.put, List.setIfInBounds_toArray, List.set_cons_succ, List.set_cons_zero]
          apply wpK_val
          · rfl
          · intro w' hw'
            have h1 : _ := Y2.out
            go_simp
            first | exact rfl | exact ⟨rfl, hw'⟩
          simp only [Act.put, List.setIfInBounds_toArray, List.set_cons_succ, List.set_cons_zero]
          refine wpK_nil fun w6 hw6 => ?_
          clear hw5
          go_wp2_with fail
          have hz6 := hw6.heap
          have C0' := hid (hw6.cell C0.out)
          have C9' := hid (hw6.cell C9.out)
          have hB6 : b2 < w6.heap.size := by rw [hz6]; exact hB2
          refine wp_region_put (C := Put w6 (.cells #[.int .u32 (s3 : Nat)] 103)) 16 17 (by omega) (by kernel_rfl) (by kernel_rfl) (by kernel_rfl) (Drew.refl _) ?_
          simp only [List.take_succ_cons, List.take_zero, List.drop_succ_cons, List.drop_zero]
          apply wpS_val
          · decide
          · rfl
          · intro bb w' hw'
            go_simp
            first | exact rfl | exact ⟨rfl, hw'⟩
          simp only [Act.put, List.setIfInBounds_toArray, List.set_cons_succ, List.set_cons_zero]
          apply wpS_val
          · decide
          · rfl
          · intro bb w' hw'
            go_simp
            first | exact rfl | exact ⟨rfl, hw'⟩
          simp only [Act.put, List.setIfInBounds_toArray, List.set_cons_succ, List.set_cons_zero]
          apply wpS_val
          · decide
          · rfl
          · intro bb w' hw'
            go_simp
            first | exact rfl | exact ⟨rfl, hw'⟩
          simp only [Act.put, List.setIfInBounds_toArray, List.set_cons_succ, List.set_cons_zero]
          apply wpS_val
          · decide
          · rfl
          · intro bb w' hw'
            have h1 : _ := E0.out
            go_simp
            first | exact rfl | exact ⟨rfl, hw'⟩
          simp only [Act.put, List.setIfInBounds_toArray, List.set_cons_succ, List.set_cons_zero]
          apply wpS_val
          · decide
          · rfl
          · intro bb w' hw'
            go_simp
            first | exact rfl | exact ⟨rfl, hw'⟩
          simp only [Act.put, List.setIfInBounds_toArray, List.set_cons_succ, List.set_cons_zero]
          apply wpS_val
          · decide
          · rfl
          · intro bb w' hw'
            have hcell : _ := hw'.cell hB6 C0'.out
            go_simp
            first | exact rfl | exact ⟨rfl, hw'⟩
          simp only [Act.put, List.setIfInBounds_toArray, List.set_cons_succ, List.set_cons_zero]
          apply wpS_val
          · decide
          · rfl
          · intro bb w' hw'
            go_simp
            first | exact rfl | exact ⟨rfl, hw'⟩
          simp only [Act.put, List.setIfInBounds_toArray, List.set_cons_succ, List.set_cons_zero]
          apply wpS_val
          · decide
          · rfl
          · intro bb w' hw'
            have h1 : _ := S1.out
            go_simp
            first | exact rfl | exact ⟨rfl, hw'⟩
          simp only [Act.put, List.setIfInBounds_toArray, List.set_cons_succ, List.set_cons_zero]
          apply wpS_val
          · decide
          · rfl
          · intro bb w' hw'
            go_simp
            first | exact rfl | exact ⟨rfl, hw'⟩
          simp only [Act.put, List.setIfInBounds_toArray, List.set_cons_succ, List.set_cons_zero]
          apply wpS_val
          · decide
          · rfl
          · intro bb w' hw'
            go_simp
            first | exact rfl | exact ⟨rfl, hw'⟩
          simp only [Act.put, List.setIfInBounds_toArray, List.set_cons_succ, List.set_cons_zero]
          apply wpS_val
          · decide
          · rfl
          · intro bb w' hw'
            have h1 : _ := E9.out
            go_simp
            first | exact rfl | exact ⟨rfl, hw'⟩
          simp only [Act.put, List.setIfInBounds_toArray, List.set_cons_succ, List.set_cons_zero]
          apply wpS_val
          · decide
          · rfl
          · intro bb w' hw'
            go_simp
            first | exact rfl | exact ⟨rfl, hw'⟩
          simp only [Act.put, List.setIfInBounds_toArray, List.set_cons_succ, List.set_cons_zero]
          apply wpS_val
          · decide
          · rfl
          · intro bb w' hw'
            have hcell : _ := hw'.cell hB6 C9'.out
            go_simp
            first | exact rfl | exact ⟨rfl, hw'⟩
          simp only [Act.put, List.setIfInBounds_toArray, List.set_cons_succ, List.set_cons_zero]
          apply wpS_val
          · decide
          · rfl
          · intro bb w' hw'
            have h1 : _ := S2.out
            go_simp
            first | exact rfl | exact ⟨rfl, hw'⟩
          simp only [Act.put, List.setIfInBounds_toArray, List.set_cons_succ, List.set_cons_zero]
          apply wpS_val
          · decide
          · rfl
          · intro bb w' hw'
            go_simp
            first | exact rfl | exact ⟨rfl, hw'⟩
          simp only [Act.put, List.setIfInBounds_toArray, List.set_cons_succ, List.set_cons_zero]
          apply wpS_val
          · decide
          · rfl
          · intro bb w' hw'
            have h1 : _ := S3.out
            go_simp
            first | exact rfl | exact ⟨rfl, hw'⟩
          simp only [Act.put, List.setIfInBounds_toArray, List.set_cons_succ, List.set_cons_zero]
          apply wpS_put
          · rfl
          · rfl
          · intro w' hw'
            have hw2 : Drew w6 w' := hw'
            have hz := hw2.heap
            go_simp
            exact ⟨rfl, w', hw2, rfl⟩
          simp only [Act.put, List.setIfInBounds_toArray, List.set_cons_succ, List.set_cons_zero]
          refine wpS_nil fun w8 hw8 => ?_
          obtain ⟨w7, h7, rfl⟩ := hw8
          have hz7 : wr.heap.size = w7.heap.size := by rw [h7.heap, hz6]
          have o7 := hid (ho.out.heap (by rw [h7.heap, hz6]))
          have b7 := hid (h7.below (hw6.below hb.out))
          have HZ7 := hid hz7
          clear hw6 h7 hz6 hB6 C0' C9' hz7 S1 S2 S3 X1 X2 Y1 Y2
          go_wp2_with (at_builtin; (with_reducible apply wappN elt32); rfl; rfl; exact o7.out.alloc _; exact nums_one' (x := s3) (B := w7.heap.size + 1) rfl HZ7.out (Nat.lt_succ_self _); rfl; (rw [HLEN.out]; omega); (simp; have := HZ7.out; omega); intro v' w9 o9 g9)
          have b9 := below_grown (b7.out.alloc (by have := HZ7.out; omega) (.cells #[.int .u32 (s3 : Nat)] 103)) g9 o7.out (Nat.le_refl _) (Nat.le_refl _)
          obtain ⟨A3, c3, e3, _, _, _⟩ := o9.any
          rw [List.length_append, HLEN.out, List.length_singleton] at e3
          subst e3
          go_roundw
          case rel => exact ⟨N + 1, k + 1, A3, c3, by have := HN.out; omega, by omega, by go_num, rfl, hid (by rw [HST.out]; exact o9), hid b9⟩
          case measure => simp [intOf] <;> omega
        · obtain rfl : k = 48 := by omega
          have tN : decide ((N : Int) < 64) = false := by simp; omega
          have hfin := hid (ho.out.fresh hb.out)
          clear ho
          go_wp2_with fail
          go_ret
          exact hfin.out
end Go.Proofs.YtdmnhpgafbcehaaDoor
set_option maxRecDepth 100000
namespace Go.Proofs.YtdmnhpgafbcehaaDoor
open Go.ChangeShapes Go.WideShapes Go.ChangeAt Go.RowKit
attribute [local go_sem] Gives
/-- The eight numbers. -/
def lst8 (s : ShaM.S8) : List Nat := [s.a, s.b, s.c, s.d, s.e, s.f, s.g, s.h]
end Go.Proofs.YtdmnhpgafbcehaaDoor
set_option maxRecDepth 100000
namespace Go.Proofs.YtdmnhpgafbcehaaDoor
section
variable {P : Program} {ops : Array Oper}
def upB (d : Nat → Bool) (k : Nat) : Nat → Bool := fun j => if j = k then true else d j
/-- The operations in the order of the text, the k-th first; st tells which of them write. -/
def wpM (P : Program) (ops : Array Oper) (st : Nat → Bool) (D : (Nat → Bool) → World → Prop) (Q : Act → Prop) : Nat → List Oper → Act → Prop
  | _, [], a => Q a
  | k, o :: rest, a => ∃ v, ((Region.wanted o (yielded ops a.tmps) = true ∧ ((st k = true ∧ ∀ d w, d k = false → D d w → Gives P o a w v (D (upB d k))) ∨ (st k = false ∧ ∀ d w, D d w → Gives P o a w v (D d)))) ∨
      (Region.wanted o (yielded ops a.tmps) = false ∧ st k = false ∧ v = undef)) ∧ wpM P ops st D Q (k + 1) rest (a.put o.dst v)
section
variable {D : (Nat → Bool) → World → Prop} {Qk : Act → Prop} {o : Oper} {rest : List Oper} {a : Act} {v : Value} {k : Nat} {st : Nat → Bool}
theorem wpM_nil (h : Qk a) : wpM P ops st D Qk k [] a := h
theorem wpM_val (hk : st k = false) (hw : Region.wanted o (yielded ops a.tmps) = true) (h1 : ∀ d w, D d w → Gives P o a w v (D d)) (h2 : wpM P ops st D Qk (k + 1) rest (a.put o.dst v)) : wpM P ops st D Qk k (o :: rest) a :=
  ⟨v, .inl ⟨hw, .inr ⟨hk, h1⟩⟩, h2⟩
theorem wpM_put (hk : st k = true) (hw : Region.wanted o (yielded ops a.tmps) = true) (h1 : ∀ d w, d k = false → D d w → Gives P o a w v (D (upB d k))) (h2 : wpM P ops st D Qk (k + 1) rest (a.put o.dst v)) : wpM P ops st D Qk k (o :: rest) a :=
  ⟨v, .inl ⟨hw, .inl ⟨hk, h1⟩⟩, h2⟩
end
theorem wpM_vals {st : Nat → Bool} {D : (Nat → Bool) → World → Prop} {Qk : Act → Prop} : ∀ (l : List Oper) (k : Nat) (a : Act), wpM P ops st D Qk k l a → ∃ vals : Nat → Value, Qk (lexF l vals l.length a) ∧
    ∀ i o, l[i]? = some o → ((Region.wanted o (yielded ops (lexF l vals i a).tmps) = true ∧ ((st (k + i) = true ∧ ∀ d w, d (k + i) = false → D d w → Gives P o (lexF l vals i a) w (vals i) (D (upB d (k + i)))) ∨ (st (k + i) = false ∧ ∀ d w, D d w → Gives P o (lexF l vals i a) w (vals i) (D d)))) ∨
      (Region.wanted o (yielded ops (lexF l vals i a).tmps) = false ∧ st (k + i) = false ∧ vals i = undef))
  | [], _, a, h => ⟨fun _ => undef, h, fun i o hi => by simp at hi⟩
  | o :: l, k, a, h => by
    obtain ⟨v, h1, h2⟩ := h
    obtain ⟨vals, hq, hs⟩ := wpM_vals l (k + 1) _ h2
    refine ⟨fun j => match j with | 0 => v | j + 1 => vals j, ?_, fun i o' hi => ?_⟩
    · rw [List.length_cons, lexF_cons]; exact hq
    · cases i with
      | zero =>
        simp only [List.getElem?_cons_zero, Option.some.injEq] at hi
        subst hi
        exact h1
      | succ i =>
        rw [lexF_cons, show k + (i + 1) = k + 1 + i by omega]
        exact hs i o' (by simpa using hi)
theorem gives_imp {o : Oper} {a : Act} {w : World} {v : Value} {R R' : World → Prop} (h : Gives P o a w v R) (hr : ∀ w', R w' → R' w') : Gives P o a w v R' := by
  unfold Gives at *
  generalize (execOp a.eval o).run P w = r at *
  cases r with
  | ok n w' =>
    cases n <;> simp only at h ⊢
    case value u => exact ⟨h.1, hr _ h.2⟩
    case skip => exact ⟨h.1, hr _ h.2⟩
    case enter f args => exact h.mono fun e w'' ⟨he, hR⟩ => ⟨he, hr _ hR⟩
  | halt x w' => exact h
theorem wp_region_set {id : Nat} {Q : Exit → Act → World → Prop} {D : (Nat → Bool) → World → Prop} {a : Act} {w : World} {l : List Oper} (st : Nat → Bool) (n : Nat) (hst : ∀ j, st j = true → j < n) (hm : P.follows .mixedOrders = true) (ht : tidy l.toArray = true) (hB : tailB l.toArray n = true)
    (hirr : ∀ d d' w, (∀ j, st j = true → d j = d' j) → D d w → D d' w) (hC : D (fun _ => false) w.drew)
    (h : wpM P l.toArray st D (fun a' => ∀ w', D (fun _ => true) w' → wpList P l.toArray Q (l.drop n) a' w') 0 (l.take n) a) : (Code.region id l.toArray true).wp P Q a w := by
  obtain ⟨vals, hq, hs⟩ := wpM_vals _ _ _ h
  refine region_core (Γ := Unit) (C := fun _ L w => D (fun j => L.getD j false) w) n hm ht hB () (hirr _ _ _ (fun j _ => (getD_replicate_false _ j).symm) hC) (fun _ => vals) (fun i o hi γ L w hsz hr hC' => ⟨(), fun _ _ => rfl, ?_⟩)
    (fun _ L w' hall hC' => hq w' (hirr _ _ _ (fun j hj => hall j (hst j hj)) hC'))
  have hun := getD_both (mem_ready.1 hr).1
  have hlt : i < L.size := by
    obtain ⟨o', ho', _⟩ := (mem_ready.1 hr).2
    have := (Array.getElem?_eq_some_iff.1 ho').1
    simp at this; omega
  rcases hs i o hi with ⟨h1, ⟨h2, h3⟩ | ⟨h2, h3⟩⟩ | ⟨h1, h2, h3⟩
  · rw [Nat.zero_add] at h2 h3
    refine .inl ⟨h1, gives_imp (h3 _ w hun hC') fun w' hw' => hirr _ _ _ (fun j _ => ?_) hw'⟩
    unfold upB
    by_cases e : j = i
    · subst e; rw [if_pos rfl]; simp [hlt]
    · rw [if_neg e, getD_set_ne false (Ne.symm e)]
  · rw [Nat.zero_add] at h2
    refine .inl ⟨h1, gives_imp (h3 _ w hC') fun w' hw' => hirr _ _ _ (fun j hj => ?_) hw'⟩
    have e : j ≠ i := fun e => by subst e; rw [h2] at hj; cases hj
    rw [getD_set_ne false (Ne.symm e)]
  · rw [Nat.zero_add] at h2
    refine .inr ⟨h1, h3, hirr _ _ _ (fun j hj => ?_) hC'⟩
    have e : j ≠ i := fun e => by subst e; rw [h2] at hj; cases hj
    rw [getD_set_ne false (Ne.symm e)]
end
end Go.Proofs.YtdmnhpgafbcehaaDoor
