/-
  Contract of sha.step over this translation.
  Contract of sha.step over this translation.
  Contract of sha.spread over this translation.
  Contracts of sha.pass and sha.passes over this translation.
  Contract of sha.passes over this translation.
  Contract of sha.digest over this translation.
  Contract of sha.finish over this translation.
  The struct sha.Prefix as a value and in memory; contracts of sha.start, More over this translation.
  A region that draws its order and makes two new variables ('x, y := f(), g()'): their addresses hang on the order; all else does not.
  A region that draws its order and makes one new variable ('x := f(y)', the call no lone one): its address hangs on the order; all else does not.
  Contracts of (sha.Prefix).Sum, sha.Sum, sha.Ahead over this translation.
  Contracts of the Go library's functions over this translation, laid by the kit's own tool.
  What the document's own words of SHA-256 reckon, against the plain numbers of ShaM: rotations by sums, bits one by one, the roots of the primes.
-/
import Derived.Test.YtdmnhpgafbcehaaDoorMrg1
import Derived.StillTailTactics
import Derived.Outline
import Derived.Deep.Cut
import Derived.Lib.LaidTab
import Derived.Lib.ItoaNum
import Derived.Laws.CopyOwn
import Derived.Deep.WholeRow
import Derived.Shelf.Bits.Mul64
import Derived.Test.YtdmnhpgafbcehaaDoorProg
set_option linter.unusedVariables false
set_option linter.unusedSimpArgs false
set_option maxRecDepth 100000
namespace Go.Proofs.YtdmnhpgafbcehaaDoor
open Go.ChangeShapes Go.WideShapes Go.ChangeAt Go.RowKit
attribute [local go_sem] Gives
/-- Where a letter stands ahead of step n. -/
def idx (l n : Nat) : Nat := (l + 64 - n) % 8
theorem idx_lt (l n : Nat) : idx l n < 8 := Nat.mod_lt _ (by omega)
theorem idx_lti (l n : Nat) : ((idx l n : Nat) : Int) < 8 := by have := idx_lt l n; omega
theorem at_mask : ∀ n : Nat, n < 64 → ∀ l : Nat, l < 8 → bits .and .i64 ((l : Int) - (n : Int)) 7 = ((idx l n : Nat) : Int) := by decide +kernel
theorem at_any (l n g : Nat) (hl : l < 8) (hn : n < 64) (w : World) (hc : w.cell? ⟨g, 0, none⟩ = some (.int .i64 n)) :
    Calls Tryd.prog 91 #[.int .i64 l, .pointer (some ⟨g, 0, none⟩)] w fun e w' => e = .returned (.int .i64 (idx l n : Nat)) ∧ w = w' := by
  have H := at_mask n hn l hl
  go_enter Tryd.func91, Tryd.ntmps91
  go_wp2
  go_ret
  exact ⟨rfl, rfl⟩
/-- Eight numbers, the letters n places down. -/
def letters (s : ShaM.S8) (n : Nat) : Array Value := row 8 fun j => .int .u32 (s.get ((j + n) % 8) : Nat)
theorem letters_at (s : ShaM.S8) {l n : Nat} (hl : l < 8) (hn : n ≤ 64) : (letters s n)[idx l n]? = some (.int .u32 (s.get l : Nat)) := by
  unfold letters
  rw [get_row_lt (idx_lt l n)]
  unfold idx
  rw [show ((l + 64 - n) % 8 + n) % 8 = l by omega]
theorem letters_set (s : ShaM.S8) {n u v : Nat} (hn : n < 64) :
    ((letters s n).setIfInBounds (idx 3 n) (.int .u32 (v : Nat))).setIfInBounds (idx 7 n) (.int .u32 (u : Nat)) = letters ⟨u, s.a, s.b, s.c, v, s.e, s.f, s.g⟩ (n + 1) := by
  unfold letters
  rw [row_set, row_set]
  refine row_ext fun j hj => ?_
  have e : ∀ l, l < 8 → (j = idx l n ↔ (j + n) % 8 = l) := fun l hl => by unfold idx; omega
  simp only [e 7 (by omega), e 3 (by omega)]
  have hl : (j + n) % 8 < 8 := Nat.mod_lt _ (by omega)
  have e1 : (j + (n + 1)) % 8 = ((j + n) % 8 + 1) % 8 := by omega
  rw [e1]
  generalize (j + n) % 8 = l at *
  match l, hl with
  | 0, _ | 1, _ | 2, _ | 3, _ | 4, _ | 5, _ | 6, _ | 7, _ => rfl
theorem letters_step (s : ShaM.S8) {n x : Nat} (hn : n < 64) :
    ((letters s n).setIfInBounds (idx 3 n) (.int .u32 (ShaM.add s.d (ShaM.pOf s x) : Nat))).setIfInBounds (idx 7 n) (.int .u32 (ShaM.add (ShaM.pOf s x) (ShaM.qOf s) : Nat)) = letters (ShaM.step s x) (n + 1) := letters_set s hn
theorem u32_wrap_nat (a b : Nat) : IntKind.u32.wrap ((a : Int) + (b : Int)) = ((ShaM.add a b : Nat) : Int) := by
  rw [IntKind.wrap_u32']
  unfold ShaM.add
  omega
theorem not_nat (a : Nat) (ha : a < 4294967296) : bits .xor .u32 4294967295 (a : Int) = ((ShaM.not32 a : Nat) : Int) := by
  rw [show (4294967295 : Int) = ((4294967295 : Nat) : Int) from rfl, u32_xor_nat _ _ (by omega) ha]
  unfold ShaM.not32
  have h : (4294967295 ^^^ a) = 4294967295 - a := by
    have := congrArg BitVec.toNat (BitVec.allOnes_xor (x := BitVec.ofNat 32 a))
    rw [BitVec.toNat_xor, BitVec.toNat_allOnes, BitVec.toNat_not, BitVec.toNat_ofNat, Nat.mod_eq_of_lt (by omega)] at this
    exact this
  rw [h]
theorem q_nat (s : ShaM.S8) (hs : s.ok) : (bits .xor .u32 (bits .xor .u32 ((ShaM.rr (s.get 0) 2 : Nat) : Int) ((ShaM.rr (s.get 0) 13 : Nat) : Int)) ((ShaM.rr (s.get 0) 22 : Nat) : Int) +
    bits .xor .u32 (bits .xor .u32 (bits .and .u32 ((s.get 0 : Nat) : Int) ((s.get 1 : Nat) : Int)) (bits .and .u32 ((s.get 0 : Nat) : Int) ((s.get 2 : Nat) : Int))) (bits .and .u32 ((s.get 1 : Nat) : Int) ((s.get 2 : Nat) : Int))) % 4294967296 = ((ShaM.qOf s : Nat) : Int) := by
  have h0 := ShaM.S8.get_lt hs 0
  have h1 := ShaM.S8.get_lt hs 1
  have h2 := ShaM.S8.get_lt hs 2
  have ha : ∀ a b : Nat, a < 4294967296 → (a &&& b) < 4294967296 := fun a b h => Nat.lt_of_le_of_lt Nat.and_le_left h
  have hr := fun n => ShaM.rr_lt h0 n
  rw [u32_and_nat _ _ h0 h1, u32_and_nat _ _ h0 h2, u32_and_nat _ _ h1 h2, u32_xor_nat _ _ (ha _ _ h0) (ha _ _ h0), u32_xor_nat _ _ (Nat.xor_lt_two_pow (n := 32) (ha _ _ h0) (ha _ _ h0)) (ha _ _ h1),
    u32_xor_nat _ _ (hr 2) (hr 13), u32_xor_nat _ _ (Nat.xor_lt_two_pow (n := 32) (hr 2) (hr 13)) (hr 22), ← IntKind.wrap_u32', u32_wrap_nat]
  rfl
theorem p_nat (s : ShaM.S8) (hs : s.ok) (x : Nat) : IntKind.u32.wrap (IntKind.u32.wrap (IntKind.u32.wrap (((s.get 7 : Nat) : Int) +
    bits .xor .u32 (bits .xor .u32 ((ShaM.rr (s.get 4) 6 : Nat) : Int) ((ShaM.rr (s.get 4) 11 : Nat) : Int)) ((ShaM.rr (s.get 4) 25 : Nat) : Int)) +
    bits .xor .u32 (bits .and .u32 ((s.get 4 : Nat) : Int) ((s.get 5 : Nat) : Int)) (bits .and .u32 (bits .xor .u32 (if IntKind.u32.signed = true then -1 else IntKind.u32.max) ((s.get 4 : Nat) : Int)) ((s.get 6 : Nat) : Int))) + (x : Int)) = ((ShaM.pOf s x : Nat) : Int) := by
  have h4 := ShaM.S8.get_lt hs 4
  have h5 := ShaM.S8.get_lt hs 5
  have h6 := ShaM.S8.get_lt hs 6
  have hn : ShaM.not32 (s.get 4) < 4294967296 := by unfold ShaM.not32; omega
  have ha : ∀ a b : Nat, a < 4294967296 → (a &&& b) < 4294967296 := fun a b h => Nat.lt_of_le_of_lt Nat.and_le_left h
  have hr := fun n => ShaM.rr_lt h4 n
  rw [show (if IntKind.u32.signed = true then (-1 : Int) else IntKind.u32.max) = 4294967295 from rfl, not_nat _ h4, u32_and_nat _ _ h4 h5, u32_and_nat _ _ hn h6, u32_xor_nat _ _ (ha _ _ h4) (ha _ _ hn),
    u32_xor_nat _ _ (hr 6) (hr 11), u32_xor_nat _ _ (Nat.xor_lt_two_pow (n := 32) (hr 6) (hr 11)) (hr 25), u32_wrap_nat, u32_wrap_nat, u32_wrap_nat]
  rfl
end Go.Proofs.YtdmnhpgafbcehaaDoor
set_option maxRecDepth 100000
namespace Go.Proofs.YtdmnhpgafbcehaaDoor
open Go.ChangeShapes Go.WideShapes Go.ChangeAt Go.RowKit
attribute [local go_sem] Gives
set_option maxHeartbeats 4000000 in
set_option maxRecDepth 100000 in
theorem step_any (s : ShaM.S8) (hs : s.ok) (g t n x : Nat) (hn : n < 64) (_hx : x < 4294967296) (w : World) (hb : Blk w g t (letters s n)) :
    Calls Tryd.prog 89 #[.pointer (some ⟨g, 0, none⟩), .int .i64 n, .int .u32 x] w fun e w' => e = .returned (.tuple #[]) ∧ Blk w' g t (letters (ShaM.step s x) (n + 1)) ∧ w.grownBy w' (some g) := by
  have hsz := hb.lt
  go_enter Tryd.func89, Tryd.ntmps89
  go_wp2_with fail
  generalize hw3 : World.alloc w _ = w3
  have b0 : Blk w3 g t (letters s n) := by rw [← hw3]; exact hb.alloc _
  have c0 : w3.cell? ⟨w.heap.size, 0, none⟩ = some (.int .i64 n) := by rw [← hw3]; exact (Blk.new w _ _).cell 0
  have bel : Below w.heap.size w w3 := by rw [← hw3]; exact (Below.refl _ _).alloc (Nat.le_refl _) _
  clear hw3
  have cl : ∀ l, l < 8 → w3.cell? ⟨g, idx l n, none⟩ = some (.int .u32 (s.get l : Nat)) := fun l hl => (b0.cell _).trans (letters_at s hl (by omega))
  have CL := hid cl
  have C0 := hid c0
  clear cl c0
  have B0 := hid b0
  have BEL := hid bel
  have HS := hid hs
  clear b0 bel hs
  refine wp_region_tail (C := Drew w3) 21 (by kernel_rfl) (by kernel_rfl) (by kernel_rfl) (Drew.refl _) ?_
  simp only [List.take_succ_cons, List.take_zero, List.drop_succ_cons, List.drop_zero]
  apply wpK_val
  · rfl
  · intro w' hw'
    go_simp
    first | exact rfl | exact ⟨rfl, hw'⟩
  simp only [Act.put, List.setIfInBounds_toArray, List.set_cons_succ, List.set_cons_zero]
  apply wpK_val
  · rfl
  · intro w' hw'
    go_simp
    first | exact rfl | exact ⟨rfl, hw'⟩
  simp only [Act.put, List.setIfInBounds_toArray, List.set_cons_succ, List.set_cons_zero]
  apply wpK_val
  · rfl
  · intro w' hw'
    go_simp
    exact (at_any 0 n _ (by omega) hn _ (hw'.cell C0.out)).mono fun e w'' ⟨he, hb'⟩ => ⟨he, by subst hb'; exact hw'⟩
  simp only [Act.put, List.setIfInBounds_toArray, List.set_cons_succ, List.set_cons_zero]
  apply wpK_val
  · rfl
  · intro w' hw'
    go_simp
    first | exact rfl | exact ⟨rfl, hw'⟩
  simp only [Act.put, List.setIfInBounds_toArray, List.set_cons_succ, List.set_cons_zero]
  apply wpK_val
  · rfl
  · intro w' hw'
    have i : ((idx 0 n : Nat) : Int) < 8 := idx_lti 0 n
    go_simp
    first | exact rfl | exact ⟨rfl, hw'⟩
  simp only [Act.put, List.setIfInBounds_toArray, List.set_cons_succ, List.set_cons_zero]
  apply wpK_val
  · rfl
  · intro w' hw'
    have hcell := hw'.cell (CL.out 0 (by omega))
    go_simp
    first | exact rfl | exact ⟨rfl, hw'⟩
  simp only [Act.put, List.setIfInBounds_toArray, List.set_cons_succ, List.set_cons_zero]
  apply wpK_val
  · rfl
  · intro w' hw'
    go_simp
    first | exact rfl | exact ⟨rfl, hw'⟩
  simp only [Act.put, List.setIfInBounds_toArray, List.set_cons_succ, List.set_cons_zero]
  apply wpK_val
  · rfl
  · intro w' hw'
    go_simp
    first | exact rfl | exact ⟨rfl, hw'⟩
  simp only [Act.put, List.setIfInBounds_toArray, List.set_cons_succ, List.set_cons_zero]
  apply wpK_val
  · rfl
  · intro w' hw'
    go_simp
    exact (at_any 1 n _ (by omega) hn _ (hw'.cell C0.out)).mono fun e w'' ⟨he, hb'⟩ => ⟨he, by subst hb'; exact hw'⟩
  simp only [Act.put, List.setIfInBounds_toArray, List.set_cons_succ, List.set_cons_zero]
  apply wpK_val
  · rfl
  · intro w' hw'
    go_simp
    first | exact rfl | exact ⟨rfl, hw'⟩
  simp only [Act.put, List.setIfInBounds_toArray, List.set_cons_succ, List.set_cons_zero]
  apply wpK_val
  · rfl
  · intro w' hw'
    have i : ((idx 1 n : Nat) : Int) < 8 := idx_lti 1 n
    go_simp
    first | exact rfl | exact ⟨rfl, hw'⟩
  simp only [Act.put, List.setIfInBounds_toArray, List.set_cons_succ, List.set_cons_zero]
  apply wpK_val
  · rfl
  · intro w' hw'
    have hcell := hw'.cell (CL.out 1 (by omega))
    go_simp
    first | exact rfl | exact ⟨rfl, hw'⟩
  simp only [Act.put, List.setIfInBounds_toArray, List.set_cons_succ, List.set_cons_zero]
  apply wpK_val
  · rfl
  · intro w' hw'
    go_simp
    first | exact rfl | exact ⟨rfl, hw'⟩
  simp only [Act.put, List.setIfInBounds_toArray, List.set_cons_succ, List.set_cons_zero]
  apply wpK_val
  · rfl
  · intro w' hw'
    go_simp
    first | exact rfl | exact ⟨rfl, hw'⟩
  simp only [Act.put, List.setIfInBounds_toArray, List.set_cons_succ, List.set_cons_zero]
  apply wpK_val
  · rfl
  · intro w' hw'
    go_simp
    exact (at_any 2 n _ (by omega) hn _ (hw'.cell C0.out)).mono fun e w'' ⟨he, hb'⟩ => ⟨he, by subst hb'; exact hw'⟩
  simp only [Act.put, List.setIfInBounds_toArray, List.set_cons_succ, List.set_cons_zero]
  apply wpK_val
  · rfl
  · intro w' hw'
    go_simp
    first | exact rfl | exact ⟨rfl, hw'⟩
  simp only [Act.put, List.setIfInBounds_toArray, List.set_cons_succ, List.set_cons_zero]
  apply wpK_val
  · rfl
  · intro w' hw'
    have i : ((idx 2 n : Nat) : Int) < 8 := idx_lti 2 n
    go_simp
    first | exact rfl | exact ⟨rfl, hw'⟩
  simp only [Act.put, List.setIfInBounds_toArray, List.set_cons_succ, List.set_cons_zero]
  apply wpK_val
  · rfl
  · intro w' hw'
    have hcell := hw'.cell (CL.out 2 (by omega))
    go_simp
    first | exact rfl | exact ⟨rfl, hw'⟩
  simp only [Act.put, List.setIfInBounds_toArray, List.set_cons_succ, List.set_cons_zero]
  apply wpK_val
  · rfl
  · intro w' hw'
    go_simp
    first | exact rfl | exact ⟨rfl, hw'⟩
  simp only [Act.put, List.setIfInBounds_toArray, List.set_cons_succ, List.set_cons_zero]
  apply wpK_val
  · rfl
  · intro w' hw'
    go_simp
    first | exact rfl | exact ⟨rfl, hw'⟩
  simp only [Act.put, List.setIfInBounds_toArray, List.set_cons_succ, List.set_cons_zero]
  apply wpK_val
  · rfl
  · intro w' hw'
    go_simp
    first | exact rfl | exact ⟨rfl, hw'⟩
  simp only [Act.put, List.setIfInBounds_toArray, List.set_cons_succ, List.set_cons_zero]
  refine wpK_nil fun w4 hw4 => ?_
  have b0 := hw4.blk B0.out
  have bel := hw4.below BEL.out
  have c0 := hw4.cell C0.out
  have cl : ∀ l, l < 8 → w4.cell? ⟨g, idx l n, none⟩ = some (.int .u32 (s.get l : Nat)) := fun l hl => (b0.cell _).trans (letters_at s hl (by omega))
  clear hw4 B0 BEL C0 CL w3
  have B0 := hid b0
  have BEL := hid bel
  have CL := hid cl
  have C0 := hid c0
  clear cl c0 b0 bel
  go_wp2_with fail
  refine wp_region_tail (C := Drew w4) 21 (by kernel_rfl) (by kernel_rfl) (by kernel_rfl) (Drew.refl _) ?_
  simp only [List.take_succ_cons, List.take_zero, List.drop_succ_cons, List.drop_zero]
  apply wpK_val
  · rfl
  · intro w' hw'
    go_simp
    first | exact rfl | exact ⟨rfl, hw'⟩
  simp only [Act.put, List.setIfInBounds_toArray, List.set_cons_succ, List.set_cons_zero]
  apply wpK_val
  · rfl
  · intro w' hw'
    go_simp
    first | exact rfl | exact ⟨rfl, hw'⟩
  simp only [Act.put, List.setIfInBounds_toArray, List.set_cons_succ, List.set_cons_zero]
  apply wpK_val
  · rfl
  · intro w' hw'
    go_simp
    exact (at_any 4 n _ (by omega) hn _ (hw'.cell C0.out)).mono fun e w'' ⟨he, hb'⟩ => ⟨he, by subst hb'; exact hw'⟩
  simp only [Act.put, List.setIfInBounds_toArray, List.set_cons_succ, List.set_cons_zero]
  apply wpK_val
  · rfl
  · intro w' hw'
    go_simp
    first | exact rfl | exact ⟨rfl, hw'⟩
  simp only [Act.put, List.setIfInBounds_toArray, List.set_cons_succ, List.set_cons_zero]
  apply wpK_val
  · rfl
  · intro w' hw'
    have i : ((idx 4 n : Nat) : Int) < 8 := idx_lti 4 n
    go_simp
    first | exact rfl | exact ⟨rfl, hw'⟩
  simp only [Act.put, List.setIfInBounds_toArray, List.set_cons_succ, List.set_cons_zero]
  apply wpK_val
  · rfl
  · intro w' hw'
    have hcell := hw'.cell (CL.out 4 (by omega))
    go_simp
    first | exact rfl | exact ⟨rfl, hw'⟩
  simp only [Act.put, List.setIfInBounds_toArray, List.set_cons_succ, List.set_cons_zero]
  apply wpK_val
  · rfl
  · intro w' hw'
    go_simp
    first | exact rfl | exact ⟨rfl, hw'⟩
  simp only [Act.put, List.setIfInBounds_toArray, List.set_cons_succ, List.set_cons_zero]
  apply wpK_val
  · rfl
  · intro w' hw'
    go_simp
    first | exact rfl | exact ⟨rfl, hw'⟩
  simp only [Act.put, List.setIfInBounds_toArray, List.set_cons_succ, List.set_cons_zero]
  apply wpK_val
  · rfl
  · intro w' hw'
    go_simp
    exact (at_any 5 n _ (by omega) hn _ (hw'.cell C0.out)).mono fun e w'' ⟨he, hb'⟩ => ⟨he, by subst hb'; exact hw'⟩
  simp only [Act.put, List.setIfInBounds_toArray, List.set_cons_succ, List.set_cons_zero]
  apply wpK_val
  · rfl
  · intro w' hw'
    go_simp
    first | exact rfl | exact ⟨rfl, hw'⟩
  simp only [Act.put, List.setIfInBounds_toArray, List.set_cons_succ, List.set_cons_zero]
  apply wpK_val
  · rfl
  · intro w' hw'
    have i : ((idx 5 n : Nat) : Int) < 8 := idx_lti 5 n
    go_simp
    first | exact rfl | exact ⟨rfl, hw'⟩
  simp only [Act.put, List.setIfInBounds_toArray, List.set_cons_succ, List.set_cons_zero]
  apply wpK_val
  · rfl
  · intro w' hw'
    have hcell := hw'.cell (CL.out 5 (by omega))
    go_simp
    first | exact rfl | exact ⟨rfl, hw'⟩
  simp only [Act.put, List.setIfInBounds_toArray, List.set_cons_succ, List.set_cons_zero]
  apply wpK_val
  · rfl
  · intro w' hw'
    go_simp
    first | exact rfl | exact ⟨rfl, hw'⟩
  simp only [Act.put, List.setIfInBounds_toArray, List.set_cons_succ, List.set_cons_zero]
  apply wpK_val
  · rfl
  · intro w' hw'
    go_simp
    first | exact rfl | exact ⟨rfl, hw'⟩
  simp only [Act.put, List.setIfInBounds_toArray, List.set_cons_succ, List.set_cons_zero]
  apply wpK_val
  · rfl
  · intro w' hw'
    go_simp
    exact (at_any 6 n _ (by omega) hn _ (hw'.cell C0.out)).mono fun e w'' ⟨he, hb'⟩ => ⟨he, by subst hb'; exact hw'⟩
  simp only [Act.put, List.setIfInBounds_toArray, List.set_cons_succ, List.set_cons_zero]
  apply wpK_val
  · rfl
  · intro w' hw'
    go_simp
    first | exact rfl | exact ⟨rfl, hw'⟩
  simp only [Act.put, List.setIfInBounds_toArray, List.set_cons_succ, List.set_cons_zero]
  apply wpK_val
  · rfl
  · intro w' hw'
    have i : ((idx 6 n : Nat) : Int) < 8 := idx_lti 6 n
    go_simp
    first | exact rfl | exact ⟨rfl, hw'⟩
  simp only [Act.put, List.setIfInBounds_toArray, List.set_cons_succ, List.set_cons_zero]
  apply wpK_val
  · rfl
  · intro w' hw'
    have hcell := hw'.cell (CL.out 6 (by omega))
    go_simp
    first | exact rfl | exact ⟨rfl, hw'⟩
  simp only [Act.put, List.setIfInBounds_toArray, List.set_cons_succ, List.set_cons_zero]
  apply wpK_val
  · rfl
  · intro w' hw'
    go_simp
    first | exact rfl | exact ⟨rfl, hw'⟩
  simp only [Act.put, List.setIfInBounds_toArray, List.set_cons_succ, List.set_cons_zero]
  apply wpK_val
  · rfl
  · intro w' hw'
    go_simp
    first | exact rfl | exact ⟨rfl, hw'⟩
  simp only [Act.put, List.setIfInBounds_toArray, List.set_cons_succ, List.set_cons_zero]
  apply wpK_val
  · rfl
  · intro w' hw'
    go_simp
    first | exact rfl | exact ⟨rfl, hw'⟩
  simp only [Act.put, List.setIfInBounds_toArray, List.set_cons_succ, List.set_cons_zero]
  refine wpK_nil fun w3 hw3 => ?_
  have b0 := hw3.blk B0.out
  have bel := hw3.below BEL.out
  have c0 := hw3.cell C0.out
  have cl : ∀ l, l < 8 → w3.cell? ⟨g, idx l n, none⟩ = some (.int .u32 (s.get l : Nat)) := fun l hl => (b0.cell _).trans (letters_at s hl (by omega))
  clear hw3 B0 BEL C0 CL w4
  have B0 := hid b0
  have BEL := hid bel
  have CL := hid cl
  have C0 := hid c0
  clear cl c0 b0 bel
  go_wp2_with fail
  refine wp_region_tail (C := Drew w3) 27 (by kernel_rfl) (by kernel_rfl) (by kernel_rfl) (Drew.refl _) ?_
  simp only [List.take_succ_cons, List.take_zero, List.drop_succ_cons, List.drop_zero]
  apply wpK_val
  · rfl
  · intro w' hw'
    go_simp
    first | exact rfl | exact ⟨rfl, hw'⟩
  simp only [Act.put, List.setIfInBounds_toArray, List.set_cons_succ, List.set_cons_zero]
  apply wpK_val
  · rfl
  · intro w' hw'
    go_simp
    first | exact rfl | exact ⟨rfl, hw'⟩
  simp only [Act.put, List.setIfInBounds_toArray, List.set_cons_succ, List.set_cons_zero]
  apply wpK_val
  · rfl
  · intro w' hw'
    go_simp
    exact (at_any 7 n _ (by omega) hn _ (hw'.cell C0.out)).mono fun e w'' ⟨he, hb'⟩ => ⟨he, by subst hb'; exact hw'⟩
  simp only [Act.put, List.setIfInBounds_toArray, List.set_cons_succ, List.set_cons_zero]
  apply wpK_val
  · rfl
  · intro w' hw'
    go_simp
    first | exact rfl | exact ⟨rfl, hw'⟩
  simp only [Act.put, List.setIfInBounds_toArray, List.set_cons_succ, List.set_cons_zero]
  apply wpK_val
  · rfl
  · intro w' hw'
    have i : ((idx 7 n : Nat) : Int) < 8 := idx_lti 7 n
    go_simp
    first | exact rfl | exact ⟨rfl, hw'⟩
  simp only [Act.put, List.setIfInBounds_toArray, List.set_cons_succ, List.set_cons_zero]
  apply wpK_val
  · rfl
  · intro w' hw'
    have hcell := hw'.cell (CL.out 7 (by omega))
    go_simp
    first | exact rfl | exact ⟨rfl, hw'⟩
  simp only [Act.put, List.setIfInBounds_toArray, List.set_cons_succ, List.set_cons_zero]
  apply wpK_val
  · rfl
  · intro w' hw'
    go_simp
    first | exact rfl | exact ⟨rfl, hw'⟩
  simp only [Act.put, List.setIfInBounds_toArray, List.set_cons_succ, List.set_cons_zero]
  apply wpK_val
  · rfl
  · intro w' hw'
    go_simp
    exact (rot_any _ 6 (ShaM.S8.get_lt HS.out 4) (by omega) (by omega) _).mono fun e w'' ⟨he, hb'⟩ => ⟨he, by subst hb'; exact hw'⟩
  simp only [Act.put, List.setIfInBounds_toArray, List.set_cons_succ, List.set_cons_zero]
  apply wpK_val
  · rfl
  · intro w' hw'
    go_simp
    first | exact rfl | exact ⟨rfl, hw'⟩
  simp only [Act.put, List.setIfInBounds_toArray, List.set_cons_succ, List.set_cons_zero]
  apply wpK_val
  · rfl
  · intro w' hw'
    go_simp
    exact (rot_any _ 11 (ShaM.S8.get_lt HS.out 4) (by omega) (by omega) _).mono fun e w'' ⟨he, hb'⟩ => ⟨he, by subst hb'; exact hw'⟩
  simp only [Act.put, List.setIfInBounds_toArray, List.set_cons_succ, List.set_cons_zero]
  apply wpK_val
  · rfl
  · intro w' hw'
    go_simp
    first | exact rfl | exact ⟨rfl, hw'⟩
  simp only [Act.put, List.setIfInBounds_toArray, List.set_cons_succ, List.set_cons_zero]
  apply wpK_val
  · rfl
  · intro w' hw'
    go_simp
    first | exact rfl | exact ⟨rfl, hw'⟩
  simp only [Act.put, List.setIfInBounds_toArray, List.set_cons_succ, List.set_cons_zero]
  apply wpK_val
  · rfl
  · intro w' hw'
    go_simp
    exact (rot_any _ 25 (ShaM.S8.get_lt HS.out 4) (by omega) (by omega) _).mono fun e w'' ⟨he, hb'⟩ => ⟨he, by subst hb'; exact hw'⟩
  simp only [Act.put, List.setIfInBounds_toArray, List.set_cons_succ, List.set_cons_zero]
  apply wpK_val
  · rfl
  · intro w' hw'
    go_simp
    first | exact rfl | exact ⟨rfl, hw'⟩
  simp only [Act.put, List.setIfInBounds_toArray, List.set_cons_succ, List.set_cons_zero]
  apply wpK_val
  · rfl
  · intro w' hw'
    go_simp
    first | exact rfl | exact ⟨rfl, hw'⟩
  simp only [Act.put, List.setIfInBounds_toArray, List.set_cons_succ, List.set_cons_zero]
  apply wpK_val
  · rfl
  · intro w' hw'
    go_simp
    first | exact rfl | exact ⟨rfl, hw'⟩
  simp only [Act.put, List.setIfInBounds_toArray, List.set_cons_succ, List.set_cons_zero]
  apply wpK_val
  · rfl
  · intro w' hw'
    go_simp
    first | exact rfl | exact ⟨rfl, hw'⟩
  simp only [Act.put, List.setIfInBounds_toArray, List.set_cons_succ, List.set_cons_zero]
  apply wpK_val
  · rfl
  · intro w' hw'
    go_simp
    first | exact rfl | exact ⟨rfl, hw'⟩
  simp only [Act.put, List.setIfInBounds_toArray, List.set_cons_succ, List.set_cons_zero]
  apply wpK_val
  · rfl
  · intro w' hw'
    go_simp
    first | exact rfl | exact ⟨rfl, hw'⟩
  simp only [Act.put, List.setIfInBounds_toArray, List.set_cons_succ, List.set_cons_zero]
  apply wpK_val
  · rfl
  · intro w' hw'
    go_simp
    first | exact rfl | exact ⟨rfl, hw'⟩
  simp only [Act.put, List.setIfInBounds_toArray, List.set_cons_succ, List.set_cons_zero]
  apply wpK_val
  · rfl
  · intro w' hw'
    go_simp
    first | exact rfl | exact ⟨rfl, hw'⟩
  simp only [Act.put, List.setIfInBounds_toArray, List.set_cons_succ, List.set_cons_zero]
  apply wpK_val
  · rfl
  · intro w' hw'
    go_simp
    first | exact rfl | exact ⟨rfl, hw'⟩
  simp only [Act.put, List.setIfInBounds_toArray, List.set_cons_succ, List.set_cons_zero]
  apply wpK_val
  · rfl
  · intro w' hw'
    go_simp
    first | exact rfl | exact ⟨rfl, hw'⟩
  simp only [Act.put, List.setIfInBounds_toArray, List.set_cons_succ, List.set_cons_zero]
  apply wpK_val
  · rfl
  · intro w' hw'
    go_simp
    first | exact rfl | exact ⟨rfl, hw'⟩
  simp only [Act.put, List.setIfInBounds_toArray, List.set_cons_succ, List.set_cons_zero]
  apply wpK_val
  · rfl
  · intro w' hw'
    go_simp
    first | exact rfl | exact ⟨rfl, hw'⟩
  simp only [Act.put, List.setIfInBounds_toArray, List.set_cons_succ, List.set_cons_zero]
  apply wpK_val
  · rfl
  · intro w' hw'
    have hp : _ := p_nat s HS.out x
    go_simp
    first | exact rfl | exact ⟨rfl, hw'⟩
  simp only [Act.put, List.setIfInBounds_toArray, List.set_cons_succ, List.set_cons_zero]
  apply wpK_val
  · rfl
  · intro w' hw'
    go_simp
    first | exact rfl | exact ⟨rfl, hw'⟩
  simp only [Act.put, List.setIfInBounds_toArray, List.set_cons_succ, List.set_cons_zero]
  refine wpK_nil fun w4 hw4 => ?_
  have b0 := hw4.blk B0.out
  have bel := hw4.below BEL.out
  have c0 := hw4.cell C0.out
  clear hw4 B0 BEL C0 CL w3
  have B0 := hid b0
  have BEL := hid bel
  have C0 := hid c0
  clear c0 b0 bel
  generalize hP : ShaM.pOf s x = p
  have HP := hid hP
  clear hP
  go_wp2_with fail
  refine (rot_any _ 2 (ShaM.S8.get_lt HS.out 0) (by omega) (by omega) _).mono ?_
  rintro e w' ⟨rfl, rfl⟩
  go_wp2_with fail
  refine (rot_any _ 13 (ShaM.S8.get_lt HS.out 0) (by omega) (by omega) _).mono ?_
  rintro e w' ⟨rfl, rfl⟩
  go_wp2_with fail
  refine (rot_any _ 22 (ShaM.S8.get_lt HS.out 0) (by omega) (by omega) _).mono ?_
  rintro e w' ⟨rfl, rfl⟩
  go_wp2_with fail
  rw [q_nat s HS.out]
  generalize hQ : ShaM.qOf s = q
  have HQ := hid hQ
  clear hQ
  have i3 : ((idx 3 n : Nat) : Int) < 8 := idx_lti 3 n
  have i7 : ((idx 7 n : Nat) : Int) < 8 := idx_lti 7 n
  have n3 := idx_lt 3 n
  have n7 := idx_lt 7 n
  refine wp_region_tail (C := Drew w4) 10 (by kernel_rfl) (by kernel_rfl) (by kernel_rfl) (Drew.refl _) ?_
  simp only [List.take_succ_cons, List.take_zero, List.drop_succ_cons, List.drop_zero]
  apply wpK_val
  · rfl
  · intro w' hw'
    go_simp
    first | exact rfl | exact ⟨rfl, hw'⟩
  simp only [Act.put, List.setIfInBounds_toArray, List.set_cons_succ, List.set_cons_zero]
  apply wpK_val
  · rfl
  · intro w' hw'
    go_simp
    first | exact rfl | exact ⟨rfl, hw'⟩
  simp only [Act.put, List.setIfInBounds_toArray, List.set_cons_succ, List.set_cons_zero]
  apply wpK_val
  · rfl
  · intro w' hw'
    go_simp
    exact (at_any 3 n _ (by omega) hn _ (hw'.cell C0.out)).mono fun e w'' ⟨he, hb'⟩ => ⟨he, by subst hb'; exact hw'⟩
  simp only [Act.put, List.setIfInBounds_toArray, List.set_cons_succ, List.set_cons_zero]
  apply wpK_val
  · rfl
  · intro w' hw'
    go_simp
    first | exact rfl | exact ⟨rfl, hw'⟩
  simp only [Act.put, List.setIfInBounds_toArray, List.set_cons_succ, List.set_cons_zero]
  apply wpK_val
  · rfl
  · intro w' hw'
    go_simp
    first | exact rfl | exact ⟨rfl, hw'⟩
  simp only [Act.put, List.setIfInBounds_toArray, List.set_cons_succ, List.set_cons_zero]
  apply wpK_val
  · rfl
  · intro w' hw'
    have hcell := hw'.cell ((B0.out.cell _).trans (letters_at s (l := 3) (by omega) (by omega)))
    go_simp
    first | exact rfl | exact ⟨rfl, hw'⟩
  simp only [Act.put, List.setIfInBounds_toArray, List.set_cons_succ, List.set_cons_zero]
  apply wpK_val
  · rfl
  · intro w' hw'
    go_simp
    first | exact rfl | exact ⟨rfl, hw'⟩
  simp only [Act.put, List.setIfInBounds_toArray, List.set_cons_succ, List.set_cons_zero]
  apply wpK_val
  · rfl
  · intro w' hw'
    have ha : _ := u32_wrap_nat (s.get 3) p
    go_simp
    first | exact rfl | exact ⟨rfl, hw'⟩
  simp only [Act.put, List.setIfInBounds_toArray, List.set_cons_succ, List.set_cons_zero]
  apply wpK_val
  · rfl
  · intro w' hw'
    go_simp
    first | exact rfl | exact ⟨rfl, hw'⟩
  simp only [Act.put, List.setIfInBounds_toArray, List.set_cons_succ, List.set_cons_zero]
  apply wpK_val
  · rfl
  · intro w' hw'
    go_simp
    first | exact rfl | exact ⟨rfl, hw'⟩
  simp only [Act.put, List.setIfInBounds_toArray, List.set_cons_succ, List.set_cons_zero]
  refine wpK_nil fun w3 hw3 => ?_
  have b0 := hw3.blk B0.out
  have bel := hw3.below BEL.out
  have c0 := hw3.cell C0.out
  clear hw3 B0 BEL C0 w4
  have c1 := (b0.cell _).trans (letters_at s (l := 3) (by omega) (Nat.le_of_lt hn))
  have c3 := b0.frozen (idx 3 n)
  have B0 := hid b0
  have BEL := hid bel
  have C0 := hid c0
  clear b0 bel c0
  go_wp2_with fail
  have b1 := (B0.out.setCell_same (idx 3 n) (.int .u32 (ShaM.add (s.get 3) p : Nat)))
  have on := only_cell (only_of_below (g := g) BEL.out (Nat.le_refl _)) (idx 3 n) (.int .u32 (ShaM.add (s.get 3) p : Nat))
  have c0 : (w3.setCell ⟨g, idx 3 n, none⟩ (.int .u32 (ShaM.add (s.get 3) p : Nat))).cell? ⟨w.heap.size, 0, none⟩ = some (.int .i64 n) := by
    rw [← C0.out]; exact cell_other (by show w.heap.size ≠ g; omega)
  generalize w3.setCell ⟨g, idx 3 n, none⟩ (.int .u32 (ShaM.add (s.get 3) p : Nat)) = w4 at *
  clear B0 BEL C0 c1 c3
  have B0 := hid b1
  have C0 := hid c0
  have ON := hid on
  clear b1 c0 on w3
  refine wp_region_tail (C := Drew w4) 8 (by kernel_rfl) (by kernel_rfl) (by kernel_rfl) (Drew.refl _) ?_
  simp only [List.take_succ_cons, List.take_zero, List.drop_succ_cons, List.drop_zero]
  apply wpK_val
  · rfl
  · intro w' hw'
    go_simp
    first | exact rfl | exact ⟨rfl, hw'⟩
  simp only [Act.put, List.setIfInBounds_toArray, List.set_cons_succ, List.set_cons_zero]
  apply wpK_val
  · rfl
  · intro w' hw'
    go_simp
    first | exact rfl | exact ⟨rfl, hw'⟩
  simp only [Act.put, List.setIfInBounds_toArray, List.set_cons_succ, List.set_cons_zero]
  apply wpK_val
  · rfl
  · intro w' hw'
    go_simp
    exact (at_any 7 n _ (by omega) hn _ (hw'.cell C0.out)).mono fun e w'' ⟨he, hb'⟩ => ⟨he, by subst hb'; exact hw'⟩
  simp only [Act.put, List.setIfInBounds_toArray, List.set_cons_succ, List.set_cons_zero]
  apply wpK_val
  · rfl
  · intro w' hw'
    go_simp
    first | exact rfl | exact ⟨rfl, hw'⟩
  simp only [Act.put, List.setIfInBounds_toArray, List.set_cons_succ, List.set_cons_zero]
  apply wpK_val
  · rfl
  · intro w' hw'
    go_simp
    first | exact rfl | exact ⟨rfl, hw'⟩
  simp only [Act.put, List.setIfInBounds_toArray, List.set_cons_succ, List.set_cons_zero]
  apply wpK_val
  · rfl
  · intro w' hw'
    have ha : _ := u32_wrap_nat p q
    go_simp
    first | exact rfl | exact ⟨rfl, hw'⟩
  simp only [Act.put, List.setIfInBounds_toArray, List.set_cons_succ, List.set_cons_zero]
  apply wpK_val
  · rfl
  · intro w' hw'
    go_simp
    first | exact rfl | exact ⟨rfl, hw'⟩
  simp only [Act.put, List.setIfInBounds_toArray, List.set_cons_succ, List.set_cons_zero]
  apply wpK_val
  · rfl
  · intro w' hw'
    go_simp
    first | exact rfl | exact ⟨rfl, hw'⟩
  simp only [Act.put, List.setIfInBounds_toArray, List.set_cons_succ, List.set_cons_zero]
  refine wpK_nil fun w3 hw3 => ?_
  have b0 := hw3.blk B0.out
  have on := only_drew ON.out hw3
  clear hw3 B0 ON C0 w4
  have c1 : w3.cell? ⟨g, idx 7 n, none⟩ = some (.int .u32 (s.get 7 : Nat)) := by
    rw [b0.cell, Array.getElem?_setIfInBounds_ne (by unfold idx; omega)]
    exact letters_at s (l := 7) (by omega) (Nat.le_of_lt hn)
  have c3 := b0.frozen (idx 7 n)
  have B0 := hid b0
  have ON := hid on
  clear b0 on
  go_wp2_with fail
  refine bodyPost_end (v := .tuple #[]) (by simp [results, Tryd.results89]) rfl ⟨rfl, ?_, only_cell ON.out _ _⟩
  have h := B0.out.setCell_same (idx 7 n) (.int .u32 (ShaM.add p q : Nat))
  rw [← HP.out, ← HQ.out] at h
  rw [← HP.out, ← HQ.out, ← letters_step s hn]
  exact h
end Go.Proofs.YtdmnhpgafbcehaaDoor
set_option maxRecDepth 100000
namespace Go.Proofs.YtdmnhpgafbcehaaDoor
open Go.ChangeShapes Go.WideShapes Go.ChangeAt Go.RowKit
attribute [local go_sem] Gives
/-- 64 numbers. -/
def wds (f : Nat → Nat) : Array Value := row 64 fun k => .int .u32 (f k : Nat)
theorem size_wds {f : Nat → Nat} : (wds f).size = 64 := size_row
theorem get_wds {f : Nat → Nat} {k : Nat} (h : k < 64) : (wds f)[k]? = some (.int .u32 (f k : Nat)) := get_row_lt h
theorem wds_ext {f g : Nat → Nat} (h : ∀ k, k < 64 → f k = g k) : wds f = wds g := row_ext fun k hk => by rw [h k hk]
theorem wds_set {f : Nat → Nat} {k v : Nat} : (wds f).setIfInBounds k (.int .u32 (v : Nat)) = wds fun j => if j = k then v else f j := by
  unfold wds
  rw [row_set]
  exact row_ext fun j _ => by by_cases e : j = k <;> simp [e]
theorem wds_one {f : Nat → Nat} : (wds f).all (·.oneCell') = true := row_one fun _ _ => rfl
theorem zlit_wds : (#[.int .u32 0, .int .u32 0, .int .u32 0, .int .u32 0, .int .u32 0, .int .u32 0, .int .u32 0, .int .u32 0, .int .u32 0, .int .u32 0, .int .u32 0, .int .u32 0, .int .u32 0, .int .u32 0, .int .u32 0, .int .u32 0, .int .u32 0, .int .u32 0, .int .u32 0, .int .u32 0, .int .u32 0, .int .u32 0, .int .u32 0, .int .u32 0, .int .u32 0, .int .u32 0, .int .u32 0, .int .u32 0, .int .u32 0, .int .u32 0, .int .u32 0, .int .u32 0, .int .u32 0, .int .u32 0, .int .u32 0, .int .u32 0, .int .u32 0, .int .u32 0, .int .u32 0, .int .u32 0, .int .u32 0, .int .u32 0, .int .u32 0, .int .u32 0, .int .u32 0, .int .u32 0, .int .u32 0, .int .u32 0, .int .u32 0, .int .u32 0, .int .u32 0, .int .u32 0, .int .u32 0, .int .u32 0, .int .u32 0, .int .u32 0, .int .u32 0, .int .u32 0, .int .u32 0, .int .u32 0, .int .u32 0, .int .u32 0, .int .u32 0, .int .u32 0] : Array Value) = wds fun _ => 0 := by rfl
theorem info_wds : (Tryd.prog.info? 142).map (·.size) = some 64 := by kernel_rfl
section
variable {ops : Array Oper} {Q : Exit → Act → World → Prop} {a : Act} {w : World} {rest : List Oper} {dst : Option Tmp} {ty : TypeId} {pos : String} {after : Array Edge} {x y : Operand} {g : Nat} {f f0 : Nat → Nat}
theorem ldw (hx : a.eval x = .pointer (some ⟨g, 0, none⟩)) (hb : Blk w g 142 (wds f)) (h : wpList Tryd.prog ops Q rest (a.put dst (.agg (wds f))) w) :
    wpList Tryd.prog ops Q (⟨dst, .load 142 x, ty, pos, after, none⟩ :: rest) a w :=
  step_load_row hb Tryd.underlying142 rfl (info_wds.trans (by rw [size_wds])) hx h
theorem stw (hx : a.eval x = .pointer (some ⟨g, 0, none⟩)) (hy : a.eval y = .agg (wds f)) (hb : Blk w g 142 (wds f0)) (h : wpList Tryd.prog ops Q rest (a.put dst undef) (w.setRow g (wds f))) :
    wpList Tryd.prog ops Q (⟨dst, .store 142 x y, ty, pos, after, none⟩ :: rest) a w :=
  step_store_row hb (info_wds.trans (by rw [size_wds])) (by rw [size_wds, size_wds]) wds_one hx hy h
end
theorem wr_nat {x : Int} {j : Nat} (h : x = j) (hj : j < 9223372036854775808) : IntKind.i64.wrap x = (j : Int) := by rw [h]; exact IntWalk.i64_in _ (by omega)
theorem l_nat (x m n : Nat) (d : Nat) (hx : x < 4294967296) : bits .xor .u32 (bits .xor .u32 ((ShaM.rr x m : Nat) : Int) ((ShaM.rr x n : Nat) : Int)) (((x / d : Nat) : Nat) : Int) = (((ShaM.rr x m ^^^ ShaM.rr x n ^^^ (x / d) : Nat) : Nat) : Int) := by
  have hr := fun n => ShaM.rr_lt hx n
  rw [u32_xor_nat _ _ (hr m) (hr n), u32_xor_nat _ _ (Nat.xor_lt_two_pow (n := 32) (hr m) (hr n)) (Nat.lt_of_le_of_lt (Nat.div_le_self _ _) hx)]
theorem l0_nat (x : Nat) (hx : x < 4294967296) : bits .xor .u32 (bits .xor .u32 ((ShaM.rr x 7 : Nat) : Int) ((ShaM.rr x 18 : Nat) : Int)) ((x : Int) / 8) = ((ShaM.l0 x : Nat) : Int) := l_nat x 7 18 8 hx
theorem l1_nat (x : Nat) (hx : x < 4294967296) : bits .xor .u32 (bits .xor .u32 ((ShaM.rr x 17 : Nat) : Int) ((ShaM.rr x 19 : Nat) : Int)) ((x : Int) / 1024) = ((ShaM.l1 x : Nat) : Int) := l_nat x 17 19 1024 hx
theorem or_nat (a b : Nat) (_ha : a < 4294967296) (hb : b < 256) : bits .or .u32 ((a : Int) * 256 % 4294967296) (b : Int) = (((a * 256) % 4294967296 ||| b : Nat) : Int) := by
  rw [show (a : Int) * 256 % 4294967296 = (((a * 256) % 4294967296 : Nat) : Int) by simp, u32_or_nat _ _ (Nat.mod_lt _ (by omega)) (by omega)]
set_option maxHeartbeats 4000000 in
set_option maxRecDepth 100000 in
theorem spread_any (A : Option Addr) (l : List Nat) (cap : Nat) (hl : l.length = 64) (hb : ∀ k, ShaM.at' l k < 256) (w : World) (hs : Byt w w.heap.size A l) :
    Calls Tryd.prog 88 #[.slice A 64 cap] w fun e w' => e = .returned (.agg (wds (ShaM.upM (ShaM.at' l) 48))) ∧ Below w.heap.size w w' := by
  obtain ⟨b, o, rfl, hB, hr⟩ := hs (by omega)
  rw [hl] at hr
  have HB := hid hb
  have HR := hid hr
  clear hs hb hr hl
  go_enter Tryd.func88, Tryd.ntmps88
  go_wp2_with fail
  generalize hw3 : World.alloc (World.alloc w _) _ = w3
  have b1 : Blk w3 w.heap.size 142 (wds fun _ => 0) := by rw [← hw3]; exact (Blk.top zlit_wds rfl).alloc _
  have b2 : Blk w3 (w.heap.size + 1) 142 (wds fun _ => 0) := by rw [← hw3]; exact Blk.top zlit_wds (by simp)
  have hb : Below w.heap.size w w3 := by rw [← hw3]; exact ((Below.refl _ _).alloc (Nat.le_refl _) _).alloc (by simp) _
  clear hw3
  go_loopw [13] (fun i wr => ∃ k : Nat, k ≤ 64 ∧ i = .int .i64 k ∧ Blk wr w.heap.size 142 (wds fun _ => 0) ∧ Blk wr (w.heap.size + 1) 142 (wds (ShaM.part (ShaM.at' l) k)) ∧ Below w.heap.size w wr) (fun i _ => 64 - (intOf i).toNat)
  case atStart => exact ⟨0, by omega, rfl, b1, by rw [show ShaM.part (ShaM.at' l) 0 = fun _ => 0 from funext fun j => ShaM.part_zero _ j]; exact b2, hb⟩
  case round =>
    obtain ⟨k, hk, rfl, b1, b2, hb⟩ := hrel
    by_cases hlt : k < 64
    · have c0 : wr.cell? ⟨b, o + k, none⟩ = some (.int .u8 (ShaM.at' l k : Nat)) := (hb.cell (p := ⟨b, o + k, none⟩) hB).trans (HR.out k hlt)
      have c1 : wr.cell? ⟨w.heap.size + 1, k / 4, none⟩ = some (.int .u32 (ShaM.part (ShaM.at' l) k (k / 4) : Nat)) := (b2.cell _).trans (get_wds (by omega))
      have c3 := b2.frozen (k / 4)
      have hx := HB.out k
      have hp := ShaM.part_lt HB.out k (k / 4)
      have e5 : ((k / 4 : Nat) : Int) < 64 := by omega
      have h4 : k / 4 < 64 := by omega
      go_wp2_with fail
      go_roundw
      case rel =>
        refine ⟨k + 1, by omega, by go_num, b1.setCell_other (by simp) _, ?_, hb.setCell (by simp) _⟩
        have h := b2.setCell_same (k / 4) (.int .u32 (((ShaM.part (ShaM.at' l) k (k / 4) * 256) % 4294967296 ||| ShaM.at' l k : Nat) : Int))
        rw [wds_set] at h
        rw [or_nat _ _ hp hx]
        rw [wds_ext (f := ShaM.part (ShaM.at' l) (k + 1)) (g := fun j => if j = k / 4 then (ShaM.part (ShaM.at' l) k (k / 4) * 256) % 4294967296 ||| ShaM.at' l k else ShaM.part (ShaM.at' l) k j) fun j _ => by
          rw [ShaM.part_step HB.out k j]
          by_cases e : j = k / 4
          · rw [if_pos e, if_pos e, e]
          · rw [if_neg e, if_neg e]]
        exact h
      case measure => simp [intOf]; omega
    · have t0 : decide ((k : Int) < 64) = false := by simp; omega
      rw [show k = 64 by omega] at b2
      go_wp2_with fail
      rw [wds_ext (g := ShaM.upM (ShaM.at' l) 0) fun j _ => (ShaM.first_part _ j).symm] at b2
      go_loopw [6] (fun i w4 => ∃ N k : Nat, Hid (N = 16 + k) ∧ 16 ≤ N ∧ N ≤ 64 ∧ k ≤ 48 ∧ i = .int .i64 N ∧ Blk w4 w.heap.size 142 (wds fun _ => 0) ∧ Blk w4 (w.heap.size + 1) 142 (wds (ShaM.upM (ShaM.at' l) k)) ∧ Below w.heap.size w w4) (fun i _ => 64 - (intOf i).toNat)
      case atStart => exact ⟨16, 0, hid rfl, by omega, by omega, by omega, rfl, b1, b2, hb⟩
      case round =>
        obtain ⟨N, k, hN, hN0, hN1, hk, rfl, b1, b2, hb⟩ := hrel
        by_cases hlt : k < 48
        · obtain ⟨j1, hj1⟩ : ∃ j, j = k + 1 := ⟨_, rfl⟩
          obtain ⟨j9, hj9⟩ : ∃ j, j = k + 9 := ⟨_, rfl⟩
          obtain ⟨j14, hj14⟩ : ∃ j, j = k + 14 := ⟨_, rfl⟩
          have e0 : IntKind.i64.wrap ((N : Int) - 16) = (k : Int) := wr_nat (by have := hN.out; omega) (by omega)
          have e1 : IntKind.i64.wrap ((N : Int) - 15) = (j1 : Int) := wr_nat (by have := hN.out; omega) (by omega)
          have e9 : IntKind.i64.wrap ((N : Int) - 7) = (j9 : Int) := wr_nat (by have := hN.out; omega) (by omega)
          have e14 : IntKind.i64.wrap ((N : Int) - 2) = (j14 : Int) := wr_nat (by have := hN.out; omega) (by omega)
          have t0 : (N : Int) < 64 := by have := hN.out; omega
          have t1 : (j1 : Int) < 64 := by omega
          have t9 : (j9 : Int) < 64 := by omega
          have t14 : (j14 : Int) < 64 := by omega
          have tk : (k : Int) < 64 := by omega
          have C1 := hid ((b2.cell j1).trans (get_wds (by omega)))
          have C0 := hid ((b2.cell k).trans (get_wds (by omega)))
          have C9 := hid ((b2.cell j9).trans (get_wds (by omega)))
          have C14 := hid ((b2.cell j14).trans (get_wds (by omega)))
          have J := hid (And.intro hj1 (And.intro hj9 hj14))
          have E0 := hid e0
          have E1 := hid e1
          have E9 := hid e9
          have E14 := hid e14
          have B1 := hid b1
          have B2 := hid b2
          have HW := hid hb
          clear hj1 hj9 hj14 e0 e1 e9 e14 b1 b2 hb
          go_wp2_with fail
          refine wp_region_tail (C := Drew wr) 10 (by kernel_rfl) (by kernel_rfl) (by kernel_rfl) (Drew.refl _) ?_
          simp only [List.take_succ_cons, List.take_zero, List.drop_succ_cons, List.drop_zero]
          apply wpK_val
          · rfl
          · intro w' hw'
            go_simp
            first | exact rfl | exact ⟨rfl, hw'⟩
          simp only [Act.put, List.setIfInBounds_toArray, List.set_cons_succ, List.set_cons_zero]
          apply wpK_val
          · rfl
          · intro w' hw'
            have h1 : _ := E1.out
            go_simp
            first | exact rfl | exact ⟨rfl, hw'⟩
          simp only [Act.put, List.setIfInBounds_toArray, List.set_cons_succ, List.set_cons_zero]
          apply wpK_val
          · rfl
          · intro w' hw'
            go_simp
            first | exact rfl | exact ⟨rfl, hw'⟩
          simp only [Act.put, List.setIfInBounds_toArray, List.set_cons_succ, List.set_cons_zero]
          apply wpK_val
          · rfl
          · intro w' hw'
            have hcell := hw'.cell C1.out
            go_simp
            first | exact rfl | exact ⟨rfl, hw'⟩
          simp only [Act.put, List.setIfInBounds_toArray, List.set_cons_succ, List.set_cons_zero]
          apply wpK_val
          · rfl
          · intro w' hw'
            go_simp
            first | exact rfl | exact ⟨rfl, hw'⟩
          simp only [Act.put, List.setIfInBounds_toArray, List.set_cons_succ, List.set_cons_zero]
          apply wpK_val
          · rfl
          · intro w' hw'
            have h1 : _ := E14.out
            go_simp
            first | exact rfl | exact ⟨rfl, hw'⟩
          simp only [Act.put, List.setIfInBounds_toArray, List.set_cons_succ, List.set_cons_zero]
          apply wpK_val
          · rfl
          · intro w' hw'
            go_simp
            first | exact rfl | exact ⟨rfl, hw'⟩
          simp only [Act.put, List.setIfInBounds_toArray, List.set_cons_succ, List.set_cons_zero]
          apply wpK_val
          · rfl
          · intro w' hw'
            have hcell := hw'.cell C14.out
            go_simp
            first | exact rfl | exact ⟨rfl, hw'⟩
          simp only [Act.put, List.setIfInBounds_toArray, List.set_cons_succ, List.set_cons_zero]
          apply wpK_val
          · rfl
          · intro w' hw'
            go_simp
            first | exact rfl | exact ⟨rfl, hw'⟩
          simp only [Act.put, List.setIfInBounds_toArray, List.set_cons_succ, List.set_cons_zero]
          apply wpK_val
          · rfl
          · intro w' hw'
            go_simp
            first | exact rfl | exact ⟨rfl, hw'⟩
          simp only [Act.put, List.setIfInBounds_toArray, List.set_cons_succ, List.set_cons_zero]
          refine wpK_nil fun w5 hw5 => ?_
          have b1 := hw5.blk B1.out
          have b2 := hw5.blk B2.out
          have hb := hw5.below HW.out
          clear hw5 B1 B2 HW C1 C14 C0 C9
          have B1 := hid b1
          have B2 := hid b2
          have HW := hid hb
          have C0 := hid ((b2.cell k).trans (get_wds (by omega)))
          have C9 := hid ((b2.cell j9).trans (get_wds (by omega)))
          clear b1 b2 hb
          have x1 := ShaM.upM_lt HB.out k j1
          have x14 := ShaM.upM_lt HB.out k j14
          go_wp2_with fail
          refine (rot_any _ 7 x1 (by omega) (by omega) _).mono ?_
          rintro e w' ⟨rfl, rfl⟩
          go_wp2_with fail
          refine (rot_any _ 18 x1 (by omega) (by omega) _).mono ?_
          rintro e w' ⟨rfl, rfl⟩
          go_wp2_with fail
          refine (rot_any _ 17 x14 (by omega) (by omega) _).mono ?_
          rintro e w' ⟨rfl, rfl⟩
          go_wp2_with fail
          refine (rot_any _ 19 x14 (by omega) (by omega) _).mono ?_
          rintro e w' ⟨rfl, rfl⟩
          go_wp2_with fail
          rw [l0_nat _ x1, l1_nat _ x14]
          refine wp_region_tail (C := Drew w5) 15 (by kernel_rfl) (by kernel_rfl) (by kernel_rfl) (Drew.refl _) ?_
          simp only [List.take_succ_cons, List.take_zero, List.drop_succ_cons, List.drop_zero]
          apply wpK_val
          · rfl
          · intro w' hw'
            go_simp
            first | exact rfl | exact ⟨rfl, hw'⟩
          simp only [Act.put, List.setIfInBounds_toArray, List.set_cons_succ, List.set_cons_zero]
          apply wpK_val
          · rfl
          · intro w' hw'
            go_simp
            first | exact rfl | exact ⟨rfl, hw'⟩
          simp only [Act.put, List.setIfInBounds_toArray, List.set_cons_succ, List.set_cons_zero]
          apply wpK_val
          · rfl
          · intro w' hw'
            have h1 : _ := E0.out
            go_simp
            first | exact rfl | exact ⟨rfl, hw'⟩
          simp only [Act.put, List.setIfInBounds_toArray, List.set_cons_succ, List.set_cons_zero]
          apply wpK_val
          · rfl
          · intro w' hw'
            go_simp
            first | exact rfl | exact ⟨rfl, hw'⟩
          simp only [Act.put, List.setIfInBounds_toArray, List.set_cons_succ, List.set_cons_zero]
          apply wpK_val
          · rfl
          · intro w' hw'
            have hcell := hw'.cell C0.out
            go_simp
            first | exact rfl | exact ⟨rfl, hw'⟩
          simp only [Act.put, List.setIfInBounds_toArray, List.set_cons_succ, List.set_cons_zero]
          apply wpK_val
          · rfl
          · intro w' hw'
            go_simp
            first | exact rfl | exact ⟨rfl, hw'⟩
          simp only [Act.put, List.setIfInBounds_toArray, List.set_cons_succ, List.set_cons_zero]
          apply wpK_val
          · rfl
          · intro w' hw'
            have h1 : _ := u32_wrap_nat (ShaM.upM (ShaM.at' l) k k) (ShaM.l0 (ShaM.upM (ShaM.at' l) k j1))
            go_simp
            first | exact rfl | exact ⟨rfl, hw'⟩
          simp only [Act.put, List.setIfInBounds_toArray, List.set_cons_succ, List.set_cons_zero]
          apply wpK_val
          · rfl
          · intro w' hw'
            go_simp
            first | exact rfl | exact ⟨rfl, hw'⟩
          simp only [Act.put, List.setIfInBounds_toArray, List.set_cons_succ, List.set_cons_zero]
          apply wpK_val
          · rfl
          · intro w' hw'
            have h1 : _ := E9.out
            go_simp
            first | exact rfl | exact ⟨rfl, hw'⟩
          simp only [Act.put, List.setIfInBounds_toArray, List.set_cons_succ, List.set_cons_zero]
          apply wpK_val
          · rfl
          · intro w' hw'
            go_simp
            first | exact rfl | exact ⟨rfl, hw'⟩
          simp only [Act.put, List.setIfInBounds_toArray, List.set_cons_succ, List.set_cons_zero]
          apply wpK_val
          · rfl
          · intro w' hw'
            have hcell := hw'.cell C9.out
            go_simp
            first | exact rfl | exact ⟨rfl, hw'⟩
          simp only [Act.put, List.setIfInBounds_toArray, List.set_cons_succ, List.set_cons_zero]
          apply wpK_val
          · rfl
          · intro w' hw'
            have h1 : _ := u32_wrap_nat (ShaM.add (ShaM.upM (ShaM.at' l) k k) (ShaM.l0 (ShaM.upM (ShaM.at' l) k j1))) (ShaM.upM (ShaM.at' l) k j9)
            go_simp
            first | exact rfl | exact ⟨rfl, hw'⟩
          simp only [Act.put, List.setIfInBounds_toArray, List.set_cons_succ, List.set_cons_zero]
          apply wpK_val
          · rfl
          · intro w' hw'
            go_simp
            first | exact rfl | exact ⟨rfl, hw'⟩
          simp only [Act.put, List.setIfInBounds_toArray, List.set_cons_succ, List.set_cons_zero]
          apply wpK_val
          · rfl
          · intro w' hw'
            have h1 : _ := u32_wrap_nat (ShaM.add (ShaM.add (ShaM.upM (ShaM.at' l) k k) (ShaM.l0 (ShaM.upM (ShaM.at' l) k j1))) (ShaM.upM (ShaM.at' l) k j9)) (ShaM.l1 (ShaM.upM (ShaM.at' l) k j14))
            go_simp
            first | exact rfl | exact ⟨rfl, hw'⟩
          simp only [Act.put, List.setIfInBounds_toArray, List.set_cons_succ, List.set_cons_zero]
          apply wpK_val
          · rfl
          · intro w' hw'
            go_simp
            first | exact rfl | exact ⟨rfl, hw'⟩
          simp only [Act.put, List.setIfInBounds_toArray, List.set_cons_succ, List.set_cons_zero]
          refine wpK_nil fun w4 hw4 => ?_
          have b1 := hw4.blk B1.out
          have b2 := hw4.blk B2.out
          have hb := hw4.below HW.out
          clear hw4 B1 B2 HW C0 C9
          have hN' := hN.out
          have c1 := (b2.cell N).trans (get_wds (by omega))
          have c3 := b2.frozen N
          clear hN'
          have B1 := hid b1
          have B2 := hid b2
          have HW := hid hb
          clear b1 b2 hb
          go_wp2_with fail
          go_roundw
          case rel =>
            obtain ⟨r1, r9, r14⟩ := J.out
            have rN := hN.out
            subst r1 r9 r14
            refine ⟨N + 1, k + 1, hid (by omega), by omega, by omega, by omega, by go_num, B1.out.setCell_other (by simp) _, ?_, HW.out.setCell (by simp) _⟩
            have h := B2.out.setCell_same N (.int .u32 ((ShaM.add (ShaM.add (ShaM.add (ShaM.upM (ShaM.at' l) k k) (ShaM.l0 (ShaM.upM (ShaM.at' l) k (k + 1)))) (ShaM.upM (ShaM.at' l) k (k + 9))) (ShaM.l1 (ShaM.upM (ShaM.at' l) k (k + 14))) : Nat) : Int))
            rw [wds_set] at h
            rw [wds_ext (f := ShaM.upM (ShaM.at' l) (k + 1)) (g := fun j => if j = N then ShaM.add (ShaM.add (ShaM.add (ShaM.upM (ShaM.at' l) k k) (ShaM.l0 (ShaM.upM (ShaM.at' l) k (k + 1)))) (ShaM.upM (ShaM.at' l) k (k + 9))) (ShaM.l1 (ShaM.upM (ShaM.at' l) k (k + 14))) else ShaM.upM (ShaM.at' l) k j) fun j _ => by
              rw [ShaM.upM_step, ShaM.next_upM, rN]]
            exact h
          case measure => simp [intOf]; omega
        · obtain rfl : k = 48 := by omega
          have t0 : decide ((N : Int) < 64) = false := by have := hN.out; simp; omega
          go_wp2_with (first | ((with_reducible apply ldw); rfl; assumption) | ((with_reducible apply stw); rfl; rfl; assumption))
          apply ret_row Tryd.results88
          · exact b1.setRow_same _
          · exact Tryd.underlying142
          · rfl
          · exact (info_wds.trans (by rw [size_wds]))
          · rfl
          · rfl
          exact ⟨rfl, below_setRow hb (by omega) _⟩
end Go.Proofs.YtdmnhpgafbcehaaDoor
set_option maxRecDepth 100000
namespace Go.Proofs.YtdmnhpgafbcehaaDoor
open Go.ChangeShapes Go.WideShapes Go.ChangeAt Go.RowKit
attribute [local go_sem] Gives
def Pows (_ : World) : Prop := True
def tabs : Nat := 0
/-- The tables of start-up are there: the salts, and the powers of 10 where these are listed. -/
def Salts (w : World) : Prop := tabs < w.heap.size ∧ (∀ n, n < 64 → w.cell? ⟨0, n, none⟩ = some (.int .u32 (ShaM.saltAt n : Nat))) ∧ Pows w
theorem Salts.below {B : Nat} {w w' : World} (h : Salts w) (hb : Below B w w') (h0 : tabs < B) : Salts w' :=
  ⟨Nat.lt_of_lt_of_le h.1 hb.size, fun n hn => (hb.cell (p := ⟨0, n, none⟩) h0).trans (h.2.1 n hn), trivial⟩
theorem Salts.on {w w' : World} (h : Salts w) (hb : Below w.heap.size w w') : Salts w' := h.below hb h.1
/-- Eight numbers. -/
def num8 (f : Nat → Nat) : Array Value := row 8 fun j => .int .u32 (f j : Nat)
theorem size_num8 {f : Nat → Nat} : (num8 f).size = 8 := size_row
theorem get_num8 {f : Nat → Nat} {k : Nat} (h : k < 8) : (num8 f)[k]? = some (.int .u32 (f k : Nat)) := get_row_lt h
theorem num8_ext {f g : Nat → Nat} (h : ∀ k, k < 8 → f k = g k) : num8 f = num8 g := row_ext fun k hk => by rw [h k hk]
theorem num8_set {f : Nat → Nat} {k v : Nat} : (num8 f).setIfInBounds k (.int .u32 (v : Nat)) = num8 fun j => if j = k then v else f j := by
  unfold num8
  rw [row_set]
  exact row_ext fun j _ => by by_cases e : j = k <;> simp [e]
theorem num8_one {f : Nat → Nat} : (num8 f).all (·.oneCell') = true := row_one fun _ _ => rfl
theorem zlit8 : (#[.int .u32 0, .int .u32 0, .int .u32 0, .int .u32 0, .int .u32 0, .int .u32 0, .int .u32 0, .int .u32 0] : Array Value) = num8 fun _ => 0 := by rfl
theorem letters_zero (s : ShaM.S8) : letters s 0 = num8 s.get := row_ext fun j hj => by rw [Nat.add_zero, Nat.mod_eq_of_lt hj]
theorem letters_full (s : ShaM.S8) : letters s 64 = num8 s.get := row_ext fun j hj => by rw [show (j + 64) % 8 = j by omega]
theorem info_num8 : (Tryd.prog.info? 105).map (·.size) = some 8 := by kernel_rfl
section
variable {ops : Array Oper} {Q : Exit → Act → World → Prop} {a : Act} {w : World} {rest : List Oper} {dst : Option Tmp} {ty : TypeId} {pos : String} {after : Array Edge} {x y : Operand} {g : Nat} {f f0 : Nat → Nat}
theorem ldn (hx : a.eval x = .pointer (some ⟨g, 0, none⟩)) (hb : Blk w g 105 (num8 f)) (h : wpList Tryd.prog ops Q rest (a.put dst (.agg (num8 f))) w) :
    wpList Tryd.prog ops Q (⟨dst, .load 105 x, ty, pos, after, none⟩ :: rest) a w :=
  step_load_row hb Tryd.underlying105 rfl (info_num8.trans (by rw [size_num8])) hx h
theorem run_ldn {w : World} (hb : Blk w g 105 (num8 f)) : (Instr.loadAt 105 (.pointer (some ⟨g, 0, none⟩))).run Tryd.prog w = .ok (.agg (num8 f)) w := by
  have h1 := hb.range 0 8
  rw [Nat.zero_add, show (8 : Nat) = (num8 f).size from size_num8.symm, Array.extract_size] at h1
  have := run_loadAt_mid (P := Tryd.prog) w g 0 105 (num8 f).toList _ h1 Tryd.underlying105 rfl (info_num8.trans (by rw [Array.length_toList, size_num8]))
  rwa [Array.toArray_toList] at this
theorem kln {C : World → Prop} {Qk : Act → Prop} {gd : Option (Nat × Bool)} (hwt : Region.wanted ⟨dst, .load 105 x, ty, pos, after, gd⟩ (yielded ops a.tmps) = true) (hx : a.eval x = .pointer (some ⟨g, 0, none⟩)) (hb : ∀ w, C w → Blk w g 105 (num8 f)) (h : wpK Tryd.prog ops C Qk rest (a.put dst (.agg (num8 f)))) :
    wpK Tryd.prog ops C Qk (⟨dst, .load 105 x, ty, pos, after, gd⟩ :: rest) a :=
  wpK_val hwt (fun w hw => gives_value (w' := w) (by simp only [execOp, hx, Sem.run_bind, run_ldn (hb w hw), Result.andThen_ok, Sem.run_pure]) hw) h
theorem stn (hx : a.eval x = .pointer (some ⟨g, 0, none⟩)) (hy : a.eval y = .agg (num8 f)) (hb : Blk w g 105 (num8 f0)) (h : wpList Tryd.prog ops Q rest (a.put dst undef) (w.setRow g (num8 f))) :
    wpList Tryd.prog ops Q (⟨dst, .store 105 x y, ty, pos, after, none⟩ :: rest) a w :=
  step_store_row hb (info_num8.trans (by rw [size_num8])) (by rw [size_num8, size_num8]) num8_one hx hy h
end
def mix8 (k : Nat) (T s : Nat → Nat) : Nat → Nat := fun j => if j < k then ShaM.add (T j) (s j) else T j
theorem mix8_zero (T s : Nat → Nat) : mix8 0 T s = T := funext fun j => by simp [mix8]
theorem mix8_step {k : Nat} (T s : Nat → Nat) : (fun j => if j = k then ShaM.add (T k) (s k) else mix8 k T s j) = mix8 (k + 1) T s := funext fun j => by
  unfold mix8
  by_cases h : j = k
  · subst h; simp
  · simp only [h, if_false]
    by_cases h2 : j < k
    · rw [if_pos h2, if_pos (by omega)]
    · rw [if_neg h2, if_neg (by omega)]
theorem mix8_at (k : Nat) (T s : Nat → Nat) : mix8 k T s k = T k := by simp [mix8]
theorem mix8_full (T s : ShaM.S8) : num8 (mix8 8 T.get s.get) = num8 (ShaM.addS T s).get := num8_ext fun k hk => by
  unfold mix8
  rw [if_pos hk, ShaM.addS_get T s hk]
set_option maxHeartbeats 400000 in
set_option maxRecDepth 100000 in
theorem pass_any (s : ShaM.S8) (hs : s.ok) (A : Option Addr) (l : List Nat) (cap : Nat) (hl : l.length = 64) (hb : ∀ k, ShaM.at' l k < 256) (w : World) (hA : Byt w w.heap.size A l) (hS : Salts w) :
    Calls Tryd.prog 86 #[.agg (num8 s.get), .slice A 64 cap] w fun e w' => e = .returned (.agg (num8 (ShaM.pass s (ShaM.at' l)).get)) ∧ Below w.heap.size w w' := by
  have HS := hid hs
  have HB := hid hb
  have HA := hid hA
  have SA := hid hS
  clear hs hb hA hS
  go_enter Tryd.func86, Tryd.ntmps86
  go_wp2_with fail
  generalize hw3 : World.alloc (World.alloc w _) _ = w3
  have b1 : Blk w3 w.heap.size 105 (num8 s.get) := by rw [← hw3]; exact (Blk.top rfl rfl).alloc _
  have b2 : Blk w3 (w.heap.size + 1) 105 (num8 fun _ => 0) := by rw [← hw3]; exact Blk.top zlit8 (by simp)
  have hb : Below w.heap.size w w3 := by rw [← hw3]; exact ((Below.refl _ _).alloc (Nat.le_refl _) _).alloc (by simp) _
  clear hw3
  have ha := (HA.out.below hb (Nat.le_refl _)).more hb.size
  refine (spread_any A l cap hl HB.out w3 ha).mono ?_
  rintro e w4 ⟨rfl, hb'⟩
  have b1' := b1.below hb' b1.lt
  have b2' := b2.below hb' b2.lt
  have hb4 := hb.trans (hb'.mono hb.size)
  have hz : w.heap.size + 1 < w4.heap.size := b2'.lt
  clear hb' b1 b2 hb ha
  have B1 := hid b1'
  have B2 := hid b2'
  have BEL := hid hb4
  clear b1' b2' hb4
  go_upto_region 2 with ((with_reducible apply stw); rfl; rfl; exact Blk.top zlit_wds rfl)
  generalize hw5 : World.setRow _ _ _ = w5
  have b5 : Blk w5 w4.heap.size 142 (wds (ShaM.upM (ShaM.at' l) 48)) := by rw [← hw5]; exact (Blk.top zlit_wds rfl).setRow_same _
  have b1 : Blk w5 w.heap.size 105 (num8 s.get) := by rw [← hw5]; exact (B1.out.alloc _).setRow_other (by omega) _
  have b2 : Blk w5 (w.heap.size + 1) 105 (num8 fun _ => 0) := by rw [← hw5]; exact (B2.out.alloc _).setRow_other (by omega) _
  have hb : Below w.heap.size w w5 := by rw [← hw5]; exact below_setRow (BEL.out.alloc (by omega) _) (by omega) _
  have hz5 : w4.heap.size < w5.heap.size := b5.lt
  clear hw5 B1 B2 BEL
  generalize hg5 : w4.heap.size = g5 at *
  clear hg5 w4
  go_upto_region 3 with (first | ((with_reducible apply ldn); rfl; exact b1) | ((with_reducible apply stn); rfl; rfl; exact Blk.top zlit8 rfl))
  generalize hw6 : World.setRow _ _ _ = w6
  have c6 : Blk w6 w5.heap.size 105 (letters (ShaM.steps (ShaM.sched (ShaM.at' l)) 0 s) 0) := by rw [← hw6]; rw [letters_zero]; exact (Blk.top zlit8 rfl).setRow_same _
  have c5 : Blk w6 g5 142 (wds (ShaM.upM (ShaM.at' l) 48)) := by rw [← hw6]; exact (b5.alloc _).setRow_other (by omega) _
  have c1 : Blk w6 w.heap.size 105 (num8 s.get) := by rw [← hw6]; exact (b1.alloc _).setRow_other (by omega) _
  have c2 : Blk w6 (w.heap.size + 1) 105 (num8 fun _ => 0) := by rw [← hw6]; exact (b2.alloc _).setRow_other (by omega) _
  have cb : Below w.heap.size w w6 := by rw [← hw6]; exact below_setRow (hb.alloc (by omega) _) (by omega) _
  clear hw6 b1 b2 hb b5
  generalize hg6 : w5.heap.size = g6 at *
  clear hg6 w5
  have hw0 := SA.out.1
  have hwG : 0 < w.heap.size := by unfold tabs at hw0; omega
  go_wp2_with fail
  go_loopw [12] (fun i wr => ∃ n : Nat, n ≤ 64 ∧ i = .int .i64 n ∧ Blk wr g6 105 (letters (ShaM.steps (ShaM.sched (ShaM.at' l)) n s) n) ∧ Blk wr g5 142 (wds (ShaM.upM (ShaM.at' l) 48)) ∧ Blk wr w.heap.size 105 (num8 s.get) ∧
    Blk wr (w.heap.size + 1) 105 (num8 fun _ => 0) ∧ Below w.heap.size w wr) (fun i _ => 64 - (intOf i).toNat)
  case atStart => exact ⟨0, by omega, rfl, c6, c5, c1, c2, cb⟩
  case round =>
    clear c6 c5 c1 c2 cb
    obtain ⟨n, hn, rfl, c6, c5, c1, c2, cb⟩ := hrel
    by_cases hlt : n < 64
    · have tn : (n : Int) < 64 := by omega
      have S1 := hid ((SA.out.on cb).2.1 n hlt)
      have M1 := hid ((c5.cell n).trans (get_wds hlt))
      have C6 := hid c6
      have C5 := hid c5
      have C1 := hid c1
      have C2 := hid c2
      have CB := hid cb
      clear c6 c5 c1 c2 cb
      go_wp2_with fail
      refine wp_region_tail (C := Drew wr) 8 (by kernel_rfl) (by kernel_rfl) (by kernel_rfl) (Drew.refl _) ?_
      simp only [List.take_succ_cons, List.take_zero, List.drop_succ_cons, List.drop_zero]
      apply wpK_val
      · rfl
      · intro w' hw'
        go_simp
        first | exact rfl | exact ⟨rfl, hw'⟩
      simp only [Act.put, List.setIfInBounds_toArray, List.set_cons_succ, List.set_cons_zero]
      apply wpK_val
      · rfl
      · intro w' hw'
        go_simp
        first | exact rfl | exact ⟨rfl, hw'⟩
      simp only [Act.put, List.setIfInBounds_toArray, List.set_cons_succ, List.set_cons_zero]
      apply wpK_val
      · rfl
      · intro w' hw'
        go_simp
        first | exact rfl | exact ⟨rfl, hw'⟩
      simp only [Act.put, List.setIfInBounds_toArray, List.set_cons_succ, List.set_cons_zero]
      apply wpK_val
      · rfl
      · intro w' hw'
        have hcell := hw'.cell S1.out
        go_simp
        first | exact rfl | exact ⟨rfl, hw'⟩
      simp only [Act.put, List.setIfInBounds_toArray, List.set_cons_succ, List.set_cons_zero]
      apply wpK_val
      · rfl
      · intro w' hw'
        go_simp
        first | exact rfl | exact ⟨rfl, hw'⟩
      simp only [Act.put, List.setIfInBounds_toArray, List.set_cons_succ, List.set_cons_zero]
      apply wpK_val
      · rfl
      · intro w' hw'
        go_simp
        first | exact rfl | exact ⟨rfl, hw'⟩
      simp only [Act.put, List.setIfInBounds_toArray, List.set_cons_succ, List.set_cons_zero]
      apply wpK_val
      · rfl
      · intro w' hw'
        have hcell := hw'.cell M1.out
        go_simp
        first | exact rfl | exact ⟨rfl, hw'⟩
      simp only [Act.put, List.setIfInBounds_toArray, List.set_cons_succ, List.set_cons_zero]
      apply wpK_val
      · rfl
      · intro w' hw'
        have h1 : _ := u32_wrap_nat (ShaM.saltAt n) (ShaM.upM (ShaM.at' l) 48 n)
        go_simp
        first | exact rfl | exact ⟨rfl, hw'⟩
      simp only [Act.put, List.setIfInBounds_toArray, List.set_cons_succ, List.set_cons_zero]
      refine wpK_nil fun w4 hw4 => ?_
      have c6 := hw4.blk C6.out
      have c5 := hw4.blk C5.out
      have c1 := hw4.blk C1.out
      have c2 := hw4.blk C2.out
      have cb := hw4.below CB.out
      clear hw4 C6 C5 C1 C2 CB S1 M1
      have C6 := hid c6
      have C5 := hid c5
      have C1 := hid c1
      have C2 := hid c2
      have CB := hid cb
      clear c6 c5 c1 c2 cb
      go_wp2_with fail
      refine (step_any _ (ShaM.steps_ok _ HS.out n) g6 _ n _ hlt (ShaM.add_lt _ _) w4 C6.out).mono ?_
      rintro e w7 ⟨rfl, c6, on⟩
      have c5 := C5.out.only on (by omega)
      have c1 := C1.out.only on (by omega)
      have c2 := C2.out.only on (by omega)
      have cb := CB.out.trans ((only_Below on (B := w.heap.size) (by omega) CB.out.size))
      clear C6 C5 C1 C2 CB on w4
      go_wp2_with fail
      go_roundw
      case rel => exact ⟨n + 1, by omega, by go_num, c6, c5, c1, c2, cb⟩
      case measure => simp [intOf]; omega
    · have tn : decide ((n : Int) < 64) = false := by simp; omega
      rw [show n = 64 by omega, letters_full] at c6
      generalize hT : ShaM.steps (ShaM.sched (ShaM.at' l)) 64 s = T at c6
      have HT := hid hT
      clear hT
      go_wp2_with fail
      rw [← mix8_zero T.get s.get] at c6
      go_loopw [25] (fun i wr => ∃ k : Nat, k ≤ 8 ∧ i = .int .i64 k ∧ Blk wr g6 105 (num8 (mix8 k T.get s.get)) ∧ Blk wr w.heap.size 105 (num8 s.get) ∧
        Blk wr (w.heap.size + 1) 105 (num8 fun _ => 0) ∧ Below w.heap.size w wr) (fun i _ => 8 - (intOf i).toNat)
      case atStart => exact ⟨0, by omega, rfl, c6, c1, c2, cb⟩
      case round =>
        clear c6 c5 c1 c2 cb
        obtain ⟨k, hk, rfl, c6, c1, c2, cb⟩ := hrel
        by_cases hlt : k < 8
        · have tk : (k : Int) < 8 := by omega
          have S1 := hid ((c6.cell k).trans (get_num8 hlt))
          have M1 := hid ((c1.cell k).trans (get_num8 hlt))
          rw [mix8_at] at S1
          have C6 := hid c6
          have C1 := hid c1
          have C2 := hid c2
          have CB := hid cb
          clear c6 c1 c2 cb
          go_wp2_with fail
          refine wp_region_tail (C := Drew wr) 8 (by kernel_rfl) (by kernel_rfl) (by kernel_rfl) (Drew.refl _) ?_
          simp only [List.take_succ_cons, List.take_zero, List.drop_succ_cons, List.drop_zero]
          apply wpK_val
          · rfl
          · intro w' hw'
            go_simp
            first | exact rfl | exact ⟨rfl, hw'⟩
          simp only [Act.put, List.setIfInBounds_toArray, List.set_cons_succ, List.set_cons_zero]
          apply wpK_val
          · rfl
          · intro w' hw'
            go_simp
            first | exact rfl | exact ⟨rfl, hw'⟩
          simp only [Act.put, List.setIfInBounds_toArray, List.set_cons_succ, List.set_cons_zero]
          apply wpK_val
          · rfl
          · intro w' hw'
            have hcell := hw'.cell S1.out
            go_simp
            first | exact rfl | exact ⟨rfl, hw'⟩
          simp only [Act.put, List.setIfInBounds_toArray, List.set_cons_succ, List.set_cons_zero]
          apply wpK_val
          · rfl
          · intro w' hw'
            go_simp
            first | exact rfl | exact ⟨rfl, hw'⟩
          simp only [Act.put, List.setIfInBounds_toArray, List.set_cons_succ, List.set_cons_zero]
          apply wpK_val
          · rfl
          · intro w' hw'
            go_simp
            first | exact rfl | exact ⟨rfl, hw'⟩
          simp only [Act.put, List.setIfInBounds_toArray, List.set_cons_succ, List.set_cons_zero]
          apply wpK_val
          · rfl
          · intro w' hw'
            have hcell := hw'.cell M1.out
            go_simp
            first | exact rfl | exact ⟨rfl, hw'⟩
          simp only [Act.put, List.setIfInBounds_toArray, List.set_cons_succ, List.set_cons_zero]
          apply wpK_val
          · rfl
          · intro w' hw'
            have h1 : _ := u32_wrap_nat (T.get k) (s.get k)
            go_simp
            first | exact rfl | exact ⟨rfl, hw'⟩
          simp only [Act.put, List.setIfInBounds_toArray, List.set_cons_succ, List.set_cons_zero]
          apply wpK_val
          · rfl
          · intro w' hw'
            go_simp
            first | exact rfl | exact ⟨rfl, hw'⟩
          simp only [Act.put, List.setIfInBounds_toArray, List.set_cons_succ, List.set_cons_zero]
          refine wpK_nil fun w4 hw4 => ?_
          have c6 := hw4.blk C6.out
          have c1 := hw4.blk C1.out
          have c2 := hw4.blk C2.out
          have cb := hw4.below CB.out
          clear hw4 C6 C1 C2 CB S1 M1
          have q1 := (c6.cell k).trans (get_num8 hlt)
          have q3 := c6.frozen k
          have C6 := hid c6
          have C1 := hid c1
          have C2 := hid c2
          have CB := hid cb
          clear c6 c1 c2 cb
          go_wp2_with fail
          go_roundw
          case rel =>
            refine ⟨k + 1, by omega, by go_num, ?_, C1.out.setCell_other (by show g6 ≠ w.heap.size; omega) _, C2.out.setCell_other (by show g6 ≠ w.heap.size + 1; omega) _, CB.out.setCell (by show w.heap.size ≤ g6; omega) _⟩
            have h := C6.out.setCell_same k (.int .u32 (ShaM.add (T.get k) (s.get k) : Nat))
            rw [num8_set, mix8_step] at h
            exact h
          case measure => simp [intOf]; omega
        · have tk : decide ((k : Int) < 8) = false := by simp; omega
          rw [show k = 8 by omega, mix8_full] at c6
          go_wp2_with (first | ((with_reducible apply ldn); rfl; assumption) | ((with_reducible apply stn); rfl; rfl; assumption))
          apply ret_row Tryd.results86
          · exact c2.setRow_same _
          · exact Tryd.underlying105
          · rfl
          · exact (info_num8.trans (by rw [size_num8]))
          · rfl
          · rfl
          exact ⟨by rw [← HT.out]; rfl, below_setRow cb (by omega) _⟩
end Go.Proofs.YtdmnhpgafbcehaaDoor
set_option maxRecDepth 100000
namespace Go.Proofs.YtdmnhpgafbcehaaDoor
open Go.ChangeShapes Go.WideShapes Go.ChangeAt Go.RowKit
attribute [local go_sem] Gives
theorem B256.at' {l : List Nat} (h : B256 l) (k : Nat) : ShaM.at' l k < 256 := ShaM.getD_lt (by omega) h k
set_option maxHeartbeats 400000 in
set_option maxRecDepth 100000 in
theorem passes_any (s : ShaM.S8) (hs : s.ok) (A : Option Addr) (l : List Nat) (n cap : Nat) (hl : l.length = n) (hc : n ≤ cap) (hm : cap ≤ maxLen) (hb : B256 l) (w : World) (hA : Byt w w.heap.size A l) (hS : Salts w) :
    Calls Tryd.prog 78 #[.agg (num8 s.get), .slice A n cap] w fun e w' => e = .returned (.agg (num8 (ShaM.passes s l).get)) ∧ Below w.heap.size w w' := by
  unfold maxLen at hm
  have HS := hid hs
  have HB := hid hb
  have HA := hid hA
  have SA := hid hS
  have HL := hid hl
  clear hs hb hA hS hl
  go_enter Tryd.func78, Tryd.ntmps78
  go_wp2_with fail
  generalize hw3 : World.alloc (World.alloc w _) _ = w3
  have b1 : Blk w3 w.heap.size 105 (num8 s.get) := by rw [← hw3]; exact (Blk.top rfl rfl).alloc _
  have b2 : Blk w3 (w.heap.size + 1) 105 (num8 fun _ => 0) := by rw [← hw3]; exact Blk.top zlit8 (by simp)
  have hb : Below w.heap.size w w3 := by rw [← hw3]; exact ((Below.refl _ _).alloc (Nat.le_refl _) _).alloc (by simp) _
  clear hw3
  have ha := HA.out.below hb (Nat.le_refl _)
  go_loopw [1] (fun v wr => ∃ (A' : Option Addr) (l' : List Nat) (n' cap' : Nat) (s' : ShaM.S8), v = .slice A' n' cap' ∧ Hid (l'.length = n') ∧ n' ≤ cap' ∧ cap' ≤ 9223372036854775807 ∧ Hid (B256 l') ∧ Hid s'.ok ∧ Hid (ShaM.passes s' l' = ShaM.passes s l) ∧
    Byt wr w.heap.size A' l' ∧ Blk wr w.heap.size 105 (num8 s'.get) ∧ Blk wr (w.heap.size + 1) 105 (num8 fun _ => 0) ∧ Below w.heap.size w wr) (fun v _ => lenOf v)
  case atStart => exact ⟨A, l, n, cap, s, rfl, HL, hc, by omega, HB, HS, hid rfl, ha, b1, b2, hb⟩
  case round =>
    clear ha b1 b2 hb
    obtain ⟨A', l', n', cap', s', rfl, hl, hc', hm', hb', hs', hp, ha, b1, b2, hb⟩ := hrel
    by_cases hlt : 64 ≤ n'
    · have t0 : decide ((64 : Int) ≤ (n' : Int)) = true := by simp; omega
      obtain ⟨b, o, rfl, hbB, hr⟩ := ha (by have := hl.out; omega)
      clear hr
      have HA' := hid ha
      have B1 := hid b1
      have B2 := hid b2
      have BEL := hid hb
      clear ha b1 b2 hb
      go_wp2_with fail
      refine wp_region_tail (C := fun w' => Below wr.heap.size wr w') 4 (by kernel_rfl) (by kernel_rfl) (by kernel_rfl) (Below.refl _ _).drew ?_
      simp only [List.take_succ_cons, List.take_zero, List.drop_succ_cons, List.drop_zero]
      have hc64 : (64 : Int) ≤ (cap' : Int) := by omega
      apply kln
      · rfl
      · rfl
      · exact fun w' hw' => B1.out.below hw' B1.out.lt
      simp only [Act.put, List.setIfInBounds_toArray, List.set_cons_succ, List.set_cons_zero]
      apply wpK_val
      · rfl
      · intro w' hw'
        go_simp
        first | exact rfl | exact ⟨rfl, hw'⟩
      simp only [Act.put, List.setIfInBounds_toArray, List.set_cons_succ, List.set_cons_zero]
      apply wpK_val
      · rfl
      · intro w' hw'
        go_simp
        first | exact rfl | exact ⟨rfl, hw'⟩
      simp only [Act.put, List.setIfInBounds_toArray, List.set_cons_succ, List.set_cons_zero]
      apply wpK_val
      · rfl
      · intro w' hw'
        go_simp
        exact (pass_any s' hs'.out _ (l'.take 64) cap' (by rw [List.length_take]; have := hl.out; omega) (fun k => (hb'.out.take 64).at' k) _ (((HA'.out.take 64).below (hw'.mono BEL.out.size) (Nat.le_refl _)).more (Nat.le_trans BEL.out.size hw'.size)) (SA.out.on (BEL.out.trans (hw'.mono BEL.out.size)))).mono fun e w'' ⟨he, hb''⟩ => ⟨he, hw'.trans (hb''.mono hw'.size)⟩
      simp only [Act.put, List.setIfInBounds_toArray, List.set_cons_succ, List.set_cons_zero]
      refine wpK_nil fun w4 hw4 => ?_
      have b1 := B1.out.below hw4 B1.out.lt
      have b2 := B2.out.below hw4 B2.out.lt
      have bel := BEL.out.trans (hw4.mono BEL.out.size)
      have ha := HA'.out.below (hw4.mono BEL.out.size) (Nat.le_refl _)
      have B2 := hid b2
      have BEL := hid bel
      have HA' := hid ha
      clear b2 bel ha
      go_wp2_with ((with_reducible apply stn); rfl; rfl; exact b1)
      have hl' := hl.out
      have e1 : ShaM.pass s' (ShaM.at' (List.take 64 l')) = ShaM.pass s' (ShaM.at' l') := ShaM.pass_congr s' fun k hk => getD_take hk
      go_roundw
      case rel =>
        refine ⟨_, l'.drop 64, n' - 64, cap' - 64, ShaM.pass s' (ShaM.at' l'), rfl, hid (by rw [List.length_drop]; omega), by omega, by omega, hid (hb'.out.drop 64), hid (ShaM.pass_ok _ _), hid ?_, ?_, ?_, ?_, ?_⟩
        · rw [← hp.out, ShaM.passes_long (l := l') (by omega)]
        · have hd := (HA'.out.below (below_setRow (Below.refl w.heap.size w4) (Nat.le_refl _) (num8 (ShaM.pass s' (ShaM.at' (List.take 64 l'))).get)) (Nat.le_refl _)).drop 64
          by_cases h64 : cap' = 64
          · exact Byt.none (by rw [List.length_drop]; omega)
          · rw [if_neg h64]; exact hd
        · rw [e1]; exact b1.setRow_same _
        · exact B2.out.setRow_other (by omega) _
        · exact below_setRow BEL.out (Nat.le_refl _) _
      case measure => simp [lenOf]; omega
    · have t0 : decide ((64 : Int) ≤ (n' : Int)) = false := by simp; omega
      have hf : ShaM.passes s l = s' := by rw [← hp.out, ShaM.passes_short (by have := hl.out; omega)]
      have HF := hid hf
      clear hf ha
      go_wp2_with (first | ((with_reducible apply ldn); rfl; assumption) | ((with_reducible apply stn); rfl; rfl; assumption))
      apply ret_row Tryd.results78
      · exact b2.setRow_same _
      · exact Tryd.underlying105
      · rfl
      · exact (info_num8.trans (by rw [size_num8]))
      · rfl
      · rfl
      exact ⟨by rw [HF.out], below_setRow hb (by omega) _⟩
end Go.Proofs.YtdmnhpgafbcehaaDoor
set_option maxRecDepth 100000
namespace Go.Proofs.YtdmnhpgafbcehaaDoor
open Go.ChangeShapes Go.WideShapes Go.ChangeAt Go.RowKit
attribute [local go_sem] Gives
/-- 32 bytes. -/
def tag (f : Nat → Nat) : Array Value := row 32 fun j => .int .u8 (f j : Nat)
theorem size_tag {f : Nat → Nat} : (tag f).size = 32 := size_row
theorem get_tag {f : Nat → Nat} {k : Nat} (h : k < 32) : (tag f)[k]? = some (.int .u8 (f k : Nat)) := get_row_lt h
theorem tag_ext {f g : Nat → Nat} (h : ∀ k, k < 32 → f k = g k) : tag f = tag g := row_ext fun k hk => by rw [h k hk]
theorem tag_set {f : Nat → Nat} {k v : Nat} : (tag f).setIfInBounds k (.int .u8 (v : Nat)) = tag fun j => if j = k then v else f j := by
  unfold tag
  rw [row_set]
  exact row_ext fun j _ => by by_cases e : j = k <;> simp [e]
theorem tag_one {f : Nat → Nat} : (tag f).all (·.oneCell') = true := row_one fun _ _ => rfl
theorem zlit_tag : (#[.int .u8 0, .int .u8 0, .int .u8 0, .int .u8 0, .int .u8 0, .int .u8 0, .int .u8 0, .int .u8 0, .int .u8 0, .int .u8 0, .int .u8 0, .int .u8 0, .int .u8 0, .int .u8 0, .int .u8 0, .int .u8 0, .int .u8 0, .int .u8 0, .int .u8 0, .int .u8 0, .int .u8 0, .int .u8 0, .int .u8 0, .int .u8 0, .int .u8 0, .int .u8 0, .int .u8 0, .int .u8 0, .int .u8 0, .int .u8 0, .int .u8 0, .int .u8 0] : Array Value) = tag fun _ => 0 := by rfl
theorem info_tag : (Tryd.prog.info? 36).map (·.size) = some 32 := by kernel_rfl
section
variable {ops : Array Oper} {Q : Exit → Act → World → Prop} {a : Act} {w : World} {rest : List Oper} {dst : Option Tmp} {ty : TypeId} {pos : String} {after : Array Edge} {x y : Operand} {g : Nat} {f f0 : Nat → Nat}
theorem ldt (hx : a.eval x = .pointer (some ⟨g, 0, none⟩)) (hb : Blk w g 36 (tag f)) (h : wpList Tryd.prog ops Q rest (a.put dst (.agg (tag f))) w) :
    wpList Tryd.prog ops Q (⟨dst, .load 36 x, ty, pos, after, none⟩ :: rest) a w :=
  step_load_row hb Tryd.underlying36 rfl (info_tag.trans (by rw [size_tag])) hx h
theorem stt (hx : a.eval x = .pointer (some ⟨g, 0, none⟩)) (hy : a.eval y = .agg (tag f)) (hb : Blk w g 36 (tag f0)) (h : wpList Tryd.prog ops Q rest (a.put dst undef) (w.setRow g (tag f))) :
    wpList Tryd.prog ops Q (⟨dst, .store 36 x y, ty, pos, after, none⟩ :: rest) a w :=
  step_store_row hb (info_tag.trans (by rw [size_tag])) (by rw [size_tag, size_tag]) tag_one hx hy h
end
theorem run_index8 (f : Nat → Nat) {k : Nat} (hk : k < 8) (w : World) : (Instr.index 105 (.agg (num8 f)) (.int .i64 k)).run Tryd.prog w = .ok (.int .u32 (f k : Nat)) w := by
  have h1 : (0 : Int) ≤ (k : Int) ∧ (k : Int) < 8 := by omega
  simp [Instr.index, run_underlying Tryd.underlying105, asIntOf, h1, go_sem]
  rw [if_pos hk, get_num8 hk]; rfl
/-- The first c bytes of a digest. -/
def dg (s : ShaM.S8) (c : Nat) : Nat → Nat := fun j => if j < c then ShaM.digest s j else 0
theorem dg_zero (s : ShaM.S8) : dg s 0 = fun _ => 0 := funext fun j => by simp [dg]
theorem dg_step (s : ShaM.S8) (c : Nat) : (fun j => if j = c then ShaM.digest s c else dg s c j) = dg s (c + 1) := funext fun j => by
  unfold dg
  by_cases h : j = c
  · subst h; simp
  · simp only [h, if_false]
    by_cases h2 : j < c
    · rw [if_pos h2, if_pos (by omega)]
    · rw [if_neg h2, if_neg (by omega)]
theorem dg_full (s : ShaM.S8) : tag (dg s 32) = tag (ShaM.digest s) := tag_ext fun k hk => by unfold dg; rw [if_pos hk]
set_option maxHeartbeats 400000 in
set_option maxRecDepth 100000 in
theorem digest_any (s : ShaM.S8) (hs : s.ok) (w : World) :
    Calls Tryd.prog 79 #[.agg (num8 s.get)] w fun e w' => e = .returned (.agg (tag (ShaM.digest s))) ∧ Below w.heap.size w w' := by
  have HS := hid hs
  clear hs
  go_enter Tryd.func79, Tryd.ntmps79
  go_upto_region 2 with fail
  generalize hw3 : World.alloc (World.alloc (World.alloc w _) _) _ = w3
  have b1 : Blk w3 w.heap.size 105 (num8 s.get) := by rw [← hw3]; exact ((Blk.top rfl rfl).alloc _).alloc _
  have b2 : Blk w3 (w.heap.size + 1) 36 (tag fun _ => 0) := by rw [← hw3]; exact (Blk.top zlit_tag (by simp)).alloc _
  have b3 : Blk w3 (w.heap.size + 2) 36 (tag (dg s 0)) := by rw [← hw3, dg_zero]; exact Blk.top zlit_tag (by simp)
  have hb : Below w.heap.size w w3 := by rw [← hw3]; exact (((Below.refl _ _).alloc (Nat.le_refl _) _).alloc (by simp) _).alloc (by simp; omega) _
  clear hw3
  go_wp2_with ((with_reducible apply ldn); rfl; exact b1)
  clear b1
  go_loopw [8] (fun i wr => ∃ k : Nat, k ≤ 8 ∧ i = .int .i64 k ∧ Blk wr (w.heap.size + 1) 36 (tag fun _ => 0) ∧ Blk wr (w.heap.size + 2) 36 (tag (dg s (4 * k))) ∧ Below w.heap.size w wr) (fun i _ => 8 - (intOf i).toNat)
  case atStart => exact ⟨0, by omega, rfl, b2, b3, hb⟩
  case round =>
    clear b2 b3 hb
    obtain ⟨k, hk, rfl, b2, b3, hb⟩ := hrel
    by_cases hlt : k < 8
    · have tk : (k : Int) < 8 := by omega
      have hI := fun w => run_index8 s.get hlt w
      go_wp2_with fail
      clear hI
      go_loopw [12] (fun i wr => ∃ j : Nat, j ≤ 4 ∧ i = .int .i64 j ∧ Blk wr (w.heap.size + 1) 36 (tag fun _ => 0) ∧ Blk wr (w.heap.size + 2) 36 (tag (dg s (4 * k + j))) ∧ Below w.heap.size w wr) (fun i _ => 4 - (intOf i).toNat)
      case atStart => exact ⟨0, by omega, rfl, b2, b3, hb⟩
      case round =>
        clear b2 b3 hb
        obtain ⟨j, hj, rfl, b2, b3, hb⟩ := hrel
        by_cases hlj : j < 4
        · have tj : (j : Int) < 4 := by omega
          obtain ⟨c, hc⟩ : ∃ c, c = 4 * k + j := ⟨_, rfl⟩
          rw [← hc] at b3
          have hc32 : c < 32 := by omega
          have hci : (c : Int) < 32 := by omega
          have c1 : wr.cell? ⟨w.heap.size + 2, c, none⟩ = some (.int .u8 (dg s c c : Nat)) := (b3.cell _).trans (get_tag hc32)
          have c3 := b3.frozen c
          have B2 := hid b2
          have B3 := hid b3
          have HW := hid hb
          have HC := hid hc
          have e1 : IntKind.i64.wrap (4 * (k : Int) + (j : Int)) = (c : Int) := wr_nat (by omega) (by omega)
          have e2 : 4 * (k : Int) + (j : Int) = (c : Int) := by omega
          clear b2 b3 hb hc
          go_wp2_with fail
          go_roundw
          case rel =>
            have hc := HC.out
            have hv : ((s.get k : Nat) : Int) / 2 ^ (8 * (3 - j)) % 256 = ((ShaM.digest s c : Nat) : Int) := by
              unfold ShaM.digest
              rw [show c / 4 = k by omega, show c % 4 = j by omega]
              simp
            refine ⟨j + 1, by omega, by go_num, B2.out.setCell_other (by simp) _, ?_, HW.out.setCell (by show w.heap.size ≤ w.heap.size + 1 + 1; omega) _⟩
            have h := B3.out.setCell_same c (.int .u8 (ShaM.digest s c : Nat))
            rw [tag_set, dg_step] at h
            rw [hv, show 4 * k + (j + 1) = c + 1 by omega]
            exact h
          case measure => simp [intOf]; omega
        · have tj : decide ((j : Int) < 4) = false := by simp; omega
          have h4 : 4 * k + j = 4 * (k + 1) := by omega
          rw [h4] at b3
          clear h4
          go_wp2_with fail
          go_roundw
          case rel => exact ⟨k + 1, by omega, by go_num, b2, b3, hb⟩
          case measure => simp [intOf]; omega
    · have tk : decide ((k : Int) < 8) = false := by simp; omega
      rw [show 4 * k = 32 by omega, dg_full] at b3
      go_wp2_with (first | ((with_reducible apply ldt); rfl; assumption) | ((with_reducible apply stt); rfl; rfl; assumption))
      apply ret_row Tryd.results79
      · exact b2.setRow_same _
      · exact Tryd.underlying36
      · rfl
      · exact (info_tag.trans (by rw [size_tag]))
      · rfl
      · rfl
      exact ⟨rfl, below_setRow hb (by omega) _⟩
end Go.Proofs.YtdmnhpgafbcehaaDoor
set_option maxRecDepth 100000
namespace Go.Proofs.YtdmnhpgafbcehaaDoor
open Go.ChangeShapes Go.WideShapes Go.ChangeAt Go.RowKit
attribute [local go_sem] Gives
/-- n bytes. -/
def bts (n : Nat) (f : Nat → Nat) : Array Value := row n fun j => .int .u8 (f j : Nat)
theorem size_bts {n : Nat} {f : Nat → Nat} : (bts n f).size = n := size_row
theorem get_bts {n : Nat} {f : Nat → Nat} {k : Nat} (h : k < n) : (bts n f)[k]? = some (.int .u8 (f k : Nat)) := get_row_lt h
theorem bts_ext {n : Nat} {f g : Nat → Nat} (h : ∀ k, k < n → f k = g k) : bts n f = bts n g := row_ext fun k hk => by rw [h k hk]
theorem bts_set {n : Nat} {f : Nat → Nat} {k v : Nat} : (bts n f).setIfInBounds k (.int .u8 (v : Nat)) = bts n fun j => if j = k then v else f j := by
  unfold bts
  rw [row_set]
  exact row_ext fun j _ => by by_cases e : j = k <;> simp [e]
theorem bts_one {n : Nat} {f : Nat → Nat} : (bts n f).all (·.oneCell') = true := row_one fun _ _ => rfl
theorem zero128 (w : World) : (zeroValue 139).run Tryd.prog w = .ok (.agg (bts 128 fun _ => 0)) w :=
  (zero_of_info (P := Tryd.prog) (t := 139) (v := .agg (bts 128 fun _ => 0)) (n := 128) (by kernel_rfl)).1 w
theorem Blk.byt {w : World} {B g n : Nat} {t : TypeId} {f : Nat → Nat} (h : Blk w g t (bts n f)) (hg : g < B) {l : List Nat} (hl : l.length ≤ n) (he : ∀ j, j < l.length → l.getD j 0 = f j) : Byt w B (some ⟨g, 0, none⟩) l := fun _ =>
  ⟨g, 0, rfl, hg, fun i hi => by rw [Nat.zero_add, h.cell, get_bts (by omega), he i hi]⟩
section
variable {ops : Array Oper} {Q : Exit → Act → World → Prop} {a : Act} {w : World} {rest : List Oper} {dst : Option Tmp} {ty : TypeId} {pos : String} {after : Array Edge} {d s : Operand}
/-- copy of up to n bytes to the front of a block. -/
theorem wcopy {A : Option Addr} {n m cap g B cap' : Nat} {t : TypeId} {l : List Nat} {f : Nat → Nat} (hd : a.eval d = .slice (some ⟨g, 0, none⟩) m cap') (hs : a.eval s = .slice A n cap) (hg : Blk w g t (bts m f)) (hA : Byt w B A l) (hl : l.length = n) (hnm : n ≤ m)
    (h : wpList Tryd.prog ops Q rest (a.put dst (goInt n)) (w.setRow g (bts m fun j => if j < n then ShaM.at' l j else f j))) :
    wpList Tryd.prog ops Q (⟨dst, .call { callee := .builtin .copy, args := #[d, s], argTypes := #[91, 91] }, ty, pos, after, none⟩ :: rest) a w := by
  by_cases h0 : n = 0
  · subst h0
    refine wpList_copy_nothing rfl d s 91 91 rfl 5 Tryd.underlying91 (by kernel_rfl) _ _ _ _ _ _ hd hs (Nat.zero_min _) ?_
    rw [bts_ext (g := f) fun k _ => if_neg (Nat.not_lt_zero _), hg.setRow_id] at h
    exact h
  · obtain ⟨b, o, rfl, hB, hr⟩ := hA (by omega)
    have hlen : (bts n fun j => ShaM.at' l j).toList.length = n := by rw [Array.length_toList, size_bts]
    refine wpList_copy_own rfl d s 91 91 rfl 5 Tryd.underlying91 (by kernel_rfl) g 0 m cap' ⟨b, o, none⟩ n cap hd hs (bts m f) t hg (bts n fun j => ShaM.at' l j).toList (by rw [hlen]; exact (Nat.min_eq_left hnm).symm) ?_ (by rw [hlen, size_bts]; omega) ?_ ?_
    · intro j v hj
      have hjn : j < n := by have := (List.getElem?_eq_some_iff.1 hj).1; rwa [hlen] at this
      rw [Array.getElem?_toList, get_bts hjn] at hj
      rw [← hj, Addr.add_mid]
      exact hr j (by omega)
    · intro v hv
      exact (Array.all_eq_true_iff_forall_mem.1 bts_one) v (by simpa using hv)
    · rw [hlen]
      have e : (List.take 0 (bts m f).toList ++ ((bts n fun j => ShaM.at' l j).toList ++ (bts m f).toList.drop (0 + n))).toArray = bts m fun j => if j < n then ShaM.at' l j else f j := by
        apply Array.ext_getElem?
        intro k
        rw [List.getElem?_toArray, List.take_zero, List.nil_append, List.getElem?_append, hlen, Nat.zero_add]
        by_cases hk : k < n
        · rw [if_pos hk, Array.getElem?_toList, get_bts hk, get_bts (by omega), if_pos hk]
        · rw [if_neg hk, List.getElem?_drop, Array.getElem?_toList, show n + (k - n) = k by omega]
          unfold bts
          simp only [get_row, if_neg hk]
      rw [e]
      exact h
end
set_option maxHeartbeats 400000 in
set_option maxRecDepth 100000 in
theorem finish_short (s : ShaM.S8) (hs : s.ok) (A : Option Addr) (l : List Nat) (n cap size : Nat) (hl : l.length = n) (hn : n < 64) (hcond : n + 9 ≤ 64) (hsz : size % 64 = n) (hm : size ≤ 1000000000000000) (hb : B256 l) (w : World) (hA : Byt w w.heap.size A l) (hS : Salts w) :
    Calls Tryd.prog 80 #[.agg (num8 s.get), .slice A n cap, .int .i64 size] w fun e w' => e = .returned (.agg (num8 (ShaM.passes s (l ++ ShaM.tail size)).get)) ∧ Below w.heap.size w w' := by
  have HS := hid hs
  have HB := hid hb
  have HA := hid hA
  have SA := hid hS
  have HL := hid hl
  have HZ := hid hsz
  clear hs hb hA hS hl hsz
  have tn : (n : Int) < 64 := by omega
  have hZ := zero128
  go_enter Tryd.func80, Tryd.ntmps80
  go_upto_region 2 with fail
  clear hZ
  generalize hw3 : World.alloc (World.alloc (World.alloc w _) _) _ = w3
  have b1 : Blk w3 w.heap.size 105 (num8 s.get) := by rw [← hw3]; exact ((Blk.top rfl rfl).alloc _).alloc _
  have b2 : Blk w3 (w.heap.size + 1) 105 (num8 fun _ => 0) := by rw [← hw3]; exact (Blk.top zlit8 (by simp)).alloc _
  have b3 : Blk w3 (w.heap.size + 2) 139 (bts 128 fun _ => 0) := by rw [← hw3]; exact Blk.top rfl (by simp)
  have hb : Below w.heap.size w w3 := by rw [← hw3]; exact (((Below.refl _ _).alloc (Nat.le_refl _) _).alloc (by simp) _).alloc (by simp; omega) _
  clear hw3
  have ha := (HA.out.below hb (Nat.le_refl _))
  go_upto_region 3 with ((with_reducible apply wcopy); rfl; rfl; exact b3; exact ha; exact HL.out; omega)
  generalize hw4 : World.setRow _ _ _ = w4
  have c3 : Blk w4 (w.heap.size + 2) 139 (bts 128 fun j => if j < n then ShaM.at' l j else 0) := by rw [← hw4]; exact b3.setRow_same _
  have c1 : Blk w4 w.heap.size 105 (num8 s.get) := by rw [← hw4]; exact b1.setRow_other (by omega) _
  have c2 : Blk w4 (w.heap.size + 1) 105 (num8 fun _ => 0) := by rw [← hw4]; exact b2.setRow_other (by omega) _
  have cb : Below w.heap.size w w4 := by rw [← hw4]; exact below_setRow hb (by omega) _
  clear hw4 b1 b2 b3 hb ha w3
  have q1 := (c3.cell n).trans (get_bts (by omega))
  have q3 := c3.frozen n
  have C1 := hid c1
  have C2 := hid c2
  have C3 := hid c3
  have CB := hid cb
  clear c1 c2 c3 cb
  go_upto_region 4 with fail
  clear q1 q3
  generalize hw5 : World.setCell _ _ _ = w5
  have c3 : Blk w5 (w.heap.size + 2) 139 (bts 128 (ShaM.fin l size 64 0)) := by
    rw [← hw5]
    have h := C3.out.setCell_same n (.int .u8 (128 : Nat))
    rw [bts_set] at h
    rw [← ShaM.fin_zero, HL.out]
    exact h
  have c1 : Blk w5 w.heap.size 105 (num8 s.get) := by rw [← hw5]; exact C1.out.setCell_other (by show w.heap.size + 1 + 1 ≠ w.heap.size; omega) _
  have c2 : Blk w5 (w.heap.size + 1) 105 (num8 fun _ => 0) := by rw [← hw5]; exact C2.out.setCell_other (by simp) _
  have cb : Below w.heap.size w w5 := by rw [← hw5]; exact CB.out.setCell (by show w.heap.size ≤ w.heap.size + 1 + 1; omega) _
  clear hw5 C1 C2 C3 CB w4
  go_wp2_with fail
  go_loopw [24] (fun v wr => ∃ i : Nat, i ≤ 8 ∧ v = .int .i64 i ∧ Blk wr (w.heap.size + 2) 139 (bts 128 (ShaM.fin l size 64 i)) ∧ Blk wr w.heap.size 105 (num8 s.get) ∧
    Blk wr (w.heap.size + 1) 105 (num8 fun _ => 0) ∧ Below w.heap.size w wr) (fun v _ => 8 - (intOf v).toNat)
  case atStart => exact ⟨0, by omega, rfl, c3, c1, c2, cb⟩
  case round =>
    clear c1 c2 c3 cb
    obtain ⟨i, hi, rfl, c3, c1, c2, cb⟩ := hrel
    by_cases hlt : i < 8
    · have ti : (i : Int) < 8 := by omega
      obtain ⟨c, hc⟩ : ∃ c, c = 64 - 1 - i := ⟨_, rfl⟩
      have e1 : IntKind.i64.wrap (63 - (i : Int)) = (c : Int) := wr_nat (by omega) (by omega)
      have e2 : 63 - (i : Int) = (c : Int) := by omega
      have hci : (c : Int) < 128 := by omega
      have HC := hid hc
      have hc128 : c < 128 := by omega
      clear hc
      have q1 := (c3.cell c).trans (get_bts hc128)
      have q3 := c3.frozen c
      have C1 := hid c1
      have C2 := hid c2
      have C3 := hid c3
      have CB := hid cb
      clear c1 c2 c3 cb
      go_wp2_with fail
      go_roundw
      case rel =>
        refine ⟨i + 1, by omega, by go_num, ?_, C1.out.setCell_other (by show w.heap.size + 1 + 1 ≠ w.heap.size; omega) _, C2.out.setCell_other (by show w.heap.size + 1 + 1 ≠ w.heap.size + 1; omega) _, CB.out.setCell (by show w.heap.size ≤ w.heap.size + 1 + 1; omega) _⟩
        have h := C3.out.setCell_same c (.int .u8 (8 * size / 2 ^ (8 * i) % 256 : Nat))
        rw [bts_set, ShaM.fin_step l (by have := HL.out; omega) hlt (by have := HC.out; omega)] at h
        rw [show (8 * (size : Int) / 2 ^ (8 * i) % 256) = ((8 * size / 2 ^ (8 * i) % 256 : Nat) : Int) by simp]
        exact h
      case measure => simp [intOf]; omega
    · have ti : decide ((i : Int) < 8) = false := by simp; omega
      rw [show i = 8 by omega] at c3
      have h64 : 64 = if l.length + 9 ≤ 64 then 64 else 128 := by have := HL.out; split <;> omega
      have hlen : (l ++ ShaM.tail size).length = 64 := ShaM.ended_length (by rw [HL.out]; exact HZ.out) h64
      have hby : Byt wr (w.heap.size + 3) (some ⟨w.heap.size + 2, 0, none⟩) (l ++ ShaM.tail size) := c3.byt (by omega) (by omega) fun j hj => ShaM.ended_get (by rw [HL.out]; exact HZ.out) h64 (by omega)
      have C1 := hid c1
      have C2 := hid c2
      have C3 := hid c3
      have CB := hid cb
      have HLEN := hid hlen
      have BY := hid hby
      clear c1 c2 c3 cb h64 hlen hby
      go_wp2_with fail
      refine wp_region_tail (C := fun w' => Below wr.heap.size wr w') 4 (by kernel_rfl) (by kernel_rfl) (by kernel_rfl) (Below.refl _ _).drew ?_
      simp only [List.take_succ_cons, List.take_zero, List.drop_succ_cons, List.drop_zero]
      apply kln
      · rfl
      · rfl
      · exact fun w' hw' => C1.out.below hw' C1.out.lt
      simp only [Act.put, List.setIfInBounds_toArray, List.set_cons_succ, List.set_cons_zero]
      apply wpK_val
      · rfl
      · intro w' hw'
        go_simp
        first | exact rfl | exact ⟨rfl, hw'⟩
      simp only [Act.put, List.setIfInBounds_toArray, List.set_cons_succ, List.set_cons_zero]
      apply wpK_val
      · rfl
      · intro w' hw'
        go_simp
        first | exact rfl | exact ⟨rfl, hw'⟩
      simp only [Act.put, List.setIfInBounds_toArray, List.set_cons_succ, List.set_cons_zero]
      apply wpK_val
      · rfl
      · intro w' hw'
        go_simp
        exact (passes_any s HS.out _ (l ++ ShaM.tail size) 64 128 HLEN.out (by omega) (by unfold maxLen; omega) (HB.out.append (ShaM.tail_256 size)) _ (((BY.out.below hw' (by have := C3.out.lt; omega)).more (Nat.le_trans (by have := C3.out.lt; omega) hw'.size))) (SA.out.on (CB.out.trans (hw'.mono CB.out.size)))).mono fun e w'' ⟨he, hb''⟩ => ⟨he, hw'.trans (hb''.mono hw'.size)⟩
      simp only [Act.put, List.setIfInBounds_toArray, List.set_cons_succ, List.set_cons_zero]
      refine wpK_nil fun w4 hw4 => ?_
      have c2 := C2.out.below hw4 C2.out.lt
      have cb := CB.out.trans (hw4.mono CB.out.size)
      go_wp2_with ((with_reducible apply stn); rfl; rfl; exact c2)
      apply ret_row Tryd.results80
      · exact c2.setRow_same _
      · exact Tryd.underlying105
      · rfl
      · exact (info_num8.trans (by rw [size_num8]))
      · rfl
      · rfl
      exact ⟨rfl, below_setRow cb (by omega) _⟩
set_option maxHeartbeats 400000 in
set_option maxRecDepth 100000 in
theorem finish_long (s : ShaM.S8) (hs : s.ok) (A : Option Addr) (l : List Nat) (n cap size : Nat) (hl : l.length = n) (hn : n < 64) (hcond : 64 < n + 9) (hsz : size % 64 = n) (hm : size ≤ 1000000000000000) (hb : B256 l) (w : World) (hA : Byt w w.heap.size A l) (hS : Salts w) :
    Calls Tryd.prog 80 #[.agg (num8 s.get), .slice A n cap, .int .i64 size] w fun e w' => e = .returned (.agg (num8 (ShaM.passes s (l ++ ShaM.tail size)).get)) ∧ Below w.heap.size w w' := by
  have HS := hid hs
  have HB := hid hb
  have HA := hid hA
  have SA := hid hS
  have HL := hid hl
  have HZ := hid hsz
  clear hs hb hA hS hl hsz
  have tn : (n : Int) < 64 := by omega
  have hZ := zero128
  go_enter Tryd.func80, Tryd.ntmps80
  go_upto_region 2 with fail
  clear hZ
  generalize hw3 : World.alloc (World.alloc (World.alloc w _) _) _ = w3
  have b1 : Blk w3 w.heap.size 105 (num8 s.get) := by rw [← hw3]; exact ((Blk.top rfl rfl).alloc _).alloc _
  have b2 : Blk w3 (w.heap.size + 1) 105 (num8 fun _ => 0) := by rw [← hw3]; exact (Blk.top zlit8 (by simp)).alloc _
  have b3 : Blk w3 (w.heap.size + 2) 139 (bts 128 fun _ => 0) := by rw [← hw3]; exact Blk.top rfl (by simp)
  have hb : Below w.heap.size w w3 := by rw [← hw3]; exact (((Below.refl _ _).alloc (Nat.le_refl _) _).alloc (by simp) _).alloc (by simp; omega) _
  clear hw3
  have ha := (HA.out.below hb (Nat.le_refl _))
  go_upto_region 3 with ((with_reducible apply wcopy); rfl; rfl; exact b3; exact ha; exact HL.out; omega)
  generalize hw4 : World.setRow _ _ _ = w4
  have c3 : Blk w4 (w.heap.size + 2) 139 (bts 128 fun j => if j < n then ShaM.at' l j else 0) := by rw [← hw4]; exact b3.setRow_same _
  have c1 : Blk w4 w.heap.size 105 (num8 s.get) := by rw [← hw4]; exact b1.setRow_other (by omega) _
  have c2 : Blk w4 (w.heap.size + 1) 105 (num8 fun _ => 0) := by rw [← hw4]; exact b2.setRow_other (by omega) _
  have cb : Below w.heap.size w w4 := by rw [← hw4]; exact below_setRow hb (by omega) _
  clear hw4 b1 b2 b3 hb ha w3
  have q1 := (c3.cell n).trans (get_bts (by omega))
  have q3 := c3.frozen n
  have C1 := hid c1
  have C2 := hid c2
  have C3 := hid c3
  have CB := hid cb
  clear c1 c2 c3 cb
  go_upto_region 4 with fail
  clear q1 q3
  generalize hw5 : World.setCell _ _ _ = w5
  have c3 : Blk w5 (w.heap.size + 2) 139 (bts 128 (ShaM.fin l size 128 0)) := by
    rw [← hw5]
    have h := C3.out.setCell_same n (.int .u8 (128 : Nat))
    rw [bts_set] at h
    rw [← ShaM.fin_zero, HL.out]
    exact h
  have c1 : Blk w5 w.heap.size 105 (num8 s.get) := by rw [← hw5]; exact C1.out.setCell_other (by show w.heap.size + 1 + 1 ≠ w.heap.size; omega) _
  have c2 : Blk w5 (w.heap.size + 1) 105 (num8 fun _ => 0) := by rw [← hw5]; exact C2.out.setCell_other (by simp) _
  have cb : Below w.heap.size w w5 := by rw [← hw5]; exact CB.out.setCell (by show w.heap.size ≤ w.heap.size + 1 + 1; omega) _
  clear hw5 C1 C2 C3 CB w4
  go_wp2_with fail
  go_loopw [24] (fun v wr => ∃ i : Nat, i ≤ 8 ∧ v = .int .i64 i ∧ Blk wr (w.heap.size + 2) 139 (bts 128 (ShaM.fin l size 128 i)) ∧ Blk wr w.heap.size 105 (num8 s.get) ∧
    Blk wr (w.heap.size + 1) 105 (num8 fun _ => 0) ∧ Below w.heap.size w wr) (fun v _ => 8 - (intOf v).toNat)
  case atStart => exact ⟨0, by omega, rfl, c3, c1, c2, cb⟩
  case round =>
    clear c1 c2 c3 cb
    obtain ⟨i, hi, rfl, c3, c1, c2, cb⟩ := hrel
    by_cases hlt : i < 8
    · have ti : (i : Int) < 8 := by omega
      obtain ⟨c, hc⟩ : ∃ c, c = 128 - 1 - i := ⟨_, rfl⟩
      have e1 : IntKind.i64.wrap (127 - (i : Int)) = (c : Int) := wr_nat (by omega) (by omega)
      have e2 : 127 - (i : Int) = (c : Int) := by omega
      have hci : (c : Int) < 128 := by omega
      have HC := hid hc
      have hc128 : c < 128 := by omega
      clear hc
      have q1 := (c3.cell c).trans (get_bts hc128)
      have q3 := c3.frozen c
      have C1 := hid c1
      have C2 := hid c2
      have C3 := hid c3
      have CB := hid cb
      clear c1 c2 c3 cb
      go_wp2_with fail
      go_roundw
      case rel =>
        refine ⟨i + 1, by omega, by go_num, ?_, C1.out.setCell_other (by show w.heap.size + 1 + 1 ≠ w.heap.size; omega) _, C2.out.setCell_other (by show w.heap.size + 1 + 1 ≠ w.heap.size + 1; omega) _, CB.out.setCell (by show w.heap.size ≤ w.heap.size + 1 + 1; omega) _⟩
        have h := C3.out.setCell_same c (.int .u8 (8 * size / 2 ^ (8 * i) % 256 : Nat))
        rw [bts_set, ShaM.fin_step l (by have := HL.out; omega) hlt (by have := HC.out; omega)] at h
        rw [show (8 * (size : Int) / 2 ^ (8 * i) % 256) = ((8 * size / 2 ^ (8 * i) % 256 : Nat) : Int) by simp]
        exact h
      case measure => simp [intOf]; omega
    · have ti : decide ((i : Int) < 8) = false := by simp; omega
      rw [show i = 8 by omega] at c3
      have h128 : 128 = if l.length + 9 ≤ 64 then 64 else 128 := by have := HL.out; split <;> omega
      have hlen : (l ++ ShaM.tail size).length = 128 := ShaM.ended_length (by rw [HL.out]; exact HZ.out) h128
      have hby : Byt wr (w.heap.size + 3) (some ⟨w.heap.size + 2, 0, none⟩) (l ++ ShaM.tail size) := c3.byt (by omega) (by omega) fun j hj => ShaM.ended_get (by rw [HL.out]; exact HZ.out) h128 (by omega)
      have C1 := hid c1
      have C2 := hid c2
      have C3 := hid c3
      have CB := hid cb
      have HLEN := hid hlen
      have BY := hid hby
      clear c1 c2 c3 cb h128 hlen hby
      go_wp2_with fail
      refine wp_region_tail (C := fun w' => Below wr.heap.size wr w') 4 (by kernel_rfl) (by kernel_rfl) (by kernel_rfl) (Below.refl _ _).drew ?_
      simp only [List.take_succ_cons, List.take_zero, List.drop_succ_cons, List.drop_zero]
      apply kln
      · rfl
      · rfl
      · exact fun w' hw' => C1.out.below hw' C1.out.lt
      simp only [Act.put, List.setIfInBounds_toArray, List.set_cons_succ, List.set_cons_zero]
      apply wpK_val
      · rfl
      · intro w' hw'
        go_simp
        first | exact rfl | exact ⟨rfl, hw'⟩
      simp only [Act.put, List.setIfInBounds_toArray, List.set_cons_succ, List.set_cons_zero]
      apply wpK_val
      · rfl
      · intro w' hw'
        go_simp
        first | exact rfl | exact ⟨rfl, hw'⟩
      simp only [Act.put, List.setIfInBounds_toArray, List.set_cons_succ, List.set_cons_zero]
      apply wpK_val
      · rfl
      · intro w' hw'
        go_simp
        exact (passes_any s HS.out _ (l ++ ShaM.tail size) 128 128 HLEN.out (by omega) (by unfold maxLen; omega) (HB.out.append (ShaM.tail_256 size)) _ (((BY.out.below hw' (by have := C3.out.lt; omega)).more (Nat.le_trans (by have := C3.out.lt; omega) hw'.size))) (SA.out.on (CB.out.trans (hw'.mono CB.out.size)))).mono fun e w'' ⟨he, hb''⟩ => ⟨he, hw'.trans (hb''.mono hw'.size)⟩
      simp only [Act.put, List.setIfInBounds_toArray, List.set_cons_succ, List.set_cons_zero]
      refine wpK_nil fun w4 hw4 => ?_
      have c2 := C2.out.below hw4 C2.out.lt
      have cb := CB.out.trans (hw4.mono CB.out.size)
      go_wp2_with ((with_reducible apply stn); rfl; rfl; exact c2)
      apply ret_row Tryd.results80
      · exact c2.setRow_same _
      · exact Tryd.underlying105
      · rfl
      · exact (info_num8.trans (by rw [size_num8]))
      · rfl
      · rfl
      exact ⟨rfl, below_setRow cb (by omega) _⟩
theorem finish_any (s : ShaM.S8) (hs : s.ok) (A : Option Addr) (l : List Nat) (n cap size : Nat) (hl : l.length = n) (hn : n < 64) (hsz : size % 64 = n) (hm : size ≤ 1000000000000000) (hb : B256 l) (w : World) (hA : Byt w w.heap.size A l) (hS : Salts w) :
    Calls Tryd.prog 80 #[.agg (num8 s.get), .slice A n cap, .int .i64 size] w fun e w' => e = .returned (.agg (num8 (ShaM.passes s (l ++ ShaM.tail size)).get)) ∧ Below w.heap.size w w' := by
  rcases Nat.lt_or_ge 64 (n + 9) with h | h
  · exact finish_long s hs A l n cap size hl hn h hsz hm hb w hA hS
  · exact finish_short s hs A l n cap size hl hn h hsz hm hb w hA hS
end Go.Proofs.YtdmnhpgafbcehaaDoor
set_option maxRecDepth 100000
namespace Go.Proofs.YtdmnhpgafbcehaaDoor
open Go.ChangeShapes Go.WideShapes Go.ChangeAt Go.RowKit
attribute [local go_sem] Gives
/-- A prefix: eight numbers, how many bytes, is it one. -/
def pre (f : Nat → Nat) (m : Nat) (b : Bool) : Array Value := row 10 fun j => if j < 8 then .int .u32 (f j : Nat) else if j = 8 then .int .i64 m else .bool b
theorem size_pre {f : Nat → Nat} {m : Nat} {b : Bool} : (pre f m b).size = 10 := size_row
theorem pre_one {f : Nat → Nat} {m : Nat} {b : Bool} : (pre f m b).all (·.oneCell') = true := row_one fun k _ => by
  by_cases h : k < 8
  · simp only [h, if_true]; rfl
  · simp only [h, if_false]
    by_cases h2 : k = 8
    · simp only [h2, if_true]; rfl
    · simp only [h2, if_false]; rfl
theorem info_pre : (Tryd.prog.info? 107).map (·.size) = some 10 := by kernel_rfl
theorem built_pre (f : Nat → Nat) : Tryd.prog.built 107 [(0, .agg (num8 f)), (2, .bool true)] = some (pre f 0 true) := by kernel_rfl
theorem built_pre3 (f : Nat → Nat) (m : Nat) : Tryd.prog.built 107 [(0, .agg (num8 f)), (1, .int .i64 m), (2, .bool true)] = some (pre f m true) := by kernel_rfl
theorem zlit_pre : (#[.int .u32 0, .int .u32 0, .int .u32 0, .int .u32 0, .int .u32 0, .int .u32 0, .int .u32 0, .int .u32 0, .int .i64 0, .bool false] : Array Value) = pre (fun _ => 0) 0 false := by rfl
section
variable {ops : Array Oper} {Q : Exit → Act → World → Prop} {a : Act} {w : World} {rest : List Oper} {dst : Option Tmp} {ty : TypeId} {pos : String} {after : Array Edge} {x y : Operand} {g m m0 : Nat} {f f0 : Nat → Nat} {b b0 : Bool}
theorem ldp (hx : a.eval x = .pointer (some ⟨g, 0, none⟩)) (hb : Blk w g 107 (pre f m b)) (h : wpList Tryd.prog ops Q rest (a.put dst (.agg (pre f m b))) w) :
    wpList Tryd.prog ops Q (⟨dst, .load 107 x, ty, pos, after, none⟩ :: rest) a w :=
  step_load_row hb Tryd.underlying107 rfl (info_pre.trans (by rw [size_pre])) hx h
theorem stp (hx : a.eval x = .pointer (some ⟨g, 0, none⟩)) (hy : a.eval y = .agg (pre f m b)) (hb : Blk w g 107 (pre f0 m0 b0)) (h : wpList Tryd.prog ops Q rest (a.put dst undef) (w.setRow g (pre f m b))) :
    wpList Tryd.prog ops Q (⟨dst, .store 107 x y, ty, pos, after, none⟩ :: rest) a w :=
  step_store_row hb (info_pre.trans (by rw [size_pre])) (by rw [size_pre, size_pre]) pre_one hx hy h
theorem bldp (hy : a.eval x = .agg (num8 f)) (h : wpList Tryd.prog ops Q rest (a.put dst (.agg (pre f 0 true))) w) :
    wpList Tryd.prog ops Q (⟨dst, .build 107 #[(0, x), (2, .const (.bool true))], ty, pos, after, none⟩ :: rest) a w := by
  refine wpList_plain rfl fun K hK => ?_
  have hr := run_build (P := Tryd.prog) w 107 #[(0, a.eval x), (2, .bool true)] _ (by rw [hy]; exact built_pre f)
  have he : a.eval (.const (.bool true)) = .bool true := rfl
  unfold Oper.wp
  simp [execOp, he, hr, Result.andThen]
  exact hK _ _ h
theorem klnm {C : World → Prop} {Qk : Act → Prop} {gd : Option (Nat × Bool)} {o : Nat} (hwt : Region.wanted ⟨dst, .load 105 x, ty, pos, after, gd⟩ (yielded ops a.tmps) = true) (hx : a.eval x = .pointer (some ⟨g, o, none⟩)) (hb : ∀ w, C w → w.rangeAt g o (num8 f).toList) (h : wpK Tryd.prog ops C Qk rest (a.put dst (.agg (num8 f)))) :
    wpK Tryd.prog ops C Qk (⟨dst, .load 105 x, ty, pos, after, gd⟩ :: rest) a :=
  wpK_val hwt (fun w hw => gives_value (w' := w) (by
    have := run_loadAt_mid (P := Tryd.prog) w g o 105 (num8 f).toList _ (hb w hw) Tryd.underlying105 rfl (info_num8.trans (by rw [Array.length_toList, size_num8]))
    rw [Array.toArray_toList] at this
    simp only [execOp, hx, Sem.run_bind, this, Result.andThen_ok, Sem.run_pure]) hw) h
set_option maxRecDepth 100000 in
theorem bldp3 {C : World → Prop} {Qk : Act → Prop} {gd : Option (Nat × Bool)} {c : Operand} (hwt : Region.wanted ⟨dst, .build 107 #[(0, x), (1, y), (2, c)], ty, pos, after, gd⟩ (yielded ops a.tmps) = true) (hx : a.eval x = .agg (num8 f)) (hy : a.eval y = .int .i64 m) (hc : a.eval c = .bool true)
    (h : wpK Tryd.prog ops C Qk rest (a.put dst (.agg (pre f m true)))) : wpK Tryd.prog ops C Qk (⟨dst, .build 107 #[(0, x), (1, y), (2, c)], ty, pos, after, gd⟩ :: rest) a :=
  wpK_val hwt (fun w hw => by
    have hr := run_build (P := Tryd.prog) w 107 #[(0, a.eval x), (1, a.eval y), (2, a.eval c)] _ (by rw [hx, hy, hc]; exact built_pre3 f m)
    refine gives_value (w' := w) ?_ hw
    simp [execOp, hr, Result.andThen]) h
end
set_option maxHeartbeats 400000 in
set_option maxRecDepth 100000 in
theorem start_any (w : World) :
    Calls Tryd.prog 84 #[] w fun e w' => e = .returned (.agg (pre ShaM.seeds.get 0 true)) ∧ Below w.heap.size w w' := by
  go_enter Tryd.func84, Tryd.ntmps84
  go_upto_region 1 with fail
  generalize hw3 : World.alloc w _ = w3
  have b1 : Blk w3 w.heap.size 107 (pre (fun _ => 0) 0 false) := by rw [← hw3]; exact Blk.top zlit_pre rfl
  have hb : Below w.heap.size w w3 := by rw [← hw3]; exact (Below.refl _ _).alloc (Nat.le_refl _) _
  have hz := b1.lt
  clear hw3
  go_upto_region 2 with fail
  generalize hw4 : World.alloc w3 _ = w4
  have c2 : Blk w4 w3.heap.size 105 (num8 ShaM.seeds.get) := by rw [← hw4]; exact Blk.top (by rfl) rfl
  have c1 : Blk w4 w.heap.size 107 (pre (fun _ => 0) 0 false) := by rw [← hw4]; exact b1.alloc _
  have cb : Below w.heap.size w w4 := by rw [← hw4]; exact hb.alloc (by omega) _
  clear hw4 b1 hb
  go_wp2_with (first | ((with_reducible apply ldn); rfl; exact c2) | ((with_reducible apply bldp); rfl) | ((with_reducible apply stp); rfl; rfl; exact c1))
  apply ret_row Tryd.results84
  · exact c1.setRow_same _
  · exact Tryd.underlying107
  · rfl
  · exact (info_pre.trans (by rw [size_pre]))
  · rfl
  · rfl
  exact ⟨rfl, below_setRow cb (Nat.le_refl _) _⟩
section
variable {a : Act} {w : World} {g m : Nat} {f : Nat → Nat} {b : Bool}
theorem run_pre_var {t : TypeId} (hb : Blk w g t (pre f m b)) : (loadVar 107 ⟨g, 0, none⟩).run Tryd.prog w = .ok (.agg (pre f m b)) w :=
  run_loadVar_row w g t 107 (pre f m b) (0, 0) _ hb Tryd.underlying107 rfl (info_pre.trans (by rw [size_pre]))
theorem ret_pre2 {fn : Func} {R : Ending → World → Prop} {p t : Tmp} {v : Value} (hr : fn.results = #[.cell p 107, .tmp t]) (hp : a.tmps.getD p undef = .pointer (some ⟨g, 0, none⟩)) (ht : a.tmps.getD t undef = v)
    (hdf : a.defers = []) (hb : Blk w g 107 (pre f m b)) (hR : R (.returned (.tuple #[.agg (pre f m b), v])) w) : bodyPost Tryd.prog fn R .ret a w := by
  refine bodyPost_ret ?_ hdf hR
  have hp' : a.tmps[p]?.getD undef = .pointer (some ⟨g, 0, none⟩) := by simpa using hp
  have ht' : a.tmps[t]?.getD undef = v := by simpa using ht
  simp [results, hr, hp', ht', asAddr, run_pre_var hb]
theorem Blk.pre8 {t : TypeId} (hb : Blk w g t (pre f m b)) : w.cell? ⟨g, 8, none⟩ = some (.int .i64 m) := by
  rw [hb.cell]; unfold pre; rw [get_row_lt (by omega), if_neg (by omega), if_pos rfl]
theorem Blk.pre9 {t : TypeId} (hb : Blk w g t (pre f m b)) : w.cell? ⟨g, 9, none⟩ = some (.bool b) := by
  rw [hb.cell]; unfold pre; rw [get_row_lt (by omega), if_neg (by omega), if_neg (by omega)]
theorem Blk.pre0 {t : TypeId} (hb : Blk w g t (pre f m b)) : w.rangeAt g 0 (num8 f).toList := fun j v hj => by
  have hj8 : j < 8 := by have := (List.getElem?_eq_some_iff.1 hj).1; rwa [Array.length_toList, size_num8] at this
  rw [Array.getElem?_toList, get_num8 hj8] at hj
  rw [Nat.zero_add, hb.cell]
  unfold pre
  rw [get_row_lt (by omega), if_pos hj8]
  exact hj
end
set_option maxHeartbeats 400000 in
set_option maxRecDepth 100000 in
theorem more_ok (s : ShaM.S8) (hs : s.ok) (A : Option Addr) (l : List Nat) (n cap m : Nat) (hl : l.length = n) (hn : n % 64 = 0) (hc : n ≤ cap) (hm : cap ≤ maxLen) (hz : m + n ≤ 1000000000000000) (hb : B256 l) (w : World) (hA : Byt w w.heap.size A l) (hS : Salts w) :
    Calls Tryd.prog 85 #[.agg (pre s.get m true), .slice A n cap] w fun e w' => e = .returned (.tuple #[.agg (pre (ShaM.passes s l).get (m + n) true), .int .i64 0]) ∧ Below w.heap.size w w' := by
  have HS := hid hs
  have HB := hid hb
  have HA := hid hA
  have SA := hid hS
  have HL := hid hl
  clear hs hb hA hS hl
  go_enter Tryd.func85, Tryd.ntmps85
  go_upto_region 1 with fail
  generalize hw3 : World.alloc (World.alloc w _) _ = w3
  have b1 : Blk w3 w.heap.size 107 (pre s.get m true) := by rw [← hw3]; exact (Blk.top rfl rfl).alloc _
  have b2 : Blk w3 (w.heap.size + 1) 107 (pre (fun _ => 0) 0 false) := by rw [← hw3]; exact Blk.top zlit_pre (by simp)
  have hb : Below w.heap.size w w3 := by rw [← hw3]; exact ((Below.refl _ _).alloc (Nat.le_refl _) _).alloc (by simp) _
  clear hw3
  have c9 := b1.pre9
  have t0 : ((n : Int) % 64 != 0) = false := by rw [bne_eq_false_iff_eq]; omega
  have e1 : IntKind.i64.wrap ((m : Int) + (n : Int)) = ((m + n : Nat) : Int) := wr_nat (by omega) (by omega)
  have B1 := hid b1
  have B2 := hid b2
  have BEL := hid hb
  have E1 := hid e1
  clear b1 b2 hb hn e1
  go_wp2_with fail
  refine wp_region_tail (C := fun w' => Below w3.heap.size w3 w') 10 (by kernel_rfl) (by kernel_rfl) (by kernel_rfl) (Below.refl _ _).drew ?_
  simp only [List.take_succ_cons, List.take_zero, List.drop_succ_cons, List.drop_zero]
  apply wpK_val
  · rfl
  · intro w' hw'
    go_simp
    first | exact rfl | exact ⟨rfl, hw'⟩
  simp only [Act.put, List.setIfInBounds_toArray, List.set_cons_succ, List.set_cons_zero]
  apply klnm
  · rfl
  · rfl
  · exact fun w' hw' => (B1.out.below hw' B1.out.lt).pre0
  simp only [Act.put, List.setIfInBounds_toArray, List.set_cons_succ, List.set_cons_zero]
  apply wpK_val
  · rfl
  · intro w' hw'
    go_simp
    first | exact rfl | exact ⟨rfl, hw'⟩
  simp only [Act.put, List.setIfInBounds_toArray, List.set_cons_succ, List.set_cons_zero]
  apply wpK_val
  · rfl
  · intro w' hw'
    go_simp
    exact (passes_any s HS.out A l n cap HL.out hc hm HB.out _ ((HA.out.below (BEL.out.trans (hw'.mono BEL.out.size)) (Nat.le_refl _)).more (Nat.le_trans BEL.out.size hw'.size)) (SA.out.on (BEL.out.trans (hw'.mono BEL.out.size)))).mono fun e w'' ⟨he, hb''⟩ => ⟨he, hw'.trans (hb''.mono hw'.size)⟩
  simp only [Act.put, List.setIfInBounds_toArray, List.set_cons_succ, List.set_cons_zero]
  apply wpK_val
  · rfl
  · intro w' hw'
    go_simp
    first | exact rfl | exact ⟨rfl, hw'⟩
  simp only [Act.put, List.setIfInBounds_toArray, List.set_cons_succ, List.set_cons_zero]
  apply wpK_val
  · rfl
  · intro w' hw'
    have hcell := (B1.out.below hw' B1.out.lt).pre8
    go_simp
    first | exact rfl | exact ⟨rfl, hw'⟩
  simp only [Act.put, List.setIfInBounds_toArray, List.set_cons_succ, List.set_cons_zero]
  apply wpK_val
  · rfl
  · intro w' hw'
    go_simp
    first | exact rfl | exact ⟨rfl, hw'⟩
  simp only [Act.put, List.setIfInBounds_toArray, List.set_cons_succ, List.set_cons_zero]
  apply wpK_val
  · rfl
  · intro w' hw'
    go_simp
    first | exact rfl | exact ⟨rfl, hw'⟩
  simp only [Act.put, List.setIfInBounds_toArray, List.set_cons_succ, List.set_cons_zero]
  apply wpK_val
  · rfl
  · intro w' hw'
    have h1 : _ := E1.out
    go_simp
    first | exact rfl | exact ⟨rfl, hw'⟩
  simp only [Act.put, List.setIfInBounds_toArray, List.set_cons_succ, List.set_cons_zero]
  apply bldp3
  · rfl
  · rfl
  · rfl
  · rfl
  simp only [Act.put, List.setIfInBounds_toArray, List.set_cons_succ, List.set_cons_zero]
  refine wpK_nil fun w4 hw4 => ?_
  have c2 := B2.out.below hw4 B2.out.lt
  have cb := BEL.out.trans (hw4.mono BEL.out.size)
  go_wp2_with ((with_reducible apply stp); rfl; rfl; exact c2)
  apply ret_pre2 Tryd.results85
  · rfl
  · rfl
  · rfl
  · exact c2.setRow_same _
  exact ⟨rfl, below_setRow cb (by omega) _⟩
end Go.Proofs.YtdmnhpgafbcehaaDoor
set_option maxRecDepth 100000
namespace Go.Proofs.YtdmnhpgafbcehaaDoor
open Go.RowKit
section
variable {P : Program} {ops : Array Oper}
/-- The operations in the order of the text; each hands on a world of the class, in which all that was there stands. -/
def wpB (P : Program) (ops : Array Oper) (C : World → Prop) (Q : Act → Prop) : List Oper → Act → Prop
  | [], a => Q a
  | o :: rest, a => ∃ v, ((Region.wanted o (yielded ops a.tmps) = true ∧ ∀ w, C w → Gives P o a w v fun w' => C w' ∧ Below w.heap.size w w') ∨ (Region.wanted o (yielded ops a.tmps) = false ∧ v = undef)) ∧ wpB P ops C Q rest (a.put o.dst v)
section
variable {C : World → Prop} {Qk : Act → Prop} {o : Oper} {rest : List Oper} {a : Act} {v : Value}
theorem wpB_nil (h : Qk a) : wpB P ops C Qk [] a := h
theorem wpB_val (hw : Region.wanted o (yielded ops a.tmps) = true) (h1 : ∀ w, C w → Gives P o a w v fun w' => C w' ∧ Below w.heap.size w w') (h2 : wpB P ops C Qk rest (a.put o.dst v)) : wpB P ops C Qk (o :: rest) a := ⟨v, .inl ⟨hw, h1⟩, h2⟩
end
theorem wpB_vals {C : World → Prop} {Qk : Act → Prop} : ∀ (l : List Oper) (a : Act), wpB P ops C Qk l a → ∃ vals : Nat → Value, Qk (lexF l vals l.length a) ∧
    ∀ i o, l[i]? = some o → ((Region.wanted o (yielded ops (lexF l vals i a).tmps) = true ∧ ∀ w, C w → Gives P o (lexF l vals i a) w (vals i) fun w' => C w' ∧ Below w.heap.size w w') ∨ (Region.wanted o (yielded ops (lexF l vals i a).tmps) = false ∧ vals i = undef))
  | [], a, h => ⟨fun _ => undef, h, fun i o hi => by simp at hi⟩
  | o :: l, a, h => by
    obtain ⟨v, h1, h2⟩ := h
    obtain ⟨vals, hq, hs⟩ := wpB_vals l _ h2
    refine ⟨fun j => match j with | 0 => v | j + 1 => vals j, ?_, fun i o' hi => ?_⟩
    · rw [List.length_cons, lexF_cons]; exact hq
    · cases i with
      | zero =>
        simp only [List.getElem?_cons_zero, Option.some.injEq] at hi
        subst hi
        exact h1
      | succ i =>
        rw [lexF_cons]
        exact hs i o' (by simpa using hi)
theorem lexF_congr {l l' : List Oper} {v v' : Nat → Value} : ∀ {i : Nat} {a : Act}, (∀ j, j < i → l[j]? = l'[j]? ∧ v j = v' j) → lexF l v i a = lexF l' v' i a
  | 0, _, _ => rfl
  | i + 1, a, h => by
    simp only [lexF, lexF_congr (i := i) (a := a) fun j hj => h j (by omega), (h i (by omega)).1, (h i (by omega)).2]
theorem gives_mono {o : Oper} {a : Act} {w : World} {v : Value} {R R' : World → Prop} (h : Gives P o a w v R) (hr : ∀ w', R w' → R' w') : Gives P o a w v R' := by
  unfold Gives at *
  generalize (execOp a.eval o).run P w = r at *
  cases r with
  | ok n w' =>
    cases n <;> simp only at h ⊢
    case value u => exact ⟨h.1, hr _ h.2⟩
    case skip => exact ⟨h.1, hr _ h.2⟩
    case enter f args => exact h.mono fun e w'' ⟨he, hR⟩ => ⟨he, hr _ hR⟩
  | halt x w' => exact h
def ptr (b : Nat) : Value := .pointer (some ⟨b, 0, none⟩)
end
end Go.Proofs.YtdmnhpgafbcehaaDoor
set_option maxRecDepth 100000
namespace Go.Proofs.YtdmnhpgafbcehaaDoor
open Go.RowKit
section
variable {P : Program} {ops : Array Oper}
theorem wp_region_new1 {id : Nat} {Q : Exit → Act → World → Prop} {C : World → Prop} {a : Act} {w : World} {l : List Oper} (n : Nat) (T : TypeId) (z : Array Value) (d1 : Tmp) {t1 : TypeId} {p1 : String} {e1 : Array Edge}
    (hl1 : l[n]? = some ⟨some d1, .alloc T, t1, p1, e1, none⟩)
    (hm : P.follows .mixedOrders = true) (ht : tidy l.toArray = true) (hB : tailB l.toArray (n + 1) = true)
    (ha : ∀ w, (Instr.alloc T true (.tuple #[])).run P w = .ok (.pointer (some ⟨w.heap.size, 0, none⟩)) (w.alloc (.cells z T)))
    (hC : C w.drew) (hCa : ∀ w, C w → C (w.alloc (.cells z T))) (hCs : ∀ w', C w' → w.heap.size ≤ w'.heap.size)
    (h : wpB P l.toArray C (fun a' => ∀ b1 w', C w' → Blk w' b1 T z → w.heap.size ≤ b1 →
      wpList P l.toArray Q (l.drop (n + 1)) (a'.put (some d1) (ptr b1)) w') (l.take n) a) : (Code.region id l.toArray true).wp P Q a w := by
  obtain ⟨vals, hq, hs⟩ := wpB_vals _ _ h
  have hln : n < l.length := (List.getElem?_eq_some_iff.1 hl1).1
  have hlen : (l.take n).length = n := by rw [List.length_take]; omega
  let V : Nat → Nat → Value := fun γ i => if i = n then ptr γ else vals i
  have hV : ∀ γ i, i < n → V γ i = vals i := fun γ i hi => by show (if _ then _ else _) = _; rw [if_neg (by omega)]
  have hfr : ∀ γ i, i ≤ n → lexF (l.take (n + 1)) (V γ) i a = lexF (l.take n) vals i a := fun γ i hi => lexF_congr fun j hj =>
    ⟨by rw [List.getElem?_take_of_lt (by omega), List.getElem?_take_of_lt (by omega)], hV γ j (by omega)⟩
  refine region_core (Γ := Nat) (C := fun γ L w' => C w' ∧ (L.getD n false = true → Blk w' γ T z ∧ w.heap.size ≤ γ)) (n + 1) hm ht hB 0
    ⟨hC, (fun h => by rw [getD_replicate_false] at h; cases h)⟩ V ?_ ?_
  · intro i o hi γ L w' hsz hr ⟨hC', g1⟩
    have hilt : i < n + 1 := by
      have := (List.getElem?_eq_some_iff.1 hi).1
      rw [List.length_take] at this; omega
    rw [List.getElem?_take_of_lt hilt] at hi
    have hun := getD_both (mem_ready.1 hr).1
    rcases Nat.lt_or_ge i n with hin | hin
    · have hset : ∀ k, k ≠ i → (L.setIfInBounds i true).getD k false = L.getD k false := fun k hk => getD_set_ne false (Ne.symm hk)
      refine ⟨γ, fun _ _ => rfl, ?_⟩
      rw [hfr γ i (by omega), hV γ i hin]
      simp only [hset n (by omega)]
      rcases hs i o (by rw [List.getElem?_take_of_lt hin]; exact hi) with ⟨h1, h2⟩ | ⟨h1, h2⟩
      · exact .inl ⟨h1, gives_mono (h2 w' hC') fun w'' ⟨h3, h4⟩ => ⟨h3, fun e => ⟨(g1 e).1.below h4 (g1 e).1.lt, (g1 e).2⟩⟩⟩
      · exact .inr ⟨h1, h2, hC', g1⟩
    · obtain rfl : i = n := by omega
      obtain rfl : _ = o := Option.some.inj (hl1.symm.trans hi)
      have hw : ∀ b : Act, (execOp b.eval ⟨some d1, .alloc T, t1, p1, e1, none⟩).run P w' = .ok (.value (.pointer (some ⟨w'.heap.size, 0, none⟩))) (w'.alloc (.cells z T)) := fun b => by
        simp only [execOp, Sem.run_bind, ha w', Result.andThen_ok, Sem.run_pure]
      refine ⟨w'.heap.size, fun j hj => ?_, .inl ⟨rfl, ?_⟩⟩
      · have hjn : j ≠ i := fun e => by subst e; rw [hun] at hj; cases hj
        simp only [V, if_neg hjn]
      · refine gives_value (w' := w'.alloc (.cells z T)) ?_ ?_
        · rw [hw]
          simp only [V, if_pos]; rfl
        · exact ⟨hCa _ hC', fun _ => ⟨Blk.new _ _ _, hCs _ hC'⟩⟩
  · intro γ L w' hall ⟨hC', g1⟩
    have h1 := hall n (by omega)
    have hl2' : (l.take (n + 1)).length = n + 1 := by rw [List.length_take]; omega
    rw [hl2']
    have hput : lexF (l.take (n + 1)) (V γ) (n + 1) a = (lexF (l.take n) vals n a).put (some d1) (ptr γ) := by
      rw [lexF, hfr γ n (Nat.le_refl n), List.getElem?_take_of_lt (by omega), hl1]
      simp only [V, if_pos, Option.bind_some]
    rw [hput]
    rw [hlen] at hq
    exact hq γ w' hC' (g1 h1).1 (g1 h1).2
end
end Go.Proofs.YtdmnhpgafbcehaaDoor
set_option maxRecDepth 100000
namespace Go.Proofs.YtdmnhpgafbcehaaDoor
open Go.ChangeShapes Go.WideShapes Go.ChangeAt Go.RowKit
attribute [local go_sem] Gives
section
variable {ops : Array Oper} {a : Act} {rest : List Oper} {dst : Option Tmp} {ty : TypeId} {pos : String} {after : Array Edge} {x : Operand} {g o : Nat} {f : Nat → Nat} {C : World → Prop} {Qk : Act → Prop} {gd : Option (Nat × Bool)}
theorem blnm (hwt : Region.wanted ⟨dst, .load 105 x, ty, pos, after, gd⟩ (yielded ops a.tmps) = true) (hx : a.eval x = .pointer (some ⟨g, o, none⟩)) (hb : ∀ w, C w → w.rangeAt g o (num8 f).toList) (h : wpB Tryd.prog ops C Qk rest (a.put dst (.agg (num8 f)))) :
    wpB Tryd.prog ops C Qk (⟨dst, .load 105 x, ty, pos, after, gd⟩ :: rest) a :=
  wpB_val hwt (fun w hw => gives_value (w' := w) (by
    have := run_loadAt_mid (P := Tryd.prog) w g o 105 (num8 f).toList _ (hb w hw) Tryd.underlying105 rfl (info_num8.trans (by rw [Array.length_toList, size_num8]))
    rw [Array.toArray_toList] at this
    simp only [execOp, hx, Sem.run_bind, this, Result.andThen_ok, Sem.run_pure]) ⟨hw, Below.refl _ _⟩) h
end
theorem alloc_num8 (w : World) : (Instr.alloc 105 true (.tuple #[])).run Tryd.prog w = .ok (.pointer (some ⟨w.heap.size, 0, none⟩)) (w.alloc (.cells (num8 fun _ => 0) 105)) := by
  have hz := (zero_of_info (P := Tryd.prog) (t := 105) (v := .agg (num8 fun _ => 0)) (n := 8) (by kernel_rfl)).1
  simp [Instr.alloc, Sem.run_bind, hz w, newVar, newRow, Value.cells]
theorem Byt.dropA {w : World} {B : Nat} {A : Option Addr} {l : List Nat} (h : Byt w B A l) (cap W : Nat) (hc : l.length ≤ cap) : Byt w B (if cap = W then A else Option.map (fun x => x.add W) A) (l.drop W) := fun hn => by
  have hn' := hn
  rw [List.length_drop] at hn
  obtain ⟨b, o, rfl, hl, hr⟩ := h (by omega)
  rw [if_neg (by omega)]
  have e : Option.map (fun x => Addr.add x W) (some ⟨b, o, Option.none⟩) = some ⟨b, o + W, Option.none⟩ := by rw [Option.map_some, Addr.add_mid]
  rw [e]
  exact Byt.drop (l := l) (fun _ => ⟨b, o, rfl, hl, hr⟩) W hn'
set_option maxHeartbeats 400000 in
set_option maxRecDepth 100000 in
theorem psum_ok (s : ShaM.S8) (hs : s.ok) (A : Option Addr) (l : List Nat) (n cap m : Nat) (hl : l.length = n) (hmm : m % 64 = 0) (hc : n ≤ cap) (hm : cap ≤ maxLen) (hz : m + n ≤ 1000000000000000) (hb : B256 l) (w : World) (hA : Byt w w.heap.size A l) (hS : Salts w) :
    Calls Tryd.prog 67 #[.agg (pre s.get m true), .slice A n cap] w fun e w' => e = .returned (.agg (tag (ShaM.digest (ShaM.ended s m l)))) ∧ Below w.heap.size w w' := by
  have HS := hid hs
  have HB := hid hb
  have HA := hid hA
  have SA := hid hS
  have HL := hid hl
  have HM := hid hm
  unfold maxLen at hm
  obtain ⟨W, hW⟩ : ∃ W, W = n - n % 64 := ⟨_, rfl⟩
  have e5 : (n : Int) - (n : Int) % 64 = (W : Int) := by omega
  have e5' : IntKind.i64.wrap ((n : Int) - (n : Int) % 64) = (W : Int) := wr_nat e5 (by omega)
  have e1 : IntKind.i64.wrap ((m : Int) + (n : Int)) = ((m + n : Nat) : Int) := wr_nat (by omega) (by omega)
  have hWn : W ≤ n := by omega
  have hWc : (W : Int) ≤ (cap : Int) := by omega
  have E1 := hid e1
  have HW := hid hW
  clear hs hb hA hS hl e1 hW
  go_enter Tryd.func67, Tryd.ntmps67
  go_upto_region 1 with fail
  generalize hw3 : World.alloc (World.alloc w _) _ = w3
  have b1 : Blk w3 w.heap.size 107 (pre s.get m true) := by rw [← hw3]; exact (Blk.top rfl rfl).alloc _
  have b2 : Blk w3 (w.heap.size + 1) 36 (tag fun _ => 0) := by rw [← hw3]; exact Blk.top zlit_tag (by simp)
  have hb : Below w.heap.size w w3 := by rw [← hw3]; exact ((Below.refl _ _).alloc (Nat.le_refl _) _).alloc (by simp) _
  clear hw3
  have c9 := b1.pre9
  go_upto_region 4 with fail
  have B1 := hid b1
  have B2 := hid b2
  have BEL := hid hb
  clear b1 b2 hb c9
  refine wp_region_new1 (C := fun w' => Below w3.heap.size w3 w') 6 105 (num8 fun _ => 0) 6 rfl (by kernel_rfl) (by kernel_rfl) (by kernel_rfl) alloc_num8 (Below.refl _ _).drew (fun w' hw' => hw'.alloc hw'.size _) (fun w' hw' => hw'.size) ?_
  simp only [List.take_succ_cons, List.take_zero, List.drop_succ_cons, List.drop_zero]
  apply wpB_val
  · rfl
  · intro w' hw'
    have hbl := Below.refl w'.heap.size w'
    go_simp
    first | exact rfl | exact ⟨rfl, hbl⟩ | exact ⟨rfl, hw', hbl⟩
  simp only [Act.put, List.setIfInBounds_toArray, List.set_cons_succ, List.set_cons_zero]
  apply blnm
  · rfl
  · rfl
  · exact fun w' hw' => (B1.out.below hw' B1.out.lt).pre0
  simp only [Act.put, List.setIfInBounds_toArray, List.set_cons_succ, List.set_cons_zero]
  apply wpB_val
  · rfl
  · intro w' hw'
    have hbl := Below.refl w'.heap.size w'
    go_simp
    first | exact rfl | exact ⟨rfl, hbl⟩ | exact ⟨rfl, hw', hbl⟩
  simp only [Act.put, List.setIfInBounds_toArray, List.set_cons_succ, List.set_cons_zero]
  apply wpB_val
  · rfl
  · intro w' hw'
    have hbl := Below.refl w'.heap.size w'
    go_simp
    first | exact rfl | exact ⟨rfl, hbl⟩ | exact ⟨rfl, hw', hbl⟩
  simp only [Act.put, List.setIfInBounds_toArray, List.set_cons_succ, List.set_cons_zero]
  apply wpB_val
  · rfl
  · intro w' hw'
    have hbl := Below.refl w'.heap.size w'
    go_simp
    first | exact rfl | exact ⟨rfl, hbl⟩ | exact ⟨rfl, hw', hbl⟩
  simp only [Act.put, List.setIfInBounds_toArray, List.set_cons_succ, List.set_cons_zero]
  apply wpB_val
  · rfl
  · intro w' hw'
    go_simp
    exact (passes_any s HS.out A (l.take W) W cap (by rw [List.length_take, HL.out]; omega) (by omega) HM.out (HB.out.take W) _ (((HA.out.take W).below (BEL.out.trans (hw'.mono BEL.out.size)) (Nat.le_refl _)).more (Nat.le_trans BEL.out.size hw'.size)) (SA.out.on (BEL.out.trans (hw'.mono BEL.out.size)))).mono fun e w'' ⟨he, hb''⟩ => ⟨he, hw'.trans (hb''.mono hw'.size), hb''⟩
  simp only [Act.put, List.setIfInBounds_toArray, List.set_cons_succ, List.set_cons_zero]
  refine wpB_nil fun g6 w4 hw4 q6 hg6 => ?_
  have b1 := B1.out.below hw4 B1.out.lt
  have b2 := B2.out.below hw4 B2.out.lt
  have bel := BEL.out.trans (hw4.mono BEL.out.size)
  have hz2 : w.heap.size + 1 < w3.heap.size := B2.out.lt
  clear hw4 B1 B2 BEL
  have B1 := hid b1
  have B2 := hid b2
  have BEL := hid bel
  clear b1 b2 bel
  unfold ptr
  go_upto_region 5 with ((with_reducible apply stn); rfl; rfl; exact q6)
  generalize hw5 : World.setRow _ _ _ = w5
  have c6 : Blk w5 g6 105 (num8 (ShaM.passes s (l.take W)).get) := by rw [← hw5]; exact q6.setRow_same _
  have c1 : Blk w5 w.heap.size 107 (pre s.get m true) := by rw [← hw5]; exact B1.out.setRow_other (by omega) _
  have c2 : Blk w5 (w.heap.size + 1) 36 (tag fun _ => 0) := by rw [← hw5]; exact B2.out.setRow_other (by omega) _
  have cb : Below w.heap.size w w5 := by rw [← hw5]; exact below_setRow BEL.out (by omega) _
  clear hw5 q6 B1 B2 BEL w4
  have C1 := hid c1
  have C2 := hid c2
  have C6 := hid c6
  have CB := hid cb
  clear c1 c2 c6 cb
  refine wp_region_tail (C := fun w' => Below w5.heap.size w5 w') 11 (by kernel_rfl) (by kernel_rfl) (by kernel_rfl) (Below.refl _ _).drew ?_
  simp only [List.take_succ_cons, List.take_zero, List.drop_succ_cons, List.drop_zero]
  apply kln
  · rfl
  · rfl
  · exact fun w' hw' => C6.out.below hw' C6.out.lt
  simp only [Act.put, List.setIfInBounds_toArray, List.set_cons_succ, List.set_cons_zero]
  apply wpK_val
  · rfl
  · intro w' hw'
    go_simp
    first | exact rfl | exact ⟨rfl, hw'⟩
  simp only [Act.put, List.setIfInBounds_toArray, List.set_cons_succ, List.set_cons_zero]
  apply wpK_val
  · rfl
  · intro w' hw'
    go_simp
    first | exact rfl | exact ⟨rfl, hw'⟩
  simp only [Act.put, List.setIfInBounds_toArray, List.set_cons_succ, List.set_cons_zero]
  apply wpK_val
  · rfl
  · intro w' hw'
    go_simp
    first | exact rfl | exact ⟨rfl, hw'⟩
  simp only [Act.put, List.setIfInBounds_toArray, List.set_cons_succ, List.set_cons_zero]
  apply wpK_val
  · rfl
  · intro w' hw'
    go_simp
    first | exact rfl | exact ⟨rfl, hw'⟩
  simp only [Act.put, List.setIfInBounds_toArray, List.set_cons_succ, List.set_cons_zero]
  apply wpK_val
  · rfl
  · intro w' hw'
    have hcell := (C1.out.below hw' C1.out.lt).pre8
    go_simp
    first | exact rfl | exact ⟨rfl, hw'⟩
  simp only [Act.put, List.setIfInBounds_toArray, List.set_cons_succ, List.set_cons_zero]
  apply wpK_val
  · rfl
  · intro w' hw'
    go_simp
    first | exact rfl | exact ⟨rfl, hw'⟩
  simp only [Act.put, List.setIfInBounds_toArray, List.set_cons_succ, List.set_cons_zero]
  apply wpK_val
  · rfl
  · intro w' hw'
    go_simp
    first | exact rfl | exact ⟨rfl, hw'⟩
  simp only [Act.put, List.setIfInBounds_toArray, List.set_cons_succ, List.set_cons_zero]
  apply wpK_val
  · rfl
  · intro w' hw'
    have h1 : _ := E1.out
    go_simp
    first | exact rfl | exact ⟨rfl, hw'⟩
  simp only [Act.put, List.setIfInBounds_toArray, List.set_cons_succ, List.set_cons_zero]
  apply wpK_val
  · rfl
  · intro w' hw'
    go_simp
    exact (finish_any (ShaM.passes s (l.take W)) (ShaM.passes_ok _ (Nat.le_refl _) HS.out) _ (l.drop W) (n - W) (cap - W) (m + n) (by rw [List.length_drop, HL.out]) (by have := HW.out; omega) (by have := HW.out; omega) hz (HB.out.drop W) _ ((HA.out.dropA cap W (by rw [HL.out]; exact hc)).below (CB.out.trans (hw'.mono CB.out.size)) (Nat.le_refl _) |>.more (Nat.le_trans CB.out.size hw'.size)) (SA.out.on (CB.out.trans (hw'.mono CB.out.size)))).mono fun e w'' ⟨he, hb''⟩ => ⟨he, hw'.trans (hb''.mono hw'.size)⟩
  simp only [Act.put, List.setIfInBounds_toArray, List.set_cons_succ, List.set_cons_zero]
  apply wpK_val
  · rfl
  · intro w' hw'
    go_simp
    exact (digest_any _ (ShaM.passes_ok _ (Nat.le_refl _) (ShaM.passes_ok _ (Nat.le_refl _) HS.out)) _).mono fun e w'' ⟨he, hb''⟩ => ⟨he, hw'.trans (hb''.mono hw'.size)⟩
  simp only [Act.put, List.setIfInBounds_toArray, List.set_cons_succ, List.set_cons_zero]
  refine wpK_nil fun w4 hw4 => ?_
  have c2 := C2.out.below hw4 C2.out.lt
  have cb := CB.out.trans (hw4.mono CB.out.size)
  have hmath : ShaM.passes (ShaM.passes s (l.take W)) (l.drop W ++ ShaM.tail (m + n)) = ShaM.ended s m l := by
    unfold ShaM.ended
    rw [HL.out, ← ShaM.passes_append (n / 64) (by rw [List.length_take, HL.out]; have := HW.out; omega), ← List.append_assoc, List.take_append_drop]
  rw [hmath]
  clear hmath
  go_wp2_with ((with_reducible apply stt); rfl; rfl; exact c2)
  all_goals
    apply ret_row Tryd.results67
    · exact c2.setRow_same _
    · exact Tryd.underlying36
    · rfl
    · exact (info_tag.trans (by rw [size_tag]))
    · rfl
    · rfl
    exact ⟨rfl, below_setRow cb (by omega) _⟩
set_option maxHeartbeats 400000 in
set_option maxRecDepth 100000 in
/-- P3.1. -/
theorem sum_any (A : Option Addr) (l : List Nat) (n cap : Nat) (hl : l.length = n) (hc : n ≤ cap) (hm : cap ≤ maxLen) (hz : n ≤ 1000000000000000) (hb : B256 l) (w : World) (hA : Byt w w.heap.size A l) (hS : Salts w) :
    Calls Tryd.prog 75 #[.slice A n cap] w fun e w' => e = .returned (.agg (tag (ShaM.sum l))) ∧ Below w.heap.size w w' := by
  have HB := hid hb
  have HA := hid hA
  have SA := hid hS
  have HL := hid hl
  clear hb hA hS hl
  go_enter Tryd.func75, Tryd.ntmps75
  go_wp2_with fail
  generalize hw3 : World.alloc w _ = w3
  have b2 : Blk w3 w.heap.size 36 (tag fun _ => 0) := by rw [← hw3]; exact Blk.top zlit_tag rfl
  have hb : Below w.heap.size w w3 := by rw [← hw3]; exact (Below.refl _ _).alloc (Nat.le_refl _) _
  clear hw3
  refine (start_any w3).mono ?_
  rintro e w4 ⟨rfl, hb'⟩
  have b2' := b2.below hb' b2.lt
  have hb4 := hb.trans (hb'.mono hb.size)
  clear hb' b2 hb w3
  have B2 := hid b2'
  have BEL := hid hb4
  clear b2' hb4
  go_wp2_with fail
  refine (psum_ok ShaM.seeds ShaM.seeds_ok A l n cap 0 HL.out rfl hc hm (by omega) HB.out w4 ((HA.out.below BEL.out (Nat.le_refl _)).more BEL.out.size) (SA.out.on BEL.out)).mono ?_
  rintro e w5 ⟨rfl, hb'⟩
  have b2 := B2.out.below hb' B2.out.lt
  have hb := BEL.out.trans (hb'.mono BEL.out.size)
  clear hb'
  go_wp2_with ((with_reducible apply stt); rfl; rfl; exact b2)
  apply ret_row Tryd.results75
  · exact b2.setRow_same _
  · exact Tryd.underlying36
  · rfl
  · exact (info_tag.trans (by rw [size_tag]))
  · rfl
  · rfl
  exact ⟨rfl, below_setRow hb (Nat.le_refl _) _⟩
end Go.Proofs.YtdmnhpgafbcehaaDoor
namespace Go.Proofs
open Go.Shelf
def Tryd.lays264_ren : Go.Shelf.Ren := ⟨fun | 264 => 87 | n => n, fun | 53 => 96 | 46 => 68 | n => n, fun | n => n⟩
end Go.Proofs
set_option maxRecDepth 100000
namespace Go.Proofs.YtdmnhpgafbcehaaDoor.ShaM
theorem rr_sum {x n : Nat} (hx : x < 4294967296) (hn : n ≤ 32) : rr x n = x / 2 ^ n + x % 2 ^ n * 2 ^ (32 - n) := by
  unfold rr
  have h32 : (4294967296 : Nat) = 2 ^ n * 2 ^ (32 - n) := by rw [← Nat.pow_add, show n + (32 - n) = 32 by omega]
  have hlt : x / 2 ^ n < 2 ^ (32 - n) := by
    rw [Nat.div_lt_iff_lt_mul (Nat.two_pow_pos n), Nat.mul_comm, ← h32]; exact hx
  rw [h32, Nat.mul_mod_mul_right]
  have h := Nat.shiftLeft_add_eq_or_of_lt hlt (x % 2 ^ n)
  rw [Nat.shiftLeft_eq] at h
  rw [← h, Nat.add_comm]
theorem rot_low_lt {x n : Nat} (hn : n ≤ 32) : x % 2 ^ n * 2 ^ (32 - n) < 4294967296 := by
  have h32 : (4294967296 : Nat) = 2 ^ n * 2 ^ (32 - n) := by rw [← Nat.pow_add, show n + (32 - n) = 32 by omega]
  rw [h32]
  exact Nat.mul_lt_mul_of_pos_right (Nat.mod_lt _ (Nat.two_pow_pos n)) (Nat.two_pow_pos _)
def bitN (x i : Nat) : Nat := x / 2 ^ i % 2
def chN (e f g : Nat) : Nat := (e &&& f) ^^^ (not32 e &&& g)
def twN (a b c : Nat) : Nat := (a &&& b) ^^^ (a &&& c) ^^^ (b &&& c)
/-! ### The count at a tail's end, as it comes up from the last byte on -/
/-! ### Primes and their roots -/
def mark (out : List Nat) (k : Nat) : Bool := out.any fun p => decide (p ≤ k) && k % p == 0
/-- What the sieve's rounds from n on still make of what was found. -/
def sieve (many : Nat) : Nat → Nat → List Nat → List Nat
  | 0, _, out => out
  | fuel + 1, n, out => if n < 400 ∧ out.length < many then (if mark out n then sieve many fuel (n + 1) out else sieve many fuel (n + 1) (out ++ [n])) else out
def primesN (many : Nat) : List Nat := sieve many 400 2 []
def hi64 (x y : Nat) : Nat := x * y / 18446744073709551616
def lo64 (x y : Nat) : Nat := x * y % 18446744073709551616
def w64 (x : Nat) : Nat := x % 18446744073709551616
def withinN (x p : Nat) (cube : Bool) : Bool :=
  if cube then
    (let high := w64 (w64 (hi64 x x * x) + hi64 (lo64 x x) x)
     let low := lo64 (lo64 x x) x
     let limit := w64 (p * 4294967296)
     decide (high < limit) || (high == limit && low == 0))
  else decide (hi64 x x < p) || (hi64 x x == p && lo64 x x == 0)
/-- The rounds from i - 1 down to 0. -/
def rootN (p : Nat) (cube : Bool) : Nat → Nat → Nat
  | 0, x => x
  | i + 1, x => rootN p cube i (if withinN (w64 (x + 2 ^ i)) p cube then w64 (x + 2 ^ i) else x)
def rootsN (many : Nat) (cube : Bool) : List Nat := (primesN many).map fun p => rootN p cube 38 0 % 4294967296
end Go.Proofs.YtdmnhpgafbcehaaDoor.ShaM
