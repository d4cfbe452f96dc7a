/-
  Contract of sha.step over this translation.
-/
import Derived.Test.YtcpoccahneppiaaDoorShaRot
import Derived.Test.YtcpoccahneppiaaDoorMem
import Derived.Test.YtcpoccahneppiaaDoorRegion
import Derived.StillTailTactics
import Derived.Outline
namespace Go.Proofs.YtcpoccahneppiaaDoor
open Go.ChangeShapes Go.WideShapes Go.ChangeAt Go.RowKit
attribute [local go_sem] Gives
/-- Where a letter stands ahead of step n. -/
def idx (l n : Nat) : Nat := (l + 64 - n) % 8
theorem idx_lt (l n : Nat) : idx l n < 8 := Nat.mod_lt _ (by omega)
theorem idx_lti (l n : Nat) : ((idx l n : Nat) : Int) < 8 := by have := idx_lt l n; omega
theorem at_mask : ∀ n : Nat, n < 64 → ∀ l : Nat, l < 8 → bits .and .i64 ((l : Int) - (n : Int)) 7 = ((idx l n : Nat) : Int) := by decide +kernel
theorem at_any (l n g : Nat) (hl : l < 8) (hn : n < 64) (w : World) (hc : w.cell? ⟨g, 0, none⟩ = some (.int .i64 n)) :
    Calls Tryd.prog 51 #[.int .i64 l, .pointer (some ⟨g, 0, none⟩)] w fun e w' => e = .returned (.int .i64 (idx l n : Nat)) ∧ w = w' := by
  have H := at_mask n hn l hl
  go_enter Tryd.func51, Tryd.ntmps51
  go_wp2
  go_ret
  exact ⟨rfl, rfl⟩
/-- Eight numbers, the letters n places down. -/
def letters (s : ShaM.S8) (n : Nat) : Array Value := row 8 fun j => .int .u32 (s.get ((j + n) % 8) : Nat)
theorem letters_at (s : ShaM.S8) {l n : Nat} (hl : l < 8) (hn : n ≤ 64) : (letters s n)[idx l n]? = some (.int .u32 (s.get l : Nat)) := by
  unfold letters
  rw [get_row_lt (idx_lt l n)]
  unfold idx
  rw [show ((l + 64 - n) % 8 + n) % 8 = l by omega]
def Drew (w w' : World) : Prop := ∃ k, w' = w.drewN k
theorem Drew.refl (w : World) : Drew w w.drew := ⟨1, rfl⟩
theorem Drew.cell {w w' : World} (h : Drew w w') {p : Addr} {v : Value} (hc : w.cell? p = some v) : w'.cell? p = some v := by
  obtain ⟨k, rfl⟩ := h; exact hc
theorem Drew.blk {w w' : World} (h : Drew w w') {g : Nat} {t : TypeId} {cs : Array Value} (hc : Blk w g t cs) : Blk w' g t cs := by
  obtain ⟨k, rfl⟩ := h; exact hc
theorem Drew.below {B : Nat} {a w w' : World} (h : Drew w w') (hb : Below B a w) : Below B a w' := by
  obtain ⟨k, rfl⟩ := h; exact below_drewN hb k
theorem Drew.heap {w w' : World} (h : Drew w w') : w'.heap = w.heap := by obtain ⟨k, rfl⟩ := h; rfl
theorem letters_set (s : ShaM.S8) {n u v : Nat} (hn : n < 64) :
    ((letters s n).setIfInBounds (idx 3 n) (.int .u32 (v : Nat))).setIfInBounds (idx 7 n) (.int .u32 (u : Nat)) = letters ⟨u, s.a, s.b, s.c, v, s.e, s.f, s.g⟩ (n + 1) := by
  unfold letters
  rw [row_set, row_set]
  refine row_ext fun j hj => ?_
  have e : ∀ l, l < 8 → (j = idx l n ↔ (j + n) % 8 = l) := fun l hl => by unfold idx; omega
  simp only [e 7 (by omega), e 3 (by omega)]
  have hl : (j + n) % 8 < 8 := Nat.mod_lt _ (by omega)
  have e1 : (j + (n + 1)) % 8 = ((j + n) % 8 + 1) % 8 := by omega
  rw [e1]
  generalize (j + n) % 8 = l at *
  match l, hl with
  | 0, _ | 1, _ | 2, _ | 3, _ | 4, _ | 5, _ | 6, _ | 7, _ => rfl
theorem letters_step (s : ShaM.S8) {n x : Nat} (hn : n < 64) :
    ((letters s n).setIfInBounds (idx 3 n) (.int .u32 (ShaM.add s.d (ShaM.pOf s x) : Nat))).setIfInBounds (idx 7 n) (.int .u32 (ShaM.add (ShaM.pOf s x) (ShaM.qOf s) : Nat)) = letters (ShaM.step s x) (n + 1) := letters_set s hn
theorem u32_wrap_nat (a b : Nat) : IntKind.u32.wrap ((a : Int) + (b : Int)) = ((ShaM.add a b : Nat) : Int) := by
  rw [IntKind.wrap_u32']
  unfold ShaM.add
  omega
theorem not_nat (a : Nat) (ha : a < 4294967296) : bits .xor .u32 4294967295 (a : Int) = ((ShaM.not32 a : Nat) : Int) := by
  rw [show (4294967295 : Int) = ((4294967295 : Nat) : Int) from rfl, u32_xor_nat _ _ (by omega) ha]
  unfold ShaM.not32
  have h : (4294967295 ^^^ a) = 4294967295 - a := by
    have := congrArg BitVec.toNat (BitVec.allOnes_xor (x := BitVec.ofNat 32 a))
    rw [BitVec.toNat_xor, BitVec.toNat_allOnes, BitVec.toNat_not, BitVec.toNat_ofNat, Nat.mod_eq_of_lt (by omega)] at this
    exact this
  rw [h]
theorem cell_other {w : World} {p q : Addr} {v : Value} (h : q.block ≠ p.block) : (w.setCell p v).cell? q = w.cell? q := by
  unfold World.cell?
  rw [Below.heap_setCell w p v q.block h]
/-! ### Only block g has turned -/
theorem only_refl (w : World) (g : Nat) : w.grownBy w (some g) := ⟨rfl, rfl, rfl, Nat.le_refl _, fun _ _ _ => rfl⟩
theorem only_trans {a b c : World} {g : Nat} (h : a.grownBy b (some g)) (k : b.grownBy c (some g)) : a.grownBy c (some g) :=
  ⟨k.os.trans h.os, k.tape.trans h.tape, k.output.trans h.output, Nat.le_trans h.size k.size, fun i hi hne => (k.block i (Nat.lt_of_lt_of_le hi h.size) hne).trans (h.block i hi hne)⟩
theorem only_of_below {a b : World} {g B : Nat} (k : Below B a b) (hB : a.heap.size ≤ B) : a.grownBy b (some g) :=
  ⟨k.os, k.tape, k.output, k.size, fun i hi _ => k.block i (by omega)⟩
theorem only_below {a b c : World} {g B : Nat} (h : a.grownBy b (some g)) (k : Below B b c) (hB : a.heap.size ≤ B) : a.grownBy c (some g) :=
  ⟨k.os.trans h.os, k.tape.trans h.tape, k.output.trans h.output, Nat.le_trans h.size k.size, fun i hi hne => (k.block i (by omega)).trans (h.block i hi hne)⟩
theorem only_cell {a b : World} {g : Nat} (h : a.grownBy b (some g)) (i : Nat) (v : Value) : a.grownBy (b.setCell ⟨g, i, none⟩ v) (some g) :=
  ⟨h.os, h.tape, h.output, by simpa using h.size, fun k hk hne => (Below.heap_setCell b ⟨g, i, none⟩ v k (fun e => hne (by rw [e]))).trans (h.block k hk hne)⟩
theorem only_drew {a b c : World} {g : Nat} (h : a.grownBy b (some g)) (k : Drew b c) : a.grownBy c (some g) := by
  obtain ⟨n, rfl⟩ := k; exact ⟨h.os, h.tape, h.output, h.size, h.block⟩
theorem only_Below {a b : World} {g B : Nat} (h : a.grownBy b (some g)) (hB : B ≤ g) (hs : B ≤ a.heap.size) : Below B a b :=
  ⟨h.os, h.tape, h.output, h.size, fun i hi => h.block i (by omega) (fun e => by injection e; omega)⟩
theorem Blk.only {a b : World} {g k : Nat} {t : TypeId} {cs : Array Value} (h : Blk a k t cs) (ho : a.grownBy b (some g)) (hne : k ≠ g) : Blk b k t cs := (ho.block k h.lt (fun e => hne (by injection e))).trans h
theorem q_nat (s : ShaM.S8) (hs : s.ok) : (bits .xor .u32 (bits .xor .u32 ((ShaM.rr (s.get 0) 2 : Nat) : Int) ((ShaM.rr (s.get 0) 13 : Nat) : Int)) ((ShaM.rr (s.get 0) 22 : Nat) : Int) +
    bits .xor .u32 (bits .xor .u32 (bits .and .u32 ((s.get 0 : Nat) : Int) ((s.get 1 : Nat) : Int)) (bits .and .u32 ((s.get 0 : Nat) : Int) ((s.get 2 : Nat) : Int))) (bits .and .u32 ((s.get 1 : Nat) : Int) ((s.get 2 : Nat) : Int))) % 4294967296 = ((ShaM.qOf s : Nat) : Int) := by
  have h0 := ShaM.S8.get_lt hs 0
  have h1 := ShaM.S8.get_lt hs 1
  have h2 := ShaM.S8.get_lt hs 2
  have ha : ∀ a b : Nat, a < 4294967296 → (a &&& b) < 4294967296 := fun a b h => Nat.lt_of_le_of_lt Nat.and_le_left h
  have hr := fun n => ShaM.rr_lt h0 n
  rw [u32_and_nat _ _ h0 h1, u32_and_nat _ _ h0 h2, u32_and_nat _ _ h1 h2, u32_xor_nat _ _ (ha _ _ h0) (ha _ _ h0), u32_xor_nat _ _ (Nat.xor_lt_two_pow (n := 32) (ha _ _ h0) (ha _ _ h0)) (ha _ _ h1),
    u32_xor_nat _ _ (hr 2) (hr 13), u32_xor_nat _ _ (Nat.xor_lt_two_pow (n := 32) (hr 2) (hr 13)) (hr 22), ← IntKind.wrap_u32', u32_wrap_nat]
  rfl
theorem p_nat (s : ShaM.S8) (hs : s.ok) (x : Nat) : IntKind.u32.wrap (IntKind.u32.wrap (IntKind.u32.wrap (((s.get 7 : Nat) : Int) +
    bits .xor .u32 (bits .xor .u32 ((ShaM.rr (s.get 4) 6 : Nat) : Int) ((ShaM.rr (s.get 4) 11 : Nat) : Int)) ((ShaM.rr (s.get 4) 25 : Nat) : Int)) +
    bits .xor .u32 (bits .and .u32 ((s.get 4 : Nat) : Int) ((s.get 5 : Nat) : Int)) (bits .and .u32 (bits .xor .u32 (if IntKind.u32.signed = true then -1 else IntKind.u32.max) ((s.get 4 : Nat) : Int)) ((s.get 6 : Nat) : Int))) + (x : Int)) = ((ShaM.pOf s x : Nat) : Int) := by
  have h4 := ShaM.S8.get_lt hs 4
  have h5 := ShaM.S8.get_lt hs 5
  have h6 := ShaM.S8.get_lt hs 6
  have hn : ShaM.not32 (s.get 4) < 4294967296 := by unfold ShaM.not32; omega
  have ha : ∀ a b : Nat, a < 4294967296 → (a &&& b) < 4294967296 := fun a b h => Nat.lt_of_le_of_lt Nat.and_le_left h
  have hr := fun n => ShaM.rr_lt h4 n
  rw [show (if IntKind.u32.signed = true then (-1 : Int) else IntKind.u32.max) = 4294967295 from rfl, not_nat _ h4, u32_and_nat _ _ h4 h5, u32_and_nat _ _ hn h6, u32_xor_nat _ _ (ha _ _ h4) (ha _ _ hn),
    u32_xor_nat _ _ (hr 6) (hr 11), u32_xor_nat _ _ (Nat.xor_lt_two_pow (n := 32) (hr 6) (hr 11)) (hr 25), u32_wrap_nat, u32_wrap_nat, u32_wrap_nat]
  rfl
end Go.Proofs.YtcpoccahneppiaaDoor
