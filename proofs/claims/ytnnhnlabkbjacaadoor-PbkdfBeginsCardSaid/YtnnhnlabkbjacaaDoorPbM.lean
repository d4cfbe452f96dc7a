/-
  PBKDF2 with HMAC-SHA-256 in plain numbers: passphrases' bytes, blocks, keys; nothing of the program stands here.
-/
import Derived.Test.YtnnhnlabkbjacaaDoorHmacM
namespace Go.Proofs.YtnnhnlabkbjacaaDoor.PbM
open HmM
/-- The tag n tags behind T. -/
def un (key : List Nat) (T : Nat → Nat) : Nat → Nat → Nat
  | 0 => T
  | n + 1 => tag key (dl (un key T n))
/-- T and the n tags behind it, added up. -/
def acc (key : List Nat) (T : Nat → Nat) : Nat → Nat → Nat
  | 0 => T
  | n + 1 => fun k => acc key T n k ^^^ un key T (n + 1) k
theorem un_256 {key : List Nat} {T : Nat → Nat} (h : ∀ k, T k < 256) : ∀ n k, un key T n k < 256
  | 0 => h
  | n + 1 => tag_256 _ _
theorem acc_256 {key : List Nat} {T : Nat → Nat} (h : ∀ k, T k < 256) : ∀ n k, acc key T n k < 256
  | 0 => h
  | n + 1 => fun k => Nat.xor_lt_two_pow (n := 8) (acc_256 h n k) (un_256 h (n + 1) k)
/-- The tag of a salt and a block's number. -/
def fst (key salt : List Nat) (i : Nat) : Nat → Nat := tag key (salt ++ [0, 0, 0, i])
/-- A block. -/
def bl (key salt : List Nat) (rounds i : Nat) : Nat → Nat := acc key (fst key salt i) (rounds - 1)
theorem fst_256 (key salt : List Nat) (i : Nat) : ∀ k, fst key salt i k < 256 := tag_256 _ _
theorem bl_256 (key salt : List Nat) (rounds i : Nat) : ∀ k, bl key salt rounds i k < 256 := acc_256 (fst_256 _ _ _) _
/-- The first n blocks. -/
def cat (key salt : List Nat) (rounds : Nat) : Nat → List Nat
  | 0 => []
  | n + 1 => cat key salt rounds n ++ dl (bl key salt rounds (n + 1))
theorem cat_length (key salt : List Nat) (rounds : Nat) : ∀ n, (cat key salt rounds n).length = 32 * n
  | 0 => rfl
  | n + 1 => by rw [cat, List.length_append, cat_length key salt rounds n, dl_length]; omega
theorem cat_256 (key salt : List Nat) (rounds : Nat) : ∀ n, ∀ x ∈ cat key salt rounds n, x < 256
  | 0 => fun x hx => by cases hx
  | n + 1 => fun x hx => by
    rcases List.mem_append.1 hx with hx | hx
    · exact cat_256 key salt rounds n x hx
    · exact dl_256 (bl_256 _ _ _ _) x hx
/-- A key. -/
def key (pass salt : List Nat) (rounds size : Nat) : List Nat := (cat pass salt rounds 4).take size
theorem key_length {pass salt : List Nat} {rounds size : Nat} (h : size ≤ 128) : (key pass salt rounds size).length = size := by
  unfold key; rw [List.length_take, cat_length]; omega
theorem key_256 (pass salt : List Nat) (rounds size : Nat) : ∀ x ∈ key pass salt rounds size, x < 256 := fun x hx => cat_256 _ _ _ _ x (List.mem_of_mem_take hx)
theorem cat_take (pass salt : List Nat) (rounds : Nat) {n : Nat} : ∀ {m : Nat}, n ≤ m → (cat pass salt rounds m).take (32 * n) = cat pass salt rounds n := by
  intro m h
  induction m with
  | zero => rw [show n = 0 by omega]; rfl
  | succ m ih =>
    by_cases e : n = m + 1
    · subst e; rw [← cat_length pass salt rounds (m + 1), List.take_length]
    · rw [cat, List.take_append_of_le_length (by rw [cat_length]; omega), ih (by omega)]
theorem key_any (pass salt : List Nat) (rounds : Nat) {size n : Nat} (h : size ≤ 32 * n) (h4 : n ≤ 4) : (cat pass salt rounds n).take size = key pass salt rounds size := by
  unfold key
  rw [← cat_take pass salt rounds h4, List.take_take, Nat.min_eq_left h]
theorem key_take (pass salt : List Nat) (rounds : Nat) {n m : Nat} (h : m ≤ n) : (key pass salt rounds n).take m = key pass salt rounds m := by
  unfold key
  rw [List.take_take, Nat.min_eq_left h]
theorem key_32 (pass salt : List Nat) (rounds : Nat) : key pass salt rounds 32 = dl (bl pass salt rounds 1) := by
  rw [← key_any pass salt rounds (n := 1) (by omega) (by omega)]
  show List.take 32 (cat pass salt rounds 0 ++ dl (bl pass salt rounds 1)) = _
  rw [cat, List.nil_append]
  exact List.take_of_length_le (by rw [dl_length]; omega)
/-- What is added behind j blocks. -/
theorem cat_step (pass salt : List Nat) (rounds j size : Nat) (h : 32 * j ≤ size) : (cat pass salt rounds (j + 1)).take size = (cat pass salt rounds j).take size ++ (dl (bl pass salt rounds (j + 1))).take (size - 32 * j) := by
  rw [cat, List.take_append, cat_length]
end Go.Proofs.YtnnhnlabkbjacaaDoor.PbM
