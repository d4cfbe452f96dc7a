/-
  HMAC-SHA-256 in plain numbers: a key's block, tags, stretches; nothing of the program stands here.
-/
import Derived.Test.YtnnhnlabkbjacaaDoorShaM
namespace Go.Proofs.YtnnhnlabkbjacaaDoor.HmM
open ShaM
/-- A digest's bytes as a list. -/
def dl (f : Nat → Nat) : List Nat := (List.range 32).map f
theorem dl_length (f : Nat → Nat) : (dl f).length = 32 := by simp [dl]
theorem dl_get (f : Nat → Nat) {k : Nat} (h : k < 32) : (dl f).getD k 0 = f k := by simp [dl, h]
theorem dl_256 {f : Nat → Nat} (h : ∀ k, f k < 256) : ∀ x ∈ dl f, x < 256 := fun x hx => by
  obtain ⟨k, _, rfl⟩ := List.mem_map.1 hx
  exact h k
theorem dl_congr {f g : Nat → Nat} (h : ∀ k, k < 32 → f k = g k) : dl f = dl g := List.map_congr_left fun k hk => h k (List.mem_range.1 hk)
/-- A key, or the digest of one that is longer than a block. -/
def cutK (key : List Nat) : List Nat := if 64 < key.length then dl (sum key) else key
theorem cutK_len (key : List Nat) : (cutK key).length ≤ 64 := by
  unfold cutK; split
  · rw [dl_length]; omega
  · omega
/-- A key's block. -/
def blk (key : List Nat) : List Nat := cutK key ++ List.replicate (64 - (cutK key).length) 0
theorem blk_length (key : List Nat) : (blk key).length = 64 := by
  have := cutK_len key
  simp [blk]; omega
theorem blk_get (key : List Nat) (j : Nat) : (blk key).getD j 0 = if j < (cutK key).length then (cutK key).getD j 0 else 0 := by
  unfold blk
  rw [List.getD_eq_getElem?_getD, List.getD_eq_getElem?_getD]
  by_cases h : j < (cutK key).length
  · rw [if_pos h, List.getElem?_append_left h]
  · rw [if_neg h, List.getElem?_append_right (by omega), List.getElem?_replicate]
    split <;> rfl
theorem sum_256 (l : List Nat) (k : Nat) : sum l k < 256 := digest_lt _ k
theorem cutK_256 {key : List Nat} (h : ∀ x ∈ key, x < 256) : ∀ x ∈ cutK key, x < 256 := by
  unfold cutK; split
  · exact dl_256 (sum_256 key)
  · exact h
theorem blk_256 {key : List Nat} (h : ∀ x ∈ key, x < 256) : ∀ x ∈ blk key, x < 256 := fun x hx => by
  rcases List.mem_append.1 hx with hx | hx
  · exact cutK_256 h x hx
  · rw [(List.mem_replicate.1 hx).2]; omega
/-- Each byte added to x. -/
def pad (x : Nat) (k : List Nat) : List Nat := k.map (· ^^^ x)
theorem pad_length (x : Nat) (k : List Nat) : (pad x k).length = k.length := by simp [pad]
theorem pad_get (x : Nat) (k : List Nat) {j : Nat} (h : j < k.length) : (pad x k).getD j 0 = k.getD j 0 ^^^ x := by
  simp [pad, List.getD_eq_getElem?_getD, h]
theorem pad_256 {x : Nat} (hx : x < 256) {k : List Nat} (h : ∀ y ∈ k, y < 256) : ∀ y ∈ pad x k, y < 256 := fun y hy => by
  obtain ⟨z, hz, rfl⟩ := List.mem_map.1 hy
  exact Nat.xor_lt_two_pow (n := 8) (h z hz) hx
/-- The tag of b under key. -/
def tag (key b : List Nat) : Nat → Nat := sum (pad 92 (blk key) ++ dl (sum (pad 54 (blk key) ++ b)))
theorem tag_256 (key b : List Nat) (k : Nat) : tag key b k < 256 := sum_256 _ k
/-- Where all tags under a block begin. -/
def from' (x : Nat) (bk : List Nat) : S8 := passes seeds (pad x bk)
theorem from_ok (x : Nat) (bk : List Nat) : (from' x bk).ok := passes_ok _ (Nat.le_refl _) seeds_ok
theorem sum_from {x : Nat} {bk b : List Nat} (h : bk.length = 64) : sum (pad x bk ++ b) = digest (ended (from' x bk) 64 b) := by
  unfold sum from'
  rw [ended_append (n := 1) (by rw [pad_length, h]), pad_length, h]
/-- The tag of whole blocks A and what is left behind them. -/
theorem tag_parts {key A L : List Nat} {n : Nat} (hA : A.length = 64 * n) : tag key (A ++ L) = digest (ended (from' 92 (blk key)) 64 (dl (digest (ended (passes (from' 54 (blk key)) A) (64 + A.length) L)))) := by
  unfold tag
  rw [sum_from (blk_length key), sum_from (blk_length key), ended_append hA]
theorem tag_zeros {key : List Nat} {m : Nat} (h : key.length + m ≤ 64) (b : List Nat) : tag (key ++ List.replicate m 0) b = tag key b := by
  have e : blk (key ++ List.replicate m 0) = blk key := by
    have c1 : cutK (key ++ List.replicate m 0) = key ++ List.replicate m 0 := by unfold cutK; rw [if_neg (by simp; omega)]
    have c2 : cutK key = key := by unfold cutK; rw [if_neg (by omega)]
    unfold blk
    rw [c1, c2, List.append_assoc, List.length_append, List.length_replicate, List.replicate_append_replicate, show m + (64 - (key.length + m)) = 64 - key.length by omega]
  unfold tag
  rw [e]
theorem tag_long {key : List Nat} (h : 64 < key.length) (b : List Nat) : tag (dl (sum key)) b = tag key b := by
  have e : blk (dl (sum key)) = blk key := by
    have c1 : cutK (dl (sum key)) = dl (sum key) := by unfold cutK; rw [if_neg (by rw [dl_length]; omega)]
    have c2 : cutK key = dl (sum key) := by unfold cutK; rw [if_pos h]
    unfold blk
    rw [c1, c2]
  unfold tag
  rw [e]
/-- The n-th tag of a stretch, from 1 on; the one ahead of the first has no bytes. -/
def link (key b : List Nat) : Nat → List Nat
  | 0 => []
  | n + 1 => dl (tag key (link key b n ++ b ++ [(n + 1) % 256]))
theorem link_length (key b : List Nat) (n : Nat) : (link key b (n + 1)).length = 32 := dl_length _
theorem link_256 (key b : List Nat) : ∀ n, ∀ x ∈ link key b n, x < 256
  | 0 => fun x hx => by cases hx
  | n + 1 => dl_256 (tag_256 _ _)
/-- The first n tags of a stretch. -/
def chain (key b : List Nat) : Nat → List Nat
  | 0 => []
  | n + 1 => chain key b n ++ link key b (n + 1)
theorem chain_length (key b : List Nat) : ∀ n, (chain key b n).length = 32 * n
  | 0 => rfl
  | n + 1 => by rw [chain, List.length_append, chain_length key b n, link_length]; omega
theorem chain_256 (key b : List Nat) : ∀ n, ∀ x ∈ chain key b n, x < 256
  | 0 => fun x hx => by cases hx
  | n + 1 => fun x hx => by
    rcases List.mem_append.1 hx with hx | hx
    · exact chain_256 key b n x hx
    · exact link_256 key b (n + 1) x hx
/-- The first size bytes. -/
def stretch (key b : List Nat) (size : Nat) : List Nat := (chain key b ((size + 31) / 32)).take size
theorem stretch_length (key b : List Nat) (size : Nat) : (stretch key b size).length = size := by
  unfold stretch; rw [List.length_take, chain_length]; omega
theorem chain_take (key b : List Nat) {n : Nat} : ∀ {m : Nat}, n ≤ m → (chain key b m).take (32 * n) = chain key b n := by
  intro m h
  induction m with
  | zero => rw [show n = 0 by omega]; rfl
  | succ m ih =>
    by_cases e : n = m + 1
    · subst e; rw [← chain_length key b (m + 1), List.take_length]
    · rw [chain, List.take_append_of_le_length (by rw [chain_length]; omega), ih (by omega)]
theorem stretch_any (key b : List Nat) {size n : Nat} (h : size ≤ 32 * n) : (chain key b n).take size = stretch key b size := by
  unfold stretch
  rw [← chain_take key b (n := (size + 31) / 32) (m := n) (by omega), List.take_take, Nat.min_eq_left (by omega)]
theorem stretch_take (key b : List Nat) {n m : Nat} (h : m ≤ n) : (stretch key b n).take m = stretch key b m := by
  have e : stretch key b n = (chain key b ((n + 31) / 32)).take n := rfl
  rw [e, List.take_take, Nat.min_eq_left h]
  exact stretch_any key b (by omega)
end Go.Proofs.YtnnhnlabkbjacaaDoor.HmM
