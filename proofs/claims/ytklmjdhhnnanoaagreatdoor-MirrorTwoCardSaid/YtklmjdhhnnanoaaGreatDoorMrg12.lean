/-
  Contract of casemateref17.Numbered: the document's row of a number and a sector.
  SHA-256 in plain numbers: what one step, one pass and all passes make; nothing of the program stands here.
  Contracts of math/bits.RotateLeft32 and sha.rot over this translation.
  Contract of sha.step over this translation.
  Contract of sha.step over this translation.
  Contract of sha.spread over this translation.
  Contracts of sha.pass and sha.passes over this translation.
  Contract of sha.passes over this translation.
  Contract of sha.digest over this translation.
  Contract of sha.finish over this translation.
  The struct sha.Prefix as a value and in memory; contracts of sha.start, More over this translation.
-/
import Derived.Test.YtklmjdhhnnanoaaGreatDoorMrg11
import Derived.Test.YtklmjdhhnnanoaaGreatDoorRows
import Derived.WalkKit
import Derived.ProofKit
import Derived.OpenShut
import Derived.StillTailTactics
import Derived.Outline
import Derived.Deep.Cut
import Derived.Lib.LaidTab
import Derived.Lib.ItoaNum
import Derived.Laws.CopyOwn
import Derived.Deep.WholeRow
set_option linter.unusedVariables false
set_option linter.unusedSimpArgs false
set_option maxRecDepth 100000
namespace Go.Proofs.YtklmjdhhnnanoaaGreatDoor
open Go.ChangeShapes Go.WideShapes Go.ChangeAt Go.RowKit
attribute [local go_sem] Gives
namespace TgP
end TgP
end Go.Proofs.YtklmjdhhnnanoaaGreatDoor
namespace Go.Proofs.YtklmjdhhnnanoaaGreatDoor.ShaM
def rr (x n : Nat) : Nat := (x * 2 ^ (32 - n)) % 4294967296 ||| x / 2 ^ n
def add (a b : Nat) : Nat := (a + b) % 4294967296
def not32 (x : Nat) : Nat := 4294967295 - x
structure S8 where
  a : Nat
  b : Nat
  c : Nat
  d : Nat
  e : Nat
  f : Nat
  g : Nat
  h : Nat
deriving DecidableEq
def S8.get (s : S8) : Nat → Nat
  | 0 => s.a
  | 1 => s.b
  | 2 => s.c
  | 3 => s.d
  | 4 => s.e
  | 5 => s.f
  | 6 => s.g
  | 7 => s.h
  | _ => 0
def S8.ok (s : S8) : Prop := s.a < 4294967296 ∧ s.b < 4294967296 ∧ s.c < 4294967296 ∧ s.d < 4294967296 ∧ s.e < 4294967296 ∧ s.f < 4294967296 ∧ s.g < 4294967296 ∧ s.h < 4294967296
theorem S8.get_lt {s : S8} (h : s.ok) : ∀ k, s.get k < 4294967296
  | 0 => h.1
  | 1 => h.2.1
  | 2 => h.2.2.1
  | 3 => h.2.2.2.1
  | 4 => h.2.2.2.2.1
  | 5 => h.2.2.2.2.2.1
  | 6 => h.2.2.2.2.2.2.1
  | 7 => h.2.2.2.2.2.2.2
  | _ + 8 => by simp [S8.get]
def pOf (s : S8) (x : Nat) : Nat := add (add (add s.h (rr s.e 6 ^^^ rr s.e 11 ^^^ rr s.e 25)) ((s.e &&& s.f) ^^^ (not32 s.e &&& s.g))) x
def qOf (s : S8) : Nat := add (rr s.a 2 ^^^ rr s.a 13 ^^^ rr s.a 22) ((s.a &&& s.b) ^^^ (s.a &&& s.c) ^^^ (s.b &&& s.c))
def step (s : S8) (x : Nat) : S8 := ⟨add (pOf s x) (qOf s), s.a, s.b, s.c, add s.d (pOf s x), s.e, s.f, s.g⟩
theorem add_lt (a b : Nat) : add a b < 4294967296 := Nat.mod_lt _ (by omega)
theorem step_ok {s : S8} (h : s.ok) (x : Nat) : (step s x).ok := ⟨add_lt _ _, h.1, h.2.1, h.2.2.1, add_lt _ _, h.2.2.2.2.1, h.2.2.2.2.2.1, h.2.2.2.2.2.2.1⟩
theorem rr_lt {x : Nat} (h : x < 4294967296) (n : Nat) : rr x n < 4294967296 := by
  unfold rr
  exact Nat.or_lt_two_pow (n := 32) (Nat.mod_lt _ (by omega)) (Nat.lt_of_le_of_lt (Nat.div_le_self _ _) h)
def word (b : Nat → Nat) (j : Nat) : Nat := ((b (4 * j) * 256 + b (4 * j + 1)) * 256 + b (4 * j + 2)) * 256 + b (4 * j + 3)
def l0 (x : Nat) : Nat := rr x 7 ^^^ rr x 18 ^^^ (x / 8)
def l1 (x : Nat) : Nat := rr x 17 ^^^ rr x 19 ^^^ (x / 1024)
def next (m : List Nat) (n : Nat) : Nat := add (add (add (m.getD (n - 16) 0) (l0 (m.getD (n - 15) 0))) (m.getD (n - 7) 0)) (l1 (m.getD (n - 2) 0))
def ext : Nat → List Nat → List Nat
  | 0, m => m
  | k + 1, m => ext k (m ++ [next m m.length])
def first (b : Nat → Nat) : List Nat := (List.range 16).map (word b)
def sched (b : Nat → Nat) : List Nat := ext 48 (first b)
theorem ext_succ : ∀ (k : Nat) (m : List Nat), ext (k + 1) m = ext k m ++ [next (ext k m) (ext k m).length]
  | 0, m => rfl
  | k + 1, m => by rw [ext, ext_succ k]; rfl
theorem ext_length : ∀ (k : Nat) (m : List Nat), (ext k m).length = m.length + k
  | 0, m => rfl
  | k + 1, m => by rw [ext_succ, List.length_append, ext_length k]; simp; omega
theorem first_length (b : Nat → Nat) : (first b).length = 16 := by simp [first]
theorem ext_get_old (k : Nat) (m : List Nat) (i : Nat) (h : i < m.length + k) : (ext (k + 1) m).getD i 0 = (ext k m).getD i 0 := by
  rw [ext_succ, List.getD_eq_getElem?_getD, List.getD_eq_getElem?_getD, List.getElem?_append_left (by rw [ext_length]; exact h)]
theorem getD_last (l : List Nat) (x : Nat) : (l ++ [x]).getD l.length 0 = x := by
  rw [List.getD_eq_getElem?_getD, List.getElem?_append_right (Nat.le_refl _), Nat.sub_self]; rfl
theorem ext_get_new (k : Nat) (m : List Nat) : (ext (k + 1) m).getD (m.length + k) 0 = next (ext k m) (m.length + k) := by
  have h := getD_last (ext k m) (next (ext k m) (ext k m).length)
  rw [← ext_succ, ext_length] at h
  exact h
theorem first_get (b : Nat → Nat) {j : Nat} (h : j < 16) : (first b).getD j 0 = word b j := by
  simp [first, h]
theorem word_lt {b : Nat → Nat} (hb : ∀ k, b k < 256) (j : Nat) : word b j < 4294967296 := by
  have h0 := hb (4 * j); have h1 := hb (4 * j + 1); have h2 := hb (4 * j + 2); have h3 := hb (4 * j + 3)
  unfold word; omega
theorem getD_lt {m : List Nat} {M : Nat} (h0 : 0 < M) (h : ∀ x ∈ m, x < M) (i : Nat) : m.getD i 0 < M := by
  rw [List.getD_eq_getElem?_getD]
  cases e : m[i]? with
  | none => simpa using h0
  | some x => exact h x (List.mem_of_getElem? e)
theorem ext_lt : ∀ (k : Nat) {m : List Nat}, (∀ x ∈ m, x < 4294967296) → ∀ x ∈ ext k m, x < 4294967296
  | 0, _, h => h
  | k + 1, m, h => by
    rw [ext_succ]
    intro x hx
    rcases List.mem_append.1 hx with hx | hx
    · exact ext_lt k h x hx
    · rw [List.mem_singleton.1 hx]; exact add_lt _ _
theorem first_lt {b : Nat → Nat} (hb : ∀ k, b k < 256) : ∀ x ∈ first b, x < 4294967296 := by
  intro x hx
  obtain ⟨j, _, rfl⟩ := List.mem_map.1 hx
  exact word_lt hb j
def salts : List Nat := [1116352408, 1899447441, 3049323471, 3921009573, 961987163, 1508970993, 2453635748, 2870763221, 3624381080, 310598401, 607225278, 1426881987, 1925078388, 2162078206, 2614888103, 3248222580, 3835390401, 4022224774, 264347078, 604807628, 770255983, 1249150122, 1555081692, 1996064986, 2554220882, 2821834349, 2952996808, 3210313671, 3336571891, 3584528711, 113926993, 338241895, 666307205, 773529912, 1294757372, 1396182291, 1695183700, 1986661051, 2177026350, 2456956037, 2730485921, 2820302411, 3259730800, 3345764771, 3516065817, 3600352804, 4094571909, 275423344, 430227734, 506948616, 659060556, 883997877, 958139571, 1322822218, 1537002063, 1747873779, 1955562222, 2024104815, 2227730452, 2361852424, 2428436474, 2756734187, 3204031479, 3329325298]
def saltAt (n : Nat) : Nat := salts.getD n 0
def steps (m : List Nat) : Nat → S8 → S8
  | 0, s => s
  | n + 1, s => step (steps m n s) (add (saltAt n) (m.getD n 0))
theorem steps_ok (m : List Nat) {s : S8} (h : s.ok) : ∀ n, (steps m n s).ok
  | 0 => h
  | n + 1 => step_ok (steps_ok m h n) _
def addS (s t : S8) : S8 := ⟨add s.a t.a, add s.b t.b, add s.c t.c, add s.d t.d, add s.e t.e, add s.f t.f, add s.g t.g, add s.h t.h⟩
theorem addS_get (s t : S8) {k : Nat} (h : k < 8) : (addS s t).get k = add (s.get k) (t.get k) := by
  match k, h with
  | 0, _ | 1, _ | 2, _ | 3, _ | 4, _ | 5, _ | 6, _ | 7, _ => rfl
def pass (s : S8) (b : Nat → Nat) : S8 := addS (steps (sched b) 64 s) s
theorem addS_ok (s t : S8) : (addS s t).ok := ⟨add_lt _ _, add_lt _ _, add_lt _ _, add_lt _ _, add_lt _ _, add_lt _ _, add_lt _ _, add_lt _ _⟩
theorem pass_ok (s : S8) (b : Nat → Nat) : (pass s b).ok := addS_ok _ _
def acc (b : Nat → Nat) (o : Nat) : Nat → Nat
  | 0 => 0
  | c + 1 => acc b o c * 256 + b (o + c)
theorem acc_lt {b : Nat → Nat} (hb : ∀ k, b k < 256) (o : Nat) : ∀ c, acc b o c < 256 ^ c
  | 0 => by simp [acc]
  | c + 1 => by
    have h1 := acc_lt hb o c
    have h2 := hb (o + c)
    rw [acc, Nat.pow_succ]
    omega
def part (b : Nat → Nat) (k j : Nat) : Nat := acc b (4 * j) (min (k - 4 * j) 4)
theorem part_zero (b : Nat → Nat) (j : Nat) : part b 0 j = 0 := by unfold part; rw [Nat.zero_sub, Nat.zero_min]; rfl
theorem part_step {b : Nat → Nat} (hb : ∀ k, b k < 256) (k j : Nat) :
    part b (k + 1) j = if j = k / 4 then (part b k j * 256) % 4294967296 ||| b k else part b k j := by
  unfold part
  by_cases h : j = k / 4
  · rw [if_pos h]
    obtain ⟨r, hr, rfl⟩ : ∃ r, r < 4 ∧ k = 4 * j + r := ⟨k % 4, Nat.mod_lt _ (by omega), by omega⟩
    rw [show min (4 * j + r - 4 * j) 4 = r by omega, show min (4 * j + r + 1 - 4 * j) 4 = r + 1 by omega, acc]
    have h1 := acc_lt hb (4 * j) r
    have h2 : 256 ^ r ≤ 16777216 := Nat.le_trans (Nat.pow_le_pow_right (by omega) (show r ≤ 3 by omega)) (by decide)
    rw [Nat.mod_eq_of_lt (by omega)]
    have h3 := Nat.shiftLeft_add_eq_or_of_lt (i := 8) (hb (4 * j + r)) (acc b (4 * j) r)
    rw [Nat.shiftLeft_eq] at h3
    exact h3
  · rw [if_neg h]
    congr 1
    omega
theorem part_full (b : Nat → Nat) {j : Nat} (h : j < 16) : part b 64 j = word b j := by
  unfold part
  rw [show min (64 - 4 * j) 4 = 4 by omega]
  simp [acc, word]
theorem part_none (b : Nat → Nat) {j : Nat} (h : 16 ≤ j) : part b 64 j = 0 := by
  unfold part
  rw [show min (64 - 4 * j) 4 = 0 by omega]; rfl
theorem first_part (b : Nat → Nat) (j : Nat) : (first b).getD j 0 = part b 64 j := by
  rcases Nat.lt_or_ge j 16 with h | h
  · rw [first_get b h, part_full b h]
  · rw [part_none b h, List.getD_eq_getElem?_getD, List.getElem?_eq_none (by rw [first_length]; exact h)]; rfl
theorem part_lt {b : Nat → Nat} (hb : ∀ k, b k < 256) (k j : Nat) : part b k j < 4294967296 := by
  unfold part
  have h1 := acc_lt hb (4 * j) (min (k - 4 * j) 4)
  have h2 : 256 ^ (min (k - 4 * j) 4) ≤ 256 ^ 4 := Nat.pow_le_pow_right (by omega) (Nat.min_le_right _ _)
  have h3 : 256 ^ 4 = 4294967296 := by decide
  omega
def upM (b : Nat → Nat) (k j : Nat) : Nat := (ext k (first b)).getD j 0
theorem upM_step (b : Nat → Nat) (k j : Nat) : upM b (k + 1) j = if j = 16 + k then next (ext k (first b)) (16 + k) else upM b k j := by
  unfold upM
  have hl : (first b).length = 16 := first_length b
  by_cases h : j = 16 + k
  · rw [if_pos h, h, ← hl]; exact ext_get_new k (first b)
  · rw [if_neg h]
    rcases Nat.lt_or_ge j (16 + k) with h2 | h2
    · exact ext_get_old k (first b) j (by omega)
    · rw [List.getD_eq_getElem?_getD, List.getD_eq_getElem?_getD, List.getElem?_eq_none (by rw [ext_length]; omega), List.getElem?_eq_none (by rw [ext_length]; omega)]
theorem upM_lt {b : Nat → Nat} (hb : ∀ k, b k < 256) (k j : Nat) : upM b k j < 4294967296 := getD_lt (by omega) (ext_lt k (first_lt hb)) j
theorem next_upM (b : Nat → Nat) (k : Nat) : next (ext k (first b)) (16 + k) = add (add (add (upM b k k) (l0 (upM b k (k + 1)))) (upM b k (k + 9))) (l1 (upM b k (k + 14))) := by
  unfold next upM
  rw [show 16 + k - 16 = k by omega, show 16 + k - 15 = k + 1 by omega, show 16 + k - 7 = k + 9 by omega, show 16 + k - 2 = k + 14 by omega]
def at' (l : List Nat) (k : Nat) : Nat := l.getD k 0
def passes (s : S8) (l : List Nat) : S8 := if _h : 64 ≤ l.length then passes (pass s (at' l)) (l.drop 64) else s
termination_by l.length
decreasing_by simp; omega
theorem passes_short {s : S8} {l : List Nat} (h : l.length < 64) : passes s l = s := by rw [passes, dif_neg (by omega)]
theorem passes_long {s : S8} {l : List Nat} (h : 64 ≤ l.length) : passes s l = passes (pass s (at' l)) (l.drop 64) := by rw [passes, dif_pos h]
theorem word_congr {b b' : Nat → Nat} (h : ∀ k, k < 64 → b k = b' k) {j : Nat} (hj : j < 16) : word b j = word b' j := by
  unfold word; rw [h _ (by omega), h _ (by omega), h _ (by omega), h _ (by omega)]
theorem first_congr {b b' : Nat → Nat} (h : ∀ k, k < 64 → b k = b' k) : first b = first b' :=
  List.map_congr_left fun _ hj => word_congr h (List.mem_range.1 hj)
theorem pass_congr (s : S8) {b b' : Nat → Nat} (h : ∀ k, k < 64 → b k = b' k) : pass s b = pass s b' := by unfold pass sched; rw [first_congr h]
theorem passes_append {l : List Nat} (n : Nat) : ∀ {s : S8} {k : List Nat}, k.length = 64 * n → passes s (k ++ l) = passes (passes s k) l := by
  induction n with
  | zero => intro s k hk; obtain rfl : k = [] := List.eq_nil_of_length_eq_zero (by omega); rw [passes_short (l := []) (by simp)]; rfl
  | succ n ih =>
    intro s k hk
    rw [passes_long (l := k ++ l) (by simp; omega), passes_long (l := k) (by omega), List.drop_append_of_le_length (by omega), ih (by simp; omega),
      pass_congr s fun i hi => ?_]
    unfold at'
    rw [List.getD_eq_getElem?_getD, List.getD_eq_getElem?_getD, List.getElem?_append_left (by omega)]
def seeds : S8 := ⟨1779033703, 3144134277, 1013904242, 2773480762, 1359893119, 2600822924, 528734635, 1541459225⟩
theorem seeds_ok : seeds.ok := by unfold S8.ok seeds; decide
theorem passes_ok {l : List Nat} (n : Nat) : ∀ {s : S8}, l.length ≤ n → s.ok → (passes s l).ok := by
  induction n generalizing l with
  | zero => intro s hl h; rw [passes_short (by omega)]; exact h
  | succ n ih =>
    intro s hl h
    by_cases hc : 64 ≤ l.length
    · rw [passes_long hc]; exact ih (by simp; omega) (pass_ok _ _)
    · rw [passes_short (by omega)]; exact h
def count8 (x : Nat) : List Nat := (List.range 8).map fun i => x / 2 ^ (8 * (7 - i)) % 256
def zeros (n : Nat) : Nat := (64 - (n + 9) % 64) % 64
def tail (n : Nat) : List Nat := 128 :: (List.replicate (zeros n) 0 ++ count8 (8 * n))
theorem tail_length (n : Nat) : (tail n).length = 9 + zeros n := by simp [tail, count8]; omega
def digest (s : S8) (j : Nat) : Nat := s.get (j / 4) / 2 ^ (8 * (3 - j % 4)) % 256
theorem digest_lt (s : S8) (j : Nat) : digest s j < 256 := Nat.mod_lt _ (by omega)
def ended (s : S8) (size : Nat) (rest : List Nat) : S8 := passes s (rest ++ tail (size + rest.length))
def sum (l : List Nat) : Nat → Nat := digest (ended seeds 0 l)
theorem ended_append {a r : List Nat} {s : S8} {size n : Nat} (ha : a.length = 64 * n) : ended s size (a ++ r) = ended (passes s a) (size + a.length) r := by
  unfold ended
  rw [List.append_assoc, passes_append n ha, List.length_append, Nat.add_assoc]
def fin (l : List Nat) (size L i j : Nat) : Nat :=
  if j < l.length then l.getD j 0 else if j = l.length then 128 else if L - i ≤ j ∧ j < L then 8 * size / 2 ^ (8 * (L - 1 - j)) % 256 else 0
theorem fin_step (l : List Nat) {size L i c : Nat} (hn : l.length < L - 8) (hi : i < 8) (hc : c + i + 1 = L) :
    (fun j => if j = c then 8 * size / 2 ^ (8 * i) % 256 else fin l size L i j) = fin l size L (i + 1) := funext fun j => by
  unfold fin
  by_cases h : j = c
  · rw [if_pos h, if_neg (by omega), if_neg (by omega), if_pos (by omega), show L - 1 - j = i by omega]
  · rw [if_neg h]
    by_cases h1 : j < l.length
    · rw [if_pos h1, if_pos h1]
    · rw [if_neg h1, if_neg h1]
      by_cases h2 : j = l.length
      · rw [if_pos h2, if_pos h2]
      · rw [if_neg h2, if_neg h2]
        by_cases h3 : L - i ≤ j ∧ j < L
        · rw [if_pos h3, if_pos (by omega)]
        · rw [if_neg h3, if_neg (by omega)]
theorem fin_zero (l : List Nat) (size L : Nat) : (fun j => if j = l.length then 128 else if j < l.length then l.getD j 0 else 0) = fin l size L 0 := funext fun j => by
  unfold fin
  by_cases h : j = l.length
  · rw [if_pos h, if_neg (by omega), if_pos h]
  · rw [if_neg h]
    by_cases h1 : j < l.length
    · rw [if_pos h1, if_pos h1]
    · rw [if_neg h1, if_neg h1, if_neg h, if_neg (by omega)]
theorem count8_get (x : Nat) {i : Nat} (h : i < 8) : (count8 x).getD i 0 = x / 2 ^ (8 * (7 - i)) % 256 := by
  rw [count8, List.getD_eq_getElem?_getD, List.getElem?_map, List.getElem?_range h]; rfl
theorem ended_length {l : List Nat} {size L : Nat} (hs : size % 64 = l.length) (h : L = if l.length + 9 ≤ 64 then 64 else 128) : (l ++ tail size).length = L := by
  rw [List.length_append, tail_length]
  unfold zeros
  split at h <;> omega
theorem ended_get {l : List Nat} {size L : Nat} (hs : size % 64 = l.length) (h : L = if l.length + 9 ≤ 64 then 64 else 128) {j : Nat} (hj : j < L) : (l ++ tail size).getD j 0 = fin l size L 8 j := by
  have hz : l.length + 1 + zeros size = L - 8 := by unfold zeros; split at h <;> omega
  unfold fin
  rw [List.getD_eq_getElem?_getD]
  by_cases h1 : j < l.length
  · rw [if_pos h1, List.getElem?_append_left h1, List.getD_eq_getElem?_getD]
  · rw [if_neg h1, List.getElem?_append_right (by omega)]
    by_cases h2 : j = l.length
    · rw [if_pos h2, h2, Nat.sub_self]; rfl
    · rw [if_neg h2]
      obtain ⟨m, hm⟩ : ∃ m, j = l.length + (m + 1) := ⟨j - l.length - 1, by omega⟩
      rw [show j - l.length = m + 1 by omega, tail, List.getElem?_cons_succ]
      by_cases h3 : m < zeros size
      · rw [List.getElem?_append_left (by simpa using h3), List.getElem?_replicate, if_pos h3, if_neg (by omega)]; rfl
      · rw [List.getElem?_append_right (by simpa using h3), List.length_replicate, if_pos (by omega), ← List.getD_eq_getElem?_getD, count8_get _ (by omega), show 7 - (m - zeros size) = L - 1 - j by omega]
theorem tail_256 (n : Nat) : ∀ x ∈ tail n, x < 256 := by
  intro x hx
  rw [tail, List.mem_cons, List.mem_append] at hx
  rcases hx with rfl | hx | hx
  · decide
  · rw [(List.mem_replicate.1 hx).2]; decide
  · obtain ⟨i, _, rfl⟩ := List.mem_map.1 hx
    exact Nat.mod_lt _ (by omega)
end Go.Proofs.YtklmjdhhnnanoaaGreatDoor.ShaM
set_option maxRecDepth 100000
namespace Go.Proofs.YtklmjdhhnnanoaaGreatDoor
open Go.ChangeShapes Go.WideShapes Go.ChangeAt Go.RowKit
theorem ret_int {k : IntKind} {a b : Int} (h : a = b) : Ending.returned (.int k a) = .returned (.int k b) := by rw [h]
theorem neg_mask : ∀ n : Nat, n < 32 → 0 < n → bits .and .u64 (IntKind.u64.wrap (-(n : Int))) 31 = ((32 - n : Nat) : Int) := by decide +kernel
theorem rl_any (x n m : Nat) (hx : x < 4294967296) (h0 : 0 < n) (hn : n < 32) (hm : n + m = 32) (w : World) :
    Calls Tryz.prog 188 #[.int .u32 x, .int .i64 (-(n : Int))] w fun e w' => e = .returned (.int .u32 (ShaM.rr x n : Nat)) ∧ w = w' := by
  have H : bits .and .u64 (IntKind.u64.wrap (-(n : Int))) 31 = (m : Int) := by rw [neg_mask n hn h0]; omega
  go_enter Tryz.func188, Tryz.ntmps188
  go_wp2
  go_ret
  refine ⟨ret_int ?_, rfl⟩
  obtain rfl : m = 32 - n := by omega
  have e1 : (x : Int) * 2 ^ (32 - n) % 4294967296 = ((x * 2 ^ (32 - n) % 4294967296 : Nat) : Int) := by simp
  have e2 : (x : Int) / 2 ^ (32 - (32 - n)) = ((x / 2 ^ n : Nat) : Int) := by rw [show 32 - (32 - n) = n by omega]; simp
  rw [e1, e2, u32_or_nat _ _ (Nat.mod_lt _ (by omega)) (Nat.lt_of_le_of_lt (Nat.div_le_self _ _) hx)]
  rfl
theorem rot_any (x n : Nat) (hx : x < 4294967296) (h0 : 0 < n) (hn : n < 32) (w : World) :
    Calls Tryz.prog 186 #[.int .u32 x, .int .i64 n] w fun e w' => e = .returned (.int .u32 (ShaM.rr x n : Nat)) ∧ w = w' := by
  go_enter Tryz.func186, Tryz.ntmps186
  go_wp2_with ((with_reducible refine (rl_any x n (32 - n) hx h0 hn (by omega) _).mono ?_); rintro e w' ⟨rfl, rfl⟩)
  go_ret
  exact ⟨rfl, rfl⟩
end Go.Proofs.YtklmjdhhnnanoaaGreatDoor
set_option maxRecDepth 100000
namespace Go.Proofs.YtklmjdhhnnanoaaGreatDoor
open Go.ChangeShapes Go.WideShapes Go.ChangeAt Go.RowKit
attribute [local go_sem] Gives
def idx (l n : Nat) : Nat := (l + 64 - n) % 8
theorem idx_lt (l n : Nat) : idx l n < 8 := Nat.mod_lt _ (by omega)
theorem idx_lti (l n : Nat) : ((idx l n : Nat) : Int) < 8 := by have := idx_lt l n; omega
theorem at_mask : ∀ n : Nat, n < 64 → ∀ l : Nat, l < 8 → bits .and .i64 ((l : Int) - (n : Int)) 7 = ((idx l n : Nat) : Int) := by decide +kernel
theorem at_any (l n g : Nat) (hl : l < 8) (hn : n < 64) (w : World) (hc : w.cell? ⟨g, 0, none⟩ = some (.int .i64 n)) :
    Calls Tryz.prog 187 #[.int .i64 l, .pointer (some ⟨g, 0, none⟩)] w fun e w' => e = .returned (.int .i64 (idx l n : Nat)) ∧ w = w' := by
  have H := at_mask n hn l hl
  go_enter Tryz.func187, Tryz.ntmps187
  go_wp2
  go_ret
  exact ⟨rfl, rfl⟩
def letters (s : ShaM.S8) (n : Nat) : Array Value := row 8 fun j => .int .u32 (s.get ((j + n) % 8) : Nat)
theorem letters_at (s : ShaM.S8) {l n : Nat} (hl : l < 8) (hn : n ≤ 64) : (letters s n)[idx l n]? = some (.int .u32 (s.get l : Nat)) := by
  unfold letters
  rw [get_row_lt (idx_lt l n)]
  unfold idx
  rw [show ((l + 64 - n) % 8 + n) % 8 = l by omega]
theorem letters_set (s : ShaM.S8) {n u v : Nat} (hn : n < 64) :
    ((letters s n).setIfInBounds (idx 3 n) (.int .u32 (v : Nat))).setIfInBounds (idx 7 n) (.int .u32 (u : Nat)) = letters ⟨u, s.a, s.b, s.c, v, s.e, s.f, s.g⟩ (n + 1) := by
  unfold letters
  rw [row_set, row_set]
  refine row_ext fun j hj => ?_
  have e : ∀ l, l < 8 → (j = idx l n ↔ (j + n) % 8 = l) := fun l hl => by unfold idx; omega
  simp only [e 7 (by omega), e 3 (by omega)]
  have hl : (j + n) % 8 < 8 := Nat.mod_lt _ (by omega)
  have e1 : (j + (n + 1)) % 8 = ((j + n) % 8 + 1) % 8 := by omega
  rw [e1]
  generalize (j + n) % 8 = l at *
  match l, hl with
  | 0, _ | 1, _ | 2, _ | 3, _ | 4, _ | 5, _ | 6, _ | 7, _ => rfl
theorem letters_step (s : ShaM.S8) {n x : Nat} (hn : n < 64) :
    ((letters s n).setIfInBounds (idx 3 n) (.int .u32 (ShaM.add s.d (ShaM.pOf s x) : Nat))).setIfInBounds (idx 7 n) (.int .u32 (ShaM.add (ShaM.pOf s x) (ShaM.qOf s) : Nat)) = letters (ShaM.step s x) (n + 1) := letters_set s hn
theorem u32_wrap_nat (a b : Nat) : IntKind.u32.wrap ((a : Int) + (b : Int)) = ((ShaM.add a b : Nat) : Int) := by
  rw [IntKind.wrap_u32']
  unfold ShaM.add
  omega
theorem not_nat (a : Nat) (ha : a < 4294967296) : bits .xor .u32 4294967295 (a : Int) = ((ShaM.not32 a : Nat) : Int) := by
  rw [show (4294967295 : Int) = ((4294967295 : Nat) : Int) from rfl, u32_xor_nat _ _ (by omega) ha]
  unfold ShaM.not32
  have h : (4294967295 ^^^ a) = 4294967295 - a := by
    have := congrArg BitVec.toNat (BitVec.allOnes_xor (x := BitVec.ofNat 32 a))
    rw [BitVec.toNat_xor, BitVec.toNat_allOnes, BitVec.toNat_not, BitVec.toNat_ofNat, Nat.mod_eq_of_lt (by omega)] at this
    exact this
  rw [h]
theorem q_nat (s : ShaM.S8) (hs : s.ok) : (bits .xor .u32 (bits .xor .u32 ((ShaM.rr (s.get 0) 2 : Nat) : Int) ((ShaM.rr (s.get 0) 13 : Nat) : Int)) ((ShaM.rr (s.get 0) 22 : Nat) : Int) +
    bits .xor .u32 (bits .xor .u32 (bits .and .u32 ((s.get 0 : Nat) : Int) ((s.get 1 : Nat) : Int)) (bits .and .u32 ((s.get 0 : Nat) : Int) ((s.get 2 : Nat) : Int))) (bits .and .u32 ((s.get 1 : Nat) : Int) ((s.get 2 : Nat) : Int))) % 4294967296 = ((ShaM.qOf s : Nat) : Int) := by
  have h0 := ShaM.S8.get_lt hs 0
  have h1 := ShaM.S8.get_lt hs 1
  have h2 := ShaM.S8.get_lt hs 2
  have ha : ∀ a b : Nat, a < 4294967296 → (a &&& b) < 4294967296 := fun a b h => Nat.lt_of_le_of_lt Nat.and_le_left h
  have hr := fun n => ShaM.rr_lt h0 n
  rw [u32_and_nat _ _ h0 h1, u32_and_nat _ _ h0 h2, u32_and_nat _ _ h1 h2, u32_xor_nat _ _ (ha _ _ h0) (ha _ _ h0), u32_xor_nat _ _ (Nat.xor_lt_two_pow (n := 32) (ha _ _ h0) (ha _ _ h0)) (ha _ _ h1),
    u32_xor_nat _ _ (hr 2) (hr 13), u32_xor_nat _ _ (Nat.xor_lt_two_pow (n := 32) (hr 2) (hr 13)) (hr 22), ← IntKind.wrap_u32', u32_wrap_nat]
  rfl
theorem p_nat (s : ShaM.S8) (hs : s.ok) (x : Nat) : IntKind.u32.wrap (IntKind.u32.wrap (IntKind.u32.wrap (((s.get 7 : Nat) : Int) +
    bits .xor .u32 (bits .xor .u32 ((ShaM.rr (s.get 4) 6 : Nat) : Int) ((ShaM.rr (s.get 4) 11 : Nat) : Int)) ((ShaM.rr (s.get 4) 25 : Nat) : Int)) +
    bits .xor .u32 (bits .and .u32 ((s.get 4 : Nat) : Int) ((s.get 5 : Nat) : Int)) (bits .and .u32 (bits .xor .u32 (if IntKind.u32.signed = true then -1 else IntKind.u32.max) ((s.get 4 : Nat) : Int)) ((s.get 6 : Nat) : Int))) + (x : Int)) = ((ShaM.pOf s x : Nat) : Int) := by
  have h4 := ShaM.S8.get_lt hs 4
  have h5 := ShaM.S8.get_lt hs 5
  have h6 := ShaM.S8.get_lt hs 6
  have hn : ShaM.not32 (s.get 4) < 4294967296 := by unfold ShaM.not32; omega
  have ha : ∀ a b : Nat, a < 4294967296 → (a &&& b) < 4294967296 := fun a b h => Nat.lt_of_le_of_lt Nat.and_le_left h
  have hr := fun n => ShaM.rr_lt h4 n
  rw [show (if IntKind.u32.signed = true then (-1 : Int) else IntKind.u32.max) = 4294967295 from rfl, not_nat _ h4, u32_and_nat _ _ h4 h5, u32_and_nat _ _ hn h6, u32_xor_nat _ _ (ha _ _ h4) (ha _ _ hn),
    u32_xor_nat _ _ (hr 6) (hr 11), u32_xor_nat _ _ (Nat.xor_lt_two_pow (n := 32) (hr 6) (hr 11)) (hr 25), u32_wrap_nat, u32_wrap_nat, u32_wrap_nat]
  rfl
end Go.Proofs.YtklmjdhhnnanoaaGreatDoor
set_option maxRecDepth 100000
namespace Go.Proofs.YtklmjdhhnnanoaaGreatDoor
open Go.ChangeShapes Go.WideShapes Go.ChangeAt Go.RowKit
attribute [local go_sem] Gives
set_option maxHeartbeats 4000000 in
set_option maxRecDepth 100000 in
theorem step_any (s : ShaM.S8) (hs : s.ok) (g t n x : Nat) (hn : n < 64) (_hx : x < 4294967296) (w : World) (hb : Blk w g t (letters s n)) :
    Calls Tryz.prog 185 #[.pointer (some ⟨g, 0, none⟩), .int .i64 n, .int .u32 x] w fun e w' => e = .returned (.tuple #[]) ∧ Blk w' g t (letters (ShaM.step s x) (n + 1)) ∧ w.grownBy w' (some g) := by
  have hsz := hb.lt
  go_enter Tryz.func185, Tryz.ntmps185
  go_wp2_with fail
  generalize hw3 : World.alloc w _ = w3
  have b0 : Blk w3 g t (letters s n) := by rw [← hw3]; exact hb.alloc _
  have c0 : w3.cell? ⟨w.heap.size, 0, none⟩ = some (.int .i64 n) := by rw [← hw3]; exact (Blk.new w _ _).cell 0
  have bel : Below w.heap.size w w3 := by rw [← hw3]; exact (Below.refl _ _).alloc (Nat.le_refl _) _
  clear hw3
  have cl : ∀ l, l < 8 → w3.cell? ⟨g, idx l n, none⟩ = some (.int .u32 (s.get l : Nat)) := fun l hl => (b0.cell _).trans (letters_at s hl (by omega))
  have CL := hid cl
  have C0 := hid c0
  clear cl c0
  have B0 := hid b0
  have BEL := hid bel
  have HS := hid hs
  clear b0 bel hs
  refine wp_region_tail (C := Drew w3) 21 (by kernel_rfl) (by kernel_rfl) (by kernel_rfl) (Drew.refl _) ?_
  simp only [List.take_succ_cons, List.take_zero, List.drop_succ_cons, List.drop_zero]
  apply wpK_val
  · rfl
  · intro w' hw'
    go_simp
    first | exact rfl | exact ⟨rfl, hw'⟩
  simp only [Act.put, sqA, sqB, sqC]
  apply wpK_val
  · rfl
  · intro w' hw'
    go_simp
    first | exact rfl | exact ⟨rfl, hw'⟩
  simp only [Act.put, sqA, sqB, sqC]
  apply wpK_val
  · rfl
  · intro w' hw'
    go_simp
    exact (at_any 0 n _ (by omega) hn _ (hw'.cell C0.out)).mono fun e w'' ⟨he, hb'⟩ => ⟨he, by subst hb'; exact hw'⟩
  simp only [Act.put, sqA, sqB, sqC]
  apply wpK_val
  · rfl
  · intro w' hw'
    go_simp
    first | exact rfl | exact ⟨rfl, hw'⟩
  simp only [Act.put, sqA, sqB, sqC]
  apply wpK_val
  · rfl
  · intro w' hw'
    have i : ((idx 0 n : Nat) : Int) < 8 := idx_lti 0 n
    go_simp
    first | exact rfl | exact ⟨rfl, hw'⟩
  simp only [Act.put, sqA, sqB, sqC]
  apply wpK_val
  · rfl
  · intro w' hw'
    have hcell := hw'.cell (CL.out 0 (by omega))
    go_simp
    first | exact rfl | exact ⟨rfl, hw'⟩
  simp only [Act.put, sqA, sqB, sqC]
  apply wpK_val
  · rfl
  · intro w' hw'
    go_simp
    first | exact rfl | exact ⟨rfl, hw'⟩
  simp only [Act.put, sqA, sqB, sqC]
  apply wpK_val
  · rfl
  · intro w' hw'
    go_simp
    first | exact rfl | exact ⟨rfl, hw'⟩
  simp only [Act.put, sqA, sqB, sqC]
  apply wpK_val
  · rfl
  · intro w' hw'
    go_simp
    exact (at_any 1 n _ (by omega) hn _ (hw'.cell C0.out)).mono fun e w'' ⟨he, hb'⟩ => ⟨he, by subst hb'; exact hw'⟩
  simp only [Act.put, sqA, sqB, sqC]
  apply wpK_val
  · rfl
  · intro w' hw'
    go_simp
    first | exact rfl | exact ⟨rfl, hw'⟩
  simp only [Act.put, sqA, sqB, sqC]
  apply wpK_val
  · rfl
  · intro w' hw'
    have i : ((idx 1 n : Nat) : Int) < 8 := idx_lti 1 n
    go_simp
    first | exact rfl | exact ⟨rfl, hw'⟩
  simp only [Act.put, sqA, sqB, sqC]
  apply wpK_val
  · rfl
  · intro w' hw'
    have hcell := hw'.cell (CL.out 1 (by omega))
    go_simp
    first | exact rfl | exact ⟨rfl, hw'⟩
  simp only [Act.put, sqA, sqB, sqC]
  apply wpK_val
  · rfl
  · intro w' hw'
    go_simp
    first | exact rfl | exact ⟨rfl, hw'⟩
  simp only [Act.put, sqA, sqB, sqC]
  apply wpK_val
  · rfl
  · intro w' hw'
    go_simp
    first | exact rfl | exact ⟨rfl, hw'⟩
  simp only [Act.put, sqA, sqB, sqC]
  apply wpK_val
  · rfl
  · intro w' hw'
    go_simp
    exact (at_any 2 n _ (by omega) hn _ (hw'.cell C0.out)).mono fun e w'' ⟨he, hb'⟩ => ⟨he, by subst hb'; exact hw'⟩
  simp only [Act.put, sqA, sqB, sqC]
  apply wpK_val
  · rfl
  · intro w' hw'
    go_simp
    first | exact rfl | exact ⟨rfl, hw'⟩
  simp only [Act.put, sqA, sqB, sqC]
  apply wpK_val
  · rfl
  · intro w' hw'
    have i : ((idx 2 n : Nat) : Int) < 8 := idx_lti 2 n
    go_simp
    first | exact rfl | exact ⟨rfl, hw'⟩
  simp only [Act.put, sqA, sqB, sqC]
  apply wpK_val
  · rfl
  · intro w' hw'
    have hcell := hw'.cell (CL.out 2 (by omega))
    go_simp
    first | exact rfl | exact ⟨rfl, hw'⟩
  simp only [Act.put, sqA, sqB, sqC]
  apply wpK_val
  · rfl
  · intro w' hw'
    go_simp
    first | exact rfl | exact ⟨rfl, hw'⟩
  simp only [Act.put, sqA, sqB, sqC]
  apply wpK_val
  · rfl
  · intro w' hw'
    go_simp
    first | exact rfl | exact ⟨rfl, hw'⟩
  simp only [Act.put, sqA, sqB, sqC]
  apply wpK_val
  · rfl
  · intro w' hw'
    go_simp
    first | exact rfl | exact ⟨rfl, hw'⟩
  simp only [Act.put, sqA, sqB, sqC]
  refine wpK_nil fun w4 hw4 => ?_
  have b0 := hw4.blk B0.out
  have bel := hw4.below BEL.out
  have c0 := hw4.cell C0.out
  have cl : ∀ l, l < 8 → w4.cell? ⟨g, idx l n, none⟩ = some (.int .u32 (s.get l : Nat)) := fun l hl => (b0.cell _).trans (letters_at s hl (by omega))
  clear hw4 B0 BEL C0 CL w3
  have B0 := hid b0
  have BEL := hid bel
  have CL := hid cl
  have C0 := hid c0
  clear cl c0 b0 bel
  go_wp2_with fail
  refine wp_region_tail (C := Drew w4) 21 (by kernel_rfl) (by kernel_rfl) (by kernel_rfl) (Drew.refl _) ?_
  simp only [List.take_succ_cons, List.take_zero, List.drop_succ_cons, List.drop_zero]
  apply wpK_val
  · rfl
  · intro w' hw'
    go_simp
    first | exact rfl | exact ⟨rfl, hw'⟩
  simp only [Act.put, sqA, sqB, sqC]
  apply wpK_val
  · rfl
  · intro w' hw'
    go_simp
    first | exact rfl | exact ⟨rfl, hw'⟩
  simp only [Act.put, sqA, sqB, sqC]
  apply wpK_val
  · rfl
  · intro w' hw'
    go_simp
    exact (at_any 4 n _ (by omega) hn _ (hw'.cell C0.out)).mono fun e w'' ⟨he, hb'⟩ => ⟨he, by subst hb'; exact hw'⟩
  simp only [Act.put, sqA, sqB, sqC]
  apply wpK_val
  · rfl
  · intro w' hw'
    go_simp
    first | exact rfl | exact ⟨rfl, hw'⟩
  simp only [Act.put, sqA, sqB, sqC]
  apply wpK_val
  · rfl
  · intro w' hw'
    have i : ((idx 4 n : Nat) : Int) < 8 := idx_lti 4 n
    go_simp
    first | exact rfl | exact ⟨rfl, hw'⟩
  simp only [Act.put, sqA, sqB, sqC]
  apply wpK_val
  · rfl
  · intro w' hw'
    have hcell := hw'.cell (CL.out 4 (by omega))
    go_simp
    first | exact rfl | exact ⟨rfl, hw'⟩
  simp only [Act.put, sqA, sqB, sqC]
  apply wpK_val
  · rfl
  · intro w' hw'
    go_simp
    first | exact rfl | exact ⟨rfl, hw'⟩
  simp only [Act.put, sqA, sqB, sqC]
  apply wpK_val
  · rfl
  · intro w' hw'
    go_simp
    first | exact rfl | exact ⟨rfl, hw'⟩
  simp only [Act.put, sqA, sqB, sqC]
  apply wpK_val
  · rfl
  · intro w' hw'
    go_simp
    exact (at_any 5 n _ (by omega) hn _ (hw'.cell C0.out)).mono fun e w'' ⟨he, hb'⟩ => ⟨he, by subst hb'; exact hw'⟩
  simp only [Act.put, sqA, sqB, sqC]
  apply wpK_val
  · rfl
  · intro w' hw'
    go_simp
    first | exact rfl | exact ⟨rfl, hw'⟩
  simp only [Act.put, sqA, sqB, sqC]
  apply wpK_val
  · rfl
  · intro w' hw'
    have i : ((idx 5 n : Nat) : Int) < 8 := idx_lti 5 n
    go_simp
    first | exact rfl | exact ⟨rfl, hw'⟩
  simp only [Act.put, sqA, sqB, sqC]
  apply wpK_val
  · rfl
  · intro w' hw'
    have hcell := hw'.cell (CL.out 5 (by omega))
    go_simp
    first | exact rfl | exact ⟨rfl, hw'⟩
  simp only [Act.put, sqA, sqB, sqC]
  apply wpK_val
  · rfl
  · intro w' hw'
    go_simp
    first | exact rfl | exact ⟨rfl, hw'⟩
  simp only [Act.put, sqA, sqB, sqC]
  apply wpK_val
  · rfl
  · intro w' hw'
    go_simp
    first | exact rfl | exact ⟨rfl, hw'⟩
  simp only [Act.put, sqA, sqB, sqC]
  apply wpK_val
  · rfl
  · intro w' hw'
    go_simp
    exact (at_any 6 n _ (by omega) hn _ (hw'.cell C0.out)).mono fun e w'' ⟨he, hb'⟩ => ⟨he, by subst hb'; exact hw'⟩
  simp only [Act.put, sqA, sqB, sqC]
  apply wpK_val
  · rfl
  · intro w' hw'
    go_simp
    first | exact rfl | exact ⟨rfl, hw'⟩
  simp only [Act.put, sqA, sqB, sqC]
  apply wpK_val
  · rfl
  · intro w' hw'
    have i : ((idx 6 n : Nat) : Int) < 8 := idx_lti 6 n
    go_simp
    first | exact rfl | exact ⟨rfl, hw'⟩
  simp only [Act.put, sqA, sqB, sqC]
  apply wpK_val
  · rfl
  · intro w' hw'
    have hcell := hw'.cell (CL.out 6 (by omega))
    go_simp
    first | exact rfl | exact ⟨rfl, hw'⟩
  simp only [Act.put, sqA, sqB, sqC]
  apply wpK_val
  · rfl
  · intro w' hw'
    go_simp
    first | exact rfl | exact ⟨rfl, hw'⟩
  simp only [Act.put, sqA, sqB, sqC]
  apply wpK_val
  · rfl
  · intro w' hw'
    go_simp
    first | exact rfl | exact ⟨rfl, hw'⟩
  simp only [Act.put, sqA, sqB, sqC]
  apply wpK_val
  · rfl
  · intro w' hw'
    go_simp
    first | exact rfl | exact ⟨rfl, hw'⟩
  simp only [Act.put, sqA, sqB, sqC]
  refine wpK_nil fun w3 hw3 => ?_
  have b0 := hw3.blk B0.out
  have bel := hw3.below BEL.out
  have c0 := hw3.cell C0.out
  have cl : ∀ l, l < 8 → w3.cell? ⟨g, idx l n, none⟩ = some (.int .u32 (s.get l : Nat)) := fun l hl => (b0.cell _).trans (letters_at s hl (by omega))
  clear hw3 B0 BEL C0 CL w4
  have B0 := hid b0
  have BEL := hid bel
  have CL := hid cl
  have C0 := hid c0
  clear cl c0 b0 bel
  go_wp2_with fail
  refine wp_region_tail (C := Drew w3) 27 (by kernel_rfl) (by kernel_rfl) (by kernel_rfl) (Drew.refl _) ?_
  simp only [List.take_succ_cons, List.take_zero, List.drop_succ_cons, List.drop_zero]
  apply wpK_val
  · rfl
  · intro w' hw'
    go_simp
    first | exact rfl | exact ⟨rfl, hw'⟩
  simp only [Act.put, sqA, sqB, sqC]
  apply wpK_val
  · rfl
  · intro w' hw'
    go_simp
    first | exact rfl | exact ⟨rfl, hw'⟩
  simp only [Act.put, sqA, sqB, sqC]
  apply wpK_val
  · rfl
  · intro w' hw'
    go_simp
    exact (at_any 7 n _ (by omega) hn _ (hw'.cell C0.out)).mono fun e w'' ⟨he, hb'⟩ => ⟨he, by subst hb'; exact hw'⟩
  simp only [Act.put, sqA, sqB, sqC]
  apply wpK_val
  · rfl
  · intro w' hw'
    go_simp
    first | exact rfl | exact ⟨rfl, hw'⟩
  simp only [Act.put, sqA, sqB, sqC]
  apply wpK_val
  · rfl
  · intro w' hw'
    have i : ((idx 7 n : Nat) : Int) < 8 := idx_lti 7 n
    go_simp
    first | exact rfl | exact ⟨rfl, hw'⟩
  simp only [Act.put, sqA, sqB, sqC]
  apply wpK_val
  · rfl
  · intro w' hw'
    have hcell := hw'.cell (CL.out 7 (by omega))
    go_simp
    first | exact rfl | exact ⟨rfl, hw'⟩
  simp only [Act.put, sqA, sqB, sqC]
  apply wpK_val
  · rfl
  · intro w' hw'
    go_simp
    first | exact rfl | exact ⟨rfl, hw'⟩
  simp only [Act.put, sqA, sqB, sqC]
  apply wpK_val
  · rfl
  · intro w' hw'
    go_simp
    exact (rot_any _ 6 (ShaM.S8.get_lt HS.out 4) (by omega) (by omega) _).mono fun e w'' ⟨he, hb'⟩ => ⟨he, by subst hb'; exact hw'⟩
  simp only [Act.put, sqA, sqB, sqC]
  apply wpK_val
  · rfl
  · intro w' hw'
    go_simp
    first | exact rfl | exact ⟨rfl, hw'⟩
  simp only [Act.put, sqA, sqB, sqC]
  apply wpK_val
  · rfl
  · intro w' hw'
    go_simp
    exact (rot_any _ 11 (ShaM.S8.get_lt HS.out 4) (by omega) (by omega) _).mono fun e w'' ⟨he, hb'⟩ => ⟨he, by subst hb'; exact hw'⟩
  simp only [Act.put, sqA, sqB, sqC]
  apply wpK_val
  · rfl
  · intro w' hw'
    go_simp
    first | exact rfl | exact ⟨rfl, hw'⟩
  simp only [Act.put, sqA, sqB, sqC]
  apply wpK_val
  · rfl
  · intro w' hw'
    go_simp
    first | exact rfl | exact ⟨rfl, hw'⟩
  simp only [Act.put, sqA, sqB, sqC]
  apply wpK_val
  · rfl
  · intro w' hw'
    go_simp
    exact (rot_any _ 25 (ShaM.S8.get_lt HS.out 4) (by omega) (by omega) _).mono fun e w'' ⟨he, hb'⟩ => ⟨he, by subst hb'; exact hw'⟩
  simp only [Act.put, sqA, sqB, sqC]
  apply wpK_val
  · rfl
  · intro w' hw'
    go_simp
    first | exact rfl | exact ⟨rfl, hw'⟩
  simp only [Act.put, sqA, sqB, sqC]
  apply wpK_val
  · rfl
  · intro w' hw'
    go_simp
    first | exact rfl | exact ⟨rfl, hw'⟩
  simp only [Act.put, sqA, sqB, sqC]
  apply wpK_val
  · rfl
  · intro w' hw'
    go_simp
    first | exact rfl | exact ⟨rfl, hw'⟩
  simp only [Act.put, sqA, sqB, sqC]
  apply wpK_val
  · rfl
  · intro w' hw'
    go_simp
    first | exact rfl | exact ⟨rfl, hw'⟩
  simp only [Act.put, sqA, sqB, sqC]
  apply wpK_val
  · rfl
  · intro w' hw'
    go_simp
    first | exact rfl | exact ⟨rfl, hw'⟩
  simp only [Act.put, sqA, sqB, sqC]
  apply wpK_val
  · rfl
  · intro w' hw'
    go_simp
    first | exact rfl | exact ⟨rfl, hw'⟩
  simp only [Act.put, sqA, sqB, sqC]
  apply wpK_val
  · rfl
  · intro w' hw'
    go_simp
    first | exact rfl | exact ⟨rfl, hw'⟩
  simp only [Act.put, sqA, sqB, sqC]
  apply wpK_val
  · rfl
  · intro w' hw'
    go_simp
    first | exact rfl | exact ⟨rfl, hw'⟩
  simp only [Act.put, sqA, sqB, sqC]
  apply wpK_val
  · rfl
  · intro w' hw'
    go_simp
    first | exact rfl | exact ⟨rfl, hw'⟩
  simp only [Act.put, sqA, sqB, sqC]
  apply wpK_val
  · rfl
  · intro w' hw'
    go_simp
    first | exact rfl | exact ⟨rfl, hw'⟩
  simp only [Act.put, sqA, sqB, sqC]
  apply wpK_val
  · rfl
  · intro w' hw'
    go_simp
    first | exact rfl | exact ⟨rfl, hw'⟩
  simp only [Act.put, sqA, sqB, sqC]
  apply wpK_val
  · rfl
  · intro w' hw'
    go_simp
    first | exact rfl | exact ⟨rfl, hw'⟩
  simp only [Act.put, sqA, sqB, sqC]
  apply wpK_val
  · rfl
  · intro w' hw'
    have hp : _ := p_nat s HS.out x
    go_simp
    first | exact rfl | exact ⟨rfl, hw'⟩
  simp only [Act.put, sqA, sqB, sqC]
  apply wpK_val
  · rfl
  · intro w' hw'
    go_simp
    first | exact rfl | exact ⟨rfl, hw'⟩
  simp only [Act.put, sqA, sqB, sqC]
  refine wpK_nil fun w4 hw4 => ?_
  have b0 := hw4.blk B0.out
  have bel := hw4.below BEL.out
  have c0 := hw4.cell C0.out
  clear hw4 B0 BEL C0 CL w3
  have B0 := hid b0
  have BEL := hid bel
  have C0 := hid c0
  clear c0 b0 bel
  generalize hP : ShaM.pOf s x = p
  have HP := hid hP
  clear hP
  go_wp2_with fail
  refine (rot_any _ 2 (ShaM.S8.get_lt HS.out 0) (by omega) (by omega) _).mono ?_
  rintro e w' ⟨rfl, rfl⟩
  go_wp2_with fail
  refine (rot_any _ 13 (ShaM.S8.get_lt HS.out 0) (by omega) (by omega) _).mono ?_
  rintro e w' ⟨rfl, rfl⟩
  go_wp2_with fail
  refine (rot_any _ 22 (ShaM.S8.get_lt HS.out 0) (by omega) (by omega) _).mono ?_
  rintro e w' ⟨rfl, rfl⟩
  go_wp2_with fail
  rw [q_nat s HS.out]
  generalize hQ : ShaM.qOf s = q
  have HQ := hid hQ
  clear hQ
  have i3 : ((idx 3 n : Nat) : Int) < 8 := idx_lti 3 n
  have i7 : ((idx 7 n : Nat) : Int) < 8 := idx_lti 7 n
  have n3 := idx_lt 3 n
  have n7 := idx_lt 7 n
  refine wp_region_tail (C := Drew w4) 10 (by kernel_rfl) (by kernel_rfl) (by kernel_rfl) (Drew.refl _) ?_
  simp only [List.take_succ_cons, List.take_zero, List.drop_succ_cons, List.drop_zero]
  apply wpK_val
  · rfl
  · intro w' hw'
    go_simp
    first | exact rfl | exact ⟨rfl, hw'⟩
  simp only [Act.put, sqA, sqB, sqC]
  apply wpK_val
  · rfl
  · intro w' hw'
    go_simp
    first | exact rfl | exact ⟨rfl, hw'⟩
  simp only [Act.put, sqA, sqB, sqC]
  apply wpK_val
  · rfl
  · intro w' hw'
    go_simp
    exact (at_any 3 n _ (by omega) hn _ (hw'.cell C0.out)).mono fun e w'' ⟨he, hb'⟩ => ⟨he, by subst hb'; exact hw'⟩
  simp only [Act.put, sqA, sqB, sqC]
  apply wpK_val
  · rfl
  · intro w' hw'
    go_simp
    first | exact rfl | exact ⟨rfl, hw'⟩
  simp only [Act.put, sqA, sqB, sqC]
  apply wpK_val
  · rfl
  · intro w' hw'
    go_simp
    first | exact rfl | exact ⟨rfl, hw'⟩
  simp only [Act.put, sqA, sqB, sqC]
  apply wpK_val
  · rfl
  · intro w' hw'
    have hcell := hw'.cell ((B0.out.cell _).trans (letters_at s (l := 3) (by omega) (by omega)))
    go_simp
    first | exact rfl | exact ⟨rfl, hw'⟩
  simp only [Act.put, sqA, sqB, sqC]
  apply wpK_val
  · rfl
  · intro w' hw'
    go_simp
    first | exact rfl | exact ⟨rfl, hw'⟩
  simp only [Act.put, sqA, sqB, sqC]
  apply wpK_val
  · rfl
  · intro w' hw'
    have ha : _ := u32_wrap_nat (s.get 3) p
    go_simp
    first | exact rfl | exact ⟨rfl, hw'⟩
  simp only [Act.put, sqA, sqB, sqC]
  apply wpK_val
  · rfl
  · intro w' hw'
    go_simp
    first | exact rfl | exact ⟨rfl, hw'⟩
  simp only [Act.put, sqA, sqB, sqC]
  apply wpK_val
  · rfl
  · intro w' hw'
    go_simp
    first | exact rfl | exact ⟨rfl, hw'⟩
  simp only [Act.put, sqA, sqB, sqC]
  refine wpK_nil fun w3 hw3 => ?_
  have b0 := hw3.blk B0.out
  have bel := hw3.below BEL.out
  have c0 := hw3.cell C0.out
  clear hw3 B0 BEL C0 w4
  have c1 := (b0.cell _).trans (letters_at s (l := 3) (by omega) (Nat.le_of_lt hn))
  have c3 := b0.frozen (idx 3 n)
  have B0 := hid b0
  have BEL := hid bel
  have C0 := hid c0
  clear b0 bel c0
  go_wp2_with fail
  have b1 := (B0.out.setCell_same (idx 3 n) (.int .u32 (ShaM.add (s.get 3) p : Nat)))
  have on := only_cell (only_of_below (g := g) BEL.out (Nat.le_refl _)) (idx 3 n) (.int .u32 (ShaM.add (s.get 3) p : Nat))
  have c0 : (w3.setCell ⟨g, idx 3 n, none⟩ (.int .u32 (ShaM.add (s.get 3) p : Nat))).cell? ⟨w.heap.size, 0, none⟩ = some (.int .i64 n) := by
    rw [← C0.out]; exact cell_other (by show w.heap.size ≠ g; omega)
  generalize w3.setCell ⟨g, idx 3 n, none⟩ (.int .u32 (ShaM.add (s.get 3) p : Nat)) = w4 at *
  clear B0 BEL C0 c1 c3
  have B0 := hid b1
  have C0 := hid c0
  have ON := hid on
  clear b1 c0 on w3
  refine wp_region_tail (C := Drew w4) 8 (by kernel_rfl) (by kernel_rfl) (by kernel_rfl) (Drew.refl _) ?_
  simp only [List.take_succ_cons, List.take_zero, List.drop_succ_cons, List.drop_zero]
  apply wpK_val
  · rfl
  · intro w' hw'
    go_simp
    first | exact rfl | exact ⟨rfl, hw'⟩
  simp only [Act.put, sqA, sqB, sqC]
  apply wpK_val
  · rfl
  · intro w' hw'
    go_simp
    first | exact rfl | exact ⟨rfl, hw'⟩
  simp only [Act.put, sqA, sqB, sqC]
  apply wpK_val
  · rfl
  · intro w' hw'
    go_simp
    exact (at_any 7 n _ (by omega) hn _ (hw'.cell C0.out)).mono fun e w'' ⟨he, hb'⟩ => ⟨he, by subst hb'; exact hw'⟩
  simp only [Act.put, sqA, sqB, sqC]
  apply wpK_val
  · rfl
  · intro w' hw'
    go_simp
    first | exact rfl | exact ⟨rfl, hw'⟩
  simp only [Act.put, sqA, sqB, sqC]
  apply wpK_val
  · rfl
  · intro w' hw'
    go_simp
    first | exact rfl | exact ⟨rfl, hw'⟩
  simp only [Act.put, sqA, sqB, sqC]
  apply wpK_val
  · rfl
  · intro w' hw'
    have ha : _ := u32_wrap_nat p q
    go_simp
    first | exact rfl | exact ⟨rfl, hw'⟩
  simp only [Act.put, sqA, sqB, sqC]
  apply wpK_val
  · rfl
  · intro w' hw'
    go_simp
    first | exact rfl | exact ⟨rfl, hw'⟩
  simp only [Act.put, sqA, sqB, sqC]
  apply wpK_val
  · rfl
  · intro w' hw'
    go_simp
    first | exact rfl | exact ⟨rfl, hw'⟩
  simp only [Act.put, sqA, sqB, sqC]
  refine wpK_nil fun w3 hw3 => ?_
  have b0 := hw3.blk B0.out
  have on := only_drew ON.out hw3
  clear hw3 B0 ON C0 w4
  have c1 : w3.cell? ⟨g, idx 7 n, none⟩ = some (.int .u32 (s.get 7 : Nat)) := by
    rw [b0.cell, Array.getElem?_setIfInBounds_ne (by unfold idx; omega)]
    exact letters_at s (l := 7) (by omega) (Nat.le_of_lt hn)
  have c3 := b0.frozen (idx 7 n)
  have B0 := hid b0
  have ON := hid on
  clear b0 on
  go_wp2_with fail
  refine bodyPost_end (v := .tuple #[]) (by simp [results, Tryz.results185]) rfl ⟨rfl, ?_, only_cell ON.out _ _⟩
  have h := B0.out.setCell_same (idx 7 n) (.int .u32 (ShaM.add p q : Nat))
  rw [← HP.out, ← HQ.out] at h
  rw [← HP.out, ← HQ.out, ← letters_step s hn]
  exact h
end Go.Proofs.YtklmjdhhnnanoaaGreatDoor
set_option maxRecDepth 100000
namespace Go.Proofs.YtklmjdhhnnanoaaGreatDoor
open Go.ChangeShapes Go.WideShapes Go.ChangeAt Go.RowKit
attribute [local go_sem] Gives
def wds (f : Nat → Nat) : Array Value := row 64 fun k => .int .u32 (f k : Nat)
theorem size_wds {f : Nat → Nat} : (wds f).size = 64 := size_row
theorem get_wds {f : Nat → Nat} {k : Nat} (h : k < 64) : (wds f)[k]? = some (.int .u32 (f k : Nat)) := get_row_lt h
theorem wds_ext {f g : Nat → Nat} (h : ∀ k, k < 64 → f k = g k) : wds f = wds g := row_ext fun k hk => by rw [h k hk]
theorem wds_set {f : Nat → Nat} {k v : Nat} : (wds f).setIfInBounds k (.int .u32 (v : Nat)) = wds fun j => if j = k then v else f j := by
  unfold wds
  rw [row_set]
  exact row_ext fun j _ => by by_cases e : j = k <;> simp [e]
theorem wds_one {f : Nat → Nat} : (wds f).all (·.oneCell') = true := row_one fun _ _ => rfl
theorem zlit_wds : (#[.int .u32 0, .int .u32 0, .int .u32 0, .int .u32 0, .int .u32 0, .int .u32 0, .int .u32 0, .int .u32 0, .int .u32 0, .int .u32 0, .int .u32 0, .int .u32 0, .int .u32 0, .int .u32 0, .int .u32 0, .int .u32 0, .int .u32 0, .int .u32 0, .int .u32 0, .int .u32 0, .int .u32 0, .int .u32 0, .int .u32 0, .int .u32 0, .int .u32 0, .int .u32 0, .int .u32 0, .int .u32 0, .int .u32 0, .int .u32 0, .int .u32 0, .int .u32 0, .int .u32 0, .int .u32 0, .int .u32 0, .int .u32 0, .int .u32 0, .int .u32 0, .int .u32 0, .int .u32 0, .int .u32 0, .int .u32 0, .int .u32 0, .int .u32 0, .int .u32 0, .int .u32 0, .int .u32 0, .int .u32 0, .int .u32 0, .int .u32 0, .int .u32 0, .int .u32 0, .int .u32 0, .int .u32 0, .int .u32 0, .int .u32 0, .int .u32 0, .int .u32 0, .int .u32 0, .int .u32 0, .int .u32 0, .int .u32 0, .int .u32 0, .int .u32 0] : Array Value) = wds fun _ => 0 := by rfl
theorem info_wds : (Tryz.prog.info? 254).map (·.size) = some 64 := by kernel_rfl
section
variable {ops : Array Oper} {Q : Exit → Act → World → Prop} {a : Act} {w : World} {rest : List Oper} {dst : Option Tmp} {ty : TypeId} {pos : String} {after : Array Edge} {x y : Operand} {g : Nat} {f f0 : Nat → Nat}
theorem ldw (hx : a.eval x = .pointer (some ⟨g, 0, none⟩)) (hb : Blk w g 254 (wds f)) (h : wpList Tryz.prog ops Q rest (a.put dst (.agg (wds f))) w) :
    wpList Tryz.prog ops Q (⟨dst, .load 254 x, ty, pos, after, none⟩ :: rest) a w :=
  step_load_row hb Tryz.underlying254 rfl (info_wds.trans (by rw [size_wds])) hx h
theorem stw (hx : a.eval x = .pointer (some ⟨g, 0, none⟩)) (hy : a.eval y = .agg (wds f)) (hb : Blk w g 254 (wds f0)) (h : wpList Tryz.prog ops Q rest (a.put dst undef) (w.setRow g (wds f))) :
    wpList Tryz.prog ops Q (⟨dst, .store 254 x y, ty, pos, after, none⟩ :: rest) a w :=
  step_store_row hb (info_wds.trans (by rw [size_wds])) (by rw [size_wds, size_wds]) wds_one hx hy h
end
theorem wr_nat {x : Int} {j : Nat} (h : x = j) (hj : j < 9223372036854775808) : IntKind.i64.wrap x = (j : Int) := by rw [h]; exact IntWalk.i64_in _ (by omega)
theorem l_nat (x m n : Nat) (d : Nat) (hx : x < 4294967296) : bits .xor .u32 (bits .xor .u32 ((ShaM.rr x m : Nat) : Int) ((ShaM.rr x n : Nat) : Int)) (((x / d : Nat) : Nat) : Int) = (((ShaM.rr x m ^^^ ShaM.rr x n ^^^ (x / d) : Nat) : Nat) : Int) := by
  have hr := fun n => ShaM.rr_lt hx n
  rw [u32_xor_nat _ _ (hr m) (hr n), u32_xor_nat _ _ (Nat.xor_lt_two_pow (n := 32) (hr m) (hr n)) (Nat.lt_of_le_of_lt (Nat.div_le_self _ _) hx)]
theorem l0_nat (x : Nat) (hx : x < 4294967296) : bits .xor .u32 (bits .xor .u32 ((ShaM.rr x 7 : Nat) : Int) ((ShaM.rr x 18 : Nat) : Int)) ((x : Int) / 8) = ((ShaM.l0 x : Nat) : Int) := l_nat x 7 18 8 hx
theorem l1_nat (x : Nat) (hx : x < 4294967296) : bits .xor .u32 (bits .xor .u32 ((ShaM.rr x 17 : Nat) : Int) ((ShaM.rr x 19 : Nat) : Int)) ((x : Int) / 1024) = ((ShaM.l1 x : Nat) : Int) := l_nat x 17 19 1024 hx
theorem or_nat (a b : Nat) (_ha : a < 4294967296) (hb : b < 256) : bits .or .u32 ((a : Int) * 256 % 4294967296) (b : Int) = (((a * 256) % 4294967296 ||| b : Nat) : Int) := by
  rw [show (a : Int) * 256 % 4294967296 = (((a * 256) % 4294967296 : Nat) : Int) by simp, u32_or_nat _ _ (Nat.mod_lt _ (by omega)) (by omega)]
set_option maxHeartbeats 4000000 in
set_option maxRecDepth 100000 in
theorem spread_any (A : Option Addr) (l : List Nat) (cap : Nat) (hl : l.length = 64) (hb : ∀ k, ShaM.at' l k < 256) (w : World) (hs : Byt w w.heap.size A l) :
    Calls Tryz.prog 184 #[.slice A 64 cap] w fun e w' => e = .returned (.agg (wds (ShaM.upM (ShaM.at' l) 48))) ∧ Below w.heap.size w w' := by
  obtain ⟨b, o, rfl, hB, hr⟩ := hs (by omega)
  rw [hl] at hr
  have HB := hid hb
  have HR := hid hr
  clear hs hb hr hl
  go_enter Tryz.func184, Tryz.ntmps184
  go_wp2_with fail
  generalize hw3 : World.alloc (World.alloc w _) _ = w3
  have b1 : Blk w3 w.heap.size 254 (wds fun _ => 0) := by rw [← hw3]; exact (Blk.top zlit_wds rfl).alloc _
  have b2 : Blk w3 (w.heap.size + 1) 254 (wds fun _ => 0) := by rw [← hw3]; exact Blk.top zlit_wds (by simp)
  have hb : Below w.heap.size w w3 := by rw [← hw3]; exact ((Below.refl _ _).alloc (Nat.le_refl _) _).alloc (by simp) _
  clear hw3
  go_loopw [13] (fun i wr => ∃ k : Nat, k ≤ 64 ∧ i = .int .i64 k ∧ Blk wr w.heap.size 254 (wds fun _ => 0) ∧ Blk wr (w.heap.size + 1) 254 (wds (ShaM.part (ShaM.at' l) k)) ∧ Below w.heap.size w wr) (fun i _ => 64 - (intOf i).toNat)
  case atStart => exact ⟨0, by omega, rfl, b1, by rw [show ShaM.part (ShaM.at' l) 0 = fun _ => 0 from funext fun j => ShaM.part_zero _ j]; exact b2, hb⟩
  case round =>
    obtain ⟨k, hk, rfl, b1, b2, hb⟩ := hrel
    by_cases hlt : k < 64
    · have c0 : wr.cell? ⟨b, o + k, none⟩ = some (.int .u8 (ShaM.at' l k : Nat)) := (hb.cell (p := ⟨b, o + k, none⟩) hB).trans (HR.out k hlt)
      have c1 : wr.cell? ⟨w.heap.size + 1, k / 4, none⟩ = some (.int .u32 (ShaM.part (ShaM.at' l) k (k / 4) : Nat)) := (b2.cell _).trans (get_wds (by omega))
      have c3 := b2.frozen (k / 4)
      have hx := HB.out k
      have hp := ShaM.part_lt HB.out k (k / 4)
      have e5 : ((k / 4 : Nat) : Int) < 64 := by omega
      have h4 : k / 4 < 64 := by omega
      go_wp2_with fail
      go_roundw
      case rel =>
        refine ⟨k + 1, by omega, by go_num, b1.setCell_other (by simp) _, ?_, hb.setCell (by simp) _⟩
        have h := b2.setCell_same (k / 4) (.int .u32 (((ShaM.part (ShaM.at' l) k (k / 4) * 256) % 4294967296 ||| ShaM.at' l k : Nat) : Int))
        rw [wds_set] at h
        rw [or_nat _ _ hp hx]
        rw [wds_ext (f := ShaM.part (ShaM.at' l) (k + 1)) (g := fun j => if j = k / 4 then (ShaM.part (ShaM.at' l) k (k / 4) * 256) % 4294967296 ||| ShaM.at' l k else ShaM.part (ShaM.at' l) k j) fun j _ => by
          rw [ShaM.part_step HB.out k j]
          by_cases e : j = k / 4
          · rw [if_pos e, if_pos e, e]
          · rw [if_neg e, if_neg e]]
        exact h
      case measure => simp [intOf]; omega
    · have t0 : decide ((k : Int) < 64) = false := by simp; omega
      rw [show k = 64 by omega] at b2
      go_wp2_with fail
      rw [wds_ext (g := ShaM.upM (ShaM.at' l) 0) fun j _ => (ShaM.first_part _ j).symm] at b2
      go_loopw [6] (fun i w4 => ∃ N k : Nat, Hid (N = 16 + k) ∧ 16 ≤ N ∧ N ≤ 64 ∧ k ≤ 48 ∧ i = .int .i64 N ∧ Blk w4 w.heap.size 254 (wds fun _ => 0) ∧ Blk w4 (w.heap.size + 1) 254 (wds (ShaM.upM (ShaM.at' l) k)) ∧ Below w.heap.size w w4) (fun i _ => 64 - (intOf i).toNat)
      case atStart => exact ⟨16, 0, hid rfl, by omega, by omega, by omega, rfl, b1, b2, hb⟩
      case round =>
        obtain ⟨N, k, hN, hN0, hN1, hk, rfl, b1, b2, hb⟩ := hrel
        by_cases hlt : k < 48
        · obtain ⟨j1, hj1⟩ : ∃ j, j = k + 1 := ⟨_, rfl⟩
          obtain ⟨j9, hj9⟩ : ∃ j, j = k + 9 := ⟨_, rfl⟩
          obtain ⟨j14, hj14⟩ : ∃ j, j = k + 14 := ⟨_, rfl⟩
          have e0 : IntKind.i64.wrap ((N : Int) - 16) = (k : Int) := wr_nat (by have := hN.out; omega) (by omega)
          have e1 : IntKind.i64.wrap ((N : Int) - 15) = (j1 : Int) := wr_nat (by have := hN.out; omega) (by omega)
          have e9 : IntKind.i64.wrap ((N : Int) - 7) = (j9 : Int) := wr_nat (by have := hN.out; omega) (by omega)
          have e14 : IntKind.i64.wrap ((N : Int) - 2) = (j14 : Int) := wr_nat (by have := hN.out; omega) (by omega)
          have t0 : (N : Int) < 64 := by have := hN.out; omega
          have t1 : (j1 : Int) < 64 := by omega
          have t9 : (j9 : Int) < 64 := by omega
          have t14 : (j14 : Int) < 64 := by omega
          have tk : (k : Int) < 64 := by omega
          have C1 := hid ((b2.cell j1).trans (get_wds (by omega)))
          have C0 := hid ((b2.cell k).trans (get_wds (by omega)))
          have C9 := hid ((b2.cell j9).trans (get_wds (by omega)))
          have C14 := hid ((b2.cell j14).trans (get_wds (by omega)))
          have J := hid (And.intro hj1 (And.intro hj9 hj14))
          have E0 := hid e0
          have E1 := hid e1
          have E9 := hid e9
          have E14 := hid e14
          have B1 := hid b1
          have B2 := hid b2
          have HW := hid hb
          clear hj1 hj9 hj14 e0 e1 e9 e14 b1 b2 hb
          go_wp2_with fail
          refine wp_region_tail (C := Drew wr) 10 (by kernel_rfl) (by kernel_rfl) (by kernel_rfl) (Drew.refl _) ?_
          simp only [List.take_succ_cons, List.take_zero, List.drop_succ_cons, List.drop_zero]
          apply wpK_val
          · rfl
          · intro w' hw'
            go_simp
            first | exact rfl | exact ⟨rfl, hw'⟩
          simp only [Act.put, sqA, sqB, sqC]
          apply wpK_val
          · rfl
          · intro w' hw'
            have h1 : _ := E1.out
            go_simp
            first | exact rfl | exact ⟨rfl, hw'⟩
          simp only [Act.put, sqA, sqB, sqC]
          apply wpK_val
          · rfl
          · intro w' hw'
            go_simp
            first | exact rfl | exact ⟨rfl, hw'⟩
          simp only [Act.put, sqA, sqB, sqC]
          apply wpK_val
          · rfl
          · intro w' hw'
            have hcell := hw'.cell C1.out
            go_simp
            first | exact rfl | exact ⟨rfl, hw'⟩
          simp only [Act.put, sqA, sqB, sqC]
          apply wpK_val
          · rfl
          · intro w' hw'
            go_simp
            first | exact rfl | exact ⟨rfl, hw'⟩
          simp only [Act.put, sqA, sqB, sqC]
          apply wpK_val
          · rfl
          · intro w' hw'
            have h1 : _ := E14.out
            go_simp
            first | exact rfl | exact ⟨rfl, hw'⟩
          simp only [Act.put, sqA, sqB, sqC]
          apply wpK_val
          · rfl
          · intro w' hw'
            go_simp
            first | exact rfl | exact ⟨rfl, hw'⟩
          simp only [Act.put, sqA, sqB, sqC]
          apply wpK_val
          · rfl
          · intro w' hw'
            have hcell := hw'.cell C14.out
            go_simp
            first | exact rfl | exact ⟨rfl, hw'⟩
          simp only [Act.put, sqA, sqB, sqC]
          apply wpK_val
          · rfl
          · intro w' hw'
            go_simp
            first | exact rfl | exact ⟨rfl, hw'⟩
          simp only [Act.put, sqA, sqB, sqC]
          apply wpK_val
          · rfl
          · intro w' hw'
            go_simp
            first | exact rfl | exact ⟨rfl, hw'⟩
          simp only [Act.put, sqA, sqB, sqC]
          refine wpK_nil fun w5 hw5 => ?_
          have b1 := hw5.blk B1.out
          have b2 := hw5.blk B2.out
          have hb := hw5.below HW.out
          clear hw5 B1 B2 HW C1 C14 C0 C9
          have B1 := hid b1
          have B2 := hid b2
          have HW := hid hb
          have C0 := hid ((b2.cell k).trans (get_wds (by omega)))
          have C9 := hid ((b2.cell j9).trans (get_wds (by omega)))
          clear b1 b2 hb
          have x1 := ShaM.upM_lt HB.out k j1
          have x14 := ShaM.upM_lt HB.out k j14
          go_wp2_with fail
          refine (rot_any _ 7 x1 (by omega) (by omega) _).mono ?_
          rintro e w' ⟨rfl, rfl⟩
          go_wp2_with fail
          refine (rot_any _ 18 x1 (by omega) (by omega) _).mono ?_
          rintro e w' ⟨rfl, rfl⟩
          go_wp2_with fail
          refine (rot_any _ 17 x14 (by omega) (by omega) _).mono ?_
          rintro e w' ⟨rfl, rfl⟩
          go_wp2_with fail
          refine (rot_any _ 19 x14 (by omega) (by omega) _).mono ?_
          rintro e w' ⟨rfl, rfl⟩
          go_wp2_with fail
          rw [l0_nat _ x1, l1_nat _ x14]
          refine wp_region_tail (C := Drew w5) 15 (by kernel_rfl) (by kernel_rfl) (by kernel_rfl) (Drew.refl _) ?_
          simp only [List.take_succ_cons, List.take_zero, List.drop_succ_cons, List.drop_zero]
          apply wpK_val
          · rfl
          · intro w' hw'
            go_simp
            first | exact rfl | exact ⟨rfl, hw'⟩
          simp only [Act.put, sqA, sqB, sqC]
          apply wpK_val
          · rfl
          · intro w' hw'
            go_simp
            first | exact rfl | exact ⟨rfl, hw'⟩
          simp only [Act.put, sqA, sqB, sqC]
          apply wpK_val
          · rfl
          · intro w' hw'
            have h1 : _ := E0.out
            go_simp
            first | exact rfl | exact ⟨rfl, hw'⟩
          simp only [Act.put, sqA, sqB, sqC]
          apply wpK_val
          · rfl
          · intro w' hw'
            go_simp
            first | exact rfl | exact ⟨rfl, hw'⟩
          simp only [Act.put, sqA, sqB, sqC]
          apply wpK_val
          · rfl
          · intro w' hw'
            have hcell := hw'.cell C0.out
            go_simp
            first | exact rfl | exact ⟨rfl, hw'⟩
          simp only [Act.put, sqA, sqB, sqC]
          apply wpK_val
          · rfl
          · intro w' hw'
            go_simp
            first | exact rfl | exact ⟨rfl, hw'⟩
          simp only [Act.put, sqA, sqB, sqC]
          apply wpK_val
          · rfl
          · intro w' hw'
            have h1 : _ := u32_wrap_nat (ShaM.upM (ShaM.at' l) k k) (ShaM.l0 (ShaM.upM (ShaM.at' l) k j1))
            go_simp
            first | exact rfl | exact ⟨rfl, hw'⟩
          simp only [Act.put, sqA, sqB, sqC]
          apply wpK_val
          · rfl
          · intro w' hw'
            go_simp
            first | exact rfl | exact ⟨rfl, hw'⟩
          simp only [Act.put, sqA, sqB, sqC]
          apply wpK_val
          · rfl
          · intro w' hw'
            have h1 : _ := E9.out
            go_simp
            first | exact rfl | exact ⟨rfl, hw'⟩
          simp only [Act.put, sqA, sqB, sqC]
          apply wpK_val
          · rfl
          · intro w' hw'
            go_simp
            first | exact rfl | exact ⟨rfl, hw'⟩
          simp only [Act.put, sqA, sqB, sqC]
          apply wpK_val
          · rfl
          · intro w' hw'
            have hcell := hw'.cell C9.out
            go_simp
            first | exact rfl | exact ⟨rfl, hw'⟩
          simp only [Act.put, sqA, sqB, sqC]
          apply wpK_val
          · rfl
          · intro w' hw'
            have h1 : _ := u32_wrap_nat (ShaM.add (ShaM.upM (ShaM.at' l) k k) (ShaM.l0 (ShaM.upM (ShaM.at' l) k j1))) (ShaM.upM (ShaM.at' l) k j9)
            go_simp
            first | exact rfl | exact ⟨rfl, hw'⟩
          simp only [Act.put, sqA, sqB, sqC]
          apply wpK_val
          · rfl
          · intro w' hw'
            go_simp
            first | exact rfl | exact ⟨rfl, hw'⟩
          simp only [Act.put, sqA, sqB, sqC]
          apply wpK_val
          · rfl
          · intro w' hw'
            have h1 : _ := u32_wrap_nat (ShaM.add (ShaM.add (ShaM.upM (ShaM.at' l) k k) (ShaM.l0 (ShaM.upM (ShaM.at' l) k j1))) (ShaM.upM (ShaM.at' l) k j9)) (ShaM.l1 (ShaM.upM (ShaM.at' l) k j14))
            go_simp
            first | exact rfl | exact ⟨rfl, hw'⟩
          simp only [Act.put, sqA, sqB, sqC]
          apply wpK_val
          · rfl
          · intro w' hw'
            go_simp
            first | exact rfl | exact ⟨rfl, hw'⟩
          simp only [Act.put, sqA, sqB, sqC]
          refine wpK_nil fun w4 hw4 => ?_
          have b1 := hw4.blk B1.out
          have b2 := hw4.blk B2.out
          have hb := hw4.below HW.out
          clear hw4 B1 B2 HW C0 C9
          have hN' := hN.out
          have c1 := (b2.cell N).trans (get_wds (by omega))
          have c3 := b2.frozen N
          clear hN'
          have B1 := hid b1
          have B2 := hid b2
          have HW := hid hb
          clear b1 b2 hb
          go_wp2_with fail
          go_roundw
          case rel =>
            obtain ⟨r1, r9, r14⟩ := J.out
            have rN := hN.out
            subst r1 r9 r14
            refine ⟨N + 1, k + 1, hid (by omega), by omega, by omega, by omega, by go_num, B1.out.setCell_other (by simp) _, ?_, HW.out.setCell (by simp) _⟩
            have h := B2.out.setCell_same N (.int .u32 ((ShaM.add (ShaM.add (ShaM.add (ShaM.upM (ShaM.at' l) k k) (ShaM.l0 (ShaM.upM (ShaM.at' l) k (k + 1)))) (ShaM.upM (ShaM.at' l) k (k + 9))) (ShaM.l1 (ShaM.upM (ShaM.at' l) k (k + 14))) : Nat) : Int))
            rw [wds_set] at h
            rw [wds_ext (f := ShaM.upM (ShaM.at' l) (k + 1)) (g := fun j => if j = N then ShaM.add (ShaM.add (ShaM.add (ShaM.upM (ShaM.at' l) k k) (ShaM.l0 (ShaM.upM (ShaM.at' l) k (k + 1)))) (ShaM.upM (ShaM.at' l) k (k + 9))) (ShaM.l1 (ShaM.upM (ShaM.at' l) k (k + 14))) else ShaM.upM (ShaM.at' l) k j) fun j _ => by
              rw [ShaM.upM_step, ShaM.next_upM, rN]]
            exact h
          case measure => simp [intOf]; omega
        · obtain rfl : k = 48 := by omega
          have t0 : decide ((N : Int) < 64) = false := by have := hN.out; simp; omega
          go_wp2_with (first | ((with_reducible apply ldw); rfl; assumption) | ((with_reducible apply stw); rfl; rfl; assumption))
          apply ret_row Tryz.results184
          · exact b1.setRow_same _
          · exact Tryz.underlying254
          · rfl
          · exact (info_wds.trans (by rw [size_wds]))
          · rfl
          · rfl
          exact ⟨rfl, below_setRow hb (by omega) _⟩
end Go.Proofs.YtklmjdhhnnanoaaGreatDoor
set_option maxRecDepth 100000
namespace Go.Proofs.YtklmjdhhnnanoaaGreatDoor
open Go.ChangeShapes Go.WideShapes Go.ChangeAt Go.RowKit
attribute [local go_sem] Gives
def Pows (_ : World) : Prop := True
def tabs : Nat := 0
def Salts (w : World) : Prop := tabs < w.heap.size ∧ (∀ n, n < 64 → w.cell? ⟨0, n, none⟩ = some (.int .u32 (ShaM.saltAt n : Nat))) ∧ Pows w
theorem Salts.below {B : Nat} {w w' : World} (h : Salts w) (hb : Below B w w') (h0 : tabs < B) : Salts w' :=
  ⟨Nat.lt_of_lt_of_le h.1 hb.size, fun n hn => (hb.cell (p := ⟨0, n, none⟩) h0).trans (h.2.1 n hn), trivial⟩
theorem Salts.on {w w' : World} (h : Salts w) (hb : Below w.heap.size w w') : Salts w' := h.below hb h.1
def num8 (f : Nat → Nat) : Array Value := row 8 fun j => .int .u32 (f j : Nat)
theorem size_num8 {f : Nat → Nat} : (num8 f).size = 8 := size_row
theorem get_num8 {f : Nat → Nat} {k : Nat} (h : k < 8) : (num8 f)[k]? = some (.int .u32 (f k : Nat)) := get_row_lt h
theorem num8_ext {f g : Nat → Nat} (h : ∀ k, k < 8 → f k = g k) : num8 f = num8 g := row_ext fun k hk => by rw [h k hk]
theorem num8_set {f : Nat → Nat} {k v : Nat} : (num8 f).setIfInBounds k (.int .u32 (v : Nat)) = num8 fun j => if j = k then v else f j := by
  unfold num8
  rw [row_set]
  exact row_ext fun j _ => by by_cases e : j = k <;> simp [e]
theorem num8_one {f : Nat → Nat} : (num8 f).all (·.oneCell') = true := row_one fun _ _ => rfl
theorem zlit8 : (#[.int .u32 0, .int .u32 0, .int .u32 0, .int .u32 0, .int .u32 0, .int .u32 0, .int .u32 0, .int .u32 0] : Array Value) = num8 fun _ => 0 := by rfl
theorem letters_zero (s : ShaM.S8) : letters s 0 = num8 s.get := row_ext fun j hj => by rw [Nat.add_zero, Nat.mod_eq_of_lt hj]
theorem letters_full (s : ShaM.S8) : letters s 64 = num8 s.get := row_ext fun j hj => by rw [show (j + 64) % 8 = j by omega]
theorem info_num8 : (Tryz.prog.info? 211).map (·.size) = some 8 := by kernel_rfl
section
variable {ops : Array Oper} {Q : Exit → Act → World → Prop} {a : Act} {w : World} {rest : List Oper} {dst : Option Tmp} {ty : TypeId} {pos : String} {after : Array Edge} {x y : Operand} {g : Nat} {f f0 : Nat → Nat}
theorem ldn (hx : a.eval x = .pointer (some ⟨g, 0, none⟩)) (hb : Blk w g 211 (num8 f)) (h : wpList Tryz.prog ops Q rest (a.put dst (.agg (num8 f))) w) :
    wpList Tryz.prog ops Q (⟨dst, .load 211 x, ty, pos, after, none⟩ :: rest) a w :=
  step_load_row hb Tryz.underlying211 rfl (info_num8.trans (by rw [size_num8])) hx h
theorem run_ldn {w : World} (hb : Blk w g 211 (num8 f)) : (Instr.loadAt 211 (.pointer (some ⟨g, 0, none⟩))).run Tryz.prog w = .ok (.agg (num8 f)) w := by
  have h1 := hb.range 0 8
  rw [Nat.zero_add, show (8 : Nat) = (num8 f).size from size_num8.symm, Array.extract_size] at h1
  have := run_loadAt_mid (P := Tryz.prog) w g 0 211 (num8 f).toList _ h1 Tryz.underlying211 rfl (info_num8.trans (by rw [Array.length_toList, size_num8]))
  rwa [Array.toArray_toList] at this
theorem kln {C : World → Prop} {Qk : Act → Prop} {gd : Option (Nat × Bool)} (hwt : Region.wanted ⟨dst, .load 211 x, ty, pos, after, gd⟩ (yielded ops a.tmps) = true) (hx : a.eval x = .pointer (some ⟨g, 0, none⟩)) (hb : ∀ w, C w → Blk w g 211 (num8 f)) (h : wpK Tryz.prog ops C Qk rest (a.put dst (.agg (num8 f)))) :
    wpK Tryz.prog ops C Qk (⟨dst, .load 211 x, ty, pos, after, gd⟩ :: rest) a :=
  wpK_val hwt (fun w hw => gives_value (w' := w) (by simp only [execOp, hx, Sem.run_bind, run_ldn (hb w hw), Result.andThen_ok, Sem.run_pure]) hw) h
theorem stn (hx : a.eval x = .pointer (some ⟨g, 0, none⟩)) (hy : a.eval y = .agg (num8 f)) (hb : Blk w g 211 (num8 f0)) (h : wpList Tryz.prog ops Q rest (a.put dst undef) (w.setRow g (num8 f))) :
    wpList Tryz.prog ops Q (⟨dst, .store 211 x y, ty, pos, after, none⟩ :: rest) a w :=
  step_store_row hb (info_num8.trans (by rw [size_num8])) (by rw [size_num8, size_num8]) num8_one hx hy h
end
def mix8 (k : Nat) (T s : Nat → Nat) : Nat → Nat := fun j => if j < k then ShaM.add (T j) (s j) else T j
theorem mix8_zero (T s : Nat → Nat) : mix8 0 T s = T := funext fun j => by simp [mix8]
theorem mix8_step {k : Nat} (T s : Nat → Nat) : (fun j => if j = k then ShaM.add (T k) (s k) else mix8 k T s j) = mix8 (k + 1) T s := funext fun j => by
  unfold mix8
  by_cases h : j = k
  · subst h; simp
  · simp only [h, if_false]
    by_cases h2 : j < k
    · rw [if_pos h2, if_pos (by omega)]
    · rw [if_neg h2, if_neg (by omega)]
theorem mix8_at (k : Nat) (T s : Nat → Nat) : mix8 k T s k = T k := by simp [mix8]
theorem mix8_full (T s : ShaM.S8) : num8 (mix8 8 T.get s.get) = num8 (ShaM.addS T s).get := num8_ext fun k hk => by
  unfold mix8
  rw [if_pos hk, ShaM.addS_get T s hk]
set_option maxHeartbeats 400000 in
set_option maxRecDepth 100000 in
theorem pass_any (s : ShaM.S8) (hs : s.ok) (A : Option Addr) (l : List Nat) (cap : Nat) (hl : l.length = 64) (hb : ∀ k, ShaM.at' l k < 256) (w : World) (hA : Byt w w.heap.size A l) (hS : Salts w) :
    Calls Tryz.prog 180 #[.agg (num8 s.get), .slice A 64 cap] w fun e w' => e = .returned (.agg (num8 (ShaM.pass s (ShaM.at' l)).get)) ∧ Below w.heap.size w w' := by
  have HS := hid hs
  have HB := hid hb
  have HA := hid hA
  have SA := hid hS
  clear hs hb hA hS
  go_enter Tryz.func180, Tryz.ntmps180
  go_wp2_with fail
  generalize hw3 : World.alloc (World.alloc w _) _ = w3
  have b1 : Blk w3 w.heap.size 211 (num8 s.get) := by rw [← hw3]; exact (Blk.top rfl rfl).alloc _
  have b2 : Blk w3 (w.heap.size + 1) 211 (num8 fun _ => 0) := by rw [← hw3]; exact Blk.top zlit8 (by simp)
  have hb : Below w.heap.size w w3 := by rw [← hw3]; exact ((Below.refl _ _).alloc (Nat.le_refl _) _).alloc (by simp) _
  clear hw3
  have ha := (HA.out.below hb (Nat.le_refl _)).more hb.size
  refine (spread_any A l cap hl HB.out w3 ha).mono ?_
  rintro e w4 ⟨rfl, hb'⟩
  have b1' := b1.below hb' b1.lt
  have b2' := b2.below hb' b2.lt
  have hb4 := hb.trans (hb'.mono hb.size)
  have hz : w.heap.size + 1 < w4.heap.size := b2'.lt
  clear hb' b1 b2 hb ha
  have B1 := hid b1'
  have B2 := hid b2'
  have BEL := hid hb4
  clear b1' b2' hb4
  go_upto_region 2 with ((with_reducible apply stw); rfl; rfl; exact Blk.top zlit_wds rfl)
  generalize hw5 : World.setRow _ _ _ = w5
  have b5 : Blk w5 w4.heap.size 254 (wds (ShaM.upM (ShaM.at' l) 48)) := by rw [← hw5]; exact (Blk.top zlit_wds rfl).setRow_same _
  have b1 : Blk w5 w.heap.size 211 (num8 s.get) := by rw [← hw5]; exact (B1.out.alloc _).setRow_other (by omega) _
  have b2 : Blk w5 (w.heap.size + 1) 211 (num8 fun _ => 0) := by rw [← hw5]; exact (B2.out.alloc _).setRow_other (by omega) _
  have hb : Below w.heap.size w w5 := by rw [← hw5]; exact below_setRow (BEL.out.alloc (by omega) _) (by omega) _
  have hz5 : w4.heap.size < w5.heap.size := b5.lt
  clear hw5 B1 B2 BEL
  generalize hg5 : w4.heap.size = g5 at *
  clear hg5 w4
  go_upto_region 3 with (first | ((with_reducible apply ldn); rfl; exact b1) | ((with_reducible apply stn); rfl; rfl; exact Blk.top zlit8 rfl))
  generalize hw6 : World.setRow _ _ _ = w6
  have c6 : Blk w6 w5.heap.size 211 (letters (ShaM.steps (ShaM.sched (ShaM.at' l)) 0 s) 0) := by rw [← hw6]; rw [letters_zero]; exact (Blk.top zlit8 rfl).setRow_same _
  have c5 : Blk w6 g5 254 (wds (ShaM.upM (ShaM.at' l) 48)) := by rw [← hw6]; exact (b5.alloc _).setRow_other (by omega) _
  have c1 : Blk w6 w.heap.size 211 (num8 s.get) := by rw [← hw6]; exact (b1.alloc _).setRow_other (by omega) _
  have c2 : Blk w6 (w.heap.size + 1) 211 (num8 fun _ => 0) := by rw [← hw6]; exact (b2.alloc _).setRow_other (by omega) _
  have cb : Below w.heap.size w w6 := by rw [← hw6]; exact below_setRow (hb.alloc (by omega) _) (by omega) _
  clear hw6 b1 b2 hb b5
  generalize hg6 : w5.heap.size = g6 at *
  clear hg6 w5
  have hw0 := SA.out.1
  have hwG : 0 < w.heap.size := by unfold tabs at hw0; omega
  go_wp2_with fail
  go_loopw [12] (fun i wr => ∃ n : Nat, n ≤ 64 ∧ i = .int .i64 n ∧ Blk wr g6 211 (letters (ShaM.steps (ShaM.sched (ShaM.at' l)) n s) n) ∧ Blk wr g5 254 (wds (ShaM.upM (ShaM.at' l) 48)) ∧ Blk wr w.heap.size 211 (num8 s.get) ∧
    Blk wr (w.heap.size + 1) 211 (num8 fun _ => 0) ∧ Below w.heap.size w wr) (fun i _ => 64 - (intOf i).toNat)
  case atStart => exact ⟨0, by omega, rfl, c6, c5, c1, c2, cb⟩
  case round =>
    clear c6 c5 c1 c2 cb
    obtain ⟨n, hn, rfl, c6, c5, c1, c2, cb⟩ := hrel
    by_cases hlt : n < 64
    · have tn : (n : Int) < 64 := by omega
      have S1 := hid ((SA.out.on cb).2.1 n hlt)
      have M1 := hid ((c5.cell n).trans (get_wds hlt))
      have C6 := hid c6
      have C5 := hid c5
      have C1 := hid c1
      have C2 := hid c2
      have CB := hid cb
      clear c6 c5 c1 c2 cb
      go_wp2_with fail
      refine wp_region_tail (C := Drew wr) 8 (by kernel_rfl) (by kernel_rfl) (by kernel_rfl) (Drew.refl _) ?_
      simp only [List.take_succ_cons, List.take_zero, List.drop_succ_cons, List.drop_zero]
      apply wpK_val
      · rfl
      · intro w' hw'
        go_simp
        first | exact rfl | exact ⟨rfl, hw'⟩
      simp only [Act.put, sqA, sqB, sqC]
      apply wpK_val
      · rfl
      · intro w' hw'
        go_simp
        first | exact rfl | exact ⟨rfl, hw'⟩
      simp only [Act.put, sqA, sqB, sqC]
      apply wpK_val
      · rfl
      · intro w' hw'
        go_simp
        first | exact rfl | exact ⟨rfl, hw'⟩
      simp only [Act.put, sqA, sqB, sqC]
      apply wpK_val
      · rfl
      · intro w' hw'
        have hcell := hw'.cell S1.out
        go_simp
        first | exact rfl | exact ⟨rfl, hw'⟩
      simp only [Act.put, sqA, sqB, sqC]
      apply wpK_val
      · rfl
      · intro w' hw'
        go_simp
        first | exact rfl | exact ⟨rfl, hw'⟩
      simp only [Act.put, sqA, sqB, sqC]
      apply wpK_val
      · rfl
      · intro w' hw'
        go_simp
        first | exact rfl | exact ⟨rfl, hw'⟩
      simp only [Act.put, sqA, sqB, sqC]
      apply wpK_val
      · rfl
      · intro w' hw'
        have hcell := hw'.cell M1.out
        go_simp
        first | exact rfl | exact ⟨rfl, hw'⟩
      simp only [Act.put, sqA, sqB, sqC]
      apply wpK_val
      · rfl
      · intro w' hw'
        have h1 : _ := u32_wrap_nat (ShaM.saltAt n) (ShaM.upM (ShaM.at' l) 48 n)
        go_simp
        first | exact rfl | exact ⟨rfl, hw'⟩
      simp only [Act.put, sqA, sqB, sqC]
      refine wpK_nil fun w4 hw4 => ?_
      have c6 := hw4.blk C6.out
      have c5 := hw4.blk C5.out
      have c1 := hw4.blk C1.out
      have c2 := hw4.blk C2.out
      have cb := hw4.below CB.out
      clear hw4 C6 C5 C1 C2 CB S1 M1
      have C6 := hid c6
      have C5 := hid c5
      have C1 := hid c1
      have C2 := hid c2
      have CB := hid cb
      clear c6 c5 c1 c2 cb
      go_wp2_with fail
      refine (step_any _ (ShaM.steps_ok _ HS.out n) g6 _ n _ hlt (ShaM.add_lt _ _) w4 C6.out).mono ?_
      rintro e w7 ⟨rfl, c6, on⟩
      have c5 := C5.out.only on (by omega)
      have c1 := C1.out.only on (by omega)
      have c2 := C2.out.only on (by omega)
      have cb := CB.out.trans ((only_Below on (B := w.heap.size) (by omega) CB.out.size))
      clear C6 C5 C1 C2 CB on w4
      go_wp2_with fail
      go_roundw
      case rel => exact ⟨n + 1, by omega, by go_num, c6, c5, c1, c2, cb⟩
      case measure => simp [intOf]; omega
    · have tn : decide ((n : Int) < 64) = false := by simp; omega
      rw [show n = 64 by omega, letters_full] at c6
      generalize hT : ShaM.steps (ShaM.sched (ShaM.at' l)) 64 s = T at c6
      have HT := hid hT
      clear hT
      go_wp2_with fail
      rw [← mix8_zero T.get s.get] at c6
      go_loopw [25] (fun i wr => ∃ k : Nat, k ≤ 8 ∧ i = .int .i64 k ∧ Blk wr g6 211 (num8 (mix8 k T.get s.get)) ∧ Blk wr w.heap.size 211 (num8 s.get) ∧
        Blk wr (w.heap.size + 1) 211 (num8 fun _ => 0) ∧ Below w.heap.size w wr) (fun i _ => 8 - (intOf i).toNat)
      case atStart => exact ⟨0, by omega, rfl, c6, c1, c2, cb⟩
      case round =>
        clear c6 c5 c1 c2 cb
        obtain ⟨k, hk, rfl, c6, c1, c2, cb⟩ := hrel
        by_cases hlt : k < 8
        · have tk : (k : Int) < 8 := by omega
          have S1 := hid ((c6.cell k).trans (get_num8 hlt))
          have M1 := hid ((c1.cell k).trans (get_num8 hlt))
          rw [mix8_at] at S1
          have C6 := hid c6
          have C1 := hid c1
          have C2 := hid c2
          have CB := hid cb
          clear c6 c1 c2 cb
          go_wp2_with fail
          refine wp_region_tail (C := Drew wr) 8 (by kernel_rfl) (by kernel_rfl) (by kernel_rfl) (Drew.refl _) ?_
          simp only [List.take_succ_cons, List.take_zero, List.drop_succ_cons, List.drop_zero]
          apply wpK_val
          · rfl
          · intro w' hw'
            go_simp
            first | exact rfl | exact ⟨rfl, hw'⟩
          simp only [Act.put, sqA, sqB, sqC]
          apply wpK_val
          · rfl
          · intro w' hw'
            go_simp
            first | exact rfl | exact ⟨rfl, hw'⟩
          simp only [Act.put, sqA, sqB, sqC]
          apply wpK_val
          · rfl
          · intro w' hw'
            have hcell := hw'.cell S1.out
            go_simp
            first | exact rfl | exact ⟨rfl, hw'⟩
          simp only [Act.put, sqA, sqB, sqC]
          apply wpK_val
          · rfl
          · intro w' hw'
            go_simp
            first | exact rfl | exact ⟨rfl, hw'⟩
          simp only [Act.put, sqA, sqB, sqC]
          apply wpK_val
          · rfl
          · intro w' hw'
            go_simp
            first | exact rfl | exact ⟨rfl, hw'⟩
          simp only [Act.put, sqA, sqB, sqC]
          apply wpK_val
          · rfl
          · intro w' hw'
            have hcell := hw'.cell M1.out
            go_simp
            first | exact rfl | exact ⟨rfl, hw'⟩
          simp only [Act.put, sqA, sqB, sqC]
          apply wpK_val
          · rfl
          · intro w' hw'
            have h1 : _ := u32_wrap_nat (T.get k) (s.get k)
            go_simp
            first | exact rfl | exact ⟨rfl, hw'⟩
          simp only [Act.put, sqA, sqB, sqC]
          apply wpK_val
          · rfl
          · intro w' hw'
            go_simp
            first | exact rfl | exact ⟨rfl, hw'⟩
          simp only [Act.put, sqA, sqB, sqC]
          refine wpK_nil fun w4 hw4 => ?_
          have c6 := hw4.blk C6.out
          have c1 := hw4.blk C1.out
          have c2 := hw4.blk C2.out
          have cb := hw4.below CB.out
          clear hw4 C6 C1 C2 CB S1 M1
          have q1 := (c6.cell k).trans (get_num8 hlt)
          have q3 := c6.frozen k
          have C6 := hid c6
          have C1 := hid c1
          have C2 := hid c2
          have CB := hid cb
          clear c6 c1 c2 cb
          go_wp2_with fail
          go_roundw
          case rel =>
            refine ⟨k + 1, by omega, by go_num, ?_, C1.out.setCell_other (by show g6 ≠ w.heap.size; omega) _, C2.out.setCell_other (by show g6 ≠ w.heap.size + 1; omega) _, CB.out.setCell (by show w.heap.size ≤ g6; omega) _⟩
            have h := C6.out.setCell_same k (.int .u32 (ShaM.add (T.get k) (s.get k) : Nat))
            rw [num8_set, mix8_step] at h
            exact h
          case measure => simp [intOf]; omega
        · have tk : decide ((k : Int) < 8) = false := by simp; omega
          rw [show k = 8 by omega, mix8_full] at c6
          go_wp2_with (first | ((with_reducible apply ldn); rfl; assumption) | ((with_reducible apply stn); rfl; rfl; assumption))
          apply ret_row Tryz.results180
          · exact c2.setRow_same _
          · exact Tryz.underlying211
          · rfl
          · exact (info_num8.trans (by rw [size_num8]))
          · rfl
          · rfl
          exact ⟨by rw [← HT.out]; rfl, below_setRow cb (by omega) _⟩
end Go.Proofs.YtklmjdhhnnanoaaGreatDoor
set_option maxRecDepth 100000
namespace Go.Proofs.YtklmjdhhnnanoaaGreatDoor
open Go.ChangeShapes Go.WideShapes Go.ChangeAt Go.RowKit
attribute [local go_sem] Gives
theorem B256.at' {l : List Nat} (h : B256 l) (k : Nat) : ShaM.at' l k < 256 := ShaM.getD_lt (by omega) h k
set_option maxHeartbeats 400000 in
set_option maxRecDepth 100000 in
theorem passes_any (s : ShaM.S8) (hs : s.ok) (A : Option Addr) (l : List Nat) (n cap : Nat) (hl : l.length = n) (hc : n ≤ cap) (hm : cap ≤ maxLen) (hb : B256 l) (w : World) (hA : Byt w w.heap.size A l) (hS : Salts w) :
    Calls Tryz.prog 170 #[.agg (num8 s.get), .slice A n cap] w fun e w' => e = .returned (.agg (num8 (ShaM.passes s l).get)) ∧ Below w.heap.size w w' := by
  unfold maxLen at hm
  have HS := hid hs
  have HB := hid hb
  have HA := hid hA
  have SA := hid hS
  have HL := hid hl
  clear hs hb hA hS hl
  go_enter Tryz.func170, Tryz.ntmps170
  go_wp2_with fail
  generalize hw3 : World.alloc (World.alloc w _) _ = w3
  have b1 : Blk w3 w.heap.size 211 (num8 s.get) := by rw [← hw3]; exact (Blk.top rfl rfl).alloc _
  have b2 : Blk w3 (w.heap.size + 1) 211 (num8 fun _ => 0) := by rw [← hw3]; exact Blk.top zlit8 (by simp)
  have hb : Below w.heap.size w w3 := by rw [← hw3]; exact ((Below.refl _ _).alloc (Nat.le_refl _) _).alloc (by simp) _
  clear hw3
  have ha := HA.out.below hb (Nat.le_refl _)
  go_loopw [1] (fun v wr => ∃ (A' : Option Addr) (l' : List Nat) (n' cap' : Nat) (s' : ShaM.S8), v = .slice A' n' cap' ∧ Hid (l'.length = n') ∧ n' ≤ cap' ∧ cap' ≤ 9223372036854775807 ∧ Hid (B256 l') ∧ Hid s'.ok ∧ Hid (ShaM.passes s' l' = ShaM.passes s l) ∧
    Byt wr w.heap.size A' l' ∧ Blk wr w.heap.size 211 (num8 s'.get) ∧ Blk wr (w.heap.size + 1) 211 (num8 fun _ => 0) ∧ Below w.heap.size w wr) (fun v _ => lenOf v)
  case atStart => exact ⟨A, l, n, cap, s, rfl, HL, hc, by omega, HB, HS, hid rfl, ha, b1, b2, hb⟩
  case round =>
    clear ha b1 b2 hb
    obtain ⟨A', l', n', cap', s', rfl, hl, hc', hm', hb', hs', hp, ha, b1, b2, hb⟩ := hrel
    by_cases hlt : 64 ≤ n'
    · have t0 : decide ((64 : Int) ≤ (n' : Int)) = true := by simp; omega
      obtain ⟨b, o, rfl, hbB, hr⟩ := ha (by have := hl.out; omega)
      clear hr
      have HA' := hid ha
      have B1 := hid b1
      have B2 := hid b2
      have BEL := hid hb
      clear ha b1 b2 hb
      go_wp2_with fail
      refine wp_region_tail (C := fun w' => Below wr.heap.size wr w') 4 (by kernel_rfl) (by kernel_rfl) (by kernel_rfl) (Below.refl _ _).drew ?_
      simp only [List.take_succ_cons, List.take_zero, List.drop_succ_cons, List.drop_zero]
      have hc64 : (64 : Int) ≤ (cap' : Int) := by omega
      apply kln
      · rfl
      · rfl
      · exact fun w' hw' => B1.out.below hw' B1.out.lt
      simp only [Act.put, sqA, sqB, sqC]
      apply wpK_val
      · rfl
      · intro w' hw'
        go_simp
        first | exact rfl | exact ⟨rfl, hw'⟩
      simp only [Act.put, sqA, sqB, sqC]
      apply wpK_val
      · rfl
      · intro w' hw'
        go_simp
        first | exact rfl | exact ⟨rfl, hw'⟩
      simp only [Act.put, sqA, sqB, sqC]
      apply wpK_val
      · rfl
      · intro w' hw'
        go_simp
        exact (pass_any s' hs'.out _ (l'.take 64) cap' (by rw [List.length_take]; have := hl.out; omega) (fun k => (hb'.out.take 64).at' k) _ (((HA'.out.take 64).below (hw'.mono BEL.out.size) (Nat.le_refl _)).more (Nat.le_trans BEL.out.size hw'.size)) (SA.out.on (BEL.out.trans (hw'.mono BEL.out.size)))).mono fun e w'' ⟨he, hb''⟩ => ⟨he, hw'.trans (hb''.mono hw'.size)⟩
      simp only [Act.put, sqA, sqB, sqC]
      refine wpK_nil fun w4 hw4 => ?_
      have b1 := B1.out.below hw4 B1.out.lt
      have b2 := B2.out.below hw4 B2.out.lt
      have bel := BEL.out.trans (hw4.mono BEL.out.size)
      have ha := HA'.out.below (hw4.mono BEL.out.size) (Nat.le_refl _)
      have B2 := hid b2
      have BEL := hid bel
      have HA' := hid ha
      clear b2 bel ha
      go_wp2_with ((with_reducible apply stn); rfl; rfl; exact b1)
      have hl' := hl.out
      have e1 : ShaM.pass s' (ShaM.at' (List.take 64 l')) = ShaM.pass s' (ShaM.at' l') := ShaM.pass_congr s' fun k hk => getD_take hk
      go_roundw
      case rel =>
        refine ⟨_, l'.drop 64, n' - 64, cap' - 64, ShaM.pass s' (ShaM.at' l'), rfl, hid (by rw [List.length_drop]; omega), by omega, by omega, hid (hb'.out.drop 64), hid (ShaM.pass_ok _ _), hid ?_, ?_, ?_, ?_, ?_⟩
        · rw [← hp.out, ShaM.passes_long (l := l') (by omega)]
        · have hd := (HA'.out.below (below_setRow (Below.refl w.heap.size w4) (Nat.le_refl _) (num8 (ShaM.pass s' (ShaM.at' (List.take 64 l'))).get)) (Nat.le_refl _)).drop 64
          by_cases h64 : cap' = 64
          · exact Byt.none (by rw [List.length_drop]; omega)
          · rw [if_neg h64]; exact hd
        · rw [e1]; exact b1.setRow_same _
        · exact B2.out.setRow_other (by omega) _
        · exact below_setRow BEL.out (Nat.le_refl _) _
      case measure => simp [lenOf]; omega
    · have t0 : decide ((64 : Int) ≤ (n' : Int)) = false := by simp; omega
      have hf : ShaM.passes s l = s' := by rw [← hp.out, ShaM.passes_short (by have := hl.out; omega)]
      have HF := hid hf
      clear hf ha
      go_wp2_with (first | ((with_reducible apply ldn); rfl; assumption) | ((with_reducible apply stn); rfl; rfl; assumption))
      apply ret_row Tryz.results170
      · exact b2.setRow_same _
      · exact Tryz.underlying211
      · rfl
      · exact (info_num8.trans (by rw [size_num8]))
      · rfl
      · rfl
      exact ⟨by rw [HF.out], below_setRow hb (by omega) _⟩
end Go.Proofs.YtklmjdhhnnanoaaGreatDoor
set_option maxRecDepth 100000
namespace Go.Proofs.YtklmjdhhnnanoaaGreatDoor
open Go.ChangeShapes Go.WideShapes Go.ChangeAt Go.RowKit
attribute [local go_sem] Gives
def tag (f : Nat → Nat) : Array Value := row 32 fun j => .int .u8 (f j : Nat)
theorem size_tag {f : Nat → Nat} : (tag f).size = 32 := size_row
theorem get_tag {f : Nat → Nat} {k : Nat} (h : k < 32) : (tag f)[k]? = some (.int .u8 (f k : Nat)) := get_row_lt h
theorem tag_ext {f g : Nat → Nat} (h : ∀ k, k < 32 → f k = g k) : tag f = tag g := row_ext fun k hk => by rw [h k hk]
theorem tag_set {f : Nat → Nat} {k v : Nat} : (tag f).setIfInBounds k (.int .u8 (v : Nat)) = tag fun j => if j = k then v else f j := by
  unfold tag
  rw [row_set]
  exact row_ext fun j _ => by by_cases e : j = k <;> simp [e]
theorem tag_one {f : Nat → Nat} : (tag f).all (·.oneCell') = true := row_one fun _ _ => rfl
theorem zlit_tag : (#[.int .u8 0, .int .u8 0, .int .u8 0, .int .u8 0, .int .u8 0, .int .u8 0, .int .u8 0, .int .u8 0, .int .u8 0, .int .u8 0, .int .u8 0, .int .u8 0, .int .u8 0, .int .u8 0, .int .u8 0, .int .u8 0, .int .u8 0, .int .u8 0, .int .u8 0, .int .u8 0, .int .u8 0, .int .u8 0, .int .u8 0, .int .u8 0, .int .u8 0, .int .u8 0, .int .u8 0, .int .u8 0, .int .u8 0, .int .u8 0, .int .u8 0, .int .u8 0] : Array Value) = tag fun _ => 0 := by rfl
theorem info_tag : (Tryz.prog.info? 81).map (·.size) = some 32 := by kernel_rfl
section
variable {ops : Array Oper} {Q : Exit → Act → World → Prop} {a : Act} {w : World} {rest : List Oper} {dst : Option Tmp} {ty : TypeId} {pos : String} {after : Array Edge} {x y : Operand} {g : Nat} {f f0 : Nat → Nat}
theorem ldt (hx : a.eval x = .pointer (some ⟨g, 0, none⟩)) (hb : Blk w g 81 (tag f)) (h : wpList Tryz.prog ops Q rest (a.put dst (.agg (tag f))) w) :
    wpList Tryz.prog ops Q (⟨dst, .load 81 x, ty, pos, after, none⟩ :: rest) a w :=
  step_load_row hb Tryz.underlying81 rfl (info_tag.trans (by rw [size_tag])) hx h
theorem stt (hx : a.eval x = .pointer (some ⟨g, 0, none⟩)) (hy : a.eval y = .agg (tag f)) (hb : Blk w g 81 (tag f0)) (h : wpList Tryz.prog ops Q rest (a.put dst undef) (w.setRow g (tag f))) :
    wpList Tryz.prog ops Q (⟨dst, .store 81 x y, ty, pos, after, none⟩ :: rest) a w :=
  step_store_row hb (info_tag.trans (by rw [size_tag])) (by rw [size_tag, size_tag]) tag_one hx hy h
end
theorem run_index8 (f : Nat → Nat) {k : Nat} (hk : k < 8) (w : World) : (Instr.index 211 (.agg (num8 f)) (.int .i64 k)).run Tryz.prog w = .ok (.int .u32 (f k : Nat)) w := by
  have h1 : (0 : Int) ≤ (k : Int) ∧ (k : Int) < 8 := by omega
  simp [Instr.index, run_underlying Tryz.underlying211, asIntOf, h1, go_sem]
  rw [if_pos hk, get_num8 hk]; rfl
def dg (s : ShaM.S8) (c : Nat) : Nat → Nat := fun j => if j < c then ShaM.digest s j else 0
theorem dg_zero (s : ShaM.S8) : dg s 0 = fun _ => 0 := funext fun j => by simp [dg]
theorem dg_step (s : ShaM.S8) (c : Nat) : (fun j => if j = c then ShaM.digest s c else dg s c j) = dg s (c + 1) := funext fun j => by
  unfold dg
  by_cases h : j = c
  · subst h; simp
  · simp only [h, if_false]
    by_cases h2 : j < c
    · rw [if_pos h2, if_pos (by omega)]
    · rw [if_neg h2, if_neg (by omega)]
theorem dg_full (s : ShaM.S8) : tag (dg s 32) = tag (ShaM.digest s) := tag_ext fun k hk => by unfold dg; rw [if_pos hk]
set_option maxHeartbeats 400000 in
set_option maxRecDepth 100000 in
theorem digest_any (s : ShaM.S8) (hs : s.ok) (w : World) :
    Calls Tryz.prog 171 #[.agg (num8 s.get)] w fun e w' => e = .returned (.agg (tag (ShaM.digest s))) ∧ Below w.heap.size w w' := by
  have HS := hid hs
  clear hs
  go_enter Tryz.func171, Tryz.ntmps171
  go_upto_region 2 with fail
  generalize hw3 : World.alloc (World.alloc (World.alloc w _) _) _ = w3
  have b1 : Blk w3 w.heap.size 211 (num8 s.get) := by rw [← hw3]; exact ((Blk.top rfl rfl).alloc _).alloc _
  have b2 : Blk w3 (w.heap.size + 1) 81 (tag fun _ => 0) := by rw [← hw3]; exact (Blk.top zlit_tag (by simp)).alloc _
  have b3 : Blk w3 (w.heap.size + 2) 81 (tag (dg s 0)) := by rw [← hw3, dg_zero]; exact Blk.top zlit_tag (by simp)
  have hb : Below w.heap.size w w3 := by rw [← hw3]; exact (((Below.refl _ _).alloc (Nat.le_refl _) _).alloc (by simp) _).alloc (by simp; omega) _
  clear hw3
  go_wp2_with ((with_reducible apply ldn); rfl; exact b1)
  clear b1
  go_loopw [8] (fun i wr => ∃ k : Nat, k ≤ 8 ∧ i = .int .i64 k ∧ Blk wr (w.heap.size + 1) 81 (tag fun _ => 0) ∧ Blk wr (w.heap.size + 2) 81 (tag (dg s (4 * k))) ∧ Below w.heap.size w wr) (fun i _ => 8 - (intOf i).toNat)
  case atStart => exact ⟨0, by omega, rfl, b2, b3, hb⟩
  case round =>
    clear b2 b3 hb
    obtain ⟨k, hk, rfl, b2, b3, hb⟩ := hrel
    by_cases hlt : k < 8
    · have tk : (k : Int) < 8 := by omega
      have hI := fun w => run_index8 s.get hlt w
      go_wp2_with fail
      clear hI
      go_loopw [12] (fun i wr => ∃ j : Nat, j ≤ 4 ∧ i = .int .i64 j ∧ Blk wr (w.heap.size + 1) 81 (tag fun _ => 0) ∧ Blk wr (w.heap.size + 2) 81 (tag (dg s (4 * k + j))) ∧ Below w.heap.size w wr) (fun i _ => 4 - (intOf i).toNat)
      case atStart => exact ⟨0, by omega, rfl, b2, b3, hb⟩
      case round =>
        clear b2 b3 hb
        obtain ⟨j, hj, rfl, b2, b3, hb⟩ := hrel
        by_cases hlj : j < 4
        · have tj : (j : Int) < 4 := by omega
          obtain ⟨c, hc⟩ : ∃ c, c = 4 * k + j := ⟨_, rfl⟩
          rw [← hc] at b3
          have hc32 : c < 32 := by omega
          have hci : (c : Int) < 32 := by omega
          have c1 : wr.cell? ⟨w.heap.size + 2, c, none⟩ = some (.int .u8 (dg s c c : Nat)) := (b3.cell _).trans (get_tag hc32)
          have c3 := b3.frozen c
          have B2 := hid b2
          have B3 := hid b3
          have HW := hid hb
          have HC := hid hc
          have e1 : IntKind.i64.wrap (4 * (k : Int) + (j : Int)) = (c : Int) := wr_nat (by omega) (by omega)
          have e2 : 4 * (k : Int) + (j : Int) = (c : Int) := by omega
          clear b2 b3 hb hc
          go_wp2_with fail
          go_roundw
          case rel =>
            have hc := HC.out
            have hv : ((s.get k : Nat) : Int) / 2 ^ (8 * (3 - j)) % 256 = ((ShaM.digest s c : Nat) : Int) := by
              unfold ShaM.digest
              rw [show c / 4 = k by omega, show c % 4 = j by omega]
              simp
            refine ⟨j + 1, by omega, by go_num, B2.out.setCell_other (by simp) _, ?_, HW.out.setCell (by show w.heap.size ≤ w.heap.size + 1 + 1; omega) _⟩
            have h := B3.out.setCell_same c (.int .u8 (ShaM.digest s c : Nat))
            rw [tag_set, dg_step] at h
            rw [hv, show 4 * k + (j + 1) = c + 1 by omega]
            exact h
          case measure => simp [intOf]; omega
        · have tj : decide ((j : Int) < 4) = false := by simp; omega
          have h4 : 4 * k + j = 4 * (k + 1) := by omega
          rw [h4] at b3
          clear h4
          go_wp2_with fail
          go_roundw
          case rel => exact ⟨k + 1, by omega, by go_num, b2, b3, hb⟩
          case measure => simp [intOf]; omega
    · have tk : decide ((k : Int) < 8) = false := by simp; omega
      rw [show 4 * k = 32 by omega, dg_full] at b3
      go_wp2_with (first | ((with_reducible apply ldt); rfl; assumption) | ((with_reducible apply stt); rfl; rfl; assumption))
      apply ret_row Tryz.results171
      · exact b2.setRow_same _
      · exact Tryz.underlying81
      · rfl
      · exact (info_tag.trans (by rw [size_tag]))
      · rfl
      · rfl
      exact ⟨rfl, below_setRow hb (by omega) _⟩
end Go.Proofs.YtklmjdhhnnanoaaGreatDoor
set_option maxRecDepth 100000
namespace Go.Proofs.YtklmjdhhnnanoaaGreatDoor
open Go.ChangeShapes Go.WideShapes Go.ChangeAt Go.RowKit
attribute [local go_sem] Gives
def bts (n : Nat) (f : Nat → Nat) : Array Value := row n fun j => .int .u8 (f j : Nat)
theorem size_bts {n : Nat} {f : Nat → Nat} : (bts n f).size = n := size_row
theorem get_bts {n : Nat} {f : Nat → Nat} {k : Nat} (h : k < n) : (bts n f)[k]? = some (.int .u8 (f k : Nat)) := get_row_lt h
theorem bts_ext {n : Nat} {f g : Nat → Nat} (h : ∀ k, k < n → f k = g k) : bts n f = bts n g := row_ext fun k hk => by rw [h k hk]
theorem bts_set {n : Nat} {f : Nat → Nat} {k v : Nat} : (bts n f).setIfInBounds k (.int .u8 (v : Nat)) = bts n fun j => if j = k then v else f j := by
  unfold bts
  rw [row_set]
  exact row_ext fun j _ => by by_cases e : j = k <;> simp [e]
theorem bts_one {n : Nat} {f : Nat → Nat} : (bts n f).all (·.oneCell') = true := row_one fun _ _ => rfl
theorem zero128 (w : World) : (zeroValue 250).run Tryz.prog w = .ok (.agg (bts 128 fun _ => 0)) w :=
  (zero_of_info (P := Tryz.prog) (t := 250) (v := .agg (bts 128 fun _ => 0)) (n := 128) (by kernel_rfl)).1 w
theorem Blk.byt {w : World} {B g n : Nat} {t : TypeId} {f : Nat → Nat} (h : Blk w g t (bts n f)) (hg : g < B) {l : List Nat} (hl : l.length ≤ n) (he : ∀ j, j < l.length → l.getD j 0 = f j) : Byt w B (some ⟨g, 0, none⟩) l := fun _ =>
  ⟨g, 0, rfl, hg, fun i hi => by rw [Nat.zero_add, h.cell, get_bts (by omega), he i hi]⟩
section
variable {ops : Array Oper} {Q : Exit → Act → World → Prop} {a : Act} {w : World} {rest : List Oper} {dst : Option Tmp} {ty : TypeId} {pos : String} {after : Array Edge} {d s : Operand}
theorem wcopy {A : Option Addr} {n m cap g B cap' : Nat} {t : TypeId} {l : List Nat} {f : Nat → Nat} (hd : a.eval d = .slice (some ⟨g, 0, none⟩) m cap') (hs : a.eval s = .slice A n cap) (hg : Blk w g t (bts m f)) (hA : Byt w B A l) (hl : l.length = n) (hnm : n ≤ m)
    (h : wpList Tryz.prog ops Q rest (a.put dst (goInt n)) (w.setRow g (bts m fun j => if j < n then ShaM.at' l j else f j))) :
    wpList Tryz.prog ops Q (⟨dst, .call { callee := .builtin .copy, args := #[d, s], argTypes := #[93, 93] }, ty, pos, after, none⟩ :: rest) a w := by
  by_cases h0 : n = 0
  · subst h0
    refine wpList_copy_nothing rfl d s 93 93 rfl 5 Tryz.underlying93 (by kernel_rfl) _ _ _ _ _ _ hd hs (Nat.zero_min _) ?_
    rw [bts_ext (g := f) fun k _ => if_neg (Nat.not_lt_zero _), hg.setRow_id] at h
    exact h
  · obtain ⟨b, o, rfl, hB, hr⟩ := hA (by omega)
    have hlen : (bts n fun j => ShaM.at' l j).toList.length = n := by rw [Array.length_toList, size_bts]
    refine wpList_copy_own rfl d s 93 93 rfl 5 Tryz.underlying93 (by kernel_rfl) g 0 m cap' ⟨b, o, none⟩ n cap hd hs (bts m f) t hg (bts n fun j => ShaM.at' l j).toList (by rw [hlen]; exact (Nat.min_eq_left hnm).symm) ?_ (by rw [hlen, size_bts]; omega) ?_ ?_
    · intro j v hj
      have hjn : j < n := by have := (List.getElem?_eq_some_iff.1 hj).1; rwa [hlen] at this
      rw [Array.getElem?_toList, get_bts hjn] at hj
      rw [← hj, Addr.add_mid]
      exact hr j (by omega)
    · intro v hv
      exact (Array.all_eq_true_iff_forall_mem.1 bts_one) v (by simpa using hv)
    · rw [hlen]
      have e : (List.take 0 (bts m f).toList ++ ((bts n fun j => ShaM.at' l j).toList ++ (bts m f).toList.drop (0 + n))).toArray = bts m fun j => if j < n then ShaM.at' l j else f j := by
        apply Array.ext_getElem?
        intro k
        rw [List.getElem?_toArray, List.take_zero, List.nil_append, List.getElem?_append, hlen, Nat.zero_add]
        by_cases hk : k < n
        · rw [if_pos hk, Array.getElem?_toList, get_bts hk, get_bts (by omega), if_pos hk]
        · rw [if_neg hk, List.getElem?_drop, Array.getElem?_toList, show n + (k - n) = k by omega]
          unfold bts
          simp only [get_row, if_neg hk]
      rw [e]
      exact h
end
set_option maxHeartbeats 400000 in
set_option maxRecDepth 100000 in
theorem finish_short (s : ShaM.S8) (hs : s.ok) (A : Option Addr) (l : List Nat) (n cap size : Nat) (hl : l.length = n) (hn : n < 64) (hcond : n + 9 ≤ 64) (hsz : size % 64 = n) (hm : size ≤ 1000000000000000) (hb : B256 l) (w : World) (hA : Byt w w.heap.size A l) (hS : Salts w) :
    Calls Tryz.prog 172 #[.agg (num8 s.get), .slice A n cap, .int .i64 size] w fun e w' => e = .returned (.agg (num8 (ShaM.passes s (l ++ ShaM.tail size)).get)) ∧ Below w.heap.size w w' := by
  have HS := hid hs
  have HB := hid hb
  have HA := hid hA
  have SA := hid hS
  have HL := hid hl
  have HZ := hid hsz
  clear hs hb hA hS hl hsz
  have tn : (n : Int) < 64 := by omega
  have hZ := zero128
  go_enter Tryz.func172, Tryz.ntmps172
  go_upto_region 2 with fail
  clear hZ
  generalize hw3 : World.alloc (World.alloc (World.alloc w _) _) _ = w3
  have b1 : Blk w3 w.heap.size 211 (num8 s.get) := by rw [← hw3]; exact ((Blk.top rfl rfl).alloc _).alloc _
  have b2 : Blk w3 (w.heap.size + 1) 211 (num8 fun _ => 0) := by rw [← hw3]; exact (Blk.top zlit8 (by simp)).alloc _
  have b3 : Blk w3 (w.heap.size + 2) 250 (bts 128 fun _ => 0) := by rw [← hw3]; exact Blk.top rfl (by simp)
  have hb : Below w.heap.size w w3 := by rw [← hw3]; exact (((Below.refl _ _).alloc (Nat.le_refl _) _).alloc (by simp) _).alloc (by simp; omega) _
  clear hw3
  have ha := (HA.out.below hb (Nat.le_refl _))
  go_upto_region 3 with ((with_reducible apply wcopy); rfl; rfl; exact b3; exact ha; exact HL.out; omega)
  generalize hw4 : World.setRow _ _ _ = w4
  have c3 : Blk w4 (w.heap.size + 2) 250 (bts 128 fun j => if j < n then ShaM.at' l j else 0) := by rw [← hw4]; exact b3.setRow_same _
  have c1 : Blk w4 w.heap.size 211 (num8 s.get) := by rw [← hw4]; exact b1.setRow_other (by omega) _
  have c2 : Blk w4 (w.heap.size + 1) 211 (num8 fun _ => 0) := by rw [← hw4]; exact b2.setRow_other (by omega) _
  have cb : Below w.heap.size w w4 := by rw [← hw4]; exact below_setRow hb (by omega) _
  clear hw4 b1 b2 b3 hb ha w3
  have q1 := (c3.cell n).trans (get_bts (by omega))
  have q3 := c3.frozen n
  have C1 := hid c1
  have C2 := hid c2
  have C3 := hid c3
  have CB := hid cb
  clear c1 c2 c3 cb
  go_upto_region 4 with fail
  clear q1 q3
  generalize hw5 : World.setCell _ _ _ = w5
  have c3 : Blk w5 (w.heap.size + 2) 250 (bts 128 (ShaM.fin l size 64 0)) := by
    rw [← hw5]
    have h := C3.out.setCell_same n (.int .u8 (128 : Nat))
    rw [bts_set] at h
    rw [← ShaM.fin_zero, HL.out]
    exact h
  have c1 : Blk w5 w.heap.size 211 (num8 s.get) := by rw [← hw5]; exact C1.out.setCell_other (by show w.heap.size + 1 + 1 ≠ w.heap.size; omega) _
  have c2 : Blk w5 (w.heap.size + 1) 211 (num8 fun _ => 0) := by rw [← hw5]; exact C2.out.setCell_other (by simp) _
  have cb : Below w.heap.size w w5 := by rw [← hw5]; exact CB.out.setCell (by show w.heap.size ≤ w.heap.size + 1 + 1; omega) _
  clear hw5 C1 C2 C3 CB w4
  go_wp2_with fail
  go_loopw [24] (fun v wr => ∃ i : Nat, i ≤ 8 ∧ v = .int .i64 i ∧ Blk wr (w.heap.size + 2) 250 (bts 128 (ShaM.fin l size 64 i)) ∧ Blk wr w.heap.size 211 (num8 s.get) ∧
    Blk wr (w.heap.size + 1) 211 (num8 fun _ => 0) ∧ Below w.heap.size w wr) (fun v _ => 8 - (intOf v).toNat)
  case atStart => exact ⟨0, by omega, rfl, c3, c1, c2, cb⟩
  case round =>
    clear c1 c2 c3 cb
    obtain ⟨i, hi, rfl, c3, c1, c2, cb⟩ := hrel
    by_cases hlt : i < 8
    · have ti : (i : Int) < 8 := by omega
      obtain ⟨c, hc⟩ : ∃ c, c = 64 - 1 - i := ⟨_, rfl⟩
      have e1 : IntKind.i64.wrap (63 - (i : Int)) = (c : Int) := wr_nat (by omega) (by omega)
      have e2 : 63 - (i : Int) = (c : Int) := by omega
      have hci : (c : Int) < 128 := by omega
      have HC := hid hc
      have hc128 : c < 128 := by omega
      clear hc
      have q1 := (c3.cell c).trans (get_bts hc128)
      have q3 := c3.frozen c
      have C1 := hid c1
      have C2 := hid c2
      have C3 := hid c3
      have CB := hid cb
      clear c1 c2 c3 cb
      go_wp2_with fail
      go_roundw
      case rel =>
        refine ⟨i + 1, by omega, by go_num, ?_, C1.out.setCell_other (by show w.heap.size + 1 + 1 ≠ w.heap.size; omega) _, C2.out.setCell_other (by show w.heap.size + 1 + 1 ≠ w.heap.size + 1; omega) _, CB.out.setCell (by show w.heap.size ≤ w.heap.size + 1 + 1; omega) _⟩
        have h := C3.out.setCell_same c (.int .u8 (8 * size / 2 ^ (8 * i) % 256 : Nat))
        rw [bts_set, ShaM.fin_step l (by have := HL.out; omega) hlt (by have := HC.out; omega)] at h
        rw [show (8 * (size : Int) / 2 ^ (8 * i) % 256) = ((8 * size / 2 ^ (8 * i) % 256 : Nat) : Int) by simp]
        exact h
      case measure => simp [intOf]; omega
    · have ti : decide ((i : Int) < 8) = false := by simp; omega
      rw [show i = 8 by omega] at c3
      have h64 : 64 = if l.length + 9 ≤ 64 then 64 else 128 := by have := HL.out; split <;> omega
      have hlen : (l ++ ShaM.tail size).length = 64 := ShaM.ended_length (by rw [HL.out]; exact HZ.out) h64
      have hby : Byt wr (w.heap.size + 3) (some ⟨w.heap.size + 2, 0, none⟩) (l ++ ShaM.tail size) := c3.byt (by omega) (by omega) fun j hj => ShaM.ended_get (by rw [HL.out]; exact HZ.out) h64 (by omega)
      have C1 := hid c1
      have C2 := hid c2
      have C3 := hid c3
      have CB := hid cb
      have HLEN := hid hlen
      have BY := hid hby
      clear c1 c2 c3 cb h64 hlen hby
      go_wp2_with fail
      refine wp_region_tail (C := fun w' => Below wr.heap.size wr w') 4 (by kernel_rfl) (by kernel_rfl) (by kernel_rfl) (Below.refl _ _).drew ?_
      simp only [List.take_succ_cons, List.take_zero, List.drop_succ_cons, List.drop_zero]
      apply kln
      · rfl
      · rfl
      · exact fun w' hw' => C1.out.below hw' C1.out.lt
      simp only [Act.put, sqA, sqB, sqC]
      apply wpK_val
      · rfl
      · intro w' hw'
        go_simp
        first | exact rfl | exact ⟨rfl, hw'⟩
      simp only [Act.put, sqA, sqB, sqC]
      apply wpK_val
      · rfl
      · intro w' hw'
        go_simp
        first | exact rfl | exact ⟨rfl, hw'⟩
      simp only [Act.put, sqA, sqB, sqC]
      apply wpK_val
      · rfl
      · intro w' hw'
        go_simp
        exact (passes_any s HS.out _ (l ++ ShaM.tail size) 64 128 HLEN.out (by omega) (by unfold maxLen; omega) (HB.out.append (ShaM.tail_256 size)) _ (((BY.out.below hw' (by have := C3.out.lt; omega)).more (Nat.le_trans (by have := C3.out.lt; omega) hw'.size))) (SA.out.on (CB.out.trans (hw'.mono CB.out.size)))).mono fun e w'' ⟨he, hb''⟩ => ⟨he, hw'.trans (hb''.mono hw'.size)⟩
      simp only [Act.put, sqA, sqB, sqC]
      refine wpK_nil fun w4 hw4 => ?_
      have c2 := C2.out.below hw4 C2.out.lt
      have cb := CB.out.trans (hw4.mono CB.out.size)
      go_wp2_with ((with_reducible apply stn); rfl; rfl; exact c2)
      apply ret_row Tryz.results172
      · exact c2.setRow_same _
      · exact Tryz.underlying211
      · rfl
      · exact (info_num8.trans (by rw [size_num8]))
      · rfl
      · rfl
      exact ⟨rfl, below_setRow cb (by omega) _⟩
set_option maxHeartbeats 400000 in
set_option maxRecDepth 100000 in
theorem finish_long (s : ShaM.S8) (hs : s.ok) (A : Option Addr) (l : List Nat) (n cap size : Nat) (hl : l.length = n) (hn : n < 64) (hcond : 64 < n + 9) (hsz : size % 64 = n) (hm : size ≤ 1000000000000000) (hb : B256 l) (w : World) (hA : Byt w w.heap.size A l) (hS : Salts w) :
    Calls Tryz.prog 172 #[.agg (num8 s.get), .slice A n cap, .int .i64 size] w fun e w' => e = .returned (.agg (num8 (ShaM.passes s (l ++ ShaM.tail size)).get)) ∧ Below w.heap.size w w' := by
  have HS := hid hs
  have HB := hid hb
  have HA := hid hA
  have SA := hid hS
  have HL := hid hl
  have HZ := hid hsz
  clear hs hb hA hS hl hsz
  have tn : (n : Int) < 64 := by omega
  have hZ := zero128
  go_enter Tryz.func172, Tryz.ntmps172
  go_upto_region 2 with fail
  clear hZ
  generalize hw3 : World.alloc (World.alloc (World.alloc w _) _) _ = w3
  have b1 : Blk w3 w.heap.size 211 (num8 s.get) := by rw [← hw3]; exact ((Blk.top rfl rfl).alloc _).alloc _
  have b2 : Blk w3 (w.heap.size + 1) 211 (num8 fun _ => 0) := by rw [← hw3]; exact (Blk.top zlit8 (by simp)).alloc _
  have b3 : Blk w3 (w.heap.size + 2) 250 (bts 128 fun _ => 0) := by rw [← hw3]; exact Blk.top rfl (by simp)
  have hb : Below w.heap.size w w3 := by rw [← hw3]; exact (((Below.refl _ _).alloc (Nat.le_refl _) _).alloc (by simp) _).alloc (by simp; omega) _
  clear hw3
  have ha := (HA.out.below hb (Nat.le_refl _))
  go_upto_region 3 with ((with_reducible apply wcopy); rfl; rfl; exact b3; exact ha; exact HL.out; omega)
  generalize hw4 : World.setRow _ _ _ = w4
  have c3 : Blk w4 (w.heap.size + 2) 250 (bts 128 fun j => if j < n then ShaM.at' l j else 0) := by rw [← hw4]; exact b3.setRow_same _
  have c1 : Blk w4 w.heap.size 211 (num8 s.get) := by rw [← hw4]; exact b1.setRow_other (by omega) _
  have c2 : Blk w4 (w.heap.size + 1) 211 (num8 fun _ => 0) := by rw [← hw4]; exact b2.setRow_other (by omega) _
  have cb : Below w.heap.size w w4 := by rw [← hw4]; exact below_setRow hb (by omega) _
  clear hw4 b1 b2 b3 hb ha w3
  have q1 := (c3.cell n).trans (get_bts (by omega))
  have q3 := c3.frozen n
  have C1 := hid c1
  have C2 := hid c2
  have C3 := hid c3
  have CB := hid cb
  clear c1 c2 c3 cb
  go_upto_region 4 with fail
  clear q1 q3
  generalize hw5 : World.setCell _ _ _ = w5
  have c3 : Blk w5 (w.heap.size + 2) 250 (bts 128 (ShaM.fin l size 128 0)) := by
    rw [← hw5]
    have h := C3.out.setCell_same n (.int .u8 (128 : Nat))
    rw [bts_set] at h
    rw [← ShaM.fin_zero, HL.out]
    exact h
  have c1 : Blk w5 w.heap.size 211 (num8 s.get) := by rw [← hw5]; exact C1.out.setCell_other (by show w.heap.size + 1 + 1 ≠ w.heap.size; omega) _
  have c2 : Blk w5 (w.heap.size + 1) 211 (num8 fun _ => 0) := by rw [← hw5]; exact C2.out.setCell_other (by simp) _
  have cb : Below w.heap.size w w5 := by rw [← hw5]; exact CB.out.setCell (by show w.heap.size ≤ w.heap.size + 1 + 1; omega) _
  clear hw5 C1 C2 C3 CB w4
  go_wp2_with fail
  go_loopw [24] (fun v wr => ∃ i : Nat, i ≤ 8 ∧ v = .int .i64 i ∧ Blk wr (w.heap.size + 2) 250 (bts 128 (ShaM.fin l size 128 i)) ∧ Blk wr w.heap.size 211 (num8 s.get) ∧
    Blk wr (w.heap.size + 1) 211 (num8 fun _ => 0) ∧ Below w.heap.size w wr) (fun v _ => 8 - (intOf v).toNat)
  case atStart => exact ⟨0, by omega, rfl, c3, c1, c2, cb⟩
  case round =>
    clear c1 c2 c3 cb
    obtain ⟨i, hi, rfl, c3, c1, c2, cb⟩ := hrel
    by_cases hlt : i < 8
    · have ti : (i : Int) < 8 := by omega
      obtain ⟨c, hc⟩ : ∃ c, c = 128 - 1 - i := ⟨_, rfl⟩
      have e1 : IntKind.i64.wrap (127 - (i : Int)) = (c : Int) := wr_nat (by omega) (by omega)
      have e2 : 127 - (i : Int) = (c : Int) := by omega
      have hci : (c : Int) < 128 := by omega
      have HC := hid hc
      have hc128 : c < 128 := by omega
      clear hc
      have q1 := (c3.cell c).trans (get_bts hc128)
      have q3 := c3.frozen c
      have C1 := hid c1
      have C2 := hid c2
      have C3 := hid c3
      have CB := hid cb
      clear c1 c2 c3 cb
      go_wp2_with fail
      go_roundw
      case rel =>
        refine ⟨i + 1, by omega, by go_num, ?_, C1.out.setCell_other (by show w.heap.size + 1 + 1 ≠ w.heap.size; omega) _, C2.out.setCell_other (by show w.heap.size + 1 + 1 ≠ w.heap.size + 1; omega) _, CB.out.setCell (by show w.heap.size ≤ w.heap.size + 1 + 1; omega) _⟩
        have h := C3.out.setCell_same c (.int .u8 (8 * size / 2 ^ (8 * i) % 256 : Nat))
        rw [bts_set, ShaM.fin_step l (by have := HL.out; omega) hlt (by have := HC.out; omega)] at h
        rw [show (8 * (size : Int) / 2 ^ (8 * i) % 256) = ((8 * size / 2 ^ (8 * i) % 256 : Nat) : Int) by simp]
        exact h
      case measure => simp [intOf]; omega
    · have ti : decide ((i : Int) < 8) = false := by simp; omega
      rw [show i = 8 by omega] at c3
      have h128 : 128 = if l.length + 9 ≤ 64 then 64 else 128 := by have := HL.out; split <;> omega
      have hlen : (l ++ ShaM.tail size).length = 128 := ShaM.ended_length (by rw [HL.out]; exact HZ.out) h128
      have hby : Byt wr (w.heap.size + 3) (some ⟨w.heap.size + 2, 0, none⟩) (l ++ ShaM.tail size) := c3.byt (by omega) (by omega) fun j hj => ShaM.ended_get (by rw [HL.out]; exact HZ.out) h128 (by omega)
      have C1 := hid c1
      have C2 := hid c2
      have C3 := hid c3
      have CB := hid cb
      have HLEN := hid hlen
      have BY := hid hby
      clear c1 c2 c3 cb h128 hlen hby
      go_wp2_with fail
      refine wp_region_tail (C := fun w' => Below wr.heap.size wr w') 4 (by kernel_rfl) (by kernel_rfl) (by kernel_rfl) (Below.refl _ _).drew ?_
      simp only [List.take_succ_cons, List.take_zero, List.drop_succ_cons, List.drop_zero]
      apply kln
      · rfl
      · rfl
      · exact fun w' hw' => C1.out.below hw' C1.out.lt
      simp only [Act.put, sqA, sqB, sqC]
      apply wpK_val
      · rfl
      · intro w' hw'
        go_simp
        first | exact rfl | exact ⟨rfl, hw'⟩
      simp only [Act.put, sqA, sqB, sqC]
      apply wpK_val
      · rfl
      · intro w' hw'
        go_simp
        first | exact rfl | exact ⟨rfl, hw'⟩
      simp only [Act.put, sqA, sqB, sqC]
      apply wpK_val
      · rfl
      · intro w' hw'
        go_simp
        exact (passes_any s HS.out _ (l ++ ShaM.tail size) 128 128 HLEN.out (by omega) (by unfold maxLen; omega) (HB.out.append (ShaM.tail_256 size)) _ (((BY.out.below hw' (by have := C3.out.lt; omega)).more (Nat.le_trans (by have := C3.out.lt; omega) hw'.size))) (SA.out.on (CB.out.trans (hw'.mono CB.out.size)))).mono fun e w'' ⟨he, hb''⟩ => ⟨he, hw'.trans (hb''.mono hw'.size)⟩
      simp only [Act.put, sqA, sqB, sqC]
      refine wpK_nil fun w4 hw4 => ?_
      have c2 := C2.out.below hw4 C2.out.lt
      have cb := CB.out.trans (hw4.mono CB.out.size)
      go_wp2_with ((with_reducible apply stn); rfl; rfl; exact c2)
      apply ret_row Tryz.results172
      · exact c2.setRow_same _
      · exact Tryz.underlying211
      · rfl
      · exact (info_num8.trans (by rw [size_num8]))
      · rfl
      · rfl
      exact ⟨rfl, below_setRow cb (by omega) _⟩
theorem finish_any (s : ShaM.S8) (hs : s.ok) (A : Option Addr) (l : List Nat) (n cap size : Nat) (hl : l.length = n) (hn : n < 64) (hsz : size % 64 = n) (hm : size ≤ 1000000000000000) (hb : B256 l) (w : World) (hA : Byt w w.heap.size A l) (hS : Salts w) :
    Calls Tryz.prog 172 #[.agg (num8 s.get), .slice A n cap, .int .i64 size] w fun e w' => e = .returned (.agg (num8 (ShaM.passes s (l ++ ShaM.tail size)).get)) ∧ Below w.heap.size w w' := by
  rcases Nat.lt_or_ge 64 (n + 9) with h | h
  · exact finish_long s hs A l n cap size hl hn h hsz hm hb w hA hS
  · exact finish_short s hs A l n cap size hl hn h hsz hm hb w hA hS
end Go.Proofs.YtklmjdhhnnanoaaGreatDoor
set_option maxRecDepth 100000
namespace Go.Proofs.YtklmjdhhnnanoaaGreatDoor
open Go.ChangeShapes Go.WideShapes Go.ChangeAt Go.RowKit
attribute [local go_sem] Gives
def pre (f : Nat → Nat) (m : Nat) (b : Bool) : Array Value := row 10 fun j => if j < 8 then .int .u32 (f j : Nat) else if j = 8 then .int .i64 m else .bool b
theorem size_pre {f : Nat → Nat} {m : Nat} {b : Bool} : (pre f m b).size = 10 := size_row
theorem pre_one {f : Nat → Nat} {m : Nat} {b : Bool} : (pre f m b).all (·.oneCell') = true := row_one fun k _ => by
  by_cases h : k < 8
  · simp only [h, if_true]; rfl
  · simp only [h, if_false]
    by_cases h2 : k = 8
    · simp only [h2, if_true]; rfl
    · simp only [h2, if_false]; rfl
theorem info_pre : (Tryz.prog.info? 213).map (·.size) = some 10 := by kernel_rfl
theorem built_pre (f : Nat → Nat) : Tryz.prog.built 213 [(0, .agg (num8 f)), (2, .bool true)] = some (pre f 0 true) := by kernel_rfl
theorem built_pre3 (f : Nat → Nat) (m : Nat) : Tryz.prog.built 213 [(0, .agg (num8 f)), (1, .int .i64 m), (2, .bool true)] = some (pre f m true) := by kernel_rfl
theorem zlit_pre : (#[.int .u32 0, .int .u32 0, .int .u32 0, .int .u32 0, .int .u32 0, .int .u32 0, .int .u32 0, .int .u32 0, .int .i64 0, .bool false] : Array Value) = pre (fun _ => 0) 0 false := by rfl
section
variable {ops : Array Oper} {Q : Exit → Act → World → Prop} {a : Act} {w : World} {rest : List Oper} {dst : Option Tmp} {ty : TypeId} {pos : String} {after : Array Edge} {x y : Operand} {g m m0 : Nat} {f f0 : Nat → Nat} {b b0 : Bool}
theorem ldp (hx : a.eval x = .pointer (some ⟨g, 0, none⟩)) (hb : Blk w g 213 (pre f m b)) (h : wpList Tryz.prog ops Q rest (a.put dst (.agg (pre f m b))) w) :
    wpList Tryz.prog ops Q (⟨dst, .load 213 x, ty, pos, after, none⟩ :: rest) a w :=
  step_load_row hb Tryz.underlying213 rfl (info_pre.trans (by rw [size_pre])) hx h
theorem stp (hx : a.eval x = .pointer (some ⟨g, 0, none⟩)) (hy : a.eval y = .agg (pre f m b)) (hb : Blk w g 213 (pre f0 m0 b0)) (h : wpList Tryz.prog ops Q rest (a.put dst undef) (w.setRow g (pre f m b))) :
    wpList Tryz.prog ops Q (⟨dst, .store 213 x y, ty, pos, after, none⟩ :: rest) a w :=
  step_store_row hb (info_pre.trans (by rw [size_pre])) (by rw [size_pre, size_pre]) pre_one hx hy h
theorem bldp (hy : a.eval x = .agg (num8 f)) (h : wpList Tryz.prog ops Q rest (a.put dst (.agg (pre f 0 true))) w) :
    wpList Tryz.prog ops Q (⟨dst, .build 213 #[(0, x), (2, .const (.bool true))], ty, pos, after, none⟩ :: rest) a w := by
  refine wpList_plain rfl fun K hK => ?_
  have hr := run_build (P := Tryz.prog) w 213 #[(0, a.eval x), (2, .bool true)] _ (by rw [hy]; exact built_pre f)
  have he : a.eval (.const (.bool true)) = .bool true := rfl
  unfold Oper.wp
  simp [execOp, he, hr, Result.andThen]
  exact hK _ _ h
theorem klnm {C : World → Prop} {Qk : Act → Prop} {gd : Option (Nat × Bool)} {o : Nat} (hwt : Region.wanted ⟨dst, .load 211 x, ty, pos, after, gd⟩ (yielded ops a.tmps) = true) (hx : a.eval x = .pointer (some ⟨g, o, none⟩)) (hb : ∀ w, C w → w.rangeAt g o (num8 f).toList) (h : wpK Tryz.prog ops C Qk rest (a.put dst (.agg (num8 f)))) :
    wpK Tryz.prog ops C Qk (⟨dst, .load 211 x, ty, pos, after, gd⟩ :: rest) a :=
  wpK_val hwt (fun w hw => gives_value (w' := w) (by
    have := run_loadAt_mid (P := Tryz.prog) w g o 211 (num8 f).toList _ (hb w hw) Tryz.underlying211 rfl (info_num8.trans (by rw [Array.length_toList, size_num8]))
    rw [Array.toArray_toList] at this
    simp only [execOp, hx, Sem.run_bind, this, Result.andThen_ok, Sem.run_pure]) hw) h
set_option maxRecDepth 100000 in
theorem bldp3 {C : World → Prop} {Qk : Act → Prop} {gd : Option (Nat × Bool)} {c : Operand} (hwt : Region.wanted ⟨dst, .build 213 #[(0, x), (1, y), (2, c)], ty, pos, after, gd⟩ (yielded ops a.tmps) = true) (hx : a.eval x = .agg (num8 f)) (hy : a.eval y = .int .i64 m) (hc : a.eval c = .bool true)
    (h : wpK Tryz.prog ops C Qk rest (a.put dst (.agg (pre f m true)))) : wpK Tryz.prog ops C Qk (⟨dst, .build 213 #[(0, x), (1, y), (2, c)], ty, pos, after, gd⟩ :: rest) a :=
  wpK_val hwt (fun w hw => by
    have hr := run_build (P := Tryz.prog) w 213 #[(0, a.eval x), (1, a.eval y), (2, a.eval c)] _ (by rw [hx, hy, hc]; exact built_pre3 f m)
    refine gives_value (w' := w) ?_ hw
    simp [execOp, hr, Result.andThen]) h
end
set_option maxHeartbeats 400000 in
set_option maxRecDepth 100000 in
theorem start_any (w : World) :
    Calls Tryz.prog 178 #[] w fun e w' => e = .returned (.agg (pre ShaM.seeds.get 0 true)) ∧ Below w.heap.size w w' := by
  go_enter Tryz.func178, Tryz.ntmps178
  go_upto_region 1 with fail
  generalize hw3 : World.alloc w _ = w3
  have b1 : Blk w3 w.heap.size 213 (pre (fun _ => 0) 0 false) := by rw [← hw3]; exact Blk.top zlit_pre rfl
  have hb : Below w.heap.size w w3 := by rw [← hw3]; exact (Below.refl _ _).alloc (Nat.le_refl _) _
  have hz := b1.lt
  clear hw3
  go_upto_region 2 with fail
  generalize hw4 : World.alloc w3 _ = w4
  have c2 : Blk w4 w3.heap.size 211 (num8 ShaM.seeds.get) := by rw [← hw4]; exact Blk.top (by rfl) rfl
  have c1 : Blk w4 w.heap.size 213 (pre (fun _ => 0) 0 false) := by rw [← hw4]; exact b1.alloc _
  have cb : Below w.heap.size w w4 := by rw [← hw4]; exact hb.alloc (by omega) _
  clear hw4 b1 hb
  go_wp2_with (first | ((with_reducible apply ldn); rfl; exact c2) | ((with_reducible apply bldp); rfl) | ((with_reducible apply stp); rfl; rfl; exact c1))
  apply ret_row Tryz.results178
  · exact c1.setRow_same _
  · exact Tryz.underlying213
  · rfl
  · exact (info_pre.trans (by rw [size_pre]))
  · rfl
  · rfl
  exact ⟨rfl, below_setRow cb (Nat.le_refl _) _⟩
section
variable {a : Act} {w : World} {g m : Nat} {f : Nat → Nat} {b : Bool}
theorem run_pre_var {t : TypeId} (hb : Blk w g t (pre f m b)) : (loadVar 213 ⟨g, 0, none⟩).run Tryz.prog w = .ok (.agg (pre f m b)) w :=
  run_loadVar_row w g t 213 (pre f m b) (0, 0) _ hb Tryz.underlying213 rfl (info_pre.trans (by rw [size_pre]))
theorem ret_pre2 {fn : Func} {R : Ending → World → Prop} {p t : Tmp} {v : Value} (hr : fn.results = #[.cell p 213, .tmp t]) (hp : a.tmps.getD p undef = .pointer (some ⟨g, 0, none⟩)) (ht : a.tmps.getD t undef = v)
    (hdf : a.defers = []) (hb : Blk w g 213 (pre f m b)) (hR : R (.returned (.tuple #[.agg (pre f m b), v])) w) : bodyPost Tryz.prog fn R .ret a w := by
  refine bodyPost_ret ?_ hdf hR
  have hp' : a.tmps[p]?.getD undef = .pointer (some ⟨g, 0, none⟩) := by simpa using hp
  have ht' : a.tmps[t]?.getD undef = v := by simpa using ht
  simp [results, hr, hp', ht', asAddr, run_pre_var hb]
theorem Blk.pre8 {t : TypeId} (hb : Blk w g t (pre f m b)) : w.cell? ⟨g, 8, none⟩ = some (.int .i64 m) := by
  rw [hb.cell]; unfold pre; rw [get_row_lt (by omega), if_neg (by omega), if_pos rfl]
theorem Blk.pre9 {t : TypeId} (hb : Blk w g t (pre f m b)) : w.cell? ⟨g, 9, none⟩ = some (.bool b) := by
  rw [hb.cell]; unfold pre; rw [get_row_lt (by omega), if_neg (by omega), if_neg (by omega)]
theorem Blk.pre0 {t : TypeId} (hb : Blk w g t (pre f m b)) : w.rangeAt g 0 (num8 f).toList := fun j v hj => by
  have hj8 : j < 8 := by have := (List.getElem?_eq_some_iff.1 hj).1; rwa [Array.length_toList, size_num8] at this
  rw [Array.getElem?_toList, get_num8 hj8] at hj
  rw [Nat.zero_add, hb.cell]
  unfold pre
  rw [get_row_lt (by omega), if_pos hj8]
  exact hj
end
set_option maxHeartbeats 400000 in
set_option maxRecDepth 100000 in
theorem more_ok (s : ShaM.S8) (hs : s.ok) (A : Option Addr) (l : List Nat) (n cap m : Nat) (hl : l.length = n) (hn : n % 64 = 0) (hc : n ≤ cap) (hm : cap ≤ maxLen) (hz : m + n ≤ 1000000000000000) (hb : B256 l) (w : World) (hA : Byt w w.heap.size A l) (hS : Salts w) :
    Calls Tryz.prog 179 #[.agg (pre s.get m true), .slice A n cap] w fun e w' => e = .returned (.tuple #[.agg (pre (ShaM.passes s l).get (m + n) true), .int .i64 0]) ∧ Below w.heap.size w w' := by
  have HS := hid hs
  have HB := hid hb
  have HA := hid hA
  have SA := hid hS
  have HL := hid hl
  clear hs hb hA hS hl
  go_enter Tryz.func179, Tryz.ntmps179
  go_upto_region 1 with fail
  generalize hw3 : World.alloc (World.alloc w _) _ = w3
  have b1 : Blk w3 w.heap.size 213 (pre s.get m true) := by rw [← hw3]; exact (Blk.top rfl rfl).alloc _
  have b2 : Blk w3 (w.heap.size + 1) 213 (pre (fun _ => 0) 0 false) := by rw [← hw3]; exact Blk.top zlit_pre (by simp)
  have hb : Below w.heap.size w w3 := by rw [← hw3]; exact ((Below.refl _ _).alloc (Nat.le_refl _) _).alloc (by simp) _
  clear hw3
  have c9 := b1.pre9
  have t0 : ((n : Int) % 64 != 0) = false := by rw [bne_eq_false_iff_eq]; omega
  have e1 : IntKind.i64.wrap ((m : Int) + (n : Int)) = ((m + n : Nat) : Int) := wr_nat (by omega) (by omega)
  have B1 := hid b1
  have B2 := hid b2
  have BEL := hid hb
  have E1 := hid e1
  clear b1 b2 hb hn e1
  go_wp2_with fail
  refine wp_region_tail (C := fun w' => Below w3.heap.size w3 w') 10 (by kernel_rfl) (by kernel_rfl) (by kernel_rfl) (Below.refl _ _).drew ?_
  simp only [List.take_succ_cons, List.take_zero, List.drop_succ_cons, List.drop_zero]
  apply wpK_val
  · rfl
  · intro w' hw'
    go_simp
    first | exact rfl | exact ⟨rfl, hw'⟩
  simp only [Act.put, sqA, sqB, sqC]
  apply klnm
  · rfl
  · rfl
  · exact fun w' hw' => (B1.out.below hw' B1.out.lt).pre0
  simp only [Act.put, sqA, sqB, sqC]
  apply wpK_val
  · rfl
  · intro w' hw'
    go_simp
    first | exact rfl | exact ⟨rfl, hw'⟩
  simp only [Act.put, sqA, sqB, sqC]
  apply wpK_val
  · rfl
  · intro w' hw'
    go_simp
    exact (passes_any s HS.out A l n cap HL.out hc hm HB.out _ ((HA.out.below (BEL.out.trans (hw'.mono BEL.out.size)) (Nat.le_refl _)).more (Nat.le_trans BEL.out.size hw'.size)) (SA.out.on (BEL.out.trans (hw'.mono BEL.out.size)))).mono fun e w'' ⟨he, hb''⟩ => ⟨he, hw'.trans (hb''.mono hw'.size)⟩
  simp only [Act.put, sqA, sqB, sqC]
  apply wpK_val
  · rfl
  · intro w' hw'
    go_simp
    first | exact rfl | exact ⟨rfl, hw'⟩
  simp only [Act.put, sqA, sqB, sqC]
  apply wpK_val
  · rfl
  · intro w' hw'
    have hcell := (B1.out.below hw' B1.out.lt).pre8
    go_simp
    first | exact rfl | exact ⟨rfl, hw'⟩
  simp only [Act.put, sqA, sqB, sqC]
  apply wpK_val
  · rfl
  · intro w' hw'
    go_simp
    first | exact rfl | exact ⟨rfl, hw'⟩
  simp only [Act.put, sqA, sqB, sqC]
  apply wpK_val
  · rfl
  · intro w' hw'
    go_simp
    first | exact rfl | exact ⟨rfl, hw'⟩
  simp only [Act.put, sqA, sqB, sqC]
  apply wpK_val
  · rfl
  · intro w' hw'
    have h1 : _ := E1.out
    go_simp
    first | exact rfl | exact ⟨rfl, hw'⟩
  simp only [Act.put, sqA, sqB, sqC]
  apply bldp3
  · rfl
  · rfl
  · rfl
  · rfl
  simp only [Act.put, sqA, sqB, sqC]
  refine wpK_nil fun w4 hw4 => ?_
  have c2 := B2.out.below hw4 B2.out.lt
  have cb := BEL.out.trans (hw4.mono BEL.out.size)
  go_wp2_with ((with_reducible apply stp); rfl; rfl; exact c2)
  apply ret_pre2 Tryz.results179
  · rfl
  · rfl
  · rfl
  · exact c2.setRow_same _
  exact ⟨rfl, below_setRow cb (by omega) _⟩
end Go.Proofs.YtklmjdhhnnanoaaGreatDoor
