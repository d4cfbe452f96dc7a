/-
  SHA-256 in plain numbers: what one step, one pass and all passes make; nothing of the program stands here.
-/
namespace Go.Proofs.YtnnhnlabkbjacaaDoor.ShaM
/-- The n lowest bits come to the top. -/
def rr (x n : Nat) : Nat := (x * 2 ^ (32 - n)) % 4294967296 ||| x / 2 ^ n
def add (a b : Nat) : Nat := (a + b) % 4294967296
def not32 (x : Nat) : Nat := 4294967295 - x
structure S8 where
  a : Nat
  b : Nat
  c : Nat
  d : Nat
  e : Nat
  f : Nat
  g : Nat
  h : Nat
deriving DecidableEq
def S8.get (s : S8) : Nat → Nat
  | 0 => s.a
  | 1 => s.b
  | 2 => s.c
  | 3 => s.d
  | 4 => s.e
  | 5 => s.f
  | 6 => s.g
  | 7 => s.h
  | _ => 0
def S8.ok (s : S8) : Prop := s.a < 4294967296 ∧ s.b < 4294967296 ∧ s.c < 4294967296 ∧ s.d < 4294967296 ∧ s.e < 4294967296 ∧ s.f < 4294967296 ∧ s.g < 4294967296 ∧ s.h < 4294967296
theorem S8.get_lt {s : S8} (h : s.ok) : ∀ k, s.get k < 4294967296
  | 0 => h.1
  | 1 => h.2.1
  | 2 => h.2.2.1
  | 3 => h.2.2.2.1
  | 4 => h.2.2.2.2.1
  | 5 => h.2.2.2.2.2.1
  | 6 => h.2.2.2.2.2.2.1
  | 7 => h.2.2.2.2.2.2.2
  | _ + 8 => by simp [S8.get]
theorem S8.eq_get {s t : S8} (h : ∀ k, k < 8 → s.get k = t.get k) : s = t := by
  cases s; cases t
  have h0 := h 0 (by omega); have h1 := h 1 (by omega); have h2 := h 2 (by omega); have h3 := h 3 (by omega)
  have h4 := h 4 (by omega); have h5 := h 5 (by omega); have h6 := h 6 (by omega); have h7 := h 7 (by omega)
  simp only [S8.get] at h0 h1 h2 h3 h4 h5 h6 h7
  subst h0 h1 h2 h3 h4 h5 h6 h7
  rfl
/-- p and q of a step; x: salt and message's number. -/
def pOf (s : S8) (x : Nat) : Nat := add (add (add s.h (rr s.e 6 ^^^ rr s.e 11 ^^^ rr s.e 25)) ((s.e &&& s.f) ^^^ (not32 s.e &&& s.g))) x
def qOf (s : S8) : Nat := add (rr s.a 2 ^^^ rr s.a 13 ^^^ rr s.a 22) ((s.a &&& s.b) ^^^ (s.a &&& s.c) ^^^ (s.b &&& s.c))
def step (s : S8) (x : Nat) : S8 := ⟨add (pOf s x) (qOf s), s.a, s.b, s.c, add s.d (pOf s x), s.e, s.f, s.g⟩
theorem add_lt (a b : Nat) : add a b < 4294967296 := Nat.mod_lt _ (by omega)
theorem step_ok {s : S8} (h : s.ok) (x : Nat) : (step s x).ok := ⟨add_lt _ _, h.1, h.2.1, h.2.2.1, add_lt _ _, h.2.2.2.2.1, h.2.2.2.2.2.1, h.2.2.2.2.2.2.1⟩
theorem rr_lt {x : Nat} (h : x < 4294967296) (n : Nat) : rr x n < 4294967296 := by
  unfold rr
  exact Nat.or_lt_two_pow (n := 32) (Nat.mod_lt _ (by omega)) (Nat.lt_of_le_of_lt (Nat.div_le_self _ _) h)
/-- The number of four bytes. -/
def word (b : Nat → Nat) (j : Nat) : Nat := ((b (4 * j) * 256 + b (4 * j + 1)) * 256 + b (4 * j + 2)) * 256 + b (4 * j + 3)
def l0 (x : Nat) : Nat := rr x 7 ^^^ rr x 18 ^^^ (x / 8)
def l1 (x : Nat) : Nat := rr x 17 ^^^ rr x 19 ^^^ (x / 1024)
/-- The next number of the message. -/
def next (m : List Nat) (n : Nat) : Nat := add (add (add (m.getD (n - 16) 0) (l0 (m.getD (n - 15) 0))) (m.getD (n - 7) 0)) (l1 (m.getD (n - 2) 0))
def ext : Nat → List Nat → List Nat
  | 0, m => m
  | k + 1, m => ext k (m ++ [next m m.length])
def first (b : Nat → Nat) : List Nat := (List.range 16).map (word b)
def sched (b : Nat → Nat) : List Nat := ext 48 (first b)
theorem ext_succ : ∀ (k : Nat) (m : List Nat), ext (k + 1) m = ext k m ++ [next (ext k m) (ext k m).length]
  | 0, m => rfl
  | k + 1, m => by rw [ext, ext_succ k]; rfl
theorem ext_length : ∀ (k : Nat) (m : List Nat), (ext k m).length = m.length + k
  | 0, m => rfl
  | k + 1, m => by rw [ext_succ, List.length_append, ext_length k]; simp; omega
theorem first_length (b : Nat → Nat) : (first b).length = 16 := by simp [first]
theorem sched_length (b : Nat → Nat) : (sched b).length = 64 := (ext_length 48 (first b)).trans (by rw [first_length])
theorem ext_get_old (k : Nat) (m : List Nat) (i : Nat) (h : i < m.length + k) : (ext (k + 1) m).getD i 0 = (ext k m).getD i 0 := by
  rw [ext_succ, List.getD_eq_getElem?_getD, List.getD_eq_getElem?_getD, List.getElem?_append_left (by rw [ext_length]; exact h)]
theorem getD_last (l : List Nat) (x : Nat) : (l ++ [x]).getD l.length 0 = x := by
  rw [List.getD_eq_getElem?_getD, List.getElem?_append_right (Nat.le_refl _), Nat.sub_self]; rfl
theorem ext_get_new (k : Nat) (m : List Nat) : (ext (k + 1) m).getD (m.length + k) 0 = next (ext k m) (m.length + k) := by
  have h := getD_last (ext k m) (next (ext k m) (ext k m).length)
  rw [← ext_succ, ext_length] at h
  exact h
theorem first_get (b : Nat → Nat) {j : Nat} (h : j < 16) : (first b).getD j 0 = word b j := by
  simp [first, h]
theorem word_lt {b : Nat → Nat} (hb : ∀ k, b k < 256) (j : Nat) : word b j < 4294967296 := by
  have h0 := hb (4 * j); have h1 := hb (4 * j + 1); have h2 := hb (4 * j + 2); have h3 := hb (4 * j + 3)
  unfold word; omega
theorem getD_lt {m : List Nat} {M : Nat} (h0 : 0 < M) (h : ∀ x ∈ m, x < M) (i : Nat) : m.getD i 0 < M := by
  rw [List.getD_eq_getElem?_getD]
  cases e : m[i]? with
  | none => simpa using h0
  | some x => exact h x (List.mem_of_getElem? e)
theorem ext_lt : ∀ (k : Nat) {m : List Nat}, (∀ x ∈ m, x < 4294967296) → ∀ x ∈ ext k m, x < 4294967296
  | 0, _, h => h
  | k + 1, m, h => by
    rw [ext_succ]
    intro x hx
    rcases List.mem_append.1 hx with hx | hx
    · exact ext_lt k h x hx
    · rw [List.mem_singleton.1 hx]; exact add_lt _ _
theorem first_lt {b : Nat → Nat} (hb : ∀ k, b k < 256) : ∀ x ∈ first b, x < 4294967296 := by
  intro x hx
  obtain ⟨j, _, rfl⟩ := List.mem_map.1 hx
  exact word_lt hb j
theorem sched_lt {b : Nat → Nat} (hb : ∀ k, b k < 256) (i : Nat) : (sched b).getD i 0 < 4294967296 := getD_lt (by omega) (ext_lt 48 (first_lt hb)) i
/-- The salts. -/
def salts : List Nat := [1116352408, 1899447441, 3049323471, 3921009573, 961987163, 1508970993, 2453635748, 2870763221, 3624381080, 310598401, 607225278, 1426881987, 1925078388, 2162078206, 2614888103, 3248222580, 3835390401, 4022224774, 264347078, 604807628, 770255983, 1249150122, 1555081692, 1996064986, 2554220882, 2821834349, 2952996808, 3210313671, 3336571891, 3584528711, 113926993, 338241895, 666307205, 773529912, 1294757372, 1396182291, 1695183700, 1986661051, 2177026350, 2456956037, 2730485921, 2820302411, 3259730800, 3345764771, 3516065817, 3600352804, 4094571909, 275423344, 430227734, 506948616, 659060556, 883997877, 958139571, 1322822218, 1537002063, 1747873779, 1955562222, 2024104815, 2227730452, 2361852424, 2428436474, 2756734187, 3204031479, 3329325298]
def saltAt (n : Nat) : Nat := salts.getD n 0
theorem salt_lt (n : Nat) : saltAt n < 4294967296 := getD_lt (by omega) (by decide) n
/-- The first n steps of a pass. -/
def steps (m : List Nat) : Nat → S8 → S8
  | 0, s => s
  | n + 1, s => step (steps m n s) (add (saltAt n) (m.getD n 0))
theorem steps_ok (m : List Nat) {s : S8} (h : s.ok) : ∀ n, (steps m n s).ok
  | 0 => h
  | n + 1 => step_ok (steps_ok m h n) _
def addS (s t : S8) : S8 := ⟨add s.a t.a, add s.b t.b, add s.c t.c, add s.d t.d, add s.e t.e, add s.f t.f, add s.g t.g, add s.h t.h⟩
theorem addS_get (s t : S8) {k : Nat} (h : k < 8) : (addS s t).get k = add (s.get k) (t.get k) := by
  match k, h with
  | 0, _ | 1, _ | 2, _ | 3, _ | 4, _ | 5, _ | 6, _ | 7, _ => rfl
def pass (s : S8) (b : Nat → Nat) : S8 := addS (steps (sched b) 64 s) s
theorem addS_ok (s t : S8) : (addS s t).ok := ⟨add_lt _ _, add_lt _ _, add_lt _ _, add_lt _ _, add_lt _ _, add_lt _ _, add_lt _ _, add_lt _ _⟩
theorem pass_ok (s : S8) (b : Nat → Nat) : (pass s b).ok := addS_ok _ _
theorem next_congr {m : List Nat} {n : Nat} {m' : List Nat} (h : ∀ i, i < n → m.getD i 0 = m'.getD i 0) (hn : 16 ≤ n) : next m n = next m' n := by
  unfold next
  rw [h (n - 16) (by omega), h (n - 15) (by omega), h (n - 7) (by omega), h (n - 2) (by omega)]
/-! ### The first 16 numbers, as they come up byte by byte -/
def acc (b : Nat → Nat) (o : Nat) : Nat → Nat
  | 0 => 0
  | c + 1 => acc b o c * 256 + b (o + c)
theorem acc_lt {b : Nat → Nat} (hb : ∀ k, b k < 256) (o : Nat) : ∀ c, acc b o c < 256 ^ c
  | 0 => by simp [acc]
  | c + 1 => by
    have h1 := acc_lt hb o c
    have h2 := hb (o + c)
    rw [acc, Nat.pow_succ]
    omega
def part (b : Nat → Nat) (k j : Nat) : Nat := acc b (4 * j) (min (k - 4 * j) 4)
theorem part_zero (b : Nat → Nat) (j : Nat) : part b 0 j = 0 := by unfold part; rw [Nat.zero_sub, Nat.zero_min]; rfl
theorem part_step {b : Nat → Nat} (hb : ∀ k, b k < 256) (k j : Nat) :
    part b (k + 1) j = if j = k / 4 then (part b k j * 256) % 4294967296 ||| b k else part b k j := by
  unfold part
  by_cases h : j = k / 4
  · rw [if_pos h]
    obtain ⟨r, hr, rfl⟩ : ∃ r, r < 4 ∧ k = 4 * j + r := ⟨k % 4, Nat.mod_lt _ (by omega), by omega⟩
    rw [show min (4 * j + r - 4 * j) 4 = r by omega, show min (4 * j + r + 1 - 4 * j) 4 = r + 1 by omega, acc]
    have h1 := acc_lt hb (4 * j) r
    have h2 : 256 ^ r ≤ 16777216 := Nat.le_trans (Nat.pow_le_pow_right (by omega) (show r ≤ 3 by omega)) (by decide)
    rw [Nat.mod_eq_of_lt (by omega)]
    have h3 := Nat.shiftLeft_add_eq_or_of_lt (i := 8) (hb (4 * j + r)) (acc b (4 * j) r)
    rw [Nat.shiftLeft_eq] at h3
    exact h3
  · rw [if_neg h]
    congr 1
    omega
theorem part_full (b : Nat → Nat) {j : Nat} (h : j < 16) : part b 64 j = word b j := by
  unfold part
  rw [show min (64 - 4 * j) 4 = 4 by omega]
  simp [acc, word]
theorem part_none (b : Nat → Nat) {j : Nat} (h : 16 ≤ j) : part b 64 j = 0 := by
  unfold part
  rw [show min (64 - 4 * j) 4 = 0 by omega]; rfl
theorem first_part (b : Nat → Nat) (j : Nat) : (first b).getD j 0 = part b 64 j := by
  rcases Nat.lt_or_ge j 16 with h | h
  · rw [first_get b h, part_full b h]
  · rw [part_none b h, List.getD_eq_getElem?_getD, List.getElem?_eq_none (by rw [first_length]; exact h)]; rfl
theorem part_lt {b : Nat → Nat} (hb : ∀ k, b k < 256) (k j : Nat) : part b k j < 4294967296 := by
  unfold part
  have h1 := acc_lt hb (4 * j) (min (k - 4 * j) 4)
  have h2 : 256 ^ (min (k - 4 * j) 4) ≤ 256 ^ 4 := Nat.pow_le_pow_right (by omega) (Nat.min_le_right _ _)
  have h3 : 256 ^ 4 = 4294967296 := by decide
  omega
/-- The numbers of the message, as far as n. -/
def upM (b : Nat → Nat) (k j : Nat) : Nat := (ext k (first b)).getD j 0
theorem upM_step (b : Nat → Nat) (k j : Nat) : upM b (k + 1) j = if j = 16 + k then next (ext k (first b)) (16 + k) else upM b k j := by
  unfold upM
  have hl : (first b).length = 16 := first_length b
  by_cases h : j = 16 + k
  · rw [if_pos h, h, ← hl]; exact ext_get_new k (first b)
  · rw [if_neg h]
    rcases Nat.lt_or_ge j (16 + k) with h2 | h2
    · exact ext_get_old k (first b) j (by omega)
    · rw [List.getD_eq_getElem?_getD, List.getD_eq_getElem?_getD, List.getElem?_eq_none (by rw [ext_length]; omega), List.getElem?_eq_none (by rw [ext_length]; omega)]
theorem upM_lt {b : Nat → Nat} (hb : ∀ k, b k < 256) (k j : Nat) : upM b k j < 4294967296 := getD_lt (by omega) (ext_lt k (first_lt hb)) j
theorem next_upM (b : Nat → Nat) (k : Nat) : next (ext k (first b)) (16 + k) = add (add (add (upM b k k) (l0 (upM b k (k + 1)))) (upM b k (k + 9))) (l1 (upM b k (k + 14))) := by
  unfold next upM
  rw [show 16 + k - 16 = k by omega, show 16 + k - 15 = k + 1 by omega, show 16 + k - 7 = k + 9 by omega, show 16 + k - 2 = k + 14 by omega]
/-- Bytes of a list, one by one. -/
def at' (l : List Nat) (k : Nat) : Nat := l.getD k 0
/-- All passes over whole 64s. -/
def passes (s : S8) (l : List Nat) : S8 := if _h : 64 ≤ l.length then passes (pass s (at' l)) (l.drop 64) else s
termination_by l.length
decreasing_by simp; omega
theorem passes_short {s : S8} {l : List Nat} (h : l.length < 64) : passes s l = s := by rw [passes, dif_neg (by omega)]
theorem passes_long {s : S8} {l : List Nat} (h : 64 ≤ l.length) : passes s l = passes (pass s (at' l)) (l.drop 64) := by rw [passes, dif_pos h]
theorem word_congr {b b' : Nat → Nat} (h : ∀ k, k < 64 → b k = b' k) {j : Nat} (hj : j < 16) : word b j = word b' j := by
  unfold word; rw [h _ (by omega), h _ (by omega), h _ (by omega), h _ (by omega)]
theorem first_congr {b b' : Nat → Nat} (h : ∀ k, k < 64 → b k = b' k) : first b = first b' :=
  List.map_congr_left fun _ hj => word_congr h (List.mem_range.1 hj)
theorem pass_congr (s : S8) {b b' : Nat → Nat} (h : ∀ k, k < 64 → b k = b' k) : pass s b = pass s b' := by unfold pass sched; rw [first_congr h]
theorem passes_append {l : List Nat} (n : Nat) : ∀ {s : S8} {k : List Nat}, k.length = 64 * n → passes s (k ++ l) = passes (passes s k) l := by
  induction n with
  | zero => intro s k hk; obtain rfl : k = [] := List.eq_nil_of_length_eq_zero (by omega); rw [passes_short (l := []) (by simp)]; rfl
  | succ n ih =>
    intro s k hk
    rw [passes_long (l := k ++ l) (by simp; omega), passes_long (l := k) (by omega), List.drop_append_of_le_length (by omega), ih (by simp; omega),
      pass_congr s fun i hi => ?_]
    unfold at'
    rw [List.getD_eq_getElem?_getD, List.getD_eq_getElem?_getD, List.getElem?_append_left (by omega)]
/-- The seeds. -/
def seeds : S8 := ⟨1779033703, 3144134277, 1013904242, 2773480762, 1359893119, 2600822924, 528734635, 1541459225⟩
theorem seeds_ok : seeds.ok := by unfold S8.ok seeds; decide
theorem passes_ok {l : List Nat} (n : Nat) : ∀ {s : S8}, l.length ≤ n → s.ok → (passes s l).ok := by
  induction n generalizing l with
  | zero => intro s hl h; rw [passes_short (by omega)]; exact h
  | succ n ih =>
    intro s hl h
    by_cases hc : 64 ≤ l.length
    · rw [passes_long hc]; exact ih (by simp; omega) (pass_ok _ _)
    · rw [passes_short (by omega)]; exact h
/-- Eight bytes of a number, the highest first. -/
def count8 (x : Nat) : List Nat := (List.range 8).map fun i => x / 2 ^ (8 * (7 - i)) % 256
/-- How many bytes 0 a tail of n bytes has. -/
def zeros (n : Nat) : Nat := (64 - (n + 9) % 64) % 64
def tail (n : Nat) : List Nat := 128 :: (List.replicate (zeros n) 0 ++ count8 (8 * n))
theorem tail_length (n : Nat) : (tail n).length = 9 + zeros n := by simp [tail, count8]; omega
theorem tail_whole (n : Nat) : (n + (tail n).length) % 64 = 0 := by rw [tail_length]; unfold zeros; omega
/-- A digest's bytes. -/
def digest (s : S8) (j : Nat) : Nat := s.get (j / 4) / 2 ^ (8 * (3 - j % 4)) % 256
theorem digest_lt (s : S8) (j : Nat) : digest s j < 256 := Nat.mod_lt _ (by omega)
/-- The numbers of bytes that go on behind so many whole ones. -/
def ended (s : S8) (size : Nat) (rest : List Nat) : S8 := passes s (rest ++ tail (size + rest.length))
def sum (l : List Nat) : Nat → Nat := digest (ended seeds 0 l)
/-- What stands behind whole blocks may be gone through at once. -/
theorem ended_append {a r : List Nat} {s : S8} {size n : Nat} (ha : a.length = 64 * n) : ended s size (a ++ r) = ended (passes s a) (size + a.length) r := by
  unfold ended
  rw [List.append_assoc, passes_append n ha, List.length_append, Nat.add_assoc]
/-! ### The last block, or the last two -/
/-- What lies there when i of the count's bytes are laid: the bytes l that were left, the mark, and those. -/
def fin (l : List Nat) (size L i j : Nat) : Nat :=
  if j < l.length then l.getD j 0 else if j = l.length then 128 else if L - i ≤ j ∧ j < L then 8 * size / 2 ^ (8 * (L - 1 - j)) % 256 else 0
theorem fin_step (l : List Nat) {size L i c : Nat} (hn : l.length < L - 8) (hi : i < 8) (hc : c + i + 1 = L) :
    (fun j => if j = c then 8 * size / 2 ^ (8 * i) % 256 else fin l size L i j) = fin l size L (i + 1) := funext fun j => by
  unfold fin
  by_cases h : j = c
  · rw [if_pos h, if_neg (by omega), if_neg (by omega), if_pos (by omega), show L - 1 - j = i by omega]
  · rw [if_neg h]
    by_cases h1 : j < l.length
    · rw [if_pos h1, if_pos h1]
    · rw [if_neg h1, if_neg h1]
      by_cases h2 : j = l.length
      · rw [if_pos h2, if_pos h2]
      · rw [if_neg h2, if_neg h2]
        by_cases h3 : L - i ≤ j ∧ j < L
        · rw [if_pos h3, if_pos (by omega)]
        · rw [if_neg h3, if_neg (by omega)]
theorem fin_zero (l : List Nat) (size L : Nat) : (fun j => if j = l.length then 128 else if j < l.length then l.getD j 0 else 0) = fin l size L 0 := funext fun j => by
  unfold fin
  by_cases h : j = l.length
  · rw [if_pos h, if_neg (by omega), if_pos h]
  · rw [if_neg h]
    by_cases h1 : j < l.length
    · rw [if_pos h1, if_pos h1]
    · rw [if_neg h1, if_neg h1, if_neg h, if_neg (by omega)]
theorem count8_get (x : Nat) {i : Nat} (h : i < 8) : (count8 x).getD i 0 = x / 2 ^ (8 * (7 - i)) % 256 := by
  rw [count8, List.getD_eq_getElem?_getD, List.getElem?_map, List.getElem?_range h]; rfl
theorem ended_length {l : List Nat} {size L : Nat} (hs : size % 64 = l.length) (h : L = if l.length + 9 ≤ 64 then 64 else 128) : (l ++ tail size).length = L := by
  rw [List.length_append, tail_length]
  unfold zeros
  split at h <;> omega
theorem ended_get {l : List Nat} {size L : Nat} (hs : size % 64 = l.length) (h : L = if l.length + 9 ≤ 64 then 64 else 128) {j : Nat} (hj : j < L) : (l ++ tail size).getD j 0 = fin l size L 8 j := by
  have hz : l.length + 1 + zeros size = L - 8 := by unfold zeros; split at h <;> omega
  unfold fin
  rw [List.getD_eq_getElem?_getD]
  by_cases h1 : j < l.length
  · rw [if_pos h1, List.getElem?_append_left h1, List.getD_eq_getElem?_getD]
  · rw [if_neg h1, List.getElem?_append_right (by omega)]
    by_cases h2 : j = l.length
    · rw [if_pos h2, h2, Nat.sub_self]; rfl
    · rw [if_neg h2]
      obtain ⟨m, hm⟩ : ∃ m, j = l.length + (m + 1) := ⟨j - l.length - 1, by omega⟩
      rw [show j - l.length = m + 1 by omega, tail, List.getElem?_cons_succ]
      by_cases h3 : m < zeros size
      · rw [List.getElem?_append_left (by simpa using h3), List.getElem?_replicate, if_pos h3, if_neg (by omega)]; rfl
      · rw [List.getElem?_append_right (by simpa using h3), List.length_replicate, if_pos (by omega), ← List.getD_eq_getElem?_getD, count8_get _ (by omega), show 7 - (m - zeros size) = L - 1 - j by omega]
theorem tail_256 (n : Nat) : ∀ x ∈ tail n, x < 256 := by
  intro x hx
  rw [tail, List.mem_cons, List.mem_append] at hx
  rcases hx with rfl | hx | hx
  · decide
  · rw [(List.mem_replicate.1 hx).2]; decide
  · obtain ⟨i, _, rfl⟩ := List.mem_map.1 hx
    exact Nat.mod_lt _ (by omega)
end Go.Proofs.YtnnhnlabkbjacaaDoor.ShaM
