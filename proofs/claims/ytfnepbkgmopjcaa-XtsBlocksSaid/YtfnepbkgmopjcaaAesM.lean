/-
  AES-256 in plain numbers (no text of the program).
-/
import Derived.Test.YtfnepbkgmopjcaaRows
namespace Go.Proofs.Ytfnepbkgmopjcaa
namespace AesM
def tab (n : Nat) (f : Nat → Nat) : List Nat := (List.range n).map f
theorem length_tab {n : Nat} {f : Nat → Nat} : (tab n f).length = n := by simp [tab]
theorem getD_tab {n : Nat} {f : Nat → Nat} {k : Nat} (h : k < n) : (tab n f).getD k 0 = f k := by
  unfold tab
  rw [List.getD_eq_getElem?_getD, List.getElem?_map, List.getElem?_range h]; rfl
theorem tab_ext {n : Nat} {f g : Nat → Nat} (h : ∀ k, k < n → f k = g k) : tab n f = tab n g := by
  unfold tab
  exact List.map_congr_left fun k hk => h k (List.mem_range.1 hk)
theorem tab_self {n : Nat} {l : List Nat} (h : l.length = n) : tab n (fun k => l.getD k 0) = l := by
  apply List.ext_getElem?
  intro k
  unfold tab
  rw [List.getElem?_map]
  by_cases hk : k < n
  · rw [List.getElem?_range hk, List.getElem?_eq_getElem (by omega)]
    simp [List.getD_eq_getElem?_getD, List.getElem?_eq_getElem (show k < l.length by omega)]
  · rw [List.getElem?_eq_none (by simpa using hk), List.getElem?_eq_none (by omega)]; rfl
/-- Each is a byte. -/
def Bt (f : Nat → Nat) : Prop := ∀ k, f k < 256
def dbl (a : Nat) : Nat := (a * 2 % 256) ^^^ (a / 128 * 27)
theorem xor_lt {a b : Nat} (ha : a < 256) (hb : b < 256) : a ^^^ b < 256 := Nat.xor_lt_two_pow (n := 8) ha hb
theorem dbl_lt {a : Nat} (h : a < 256) : dbl a < 256 := xor_lt (Nat.mod_lt _ (by omega)) (by omega)
/-- n powers of 3, from p on. -/
def pws : Nat → Nat → List Nat
  | 0, _ => []
  | n + 1, p => p :: pws n (p ^^^ dbl p)
def powers : List Nat := pws 255 1
def inv : List Nat := (List.range 255).foldl (fun t n => t.set (powers.getD n 0) (powers.getD ((255 - n) % 255) 0)) (List.replicate 256 0)
def rl (b i : Nat) : Nat := (b * 2 ^ i % 256) ||| (b / 2 ^ (8 - i))
def sb (b : Nat) : Nat := b ^^^ 99 ^^^ rl b 1 ^^^ rl b 2 ^^^ rl b 3 ^^^ rl b 4
def box : List Nat := tab 256 fun a => sb (inv.getD a 0)
def obox : List Nat := (List.range 256).foldl (fun t a => t.set (box.getD a 0) a) (List.replicate 256 0)
def invF (j : Nat) : Nat := inv.getD j 0
def boxF (j : Nat) : Nat := box.getD j 0
def oboxF (j : Nat) : Nat := obox.getD j 0
def add (s k : Nat → Nat) : Nat → Nat := fun i => s i ^^^ k i
def each (s : Nat → Nat) (t : Nat → Nat) : Nat → Nat := fun i => t (s i)
def from' (n : Nat) : Nat := (n + 4 * (n % 4)) % 16
def turn (s : Nat → Nat) : Nat → Nat := fun n => s (from' n)
/-- from' the other way. -/
def goes (n : Nat) : Nat := (n + 12 * (n % 4)) % 16
def back (s : Nat → Nat) : Nat → Nat := fun n => s (goes n)
def mix (s : Nat → Nat) : Nat → Nat := fun n =>
  s n ^^^ (s (n / 4 * 4) ^^^ s (n / 4 * 4 + 1) ^^^ s (n / 4 * 4 + 2) ^^^ s (n / 4 * 4 + 3)) ^^^ dbl (s n ^^^ s (n / 4 * 4 + (n % 4 + 1) % 4))
def mixB (s : Nat → Nat) : Nat → Nat := mix (mix (mix s))
/-- A function as a list of n, and as a function again: what is gone through is reckoned once. -/
def fix (n : Nat) (f : Nat → Nat) : Nat → Nat := let l := tab n f; fun k => l.getD k 0
theorem fix_at {n : Nat} {f : Nat → Nat} {k : Nat} (h : k < n) : fix n f k = f k := getD_tab h
/-- The n-th power of 3. -/
def pw : Nat → Nat
  | 0 => 1
  | n + 1 => pw n ^^^ dbl (pw n)
theorem pw_lt : ∀ n, pw n < 256
  | 0 => by decide
  | n + 1 => xor_lt (pw_lt n) (dbl_lt (pw_lt n))
theorem pws_at : ∀ (n k p m : Nat), p = pw m → k < n → (pws n p).getD k 0 = pw (m + k)
  | 0, k, p, m, _, hk => by omega
  | n + 1, 0, p, m, hp, _ => by rw [pws, hp]; rfl
  | n + 1, k + 1, p, m, hp, hk => by
    rw [pws, List.getD_cons_succ, pws_at n k _ (m + 1) (by rw [hp]; rfl) (by omega), show m + 1 + k = m + (k + 1) by omega]
theorem powers_at {k : Nat} (h : k < 255) : powers.getD k 0 = pw k := by
  unfold powers; rw [pws_at 255 k 1 0 rfl h, Nat.zero_add]
/-- n stores, the m-th of v m at p m. -/
def setTo (p v : Nat → Nat) : Nat → Nat → Nat
  | 0 => fun _ => 0
  | n + 1 => fun j => if j = p n then v n else setTo p v n j
theorem foldl_set {N : Nat} {p v : Nat → Nat} (hp : ∀ m, p m < N) : ∀ (n : Nat), ((List.range n).foldl (fun t m => t.set (p m) (v m)) (List.replicate N 0)).length = N ∧
    ∀ j, j < N → ((List.range n).foldl (fun t m => t.set (p m) (v m)) (List.replicate N 0)).getD j 0 = setTo p v n j
  | 0 => ⟨by simp, fun j hj => by simp [setTo, hj]⟩
  | n + 1 => by
    obtain ⟨h1, h2⟩ := foldl_set (v := v) hp n
    rw [List.range_succ, List.foldl_append, List.foldl_cons, List.foldl_nil]
    refine ⟨by rw [List.length_set, h1], fun j hj => ?_⟩
    rw [List.getD_eq_getElem?_getD, List.getElem?_set]
    show _ = if j = p n then v n else setTo p v n j
    by_cases e : j = p n
    · rw [if_pos e.symm, if_pos (by rw [h1]; exact hp n), if_pos e]; rfl
    · rw [if_neg (Ne.symm e), if_neg e, ← List.getD_eq_getElem?_getD]; exact h2 j hj
theorem foldl_congr {β : Type} {f g : β → Nat → β} : ∀ (l : List Nat) (b : β), (∀ b m, m ∈ l → f b m = g b m) → l.foldl f b = l.foldl g b
  | [], _, _ => rfl
  | x :: l, b, h => by rw [List.foldl_cons, List.foldl_cons, h b x (List.mem_cons_self ..), foldl_congr l _ fun b m hm => h b m (List.mem_cons_of_mem _ hm)]
theorem inv_at {j : Nat} (hj : j < 256) : setTo pw (fun n => pw ((255 - n) % 255)) 255 j = invF j := by
  unfold invF
  rw [← (foldl_set (N := 256) pw_lt 255).2 j hj]
  unfold inv
  refine congrArg (fun l : List Nat => l.getD j 0) (foldl_congr _ _ fun b m hm => ?_)
  rw [List.mem_range] at hm
  rw [powers_at hm, powers_at (Nat.mod_lt _ (by omega))]
theorem goes_from : ∀ n, n < 16 → goes (from' n) = n := by decide
theorem from_goes : ∀ n, n < 16 → from' (goes n) = n := by decide
theorem from_lt (n : Nat) : from' n < 16 := Nat.mod_lt _ (by omega)
theorem goes_lt (n : Nat) : goes n < 16 := Nat.mod_lt _ (by omega)
/-- The sum of the first i turned ones. -/
def acc (b : Nat) : Nat → Nat
  | 0 => b ^^^ 99
  | i + 1 => acc b i ^^^ rl b (i + 1)
theorem rl_lt {b i : Nat} (hb : b < 256) : rl b i < 256 := Nat.or_lt_two_pow (n := 8) (Nat.mod_lt _ (by omega)) (Nat.lt_of_le_of_lt (Nat.div_le_self _ _) hb)
theorem acc_lt {b : Nat} (hb : b < 256) : ∀ i, acc b i < 256
  | 0 => xor_lt hb (by omega)
  | i + 1 => xor_lt (acc_lt hb i) (rl_lt hb)
theorem acc_box {a : Nat} (ha : a < 256) : acc (invF a) 4 = boxF a := by
  unfold boxF box; rw [getD_tab ha]; rfl
end AesM
end Go.Proofs.Ytfnepbkgmopjcaa
