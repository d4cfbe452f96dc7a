/-
  AES-256 in plain numbers: the words of the round keys.
-/
import Derived.Test.YtfnepbkgmopjcaaAesN
namespace Go.Proofs.Ytfnepbkgmopjcaa
namespace AesM
def subW (T near : Nat → Nat) (n i : Nat) : Nat :=
  if n % 8 = 0 then T (near ((i + 1) % 4)) ^^^ (if i = 0 then 2 ^ (n / 8 - 1) else 0) else if n % 8 = 4 then T (near i) else near i
def nxt (T far near : Nat → Nat) (n : Nat) : Nat → Nat := fun i => subW T near n i ^^^ far i
def at' (L : List (List Nat)) (m i : Nat) : Nat := (L.getD m []).getD i 0
/-- The next word behind L. -/
def nextL (T k : Nat → Nat) (L : List (List Nat)) (n : Nat) : List Nat := tab 4 (if n < 8 then fun i => k (4 * n + i) else nxt T (at' L (n - 8)) (at' L (n - 1)) n)
def wl (T k : Nat → Nat) : Nat → List (List Nat)
  | 0 => []
  | n + 1 => wl T k n ++ [nextL T k (wl T k n) n]
theorem length_wl (T k : Nat → Nat) : ∀ n, (wl T k n).length = n
  | 0 => rfl
  | n + 1 => by rw [wl, List.length_append, length_wl T k n]; rfl
/-- Word m's byte i. -/
def wd (T k : Nat → Nat) (m : Nat) : Nat → Nat := at' (wl T k (m + 1)) m
theorem wl_at (T k : Nat → Nat) : ∀ n m, m < n → at' (wl T k n) m = wd T k m
  | 0, m, h => by omega
  | n + 1, m, h => by
    by_cases e : m = n
    · subst e; rfl
    · rw [← wl_at T k n m (by omega)]
      unfold at'
      rw [wl, List.getD_eq_getElem?_getD, List.getElem?_append_left (by rw [length_wl]; omega), ← List.getD_eq_getElem?_getD]
theorem wd_eq (T k : Nat → Nat) (n i : Nat) : wd T k n i = (nextL T k (wl T k n) n).getD i 0 := by
  have h : (wl T k n ++ [nextL T k (wl T k n) n]).getD n [] = nextL T k (wl T k n) n := by
    rw [List.getD_eq_getElem?_getD (l := wl T k n ++ [nextL T k (wl T k n) n]), List.getElem?_append_right (by rw [length_wl]; omega), length_wl, Nat.sub_self]; rfl
  unfold wd at'
  rw [wl, h]
theorem wd_first (T k : Nat → Nat) {n i : Nat} (hn : n < 8) (hi : i < 4) : wd T k n i = k (4 * n + i) := by
  rw [wd_eq]
  unfold nextL
  rw [getD_tab hi, if_pos hn]
theorem wd_next (T k : Nat → Nat) {n i : Nat} (hn : 8 ≤ n) (hi : i < 4) : wd T k n i = nxt T (wd T k (n - 8)) (wd T k (n - 1)) n i := by
  rw [← wl_at T k n (n - 8) (by omega), ← wl_at T k n (n - 1) (by omega)]
  rw [wd_eq]
  unfold nextL
  rw [getD_tab hi, if_neg (by omega)]
theorem subW_lt {T near : Nat → Nat} {n i : Nat} (hT : Bt T) (hn : Bt near) (h : n < 60) : subW T near n i < 256 := by
  unfold subW
  split
  · refine xor_lt (hT _) ?_
    split
    · have : n / 8 - 1 ≤ 6 := by omega
      exact Nat.lt_of_le_of_lt (Nat.pow_le_pow_right (by omega) this) (by decide)
    · omega
  · split
    · exact hT _
    · exact hn _
theorem tab_at {n : Nat} {f : Nat → Nat} {k : Nat} (h : n ≤ k) : (tab n f).getD k 0 = 0 := by
  rw [List.getD_eq_getElem?_getD, List.getElem?_eq_none (by rw [length_tab]; exact h)]; rfl
theorem wd_lt {T k : Nat → Nat} (hT : Bt T) (hk : Bt k) : ∀ N n, n < N → n < 60 → Bt (wd T k n)
  | 0, n, h, _ => by omega
  | N + 1, n, h, h60 => fun i => by
    by_cases hi : i < 4
    · by_cases h8 : n < 8
      · rw [wd_first T k h8 hi]; exact hk _
      · rw [wd_next T k (by omega) hi]
        exact xor_lt (subW_lt hT (wd_lt hT hk N (n - 1) (by omega) (by omega)) h60) (wd_lt hT hk N (n - 8) (by omega) (by omega) i)
    · rw [wd_eq]
      unfold nextL
      rw [tab_at (by omega)]
      omega
theorem wd_bt {T k : Nat → Nat} (hT : Bt T) (hk : Bt k) {n : Nat} (h : n < 60) : Bt (wd T k n) := wd_lt hT hk (n + 1) n (by omega) h
/-- All words in a row. -/
def W (T k : Nat → Nat) (j : Nat) : Nat := wd T k (j / 4) (j % 4)
/-- Round key r. -/
def key (T k : Nat → Nat) (r : Nat) : Nat → Nat := fun i => W T k (16 * r + i)
theorem key_lt {T k : Nat → Nat} (hT : Bt T) (hk : Bt k) {r i : Nat} (h : r < 15) (hi : i < 16) : key T k r i < 256 := wd_bt hT hk (by omega) _
/-- The round keys in a row, of the box. -/
def ks (k : Nat → Nat) (j : Nat) : Nat := if j < 240 then W boxF k j else 0
theorem ks_bt {k : Nat → Nat} (hk : Bt k) : Bt (ks k) := fun j => by
  unfold ks
  split
  · exact wd_bt boxF_lt hk (by omega) _
  · omega
def rk (K : Nat → Nat) (r : Nat) : Nat → Nat := fun i => K (16 * r + i)
theorem rk_bt {K : Nat → Nat} (h : Bt K) (r : Nat) : Bt (rk K r) := fun _ => h _
def ss (K f : Nat → Nat) : Nat → Nat → Nat
  | 0 => add f (rk K 0)
  | m + 1 => add (mix (turn (each (ss K f m) boxF))) (rk K (m + 1))
def sealM (K f : Nat → Nat) : Nat → Nat := add (turn (each (ss K f 13) boxF)) (rk K 14)
def os (K f : Nat → Nat) : Nat → Nat → Nat
  | 0 => each (back (add f (rk K 14))) oboxF
  | m + 1 => each (back (mixB (add (os K f m) (rk K (13 - m))))) oboxF
def open' (K f : Nat → Nat) : Nat → Nat := add (os K f 13) (rk K 0)
theorem add_bt {f g : Nat → Nat} (hf : Bt f) (hg : Bt g) : Bt (add f g) := fun k => xor_lt (hf k) (hg k)
theorem mix_bt {f : Nat → Nat} (hf : Bt f) : Bt (mix f) := fun _ =>
  xor_lt (xor_lt (hf _) (xor_lt (xor_lt (xor_lt (hf _) (hf _)) (hf _)) (hf _))) (dbl_lt (xor_lt (hf _) (hf _)))
theorem turn_bt {f : Nat → Nat} (hf : Bt f) : Bt (turn f) := fun _ => hf _
theorem back_bt {f : Nat → Nat} (hf : Bt f) : Bt (back f) := fun _ => hf _
theorem each_bt (f : Nat → Nat) : Bt (each f boxF) := fun k => by unfold each; exact boxF_lt _
theorem eachO_bt (f : Nat → Nat) : Bt (each f oboxF) := fun k => by unfold each; exact oboxF_lt _
theorem ss_bt {K f : Nat → Nat} (hK : Bt K) (hf : Bt f) : ∀ m, Bt (ss K f m)
  | 0 => add_bt hf (rk_bt hK 0)
  | _ + 1 => add_bt (mix_bt (turn_bt (each_bt _))) (rk_bt hK _)
theorem os_bt (K f : Nat → Nat) : ∀ m, Bt (os K f m)
  | 0 => eachO_bt _
  | _ + 1 => eachO_bt _
theorem seal_bt {K f : Nat → Nat} (hK : Bt K) : Bt (sealM K f) := add_bt (turn_bt (each_bt _)) (rk_bt hK _)
theorem open_bt {K f : Nat → Nat} (hK : Bt K) : Bt (open' K f) := add_bt (os_bt _ _ _) (rk_bt hK _)
end AesM
end Go.Proofs.Ytfnepbkgmopjcaa
