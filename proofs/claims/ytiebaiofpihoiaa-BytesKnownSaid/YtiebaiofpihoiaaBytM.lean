/-
  Numbers, texts and rows as bytes, and tapes, in plain numbers (no text of the program).
-/
import Derived.Test.YtiebaiofpihoiaaByt
namespace Go.Proofs.Ytiebaiofpihoiaa
namespace BytM
/-- A number in w bytes, the greatest first. -/
def dig : Nat → Nat → List Nat
  | 0, _ => []
  | w + 1, n => (n / 256 ^ w % 256) :: dig w n
def val (l : List Nat) : Nat := l.foldl (fun n b => 256 * n + b) 0
theorem dig_length : ∀ w n, (dig w n).length = w
  | 0, _ => rfl
  | w + 1, n => by rw [dig, List.length_cons, dig_length w n]
theorem dig_256 : ∀ w n, B256 (dig w n)
  | 0, _ => fun x hx => by cases hx
  | w + 1, n => fun x hx => by
    rw [dig] at hx
    rcases List.mem_cons.1 hx with rfl | hx
    · exact Nat.mod_lt _ (by omega)
    · exact dig_256 w n x hx
theorem dig_get : ∀ (w n k : Nat), k < w → (dig w n).getD k 0 = n / 256 ^ (w - 1 - k) % 256
  | 0, _, _, h => absurd h (by omega)
  | w + 1, n, 0, _ => by rw [dig]; simp
  | w + 1, n, k + 1, h => by
    rw [dig, List.getD_cons_succ, dig_get w n k (by omega), show w + 1 - 1 - (k + 1) = w - 1 - k by omega]
theorem dig_step {w n k : Nat} (h : k < w) : (dig w n).take (k + 1) = (dig w n).take k ++ [n / 256 ^ (w - 1 - k) % 256] := by
  have hl : k < (dig w n).length := by rw [dig_length]; exact h
  rw [List.take_succ_eq_append_getElem hl, ← nums_at hl, dig_get w n k h]
theorem dig_drop {w n k : Nat} (h : k < w) : (dig w n).drop k = (n / 256 ^ (w - 1 - k) % 256) :: (dig w n).drop (k + 1) := by
  have hl : k < (dig w n).length := by rw [dig_length]; exact h
  rw [List.drop_eq_getElem_cons hl, ← nums_at hl, dig_get w n k h]
theorem val_go (l : List Nat) : ∀ n, l.foldl (fun n b => 256 * n + b) n = n * 256 ^ l.length + val l := by
  induction l with
  | nil => intro n; simp [val]
  | cons x l ih =>
    intro n
    unfold val
    rw [List.foldl_cons, List.foldl_cons, ih, ih, List.length_cons, Nat.pow_succ]
    simp only [Nat.mul_zero, Nat.zero_add, Nat.add_mul]
    rw [show 256 * n * 256 ^ l.length = n * (256 ^ l.length * 256) by rw [Nat.mul_comm 256 n, Nat.mul_assoc, Nat.mul_comm 256]]
    omega
theorem val_cons (x : Nat) (l : List Nat) : val (x :: l) = x * 256 ^ l.length + val l := by
  show (x :: l).foldl _ 0 = _
  rw [List.foldl_cons, val_go]
  simp
theorem val_snoc (l : List Nat) (x : Nat) : val (l ++ [x]) = 256 * val l + x := by
  unfold val
  rw [List.foldl_append]
  rfl
theorem val_lt {l : List Nat} (h : B256 l) : val l < 256 ^ l.length := by
  induction l with
  | nil => simp [val]
  | cons x l ih =>
    have h1 := ih fun y hy => h y (List.mem_cons_of_mem _ hy)
    have h2 := h x List.mem_cons_self
    rw [val_cons, List.length_cons, Nat.pow_succ]
    have h3 : x * 256 ^ l.length ≤ 255 * 256 ^ l.length := Nat.mul_le_mul_right _ (by omega)
    omega
theorem val_lt_of {l : List Nat} (h : B256 l) {w : Nat} (hl : l.length ≤ w) : val l < 256 ^ w :=
  Nat.lt_of_lt_of_le (val_lt h) (Nat.pow_le_pow_right (by omega) hl)
theorem val_dig : ∀ w n, val (dig w n) = n % 256 ^ w
  | 0, n => by simp [dig, val]; omega
  | w + 1, n => by
    rw [dig, val_cons, dig_length, val_dig w n, Nat.mod_pow_succ, Nat.mul_comm (256 ^ w)]
    omega
theorem dig_add : ∀ (w n c : Nat), dig w (n + c * 256 ^ w) = dig w n
  | 0, _, _ => rfl
  | w + 1, n, c => by
    rw [dig, dig]
    have e : n + c * 256 ^ (w + 1) = n + (c * 256) * 256 ^ w := by rw [Nat.pow_succ, Nat.mul_assoc, Nat.mul_comm 256]
    rw [e, dig_add w n (c * 256), Nat.add_mul_div_right _ _ (Nat.pow_pos (by omega)), Nat.add_mul_mod_self_right]
theorem dig_val : ∀ {l : List Nat}, B256 l → dig l.length (val l) = l
  | [], _ => rfl
  | x :: l, h => by
    have h1 := fun y hy => h y (List.mem_cons_of_mem _ hy)
    have h2 := h x List.mem_cons_self
    have h3 := val_lt h1
    rw [List.length_cons, dig, val_cons, Nat.add_comm (x * _), Nat.add_mul_div_right _ _ (Nat.pow_pos (by omega)), Nat.div_eq_of_lt h3, Nat.zero_add, Nat.mod_eq_of_lt h2, dig_add, dig_val h1]
def isW (w : Int) : Bool := decide (w = 1) || decide (w = 2) || decide (w = 4) || decide (w = 8)
theorem isW_cases {w : Int} (h : isW w = true) : w = 1 ∨ w = 2 ∨ w = 4 ∨ w = 8 := by
  simp [isW] at h
  omega
theorem isW_nat {w : Int} (h : isW w = true) : ∃ n : Nat, w = n ∧ 1 ≤ n ∧ n ≤ 8 ∧ isW (n : Int) = true := by
  rcases isW_cases h with rfl | rfl | rfl | rfl
  · exact ⟨1, rfl, by omega, by omega, rfl⟩
  · exact ⟨2, rfl, by omega, by omega, rfl⟩
  · exact ⟨4, rfl, by omega, by omega, rfl⟩
  · exact ⟨8, rfl, by omega, by omega, rfl⟩
/-- Is w a width, and does n fit in w bytes? -/
def okN (w : Int) (n : Nat) : Bool := isW w && decide (n < 256 ^ w.toNat)
/-- A text as bytes. -/
def txt (s : List Nat) : List Nat := dig 2 s.length ++ s
theorem txt_256 {s : List Nat} (h : B256 s) : B256 (txt s) := (dig_256 _ _).append h
/-- The parts, one behind the other. -/
def flatP : List (List Nat) → List Nat
  | [] => []
  | p :: ps => dig 4 p.length ++ p ++ flatP ps
theorem flatP_append : ∀ (a b : List (List Nat)), flatP (a ++ b) = flatP a ++ flatP b
  | [], _ => rfl
  | p :: a, b => by rw [List.cons_append, flatP, flatP, flatP_append a b, List.append_assoc (dig 4 p.length ++ p)]
theorem flatP_256 : ∀ {ps : List (List Nat)}, (∀ p ∈ ps, B256 p) → B256 (flatP ps)
  | [], _ => fun x hx => by cases hx
  | p :: ps, h => ((dig_256 _ _).append (h p List.mem_cons_self)).append (flatP_256 fun q hq => h q (List.mem_cons_of_mem _ hq))
/-- A row. -/
def rowB (d : Nat) (ps : List (List Nat)) : List Nat := d :: ps.length :: flatP ps
/-! Tapes: what is left, or none where it is torn. -/
abbrev Tp := Option (List Nat)
def cutL (st : Tp) (n : Int) : List Nat := match st with
  | none => []
  | some l => if 0 ≤ n ∧ n ≤ (l.length : Int) then l.take n.toNat else []
def cutS (st : Tp) (n : Int) : Tp := match st with
  | none => none
  | some l => if 0 ≤ n ∧ n ≤ (l.length : Int) then some (l.drop n.toNat) else none
def numL (st : Tp) (w : Int) : Nat := if isW w then val (cutL st w) else 0
def numS (st : Tp) (w : Int) : Tp := if isW w then cutS st w else none
def txtL (st : Tp) (most : Int) : List Nat := if (numL st 2 : Int) > most then [] else cutL (numS st 2) (numL st 2 : Nat)
def txtS (st : Tp) (most : Int) : Tp := if (numL st 2 : Int) > most then none else cutS (numS st 2) (numL st 2 : Nat)
def T256 (st : Tp) : Prop := ∀ l, st = some l → B256 l
theorem T256.some {l : List Nat} (h : B256 l) : T256 (some l) := fun m e => by cases e; exact h
theorem T256.none : T256 none := fun m e => by cases e
theorem T256.cut {st : Tp} (h : T256 st) (n : Int) : T256 (cutS st n) := by
  intro l e
  unfold cutS at e
  split at e
  · cases e
  · split at e
    · cases e; exact (h _ rfl).drop _
    · cases e
theorem T256.num {st : Tp} (h : T256 st) (w : Int) : T256 (numS st w) := by
  unfold numS
  split
  · exact h.cut w
  · exact T256.none
theorem T256.txt {st : Tp} (h : T256 st) (m : Int) : T256 (txtS st m) := by
  unfold txtS
  split
  · exact T256.none
  · exact (h.num 2).cut _
theorem cutL_256 {st : Tp} (h : T256 st) (n : Int) : B256 (cutL st n) := by
  unfold cutL
  split
  · intro x hx; cases hx
  · split
    · exact (h _ rfl).take _
    · intro x hx; cases hx
theorem cutL_len {st : Tp} {n : Int} (w : Nat) (hn : n = w) : (cutL st n).length ≤ w := by
  unfold cutL
  split
  · exact Nat.zero_le _
  · split
    · rw [List.length_take]; omega
    · exact Nat.zero_le _
theorem numL_lt {st : Tp} (h : T256 st) {w : Int} {n : Nat} (hn : w = n) : numL st w < 256 ^ n := by
  unfold numL
  split
  · exact val_lt_of (cutL_256 h w) (cutL_len n hn)
  · exact Nat.pow_pos (by omega)
theorem cut_none (n : Int) : cutS none n = none := rfl
theorem num_none (w : Int) : numS none w = none := by unfold numS; split <;> rfl
theorem txt_none (m : Int) : txtS none m = none := by
  unfold txtS
  split
  · rfl
  · rw [num_none, cut_none]
theorem cut_app (l t : List Nat) {n : Int} (h : n = l.length) : cutL (some (l ++ t)) n = l ∧ cutS (some (l ++ t)) n = some t := by
  subst h
  have hc : (0 : Int) ≤ (l.length : Int) ∧ (l.length : Int) ≤ ((l ++ t).length : Int) := by rw [List.length_append]; omega
  unfold cutL cutS
  dsimp only
  rw [if_pos hc, if_pos hc]
  simp
theorem num_app {w : Int} {k n : Nat} (hw : w = k) (hw2 : isW w = true) (hn : n < 256 ^ k) (t : List Nat) : numL (some (dig k n ++ t)) w = n ∧ numS (some (dig k n ++ t)) w = some t := by
  have := cut_app (dig k n) t (n := w) (by rw [dig_length]; exact hw)
  unfold numL numS
  rw [if_pos hw2, if_pos hw2, this.1, this.2, val_dig, Nat.mod_eq_of_lt hn]
  exact ⟨rfl, rfl⟩
theorem txt_app {s t : List Nat} {m : Int} (hs : s.length ≤ 65535) (hm : (s.length : Int) ≤ m) : txtL (some (txt s ++ t)) m = s ∧ txtS (some (txt s ++ t)) m = some t := by
  unfold txt
  rw [List.append_assoc]
  have h1 := num_app (w := 2) (k := 2) (n := s.length) rfl rfl (by omega) (s ++ t)
  unfold txtL txtS
  rw [h1.1, h1.2, if_neg (by omega), if_neg (by omega)]
  exact cut_app s t rfl
/-! Rows that are read. -/
def prsL : Nat → Tp → List (List Nat)
  | 0, _ => []
  | k + 1, st => cutL (numS st 4) (numL st 4 : Nat) :: prsL k (cutS (numS st 4) (numL st 4 : Nat))
def prsS : Nat → Tp → Tp
  | 0, st => st
  | k + 1, st => prsS k (cutS (numS st 4) (numL st 4 : Nat))
theorem prs_none : ∀ k, prsS k none = none
  | 0 => rfl
  | k + 1 => by rw [prsS, num_none, cut_none, prs_none k]
theorem prs_flat : ∀ (ps : List (List Nat)) (t : List Nat), (∀ p ∈ ps, p.length < 4294967296) → prsL ps.length (some (flatP ps ++ t)) = ps ∧ prsS ps.length (some (flatP ps ++ t)) = some t
  | [], t, _ => ⟨rfl, rfl⟩
  | p :: ps, t, h => by
    have hp := h p List.mem_cons_self
    have ih := prs_flat ps t fun q hq => h q (List.mem_cons_of_mem _ hq)
    have h1 := num_app (w := 4) (k := 4) (n := p.length) rfl rfl (by omega) (p ++ (flatP ps ++ t))
    have h2 := cut_app p (flatP ps ++ t) (n := (p.length : Nat)) rfl
    rw [List.length_cons, flatP, List.append_assoc, List.append_assoc, prsL, prsS, h1.1, h1.2, h2.1, h2.2, ih.1, ih.2]
    exact ⟨rfl, rfl⟩
theorem prs_back : ∀ (k : Nat) (l : List Nat), B256 l → ∀ t, prsS k (some l) = some t → l = flatP (prsL k (some l)) ++ t ∧ (prsL k (some l)).length = k
  | 0, l, _, t, h => by
    cases h
    exact ⟨rfl, rfl⟩
  | k + 1, l, hb, t, h => by
    rw [prsS] at h
    have e4 : numS (some l) 4 = cutS (some l) 4 := rfl
    have v4 : numL (some l) 4 = val (cutL (some l) 4) := rfl
    by_cases h4 : 4 ≤ l.length
    · have c1 : cutL (some l) 4 = l.take 4 := by unfold cutL; dsimp only; rw [if_pos (by omega)]; rfl
      have c2 : cutS (some l) 4 = some (l.drop 4) := by unfold cutS; dsimp only; rw [if_pos (by omega)]; rfl
      have hd : dig 4 (val (l.take 4)) = l.take 4 := by
        have := dig_val (hb.take 4)
        rw [List.length_take, Nat.min_eq_left h4] at this
        exact this
      rw [e4, v4, c1, c2] at h
      rw [prsL, e4, v4, c1, c2]
      generalize val (l.take 4) = n at *
      by_cases hn : n ≤ (l.drop 4).length
      · have d1 : cutL (some (l.drop 4)) (n : Nat) = (l.drop 4).take n := by unfold cutL; dsimp only; rw [if_pos (by omega)]; simp
        have d2 : cutS (some (l.drop 4)) (n : Nat) = some ((l.drop 4).drop n) := by unfold cutS; dsimp only; rw [if_pos (by omega)]; simp
        rw [d2] at h
        have ih := prs_back k _ ((hb.drop 4).drop n) t h
        rw [d1, d2, flatP, List.length_cons, ih.2, List.length_take, Nat.min_eq_left hn, hd]
        refine ⟨?_, rfl⟩
        rw [List.append_assoc, ← ih.1, List.append_assoc, List.take_append_drop, List.take_append_drop]
      · have d2 : cutS (some (l.drop 4)) (n : Nat) = none := by unfold cutS; dsimp only; rw [if_neg (by omega)]
        rw [d2, prs_none] at h
        cases h
    · have c2 : cutS (some l) 4 = none := by unfold cutS; dsimp only; rw [if_neg (by omega)]
      rw [e4, c2, cut_none, prs_none] at h
      cases h
theorem prs_256 : ∀ (k : Nat) (st : Tp), T256 st → ∀ p ∈ prsL k st, B256 p
  | 0, _, _, p, hp => by cases hp
  | k + 1, st, h, p, hp => by
    rw [prsL] at hp
    rcases List.mem_cons.1 hp with rfl | hp
    · exact cutL_256 (h.num 4) _
    · exact prs_256 k _ ((h.num 4).cut _) p hp
theorem prsL_length : ∀ (k : Nat) (st : Tp), (prsL k st).length = k
  | 0, _ => rfl
  | k + 1, st => by rw [prsL, List.length_cons, prsL_length k]
/-- What is read of bytes as a row: its domain and parts, or none. -/
def parse : List Nat → Option (Nat × List (List Nat))
  | d :: m :: l => if 16 < m then none else if prsS m (some l) = some [] then some (d, prsL m (some l)) else none
  | _ => none
/-- The same by a tape. -/
def pDom (l : List Nat) : Nat := numL (some l) 1
def pMany (l : List Nat) : Nat := numL (numS (some l) 1) 1
def pRest (l : List Nat) : Tp := numS (numS (some l) 1) 1
theorem parse_tape (l : List Nat) : parse l = if 16 < pMany l then none else if prsS (pMany l) (pRest l) = some [] then some (pDom l, prsL (pMany l) (pRest l)) else none := by
  match l with
  | [] =>
    have h1 : numS (some []) 1 = none := rfl
    unfold pMany pRest
    rw [h1, num_none]
    have h2 : numL none 1 = 0 := rfl
    rw [h2]
    rfl
  | [d] =>
    have h1 : numS (some [d]) 1 = some [] := rfl
    unfold pMany pRest
    rw [h1]
    have h2 : numL (some []) 1 = 0 := rfl
    have h3 : numS (some []) 1 = none := rfl
    rw [h2, h3]
    rfl
  | d :: m :: t =>
    have hc : (0 : Int) ≤ 1 ∧ (1 : Int) ≤ ((d :: m :: t).length : Int) := by simp only [List.length_cons]; omega
    have hc2 : (0 : Int) ≤ 1 ∧ (1 : Int) ≤ ((m :: t).length : Int) := by simp only [List.length_cons]; omega
    have h1 : numS (some (d :: m :: t)) 1 = some (m :: t) := by
      unfold numS cutS; dsimp only; rw [if_pos (show isW 1 = true from rfl), if_pos hc]; rfl
    have h2 : numL (some (d :: m :: t)) 1 = d := by
      unfold numL cutL; dsimp only; rw [if_pos (show isW 1 = true from rfl), if_pos hc]; simp [val]
    have h3 : numS (some (m :: t)) 1 = some t := by
      unfold numS cutS; dsimp only; rw [if_pos (show isW 1 = true from rfl), if_pos hc2]; rfl
    have h4 : numL (some (m :: t)) 1 = m := by
      unfold numL cutL; dsimp only; rw [if_pos (show isW 1 = true from rfl), if_pos hc2]; simp [val]
    unfold pMany pRest pDom
    rw [h1, h2, h3, h4]
    rfl
theorem parse_row (d : Nat) {ps : List (List Nat)} (h : ps.length ≤ 16) (hp : ∀ p ∈ ps, p.length < 4294967296) : parse (rowB d ps) = some (d, ps) := by
  have h1 := prs_flat ps [] hp
  rw [List.append_nil] at h1
  unfold rowB parse
  dsimp only
  rw [if_neg (by omega), h1.1, h1.2, if_pos rfl]
theorem parse_more (d : Nat) {ps : List (List Nat)} (hp : ∀ p ∈ ps, p.length < 4294967296) {t : List Nat} (ht : t ≠ []) : parse (rowB d ps ++ t) = none := by
  have h1 := prs_flat ps t hp
  unfold rowB
  rw [List.cons_append, List.cons_append]
  unfold parse
  dsimp only
  split
  · rfl
  · rw [h1.2, if_neg (fun e => ht (Option.some.inj e))]
theorem parse_back {l : List Nat} (hb : B256 l) {d : Nat} {ps : List (List Nat)} (h : parse l = some (d, ps)) : rowB d ps = l ∧ ps.length ≤ 16 ∧ (∀ p ∈ ps, B256 p) ∧ d < 256 := by
  unfold parse at h
  split at h
  · rename_i d' m l'
    split at h
    · cases h
    · rename_i hm
      split at h
      · rename_i e
        simp only [Option.some.injEq, Prod.mk.injEq] at h
        obtain ⟨rfl, rfl⟩ := h
        have hb' : B256 l' := fun x hx => hb x (List.mem_cons_of_mem _ (List.mem_cons_of_mem _ hx))
        obtain ⟨h1, h2⟩ := prs_back m l' hb' [] e
        rw [List.append_nil] at h1
        unfold rowB
        rw [h2, ← h1]
        exact ⟨rfl, by omega, prs_256 m _ (T256.some hb'), hb _ List.mem_cons_self⟩
      · cases h
  · cases h
theorem flatP_part : ∀ (ps : List (List Nat)), ∀ p ∈ ps, p.length ≤ (flatP ps).length
  | q :: ps, p, hp => by
    rw [flatP, List.length_append, List.length_append]
    rcases List.mem_cons.1 hp with rfl | hp
    · omega
    · have := flatP_part ps p hp; omega
/-- One byte fewer is no row. -/
theorem parse_less (d : Nat) {ps : List (List Nat)} (hd : B256 (rowB d ps)) (h : ps.length ≤ 16) (hp : ∀ p ∈ ps, p.length < 4294967296) (hz : (rowB d ps).length < 4294967296) : parse ((rowB d ps).take ((rowB d ps).length - 1)) = none := by
  cases e : parse ((rowB d ps).take ((rowB d ps).length - 1)) with
  | none => rfl
  | some x =>
    obtain ⟨d', ps'⟩ := x
    obtain ⟨h1, h2, h3, h4⟩ := parse_back (hd.take _) e
    have hl : (rowB d ps).length ≠ 0 := by unfold rowB; simp
    have h5 : rowB d ps = rowB d' ps' ++ (rowB d ps).drop ((rowB d ps).length - 1) := by rw [h1, List.take_append_drop]
    have h6 : (rowB d ps).drop ((rowB d ps).length - 1) ≠ [] := fun e => by
      have := congrArg List.length e
      rw [List.length_drop, List.length_nil] at this
      omega
    have h7 : ∀ p ∈ ps', p.length < 4294967296 := fun p hp => by
      have h8 := flatP_part ps' p hp
      have h9 : (rowB d' ps').length ≤ (rowB d ps).length := by rw [h1, List.length_take]; omega
      unfold rowB at h9 hz
      simp only [List.length_cons] at h9 hz
      omega
    have h8 := parse_more d' h7 h6
    rw [← h5, parse_row d h hp] at h8
    cases h8
theorem rowB_inj {d d' : Nat} {ps ps' : List (List Nat)} (h : ps.length ≤ 16) (hp : ∀ p ∈ ps, p.length < 4294967296) (h' : ps'.length ≤ 16) (hp' : ∀ p ∈ ps', p.length < 4294967296) (e : rowB d ps = rowB d' ps') : d = d' ∧ ps = ps' := by
  have h1 := parse_row d h hp
  rw [e, parse_row d' h' hp'] at h1
  simp only [Option.some.injEq, Prod.mk.injEq] at h1
  exact ⟨h1.1.symm, h1.2.symm⟩
end BytM
end Go.Proofs.Ytiebaiofpihoiaa
