/-
  The different numbers of a list, rising (no text of the program).
-/
import Derived.Deep.Cut
namespace Go.Proofs.Yteoccdcebgcdmaa
/-- x put into its place in a rising list, if it is not there. -/
def insU (x : Int) : List Int → List Int
  | [] => [x]
  | y :: t => if y < x then y :: insU x t else if y = x then y :: t else x :: y :: t
/-- How many stand ahead of x. -/
def lead (x : Int) : List Int → Nat
  | [] => 0
  | y :: t => if y < x then lead x t + 1 else 0
def uniq (l : List Int) : List Int := l.foldl (fun o x => insU x o) []
theorem lead_le (x : Int) : ∀ l : List Int, lead x l ≤ l.length
  | [] => Nat.le_refl _
  | y :: t => by
    unfold lead
    split
    · have := lead_le x t; simp; omega
    · simp
theorem lead_low (x : Int) : ∀ (l : List Int) (k : Nat), k < lead x l → l.getD k 0 < x
  | [], k, h => by simp [lead] at h
  | y :: t, k, h => by
    unfold lead at h
    split at h
    · rename_i hy
      match k with
      | 0 => simpa using hy
      | k + 1 => simpa using lead_low x t k (by omega)
    · omega
theorem lead_at (x : Int) : ∀ l : List Int, lead x l < l.length → x ≤ l.getD (lead x l) 0
  | [], h => by simp [lead] at h
  | y :: t, h => by
    unfold lead at h ⊢
    split at h
    · rename_i hy
      rw [if_pos hy]
      simpa using lead_at x t (by simpa using h)
    · rename_i hy
      rw [if_neg hy]
      simp; omega
theorem insU_there (x : Int) : ∀ l : List Int, lead x l < l.length → l.getD (lead x l) 0 = x → insU x l = l
  | [], h, _ => by simp [lead] at h
  | y :: t, h, e => by
    unfold lead at h e
    unfold insU
    split at h
    · rename_i hy
      rw [if_pos hy] at e ⊢
      rw [insU_there x t (by simpa using h) (by simpa using e)]
    · rename_i hy
      rw [if_neg hy] at e ⊢
      rw [if_pos (by simpa using e)]
theorem insU_new (x : Int) : ∀ l : List Int, ¬ (lead x l < l.length ∧ l.getD (lead x l) 0 = x) → insU x l = l.take (lead x l) ++ x :: l.drop (lead x l)
  | [], _ => rfl
  | y :: t, h => by
    unfold lead at h ⊢
    unfold insU
    split
    · rename_i hy
      rw [if_pos hy] at h
      rw [insU_new x t (by simpa using h)]
      rfl
    · rename_i hy
      rw [if_neg hy] at h
      rw [if_neg (by simpa using h)]
      rfl
theorem mem_insU (x z : Int) : ∀ l : List Int, z ∈ insU x l ↔ z = x ∨ z ∈ l
  | [] => by simp [insU]
  | y :: t => by
    unfold insU
    split
    · rw [List.mem_cons, mem_insU x z t, List.mem_cons]
      constructor
      · rintro (h | h | h)
        · exact .inr (.inl h)
        · exact .inl h
        · exact .inr (.inr h)
      · rintro (h | h | h)
        · exact .inr (.inl h)
        · exact .inl h
        · exact .inr (.inr h)
    · split
      · rename_i h
        subst h
        simp
      · simp
theorem up_insU (x : Int) : ∀ l : List Int, l.Pairwise (· < ·) → (insU x l).Pairwise (· < ·)
  | [], _ => by simp [insU]
  | y :: t, h => by
    have h' := List.pairwise_cons.1 h
    unfold insU
    split
    · rename_i hy
      refine List.pairwise_cons.2 ⟨fun z hz => ?_, up_insU x t h'.2⟩
      rcases (mem_insU x z t).1 hz with rfl | hz
      · exact hy
      · exact h'.1 z hz
    · rename_i hy
      split
      · exact h
      · refine List.pairwise_cons.2 ⟨fun z hz => ?_, h⟩
        rcases List.mem_cons.1 hz with rfl | hz
        · omega
        · have := h'.1 z hz; omega
theorem uniq_go (l : List Int) : ∀ o : List Int, o.Pairwise (· < ·) → (l.foldl (fun o x => insU x o) o).Pairwise (· < ·) ∧ ∀ z, z ∈ l.foldl (fun o x => insU x o) o ↔ z ∈ o ∨ z ∈ l := by
  induction l with
  | nil => exact fun o h => ⟨h, fun z => by simp⟩
  | cons x t ih =>
    intro o h
    have := ih (insU x o) (up_insU x o h)
    refine ⟨this.1, fun z => ?_⟩
    rw [List.foldl_cons, this.2 z, mem_insU, List.mem_cons]
    constructor
    · rintro ((h | h) | h)
      · exact .inr (.inl h)
      · exact .inl h
      · exact .inr (.inr h)
    · rintro (h | h | h)
      · exact .inl (.inr h)
      · exact .inl (.inl h)
      · exact .inr h
theorem uniq_up (l : List Int) : (uniq l).Pairwise (· < ·) := (uniq_go l [] .nil).1
theorem mem_uniq {l : List Int} {z : Int} : z ∈ uniq l ↔ z ∈ l := by have := (uniq_go l [] .nil).2 z; simpa [uniq] using this
theorem uniq_snoc (l : List Int) (x : Int) : uniq (l ++ [x]) = insU x (uniq l) := by unfold uniq; rw [List.foldl_append]; rfl
theorem insU_length (x : Int) : ∀ l : List Int, (insU x l).length ≤ l.length + 1
  | [] => by simp [insU]
  | y :: t => by
    have := insU_length x t
    unfold insU
    split
    · simp; omega
    · split <;> simp
theorem uniq_length (l : List Int) : (uniq l).length ≤ l.length := by
  suffices h : ∀ (l o : List Int), (l.foldl (fun o x => insU x o) o).length ≤ o.length + l.length by simpa [uniq] using h l []
  intro l
  induction l with
  | nil => simp
  | cons x t ih => intro o; have := ih (insU x o); have := insU_length x o; simp; omega
/-- Two rising lists of the same numbers are the same. -/
theorem up_same : ∀ {l m : List Int}, l.Pairwise (· < ·) → m.Pairwise (· < ·) → (∀ z, z ∈ l ↔ z ∈ m) → l = m
  | [], [], _, _, _ => rfl
  | [], y :: t, _, _, h => by have := (h y).2 (by simp); simp at this
  | x :: s, [], _, _, h => by have := (h x).1 (by simp); simp at this
  | x :: s, y :: t, hl, hm, h => by
    have hl' := List.pairwise_cons.1 hl
    have hm' := List.pairwise_cons.1 hm
    have e : x = y := by
      have h1 := (h x).1 (by simp)
      have h2 := (h y).2 (by simp)
      rcases List.mem_cons.1 h1 with e | e
      · exact e
      · rcases List.mem_cons.1 h2 with e' | e'
        · exact e'.symm
        · have := hm'.1 x e; have := hl'.1 y e'; omega
    subst e
    rw [up_same hl'.2 hm'.2 fun z => ?_]
    constructor
    · intro hz
      have := (h z).1 (List.mem_cons_of_mem _ hz)
      rcases List.mem_cons.1 this with rfl | h'
      · have := hl'.1 z hz; omega
      · exact h'
    · intro hz
      have := (h z).2 (List.mem_cons_of_mem _ hz)
      rcases List.mem_cons.1 this with rfl | h'
      · have := hm'.1 z hz; omega
      · exact h'
end Go.Proofs.Yteoccdcebgcdmaa
