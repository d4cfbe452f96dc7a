/-
  Slices of sectors that a call makes for itself: append, and what is read of them.
-/
import Derived.Test.YteoccdcebgcdmaaParSums
import Derived.Laws.AppendOwnNone
namespace Go.Proofs.Yteoccdcebgcdmaa
open Go.ChangeShapes Go.WideShapes Go.ChangeAt Go.RowKit
/-- n sectors F, and behind them those of G. -/
def catF (n : Nat) (F G : Nat → Nat → Nat) : Nat → Nat → Nat := fun i => if i < n then F i else G (i - n)
theorem secs_cat {n m : Nat} {F G : Nat → Nat → Nat} : (secs n F).toList ++ (secs m G).toList = (secs (n + m) (catF n F G)).toList := by
  apply List.ext_getElem?
  intro j
  rw [List.getElem?_append, Array.length_toList, size_secs, Array.getElem?_toList, Array.getElem?_toList, Array.getElem?_toList]
  unfold secs
  rw [get_row, get_row, get_row]
  by_cases h : j < n * 64
  · rw [if_pos h, if_pos h, if_pos (by omega)]
    unfold catF
    rw [if_pos (by omega)]
  · rw [if_neg h]
    by_cases h2 : j < (n + m) * 64
    · rw [if_pos h2, if_pos (by omega)]
      unfold catF
      rw [if_neg (by omega), show (j - n * 64) / 64 = j / 64 - n by omega, show (j - n * 64) % 64 = j % 64 by omega]
    · rw [if_neg h2, if_neg (by omega)]
/-- v is a slice of n sectors F, in a row of its own from block B on. -/
def OwnS (w : World) (B : Nat) (v : Value) (n : Nat) (F : Nat → Nat → Nat) : Prop := w.ownsRow B 25 64 v n (secs n F).toList
theorem bytes_sec : (Try.prog.info? 25).map (·.bytes) = some 64 := by kernel_rfl
theorem parts_sec : ∃ (i : TypeInfo) (z : Value), Try.prog.info? 25 = some i ∧ i.zero = some z ∧ i.size = 64 ∧ i.bytes = 64 ∧ z.cells.size = 64 := by
  have hi : ∃ ie, Try.prog.info? 25 = some ie := ⟨_, rfl⟩
  obtain ⟨i, hi⟩ := hi
  have h1 := info_sec
  have h2 := bytes_sec
  have h3 : ((Try.prog.info? 25).bind (·.zero)).map (·.cells.size) = some 64 := by kernel_rfl
  rw [hi] at h1 h2 h3
  simp only [Option.map_some, Option.some.injEq, Option.bind_some] at h1 h2 h3
  cases hz : i.zero with
  | none => rw [hz] at h3; cases h3
  | some z => rw [hz] at h3; exact ⟨i, z, hi, hz, h1, h2, by simpa using h3⟩
section
variable {w w' : World} {B n : Nat} {v : Value} {F : Nat → Nat → Nat}
theorem OwnS.mono (h : OwnS w B v n F) {G : Nat → Nat → Nat} (he : ∀ i k, i < n → k < 64 → G i k = F i k) : OwnS w B v n G := by unfold OwnS; rw [secs_ext he]; exact h
theorem OwnS.empty (w : World) (hB : B ≤ w.heap.size) (F : Nat → Nat → Nat) : OwnS (w.alloc (.cells #[] 25)) B (.slice (some ⟨w.heap.size, 0, none⟩) 0 0) 0 F := by
  have h0 : (secs 0 F).toList = [] := by
    apply List.eq_nil_of_length_eq_zero
    rw [Array.length_toList, size_secs]
  unfold OwnS
  rw [h0]
  exact World.ownsRow_made w #[] 0 hB (Nat.zero_le _) rfl
/-- As one reads it: block g, from its first cell on. -/
theorem OwnS.form (h : OwnS w B v n F) (h0 : v ≠ .slice none 0 0) : ∃ g cap, v = .slice (some ⟨g, 0, none⟩) n cap ∧ B ≤ g ∧ g < w.heap.size ∧ n ≤ cap ∧ (∀ i, i < n → w.rangeAt g (0 + i * 64) (sec (F i)).toList) := by
  rcases h.2 with ⟨h', _⟩ | ⟨g, cap, cur, hv, hB, hg, hnc, hcm, hcs, ht⟩
  · exact absurd h' h0
  · refine ⟨g, cap, hv, hB, Blk.lt (t := 25) (cs := cur) hg, hnc, fun i hi j u hj => ?_⟩
    obtain ⟨hj64, rfl⟩ := get_sec_list hj
    rw [cell_of_row w g _ cur _ _ hg]
    have h1 : (secs n F).toList[i * 64 + j]? = some (.int .u8 (F i j)) := by rw [Array.getElem?_toList]; exact get_secs hi hj64
    rw [← ht, List.getElem?_take_of_lt (by omega), Array.getElem?_toList] at h1
    rw [Nat.zero_add]; exact h1
theorem OwnS.kept {row : Option Nat} (h : OwnS w B v n F) (hg : w.grownBy w' row) (hne : v.ownBlock = none ∨ v.ownBlock ≠ row) : OwnS w' B v n F := World.ownsRow.kept h hg hne
theorem OwnS.below {k : Nat} (h : OwnS w B v n F) (hb : Below k w w') (hk : w.heap.size ≤ k) : OwnS w' B v n F :=
  World.ownsRow.kept (row := none) h ⟨hb.os, hb.tape, hb.output, hb.size, fun i hi _ => hb.block i (by omega)⟩ (by
    cases v.ownBlock with
    | none => exact .inl rfl
    | some g => exact .inr (fun e => by cases e))
end
section
variable {ops : Array Oper} {Q : Exit → Act → World → Prop} {a : Act} {w : World} {rest : List Oper} {dst : Option Tmp} {ty : TypeId} {pos : String} {after : Array Edge} {s x : Operand} {n m c B : Nat} {v : Value} {F G : Nat → Nat → Nat}
/-- append of another slice's sectors to one of the call's own. -/
theorem wapp {ad : Addr} {B' : Nat} (hs : a.eval s = v) (hx : a.eval x = .slice (some ad) m c) (hown : OwnS w B v n F) (hrd : Secs w B' (some ad) m G) (hsz : n + m ≤ 1000000) (hB : B ≤ w.heap.size)
    (h : ∀ v' w', OwnS w' B v' (n + m) (catF n F G) → w.grownBy w' v.ownBlock → (v' = .slice none 0 0 ↔ v = .slice none 0 0 ∧ m = 0) → wpList Try.prog ops Q rest (a.put dst v') w') :
    wpList Try.prog ops Q (⟨dst, .call { callee := .builtin .append, args := #[s, x], argTypes := #[22, 22] }, ty, pos, after, none⟩ :: rest) a w := by
  obtain ⟨i, z, hi, hz, h1, h2, h3⟩ := parts_sec
  refine wpList_append_own w rfl s x 22 rfl B 25 i z 64 64 Try.underlying22 hi hz h1 h2 h3 (by omega) v n _ hs hown ad m c (secs m G).toList hx (by rw [Array.length_toList, size_secs]) ?_ ?_
    (by unfold maxLen; omega) (by omega) hB ?_
  · intro j u hj
    have hjm : j < m * 64 := by
      have := (List.getElem?_eq_some_iff.1 hj).1
      rwa [Array.length_toList, size_secs] at this
    have h4 : (secs m G).toList[j / 64 * 64 + j % 64]? = some (.int .u8 (G (j / 64) (j % 64))) := by
      rw [Array.getElem?_toList]; exact get_secs (by omega) (Nat.mod_lt _ (by omega))
    rw [show j / 64 * 64 + j % 64 = j by omega, hj] at h4
    obtain ⟨b, o, e, _, hr⟩ := hrd (by omega)
    obtain rfl : ad = ⟨b, o, none⟩ := Option.some.inj e
    have h5 := hr (j / 64) (by omega) (j % 64) u (by rw [h4, Array.getElem?_toList]; exact get_sec (Nat.mod_lt _ (by omega)))
    rw [Addr.add_mid]
    rwa [show o + j / 64 * 64 + j % 64 = o + j by omega] at h5
  · intro u hu
    have := (Array.all_eq_true_iff_forall_mem.1 (secs_one (n := m) (F := G))) u (by simpa using hu)
    exact this
  · intro v' w' h4 h5 h6
    rw [secs_cat] at h4
    exact h v' w' h4 h5 h6
theorem wapp_none (hs : a.eval s = v) (hx : a.eval x = .slice none 0 0) (hown : OwnS w B v n F) (h : wpList Try.prog ops Q rest (a.put dst v) w) :
    wpList Try.prog ops Q (⟨dst, .call { callee := .builtin .append, args := #[s, x], argTypes := #[22, 22] }, ty, pos, after, none⟩ :: rest) a w := by
  obtain ⟨i, z, hi, hz, h1, h2, h3⟩ := parts_sec
  refine wpList_plain rfl fun K hK => ?_
  unfold Oper.wp execOp
  have := run_append_owned_none (P := Try.prog) w B 22 ty 25 i 64 Try.underlying22 hi v n _ hown
  simp only [resolve, invoke, builtin, Sem.run_bind, Sem.run_pure, Result.andThen_ok, List.map_toArray, List.map_cons, List.map_nil, hs, hx, this]
  exact hK _ _ h
end
/-- What a copy of up to m sectors is. -/
def SomeOwn (w : World) (n : Nat) (F : Nat → Nat → Nat) (e : Ending) (w' : World) : Prop := ∃ g cap : Nat, e = .returned (.slice (some ⟨g, 0, none⟩) n cap) ∧ OwnS w' w.heap.size (.slice (some ⟨g, 0, none⟩) n cap) n F ∧ Below w.heap.size w w'
set_option maxRecDepth 100000 in
theorem copied_any (A : Option Addr) (n cap : Nat) (F : Nat → Nat → Nat) (hA : A = none → n = 0 ∧ cap = 0) (hn : n ≤ cap) (hc : cap ≤ maxLen) (w : World) (hs : Secs w w.heap.size A n F) :
    Calls Try.prog 10 #[.slice A n cap] w (SomeOwn w (min n 70) F) := by
  unfold maxLen at hc
  have HS := hid hs
  clear hs
  cases A with
  | none =>
    obtain ⟨rfl, rfl⟩ := hA rfl
    clear hA
    go_enter Try.func10, Try.ntmps10
    go_wp2_with ((with_reducible apply wapp_none); rfl; rfl; exact OwnS.empty w (Nat.le_refl _) F)
    go_ret
    exact ⟨w.heap.size, 0, rfl, OwnS.empty w (Nat.le_refl _) F, (Below.refl _ _).alloc (Nat.le_refl _) _⟩
  | some ad =>
    clear hA
    have key : ∀ (m : Nat), m ≤ n → m ≤ 70 → Secs (w.alloc (.cells #[] 25)) w.heap.size (some ad) m F := fun m h1 h2 hm => by
      obtain ⟨b, o, e, hB, hr⟩ := HS.out (by omega)
      exact ⟨b, o, e, hB, fun i hi => rangeAt_below (hr i (by omega)) ((Below.refl _ _).alloc (Nat.le_refl _) _) hB⟩
    have KEY := hid key
    clear key
    by_cases h70 : n ≤ 70
    · have t1 : min (n : Int) 70 = n := by omega
      rw [Nat.min_eq_left h70]
      go_enter Try.func10, Try.ntmps10
      go_wp2_with ((with_reducible apply wapp (v := .slice (some ⟨w.heap.size, 0, none⟩) 0 0)); rfl; rfl; exact OwnS.empty w (Nat.le_refl _) F; exact KEY.out n (Nat.le_refl _) h70; omega; (simp); intro v' w1 own grow hnil)
      obtain ⟨g, cap', rfl, _⟩ := OwnS.form own (fun e => by have := (hnil.1 e).1; cases this)
      go_wp2_with fail
      go_ret
      exact ⟨g, cap', by simp, by rw [Nat.zero_add] at own; exact own.mono fun i k _ _ => by simp [catF], ((Below.refl _ _).alloc (Nat.le_refl _) _).grown grow (by simp) (fun k e => by simp [Value.ownBlock] at e; omega)⟩
    · have t1 : min (n : Int) 70 = 70 := by omega
      rw [Nat.min_eq_right (by omega)]
      go_enter Try.func10, Try.ntmps10
      go_wp2_with ((with_reducible apply wapp (v := .slice (some ⟨w.heap.size, 0, none⟩) 0 0)); rfl; rfl; exact OwnS.empty w (Nat.le_refl _) F; exact KEY.out 70 (by omega) (Nat.le_refl _); omega; (simp); intro v' w1 own grow hnil)
      obtain ⟨g, cap', rfl, _⟩ := OwnS.form own (fun e => by have := (hnil.1 e).1; cases this)
      go_wp2_with fail
      go_ret
      exact ⟨g, cap', by simp, by rw [Nat.zero_add] at own; exact own.mono fun i k _ _ => by simp [catF], ((Below.refl _ _).alloc (Nat.le_refl _) _).grown grow (by simp) (fun k e => by simp [Value.ownBlock] at e; omega)⟩
end Go.Proofs.Yteoccdcebgcdmaa
