/-
  Columns of a right row lost: how many, and that they come back.
  StripeMends: of a right row any two columns can be lost; three are too many.
  StripeOrder: in which order columns are put makes no difference.
  Calls of no row, and of a block of zeros.
  The type of slices of bytes; bytes out of a literal.
-/
import Derived.Test.YtlbfjnddbdpdpaaMrg7
set_option linter.unusedVariables false
set_option linter.unusedSimpArgs false
set_option maxRecDepth 100000
namespace Go.Proofs.Ytlbfjnddbdpdpaa
open Go.ChangeShapes Go.WideShapes Go.ChangeAt Go.RowKit Go.Shelf
set_option linter.unusedSectionVars false
namespace StM
/-- Column c is lost. -/
def lz (t : Rw) (c : Nat) : Rw := { t with M := fun j => if j = c then true else t.M j }
theorem lz_ok {t : Rw} (h : t.ok) {c : Nat} (hc : c < t.n) : (lz t c).ok := ⟨h.lo, h.hi, h.by', fun j hj => by
  have hj' : t.n ≤ j := hj
  show (if j = c then true else t.M j) = false
  rw [if_neg (by omega)]
  exact h.out j hj'⟩
theorem has_nat {t : Rw} {c : Nat} (hc : c < t.n) : t.has c := ⟨by omega, by omega⟩
theorem los_in {t : Rw} {c : Nat} (hc : c < t.n) : losT t c = lz t c := by
  unfold losT lz
  rw [if_pos (has_nat hc)]
  rfl
theorem put_lose {t : Rw} {c : Nat} (hc : c < t.n) (z : Nat → Nat) : Al (losT (putT t c z) c) (lz t c) := by
  rw [los_in (t := putT t c z) (c := c) (by rw [put_in (has_nat hc)]; exact hc), put_in (has_nat hc)]
  refine ⟨rfl, fun j _ => ?_, fun i k _ _ hm => ?_⟩
  · show (if j = c then true else if j = (c : Int).toNat then false else t.M j) = if j = c then true else t.M j
    rw [Int.toNat_natCast]
    by_cases e : j = c
    · rw [if_pos e, if_pos e]
    · rw [if_neg e, if_neg e, if_neg e]
  · have hm' : (if i = c then true else if i = (c : Int).toNat then false else t.M i) = false := hm
    show upd t.F (c : Int).toNat z i k = t.F i k
    rw [Int.toNat_natCast]
    by_cases e : i = c
    · rw [if_pos e] at hm'; cases hm'
    · rw [upd_ne e]
theorem Al.lose {s t : Rw} (h : Al s t) {c : Nat} (hc : c < s.n) (z : Nat → Nat) : Al (losT (putT s c z) c) (lz t c) :=
  (put_lose hc z).trans ⟨h.n, fun j hj => by
    show (if j = c then true else s.M j) = if j = c then true else t.M j
    rw [h.M j hj], fun i k hi hk hm => by
    have hm' : (if i = c then true else s.M i) = false := hm
    by_cases e : i = c
    · rw [if_pos e] at hm'; cases hm'
    · rw [if_neg e] at hm'
      exact h.F i k hi hk hm'⟩
theorem gaps_len {N : Nat} {M : Nat → Bool} (L : List Nat) (hn : L.Nodup) (h : ∀ j, (j < N ∧ M j = true) ↔ j ∈ L) : (gapsL N M).length = L.length := by
  have h1 : (gapsL N M).Nodup := by
    unfold gapsL
    exact (List.pairwise_lt_range.filter _).imp fun {a b} hab => Nat.ne_of_lt hab
  exact ((List.perm_ext_iff_of_nodup h1 hn).2 fun j => gaps_mem.trans (h j)).length_eq
section
variable {m : Nat} {D : Nat → Nat → Nat} {i k q : Nat}
theorem lz1_len (hi : i < m + 2) : (lz (lz (rt m D) i) i).lost.length = 1 := gaps_len [i] (by simp) fun j => by
  show (j < m + 2 ∧ (if j = i then true else if j = i then true else false) = true) ↔ _
  simp only [List.mem_cons, List.not_mem_nil, or_false]
  by_cases e : j = i
  · subst e; simp [hi]
  · simp [e]
theorem lz2_len (hi : i < m + 2) (hk : k < m + 2) (hne : i ≠ k) : (lz (lz (rt m D) i) k).lost.length = 2 := gaps_len [i, k] (by simp [hne]) fun j => by
  show (j < m + 2 ∧ (if j = k then true else if j = i then true else false) = true) ↔ _
  simp only [List.mem_cons, List.not_mem_nil, or_false]
  by_cases e : j = i
  · subst e; simp [hi]
  · by_cases e2 : j = k
    · subst e2; simp [hk, e]
    · simp [e, e2]
theorem lz3_len (hi : i < m + 2) (hk : k < m + 2) (hq : q < m + 2) (h1 : i ≠ k) (h2 : k ≠ q) (h3 : i ≠ q) : (lz (lz (lz (rt m D) i) k) q).lost.length = 3 := gaps_len [i, k, q] (by simp [h1, h2, h3]) fun j => by
  show (j < m + 2 ∧ (if j = q then true else if j = k then true else if j = i then true else false) = true) ↔ _
  simp only [List.mem_cons, List.not_mem_nil, or_false]
  by_cases e : j = i
  · subst e; simp [hi, h1, h3]
  · by_cases e2 : j = k
    · subst e2; simp [hk, e, h2]
    · by_cases e3 : j = q
      · subst e3; simp [hq, e, e2]
      · simp [e, e2, e3]
theorem lz3_few (hi : i < m + 2) (hk : k < m + 2) (hq : q < m + 2) (h : i = k ∨ k = q ∨ i = q) : (lz (lz (lz (rt m D) i) k) q).lost.length ≤ 2 := by
  have hM : (lz (lz (lz (rt m D) i) k) q).lost.length = (lz (lz (rt m D) i) (if i = k then q else k)).lost.length := by
    unfold Rw.lost
    congr 1
    show gapsL (m + 2) _ = gapsL (m + 2) _
    congr 1
    funext j
    show (if j = q then true else if j = k then true else if j = i then true else false) = (if j = (if i = k then q else k) then true else if j = i then true else false)
    by_cases e1 : i = k
    · subst e1
      rw [if_pos rfl]
      by_cases e2 : j = q
      · simp [e2]
      · simp [e2]
    · rw [if_neg e1]
      by_cases e2 : j = q
      · subst e2
        rcases h with h | h | h
        · exact absurd h e1
        · subst h; simp
        · subst h; simp [e1]
      · simp [e2]
  rw [hM]
  have hle : ∀ a, a < m + 2 → (lz (lz (rt m D) i) a).lost.length ≤ 2 := fun a ha => by
    by_cases e : i = a
    · subst e; rw [lz1_len hi]; omega
    · rw [lz2_len hi ha e]; omega
  exact hle _ (by split <;> assumption)
end
section
variable {m : Nat} {D : Nat → Nat → Nat} (h2 : 2 ≤ m) (h62 : m ≤ 62) (hD : ∀ i k, D i k < 256) {t : Rw} (ht : t.ok) (hn : t.n = m + 2) (hF : t.F = rowF m D)
include h2 h62 hD ht hn hF
/-- Two lost columns of a right row come back. -/
theorem back2 (hl : t.lost.length ≤ 2) : menE t = 0 ∧ menL t = t.lost ∧ Al (menT t) (rt m D) := by
  have hf : ¬ t.full := by unfold Rw.full; omega
  refine ⟨if_neg hf, if_neg hf, rt_back h2 h62 hD ht hn (fun i k _ _ _ => by rw [hF]) hl⟩
theorem back3 (hl : t.lost.length = 3) : menE t = 7 ∧ menL t = [] ∧ menT t = t := by
  have hf : t.full := by unfold Rw.full; omega
  exact ⟨if_pos hf, if_pos hf, if_pos hf⟩
end
end StM
end Go.Proofs.Ytlbfjnddbdpdpaa
set_option maxRecDepth 100000
namespace Go.Proofs.Ytlbfjnddbdpdpaa
open Go.ChangeShapes Go.WideShapes Go.ChangeAt Go.RowKit Go.Shelf
attribute [local go_sem] Gives eqg_sec
attribute [local go_sem high] run_eql_sec run_neq_sec
namespace StM
theorem own_form {w : World} {B n : Nat} {v : Value} {F : Nat → Nat → Nat} (h : OwnS w B v n F) (hn : 0 < n) : ∃ g c, v = .slice (some ⟨g, 0, none⟩) n c ∧ B ≤ g := by
  obtain ⟨g, c, e, hb, _⟩ := h.form fun e => by
    rcases h.2 with ⟨_, h0⟩ | ⟨_, _, _, h1, _⟩
    · omega
    · rw [e] at h1; cases h1
  exact ⟨g, c, e, hb⟩
set_option maxRecDepth 100000 in
set_option maxHeartbeats 8000000 in
theorem mends_law (A : Option Addr) (n cap : Nat) (F : Nat → Nat → Nat) (hF : ∀ i k, F i k < 256) (hnc : n ≤ cap) (hcm : cap ≤ maxLen) (x : Nat → Nat) (hx : ∀ k, x k < 256) (z : Nat → Nat) (hz : ∀ k, z k < 256) (W : World) (hs : Secs W W.heap.size A n F) :
    Calls Try.prog 5 #[.slice A n cap, .agg (ar 3 x), .agg (sec z)] W fun e w' => e = .returned (.bool true) ∧ Below W.heap.size W w' := by
  have HF := hid hF
  have HS := hid hs
  have HX := hid hx
  have HZ := hid hz
  clear hs
  by_cases hbad : n < 2 ∨ 62 < n
  · go_enter Try.func5, Try.ntmps5
    go_upto_region 1 with fail
    generalize hw0 : World.alloc (World.alloc W _) _ = w0
    have B0 := hid (show Below W.heap.size W w0 by rw [← hw0]; exact ((Below.refl _ _).alloc (Nat.le_refl _) _).alloc (by simp) _)
    have RB := hid (right_bad A n cap F hF (Nat.le_trans hnc hcm) hbad w0 ((HS.out.below B0.out (Nat.le_refl _)).more B0.out.size))
    clear hw0 hbad
    go_wp2_with fail
    refine RB.out.mono ?_
    rintro e w1 ⟨rfl, h1⟩
    have B1 := hid (B0.out.trans (h1.mono B0.out.size))
    clear h1 RB
    go_wp2_with fail
    refine (works_any w1).mono ?_
    rintro e w2 ⟨rfl, h2⟩
    have B2 := hid (B1.out.trans (h2.mono B1.out.size))
    clear h2
    go_wp2_with fail
    go_ret
    exact ⟨rfl, B2.out⟩
  · have h2 : 2 ≤ n := by omega
    have h62 : n ≤ 62 := by omega
    clear hbad
    obtain ⟨m, hm⟩ : ∃ m, m = n + 2 := ⟨_, rfl⟩
    have M := hid hm
    have hm4 : 4 ≤ m := by omega
    have hm64 : m ≤ 64 := by omega
    clear hm
    have tz : ((m : Int) == 0) = false := by rw [beq_eq_false_iff_ne]; omega
    have mo : ∀ j, ((x j : Nat) : Int).tmod (m : Int) = ((x j % m : Nat) : Int) := fun j => by rw [Int.tmod_eq_emod_of_nonneg (by omega)]; rfl
    have wr : ∀ j, IntKind.i64.wrap ((x j : Nat) : Int) = ((x j : Nat) : Int) := fun j => IntWalk.i64_in _ (by have := HX.out j; omega)
    obtain ⟨i, hi⟩ : ∃ i, i = x 0 % m := ⟨_, rfl⟩
    obtain ⟨k, hk⟩ : ∃ k, k = x 1 % m := ⟨_, rfl⟩
    obtain ⟨q, hq⟩ : ∃ q, q = x 2 % m := ⟨_, rfl⟩
    have I0 := hid (show IntKind.i64.wrap ((x 0 : Nat) : Int) = ((x 0 : Nat) : Int) ∧ ((x 0 : Nat) : Int).tmod (m : Int) = (i : Int) ∧ i < m from ⟨wr 0, by rw [hi]; exact mo 0, by rw [hi]; exact Nat.mod_lt _ (by omega)⟩)
    have I1 := hid (show IntKind.i64.wrap ((x 1 : Nat) : Int) = ((x 1 : Nat) : Int) ∧ ((x 1 : Nat) : Int).tmod (m : Int) = (k : Int) ∧ k < m from ⟨wr 1, by rw [hk]; exact mo 1, by rw [hk]; exact Nat.mod_lt _ (by omega)⟩)
    have I2 := hid (show IntKind.i64.wrap ((x 2 : Nat) : Int) = ((x 2 : Nat) : Int) ∧ ((x 2 : Nat) : Int).tmod (m : Int) = (q : Int) ∧ q < m from ⟨wr 2, by rw [hq]; exact mo 2, by rw [hq]; exact Nat.mod_lt _ (by omega)⟩)
    clear hi hk hq mo wr hx hz hnc hcm
    go_enter Try.func5, Try.ntmps5
    go_upto_region 1 with fail
    generalize hw0 : World.alloc (World.alloc W _) _ = w0
    have B0 := hid (show Below W.heap.size W w0 by rw [← hw0]; exact ((Below.refl _ _).alloc (Nat.le_refl _) _).alloc (by simp) _)
    have bx := hid (show Blk w0 W.heap.size 60 (ar 3 x) by rw [← hw0]; exact (Blk.top rfl rfl).alloc _)
    have bz := hid (show Blk w0 (W.heap.size + 1) 32 (sec z) by rw [← hw0]; exact Blk.top rfl (by simp))
    have RO := hid (right_ok A n cap F hF h2 h62 w0 ((HS.out.below B0.out (Nat.le_refl _)).more B0.out.size))
    clear hw0 hF
    go_wp2_with fail
    refine RO.out.mono ?_
    rintro e w2 ⟨g, gc, cc, gg, cg, rfl, P, hg, hc, hh, hb1⟩
    have P2 := hid P
    have L2 := hid P.lts
    have L0 := hid (show W.heap.size + 1 < w0.heap.size from bz.out.lt)
    have G := hid (And.intro hg (And.intro hc hh))
    have B2 := hid (B0.out.trans (hb1.mono B0.out.size))
    have bx2 := hid (bx.out.below hb1 bx.out.lt)
    have bz2 := hid (bz.out.below hb1 bz.out.lt)
    clear P hg hc hh hb1 RO bx bz B0
    have am := hid (show ((n : Int) + 2) = (m : Int) by have := M.out; omega)
    go_wp2_with fail
    rw [am.out]
    refine wp_region_tail (C := fun w' => Below w2.heap.size w2 w') 18 (by kernel_rfl) (by kernel_rfl) (by kernel_rfl) (Below.refl _ _).drew ?_
    simp only [List.take_succ_cons, List.take_zero, List.drop_succ_cons, List.drop_zero]
    apply wpK_val
    · rfl
    · intro w' hw'
      go_simp
      first | exact rfl | exact ⟨rfl, hw'⟩
    simp only [Act.put, List.setIfInBounds_toArray, List.set_cons_succ, List.set_cons_zero]
    apply wpK_val
    · rfl
    · intro w' hw'
      have hcell := ((bx2.out.below hw' bx2.out.lt).cell 0).trans (get_ar (by omega))
      go_simp
      first | exact rfl | exact ⟨rfl, hw'⟩
    simp only [Act.put, List.setIfInBounds_toArray, List.set_cons_succ, List.set_cons_zero]
    apply wpK_val
    · rfl
    · intro w' hw'
      have hwr : IntKind.i64.wrap ((x 0 : Nat) : Int) = ((x 0 : Nat) : Int) := I0.out.1
      go_simp
      first | exact rfl | exact ⟨rfl, hw'⟩
    simp only [Act.put, List.setIfInBounds_toArray, List.set_cons_succ, List.set_cons_zero]
    apply wpK_val
    · rfl
    · intro w' hw'
      go_simp
      first | exact rfl | exact ⟨rfl, hw'⟩
    simp only [Act.put, List.setIfInBounds_toArray, List.set_cons_succ, List.set_cons_zero]
    apply wpK_val
    · rfl
    · intro w' hw'
      have hmo : ((x 0 : Nat) : Int).tmod (m : Int) = (i : Int) := I0.out.2.1
      have hm0 : ¬ m = 0 := by omega
      go_simp
      first | exact rfl | exact ⟨rfl, hw'⟩
    simp only [Act.put, List.setIfInBounds_toArray, List.set_cons_succ, List.set_cons_zero]
    apply wpK_val
    · rfl
    · intro w' hw'
      go_simp
      first | exact rfl | exact ⟨rfl, hw'⟩
    simp only [Act.put, List.setIfInBounds_toArray, List.set_cons_succ, List.set_cons_zero]
    apply wpK_val
    · rfl
    · intro w' hw'
      have hcell := ((bx2.out.below hw' bx2.out.lt).cell 1).trans (get_ar (by omega))
      go_simp
      first | exact rfl | exact ⟨rfl, hw'⟩
    simp only [Act.put, List.setIfInBounds_toArray, List.set_cons_succ, List.set_cons_zero]
    apply wpK_val
    · rfl
    · intro w' hw'
      have hwr : IntKind.i64.wrap ((x 1 : Nat) : Int) = ((x 1 : Nat) : Int) := I1.out.1
      go_simp
      first | exact rfl | exact ⟨rfl, hw'⟩
    simp only [Act.put, List.setIfInBounds_toArray, List.set_cons_succ, List.set_cons_zero]
    apply wpK_val
    · rfl
    · intro w' hw'
      go_simp
      first | exact rfl | exact ⟨rfl, hw'⟩
    simp only [Act.put, List.setIfInBounds_toArray, List.set_cons_succ, List.set_cons_zero]
    apply wpK_val
    · rfl
    · intro w' hw'
      have hmo : ((x 1 : Nat) : Int).tmod (m : Int) = (k : Int) := I1.out.2.1
      have hm0 : ¬ m = 0 := by omega
      go_simp
      first | exact rfl | exact ⟨rfl, hw'⟩
    simp only [Act.put, List.setIfInBounds_toArray, List.set_cons_succ, List.set_cons_zero]
    apply wpK_val
    · rfl
    · intro w' hw'
      go_simp
      first | exact rfl | exact ⟨rfl, hw'⟩
    simp only [Act.put, List.setIfInBounds_toArray, List.set_cons_succ, List.set_cons_zero]
    apply wpK_val
    · rfl
    · intro w' hw'
      have hcell := ((bx2.out.below hw' bx2.out.lt).cell 2).trans (get_ar (by omega))
      go_simp
      first | exact rfl | exact ⟨rfl, hw'⟩
    simp only [Act.put, List.setIfInBounds_toArray, List.set_cons_succ, List.set_cons_zero]
    apply wpK_val
    · rfl
    · intro w' hw'
      have hwr : IntKind.i64.wrap ((x 2 : Nat) : Int) = ((x 2 : Nat) : Int) := I2.out.1
      go_simp
      first | exact rfl | exact ⟨rfl, hw'⟩
    simp only [Act.put, List.setIfInBounds_toArray, List.set_cons_succ, List.set_cons_zero]
    apply wpK_val
    · rfl
    · intro w' hw'
      go_simp
      first | exact rfl | exact ⟨rfl, hw'⟩
    simp only [Act.put, List.setIfInBounds_toArray, List.set_cons_succ, List.set_cons_zero]
    apply wpK_val
    · rfl
    · intro w' hw'
      have hmo : ((x 2 : Nat) : Int).tmod (m : Int) = (q : Int) := I2.out.2.1
      have hm0 : ¬ m = 0 := by omega
      go_simp
      first | exact rfl | exact ⟨rfl, hw'⟩
    simp only [Act.put, List.setIfInBounds_toArray, List.set_cons_succ, List.set_cons_zero]
    apply wpK_val
    · rfl
    · intro w' hw'
      go_simp
      first | exact rfl | exact ⟨rfl, hw'⟩
    simp only [Act.put, List.setIfInBounds_toArray, List.set_cons_succ, List.set_cons_zero]
    apply wpK_val
    · rfl
    · intro w' hw'
      go_simp
      first | exact rfl | exact ⟨rfl, hw'⟩
    simp only [Act.put, List.setIfInBounds_toArray, List.set_cons_succ, List.set_cons_zero]
    apply wpK_val
    · rfl
    · intro w' hw'
      go_simp
      first | exact rfl | exact ⟨rfl, hw'⟩
    simp only [Act.put, List.setIfInBounds_toArray, List.set_cons_succ, List.set_cons_zero]
    refine wpK_nil fun w3 hw3 => ?_
    have P3 := hid (P2.out.on hw3)
    have B3 := hid (B2.out.trans (hw3.mono B2.out.size))
    have bz3 := hid (bz2.out.below hw3 bz2.out.lt)
    have N3 := hid hw3
    clear hw3 P2 B2 bx2 bz2
    have hi := I0.out.2.2
    have hk := I1.out.2.2
    have hq := I2.out.2.2
    clear I0 I1 I2
    rcases Nat.decEq i k with hik | hik
    · rcases Nat.decEq k q with hkq | hkq
      · rcases Nat.decEq i q with hiq | hiq
        · have tik : ((i : Int) != (k : Int)) = true := by rw [bne_iff_ne]; omega
          have tike : ((i : Int) == (k : Int)) = false := by rw [beq_eq_false_iff_ne]; omega
          have tkq : ((k : Int) != (q : Int)) = true := by rw [bne_iff_ne]; omega
          have tkqe : ((k : Int) == (q : Int)) = false := by rw [beq_eq_false_iff_ne]; omega
          have tiq : ((i : Int) != (q : Int)) = true := by rw [bne_iff_ne]; omega
          have tiqe : ((i : Int) == (q : Int)) = false := by rw [beq_eq_false_iff_ne]; omega
          go_wp2_with fail
          go_loopw [12, 13] (fun u12 u13 wr => ∃ c : Nat, u13 = .int .i64 c ∧ c ≤ m ∧ Hid (OwnS wr w2.heap.size u12 c (rowF n F)) ∧ Hid (Pr wr g gc cc gg cg (rt n F)) ∧ Hid (Below w3.heap.size w3 wr ∨ Below w2.heap.size w3 wr)) (fun _ u13 _ => m - (intOf u13).toNat)
          case atStart => exact ⟨0, rfl, Nat.zero_le _, hid (World.ownsRow_nil _ _ _ _), P3, hid (.inr (Below.refl _ _))⟩
          case round =>
            obtain ⟨c, rfl, hc, HO, HP, HB0⟩ := hrel
            have HB := hid (show Below w2.heap.size w3 wr from HB0.out.elim (fun h => h.mono N3.out.size) id)
            clear HB0
            by_cases hgo : c < m
            · have t1 : (c : Int) < m := by omega
              have hge := hid (rt_getE (m := n) (D := F) (c := (c : Int)) ⟨by omega, by have := M.out; omega⟩)
              have hgs := hid (rt_getS (m := n) (D := F) (c := (c : Int)) ⟨by omega, by have := M.out; omega⟩)
              go_wp2_with fail
              refine (pget_any HP.out c).mono ?_
              rintro e w9 ⟨rfl, h9⟩
              rw [hge.out, hgs.out, Int.toNat_natCast]
              have P9 := hid (HP.out.on h9)
              have O9 := hid (OwnS.below HO.out h9 (Nat.le_refl _))
              have B9 := hid (HB.out.trans (h9.mono (Nat.le_trans N3.out.size HB.out.size)))
              clear h9
              go_upto_region 11 with (first | ((with_reducible apply stx); rfl; rfl; exact Blk.top zlit rfl))
              generalize hw10 : World.setRow (World.alloc w9 _) _ _ = w10
              have b10 := hid (show Blk w10 w9.heap.size 32 (sec (rowF n F c)) by rw [← hw10]; exact (Blk.top zlit rfl).setRow_same _)
              have h10 : Below w9.heap.size w9 w10 := by rw [← hw10]; exact below_setRow ((Below.refl _ _).alloc (Nat.le_refl _) _) (Nat.le_refl _) _
              have P10 := hid (P9.out.on h10)
              have O10 := hid (OwnS.below O9.out h10 (Nat.le_refl _))
              have B10 := hid (B9.out.trans (h10.mono (Nat.le_trans N3.out.size B9.out.size)))
              have ha := hid ((Below.refl w10.heap.size w10).alloc (Nat.le_refl _) (.cells (secL (rowF n F c)).toArray 32))
              have O11 := hid (OwnS.below O10.out ha.out (Nat.le_refl _))
              have hsz := hid (show w2.heap.size ≤ (w10.alloc (.cells (secL (rowF n F c)).toArray 32)).heap.size from Nat.le_trans (Nat.le_trans N3.out.size B10.out.size) ha.out.size)
              clear h10 hw10 P9 O9 B9
              go_wp2_with (first | ((with_reducible apply ld); rfl; exact b10.out) | ((with_reducible apply wlit1 eltSe undSe (x := rowF n F c)); omega; rfl; rfl) | ((with_reducible apply wapp (n := c) (m := 1)); rfl; rfl; exact O11.out; exact secs_one' (Blk.new _ _ _); omega; exact hsz.out; intro v5 w5 o5 g5 n5; have O5 := hid (o5.mono (G := rowF n F) fun i k hi _ => by unfold catF; split; rfl; (rw [show i = c by omega])); have D5 := hid (Below.grown (show Below w2.heap.size w3 _ from B10.out.trans (ha.out.mono (Nat.le_trans N3.out.size B10.out.size))) g5 hsz.out fun x e => (World.ownsRow.lt O11.out x e).1); have P5 := hid (P10.out.turn (T := fun b => w2.heap.size ≤ b) ((Turn.of_new (S := fun b => w2.heap.size ≤ b) ha.out).trans (Turn.of_grown (S := fun b => w2.heap.size ≤ b) g5 fun x e => (World.ownsRow.lt O11.out x e).1) fun _ e => .inl e) (show ¬ w2.heap.size ≤ g by have := L2.out; omega) (show ¬ w2.heap.size ≤ gc by have := L2.out; omega) (show ¬ w2.heap.size ≤ gg by have := L2.out; omega)); clear o5 g5 n5))
              go_roundw
              case rel => exact ⟨c + 1, by go_num, by omega, O5, P5, hid (.inr D5.out)⟩
              case measure => simp [intOf] <;> omega
            · have t1 : ¬ (c : Int) < m := by omega
              have hcm : c = m := by omega
              have O4 := hid (show OwnS wr w2.heap.size u12 m (rowF n F) by have h := HO.out; rw [hcm] at h; exact h)
              obtain ⟨g6, c6, rfl, hb6⟩ := own_form O4.out (by omega)
              have D6 := hid (show g < g6 ∧ gc < g6 ∧ gg < g6 by have := L2.out; omega)
              have P4 := HP
              have bz4 := hid (show Blk wr (W.heap.size + 1) 32 (sec z) from bz3.out.below HB.out (by have := L0.out; have := G.out; have := L2.out; omega))
              have B4 := hid (show Below W.heap.size W wr from B3.out.trans (HB.out.mono (by have := L0.out; have := G.out; have := L2.out; omega)))
              clear hcm HO HP HB hb6
              go_wp2_with ((with_reducible apply ld); rfl; exact bz4.out)
              refine (pput_any P4.out i z HZ.out).mono ?_
              rintro e w5 ⟨rfl, o5⟩
              have P5 := hid o5.1
              have B5 := hid (B4.out.trans (o5.below (B := W.heap.size) B4.out.size (by have := L0.out; have := G.out; omega) (by have := L0.out; have := G.out; omega)))
              have bz5 := hid (bz4.out.turn o5.2 (by have := L0.out; have := G.out; omega))
              have O5 := hid (ownS_turn O4.out o5.2 fun b e => by cases e; show ¬ (g6 = gc ∨ g6 = gg); have := D6.out; omega)
              clear o5 P4 B4 bz4 O4
              go_wp2_with fail
              refine (plose_any P5.out i).mono ?_
              rintro e w6 ⟨rfl, o6⟩
              have hn1 : i < (rt n F).n := by show i < n + 2; have := M.out; omega
              have K1 := hid (lz_ok (rt_ok h2 h62 HF.out) hn1)
              have P6 := hid (o6.1.to (put_lose hn1 z) K1.out)
              have B6 := hid (B5.out.trans (o6.below (B := W.heap.size) B5.out.size (by have := L0.out; have := G.out; omega) (by have := L0.out; have := G.out; omega)))
              have bz6 := hid (bz5.out.turn o6.2 (by have := L0.out; have := G.out; omega))
              have O6 := hid (ownS_turn O5.out o6.2 fun b e => by cases e; show ¬ (g6 = gc ∨ g6 = gg); have := D6.out; omega)
              clear o6 P5 B5 bz5 O5
              go_wp2_with ((with_reducible apply ld); rfl; exact bz6.out)
              refine (pput_any P6.out k z HZ.out).mono ?_
              rintro e w7 ⟨rfl, o7⟩
              have P7 := hid o7.1
              have B7 := hid (B6.out.trans (o7.below (B := W.heap.size) B6.out.size (by have := L0.out; have := G.out; omega) (by have := L0.out; have := G.out; omega)))
              have O7 := hid (ownS_turn O6.out o7.2 fun b e => by cases e; show ¬ (g6 = gc ∨ g6 = gg); have := D6.out; omega)
              clear o7 P6 B6 bz6 O6
              go_wp2_with fail
              refine (plose_any P7.out k).mono ?_
              rintro e w8 ⟨rfl, o8⟩
              have hn2 : k < (lz (rt n F) i).n := by show k < n + 2; have := M.out; omega
              have K2 := hid (lz_ok K1.out hn2)
              have P8 := hid (o8.1.to (put_lose hn2 z) K2.out)
              have B8 := hid (B7.out.trans (o8.below (B := W.heap.size) B7.out.size (by have := L0.out; have := G.out; omega) (by have := L0.out; have := G.out; omega)))
              have O8 := hid (ownS_turn O7.out o8.2 fun b e => by cases e; show ¬ (g6 = gc ∨ g6 = gg); have := D6.out; omega)
              clear o8 P7 B7 O7
              have hL2 := hid (show (lz (lz (rt n F) i) k).lost.length = 2 from lz2_len (by have := M.out; omega) (by have := M.out; omega) hik)
              obtain ⟨bE, bL, bT⟩ := back2 h2 h62 HF.out K2.out rfl rfl (by have := hL2.out; omega)
              go_wp2_with fail
              refine (pmend_any P8.out).mono ?_
              rintro e w9 ⟨A9, c9, rfl, _, o9⟩
              rw [bE, bL, hL2.out]
              have P9 := hid (o9.1.to bT (rt_ok h2 h62 HF.out))
              have B9 := hid (B8.out.trans (o9.below (B := W.heap.size) B8.out.size (by have := L0.out; have := G.out; omega) (by have := L0.out; have := G.out; omega)))
              have O9 := hid (ownS_turn O8.out o9.2 fun b e => by cases e; show ¬ (g6 = gc ∨ g6 = gg); have := D6.out; omega)
              clear o9 P8 B8 O8 bE bL bT hL2
              go_wp2_with fail
              refine (pright_any P9.out).mono ?_
              rintro e w10 ⟨rfl, h10⟩
              rw [rt_right h2 h62 HF.out]
              have P10 := hid (P9.out.on h10)
              have B10 := hid (B9.out.trans (h10.mono B9.out.size))
              have O10 := hid (OwnS.below O9.out h10 (Nat.le_refl _))
              clear h10 P9 B9 O9
              go_wp2_with fail
              go_loopw [18] (fun uu wq => ∃ c : Nat, uu = .int .i64 c ∧ c ≤ m ∧ Hid (Pr wq g gc cc gg cg (rt n F)) ∧ Hid (OwnS wq w2.heap.size (.slice (some ⟨g6, 0, none⟩) m c6) m (rowF n F)) ∧ Hid (Below W.heap.size W wq)) (fun uu _ => m - (intOf uu).toNat)
              case atStart => exact ⟨0, rfl, Nat.zero_le _, P10, O10, B10⟩
              case round =>
                obtain ⟨c, rfl, hc, HP8, HO8, HB8⟩ := hrel
                by_cases hgo : c < m
                · have t1 : (c : Int) < m := by omega
                  have hge := hid (rt_getE (m := n) (D := F) (c := (c : Int)) ⟨by omega, by have := M.out; omega⟩)
                  have hgs := hid (rt_getS (m := n) (D := F) (c := (c : Int)) ⟨by omega, by have := M.out; omega⟩)
                  have E8 := hid (eqS_yes (f := rowF n F c) (g := rowF n F c) fun _ _ => rfl)
                  go_wp2_with fail
                  refine (pget_any HP8.out c).mono ?_
                  rintro e w9 ⟨rfl, h9⟩
                  rw [hge.out, hgs.out, Int.toNat_natCast]
                  have P9 := hid (HP8.out.on h9)
                  have O9 := hid (OwnS.below HO8.out h9 (Nat.le_refl _))
                  have B9 := hid (HB8.out.trans (h9.mono HB8.out.size))
                  clear h9
                  go_wp2_with ((with_reducible apply stx); rfl; rfl; exact Blk.top zlit rfl)
                  generalize hw11 : World.setRow (World.alloc w9 _) _ _ = w11
                  have b11 := hid (show Blk w11 w9.heap.size 32 (sec (rowF n F c)) by rw [← hw11]; exact (Blk.top zlit rfl).setRow_same _)
                  have h11 : Below w9.heap.size w9 w11 := by rw [← hw11]; exact below_setRow ((Below.refl _ _).alloc (Nat.le_refl _) _) (Nat.le_refl _) _
                  have P11 := hid (P9.out.on h11)
                  have O11 := hid (OwnS.below O9.out h11 (Nat.le_refl _))
                  have B11 := hid (B9.out.trans (h11.mono B9.out.size))
                  clear h11 hw11 P9 O9 B9
                  go_wp2_with fail
                  refine wp_region_tail (C := fun w' => Below w11.heap.size w11 w') 10 (by kernel_rfl) (by kernel_rfl) (by kernel_rfl) (Below.refl _ _).drew ?_
                  simp only [List.take_succ_cons, List.take_zero, List.drop_succ_cons, List.drop_zero]
                  apply wpK_val
                  · rfl
                  · intro w' hw'
                    go_simp
                    first | exact rfl | exact ⟨rfl, hw'⟩
                  simp only [Act.put, List.setIfInBounds_toArray, List.set_cons_succ, List.set_cons_zero]
                  apply wpK_val
                  · rfl
                  · intro w' hw'
                    go_simp
                    first | exact rfl | exact ⟨rfl, hw'⟩
                  simp only [Act.put, List.setIfInBounds_toArray, List.set_cons_succ, List.set_cons_zero]
                  apply wpK_val
                  · rfl
                  · intro w' hw'
                    go_simp
                    first | exact rfl | exact ⟨rfl, hw'⟩
                  simp only [Act.put, List.setIfInBounds_toArray, List.set_cons_succ, List.set_cons_zero]
                  apply kld
                  · rfl
                  · rfl
                  · exact fun w' hw' => b11.out.below hw' b11.out.lt
                  simp only [Act.put, List.setIfInBounds_toArray, List.set_cons_succ, List.set_cons_zero]
                  apply wpK_val
                  · rfl
                  · intro w' hw'
                    go_simp
                    first | exact rfl | exact ⟨rfl, hw'⟩
                  simp only [Act.put, List.setIfInBounds_toArray, List.set_cons_succ, List.set_cons_zero]
                  apply wpK_val
                  · rfl
                  · intro w' hw'
                    go_simp
                    first | exact rfl | exact ⟨rfl, hw'⟩
                  simp only [Act.put, List.setIfInBounds_toArray, List.set_cons_succ, List.set_cons_zero]
                  apply wpK_val
                  · rfl
                  · intro w' hw'
                    go_simp
                    first | exact rfl | exact ⟨rfl, hw'⟩
                  simp only [Act.put, List.setIfInBounds_toArray, List.set_cons_succ, List.set_cons_zero]
                  apply kldm
                  · rfl
                  · rfl
                  · exact fun w' hw' => by have := own_range (OwnS.below O11.out hw' (Nat.le_refl _)) hgo; rwa [Nat.zero_add] at this
                  simp only [Act.put, List.setIfInBounds_toArray, List.set_cons_succ, List.set_cons_zero]
                  apply wpK_val
                  · rfl
                  · intro w' hw'
                    have e1 : eqS (rowF n F c) (rowF n F c) = true := E8.out
                    go_simp
                    first | exact rfl | exact ⟨rfl, hw'⟩
                  simp only [Act.put, List.setIfInBounds_toArray, List.set_cons_succ, List.set_cons_zero]
                  apply wpK_val
                  · rfl
                  · intro w' hw'
                    go_simp
                    first | exact rfl | exact ⟨rfl, hw'⟩
                  simp only [Act.put, List.setIfInBounds_toArray, List.set_cons_succ, List.set_cons_zero]
                  refine wpK_nil fun w12 hw12 => ?_
                  have P12 := hid (P11.out.on hw12)
                  have O12 := hid (OwnS.below O11.out hw12 (Nat.le_refl _))
                  have B12 := hid (B11.out.trans (hw12.mono B11.out.size))
                  clear hw12 P11 O11 B11
                  go_wp2_with fail
                  go_roundw
                  case rel => exact ⟨c + 1, by go_num, by omega, P12, O12, B12⟩
                  case measure => simp [intOf] <;> omega
                · have t1 : ¬ (c : Int) < m := by omega
                  go_wp2_with fail
                  refine (plose_any HP8.out i).mono ?_
                  rintro e w13 ⟨rfl, o13⟩
                  have hn1 : i < (rt n F).n := by show i < n + 2; have := M.out; omega
                  have P13 := hid (show Pr w13 g gc cc gg cg (lz (rt n F) i) by rw [← los_in hn1]; exact o13.1)
                  have B13 := hid (HB8.out.trans (o13.below (B := W.heap.size) HB8.out.size (by have := L0.out; have := G.out; omega) (by have := L0.out; have := G.out; omega)))
                  clear o13
                  go_wp2_with fail
                  refine (plose_any P13.out k).mono ?_
                  rintro e w14 ⟨rfl, o14⟩
                  have hn2 : k < (lz (rt n F) i).n := by show k < n + 2; have := M.out; omega
                  have P14 := hid (show Pr w14 g gc cc gg cg (lz (lz (rt n F) i) k) by rw [← los_in hn2]; exact o14.1)
                  have B14 := hid (B13.out.trans (o14.below (B := W.heap.size) B13.out.size (by have := L0.out; have := G.out; omega) (by have := L0.out; have := G.out; omega)))
                  clear o14 P13 B13
                  go_wp2_with fail
                  refine (plose_any P14.out q).mono ?_
                  rintro e w15 ⟨rfl, o15⟩
                  have hn3 : q < (lz (lz (rt n F) i) k).n := by show q < n + 2; have := M.out; omega
                  have P15 := hid (show Pr w15 g gc cc gg cg (lz (lz (lz (rt n F) i) k) q) by rw [← los_in hn3]; exact o15.1)
                  have B15 := hid (B14.out.trans (o15.below (B := W.heap.size) B14.out.size (by have := L0.out; have := G.out; omega) (by have := L0.out; have := G.out; omega)))
                  clear o15 P14 B14
                  have K3 := hid (lz_ok (lz_ok (lz_ok (rt_ok h2 h62 HF.out) hn1) hn2) hn3)
                  have hL3 := hid (show (lz (lz (lz (rt n F) i) k) q).lost.length = 3 from lz3_len (by have := M.out; omega) (by have := M.out; omega) (by have := M.out; omega) hik hkq hiq)
                  obtain ⟨bE, bL, bT⟩ := back3 h2 h62 HF.out K3.out rfl rfl hL3.out
                  have T4 : menT (lz (lz (lz (rt n F) i) k) q) = lz (lz (lz (rt n F) i) k) q := bT
                  go_wp2_with fail
                  refine (pmend_any P15.out).mono ?_
                  rintro e w16 ⟨A16, c16, rfl, _, o16⟩
                  rw [bE, bL]
                  have P16 := hid (show Pr w16 g gc cc gg cg (lz (lz (lz (rt n F) i) k) q) by rw [← T4]; exact o16.1)
                  have hN := hL3
                  have B16 := hid (B15.out.trans (o16.below (B := W.heap.size) B15.out.size (by have := L0.out; have := G.out; omega) (by have := L0.out; have := G.out; omega)))
                  clear o16 P15 B15 bE bL bT T4 hL3
                  go_wp2_with fail
                  refine (plost_any P16.out).mono ?_
                  rintro e w17 ⟨v, rfl, oi, h17⟩
                  obtain ⟨A17, c17, rfl⟩ := OwnI.len oi
                  rw [hN.out]
                  have B17 := hid (B16.out.trans (h17.mono B16.out.size))
                  clear h17 oi
                  go_wp2_with fail
                  refine (works_any w17).mono ?_
                  rintro e w18 ⟨rfl, h18⟩
                  have B18 := hid (B17.out.trans (h18.mono B17.out.size))
                  clear h18
                  go_wp2_with fail
                  go_ret
                  exact ⟨rfl, B18.out⟩
        · subst hiq
          have tik : ((i : Int) != (k : Int)) = true := by rw [bne_iff_ne]; omega
          have tike : ((i : Int) == (k : Int)) = false := by rw [beq_eq_false_iff_ne]; omega
          have tki : ((k : Int) != (i : Int)) = true := by rw [bne_iff_ne]; omega
          have tkie : ((k : Int) == (i : Int)) = false := by rw [beq_eq_false_iff_ne]; omega
          go_wp2_with fail
          go_loopw [12, 13] (fun u12 u13 wr => ∃ c : Nat, u13 = .int .i64 c ∧ c ≤ m ∧ Hid (OwnS wr w2.heap.size u12 c (rowF n F)) ∧ Hid (Pr wr g gc cc gg cg (rt n F)) ∧ Hid (Below w3.heap.size w3 wr ∨ Below w2.heap.size w3 wr)) (fun _ u13 _ => m - (intOf u13).toNat)
          case atStart => exact ⟨0, rfl, Nat.zero_le _, hid (World.ownsRow_nil _ _ _ _), P3, hid (.inr (Below.refl _ _))⟩
          case round =>
            obtain ⟨c, rfl, hc, HO, HP, HB0⟩ := hrel
            have HB := hid (show Below w2.heap.size w3 wr from HB0.out.elim (fun h => h.mono N3.out.size) id)
            clear HB0
            by_cases hgo : c < m
            · have t1 : (c : Int) < m := by omega
              have hge := hid (rt_getE (m := n) (D := F) (c := (c : Int)) ⟨by omega, by have := M.out; omega⟩)
              have hgs := hid (rt_getS (m := n) (D := F) (c := (c : Int)) ⟨by omega, by have := M.out; omega⟩)
              go_wp2_with fail
              refine (pget_any HP.out c).mono ?_
              rintro e w9 ⟨rfl, h9⟩
              rw [hge.out, hgs.out, Int.toNat_natCast]
              have P9 := hid (HP.out.on h9)
              have O9 := hid (OwnS.below HO.out h9 (Nat.le_refl _))
              have B9 := hid (HB.out.trans (h9.mono (Nat.le_trans N3.out.size HB.out.size)))
              clear h9
              go_upto_region 11 with (first | ((with_reducible apply stx); rfl; rfl; exact Blk.top zlit rfl))
              generalize hw10 : World.setRow (World.alloc w9 _) _ _ = w10
              have b10 := hid (show Blk w10 w9.heap.size 32 (sec (rowF n F c)) by rw [← hw10]; exact (Blk.top zlit rfl).setRow_same _)
              have h10 : Below w9.heap.size w9 w10 := by rw [← hw10]; exact below_setRow ((Below.refl _ _).alloc (Nat.le_refl _) _) (Nat.le_refl _) _
              have P10 := hid (P9.out.on h10)
              have O10 := hid (OwnS.below O9.out h10 (Nat.le_refl _))
              have B10 := hid (B9.out.trans (h10.mono (Nat.le_trans N3.out.size B9.out.size)))
              have ha := hid ((Below.refl w10.heap.size w10).alloc (Nat.le_refl _) (.cells (secL (rowF n F c)).toArray 32))
              have O11 := hid (OwnS.below O10.out ha.out (Nat.le_refl _))
              have hsz := hid (show w2.heap.size ≤ (w10.alloc (.cells (secL (rowF n F c)).toArray 32)).heap.size from Nat.le_trans (Nat.le_trans N3.out.size B10.out.size) ha.out.size)
              clear h10 hw10 P9 O9 B9
              go_wp2_with (first | ((with_reducible apply ld); rfl; exact b10.out) | ((with_reducible apply wlit1 eltSe undSe (x := rowF n F c)); omega; rfl; rfl) | ((with_reducible apply wapp (n := c) (m := 1)); rfl; rfl; exact O11.out; exact secs_one' (Blk.new _ _ _); omega; exact hsz.out; intro v5 w5 o5 g5 n5; have O5 := hid (o5.mono (G := rowF n F) fun i k hi _ => by unfold catF; split; rfl; (rw [show i = c by omega])); have D5 := hid (Below.grown (show Below w2.heap.size w3 _ from B10.out.trans (ha.out.mono (Nat.le_trans N3.out.size B10.out.size))) g5 hsz.out fun x e => (World.ownsRow.lt O11.out x e).1); have P5 := hid (P10.out.turn (T := fun b => w2.heap.size ≤ b) ((Turn.of_new (S := fun b => w2.heap.size ≤ b) ha.out).trans (Turn.of_grown (S := fun b => w2.heap.size ≤ b) g5 fun x e => (World.ownsRow.lt O11.out x e).1) fun _ e => .inl e) (show ¬ w2.heap.size ≤ g by have := L2.out; omega) (show ¬ w2.heap.size ≤ gc by have := L2.out; omega) (show ¬ w2.heap.size ≤ gg by have := L2.out; omega)); clear o5 g5 n5))
              go_roundw
              case rel => exact ⟨c + 1, by go_num, by omega, O5, P5, hid (.inr D5.out)⟩
              case measure => simp [intOf] <;> omega
            · have t1 : ¬ (c : Int) < m := by omega
              have hcm : c = m := by omega
              have O4 := hid (show OwnS wr w2.heap.size u12 m (rowF n F) by have h := HO.out; rw [hcm] at h; exact h)
              obtain ⟨g6, c6, rfl, hb6⟩ := own_form O4.out (by omega)
              have D6 := hid (show g < g6 ∧ gc < g6 ∧ gg < g6 by have := L2.out; omega)
              have P4 := HP
              have bz4 := hid (show Blk wr (W.heap.size + 1) 32 (sec z) from bz3.out.below HB.out (by have := L0.out; have := G.out; have := L2.out; omega))
              have B4 := hid (show Below W.heap.size W wr from B3.out.trans (HB.out.mono (by have := L0.out; have := G.out; have := L2.out; omega)))
              clear hcm HO HP HB hb6
              go_wp2_with ((with_reducible apply ld); rfl; exact bz4.out)
              refine (pput_any P4.out i z HZ.out).mono ?_
              rintro e w5 ⟨rfl, o5⟩
              have P5 := hid o5.1
              have B5 := hid (B4.out.trans (o5.below (B := W.heap.size) B4.out.size (by have := L0.out; have := G.out; omega) (by have := L0.out; have := G.out; omega)))
              have bz5 := hid (bz4.out.turn o5.2 (by have := L0.out; have := G.out; omega))
              have O5 := hid (ownS_turn O4.out o5.2 fun b e => by cases e; show ¬ (g6 = gc ∨ g6 = gg); have := D6.out; omega)
              clear o5 P4 B4 bz4 O4
              go_wp2_with fail
              refine (plose_any P5.out i).mono ?_
              rintro e w6 ⟨rfl, o6⟩
              have hn1 : i < (rt n F).n := by show i < n + 2; have := M.out; omega
              have K1 := hid (lz_ok (rt_ok h2 h62 HF.out) hn1)
              have P6 := hid (o6.1.to (put_lose hn1 z) K1.out)
              have B6 := hid (B5.out.trans (o6.below (B := W.heap.size) B5.out.size (by have := L0.out; have := G.out; omega) (by have := L0.out; have := G.out; omega)))
              have bz6 := hid (bz5.out.turn o6.2 (by have := L0.out; have := G.out; omega))
              have O6 := hid (ownS_turn O5.out o6.2 fun b e => by cases e; show ¬ (g6 = gc ∨ g6 = gg); have := D6.out; omega)
              clear o6 P5 B5 bz5 O5
              go_wp2_with ((with_reducible apply ld); rfl; exact bz6.out)
              refine (pput_any P6.out k z HZ.out).mono ?_
              rintro e w7 ⟨rfl, o7⟩
              have P7 := hid o7.1
              have B7 := hid (B6.out.trans (o7.below (B := W.heap.size) B6.out.size (by have := L0.out; have := G.out; omega) (by have := L0.out; have := G.out; omega)))
              have O7 := hid (ownS_turn O6.out o7.2 fun b e => by cases e; show ¬ (g6 = gc ∨ g6 = gg); have := D6.out; omega)
              clear o7 P6 B6 bz6 O6
              go_wp2_with fail
              refine (plose_any P7.out k).mono ?_
              rintro e w8 ⟨rfl, o8⟩
              have hn2 : k < (lz (rt n F) i).n := by show k < n + 2; have := M.out; omega
              have K2 := hid (lz_ok K1.out hn2)
              have P8 := hid (o8.1.to (put_lose hn2 z) K2.out)
              have B8 := hid (B7.out.trans (o8.below (B := W.heap.size) B7.out.size (by have := L0.out; have := G.out; omega) (by have := L0.out; have := G.out; omega)))
              have O8 := hid (ownS_turn O7.out o8.2 fun b e => by cases e; show ¬ (g6 = gc ∨ g6 = gg); have := D6.out; omega)
              clear o8 P7 B7 O7
              have hL2 := hid (show (lz (lz (rt n F) i) k).lost.length = 2 from lz2_len (by have := M.out; omega) (by have := M.out; omega) hik)
              obtain ⟨bE, bL, bT⟩ := back2 h2 h62 HF.out K2.out rfl rfl (by have := hL2.out; omega)
              go_wp2_with fail
              refine (pmend_any P8.out).mono ?_
              rintro e w9 ⟨A9, c9, rfl, _, o9⟩
              rw [bE, bL, hL2.out]
              have P9 := hid (o9.1.to bT (rt_ok h2 h62 HF.out))
              have B9 := hid (B8.out.trans (o9.below (B := W.heap.size) B8.out.size (by have := L0.out; have := G.out; omega) (by have := L0.out; have := G.out; omega)))
              have O9 := hid (ownS_turn O8.out o9.2 fun b e => by cases e; show ¬ (g6 = gc ∨ g6 = gg); have := D6.out; omega)
              clear o9 P8 B8 O8 bE bL bT hL2
              go_wp2_with fail
              refine (pright_any P9.out).mono ?_
              rintro e w10 ⟨rfl, h10⟩
              rw [rt_right h2 h62 HF.out]
              have P10 := hid (P9.out.on h10)
              have B10 := hid (B9.out.trans (h10.mono B9.out.size))
              have O10 := hid (OwnS.below O9.out h10 (Nat.le_refl _))
              clear h10 P9 B9 O9
              go_wp2_with fail
              go_loopw [18] (fun uu wq => ∃ c : Nat, uu = .int .i64 c ∧ c ≤ m ∧ Hid (Pr wq g gc cc gg cg (rt n F)) ∧ Hid (OwnS wq w2.heap.size (.slice (some ⟨g6, 0, none⟩) m c6) m (rowF n F)) ∧ Hid (Below W.heap.size W wq)) (fun uu _ => m - (intOf uu).toNat)
              case atStart => exact ⟨0, rfl, Nat.zero_le _, P10, O10, B10⟩
              case round =>
                obtain ⟨c, rfl, hc, HP8, HO8, HB8⟩ := hrel
                by_cases hgo : c < m
                · have t1 : (c : Int) < m := by omega
                  have hge := hid (rt_getE (m := n) (D := F) (c := (c : Int)) ⟨by omega, by have := M.out; omega⟩)
                  have hgs := hid (rt_getS (m := n) (D := F) (c := (c : Int)) ⟨by omega, by have := M.out; omega⟩)
                  have E8 := hid (eqS_yes (f := rowF n F c) (g := rowF n F c) fun _ _ => rfl)
                  go_wp2_with fail
                  refine (pget_any HP8.out c).mono ?_
                  rintro e w9 ⟨rfl, h9⟩
                  rw [hge.out, hgs.out, Int.toNat_natCast]
                  have P9 := hid (HP8.out.on h9)
                  have O9 := hid (OwnS.below HO8.out h9 (Nat.le_refl _))
                  have B9 := hid (HB8.out.trans (h9.mono HB8.out.size))
                  clear h9
                  go_wp2_with ((with_reducible apply stx); rfl; rfl; exact Blk.top zlit rfl)
                  generalize hw11 : World.setRow (World.alloc w9 _) _ _ = w11
                  have b11 := hid (show Blk w11 w9.heap.size 32 (sec (rowF n F c)) by rw [← hw11]; exact (Blk.top zlit rfl).setRow_same _)
                  have h11 : Below w9.heap.size w9 w11 := by rw [← hw11]; exact below_setRow ((Below.refl _ _).alloc (Nat.le_refl _) _) (Nat.le_refl _) _
                  have P11 := hid (P9.out.on h11)
                  have O11 := hid (OwnS.below O9.out h11 (Nat.le_refl _))
                  have B11 := hid (B9.out.trans (h11.mono B9.out.size))
                  clear h11 hw11 P9 O9 B9
                  go_wp2_with fail
                  refine wp_region_tail (C := fun w' => Below w11.heap.size w11 w') 10 (by kernel_rfl) (by kernel_rfl) (by kernel_rfl) (Below.refl _ _).drew ?_
                  simp only [List.take_succ_cons, List.take_zero, List.drop_succ_cons, List.drop_zero]
                  apply wpK_val
                  · rfl
                  · intro w' hw'
                    go_simp
                    first | exact rfl | exact ⟨rfl, hw'⟩
                  simp only [Act.put, List.setIfInBounds_toArray, List.set_cons_succ, List.set_cons_zero]
                  apply wpK_val
                  · rfl
                  · intro w' hw'
                    go_simp
                    first | exact rfl | exact ⟨rfl, hw'⟩
                  simp only [Act.put, List.setIfInBounds_toArray, List.set_cons_succ, List.set_cons_zero]
                  apply wpK_val
                  · rfl
                  · intro w' hw'
                    go_simp
                    first | exact rfl | exact ⟨rfl, hw'⟩
                  simp only [Act.put, List.setIfInBounds_toArray, List.set_cons_succ, List.set_cons_zero]
                  apply kld
                  · rfl
                  · rfl
                  · exact fun w' hw' => b11.out.below hw' b11.out.lt
                  simp only [Act.put, List.setIfInBounds_toArray, List.set_cons_succ, List.set_cons_zero]
                  apply wpK_val
                  · rfl
                  · intro w' hw'
                    go_simp
                    first | exact rfl | exact ⟨rfl, hw'⟩
                  simp only [Act.put, List.setIfInBounds_toArray, List.set_cons_succ, List.set_cons_zero]
                  apply wpK_val
                  · rfl
                  · intro w' hw'
                    go_simp
                    first | exact rfl | exact ⟨rfl, hw'⟩
                  simp only [Act.put, List.setIfInBounds_toArray, List.set_cons_succ, List.set_cons_zero]
                  apply wpK_val
                  · rfl
                  · intro w' hw'
                    go_simp
                    first | exact rfl | exact ⟨rfl, hw'⟩
                  simp only [Act.put, List.setIfInBounds_toArray, List.set_cons_succ, List.set_cons_zero]
                  apply kldm
                  · rfl
                  · rfl
                  · exact fun w' hw' => by have := own_range (OwnS.below O11.out hw' (Nat.le_refl _)) hgo; rwa [Nat.zero_add] at this
                  simp only [Act.put, List.setIfInBounds_toArray, List.set_cons_succ, List.set_cons_zero]
                  apply wpK_val
                  · rfl
                  · intro w' hw'
                    have e1 : eqS (rowF n F c) (rowF n F c) = true := E8.out
                    go_simp
                    first | exact rfl | exact ⟨rfl, hw'⟩
                  simp only [Act.put, List.setIfInBounds_toArray, List.set_cons_succ, List.set_cons_zero]
                  apply wpK_val
                  · rfl
                  · intro w' hw'
                    go_simp
                    first | exact rfl | exact ⟨rfl, hw'⟩
                  simp only [Act.put, List.setIfInBounds_toArray, List.set_cons_succ, List.set_cons_zero]
                  refine wpK_nil fun w12 hw12 => ?_
                  have P12 := hid (P11.out.on hw12)
                  have O12 := hid (OwnS.below O11.out hw12 (Nat.le_refl _))
                  have B12 := hid (B11.out.trans (hw12.mono B11.out.size))
                  clear hw12 P11 O11 B11
                  go_wp2_with fail
                  go_roundw
                  case rel => exact ⟨c + 1, by go_num, by omega, P12, O12, B12⟩
                  case measure => simp [intOf] <;> omega
                · have t1 : ¬ (c : Int) < m := by omega
                  go_wp2_with fail
                  refine (plose_any HP8.out i).mono ?_
                  rintro e w13 ⟨rfl, o13⟩
                  have hn1 : i < (rt n F).n := by show i < n + 2; have := M.out; omega
                  have P13 := hid (show Pr w13 g gc cc gg cg (lz (rt n F) i) by rw [← los_in hn1]; exact o13.1)
                  have B13 := hid (HB8.out.trans (o13.below (B := W.heap.size) HB8.out.size (by have := L0.out; have := G.out; omega) (by have := L0.out; have := G.out; omega)))
                  clear o13
                  go_wp2_with fail
                  refine (plose_any P13.out k).mono ?_
                  rintro e w14 ⟨rfl, o14⟩
                  have hn2 : k < (lz (rt n F) i).n := by show k < n + 2; have := M.out; omega
                  have P14 := hid (show Pr w14 g gc cc gg cg (lz (lz (rt n F) i) k) by rw [← los_in hn2]; exact o14.1)
                  have B14 := hid (B13.out.trans (o14.below (B := W.heap.size) B13.out.size (by have := L0.out; have := G.out; omega) (by have := L0.out; have := G.out; omega)))
                  clear o14 P13 B13
                  go_wp2_with fail
                  refine (plose_any P14.out i).mono ?_
                  rintro e w15 ⟨rfl, o15⟩
                  have hn3 : i < (lz (lz (rt n F) i) k).n := by show i < n + 2; have := M.out; omega
                  have P15 := hid (show Pr w15 g gc cc gg cg (lz (lz (lz (rt n F) i) k) i) by rw [← los_in hn3]; exact o15.1)
                  have B15 := hid (B14.out.trans (o15.below (B := W.heap.size) B14.out.size (by have := L0.out; have := G.out; omega) (by have := L0.out; have := G.out; omega)))
                  clear o15 P14 B14
                  have K3 := hid (lz_ok (lz_ok (lz_ok (rt_ok h2 h62 HF.out) hn1) hn2) hn3)
                  obtain ⟨bE, bL, bT⟩ := back2 h2 h62 HF.out K3.out rfl rfl (lz3_few (by have := M.out; omega) (by have := M.out; omega) (by have := M.out; omega) (.inr (.inr rfl)))
                  go_wp2_with fail
                  refine (pmend_any P15.out).mono ?_
                  rintro e w16 ⟨A16, c16, rfl, _, o16⟩
                  rw [bE, bL]
                  have P16 := hid (o16.1.to bT (rt_ok h2 h62 HF.out))
                  have hN := hid (show (rt n F).lost.length = 0 by rw [rt_lost]; rfl)
                  have B16 := hid (B15.out.trans (o16.below (B := W.heap.size) B15.out.size (by have := L0.out; have := G.out; omega) (by have := L0.out; have := G.out; omega)))
                  clear o16 P15 B15 bE bL bT
                  go_wp2_with fail
                  refine (plost_any P16.out).mono ?_
                  rintro e w17 ⟨v, rfl, oi, h17⟩
                  obtain ⟨A17, c17, rfl⟩ := OwnI.len oi
                  rw [hN.out]
                  have B17 := hid (B16.out.trans (h17.mono B16.out.size))
                  clear h17 oi
                  go_wp2_with fail
                  refine (works_any w17).mono ?_
                  rintro e w18 ⟨rfl, h18⟩
                  have B18 := hid (B17.out.trans (h18.mono B17.out.size))
                  clear h18
                  go_wp2_with fail
                  go_ret
                  exact ⟨rfl, B18.out⟩
      · subst hkq
        have tik : ((i : Int) != (k : Int)) = true := by rw [bne_iff_ne]; omega
        have tike : ((i : Int) == (k : Int)) = false := by rw [beq_eq_false_iff_ne]; omega
        go_wp2_with fail
        go_loopw [12, 13] (fun u12 u13 wr => ∃ c : Nat, u13 = .int .i64 c ∧ c ≤ m ∧ Hid (OwnS wr w2.heap.size u12 c (rowF n F)) ∧ Hid (Pr wr g gc cc gg cg (rt n F)) ∧ Hid (Below w3.heap.size w3 wr ∨ Below w2.heap.size w3 wr)) (fun _ u13 _ => m - (intOf u13).toNat)
        case atStart => exact ⟨0, rfl, Nat.zero_le _, hid (World.ownsRow_nil _ _ _ _), P3, hid (.inr (Below.refl _ _))⟩
        case round =>
          obtain ⟨c, rfl, hc, HO, HP, HB0⟩ := hrel
          have HB := hid (show Below w2.heap.size w3 wr from HB0.out.elim (fun h => h.mono N3.out.size) id)
          clear HB0
          by_cases hgo : c < m
          · have t1 : (c : Int) < m := by omega
            have hge := hid (rt_getE (m := n) (D := F) (c := (c : Int)) ⟨by omega, by have := M.out; omega⟩)
            have hgs := hid (rt_getS (m := n) (D := F) (c := (c : Int)) ⟨by omega, by have := M.out; omega⟩)
            go_wp2_with fail
            refine (pget_any HP.out c).mono ?_
            rintro e w9 ⟨rfl, h9⟩
            rw [hge.out, hgs.out, Int.toNat_natCast]
            have P9 := hid (HP.out.on h9)
            have O9 := hid (OwnS.below HO.out h9 (Nat.le_refl _))
            have B9 := hid (HB.out.trans (h9.mono (Nat.le_trans N3.out.size HB.out.size)))
            clear h9
            go_upto_region 11 with (first | ((with_reducible apply stx); rfl; rfl; exact Blk.top zlit rfl))
            generalize hw10 : World.setRow (World.alloc w9 _) _ _ = w10
            have b10 := hid (show Blk w10 w9.heap.size 32 (sec (rowF n F c)) by rw [← hw10]; exact (Blk.top zlit rfl).setRow_same _)
            have h10 : Below w9.heap.size w9 w10 := by rw [← hw10]; exact below_setRow ((Below.refl _ _).alloc (Nat.le_refl _) _) (Nat.le_refl _) _
            have P10 := hid (P9.out.on h10)
            have O10 := hid (OwnS.below O9.out h10 (Nat.le_refl _))
            have B10 := hid (B9.out.trans (h10.mono (Nat.le_trans N3.out.size B9.out.size)))
            have ha := hid ((Below.refl w10.heap.size w10).alloc (Nat.le_refl _) (.cells (secL (rowF n F c)).toArray 32))
            have O11 := hid (OwnS.below O10.out ha.out (Nat.le_refl _))
            have hsz := hid (show w2.heap.size ≤ (w10.alloc (.cells (secL (rowF n F c)).toArray 32)).heap.size from Nat.le_trans (Nat.le_trans N3.out.size B10.out.size) ha.out.size)
            clear h10 hw10 P9 O9 B9
            go_wp2_with (first | ((with_reducible apply ld); rfl; exact b10.out) | ((with_reducible apply wlit1 eltSe undSe (x := rowF n F c)); omega; rfl; rfl) | ((with_reducible apply wapp (n := c) (m := 1)); rfl; rfl; exact O11.out; exact secs_one' (Blk.new _ _ _); omega; exact hsz.out; intro v5 w5 o5 g5 n5; have O5 := hid (o5.mono (G := rowF n F) fun i k hi _ => by unfold catF; split; rfl; (rw [show i = c by omega])); have D5 := hid (Below.grown (show Below w2.heap.size w3 _ from B10.out.trans (ha.out.mono (Nat.le_trans N3.out.size B10.out.size))) g5 hsz.out fun x e => (World.ownsRow.lt O11.out x e).1); have P5 := hid (P10.out.turn (T := fun b => w2.heap.size ≤ b) ((Turn.of_new (S := fun b => w2.heap.size ≤ b) ha.out).trans (Turn.of_grown (S := fun b => w2.heap.size ≤ b) g5 fun x e => (World.ownsRow.lt O11.out x e).1) fun _ e => .inl e) (show ¬ w2.heap.size ≤ g by have := L2.out; omega) (show ¬ w2.heap.size ≤ gc by have := L2.out; omega) (show ¬ w2.heap.size ≤ gg by have := L2.out; omega)); clear o5 g5 n5))
            go_roundw
            case rel => exact ⟨c + 1, by go_num, by omega, O5, P5, hid (.inr D5.out)⟩
            case measure => simp [intOf] <;> omega
          · have t1 : ¬ (c : Int) < m := by omega
            have hcm : c = m := by omega
            have O4 := hid (show OwnS wr w2.heap.size u12 m (rowF n F) by have h := HO.out; rw [hcm] at h; exact h)
            obtain ⟨g6, c6, rfl, hb6⟩ := own_form O4.out (by omega)
            have D6 := hid (show g < g6 ∧ gc < g6 ∧ gg < g6 by have := L2.out; omega)
            have P4 := HP
            have bz4 := hid (show Blk wr (W.heap.size + 1) 32 (sec z) from bz3.out.below HB.out (by have := L0.out; have := G.out; have := L2.out; omega))
            have B4 := hid (show Below W.heap.size W wr from B3.out.trans (HB.out.mono (by have := L0.out; have := G.out; have := L2.out; omega)))
            clear hcm HO HP HB hb6
            go_wp2_with ((with_reducible apply ld); rfl; exact bz4.out)
            refine (pput_any P4.out i z HZ.out).mono ?_
            rintro e w5 ⟨rfl, o5⟩
            have P5 := hid o5.1
            have B5 := hid (B4.out.trans (o5.below (B := W.heap.size) B4.out.size (by have := L0.out; have := G.out; omega) (by have := L0.out; have := G.out; omega)))
            have bz5 := hid (bz4.out.turn o5.2 (by have := L0.out; have := G.out; omega))
            have O5 := hid (ownS_turn O4.out o5.2 fun b e => by cases e; show ¬ (g6 = gc ∨ g6 = gg); have := D6.out; omega)
            clear o5 P4 B4 bz4 O4
            go_wp2_with fail
            refine (plose_any P5.out i).mono ?_
            rintro e w6 ⟨rfl, o6⟩
            have hn1 : i < (rt n F).n := by show i < n + 2; have := M.out; omega
            have K1 := hid (lz_ok (rt_ok h2 h62 HF.out) hn1)
            have P6 := hid (o6.1.to (put_lose hn1 z) K1.out)
            have B6 := hid (B5.out.trans (o6.below (B := W.heap.size) B5.out.size (by have := L0.out; have := G.out; omega) (by have := L0.out; have := G.out; omega)))
            have bz6 := hid (bz5.out.turn o6.2 (by have := L0.out; have := G.out; omega))
            have O6 := hid (ownS_turn O5.out o6.2 fun b e => by cases e; show ¬ (g6 = gc ∨ g6 = gg); have := D6.out; omega)
            clear o6 P5 B5 bz5 O5
            go_wp2_with ((with_reducible apply ld); rfl; exact bz6.out)
            refine (pput_any P6.out k z HZ.out).mono ?_
            rintro e w7 ⟨rfl, o7⟩
            have P7 := hid o7.1
            have B7 := hid (B6.out.trans (o7.below (B := W.heap.size) B6.out.size (by have := L0.out; have := G.out; omega) (by have := L0.out; have := G.out; omega)))
            have O7 := hid (ownS_turn O6.out o7.2 fun b e => by cases e; show ¬ (g6 = gc ∨ g6 = gg); have := D6.out; omega)
            clear o7 P6 B6 bz6 O6
            go_wp2_with fail
            refine (plose_any P7.out k).mono ?_
            rintro e w8 ⟨rfl, o8⟩
            have hn2 : k < (lz (rt n F) i).n := by show k < n + 2; have := M.out; omega
            have K2 := hid (lz_ok K1.out hn2)
            have P8 := hid (o8.1.to (put_lose hn2 z) K2.out)
            have B8 := hid (B7.out.trans (o8.below (B := W.heap.size) B7.out.size (by have := L0.out; have := G.out; omega) (by have := L0.out; have := G.out; omega)))
            have O8 := hid (ownS_turn O7.out o8.2 fun b e => by cases e; show ¬ (g6 = gc ∨ g6 = gg); have := D6.out; omega)
            clear o8 P7 B7 O7
            have hL2 := hid (show (lz (lz (rt n F) i) k).lost.length = 2 from lz2_len (by have := M.out; omega) (by have := M.out; omega) hik)
            obtain ⟨bE, bL, bT⟩ := back2 h2 h62 HF.out K2.out rfl rfl (by have := hL2.out; omega)
            go_wp2_with fail
            refine (pmend_any P8.out).mono ?_
            rintro e w9 ⟨A9, c9, rfl, _, o9⟩
            rw [bE, bL, hL2.out]
            have P9 := hid (o9.1.to bT (rt_ok h2 h62 HF.out))
            have B9 := hid (B8.out.trans (o9.below (B := W.heap.size) B8.out.size (by have := L0.out; have := G.out; omega) (by have := L0.out; have := G.out; omega)))
            have O9 := hid (ownS_turn O8.out o9.2 fun b e => by cases e; show ¬ (g6 = gc ∨ g6 = gg); have := D6.out; omega)
            clear o9 P8 B8 O8 bE bL bT hL2
            go_wp2_with fail
            refine (pright_any P9.out).mono ?_
            rintro e w10 ⟨rfl, h10⟩
            rw [rt_right h2 h62 HF.out]
            have P10 := hid (P9.out.on h10)
            have B10 := hid (B9.out.trans (h10.mono B9.out.size))
            have O10 := hid (OwnS.below O9.out h10 (Nat.le_refl _))
            clear h10 P9 B9 O9
            go_wp2_with fail
            go_loopw [18] (fun uu wq => ∃ c : Nat, uu = .int .i64 c ∧ c ≤ m ∧ Hid (Pr wq g gc cc gg cg (rt n F)) ∧ Hid (OwnS wq w2.heap.size (.slice (some ⟨g6, 0, none⟩) m c6) m (rowF n F)) ∧ Hid (Below W.heap.size W wq)) (fun uu _ => m - (intOf uu).toNat)
            case atStart => exact ⟨0, rfl, Nat.zero_le _, P10, O10, B10⟩
            case round =>
              obtain ⟨c, rfl, hc, HP8, HO8, HB8⟩ := hrel
              by_cases hgo : c < m
              · have t1 : (c : Int) < m := by omega
                have hge := hid (rt_getE (m := n) (D := F) (c := (c : Int)) ⟨by omega, by have := M.out; omega⟩)
                have hgs := hid (rt_getS (m := n) (D := F) (c := (c : Int)) ⟨by omega, by have := M.out; omega⟩)
                have E8 := hid (eqS_yes (f := rowF n F c) (g := rowF n F c) fun _ _ => rfl)
                go_wp2_with fail
                refine (pget_any HP8.out c).mono ?_
                rintro e w9 ⟨rfl, h9⟩
                rw [hge.out, hgs.out, Int.toNat_natCast]
                have P9 := hid (HP8.out.on h9)
                have O9 := hid (OwnS.below HO8.out h9 (Nat.le_refl _))
                have B9 := hid (HB8.out.trans (h9.mono HB8.out.size))
                clear h9
                go_wp2_with ((with_reducible apply stx); rfl; rfl; exact Blk.top zlit rfl)
                generalize hw11 : World.setRow (World.alloc w9 _) _ _ = w11
                have b11 := hid (show Blk w11 w9.heap.size 32 (sec (rowF n F c)) by rw [← hw11]; exact (Blk.top zlit rfl).setRow_same _)
                have h11 : Below w9.heap.size w9 w11 := by rw [← hw11]; exact below_setRow ((Below.refl _ _).alloc (Nat.le_refl _) _) (Nat.le_refl _) _
                have P11 := hid (P9.out.on h11)
                have O11 := hid (OwnS.below O9.out h11 (Nat.le_refl _))
                have B11 := hid (B9.out.trans (h11.mono B9.out.size))
                clear h11 hw11 P9 O9 B9
                go_wp2_with fail
                refine wp_region_tail (C := fun w' => Below w11.heap.size w11 w') 10 (by kernel_rfl) (by kernel_rfl) (by kernel_rfl) (Below.refl _ _).drew ?_
                simp only [List.take_succ_cons, List.take_zero, List.drop_succ_cons, List.drop_zero]
                apply wpK_val
                · rfl
                · intro w' hw'
                  go_simp
                  first | exact rfl | exact ⟨rfl, hw'⟩
                simp only [Act.put, List.setIfInBounds_toArray, List.set_cons_succ, List.set_cons_zero]
                apply wpK_val
                · rfl
                · intro w' hw'
                  go_simp
                  first | exact rfl | exact ⟨rfl, hw'⟩
                simp only [Act.put, List.setIfInBounds_toArray, List.set_cons_succ, List.set_cons_zero]
                apply wpK_val
                · rfl
                · intro w' hw'
                  go_simp
                  first | exact rfl | exact ⟨rfl, hw'⟩
                simp only [Act.put, List.setIfInBounds_toArray, List.set_cons_succ, List.set_cons_zero]
                apply kld
                · rfl
                · rfl
                · exact fun w' hw' => b11.out.below hw' b11.out.lt
                simp only [Act.put, List.setIfInBounds_toArray, List.set_cons_succ, List.set_cons_zero]
                apply wpK_val
                · rfl
                · intro w' hw'
                  go_simp
                  first | exact rfl | exact ⟨rfl, hw'⟩
                simp only [Act.put, List.setIfInBounds_toArray, List.set_cons_succ, List.set_cons_zero]
                apply wpK_val
                · rfl
                · intro w' hw'
                  go_simp
                  first | exact rfl | exact ⟨rfl, hw'⟩
                simp only [Act.put, List.setIfInBounds_toArray, List.set_cons_succ, List.set_cons_zero]
                apply wpK_val
                · rfl
                · intro w' hw'
                  go_simp
                  first | exact rfl | exact ⟨rfl, hw'⟩
                simp only [Act.put, List.setIfInBounds_toArray, List.set_cons_succ, List.set_cons_zero]
                apply kldm
                · rfl
                · rfl
                · exact fun w' hw' => by have := own_range (OwnS.below O11.out hw' (Nat.le_refl _)) hgo; rwa [Nat.zero_add] at this
                simp only [Act.put, List.setIfInBounds_toArray, List.set_cons_succ, List.set_cons_zero]
                apply wpK_val
                · rfl
                · intro w' hw'
                  have e1 : eqS (rowF n F c) (rowF n F c) = true := E8.out
                  go_simp
                  first | exact rfl | exact ⟨rfl, hw'⟩
                simp only [Act.put, List.setIfInBounds_toArray, List.set_cons_succ, List.set_cons_zero]
                apply wpK_val
                · rfl
                · intro w' hw'
                  go_simp
                  first | exact rfl | exact ⟨rfl, hw'⟩
                simp only [Act.put, List.setIfInBounds_toArray, List.set_cons_succ, List.set_cons_zero]
                refine wpK_nil fun w12 hw12 => ?_
                have P12 := hid (P11.out.on hw12)
                have O12 := hid (OwnS.below O11.out hw12 (Nat.le_refl _))
                have B12 := hid (B11.out.trans (hw12.mono B11.out.size))
                clear hw12 P11 O11 B11
                go_wp2_with fail
                go_roundw
                case rel => exact ⟨c + 1, by go_num, by omega, P12, O12, B12⟩
                case measure => simp [intOf] <;> omega
              · have t1 : ¬ (c : Int) < m := by omega
                go_wp2_with fail
                refine (plose_any HP8.out i).mono ?_
                rintro e w13 ⟨rfl, o13⟩
                have hn1 : i < (rt n F).n := by show i < n + 2; have := M.out; omega
                have P13 := hid (show Pr w13 g gc cc gg cg (lz (rt n F) i) by rw [← los_in hn1]; exact o13.1)
                have B13 := hid (HB8.out.trans (o13.below (B := W.heap.size) HB8.out.size (by have := L0.out; have := G.out; omega) (by have := L0.out; have := G.out; omega)))
                clear o13
                go_wp2_with fail
                refine (plose_any P13.out k).mono ?_
                rintro e w14 ⟨rfl, o14⟩
                have hn2 : k < (lz (rt n F) i).n := by show k < n + 2; have := M.out; omega
                have P14 := hid (show Pr w14 g gc cc gg cg (lz (lz (rt n F) i) k) by rw [← los_in hn2]; exact o14.1)
                have B14 := hid (B13.out.trans (o14.below (B := W.heap.size) B13.out.size (by have := L0.out; have := G.out; omega) (by have := L0.out; have := G.out; omega)))
                clear o14 P13 B13
                go_wp2_with fail
                refine (plose_any P14.out k).mono ?_
                rintro e w15 ⟨rfl, o15⟩
                have hn3 : k < (lz (lz (rt n F) i) k).n := by show k < n + 2; have := M.out; omega
                have P15 := hid (show Pr w15 g gc cc gg cg (lz (lz (lz (rt n F) i) k) k) by rw [← los_in hn3]; exact o15.1)
                have B15 := hid (B14.out.trans (o15.below (B := W.heap.size) B14.out.size (by have := L0.out; have := G.out; omega) (by have := L0.out; have := G.out; omega)))
                clear o15 P14 B14
                have K3 := hid (lz_ok (lz_ok (lz_ok (rt_ok h2 h62 HF.out) hn1) hn2) hn3)
                obtain ⟨bE, bL, bT⟩ := back2 h2 h62 HF.out K3.out rfl rfl (lz3_few (by have := M.out; omega) (by have := M.out; omega) (by have := M.out; omega) (.inr (.inl rfl)))
                go_wp2_with fail
                refine (pmend_any P15.out).mono ?_
                rintro e w16 ⟨A16, c16, rfl, _, o16⟩
                rw [bE, bL]
                have P16 := hid (o16.1.to bT (rt_ok h2 h62 HF.out))
                have hN := hid (show (rt n F).lost.length = 0 by rw [rt_lost]; rfl)
                have B16 := hid (B15.out.trans (o16.below (B := W.heap.size) B15.out.size (by have := L0.out; have := G.out; omega) (by have := L0.out; have := G.out; omega)))
                clear o16 P15 B15 bE bL bT
                go_wp2_with fail
                refine (plost_any P16.out).mono ?_
                rintro e w17 ⟨v, rfl, oi, h17⟩
                obtain ⟨A17, c17, rfl⟩ := OwnI.len oi
                rw [hN.out]
                have B17 := hid (B16.out.trans (h17.mono B16.out.size))
                clear h17 oi
                go_wp2_with fail
                refine (works_any w17).mono ?_
                rintro e w18 ⟨rfl, h18⟩
                have B18 := hid (B17.out.trans (h18.mono B17.out.size))
                clear h18
                go_wp2_with fail
                go_ret
                exact ⟨rfl, B18.out⟩
    · subst hik
      have tik : True := trivial
      go_wp2_with fail
      go_loopw [12, 13] (fun u12 u13 wr => ∃ c : Nat, u13 = .int .i64 c ∧ c ≤ m ∧ Hid (OwnS wr w2.heap.size u12 c (rowF n F)) ∧ Hid (Pr wr g gc cc gg cg (rt n F)) ∧ Hid (Below w3.heap.size w3 wr ∨ Below w2.heap.size w3 wr)) (fun _ u13 _ => m - (intOf u13).toNat)
      case atStart => exact ⟨0, rfl, Nat.zero_le _, hid (World.ownsRow_nil _ _ _ _), P3, hid (.inr (Below.refl _ _))⟩
      case round =>
        obtain ⟨c, rfl, hc, HO, HP, HB0⟩ := hrel
        have HB := hid (show Below w2.heap.size w3 wr from HB0.out.elim (fun h => h.mono N3.out.size) id)
        clear HB0
        by_cases hgo : c < m
        · have t1 : (c : Int) < m := by omega
          have hge := hid (rt_getE (m := n) (D := F) (c := (c : Int)) ⟨by omega, by have := M.out; omega⟩)
          have hgs := hid (rt_getS (m := n) (D := F) (c := (c : Int)) ⟨by omega, by have := M.out; omega⟩)
          go_wp2_with fail
          refine (pget_any HP.out c).mono ?_
          rintro e w9 ⟨rfl, h9⟩
          rw [hge.out, hgs.out, Int.toNat_natCast]
          have P9 := hid (HP.out.on h9)
          have O9 := hid (OwnS.below HO.out h9 (Nat.le_refl _))
          have B9 := hid (HB.out.trans (h9.mono (Nat.le_trans N3.out.size HB.out.size)))
          clear h9
          go_upto_region 11 with (first | ((with_reducible apply stx); rfl; rfl; exact Blk.top zlit rfl))
          generalize hw10 : World.setRow (World.alloc w9 _) _ _ = w10
          have b10 := hid (show Blk w10 w9.heap.size 32 (sec (rowF n F c)) by rw [← hw10]; exact (Blk.top zlit rfl).setRow_same _)
          have h10 : Below w9.heap.size w9 w10 := by rw [← hw10]; exact below_setRow ((Below.refl _ _).alloc (Nat.le_refl _) _) (Nat.le_refl _) _
          have P10 := hid (P9.out.on h10)
          have O10 := hid (OwnS.below O9.out h10 (Nat.le_refl _))
          have B10 := hid (B9.out.trans (h10.mono (Nat.le_trans N3.out.size B9.out.size)))
          have ha := hid ((Below.refl w10.heap.size w10).alloc (Nat.le_refl _) (.cells (secL (rowF n F c)).toArray 32))
          have O11 := hid (OwnS.below O10.out ha.out (Nat.le_refl _))
          have hsz := hid (show w2.heap.size ≤ (w10.alloc (.cells (secL (rowF n F c)).toArray 32)).heap.size from Nat.le_trans (Nat.le_trans N3.out.size B10.out.size) ha.out.size)
          clear h10 hw10 P9 O9 B9
          go_wp2_with (first | ((with_reducible apply ld); rfl; exact b10.out) | ((with_reducible apply wlit1 eltSe undSe (x := rowF n F c)); omega; rfl; rfl) | ((with_reducible apply wapp (n := c) (m := 1)); rfl; rfl; exact O11.out; exact secs_one' (Blk.new _ _ _); omega; exact hsz.out; intro v5 w5 o5 g5 n5; have O5 := hid (o5.mono (G := rowF n F) fun i k hi _ => by unfold catF; split; rfl; (rw [show i = c by omega])); have D5 := hid (Below.grown (show Below w2.heap.size w3 _ from B10.out.trans (ha.out.mono (Nat.le_trans N3.out.size B10.out.size))) g5 hsz.out fun x e => (World.ownsRow.lt O11.out x e).1); have P5 := hid (P10.out.turn (T := fun b => w2.heap.size ≤ b) ((Turn.of_new (S := fun b => w2.heap.size ≤ b) ha.out).trans (Turn.of_grown (S := fun b => w2.heap.size ≤ b) g5 fun x e => (World.ownsRow.lt O11.out x e).1) fun _ e => .inl e) (show ¬ w2.heap.size ≤ g by have := L2.out; omega) (show ¬ w2.heap.size ≤ gc by have := L2.out; omega) (show ¬ w2.heap.size ≤ gg by have := L2.out; omega)); clear o5 g5 n5))
          go_roundw
          case rel => exact ⟨c + 1, by go_num, by omega, O5, P5, hid (.inr D5.out)⟩
          case measure => simp [intOf] <;> omega
        · have t1 : ¬ (c : Int) < m := by omega
          have hcm : c = m := by omega
          have O4 := hid (show OwnS wr w2.heap.size u12 m (rowF n F) by have h := HO.out; rw [hcm] at h; exact h)
          obtain ⟨g6, c6, rfl, hb6⟩ := own_form O4.out (by omega)
          have D6 := hid (show g < g6 ∧ gc < g6 ∧ gg < g6 by have := L2.out; omega)
          have P4 := HP
          have bz4 := hid (show Blk wr (W.heap.size + 1) 32 (sec z) from bz3.out.below HB.out (by have := L0.out; have := G.out; have := L2.out; omega))
          have B4 := hid (show Below W.heap.size W wr from B3.out.trans (HB.out.mono (by have := L0.out; have := G.out; have := L2.out; omega)))
          clear hcm HO HP HB hb6
          go_wp2_with ((with_reducible apply ld); rfl; exact bz4.out)
          refine (pput_any P4.out i z HZ.out).mono ?_
          rintro e w5 ⟨rfl, o5⟩
          have P5 := hid o5.1
          have B5 := hid (B4.out.trans (o5.below (B := W.heap.size) B4.out.size (by have := L0.out; have := G.out; omega) (by have := L0.out; have := G.out; omega)))
          have bz5 := hid (bz4.out.turn o5.2 (by have := L0.out; have := G.out; omega))
          have O5 := hid (ownS_turn O4.out o5.2 fun b e => by cases e; show ¬ (g6 = gc ∨ g6 = gg); have := D6.out; omega)
          clear o5 P4 B4 bz4 O4
          go_wp2_with fail
          refine (plose_any P5.out i).mono ?_
          rintro e w6 ⟨rfl, o6⟩
          have hn1 : i < (rt n F).n := by show i < n + 2; have := M.out; omega
          have K1 := hid (lz_ok (rt_ok h2 h62 HF.out) hn1)
          have P6 := hid (o6.1.to (put_lose hn1 z) K1.out)
          have B6 := hid (B5.out.trans (o6.below (B := W.heap.size) B5.out.size (by have := L0.out; have := G.out; omega) (by have := L0.out; have := G.out; omega)))
          have bz6 := hid (bz5.out.turn o6.2 (by have := L0.out; have := G.out; omega))
          have O6 := hid (ownS_turn O5.out o6.2 fun b e => by cases e; show ¬ (g6 = gc ∨ g6 = gg); have := D6.out; omega)
          clear o6 P5 B5 bz5 O5
          go_wp2_with ((with_reducible apply ld); rfl; exact bz6.out)
          refine (pput_any P6.out i z HZ.out).mono ?_
          rintro e w7 ⟨rfl, o7⟩
          have P7 := hid o7.1
          have B7 := hid (B6.out.trans (o7.below (B := W.heap.size) B6.out.size (by have := L0.out; have := G.out; omega) (by have := L0.out; have := G.out; omega)))
          have O7 := hid (ownS_turn O6.out o7.2 fun b e => by cases e; show ¬ (g6 = gc ∨ g6 = gg); have := D6.out; omega)
          clear o7 P6 B6 bz6 O6
          go_wp2_with fail
          refine (plose_any P7.out i).mono ?_
          rintro e w8 ⟨rfl, o8⟩
          have hn2 : i < (lz (rt n F) i).n := by show i < n + 2; have := M.out; omega
          have K2 := hid (lz_ok K1.out hn2)
          have P8 := hid (o8.1.to (put_lose hn2 z) K2.out)
          have B8 := hid (B7.out.trans (o8.below (B := W.heap.size) B7.out.size (by have := L0.out; have := G.out; omega) (by have := L0.out; have := G.out; omega)))
          have O8 := hid (ownS_turn O7.out o8.2 fun b e => by cases e; show ¬ (g6 = gc ∨ g6 = gg); have := D6.out; omega)
          clear o8 P7 B7 O7
          have hL2 := hid (show (lz (lz (rt n F) i) i).lost.length = 1 from lz1_len (by have := M.out; omega))
          obtain ⟨bE, bL, bT⟩ := back2 h2 h62 HF.out K2.out rfl rfl (by have := hL2.out; omega)
          go_wp2_with fail
          refine (pmend_any P8.out).mono ?_
          rintro e w9 ⟨A9, c9, rfl, _, o9⟩
          rw [bE, bL, hL2.out]
          have P9 := hid (o9.1.to bT (rt_ok h2 h62 HF.out))
          have B9 := hid (B8.out.trans (o9.below (B := W.heap.size) B8.out.size (by have := L0.out; have := G.out; omega) (by have := L0.out; have := G.out; omega)))
          have O9 := hid (ownS_turn O8.out o9.2 fun b e => by cases e; show ¬ (g6 = gc ∨ g6 = gg); have := D6.out; omega)
          clear o9 P8 B8 O8 bE bL bT hL2
          go_wp2_with fail
          refine (pright_any P9.out).mono ?_
          rintro e w10 ⟨rfl, h10⟩
          rw [rt_right h2 h62 HF.out]
          have P10 := hid (P9.out.on h10)
          have B10 := hid (B9.out.trans (h10.mono B9.out.size))
          have O10 := hid (OwnS.below O9.out h10 (Nat.le_refl _))
          clear h10 P9 B9 O9
          go_wp2_with fail
          go_loopw [18] (fun uu wq => ∃ c : Nat, uu = .int .i64 c ∧ c ≤ m ∧ Hid (Pr wq g gc cc gg cg (rt n F)) ∧ Hid (OwnS wq w2.heap.size (.slice (some ⟨g6, 0, none⟩) m c6) m (rowF n F)) ∧ Hid (Below W.heap.size W wq)) (fun uu _ => m - (intOf uu).toNat)
          case atStart => exact ⟨0, rfl, Nat.zero_le _, P10, O10, B10⟩
          case round =>
            obtain ⟨c, rfl, hc, HP8, HO8, HB8⟩ := hrel
            by_cases hgo : c < m
            · have t1 : (c : Int) < m := by omega
              have hge := hid (rt_getE (m := n) (D := F) (c := (c : Int)) ⟨by omega, by have := M.out; omega⟩)
              have hgs := hid (rt_getS (m := n) (D := F) (c := (c : Int)) ⟨by omega, by have := M.out; omega⟩)
              have E8 := hid (eqS_yes (f := rowF n F c) (g := rowF n F c) fun _ _ => rfl)
              go_wp2_with fail
              refine (pget_any HP8.out c).mono ?_
              rintro e w9 ⟨rfl, h9⟩
              rw [hge.out, hgs.out, Int.toNat_natCast]
              have P9 := hid (HP8.out.on h9)
              have O9 := hid (OwnS.below HO8.out h9 (Nat.le_refl _))
              have B9 := hid (HB8.out.trans (h9.mono HB8.out.size))
              clear h9
              go_wp2_with ((with_reducible apply stx); rfl; rfl; exact Blk.top zlit rfl)
              generalize hw11 : World.setRow (World.alloc w9 _) _ _ = w11
              have b11 := hid (show Blk w11 w9.heap.size 32 (sec (rowF n F c)) by rw [← hw11]; exact (Blk.top zlit rfl).setRow_same _)
              have h11 : Below w9.heap.size w9 w11 := by rw [← hw11]; exact below_setRow ((Below.refl _ _).alloc (Nat.le_refl _) _) (Nat.le_refl _) _
              have P11 := hid (P9.out.on h11)
              have O11 := hid (OwnS.below O9.out h11 (Nat.le_refl _))
              have B11 := hid (B9.out.trans (h11.mono B9.out.size))
              clear h11 hw11 P9 O9 B9
              go_wp2_with fail
              refine wp_region_tail (C := fun w' => Below w11.heap.size w11 w') 10 (by kernel_rfl) (by kernel_rfl) (by kernel_rfl) (Below.refl _ _).drew ?_
              simp only [List.take_succ_cons, List.take_zero, List.drop_succ_cons, List.drop_zero]
              apply wpK_val
              · rfl
              · intro w' hw'
                go_simp
                first | exact rfl | exact ⟨rfl, hw'⟩
              simp only [Act.put, List.setIfInBounds_toArray, List.set_cons_succ, List.set_cons_zero]
              apply wpK_val
              · rfl
              · intro w' hw'
                go_simp
                first | exact rfl | exact ⟨rfl, hw'⟩
              simp only [Act.put, List.setIfInBounds_toArray, List.set_cons_succ, List.set_cons_zero]
              apply wpK_val
              · rfl
              · intro w' hw'
                go_simp
                first | exact rfl | exact ⟨rfl, hw'⟩
              simp only [Act.put, List.setIfInBounds_toArray, List.set_cons_succ, List.set_cons_zero]
              apply kld
              · rfl
              · rfl
              · exact fun w' hw' => b11.out.below hw' b11.out.lt
              simp only [Act.put, List.setIfInBounds_toArray, List.set_cons_succ, List.set_cons_zero]
              apply wpK_val
              · rfl
              · intro w' hw'
                go_simp
                first | exact rfl | exact ⟨rfl, hw'⟩
              simp only [Act.put, List.setIfInBounds_toArray, List.set_cons_succ, List.set_cons_zero]
              apply wpK_val
              · rfl
              · intro w' hw'
                go_simp
                first | exact rfl | exact ⟨rfl, hw'⟩
              simp only [Act.put, List.setIfInBounds_toArray, List.set_cons_succ, List.set_cons_zero]
              apply wpK_val
              · rfl
              · intro w' hw'
                go_simp
                first | exact rfl | exact ⟨rfl, hw'⟩
              simp only [Act.put, List.setIfInBounds_toArray, List.set_cons_succ, List.set_cons_zero]
              apply kldm
              · rfl
              · rfl
              · exact fun w' hw' => by have := own_range (OwnS.below O11.out hw' (Nat.le_refl _)) hgo; rwa [Nat.zero_add] at this
              simp only [Act.put, List.setIfInBounds_toArray, List.set_cons_succ, List.set_cons_zero]
              apply wpK_val
              · rfl
              · intro w' hw'
                have e1 : eqS (rowF n F c) (rowF n F c) = true := E8.out
                go_simp
                first | exact rfl | exact ⟨rfl, hw'⟩
              simp only [Act.put, List.setIfInBounds_toArray, List.set_cons_succ, List.set_cons_zero]
              apply wpK_val
              · rfl
              · intro w' hw'
                go_simp
                first | exact rfl | exact ⟨rfl, hw'⟩
              simp only [Act.put, List.setIfInBounds_toArray, List.set_cons_succ, List.set_cons_zero]
              refine wpK_nil fun w12 hw12 => ?_
              have P12 := hid (P11.out.on hw12)
              have O12 := hid (OwnS.below O11.out hw12 (Nat.le_refl _))
              have B12 := hid (B11.out.trans (hw12.mono B11.out.size))
              clear hw12 P11 O11 B11
              go_wp2_with fail
              go_roundw
              case rel => exact ⟨c + 1, by go_num, by omega, P12, O12, B12⟩
              case measure => simp [intOf] <;> omega
            · have t1 : ¬ (c : Int) < m := by omega
              go_wp2_with fail
              refine (plose_any HP8.out i).mono ?_
              rintro e w13 ⟨rfl, o13⟩
              have hn1 : i < (rt n F).n := by show i < n + 2; have := M.out; omega
              have P13 := hid (show Pr w13 g gc cc gg cg (lz (rt n F) i) by rw [← los_in hn1]; exact o13.1)
              have B13 := hid (HB8.out.trans (o13.below (B := W.heap.size) HB8.out.size (by have := L0.out; have := G.out; omega) (by have := L0.out; have := G.out; omega)))
              clear o13
              go_wp2_with fail
              refine (plose_any P13.out i).mono ?_
              rintro e w14 ⟨rfl, o14⟩
              have hn2 : i < (lz (rt n F) i).n := by show i < n + 2; have := M.out; omega
              have P14 := hid (show Pr w14 g gc cc gg cg (lz (lz (rt n F) i) i) by rw [← los_in hn2]; exact o14.1)
              have B14 := hid (B13.out.trans (o14.below (B := W.heap.size) B13.out.size (by have := L0.out; have := G.out; omega) (by have := L0.out; have := G.out; omega)))
              clear o14 P13 B13
              go_wp2_with fail
              refine (plose_any P14.out q).mono ?_
              rintro e w15 ⟨rfl, o15⟩
              have hn3 : q < (lz (lz (rt n F) i) i).n := by show q < n + 2; have := M.out; omega
              have P15 := hid (show Pr w15 g gc cc gg cg (lz (lz (lz (rt n F) i) i) q) by rw [← los_in hn3]; exact o15.1)
              have B15 := hid (B14.out.trans (o15.below (B := W.heap.size) B14.out.size (by have := L0.out; have := G.out; omega) (by have := L0.out; have := G.out; omega)))
              clear o15 P14 B14
              have K3 := hid (lz_ok (lz_ok (lz_ok (rt_ok h2 h62 HF.out) hn1) hn2) hn3)
              obtain ⟨bE, bL, bT⟩ := back2 h2 h62 HF.out K3.out rfl rfl (lz3_few (by have := M.out; omega) (by have := M.out; omega) (by have := M.out; omega) (.inl rfl))
              go_wp2_with fail
              refine (pmend_any P15.out).mono ?_
              rintro e w16 ⟨A16, c16, rfl, _, o16⟩
              rw [bE, bL]
              have P16 := hid (o16.1.to bT (rt_ok h2 h62 HF.out))
              have hN := hid (show (rt n F).lost.length = 0 by rw [rt_lost]; rfl)
              have B16 := hid (B15.out.trans (o16.below (B := W.heap.size) B15.out.size (by have := L0.out; have := G.out; omega) (by have := L0.out; have := G.out; omega)))
              clear o16 P15 B15 bE bL bT
              go_wp2_with fail
              refine (plost_any P16.out).mono ?_
              rintro e w17 ⟨v, rfl, oi, h17⟩
              obtain ⟨A17, c17, rfl⟩ := OwnI.len oi
              rw [hN.out]
              have B17 := hid (B16.out.trans (h17.mono B16.out.size))
              clear h17 oi
              go_wp2_with fail
              refine (works_any w17).mono ?_
              rintro e w18 ⟨rfl, h18⟩
              have B18 := hid (B17.out.trans (h18.mono B17.out.size))
              clear h18
              go_wp2_with fail
              go_ret
              exact ⟨rfl, B18.out⟩
end StM
end Go.Proofs.Ytlbfjnddbdpdpaa
set_option maxRecDepth 100000
namespace Go.Proofs.Ytlbfjnddbdpdpaa
open Go.ChangeShapes Go.WideShapes Go.ChangeAt Go.RowKit Go.Shelf
attribute [local go_sem] Gives eqg_sec
attribute [local go_sem high] run_eql_sec run_neq_sec
set_option linter.unusedSectionVars false
namespace StM
/-- Two rows of the program's, beside each other. -/
structure Two (W : World) (g gc cc gg cg h hc dc hh dh : Nat) (s t : Rw) (w : World) : Prop where
  r : Pr w g gc cc gg cg s
  q : Pr w h hc dc hh dh t
  b : Below W.heap.size W w
  d : W.heap.size ≤ gc ∧ W.heap.size ≤ gg ∧ W.heap.size ≤ hc ∧ W.heap.size ≤ hh
  e : (h ≠ gc ∧ h ≠ gg ∧ hc ≠ gc ∧ hc ≠ gg ∧ hh ≠ gc ∧ hh ≠ gg) ∧ (g ≠ hc ∧ g ≠ hh ∧ gc ≠ hc ∧ gc ≠ hh ∧ gg ≠ hc ∧ gg ≠ hh)
section
variable {W w w' : World} {g gc cc gg cg h hc dc hh dh : Nat} {s s' t t' : Rw} (T : Two W g gc cc gg cg h hc dc hh dh s t w)
include T
theorem Two.on (hb : Below w.heap.size w w') : Two W g gc cc gg cg h hc dc hh dh s t w' := ⟨T.r.on hb, T.q.on hb, T.b.trans (hb.mono T.b.size), T.d, T.e⟩
theorem Two.stepR (o : outP w g gc cc gg cg s' w') : Two W g gc cc gg cg h hc dc hh dh s' t w' :=
  ⟨o.1, T.q.turn o.2 (by have := T.e; omega) (by have := T.e; omega) (by have := T.e; omega), T.b.trans (o.below T.b.size T.d.1 T.d.2.1), T.d, T.e⟩
theorem Two.stepQ (o : outP w h hc dc hh dh t' w') : Two W g gc cc gg cg h hc dc hh dh s t' w' :=
  ⟨T.r.turn o.2 (by have := T.e; omega) (by have := T.e; omega) (by have := T.e; omega), o.1, T.b.trans (o.below T.b.size T.d.2.2.1 T.d.2.2.2), T.d, T.e⟩
theorem Two.to (h1 : Al s s') (k1 : s'.ok) (h2 : Al t t') (k2 : t'.ok) : Two W g gc cc gg cg h hc dc hh dh s' t' w := ⟨T.r.to h1 k1, T.q.to h2 k2, T.b, T.d, T.e⟩
end
/-- A sector put into a column: what stood there makes no difference. -/
theorem put_put {s t : Rw} {c : Nat} (hc : c < s.n) (hn : t.n = s.n) (hM : ∀ j, j ≠ c → t.M j = s.M j) (hF : ∀ i, i ≠ c → t.F i = s.F i) (x : Nat → Nat) : Al (putT t c x) (putT s c x) := by
  rw [put_in (has_nat hc), put_in (has_nat (show c < t.n by omega))]
  refine ⟨hn, fun j _ => ?_, fun i k _ _ _ => ?_⟩
  · show (if j = (c : Int).toNat then false else t.M j) = if j = (c : Int).toNat then false else s.M j
    rw [Int.toNat_natCast]
    by_cases e : j = c
    · rw [if_pos e, if_pos e]
    · rw [if_neg e, if_neg e, hM j e]
  · show upd t.F (c : Int).toNat x i k = upd s.F (c : Int).toNat x i k
    rw [Int.toNat_natCast]
    unfold upd
    by_cases e : i = c
    · rw [if_pos e, if_pos e]
    · rw [if_neg e, if_neg e, hF i e]
theorem put_n {s : Rw} {c : Nat} (hc : c < s.n) (x : Nat → Nat) : (putT s c x).n = s.n := by rw [put_in (has_nat hc)]
theorem put_M {s : Rw} {c : Nat} (hc : c < s.n) (x : Nat → Nat) {j : Nat} (hj : j ≠ c) : (putT s c x).M j = s.M j := by
  rw [put_in (has_nat hc)]
  show (if j = (c : Int).toNat then false else s.M j) = s.M j
  rw [Int.toNat_natCast, if_neg hj]
theorem put_F {s : Rw} {c : Nat} (hc : c < s.n) (x : Nat → Nat) {j : Nat} (hj : j ≠ c) : (putT s c x).F j = s.F j := by
  rw [put_in (has_nat hc)]
  show upd s.F (c : Int).toNat x j = s.F j
  rw [Int.toNat_natCast, upd_ne hj]
theorem lz_M {s : Rw} {c j : Nat} (hj : j ≠ c) : (lz s c).M j = s.M j := if_neg hj
/-- The row while the last i data have been put. -/
def qrt (m : Nat) (D : Nat → Nat → Nat) (i : Nat) : Rw := ⟨m + 2, fun j => if m - i ≤ j ∧ j < m then D j else fun _ => 0, fun j => decide (j < m + 2) && !(decide (m - i ≤ j) && decide (j < m))⟩
section
variable {m : Nat} {D : Nat → Nat → Nat}
theorem qrt_ok (h2 : 2 ≤ m) (h62 : m ≤ 62) (hD : ∀ i k, D i k < 256) (i : Nat) : (qrt m D i).ok := ⟨by show 4 ≤ m + 2; omega, by show m + 2 ≤ 64; omega, fun j k => by
  show (if m - i ≤ j ∧ j < m then D j else fun _ => 0) k < 256
  split
  · exact hD j k
  · show 0 < 256; omega, fun j hj => by
  have hj' : ¬ j < m + 2 := by have : m + 2 ≤ j := hj; omega
  show (decide (j < m + 2) && !(decide (m - i ≤ j) && decide (j < m))) = false
  rw [decide_eq_false hj']; rfl⟩
theorem qrt_0 : Al (made (m + 2)) (qrt m D 0) := ⟨rfl, fun j hj => by
  have hj' : j < m + 2 := hj
  show decide (j < m + 2) = (decide (j < m + 2) && !(decide (m - 0 ≤ j) && decide (j < m)))
  rw [decide_eq_true hj']
  by_cases e : j < m
  · rw [decide_eq_false (show ¬ m - 0 ≤ j by omega)]; rfl
  · rw [decide_eq_false e, Bool.and_false]; rfl, fun i k _ _ hm => by
  have hm' : decide (i < m + 2) = false := hm
  show 0 = (if m - 0 ≤ i ∧ i < m then D i else fun _ => 0) k
  rw [if_neg (by omega)]⟩
theorem qrt_step {i : Nat} (hi : i < m) : Al (putT (qrt m D i) ((m - 1 - i : Nat) : Int) (D (m - 1 - i))) (qrt m D (i + 1)) := by
  have hc : m - 1 - i < (qrt m D i).n := by show m - 1 - i < m + 2; omega
  rw [put_in (has_nat hc)]
  refine ⟨rfl, fun j hj => ?_, fun j k _ _ _ => ?_⟩
  · have hj' : j < m + 2 := hj
    show (if j = ((m - 1 - i : Nat) : Int).toNat then false else (decide (j < m + 2) && !(decide (m - i ≤ j) && decide (j < m)))) = (decide (j < m + 2) && !(decide (m - (i + 1) ≤ j) && decide (j < m)))
    rw [Int.toNat_natCast, decide_eq_true hj', Bool.true_and, Bool.true_and]
    by_cases e : j = m - 1 - i
    · rw [if_pos e, decide_eq_true (show m - (i + 1) ≤ j by omega), decide_eq_true (show j < m by omega)]; rfl
    · rw [if_neg e]
      congr 2
      exact decide_eq_decide.2 (by omega)
  · show upd (fun j => if m - i ≤ j ∧ j < m then D j else fun _ => 0) ((m - 1 - i : Nat) : Int).toNat (D (m - 1 - i)) j k = (if m - (i + 1) ≤ j ∧ j < m then D j else fun _ => 0) k
    rw [Int.toNat_natCast]
    unfold upd
    dsimp only
    by_cases e : j = m - 1 - i
    · rw [if_pos e, if_pos (by omega), e]
    · rw [if_neg e]
      by_cases e2 : m - i ≤ j ∧ j < m
      · rw [if_pos e2, if_pos (by omega)]
      · rw [if_neg e2, if_neg (by omega)]
theorem qrt_end : Al (qrt m D m) (prt m D m) := ⟨rfl, fun j hj => by
  have hj' : j < m + 2 := hj
  show (decide (j < m + 2) && !(decide (m - m ≤ j) && decide (j < m))) = (decide (j < m + 2) && !decide (j < m))
  rw [decide_eq_true (show m - m ≤ j by omega), Bool.true_and], fun i k hi _ _ => by
  show (if m - m ≤ i ∧ i < m then D i else fun _ => 0) k = (if i < m then rowF m D i else fun _ => 0) k
  by_cases e : i < m
  · rw [if_pos (by omega), if_pos e]
    unfold rowF
    rw [if_pos e]
  · rw [if_neg (by omega), if_neg e]⟩
end
set_option maxRecDepth 100000 in
set_option maxHeartbeats 8000000 in
theorem order_law (A : Option Addr) (n cap : Nat) (F : Nat → Nat → Nat) (hF : ∀ i k, F i k < 256) (hnc : n ≤ cap) (hcm : cap ≤ maxLen) (A2 : Option Addr) (l : List Ac) (ln c2 : Nat) (W : World) (hs : Secs W W.heap.size A n F)
    (ha : Sli 66 acL (fun b => b < W.heap.size) W A2 l ln c2) (hl : ∀ y ∈ l, ∀ k, y.s k < 256) :
    Calls Try.prog 7 #[.slice A n cap, .slice A2 ln c2] W fun e w' => e = .returned (.bool true) ∧ Below W.heap.size W w' := by
  have HF := hid hF
  have HS := hid hs
  have HA := hid ha
  have HL := hid hl
  have hlen := ha.len
  clear hs ha hl
  by_cases hbad : n < 2 ∨ 62 < n
  · obtain ⟨c, hc, hcb⟩ := wrap_bad (Nat.le_trans hnc hcm) hbad
    have NB := hid (fun w => new_bad c hcb w)
    clear hbad hnc hcm
    go_enter Try.func7, Try.ntmps7
    go_wp2_with fail
    refine (NB.out _).mono ?_
    rintro e w1 ⟨rfl, rfl⟩
    go_wp2_with fail
    refine (NB.out _).mono ?_
    rintro e w1 ⟨rfl, rfl⟩
    go_wp2_with fail
    refine (works_any _).mono ?_
    rintro e w2 ⟨rfl, h2⟩
    have B2 := hid h2
    clear h2
    go_wp2_with fail
    go_ret
    exact ⟨rfl, B2.out⟩
  · have h2 : 2 ≤ n := by omega
    have h62 : n ≤ 62 := by omega
    clear hbad hnc hcm
    obtain ⟨m, hm⟩ : ∃ m, m = n + 2 := ⟨_, rfl⟩
    have M := hid hm
    have hm4 : 4 ≤ m := by omega
    have hm64 : m ≤ 64 := by omega
    clear hm
    obtain ⟨b, o, rfl, hb, _⟩ := HS.out (by omega)
    have hb := hid hb
    have am := hid (show ((n : Int) + 2) = (m : Int) by have := M.out; omega)
    go_enter Try.func7, Try.ntmps7
    go_wp2_with fail
    rw [am.out]
    refine (pnew_any m (by omega) (by omega) _).mono ?_
    rintro e w1 ⟨g, gc, cc, gg, cg, rfl, P, hg, hc, hh, hb1⟩
    have P1 := hid P
    have G := hid (And.intro hg (And.intro hc hh))
    have B1 := hid hb1
    clear P hg hc hh hb1
    go_wp2_with fail
    refine (pnew_any m (by omega) (by omega) _).mono ?_
    rintro e w2 ⟨h, hc, dc, hh, dh, rfl, Q, hg2, hc2, hh2, hb2⟩
    have T2 := hid (show Two W g gc cc gg cg h hc dc hh dh (prt n F 0) (qrt n F 0) w2 from
      ⟨(P1.out.on hb2).to (by rw [M.out]; exact prt_0) (prt_ok h2 h62 hF 0), Q.to (by rw [M.out]; exact qrt_0) (qrt_ok h2 h62 hF 0), B1.out.trans (hb2.mono B1.out.size), by have := G.out; have := B1.out.size; omega, by have := P1.out.lts; omega⟩)
    clear P1 Q B1 G hg2 hc2 hh2 hb2
    go_wp2_with fail
    go_loopw [10] (fun uu wr => ∃ i : Nat, uu = .int .i64 i ∧ i ≤ n ∧ Hid (Two W g gc cc gg cg h hc dc hh dh (prt n F i) (qrt n F i) wr)) (fun uu _ => n - (intOf uu).toNat)
    case atStart => exact ⟨0, rfl, Nat.zero_le _, T2⟩
    case round =>
      obtain ⟨i, rfl, hi, HT⟩ := hrel
      by_cases hgo : i < n
      · have t1 : (i : Int) < n := by omega
        obtain ⟨b', o', e, _, hr⟩ := HS.out (by omega)
        cases e
        have RG := hid (show ∀ w', Below W.heap.size W w' → ∀ i, i < n → w'.rangeAt b (o + i * 64) (sec (F i)).toList from fun w' hw' i hi j v hj => (hw'.cell (p := ⟨b, o + i * 64 + j, none⟩) hb.out).trans (hr i hi j v hj))
        have K := hid (show ((n : Int) - 1 - i) = ((n - 1 - i : Nat) : Int) ∧ n - 1 - i < n by omega)
        have tk : (0 : Int) ≤ (n : Int) - 1 - i := by omega
        have tk2 : (n : Int) - 1 - i < n := by omega
        clear hr
        go_wp2_with ((with_reducible apply ldm (o := o + i * 64)); rfl; exact RG.out wr HT.out.b i hgo)
        refine (pput_any HT.out.r i (F i) (HF.out i)).mono ?_
        rintro e w4 ⟨rfl, o4⟩
        have hst : rowF n F i = F i := by unfold rowF; rw [if_pos hgo]
        have T4 := hid ((HT.out.stepR o4).to (by rw [← hst]; exact prt_step (by omega)) (prt_ok h2 h62 HF.out (i + 1)) (Al.refl _) (qrt_ok h2 h62 HF.out i))
        clear o4 hst HT
        have R5 := hid (RG.out w4 T4.out.b (n - 1 - i) K.out.2)
        go_wp2_with ((with_reducible apply ldm (f := F (n - 1 - i)) (o := o + (n - 1 - i) * 64)); (first | rfl | (simp; omega)); exact R5.out)
        rw [K.out.1]
        refine (pput_any T4.out.q ((n - 1 - i : Nat) : Int) (F (n - 1 - i)) (HF.out _)).mono ?_
        rintro e w5 ⟨rfl, o5⟩
        have T5 := hid ((T4.out.stepQ o5).to (Al.refl _) (prt_ok h2 h62 HF.out (i + 1)) (qrt_step hgo) (qrt_ok h2 h62 HF.out (i + 1)))
        clear o5 T4 R5
        go_wp2_with fail
        go_roundw
        case rel => exact ⟨i + 1, by go_num, by omega, T5⟩
        case measure => simp [intOf] <;> omega
      · have t1 : ¬ (i : Int) < n := by omega
        have hin : i = n := by omega
        have T6 := hid (show Two W g gc cc gg cg h hc dc hh dh (prt n F n) (prt n F n) wr from by
          have h := HT.out
          rw [hin] at h
          exact h.to (Al.refl _) (prt_ok h2 h62 HF.out n) qrt_end (prt_ok h2 h62 HF.out n))
        clear hin HT
        go_wp2_with fail
        go_loopw [11] (fun uu wq => ∃ (j : Nat) (s : Rw), uu = .int .i64 j ∧ j ≤ ln ∧ Hid (s.n = m) ∧ Hid (Two W g gc cc gg cg h hc dc hh dh s s wq)) (fun uu _ => ln - (intOf uu).toNat)
        case atStart => exact ⟨0, _, rfl, Nat.zero_le _, hid (by rw [M.out]; rfl), T6⟩
        case round =>
          obtain ⟨j, s, rfl, hj, HN, HT⟩ := hrel
          by_cases hgo2 : j < ln ∧ j < 60
          · obtain ⟨y, hy⟩ : ∃ y, l[j]? = some y := ⟨l[j]'(by omega), List.getElem?_eq_getElem _⟩
            obtain ⟨b2, o2, rfl, hb2, q0, q1, q2⟩ := act_range HA.out hy
            have hb2 := hid hb2
            have hys := hid (HL.out y (List.mem_of_getElem? hy))
            have Q0 := hid (show ∀ w', Below W.heap.size W w' → w'.cell? ⟨b2, o2 + j * 66, none⟩ = some (.int .i64 y.d) from fun w' hw' => (hw'.cell (p := ⟨b2, o2 + j * 66, none⟩) hb2.out).trans q0)
            have r1 : wr.cell? ⟨b2, o2 + j * 66 + 1, none⟩ = some (.int .i64 y.c) := (HT.out.b.cell (p := ⟨b2, o2 + j * 66 + 1, none⟩) hb2.out).trans q1
            have R2 := hid (show ∀ w', Below W.heap.size W w' → w'.rangeAt b2 (o2 + j * 66 + 2) (sec y.s).toList from fun w' hw' j' v hj => (hw'.cell (p := ⟨b2, o2 + j * 66 + 2 + j', none⟩) hb2.out).trans (q2 j' v hj))
            have t3 : (j : Int) < ln := by omega
            have t4 : (j : Int) < 60 := by omega
            have t0 : ((m : Int) == 0) = false := by rw [beq_eq_false_iff_ne]; omega
            have t00 : ¬ m = 0 := by omega
            clear q0 q1 q2 hgo2
            have W9 := hid (show ∀ k : Nat, (fun _ : Nat => 9) k < 256 from fun _ => by show 9 < 256; omega)
            have W8 := hid (show ∀ k : Nat, (fun _ : Nat => 8) k < 256 from fun _ => by show 8 < 256; omega)
            rcases tmod_fix y.c m (by omega) with ⟨hp, k, hk, he⟩ | ⟨hp, k, hk, he⟩ <;> (
              have hp' := hp
              try (have hp'' : ¬ y.c.tmod m < 0 := by omega)
              have hks := hid (show k < s.n by rw [HN.out]; exact hk)
              go_wp2_with fail
              refine (fill_any 9 _).mono ?_
              rintro e w4 ⟨rfl, h4⟩
              have T4 := hid (HT.out.on h4)
              clear h4 r1
              go_wp2_with fail
              refine (pput_any T4.out.r k (fun _ => 9) W9.out).mono ?_
              rintro e w5 ⟨rfl, o5⟩
              have T5 := hid (T4.out.stepR o5)
              clear o5 T4
              go_wp2_with fail
              refine (plose_any T5.out.q k).mono ?_
              rintro e w6 ⟨rfl, o6⟩
              have T6 := hid (show Two W g gc cc gg cg h hc dc hh dh (putT s k fun _ => 9) (lz s k) w6 by rw [← los_in hks.out]; exact T5.out.stepQ o6)
              clear o6 T5
              have r2 := Q0.out w6 T6.out.b
              by_cases hz : y.d.tmod 2 = 0
              · have hzb : (y.d.tmod 2 == 0) = true := by rw [hz]; rfl
                go_wp2_with ((with_reducible apply ldm (o := o2 + j * 66 + 2)); rfl; exact R2.out w6 T6.out.b)
                refine (pput_any T6.out.r k y.s hys.out).mono ?_
                rintro e w7 ⟨rfl, o7⟩
                have K7 := hid (put_ok (c := (k : Int)) HT.out.r.ok hys.out)
                have T7 := hid ((T6.out.stepR o7).to (put_put hks.out (put_n hks.out _) (fun j hj => put_M hks.out _ hj) (fun j hj => put_F hks.out _ hj) y.s) K7.out (Al.refl _) (lz_ok HT.out.r.ok hks.out))
                clear o7 r2
                go_wp2_with fail
                refine (fill_any 8 _).mono ?_
                rintro e w8 ⟨rfl, h8⟩
                have T8 := hid (T7.out.on h8)
                clear h8 T7
                go_wp2_with fail
                refine (pput_any T8.out.q k (fun _ => 8) W8.out).mono ?_
                rintro e w9 ⟨rfl, o9⟩
                have T9 := hid (T8.out.stepQ o9)
                clear o9 T8
                go_wp2_with ((with_reducible apply ldm (o := o2 + j * 66 + 2)); rfl; exact R2.out w9 T9.out.b)
                refine (pput_any T9.out.q k y.s hys.out).mono ?_
                rintro e w10 ⟨rfl, o10⟩
                have hkl : k < (lz s k).n := hks.out
                have T10 := hid ((T9.out.stepQ o10).to (Al.refl _) K7.out (put_put hks.out (put_n hkl _) (fun j hj => (put_M hkl _ hj).trans (lz_M hj)) (fun j hj => put_F hkl _ hj) y.s) K7.out)
                clear o10 T9
                go_wp2_with fail
                go_roundw
                case rel => exact ⟨j + 1, _, by go_num, by omega, hid ((put_n hks.out _).trans HN.out), T10⟩
                case measure => simp [intOf] <;> omega
              · have hzb : (y.d.tmod 2 == 0) = false := by rw [beq_eq_false_iff_ne]; exact hz
                go_wp2_with fail
                refine (plose_any T6.out.r k).mono ?_
                rintro e w7 ⟨rfl, o7⟩
                have T7 := hid ((T6.out.stepR o7).to (put_lose hks.out _) (lz_ok HT.out.r.ok hks.out) (Al.refl _) (lz_ok HT.out.r.ok hks.out))
                clear o7 r2
                go_wp2_with fail
                go_roundw
                case rel => exact ⟨j + 1, _, by go_num, by omega, hid (show (lz s k).n = m from HN.out), T7⟩
                case measure => simp [intOf] <;> omega)
          · have hx : ¬ j < ln ∨ ¬ j < 60 := by omega
            rcases Nat.lt_or_ge j ln with hjl | hjl
            · have t3 : (j : Int) < ln := by omega
              have t4 : ¬ (j : Int) < 60 := by omega
              clear hgo2 hx
              go_wp2_with fail
              refine (pmend_any HT.out.r).mono ?_
              rintro e w4 ⟨A4, c4, rfl, _, o4⟩
              have T4 := hid (HT.out.stepR o4)
              clear o4
              go_wp2_with fail
              refine (pmend_any T4.out.q).mono ?_
              rintro e w5 ⟨A5, c5, rfl, _, o5⟩
              have T5 := hid (T4.out.stepQ o5)
              have N5 := hid (show (menT s).n = m by rw [← HN.out]; unfold menT; split <;> rfl)
              clear o5 T4 HT
              generalize menE s = E
              generalize (menL s).length = N
              generalize menT s = v at T5 N5
              have be1 : ((E : Int) != (E : Int)) = false := by simp
              have be2 : ((N : Int) != (N : Int)) = false := by simp
              go_wp2_with fail
              refine (pright_any T5.out.r).mono ?_
              rintro e w6 ⟨rfl, h6⟩
              have T6 := hid (T5.out.on h6)
              clear h6 T5
              go_wp2_with fail
              refine (pright_any T6.out.q).mono ?_
              rintro e w7 ⟨rfl, h7⟩
              have T7 := hid (T6.out.on h7)
              clear h7 T6
              obtain ⟨rb, hrb⟩ : ∃ rb, rb = v.right := ⟨_, rfl⟩
              rw [← hrb]
              clear hrb
              have be3 : (rb != rb) = false := by simp
              go_wp2_with fail
              go_loopw [17] (fun uu wz => ∃ c : Nat, uu = .int .i64 c ∧ c ≤ m ∧ Hid (Two W g gc cc gg cg h hc dc hh dh v v wz)) (fun uu _ => m - (intOf uu).toNat)
              case atStart => exact ⟨0, rfl, Nat.zero_le _, T7⟩
              case round =>
                obtain ⟨c, rfl, hc', HT8⟩ := hrel
                by_cases hgo3 : c < m
                · have t5 : (c : Int) < m := by omega
                  go_wp2_with fail
                  refine (pget_any HT8.out.r c).mono ?_
                  rintro e w9 ⟨rfl, h9⟩
                  have T9 := hid (HT8.out.on h9)
                  clear h9
                  go_upto_region 34 with (first | ((with_reducible apply stx); rfl; rfl; exact Blk.top zlit rfl))
                  generalize hw10 : World.setRow (World.alloc w9 _) _ _ = w10
                  have b10 := hid (show Blk w10 w9.heap.size 32 (sec (getS v c)) by rw [← hw10]; exact (Blk.top zlit rfl).setRow_same _)
                  have h10 : Below w9.heap.size w9 w10 := by rw [← hw10]; exact below_setRow ((Below.refl _ _).alloc (Nat.le_refl _) _) (Nat.le_refl _) _
                  have T10 := hid (T9.out.on h10)
                  clear h10 hw10 T9
                  go_wp2_with fail
                  refine (pget_any T10.out.q c).mono ?_
                  rintro e w11 ⟨rfl, h11⟩
                  have T11 := hid (T10.out.on h11)
                  have b11 := hid (b10.out.below h11 b10.out.lt)
                  have l11 := hid b11.out.lt
                  clear h11 T10 b10
                  go_upto_region 35 with (first | ((with_reducible apply stx); rfl; rfl; exact Blk.top zlit rfl))
                  generalize hw12 : World.setRow (World.alloc w11 _) _ _ = w12
                  have b12 := hid (show Blk w12 w11.heap.size 32 (sec (getS v c)) by rw [← hw12]; exact (Blk.top zlit rfl).setRow_same _)
                  have a12 := hid (show Blk w12 w9.heap.size 32 (sec (getS v c)) by rw [← hw12]; exact (b11.out.alloc _).setRow_other (by have := l11.out; omega) _)
                  have h12 : Below w11.heap.size w11 w12 := by rw [← hw12]; exact below_setRow ((Below.refl _ _).alloc (Nat.le_refl _) _) (Nat.le_refl _) _
                  have T12 := hid (T11.out.on h12)
                  clear h12 hw12 T11 b11
                  have es := eqS_yes (f := getS v c) (g := getS v c) fun _ _ => rfl
                  have ee : ((getE v c : Int) != (getE v c : Int)) = false := by simp
                  go_wp2_with (first | ((with_reducible apply ld); rfl; exact a12.out) | ((with_reducible apply ld); rfl; exact b12.out))
                  go_roundw
                  case rel => exact ⟨c + 1, by go_num, by omega, T12⟩
                  case measure => simp [intOf] <;> omega
                · have t5 : ¬ (c : Int) < m := by omega
                  go_wp2_with fail
                  refine (works_any _).mono ?_
                  rintro e w9 ⟨rfl, h9⟩
                  have B9 := hid (HT8.out.b.trans (h9.mono HT8.out.b.size))
                  clear h9
                  go_wp2_with fail
                  go_ret
                  exact ⟨rfl, B9.out⟩
            · have t3 : ¬ (j : Int) < ln := by omega
              clear hgo2 hx
              go_wp2_with fail
              refine (pmend_any HT.out.r).mono ?_
              rintro e w4 ⟨A4, c4, rfl, _, o4⟩
              have T4 := hid (HT.out.stepR o4)
              clear o4
              go_wp2_with fail
              refine (pmend_any T4.out.q).mono ?_
              rintro e w5 ⟨A5, c5, rfl, _, o5⟩
              have T5 := hid (T4.out.stepQ o5)
              have N5 := hid (show (menT s).n = m by rw [← HN.out]; unfold menT; split <;> rfl)
              clear o5 T4 HT
              generalize menE s = E
              generalize (menL s).length = N
              generalize menT s = v at T5 N5
              have be1 : ((E : Int) != (E : Int)) = false := by simp
              have be2 : ((N : Int) != (N : Int)) = false := by simp
              go_wp2_with fail
              refine (pright_any T5.out.r).mono ?_
              rintro e w6 ⟨rfl, h6⟩
              have T6 := hid (T5.out.on h6)
              clear h6 T5
              go_wp2_with fail
              refine (pright_any T6.out.q).mono ?_
              rintro e w7 ⟨rfl, h7⟩
              have T7 := hid (T6.out.on h7)
              clear h7 T6
              obtain ⟨rb, hrb⟩ : ∃ rb, rb = v.right := ⟨_, rfl⟩
              rw [← hrb]
              clear hrb
              have be3 : (rb != rb) = false := by simp
              go_wp2_with fail
              go_loopw [17] (fun uu wz => ∃ c : Nat, uu = .int .i64 c ∧ c ≤ m ∧ Hid (Two W g gc cc gg cg h hc dc hh dh v v wz)) (fun uu _ => m - (intOf uu).toNat)
              case atStart => exact ⟨0, rfl, Nat.zero_le _, T7⟩
              case round =>
                obtain ⟨c, rfl, hc', HT8⟩ := hrel
                by_cases hgo3 : c < m
                · have t5 : (c : Int) < m := by omega
                  go_wp2_with fail
                  refine (pget_any HT8.out.r c).mono ?_
                  rintro e w9 ⟨rfl, h9⟩
                  have T9 := hid (HT8.out.on h9)
                  clear h9
                  go_upto_region 34 with (first | ((with_reducible apply stx); rfl; rfl; exact Blk.top zlit rfl))
                  generalize hw10 : World.setRow (World.alloc w9 _) _ _ = w10
                  have b10 := hid (show Blk w10 w9.heap.size 32 (sec (getS v c)) by rw [← hw10]; exact (Blk.top zlit rfl).setRow_same _)
                  have h10 : Below w9.heap.size w9 w10 := by rw [← hw10]; exact below_setRow ((Below.refl _ _).alloc (Nat.le_refl _) _) (Nat.le_refl _) _
                  have T10 := hid (T9.out.on h10)
                  clear h10 hw10 T9
                  go_wp2_with fail
                  refine (pget_any T10.out.q c).mono ?_
                  rintro e w11 ⟨rfl, h11⟩
                  have T11 := hid (T10.out.on h11)
                  have b11 := hid (b10.out.below h11 b10.out.lt)
                  have l11 := hid b11.out.lt
                  clear h11 T10 b10
                  go_upto_region 35 with (first | ((with_reducible apply stx); rfl; rfl; exact Blk.top zlit rfl))
                  generalize hw12 : World.setRow (World.alloc w11 _) _ _ = w12
                  have b12 := hid (show Blk w12 w11.heap.size 32 (sec (getS v c)) by rw [← hw12]; exact (Blk.top zlit rfl).setRow_same _)
                  have a12 := hid (show Blk w12 w9.heap.size 32 (sec (getS v c)) by rw [← hw12]; exact (b11.out.alloc _).setRow_other (by have := l11.out; omega) _)
                  have h12 : Below w11.heap.size w11 w12 := by rw [← hw12]; exact below_setRow ((Below.refl _ _).alloc (Nat.le_refl _) _) (Nat.le_refl _) _
                  have T12 := hid (T11.out.on h12)
                  clear h12 hw12 T11 b11
                  have es := eqS_yes (f := getS v c) (g := getS v c) fun _ _ => rfl
                  have ee : ((getE v c : Int) != (getE v c : Int)) = false := by simp
                  go_wp2_with (first | ((with_reducible apply ld); rfl; exact a12.out) | ((with_reducible apply ld); rfl; exact b12.out))
                  go_roundw
                  case rel => exact ⟨c + 1, by go_num, by omega, T12⟩
                  case measure => simp [intOf] <;> omega
                · have t5 : ¬ (c : Int) < m := by omega
                  go_wp2_with fail
                  refine (works_any _).mono ?_
                  rintro e w9 ⟨rfl, h9⟩
                  have B9 := hid (HT8.out.b.trans (h9.mono HT8.out.b.size))
                  clear h9
                  go_wp2_with fail
                  go_ret
                  exact ⟨rfl, B9.out⟩
end StM
end Go.Proofs.Ytlbfjnddbdpdpaa
set_option maxRecDepth 100000
namespace Go.Proofs.Ytlbfjnddbdpdpaa
open Go.ChangeShapes Go.WideShapes Go.ChangeAt Go.RowKit Go.Shelf
attribute [local go_sem] Gives
namespace StM
section
variable {v : Value} {w : World}
theorem findE0 (c m : Int) : findE 0 c m = 1 := if_pos rfl
theorem mend_none' (h : Cn w v 0) : Calls Try.prog 15 #[v] w fun e w' => e = .returned (.tuple #[.slice none 0 0, .int .i64 1]) ∧ w = w' := by
  have hm := hid (made_any' h)
  rw [decide_eq_false (show ¬ 0 < 0 by omega)] at hm
  go_enter Try.func15, Try.ntmps15
  go_wp2_with fail
  refine hm.out.mono ?_
  rintro e w1 ⟨rfl, rfl⟩
  go_wp2_with fail
  go_ret2
  exact ⟨rfl, rfl⟩
theorem set_none (h : Cn w v 0) (c : Int) (x : Nat → Nat) (b : Bool) : Calls Try.prog 29 #[v, .int .i64 c, .agg (sec x), .bool b] w fun e w' => e = .returned (.int .i64 1) ∧ Below w.heap.size w w' := by
  obtain ⟨p, rfl⟩ := h.ptr
  have H := hid h
  clear h
  go_enter Try.func29, Try.ntmps29
  go_upto_region 1 with fail
  generalize hw1 : World.alloc w _ = w1
  have B1 := hid (show Below w.heap.size w w1 by rw [← hw1]; exact (Below.refl _ _).alloc (Nat.le_refl _) _)
  have H1 := hid (H.out.on B1.out)
  clear hw1
  go_wp2_with fail
  refine (columns_any H1.out).mono ?_
  rintro e w2 ⟨rfl, rfl⟩
  go_wp2_with fail
  refine (find_any H1.out _ _).mono ?_
  rintro e w2 ⟨rfl, rfl⟩
  rw [findE0]
  go_wp2_with fail
  go_ret
  exact ⟨rfl, B1.out⟩
theorem put_none (h : Cn w v 0) (c : Int) (x : Nat → Nat) : Calls Try.prog 11 #[v, .int .i64 c, .agg (sec x)] w fun e w' => e = .returned (.int .i64 1) ∧ Below w.heap.size w w' := by
  obtain ⟨p, rfl⟩ := h.ptr
  have H := hid h
  clear h
  go_enter Try.func11, Try.ntmps11
  go_upto_region 1 with fail
  generalize hw1 : World.alloc w _ = w1
  have B1 := hid (show Below w.heap.size w w1 by rw [← hw1]; exact (Below.refl _ _).alloc (Nat.le_refl _) _)
  have b1 := hid (show Blk w1 w.heap.size 32 (sec x) by rw [← hw1]; exact Blk.top rfl rfl)
  have H1 := hid (H.out.on B1.out)
  clear hw1
  go_wp2_with ((with_reducible apply ld); rfl; exact b1.out)
  refine (set_none H1.out c x true).mono ?_
  rintro e w2 ⟨rfl, h2⟩
  have B2 := hid (B1.out.trans (h2.mono B1.out.size))
  clear h2
  go_wp2_with fail
  go_ret
  exact ⟨rfl, B2.out⟩
theorem lose_none (h : Cn w v 0) (c : Int) : Calls Try.prog 13 #[v, .int .i64 c] w fun e w' => e = .returned (.int .i64 1) ∧ Below w.heap.size w w' := by
  have H := hid h
  clear h
  go_enter Try.func13, Try.ntmps13
  go_wp2_with (with_reducible apply bsec)
  refine (set_none H.out c (fun _ => 0) false).mono ?_
  rintro e w2 ⟨rfl, h2⟩
  have B2 := hid h2
  clear h2
  go_wp2_with fail
  go_ret
  exact ⟨rfl, B2.out⟩
theorem get_none (h : Cn w v 0) (c : Int) : Calls Try.prog 20 #[v, .int .i64 c] w fun e w' => e = .returned (.tuple #[.agg (sec fun _ => 0), .int .i64 1]) ∧ Below w.heap.size w w' := by
  have H := hid h
  clear h
  go_enter Try.func20, Try.ntmps20
  go_upto_region 1 with fail
  generalize hw1 : World.alloc w _ = w1
  have B1 := hid (show Below w.heap.size w w1 by rw [← hw1]; exact (Below.refl _ _).alloc (Nat.le_refl _) _)
  have b1 := hid (show Blk w1 w.heap.size 32 (sec fun _ => 0) by rw [← hw1]; exact Blk.top zlit rfl)
  have H1 := hid (H.out.on B1.out)
  clear hw1
  go_wp2_with fail
  refine (columns_any H1.out).mono ?_
  rintro e w2 ⟨rfl, rfl⟩
  go_wp2_with fail
  refine (find_any H1.out _ _).mono ?_
  rintro e w2 ⟨rfl, rfl⟩
  rw [findE0]
  go_wp2_with (first | (with_reducible apply bsec) | ((with_reducible apply stx); rfl; rfl; exact b1.out))
  apply ret_sect Try.results20
  · rfl
  · rfl
  · rfl
  · exact b1.out.setRow_same _
  exact ⟨rfl, below_setRow B1.out (Nat.le_refl _) _⟩
theorem write_none (h : Cn w v 0) (c : Int) (x : Nat → Nat) : Calls Try.prog 18 #[v, .int .i64 c, .agg (sec x)] w fun e w' => e = .returned (.tuple #[.slice none 0 0, .int .i64 1]) ∧ Below w.heap.size w w' := by
  obtain ⟨p, rfl⟩ := h.ptr
  have H := hid h
  clear h
  go_enter Try.func18, Try.ntmps18
  go_upto_region 1 with fail
  generalize hw1 : World.alloc (World.alloc w _) _ = w1
  have B1 := hid (show Below w.heap.size w w1 by rw [← hw1]; exact ((Below.refl _ _).alloc (Nat.le_refl _) _).alloc (by simp) _)
  have bR := hid (show Blk w1 w.heap.size 23 #[.pointer p] by rw [← hw1]; exact (Blk.new _ _ _).alloc _)
  have H1 := hid (H.out.on B1.out)
  clear hw1
  have qR : w1.cell? ⟨w.heap.size, 0, none⟩ = some (.pointer p) := bR.out.cell 0
  go_wp2_with fail
  refine (columns_any H1.out).mono ?_
  rintro e w2 ⟨rfl, rfl⟩
  go_wp2_with fail
  refine (find_any H1.out _ _).mono ?_
  rintro e w2 ⟨rfl, rfl⟩
  rw [findE0]
  go_wp2_with fail
  go_ret2
  exact ⟨rfl, B1.out⟩
end
end StM
end Go.Proofs.Ytlbfjnddbdpdpaa
set_option maxRecDepth 100000
namespace Go.Proofs.Ytlbfjnddbdpdpaa
open Go.ChangeShapes Go.WideShapes Go.ChangeAt Go.RowKit
theorem eltB : Elt 62 5 .u8 := elt_of Try.underlying62 (by kernel_rfl) (by kernel_rfl) (by kernel_rfl)
theorem byt_lit {w : World} {B g : Nat} {t : TypeId} {cs : Array Value} {fr : Nat × Nat} (h : w.heap[g]? = some (.cells cs t fr)) (hg : g < B) {l : List Nat} (hl : ∀ j, j < l.length → cs[j]? = some (.int .u8 (l.getD j 0 : Nat))) : Byt w B (some ⟨g, 0, none⟩) l := fun _ =>
  ⟨g, 0, rfl, hg, fun i hi => by rw [Nat.zero_add, cell_of_row w g i cs t fr h]; exact hl i hi⟩
theorem lit_ok {l : List Nat} {cs : Array Value} (h : cs = (nums .u8 l).toArray) : ∀ j, j < l.length → cs[j]? = some (.int .u8 (l.getD j 0 : Nat)) := fun j hj => by
  rw [h, List.getElem?_toArray]; exact nums_get .u8 hj
end Go.Proofs.Ytlbfjnddbdpdpaa
