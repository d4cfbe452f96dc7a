/-
  The program's row beside the document's: what each call tells is the same.
  The program's row as a law holds it; a sector of one byte; the law's works.
  Right rows: what is lost of one comes back; what is written keeps it right.
  What comes in, number by number.
  What comes in: a sector by value, a row of three, a slice of sectors.
  What comes in: rows of n bytes by value.
  Slices of bytes that come in.
  Slices of structs of k cells that come in.
  What comes in to the laws of chapter 16: data, acts, three numbers; a right row of data.
  The law's right: a right row of data.
  A region that draws its order and makes one new variable ('x := f(y)', the call no lone one): its address hangs on the order; all else does not.
  Rows of n bytes loaded in a drawn region that makes a variable.
  Structs and arrays of any cells, loaded and stored whole.
  Lists of elements in a block of their own: read off ranges; several cells stored; cut; cleared.
  StripeStays: a right row stays right, whatever is written.
-/
import Derived.Test.YtlbfjnddbdpdpaaMrg6
import Derived.Deep.Slices
import Derived.OpenShut
import Derived.ChangeMaps5
import Derived.ChangeSlices
import Derived.Deep.Strs
import Derived.Laws.IdiomCopy
set_option linter.unusedVariables false
set_option linter.unusedSimpArgs false
set_option maxRecDepth 100000
namespace Go.Proofs.Ytlbfjnddbdpdpaa
open Go.ChangeShapes Go.WideShapes Go.ChangeAt Go.RowKit Go.Shelf
set_option linter.unusedSectionVars false
namespace StM
section
variable {m : Nat} {M : Nat → Bool} {F G : Nat → Nat → Nat}
theorem gaps2 : gapsL (m + 2) M = (gapsL m M ++ if M m then [m] else []) ++ if M (m + 1) then [m + 1] else [] := by
  have h1 : gapsL (m + 1) M = gapsL m M ++ if M m then [m] else [] := by
    cases h : M m
    · rw [gapsL_no h]; simp
    · rw [gapsL_yes h]; simp
  show gapsL (m + 1 + 1) M = _
  rw [← h1]
  cases h : M (m + 1)
  · rw [gapsL_no h]; simp
  · rw [gapsL_yes h]; simp
theorem gap_yes {x : Nat} {l : List Nat} (h : gapsL m M = l) (hx : x ∈ l) : x < m ∧ M x = true := gaps_mem.1 (by rw [h]; exact hx)
theorem gD0 (h : gapsL m M = []) (F : Nat → Nat → Nat) : mendD m M F = zeroed m M F := by unfold mendD; rw [h]
theorem gD1 {x : Nat} (h : gapsL m M = [x]) (F : Nat → Nat → Nat) : mendD m M F = upd (zeroed m M F) x (if M m then fun k => GfM.mul (pwI (-(x : Int))) (wei m M F k) else mis m M F) := by unfold mendD; rw [h]
theorem gD2 {x y : Nat} {t : List Nat} (h : gapsL m M = x :: y :: t) (F : Nat → Nat → Nat) : mendD m M F = upd (upd (zeroed m M F) x (twoX x y (mis m M F) (wei m M F))) y (twoY x y (mis m M F) (wei m M F)) := by unfold mendD; rw [h]
theorem mendD_keep {i : Nat} (h : M i = false) : mendD m M F i = F i := by
  rcases hx : gapsL m M with _ | ⟨x, _ | ⟨y, t⟩⟩
  · rw [gD0 hx]
    exact zeroed_not h
  · have := gap_yes hx (List.mem_singleton.2 rfl)
    rw [gD1 hx, upd_ne (fun e => by rw [e, this.2] at h; cases h)]
    exact zeroed_not h
  · have h1 := gap_yes hx List.mem_cons_self
    have h2 := gap_yes hx (List.mem_cons_of_mem _ List.mem_cons_self)
    rw [gD2 hx, upd_ne (fun e => by rw [e, h2.2] at h; cases h), upd_ne (fun e => by rw [e, h1.2] at h; cases h)]
    exact zeroed_not h
theorem mend_keep' {i : Nat} (h : M i = false) : mendP m M (mendD m M F) i = F i := by
  unfold mendP
  rw [if_neg (fun e => by rw [e.1, e.2] at h; cases h), if_neg (fun e => by rw [e.1, e.2] at h; cases h)]
  exact mendD_keep h
variable (h : ∀ i, M i = false → F i = G i) (hc : (gapsL (m + 2) M).length ≤ 2)
include h
theorem zeroed_cong {i : Nat} (hi : i < m) : zeroed m M F i = zeroed m M G i := by
  unfold zeroed
  cases e : M i
  · simp [h i e]
  · simp [hi]
include hc
theorem mendD_cong {i : Nat} (hi : i < m) : mendD m M F i = mendD m M G i := by
  rw [gaps2] at hc
  have hP : ∀ k, PP (zeroed m M F) m k = PP (zeroed m M G) m k := fun k => PP_same m fun j hj => by rw [zeroed_cong h hj]
  have hQ : ∀ k, QQ (zeroed m M F) m k = QQ (zeroed m M G) m k := fun k => QQ_same m fun j hj => by rw [zeroed_cong h hj]
  rcases hx : gapsL m M with _ | ⟨x, _ | ⟨y, t⟩⟩
  · rw [gD0 hx, gD0 hx]
    exact zeroed_cong h hi
  · rw [hx] at hc
    rw [gD1 hx, gD1 hx]
    unfold upd
    split
    · cases e : M m
      · have : mis m M F = mis m M G := funext fun k => by unfold mis; rw [hP, h m e]
        simp [this]
      · have e2 : M (m + 1) = false := by
          cases e2 : M (m + 1)
          · rfl
          · rw [e, e2] at hc; simp at hc
        have : wei m M F = wei m M G := funext fun k => by unfold wei; rw [hQ, h (m + 1) e2]
        simp [this]
    · exact zeroed_cong h hi
  · rw [hx] at hc
    rw [gD2 hx, gD2 hx]
    have e : M m = false := by
      cases e : M m
      · rfl
      · rw [e] at hc; simp at hc
    have e2 : M (m + 1) = false := by
      cases e2 : M (m + 1)
      · rfl
      · rw [e2] at hc; simp at hc
    have h1 : mis m M F = mis m M G := funext fun k => by unfold mis; rw [hP, h m e]
    have h2 : wei m M F = wei m M G := funext fun k => by unfold wei; rw [hQ, h (m + 1) e2]
    rw [h1, h2]
    unfold upd
    split
    · rfl
    · split
      · rfl
      · exact zeroed_cong h hi
theorem mend_cong (i : Nat) (hi : i < m ∨ M i = false ∨ i < m + 2) : mendP m M (mendD m M F) i = mendP m M (mendD m M G) i := by
  have hP : PP (mendD m M F) m = PP (mendD m M G) m := funext fun k => PP_same m fun j hj => by rw [mendD_cong h hc hj]
  have hQ : QQ (mendD m M F) m = QQ (mendD m M G) m := funext fun k => QQ_same m fun j hj => by rw [mendD_cong h hc hj]
  cases e : M i with
  | false => rw [mend_keep' e, mend_keep' e, h i e]
  | true =>
    unfold mendP
    rw [hP, hQ]
    by_cases h1 : i = m ∧ M m = true
    · rw [if_pos h1, if_pos h1]
    · rw [if_neg h1, if_neg h1]
      by_cases h2 : i = m + 1 ∧ M (m + 1) = true
      · rw [if_pos h2, if_pos h2]
      · rw [if_neg h2, if_neg h2]
        have : i < m := by
          rcases hi with hi | hi | hi
          · exact hi
          · rw [e] at hi; cases hi
          · have n1 : i ≠ m := fun f => h1 ⟨f, by rw [← f]; exact e⟩
            have n2 : i ≠ m + 1 := fun f => h2 ⟨f, by rw [← f]; exact e⟩
            omega
        exact mendD_cong h hc this
end
/-- The program's row u tells what the document's row s does. -/
structure Like (u s : Rw) : Prop where
  n : u.n = s.n
  M : ∀ j, j < s.n → u.M j = !s.M j
  F : ∀ i, s.M i = false → u.F i = s.F i
  by' : ∀ i k, u.F i k < 256
section
variable {u s : Rw} (L : Like u s) (hs : s.ok)
include L
theorem Like.has {c : Int} : u.has c ↔ s.has c := by unfold Rw.has; rw [L.n]
theorem Like.argE {c : Int} : argE u c = argE s c := by
  unfold StM.argE
  by_cases h : s.has c
  · rw [if_pos h, if_pos (L.has.2 h)]
  · rw [if_neg h, if_neg fun e => h (L.has.1 e)]
theorem Like.gone : u.gone = s.lost := by
  unfold Rw.gone Rw.lost gapsL
  rw [L.n]
  refine List.filter_congr fun j hj => ?_
  rw [L.M j (List.mem_range.1 hj), Bool.not_not]
theorem like_put {c : Int} {x : Nat → Nat} (hx : ∀ k, x k < 256) : Like (setU u c x true) (putT s c x) := by
  by_cases h : s.has c
  · unfold setU putT
    rw [if_pos (L.has.2 h), if_pos h]
    refine ⟨L.n, fun j hj => ?_, fun i hi => ?_, upd_lt L.by' hx⟩
    · show (if j = c.toNat then true else u.M j) = !(if j = c.toNat then false else s.M j)
      split
      · rfl
      · exact L.M j hj
    · show upd u.F c.toNat x i = upd s.F c.toNat x i
      have hi' : (if i = c.toNat then false else s.M i) = false := hi
      unfold upd
      split
      · rfl
      · rename_i e
        rw [if_neg e] at hi'
        exact L.F i hi'
  · unfold setU putT
    rw [if_neg h, if_neg fun e => h (L.has.1 e)]
    exact L
theorem like_lose {c : Int} : Like (setU u c (fun _ => 0) false) (losT s c) := by
  by_cases h : s.has c
  · unfold setU losT
    rw [if_pos (L.has.2 h), if_pos h]
    refine ⟨L.n, fun j hj => ?_, fun i hi => ?_, upd_lt L.by' fun _ => by omega⟩
    · show (if j = c.toNat then false else u.M j) = !(if j = c.toNat then true else s.M j)
      split
      · rfl
      · exact L.M j hj
    · show upd u.F c.toNat (fun _ => 0) i = s.F i
      have hi' : (if i = c.toNat then true else s.M i) = false := hi
      unfold upd
      split
      · rename_i e
        rw [if_pos e] at hi'
        cases hi'
      · rename_i e
        rw [if_neg e] at hi'
        exact L.F i hi'
  · unfold setU losT
    rw [if_neg h, if_neg fun e => h (L.has.1 e)]
    exact L
theorem Like.getE {c : Int} : getUE u c = getE s c := by
  unfold getUE StM.getE
  by_cases h : s.has c
  · rw [if_pos h, if_pos (L.has.2 h), L.M _ (by have := h.1; have := h.2; omega)]
    cases s.M c.toNat <;> rfl
  · rw [if_neg h, if_neg fun e => h (L.has.1 e)]
theorem Like.getS {c : Int} : getUS u c = getS s c := by
  unfold getUS StM.getS
  by_cases h : s.has c
  · have hm := L.M c.toNat (by have := h.1; have := h.2; omega)
    cases e : s.M c.toNat
    · rw [e] at hm
      rw [if_pos ⟨L.has.2 h, hm⟩, if_pos ⟨h, rfl⟩]
      exact L.F _ e
    · rw [e] at hm
      rw [if_neg (fun f => by rw [hm] at f; cases f.2), if_neg fun f => by cases f.2]
  · rw [if_neg (fun f => h (L.has.1 f.1)), if_neg fun f => h f.1]
include hs
theorem Like.absM : (abs u).M = s.M := funext fun j => by
  show (decide (j < u.n) && !u.M j) = s.M j
  by_cases h : j < s.n
  · rw [decide_eq_true (by rw [L.n]; exact h), L.M j h]; simp
  · rw [decide_eq_false (by rw [L.n]; exact h), hs.out j (by omega)]; rfl
theorem Like.lost : (abs u).lost = s.lost := abs_lost.trans L.gone
theorem Like.full : (abs u).full ↔ s.full := by unfold Rw.full; rw [L.lost hs]
theorem Like.menE : menE (abs u) = menE s := by
  unfold StM.menE
  by_cases h : s.full
  · rw [if_pos h, if_pos ((L.full hs).2 h)]
  · rw [if_neg h, if_neg fun e => h ((L.full hs).1 e)]
theorem Like.menL : menL (abs u) = menL s := by
  unfold StM.menL
  rw [L.lost hs]
  by_cases h : s.full
  · rw [if_pos h, if_pos ((L.full hs).2 h)]
  · rw [if_neg h, if_neg fun e => h ((L.full hs).1 e)]
theorem like_mend : Like (menU u) (menT s) := by
  unfold menU menT
  by_cases h : s.full
  · rw [if_pos h, if_pos ((L.full hs).2 h)]
    exact L
  · rw [if_neg h, if_neg fun e => h ((L.full hs).1 e)]
    have hl : (gapsL s.n s.M).length ≤ 2 := by unfold Rw.full Rw.lost at h; omega
    obtain ⟨m, hm⟩ : ∃ m, s.n = m + 2 := ⟨s.n - 2, by have := hs.lo; omega⟩
    have e1 : (abs u).n = s.n := L.n
    have hF : ∀ i, i < s.n → mendF (abs u) i = mendF s i := fun i hi => by
      unfold mendF
      rw [L.absM hs, e1, show s.n - 2 = m by omega]
      exact mend_cong (fun j hj => L.F j hj) (by rw [← hm]; exact hl) i (.inr (.inr (by omega)))
    refine ⟨L.n, fun j hj => ?_, fun i _ => ?_, fun i k => ?_⟩
    · show (if j ∈ (abs u).lost then true else u.M j) = !false
      rw [L.lost hs]
      have hj' : j < s.n := hj
      split
      · rfl
      · rename_i e
        rw [L.M j hj']
        cases f : s.M j
        · rfl
        · exact absurd (gaps_mem.2 ⟨hj', f⟩) e
    · show (if i ∈ (abs u).lost then mendF (abs u) i else u.F i) = mendF s i
      rw [L.lost hs]
      split
      · rename_i e
        exact hF i (gaps_mem.1 e).1
      · rename_i e
        have hMi : s.M i = false := by
          cases f : s.M i
          · rfl
          · have : i < s.n := by
              rcases Nat.lt_or_ge i s.n with g | g
              · exact g
              · rw [hs.out i g] at f; cases f
            exact absurd (gaps_mem.2 ⟨this, f⟩) e
        rw [L.F i hMi]
        exact (mend_keep' hMi).symm
    · show (if i ∈ (abs u).lost then mendF (abs u) i else u.F i) k < 256
      split
      · exact mend_lt (abs_ok (by rw [L.n]; exact hs.lo) (by rw [L.n]; exact hs.hi) L.by') i k
      · exact L.by' i k
theorem Like.whole (h : s.lost = []) : abs u = s := by
  have hM := none_lost hs h
  have hF : u.F = s.F := funext fun i => L.F i (by rw [hM])
  have h1 := L.absM hs
  have h2 := L.n
  cases s
  unfold abs at h1 ⊢
  simp only at h1 h2 hF ⊢
  rw [h2] at h1 ⊢
  rw [hF, h1]
theorem Like.right : (decide (u.gone = []) && rightA u.n u.F) = s.right := by
  unfold Rw.right
  rw [L.gone]
  by_cases h : s.lost = []
  · have hM := none_lost hs h
    have hF : u.F = s.F := funext fun i => L.F i (by rw [hM])
    rw [hF, L.n]
  · rw [decide_eq_false h, Bool.false_and, Bool.false_and]
theorem Like.dat {c : Int} : (abs u).dat c ↔ s.dat c := by
  have : (abs u).n = s.n := L.n
  unfold Rw.dat
  rw [this]
theorem Like.wriE {c : Int} : wriE (abs u) c = wriE s c := by
  unfold StM.wriE
  rw [L.lost hs]
  by_cases h : s.dat c
  · rw [if_pos h, if_pos ((L.dat hs).2 h)]
  · rw [if_neg h, if_neg fun e => h ((L.dat hs).1 e)]
theorem Like.wriL {c : Int} {x : Nat → Nat} : wriL (abs u) c x = wriL s c x := by
  by_cases h : s.lost = []
  · rw [L.whole hs h]
  · unfold StM.wriL
    have : StM.wriE s c ≠ 0 := by
      unfold StM.wriE
      rw [show (if s.lost = [] then 0 else 5) = 5 from if_neg h]
      split <;> omega
    rw [if_neg this, if_neg (by rw [L.wriE hs]; exact this)]
theorem like_write {c : Int} {x : Nat → Nat} (hx : ∀ k, x k < 256) : Like (wriU u c x) (wriT s c x) := by
  unfold wriU wriT
  rw [L.wriE hs]
  by_cases h : StM.wriE s c = 0
  · rw [if_pos h, if_pos h]
    have hl : s.lost = [] := by
      unfold StM.wriE at h
      split at h
      · split at h
        · assumption
        · cases h
      · cases h
    have hM := none_lost hs hl
    rw [L.whole hs hl]
    have hw := (wri_ok (x := x) (c := c) hs hx).by'
    unfold wriT at hw
    rw [if_pos h] at hw
    exact ⟨L.n, L.M, fun _ _ => rfl, hw⟩
  · rw [if_neg h, if_neg h]
    exact L
end
theorem like_new (n : Nat) : Like ⟨n, fun _ _ => 0, fun _ => false⟩ (made n) := ⟨rfl, fun j hj => by
  have hj' : j < n := hj
  show false = !decide (j < n)
  rw [decide_eq_true hj']; rfl, fun _ _ => rfl, fun _ _ => by show 0 < 256; omega⟩
end StM
end Go.Proofs.Ytlbfjnddbdpdpaa
set_option maxRecDepth 100000
namespace Go.Proofs.Ytlbfjnddbdpdpaa
open Go.ChangeShapes Go.WideShapes Go.ChangeAt Go.RowKit Go.Shelf
attribute [local go_sem] Gives
attribute [local go_sem high] run_eql_sec run_neq_sec
namespace StM
set_option maxRecDepth 100000 in
theorem fill_any (c : Nat) (w : World) :
    Calls Try.prog 28 #[.int .u8 c] w fun e w' => e = .returned (.agg (sec fun _ => c)) ∧ Below w.heap.size w w' := by
  go_enter Try.func28, Try.ntmps28
  go_wp2_with fail
  generalize hw3 : World.alloc (World.alloc w _) _ = w3
  have b1 : Blk w3 w.heap.size 32 (sec fun _ => 0) := by rw [← hw3]; exact (Blk.top zlit rfl).alloc _
  have b2 : Blk w3 (w.heap.size + 1) 32 (sec fun _ => 0) := by rw [← hw3]; exact Blk.top zlit (by simp)
  have hb : Below w.heap.size w w3 := by rw [← hw3]; exact ((Below.refl _ _).alloc (Nat.le_refl _) _).alloc (by simp) _
  clear hw3
  go_loopw [4] (fun i wr => ∃ k : Nat, k ≤ 64 ∧ i = .int .i64 k ∧ Blk wr w.heap.size 32 (sec fun _ => 0) ∧ Blk wr (w.heap.size + 1) 32 (sec (upto k (fun _ => 0) fun _ => c)) ∧ Below w.heap.size w wr) (fun i _ => 64 - (intOf i).toNat)
  case atStart => exact ⟨0, by omega, rfl, b1, by rw [upto_zero]; exact b2, hb⟩
  case round =>
    obtain ⟨k, hk, rfl, b1, b2, hb⟩ := hrel
    by_cases hlt : k < 64
    · have c1 : wr.cell? ⟨w.heap.size + 1, k, none⟩ = some (.int .u8 (0 : Nat)) := by rw [b2.cell, get_sec hlt, upto_at]
      have c3 := b2.frozen k
      go_wp2_with fail
      go_roundw
      case rel => exact ⟨k + 1, by omega, by go_num, b1.setCell_other (by simp) _, upto_step (h := fun _ => c) (b2.setCell_same k _), hb.setCell (by simp) _⟩
      case measure => simp [intOf]; omega
    · rw [upto_all (by omega)] at b2
      go_wp2_with (first | ((with_reducible apply ld); rfl; assumption) | ((with_reducible apply stx); rfl; rfl; assumption))
      apply ret_sec Try.results28
      · rfl
      · rfl
      · exact b1.setRow_same _
      exact ⟨rfl, below_setRow hb (by omega) _⟩
/-- The program's row in memory, as the document tells it. -/
structure Pr (w : World) (g gc cc gg cg : Nat) (s : Rw) : Prop where
  ok : s.ok
  ex : ∃ u, Sq w g gc cc gg cg u ∧ Like u s
/-- What a call leaves. -/
def outP (w : World) (g gc cc gg cg : Nat) (s : Rw) (w' : World) : Prop := Pr w' g gc cc gg cg s ∧ Turn (fun k => k = gc ∨ k = gg) w w'
theorem pnew_any (n : Nat) (h4 : 4 ≤ n) (h64 : n ≤ 64) (w : World) : Calls Try.prog 8 #[.int .i64 n] w fun e w' =>
    ∃ g gc cc gg cg, e = .returned (.tuple #[.pointer (some ⟨g, 0, none⟩), .int .i64 0]) ∧ Pr w' g gc cc gg cg (made n) ∧ w.heap.size ≤ g ∧ w.heap.size ≤ gc ∧ w.heap.size ≤ gg ∧ Below w.heap.size w w' :=
  (new_any n h4 h64 w).mono fun _ _ ⟨g, gc, cc, gg, cg, h1, h2, h3⟩ => ⟨g, gc, cc, gg, cg, h1, ⟨made_ok h4 h64, _, h2, like_new n⟩, h3⟩
section
variable {w w' : World} {g gc cc gg cg : Nat} {s : Rw}
theorem Pr.turn {T : Nat → Prop} (H : Pr w g gc cc gg cg s) (ht : Turn T w w') (h1 : ¬ T g) (h2 : ¬ T gc) (h3 : ¬ T gg) : Pr w' g gc cc gg cg s := by
  obtain ⟨hk, u, hq, hl⟩ := H
  exact ⟨hk, u, hq.turn ht h1 h2 h3, hl⟩
theorem Pr.on (H : Pr w g gc cc gg cg s) (hb : Below w.heap.size w w') : Pr w' g gc cc gg cg s := H.turn (Turn.of_new (S := fun _ => False) hb) (fun e => e) (fun e => e) fun e => e
theorem Pr.lts (H : Pr w g gc cc gg cg s) : g < w.heap.size ∧ gc < w.heap.size ∧ gg < w.heap.size := by
  obtain ⟨hk, u, hq, hl⟩ := H
  exact ⟨hq.gLt, hq.cLt, hq.oLt⟩
theorem outP.below {B : Nat} (h : outP w g gc cc gg cg s w') (hB : B ≤ w.heap.size) (h1 : B ≤ gc) (h2 : B ≤ gg) : Below B w w' := h.2.below hB fun k e => by rcases e with rfl | rfl <;> assumption
variable (H : Pr w g gc cc gg cg s)
include H
theorem pput_any (c : Int) (x : Nat → Nat) (hx : ∀ k, x k < 256) : Calls Try.prog 11 #[.pointer (some ⟨g, 0, none⟩), .int .i64 c, .agg (sec x)] w fun e w' => e = .returned (.int .i64 (argE s c)) ∧ outP w g gc cc gg cg (putT s c x) w' := by
  obtain ⟨hk, u, hq, hl⟩ := H
  exact (put_any hq (by rw [hl.n]; have := hk.lo; omega) c x).mono fun e w' ⟨h1, h2, h3⟩ => ⟨by rw [h1, hl.argE], ⟨put_ok hk hx, _, h2, like_put hl hx⟩, h3⟩
theorem plose_any (c : Int) : Calls Try.prog 13 #[.pointer (some ⟨g, 0, none⟩), .int .i64 c] w fun e w' => e = .returned (.int .i64 (argE s c)) ∧ outP w g gc cc gg cg (losT s c) w' := by
  obtain ⟨hk, u, hq, hl⟩ := H
  exact (lose_any hq (by rw [hl.n]; have := hk.lo; omega) c).mono fun e w' ⟨h1, h2, h3⟩ => ⟨by rw [h1, hl.argE], ⟨los_ok hk, _, h2, like_lose hl⟩, h3⟩
theorem pget_any (c : Int) : Calls Try.prog 20 #[.pointer (some ⟨g, 0, none⟩), .int .i64 c] w fun e w' => e = .returned (.tuple #[.agg (sec (getS s c)), .int .i64 (getE s c)]) ∧ Below w.heap.size w w' := by
  obtain ⟨hk, u, hq, hl⟩ := H
  exact (get_any hq (by rw [hl.n]; have := hk.lo; omega) c).mono fun e w' ⟨h1, h2⟩ => ⟨by rw [h1, hl.getE, hl.getS], h2⟩
theorem plost_any : Calls Try.prog 22 #[.pointer (some ⟨g, 0, none⟩)] w fun e w' => ∃ v, e = .returned v ∧ OwnI w' w.heap.size v s.lost ∧ Below w.heap.size w w' := by
  obtain ⟨hk, u, hq, hl⟩ := H
  exact (lost_any hq (by rw [hl.n]; exact hk.hi)).mono fun e w' ⟨v, h1, h2⟩ => ⟨v, h1, by rw [← hl.gone]; exact h2⟩
theorem pright_any : Calls Try.prog 24 #[.pointer (some ⟨g, 0, none⟩)] w fun e w' => e = .returned (.bool s.right) ∧ Below w.heap.size w w' := by
  obtain ⟨hk, u, hq, hl⟩ := H
  exact (right_st hq (by rw [hl.n]; exact hk.lo) (by rw [hl.n]; exact hk.hi) hl.by').mono fun e w' ⟨h1, h2⟩ => ⟨by rw [h1, hl.right hk], h2⟩
theorem pcols_any : Calls Try.prog 26 #[.pointer (some ⟨g, 0, none⟩)] w fun e w' => e = .returned (.int .i64 s.n) ∧ w = w' := by
  obtain ⟨hk, u, hq, hl⟩ := H
  exact (columns_any hq.cn).mono fun e w' ⟨h1, h2⟩ => ⟨by rw [h1, hl.n], h2⟩
theorem pmend_any : Calls Try.prog 15 #[.pointer (some ⟨g, 0, none⟩)] w fun e w' =>
    ∃ A c, e = .returned (.tuple #[.slice A (menL s).length c, .int .i64 (menE s)]) ∧ OwnI w' w.heap.size (.slice A (menL s).length c) (menL s) ∧ outP w g gc cc gg cg (menT s) w' := by
  obtain ⟨hk, u, hq, hl⟩ := H
  refine (mend_any hq (by rw [hl.n]; exact hk.lo) (by rw [hl.n]; exact hk.hi) hl.by').mono ?_
  rintro e w' ⟨A, c, h1, h2, h3, h4⟩
  rw [hl.menE hk, hl.menL hk] at h1
  rw [hl.menL hk] at h2
  exact ⟨A, c, h1, h2, ⟨men_ok hk, _, h3, like_mend hl hk⟩, h4⟩
theorem pwrite_any (c : Int) (x : Nat → Nat) (hx : ∀ k, x k < 256) : Calls Try.prog 18 #[.pointer (some ⟨g, 0, none⟩), .int .i64 c, .agg (sec x)] w fun e w' =>
    ∃ A k, e = .returned (.tuple #[.slice A (wriL s c x).length k, .int .i64 (wriE s c)]) ∧ OwnI w' w.heap.size (.slice A (wriL s c x).length k) (wriL s c x) ∧ outP w g gc cc gg cg (wriT s c x) w' := by
  obtain ⟨hk, u, hq, hl⟩ := H
  refine (write_any hq (by rw [hl.n]; exact hk.lo) (by rw [hl.n]; exact hk.hi) hl.by' c x hx).mono ?_
  rintro e w' ⟨A, k, h1, h2, h3, h4⟩
  rw [hl.wriE hk, hl.wriL hk] at h1
  rw [hl.wriL hk] at h2
  exact ⟨A, k, h1, h2, ⟨wri_ok hk hx, _, h3, like_write hl hk hx⟩, h4⟩
end
def ws1 : Rw := putT (made 4) 1 fun _ => 2
def ws2 : Rw := putT ws1 2 fun _ => 3
def ws3 : Rw := putT ws2 3 fun _ => 5
theorem put_in {s : Rw} {c : Int} {x : Nat → Nat} (h : s.has c) : putT s c x = { s with F := upd s.F c.toNat x, M := fun j => if j = c.toNat then false else s.M j } := if_pos h
theorem ws_F1 (k : Nat) : ws3.F 1 k = 2 := by
  have h1 : ws1.F = upd (made 4).F 1 fun _ => 2 := by unfold ws1; rw [put_in (by decide)]; rfl
  have h2 : ws2.F = upd ws1.F 2 fun _ => 3 := by unfold ws2; rw [put_in (by decide)]; rfl
  have h3 : ws3.F = upd ws2.F 3 fun _ => 5 := by unfold ws3; rw [put_in (by decide)]; rfl
  rw [h3, h2, h1, upd_ne (by decide), upd_ne (by decide), upd_self]
theorem ws_F2 (k : Nat) : ws3.F 2 k = 3 := by
  have h2 : ws2.F = upd ws1.F 2 fun _ => 3 := by unfold ws2; rw [put_in (by decide)]; rfl
  have h3 : ws3.F = upd ws2.F 3 fun _ => 5 := by unfold ws3; rw [put_in (by decide)]; rfl
  rw [h3, h2, upd_ne (by decide), upd_self]
theorem ws_E : menE ws3 = 0 := by decide
theorem ws_L : menL ws3 = [0] := by decide
theorem ws_G : getE (menT ws3) 0 = 0 := by decide
theorem ws_F : menT ws3 = { ws3 with F := mendF ws3, M := fun _ => false } := rfl
theorem ws_S : sec (getS (menT ws3) 0) = sec fun _ => 1 := sec_ext fun k _ => by
  rw [ws_F]
  show mendF ws3 0 k = 1
  have hg : gapsL 2 ws3.M = [0] := by decide
  have hm : ws3.M 2 = false := by decide
  have h1 : mendF ws3 0 k = mis 2 ws3.M ws3.F k := by
    unfold mendF mendP
    rw [show ws3.n - 2 = 2 from rfl, if_neg (by omega), if_neg (by omega), gD1 hg, upd_self, hm]
    rfl
  have h2 : zeroed 2 ws3.M ws3.F 0 k = 0 := zeroed_at (by omega) (by decide) k
  have h3 : zeroed 2 ws3.M ws3.F 1 = ws3.F 1 := zeroed_not (by decide)
  rw [h1]
  unfold mis
  show ((0 ^^^ zeroed 2 ws3.M ws3.F 0 k) ^^^ zeroed 2 ws3.M ws3.F 1 k) ^^^ ws3.F 2 k = 1
  rw [h2, h3, ws_F1, ws_F2]
  rfl
set_option maxRecDepth 100000 in
set_option maxHeartbeats 2000000 in
theorem works_any (w : World) : Calls Try.prog 10 #[] w fun e w' => e = .returned (.bool true) ∧ Below w.heap.size w w' := by
  go_enter Try.func10, Try.ntmps10
  go_wp2_with fail
  refine (pnew_any 4 (by omega) (by omega) w).mono ?_
  rintro e w1 ⟨g, gc, cc, gg, cg, rfl, P, hg, hc, hh, hb⟩
  have P1 := hid P
  have G := hid (And.intro hg (And.intro hc hh))
  have B1 := hid hb
  clear P hg hc hh hb
  go_wp2_with fail
  refine (fill_any 2 _).mono ?_
  rintro e w2 ⟨rfl, h2⟩
  have P2 := hid (P1.out.on h2)
  have B2 := hid (B1.out.trans (h2.mono B1.out.size))
  clear h2 P1 B1
  go_wp2_with fail
  refine (pput_any P2.out 1 (fun _ => 2) fun _ => by omega).mono ?_
  rintro e w3 ⟨rfl, o3⟩
  have P3 := hid o3.1
  have B3 := hid (B2.out.trans (o3.below B2.out.size G.out.2.1 G.out.2.2))
  clear o3 P2 B2
  go_wp2_with fail
  refine (fill_any 3 _).mono ?_
  rintro e w4 ⟨rfl, h4⟩
  have P4 := hid (P3.out.on h4)
  have B4 := hid (B3.out.trans (h4.mono B3.out.size))
  clear h4 P3 B3
  go_wp2_with fail
  refine (pput_any P4.out 2 (fun _ => 3) fun _ => by omega).mono ?_
  rintro e w5 ⟨rfl, o5⟩
  have P5 := hid o5.1
  have B5 := hid (B4.out.trans (o5.below B4.out.size G.out.2.1 G.out.2.2))
  clear o5 P4 B4
  go_wp2_with fail
  refine (fill_any 5 _).mono ?_
  rintro e w6 ⟨rfl, h6⟩
  have P6 := hid (P5.out.on h6)
  have B6 := hid (B5.out.trans (h6.mono B5.out.size))
  clear h6 P5 B5
  go_wp2_with fail
  refine (pput_any P6.out 3 (fun _ => 5) fun _ => by omega).mono ?_
  rintro e w7 ⟨rfl, o7⟩
  have P7 := hid (show Pr w7 g gc cc gg cg ws3 from o7.1)
  have B7 := hid (B6.out.trans (o7.below B6.out.size G.out.2.1 G.out.2.2))
  clear o7 P6 B6
  go_wp2_with fail
  refine (pmend_any P7.out).mono ?_
  rintro e w8 ⟨A, c, rfl, oi, o8⟩
  rw [ws_L] at oi
  rw [ws_L, ws_E]
  obtain ⟨b, c', e, hr⟩ := OwnI.get (j := 0) oi (by decide)
  simp only [List.length_cons, List.length_nil, Value.slice.injEq] at e
  obtain ⟨rfl, _, rfl⟩ := e
  have Q8 := hid (hr 0 (by decide))
  have P8 := hid o8.1
  have B8 := hid (B7.out.trans (o8.below B7.out.size G.out.2.1 G.out.2.2))
  have lb := hid (World.block_lt_of_cell? w8 _ Q8.out)
  clear o8 P7 B7 hr oi
  go_wp2_with fail
  refine (pget_any P8.out 0).mono ?_
  rintro e w9 ⟨rfl, h9⟩
  rw [ws_S, ws_G]
  have Q9 := hid ((h9.cell (p := ⟨b, 0, none⟩) lb.out).trans Q8.out)
  have B9 := hid (B8.out.trans (h9.mono B8.out.size))
  clear h9 P8 B8 Q8
  go_wp2_with ((with_reducible apply stx); rfl; rfl; exact Blk.top zlit rfl)
  generalize hw10 : World.setRow (World.alloc w9 _) _ _ = w10
  have b10 := hid (show Blk w10 w9.heap.size 32 (sec fun _ => 1) by rw [← hw10]; exact (Blk.top zlit rfl).setRow_same _)
  have h10 : Below w9.heap.size w9 w10 := by rw [← hw10]; exact below_setRow ((Below.refl _ _).alloc (Nat.le_refl _) _) (Nat.le_refl _) _
  have B10 := hid (B9.out.trans (h10.mono B9.out.size))
  have lq := hid (World.block_lt_of_cell? w9 _ Q9.out)
  have Q10 := hid ((h10.cell (p := ⟨b, 0, none⟩) lq.out).trans Q9.out)
  have lb10 := hid (World.block_lt_of_cell? w10 _ Q10.out)
  clear hw10 h10
  have e1 := eqS_yes (f := fun _ => 1) (g := fun _ => 1) fun _ _ => rfl
  go_wp2_with fail
  refine wp_region_tail (C := fun w' => Below w10.heap.size w10 w') 22 (by kernel_rfl) (by kernel_rfl) (by kernel_rfl) (Below.refl _ _).drew ?_
  simp only [List.take_succ_cons, List.take_zero, List.drop_succ_cons, List.drop_zero]
  apply wpK_val
  · rfl
  · intro w' hw'
    go_simp
    first | exact rfl | exact ⟨rfl, hw'⟩
  simp only [Act.put, List.setIfInBounds_toArray, List.set_cons_succ, List.set_cons_zero]
  apply wpK_val
  · rfl
  · intro w' hw'
    go_simp
    first | exact rfl | exact ⟨rfl, hw'⟩
  simp only [Act.put, List.setIfInBounds_toArray, List.set_cons_succ, List.set_cons_zero]
  apply wpK_val
  · rfl
  · intro w' hw'
    go_simp
    first | exact rfl | exact ⟨rfl, hw'⟩
  simp only [Act.put, List.setIfInBounds_toArray, List.set_cons_succ, List.set_cons_zero]
  apply wpK_val
  · rfl
  · intro w' hw'
    go_simp
    first | exact rfl | exact ⟨rfl, hw'⟩
  simp only [Act.put, List.setIfInBounds_toArray, List.set_cons_succ, List.set_cons_zero]
  apply wpK_val
  · rfl
  · intro w' hw'
    go_simp
    first | exact rfl | exact ⟨rfl, hw'⟩
  simp only [Act.put, List.setIfInBounds_toArray, List.set_cons_succ, List.set_cons_zero]
  apply wpK_val
  · rfl
  · intro w' hw'
    go_simp
    first | exact rfl | exact ⟨rfl, hw'⟩
  simp only [Act.put, List.setIfInBounds_toArray, List.set_cons_succ, List.set_cons_zero]
  apply wpK_val
  · rfl
  · intro w' hw'
    go_simp
    first | exact rfl | exact ⟨rfl, hw'⟩
  simp only [Act.put, List.setIfInBounds_toArray, List.set_cons_succ, List.set_cons_zero]
  apply kld
  · rfl
  · rfl
  · exact fun w' hw' => b10.out.below hw' b10.out.lt
  simp only [Act.put, List.setIfInBounds_toArray, List.set_cons_succ, List.set_cons_zero]
  apply wpK_val
  · rfl
  · intro w' hw'
    go_simp
    exact (fill_any 1 _).mono fun e w'' ⟨he, hb'⟩ => ⟨he, hw'.trans (hb'.mono hw'.size)⟩
  simp only [Act.put, List.setIfInBounds_toArray, List.set_cons_succ, List.set_cons_zero]
  apply wpK_val
  · rfl
  · intro w' hw'
    go_simp
    first | exact rfl | exact ⟨rfl, hw'⟩
  simp only [Act.put, List.setIfInBounds_toArray, List.set_cons_succ, List.set_cons_zero]
  apply wpK_val
  · rfl
  · intro w' hw'
    go_simp
    first | exact rfl | exact ⟨rfl, hw'⟩
  simp only [Act.put, List.setIfInBounds_toArray, List.set_cons_succ, List.set_cons_zero]
  apply wpK_val
  · rfl
  · intro w' hw'
    go_simp
    first | exact rfl | exact ⟨rfl, hw'⟩
  simp only [Act.put, List.setIfInBounds_toArray, List.set_cons_succ, List.set_cons_zero]
  apply wpK_val
  · rfl
  · intro w' hw'
    go_simp
    first | exact rfl | exact ⟨rfl, hw'⟩
  simp only [Act.put, List.setIfInBounds_toArray, List.set_cons_succ, List.set_cons_zero]
  apply wpK_val
  · rfl
  · intro w' hw'
    go_simp
    first | exact rfl | exact ⟨rfl, hw'⟩
  simp only [Act.put, List.setIfInBounds_toArray, List.set_cons_succ, List.set_cons_zero]
  apply wpK_val
  · rfl
  · intro w' hw'
    go_simp
    first | exact rfl | exact ⟨rfl, hw'⟩
  simp only [Act.put, List.setIfInBounds_toArray, List.set_cons_succ, List.set_cons_zero]
  apply wpK_val
  · rfl
  · intro w' hw'
    go_simp
    first | exact rfl | exact ⟨rfl, hw'⟩
  simp only [Act.put, List.setIfInBounds_toArray, List.set_cons_succ, List.set_cons_zero]
  apply wpK_val
  · rfl
  · intro w' hw'
    go_simp
    first | exact rfl | exact ⟨rfl, hw'⟩
  simp only [Act.put, List.setIfInBounds_toArray, List.set_cons_succ, List.set_cons_zero]
  apply wpK_val
  · rfl
  · intro w' hw'
    go_simp
    first | exact rfl | exact ⟨rfl, hw'⟩
  simp only [Act.put, List.setIfInBounds_toArray, List.set_cons_succ, List.set_cons_zero]
  apply wpK_val
  · rfl
  · intro w' hw'
    go_simp
    first | exact rfl | exact ⟨rfl, hw'⟩
  simp only [Act.put, List.setIfInBounds_toArray, List.set_cons_succ, List.set_cons_zero]
  apply wpK_val
  · rfl
  · intro w' hw'
    have hcell := (hw'.cell (p := ⟨b, 0, none⟩) lb10.out).trans Q10.out
    go_simp
    first | exact rfl | exact ⟨rfl, hw'⟩
  simp only [Act.put, List.setIfInBounds_toArray, List.set_cons_succ, List.set_cons_zero]
  apply wpK_val
  · rfl
  · intro w' hw'
    go_simp
    first | exact rfl | exact ⟨rfl, hw'⟩
  simp only [Act.put, List.setIfInBounds_toArray, List.set_cons_succ, List.set_cons_zero]
  apply wpK_val
  · rfl
  · intro w' hw'
    go_simp
    first | exact rfl | exact ⟨rfl, hw'⟩
  simp only [Act.put, List.setIfInBounds_toArray, List.set_cons_succ, List.set_cons_zero]
  refine wpK_nil fun w11 hw11 => ?_
  have B11 := hid (B10.out.trans (hw11.mono B10.out.size))
  clear hw11
  go_wp2_with fail
  go_ret
  exact ⟨rfl, B11.out⟩
end StM
end Go.Proofs.Ytlbfjnddbdpdpaa
set_option maxRecDepth 100000
namespace Go.Proofs.Ytlbfjnddbdpdpaa
open Go.ChangeShapes Go.WideShapes Go.ChangeAt Go.RowKit Go.Shelf
set_option linter.unusedSectionVars false
namespace StM
/-- Two rows of which all that is there is the same. -/
structure Al (s t : Rw) : Prop where
  n : s.n = t.n
  M : ∀ j, j < s.n → s.M j = t.M j
  F : ∀ i k, i < s.n → k < 64 → s.M i = false → s.F i k = t.F i k
theorem Al.refl (s : Rw) : Al s s := ⟨rfl, fun _ _ => rfl, fun _ _ _ _ _ => rfl⟩
theorem Al.trans {s t v : Rw} (h : Al s t) (k : Al t v) : Al s v :=
  ⟨h.n.trans k.n, fun j hj => (h.M j hj).trans (k.M j (by rw [← h.n]; exact hj)), fun i l hi hl hm => (h.F i l hi hl hm).trans (k.F i l (by rw [← h.n]; exact hi) hl (by rw [← h.M i hi]; exact hm))⟩
theorem Pr.to {w : World} {g gc cc gg cg : Nat} {s t : Rw} (H : Pr w g gc cc gg cg s) (h : Al s t) (hk : t.ok) : Pr w g gc cc gg cg t := by
  obtain ⟨ok, u, hq, hl⟩ := H
  have hM : ∀ j, s.M j = t.M j := fun j => by
    rcases Nat.lt_or_ge j s.n with e | e
    · exact h.M j e
    · rw [ok.out j e, hk.out j (by rw [← h.n]; exact e)]
  refine ⟨hk, { u with F := fun i => if t.M i = false then t.F i else u.F i }, hq.mono (F := fun i => if t.M i = false then t.F i else u.F i) (M := u.M) (fun i k hi hk' => ?_) fun _ _ => rfl, hl.n.trans h.n, fun j hj => ?_, fun i hi => ?_, fun i k => ?_⟩
  · by_cases e : t.M i = false
    · rw [if_pos e, hl.F i (by rw [hM]; exact e)]
      exact (h.F i k (by rw [← hl.n]; exact hi) hk' (by rw [hM]; exact e)).symm
    · rw [if_neg e]
  · show u.M j = !t.M j
    rw [hl.M j (by rw [h.n]; exact hj), hM]
  · show (if t.M i = false then t.F i else u.F i) = t.F i
    rw [if_pos hi]
  · show (if t.M i = false then t.F i else u.F i) k < 256
    split
    · exact hk.by' i k
    · exact hl.by' i k
/-- The right row of so many data. -/
def rt (m : Nat) (D : Nat → Nat → Nat) : Rw := ⟨m + 2, rowF m D, fun _ => false⟩
section
variable {m : Nat} {D : Nat → Nat → Nat} (h2 : 2 ≤ m) (h62 : m ≤ 62) (hD : ∀ i k, D i k < 256)
include h2 h62 hD
theorem rt_ok : (rt m D).ok := ⟨by show 4 ≤ m + 2; omega, by show m + 2 ≤ 64; omega, rowF_lt hD, fun _ _ => rfl⟩
omit h2 h62 hD in
theorem rt_lost : (rt m D).lost = [] := by
  unfold Rw.lost gapsL
  rw [List.filter_eq_nil_iff]
  intro a _ e
  cases e
theorem rt_right : (rt m D).right = true := by
  unfold Rw.right
  rw [decide_eq_true rt_lost, Bool.true_and]
  show rightA (m + 2) (rowF m D) = true
  unfold rightA
  rw [if_pos (by omega), show m + 2 - 2 = m by omega]
  exact rowF_right
omit h2 h62 hD in
theorem rt_getE {c : Int} (h : 0 ≤ c ∧ c < (m : Int) + 2) : getE (rt m D) c = 0 := by
  have hh : (rt m D).has c := ⟨h.1, by show c < ((m + 2 : Nat) : Int); omega⟩
  unfold getE
  rw [if_pos hh]
  rfl
omit h2 h62 hD in
theorem rt_getS {c : Int} (h : 0 ≤ c ∧ c < (m : Int) + 2) : getS (rt m D) c = rowF m D c.toNat := by
  have hh : (rt m D).has c := ⟨h.1, by show c < ((m + 2 : Nat) : Int); omega⟩
  unfold getS
  rw [if_pos ⟨hh, rfl⟩]
  rfl
/-- What is lost of a right row, two columns at most, comes back. -/
theorem rt_back {s : Rw} (hs : s.ok) (hn : s.n = m + 2) (hF : ∀ i k, i < m + 2 → k < 64 → s.M i = false → s.F i k = rowF m D i k) (hc : s.lost.length ≤ 2) : Al (menT s) (rt m D) := by
  unfold menT
  rw [if_neg (by unfold Rw.full; omega)]
  refine ⟨hn, fun _ _ => rfl, fun i k hi hk _ => ?_⟩
  show mendF s i k = rowF m D i k
  unfold mendF
  rw [hn, show m + 2 - 2 = m by omega]
  exact back h62 hD (by rw [lz_cnt hs]; exact hc) (fun j hj hm => hF j k hj hk hm) i (by rw [← hn]; exact hi)
theorem rt_dat {c : Nat} (hc : c < m) : (rt m D).dat c := ⟨by omega, by show ((c : Nat) : Int) < ((m + 2 - 2 : Nat) : Int); omega⟩
theorem rt_wriE {c : Nat} (hc : c < m) : wriE (rt m D) c = 0 := by
  unfold wriE
  rw [if_pos (rt_dat h2 h62 hD hc), if_pos rt_lost]
theorem PP_upd {c : Nat} (hc : c < m) (x : Nat → Nat) (k : Nat) : PP (upd D c x) m k = PP D m k ^^^ (D c k ^^^ x k) := by
  have h := PP_off (Z := upd D c x) (F := D) (k := k) (x := c) m hc fun i _ hi => by rw [upd_ne hi]
  rw [upd_self] at h
  have : (PP (upd D c x) m k ^^^ x k) ^^^ x k = (PP D m k ^^^ D c k) ^^^ x k := by rw [h]
  rw [xcan] at this
  rw [this, Nat.xor_assoc]
theorem QQ_upd {c : Nat} (hc : c < m) (x : Nat → Nat) (hx : ∀ k, x k < 256) (k : Nat) : QQ (upd D c x) m k = QQ D m k ^^^ GfM.mul (GfM.pw c) (D c k ^^^ x k) := by
  have h := QQ_off (Z := upd D c x) (F := D) (k := k) (x := c) m hc fun i _ hi => by rw [upd_ne hi]
  rw [upd_self] at h
  have : (QQ (upd D c x) m k ^^^ GfM.mul (GfM.pw c) (x k)) ^^^ GfM.mul (GfM.pw c) (x k) = (QQ D m k ^^^ GfM.mul (GfM.pw c) (D c k)) ^^^ GfM.mul (GfM.pw c) (x k) := by rw [h]
  rw [xcan] at this
  rw [this, Nat.xor_assoc, ← GfM.mul_xor_right]
theorem wriF_rt {c : Nat} (hc : c < m) (x : Nat → Nat) (hx : ∀ k, x k < 256) {i k : Nat} (hi : i < m + 2) : wriF (rt m D) c x i k = rowF m (upd D c x) i k := by
  unfold wriF rowF
  show (if i = c then x else if i = m + 2 - 2 then _ else if i = m + 2 - 1 then _ else rowF m D i) k = _
  rw [show m + 2 - 2 = m by omega, show m + 2 - 1 = m + 1 by omega]
  by_cases h1 : i = c
  · subst h1
    rw [if_pos rfl, if_pos hc, upd_self]
  · rw [if_neg h1]
    by_cases h3 : i = m
    · subst h3
      rw [if_pos rfl, if_neg (by omega), if_pos rfl, PP_upd h2 h62 hD hc]
      show rowF i D i k ^^^ (rowF i D c k ^^^ x k) = _
      unfold rowF
      rw [if_neg (by omega), if_pos rfl, if_pos hc]
    · rw [if_neg h3]
      by_cases h4 : i = m + 1
      · subst h4
        rw [if_pos rfl, if_neg (by omega), if_neg (by omega), QQ_upd h2 h62 hD hc x hx]
        show rowF m D (m + 1) k ^^^ GfM.mul (GfM.pw c) (rowF m D c k ^^^ x k) = _
        unfold rowF
        rw [if_neg (by omega), if_neg (by omega), if_pos hc]
      · rw [if_neg h4, if_pos (by omega), upd_ne h1]
        unfold rowF
        rw [if_pos (by omega)]
/-- What is written keeps the row right. -/
theorem rt_write {c : Nat} (hc : c < m) (x : Nat → Nat) (hx : ∀ k, x k < 256) : Al (wriT (rt m D) c x) (rt m (upd D c x)) := by
  unfold wriT
  rw [if_pos (rt_wriE h2 h62 hD hc)]
  refine ⟨rfl, fun _ _ => rfl, fun i k hi _ _ => ?_⟩
  exact wriF_rt h2 h62 hD hc x hx hi
/-- The same sector written changes nothing. -/
theorem rt_same {c : Nat} (hc : c < m) (x : Nat → Nat) (he : ∀ k, k < 64 → D c k = x k) (hx : ∀ k, x k < 256) : wriL (rt m D) c x = [] := by
  unfold wriL
  rw [if_pos (rt_wriE h2 h62 hD hc), List.filter_eq_nil_iff]
  intro i hi
  have hi' : i < m + 2 := List.mem_range.1 hi
  have : eqS (wriF (rt m D) c x i) ((rt m D).F i) = true := eqS_iff.2 fun k hk => by
    show wriF (rt m D) c x i k = rowF m D i k
    rw [wriF_rt h2 h62 hD hc x hx hi']
    have hP : PP (upd D c x) m k = PP D m k := PP_same m fun j _ => by
      unfold upd
      split
      · rename_i e; rw [e]; exact (he k hk).symm
      · rfl
    have hQ : QQ (upd D c x) m k = QQ D m k := QQ_same m fun j _ => by
      unfold upd
      split
      · rename_i e; rw [e]; exact (he k hk).symm
      · rfl
    unfold rowF
    split
    · unfold upd
      split
      · rename_i e; rw [e]; exact (he k hk).symm
      · rfl
    · split
      · exact hP
      · exact hQ
  rw [Int.toNat_natCast, this]
  decide
/-- Another sector written changes its column, P and Q. -/
theorem rt_other {c : Nat} (hc : c < m) (x : Nat → Nat) {k : Nat} (hk : k < 64) (he : D c k ≠ x k) (hx : ∀ k, x k < 256) : wriL (rt m D) c x = [c, m, m + 1] := by
  have hne : D c k ^^^ x k ≠ 0 := fun e => he (GfM.xor_eq_zero e)
  have key : ∀ i, i < m + 2 → eqS (wriF (rt m D) c x i) ((rt m D).F i) = (!(decide (i = c) || decide (i = m) || decide (i = m + 1))) := fun i hi => by
    by_cases h1 : i = c ∨ i = m ∨ i = m + 1
    · have e1 : (!(decide (i = c) || decide (i = m) || decide (i = m + 1))) = false := by
        rcases h1 with h1 | h1 | h1 <;> simp [h1]
      rw [e1]
      cases e2 : eqS (wriF (rt m D) c x i) ((rt m D).F i) with
      | false => rfl
      | true =>
        exfalso
        have := eqS_iff.1 e2 k hk
        rw [wriF_rt h2 h62 hD hc x hx hi] at this
        have this : rowF m (upd D c x) i k = rowF m D i k := this
        unfold rowF at this
        rcases h1 with h1 | h1 | h1
        · rw [h1, if_pos hc, if_pos hc, upd_self] at this
          exact he this.symm
        · rw [if_neg (by omega), if_pos h1, if_neg (by omega), if_pos h1, PP_upd h2 h62 hD hc] at this
          exact hne (by have h := congrArg (fun z => PP D m k ^^^ z) this; simp only [← Nat.xor_assoc, Nat.xor_self, Nat.zero_xor] at h; exact h)
        · rw [if_neg (by omega), if_neg (by omega), if_neg (by omega), if_neg (by omega), QQ_upd h2 h62 hD hc x hx] at this
          have h0 : GfM.mul (GfM.pw c) (D c k ^^^ x k) = 0 := by
            have h := congrArg (fun z => QQ D m k ^^^ z) this
            simp only [← Nat.xor_assoc, Nat.xor_self, Nat.zero_xor] at h
            exact h
          rcases (GfM.mul_eq_zero (GfM.pw_lt _) (GfM.xor_lt (hD c k) (hx k))).1 h0 with h | h
          · exact GfM.pw_pos c h
          · exact hne h
    · have e1 : (!(decide (i = c) || decide (i = m) || decide (i = m + 1))) = true := by
        simp [show ¬ i = c from fun e => h1 (.inl e), show ¬ i = m from fun e => h1 (.inr (.inl e)), show ¬ i = m + 1 from fun e => h1 (.inr (.inr e))]
      rw [e1]
      refine eqS_iff.2 fun l _ => ?_
      show wriF (rt m D) c x i l = rowF m D i l
      unfold wriF
      show (if i = c then x else if i = m + 2 - 2 then _ else if i = m + 2 - 1 then _ else rowF m D i) l = _
      rw [show m + 2 - 2 = m by omega, show m + 2 - 1 = m + 1 by omega, if_neg fun e => h1 (.inl e), if_neg fun e => h1 (.inr (.inl e)), if_neg fun e => h1 (.inr (.inr e))]
  unfold wriL
  rw [if_pos (rt_wriE h2 h62 hD hc), Int.toNat_natCast]
  have : (List.range (rt m D).n).filter (fun i => !eqS (wriF (rt m D) c x i) ((rt m D).F i)) = (List.range (m + 2)).filter fun i => decide (i = c) || decide (i = m) || decide (i = m + 1) :=
    List.filter_congr fun i hi => by rw [key i (List.mem_range.1 hi), Bool.not_not]
  rw [this, List.range_succ, List.range_succ, List.filter_append, List.filter_append]
  have h0 : (List.range m).filter (fun i => decide (i = c) || decide (i = m) || decide (i = m + 1)) = [c] := by
    have e : (List.range m).filter (fun i => decide (i = c) || decide (i = m) || decide (i = m + 1)) = (List.range m).filter fun i => decide (i = c) :=
      List.filter_congr fun i hi => by
        have := List.mem_range.1 hi
        rw [decide_eq_false (show ¬ i = m by omega), decide_eq_false (show ¬ i = m + 1 by omega)]; simp
    rw [e]
    clear e this key
    have : ∀ a, (List.range a).filter (fun i => decide (i = c)) = if c < a then [c] else [] := fun a => by
      induction a with
      | zero => rfl
      | succ a ih =>
        rw [List.range_succ, List.filter_append, ih]
        by_cases h : c < a
        · rw [if_pos h, if_pos (by omega)]
          simp [show ¬ a = c by omega]
        · rw [if_neg h]
          by_cases h' : a = c
          · subst h'; simp
          · rw [if_neg (by omega)]; simp [h']
    rw [this, if_pos hc]
  rw [h0]
  simp
end
end StM
end Go.Proofs.Ytlbfjnddbdpdpaa
set_option maxRecDepth 100000
namespace Go.Proofs.Ytlbfjnddbdpdpaa
open Go.ChangeShapes Go.WideShapes Go.ChangeAt Go.RowKit Go.Deep
theorem choose_lt {α : Type} [Inhabited α] {n : Nat} {P : Nat → α → Prop} (h : ∀ k, k < n → ∃ a, P k a) : ∃ f : Nat → α, ∀ k, k < n → P k (f k) :=
  ⟨fun k => if hk : k < n then (h k hk).choose else default, fun k hk => by simp only [hk, dif_pos]; exact (h k hk).choose_spec⟩
theorem u8_wf {a : Int} (h : (Lit.int .u8 a).wf = true) : ∃ n : Nat, a = n ∧ n < 256 := by
  simp [Lit.wf, IntKind.min, IntKind.max, IntKind.bits, IntKind.signed] at h
  exact ⟨a.toNat, by omega, by omega⟩
theorem cells_u8 : Try.prog.cellsOf 5 = 1 := by kernel_rfl
end Go.Proofs.Ytlbfjnddbdpdpaa
set_option maxRecDepth 100000
namespace Go.Proofs.Ytlbfjnddbdpdpaa
open Go.ChangeShapes Go.WideShapes Go.ChangeAt Go.RowKit Go.Deep
section
variable {H : Type} {enc : TypeId × Value → H} {w : World} {base : Nat} {spare : Nat → Bool} {held : Bool}
theorem cells_sec : Try.prog.cellsOf 32 = 64 := by kernel_rfl
theorem cells_row : Try.prog.cellsOf 75 = 192 := by kernel_rfl
theorem trod_sec {fuel : Nat} {cs : List Value} {x : DataW H × List MemPlace} (h : DataW.trod enc Try.prog w base spare held fuel 32 cs = some x) : ∃ f : Nat → Nat, (∀ k, f k < 256) ∧ cs = (sec f).toList := by
  obtain ⟨xs, m, rfl, rfl, hlen, hxl, hx⟩ := DataW.trod_array Try.underlying32 h
  rw [cells_sec] at hlen
  have hk : ∀ k, k < 64 → ∃ n : Nat, n < 256 ∧ cs[k]? = some (.int .u8 n) := fun k hk => by
    have h1 := hx k hk
    rw [cells_u8, Nat.mul_one, List.getElem?_eq_getElem (by omega)] at h1
    obtain ⟨n, e1, e2, wf⟩ := DataW.trod_int Try.underlying5 h1
    obtain ⟨n, rfl, hn⟩ := u8_wf wf
    refine ⟨n, hn, ?_⟩
    have : ((cs.drop k).take 1)[0]? = some (.int .u8 n) := by rw [e1]; rfl
    rw [List.getElem?_take_of_lt (by omega), List.getElem?_drop] at this
    exact this
  obtain ⟨f, hf⟩ := choose_lt hk
  refine ⟨fun k => if k < 64 then f k else 0, fun k => ?_, ?_⟩
  · by_cases h : k < 64
    · simp only [h, if_true]; exact (hf k h).1
    · simp [h]
  · apply List.ext_getElem?
    intro k
    have e : (sec fun k => if k < 64 then f k else 0).toList[k]? = if k < 64 then some (.int .u8 ((if k < 64 then f k else 0 : Nat) : Int)) else none := by
      rw [Array.getElem?_toList]
      exact get_row k
    rw [e]
    by_cases h : k < 64
    · rw [if_pos h, if_pos h]; exact (hf k h).2
    · rw [if_neg h, List.getElem?_eq_none (by omega)]
theorem open_sec {r : Reach} {b0 : Nat} {v : Value} {d : DataW H} {p : List MemPlace} (hv : Value.okWide Try.prog w r b0 32 v) (h : DataW.Trod enc Try.prog w base spare held 32 v d p) :
    ∃ f : Nat → Nat, (∀ k, f k < 256) ∧ v = .agg (sec f) := by
  have hv' : ∃ cs, v = .agg cs := by
    simp only [Value.okWide, Try.underlying32] at hv
    obtain ⟨cs, h1, _⟩ := hv
    exact ⟨cs, h1⟩
  obtain ⟨cs, rfl⟩ := hv'
  obtain ⟨fuel, hf⟩ := h
  obtain ⟨f, h1, h2⟩ := trod_sec hf
  refine ⟨f, h1, ?_⟩
  have : cs = sec f := by
    apply Array.ext'
    exact h2
  rw [this]
theorem open_row {r : Reach} {b0 : Nat} {v : Value} {d : DataW H} {p : List MemPlace} (hv : Value.okWide Try.prog w r b0 75 v) (h : DataW.Trod enc Try.prog w base spare held 75 v d p) :
    ∃ F : Nat → Nat → Nat, (∀ i k, F i k < 256) ∧ v = .agg (secs 3 F) := by
  obtain ⟨cs, rfl, hsz⟩ := okWide_struct Try.underlying75 hv
  rw [cells_row] at hsz
  obtain ⟨fuel, hf⟩ := h
  obtain ⟨xs, m, rfl, _, hlen, hxl, hx⟩ := DataW.trod_struct Try.underlying75 hf
  have hxl' : xs.length = 3 := hxl
  have one : ∀ i, i < 3 → ∃ f : Nat → Nat, (∀ k, f k < 256) ∧ (cs.toList.drop (i * 64)).take 64 = (sec f).toList := fun i hi => by
    match i, hi with
    | 0, _ =>
      have h1 : DataW.trod enc Try.prog w base spare held m 32 ((cs.toList.drop 0).take (Try.prog.cellsOf 32)) = xs[0]? := hx 0 _ rfl
      rw [List.getElem?_eq_getElem (by omega), cells_sec] at h1
      exact trod_sec h1
    | 1, _ =>
      have h1 : DataW.trod enc Try.prog w base spare held m 32 ((cs.toList.drop 64).take (Try.prog.cellsOf 32)) = xs[1]? := hx 1 _ rfl
      rw [List.getElem?_eq_getElem (by omega), cells_sec] at h1
      exact trod_sec h1
    | 2, _ =>
      have h1 : DataW.trod enc Try.prog w base spare held m 32 ((cs.toList.drop 128).take (Try.prog.cellsOf 32)) = xs[2]? := hx 2 _ rfl
      rw [List.getElem?_eq_getElem (by omega), cells_sec] at h1
      exact trod_sec h1
  obtain ⟨F, hF⟩ := choose_lt one
  refine ⟨fun i k => if i < 3 then F i k else 0, fun i k => ?_, ?_⟩
  · by_cases h : i < 3
    · simp only [h, if_true]; exact (hF i h).1 k
    · simp [h]
  · refine congrArg Value.agg (Array.ext_getElem? fun j => ?_)
    unfold secs
    rw [get_row]
    by_cases hj : j < 3 * 64
    · rw [if_pos hj]
      show cs[j]? = some (.int .u8 ((if j / 64 < 3 then F (j / 64) (j % 64) else 0 : Nat) : Int))
      rw [if_pos (by omega)]
      have h1 := (hF (j / 64) (by omega)).2
      have h2 : ((cs.toList.drop (j / 64 * 64)).take 64)[j % 64]? = some (.int .u8 (F (j / 64) (j % 64) : Nat)) := by
        rw [h1, Array.getElem?_toList, get_sec (Nat.mod_lt _ (by omega))]
      rw [List.getElem?_take_of_lt (Nat.mod_lt _ (by omega)), List.getElem?_drop, show j / 64 * 64 + j % 64 = j by omega, Array.getElem?_toList] at h2
      exact h2
    · rw [if_neg hj, Array.getElem?_eq_none (by omega)]
theorem cells_read {a : Addr} {i fuel : Nat} {cs : List Value} {y : DataW H × List MemPlace} (hc : w.cells? base (a.add (i * Try.prog.cellsOf 32)) (Try.prog.cellsOf 32) = some cs)
    (ht : DataW.trod enc Try.prog w base spare held fuel 32 cs = some y) : ∃ f : Nat → Nat, (∀ k, f k < 256) ∧ ∀ k, k < 64 → w.cell? (a.add (i * 64 + k)) = some (.int .u8 (f k)) := by
  obtain ⟨f, h1, h2⟩ := trod_sec ht
  have h3 := (World.cells?_some hc).2.2
  rw [cells_sec] at h3
  refine ⟨f, h1, fun k hk => ?_⟩
  have h4 := h3 k hk
  rw [Go.Deep.add_add] at h4
  rw [h4, h2, Array.getElem?_toList]
  exact get_sec hk
theorem open_i64 {r : Reach} {b0 : Nat} {v : Value} {d : DataW H} {p : List MemPlace} (hv : Value.okWide Try.prog w r b0 3 v) (h : DataW.Trod enc Try.prog w base spare held 3 v d p) :
    ∃ i : Int, v = .int .i64 i ∧ -9223372036854775808 ≤ i ∧ i ≤ 9223372036854775807 := by
  obtain ⟨i, rfl⟩ := okWide_int Try.underlying3 hv
  obtain ⟨fuel, hf⟩ := h
  obtain ⟨n, e1, e2, wf⟩ := DataW.trod_int Try.underlying3 hf
  simp only [Value.cells, List.cons.injEq, Value.int.injEq, true_and, and_true] at e1
  subst e1
  exact ⟨i, rfl, i64_wf wf⟩
/-- A slice of sectors that came in. -/
theorem open_secs {r : Reach} {b0 : Nat} {v : Value} {d : DataW H} {p : List MemPlace} (hv : Value.okWide Try.prog w r b0 53 v) (h : DataW.Trod enc Try.prog w base spare held 53 v d p) (hlt : ∀ x ∈ p, x.block < w.heap.size) :
    ∃ (A : Option Addr) (n cap : Nat) (F : Nat → Nat → Nat), v = .slice A n cap ∧ n ≤ cap ∧ cap ≤ maxLen ∧ (∀ i k, F i k < 256) ∧ Secs w w.heap.size A n F ∧ (A = none → n = 0 ∧ cap = 0) := by
  obtain ⟨A, n, cap, rfl⟩ := okWide_slice Try.underlying53 hv
  obtain ⟨fuel, hf⟩ := h
  rcases open_slice Try.underlying53 hf with ⟨hcs, _⟩ | ⟨a, len, cap', m, fu, D, Pl, hcs, hb, hl, hm, hmm, hx, hi⟩
  · simp [Value.cells] at hcs
    obtain ⟨rfl, rfl, rfl⟩ := hcs
    exact ⟨none, 0, 0, fun _ _ => 0, rfl, Nat.le_refl _, Nat.zero_le _, fun _ _ => (by decide : 0 < 256), fun h => absurd h (by omega), fun _ => ⟨rfl, rfl⟩⟩
  · simp [Value.cells] at hcs
    obtain ⟨rfl, rfl, rfl⟩ := hcs
    have hnm : n ≤ m := by rw [hmm]; split <;> omega
    have one : ∀ i, i < m → ∃ f : Nat → Nat, (∀ k, f k < 256) ∧ ∀ k, k < 64 → w.cell? (a.add (i * 64 + k)) = some (.int .u8 (f k)) := fun i him => by
      obtain ⟨cs', hc, ht⟩ := hi i him
      exact cells_read hc ht
    obtain ⟨F, hF⟩ := choose_lt one
    refine ⟨some a, n, cap, fun i k => if i < m then F i k else 0, rfl, hl, hm, fun i k => ?_, fun hn => ?_, fun h => by cases h⟩
    · by_cases h : i < m
      · simp only [h, if_true]; exact (hF i h).1 k
      · simp [h]
    · have h0 := (hF 0 (by omega)).2 0 (by omega)
      have hsp : a.spot = none := by
        simp only [Nat.zero_mul, Nat.add_zero, Addr.add, if_true] at h0
        unfold World.cell? at h0
        split at h0
        · cases hs : a.spot with
          | none => rfl
          | some s => simp [hs] at h0
        · cases h0
      have hblk : a.block < w.heap.size := by
        have := World.block_lt_of_cell? w _ h0
        simpa [Addr.add] using this
      obtain ⟨b, o, sp⟩ := a
      subst hsp
      refine ⟨b, o, rfl, hblk, fun i hin j v hv => ?_⟩
      obtain ⟨hj, rfl⟩ := get_sec_list hv
      have := (hF i (by omega)).2 j hj
      rw [Addr.add_mid] at this
      rw [Nat.add_assoc, this]
      show some _ = some (Value.int .u8 ((if i < m then F i j else 0 : Nat) : Int))
      rw [if_pos (by omega)]
end
end Go.Proofs.Ytlbfjnddbdpdpaa
set_option maxRecDepth 100000
namespace Go.Proofs.Ytlbfjnddbdpdpaa
open Go.ChangeShapes Go.WideShapes Go.ChangeAt Go.RowKit Go.Deep
section
variable {H : Type} {enc : TypeId × Value → H} {w : World} {base : Nat} {spare : Nat → Bool} {held : Bool}
theorem trod_ar {T : TypeId} {n : Nat} (hT : Try.prog.underlying T = some (.array n 5)) (hc : Try.prog.cellsOf T = n) {fuel : Nat} {cs : List Value} {x : DataW H × List MemPlace} (h : DataW.trod enc Try.prog w base spare held fuel T cs = some x) : ∃ f : Nat → Nat, (∀ k, f k < 256) ∧ cs = (ar n f).toList := by
  obtain ⟨xs, m, rfl, rfl, hlen, hxl, hx⟩ := DataW.trod_array hT h
  rw [hc] at hlen
  have hk : ∀ k, k < n → ∃ n : Nat, n < 256 ∧ cs[k]? = some (.int .u8 n) := fun k hk => by
    have h1 := hx k hk
    rw [cells_u8, Nat.mul_one, List.getElem?_eq_getElem (by omega)] at h1
    obtain ⟨n, e1, e2, wf⟩ := DataW.trod_int Try.underlying5 h1
    obtain ⟨n, rfl, hn⟩ := u8_wf wf
    refine ⟨n, hn, ?_⟩
    have : ((cs.drop k).take 1)[0]? = some (.int .u8 n) := by rw [e1]; rfl
    rw [List.getElem?_take_of_lt (by omega), List.getElem?_drop] at this
    exact this
  obtain ⟨f, hf⟩ := choose_lt hk
  refine ⟨fun k => if k < n then f k else 0, fun k => ?_, ?_⟩
  · by_cases h : k < n
    · simp only [h, if_true]; exact (hf k h).1
    · simp [h]
  · apply List.ext_getElem?
    intro k
    have e : (ar n fun k => if k < n then f k else 0).toList[k]? = if k < n then some (.int .u8 ((if k < n then f k else 0 : Nat) : Int)) else none := by
      rw [Array.getElem?_toList]
      exact get_row k
    rw [e]
    by_cases h : k < n
    · rw [if_pos h, if_pos h]; exact (hf k h).2
    · rw [if_neg h, List.getElem?_eq_none (by omega)]
set_option maxRecDepth 100000 in
theorem open_ar {T : TypeId} {n : Nat} (hT : Try.prog.underlying T = some (.array n 5)) (hc : Try.prog.cellsOf T = n) {r : Reach} {b0 : Nat} {v : Value} {d : DataW H} {p : List MemPlace} (hv : Value.okWide Try.prog w r b0 T v) (h : DataW.Trod enc Try.prog w base spare held T v d p) :
    ∃ f : Nat → Nat, (∀ k, f k < 256) ∧ v = .agg (ar n f) := by
  have hv' : ∃ cs, v = .agg cs := by
    simp only [Value.okWide, hT] at hv
    obtain ⟨cs, h1, _⟩ := hv
    exact ⟨cs, h1⟩
  obtain ⟨cs, rfl⟩ := hv'
  obtain ⟨fuel, hf⟩ := h
  obtain ⟨f, h1, h2⟩ := trod_ar hT hc hf
  refine ⟨f, h1, ?_⟩
  have : cs = ar n f := by
    apply Array.ext'
    exact h2
  rw [this]
end
end Go.Proofs.Ytlbfjnddbdpdpaa
set_option maxRecDepth 100000
namespace Go.Proofs.Ytlbfjnddbdpdpaa
open Go.ChangeShapes Go.WideShapes Go.ChangeAt Go.RowKit Go.Deep
section
variable {H : Type} {enc : TypeId × Value → H} {w : World} {base : Nat} {spare : Nat → Bool} {held : Bool}
set_option maxRecDepth 100000 in
theorem open_byts {r : Reach} {b0 : Nat} {v : Value} {d : DataW H} {p : List MemPlace} (hv : Value.okWide Try.prog w r b0 62 v) (h : DataW.Trod enc Try.prog w base spare held 62 v d p) :
    ∃ (A : Option Addr) (l : List Nat) (n cap : Nat), v = .slice A n cap ∧ l.length = n ∧ n ≤ cap ∧ cap ≤ maxLen ∧ B256 l ∧ Byt w w.heap.size A l ∧ (A = none → n = 0 ∧ cap = 0) := by
  obtain ⟨A, n, cap, rfl⟩ := okWide_slice Try.underlying62 hv
  obtain ⟨fuel, hf⟩ := h
  rcases open_ints Try.underlying62 Try.underlying5 cells_u8 hf with ⟨hcs, _⟩ | ⟨a, len, cap', zs, hcs, _, hl, hm, hz, _, hcell, hwz⟩
  · simp [Value.cells] at hcs
    obtain ⟨rfl, rfl, rfl⟩ := hcs
    exact ⟨none, [], 0, 0, rfl, rfl, Nat.le_refl _, Nat.zero_le _, (fun x hx => by cases hx), Byt.none rfl, fun _ => ⟨rfl, rfl⟩⟩
  · simp [Value.cells] at hcs
    obtain ⟨rfl, rfl, rfl⟩ := hcs
    have hnz : n ≤ zs.length := by rw [hz]; split <;> omega
    have hlen : ((zs.take n).map Int.toNat).length = n := by rw [List.length_map, List.length_take]; omega
    have hat : ∀ i, i < n → ∃ k : Nat, zs.getD i 0 = k ∧ k < 256 ∧ ((zs.take n).map Int.toNat).getD i 0 = k := fun i hi => by
      have hi' : i < zs.length := by omega
      have hg : zs.getD i 0 = zs[i] := by rw [List.getD_eq_getElem?_getD, List.getElem?_eq_getElem hi']; rfl
      obtain ⟨k, hk, hk2⟩ := u8_wf (hwz zs[i] (List.getElem_mem hi'))
      refine ⟨k, hg.trans hk, hk2, ?_⟩
      rw [List.getD_eq_getElem?_getD, List.getElem?_map, List.getElem?_take_of_lt hi, List.getElem?_eq_getElem hi', hk]
      rfl
    refine ⟨some a, (zs.take n).map Int.toNat, n, cap, rfl, hlen, hl, hm, fun x hx => ?_, fun hn => ?_, fun h => by cases h⟩
    · obtain ⟨i, hi⟩ := List.getElem?_of_mem hx
      have hin : i < n := by have := (List.getElem?_eq_some_iff.1 hi).1; omega
      obtain ⟨k, _, hk, he⟩ := hat i hin
      rw [List.getD_eq_getElem?_getD, hi] at he
      have : x = k := he
      omega
    · rw [hlen] at hn
      have h0 := hcell 0 (by omega)
      have hsp : a.spot = none := by
        simp only [Addr.add, if_true] at h0
        unfold World.cell? at h0
        split at h0
        · cases hs : a.spot with
          | none => rfl
          | some s => simp [hs] at h0
        · cases h0
      have hblk : a.block < w.heap.size := by
        have := World.block_lt_of_cell? w _ h0
        simpa [Addr.add] using this
      obtain ⟨b, o, sp⟩ := a
      subst hsp
      refine ⟨b, o, rfl, hblk, fun i hi => ?_⟩
      rw [hlen] at hi
      obtain ⟨k, h1, _, h2⟩ := hat i hi
      have h3 := hcell i (by omega)
      rw [Addr.add_mid, h1] at h3
      rw [h3, h2]
end
end Go.Proofs.Ytlbfjnddbdpdpaa
set_option maxRecDepth 100000
namespace Go.Proofs.Ytlbfjnddbdpdpaa
open Go.ChangeShapes Go.WideShapes Go.ChangeAt Go.RowKit Go.Deep
/-- A slice of structs of k cells, in one row below block B. -/
def Elems (k : Nat) (w : World) (B : Nat) (A : Option Addr) (xs : List (List Value)) : Prop :=
  0 < xs.length → ∃ b o, A = some ⟨b, o, none⟩ ∧ b < B ∧ ∀ (i : Nat) (cs : List Value), xs[i]? = some cs → ∀ (j : Nat) (v : Value), cs[j]? = some v → w.cell? ⟨b, o + i * k + j, none⟩ = some v
theorem Elems.below {k B B' : Nat} {w w' : World} {A : Option Addr} {xs : List (List Value)} (h : Elems k w B A xs) (hb : Below B' w w') (hB : B ≤ B') : Elems k w' B A xs := fun hn => by
  obtain ⟨b, o, rfl, hl, hr⟩ := h hn
  exact ⟨b, o, rfl, hl, fun i cs hi j v hj => (hb.cell (p := ⟨b, o + i * k + j, none⟩) (by show b < B'; omega)).trans (hr i cs hi j v hj)⟩
section
variable {H : Type} {enc : TypeId × Value → H} {w : World} {base : Nat} {spare : Nat → Bool} {held : Bool}
theorem open_elems {S E : TypeId} {k : Nat} {R : List Value → Prop} {r : Reach} {b0 : Nat} {v : Value} {d : DataW H} {p : List MemPlace} (hS : Try.prog.underlying S = some (.slice E)) (hk : Try.prog.cellsOf E = k) (hk0 : 0 < k)
    (hR : ∀ (fuel : Nat) (cs : List Value) (x : DataW H × List MemPlace), DataW.trod enc Try.prog w base spare held fuel E cs = some x → cs.length = k → R cs)
    (hv : Value.okWide Try.prog w r b0 S v) (h : DataW.Trod enc Try.prog w base spare held S v d p) :
    ∃ (A : Option Addr) (xs : List (List Value)) (n cap : Nat), v = .slice A n cap ∧ xs.length = n ∧ n ≤ cap ∧ cap ≤ maxLen ∧ (∀ cs ∈ xs, R cs ∧ cs.length = k) ∧ Elems k w w.heap.size A xs ∧ (A = none → n = 0 ∧ cap = 0) := by
  obtain ⟨A, n, cap, rfl⟩ := okWide_slice hS hv
  obtain ⟨fuel, hf⟩ := h
  rcases open_slice hS hf with ⟨hcs, _⟩ | ⟨a, len, cap', m, fu, D, Pl, hcs, hb, hl, hm, hmm, hx, hi⟩
  · simp [Value.cells] at hcs
    obtain ⟨rfl, rfl, rfl⟩ := hcs
    exact ⟨none, [], 0, 0, rfl, rfl, Nat.le_refl _, Nat.zero_le _, (fun x hx => by cases hx), (fun h => absurd h (by simp)), fun _ => ⟨rfl, rfl⟩⟩
  · simp [Value.cells] at hcs
    obtain ⟨rfl, rfl, rfl⟩ := hcs
    have hnm : n ≤ m := by rw [hmm]; split <;> omega
    have one : ∀ i, i < n → ∃ cs : List Value, R cs ∧ cs.length = k ∧ ∀ j, j < k → w.cell? (a.add (i * k + j)) = cs[j]? := fun i hin => by
      obtain ⟨cs', hc, ht⟩ := hi i (by omega)
      have h3 := World.cells?_some hc
      rw [hk] at h3
      refine ⟨cs', hR fu cs' _ ht h3.2.1, h3.2.1, fun j hj => ?_⟩
      have h6 := h3.2.2 j hj
      rw [Go.Deep.add_add] at h6
      exact h6
    obtain ⟨F, hF⟩ := choose_lt one
    have hg : ∀ i, ((List.range n).map F)[i]? = if i < n then some (F i) else none := fun i => by
      by_cases hi : i < n
      · rw [if_pos hi, List.getElem?_map, List.getElem?_range hi]; rfl
      · rw [if_neg hi, List.getElem?_eq_none (by simp; omega)]
    refine ⟨some a, (List.range n).map F, n, cap, rfl, by simp, hl, hm, fun l hl2 => ?_, fun hn => ?_, fun h => by cases h⟩
    · obtain ⟨i, hi2, rfl⟩ := List.mem_map.1 hl2
      exact ⟨(hF i (List.mem_range.1 hi2)).1, (hF i (List.mem_range.1 hi2)).2.1⟩
    · have hn' : 0 < n := by simpa using hn
      obtain ⟨_, h1, h0⟩ := hF 0 hn'
      have h00 := h0 0 hk0
      rw [List.getElem?_eq_getElem (by omega)] at h00
      have hsp : a.spot = none := by
        simp only [Nat.zero_mul, Nat.zero_add, Addr.add, if_true] at h00
        unfold World.cell? at h00
        split at h00
        · cases hs : a.spot with
          | none => rfl
          | some s => simp [hs] at h00
        · cases h00
      have hblk : a.block < w.heap.size := by
        have := World.block_lt_of_cell? w _ h00
        simpa [Addr.add] using this
      obtain ⟨b, o, sp⟩ := a
      subst hsp
      refine ⟨b, o, rfl, hblk, fun i cs hi2 j v hj => ?_⟩
      rw [hg] at hi2
      split at hi2
      · rename_i hin
        obtain rfl := Option.some.inj hi2
        obtain ⟨_, h1, h2⟩ := hF i hin
        have hjk : j < k := by have := (List.getElem?_eq_some_iff.1 hj).1; omega
        have h3 := h2 j hjk
        rw [Addr.add_mid, hj, ← Nat.add_assoc] at h3
        exact h3
      · cases hi2
end
end Go.Proofs.Ytlbfjnddbdpdpaa
set_option maxRecDepth 100000
namespace Go.Proofs.Ytlbfjnddbdpdpaa
open Go.ChangeShapes Go.WideShapes Go.ChangeAt Go.RowKit Go.Deep
namespace StM
theorem cells_i16 : Try.prog.cellsOf 3 = 1 := by kernel_rfl
theorem cells_a16 : Try.prog.cellsOf 34 = 66 := by kernel_rfl
/-- An act: what, the column, the sector. -/
structure Ac where
  d : Int
  c : Int
  s : Nat → Nat
def acL (y : Ac) : List Value := .int .i64 y.d :: .int .i64 y.c :: (sec y.s).toList
theorem acL_len (y : Ac) : (acL y).length = 66 := by unfold acL; rw [List.length_cons, List.length_cons, Array.length_toList, size_sec]
theorem list_66 {cs : List Value} {v u : Value} {f : Nat → Nat} (hl : cs.length = 66) (h0 : (cs.drop 0).take 1 = [v]) (h1 : (cs.drop 1).take 1 = [u]) (h2 : (cs.drop 2).take 64 = (sec f).toList) : cs = v :: u :: (sec f).toList := by
  match cs, hl with
  | c :: d :: r, hl =>
    have e0 : c = v := by simpa using h0
    have e1 : d = u := by simpa using h1
    have e2 : r.take 64 = (sec f).toList := h2
    rw [List.take_of_length_le (by simp at hl; omega)] at e2
    rw [e0, e1, e2]
section
variable {H : Type} {enc : TypeId × Value → H} {w : World} {base : Nat} {spare : Nat → Bool} {held : Bool}
theorem trod_a16 {fuel : Nat} {cs : List Value} {x : DataW H × List MemPlace} (h : DataW.trod enc Try.prog w base spare held fuel 34 cs = some x) (hl : cs.length = 66) : ∃ y : Ac, (∀ k, y.s k < 256) ∧ cs = acL y := by
  obtain ⟨xs, n, _, rfl, _, hlen, hf⟩ := DataW.trod_struct Try.underlying34 h
  match xs, hlen with
  | [y0, y1, y2], _ =>
    have h0 : DataW.trod enc Try.prog w base spare held n 3 ((cs.drop 0).take (Try.prog.cellsOf 3)) = some y0 := hf 0 _ rfl
    have h1 : DataW.trod enc Try.prog w base spare held n 3 ((cs.drop 1).take (Try.prog.cellsOf 3)) = some y1 := hf 1 _ rfl
    have h2 : DataW.trod enc Try.prog w base spare held n 32 ((cs.drop 2).take (Try.prog.cellsOf 32)) = some y2 := hf 2 _ rfl
    rw [cells_i16] at h0 h1
    rw [cells_sec] at h2
    obtain ⟨d, e0, _, _⟩ := DataW.trod_int Try.underlying3 h0
    obtain ⟨i, e1, _, _⟩ := DataW.trod_int Try.underlying3 h1
    obtain ⟨f, hf2, e2⟩ := trod_sec h2
    exact ⟨⟨d, i, f⟩, hf2, list_66 hl e0 e1 e2⟩
theorem sli_of_elems {α : Type} {k n cap : Nat} {en : α → List Value} {Q : α → Prop} {A : Option Addr} {xs : List (List Value)} (hn : xs.length = n) (hc : n ≤ cap) (hm : cap ≤ maxLen) (hx : ∀ cs ∈ xs, ∃ x, Q x ∧ cs = en x) (he : Elems k w w.heap.size A xs) (h0 : A = none → n = 0 ∧ cap = 0) :
    ∃ l : List α, (∀ x ∈ l, Q x) ∧ Sli k en (fun b => b < w.heap.size) w A l n cap := by
  have key : ∀ ys : List (List Value), (∀ cs ∈ ys, ∃ x, Q x ∧ cs = en x) → ∃ l : List α, (∀ x ∈ l, Q x) ∧ ys = l.map en := fun ys => by
    induction ys with
    | nil => exact fun _ => ⟨[], (fun x hx => by cases hx), rfl⟩
    | cons y ys ih =>
      intro h
      obtain ⟨x, hq, hx⟩ := h y List.mem_cons_self
      obtain ⟨l, hl, hl2⟩ := ih fun cs hm => h cs (List.mem_cons_of_mem _ hm)
      exact ⟨x :: l, (fun z hz => (List.mem_cons.1 hz).elim (fun e => e ▸ hq) (hl z)), by rw [List.map_cons, ← hx, ← hl2]⟩
  obtain ⟨l, hl, rfl⟩ := key xs hx
  rw [List.length_map] at hn
  refine ⟨l, hl, hn, hc, hm, fun e => h0 e, fun hlen => ?_⟩
  obtain ⟨b, o, e1, e2, e3⟩ := he (by rw [List.length_map]; exact hlen)
  exact ⟨b, o, e1, e2, e2, fun i x hi => e3 i (en x) (by rw [List.getElem?_map, hi]; rfl)⟩
theorem open_a16 {r : Reach} {b0 : Nat} {v : Value} {d : DataW H} {p : List MemPlace} (hv : Value.okWide Try.prog w r b0 22 v) (h : DataW.Trod enc Try.prog w base spare held 22 v d p) :
    ∃ (A : Option Addr) (l : List Ac) (n cap : Nat), v = .slice A n cap ∧ (∀ y ∈ l, ∀ k, y.s k < 256) ∧ Sli 66 acL (fun b => b < w.heap.size) w A l n cap := by
  obtain ⟨A, xs, n, cap, rfl, h1, h2, h3, h4, h5, h6⟩ := open_elems (R := fun cs => ∃ y : Ac, (∀ k, y.s k < 256) ∧ cs = acL y) Try.underlying22 cells_a16 (by omega) (fun fuel cs x hh hl => trod_a16 hh hl) hv h
  obtain ⟨l, hl, hs⟩ := sli_of_elems (Q := fun y : Ac => ∀ k, y.s k < 256) (en := acL) h1 h2 h3 (fun cs hm => (h4 cs hm).1) h5 h6
  exact ⟨A, l, n, cap, rfl, hl, hs⟩
theorem cells_t3 : Try.prog.cellsOf 60 = 3 := by kernel_rfl
theorem open_x3 {r : Reach} {b0 : Nat} {v : Value} {d : DataW H} {p : List MemPlace} (hv : Value.okWide Try.prog w r b0 60 v) (h : DataW.Trod enc Try.prog w base spare held 60 v d p) : ∃ x : Nat → Nat, v = .agg (ar 3 x) ∧ ∀ k, x k < 256 := by
  obtain ⟨f, h1, h2⟩ := open_ar Try.underlying60 cells_t3 hv h
  exact ⟨f, h2, h1⟩
theorem open_n {r : Reach} {b0 : Nat} {v : Value} {d : DataW H} {p : List MemPlace} (hv : Value.okWide Try.prog w r b0 3 v) (_h : DataW.Trod enc Try.prog w base spare held 3 v d p) : ∃ i : Int, v = .int .i64 i := okWide_int Try.underlying3 hv
end
end StM
end Go.Proofs.Ytlbfjnddbdpdpaa
set_option maxRecDepth 100000
namespace Go.Proofs.Ytlbfjnddbdpdpaa
open Go.ChangeShapes Go.WideShapes Go.ChangeAt Go.RowKit Go.Shelf
attribute [local go_sem] Gives
namespace StM
/-- The row while the columns below i have been put. -/
def prt (m : Nat) (D : Nat → Nat → Nat) (i : Nat) : Rw := ⟨m + 2, fun j => if j < i then rowF m D j else fun _ => 0, fun j => decide (j < m + 2) && !decide (j < i)⟩
section
variable {m : Nat} {D : Nat → Nat → Nat} (h2 : 2 ≤ m) (h62 : m ≤ 62) (hD : ∀ i k, D i k < 256)
include h2 h62 hD
theorem prt_ok (i : Nat) : (prt m D i).ok := ⟨by show 4 ≤ m + 2; omega, by show m + 2 ≤ 64; omega, fun j k => by
  show (if j < i then rowF m D j else fun _ => 0) k < 256
  split
  · exact rowF_lt hD j k
  · show 0 < 256; omega, fun j hj => by
  have hj' : ¬ j < m + 2 := by have : m + 2 ≤ j := hj; omega
  show (decide (j < m + 2) && !decide (j < i)) = false
  rw [decide_eq_false hj']; rfl⟩
omit h2 h62 hD in
theorem prt_0 : Al (made (m + 2)) (prt m D 0) := ⟨rfl, fun j hj => by
  have hj' : j < m + 2 := hj
  show decide (j < m + 2) = (decide (j < m + 2) && !decide (j < 0))
  rw [decide_eq_true hj']; rfl, fun i k _ _ _ => rfl⟩
omit h2 h62 hD in
theorem prt_step {i : Nat} (hi : i < m + 2) : Al (putT (prt m D i) i (rowF m D i)) (prt m D (i + 1)) := by
  have hh : (prt m D i).has i := ⟨by omega, by show ((i : Nat) : Int) < ((m + 2 : Nat) : Int); omega⟩
  rw [put_in hh]
  refine ⟨rfl, fun j hj => ?_, fun j k _ _ _ => ?_⟩
  · show (if j = (i : Int).toNat then false else (decide (j < m + 2) && !decide (j < i))) = (decide (j < m + 2) && !decide (j < i + 1))
    rw [Int.toNat_natCast]
    by_cases e : j = i
    · subst e; simp
    · rw [if_neg e]
      congr 2
      exact decide_eq_decide.2 (by omega)
  · show upd (fun j => if j < i then rowF m D j else fun _ => 0) (i : Int).toNat (rowF m D i) j k = (if j < i + 1 then rowF m D j else fun _ => 0) k
    rw [Int.toNat_natCast]
    unfold upd
    dsimp only
    by_cases e : j = i
    · subst e; simp
    · rw [if_neg e]
      by_cases e2 : j < i
      · rw [if_pos e2, if_pos (by omega)]
      · rw [if_neg e2, if_neg (by omega)]
omit h2 h62 hD in
theorem prt_end : Al (prt m D (m + 2)) (rt m D) := ⟨rfl, fun j hj => by
  have hj' : j < m + 2 := hj
  show (decide (j < m + 2) && !decide (j < m + 2)) = false
  simp, fun i k hi _ _ => by
  have hi' : i < m + 2 := hi
  show (if i < m + 2 then rowF m D i else fun _ => 0) k = rowF m D i k
  rw [if_pos hi']⟩
end
/-- Of more data than a row has. -/
theorem of_long' (A : Option Addr) (n cap : Nat) (hn : 62 < n) (w : World) :
    Calls Try.prog 45 #[.slice A n cap] w fun e w' => e = .returned (.tuple #[.agg (sec fun _ => 0), .agg (sec fun _ => 0), .int .i64 3]) ∧ Below w.heap.size w w' := by
  have t0 : ((n : Int) == 0) = false := by rw [beq_eq_false_iff_ne]; omega
  go_enter Try.func45, Try.ntmps45
  go_wp2_with fail
  generalize hw3 : World.alloc (World.alloc w _) _ = w3
  have b1 : Blk w3 w.heap.size 32 (sec fun _ => 0) := by rw [← hw3]; exact (Blk.top zlit rfl).alloc _
  have b2 : Blk w3 (w.heap.size + 1) 32 (sec fun _ => 0) := by rw [← hw3]; exact Blk.top zlit (by simp)
  have hb : Below w.heap.size w w3 := by rw [← hw3]; exact ((Below.refl _ _).alloc (Nat.le_refl _) _).alloc (by simp) _
  clear hw3
  refine wp_region_tail (C := fun w' => Blk w' w.heap.size 32 (sec fun _ => 0) ∧ Blk w' (w.heap.size + 1) 32 (sec fun _ => 0) ∧ Below w.heap.size w w') 5 (by kernel_rfl) (by kernel_rfl) (by kernel_rfl) ⟨b1.drew, b2.drew, hb.drew⟩ ?_
  simp only [List.take_succ_cons, List.take_zero, List.drop_succ_cons, List.drop_zero]
  apply kld
  · rfl
  · rfl
  · exact fun w' hw' => hw'.1
  simp only [Act.put, List.setIfInBounds_toArray, List.set_cons_succ, List.set_cons_zero]
  apply kld
  · rfl
  · rfl
  · exact fun w' hw' => hw'.2.1
  simp only [Act.put, List.setIfInBounds_toArray, List.set_cons_succ, List.set_cons_zero]
  apply kst_id
  · rfl
  · rfl
  · rfl
  · exact fun w' hw' => hw'.1
  simp only [Act.put]
  apply kst_id
  · rfl
  · rfl
  · rfl
  · exact fun w' hw' => hw'.2.1
  simp only [Act.put]
  apply wpK_val
  · rfl
  · intro w' hw'
    go_simp
    first | exact rfl | exact ⟨rfl, hw'⟩
  simp only [Act.put, List.setIfInBounds_toArray, List.set_cons_succ, List.set_cons_zero]
  refine wpK_nil fun w4 ⟨h1, h2, h3⟩ => ?_
  go_wp2_with fail
  apply ret_sec2t Try.results45
  · rfl
  · rfl
  · rfl
  · rfl
  · exact h1
  · exact h2
  exact ⟨rfl, h3⟩
theorem of_gen (A : Option Addr) (n cap : Nat) (F : Nat → Nat → Nat) (hF : ∀ i k, F i k < 256) (w : World) (hs : Secs w w.heap.size A n F) :
    ∃ (p q : Nat → Nat) (E : Nat), Calls Try.prog 45 #[.slice A n cap] w fun e w' => e = .returned (.tuple #[.agg (sec p), .agg (sec q), .int .i64 E]) ∧ Below w.heap.size w w' := by
  by_cases h0 : n = 0
  · subst h0; exact ⟨_, _, 2, of_none A cap w⟩
  · by_cases h1 : 62 < n
    · exact ⟨_, _, 3, of_long' A n cap h1 w⟩
    · exact ⟨_, _, 0, of_some A n cap F hF (by omega) (by omega) w hs⟩
theorem wrap_bad {n : Nat} (hn : n ≤ maxLen) (hb : n < 2 ∨ 62 < n) : ∃ c : Int, wrap64 ((n : Int) + 2) = c ∧ (c < 4 ∨ 64 < c) := by
  refine ⟨_, rfl, ?_⟩
  unfold maxLen at hn
  by_cases h : n + 2 ≤ 9223372036854775807
  · rw [IntWalk.wrap64_in _ (by omega)]; omega
  · left
    have : wrap64 ((n : Int) + 2) = (n : Int) + 2 - 18446744073709551616 := by
      unfold wrap64
      omega
    omega
set_option maxHeartbeats 1000000 in
theorem right_bad (A : Option Addr) (n cap : Nat) (F : Nat → Nat → Nat) (hF : ∀ i k, F i k < 256) (hn : n ≤ maxLen) (hb : n < 2 ∨ 62 < n) (w : World) (hs : Secs w w.heap.size A n F) :
    Calls Try.prog 27 #[.slice A n cap] w fun e w' => e = .returned (.pointer none) ∧ Below w.heap.size w w' := by
  obtain ⟨c, hc, hbad⟩ := wrap_bad hn hb
  obtain ⟨p, q, E, hO⟩ := of_gen A n cap F hF w hs
  have HO := hid hO
  clear hO hF hs hb hn
  go_enter Try.func27, Try.ntmps27
  go_wp2_with fail
  refine (new_bad c hbad _).mono ?_
  rintro e w1 ⟨rfl, rfl⟩
  go_wp2_with fail
  refine HO.out.mono ?_
  rintro e w2 ⟨rfl, h2⟩
  have B2 := hid h2
  clear h2 HO
  go_wp2_with (first | ((with_reducible apply stx); rfl; rfl; exact (Blk.top zlit rfl).alloc _) | ((with_reducible apply stx); rfl; rfl; exact (Blk.top zlit (by simp)).setRow_other (by omega) _))
  go_ret
  exact ⟨rfl, below_setRow (below_setRow ((B2.out.alloc B2.out.size _).alloc (by have := B2.out.size; simp; omega) _) B2.out.size _) (by have := B2.out.size; omega) _⟩
set_option maxHeartbeats 2000000 in
theorem right_ok (A : Option Addr) (n cap : Nat) (F : Nat → Nat → Nat) (hF : ∀ i k, F i k < 256) (h2 : 2 ≤ n) (h62 : n ≤ 62) (w : World) (hs : Secs w w.heap.size A n F) :
    Calls Try.prog 27 #[.slice A n cap] w fun e w' => ∃ g gc cc gg cg, e = .returned (.pointer (some ⟨g, 0, none⟩)) ∧ Pr w' g gc cc gg cg (rt n F) ∧ w.heap.size ≤ g ∧ w.heap.size ≤ gc ∧ w.heap.size ≤ gg ∧ Below w.heap.size w w' := by
  have HS := hid hs
  have HF := hid hF
  clear hs
  obtain ⟨b, o, rfl, hb, _⟩ := HS.out (by omega)
  have hb := hid hb
  have wr := hid (show ((n : Int) + 2) = ((n + 2 : Nat) : Int) by omega)
  go_enter Try.func27, Try.ntmps27
  go_wp2_with fail
  rw [wr.out]
  refine (pnew_any (n + 2) (by omega) (by omega) _).mono ?_
  rintro e w1 ⟨g, gc, cc, gg, cg, rfl, P, hg, hc, hh, hb1⟩
  have P1 := hid (P.to prt_0 (prt_ok h2 h62 hF 0))
  have G := hid (And.intro hg (And.intro hc hh))
  have B1 := hid hb1
  clear P hg hc hh hb1
  go_wp2_with fail
  refine (of_some (some ⟨b, o, none⟩) n cap F HF.out (by omega) (by omega) w1 ((HS.out.below B1.out (Nat.le_refl _)).more B1.out.size)).mono ?_
  rintro e w2 ⟨rfl, hw2⟩
  have P2 := hid (P1.out.on hw2)
  have B2 := hid (B1.out.trans (hw2.mono B1.out.size))
  clear hw2 P1 B1
  go_wp2_with (first | ((with_reducible apply stx); rfl; rfl; exact (Blk.top zlit rfl).alloc _) | ((with_reducible apply stx); rfl; rfl; exact (Blk.top zlit (by simp)).setRow_other (by omega) _))
  generalize hw3 : World.setRow (World.setRow (World.alloc (World.alloc w2 _) _) _ _) _ _ = w3
  have p1 := hid (show Blk w3 w2.heap.size 32 (sec (PP F n)) by rw [← hw3]; exact (((Blk.top zlit rfl).alloc _).setRow_same _).setRow_other (by omega) _)
  have p2 := hid (show Blk w3 (w2.heap.size + 1) 32 (sec (QQ F n)) by rw [← hw3]; exact ((Blk.top zlit (by simp)).setRow_other (by omega) _).setRow_same _)
  have h23 : Below w2.heap.size w2 w3 := by rw [← hw3]; exact below_setRow (below_setRow (((Below.refl _ _).alloc (Nat.le_refl _) _).alloc (by simp) _) (Nat.le_refl _) _) (by omega) _
  have P3 := hid (P2.out.on h23)
  have B3 := hid (B2.out.trans (h23.mono B2.out.size))
  have L3 := hid (show gc < w2.heap.size ∧ gg < w2.heap.size from P2.out.lts.2)
  clear hw3 h23 P2
  go_loopw [8] (fun uu wr => ∃ i : Nat, uu = .int .i64 i ∧ i ≤ n ∧ Hid (Pr wr g gc cc gg cg (prt n F i)) ∧ Hid (Turn (fun k => k = gc ∨ k = gg) w3 wr)) (fun uu _ => n - (intOf uu).toNat)
  case atStart => exact ⟨0, rfl, Nat.zero_le _, P3, hid (Turn.refl _ _)⟩
  case round =>
    obtain ⟨i, rfl, hi, HP, HT⟩ := hrel
    by_cases hgo : i < n
    · have t1 : (i : Int) < n := by omega
      have hW := hid (B3.out.trans (HT.out.below (B := w.heap.size) B3.out.size fun k e => by have := G.out; rcases e with rfl | rfl <;> omega))
      obtain ⟨b', o', e, _, hr⟩ := HS.out (by omega)
      cases e
      have hrg := hid (show wr.rangeAt b (o + i * 64) (sec (F i)).toList from fun j v hj => (hW.out.cell (p := ⟨b, o + i * 64 + j, none⟩) hb.out).trans (hr i hgo j v hj))
      clear hr
      go_wp2_with ((with_reducible apply ldm (o := o + i * 64)); rfl; exact hrg.out)
      refine (pput_any HP.out i (F i) (HF.out i)).mono ?_
      rintro e w4 ⟨rfl, o4⟩
      have hst : rowF n F i = F i := by unfold rowF; rw [if_pos hgo]
      have P4 := hid (o4.1.to (by rw [← hst]; exact prt_step (by omega)) (prt_ok h2 h62 HF.out (i + 1)))
      have T4 := hid (HT.out.trans o4.2 fun _ e => .inl e)
      clear o4 hst
      go_wp2_with fail
      go_roundw
      case rel => exact ⟨i + 1, by go_num, by omega, P4, T4⟩
      case measure => simp [intOf] <;> omega
    · have t1 : ¬ (i : Int) < n := by omega
      have hin : i = n := by omega
      have P5 := hid (show Pr wr g gc cc gg cg (prt n F n) by have h := HP.out; rw [hin] at h; exact h)
      have p1' := hid (p1.out.turn HT.out (show ¬ (w2.heap.size = gc ∨ w2.heap.size = gg) by have := L3.out; omega))
      have p2' := hid (p2.out.turn HT.out (show ¬ (w2.heap.size + 1 = gc ∨ w2.heap.size + 1 = gg) by have := L3.out; omega))
      have H5 := hid HT.out
      clear hin HP
      go_wp2_with ((with_reducible apply ld); rfl; exact p1'.out)
      refine (pput_any P5.out n (PP F n) (PP_lt HF.out n)).mono ?_
      rintro e w6 ⟨rfl, o6⟩
      have h6 : rowF n F n = PP F n := by unfold rowF; simp
      have P6 := hid (o6.1.to (by rw [← h6]; exact prt_step (by omega)) (prt_ok h2 h62 HF.out (n + 1)))
      have T6 := hid (H5.out.trans o6.2 fun _ e => .inl e)
      have p2'' := hid (p2'.out.turn o6.2 (show ¬ (w2.heap.size + 1 = gc ∨ w2.heap.size + 1 = gg) by have := L3.out; omega))
      clear o6 h6 P5 p1'
      have wr1 := hid (show ((n : Int) + 1) = ((n + 1 : Nat) : Int) by omega)
      go_wp2_with ((with_reducible apply ld); rfl; exact p2''.out)
      rw [wr1.out]
      refine (pput_any P6.out ((n + 1 : Nat) : Int) (QQ F n) (QQ_lt n)).mono ?_
      rintro e w7 ⟨rfl, o7⟩
      have h7 : rowF n F (n + 1) = QQ F n := by unfold rowF; rw [if_neg (by omega), if_neg (by omega)]
      have P7 := hid ((o7.1.to (by rw [← h7]; exact prt_step (by omega)) (prt_ok h2 h62 HF.out (n + 1 + 1))).to prt_end (rt_ok h2 h62 HF.out))
      have T7 := hid (T6.out.trans o7.2 fun _ e => .inl e)
      clear o7 h7 P6
      go_wp2_with fail
      go_ret
      exact ⟨g, gc, cc, gg, cg, rfl, P7.out, G.out.1, G.out.2.1, G.out.2.2, B3.out.trans (T7.out.below (B := w.heap.size) B3.out.size fun k e => by have := G.out; rcases e with rfl | rfl <;> omega)⟩
end StM
end Go.Proofs.Ytlbfjnddbdpdpaa
set_option maxRecDepth 100000
namespace Go.Proofs.Ytlbfjnddbdpdpaa
open Go.RowKit
section
variable {P : Program} {ops : Array Oper}
theorem wp_region_new1 {id : Nat} {Q : Exit → Act → World → Prop} {C : World → Prop} {a : Act} {w : World} {l : List Oper} (n : Nat) (T : TypeId) (z : Array Value) (d1 : Tmp) {t1 : TypeId} {p1 : String} {e1 : Array Edge}
    (hl1 : l[n]? = some ⟨some d1, .alloc T, t1, p1, e1, none⟩)
    (hm : P.follows .mixedOrders = true) (ht : tidy l.toArray = true) (hB : tailB l.toArray (n + 1) = true)
    (ha : ∀ w, (Instr.alloc T true (.tuple #[])).run P w = .ok (.pointer (some ⟨w.heap.size, 0, none⟩)) (w.alloc (.cells z T)))
    (hC : C w.drew) (hCa : ∀ w, C w → C (w.alloc (.cells z T))) (hCs : ∀ w', C w' → w.heap.size ≤ w'.heap.size)
    (h : wpB P l.toArray C (fun a' => ∀ b1 w', C w' → Blk w' b1 T z → w.heap.size ≤ b1 →
      wpList P l.toArray Q (l.drop (n + 1)) (a'.put (some d1) (ptr b1)) w') (l.take n) a) : (Code.region id l.toArray true).wp P Q a w := by
  obtain ⟨vals, hq, hs⟩ := wpB_vals _ _ h
  have hln : n < l.length := (List.getElem?_eq_some_iff.1 hl1).1
  have hlen : (l.take n).length = n := by rw [List.length_take]; omega
  let V : Nat → Nat → Value := fun γ i => if i = n then ptr γ else vals i
  have hV : ∀ γ i, i < n → V γ i = vals i := fun γ i hi => by show (if _ then _ else _) = _; rw [if_neg (by omega)]
  have hfr : ∀ γ i, i ≤ n → lexF (l.take (n + 1)) (V γ) i a = lexF (l.take n) vals i a := fun γ i hi => lexF_congr fun j hj =>
    ⟨by rw [List.getElem?_take_of_lt (by omega), List.getElem?_take_of_lt (by omega)], hV γ j (by omega)⟩
  refine region_core (Γ := Nat) (C := fun γ L w' => C w' ∧ (L.getD n false = true → Blk w' γ T z ∧ w.heap.size ≤ γ)) (n + 1) hm ht hB 0
    ⟨hC, (fun h => by rw [getD_replicate_false] at h; cases h)⟩ V ?_ ?_
  · intro i o hi γ L w' hsz hr ⟨hC', g1⟩
    have hilt : i < n + 1 := by
      have := (List.getElem?_eq_some_iff.1 hi).1
      rw [List.length_take] at this; omega
    rw [List.getElem?_take_of_lt hilt] at hi
    have hun := getD_both (mem_ready.1 hr).1
    rcases Nat.lt_or_ge i n with hin | hin
    · have hset : ∀ k, k ≠ i → (L.setIfInBounds i true).getD k false = L.getD k false := fun k hk => getD_set_ne false (Ne.symm hk)
      refine ⟨γ, fun _ _ => rfl, ?_⟩
      rw [hfr γ i (by omega), hV γ i hin]
      simp only [hset n (by omega)]
      rcases hs i o (by rw [List.getElem?_take_of_lt hin]; exact hi) with ⟨h1, h2⟩ | ⟨h1, h2⟩
      · exact .inl ⟨h1, gives_mono (h2 w' hC') fun w'' ⟨h3, h4⟩ => ⟨h3, fun e => ⟨(g1 e).1.below h4 (g1 e).1.lt, (g1 e).2⟩⟩⟩
      · exact .inr ⟨h1, h2, hC', g1⟩
    · obtain rfl : i = n := by omega
      obtain rfl : _ = o := Option.some.inj (hl1.symm.trans hi)
      have hw : ∀ b : Act, (execOp b.eval ⟨some d1, .alloc T, t1, p1, e1, none⟩).run P w' = .ok (.value (.pointer (some ⟨w'.heap.size, 0, none⟩))) (w'.alloc (.cells z T)) := fun b => by
        simp only [execOp, Sem.run_bind, ha w', Result.andThen_ok, Sem.run_pure]
      refine ⟨w'.heap.size, fun j hj => ?_, .inl ⟨rfl, ?_⟩⟩
      · have hjn : j ≠ i := fun e => by subst e; rw [hun] at hj; cases hj
        simp only [V, if_neg hjn]
      · refine gives_value (w' := w'.alloc (.cells z T)) ?_ ?_
        · rw [hw]
          simp only [V, if_pos]; rfl
        · exact ⟨hCa _ hC', fun _ => ⟨Blk.new _ _ _, hCs _ hC'⟩⟩
  · intro γ L w' hall ⟨hC', g1⟩
    have h1 := hall n (by omega)
    have hl2' : (l.take (n + 1)).length = n + 1 := by rw [List.length_take]; omega
    rw [hl2']
    have hput : lexF (l.take (n + 1)) (V γ) (n + 1) a = (lexF (l.take n) vals n a).put (some d1) (ptr γ) := by
      rw [lexF, hfr γ n (Nat.le_refl n), List.getElem?_take_of_lt (by omega), hl1]
      simp only [V, if_pos, Option.bind_some]
    rw [hput]
    rw [hlen] at hq
    exact hq γ w' hC' (g1 h1).1 (g1 h1).2
end
end Go.Proofs.Ytlbfjnddbdpdpaa
set_option maxRecDepth 100000
namespace Go.Proofs.Ytlbfjnddbdpdpaa
open Go.ChangeShapes Go.WideShapes Go.ChangeAt Go.RowKit
section
variable {ops : Array Oper} {a : Act} {rest : List Oper} {dst : Option Tmp} {ty : TypeId} {pos : String} {after : Array Edge} {x : Operand} {g o n : Nat} {f : Nat → Nat} {T : TypeId} {C : World → Prop} {Qk : Act → Prop} {gd : Option (Nat × Bool)}
theorem bldA (hT : ArT T n) (hwt : Region.wanted ⟨dst, .load T x, ty, pos, after, gd⟩ (yielded ops a.tmps) = true) (hx : a.eval x = .pointer (some ⟨g, o, none⟩)) (hb : ∀ w, C w → w.rangeAt g o (ar n f).toList) (h : wpB Try.prog ops C Qk rest (a.put dst (.agg (ar n f)))) :
    wpB Try.prog ops C Qk (⟨dst, .load T x, ty, pos, after, gd⟩ :: rest) a :=
  wpB_val hwt (fun w hw => gives_value (w' := w) (by simp only [execOp, hx, Sem.run_bind, run_ldm hT (hb w hw), Result.andThen_ok, Sem.run_pure]) ⟨hw, Below.refl _ _⟩) h
end
end Go.Proofs.Ytlbfjnddbdpdpaa
set_option maxRecDepth 100000
namespace Go.Proofs.Ytlbfjnddbdpdpaa
open Go.ChangeShapes Go.WideShapes Go.ChangeAt Go.RowKit
attribute [local go_sem] Gives
/-- A type of n cells, one behind the other. -/
structure RowT (T : TypeId) (n : Nat) : Prop where
  size : (Try.prog.info? T).map (·.size) = some n
  desc : ∃ d, Try.prog.underlying T = some d ∧ d.isRow = true
section
variable {ops : Array Oper} {Q : Exit → Act → World → Prop} {a : Act} {w : World} {rest : List Oper} {dst : Option Tmp} {ty : TypeId} {pos : String} {after : Array Edge} {x y : Operand} {g o n : Nat} {cs : Array Value} {T : TypeId} {C : World → Prop} {Qk : Act → Prop} {gd : Option (Nat × Bool)}
theorem run_ldR (hT : RowT T cs.size) (hb : w.rangeAt g o cs.toList) : (Instr.loadAt T (.pointer (some ⟨g, o, none⟩))).run Try.prog w = .ok (.agg cs) w := by
  obtain ⟨d, h1, h2⟩ := hT.desc
  have := run_loadAt_mid (P := Try.prog) w g o T cs.toList _ hb h1 h2 (hT.size.trans (by rw [Array.length_toList]))
  rwa [Array.toArray_toList] at this
theorem Blk.whole {t : TypeId} (h : Blk w g t cs) : w.rangeAt g 0 cs.toList := fun j v hj => by
  rw [Nat.zero_add, h.cell]; rwa [Array.getElem?_toList] at hj
theorem ldR (hT : RowT T cs.size) (hx : a.eval x = .pointer (some ⟨g, o, none⟩)) (hb : w.rangeAt g o cs.toList) (h : wpList Try.prog ops Q rest (a.put dst (.agg cs)) w) :
    wpList Try.prog ops Q (⟨dst, .load T x, ty, pos, after, none⟩ :: rest) a w := by
  obtain ⟨d, h1, h2⟩ := hT.desc
  exact step_load_mid hb h1 h2 (hT.size.trans (by rw [Array.length_toList])) hx (by rw [Array.toArray_toList]; exact h)
theorem stR {t : TypeId} {old : Array Value} (hT : RowT T cs.size) (hx : a.eval x = .pointer (some ⟨g, 0, none⟩)) (hy : a.eval y = .agg cs) (hb : Blk w g t old) (hs : old.size = cs.size) (h1 : cs.all (·.oneCell') = true) (h : wpList Try.prog ops Q rest (a.put dst undef) (w.setRow g cs)) :
    wpList Try.prog ops Q (⟨dst, .store T x y, ty, pos, after, none⟩ :: rest) a w :=
  step_store_row hb hT.size hs h1 hx hy h
theorem kldR (hT : RowT T cs.size) (hwt : Region.wanted ⟨dst, .load T x, ty, pos, after, gd⟩ (yielded ops a.tmps) = true) (hx : a.eval x = .pointer (some ⟨g, o, none⟩)) (hb : ∀ w, C w → w.rangeAt g o cs.toList) (h : wpK Try.prog ops C Qk rest (a.put dst (.agg cs))) :
    wpK Try.prog ops C Qk (⟨dst, .load T x, ty, pos, after, gd⟩ :: rest) a :=
  wpK_val hwt (fun w hw => gives_value (w' := w) (by simp only [execOp, hx, Sem.run_bind, run_ldR hT (hb w hw), Result.andThen_ok, Sem.run_pure]) hw) h
theorem bldR (hT : RowT T cs.size) (hwt : Region.wanted ⟨dst, .load T x, ty, pos, after, gd⟩ (yielded ops a.tmps) = true) (hx : a.eval x = .pointer (some ⟨g, o, none⟩)) (hb : ∀ w, C w → w.rangeAt g o cs.toList) (h : wpB Try.prog ops C Qk rest (a.put dst (.agg cs))) :
    wpB Try.prog ops C Qk (⟨dst, .load T x, ty, pos, after, gd⟩ :: rest) a :=
  wpB_val hwt (fun w hw => gives_value (w' := w) (by simp only [execOp, hx, Sem.run_bind, run_ldR hT (hb w hw), Result.andThen_ok, Sem.run_pure]) ⟨hw, Below.refl _ _⟩) h
end
end Go.Proofs.Ytlbfjnddbdpdpaa
set_option maxRecDepth 100000
namespace Go.Proofs.Ytlbfjnddbdpdpaa
open Go.ChangeShapes Go.WideShapes Go.ChangeAt Go.RowKit
section
variable {α : Type} {E L : TypeId} {k : Nat} {en : α → List Value} {w : World} {g cap : Nat} {l : List α}
theorem own_of_ranges {cur : Array Value} (hE : ∀ x, (en x).length = k) (hk : 0 < k) (hg : w.heap[g]? = some (.cells cur E (0, 0))) (hcs : cur.size = cap * k) (hn : l.length ≤ cap) (hcm : cap ≤ maxLen)
    (hr : ∀ (q : Nat) x, l[q]? = some x → w.rangeAt g (q * k) (en x)) : OwnX E k en w 0 (.slice (some ⟨g, 0, none⟩) l.length cap) l := by
  refine ⟨flat_len hE l, .inr ⟨g, cap, cur, rfl, Nat.zero_le _, hg, hn, hcm, hcs, ?_⟩⟩
  have hlk : l.length * k ≤ cap * k := Nat.mul_le_mul_right k hn
  refine List.ext_getElem? fun m => ?_
  by_cases hm : m < l.length * k
  · rw [List.getElem?_take_of_lt hm, Array.getElem?_toList]
    have hq : m / k < l.length := Nat.div_lt_of_lt_mul (by rw [Nat.mul_comm]; exact hm)
    have hrm := Nat.mod_lt m hk
    have hx : l[m / k]? = some l[m / k] := List.getElem?_eq_getElem hq
    have h1 := flat_at hE l (m / k) (m % k) _ hx hrm
    have hmm : m / k * k + m % k = m := by rw [Nat.mul_comm]; exact Nat.div_add_mod m k
    rw [hmm] at h1
    have hlen := hE l[m / k]
    have h2 : (en l[m / k])[m % k]? = some (en l[m / k])[m % k] := List.getElem?_eq_getElem (by omega)
    have h3 := hr _ _ hx (m % k) _ h2
    rw [hmm, cell_of_row w g m cur E (0, 0) hg] at h3
    rw [h3, h1, h2]
  · rw [List.getElem?_eq_none (by rw [List.length_take]; omega), List.getElem?_eq_none (by rw [flat_len hE]; omega)]
theorem cells_setCells {t : TypeId} {N : Nat} : ∀ (vs : List Value) (o : Nat) (w : World), (∃ cur, w.heap[g]? = some (.cells cur t (0, 0)) ∧ cur.size = N) → ∃ cur, (w.setCells g o vs).heap[g]? = some (.cells cur t (0, 0)) ∧ cur.size = N
  | [], _, _, h => h
  | v :: vs, o, w, ⟨cur, h1, h2⟩ => by
    have h3 : Blk w g t cur := h1
    exact cells_setCells vs (o + 1) _ ⟨_, h3.setCell_same o v, by rw [Array.size_setIfInBounds]; exact h2⟩
theorem turn_setCells : ∀ (vs : List Value) (o : Nat) (w : World), Turn (fun b => b = g) w (w.setCells g o vs)
  | [], _, _ => Turn.refl _ _
  | v :: vs, o, w => (Turn.setCell (S := fun b => b = g) w ⟨g, o, none⟩ v rfl).trans (turn_setCells vs (o + 1) _) fun _ e => .inl e
theorem there_of {t : TypeId} {cur : Array Value} {o m : Nat} (h : w.heap[g]? = some (.cells cur t (0, 0))) (hm : o + m ≤ cur.size) : w.there g o m := fun j hj => by
  have hb : Blk w g t cur := h
  refine ⟨?_, hb.frozen _⟩
  rw [cell_of_row w g (o + j) cur t (0, 0) h, Array.getElem?_eq_getElem (by omega)]
  rfl
theorem zeros_len (z : Array Value) (m : Nat) : (Builtin.zeroCells z m).toList.length = m * z.size := by simp [Builtin.zeroCells]
theorem zeros_mem {z : Array Value} {m : Nat} {v : Value} (hv : v ∈ (Builtin.zeroCells z m).toList) (hz : 0 < z.size) : v ∈ z.toList := by
  simp only [Builtin.zeroCells, Array.toList_map, List.mem_map] at hv
  obtain ⟨i, _, rfl⟩ := hv
  have hi : i % z.size < z.size := Nat.mod_lt _ hz
  rw [getElem!_pos z _ hi]
  exact Array.getElem_mem_toList hi
theorem run_clr {ty : TypeId} {z : Array Value} {o m c : Nat} (hu : Try.prog.underlying L = some (.slice E)) (hz : ∀ w, (zeroValue E).run Try.prog w = .ok (.agg z) w) (hzk : 0 < z.size) (h1 : ∀ u ∈ z.toList, u.oneCell' = true) (ht : w.there g o (m * z.size)) :
    ∃ zs : List Value, zs.length = m * z.size ∧ (Builtin.clear_ #[L] ty #[.slice (some ⟨g, o, none⟩) m c]).run Try.prog w = .ok (.tuple #[]) (w.setCells g o zs) := by
  refine ⟨(Builtin.zeroCells z m).toList, zeros_len z m, ?_⟩
  cases m with
  | zero =>
    have : (Builtin.zeroCells z 0).toList = [] := List.eq_nil_of_length_eq_zero (by rw [zeros_len, Nat.zero_mul])
    rw [this]
    simp [Builtin.clear_, run_underlying hu, Result.andThen, World.setCells]
  | succ m =>
    have hst := run_storeCells_cells (P := Try.prog) g o (Builtin.zeroCells z (m + 1)).toList 0 w (fun j hj => by rw [Nat.add_zero]; exact (ht j (by rw [zeros_len] at hj; exact hj)).1) (fun j hj => by rw [Nat.add_zero]; exact (ht j (by rw [zeros_len] at hj; exact hj)).2)
      (fun v hv => h1 v (zeros_mem hv hzk))
    simp only [Nat.add_zero] at hst
    simp [Builtin.clear_, run_underlying hu, hz, Value.cells, hst, Result.andThen]
variable {ops : Array Oper} {Q : Exit → Act → World → Prop} {a : Act} {rest : List Oper} {dst : Option Tmp} {ty : TypeId} {pos : String} {after : Array Edge} {x : Operand}
theorem wclr {z : Array Value} {o m c : Nat} (hu : Try.prog.underlying L = some (.slice E)) (hz : ∀ w, (zeroValue E).run Try.prog w = .ok (.agg z) w) (hzk : 0 < z.size) (h1 : ∀ u ∈ z.toList, u.oneCell' = true) (hx : a.eval x = .slice (some ⟨g, o, none⟩) m c) (ht : w.there g o (m * z.size))
    (h : ∀ zs : List Value, zs.length = m * z.size → wpList Try.prog ops Q rest (a.put dst (.tuple #[])) (w.setCells g o zs)) :
    wpList Try.prog ops Q (⟨dst, .call { callee := .builtin .clear, args := #[x], argTypes := #[L] }, ty, pos, after, none⟩ :: rest) a w := by
  obtain ⟨zs, h2, hr⟩ := run_clr (ty := ty) (m := m) (c := c) hu hz hzk h1 ht
  refine wpList_plain rfl fun K hK => ?_
  unfold Oper.wp execOp
  simp only [resolve, invoke, builtin, Sem.run_bind, Sem.run_pure, Result.andThen_ok, List.map_toArray, List.map_cons, List.map_nil, hx, hr]
  exact hK _ _ (h zs h2)
theorem stRM {T : TypeId} {cs : Array Value} {o : Nat} {y : Operand} (hT : RowT T cs.size) (hx : a.eval x = .pointer (some ⟨g, o, none⟩)) (hy : a.eval y = .agg cs) (ht : w.there g o cs.size) (h1 : cs.all (·.oneCell') = true)
    (h : wpList Try.prog ops Q rest (a.put dst undef) (w.setCells g o cs.toList)) : wpList Try.prog ops Q (⟨dst, .store T x y, ty, pos, after, none⟩ :: rest) a w :=
  wpList_store_mid rfl T x y rfl g o cs hx hy ht hT.size h1 h
theorem wslF {y : Operand} {n c m : Nat} (hE : EltX E k en) (hu : Try.prog.underlying L = some (.slice E)) (hel : Try.prog.elem L = E) (hx : a.eval x = .slice (some ⟨g, 0, none⟩) n c) (hy : a.eval y = .int .i64 m) (hm : m ≤ n) (hc : m < c)
    (h : wpList Try.prog ops Q rest (a.put dst (.slice (some ⟨g, m * k, none⟩) (n - m) (c - m))) w) : wpList Try.prog ops Q (⟨dst, .slice L x (some y) none none, ty, pos, after, none⟩ :: rest) a w := by
  obtain ⟨ie, z, hi, hz, h1, h2, h3⟩ := hE.info
  have hsz : (sizeOf (Try.prog.elem L)).run Try.prog w = .ok k w := by rw [hel]; simp [sizeOf, typeInfo, hi, h1]
  have hu' : Try.prog.underlying L = some (.slice (Try.prog.elem L)) := by rw [hel]; exact hu
  have hr : (Instr.sliceAt L (.slice (some ⟨g, 0, none⟩) n c) (some (.int .i64 m)) none none).run Try.prog w = .ok (.slice (some ⟨g, m * k, none⟩) (n - m) (c - m)) w := by
    rw [run_sliceAt_slice w L _ _ _ _ hu', run_slice_l w L _ n c hu' .i64 m (by omega) (by omega), hsz]
    simp only [Result.andThen, sliced, Int.toNat_natCast]
    rw [if_neg (by omega), Option.map_some, Addr.add_mid, Nat.zero_add]
  refine wpList_plain rfl fun K hK => ?_
  unfold Oper.wp execOp
  simp only [Sem.run_bind, Option.map_some, Option.map_none, Sem.run_pure, hx, hy, hr, Result.andThen_ok]
  exact hK _ _ h
theorem wslT {y : Operand} {n c m : Nat} (hE : EltX E k en) (hu : Try.prog.underlying L = some (.slice E)) (hel : Try.prog.elem L = E) (hx : a.eval x = .slice (some ⟨g, 0, none⟩) n c) (hy : a.eval y = .int .i64 m) (hm : m < c)
    (h : wpList Try.prog ops Q rest (a.put dst (.slice (some ⟨g, 0, none⟩) m c)) w) : wpList Try.prog ops Q (⟨dst, .slice L x none (some y) none, ty, pos, after, none⟩ :: rest) a w := by
  obtain ⟨ie, z, hi, hz, h1, h2, h3⟩ := hE.info
  have hsz : (sizeOf (Try.prog.elem L)).run Try.prog w = .ok k w := by rw [hel]; simp [sizeOf, typeInfo, hi, h1]
  have hu' : Try.prog.underlying L = some (.slice (Try.prog.elem L)) := by rw [hel]; exact hu
  have hr : (Instr.sliceAt L (.slice (some ⟨g, 0, none⟩) n c) none (some (.int .i64 m)) none).run Try.prog w = .ok (.slice (some ⟨g, 0, none⟩) m c) w := by
    rw [run_sliceAt_slice w L _ _ _ _ hu', run_slice_h w L _ n c hu' .i64 m (by omega) (by omega), hsz]
    simp only [Result.andThen, sliced, Int.toNat_natCast, Nat.sub_zero]
    rw [if_neg (by omega), Option.map_some, Addr.add_mid, Nat.zero_mul, Nat.zero_add]
  refine wpList_plain rfl fun K hK => ?_
  unfold Oper.wp execOp
  simp only [Sem.run_bind, Option.map_some, Option.map_none, Sem.run_pure, hx, hy, hr, Result.andThen_ok]
  exact hK _ _ h
end
theorem OwnX.obj {w : World} {α : Type} {E : TypeId} {k : Nat} {en : α → List Value} {B b : Nat} {v : Value} {l : List α} (h : OwnX E k en w B v l) (hb : v.ownBlock = some b) : ∃ cur, w.heap[b]? = some (.cells cur E (0, 0)) := by
  rcases h.2 with ⟨rfl, _⟩ | ⟨g, cap, cur, rfl, _, hg, _⟩
  · cases hb
  · cases hb
    exact ⟨cur, hg⟩
section
variable {ops : Array Oper} {Q : Exit → Act → World → Prop} {a : Act} {w : World} {rest : List Oper} {dst : Option Tmp} {ty T : TypeId} {pos : String} {after : Array Edge} {z cs : Array Value} {g : Nat} {t : TypeId}
/-- A new variable of any row. -/
theorem alZ' (hz : ∀ w, (zeroValue T).run Try.prog w = .ok (.agg z) w) (h : wpList Try.prog ops Q rest (a.put dst (.pointer (some ⟨w.heap.size, 0, none⟩))) (w.alloc (.cells z T))) :
    wpList Try.prog ops Q (⟨dst, .alloc T, ty, pos, after, none⟩ :: rest) a w := by
  have hr : (Instr.alloc T true (.tuple #[])).run Try.prog w = .ok (.pointer (some ⟨w.heap.size, 0, none⟩)) (w.alloc (.cells z T)) := by
    simp [Instr.alloc, Sem.run_bind, hz w, newVar, newRow, Value.cells]
  refine wpList_plain rfl fun K hK => ?_
  unfold Oper.wp execOp
  simp only [Sem.run_bind, hr, Result.andThen_ok, Sem.run_pure]
  exact hK _ _ h
theorem ret_row' {fn : Func} {R : Ending → World → Prop} {p : Tmp} (hT : RowT T cs.size) (hr : fn.results = #[.cell p T]) (hp : a.tmps.getD p undef = .pointer (some ⟨g, 0, none⟩)) (hdf : a.defers = [])
    (hb : Blk w g t cs) (hR : R (.returned (.agg cs)) w) : bodyPost Try.prog fn R .ret a w := by
  obtain ⟨d, h1, h2⟩ := hT.desc
  exact ret_row hr hb h1 h2 hT.size hp hdf hR
end
end Go.Proofs.Ytlbfjnddbdpdpaa
set_option maxRecDepth 100000
namespace Go.Proofs.Ytlbfjnddbdpdpaa
open Go.ChangeShapes Go.WideShapes Go.ChangeAt Go.RowKit Go.Shelf
attribute [local go_sem] Gives eqg_sec
attribute [local go_sem high] run_eql_sec run_neq_sec
namespace StM
theorem act_range {w : World} {A : Option Addr} {l : List Ac} {n cap i : Nat} {y : Ac} (h : Sli 66 acL (fun b => b < w.heap.size) w A l n cap) (hi : l[i]? = some y) :
    ∃ b o, A = some ⟨b, o, none⟩ ∧ b < w.heap.size ∧ w.cell? ⟨b, o + i * 66, none⟩ = some (.int .i64 y.d) ∧ w.cell? ⟨b, o + i * 66 + 1, none⟩ = some (.int .i64 y.c) ∧ w.rangeAt b (o + i * 66 + 2) (sec y.s).toList := by
  obtain ⟨b, o, e, _, hb, hr⟩ := h.some hi
  refine ⟨b, o, e, hb, ?_, ?_, fun j v hj => ?_⟩
  · have := hr 0 (.int .i64 y.d) rfl
    exact this
  · exact hr 1 (.int .i64 y.c) rfl
  · have := hr (2 + j) v (by unfold acL; rw [show 2 + j = j + 1 + 1 by omega, List.getElem?_cons_succ, List.getElem?_cons_succ]; exact hj)
    rw [show o + i * 66 + 2 + j = o + i * 66 + (2 + j) by omega]
    exact this
/-- A number counted modulo n, as Go does. -/
theorem tmod_fix (z : Int) (n : Nat) (hn : 0 < n) : (0 ≤ z.tmod n ∧ ∃ k : Nat, k < n ∧ z.tmod n = k) ∨ (z.tmod n < 0 ∧ ∃ k : Nat, k < n ∧ z.tmod n + n = k) := by
  have h1 : -(n : Int) < z.tmod n := Int.lt_tmod_of_pos z (by omega)
  have h2 : z.tmod n < n := Int.tmod_lt_of_pos z (by omega)
  by_cases h : 0 ≤ z.tmod n
  · exact .inl ⟨h, (z.tmod n).toNat, by omega, by omega⟩
  · exact .inr ⟨by omega, (z.tmod n + n).toNat, by omega, by omega⟩
set_option maxRecDepth 100000 in
set_option maxHeartbeats 4000000 in
theorem stays_law (A : Option Addr) (n cap : Nat) (F : Nat → Nat → Nat) (hF : ∀ i k, F i k < 256) (hnc : n ≤ cap) (hcm : cap ≤ maxLen) (A2 : Option Addr) (l : List Ac) (ln c2 : Nat) (W : World) (hs : Secs W W.heap.size A n F)
    (ha : Sli 66 acL (fun b => b < W.heap.size) W A2 l ln c2) (hl : ∀ y ∈ l, ∀ k, y.s k < 256) :
    Calls Try.prog 4 #[.slice A n cap, .slice A2 ln c2] W fun e w' => e = .returned (.bool true) ∧ Below W.heap.size W w' := by
  have HF := hid hF
  have HS := hid hs
  have HA := hid ha
  have HL := hid hl
  have hlen := ha.len
  clear hs ha hl
  by_cases hbad : n < 2 ∨ 62 < n
  · have RB := hid (right_bad A n cap F hF (Nat.le_trans hnc hcm) hbad W HS.out)
    clear hbad
    go_enter Try.func4, Try.ntmps4
    go_wp2_with fail
    refine RB.out.mono ?_
    rintro e w1 ⟨rfl, h1⟩
    have B1 := hid h1
    clear h1 RB
    go_wp2_with fail
    refine (works_any w1).mono ?_
    rintro e w2 ⟨rfl, h2⟩
    have B2 := hid (B1.out.trans (h2.mono B1.out.size))
    clear h2
    go_wp2_with fail
    go_ret
    exact ⟨rfl, B2.out⟩
  · have h2 : 2 ≤ n := by omega
    have h62 : n ≤ 62 := by omega
    clear hbad
    have RO := hid (right_ok A n cap F hF h2 h62 W HS.out)
    obtain ⟨b, o, rfl, hb, _⟩ := HS.out (by omega)
    have hb := hid hb
    go_enter Try.func4, Try.ntmps4
    go_wp2_with fail
    refine RO.out.mono ?_
    rintro e w1 ⟨g, gc, cc, gg, cg, rfl, P, hg, hc, hh, hb1⟩
    have P1 := hid P
    have G := hid (And.intro hg (And.intro hc hh))
    have B1 := hid hb1
    clear P hg hc hh hb1 RO
    have BA := hid ((Below.refl w1.heap.size w1).alloc (Nat.le_refl _) (.cells #[] 32))
    have S2 := hid ((HS.out.below (B1.out.trans (BA.out.mono B1.out.size)) (Nat.le_refl _)).more (Nat.le_trans B1.out.size BA.out.size))
    go_wp2_with ((with_reducible apply wapp (v := .slice (some ⟨w1.heap.size, 0, none⟩) 0 0)); rfl; rfl; exact OwnS.empty w1 (Nat.le_refl _) F; exact S2.out; omega; (simp); intro v' w3 own grow hnil)
    obtain ⟨g6, c6, rfl, hb6, hl6, hc6, _⟩ := own.form fun e => by have := (hnil.1 e).2; omega
    have O3 := hid (own.mono (G := F) fun i k _ _ => by unfold catF; rw [if_neg (Nat.not_lt_zero _), Nat.sub_zero])
    rw [Nat.zero_add]
    have h13 : Below w1.heap.size w1 w3 := BA.out.grown grow BA.out.size fun k e => by cases e; exact Nat.le_refl _
    have B3 := hid (B1.out.trans (h13.mono B1.out.size))
    have P3 := hid (P1.out.on h13)
    have D6 := hid (show g < g6 ∧ gc < g6 ∧ gg < g6 by have := P1.out.lts; omega)
    have G6 := hid (show W.heap.size ≤ g6 from Nat.le_trans B1.out.size hb6)
    rw [Nat.zero_add] at O3
    clear own grow hnil h13 BA S2 P1 B1
    go_wp2_with fail
    refine (pright_any P3.out).mono ?_
    rintro e w4 ⟨rfl, h4⟩
    rw [rt_right h2 h62 hF]
    have B4 := hid (B3.out.trans (h4.mono B3.out.size))
    have P4 := hid (P3.out.on h4)
    have O4 := hid (OwnS.below O3.out h4 (Nat.le_refl _))
    clear h4 P3 O3 B3
    go_wp2_with fail
    go_loopw [7] (fun uu wr => ∃ (i : Nat) (D : Nat → Nat → Nat), uu = .int .i64 i ∧ i ≤ ln ∧ Hid (∀ i k, D i k < 256) ∧ Hid (Pr wr g gc cc gg cg (rt n D)) ∧ Hid (OwnS wr w1.heap.size (.slice (some ⟨g6, 0, none⟩) n c6) n D) ∧ Hid (Below W.heap.size W wr)) (fun uu _ => ln - (intOf uu).toNat)
    case atStart => exact ⟨0, F, rfl, Nat.zero_le _, HF, P4, O4, B4⟩
    case round =>
      obtain ⟨i, D, rfl, hi, HD, HP, HO, HB⟩ := hrel
      by_cases hgo : i < ln ∧ i < 20
      · obtain ⟨y, hy⟩ : ∃ y, l[i]? = some y := ⟨l[i]'(by omega), List.getElem?_eq_getElem _⟩
        obtain ⟨b2, o2, rfl, hb2, _, q1, q2⟩ := act_range HA.out hy
        have hb2 := hid hb2
        have hys := hid (HL.out y (List.mem_of_getElem? hy))
        have r1 : wr.cell? ⟨b2, o2 + i * 66 + 1, none⟩ = some (.int .i64 y.c) := (HB.out.cell (p := ⟨b2, o2 + i * 66 + 1, none⟩) hb2.out).trans q1
        have R2 := hid (show ∀ w', Below W.heap.size W w' → w'.rangeAt b2 (o2 + i * 66 + 2) (sec y.s).toList from fun w' hw' j v hj => (hw'.cell (p := ⟨b2, o2 + i * 66 + 2 + j, none⟩) hb2.out).trans (q2 j v hj))
        have t1 : (i : Int) < ln := by omega
        have t2 : (i : Int) < 20 := by omega
        have t0 : ((n : Int) == 0) = false := by rw [beq_eq_false_iff_ne]; omega
        clear q1 q2 hgo
        rcases tmod_fix y.c n (by omega) with ⟨hp, k, hk, he⟩ | ⟨hp, k, hk, he⟩ <;> (
          have hp' := hp
          try (have hp'' : ¬ y.c.tmod n < 0 := by omega)
          have HU := hid (upd_lt (j := k) HD.out hys.out)
          go_wp2_with ((with_reducible apply ldm (o := o2 + i * 66 + 2)); rfl; exact R2.out wr HB.out)
          refine (pwrite_any HP.out k y.s hys.out).mono ?_
          rintro e w5 ⟨A5, c5, rfl, oi, o5⟩
          have P5 := hid (o5.1.to (rt_write h2 h62 HD.out hk y.s hys.out) (rt_ok h2 h62 HU.out))
          have B5 := hid (HB.out.trans (o5.below (B := W.heap.size) HB.out.size G.out.2.1 G.out.2.2))
          have O5 := hid (ownS_turn HO.out o5.2 fun b e => by cases e; show ¬ (g6 = gc ∨ g6 = gg); have := D6.out; omega)
          rw [rt_wriE h2 h62 HD.out hk]
          have WN := hid (show IntKind.i64.wrap ((n : Int) + 1) = ((n + 1 : Nat) : Int) by rw [show ((n : Int) + 1) = ((n + 1 : Nat) : Int) by omega]; exact IntWalk.i64_in _ (by omega))
          clear o5 r1 HP HO he hp hp'
          cases he1 : eqS (D k) y.s
          · obtain ⟨j, hj, hne⟩ : ∃ j, j < 64 ∧ D k j ≠ y.s j := by
              false_or_by_contra
              rename_i hno
              have : eqS (D k) y.s = true := eqS_iff.2 fun j hj => by
                false_or_by_contra
                rename_i hx
                exact hno ⟨j, hj, hx⟩
              rw [he1] at this; cases this
            rw [rt_other h2 h62 HD.out hk y.s hj hne hys.out] at oi ⊢
            obtain ⟨bt, ct, e, hr⟩ := OwnI.get (j := 0) oi (by simp)
            simp only [List.length_cons, List.length_nil, Value.slice.injEq] at e
            obtain ⟨rfl, _, rfl⟩ := e
            have T0 := hid (show w5.cell? ⟨bt, 0, none⟩ = some (.int .i64 k) from hr 0 (by simp))
            have T1 := hid (show w5.cell? ⟨bt, 1, none⟩ = some (.int .i64 n) from hr 1 (by simp))
            have T2 := hid (show w5.cell? ⟨bt, 2, none⟩ = some (.int .i64 ((n + 1 : Nat) : Int)) from hr 2 (by simp))
            have lt := hid (World.block_lt_of_cell? w5 _ T0.out)
            have E1 := hid he1
            clear oi hr he1 hj hne
            simp only [List.length_cons, List.length_nil]
            go_wp2_with fail
            refine wp_region_tail (C := fun w' => Below w5.heap.size w5 w') 57 (by kernel_rfl) (by kernel_rfl) (by kernel_rfl) (Below.refl _ _).drew ?_
            simp only [List.take_succ_cons, List.take_zero, List.drop_succ_cons, List.drop_zero]
            apply wpK_val
            · rfl
            · intro w' hw'
              go_simp
              first | exact rfl | exact ⟨rfl, hw'⟩
            simp only [Act.put, List.setIfInBounds_toArray, List.set_cons_succ, List.set_cons_zero]
            apply wpK_val
            · rfl
            · intro w' hw'
              go_simp
              first | exact rfl | exact ⟨rfl, hw'⟩
            simp only [Act.put, List.setIfInBounds_toArray, List.set_cons_succ, List.set_cons_zero]
            apply wpK_val
            · rfl
            · intro w' hw'
              go_simp
              first | exact rfl | exact ⟨rfl, hw'⟩
            simp only [Act.put, List.setIfInBounds_toArray, List.set_cons_succ, List.set_cons_zero]
            apply wpK_val
            · rfl
            · intro w' hw'
              go_simp
              first | exact rfl | exact ⟨rfl, hw'⟩
            simp only [Act.put, List.setIfInBounds_toArray, List.set_cons_succ, List.set_cons_zero]
            apply wpK_val
            · rfl
            · intro w' hw'
              go_simp
              exact (pright_any (P5.out.on hw')).mono fun e w'' ⟨he, hb'⟩ => ⟨by rw [he, rt_right h2 h62 HU.out], hw'.trans (hb'.mono hw'.size)⟩
            simp only [Act.put, List.setIfInBounds_toArray, List.set_cons_succ, List.set_cons_zero]
            apply wpK_val
            · rfl
            · intro w' hw'
              go_simp
              first | exact rfl | exact ⟨rfl, hw'⟩
            simp only [Act.put, List.setIfInBounds_toArray, List.set_cons_succ, List.set_cons_zero]
            apply wpK_val
            · rfl
            · intro w' hw'
              go_simp
              first | exact rfl | exact ⟨rfl, hw'⟩
            simp only [Act.put, List.setIfInBounds_toArray, List.set_cons_succ, List.set_cons_zero]
            apply wpK_val
            · rfl
            · intro w' hw'
              go_simp
              first | exact rfl | exact ⟨rfl, hw'⟩
            simp only [Act.put, List.setIfInBounds_toArray, List.set_cons_succ, List.set_cons_zero]
            apply wpK_val
            · rfl
            · intro w' hw'
              go_simp
              first | exact rfl | exact ⟨rfl, hw'⟩
            simp only [Act.put, List.setIfInBounds_toArray, List.set_cons_succ, List.set_cons_zero]
            apply wpK_val
            · rfl
            · intro w' hw'
              go_simp
              first | exact rfl | exact ⟨rfl, hw'⟩
            simp only [Act.put, List.setIfInBounds_toArray, List.set_cons_succ, List.set_cons_zero]
            apply wpK_val
            · rfl
            · intro w' hw'
              go_simp
              first | exact rfl | exact ⟨rfl, hw'⟩
            simp only [Act.put, List.setIfInBounds_toArray, List.set_cons_succ, List.set_cons_zero]
            apply wpK_val
            · rfl
            · intro w' hw'
              go_simp
              first | exact rfl | exact ⟨rfl, hw'⟩
            simp only [Act.put, List.setIfInBounds_toArray, List.set_cons_succ, List.set_cons_zero]
            apply wpK_val
            · rfl
            · intro w' hw'
              go_simp
              first | exact rfl | exact ⟨rfl, hw'⟩
            simp only [Act.put, List.setIfInBounds_toArray, List.set_cons_succ, List.set_cons_zero]
            apply wpK_val
            · rfl
            · intro w' hw'
              go_simp
              first | exact rfl | exact ⟨rfl, hw'⟩
            simp only [Act.put, List.setIfInBounds_toArray, List.set_cons_succ, List.set_cons_zero]
            apply kldm
            · rfl
            · rfl
            · exact fun w' hw' => by have := own_range (OwnS.below O5.out hw' (Nat.le_refl _)) hk; rwa [Nat.zero_add] at this
            simp only [Act.put, List.setIfInBounds_toArray, List.set_cons_succ, List.set_cons_zero]
            apply wpK_val
            · rfl
            · intro w' hw'
              go_simp
              first | exact rfl | exact ⟨rfl, hw'⟩
            simp only [Act.put, List.setIfInBounds_toArray, List.set_cons_succ, List.set_cons_zero]
            apply wpK_val
            · rfl
            · intro w' hw'
              go_simp
              first | exact rfl | exact ⟨rfl, hw'⟩
            simp only [Act.put, List.setIfInBounds_toArray, List.set_cons_succ, List.set_cons_zero]
            apply wpK_val
            · rfl
            · intro w' hw'
              go_simp
              first | exact rfl | exact ⟨rfl, hw'⟩
            simp only [Act.put, List.setIfInBounds_toArray, List.set_cons_succ, List.set_cons_zero]
            apply wpK_val
            · rfl
            · intro w' hw'
              go_simp
              first | exact rfl | exact ⟨rfl, hw'⟩
            simp only [Act.put, List.setIfInBounds_toArray, List.set_cons_succ, List.set_cons_zero]
            apply kldm
            · rfl
            · rfl
            · exact fun w' hw' => R2.out w' (B5.out.trans (hw'.mono B5.out.size))
            simp only [Act.put, List.setIfInBounds_toArray, List.set_cons_succ, List.set_cons_zero]
            apply wpK_val
            · rfl
            · intro w' hw'
              have e1 : eqS (D k) y.s = false := E1.out
              go_simp
              first | exact rfl | exact ⟨rfl, hw'⟩
            simp only [Act.put, List.setIfInBounds_toArray, List.set_cons_succ, List.set_cons_zero]
            apply wpK_val
            · rfl
            · intro w' hw'
              go_simp
              first | exact rfl | exact ⟨rfl, hw'⟩
            simp only [Act.put, List.setIfInBounds_toArray, List.set_cons_succ, List.set_cons_zero]
            apply wpK_val
            · rfl
            · intro w' hw'
              go_simp
              first | exact rfl | exact ⟨rfl, hw'⟩
            simp only [Act.put, List.setIfInBounds_toArray, List.set_cons_succ, List.set_cons_zero]
            apply wpK_val
            · rfl
            · intro w' hw'
              go_simp
              first | exact rfl | exact ⟨rfl, hw'⟩
            simp only [Act.put, List.setIfInBounds_toArray, List.set_cons_succ, List.set_cons_zero]
            apply wpK_val
            · rfl
            · intro w' hw'
              go_simp
              first | exact rfl | exact ⟨rfl, hw'⟩
            simp only [Act.put, List.setIfInBounds_toArray, List.set_cons_succ, List.set_cons_zero]
            apply wpK_val
            · rfl
            · intro w' hw'
              go_simp
              first | exact rfl | exact ⟨rfl, hw'⟩
            simp only [Act.put, List.setIfInBounds_toArray, List.set_cons_succ, List.set_cons_zero]
            apply wpK_val
            · rfl
            · intro w' hw'
              go_simp
              first | exact rfl | exact ⟨rfl, hw'⟩
            simp only [Act.put, List.setIfInBounds_toArray, List.set_cons_succ, List.set_cons_zero]
            apply wpK_val
            · rfl
            · intro w' hw'
              go_simp
              first | exact rfl | exact ⟨rfl, hw'⟩
            simp only [Act.put, List.setIfInBounds_toArray, List.set_cons_succ, List.set_cons_zero]
            apply wpK_val
            · rfl
            · intro w' hw'
              go_simp
              first | exact rfl | exact ⟨rfl, hw'⟩
            simp only [Act.put, List.setIfInBounds_toArray, List.set_cons_succ, List.set_cons_zero]
            apply wpK_val
            · rfl
            · intro w' hw'
              go_simp
              first | exact rfl | exact ⟨rfl, hw'⟩
            simp only [Act.put, List.setIfInBounds_toArray, List.set_cons_succ, List.set_cons_zero]
            apply wpK_val
            · rfl
            · intro w' hw'
              go_simp
              first | exact rfl | exact ⟨rfl, hw'⟩
            simp only [Act.put, List.setIfInBounds_toArray, List.set_cons_succ, List.set_cons_zero]
            apply wpK_val
            · rfl
            · intro w' hw'
              go_simp
              first | exact rfl | exact ⟨rfl, hw'⟩
            simp only [Act.put, List.setIfInBounds_toArray, List.set_cons_succ, List.set_cons_zero]
            apply wpK_val
            · rfl
            · intro w' hw'
              go_simp
              first | exact rfl | exact ⟨rfl, hw'⟩
            simp only [Act.put, List.setIfInBounds_toArray, List.set_cons_succ, List.set_cons_zero]
            apply wpK_val
            · rfl
            · intro w' hw'
              go_simp
              first | exact rfl | exact ⟨rfl, hw'⟩
            simp only [Act.put, List.setIfInBounds_toArray, List.set_cons_succ, List.set_cons_zero]
            apply wpK_val
            · rfl
            · intro w' hw'
              have hcell := (hw'.cell (p := ⟨bt, 0, none⟩) lt.out).trans T0.out
              go_simp
              first | exact rfl | exact ⟨rfl, hw'⟩
            simp only [Act.put, List.setIfInBounds_toArray, List.set_cons_succ, List.set_cons_zero]
            apply wpK_val
            · rfl
            · intro w' hw'
              go_simp
              first | exact rfl | exact ⟨rfl, hw'⟩
            simp only [Act.put, List.setIfInBounds_toArray, List.set_cons_succ, List.set_cons_zero]
            apply wpK_val
            · rfl
            · intro w' hw'
              go_simp
              first | exact rfl | exact ⟨rfl, hw'⟩
            simp only [Act.put, List.setIfInBounds_toArray, List.set_cons_succ, List.set_cons_zero]
            apply wpK_val
            · rfl
            · intro w' hw'
              go_simp
              first | exact rfl | exact ⟨rfl, hw'⟩
            simp only [Act.put, List.setIfInBounds_toArray, List.set_cons_succ, List.set_cons_zero]
            apply wpK_val
            · rfl
            · intro w' hw'
              go_simp
              first | exact rfl | exact ⟨rfl, hw'⟩
            simp only [Act.put, List.setIfInBounds_toArray, List.set_cons_succ, List.set_cons_zero]
            apply wpK_val
            · rfl
            · intro w' hw'
              go_simp
              first | exact rfl | exact ⟨rfl, hw'⟩
            simp only [Act.put, List.setIfInBounds_toArray, List.set_cons_succ, List.set_cons_zero]
            apply wpK_val
            · rfl
            · intro w' hw'
              go_simp
              first | exact rfl | exact ⟨rfl, hw'⟩
            simp only [Act.put, List.setIfInBounds_toArray, List.set_cons_succ, List.set_cons_zero]
            apply wpK_val
            · rfl
            · intro w' hw'
              have hcell := (hw'.cell (p := ⟨bt, 1, none⟩) lt.out).trans T1.out
              go_simp
              first | exact rfl | exact ⟨rfl, hw'⟩
            simp only [Act.put, List.setIfInBounds_toArray, List.set_cons_succ, List.set_cons_zero]
            apply wpK_val
            · rfl
            · intro w' hw'
              go_simp
              first | exact rfl | exact ⟨rfl, hw'⟩
            simp only [Act.put, List.setIfInBounds_toArray, List.set_cons_succ, List.set_cons_zero]
            apply wpK_val
            · rfl
            · intro w' hw'
              go_simp
              first | exact rfl | exact ⟨rfl, hw'⟩
            simp only [Act.put, List.setIfInBounds_toArray, List.set_cons_succ, List.set_cons_zero]
            apply wpK_val
            · rfl
            · intro w' hw'
              go_simp
              first | exact rfl | exact ⟨rfl, hw'⟩
            simp only [Act.put, List.setIfInBounds_toArray, List.set_cons_succ, List.set_cons_zero]
            apply wpK_val
            · rfl
            · intro w' hw'
              go_simp
              first | exact rfl | exact ⟨rfl, hw'⟩
            simp only [Act.put, List.setIfInBounds_toArray, List.set_cons_succ, List.set_cons_zero]
            apply wpK_val
            · rfl
            · intro w' hw'
              go_simp
              first | exact rfl | exact ⟨rfl, hw'⟩
            simp only [Act.put, List.setIfInBounds_toArray, List.set_cons_succ, List.set_cons_zero]
            apply wpK_val
            · rfl
            · intro w' hw'
              go_simp
              first | exact rfl | exact ⟨rfl, hw'⟩
            simp only [Act.put, List.setIfInBounds_toArray, List.set_cons_succ, List.set_cons_zero]
            apply wpK_val
            · rfl
            · intro w' hw'
              go_simp
              first | exact rfl | exact ⟨rfl, hw'⟩
            simp only [Act.put, List.setIfInBounds_toArray, List.set_cons_succ, List.set_cons_zero]
            apply wpK_val
            · rfl
            · intro w' hw'
              have hcell := (hw'.cell (p := ⟨bt, 2, none⟩) lt.out).trans T2.out
              go_simp
              first | exact rfl | exact ⟨rfl, hw'⟩
            simp only [Act.put, List.setIfInBounds_toArray, List.set_cons_succ, List.set_cons_zero]
            apply wpK_val
            · rfl
            · intro w' hw'
              go_simp
              first | exact rfl | exact ⟨rfl, hw'⟩
            simp only [Act.put, List.setIfInBounds_toArray, List.set_cons_succ, List.set_cons_zero]
            apply wpK_val
            · rfl
            · intro w' hw'
              go_simp
              first | exact rfl | exact ⟨rfl, hw'⟩
            simp only [Act.put, List.setIfInBounds_toArray, List.set_cons_succ, List.set_cons_zero]
            apply wpK_val
            · rfl
            · intro w' hw'
              have e2 : IntKind.i64.wrap ((n : Int) + 1) = ((n + 1 : Nat) : Int) := WN.out
              go_simp
              first | exact rfl | exact ⟨rfl, hw'⟩
            simp only [Act.put, List.setIfInBounds_toArray, List.set_cons_succ, List.set_cons_zero]
            apply wpK_val
            · rfl
            · intro w' hw'
              go_simp
              first | exact rfl | exact ⟨rfl, hw'⟩
            simp only [Act.put, List.setIfInBounds_toArray, List.set_cons_succ, List.set_cons_zero]
            apply wpK_val
            · rfl
            · intro w' hw'
              go_simp
              first | exact rfl | exact ⟨rfl, hw'⟩
            simp only [Act.put, List.setIfInBounds_toArray, List.set_cons_succ, List.set_cons_zero]
            apply wpK_val
            · rfl
            · intro w' hw'
              go_simp
              first | exact rfl | exact ⟨rfl, hw'⟩
            simp only [Act.put, List.setIfInBounds_toArray, List.set_cons_succ, List.set_cons_zero]
            apply wpK_val
            · rfl
            · intro w' hw'
              go_simp
              first | exact rfl | exact ⟨rfl, hw'⟩
            simp only [Act.put, List.setIfInBounds_toArray, List.set_cons_succ, List.set_cons_zero]
            refine wpK_nil fun w6 hw6 => ?_
            have P6 := hid (P5.out.on hw6)
            have B6 := hid (B5.out.trans (hw6.mono B5.out.size))
            have O6 := hid (OwnS.below O5.out hw6 (Nat.le_refl _))
            have R6 := hid (R2.out w6 B6.out)
            clear hw6 P5 O5 B5
            go_wp2_with (first | ((with_reducible apply ldm (o := o2 + i * 66 + 2)); rfl; exact R6.out) | ((with_reducible apply sto0); rfl; rfl; exact O6.out; exact hk; intro w7 o7 g7; have O7 := hid o7; have T7 := hid (Turn.of_grown (S := fun b => b = g6) g7 fun b e => by cases e; rfl); clear o7 g7))
            have P7 := hid (P6.out.turn T7.out (show ¬ g = g6 by have := D6.out; omega) (show ¬ gc = g6 by have := D6.out; omega) (show ¬ gg = g6 by have := D6.out; omega))
            have B7 := hid (B6.out.trans (T7.out.below (B := W.heap.size) B6.out.size fun b e => by have := G6.out; omega))
            clear P6 O6 B6 T7 R6 R2 E1
            go_loopw [11] (fun uu wq => ∃ c : Nat, uu = .int .i64 c ∧ c ≤ n ∧ Hid (Pr wq g gc cc gg cg (rt n (upd D k y.s))) ∧ Hid (OwnS wq w1.heap.size (.slice (some ⟨g6, 0, none⟩) n c6) n (upd D k y.s)) ∧ Hid (Below W.heap.size W wq)) (fun uu _ => n - (intOf uu).toNat)
            case atStart => exact ⟨0, rfl, Nat.zero_le _, P7, O7, B7⟩
            case round =>
              obtain ⟨c, rfl, hc, HP8, HO8, HB8⟩ := hrel
              by_cases hgo : c < n
              · have t1 : (c : Int) < n := by omega
                have hge := hid (rt_getE (m := n) (D := upd D k y.s) (c := (c : Int)) ⟨by omega, by omega⟩)
                have hgs := hid (rt_getS (m := n) (D := upd D k y.s) (c := (c : Int)) ⟨by omega, by omega⟩)
                have E8 := hid (eqS_yes (f := rowF n (upd D k y.s) c) (g := upd D k y.s c) fun j _ => by unfold rowF; rw [if_pos hgo])
                go_wp2_with fail
                refine (pget_any HP8.out c).mono ?_
                rintro e w9 ⟨rfl, h9⟩
                rw [hge.out, hgs.out, Int.toNat_natCast]
                have P9 := hid (HP8.out.on h9)
                have O9 := hid (OwnS.below HO8.out h9 (Nat.le_refl _))
                have B9 := hid (HB8.out.trans (h9.mono HB8.out.size))
                clear h9
                go_wp2_with ((with_reducible apply stx); rfl; rfl; exact Blk.top zlit rfl)
                generalize hw10 : World.setRow (World.alloc w9 _) _ _ = w10
                have b10 := hid (show Blk w10 w9.heap.size 32 (sec (rowF n (upd D k y.s) c)) by rw [← hw10]; exact (Blk.top zlit rfl).setRow_same _)
                have h10 : Below w9.heap.size w9 w10 := by rw [← hw10]; exact below_setRow ((Below.refl _ _).alloc (Nat.le_refl _) _) (Nat.le_refl _) _
                have P10 := hid (P9.out.on h10)
                have O10 := hid (OwnS.below O9.out h10 (Nat.le_refl _))
                have B10 := hid (B9.out.trans (h10.mono B9.out.size))
                clear h10 hw10 P9 O9 B9
                go_wp2_with fail
                refine wp_region_tail (C := fun w' => Below w10.heap.size w10 w') 10 (by kernel_rfl) (by kernel_rfl) (by kernel_rfl) (Below.refl _ _).drew ?_
                simp only [List.take_succ_cons, List.take_zero, List.drop_succ_cons, List.drop_zero]
                apply wpK_val
                · rfl
                · intro w' hw'
                  go_simp
                  first | exact rfl | exact ⟨rfl, hw'⟩
                simp only [Act.put, List.setIfInBounds_toArray, List.set_cons_succ, List.set_cons_zero]
                apply wpK_val
                · rfl
                · intro w' hw'
                  go_simp
                  first | exact rfl | exact ⟨rfl, hw'⟩
                simp only [Act.put, List.setIfInBounds_toArray, List.set_cons_succ, List.set_cons_zero]
                apply wpK_val
                · rfl
                · intro w' hw'
                  go_simp
                  first | exact rfl | exact ⟨rfl, hw'⟩
                simp only [Act.put, List.setIfInBounds_toArray, List.set_cons_succ, List.set_cons_zero]
                apply kld
                · rfl
                · rfl
                · exact fun w' hw' => b10.out.below hw' b10.out.lt
                simp only [Act.put, List.setIfInBounds_toArray, List.set_cons_succ, List.set_cons_zero]
                apply wpK_val
                · rfl
                · intro w' hw'
                  go_simp
                  first | exact rfl | exact ⟨rfl, hw'⟩
                simp only [Act.put, List.setIfInBounds_toArray, List.set_cons_succ, List.set_cons_zero]
                apply wpK_val
                · rfl
                · intro w' hw'
                  go_simp
                  first | exact rfl | exact ⟨rfl, hw'⟩
                simp only [Act.put, List.setIfInBounds_toArray, List.set_cons_succ, List.set_cons_zero]
                apply wpK_val
                · rfl
                · intro w' hw'
                  go_simp
                  first | exact rfl | exact ⟨rfl, hw'⟩
                simp only [Act.put, List.setIfInBounds_toArray, List.set_cons_succ, List.set_cons_zero]
                apply kldm
                · rfl
                · rfl
                · exact fun w' hw' => by have := own_range (OwnS.below O10.out hw' (Nat.le_refl _)) hgo; rwa [Nat.zero_add] at this
                simp only [Act.put, List.setIfInBounds_toArray, List.set_cons_succ, List.set_cons_zero]
                apply wpK_val
                · rfl
                · intro w' hw'
                  have e1 : eqS (rowF n (upd D k y.s) c) (upd D k y.s c) = true := E8.out
                  go_simp
                  first | exact rfl | exact ⟨rfl, hw'⟩
                simp only [Act.put, List.setIfInBounds_toArray, List.set_cons_succ, List.set_cons_zero]
                apply wpK_val
                · rfl
                · intro w' hw'
                  go_simp
                  first | exact rfl | exact ⟨rfl, hw'⟩
                simp only [Act.put, List.setIfInBounds_toArray, List.set_cons_succ, List.set_cons_zero]
                refine wpK_nil fun w11 hw11 => ?_
                have P11 := hid (P10.out.on hw11)
                have O11 := hid (OwnS.below O10.out hw11 (Nat.le_refl _))
                have B11 := hid (B10.out.trans (hw11.mono B10.out.size))
                clear hw11 P10 O10 B10
                go_wp2_with fail
                go_roundw
                case rel => exact ⟨c + 1, by go_num, by omega, P11, O11, B11⟩
                case measure => simp [intOf] <;> omega
              · have t1 : ¬ (c : Int) < n := by omega
                go_wp2_with fail
                go_roundw
                case rel => exact ⟨i + 1, _, by go_num, by omega, HU, HP8, HO8, HB8⟩
                case measure => simp [intOf] <;> omega
          · rw [rt_same h2 h62 HD.out hk y.s (eqS_iff.1 he1) hys.out] at oi ⊢
            have E1 := hid he1
            clear oi he1
            simp only [List.length_nil]
            go_wp2_with fail
            refine wp_region_tail (C := fun w' => Below w5.heap.size w5 w') 57 (by kernel_rfl) (by kernel_rfl) (by kernel_rfl) (Below.refl _ _).drew ?_
            simp only [List.take_succ_cons, List.take_zero, List.drop_succ_cons, List.drop_zero]
            apply wpK_val
            · rfl
            · intro w' hw'
              go_simp
              first | exact rfl | exact ⟨rfl, hw'⟩
            simp only [Act.put, List.setIfInBounds_toArray, List.set_cons_succ, List.set_cons_zero]
            apply wpK_val
            · rfl
            · intro w' hw'
              go_simp
              first | exact rfl | exact ⟨rfl, hw'⟩
            simp only [Act.put, List.setIfInBounds_toArray, List.set_cons_succ, List.set_cons_zero]
            apply wpK_val
            · rfl
            · intro w' hw'
              go_simp
              first | exact rfl | exact ⟨rfl, hw'⟩
            simp only [Act.put, List.setIfInBounds_toArray, List.set_cons_succ, List.set_cons_zero]
            apply wpK_val
            · rfl
            · intro w' hw'
              go_simp
              first | exact rfl | exact ⟨rfl, hw'⟩
            simp only [Act.put, List.setIfInBounds_toArray, List.set_cons_succ, List.set_cons_zero]
            apply wpK_val
            · rfl
            · intro w' hw'
              go_simp
              exact (pright_any (P5.out.on hw')).mono fun e w'' ⟨he, hb'⟩ => ⟨by rw [he, rt_right h2 h62 HU.out], hw'.trans (hb'.mono hw'.size)⟩
            simp only [Act.put, List.setIfInBounds_toArray, List.set_cons_succ, List.set_cons_zero]
            apply wpK_val
            · rfl
            · intro w' hw'
              go_simp
              first | exact rfl | exact ⟨rfl, hw'⟩
            simp only [Act.put, List.setIfInBounds_toArray, List.set_cons_succ, List.set_cons_zero]
            apply wpK_val
            · rfl
            · intro w' hw'
              go_simp
              first | exact rfl | exact ⟨rfl, hw'⟩
            simp only [Act.put, List.setIfInBounds_toArray, List.set_cons_succ, List.set_cons_zero]
            apply wpK_val
            · rfl
            · intro w' hw'
              go_simp
              first | exact rfl | exact ⟨rfl, hw'⟩
            simp only [Act.put, List.setIfInBounds_toArray, List.set_cons_succ, List.set_cons_zero]
            apply wpK_val
            · rfl
            · intro w' hw'
              go_simp
              first | exact rfl | exact ⟨rfl, hw'⟩
            simp only [Act.put, List.setIfInBounds_toArray, List.set_cons_succ, List.set_cons_zero]
            apply wpK_val
            · rfl
            · intro w' hw'
              go_simp
              first | exact rfl | exact ⟨rfl, hw'⟩
            simp only [Act.put, List.setIfInBounds_toArray, List.set_cons_succ, List.set_cons_zero]
            apply wpK_val
            · rfl
            · intro w' hw'
              go_simp
              first | exact rfl | exact ⟨rfl, hw'⟩
            simp only [Act.put, List.setIfInBounds_toArray, List.set_cons_succ, List.set_cons_zero]
            apply wpK_val
            · rfl
            · intro w' hw'
              go_simp
              first | exact rfl | exact ⟨rfl, hw'⟩
            simp only [Act.put, List.setIfInBounds_toArray, List.set_cons_succ, List.set_cons_zero]
            apply wpK_val
            · rfl
            · intro w' hw'
              go_simp
              first | exact rfl | exact ⟨rfl, hw'⟩
            simp only [Act.put, List.setIfInBounds_toArray, List.set_cons_succ, List.set_cons_zero]
            apply wpK_val
            · rfl
            · intro w' hw'
              go_simp
              first | exact rfl | exact ⟨rfl, hw'⟩
            simp only [Act.put, List.setIfInBounds_toArray, List.set_cons_succ, List.set_cons_zero]
            apply kldm
            · rfl
            · rfl
            · exact fun w' hw' => by have := own_range (OwnS.below O5.out hw' (Nat.le_refl _)) hk; rwa [Nat.zero_add] at this
            simp only [Act.put, List.setIfInBounds_toArray, List.set_cons_succ, List.set_cons_zero]
            apply wpK_val
            · rfl
            · intro w' hw'
              go_simp
              first | exact rfl | exact ⟨rfl, hw'⟩
            simp only [Act.put, List.setIfInBounds_toArray, List.set_cons_succ, List.set_cons_zero]
            apply wpK_val
            · rfl
            · intro w' hw'
              go_simp
              first | exact rfl | exact ⟨rfl, hw'⟩
            simp only [Act.put, List.setIfInBounds_toArray, List.set_cons_succ, List.set_cons_zero]
            apply wpK_val
            · rfl
            · intro w' hw'
              go_simp
              first | exact rfl | exact ⟨rfl, hw'⟩
            simp only [Act.put, List.setIfInBounds_toArray, List.set_cons_succ, List.set_cons_zero]
            apply wpK_val
            · rfl
            · intro w' hw'
              go_simp
              first | exact rfl | exact ⟨rfl, hw'⟩
            simp only [Act.put, List.setIfInBounds_toArray, List.set_cons_succ, List.set_cons_zero]
            apply kldm
            · rfl
            · rfl
            · exact fun w' hw' => R2.out w' (B5.out.trans (hw'.mono B5.out.size))
            simp only [Act.put, List.setIfInBounds_toArray, List.set_cons_succ, List.set_cons_zero]
            apply wpK_val
            · rfl
            · intro w' hw'
              have e1 : eqS (D k) y.s = true := E1.out
              go_simp
              first | exact rfl | exact ⟨rfl, hw'⟩
            simp only [Act.put, List.setIfInBounds_toArray, List.set_cons_succ, List.set_cons_zero]
            apply wpK_val
            · rfl
            · intro w' hw'
              go_simp
              first | exact rfl | exact ⟨rfl, hw'⟩
            simp only [Act.put, List.setIfInBounds_toArray, List.set_cons_succ, List.set_cons_zero]
            apply wpK_val
            · rfl
            · intro w' hw'
              go_simp
              first | exact rfl | exact ⟨rfl, hw'⟩
            simp only [Act.put, List.setIfInBounds_toArray, List.set_cons_succ, List.set_cons_zero]
            apply wpK_val
            · rfl
            · intro w' hw'
              go_simp
              first | exact rfl | exact ⟨rfl, hw'⟩
            simp only [Act.put, List.setIfInBounds_toArray, List.set_cons_succ, List.set_cons_zero]
            apply wpK_val
            · rfl
            · intro w' hw'
              go_simp
              first | exact rfl | exact ⟨rfl, hw'⟩
            simp only [Act.put, List.setIfInBounds_toArray, List.set_cons_succ, List.set_cons_zero]
            apply wpK_val
            · rfl
            · intro w' hw'
              go_simp
              first | exact rfl | exact ⟨rfl, hw'⟩
            simp only [Act.put, List.setIfInBounds_toArray, List.set_cons_succ, List.set_cons_zero]
            apply wpK_val
            · rfl
            · intro w' hw'
              go_simp
              first | exact rfl | exact ⟨rfl, hw'⟩
            simp only [Act.put, List.setIfInBounds_toArray, List.set_cons_succ, List.set_cons_zero]
            apply wpK_val
            · rfl
            · intro w' hw'
              go_simp
              first | exact rfl | exact ⟨rfl, hw'⟩
            simp only [Act.put, List.setIfInBounds_toArray, List.set_cons_succ, List.set_cons_zero]
            apply wpK_not
            · rfl
            simp only [Act.put, List.setIfInBounds_toArray, List.set_cons_succ, List.set_cons_zero]
            apply wpK_not
            · rfl
            simp only [Act.put, List.setIfInBounds_toArray, List.set_cons_succ, List.set_cons_zero]
            apply wpK_not
            · rfl
            simp only [Act.put, List.setIfInBounds_toArray, List.set_cons_succ, List.set_cons_zero]
            apply wpK_not
            · rfl
            simp only [Act.put, List.setIfInBounds_toArray, List.set_cons_succ, List.set_cons_zero]
            apply wpK_not
            · rfl
            simp only [Act.put, List.setIfInBounds_toArray, List.set_cons_succ, List.set_cons_zero]
            apply wpK_not
            · rfl
            simp only [Act.put, List.setIfInBounds_toArray, List.set_cons_succ, List.set_cons_zero]
            apply wpK_not
            · rfl
            simp only [Act.put, List.setIfInBounds_toArray, List.set_cons_succ, List.set_cons_zero]
            apply wpK_not
            · rfl
            simp only [Act.put, List.setIfInBounds_toArray, List.set_cons_succ, List.set_cons_zero]
            apply wpK_not
            · rfl
            simp only [Act.put, List.setIfInBounds_toArray, List.set_cons_succ, List.set_cons_zero]
            apply wpK_not
            · rfl
            simp only [Act.put, List.setIfInBounds_toArray, List.set_cons_succ, List.set_cons_zero]
            apply wpK_not
            · rfl
            simp only [Act.put, List.setIfInBounds_toArray, List.set_cons_succ, List.set_cons_zero]
            apply wpK_not
            · rfl
            simp only [Act.put, List.setIfInBounds_toArray, List.set_cons_succ, List.set_cons_zero]
            apply wpK_not
            · rfl
            simp only [Act.put, List.setIfInBounds_toArray, List.set_cons_succ, List.set_cons_zero]
            apply wpK_not
            · rfl
            simp only [Act.put, List.setIfInBounds_toArray, List.set_cons_succ, List.set_cons_zero]
            apply wpK_not
            · rfl
            simp only [Act.put, List.setIfInBounds_toArray, List.set_cons_succ, List.set_cons_zero]
            apply wpK_not
            · rfl
            simp only [Act.put, List.setIfInBounds_toArray, List.set_cons_succ, List.set_cons_zero]
            apply wpK_not
            · rfl
            simp only [Act.put, List.setIfInBounds_toArray, List.set_cons_succ, List.set_cons_zero]
            apply wpK_not
            · rfl
            simp only [Act.put, List.setIfInBounds_toArray, List.set_cons_succ, List.set_cons_zero]
            apply wpK_not
            · rfl
            simp only [Act.put, List.setIfInBounds_toArray, List.set_cons_succ, List.set_cons_zero]
            apply wpK_not
            · rfl
            simp only [Act.put, List.setIfInBounds_toArray, List.set_cons_succ, List.set_cons_zero]
            apply wpK_not
            · rfl
            simp only [Act.put, List.setIfInBounds_toArray, List.set_cons_succ, List.set_cons_zero]
            apply wpK_not
            · rfl
            simp only [Act.put, List.setIfInBounds_toArray, List.set_cons_succ, List.set_cons_zero]
            apply wpK_not
            · rfl
            simp only [Act.put, List.setIfInBounds_toArray, List.set_cons_succ, List.set_cons_zero]
            apply wpK_not
            · rfl
            simp only [Act.put, List.setIfInBounds_toArray, List.set_cons_succ, List.set_cons_zero]
            apply wpK_not
            · rfl
            simp only [Act.put, List.setIfInBounds_toArray, List.set_cons_succ, List.set_cons_zero]
            apply wpK_not
            · rfl
            simp only [Act.put, List.setIfInBounds_toArray, List.set_cons_succ, List.set_cons_zero]
            apply wpK_not
            · rfl
            simp only [Act.put, List.setIfInBounds_toArray, List.set_cons_succ, List.set_cons_zero]
            apply wpK_val
            · rfl
            · intro w' hw'
              go_simp
              first | exact rfl | exact ⟨rfl, hw'⟩
            simp only [Act.put, List.setIfInBounds_toArray, List.set_cons_succ, List.set_cons_zero]
            apply wpK_val
            · rfl
            · intro w' hw'
              go_simp
              first | exact rfl | exact ⟨rfl, hw'⟩
            simp only [Act.put, List.setIfInBounds_toArray, List.set_cons_succ, List.set_cons_zero]
            refine wpK_nil fun w6 hw6 => ?_
            have P6 := hid (P5.out.on hw6)
            have B6 := hid (B5.out.trans (hw6.mono B5.out.size))
            have O6 := hid (OwnS.below O5.out hw6 (Nat.le_refl _))
            have R6 := hid (R2.out w6 B6.out)
            clear hw6 P5 O5 B5
            go_wp2_with (first | ((with_reducible apply ldm (o := o2 + i * 66 + 2)); rfl; exact R6.out) | ((with_reducible apply sto0); rfl; rfl; exact O6.out; exact hk; intro w7 o7 g7; have O7 := hid o7; have T7 := hid (Turn.of_grown (S := fun b => b = g6) g7 fun b e => by cases e; rfl); clear o7 g7))
            have P7 := hid (P6.out.turn T7.out (show ¬ g = g6 by have := D6.out; omega) (show ¬ gc = g6 by have := D6.out; omega) (show ¬ gg = g6 by have := D6.out; omega))
            have B7 := hid (B6.out.trans (T7.out.below (B := W.heap.size) B6.out.size fun b e => by have := G6.out; omega))
            clear P6 O6 B6 T7 R6 R2 E1
            go_loopw [11] (fun uu wq => ∃ c : Nat, uu = .int .i64 c ∧ c ≤ n ∧ Hid (Pr wq g gc cc gg cg (rt n (upd D k y.s))) ∧ Hid (OwnS wq w1.heap.size (.slice (some ⟨g6, 0, none⟩) n c6) n (upd D k y.s)) ∧ Hid (Below W.heap.size W wq)) (fun uu _ => n - (intOf uu).toNat)
            case atStart => exact ⟨0, rfl, Nat.zero_le _, P7, O7, B7⟩
            case round =>
              obtain ⟨c, rfl, hc, HP8, HO8, HB8⟩ := hrel
              by_cases hgo : c < n
              · have t1 : (c : Int) < n := by omega
                have hge := hid (rt_getE (m := n) (D := upd D k y.s) (c := (c : Int)) ⟨by omega, by omega⟩)
                have hgs := hid (rt_getS (m := n) (D := upd D k y.s) (c := (c : Int)) ⟨by omega, by omega⟩)
                have E8 := hid (eqS_yes (f := rowF n (upd D k y.s) c) (g := upd D k y.s c) fun j _ => by unfold rowF; rw [if_pos hgo])
                go_wp2_with fail
                refine (pget_any HP8.out c).mono ?_
                rintro e w9 ⟨rfl, h9⟩
                rw [hge.out, hgs.out, Int.toNat_natCast]
                have P9 := hid (HP8.out.on h9)
                have O9 := hid (OwnS.below HO8.out h9 (Nat.le_refl _))
                have B9 := hid (HB8.out.trans (h9.mono HB8.out.size))
                clear h9
                go_wp2_with ((with_reducible apply stx); rfl; rfl; exact Blk.top zlit rfl)
                generalize hw10 : World.setRow (World.alloc w9 _) _ _ = w10
                have b10 := hid (show Blk w10 w9.heap.size 32 (sec (rowF n (upd D k y.s) c)) by rw [← hw10]; exact (Blk.top zlit rfl).setRow_same _)
                have h10 : Below w9.heap.size w9 w10 := by rw [← hw10]; exact below_setRow ((Below.refl _ _).alloc (Nat.le_refl _) _) (Nat.le_refl _) _
                have P10 := hid (P9.out.on h10)
                have O10 := hid (OwnS.below O9.out h10 (Nat.le_refl _))
                have B10 := hid (B9.out.trans (h10.mono B9.out.size))
                clear h10 hw10 P9 O9 B9
                go_wp2_with fail
                refine wp_region_tail (C := fun w' => Below w10.heap.size w10 w') 10 (by kernel_rfl) (by kernel_rfl) (by kernel_rfl) (Below.refl _ _).drew ?_
                simp only [List.take_succ_cons, List.take_zero, List.drop_succ_cons, List.drop_zero]
                apply wpK_val
                · rfl
                · intro w' hw'
                  go_simp
                  first | exact rfl | exact ⟨rfl, hw'⟩
                simp only [Act.put, List.setIfInBounds_toArray, List.set_cons_succ, List.set_cons_zero]
                apply wpK_val
                · rfl
                · intro w' hw'
                  go_simp
                  first | exact rfl | exact ⟨rfl, hw'⟩
                simp only [Act.put, List.setIfInBounds_toArray, List.set_cons_succ, List.set_cons_zero]
                apply wpK_val
                · rfl
                · intro w' hw'
                  go_simp
                  first | exact rfl | exact ⟨rfl, hw'⟩
                simp only [Act.put, List.setIfInBounds_toArray, List.set_cons_succ, List.set_cons_zero]
                apply kld
                · rfl
                · rfl
                · exact fun w' hw' => b10.out.below hw' b10.out.lt
                simp only [Act.put, List.setIfInBounds_toArray, List.set_cons_succ, List.set_cons_zero]
                apply wpK_val
                · rfl
                · intro w' hw'
                  go_simp
                  first | exact rfl | exact ⟨rfl, hw'⟩
                simp only [Act.put, List.setIfInBounds_toArray, List.set_cons_succ, List.set_cons_zero]
                apply wpK_val
                · rfl
                · intro w' hw'
                  go_simp
                  first | exact rfl | exact ⟨rfl, hw'⟩
                simp only [Act.put, List.setIfInBounds_toArray, List.set_cons_succ, List.set_cons_zero]
                apply wpK_val
                · rfl
                · intro w' hw'
                  go_simp
                  first | exact rfl | exact ⟨rfl, hw'⟩
                simp only [Act.put, List.setIfInBounds_toArray, List.set_cons_succ, List.set_cons_zero]
                apply kldm
                · rfl
                · rfl
                · exact fun w' hw' => by have := own_range (OwnS.below O10.out hw' (Nat.le_refl _)) hgo; rwa [Nat.zero_add] at this
                simp only [Act.put, List.setIfInBounds_toArray, List.set_cons_succ, List.set_cons_zero]
                apply wpK_val
                · rfl
                · intro w' hw'
                  have e1 : eqS (rowF n (upd D k y.s) c) (upd D k y.s c) = true := E8.out
                  go_simp
                  first | exact rfl | exact ⟨rfl, hw'⟩
                simp only [Act.put, List.setIfInBounds_toArray, List.set_cons_succ, List.set_cons_zero]
                apply wpK_val
                · rfl
                · intro w' hw'
                  go_simp
                  first | exact rfl | exact ⟨rfl, hw'⟩
                simp only [Act.put, List.setIfInBounds_toArray, List.set_cons_succ, List.set_cons_zero]
                refine wpK_nil fun w11 hw11 => ?_
                have P11 := hid (P10.out.on hw11)
                have O11 := hid (OwnS.below O10.out hw11 (Nat.le_refl _))
                have B11 := hid (B10.out.trans (hw11.mono B10.out.size))
                clear hw11 P10 O10 B10
                go_wp2_with fail
                go_roundw
                case rel => exact ⟨c + 1, by go_num, by omega, P11, O11, B11⟩
                case measure => simp [intOf] <;> omega
              · have t1 : ¬ (c : Int) < n := by omega
                go_wp2_with fail
                go_roundw
                case rel => exact ⟨i + 1, _, by go_num, by omega, HU, HP8, HO8, HB8⟩
                case measure => simp [intOf] <;> omega)
      · by_cases hgo2 : i < ln
        · have t1 : (i : Int) < ln := by omega
          have t2 : ¬ (i : Int) < 20 := by omega
          clear hgo
          go_wp2_with fail
          refine (works_any wr).mono ?_
          rintro e w2 ⟨rfl, h2⟩
          have B2 := hid (HB.out.trans (h2.mono HB.out.size))
          clear h2
          go_wp2_with fail
          go_ret
          exact ⟨rfl, B2.out⟩
        · have t1 : ¬ (i : Int) < ln := by omega
          clear hgo
          go_wp2_with fail
          refine (works_any wr).mono ?_
          rintro e w2 ⟨rfl, h2⟩
          have B2 := hid (HB.out.trans (h2.mono HB.out.size))
          clear h2
          go_wp2_with fail
          go_ret
          exact ⟨rfl, B2.out⟩
end StM
end Go.Proofs.Ytlbfjnddbdpdpaa
