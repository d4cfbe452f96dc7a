/-
  The walk of ParityAdds.
-/
import Derived.Test.YtkdnkppkmjgihaaParAddM
import Derived.Test.YtkdnkppkmjgihaaParOf2
import Derived.Test.YtkdnkppkmjgihaaParWorks
import Derived.Test.YtkdnkppkmjgihaaParTold
import Derived.Test.YtkdnkppkmjgihaaRegRel
namespace Go.Proofs.Ytkdnkppkmjgihaa
open Go.ChangeShapes Go.WideShapes Go.ChangeAt Go.RowKit
attribute [local go_sem] Gives eqg_sec
attribute [local go_sem high] run_eql_sec run_neq_sec zero_row
/-- Worlds behind draws alone. -/
def Drew (w w' : World) : Prop := ∃ k, w' = w.drewN k
theorem Drew.refl (w : World) : Drew w w.drew := ⟨1, rfl⟩
theorem Drew.cell {w w' : World} (h : Drew w w') {p : Addr} {v : Value} (hc : w.cell? p = some v) : w'.cell? p = some v := by
  obtain ⟨k, rfl⟩ := h; exact hc
theorem Drew.blk {w w' : World} (h : Drew w w') {g : Nat} {t : TypeId} {cs : Array Value} (hc : Blk w g t cs) : Blk w' g t cs := by
  obtain ⟨k, rfl⟩ := h; exact hc
theorem Drew.below {B : Nat} {a w w' : World} (h : Drew w w') (hb : Below B a w) : Below B a w' := by
  obtain ⟨k, rfl⟩ := h; exact below_drewN hb k
theorem Drew.heap {w w' : World} (h : Drew w w') : w'.heap = w.heap := by obtain ⟨k, rfl⟩ := h; rfl
/-- A slice of the call's own stays when a cell of another row is turned. -/
theorem owns_other {e : TypeId} {size n B g' i : Nat} {v u : Value} {xs : List Value} {w : World} (h : w.ownsRow B e size v n xs) (hne : v.ownBlock ≠ some g') : (w.setCell ⟨g', i, none⟩ u).ownsRow B e size v n xs := by
  refine ⟨h.1, ?_⟩
  rcases h.2 with h' | ⟨g, cap, cur, rfl, hB, hg, hr⟩
  · exact .inl h'
  · exact .inr ⟨g, cap, cur, rfl, hB, Blk.setCell_other (t := e) (cs := cur) hg (fun e' => hne (congrArg some (show g = g' from e'.symm))) _, hr⟩
theorem Secs.fewer {w : World} {B n m : Nat} {A : Option Addr} {F : Nat → Nat → Nat} (h : Secs w B A n F) (hm : m ≤ n) : Secs w B A m F := fun h0 => by
  obtain ⟨b, o, rfl, hl, hr⟩ := h (by omega)
  exact ⟨b, o, rfl, hl, fun i hi => hr i (by omega)⟩
theorem run_min3 (ts : Array TypeId) (t : TypeId) {x y n : Nat} (h : n = min (min x y) 62) (w : World) : (Builtin.min_ ts t #[.int .i64 (x : Int), .int .i64 (y : Int), .int .i64 62]).run Try.prog w = .ok (.int .i64 (n : Int)) w := by
  have e : (if (62 : Int) < (if (y : Int) < (x : Int) then (y : Int) else x) then (62 : Int) else (if (y : Int) < (x : Int) then (y : Int) else x)) = (n : Int) := by
    subst h
    split <;> split at * <;> omega
  rw [← e]
  simp [Builtin.min_, Builtin.min2]
section
variable {g : Nat} {t : TypeId}
/-- The cells vs laid into a row from place o on. -/
theorem blk_setCells {N : Nat} : ∀ (vs : List Value) (o : Nat) (w : World) (F : Nat → Value), Blk w g t (row N F) → o + vs.length ≤ N →
    Blk (w.setCells g o vs) g t (row N fun j => if o ≤ j ∧ j < o + vs.length then vs.getD (j - o) undef else F j) ∧ Below g w (w.setCells g o vs)
  | [], o, w, F, h, _ => by
    rw [World.setCells]
    refine ⟨?_, Below.refl _ _⟩
    rw [row_ext (g := F) fun j _ => if_neg (by rw [List.length_nil]; omega)]
    exact h
  | v :: r, o, w, F, h, hN => by
    rw [List.length_cons] at hN
    have h1 := h.setCell_same o v
    rw [row_set] at h1
    obtain ⟨h2, h3⟩ := blk_setCells r (o + 1) _ _ h1 (by omega)
    rw [World.setCells]
    refine ⟨?_, ((Below.refl g w).setCell (p := ⟨g, o, none⟩) (Nat.le_refl _) v).trans h3⟩
    rw [row_ext (g := fun j => if o ≤ j ∧ j < o + (v :: r).length then (v :: r).getD (j - o) undef else F j) fun j _ => ?_] at h2
    · exact h2
    · rw [List.length_cons]
      by_cases e : j = o
      · subst e
        rw [if_neg (by omega), if_pos rfl, if_pos (by omega), Nat.sub_self]; rfl
      · by_cases e2 : o + 1 ≤ j ∧ j < o + 1 + r.length
        · rw [if_pos e2, if_pos (by omega), show j - o = (j - (o + 1)) + 1 by omega, List.getD_cons_succ]
        · rw [if_neg e2, if_neg e, if_neg (by omega)]
end
/-- A row of three sectors, one of them turned. -/
def updS (X : Nat → Nat → Nat) (i : Nat) (f : Nat → Nat) : Nat → Nat → Nat := fun j => if j = i then f else X j
theorem blk_put {w : World} {g i : Nat} {t : TypeId} {X : Nat → Nat → Nat} {f : Nat → Nat} (h : Blk w g t (secs 3 X)) (hi : i < 3) :
    Blk (w.setCells g (i * 64) (sec f).toList) g t (secs 3 (updS X i f)) ∧ Below g w (w.setCells g (i * 64) (sec f).toList) := by
  have hl : (sec f).toList.length = 64 := by rw [Array.length_toList, size_sec]
  obtain ⟨h1, h2⟩ := blk_setCells (sec f).toList (i * 64) w (fun j => .int .u8 (X (j / 64) (j % 64))) h (by rw [hl]; omega)
  refine ⟨?_, h2⟩
  rw [row_ext (g := fun j => .int .u8 (updS X i f (j / 64) (j % 64))) fun j _ => ?_] at h1
  · exact h1
  · rw [hl]
    unfold updS
    by_cases e : i * 64 ≤ j ∧ j < i * 64 + 64
    · rw [if_pos e, if_pos (by omega), getD_sec_list (by omega), show j % 64 = j - i * 64 by omega]
    · rw [if_neg e, if_neg (by omega)]
section
variable {ops : Array Oper} {Q : Exit → Act → World → Prop} {a : Act} {w : World} {rest : List Oper} {dst : Option Tmp} {ty : TypeId} {pos : String} {after : Array Edge} {x y : Operand} {g i o : Nat} {X : Nat → Nat → Nat} {f : Nat → Nat}
/-- A sector into a row of three. -/
theorem strow (hx : a.eval x = .pointer (some ⟨g, o, none⟩)) (hy : a.eval y = .agg (sec f)) (ho : o = i * 64) (hi : i < 3) (hb : Blk w g 41 (secs 3 X))
    (h : ∀ w', Blk w' g 41 (secs 3 (updS X i f)) → Below g w w' → wpList Try.prog ops Q rest (a.put dst undef) w') :
    wpList Try.prog ops Q (⟨dst, .store 25 x y, ty, pos, after, none⟩ :: rest) a w := by
  subst ho
  obtain ⟨h1, h2⟩ := blk_put (f := f) hb hi
  refine wpList_store_mid rfl 25 x y rfl g (i * 64) (sec f) hx hy (fun j hj => ?_) (info_sec.trans (by rw [size_sec])) sec_one (h _ h1 h2)
  rw [size_sec] at hj
  refine ⟨?_, hb.frozen _⟩
  rw [hb.cell, show i * 64 + j = i * 64 + j from rfl, get_secs hi hj]
  rfl
end
/-- P, Q and the old data. -/
def xRow (p q o : Nat → Nat) : Nat → Nat → Nat
  | 0 => p
  | 1 => q
  | _ => o
theorem xRow_lt {p q o : Nat → Nat} (hp : ∀ k, p k < 256) (hq : ∀ k, q k < 256) (ho : ∀ k, o k < 256) : ∀ i k, xRow p q o i k < 256 := fun i k => by
  unfold xRow
  split
  · exact hp k
  · exact hq k
  · exact ho k
theorem mixF_lt {F G : Nat → Nat → Nat} (hF : ∀ i k, F i k < 256) (hG : ∀ i k, G i k < 256) (m : Nat) : ∀ i k, mixF m F G i k < 256 := fun i k => by
  unfold mixF
  split
  · exact hF i k
  · exact hG i k
theorem chg_mix {n i : Nat} {F G : Nat → Nat → Nat} (hi : i < n) : ∀ j, j < 3 → chg (xRow (PP (mixF (i + 1) F G) n) (QQ (mixF (i + 1) F G) n) (F i)) i (G i) j = xRow (PP (mixF i F G) n) (QQ (mixF i F G) n) (G i) j := fun j hj => by
  match j, hj with
  | 0, _ => exact funext fun k => mixF_P hi
  | 1, _ => exact funext fun k => mixF_Q hi
  | 2, _ => rfl
theorem alloc_row (w : World) : (Instr.alloc 41 true (.tuple #[])).run Try.prog w = .ok (.pointer (some ⟨w.heap.size, 0, none⟩)) (w.alloc (.cells (secs 3 z3) 41)) := by
  simp [Instr.alloc, Sem.run_bind, zero_row w, newVar, newRow, Value.cells]
section
variable {ops : Array Oper} {Q : Exit → Act → World → Prop} {a : Act} {w : World} {rest : List Oper} {dst : Option Tmp} {ty : TypeId} {pos : String} {after : Array Edge} {x : Operand} {g o : Nat} {X : Nat → Nat → Nat} {f : Nat → Nat} {C : World → Prop} {Qk : Act → Prop} {gd : Option (Nat × Bool)}
theorem gives_ldrow (hx : a.eval x = .pointer (some ⟨g, 0, none⟩)) (hb : Blk w g 41 (secs 3 X)) {R : World → Prop} (hR : R w) : Gives Try.prog ⟨dst, .load 41 x, ty, pos, after, gd⟩ a w (.agg (secs 3 X)) R :=
  gives_value (w' := w) (by
    have := run_loadVar_row (P := Try.prog) w g 41 41 (secs 3 X) (0, 0) _ hb Try.underlying41 rfl (info_row.trans (by rw [size_secs]))
    simp only [execOp, hx, Instr.loadAt, Instr.sureAddr, Sem.run_bind, this, Result.andThen_ok, Sem.run_pure]) hR
theorem gives_ldm (hx : a.eval x = .pointer (some ⟨g, o, none⟩)) (hb : w.rangeAt g o (sec f).toList) {R : World → Prop} (hR : R w) : Gives Try.prog ⟨dst, .load 25 x, ty, pos, after, gd⟩ a w (.agg (sec f)) R :=
  gives_value (w' := w) (by simp only [execOp, hx, Sem.run_bind, run_ldm hb, Result.andThen_ok, Sem.run_pure]) hR
theorem gives_strow {y : Operand} {Y : Nat → Nat → Nat} (hx : a.eval x = .pointer (some ⟨g, 0, none⟩)) (hy : a.eval y = .agg (secs 3 Y)) (hb : Blk w g 41 (secs 3 X)) {R : World → Prop} (hR : R (w.setRow g (secs 3 Y))) : Gives Try.prog ⟨dst, .store 41 x y, ty, pos, after, gd⟩ a w undef R :=
  gives_skip (w' := w.setRow g (secs 3 Y)) (by
    have := run_storeVar_row (P := Try.prog) w g 41 41 (secs 3 X) (secs 3 Y) hb (info_row.trans (by rw [size_secs])) (by rw [size_secs, size_secs]) secs_one
    simp only [execOp, hx, hy, Instr.storeAt, Instr.sureAddr, Sem.run_bind, this, Result.andThen_ok, Sem.run_pure]) hR
theorem ldmg (hwt : Region.wanted ⟨dst, .load 25 x, ty, pos, after, gd⟩ (yielded ops a.tmps) = true) (hx : a.eval x = .pointer (some ⟨g, o, none⟩)) (hb : w.rangeAt g o (sec f).toList)
    (h : wpList Try.prog ops Q rest (a.put dst (.agg (sec f))) w) : wpList Try.prog ops Q (⟨dst, .load 25 x, ty, pos, after, gd⟩ :: rest) a w := by
  unfold wpList
  rw [if_pos hwt]
  refine .inl ?_
  unfold Oper.wp execOp
  simp only [hx, Sem.run_bind, run_ldm hb, Result.andThen_ok, Sem.run_pure]
  exact h
end
/-- What an operation yields, where that hangs on nothing. -/
def xS (l : List (Option Value)) (j : Nat) (v : Value) : Prop := match l.getD j none with | some x => v = x | none => True
def xV (l : List (Option Value)) (j : Nat) : Value := (l.getD j none).getD undef
theorem xS_ok (l : List (Option Value)) (j : Nat) : xS l j (xV l j) := by
  unfold xS xV
  cases l.getD j none with
  | none => trivial
  | some x => rfl
/-- The variable that is made (operation 10), and what is stored into it (operation 11). -/
def aD (B : Nat) (Y : Nat → Nat → Nat) : Nat → (Nat → Value) → World → Prop
  | 10, vs, w => ∃ (g : Nat) (X : Nat → Nat → Nat), vs 10 = .pointer (some ⟨g, 0, none⟩) ∧ Blk w g 41 (secs 3 X) ∧ B ≤ g
  | 11, vs, w => ∃ g : Nat, vs 10 = .pointer (some ⟨g, 0, none⟩) ∧ Blk w g 41 (secs 3 Y) ∧ B ≤ g
  | _, _, _ => True
def aK (i : Nat) (vs : Nat → Value) (w w' : World) : Prop := Below w.heap.size w w' ∨ (i = 11 ∧ ∃ (g : Nat) (X Z : Nat → Nat → Nat), vs 10 = .pointer (some ⟨g, 0, none⟩) ∧ Blk w g 41 (secs 3 X) ∧ w' = w.setRow g (secs 3 Z))
theorem aD_keep {B i : Nat} {Y : Nat → Nat → Nat} {vs : Nat → Value} {w w' : World} (j : Nat) (hji : j ≠ i) (h : aD B Y j vs w) (hk : aK i vs w w') : aD B Y j vs w' := by
  unfold aD at h ⊢
  rcases hk with hb | ⟨rfl, g0, X0, Z, e0, b0, rfl⟩
  · split
    · obtain ⟨g, X, h1, h2, h3⟩ := h
      exact ⟨g, X, h1, h2.below hb h2.lt, h3⟩
    · obtain ⟨g, h1, h2, h3⟩ := h
      exact ⟨g, h1, h2.below hb h2.lt, h3⟩
    · trivial
  · split
    · obtain ⟨g, X, h1, h2, h3⟩ := h
      rw [h1] at e0
      cases e0
      exact ⟨_, Z, h1, h2.setRow_same _, h3⟩
    · exact absurd rfl hji
    · trivial
theorem aD_loc {L : Array Oper} (h1110 : Region.waitsFor .any L 11 10 = true) {B i : Nat} {Y : Nat → Nat → Nat} {vs : Nat → Value} {w : World} {v : Value} (j : Nat) (hji : j ≠ i) (hw : Region.waitsFor .any L j i = false) (h : aD B Y j vs w) : aD B Y j (updV vs i v) w := by
  unfold aD at h ⊢
  split
  · simp only [updV_ne _ _ hji]; exact h
  · have h10 : (10 : Nat) ≠ i := fun e => by subst e; rw [h1110] at hw; cases hw
    simp only [updV_ne _ _ h10]; exact h
  · trivial
theorem xRow_ext {p q o p' q' o' : Nat → Nat} (hp : ∀ k, p k = p' k) (hq : ∀ k, q k = q' k) (ho : ∀ k, o k = o' k) : secs 3 (xRow p q o) = secs 3 (xRow p' q' o') := by
  rw [funext hp, funext hq, funext ho]
set_option maxRecDepth 100000 in
theorem adds_none (A : Option Addr) (na ca : Nat) (B : Option Addr) (nb cb : Nat) (h : na = 0 ∨ nb = 0) (W : World) :
    Calls Try.prog 8 #[.slice A na ca, .slice B nb cb] W fun e w' => e = .returned (.bool true) ∧ Below W.heap.size W w' := by
  go_enter Try.func8, Try.ntmps8
  have hm := fun w => run_min3 #[3, 3, 3] 3 (x := na) (y := nb) (n := 0) (by omega) w
  clear h
  go_wp2_with fail
  refine (works_any _).mono ?_
  rintro e w1 ⟨rfl, h1⟩
  clear hm
  go_wp2_with fail
  go_ret
  exact ⟨rfl, h1⟩
set_option maxRecDepth 100000 in
set_option maxHeartbeats 600000 in
theorem adds_some (A : Option Addr) (na ca : Nat) (F : Nat → Nat → Nat) (B : Option Addr) (nb cb : Nat) (G : Nat → Nat → Nat) (hF : ∀ i k, F i k < 256) (hG : ∀ i k, G i k < 256) (hca : na ≤ ca) (hcam : ca ≤ maxLen) (hcb : nb ≤ cb) (hcbm : cb ≤ maxLen) (h1 : 1 ≤ na) (h2 : 1 ≤ nb) (W : World) (hA : Secs W W.heap.size A na F) (hB : Secs W W.heap.size B nb G) :
    Calls Try.prog 8 #[.slice A na ca, .slice B nb cb] W fun e w' => e = .returned (.bool true) ∧ Below W.heap.size W w' := by
  unfold maxLen at hcam hcbm
  have HF := hid hF
  have HG := hid hG
  have HA := hid hA
  have HB := hid hB
  obtain ⟨n, hn⟩ : ∃ n, n = min (min na nb) 62 := ⟨_, rfl⟩
  have hn1 : 1 ≤ n := by omega
  have hn62 : n ≤ 62 := by omega
  have hnna : n ≤ na := by omega
  have hnnb : n ≤ nb := by omega
  have HN := hid hn
  have hm := fun w => run_min3 #[3, 3, 3] 3 (x := na) (y := nb) (n := n) hn w
  clear hF hG hA hB hn
  go_enter Try.func8, Try.ntmps8
  go_upto_region 2 with fail
  clear hm
  have t0 : ((n : Int) == 0) = false := by rw [beq_eq_false_iff_ne]; omega
  go_wp2_with fail
  clear t0
  go_loopw [6, 7] (fun u v wr => ∃ (i : Nat) (vs : Value), i ≤ n ∧ v = .int .i64 i ∧ u = vs ∧ Hid (OwnS wr W.heap.size vs i (sumF F G)) ∧ Hid (Below W.heap.size W wr)) (fun _ v _ => n - (intOf v).toNat)
  case atStart => exact ⟨0, _, by omega, rfl, rfl, hid (by unfold OwnS; rw [show (secs 0 (sumF F G)).toList = [] from List.eq_nil_of_length_eq_zero (by rw [Array.length_toList, size_secs])]; exact World.ownsRow_nil W _ _ _), hid (Below.refl _ _)⟩
  case round =>
    obtain ⟨i, vs, hi, rfl, rfl, ho, hb⟩ := hrel
    by_cases hlt : i < n
    · have ti : (i : Int) < (n : Int) := by omega
      have tia : (i : Int) < (na : Int) := by omega
      obtain ⟨ba, oa, rfl, hba, hra⟩ := HA.out (by omega)
      obtain ⟨bb, ob, rfl, hbb, hrb⟩ := HB.out (by omega)
      have ra := rangeAt_below (hra i (by omega)) hb.out hba
      have RB := hid (hrb i (by omega))
      have HBB := hid hbb
      clear hra hrb
      go_upto_region 9 with (first | ((with_reducible apply ldm); rfl; exact ra) | ((with_reducible apply stx); rfl; rfl; exact Blk.top zlit rfl))
      generalize hw2 : World.setRow _ _ _ = w2
      obtain ⟨g8, hg8⟩ : ∃ g, g = wr.heap.size := ⟨_, rfl⟩
      have c8 : Blk w2 g8 25 (sec (upto 0 (F i) (sumF F G i))) := by rw [← hw2, hg8, upto_zero]; exact (Blk.top zlit rfl).setRow_same _
      have b2 : Below wr.heap.size wr w2 := by rw [← hw2]; exact below_setRow ((Below.refl _ _).alloc (Nat.le_refl _) _) (Nat.le_refl _) _
      have hne : u6.ownBlock ≠ some g8 := fun e => by have := (World.ownsRow.lt ho.out g8 e).2; omega
      have hWg : W.heap.size ≤ g8 := by rw [hg8]; exact hb.out.size
      rw [← hg8]
      have HNE := hid hne
      have O2 := hid (OwnS.below ho.out b2 (Nat.le_refl _))
      have B2 := hid (hb.out.trans (b2.mono hb.out.size))
      have C8 := hid c8
      clear hw2 c8 b2 hne ra ho hb hbb hba hg8
      go_wp2_with fail
      have tib : (i : Int) < (nb : Int) := by omega
      go_loopw [9] (fun v wk => ∃ k : Nat, k ≤ 64 ∧ v = .int .i64 k ∧ Hid (Blk wk g8 25 (sec (upto k (F i) (sumF F G i)))) ∧ Hid (OwnS wk W.heap.size u6 i (sumF F G)) ∧ Hid (Below W.heap.size W wk)) (fun v _ => 64 - (intOf v).toNat)
      case atStart => exact ⟨0, by omega, rfl, C8, O2, B2⟩
      case round =>
        clear C8 O2 B2
        obtain ⟨k, hk, rfl, q8, qo, hb⟩ := hrel
        by_cases hk2 : k < 64
        · have tk : (k : Int) < 64 := by omega
          have Q8 := hid ((q8.out.cell k).trans (get_sec hk2))
          rw [upto_at] at Q8
          have QB := hid (show wr.cell? ⟨bb, ob + i * 64 + k, none⟩ = some (.int .u8 (G i k : Nat)) from rangeAt_below RB.out hb.out HBB.out k _ (by rw [Array.getElem?_toList]; exact get_sec hk2))
          have EX := hid (u8_xor_nat (F i k) (G i k) (HF.out i k) (HG.out i k))
          have SL := HF.out i k
          go_wp2_with fail
          refine wp_region_tail (C := Drew wr) 11 (by kernel_rfl) (by kernel_rfl) (by kernel_rfl) (Drew.refl _) ?_
          simp only [List.take_succ_cons, List.take_zero, List.drop_succ_cons, List.drop_zero]
          apply wpK_val
          · rfl
          · intro w' hw'
            go_simp
            first | exact rfl | exact ⟨rfl, hw'⟩
          simp only [Act.put, List.setIfInBounds_toArray, List.set_cons_succ, List.set_cons_zero]
          apply wpK_val
          · rfl
          · intro w' hw'
            go_simp
            first | exact rfl | exact ⟨rfl, hw'⟩
          simp only [Act.put, List.setIfInBounds_toArray, List.set_cons_succ, List.set_cons_zero]
          apply wpK_val
          · rfl
          · intro w' hw'
            have hcell := hw'.cell Q8.out
            go_simp
            first | exact rfl | exact ⟨rfl, hw'⟩
          simp only [Act.put, List.setIfInBounds_toArray, List.set_cons_succ, List.set_cons_zero]
          apply wpK_val
          · rfl
          · intro w' hw'
            go_simp
            first | exact rfl | exact ⟨rfl, hw'⟩
          simp only [Act.put, List.setIfInBounds_toArray, List.set_cons_succ, List.set_cons_zero]
          apply wpK_val
          · rfl
          · intro w' hw'
            go_simp
            first | exact rfl | exact ⟨rfl, hw'⟩
          simp only [Act.put, List.setIfInBounds_toArray, List.set_cons_succ, List.set_cons_zero]
          apply wpK_val
          · rfl
          · intro w' hw'
            go_simp
            first | exact rfl | exact ⟨rfl, hw'⟩
          simp only [Act.put, List.setIfInBounds_toArray, List.set_cons_succ, List.set_cons_zero]
          apply wpK_val
          · rfl
          · intro w' hw'
            go_simp
            first | exact rfl | exact ⟨rfl, hw'⟩
          simp only [Act.put, List.setIfInBounds_toArray, List.set_cons_succ, List.set_cons_zero]
          apply wpK_val
          · rfl
          · intro w' hw'
            go_simp
            first | exact rfl | exact ⟨rfl, hw'⟩
          simp only [Act.put, List.setIfInBounds_toArray, List.set_cons_succ, List.set_cons_zero]
          apply wpK_val
          · rfl
          · intro w' hw'
            have hcell := hw'.cell QB.out
            go_simp
            first | exact rfl | exact ⟨rfl, hw'⟩
          simp only [Act.put, List.setIfInBounds_toArray, List.set_cons_succ, List.set_cons_zero]
          apply wpK_val
          · rfl
          · intro w' hw'
            have h1 : _ := EX.out
            go_simp
            first | exact rfl | exact ⟨rfl, hw'⟩
          simp only [Act.put, List.setIfInBounds_toArray, List.set_cons_succ, List.set_cons_zero]
          apply wpK_val
          · rfl
          · intro w' hw'
            go_simp
            first | exact rfl | exact ⟨rfl, hw'⟩
          simp only [Act.put, List.setIfInBounds_toArray, List.set_cons_succ, List.set_cons_zero]
          refine wpK_nil fun w5 hw5 => ?_
          have r8 := hid (hw5.blk q8.out)
          have ro := hid (show OwnS w5 W.heap.size u6 i (sumF F G) from ⟨qo.out.1, by
            rcases qo.out.2 with h' | ⟨g, cap, cur, hv, hB, hg, hr⟩
            · exact .inl h'
            · exact .inr ⟨g, cap, cur, hv, hB, by rw [hw5.heap]; exact hg, hr⟩⟩)
          have rb := hid (hw5.below hb.out)
          have c8' := (r8.out.cell k).trans (get_sec hk2)
          have f8 := r8.out.frozen k
          clear q8 qo hb Q8 QB EX hw5
          go_wp2_with fail
          go_roundw
          case rel => exact ⟨k + 1, by omega, by go_num, hid (upto_step (r8.out.setCell_same _ _)), hid (owns_other ro.out HNE.out), hid (rb.out.setCell (p := ⟨g8, k, none⟩) hWg _)⟩
          case measure => simp [intOf]; omega
        · have tk : decide ((k : Int) < 64) = false := by simp; omega
          have c8 := q8.out
          rw [upto_all (by omega)] at c8
          have OA := hid qo.out
          have BA := hid hb.out
          clear q8 qo hb
          have hBz := BA.out.size
          have own0 : OwnS (World.alloc wr (.cells (secs 1 fun j => [sumF F G i].getD j fun _ => 0) 25)) W.heap.size u6 i (sumF F G) := World.ownsRow.alloc OA.out _
          have sec0 : Secs (World.alloc wr (.cells (secs 1 fun j => [sumF F G i].getD j fun _ => 0) 25)) (wr.heap.size + 1) (some ⟨wr.heap.size, 0, none⟩) 1 (fun j => [sumF F G i].getD j fun _ => 0) := secs_Secs (Blk.new _ _ _) (Nat.lt_succ_self _)
          have sz0 : W.heap.size ≤ (World.alloc wr (.cells (secs 1 fun j => [sumF F G i].getD j fun _ => 0) 25)).heap.size := by rw [World.size_alloc]; omega
          have OWN0 := hid own0
          have SEC0 := hid sec0
          have SZ0 := hid sz0
          clear own0 sec0 sz0
          go_wp2_with (first | ((with_reducible apply ld); rfl; exact c8) | ((with_reducible apply wlit (fun j => [sumF F G i].getD j fun _ => 0) [sumF F G i]); rfl; rfl; exact Nat.succ_pos _; exact (by decide : 1 ≤ 1000); rfl) | ((with_reducible apply wapp (v := u6)); rfl; rfl; exact OWN0.out; exact SEC0.out; omega; exact SZ0.out; intro v3 w3 own grow hnil))
          have b3 := hid ((BA.out.alloc hBz (.cells (secs 1 fun j => [sumF F G i].getD j fun _ => 0) 25)).grown grow (by simp; omega) fun g h => (World.ownsRow.lt OA.out g h).1)
          have o3 := hid (own.mono (G := sumF F G) fun j q hj _ => by
            unfold catF
            by_cases h : j < i
            · rw [if_pos h]
            · rw [if_neg h, show j - i = 0 by omega, show j = i by omega]; rfl)
          clear own grow hnil OA BA c8
          go_roundw
          case rel => first | exact ⟨i + 1, _, by omega, by go_num, rfl, o3, b3⟩ | ((repeat apply Exists.intro); exact ⟨⟨i + 1, _, by omega, rfl, rfl, o3, b3⟩, rfl⟩)
          case measure => simp [intOf]; omega
    · have ti : decide ((i : Int) < (n : Int)) = false := by simp; omega
      obtain rfl : i = n := by omega
      have hv : u6 ≠ .slice none 0 0 := fun e => by
        have h := ho.out
        rw [e] at h
        rcases h.2 with ⟨_, h0⟩ | ⟨g, cap, cur, h0, _⟩
        · omega
        · cases h0
      obtain ⟨g6, c6, e6, hg6, hg6l, hc6, _⟩ := OwnS.form ho.out hv
      subst e6
      have O6 := hid ho.out
      have BW := hid hb.out
      clear ho hb hv
      have SA := hid (((HA.out.fewer hnna).below BW.out (Nat.le_refl _)).more BW.out.size)
      have tca : (i : Int) ≤ (ca : Int) := by omega
      have tcb : (i : Int) ≤ (cb : Int) := by omega
      go_wp2_with fail
      refine (of_some A i ca F HF.out (by omega) hn62 wr SA.out).mono ?_
      rintro e w3 ⟨rfl, h3⟩
      obtain ⟨p, hp⟩ : ∃ p, p = PP F i := ⟨_, rfl⟩
      obtain ⟨q, hq⟩ : ∃ q, q = QQ F i := ⟨_, rfl⟩
      rw [← hp, ← hq]
      have HP := hid hp
      have HQ := hid hq
      clear hp hq
      have Bw3 := hid (BW.out.trans (h3.mono BW.out.size))
      have O6 := hid (OwnS.below O6.out h3 (Nat.le_refl _))
      clear h3 SA BW
      go_upto_region 15 with (first | ((with_reducible apply stx); rfl; rfl; exact (Blk.top zlit rfl).alloc _) | ((with_reducible apply stx); rfl; rfl; exact (Blk.top zlit (by simp)).setRow_other (by omega) _))
      generalize hwn : World.setRow (World.setRow (World.alloc (World.alloc w3 _) _) _ _) _ _ = w4
      have hz := Bw3.out.size
      obtain ⟨g10, hg10⟩ : ∃ g, g = w3.heap.size := ⟨_, rfl⟩
      obtain ⟨g11, hg11⟩ : ∃ g, g = w3.heap.size + 1 := ⟨_, rfl⟩
      have Pg10 := hid (show Blk w4 g10 25 (sec p) by rw [← hwn, hg10]; exact (((Blk.top zlit rfl).alloc _).setRow_same _).setRow_other (by omega) _)
      have Pg11 := hid (show Blk w4 g11 25 (sec q) by rw [← hwn, hg11]; exact ((Blk.top zlit (by simp)).setRow_other (by omega) _).setRow_same _)
      have hbn : Below w3.heap.size w3 w4 := by rw [← hwn]; exact below_setRow (below_setRow (((Below.refl _ _).alloc (Nat.le_refl _) _).alloc (by simp) _) (Nat.le_refl _) _) (by omega) _
      rw [← hg11, ← hg10]
      have Bw4 := hid (Bw3.out.trans (hbn.mono hz))
      have O6 := hid (OwnS.below O6.out hbn (Nat.le_refl _))
      clear hwn hbn hz hg10 hg11 Bw3
      have SB := hid (((HB.out.fewer hnnb).below Bw4.out (Nat.le_refl _)).more Bw4.out.size)
      go_wp2_with fail
      refine (of_some B i cb G HG.out (by omega) hn62 w4 SB.out).mono ?_
      rintro e w5 ⟨rfl, h5⟩
      obtain ⟨r, hr⟩ : ∃ r, r = PP G i := ⟨_, rfl⟩
      obtain ⟨s, hs⟩ : ∃ s, s = QQ G i := ⟨_, rfl⟩
      rw [← hr, ← hs]
      have HR := hid hr
      have HS := hid hs
      have Bw5 := hid (Bw4.out.trans (h5.mono Bw4.out.size))
      have O6 := hid (OwnS.below O6.out h5 (Nat.le_refl _))
      have Pg10 := hid (Pg10.out.below h5 Pg10.out.lt)
      have Pg11 := hid (Pg11.out.below h5 Pg11.out.lt)
      clear h5 SB Bw4 hr hs
      go_upto_region 16 with (first | ((with_reducible apply stx); rfl; rfl; exact (Blk.top zlit rfl).alloc _) | ((with_reducible apply stx); rfl; rfl; exact (Blk.top zlit (by simp)).setRow_other (by omega) _))
      generalize hwn : World.setRow (World.setRow (World.alloc (World.alloc w5 _) _) _ _) _ _ = w6
      have hz := Bw5.out.size
      obtain ⟨g13, hg13⟩ : ∃ g, g = w5.heap.size := ⟨_, rfl⟩
      obtain ⟨g14, hg14⟩ : ∃ g, g = w5.heap.size + 1 := ⟨_, rfl⟩
      have Pg13 := hid (show Blk w6 g13 25 (sec r) by rw [← hwn, hg13]; exact (((Blk.top zlit rfl).alloc _).setRow_same _).setRow_other (by omega) _)
      have Pg14 := hid (show Blk w6 g14 25 (sec s) by rw [← hwn, hg14]; exact ((Blk.top zlit (by simp)).setRow_other (by omega) _).setRow_same _)
      have hbn : Below w5.heap.size w5 w6 := by rw [← hwn]; exact below_setRow (below_setRow (((Below.refl _ _).alloc (Nat.le_refl _) _).alloc (by simp) _) (Nat.le_refl _) _) (by omega) _
      rw [← hg14, ← hg13]
      have Bw6 := hid (Bw5.out.trans (hbn.mono hz))
      have Pg10 := hid (Pg10.out.below hbn Pg10.out.lt)
      have Pg11 := hid (Pg11.out.below hbn Pg11.out.lt)
      have O6 := hid (OwnS.below O6.out hbn (Nat.le_refl _))
      clear hwn hbn hz hg13 hg14 Bw5
      have SS := hid (OwnS.secs O6.out).1
      go_wp2_with fail
      refine (of_some (some ⟨g6, 0, none⟩) i c6 (sumF F G) (sumF_lt HF.out HG.out) (by omega) hn62 w6 SS.out).mono ?_
      rintro e w7 ⟨rfl, h7⟩
      obtain ⟨t, ht⟩ : ∃ t, t = PP (sumF F G) i := ⟨_, rfl⟩
      obtain ⟨u, hu⟩ : ∃ u, u = QQ (sumF F G) i := ⟨_, rfl⟩
      rw [← ht, ← hu]
      have HT := hid (show ∀ k, t k = p k ^^^ r k from fun k => by rw [ht, HP.out, HR.out]; exact PP_sum i)
      have HU := hid (show ∀ k, u k = q k ^^^ s k from fun k => by rw [hu, HQ.out, HS.out]; exact QQ_sum i)
      have Bw7 := hid (Bw6.out.trans (h7.mono Bw6.out.size))
      have Pg10 := hid (Pg10.out.below h7 Pg10.out.lt)
      have Pg11 := hid (Pg11.out.below h7 Pg11.out.lt)
      have Pg13 := hid (Pg13.out.below h7 Pg13.out.lt)
      have Pg14 := hid (Pg14.out.below h7 Pg14.out.lt)
      clear h7 SS Bw6 ht hu O6
      go_upto_region 17 with (first | ((with_reducible apply stx); rfl; rfl; exact (Blk.top zlit rfl).alloc _) | ((with_reducible apply stx); rfl; rfl; exact (Blk.top zlit (by simp)).setRow_other (by omega) _))
      generalize hwn : World.setRow (World.setRow (World.alloc (World.alloc w7 _) _) _ _) _ _ = w8
      have hz := Bw7.out.size
      obtain ⟨g16, hg16⟩ : ∃ g, g = w7.heap.size := ⟨_, rfl⟩
      obtain ⟨g17, hg17⟩ : ∃ g, g = w7.heap.size + 1 := ⟨_, rfl⟩
      have Pg16 := hid (show Blk w8 g16 25 (sec t) by rw [← hwn, hg16]; exact (((Blk.top zlit rfl).alloc _).setRow_same _).setRow_other (by omega) _)
      have Pg17 := hid (show Blk w8 g17 25 (sec u) by rw [← hwn, hg17]; exact ((Blk.top zlit (by simp)).setRow_other (by omega) _).setRow_same _)
      have hbn : Below w7.heap.size w7 w8 := by rw [← hwn]; exact below_setRow (below_setRow (((Below.refl _ _).alloc (Nat.le_refl _) _).alloc (by simp) _) (Nat.le_refl _) _) (by omega) _
      rw [← hg17, ← hg16]
      have Bw8 := hid (Bw7.out.trans (hbn.mono hz))
      have Pg10 := hid (Pg10.out.below hbn Pg10.out.lt)
      have Pg11 := hid (Pg11.out.below hbn Pg11.out.lt)
      have Pg13 := hid (Pg13.out.below hbn Pg13.out.lt)
      have Pg14 := hid (Pg14.out.below hbn Pg14.out.lt)
      clear hwn hbn hz hg16 hg17 Bw7
      have LP := hid (show ∀ k, p k < 256 from fun k => by rw [HP.out]; exact PP_lt HF.out i k)
      have LQ := hid (show ∀ k, q k < 256 from fun k => by rw [HQ.out]; exact QQ_lt i k)
      have LR := hid (show ∀ k, r k < 256 from fun k => by rw [HR.out]; exact PP_lt HG.out i k)
      have LS := hid (show ∀ k, s k < 256 from fun k => by rw [HS.out]; exact QQ_lt i k)
      go_wp2_with fail
      go_loopw [19] (fun v wr => ∃ k : Nat, k ≤ 64 ∧ v = .int .i64 k ∧ Hid (Drew w8 wr ∨ wr = w8)) (fun v _ => 64 - (intOf v).toNat)
      case atStart => exact ⟨0, by omega, rfl, hid (.inr rfl)⟩
      case round =>
        obtain ⟨k, hk, rfl, hw⟩ := hrel
        have blk := hid (show ∀ (g : Nat) (t : TypeId) (cs : Array Value), Blk w8 g t cs → Blk wr g t cs from fun g t cs hc => by
          rcases hw.out with h | h
          · exact h.blk hc
          · rw [h]; exact hc)
        have HB8 := hid (show Below W.heap.size W wr by
          rcases hw.out with h | h
          · exact h.below Bw8.out
          · rw [h]; exact Bw8.out)
        by_cases hk2 : k < 64
        · have tk : (k : Int) < 64 := by omega
          have Qp := hid (((blk.out _ _ _ Pg10.out).cell k).trans (get_sec hk2))
          have Qq := hid (((blk.out _ _ _ Pg11.out).cell k).trans (get_sec hk2))
          have Qr := hid (((blk.out _ _ _ Pg13.out).cell k).trans (get_sec hk2))
          have Qs := hid (((blk.out _ _ _ Pg14.out).cell k).trans (get_sec hk2))
          have Qt := hid (((blk.out _ _ _ Pg16.out).cell k).trans (get_sec hk2))
          have Qu := hid (((blk.out _ _ _ Pg17.out).cell k).trans (get_sec hk2))
          rw [HT.out k] at Qt
          rw [HU.out k] at Qu
          have E1 := hid (u8_xor_nat (p k) (r k) (LP.out k) (LR.out k))
          have E2 := hid (u8_xor_nat (q k) (s k) (LQ.out k) (LS.out k))
          go_wp2_with fail
          refine wp_region_tail (C := Drew wr) 24 (by kernel_rfl) (by kernel_rfl) (by kernel_rfl) (Drew.refl _) ?_
          simp only [List.take_succ_cons, List.take_zero, List.drop_succ_cons, List.drop_zero]
          apply wpK_val
          · rfl
          · intro w' hw'
            go_simp
            first | exact rfl | exact ⟨rfl, hw'⟩
          simp only [Act.put, List.setIfInBounds_toArray, List.set_cons_succ, List.set_cons_zero]
          apply wpK_val
          · rfl
          · intro w' hw'
            go_simp
            first | exact rfl | exact ⟨rfl, hw'⟩
          simp only [Act.put, List.setIfInBounds_toArray, List.set_cons_succ, List.set_cons_zero]
          apply wpK_val
          · rfl
          · intro w' hw'
            have hcell := hw'.cell Qp.out
            go_simp
            first | exact rfl | exact ⟨rfl, hw'⟩
          simp only [Act.put, List.setIfInBounds_toArray, List.set_cons_succ, List.set_cons_zero]
          apply wpK_val
          · rfl
          · intro w' hw'
            go_simp
            first | exact rfl | exact ⟨rfl, hw'⟩
          simp only [Act.put, List.setIfInBounds_toArray, List.set_cons_succ, List.set_cons_zero]
          apply wpK_val
          · rfl
          · intro w' hw'
            go_simp
            first | exact rfl | exact ⟨rfl, hw'⟩
          simp only [Act.put, List.setIfInBounds_toArray, List.set_cons_succ, List.set_cons_zero]
          apply wpK_val
          · rfl
          · intro w' hw'
            have hcell := hw'.cell Qr.out
            go_simp
            first | exact rfl | exact ⟨rfl, hw'⟩
          simp only [Act.put, List.setIfInBounds_toArray, List.set_cons_succ, List.set_cons_zero]
          apply wpK_val
          · rfl
          · intro w' hw'
            have h1 : _ := E1.out
            go_simp
            first | exact rfl | exact ⟨rfl, hw'⟩
          simp only [Act.put, List.setIfInBounds_toArray, List.set_cons_succ, List.set_cons_zero]
          apply wpK_val
          · rfl
          · intro w' hw'
            go_simp
            first | exact rfl | exact ⟨rfl, hw'⟩
          simp only [Act.put, List.setIfInBounds_toArray, List.set_cons_succ, List.set_cons_zero]
          apply wpK_val
          · rfl
          · intro w' hw'
            go_simp
            first | exact rfl | exact ⟨rfl, hw'⟩
          simp only [Act.put, List.setIfInBounds_toArray, List.set_cons_succ, List.set_cons_zero]
          apply wpK_val
          · rfl
          · intro w' hw'
            have hcell := hw'.cell Qt.out
            go_simp
            first | exact rfl | exact ⟨rfl, hw'⟩
          simp only [Act.put, List.setIfInBounds_toArray, List.set_cons_succ, List.set_cons_zero]
          apply wpK_val
          · rfl
          · intro w' hw'
            go_simp
            first | exact rfl | exact ⟨rfl, hw'⟩
          simp only [Act.put, List.setIfInBounds_toArray, List.set_cons_succ, List.set_cons_zero]
          apply wpK_val
          · rfl
          · intro w' hw'
            go_simp
            first | exact rfl | exact ⟨rfl, hw'⟩
          simp only [Act.put, List.setIfInBounds_toArray, List.set_cons_succ, List.set_cons_zero]
          apply wpK_val
          · rfl
          · intro w' hw'
            go_simp
            first | exact rfl | exact ⟨rfl, hw'⟩
          simp only [Act.put, List.setIfInBounds_toArray, List.set_cons_succ, List.set_cons_zero]
          apply wpK_val
          · rfl
          · intro w' hw'
            go_simp
            first | exact rfl | exact ⟨rfl, hw'⟩
          simp only [Act.put, List.setIfInBounds_toArray, List.set_cons_succ, List.set_cons_zero]
          apply wpK_val
          · rfl
          · intro w' hw'
            have hcell := hw'.cell Qq.out
            go_simp
            first | exact rfl | exact ⟨rfl, hw'⟩
          simp only [Act.put, List.setIfInBounds_toArray, List.set_cons_succ, List.set_cons_zero]
          apply wpK_val
          · rfl
          · intro w' hw'
            go_simp
            first | exact rfl | exact ⟨rfl, hw'⟩
          simp only [Act.put, List.setIfInBounds_toArray, List.set_cons_succ, List.set_cons_zero]
          apply wpK_val
          · rfl
          · intro w' hw'
            go_simp
            first | exact rfl | exact ⟨rfl, hw'⟩
          simp only [Act.put, List.setIfInBounds_toArray, List.set_cons_succ, List.set_cons_zero]
          apply wpK_val
          · rfl
          · intro w' hw'
            have hcell := hw'.cell Qs.out
            go_simp
            first | exact rfl | exact ⟨rfl, hw'⟩
          simp only [Act.put, List.setIfInBounds_toArray, List.set_cons_succ, List.set_cons_zero]
          apply wpK_val
          · rfl
          · intro w' hw'
            have h1 : _ := E2.out
            go_simp
            first | exact rfl | exact ⟨rfl, hw'⟩
          simp only [Act.put, List.setIfInBounds_toArray, List.set_cons_succ, List.set_cons_zero]
          apply wpK_val
          · rfl
          · intro w' hw'
            go_simp
            first | exact rfl | exact ⟨rfl, hw'⟩
          simp only [Act.put, List.setIfInBounds_toArray, List.set_cons_succ, List.set_cons_zero]
          apply wpK_val
          · rfl
          · intro w' hw'
            go_simp
            first | exact rfl | exact ⟨rfl, hw'⟩
          simp only [Act.put, List.setIfInBounds_toArray, List.set_cons_succ, List.set_cons_zero]
          apply wpK_val
          · rfl
          · intro w' hw'
            have hcell := hw'.cell Qu.out
            go_simp
            first | exact rfl | exact ⟨rfl, hw'⟩
          simp only [Act.put, List.setIfInBounds_toArray, List.set_cons_succ, List.set_cons_zero]
          apply wpK_val
          · rfl
          · intro w' hw'
            go_simp
            first | exact rfl | exact ⟨rfl, hw'⟩
          simp only [Act.put, List.setIfInBounds_toArray, List.set_cons_succ, List.set_cons_zero]
          apply wpK_val
          · rfl
          · intro w' hw'
            go_simp
            first | exact rfl | exact ⟨rfl, hw'⟩
          simp only [Act.put, List.setIfInBounds_toArray, List.set_cons_succ, List.set_cons_zero]
          refine wpK_nil fun w5 hw5 => ?_
          go_wp2_with fail
          go_roundw
          case rel =>
            refine ⟨k + 1, by omega, by go_num, hid (.inl ?_)⟩
            rcases hw.out with h | h
            · obtain ⟨a, ha⟩ := h
              obtain ⟨b, hb⟩ := hw5
              exact ⟨a + b, by rw [hb, ha]; simp⟩
            · rw [← h]; exact hw5
          case measure => simp [intOf]; omega
        · have tk : decide ((k : Int) < 64) = false := by simp; omega
          have P10 := blk.out _ _ _ Pg10.out
          have P11 := blk.out _ _ _ Pg11.out
          have R13 := hid (blk.out _ _ _ Pg13.out)
          have S14 := hid (blk.out _ _ _ Pg14.out)
          clear Pg10 Pg11 Pg13 Pg14 Pg16 Pg17 hw blk HT HU
          go_upto_region 25 with (first | ((with_reducible apply ld); rfl; exact P10) | ((with_reducible apply ld); rfl; exact P11) | ((with_reducible apply bldr (xRow p q fun _ => 0) 0 [p, q]); exact (by decide : 0 + 2 ≤ 3); (intro j k hj _; match j, hj with | 0, _ => rfl | 1, _ => rfl | 2, _ => rfl); rfl) | ((with_reducible apply str); rfl; rfl; exact Blk.top rfl rfl))
          generalize hwn : World.setRow _ _ _ = w9
          have hz8 := HB8.out.size
          obtain ⟨g20, hg20⟩ : ∃ g, g = wr.heap.size := ⟨_, rfl⟩
          have X20 := hid (show Blk w9 g20 41 (secs 3 (xRow (PP (mixF i F G) i) (QQ (mixF i F G) i) fun _ => 0)) by
            rw [xRow_ext (p' := p) (q' := q) (o' := fun _ => 0) (fun k => by rw [HP.out]; exact mixF_all.1) (fun k => by rw [HQ.out]; exact mixF_all.2) (fun _ => rfl), ← hwn, hg20]
            exact (Blk.top rfl rfl).setRow_same _)
          have hb9 : Below wr.heap.size wr w9 := by rw [← hwn]; exact below_setRow ((Below.refl _ _).alloc (Nat.le_refl _) _) (Nat.le_refl _) _
          have B9 := hid (HB8.out.trans (hb9.mono hz8))
          have R13 := hid (R13.out.below hb9 R13.out.lt)
          have S14 := hid (S14.out.below hb9 S14.out.lt)
          have L13 : g13 < g20 := by rw [hg20]; exact (by assumption : Hid (Blk wr g13 25 (sec r))).out.lt
          have L14 : g14 < g20 := by rw [hg20]; exact (by assumption : Hid (Blk wr g14 25 (sec s))).out.lt
          have hWg : W.heap.size ≤ g20 := by rw [hg20]; exact hz8
          rw [← hg20]
          clear hwn hb9 hz8 hg20 P10 P11 HB8
          go_wp2_with fail
          go_loopw [21] (fun v wq => ∃ (m : Nat) (z : Int) (o : Nat → Nat), m ≤ i ∧ v = .int .i64 z ∧ Hid (z = (m : Int) - 1) ∧ Hid (Blk wq g20 41 (secs 3 (xRow (PP (mixF m F G) i) (QQ (mixF m F G) i) o))) ∧ Hid (Blk wq g13 25 (sec r)) ∧ Hid (Blk wq g14 25 (sec s)) ∧ Hid (Below W.heap.size W wq)) (fun v _ => (intOf v + 1).toNat)
          case atStart => exact ⟨i, (i : Int) - 1, _, by omega, rfl, hid rfl, X20, R13, S14, B9⟩
          case round =>
            obtain ⟨m, z, o, hm, rfl, hz, hx, hr13, hs14, hb⟩ := hrel
            rcases m with _ | j
            · obtain rfl : z = -1 := by have := hz.out; omega
              have x0 := hx.out
              rw [xRow_ext (p' := r) (q' := s) (o' := o) (fun k => by rw [HR.out]; exact mixF_none.1) (fun k => by rw [HS.out]; exact mixF_none.2) (fun _ => rfl)] at x0
              have r0 := range_secs (i := 0) x0 (by decide)
              have r1 := range_secs (i := 1) x0 (by decide)
              rw [show 0 + 0 * 64 = 0 from rfl, show xRow r s o 0 = r from rfl] at r0
              rw [show 0 + 1 * 64 = 64 from rfl, show xRow r s o 1 = s from rfl] at r1
              have r13 := hr13.out
              have s14 := hs14.out
              have e1 := eqS_yes (f := r) (g := r) fun _ _ => rfl
              have e2 := eqS_yes (f := s) (g := s) fun _ _ => rfl
              have HBW := hid hb.out
              clear hx hr13 hs14 hb x0
              go_wp2_with (first | ((with_reducible apply ldm); rfl; exact r0) | ((with_reducible apply ld); rfl; exact r13) | ((with_reducible apply ldmg); rfl; rfl; exact r1) | ((with_reducible apply ldg); rfl; rfl; exact s14))
              clear r0 r1 r13 s14 e1 e2
              refine (works_any _).mono ?_
              rintro e wz ⟨rfl, hz⟩
              have bz := HBW.out.trans (hz.mono HBW.out.size)
              clear hz
              go_wp2_with fail
              go_ret
              exact ⟨rfl, bz⟩
            · obtain rfl : z = (j : Int) := by have := hz.out; omega
              have tja : (j : Int) < (na : Int) := by omega
              have tjb : (j : Int) < (nb : Int) := by omega
              have t0 : (0 : Int) ≤ (j : Int) := by omega
              obtain ⟨ba, oa, rfl, hba, hra⟩ := HA.out (by omega)
              obtain ⟨bb, ob, rfl, hbb, hrb⟩ := HB.out (by omega)
              have ra := rangeAt_below (hra j (by omega)) hb.out hba
              have RB := hid (hrb j (by omega))
              have HBB := hid hbb
              have x0 := hx.out
              clear hra hrb hba hx
              go_upto_region 29 with (first | ((with_reducible apply ldm); rfl; exact ra) | ((with_reducible apply strow (i := 2)); rfl; rfl; rfl; exact (by decide : 2 < 3); exact x0; intro w2 x2 hb2))
              have hW2 := hb2.mono hWg
              have x3 := hid (show Blk w2 g20 41 (secs 3 (xRow (PP (mixF (j + 1) F G) i) (QQ (mixF (j + 1) F G) i) (F j))) by
                rw [secs_ext (G := updS (xRow (PP (mixF (j + 1) F G) i) (QQ (mixF (j + 1) F G) i) o) 2 (F j)) fun a k ha _ => ?_]
                · exact x2
                · unfold updS
                  match a, ha with
                  | 0, _ => rfl
                  | 1, _ => rfl
                  | 2, _ => rfl)
              have B2 := hid (hb.out.trans hW2)
              have R2 := hid (hr13.out.below hb2 L13)
              have S2 := hid (hs14.out.below hb2 L14)
              have XL := hid (xRow_lt (o := F j) (PP_lt (mixF_lt HF.out HG.out (j + 1)) i) (fun k => QQ_lt (F := mixF (j + 1) F G) i k) (HF.out j))
              have hbb2 : bb < w2.heap.size := Nat.lt_of_lt_of_le HBB.out B2.out.size
              have RB2 := hid (rangeAt_below RB.out B2.out HBB.out)
              clear x0 x2 hb2 hW2 ra hb hr13 hs14 RB
              refine wp_region_rel (S := xS [some (.agg (secs 3 (xRow (PP (mixF (j + 1) F G) i) (QQ (mixF (j + 1) F G) i) (F j)))), some (.int .i64 j), some (.slice (some ⟨bb, ob, none⟩) nb cb), some (.int .i64 j), some (.pointer (some ⟨bb, ob + j * 64, none⟩)), some (.agg (sec (G j))), some (.tuple #[.agg (secs 3 (chg (xRow (PP (mixF (j + 1) F G) i) (QQ (mixF (j + 1) F G) i) (F j)) j (G j))), .int .i64 0]), some (.tuple #[.agg (secs 3 (chg (xRow (PP (mixF (j + 1) F G) i) (QQ (mixF (j + 1) F G) i) (F j)) j (G j))), .int .i64 0]), some (.agg (secs 3 (chg (xRow (PP (mixF (j + 1) F G) i) (QQ (mixF (j + 1) F G) i) (F j)) j (G j)))), some (.int .i64 0), none, none, some (.int .i64 0)]) (D := aD w2.heap.size (chg (xRow (PP (mixF (j + 1) F G) i) (QQ (mixF (j + 1) F G) i) (F j)) j (G j))) (K := aK) (C := fun w' => Below w2.heap.size w2 w') 13 (by kernel_rfl) (by kernel_rfl) (by kernel_rfl)
                _ (xS_ok _) (fun i j vs w w' _ hji h hk => aD_keep j hji h hk) (fun j i vs v w hji hw h => aD_loc (by kernel_rfl) j hji hw h) (Below.refl _ _).drew fun vs => ?_
              simp only [List.take_succ_cons, List.take_zero, List.drop_succ_cons, List.drop_zero]
              refine ⟨.inl ⟨rfl, fun w' hC hDs => ⟨_, rfl, ?_⟩⟩, fun e => ?_⟩
              · exact gives_ldrow rfl (x3.out.below hC x3.out.lt) ⟨hC, .inl (Below.refl _ _), trivial⟩
              have e' : vs 0 = _ := e
              rw [e']
              clear e e'
              try simp only [Act.put, List.setIfInBounds_toArray, List.set_cons_succ, List.set_cons_zero]
              refine ⟨.inl ⟨rfl, fun w' hC hDs => ⟨_, rfl, ?_⟩⟩, fun e => ?_⟩
              · go_simp
                first | exact ⟨rfl, hC, .inl (Below.refl _ _), trivial⟩ | exact ⟨hC, .inl (Below.refl _ _), trivial⟩ | exact ⟨rfl, .inl (Below.refl _ _), trivial⟩ | exact ⟨.inl (Below.refl _ _), trivial⟩
              have e' : vs 1 = _ := e
              rw [e']
              clear e e'
              try simp only [Act.put, List.setIfInBounds_toArray, List.set_cons_succ, List.set_cons_zero]
              refine ⟨.inl ⟨rfl, fun w' hC hDs => ⟨_, rfl, ?_⟩⟩, fun e => ?_⟩
              · go_simp
                first | exact ⟨rfl, hC, .inl (Below.refl _ _), trivial⟩ | exact ⟨hC, .inl (Below.refl _ _), trivial⟩ | exact ⟨rfl, .inl (Below.refl _ _), trivial⟩ | exact ⟨.inl (Below.refl _ _), trivial⟩
              have e' : vs 2 = _ := e
              rw [e']
              clear e e'
              try simp only [Act.put, List.setIfInBounds_toArray, List.set_cons_succ, List.set_cons_zero]
              refine ⟨.inl ⟨rfl, fun w' hC hDs => ⟨_, rfl, ?_⟩⟩, fun e => ?_⟩
              · go_simp
                first | exact ⟨rfl, hC, .inl (Below.refl _ _), trivial⟩ | exact ⟨hC, .inl (Below.refl _ _), trivial⟩ | exact ⟨rfl, .inl (Below.refl _ _), trivial⟩ | exact ⟨.inl (Below.refl _ _), trivial⟩
              have e' : vs 3 = _ := e
              rw [e']
              clear e e'
              try simp only [Act.put, List.setIfInBounds_toArray, List.set_cons_succ, List.set_cons_zero]
              refine ⟨.inl ⟨rfl, fun w' hC hDs => ⟨_, rfl, ?_⟩⟩, fun e => ?_⟩
              · go_simp
                first | exact ⟨rfl, hC, .inl (Below.refl _ _), trivial⟩ | exact ⟨hC, .inl (Below.refl _ _), trivial⟩ | exact ⟨rfl, .inl (Below.refl _ _), trivial⟩ | exact ⟨.inl (Below.refl _ _), trivial⟩
              have e' : vs 4 = _ := e
              rw [e']
              clear e e'
              try simp only [Act.put, List.setIfInBounds_toArray, List.set_cons_succ, List.set_cons_zero]
              refine ⟨.inl ⟨rfl, fun w' hC hDs => ⟨_, rfl, ?_⟩⟩, fun e => ?_⟩
              · exact gives_ldm rfl (rangeAt_below RB2.out hC hbb2) ⟨hC, .inl (Below.refl _ _), trivial⟩
              have e' : vs 5 = _ := e
              rw [e']
              clear e e'
              try simp only [Act.put, List.setIfInBounds_toArray, List.set_cons_succ, List.set_cons_zero]
              refine ⟨.inl ⟨rfl, fun w' hC hDs => ⟨_, rfl, ?_⟩⟩, fun e => ?_⟩
              · go_simp
                refine (change_ok _ (G j) j (by omega) XL.out (HG.out j) _).mono fun e w'' ⟨he, hb''⟩ => ⟨he, hC.trans (hb''.mono hC.size), .inl hb'', trivial⟩
              have e' : vs 6 = _ := e
              rw [e']
              clear e e'
              try simp only [Act.put, List.setIfInBounds_toArray, List.set_cons_succ, List.set_cons_zero]
              refine ⟨.inl ⟨rfl, fun w' hC hDs => ⟨_, rfl, ?_⟩⟩, fun e => ?_⟩
              · go_simp
                first | exact ⟨rfl, hC, .inl (Below.refl _ _), trivial⟩ | exact ⟨hC, .inl (Below.refl _ _), trivial⟩ | exact ⟨rfl, .inl (Below.refl _ _), trivial⟩ | exact ⟨.inl (Below.refl _ _), trivial⟩
              have e' : vs 7 = _ := e
              rw [e']
              clear e e'
              try simp only [Act.put, List.setIfInBounds_toArray, List.set_cons_succ, List.set_cons_zero]
              refine ⟨.inl ⟨rfl, fun w' hC hDs => ⟨_, rfl, ?_⟩⟩, fun e => ?_⟩
              · go_simp
                first | exact ⟨rfl, hC, .inl (Below.refl _ _), trivial⟩ | exact ⟨hC, .inl (Below.refl _ _), trivial⟩ | exact ⟨rfl, .inl (Below.refl _ _), trivial⟩ | exact ⟨.inl (Below.refl _ _), trivial⟩
              have e' : vs 8 = _ := e
              rw [e']
              clear e e'
              try simp only [Act.put, List.setIfInBounds_toArray, List.set_cons_succ, List.set_cons_zero]
              refine ⟨.inl ⟨rfl, fun w' hC hDs => ⟨_, rfl, ?_⟩⟩, fun e => ?_⟩
              · go_simp
                first | exact ⟨rfl, hC, .inl (Below.refl _ _), trivial⟩ | exact ⟨hC, .inl (Below.refl _ _), trivial⟩ | exact ⟨rfl, .inl (Below.refl _ _), trivial⟩ | exact ⟨.inl (Below.refl _ _), trivial⟩
              have e' : vs 9 = _ := e
              rw [e']
              clear e e'
              try simp only [Act.put, List.setIfInBounds_toArray, List.set_cons_succ, List.set_cons_zero]
              refine ⟨.inl ⟨rfl, fun w' hC hDs => ⟨.pointer (some ⟨w'.heap.size, 0, none⟩), trivial, ?_⟩⟩, fun _ => ?_⟩
              · have hb : Below w'.heap.size w' (w'.alloc (.cells (secs 3 z3) 41)) := (Below.refl _ _).alloc (Nat.le_refl _) _
                refine gives_value (w' := w'.alloc (.cells (secs 3 z3) 41)) (by simp only [execOp, Sem.run_bind, alloc_row w', Result.andThen_ok, Sem.run_pure]) ⟨hC.trans (hb.mono hC.size), .inl hb, ⟨w'.heap.size, z3, by rw [updV_self], Blk.top rfl rfl, hC.size⟩⟩
              try simp only [Act.put, List.setIfInBounds_toArray, List.set_cons_succ, List.set_cons_zero]
              refine ⟨.inl ⟨rfl, fun w' hC hDs => ⟨undef, trivial, ?_⟩⟩, fun _ => ?_⟩
              · obtain ⟨g, X0, e10, b10, hg10⟩ := hDs 10 (by kernel_rfl)
                refine gives_strow ?_ rfl b10 ?_
                · exact e10
                · exact ⟨below_setRow hC hg10 _, .inr ⟨rfl, g, X0, _, e10, b10, rfl⟩, ⟨g, by rw [updV_ne _ _ (by decide)]; exact e10, b10.setRow_same _, hg10⟩⟩
              simp only [Act.put]
              refine ⟨.inl ⟨rfl, fun w' hC hDs => ⟨_, rfl, ?_⟩⟩, fun e => ?_⟩
              · go_simp
                first | exact ⟨rfl, hC, .inl (Below.refl _ _), trivial⟩ | exact ⟨hC, .inl (Below.refl _ _), trivial⟩ | exact ⟨rfl, .inl (Below.refl _ _), trivial⟩ | exact ⟨.inl (Below.refl _ _), trivial⟩
              have e' : vs 12 = _ := e
              rw [e']
              clear e e'
              try simp only [Act.put, List.setIfInBounds_toArray, List.set_cons_succ, List.set_cons_zero]
              intro w6 hw6 hDs
              obtain ⟨g22, e22, q22, hg22⟩ := hDs 11 (by omega)
              rw [e22]
              clear hDs e22
              have y6 := hid (show Blk w6 g22 41 (secs 3 (xRow (PP (mixF j F G) i) (QQ (mixF j F G) i) (G j))) by
                rw [secs_ext (G := chg (xRow (PP (mixF (j + 1) F G) i) (QQ (mixF (j + 1) F G) i) (F j)) j (G j)) fun a k ha _ => by rw [chg_mix (by omega) a ha]]
                exact q22)
              have x6 := hid (x3.out.below hw6 x3.out.lt)
              have B6 := hid (B2.out.trans (hw6.mono B2.out.size))
              have R6 := hid (R2.out.below hw6 R2.out.lt)
              have S6 := hid (S2.out.below hw6 S2.out.lt)
              have RB6 := hid (rangeAt_below RB2.out hw6 hbb2)
              have hbb22 : bb < g22 := by omega
              clear hw6 q22 x3 B2 R2 S2 RB2 hbb2 hg22
              have YR := hid (show w6.rangeAt g22 128 (sec (G j)).toList by
                have h := range_secs (i := 2) y6.out (by decide)
                rw [show 0 + 2 * 64 = 128 from rfl, show xRow (PP (mixF j F G) i) (QQ (mixF j F G) i) (G j) 2 = G j from rfl] at h
                exact h)
              have hgl := y6.out.lt
              have EQ := hid (eqS_yes (f := G j) (g := G j) fun _ _ => rfl)
              have hbb6 : bb < w6.heap.size := by omega
              go_wp2_with fail
              refine wp_region_tail (C := Drew w6) 11 (by kernel_rfl) (by kernel_rfl) (by kernel_rfl) (Drew.refl _) ?_
              simp only [List.take_succ_cons, List.take_zero, List.drop_succ_cons, List.drop_zero]
              apply wpK_val
              · rfl
              · intro w' hw'
                go_simp
                first | exact rfl | exact ⟨rfl, hw'⟩
              simp only [Act.put, List.setIfInBounds_toArray, List.set_cons_succ, List.set_cons_zero]
              apply wpK_val
              · rfl
              · intro w' hw'
                go_simp
                first | exact rfl | exact ⟨rfl, hw'⟩
              simp only [Act.put, List.setIfInBounds_toArray, List.set_cons_succ, List.set_cons_zero]
              apply wpK_val
              · rfl
              · intro w' hw'
                go_simp
                first | exact rfl | exact ⟨rfl, hw'⟩
              simp only [Act.put, List.setIfInBounds_toArray, List.set_cons_succ, List.set_cons_zero]
              apply wpK_val
              · rfl
              · intro w' hw'
                go_simp
                first | exact rfl | exact ⟨rfl, hw'⟩
              simp only [Act.put, List.setIfInBounds_toArray, List.set_cons_succ, List.set_cons_zero]
              apply kldm
              · rfl
              · rfl
              · exact fun w' hw' => fun a v hv => hw'.cell (YR.out a v hv)
              simp only [Act.put, List.setIfInBounds_toArray, List.set_cons_succ, List.set_cons_zero]
              apply wpK_val
              · rfl
              · intro w' hw'
                go_simp
                first | exact rfl | exact ⟨rfl, hw'⟩
              simp only [Act.put, List.setIfInBounds_toArray, List.set_cons_succ, List.set_cons_zero]
              apply wpK_val
              · rfl
              · intro w' hw'
                go_simp
                first | exact rfl | exact ⟨rfl, hw'⟩
              simp only [Act.put, List.setIfInBounds_toArray, List.set_cons_succ, List.set_cons_zero]
              apply wpK_val
              · rfl
              · intro w' hw'
                go_simp
                first | exact rfl | exact ⟨rfl, hw'⟩
              simp only [Act.put, List.setIfInBounds_toArray, List.set_cons_succ, List.set_cons_zero]
              apply kldm
              · rfl
              · rfl
              · exact fun w' hw' => fun a v hv => hw'.cell (RB6.out a v hv)
              simp only [Act.put, List.setIfInBounds_toArray, List.set_cons_succ, List.set_cons_zero]
              apply wpK_val
              · rfl
              · intro w' hw'
                have h1 : _ := EQ.out
                go_simp
                first | exact rfl | exact ⟨rfl, hw'⟩
              simp only [Act.put, List.setIfInBounds_toArray, List.set_cons_succ, List.set_cons_zero]
              apply wpK_val
              · rfl
              · intro w' hw'
                go_simp
                first | exact rfl | exact ⟨rfl, hw'⟩
              simp only [Act.put, List.setIfInBounds_toArray, List.set_cons_succ, List.set_cons_zero]
              refine wpK_nil fun w7 hw7 => ?_
              have y7 := hw7.blk y6.out
              have x7 := hw7.blk x6.out
              have R7 := hid (hw7.blk R6.out)
              have S7 := hid (hw7.blk S6.out)
              have B7 := hid (hw7.below B6.out)
              clear hw7 y6 x6 R6 S6 B6 RB6 YR EQ hgl hbb6
              go_wp2_with (first | ((with_reducible apply ldr); rfl; exact y7) | ((with_reducible apply str); rfl; rfl; exact x7))
              have x8 := hid (x7.setRow_same (secs 3 (xRow (PP (mixF j F G) i) (QQ (mixF j F G) i) (G j))))
              have R8 := hid (R7.out.setRow_other (g' := g20) (by omega) (secs 3 (xRow (PP (mixF j F G) i) (QQ (mixF j F G) i) (G j))))
              have S8 := hid (S7.out.setRow_other (g' := g20) (by omega) (secs 3 (xRow (PP (mixF j F G) i) (QQ (mixF j F G) i) (G j))))
              have B8 := hid (below_setRow B7.out hWg (secs 3 (xRow (PP (mixF j F G) i) (QQ (mixF j F G) i) (G j))))
              clear x7 y7 R7 S7 B7
              go_roundw
              case rel => first | exact ⟨j, (j : Int) - 1, G j, by omega, by go_num, hid rfl, x8, R8, S8, B8⟩ | ((repeat apply Exists.intro); exact ⟨⟨j, (j : Int) - 1, G j, by omega, rfl, hid rfl, x8, R8, S8, B8⟩, rfl⟩)
              case measure => simp [intOf] <;> omega
end Go.Proofs.Ytkdnkppkmjgihaa
