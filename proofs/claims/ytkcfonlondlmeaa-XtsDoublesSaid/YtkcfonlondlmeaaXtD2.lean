/-
  Contracts of casemateref08.Bits and casemateref08.Double.
-/
import Derived.Test.YtkcfonlondlmeaaXtS
import Derived.Test.YtkcfonlondlmeaaXtQ
namespace Go.Proofs.Ytkcfonlondlmeaa
open Go.ChangeShapes Go.WideShapes Go.ChangeAt Go.RowKit
open AesM (Bt Q16)
open AesP (tBk wr_nat)
attribute [local go_sem] Gives
/-- 128 bits. -/
def brow (f : Nat → Bool) : Array Value := row 128 fun k => .bool (f k)
section
variable {ops : Array Oper} {Q : Exit → Act → World → Prop} {a : Act} {w : World} {rest : List Oper} {dst : Option Tmp} {ty : TypeId} {pos : String} {after : Array Edge} {x y : Operand} {g : Nat} {f f0 : Nat → Bool} {t : TypeId}
theorem size_brow : (brow f).size = 128 := size_row
theorem get_brow {k : Nat} (h : k < 128) : (brow f)[k]? = some (.bool (f k)) := get_row_lt h
theorem brow_ext {f g : Nat → Bool} (h : ∀ k, k < 128 → f k = g k) : brow f = brow g := row_ext fun k hk => by rw [h k hk]
theorem brow_one : (brow f).all (·.oneCell') = true := row_one fun _ _ => rfl
theorem brow_set {k : Nat} {v : Bool} : (brow f).setIfInBounds k (.bool v) = brow fun j => if j = k then v else f j := by
  unfold brow
  rw [row_set]
  exact row_ext fun j _ => by by_cases e : j = k <;> simp [e]
theorem info_brow : (Try.prog.info? 48).map (·.size) = some 128 := by kernel_rfl
theorem ldB (hx : a.eval x = .pointer (some ⟨g, 0, none⟩)) (hb : Blk w g t (brow f)) (h : wpList Try.prog ops Q rest (a.put dst (.agg (brow f))) w) :
    wpList Try.prog ops Q (⟨dst, .load 48 x, ty, pos, after, none⟩ :: rest) a w :=
  step_load_row hb Try.underlying48 rfl (by rw [size_brow]; exact info_brow) hx h
theorem stB (hx : a.eval x = .pointer (some ⟨g, 0, none⟩)) (hy : a.eval y = .agg (brow f)) (hb : Blk w g t (brow f0)) (h : wpList Try.prog ops Q rest (a.put dst undef) (w.setRow g (brow f))) :
    wpList Try.prog ops Q (⟨dst, .store 48 x y, ty, pos, after, none⟩ :: rest) a w :=
  step_store_row hb (by rw [size_brow]; exact info_brow) (by rw [size_brow, size_brow]) brow_one hx hy h
theorem zero_brow (w : World) : (zeroValue 48).run Try.prog w = .ok (.agg (brow fun _ => false)) w := (zero_of_info (P := Try.prog) (t := 48) (v := .agg (brow fun _ => false)) (n := 128) (by kernel_rfl)).1 w
theorem run_alloc_brow (w : World) : (Instr.alloc 48 true (.tuple #[])).run Try.prog w = .ok (.pointer (some ⟨w.heap.size, 0, none⟩)) (w.alloc (.cells (brow fun _ => false) 48)) := by
  simp [Instr.alloc, Sem.run_bind, zero_brow w, newVar, newRow, Value.cells]
theorem alB (h : wpList Try.prog ops Q rest (a.put dst (.pointer (some ⟨w.heap.size, 0, none⟩))) (w.alloc (.cells (brow fun _ => false) 48))) :
    wpList Try.prog ops Q (⟨dst, .alloc 48, ty, pos, after, none⟩ :: rest) a w := by
  refine wpList_plain rfl fun K hK => ?_
  unfold Oper.wp execOp
  simp only [Sem.run_bind, run_alloc_brow w, Result.andThen_ok, Sem.run_pure]
  exact hK _ _ h
theorem ret_brow {fn : Func} {R : Ending → World → Prop} {p : Tmp} (hr : fn.results = #[.cell p 48]) (hp : a.tmps.getD p undef = .pointer (some ⟨g, 0, none⟩)) (hdf : a.defers = [])
    (hb : Blk w g t (brow f)) (hR : R (.returned (.agg (brow f))) w) : bodyPost Try.prog fn R .ret a w :=
  ret_row hr hb Try.underlying48 rfl (by rw [size_brow]; exact info_brow) hp hdf hR
end
/-- A loop over bits: behind k rounds the first k are turned. -/
def upToB (k : Nat) (f h : Nat → Bool) : Nat → Bool := fun j => if j < k then h j else f j
theorem upToB_zero {f h : Nat → Bool} : upToB 0 f h = f := by funext j; simp [upToB]
theorem upToB_step {w : World} {b k : Nat} {t : TypeId} {f h : Nat → Bool} (hb : Blk w b t ((brow (upToB k f h)).setIfInBounds k (.bool (h k)))) : Blk w b t (brow (upToB (k + 1) f h)) := by
  rw [brow_set] at hb
  rw [brow_ext (g := fun j => if j = k then h k else upToB k f h j) fun j _ => ?_]
  · exact hb
  · unfold upToB
    by_cases e : j = k
    · subst e; simp
    · simp only [e, if_false]
      by_cases h2 : j < k
      · rw [if_pos h2, if_pos (by omega)]
      · rw [if_neg h2, if_neg (by omega)]
theorem upToB_all {f h : Nat → Bool} {k : Nat} (hk : 128 ≤ k) : brow (upToB k f h) = brow h := brow_ext fun j hj => by unfold upToB; rw [if_pos (by omega)]
namespace XtP
theorem bit_and {t : Nat → Nat} {k : Nat} (h : t (k / 8) < 256) : (bits .and .u8 ((t (k / 8) : Int) / 2 ^ (k % 8)) 1 == 1) = XtM.bit t k := by
  have e : ((t (k / 8) : Int) / 2 ^ (k % 8)) = ((t (k / 8) / 2 ^ (k % 8) : Nat) : Int) := by norm_cast
  have hlt : t (k / 8) / 2 ^ (k % 8) < 256 := Nat.lt_of_le_of_lt (Nat.div_le_self _ _) h
  rw [e, show (1 : Int) = ((1 : Nat) : Int) from rfl, u8_and_nat _ _ hlt (by omega), Nat.and_one_is_mod]
  unfold XtM.bit
  rw [Bool.eq_iff_iff, beq_iff_eq, decide_eq_true_eq]
  omega
set_option maxHeartbeats 400000 in
set_option maxRecDepth 100000 in
theorem bits_any (t : Nat → Nat) (ht : Bt t) (w : World) :
    Calls Try.prog 23 #[.agg (ar 16 t)] w fun e w' => e = .returned (.agg (brow (XtM.bit t))) ∧ Below w.heap.size w w' := by
  have HT := hid ht
  clear ht
  go_enter Try.func23, Try.ntmps23
  go_upto_region 2 with (with_reducible apply alB)
  generalize hw3 : World.alloc (World.alloc (World.alloc w _) _) _ = w3
  have b0 : Blk w3 w.heap.size 35 (ar 16 t) := by rw [← hw3]; exact ((Blk.new _ _ _).alloc _).alloc _
  have b1 : Blk w3 (w.heap.size + 1) 48 (brow fun _ => false) := by rw [← hw3]; exact (Blk.top rfl (by simp)).alloc _
  have b2 : Blk w3 (w.heap.size + 1 + 1) 48 (brow fun _ => false) := by rw [← hw3]; exact Blk.top rfl (by simp)
  have hb : Below w.heap.size w w3 := by rw [← hw3]; exact (((Below.refl _ _).alloc (Nat.le_refl _) _).alloc (by simp) _).alloc (by simp; omega) _
  clear hw3
  go_wp2_with fail
  go_loopw [4] (fun i wr => ∃ k : Nat, k ≤ 128 ∧ i = .int .i64 k ∧ Blk wr w.heap.size 35 (ar 16 t) ∧ Blk wr (w.heap.size + 1) 48 (brow fun _ => false) ∧ Blk wr (w.heap.size + 1 + 1) 48 (brow (upToB k (fun _ => false) (XtM.bit t))) ∧ Below w.heap.size w wr) (fun i _ => 128 - (intOf i).toNat)
  case atStart => exact ⟨0, by omega, rfl, b0, b1, by rw [upToB_zero]; exact b2, hb⟩
  case round =>
    clear b0 b1 b2 hb
    obtain ⟨k, hk, rfl, b0, b1, b2, hb⟩ := hrel
    by_cases hlt : k < 128
    · have tk : (k : Int) < 128 := by omega
      have c0 : wr.cell? ⟨w.heap.size, k / 8, none⟩ = some (.int .u8 (t (k / 8) : Nat)) := by rw [b0.cell, get_ar (by omega)]
      have c3 := b2.frozen k
      have c4 := (b2.cell k).trans (get_brow hlt)
      have H : (bits .and .u8 ((t (k / 8) : Int) / 2 ^ (k % 8)) 1 == 1) = XtM.bit t k := bit_and (HT.out _)
      go_wp2_with fail
      go_roundw
      case rel => exact ⟨k + 1, by omega, by go_num, b0.setCell_other (by simp; omega) _, b1.setCell_other (by simp) _, upToB_step (b2.setCell_same k _), hb.setCell (by simp; omega) _⟩
      case measure => simp [intOf]; omega
    · have tk : decide ((k : Int) < 128) = false := by simp; omega
      rw [upToB_all (by omega)] at b2
      go_wp2_with (first | ((with_reducible apply ldB); rfl; assumption) | ((with_reducible apply stB); rfl; rfl; assumption))
      apply ret_brow Try.results23
      · rfl
      · rfl
      · exact b1.setRow_same _
      exact ⟨rfl, below_setRow hb (by omega) _⟩
theorem gone_not {m : Nat → Bool} {n : Nat} (h : m n = false) (j : Nat) : XtM.gone m (n + 1) j = XtM.gone m n j := by
  by_cases e : j = n / 8
  · rw [e, XtM.gone_same, h]; simp
  · exact XtM.gone_other m e
theorem gone_sum {m : Nat → Bool} {n : Nat} (h : m n = true) : ((XtM.gone m n (n / 8) : Nat) + 2 ^ (n % 8) : Int) % 256 = ((XtM.gone m (n + 1) (n / 8) : Nat) : Int) := by
  have h1 := XtM.gone_lt m n
  have h2 := XtM.pow_lt (n % 8) (Nat.mod_lt _ (by omega))
  rw [XtM.gone_same, h, if_pos rfl]
  have e : ((2 : Int) ^ (n % 8)) = ((2 ^ (n % 8) : Nat) : Int) := by norm_cast
  rw [e]
  omega
/-- What the four turnings make. -/
theorem turned {t : Nat → Nat} (h : XtM.bit t 127 = true) : brow (fun j => if j = 7 then !(XtM.mv1 t 7) else if j = 2 then !(XtM.mv1 t 2) else if j = 1 then !(XtM.mv1 t 1) else if j = 0 then !(XtM.mv1 t 0) else XtM.mv1 t j) = brow (XtM.mvb t) := brow_ext fun j _ => by
  unfold XtM.mvb XtM.top
  rw [h, Bool.true_and]
  by_cases h7 : j = 7
  · subst h7; simp
  · by_cases h2 : j = 2
    · subst h2; simp
    · by_cases h1 : j = 1
      · subst h1; simp
      · by_cases h0 : j = 0
        · subst h0; simp
        · simp [h7, h2, h1, h0]
theorem unturned {t : Nat → Nat} (h : XtM.bit t 127 = false) : brow (XtM.mv1 t) = brow (XtM.mvb t) := brow_ext fun j _ => by
  unfold XtM.mvb
  rw [h, Bool.false_and, Bool.xor_false]
set_option maxHeartbeats 800000 in
set_option maxRecDepth 100000 in
theorem rdouble_any (t : Nat → Nat) (ht : Bt t) (w : World) :
    Calls Try.prog 12 #[.agg (ar 16 t)] w fun e w' => e = .returned (.agg (ar 16 (XtM.dbl t))) ∧ Below w.heap.size w w' := by
  have HT := hid ht
  clear ht
  go_enter Try.func12, Try.ntmps12
  go_upto_region 1 with (with_reducible apply alA tBk)
  generalize hw1 : World.alloc (World.alloc w _) _ = w1
  have b0 : Blk w1 w.heap.size 35 (ar 16 t) := by rw [← hw1]; exact (Blk.new _ _ _).alloc _
  have b1 : Blk w1 (w.heap.size + 1) 35 (ar 16 fun _ => 0) := by rw [← hw1]; exact Blk.top rfl (by simp)
  have hb : Below w.heap.size w w1 := by rw [← hw1]; exact ((Below.refl _ _).alloc (Nat.le_refl _) _).alloc (by simp) _
  clear hw1
  go_wp2_with ((with_reducible apply ldA tBk); rfl; exact b0)
  refine (bits_any t HT.out w1).mono ?_
  rintro e w2 ⟨rfl, h2⟩
  have d1 := hid (b1.below h2 b1.lt)
  have db := hid (hb.trans (h2.mono hb.size))
  have hl := d1.out.lt
  clear b0 b1 hb h2
  obtain ⟨gb, hgb⟩ : ∃ gb, gb = w2.heap.size := ⟨_, rfl⟩
  have hz : Blk (w2.alloc (.cells (brow fun _ => false) 48)) w2.heap.size 48 (brow fun _ => false) := Blk.new _ _ _
  go_upto_region 2 with (first | (with_reducible apply alB) | ((with_reducible apply stB); rfl; rfl; exact hz))
  rw [← hgb] at hz hl ⊢
  generalize hw3 : World.setRow _ _ _ = w3
  have e1 := hid (show Blk w3 (w.heap.size + 1) 35 (ar 16 fun _ => 0) by rw [← hw3]; exact (d1.out.alloc _).setRow_other (by omega) _)
  have e2 := hid (show Blk w3 gb 48 (brow (XtM.bit t)) by rw [← hw3]; exact hz.setRow_same _)
  have eb := hid (show Below w.heap.size w w3 by rw [← hw3]; exact below_setRow (db.out.alloc db.out.size _) (by omega) _)
  clear hw3 hz d1 db hgb
  obtain ⟨gm, hgm⟩ : ∃ gm, gm = w3.heap.size := ⟨_, rfl⟩
  have hbm : gb < gm := by rw [hgm]; exact e2.out.lt
  have hz : Blk (w3.alloc (.cells (brow fun _ => false) 48)) w3.heap.size 48 (brow fun _ => false) := Blk.new _ _ _
  go_upto_region 3 with (with_reducible apply alB)
  rw [← hgm] at hz ⊢
  generalize hw4 : World.alloc _ _ = w4 at hz ⊢
  have d1 := show Blk w4 (w.heap.size + 1) 35 (ar 16 fun _ => 0) by rw [← hw4]; exact e1.out.alloc _
  have d2 := show Blk w4 gb 48 (brow (XtM.bit t)) by rw [← hw4]; exact e2.out.alloc _
  have db := show Below w.heap.size w w4 by rw [← hw4]; exact eb.out.alloc eb.out.size _
  clear hw4 e1 e2 eb hgm
  go_wp2_with fail
  go_loopw [5] (fun i wr => ∃ k : Nat, 1 ≤ k ∧ k ≤ 128 ∧ i = .int .i64 k ∧ Blk wr (w.heap.size + 1) 35 (ar 16 fun _ => 0) ∧ Blk wr gb 48 (brow (XtM.bit t)) ∧ Blk wr gm 48 (brow (upToB k (fun _ => false) (XtM.mv1 t))) ∧ Below w.heap.size w wr) (fun i _ => 128 - (intOf i).toNat)
  case atStart =>
    refine ⟨1, by omega, by omega, rfl, d1, d2, ?_, db⟩
    rw [brow_ext (g := fun _ => false) fun j _ => ?_]
    · exact hz
    · unfold upToB
      by_cases e : j < 1
      · rw [if_pos e, show j = 0 by omega]; rfl
      · rw [if_neg e]
  case round =>
    clear d1 d2 hz db
    obtain ⟨k, hk1, hk, rfl, b1, b2, b3, hb⟩ := hrel
    by_cases hlt : k < 128
    · have tk : (k : Int) < 128 := by omega
      obtain ⟨l, hl1⟩ : ∃ l, l = k - 1 := ⟨_, rfl⟩
      have E1 : IntKind.i64.wrap ((k : Int) - 1) = (l : Int) := wr_nat (by omega) (by omega)
      have tl : (l : Int) < 128 := by omega
      have em : XtM.mv1 t k = XtM.bit t l := by unfold XtM.mv1; rw [if_neg (by omega), hl1]
      have c0 : wr.cell? ⟨gb, l, none⟩ = some (.bool (XtM.mv1 t k)) := by rw [b2.cell, get_brow (by omega), em]
      have c3 := b3.frozen k
      have c4 := (b3.cell k).trans (get_brow hlt)
      clear hl1 em
      go_wp2_with fail
      go_roundw
      case rel => exact ⟨k + 1, by omega, by omega, by go_num, b1.setCell_other (by show gm ≠ _; omega) _, b2.setCell_other (by show gm ≠ _; omega) _, upToB_step (b3.setCell_same k _), hb.setCell (by show w.heap.size ≤ gm; omega) _⟩
      case measure => simp [intOf]; omega
    · have tk : decide ((k : Int) < 128) = false := by simp; omega
      obtain rfl : k = 128 := by omega
      rw [upToB_all (by omega)] at b3
      have c0 : wr.cell? ⟨gb, 127, none⟩ = some (.bool (XtM.bit t 127)) := by rw [b2.cell, get_brow (by omega)]
      cases h127 : XtM.bit t 127 with
      | false =>
        rw [h127] at c0
        rw [unturned h127] at b3
        go_upto_region 12 with fail
        clear c0 b2
        generalize wr = w5 at *
        obtain ⟨gz, hgz⟩ : ∃ gz, gz = w5.heap.size := ⟨_, rfl⟩
        have hmz : gm < gz := by rw [hgz]; exact b3.lt
        have hz : Blk (w5.alloc (.cells (ar 16 fun _ => 0) 35)) w5.heap.size 35 (ar 16 fun _ => 0) := Blk.new _ _ _
        go_upto_region 13 with (with_reducible apply alA tBk)
        rw [← hgz] at hz ⊢
        generalize hw6 : World.alloc _ _ = w6 at hz ⊢
        have d1 := show Blk w6 (w.heap.size + 1) 35 (ar 16 fun _ => 0) by rw [← hw6]; exact b1.alloc _
        have d3 := show Blk w6 gm 48 (brow (XtM.mvb t)) by rw [← hw6]; exact b3.alloc _
        have db := show Below w.heap.size w w6 by rw [← hw6]; exact hb.alloc hb.size _
        clear hw6 b1 b3 hb hgz
        go_wp2_with fail
        go_loopw [7] (fun i wr => ∃ k : Nat, k ≤ 128 ∧ i = .int .i64 k ∧ Blk wr (w.heap.size + 1) 35 (ar 16 fun _ => 0) ∧ Blk wr gm 48 (brow (XtM.mvb t)) ∧ Blk wr gz 35 (ar 16 (XtM.gone (XtM.mvb t) k)) ∧ Below w.heap.size w wr) (fun i _ => 128 - (intOf i).toNat)
        case atStart => exact ⟨0, by omega, rfl, d1, d3, by rw [ar_ext (g := fun _ => 0) fun j _ => XtM.gone_zero _ j]; exact hz, db⟩
        case round =>
          clear d1 d3 hz db
          obtain ⟨k, hk, rfl, b1, b3, bz, hb⟩ := hrel
          by_cases hlt : k < 128
          · have tk : (k : Int) < 128 := by omega
            have c0 := (b3.cell k).trans (get_brow hlt)
            cases hm : XtM.mvb t k with
            | false =>
              rw [hm] at c0
              go_wp2_with fail
              go_roundw
              case rel => exact ⟨k + 1, by omega, by go_num, b1, b3, by rw [ar_ext (g := XtM.gone (XtM.mvb t) k) fun j _ => gone_not hm j]; exact bz, hb⟩
              case measure => simp [intOf]; omega
            | true =>
              rw [hm] at c0
              have c1 := (bz.cell (k / 8)).trans (get_ar (show k / 8 < 16 by omega))
              have c2 := bz.frozen (k / 8)
              have H : ((XtM.gone (XtM.mvb t) k (k / 8) : Nat) + 2 ^ (k % 8) : Int) % 256 = ((XtM.gone (XtM.mvb t) (k + 1) (k / 8) : Nat) : Int) := gone_sum hm
              go_wp2_with fail
              go_roundw
              case rel =>
                refine ⟨k + 1, by omega, by go_num, b1.setCell_other (by show gz ≠ _; omega) _, b3.setCell_other (by show gz ≠ _; omega) _, ?_, hb.setCell (by show w.heap.size ≤ gz; omega) _⟩
                have h := bz.setCell_same (k / 8) (.int .u8 (XtM.gone (XtM.mvb t) (k + 1) (k / 8) : Nat))
                rw [ar_set, ar_ext (g := XtM.gone (XtM.mvb t) (k + 1)) fun j _ => ?_] at h
                · exact h
                · by_cases e : j = k / 8
                  · rw [if_pos e, e]
                  · rw [if_neg e, XtM.gone_other _ e]
              case measure => simp [intOf]; omega
          · have tk : decide ((k : Int) < 128) = false := by simp; omega
            obtain rfl : k = 128 := by omega
            rw [ar_ext (g := XtM.dbl t) fun j hj => XtM.gone_all HT.out hj] at bz
            go_wp2_with (first | ((with_reducible apply ldA tBk); rfl; exact bz) | ((with_reducible apply stA tBk); rfl; rfl; exact b1))
            apply ret_ar tBk Try.results12
            · rfl
            · rfl
            · exact b1.setRow_same _
            exact ⟨rfl, below_setRow hb (by omega) _⟩
      | true =>
        rw [h127] at c0
        go_upto_region 8 with fail
        clear c0 b2
        have c0 : wr.cell? ⟨gm, 0, none⟩ = some (.bool (XtM.mv1 t 0)) := (b3.cell _).trans (get_brow (by omega))
        have f0 := b3.frozen 0
        go_upto_region 9 with fail
        generalize hw0 : World.setCell _ _ _ = wa
        have b1 := show Blk wa (w.heap.size + 1) 35 (ar 16 fun _ => 0) by rw [← hw0]; exact b1.setCell_other (by show gm ≠ _; omega) _
        have hb := show Below w.heap.size w wa by rw [← hw0]; exact hb.setCell (by show w.heap.size ≤ gm; omega) _
        have b3 := show Blk wa gm 48 (brow (fun j => if j = 0 then !(XtM.mv1 t 0) else XtM.mv1 t j)) by rw [← hw0, ← brow_set]; exact b3.setCell_same 0 _
        clear hw0 c0 f0
        have c1 : wa.cell? ⟨gm, 1, none⟩ = some (.bool (XtM.mv1 t 1)) := (b3.cell _).trans (get_brow (by omega))
        have f1 := b3.frozen 1
        go_upto_region 10 with fail
        generalize hw1 : World.setCell _ _ _ = wb
        have b1 := show Blk wb (w.heap.size + 1) 35 (ar 16 fun _ => 0) by rw [← hw1]; exact b1.setCell_other (by show gm ≠ _; omega) _
        have hb := show Below w.heap.size w wb by rw [← hw1]; exact hb.setCell (by show w.heap.size ≤ gm; omega) _
        have b3 := show Blk wb gm 48 (brow (fun j => if j = 1 then !(XtM.mv1 t 1) else if j = 0 then !(XtM.mv1 t 0) else XtM.mv1 t j)) by rw [← hw1, ← brow_set]; exact b3.setCell_same 1 _
        clear hw1 c1 f1
        have c2 : wb.cell? ⟨gm, 2, none⟩ = some (.bool (XtM.mv1 t 2)) := (b3.cell _).trans (get_brow (by omega))
        have f2 := b3.frozen 2
        go_upto_region 11 with fail
        generalize hw2 : World.setCell _ _ _ = wc
        have b1 := show Blk wc (w.heap.size + 1) 35 (ar 16 fun _ => 0) by rw [← hw2]; exact b1.setCell_other (by show gm ≠ _; omega) _
        have hb := show Below w.heap.size w wc by rw [← hw2]; exact hb.setCell (by show w.heap.size ≤ gm; omega) _
        have b3 := show Blk wc gm 48 (brow (fun j => if j = 2 then !(XtM.mv1 t 2) else if j = 1 then !(XtM.mv1 t 1) else if j = 0 then !(XtM.mv1 t 0) else XtM.mv1 t j)) by rw [← hw2, ← brow_set]; exact b3.setCell_same 2 _
        clear hw2 c2 f2
        have c7 : wc.cell? ⟨gm, 7, none⟩ = some (.bool (XtM.mv1 t 7)) := (b3.cell _).trans (get_brow (by omega))
        have f7 := b3.frozen 7
        go_upto_region 12 with fail
        generalize hw7 : World.setCell _ _ _ = w5
        have b1 := show Blk w5 (w.heap.size + 1) 35 (ar 16 fun _ => 0) by rw [← hw7]; exact b1.setCell_other (by show gm ≠ _; omega) _
        have hb := show Below w.heap.size w w5 by rw [← hw7]; exact hb.setCell (by show w.heap.size ≤ gm; omega) _
        have b3 := show Blk w5 gm 48 (brow (fun j => if j = 7 then !(XtM.mv1 t 7) else if j = 2 then !(XtM.mv1 t 2) else if j = 1 then !(XtM.mv1 t 1) else if j = 0 then !(XtM.mv1 t 0) else XtM.mv1 t j)) by rw [← hw7, ← brow_set]; exact b3.setCell_same 7 _
        clear hw7 c7 f7
        rw [turned h127] at b3
        obtain ⟨gz, hgz⟩ : ∃ gz, gz = w5.heap.size := ⟨_, rfl⟩
        have hmz : gm < gz := by rw [hgz]; exact b3.lt
        have hz : Blk (w5.alloc (.cells (ar 16 fun _ => 0) 35)) w5.heap.size 35 (ar 16 fun _ => 0) := Blk.new _ _ _
        go_upto_region 13 with (with_reducible apply alA tBk)
        rw [← hgz] at hz ⊢
        generalize hw6 : World.alloc _ _ = w6 at hz ⊢
        have d1 := show Blk w6 (w.heap.size + 1) 35 (ar 16 fun _ => 0) by rw [← hw6]; exact b1.alloc _
        have d3 := show Blk w6 gm 48 (brow (XtM.mvb t)) by rw [← hw6]; exact b3.alloc _
        have db := show Below w.heap.size w w6 by rw [← hw6]; exact hb.alloc hb.size _
        clear hw6 b1 b3 hb hgz
        go_wp2_with fail
        go_loopw [7] (fun i wr => ∃ k : Nat, k ≤ 128 ∧ i = .int .i64 k ∧ Blk wr (w.heap.size + 1) 35 (ar 16 fun _ => 0) ∧ Blk wr gm 48 (brow (XtM.mvb t)) ∧ Blk wr gz 35 (ar 16 (XtM.gone (XtM.mvb t) k)) ∧ Below w.heap.size w wr) (fun i _ => 128 - (intOf i).toNat)
        case atStart => exact ⟨0, by omega, rfl, d1, d3, by rw [ar_ext (g := fun _ => 0) fun j _ => XtM.gone_zero _ j]; exact hz, db⟩
        case round =>
          clear d1 d3 hz db
          obtain ⟨k, hk, rfl, b1, b3, bz, hb⟩ := hrel
          by_cases hlt : k < 128
          · have tk : (k : Int) < 128 := by omega
            have c0 := (b3.cell k).trans (get_brow hlt)
            cases hm : XtM.mvb t k with
            | false =>
              rw [hm] at c0
              go_wp2_with fail
              go_roundw
              case rel => exact ⟨k + 1, by omega, by go_num, b1, b3, by rw [ar_ext (g := XtM.gone (XtM.mvb t) k) fun j _ => gone_not hm j]; exact bz, hb⟩
              case measure => simp [intOf]; omega
            | true =>
              rw [hm] at c0
              have c1 := (bz.cell (k / 8)).trans (get_ar (show k / 8 < 16 by omega))
              have c2 := bz.frozen (k / 8)
              have H : ((XtM.gone (XtM.mvb t) k (k / 8) : Nat) + 2 ^ (k % 8) : Int) % 256 = ((XtM.gone (XtM.mvb t) (k + 1) (k / 8) : Nat) : Int) := gone_sum hm
              go_wp2_with fail
              go_roundw
              case rel =>
                refine ⟨k + 1, by omega, by go_num, b1.setCell_other (by show gz ≠ _; omega) _, b3.setCell_other (by show gz ≠ _; omega) _, ?_, hb.setCell (by show w.heap.size ≤ gz; omega) _⟩
                have h := bz.setCell_same (k / 8) (.int .u8 (XtM.gone (XtM.mvb t) (k + 1) (k / 8) : Nat))
                rw [ar_set, ar_ext (g := XtM.gone (XtM.mvb t) (k + 1)) fun j _ => ?_] at h
                · exact h
                · by_cases e : j = k / 8
                  · rw [if_pos e, e]
                  · rw [if_neg e, XtM.gone_other _ e]
              case measure => simp [intOf]; omega
          · have tk : decide ((k : Int) < 128) = false := by simp; omega
            obtain rfl : k = 128 := by omega
            rw [ar_ext (g := XtM.dbl t) fun j hj => XtM.gone_all HT.out hj] at bz
            go_wp2_with (first | ((with_reducible apply ldA tBk); rfl; exact bz) | ((with_reducible apply stA tBk); rfl; rfl; exact b1))
            apply ret_ar tBk Try.results12
            · rfl
            · rfl
            · exact b1.setRow_same _
            exact ⟨rfl, below_setRow hb (by omega) _⟩
end XtP
end Go.Proofs.Ytkcfonlondlmeaa
