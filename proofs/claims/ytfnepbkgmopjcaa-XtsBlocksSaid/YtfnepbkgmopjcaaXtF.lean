/-
  A mode in memory; contracts of made and first.
-/
import Derived.Test.YtfnepbkgmopjcaaXtS
import Derived.Test.YtfnepbkgmopjcaaAesG
namespace Go.Proofs.Ytfnepbkgmopjcaa
open Go.ChangeShapes Go.WideShapes Go.ChangeAt Go.RowKit
open AesM (Bt Q16)
open AesP (tBk wr_nat Cip cip_lt seal_any cipC cip)
section
variable {ops : Array Oper} {a : Act} {w : World} {rest : List Oper} {dst : Option Tmp} {ty r : TypeId} {pos : String} {after : Array Edge} {x y : Operand} {f g : Nat → Nat} {gd : Option (Nat × Bool)} {R : Value → World → Prop} {C : World → Prop} {Qk : Act → Prop} {T : TypeId} {n : Nat}
theorem exec_eqT (hT : Try.prog.underlying T = some (.array n 5)) (hg : Try.prog.eqGuardType Try.prog.depth T = false) (hx : a.eval x = .agg (ar n f)) (hy : a.eval y = .agg (ar n g)) : (execOp a.eval ⟨dst, .binOp .eql T x y r, ty, pos, after, gd⟩).run Try.prog w = .ok (.value (.bool (eqA n f g))) w := by
  have h1 : (eqGuard .eql T x y (.agg (ar n f)) (.agg (ar n g))).run Try.prog w = .ok () w := by
    simp [eqGuard, hg, go_sem]
  simp only [execOp, hx, hy, Sem.run_bind, h1, run_eql_ar hT, Result.andThen_ok, Sem.run_pure]
theorem exec_neT (hT : Try.prog.underlying T = some (.array n 5)) (hg : Try.prog.eqGuardType Try.prog.depth T = false) (hx : a.eval x = .agg (ar n f)) (hy : a.eval y = .agg (ar n g)) : (execOp a.eval ⟨dst, .binOp .neq T x y r, ty, pos, after, gd⟩).run Try.prog w = .ok (.value (.bool (!eqA n f g))) w := by
  have h1 : (eqGuard .neq T x y (.agg (ar n f)) (.agg (ar n g))).run Try.prog w = .ok () w := by
    simp [eqGuard, hg, go_sem]
  simp only [execOp, hx, hy, Sem.run_bind, h1, run_neq_ar hT, Result.andThen_ok, Sem.run_pure]
theorem keqT (b : Bool) (hT : Try.prog.underlying T = some (.array n 5)) (hg : Try.prog.eqGuardType Try.prog.depth T = false) (hwt : Region.wanted ⟨dst, .binOp .eql T x y r, ty, pos, after, gd⟩ (yielded ops a.tmps) = true) (hx : a.eval x = .agg (ar n f)) (hy : a.eval y = .agg (ar n g)) (hb : eqA n f g = b)
    (h : wpK Try.prog ops C Qk rest (a.put dst (.bool b))) : wpK Try.prog ops C Qk (⟨dst, .binOp .eql T x y r, ty, pos, after, gd⟩ :: rest) a :=
  wpK_val hwt (fun w hw => gives_value (w' := w) (by rw [exec_eqT hT hg hx hy, hb]) hw) h
theorem kneT (b : Bool) (hT : Try.prog.underlying T = some (.array n 5)) (hg : Try.prog.eqGuardType Try.prog.depth T = false) (hwt : Region.wanted ⟨dst, .binOp .neq T x y r, ty, pos, after, gd⟩ (yielded ops a.tmps) = true) (hx : a.eval x = .agg (ar n f)) (hy : a.eval y = .agg (ar n g)) (hb : (!eqA n f g) = b)
    (h : wpK Try.prog ops C Qk rest (a.put dst (.bool b))) : wpK Try.prog ops C Qk (⟨dst, .binOp .neq T x y r, ty, pos, after, gd⟩ :: rest) a :=
  wpK_val hwt (fun w hw => gives_value (w' := w) (by rw [exec_neT hT hg hx hy, hb]) hw) h
end
namespace XtP
attribute [local go_sem] Gives
theorem tSec : ArT 28 64 := ⟨by kernel_rfl, ⟨_, Try.underlying28, rfl⟩, (zero_of_info (P := Try.prog) (t := 28) (v := .agg (ar 64 fun _ => 0)) (n := 64) (by kernel_rfl)).1⟩
theorem uSec : Try.prog.underlying 28 = some (.array 64 5) := Try.underlying28
theorem eqg_sec : Try.prog.eqGuardType Try.prog.depth 28 = false := by kernel_rfl
def pt (c : Nat) : Value := .pointer (some ⟨c, 0, none⟩)
/-- A mode in memory: its two ciphers. -/
def Md (w : World) (g c d : Nat) : Prop := Blk w g 47 #[pt c, pt d]
section
variable {w w' : World} {g c d : Nat} {K L : Nat → Nat} {b b' : Bool}
theorem Md.lt (h : Md w g c d) : g < w.heap.size := Blk.lt h
theorem Md.data (h : Md w g c d) : w.cell? ⟨g, 0, none⟩ = some (pt c) := Blk.cell h 0
theorem Md.tweak (h : Md w g c d) : w.cell? ⟨g, 1, none⟩ = some (pt d) := Blk.cell h 1
theorem Md.ne (h : Md w g c d) {k : Nat} (hk : Cip w k K b) : k ≠ g := fun e => by
  subst e
  have := congrArg Array.size (Blk.inj h hk)
  simp [cip, size_row] at this
/-- Two readings of one cipher tell of the same round keys. -/
theorem cip_same {b2 : Bool} (h : Cip w c K b) (h' : Cip w c L b') (h2 : Cip w' c K b2) : Cip w' c L b2 := by
  have e := row_inj (Blk.inj h h')
  unfold Cip at h2 ⊢
  rw [show cip true L AesM.boxF (if b2 = true then AesM.oboxF else fun _ => 0) (if b2 = true then 1 else 0) = cip true K AesM.boxF (if b2 = true then AesM.oboxF else fun _ => 0) (if b2 = true then 1 else 0) from row_ext fun j hj => ?_]
  · exact h2
  · have ej := e j hj
    unfold cipC at ej ⊢
    by_cases h0 : j = 0
    · rw [if_pos h0, if_pos h0]
    · rw [if_neg h0, if_neg h0]
      by_cases h1 : j < 241
      · rw [if_neg h0, if_neg h0, if_pos h1, if_pos h1] at ej
        rw [if_pos h1, if_pos h1]
        exact ej.symm
      · rw [if_neg h1, if_neg h1]
/-- The other cipher behind a change of this one. -/
theorem cip_keep (hc : ∃ b, Cip w c K b) (hd : ∃ b, Cip w d L b) (h2 : ∃ b, Cip w' c K b) (ho : w.grownBy w' (some c)) : ∃ b, Cip w' d L b := by
  obtain ⟨b, hc⟩ := hc
  obtain ⟨b', hd⟩ := hd
  obtain ⟨b2, h2⟩ := h2
  by_cases e : d = c
  · subst e
    exact ⟨b2, cip_same hc hd h2⟩
  · exact ⟨b', Blk.only hd ho e⟩
end
set_option maxRecDepth 100000 in
theorem made_any (g c d : Nat) (w : World) (hm : Md w g c d) :
    Calls Try.prog 19 #[.pointer (some ⟨g, 0, none⟩)] w fun e w' => e = .returned (.bool true) ∧ w = w' := by
  have h0 := hm.data
  unfold pt at h0
  go_enter Try.func19, Try.ntmps19
  go_wp2_with fail
  go_ret
  exact ⟨rfl, rfl⟩
set_option maxRecDepth 100000 in
theorem made_nil (w : World) :
    Calls Try.prog 19 #[.pointer none] w fun e w' => e = .returned (.bool false) ∧ w = w' := by
  go_enter Try.func19, Try.ntmps19
  go_wp2_with fail
  go_ret
  exact ⟨rfl, rfl⟩
/-- A mode that New did not make. -/
def Emp (w : World) (g : Nat) : Prop := Blk w g 47 #[.pointer none, .pointer none]
set_option maxRecDepth 100000 in
theorem made_emp (g : Nat) (w : World) (hm : Emp w g) :
    Calls Try.prog 19 #[.pointer (some ⟨g, 0, none⟩)] w fun e w' => e = .returned (.bool false) ∧ w = w' := by
  have h0 : w.cell? ⟨g, 0, none⟩ = some (.pointer none) := Blk.cell hm 0
  go_enter Try.func19, Try.ntmps19
  go_wp2_with fail
  go_ret
  exact ⟨rfl, rfl⟩
set_option maxHeartbeats 400000 in
set_option maxRecDepth 100000 in
theorem first_any (K : Nat → Nat) (hK : Bt K) (n : Nat) (hn : n < 18446744073709551616) (g c d : Nat) (b : Bool) (w : World) (hm : Md w g c d) (hd : Cip w d K b) :
    Calls Try.prog 21 #[.pointer (some ⟨g, 0, none⟩), .int .u64 n] w fun e w' => e = .returned (.agg (ar 16 (AesM.sealM K (XtM.tw n)))) ∧ Below w.heap.size w w' := by
  have HK := hid hK
  have HM := hid hm
  have HD := hid hd
  have hgl := hm.lt
  have hdl := cip_lt hd
  clear hK hm hd
  go_enter Try.func21, Try.ntmps21
  go_upto_region 2 with (with_reducible apply alA tBk)
  generalize hw3 : World.alloc (World.alloc w _) _ = w3
  have b1 : Blk w3 w.heap.size 35 (ar 16 fun _ => 0) := by rw [← hw3]; exact (Blk.new _ _ _).alloc _
  have b2 : Blk w3 (w.heap.size + 1) 35 (ar 16 fun _ => 0) := by rw [← hw3]; exact Blk.top rfl (by simp)
  have hb : Below w.heap.size w w3 := by rw [← hw3]; exact ((Below.refl _ _).alloc (Nat.le_refl _) _).alloc (by simp) _
  clear hw3
  go_wp2_with fail
  go_loopw [1, 7] (fun m i wr => ∃ k : Nat, k ≤ 16 ∧ i = .int .i64 k ∧ m = .int .u64 (n / 256 ^ k : Nat) ∧ Blk wr w.heap.size 35 (ar 16 fun _ => 0) ∧ Blk wr (w.heap.size + 1) 35 (ar 16 (upTo k (fun _ => 0) (XtM.tw n))) ∧ Below w.heap.size w wr) (fun _ i _ => 16 - (intOf i).toNat)
  case atStart => exact ⟨0, by omega, rfl, by rw [Nat.pow_zero, Nat.div_one], b1, by rw [upTo_zero]; exact b2, hb⟩
  case round =>
    clear b1 b2 hb
    obtain ⟨k, hk, rfl, rfl, b1, b2, hb⟩ := hrel
    obtain ⟨p, hp⟩ : ∃ p, p = n / 256 ^ k := ⟨_, rfl⟩
    have hpl : p ≤ n := by rw [hp]; exact Nat.div_le_self _ _
    rw [← hp]
    have H8 : IntKind.u8.wrap (p : Int) = ((XtM.tw n k : Nat) : Int) := by rw [IntKind.wrap_u8]; unfold XtM.tw; rw [← hp]; omega
    have HS := hid (show (p : Int) / 256 = ((n / 256 ^ (k + 1) : Nat) : Int) by rw [Nat.pow_succ, ← Nat.div_div_eq_div_mul, ← hp]; omega)
    clear hp
    by_cases hlt : k < 16
    · have tk : (k : Int) < 16 := by omega
      have c3 := b2.frozen k
      have e3 := (b2.cell k).trans (get_ar hlt)
      go_wp2_with fail
      go_roundw
      case rel => exact ⟨k + 1, by omega, by go_num, by rw [HS.out], b1.setCell_other (by simp) _, upTo_step (b2.setCell_same k _), hb.setCell (by simp) _⟩
      case measure => simp [intOf]; omega
    · have tk : decide ((k : Int) < 16) = false := by simp; omega
      obtain rfl : k = 16 := by omega
      rw [upTo_all (by omega)] at b2
      go_wp2_with fail
      have B1 := hid b1
      have B2 := hid b2
      have HB := hid hb
      have M1 := hid (show Md wr g c d from Blk.below HM.out hb hgl)
      have D1 := hid (show Cip wr d K b from Blk.below HD.out hb hdl)
      clear b1 b2 hb HM HD
      refine wp_region_tail (C := fun w' => Below wr.heap.size wr w') 6 (by kernel_rfl) (by kernel_rfl) (by kernel_rfl) (Below.refl _ _).drew ?_
      simp only [List.take_succ_cons, List.take_zero, List.drop_succ_cons, List.drop_zero]
      apply wpK_val
      · rfl
      · intro w' hw'
        go_simp
        first | exact rfl | exact ⟨rfl, hw'⟩
      simp only [Act.put, List.setIfInBounds_toArray, List.set_cons_succ, List.set_cons_zero]
      apply wpK_val
      · rfl
      · intro w' hw'
        go_simp
        first | exact rfl | exact ⟨rfl, hw'⟩
      simp only [Act.put, List.setIfInBounds_toArray, List.set_cons_succ, List.set_cons_zero]
      apply wpK_val
      · rfl
      · intro w' hw'
        go_simp
        first | exact rfl | exact ⟨rfl, hw'⟩
      simp only [Act.put, List.setIfInBounds_toArray, List.set_cons_succ, List.set_cons_zero]
      apply wpK_val
      · rfl
      · intro w' hw'
        have hcell := (show Md w' g c d from Blk.below M1.out hw' M1.out.lt).tweak
        go_simp
        first | exact rfl | exact ⟨rfl, hw'⟩
      simp only [Act.put, List.setIfInBounds_toArray, List.set_cons_succ, List.set_cons_zero]
      apply kldA tBk
      · rfl
      · rfl
      · exact fun w' hw' => (B2.out.below hw' B2.out.lt).head
      simp only [Act.put, List.setIfInBounds_toArray, List.set_cons_succ, List.set_cons_zero]
      apply wpK_val
      · rfl
      · intro w' hw'
        go_simp
        exact (seal_any K (XtM.tw n) b HK.out (XtM.tw_bt n) d w' (Blk.below D1.out hw' (cip_lt D1.out))).mono fun e w2 h => ⟨h.1, hw'.trans (h.2.mono hw'.size)⟩
      simp only [Act.put, List.setIfInBounds_toArray, List.set_cons_succ, List.set_cons_zero]
      refine wpK_nil fun w5 hw5 => ?_
      have x1 := B1.out.below hw5 B1.out.lt
      have xb := HB.out.trans (hw5.mono HB.out.size)
      clear B1 B2 HB M1 D1 hw5
      go_wp2_with ((with_reducible apply stA tBk); rfl; rfl; exact x1)
      apply ret_ar tBk Try.results21
      · rfl
      · rfl
      · exact x1.setRow_same _
      exact ⟨rfl, below_setRow xb (by omega) _⟩
end XtP
end Go.Proofs.Ytfnepbkgmopjcaa
