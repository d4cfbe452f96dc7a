/-
  Contracts of casematelaw07.steps and casematelaw07.awake; of Seal and Open of what New did not make.
-/
import Derived.Test.YtbgpboplpdljoaaAesOp
import Derived.Test.YtbgpboplpdljoaaAesE
import Derived.Test.YtbgpboplpdljoaaRegSet
import Derived.Test.YtbgpboplpdljoaaRegEx
namespace Go.Proofs.Ytbgpboplpdljoaa
open Go.ChangeShapes Go.WideShapes Go.ChangeAt Go.RowKit
open AesM (Bt ls Q16)
attribute [local go_sem] Gives GivesE
section
variable {a : Act} {w : World} {g h n m : Nat} {f f' : Nat → Nat} {T U : TypeId}
theorem run_ar_var {t : TypeId} (hT : ArT T n) (hb : Blk w g t (ar n f)) : (loadVar T ⟨g, 0, none⟩).run Try.prog w = .ok (.agg (ar n f)) w := by
  obtain ⟨d, h1, h2⟩ := hT.desc
  have := run_loadVar_mid (P := Try.prog) w g 0 T (ar n f).toList _ hb.head h1 h2 (hT.size.trans (by rw [Array.length_toList, size_ar]))
  rwa [Array.toArray_toList] at this
theorem ret_ar2 {t u : TypeId} {fn : Func} {R : Ending → World → Prop} {p q : Tmp} (hT : ArT T n) (hU : ArT U m) (hr : fn.results = #[.cell p T, .cell q U]) (hp : a.tmps.getD p undef = .pointer (some ⟨g, 0, none⟩)) (hq : a.tmps.getD q undef = .pointer (some ⟨h, 0, none⟩))
    (hdf : a.defers = []) (hb : Blk w g t (ar n f)) (hb' : Blk w h u (ar m f')) (hR : R (.returned (.tuple #[.agg (ar n f), .agg (ar m f')])) w) : bodyPost Try.prog fn R .ret a w := by
  refine bodyPost_ret ?_ hdf hR
  have hp' : a.tmps[p]?.getD undef = .pointer (some ⟨g, 0, none⟩) := by simpa using hp
  have hq' : a.tmps[q]?.getD undef = .pointer (some ⟨h, 0, none⟩) := by simpa using hq
  simp [results, hr, hp', hq', asAddr, run_ar_var hT hb, run_ar_var hU hb']
end
section
variable {ops : Array Oper} {a : Act} {rest : List Oper} {dst : Option Tmp} {ty : TypeId} {pos : String} {after : Array Edge} {x y : Operand} {g o n k : Nat} {f : Nat → Nat} {T : TypeId} {st : Nat → Bool} {D : (Nat → Bool) → World → Prop} {Qk : Act → Prop} {gd : Option (Nat × Bool)}
theorem mldA (hT : ArT T n) (hk : st k = false) (hwt : Region.wanted ⟨dst, .load T x, ty, pos, after, gd⟩ (yielded ops a.tmps) = true) (hx : a.eval x = .pointer (some ⟨g, o, none⟩)) (hb : ∀ d w, D d w → w.rangeAt g o (ar n f).toList) (h : wpM Try.prog ops st D Qk (k + 1) rest (a.put dst (.agg (ar n f)))) :
    wpM Try.prog ops st D Qk k (⟨dst, .load T x, ty, pos, after, gd⟩ :: rest) a :=
  wpM_val hk hwt (fun d w hw => gives_value (w' := w) (by simp only [execOp, hx, Sem.run_bind, run_ldm hT (hb d w hw), Result.andThen_ok, Sem.run_pure]) hw) h
theorem mstA {t : TypeId} (hT : ArT T n) (hk : st k = true) (hwt : Region.wanted ⟨dst, .store T x y, ty, pos, after, gd⟩ (yielded ops a.tmps) = true) (hx : a.eval x = .pointer (some ⟨g, 0, none⟩)) (hy : a.eval y = .agg (ar n f))
    (hb : ∀ d w, d k = false → D d w → ∃ f0, Blk w g t (ar n f0)) (hD : ∀ d w, d k = false → D d w → D (upB d k) (w.setRow g (ar n f))) (h : wpM Try.prog ops st D Qk (k + 1) rest (a.put dst undef)) :
    wpM Try.prog ops st D Qk k (⟨dst, .store T x y, ty, pos, after, gd⟩ :: rest) a :=
  wpM_put hk hwt (fun d w hd hw => gives_skip (w' := w.setRow g (ar n f)) (by
    obtain ⟨f0, hb0⟩ := hb d w hd hw
    have := run_storeVar_row (P := Try.prog) w g t T (ar n f0) (ar n f) hb0 (hT.size.trans (by rw [size_ar])) (by rw [size_ar, size_ar]) ar_one
    simp only [execOp, hx, hy, Instr.storeAt, Instr.sureAddr, Sem.run_bind, this, Result.andThen_ok, Sem.run_pure]) (hD d w hd hw)) h
end
namespace AesP
/-- Two stores: how far. -/
def T2 (g0 g1 g2 g3 : Nat) (B : Nat) (w : World) (K F : Nat → Nat) (d : Nat → Bool) (w' : World) : Prop :=
  Blk w' g2 23 (ar 32 K) ∧ Blk w' g3 24 (ar 16 F) ∧ Blk w' g0 23 (ar 32 (if d 2 then K else fun _ => 0)) ∧ Blk w' g1 24 (ar 16 (if d 3 then F else fun _ => 0)) ∧ Below B w w'
theorem exK_at : ∀ i, i < 32 → ls AesM.exK i = i := by decide
theorem exB_at : ∀ i, i < 16 → ls AesM.exB i = 17 * i := by decide
set_option maxHeartbeats 400000 in
set_option maxRecDepth 100000 in
theorem steps_any (w : World) :
    Calls Try.prog 15 #[] w fun e w' => e = .returned (.tuple #[.agg (ar 32 (ls AesM.exK)), .agg (ar 16 (ls AesM.exB))]) ∧ Below w.heap.size w w' := by
  go_enter Try.func15, Try.ntmps15
  go_upto_region 3 with (first | (with_reducible apply alA tKey) | (with_reducible apply alA tBk))
  generalize hw3 : World.alloc (World.alloc (World.alloc (World.alloc w _) _) _) _ = w3
  have b0 := hid (show Blk w3 w.heap.size 23 (ar 32 fun _ => 0) by rw [← hw3]; exact (((Blk.new _ _ _).alloc _).alloc _).alloc _)
  have b1 := hid (show Blk w3 (w.heap.size + 1) 24 (ar 16 fun _ => 0) by rw [← hw3]; exact ((Blk.top rfl (by simp)).alloc _).alloc _)
  have b2 := hid (show Blk w3 (w.heap.size + 2) 23 (ar 32 fun _ => 0) by rw [← hw3]; exact (Blk.top rfl (by simp)).alloc _)
  have b3 := hid (show Blk w3 (w.heap.size + 3) 24 (ar 16 fun _ => 0) by rw [← hw3]; exact Blk.top rfl (by simp))
  have hb := hid (show Below w.heap.size w w3 by rw [← hw3]; exact ((((Below.refl _ _).alloc (Nat.le_refl _) _).alloc (by simp) _).alloc (by simp; omega) _).alloc (by simp; omega) _)
  clear hw3
  go_wp2_with fail
  go_loopw [4] (fun i wr => ∃ k : Nat, k ≤ 32 ∧ i = .int .i64 k ∧ Hid (Blk wr w.heap.size 23 (ar 32 fun _ => 0)) ∧ Hid (Blk wr (w.heap.size + 1) 24 (ar 16 fun _ => 0)) ∧ Hid (Blk wr (w.heap.size + 2) 23 (ar 32 (upTo k (fun _ => 0) fun i => i))) ∧ Hid (Blk wr (w.heap.size + 3) 24 (ar 16 fun _ => 0)) ∧ Hid (Below w.heap.size w wr)) (fun i _ => 32 - (intOf i).toNat)
  case atStart => exact ⟨0, by omega, rfl, b0, b1, by rw [upTo_zero]; exact b2, b3, hb⟩
  case round =>
    clear b0 b1 b2 b3 hb
    obtain ⟨k, hk, rfl, b0, b1, b2, b3, hb⟩ := hrel
    by_cases hlt : k < 32
    · have tk : (k : Int) < 32 := by omega
      have c2 := (b2.out.cell k).trans (get_ar hlt)
      have f2 := b2.out.frozen k
      have e1 : IntKind.u8.wrap (k : Int) = (k : Int) := by rw [IntKind.wrap_u8]; omega
      go_wp2_with fail
      go_roundw
      case rel => exact ⟨k + 1, by omega, by go_num, hid (b0.out.setCell_other (by first | (simp; done) | (simp; omega)) _), hid (b1.out.setCell_other (by first | (simp; done) | (simp; omega)) _), hid (upTo_step (b2.out.setCell_same k _)), hid (b3.out.setCell_other (by first | (simp; done) | (simp; omega)) _), hid (hb.out.setCell (by first | (simp; done) | (simp; omega)) _)⟩
      case measure => simp [intOf]; omega
    · have tk : decide ((k : Int) < 32) = false := by simp; omega
      have c2 := b2.out
      rw [upTo_all (by omega), ar_ext (g := ls AesM.exK) fun i hi => (exK_at i hi).symm] at c2
      have c2 := hid c2
      clear b2
      go_wp2_with fail
      go_loopw [5] (fun i wr => ∃ k : Nat, k ≤ 16 ∧ i = .int .i64 k ∧ Hid (Blk wr w.heap.size 23 (ar 32 fun _ => 0)) ∧ Hid (Blk wr (w.heap.size + 1) 24 (ar 16 fun _ => 0)) ∧ Hid (Blk wr (w.heap.size + 2) 23 (ar 32 (ls AesM.exK))) ∧ Hid (Blk wr (w.heap.size + 3) 24 (ar 16 (upTo k (fun _ => 0) fun i => 17 * i))) ∧ Hid (Below w.heap.size w wr)) (fun i _ => 16 - (intOf i).toNat)
      case atStart => exact ⟨0, by omega, rfl, b0, b1, c2, by rw [upTo_zero]; exact b3, hb⟩
      case round =>
        clear b0 b1 c2 b3 hb
        obtain ⟨k, hk, rfl, b0, b1, b2, b3, hb⟩ := hrel
        by_cases hlt : k < 16
        · have tk : (k : Int) < 16 := by omega
          have c3 := (b3.out.cell k).trans (get_ar hlt)
          have f3 := b3.out.frozen k
          have e1 : IntKind.u8.wrap (17 * (k : Int)) = ((17 * k : Nat) : Int) := by rw [IntKind.wrap_u8]; omega
          go_wp2_with fail
          go_roundw
          case rel =>
            refine ⟨k + 1, by omega, by go_num, hid (b0.out.setCell_other (by first | (simp; done) | (simp; omega)) _), hid (b1.out.setCell_other (by first | (simp; done) | (simp; omega)) _), hid (b2.out.setCell_other (by first | (simp; done) | (simp; omega)) _), hid ?_, hid (hb.out.setCell (by first | (simp; done) | (simp; omega)) _)⟩
            have h := upTo_step (h := fun i => 17 * i) (b3.out.setCell_same k (.int .u8 (17 * k : Nat)))
            exact h
          case measure => simp [intOf]; omega
        · have tk : decide ((k : Int) < 16) = false := by simp; omega
          have c3 := b3.out
          rw [upTo_all (by omega), ar_ext (g := ls AesM.exB) fun i hi => (exB_at i hi).symm] at c3
          go_wp2_with fail
          refine wp_region_set (D := T2 w.heap.size (w.heap.size + 1) (w.heap.size + 2) (w.heap.size + 3) w.heap.size w (ls AesM.exK) (ls AesM.exB)) (fun j => decide (j = 2) || decide (j = 3)) 4 (fun j hj => by simp at hj; omega) (by kernel_rfl) (by kernel_rfl) (by kernel_rfl)
            (fun d d' w hd h => by unfold T2 at h ⊢; rw [← hd 2 rfl, ← hd 3 rfl]; exact h) ⟨b2.out.drew, c3.drew, b0.out.drew, b1.out.drew, hb.out.drew⟩ ?_
          simp only [List.take_succ_cons, List.take_zero, List.drop_succ_cons, List.drop_zero]
          apply mldA tKey
          · rfl
          · rfl
          · rfl
          · exact fun d w' h => h.1.head
          simp only [Act.put, List.setIfInBounds_toArray, List.set_cons_succ, List.set_cons_zero]
          apply mldA tBk
          · rfl
          · rfl
          · rfl
          · exact fun d w' h => h.2.1.head
          simp only [Act.put, List.setIfInBounds_toArray, List.set_cons_succ, List.set_cons_zero]
          apply mstA tKey
          · rfl
          · rfl
          · rfl
          · rfl
          · exact fun d w' _ h => ⟨_, h.2.2.1⟩
          · exact fun d w' hd h => ⟨h.1.setRow_other (by omega) _, h.2.1.setRow_other (by omega) _, by unfold upB; simp only [if_true]; exact h.2.2.1.setRow_same _, h.2.2.2.1.setRow_other (by omega) _, below_setRow h.2.2.2.2 (by omega) _⟩
          simp only [Act.put]
          apply mstA tBk
          · rfl
          · rfl
          · rfl
          · rfl
          · exact fun d w' _ h => ⟨_, h.2.2.2.1⟩
          · exact fun d w' hd h => ⟨h.1.setRow_other (by omega) _, h.2.1.setRow_other (by omega) _, h.2.2.1.setRow_other (by omega) _, by unfold upB; simp only [if_true]; exact h.2.2.2.1.setRow_same _, below_setRow h.2.2.2.2 (by omega) _⟩
          simp only [Act.put]
          refine wpM_nil fun w5 h5 => ?_
          have d0 := h5.2.2.1
          have d1 := h5.2.2.2.1
          simp only [if_true] at d0 d1
          have db := h5.2.2.2.2
          clear b0 b1 b2 b3 c3 hb h5
          go_wp2_with fail
          apply ret_ar2 tKey tBk Try.results15
          · rfl
          · rfl
          · rfl
          · exact d0
          · exact d1
          exact ⟨rfl, db⟩
end AesP
end Go.Proofs.Ytbgpboplpdljoaa
