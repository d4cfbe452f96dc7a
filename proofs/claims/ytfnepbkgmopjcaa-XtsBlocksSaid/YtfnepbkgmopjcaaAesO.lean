/-
  sync.Once, and the making of the other box: contracts of (*sync.Once).Do, (*aes.Cipher).otherBox.
-/
import Derived.Test.YtfnepbkgmopjcaaAesSe
import Derived.Tactics
import Derived.Tactics2
import Derived.Defers
import Derived.Laws.Pointers
import Derived.Laws.LoneSync
import Derived.Laws.NewBlocks
import Derived.RegionTactic
import Derived.RegionCalls
namespace Go.Proofs.Ytfnepbkgmopjcaa
open Go.ChangeShapes Go.WideShapes Go.ChangeAt Go.RowKit
open AesM (Bt)
attribute [local go_sem] Gives
namespace AesP
theorem disable (w : World) : (callFunc 65 #[]).run Try.prog w = .ok (.value (.tuple #[])) w := run_call_mark0 Try.func65 (by kernel_rfl) (by kernel_rfl) (by kernel_rfl) .disable (by kernel_rfl) w
theorem enable (w : World) : (callFunc 67 #[]).run Try.prog w = .ok (.value (.tuple #[])) w := run_call_mark0 Try.func67 (by kernel_rfl) (by kernel_rfl) (by kernel_rfl) .enable (by kernel_rfl) w
theorem acquire (a : Addr) (w : World) : (callFunc 68 #[.pointer (some a)]).run Try.prog w = .ok (.value (.tuple #[])) w := run_call_marked Try.func68 (by kernel_rfl) (by kernel_rfl) (by kernel_rfl) .acquire (by kernel_rfl) a w
theorem releaseMerge (a : Addr) (w : World) : (callFunc 70 #[.pointer (some a)]).run Try.prog w = .ok (.value (.tuple #[])) w := run_call_marked Try.func70 (by kernel_rfl) (by kernel_rfl) (by kernel_rfl) .releaseMerge (by kernel_rfl) a w
/-- The mark stored, as a deferred call. -/
theorem store_deferred (a : Addr) (x : Value) (u : FrameMode) (w : World) (hc : w.cell? a = some x) (hz : w.frozen? a = false) :
    CallsD Try.prog 60 #[.pointer (some a), .bool true] u w fun e u' w' => u' = u ∧ (e = .returned (.tuple #[]) ∧ w' = w.drew.setCell a (.int .u32 1)) := by
  have hc' : w.drew.cell? a = some x := by go_simp
  have hz' : w.drew.frozen? a = false := by go_simp
  have hst := run_call_store (P := Try.prog) Try.func63 (by kernel_rfl) (by kernel_rfl) (by kernel_rfl) (by kernel_rfl) (k := .u32) (y := 1) hc' hz'
  go_enter_d Try.func60, Try.ntmps60
  go_wp2
  go_region_calls
  all_goals (go_end0; exact ⟨rfl, rfl⟩)
set_option maxRecDepth 100000 in
/-- The lock let go, as a deferred call. -/
theorem unlock_deferred (a : Addr) (u : FrameMode) (w : World) (hc : w.cell? a = some (.int .i32 1)) (hz : w.frozen? a = false) :
    CallsD Try.prog 59 #[.pointer (some a)] u w fun e u' w' => u' = u ∧ (e = .returned (.tuple #[]) ∧ w' = w.setCell a (.int .i32 0)) := by
  have hd := disable
  have he := enable
  have hr := releaseMerge
  have hadd := run_call_add (P := Try.prog) Try.func71 (by kernel_rfl) (by kernel_rfl) (by kernel_rfl) .i32 (by kernel_rfl) (y := -1) (s := 0) hc hz (by simp [go_sem]; rfl)
  have hcv := run_convert_to_unsafe (P := Try.prog) (src := 109) (dst := 113) Try.underlying109 Try.underlying113 (by kernel_rfl) hc
  go_enter_d Try.func59, Try.ntmps59
  go_wp2
  go_end0
  go_wp2
  go_end0
  exact ⟨rfl, rfl⟩
set_option maxRecDepth 100000 in
/-- The lock taken. -/
theorem lock_free (a : Addr) (w : World) (hc : w.cell? a = some (.int .i32 0)) (hz : w.frozen? a = false) :
    Calls Try.prog 58 #[.pointer (some a)] w fun e w' => e = .returned (.tuple #[]) ∧ w' = w.setCell a (.int .i32 1) := by
  have hd := disable
  have he := enable
  have ha := acquire
  have hcas := run_call_cas_hit (P := Try.prog) Try.func66 (by kernel_rfl) (by kernel_rfl) (by kernel_rfl) .i32 (by kernel_rfl) (y := 1) hc hz
  have hc' : (w.setCell a (.int .i32 1)).cell? a = some (.int .i32 1) := World.cell?_setCell_same w a _ hc
  have hcv := run_convert_to_unsafe (P := Try.prog) (src := 109) (dst := 113) Try.underlying109 Try.underlying113 (by kernel_rfl) hc'
  go_enter Try.func58, Try.ntmps58
  go_wp2
  first | go_end0 | (simp only [Exit.inBlock, Exit.then]; refine bodyPost_ret (results_none rfl _ _ _) rfl ?_) | refine bodyPost_ret (results_none rfl _ _ _) rfl ?_
  go_wp2
  go_end0
  exact ⟨rfl, rfl⟩
/-- A cipher's cells; the lock holds s. -/
def cipS (s : Nat) (m : Bool) (K B O : Nat → Nat) (d : Nat) : Array Value := row 756 fun j => if j = 498 then .int .i32 s else cipC m K B O d j
section
variable {w w' : World} {g s : Nat} {K B O : Nat → Nat} {d : Nat} {m : Bool} {t : TypeId}
theorem cipS_zero : cipS 0 m K B O d = cip m K B O d := row_ext fun j _ => by
  by_cases h : j = 498
  · subst h; rfl
  · rw [if_neg h]
theorem cipS_at (h : Blk w g t (cipS s m K B O d)) {j : Nat} (hj : j < 756) : w.cell? ⟨g, j, none⟩ = some (if j = 498 then .int .i32 s else cipC m K B O d j) := (h.cell j).trans (get_row_lt hj)
theorem cipS_box (h : Blk w g t (cipS s m K B O d)) : w.rangeAt g 241 (ar 256 B).toList := fun j v hv => by
  obtain ⟨h1, rfl⟩ := ar_list_get hv
  rw [cipS_at h (by omega), if_neg (by omega)]
  unfold cipC
  rw [if_neg (by omega), if_neg (by omega), if_pos (by omega), show 241 + j - 241 = j by omega]
theorem cipS_setS (h : Blk w g t (cipS s m K B O d)) (s' : Nat) : Blk (w.setCell ⟨g, 498, none⟩ (.int .i32 (s' : Nat))) g t (cipS s' m K B O d) := by
  have h1 := h.setCell_same 498 (.int .i32 (s' : Nat))
  unfold cipS at h1
  rw [row_set, row_ext (g := fun j => if j = 498 then .int .i32 s' else cipC m K B O d j) fun j _ => ?_] at h1
  · exact h1
  · by_cases e : j = 498
    · rw [if_pos e, if_pos e]
    · rw [if_neg e, if_neg e, if_neg e]
theorem cipS_setO (h : Blk w g t (cipS s m K B O d)) {p v : Nat} (hp : p < 256) : Blk (w.setCell ⟨g, 500 + p, none⟩ (.int .u8 (v : Nat))) g t (cipS s m K B (fun j => if j = p then v else O j) d) := by
  have h1 := h.setCell_same (500 + p) (.int .u8 (v : Nat))
  unfold cipS at h1
  rw [row_set, row_ext (g := fun j => if j = 498 then .int .i32 s else cipC m K B (fun j => if j = p then v else O j) d j) fun j hj => ?_] at h1
  · exact h1
  · rw [← cipC_setO hp hj]
    by_cases e : j = 500 + p
    · rw [if_pos e, if_neg (by omega), if_pos e]
    · rw [if_neg e]
      by_cases e2 : j = 498
      · rw [if_pos e2, if_pos e2]
      · rw [if_neg e2, if_neg e2, if_neg e]
theorem cipC_congr {O O' : Nat → Nat} (h : ∀ i, i < 256 → O i = O' i) {j : Nat} (hj : j < 756) : cipC m K B O d j = cipC m K B O' d j := by
  unfold cipC
  by_cases h5 : j < 500
  · by_cases h6 : j = 499
    · subst h6; rfl
    · by_cases h7 : j = 498
      · subst h7; rfl
      · by_cases h8 : j = 497
        · subst h8; rfl
        · by_cases h9 : j = 0
          · subst h9; rfl
          · rw [if_neg h9, if_neg h9]
            by_cases h10 : j < 241
            · rw [if_pos h10, if_pos h10]
            · rw [if_neg h10, if_neg h10, if_pos (show j < 497 by omega), if_pos (show j < 497 by omega)]
  · rw [h (j - 500) (by omega)]
theorem cipS_other : cipS s m K B (AesM.setTo AesM.boxF (fun a => a) 256) d = cipS s m K B AesM.oboxF d := row_ext fun j hj => by
  rw [cipC_congr (fun i hi => AesM.obox_at hi) hj]
theorem cipS_setD (h : Blk w g t (cipS s m K B O d)) (d' : Nat) : Blk (w.setCell ⟨g, 497, none⟩ (.int .u32 (d' : Nat))) g t (cipS s m K B O d') := by
  have h1 := h.setCell_same 497 (.int .u32 (d' : Nat))
  unfold cipS at h1
  rw [row_set, row_ext (g := fun j => if j = 498 then .int .i32 s else cipC m K B O d' j) fun j _ => ?_] at h1
  · exact h1
  · rw [← cipC_setD (d := d) (d' := d')]
    by_cases e : j = 497
    · rw [if_pos e, if_neg (by omega), if_pos e]
    · rw [if_neg e]
      by_cases e2 : j = 498
      · rw [if_pos e2, if_pos e2]
      · rw [if_neg e2, if_neg e2, if_neg e]
end
set_option maxRecDepth 100000 in
/-- The function that Do calls: the other box is made. -/
theorem make_any (g pl : Nat) (s : Nat) (K : Nat → Nat) (w : World) (hne : pl ≠ g) (hp : w.cell? ⟨pl, 0, none⟩ = some (.pointer (some ⟨g, 0, none⟩))) (hc : Blk w g 74 (cipS s true K AesM.boxF (fun _ => 0) 0)) :
    Calls Try.prog 52 #[.pointer (some ⟨pl, 0, none⟩)] w fun e w' => e = .returned (.tuple #[]) ∧ Blk w' g 74 (cipS s true K AesM.boxF AesM.oboxF 0) ∧ w.grownBy w' (some g) := by
  have HC := hid hc
  have hR := cipS_box hc
  clear hc
  go_enter Try.func52, Try.ntmps52
  go_wp2_with ((with_reducible apply ldAm tTb); rfl; exact hR)
  go_loopw [7] (fun i wr => ∃ k : Nat, k ≤ 256 ∧ i = .int .i64 k ∧ Hid (wr.cell? ⟨pl, 0, none⟩ = some (.pointer (some ⟨g, 0, none⟩))) ∧ Hid (Blk wr g 74 (cipS s true K AesM.boxF (AesM.setTo AesM.boxF (fun a => a) k) 0)) ∧ Hid (w.grownBy wr (some g))) (fun i _ => 256 - (intOf i).toNat)
  case atStart => exact ⟨0, by omega, rfl, hid hp, HC, hid (only_refl _ _)⟩
  case round =>
    clear hp HC hR
    obtain ⟨k, hk, rfl, hp, hc, ho⟩ := hrel
    by_cases hlt : k < 256
    · have tk : (k : Int) < 256 := by omega
      have hI := fun w => run_index_ar (f := AesM.boxF) uTb hlt w
      have hb := AesM.boxF_lt k
      have tb : ((AesM.boxF k : Nat) : Int) < 256 := by omega
      have c1 := hp.out
      have c2 := cipS_at hc.out (show 500 + AesM.boxF k < 756 by omega)
      have c3 := hc.out.frozen (500 + AesM.boxF k)
      have e1 : IntKind.u8.wrap (k : Int) = (k : Int) := by rw [IntKind.wrap_u8]; omega
      go_wp2_with fail
      go_roundw
      case rel => exact ⟨k + 1, by omega, by go_num, hid ((cell_other (by simpa using hne)).trans hp.out), hid (cipS_setO hc.out hb), hid (only_cell ho.out _ _)⟩
      case measure => simp [intOf]; omega
    · have tk : decide ((k : Int) < 256) = false := by simp; omega
      obtain rfl : k = 256 := by omega
      go_wp2_with fail
      go_end0
      refine ⟨rfl, ?_, ho.out⟩
      have h := hc.out
      rw [cipS_other] at h
      exact h
set_option maxRecDepth 100000 in
set_option maxHeartbeats 1600000 in
theorem slow_any (g pl : Nat) (K : Nat → Nat) (w : World) (hne : pl ≠ g) (hp : w.cell? ⟨pl, 0, none⟩ = some (.pointer (some ⟨g, 0, none⟩))) (hc : Blk w g 74 (cip true K AesM.boxF (fun _ => 0) 0)) :
    Calls Try.prog 56 #[.pointer (some ⟨g, 497, none⟩), .func (.func 52) #[] #[.pointer (some ⟨pl, 0, none⟩)]] w fun e w' =>
      e = .returned (.tuple #[]) ∧ Blk w' g 74 (cip true K AesM.boxF AesM.oboxF 1) ∧ w.grownBy w' (some g) := by
  rw [← cipS_zero] at hc
  have c0 : w.cell? ⟨g, 498, none⟩ = some (.int .i32 0) := cipS_at hc (by omega)
  have f0 := hc.frozen 498
  have H1 := hid (cipS_setS hc 1)
  have P1 := hid (show (w.setCell ⟨g, 498, none⟩ (.int .i32 (1 : Nat))).cell? ⟨pl, 0, none⟩ = some (.pointer (some ⟨g, 0, none⟩)) from (cell_other (by simpa using hne)).trans hp)
  have hl := run_call_load (P := Try.prog) Try.func57 (by kernel_rfl) (by kernel_rfl) (by kernel_rfl) .u32 (by kernel_rfl) (w := w.setCell ⟨g, 498, none⟩ (.int .i32 1)) (a := ⟨g, 497, none⟩) (x := 0) (cipS_at H1.out (j := 497) (by omega))
  have hnot : ∀ (x : Bool) (w : World), (Op.unary .not (.bool x)).run Try.prog w = .ok (.bool (!x)) w := fun _ _ => rfl
  have HO := hid (only_cell (only_refl w g) 498 (.int .i32 1))
  clear hc hp
  go_enter_defers Try.func56, Try.ntmps56
  go_wp2_with (go_at_call 58; refine (lock_free ⟨g, 498, none⟩ _ c0 f0).mono ?_; rintro e w' ⟨rfl, rfl⟩)
  go_wp2_with (first | (go_at_call 52; refine (make_any g pl 1 K _ hne P1.out H1.out).mono ?_; rintro e w2 ⟨rfl, h2, ho2⟩) | (go_at_call 55; go_in))
  have fr := h2.frozen
  have d0 : w2.cell? ⟨g, 497, none⟩ = some (.int .u32 0) := cipS_at h2 (by omega)
  have d1 : w2.cell? ⟨g, 498, none⟩ = some (.int .i32 1) := cipS_at h2 (by omega)
  refine leaves_cons (f := 60) (args := #[.pointer (some ⟨g, 497, none⟩), .bool true]) (by simp) (by simp [go_sem]) ?_
  refine (store_deferred ⟨g, 497, none⟩ (.int .u32 0) .returning _ d0 (fr _)).mono ?_
  rintro e u' w'' ⟨rfl, rfl, rfl⟩
  refine leaves_cons (f := 59) (args := #[.pointer (some ⟨g, 498, none⟩)]) (by simp [settle]) (by simp [go_sem]) ?_
  have h3 : Blk (w2.drew.setCell ⟨g, 497, none⟩ (.int .u32 1)) g 74 (cipS 1 true K AesM.boxF AesM.oboxF 1) := cipS_setD (h2.drew) 1
  refine (unlock_deferred ⟨g, 498, none⟩ _ _ (cipS_at h3 (by omega)) (h3.frozen _)).mono ?_
  rintro e u' w'' ⟨rfl, rfl, rfl⟩
  have h4 := cipS_setS h3 0
  rw [cipS_zero] at h4
  have ho4 : w.grownBy ((w2.drew.setCell ⟨g, 497, none⟩ (.int .u32 1)).setCell ⟨g, 498, none⟩ (.int .i32 0)) (some g) := only_cell (only_cell (only_drew (only_trans HO.out ho2) (Drew.refl _)) _ _) _ _
  simp [Leaves, settle, results, Try.results56]
  exact ⟨h4, ho4⟩
set_option maxRecDepth 100000 in
set_option maxHeartbeats 1600000 in
theorem do_first (g pl : Nat) (K : Nat → Nat) (w : World) (hne : pl ≠ g) (hp : w.cell? ⟨pl, 0, none⟩ = some (.pointer (some ⟨g, 0, none⟩))) (hc : Blk w g 74 (cip true K AesM.boxF (fun _ => 0) 0)) :
    Calls Try.prog 51 #[.pointer (some ⟨g, 497, none⟩), .func (.func 52) #[] #[.pointer (some ⟨pl, 0, none⟩)]] w fun e w' =>
      e = .returned (.tuple #[]) ∧ Blk w' g 74 (cip true K AesM.boxF AesM.oboxF 1) ∧ w.grownBy w' (some g) := by
  have hl := run_call_load (P := Try.prog) Try.func57 (by kernel_rfl) (by kernel_rfl) (by kernel_rfl) .u32 (by kernel_rfl) (w := w) (a := ⟨g, 497, none⟩) (x := 0) (cip_at hc (j := 497) (by omega))
  have hnot : ∀ (x : Bool) (w : World), (Op.unary .not (.bool x)).run Try.prog w = .ok (.bool (!x)) w := fun _ _ => rfl
  have HC := hid hc
  have HP := hid hp
  clear hc hp
  go_enter Try.func51, Try.ntmps51
  go_wp2_with (first | (go_at_call 56; refine (slow_any g pl K _ hne HP.out HC.out).mono ?_; rintro e w2 ⟨rfl, h2, ho2⟩) | (go_at_call 55; go_in))
  go_end0
  exact ⟨rfl, h2, ho2⟩
set_option maxRecDepth 100000 in
theorem do_done (a : Addr) (fv : Value) (w : World) (h0 : w.cell? a = some (.int .u32 1)) :
    Calls Try.prog 51 #[.pointer (some a), fv] w fun e w' => e = .returned (.tuple #[]) ∧ w = w' := by
  have hl := run_call_load (P := Try.prog) Try.func57 (by kernel_rfl) (by kernel_rfl) (by kernel_rfl) .u32 (by kernel_rfl) h0
  have hnot : ∀ (x : Bool) (w : World), (Op.unary .not (.bool x)).run Try.prog w = .ok (.bool (!x)) w := fun _ _ => rfl
  go_enter Try.func51, Try.ntmps51
  go_wp2
  go_end0
  exact ⟨rfl, rfl⟩
end AesP
end Go.Proofs.Ytfnepbkgmopjcaa
