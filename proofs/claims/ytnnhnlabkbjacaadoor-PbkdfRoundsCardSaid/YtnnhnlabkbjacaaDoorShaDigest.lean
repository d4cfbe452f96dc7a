/-
  Contract of sha.digest over this translation.
-/
import Derived.Test.YtnnhnlabkbjacaaDoorShaPasses
namespace Go.Proofs.YtnnhnlabkbjacaaDoor
open Go.ChangeShapes Go.WideShapes Go.ChangeAt Go.RowKit
attribute [local go_sem] Gives
/-- 32 bytes. -/
def tag (f : Nat → Nat) : Array Value := row 32 fun j => .int .u8 (f j : Nat)
theorem size_tag {f : Nat → Nat} : (tag f).size = 32 := size_row
theorem get_tag {f : Nat → Nat} {k : Nat} (h : k < 32) : (tag f)[k]? = some (.int .u8 (f k : Nat)) := get_row_lt h
theorem tag_ext {f g : Nat → Nat} (h : ∀ k, k < 32 → f k = g k) : tag f = tag g := row_ext fun k hk => by rw [h k hk]
theorem tag_set {f : Nat → Nat} {k v : Nat} : (tag f).setIfInBounds k (.int .u8 (v : Nat)) = tag fun j => if j = k then v else f j := by
  unfold tag
  rw [row_set]
  exact row_ext fun j _ => by by_cases e : j = k <;> simp [e]
theorem tag_one {f : Nat → Nat} : (tag f).all (·.oneCell') = true := row_one fun _ _ => rfl
theorem zlit_tag : (#[.int .u8 0, .int .u8 0, .int .u8 0, .int .u8 0, .int .u8 0, .int .u8 0, .int .u8 0, .int .u8 0, .int .u8 0, .int .u8 0, .int .u8 0, .int .u8 0, .int .u8 0, .int .u8 0, .int .u8 0, .int .u8 0, .int .u8 0, .int .u8 0, .int .u8 0, .int .u8 0, .int .u8 0, .int .u8 0, .int .u8 0, .int .u8 0, .int .u8 0, .int .u8 0, .int .u8 0, .int .u8 0, .int .u8 0, .int .u8 0, .int .u8 0, .int .u8 0] : Array Value) = tag fun _ => 0 := by rfl
theorem info_tag : (Tryd.prog.info? 43).map (·.size) = some 32 := by kernel_rfl
section
variable {ops : Array Oper} {Q : Exit → Act → World → Prop} {a : Act} {w : World} {rest : List Oper} {dst : Option Tmp} {ty : TypeId} {pos : String} {after : Array Edge} {x y : Operand} {g : Nat} {f f0 : Nat → Nat}
theorem ldt (hx : a.eval x = .pointer (some ⟨g, 0, none⟩)) (hb : Blk w g 43 (tag f)) (h : wpList Tryd.prog ops Q rest (a.put dst (.agg (tag f))) w) :
    wpList Tryd.prog ops Q (⟨dst, .load 43 x, ty, pos, after, none⟩ :: rest) a w :=
  step_load_row hb Tryd.underlying43 rfl (info_tag.trans (by rw [size_tag])) hx h
theorem stt (hx : a.eval x = .pointer (some ⟨g, 0, none⟩)) (hy : a.eval y = .agg (tag f)) (hb : Blk w g 43 (tag f0)) (h : wpList Tryd.prog ops Q rest (a.put dst undef) (w.setRow g (tag f))) :
    wpList Tryd.prog ops Q (⟨dst, .store 43 x y, ty, pos, after, none⟩ :: rest) a w :=
  step_store_row hb (info_tag.trans (by rw [size_tag])) (by rw [size_tag, size_tag]) tag_one hx hy h
end
theorem run_index8 (f : Nat → Nat) {k : Nat} (hk : k < 8) (w : World) : (Instr.index 52 (.agg (num8 f)) (.int .i64 k)).run Tryd.prog w = .ok (.int .u32 (f k : Nat)) w := by
  have h1 : (0 : Int) ≤ (k : Int) ∧ (k : Int) < 8 := by omega
  simp [Instr.index, run_underlying Tryd.underlying52, asIntOf, h1, go_sem]
  rw [if_pos hk, get_num8 hk]; rfl
/-- The first c bytes of a digest. -/
def dg (s : ShaM.S8) (c : Nat) : Nat → Nat := fun j => if j < c then ShaM.digest s j else 0
theorem dg_zero (s : ShaM.S8) : dg s 0 = fun _ => 0 := funext fun j => by simp [dg]
theorem dg_step (s : ShaM.S8) (c : Nat) : (fun j => if j = c then ShaM.digest s c else dg s c j) = dg s (c + 1) := funext fun j => by
  unfold dg
  by_cases h : j = c
  · subst h; simp
  · simp only [h, if_false]
    by_cases h2 : j < c
    · rw [if_pos h2, if_pos (by omega)]
    · rw [if_neg h2, if_neg (by omega)]
theorem dg_full (s : ShaM.S8) : tag (dg s 32) = tag (ShaM.digest s) := tag_ext fun k hk => by unfold dg; rw [if_pos hk]
set_option maxHeartbeats 400000 in
set_option maxRecDepth 100000 in
theorem digest_any (s : ShaM.S8) (hs : s.ok) (w : World) :
    Calls Tryd.prog 38 #[.agg (num8 s.get)] w fun e w' => e = .returned (.agg (tag (ShaM.digest s))) ∧ Below w.heap.size w w' := by
  have HS := hid hs
  clear hs
  go_enter Tryd.func38, Tryd.ntmps38
  go_upto_region 2 with fail
  generalize hw3 : World.alloc (World.alloc (World.alloc w _) _) _ = w3
  have b1 : Blk w3 w.heap.size 52 (num8 s.get) := by rw [← hw3]; exact ((Blk.top rfl rfl).alloc _).alloc _
  have b2 : Blk w3 (w.heap.size + 1) 43 (tag fun _ => 0) := by rw [← hw3]; exact (Blk.top zlit_tag (by simp)).alloc _
  have b3 : Blk w3 (w.heap.size + 2) 43 (tag (dg s 0)) := by rw [← hw3, dg_zero]; exact Blk.top zlit_tag (by simp)
  have hb : Below w.heap.size w w3 := by rw [← hw3]; exact (((Below.refl _ _).alloc (Nat.le_refl _) _).alloc (by simp) _).alloc (by simp; omega) _
  clear hw3
  go_wp2_with ((with_reducible apply ldn); rfl; exact b1)
  clear b1
  go_loopw [8] (fun i wr => ∃ k : Nat, k ≤ 8 ∧ i = .int .i64 k ∧ Blk wr (w.heap.size + 1) 43 (tag fun _ => 0) ∧ Blk wr (w.heap.size + 2) 43 (tag (dg s (4 * k))) ∧ Below w.heap.size w wr) (fun i _ => 8 - (intOf i).toNat)
  case atStart => exact ⟨0, by omega, rfl, b2, b3, hb⟩
  case round =>
    clear b2 b3 hb
    obtain ⟨k, hk, rfl, b2, b3, hb⟩ := hrel
    by_cases hlt : k < 8
    · have tk : (k : Int) < 8 := by omega
      have hI := fun w => run_index8 s.get hlt w
      go_wp2_with fail
      clear hI
      go_loopw [12] (fun i wr => ∃ j : Nat, j ≤ 4 ∧ i = .int .i64 j ∧ Blk wr (w.heap.size + 1) 43 (tag fun _ => 0) ∧ Blk wr (w.heap.size + 2) 43 (tag (dg s (4 * k + j))) ∧ Below w.heap.size w wr) (fun i _ => 4 - (intOf i).toNat)
      case atStart => exact ⟨0, by omega, rfl, b2, b3, hb⟩
      case round =>
        clear b2 b3 hb
        obtain ⟨j, hj, rfl, b2, b3, hb⟩ := hrel
        by_cases hlj : j < 4
        · have tj : (j : Int) < 4 := by omega
          obtain ⟨c, hc⟩ : ∃ c, c = 4 * k + j := ⟨_, rfl⟩
          rw [← hc] at b3
          have hc32 : c < 32 := by omega
          have hci : (c : Int) < 32 := by omega
          have c1 : wr.cell? ⟨w.heap.size + 2, c, none⟩ = some (.int .u8 (dg s c c : Nat)) := (b3.cell _).trans (get_tag hc32)
          have c3 := b3.frozen c
          have B2 := hid b2
          have B3 := hid b3
          have HW := hid hb
          have HC := hid hc
          have e1 : IntKind.i64.wrap (4 * (k : Int) + (j : Int)) = (c : Int) := wr_nat (by omega) (by omega)
          have e2 : 4 * (k : Int) + (j : Int) = (c : Int) := by omega
          clear b2 b3 hb hc
          go_wp2_with fail
          go_roundw
          case rel =>
            have hc := HC.out
            have hv : ((s.get k : Nat) : Int) / 2 ^ (8 * (3 - j)) % 256 = ((ShaM.digest s c : Nat) : Int) := by
              unfold ShaM.digest
              rw [show c / 4 = k by omega, show c % 4 = j by omega]
              simp
            refine ⟨j + 1, by omega, by go_num, B2.out.setCell_other (by simp) _, ?_, HW.out.setCell (by show w.heap.size ≤ w.heap.size + 1 + 1; omega) _⟩
            have h := B3.out.setCell_same c (.int .u8 (ShaM.digest s c : Nat))
            rw [tag_set, dg_step] at h
            rw [hv, show 4 * k + (j + 1) = c + 1 by omega]
            exact h
          case measure => simp [intOf]; omega
        · have tj : decide ((j : Int) < 4) = false := by simp; omega
          have h4 : 4 * k + j = 4 * (k + 1) := by omega
          rw [h4] at b3
          clear h4
          go_wp2_with fail
          go_roundw
          case rel => exact ⟨k + 1, by omega, by go_num, b2, b3, hb⟩
          case measure => simp [intOf]; omega
    · have tk : decide ((k : Int) < 8) = false := by simp; omega
      rw [show 4 * k = 32 by omega, dg_full] at b3
      go_wp2_with (first | ((with_reducible apply ldt); rfl; assumption) | ((with_reducible apply stt); rfl; rfl; assumption))
      apply ret_row Tryd.results38
      · exact b2.setRow_same _
      · exact Tryd.underlying43
      · rfl
      · exact (info_tag.trans (by rw [size_tag]))
      · rfl
      · rfl
      exact ⟨rfl, below_setRow hb (by omega) _⟩
end Go.Proofs.YtnnhnlabkbjacaaDoor
