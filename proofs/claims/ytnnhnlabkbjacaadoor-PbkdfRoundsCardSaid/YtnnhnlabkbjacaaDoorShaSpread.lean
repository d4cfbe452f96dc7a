/-
  Contract of sha.spread over this translation.
-/
import Derived.Test.YtnnhnlabkbjacaaDoorShaStepW
namespace Go.Proofs.YtnnhnlabkbjacaaDoor
open Go.ChangeShapes Go.WideShapes Go.ChangeAt Go.RowKit
attribute [local go_sem] Gives
/-- A slice of the bytes of l, in one row below block B. -/
def Byt (w : World) (B : Nat) (A : Option Addr) (l : List Nat) : Prop :=
  0 < l.length → ∃ b o, A = some ⟨b, o, none⟩ ∧ b < B ∧ ∀ i, i < l.length → w.cell? ⟨b, o + i, none⟩ = some (.int .u8 (l.getD i 0 : Nat))
theorem Byt.below {B B' : Nat} {w w' : World} {A : Option Addr} {l : List Nat} (h : Byt w B A l) (hb : Below B' w w') (hB : B ≤ B') : Byt w' B A l := fun hn => by
  obtain ⟨b, o, rfl, hl, hr⟩ := h hn
  exact ⟨b, o, rfl, hl, fun i hi => (hb.cell (p := ⟨b, o + i, none⟩) (by show b < B'; omega)).trans (hr i hi)⟩
theorem Byt.more {B B' : Nat} {w : World} {A : Option Addr} {l : List Nat} (h : Byt w B A l) (hB : B ≤ B') : Byt w B' A l := fun hn => by
  obtain ⟨b, o, rfl, hl, hr⟩ := h hn
  exact ⟨b, o, rfl, by omega, hr⟩
/-- 64 numbers. -/
def wds (f : Nat → Nat) : Array Value := row 64 fun k => .int .u32 (f k : Nat)
theorem size_wds {f : Nat → Nat} : (wds f).size = 64 := size_row
theorem get_wds {f : Nat → Nat} {k : Nat} (h : k < 64) : (wds f)[k]? = some (.int .u32 (f k : Nat)) := get_row_lt h
theorem wds_ext {f g : Nat → Nat} (h : ∀ k, k < 64 → f k = g k) : wds f = wds g := row_ext fun k hk => by rw [h k hk]
theorem wds_set {f : Nat → Nat} {k v : Nat} : (wds f).setIfInBounds k (.int .u32 (v : Nat)) = wds fun j => if j = k then v else f j := by
  unfold wds
  rw [row_set]
  exact row_ext fun j _ => by by_cases e : j = k <;> simp [e]
theorem wds_one {f : Nat → Nat} : (wds f).all (·.oneCell') = true := row_one fun _ _ => rfl
theorem zlit_wds : (#[.int .u32 0, .int .u32 0, .int .u32 0, .int .u32 0, .int .u32 0, .int .u32 0, .int .u32 0, .int .u32 0, .int .u32 0, .int .u32 0, .int .u32 0, .int .u32 0, .int .u32 0, .int .u32 0, .int .u32 0, .int .u32 0, .int .u32 0, .int .u32 0, .int .u32 0, .int .u32 0, .int .u32 0, .int .u32 0, .int .u32 0, .int .u32 0, .int .u32 0, .int .u32 0, .int .u32 0, .int .u32 0, .int .u32 0, .int .u32 0, .int .u32 0, .int .u32 0, .int .u32 0, .int .u32 0, .int .u32 0, .int .u32 0, .int .u32 0, .int .u32 0, .int .u32 0, .int .u32 0, .int .u32 0, .int .u32 0, .int .u32 0, .int .u32 0, .int .u32 0, .int .u32 0, .int .u32 0, .int .u32 0, .int .u32 0, .int .u32 0, .int .u32 0, .int .u32 0, .int .u32 0, .int .u32 0, .int .u32 0, .int .u32 0, .int .u32 0, .int .u32 0, .int .u32 0, .int .u32 0, .int .u32 0, .int .u32 0, .int .u32 0, .int .u32 0] : Array Value) = wds fun _ => 0 := by rfl
theorem info_wds : (Tryd.prog.info? 85).map (·.size) = some 64 := by kernel_rfl
section
variable {ops : Array Oper} {Q : Exit → Act → World → Prop} {a : Act} {w : World} {rest : List Oper} {dst : Option Tmp} {ty : TypeId} {pos : String} {after : Array Edge} {x y : Operand} {g : Nat} {f f0 : Nat → Nat}
theorem ldw (hx : a.eval x = .pointer (some ⟨g, 0, none⟩)) (hb : Blk w g 85 (wds f)) (h : wpList Tryd.prog ops Q rest (a.put dst (.agg (wds f))) w) :
    wpList Tryd.prog ops Q (⟨dst, .load 85 x, ty, pos, after, none⟩ :: rest) a w :=
  step_load_row hb Tryd.underlying85 rfl (info_wds.trans (by rw [size_wds])) hx h
theorem stw (hx : a.eval x = .pointer (some ⟨g, 0, none⟩)) (hy : a.eval y = .agg (wds f)) (hb : Blk w g 85 (wds f0)) (h : wpList Tryd.prog ops Q rest (a.put dst undef) (w.setRow g (wds f))) :
    wpList Tryd.prog ops Q (⟨dst, .store 85 x y, ty, pos, after, none⟩ :: rest) a w :=
  step_store_row hb (info_wds.trans (by rw [size_wds])) (by rw [size_wds, size_wds]) wds_one hx hy h
end
theorem wr_nat {x : Int} {j : Nat} (h : x = j) (hj : j < 9223372036854775808) : IntKind.i64.wrap x = (j : Int) := by rw [h]; exact IntWalk.i64_in _ (by omega)
theorem l_nat (x m n : Nat) (d : Nat) (hx : x < 4294967296) : bits .xor .u32 (bits .xor .u32 ((ShaM.rr x m : Nat) : Int) ((ShaM.rr x n : Nat) : Int)) (((x / d : Nat) : Nat) : Int) = (((ShaM.rr x m ^^^ ShaM.rr x n ^^^ (x / d) : Nat) : Nat) : Int) := by
  have hr := fun n => ShaM.rr_lt hx n
  rw [u32_xor_nat _ _ (hr m) (hr n), u32_xor_nat _ _ (Nat.xor_lt_two_pow (n := 32) (hr m) (hr n)) (Nat.lt_of_le_of_lt (Nat.div_le_self _ _) hx)]
theorem l0_nat (x : Nat) (hx : x < 4294967296) : bits .xor .u32 (bits .xor .u32 ((ShaM.rr x 7 : Nat) : Int) ((ShaM.rr x 18 : Nat) : Int)) ((x : Int) / 8) = ((ShaM.l0 x : Nat) : Int) := l_nat x 7 18 8 hx
theorem l1_nat (x : Nat) (hx : x < 4294967296) : bits .xor .u32 (bits .xor .u32 ((ShaM.rr x 17 : Nat) : Int) ((ShaM.rr x 19 : Nat) : Int)) ((x : Int) / 1024) = ((ShaM.l1 x : Nat) : Int) := l_nat x 17 19 1024 hx
theorem or_nat (a b : Nat) (_ha : a < 4294967296) (hb : b < 256) : bits .or .u32 ((a : Int) * 256 % 4294967296) (b : Int) = (((a * 256) % 4294967296 ||| b : Nat) : Int) := by
  rw [show (a : Int) * 256 % 4294967296 = (((a * 256) % 4294967296 : Nat) : Int) by simp, u32_or_nat _ _ (Nat.mod_lt _ (by omega)) (by omega)]
set_option maxHeartbeats 4000000 in
set_option maxRecDepth 100000 in
theorem spread_any (A : Option Addr) (l : List Nat) (cap : Nat) (hl : l.length = 64) (hb : ∀ k, ShaM.at' l k < 256) (w : World) (hs : Byt w w.heap.size A l) :
    Calls Tryd.prog 52 #[.slice A 64 cap] w fun e w' => e = .returned (.agg (wds (ShaM.upM (ShaM.at' l) 48))) ∧ Below w.heap.size w w' := by
  obtain ⟨b, o, rfl, hB, hr⟩ := hs (by omega)
  rw [hl] at hr
  have HB := hid hb
  have HR := hid hr
  clear hs hb hr hl
  go_enter Tryd.func52, Tryd.ntmps52
  go_wp2_with fail
  generalize hw3 : World.alloc (World.alloc w _) _ = w3
  have b1 : Blk w3 w.heap.size 85 (wds fun _ => 0) := by rw [← hw3]; exact (Blk.top zlit_wds rfl).alloc _
  have b2 : Blk w3 (w.heap.size + 1) 85 (wds fun _ => 0) := by rw [← hw3]; exact Blk.top zlit_wds (by simp)
  have hb : Below w.heap.size w w3 := by rw [← hw3]; exact ((Below.refl _ _).alloc (Nat.le_refl _) _).alloc (by simp) _
  clear hw3
  go_loopw [13] (fun i wr => ∃ k : Nat, k ≤ 64 ∧ i = .int .i64 k ∧ Blk wr w.heap.size 85 (wds fun _ => 0) ∧ Blk wr (w.heap.size + 1) 85 (wds (ShaM.part (ShaM.at' l) k)) ∧ Below w.heap.size w wr) (fun i _ => 64 - (intOf i).toNat)
  case atStart => exact ⟨0, by omega, rfl, b1, by rw [show ShaM.part (ShaM.at' l) 0 = fun _ => 0 from funext fun j => ShaM.part_zero _ j]; exact b2, hb⟩
  case round =>
    obtain ⟨k, hk, rfl, b1, b2, hb⟩ := hrel
    by_cases hlt : k < 64
    · have c0 : wr.cell? ⟨b, o + k, none⟩ = some (.int .u8 (ShaM.at' l k : Nat)) := (hb.cell (p := ⟨b, o + k, none⟩) hB).trans (HR.out k hlt)
      have c1 : wr.cell? ⟨w.heap.size + 1, k / 4, none⟩ = some (.int .u32 (ShaM.part (ShaM.at' l) k (k / 4) : Nat)) := (b2.cell _).trans (get_wds (by omega))
      have c3 := b2.frozen (k / 4)
      have hx := HB.out k
      have hp := ShaM.part_lt HB.out k (k / 4)
      have e5 : ((k / 4 : Nat) : Int) < 64 := by omega
      have h4 : k / 4 < 64 := by omega
      go_wp2_with fail
      go_roundw
      case rel =>
        refine ⟨k + 1, by omega, by go_num, b1.setCell_other (by simp) _, ?_, hb.setCell (by simp) _⟩
        have h := b2.setCell_same (k / 4) (.int .u32 (((ShaM.part (ShaM.at' l) k (k / 4) * 256) % 4294967296 ||| ShaM.at' l k : Nat) : Int))
        rw [wds_set] at h
        rw [or_nat _ _ hp hx]
        rw [wds_ext (f := ShaM.part (ShaM.at' l) (k + 1)) (g := fun j => if j = k / 4 then (ShaM.part (ShaM.at' l) k (k / 4) * 256) % 4294967296 ||| ShaM.at' l k else ShaM.part (ShaM.at' l) k j) fun j _ => by
          rw [ShaM.part_step HB.out k j]
          by_cases e : j = k / 4
          · rw [if_pos e, if_pos e, e]
          · rw [if_neg e, if_neg e]]
        exact h
      case measure => simp [intOf]; omega
    · have t0 : decide ((k : Int) < 64) = false := by simp; omega
      rw [show k = 64 by omega] at b2
      go_wp2_with fail
      rw [wds_ext (g := ShaM.upM (ShaM.at' l) 0) fun j _ => (ShaM.first_part _ j).symm] at b2
      go_loopw [6] (fun i w4 => ∃ N k : Nat, Hid (N = 16 + k) ∧ 16 ≤ N ∧ N ≤ 64 ∧ k ≤ 48 ∧ i = .int .i64 N ∧ Blk w4 w.heap.size 85 (wds fun _ => 0) ∧ Blk w4 (w.heap.size + 1) 85 (wds (ShaM.upM (ShaM.at' l) k)) ∧ Below w.heap.size w w4) (fun i _ => 64 - (intOf i).toNat)
      case atStart => exact ⟨16, 0, hid rfl, by omega, by omega, by omega, rfl, b1, b2, hb⟩
      case round =>
        obtain ⟨N, k, hN, hN0, hN1, hk, rfl, b1, b2, hb⟩ := hrel
        by_cases hlt : k < 48
        · obtain ⟨j1, hj1⟩ : ∃ j, j = k + 1 := ⟨_, rfl⟩
          obtain ⟨j9, hj9⟩ : ∃ j, j = k + 9 := ⟨_, rfl⟩
          obtain ⟨j14, hj14⟩ : ∃ j, j = k + 14 := ⟨_, rfl⟩
          have e0 : IntKind.i64.wrap ((N : Int) - 16) = (k : Int) := wr_nat (by have := hN.out; omega) (by omega)
          have e1 : IntKind.i64.wrap ((N : Int) - 15) = (j1 : Int) := wr_nat (by have := hN.out; omega) (by omega)
          have e9 : IntKind.i64.wrap ((N : Int) - 7) = (j9 : Int) := wr_nat (by have := hN.out; omega) (by omega)
          have e14 : IntKind.i64.wrap ((N : Int) - 2) = (j14 : Int) := wr_nat (by have := hN.out; omega) (by omega)
          have t0 : (N : Int) < 64 := by have := hN.out; omega
          have t1 : (j1 : Int) < 64 := by omega
          have t9 : (j9 : Int) < 64 := by omega
          have t14 : (j14 : Int) < 64 := by omega
          have tk : (k : Int) < 64 := by omega
          have C1 := hid ((b2.cell j1).trans (get_wds (by omega)))
          have C0 := hid ((b2.cell k).trans (get_wds (by omega)))
          have C9 := hid ((b2.cell j9).trans (get_wds (by omega)))
          have C14 := hid ((b2.cell j14).trans (get_wds (by omega)))
          have J := hid (And.intro hj1 (And.intro hj9 hj14))
          have E0 := hid e0
          have E1 := hid e1
          have E9 := hid e9
          have E14 := hid e14
          have B1 := hid b1
          have B2 := hid b2
          have HW := hid hb
          clear hj1 hj9 hj14 e0 e1 e9 e14 b1 b2 hb
          go_wp2_with fail
          refine wp_region_tail (C := Drew wr) 10 (by kernel_rfl) (by kernel_rfl) (by kernel_rfl) (Drew.refl _) ?_
          simp only [List.take_succ_cons, List.take_zero, List.drop_succ_cons, List.drop_zero]
          apply wpK_val
          · rfl
          · intro w' hw'
            go_simp
            first | exact rfl | exact ⟨rfl, hw'⟩
          simp only [Act.put, List.setIfInBounds_toArray, List.set_cons_succ, List.set_cons_zero]
          apply wpK_val
          · rfl
          · intro w' hw'
            have h1 : _ := E1.out
            go_simp
            first | exact rfl | exact ⟨rfl, hw'⟩
          simp only [Act.put, List.setIfInBounds_toArray, List.set_cons_succ, List.set_cons_zero]
          apply wpK_val
          · rfl
          · intro w' hw'
            go_simp
            first | exact rfl | exact ⟨rfl, hw'⟩
          simp only [Act.put, List.setIfInBounds_toArray, List.set_cons_succ, List.set_cons_zero]
          apply wpK_val
          · rfl
          · intro w' hw'
            have hcell := hw'.cell C1.out
            go_simp
            first | exact rfl | exact ⟨rfl, hw'⟩
          simp only [Act.put, List.setIfInBounds_toArray, List.set_cons_succ, List.set_cons_zero]
          apply wpK_val
          · rfl
          · intro w' hw'
            go_simp
            first | exact rfl | exact ⟨rfl, hw'⟩
          simp only [Act.put, List.setIfInBounds_toArray, List.set_cons_succ, List.set_cons_zero]
          apply wpK_val
          · rfl
          · intro w' hw'
            have h1 : _ := E14.out
            go_simp
            first | exact rfl | exact ⟨rfl, hw'⟩
          simp only [Act.put, List.setIfInBounds_toArray, List.set_cons_succ, List.set_cons_zero]
          apply wpK_val
          · rfl
          · intro w' hw'
            go_simp
            first | exact rfl | exact ⟨rfl, hw'⟩
          simp only [Act.put, List.setIfInBounds_toArray, List.set_cons_succ, List.set_cons_zero]
          apply wpK_val
          · rfl
          · intro w' hw'
            have hcell := hw'.cell C14.out
            go_simp
            first | exact rfl | exact ⟨rfl, hw'⟩
          simp only [Act.put, List.setIfInBounds_toArray, List.set_cons_succ, List.set_cons_zero]
          apply wpK_val
          · rfl
          · intro w' hw'
            go_simp
            first | exact rfl | exact ⟨rfl, hw'⟩
          simp only [Act.put, List.setIfInBounds_toArray, List.set_cons_succ, List.set_cons_zero]
          apply wpK_val
          · rfl
          · intro w' hw'
            go_simp
            first | exact rfl | exact ⟨rfl, hw'⟩
          simp only [Act.put, List.setIfInBounds_toArray, List.set_cons_succ, List.set_cons_zero]
          refine wpK_nil fun w5 hw5 => ?_
          have b1 := hw5.blk B1.out
          have b2 := hw5.blk B2.out
          have hb := hw5.below HW.out
          clear hw5 B1 B2 HW C1 C14 C0 C9
          have B1 := hid b1
          have B2 := hid b2
          have HW := hid hb
          have C0 := hid ((b2.cell k).trans (get_wds (by omega)))
          have C9 := hid ((b2.cell j9).trans (get_wds (by omega)))
          clear b1 b2 hb
          have x1 := ShaM.upM_lt HB.out k j1
          have x14 := ShaM.upM_lt HB.out k j14
          go_wp2_with fail
          refine (rot_any _ 7 x1 (by omega) (by omega) _).mono ?_
          rintro e w' ⟨rfl, rfl⟩
          go_wp2_with fail
          refine (rot_any _ 18 x1 (by omega) (by omega) _).mono ?_
          rintro e w' ⟨rfl, rfl⟩
          go_wp2_with fail
          refine (rot_any _ 17 x14 (by omega) (by omega) _).mono ?_
          rintro e w' ⟨rfl, rfl⟩
          go_wp2_with fail
          refine (rot_any _ 19 x14 (by omega) (by omega) _).mono ?_
          rintro e w' ⟨rfl, rfl⟩
          go_wp2_with fail
          rw [l0_nat _ x1, l1_nat _ x14]
          refine wp_region_tail (C := Drew w5) 15 (by kernel_rfl) (by kernel_rfl) (by kernel_rfl) (Drew.refl _) ?_
          simp only [List.take_succ_cons, List.take_zero, List.drop_succ_cons, List.drop_zero]
          apply wpK_val
          · rfl
          · intro w' hw'
            go_simp
            first | exact rfl | exact ⟨rfl, hw'⟩
          simp only [Act.put, List.setIfInBounds_toArray, List.set_cons_succ, List.set_cons_zero]
          apply wpK_val
          · rfl
          · intro w' hw'
            go_simp
            first | exact rfl | exact ⟨rfl, hw'⟩
          simp only [Act.put, List.setIfInBounds_toArray, List.set_cons_succ, List.set_cons_zero]
          apply wpK_val
          · rfl
          · intro w' hw'
            have h1 : _ := E0.out
            go_simp
            first | exact rfl | exact ⟨rfl, hw'⟩
          simp only [Act.put, List.setIfInBounds_toArray, List.set_cons_succ, List.set_cons_zero]
          apply wpK_val
          · rfl
          · intro w' hw'
            go_simp
            first | exact rfl | exact ⟨rfl, hw'⟩
          simp only [Act.put, List.setIfInBounds_toArray, List.set_cons_succ, List.set_cons_zero]
          apply wpK_val
          · rfl
          · intro w' hw'
            have hcell := hw'.cell C0.out
            go_simp
            first | exact rfl | exact ⟨rfl, hw'⟩
          simp only [Act.put, List.setIfInBounds_toArray, List.set_cons_succ, List.set_cons_zero]
          apply wpK_val
          · rfl
          · intro w' hw'
            go_simp
            first | exact rfl | exact ⟨rfl, hw'⟩
          simp only [Act.put, List.setIfInBounds_toArray, List.set_cons_succ, List.set_cons_zero]
          apply wpK_val
          · rfl
          · intro w' hw'
            have h1 : _ := u32_wrap_nat (ShaM.upM (ShaM.at' l) k k) (ShaM.l0 (ShaM.upM (ShaM.at' l) k j1))
            go_simp
            first | exact rfl | exact ⟨rfl, hw'⟩
          simp only [Act.put, List.setIfInBounds_toArray, List.set_cons_succ, List.set_cons_zero]
          apply wpK_val
          · rfl
          · intro w' hw'
            go_simp
            first | exact rfl | exact ⟨rfl, hw'⟩
          simp only [Act.put, List.setIfInBounds_toArray, List.set_cons_succ, List.set_cons_zero]
          apply wpK_val
          · rfl
          · intro w' hw'
            have h1 : _ := E9.out
            go_simp
            first | exact rfl | exact ⟨rfl, hw'⟩
          simp only [Act.put, List.setIfInBounds_toArray, List.set_cons_succ, List.set_cons_zero]
          apply wpK_val
          · rfl
          · intro w' hw'
            go_simp
            first | exact rfl | exact ⟨rfl, hw'⟩
          simp only [Act.put, List.setIfInBounds_toArray, List.set_cons_succ, List.set_cons_zero]
          apply wpK_val
          · rfl
          · intro w' hw'
            have hcell := hw'.cell C9.out
            go_simp
            first | exact rfl | exact ⟨rfl, hw'⟩
          simp only [Act.put, List.setIfInBounds_toArray, List.set_cons_succ, List.set_cons_zero]
          apply wpK_val
          · rfl
          · intro w' hw'
            have h1 : _ := u32_wrap_nat (ShaM.add (ShaM.upM (ShaM.at' l) k k) (ShaM.l0 (ShaM.upM (ShaM.at' l) k j1))) (ShaM.upM (ShaM.at' l) k j9)
            go_simp
            first | exact rfl | exact ⟨rfl, hw'⟩
          simp only [Act.put, List.setIfInBounds_toArray, List.set_cons_succ, List.set_cons_zero]
          apply wpK_val
          · rfl
          · intro w' hw'
            go_simp
            first | exact rfl | exact ⟨rfl, hw'⟩
          simp only [Act.put, List.setIfInBounds_toArray, List.set_cons_succ, List.set_cons_zero]
          apply wpK_val
          · rfl
          · intro w' hw'
            have h1 : _ := u32_wrap_nat (ShaM.add (ShaM.add (ShaM.upM (ShaM.at' l) k k) (ShaM.l0 (ShaM.upM (ShaM.at' l) k j1))) (ShaM.upM (ShaM.at' l) k j9)) (ShaM.l1 (ShaM.upM (ShaM.at' l) k j14))
            go_simp
            first | exact rfl | exact ⟨rfl, hw'⟩
          simp only [Act.put, List.setIfInBounds_toArray, List.set_cons_succ, List.set_cons_zero]
          apply wpK_val
          · rfl
          · intro w' hw'
            go_simp
            first | exact rfl | exact ⟨rfl, hw'⟩
          simp only [Act.put, List.setIfInBounds_toArray, List.set_cons_succ, List.set_cons_zero]
          refine wpK_nil fun w4 hw4 => ?_
          have b1 := hw4.blk B1.out
          have b2 := hw4.blk B2.out
          have hb := hw4.below HW.out
          clear hw4 B1 B2 HW C0 C9
          have hN' := hN.out
          have c1 := (b2.cell N).trans (get_wds (by omega))
          have c3 := b2.frozen N
          clear hN'
          have B1 := hid b1
          have B2 := hid b2
          have HW := hid hb
          clear b1 b2 hb
          go_wp2_with fail
          go_roundw
          case rel =>
            obtain ⟨r1, r9, r14⟩ := J.out
            have rN := hN.out
            subst r1 r9 r14
            refine ⟨N + 1, k + 1, hid (by omega), by omega, by omega, by omega, by go_num, B1.out.setCell_other (by simp) _, ?_, HW.out.setCell (by simp) _⟩
            have h := B2.out.setCell_same N (.int .u32 ((ShaM.add (ShaM.add (ShaM.add (ShaM.upM (ShaM.at' l) k k) (ShaM.l0 (ShaM.upM (ShaM.at' l) k (k + 1)))) (ShaM.upM (ShaM.at' l) k (k + 9))) (ShaM.l1 (ShaM.upM (ShaM.at' l) k (k + 14))) : Nat) : Int))
            rw [wds_set] at h
            rw [wds_ext (f := ShaM.upM (ShaM.at' l) (k + 1)) (g := fun j => if j = N then ShaM.add (ShaM.add (ShaM.add (ShaM.upM (ShaM.at' l) k k) (ShaM.l0 (ShaM.upM (ShaM.at' l) k (k + 1)))) (ShaM.upM (ShaM.at' l) k (k + 9))) (ShaM.l1 (ShaM.upM (ShaM.at' l) k (k + 14))) else ShaM.upM (ShaM.at' l) k j) fun j _ => by
              rw [ShaM.upM_step, ShaM.next_upM, rN]]
            exact h
          case measure => simp [intOf]; omega
        · obtain rfl : k = 48 := by omega
          have t0 : decide ((N : Int) < 64) = false := by have := hN.out; simp; omega
          go_wp2_with (first | ((with_reducible apply ldw); rfl; assumption) | ((with_reducible apply stw); rfl; rfl; assumption))
          apply ret_row Tryd.results52
          · exact b1.setRow_same _
          · exact Tryd.underlying85
          · rfl
          · exact (info_wds.trans (by rw [size_wds]))
          · rfl
          · rfl
          exact ⟨rfl, below_setRow hb (by omega) _⟩
end Go.Proofs.YtnnhnlabkbjacaaDoor
