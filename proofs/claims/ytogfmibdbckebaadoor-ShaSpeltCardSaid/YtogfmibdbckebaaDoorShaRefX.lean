/-
  The document's own Text (casemateref03) over this translation.
-/
import Derived.Test.YtogfmibdbckebaaDoorShaRefT
namespace Go.Proofs.YtogfmibdbckebaaDoor
open Go.ChangeShapes Go.WideShapes Go.ChangeAt Go.RowKit
attribute [local go_sem] Gives
theorem conv1 (d : Nat) (hd : d < 256) (w : World) : (convert 22 9 (.slice (some ⟨w.heap.size, 0, none⟩) 1 1)).run Tryd.prog (w.alloc (.cells #[.int .u8 d] 5)) =
    .ok (.string ⟨#[UInt8.ofNat d]⟩) (w.alloc (.cells #[.int .u8 d] 5)) := by
  have h := run_convert_bytes_back (P := Tryd.prog) (w.alloc (.cells #[.int .u8 d] 5)) 22 9 5 ⟨w.heap.size, 0, none⟩ 1 [UInt8.ofNat d] Tryd.underlying22 Tryd.underlying5 Tryd.underlying9 (fun j hj => by
    obtain rfl : j = 0 := by simp at hj; omega
    rw [Addr.add_mid, cell_of_row _ w.heap.size _ #[.int .u8 d] 5 (0, 0) (heap_alloc_new w _)]
    have hm : d % 256 = d := Nat.mod_eq_of_lt hd
    simp [hm])
  exact h
theorem conv1i (D : Int) (d : Nat) (u : UInt8) (hu : UInt8.ofNat d = u) (hd : d < 256) (e : D = (d : Int)) (w : World) : (convert 22 9 (.slice (some ⟨w.heap.size, 0, none⟩) 1 1)).run Tryd.prog (w.alloc (.cells #[.int .u8 D] 5)) =
    .ok (.string ⟨#[u]⟩) (w.alloc (.cells #[.int .u8 D] 5)) := by subst e hu; exact conv1 d hd w
theorem strN_size (f : Nat → Nat) (k : Nat) : (strN f k).size = k := by
  show (List.toArray _).size = k
  simp
theorem hcd_lt (f : Nat → Nat) (hf : ∀ k, f k < 256) (k : Nat) : hcd f k < 16 := by
  have := hf (k / 2)
  unfold hcd
  split <;> omega
set_option maxHeartbeats 400000 in
set_option maxRecDepth 100000 in
theorem rtext_any (f : Nat → Nat) (hf : ∀ k, f k < 256) (w : World) :
    Calls Tryd.prog 19 #[.agg (tag f)] w fun e w' => e = .returned (.string (txt f)) ∧ Below w.heap.size w w' := by
  have HF := hid hf
  clear hf
  go_enter Tryd.func19, Tryd.ntmps19
  go_wp2_with fail
  generalize hw3 : World.alloc w _ = w3
  have b1 : Blk w3 w.heap.size 34 (tag f) := by rw [← hw3]; exact Blk.top rfl rfl
  have hb : Below w.heap.size w w3 := by rw [← hw3]; exact (Below.refl _ _).alloc (Nat.le_refl _) _
  clear hw3
  go_loopw [3, 4] (fun v i wr => ∃ k : Nat, k ≤ 64 ∧ i = .int .i64 k ∧ v = .string (strN f k) ∧ Blk wr w.heap.size 34 (tag f) ∧ Below w.heap.size w wr) (fun _ i _ => 64 - (intOf i).toNat)
  case atStart => exact ⟨0, by omega, rfl, rfl, b1, hb⟩
  case round =>
    clear b1 hb
    obtain ⟨k, hk, rfl, rfl, b1, hb⟩ := hrel
    by_cases hlk : k < 64
    · have tk : (k : Int) < 64 := by omega
      have hk2 : k / 2 < 32 := by omega
      have hk3 : ((k / 2 : Nat) : Int) < 32 := by omega
      have q1 := (b1.cell (k / 2)).trans (get_tag hk2)
      have B1 := hid b1
      have BEL := hid hb
      have hsz : w.heap.size ≤ wr.heap.size := hb.size
      clear b1 hb
      have h16 := hcd_lt f HF.out k
      have hs1 : (strN f k).size ≤ 64 := by rw [strN_size]; omega
      obtain ⟨h, hh⟩ : ∃ h, h = hcd f k := ⟨_, rfl⟩
      rw [← hh] at h16
      have ST := hid (strN_step f k)
      rw [← hh] at ST
      obtain ⟨u, hu⟩ : ∃ u, u = UInt8.ofNat (hexd h) := ⟨_, rfl⟩
      rw [← hu] at ST
      by_cases hodd : k % 2 = 1
      · have t1 : ((k : Int) % 2 == 1) = true := by rw [beq_iff_eq]; omega
        have e1 : ((f (k / 2) : Nat) : Int) % 16 = (h : Int) := by rw [hh]; unfold hcd; rw [if_pos hodd]; omega
        have hf2 := HF.out (k / 2)
        clear hh
        by_cases h10 : h < 10
        · have kb := fun w => conv1i (48 + (h : Int)) (48 + h) u (by rw [hu]; unfold hexd; rw [if_pos h10]) (by omega) (by omega) w
          have t10 : (h : Int) < 10 := by omega
          clear hu
          go_wp2_with fail
          go_roundw
          case rel => exact ⟨k + 1, by omega, by go_num, by rw [ST.out], B1.out.alloc _, BEL.out.alloc hsz _⟩
          case measure => simp [intOf]; omega
        · have kb := fun w => conv1i (97 + (h : Int) - 10) (87 + h) u (by rw [hu]; unfold hexd; rw [if_neg h10]) (by omega) (by omega) w
          have t10 : decide ((h : Int) < 10) = false := by simp; omega
          clear hu
          go_wp2_with fail
          go_roundw
          case rel => exact ⟨k + 1, by omega, by go_num, by rw [ST.out], B1.out.alloc _, BEL.out.alloc hsz _⟩
          case measure => simp [intOf]; omega
      · have t1 : ((k : Int) % 2 == 1) = false := by rw [beq_eq_false_iff_ne]; omega
        have e1 : ((f (k / 2) : Nat) : Int) / 16 = (h : Int) := by rw [hh]; unfold hcd; rw [if_neg hodd]; omega
        have hf2 := HF.out (k / 2)
        clear hh
        by_cases h10 : h < 10
        · have kb := fun w => conv1i (48 + (h : Int)) (48 + h) u (by rw [hu]; unfold hexd; rw [if_pos h10]) (by omega) (by omega) w
          have t10 : (h : Int) < 10 := by omega
          clear hu
          go_wp2_with fail
          go_roundw
          case rel => exact ⟨k + 1, by omega, by go_num, by rw [ST.out], B1.out.alloc _, BEL.out.alloc hsz _⟩
          case measure => simp [intOf]; omega
        · have kb := fun w => conv1i (97 + (h : Int) - 10) (87 + h) u (by rw [hu]; unfold hexd; rw [if_neg h10]) (by omega) (by omega) w
          have t10 : decide ((h : Int) < 10) = false := by simp; omega
          clear hu
          go_wp2_with fail
          go_roundw
          case rel => exact ⟨k + 1, by omega, by go_num, by rw [ST.out], B1.out.alloc _, BEL.out.alloc hsz _⟩
          case measure => simp [intOf]; omega
    · have tk : decide ((k : Int) < 64) = false := by simp; omega
      have E := hid (show strN f k = txt f by rw [show k = 64 by omega]; exact strN_full f)
      go_wp2_with fail
      go_ret
      exact ⟨by rw [← E.out]; rfl, hb⟩
end Go.Proofs.YtogfmibdbckebaaDoor
