/-
  Contract of sha.Ahead over this translation.
-/
import Derived.Test.YtcpoccahneppiaaDoorShaSum
namespace Go.Proofs.YtcpoccahneppiaaDoor
open Go.ChangeShapes Go.WideShapes Go.ChangeAt Go.RowKit
attribute [local go_sem] Gives
set_option maxHeartbeats 400000 in
set_option maxRecDepth 100000 in
/-- P3.2, of whole blocks. -/
theorem ahead_ok (A : Option Addr) (l : List Nat) (n cap : Nat) (hl : l.length = n) (hn : n % 64 = 0) (hc : n ≤ cap) (hm : cap ≤ maxLen) (hz : n ≤ 1000000000000000) (hb : B256 l) (w : World) (hA : Byt w w.heap.size A l) (hS : Salts w) :
    Calls Tryd.prog 11 #[.slice A n cap] w fun e w' => e = .returned (.tuple #[.agg (pre (ShaM.passes ShaM.seeds l).get n true), .int .i64 0]) ∧ Below w.heap.size w w' := by
  have HB := hid hb
  have HA := hid hA
  have SA := hid hS
  have HL := hid hl
  clear hb hA hS hl
  go_enter Tryd.func11, Tryd.ntmps11
  go_wp2_with fail
  generalize hw3 : World.alloc w _ = w3
  have b2 : Blk w3 w.heap.size 29 (pre (fun _ => 0) 0 false) := by rw [← hw3]; exact Blk.top zlit_pre rfl
  have hb : Below w.heap.size w w3 := by rw [← hw3]; exact (Below.refl _ _).alloc (Nat.le_refl _) _
  clear hw3
  refine (start_any w3).mono ?_
  rintro e w4 ⟨rfl, hb'⟩
  have b2' := b2.below hb' b2.lt
  have hb4 := hb.trans (hb'.mono hb.size)
  clear hb' b2 hb w3
  have B2 := hid b2'
  have BEL := hid hb4
  clear b2' hb4
  go_wp2_with fail
  refine (more_ok ShaM.seeds ShaM.seeds_ok A l n cap 0 HL.out hn hc hm (by omega) HB.out w4 ((HA.out.below BEL.out (Nat.le_refl _)).more BEL.out.size) (SA.out.on BEL.out)).mono ?_
  rintro e w5 ⟨rfl, hb'⟩
  rw [Nat.zero_add]
  have b2 := B2.out.below hb' B2.out.lt
  have hb := BEL.out.trans (hb'.mono BEL.out.size)
  clear hb'
  go_wp2_with ((with_reducible apply stp); rfl; rfl; exact b2)
  apply ret_pre2 Tryd.results11
  · rfl
  · rfl
  · rfl
  · exact b2.setRow_same _
  exact ⟨rfl, below_setRow hb (Nat.le_refl _) _⟩
set_option maxHeartbeats 400000 in
set_option maxRecDepth 100000 in
/-- P3.2, of bytes that are no whole blocks. -/
theorem ahead_arg (A : Option Addr) (n cap : Nat) (hn : n % 64 ≠ 0) (hz : n ≤ 1000000000000000) (w : World) :
    Calls Tryd.prog 11 #[.slice A n cap] w fun e w' => e = .returned (.tuple #[.agg (pre (fun _ => 0) 0 false), .int .i64 2]) ∧ Below w.heap.size w w' := by
  go_enter Tryd.func11, Tryd.ntmps11
  go_wp2_with fail
  generalize hw3 : World.alloc w _ = w3
  have b2 : Blk w3 w.heap.size 29 (pre (fun _ => 0) 0 false) := by rw [← hw3]; exact Blk.top zlit_pre rfl
  have hb : Below w.heap.size w w3 := by rw [← hw3]; exact (Below.refl _ _).alloc (Nat.le_refl _) _
  clear hw3
  refine (start_any w3).mono ?_
  rintro e w4 ⟨rfl, hb'⟩
  have b2' := b2.below hb' b2.lt
  have hb4 := hb.trans (hb'.mono hb.size)
  clear hb' b2 hb w3
  have B2 := hid b2'
  have BEL := hid hb4
  clear b2' hb4
  go_wp2_with fail
  refine (more_arg _ _ n cap A hn hz w4).mono ?_
  rintro e w5 ⟨rfl, hb'⟩
  have b2 := B2.out.below hb' B2.out.lt
  have hb := BEL.out.trans (hb'.mono BEL.out.size)
  clear hb'
  go_wp2_with ((with_reducible apply stp); rfl; rfl; exact b2)
  apply ret_pre2 Tryd.results11
  · rfl
  · rfl
  · rfl
  · exact b2.setRow_same _
  exact ⟨rfl, below_setRow hb (Nat.le_refl _) _⟩
end Go.Proofs.YtcpoccahneppiaaDoor
