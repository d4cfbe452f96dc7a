/-
  Contracts of casematelaw05's own functions: one, two, is, no, awake, large.
-/
import Derived.Test.YtnnhnlabkbjacaaDoorPbKey
import Derived.Test.YtnnhnlabkbjacaaDoorPbPass
import Derived.Test.YtnnhnlabkbjacaaDoorPbDig
import Derived.Lib.SlBytesConst
namespace Go.Proofs.YtnnhnlabkbjacaaDoor
open Go.ChangeShapes Go.WideShapes Go.ChangeAt Go.RowKit
attribute [local go_sem] Gives
def pwL : List Nat := [112, 97, 115, 115, 119, 111, 114, 100]
def saltL : List Nat := [115, 97, 108, 116]
theorem pwL_256 : B256 pwL := by unfold B256 pwL; decide
theorem saltL_256 : B256 saltL := by unfold B256 saltL; decide
def oneB : ByteArray := ⟨#[18, 15, 182, 207, 252, 248, 179, 44, 67, 231, 34, 82, 86, 196, 248, 55, 168, 101, 72, 201, 44, 204, 53, 72, 8, 5, 152, 124, 183, 11, 225, 123]⟩
def twoB : ByteArray := ⟨#[174, 77, 12, 149, 175, 107, 70, 211, 45, 10, 223, 249, 40, 240, 109, 208, 42, 48, 63, 142, 243, 194, 81, 223, 214, 226, 216, 90, 149, 71, 76, 67]⟩
theorem u1_list : HmM.dl (HmM.tag pwL (saltL ++ [0, 0, 0, 1])) = nats oneB := by
  rw [show saltL ++ [0, 0, 0, 1] = [115, 97, 108, 116, 0, 0, 0, 1] from rfl]
  unfold pwL
  rw [pb_u1]; decide +kernel
theorem key_one : str (PbM.key pwL saltL 1 32) = oneB := by
  rw [PbM.key_32]
  rw [show PbM.bl pwL saltL 1 1 = HmM.tag pwL (saltL ++ [0, 0, 0, 1]) from rfl, u1_list, str_nats]
theorem u2_list : HmM.dl (HmM.tag pwL (nats oneB)) = [188, 66, 186, 90, 83, 147, 245, 255, 110, 237, 253, 171, 126, 52, 149, 231, 130, 85, 119, 71, 223, 14, 100, 151, 222, 231, 64, 38, 34, 76, 173, 56] := by
  rw [show nats oneB = [18, 15, 182, 207, 252, 248, 179, 44, 67, 231, 34, 82, 86, 196, 248, 55, 168, 101, 72, 201, 44, 204, 53, 72, 8, 5, 152, 124, 183, 11, 225, 123] from rfl]
  unfold pwL
  rw [pb_u2]; decide +kernel
theorem dl_xor (F G : Nat → Nat) : HmM.dl (fun k => F k ^^^ G k) = List.zipWith (· ^^^ ·) (HmM.dl F) (HmM.dl G) := by
  unfold HmM.dl
  rw [List.zipWith_map, List.zipWith_self]
theorem key_two : str (PbM.key pwL saltL 2 32) = twoB := by
  rw [PbM.key_32]
  rw [show PbM.bl pwL saltL 2 1 = fun k => HmM.tag pwL (saltL ++ [0, 0, 0, 1]) k ^^^ HmM.tag pwL (HmM.dl (HmM.tag pwL (saltL ++ [0, 0, 0, 1]))) k from rfl, dl_xor, u1_list, u2_list]
  decide +kernel
theorem key_five : str (PbM.key pwL saltL 1 5) = ⟨#[18, 15, 182, 207, 252]⟩ := by
  rw [← PbM.key_take pwL saltL 1 (n := 32) (m := 5) (by omega), PbM.key_32]
  rw [show PbM.bl pwL saltL 1 1 = HmM.tag pwL (saltL ++ [0, 0, 0, 1]) from rfl, u1_list]
  decide +kernel
theorem one_any (w : World) : Calls Tryd.prog 17 #[] w fun e w' => e = .returned (.string oneB) ∧ w = w' := by
  go_enter Tryd.func17, Tryd.ntmps17
  go_wp2_with fail
  go_ret
  exact ⟨rfl, rfl⟩
theorem pw_arg {w : World} {g : Nat} {t : TypeId} {fr : Nat × Nat} (h : w.heap[g]? = some (.cells #[.int .u8 112, .int .u8 97, .int .u8 115, .int .u8 115, .int .u8 119, .int .u8 111, .int .u8 114, .int .u8 100] t fr)) (hg : g < w.heap.size) : Arg w (some ⟨g, 0, none⟩) pwL 8 8 where
  len := rfl
  cap := Nat.le_refl _
  max := by unfold maxLen; omega
  b256 := pwL_256
  none e := by cases e
  byt := byt_lit h hg (lit_ok (by rfl))
theorem salt_arg {w : World} {g : Nat} {t : TypeId} {fr : Nat × Nat} (h : w.heap[g]? = some (.cells #[.int .u8 115, .int .u8 97, .int .u8 108, .int .u8 116] t fr)) (hg : g < w.heap.size) : Arg w (some ⟨g, 0, none⟩) saltL 4 4 where
  len := rfl
  cap := Nat.le_refl _
  max := by unfold maxLen; omega
  b256 := saltL_256
  none e := by cases e
  byt := byt_lit h hg (lit_ok (by rfl))
set_option maxHeartbeats 400000 in
set_option maxRecDepth 100000 in
theorem is_any (rounds size : Nat) (hr : 1 ≤ rounds) (hr2 : rounds ≤ 4096) (hs : 1 ≤ size) (hs2 : size ≤ 128) (want : ByteArray) (hw : str (PbM.key pwL saltL rounds size) = want) (w : World) (hS : Salts w) :
    Calls Tryd.prog 15 #[.int .i64 rounds, .int .i64 size, .string want] w fun e w' => e = .returned (.bool true) ∧ Below w.heap.size w w' := by
  have SA := hid hS
  have HW := hid hw
  clear hS hw
  have kc := fun (w : World) (C : Array Value) (n c : Nat) => Lib.run_convert_bytes_const (P := Tryd.prog) w 22 5 C n c Tryd.underlying22 Tryd.underlying5
  go_enter Tryd.func15, Tryd.ntmps15
  go_wp2_with fail
  generalize hw3 : World.alloc w _ = w3
  have hz3 : w.heap.size + 1 = w3.heap.size := by rw [← hw3]; simp
  have k3 : Arg w3 (some ⟨w.heap.size, 0, none⟩) pwL 8 8 := by rw [← hw3]; exact pw_arg (heap_alloc_new w _) (by simp)
  have b3 : Below w.heap.size w w3 := by rw [← hw3]; exact (Below.refl _ _).alloc (Nat.le_refl _) _
  clear hw3
  rw [hz3, kc]
  clear hz3 kc
  simp only [Result.andThen]
  rw [Oper.upon_value]
  generalize hw4 : World.alloc w3 _ = w4
  have k4 : Arg w4 (some ⟨w3.heap.size, 0, none⟩) saltL 4 4 := by rw [← hw4]; exact salt_arg (heap_alloc_new w3 _) (by simp)
  have b34 : Below w3.heap.size w3 w4 := by rw [← hw4]; exact (Below.refl _ _).alloc (Nat.le_refl _) _
  have K3 := hid (k3.on b34)
  have K4 := hid k4
  have B4 := hid (b3.trans (b34.mono b3.size))
  clear hw4 k3 k4 b3 b34
  go_wp2_with fail
  refine (pkey_any _ pwL 8 8 _ saltL 4 4 rounds size (by omega) (by omega) hr hr2 hs hs2 w4 K3.out K4.out (SA.out.on B4.out)).mono ?_
  rintro e w5 ⟨v5, rfl, o5, h5⟩
  obtain ⟨A5, c5, e5, a5⟩ := o5.arg (PbM.key_256 _ _ _ _)
  subst e5
  have s5 := a5.str
  rw [HW.out] at s5
  have B5 := hid (B4.out.trans (h5.mono B4.out.size))
  clear o5 h5 a5 K3 K4 B4
  generalize (PbM.key pwL saltL rounds size).length = m5 at *
  go_wp2_with fail
  go_ret
  exact ⟨rfl, B5.out⟩
set_option maxHeartbeats 400000 in
set_option maxRecDepth 100000 in
theorem no_any (rounds size : Int) (h : rounds < 1 ∨ 4096 < rounds ∨ size < 1 ∨ 128 < size) (w : World) :
    Calls Tryd.prog 18 #[.int .i64 rounds, .int .i64 size] w fun e w' => e = .returned (.bool true) ∧ Below w.heap.size w w' := by
  have HB := hid fun w' => pkey_bad (some ⟨w.heap.size, 0, none⟩) 8 8 (some ⟨w.heap.size + 1, 0, none⟩) 4 4 rounds size h w'
  clear h
  have kc := fun (w : World) (C : Array Value) (n c : Nat) => Lib.run_convert_bytes_const (P := Tryd.prog) w 22 5 C n c Tryd.underlying22 Tryd.underlying5
  go_enter Tryd.func18, Tryd.ntmps18
  go_wp2_with fail
  generalize hw3 : World.alloc w _ = w3
  have hz3 : w.heap.size + 1 = w3.heap.size := by rw [← hw3]; simp
  have b3 : Below w.heap.size w w3 := by rw [← hw3]; exact (Below.refl _ _).alloc (Nat.le_refl _) _
  clear hw3
  rw [hz3] at HB ⊢
  rw [kc]
  clear hz3 kc
  simp only [Result.andThen]
  rw [Oper.upon_value]
  generalize hw4 : World.alloc w3 _ = w4
  have b34 : Below w3.heap.size w3 w4 := by rw [← hw4]; exact (Below.refl _ _).alloc (Nat.le_refl _) _
  have B4 := hid (b3.trans (b34.mono b3.size))
  clear hw4 b3 b34
  go_wp2_with fail
  refine (HB.out w4).mono ?_
  rintro e w' ⟨rfl, rfl⟩
  go_wp2_with fail
  go_ret
  exact ⟨rfl, B4.out⟩
def abB : ByteArray := ⟨#[97, 98]⟩
set_option maxHeartbeats 400000 in
set_option maxRecDepth 100000 in
theorem awake_any (w : World) (hS : Salts w) :
    Calls Tryd.prog 10 #[] w fun e w' => e = .returned (.bool true) ∧ Below w.heap.size w w' := by
  have SA := hid hS
  clear hS
  go_enter Tryd.func10, Tryd.ntmps10
  go_wp2_with fail
  refine (ppass_any abB (by decide) (by decide) w).mono ?_
  rintro e w1 ⟨v1, rfl, o1, h1⟩
  obtain ⟨A1, c1, e1, a1⟩ := o1.arg (by unfold B256; decide)
  have A1' := hid a1
  have B1 := hid h1
  rw [show (abB.size :: nats abB).length = 3 from rfl] at e1
  subst e1
  clear o1 h1 a1
  go_wp2_with fail
  refine (one_any w1).mono ?_
  rintro e w' ⟨rfl, rfl⟩
  go_wp2_with fail
  refine (is_any 1 32 (by omega) (by omega) (by omega) (by omega) oneB key_one w1 (SA.out.on B1.out)).mono ?_
  rintro e w2 ⟨rfl, h2⟩
  have s2 := (A1'.out.on h2).str
  rw [show str (abB.size :: nats abB) = ⟨#[2, 97, 98]⟩ from rfl, show (abB.size :: nats abB).length = 3 from rfl] at s2
  have B2 := hid (B1.out.trans (h2.mono B1.out.size))
  clear h2 A1' B1
  go_wp2_with fail
  go_ret
  exact ⟨rfl, B2.out⟩
end Go.Proofs.YtnnhnlabkbjacaaDoor
