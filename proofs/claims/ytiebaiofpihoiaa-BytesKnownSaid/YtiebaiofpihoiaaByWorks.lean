/-
  Contracts of casematelaw06.cut and works over this translation.
-/
import Derived.Test.YtiebaiofpihoiaaByParts
import Derived.Test.YtiebaiofpihoiaaByRow
import Derived.Lib.SlBytesConst
namespace Go.Proofs.Ytiebaiofpihoiaa
open Go.ChangeShapes Go.WideShapes Go.ChangeAt Go.RowKit
attribute [local go_sem] Gives
set_option maxHeartbeats 400000 in
theorem lcut_any (A : Option Addr) (n cap : Nat) (hn : n ≤ cap) (hc : cap ≤ maxLen) (w : World) :
    Calls Try.prog 10 #[.slice A n cap] w fun e w' => e = .returned (.slice A (min n 5000) cap) ∧ w = w' := by
  unfold maxLen at hc
  obtain ⟨m, hm⟩ : ∃ m, m = min n 5000 := ⟨_, rfl⟩
  have e1 : (if (5000 : Int) < (n : Int) then (5000 : Int) else (n : Int)) = (m : Int) := by split <;> omega
  rw [← hm]
  have hmc : (m : Int) ≤ (cap : Int) := by omega
  clear hm
  go_enter Try.func10, Try.ntmps10
  go_wp2_with fail
  go_ret
  exact ⟨rfl, rfl⟩
theorem Arg.cutN {w : World} {K : Option Addr} {key : List Nat} {kn kcap : Nat} (h : Arg w K key kn kcap) (m : Nat) : Arg w K (key.take m) (min kn m) kcap where
  len := by rw [List.length_take, h.len]; omega
  cap := by have := h.cap; omega
  max := h.max
  b256 := h.b256.take m
  none e := by obtain ⟨h1, h2⟩ := h.none e; exact ⟨by omega, h2⟩
  byt := h.byt.take m
def wkL : List (List Nat) := [[], [97]]
theorem wk_all : ∀ l ∈ wkL, B256 l := fun l hl x hx => by
  have : wkL.all (fun l => l.all fun x => decide (x < 256)) = true := by decide
  exact of_decide_eq_true (List.all_eq_true.1 (List.all_eq_true.1 this l hl) x hx)
theorem wk_parse : BytM.parse (BytM.rowB 76 wkL) = some (76, wkL) := BytM.parse_row 76 (by decide) (by decide)
theorem wk_len : (BytM.rowB 76 wkL).length = 11 := rfl
theorem wk_256 : B256 (BytM.rowB 76 wkL) := fun x hx => by
  have : (BytM.rowB 76 wkL).all (fun x => decide (x < 256)) = true := by decide
  exact of_decide_eq_true (List.all_eq_true.1 this x hx)
set_option maxHeartbeats 800000 in
theorem works_any (w : World) : Calls Try.prog 15 #[] w fun e w' => e = .returned (.bool true) ∧ Below w.heap.size w w' := by
  have HL := hid wk_len
  have H6 := hid wk_256
  have HP := hid wk_parse
  have hfl : (BytM.flatP wkL).length ≤ 800000 := by decide
  have HF := hid hfl
  clear hfl
  have kc := fun (w : World) (C : Array Value) (n c : Nat) => Lib.run_convert_bytes_const (P := Try.prog) w 22 5 C n c Try.underlying22 Try.underlying5
  go_enter Try.func15, Try.ntmps15
  go_wp2_with fail
  generalize hw1 : World.alloc (World.alloc w _) _ = w1
  have R1 : Hid (Rws w1 (some ⟨w.heap.size + 1, 0, none⟩) wkL 2 2) := hid (by
    have b1 : w1.heap[w.heap.size]? = some (.cells #[.int .u8 ((97 : Nat) : Int)] 5 (1, 2)) := by rw [← hw1]; exact (heap_alloc_old _ _ (by simp)).trans (heap_alloc_new w _)
    have hl1 : w.heap.size < w1.heap.size := by rw [← hw1]; simp; omega
    have b2 : Blk w1 (w.heap.size + 1) 22 #[.slice none 0 0, .slice (some ⟨w.heap.size, 0, none⟩) 1 1] := by rw [← hw1]; exact Blk.top rfl (by simp)
    refine ⟨rfl, Nat.le_refl _, by unfold maxLen; omega, wk_all, (fun e => by cases e), fun _ => ⟨_, 0, rfl, b2.lt, fun i hi => ?_⟩⟩
    match i, hi with
    | 0, _ => exact ⟨none, 0, b2.cell 0, Nat.le_refl _, Nat.zero_le _, Byt.none rfl, fun _ => ⟨rfl, rfl⟩⟩
    | 1, _ => exact ⟨_, 1, b2.cell 1, Nat.le_refl _, by unfold maxLen; omega, byt_lit b1 hl1 (lit_ok rfl), fun e => by cases e⟩)
  have B1 : Hid (Below w.heap.size w w1) := hid (by rw [← hw1]; exact ((Below.refl _ _).alloc (Nat.le_refl _) _).alloc (by simp) _)
  clear hw1
  have C := hid (prow_any 76 (by omega) _ wkL 2 2 (by omega) HF.out w1 R1.out)
  refine C.out.mono ?_
  rintro e w2 ⟨v2, rfl, o2, b2⟩
  obtain ⟨A2, c2, e2, a2⟩ := o2.arg H6.out
  rw [HL.out] at e2 a2
  subst e2
  have A2' := hid a2
  have B2 := hid (B1.out.trans (b2.mono B1.out.size))
  clear C o2 a2 b2 R1 B1
  go_wp2_with fail
  refine (pparts_some A2 _ 11 c2 (by omega) HP.out w2 A2'.out).mono ?_
  rintro e w3 ⟨A3, c3, rfl, r3, b3⟩
  have B3 := hid (B2.out.trans (b3.mono B2.out.size))
  obtain ⟨b, o, Ax, cx, rfl, _, q0, _⟩ := r3.part (i := 0) (by decide)
  obtain ⟨b', o', Ay, cy, e', _, q1, ay⟩ := r3.part (i := 1) (by decide)
  cases e'
  have hs := ay.str
  have q0' : w3.cell? ⟨b, o, none⟩ = some (.slice Ax 0 cx) := q0
  have q1' : w3.cell? ⟨b, o + 1, none⟩ = some (.slice Ay 1 cy) := q1
  have hs' : (convert 22 9 (.slice Ay 1 cy)).run Try.prog w3 = .ok (.string ⟨#[97]⟩) w3 := hs
  rw [show wkL.length = 2 from rfl]
  clear q0 q1 hs ay r3 b3
  go_wp2_with fail
  go_ret
  exact ⟨rfl, B3.out⟩
end Go.Proofs.Ytiebaiofpihoiaa
