/-
  Contracts of the document's Text and Row (casemateref06), and of bytes.Row, over this translation.
-/
import Derived.Test.YtiebaiofpihoiaaRefBy
import Derived.Test.YtiebaiofpihoiaaPrtsN
namespace Go.Proofs.Ytiebaiofpihoiaa
open Go.ChangeShapes Go.WideShapes Go.ChangeAt Go.RowKit
attribute [local go_sem] Gives
set_option maxHeartbeats 400000 in
theorem rtext_bad (v : Value) (s : ByteArray) (h : 65535 < s.size) (W : World) :
    Calls Try.prog 14 #[v, .string s] W fun e w' => e = .returned (.tuple #[.slice none 0 0, .int .i64 3]) ∧ W = w' := by
  have t : decide ((65535 : Int) < (s.size : Int)) = true := decide_eq_true (by omega)
  clear h
  go_enter Try.func14, Try.ntmps14
  go_wp2_with fail
  go_ret2
  exact ⟨rfl, rfl⟩
set_option maxHeartbeats 400000 in
theorem rtext_any (A : Option Addr) (l : List Nat) (c cap : Nat) (hc : c ≤ 800000) (s : ByteArray) (h : s.size ≤ 65535) (W : World) (hA : Arg W A l c cap) :
    Calls Try.prog 14 #[.slice A c cap, .string s] W fun e w' => ∃ v, e = .returned (.tuple #[v, .int .i64 0]) ∧ Own 5 .u8 w' W.heap.size v (l ++ BytM.txt (nats s)) ∧ Below W.heap.size W w' := by
  have t : decide ((65535 : Int) < (s.size : Int)) = false := decide_eq_false (by omega)
  have HA := hid hA
  have HL := hid hA.len
  have hsz : ((nats s).length) = s.size := nats_length s
  have T : Hid (BytM.txt (nats s) = BytM.dig 2 s.size ++ nats s) := hid (by unfold BytM.txt; rw [hsz])
  have D := hid fun w => rdig_any 2 s.size (by omega) (by omega) (by omega) w
  have hl := BytM.dig_length 2 s.size
  have h256 := BytM.dig_256 2 s.size
  generalize BytM.dig 2 s.size = m at *
  have H6 := hid h256
  have ML := hid hl
  have NZ := hid hsz
  clear hA hsz h256 hl
  go_enter Try.func14, Try.ntmps14
  go_upto_region 5 with (at_builtin; (with_reducible apply wappN_any eltB); rfl; rfl; exact HA.out.none; exact Own.nil (B := W.heap.size); exact HA.out.byt.nums; exact HL.out; (rw [List.length_nil]; omega); exact Nat.le_refl _; intro v2 w2 o2 g2)
  have B2 := hid (below_grown (Below.refl _ _) g2 (Own.nil (w := W) (B := W.heap.size) (e := 5) (k := .u8)) (Nat.le_refl _) (Nat.le_refl _))
  have O2 := hid o2
  clear o2 g2 t
  go_wp2_with fail
  refine (D.out w2).mono ?_
  rintro e w3 ⟨v3, rfl, o3, b3⟩
  obtain ⟨A3, c3, e3, a3⟩ := o3.arg H6.out
  subst e3
  have B3 := hid (B2.out.trans (b3.mono B2.out.size))
  have O3 := hid (O2.out.below b3)
  have A3' := hid a3
  clear o3 b3 a3 O2 B2
  go_upto_region 6 with (at_builtin; (with_reducible apply wappN_any eltB); rfl; rfl; exact A3'.out.none; exact O3.out; exact A3'.out.byt.nums; rfl; (rw [List.nil_append, HL.out, ML.out]; omega); exact B3.out.size; intro v4 w4 o4 g4)
  have B4 := hid (below_grown B3.out g4 O3.out (Nat.le_refl _) (Nat.le_refl _))
  have O4 := hid o4
  clear o4 g4 O3 B3
  go_wp2_with (at_builtin; (with_reducible apply wappS); rfl; rfl; exact O4.out; (rw [List.nil_append, List.length_append, HL.out, ML.out]; omega); exact B4.out.size; intro v5 w5 o5 g5)
  have B5 := hid (below_grown B4.out g5 O4.out (Nat.le_refl _) (Nat.le_refl _))
  have O5 := hid o5
  clear o5 g5 O4 B4
  go_wp2_with fail
  go_ret2
  refine ⟨_, rfl, ?_, B5.out⟩
  rw [T.out, ← List.append_assoc]
  exact O5.out
/-- Slices of slices that are not large. -/
structure Rws (w : World) (A : Option Addr) (ls : List (List Nat)) (n cp : Nat) : Prop where
  len : ls.length = n
  cap : n ≤ cp
  max : cp ≤ maxLen
  b256 : ∀ l ∈ ls, B256 l
  none : A = none → n = 0 ∧ cp = 0
  prts : PrtsN w w.heap.size A ls
theorem Rws.on {w w' : World} {A : Option Addr} {ls : List (List Nat)} {n cap : Nat} (h : Rws w A ls n cap) (hb : Below w.heap.size w w') : Rws w' A ls n cap where
  len := h.len
  cap := h.cap
  max := h.max
  b256 := h.b256
  none := h.none
  prts := (h.prts.below hb (Nat.le_refl _)).more hb.size
theorem getD_mem {ls : List (List Nat)} {i : Nat} (h : i < ls.length) : ls.getD i [] ∈ ls := by
  rw [List.getD_eq_getElem?_getD, List.getElem?_eq_getElem h]; exact List.getElem_mem h
theorem Rws.part {w : World} {A : Option Addr} {ls : List (List Nat)} {n cap : Nat} (h : Rws w A ls n cap) {i : Nat} (hi : i < n) :
    ∃ b o A' c, A = some ⟨b, o, .none⟩ ∧ b < w.heap.size ∧ w.cell? ⟨b, o + i, .none⟩ = some (.slice A' (ls.getD i []).length c) ∧ Arg w A' (ls.getD i []) (ls.getD i []).length c := by
  obtain ⟨b, o, rfl, hl, hr⟩ := h.prts (by rw [h.len]; omega)
  obtain ⟨A', c, h1, h2, h3, h4, h5⟩ := hr i (by rw [h.len]; exact hi)
  exact ⟨b, o, A', c, rfl, hl, h1, rfl, h2, h3, h.b256 _ (getD_mem (by rw [h.len]; exact hi)), h5, h4⟩
theorem flatP_step {ls : List (List Nat)} {i : Nat} (h : i < ls.length) : BytM.flatP (ls.take (i + 1)) = BytM.flatP (ls.take i) ++ (BytM.dig 4 (ls.getD i []).length ++ ls.getD i []) := by
  have e : ls.getD i [] = ls[i] := by rw [List.getD_eq_getElem?_getD, List.getElem?_eq_getElem h]; rfl
  rw [List.take_succ_eq_append_getElem h, ← e, BytM.flatP_append]
  show _ ++ (BytM.dig 4 _ ++ _ ++ []) = _
  rw [List.append_nil]
theorem flatP_take_le (ls : List (List Nat)) (i : Nat) : (BytM.flatP (ls.take i)).length ≤ (BytM.flatP ls).length := by
  conv => rhs; rw [← List.take_append_drop i ls, BytM.flatP_append, List.length_append]
  omega
set_option maxHeartbeats 400000 in
theorem prow_bad (d : Value) (A : Option Addr) (n cap : Nat) (h : 16 < n) (W : World) :
    Calls Try.prog 16 #[d, .slice A n cap] W fun e w' => e = .returned (.tuple #[.slice none 0 0, .int .i64 3]) ∧ W = w' := by
  have t : decide ((16 : Int) < (n : Int)) = true := decide_eq_true (by omega)
  clear h
  go_enter Try.func16, Try.ntmps16
  go_wp2_with fail
  go_ret2
  exact ⟨rfl, rfl⟩
set_option maxHeartbeats 400000 in
theorem rrow_bad (d : Value) (A : Option Addr) (n cap : Nat) (h : 16 < n) (W : World) :
    Calls Try.prog 17 #[d, .slice A n cap] W fun e w' => e = .returned (.tuple #[.slice none 0 0, .int .i64 3]) ∧ W = w' := by
  have t : decide ((16 : Int) < (n : Int)) = true := decide_eq_true (by omega)
  clear h
  go_enter Try.func17, Try.ntmps17
  go_wp2_with fail
  go_ret2
  exact ⟨rfl, rfl⟩
end Go.Proofs.Ytiebaiofpihoiaa
