/-
  The walk of HmacStretch.
-/
import Derived.Test.YtfgmgfniolmpkaaDoorHRefStr
namespace Go.Proofs.YtfgmgfniolmpkaaDoor
open Go.ChangeShapes Go.WideShapes Go.ChangeAt Go.RowKit
attribute [local go_sem] Gives
set_option maxHeartbeats 1000000 in
set_option maxRecDepth 100000 in
theorem hstr_law (K : Option Addr) (key : List Nat) (kn kcap : Nat) (A : Option Addr) (l : List Nat) (n cap : Nat) (size : Int) (w : World) (hK : Arg w K key kn kcap) (hA : Arg w A l n cap) (hS : Salts w) :
    Calls Tryd.prog 5 #[.slice K kn kcap, .slice A n cap, .int .i64 size] w fun e w' => e = .returned (.bool true) ∧ Below w.heap.size w w' := by
  have CK := hid fun w => cut_any K kn kcap hK.cap hK.max w
  have CB := hid fun w => cut_any A n cap hA.cap hA.max w
  have k1 := hK.cut
  have a1 := hA.cut
  have hk1000 : min kn 1000 ≤ 1000 := by omega
  have hn1000 : min n 1000 ≤ 1000 := by omega
  generalize key.take 1000 = key' at *
  generalize l.take 1000 = l' at *
  generalize min kn 1000 = kn' at *
  generalize min n 1000 = n' at *
  have HK := hid k1
  have HA := hid a1
  have SA := hid hS
  clear hK hA k1 a1 hS
  go_enter Tryd.func5, Tryd.ntmps5
  go_wp2_with fail
  refine (CK.out w).mono ?_
  rintro e w' ⟨rfl, rfl⟩
  go_wp2_with fail
  refine (CB.out w).mono ?_
  rintro e w' ⟨rfl, rfl⟩
  clear CK CB
  by_cases hbad : size < 0 ∨ 8160 < size
  · go_wp2_with fail
    refine (bad_any K kn' kcap A n' cap size hbad w).mono ?_
    rintro e w' ⟨rfl, rfl⟩
    go_wp2_with fail
    refine (rbad_any K kn' kcap A n' cap size hbad w).mono ?_
    rintro e w' ⟨rfl, rfl⟩
    have hc := fun w => run_bytes_str (A := .none) (l := []) (n := 0) (cap := 0) (B := 0) rfl (fun x hx => by cases hx) (fun _ => ⟨rfl, rfl⟩) (w := w) (Byt.none rfl)
    clear hbad
    go_wp2_with fail
    refine (works_any w SA.out).mono ?_
    rintro e w2 ⟨rfl, h2⟩
    clear hc
    go_wp2_with fail
    go_ret
    exact ⟨rfl, h2⟩
  · obtain ⟨m, rfl⟩ : ∃ m : Nat, size = m := ⟨size.toNat, by omega⟩
    have hm : m ≤ 8160 := by omega
    clear hbad
    go_wp2_with fail
    refine (hstretch_any K key' kn' kcap A l' n' cap m (by omega) (by omega) hm w HK.out HA.out SA.out).mono ?_
    rintro e w1 ⟨A1, c1, rfl, a1, h1⟩
    have A1' := hid a1
    have H1 := hid h1
    have K1 := hid (HK.out.on h1)
    have L1 := hid (HA.out.on h1)
    clear a1 h1
    go_wp2_with fail
    refine (rstretch_any K key' kn' kcap A l' n' cap m (by omega) (by omega) hm w1 K1.out L1.out).mono ?_
    rintro e w2 ⟨A2, c2, rfl, a2, h2⟩
    have s1 := (A1'.out.on h2).str
    have s2 := a2.str
    have H2 := hid (H1.out.trans (h2.mono H1.out.size))
    clear a2 h2 A1' K1 L1
    go_wp2_with fail
    refine (works_any w2 (SA.out.on H2.out)).mono ?_
    rintro e w3 ⟨rfl, h3⟩
    have b3 := H2.out.trans (h3.mono H2.out.size)
    clear h3 s1 s2
    go_wp2_with fail
    go_ret
    exact ⟨rfl, b3⟩
end Go.Proofs.YtfgmgfniolmpkaaDoor
