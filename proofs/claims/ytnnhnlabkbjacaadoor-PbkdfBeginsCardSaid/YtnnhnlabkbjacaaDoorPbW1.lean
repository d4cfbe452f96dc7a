/-
  The walk of PbkdfPasses.
-/
import Derived.Test.YtnnhnlabkbjacaaDoorPbLaw
namespace Go.Proofs.YtnnhnlabkbjacaaDoor
open Go.ChangeShapes Go.WideShapes Go.ChangeAt Go.RowKit
attribute [local go_sem] Gives
theorem str_none (w : World) : (convert 22 9 (.slice none 0 0)).run Tryd.prog w = .ok (.string (str [])) w :=
  run_bytes_str (A := .none) (l := []) (n := 0) (cap := 0) (B := 0) rfl (fun x hx => by cases hx) (fun _ => ⟨rfl, rfl⟩) (w := w) (Byt.none rfl)
theorem pass_256 {s : ByteArray} (h : s.size ≤ 48) : B256 (s.size :: nats s) := fun x hx => by
  rcases List.mem_cons.1 hx with rfl | hx
  · omega
  · exact nats_256 s x hx
set_option maxHeartbeats 400000 in
set_option maxRecDepth 100000 in
theorem passes_law (s : ByteArray) (w : World) (hS : Salts w) :
    Calls Tryd.prog 4 #[.string s] w fun e w' => e = .returned (.bool true) ∧ Below w.heap.size w w' := by
  have SA := hid hS
  clear hS
  by_cases hbad : s.size < 1 ∨ 48 < s.size
  · go_enter Tryd.func4, Tryd.ntmps4
    go_wp2_with fail
    refine (ppass_bad s hbad w).mono ?_
    rintro e w' ⟨rfl, rfl⟩
    go_wp2_with fail
    refine (rpwd_bad s hbad w).mono ?_
    rintro e w' ⟨rfl, rfl⟩
    have hc := str_none
    clear hbad
    go_wp2_with fail
    refine (awake_any w SA.out).mono ?_
    rintro e w2 ⟨rfl, h2⟩
    clear hc
    go_wp2_with fail
    go_ret
    exact ⟨rfl, h2⟩
  · have h1 : 1 ≤ s.size := by omega
    have h2 : s.size ≤ 48 := by omega
    have P1 := hid fun w => ppass_any s h1 h2 w
    have P2 := hid fun w => rpwd_any s h1 h2 w
    have hl : (s.size :: nats s).length = s.size + 1 := by rw [List.length_cons, nats_length]
    have hb := pass_256 h2
    generalize (s.size :: nats s) = l at *
    have HB := hid hb
    have HL := hid hl
    clear hbad hl hb h1 h2
    go_enter Tryd.func4, Tryd.ntmps4
    go_wp2_with fail
    refine (P1.out w).mono ?_
    rintro e w1 ⟨v1, rfl, o1, h1⟩
    obtain ⟨A1, c1, e1, a1⟩ := o1.arg HB.out
    subst e1
    have A1' := hid a1
    have B1 := hid h1
    clear o1 a1 h1
    go_wp2_with fail
    refine (P2.out w1).mono ?_
    rintro e w2 ⟨v2, rfl, o2, h2⟩
    obtain ⟨A2, c2, e2, a2⟩ := o2.arg HB.out
    subst e2
    have s2 := a2.str
    have s1 := (A1'.out.on h2).str
    have B2 := hid (B1.out.trans (h2.mono B1.out.size))
    clear o2 a2 h2 A1' B1 P1 P2
    generalize l.length = n at *
    go_wp2_with fail
    refine (awake_any w2 (SA.out.on B2.out)).mono ?_
    rintro e w3 ⟨rfl, h3⟩
    have b3 := B2.out.trans (h3.mono B2.out.size)
    clear h3 s1 s2
    go_wp2_with fail
    go_ret
    exact ⟨rfl, b3⟩
end Go.Proofs.YtnnhnlabkbjacaaDoor
