/-
  What a key is made of, as an argument; contract of casematelaw05.large.
-/
import Derived.Test.YtnnhnlabkbjacaaDoorPbLaw
import Derived.Test.YtnnhnlabkbjacaaDoorPrts
import Derived.Lib.SmallJoins
namespace Go.Proofs.YtnnhnlabkbjacaaDoor
open Go.ChangeShapes Go.WideShapes Go.ChangeAt Go.RowKit
attribute [local go_sem] Gives
theorem cells_case : Tryd.prog.cellsOf 24 = 4 := by kernel_rfl
theorem i64_wf {a : Int} (h : (Lit.int .i64 a).wf = true) : -9223372036854775808 ≤ a ∧ a ≤ 9223372036854775807 := by
  simp [Lit.wf, IntKind.min, IntKind.max, IntKind.bits, IntKind.signed] at h
  omega
section
variable {H : Type} {enc : TypeId × Value → H} {w : World} {base : Nat} {spare : Nat → Bool} {held : Bool}
theorem open_case {r : Reach} {b0 : Nat} {v : Value} {d : DataW H} {p : List MemPlace} (hv : Value.okWide Tryd.prog w r b0 24 v) (h : DataW.Trod enc Tryd.prog w base spare held 24 v d p) :
    ∃ (K : Option Addr) (key : List Nat) (kn kcap : Nat) (A : Option Addr) (l : List Nat) (n cap : Nat) (rounds size : Int), v = .agg #[.slice K kn kcap, .slice A n cap, .int .i64 rounds, .int .i64 size] ∧ Arg w K key kn kcap ∧ Arg w A l n cap ∧
      (-9223372036854775808 ≤ rounds ∧ rounds ≤ 9223372036854775807) ∧ (-9223372036854775808 ≤ size ∧ size ≤ 9223372036854775807) := by
  obtain ⟨c0, c1, c2, c3, y0, y1, y2, y3, m, rfl, rfl, rfl, hy0, hy1, hy2, hy3⟩ := Joins.open_agg4 Tryd.underlying24 (by kernel_rfl) cells_case hv h
  obtain ⟨K, key, kcap, e0, k1, k2, k3, k4, k5⟩ := trod_byts hy0
  obtain ⟨A, l, cap, e1, a1, a2, a3, a4, a5⟩ := trod_byts hy1
  obtain ⟨x, e2, rfl, w0⟩ := DataW.trod_int Tryd.underlying3 hy2
  obtain ⟨y, e3, rfl, w1⟩ := DataW.trod_int Tryd.underlying3 hy3
  simp only [List.cons.injEq, and_true] at e0 e1 e2 e3
  subst e0 e1 e2 e3
  exact ⟨K, key, _, kcap, A, l, _, cap, x, y, rfl, ⟨rfl, k1, k2, k3, k5, k4⟩, ⟨rfl, a1, a2, a3, a5, a4⟩, i64_wf w0, i64_wf w1⟩
end
set_option maxHeartbeats 400000 in
theorem large_any (K : Option Addr) (kn kcap : Nat) (A : Option Addr) (n cap : Nat) (r s : Int) (w : World) :
    Calls Tryd.prog 9 #[.agg #[.slice K kn kcap, .slice A n cap, .int .i64 r, .int .i64 s]] w fun e w' => e = .returned (.bool (decide (2000 < kn ∨ 2000 < n ∨ (200 < r ∧ r ≤ 4096 ∧ 1 ≤ s ∧ s ≤ 128)))) ∧ Below w.heap.size w w' := by
  obtain ⟨b, hb⟩ : ∃ b, b = decide (2000 < kn ∨ 2000 < n ∨ (200 < r ∧ r ≤ 4096 ∧ 1 ≤ s ∧ s ≤ 128)) := ⟨_, rfl⟩
  rw [← hb]
  have HB := hid hb
  clear hb
  go_enter Tryd.func9, Tryd.ntmps9
  go_upto_region 1 with fail
  generalize hw1 : World.alloc w _ = w1
  have b1 : Blk w1 w.heap.size 24 #[.slice K kn kcap, .slice A n cap, .int .i64 r, .int .i64 s] := by rw [← hw1]; exact Blk.top rfl rfl
  have BW : Hid (Below w.heap.size w w1) := by rw [← hw1]; exact (Below.refl _ _).alloc (Nat.le_refl _) _
  clear hw1
  have q0 : w1.cell? ⟨w.heap.size, 0, none⟩ = some (.slice K kn kcap) := b1.cell 0
  have q1 : w1.cell? ⟨w.heap.size, 1, none⟩ = some (.slice A n cap) := b1.cell 1
  have q2 : w1.cell? ⟨w.heap.size, 2, none⟩ = some (.int .i64 r) := b1.cell 2
  have q3 : w1.cell? ⟨w.heap.size, 3, none⟩ = some (.int .i64 s) := b1.cell 3
  clear b1
  by_cases h0 : 2000 < kn
  · have t0 : decide ((2000 : Int) < (kn : Int)) = true := decide_eq_true (by omega)
    have e : b = true := by rw [HB.out]; simp; omega
    subst e
    clear HB
    go_wp2_with fail
    go_ret
    exact ⟨rfl, BW.out⟩
  · have t0 : decide ((2000 : Int) < (kn : Int)) = false := decide_eq_false (by omega)
    by_cases h1 : 2000 < n
    · have t1 : decide ((2000 : Int) < (n : Int)) = true := decide_eq_true (by omega)
      have e : b = true := by rw [HB.out]; simp; omega
      subst e
      clear HB
      go_wp2_with fail
      go_ret
      exact ⟨rfl, BW.out⟩
    · have t1 : decide ((2000 : Int) < (n : Int)) = false := decide_eq_false (by omega)
      by_cases h2 : 200 < r
      · have t2 : decide (200 < r) = true := decide_eq_true (by omega)
        by_cases h3 : r ≤ 4096
        · have t3 : decide (r ≤ 4096) = true := decide_eq_true (by omega)
          by_cases h4 : 1 ≤ s
          · have t4 : decide (1 ≤ s) = true := decide_eq_true (by omega)
            by_cases h5 : s ≤ 128
            · have t5 : decide (s ≤ 128) = true := decide_eq_true (by omega)
              have e : b = true := by rw [HB.out]; simp; omega
              subst e
              clear HB
              go_wp2_with fail
              go_ret
              exact ⟨rfl, BW.out⟩
            · have t5 : decide (s ≤ 128) = false := decide_eq_false (by omega)
              have e : b = false := by rw [HB.out]; simp; omega
              subst e
              clear HB
              go_wp2_with fail
              go_ret
              exact ⟨rfl, BW.out⟩
          · have t4 : decide (1 ≤ s) = false := decide_eq_false (by omega)
            have e : b = false := by rw [HB.out]; simp; omega
            subst e
            clear HB
            go_wp2_with fail
            go_ret
            exact ⟨rfl, BW.out⟩
        · have t3 : decide (r ≤ 4096) = false := decide_eq_false (by omega)
          have e : b = false := by rw [HB.out]; simp; omega
          subst e
          clear HB
          go_wp2_with fail
          go_ret
          exact ⟨rfl, BW.out⟩
      · have t2 : decide (200 < r) = false := decide_eq_false (by omega)
        have e : b = false := by rw [HB.out]; simp; omega
        subst e
        clear HB
        go_wp2_with fail
        go_ret
        exact ⟨rfl, BW.out⟩
def csV (K : Option Addr) (kn kcap : Nat) (A : Option Addr) (n cap : Nat) (r s : Int) : Array Value := #[.slice K kn kcap, .slice A n cap, .int .i64 r, .int .i64 s]
theorem ldcase {ops : Array Oper} {Q : Exit → Act → World → Prop} {a : Act} {w : World} {rest : List Oper} {dst : Option Tmp} {ty : TypeId} {pos : String} {after : Array Edge} {x : Operand} {g : Nat} {K : Option Addr} {kn kcap : Nat} {A : Option Addr} {n cap : Nat} {r s : Int}
    (hx : a.eval x = .pointer (some ⟨g, 0, none⟩)) (hb : Blk w g 24 #[.slice K kn kcap, .slice A n cap, .int .i64 r, .int .i64 s]) (h : wpList Tryd.prog ops Q rest (a.put dst (.agg #[.slice K kn kcap, .slice A n cap, .int .i64 r, .int .i64 s])) w) :
    wpList Tryd.prog ops Q (⟨dst, .load 24 x, ty, pos, after, none⟩ :: rest) a w :=
  step_load_row hb Tryd.underlying24 rfl (by kernel_rfl) hx h
end Go.Proofs.YtnnhnlabkbjacaaDoor
