/-
  What comes in: a width, a number and a text; both answers of Num and Text, told at once.
-/
import Derived.Test.YtiebaiofpihoiaaByWorks
import Derived.Test.YtiebaiofpihoiaaRefRow
import Derived.Test.YtiebaiofpihoiaaByts
import Derived.Lib.SmallJoins
namespace Go.Proofs.Ytiebaiofpihoiaa
open Go.ChangeShapes Go.WideShapes Go.ChangeAt Go.RowKit
attribute [local go_sem] Gives
theorem cells_laid : Try.prog.cellsOf 25 = 3 := by kernel_rfl
theorem i64_wf' {a : Int} (h : (Lit.int .i64 a).wf = true) : -9223372036854775808 ≤ a ∧ a ≤ 9223372036854775807 := by
  simp [Lit.wf, IntKind.min, IntKind.max, IntKind.bits, IntKind.signed] at h
  omega
theorem u64_wf' {a : Int} (h : (Lit.int .u64 a).wf = true) : ∃ n : Nat, a = n ∧ n < 18446744073709551616 := by
  simp [Lit.wf, IntKind.min, IntKind.max, IntKind.bits, IntKind.signed] at h
  exact ⟨a.toNat, by omega, by omega⟩
section
variable {H : Type} {enc : TypeId × Value → H} {w : World} {base : Nat} {spare : Nat → Bool} {held : Bool}
theorem open_laid {r : Reach} {b0 : Nat} {v : Value} {d : DataW H} {p : List MemPlace} (hv : Value.okWide Try.prog w r b0 25 v) (h : DataW.Trod enc Try.prog w base spare held 25 v d p) :
    ∃ (x : Int) (n : Nat) (s : ByteArray), v = .agg #[.int .i64 x, .int .u64 n, .string s] ∧ (-9223372036854775808 ≤ x ∧ x ≤ 9223372036854775807) ∧ n < 18446744073709551616 ∧ s.size ≤ maxLen := by
  obtain ⟨c0, c1, c2, y0, y1, y2, m, rfl, rfl, rfl, hy0, hy1, hy2⟩ := Joins.open_agg3 Try.underlying25 (by kernel_rfl) cells_laid hv h
  obtain ⟨x, e0, rfl, w0⟩ := DataW.trod_int Try.underlying3 hy0
  obtain ⟨y, e1, rfl, w1⟩ := DataW.trod_int Try.underlying23 hy1
  obtain ⟨s, e2, _, w2⟩ := DataW.trod_string Try.underlying9 hy2
  simp only [List.cons.injEq, and_true] at e0 e1 e2
  subst e0 e1 e2
  obtain ⟨n, rfl, hn⟩ := u64_wf' w1
  exact ⟨x, n, s, rfl, i64_wf' w0, hn, w2⟩
theorem open_u8 {r : Reach} {b0 : Nat} {v : Value} {d : DataW H} {p : List MemPlace} (hv : Value.okWide Try.prog w r b0 5 v) (h : DataW.Trod enc Try.prog w base spare held 5 v d p) :
    ∃ x : Nat, v = .int .u8 x ∧ x < 256 := by
  obtain ⟨a, rfl, _, _, wf⟩ := open_int Try.underlying5 hv h
  obtain ⟨n, rfl, hn⟩ := u8_wf wf
  exact ⟨n, rfl, hn⟩
end
/-- What Num answers. -/
def numO (l : List Nat) (w : Int) (n : Nat) : List Nat := if BytM.okN w n then l ++ BytM.dig w.toNat n else []
def numE (w : Int) (n : Nat) : Int := if BytM.okN w n then 0 else 2
def txtO (l : List Nat) (s : ByteArray) : List Nat := if s.size ≤ 65535 then l ++ BytM.txt (nats s) else []
def txtE (s : ByteArray) : Int := if s.size ≤ 65535 then 0 else 3
theorem Arg.nil {w : World} : Arg w .none [] 0 0 := ⟨rfl, Nat.le_refl _, Nat.zero_le _, (fun x hx => by cases hx), fun _ => ⟨rfl, rfl⟩, Byt.none rfl⟩
theorem pnum_all (A : Option Addr) (l : List Nat) (c cap : Nat) (hc : c ≤ 800000) (w : Int) (n : Nat) (W : World) (hA : Arg W A l c cap) :
    Calls Try.prog 11 #[.slice A c cap, .int .i64 w, .int .u64 n] W fun e w' => ∃ A' c', e = .returned (.tuple #[.slice A' (numO l w n).length c', .int .i64 (numE w n)]) ∧ Arg w' A' (numO l w n) (numO l w n).length c' ∧ Below W.heap.size W w' := by
  unfold numO numE
  cases h : BytM.okN w n with
  | false =>
    refine (pnum_bad _ w n h W).mono ?_
    rintro e w' ⟨rfl, rfl⟩
    exact ⟨none, 0, rfl, Arg.nil, Below.refl _ _⟩
  | true =>
    refine (pnum_any A l c cap hc w n h W hA).mono ?_
    rintro e w' ⟨v, rfl, o, b⟩
    obtain ⟨A', c', rfl, a⟩ := o.arg (hA.b256.append (BytM.dig_256 _ _))
    exact ⟨A', c', rfl, a, b⟩
theorem rnum_all (A : Option Addr) (l : List Nat) (c cap : Nat) (hc : c ≤ 800000) (w : Int) (n : Nat) (hn : n < 18446744073709551616) (W : World) (hA : Arg W A l c cap) :
    Calls Try.prog 12 #[.slice A c cap, .int .i64 w, .int .u64 n] W fun e w' => ∃ A' c', e = .returned (.tuple #[.slice A' (numO l w n).length c', .int .i64 (numE w n)]) ∧ Arg w' A' (numO l w n) (numO l w n).length c' ∧ Below W.heap.size W w' := by
  unfold numO numE
  cases h : BytM.okN w n with
  | false =>
    refine (rnum_bad _ w n hn h W).mono ?_
    rintro e w' ⟨rfl, b⟩
    exact ⟨none, 0, rfl, Arg.nil, b⟩
  | true =>
    refine (rnum_any A l c cap hc w n hn h W hA).mono ?_
    rintro e w' ⟨v, rfl, o, b⟩
    obtain ⟨A', c', rfl, a⟩ := o.arg (hA.b256.append (BytM.dig_256 _ _))
    exact ⟨A', c', rfl, a, b⟩
theorem ptext_all (A : Option Addr) (l : List Nat) (c cap : Nat) (hc : c ≤ 800000) (s : ByteArray) (W : World) (hA : Arg W A l c cap) :
    Calls Try.prog 13 #[.slice A c cap, .string s] W fun e w' => ∃ A' c', e = .returned (.tuple #[.slice A' (txtO l s).length c', .int .i64 (txtE s)]) ∧ Arg w' A' (txtO l s) (txtO l s).length c' ∧ Below W.heap.size W w' := by
  unfold txtO txtE
  by_cases h : s.size ≤ 65535
  · simp only [if_pos h]
    refine (ptext_any A l c cap hc s h W hA).mono ?_
    rintro e w' ⟨v, rfl, o, b⟩
    obtain ⟨A', c', rfl, a⟩ := o.arg (hA.b256.append (BytM.txt_256 (nats_256 s)))
    exact ⟨A', c', rfl, a, b⟩
  · simp only [if_neg h]
    refine (ptext_bad _ s (by omega) W).mono ?_
    rintro e w' ⟨rfl, rfl⟩
    exact ⟨none, 0, rfl, Arg.nil, Below.refl _ _⟩
theorem rtext_all (A : Option Addr) (l : List Nat) (c cap : Nat) (hc : c ≤ 800000) (s : ByteArray) (W : World) (hA : Arg W A l c cap) :
    Calls Try.prog 14 #[.slice A c cap, .string s] W fun e w' => ∃ A' c', e = .returned (.tuple #[.slice A' (txtO l s).length c', .int .i64 (txtE s)]) ∧ Arg w' A' (txtO l s) (txtO l s).length c' ∧ Below W.heap.size W w' := by
  unfold txtO txtE
  by_cases h : s.size ≤ 65535
  · simp only [if_pos h]
    refine (rtext_any A l c cap hc s h W hA).mono ?_
    rintro e w' ⟨v, rfl, o, b⟩
    obtain ⟨A', c', rfl, a⟩ := o.arg (hA.b256.append (BytM.txt_256 (nats_256 s)))
    exact ⟨A', c', rfl, a, b⟩
  · simp only [if_neg h]
    refine (rtext_bad _ s (by omega) W).mono ?_
    rintro e w' ⟨rfl, rfl⟩
    exact ⟨none, 0, rfl, Arg.nil, Below.refl _ _⟩
end Go.Proofs.Ytiebaiofpihoiaa
