/-
  The contract of parity.Fix.
-/
import Derived.Test.YteoccdcebgcdmaaParMendE
import Derived.Test.YteoccdcebgcdmaaParMendP
import Derived.Deep.Onto
import Derived.Deep.Cut
namespace Go.Proofs.Yteoccdcebgcdmaa
open Go.ChangeShapes Go.WideShapes Go.ChangeAt Go.RowKit
attribute [local go_sem] Gives
theorem below_only {k g : Nat} {a b c : World} (h : Below k a b) (ho : b.grownBy c (some g)) (hg : k ≤ g) (hk : k ≤ b.heap.size) : Below k a c :=
  h.trans ⟨ho.os, ho.tape, ho.output, ho.size, fun i hi => ho.block i (by omega) (by intro e; injection e; omega)⟩
theorem gaps_cnt {m : Nat} {M : Nat → Bool} (h : m ≤ 62) : (gapsL m M).length ≤ cntM M := by
  unfold gapsL cntM
  rw [← List.countP_eq_length_filter]
  exact (List.range_sublist.2 (by omega)).countP_le
theorem upd_lt {F : Nat → Nat → Nat} {j : Nat} {f : Nat → Nat} (hF : ∀ i k, F i k < 256) (hf : ∀ k, f k < 256) : ∀ i k, upd F j f i k < 256 := fun i k => by
  unfold upd
  split
  · exact hf k
  · exact hF i k
theorem mis_lt {m : Nat} {M : Nat → Bool} {F : Nat → Nat → Nat} (hF : ∀ i k, F i k < 256) : ∀ k, mis m M F k < 256 := fun k => GfM.xor_lt (PP_lt (zeroed_lt hF) m k) (hF m k)
theorem wei_lt {m : Nat} {M : Nat → Bool} {F : Nat → Nat → Nat} (hF : ∀ i k, F i k < 256) : ∀ k, wei m M F k < 256 := fun k => GfM.xor_lt (QQ_lt m k) (hF (m + 1) k)
theorem twoX_lt {x y : Nat} {s q : Nat → Nat} : ∀ k, twoX x y s q k < 256 := fun k => GfM.mul_lt (GfM.inv_lt _)
theorem twoY_lt {x y : Nat} {s q : Nat → Nat} (hs : ∀ k, s k < 256) : ∀ k, twoY x y s q k < 256 := fun k => GfM.xor_lt (hs k) (twoX_lt k)
theorem mendD_lt {m : Nat} {M : Nat → Bool} {F : Nat → Nat → Nat} (hF : ∀ i k, F i k < 256) : ∀ i k, mendD m M F i k < 256 := by
  intro i k
  unfold mendD
  match gapsL m M with
  | [] => exact zeroed_lt hF i k
  | [x] =>
    refine upd_lt (zeroed_lt hF) ?_ i k
    split
    · exact fun k => GfM.mul_lt (pwI_lt _)
    · exact mis_lt hF
  | x :: y :: _ => exact upd_lt (upd_lt (zeroed_lt hF) twoX_lt) (twoY_lt (mis_lt hF)) i k
theorem anyOut_iff {N n : Nat} {L : Nat → Int} : anyOut N n L = false ↔ ∀ i, i < n → 0 ≤ L i ∧ L i < N := by
  constructor
  · intro h i hi
    have := List.any_eq_false.1 h i (List.mem_range.2 hi)
    simp [outB] at this
    omega
  · intro h
    exact anyOut_no fun i hi => by have := h i hi; simp [outB]; omega
def FixBad (E : Int) (w : World) (e : Ending) (w' : World) : Prop := e = .returned (.tuple #[.slice none 0 0, .int .i64 E]) ∧ Below w.heap.size w w'
set_option maxRecDepth 100000 in
theorem fix_few (A A' : Option Addr) (N cap n c : Nat) (h : N < 3) (w : World) :
    Calls Try.prog 17 #[.slice A N cap, .slice A' n c] w (FixBad 2 w) := by
  have hmf : ∀ (fn : Fn) (first cap : Array Value) (w : World), (Instr.makeFunc fn first cap).run Try.prog w = .ok (.func fn first cap) w := fun _ _ _ _ => rfl
  have hb := (Below.refl w.heap.size w).alloc (Nat.le_refl _) (.cells #[.slice A N cap] 22)
  go_enter Try.func17, Try.ntmps17
  go_wp2_with fail
  go_ret2
  exact ⟨rfl, hb⟩
section
variable (A A' : Option Addr) (N cap n c : Nat) (L : Nat → Int) (hn : n ≤ 1000000) (h3 : 3 ≤ N) (hN : N ≤ 1000000) (w : World) (hs : Ints w w.heap.size A' n L)
include hn h3 hN hs
set_option maxRecDepth 100000 in
theorem fix_out (hO : anyOut N n L = true) :
    Calls Try.prog 17 #[.slice A N cap, .slice A' n c] w (FixBad 2 w) := by
  have hmf : ∀ (fn : Fn) (first cap : Array Value) (w : World), (Instr.makeFunc fn first cap).run Try.prog w = .ok (.func fn first cap) w := fun _ _ _ _ => rfl
  have hb := (Below.refl w.heap.size w).alloc (Nat.le_refl _) (.cells #[.slice A N cap] 22)
  have hk : Blk (w.alloc (.cells #[.slice A N cap] 22)) w.heap.size 22 #[.slice A N cap] := Blk.new _ _ _
  have hc := contains_any A' A n c w.heap.size N cap L hn _ ((hs.below hb (Nat.le_refl _)).more hb.size) (by rw [hk.cell]; rfl)
  rw [hO] at hc
  go_enter Try.func17, Try.ntmps17
  go_wp2_with fail
  refine (hc).mono ?_
  rintro e w' ⟨rfl, rfl⟩
  go_wp2_with fail
  go_ret2
  exact ⟨rfl, hb⟩
variable (hO : anyOut N n L = false)
include hO
set_option maxRecDepth 100000 in
theorem fix_long (h64 : 64 < N) :
    Calls Try.prog 17 #[.slice A N cap, .slice A' n c] w (FixBad 3 w) := by
  have hmf : ∀ (fn : Fn) (first cap : Array Value) (w : World), (Instr.makeFunc fn first cap).run Try.prog w = .ok (.func fn first cap) w := fun _ _ _ _ => rfl
  have hb := (Below.refl w.heap.size w).alloc (Nat.le_refl _) (.cells #[.slice A N cap] 22)
  have hk : Blk (w.alloc (.cells #[.slice A N cap] 22)) w.heap.size 22 #[.slice A N cap] := Blk.new _ _ _
  have hcell : (w.alloc (.cells #[.slice A N cap] 22)).cell? ⟨w.heap.size, 0, none⟩ = some (.slice A N cap) := by rw [hk.cell]; rfl
  have hc := contains_any A' A n c w.heap.size N cap L hn _ ((hs.below hb (Nat.le_refl _)).more hb.size) hcell
  rw [hO] at hc
  go_enter Try.func17, Try.ntmps17
  go_wp2_with fail
  refine (hc).mono ?_
  rintro e w' ⟨rfl, rfl⟩
  go_wp2_with fail
  go_ret2
  exact ⟨rfl, hb⟩
variable (h64 : N ≤ 64)
include h64
set_option maxRecDepth 100000 in
theorem fix_full (hC : 2 < cntM (marks n L)) :
    Calls Try.prog 17 #[.slice A N cap, .slice A' n c] w (FixBad 7 w) := by
  have hmf : ∀ (fn : Fn) (first cap : Array Value) (w : World), (Instr.makeFunc fn first cap).run Try.prog w = .ok (.func fn first cap) w := fun _ _ _ _ => rfl
  have hb := (Below.refl w.heap.size w).alloc (Nat.le_refl _) (.cells #[.slice A N cap] 22)
  have hk : Blk (w.alloc (.cells #[.slice A N cap] 22)) w.heap.size 22 #[.slice A N cap] := Blk.new _ _ _
  have hcell : (w.alloc (.cells #[.slice A N cap] 22)).cell? ⟨w.heap.size, 0, none⟩ = some (.slice A N cap) := by rw [hk.cell]; rfl
  have hi := (hs.below hb (Nat.le_refl _)).more hb.size
  have hc := contains_any A' A n c w.heap.size N cap L hn _ hi hcell
  rw [hO] at hc
  have hf := finder_any A' n c L hn (fun i hi => by have := anyOut_iff.1 hO i hi; omega) _ hi
  have hle := cntM_le (marks n L)
  go_enter Try.func17, Try.ntmps17
  go_wp2_with fail
  refine (hc).mono ?_
  rintro e w' ⟨rfl, rfl⟩
  go_wp2_with fail
  refine hf.mono ?_
  rintro e w2 ⟨rfl, b2, hb2⟩
  have hb3 := hb.trans (hb2.mono hb.size)
  clear b2 hb2
  revert hC hle
  generalize cntM (marks n L) = K
  intro hC hle
  go_wp2_with fail
  go_ret2
  exact ⟨rfl, hb3⟩
end
set_option maxRecDepth 100000 in
theorem fix_ok (A A' : Option Addr) (m cap n c : Nat) (L : Nat → Int) (F : Nat → Nat → Nat) (hF : ∀ i k, F i k < 256) (hn : n ≤ 1000000) (h1 : 1 ≤ m) (h2 : m ≤ 62) (w : World) (hs : Ints w w.heap.size A' n L) (hS : Secs w w.heap.size A (m + 2) F)
    (hO : anyOut (m + 2) n L = false) (hC : cntM (marks n L) ≤ 2) :
    Calls Try.prog 17 #[.slice A (m + 2) cap, .slice A' n c] w fun e w' => ∃ g cap' : Nat, e = .returned (.tuple #[.slice (some ⟨g, 0, none⟩) (m + 2) cap', .int .i64 0]) ∧
      OwnS w' w.heap.size (.slice (some ⟨g, 0, none⟩) (m + 2) cap') (m + 2) (mendP m (marks n L) (mendD m (marks n L) F)) ∧ Below w.heap.size w w' := by
  have hmf : ∀ (fn : Fn) (first cap : Array Value) (w : World), (Instr.makeFunc fn first cap).run Try.prog w = .ok (.func fn first cap) w := fun _ _ _ _ => rfl
  obtain ⟨b, o, rfl, _, _⟩ := hS (by omega)
  have hb := (Below.refl w.heap.size w).alloc (Nat.le_refl _) (.cells #[.slice (some ⟨b, o, none⟩) (m + 2) cap] 22)
  have hk : Blk (w.alloc (.cells #[.slice (some ⟨b, o, none⟩) (m + 2) cap] 22)) w.heap.size 22 #[.slice (some ⟨b, o, none⟩) (m + 2) cap] := Blk.new _ _ _
  have hcell : (w.alloc (.cells #[.slice (some ⟨b, o, none⟩) (m + 2) cap] 22)).cell? ⟨w.heap.size, 0, none⟩ = some (.slice (some ⟨b, o, none⟩) (m + 2) cap) := by rw [hk.cell]; rfl
  have hi := (hs.below hb (Nat.le_refl _)).more hb.size
  have hS1 := (hS.below hb (Nat.le_refl _)).more hb.size
  have hc := contains_any A' (some ⟨b, o, none⟩) n c w.heap.size (m + 2) cap L hn _ hi hcell
  rw [hO] at hc
  have hf := finder_any A' n c L hn (fun i hi => by have := anyOut_iff.1 hO i hi; omega) _ hi
  have hG : (gapsL m (marks n L)).length ≤ 2 := Nat.le_trans (gaps_cnt h2) hC
  have HS1 := hid hS1
  have HF := hid hF
  clear hS hs hi hS1 hF hO
  revert hC hf hG
  unfold FinderPost
  generalize marks n L = M
  generalize cntM M = K
  intro hC hf hG
  have HG := hid hG
  clear hG
  generalize hw1 : World.alloc w _ = w1 at *
  go_enter Try.func17, Try.ntmps17
  go_wp2_with fail
  refine (hc).mono ?_
  rintro e w' ⟨rfl, rfl⟩
  go_wp2_with fail
  refine hf.mono ?_
  rintro e w2 ⟨rfl, b2, hb2⟩
  have hk2 := hk.below hb2 hk.lt
  have hcell2 : w2.cell? ⟨w.heap.size, 0, none⟩ = some (.slice (some ⟨b, o, none⟩) (m + 2) cap) := by rw [hk2.cell]; rfl
  have HM := HID b2
  have hd := hb.trans (hb2.mono hb.size)
  have HS2 := HID ((HS1.out.below hb2 (Nat.le_refl _)).more hb2.size)
  have hl2 := b2.lt
  have hs1 := hb.size
  have hs2 := hb2.size
  clear b2 hk2 hk hb2 hb hf hc HS1 hcell
  go_wp2_with fail
  refine (clone_any b o (m + 2) cap F (by omega) _ HS2.out).mono ?_
  rintro e w3 ⟨g, cap', rfl, own, hb3⟩
  have hM3 := HM.out.below hb3 HM.out.lt
  have hd3 := hd.trans (hb3.mono hd.size)
  obtain ⟨hg1, hg2, hg3⟩ := own_lt own
  clear HS2 HM hd hb3
  go_wp2_with fail
  refine (mendD_any w2.heap.size g m cap' w1.heap.size F M HF.out h1 h2 HG.out _ own hM3).mono ?_
  rintro e w4 ⟨rfl, own4, hM4, ho4⟩
  have hd4 := below_only hd3 ho4 (by omega) hd3.size
  go_wp2_with fail
  refine (mendP_any w2.heap.size g m cap' w1.heap.size (mendD m M F) M (mendD_lt HF.out) h2 _ own4 hM4).mono ?_
  rintro e w5 ⟨rfl, own5, _, ho5⟩
  have hd5 := below_only hd4 ho5 (by omega) hd4.size
  go_wp2_with fail
  go_ret2
  exact ⟨_, _, rfl, World.ownsRow.mono own5 (by omega), hd5⟩
end Go.Proofs.Yteoccdcebgcdmaa
