/-
  Trees: Path and Check of whatever arguments, the document's and the program's; lists of ints in drawn regions; what comes in.
  Contract of casemateref02.Same where both lists hold the same sectors.
  Trees: what is told and set for whatever number, refused or not; the program's and the document's.
  Trees: claims (leaf, its tag, a proof, a top) as they come in; TreeChecks over TreeC and TreeD.
  Slices of bytes that come in.
  Slices of structs of k cells that come in.
  A list of elements that came in, as Sli.
  Trees: settings (a height, tags) and acts as they come in.
  Trees in plain numbers: what one leaf turns.
  Trees: New of whatever comes in, in drawn regions.
  Trees: the document's tree as a representation; an act in memory.
  Trees: the program's and the document's in the midst of an act (Pl).
  TreePlays, over TreeC and TreeD (written by tools/gen_trplays.py).
-/
import Derived.Test.YtdmnhpgafbcehaaDoorMrg8
import Derived.ChangeSlices
import Derived.Deep.Strs
set_option linter.unusedVariables false
set_option linter.unusedSimpArgs false
set_option maxRecDepth 100000
namespace Go.Proofs.YtdmnhpgafbcehaaDoor
open Go.ChangeShapes Go.WideShapes Go.ChangeAt Go.RowKit Go.Deep
attribute [local go_sem] Gives GivesE
namespace TrM
open TgP RwP
/-- What Path tells. -/
def plist (h leaf : Int) : List Nat := if pathOk h leaf then pthL h.toNat leaf.toNat else []
theorem path_cases (h leaf : Int) : (∃ a b : Nat, h = a ∧ leaf = b ∧ okH h ∧ b < 2 ^ a) ∨ ¬ pathOk h leaf := by
  by_cases hp : pathOk h leaf
  · left
    have h1 := hp.1.1
    refine ⟨h.toNat, leaf.toNat, by omega, by have := hp.2.1; omega, hp.1, ?_⟩
    have := hp.2.2
    have := hp.2.1
    omega
  · exact .inr hp
/-- A list of ints of one's own, in a drawn region. -/
def spI (l : List Nat) : Sp := ⟨fun v => ∃ (A : Option Addr) (c : Nat), v = .slice A l.length c, fun v w => ∃ (A : Option Addr) (c : Nat), v = .slice A l.length c ∧ OwnI w 0 (.slice A l.length c) l, .slice none l.length 0⟩
/-! ### What comes in -/
theorem cells_k18 : Tryd.prog.cellsOf 23 = 32 := by kernel_rfl
theorem uK18 : Tryd.prog.underlying 23 = some (.array 32 5) := Tryd.underlying23
theorem cells_t18 : Tryd.prog.cellsOf 36 = 32 := by kernel_rfl
theorem cells_i18 : Tryd.prog.cellsOf 3 = 1 := by kernel_rfl
theorem cells_lt18 : Tryd.prog.cellsOf 24 = 1 := by kernel_rfl
section
variable {H : Type} {enc : TypeId × Value → H} {w : World} {base : Nat} {spare : Nat → Bool} {held : Bool}
/-- A list of rows of bytes. -/
theorem trod_rows {L E : TypeId} {K : Nat} (hK : 0 < K) (hu : Tryd.prog.underlying L = some (.slice E)) (hE : Tryd.prog.underlying E = some (.array K 5)) (hc : Tryd.prog.cellsOf E = K) {fuel : Nat} {c : Value} {x : DataW H × List MemPlace} (hf : DataW.trod enc Tryd.prog w base spare held fuel L [c] = some x) :
    ∃ (A : Option Addr) (F : Nat → Nat → Nat) (n cap : Nat), c = .slice A n cap ∧ SliF K (fun b => b < w.heap.size) w A n F cap ∧ ∀ i j, F i j < 256 := by
  rcases open_slice hu hf with ⟨hcs, _⟩ | ⟨a, n, cap, m, fu, D, Plc, hcs, hb, hl, hm, hmm, hx, hi⟩
  · simp only [List.cons.injEq, and_true] at hcs
    exact ⟨none, fun _ _ => 0, 0, 0, hcs, Sli.nil _ _ _ _, fun _ _ => by show 0 < 256; omega⟩
  · simp only [List.cons.injEq, and_true] at hcs
    subst hcs
    have hnm : n ≤ m := by rw [hmm]; split <;> omega
    have one : ∀ i, i < n → ∃ f : Nat → Nat, (∀ j, f j < 256) ∧ ∀ j, j < K → w.cell? (a.add (i * K + j)) = some (.int .u8 (f j : Nat)) := fun i hin => by
      obtain ⟨cs', hc', ht⟩ := hi i (by omega)
      have h3 := World.cells?_some hc'
      rw [hc] at h3
      obtain ⟨f, h1, h2⟩ := trod_ar hE hc ht
      refine ⟨f, h1, fun j hj => ?_⟩
      have h6 := h3.2.2 j hj
      rw [Go.Deep.add_add, h2, Array.getElem?_toList, get_ar hj] at h6
      exact h6
    obtain ⟨F, hF⟩ := choose_lt one
    refine ⟨some a, fun i => if i < n then F i else fun _ => 0, n, cap, rfl, ⟨lsF_len _ _, hl, hm, (fun h => by cases h), fun hn => ?_⟩, fun i j => ?_⟩
    · rw [lsF_len] at hn
      have h00 := (hF 0 hn).2 0 hK
      have hsp : a.spot = none := by
        simp only [Nat.zero_mul, Nat.zero_add, Addr.add, if_true] at h00
        unfold World.cell? at h00
        split at h00
        · cases hs : a.spot with
          | none => rfl
          | some s => simp [hs] at h00
        · cases h00
      have hblk : a.block < w.heap.size := by
        have := World.block_lt_of_cell? w _ h00
        simpa [Addr.add] using this
      obtain ⟨b, o, sp⟩ := a
      subst hsp
      refine ⟨b, o, rfl, hblk, hblk, fun i x hi2 j u hj => ?_⟩
      obtain ⟨hin, rfl⟩ := lsF_some hi2
      rw [if_pos hin] at hj
      obtain ⟨hjK, rfl⟩ := ar_list_get hj
      have := (hF i hin).2 j hjK
      rw [Addr.add_mid] at this
      rwa [show o + (i * K + j) = o + i * K + j by omega] at this
    · show (if i < n then F i else fun _ => 0) j < 256
      split
      · rename_i h; exact (hF i h).1 j
      · show 0 < 256; omega
end
theorem SliF.cut {K : Nat} {S : Nat → Prop} {w : World} {A : Option Addr} {n cap m : Nat} {F : Nat → Nat → Nat} (h : SliF K S w A n F cap) (hm : m ≤ n) : SliF K S w A m F cap :=
  ⟨lsF_len _ _, by have := h.cap; omega, h.max, fun e => by obtain ⟨h1, h2⟩ := h.none e; exact ⟨by omega, h2⟩, fun hn => by
    rw [lsF_len] at hn
    obtain ⟨b, o, e, h1, h2, h3⟩ := h.lst (by rw [lsF_len]; omega)
    exact ⟨b, o, e, h1, h2, fun i x hx => by
      obtain ⟨hi, rfl⟩ := lsF_some hx
      exact h3 i _ (lsF_get (by omega))⟩⟩
end TrM
end Go.Proofs.YtdmnhpgafbcehaaDoor
set_option maxRecDepth 100000
namespace Go.Proofs.YtdmnhpgafbcehaaDoor
open Go.ChangeShapes Go.WideShapes Go.ChangeAt Go.RowKit
attribute [local go_sem] Gives
namespace TrM
open TgP RwP
set_option maxHeartbeats 800000 in
set_option maxRecDepth 100000 in
theorem rsame_own {S1 S2 : Nat → Prop} (A B : Option Addr) (n c c' : Nat) (F : Nat → Nat → Nat) (hn : n ≤ 1000) (w : World) (hs : SliF 64 S1 w A n F c) (ht : SliF 64 S2 w B n F c') :
    Calls Tryd.prog 21 #[.slice A n c, .slice B n c'] w fun e w' => e = .returned (.bool true) ∧ Below w.heap.size w w' := by
  have HS := hid hs
  have HT := hid ht
  clear hs ht
  go_enter Tryd.func21, Tryd.ntmps21
  go_wp2_with fail
  go_loopw [5] (fun i wr => ∃ j : Nat, j ≤ n ∧ i = .int .i64 j ∧ Hid (Below w.heap.size w wr)) (fun i _ => n - (intOf i).toNat)
  case atStart => exact ⟨0, by omega, rfl, hid (Below.refl _ _)⟩
  case round =>
    obtain ⟨j, hj, rfl, HB⟩ := hrel
    by_cases hlt : j < n
    · have t1 : (j : Int) < n := by omega
      obtain ⟨b, o, rfl, _, _, _⟩ := HS.out.some (lsF_get hlt)
      obtain ⟨b', o', rfl, _, _, _⟩ := HT.out.some (lsF_get hlt)
      have R1 := hid (fun (w' : World) (hw' : Below w.heap.size w w') => show w'.rangeAt b (o + j * 64) (ar 64 (F j)).toList by obtain ⟨b, o, e, _, _, hr⟩ := (HS.out.turn (Turn.of_new (S := fun _ => False) hw') fun _ _ _ h => h).some (lsF_get hlt); cases e; exact hr)
      have R2 := hid (fun (w' : World) (hw' : Below w.heap.size w w') => show w'.rangeAt b' (o' + j * 64) (ar 64 (F j)).toList by obtain ⟨b, o, e, _, _, hr⟩ := (HT.out.turn (Turn.of_new (S := fun _ => False) hw') fun _ _ _ h => h).some (lsF_get hlt); cases e; exact hr)
      have EQ := hid (eqA_refl 64 (F j))
      go_wp2_with fail
      refine wp_region_tail (C := fun w' => Below w.heap.size w w') 9 (by kernel_rfl) (by kernel_rfl) (by kernel_rfl) HB.out.drew ?_
      simp only [List.take_succ_cons, List.take_zero, List.drop_succ_cons, List.drop_zero]
      apply wpK_val
      · rfl
      · intro w' hw'
        go_simp
        first | exact rfl | exact ⟨rfl, hw'⟩
      simp only [Act.put, List.setIfInBounds_toArray, List.set_cons_succ, List.set_cons_zero]
      apply wpK_val
      · rfl
      · intro w' hw'
        go_simp
        first | exact rfl | exact ⟨rfl, hw'⟩
      simp only [Act.put, List.setIfInBounds_toArray, List.set_cons_succ, List.set_cons_zero]
      apply wpK_val
      · rfl
      · intro w' hw'
        have h1 : j < n := hlt
        go_simp
        first | exact rfl | exact ⟨rfl, hw'⟩
      simp only [Act.put, List.setIfInBounds_toArray, List.set_cons_succ, List.set_cons_zero]
      apply kldA tS
      · rfl
      · rfl
      · exact fun w' hw' => R1.out w' hw'
      simp only [Act.put, List.setIfInBounds_toArray, List.set_cons_succ, List.set_cons_zero]
      apply wpK_val
      · rfl
      · intro w' hw'
        go_simp
        first | exact rfl | exact ⟨rfl, hw'⟩
      simp only [Act.put, List.setIfInBounds_toArray, List.set_cons_succ, List.set_cons_zero]
      apply wpK_val
      · rfl
      · intro w' hw'
        go_simp
        first | exact rfl | exact ⟨rfl, hw'⟩
      simp only [Act.put, List.setIfInBounds_toArray, List.set_cons_succ, List.set_cons_zero]
      apply wpK_val
      · rfl
      · intro w' hw'
        have h1 : j < n := hlt
        go_simp
        first | exact rfl | exact ⟨rfl, hw'⟩
      simp only [Act.put, List.setIfInBounds_toArray, List.set_cons_succ, List.set_cons_zero]
      apply kldA tS
      · rfl
      · rfl
      · exact fun w' hw' => R2.out w' hw'
      simp only [Act.put, List.setIfInBounds_toArray, List.set_cons_succ, List.set_cons_zero]
      apply kneU false uS eqgS
      · rfl
      · rfl
      · rfl
      · exact (by rw [EQ.out]; rfl)
      simp only [Act.put, List.setIfInBounds_toArray, List.set_cons_succ, List.set_cons_zero]
      refine wpK_nil fun w4 hw4 => ?_
      have H4 := hid hw4
      clear hw4
      go_wp2_with fail
      go_roundw
      case rel => exact ⟨j + 1, by omega, by go_num, H4⟩
      case measure => simp [intOf] <;> omega
    · obtain rfl : j = n := by omega
      have t1 : ¬ (j : Int) < j := by omega
      go_wp2_with fail
      go_ret
      exact ⟨rfl, HB.out⟩
end TrM
end Go.Proofs.YtdmnhpgafbcehaaDoor
set_option maxRecDepth 100000
namespace Go.Proofs.YtdmnhpgafbcehaaDoor
open Go.ChangeShapes Go.WideShapes Go.ChangeAt Go.RowKit
namespace TrM
open TgP RwP
def tgV (t : Tr) (j : Int) : Nat → Nat := if 1 ≤ j ∧ j < ((2 * t.n : Nat) : Int) then t.tg j.toNat else fun _ => 0
def tgE (t : Tr) (j : Int) : Int := if 1 ≤ j ∧ j < ((2 * t.n : Nat) : Int) then 0 else 2
def ndV (t : Tr) (j : Int) : Nat → Nat := if 1 ≤ j ∧ j < ((t.n : Nat) : Int) then t.nd j.toNat else fun _ => 0
def ndE (t : Tr) (j : Int) : Int := if 1 ≤ j ∧ j < ((t.n : Nat) : Int) then 0 else 2
def lfE (t : Tr) (j : Int) : Int := if 0 ≤ j ∧ j < ((t.n : Nat) : Int) then 0 else 2
def setV (t : Tr) (j : Int) (f : Nat → Nat) : Tr := if 0 ≤ j ∧ j < ((t.n : Nat) : Int) then t.set j.toNat f else t
def chV (t : Tr) (j : Int) (f : Nat → Nat) : List Nat := if 0 ≤ j ∧ j < ((t.n : Nat) : Int) then chg t (t.set j.toNat f) j.toNat else []
def prN (t : Tr) (j : Int) : Nat := if 0 ≤ j ∧ j < ((t.n : Nat) : Int) then t.h else 0
theorem chV_le (t : Tr) (j : Int) (f : Nat → Nat) : (chV t j f).length ≤ t.h := by
  unfold chV
  split
  · have := chg_le t (t.set j.toNat f) j.toNat t.h
    rw [List.take_of_length_le (by rw [pthL_length]; omega)] at this
    exact this
  · exact Nat.zero_le _
section
variable {repT : RepT} {w : World} {g : Nat} {M : Nat → Prop} {t : Tr}
theorem tag_all (D : TreeD repT) (j : Int) (R : repT w g M t) (S : Salts w) : Calls Tryd.prog 15 #[pT g, .int .i64 j] w fun e w' => e = .returned (.tuple #[.agg (ar 32 (tgV t j)), .int .i64 (tgE t j)]) ∧ Below w.heap.size w w' := by
  unfold tgV tgE
  by_cases h : 1 ≤ j ∧ j < ((2 * t.n : Nat) : Int)
  · rw [if_pos h, if_pos h]
    obtain ⟨n, rfl⟩ : ∃ n : Nat, j = n := ⟨j.toNat, by have := h.1; omega⟩
    rw [Int.toNat_natCast]
    exact D.tag n h R S
  · rw [if_neg h, if_neg h]
    exact D.tagNo j h R S
theorem nod_all (D : TreeD repT) (j : Int) (R : repT w g M t) (S : Salts w) : Calls Tryd.prog 17 #[pT g, .int .i64 j] w fun e w' => e = .returned (.tuple #[.agg (ar 64 (ndV t j)), .int .i64 (ndE t j)]) ∧ Below w.heap.size w w' := by
  unfold ndV ndE
  by_cases h : 1 ≤ j ∧ j < ((t.n : Nat) : Int)
  · rw [if_pos h, if_pos h]
    obtain ⟨n, rfl⟩ : ∃ n : Nat, j = n := ⟨j.toNat, by have := h.1; omega⟩
    rw [Int.toNat_natCast]
    exact D.nod n h R S
  · rw [if_neg h, if_neg h]
    exact D.nodNo j h R S
theorem proof_all (C : TreeC repT) (D : TreeD repT) (j : Int) (R : repT w g M t) (S : Salts w) : Calls Tryd.prog 19 #[pT g, .int .i64 j] w fun e w' => ∃ (A : Option Addr) (c : Nat) (T : Nat → Prop), e = .returned (.tuple #[.slice A (prN t j) c, .int .i64 (lfE t j)]) ∧ SliF 64 T w' A (prN t j) (prf t j.toNat) c ∧ Below w.heap.size w w' := by
  unfold prN lfE
  by_cases h : 0 ≤ j ∧ j < ((t.n : Nat) : Int)
  · rw [if_pos h, if_pos h]
    obtain ⟨n, rfl⟩ : ∃ n : Nat, j = n := ⟨j.toNat, by omega⟩
    rw [Int.toNat_natCast]
    refine (C.proof n (by omega) R S).mono ?_
    rintro e w2 ⟨v, rfl, p, hb⟩
    obtain ⟨A, c, rfl, sl⟩ := OwnX.sli (arL_len 64) p
    rw [lsF_len] at sl ⊢
    exact ⟨A, c, _, rfl, sl, hb⟩
  · rw [if_neg h, if_neg h]
    refine (D.proofNo j h R S).mono ?_
    rintro e w2 ⟨rfl, hb⟩
    exact ⟨none, 0, fun _ => False, rfl, Sli.nil _ _ _ _, hb⟩
theorem set_all (C : TreeC repT) (D : TreeD repT) (j : Int) (f : Nat → Nat) (hf : ∀ i, f i < 256) (R : repT w g M t) (S : Salts w) : Calls Tryd.prog 12 #[pT g, .int .i64 j, .agg (ar 32 f)] w fun e w' => ∃ (v : Value) (M' : Nat → Prop), e = .returned (.tuple #[v, .int .i64 (lfE t j)]) ∧ OwnI w' w.heap.size v (chV t j f) ∧ repT w' g M' (setV t j f) ∧ (∀ b, M' b → M b ∨ w.heap.size ≤ b) ∧ (∀ b, v.ownBlock = some b → ¬ M' b) ∧ Turn M w w' := by
  unfold lfE chV setV
  by_cases h : 0 ≤ j ∧ j < ((t.n : Nat) : Int)
  · rw [if_pos h, if_pos h, if_pos h]
    obtain ⟨n, rfl⟩ : ∃ n : Nat, j = n := ⟨j.toNat, by omega⟩
    rw [Int.toNat_natCast]
    exact C.set n f (by omega) hf R S
  · rw [if_neg h, if_neg h, if_neg h]
    refine (D.setNo j f h R S).mono ?_
    rintro e w2 ⟨rfl, hb⟩
    exact ⟨_, M, rfl, OwnI.nil _ _, C.keep R (Turn.of_new (S := fun _ => False) hb) (fun _ _ h => h), fun b hb => .inl hb, (fun b hb => by cases hb), Turn.of_new hb⟩
end
section
variable {w : World} {g gl cl : Nat} {t : Tr}
theorem rtag_all (j : Int) (H : RefT w g gl cl t) : Calls Tryd.prog 16 #[pT g, .int .i64 j] w fun e w' => e = .returned (.tuple #[.agg (ar 32 (tgV t j)), .int .i64 (tgE t j)]) ∧ Below w.heap.size w w' := by
  unfold tgV tgE
  by_cases h : 1 ≤ j ∧ j < ((2 * t.n : Nat) : Int)
  · rw [if_pos h, if_pos h]
    obtain ⟨n, rfl⟩ : ∃ n : Nat, j = n := ⟨j.toNat, by have := h.1; omega⟩
    rw [Int.toNat_natCast]
    exact rtagYes g gl cl t n h w H
  · rw [if_neg h, if_neg h]
    exact rtagNo g gl cl t j h w H
theorem rnod_all (j : Int) (H : RefT w g gl cl t) : Calls Tryd.prog 18 #[pT g, .int .i64 j] w fun e w' => e = .returned (.tuple #[.agg (ar 64 (ndV t j)), .int .i64 (ndE t j)]) ∧ Below w.heap.size w w' := by
  unfold ndV ndE
  by_cases h : 1 ≤ j ∧ j < ((t.n : Nat) : Int)
  · rw [if_pos h, if_pos h]
    obtain ⟨n, rfl⟩ : ∃ n : Nat, j = n := ⟨j.toNat, by have := h.1; omega⟩
    rw [Int.toNat_natCast]
    exact rnodYes g gl cl t n h w H
  · rw [if_neg h, if_neg h]
    exact rnodNo g gl cl t j h w H
theorem rproof_all (j : Int) (H : RefT w g gl cl t) : Calls Tryd.prog 20 #[pT g, .int .i64 j] w fun e w' => ∃ (A : Option Addr) (c : Nat) (T : Nat → Prop), e = .returned (.tuple #[.slice A (prN t j) c, .int .i64 (lfE t j)]) ∧ SliF 64 T w' A (prN t j) (prf t j.toNat) c ∧ Below w.heap.size w w' := by
  unfold prN lfE
  by_cases h : 0 ≤ j ∧ j < ((t.n : Nat) : Int)
  · rw [if_pos h, if_pos h]
    obtain ⟨n, rfl⟩ : ∃ n : Nat, j = n := ⟨j.toNat, by omega⟩
    rw [Int.toNat_natCast]
    refine (rproofYes g gl cl t n (by omega) w H).mono ?_
    rintro e w2 ⟨v, rfl, p, hb⟩
    obtain ⟨A, c, rfl, sl⟩ := OwnX.sli (arL_len 64) p
    rw [lsF_len] at sl ⊢
    exact ⟨A, c, _, rfl, sl, hb⟩
  · rw [if_neg h, if_neg h]
    refine (rproofNo g gl cl t j h w H).mono ?_
    rintro e w2 ⟨rfl, hb⟩
    exact ⟨none, 0, fun _ => False, rfl, Sli.nil _ _ _ _, hb⟩
theorem rset_all (j : Int) (f : Nat → Nat) (hf : ∀ i, f i < 256) (H : RefT w g gl cl t) : Calls Tryd.prog 13 #[pT g, .int .i64 j, .agg (ar 32 f)] w fun e w' => ∃ v, e = .returned (.tuple #[v, .int .i64 (lfE t j)]) ∧ OwnI w' w.heap.size v (chV t j f) ∧ RefT w' g gl cl (setV t j f) ∧ Turn (fun b => b = gl) w w' := by
  unfold lfE chV setV
  by_cases h : 0 ≤ j ∧ j < ((t.n : Nat) : Int)
  · rw [if_pos h, if_pos h, if_pos h]
    obtain ⟨n, rfl⟩ : ∃ n : Nat, j = n := ⟨j.toNat, by omega⟩
    rw [Int.toNat_natCast]
    exact rsetYes g gl cl t n (by omega) f hf w H
  · rw [if_neg h, if_neg h, if_neg h]
    refine (rsetNo g gl cl t j f h w H).mono ?_
    rintro e w2 ⟨rfl, hb⟩
    exact ⟨_, rfl, OwnI.nil _ _, H.below hb, Turn.of_new hb⟩
end
end TrM
end Go.Proofs.YtdmnhpgafbcehaaDoor
set_option maxRecDepth 100000
namespace Go.Proofs.YtdmnhpgafbcehaaDoor
open Go.ChangeShapes Go.WideShapes Go.ChangeAt Go.RowKit Go.Deep
attribute [local go_sem] Gives GivesE
namespace TrM
open TgP RwP
/-- A claim in memory: 66 cells. -/
def cmF (leaf : Int) (f : Nat → Nat) (v : Value) (top : Nat → Nat) (j : Nat) : Value :=
  if j = 0 then .int .i64 leaf else if j < 33 then .int .u8 (f (j - 1) : Nat) else if j = 33 then v else .int .u8 (top (j - 34) : Nat)
def cm (leaf : Int) (f : Nat → Nat) (v : Value) (top : Nat → Nat) : Array Value := row 66 (cmF leaf f v top)
section
variable {w : World} {g : Nat} {leaf : Int} {f top : Nat → Nat} {v : Value} {t : TypeId}
end
section
variable {H : Type} {enc : TypeId × Value → H} {w : World} {base : Nat} {spare : Nat → Bool} {held : Bool}
end
end TrM
end Go.Proofs.YtdmnhpgafbcehaaDoor
set_option maxRecDepth 100000
namespace Go.Proofs.YtdmnhpgafbcehaaDoor
open Go.ChangeShapes Go.WideShapes Go.ChangeAt Go.RowKit Go.Deep
section
variable {H : Type} {enc : TypeId × Value → H} {w : World} {base : Nat} {spare : Nat → Bool} {held : Bool}
end
end Go.Proofs.YtdmnhpgafbcehaaDoor
set_option maxRecDepth 100000
namespace Go.Proofs.YtdmnhpgafbcehaaDoor
open Go.ChangeShapes Go.WideShapes Go.ChangeAt Go.RowKit Go.Deep
/-- A slice of structs of k cells, in one row below block B. -/
def Elems (k : Nat) (w : World) (B : Nat) (A : Option Addr) (xs : List (List Value)) : Prop :=
  0 < xs.length → ∃ b o, A = some ⟨b, o, none⟩ ∧ b < B ∧ ∀ (i : Nat) (cs : List Value), xs[i]? = some cs → ∀ (j : Nat) (v : Value), cs[j]? = some v → w.cell? ⟨b, o + i * k + j, none⟩ = some v
theorem Elems.below {k B B' : Nat} {w w' : World} {A : Option Addr} {xs : List (List Value)} (h : Elems k w B A xs) (hb : Below B' w w') (hB : B ≤ B') : Elems k w' B A xs := fun hn => by
  obtain ⟨b, o, rfl, hl, hr⟩ := h hn
  exact ⟨b, o, rfl, hl, fun i cs hi j v hj => (hb.cell (p := ⟨b, o + i * k + j, none⟩) (by show b < B'; omega)).trans (hr i cs hi j v hj)⟩
section
variable {H : Type} {enc : TypeId × Value → H} {w : World} {base : Nat} {spare : Nat → Bool} {held : Bool}
theorem open_elems {S E : TypeId} {k : Nat} {R : List Value → Prop} {r : Reach} {b0 : Nat} {v : Value} {d : DataW H} {p : List MemPlace} (hS : Tryd.prog.underlying S = some (.slice E)) (hk : Tryd.prog.cellsOf E = k) (hk0 : 0 < k)
    (hR : ∀ (fuel : Nat) (cs : List Value) (x : DataW H × List MemPlace), DataW.trod enc Tryd.prog w base spare held fuel E cs = some x → cs.length = k → R cs)
    (hv : Value.okWide Tryd.prog w r b0 S v) (h : DataW.Trod enc Tryd.prog w base spare held S v d p) :
    ∃ (A : Option Addr) (xs : List (List Value)) (n cap : Nat), v = .slice A n cap ∧ xs.length = n ∧ n ≤ cap ∧ cap ≤ maxLen ∧ (∀ cs ∈ xs, R cs ∧ cs.length = k) ∧ Elems k w w.heap.size A xs ∧ (A = none → n = 0 ∧ cap = 0) := by
  obtain ⟨A, n, cap, rfl⟩ := okWide_slice hS hv
  obtain ⟨fuel, hf⟩ := h
  rcases open_slice hS hf with ⟨hcs, _⟩ | ⟨a, len, cap', m, fu, D, Pl, hcs, hb, hl, hm, hmm, hx, hi⟩
  · simp [Value.cells] at hcs
    obtain ⟨rfl, rfl, rfl⟩ := hcs
    exact ⟨none, [], 0, 0, rfl, rfl, Nat.le_refl _, Nat.zero_le _, (fun x hx => by cases hx), (fun h => absurd h (by simp)), fun _ => ⟨rfl, rfl⟩⟩
  · simp [Value.cells] at hcs
    obtain ⟨rfl, rfl, rfl⟩ := hcs
    have hnm : n ≤ m := by rw [hmm]; split <;> omega
    have one : ∀ i, i < n → ∃ cs : List Value, R cs ∧ cs.length = k ∧ ∀ j, j < k → w.cell? (a.add (i * k + j)) = cs[j]? := fun i hin => by
      obtain ⟨cs', hc, ht⟩ := hi i (by omega)
      have h3 := World.cells?_some hc
      rw [hk] at h3
      refine ⟨cs', hR fu cs' _ ht h3.2.1, h3.2.1, fun j hj => ?_⟩
      have h6 := h3.2.2 j hj
      rw [Go.Deep.add_add] at h6
      exact h6
    obtain ⟨F, hF⟩ := choose_lt one
    have hg : ∀ i, ((List.range n).map F)[i]? = if i < n then some (F i) else none := fun i => by
      by_cases hi : i < n
      · rw [if_pos hi, List.getElem?_map, List.getElem?_range hi]; rfl
      · rw [if_neg hi, List.getElem?_eq_none (by simp; omega)]
    refine ⟨some a, (List.range n).map F, n, cap, rfl, by simp, hl, hm, fun l hl2 => ?_, fun hn => ?_, fun h => by cases h⟩
    · obtain ⟨i, hi2, rfl⟩ := List.mem_map.1 hl2
      exact ⟨(hF i (List.mem_range.1 hi2)).1, (hF i (List.mem_range.1 hi2)).2.1⟩
    · have hn' : 0 < n := by simpa using hn
      obtain ⟨_, h1, h0⟩ := hF 0 hn'
      have h00 := h0 0 hk0
      rw [List.getElem?_eq_getElem (by omega)] at h00
      have hsp : a.spot = none := by
        simp only [Nat.zero_mul, Nat.zero_add, Addr.add, if_true] at h00
        unfold World.cell? at h00
        split at h00
        · cases hs : a.spot with
          | none => rfl
          | some s => simp [hs] at h00
        · cases h00
      have hblk : a.block < w.heap.size := by
        have := World.block_lt_of_cell? w _ h00
        simpa [Addr.add] using this
      obtain ⟨b, o, sp⟩ := a
      subst hsp
      refine ⟨b, o, rfl, hblk, fun i cs hi2 j v hj => ?_⟩
      rw [hg] at hi2
      split at hi2
      · rename_i hin
        obtain rfl := Option.some.inj hi2
        obtain ⟨_, h1, h2⟩ := hF i hin
        have hjk : j < k := by have := (List.getElem?_eq_some_iff.1 hj).1; omega
        have h3 := h2 j hjk
        rw [Addr.add_mid, hj, ← Nat.add_assoc] at h3
        exact h3
      · cases hi2
end
end Go.Proofs.YtdmnhpgafbcehaaDoor
set_option maxRecDepth 100000
namespace Go.Proofs.YtdmnhpgafbcehaaDoor
open Go.ChangeShapes Go.WideShapes Go.ChangeAt Go.RowKit Go.Deep
namespace StM
section
variable {w : World}
theorem sli_of_elems {α : Type} {k n cap : Nat} {en : α → List Value} {Q : α → Prop} {A : Option Addr} {xs : List (List Value)} (hn : xs.length = n) (hc : n ≤ cap) (hm : cap ≤ maxLen) (hx : ∀ cs ∈ xs, ∃ x, Q x ∧ cs = en x) (he : Elems k w w.heap.size A xs) (h0 : A = none → n = 0 ∧ cap = 0) :
    ∃ l : List α, (∀ x ∈ l, Q x) ∧ Sli k en (fun b => b < w.heap.size) w A l n cap := by
  have key : ∀ ys : List (List Value), (∀ cs ∈ ys, ∃ x, Q x ∧ cs = en x) → ∃ l : List α, (∀ x ∈ l, Q x) ∧ ys = l.map en := fun ys => by
    induction ys with
    | nil => exact fun _ => ⟨[], (fun x hx => by cases hx), rfl⟩
    | cons y ys ih =>
      intro h
      obtain ⟨x, hq, hx⟩ := h y List.mem_cons_self
      obtain ⟨l, hl, hl2⟩ := ih fun cs hm => h cs (List.mem_cons_of_mem _ hm)
      exact ⟨x :: l, (fun z hz => (List.mem_cons.1 hz).elim (fun e => e ▸ hq) (hl z)), by rw [List.map_cons, ← hx, ← hl2]⟩
  obtain ⟨l, hl, rfl⟩ := key xs hx
  rw [List.length_map] at hn
  refine ⟨l, hl, hn, hc, hm, fun e => h0 e, fun hlen => ?_⟩
  obtain ⟨b, o, e1, e2, e3⟩ := he (by rw [List.length_map]; exact hlen)
  exact ⟨b, o, e1, e2, e2, fun i x hi => e3 i (en x) (by rw [List.getElem?_map, hi]; rfl)⟩
end
end StM
end Go.Proofs.YtdmnhpgafbcehaaDoor
set_option maxRecDepth 100000
namespace Go.Proofs.YtdmnhpgafbcehaaDoor
open Go.ChangeShapes Go.WideShapes Go.ChangeAt Go.RowKit Go.Deep
namespace TrM
open TgP RwP
theorem cells_a18 : Tryd.prog.cellsOf 38 = 34 := by kernel_rfl
theorem cells_st18 : Tryd.prog.cellsOf 26 = 2 := by kernel_rfl
/-- An act: what, the leaf, its tag. -/
structure Ac where
  d : Int
  c : Int
  s : Nat → Nat
def acL (y : Ac) : List Value := .int .i64 y.d :: .int .i64 y.c :: (ar 32 y.s).toList
theorem acL_len (y : Ac) : (acL y).length = 34 := by unfold acL; rw [List.length_cons, List.length_cons, Array.length_toList, size_ar]
theorem list_34 {cs : List Value} {v u : Value} {f : Nat → Nat} (hl : cs.length = 34) (h0 : (cs.drop 0).take 1 = [v]) (h1 : (cs.drop 1).take 1 = [u]) (h2 : (cs.drop 2).take 32 = (ar 32 f).toList) : cs = v :: u :: (ar 32 f).toList := by
  match cs, hl with
  | c :: d :: r, hl =>
    have e0 : c = v := by simpa using h0
    have e1 : d = u := by simpa using h1
    have e2 : r.take 32 = (ar 32 f).toList := h2
    rw [List.take_of_length_le (by simp at hl; omega)] at e2
    rw [e0, e1, e2]
section
variable {H : Type} {enc : TypeId × Value → H} {w : World} {base : Nat} {spare : Nat → Bool} {held : Bool}
theorem trod_a18 {fuel : Nat} {cs : List Value} {x : DataW H × List MemPlace} (h : DataW.trod enc Tryd.prog w base spare held fuel 38 cs = some x) (hl : cs.length = 34) : ∃ y : Ac, (∀ k, y.s k < 256) ∧ cs = acL y := by
  obtain ⟨xs, n, _, rfl, _, hlen, hf⟩ := DataW.trod_struct Tryd.underlying38 h
  match xs, hlen with
  | [y0, y1, y2], _ =>
    have h0 : DataW.trod enc Tryd.prog w base spare held n 3 ((cs.drop 0).take (Tryd.prog.cellsOf 3)) = some y0 := hf 0 _ rfl
    have h1 : DataW.trod enc Tryd.prog w base spare held n 3 ((cs.drop 1).take (Tryd.prog.cellsOf 3)) = some y1 := hf 1 _ rfl
    have h2 : DataW.trod enc Tryd.prog w base spare held n 36 ((cs.drop 2).take (Tryd.prog.cellsOf 36)) = some y2 := hf 2 _ rfl
    rw [cells_i18] at h0 h1
    rw [cells_t18] at h2
    obtain ⟨d, e0, _, _⟩ := DataW.trod_int Tryd.underlying3 h0
    obtain ⟨i, e1, _, _⟩ := DataW.trod_int Tryd.underlying3 h1
    obtain ⟨f, hf2, e2⟩ := trod_ar uT cells_t18 h2
    exact ⟨⟨d, i, f⟩, hf2, list_34 hl e0 e1 e2⟩
theorem open_a18 {r : Reach} {b0 : Nat} {v : Value} {d : DataW H} {p : List MemPlace} (hv : Value.okWide Tryd.prog w r b0 27 v) (h : DataW.Trod enc Tryd.prog w base spare held 27 v d p) :
    ∃ (A : Option Addr) (l : List Ac) (n cap : Nat), v = .slice A n cap ∧ (∀ y ∈ l, ∀ k, y.s k < 256) ∧ Sli 34 acL (fun b => b < w.heap.size) w A l n cap := by
  obtain ⟨A, xs, n, cap, rfl, h1, h2, h3, h4, h5, h6⟩ := open_elems (R := fun cs => ∃ y : Ac, (∀ k, y.s k < 256) ∧ cs = acL y) Tryd.underlying27 cells_a18 (by omega) (fun fuel cs x hh hl => trod_a18 hh hl) hv h
  obtain ⟨l, hl, hs⟩ := StM.sli_of_elems (Q := fun y : Ac => ∀ k, y.s k < 256) (en := acL) h1 h2 h3 (fun cs hm => (h4 cs hm).1) h5 h6
  exact ⟨A, l, n, cap, rfl, hl, hs⟩
/-- A height and tags. -/
abbrev stV (h : Int) (A : Option Addr) (n cap : Nat) : Value := .agg #[.int .i64 h, .slice A n cap]
theorem open_st18 {r : Reach} {b0 : Nat} {v : Value} {d : DataW H} {p : List MemPlace} (hv : Value.okWide Tryd.prog w r b0 26 v) (h : DataW.Trod enc Tryd.prog w base spare held 26 v d p) :
    ∃ (h : Int) (A : Option Addr) (F : Nat → Nat → Nat) (n cap : Nat), v = stV h A n cap ∧ (∀ i j, F i j < 256) ∧ SliF 32 (fun b => b < w.heap.size) w A n F cap := by
  obtain ⟨cs, rfl, hsz⟩ := okWide_struct Tryd.underlying26 hv
  rw [cells_st18] at hsz
  obtain ⟨fuel, hf0⟩ := h
  obtain ⟨xs, n, _, _, hl, hlen, hf⟩ := DataW.trod_struct Tryd.underlying26 hf0
  obtain ⟨l⟩ := cs
  match l, hsz with
  | [c0, c1], _ =>
  match xs, hlen with
  | [y0, y1], _ =>
    have h0 : DataW.trod enc Tryd.prog w base spare held n 3 (([c0, c1].drop 0).take (Tryd.prog.cellsOf 3)) = some y0 := hf 0 _ rfl
    have h1 : DataW.trod enc Tryd.prog w base spare held n 24 (([c0, c1].drop 1).take (Tryd.prog.cellsOf 24)) = some y1 := hf 1 _ rfl
    rw [cells_i18] at h0
    rw [cells_lt18] at h1
    obtain ⟨a, e0, _, _⟩ := DataW.trod_int Tryd.underlying3 h0
    obtain ⟨A, F, m, cap, e1, hs, hF⟩ := trod_rows (K := 32) (by omega) Tryd.underlying24 uT cells_t18 (show DataW.trod enc Tryd.prog w base spare held n 24 [c1] = some y1 from h1)
    have e0' : c0 = .int .i64 a := by simpa using e0
    exact ⟨a, A, F, m, cap, by rw [e0', e1], hF, hs⟩
end
end TrM
end Go.Proofs.YtdmnhpgafbcehaaDoor
set_option maxRecDepth 100000
namespace Go.Proofs.YtdmnhpgafbcehaaDoor
open Go.RowKit
namespace TrM
open TgP
theorem tgF_off {k : Nat → Nat} {n c : Nat} {L L' : Nat → Nat → Nat} (hL : ∀ i, i ≠ c → L i = L' i) : ∀ (f j : Nat), (∀ i, (n + c) / 2 ^ i ≠ j) → n ≤ 2 ^ f * j → tgF k n L f j = tgF k n L' f j
  | 0, j, h, hn => by
    rw [Nat.pow_zero, Nat.one_mul] at hn
    have h0 := h 0
    rw [Nat.pow_zero, Nat.div_one] at h0
    exact hL _ (by omega)
  | f + 1, j, h, hn => by
    unfold tgF
    by_cases e : n ≤ j
    · rw [if_pos e, if_pos e]
      have h0 := h 0
      rw [Nat.pow_zero, Nat.div_one] at h0
      exact hL _ (by omega)
    · rw [if_neg e, if_neg e]
      have e1 : 2 ^ (f + 1) * j = 2 ^ f * (2 * j) := by rw [Nat.pow_succ, Nat.mul_assoc]
      have h5 : n ≤ 2 ^ f * (2 * j) := by rw [← e1]; exact hn
      have h6 : n ≤ 2 ^ f * (2 * j + 1) := Nat.le_trans h5 (Nat.mul_le_mul_left _ (by omega))
      have hs : ∀ i, (n + c) / 2 ^ (i + 1) = (n + c) / 2 ^ i / 2 := fun i => by rw [Nat.pow_succ, Nat.div_div_eq_div_mul]
      rw [tgF_off hL f (2 * j) (fun i e2 => h (i + 1) (by rw [hs, e2]; omega)) h5, tgF_off hL f (2 * j + 1) (fun i e2 => h (i + 1) (by rw [hs, e2]; omega)) h6]
end TrM
end Go.Proofs.YtdmnhpgafbcehaaDoor
set_option maxRecDepth 100000
namespace Go.Proofs.YtdmnhpgafbcehaaDoor
open Go.ChangeShapes Go.WideShapes Go.ChangeAt Go.RowKit Go.Deep
namespace TrM
open TgP RwP
section
variable {repT : RepT}
/-- What New answers where it makes a tree; the tree. -/
def spN (repT : RepT) (t : Tr) (B : Nat) : Sp := ⟨fun v => ∃ g, v = .tuple #[pT g, .int .i64 0], fun v w => ∃ (g : Nat) (M : Nat → Prop), v = .tuple #[pT g, .int .i64 0] ∧ repT w g M t ∧ ∀ b, M b → B ≤ b, .tuple #[pT 0, .int .i64 0]⟩
def spG (repT : RepT) (t : Tr) (B : Nat) : Sp := ⟨fun v => ∃ g, v = pT g, fun v w => ∃ (g : Nat) (M : Nat → Prop), v = pT g ∧ repT w g M t ∧ ∀ b, M b → B ≤ b, pT 0⟩
theorem spN_ok (H : TreeC repT) (t : Tr) (B : Nat) : (spN repT t B).ok := ⟨⟨0, rfl⟩, fun v w1 w2 ⟨g, M, e, h, hM⟩ hb => ⟨g, M, e, H.keep h (Turn.of_new (S := fun _ => False) hb) fun _ _ h => h, hM⟩⟩
theorem spG_ok (H : TreeC repT) (t : Tr) (B : Nat) : (spG repT t B).ok := ⟨⟨0, rfl⟩, fun v w1 w2 ⟨g, M, e, h, hM⟩ hb => ⟨g, M, e, H.keep h (Turn.of_new (S := fun _ => False) hb) fun _ _ h => h, hM⟩⟩
/-- Which heights and counts New refuses. -/
def newBad (h : Int) (m : Nat) : Prop := h < 1 ∨ 12 < h ∨ (okH h ∧ 2 ^ h.toNat < m)
theorem new_cases (h : Int) (m : Nat) : newBad h m ∨ ∃ a : Nat, h = a ∧ okH (a : Nat) ∧ m ≤ 2 ^ a := by
  by_cases h1 : h < 1
  · exact .inl (.inl h1)
  by_cases h2 : 12 < h
  · exact .inl (.inr (.inl h2))
  have hk : okH h := ⟨by omega, by omega⟩
  by_cases h3 : 2 ^ h.toNat < m
  · exact .inl (.inr (.inr ⟨hk, h3⟩))
  · exact .inr ⟨h.toNat, by omega, by rw [show ((h.toNat : Nat) : Int) = h by omega]; exact hk, by omega⟩
/-- A list cut at so many. -/
theorem cut_at (n c : Nat) : ∃ m : Nat, (if (c : Int) < (n : Int) then (c : Int) else (n : Int)) = (m : Int) ∧ m ≤ n ∧ m ≤ c := by
  by_cases h : n ≤ c
  · exact ⟨n, by rw [if_neg (by omega)], Nat.le_refl _, h⟩
  · exact ⟨c, by rw [if_pos (by omega)], by omega, Nat.le_refl _⟩
end
end TrM
end Go.Proofs.YtdmnhpgafbcehaaDoor
set_option maxRecDepth 100000
namespace Go.Proofs.YtdmnhpgafbcehaaDoor
open Go.ChangeShapes Go.WideShapes Go.ChangeAt Go.RowKit
namespace TrM
open TgP RwP
/-- The document's tree, and the blocks it lies in. -/
def refRep : RepT := fun w g M t => ∃ gl cl, RefT w g gl cl t ∧ M = fun b => b = g ∨ b = gl
theorem refRep_below {w w' : World} {g : Nat} {M : Nat → Prop} {t : Tr} (h : refRep w g M t) (hb : Below w.heap.size w w') : refRep w' g M t := by
  obtain ⟨gl, cl, H, hM⟩ := h
  exact ⟨gl, cl, H.below hb, hM⟩
theorem spR_ok (t : Tr) (B : Nat) : (spN refRep t B).ok := ⟨⟨0, rfl⟩, fun v w1 w2 ⟨g, M, e, h, hM⟩ hb => ⟨g, M, e, refRep_below h hb, hM⟩⟩
theorem spRG_ok (t : Tr) (B : Nat) : (spG refRep t B).ok := ⟨⟨0, rfl⟩, fun v w1 w2 ⟨g, M, e, h, hM⟩ hb => ⟨g, M, e, refRep_below h hb, hM⟩⟩
theorem rnew_rep (k : Nat → Nat) (hk : ∀ i, k i < 256) (h : Nat) (hh : okH h) (A : Option Addr) (F : Nat → Nat → Nat) (hF : ∀ i j, F i j < 256) (m cap : Nat) (hm : m ≤ 2 ^ h) (S : Nat → Prop) (w : World) (hA : SliF 32 S w A m F cap) :
    Calls Tryd.prog 11 #[.agg (ar 32 k), .int .i64 (h : Nat), .slice A m cap] w fun e w' => ∃ (g : Nat) (M : Nat → Prop), e = .returned (.tuple #[pT g, .int .i64 0]) ∧ refRep w' g M ⟨k, h, newL m F⟩ ∧ (∀ b, M b → w.heap.size ≤ b) ∧ Below w.heap.size w w' := by
  refine (rnewYes k hk h hh A F hF m cap hm S w hA).mono ?_
  rintro e w2 ⟨g, gl, cl, rfl, H, h1, h2, hb⟩
  exact ⟨g, _, rfl, ⟨gl, cl, H, rfl⟩, (fun b hb => hb.elim (fun e => e ▸ h1) fun e => e ▸ h2), hb⟩
theorem OwnI.turn1 {w w' : World} {B g : Nat} {v : Value} {G : List Nat} (h : OwnI w B v G) (ht : Turn (fun b => b = g) w w') (hg : g < B) : OwnI w' B v G :=
  OwnI.only h ⟨ht.os, ht.tape, ht.output, ht.size, fun i hi hne => ht.block i hi fun e => hne (by rw [e])⟩ hg
/-- An act in memory: 34 cells. -/
def acA (y : Ac) : Array Value := (acL y).toArray
theorem acA_size (y : Ac) : (acA y).size = 34 := by unfold acA; rw [List.size_toArray, acL_len]
theorem rowAc : RowT 38 34 := ⟨by kernel_rfl, ⟨_, Tryd.underlying38, rfl⟩⟩
theorem zeroAc : ∀ w, (zeroValue 38).run Tryd.prog w = .ok (.agg (acA ⟨0, 0, fun _ => 0⟩)) w :=
  (zero_of_info (P := Tryd.prog) (t := 38) (v := .agg (acA ⟨0, 0, fun _ => 0⟩)) (n := 34) (by kernel_rfl)).1
theorem acA_one (y : Ac) : (acA y).all (·.oneCell') = true := by
  unfold acA
  rw [Array.all_eq_true_iff_forall_mem]
  intro u hu
  unfold acL at hu
  simp only [List.mem_toArray, List.mem_cons] at hu
  rcases hu with rfl | rfl | hu
  · rfl
  · rfl
  · exact (Array.all_eq_true_iff_forall_mem.1 (ar_one (n := 32) (f := y.s))) u (by simpa using hu)
section
variable {w : World} {b : Nat} {y : Ac} (h : Blk w b 38 (acA y))
include h
theorem ac_d : w.cell? ⟨b, 0, none⟩ = some (.int .i64 y.d) := (h.cell 0).trans rfl
theorem ac_c : w.cell? ⟨b, 1, none⟩ = some (.int .i64 y.c) := (h.cell 1).trans rfl
theorem ac_s : w.rangeAt b 2 (ar 32 y.s).toList := fun j v hj => by
  rw [h.cell]
  unfold acA acL
  rw [List.getElem?_toArray, show 2 + j = j + 1 + 1 by omega, List.getElem?_cons_succ, List.getElem?_cons_succ]
  exact hj
end
end TrM
end Go.Proofs.YtdmnhpgafbcehaaDoor
set_option maxRecDepth 100000
namespace Go.Proofs.YtdmnhpgafbcehaaDoor
open Go.ChangeShapes Go.WideShapes Go.ChangeAt Go.RowKit
namespace TrM
open TgP RwP
structure Pl (repT : RepT) (w1 w' : World) (ga gq gl cl bA : Nat) (M : Nat → Prop) (s : Tr) (y : Ac) : Prop where
  a : repT w' ga M s
  r : RefT w' gq gl cl s
  m : ∀ b, M b → w1.heap.size ≤ b ∧ b ≠ gq ∧ b ≠ gl ∧ b ≠ bA
  q : w1.heap.size ≤ gl
  h : Below w1.heap.size w1 w'
  k : Blk w' bA 38 (acA y)
  e : bA ≠ gl
section
variable {repT : RepT} {w1 w2 w3 : World} {ga gq gl cl bA : Nat} {M : Nat → Prop} {s : Tr} {y : Ac}
theorem Pl.below (C : TreeC repT) (P : Pl repT w1 w2 ga gq gl cl bA M s y) (hb : Below w2.heap.size w2 w3) : Pl repT w1 w3 ga gq gl cl bA M s y :=
  ⟨C.keep P.a (Turn.of_new (S := fun _ => False) hb) fun _ _ h => h, P.r.below hb, P.m, P.q, P.h.trans (hb.mono P.h.size), P.k.below hb P.k.lt, P.e⟩
theorem Pl.set (C : TreeC repT) {M' : Nat → Prop} {s' : Tr} (P : Pl repT w1 w2 ga gq gl cl bA M s y) (R : repT w3 ga M' s') (hM : ∀ b, M' b → M b ∨ w2.heap.size ≤ b) (T : Turn M w2 w3) :
    repT w3 ga M' s' ∧ RefT w3 gq gl cl s ∧ (∀ b, M' b → w1.heap.size ≤ b ∧ b ≠ gq ∧ b ≠ gl ∧ b ≠ bA) ∧ Below w1.heap.size w1 w3 ∧ Blk w3 bA 38 (acA y) := by
  have h1 := P.r.lt
  have h2 := P.k.lt
  have h3 := P.h.size
  refine ⟨R, P.r.turn T (fun hg => (P.m _ hg).2.1 rfl) (fun hg => (P.m _ hg).2.2.1 rfl), fun b hb => ?_, P.h.trans (T.below h3 fun k hk => (P.m k hk).1), P.k.turn T fun hg => (P.m _ hg).2.2.2 rfl⟩
  rcases hM b hb with h | h
  · exact P.m b h
  · exact ⟨by omega, by omega, by omega, by omega⟩
theorem Pl.both (C : TreeC repT) {w4 : World} {s' : Tr} (R : repT w3 ga M s') (hm : ∀ b, M b → w1.heap.size ≤ b ∧ b ≠ gq ∧ b ≠ gl ∧ b ≠ bA) (hb : Below w1.heap.size w1 w3) (hk : Blk w3 bA 38 (acA y)) (hq : w1.heap.size ≤ gl) (he : bA ≠ gl)
    (R2 : RefT w4 gq gl cl s') (T : Turn (fun b => b = gl) w3 w4) : Pl repT w1 w4 ga gq gl cl bA M s' y :=
  ⟨C.keep R T fun b h e => (hm b h).2.2.1 e, R2, hm, hq, hb.trans (T.below hb.size fun k e => by omega), hk.turn T he, he⟩
end
theorem tgV_one (t : Tr) : tgV t 1 = t.tg 1 := by
  unfold tgV
  rw [if_pos ⟨by omega, by have := t.n_pos; omega⟩]
  rfl
end TrM
end Go.Proofs.YtdmnhpgafbcehaaDoor
set_option maxRecDepth 100000
namespace Go.Proofs.YtdmnhpgafbcehaaDoor
open Go.ChangeShapes Go.WideShapes Go.ChangeAt Go.RowKit Go.Deep
attribute [local go_sem] Gives GivesE
namespace TrM
open TgP RwP
set_option maxHeartbeats 1600000 in
set_option maxRecDepth 100000 in
theorem plays_law {repT : RepT} (HC : TreeC repT) (HD : TreeD repT) (k : Nat → Nat) (hk : ∀ i, k i < 256) (h : Int) (A : Option Addr) (F : Nat → Nat → Nat) (hF : ∀ i j, F i j < 256) (n cap : Nat) (A3 : Option Addr) (l : List Ac) (ln c3 : Nat) (w : World) (hl : ∀ y ∈ l, ∀ k, y.s k < 256) (hA : SliF 32 (fun b => b < w.heap.size) w A n F cap) (hL : Sli 34 acL (fun b => b < w.heap.size) w A3 l ln c3) (hS : Salts w) :
    Calls Tryd.prog 3 #[.agg (ar 32 k), stV h A n cap, .slice A3 ln c3] w fun e w' => e = .returned (.bool true) ∧ Below w.heap.size w w' := by
  have C := hid HC
  have D := hid HD
  have K := hid hk
  have FF := hid hF
  have LF := hid hl
  have AA := hid hA
  have AL := hid hL
  have SA := hid hS
  have MX := hid hA.max
  have NC := hid hA.cap
  have LN := hid hL.len
  clear HC HD hk hF hl hA hL hS
  go_enter Tryd.func3, Tryd.ntmps3
  go_upto_region 1 with fail
  generalize hw1 : World.alloc (World.alloc w _) _ = w1
  have B1 := hid (show Blk w1 w.heap.size 23 (ar 32 k) by rw [← hw1]; exact (Blk.new _ _ _).alloc _)
  have B2 := hid (show Blk w1 (w.heap.size + 1) 26 #[.int .i64 h, .slice A n cap] by rw [← hw1]; exact Blk.top rfl (by simp))
  have hb := hid (show Below w.heap.size w w1 by rw [← hw1]; exact ((Below.refl _ _).alloc (Nat.le_refl _) _).alloc (by simp) _)
  have A1 := hid (AA.out.turn (Turn.of_new (S := fun _ => False) hb.out) fun _ _ _ h => h)
  have L1 := hid (AL.out.turn (Turn.of_new (S := fun _ => False) hb.out) fun _ _ _ h => h)
  have S1 := hid (SA.out.on hb.out)
  clear hw1 AA AL SA
  have c0 : w1.cell? ⟨w.heap.size + 1, 0, none⟩ = some (.int .i64 h) := B2.out.cell 0
  have WE := hid (fun (w2 : World) (h : Below w1.heap.size w1 w2) => works_any C.out w2 (S1.out.on h))
  by_cases hbig : 5 < h ∧ h ≤ 12
  · have t1 : decide (5 < h) = true := decide_eq_true hbig.1
    have t2 : decide (h ≤ 12) = true := decide_eq_true hbig.2
    have t3 : 5 < h := hbig.1
    have t4 : h ≤ 12 := hbig.2
    clear hbig
    go_wp2_with fail
    refine (WE.out w1 (Below.refl w1.heap.size w1)).mono ?_
    rintro e w9 ⟨rfl, h9⟩
    have db := hid (hb.out.trans (((Below.refl w1.heap.size w1).trans (h9.mono (Below.refl w1.heap.size w1).size)).mono hb.out.size))
    clear h9
    go_wp2_with fail
    go_ret
    exact ⟨rfl, db.out⟩
  obtain ⟨m, hm1, hm2, hm3⟩ := cut_at n 40
  have HZ := hid (show (if (40 : Int) < (n : Int) then (40 : Int) else (n : Int)) = (m : Int) from hm1)
  have MC := hid (Nat.le_trans hm2 NC.out)
  have A2' := hid (SliF.cut A1.out hm2)
  clear hm1 hm2 hm3 A1
  rcases new_cases h m with hno | ⟨a, rfl, ho, hm⟩
  · have NO := hid (fun (w2 : World) (_ : Below w1.heap.size w1 w2) => C.out.newNo k h A m cap hno w2)
    have NR := hid (fun (w2 : World) => rnewNo k h A m cap hno w2)
    by_cases h12 : 12 < h
    · have t1 : decide (5 < h) = true := decide_eq_true (by omega)
      have t2 : decide (h ≤ 12) = false := decide_eq_false (by omega)
      have t3 : 5 < h := by omega
      have t4 : ¬ h ≤ 12 := by omega
      clear hno h12 hbig
      go_upto_region 3 with fail
      clear t1 t2 t3 t4 c0
      refine wp_region_y [some (.agg (ar 32 k)), some (.pointer (some ⟨w.heap.size + 1, 0, none⟩)), some (.int .i64 h), some (.pointer (some ⟨w.heap.size + 1, 1, none⟩)), some (.slice A n cap), some (.pointer (some ⟨w.heap.size + 1, 1, none⟩)), some (.slice A n cap), some (.int .i64 n), some (.int .i64 m), some (.slice A m cap), some (.tuple #[.pointer none, .int .i64 2]), some (.tuple #[.pointer none, .int .i64 2]), some (.pointer none), some (.int .i64 2), some (.pointer none), some (.int .i64 2)] [] (fun y hy => by cases hy) 16 (by kernel_rfl) (by kernel_rfl) (by kernel_rfl) fun vs => ?_
      simp only [List.take_succ_cons, List.take_zero, List.drop_succ_cons, List.drop_zero]
      refine ⟨.inl ⟨rfl, fun dd w' hd hC hDs => ?_⟩, fun e => ?_⟩
      · exact gE_ldA tK rfl (B1.out.below hC B1.out.lt).head ⟨rfl, hC, Below.refl _ _, trivial⟩
      have e' : vs 0 = _ := e
      rw [e']
      clear e e'
      simp only [Act.put, List.setIfInBounds_toArray, List.set_cons_succ, List.set_cons_zero]
      refine ⟨.inl ⟨rfl, fun dd w' hd hC hDs => ?_⟩, fun e => ?_⟩
      · go_simp
        first | exact ⟨rfl, hC, Below.refl _ _, trivial⟩ | exact ⟨rfl, Below.refl _ _, trivial⟩ | exact ⟨hC, Below.refl _ _, trivial⟩
      have e' : vs 1 = _ := e
      rw [e']
      clear e e'
      simp only [Act.put, List.setIfInBounds_toArray, List.set_cons_succ, List.set_cons_zero]
      refine ⟨.inl ⟨rfl, fun dd w' hd hC hDs => ?_⟩, fun e => ?_⟩
      · have h1 : w'.cell? ⟨w.heap.size + 1, 0, none⟩ = some (.int .i64 h) := (B2.out.below hC B2.out.lt).cell 0
        go_simp
        first | exact ⟨rfl, hC, Below.refl _ _, trivial⟩ | exact ⟨rfl, Below.refl _ _, trivial⟩ | exact ⟨hC, Below.refl _ _, trivial⟩
      have e' : vs 2 = _ := e
      rw [e']
      clear e e'
      simp only [Act.put, List.setIfInBounds_toArray, List.set_cons_succ, List.set_cons_zero]
      refine ⟨.inl ⟨rfl, fun dd w' hd hC hDs => ?_⟩, fun e => ?_⟩
      · go_simp
        first | exact ⟨rfl, hC, Below.refl _ _, trivial⟩ | exact ⟨rfl, Below.refl _ _, trivial⟩ | exact ⟨hC, Below.refl _ _, trivial⟩
      have e' : vs 3 = _ := e
      rw [e']
      clear e e'
      simp only [Act.put, List.setIfInBounds_toArray, List.set_cons_succ, List.set_cons_zero]
      refine ⟨.inl ⟨rfl, fun dd w' hd hC hDs => ?_⟩, fun e => ?_⟩
      · have h1 : w'.cell? ⟨w.heap.size + 1, 1, none⟩ = some (.slice A n cap) := (B2.out.below hC B2.out.lt).cell 1
        go_simp
        first | exact ⟨rfl, hC, Below.refl _ _, trivial⟩ | exact ⟨rfl, Below.refl _ _, trivial⟩ | exact ⟨hC, Below.refl _ _, trivial⟩
      have e' : vs 4 = _ := e
      rw [e']
      clear e e'
      simp only [Act.put, List.setIfInBounds_toArray, List.set_cons_succ, List.set_cons_zero]
      refine ⟨.inl ⟨rfl, fun dd w' hd hC hDs => ?_⟩, fun e => ?_⟩
      · go_simp
        first | exact ⟨rfl, hC, Below.refl _ _, trivial⟩ | exact ⟨rfl, Below.refl _ _, trivial⟩ | exact ⟨hC, Below.refl _ _, trivial⟩
      have e' : vs 5 = _ := e
      rw [e']
      clear e e'
      simp only [Act.put, List.setIfInBounds_toArray, List.set_cons_succ, List.set_cons_zero]
      refine ⟨.inl ⟨rfl, fun dd w' hd hC hDs => ?_⟩, fun e => ?_⟩
      · have h1 : w'.cell? ⟨w.heap.size + 1, 1, none⟩ = some (.slice A n cap) := (B2.out.below hC B2.out.lt).cell 1
        go_simp
        first | exact ⟨rfl, hC, Below.refl _ _, trivial⟩ | exact ⟨rfl, Below.refl _ _, trivial⟩ | exact ⟨hC, Below.refl _ _, trivial⟩
      have e' : vs 6 = _ := e
      rw [e']
      clear e e'
      simp only [Act.put, List.setIfInBounds_toArray, List.set_cons_succ, List.set_cons_zero]
      refine ⟨.inl ⟨rfl, fun dd w' hd hC hDs => ?_⟩, fun e => ?_⟩
      · go_simp
        first | exact ⟨rfl, hC, Below.refl _ _, trivial⟩ | exact ⟨rfl, Below.refl _ _, trivial⟩ | exact ⟨hC, Below.refl _ _, trivial⟩
      have e' : vs 7 = _ := e
      rw [e']
      clear e e'
      simp only [Act.put, List.setIfInBounds_toArray, List.set_cons_succ, List.set_cons_zero]
      refine ⟨.inl ⟨rfl, fun dd w' hd hC hDs => ?_⟩, fun e => ?_⟩
      · have h1 : (if (40 : Int) < (n : Int) then (40 : Int) else (n : Int)) = (m : Int) := HZ.out
        go_simp
        first | exact ⟨rfl, hC, Below.refl _ _, trivial⟩ | exact ⟨rfl, Below.refl _ _, trivial⟩ | exact ⟨hC, Below.refl _ _, trivial⟩
      have e' : vs 8 = _ := e
      rw [e']
      clear e e'
      simp only [Act.put, List.setIfInBounds_toArray, List.set_cons_succ, List.set_cons_zero]
      refine ⟨.inl ⟨rfl, fun dd w' hd hC hDs => ?_⟩, fun e => ?_⟩
      · have h1 : m ≤ cap := MC.out
        have h2 : cap ≤ maxLen := MX.out
        have h3 : n ≤ cap := NC.out
        go_simp
        first | exact ⟨rfl, hC, Below.refl _ _, trivial⟩ | exact ⟨rfl, Below.refl _ _, trivial⟩ | exact ⟨hC, Below.refl _ _, trivial⟩
      have e' : vs 9 = _ := e
      rw [e']
      clear e e'
      simp only [Act.put, List.setIfInBounds_toArray, List.set_cons_succ, List.set_cons_zero]
      refine ⟨.inl ⟨rfl, fun dd w' hd hC hDs => ?_⟩, fun e => ?_⟩
      · go_simp
        refine (NO.out w' hC).mono ?_
        rintro e w2 ⟨rfl, h2⟩
        exact ⟨_, rfl, rfl, hC.trans (h2.mono hC.size), h2, trivial⟩
      have e' : vs 10 = _ := e
      rw [e']
      clear e e'
      simp only [Act.put, List.setIfInBounds_toArray, List.set_cons_succ, List.set_cons_zero]
      refine ⟨.inl ⟨rfl, fun dd w' hd hC hDs => ?_⟩, fun e => ?_⟩
      · go_simp
        first | exact ⟨rfl, hC, Below.refl _ _, trivial⟩ | exact ⟨rfl, Below.refl _ _, trivial⟩ | exact ⟨hC, Below.refl _ _, trivial⟩
      have e' : vs 11 = _ := e
      rw [e']
      clear e e'
      simp only [Act.put, List.setIfInBounds_toArray, List.set_cons_succ, List.set_cons_zero]
      refine ⟨.inl ⟨rfl, fun dd w' hd hC hDs => ?_⟩, fun e => ?_⟩
      · go_simp
        first | exact ⟨rfl, hC, Below.refl _ _, trivial⟩ | exact ⟨rfl, Below.refl _ _, trivial⟩ | exact ⟨hC, Below.refl _ _, trivial⟩
      have e' : vs 12 = _ := e
      rw [e']
      clear e e'
      simp only [Act.put, List.setIfInBounds_toArray, List.set_cons_succ, List.set_cons_zero]
      refine ⟨.inl ⟨rfl, fun dd w' hd hC hDs => ?_⟩, fun e => ?_⟩
      · go_simp
        first | exact ⟨rfl, hC, Below.refl _ _, trivial⟩ | exact ⟨rfl, Below.refl _ _, trivial⟩ | exact ⟨hC, Below.refl _ _, trivial⟩
      have e' : vs 13 = _ := e
      rw [e']
      clear e e'
      simp only [Act.put, List.setIfInBounds_toArray, List.set_cons_succ, List.set_cons_zero]
      refine ⟨.inl ⟨rfl, fun dd w' hd hC hDs => ?_⟩, fun e => ?_⟩
      · go_simp
        first | exact ⟨rfl, hC, Below.refl _ _, trivial⟩ | exact ⟨rfl, Below.refl _ _, trivial⟩ | exact ⟨hC, Below.refl _ _, trivial⟩
      have e' : vs 14 = _ := e
      rw [e']
      clear e e'
      simp only [Act.put, List.setIfInBounds_toArray, List.set_cons_succ, List.set_cons_zero]
      refine ⟨.inl ⟨rfl, fun dd w' hd hC hDs => ?_⟩, fun e => ?_⟩
      · go_simp
        first | exact ⟨rfl, hC, Below.refl _ _, trivial⟩ | exact ⟨rfl, Below.refl _ _, trivial⟩ | exact ⟨hC, Below.refl _ _, trivial⟩
      have e' : vs 15 = _ := e
      rw [e']
      clear e e'
      simp only [Act.put, List.setIfInBounds_toArray, List.set_cons_succ, List.set_cons_zero]
      intro dd w4 hall hC4 hDs
      have b4 := hid hC4
      have y1 := hid (B1.out.below b4.out B1.out.lt)
      have y2 := hid (B2.out.below b4.out B2.out.lt)
      clear hall hC4 hDs
      go_upto_region 4 with fail
      refine wp_region_y [some (.agg (ar 32 k)), some (.pointer (some ⟨w.heap.size + 1, 0, none⟩)), some (.int .i64 h), some (.pointer (some ⟨w.heap.size + 1, 1, none⟩)), some (.slice A n cap), some (.pointer (some ⟨w.heap.size + 1, 1, none⟩)), some (.slice A n cap), some (.int .i64 n), some (.int .i64 m), some (.slice A m cap), some (.tuple #[.pointer none, .int .i64 2]), some (.tuple #[.pointer none, .int .i64 2]), some (.pointer none), some (.int .i64 2), some (.pointer none), some (.int .i64 2)] [] (fun y hy => by cases hy) 16 (by kernel_rfl) (by kernel_rfl) (by kernel_rfl) fun vs => ?_
      simp only [List.take_succ_cons, List.take_zero, List.drop_succ_cons, List.drop_zero]
      refine ⟨.inl ⟨rfl, fun dd w' hd hC hDs => ?_⟩, fun e => ?_⟩
      · exact gE_ldA tK rfl (y1.out.below hC y1.out.lt).head ⟨rfl, hC, Below.refl _ _, trivial⟩
      have e' : vs 0 = _ := e
      rw [e']
      clear e e'
      simp only [Act.put, List.setIfInBounds_toArray, List.set_cons_succ, List.set_cons_zero]
      refine ⟨.inl ⟨rfl, fun dd w' hd hC hDs => ?_⟩, fun e => ?_⟩
      · go_simp
        first | exact ⟨rfl, hC, Below.refl _ _, trivial⟩ | exact ⟨rfl, Below.refl _ _, trivial⟩ | exact ⟨hC, Below.refl _ _, trivial⟩
      have e' : vs 1 = _ := e
      rw [e']
      clear e e'
      simp only [Act.put, List.setIfInBounds_toArray, List.set_cons_succ, List.set_cons_zero]
      refine ⟨.inl ⟨rfl, fun dd w' hd hC hDs => ?_⟩, fun e => ?_⟩
      · have h1 : w'.cell? ⟨w.heap.size + 1, 0, none⟩ = some (.int .i64 h) := (y2.out.below hC y2.out.lt).cell 0
        go_simp
        first | exact ⟨rfl, hC, Below.refl _ _, trivial⟩ | exact ⟨rfl, Below.refl _ _, trivial⟩ | exact ⟨hC, Below.refl _ _, trivial⟩
      have e' : vs 2 = _ := e
      rw [e']
      clear e e'
      simp only [Act.put, List.setIfInBounds_toArray, List.set_cons_succ, List.set_cons_zero]
      refine ⟨.inl ⟨rfl, fun dd w' hd hC hDs => ?_⟩, fun e => ?_⟩
      · go_simp
        first | exact ⟨rfl, hC, Below.refl _ _, trivial⟩ | exact ⟨rfl, Below.refl _ _, trivial⟩ | exact ⟨hC, Below.refl _ _, trivial⟩
      have e' : vs 3 = _ := e
      rw [e']
      clear e e'
      simp only [Act.put, List.setIfInBounds_toArray, List.set_cons_succ, List.set_cons_zero]
      refine ⟨.inl ⟨rfl, fun dd w' hd hC hDs => ?_⟩, fun e => ?_⟩
      · have h1 : w'.cell? ⟨w.heap.size + 1, 1, none⟩ = some (.slice A n cap) := (y2.out.below hC y2.out.lt).cell 1
        go_simp
        first | exact ⟨rfl, hC, Below.refl _ _, trivial⟩ | exact ⟨rfl, Below.refl _ _, trivial⟩ | exact ⟨hC, Below.refl _ _, trivial⟩
      have e' : vs 4 = _ := e
      rw [e']
      clear e e'
      simp only [Act.put, List.setIfInBounds_toArray, List.set_cons_succ, List.set_cons_zero]
      refine ⟨.inl ⟨rfl, fun dd w' hd hC hDs => ?_⟩, fun e => ?_⟩
      · go_simp
        first | exact ⟨rfl, hC, Below.refl _ _, trivial⟩ | exact ⟨rfl, Below.refl _ _, trivial⟩ | exact ⟨hC, Below.refl _ _, trivial⟩
      have e' : vs 5 = _ := e
      rw [e']
      clear e e'
      simp only [Act.put, List.setIfInBounds_toArray, List.set_cons_succ, List.set_cons_zero]
      refine ⟨.inl ⟨rfl, fun dd w' hd hC hDs => ?_⟩, fun e => ?_⟩
      · have h1 : w'.cell? ⟨w.heap.size + 1, 1, none⟩ = some (.slice A n cap) := (y2.out.below hC y2.out.lt).cell 1
        go_simp
        first | exact ⟨rfl, hC, Below.refl _ _, trivial⟩ | exact ⟨rfl, Below.refl _ _, trivial⟩ | exact ⟨hC, Below.refl _ _, trivial⟩
      have e' : vs 6 = _ := e
      rw [e']
      clear e e'
      simp only [Act.put, List.setIfInBounds_toArray, List.set_cons_succ, List.set_cons_zero]
      refine ⟨.inl ⟨rfl, fun dd w' hd hC hDs => ?_⟩, fun e => ?_⟩
      · go_simp
        first | exact ⟨rfl, hC, Below.refl _ _, trivial⟩ | exact ⟨rfl, Below.refl _ _, trivial⟩ | exact ⟨hC, Below.refl _ _, trivial⟩
      have e' : vs 7 = _ := e
      rw [e']
      clear e e'
      simp only [Act.put, List.setIfInBounds_toArray, List.set_cons_succ, List.set_cons_zero]
      refine ⟨.inl ⟨rfl, fun dd w' hd hC hDs => ?_⟩, fun e => ?_⟩
      · have h1 : (if (40 : Int) < (n : Int) then (40 : Int) else (n : Int)) = (m : Int) := HZ.out
        go_simp
        first | exact ⟨rfl, hC, Below.refl _ _, trivial⟩ | exact ⟨rfl, Below.refl _ _, trivial⟩ | exact ⟨hC, Below.refl _ _, trivial⟩
      have e' : vs 8 = _ := e
      rw [e']
      clear e e'
      simp only [Act.put, List.setIfInBounds_toArray, List.set_cons_succ, List.set_cons_zero]
      refine ⟨.inl ⟨rfl, fun dd w' hd hC hDs => ?_⟩, fun e => ?_⟩
      · have h1 : m ≤ cap := MC.out
        have h2 : cap ≤ maxLen := MX.out
        have h3 : n ≤ cap := NC.out
        go_simp
        first | exact ⟨rfl, hC, Below.refl _ _, trivial⟩ | exact ⟨rfl, Below.refl _ _, trivial⟩ | exact ⟨hC, Below.refl _ _, trivial⟩
      have e' : vs 9 = _ := e
      rw [e']
      clear e e'
      simp only [Act.put, List.setIfInBounds_toArray, List.set_cons_succ, List.set_cons_zero]
      refine ⟨.inl ⟨rfl, fun dd w' hd hC hDs => ?_⟩, fun e => ?_⟩
      · go_simp
        refine (NR.out w').mono ?_
        rintro e w2 ⟨rfl, h2⟩
        exact ⟨_, rfl, rfl, hC.trans (h2.mono hC.size), h2, trivial⟩
      have e' : vs 10 = _ := e
      rw [e']
      clear e e'
      simp only [Act.put, List.setIfInBounds_toArray, List.set_cons_succ, List.set_cons_zero]
      refine ⟨.inl ⟨rfl, fun dd w' hd hC hDs => ?_⟩, fun e => ?_⟩
      · go_simp
        first | exact ⟨rfl, hC, Below.refl _ _, trivial⟩ | exact ⟨rfl, Below.refl _ _, trivial⟩ | exact ⟨hC, Below.refl _ _, trivial⟩
      have e' : vs 11 = _ := e
      rw [e']
      clear e e'
      simp only [Act.put, List.setIfInBounds_toArray, List.set_cons_succ, List.set_cons_zero]
      refine ⟨.inl ⟨rfl, fun dd w' hd hC hDs => ?_⟩, fun e => ?_⟩
      · go_simp
        first | exact ⟨rfl, hC, Below.refl _ _, trivial⟩ | exact ⟨rfl, Below.refl _ _, trivial⟩ | exact ⟨hC, Below.refl _ _, trivial⟩
      have e' : vs 12 = _ := e
      rw [e']
      clear e e'
      simp only [Act.put, List.setIfInBounds_toArray, List.set_cons_succ, List.set_cons_zero]
      refine ⟨.inl ⟨rfl, fun dd w' hd hC hDs => ?_⟩, fun e => ?_⟩
      · go_simp
        first | exact ⟨rfl, hC, Below.refl _ _, trivial⟩ | exact ⟨rfl, Below.refl _ _, trivial⟩ | exact ⟨hC, Below.refl _ _, trivial⟩
      have e' : vs 13 = _ := e
      rw [e']
      clear e e'
      simp only [Act.put, List.setIfInBounds_toArray, List.set_cons_succ, List.set_cons_zero]
      refine ⟨.inl ⟨rfl, fun dd w' hd hC hDs => ?_⟩, fun e => ?_⟩
      · go_simp
        first | exact ⟨rfl, hC, Below.refl _ _, trivial⟩ | exact ⟨rfl, Below.refl _ _, trivial⟩ | exact ⟨hC, Below.refl _ _, trivial⟩
      have e' : vs 14 = _ := e
      rw [e']
      clear e e'
      simp only [Act.put, List.setIfInBounds_toArray, List.set_cons_succ, List.set_cons_zero]
      refine ⟨.inl ⟨rfl, fun dd w' hd hC hDs => ?_⟩, fun e => ?_⟩
      · go_simp
        first | exact ⟨rfl, hC, Below.refl _ _, trivial⟩ | exact ⟨rfl, Below.refl _ _, trivial⟩ | exact ⟨hC, Below.refl _ _, trivial⟩
      have e' : vs 15 = _ := e
      rw [e']
      clear e e'
      simp only [Act.put, List.setIfInBounds_toArray, List.set_cons_succ, List.set_cons_zero]
      intro dd w5 hall hC5 hDs
      have b5 := hid (b4.out.trans (hC5.mono b4.out.size))
      clear hall hC5 hDs b4
      go_wp2_with fail
      refine (WE.out w5 (b5.out)).mono ?_
      rintro e w9 ⟨rfl, h9⟩
      have db := hid (hb.out.trans (((b5.out).trans (h9.mono (b5.out).size)).mono hb.out.size))
      clear h9
      go_wp2_with fail
      go_ret
      exact ⟨rfl, db.out⟩
    · have t1 : decide (5 < h) = false := decide_eq_false (by omega)
      have t3 : ¬ 5 < h := by omega
      clear hno h12 hbig
      go_upto_region 3 with fail
      clear t1 t3 c0
      refine wp_region_y [some (.agg (ar 32 k)), some (.pointer (some ⟨w.heap.size + 1, 0, none⟩)), some (.int .i64 h), some (.pointer (some ⟨w.heap.size + 1, 1, none⟩)), some (.slice A n cap), some (.pointer (some ⟨w.heap.size + 1, 1, none⟩)), some (.slice A n cap), some (.int .i64 n), some (.int .i64 m), some (.slice A m cap), some (.tuple #[.pointer none, .int .i64 2]), some (.tuple #[.pointer none, .int .i64 2]), some (.pointer none), some (.int .i64 2), some (.pointer none), some (.int .i64 2)] [] (fun y hy => by cases hy) 16 (by kernel_rfl) (by kernel_rfl) (by kernel_rfl) fun vs => ?_
      simp only [List.take_succ_cons, List.take_zero, List.drop_succ_cons, List.drop_zero]
      refine ⟨.inl ⟨rfl, fun dd w' hd hC hDs => ?_⟩, fun e => ?_⟩
      · exact gE_ldA tK rfl (B1.out.below hC B1.out.lt).head ⟨rfl, hC, Below.refl _ _, trivial⟩
      have e' : vs 0 = _ := e
      rw [e']
      clear e e'
      simp only [Act.put, List.setIfInBounds_toArray, List.set_cons_succ, List.set_cons_zero]
      refine ⟨.inl ⟨rfl, fun dd w' hd hC hDs => ?_⟩, fun e => ?_⟩
      · go_simp
        first | exact ⟨rfl, hC, Below.refl _ _, trivial⟩ | exact ⟨rfl, Below.refl _ _, trivial⟩ | exact ⟨hC, Below.refl _ _, trivial⟩
      have e' : vs 1 = _ := e
      rw [e']
      clear e e'
      simp only [Act.put, List.setIfInBounds_toArray, List.set_cons_succ, List.set_cons_zero]
      refine ⟨.inl ⟨rfl, fun dd w' hd hC hDs => ?_⟩, fun e => ?_⟩
      · have h1 : w'.cell? ⟨w.heap.size + 1, 0, none⟩ = some (.int .i64 h) := (B2.out.below hC B2.out.lt).cell 0
        go_simp
        first | exact ⟨rfl, hC, Below.refl _ _, trivial⟩ | exact ⟨rfl, Below.refl _ _, trivial⟩ | exact ⟨hC, Below.refl _ _, trivial⟩
      have e' : vs 2 = _ := e
      rw [e']
      clear e e'
      simp only [Act.put, List.setIfInBounds_toArray, List.set_cons_succ, List.set_cons_zero]
      refine ⟨.inl ⟨rfl, fun dd w' hd hC hDs => ?_⟩, fun e => ?_⟩
      · go_simp
        first | exact ⟨rfl, hC, Below.refl _ _, trivial⟩ | exact ⟨rfl, Below.refl _ _, trivial⟩ | exact ⟨hC, Below.refl _ _, trivial⟩
      have e' : vs 3 = _ := e
      rw [e']
      clear e e'
      simp only [Act.put, List.setIfInBounds_toArray, List.set_cons_succ, List.set_cons_zero]
      refine ⟨.inl ⟨rfl, fun dd w' hd hC hDs => ?_⟩, fun e => ?_⟩
      · have h1 : w'.cell? ⟨w.heap.size + 1, 1, none⟩ = some (.slice A n cap) := (B2.out.below hC B2.out.lt).cell 1
        go_simp
        first | exact ⟨rfl, hC, Below.refl _ _, trivial⟩ | exact ⟨rfl, Below.refl _ _, trivial⟩ | exact ⟨hC, Below.refl _ _, trivial⟩
      have e' : vs 4 = _ := e
      rw [e']
      clear e e'
      simp only [Act.put, List.setIfInBounds_toArray, List.set_cons_succ, List.set_cons_zero]
      refine ⟨.inl ⟨rfl, fun dd w' hd hC hDs => ?_⟩, fun e => ?_⟩
      · go_simp
        first | exact ⟨rfl, hC, Below.refl _ _, trivial⟩ | exact ⟨rfl, Below.refl _ _, trivial⟩ | exact ⟨hC, Below.refl _ _, trivial⟩
      have e' : vs 5 = _ := e
      rw [e']
      clear e e'
      simp only [Act.put, List.setIfInBounds_toArray, List.set_cons_succ, List.set_cons_zero]
      refine ⟨.inl ⟨rfl, fun dd w' hd hC hDs => ?_⟩, fun e => ?_⟩
      · have h1 : w'.cell? ⟨w.heap.size + 1, 1, none⟩ = some (.slice A n cap) := (B2.out.below hC B2.out.lt).cell 1
        go_simp
        first | exact ⟨rfl, hC, Below.refl _ _, trivial⟩ | exact ⟨rfl, Below.refl _ _, trivial⟩ | exact ⟨hC, Below.refl _ _, trivial⟩
      have e' : vs 6 = _ := e
      rw [e']
      clear e e'
      simp only [Act.put, List.setIfInBounds_toArray, List.set_cons_succ, List.set_cons_zero]
      refine ⟨.inl ⟨rfl, fun dd w' hd hC hDs => ?_⟩, fun e => ?_⟩
      · go_simp
        first | exact ⟨rfl, hC, Below.refl _ _, trivial⟩ | exact ⟨rfl, Below.refl _ _, trivial⟩ | exact ⟨hC, Below.refl _ _, trivial⟩
      have e' : vs 7 = _ := e
      rw [e']
      clear e e'
      simp only [Act.put, List.setIfInBounds_toArray, List.set_cons_succ, List.set_cons_zero]
      refine ⟨.inl ⟨rfl, fun dd w' hd hC hDs => ?_⟩, fun e => ?_⟩
      · have h1 : (if (40 : Int) < (n : Int) then (40 : Int) else (n : Int)) = (m : Int) := HZ.out
        go_simp
        first | exact ⟨rfl, hC, Below.refl _ _, trivial⟩ | exact ⟨rfl, Below.refl _ _, trivial⟩ | exact ⟨hC, Below.refl _ _, trivial⟩
      have e' : vs 8 = _ := e
      rw [e']
      clear e e'
      simp only [Act.put, List.setIfInBounds_toArray, List.set_cons_succ, List.set_cons_zero]
      refine ⟨.inl ⟨rfl, fun dd w' hd hC hDs => ?_⟩, fun e => ?_⟩
      · have h1 : m ≤ cap := MC.out
        have h2 : cap ≤ maxLen := MX.out
        have h3 : n ≤ cap := NC.out
        go_simp
        first | exact ⟨rfl, hC, Below.refl _ _, trivial⟩ | exact ⟨rfl, Below.refl _ _, trivial⟩ | exact ⟨hC, Below.refl _ _, trivial⟩
      have e' : vs 9 = _ := e
      rw [e']
      clear e e'
      simp only [Act.put, List.setIfInBounds_toArray, List.set_cons_succ, List.set_cons_zero]
      refine ⟨.inl ⟨rfl, fun dd w' hd hC hDs => ?_⟩, fun e => ?_⟩
      · go_simp
        refine (NO.out w' hC).mono ?_
        rintro e w2 ⟨rfl, h2⟩
        exact ⟨_, rfl, rfl, hC.trans (h2.mono hC.size), h2, trivial⟩
      have e' : vs 10 = _ := e
      rw [e']
      clear e e'
      simp only [Act.put, List.setIfInBounds_toArray, List.set_cons_succ, List.set_cons_zero]
      refine ⟨.inl ⟨rfl, fun dd w' hd hC hDs => ?_⟩, fun e => ?_⟩
      · go_simp
        first | exact ⟨rfl, hC, Below.refl _ _, trivial⟩ | exact ⟨rfl, Below.refl _ _, trivial⟩ | exact ⟨hC, Below.refl _ _, trivial⟩
      have e' : vs 11 = _ := e
      rw [e']
      clear e e'
      simp only [Act.put, List.setIfInBounds_toArray, List.set_cons_succ, List.set_cons_zero]
      refine ⟨.inl ⟨rfl, fun dd w' hd hC hDs => ?_⟩, fun e => ?_⟩
      · go_simp
        first | exact ⟨rfl, hC, Below.refl _ _, trivial⟩ | exact ⟨rfl, Below.refl _ _, trivial⟩ | exact ⟨hC, Below.refl _ _, trivial⟩
      have e' : vs 12 = _ := e
      rw [e']
      clear e e'
      simp only [Act.put, List.setIfInBounds_toArray, List.set_cons_succ, List.set_cons_zero]
      refine ⟨.inl ⟨rfl, fun dd w' hd hC hDs => ?_⟩, fun e => ?_⟩
      · go_simp
        first | exact ⟨rfl, hC, Below.refl _ _, trivial⟩ | exact ⟨rfl, Below.refl _ _, trivial⟩ | exact ⟨hC, Below.refl _ _, trivial⟩
      have e' : vs 13 = _ := e
      rw [e']
      clear e e'
      simp only [Act.put, List.setIfInBounds_toArray, List.set_cons_succ, List.set_cons_zero]
      refine ⟨.inl ⟨rfl, fun dd w' hd hC hDs => ?_⟩, fun e => ?_⟩
      · go_simp
        first | exact ⟨rfl, hC, Below.refl _ _, trivial⟩ | exact ⟨rfl, Below.refl _ _, trivial⟩ | exact ⟨hC, Below.refl _ _, trivial⟩
      have e' : vs 14 = _ := e
      rw [e']
      clear e e'
      simp only [Act.put, List.setIfInBounds_toArray, List.set_cons_succ, List.set_cons_zero]
      refine ⟨.inl ⟨rfl, fun dd w' hd hC hDs => ?_⟩, fun e => ?_⟩
      · go_simp
        first | exact ⟨rfl, hC, Below.refl _ _, trivial⟩ | exact ⟨rfl, Below.refl _ _, trivial⟩ | exact ⟨hC, Below.refl _ _, trivial⟩
      have e' : vs 15 = _ := e
      rw [e']
      clear e e'
      simp only [Act.put, List.setIfInBounds_toArray, List.set_cons_succ, List.set_cons_zero]
      intro dd w4 hall hC4 hDs
      have b4 := hid hC4
      have y1 := hid (B1.out.below b4.out B1.out.lt)
      have y2 := hid (B2.out.below b4.out B2.out.lt)
      clear hall hC4 hDs
      go_upto_region 4 with fail
      refine wp_region_y [some (.agg (ar 32 k)), some (.pointer (some ⟨w.heap.size + 1, 0, none⟩)), some (.int .i64 h), some (.pointer (some ⟨w.heap.size + 1, 1, none⟩)), some (.slice A n cap), some (.pointer (some ⟨w.heap.size + 1, 1, none⟩)), some (.slice A n cap), some (.int .i64 n), some (.int .i64 m), some (.slice A m cap), some (.tuple #[.pointer none, .int .i64 2]), some (.tuple #[.pointer none, .int .i64 2]), some (.pointer none), some (.int .i64 2), some (.pointer none), some (.int .i64 2)] [] (fun y hy => by cases hy) 16 (by kernel_rfl) (by kernel_rfl) (by kernel_rfl) fun vs => ?_
      simp only [List.take_succ_cons, List.take_zero, List.drop_succ_cons, List.drop_zero]
      refine ⟨.inl ⟨rfl, fun dd w' hd hC hDs => ?_⟩, fun e => ?_⟩
      · exact gE_ldA tK rfl (y1.out.below hC y1.out.lt).head ⟨rfl, hC, Below.refl _ _, trivial⟩
      have e' : vs 0 = _ := e
      rw [e']
      clear e e'
      simp only [Act.put, List.setIfInBounds_toArray, List.set_cons_succ, List.set_cons_zero]
      refine ⟨.inl ⟨rfl, fun dd w' hd hC hDs => ?_⟩, fun e => ?_⟩
      · go_simp
        first | exact ⟨rfl, hC, Below.refl _ _, trivial⟩ | exact ⟨rfl, Below.refl _ _, trivial⟩ | exact ⟨hC, Below.refl _ _, trivial⟩
      have e' : vs 1 = _ := e
      rw [e']
      clear e e'
      simp only [Act.put, List.setIfInBounds_toArray, List.set_cons_succ, List.set_cons_zero]
      refine ⟨.inl ⟨rfl, fun dd w' hd hC hDs => ?_⟩, fun e => ?_⟩
      · have h1 : w'.cell? ⟨w.heap.size + 1, 0, none⟩ = some (.int .i64 h) := (y2.out.below hC y2.out.lt).cell 0
        go_simp
        first | exact ⟨rfl, hC, Below.refl _ _, trivial⟩ | exact ⟨rfl, Below.refl _ _, trivial⟩ | exact ⟨hC, Below.refl _ _, trivial⟩
      have e' : vs 2 = _ := e
      rw [e']
      clear e e'
      simp only [Act.put, List.setIfInBounds_toArray, List.set_cons_succ, List.set_cons_zero]
      refine ⟨.inl ⟨rfl, fun dd w' hd hC hDs => ?_⟩, fun e => ?_⟩
      · go_simp
        first | exact ⟨rfl, hC, Below.refl _ _, trivial⟩ | exact ⟨rfl, Below.refl _ _, trivial⟩ | exact ⟨hC, Below.refl _ _, trivial⟩
      have e' : vs 3 = _ := e
      rw [e']
      clear e e'
      simp only [Act.put, List.setIfInBounds_toArray, List.set_cons_succ, List.set_cons_zero]
      refine ⟨.inl ⟨rfl, fun dd w' hd hC hDs => ?_⟩, fun e => ?_⟩
      · have h1 : w'.cell? ⟨w.heap.size + 1, 1, none⟩ = some (.slice A n cap) := (y2.out.below hC y2.out.lt).cell 1
        go_simp
        first | exact ⟨rfl, hC, Below.refl _ _, trivial⟩ | exact ⟨rfl, Below.refl _ _, trivial⟩ | exact ⟨hC, Below.refl _ _, trivial⟩
      have e' : vs 4 = _ := e
      rw [e']
      clear e e'
      simp only [Act.put, List.setIfInBounds_toArray, List.set_cons_succ, List.set_cons_zero]
      refine ⟨.inl ⟨rfl, fun dd w' hd hC hDs => ?_⟩, fun e => ?_⟩
      · go_simp
        first | exact ⟨rfl, hC, Below.refl _ _, trivial⟩ | exact ⟨rfl, Below.refl _ _, trivial⟩ | exact ⟨hC, Below.refl _ _, trivial⟩
      have e' : vs 5 = _ := e
      rw [e']
      clear e e'
      simp only [Act.put, List.setIfInBounds_toArray, List.set_cons_succ, List.set_cons_zero]
      refine ⟨.inl ⟨rfl, fun dd w' hd hC hDs => ?_⟩, fun e => ?_⟩
      · have h1 : w'.cell? ⟨w.heap.size + 1, 1, none⟩ = some (.slice A n cap) := (y2.out.below hC y2.out.lt).cell 1
        go_simp
        first | exact ⟨rfl, hC, Below.refl _ _, trivial⟩ | exact ⟨rfl, Below.refl _ _, trivial⟩ | exact ⟨hC, Below.refl _ _, trivial⟩
      have e' : vs 6 = _ := e
      rw [e']
      clear e e'
      simp only [Act.put, List.setIfInBounds_toArray, List.set_cons_succ, List.set_cons_zero]
      refine ⟨.inl ⟨rfl, fun dd w' hd hC hDs => ?_⟩, fun e => ?_⟩
      · go_simp
        first | exact ⟨rfl, hC, Below.refl _ _, trivial⟩ | exact ⟨rfl, Below.refl _ _, trivial⟩ | exact ⟨hC, Below.refl _ _, trivial⟩
      have e' : vs 7 = _ := e
      rw [e']
      clear e e'
      simp only [Act.put, List.setIfInBounds_toArray, List.set_cons_succ, List.set_cons_zero]
      refine ⟨.inl ⟨rfl, fun dd w' hd hC hDs => ?_⟩, fun e => ?_⟩
      · have h1 : (if (40 : Int) < (n : Int) then (40 : Int) else (n : Int)) = (m : Int) := HZ.out
        go_simp
        first | exact ⟨rfl, hC, Below.refl _ _, trivial⟩ | exact ⟨rfl, Below.refl _ _, trivial⟩ | exact ⟨hC, Below.refl _ _, trivial⟩
      have e' : vs 8 = _ := e
      rw [e']
      clear e e'
      simp only [Act.put, List.setIfInBounds_toArray, List.set_cons_succ, List.set_cons_zero]
      refine ⟨.inl ⟨rfl, fun dd w' hd hC hDs => ?_⟩, fun e => ?_⟩
      · have h1 : m ≤ cap := MC.out
        have h2 : cap ≤ maxLen := MX.out
        have h3 : n ≤ cap := NC.out
        go_simp
        first | exact ⟨rfl, hC, Below.refl _ _, trivial⟩ | exact ⟨rfl, Below.refl _ _, trivial⟩ | exact ⟨hC, Below.refl _ _, trivial⟩
      have e' : vs 9 = _ := e
      rw [e']
      clear e e'
      simp only [Act.put, List.setIfInBounds_toArray, List.set_cons_succ, List.set_cons_zero]
      refine ⟨.inl ⟨rfl, fun dd w' hd hC hDs => ?_⟩, fun e => ?_⟩
      · go_simp
        refine (NR.out w').mono ?_
        rintro e w2 ⟨rfl, h2⟩
        exact ⟨_, rfl, rfl, hC.trans (h2.mono hC.size), h2, trivial⟩
      have e' : vs 10 = _ := e
      rw [e']
      clear e e'
      simp only [Act.put, List.setIfInBounds_toArray, List.set_cons_succ, List.set_cons_zero]
      refine ⟨.inl ⟨rfl, fun dd w' hd hC hDs => ?_⟩, fun e => ?_⟩
      · go_simp
        first | exact ⟨rfl, hC, Below.refl _ _, trivial⟩ | exact ⟨rfl, Below.refl _ _, trivial⟩ | exact ⟨hC, Below.refl _ _, trivial⟩
      have e' : vs 11 = _ := e
      rw [e']
      clear e e'
      simp only [Act.put, List.setIfInBounds_toArray, List.set_cons_succ, List.set_cons_zero]
      refine ⟨.inl ⟨rfl, fun dd w' hd hC hDs => ?_⟩, fun e => ?_⟩
      · go_simp
        first | exact ⟨rfl, hC, Below.refl _ _, trivial⟩ | exact ⟨rfl, Below.refl _ _, trivial⟩ | exact ⟨hC, Below.refl _ _, trivial⟩
      have e' : vs 12 = _ := e
      rw [e']
      clear e e'
      simp only [Act.put, List.setIfInBounds_toArray, List.set_cons_succ, List.set_cons_zero]
      refine ⟨.inl ⟨rfl, fun dd w' hd hC hDs => ?_⟩, fun e => ?_⟩
      · go_simp
        first | exact ⟨rfl, hC, Below.refl _ _, trivial⟩ | exact ⟨rfl, Below.refl _ _, trivial⟩ | exact ⟨hC, Below.refl _ _, trivial⟩
      have e' : vs 13 = _ := e
      rw [e']
      clear e e'
      simp only [Act.put, List.setIfInBounds_toArray, List.set_cons_succ, List.set_cons_zero]
      refine ⟨.inl ⟨rfl, fun dd w' hd hC hDs => ?_⟩, fun e => ?_⟩
      · go_simp
        first | exact ⟨rfl, hC, Below.refl _ _, trivial⟩ | exact ⟨rfl, Below.refl _ _, trivial⟩ | exact ⟨hC, Below.refl _ _, trivial⟩
      have e' : vs 14 = _ := e
      rw [e']
      clear e e'
      simp only [Act.put, List.setIfInBounds_toArray, List.set_cons_succ, List.set_cons_zero]
      refine ⟨.inl ⟨rfl, fun dd w' hd hC hDs => ?_⟩, fun e => ?_⟩
      · go_simp
        first | exact ⟨rfl, hC, Below.refl _ _, trivial⟩ | exact ⟨rfl, Below.refl _ _, trivial⟩ | exact ⟨hC, Below.refl _ _, trivial⟩
      have e' : vs 15 = _ := e
      rw [e']
      clear e e'
      simp only [Act.put, List.setIfInBounds_toArray, List.set_cons_succ, List.set_cons_zero]
      intro dd w5 hall hC5 hDs
      have b5 := hid (b4.out.trans (hC5.mono b4.out.size))
      clear hall hC5 hDs b4
      go_wp2_with fail
      refine (WE.out w5 (b5.out)).mono ?_
      rintro e w9 ⟨rfl, h9⟩
      have db := hid (hb.out.trans (((b5.out).trans (h9.mono (b5.out).size)).mono hb.out.size))
      clear h9
      go_wp2_with fail
      go_ret
      exact ⟨rfl, db.out⟩
  · obtain ⟨t, ht⟩ : ∃ t : Tr, t = ⟨k, a, newL m F⟩ := ⟨_, rfl⟩
    have YE := hid (fun (w2 : World) (hb2 : Below w1.heap.size w1 w2) => C.out.new k K.out a ho A F FF.out m cap hm _ w2 (A2'.out.turn (Turn.of_new (S := fun _ => False) hb2) fun _ _ _ h => h) (S1.out.on hb2))
    have YR := hid (fun (w2 : World) (hb2 : Below w1.heap.size w1 w2) => rnew_rep k K.out a ho A F FF.out m cap hm _ w2 (A2'.out.turn (Turn.of_new (S := fun _ => False) hb2) fun _ _ _ h => h))
    rw [← ht] at YE YR
    have ha5 : a ≤ 5 := by have := ho.1; have := ho.2; omega
    have t1 : decide (5 < (a : Int)) = false := decide_eq_false (by omega)
    have t3 : ¬ 5 < (a : Int) := by omega
    clear hbig ht hm ho
    go_upto_region 3 with fail
    clear t1 t3 c0
    refine wp_region_y [some (.agg (ar 32 k)), some (.pointer (some ⟨w.heap.size + 1, 0, none⟩)), some (.int .i64 (a : Nat)), some (.pointer (some ⟨w.heap.size + 1, 1, none⟩)), some (.slice A n cap), some (.pointer (some ⟨w.heap.size + 1, 1, none⟩)), some (.slice A n cap), some (.int .i64 n), some (.int .i64 m), some (.slice A m cap), none, none, none, some (.int .i64 0), none, some (.int .i64 0)] [(10, spN repT t w1.heap.size), (11, spN repT t w1.heap.size), (12, spG repT t w1.heap.size), (14, spG repT t w1.heap.size)] (fun y hy => by simp only [List.mem_cons, List.not_mem_nil, or_false] at hy; rcases hy with rfl | rfl | rfl | rfl <;> first | exact spN_ok C.out _ _ | exact spG_ok C.out _ _) 16 (by kernel_rfl) (by kernel_rfl) (by kernel_rfl) fun vs => ?_
    simp only [List.take_succ_cons, List.take_zero, List.drop_succ_cons, List.drop_zero]
    refine ⟨.inl ⟨rfl, fun dd w' hd hC hDs => ?_⟩, fun e => ?_⟩
    · exact gE_ldA tK rfl (B1.out.below hC B1.out.lt).head ⟨rfl, hC, Below.refl _ _, trivial⟩
    have e' : vs 0 = _ := e
    rw [e']
    clear e e'
    simp only [Act.put, List.setIfInBounds_toArray, List.set_cons_succ, List.set_cons_zero]
    refine ⟨.inl ⟨rfl, fun dd w' hd hC hDs => ?_⟩, fun e => ?_⟩
    · go_simp
      first | exact ⟨rfl, hC, Below.refl _ _, trivial⟩ | exact ⟨rfl, Below.refl _ _, trivial⟩ | exact ⟨hC, Below.refl _ _, trivial⟩
    have e' : vs 1 = _ := e
    rw [e']
    clear e e'
    simp only [Act.put, List.setIfInBounds_toArray, List.set_cons_succ, List.set_cons_zero]
    refine ⟨.inl ⟨rfl, fun dd w' hd hC hDs => ?_⟩, fun e => ?_⟩
    · have h1 : w'.cell? ⟨w.heap.size + 1, 0, none⟩ = some (.int .i64 (a : Nat)) := (B2.out.below hC B2.out.lt).cell 0
      go_simp
      first | exact ⟨rfl, hC, Below.refl _ _, trivial⟩ | exact ⟨rfl, Below.refl _ _, trivial⟩ | exact ⟨hC, Below.refl _ _, trivial⟩
    have e' : vs 2 = _ := e
    rw [e']
    clear e e'
    simp only [Act.put, List.setIfInBounds_toArray, List.set_cons_succ, List.set_cons_zero]
    refine ⟨.inl ⟨rfl, fun dd w' hd hC hDs => ?_⟩, fun e => ?_⟩
    · go_simp
      first | exact ⟨rfl, hC, Below.refl _ _, trivial⟩ | exact ⟨rfl, Below.refl _ _, trivial⟩ | exact ⟨hC, Below.refl _ _, trivial⟩
    have e' : vs 3 = _ := e
    rw [e']
    clear e e'
    simp only [Act.put, List.setIfInBounds_toArray, List.set_cons_succ, List.set_cons_zero]
    refine ⟨.inl ⟨rfl, fun dd w' hd hC hDs => ?_⟩, fun e => ?_⟩
    · have h1 : w'.cell? ⟨w.heap.size + 1, 1, none⟩ = some (.slice A n cap) := (B2.out.below hC B2.out.lt).cell 1
      go_simp
      first | exact ⟨rfl, hC, Below.refl _ _, trivial⟩ | exact ⟨rfl, Below.refl _ _, trivial⟩ | exact ⟨hC, Below.refl _ _, trivial⟩
    have e' : vs 4 = _ := e
    rw [e']
    clear e e'
    simp only [Act.put, List.setIfInBounds_toArray, List.set_cons_succ, List.set_cons_zero]
    refine ⟨.inl ⟨rfl, fun dd w' hd hC hDs => ?_⟩, fun e => ?_⟩
    · go_simp
      first | exact ⟨rfl, hC, Below.refl _ _, trivial⟩ | exact ⟨rfl, Below.refl _ _, trivial⟩ | exact ⟨hC, Below.refl _ _, trivial⟩
    have e' : vs 5 = _ := e
    rw [e']
    clear e e'
    simp only [Act.put, List.setIfInBounds_toArray, List.set_cons_succ, List.set_cons_zero]
    refine ⟨.inl ⟨rfl, fun dd w' hd hC hDs => ?_⟩, fun e => ?_⟩
    · have h1 : w'.cell? ⟨w.heap.size + 1, 1, none⟩ = some (.slice A n cap) := (B2.out.below hC B2.out.lt).cell 1
      go_simp
      first | exact ⟨rfl, hC, Below.refl _ _, trivial⟩ | exact ⟨rfl, Below.refl _ _, trivial⟩ | exact ⟨hC, Below.refl _ _, trivial⟩
    have e' : vs 6 = _ := e
    rw [e']
    clear e e'
    simp only [Act.put, List.setIfInBounds_toArray, List.set_cons_succ, List.set_cons_zero]
    refine ⟨.inl ⟨rfl, fun dd w' hd hC hDs => ?_⟩, fun e => ?_⟩
    · go_simp
      first | exact ⟨rfl, hC, Below.refl _ _, trivial⟩ | exact ⟨rfl, Below.refl _ _, trivial⟩ | exact ⟨hC, Below.refl _ _, trivial⟩
    have e' : vs 7 = _ := e
    rw [e']
    clear e e'
    simp only [Act.put, List.setIfInBounds_toArray, List.set_cons_succ, List.set_cons_zero]
    refine ⟨.inl ⟨rfl, fun dd w' hd hC hDs => ?_⟩, fun e => ?_⟩
    · have h1 : (if (40 : Int) < (n : Int) then (40 : Int) else (n : Int)) = (m : Int) := HZ.out
      go_simp
      first | exact ⟨rfl, hC, Below.refl _ _, trivial⟩ | exact ⟨rfl, Below.refl _ _, trivial⟩ | exact ⟨hC, Below.refl _ _, trivial⟩
    have e' : vs 8 = _ := e
    rw [e']
    clear e e'
    simp only [Act.put, List.setIfInBounds_toArray, List.set_cons_succ, List.set_cons_zero]
    refine ⟨.inl ⟨rfl, fun dd w' hd hC hDs => ?_⟩, fun e => ?_⟩
    · have h1 : m ≤ cap := MC.out
      have h2 : cap ≤ maxLen := MX.out
      have h3 : n ≤ cap := NC.out
      go_simp
      first | exact ⟨rfl, hC, Below.refl _ _, trivial⟩ | exact ⟨rfl, Below.refl _ _, trivial⟩ | exact ⟨hC, Below.refl _ _, trivial⟩
    have e' : vs 9 = _ := e
    rw [e']
    clear e e'
    simp only [Act.put, List.setIfInBounds_toArray, List.set_cons_succ, List.set_cons_zero]
    refine ⟨.inl ⟨rfl, fun dd w' hd hC hDs => ?_⟩, fun e => ?_⟩
    · go_simp
      refine (YE.out w' hC).mono ?_
      rintro e w2 ⟨g7, M7, rfl, r7, m7, h2⟩
      exact ⟨_, rfl, ⟨_, rfl⟩, hC.trans (h2.mono hC.size), h2, yD_some rfl ⟨_, _, rfl, r7, fun b hb => Nat.le_trans hC.size (m7 b hb)⟩⟩
    obtain ⟨g10, e'⟩ : ∃ g, vs 10 = .tuple #[pT g, .int .i64 0] := e
    rw [e']
    have E10 := hid e'
    clear e'
    simp only [Act.put, List.setIfInBounds_toArray, List.set_cons_succ, List.set_cons_zero]
    refine ⟨.inl ⟨rfl, fun dd w' hd hC hDs => ?_⟩, fun e => ?_⟩
    · obtain ⟨g7, M7, f7, r7, m7⟩ := hDs 10 (by kernel_rfl)
      rw [E10.out] at f7
      cases f7
      go_simp
      first | exact ⟨⟨_, rfl⟩, Below.refl _ _, ⟨_, _, rfl, r7, m7⟩⟩ | exact ⟨⟨_, rfl⟩, hC, Below.refl _ _, ⟨_, _, rfl, r7, m7⟩⟩ | exact ⟨Below.refl _ _, ⟨_, _, rfl, r7, m7⟩⟩ | exact ⟨⟨_, rfl⟩, hC, Below.refl _ _, yD_some rfl ⟨_, _, rfl, r7, m7⟩⟩
    obtain ⟨g11, e'⟩ : ∃ g, vs 11 = .tuple #[pT g, .int .i64 0] := e
    rw [e']
    have E11 := hid e'
    clear e'
    simp only [Act.put, List.setIfInBounds_toArray, List.set_cons_succ, List.set_cons_zero]
    refine ⟨.inl ⟨rfl, fun dd w' hd hC hDs => ?_⟩, fun e => ?_⟩
    · obtain ⟨g7, M7, f7, r7, m7⟩ := hDs 11 (by kernel_rfl)
      rw [E11.out] at f7
      cases f7
      go_simp
      first | exact ⟨⟨_, rfl⟩, Below.refl _ _, ⟨_, _, rfl, r7, m7⟩⟩ | exact ⟨⟨_, rfl⟩, hC, Below.refl _ _, ⟨_, _, rfl, r7, m7⟩⟩ | exact ⟨Below.refl _ _, ⟨_, _, rfl, r7, m7⟩⟩ | exact ⟨⟨_, rfl⟩, hC, Below.refl _ _, yD_some rfl ⟨_, _, rfl, r7, m7⟩⟩
    obtain ⟨g12, e'⟩ : ∃ g, vs 12 = pT g := e
    rw [e']
    have E12 := hid e'
    clear e'
    simp only [Act.put, List.setIfInBounds_toArray, List.set_cons_succ, List.set_cons_zero]
    refine ⟨.inl ⟨rfl, fun dd w' hd hC hDs => ?_⟩, fun e => ?_⟩
    · go_simp
      first | exact ⟨rfl, hC, Below.refl _ _, trivial⟩ | exact ⟨rfl, Below.refl _ _, trivial⟩ | exact ⟨hC, Below.refl _ _, trivial⟩
    have e' : vs 13 = _ := e
    rw [e']
    clear e e'
    simp only [Act.put, List.setIfInBounds_toArray, List.set_cons_succ, List.set_cons_zero]
    refine ⟨.inl ⟨rfl, fun dd w' hd hC hDs => ?_⟩, fun e => ?_⟩
    · obtain ⟨g7, M7, f7, r7, m7⟩ := hDs 12 (by kernel_rfl)
      rw [E12.out] at f7
      cases f7
      go_simp
      first | exact ⟨⟨_, rfl⟩, Below.refl _ _, ⟨_, _, rfl, r7, m7⟩⟩ | exact ⟨⟨_, rfl⟩, hC, Below.refl _ _, ⟨_, _, rfl, r7, m7⟩⟩ | exact ⟨Below.refl _ _, ⟨_, _, rfl, r7, m7⟩⟩ | exact ⟨⟨_, rfl⟩, hC, Below.refl _ _, yD_some rfl ⟨_, _, rfl, r7, m7⟩⟩
    obtain ⟨ga, e'⟩ : ∃ g, vs 14 = pT g := e
    rw [e']
    have E14 := hid e'
    clear e'
    simp only [Act.put, List.setIfInBounds_toArray, List.set_cons_succ, List.set_cons_zero]
    refine ⟨.inl ⟨rfl, fun dd w' hd hC hDs => ?_⟩, fun e => ?_⟩
    · go_simp
      first | exact ⟨rfl, hC, Below.refl _ _, trivial⟩ | exact ⟨rfl, Below.refl _ _, trivial⟩ | exact ⟨hC, Below.refl _ _, trivial⟩
    have e' : vs 15 = _ := e
    rw [e']
    clear e e'
    simp only [Act.put, List.setIfInBounds_toArray, List.set_cons_succ, List.set_cons_zero]
    intro dd w4 hall hC4 hDs
    obtain ⟨gt, Mt, ft, rt, mt⟩ := hDs 14 (by omega)
    rw [E14.out] at ft
    cases ft
    have Ra4 := hid rt
    have Ma := hid mt
    have La := hid (C.out.lt rt).2
    have b4 := hid hC4
    have y1 := hid (B1.out.below b4.out B1.out.lt)
    have y2 := hid (B2.out.below b4.out B2.out.lt)
    clear hall hC4 hDs E10 E11 E12 E14 rt mt B1 B2
    go_upto_region 4 with fail
    refine wp_region_y [some (.agg (ar 32 k)), some (.pointer (some ⟨w.heap.size + 1, 0, none⟩)), some (.int .i64 (a : Nat)), some (.pointer (some ⟨w.heap.size + 1, 1, none⟩)), some (.slice A n cap), some (.pointer (some ⟨w.heap.size + 1, 1, none⟩)), some (.slice A n cap), some (.int .i64 n), some (.int .i64 m), some (.slice A m cap), none, none, none, some (.int .i64 0), none, some (.int .i64 0)] [(10, spN refRep t w4.heap.size), (11, spN refRep t w4.heap.size), (12, spG refRep t w4.heap.size), (14, spG refRep t w4.heap.size)] (fun y hy => by simp only [List.mem_cons, List.not_mem_nil, or_false] at hy; rcases hy with rfl | rfl | rfl | rfl <;> first | exact spR_ok _ _ | exact spRG_ok _ _) 16 (by kernel_rfl) (by kernel_rfl) (by kernel_rfl) fun vs => ?_
    simp only [List.take_succ_cons, List.take_zero, List.drop_succ_cons, List.drop_zero]
    refine ⟨.inl ⟨rfl, fun dd w' hd hC hDs => ?_⟩, fun e => ?_⟩
    · exact gE_ldA tK rfl (y1.out.below hC y1.out.lt).head ⟨rfl, hC, Below.refl _ _, trivial⟩
    have e' : vs 0 = _ := e
    rw [e']
    clear e e'
    simp only [Act.put, List.setIfInBounds_toArray, List.set_cons_succ, List.set_cons_zero]
    refine ⟨.inl ⟨rfl, fun dd w' hd hC hDs => ?_⟩, fun e => ?_⟩
    · go_simp
      first | exact ⟨rfl, hC, Below.refl _ _, trivial⟩ | exact ⟨rfl, Below.refl _ _, trivial⟩ | exact ⟨hC, Below.refl _ _, trivial⟩
    have e' : vs 1 = _ := e
    rw [e']
    clear e e'
    simp only [Act.put, List.setIfInBounds_toArray, List.set_cons_succ, List.set_cons_zero]
    refine ⟨.inl ⟨rfl, fun dd w' hd hC hDs => ?_⟩, fun e => ?_⟩
    · have h1 : w'.cell? ⟨w.heap.size + 1, 0, none⟩ = some (.int .i64 (a : Nat)) := (y2.out.below hC y2.out.lt).cell 0
      go_simp
      first | exact ⟨rfl, hC, Below.refl _ _, trivial⟩ | exact ⟨rfl, Below.refl _ _, trivial⟩ | exact ⟨hC, Below.refl _ _, trivial⟩
    have e' : vs 2 = _ := e
    rw [e']
    clear e e'
    simp only [Act.put, List.setIfInBounds_toArray, List.set_cons_succ, List.set_cons_zero]
    refine ⟨.inl ⟨rfl, fun dd w' hd hC hDs => ?_⟩, fun e => ?_⟩
    · go_simp
      first | exact ⟨rfl, hC, Below.refl _ _, trivial⟩ | exact ⟨rfl, Below.refl _ _, trivial⟩ | exact ⟨hC, Below.refl _ _, trivial⟩
    have e' : vs 3 = _ := e
    rw [e']
    clear e e'
    simp only [Act.put, List.setIfInBounds_toArray, List.set_cons_succ, List.set_cons_zero]
    refine ⟨.inl ⟨rfl, fun dd w' hd hC hDs => ?_⟩, fun e => ?_⟩
    · have h1 : w'.cell? ⟨w.heap.size + 1, 1, none⟩ = some (.slice A n cap) := (y2.out.below hC y2.out.lt).cell 1
      go_simp
      first | exact ⟨rfl, hC, Below.refl _ _, trivial⟩ | exact ⟨rfl, Below.refl _ _, trivial⟩ | exact ⟨hC, Below.refl _ _, trivial⟩
    have e' : vs 4 = _ := e
    rw [e']
    clear e e'
    simp only [Act.put, List.setIfInBounds_toArray, List.set_cons_succ, List.set_cons_zero]
    refine ⟨.inl ⟨rfl, fun dd w' hd hC hDs => ?_⟩, fun e => ?_⟩
    · go_simp
      first | exact ⟨rfl, hC, Below.refl _ _, trivial⟩ | exact ⟨rfl, Below.refl _ _, trivial⟩ | exact ⟨hC, Below.refl _ _, trivial⟩
    have e' : vs 5 = _ := e
    rw [e']
    clear e e'
    simp only [Act.put, List.setIfInBounds_toArray, List.set_cons_succ, List.set_cons_zero]
    refine ⟨.inl ⟨rfl, fun dd w' hd hC hDs => ?_⟩, fun e => ?_⟩
    · have h1 : w'.cell? ⟨w.heap.size + 1, 1, none⟩ = some (.slice A n cap) := (y2.out.below hC y2.out.lt).cell 1
      go_simp
      first | exact ⟨rfl, hC, Below.refl _ _, trivial⟩ | exact ⟨rfl, Below.refl _ _, trivial⟩ | exact ⟨hC, Below.refl _ _, trivial⟩
    have e' : vs 6 = _ := e
    rw [e']
    clear e e'
    simp only [Act.put, List.setIfInBounds_toArray, List.set_cons_succ, List.set_cons_zero]
    refine ⟨.inl ⟨rfl, fun dd w' hd hC hDs => ?_⟩, fun e => ?_⟩
    · go_simp
      first | exact ⟨rfl, hC, Below.refl _ _, trivial⟩ | exact ⟨rfl, Below.refl _ _, trivial⟩ | exact ⟨hC, Below.refl _ _, trivial⟩
    have e' : vs 7 = _ := e
    rw [e']
    clear e e'
    simp only [Act.put, List.setIfInBounds_toArray, List.set_cons_succ, List.set_cons_zero]
    refine ⟨.inl ⟨rfl, fun dd w' hd hC hDs => ?_⟩, fun e => ?_⟩
    · have h1 : (if (40 : Int) < (n : Int) then (40 : Int) else (n : Int)) = (m : Int) := HZ.out
      go_simp
      first | exact ⟨rfl, hC, Below.refl _ _, trivial⟩ | exact ⟨rfl, Below.refl _ _, trivial⟩ | exact ⟨hC, Below.refl _ _, trivial⟩
    have e' : vs 8 = _ := e
    rw [e']
    clear e e'
    simp only [Act.put, List.setIfInBounds_toArray, List.set_cons_succ, List.set_cons_zero]
    refine ⟨.inl ⟨rfl, fun dd w' hd hC hDs => ?_⟩, fun e => ?_⟩
    · have h1 : m ≤ cap := MC.out
      have h2 : cap ≤ maxLen := MX.out
      have h3 : n ≤ cap := NC.out
      go_simp
      first | exact ⟨rfl, hC, Below.refl _ _, trivial⟩ | exact ⟨rfl, Below.refl _ _, trivial⟩ | exact ⟨hC, Below.refl _ _, trivial⟩
    have e' : vs 9 = _ := e
    rw [e']
    clear e e'
    simp only [Act.put, List.setIfInBounds_toArray, List.set_cons_succ, List.set_cons_zero]
    refine ⟨.inl ⟨rfl, fun dd w' hd hC hDs => ?_⟩, fun e => ?_⟩
    · go_simp
      refine (YR.out w' (b4.out.trans (hC.mono b4.out.size))).mono ?_
      rintro e w2 ⟨g7, M7, rfl, r7, m7, h2⟩
      exact ⟨_, rfl, ⟨_, rfl⟩, hC.trans (h2.mono hC.size), h2, yD_some rfl ⟨_, _, rfl, r7, fun b hb => Nat.le_trans hC.size (m7 b hb)⟩⟩
    obtain ⟨g10, e'⟩ : ∃ g, vs 10 = .tuple #[pT g, .int .i64 0] := e
    rw [e']
    have E10 := hid e'
    clear e'
    simp only [Act.put, List.setIfInBounds_toArray, List.set_cons_succ, List.set_cons_zero]
    refine ⟨.inl ⟨rfl, fun dd w' hd hC hDs => ?_⟩, fun e => ?_⟩
    · obtain ⟨g7, M7, f7, r7, m7⟩ := hDs 10 (by kernel_rfl)
      rw [E10.out] at f7
      cases f7
      go_simp
      first | exact ⟨⟨_, rfl⟩, Below.refl _ _, ⟨_, _, rfl, r7, m7⟩⟩ | exact ⟨⟨_, rfl⟩, hC, Below.refl _ _, ⟨_, _, rfl, r7, m7⟩⟩ | exact ⟨Below.refl _ _, ⟨_, _, rfl, r7, m7⟩⟩ | exact ⟨⟨_, rfl⟩, hC, Below.refl _ _, yD_some rfl ⟨_, _, rfl, r7, m7⟩⟩
    obtain ⟨g11, e'⟩ : ∃ g, vs 11 = .tuple #[pT g, .int .i64 0] := e
    rw [e']
    have E11 := hid e'
    clear e'
    simp only [Act.put, List.setIfInBounds_toArray, List.set_cons_succ, List.set_cons_zero]
    refine ⟨.inl ⟨rfl, fun dd w' hd hC hDs => ?_⟩, fun e => ?_⟩
    · obtain ⟨g7, M7, f7, r7, m7⟩ := hDs 11 (by kernel_rfl)
      rw [E11.out] at f7
      cases f7
      go_simp
      first | exact ⟨⟨_, rfl⟩, Below.refl _ _, ⟨_, _, rfl, r7, m7⟩⟩ | exact ⟨⟨_, rfl⟩, hC, Below.refl _ _, ⟨_, _, rfl, r7, m7⟩⟩ | exact ⟨Below.refl _ _, ⟨_, _, rfl, r7, m7⟩⟩ | exact ⟨⟨_, rfl⟩, hC, Below.refl _ _, yD_some rfl ⟨_, _, rfl, r7, m7⟩⟩
    obtain ⟨g12, e'⟩ : ∃ g, vs 12 = pT g := e
    rw [e']
    have E12 := hid e'
    clear e'
    simp only [Act.put, List.setIfInBounds_toArray, List.set_cons_succ, List.set_cons_zero]
    refine ⟨.inl ⟨rfl, fun dd w' hd hC hDs => ?_⟩, fun e => ?_⟩
    · go_simp
      first | exact ⟨rfl, hC, Below.refl _ _, trivial⟩ | exact ⟨rfl, Below.refl _ _, trivial⟩ | exact ⟨hC, Below.refl _ _, trivial⟩
    have e' : vs 13 = _ := e
    rw [e']
    clear e e'
    simp only [Act.put, List.setIfInBounds_toArray, List.set_cons_succ, List.set_cons_zero]
    refine ⟨.inl ⟨rfl, fun dd w' hd hC hDs => ?_⟩, fun e => ?_⟩
    · obtain ⟨g7, M7, f7, r7, m7⟩ := hDs 12 (by kernel_rfl)
      rw [E12.out] at f7
      cases f7
      go_simp
      first | exact ⟨⟨_, rfl⟩, Below.refl _ _, ⟨_, _, rfl, r7, m7⟩⟩ | exact ⟨⟨_, rfl⟩, hC, Below.refl _ _, ⟨_, _, rfl, r7, m7⟩⟩ | exact ⟨Below.refl _ _, ⟨_, _, rfl, r7, m7⟩⟩ | exact ⟨⟨_, rfl⟩, hC, Below.refl _ _, yD_some rfl ⟨_, _, rfl, r7, m7⟩⟩
    obtain ⟨gq, e'⟩ : ∃ g, vs 14 = pT g := e
    rw [e']
    have E14 := hid e'
    clear e'
    simp only [Act.put, List.setIfInBounds_toArray, List.set_cons_succ, List.set_cons_zero]
    refine ⟨.inl ⟨rfl, fun dd w' hd hC hDs => ?_⟩, fun e => ?_⟩
    · go_simp
      first | exact ⟨rfl, hC, Below.refl _ _, trivial⟩ | exact ⟨rfl, Below.refl _ _, trivial⟩ | exact ⟨hC, Below.refl _ _, trivial⟩
    have e' : vs 15 = _ := e
    rw [e']
    clear e e'
    simp only [Act.put, List.setIfInBounds_toArray, List.set_cons_succ, List.set_cons_zero]
    intro dd w5 hall hC5 hDs
    obtain ⟨gu, Mu, fu, ru, mu⟩ := hDs 14 (by omega)
    rw [E14.out] at fu
    cases fu
    obtain ⟨gl, cl, RQ, rfl⟩ := ru
    have Rb5 := hid RQ
    have Q4 := hid (mu gq (.inl rfl))
    have G4 := hid (mu gl (.inr rfl))
    have b5 := hid (b4.out.trans (hC5.mono b4.out.size))
    have Ra5 := hid (C.out.keep Ra4.out (Turn.of_new (S := fun _ => False) hC5) fun _ _ h => h)
    have M5 := hid (show ∀ b, Mt b → w1.heap.size ≤ b ∧ b ≠ gq ∧ b ≠ gl from fun b hb => ⟨Ma.out b hb, by have := La.out b hb; have := Q4.out; omega, by have := La.out b hb; have := G4.out; omega⟩)
    have QG := hid (show w1.heap.size ≤ gq ∧ w1.heap.size ≤ gl from ⟨Nat.le_trans b4.out.size Q4.out, Nat.le_trans b4.out.size G4.out⟩)
    clear hall hC5 hDs E10 E11 E12 E14 RQ mu y1 y2 b4 Ra4 Ma La Q4 G4 A2' HZ MC MX NC YE YR FF
    go_wp2_with fail
    go_loopw [11] (fun uu wr => ∃ (i : Nat) (s : Tr) (M : Nat → Prop), uu = .int .i64 i ∧ i ≤ ln ∧ Hid (repT wr ga M s) ∧ Hid (RefT wr gq gl cl s) ∧ Hid (∀ b, M b → w1.heap.size ≤ b ∧ b ≠ gq ∧ b ≠ gl) ∧ Hid (Below w1.heap.size w1 wr)) (fun uu _ => ln - (intOf uu).toNat)
    case atStart => exact ⟨0, t, Mt, rfl, Nat.zero_le _, Ra5, Rb5, M5, b5⟩
    case round =>
      obtain ⟨i, s, M, rfl, hi, Ra0, Rb0, MM, HB⟩ := hrel
      by_cases hgo : i < ln ∧ i < 20
      · obtain ⟨y, hy⟩ : ∃ y, l[i]? = some y := ⟨l[i]'(by rw [LN.out]; omega), List.getElem?_eq_getElem _⟩
        have LB := hid (L1.out.turn (Turn.of_new (S := fun _ => False) HB.out) fun _ _ _ h => h)
        obtain ⟨b2, o2, rfl, _, hb2, hr⟩ := LB.out.some hy
        have hys := hid (LF.out y (List.mem_of_getElem? hy))
        have R0 := hid (show wr.rangeAt b2 (o2 + i * 34) (acA y).toList from fun j v hj => hr j v (by unfold acA at hj; rwa [List.toList_toArray] at hj))
        have t1 : (i : Int) < ln := by omega
        have t2 : (i : Int) < 20 := by omega
        have Zy := hid (show (acA (⟨0, 0, fun _ => 0⟩ : Ac)).size = (acA y).size by rw [acA_size, acA_size])
        have rl := Rb0.out.lt
        clear hr hgo LB
        go_upto_region 13 with (first | ((with_reducible apply ldR (cs := acA y) (by rw [acA_size]; exact rowAc)); rfl; exact R0.out) | ((with_reducible apply alZ' zeroAc)) | ((with_reducible apply stR (cs := acA y) (by rw [acA_size]; exact rowAc)); rfl; rfl; exact Blk.new _ _ _; exact Zy.out; exact acA_one y))
        generalize hw3 : World.setRow (World.alloc wr _) _ _ = w3
        have h3 : Below wr.heap.size wr w3 := by rw [← hw3]; exact below_setRow ((Below.refl _ _).alloc (Nat.le_refl _) _) (Nat.le_refl _) _
        have bA := hid (show Blk w3 wr.heap.size 38 (acA y) by rw [← hw3]; exact (Blk.new _ _ _).setRow_same _)
        have la := hid ((C.out.lt Ra0.out).2)
        have P := hid (show Pl repT w1 w3 ga gq gl cl wr.heap.size M s y from ⟨C.out.keep Ra0.out (Turn.of_new (S := fun _ => False) h3) fun _ _ h => h, Rb0.out.below h3, fun b hb => ⟨(MM.out b hb).1, (MM.out b hb).2.1, (MM.out b hb).2.2, by have := la.out b hb; omega⟩, QG.out.2, HB.out.trans (h3.mono HB.out.size), bA.out, by omega⟩)
        obtain ⟨bA0, hbA0⟩ : ∃ bA0, bA0 = wr.heap.size := ⟨_, rfl⟩
        rw [← hbA0] at P ⊢
        have a0 := ac_d P.out.k
        have tz : ((2 : Int) == 0) = false := rfl
        clear hw3 h3 R0 Zy hbA0 bA la Ra0 Rb0 MM HB hy rl
        by_cases z0 : y.d.tmod 2 = 0
        · have zb0 : (y.d.tmod 2 == 0) = true := by rw [z0]; rfl
          have a1 := ac_c P.out.k
          have asg := hid (ac_s P.out.k)
          go_wp2_with ((with_reducible apply ldAm tT); rfl; exact asg.out)
          refine (set_all C.out D.out y.c y.s hys.out P.out.a (S1.out.on P.out.h)).mono ?_
          rintro e w5 ⟨v5, M', rfl, o5, R5, hM', _, T5⟩
          obtain ⟨A5, c5, rfl⟩ := OwnI.len o5
          obtain ⟨q1, q2, q3, q4, q5⟩ := P.out.set C.out R5 hM' T5
          have O5 := hid o5
          have Q1 := hid q1
          have Q2 := hid q2
          have Q3 := hid q3
          have Q4 := hid q4
          have Q5 := hid q5
          have hq := P.out.q
          have he := P.out.e
          have gl3 := P.out.r.lt.2
          clear o5 R5 hM' T5 q1 q2 q3 q4 q5 P a1 asg
          have a1 := ac_c Q5.out
          have asg := hid (ac_s Q5.out)
          go_wp2_with ((with_reducible apply ldAm tT); rfl; exact asg.out)
          refine (rset_all y.c y.s hys.out Q2.out).mono ?_
          rintro e w6 ⟨v6, rfl, o6, R6, T6⟩
          obtain ⟨A6, c6, rfl⟩ := OwnI.len o6
          have I5 := hid (OwnI.turn1 O5.out T6 gl3)
          have I6 := hid o6
          have LE := hid (show (chV s y.c y.s).length ≤ 1000 from Nat.le_trans (chV_le _ _ _) (by have := Q2.out.h2; omega))
          have P := hid (Pl.both C.out Q1.out Q3.out Q4.out Q5.out hq he R6 T6)
          clear o6 R6 T6 O5 Q1 Q2 Q3 Q4 Q5 a1 asg a0
          have ee : ((lfE s y.c : Int) != (lfE s y.c : Int)) = false := by simp
          go_wp2_with fail
          refine (StM.rints_any I5.out I6.out LE.out LE.out).mono ?_
          rintro e w7 ⟨rfl, h7⟩
          rw [decide_eq_true rfl]
          have P := hid (P.out.below C.out h7)
          clear h7 I5 I6 LE
          generalize setV s y.c y.s = s at P
          generalize M' = M at P
          have a1 := ac_c P.out.k
          clear zb0 z0
          go_wp2_with fail
          refine (tag_all D.out y.c P.out.a (S1.out.on P.out.h)).mono ?_
          rintro e w7 ⟨rfl, h7⟩
          have P7 := hid (P.out.below C.out h7)
          clear h7 P a1 
          go_upto_region 19 with (first | (with_reducible apply alA tT) | ((with_reducible apply stA tT); rfl; rfl; exact Blk.new _ _ _))
          generalize hw8 : World.setRow (World.alloc w7 _) _ _ = w8
          have c17 := hid (show Blk w8 w7.heap.size 36 (ar 32 (tgV s y.c)) by rw [← hw8]; exact (Blk.new _ _ _).setRow_same _)
          have h8 : Below w7.heap.size w7 w8 := by rw [← hw8]; exact below_setRow ((Below.refl _ _).alloc (Nat.le_refl _) _) (Nat.le_refl _) _
          have P := hid (P7.out.below C.out h8)
          clear h8 hw8 P7 
          obtain ⟨gc17, hgc17⟩ : ∃ b, b = w7.heap.size := ⟨_, rfl⟩
          rw [← hgc17] at c17 ⊢
          clear hgc17
          have a1 := ac_c P.out.k
          go_wp2_with fail
          refine (rtag_all y.c P.out.r).mono ?_
          rintro e w7 ⟨rfl, h7⟩
          have P7 := hid (P.out.below C.out h7)
          have c177 := hid (c17.out.below h7 c17.out.lt)
          clear h7 P a1 c17
          go_upto_region 20 with (first | (with_reducible apply alA tT) | ((with_reducible apply stA tT); rfl; rfl; exact Blk.new _ _ _))
          generalize hw8 : World.setRow (World.alloc w7 _) _ _ = w8
          have c19 := hid (show Blk w8 w7.heap.size 36 (ar 32 (tgV s y.c)) by rw [← hw8]; exact (Blk.new _ _ _).setRow_same _)
          have h8 : Below w7.heap.size w7 w8 := by rw [← hw8]; exact below_setRow ((Below.refl _ _).alloc (Nat.le_refl _) _) (Nat.le_refl _) _
          have P := hid (P7.out.below C.out h8)
          have c17 := hid (c177.out.below h8 c177.out.lt)
          clear h8 hw8 P7 c177
          obtain ⟨gc19, hgc19⟩ : ∃ b, b = w7.heap.size := ⟨_, rfl⟩
          rw [← hgc19] at c19 ⊢
          clear hgc19
          have a1 := ac_c P.out.k
          go_wp2_with fail
          refine (nod_all D.out y.c P.out.a (S1.out.on P.out.h)).mono ?_
          rintro e w7 ⟨rfl, h7⟩
          have P7 := hid (P.out.below C.out h7)
          have c177 := hid (c17.out.below h7 c17.out.lt)
          have c197 := hid (c19.out.below h7 c19.out.lt)
          clear h7 P a1 c17 c19
          go_upto_region 21 with (first | (with_reducible apply alA tS) | ((with_reducible apply stA tS); rfl; rfl; exact Blk.new _ _ _))
          generalize hw8 : World.setRow (World.alloc w7 _) _ _ = w8
          have c21 := hid (show Blk w8 w7.heap.size 50 (ar 64 (ndV s y.c)) by rw [← hw8]; exact (Blk.new _ _ _).setRow_same _)
          have h8 : Below w7.heap.size w7 w8 := by rw [← hw8]; exact below_setRow ((Below.refl _ _).alloc (Nat.le_refl _) _) (Nat.le_refl _) _
          have P := hid (P7.out.below C.out h8)
          have c17 := hid (c177.out.below h8 c177.out.lt)
          have c19 := hid (c197.out.below h8 c197.out.lt)
          clear h8 hw8 P7 c177 c197
          obtain ⟨gc21, hgc21⟩ : ∃ b, b = w7.heap.size := ⟨_, rfl⟩
          rw [← hgc21] at c21 ⊢
          clear hgc21
          have a1 := ac_c P.out.k
          go_wp2_with fail
          refine (rnod_all y.c P.out.r).mono ?_
          rintro e w7 ⟨rfl, h7⟩
          have P7 := hid (P.out.below C.out h7)
          have c177 := hid (c17.out.below h7 c17.out.lt)
          have c197 := hid (c19.out.below h7 c19.out.lt)
          have c217 := hid (c21.out.below h7 c21.out.lt)
          clear h7 P a1 c17 c19 c21
          go_upto_region 22 with (first | (with_reducible apply alA tS) | ((with_reducible apply stA tS); rfl; rfl; exact Blk.new _ _ _))
          generalize hw8 : World.setRow (World.alloc w7 _) _ _ = w8
          have c23 := hid (show Blk w8 w7.heap.size 50 (ar 64 (ndV s y.c)) by rw [← hw8]; exact (Blk.new _ _ _).setRow_same _)
          have h8 : Below w7.heap.size w7 w8 := by rw [← hw8]; exact below_setRow ((Below.refl _ _).alloc (Nat.le_refl _) _) (Nat.le_refl _) _
          have P := hid (P7.out.below C.out h8)
          have c17 := hid (c177.out.below h8 c177.out.lt)
          have c19 := hid (c197.out.below h8 c197.out.lt)
          have c21 := hid (c217.out.below h8 c217.out.lt)
          clear h8 hw8 P7 c177 c197 c217
          obtain ⟨gc23, hgc23⟩ : ∃ b, b = w7.heap.size := ⟨_, rfl⟩
          rw [← hgc23] at c23 ⊢
          clear hgc23
          have a1 := ac_c P.out.k
          go_wp2_with fail
          refine (proof_all C.out D.out y.c P.out.a (S1.out.on P.out.h)).mono ?_
          rintro e w7 ⟨A25, k25, T25, rfl, sl25, h7⟩
          have P := hid (P.out.below C.out h7)
          have c17 := hid (c17.out.below h7 c17.out.lt)
          have c19 := hid (c19.out.below h7 c19.out.lt)
          have c21 := hid (c21.out.below h7 c21.out.lt)
          have c23 := hid (c23.out.below h7 c23.out.lt)
          have L25 := hid sl25.bound
          clear h7 sl25 a1
          have a1 := ac_c P.out.k
          go_wp2_with fail
          refine (rproof_all y.c P.out.r).mono ?_
          rintro e w7 ⟨A27, k27, T27, rfl, sl27, h7⟩
          have P := hid (P.out.below C.out h7)
          have c17 := hid (c17.out.below h7 c17.out.lt)
          have c19 := hid (c19.out.below h7 c19.out.lt)
          have c21 := hid (c21.out.below h7 c21.out.lt)
          have c23 := hid (c23.out.below h7 c23.out.lt)
          have L25 := hid (L25.out.turn (Turn.of_new (S := fun _ => False) h7) fun _ _ _ h => h)
          have L27 := hid sl27
          clear h7 sl27 a1
          go_wp2_with fail
          refine (rtag_all 1 P.out.r).mono ?_
          rintro e w7 ⟨rfl, h7⟩
          rw [tgV_one]
          have P7 := hid (P.out.below C.out h7)
          have c177 := hid (c17.out.below h7 c17.out.lt)
          have c197 := hid (c19.out.below h7 c19.out.lt)
          have c217 := hid (c21.out.below h7 c21.out.lt)
          have c237 := hid (c23.out.below h7 c23.out.lt)
          have L257 := hid (L25.out.turn (Turn.of_new (S := fun _ => False) h7) fun _ _ _ h => h)
          have L277 := hid (L27.out.turn (Turn.of_new (S := fun _ => False) h7) fun _ _ _ h => h)
          clear h7 P L25 L27 c17 c19 c21 c23
          go_upto_region 25 with (first | (with_reducible apply alA tT) | ((with_reducible apply stA tT); rfl; rfl; exact Blk.new _ _ _))
          generalize hw8 : World.setRow (World.alloc w7 _) _ _ = w8
          have c29 := hid (show Blk w8 w7.heap.size 36 (ar 32 (s.tg 1)) by rw [← hw8]; exact (Blk.new _ _ _).setRow_same _)
          have h8 : Below w7.heap.size w7 w8 := by rw [← hw8]; exact below_setRow ((Below.refl _ _).alloc (Nat.le_refl _) _) (Nat.le_refl _) _
          have P := hid (P7.out.below C.out h8)
          have c17 := hid (c177.out.below h8 c177.out.lt)
          have c19 := hid (c197.out.below h8 c197.out.lt)
          have c21 := hid (c217.out.below h8 c217.out.lt)
          have c23 := hid (c237.out.below h8 c237.out.lt)
          have L25 := hid (L257.out.turn (Turn.of_new (S := fun _ => False) h8) fun _ _ _ h => h)
          have L27 := hid (L277.out.turn (Turn.of_new (S := fun _ => False) h8) fun _ _ _ h => h)
          clear h8 hw8 P7 L257 L277 c177 c197 c217 c237
          generalize w7.heap.size = gc29 at c29 ⊢
          have lc17 := c17.out.lt
          have lc19 := c19.out.lt
          have lc21 := c21.out.lt
          have lc23 := c23.out.lt
          have lc29 := c29.out.lt
          have ER := hid (eqA_refl 32 (tgV s y.c))
          have ER2 := hid (eqA_refl 64 (ndV s y.c))
          have ER3 := hid (eqA_refl 32 (s.tg 1))
          have SM := hid (fun (w' : World) (hw' : Below w8.heap.size w8 w') => rsame_own (S1 := fun b => b < w8.heap.size) (S2 := T27) A25 A27 (prN s y.c) k25 k27 (prf s y.c.toNat) (by unfold prN; have := (C.out.wf P.out.a).2.1; split <;> omega) w' ((L25.out.bound.turn (Turn.of_new (S := fun _ => False) hw') fun _ _ _ h => h)) (L27.out.turn (Turn.of_new (S := fun _ => False) hw') fun _ _ _ h => h))
          have TP := hid (fun (w' : World) (hw' : Below w8.heap.size w8 w') => C.out.top (P.out.below C.out hw').a (S1.out.on (P.out.below C.out hw').h))
          refine wp_region_tail (C := fun w' => Below w8.heap.size w8 w') 35 (by kernel_rfl) (by kernel_rfl) (by kernel_rfl) (Below.refl _ _).drew ?_
          simp only [List.take_succ_cons, List.take_zero, List.drop_succ_cons, List.drop_zero]
          apply kldA tT
          · rfl
          · rfl
          · exact fun w' hw' => (c17.out.below hw' lc17).head
          simp only [Act.put, List.setIfInBounds_toArray, List.set_cons_succ, List.set_cons_zero]
          apply kldA tT
          · rfl
          · rfl
          · exact fun w' hw' => (c19.out.below hw' lc19).head
          simp only [Act.put, List.setIfInBounds_toArray, List.set_cons_succ, List.set_cons_zero]
          apply kneU false uT eqgT
          · rfl
          · rfl
          · rfl
          · exact (by rw [ER.out]; rfl)
          simp only [Act.put, List.setIfInBounds_toArray, List.set_cons_succ, List.set_cons_zero]
          apply wpK_val
          · rfl
          · intro w' hw'
            go_simp
            first | exact rfl | exact ⟨rfl, hw'⟩
          simp only [Act.put, List.setIfInBounds_toArray, List.set_cons_succ, List.set_cons_zero]
          apply wpK_val
          · rfl
          · intro w' hw'
            go_simp
            first | exact rfl | exact ⟨rfl, hw'⟩
          simp only [Act.put, List.setIfInBounds_toArray, List.set_cons_succ, List.set_cons_zero]
          apply wpK_val
          · rfl
          · intro w' hw'
            go_simp
            first | exact rfl | exact ⟨rfl, hw'⟩
          simp only [Act.put, List.setIfInBounds_toArray, List.set_cons_succ, List.set_cons_zero]
          apply wpK_val
          · rfl
          · intro w' hw'
            have ee : ((tgE s y.c : Int) != (tgE s y.c : Int)) = false := by simp
            go_simp
            first | exact rfl | exact ⟨rfl, hw'⟩
          simp only [Act.put, List.setIfInBounds_toArray, List.set_cons_succ, List.set_cons_zero]
          apply wpK_val
          · rfl
          · intro w' hw'
            go_simp
            first | exact rfl | exact ⟨rfl, hw'⟩
          simp only [Act.put, List.setIfInBounds_toArray, List.set_cons_succ, List.set_cons_zero]
          apply wpK_val
          · rfl
          · intro w' hw'
            go_simp
            first | exact rfl | exact ⟨rfl, hw'⟩
          simp only [Act.put, List.setIfInBounds_toArray, List.set_cons_succ, List.set_cons_zero]
          apply kldA tS
          · rfl
          · rfl
          · exact fun w' hw' => (c21.out.below hw' lc21).head
          simp only [Act.put, List.setIfInBounds_toArray, List.set_cons_succ, List.set_cons_zero]
          apply kldA tS
          · rfl
          · rfl
          · exact fun w' hw' => (c23.out.below hw' lc23).head
          simp only [Act.put, List.setIfInBounds_toArray, List.set_cons_succ, List.set_cons_zero]
          apply kneU false uS eqgS
          · rfl
          · rfl
          · rfl
          · exact (by rw [ER2.out]; rfl)
          simp only [Act.put, List.setIfInBounds_toArray, List.set_cons_succ, List.set_cons_zero]
          apply wpK_val
          · rfl
          · intro w' hw'
            go_simp
            first | exact rfl | exact ⟨rfl, hw'⟩
          simp only [Act.put, List.setIfInBounds_toArray, List.set_cons_succ, List.set_cons_zero]
          apply wpK_val
          · rfl
          · intro w' hw'
            go_simp
            first | exact rfl | exact ⟨rfl, hw'⟩
          simp only [Act.put, List.setIfInBounds_toArray, List.set_cons_succ, List.set_cons_zero]
          apply wpK_val
          · rfl
          · intro w' hw'
            go_simp
            first | exact rfl | exact ⟨rfl, hw'⟩
          simp only [Act.put, List.setIfInBounds_toArray, List.set_cons_succ, List.set_cons_zero]
          apply wpK_val
          · rfl
          · intro w' hw'
            go_simp
            first | exact rfl | exact ⟨rfl, hw'⟩
          simp only [Act.put, List.setIfInBounds_toArray, List.set_cons_succ, List.set_cons_zero]
          apply wpK_val
          · rfl
          · intro w' hw'
            have ee : ((ndE s y.c : Int) != (ndE s y.c : Int)) = false := by simp
            go_simp
            first | exact rfl | exact ⟨rfl, hw'⟩
          simp only [Act.put, List.setIfInBounds_toArray, List.set_cons_succ, List.set_cons_zero]
          apply wpK_val
          · rfl
          · intro w' hw'
            go_simp
            first | exact rfl | exact ⟨rfl, hw'⟩
          simp only [Act.put, List.setIfInBounds_toArray, List.set_cons_succ, List.set_cons_zero]
          apply wpK_val
          · rfl
          · intro w' hw'
            go_simp
            first | exact rfl | exact ⟨rfl, hw'⟩
          simp only [Act.put, List.setIfInBounds_toArray, List.set_cons_succ, List.set_cons_zero]
          apply wpK_val
          · rfl
          · intro w' hw'
            go_simp
            first | exact rfl | exact ⟨rfl, hw'⟩
          simp only [Act.put, List.setIfInBounds_toArray, List.set_cons_succ, List.set_cons_zero]
          apply wpK_val
          · rfl
          · intro w' hw'
            go_simp
            first | exact rfl | exact ⟨rfl, hw'⟩
          simp only [Act.put, List.setIfInBounds_toArray, List.set_cons_succ, List.set_cons_zero]
          apply wpK_val
          · rfl
          · intro w' hw'
            go_simp
            exact (SM.out w' hw').mono fun e w5 h => ⟨h.1, hw'.trans (h.2.mono hw'.size)⟩
          simp only [Act.put, List.setIfInBounds_toArray, List.set_cons_succ, List.set_cons_zero]
          apply wpK_val
          · rfl
          · intro w' hw'
            go_simp
            first | exact rfl | exact ⟨rfl, hw'⟩
          simp only [Act.put, List.setIfInBounds_toArray, List.set_cons_succ, List.set_cons_zero]
          apply wpK_val
          · rfl
          · intro w' hw'
            go_simp
            first | exact rfl | exact ⟨rfl, hw'⟩
          simp only [Act.put, List.setIfInBounds_toArray, List.set_cons_succ, List.set_cons_zero]
          apply wpK_val
          · rfl
          · intro w' hw'
            go_simp
            first | exact rfl | exact ⟨rfl, hw'⟩
          simp only [Act.put, List.setIfInBounds_toArray, List.set_cons_succ, List.set_cons_zero]
          apply wpK_val
          · rfl
          · intro w' hw'
            go_simp
            first | exact rfl | exact ⟨rfl, hw'⟩
          simp only [Act.put, List.setIfInBounds_toArray, List.set_cons_succ, List.set_cons_zero]
          apply wpK_val
          · rfl
          · intro w' hw'
            go_simp
            first | exact rfl | exact ⟨rfl, hw'⟩
          simp only [Act.put, List.setIfInBounds_toArray, List.set_cons_succ, List.set_cons_zero]
          apply wpK_val
          · rfl
          · intro w' hw'
            have ee : ((lfE s y.c : Int) != (lfE s y.c : Int)) = false := by simp
            go_simp
            first | exact rfl | exact ⟨rfl, hw'⟩
          simp only [Act.put, List.setIfInBounds_toArray, List.set_cons_succ, List.set_cons_zero]
          apply wpK_val
          · rfl
          · intro w' hw'
            go_simp
            first | exact rfl | exact ⟨rfl, hw'⟩
          simp only [Act.put, List.setIfInBounds_toArray, List.set_cons_succ, List.set_cons_zero]
          apply wpK_val
          · rfl
          · intro w' hw'
            go_simp
            first | exact rfl | exact ⟨rfl, hw'⟩
          simp only [Act.put, List.setIfInBounds_toArray, List.set_cons_succ, List.set_cons_zero]
          apply wpK_val
          · rfl
          · intro w' hw'
            go_simp
            first | exact rfl | exact ⟨rfl, hw'⟩
          simp only [Act.put, List.setIfInBounds_toArray, List.set_cons_succ, List.set_cons_zero]
          apply wpK_val
          · rfl
          · intro w' hw'
            go_simp
            exact (TP.out w' hw').mono fun e w5 h => ⟨h.1, hw'.trans (h.2.mono hw'.size)⟩
          simp only [Act.put, List.setIfInBounds_toArray, List.set_cons_succ, List.set_cons_zero]
          apply kldA tT
          · rfl
          · rfl
          · exact fun w' hw' => (c29.out.below hw' lc29).head
          simp only [Act.put, List.setIfInBounds_toArray, List.set_cons_succ, List.set_cons_zero]
          apply kneU false uT eqgT
          · rfl
          · rfl
          · rfl
          · exact (by rw [ER3.out]; rfl)
          simp only [Act.put, List.setIfInBounds_toArray, List.set_cons_succ, List.set_cons_zero]
          apply wpK_val
          · rfl
          · intro w' hw'
            go_simp
            first | exact rfl | exact ⟨rfl, hw'⟩
          simp only [Act.put, List.setIfInBounds_toArray, List.set_cons_succ, List.set_cons_zero]
          refine wpK_nil fun w9 h9 => ?_
          have PE := hid (P.out.below C.out h9)
          clear h9 P L25 L27 SM TP c17 c19 c21 c23 c29
          go_wp2_with fail
          go_roundw
          case rel => exact ⟨i + 1, s, M, by go_num, by omega, hid PE.out.a, hid PE.out.r, hid (fun b hb => ⟨(PE.out.m b hb).1, (PE.out.m b hb).2.1, (PE.out.m b hb).2.2.1⟩), hid PE.out.h⟩
          case measure => simp [intOf] <;> omega
        · have zb0 : (y.d.tmod 2 == 0) = false := by rw [beq_eq_false_iff_ne]; exact z0
          have a1 := ac_c P.out.k
          clear z0
          go_wp2_with fail
          refine (tag_all D.out y.c P.out.a (S1.out.on P.out.h)).mono ?_
          rintro e w7 ⟨rfl, h7⟩
          have P7 := hid (P.out.below C.out h7)
          clear h7 P a1 
          go_upto_region 19 with (first | (with_reducible apply alA tT) | ((with_reducible apply stA tT); rfl; rfl; exact Blk.new _ _ _))
          generalize hw8 : World.setRow (World.alloc w7 _) _ _ = w8
          have c17 := hid (show Blk w8 w7.heap.size 36 (ar 32 (tgV s y.c)) by rw [← hw8]; exact (Blk.new _ _ _).setRow_same _)
          have h8 : Below w7.heap.size w7 w8 := by rw [← hw8]; exact below_setRow ((Below.refl _ _).alloc (Nat.le_refl _) _) (Nat.le_refl _) _
          have P := hid (P7.out.below C.out h8)
          clear h8 hw8 P7 
          obtain ⟨gc17, hgc17⟩ : ∃ b, b = w7.heap.size := ⟨_, rfl⟩
          rw [← hgc17] at c17 ⊢
          clear hgc17
          have a1 := ac_c P.out.k
          go_wp2_with fail
          refine (rtag_all y.c P.out.r).mono ?_
          rintro e w7 ⟨rfl, h7⟩
          have P7 := hid (P.out.below C.out h7)
          have c177 := hid (c17.out.below h7 c17.out.lt)
          clear h7 P a1 c17
          go_upto_region 20 with (first | (with_reducible apply alA tT) | ((with_reducible apply stA tT); rfl; rfl; exact Blk.new _ _ _))
          generalize hw8 : World.setRow (World.alloc w7 _) _ _ = w8
          have c19 := hid (show Blk w8 w7.heap.size 36 (ar 32 (tgV s y.c)) by rw [← hw8]; exact (Blk.new _ _ _).setRow_same _)
          have h8 : Below w7.heap.size w7 w8 := by rw [← hw8]; exact below_setRow ((Below.refl _ _).alloc (Nat.le_refl _) _) (Nat.le_refl _) _
          have P := hid (P7.out.below C.out h8)
          have c17 := hid (c177.out.below h8 c177.out.lt)
          clear h8 hw8 P7 c177
          obtain ⟨gc19, hgc19⟩ : ∃ b, b = w7.heap.size := ⟨_, rfl⟩
          rw [← hgc19] at c19 ⊢
          clear hgc19
          have a1 := ac_c P.out.k
          go_wp2_with fail
          refine (nod_all D.out y.c P.out.a (S1.out.on P.out.h)).mono ?_
          rintro e w7 ⟨rfl, h7⟩
          have P7 := hid (P.out.below C.out h7)
          have c177 := hid (c17.out.below h7 c17.out.lt)
          have c197 := hid (c19.out.below h7 c19.out.lt)
          clear h7 P a1 c17 c19
          go_upto_region 21 with (first | (with_reducible apply alA tS) | ((with_reducible apply stA tS); rfl; rfl; exact Blk.new _ _ _))
          generalize hw8 : World.setRow (World.alloc w7 _) _ _ = w8
          have c21 := hid (show Blk w8 w7.heap.size 50 (ar 64 (ndV s y.c)) by rw [← hw8]; exact (Blk.new _ _ _).setRow_same _)
          have h8 : Below w7.heap.size w7 w8 := by rw [← hw8]; exact below_setRow ((Below.refl _ _).alloc (Nat.le_refl _) _) (Nat.le_refl _) _
          have P := hid (P7.out.below C.out h8)
          have c17 := hid (c177.out.below h8 c177.out.lt)
          have c19 := hid (c197.out.below h8 c197.out.lt)
          clear h8 hw8 P7 c177 c197
          obtain ⟨gc21, hgc21⟩ : ∃ b, b = w7.heap.size := ⟨_, rfl⟩
          rw [← hgc21] at c21 ⊢
          clear hgc21
          have a1 := ac_c P.out.k
          go_wp2_with fail
          refine (rnod_all y.c P.out.r).mono ?_
          rintro e w7 ⟨rfl, h7⟩
          have P7 := hid (P.out.below C.out h7)
          have c177 := hid (c17.out.below h7 c17.out.lt)
          have c197 := hid (c19.out.below h7 c19.out.lt)
          have c217 := hid (c21.out.below h7 c21.out.lt)
          clear h7 P a1 c17 c19 c21
          go_upto_region 22 with (first | (with_reducible apply alA tS) | ((with_reducible apply stA tS); rfl; rfl; exact Blk.new _ _ _))
          generalize hw8 : World.setRow (World.alloc w7 _) _ _ = w8
          have c23 := hid (show Blk w8 w7.heap.size 50 (ar 64 (ndV s y.c)) by rw [← hw8]; exact (Blk.new _ _ _).setRow_same _)
          have h8 : Below w7.heap.size w7 w8 := by rw [← hw8]; exact below_setRow ((Below.refl _ _).alloc (Nat.le_refl _) _) (Nat.le_refl _) _
          have P := hid (P7.out.below C.out h8)
          have c17 := hid (c177.out.below h8 c177.out.lt)
          have c19 := hid (c197.out.below h8 c197.out.lt)
          have c21 := hid (c217.out.below h8 c217.out.lt)
          clear h8 hw8 P7 c177 c197 c217
          obtain ⟨gc23, hgc23⟩ : ∃ b, b = w7.heap.size := ⟨_, rfl⟩
          rw [← hgc23] at c23 ⊢
          clear hgc23
          have a1 := ac_c P.out.k
          go_wp2_with fail
          refine (proof_all C.out D.out y.c P.out.a (S1.out.on P.out.h)).mono ?_
          rintro e w7 ⟨A25, k25, T25, rfl, sl25, h7⟩
          have P := hid (P.out.below C.out h7)
          have c17 := hid (c17.out.below h7 c17.out.lt)
          have c19 := hid (c19.out.below h7 c19.out.lt)
          have c21 := hid (c21.out.below h7 c21.out.lt)
          have c23 := hid (c23.out.below h7 c23.out.lt)
          have L25 := hid sl25.bound
          clear h7 sl25 a1
          have a1 := ac_c P.out.k
          go_wp2_with fail
          refine (rproof_all y.c P.out.r).mono ?_
          rintro e w7 ⟨A27, k27, T27, rfl, sl27, h7⟩
          have P := hid (P.out.below C.out h7)
          have c17 := hid (c17.out.below h7 c17.out.lt)
          have c19 := hid (c19.out.below h7 c19.out.lt)
          have c21 := hid (c21.out.below h7 c21.out.lt)
          have c23 := hid (c23.out.below h7 c23.out.lt)
          have L25 := hid (L25.out.turn (Turn.of_new (S := fun _ => False) h7) fun _ _ _ h => h)
          have L27 := hid sl27
          clear h7 sl27 a1
          go_wp2_with fail
          refine (rtag_all 1 P.out.r).mono ?_
          rintro e w7 ⟨rfl, h7⟩
          rw [tgV_one]
          have P7 := hid (P.out.below C.out h7)
          have c177 := hid (c17.out.below h7 c17.out.lt)
          have c197 := hid (c19.out.below h7 c19.out.lt)
          have c217 := hid (c21.out.below h7 c21.out.lt)
          have c237 := hid (c23.out.below h7 c23.out.lt)
          have L257 := hid (L25.out.turn (Turn.of_new (S := fun _ => False) h7) fun _ _ _ h => h)
          have L277 := hid (L27.out.turn (Turn.of_new (S := fun _ => False) h7) fun _ _ _ h => h)
          clear h7 P L25 L27 c17 c19 c21 c23
          go_upto_region 25 with (first | (with_reducible apply alA tT) | ((with_reducible apply stA tT); rfl; rfl; exact Blk.new _ _ _))
          generalize hw8 : World.setRow (World.alloc w7 _) _ _ = w8
          have c29 := hid (show Blk w8 w7.heap.size 36 (ar 32 (s.tg 1)) by rw [← hw8]; exact (Blk.new _ _ _).setRow_same _)
          have h8 : Below w7.heap.size w7 w8 := by rw [← hw8]; exact below_setRow ((Below.refl _ _).alloc (Nat.le_refl _) _) (Nat.le_refl _) _
          have P := hid (P7.out.below C.out h8)
          have c17 := hid (c177.out.below h8 c177.out.lt)
          have c19 := hid (c197.out.below h8 c197.out.lt)
          have c21 := hid (c217.out.below h8 c217.out.lt)
          have c23 := hid (c237.out.below h8 c237.out.lt)
          have L25 := hid (L257.out.turn (Turn.of_new (S := fun _ => False) h8) fun _ _ _ h => h)
          have L27 := hid (L277.out.turn (Turn.of_new (S := fun _ => False) h8) fun _ _ _ h => h)
          clear h8 hw8 P7 L257 L277 c177 c197 c217 c237
          generalize w7.heap.size = gc29 at c29 ⊢
          have lc17 := c17.out.lt
          have lc19 := c19.out.lt
          have lc21 := c21.out.lt
          have lc23 := c23.out.lt
          have lc29 := c29.out.lt
          have ER := hid (eqA_refl 32 (tgV s y.c))
          have ER2 := hid (eqA_refl 64 (ndV s y.c))
          have ER3 := hid (eqA_refl 32 (s.tg 1))
          have SM := hid (fun (w' : World) (hw' : Below w8.heap.size w8 w') => rsame_own (S1 := fun b => b < w8.heap.size) (S2 := T27) A25 A27 (prN s y.c) k25 k27 (prf s y.c.toNat) (by unfold prN; have := (C.out.wf P.out.a).2.1; split <;> omega) w' ((L25.out.bound.turn (Turn.of_new (S := fun _ => False) hw') fun _ _ _ h => h)) (L27.out.turn (Turn.of_new (S := fun _ => False) hw') fun _ _ _ h => h))
          have TP := hid (fun (w' : World) (hw' : Below w8.heap.size w8 w') => C.out.top (P.out.below C.out hw').a (S1.out.on (P.out.below C.out hw').h))
          refine wp_region_tail (C := fun w' => Below w8.heap.size w8 w') 35 (by kernel_rfl) (by kernel_rfl) (by kernel_rfl) (Below.refl _ _).drew ?_
          simp only [List.take_succ_cons, List.take_zero, List.drop_succ_cons, List.drop_zero]
          apply kldA tT
          · rfl
          · rfl
          · exact fun w' hw' => (c17.out.below hw' lc17).head
          simp only [Act.put, List.setIfInBounds_toArray, List.set_cons_succ, List.set_cons_zero]
          apply kldA tT
          · rfl
          · rfl
          · exact fun w' hw' => (c19.out.below hw' lc19).head
          simp only [Act.put, List.setIfInBounds_toArray, List.set_cons_succ, List.set_cons_zero]
          apply kneU false uT eqgT
          · rfl
          · rfl
          · rfl
          · exact (by rw [ER.out]; rfl)
          simp only [Act.put, List.setIfInBounds_toArray, List.set_cons_succ, List.set_cons_zero]
          apply wpK_val
          · rfl
          · intro w' hw'
            go_simp
            first | exact rfl | exact ⟨rfl, hw'⟩
          simp only [Act.put, List.setIfInBounds_toArray, List.set_cons_succ, List.set_cons_zero]
          apply wpK_val
          · rfl
          · intro w' hw'
            go_simp
            first | exact rfl | exact ⟨rfl, hw'⟩
          simp only [Act.put, List.setIfInBounds_toArray, List.set_cons_succ, List.set_cons_zero]
          apply wpK_val
          · rfl
          · intro w' hw'
            go_simp
            first | exact rfl | exact ⟨rfl, hw'⟩
          simp only [Act.put, List.setIfInBounds_toArray, List.set_cons_succ, List.set_cons_zero]
          apply wpK_val
          · rfl
          · intro w' hw'
            have ee : ((tgE s y.c : Int) != (tgE s y.c : Int)) = false := by simp
            go_simp
            first | exact rfl | exact ⟨rfl, hw'⟩
          simp only [Act.put, List.setIfInBounds_toArray, List.set_cons_succ, List.set_cons_zero]
          apply wpK_val
          · rfl
          · intro w' hw'
            go_simp
            first | exact rfl | exact ⟨rfl, hw'⟩
          simp only [Act.put, List.setIfInBounds_toArray, List.set_cons_succ, List.set_cons_zero]
          apply wpK_val
          · rfl
          · intro w' hw'
            go_simp
            first | exact rfl | exact ⟨rfl, hw'⟩
          simp only [Act.put, List.setIfInBounds_toArray, List.set_cons_succ, List.set_cons_zero]
          apply kldA tS
          · rfl
          · rfl
          · exact fun w' hw' => (c21.out.below hw' lc21).head
          simp only [Act.put, List.setIfInBounds_toArray, List.set_cons_succ, List.set_cons_zero]
          apply kldA tS
          · rfl
          · rfl
          · exact fun w' hw' => (c23.out.below hw' lc23).head
          simp only [Act.put, List.setIfInBounds_toArray, List.set_cons_succ, List.set_cons_zero]
          apply kneU false uS eqgS
          · rfl
          · rfl
          · rfl
          · exact (by rw [ER2.out]; rfl)
          simp only [Act.put, List.setIfInBounds_toArray, List.set_cons_succ, List.set_cons_zero]
          apply wpK_val
          · rfl
          · intro w' hw'
            go_simp
            first | exact rfl | exact ⟨rfl, hw'⟩
          simp only [Act.put, List.setIfInBounds_toArray, List.set_cons_succ, List.set_cons_zero]
          apply wpK_val
          · rfl
          · intro w' hw'
            go_simp
            first | exact rfl | exact ⟨rfl, hw'⟩
          simp only [Act.put, List.setIfInBounds_toArray, List.set_cons_succ, List.set_cons_zero]
          apply wpK_val
          · rfl
          · intro w' hw'
            go_simp
            first | exact rfl | exact ⟨rfl, hw'⟩
          simp only [Act.put, List.setIfInBounds_toArray, List.set_cons_succ, List.set_cons_zero]
          apply wpK_val
          · rfl
          · intro w' hw'
            go_simp
            first | exact rfl | exact ⟨rfl, hw'⟩
          simp only [Act.put, List.setIfInBounds_toArray, List.set_cons_succ, List.set_cons_zero]
          apply wpK_val
          · rfl
          · intro w' hw'
            have ee : ((ndE s y.c : Int) != (ndE s y.c : Int)) = false := by simp
            go_simp
            first | exact rfl | exact ⟨rfl, hw'⟩
          simp only [Act.put, List.setIfInBounds_toArray, List.set_cons_succ, List.set_cons_zero]
          apply wpK_val
          · rfl
          · intro w' hw'
            go_simp
            first | exact rfl | exact ⟨rfl, hw'⟩
          simp only [Act.put, List.setIfInBounds_toArray, List.set_cons_succ, List.set_cons_zero]
          apply wpK_val
          · rfl
          · intro w' hw'
            go_simp
            first | exact rfl | exact ⟨rfl, hw'⟩
          simp only [Act.put, List.setIfInBounds_toArray, List.set_cons_succ, List.set_cons_zero]
          apply wpK_val
          · rfl
          · intro w' hw'
            go_simp
            first | exact rfl | exact ⟨rfl, hw'⟩
          simp only [Act.put, List.setIfInBounds_toArray, List.set_cons_succ, List.set_cons_zero]
          apply wpK_val
          · rfl
          · intro w' hw'
            go_simp
            first | exact rfl | exact ⟨rfl, hw'⟩
          simp only [Act.put, List.setIfInBounds_toArray, List.set_cons_succ, List.set_cons_zero]
          apply wpK_val
          · rfl
          · intro w' hw'
            go_simp
            exact (SM.out w' hw').mono fun e w5 h => ⟨h.1, hw'.trans (h.2.mono hw'.size)⟩
          simp only [Act.put, List.setIfInBounds_toArray, List.set_cons_succ, List.set_cons_zero]
          apply wpK_val
          · rfl
          · intro w' hw'
            go_simp
            first | exact rfl | exact ⟨rfl, hw'⟩
          simp only [Act.put, List.setIfInBounds_toArray, List.set_cons_succ, List.set_cons_zero]
          apply wpK_val
          · rfl
          · intro w' hw'
            go_simp
            first | exact rfl | exact ⟨rfl, hw'⟩
          simp only [Act.put, List.setIfInBounds_toArray, List.set_cons_succ, List.set_cons_zero]
          apply wpK_val
          · rfl
          · intro w' hw'
            go_simp
            first | exact rfl | exact ⟨rfl, hw'⟩
          simp only [Act.put, List.setIfInBounds_toArray, List.set_cons_succ, List.set_cons_zero]
          apply wpK_val
          · rfl
          · intro w' hw'
            go_simp
            first | exact rfl | exact ⟨rfl, hw'⟩
          simp only [Act.put, List.setIfInBounds_toArray, List.set_cons_succ, List.set_cons_zero]
          apply wpK_val
          · rfl
          · intro w' hw'
            go_simp
            first | exact rfl | exact ⟨rfl, hw'⟩
          simp only [Act.put, List.setIfInBounds_toArray, List.set_cons_succ, List.set_cons_zero]
          apply wpK_val
          · rfl
          · intro w' hw'
            have ee : ((lfE s y.c : Int) != (lfE s y.c : Int)) = false := by simp
            go_simp
            first | exact rfl | exact ⟨rfl, hw'⟩
          simp only [Act.put, List.setIfInBounds_toArray, List.set_cons_succ, List.set_cons_zero]
          apply wpK_val
          · rfl
          · intro w' hw'
            go_simp
            first | exact rfl | exact ⟨rfl, hw'⟩
          simp only [Act.put, List.setIfInBounds_toArray, List.set_cons_succ, List.set_cons_zero]
          apply wpK_val
          · rfl
          · intro w' hw'
            go_simp
            first | exact rfl | exact ⟨rfl, hw'⟩
          simp only [Act.put, List.setIfInBounds_toArray, List.set_cons_succ, List.set_cons_zero]
          apply wpK_val
          · rfl
          · intro w' hw'
            go_simp
            first | exact rfl | exact ⟨rfl, hw'⟩
          simp only [Act.put, List.setIfInBounds_toArray, List.set_cons_succ, List.set_cons_zero]
          apply wpK_val
          · rfl
          · intro w' hw'
            go_simp
            exact (TP.out w' hw').mono fun e w5 h => ⟨h.1, hw'.trans (h.2.mono hw'.size)⟩
          simp only [Act.put, List.setIfInBounds_toArray, List.set_cons_succ, List.set_cons_zero]
          apply kldA tT
          · rfl
          · rfl
          · exact fun w' hw' => (c29.out.below hw' lc29).head
          simp only [Act.put, List.setIfInBounds_toArray, List.set_cons_succ, List.set_cons_zero]
          apply kneU false uT eqgT
          · rfl
          · rfl
          · rfl
          · exact (by rw [ER3.out]; rfl)
          simp only [Act.put, List.setIfInBounds_toArray, List.set_cons_succ, List.set_cons_zero]
          apply wpK_val
          · rfl
          · intro w' hw'
            go_simp
            first | exact rfl | exact ⟨rfl, hw'⟩
          simp only [Act.put, List.setIfInBounds_toArray, List.set_cons_succ, List.set_cons_zero]
          refine wpK_nil fun w9 h9 => ?_
          have PE := hid (P.out.below C.out h9)
          clear h9 P L25 L27 SM TP c17 c19 c21 c23 c29
          go_wp2_with fail
          go_roundw
          case rel => exact ⟨i + 1, s, M, by go_num, by omega, hid PE.out.a, hid PE.out.r, hid (fun b hb => ⟨(PE.out.m b hb).1, (PE.out.m b hb).2.1, (PE.out.m b hb).2.2.1⟩), hid PE.out.h⟩
          case measure => simp [intOf] <;> omega
      · have BE := hid HB.out
        clear Ra0 Rb0 MM HB
        by_cases hln : i < ln
        · have t1 : (i : Int) < ln := by omega
          have t2 : ¬ (i : Int) < 20 := by omega
          have t3 : decide ((i : Int) < ln) = true := decide_eq_true t1
          have t4 : decide ((i : Int) < 20) = false := decide_eq_false t2
          go_wp2_with fail
          refine (WE.out wr BE.out).mono ?_
          rintro e w9 ⟨rfl, h9⟩
          have db := hid (hb.out.trans ((BE.out.trans (h9.mono BE.out.size)).mono hb.out.size))
          clear h9
          go_wp2_with fail
          go_ret
          exact ⟨rfl, db.out⟩
        · have t1 : ¬ (i : Int) < ln := by omega
          have t3 : decide ((i : Int) < ln) = false := decide_eq_false t1
          go_wp2_with fail
          refine (WE.out wr BE.out).mono ?_
          rintro e w9 ⟨rfl, h9⟩
          have db := hid (hb.out.trans ((BE.out.trans (h9.mono BE.out.size)).mono hb.out.size))
          clear h9
          go_wp2_with fail
          go_ret
          exact ⟨rfl, db.out⟩
end TrM
end Go.Proofs.YtdmnhpgafbcehaaDoor
