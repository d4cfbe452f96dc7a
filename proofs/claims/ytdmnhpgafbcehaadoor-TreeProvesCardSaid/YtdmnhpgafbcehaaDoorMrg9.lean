/-
  Trees: Path and Check of whatever arguments, the document's and the program's; lists of ints in drawn regions; what comes in.
  Trees: claims (leaf, its tag, a proof, a top) as they come in; TreeChecks over TreeC and TreeD.
  TreeChecks, over TreeC and TreeD.
  Slices of bytes that come in.
  Slices of structs of k cells that come in.
  A list of elements that came in, as Sli.
  Trees: settings (a height, tags) and acts as they come in.
  Trees in plain numbers: what one leaf turns.
  Trees: New of whatever comes in, in drawn regions.
-/
import Derived.Test.YtdmnhpgafbcehaaDoorMrg8
import Derived.ChangeSlices
import Derived.Deep.Strs
set_option linter.unusedVariables false
set_option linter.unusedSimpArgs false
set_option maxRecDepth 100000
namespace Go.Proofs.YtdmnhpgafbcehaaDoor
open Go.ChangeShapes Go.WideShapes Go.ChangeAt Go.RowKit Go.Deep
attribute [local go_sem] Gives GivesE
namespace TrM
open TgP RwP
/-- What Path tells. -/
def plist (h leaf : Int) : List Nat := if pathOk h leaf then pthL h.toNat leaf.toNat else []
theorem plist_yes {h leaf : Nat} (hh : okH h) (hl : leaf < 2 ^ h) : plist h leaf = pthL h leaf := by
  unfold plist
  rw [if_pos ⟨hh, by omega, by rw [Int.toNat_natCast]; omega⟩, Int.toNat_natCast, Int.toNat_natCast]
theorem plist_no {h leaf : Int} (hn : ¬ pathOk h leaf) : plist h leaf = [] := by unfold plist; rw [if_neg hn]
theorem plist_len (h leaf : Int) : (plist h leaf).length ≤ 12 := by
  unfold plist
  split
  · rename_i h1
    rw [pthL_length]
    have := h1.1.2
    omega
  · simp
theorem path_cases (h leaf : Int) : (∃ a b : Nat, h = a ∧ leaf = b ∧ okH h ∧ b < 2 ^ a) ∨ ¬ pathOk h leaf := by
  by_cases hp : pathOk h leaf
  · left
    have h1 := hp.1.1
    refine ⟨h.toNat, leaf.toNat, by omega, by have := hp.2.1; omega, hp.1, ?_⟩
    have := hp.2.2
    have := hp.2.1
    omega
  · exact .inr hp
theorem rpath_all (h leaf : Int) (w : World) : Calls Tryd.prog 26 #[.int .i64 h, .int .i64 leaf] w fun e w' => ∃ v, e = .returned v ∧ OwnI w' w.heap.size v (plist h leaf) ∧ Below w.heap.size w w' := by
  rcases path_cases h leaf with ⟨a, b, rfl, rfl, h1, h2⟩ | hn
  · rw [plist_yes h1 h2]
    exact rpath_any a b h1 h2 w
  · rw [plist_no hn]
    refine (rpath_none h leaf hn w).mono ?_
    rintro e w' ⟨rfl, rfl⟩
    exact ⟨_, rfl, OwnI.nil _ _, Below.refl _ _⟩
theorem TreeD.path_all {repT : RepT} (H : TreeD repT) (h leaf : Int) (w : World) : Calls Tryd.prog 25 #[.int .i64 h, .int .i64 leaf] w fun e w' => ∃ v, e = .returned v ∧ OwnI w' w.heap.size v (plist h leaf) ∧ Below w.heap.size w w' := by
  rcases path_cases h leaf with ⟨a, b, rfl, rfl, h1, h2⟩ | hn
  · rw [plist_yes h1 h2]
    exact H.path a b h1 h2 w
  · rw [plist_no hn]
    exact H.pathNo h leaf hn w
theorem rcheck_all (k f top : Nat → Nat) (hk : ∀ i, k i < 256) (leaf : Int) (A : Option Addr) (P : Nat → Nat → Nat) (hP : ∀ i j, P i j < 256) (n cap : Nat) (S : Nat → Prop) (w : World) (hA : SliF 64 S w A n P cap) :
    Calls Tryd.prog 24 #[.agg (ar 32 k), .int .i64 leaf, .agg (ar 32 f), .slice A n cap, .agg (ar 32 top)] w fun e w' => e = .returned (.bool (chk k leaf f n P top)) ∧ Below w.heap.size w w' := by
  rcases path_cases n leaf with ⟨a, b, ha, rfl, h1, h2⟩ | hn
  · obtain rfl : n = a := by omega
    have hp : pathOk (n : Nat) (b : Nat) := ⟨h1, by omega, by rw [Int.toNat_natCast]; omega⟩
    rw [chk_yes hp]
    exact rcheckYes k f top hk b A P hP n cap hp S w hA
  · rw [chk_no hn]
    exact rcheckNo k f top leaf A n cap hn w
/-- A list of ints of one's own, in a drawn region. -/
def spI (l : List Nat) : Sp := ⟨fun v => ∃ (A : Option Addr) (c : Nat), v = .slice A l.length c, fun v w => ∃ (A : Option Addr) (c : Nat), v = .slice A l.length c ∧ OwnI w 0 (.slice A l.length c) l, .slice none l.length 0⟩
theorem spI_ok (l : List Nat) : (spI l).ok := ⟨⟨none, 0, rfl⟩, fun v w1 w2 ⟨A, c, h1, h2⟩ hb => ⟨A, c, h1, h2.below hb (Nat.le_refl _)⟩⟩
theorem spI_of {w : World} {B : Nat} {v : Value} {l : List Nat} (h : OwnI w B v l) : (∃ (A : Option Addr) (c : Nat), v = .slice A l.length c) ∧ ∃ (A : Option Addr) (c : Nat), v = .slice A l.length c ∧ OwnI w 0 (.slice A l.length c) l := by
  obtain ⟨A, c, rfl⟩ := OwnI.len h
  exact ⟨⟨A, c, rfl⟩, A, c, rfl, OwnI.down h (Nat.zero_le _)⟩
/-! ### What comes in -/
theorem cells_k18 : Tryd.prog.cellsOf 23 = 32 := by kernel_rfl
theorem uK18 : Tryd.prog.underlying 23 = some (.array 32 5) := Tryd.underlying23
theorem cells_t18 : Tryd.prog.cellsOf 36 = 32 := by kernel_rfl
theorem cells_s18 : Tryd.prog.cellsOf 50 = 64 := by kernel_rfl
theorem cells_i18 : Tryd.prog.cellsOf 3 = 1 := by kernel_rfl
theorem cells_lt18 : Tryd.prog.cellsOf 24 = 1 := by kernel_rfl
theorem cells_ls18 : Tryd.prog.cellsOf 55 = 1 := by kernel_rfl
section
variable {H : Type} {enc : TypeId × Value → H} {w : World} {base : Nat} {spare : Nat → Bool} {held : Bool}
/-- A list of rows of bytes. -/
theorem trod_rows {L E : TypeId} {K : Nat} (hK : 0 < K) (hu : Tryd.prog.underlying L = some (.slice E)) (hE : Tryd.prog.underlying E = some (.array K 5)) (hc : Tryd.prog.cellsOf E = K) {fuel : Nat} {c : Value} {x : DataW H × List MemPlace} (hf : DataW.trod enc Tryd.prog w base spare held fuel L [c] = some x) :
    ∃ (A : Option Addr) (F : Nat → Nat → Nat) (n cap : Nat), c = .slice A n cap ∧ SliF K (fun b => b < w.heap.size) w A n F cap ∧ ∀ i j, F i j < 256 := by
  rcases open_slice hu hf with ⟨hcs, _⟩ | ⟨a, n, cap, m, fu, D, Plc, hcs, hb, hl, hm, hmm, hx, hi⟩
  · simp only [List.cons.injEq, and_true] at hcs
    exact ⟨none, fun _ _ => 0, 0, 0, hcs, Sli.nil _ _ _ _, fun _ _ => by show 0 < 256; omega⟩
  · simp only [List.cons.injEq, and_true] at hcs
    subst hcs
    have hnm : n ≤ m := by rw [hmm]; split <;> omega
    have one : ∀ i, i < n → ∃ f : Nat → Nat, (∀ j, f j < 256) ∧ ∀ j, j < K → w.cell? (a.add (i * K + j)) = some (.int .u8 (f j : Nat)) := fun i hin => by
      obtain ⟨cs', hc', ht⟩ := hi i (by omega)
      have h3 := World.cells?_some hc'
      rw [hc] at h3
      obtain ⟨f, h1, h2⟩ := trod_ar hE hc ht
      refine ⟨f, h1, fun j hj => ?_⟩
      have h6 := h3.2.2 j hj
      rw [Go.Deep.add_add, h2, Array.getElem?_toList, get_ar hj] at h6
      exact h6
    obtain ⟨F, hF⟩ := choose_lt one
    refine ⟨some a, fun i => if i < n then F i else fun _ => 0, n, cap, rfl, ⟨lsF_len _ _, hl, hm, (fun h => by cases h), fun hn => ?_⟩, fun i j => ?_⟩
    · rw [lsF_len] at hn
      have h00 := (hF 0 hn).2 0 hK
      have hsp : a.spot = none := by
        simp only [Nat.zero_mul, Nat.zero_add, Addr.add, if_true] at h00
        unfold World.cell? at h00
        split at h00
        · cases hs : a.spot with
          | none => rfl
          | some s => simp [hs] at h00
        · cases h00
      have hblk : a.block < w.heap.size := by
        have := World.block_lt_of_cell? w _ h00
        simpa [Addr.add] using this
      obtain ⟨b, o, sp⟩ := a
      subst hsp
      refine ⟨b, o, rfl, hblk, hblk, fun i x hi2 j u hj => ?_⟩
      obtain ⟨hin, rfl⟩ := lsF_some hi2
      rw [if_pos hin] at hj
      obtain ⟨hjK, rfl⟩ := ar_list_get hj
      have := (hF i hin).2 j hjK
      rw [Addr.add_mid] at this
      rwa [show o + (i * K + j) = o + i * K + j by omega] at this
    · show (if i < n then F i else fun _ => 0) j < 256
      split
      · rename_i h; exact (hF i h).1 j
      · show 0 < 256; omega
end
theorem SliF.cut {K : Nat} {S : Nat → Prop} {w : World} {A : Option Addr} {n cap m : Nat} {F : Nat → Nat → Nat} (h : SliF K S w A n F cap) (hm : m ≤ n) : SliF K S w A m F cap :=
  ⟨lsF_len _ _, by have := h.cap; omega, h.max, fun e => by obtain ⟨h1, h2⟩ := h.none e; exact ⟨by omega, h2⟩, fun hn => by
    rw [lsF_len] at hn
    obtain ⟨b, o, e, h1, h2, h3⟩ := h.lst (by rw [lsF_len]; omega)
    exact ⟨b, o, e, h1, h2, fun i x hx => by
      obtain ⟨hi, rfl⟩ := lsF_some hx
      exact h3 i _ (lsF_get (by omega))⟩⟩
end TrM
end Go.Proofs.YtdmnhpgafbcehaaDoor
set_option maxRecDepth 100000
namespace Go.Proofs.YtdmnhpgafbcehaaDoor
open Go.ChangeShapes Go.WideShapes Go.ChangeAt Go.RowKit Go.Deep
attribute [local go_sem] Gives GivesE
namespace TrM
open TgP RwP
/-- A claim in memory: 66 cells. -/
def cmF (leaf : Int) (f : Nat → Nat) (v : Value) (top : Nat → Nat) (j : Nat) : Value :=
  if j = 0 then .int .i64 leaf else if j < 33 then .int .u8 (f (j - 1) : Nat) else if j = 33 then v else .int .u8 (top (j - 34) : Nat)
def cm (leaf : Int) (f : Nat → Nat) (v : Value) (top : Nat → Nat) : Array Value := row 66 (cmF leaf f v top)
section
variable {w : World} {g : Nat} {leaf : Int} {f top : Nat → Nat} {v : Value} {t : TypeId}
theorem cm_0 (h : Blk w g t (cm leaf f v top)) : w.cell? ⟨g, 0, none⟩ = some (.int .i64 leaf) := by
  rw [h.cell]; unfold cm; rw [get_row_lt (by omega)]; rfl
theorem cm_33 (h : Blk w g t (cm leaf f v top)) : w.cell? ⟨g, 33, none⟩ = some v := by
  rw [h.cell]; unfold cm; rw [get_row_lt (by omega)]; rfl
theorem cm_tag (h : Blk w g t (cm leaf f v top)) : w.rangeAt g 1 (ar 32 f).toList := fun j u hu => by
  obtain ⟨hj, rfl⟩ := ar_list_get hu
  rw [h.cell]
  unfold cm
  rw [get_row_lt (by omega)]
  unfold cmF
  rw [if_neg (by omega), if_pos (by omega), show 1 + j - 1 = j by omega]
theorem cm_top (h : Blk w g t (cm leaf f v top)) : w.rangeAt g 34 (ar 32 top).toList := fun j u hu => by
  obtain ⟨hj, rfl⟩ := ar_list_get hu
  rw [h.cell]
  unfold cm
  rw [get_row_lt (by omega)]
  unfold cmF
  rw [if_neg (by omega), if_neg (by omega), if_neg (by omega), show 34 + j - 34 = j by omega]
end
theorem cells_cm : Tryd.prog.cellsOf 64 = 66 := by kernel_rfl
theorem cm_one {l : List Value} {o : Nat} {v : Value} (h : (l.drop o).take 1 = [v]) : l[o]? = some v := by
  have h1 : ((l.drop o).take 1)[0]? = some v := by rw [h]; rfl
  rwa [List.getElem?_take_of_lt (by omega), List.getElem?_drop] at h1
theorem cm_ar {l : List Value} {o m j : Nat} {f : Nat → Nat} (h : (l.drop o).take m = (ar m f).toList) (hj : j < m) : l[o + j]? = some (.int .u8 (f j : Nat)) := by
  have h1 : ((l.drop o).take m)[j]? = some (.int .u8 (f j : Nat)) := by rw [h, Array.getElem?_toList, get_ar hj]
  rwa [List.getElem?_take_of_lt hj, List.getElem?_drop] at h1
theorem cm_i64 {a : Int} (h : (Lit.int .i64 a).wf = true) : -9223372036854775808 ≤ a ∧ a ≤ 9223372036854775807 := by
  simp [Lit.wf, IntKind.min, IntKind.max, IntKind.bits, IntKind.signed] at h
  exact ⟨by omega, by omega⟩
section
variable {H : Type} {enc : TypeId × Value → H} {w : World} {base : Nat} {spare : Nat → Bool} {held : Bool}
set_option maxRecDepth 100000 in
theorem open_claim {r : Reach} {b0 : Nat} {v : Value} {d : DataW H} {p : List MemPlace} (hv : Value.okWide Tryd.prog w r b0 64 v) (h : DataW.Trod enc Tryd.prog w base spare held 64 v d p) :
    ∃ (leaf : Int) (f top : Nat → Nat) (A : Option Addr) (P : Nat → Nat → Nat) (n cap : Nat), v = .agg (cm leaf f (.slice A n cap) top) ∧ (-9223372036854775808 ≤ leaf ∧ leaf ≤ 9223372036854775807) ∧ (∀ i, f i < 256) ∧ (∀ i, top i < 256) ∧ (∀ i j, P i j < 256) ∧ SliF 64 (fun b => b < w.heap.size) w A n P cap := by
  obtain ⟨cs, rfl, hsz⟩ := okWide_struct Tryd.underlying64 hv
  rw [cells_cm] at hsz
  obtain ⟨fuel, hf0⟩ := h
  obtain ⟨xs, n, _, _, hl, hlen, hf⟩ := DataW.trod_struct Tryd.underlying64 hf0
  match xs, hlen with
  | [y0, y1, y2, y3], _ =>
    have h0 : DataW.trod enc Tryd.prog w base spare held n 3 ((cs.toList.drop 0).take (Tryd.prog.cellsOf 3)) = some y0 := hf 0 _ rfl
    have h1 : DataW.trod enc Tryd.prog w base spare held n 36 ((cs.toList.drop 1).take (Tryd.prog.cellsOf 36)) = some y1 := hf 1 _ rfl
    have h2 : DataW.trod enc Tryd.prog w base spare held n 55 ((cs.toList.drop 33).take (Tryd.prog.cellsOf 55)) = some y2 := hf 2 _ rfl
    have h3 : DataW.trod enc Tryd.prog w base spare held n 36 ((cs.toList.drop 34).take (Tryd.prog.cellsOf 36)) = some y3 := hf 3 _ rfl
    rw [cells_i18] at h0
    rw [cells_t18] at h1
    rw [cells_ls18] at h2
    rw [cells_t18] at h3
    obtain ⟨a0, e0, _, w0⟩ := DataW.trod_int Tryd.underlying3 h0
    obtain ⟨f, hf5, e1⟩ := trod_ar uT cells_t18 h1
    obtain ⟨f3, hf6, e3⟩ := trod_ar uT cells_t18 h3
    have hm2 : cs.toList[33]? = some cs[33] := by rw [Array.getElem?_toList]; exact Array.getElem?_eq_getElem _
    have e2' : (cs.toList.drop 33).take 1 = [cs[33]] := by
      apply List.ext_getElem?
      intro i
      rw [List.getElem?_take]
      by_cases hi : i < 1
      · obtain rfl : i = 0 := by omega
        rw [if_pos hi, List.getElem?_drop, hm2]; rfl
      · rw [if_neg hi, List.getElem?_eq_none (by simp; omega)]
    rw [e2'] at h2
    obtain ⟨A, P, m, cap, e2, hsl, hP⟩ := trod_rows (K := 64) (by omega) Tryd.underlying55 uS cells_s18 h2
    refine ⟨a0, f, f3, A, P, m, cap, ?_, cm_i64 w0, hf5, hf6, hP, hsl⟩
    have e : cs = cm a0 f (.slice A m cap) f3 := by
      apply Array.ext_getElem?
      intro j
      have r0 := cm_one e0
      by_cases hj : j < 66
      · unfold cm
        rw [get_row_lt hj, ← Array.getElem?_toList]
        unfold cmF
        by_cases c0 : j = 0
        · rw [if_pos c0, c0]; exact r0
        rw [if_neg c0]
        by_cases c1 : j < 33
        · rw [if_pos c1]
          have := cm_ar e1 (show j - 1 < 32 by omega)
          rwa [show 1 + (j - 1) = j by omega] at this
        rw [if_neg c1]
        by_cases c2 : j = 33
        · rw [if_pos c2, c2, hm2, e2]
        · rw [if_neg c2]
          have := cm_ar e3 (show j - 34 < 32 by omega)
          rwa [show 34 + (j - 34) = j by omega] at this
      · rw [Array.getElem?_eq_none (by omega), Array.getElem?_eq_none (by unfold cm; rw [size_row]; omega)]
    rw [e]
end
end TrM
end Go.Proofs.YtdmnhpgafbcehaaDoor
set_option maxRecDepth 100000
namespace Go.Proofs.YtdmnhpgafbcehaaDoor
open Go.ChangeShapes Go.WideShapes Go.ChangeAt Go.RowKit Go.Deep
attribute [local go_sem] Gives GivesE
namespace TrM
open TgP RwP
set_option maxHeartbeats 1600000 in
set_option maxRecDepth 100000 in
theorem checks_law {repT : RepT} (HC : TreeC repT) (HD : TreeD repT) (k : Nat → Nat) (hk : ∀ i, k i < 256) (leaf : Int) (f top : Nat → Nat) (A : Option Addr) (P : Nat → Nat → Nat) (hP : ∀ i j, P i j < 256) (n cap : Nat) (x : Int) (w : World) (hA : SliF 64 (fun b => b < w.heap.size) w A n P cap) (hS : Salts w) :
    Calls Tryd.prog 4 #[.agg (ar 32 k), .agg (cm leaf f (.slice A n cap) top), .int .i64 x] w fun e w' => e = .returned (.bool true) ∧ Below w.heap.size w w' := by
  have C := hid HC
  have D := hid HD
  have K := hid hk
  have PP := hid hP
  have AA := hid hA
  have SA := hid hS
  have hmax := hA.max
  have hcap := hA.cap
  clear HC HD hk hP hA hS
  go_enter Tryd.func4, Tryd.ntmps4
  go_upto_region 1 with fail
  generalize hw1 : World.alloc (World.alloc w _) _ = w1
  have B1 := hid (show Blk w1 w.heap.size 23 (ar 32 k) by rw [← hw1]; exact (Blk.new _ _ _).alloc _)
  try rw [show (w.alloc (.cells (ar 32 k) 23)).heap.size = w.heap.size + 1 by simp]
  have B2 := hid (show Blk w1 (w.heap.size + 1) 64 (cm leaf f (.slice A n cap) top) by rw [← hw1]; exact Blk.top rfl (by simp))
  have hb := hid (show Below w.heap.size w w1 by rw [← hw1]; exact ((Below.refl _ _).alloc (Nat.le_refl _) _).alloc (by simp) _)
  have A1 := hid (AA.out.turn (Turn.of_new (S := fun _ => False) hb.out) fun _ _ _ h => h)
  have S1 := hid (SA.out.on hb.out)
  clear hw1 AA SA
  have c0 := cm_33 B2.out
  go_upto_region 2 with fail
  have hz : (if (20 : Int) < (n : Int) then (20 : Int) else (n : Int)).toNat ≤ n := by split <;> omega
  generalize (if (20 : Int) < (n : Int) then (20 : Int) else (n : Int)) = z at hz ⊢
  obtain ⟨m, hm⟩ : ∃ m, m = z.toNat := ⟨_, rfl⟩
  rw [← hm] at hz ⊢
  have hmn := hz
  have A2 := hid (SliF.cut A1.out hmn)
  clear A1 hm hmn hz c0 hcap
  have CE := hid (fun (w2 : World) (h : Below w1.heap.size w1 w2) => C.out.check k f top K.out leaf A P PP.out m cap _ w2 (A2.out.turn (Turn.of_new (S := fun _ => False) h) fun _ _ _ h => h) (S1.out.on h))
  have RE := hid (fun (w2 : World) (h : Below w1.heap.size w1 w2) => rcheck_all k f top K.out leaf A P PP.out m cap _ w2 (A2.out.turn (Turn.of_new (S := fun _ => False) h) fun _ _ _ h => h))
  have PE := hid (fun w2 => D.out.path_all x leaf w2)
  have QE := hid (fun w2 => rpath_all x leaf w2)
  have PL := hid (plist_len x leaf)
  have WE := hid (fun (w2 : World) (h : Below w1.heap.size w1 w2) => works_any C.out w2 (S1.out.on h))
  generalize chk k leaf f m P top = q at CE RE
  generalize plist x leaf = l at PE QE PL
  clear C D K PP A2 S1
  refine wp_region_y [some (.agg (ar 32 k)), some (.pointer (some ⟨w.heap.size + 1, 0, none⟩)), some (.int .i64 leaf), some (.pointer (some ⟨w.heap.size + 1, 1, none⟩)), some (.agg (ar 32 f)), some (.slice A m cap), some (.pointer (some ⟨w.heap.size + 1, 34, none⟩)), some (.agg (ar 32 top)), some (.bool q),
      some (.agg (ar 32 k)), some (.pointer (some ⟨w.heap.size + 1, 0, none⟩)), some (.int .i64 leaf), some (.pointer (some ⟨w.heap.size + 1, 1, none⟩)), some (.agg (ar 32 f)), some (.slice A m cap), some (.pointer (some ⟨w.heap.size + 1, 34, none⟩)), some (.agg (ar 32 top)), some (.bool q),
      some (.bool true), some (.bool true), some (.int .i64 x), some (.pointer (some ⟨w.heap.size + 1, 0, none⟩)), some (.int .i64 leaf), none, some (.int .i64 x), some (.pointer (some ⟨w.heap.size + 1, 0, none⟩)), some (.int .i64 leaf), none, some (.bool true), some (.bool true), some (.bool true), some (.bool true), some (.bool true)]
    [(23, spI l), (27, spI l)] (fun y hy => by simp only [List.mem_cons, List.not_mem_nil, or_false] at hy; rcases hy with rfl | rfl <;> exact spI_ok _) 33 (by kernel_rfl) (by kernel_rfl) (by kernel_rfl) fun vs => ?_
  simp only [List.take_succ_cons, List.take_zero, List.drop_succ_cons, List.drop_zero]
  refine ⟨.inl ⟨rfl, fun dd w' hd hC hDs => ?_⟩, fun e => ?_⟩
  · exact gE_ldA tK rfl ((B1.out.below hC B1.out.lt).head) ⟨rfl, hC, Below.refl _ _, trivial⟩
  have e' : vs 0 = _ := e
  rw [e']
  clear e e'
  simp only [Act.put, List.setIfInBounds_toArray, List.set_cons_succ, List.set_cons_zero]
  refine ⟨.inl ⟨rfl, fun dd w' hd hC hDs => ?_⟩, fun e => ?_⟩
  · go_simp
    first | exact ⟨rfl, hC, Below.refl _ _, trivial⟩ | exact ⟨rfl, Below.refl _ _, trivial⟩ | exact ⟨hC, Below.refl _ _, trivial⟩
  have e' : vs 1 = _ := e
  rw [e']
  clear e e'
  simp only [Act.put, List.setIfInBounds_toArray, List.set_cons_succ, List.set_cons_zero]
  refine ⟨.inl ⟨rfl, fun dd w' hd hC hDs => ?_⟩, fun e => ?_⟩
  · have h1 : w'.cell? ⟨w.heap.size + 1, 0, none⟩ = some (.int .i64 leaf) := cm_0 (B2.out.below hC B2.out.lt)
    go_simp
    first | exact ⟨rfl, hC, Below.refl _ _, trivial⟩ | exact ⟨rfl, Below.refl _ _, trivial⟩ | exact ⟨hC, Below.refl _ _, trivial⟩
  have e' : vs 2 = _ := e
  rw [e']
  clear e e'
  simp only [Act.put, List.setIfInBounds_toArray, List.set_cons_succ, List.set_cons_zero]
  refine ⟨.inl ⟨rfl, fun dd w' hd hC hDs => ?_⟩, fun e => ?_⟩
  · go_simp
    first | exact ⟨rfl, hC, Below.refl _ _, trivial⟩ | exact ⟨rfl, Below.refl _ _, trivial⟩ | exact ⟨hC, Below.refl _ _, trivial⟩
  have e' : vs 3 = _ := e
  rw [e']
  clear e e'
  simp only [Act.put, List.setIfInBounds_toArray, List.set_cons_succ, List.set_cons_zero]
  refine ⟨.inl ⟨rfl, fun dd w' hd hC hDs => ?_⟩, fun e => ?_⟩
  · exact gE_ldA tT rfl (cm_tag (B2.out.below hC B2.out.lt)) ⟨rfl, hC, Below.refl _ _, trivial⟩
  have e' : vs 4 = _ := e
  rw [e']
  clear e e'
  simp only [Act.put, List.setIfInBounds_toArray, List.set_cons_succ, List.set_cons_zero]
  refine ⟨.inl ⟨rfl, fun dd w' hd hC hDs => ?_⟩, fun e => ?_⟩
  · go_simp
    first | exact ⟨rfl, hC, Below.refl _ _, trivial⟩ | exact ⟨rfl, Below.refl _ _, trivial⟩ | exact ⟨hC, Below.refl _ _, trivial⟩
  have e' : vs 5 = _ := e
  rw [e']
  clear e e'
  simp only [Act.put, List.setIfInBounds_toArray, List.set_cons_succ, List.set_cons_zero]
  refine ⟨.inl ⟨rfl, fun dd w' hd hC hDs => ?_⟩, fun e => ?_⟩
  · go_simp
    first | exact ⟨rfl, hC, Below.refl _ _, trivial⟩ | exact ⟨rfl, Below.refl _ _, trivial⟩ | exact ⟨hC, Below.refl _ _, trivial⟩
  have e' : vs 6 = _ := e
  rw [e']
  clear e e'
  simp only [Act.put, List.setIfInBounds_toArray, List.set_cons_succ, List.set_cons_zero]
  refine ⟨.inl ⟨rfl, fun dd w' hd hC hDs => ?_⟩, fun e => ?_⟩
  · exact gE_ldA tT rfl (cm_top (B2.out.below hC B2.out.lt)) ⟨rfl, hC, Below.refl _ _, trivial⟩
  have e' : vs 7 = _ := e
  rw [e']
  clear e e'
  simp only [Act.put, List.setIfInBounds_toArray, List.set_cons_succ, List.set_cons_zero]
  refine ⟨.inl ⟨rfl, fun dd w' hd hC hDs => ?_⟩, fun e => ?_⟩
  · go_simp
    refine (CE.out w' hC).mono ?_
    rintro e w2 ⟨rfl, h2⟩
    exact ⟨_, rfl, rfl, hC.trans (h2.mono hC.size), h2, trivial⟩
  have e' : vs 8 = _ := e
  rw [e']
  clear e e'
  simp only [Act.put, List.setIfInBounds_toArray, List.set_cons_succ, List.set_cons_zero]
  refine ⟨.inl ⟨rfl, fun dd w' hd hC hDs => ?_⟩, fun e => ?_⟩
  · exact gE_ldA tK rfl ((B1.out.below hC B1.out.lt).head) ⟨rfl, hC, Below.refl _ _, trivial⟩
  have e' : vs 9 = _ := e
  rw [e']
  clear e e'
  simp only [Act.put, List.setIfInBounds_toArray, List.set_cons_succ, List.set_cons_zero]
  refine ⟨.inl ⟨rfl, fun dd w' hd hC hDs => ?_⟩, fun e => ?_⟩
  · go_simp
    first | exact ⟨rfl, hC, Below.refl _ _, trivial⟩ | exact ⟨rfl, Below.refl _ _, trivial⟩ | exact ⟨hC, Below.refl _ _, trivial⟩
  have e' : vs 10 = _ := e
  rw [e']
  clear e e'
  simp only [Act.put, List.setIfInBounds_toArray, List.set_cons_succ, List.set_cons_zero]
  refine ⟨.inl ⟨rfl, fun dd w' hd hC hDs => ?_⟩, fun e => ?_⟩
  · have h1 : w'.cell? ⟨w.heap.size + 1, 0, none⟩ = some (.int .i64 leaf) := cm_0 (B2.out.below hC B2.out.lt)
    go_simp
    first | exact ⟨rfl, hC, Below.refl _ _, trivial⟩ | exact ⟨rfl, Below.refl _ _, trivial⟩ | exact ⟨hC, Below.refl _ _, trivial⟩
  have e' : vs 11 = _ := e
  rw [e']
  clear e e'
  simp only [Act.put, List.setIfInBounds_toArray, List.set_cons_succ, List.set_cons_zero]
  refine ⟨.inl ⟨rfl, fun dd w' hd hC hDs => ?_⟩, fun e => ?_⟩
  · go_simp
    first | exact ⟨rfl, hC, Below.refl _ _, trivial⟩ | exact ⟨rfl, Below.refl _ _, trivial⟩ | exact ⟨hC, Below.refl _ _, trivial⟩
  have e' : vs 12 = _ := e
  rw [e']
  clear e e'
  simp only [Act.put, List.setIfInBounds_toArray, List.set_cons_succ, List.set_cons_zero]
  refine ⟨.inl ⟨rfl, fun dd w' hd hC hDs => ?_⟩, fun e => ?_⟩
  · exact gE_ldA tT rfl (cm_tag (B2.out.below hC B2.out.lt)) ⟨rfl, hC, Below.refl _ _, trivial⟩
  have e' : vs 13 = _ := e
  rw [e']
  clear e e'
  simp only [Act.put, List.setIfInBounds_toArray, List.set_cons_succ, List.set_cons_zero]
  refine ⟨.inl ⟨rfl, fun dd w' hd hC hDs => ?_⟩, fun e => ?_⟩
  · go_simp
    first | exact ⟨rfl, hC, Below.refl _ _, trivial⟩ | exact ⟨rfl, Below.refl _ _, trivial⟩ | exact ⟨hC, Below.refl _ _, trivial⟩
  have e' : vs 14 = _ := e
  rw [e']
  clear e e'
  simp only [Act.put, List.setIfInBounds_toArray, List.set_cons_succ, List.set_cons_zero]
  refine ⟨.inl ⟨rfl, fun dd w' hd hC hDs => ?_⟩, fun e => ?_⟩
  · go_simp
    first | exact ⟨rfl, hC, Below.refl _ _, trivial⟩ | exact ⟨rfl, Below.refl _ _, trivial⟩ | exact ⟨hC, Below.refl _ _, trivial⟩
  have e' : vs 15 = _ := e
  rw [e']
  clear e e'
  simp only [Act.put, List.setIfInBounds_toArray, List.set_cons_succ, List.set_cons_zero]
  refine ⟨.inl ⟨rfl, fun dd w' hd hC hDs => ?_⟩, fun e => ?_⟩
  · exact gE_ldA tT rfl (cm_top (B2.out.below hC B2.out.lt)) ⟨rfl, hC, Below.refl _ _, trivial⟩
  have e' : vs 16 = _ := e
  rw [e']
  clear e e'
  simp only [Act.put, List.setIfInBounds_toArray, List.set_cons_succ, List.set_cons_zero]
  refine ⟨.inl ⟨rfl, fun dd w' hd hC hDs => ?_⟩, fun e => ?_⟩
  · go_simp
    refine (RE.out w' hC).mono ?_
    rintro e w2 ⟨rfl, h2⟩
    exact ⟨_, rfl, rfl, hC.trans (h2.mono hC.size), h2, trivial⟩
  have e' : vs 17 = _ := e
  rw [e']
  clear e e'
  simp only [Act.put, List.setIfInBounds_toArray, List.set_cons_succ, List.set_cons_zero]
  refine ⟨.inl ⟨rfl, fun dd w' hd hC hDs => ?_⟩, fun e => ?_⟩
  · have h1 : (q == q) = true := by simp
    go_simp
    first | exact ⟨rfl, hC, Below.refl _ _, trivial⟩ | exact ⟨rfl, Below.refl _ _, trivial⟩ | exact ⟨hC, Below.refl _ _, trivial⟩
  have e' : vs 18 = _ := e
  rw [e']
  clear e e'
  simp only [Act.put, List.setIfInBounds_toArray, List.set_cons_succ, List.set_cons_zero]
  refine ⟨.inl ⟨rfl, fun dd w' hd hC hDs => ?_⟩, fun e => ?_⟩
  · go_simp
    first | exact ⟨rfl, hC, Below.refl _ _, trivial⟩ | exact ⟨rfl, Below.refl _ _, trivial⟩ | exact ⟨hC, Below.refl _ _, trivial⟩
  have e' : vs 19 = _ := e
  rw [e']
  clear e e'
  simp only [Act.put, List.setIfInBounds_toArray, List.set_cons_succ, List.set_cons_zero]
  refine ⟨.inl ⟨rfl, fun dd w' hd hC hDs => ?_⟩, fun e => ?_⟩
  · go_simp
    first | exact ⟨rfl, hC, Below.refl _ _, trivial⟩ | exact ⟨rfl, Below.refl _ _, trivial⟩ | exact ⟨hC, Below.refl _ _, trivial⟩
  have e' : vs 20 = _ := e
  rw [e']
  clear e e'
  simp only [Act.put, List.setIfInBounds_toArray, List.set_cons_succ, List.set_cons_zero]
  refine ⟨.inl ⟨rfl, fun dd w' hd hC hDs => ?_⟩, fun e => ?_⟩
  · go_simp
    first | exact ⟨rfl, hC, Below.refl _ _, trivial⟩ | exact ⟨rfl, Below.refl _ _, trivial⟩ | exact ⟨hC, Below.refl _ _, trivial⟩
  have e' : vs 21 = _ := e
  rw [e']
  clear e e'
  simp only [Act.put, List.setIfInBounds_toArray, List.set_cons_succ, List.set_cons_zero]
  refine ⟨.inl ⟨rfl, fun dd w' hd hC hDs => ?_⟩, fun e => ?_⟩
  · have h1 : w'.cell? ⟨w.heap.size + 1, 0, none⟩ = some (.int .i64 leaf) := cm_0 (B2.out.below hC B2.out.lt)
    go_simp
    first | exact ⟨rfl, hC, Below.refl _ _, trivial⟩ | exact ⟨rfl, Below.refl _ _, trivial⟩ | exact ⟨hC, Below.refl _ _, trivial⟩
  have e' : vs 22 = _ := e
  rw [e']
  clear e e'
  simp only [Act.put, List.setIfInBounds_toArray, List.set_cons_succ, List.set_cons_zero]
  refine ⟨.inl ⟨rfl, fun dd w' hd hC hDs => ?_⟩, fun e => ?_⟩
  · go_simp
    refine (PE.out w').mono ?_
    rintro e w2 ⟨v, rfl, o2, h2⟩
    exact ⟨_, rfl, (spI_of o2).1, hC.trans (h2.mono hC.size), h2, yD_some rfl (spI_of o2).2⟩
  obtain ⟨A23, c23, e'⟩ : ∃ (A : Option Addr) (c : Nat), vs 23 = .slice A l.length c := e
  rw [e']
  have E23 := hid e'
  clear e'
  simp only [Act.put, List.setIfInBounds_toArray, List.set_cons_succ, List.set_cons_zero]
  refine ⟨.inl ⟨rfl, fun dd w' hd hC hDs => ?_⟩, fun e => ?_⟩
  · go_simp
    first | exact ⟨rfl, hC, Below.refl _ _, trivial⟩ | exact ⟨rfl, Below.refl _ _, trivial⟩ | exact ⟨hC, Below.refl _ _, trivial⟩
  have e' : vs 24 = _ := e
  rw [e']
  clear e e'
  simp only [Act.put, List.setIfInBounds_toArray, List.set_cons_succ, List.set_cons_zero]
  refine ⟨.inl ⟨rfl, fun dd w' hd hC hDs => ?_⟩, fun e => ?_⟩
  · go_simp
    first | exact ⟨rfl, hC, Below.refl _ _, trivial⟩ | exact ⟨rfl, Below.refl _ _, trivial⟩ | exact ⟨hC, Below.refl _ _, trivial⟩
  have e' : vs 25 = _ := e
  rw [e']
  clear e e'
  simp only [Act.put, List.setIfInBounds_toArray, List.set_cons_succ, List.set_cons_zero]
  refine ⟨.inl ⟨rfl, fun dd w' hd hC hDs => ?_⟩, fun e => ?_⟩
  · have h1 : w'.cell? ⟨w.heap.size + 1, 0, none⟩ = some (.int .i64 leaf) := cm_0 (B2.out.below hC B2.out.lt)
    go_simp
    first | exact ⟨rfl, hC, Below.refl _ _, trivial⟩ | exact ⟨rfl, Below.refl _ _, trivial⟩ | exact ⟨hC, Below.refl _ _, trivial⟩
  have e' : vs 26 = _ := e
  rw [e']
  clear e e'
  simp only [Act.put, List.setIfInBounds_toArray, List.set_cons_succ, List.set_cons_zero]
  refine ⟨.inl ⟨rfl, fun dd w' hd hC hDs => ?_⟩, fun e => ?_⟩
  · go_simp
    refine (QE.out w').mono ?_
    rintro e w2 ⟨v, rfl, o2, h2⟩
    exact ⟨_, rfl, (spI_of o2).1, hC.trans (h2.mono hC.size), h2, yD_some rfl (spI_of o2).2⟩
  obtain ⟨A27, c27, e'⟩ : ∃ (A : Option Addr) (c : Nat), vs 27 = .slice A l.length c := e
  rw [e']
  have E27 := hid e'
  clear e'
  simp only [Act.put, List.setIfInBounds_toArray, List.set_cons_succ, List.set_cons_zero]
  refine ⟨.inl ⟨rfl, fun dd w' hd hC hDs => ?_⟩, fun e => ?_⟩
  · obtain ⟨A3, c3, f3, i3⟩ : (spI l).D (vs 23) w' := hDs 23 (by kernel_rfl)
    obtain ⟨A4, c4, f4, i4⟩ : (spI l).D (vs 27) w' := hDs 27 (by kernel_rfl)
    rw [E23.out] at f3
    rw [E27.out] at f4
    cases f3
    cases f4
    go_simp
    refine (StM.rints_any i3 i4 (Nat.le_trans PL.out (by omega)) (Nat.le_trans PL.out (by omega))).mono ?_
    rintro e w2 ⟨rfl, h2⟩
    exact ⟨_, rfl, by rw [decide_eq_true rfl]; rfl, hC.trans (h2.mono hC.size), h2, trivial⟩
  have e' : vs 28 = _ := e
  rw [e']
  clear e e'
  simp only [Act.put, List.setIfInBounds_toArray, List.set_cons_succ, List.set_cons_zero]
  refine ⟨.inl ⟨rfl, fun dd w' hd hC hDs => ?_⟩, fun e => ?_⟩
  · go_simp
    first | exact ⟨rfl, hC, Below.refl _ _, trivial⟩ | exact ⟨rfl, Below.refl _ _, trivial⟩ | exact ⟨hC, Below.refl _ _, trivial⟩
  have e' : vs 29 = _ := e
  rw [e']
  clear e e'
  simp only [Act.put, List.setIfInBounds_toArray, List.set_cons_succ, List.set_cons_zero]
  refine ⟨.inl ⟨rfl, fun dd w' hd hC hDs => ?_⟩, fun e => ?_⟩
  · go_simp
    first | exact ⟨rfl, hC, Below.refl _ _, trivial⟩ | exact ⟨rfl, Below.refl _ _, trivial⟩ | exact ⟨hC, Below.refl _ _, trivial⟩
  have e' : vs 30 = _ := e
  rw [e']
  clear e e'
  simp only [Act.put, List.setIfInBounds_toArray, List.set_cons_succ, List.set_cons_zero]
  refine ⟨.inl ⟨rfl, fun dd w' hd hC hDs => ?_⟩, fun e => ?_⟩
  · go_simp
    refine (WE.out w' hC).mono ?_
    rintro e w2 ⟨rfl, h2⟩
    exact ⟨_, rfl, rfl, hC.trans (h2.mono hC.size), h2, trivial⟩
  have e' : vs 31 = _ := e
  rw [e']
  clear e e'
  simp only [Act.put, List.setIfInBounds_toArray, List.set_cons_succ, List.set_cons_zero]
  refine ⟨.inl ⟨rfl, fun dd w' hd hC hDs => ?_⟩, fun e => ?_⟩
  · go_simp
    first | exact ⟨rfl, hC, Below.refl _ _, trivial⟩ | exact ⟨rfl, Below.refl _ _, trivial⟩ | exact ⟨hC, Below.refl _ _, trivial⟩
  have e' : vs 32 = _ := e
  rw [e']
  clear e e'
  simp only [Act.put, List.setIfInBounds_toArray, List.set_cons_succ, List.set_cons_zero]
  intro dd w4 hall hC4 hDs
  have db := hid (hb.out.trans (hC4.mono hb.out.size))
  clear hall hC4 hDs E23 E27 B1 B2 hb
  go_wp2_with fail
  go_ret
  exact ⟨rfl, db.out⟩
end TrM
end Go.Proofs.YtdmnhpgafbcehaaDoor
set_option maxRecDepth 100000
namespace Go.Proofs.YtdmnhpgafbcehaaDoor
open Go.ChangeShapes Go.WideShapes Go.ChangeAt Go.RowKit Go.Deep
section
variable {H : Type} {enc : TypeId × Value → H} {w : World} {base : Nat} {spare : Nat → Bool} {held : Bool}
end
end Go.Proofs.YtdmnhpgafbcehaaDoor
set_option maxRecDepth 100000
namespace Go.Proofs.YtdmnhpgafbcehaaDoor
open Go.ChangeShapes Go.WideShapes Go.ChangeAt Go.RowKit Go.Deep
/-- A slice of structs of k cells, in one row below block B. -/
def Elems (k : Nat) (w : World) (B : Nat) (A : Option Addr) (xs : List (List Value)) : Prop :=
  0 < xs.length → ∃ b o, A = some ⟨b, o, none⟩ ∧ b < B ∧ ∀ (i : Nat) (cs : List Value), xs[i]? = some cs → ∀ (j : Nat) (v : Value), cs[j]? = some v → w.cell? ⟨b, o + i * k + j, none⟩ = some v
theorem Elems.below {k B B' : Nat} {w w' : World} {A : Option Addr} {xs : List (List Value)} (h : Elems k w B A xs) (hb : Below B' w w') (hB : B ≤ B') : Elems k w' B A xs := fun hn => by
  obtain ⟨b, o, rfl, hl, hr⟩ := h hn
  exact ⟨b, o, rfl, hl, fun i cs hi j v hj => (hb.cell (p := ⟨b, o + i * k + j, none⟩) (by show b < B'; omega)).trans (hr i cs hi j v hj)⟩
section
variable {H : Type} {enc : TypeId × Value → H} {w : World} {base : Nat} {spare : Nat → Bool} {held : Bool}
end
end Go.Proofs.YtdmnhpgafbcehaaDoor
set_option maxRecDepth 100000
namespace Go.Proofs.YtdmnhpgafbcehaaDoor
open Go.ChangeShapes Go.WideShapes Go.ChangeAt Go.RowKit Go.Deep
namespace StM
section
variable {w : World}
end
end StM
end Go.Proofs.YtdmnhpgafbcehaaDoor
set_option maxRecDepth 100000
namespace Go.Proofs.YtdmnhpgafbcehaaDoor
open Go.ChangeShapes Go.WideShapes Go.ChangeAt Go.RowKit Go.Deep
namespace TrM
open TgP RwP
theorem cells_st18 : Tryd.prog.cellsOf 26 = 2 := by kernel_rfl
/-- An act: what, the leaf, its tag. -/
structure Ac where
  d : Int
  c : Int
  s : Nat → Nat
def acL (y : Ac) : List Value := .int .i64 y.d :: .int .i64 y.c :: (ar 32 y.s).toList
section
variable {H : Type} {enc : TypeId × Value → H} {w : World} {base : Nat} {spare : Nat → Bool} {held : Bool}
/-- A height and tags. -/
abbrev stV (h : Int) (A : Option Addr) (n cap : Nat) : Value := .agg #[.int .i64 h, .slice A n cap]
theorem open_st18 {r : Reach} {b0 : Nat} {v : Value} {d : DataW H} {p : List MemPlace} (hv : Value.okWide Tryd.prog w r b0 26 v) (h : DataW.Trod enc Tryd.prog w base spare held 26 v d p) :
    ∃ (h : Int) (A : Option Addr) (F : Nat → Nat → Nat) (n cap : Nat), v = stV h A n cap ∧ (∀ i j, F i j < 256) ∧ SliF 32 (fun b => b < w.heap.size) w A n F cap := by
  obtain ⟨cs, rfl, hsz⟩ := okWide_struct Tryd.underlying26 hv
  rw [cells_st18] at hsz
  obtain ⟨fuel, hf0⟩ := h
  obtain ⟨xs, n, _, _, hl, hlen, hf⟩ := DataW.trod_struct Tryd.underlying26 hf0
  obtain ⟨l⟩ := cs
  match l, hsz with
  | [c0, c1], _ =>
  match xs, hlen with
  | [y0, y1], _ =>
    have h0 : DataW.trod enc Tryd.prog w base spare held n 3 (([c0, c1].drop 0).take (Tryd.prog.cellsOf 3)) = some y0 := hf 0 _ rfl
    have h1 : DataW.trod enc Tryd.prog w base spare held n 24 (([c0, c1].drop 1).take (Tryd.prog.cellsOf 24)) = some y1 := hf 1 _ rfl
    rw [cells_i18] at h0
    rw [cells_lt18] at h1
    obtain ⟨a, e0, _, _⟩ := DataW.trod_int Tryd.underlying3 h0
    obtain ⟨A, F, m, cap, e1, hs, hF⟩ := trod_rows (K := 32) (by omega) Tryd.underlying24 uT cells_t18 (show DataW.trod enc Tryd.prog w base spare held n 24 [c1] = some y1 from h1)
    have e0' : c0 = .int .i64 a := by simpa using e0
    exact ⟨a, A, F, m, cap, by rw [e0', e1], hF, hs⟩
end
end TrM
end Go.Proofs.YtdmnhpgafbcehaaDoor
set_option maxRecDepth 100000
namespace Go.Proofs.YtdmnhpgafbcehaaDoor
open Go.RowKit
namespace TrM
open TgP
theorem tgF_off {k : Nat → Nat} {n c : Nat} {L L' : Nat → Nat → Nat} (hL : ∀ i, i ≠ c → L i = L' i) : ∀ (f j : Nat), (∀ i, (n + c) / 2 ^ i ≠ j) → n ≤ 2 ^ f * j → tgF k n L f j = tgF k n L' f j
  | 0, j, h, hn => by
    rw [Nat.pow_zero, Nat.one_mul] at hn
    have h0 := h 0
    rw [Nat.pow_zero, Nat.div_one] at h0
    exact hL _ (by omega)
  | f + 1, j, h, hn => by
    unfold tgF
    by_cases e : n ≤ j
    · rw [if_pos e, if_pos e]
      have h0 := h 0
      rw [Nat.pow_zero, Nat.div_one] at h0
      exact hL _ (by omega)
    · rw [if_neg e, if_neg e]
      have e1 : 2 ^ (f + 1) * j = 2 ^ f * (2 * j) := by rw [Nat.pow_succ, Nat.mul_assoc]
      have h5 : n ≤ 2 ^ f * (2 * j) := by rw [← e1]; exact hn
      have h6 : n ≤ 2 ^ f * (2 * j + 1) := Nat.le_trans h5 (Nat.mul_le_mul_left _ (by omega))
      have hs : ∀ i, (n + c) / 2 ^ (i + 1) = (n + c) / 2 ^ i / 2 := fun i => by rw [Nat.pow_succ, Nat.div_div_eq_div_mul]
      rw [tgF_off hL f (2 * j) (fun i e2 => h (i + 1) (by rw [hs, e2]; omega)) h5, tgF_off hL f (2 * j + 1) (fun i e2 => h (i + 1) (by rw [hs, e2]; omega)) h6]
/-- A node that is on no path of the leaf keeps its sector. -/
theorem nd_off {t : Tr} {c j : Nat} {f : Nat → Nat} (hc : c < t.n) (h1 : 1 ≤ j) (h2 : j < t.n) (hn : j ∉ pthL t.h c) : (t.set c f).nd j = t.nd j := by
  have hof : ∀ i, (t.n + c) / 2 ^ i ≠ j := fun i e => by
    match i with
    | 0 => rw [Nat.pow_zero, Nat.div_one] at e; omega
    | i + 1 =>
      by_cases hi : i < t.h
      · exact hn (List.mem_map.2 ⟨i, List.mem_range.2 hi, e⟩)
      · have h3 := pth_end hc i (by omega)
        have h4 : pth t.h c i = j := e
        omega
  have hs : ∀ i, (t.n + c) / 2 ^ (i + 1) = (t.n + c) / 2 ^ i / 2 := fun i => by rw [Nat.pow_succ, Nat.div_div_eq_div_mul]
  have key : ∀ q, q / 2 = j → (t.set c f).tg q = t.tg q := fun q hq => by
    unfold Tr.tg
    refine tgF_off (c := c) (fun i hi => ?_) t.h q (fun i e => hof (i + 1) (by rw [hs]; show (t.n + c) / 2 ^ i / 2 = j; rw [show (t.n + c) / 2 ^ i = q from e]; exact hq)) ?_
    · show (if i = c then f else t.L i) = t.L i
      rw [if_neg hi]
    · show 2 ^ t.h ≤ 2 ^ t.h * q
      exact Nat.le_mul_of_pos_right _ (by omega)
  unfold Tr.nd
  rw [key _ (by omega), key _ (by omega)]
/-- The lowest node of the path: its sector is the same if the tag is. -/
theorem low_eq {t : Tr} (h1 : 1 ≤ t.h) {c : Nat} {f : Nat → Nat} : eqA 64 (t.nd ((t.n + c) / 2)) ((t.set c f).nd ((t.n + c) / 2)) = eqA 32 (t.L c) f := by
  obtain ⟨m, hm⟩ : ∃ m, t.n = 2 * m := ⟨2 ^ (t.h - 1), by
    show 2 ^ t.h = _
    rw [show t.h = (t.h - 1) + 1 by omega, Nat.pow_succ]
    simp only [Nat.add_sub_cancel]
    omega⟩
  have ul : ∀ j, t.n ≤ j → (t.set c f).tg j = if j - t.n = c then f else t.L (j - t.n) := fun j hj => Tr.tg_leaf (t := t.set c f) hj
  unfold Tr.nd
  rw [Tr.tg_leaf (t := t) (by omega), Tr.tg_leaf (t := t) (by omega), ul _ (by omega), ul _ (by omega), Bool.eq_iff_iff, eqA_iff, eqA_iff]
  rcases (show c % 2 = 0 ∨ c % 2 = 1 by omega) with hc | hc
  · rw [show 2 * ((t.n + c) / 2) - t.n = c by omega, show 2 * ((t.n + c) / 2) + 1 - t.n = c + 1 by omega, if_pos rfl, if_neg (by omega)]
    constructor
    · intro H i hi
      have := H i (by omega)
      unfold joined at this
      rwa [if_pos hi, if_pos hi] at this
    · intro H i hi
      unfold joined
      by_cases h : i < 32
      · rw [if_pos h, if_pos h]; exact H i h
      · rw [if_neg h, if_neg h]
  · rw [show 2 * ((t.n + c) / 2) - t.n = c - 1 by omega, show 2 * ((t.n + c) / 2) + 1 - t.n = c by omega, if_pos rfl, if_neg (by omega)]
    constructor
    · intro H i hi
      have := H (32 + i) (by omega)
      unfold joined at this
      rwa [if_neg (by omega), if_neg (by omega), show 32 + i - 32 = i by omega] at this
    · intro H i hi
      unfold joined
      by_cases h : i < 32
      · rw [if_pos h, if_pos h]
      · rw [if_neg h, if_neg h]; exact H _ (by omega)
end TrM
end Go.Proofs.YtdmnhpgafbcehaaDoor
set_option maxRecDepth 100000
namespace Go.Proofs.YtdmnhpgafbcehaaDoor
open Go.ChangeShapes Go.WideShapes Go.ChangeAt Go.RowKit Go.Deep
namespace TrM
open TgP RwP
section
variable {repT : RepT}
/-- What New answers where it makes a tree; the tree. -/
def spN (repT : RepT) (t : Tr) (B : Nat) : Sp := ⟨fun v => ∃ g, v = .tuple #[pT g, .int .i64 0], fun v w => ∃ (g : Nat) (M : Nat → Prop), v = .tuple #[pT g, .int .i64 0] ∧ repT w g M t ∧ ∀ b, M b → B ≤ b, .tuple #[pT 0, .int .i64 0]⟩
def spG (repT : RepT) (t : Tr) (B : Nat) : Sp := ⟨fun v => ∃ g, v = pT g, fun v w => ∃ (g : Nat) (M : Nat → Prop), v = pT g ∧ repT w g M t ∧ ∀ b, M b → B ≤ b, pT 0⟩
theorem spN_ok (H : TreeC repT) (t : Tr) (B : Nat) : (spN repT t B).ok := ⟨⟨0, rfl⟩, fun v w1 w2 ⟨g, M, e, h, hM⟩ hb => ⟨g, M, e, H.keep h (Turn.of_new (S := fun _ => False) hb) fun _ _ h => h, hM⟩⟩
theorem spG_ok (H : TreeC repT) (t : Tr) (B : Nat) : (spG repT t B).ok := ⟨⟨0, rfl⟩, fun v w1 w2 ⟨g, M, e, h, hM⟩ hb => ⟨g, M, e, H.keep h (Turn.of_new (S := fun _ => False) hb) fun _ _ h => h, hM⟩⟩
/-- Which heights and counts New refuses. -/
def newBad (h : Int) (m : Nat) : Prop := h < 1 ∨ 12 < h ∨ (okH h ∧ 2 ^ h.toNat < m)
theorem new_cases (h : Int) (m : Nat) : newBad h m ∨ ∃ a : Nat, h = a ∧ okH (a : Nat) ∧ m ≤ 2 ^ a := by
  by_cases h1 : h < 1
  · exact .inl (.inl h1)
  by_cases h2 : 12 < h
  · exact .inl (.inr (.inl h2))
  have hk : okH h := ⟨by omega, by omega⟩
  by_cases h3 : 2 ^ h.toNat < m
  · exact .inl (.inr (.inr ⟨hk, h3⟩))
  · exact .inr ⟨h.toNat, by omega, by rw [show ((h.toNat : Nat) : Int) = h by omega]; exact hk, by omega⟩
/-- A list cut at so many. -/
theorem cut_at (n c : Nat) : ∃ m : Nat, (if (c : Int) < (n : Int) then (c : Int) else (n : Int)) = (m : Int) ∧ m ≤ n ∧ m ≤ c := by
  by_cases h : n ≤ c
  · exact ⟨n, by rw [if_neg (by omega)], Nat.le_refl _, h⟩
  · exact ⟨c, by rw [if_pos (by omega)], by omega, Nat.le_refl _⟩
theorem shl_n {a N : Nat} (ha : a ≤ 5) (h : N = 2 ^ a) : wrap64 (2 ^ a) = (N : Int) := by
  subst h
  rcases (show a = 0 ∨ a = 1 ∨ a = 2 ∨ a = 3 ∨ a = 4 ∨ a = 5 by omega) with rfl | rfl | rfl | rfl | rfl | rfl <;> decide +kernel
theorem pthL_get {h leaf i : Nat} (hi : i < h) : (pthL h leaf).getD i 0 = pth h leaf i := by
  rw [List.getD_eq_getElem?_getD]
  simp [pthL, hi]
theorem pthL_mem {h leaf i : Nat} (hi : i < h) : pth h leaf i ∈ pthL h leaf := List.mem_map.2 ⟨i, List.mem_range.2 hi, rfl⟩
theorem pow32 {a : Nat} (ha : a ≤ 5) : 2 ^ a ≤ 32 := Nat.pow_le_pow_right (n := 2) (by omega) ha
theorem wrap_small {n : Nat} (h : n < 1000000) : wrap64 (n : Int) = (n : Int) := by unfold wrap64; omega
theorem tmod_bd {a : Int} {N : Nat} (h : 0 < (N : Int)) : -(N : Int) < a.tmod N ∧ a.tmod N < N := by
  have h1 := Int.tmod_lt_of_pos a h
  have h2 := Int.lt_tmod_of_pos a h
  exact ⟨h2, h1⟩
theorem has_leaf {t : Tr} {N c : Nat} (h : N = t.n) (hc : c < N) : t.has ((N + c : Nat) : Int) := ⟨by have := t.n_pos; omega, by omega⟩
theorem tg_lf {t : Tr} {N c : Nat} (h : N = t.n) : t.tg (N + c) = t.L c := by
  rw [Tr.tg_leaf (by omega), show N + c - t.n = c by omega]
end
end TrM
end Go.Proofs.YtdmnhpgafbcehaaDoor
