/-
  What the listed variable gives a walk: the table of the salts.
  strconv.FormatUint at base 10: a number's digits.
  Contracts of the landed box: its keys of a label, a use and a number; the tag of a box's data.
  Contracts of the landed box: two keys added; Wrap.
  Contracts of hmac.Same, casematelaw04.cut, casematelaw04.works over this translation.
  Contracts of the landed box: Unwrap.
  slices.Grow of no slice, slices.Concat of bytes.
  An append to an empty slice without room lays nothing into what is there.
  Contracts of bytes.Open and of a tape's Torn, End, tear and cut over this translation.
  Contracts of the landed box: Put and Get.
  The landed box keeps the contracts that the laws' walks ask of it.
  Two keys that come in.
  What comes in: a digest by value, a text, bytes.
-/
import Derived.Test.YtdfoehcdabmagaaDoorMrg8
import Derived.Test.YtdfoehcdabmagaaDoorRows
import Derived.Deep.Slices
import Derived.MakeChecks
import Derived.Lay
import Derived.Lib.LaidTab
import Derived.Lib.ItoaNum
import Derived.Lib.ItoaWalk
import Derived.Lib.ItoaMem
import Derived.Lib.AppendIntMem
import Derived.Lib.Hide
import Derived.Lib.SlBytesConst
import Derived.Lib.AppendZeros
import Derived.OwnWalk
import Derived.Laws.Cover3
import Derived.OpenShut
import Derived.ChangeMaps5
set_option linter.unusedVariables false
set_option linter.unusedSimpArgs false
set_option maxRecDepth 100000
namespace Go.Proofs.YtdfoehcdabmagaaDoor
open Go.ChangeShapes Go.WideShapes Go.ChangeAt Go.RowKit Go.Deep
theorem salts_named : Tryd.prog.globalNamed "casemate/sha.salts" = some 1 := by kernel_rfl
theorem salts_type : (Tryd.prog.globals[1]?).map (·.type) = some 126 := by kernel_rfl
theorem cells_u32 : Tryd.prog.cellsOf 78 = 1 := by kernel_rfl
theorem cells_wds : Tryd.prog.cellsOf 126 = 64 := by kernel_rfl
def laidL : List (String × DataW Unit) := [
  ("math/bits.deBruijn32tab", Rows.laid_math_bits_deBruijn32tab),
  ("math/bits.deBruijn64tab", Rows.laid_math_bits_deBruijn64tab),
  ("internal/strconv.uint64pow10", Rows.laid_internal_strconv_uint64pow10),
  ("casemate/sha.salts", Rows.laid_casemate_sha_salts)]
theorem laid_plain : (laidL.all fun x => x.2.handleName?.isNone) = true := by kernel_rfl
theorem laid_salts : (Rows.laid_casemate_sha_salts : DataW Unit) = Lib.tabData .u32 (ShaM.salts.map fun n : Nat => (n : Int)) := by rfl
theorem pows_named : Tryd.prog.globalNamed "internal/strconv.uint64pow10" = some 0 := by kernel_rfl
theorem pows_type : (Tryd.prog.globals[0]?).map (·.type) = some 117 := by kernel_rfl
theorem cells_u64 : Tryd.prog.cellsOf 24 = 1 := by kernel_rfl
theorem cells_pows : Tryd.prog.cellsOf 117 = 20 := by kernel_rfl
theorem laid_pows : (Rows.laid_internal_strconv_uint64pow10 : DataW Unit) = Lib.tabData .u64 Lib.pow10Tab := by rfl
/-- Wherever a variable stands on the list: what is told of it. -/
theorem laid_at {P : Program} {w : World} : ∀ {l : List (String × DataW Unit)} {ps : List MemPlace}, DataW.LaidVars P w l ps → ∀ {n : String} {d : DataW Unit}, (n, d) ∈ l →
    ∃ g t cs fuel p, P.globalNamed n = some g ∧ (P.globals[g]?).map (·.type) = some t ∧ w.var? P n = some cs ∧ DataW.trod (fun _ => ()) P w 0 (fun _ => true) false fuel t cs.toList = some (d, p)
  | [], _, _, _, _, hm => nomatch hm
  | _ :: _, _, ⟨g, t, cs, fuel, p, _, a1, a2, a3, a4, tl, _⟩, n, d, hm => by
    cases hm with
    | head => exact ⟨g, t, cs, fuel, p, a1, a2, a3, a4⟩
    | tail _ hm => exact laid_at tl hm
/-- One table out of the list: its cells. -/
theorem tab_of {W : World} (h : laidMet Tryd.prog laidL W) {name : String} {k : IntKind} {zs : List Int} {g : Nat} {t e : TypeId} {n : Nat}
    (hg : Tryd.prog.globalNamed name = some g) (hty : (Tryd.prog.globals[g]?).map (·.type) = some t) (ht : Tryd.prog.underlying t = some (.array n e)) (he : Tryd.prog.underlying e = some (.int k)) (hce : Tryd.prog.cellsOf e = 1) (hct : Tryd.prog.cellsOf t = n)
    (hm : (name, Lib.tabData k zs) ∈ laidL) : Lib.TabIs Tryd.prog W name k zs ∧ g < W.heap.size := by
  obtain ⟨_, hv, _⟩ := h
  obtain ⟨g', t', cs, fuel, p, hg', ht', hvar, hd⟩ := laid_at hv hm
  obtain rfl := Option.some.inj (hg.symm.trans hg')
  obtain rfl := Option.some.inj (hty.symm.trans ht')
  refine ⟨?_, ?_⟩
  · unfold Lib.TabIs
    rw [hvar, ← Lib.cells_of_tab ht he hce hct hd]
  · unfold World.var? at hvar
    rw [hg] at hvar
    simp only [Option.bind_some] at hvar
    rcases Nat.lt_or_ge g W.heap.size with h1 | h1
    · exact h1
    · rw [Array.getElem?_eq_none (by exact h1)] at hvar
      cases hvar
theorem salts_of_laid {W : World} (h : laidMetH Tryd.prog laidL W) : Salts W := by
  rw [MakeChecks.laidMetH_plain _ _ _ laid_plain] at h
  obtain ⟨h1, h2⟩ := tab_of h salts_named salts_type Tryd.underlying126 Tryd.underlying78 cells_u32 cells_wds (by rw [← laid_salts]; unfold laidL; simp)
  obtain ⟨h3, h4⟩ := tab_of h pows_named pows_type Tryd.underlying117 Tryd.underlying24 cells_u64 cells_pows (by rw [← laid_pows]; unfold laidL; simp)
  refine ⟨by unfold tabs; omega, fun n hn => ?_, ?_⟩
  · have := h1.cell salts_named n (by rw [List.length_map]; exact hn)
    rw [this, List.getD_eq_getElem?_getD, List.getElem?_map, List.getElem?_eq_getElem (show n < ShaM.salts.length from hn)]
    unfold ShaM.saltAt
    rw [List.getD_eq_getElem?_getD, List.getElem?_eq_getElem (show n < ShaM.salts.length from hn)]
    rfl
  · exact ⟨h4, h3⟩
theorem laid_met (os : Os) (args : Array Value) : laidMetH Tryd.prog laidL ((World.laidAll Tryd.prog os laidL).forCall (fun _ _ => 0) ⟨#[], args, []⟩).memory := by
  rw [MakeChecks.laidMetH_plain _ _ _ laid_plain]
  exact laidMet_laidAll args (by kernel_rfl) (by kernel_rfl)
end Go.Proofs.YtdfoehcdabmagaaDoor
set_option maxRecDepth 100000
namespace Go.Proofs.YtdfoehcdabmagaaDoor
open Go.ChangeShapes Go.WideShapes Go.ChangeAt Go.RowKit
attribute [local go_sem] Gives
namespace BxP
theorem dec_digits (n : Nat) : (⟨(Lib.decDigits n).toArray⟩ : ByteArray) = str (dec n) := by
  suffices h : Lib.decDigits n = u8s (dec n) by rw [h]; rfl
  induction n using Nat.strongRecOn with
  | _ n ih =>
    by_cases h : n < 10
    · rw [dec_small h, Lib.decDigits, dif_pos h]; rfl
    · rw [dec_more h, Lib.decDigits, dif_neg h, ih (n / 10) (by omega)]
      unfold u8s
      rw [List.map_append]; rfl
set_option maxHeartbeats 1600000 in
set_option maxRecDepth 100000 in
theorem ifmt_any (u : Nat) (hu64 : u < 18446744073709551616) (w : World) (hS : Salts w) :
    Calls Tryd.prog 53 #[.int .u64 u, .int .i64 10] w fun e w' => e = .returned (.string (str (dec u))) ∧ Below w.heap.size w w' := by
  by_cases hs : u < 100
  · have iu : (u : Int) < 100 := by omega
    have hw : IntKind.i64.wrap (u : Int) = (u : Int) := by rw [IntKind.wrap_i64]; omega
    go_enter Tryd.func53, Tryd.ntmps53
    go_wp2_with fail
    refine (Tryd.internal_strconv_small u hs w).mono ?_
    rintro e w' ⟨rfl, rfl⟩
    go_wp2_with fail
    go_ret
    exact ⟨by rw [dec_digits]; rfl, Below.refl _ _⟩
  · have hu1 : 1 ≤ u := by omega
    have htab := hS.2.2.2
    have iu : decide ((u : Int) < 100) = false := by simp; omega
    have hnd20 : Lib.nDigits u ≤ 20 := by have := Lib.numDigits_eq u hu1 hu64; split at this <;> omega
    have hal : Tryd.prog.arrayLen 101 = 24 := by simp [Program.arrayLen, Tryd.underlying101]
    have hsl : ∀ W, (Instr.sliceAt 101 (.pointer (some ⟨w.heap.size, 0, none⟩)) none (some (.int .i64 (Lib.nDigits u : Int))) none).run Tryd.prog W = .ok (.slice (some ⟨w.heap.size, 0, none⟩) (Lib.nDigits u) 24) W := fun W => by
      rw [run_sliceAt_array_h W 101 ⟨w.heap.size, 0, none⟩ (by simp [Program.arrayLen, Program.elem, Tryd.underlying101]) .i64 (Lib.nDigits u : Int) (by omega) (by rw [hal]; omega)]
      go_simp
    have hH0 := Lib.holds_zero0 w 101 (Lib.nDigits u) (by omega)
    have hfmt := Tryd.internal_strconv_formatBase10 w.heap.size 0 24 u (Array.replicate (Lib.nDigits u) 0) (w.alloc (.cells Lib.zeros24 101)) hH0 (by rw [Array.size_replicate]; exact Lib.lt_pow_nDigits u) hu64 (by rw [Array.size_replicate]; omega)
    rw [Array.size_replicate] at hfmt
    have HH0 := Lib.hid hH0
    clear hH0 hal hS hs
    go_enter Tryd.func53, Tryd.ntmps53
    go_wp2_with fail
    refine (Tryd.internal_strconv_numDigits u hu1 hu64 _ (Lib.tabIs_alloc htab _)).mono ?_
    rintro e w' ⟨rfl, rfl⟩
    go_wp2_with fail
    refine hfmt.mono ?_
    rintro e w' ⟨rfl, k, v', dk, rfl, hF⟩
    have hcv : (convert 39 9 (.slice (some ⟨w.heap.size, 0, none⟩) (Lib.nDigits u) 24)).run Tryd.prog ((Sort.putRow (fun (b : UInt8) => Value.int .u8 (b.toNat : Int)) (w.alloc (.cells Lib.zeros24 101)) w.heap.size 0 dk).drewN k) = .ok (.string ⟨(Lib.decDigits u).toArray⟩) ((Sort.putRow (fun (b : UInt8) => Value.int .u8 (b.toNat : Int)) (w.alloc (.cells Lib.zeros24 101)) w.heap.size 0 dk).drewN k) := by
      have h := run_convert_bytes_back (P := Tryd.prog) ((Sort.putRow (fun (b : UInt8) => Value.int .u8 (b.toNat : Int)) (w.alloc (.cells Lib.zeros24 101)) w.heap.size 0 dk).drewN k) 39 9 5 ⟨w.heap.size, 0, none⟩ 24 (Lib.decDigits u) Tryd.underlying39 Tryd.underlying5 Tryd.underlying9 (fun j hj => by
        rw [Lib.row_is_numeral hF j hj, Lib.add_plain, World.cell?_drewN]
        exact Sort.cell?_putRow (fun (b : UInt8) => Value.int .u8 (b.toNat : Int)) _ w.heap.size 0 _ dk HH0.out (by rw [hF.size, Array.size_replicate]) j (by rw [hF.size]; rw [Lib.decDigits_length] at hj; exact hj))
      rw [Lib.decDigits_length] at h
      exact h
    obtain ⟨os, eo⟩ := Lib.fin_at w (.cells Lib.zeros24 101) dk k 0
    have hbel : Below w.heap.size w ((Sort.putRow (fun (b : UInt8) => Value.int .u8 (b.toNat : Int)) (w.alloc (.cells Lib.zeros24 101)) w.heap.size 0 dk).drewN k) := by rw [eo]; exact Lib.below_grow w.heap.size w (Nat.le_refl _) k os
    have HB := hid hbel
    clear hbel eo HH0 hfmt
    go_wp2_with fail
    go_ret
    exact ⟨by rw [dec_digits]; rfl, HB.out⟩
set_option maxRecDepth 100000 in
theorem fmt_any (u : Nat) (hu64 : u < 18446744073709551616) (w : World) (hS : Salts w) :
    Calls Tryd.prog 45 #[.int .u64 u, .int .i64 10] w fun e w' => e = .returned (.string (str (dec u))) ∧ Below w.heap.size w w' := by
  have SA := hid hS
  clear hS
  go_enter Tryd.func45, Tryd.ntmps45
  go_wp2_with fail
  refine (ifmt_any u hu64 w SA.out).mono ?_
  rintro e w2 ⟨rfl, h2⟩
  have HB := hid h2
  clear h2
  go_wp2_with fail
  go_ret
  exact ⟨rfl, HB.out⟩
end BxP
end Go.Proofs.YtdfoehcdabmagaaDoor
set_option maxRecDepth 100000
namespace Go.Proofs.YtdfoehcdabmagaaDoor
open Go.ChangeShapes Go.WideShapes Go.ChangeAt Go.RowKit
open DvP (tK tT sub sub_any key_byt)
attribute [local go_sem] Gives
namespace BxP
def sp : ByteArray := ⟨#[32]⟩
def uPad : ByteArray := ⟨#[112, 97, 100]⟩
def uSeal : ByteArray := ⟨#[115, 101, 97, 108]⟩
theorem lab_pad (s : ByteArray) (n : Nat) : s ++ sp ++ uPad ++ sp ++ str (dec n) = lab s wPad n := by
  unfold lab
  rw [show wPad = sp ++ uPad ++ sp from rfl, ByteArray.append_assoc, ByteArray.append_assoc, ByteArray.append_assoc, ByteArray.append_assoc, ByteArray.append_assoc, ByteArray.append_assoc]
theorem lab_seal (s : ByteArray) (n : Nat) : s ++ sp ++ uSeal ++ sp ++ str (dec n) = lab s wSeal n := by
  unfold lab
  rw [show wSeal = sp ++ uSeal ++ sp from rfl, ByteArray.append_assoc, ByteArray.append_assoc, ByteArray.append_assoc, ByteArray.append_assoc, ByteArray.append_assoc, ByteArray.append_assoc]
set_option maxHeartbeats 800000 in
theorem psub_any (k : Nat → Nat) (hk : ∀ i, k i < 256) (s u : ByteArray) (hs : s.size ≤ 100) (hu : u.size ≤ 4) (n : Nat) (hn : n < 18446744073709551616) (w : World) (hS : Salts w) :
    Calls Tryd.prog 36 #[.agg (ar 32 k), .string s, .string u, .int .u64 n] w fun e w' => e = .returned (.agg (ar 32 (sub k (s ++ sp ++ u ++ sp ++ str (dec n))))) ∧ Below w.heap.size w w' := by
  have HK := hid hk
  have HN := hid hn
  have hsz := hid hs
  have huz := hid hu
  have SA := hid hS
  clear hk hn hs hu hS
  go_enter Tryd.func36, Tryd.ntmps36
  go_upto_region 1 with (with_reducible apply alA tK)
  rw [show (w.alloc (.cells (ar 32 k) 23)).heap.size = w.heap.size + 1 by simp]
  generalize hw1 : World.alloc (World.alloc w _) _ = w1
  have b1 := hid (show Blk w1 w.heap.size 23 (ar 32 k) by rw [← hw1]; exact (Blk.new _ _ _).alloc _)
  have b2 := hid (show Blk w1 (w.heap.size + 1) 23 (ar 32 fun _ => 0) by rw [← hw1]; exact Blk.top rfl (by simp))
  have hb := hid (show Below w.heap.size w w1 by rw [← hw1]; exact ((Below.refl _ _).alloc (Nat.le_refl _) _).alloc (by simp) _)
  have sa := hid (SA.out.on hb.out)
  clear hw1 SA
  refine wp_region_tail (C := fun w' => Below w1.heap.size w1 w') 10 (by kernel_rfl) (by kernel_rfl) (by kernel_rfl) (Below.refl _ _).drew ?_
  simp only [List.take_succ_cons, List.take_zero, List.drop_succ_cons, List.drop_zero]
  apply kldA tK
  · rfl
  · rfl
  · exact fun w' hw' => (b1.out.below hw' b1.out.lt).head
  simp only [Act.put, List.setIfInBounds_toArray, List.set_cons_succ, List.set_cons_zero]
  apply wpK_val
  · rfl
  · intro w' hw'
    go_simp
    first | exact rfl | exact ⟨rfl, hw'⟩
  simp only [Act.put, List.setIfInBounds_toArray, List.set_cons_succ, List.set_cons_zero]
  apply kcat (s := s) (t := sp)
  · rfl
  · rfl
  · rfl
  · have := hsz.out; show s.size + 1 ≤ 1000000; omega
  simp only [Act.put, List.setIfInBounds_toArray, List.set_cons_succ, List.set_cons_zero]
  apply wpK_val
  · rfl
  · intro w' hw'
    go_simp
    first | exact rfl | exact ⟨rfl, hw'⟩
  simp only [Act.put, List.setIfInBounds_toArray, List.set_cons_succ, List.set_cons_zero]
  apply kcat (s := s ++ sp) (t := u)
  · rfl
  · rfl
  · rfl
  · rw [ByteArray.size_append]; have := hsz.out; have := huz.out; show s.size + 1 + u.size ≤ 1000000; omega
  simp only [Act.put, List.setIfInBounds_toArray, List.set_cons_succ, List.set_cons_zero]
  apply kcat (s := s ++ sp ++ u) (t := sp)
  · rfl
  · rfl
  · rfl
  · rw [ByteArray.size_append, ByteArray.size_append]; have := hsz.out; have := huz.out; show s.size + 1 + u.size + 1 ≤ 1000000; omega
  simp only [Act.put, List.setIfInBounds_toArray, List.set_cons_succ, List.set_cons_zero]
  apply wpK_val
  · rfl
  · intro w' hw'
    go_simp
    first | exact rfl | exact ⟨rfl, hw'⟩
  simp only [Act.put, List.setIfInBounds_toArray, List.set_cons_succ, List.set_cons_zero]
  apply wpK_val
  · rfl
  · intro w' hw'
    go_simp
    exact (fmt_any n HN.out w' (sa.out.on hw')).mono fun e w2 h => ⟨h.1, hw'.trans (h.2.mono hw'.size)⟩
  simp only [Act.put, List.setIfInBounds_toArray, List.set_cons_succ, List.set_cons_zero]
  apply kcat (s := s ++ sp ++ u ++ sp) (t := str (dec n))
  · rfl
  · rfl
  · rfl
  · rw [ByteArray.size_append, ByteArray.size_append, ByteArray.size_append, str_size]; have := hsz.out; have := huz.out; have := dec_20 HN.out; show s.size + 1 + u.size + 1 + _ ≤ 1000000; omega
  simp only [Act.put, List.setIfInBounds_toArray, List.set_cons_succ, List.set_cons_zero]
  have hz : (s ++ sp ++ u ++ sp ++ str (dec n)).size ≤ 10000 := by
    rw [ByteArray.size_append, ByteArray.size_append, ByteArray.size_append, ByteArray.size_append, str_size]; have := hsz.out; have := huz.out; have := dec_20 HN.out; have e : sp.size = 1 := rfl; omega
  apply wpK_val
  · rfl
  · intro w' hw'
    go_simp
    exact (sub_any k HK.out (s ++ sp ++ u ++ sp ++ str (dec n)) hz w' (sa.out.on hw')).mono fun e w2 h => ⟨h.1, hw'.trans (h.2.mono hw'.size)⟩
  simp only [Act.put, List.setIfInBounds_toArray, List.set_cons_succ, List.set_cons_zero]
  obtain ⟨F, hF⟩ : ∃ F, F = sub k (s ++ sp ++ u ++ sp ++ str (dec n)) := ⟨_, rfl⟩
  have HFE := hid hF
  rw [← hF]
  clear hF
  refine wpK_nil fun w2 hw2 => ?_
  have c2 := b2.out.below hw2 b2.out.lt
  have cb := hid (hb.out.trans (hw2.mono hb.out.size))
  clear b1 b2 hb hw2 sa hz
  go_wp2_with ((with_reducible apply stA tK); rfl; rfl; exact c2)
  apply ret_ar tK Tryd.results36
  · rfl
  · rfl
  · exact c2.setRow_same _
  exact ⟨by rw [HFE.out], below_setRow cb.out (by omega) _⟩
set_option maxHeartbeats 400000 in
theorem ppad_any (k : Nat → Nat) (hk : ∀ i, k i < 256) (s : ByteArray) (hs : s.size ≤ 100) (n : Nat) (hn : n < 18446744073709551616) (w : World) (hS : Salts w) :
    Calls Tryd.prog 22 #[.agg (ar 32 k), .string s, .int .u64 n] w fun e w' => e = .returned (.agg (ar 32 (pad k s n))) ∧ Below w.heap.size w w' := by
  have HK := hid hk
  have HN := hid hn
  have HS := hid hs
  have SA := hid hS
  clear hk hn hs hS
  go_enter Tryd.func22, Tryd.ntmps22
  go_upto_region 1 with (with_reducible apply alA tK)
  generalize hw1 : World.alloc (World.alloc w _) _ = w1
  have b1 := hid (show Blk w1 w.heap.size 23 (ar 32 k) by rw [← hw1]; exact (Blk.new _ _ _).alloc _)
  have b2 := hid (show Blk w1 (w.heap.size + 1) 23 (ar 32 fun _ => 0) by rw [← hw1]; exact Blk.top rfl (by simp))
  have hb := hid (show Below w.heap.size w w1 by rw [← hw1]; exact ((Below.refl _ _).alloc (Nat.le_refl _) _).alloc (by simp) _)
  have sa := hid (SA.out.on hb.out)
  clear hw1 SA
  go_wp2_with ((with_reducible apply ldA tK); rfl; exact b1.out)
  refine (psub_any k HK.out s uPad HS.out (by decide) n HN.out w1 sa.out).mono ?_
  rintro e w2 ⟨rfl, h2⟩
  rw [lab_pad, show sub k (lab s wPad n) = pad k s n from rfl]
  have c2 := b2.out.below h2 b2.out.lt
  have cb := hid (hb.out.trans (h2.mono hb.out.size))
  clear b1 b2 hb h2 sa
  go_wp2_with ((with_reducible apply stA tK); rfl; rfl; exact c2)
  apply ret_ar tK Tryd.results22
  · rfl
  · rfl
  · exact c2.setRow_same _
  exact ⟨rfl, below_setRow cb.out (by omega) _⟩
set_option maxHeartbeats 800000 in
theorem ptag_any (k f : Nat → Nat) (hk : ∀ i, k i < 256) (hf : ∀ i, f i < 256) (s : ByteArray) (hs : s.size ≤ 100) (n : Nat) (hn : n < 18446744073709551616) (w : World) (hS : Salts w) :
    Calls Tryd.prog 23 #[.agg (ar 32 k), .string s, .int .u64 n, .agg (ar 32 f)] w fun e w' => e = .returned (.agg (ar 32 (tagB k s n f))) ∧ Below w.heap.size w w' := by
  have HK := hid hk
  have HF := hid hf
  have HN := hid hn
  have HS := hid hs
  have SA := hid hS
  clear hk hf hn hs hS
  obtain ⟨G, hG⟩ : ∃ G, G = sub k (lab s wSeal n) := ⟨_, rfl⟩
  obtain ⟨T, hT⟩ : ∃ T, T = tagB k s n f := ⟨_, rfl⟩
  have HG := hid hG
  have HTE := hid (show tag (HmM.tag (HmM.dl G) (rowK f)) = ar 32 T by rw [hT, hG]; rfl)
  have GB := hid (show ∀ i, G i < 256 by rw [hG]; exact sub_lt _ _)
  rw [← hT]
  clear hG hT
  go_enter Tryd.func23, Tryd.ntmps23
  go_upto_region 1 with (with_reducible apply alA tT)
  rw [show ((w.alloc (.cells (ar 32 k) 23)).alloc (.cells (ar 32 f) 23)).heap.size = w.heap.size + 1 + 1 by simp]
  generalize hw1 : World.alloc (World.alloc (World.alloc w _) _) _ = w1
  have b0 := hid (show Blk w1 w.heap.size 23 (ar 32 k) by rw [← hw1]; exact ((Blk.new _ _ _).alloc _).alloc _)
  have b1 := hid (show Blk w1 (w.heap.size + 1) 23 (ar 32 f) by rw [← hw1]; exact (Blk.top rfl (by simp)).alloc _)
  have b2 := hid (show Blk w1 (w.heap.size + 1 + 1) 27 (ar 32 fun _ => 0) by rw [← hw1]; exact Blk.top rfl (by simp))
  have hb := hid (show Below w.heap.size w w1 by rw [← hw1]; exact (((Below.refl _ _).alloc (Nat.le_refl _) _).alloc (by simp) _).alloc (by simp; omega) _)
  have sa := hid (SA.out.on hb.out)
  clear hw1 SA
  go_wp2_with ((with_reducible apply ldA tK); rfl; exact b0.out)
  refine (psub_any k HK.out s uSeal HS.out (by decide) n HN.out w1 sa.out).mono ?_
  rintro e w2 ⟨rfl, h2⟩
  rw [lab_seal, ← HG.out]
  have c1 := hid (b1.out.below h2 b1.out.lt)
  have c2 := hid (b2.out.below h2 b2.out.lt)
  have cb := hid (hb.out.trans (h2.mono hb.out.size))
  have cs := hid (sa.out.on h2)
  have hl2 := c2.out.lt
  clear b0 b1 b2 hb h2 sa
  have hz : Blk (w2.alloc (.cells (ar 32 fun _ => 0) 23)) w2.heap.size 23 (ar 32 fun _ => 0) := Blk.new _ _ _
  obtain ⟨gd, hgd⟩ : ∃ gd, gd = w2.heap.size := ⟨_, rfl⟩
  go_upto_region 2 with (first | (with_reducible apply alA tK) | ((with_reducible apply stA tK); rfl; rfl; exact hz))
  rw [← hgd] at hz hl2 ⊢
  generalize hw3 : World.setRow _ _ _ = w3
  have d1 := hid (show Blk w3 (w.heap.size + 1) 23 (ar 32 f) by rw [← hw3]; exact (c1.out.alloc _).setRow_other (by omega) _)
  have d2 := hid (show Blk w3 (w.heap.size + 1 + 1) 27 (ar 32 fun _ => 0) by rw [← hw3]; exact (c2.out.alloc _).setRow_other (by omega) _)
  have dd := hid (show Blk w3 gd 23 (ar 32 G) by rw [← hw3]; exact hz.setRow_same _)
  have db := hid (show Below w.heap.size w w3 by rw [← hw3]; exact below_setRow (cb.out.alloc cb.out.size _) (by omega) _)
  have ds := hid (show Salts w3 by rw [← hw3]; exact cs.out.on (below_setRow ((Below.refl _ _).alloc (Nat.le_refl _) _) (by omega) _))
  clear hw3 hz c1 c2 cb cs hgd
  have aa := key_arg d1.out HF.out
  have hr := rws_single (w := w3.alloc (.cells #[.slice (some ⟨w.heap.size + 1, 0, none⟩) (HmM.dl f).length 32] 39)) (Blk.new _ _ _) (aa.on ((Below.refl _ _).alloc (Nat.le_refl _) _))
  have e0 := hid ((Below.refl w3.heap.size w3).alloc (Nat.le_refl _) (.cells #[.slice (some ⟨w.heap.size + 1, 0, none⟩) (HmM.dl f).length 32] 39))
  rw [HmM.dl_length] at hr e0
  have HR := hid hr
  clear aa hr
  go_wp2_with fail
  refine (prow_any 66 (by omega) _ [HmM.dl f] 1 1 (by omega) (by rw [flat_key]; omega) _ HR.out).mono ?_
  rintro e w4 ⟨v, rfl, o4, h4⟩
  obtain ⟨A, acap, rfl, aa⟩ := o4.arg (rowK_256 HF.out)
  rw [show BytM.rowB 66 [HmM.dl f] = rowK f from rfl, rowK_length] at aa ⊢
  have h34 := hid (e0.out.trans (h4.mono e0.out.size))
  have f2 := hid (d2.out.below h34.out d2.out.lt)
  have fd := hid (dd.out.below h34.out dd.out.lt)
  have fb := hid (db.out.trans (h34.out.mono db.out.size))
  have fs := hid (ds.out.on h34.out)
  have AA := hid aa
  clear d1 d2 dd db ds o4 h4 HR aa e0 h34
  go_wp2_with fail
  refine (hof_any _ (HmM.dl G) 32 32 (HmM.dl_length G) (Nat.le_refl _) (by unfold maxLen; omega) (by omega) (HmM.dl_256 GB.out) A (rowK f) _ acap (rowK_length f) AA.out.cap AA.out.max AA.out.b256 (by omega) w4 (key_byt fd.out) AA.out.byt fs.out).mono ?_
  rintro e w5 ⟨rfl, h5⟩
  rw [HTE.out]
  have e2 := f2.out.below h5 f2.out.lt
  have eb := hid (fb.out.trans (h5.mono fb.out.size))
  clear f2 fd fb fs h5 AA
  go_wp2_with ((with_reducible apply stA tT); rfl; rfl; exact e2)
  apply ret_ar tT Tryd.results23
  · rfl
  · rfl
  · exact e2.setRow_same _
  exact ⟨rfl, below_setRow eb.out (by omega) _⟩
end BxP
end Go.Proofs.YtdfoehcdabmagaaDoor
set_option maxRecDepth 100000
namespace Go.Proofs.YtdfoehcdabmagaaDoor
open Go.ChangeShapes Go.WideShapes Go.ChangeAt Go.RowKit
open DvP (tK tT sub)
attribute [local go_sem] Gives
namespace BxP
set_option maxHeartbeats 400000 in
theorem psum_any (f g : Nat → Nat) (hf : ∀ i, f i < 256) (hg : ∀ i, g i < 256) (w : World) :
    Calls Tryd.prog 21 #[.agg (ar 32 f), .agg (ar 32 g)] w fun e w' => e = .returned (.agg (ar 32 (xorF f g))) ∧ Below w.heap.size w w' := by
  have HF := hid hf
  have HG := hid hg
  clear hf hg
  go_enter Tryd.func21, Tryd.ntmps21
  go_upto_region 1 with (with_reducible apply alA tK)
  rw [show ((w.alloc (.cells (ar 32 f) 23)).alloc (.cells (ar 32 g) 23)).heap.size = w.heap.size + 1 + 1 by simp]
  generalize hw1 : World.alloc (World.alloc (World.alloc w _) _) _ = w1
  have d0 := show Blk w1 w.heap.size 23 (ar 32 f) by rw [← hw1]; exact ((Blk.new _ _ _).alloc _).alloc _
  have d1 := show Blk w1 (w.heap.size + 1) 23 (ar 32 g) by rw [← hw1]; exact (Blk.top rfl (by simp)).alloc _
  have d2 := show Blk w1 (w.heap.size + 1 + 1) 23 (ar 32 fun _ => 0) by rw [← hw1]; exact Blk.top rfl (by simp)
  have db := show Below w.heap.size w w1 by rw [← hw1]; exact (((Below.refl _ _).alloc (Nat.le_refl _) _).alloc (by simp) _).alloc (by simp; omega) _
  clear hw1
  go_wp2_with fail
  go_loopw [5, 6] (fun v u wr => ∃ (i : Nat) (vo : Value), i ≤ 32 ∧ v = vo ∧ u = .int .i64 i ∧ Blk wr w.heap.size 23 (ar 32 (upTo i f (xorF f g))) ∧ Blk wr (w.heap.size + 1) 23 (ar 32 g) ∧ Blk wr (w.heap.size + 1 + 1) 23 (ar 32 fun _ => 0) ∧ Below w.heap.size w wr) (fun _ u _ => 32 - (intOf u).toNat)
  case atStart => exact ⟨0, _, by omega, rfl, rfl, by rw [upTo_zero]; exact d0, d1, d2, db⟩
  case round =>
    clear d0 d1 d2 db
    obtain ⟨i, vo, hi, rfl, rfl, b0, b1, b2, hb⟩ := hrel
    by_cases hlt : i < 32
    · have ti : (i : Int) < 32 := by omega
      have c1 : wr.cell? ⟨w.heap.size, i, none⟩ = some (.int .u8 (f i : Nat)) := by rw [b0.cell, get_ar hlt, upTo_at]
      have c2 : wr.cell? ⟨w.heap.size + 1, i, none⟩ = some (.int .u8 (g i : Nat)) := by rw [b1.cell, get_ar hlt]
      have c3 := b0.frozen i
      go_wp2_with fail
      go_still_tail 8, (by kernel_rfl)
      change wpList _ _ _ _ _ wr.drew
      rw [u8_xor_nat _ _ (HF.out i) (HG.out i)]
      go_wp2_with fail
      go_roundw
      case rel => exact ⟨i + 1, _, by omega, rfl, by go_num, (upTo_step (b0.setCell_same i _)).drew, (b1.setCell_other (by simp) _).drew, (b2.setCell_other (by simp; omega) _).drew, (hb.setCell (by simp) _).drew⟩
      case measure => simp [intOf]; omega
    · have ti : decide ((i : Int) < 32) = false := by simp; omega
      rw [upTo_all (by omega)] at b0
      go_wp2_with (first | ((with_reducible apply ldA tK); rfl; exact b0) | ((with_reducible apply stA tK); rfl; rfl; exact b2))
      apply ret_ar tK Tryd.results21
      · rfl
      · rfl
      · exact b2.setRow_same _
      exact ⟨rfl, below_setRow hb (by omega) _⟩
set_option maxHeartbeats 800000 in
theorem pwrap_any (k x : Nat → Nat) (hk : ∀ i, k i < 256) (hx : ∀ i, x i < 256) (s : ByteArray) (hs : s.size ≤ 100) (n : Nat) (hn : n < 18446744073709551616) (w : World) (hS : Salts w) :
    Calls Tryd.prog 8 #[.agg (ar 32 k), .string s, .int .u64 n, .agg (ar 32 x)] w fun e w' => e = .returned (.agg (ar 64 (boxF k s n x))) ∧ Below w.heap.size w w' := by
  have HK := hid hk
  have HX := hid hx
  have HN := hid hn
  have HS := hid hs
  have SA := hid hS
  clear hk hx hn hs hS
  obtain ⟨D, hD⟩ : ∃ D, D = xorF x (pad k s n) := ⟨_, rfl⟩
  obtain ⟨G, hG⟩ : ∃ G, G = tagB k s n D := ⟨_, rfl⟩
  rw [show boxF k s n x = duo D G by rw [hG, hD]; rfl]
  have HD := hid hD
  have HG := hid hG
  have DB := hid (show ∀ i, D i < 256 from by rw [hD]; exact xorF_lt HX.out (sub_lt _ _))
  clear hD hG
  go_enter Tryd.func8, Tryd.ntmps8
  go_upto_region 1 with (with_reducible apply alA tBox)
  rw [show ((w.alloc (.cells (ar 32 k) 23)).alloc (.cells (ar 32 x) 23)).heap.size = w.heap.size + 1 + 1 by simp]
  generalize hw1 : World.alloc (World.alloc (World.alloc w _) _) _ = w1
  have b0 := hid (show Blk w1 w.heap.size 23 (ar 32 k) by rw [← hw1]; exact ((Blk.new _ _ _).alloc _).alloc _)
  have b1 := hid (show Blk w1 (w.heap.size + 1) 23 (ar 32 x) by rw [← hw1]; exact (Blk.top rfl (by simp)).alloc _)
  have b2 := hid (show Blk w1 (w.heap.size + 1 + 1) 29 (ar 64 fun _ => 0) by rw [← hw1]; exact Blk.top rfl (by simp))
  have hb := hid (show Below w.heap.size w w1 by rw [← hw1]; exact (((Below.refl _ _).alloc (Nat.le_refl _) _).alloc (by simp) _).alloc (by simp; omega) _)
  have sa := hid (SA.out.on hb.out)
  clear hw1 SA
  have hl1 := b2.out.lt
  have sa' := hid sa.out.1
  refine wp_region_new1 (C := fun w' => Below w1.heap.size w1 w') 6 23 (ar 32 fun _ => 0) 9 rfl (by kernel_rfl) (by kernel_rfl) (by kernel_rfl) (run_alloc_ar tK) (Below.refl _ _).drew (fun w' hw' => hw'.alloc hw'.size _) (fun w' hw' => hw'.size) ?_
  simp only [List.take_succ_cons, List.take_zero, List.drop_succ_cons, List.drop_zero]
  apply bldA tK
  · rfl
  · rfl
  · exact fun w' hw' => (b1.out.below hw' b1.out.lt).head
  simp only [Act.put, List.setIfInBounds_toArray, List.set_cons_succ, List.set_cons_zero]
  apply bldA tK
  · rfl
  · rfl
  · exact fun w' hw' => (b0.out.below hw' b0.out.lt).head
  simp only [Act.put, List.setIfInBounds_toArray, List.set_cons_succ, List.set_cons_zero]
  apply wpB_val
  · rfl
  · intro w' hw'
    have hbl := Below.refl w'.heap.size w'
    go_simp
    first | exact rfl | exact ⟨rfl, hbl⟩ | exact ⟨rfl, hw', hbl⟩
  simp only [Act.put, List.setIfInBounds_toArray, List.set_cons_succ, List.set_cons_zero]
  apply wpB_val
  · rfl
  · intro w' hw'
    have hbl := Below.refl w'.heap.size w'
    go_simp
    first | exact rfl | exact ⟨rfl, hbl⟩ | exact ⟨rfl, hw', hbl⟩
  simp only [Act.put, List.setIfInBounds_toArray, List.set_cons_succ, List.set_cons_zero]
  apply wpB_val
  · rfl
  · intro w' hw'
    go_simp
    exact (ppad_any k HK.out s HS.out n HN.out w' (sa.out.on hw')).mono fun e w2 h => ⟨h.1, hw'.trans (h.2.mono hw'.size), h.2⟩
  simp only [Act.put, List.setIfInBounds_toArray, List.set_cons_succ, List.set_cons_zero]
  apply wpB_val
  · rfl
  · intro w' hw'
    go_simp
    exact (psum_any x (pad k s n) HX.out (sub_lt _ _) w').mono fun e w2 h => ⟨h.1, hw'.trans (h.2.mono hw'.size), h.2⟩
  simp only [Act.put, List.setIfInBounds_toArray, List.set_cons_succ, List.set_cons_zero]
  rw [← HD.out]
  refine wpB_nil fun gp w2 hw2 qp hgp => ?_
  have c0 := hid (b0.out.below hw2 b0.out.lt)
  have c2 := hid (b2.out.below hw2 b2.out.lt)
  have cb := hid (hb.out.trans (hw2.mono hb.out.size))
  have cs := hid (sa.out.on hw2)
  clear b0 b1 b2 hb hw2 sa
  unfold ptr
  go_upto_region 2 with ((with_reducible apply stA tK); rfl; rfl; exact qp)
  generalize hw3 : World.setRow _ _ _ = w3
  have d0 := hid (show Blk w3 w.heap.size 23 (ar 32 k) by rw [← hw3]; exact c0.out.setRow_other (by omega) _)
  have d2 := hid (show Blk w3 (w.heap.size + 1 + 1) 29 (ar 64 fun _ => 0) by rw [← hw3]; exact c2.out.setRow_other (by omega) _)
  have dp := hid (show Blk w3 gp 23 (ar 32 D) by rw [← hw3]; exact qp.setRow_same _)
  have db := hid (show Below w.heap.size w w3 by rw [← hw3]; exact below_setRow cb.out (by omega) _)
  have ds := hid (show Salts w3 by rw [← hw3]; exact cs.out.below (below_setRow (Below.refl gp w2) (Nat.le_refl _) _) (Nat.lt_of_lt_of_le sa'.out hgp))
  clear hw3 qp c0 c2 cb cs hgp hl1
  refine wp_region_tail (C := fun w' => Below w3.heap.size w3 w') 6 (by kernel_rfl) (by kernel_rfl) (by kernel_rfl) (Below.refl _ _).drew ?_
  simp only [List.take_succ_cons, List.take_zero, List.drop_succ_cons, List.drop_zero]
  apply kldA tK
  · rfl
  · rfl
  · exact fun w' hw' => (dp.out.below hw' dp.out.lt).head
  simp only [Act.put, List.setIfInBounds_toArray, List.set_cons_succ, List.set_cons_zero]
  apply kldA tK
  · rfl
  · rfl
  · exact fun w' hw' => (d0.out.below hw' d0.out.lt).head
  simp only [Act.put, List.setIfInBounds_toArray, List.set_cons_succ, List.set_cons_zero]
  apply wpK_val
  · rfl
  · intro w' hw'
    go_simp
    first | exact rfl | exact ⟨rfl, hw'⟩
  simp only [Act.put, List.setIfInBounds_toArray, List.set_cons_succ, List.set_cons_zero]
  apply wpK_val
  · rfl
  · intro w' hw'
    go_simp
    first | exact rfl | exact ⟨rfl, hw'⟩
  simp only [Act.put, List.setIfInBounds_toArray, List.set_cons_succ, List.set_cons_zero]
  apply kldA tK
  · rfl
  · rfl
  · exact fun w' hw' => (dp.out.below hw' dp.out.lt).head
  simp only [Act.put, List.setIfInBounds_toArray, List.set_cons_succ, List.set_cons_zero]
  apply wpK_val
  · rfl
  · intro w' hw'
    go_simp
    exact (ptag_any k D HK.out DB.out s HS.out n HN.out w' (ds.out.on hw')).mono fun e w2 h => ⟨h.1, hw'.trans (h.2.mono hw'.size)⟩
  simp only [Act.put, List.setIfInBounds_toArray, List.set_cons_succ, List.set_cons_zero]
  rw [← HG.out]
  refine wpK_nil fun w4 hw4 => ?_
  have e2 := d2.out.below hw4 d2.out.lt
  have eb := hid (db.out.trans (hw4.mono db.out.size))
  clear d0 d2 dp db ds hw4
  go_wp2_with (first | ((with_reducible apply bldBox); rfl; rfl) | ((with_reducible apply stA tBox); rfl; rfl; exact e2))
  apply ret_ar tBox Tryd.results8
  · rfl
  · rfl
  · exact e2.setRow_same _
  exact ⟨rfl, below_setRow eb.out (by omega) _⟩
end BxP
end Go.Proofs.YtdfoehcdabmagaaDoor
set_option maxRecDepth 100000
namespace Go.Proofs.YtdfoehcdabmagaaDoor
open Go.ChangeShapes Go.WideShapes Go.ChangeAt Go.RowKit
attribute [local go_sem] Gives
/-- What the first k bytes' differences make. -/
def dif (f g : Nat → Nat) : Nat → Nat
  | 0 => 0
  | k + 1 => dif f g k ||| (f k ^^^ g k)
theorem dif_lt {f g : Nat → Nat} (hf : ∀ k, f k < 256) (hg : ∀ k, g k < 256) : ∀ k, dif f g k < 256
  | 0 => by unfold dif; omega
  | k + 1 => Nat.or_lt_two_pow (n := 8) (dif_lt hf hg k) (Nat.xor_lt_two_pow (n := 8) (hf k) (hg k))
theorem dif_zero (f g : Nat → Nat) : ∀ k, dif f g k = 0 ↔ ∀ j, j < k → f j = g j
  | 0 => ⟨fun _ j hj => absurd hj (by omega), fun _ => rfl⟩
  | k + 1 => by
    rw [dif, Nat.or_eq_zero_iff, dif_zero f g k, xor_zero]
    constructor
    · rintro ⟨h1, h2⟩ j hj
      by_cases e : j = k
      · subst e; exact h2
      · exact h1 j (by omega)
    · intro h; exact ⟨fun j hj => h j (by omega), h k (by omega)⟩
theorem dif_eqT (f g : Nat → Nat) : decide (dif f g 32 = 0) = eqT f g := by
  by_cases h : dif f g 32 = 0
  · rw [decide_eq_true h, eqT_iff.2 ((dif_zero f g 32).1 h)]
  · rw [decide_eq_false h]
    cases e : eqT f g with
    | false => rfl
    | true => exact absurd ((dif_zero f g 32).2 (eqT_iff.1 e)) h
set_option maxHeartbeats 400000 in
set_option maxRecDepth 100000 in
/-- P4.2. -/
theorem same_any (f g : Nat → Nat) (hf : ∀ k, f k < 256) (hg : ∀ k, g k < 256) (w : World) :
    Calls Tryd.prog 28 #[.agg (tag f), .agg (tag g)] w fun e w' => e = .returned (.bool (eqT f g)) ∧ Below w.heap.size w w' := by
  have HF := hid hf
  have HG := hid hg
  clear hf hg
  go_enter Tryd.func28, Tryd.ntmps28
  go_upto_region 3 with fail
  generalize hw3 : World.alloc (World.alloc w _) _ = w3
  have b1 : Blk w3 w.heap.size 27 (tag f) := by rw [← hw3]; exact (Blk.top rfl rfl).alloc _
  have b2 : Blk w3 (w.heap.size + 1) 27 (tag g) := by rw [← hw3]; exact Blk.top rfl (by simp)
  have hb : Below w.heap.size w w3 := by rw [← hw3]; exact ((Below.refl _ _).alloc (Nat.le_refl _) _).alloc (by simp) _
  clear hw3
  have B1 := hid b1
  have B2 := hid b2
  have BEL := hid hb
  clear b1 b2 hb
  go_loopw [5, 7] (fun u v wr => ∃ k d : Nat, k ≤ 32 ∧ v = .int .i64 k ∧ u = .int .u8 d ∧ Hid (d = dif f g k) ∧ Hid (Drew w3 wr ∨ wr = w3)) (fun _ v _ => 32 - (intOf v).toNat)
  case atStart => exact ⟨0, 0, by omega, rfl, rfl, hid rfl, hid (.inr rfl)⟩
  case round =>
    obtain ⟨k, d, hk, rfl, rfl, hd, hw⟩ := hrel
    have b1 : Blk wr w.heap.size 27 (tag f) := by
      rcases hw.out with h | h
      · exact h.blk B1.out
      · rw [h]; exact B1.out
    have b2 : Blk wr (w.heap.size + 1) 27 (tag g) := by
      rcases hw.out with h | h
      · exact h.blk B2.out
      · rw [h]; exact B2.out
    have hb : Below w.heap.size w wr := by
      rcases hw.out with h | h
      · exact h.below BEL.out
      · rw [h]; exact BEL.out
    have hdl : d < 256 := by rw [hd.out]; exact dif_lt HF.out HG.out k
    by_cases hlt : k < 32
    · have tk : (k : Int) < 32 := by omega
      have q1 := (b1.cell k).trans (get_tag hlt)
      have q2 := (b2.cell k).trans (get_tag hlt)
      have hfk := HF.out k
      have hgk := HG.out k
      have ex : bits .xor .u8 ((f k : Nat) : Int) ((g k : Nat) : Int) = ((f k ^^^ g k : Nat) : Int) := u8_xor_nat _ _ hfk hgk
      have eo : bits .or .u8 (d : Int) ((f k ^^^ g k : Nat) : Int) = ((d ||| (f k ^^^ g k) : Nat) : Int) := u8_or_nat _ _ hdl (Nat.xor_lt_two_pow (n := 8) hfk hgk)
      have Q1 := hid q1
      have Q2 := hid q2
      have EX := hid ex
      have EO := hid eo
      clear q1 q2 ex eo b1 b2 hb
      go_wp2_with fail
      refine wp_region_tail (C := Drew wr) 9 (by kernel_rfl) (by kernel_rfl) (by kernel_rfl) (Drew.refl _) ?_
      simp only [List.take_succ_cons, List.take_zero, List.drop_succ_cons, List.drop_zero]
      apply wpK_val
      · rfl
      · intro w' hw'
        go_simp
        first | exact rfl | exact ⟨rfl, hw'⟩
      simp only [Act.put, List.setIfInBounds_toArray, List.set_cons_succ, List.set_cons_zero]
      apply wpK_val
      · rfl
      · intro w' hw'
        go_simp
        first | exact rfl | exact ⟨rfl, hw'⟩
      simp only [Act.put, List.setIfInBounds_toArray, List.set_cons_succ, List.set_cons_zero]
      apply wpK_val
      · rfl
      · intro w' hw'
        go_simp
        first | exact rfl | exact ⟨rfl, hw'⟩
      simp only [Act.put, List.setIfInBounds_toArray, List.set_cons_succ, List.set_cons_zero]
      apply wpK_val
      · rfl
      · intro w' hw'
        have hcell := hw'.cell Q1.out
        go_simp
        first | exact rfl | exact ⟨rfl, hw'⟩
      simp only [Act.put, List.setIfInBounds_toArray, List.set_cons_succ, List.set_cons_zero]
      apply wpK_val
      · rfl
      · intro w' hw'
        go_simp
        first | exact rfl | exact ⟨rfl, hw'⟩
      simp only [Act.put, List.setIfInBounds_toArray, List.set_cons_succ, List.set_cons_zero]
      apply wpK_val
      · rfl
      · intro w' hw'
        go_simp
        first | exact rfl | exact ⟨rfl, hw'⟩
      simp only [Act.put, List.setIfInBounds_toArray, List.set_cons_succ, List.set_cons_zero]
      apply wpK_val
      · rfl
      · intro w' hw'
        have hcell := hw'.cell Q2.out
        go_simp
        first | exact rfl | exact ⟨rfl, hw'⟩
      simp only [Act.put, List.setIfInBounds_toArray, List.set_cons_succ, List.set_cons_zero]
      apply wpK_val
      · rfl
      · intro w' hw'
        have h1 : _ := EX.out
        go_simp
        first | exact rfl | exact ⟨rfl, hw'⟩
      simp only [Act.put, List.setIfInBounds_toArray, List.set_cons_succ, List.set_cons_zero]
      apply wpK_val
      · rfl
      · intro w' hw'
        have h1 : _ := EO.out
        go_simp
        first | exact rfl | exact ⟨rfl, hw'⟩
      simp only [Act.put, List.setIfInBounds_toArray, List.set_cons_succ, List.set_cons_zero]
      refine wpK_nil fun w5 hw5 => ?_
      go_wp2_with fail
      go_roundw
      case rel =>
        refine ⟨k + 1, d ||| (f k ^^^ g k), by omega, by go_num, rfl, hid (by rw [dif, hd.out]), hid (.inl ?_)⟩
        rcases hw.out with h | h
        · obtain ⟨a, ha⟩ := h
          obtain ⟨b, hb⟩ := hw5
          exact ⟨a + b, by rw [hb, ha]; simp⟩
        · rw [← h]; exact hw5
      case measure => simp [intOf]; omega
    · have tk : decide ((k : Int) < 32) = false := by simp; omega
      obtain rfl : k = 32 := by omega
      have hE := dif_eqT f g
      rw [← hd.out] at hE
      have HE := hid hE
      clear hE b1 b2
      by_cases hd0 : d = 0
      · have t0 : ((d : Int) == 0) = true := by rw [beq_iff_eq]; omega
        go_wp2_with fail
        go_ret
        exact ⟨by rw [← HE.out, decide_eq_true hd0]; rfl, hb⟩
      · have t0 : ((d : Int) == 0) = false := by rw [beq_eq_false_iff_ne]; omega
        go_wp2_with fail
        go_ret
        exact ⟨by rw [← HE.out, decide_eq_false hd0]; rfl, hb⟩
/-- The bytes of the known text. -/
def foxL : List Nat := [84, 104, 101, 32, 113, 117, 105, 99, 107, 32, 98, 114, 111, 119, 110, 32, 102, 111, 120, 32, 106, 117, 109, 112, 115, 32, 111, 118, 101, 114, 32, 116, 104, 101, 32, 108, 97, 122, 121, 32, 100, 111, 103]
theorem foxL_length : foxL.length = 43 := rfl
theorem foxL_256 : B256 foxL := by unfold B256 foxL; decide
def keyL : List Nat := [107, 101, 121]
theorem keyL_256 : B256 keyL := by unfold B256 keyL; decide
theorem fox_0 : HmM.tag keyL foxL 0 = 247 := by unfold keyL foxL; rw [tag_fox]; decide +kernel
theorem fox_1 : HmM.tag keyL foxL 1 = 188 := by unfold keyL foxL; rw [tag_fox]; decide +kernel
theorem fox_31 : HmM.tag keyL foxL 31 = 216 := by unfold keyL foxL; rw [tag_fox]; decide +kernel
end Go.Proofs.YtdfoehcdabmagaaDoor
set_option maxRecDepth 100000
namespace Go.Proofs.YtdfoehcdabmagaaDoor
open Go.ChangeShapes Go.WideShapes Go.ChangeAt Go.RowKit
open DvP (tK tT sub)
attribute [local go_sem] Gives
namespace BxP
theorem eqT_back {f g : Nat → Nat} {bt : Bool} (h : eqA 32 f g = bt) : eqT g f = bt := by
  cases bt with
  | true => exact eqT_iff.2 fun j hj => (eqA_iff.1 h j hj).symm
  | false =>
    cases e : eqT g f with
    | false => rfl
    | true => rw [eqA_yes fun j hj => (eqT_iff.1 e j hj).symm] at h; cases h
set_option maxHeartbeats 800000 in
theorem punwrap_any (k f g : Nat → Nat) (hk : ∀ i, k i < 256) (hf : ∀ i, f i < 256) (hg : ∀ i, g i < 256) (s : ByteArray) (hs : s.size ≤ 100) (n : Nat) (hn : n < 18446744073709551616) (bt : Bool) (hbt : eqA 32 (tagB k s n f) g = bt) (w : World) (hS : Salts w) :
    Calls Tryd.prog 11 #[.agg (ar 32 k), .string s, .int .u64 n, .agg (ar 64 (duo f g))] w fun e w' => e = .returned (.tuple #[.agg (ar 32 (if bt then xorF f (pad k s n) else fun _ => 0)), .int .i64 (if bt then 0 else 12)]) ∧ Below w.heap.size w w' := by
  have HK := hid hk
  have HF := hid hf
  have HGG := hid hg
  have HN := hid hn
  have HS := hid hs
  have SA := hid hS
  obtain ⟨T, hT⟩ : ∃ T, T = tagB k s n f := ⟨_, rfl⟩
  rw [← hT] at hbt
  have HB := hid (eqT_back hbt)
  have HT := hid hT
  have TB := hid (show ∀ i, T i < 256 by rw [hT]; exact tagB_lt _ _ _ _)
  obtain ⟨D, hD⟩ : ∃ D, D = xorF f (pad k s n) := ⟨_, rfl⟩
  rw [← hD]
  have HD := hid hD
  clear hk hf hg hn hs hbt hS hT hD
  go_enter Tryd.func11, Tryd.ntmps11
  go_upto_region 1 with (with_reducible apply alA tK)
  generalize hw1 : World.alloc (World.alloc (World.alloc w _) _) _ = w1
  have b0 := hid (show Blk w1 w.heap.size 23 (ar 32 k) by rw [← hw1]; exact ((Blk.new _ _ _).alloc _).alloc _)
  have b1 := hid (show Blk w1 (w.heap.size + 1) 29 (ar 64 (duo f g)) by rw [← hw1]; exact (Blk.top rfl (by simp)).alloc _)
  have b2 := hid (show Blk w1 (w.heap.size + 1 + 1) 23 (ar 32 fun _ => 0) by rw [← hw1]; exact Blk.top rfl (by simp))
  have hb := hid (show Below w.heap.size w w1 by rw [← hw1]; exact (((Below.refl _ _).alloc (Nat.le_refl _) _).alloc (by simp) _).alloc (by simp; omega) _)
  have sa := hid (SA.out.on hb.out)
  clear hw1 SA
  refine wp_region_tail (C := fun w' => Below w1.heap.size w1 w') 10 (by kernel_rfl) (by kernel_rfl) (by kernel_rfl) (Below.refl _ _).drew ?_
  simp only [List.take_succ_cons, List.take_zero, List.drop_succ_cons, List.drop_zero]
  apply wpK_val
  · rfl
  · intro w' hw'
    go_simp
    first | exact rfl | exact ⟨rfl, hw'⟩
  simp only [Act.put, List.setIfInBounds_toArray, List.set_cons_succ, List.set_cons_zero]
  apply kldA tT
  · rfl
  · rfl
  · exact fun w' hw' => duo_at1 (b1.out.below hw' b1.out.lt)
  simp only [Act.put, List.setIfInBounds_toArray, List.set_cons_succ, List.set_cons_zero]
  apply kldA tK
  · rfl
  · rfl
  · exact fun w' hw' => (b0.out.below hw' b0.out.lt).head
  simp only [Act.put, List.setIfInBounds_toArray, List.set_cons_succ, List.set_cons_zero]
  apply wpK_val
  · rfl
  · intro w' hw'
    go_simp
    first | exact rfl | exact ⟨rfl, hw'⟩
  simp only [Act.put, List.setIfInBounds_toArray, List.set_cons_succ, List.set_cons_zero]
  apply wpK_val
  · rfl
  · intro w' hw'
    go_simp
    first | exact rfl | exact ⟨rfl, hw'⟩
  simp only [Act.put, List.setIfInBounds_toArray, List.set_cons_succ, List.set_cons_zero]
  apply wpK_val
  · rfl
  · intro w' hw'
    go_simp
    first | exact rfl | exact ⟨rfl, hw'⟩
  simp only [Act.put, List.setIfInBounds_toArray, List.set_cons_succ, List.set_cons_zero]
  apply kldA tK
  · rfl
  · rfl
  · exact fun w' hw' => duo_at0 (b1.out.below hw' b1.out.lt)
  simp only [Act.put, List.setIfInBounds_toArray, List.set_cons_succ, List.set_cons_zero]
  apply wpK_val
  · rfl
  · intro w' hw'
    go_simp
    exact (ptag_any k f HK.out HF.out s HS.out n HN.out w' (sa.out.on hw')).mono fun e w2 h => ⟨h.1, hw'.trans (h.2.mono hw'.size)⟩
  simp only [Act.put, List.setIfInBounds_toArray, List.set_cons_succ, List.set_cons_zero]
  rw [← HT.out, show ar 32 T = tag T from rfl, show ar 32 g = tag g from rfl]
  apply wpK_val
  · rfl
  · intro w' hw'
    go_simp
    exact (same_any g T HGG.out TB.out w').mono fun e w2 h => ⟨h.1, hw'.trans (h.2.mono hw'.size)⟩
  simp only [Act.put, List.setIfInBounds_toArray, List.set_cons_succ, List.set_cons_zero]
  rw [HB.out]
  apply wpK_val
  · rfl
  · intro w' hw'
    go_simp
    first | exact rfl | exact ⟨rfl, hw'⟩
  simp only [Act.put, List.setIfInBounds_toArray, List.set_cons_succ, List.set_cons_zero]
  refine wpK_nil fun w2 hw2 => ?_
  have c0 := hid (b0.out.below hw2 b0.out.lt)
  have c1 := hid (b1.out.below hw2 b1.out.lt)
  have c2 := hid (b2.out.below hw2 b2.out.lt)
  have cb := hid (hb.out.trans (hw2.mono hb.out.size))
  have cs := hid (sa.out.on hw2)
  clear b0 b1 b2 hb hw2 sa HB
  cases bt with
  | false =>
    go_wp2_with (first | (with_reducible apply bldZ (n := 32) (by kernel_rfl)) | ((with_reducible apply stA tK); rfl; rfl; exact c2.out))
    apply ret_art tK Tryd.results11
    · rfl
    · rfl
    · rfl
    · exact c2.out.setRow_same _
    exact ⟨rfl, below_setRow cb.out (by omega) _⟩
  | true =>
    go_upto_region 3 with fail
    refine wp_region_tail (C := fun w' => Below w2.heap.size w2 w') 7 (by kernel_rfl) (by kernel_rfl) (by kernel_rfl) (Below.refl _ _).drew ?_
    simp only [List.take_succ_cons, List.take_zero, List.drop_succ_cons, List.drop_zero]
    apply wpK_val
    · rfl
    · intro w' hw'
      go_simp
      first | exact rfl | exact ⟨rfl, hw'⟩
    simp only [Act.put, List.setIfInBounds_toArray, List.set_cons_succ, List.set_cons_zero]
    apply kldA tK
    · rfl
    · rfl
    · exact fun w' hw' => duo_at0 (c1.out.below hw' c1.out.lt)
    simp only [Act.put, List.setIfInBounds_toArray, List.set_cons_succ, List.set_cons_zero]
    apply kldA tK
    · rfl
    · rfl
    · exact fun w' hw' => (c0.out.below hw' c0.out.lt).head
    simp only [Act.put, List.setIfInBounds_toArray, List.set_cons_succ, List.set_cons_zero]
    apply wpK_val
    · rfl
    · intro w' hw'
      go_simp
      first | exact rfl | exact ⟨rfl, hw'⟩
    simp only [Act.put, List.setIfInBounds_toArray, List.set_cons_succ, List.set_cons_zero]
    apply wpK_val
    · rfl
    · intro w' hw'
      go_simp
      first | exact rfl | exact ⟨rfl, hw'⟩
    simp only [Act.put, List.setIfInBounds_toArray, List.set_cons_succ, List.set_cons_zero]
    apply wpK_val
    · rfl
    · intro w' hw'
      go_simp
      exact (ppad_any k HK.out s HS.out n HN.out w' (cs.out.on hw')).mono fun e w3 h => ⟨h.1, hw'.trans (h.2.mono hw'.size)⟩
    simp only [Act.put, List.setIfInBounds_toArray, List.set_cons_succ, List.set_cons_zero]
    apply wpK_val
    · rfl
    · intro w' hw'
      go_simp
      exact (psum_any f (pad k s n) HF.out (sub_lt _ _) w').mono fun e w3 h => ⟨h.1, hw'.trans (h.2.mono hw'.size)⟩
    simp only [Act.put, List.setIfInBounds_toArray, List.set_cons_succ, List.set_cons_zero]
    rw [← HD.out]
    refine wpK_nil fun w3 hw3 => ?_
    have d2 := c2.out.below hw3 c2.out.lt
    have db := hid (cb.out.trans (hw3.mono cb.out.size))
    clear c0 c1 c2 cb cs hw3
    go_wp2_with ((with_reducible apply stA tK); rfl; rfl; exact d2)
    apply ret_art tK Tryd.results11
    · rfl
    · rfl
    · rfl
    · exact d2.setRow_same _
    exact ⟨rfl, below_setRow db.out (by omega) _⟩
end BxP
end Go.Proofs.YtdfoehcdabmagaaDoor
set_option maxRecDepth 100000
namespace Go.Proofs.YtdfoehcdabmagaaDoor
open Go.ChangeShapes Go.WideShapes Go.ChangeAt Go.RowKit
attribute [local go_sem] Gives
set_option maxHeartbeats 400000 in
theorem grow_nil (n : Nat) (hn : n ≤ 1000000) (w : World) :
    Calls Tryd.prog 42 #[.slice none 0 0, .int .i64 n] w fun e w' => ∃ v, e = .returned v ∧ Own 5 .u8 w' w.heap.size v [] ∧ Below w.heap.size w w' := by
  by_cases h0 : n = 0
  · subst h0
    go_enter Tryd.func42, Tryd.ntmps42
    go_wp2_with fail
    go_ret
    exact ⟨_, rfl, Own.nil, Below.refl _ _⟩
  · obtain ⟨i, hi, hz, h1, h2⟩ := eltB.inf
    have t0 : decide ((n : Int) < 0) = false := by simp
    have t1 : decide ((0 : Int) < (n : Int)) = true := by simp; omega
    have hr : ∀ ty, (Builtin.append_ #[39, 3] ty #[.slice none 0 0, .int .i64 (n : Nat)]).run Tryd.prog w = .ok (.slice (some ⟨w.heap.size, 0, none⟩) n (grownCap w n 0 5)) (w.drew.alloc (.cells (Builtin.zeroCells (Value.int .u8 0).cells n ++ Builtin.zeroCells (Value.int .u8 0).cells (grownCap w n 0 5 - n)) 5)) := fun ty =>
      Lib.run_append_nil_zeros w 39 3 ty 5 i (.int .u8 0) .i64 .i64 Tryd.underlying39 Tryd.underlying3 hi hz n (by omega) (by rw [h1]; omega) (by omega) (Nat.le_trans (Nat.mul_le_mul hn h2) (by omega))
    have hG := grownCap_le_maxLen w n 0 5 (by unfold maxLen; omega)
    have hGn := grownCap_ge w n 0 5
    generalize hcs : Builtin.zeroCells (Value.int .u8 0).cells n ++ Builtin.zeroCells (Value.int .u8 0).cells (grownCap w n 0 5 - n) = cs at hr
    have hcz : cs.size = grownCap w n 0 5 := by rw [← hcs]; rw [Array.size_append, size_zeroCells, size_zeroCells]; show n * 1 + (_ - n) * 1 = _; omega
    generalize grownCap w n 0 5 = G at hr hG hGn hcz
    clear hcs
    have OW := hid (show Own 5 .u8 (w.drew.alloc (.cells cs 5)) w.heap.size (.slice (some ⟨w.heap.size, 0, none⟩) 0 G) [] from
      ⟨rfl, .inr ⟨w.heap.size, G, cs, rfl, Nat.le_refl _, heap_alloc_new _ _, Nat.zero_le _, hG, by omega, by simp [nums]⟩⟩)
    have BW := hid (show Below w.heap.size w (w.drew.alloc (.cells cs 5)) from (Below.refl _ _).drew.alloc (Nat.le_refl _) _)
    go_enter Tryd.func42, Tryd.ntmps42
    go_wp2_with (at_builtin; refine Lib.wpList_append_run _ rfl _ _ _ _ rfl _ _ rfl rfl _ _ (hr _) ?_)
    go_ret
    exact ⟨_, rfl, OW.out, BW.out⟩
theorem flatten_step {ls : List (List Nat)} {i : Nat} (h : i < ls.length) : (ls.take (i + 1)).flatten = (ls.take i).flatten ++ ls.getD i [] := by
  have e : ls.getD i [] = ls[i] := by rw [List.getD_eq_getElem?_getD, List.getElem?_eq_getElem h]; rfl
  rw [List.take_succ_eq_append_getElem h, ← e, List.flatten_append]
  show _ ++ (ls.getD i [] ++ []) = _
  rw [List.append_nil]
theorem flatten_take_le (ls : List (List Nat)) (i : Nat) : (ls.take i).flatten.length ≤ ls.flatten.length := by
  conv => rhs; rw [← List.take_append_drop i ls, List.flatten_append, List.length_append]
  omega
set_option maxHeartbeats 800000 in
theorem concat_any (A : Option Addr) (ls : List (List Nat)) (n cap : Nat) (hn : n ≤ 1000000) (hz : ls.flatten.length ≤ 1000000) (w : World) (h : Rws w A ls n cap) :
    Calls Tryd.prog 29 #[.slice A n cap] w fun e w' => ∃ v, e = .returned v ∧ Own 5 .u8 w' w.heap.size v ls.flatten ∧ Below w.heap.size w w' := by
  have H := hid h
  have HZ := hid hz
  clear h hz
  go_enter Tryd.func29, Tryd.ntmps29
  go_wp2_with fail
  go_loopw [3, 5, 11] (fun v u i wr => ∃ (j : Nat) (vo : Value), j ≤ n ∧ i = .int .i64 j ∧ u = vo ∧ v = .int .i64 ((ls.take j).flatten.length : Nat) ∧ Hid (wr = w)) (fun _ _ i _ => n - (intOf i).toNat)
  case atStart => exact ⟨0, _, by omega, rfl, rfl, rfl, hid rfl⟩
  case round =>
    obtain ⟨j, vo, hj, rfl, rfl, rfl, hwr⟩ := hrel
    obtain rfl := hwr.out
    clear hwr
    by_cases hlt : j < n
    · have tj : (j : Int) < (n : Int) := by omega
      obtain ⟨b, o, A', c, rfl, hbl, q1, a1⟩ := H.out.part hlt
      have hst := congrArg List.length (flatten_step (ls := ls) (i := j) (by rw [H.out.len]; exact hlt))
      rw [List.length_append] at hst
      have hle := flatten_take_le ls (j + 1)
      rw [hst] at hle
      have HST := hid hst
      generalize (ls.getD j []).length = m at *
      generalize (ls.take j).flatten.length = M at *
      have hM : M + m ≤ 1000000 := by have := HZ.out; omega
      have t0 : decide ((M : Int) + (m : Int) < 0) = false := by simp; omega
      have t2 : IntKind.i64.wrap ((M : Int) + (m : Int)) = (M : Int) + (m : Int) := by rw [IntKind.wrap_i64]; omega
      clear hst hle a1
      go_wp2_with fail
      go_roundw
      case rel => exact ⟨j + 1, _, by omega, by go_num, rfl, by rw [HST.out]; go_num, hid (by trivial)⟩
      case measure => simp [intOf] <;> omega
    · have tj : decide ((j : Int) < (n : Int)) = false := by simp; omega
      obtain rfl : j = n := by omega
      have hl : ls.take j = ls := List.take_of_length_le (by rw [H.out.len]; exact Nat.le_refl _)
      rw [hl]
      obtain ⟨M, hM⟩ : ∃ M, M = ls.flatten.length := ⟨_, rfl⟩
      rw [← hM]
      have HMM := hid hM
      have hM1 : M ≤ 1000000 := by rw [hM]; exact HZ.out
      clear hM hl
      go_wp2_with fail
      refine (grow_nil M hM1 wr).mono ?_
      rintro e w2 ⟨v, rfl, o2, b2⟩
      have O2 := hid o2
      have B2 := hid b2
      clear o2 b2
      go_wp2_with fail
      go_loopw [6, 8, 27] (fun v u i wq => ∃ (k : Nat) (vo v1 : Value), k ≤ j ∧ i = .int .i64 k ∧ u = vo ∧ v = v1 ∧ Hid (Own 5 .u8 wq wr.heap.size v1 (ls.take k).flatten) ∧ Hid (Below wr.heap.size wr wq)) (fun _ _ i _ => j - (intOf i).toNat)
      case atStart => exact ⟨0, _, _, by omega, rfl, rfl, rfl, O2, B2⟩
      case round =>
        clear O2 B2
        obtain ⟨k, vo, v1, hk, rfl, rfl, rfl, ho, hb⟩ := hrel
        by_cases hlt2 : k < j
        · have tj2 : (k : Int) < (j : Int) := by omega
          obtain ⟨b, o, A', c, rfl, hbl, q0, a1⟩ := H.out.part hlt2
          have q1 := (hb.out.cell (p := ⟨b, o + k, none⟩) hbl).trans q0
          have hst := flatten_step (ls := ls) (i := k) (by rw [H.out.len]; exact hlt2)
          have hle := flatten_take_le ls (k + 1)
          rw [hst, List.length_append] at hle
          have HLE := hid (Nat.le_trans hle HZ.out)
          have HST := hid hst
          generalize ls.getD k [] = m at *
          have A1 := hid (a1.on hb.out)
          clear hst hle a1 q0
          obtain ⟨M2, hMe⟩ : ∃ M2, M2 = m.length := ⟨_, rfl⟩
          rw [← hMe] at q1
          have ME := hid hMe
          have a5 := A1.out
          rw [← hMe] at a5
          have A5 := hid a5
          clear hMe a5 A1
          have hz2 := hb.out.size
          go_wp2_with (at_builtin; (with_reducible apply wappN_any eltB); rfl; rfl; exact A5.out.none; exact ho.out; exact A5.out.byt.nums; exact ME.out.symm; (have := HLE.out; have := ME.out; omega); exact hz2; intro v6 w6 o6 g6)
          have b6 := below_grown hb.out g6 ho.out (Nat.le_refl _) (Nat.le_refl _)
          go_roundw
          case rel => exact ⟨k + 1, _, v6, by omega, by go_num, rfl, rfl, hid (by rw [HST.out]; exact o6), hid b6⟩
          case measure => simp [intOf] <;> omega
        · have tj2 : decide ((k : Int) < (j : Int)) = false := by simp; omega
          obtain rfl : k = j := by omega
          have o9 := ho.out
          rw [List.take_of_length_le (by rw [H.out.len]; exact Nat.le_refl _)] at o9
          have O9 := hid o9
          clear o9 ho
          go_wp2_with fail
          go_ret
          exact ⟨_, rfl, O9.out, hb.out⟩
end Go.Proofs.YtdfoehcdabmagaaDoor
set_option maxRecDepth 100000
namespace Go.Proofs.YtdfoehcdabmagaaDoor
open Go.ChangeShapes Go.WideShapes Go.ChangeAt Go.RowKit
section
variable {a : Act} {w : World} {dst : Option Tmp} {ty : TypeId} {pos : String} {after : Array Edge} {gd : Option (Nat × Bool)} {s x : Operand} {m c B B' g : Nat} {kk : List Nat} {S e : TypeId} {k : IntKind} {ad : Addr}
theorem run_app0 (E : Elt S e k) (hown : Own e k w B (.slice (some ⟨g, 0, none⟩) 0 0) []) (hrd : Nums k w B' (some ad) kk) (hk : kk.length = m) (hsz : m ≤ 1000000) (hB : B ≤ w.heap.size) :
    ∃ v' w', (Builtin.append_ #[S, S] ty #[.slice (some ⟨g, 0, none⟩) 0 0, .slice (some ad) m c]).run Tryd.prog w = .ok v' w' ∧ Own e k w' B v' kk ∧ Below w.heap.size w w' := by
  obtain ⟨v', w', hr, ho, _⟩ := run_appN (ty := ty) (c := c) E hown hrd hk (by rw [List.length_nil]; omega) hB
  rw [List.nil_append] at ho
  obtain ⟨i, hi, hz, h1, h2⟩ := E.inf
  have hbytes : (0 + m) * i.bytes ≤ 140737488355328 := Nat.le_trans (Nat.mul_le_mul (show 0 + m ≤ 1000000 by omega) h2) (by omega)
  have hl1 : (nums k kk).length = m * i.size := by rw [nums_length, h1, Nat.mul_one, hk]
  refine ⟨v', w', hr, ho, ?_⟩
  by_cases hm : m = 0
  · rcases hown.2 with ⟨e', _⟩ | ⟨g2, cap2, cur, e', hB2, hg, hnc, hcm, hcs, ht⟩
    · cases e'
    · simp only [List.length_nil, Value.slice.injEq, Option.some.injEq, Addr.mk.injEq, and_true, true_and] at e'
      obtain ⟨rfl, rfl⟩ := e'
      have hkk : kk = [] := List.eq_nil_of_length_eq_zero (by omega)
      subst hkk
      subst hm
      have hrun := run_append_room (P := Tryd.prog) w S ty e i E.und hi g 0 0 cur hg ad 0 c (nums k []) hl1 (nums_reads hrd hk) (nums_oneCell []) (Nat.le_refl _) (by simp [nums])
      rw [hrun] at hr
      cases hr
      have hb : Blk w g e cur := hg
      simp only [List.take_zero, List.nil_append, show nums k [] = [] from rfl, Nat.zero_mul, Nat.add_zero, List.length_nil, List.drop_zero, Array.toArray_toList]
      rw [hb.setRow_id]
      exact Below.refl _ _
  · have hrun := run_append_grow (P := Tryd.prog) w S ty e i (.int k 0) E.und hi hz ⟨g, 0, none⟩ 0 0 [] (by simp) (fun j v hj => by simp at hj) ad m c (nums k kk) hl1 (nums_reads hrd hk) (by omega) (by omega) (growslice_fits (by omega) hbytes)
    rw [hrun] at hr
    cases hr
    exact (Below.refl _ _).drew.alloc (Nat.le_refl _) _
/-- The same in a region that draws its order. -/
theorem gives_app0 {A : Option Addr} {T : Value → Prop} {R : Value → World → Prop} (E : Elt S e k) (hs : a.eval s = .slice (some ⟨g, 0, none⟩) 0 0) (hx : a.eval x = .slice A m c) (h0 : A = none → m = 0 ∧ c = 0) (hown : Own e k w B (.slice (some ⟨g, 0, none⟩) 0 0) []) (hrd : Nums k w B' A kk) (hk : kk.length = m) (hsz : m ≤ 1000000) (hB : B ≤ w.heap.size)
    (h : ∀ v' w', Own e k w' B v' kk → Below w.heap.size w w' → T v' ∧ R v' w') :
    ∃ v', T v' ∧ Gives Tryd.prog ⟨dst, .call { callee := .builtin .append, args := #[s, x], argTypes := #[S, S] }, ty, pos, after, gd⟩ a w v' (R v') := by
  cases A with
  | some ad =>
    obtain ⟨v', w', hr, h1, h2⟩ := run_app0 (ty := ty) (c := c) E hown hrd hk hsz hB
    obtain ⟨h6, h7⟩ := h v' w' h1 h2
    refine ⟨v', h6, gives_value ?_ h7⟩
    unfold execOp
    simp only [resolve, invoke, builtin, Sem.run_bind, Sem.run_pure, Result.andThen_ok, List.map_toArray, List.map_cons, List.map_nil, hs, hx, hr]
  | none =>
    obtain ⟨rfl, rfl⟩ := h0 rfl
    obtain rfl := List.eq_nil_of_length_eq_zero hk
    obtain ⟨h6, h7⟩ := h _ w hown (Below.refl _ _)
    refine ⟨_, h6, gives_value ?_ h7⟩
    have hr : (Builtin.append_ #[S, S] ty #[.slice (some ⟨g, 0, none⟩) 0 0, .slice none 0 0]).run Tryd.prog w = .ok (.slice (some ⟨g, 0, none⟩) 0 0) w := by
      obtain ⟨i, hi, hz, h1, h2⟩ := E.inf
      exact run_append_owned_none (P := Tryd.prog) w B S ty e i 1 E.und hi _ 0 _ hown
    unfold execOp
    simp only [resolve, invoke, builtin, Sem.run_bind, Sem.run_pure, Result.andThen_ok, List.map_toArray, List.map_cons, List.map_nil, hs, hx, hr]
end
end Go.Proofs.YtdfoehcdabmagaaDoor
set_option maxRecDepth 100000
namespace Go.Proofs.YtdfoehcdabmagaaDoor
open Go.ChangeShapes Go.WideShapes Go.ChangeAt Go.RowKit
attribute [local go_sem] Gives
theorem grown_trans {w w' w2 : World} {r : Option Nat} (h : w.grownBy w' r) (h2 : w'.grownBy w2 r) : w.grownBy w2 r :=
  ⟨h2.os.trans h.os, h2.tape.trans h.tape, h2.output.trans h.output, Nat.le_trans h.size h2.size, fun k hk hne => (h2.block k (Nat.lt_of_lt_of_le hk h.size) hne).trans (h.block k hk hne)⟩
theorem grown_refl (w : World) (r : Option Nat) : w.grownBy w r := ⟨rfl, rfl, rfl, Nat.le_refl _, fun _ _ _ => rfl⟩
theorem grown_below {w w' : World} (h : Below w.heap.size w w') (r : Option Nat) : w.grownBy w' r := ⟨h.os, h.tape, h.output, h.size, fun k hk _ => h.block k hk⟩
theorem grown_setRow (w : World) (g : Nat) (cs : Array Value) : w.grownBy (w.setRow g cs) (some g) := ⟨rfl, rfl, rfl, by simp, fun k _ hne => Go.setRow_other w g k cs (fun e => hne (congrArg _ e))⟩
theorem grown_setCell (w : World) (g i : Nat) (v : Value) : w.grownBy (w.setCell ⟨g, i, none⟩ v) (some g) := ⟨rfl, rfl, rfl, by simp, fun k _ hne => Below.heap_setCell w ⟨g, i, none⟩ v k (fun e => hne (congrArg _ e))⟩
theorem Blk.by' {w w' : World} {g g' : Nat} {t : TypeId} {cs : Array Value} (h : Blk w g t cs) (hg : w.grownBy w' (some g')) (hne : g ≠ g') : Blk w' g t cs :=
  (hg.block g h.lt fun e => hne (Option.some.inj e)).trans h
theorem below_by {B g : Nat} {w0 w w' : World} (hb : Below B w0 w) (hg : w.grownBy w' (some g)) (hB : B ≤ g) (hs : B ≤ w0.heap.size) : Below B w0 w' :=
  hb.grown hg (Nat.le_trans hs hb.size) fun k e => by cases e; exact hB
/-- A slice of the bytes of l, in one row from block lo up to block hi. -/
def BytF (w : World) (lo hi : Nat) (A : Option Addr) (l : List Nat) : Prop :=
  0 < l.length → ∃ b o, A = some ⟨b, o, none⟩ ∧ lo ≤ b ∧ b < hi ∧ ∀ i, i < l.length → w.cell? ⟨b, o + i, none⟩ = some (.int .u8 (l.getD i 0 : Nat))
theorem BytF.byt {w : World} {lo hi : Nat} {A : Option Addr} {l : List Nat} (h : BytF w lo hi A l) : Byt w hi A l := fun hn => by
  obtain ⟨b, o, e, _, h2, h3⟩ := h hn
  exact ⟨b, o, e, h2, h3⟩
theorem BytF.below {w w' : World} {lo hi B : Nat} {A : Option Addr} {l : List Nat} (h : BytF w lo hi A l) (hb : Below B w w') (hB : hi ≤ B) : BytF w' lo hi A l := fun hn => by
  obtain ⟨b, o, rfl, h1, h2, h3⟩ := h hn
  exact ⟨b, o, rfl, h1, h2, fun i hi => (hb.cell (p := ⟨b, o + i, none⟩) (by show b < B; omega)).trans (h3 i hi)⟩
theorem BytF.by' {w w' : World} {lo hi g : Nat} {A : Option Addr} {l : List Nat} (h : BytF w lo hi A l) (hg : w.grownBy w' (some g)) (hne : g < lo ∨ hi ≤ g) : BytF w' lo hi A l := fun hn => by
  obtain ⟨b, o, rfl, h1, h2, h3⟩ := h hn
  exact ⟨b, o, rfl, h1, h2, fun i hi => hg.cell (h3 i hi) fun e => by have : b = g := Option.some.inj e; omega⟩
theorem BytF.more {w : World} {lo hi hi' : Nat} {A : Option Addr} {l : List Nat} (h : BytF w lo hi A l) (hh : hi ≤ hi') : BytF w lo hi' A l := fun hn => by
  obtain ⟨b, o, rfl, h1, h2, h3⟩ := h hn
  exact ⟨b, o, rfl, h1, by omega, h3⟩
theorem BytF.lower {w : World} {lo lo' hi : Nat} {A : Option Addr} {l : List Nat} (h : BytF w lo hi A l) (hh : lo' ≤ lo) : BytF w lo' hi A l := fun hn => by
  obtain ⟨b, o, rfl, h1, h2, h3⟩ := h hn
  exact ⟨b, o, rfl, by omega, h2, h3⟩
theorem BytF.nil {w : World} {lo hi : Nat} {A : Option Addr} : BytF w lo hi A [] := fun hn => absurd hn (by simp)
theorem BytF.take {w : World} {lo hi : Nat} {A : Option Addr} {l : List Nat} (h : BytF w lo hi A l) (n : Nat) : BytF w lo hi A (l.take n) := fun hn => by
  rw [List.length_take] at hn
  obtain ⟨b, o, rfl, h1, h2, h3⟩ := h (by omega)
  refine ⟨b, o, rfl, h1, h2, fun i hi => ?_⟩
  rw [List.length_take] at hi
  rw [getD_take (by omega)]
  exact h3 i (by omega)
theorem BytF.drop {w : World} {lo hi : Nat} {A : Option Addr} {l : List Nat} (h : BytF w lo hi A l) (cap W : Nat) (hc : l.length ≤ cap) : BytF w lo hi (if cap = W then A else Option.map (fun x => x.add W) A) (l.drop W) := fun hn => by
  rw [List.length_drop] at hn
  obtain ⟨b, o, rfl, h1, h2, h3⟩ := h (by omega)
  rw [if_neg (by omega)]
  refine ⟨b, o + W, by rw [Option.map_some, Addr.add_mid], h1, h2, fun i hi => ?_⟩
  rw [List.length_drop] at hi
  rw [getD_drop, Nat.add_assoc]
  exact h3 (W + i) (by omega)
/-- A slice of bytes that is read. -/
structure Rd (w : World) (lo hi : Nat) (A : Option Addr) (l : List Nat) (n cp : Nat) : Prop where
  len : l.length = n
  cap : n ≤ cp
  max : cp ≤ maxLen
  b256 : B256 l
  none : A = none → n = 0 ∧ cp = 0
  byt : BytF w lo hi A l
theorem Rd.arg {w : World} {lo hi : Nat} {A : Option Addr} {l : List Nat} {n cp : Nat} (h : Rd w lo hi A l n cp) (hh : hi ≤ w.heap.size) : Arg w A l n cp :=
  ⟨h.len, h.cap, h.max, h.b256, h.none, h.byt.byt.more hh⟩
theorem Rd.below {w w' : World} {lo hi B : Nat} {A : Option Addr} {l : List Nat} {n cp : Nat} (h : Rd w lo hi A l n cp) (hb : Below B w w') (hB : hi ≤ B) : Rd w' lo hi A l n cp :=
  ⟨h.len, h.cap, h.max, h.b256, h.none, h.byt.below hb hB⟩
theorem Rd.by' {w w' : World} {lo hi g : Nat} {A : Option Addr} {l : List Nat} {n cp : Nat} (h : Rd w lo hi A l n cp) (hg : w.grownBy w' (some g)) (hne : g < lo ∨ hi ≤ g) : Rd w' lo hi A l n cp :=
  ⟨h.len, h.cap, h.max, h.b256, h.none, h.byt.by' hg hne⟩
theorem Blk.gr {w w' : World} {g : Nat} {r : Option Nat} {t : TypeId} {cs : Array Value} (h : Blk w g t cs) (hg : w.grownBy w' r) (hr : r ≠ some g) : Blk w' g t cs :=
  (hg.block g h.lt fun e => hr e.symm).trans h
theorem BytF.gr {w w' : World} {lo hi : Nat} {r : Option Nat} {A : Option Addr} {l : List Nat} (h : BytF w lo hi A l) (hg : w.grownBy w' r) (hr : ∀ k, r = some k → k < lo ∨ hi ≤ k) : BytF w' lo hi A l := fun hn => by
  obtain ⟨b, o, rfl, h1, h2, h3⟩ := h hn
  exact ⟨b, o, rfl, h1, h2, fun i hi => hg.cell (h3 i hi) fun e => by have h9 := hr b e.symm; omega⟩
theorem Rd.gr {w w' : World} {lo hi : Nat} {r : Option Nat} {A : Option Addr} {l : List Nat} {n cp : Nat} (h : Rd w lo hi A l n cp) (hg : w.grownBy w' r) (hr : ∀ k, r = some k → k < lo ∨ hi ≤ k) : Rd w' lo hi A l n cp :=
  ⟨h.len, h.cap, h.max, h.b256, h.none, h.byt.gr hg hr⟩
/-- What a tape's two cells are. -/
def tp (A : Option Addr) (n cp : Nat) (b : Bool) : Array Value := #[.slice A n cp, .bool b]
section
variable {ops : Array Oper} {Q : Exit → Act → World → Prop} {a : Act} {w : World} {rest : List Oper} {dst : Option Tmp} {ty : TypeId} {pos : String} {after : Array Edge} {x y : Operand} {g : Nat} {A A' : Option Addr} {n n' cp cp' : Nat} {b b' : Bool}
end
theorem eq_nil_slice (A : Option Addr) (l c : Nat) (w : World) : (binOp .eql 39 (.slice A l c) (.slice none 0 0)).run Tryd.prog w = .ok (.bool A.isNone) w := by
  simp [binOp, run_equal_slice_nil w 39 5 A l c Tryd.underlying39]
attribute [local go_sem] eq_nil_slice
set_option maxHeartbeats 400000 in
/-- slices.Clone of bytes. -/
theorem clone_any (A : Option Addr) (l : List Nat) (n cap : Nat) (hn : n ≤ 1000000) (w : World) (hA : Arg w A l n cap) :
    Calls Tryd.prog 30 #[.slice A n cap] w fun e w' => ∃ v, e = .returned v ∧ Own 5 .u8 w' w.heap.size v l ∧ Below w.heap.size w w' := by
  have HA := hid hA
  clear hA
  cases A with
  | none =>
    obtain ⟨rfl, rfl⟩ := HA.out.none rfl
    have hl := List.eq_nil_of_length_eq_zero HA.out.len
    subst hl
    clear HA
    go_enter Tryd.func30, Tryd.ntmps30
    go_wp2_with fail
    go_ret
    exact ⟨_, rfl, Own.nil, Below.refl _ _⟩
  | some ad =>
    go_enter Tryd.func30, Tryd.ntmps30
    have OE : Hid (Own 5 .u8 (w.alloc (.cells #[] 5)) w.heap.size (.slice (some ⟨w.heap.size, 0, none⟩) 0 0) []) := hid (Own.empty w (Nat.le_refl _))
    have BE := hid ((Below.refl w.heap.size w).alloc (Nat.le_refl _) (.cells #[] 5))
    have AE := hid (HA.out.on BE.out)
    go_wp2_with (at_builtin; (with_reducible apply wappN eltB); rfl; rfl; exact OE.out; exact AE.out.byt.nums; exact AE.out.len; (rw [List.length_nil]; omega); (simp); intro v4 w4 o4 g4)
    have B4 := hid (below_grown BE.out g4 OE.out (Nat.le_refl _) (Nat.le_refl _))
    have O4 := hid o4
    clear o4 g4
    go_wp2_with fail
    go_ret
    exact ⟨_, rfl, O4.out, B4.out⟩
theorem Own.rd {w : World} {B : Nat} {v : Value} {l : List Nat} (h : Own 5 .u8 w B v l) (hb : B256 l) : ∃ A cap, v = .slice A l.length cap ∧ Rd w B w.heap.size A l l.length cap := by
  rcases h.2 with ⟨rfl, h0⟩ | ⟨g, cap, cur, rfl, hB, hg, hnc, hcm, hcs, ht⟩
  · exact ⟨.none, 0, by rw [h0], rfl, by omega, Nat.zero_le _, hb, fun _ => ⟨h0, rfl⟩, fun hn => by omega⟩
  · refine ⟨_, cap, rfl, rfl, hnc, hcm, hb, (fun e => by cases e), fun hn => ⟨g, 0, rfl, hB, Blk.lt (t := 5) (cs := cur) hg, fun i hi => ?_⟩⟩
    rw [Nat.zero_add, cell_of_row w g _ cur _ _ hg]
    have h1 := nums_get .u8 hi
    rw [← ht, List.getElem?_take_of_lt (by omega), Array.getElem?_toList] at h1
    exact h1
end Go.Proofs.YtdfoehcdabmagaaDoor
set_option maxRecDepth 100000
namespace Go.Proofs.YtdfoehcdabmagaaDoor
open Go.ChangeShapes Go.WideShapes Go.ChangeAt Go.RowKit
open DvP (tK tT sub)
attribute [local go_sem] Gives GivesE
theorem run_sltA {w : World} {A : Option Addr} {l : List Nat} {n cap i : Nat} (h : Arg w A l n cap) (hi : i ≤ n) :
    ∃ A', (∀ W, (Instr.sliceAt 39 (.slice A n cap) (some (.int .i64 i)) none none).run Tryd.prog W = .ok (.slice A' (n - i) (cap - i)) W) ∧ Arg w A' (l.drop i) (n - i) (cap - i) := by
  have hc := h.cap
  have hm := h.max
  refine ⟨if cap = i then A else A.map (·.add (i * 1)), fun W => ?_, ?_⟩
  · rw [run_sliceAt_slice W 39 _ _ _ _ und_byts, run_slice_l W 39 A n cap und_byts .i64 i (by omega) (by omega), size_byts]
    simp only [Result.andThen, sliced, Int.toNat_natCast]
  · rw [Nat.mul_one]
    refine ⟨by rw [List.length_drop, h.len], by omega, by omega, h.b256.drop i, fun e => ?_, h.byt.dropIf cap i (by rw [h.len]; exact hc)⟩
    by_cases hi : cap = i
    · exact ⟨by omega, by omega⟩
    · rw [if_neg hi] at e
      cases A with
      | none => have := h.none rfl; exact ⟨by omega, by omega⟩
      | some a => cases e
theorem Own.setRow_old {e : TypeId} {k : IntKind} {w : World} {B g : Nat} {v : Value} {l : List Nat} (h : Own e k w B v l) (hg : g < B) (cs : Array Value) : Own e k (w.setRow g cs) B v l := by
  refine ⟨h.1, ?_⟩
  rcases h.2 with h' | ⟨g2, cap, cur, hv, hB, hg2, hr⟩
  · exact .inl h'
  · exact .inr ⟨g2, cap, cur, hv, hB, Blk.setRow_other (t := e) (cs := cur) hg2 (by omega) cs, hr⟩
namespace BxP
theorem half_arg {w : World} {g o : Nat} {t : TypeId} {F f : Nat → Nat} (h : Blk w g t (ar 64 F)) (ho : o ≤ 32) (hf : ∀ k, f k < 256) (he : ∀ i, i < 32 → F (o + i) = f i) : Arg w (some ⟨g, o, none⟩) (HmM.dl f) (HmM.dl f).length 32 where
  len := rfl
  cap := by rw [HmM.dl_length]; omega
  max := by unfold maxLen; omega
  b256 := HmM.dl_256 hf
  none e := by cases e
  byt := fun _ => ⟨g, o, rfl, h.lt, fun i hi => by rw [HmM.dl_length] at hi; rw [h.cell, get_ar (by omega), HmM.dl_get _ hi, he i hi]⟩
theorem three_rws {w : World} {g : Nat} {t : TypeId} {A B C : Option Addr} {l m k : List Nat} {ca cb cc : Nat} (hb : Blk w g t #[.slice A l.length ca, .slice B m.length cb, .slice C k.length cc]) (ha : Arg w A l l.length ca) (hm : Arg w B m m.length cb) (hk : Arg w C k k.length cc) : Rws w (some ⟨g, 0, none⟩) [l, m, k] 3 3 where
  len := rfl
  cap := Nat.le_refl _
  max := by unfold maxLen; omega
  b256 x hx := by
    rcases List.mem_cons.1 hx with rfl | hx
    · exact ha.b256
    rcases List.mem_cons.1 hx with rfl | hx
    · exact hm.b256
    rw [List.mem_singleton] at hx; subst hx; exact hk.b256
  none h := by cases h
  prts _ := ⟨g, 0, rfl, hb.lt, fun i hi => by
    have hi3 : i < 3 := hi
    match i, hi3 with
    | 0, _ => exact ⟨A, ca, hb.cell 0, ha.cap, ha.max, ha.byt, ha.none⟩
    | 1, _ => exact ⟨B, cb, hb.cell 1, hm.cap, hm.max, hm.byt, hm.none⟩
    | 2, _ => exact ⟨C, cc, hb.cell 2, hk.cap, hk.max, hk.byt, hk.none⟩⟩
set_option maxHeartbeats 800000 in
theorem pput_any (A : Option Addr) (l : List Nat) (n cap : Nat) (hn : n ≤ 10000) (f g : Nat → Nat) (hf : ∀ i, f i < 256) (hg : ∀ i, g i < 256) (w : World) (ha : Arg w A l n cap) :
    Calls Tryd.prog 14 #[.slice A n cap, .agg (ar 64 (duo f g))] w fun e w' => ∃ v, e = .returned v ∧ Own 5 .u8 w' w.heap.size v (l ++ HmM.dl f ++ HmM.dl g) ∧ Below w.heap.size w w' := by
  have HF := hid hf
  have HG := hid hg
  have HA := hid ha
  have HN := hid hn
  clear hf hg ha hn
  go_enter Tryd.func14, Tryd.ntmps14
  go_upto_region 1 with fail
  generalize hw1 : World.alloc w _ = w1
  have b1 := hid (show Blk w1 w.heap.size 29 (ar 64 (duo f g)) by rw [← hw1]; exact Blk.new _ _ _)
  have hb := hid (show Below w.heap.size w w1 by rw [← hw1]; exact (Below.refl _ _).alloc (Nat.le_refl _) _)
  clear hw1
  refine wp_region_tail (C := fun w' => Below w1.heap.size w1 w') 5 (by kernel_rfl) (by kernel_rfl) (by kernel_rfl) (Below.refl _ _).drew ?_
  simp only [List.take_succ_cons, List.take_zero, List.drop_succ_cons, List.drop_zero]
  apply wpK_val
  · rfl
  · intro w' hw'
    go_simp
    first | exact rfl | exact ⟨rfl, hw'⟩
  simp only [Act.put, List.setIfInBounds_toArray, List.set_cons_succ, List.set_cons_zero]
  apply wpK_val
  · rfl
  · intro w' hw'
    go_simp
    first | exact rfl | exact ⟨rfl, hw'⟩
  simp only [Act.put, List.setIfInBounds_toArray, List.set_cons_succ, List.set_cons_zero]
  apply wpK_val
  · rfl
  · intro w' hw'
    go_simp
    first | exact rfl | exact ⟨rfl, hw'⟩
  simp only [Act.put, List.setIfInBounds_toArray, List.set_cons_succ, List.set_cons_zero]
  apply wpK_val
  · rfl
  · intro w' hw'
    go_simp
    first | exact rfl | exact ⟨rfl, hw'⟩
  simp only [Act.put, List.setIfInBounds_toArray, List.set_cons_succ, List.set_cons_zero]
  apply wpK_val
  · rfl
  · intro w' hw'
    go_simp
    first | exact rfl | exact ⟨rfl, hw'⟩
  simp only [Act.put, List.setIfInBounds_toArray, List.set_cons_succ, List.set_cons_zero]
  refine wpK_nil fun w2 hw2 => ?_
  have c1 := b1.out.below hw2 b1.out.lt
  have hlw := hb.out.size
  have cb := hid (hb.out.trans (hw2.mono hb.out.size))
  have a0 := HA.out.on cb.out
  have a1 := half_arg c1 (o := 0) (by omega) HF.out duo0
  have a2 := half_arg c1 (o := 32) (by omega) HG.out duo1
  have e1 := hid (show Below w2.heap.size w2 (w2.alloc (.cells #[.slice A l.length cap, .slice (some ⟨w.heap.size, 0, none⟩) (HmM.dl f).length 32, .slice (some ⟨w.heap.size, 32, none⟩) (HmM.dl g).length 32] 39)) from (Below.refl _ _).alloc (Nat.le_refl _) _)
  have a0' := a0
  rw [← HA.out.len] at a0'
  have hr := three_rws (w := w2.alloc (.cells #[.slice A l.length cap, .slice (some ⟨w.heap.size, 0, none⟩) (HmM.dl f).length 32, .slice (some ⟨w.heap.size, 32, none⟩) (HmM.dl g).length 32] 39)) (Blk.new _ _ _) (a0'.on e1.out) (a1.on e1.out) (a2.on e1.out)
  rw [HmM.dl_length, HmM.dl_length, HA.out.len] at hr e1
  have HR := hid hr
  clear b1 hb hw2 c1 a0 a0' a1 a2 hr
  go_wp2_with fail
  refine (concat_any _ [l, HmM.dl f, HmM.dl g] 3 3 (by omega) (by simp only [List.flatten_cons, List.flatten_nil, List.length_append, List.length_nil, HmM.dl_length, HA.out.len]; have := HN.out; omega) _ HR.out).mono ?_
  rintro e w4 ⟨v, rfl, o4, h4⟩
  have eb := hid (cb.out.trans ((e1.out.trans (h4.mono e1.out.size)).mono cb.out.size))
  have O4 := hid (o4.lower (Nat.le_trans cb.out.size e1.out.size))
  clear cb e1 HR o4 h4
  go_wp2_with fail
  go_ret
  refine ⟨v, rfl, ?_, eb.out⟩
  rw [List.append_assoc]
  have := O4.out
  simpa only [List.flatten_cons, List.flatten_nil, List.append_nil, List.append_assoc] using this
set_option maxHeartbeats 400000 in
theorem pget_few (A : Option Addr) (n cap : Nat) (hn : n < 64) (w : World) :
    Calls Tryd.prog 15 #[.slice A n cap] w fun e w' => ∃ v, e = .returned (.tuple #[.agg (ar 64 fun _ => 0), v, .int .i64 4]) ∧ Own 5 .u8 w' w.heap.size v [] ∧ Below w.heap.size w w' := by
  have tn : (n : Int) < 64 := by omega
  go_enter Tryd.func15, Tryd.ntmps15
  go_upto_region 1 with (with_reducible apply alA tBox)
  generalize hw1 : World.alloc w _ = w1
  have b1 : Blk w1 w.heap.size 29 (ar 64 fun _ => 0) := by rw [← hw1]; exact Blk.top rfl rfl
  have hb : Below w.heap.size w w1 := by rw [← hw1]; exact (Below.refl _ _).alloc (Nat.le_refl _) _
  clear hw1
  go_wp2_with (first | (with_reducible apply bldZ (n := 64) (by kernel_rfl)) | ((with_reducible apply stA tBox); rfl; rfl; exact b1))
  apply ret_artt tBox Tryd.results15
  · rfl
  · rfl
  · rfl
  · rfl
  · exact b1.setRow_same _
  exact ⟨_, rfl, Own.nil, below_setRow hb (by omega) _⟩
section
variable {ops : Array Oper} {a : Act} {rest : List Oper} {dst : Option Tmp} {ty : TypeId} {pos : String} {after : Array Edge} {x y : Operand} {gd : Option (Nat × Bool)} {C : World → Prop} {Qk : Act → Prop} {f g : Nat → Nat}
theorem bbldBox (hwt : Region.wanted ⟨dst, .build 29 #[(0, x), (1, y)], ty, pos, after, gd⟩ (yielded ops a.tmps) = true) (hx : a.eval x = .agg (ar 32 f)) (hy : a.eval y = .agg (ar 32 g)) (h : wpB Tryd.prog ops C Qk rest (a.put dst (.agg (ar 64 (duo f g))))) :
    wpB Tryd.prog ops C Qk (⟨dst, .build 29 #[(0, x), (1, y)], ty, pos, after, gd⟩ :: rest) a :=
  wpB_val hwt (fun w hw => gives_value (w' := w) (by
    have hr := built_box f g w
    unfold execOp
    simp [hx, hy, hr, Result.andThen]) ⟨hw, Below.refl _ _⟩) h
end
set_option maxHeartbeats 800000 in
theorem pget_any (A : Option Addr) (l : List Nat) (n cap : Nat) (hn : 64 ≤ n) (hm : n ≤ 100000) (w : World) (ha : Arg w A l n cap) :
    Calls Tryd.prog 15 #[.slice A n cap] w fun e w' => ∃ v, e = .returned (.tuple #[.agg (ar 64 fun j => l.getD j 0), v, .int .i64 0]) ∧ Own 5 .u8 w' w.heap.size v (l.drop 64) ∧ Below w.heap.size w w' := by
  have tn : decide ((n : Int) < 64) = false := by simp; omega
  have HA := hid ha
  have HM := hid hm
  have HN := hid hn
  obtain ⟨b, o, rfl, hbl, hr⟩ := ha.byt (by rw [ha.len]; omega)
  have HR := hid hr
  have hcap := ha.cap
  have hs1 : ∀ W, (Instr.sliceAt 39 (.slice (some ⟨b, o, none⟩) n cap) none (some (.int .i64 32)) none).run Tryd.prog W = .ok (.slice (some ⟨b, o, none⟩) 32 cap) W := fun W => by
    rw [run_sliceAt_slice W 39 _ _ _ _ und_byts, run_slice_h W 39 (some ⟨b, o, none⟩) n cap und_byts .i64 32 (by omega) (by omega), size_byts]
    simp only [Result.andThen, sliced]
    rw [if_neg (by omega)]
    rfl
  have hs2 : ∀ W, (Instr.sliceAt 39 (.slice (some ⟨b, o, none⟩) n cap) (some (.int .i64 32)) (some (.int .i64 64)) none).run Tryd.prog W = .ok (.slice (some ⟨b, o + 32, none⟩) 32 (cap - 32)) W := fun W => by
    rw [run_sliceAt_slice W 39 _ _ _ _ und_byts, run_slice_lh W 39 (some ⟨b, o, none⟩) n cap und_byts .i64 .i64 32 64 (by omega) (by omega) (by omega), size_byts]
    simp only [Result.andThen, sliced]
    rw [if_neg (by omega)]
    rfl
  have HS1 := hid hs1
  have HS2 := hid hs2
  have hslt := run_sltA ha (show 64 ≤ n from hn)
  obtain ⟨A', hs3, ha3⟩ := hslt
  obtain ⟨m3, hm3⟩ : ∃ m, m = n - 64 := ⟨_, rfl⟩
  obtain ⟨c3, hc3⟩ : ∃ m, m = cap - 64 := ⟨_, rfl⟩
  rw [← hm3, ← hc3] at hs3 ha3
  have hm31 : m3 ≤ 1000000 := by omega
  have HA3 := hid ha3
  obtain ⟨F, hF⟩ : ∃ F : Nat → Nat, F = fun j => l.getD j 0 := ⟨_, rfl⟩
  rw [← hF]
  have HFE := hid hF
  have HS3 := hid hs3
  clear hm ha hr ha3 hs3 hs1 hs2 hF hm3 hc3
  go_enter Tryd.func15, Tryd.ntmps15
  go_upto_region 3 with (with_reducible apply alA tBox)
  generalize hw1 : World.alloc w _ = w1
  have b1 := hid (show Blk w1 w.heap.size 29 (ar 64 fun _ => 0) by rw [← hw1]; exact Blk.new _ _ _)
  have hb := hid (show Below w.heap.size w w1 by rw [← hw1]; exact (Below.refl _ _).alloc (Nat.le_refl _) _)
  clear hw1
  have A1 := hid (HA.out.on hb.out)
  have hl1 := b1.out.lt
  refine wp_region_new1 (C := fun w' => Below w1.heap.size w1 w') 9 29 (ar 64 fun _ => 0) 5 rfl (by kernel_rfl) (by kernel_rfl) (by kernel_rfl) (run_alloc_ar tBox) (Below.refl _ _).drew (fun w' hw' => hw'.alloc hw'.size _) (fun w' hw' => hw'.size) ?_
  simp only [List.take_succ_cons, List.take_zero, List.drop_succ_cons, List.drop_zero]
  apply wpB_val
  · rfl
  · intro w' hw'
    have hbl := Below.refl w'.heap.size w'
    go_simp
    first | exact rfl | exact ⟨rfl, hbl⟩ | exact ⟨rfl, hw', hbl⟩
  simp only [Act.put, List.setIfInBounds_toArray, List.set_cons_succ, List.set_cons_zero]
  apply wpB_val
  · rfl
  · intro w' hw'
    have hbl := Below.refl w'.heap.size w'
    have h1 : (Instr.sliceAt 39 (.slice (some ⟨b, o, none⟩) n cap) none (some (.int .i64 32)) none).run Tryd.prog w' = .ok (.slice (some ⟨b, o, none⟩) 32 cap) w' := HS1.out w'
    go_simp
    first | exact rfl | exact ⟨rfl, hbl⟩ | exact ⟨rfl, hw', hbl⟩
  simp only [Act.put, List.setIfInBounds_toArray, List.set_cons_succ, List.set_cons_zero]
  apply wpB_val
  · rfl
  · intro w' hw'
    have hbl := Below.refl w'.heap.size w'
    go_simp
    first | exact rfl | exact ⟨rfl, hbl⟩ | exact ⟨rfl, hw', hbl⟩
  simp only [Act.put, List.setIfInBounds_toArray, List.set_cons_succ, List.set_cons_zero]
  apply bldA tK (f := F)
  · rfl
  · rfl
  · refine fun w' hw' j v hv => ?_
    obtain ⟨hj, rfl⟩ := ar_list_get hv
    rw [((hb.out.trans (hw'.mono hb.out.size)).cell (p := ⟨b, o + j, none⟩) hbl).trans (HR.out j (by rw [HA.out.len]; have := HN.out; omega)), HFE.out]
  simp only [Act.put, List.setIfInBounds_toArray, List.set_cons_succ, List.set_cons_zero]
  apply wpB_val
  · rfl
  · intro w' hw'
    have hbl := Below.refl w'.heap.size w'
    go_simp
    first | exact rfl | exact ⟨rfl, hbl⟩ | exact ⟨rfl, hw', hbl⟩
  simp only [Act.put, List.setIfInBounds_toArray, List.set_cons_succ, List.set_cons_zero]
  apply wpB_val
  · rfl
  · intro w' hw'
    have hbl := Below.refl w'.heap.size w'
    have h1 : (Instr.sliceAt 39 (.slice (some ⟨b, o, none⟩) n cap) (some (.int .i64 32)) (some (.int .i64 64)) none).run Tryd.prog w' = .ok (.slice (some ⟨b, o + 32, none⟩) 32 (cap - 32)) w' := HS2.out w'
    go_simp
    first | exact rfl | exact ⟨rfl, hbl⟩ | exact ⟨rfl, hw', hbl⟩
  simp only [Act.put, List.setIfInBounds_toArray, List.set_cons_succ, List.set_cons_zero]
  apply wpB_val
  · rfl
  · intro w' hw'
    have hbl := Below.refl w'.heap.size w'
    go_simp
    first | exact rfl | exact ⟨rfl, hbl⟩ | exact ⟨rfl, hw', hbl⟩
  simp only [Act.put, List.setIfInBounds_toArray, List.set_cons_succ, List.set_cons_zero]
  apply bldA tT (f := fun i => F (32 + i))
  · rfl
  · rfl
  · refine fun w' hw' j v hv => ?_
    obtain ⟨hj, rfl⟩ := ar_list_get hv
    rw [((hb.out.trans (hw'.mono hb.out.size)).cell (p := ⟨b, o + 32 + j, none⟩) hbl), Nat.add_assoc, HR.out (32 + j) (by rw [HA.out.len]; have := HN.out; omega), HFE.out]
  simp only [Act.put, List.setIfInBounds_toArray, List.set_cons_succ, List.set_cons_zero]
  apply bbldBox (f := F) (g := fun i => F (32 + i))
  · rfl
  · rfl
  · rfl
  simp only [Act.put, List.setIfInBounds_toArray, List.set_cons_succ, List.set_cons_zero]
  refine wpB_nil fun gx w2 hw2 qp hgx => ?_
  have c1 := hid (b1.out.below hw2 b1.out.lt)
  have cb := hid (hb.out.trans (hw2.mono hb.out.size))
  clear b1 hb hw2 A1
  unfold ptr
  go_upto_region 4 with ((with_reducible apply stA tBox); rfl; rfl; exact qp)
  rw [show ar 64 (duo F fun i => F (32 + i)) = ar 64 F from ar_ext fun j _ => by unfold duo; by_cases h : j < 32 <;> simp only [h, if_true, if_false]; rw [show 32 + (j - 32) = j by omega]]
  generalize hw3 : World.setRow _ _ _ = w3
  have d1 := hid (show Blk w3 w.heap.size 29 (ar 64 fun _ => 0) by rw [← hw3]; exact c1.out.setRow_other (by omega) _)
  have dx := hid (show Blk w3 gx 29 (ar 64 F) by rw [← hw3]; exact qp.setRow_same _)
  have db := hid (show Below w.heap.size w w3 by rw [← hw3]; exact below_setRow cb.out (by omega) _)
  have A3 := hid (HA3.out.on db.out)
  have L256 := hid (HA.out.b256.drop 64)
  clear hw3 qp c1 cb hgx hl1
  refine wp_region_ex (S := eS [some (.agg (ar 64 F)), some (.slice (some ⟨b, o, none⟩) n cap), some (.slice A' m3 c3), none] [(3, l.drop 64)]) (D := fun j vs w' => j = 3 → Own 5 .u8 w' w3.heap.size (vs 3) (l.drop 64)) (K := fun _ _ w w' => Below w.heap.size w w') (C := fun _ w' => Below w3.heap.size w3 w') 4 (by kernel_rfl) (by kernel_rfl) (by kernel_rfl)
    _ (eS_ok _ _) (fun i j vs w w' _ _ _ h hb e => (h e).below hb) (fun j i vs v w hji _ h e => by subst e; rw [updV_ne _ _ hji]; exact h rfl) (Below.refl _ _).drew fun vs => ?_
  simp only [List.take_succ_cons, List.take_zero, List.drop_succ_cons, List.drop_zero]
  refine ⟨.inl ⟨rfl, fun dd w' hd hC hDs => ?_⟩, fun e => ?_⟩
  · exact gE_ldA tBox rfl ((dx.out.below hC dx.out.lt).head) ⟨rfl, hC, Below.refl _ _, fun e => absurd e (by decide)⟩
  have e' : vs 0 = _ := e
  rw [e']
  clear e e'
  simp only [Act.put, List.setIfInBounds_toArray, List.set_cons_succ, List.set_cons_zero]
  refine ⟨.inl ⟨rfl, fun dd w' hd hC hDs => ?_⟩, fun e => ?_⟩
  · go_simp
    first | exact ⟨rfl, hC, Below.refl _ _, fun e => absurd e (by decide)⟩ | exact ⟨rfl, Below.refl _ _, fun e => absurd e (by decide)⟩ | exact ⟨hC, Below.refl _ _, fun e => absurd e (by decide)⟩ | exact ⟨rfl, hC, Below.refl _ _⟩ | exact ⟨rfl, Below.refl _ _⟩ | exact ⟨hC, Below.refl _ _⟩
  have e' : vs 1 = _ := e
  rw [e']
  clear e e'
  simp only [Act.put, List.setIfInBounds_toArray, List.set_cons_succ, List.set_cons_zero]
  refine ⟨.inl ⟨rfl, fun dd w' hd hC hDs => ?_⟩, fun e => ?_⟩
  · have h1 : (Instr.sliceAt 39 (.slice (some ⟨b, o, none⟩) n cap) (some (.int .i64 64)) none none).run Tryd.prog w' = .ok (.slice A' m3 c3) w' := HS3.out w'
    go_simp
    first | exact ⟨rfl, hC, Below.refl _ _, fun e => absurd e (by decide)⟩ | exact ⟨rfl, Below.refl _ _, fun e => absurd e (by decide)⟩ | exact ⟨hC, Below.refl _ _, fun e => absurd e (by decide)⟩ | exact ⟨rfl, hC, Below.refl _ _⟩ | exact ⟨rfl, Below.refl _ _⟩ | exact ⟨hC, Below.refl _ _⟩
  have e' : vs 2 = _ := e
  rw [e']
  clear e e'
  simp only [Act.put, List.setIfInBounds_toArray, List.set_cons_succ, List.set_cons_zero]
  refine ⟨.inl ⟨rfl, fun dd w' hd hC hDs => ?_⟩, fun e => ?_⟩
  · go_simp
    refine (clone_any A' (l.drop 64) m3 c3 hm31 w' (A3.out.on hC)).mono ?_
    rintro e w5 ⟨v, rfl, o5, h5⟩
    exact ⟨_, rfl, own_sl o5 L256.out, hC.trans (h5.mono hC.size), h5, by rw [updV_self]; exact o5.lower hC.size⟩
  have e' : ∃ (A : Option Addr) (c : Nat), vs 3 = .slice A (l.drop 64).length c := e
  clear e e'
  simp only [Act.put, List.setIfInBounds_toArray, List.set_cons_succ, List.set_cons_zero]
  intro dd w4 hall hC4 hDs
  have o4 := hDs 3 (by omega) rfl
  generalize vs 3 = v at o4 ⊢
  have O4 := hid ((o4.setRow_old (show w.heap.size < w3.heap.size from d1.out.lt) (ar 64 F)).lower db.out.size)
  have e1 := d1.out.below hC4 d1.out.lt
  have eb := hid (db.out.trans (hC4.mono db.out.size))
  have hlw : w.heap.size ≤ w.heap.size := Nat.le_refl _
  clear d1 dx db A3 hall hC4 hDs o4
  go_wp2_with ((with_reducible apply stA tBox); rfl; rfl; exact e1)
  apply ret_artt tBox Tryd.results15
  · rfl
  · rfl
  · rfl
  · rfl
  · exact e1.setRow_same _
  exact ⟨_, rfl, O4.out, below_setRow eb.out (by omega) _⟩
end BxP
end Go.Proofs.YtdfoehcdabmagaaDoor
set_option maxRecDepth 100000
namespace Go.Proofs.YtdfoehcdabmagaaDoor
namespace BxP
theorem box_ok : BoxC where
  wrap k x hk hx s hs n hn w hS := pwrap_any k x hk hx s hs n hn w hS
  unwrap k f g hk hf hg s hs n hn bt hbt w hS := punwrap_any k f g hk hf hg s hs n hn bt hbt w hS
  put A l n cap hn f g hf hg w ha := pput_any A l n cap hn f g hf hg w ha
  few A n cap hn w _ := pget_few A n cap hn w
  get A l n cap hn hm w ha := pget_any A l n cap hn hm w ha
end BxP
end Go.Proofs.YtdfoehcdabmagaaDoor
set_option maxRecDepth 100000
namespace Go.Proofs.YtdfoehcdabmagaaDoor
open Go.ChangeShapes Go.WideShapes Go.ChangeAt Go.RowKit Go.Deep
namespace BxP
section
variable {H : Type} {enc : TypeId × Value → H} {w : World} {base : Nat} {spare : Nat → Bool} {held : Bool}
theorem cells_two : Tryd.prog.cellsOf 46 = 64 := by kernel_rfl
set_option maxRecDepth 100000 in
theorem open_two {r : Reach} {b0 : Nat} {v : Value} {d : DataW H} {p : List MemPlace} (hv : Value.okWide Tryd.prog w r b0 46 v) (h : DataW.Trod enc Tryd.prog w base spare held 46 v d p) :
    ∃ x y : Nat → Nat, (∀ i, x i < 256) ∧ (∀ i, y i < 256) ∧ v = .agg (ar 64 (duo x y)) := by
  have hv' : ∃ cs, v = .agg cs := by
    simp only [Value.okWide, Tryd.underlying46] at hv
    obtain ⟨cs, h1, _⟩ := hv
    exact ⟨cs, h1⟩
  obtain ⟨cs, rfl⟩ := hv'
  obtain ⟨fuel, hf⟩ := h
  obtain ⟨xs, m, _, _, hlen, hxl, hx⟩ := DataW.trod_array Tryd.underlying46 hf
  rw [cells_two] at hlen
  have h0 := hx 0 (by omega)
  have h1 := hx 1 (by omega)
  rw [cells_key, List.getElem?_eq_getElem (show 0 < xs.length by omega)] at h0
  rw [cells_key, List.getElem?_eq_getElem (show 1 < xs.length by omega)] at h1
  obtain ⟨x, hx1, e0⟩ := trod_ar uKey cells_key h0
  obtain ⟨y, hy1, e1⟩ := trod_ar uKey cells_key h1
  refine ⟨x, y, hx1, hy1, congrArg Value.agg (Array.ext_getElem? fun j => ?_)⟩
  have hcl : cs.size = 64 := hlen
  show cs[j]? = (row 64 fun i => Value.int .u8 (duo x y i : Nat))[j]?
  rw [get_row]
  by_cases hj : j < 64
  · rw [if_pos hj, ← Array.getElem?_toList]
    unfold duo
    by_cases h2 : j < 32
    · rw [if_pos h2]
      have := list_at (o := 0 * 32) e0 h2
      rwa [Nat.zero_mul, Nat.zero_add] at this
    · rw [if_neg h2]
      have := list_at (o := 1 * 32) e1 (j := j - 32) (by omega)
      rwa [show 1 * 32 + (j - 32) = j by omega] at this
  · rw [if_neg hj, Array.getElem?_eq_none (by omega)]
end
end BxP
end Go.Proofs.YtdfoehcdabmagaaDoor
set_option maxRecDepth 100000
namespace Go.Proofs.YtdfoehcdabmagaaDoor
open Go.ChangeShapes Go.WideShapes Go.ChangeAt Go.RowKit Go.Deep
theorem cells_tag : Tryd.prog.cellsOf 27 = 32 := by kernel_rfl
section
variable {H : Type} {enc : TypeId × Value → H} {w : World} {base : Nat} {spare : Nat → Bool} {held : Bool}
/-- A row of n bytes by value. -/
theorem trod_bytes {T : TypeId} {n fuel : Nat} {cs : List Value} {x : DataW H × List MemPlace} (hT : Tryd.prog.underlying T = some (.array n 5)) (hc : Tryd.prog.cellsOf T = n) (h : DataW.trod enc Tryd.prog w base spare held fuel T cs = some x) :
    ∃ f : Nat → Nat, (∀ k, f k < 256) ∧ cs = (bts n f).toList := by
  obtain ⟨xs, m, rfl, rfl, hlen, hxl, hx⟩ := DataW.trod_array hT h
  rw [hc] at hlen
  have hk : ∀ k, k < n → ∃ v : Nat, v < 256 ∧ cs[k]? = some (.int .u8 v) := fun k hk => by
    have h1 := hx k hk
    rw [cells_u8, Nat.mul_one, List.getElem?_eq_getElem (by omega)] at h1
    obtain ⟨v, e1, e2, wf⟩ := DataW.trod_int Tryd.underlying5 h1
    obtain ⟨v, rfl, hv⟩ := u8_wf wf
    refine ⟨v, hv, ?_⟩
    have : ((cs.drop k).take 1)[0]? = some (.int .u8 v) := by rw [e1]; rfl
    rw [List.getElem?_take_of_lt (by omega), List.getElem?_drop] at this
    exact this
  obtain ⟨f, hf⟩ := choose_lt hk
  refine ⟨fun k => if k < n then f k else 0, fun k => ?_, ?_⟩
  · by_cases h : k < n
    · simp only [h, if_true]; exact (hf k h).1
    · simp [h]
  · apply List.ext_getElem?
    intro k
    have e : (bts n fun k => if k < n then f k else 0).toList[k]? = if k < n then some (.int .u8 ((if k < n then f k else 0 : Nat) : Int)) else none := by
      rw [Array.getElem?_toList]
      exact get_row k
    rw [e]
    by_cases h : k < n
    · rw [if_pos h, if_pos h]; exact (hf k h).2
    · rw [if_neg h, List.getElem?_eq_none (by omega)]
theorem open_bytes {T : TypeId} {n : Nat} {r : Reach} {b0 : Nat} {v : Value} {d : DataW H} {p : List MemPlace} (hT : Tryd.prog.underlying T = some (.array n 5)) (hc : Tryd.prog.cellsOf T = n) (hv : Value.okWide Tryd.prog w r b0 T v) (h : DataW.Trod enc Tryd.prog w base spare held T v d p) :
    ∃ f : Nat → Nat, (∀ k, f k < 256) ∧ v = .agg (bts n f) := by
  have hv' : ∃ cs, v = .agg cs := by
    simp only [Value.okWide, hT] at hv
    obtain ⟨cs, h1, _⟩ := hv
    exact ⟨cs, h1⟩
  obtain ⟨cs, rfl⟩ := hv'
  obtain ⟨fuel, hf⟩ := h
  obtain ⟨f, h1, h2⟩ := trod_bytes hT hc hf
  refine ⟨f, h1, ?_⟩
  have : cs = bts n f := by
    apply Array.ext'
    exact h2
  rw [this]
theorem open_tag {r : Reach} {b0 : Nat} {v : Value} {d : DataW H} {p : List MemPlace} (hv : Value.okWide Tryd.prog w r b0 27 v) (h : DataW.Trod enc Tryd.prog w base spare held 27 v d p) :
    ∃ f : Nat → Nat, (∀ k, f k < 256) ∧ v = .agg (tag f) := open_bytes Tryd.underlying27 cells_tag hv h
end
end Go.Proofs.YtdfoehcdabmagaaDoor
