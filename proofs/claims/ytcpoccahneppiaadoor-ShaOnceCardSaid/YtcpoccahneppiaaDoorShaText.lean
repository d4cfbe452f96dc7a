/-
  strings.Builder over this translation (the dump's copyCheck ends at what the loader refuses, so the shelf's own contract does not lie here); the contract of sha.Text.
-/
import Derived.Test.YtcpoccahneppiaaDoorShelf
import Derived.Test.YtcpoccahneppiaaDoorShaAhead
import Derived.Lib.Builder
import Derived.Lib.Walk
import Derived.Laws.Externs
namespace Go.Proofs.YtcpoccahneppiaaDoor
open Go.ChangeShapes Go.WideShapes Go.ChangeAt Go.RowKit
set_option maxHeartbeats 400000 in
set_option maxRecDepth 100000 in
theorem bcheck_used (b : Nat) (w : World) (h0 : w.cell? ⟨b, 0, none⟩ = some (.pointer (some ⟨b, 0, none⟩))) :
    Calls Tryd.prog 41 #[.pointer (some ⟨b, 0, none⟩)] w fun e w' => e = .returned (.tuple #[]) ∧ w = w' := by
  obtain ⟨j, hj, _⟩ := Option.map_eq_some_iff.1 Tryd.Builder_Extra_169.sizeBuilder
  go_enter Tryd.func41, Tryd.ntmps41
  go_wp2
  rw [Lib.run_neq_ptr_same w _ Tryd.underlying58 hj]
  go_wp2
  go_end0
  exact ⟨rfl, rfl⟩
set_option maxHeartbeats 400000 in
set_option maxRecDepth 100000 in
theorem bcheck_fresh (b : Nat) (w : World) (h0 : w.cell? ⟨b, 0, none⟩ = some (.pointer none)) (hsh : w.shape? b = some (60, 2)) (hfz : w.frozen? ⟨b, 0, none⟩ = false) :
    Calls Tryd.prog 41 #[.pointer (some ⟨b, 0, none⟩)] w fun e w' => e = .returned (.tuple #[]) ∧ w' = w.setCell ⟨b, 0, none⟩ (.pointer (some ⟨b, 0, none⟩)) := by
  obtain ⟨j, hj, hjs⟩ := Option.map_eq_some_iff.1 Tryd.Builder_Extra_169.sizeBuilder
  go_enter Tryd.func41, Tryd.ntmps41
  go_wp2
  rw [Lib.run_to_unsafe w ⟨b, 0, none⟩ Tryd.underlying58 Tryd.underlying80 hj (by rw [hjs]; decide) hsh (Nat.zero_lt_succ 1)]
  simp only [Result.andThen]
  rw [Oper.upon_value]
  go_wp2
  rw [run_callFunc_extern Tryd.func48 (by kernel_rfl) (by kernel_rfl) (by kernel_rfl) (e := Extern.AbiNoEscape.same) (by kernel_rfl)]
  rw [Lib.run_noEscape]
  simp only [Result.andThen]
  rw [Oper.upon_value]
  go_wp2
  rw [Lib.run_from_unsafe w ⟨b, 0, none⟩ Tryd.underlying80 Tryd.underlying58 hj hsh Tryd.Builder_Extra_169.liesBuilder]
  simp only [Result.andThen]
  rw [Oper.upon_value]
  go_wp2
  go_end0
  exact ⟨rfl, rfl⟩
/-- A builder of the bytes bs. -/
abbrev Bld (B b : Nat) (bs : List Value) (w : World) : Prop := Lib.IsBuilder 60 5 B b bs w
theorem bcheck_any (B b : Nat) (bs : List Value) (w : World) (h : Bld B b bs w) :
    Calls Tryd.prog 41 #[.pointer (some ⟨b, 0, none⟩)] w fun e w' => e = .returned (.tuple #[]) ∧ (Lib.BuilderAt 60 5 B b (.pointer (some ⟨b, 0, none⟩)) bs w' ∧ Below B w w') := by
  rcases h with h | h
  · refine (bcheck_fresh b w h.cell0 h.shape h.frozen0).mono ?_
    rintro e w' ⟨rfl, rfl⟩
    exact ⟨rfl, h.used _, (Below.refl B w).setCell (p := ⟨b, 0, none⟩) h.1 _⟩
  · refine (bcheck_used b w h.cell0).mono ?_
    rintro e w' ⟨rfl, rfl⟩
    exact ⟨rfl, h, Below.refl B _⟩
set_option maxHeartbeats 400000 in
set_option maxRecDepth 100000 in
theorem bbyte_any (B b : Nat) (bs : List Value) (c : Int) (w : World) (h : Bld B b bs w) (hlen : bs.length + 1 ≤ 1000000) (hBw : B ≤ w.heap.size) :
    Calls Tryd.prog 31 #[.pointer (some ⟨b, 0, none⟩), .int .u8 c] w fun e w' => e = .returned .nilIface ∧ (Bld B b (bs ++ [.int .u8 c]) w' ∧ Below B w w') := by
  obtain ⟨i0, hi, hz0, hz1, hz2⟩ := info_parts Tryd.Builder_Extra_169.infoByte
  go_enter Tryd.func31, Tryd.ntmps31
  go_wp2_with fail
  refine (bcheck_any B b bs _ h).mono ?_
  rintro e w1 ⟨rfl, h1, hb1⟩
  obtain ⟨hB, v, hbk, hown, hne⟩ := h1
  have hlt : b < w1.heap.size := Blk.lt (t := 60) (cs := _) hbk
  have c0 : w1.cell? ⟨b, 0, none⟩ = some (.pointer (some ⟨b, 0, none⟩)) := by rw [Lib.cell_of_heap hbk]; rfl
  have c1 : w1.cell? ⟨b, 1, none⟩ = some v := by rw [Lib.cell_of_heap hbk]; rfl
  go_wp2_with (at_builtin; refine wpList_append_own _ rfl _ _ 22 rfl B 5 i0 (.int .u8 0) 1 1 Tryd.underlying22 hi hz0 hz1 hz2 rfl (by decide) _ _ _ rfl (hown.alloc _) ⟨w1.heap.size, 0, none⟩ 1 1 [.int .u8 c] rfl rfl ?c1 ?c2 ?c3 ?c4 ?c5 ?_)
  case c1 =>
    intro j u hj
    match j, hj with
    | 0, hj => simp at hj; subst hj; simp [Addr.add]
  case c2 => intro u hu; simp at hu; subst hu; rfl
  case c3 => unfold maxLen; omega
  case c4 => omega
  case c5 => have := hb1.size; simp; omega
  intro v' w2 hown' hgrow _
  have hb2 : w2.heap[b]? = some (.cells #[.pointer (some ⟨b, 0, none⟩), v] 60 (0, 0)) := by
    rw [hgrow.block b (by simp; omega) (fun e => hne e.symm), Lib.alloc_old w1 _ b hlt]
    exact hbk
  have d0 : w2.cell? ⟨b, 0, none⟩ = some (.pointer (some ⟨b, 0, none⟩)) := by rw [Lib.cell_of_heap hb2]; rfl
  have d1 : w2.cell? ⟨b, 1, none⟩ = some v := by rw [Lib.cell_of_heap hb2]; rfl
  have f1 : w2.frozen? ⟨b, 1, none⟩ = false := Lib.frozen_of_heap hb2 1
  obtain ⟨g, cap, rfl⟩ : ∃ g cap, v' = .slice (some ⟨g, 0, none⟩) (bs.length + 1) cap := by
    rcases hown'.2 with ⟨_, h0⟩ | ⟨g, cap, cur, hv, _⟩
    · omega
    · exact ⟨g, cap, hv⟩
  go_wp2
  go_ret
  refine ⟨rfl, .inr (Lib.BuilderAt.put (T := 60) (e := 5) hB hb2 (bs' := bs ++ [.int .u8 c]) (by simpa using hown') (by decide)), ?_⟩
  exact ((hb1.alloc (by have := hb1.size; omega) _).grown hgrow (by have := hb1.size; simp; omega) (fun k hk => (hown.lt k hk).1)).setCell (p := ⟨b, 1, none⟩) hB _
theorem run_index32 (f : Nat → Nat) {k : Nat} (hk : k < 32) (w : World) : (Instr.index 34 (.agg (tag f)) (.int .i64 k)).run Tryd.prog w = .ok (.int .u8 (f k : Nat)) w := by
  have h1 : (0 : Int) ≤ (k : Int) ∧ (k : Int) < 32 := by omega
  simp [Instr.index, run_underlying Tryd.underlying34, asIntOf, h1, go_sem]
  rw [if_pos hk, get_tag hk]; rfl
/-- A digit's byte. -/
def hexd (h : Nat) : Nat := if h < 10 then 48 + h else 87 + h
theorem dig_fin : ∀ h : Fin 16, ((⟨#[48, 49, 50, 51, 52, 53, 54, 55, 56, 57, 97, 98, 99, 100, 101, 102]⟩ : ByteArray)[h.val]'(h.isLt)).toNat = hexd h.val := by decide
theorem dig_hex (h : Nat) (p : h < ByteArray.size ⟨#[48, 49, 50, 51, 52, 53, 54, 55, 56, 57, 97, 98, 99, 100, 101, 102]⟩) : ((⟨#[48, 49, 50, 51, 52, 53, 54, 55, 56, 57, 97, 98, 99, 100, 101, 102]⟩ : ByteArray)[h]'p).toNat = hexd h := dig_fin ⟨h, p⟩
/-- The first n bytes' digits. -/
def hexL (f : Nat → Nat) : Nat → List UInt8
  | 0 => []
  | n + 1 => hexL f n ++ [UInt8.ofNat (hexd (f n / 16)), UInt8.ofNat (hexd (f n % 16))]
theorem hexL_length (f : Nat → Nat) : ∀ n, (hexL f n).length = 2 * n
  | 0 => rfl
  | n + 1 => by rw [hexL, List.length_append, hexL_length f n]; simp; omega
theorem hexd_lt {h : Nat} (hh : h < 16) : hexd h < 256 := by unfold hexd; split <;> omega
theorem cells_hex (f : Nat → Nat) (hf : ∀ k, f k < 256) (n : Nat) : Lib.byteCells (hexL f (n + 1)) = (Lib.byteCells (hexL f n) ++ [.int .u8 (hexd (f n / 16) : Nat)]) ++ [.int .u8 (hexd (f n % 16) : Nat)] := by
  have h1 := hexd_lt (h := f n / 16) (by have := hf n; omega)
  have h2 := hexd_lt (h := f n % 16) (Nat.mod_lt _ (by omega))
  simp only [Lib.byteCells, hexL, List.map_append, List.map_cons, List.map_nil, List.append_assoc, List.cons_append, List.nil_append]
  congr 4
  · simp; omega
  · simp; omega
set_option maxHeartbeats 400000 in
set_option maxRecDepth 100000 in
/-- P3.3, Text. -/
theorem text_any (f : Nat → Nat) (hf : ∀ k, f k < 256) (w : World) :
    Calls Tryd.prog 18 #[.agg (tag f)] w fun e w' => e = .returned (.string ⟨(hexL f 32).toArray⟩) ∧ Below w.heap.size w w' := by
  have HF := hid hf
  clear hf
  go_enter Tryd.func18, Tryd.ntmps18
  go_upto_region 2 with fail
  generalize hw3 : World.alloc (World.alloc w _) _ = w3
  have b1 : Blk w3 w.heap.size 34 (tag f) := by rw [← hw3]; exact (Blk.top rfl rfl).alloc _
  have b2 : Bld w.heap.size (w.heap.size + 1) (Lib.byteCells (hexL f 0)) w3 := by
    rw [← hw3]
    exact .inl ⟨Nat.le_succ _, .slice none 0 0, by
      have h := Blk.top (w := w.alloc (.cells (tag f) 34)) (n := w.heap.size + 1) (t := 60) (c := #[.pointer none, .slice none 0 0]) rfl (by simp)
      exact h, World.ownsRow_nil _ _ _ _, by simp [Value.ownBlock]⟩
  have hb : Below w.heap.size w w3 := by rw [← hw3]; exact ((Below.refl _ _).alloc (Nat.le_refl _) _).alloc (by simp) _
  clear hw3
  go_wp2_with ((with_reducible apply ldt); rfl; exact b1)
  clear b1
  go_loopw [7] (fun i wr => ∃ k : Nat, k ≤ 32 ∧ i = .int .i64 k ∧ Bld w.heap.size (w.heap.size + 1) (Lib.byteCells (hexL f k)) wr ∧ Below w.heap.size w wr) (fun i _ => 32 - (intOf i).toNat)
  case atStart => exact ⟨0, by omega, rfl, b2, hb⟩
  case round =>
    clear b2 hb
    obtain ⟨k, hk, rfl, b2, hb⟩ := hrel
    by_cases hlt : k < 32
    · have tk : (k : Int) < 32 := by omega
      have hfk := HF.out k
      have hI := fun w => run_index32 f hlt w
      have B2 := hid b2
      have BEL := hid hb
      have hsz : w.heap.size ≤ wr.heap.size := hb.size
      have hln := Lib.byteCells_length (hexL f k)
      have hln2 := hexL_length f k
      have HLN := hid (And.intro hln hln2)
      clear b2 hb hln hln2
      go_wp2_with fail
      rw [dig_hex]
      refine (bbyte_any w.heap.size (w.heap.size + 1) _ _ wr B2.out (by have := HLN.out; omega) hsz).mono ?_
      rintro e w4 ⟨rfl, h4, hb4⟩
      have B4 := hid h4
      have BEL4 := hid (BEL.out.trans hb4)
      have hsz4 : w.heap.size ≤ w4.heap.size := Nat.le_trans hsz hb4.size
      clear h4 hb4 hsz B2 BEL hI
      go_wp2_with fail
      rw [dig_hex]
      refine (bbyte_any w.heap.size (w.heap.size + 1) _ _ w4 B4.out (by rw [List.length_append]; have := HLN.out; simp only [List.length_cons, List.length_nil]; omega) hsz4).mono ?_
      rintro e w5 ⟨rfl, h5, hb5⟩
      have b2 : Bld w.heap.size (w.heap.size + 1) (Lib.byteCells (hexL f (k + 1))) w5 := by rw [cells_hex f HF.out]; exact h5
      have hb := BEL4.out.trans hb5
      clear h5 hb5 B4 BEL4 hsz4
      have B2 := hid b2
      clear b2
      go_wp2_with fail
      go_roundw
      case rel => exact ⟨k + 1, by omega, by go_num, B2.out, hb⟩
      case measure => simp [intOf]; omega
    · have tk : decide ((k : Int) < 32) = false := by simp; omega
      rw [show k = 32 by omega] at b2
      have hsz : w.heap.size ≤ wr.heap.size := hb.size
      go_wp2_with fail
      refine (Tryd.Builder_String_any w.heap.size (w.heap.size + 1) (hexL f 32) wr b2 hsz).mono ?_
      rintro e w4 ⟨rfl, hb4⟩
      go_wp2_with fail
      go_ret
      exact ⟨rfl, hb.trans hb4⟩
end Go.Proofs.YtcpoccahneppiaaDoor
