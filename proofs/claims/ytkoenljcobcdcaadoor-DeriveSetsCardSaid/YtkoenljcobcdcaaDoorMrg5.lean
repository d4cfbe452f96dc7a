/-
  Contracts of casemateref09.Row and casemateref09.Sub.
  A text turned into bytes of the call's own.
  An empty slice of bytes that is made with room.
  Contracts of bytes.isWidth, copied, lay, Num and Text over this translation.
  Contracts of bytes.lay, Num and Text over this translation.
  Contracts of the document's Width, Digits, Value, Num and Text (casemateref06) over this translation.
  What comes in, number by number.
  Slices of bytes that come in.
  Slices of slices of bytes that come in.
  Contracts of the document's Text and Row (casemateref06), and of bytes.Row, over this translation.
  Contract of bytes.Row over this translation.
  Contract of derive.Sub.
  A region that draws its order, whose values may hang on the order (addresses of what it makes): of each operation's value one states what it is like (S, of no world) and what the world then holds of it and of those it waits for (D, kept by what the others do: K).
  An append leaves the slice that it was given as it was; the append in a region that draws its order.
  As XRegRel; what the world holds of a value is kept by those operations alone that it does not wait for.
  A region that draws its order, whose values may hang on the order and on what a call makes of the world: of each operation's value one states what it is like (S), what the world then holds of it (D, kept by what the others do: K), and which operations have come up (C).
  '[]byte' of a constant, in whatever world: the row gets a mark, its cells stay.
  Contract of casematelaw09.awake.
  Rows of sectors in one block: a slice literal of sectors; what lies in such a block.
  Structs of rows of bytes, built out of their fields.
  '==' of structs whose fields are rows of bytes.
  Contracts of derive.Of and derive.Pair.
  The law DeriveSubs.
  What comes in: rows of n bytes by value.
  What comes in: a digest by value, a text, bytes.
-/
import Derived.Test.YtkoenljcobcdcaaDoorMrg4
import Derived.Lib.ConvBytes
import Derived.Laws.MakeOwn
import Derived.Laws.OwnMore
import Derived.Deep.Slices
import Derived.OpenShut
import Derived.ChangeMaps5
import Derived.ChangeSlices
import Derived.Lib.SlBytesConst
import Derived.Great.BuildSlice
set_option linter.unusedVariables false
set_option maxRecDepth 100000
namespace Go.Proofs.YtkoenljcobcdcaaDoor
open Go.ChangeShapes Go.WideShapes Go.ChangeAt Go.RowKit
attribute [local go_sem] Gives
/-- A literal of bytes is the call's own. -/
theorem Own.litN {w : World} {B : Nat} {cs : Array Value} {l : List Nat} {n : Nat} (hB : B ≤ w.heap.size) (hn : n = l.length) (hl : l.length ≤ maxLen) (h : cs.toList = nums .u8 l) : Own 5 .u8 (w.alloc (.cells cs 5)) B (.slice (some ⟨w.heap.size, 0, none⟩) n n) l := by
  subst hn
  have hs : cs.size = l.length := by rw [← Array.length_toList, h, nums_length]
  exact ⟨by rw [nums_length, Nat.mul_one], .inr ⟨w.heap.size, l.length, cs, rfl, hB, heap_alloc_new w _, Nat.le_refl _, hl, by rw [hs, Nat.mul_one], by rw [Nat.mul_one, h, ← nums_length .u8 l, List.take_length]⟩⟩
namespace DvP
/-- The row of the domain D with one part. -/
def rowD (s : ByteArray) : List Nat := BytM.rowB 68 [nats s]
def headD (n : Nat) : List Nat := [68, 1, 0, 0, n / 256, n % 256]
theorem rowD_eq {s : ByteArray} (h : s.size ≤ 10000) : rowD s = headD s.size ++ nats s := by
  unfold rowD BytM.rowB BytM.flatP BytM.flatP headD
  rw [nats_length]
  unfold BytM.dig BytM.dig BytM.dig BytM.dig BytM.dig
  rw [show s.size / 256 ^ 3 % 256 = 0 by omega, show s.size / 256 ^ 2 % 256 = 0 by omega, show s.size / 256 ^ 1 % 256 = s.size / 256 by omega, show s.size / 256 ^ 0 % 256 = s.size % 256 by omega]
  simp
theorem rowD_length {s : ByteArray} (h : s.size ≤ 10000) : (rowD s).length = 6 + s.size := by rw [rowD_eq h, List.length_append, nats_length]; simp [headD]
theorem rowD_256 {s : ByteArray} (h : s.size ≤ 10000) : B256 (rowD s) := by
  rw [rowD_eq h]
  refine B256.append ?_ (nats_256 s)
  intro x hx
  simp only [headD, List.mem_cons, List.not_mem_nil, or_false] at hx
  rcases hx with rfl | rfl | rfl | rfl | rfl | rfl <;> omega
theorem nats_take (s : ByteArray) {i : Nat} (h : i < s.size) : (nats s).take (i + 1) = (nats s).take i ++ [(nats s).getD i 0] := by
  have hl : i < (nats s).length := by rw [nats_length]; exact h
  rw [List.take_succ_eq_append_getElem hl, ← nums_at hl]
theorem head_lit {n : Nat} (h : n ≤ 10000) : (#[.int .u8 68, .int .u8 1, .int .u8 ((n : Int) / 16777216), .int .u8 ((n : Int) / 65536), .int .u8 ((n : Int) / 256), .int .u8 ((n : Int) % 256)] : Array Value).toList = nums .u8 (headD n) := by
  have e1 : (n : Int) / 16777216 = ((0 : Nat) : Int) := by omega
  have e2 : (n : Int) / 65536 = ((0 : Nat) : Int) := by omega
  have e3 : (n : Int) / 256 = ((n / 256 : Nat) : Int) := by omega
  have e4 : (n : Int) % 256 = ((n % 256 : Nat) : Int) := by omega
  rw [e1, e2, e3, e4]; rfl
set_option maxHeartbeats 400000 in
set_option maxRecDepth 100000 in
theorem rrow_any (s : ByteArray) (hs : s.size ≤ 10000) (w : World) :
    Calls Tryd.prog 16 #[.string s] w fun e w' => ∃ v, e = .returned v ∧ Own 5 .u8 w' w.heap.size v (rowD s) ∧ Below w.heap.size w w' := by
  have HS := hid hs
  go_enter Tryd.func16, Tryd.ntmps16
  go_upto_region 3 with fail
  have o1 := Own.litN (w := w) (B := w.heap.size) (n := 6) (l := headD s.size) (Nat.le_refl _) rfl (by show 6 ≤ maxLen; unfold maxLen; omega) (head_lit hs)
  generalize hw1 : World.alloc w _ = w1 at o1 ⊢
  have hb1 : Below w.heap.size w w1 := by rw [← hw1]; exact (Below.refl _ _).alloc (Nat.le_refl _) _
  have hs1 : w.heap.size ≤ w1.heap.size := hb1.size
  clear hw1
  have O1 := hid o1
  have HB := hid hb1
  clear o1 hb1
  generalize hv1 : Value.slice (some ⟨w.heap.size, 0, none⟩) 6 6 = v1 at O1 ⊢
  clear hv1
  go_wp2_with fail
  go_loopw [4, 5] (fun u v wr => ∃ (i : Nat) (vo : Value), i ≤ s.size ∧ v = .int .i64 i ∧ u = vo ∧ Hid (Own 5 .u8 wr w.heap.size vo (headD s.size ++ (nats s).take i)) ∧ Hid (Below w.heap.size w wr)) (fun _ v _ => s.size - (intOf v).toNat)
  case atStart => exact ⟨0, _, by omega, rfl, rfl, hid (by rw [List.take_zero, List.append_nil]; exact O1.out), HB⟩
  case round =>
    clear O1 HB
    obtain ⟨i, vo, hi, rfl, rfl, ho, hb⟩ := hrel
    have hzw := hb.out.size
    by_cases hlt : i < s.size
    · have ti : (i : Int) < (s.size : Int) := by omega
      have hI := run_idxs s hlt
      have hst := nats_take s hlt
      have hlen : (headD s.size ++ (nats s).take i).length = 6 + i := by rw [List.length_append, List.length_take, nats_length, show (headD s.size).length = 6 from rfl]; omega
      generalize (nats s).getD i 0 = x at *
      have HST := hid hst
      have HLEN := hid hlen
      clear hst hlen
      go_wp2_with (at_builtin; (with_reducible apply wappN eltB); rfl; rfl; exact ho.out.alloc _; exact nums_one (x := x) (B := wr.heap.size + 1) rfl (Nat.lt_succ_self _); rfl; (rw [HLEN.out]; omega); (simp; omega); intro v' w4 o4 g4)
      have b4 := below_grown (hb.out.alloc hzw (.cells #[.int .u8 (x : Nat)] 5)) g4 ho.out (Nat.le_refl _) (Nat.le_refl _)
      go_roundw
      case rel => exact ⟨i + 1, v', by omega, by go_num, rfl, hid (by rw [HST.out, ← List.append_assoc]; exact o4), hid b4⟩
      case measure => simp [intOf] <;> omega
    · have ti : decide ((i : Int) < (s.size : Int)) = false := by simp; omega
      obtain rfl : i = s.size := by omega
      have o9 := ho.out
      rw [List.take_of_length_le (by rw [nats_length]; omega), ← rowD_eq hs] at o9
      have O9 := hid o9
      clear o9 ho
      go_wp2_with fail
      go_ret
      exact ⟨_, rfl, O9.out, hb.out⟩
theorem tK : ArT 23 32 := ⟨by kernel_rfl, ⟨_, Tryd.underlying23, rfl⟩, (zero_of_info (P := Tryd.prog) (t := 23) (v := .agg (ar 32 fun _ => 0)) (n := 32) (by kernel_rfl)).1⟩
theorem tT : ArT 40 32 := ⟨by kernel_rfl, ⟨_, Tryd.underlying40, rfl⟩, (zero_of_info (P := Tryd.prog) (t := 40) (v := .agg (ar 32 fun _ => 0)) (n := 32) (by kernel_rfl)).1⟩
/-- The key of a label. -/
def sub (k : Nat → Nat) (s : ByteArray) : Nat → Nat := HmM.tag (HmM.dl k) (rowD s)
set_option maxHeartbeats 800000 in
set_option maxRecDepth 100000 in
theorem rsub_any (k : Nat → Nat) (hk : ∀ i, k i < 256) (s : ByteArray) (hs : s.size ≤ 10000) (w : World) :
    Calls Tryd.prog 9 #[.agg (ar 32 k), .string s] w fun e w' => e = .returned (.agg (ar 32 (sub k s))) ∧ Below w.heap.size w w' := by
  have HF := hid hk
  have HS := hid hs
  clear hk hs
  go_enter Tryd.func9, Tryd.ntmps9
  go_upto_region 1 with (with_reducible apply alA tK)
  generalize hw1 : World.alloc (World.alloc w _) _ = w1
  have B1 := hid (show Blk w1 w.heap.size 23 (ar 32 k) by rw [← hw1]; exact (Blk.new _ _ _).alloc _)
  have B2 := hid (show Blk w1 (w.heap.size + 1) 23 (ar 32 fun _ => 0) by rw [← hw1]; exact Blk.top rfl (by simp))
  have BEL := hid (show Below w.heap.size w w1 by rw [← hw1]; exact ((Below.refl _ _).alloc (Nat.le_refl _) _).alloc (by simp) _)
  clear hw1
  have hgl := B1.out.lt
  have hgl2 := B2.out.lt
  go_wp2_with fail
  go_loopw [5, 6] (fun u v wr => ∃ (i : Nat) (vo : Value), i ≤ 32 ∧ v = .int .i64 i ∧ u = vo ∧ Hid (Own 5 .u8 wr w1.heap.size vo ((HmM.dl k).take i)) ∧ Hid (Below w1.heap.size w1 wr)) (fun _ v _ => 32 - (intOf v).toNat)
  case atStart => exact ⟨0, _, by omega, rfl, rfl, hid Own.nil, hid (Below.refl _ _)⟩
  case round =>
    obtain ⟨i, vo, hi, rfl, rfl, ho, hb⟩ := hrel
    have hzw := hb.out.size
    by_cases hlt : i < 32
    · have ti : (i : Int) < 32 := by omega
      have q1 := ((B1.out.below hb.out hgl).cell i).trans (get_ar hlt)
      have hst := dl_take k hlt
      have hlen : ((HmM.dl k).take i).length = i := by rw [List.length_take, HmM.dl_length]; omega
      have hx := HF.out i
      generalize k i = x at *
      have HST := hid hst
      have HLEN := hid hlen
      clear hst hlen
      go_wp2_with (at_builtin; (with_reducible apply wappN eltB); rfl; rfl; exact ho.out.alloc _; exact nums_one (x := x) (B := wr.heap.size + 1) rfl (Nat.lt_succ_self _); rfl; (rw [HLEN.out]; omega); (simp; omega); intro v' w4 o4 g4)
      have b4 := below_grown (hb.out.alloc hzw (.cells #[.int .u8 (x : Nat)] 5)) g4 ho.out (Nat.le_refl _) (Nat.le_refl _)
      go_roundw
      case rel => exact ⟨i + 1, v', by omega, by go_num, rfl, hid (by rw [HST.out]; exact o4), hid b4⟩
      case measure => simp [intOf] <;> omega
    · obtain rfl : i = 32 := by omega
      have o9 := ho.out
      rw [dl_full] at o9
      have c2 := hid (B2.out.below hb.out hgl2)
      have cb := hid (BEL.out.trans (hb.out.mono BEL.out.size))
      obtain ⟨K, kcap, rfl, ak⟩ := o9.arg (HmM.dl_256 HF.out)
      have AK := hid ak
      clear o9 ho hb B1 B2 BEL ak hzw
      go_wp2_with fail
      refine (rrow_any s HS.out wr).mono ?_
      rintro e w3 ⟨v, rfl, o3, h3⟩
      obtain ⟨A, cap, rfl, ar3⟩ := o3.arg (rowD_256 HS.out)
      have a3 := AK.out.on h3
      have d2 := hid (c2.out.below h3 c2.out.lt)
      have db := hid (cb.out.trans (h3.mono cb.out.size))
      clear c2 cb o3 h3 AK
      have A3 := hid a3
      have AR := hid ar3
      clear a3 ar3
      go_wp2_with fail
      refine (rof_any K (HmM.dl k) _ kcap rfl (by rw [HmM.dl_length]; omega) A3.out.none A3.out.b256 A (rowD s) _ cap rfl (by rw [rowD_length HS.out]; have := HS.out; omega) AR.out.none AR.out.b256 w3 A3.out.byt AR.out.byt).mono ?_
      rintro e w4 ⟨rfl, h4⟩
      have SB := hid (show ∀ i, sub k s i < 256 from fun i => HmM.tag_256 _ _ i)
      rw [show tag (HmM.tag (HmM.dl k) (rowD s)) = ar 32 (sub k s) from rfl]
      obtain ⟨F, hF⟩ : ∃ F, F = sub k s := ⟨_, rfl⟩
      have HFE := hid hF
      rw [← hF] at SB ⊢
      have c2 := hid (d2.out.below h4 d2.out.lt)
      have cb := hid (db.out.trans (h4.mono db.out.size))
      have hl4 := c2.out.lt
      clear d2 db h4 A3 AR hF
      obtain ⟨gt, hgt⟩ : ∃ gt, gt = w4.heap.size := ⟨_, rfl⟩
      have hz : Blk (w4.alloc (.cells (ar 32 fun _ => 0) 40)) w4.heap.size 40 (ar 32 fun _ => 0) := Blk.new _ _ _
      go_upto_region 7 with (first | (with_reducible apply alA tT) | ((with_reducible apply stA tT); rfl; rfl; exact hz))
      rw [← hgt] at hz hl4 ⊢
      generalize hw5 : World.setRow _ _ _ = w5
      have e2 := hid (show Blk w5 (w.heap.size + 1) 23 (ar 32 fun _ => 0) by rw [← hw5]; exact (c2.out.alloc _).setRow_other (by omega) _)
      have e3 := hid (show Blk w5 gt 40 (ar 32 F) by rw [← hw5]; exact hz.setRow_same _)
      have eb := hid (show Below w.heap.size w w5 by rw [← hw5]; exact below_setRow (cb.out.alloc cb.out.size _) (by omega) _)
      clear hw5 hz c2 cb hgt
      obtain ⟨go, hgo⟩ : ∃ go, go = w5.heap.size := ⟨_, rfl⟩
      have hto : gt < go := by rw [hgo]; exact e3.out.lt
      have hz : Blk (w5.alloc (.cells (ar 32 fun _ => 0) 23)) w5.heap.size 23 (ar 32 fun _ => 0) := Blk.new _ _ _
      go_upto_region 8 with (with_reducible apply alA tK)
      rw [← hgo] at hz ⊢
      generalize hw6 : World.alloc _ _ = w6 at hz ⊢
      have d2 := show Blk w6 (w.heap.size + 1) 23 (ar 32 fun _ => 0) by rw [← hw6]; exact e2.out.alloc _
      have d3 := show Blk w6 gt 40 (ar 32 F) by rw [← hw6]; exact e3.out.alloc _
      have db := show Below w.heap.size w w6 by rw [← hw6]; exact eb.out.alloc eb.out.size _
      clear hw6 e2 e3 eb hgo
      go_wp2_with fail
      go_loopw [9] (fun v wr => ∃ i : Nat, i ≤ 32 ∧ v = .int .i64 i ∧ Blk wr (w.heap.size + 1) 23 (ar 32 fun _ => 0) ∧ Blk wr gt 40 (ar 32 F) ∧ Blk wr go 23 (ar 32 (upTo i (fun _ => 0) F)) ∧ Below w.heap.size w wr) (fun v _ => 32 - (intOf v).toNat)
      case atStart => exact ⟨0, by omega, rfl, d2, d3, by rw [upTo_zero]; exact hz, db⟩
      case round =>
        clear d2 d3 hz db
        obtain ⟨i, hi, rfl, b2, b3, b4, hb⟩ := hrel
        by_cases hlt : i < 32
        · have ti : (i : Int) < 32 := by omega
          have c1 : wr.cell? ⟨gt, i, none⟩ = some (.int .u8 (F i : Nat)) := by rw [b3.cell, get_ar hlt]
          have c3 := b4.frozen i
          have c4 := (b4.cell i).trans (get_ar hlt)
          go_wp2_with fail
          go_roundw
          case rel => exact ⟨i + 1, by omega, by go_num, b2.setCell_other (by show go ≠ _; omega) _, b3.setCell_other (by show go ≠ _; omega) _, upTo_step (b4.setCell_same i _), hb.setCell (by show w.heap.size ≤ go; omega) _⟩
          case measure => simp [intOf]; omega
        · have ti : decide ((i : Int) < 32) = false := by simp; omega
          rw [upTo_all (by omega)] at b4
          go_wp2_with (first | ((with_reducible apply ldA tK); rfl; exact b4) | ((with_reducible apply stA tK); rfl; rfl; exact b2))
          apply ret_ar tK Tryd.results9
          · rfl
          · rfl
          · exact b2.setRow_same _
          exact ⟨by rw [HFE.out], below_setRow hb (by omega) _⟩
end DvP
end Go.Proofs.YtkoenljcobcdcaaDoor
set_option maxRecDepth 100000
namespace Go.Proofs.YtkoenljcobcdcaaDoor
open Go.ChangeShapes Go.WideShapes Go.ChangeAt Go.RowKit
theorem bw_below' (w : World) (e : TypeId) (s : ByteArray) : Below w.heap.size w (Lib.bytesWorld w e s) := by
  refine ⟨?_, ?_, ?_, by rw [Lib.bytesWorld_size]; omega, fun k hk => ?_⟩
  all_goals first | (unfold Lib.bytesWorld World.freeze; split <;> rfl) | exact Lib.bytesWorld_at_old w e s k hk
theorem bw_byt' (w : World) (e : TypeId) (s : ByteArray) : Byt (Lib.bytesWorld w e s) (Lib.bytesWorld w e s).heap.size (some ⟨w.heap.size, 0, none⟩) (nats s) := fun _ => by
  refine ⟨w.heap.size, 0, rfl, by rw [Lib.bytesWorld_size]; omega, fun i hi => ?_⟩
  rw [nats_length] at hi
  rw [Nat.zero_add, Lib.bytesWorld_cell w e s i hi]
  have h1 : i < s.data.toList.length := by simpa using hi
  simp [nats, List.getD_eq_getElem?_getD, List.getElem?_map, List.getElem?_eq_getElem h1]
section
variable {ops : Array Oper} {Q : Exit → Act → World → Prop} {a : Act} {w : World} {rest : List Oper} {dst : Option Tmp} {ty : TypeId} {pos : String} {after : Array Edge} {x : Operand} {s : ByteArray}
theorem wconvS (hx : a.eval x = .string s) (hs : s.size ≤ 1000000) (h : ∀ g cap w', g = w.heap.size → s.size ≤ cap → cap ≤ maxLen → Byt w' w'.heap.size (some ⟨g, 0, none⟩) (nats s) → Below w.heap.size w w' → wpList Tryd.prog ops Q rest (a.put dst (.slice (some ⟨g, 0, none⟩) s.size cap)) w') :
    wpList Tryd.prog ops Q (⟨dst, .convert 9 33 x, ty, pos, after, none⟩ :: rest) a w := by
  refine wpList_plain rfl fun K hK => ?_
  unfold Oper.wp execOp
  simp only [hx, Sem.run_bind]
  rw [Lib.run_convert_string_bytes w 9 33 5 s Tryd.underlying9 Tryd.underlying33 Tryd.underlying5]
  simp only [Result.andThen_ok, Sem.run_pure]
  exact hK _ _ (h _ _ _ rfl (grownCap_ge w s.size 0 5) (grownCap_le_maxLen w s.size 0 5 (by unfold maxLen; omega)) (bw_byt' w 5 s) (bw_below' w 5 s))
end
end Go.Proofs.YtkoenljcobcdcaaDoor
set_option maxRecDepth 100000
namespace Go.Proofs.YtkoenljcobcdcaaDoor
open Go.ChangeShapes Go.WideShapes Go.ChangeAt Go.RowKit
/-- An empty slice with room. -/
theorem mk0 {ops : Array Oper} {Q : Exit → Act → World → Prop} {a : Act} {w : World} {rest : List Oper} {dst : Option Tmp} {ty : TypeId} {pos : String} {after : Array Edge} {x y : Operand} {n : Nat} (hn : n ≤ 1000000)
    (hx : a.eval x = .int .i64 0) (hy : a.eval y = .int .i64 (n : Int)) (h : ∀ v w', Own 5 .u8 w' w.heap.size v [] → Below w.heap.size w w' → wpList Tryd.prog ops Q rest (a.put dst v) w') :
    wpList Tryd.prog ops Q (⟨dst, .makeSlice 33 x y, ty, pos, after, none⟩ :: rest) a w := by
  obtain ⟨i, hi, hz, h1, h2⟩ := eltB.inf
  obtain ⟨w', hr, ho, hg⟩ := run_make_own (P := Tryd.prog) w w.heap.size 33 5 i (.int .u8 0) 1 eltB.und hi hz h1 .i64 .i64 n (Nat.le_trans (Nat.mul_le_mul h2 hn) (by omega)) (by unfold maxLen; omega) (Nat.le_refl _)
  refine wpList_plain rfl fun K hK => ?_
  unfold Oper.wp execOp
  simp only [Sem.run_bind, hx, hy, hr, Result.andThen_ok]
  exact hK _ _ (h _ w' ho (below_none (Below.refl _ _) hg (Nat.le_refl _)))
theorem nums_zero (n : Nat) : nums .u8 (List.replicate n 0) = List.replicate n (.int .u8 0) := by
  unfold nums; rw [List.map_replicate]; rfl
/-- n bytes 0. -/
theorem mkz {ops : Array Oper} {Q : Exit → Act → World → Prop} {a : Act} {w : World} {rest : List Oper} {dst : Option Tmp} {ty : TypeId} {pos : String} {after : Array Edge} {x y : Operand} {n : Nat} (hn : n ≤ 1000000)
    (hx : a.eval x = .int .i64 n) (hy : a.eval y = .int .i64 (n : Int)) (h : ∀ v w', Own 5 .u8 w' w.heap.size v (List.replicate n 0) → Below w.heap.size w w' → wpList Tryd.prog ops Q rest (a.put dst v) w') :
    wpList Tryd.prog ops Q (⟨dst, .makeSlice 33 x y, ty, pos, after, none⟩ :: rest) a w := by
  obtain ⟨i, hi, hz, h1, h2⟩ := eltB.inf
  obtain ⟨w', hr, ho, hg⟩ := run_makeSlice_full (P := Tryd.prog) w w.heap.size 33 5 i (.int .u8 0) 1 eltB.und hi hz h1 .i64 .i64 n (by omega) (Nat.le_trans (Nat.mul_le_mul h2 hn) (by omega)) (by unfold maxLen; omega) (Nat.le_refl _)
  refine wpList_plain rfl fun K hK => ?_
  unfold Oper.wp execOp
  simp only [Sem.run_bind, hx, hy, hr, Result.andThen_ok]
  refine hK _ _ (h _ w' ?_ (below_none (Below.refl _ _) hg (Nat.le_refl _)))
  have e : (madeCells (Value.int IntKind.u8 0).cells (n * 1)).toList = List.replicate n (.int .u8 0) := by
    unfold madeCells
    apply List.ext_getElem?
    intro j
    simp [Value.cells, Nat.mod_one, List.getElem?_replicate]
    by_cases h : j < n
    · rw [List.getElem?_range h, if_pos h]; rfl
    · rw [List.getElem?_eq_none (by simp; omega), if_neg h]; rfl
  unfold Own
  rw [List.length_replicate, nums_zero, ← e]
  exact ho
end Go.Proofs.YtkoenljcobcdcaaDoor
set_option maxRecDepth 100000
namespace Go.Proofs.YtkoenljcobcdcaaDoor
open Go.ChangeShapes Go.WideShapes Go.ChangeAt Go.RowKit
attribute [local go_sem] Gives
theorem beq_false {a b : Int} (h : a ≠ b) : (a == b) = false := by rw [beq_eq_false_iff_ne]; exact h
set_option maxHeartbeats 400000 in
theorem isw_any (w : Int) (W : World) : Calls Tryd.prog 28 #[.int .i64 w] W fun e w' => e = .returned (.bool (BytM.isW w)) ∧ W = w' := by
  have hb : BytM.isW w = BytM.isW w := rfl
  by_cases h1 : w = 1
  · subst h1
    go_enter Tryd.func28, Tryd.ntmps28
    go_wp2_with fail
    go_ret
    exact ⟨rfl, rfl⟩
  by_cases h2 : w = 2
  · subst h2
    go_enter Tryd.func28, Tryd.ntmps28
    go_wp2_with fail
    go_ret
    exact ⟨rfl, rfl⟩
  by_cases h4 : w = 4
  · subst h4
    go_enter Tryd.func28, Tryd.ntmps28
    go_wp2_with fail
    go_ret
    exact ⟨rfl, rfl⟩
  by_cases h8 : w = 8
  · subst h8
    go_enter Tryd.func28, Tryd.ntmps28
    go_wp2_with fail
    go_ret
    exact ⟨rfl, rfl⟩
  have e : BytM.isW w = false := by simp [BytM.isW, h1, h2, h4, h8]
  rw [e]
  have t1 := beq_false h1
  have t2 := beq_false h2
  have t4 := beq_false h4
  have t8 := beq_false h8
  clear h1 h2 h4 h8 e hb
  go_enter Tryd.func28, Tryd.ntmps28
  go_wp2_with fail
  go_ret
  exact ⟨rfl, rfl⟩
end Go.Proofs.YtkoenljcobcdcaaDoor
set_option maxRecDepth 100000
namespace Go.Proofs.YtkoenljcobcdcaaDoor
open Go.ChangeShapes Go.WideShapes Go.ChangeAt Go.RowKit
attribute [local go_sem] Gives
theorem shr_cast (n j : Nat) : ((n : Int) / 2 ^ (8 * j) % 256) = ((n / 256 ^ j % 256 : Nat) : Int) := by
  have h : (256 : Nat) ^ j = 2 ^ (8 * j) := by rw [Nat.pow_mul]
  rw [h]
  simp
set_option maxHeartbeats 400000 in
theorem lay_any (v : Value) (l : List Nat) (B m n : Nat) (hm : m ≤ 8) (hsz : l.length ≤ 900000) (W : World) (ho : Own 5 .u8 W B v l) (hB : B ≤ W.heap.size) :
    Calls Tryd.prog 18 #[v, .int .i64 m, .int .u64 n] W fun e w' => ∃ v', e = .returned v' ∧ Own 5 .u8 w' B v' (l ++ BytM.dig m n) ∧ Below B W w' := by
  have HO := hid ho
  have HB := hid hB
  have HZ := hid hsz
  clear ho hB hsz
  go_enter Tryd.func18, Tryd.ntmps18
  go_wp2_with fail
  go_loopw [0, 9] (fun u i wr => ∃ (k : Nat) (vo : Value), k ≤ m ∧ i = .int .i64 k ∧ u = vo ∧ Hid (Own 5 .u8 wr B vo (l ++ (BytM.dig m n).take k)) ∧ Hid (Below B W wr)) (fun _ i _ => m - (intOf i).toNat)
  case atStart => exact ⟨0, _, by omega, rfl, rfl, hid (by rw [List.take_zero, List.append_nil]; exact HO.out), hid (Below.refl _ _)⟩
  case round =>
    obtain ⟨k, vo, hk, rfl, rfl, ho, hb⟩ := hrel
    by_cases hlt : k < m
    · have ti : (k : Int) < (m : Int) := by omega
      have hst := BytM.dig_step (n := n) hlt
      have hlen : ((BytM.dig m n).take k).length = k := by rw [List.length_take, BytM.dig_length]; omega
      have hx := shr_cast n (m - 1 - k)
      generalize n / 256 ^ (m - 1 - k) % 256 = x at *
      have HX := hid hx
      have HST := hid hst
      have HLEN := hid hlen
      have hzw := hb.out.size
      clear hx hst hlen
      go_wp2_with (at_builtin; (with_reducible apply wappN eltB); rfl; rfl; exact ho.out.alloc _; exact nums_one (x := x) (B := wr.heap.size + 1) (congrArg (Value.int .u8) HX.out) (Nat.lt_succ_self _); rfl; (rw [List.length_append, HLEN.out]; have := HZ.out; omega); (simp; have := HB.out; omega); intro v' w4 o4 g4)
      have b4 := below_grown (hb.out.alloc (Nat.le_trans HB.out hzw) (.cells #[.int .u8 (x : Nat)] 5)) (by rw [← HX.out]; exact g4) ho.out (Nat.le_refl _) HB.out
      go_roundw
      case rel => exact ⟨k + 1, v', by omega, by go_num, rfl, hid (by rw [HST.out, ← List.append_assoc]; exact o4), hid b4⟩
      case measure => simp [intOf]; omega
    · obtain rfl : k = m := by omega
      have ho2 := ho.out
      rw [List.take_of_length_le (by rw [BytM.dig_length]; exact Nat.le_refl _)] at ho2
      have O2 := hid ho2
      clear ho2 ho
      go_wp2_with fail
      go_ret
      exact ⟨_, rfl, O2.out, hb.out⟩
theorem sh_zero {n k : Nat} (h : n < 256 ^ k) : (n : Int) / 2 ^ (8 * k) = 0 := by
  have e : (256 : Nat) ^ k = 2 ^ (8 * k) := by rw [Nat.pow_mul]
  rw [e] at h
  have : ((n / 2 ^ (8 * k) : Nat) : Int) = 0 := by rw [Nat.div_eq_of_lt h]; rfl
  simpa using this
theorem sh_pos {n k : Nat} (h : ¬ n < 256 ^ k) : ((n : Int) / 2 ^ (8 * k) == 0) = false := by
  have e : (256 : Nat) ^ k = 2 ^ (8 * k) := by rw [Nat.pow_mul]
  rw [e] at h
  have h2 : 0 < n / 2 ^ (8 * k) := Nat.div_pos (by omega) (Nat.pow_pos (by omega))
  apply beq_false
  have : ((n / 2 ^ (8 * k) : Nat) : Int) ≠ 0 := by omega
  simpa using this
end Go.Proofs.YtkoenljcobcdcaaDoor
set_option maxRecDepth 100000
namespace Go.Proofs.YtkoenljcobcdcaaDoor
open Go.ChangeShapes Go.WideShapes Go.ChangeAt Go.RowKit
attribute [local go_sem] Gives
theorem set_zeros (j x : Nat) (t : List Nat) : (List.replicate (j + 1) 0 ++ t).set j x = List.replicate j 0 ++ x :: t := by
  rw [List.replicate_succ', List.append_assoc, List.set_append_right _ _ (by simp)]
  simp
theorem val_step {l : List Nat} {k : Nat} (h : k < l.length) : BytM.val (l.take (k + 1)) = 256 * BytM.val (l.take k) + l.getD k 0 := by
  rw [List.take_succ_eq_append_getElem h, ← nums_at h, BytM.val_snoc]
theorem B256.getD {l : List Nat} (h : B256 l) (k : Nat) : l.getD k 0 < 256 := by
  rw [List.getD_eq_getElem?_getD]
  cases e : l[k]? with
  | none => simp
  | some x => simp only [Option.getD_some]; exact h x (List.mem_of_getElem? e)
theorem val_7 {l : List Nat} (h : B256 l) {k : Nat} (hk : k ≤ 7) : BytM.val (l.take k) < 72057594037927936 :=
  Nat.lt_of_lt_of_le (BytM.val_lt_of (h.take k) (w := 7) (by rw [List.length_take]; omega)) (by omega)
theorem val_8 {l : List Nat} (h : B256 l) (hl : l.length ≤ 8) : BytM.val l < 18446744073709551616 :=
  Nat.lt_of_lt_of_le (BytM.val_lt_of h hl) (by omega)
end Go.Proofs.YtkoenljcobcdcaaDoor
set_option maxRecDepth 100000
namespace Go.Proofs.YtkoenljcobcdcaaDoor
open Go.ChangeShapes Go.WideShapes Go.ChangeAt Go.RowKit Go.Deep
theorem choose_lt {α : Type} [Inhabited α] {n : Nat} {P : Nat → α → Prop} (h : ∀ k, k < n → ∃ a, P k a) : ∃ f : Nat → α, ∀ k, k < n → P k (f k) :=
  ⟨fun k => if hk : k < n then (h k hk).choose else default, fun k hk => by simp only [hk, dif_pos]; exact (h k hk).choose_spec⟩
theorem u8_wf {a : Int} (h : (Lit.int .u8 a).wf = true) : ∃ n : Nat, a = n ∧ n < 256 := by
  simp [Lit.wf, IntKind.min, IntKind.max, IntKind.bits, IntKind.signed] at h
  exact ⟨a.toNat, by omega, by omega⟩
theorem cells_u8 : Tryd.prog.cellsOf 5 = 1 := by kernel_rfl
end Go.Proofs.YtkoenljcobcdcaaDoor
set_option maxRecDepth 100000
namespace Go.Proofs.YtkoenljcobcdcaaDoor
open Go.ChangeShapes Go.WideShapes Go.ChangeAt Go.RowKit Go.Deep
section
variable {H : Type} {enc : TypeId × Value → H} {w : World} {base : Nat} {spare : Nat → Bool} {held : Bool}
set_option maxRecDepth 100000 in
theorem open_byts {r : Reach} {b0 : Nat} {v : Value} {d : DataW H} {p : List MemPlace} (hv : Value.okWide Tryd.prog w r b0 33 v) (h : DataW.Trod enc Tryd.prog w base spare held 33 v d p) :
    ∃ (A : Option Addr) (l : List Nat) (n cap : Nat), v = .slice A n cap ∧ l.length = n ∧ n ≤ cap ∧ cap ≤ maxLen ∧ B256 l ∧ Byt w w.heap.size A l ∧ (A = none → n = 0 ∧ cap = 0) := by
  obtain ⟨A, n, cap, rfl⟩ := okWide_slice Tryd.underlying33 hv
  obtain ⟨fuel, hf⟩ := h
  rcases open_ints Tryd.underlying33 Tryd.underlying5 cells_u8 hf with ⟨hcs, _⟩ | ⟨a, len, cap', zs, hcs, _, hl, hm, hz, _, hcell, hwz⟩
  · simp [Value.cells] at hcs
    obtain ⟨rfl, rfl, rfl⟩ := hcs
    exact ⟨none, [], 0, 0, rfl, rfl, Nat.le_refl _, Nat.zero_le _, (fun x hx => by cases hx), Byt.none rfl, fun _ => ⟨rfl, rfl⟩⟩
  · simp [Value.cells] at hcs
    obtain ⟨rfl, rfl, rfl⟩ := hcs
    have hnz : n ≤ zs.length := by rw [hz]; split <;> omega
    have hlen : ((zs.take n).map Int.toNat).length = n := by rw [List.length_map, List.length_take]; omega
    have hat : ∀ i, i < n → ∃ k : Nat, zs.getD i 0 = k ∧ k < 256 ∧ ((zs.take n).map Int.toNat).getD i 0 = k := fun i hi => by
      have hi' : i < zs.length := by omega
      have hg : zs.getD i 0 = zs[i] := by rw [List.getD_eq_getElem?_getD, List.getElem?_eq_getElem hi']; rfl
      obtain ⟨k, hk, hk2⟩ := u8_wf (hwz zs[i] (List.getElem_mem hi'))
      refine ⟨k, hg.trans hk, hk2, ?_⟩
      rw [List.getD_eq_getElem?_getD, List.getElem?_map, List.getElem?_take_of_lt hi, List.getElem?_eq_getElem hi', hk]
      rfl
    refine ⟨some a, (zs.take n).map Int.toNat, n, cap, rfl, hlen, hl, hm, fun x hx => ?_, fun hn => ?_, fun h => by cases h⟩
    · obtain ⟨i, hi⟩ := List.getElem?_of_mem hx
      have hin : i < n := by have := (List.getElem?_eq_some_iff.1 hi).1; omega
      obtain ⟨k, _, hk, he⟩ := hat i hin
      rw [List.getD_eq_getElem?_getD, hi] at he
      have : x = k := he
      omega
    · rw [hlen] at hn
      have h0 := hcell 0 (by omega)
      have hsp : a.spot = none := by
        simp only [Addr.add, if_true] at h0
        unfold World.cell? at h0
        split at h0
        · cases hs : a.spot with
          | none => rfl
          | some s => simp [hs] at h0
        · cases h0
      have hblk : a.block < w.heap.size := by
        have := World.block_lt_of_cell? w _ h0
        simpa [Addr.add] using this
      obtain ⟨b, o, sp⟩ := a
      subst hsp
      refine ⟨b, o, rfl, hblk, fun i hi => ?_⟩
      rw [hlen] at hi
      obtain ⟨k, h1, _, h2⟩ := hat i hi
      have h3 := hcell i (by omega)
      rw [Addr.add_mid, h1] at h3
      rw [h3, h2]
end
end Go.Proofs.YtkoenljcobcdcaaDoor
set_option maxRecDepth 100000
namespace Go.Proofs.YtkoenljcobcdcaaDoor
open Go.ChangeShapes Go.WideShapes Go.ChangeAt Go.RowKit Go.Deep
/-- A slice of slices of bytes that came in; a part that is nil has no bytes and no room. -/
def PrtsN (w : World) (B : Nat) (A : Option Addr) (ls : List (List Nat)) : Prop :=
  0 < ls.length → ∃ b o, A = some ⟨b, o, none⟩ ∧ b < B ∧ ∀ i, i < ls.length → ∃ A' c, w.cell? ⟨b, o + i, none⟩ = some (.slice A' (ls.getD i []).length c) ∧ (ls.getD i []).length ≤ c ∧ c ≤ maxLen ∧ Byt w B A' (ls.getD i []) ∧ (A' = none → (ls.getD i []).length = 0 ∧ c = 0)
theorem PrtsN.below {B B' : Nat} {w w' : World} {A : Option Addr} {ls : List (List Nat)} (h : PrtsN w B A ls) (hb : Below B' w w') (hB : B ≤ B') : PrtsN w' B A ls := fun hn => by
  obtain ⟨b, o, rfl, hl, hr⟩ := h hn
  refine ⟨b, o, rfl, hl, fun i hi => ?_⟩
  obtain ⟨A', c, h1, h2, h3, h4, h5⟩ := hr i hi
  exact ⟨A', c, (hb.cell (p := ⟨b, o + i, none⟩) (by show b < B'; omega)).trans h1, h2, h3, h4.below hb hB, h5⟩
theorem PrtsN.more {w : World} {B B' : Nat} {A : Option Addr} {ls : List (List Nat)} (h : PrtsN w B A ls) (hB : B ≤ B') : PrtsN w B' A ls := fun hn => by
  obtain ⟨b, o, rfl, hl, hr⟩ := h hn
  refine ⟨b, o, rfl, by omega, fun i hi => ?_⟩
  obtain ⟨A', c, h1, h2, h3, h4, h5⟩ := hr i hi
  exact ⟨A', c, h1, h2, h3, h4.more hB, h5⟩
theorem cells_sl : Tryd.prog.cellsOf 33 = 1 := by kernel_rfl
section
variable {H : Type} {enc : TypeId × Value → H} {w : World} {base : Nat} {spare : Nat → Bool} {held : Bool}
theorem trod_byts {fuel : Nat} {cs : List Value} {x : DataW H × List MemPlace} (h : DataW.trod enc Tryd.prog w base spare held fuel 33 cs = some x) :
    ∃ (A : Option Addr) (l : List Nat) (cap : Nat), cs = [.slice A l.length cap] ∧ l.length ≤ cap ∧ cap ≤ maxLen ∧ B256 l ∧ Byt w w.heap.size A l ∧ (A = none → l.length = 0 ∧ cap = 0) := by
  rcases open_ints Tryd.underlying33 Tryd.underlying5 cells_u8 h with ⟨hcs, _⟩ | ⟨a, n, cap, zs, hcs, _, hl, hm, hz, _, hcell, hwz⟩
  · subst hcs
    exact ⟨none, [], 0, rfl, Nat.le_refl _, Nat.zero_le _, (fun x hx => by cases hx), Byt.none rfl, fun _ => ⟨rfl, rfl⟩⟩
  · subst hcs
    have hnz : n ≤ zs.length := by rw [hz]; split <;> omega
    have hlen : ((zs.take n).map Int.toNat).length = n := by rw [List.length_map, List.length_take]; omega
    have hat : ∀ i, i < n → ∃ k : Nat, zs.getD i 0 = k ∧ k < 256 ∧ ((zs.take n).map Int.toNat).getD i 0 = k := fun i hi => by
      have hi' : i < zs.length := by omega
      have hg : zs.getD i 0 = zs[i] := by rw [List.getD_eq_getElem?_getD, List.getElem?_eq_getElem hi']; rfl
      obtain ⟨k, hk, hk2⟩ := u8_wf (hwz zs[i] (List.getElem_mem hi'))
      refine ⟨k, hg.trans hk, hk2, ?_⟩
      rw [List.getD_eq_getElem?_getD, List.getElem?_map, List.getElem?_take_of_lt hi, List.getElem?_eq_getElem hi', hk]
      rfl
    refine ⟨some a, (zs.take n).map Int.toNat, cap, by rw [hlen], by rw [hlen]; exact hl, hm, fun x hx => ?_, fun hn => ?_, fun h => by cases h⟩
    · obtain ⟨i, hi⟩ := List.getElem?_of_mem hx
      have hin : i < n := by have := (List.getElem?_eq_some_iff.1 hi).1; omega
      obtain ⟨k, _, hk, he⟩ := hat i hin
      rw [List.getD_eq_getElem?_getD, hi] at he
      have : x = k := he
      omega
    · rw [hlen] at hn
      have h0 := hcell 0 (by omega)
      have hsp : a.spot = none := by
        simp only [Addr.add, if_true] at h0
        unfold World.cell? at h0
        split at h0
        · cases hs : a.spot with
          | none => rfl
          | some s => simp [hs] at h0
        · cases h0
      have hblk : a.block < w.heap.size := by
        have := World.block_lt_of_cell? w _ h0
        simpa [Addr.add] using this
      obtain ⟨b, o, sp⟩ := a
      subst hsp
      refine ⟨b, o, rfl, hblk, fun i hi => ?_⟩
      rw [hlen] at hi
      obtain ⟨k, h1, _, h2⟩ := hat i hi
      have h3 := hcell i (by omega)
      rw [Addr.add_mid, h1] at h3
      rw [h3, h2]
set_option maxRecDepth 100000 in
theorem open_prts {r : Reach} {b0 : Nat} {v : Value} {d : DataW H} {p : List MemPlace} (hv : Value.okWide Tryd.prog w r b0 37 v) (h : DataW.Trod enc Tryd.prog w base spare held 37 v d p) :
    ∃ (A : Option Addr) (ls : List (List Nat)) (n cap : Nat), v = .slice A n cap ∧ ls.length = n ∧ n ≤ cap ∧ cap ≤ maxLen ∧ (∀ l ∈ ls, B256 l) ∧ PrtsN w w.heap.size A ls ∧ (A = none → n = 0 ∧ cap = 0) := by
  obtain ⟨A, n, cap, rfl⟩ := okWide_slice Tryd.underlying37 hv
  obtain ⟨fuel, hf⟩ := h
  rcases open_slice Tryd.underlying37 hf with ⟨hcs, _⟩ | ⟨a, len, cap', m, fu, D, Pl, hcs, hb, hl, hm, hmm, hx, hi⟩
  · simp [Value.cells] at hcs
    obtain ⟨rfl, rfl, rfl⟩ := hcs
    exact ⟨none, [], 0, 0, rfl, rfl, Nat.le_refl _, Nat.zero_le _, (fun x hx => by cases hx), (fun h => absurd h (by simp)), fun _ => ⟨rfl, rfl⟩⟩
  · simp [Value.cells] at hcs
    obtain ⟨rfl, rfl, rfl⟩ := hcs
    have hnm : n ≤ m := by rw [hmm]; split <;> omega
    have one : ∀ i, i < n → ∃ y : List Nat, B256 y ∧ ∃ (A' : Option Addr) (c : Nat), w.cell? (a.add i) = some (.slice A' y.length c) ∧ y.length ≤ c ∧ c ≤ maxLen ∧ Byt w w.heap.size A' y ∧ (A' = none → y.length = 0 ∧ c = 0) := fun i hin => by
      obtain ⟨cs', hc, ht⟩ := hi i (by omega)
      obtain ⟨A', y, c, e, h1, h2, h3, h4, h5⟩ := trod_byts ht
      subst e
      have h6 := (World.cells?_some hc).2.2 0 (by rw [cells_sl]; omega)
      rw [Go.Deep.add_add, cells_sl, Nat.mul_one, Nat.add_zero] at h6
      exact ⟨y, h3, A', c, h6, h1, h2, h4, h5⟩
    obtain ⟨F, hF⟩ := choose_lt one
    have hg : ∀ i, i < n → (((List.range n).map F).getD i []) = F i := fun i hi => by
      rw [List.getD_eq_getElem?_getD, List.getElem?_map, List.getElem?_range hi]; rfl
    refine ⟨some a, (List.range n).map F, n, cap, rfl, by simp, hl, hm, fun l hl2 => ?_, fun hn => ?_, fun h => by cases h⟩
    · obtain ⟨i, hi2, rfl⟩ := List.mem_map.1 hl2
      exact (hF i (List.mem_range.1 hi2)).1
    · have hn' : 0 < n := by simpa using hn
      obtain ⟨_, A0, c0, h0, _⟩ := hF 0 hn'
      have hsp : a.spot = none := by
        simp only [Addr.add, if_true] at h0
        unfold World.cell? at h0
        split at h0
        · cases hs : a.spot with
          | none => rfl
          | some s => simp [hs] at h0
        · cases h0
      have hblk : a.block < w.heap.size := by
        have := World.block_lt_of_cell? w _ h0
        simpa [Addr.add] using this
      obtain ⟨b, o, sp⟩ := a
      subst hsp
      refine ⟨b, o, rfl, hblk, fun i hi2 => ?_⟩
      have hin : i < n := by simpa using hi2
      obtain ⟨_, A', c, h1, h2, h3, h4, h5⟩ := hF i hin
      rw [Addr.add_mid] at h1
      rw [hg i hin]
      exact ⟨A', c, h1, h2, h3, h4, h5⟩
end
end Go.Proofs.YtkoenljcobcdcaaDoor
set_option maxRecDepth 100000
namespace Go.Proofs.YtkoenljcobcdcaaDoor
open Go.ChangeShapes Go.WideShapes Go.ChangeAt Go.RowKit
attribute [local go_sem] Gives
/-- Slices of slices that are not large. -/
structure Rws (w : World) (A : Option Addr) (ls : List (List Nat)) (n cp : Nat) : Prop where
  len : ls.length = n
  cap : n ≤ cp
  max : cp ≤ maxLen
  b256 : ∀ l ∈ ls, B256 l
  none : A = none → n = 0 ∧ cp = 0
  prts : PrtsN w w.heap.size A ls
theorem Rws.on {w w' : World} {A : Option Addr} {ls : List (List Nat)} {n cap : Nat} (h : Rws w A ls n cap) (hb : Below w.heap.size w w') : Rws w' A ls n cap where
  len := h.len
  cap := h.cap
  max := h.max
  b256 := h.b256
  none := h.none
  prts := (h.prts.below hb (Nat.le_refl _)).more hb.size
theorem getD_mem {ls : List (List Nat)} {i : Nat} (h : i < ls.length) : ls.getD i [] ∈ ls := by
  rw [List.getD_eq_getElem?_getD, List.getElem?_eq_getElem h]; exact List.getElem_mem h
theorem Rws.part {w : World} {A : Option Addr} {ls : List (List Nat)} {n cap : Nat} (h : Rws w A ls n cap) {i : Nat} (hi : i < n) :
    ∃ b o A' c, A = some ⟨b, o, .none⟩ ∧ b < w.heap.size ∧ w.cell? ⟨b, o + i, .none⟩ = some (.slice A' (ls.getD i []).length c) ∧ Arg w A' (ls.getD i []) (ls.getD i []).length c := by
  obtain ⟨b, o, rfl, hl, hr⟩ := h.prts (by rw [h.len]; omega)
  obtain ⟨A', c, h1, h2, h3, h4, h5⟩ := hr i (by rw [h.len]; exact hi)
  exact ⟨b, o, A', c, rfl, hl, h1, rfl, h2, h3, h.b256 _ (getD_mem (by rw [h.len]; exact hi)), h5, h4⟩
theorem flatP_step {ls : List (List Nat)} {i : Nat} (h : i < ls.length) : BytM.flatP (ls.take (i + 1)) = BytM.flatP (ls.take i) ++ (BytM.dig 4 (ls.getD i []).length ++ ls.getD i []) := by
  have e : ls.getD i [] = ls[i] := by rw [List.getD_eq_getElem?_getD, List.getElem?_eq_getElem h]; rfl
  rw [List.take_succ_eq_append_getElem h, ← e, BytM.flatP_append]
  show _ ++ (BytM.dig 4 _ ++ _ ++ []) = _
  rw [List.append_nil]
theorem flatP_take_le (ls : List (List Nat)) (i : Nat) : (BytM.flatP (ls.take i)).length ≤ (BytM.flatP ls).length := by
  conv => rhs; rw [← List.take_append_drop i ls, BytM.flatP_append, List.length_append]
  omega
set_option maxHeartbeats 400000 in
theorem prow_bad (d : Value) (A : Option Addr) (n cap : Nat) (h : 16 < n) (W : World) :
    Calls Tryd.prog 12 #[d, .slice A n cap] W fun e w' => e = .returned (.tuple #[.slice none 0 0, .int .i64 3]) ∧ W = w' := by
  have t : decide ((16 : Int) < (n : Int)) = true := decide_eq_true (by omega)
  clear h
  go_enter Tryd.func12, Tryd.ntmps12
  go_wp2_with fail
  go_ret2
  exact ⟨rfl, rfl⟩
end Go.Proofs.YtkoenljcobcdcaaDoor
set_option maxRecDepth 100000
namespace Go.Proofs.YtkoenljcobcdcaaDoor
open Go.ChangeShapes Go.WideShapes Go.ChangeAt Go.RowKit
attribute [local go_sem] Gives
theorem dig1 {d : Nat} (h : d < 256) : BytM.dig 1 d = [d] := by
  show [d / 256 ^ 0 % 256] = [d]
  rw [Nat.pow_zero, Nat.div_one, Nat.mod_eq_of_lt h]
set_option maxHeartbeats 400000 in
theorem prow_any (d : Nat) (hd : d < 256) (A : Option Addr) (ls : List (List Nat)) (n cap : Nat) (hn : n ≤ 16) (hz : (BytM.flatP ls).length ≤ 800000) (W : World) (h : Rws W A ls n cap) :
    Calls Tryd.prog 12 #[.int .u8 d, .slice A n cap] W fun e w' => ∃ v, e = .returned (.tuple #[v, .int .i64 0]) ∧ Own 5 .u8 w' W.heap.size v (BytM.rowB d ls) ∧ Below W.heap.size W w' := by
  have t : decide ((16 : Int) < (n : Int)) = false := decide_eq_false (by omega)
  have H := hid h
  have HZ := hid hz
  have D1 := hid (dig1 hd)
  have N1 := hid (dig1 (d := n) (by omega))
  clear h hz
  go_enter Tryd.func12, Tryd.ntmps12
  go_wp2_with fail
  clear t
  go_loopw [6, 17] (fun u i wr => ∃ (k L : Nat), k ≤ n ∧ i = .int .i64 k ∧ u = .int .i64 ((2 + L : Nat) : Int) ∧ L ≤ 800000 ∧ Hid (L = (BytM.flatP (ls.take k)).length) ∧ W = wr) (fun _ i _ => n - (intOf i).toNat)
  case atStart => exact ⟨0, 0, by omega, rfl, rfl, by omega, hid rfl, rfl⟩
  case round =>
    obtain ⟨k, L, hk, rfl, rfl, hL, hLe, rfl⟩ := hrel
    by_cases hlt : k < n
    · have tk : (k : Int) < (n : Int) := by omega
      obtain ⟨b, o, A', c, rfl, _, q1, _⟩ := H.out.part hlt
      have hst := flatP_step (ls := ls) (i := k) (by rw [H.out.len]; exact hlt)
      have hle := flatP_take_le ls (k + 1)
      have hst2 := congrArg List.length hst
      rw [List.length_append, List.length_append, BytM.dig_length, ← hLe.out] at hst2
      have hM : (ls.getD k []).length ≤ 800000 := by have := HZ.out; omega
      generalize (ls.getD k []).length = M at *
      have hL2 : L + (4 + M) ≤ 800000 := by have := HZ.out; omega
      have S2 := hid hst2.symm
      clear hst hle hst2
      go_wp2_with fail
      go_roundw
      case rel => exact ⟨k + 1, L + (4 + M), by omega, by go_num, by go_num, hL2, S2, trivial⟩
      case measure => simp [intOf] <;> omega
    · obtain rfl : k = n := by omega
      have hL2 := hLe.out
      rw [List.take_of_length_le (by rw [H.out.len]; exact Nat.le_refl _)] at hL2
      have HL2 := hid hL2
      clear hL2 hLe
      have hk64 : (k : Int) ≤ 16 := by omega
      go_upto_region 10 with ((with_reducible apply mk0 (n := 2 + L)); omega; rfl; rfl; intro v2 w2 o2 b2)
      have O2 := hid o2
      have B2 := hid b2
      clear o2 b2
      go_wp2_with fail
      refine (lay_any _ [] W.heap.size 1 d (by omega) (by simp) w2 O2.out B2.out.size).mono ?_
      rintro e w3 ⟨v3, rfl, o3, b3⟩
      rw [D1.out, List.nil_append] at o3
      have O3 := hid o3
      have B3 := hid (B2.out.trans b3)
      clear o3 b3 O2 B2
      go_wp2_with fail
      refine (lay_any v3 [d] W.heap.size 1 k (by omega) (by simp) w3 O3.out B3.out.size).mono ?_
      rintro e w4 ⟨v4, rfl, o4, b4⟩
      rw [N1.out] at o4
      have O4 := hid o4
      have B4 := hid (B3.out.trans b4)
      clear o4 b4 O3 B3
      go_wp2_with fail
      go_loopw [9, 40] (fun u i wr => ∃ (j : Nat) (vo : Value), j ≤ k ∧ i = .int .i64 j ∧ u = vo ∧ Hid (Own 5 .u8 wr W.heap.size vo (d :: k :: BytM.flatP (ls.take j))) ∧ Hid (Below W.heap.size W wr)) (fun _ i _ => k - (intOf i).toNat)
      case atStart => exact ⟨0, _, by omega, rfl, rfl, O4, B4⟩
      case round =>
        clear O4 B4
        obtain ⟨j, vo, hj, rfl, rfl, ho, hb⟩ := hrel
        by_cases hlt2 : j < k
        · have tj : (j : Int) < (k : Int) := by omega
          obtain ⟨b, o, A', c, rfl, hbl, q0, a1⟩ := H.out.part hlt2
          have q1 := (hb.out.cell (p := ⟨b, o + j, none⟩) hbl).trans q0
          have hst := flatP_step (ls := ls) (i := j) (by rw [H.out.len]; exact hlt2)
          have hle := flatP_take_le ls (j + 1)
          rw [hst, List.length_append, List.length_append, BytM.dig_length] at hle
          have hM : (ls.getD j []).length ≤ 800000 := by have := HZ.out; omega
          have hLt : (BytM.flatP (ls.take j)).length ≤ 800000 := by have := HZ.out; omega
          have HLT := hid hLt
          have ST := hid hst
          generalize ls.getD j [] = m at *
          have A1 := hid a1
          have HLE := hid (Nat.le_trans hle HZ.out)
          clear hst hle hLt a1 q0
          obtain ⟨M, hMe⟩ : ∃ M, M = m.length := ⟨_, rfl⟩
          rw [← hMe] at q1 hM
          have ME := hid hMe
          clear hMe
          go_wp2_with fail
          refine (lay_any u9 _ W.heap.size 4 M (by omega) (by simp only [List.length_cons]; have := HLT.out; omega) wr ho.out hb.out.size).mono ?_
          rintro e w5 ⟨v5, rfl, o5, b5⟩
          have O5 := hid o5
          have B5 := hid (hb.out.trans b5)
          have a5 := A1.out.on B5.out
          rw [← ME.out] at a5
          have A5 := hid a5
          clear o5 b5 a5 q1
          go_wp2_with (at_builtin; (with_reducible apply wappN_any eltB); rfl; rfl; exact A5.out.none; exact O5.out; exact A5.out.byt.nums; exact ME.out.symm; (simp only [List.length_append, List.length_cons, BytM.dig_length]; have := HLE.out; have := ME.out; omega); exact B5.out.size; intro v6 w6 o6 g6)
          have b6 := below_grown B5.out g6 O5.out (Nat.le_refl _) (Nat.le_refl _)
          go_roundw
          case rel => exact ⟨j + 1, v6, by omega, by go_num, rfl, hid (by rw [ST.out, ← ME.out, ← List.append_assoc]; exact o6), hid b6⟩
          case measure => simp [intOf] <;> omega
        · obtain rfl : j = k := by omega
          have ho2 := ho.out
          rw [List.take_of_length_le (by rw [H.out.len]; exact Nat.le_refl _)] at ho2
          have O2 := hid ho2
          have HN := hid H.out.len
          clear ho2 ho
          go_wp2_with fail
          go_ret2
          refine ⟨_, rfl, ?_, hb.out⟩
          unfold BytM.rowB
          rw [HN.out]
          exact O2.out
end Go.Proofs.YtkoenljcobcdcaaDoor
set_option maxRecDepth 100000
namespace Go.Proofs.YtkoenljcobcdcaaDoor
open Go.ChangeShapes Go.WideShapes Go.ChangeAt Go.RowKit
attribute [local go_sem] Gives
namespace DvP
theorem key_byt {w : World} {g : Nat} {t : TypeId} {k : Nat → Nat} (h : Blk w g t (ar 32 k)) : Byt w w.heap.size (some ⟨g, 0, none⟩) (HmM.dl k) := fun _ =>
  ⟨g, 0, rfl, h.lt, fun i hi => by rw [HmM.dl_length] at hi; rw [Nat.zero_add, h.cell, get_ar hi, HmM.dl_get _ hi]⟩
theorem flat_one (s : ByteArray) : (BytM.flatP [nats s]).length = 4 + s.size := by
  show (BytM.dig 4 (nats s).length ++ nats s ++ []).length = _
  rw [List.append_nil, List.length_append, BytM.dig_length, nats_length]
/-- One part of a text, as a list of parts. -/
theorem rws_one {w : World} {g g' cap : Nat} {t : TypeId} {s : ByteArray} (hb : Blk w g t #[.slice (some ⟨g', 0, none⟩) s.size cap]) (h1 : s.size ≤ cap) (h2 : cap ≤ maxLen) (h3 : Byt w w.heap.size (some ⟨g', 0, none⟩) (nats s)) : Rws w (some ⟨g, 0, none⟩) [nats s] 1 1 where
  len := rfl
  cap := Nat.le_refl _
  max := by unfold maxLen; omega
  b256 l hl := by rw [List.mem_singleton] at hl; subst hl; exact nats_256 s
  none h := by cases h
  prts _ := ⟨g, 0, rfl, hb.lt, fun i hi => by
    obtain rfl : i = 0 := by simpa using hi
    exact ⟨some ⟨g', 0, .none⟩, cap, by rw [show ([nats s] : List (List Nat)).getD 0 [] = nats s from rfl, nats_length]; exact hb.cell 0, by rw [show ([nats s] : List (List Nat)).getD 0 [] = nats s from rfl, nats_length]; exact h1, h2, h3, fun h => by cases h⟩⟩
set_option maxHeartbeats 800000 in
set_option maxRecDepth 100000 in
theorem sub_any (k : Nat → Nat) (hk : ∀ i, k i < 256) (s : ByteArray) (hs : s.size ≤ 10000) (w : World) (hS : Salts w) :
    Calls Tryd.prog 8 #[.agg (ar 32 k), .string s] w fun e w' => e = .returned (.agg (ar 32 (sub k s))) ∧ Below w.heap.size w w' := by
  have HF := hid hk
  have HS := hid hs
  have SA := hid hS
  clear hk hs hS
  go_enter Tryd.func8, Tryd.ntmps8
  go_upto_region 1 with (with_reducible apply alA tK)
  generalize hw1 : World.alloc (World.alloc w _) _ = w1
  have B1 := hid (show Blk w1 w.heap.size 23 (ar 32 k) by rw [← hw1]; exact (Blk.new _ _ _).alloc _)
  have B2 := hid (show Blk w1 (w.heap.size + 1) 23 (ar 32 fun _ => 0) by rw [← hw1]; exact Blk.top rfl (by simp))
  have BEL := hid (show Below w.heap.size w w1 by rw [← hw1]; exact ((Below.refl _ _).alloc (Nat.le_refl _) _).alloc (by simp) _)
  clear hw1
  have hgl2 := B2.out.lt
  go_wp2_with ((with_reducible apply wconvS); rfl; (have := HS.out; omega); intro g cap w2 hg hc1 hc2 hy hb2)
  have hr := rws_one (w := w2.alloc (.cells #[.slice (some ⟨w1.heap.size, 0, none⟩) s.size cap] 33)) (Blk.new _ _ _) hc1 hc2 (by rw [← hg]; exact (hy.below ((Below.refl w2.heap.size _).alloc (Nat.le_refl _) _) (Nat.le_refl _)).more (by simp))
  generalize hw3 : World.alloc w2 _ = w3 at hr ⊢
  have hb3 : Below w1.heap.size w1 w3 := by rw [← hw3]; exact hb2.alloc hb2.size _
  have c1 := hid (B1.out.below hb3 B1.out.lt)
  have c2 := hid (B2.out.below hb3 B2.out.lt)
  have cb := hid (BEL.out.trans (hb3.mono BEL.out.size))
  have cs := hid (SA.out.on cb.out)
  have HR := hid hr
  clear hw3 hr hb3 B1 B2 BEL hy hb2 SA hg
  refine (prow_any 68 (by omega) _ [nats s] 1 1 (by omega) (by rw [flat_one]; have := HS.out; omega) w3 HR.out).mono ?_
  rintro e w4 ⟨v, rfl, o4, h4⟩
  obtain ⟨A, acap, rfl, aa⟩ := o4.arg (rowD_256 HS.out)
  have d1 := hid (c1.out.below h4 c1.out.lt)
  have d2 := hid (c2.out.below h4 c2.out.lt)
  have db := hid (cb.out.trans (h4.mono cb.out.size))
  have ds := hid (cs.out.on h4)
  have AA := hid aa
  clear c1 c2 cb cs o4 h4 HR aa
  go_wp2_with fail
  have hlr := rowD_length HS.out
  rw [show BytM.rowB 68 [nats s] = rowD s from rfl] at AA ⊢
  refine (hof_any _ (HmM.dl k) 32 32 (HmM.dl_length k) (Nat.le_refl _) (by unfold maxLen; omega) (by omega) (HmM.dl_256 HF.out) A (rowD s) _ acap rfl AA.out.cap AA.out.max AA.out.b256 (by rw [hlr]; have := HS.out; omega) w4 (key_byt d1.out) AA.out.byt ds.out).mono ?_
  rintro e w5 ⟨rfl, h5⟩
  rw [show tag (HmM.tag (HmM.dl k) (rowD s)) = ar 32 (sub k s) from rfl]
  have e2 := d2.out.below h5 d2.out.lt
  have eb := hid (db.out.trans (h5.mono db.out.size))
  clear d1 d2 db ds h5 AA hlr
  go_wp2_with ((with_reducible apply stA tK); rfl; rfl; exact e2)
  apply ret_ar tK Tryd.results8
  · rfl
  · rfl
  · exact e2.setRow_same _
  exact ⟨rfl, below_setRow eb.out (by omega) _⟩
end DvP
end Go.Proofs.YtkoenljcobcdcaaDoor
set_option maxRecDepth 100000
namespace Go.Proofs.YtkoenljcobcdcaaDoor
open Go.RowKit
section
variable {P : Program} {ops : Array Oper}
def updV (vs : Nat → Value) (i : Nat) (v : Value) : Nat → Value := fun j => if j = i then v else vs j
theorem updV_self (vs : Nat → Value) (i : Nat) (v : Value) : updV vs i v i = v := if_pos rfl
theorem updV_ne (vs : Nat → Value) {i j : Nat} (v : Value) (h : j ≠ i) : updV vs i v j = vs j := if_neg h
/-- The operations in the order of the text, the k-th first. -/
def wpR (P : Program) (ops : Array Oper) (S : Nat → Value → Prop) (D : Nat → (Nat → Value) → World → Prop) (K : Nat → (Nat → Value) → World → World → Prop) (C : World → Prop) (Q : (Nat → Value) → Act → Prop) : Nat → (Nat → Value) → List Oper → Act → Prop
  | _, vs, [], a => Q vs a
  | k, vs, o :: rest, a => ((Region.wanted o (yielded ops a.tmps) = true ∧ ∀ w, C w → (∀ j, Region.waitsFor .any ops k j = true → D j vs w) →
      ∃ v, S k v ∧ Gives P o a w v fun w' => C w' ∧ K k vs w w' ∧ D k (updV vs k v) w') ∨
      (Region.wanted o (yielded ops a.tmps) = false ∧ S k undef ∧ ∀ w, D k (updV vs k undef) w)) ∧ (S k (vs k) → wpR P ops S D K C Q (k + 1) vs rest (a.put o.dst (vs k)))
theorem wpR_at {S : Nat → Value → Prop} {D : Nat → (Nat → Value) → World → Prop} {K : Nat → (Nat → Value) → World → World → Prop} {C : World → Prop} {Qk : (Nat → Value) → Act → Prop} {vs : Nat → Value} (hS : ∀ j, S j (vs j)) : ∀ (l : List Oper) (k : Nat) (a : Act), wpR P ops S D K C Qk k vs l a →
    Qk vs (lexF l (fun i => vs (k + i)) l.length a) ∧ ∀ i o, l[i]? = some o →
      ((Region.wanted o (yielded ops (lexF l (fun i => vs (k + i)) i a).tmps) = true ∧ ∀ w, C w → (∀ j, Region.waitsFor .any ops (k + i) j = true → D j vs w) →
        ∃ v, S (k + i) v ∧ Gives P o (lexF l (fun i => vs (k + i)) i a) w v fun w' => C w' ∧ K (k + i) vs w w' ∧ D (k + i) (updV vs (k + i) v) w') ∨
      (Region.wanted o (yielded ops (lexF l (fun i => vs (k + i)) i a).tmps) = false ∧ S (k + i) undef ∧ ∀ w, D (k + i) (updV vs (k + i) undef) w))
  | [], k, a, h => ⟨h, fun i o hi => by simp at hi⟩
  | o :: l, k, a, h => by
    obtain ⟨h1, h2⟩ := h
    obtain ⟨hq, hs⟩ := wpR_at hS l (k + 1) _ (h2 (hS k))
    have e : (fun i => vs (k + 1 + i)) = fun i => vs (k + (i + 1)) := funext fun i => by rw [show k + 1 + i = k + (i + 1) by omega]
    rw [e] at hq hs
    refine ⟨?_, fun i o' hi => ?_⟩
    · rw [List.length_cons, lexF_cons]; exact hq
    · cases i with
      | zero =>
        simp only [List.getElem?_cons_zero, Option.some.injEq] at hi
        subst hi
        exact h1
      | succ i =>
        rw [lexF_cons, show k + (i + 1) = k + 1 + i by omega]
        exact hs i o' (by simpa using hi)
theorem waits_ready {L : Array Bool} {i j : Nat} (hr : i ∈ Region.ready .any ops L) (hw : Region.waitsFor .any ops i j = true) : L.getD j false = true := by
  obtain ⟨hun, o, ho, hall⟩ := mem_ready.1 hr
  obtain ⟨o2, ho2, e2, he2, hb2, hon⟩ := Region.waitsFor_spec hw
  obtain rfl : o = o2 := Option.some.inj (ho.symm.trans ho2)
  have h1 := hall e2 he2 hb2
  rw [hon] at h1
  exact h1
theorem waits_closed {L : Array Bool} {i j : Nat} (hc : Closed ops L) (hl : L.getD i false = true) (hw : Region.waitsFor .any ops i j = true) : L.getD j false = true := by
  obtain ⟨o2, ho2, e2, he2, hb2, hon⟩ := Region.waitsFor_spec hw
  have := hc i o2 ho2 hl e2 he2 hb2
  rw [hon] at this
  exact this
theorem wp_region_rel {id : Nat} {Q : Exit → Act → World → Prop} {C : World → Prop} {S : Nat → Value → Prop} {D : Nat → (Nat → Value) → World → Prop} {K : Nat → (Nat → Value) → World → World → Prop} {a : Act} {w : World} {l : List Oper} (n : Nat)
    (hm : P.follows .mixedOrders = true) (ht : tidy l.toArray = true) (hB : tailB l.toArray n = true)
    (v0 : Nat → Value) (h0 : ∀ j, S j (v0 j)) (hD : ∀ i j vs w w', i < n → j ≠ i → D j vs w → K i vs w w' → D j vs w')
    (hL : ∀ j i vs v w, j ≠ i → Region.waitsFor .any l.toArray j i = false → D j vs w → D j (updV vs i v) w)
    (hC : C w.drew)
    (h : ∀ vs : Nat → Value, wpR P l.toArray S D K C (fun vs a' => ∀ w', C w' → (∀ k, k < n → D k vs w') → wpList P l.toArray Q (l.drop n) a' w') 0 vs (l.take n) a) : (Code.region id l.toArray true).wp P Q a w := by
  refine region_core (Γ := {vs : Nat → Value // ∀ j, S j (vs j)}) (C := fun γ L w' => C w' ∧ Closed l.toArray L ∧ ∀ k, k < n → L.getD k false = true → D k γ.1 w') n hm ht hB ⟨v0, h0⟩
    ⟨hC, (fun j o _ hl => by rw [getD_replicate_false] at hl; cases hl), fun k _ hk => by rw [getD_replicate_false] at hk; cases hk⟩ (fun γ => γ.1) ?_ ?_
  · intro i o hi γ L w' hsz hr ⟨hC', hcl, hDs⟩
    have hin : i < n := by
      have := (List.getElem?_eq_some_iff.1 hi).1
      rw [List.length_take] at this; omega
    have hun := getD_both (mem_ready.1 hr).1
    have hcl2 := closed_set hcl hr
    have key := (wpR_at γ.2 (l.take n) 0 a (h γ.1)).2 i o hi
    simp only [Nat.zero_add] at key
    have hwait : ∀ j, Region.waitsFor .any l.toArray i j = true → D j γ.1 w' := fun j hj => by
      have h1 := waits_ready hr hj
      have hji : j < i := by
        obtain ⟨o2, ho2, e2, he2, hb2, hon⟩ := Region.waitsFor_spec hj
        have := tidy_edge ht ho2 e2 he2 hb2
        omega
      exact hDs j (by omega) h1
    have step : ∀ (v : Value) (w2 : World), C w2 → (w2 = w' ∨ K i γ.1 w' w2) → D i (updV γ.1 i v) w2 →
        C w2 ∧ Closed l.toArray (L.setIfInBounds i true) ∧ ∀ k, k < n → (L.setIfInBounds i true).getD k false = true → D k (updV γ.1 i v) w2 := fun v w2 hc hb hd => by
      refine ⟨hc, hcl2, fun k hk hL' => ?_⟩
      by_cases e : k = i
      · subst e; exact hd
      · rw [getD_set_ne false (Ne.symm e)] at hL'
        have hw : Region.waitsFor .any l.toArray k i = false := by
          cases hx : Region.waitsFor .any l.toArray k i with
          | false => rfl
          | true =>
            have := waits_closed hcl hL' hx
            rw [hun] at this
            cases this
        refine hL k i _ v _ e hw ?_
        rcases hb with rfl | hb
        · exact hDs k hk hL'
        · exact hD i k _ _ _ hin e (hDs k hk hL') hb
    have upd : ∀ v, S i v → ∀ j, S j (updV γ.1 i v j) := fun v hv j => by
      by_cases e : j = i
      · subst e; rw [updV_self]; exact hv
      · rw [updV_ne _ _ e]; exact γ.2 j
    have keep : ∀ v j, L.getD j false = true → γ.1 j = updV γ.1 i v j := fun v j hj => by
      have : j ≠ i := fun e => by subst e; rw [hun] at hj; cases hj
      rw [updV_ne _ _ this]
    rcases key with ⟨k1, k2⟩ | ⟨k1, k2, k3⟩
    · obtain ⟨v, hv, hg⟩ := k2 w' hC' hwait
      refine ⟨⟨updV γ.1 i v, upd v hv⟩, keep v, .inl ⟨k1, ?_⟩⟩
      simp only [updV_self]
      exact gives_mono hg fun w2 ⟨h1, h2, h3⟩ => step v w2 h1 (.inr h2) h3
    · exact ⟨⟨updV γ.1 i undef, upd undef k2⟩, keep undef, .inr ⟨k1, updV_self _ _ _, step undef w' hC' (.inl rfl) (k3 w')⟩⟩
  · intro γ L w' hall ⟨hC', _, hDs⟩
    have key := (wpR_at γ.2 (l.take n) 0 a (h γ.1)).1
    have ez : (fun i => γ.1 (0 + i)) = γ.1 := funext fun i => by rw [Nat.zero_add]
    rw [ez] at key
    exact key w' hC' fun k hk => hDs k hk (hall k hk)
end
end Go.Proofs.YtkoenljcobcdcaaDoor
set_option maxRecDepth 100000
namespace Go.Proofs.YtkoenljcobcdcaaDoor
open Go.ChangeShapes Go.WideShapes Go.ChangeAt Go.RowKit
section
variable {a : Act} {w : World} {dst : Option Tmp} {ty : TypeId} {pos : String} {after : Array Edge} {gd : Option (Nat × Bool)} {s x : Operand} {m c B B' : Nat} {v : Value} {l kk : List Nat} {S e : TypeId} {k : IntKind} {ad : Addr}
/-- The slice ahead still holds its numbers, whether the append went into its row or into a new one. -/
theorem run_appN_old (E : Elt S e k) (hown : Own e k w B v l) (hrd : Nums k w B' (some ad) kk) (hk : kk.length = m) (hsz : l.length + m ≤ 1000000) {v' : Value} {w' : World}
    (hr : (Builtin.append_ #[S, S] ty #[v, .slice (some ad) m c]).run Tryd.prog w = .ok v' w') (hown' : Own e k w' B v' (l ++ kk)) : Own e k w' B v l := by
  obtain ⟨i, hi, hz, h1, h2⟩ := E.inf
  have hbytes : (l.length + m) * i.bytes ≤ 140737488355328 := Nat.le_trans (Nat.mul_le_mul hsz h2) (by omega)
  have hl1 : (nums k kk).length = m * i.size := by rw [nums_length, h1, Nat.mul_one, hk]
  rcases hown.2 with ⟨rfl, h0⟩ | ⟨g, cap, cur, rfl, hB, hg, hnc, hcm, hcs, ht⟩
  · rw [List.eq_nil_of_length_eq_zero h0]
    exact Own.nil
  · rw [Nat.mul_one] at hcs ht
    by_cases hroom : l.length + m ≤ cap
    · have hrun := run_append_room (P := Tryd.prog) w S ty e i E.und hi g l.length cap cur hg ad m c (nums k kk) hl1 (nums_reads hrd hk) (nums_oneCell kk) hroom (by rw [h1, Nat.mul_one, nums_length, hcs]; omega)
      rw [hrun] at hr
      cases hr
      rcases hown'.2 with ⟨e', _⟩ | ⟨g2, cap2, cur2, hv2, hB2, hg2, hnc2, hcm2, hcs2, ht2⟩
      · cases e'
      · simp only [Value.slice.injEq, Option.some.injEq, Addr.mk.injEq, and_true] at hv2
        obtain ⟨rfl, _, rfl⟩ := hv2
        refine ⟨hown.1, .inr ⟨_, _, cur2, rfl, hB, hg2, hnc, hcm, hcs2, ?_⟩⟩
        rw [Nat.mul_one] at ht2 ⊢
        have h3 : (cur2.toList.take (l ++ kk).length).take l.length = (nums k (l ++ kk)).take l.length := by rw [ht2]
        rw [List.take_take, Nat.min_eq_left (by rw [List.length_append]; omega), nums_append, List.take_left' (nums_length k l)] at h3
        exact h3
    · have holds : ∀ j u, (nums k l)[j]? = some u → w.cell? ((⟨g, 0, none⟩ : Addr).add j) = some u := hown.cells (g := g) rfl
      have hrun := run_append_grow (P := Tryd.prog) w S ty e i (.int k 0) E.und hi hz ⟨g, 0, none⟩ l.length cap (nums k l) (by rw [nums_length, h1, Nat.mul_one]) holds ad m c (nums k kk) hl1 (nums_reads hrd hk) (by omega) (by omega) (growslice_fits (by omega) hbytes)
      rw [hrun] at hr
      cases hr
      exact hown.alloc _
/-- An append, in a region that draws its order. -/
theorem gives_app {A : Option Addr} (E : Elt S e k) (hs : a.eval s = v) (hx : a.eval x = .slice A m c) (h0 : A = none → m = 0 ∧ c = 0) (hown : Own e k w B v l) (hrd : Nums k w B' A kk) (hk : kk.length = m) (hsz : l.length + m ≤ 1000000) (hB : B ≤ w.heap.size) :
    ∃ v' w', Own e k w' B v' (l ++ kk) ∧ Own e k w' B v l ∧ w.grownBy w' v.ownBlock ∧ (v'.ownBlock = v.ownBlock ∨ v'.ownBlock = some w.heap.size) ∧
      ∀ R : World → Prop, R w' → Gives Tryd.prog ⟨dst, .call { callee := .builtin .append, args := #[s, x], argTypes := #[S, S] }, ty, pos, after, gd⟩ a w v' R := by
  cases A with
  | some ad =>
    obtain ⟨v', w', hr, h1, h2⟩ := run_appN (ty := ty) (c := c) E hown hrd hk hsz hB
    refine ⟨v', w', h1, run_appN_old E hown hrd hk hsz hr h1, h2, run_appN_where E hown hrd hk hsz hr, fun R hR => gives_value ?_ hR⟩
    unfold execOp
    simp only [resolve, invoke, builtin, Sem.run_bind, Sem.run_pure, Result.andThen_ok, List.map_toArray, List.map_cons, List.map_nil, hs, hx, hr]
  | none =>
    obtain ⟨rfl, rfl⟩ := h0 rfl
    obtain rfl := List.eq_nil_of_length_eq_zero hk
    refine ⟨v, w, by rw [List.append_nil]; exact hown, hown, ⟨rfl, rfl, rfl, Nat.le_refl _, fun _ _ _ => rfl⟩, .inl rfl, fun R hR => gives_value ?_ hR⟩
    have hr : (Builtin.append_ #[S, S] ty #[v, .slice none 0 0]).run Tryd.prog w = .ok v w := by
      obtain ⟨i, hi, hz, h1, h2⟩ := E.inf
      exact run_append_owned_none (P := Tryd.prog) w B S ty e i 1 E.und hi v l.length _ hown
    unfold execOp
    simp only [resolve, invoke, builtin, Sem.run_bind, Sem.run_pure, Result.andThen_ok, List.map_toArray, List.map_cons, List.map_nil, hs, hx, hr]
theorem gives_appS {A : Option Addr} {T : Value → Prop} {R : Value → World → Prop} (E : Elt S e k) (hs : a.eval s = v) (hx : a.eval x = .slice A m c) (h0 : A = none → m = 0 ∧ c = 0) (hown : Own e k w B v l) (hrd : Nums k w B' A kk) (hk : kk.length = m) (hsz : l.length + m ≤ 1000000) (hB : B ≤ w.heap.size)
    (h : ∀ v' w', Own e k w' B v' (l ++ kk) → Own e k w' B v l → w.grownBy w' v.ownBlock → T v' ∧ R v' w') :
    ∃ v', T v' ∧ Gives Tryd.prog ⟨dst, .call { callee := .builtin .append, args := #[s, x], argTypes := #[S, S] }, ty, pos, after, gd⟩ a w v' (R v') := by
  obtain ⟨v', w', h1, h2, h3, _, h5⟩ := gives_app (dst := dst) (ty := ty) (pos := pos) (after := after) (gd := gd) E hs hx h0 hown hrd hk hsz hB
  obtain ⟨h6, h7⟩ := h v' w' h1 h2 h3
  exact ⟨v', h6, h5 _ h7⟩
end
end Go.Proofs.YtkoenljcobcdcaaDoor
set_option maxRecDepth 100000
namespace Go.Proofs.YtkoenljcobcdcaaDoor
open Go.ChangeShapes Go.WideShapes Go.ChangeAt Go.RowKit
/-- An append to a slice leaves any other slice of the call's own that is no longer as it was, even in the same row. -/
theorem Own.beside {e : TypeId} {k : IntKind} {w w' : World} {B B2 : Nat} {v u : Value} {l m : List Nat} (h : Own e k w B v l) (hu : Own e k w B2 u m) (hg : w.grownBy w' u.ownBlock) (hu' : Own e k w' B2 u m) (hlm : l.length ≤ m.length) : Own e k w' B v l := by
  by_cases hne : Apart v u
  · exact h.keep hg hne
  · rcases h.2 with ⟨rfl, h0⟩ | ⟨g, cap, cur, rfl, hB, hgc, hnc, hcm, hcs, ht⟩
    · rw [List.eq_nil_of_length_eq_zero h0]
      exact Own.nil
    · rcases hu.2 with ⟨rfl, _⟩ | ⟨g2, cap2, cur2, rfl, hB2, hgc2, hnc2, hcm2, hcs2, ht2⟩
      · exact absurd (Apart.nil _) hne
      · have hgg : g2 = g := by
          by_cases e' : g2 = g
          · exact e'
          · exact absurd (fun x hx hx2 => e' (by
              have h1 : g = x := Option.some.inj hx
              have h2 : g2 = x := Option.some.inj hx2
              rw [h1, h2])) hne
        subst hgg
        rw [hgc] at hgc2
        cases hgc2
        rcases hu'.2 with ⟨e', _⟩ | ⟨g3, cap3, cur3, hv3, hB3, hgc3, hnc3, hcm3, hcs3, ht3⟩
        · cases e'
        · simp only [Value.slice.injEq, Option.some.injEq, Addr.mk.injEq, and_true] at hv3
          obtain ⟨rfl, _, rfl⟩ := hv3
          have hcap : cap2 = cap := by omega
          subst hcap
          refine ⟨h.1, .inr ⟨_, _, cur3, rfl, hB, hgc3, hnc, hcm, hcs3, ?_⟩⟩
          rw [Nat.mul_one] at ht ht2 ht3 ⊢
          have h3 : (cur3.toList.take m.length).take l.length = (cur.toList.take m.length).take l.length := by rw [ht3, ht2]
          rw [List.take_take, List.take_take, Nat.min_eq_left hlm, ht] at h3
          exact h3
section
variable {P : Program} {ops : Array Oper}
theorem wp_region_rel2 {id : Nat} {Q : Exit → Act → World → Prop} {C : World → Prop} {S : Nat → Value → Prop} {D : Nat → (Nat → Value) → World → Prop} {K : Nat → (Nat → Value) → World → World → Prop} {a : Act} {w : World} {l : List Oper} (n : Nat)
    (hm : P.follows .mixedOrders = true) (ht : tidy l.toArray = true) (hB : tailB l.toArray n = true)
    (v0 : Nat → Value) (h0 : ∀ j, S j (v0 j)) (hD : ∀ i j vs w w', i < n → j ≠ i → Region.waitsFor .any l.toArray j i = false → D j vs w → K i vs w w' → D j vs w')
    (hL : ∀ j i vs v w, j ≠ i → Region.waitsFor .any l.toArray j i = false → D j vs w → D j (updV vs i v) w)
    (hC : C w.drew)
    (h : ∀ vs : Nat → Value, wpR P l.toArray S D K C (fun vs a' => ∀ w', C w' → (∀ k, k < n → D k vs w') → wpList P l.toArray Q (l.drop n) a' w') 0 vs (l.take n) a) : (Code.region id l.toArray true).wp P Q a w := by
  refine region_core (Γ := {vs : Nat → Value // ∀ j, S j (vs j)}) (C := fun γ L w' => C w' ∧ Closed l.toArray L ∧ ∀ k, k < n → L.getD k false = true → D k γ.1 w') n hm ht hB ⟨v0, h0⟩
    ⟨hC, (fun j o _ hl => by rw [getD_replicate_false] at hl; cases hl), fun k _ hk => by rw [getD_replicate_false] at hk; cases hk⟩ (fun γ => γ.1) ?_ ?_
  · intro i o hi γ L w' hsz hr ⟨hC', hcl, hDs⟩
    have hin : i < n := by
      have := (List.getElem?_eq_some_iff.1 hi).1
      rw [List.length_take] at this; omega
    have hun := getD_both (mem_ready.1 hr).1
    have hcl2 := closed_set hcl hr
    have key := (wpR_at γ.2 (l.take n) 0 a (h γ.1)).2 i o hi
    simp only [Nat.zero_add] at key
    have hwait : ∀ j, Region.waitsFor .any l.toArray i j = true → D j γ.1 w' := fun j hj => by
      have h1 := waits_ready hr hj
      have hji : j < i := by
        obtain ⟨o2, ho2, e2, he2, hb2, hon⟩ := Region.waitsFor_spec hj
        have := tidy_edge ht ho2 e2 he2 hb2
        omega
      exact hDs j (by omega) h1
    have step : ∀ (v : Value) (w2 : World), C w2 → (w2 = w' ∨ K i γ.1 w' w2) → D i (updV γ.1 i v) w2 →
        C w2 ∧ Closed l.toArray (L.setIfInBounds i true) ∧ ∀ k, k < n → (L.setIfInBounds i true).getD k false = true → D k (updV γ.1 i v) w2 := fun v w2 hc hb hd => by
      refine ⟨hc, hcl2, fun k hk hL' => ?_⟩
      by_cases e : k = i
      · subst e; exact hd
      · rw [getD_set_ne false (Ne.symm e)] at hL'
        have hw : Region.waitsFor .any l.toArray k i = false := by
          cases hx : Region.waitsFor .any l.toArray k i with
          | false => rfl
          | true =>
            have := waits_closed hcl hL' hx
            rw [hun] at this
            cases this
        refine hL k i _ v _ e hw ?_
        rcases hb with rfl | hb
        · exact hDs k hk hL'
        · exact hD i k _ _ _ hin e hw (hDs k hk hL') hb
    have upd : ∀ v, S i v → ∀ j, S j (updV γ.1 i v j) := fun v hv j => by
      by_cases e : j = i
      · subst e; rw [updV_self]; exact hv
      · rw [updV_ne _ _ e]; exact γ.2 j
    have keep : ∀ v j, L.getD j false = true → γ.1 j = updV γ.1 i v j := fun v j hj => by
      have : j ≠ i := fun e => by subst e; rw [hun] at hj; cases hj
      rw [updV_ne _ _ this]
    rcases key with ⟨k1, k2⟩ | ⟨k1, k2, k3⟩
    · obtain ⟨v, hv, hg⟩ := k2 w' hC' hwait
      refine ⟨⟨updV γ.1 i v, upd v hv⟩, keep v, .inl ⟨k1, ?_⟩⟩
      simp only [updV_self]
      exact gives_mono hg fun w2 ⟨h1, h2, h3⟩ => step v w2 h1 (.inr h2) h3
    · exact ⟨⟨updV γ.1 i undef, upd undef k2⟩, keep undef, .inr ⟨k1, updV_self _ _ _, step undef w' hC' (.inl rfl) (k3 w')⟩⟩
  · intro γ L w' hall ⟨hC', _, hDs⟩
    have key := (wpR_at γ.2 (l.take n) 0 a (h γ.1)).1
    have ez : (fun i => γ.1 (0 + i)) = γ.1 := funext fun i => by rw [Nat.zero_add]
    rw [ez] at key
    exact key w' hC' fun k hk => hDs k hk (hall k hk)
end
end Go.Proofs.YtkoenljcobcdcaaDoor
set_option maxRecDepth 100000
namespace Go.Proofs.YtkoenljcobcdcaaDoor
open Go.RowKit
/-- One operation, carried out in the world w; R holds of what it yields and of the world behind it. -/
def GivesE (P : Program) (o : Oper) (a : Act) (w : World) (R : Value → World → Prop) : Prop :=
  match (execOp a.eval o).run P w with
  | .ok (.value u) w' => R u w'
  | .ok .skip w' => R undef w'
  | .ok (.enter f args) w' => Calls P f args w' fun e w'' => ∃ v, e = .returned v ∧ R v w''
  | _ => False
theorem wp_of_givesE {P : Program} {o : Oper} {a : Act} {w : World} {R : Value → World → Prop} {K : Act → World → Prop} {Q : Exit → Act → World → Prop}
    (h : GivesE P o a w R) (hK : ∀ v w', R v w' → K (a.put o.dst v) w') : o.wp P a w K Q := by
  unfold GivesE at h
  unfold Oper.wp
  generalize (execOp a.eval o).run P w = r at *
  cases r with
  | ok n w' =>
    cases n <;> simp only at h <;> simp only [Oper.upon]
    case value u => exact hK _ _ h
    case skip => exact hK _ _ h
    case enter f args => exact h.mono fun e w'' ⟨v, he, hr⟩ => by subst he; exact hK _ _ hr
  | halt x w' => cases h
theorem givesE_mono {P : Program} {o : Oper} {a : Act} {w : World} {R R' : Value → World → Prop} (h : GivesE P o a w R) (hr : ∀ v w', R v w' → R' v w') : GivesE P o a w R' := by
  unfold GivesE at *
  generalize (execOp a.eval o).run P w = r at *
  cases r with
  | ok n w' =>
    cases n <;> simp only at h ⊢
    case value u => exact hr _ _ h
    case skip => exact hr _ _ h
    case enter f args => exact h.mono fun e w'' ⟨v, he, hR⟩ => ⟨v, he, hr _ _ hR⟩
  | halt x w' => exact h
section
variable {P : Program} {ops : Array Oper}
/-- The head of a region: the first n operations, in whatever order; behind them the tail. -/
theorem head_anyE {Γ : Type} {n g : Nat} {Q : Exit → Act → World → Prop} {vals : Γ → Nat → Value} {C : Γ → Array Bool → World → Prop} {a0 : Act} (ht : tidy ops = true) (hn : n ≤ ops.size)
    (hstep : ∀ k o, k < n → ops[k]? = some o → ∀ γ L w, L.size = ops.size → Closed ops L → k ∈ Region.ready .any ops L → C γ L w →
      ((Region.wanted o (yielded ops (fr ops (vals γ) (fun j => decide (j < k)) ops.size a0).tmps) = true ∧ GivesE P o (fr ops (vals γ) (fun j => decide (j < k)) ops.size a0) w (fun v w' => ∃ γ', (∀ j, L.getD j false = true → vals γ j = vals γ' j) ∧ vals γ' k = v ∧ C γ' (L.setIfInBounds k true) w')) ∨
      (Region.wanted o (yielded ops (fr ops (vals γ) (fun j => decide (j < k)) ops.size a0).tmps) = false ∧ ∃ γ', (∀ j, L.getD j false = true → vals γ j = vals γ' j) ∧ vals γ' k = undef ∧ C γ' (L.setIfInBounds k true) w)))
    (hsink : ∀ L, L.size = ops.size → Closed ops L → (∀ t, n ≤ t → t < ops.size → L.getD t true = false) → ∀ i, i < n → L.getD i true = false → ∀ t ∈ Region.ready .any ops L, t < n)
    (htail : ∀ γ L w, L.size = ops.size → (∀ i, i < n → L.getD i false = true) → (∀ t, n ≤ t → t < ops.size → L.getD t true = false) → C γ L w →
      wpAny P .any ops Q g L (fr ops (vals γ) (fun j => decide (j < n)) ops.size a0) w) :
    ∀ (f : Nat) (γ : Γ) (L : Array Bool) (w : World), L.size = ops.size → Closed ops L → (∀ t, n ≤ t → t < ops.size → L.getD t true = false) → cnt n L = f → C γ L w →
      wpAny P .any ops Q (f + g) L (fr ops (vals γ) (fun j => L.getD j false) ops.size a0) w
  | 0, γ, L, w, hs, hcl, htl, hc, hC => by
    have hall : ∀ i, i < n → L.getD i false = true := fun i hi => by
      have h1 : ∀ j ∈ List.range n, ¬ (!L.getD j true) = true := List.countP_eq_zero.1 hc
      have h2 := h1 i (List.mem_range.2 hi)
      exact getD_up (by omega) (by simpa using h2)
    rw [Nat.zero_add, fr_congr (l' := fun j => decide (j < n)) fun j hj => ?_]
    · exact htail γ L w hs hall htl hC
    · by_cases hjn : j < n
      · rw [hall j hjn]; simp [hjn]
      · rw [getD_both (htl j (by omega) hj)]; simp [hjn]
  | f + 1, γ, L, w, hs, hcl, htl, hc, hC => by
    rw [show f + 1 + g = (f + g) + 1 by omega]
    -- the least that has not come up may come up
    have hex : ∃ i, i < n ∧ L.getD i true = false := by
      have hpos : 0 < (List.range n).countP fun i => !L.getD i true := by unfold cnt at hc; omega
      obtain ⟨i, hi, h1⟩ := List.countP_pos_iff.1 hpos
      exact ⟨i, List.mem_range.1 hi, by simpa using h1⟩
    have hready : ∃ i, i ∈ Region.ready .any ops L := by
      obtain ⟨i, hi, hun⟩ := hex
      induction i using Nat.strongRecOn with
      | _ i ih =>
        by_cases hless : ∃ j, j < i ∧ L.getD j true = false
        · obtain ⟨j, hj, hjun⟩ := hless
          exact ih j hj (by omega) hjun
        · have hio : i < ops.size := by omega
          refine ⟨i, mem_ready.2 ⟨hun, ops[i], Array.getElem?_eq_getElem hio, fun e he hb => ?_⟩⟩
          have hlt := tidy_edge ht (Array.getElem?_eq_getElem hio) e he hb
          refine getD_up (by omega) ?_
          cases h0 : L.getD e.on true with
          | true => rfl
          | false => exact absurd ⟨e.on, hlt, h0⟩ hless
    obtain ⟨i0, hi0, hun0⟩ := hex
    refine ⟨fun h0 => (by obtain ⟨i, hi⟩ := hready; rw [h0] at hi; cases hi), fun i hi => ?_⟩
    have hin : i < n := hsink L hs hcl htl i0 hi0 hun0 i hi
    obtain ⟨hun, o, ho, _⟩ := mem_ready.1 hi
    have hio : i < ops.size := by omega
    obtain ⟨hex1, hex2⟩ := exec_same (vals := vals γ) (n := ops.size) (a := a0) ht ho hcl hi
    have hst := hstep i o hin ho γ L w hs hcl hi hC
    have hnext : ∀ γ' w', (∀ j, L.getD j false = true → vals γ j = vals γ' j) → C γ' (L.setIfInBounds i true) w' → wpAny P .any ops Q (f + g) (L.setIfInBounds i true) ((fr ops (vals γ) (fun j => L.getD j false) ops.size a0).put o.dst (vals γ' i)) w' := fun γ' w' hag hC' => by
      have ih := head_anyE (g := g) (Q := Q) ht hn hstep hsink htail f γ' (L.setIfInBounds i true) w' (by simpa using hs) (closed_set hcl hi) (fun t h1 h2 => by rw [getD_set_ne true (by omega)]; exact htl t h1 h2)
        (by
          have h1 : cnt n (L.setIfInBounds i true) + 1 = cnt n L := by
            refine countP_one (i := i) (by simpa using hun) ?_ (fun j hj => by rw [getD_set_ne true (Ne.symm hj)]) List.nodup_range (List.mem_range.2 hin)
            simp [show i < L.size by omega]
          omega) hC'
      rw [fr_congr (l' := fun j => L.getD j false || j == i) fun j _ => ?_, fr_set ht (getD_both hun) hio, ← fr_vals fun j _ hj => hag j hj] at ih
      · unfold dstAt at ih; rw [ho] at ih; exact ih
      · by_cases e : j = i
        · subst e; simp [show j < L.size by omega]
        · have : (j == i) = false := by simpa using e
          rw [getD_set_ne false (Ne.symm e), this, Bool.or_false]
    unfold wpOp
    simp only [ho]
    rcases hst with ⟨hw, hg⟩ | ⟨hw, γ', hag, hv, hC'⟩
    · rw [hex2, if_pos hw]
      refine .inl (wp_of_givesE (R := fun v w' => ∃ γ', (∀ j, L.getD j false = true → vals γ j = vals γ' j) ∧ vals γ' i = v ∧ C γ' (L.setIfInBounds i true) w') ?_ fun v w' ⟨γ', hag, hv, hC'⟩ => by rw [← hv]; exact hnext γ' w' hag hC')
      unfold GivesE at hg ⊢
      rw [hex1]; exact hg
    · rw [hex2, hw, if_neg (by simp)]
      rw [← hv]
      exact hnext γ' w hag hC'

theorem region_coreE {id : Nat} {Q : Exit → Act → World → Prop} {Γ : Type} {C : Γ → Array Bool → World → Prop} {a : Act} {w : World} {l : List Oper} (n : Nat) (hm : P.follows .mixedOrders = true) (ht : tidy l.toArray = true) (hB : tailB l.toArray n = true)
    (γ0 : Γ) (hC : C γ0 (Array.replicate l.length false) w.drew) (vals : Γ → Nat → Value)
    (hs : ∀ i o, (l.take n)[i]? = some o → ∀ γ L w, L.size = l.length → i ∈ Region.ready .any l.toArray L → C γ L w →
      ((Region.wanted o (yielded l.toArray (lexF (l.take n) (vals γ) i a).tmps) = true ∧ GivesE P o (lexF (l.take n) (vals γ) i a) w (fun v w' => ∃ γ', (∀ j, L.getD j false = true → vals γ j = vals γ' j) ∧ vals γ' i = v ∧ C γ' (L.setIfInBounds i true) w')) ∨
      (Region.wanted o (yielded l.toArray (lexF (l.take n) (vals γ) i a).tmps) = false ∧ ∃ γ', (∀ j, L.getD j false = true → vals γ j = vals γ' j) ∧ vals γ' i = undef ∧ C γ' (L.setIfInBounds i true) w)))
    (hq : ∀ γ L w', (∀ i, i < n → L.getD i false = true) → C γ L w' → wpList P l.toArray Q (l.drop n) (lexF (l.take n) (vals γ) (l.take n).length a) w') : (Code.region id l.toArray true).wp P Q a w := by
  refine wp_region_any hm ?_
  have hn : n ≤ l.toArray.size := by
    simp only [tailB, Bool.or_eq_true, Bool.and_eq_true, decide_eq_true_eq] at hB
    rcases hB with h | h <;> omega
  have hlen : (l.take n).length = n := by rw [List.length_take]; simp at hn; omega
  simp only [hlen] at hq
  have hfr : ∀ (γ : Γ) i, i ≤ n → lexF (l.take n) (vals γ) i a = fr l.toArray (vals γ) (fun j => decide (j < i)) l.toArray.size a := fun γ i hi => by
    have := lexF_fr (ops := l.toArray) (vals := vals γ) (a := a) hn i hi
    simpa using this
  have H := head_anyE (P := P) (ops := l.toArray) (n := n) (g := l.toArray.size - n) (Q := Q) (vals := vals) (C := C) (a0 := a) ht hn
    (fun k o hk ho γ L w' hsz _ hr hC' => by
      have hko : (l.take n)[k]? = some o := by rw [List.getElem?_take_of_lt hk]; simpa using ho
      have := hs k o hko γ L w' (by simpa using hsz) hr hC'
      rwa [hfr γ k (by omega)] at this)
    (fun L hL hcl htl i hi hun t hr => by
      obtain ⟨hunt, o, ho, _⟩ := mem_ready.1 hr
      have hto : t < l.toArray.size := (Array.getElem?_eq_some_iff.1 ho).1
      simp only [tailB, Bool.or_eq_true, Bool.and_eq_true, decide_eq_true_eq] at hB
      rcases hB with hB | ⟨⟨⟨hB1, hB2⟩, hB3⟩, _⟩
      · omega
      · rcases Nat.lt_or_ge t n with h | h
        · exact h
        · exact absurd hr (tail_waits hB2 hB3 hB1 ⟨hL, hcl, htl⟩ _ i rfl hi hun t h))
    (fun γ L w' hL hall htl hC' => by
      rw [← hfr γ n (Nat.le_refl n)]
      have hlist := hq γ L w' hall hC'
      have hLe : L = tailL n (l.toArray.size - n) := by
        apply Array.ext_getElem?
        intro j
        unfold tailL
        rw [show ((List.replicate n true ++ List.replicate (l.toArray.size - n) false).toArray)[j]? = (List.replicate n true ++ List.replicate (l.toArray.size - n) false)[j]? from List.getElem?_toArray .., List.getElem?_append]
        simp only [List.length_replicate]
        by_cases hj : j < n
        · have := hall j hj
          rw [if_pos hj]
          simp [show j < L.size by omega] at this
          simp [hj, show j < L.size by omega, this]
        · rw [if_neg hj]
          by_cases hj2 : j < l.toArray.size
          · have := htl j (by omega) hj2
            simp [show j < L.size by omega] at this
            rw [Array.getElem?_eq_getElem (by omega), this, List.getElem?_replicate, if_pos (by omega)]
          · rw [Array.getElem?_eq_none (by omega), List.getElem?_replicate, if_neg (by omega)]
      simp only [tailB, Bool.or_eq_true, Bool.and_eq_true, decide_eq_true_eq] at hB
      rcases hB with hB | ⟨⟨⟨hB1, hB2⟩, hB3⟩, hB4⟩
      · rw [show l.toArray.size - n = 0 by omega]
        have hd : l.drop n = [] := List.drop_eq_nil_of_le (by simp at hB; omega)
        rw [hd] at hlist
        refine ⟨?_, hlist⟩
        apply List.eq_nil_iff_forall_not_mem.2
        intro t hr
        obtain ⟨hunt, o, ho, _⟩ := mem_ready.1 hr
        have hto : t < l.toArray.size := (Array.getElem?_eq_some_iff.1 ho).1
        have := hall t (by omega)
        rw [getD_both hunt] at this
        cases this
      · have hdl : (l.drop n).length = l.toArray.size - n := by simp
        have := wpAny_of_seq (P := P) (ops := l.toArray) (md := .any) (Q' := Q) (l.drop n) n L _ w' (fun j => by simp [List.getElem?_drop]) (by rw [hdl, hLe]; exact hB4) hlist
        rwa [hdl] at this)
    (cnt n (Array.replicate l.toArray.size false)) γ0 (Array.replicate l.toArray.size false) w.drew (by simp) (fun j o _ hl => by rw [getD_replicate_false] at hl; cases hl)
    (fun t _ hts => getD_in (by simpa using hts) (getD_replicate_false _ _)) rfl (by simpa using hC)
  have hc : cnt n (Array.replicate l.toArray.size false) = n := by
    unfold cnt
    have : ∀ i ∈ List.range n, (!(Array.replicate l.toArray.size false).getD i true) = true := fun i hi => by
      have hi' := List.mem_range.1 hi
      have : i < l.length := by simp at hn; omega
      simp [this]
    rw [List.countP_eq_length.2 this, List.length_range]
  rw [hc, show n + (l.toArray.size - n) = l.toArray.size by omega] at H
  have hz : fr l.toArray (vals γ0) (fun j => (Array.replicate l.toArray.size false).getD j false) l.toArray.size a = a := by
    rw [fr_congr (l' := fun j => decide (j < 0)) fun j _ => by rw [getD_replicate_false]; simp]
    have := fr_stop (ops := l.toArray) (vals := vals γ0) (k := 0) l.toArray.size a
    rw [Nat.zero_add] at this
    exact this
  rw [hz] at H
  exact H

/-- The operations in the order of the text, the k-th first. -/
def wpE (P : Program) (ops : Array Oper) (S : Nat → Value → Prop) (D : Nat → (Nat → Value) → World → Prop) (K : Nat → (Nat → Value) → World → World → Prop) (C : (Nat → Bool) → World → Prop) (Q : (Nat → Value) → Act → Prop) : Nat → (Nat → Value) → List Oper → Act → Prop
  | _, vs, [], a => Q vs a
  | k, vs, o :: rest, a => ((Region.wanted o (yielded ops a.tmps) = true ∧ ∀ d w, d k = false → C d w → (∀ j, Region.waitsFor .any ops k j = true → D j vs w) →
      GivesE P o a w fun v w' => S k v ∧ C (upB d k) w' ∧ K k vs w w' ∧ D k (updV vs k v) w') ∨
      (Region.wanted o (yielded ops a.tmps) = false ∧ S k undef ∧ (∀ d w, C d w → C (upB d k) w) ∧ ∀ w, D k (updV vs k undef) w)) ∧ (S k (vs k) → wpE P ops S D K C Q (k + 1) vs rest (a.put o.dst (vs k)))
theorem wpE_at {S : Nat → Value → Prop} {D : Nat → (Nat → Value) → World → Prop} {K : Nat → (Nat → Value) → World → World → Prop} {C : (Nat → Bool) → World → Prop} {Qk : (Nat → Value) → Act → Prop} {vs : Nat → Value} (hS : ∀ j, S j (vs j)) : ∀ (l : List Oper) (k : Nat) (a : Act), wpE P ops S D K C Qk k vs l a →
    Qk vs (lexF l (fun i => vs (k + i)) l.length a) ∧ ∀ i o, l[i]? = some o →
      ((Region.wanted o (yielded ops (lexF l (fun i => vs (k + i)) i a).tmps) = true ∧ ∀ d w, d (k + i) = false → C d w → (∀ j, Region.waitsFor .any ops (k + i) j = true → D j vs w) →
        GivesE P o (lexF l (fun i => vs (k + i)) i a) w fun v w' => S (k + i) v ∧ C (upB d (k + i)) w' ∧ K (k + i) vs w w' ∧ D (k + i) (updV vs (k + i) v) w') ∨
      (Region.wanted o (yielded ops (lexF l (fun i => vs (k + i)) i a).tmps) = false ∧ S (k + i) undef ∧ (∀ d w, C d w → C (upB d (k + i)) w) ∧ ∀ w, D (k + i) (updV vs (k + i) undef) w))
  | [], k, a, h => ⟨h, fun i o hi => by simp at hi⟩
  | o :: l, k, a, h => by
    obtain ⟨h1, h2⟩ := h
    obtain ⟨hq, hs⟩ := wpE_at hS l (k + 1) _ (h2 (hS k))
    have e : (fun i => vs (k + 1 + i)) = fun i => vs (k + (i + 1)) := funext fun i => by rw [show k + 1 + i = k + (i + 1) by omega]
    rw [e] at hq hs
    refine ⟨?_, fun i o' hi => ?_⟩
    · rw [List.length_cons, lexF_cons]; exact hq
    · cases i with
      | zero =>
        simp only [List.getElem?_cons_zero, Option.some.injEq] at hi
        subst hi
        exact h1
      | succ i =>
        rw [lexF_cons, show k + (i + 1) = k + 1 + i by omega]
        exact hs i o' (by simpa using hi)
theorem wp_region_ex {id : Nat} {Q : Exit → Act → World → Prop} {C : (Nat → Bool) → World → Prop} {S : Nat → Value → Prop} {D : Nat → (Nat → Value) → World → Prop} {K : Nat → (Nat → Value) → World → World → Prop} {a : Act} {w : World} {l : List Oper} (n : Nat)
    (hm : P.follows .mixedOrders = true) (ht : tidy l.toArray = true) (hB : tailB l.toArray n = true)
    (v0 : Nat → Value) (h0 : ∀ j, S j (v0 j)) (hD : ∀ i j vs w w', i < n → j ≠ i → Region.waitsFor .any l.toArray j i = false → D j vs w → K i vs w w' → D j vs w')
    (hL : ∀ j i vs v w, j ≠ i → Region.waitsFor .any l.toArray j i = false → D j vs w → D j (updV vs i v) w)
    (hC : C (fun _ => false) w.drew)
    (h : ∀ vs : Nat → Value, wpE P l.toArray S D K C (fun vs a' => ∀ d w', (∀ k, k < n → d k = true) → C d w' → (∀ k, k < n → D k vs w') → wpList P l.toArray Q (l.drop n) a' w') 0 vs (l.take n) a) : (Code.region id l.toArray true).wp P Q a w := by
  refine region_coreE (Γ := {vs : Nat → Value // ∀ j, S j (vs j)}) (C := fun γ L w' => C (fun j => L.getD j false) w' ∧ Closed l.toArray L ∧ ∀ k, k < n → L.getD k false = true → D k γ.1 w') n hm ht hB ⟨v0, h0⟩
    ⟨by rw [show (fun j => (Array.replicate l.length false).getD j false) = fun _ => false from funext fun j => getD_replicate_false _ j]; exact hC, (fun j o _ hl => by rw [getD_replicate_false] at hl; cases hl), fun k _ hk => by rw [getD_replicate_false] at hk; cases hk⟩ (fun γ => γ.1) ?_ ?_
  · intro i o hi γ L w' hsz hr ⟨hC', hcl, hDs⟩
    have hin : i < n := by
      have := (List.getElem?_eq_some_iff.1 hi).1
      rw [List.length_take] at this; omega
    have hun := getD_both (mem_ready.1 hr).1
    have hlt : i < L.size := by
      obtain ⟨o', ho', _⟩ := (mem_ready.1 hr).2
      have := (Array.getElem?_eq_some_iff.1 ho').1
      simp at this; omega
    have hup : (fun j => (L.setIfInBounds i true).getD j false) = upB (fun j => L.getD j false) i := funext fun j => by
      unfold upB
      by_cases e : j = i
      · subst e; rw [if_pos rfl]; simp [hlt]
      · rw [if_neg e, getD_set_ne false (Ne.symm e)]
    have hcl2 := closed_set hcl hr
    have key := (wpE_at γ.2 (l.take n) 0 a (h γ.1)).2 i o hi
    simp only [Nat.zero_add] at key
    have hwait : ∀ j, Region.waitsFor .any l.toArray i j = true → D j γ.1 w' := fun j hj => by
      have h1 := waits_ready hr hj
      have hji : j < i := by
        obtain ⟨o2, ho2, e2, he2, hb2, hon⟩ := Region.waitsFor_spec hj
        have := tidy_edge ht ho2 e2 he2 hb2
        omega
      exact hDs j (by omega) h1
    have step : ∀ (v : Value) (w2 : World), C (upB (fun j => L.getD j false) i) w2 → (w2 = w' ∨ K i γ.1 w' w2) → D i (updV γ.1 i v) w2 →
        C (fun j => (L.setIfInBounds i true).getD j false) w2 ∧ Closed l.toArray (L.setIfInBounds i true) ∧ ∀ k, k < n → (L.setIfInBounds i true).getD k false = true → D k (updV γ.1 i v) w2 := fun v w2 hc hb hd => by
      refine ⟨by rw [hup]; exact hc, hcl2, fun k hk hL' => ?_⟩
      by_cases e : k = i
      · subst e; exact hd
      · rw [getD_set_ne false (Ne.symm e)] at hL'
        have hw : Region.waitsFor .any l.toArray k i = false := by
          cases hx : Region.waitsFor .any l.toArray k i with
          | false => rfl
          | true =>
            have := waits_closed hcl hL' hx
            rw [hun] at this
            cases this
        refine hL k i _ v _ e hw ?_
        rcases hb with rfl | hb
        · exact hDs k hk hL'
        · exact hD i k _ _ _ hin e hw (hDs k hk hL') hb
    have upd : ∀ v, S i v → ∀ j, S j (updV γ.1 i v j) := fun v hv j => by
      by_cases e : j = i
      · subst e; rw [updV_self]; exact hv
      · rw [updV_ne _ _ e]; exact γ.2 j
    have keep : ∀ v j, L.getD j false = true → γ.1 j = updV γ.1 i v j := fun v j hj => by
      have : j ≠ i := fun e => by subst e; rw [hun] at hj; cases hj
      rw [updV_ne _ _ this]
    rcases key with ⟨k1, k2⟩ | ⟨k1, k2, k3, k4⟩
    · refine .inl ⟨k1, givesE_mono (k2 _ w' hun hC' hwait) fun v w2 ⟨h1, h2, h3, h4⟩ => ⟨⟨updV γ.1 i v, upd v h1⟩, keep v, updV_self _ _ _, step v w2 h2 (.inr h3) h4⟩⟩
    · exact .inr ⟨k1, ⟨updV γ.1 i undef, upd undef k2⟩, keep undef, updV_self _ _ _, step undef w' (k3 _ _ hC') (.inl rfl) (k4 w')⟩
  · intro γ L w' hall ⟨hC', _, hDs⟩
    have key := (wpE_at γ.2 (l.take n) 0 a (h γ.1)).1
    have ez : (fun i => γ.1 (0 + i)) = γ.1 := funext fun i => by rw [Nat.zero_add]
    rw [ez] at key
    exact key _ w' hall hC' fun k hk => hDs k hk (hall k hk)
end
end Go.Proofs.YtkoenljcobcdcaaDoor
set_option maxRecDepth 100000
namespace Go.Proofs.YtkoenljcobcdcaaDoor
open Go.ChangeShapes Go.WideShapes Go.ChangeAt Go.RowKit
/-- Each block keeps its cells; some may have got a mark. -/
def Cells (w w' : World) : Prop := w.heap.size ≤ w'.heap.size ∧ ∀ (g : Nat) (cs : Array Value) (t : TypeId) (fr : Nat × Nat), w.heap[g]? = some (Obj.cells cs t fr) → ∃ fr', w'.heap[g]? = some (Obj.cells cs t fr')
theorem Cells.of_below {w w' : World} (h : Below w.heap.size w w') : Cells w w' := ⟨h.size, fun g cs t fr hg => ⟨fr, by
  have : g < w.heap.size := by
    rcases Nat.lt_or_ge g w.heap.size with hlt | hge
    · exact hlt
    · rw [Array.getElem?_eq_none hge] at hg; cases hg
  exact (h.block g this).trans hg⟩⟩
theorem lt_of_block {w : World} {g : Nat} {o : Obj} (hg : w.heap[g]? = some o) : g < w.heap.size := by
  rcases Nat.lt_or_ge g w.heap.size with hlt | hge
  · exact hlt
  · rw [Array.getElem?_eq_none hge] at hg; cases hg
/-- A row of bytes, with whatever mark. -/
theorem byt_marked {w : World} {g : Nat} {cs : Array Value} {t : TypeId} {fr : Nat × Nat} {l : List Nat} (h : w.heap[g]? = some (Obj.cells cs t fr)) (hl : ∀ j, j < l.length → cs[j]? = some (.int .u8 (l.getD j 0 : Nat))) : Byt w w.heap.size (some ⟨g, 0, none⟩) l := fun _ =>
  ⟨g, 0, rfl, lt_of_block h, fun i hi => by rw [Nat.zero_add, cell_of_row w g i cs t fr h]; exact hl i hi⟩
theorem run_conv_const {w : World} {g n c : Nat} {C : Array Value} {e : TypeId} {fr : Nat × Nat} (hg : w.heap[g]? = some (Obj.cells C e fr)) :
    (convert 33 33 (.slice (some ⟨g, 0, none⟩) n c)).run Tryd.prog w = .ok (.slice (some ⟨g, 0, none⟩) n c) (w.freeze ⟨g, C.size, none⟩ 1) := by
  have hsh : w.shape? g = some (e, C.size) := by unfold World.shape?; rw [hg]
  simp [convert, run_underlying Tryd.underlying33, run_underlying Tryd.underlying5, markStringish, hsh]
theorem freeze_block {w : World} {g m : Nat} {C : Array Value} {e : TypeId} {fr : Nat × Nat} (hg : w.heap[g]? = some (Obj.cells C e fr)) : ∃ fr', (w.freeze ⟨g, m, none⟩ 1).heap[g]? = some (Obj.cells C e fr') := by
  unfold World.freeze
  rw [if_neg (by decide)]
  refine ⟨if fr.1 == fr.2 then (m, m + 1) else (min fr.1 m, max fr.2 (m + 1)), ?_⟩
  show (w.heap.modify g _)[g]? = _
  rw [Array.getElem?_modify, if_pos rfl, hg]
  rfl
theorem freeze_other {w : World} {g m k : Nat} (hk : k ≠ g) : (w.freeze ⟨g, m, none⟩ 1).heap[k]? = w.heap[k]? := by
  unfold World.freeze
  rw [if_neg (by decide)]
  show (w.heap.modify g _)[k]? = _
  rw [Array.getElem?_modify, if_neg (Ne.symm hk)]
theorem freeze_size {w : World} {g m : Nat} : (w.freeze ⟨g, m, none⟩ 1).heap.size = w.heap.size := by
  unfold World.freeze
  rw [if_neg (by decide)]
  show (w.heap.modify g _).size = _
  rw [Array.size_modify]
theorem freeze_cells {w : World} {g m : Nat} {C : Array Value} {e : TypeId} {fr : Nat × Nat} (hg : w.heap[g]? = some (Obj.cells C e fr)) : Cells w (w.freeze ⟨g, m, none⟩ 1) :=
  ⟨by rw [freeze_size]; exact Nat.le_refl _, fun k cs t fr2 hk => by
    by_cases e' : k = g
    · subst e'
      rw [hg] at hk
      obtain ⟨fr3, h3⟩ := freeze_block (m := m) hg
      simp only [Option.some.injEq, Obj.cells.injEq] at hk
      obtain ⟨rfl, rfl, rfl⟩ := hk
      exact ⟨fr3, h3⟩
    · exact ⟨fr2, (freeze_other e').trans hk⟩⟩
theorem freeze_below {B : Nat} {w0 w : World} {g m : Nat} (h : Below B w0 w) (hB : B ≤ g) : Below B w0 (w.freeze ⟨g, m, none⟩ 1) :=
  h.trans ⟨by unfold World.freeze; rw [if_neg (by decide)], by unfold World.freeze; rw [if_neg (by decide)], by unfold World.freeze; rw [if_neg (by decide)], by rw [freeze_size]; exact Nat.le_refl _, fun k hk => freeze_other (by omega)⟩
end Go.Proofs.YtkoenljcobcdcaaDoor
set_option maxRecDepth 100000
namespace Go.Proofs.YtkoenljcobcdcaaDoor
open Go.ChangeShapes Go.WideShapes Go.ChangeAt Go.RowKit
attribute [local go_sem] Gives GivesE
theorem gE_ldA {a : Act} {w : World} {dst : Option Tmp} {ty : TypeId} {pos : String} {after : Array Edge} {x : Operand} {g o n : Nat} {f : Nat → Nat} {T : TypeId} {gd : Option (Nat × Bool)} {R : Value → World → Prop} (hT : ArT T n) (hx : a.eval x = .pointer (some ⟨g, o, none⟩)) (hb : w.rangeAt g o (ar n f).toList) (hR : R (.agg (ar n f)) w) : GivesE Tryd.prog ⟨dst, .load T x, ty, pos, after, gd⟩ a w R := by
  unfold GivesE
  simp only [execOp, hx, Sem.run_bind, run_ldm hT hb, Result.andThen_ok, Sem.run_pure]
  exact hR
section
variable {a : Act} {w : World} {dst : Option Tmp} {ty r : TypeId} {pos : String} {after : Array Edge} {x y : Operand} {f g : Nat → Nat} {gd : Option (Nat × Bool)} {R : Value → World → Prop} {T : TypeId} {n : Nat}
theorem exec_eqU (hT : Tryd.prog.underlying T = some (.array n 5)) (hg : Tryd.prog.eqGuardType Tryd.prog.depth T = false) (hx : a.eval x = .agg (ar n f)) (hy : a.eval y = .agg (ar n g)) : (execOp a.eval ⟨dst, .binOp .eql T x y r, ty, pos, after, gd⟩).run Tryd.prog w = .ok (.value (.bool (eqA n f g))) w := by
  have h1 : (eqGuard .eql T x y (.agg (ar n f)) (.agg (ar n g))).run Tryd.prog w = .ok () w := by
    simp [eqGuard, hg, go_sem]
  simp only [execOp, hx, hy, Sem.run_bind, h1, run_eql_ar hT, Result.andThen_ok, Sem.run_pure]
theorem gE_eqU (hT : Tryd.prog.underlying T = some (.array n 5)) (hg : Tryd.prog.eqGuardType Tryd.prog.depth T = false) (hx : a.eval x = .agg (ar n f)) (hy : a.eval y = .agg (ar n g)) (hR : R (.bool (eqA n f g)) w) : GivesE Tryd.prog ⟨dst, .binOp .eql T x y r, ty, pos, after, gd⟩ a w R := by
  unfold GivesE
  rw [exec_eqU hT hg hx hy]
  exact hR
end
namespace DvP
theorem uK : Tryd.prog.underlying 23 = some (.array 32 5) := Tryd.underlying23
theorem cells_K : Tryd.prog.cellsOf 23 = 32 := by kernel_rfl
theorem eqg_key : Tryd.prog.eqGuardType Tryd.prog.depth 23 = false := by kernel_rfl
def ls (l : List Nat) (i : Nat) : Nat := l.getD i 0
theorem ls_lt {l : List Nat} (h : ∀ x ∈ l, x < 256) : ∀ i, ls l i < 256 := fun i => by
  unfold ls
  rw [List.getD_eq_getElem?_getD]
  rcases Nat.lt_or_ge i l.length with ha | ha
  · rw [List.getElem?_eq_getElem ha]; exact h _ (List.getElem_mem ha)
  · rw [List.getElem?_eq_none ha]; decide
def kOne : List Nat := 1 :: List.replicate 31 0
theorem one_lt : ∀ i, ls kOne i < 256 := ls_lt (by decide)
theorem built_one (w : World) : (Instr.build 23 #[(0, .int .u8 1)]).run Tryd.prog w = .ok (.agg (ar 32 (ls kOne))) w := run_build w _ _ _ (by kernel_rfl)
section
variable {ops : Array Oper} {Q : Exit → Act → World → Prop} {a : Act} {w : World} {rest : List Oper} {dst : Option Tmp} {ty : TypeId} {pos : String} {after : Array Edge}
theorem map_one (i : Nat) (v : Value) (a : Act) : (#[(i, Operand.const v)] : Array (Nat × Operand)).map (fun (i, x) => (i, a.eval x)) = #[(i, v)] := by
  simp only [List.map_toArray, List.map_cons, List.map_nil]; rfl
theorem bld_one (h : wpList Tryd.prog ops Q rest (a.put dst (.agg (ar 32 (ls kOne)))) w) : wpList Tryd.prog ops Q (⟨dst, .build 23 #[(0, .const (.int .u8 1))], ty, pos, after, none⟩ :: rest) a w := by
  refine wpList_plain rfl fun K hK => ?_
  unfold Oper.wp execOp
  simp only [Sem.run_bind, map_one, built_one w, Result.andThen_ok, Sem.run_pure]
  exact hK _ _ h
end
def litD : List Nat := [68, 1, 0, 0, 0, 0]
theorem rowD_none : rowD ⟨#[]⟩ = litD := by rw [rowD_eq (by decide)]; rfl
/-- A slice of six bytes, wherever it lies. -/
def six (v : Value) : Prop := ∃ g : Nat, v = .slice (some ⟨g, 0, none⟩) 6 6
def aS (b1 : Nat) (T : Nat → Nat) (j : Nat) (v : Value) : Prop := match j with
  | 0 => v = .agg (ar 32 (ls kOne))
  | 1 | 5 => v = .agg (ar 32 T)
  | 2 => v = .slice (some ⟨b1, 0, none⟩) 32 32
  | 3 | 4 => six v
  | 6 | 7 => v = .bool true
  | _ => True
def aV (b1 : Nat) (T : Nat → Nat) (j : Nat) : Value := match j with
  | 0 => .agg (ar 32 (ls kOne))
  | 1 | 5 => .agg (ar 32 T)
  | 2 => .slice (some ⟨b1, 0, none⟩) 32 32
  | 3 | 4 => .slice (some ⟨0, 0, none⟩) 6 6
  | 6 | 7 => .bool true
  | _ => undef
theorem aS_ok (b1 : Nat) (T : Nat → Nat) (j : Nat) : aS b1 T j (aV b1 T j) := by
  unfold aS aV
  split <;> first | rfl | exact ⟨0, rfl⟩ | trivial
def litC : Array Value := #[.int .u8 68, .int .u8 1, .int .u8 0, .int .u8 0, .int .u8 0, .int .u8 0]
theorem litC_at : ∀ j, j < litD.length → litC[j]? = some (.int .u8 (litD.getD j 0 : Nat)) := by
  intro j hj
  match j, hj with
  | 0, _ | 1, _ | 2, _ | 3, _ | 4, _ | 5, _ => rfl
def aD (B j : Nat) (vs : Nat → Value) (w : World) : Prop := (j = 3 ∨ j = 4) → ∃ (g : Nat) (fr : Nat × Nat), vs j = .slice (some ⟨g, 0, none⟩) 6 6 ∧ B ≤ g ∧ w.heap[g]? = some (Obj.cells litC 5 fr)
section
variable {B i j : Nat} {vs : Nat → Value} {v : Value} {w w' : World}
theorem aD_keep (h : aD B j vs w) (hb : Cells w w') : aD B j vs w' := fun e => by
  obtain ⟨g, fr, h1, h2, h3⟩ := h e
  obtain ⟨fr', h4⟩ := hb.2 g _ _ fr h3
  exact ⟨g, fr', h1, h2, h4⟩
theorem aD_loc (hji : j ≠ i) (h : aD B j vs w) : aD B j (updV vs i v) w := by
  unfold aD at h ⊢
  rw [updV_ne _ _ hji]
  exact h
theorem aD_none (h3 : j ≠ 3) (h4 : j ≠ 4) : aD B j vs w := fun e => by rcases e with e | e <;> contradiction
end
set_option maxHeartbeats 800000 in
set_option maxRecDepth 100000 in
theorem awake_any (w : World) (hS : Salts w) :
    Calls Tryd.prog 7 #[] w fun e w' => e = .returned (.bool true) ∧ Below w.heap.size w w' := by
  have SA := hid hS
  clear hS
  go_enter Tryd.func7, Tryd.ntmps7
  have hz : Blk (w.alloc (.cells (ar 32 fun _ => 0) 23)) w.heap.size 23 (ar 32 fun _ => 0) := Blk.new _ _ _
  go_upto_region 2 with (first | (with_reducible apply bld_one) | (with_reducible apply alA tK) | ((with_reducible apply stA tK); rfl; rfl; exact hz))
  generalize hw1 : World.setRow _ _ _ = w1
  have b1 := hid (show Blk w1 w.heap.size 23 (ar 32 (ls kOne)) by rw [← hw1]; exact hz.setRow_same _)
  have hb := hid (show Below w.heap.size w w1 by rw [← hw1]; exact below_setRow ((Below.refl _ _).alloc (Nat.le_refl _) _) (Nat.le_refl _) _)
  have sa := hid (SA.out.on hb.out)
  clear hw1 hz SA
  obtain ⟨T, hT⟩ : ∃ T, T = sub (ls kOne) ⟨#[]⟩ := ⟨_, rfl⟩
  have HT := hid hT
  clear hT
  refine wp_region_ex (S := aS w.heap.size T) (D := aD w1.heap.size) (K := fun _ _ w w' => Cells w w') (C := fun _ w' => Below w1.heap.size w1 w') 8 (by kernel_rfl) (by kernel_rfl) (by kernel_rfl)
    _ (aS_ok _ _) (fun i j vs w w' _ _ _ h hb => aD_keep h hb) (fun j i vs v w hji _ h => aD_loc hji h) (Below.refl _ _).drew fun vs => ?_
  simp only [List.take_succ_cons, List.take_zero, List.drop_succ_cons, List.drop_zero]
  refine ⟨.inl ⟨rfl, fun dd w' hd hC hDs => ?_⟩, fun e => ?_⟩
  · exact gE_ldA tK rfl (b1.out.below hC b1.out.lt).head ⟨rfl, hC, Cells.of_below (Below.refl _ _), aD_none (by omega) (by omega)⟩
  have e' : vs 0 = _ := e
  rw [e']
  clear e e'
  simp only [Act.put, List.setIfInBounds_toArray, List.set_cons_succ, List.set_cons_zero]
  refine ⟨.inl ⟨rfl, fun dd w' hd hC hDs => ?_⟩, fun e => ?_⟩
  · go_simp
    refine (sub_any (ls kOne) one_lt ⟨#[]⟩ (by decide) w' (sa.out.on hC)).mono ?_
    rintro e w'' ⟨rfl, h4⟩
    exact ⟨_, rfl, by rw [← HT.out]; rfl, hC.trans (h4.mono hC.size), Cells.of_below h4, aD_none (by omega) (by omega)⟩
  have e' : vs 1 = _ := e
  rw [e']
  clear e e'
  simp only [Act.put, List.setIfInBounds_toArray, List.set_cons_succ, List.set_cons_zero]
  refine ⟨.inl ⟨rfl, fun dd w' hd hC hDs => ?_⟩, fun e => ?_⟩
  · go_simp
    exact ⟨rfl, Cells.of_below (Below.refl _ _), aD_none (by omega) (by omega)⟩
  have e' : vs 2 = _ := e
  rw [e']
  clear e e'
  simp only [Act.put, List.setIfInBounds_toArray, List.set_cons_succ, List.set_cons_zero]
  refine ⟨.inl ⟨rfl, fun dd w' hd hC hDs => ?_⟩, fun e => ?_⟩
  · go_simp
    exact ⟨⟨_, rfl⟩, hC.alloc hC.size _, Cells.of_below ((Below.refl _ _).alloc (Nat.le_refl _) _), fun _ => ⟨w'.heap.size, (0, 0), updV_self _ _ _, hC.size, heap_alloc_new w' _⟩⟩
  obtain ⟨g3, e3⟩ : six (vs 3) := e
  rw [e3]
  simp only [Act.put, List.setIfInBounds_toArray, List.set_cons_succ, List.set_cons_zero]
  refine ⟨.inl ⟨rfl, fun dd w' hd hC hDs => ?_⟩, fun e => ?_⟩
  · obtain ⟨g, fr, q1, q2, q3⟩ := hDs 3 (by kernel_rfl) (.inl rfl)
    have hrun := run_conv_const (n := 6) (c := 6) q3
    rw [e3] at q1
    simp only [Value.slice.injEq, Option.some.injEq, Addr.mk.injEq, and_true] at q1
    obtain rfl := q1
    go_simp
    obtain ⟨fr', q4⟩ := freeze_block (m := litC.size) q3
    exact ⟨⟨_, rfl⟩, freeze_below hC q2, freeze_cells q3, fun _ => ⟨g3, fr', updV_self _ _ _, q2, q4⟩⟩
  obtain ⟨g4, e4⟩ : six (vs 4) := e
  rw [e4]
  simp only [Act.put, List.setIfInBounds_toArray, List.set_cons_succ, List.set_cons_zero]
  refine ⟨.inl ⟨rfl, fun dd w' hd hC hDs => ?_⟩, fun e => ?_⟩
  · obtain ⟨g, fr, q1, q2, q3⟩ := hDs 4 (by kernel_rfl) (.inr rfl)
    rw [e4] at q1
    simp only [Value.slice.injEq, Option.some.injEq, Addr.mk.injEq, and_true] at q1
    obtain rfl := q1
    go_simp
    refine (hof_any _ (HmM.dl (ls kOne)) 32 32 (HmM.dl_length _) (Nat.le_refl _) (by unfold maxLen; omega) (by omega) (HmM.dl_256 one_lt) (some ⟨g4, 0, none⟩) litD 6 6 rfl (Nat.le_refl _) (by unfold maxLen; omega) (by unfold B256; decide) (by omega) w' (key_byt (b1.out.below hC b1.out.lt)) (byt_marked q3 litC_at) (sa.out.on hC)).mono ?_
    rintro e w'' ⟨rfl, h4⟩
    exact ⟨_, rfl, by rw [HT.out]; unfold sub; rw [rowD_none]; rfl, hC.trans (h4.mono hC.size), Cells.of_below h4, aD_none (by omega) (by omega)⟩
  have e' : vs 5 = _ := e
  rw [e']
  clear e e'
  simp only [Act.put, List.setIfInBounds_toArray, List.set_cons_succ, List.set_cons_zero]
  refine ⟨.inl ⟨rfl, fun dd w' hd hC hDs => ?_⟩, fun e => ?_⟩
  · exact gE_eqU uK eqg_key rfl rfl ⟨by rw [eqA_yes fun _ _ => rfl]; rfl, hC, Cells.of_below (Below.refl _ _), aD_none (by omega) (by omega)⟩
  have e' : vs 6 = _ := e
  rw [e']
  clear e e'
  simp only [Act.put, List.setIfInBounds_toArray, List.set_cons_succ, List.set_cons_zero]
  refine ⟨.inl ⟨rfl, fun dd w' hd hC hDs => ?_⟩, fun e => ?_⟩
  · go_simp
    first | exact ⟨rfl, hC, Cells.of_below (Below.refl _ _), aD_none (by omega) (by omega)⟩ | exact ⟨hC, Cells.of_below (Below.refl _ _), aD_none (by omega) (by omega)⟩ | exact ⟨rfl, Cells.of_below (Below.refl _ _), aD_none (by omega) (by omega)⟩ | exact ⟨Cells.of_below (Below.refl _ _), aD_none (by omega) (by omega)⟩
  have e' : vs 7 = _ := e
  rw [e']
  clear e e'
  simp only [Act.put, List.setIfInBounds_toArray, List.set_cons_zero]
  intro dd w5 _ hw5 _
  have rb := hb.out.trans (hw5.mono hb.out.size)
  clear b1 hb hw5
  go_wp2_with fail
  go_ret
  exact ⟨rfl, rb⟩
end DvP
end Go.Proofs.YtkoenljcobcdcaaDoor
set_option maxRecDepth 100000
namespace Go.Proofs.YtkoenljcobcdcaaDoor
open Go.RowKit
/-- n sectors, one behind the other. -/
def secs (n : Nat) (F : Nat → Nat → Nat) : Array Value := row (n * 64) fun j => .int .u8 (F (j / 64) (j % 64))
theorem size_secs {n : Nat} {F : Nat → Nat → Nat} : (secs n F).size = n * 64 := size_row
theorem get_secs {n : Nat} {F : Nat → Nat → Nat} {i k : Nat} (hi : i < n) (hk : k < 64) : (secs n F)[i * 64 + k]? = some (.int .u8 (F i k)) := by
  unfold secs
  rw [get_row_lt (by omega)]
  rw [show (i * 64 + k) / 64 = i by omega, show (i * 64 + k) % 64 = k by omega]
theorem secs_ext {n : Nat} {F G : Nat → Nat → Nat} (h : ∀ i k, i < n → k < 64 → F i k = G i k) : secs n F = secs n G :=
  row_ext fun j hj => by rw [h (j / 64) (j % 64) (by omega) (Nat.mod_lt _ (by omega))]
theorem get_sec_list {f : Nat → Nat} {j : Nat} {v : Value} (h : (sec f).toList[j]? = some v) : j < 64 ∧ v = .int .u8 (f j) := by
  rw [Array.getElem?_toList] at h
  unfold sec at h
  rw [get_row] at h
  split at h
  · exact ⟨‹_›, (Option.some.inj h).symm⟩
  · cases h
theorem range_secs {w : World} {g n i : Nat} {t : TypeId} {F : Nat → Nat → Nat} (hb : Blk w g t (secs n F)) (hi : i < n) : w.rangeAt g (0 + i * 64) (sec (F i)).toList := fun j v hv => by
  obtain ⟨hj, rfl⟩ := get_sec_list hv
  rw [hb.cell, Nat.zero_add]
  exact get_secs hi hj

theorem extract_secs {n i : Nat} {F : Nat → Nat → Nat} (hi : i < n) : (secs n F).extract (i * 64) (i * 64 + 64) = sec (F i) := by
  apply Array.ext_getElem?
  intro k
  rw [Array.getElem?_extract, size_secs]
  unfold sec
  rw [get_row]
  by_cases hk : k < 64
  · rw [if_pos hk, if_pos (by omega)]
    exact get_secs hi hk
  · rw [if_neg hk, if_neg (by omega)]
theorem secs_one {n : Nat} {F : Nat → Nat → Nat} : (secs n F).all (·.oneCell') = true := row_one fun _ _ => rfl
theorem secs_set {n i k v : Nat} {F : Nat → Nat → Nat} (hk : k < 64) : (secs n F).setIfInBounds (i * 64 + k) (.int .u8 v) = secs n fun j l => if j = i ∧ l = k then v else F j l := by
  unfold secs
  rw [row_set]
  refine row_ext fun j _ => ?_
  by_cases h : j = i * 64 + k
  · have e1 : j / 64 = i := by omega
    have e2 : j % 64 = k := by omega
    simp [h, show (i * 64 + k) / 64 = i by omega, show (i * 64 + k) % 64 = k by omega]
  · have e : ¬ (j / 64 = i ∧ j % 64 = k) := by omega
    simp [h, e]
theorem Blk.at_ {w : World} {g n i k o : Nat} {t : TypeId} {F : Nat → Nat → Nat} (hb : Blk w g t (secs n F)) (hi : i < n) (hk : k < 64) (ho : o = i * 64 + k) : w.cell? ⟨g, o, none⟩ = some (.int .u8 (F i k : Nat)) := by
  rw [ho, hb.cell]; exact get_secs hi hk
theorem fold_row (off N : Nat) : ∀ (cs : List Value) (k : Nat) (g : Nat → Value),
    (cs.zipIdx k).foldl (fun acc x => acc.setIfInBounds (off + x.2) x.1) (row N g) = row N fun j => if off + k ≤ j ∧ j < off + k + cs.length then cs.getD (j - (off + k)) undef else g j
  | [], k, g => by
    simp only [List.zipIdx_nil, List.foldl_nil, List.length_nil, Nat.add_zero]
    exact row_ext fun j _ => by rw [if_neg (by omega)]
  | c :: cs, k, g => by
    rw [List.zipIdx_cons, List.foldl_cons, row_set, fold_row off N cs (k + 1)]
    refine row_ext fun j _ => ?_
    simp only [List.length_cons]
    by_cases h1 : j = off + k
    · subst h1
      rw [if_neg (by omega), if_pos rfl, if_pos (by omega), Nat.sub_self]; rfl
    · by_cases h2 : off + (k + 1) ≤ j ∧ j < off + (k + 1) + cs.length
      · rw [if_pos h2, if_pos (by omega), show j - (off + k) = (j - (off + (k + 1))) + 1 by omega]; rfl
      · rw [if_neg h2, if_neg h1]
        by_cases h3 : off + k ≤ j ∧ j < off + k + (cs.length + 1)
        · omega
        · rw [if_neg h3]
/-- The parts of a literal, from place i on. -/
def partsFrom : Nat → List (Nat → Nat) → List (Nat × Value)
  | _, [] => []
  | i, f :: l => (i, .agg (sec f)) :: partsFrom (i + 1) l
theorem getD_sec_list {f : Nat → Nat} {j : Nat} (h : j < 64) : (sec f).toList.getD j undef = .int .u8 (f j) := by
  rw [List.getD_eq_getElem?_getD, Array.getElem?_toList, get_sec h]; rfl
theorem fill_secs (N : Nat) {place : Nat → Option (Nat × Nat)} (hpl : ∀ i, i < N → place i = some (i * 64, 64)) : ∀ (l : List (Nat → Nat)) (i : Nat) (g : Nat → Value), i + l.length ≤ N →
    Instr.fill place (row (N * 64) g) (partsFrom i l) = some (row (N * 64) fun j => if i * 64 ≤ j ∧ j < (i + l.length) * 64 then .int .u8 (l.getD (j / 64 - i) (fun _ => 0) (j % 64)) else g j)
  | [], i, g, _ => by
    simp only [partsFrom, Instr.fill, List.length_nil, Nat.add_zero, Option.some.injEq]
    exact row_ext fun j _ => by rw [if_neg (by omega)]
  | f :: l, i, g, h => by
    simp only [List.length_cons] at h
    simp only [partsFrom, Instr.fill, Value.cells, size_sec, size_row, hpl i (by omega)]
    rw [if_neg (by simp; omega)]
    have e : (sec f).zipIdx.foldl (fun cs (c, j) => cs.setIfInBounds (i * 64 + j) c) (row (N * 64) g) = row (N * 64) fun j => if i * 64 ≤ j ∧ j < i * 64 + 64 then .int .u8 (f (j - i * 64)) else g j := by
      rw [← Array.foldl_toList, Array.toList_zipIdx]
      refine (fold_row (i * 64) (N * 64) (sec f).toList 0 g).trans ?_
      simp only [Array.length_toList, size_sec, Nat.add_zero]
      refine row_ext fun j _ => ?_
      by_cases hj : i * 64 ≤ j ∧ j < i * 64 + 64
      · rw [if_pos hj, if_pos hj, getD_sec_list (by omega)]
      · rw [if_neg hj, if_neg hj]
    rw [e, fill_secs N hpl l (i + 1) _ (by omega)]
    refine congrArg some (row_ext fun j _ => ?_)
    simp only [List.length_cons]
    by_cases h1 : (i + 1) * 64 ≤ j ∧ j < (i + 1 + l.length) * 64
    · rw [if_pos h1, if_pos (by omega), show j / 64 - i = (j / 64 - (i + 1)) + 1 by omega]; rfl
    · rw [if_neg h1]
      by_cases h2 : i * 64 ≤ j ∧ j < i * 64 + 64
      · rw [if_pos h2, if_pos (by omega), show j / 64 - i = 0 by omega, show j - i * 64 = j % 64 by omega]; rfl
      · rw [if_neg h2, if_neg (by omega)]
theorem range_row {n : Nat} {f : Nat → Value} : (Array.range n).map f = row n f := by
  apply Array.ext_getElem?
  intro k
  rw [get_row]
  by_cases h : k < n <;> simp [h]
section
variable {P : Program} {ops : Array Oper} {Q : Exit → Act → World → Prop} {a : Act} {w : World} {rest : List Oper} {dst : Option Tmp} {ty : TypeId} {pos : String} {after : Array Edge}
/-- A literal of n sectors: a block of its own. -/
theorem run_lit {T e : TypeId} {n : Nat} {parts : Array (Nat × Value)} {ie : TypeInfo} {z : Value} (l : List (Nat → Nat)) (hl : l.length = n) (h0 : 0 < n) (h1 : n ≤ 1000) (hp : parts.toList = partsFrom 0 l)
    (hu : P.underlying T = some (.slice e)) (hie : P.info? e = some ie) (hz : ie.zero = some z) (hs : ie.size = 64) (w : World) :
    (Instr.buildSlice T n parts).run P w = .ok (.slice (some ⟨w.heap.size, 0, none⟩) n n) (w.alloc (.cells (secs n fun i => l.getD i fun _ => 0) e)) := by
  refine run_buildSlice w T e n parts _ ie z hu hie hz (by rw [hs]; omega) (by rw [hs]; omega) ?_
  rw [hs, hp, range_row, fill_secs n (fun _ _ => rfl) l 0 _ (by omega)]
  refine congrArg some (row_ext fun j hj => ?_)
  rw [if_pos (by omega), Nat.sub_zero]
end
end Go.Proofs.YtkoenljcobcdcaaDoor
set_option maxRecDepth 100000
namespace Go.Proofs.YtkoenljcobcdcaaDoor
open Go.ChangeShapes Go.WideShapes Go.ChangeAt Go.RowKit
theorem fold_ar {off m N : Nat} {f g : Nat → Nat} : (ar m f).zipIdx.foldl (fun cs (c, j) => cs.setIfInBounds (off + j) c) (ar N g) = ar N (putA off m g f) := by
  rw [← Array.foldl_toList, Array.toList_zipIdx]
  refine (fold_row off N (ar m f).toList 0 _).trans ?_
  simp only [Array.length_toList, size_ar, Nat.add_zero]
  refine row_ext fun j _ => ?_
  unfold putA
  by_cases hj : off ≤ j ∧ j < off + m
  · rw [if_pos hj, if_pos hj, ar_getD (by omega)]
  · rw [if_neg hj, if_neg hj]
theorem fill_cons' {place : Nat → Option (Nat × Nat)} {cells : Array Value} {i off size : Nat} {v : Value} {rest : List (Nat × Value)} (h : place i = some (off, size)) (h1 : v.cells.size = size) (h2 : off + size ≤ cells.size) :
    Instr.fill place cells ((i, v) :: rest) = Instr.fill place (v.cells.zipIdx.foldl (fun cs (c, j) => cs.setIfInBounds (off + j) c) cells) rest := by
  subst h1
  rw [Instr.fill]
  simp only [h]
  rw [if_neg]
  simp
  omega
theorem fill_ar {place : Nat → Option (Nat × Nat)} {N i off m : Nat} {f g : Nat → Nat} {rest : List (Nat × Value)} (h : place i = some (off, m)) (h2 : off + m ≤ N) :
    Instr.fill place (ar N g) ((i, .agg (ar m f)) :: rest) = Instr.fill place (ar N (putA off m g f)) rest := by
  exact (fill_cons' (v := .agg (ar m f)) h size_ar (by rw [size_ar]; exact h2)).trans (congrArg (fun c => Instr.fill place c rest) fold_ar)
/-- Three fields of 32 bytes each. -/
def trip (f g h : Nat → Nat) (j : Nat) : Nat := if j < 32 then f j else if j < 64 then g (j - 32) else h (j - 64)
theorem built_trip {T : TypeId} {fs : Array Field} (hz : (Tryd.prog.info? T).bind (·.zero) = some (.agg (ar 96 fun _ => 0))) (hf : Tryd.prog.underlying T = some (.struct fs)) (hp : fs.toList.mapM (fun f => (Tryd.prog.info? f.type).map fun i => (f.offset, i.size)) = some [(0, 32), (32, 32), (64, 32)])
    (f g h : Nat → Nat) : Tryd.prog.built T [(0, .agg (ar 32 f)), (1, .agg (ar 32 g)), (2, .agg (ar 32 h))] = some (ar 96 (trip f g h)) := by
  have h1 : ∃ i, Tryd.prog.info? T = some i ∧ i.zero = some (.agg (ar 96 fun _ => 0)) := by
    cases h : Tryd.prog.info? T with
    | none => rw [h] at hz; cases hz
    | some i => rw [h] at hz; exact ⟨i, rfl, hz⟩
  obtain ⟨i, hi, hz⟩ := h1
  unfold Program.built
  rw [hi, hf]
  simp only [hz, hp, Value.cells]
  rw [fill_ar (off := 0) (m := 32) rfl (by omega), fill_ar (off := 32) (m := 32) rfl (by omega), fill_ar (off := 64) (m := 32) rfl (by omega)]
  show some _ = some _
  refine congrArg some (ar_ext fun j hj => ?_)
  unfold putA trip
  by_cases h1 : j < 32
  · rw [if_neg (by omega), if_neg (by omega), if_pos (by omega), if_pos h1, Nat.sub_zero]
  · by_cases h2 : j < 64
    · rw [if_neg (by omega), if_pos (by omega), if_neg h1, if_pos h2]
    · rw [if_pos (by omega), if_neg h1, if_neg h2]
/-- Two fields of 32 bytes each. -/
def duo (f g : Nat → Nat) (j : Nat) : Nat := if j < 32 then f j else g (j - 32)
theorem built_duo {T : TypeId} {fs : Array Field} (hz : (Tryd.prog.info? T).bind (·.zero) = some (.agg (ar 64 fun _ => 0))) (hf : Tryd.prog.underlying T = some (.struct fs)) (hp : fs.toList.mapM (fun f => (Tryd.prog.info? f.type).map fun i => (f.offset, i.size)) = some [(0, 32), (32, 32)])
    (f g : Nat → Nat) : Tryd.prog.built T [(0, .agg (ar 32 f)), (1, .agg (ar 32 g))] = some (ar 64 (duo f g)) := by
  have h1 : ∃ i, Tryd.prog.info? T = some i ∧ i.zero = some (.agg (ar 64 fun _ => 0)) := by
    cases h : Tryd.prog.info? T with
    | none => rw [h] at hz; cases hz
    | some i => rw [h] at hz; exact ⟨i, rfl, hz⟩
  obtain ⟨i, hi, hz⟩ := h1
  unfold Program.built
  rw [hi, hf]
  simp only [hz, hp, Value.cells]
  rw [fill_ar (off := 0) (m := 32) rfl (by omega), fill_ar (off := 32) (m := 32) rfl (by omega)]
  show some _ = some _
  refine congrArg some (ar_ext fun j hj => ?_)
  unfold putA duo
  by_cases h1 : j < 32
  · rw [if_neg (by omega), if_pos (by omega), if_pos h1, Nat.sub_zero]
  · rw [if_pos (by omega), if_neg h1]
theorem duo0 {f g : Nat → Nat} : ∀ i, i < 32 → duo f g (0 + i) = f i := fun i hi => by unfold duo; rw [if_pos (by omega), Nat.zero_add]
theorem duo1 {f g : Nat → Nat} : ∀ i, i < 32 → duo f g (32 + i) = g i := fun i hi => by unfold duo; rw [if_neg (by omega), show 32 + i - 32 = i by omega]
end Go.Proofs.YtkoenljcobcdcaaDoor
set_option maxRecDepth 100000
namespace Go.Proofs.YtkoenljcobcdcaaDoor
open Go.ChangeShapes Go.WideShapes Go.ChangeAt Go.RowKit
section
variable {T : TypeId} {m N o : Nat} {F G : Nat → Nat}
theorem run_part_ar (hT : ArT T m) (h : o + m ≤ N) (w : World) : (part T (ar N F) o).run Tryd.prog w = .ok (.agg (ar m fun i => F (o + i))) w := by
  obtain ⟨d, h1, h2⟩ := hT.desc
  have hagg : (isAgg T).run Tryd.prog w = .ok true w := by
    unfold isAgg
    rw [Sem.run_bind, run_underlying h1 w]
    cases d <;> simp_all
  simp [part, Sem.run_bind, hagg, size_of hT w, extract_ar h]
theorem eqf_nil (d : Nat) (w : World) : (Op.eqFields d (ar N F) (ar N G) []).run Tryd.prog w = .ok true w := by simp [Op.eqFields]
theorem eqf_cons {d : Nat} {f : Field} {fs : List Field} (hn : f.name ≠ "_") (hT : ArT f.type m) (hu : Tryd.prog.underlying f.type = some (.array m 5)) (ho : f.offset = o) (h : o + m ≤ N) (w : World) :
    (Op.eqFields (d + 2) (ar N F) (ar N G) (f :: fs)).run Tryd.prog w = if eqA m (fun i => F (o + i)) (fun i => G (o + i)) = true then (Op.eqFields (d + 2) (ar N F) (ar N G) fs).run Tryd.prog w else .ok false w := by
  have he := run_equalIn_row (P := Tryd.prog) (d := d) (t := f.type) (e := 5) (k := .u8) (n := m) (f := fun k => ((F (o + k) : Nat) : Int)) (g := fun k => ((G (o + k) : Nat) : Int)) hu Tryd.underlying5 (by kernel_rfl) w
  have he' : (Op.equalIn (d + 2) f.type (.agg (ar m fun i => F (o + i))) (.agg (ar m fun i => G (o + i)))).run Tryd.prog w = .ok (eqA m (fun i => F (o + i)) fun i => G (o + i)) w := he
  rw [Op.eqFields, if_pos hn]
  simp only [Sem.run_bind, ho, run_part_ar hT h w, Result.andThen_ok, he']
  cases eqA m (fun i => F (o + i)) fun i => G (o + i) <;> simp
end
theorem list_two {α β : Type} {φ : α → β} {l : List α} {a b : β} (h : l.map φ = [a, b]) : ∃ x y, l = [x, y] ∧ φ x = a ∧ φ y = b := by
  match l, h with
  | [x, y], h => simp only [List.map_cons, List.map_nil, List.cons.injEq, and_true] at h; exact ⟨x, y, rfl, h.1, h.2⟩
theorem list_three {α β : Type} {φ : α → β} {l : List α} {a b c : β} (h : l.map φ = [a, b, c]) : ∃ x y z, l = [x, y, z] ∧ φ x = a ∧ φ y = b ∧ φ z = c := by
  match l, h with
  | [x, y, z], h => simp only [List.map_cons, List.map_nil, List.cons.injEq, and_true] at h; exact ⟨x, y, z, rfl, h.1, h.2.1, h.2.2⟩
end Go.Proofs.YtkoenljcobcdcaaDoor
set_option maxRecDepth 100000
namespace Go.Proofs.YtkoenljcobcdcaaDoor
open Go.ChangeShapes Go.WideShapes Go.ChangeAt Go.RowKit
attribute [local go_sem] Gives
namespace DvP
def sTree : ByteArray := ⟨#[116, 114, 101, 101]⟩
def sRoot : ByteArray := ⟨#[114, 111, 111, 116]⟩
def sHead : ByteArray := ⟨#[104, 101, 97, 100]⟩
def sData : ByteArray := ⟨#[100, 97, 116, 97]⟩
def sTweak : ByteArray := ⟨#[116, 119, 101, 97, 107]⟩
/-- The keys of an array. -/
def set3 (k : Nat → Nat) : Nat → Nat := trip (sub k sTree) (sub k sRoot) (sub k sHead)
theorem tSet : ArT 28 96 := ⟨by kernel_rfl, ⟨_, Tryd.underlying28, rfl⟩, (zero_of_info (P := Tryd.prog) (t := 28) (v := .agg (ar 96 fun _ => 0)) (n := 96) (by kernel_rfl)).1⟩
theorem built_set (f g h : Nat → Nat) (w : World) : (Instr.build 28 #[(0, .agg (ar 32 f)), (1, .agg (ar 32 g)), (2, .agg (ar 32 h))]).run Tryd.prog w = .ok (.agg (ar 96 (trip f g h))) w :=
  run_build w _ _ _ (built_trip (by kernel_rfl) Tryd.underlying28 (by kernel_rfl) f g h)
theorem eqg_set : Tryd.prog.eqGuardType Tryd.prog.depth 28 = false := by kernel_rfl
theorem eq_set {F G : Nat → Nat} (h : ∀ j, j < 96 → F j = G j) (w : World) : (binOp .eql 28 (.agg (ar 96 F)) (.agg (ar 96 G))).run Tryd.prog w = .ok (.bool true) w := by
  have hf : Tryd.prog.underlying 28 = some (.struct (Tryd.prog.fieldsOf 28)) := by kernel_rfl
  have hfs : (Tryd.prog.fieldsOf 28).toList.map (fun f => (f.name, f.type, f.offset)) = [("Tree", 23, 0), ("Root", 23, 32), ("Head", 23, 64)] := by kernel_rfl
  obtain ⟨f0, f1, f2, e, q0, q1, q2⟩ := list_three hfs
  simp only [Prod.mk.injEq] at q0 q1 q2
  obtain ⟨n0, t0, o0⟩ := q0
  obtain ⟨n1, t1, o1⟩ := q1
  obtain ⟨n2, t2, o2⟩ := q2
  rw [run_eql_struct, run_equalIn_struct w 9999 _ _ _ hf (by kernel_rfl), e]
  rw [eqf_cons (m := 32) (d := 9997) (by rw [n0]; decide) (by rw [t0]; exact tK) (by rw [t0]; exact uK) o0 (by omega), if_pos (eqA_yes fun i hi => h _ (by omega)), eqf_cons (m := 32) (d := 9997) (by rw [n1]; decide) (by rw [t1]; exact tK) (by rw [t1]; exact uK) o1 (by omega), if_pos (eqA_yes fun i hi => h _ (by omega)),
    eqf_cons (m := 32) (d := 9997) (by rw [n2]; decide) (by rw [t2]; exact tK) (by rw [t2]; exact uK) o2 (by omega), if_pos (eqA_yes fun i hi => h _ (by omega)), eqf_nil]
  rfl
section
variable {ops : Array Oper} {Q : Exit → Act → World → Prop} {a : Act} {w : World} {rest : List Oper} {dst : Option Tmp} {ty : TypeId} {pos : String} {after : Array Edge} {x y z : Operand} {f g h : Nat → Nat}
theorem bldSet (hx : a.eval x = .agg (ar 32 f)) (hy : a.eval y = .agg (ar 32 g)) (hz : a.eval z = .agg (ar 32 h)) (hk : wpList Tryd.prog ops Q rest (a.put dst (.agg (ar 96 (trip f g h)))) w) :
    wpList Tryd.prog ops Q (⟨dst, .build 28 #[(0, x), (1, y), (2, z)], ty, pos, after, none⟩ :: rest) a w := by
  have hr := built_set f g h w
  refine wpList_plain rfl fun K hK => ?_
  unfold Oper.wp execOp
  simp [hx, hy, hz, hr, Result.andThen]
  exact hK _ _ hk
end
set_option maxRecDepth 100000 in
theorem clo_any (k : Nat → Nat) (hk : ∀ i, k i < 256) (s : ByteArray) (hs : s.size ≤ 10000) (g : Nat) (w : World) (hS : Salts w) (hb : Blk w g 23 (ar 32 k)) :
    Calls Tryd.prog 26 #[.string s, .pointer (some ⟨g, 0, none⟩)] w fun e w' => e = .returned (.agg (ar 32 (sub k s))) ∧ Below w.heap.size w w' := by
  have SA := hid hS
  have HB := hid hb
  have hg := hb.lt
  clear hS hb
  go_enter Tryd.func26, Tryd.ntmps26
  go_upto_region 1 with (with_reducible apply alA tK)
  generalize hw1 : World.alloc w _ = w1
  have b1 := hid (show Blk w1 w.heap.size 23 (ar 32 fun _ => 0) by rw [← hw1]; exact Blk.new _ _ _)
  have BEL := hid (show Below w.heap.size w w1 by rw [← hw1]; exact (Below.refl _ _).alloc (Nat.le_refl _) _)
  have b0 := hid (HB.out.below BEL.out hg)
  have sa := hid (SA.out.on BEL.out)
  clear hw1 HB SA
  go_wp2_with ((with_reducible apply ldA tK); rfl; exact b0.out)
  refine (sub_any k hk s hs w1 sa.out).mono ?_
  rintro e w2 ⟨rfl, h2⟩
  have c1 := b1.out.below h2 b1.out.lt
  have cb := hid (BEL.out.trans (h2.mono BEL.out.size))
  clear b0 b1 BEL sa h2
  go_wp2_with ((with_reducible apply stA tK); rfl; rfl; exact c1)
  apply ret_ar tK Tryd.results26
  · rfl
  · rfl
  · exact c1.setRow_same _
  exact ⟨rfl, below_setRow cb.out (by omega) _⟩
set_option maxRecDepth 100000 in
theorem under_any (k : Nat → Nat) (w : World) :
    Calls Tryd.prog 17 #[.agg (ar 32 k)] w fun e w' => e = .returned (.func (.func 26) #[] #[.pointer (some ⟨w.heap.size, 0, none⟩)]) ∧ Below w.heap.size w w' ∧ Blk w' w.heap.size 23 (ar 32 k) := by
  have hmf : ∀ (fn : Fn) (first cap : Array Value) (w : World), (Instr.makeFunc fn first cap).run Tryd.prog w = .ok (.func fn first cap) w := fun _ _ _ _ => rfl
  go_enter Tryd.func17, Tryd.ntmps17
  go_upto_region 1 with (with_reducible apply alA tK)
  generalize hw1 : World.alloc w _ = w1
  have b0 := hid (show Blk w1 w.heap.size 23 (ar 32 k) by rw [← hw1]; exact Blk.new _ _ _)
  have hb := hid (show Below w.heap.size w w1 by rw [← hw1]; exact (Below.refl _ _).alloc (Nat.le_refl _) _)
  clear hw1
  go_wp2_with fail
  exact bodyPost_ret (results_tmp (t := 2) rfl _ _ _) rfl ⟨rfl, hb.out, b0.out⟩
set_option maxHeartbeats 400000 in
set_option maxRecDepth 100000 in
theorem of_any (k : Nat → Nat) (hk : ∀ i, k i < 256) (w : World) (hS : Salts w) :
    Calls Tryd.prog 10 #[.agg (ar 32 k)] w fun e w' => e = .returned (.agg (ar 96 (set3 k))) ∧ Below w.heap.size w w' := by
  have HK := hid hk
  have SA := hid hS
  clear hk hS
  go_enter Tryd.func10, Tryd.ntmps10
  go_upto_region 1 with (with_reducible apply alA tSet)
  generalize hw1 : World.alloc (World.alloc w _) _ = w1
  have b0 := hid (show Blk w1 w.heap.size 23 (ar 32 k) by rw [← hw1]; exact (Blk.new _ _ _).alloc _)
  have b1 := hid (show Blk w1 (w.heap.size + 1) 28 (ar 96 fun _ => 0) by rw [← hw1]; exact Blk.top rfl (by simp))
  have hb := hid (show Below w.heap.size w w1 by rw [← hw1]; exact ((Below.refl _ _).alloc (Nat.le_refl _) _).alloc (by simp) _)
  have sa := hid (SA.out.on hb.out)
  clear hw1 SA
  go_wp2_with ((with_reducible apply ldA tK); rfl; exact b0.out)
  refine (under_any k w1).mono ?_
  rintro e w2 ⟨rfl, h2, u2⟩
  obtain ⟨g, hg⟩ : ∃ g, g = w1.heap.size := ⟨_, rfl⟩
  rw [← hg] at u2 ⊢
  have c1 := hid (b1.out.below h2 b1.out.lt)
  have cb := hid (hb.out.trans (h2.mono hb.out.size))
  have cs := hid (sa.out.on h2)
  have cg := hid u2
  clear b0 b1 hb sa h2 hg u2
  go_upto_region 2 with fail
  go_wp2_with fail
  refine (clo_any k HK.out sTree (by decide) g w2 cs.out cg.out).mono ?_
  rintro e w3 ⟨rfl, h3⟩
  have b0 := hid (cg.out.below h3 cg.out.lt)
  have b1 := hid (c1.out.below h3 c1.out.lt)
  have hb := hid (cb.out.trans (h3.mono cb.out.size))
  have sa := hid (cs.out.on h3)
  clear cg c1 cb cs h3
  go_wp2_with fail
  refine (clo_any k HK.out sRoot (by decide) g w3 sa.out b0.out).mono ?_
  rintro e w4 ⟨rfl, h4⟩
  have c0 := hid (b0.out.below h4 b0.out.lt)
  have c1 := hid (b1.out.below h4 b1.out.lt)
  have cb := hid (hb.out.trans (h4.mono hb.out.size))
  have cs := hid (sa.out.on h4)
  clear b0 b1 hb sa h4
  go_wp2_with fail
  refine (clo_any k HK.out sHead (by decide) g w4 cs.out c0.out).mono ?_
  rintro e w5 ⟨rfl, h5⟩
  have d1 := c1.out.below h5 c1.out.lt
  have db := hid (cb.out.trans (h5.mono cb.out.size))
  clear c0 c1 cb cs h5
  go_wp2_with (first | ((with_reducible apply bldSet); rfl; rfl; rfl) | ((with_reducible apply stA tSet); rfl; rfl; exact d1))
  apply ret_ar tSet Tryd.results10
  · rfl
  · rfl
  · exact d1.setRow_same _
  exact ⟨rfl, below_setRow db.out (by omega) _⟩
def pairV (f g : Nat → Nat) : Value := .tuple #[.agg (ar 32 f), .agg (ar 32 g)]
set_option maxHeartbeats 400000 in
set_option maxRecDepth 100000 in
theorem pair_any (k : Nat → Nat) (hk : ∀ i, k i < 256) (w : World) (hS : Salts w) :
    Calls Tryd.prog 11 #[.agg (ar 32 k)] w fun e w' => e = .returned (pairV (sub k sData) (sub k sTweak)) ∧ Below w.heap.size w w' := by
  have HK := hid hk
  have SA := hid hS
  clear hk hS
  go_enter Tryd.func11, Tryd.ntmps11
  go_upto_region 1 with (with_reducible apply alA tK)
  rw [show ((w.alloc (.cells (ar 32 k) 23)).alloc (.cells (ar 32 fun _ => 0) 23)).heap.size = w.heap.size + 2 by simp, show (w.alloc (.cells (ar 32 k) 23)).heap.size = w.heap.size + 1 by simp]
  generalize hw1 : World.alloc (World.alloc (World.alloc w _) _) _ = w1
  have b0 := hid (show Blk w1 w.heap.size 23 (ar 32 k) by rw [← hw1]; exact ((Blk.new _ _ _).alloc _).alloc _)
  have b1 := hid (show Blk w1 (w.heap.size + 1) 23 (ar 32 fun _ => 0) by rw [← hw1]; exact (Blk.top rfl (by simp)).alloc _)
  have b2 := hid (show Blk w1 (w.heap.size + 2) 23 (ar 32 fun _ => 0) by rw [← hw1]; exact Blk.top rfl (by simp))
  have hb := hid (show Below w.heap.size w w1 by rw [← hw1]; exact (((Below.refl _ _).alloc (Nat.le_refl _) _).alloc (by simp) _).alloc (by simp; omega) _)
  have sa := hid (SA.out.on hb.out)
  clear hw1 SA
  go_wp2_with ((with_reducible apply ldA tK); rfl; exact b0.out)
  refine (under_any k w1).mono ?_
  rintro e w2 ⟨rfl, h2, u2⟩
  obtain ⟨g, hg⟩ : ∃ g, g = w1.heap.size := ⟨_, rfl⟩
  rw [← hg] at u2 ⊢
  have c1 := hid (b1.out.below h2 b1.out.lt)
  have c2 := hid (b2.out.below h2 b2.out.lt)
  have cb := hid (hb.out.trans (h2.mono hb.out.size))
  have cs := hid (sa.out.on h2)
  have cg := hid u2
  clear b0 b1 b2 hb sa h2 hg u2
  go_upto_region 2 with fail
  go_wp2_with fail
  refine (clo_any k HK.out sData (by decide) g w2 cs.out cg.out).mono ?_
  rintro e w3 ⟨rfl, h3⟩
  have b0 := hid (cg.out.below h3 cg.out.lt)
  have b1 := hid (c1.out.below h3 c1.out.lt)
  have b2 := hid (c2.out.below h3 c2.out.lt)
  have hb := hid (cb.out.trans (h3.mono cb.out.size))
  have sa := hid (cs.out.on h3)
  clear cg c1 c2 cb cs h3
  go_wp2_with fail
  refine (clo_any k HK.out sTweak (by decide) g w3 sa.out b0.out).mono ?_
  rintro e w4 ⟨rfl, h4⟩
  have c1 := b1.out.below h4 b1.out.lt
  have c2 := b2.out.below h4 b2.out.lt
  have cb := hid (hb.out.trans (h4.mono hb.out.size))
  clear b0 b1 b2 hb sa h4
  obtain ⟨F, hF⟩ : ∃ F, F = sub k sData := ⟨_, rfl⟩
  obtain ⟨G, hG⟩ : ∃ G, G = sub k sTweak := ⟨_, rfl⟩
  have HFE := hid hF
  have HGE := hid hG
  rw [← hF, ← hG]
  clear hF hG
  have d2 := c2.setRow_other (g' := w.heap.size + 1) (by omega) (ar 32 F)
  go_wp2_with (first | ((with_reducible apply stA tK); rfl; rfl; exact c1) | ((with_reducible apply stA tK); rfl; rfl; exact d2))
  have r1 := (c1.setRow_same (ar 32 F)).setRow_other (g' := w.heap.size + 2) (by omega) (ar 32 G)
  have r2 := d2.setRow_same (ar 32 G)
  have rb := hid (below_setRow (below_setRow cb.out (show w.heap.size ≤ w.heap.size + 1 by omega) (ar 32 F)) (show w.heap.size ≤ w.heap.size + 2 by omega) (ar 32 G))
  apply ret_ar2 tK tK Tryd.results11
  · rfl
  · rfl
  · rfl
  · exact r1
  · exact r2
  exact ⟨by rw [HFE.out, HGE.out]; rfl, rb.out⟩
end DvP
end Go.Proofs.YtkoenljcobcdcaaDoor
set_option maxRecDepth 100000
namespace Go.Proofs.YtkoenljcobcdcaaDoor
open Go.ChangeShapes Go.WideShapes Go.ChangeAt Go.RowKit
attribute [local go_sem] Gives
section
variable {ops : Array Oper} {a : Act} {rest : List Oper} {dst : Option Tmp} {ty r : TypeId} {pos : String} {after : Array Edge} {x y : Operand} {f g : Nat → Nat} {gd : Option (Nat × Bool)} {C : World → Prop} {Qk : Act → Prop} {T : TypeId} {n : Nat}
theorem keqU (b : Bool) (hT : Tryd.prog.underlying T = some (.array n 5)) (hg : Tryd.prog.eqGuardType Tryd.prog.depth T = false) (hwt : Region.wanted ⟨dst, .binOp .eql T x y r, ty, pos, after, gd⟩ (yielded ops a.tmps) = true) (hx : a.eval x = .agg (ar n f)) (hy : a.eval y = .agg (ar n g)) (hb : eqA n f g = b)
    (h : wpK Tryd.prog ops C Qk rest (a.put dst (.bool b))) : wpK Tryd.prog ops C Qk (⟨dst, .binOp .eql T x y r, ty, pos, after, gd⟩ :: rest) a :=
  wpK_val hwt (fun w hw => gives_value (w' := w) (by rw [exec_eqU hT hg hx hy, hb]) hw) h
end
namespace DvP
set_option maxHeartbeats 400000 in
set_option maxRecDepth 100000 in
theorem subs_law (k : Nat → Nat) (hk : ∀ i, k i < 256) (s : ByteArray) (W : World) (hS : Salts W) :
    Calls Tryd.prog 3 #[.agg (ar 32 k), .string s] W fun e w' => e = .returned (.bool true) ∧ Below W.heap.size W w' := by
  have HK := hid hk
  have SA := hid hS
  clear hk hS
  go_enter Tryd.func3, Tryd.ntmps3
  go_upto_region 1 with fail
  generalize hw1 : World.alloc W _ = w1
  have b0 := hid (show Blk w1 W.heap.size 23 (ar 32 k) by rw [← hw1]; exact Blk.new _ _ _)
  have hb := hid (show Below W.heap.size W w1 by rw [← hw1]; exact (Below.refl _ _).alloc (Nat.le_refl _) _)
  have sa := hid (SA.out.on hb.out)
  clear hw1 SA
  by_cases hs : 10000 < s.size
  · have ts : (10000 : Int) < (s.size : Int) := by omega
    go_wp2_with fail
    refine (awake_any w1 sa.out).mono ?_
    rintro e w2 ⟨rfl, h2⟩
    have rb := hid (hb.out.trans (h2.mono hb.out.size))
    clear b0 hb sa h2
    go_wp2_with fail
    go_ret
    exact ⟨rfl, rb.out⟩
  · have ts : decide ((10000 : Int) < (s.size : Int)) = false := by simp; omega
    have hs' : s.size ≤ 10000 := by omega
    clear hs
    go_wp2_with fail
    refine wp_region_tail (C := fun w' => Below w1.heap.size w1 w') 11 (by kernel_rfl) (by kernel_rfl) (by kernel_rfl) (Below.refl _ _).drew ?_
    simp only [List.take_succ_cons, List.take_zero, List.drop_succ_cons, List.drop_zero]
    apply kldA tK
    · rfl
    · rfl
    · exact fun w' hw' => (b0.out.below hw' b0.out.lt).head
    simp only [Act.put, List.setIfInBounds_toArray, List.set_cons_succ, List.set_cons_zero]
    apply wpK_val
    · rfl
    · intro w' hw'
      go_simp
      first | exact rfl | exact ⟨rfl, hw'⟩
    simp only [Act.put, List.setIfInBounds_toArray, List.set_cons_succ, List.set_cons_zero]
    apply wpK_val
    · rfl
    · intro w' hw'
      go_simp
      exact (sub_any k HK.out s hs' w' (sa.out.on hw')).mono fun e w2 h => ⟨h.1, hw'.trans (h.2.mono hw'.size)⟩
    simp only [Act.put, List.setIfInBounds_toArray, List.set_cons_succ, List.set_cons_zero]
    apply kldA tK
    · rfl
    · rfl
    · exact fun w' hw' => (b0.out.below hw' b0.out.lt).head
    simp only [Act.put, List.setIfInBounds_toArray, List.set_cons_succ, List.set_cons_zero]
    apply wpK_val
    · rfl
    · intro w' hw'
      go_simp
      first | exact rfl | exact ⟨rfl, hw'⟩
    simp only [Act.put, List.setIfInBounds_toArray, List.set_cons_succ, List.set_cons_zero]
    apply wpK_val
    · rfl
    · intro w' hw'
      go_simp
      exact (rsub_any k HK.out s hs' w').mono fun e w2 h => ⟨h.1, hw'.trans (h.2.mono hw'.size)⟩
    simp only [Act.put, List.setIfInBounds_toArray, List.set_cons_succ, List.set_cons_zero]
    apply keqU true uK eqg_key
    · rfl
    · rfl
    · rfl
    · exact eqA_yes fun _ _ => rfl
    simp only [Act.put, List.setIfInBounds_toArray, List.set_cons_succ, List.set_cons_zero]
    apply wpK_val
    · rfl
    · intro w' hw'
      go_simp
      first | exact rfl | exact ⟨rfl, hw'⟩
    simp only [Act.put, List.setIfInBounds_toArray, List.set_cons_succ, List.set_cons_zero]
    apply wpK_val
    · rfl
    · intro w' hw'
      go_simp
      exact (awake_any w' (sa.out.on hw')).mono fun e w2 h => ⟨h.1, hw'.trans (h.2.mono hw'.size)⟩
    simp only [Act.put, List.setIfInBounds_toArray, List.set_cons_succ, List.set_cons_zero]
    apply wpK_val
    · rfl
    · intro w' hw'
      go_simp
      first | exact rfl | exact ⟨rfl, hw'⟩
    simp only [Act.put, List.setIfInBounds_toArray, List.set_cons_succ, List.set_cons_zero]
    apply wpK_val
    · rfl
    · intro w' hw'
      go_simp
      first | exact rfl | exact ⟨rfl, hw'⟩
    simp only [Act.put, List.setIfInBounds_toArray, List.set_cons_succ, List.set_cons_zero]
    refine wpK_nil fun w9 hw9 => ?_
    have rb := hid (hb.out.trans (hw9.mono hb.out.size))
    clear b0 hb sa hw9
    go_wp2_with fail
    go_ret
    exact ⟨rfl, rb.out⟩
end DvP
end Go.Proofs.YtkoenljcobcdcaaDoor
set_option maxRecDepth 100000
namespace Go.Proofs.YtkoenljcobcdcaaDoor
open Go.ChangeShapes Go.WideShapes Go.ChangeAt Go.RowKit Go.Deep
section
variable {H : Type} {enc : TypeId × Value → H} {w : World} {base : Nat} {spare : Nat → Bool} {held : Bool}
theorem trod_ar {T : TypeId} {n : Nat} (hT : Tryd.prog.underlying T = some (.array n 5)) (hc : Tryd.prog.cellsOf T = n) {fuel : Nat} {cs : List Value} {x : DataW H × List MemPlace} (h : DataW.trod enc Tryd.prog w base spare held fuel T cs = some x) : ∃ f : Nat → Nat, (∀ k, f k < 256) ∧ cs = (ar n f).toList := by
  obtain ⟨xs, m, rfl, rfl, hlen, hxl, hx⟩ := DataW.trod_array hT h
  rw [hc] at hlen
  have hk : ∀ k, k < n → ∃ n : Nat, n < 256 ∧ cs[k]? = some (.int .u8 n) := fun k hk => by
    have h1 := hx k hk
    rw [cells_u8, Nat.mul_one, List.getElem?_eq_getElem (by omega)] at h1
    obtain ⟨n, e1, e2, wf⟩ := DataW.trod_int Tryd.underlying5 h1
    obtain ⟨n, rfl, hn⟩ := u8_wf wf
    refine ⟨n, hn, ?_⟩
    have : ((cs.drop k).take 1)[0]? = some (.int .u8 n) := by rw [e1]; rfl
    rw [List.getElem?_take_of_lt (by omega), List.getElem?_drop] at this
    exact this
  obtain ⟨f, hf⟩ := choose_lt hk
  refine ⟨fun k => if k < n then f k else 0, fun k => ?_, ?_⟩
  · by_cases h : k < n
    · simp only [h, if_true]; exact (hf k h).1
    · simp [h]
  · apply List.ext_getElem?
    intro k
    have e : (ar n fun k => if k < n then f k else 0).toList[k]? = if k < n then some (.int .u8 ((if k < n then f k else 0 : Nat) : Int)) else none := by
      rw [Array.getElem?_toList]
      exact get_row k
    rw [e]
    by_cases h : k < n
    · rw [if_pos h, if_pos h]; exact (hf k h).2
    · rw [if_neg h, List.getElem?_eq_none (by omega)]
set_option maxRecDepth 100000 in
theorem open_ar {T : TypeId} {n : Nat} (hT : Tryd.prog.underlying T = some (.array n 5)) (hc : Tryd.prog.cellsOf T = n) {r : Reach} {b0 : Nat} {v : Value} {d : DataW H} {p : List MemPlace} (hv : Value.okWide Tryd.prog w r b0 T v) (h : DataW.Trod enc Tryd.prog w base spare held T v d p) :
    ∃ f : Nat → Nat, (∀ k, f k < 256) ∧ v = .agg (ar n f) := by
  have hv' : ∃ cs, v = .agg cs := by
    simp only [Value.okWide, hT] at hv
    obtain ⟨cs, h1, _⟩ := hv
    exact ⟨cs, h1⟩
  obtain ⟨cs, rfl⟩ := hv'
  obtain ⟨fuel, hf⟩ := h
  obtain ⟨f, h1, h2⟩ := trod_ar hT hc hf
  refine ⟨f, h1, ?_⟩
  have : cs = ar n f := by
    apply Array.ext'
    exact h2
  rw [this]
end
end Go.Proofs.YtkoenljcobcdcaaDoor
set_option maxRecDepth 100000
namespace Go.Proofs.YtkoenljcobcdcaaDoor
open Go.ChangeShapes Go.WideShapes Go.ChangeAt Go.RowKit Go.Deep
theorem cells_tag : Tryd.prog.cellsOf 40 = 32 := by kernel_rfl
section
variable {H : Type} {enc : TypeId × Value → H} {w : World} {base : Nat} {spare : Nat → Bool} {held : Bool}
/-- A row of n bytes by value. -/
theorem trod_bytes {T : TypeId} {n fuel : Nat} {cs : List Value} {x : DataW H × List MemPlace} (hT : Tryd.prog.underlying T = some (.array n 5)) (hc : Tryd.prog.cellsOf T = n) (h : DataW.trod enc Tryd.prog w base spare held fuel T cs = some x) :
    ∃ f : Nat → Nat, (∀ k, f k < 256) ∧ cs = (bts n f).toList := by
  obtain ⟨xs, m, rfl, rfl, hlen, hxl, hx⟩ := DataW.trod_array hT h
  rw [hc] at hlen
  have hk : ∀ k, k < n → ∃ v : Nat, v < 256 ∧ cs[k]? = some (.int .u8 v) := fun k hk => by
    have h1 := hx k hk
    rw [cells_u8, Nat.mul_one, List.getElem?_eq_getElem (by omega)] at h1
    obtain ⟨v, e1, e2, wf⟩ := DataW.trod_int Tryd.underlying5 h1
    obtain ⟨v, rfl, hv⟩ := u8_wf wf
    refine ⟨v, hv, ?_⟩
    have : ((cs.drop k).take 1)[0]? = some (.int .u8 v) := by rw [e1]; rfl
    rw [List.getElem?_take_of_lt (by omega), List.getElem?_drop] at this
    exact this
  obtain ⟨f, hf⟩ := choose_lt hk
  refine ⟨fun k => if k < n then f k else 0, fun k => ?_, ?_⟩
  · by_cases h : k < n
    · simp only [h, if_true]; exact (hf k h).1
    · simp [h]
  · apply List.ext_getElem?
    intro k
    have e : (bts n fun k => if k < n then f k else 0).toList[k]? = if k < n then some (.int .u8 ((if k < n then f k else 0 : Nat) : Int)) else none := by
      rw [Array.getElem?_toList]
      exact get_row k
    rw [e]
    by_cases h : k < n
    · rw [if_pos h, if_pos h]; exact (hf k h).2
    · rw [if_neg h, List.getElem?_eq_none (by omega)]
theorem open_bytes {T : TypeId} {n : Nat} {r : Reach} {b0 : Nat} {v : Value} {d : DataW H} {p : List MemPlace} (hT : Tryd.prog.underlying T = some (.array n 5)) (hc : Tryd.prog.cellsOf T = n) (hv : Value.okWide Tryd.prog w r b0 T v) (h : DataW.Trod enc Tryd.prog w base spare held T v d p) :
    ∃ f : Nat → Nat, (∀ k, f k < 256) ∧ v = .agg (bts n f) := by
  have hv' : ∃ cs, v = .agg cs := by
    simp only [Value.okWide, hT] at hv
    obtain ⟨cs, h1, _⟩ := hv
    exact ⟨cs, h1⟩
  obtain ⟨cs, rfl⟩ := hv'
  obtain ⟨fuel, hf⟩ := h
  obtain ⟨f, h1, h2⟩ := trod_bytes hT hc hf
  refine ⟨f, h1, ?_⟩
  have : cs = bts n f := by
    apply Array.ext'
    exact h2
  rw [this]
theorem open_tag {r : Reach} {b0 : Nat} {v : Value} {d : DataW H} {p : List MemPlace} (hv : Value.okWide Tryd.prog w r b0 40 v) (h : DataW.Trod enc Tryd.prog w base spare held 40 v d p) :
    ∃ f : Nat → Nat, (∀ k, f k < 256) ∧ v = .agg (tag f) := open_bytes Tryd.underlying40 cells_tag hv h
end
end Go.Proofs.YtkoenljcobcdcaaDoor
