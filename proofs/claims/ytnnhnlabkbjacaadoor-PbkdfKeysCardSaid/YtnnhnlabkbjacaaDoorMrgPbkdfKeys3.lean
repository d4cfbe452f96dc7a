/-
  Contracts of hmac.keyBlock, hmac.padded over this translation.
  The structs hmac.keyed and hmac.message, as values and in memory; contracts of hmac.under, (*hmac.message).goOver over this translation.
  Contract of (*hmac.message).add over this translation.
  Contracts of (hmac.keyed).tag, hmac.Parts, hmac.Of over this translation.
  A literal of slices of bytes.
  '==' of two arrays of integers.
  Tags held against each other; bytes out of a literal.
  Texts of bytes.
  Contract of pbkdf.blockOf over this translation.
  append of so many zeros ('append(l, make([]byte, n)...)'), to a slice of the call's own that is full.
  The type of slices of bytes; '==' of two tags.
  Two slices of the call's own beside each other: where the result of an append lies.
  An empty slice of bytes that is made with room.
-/
import Derived.Test.YtnnhnlabkbjacaaDoorMrgPbkdfKeys2
import Derived.Laws.BitsAllLaws
import Derived.Laws.StructEq
import Derived.Laws.IdiomStrings
import Derived.Laws.OwnMore
import Derived.Deep.DeepAppendRoom
import Derived.Laws.MakeOwn
set_option linter.unusedVariables false
namespace Go.Proofs.YtnnhnlabkbjacaaDoor
open Go.ChangeShapes Go.WideShapes Go.ChangeAt Go.RowKit
attribute [local go_sem] Gives
theorem zlit_b64 : (#[.int .u8 0, .int .u8 0, .int .u8 0, .int .u8 0, .int .u8 0, .int .u8 0, .int .u8 0, .int .u8 0, .int .u8 0, .int .u8 0, .int .u8 0, .int .u8 0, .int .u8 0, .int .u8 0, .int .u8 0, .int .u8 0, .int .u8 0, .int .u8 0, .int .u8 0, .int .u8 0, .int .u8 0, .int .u8 0, .int .u8 0, .int .u8 0, .int .u8 0, .int .u8 0, .int .u8 0, .int .u8 0, .int .u8 0, .int .u8 0, .int .u8 0, .int .u8 0, .int .u8 0, .int .u8 0, .int .u8 0, .int .u8 0, .int .u8 0, .int .u8 0, .int .u8 0, .int .u8 0, .int .u8 0, .int .u8 0, .int .u8 0, .int .u8 0, .int .u8 0, .int .u8 0, .int .u8 0, .int .u8 0, .int .u8 0, .int .u8 0, .int .u8 0, .int .u8 0, .int .u8 0, .int .u8 0, .int .u8 0, .int .u8 0, .int .u8 0, .int .u8 0, .int .u8 0, .int .u8 0, .int .u8 0, .int .u8 0, .int .u8 0, .int .u8 0] : Array Value) = bts 64 fun _ => 0 := by rfl
theorem info_b64 : (Tryd.prog.info? 39).map (·.size) = some 64 := by kernel_rfl
section
variable {ops : Array Oper} {Q : Exit → Act → World → Prop} {a : Act} {w : World} {rest : List Oper} {dst : Option Tmp} {ty : TypeId} {pos : String} {after : Array Edge} {x y : Operand} {g : Nat} {f f0 : Nat → Nat}
theorem ldb (hx : a.eval x = .pointer (some ⟨g, 0, none⟩)) (hb : Blk w g 39 (bts 64 f)) (h : wpList Tryd.prog ops Q rest (a.put dst (.agg (bts 64 f))) w) :
    wpList Tryd.prog ops Q (⟨dst, .load 39 x, ty, pos, after, none⟩ :: rest) a w :=
  step_load_row hb Tryd.underlying39 rfl (info_b64.trans (by rw [size_bts])) hx h
theorem stb (hx : a.eval x = .pointer (some ⟨g, 0, none⟩)) (hy : a.eval y = .agg (bts 64 f)) (hb : Blk w g 39 (bts 64 f0)) (h : wpList Tryd.prog ops Q rest (a.put dst undef) (w.setRow g (bts 64 f))) :
    wpList Tryd.prog ops Q (⟨dst, .store 39 x y, ty, pos, after, none⟩ :: rest) a w :=
  step_store_row hb (info_b64.trans (by rw [size_bts])) (by rw [size_bts, size_bts]) bts_one hx hy h
end
/-- A list's bytes as a row of 64. -/
abbrev l64 (l : List Nat) : Array Value := bts 64 fun j => l.getD j 0
theorem key_row {key : List Nat} {n : Nat} (h : (HmM.cutK key).length = n) : (bts 64 fun j => if j < n then ShaM.at' (HmM.cutK key) j else 0) = l64 (HmM.blk key) := bts_ext fun j _ => by
  subst h
  rw [HmM.blk_get]; rfl
set_option maxHeartbeats 400000 in
set_option maxRecDepth 100000 in
theorem key_short (A : Option Addr) (l : List Nat) (n cap : Nat) (hl : l.length = n) (hn : n ≤ 64) (hc : n ≤ cap) (hm : cap ≤ maxLen) (w : World) (hA : Byt w w.heap.size A l) :
    Calls Tryd.prog 28 #[.slice A n cap] w fun e w' => e = .returned (.agg (l64 (HmM.blk l))) ∧ Below w.heap.size w w' := by
  have HA := hid hA
  have HL := hid hl
  have hk : HmM.cutK l = l := by unfold HmM.cutK; rw [if_neg (by omega)]
  have HK := hid hk
  clear hA hl hk
  have t0 : decide ((64 : Int) < (n : Int)) = false := by simp; omega
  go_enter Tryd.func28, Tryd.ntmps28
  go_upto_region 5 with fail
  generalize hw3 : World.alloc (World.alloc w _) _ = w3
  have b1 : Blk w3 w.heap.size 39 (bts 64 fun _ => 0) := by rw [← hw3]; exact (Blk.top zlit_b64 rfl).alloc _
  have b2 : Blk w3 (w.heap.size + 1) 39 (bts 64 fun _ => 0) := by rw [← hw3]; exact Blk.top zlit_b64 (by simp)
  have hb : Below w.heap.size w w3 := by rw [← hw3]; exact ((Below.refl _ _).alloc (Nat.le_refl _) _).alloc (by simp) _
  clear hw3
  have ha := (HA.out.below hb (Nat.le_refl _))
  go_upto_region 6 with ((with_reducible apply wcopy); rfl; rfl; exact b2; exact ha; exact HL.out; omega)
  generalize hw4 : World.setRow _ _ _ = w4
  have c2 : Blk w4 (w.heap.size + 1) 39 (l64 (HmM.blk l)) := by
    rw [← hw4]
    have h := b2.setRow_same (bts 64 fun j => if j < n then ShaM.at' l j else 0)
    rw [← key_row (key := l) (n := n) (by rw [HK.out, HL.out]), HK.out]
    exact h
  have c1 : Blk w4 w.heap.size 39 (bts 64 fun _ => 0) := by rw [← hw4]; exact b1.setRow_other (by omega) _
  have cb : Below w.heap.size w w4 := by rw [← hw4]; exact below_setRow hb (by omega) _
  clear hw4 b1 b2 hb ha w3
  go_wp2_with (first | ((with_reducible apply ldb); rfl; exact c2) | ((with_reducible apply stb); rfl; rfl; exact c1))
  apply ret_row Tryd.results28
  · exact c1.setRow_same _
  · exact Tryd.underlying39
  · rfl
  · exact (info_b64.trans (by rw [size_bts]))
  · rfl
  · rfl
  exact ⟨rfl, below_setRow cb (Nat.le_refl _) _⟩
set_option maxHeartbeats 400000 in
set_option maxRecDepth 100000 in
theorem key_long (A : Option Addr) (l : List Nat) (n cap : Nat) (hl : l.length = n) (hn : 64 < n) (hc : n ≤ cap) (hm : cap ≤ maxLen) (hz : n ≤ 1000000000000000) (h256 : B256 l) (w : World) (hA : Byt w w.heap.size A l) (hS : Salts w) :
    Calls Tryd.prog 28 #[.slice A n cap] w fun e w' => e = .returned (.agg (l64 (HmM.blk l))) ∧ Below w.heap.size w w' := by
  have HA := hid hA
  have HL := hid hl
  have SA := hid hS
  have H256 := hid h256
  have hk : HmM.cutK l = HmM.dl (ShaM.sum l) := by unfold HmM.cutK; rw [if_pos (by omega)]
  have HK := hid hk
  clear hA hl hk hS h256
  have t0 : decide ((64 : Int) < (n : Int)) = true := by simp; omega
  go_enter Tryd.func28, Tryd.ntmps28
  go_upto_region 3 with fail
  generalize hw3 : World.alloc (World.alloc w _) _ = w3
  have b1 : Blk w3 w.heap.size 39 (bts 64 fun _ => 0) := by rw [← hw3]; exact (Blk.top zlit_b64 rfl).alloc _
  have b2 : Blk w3 (w.heap.size + 1) 39 (bts 64 fun _ => 0) := by rw [← hw3]; exact Blk.top zlit_b64 (by simp)
  have hb : Below w.heap.size w w3 := by rw [← hw3]; exact ((Below.refl _ _).alloc (Nat.le_refl _) _).alloc (by simp) _
  clear hw3
  have B1 := hid b1
  have B2 := hid b2
  have BEL := hid hb
  clear b1 b2 hb
  go_wp2_with fail
  refine (sum_any A l n cap HL.out hc hm hz H256.out w3 ((HA.out.below BEL.out (Nat.le_refl _)).more BEL.out.size) (SA.out.on BEL.out)).mono ?_
  rintro e w4 ⟨rfl, h4⟩
  have b1 := B1.out.below h4 B1.out.lt
  have b2 := B2.out.below h4 B2.out.lt
  have hb := BEL.out.trans (h4.mono BEL.out.size)
  have hz2 : w.heap.size + 1 < w4.heap.size := b2.lt
  clear h4 B1 B2 BEL
  go_upto_region 5 with ((with_reducible apply stt); rfl; rfl; exact Blk.top zlit_tag rfl)
  generalize hw5 : World.setRow _ _ _ = w5
  have c3 : Blk w5 w4.heap.size 43 (tag (ShaM.sum l)) := by rw [← hw5]; exact (Blk.top zlit_tag rfl).setRow_same _
  have c1 : Blk w5 w.heap.size 39 (bts 64 fun _ => 0) := by rw [← hw5]; exact (b1.alloc _).setRow_other (by omega) _
  have c2 : Blk w5 (w.heap.size + 1) 39 (bts 64 fun _ => 0) := by rw [← hw5]; exact (b2.alloc _).setRow_other (by omega) _
  have cb : Below w.heap.size w w5 := by rw [← hw5]; exact below_setRow (hb.alloc (by omega) _) (by omega) _
  have ha : Byt w5 w5.heap.size (some ⟨w4.heap.size, 0, none⟩) (HmM.dl (ShaM.sum l)) := Blk.byt c3 c3.lt (by rw [HmM.dl_length]; omega) fun j hj => by rw [HmM.dl_length] at hj; exact HmM.dl_get _ hj
  clear hw5 b1 b2 hb
  go_upto_region 6 with ((with_reducible apply wcopy); rfl; rfl; exact c2; exact ha; exact HmM.dl_length _; omega)
  generalize hw6 : World.setRow _ _ _ = w6
  have d2 : Blk w6 (w.heap.size + 1) 39 (l64 (HmM.blk l)) := by
    rw [← hw6]
    have h := c2.setRow_same (bts 64 fun j => if j < 32 then ShaM.at' (HmM.dl (ShaM.sum l)) j else 0)
    rw [← key_row (key := l) (n := 32) (by rw [HK.out, HmM.dl_length]), HK.out]
    exact h
  have d1 : Blk w6 w.heap.size 39 (bts 64 fun _ => 0) := by rw [← hw6]; exact c1.setRow_other (by omega) _
  have db : Below w.heap.size w w6 := by rw [← hw6]; exact below_setRow cb (by omega) _
  clear hw6 c1 c2 c3 cb ha
  go_wp2_with (first | ((with_reducible apply ldb); rfl; exact d2) | ((with_reducible apply stb); rfl; rfl; exact d1))
  apply ret_row Tryd.results28
  · exact d1.setRow_same _
  · exact Tryd.underlying39
  · rfl
  · exact (info_b64.trans (by rw [size_bts]))
  · rfl
  · rfl
  exact ⟨rfl, below_setRow db (Nat.le_refl _) _⟩
theorem key_any (A : Option Addr) (l : List Nat) (n cap : Nat) (hl : l.length = n) (hc : n ≤ cap) (hm : cap ≤ maxLen) (hz : n ≤ 1000000000000000) (h256 : B256 l) (w : World) (hA : Byt w w.heap.size A l) (hS : Salts w) :
    Calls Tryd.prog 28 #[.slice A n cap] w fun e w' => e = .returned (.agg (l64 (HmM.blk l))) ∧ Below w.heap.size w w' := by
  rcases Nat.lt_or_ge 64 n with h | h
  · exact key_long A l n cap hl h hc hm hz h256 w hA hS
  · exact key_short A l n cap hl h hc hm w hA
/-- The first k bytes added to x. -/
def padK (x : Nat) (l : List Nat) (k j : Nat) : Nat := if j < k then l.getD j 0 ^^^ x else l.getD j 0
theorem padK_step (x : Nat) (l : List Nat) (k : Nat) : (fun j => if j = k then l.getD k 0 ^^^ x else padK x l k j) = padK x l (k + 1) := funext fun j => by
  unfold padK
  by_cases h : j = k
  · subst h; rw [if_pos rfl, if_pos (by omega)]
  · rw [if_neg h]
    by_cases h2 : j < k
    · rw [if_pos h2, if_pos (by omega)]
    · rw [if_neg h2, if_neg (by omega)]
theorem padK_full {x : Nat} {l : List Nat} (h : l.length = 64) : bts 64 (padK x l 64) = l64 (HmM.pad x l) := bts_ext fun j hj => by
  unfold padK
  rw [if_pos hj, HmM.pad_get x l (by omega)]
set_option maxHeartbeats 400000 in
set_option maxRecDepth 100000 in
theorem padded_any (l : List Nat) (hl : l.length = 64) (h256 : B256 l) (x : Nat) (hx : x < 256) (w : World) (hS : Salts w) :
    Calls Tryd.prog 29 #[.agg (l64 l), .int .u8 x] w fun e w' => e = .returned (.agg (pre (HmM.from' x l).get 64 true)) ∧ Below w.heap.size w w' := by
  have HL := hid hl
  have SA := hid hS
  have H256 := hid h256
  clear hl hS h256
  go_enter Tryd.func29, Tryd.ntmps29
  go_upto_region 2 with fail
  generalize hw3 : World.alloc (World.alloc w _) _ = w3
  have b1 : Blk w3 w.heap.size 39 (bts 64 (padK x l 0)) := by rw [← hw3]; exact (Blk.top rfl rfl).alloc _
  have b2 : Blk w3 (w.heap.size + 1) 54 (pre (fun _ => 0) 0 false) := by rw [← hw3]; exact Blk.top zlit_pre (by simp)
  have hb : Below w.heap.size w w3 := by rw [← hw3]; exact ((Below.refl _ _).alloc (Nat.le_refl _) _).alloc (by simp) _
  clear hw3
  go_loopw [8] (fun v wr => ∃ k : Nat, k ≤ 64 ∧ v = .int .i64 k ∧ Blk wr w.heap.size 39 (bts 64 (padK x l k)) ∧ Blk wr (w.heap.size + 1) 54 (pre (fun _ => 0) 0 false) ∧ Below w.heap.size w wr) (fun v _ => 64 - (intOf v).toNat)
  case atStart => exact ⟨0, by omega, rfl, b1, b2, hb⟩
  case round =>
    clear b1 b2 hb
    obtain ⟨k, hk, rfl, b1, b2, hb⟩ := hrel
    by_cases hlt : k < 64
    · have tk : (k : Int) < 64 := by omega
      have hg : padK x l k k = l.getD k 0 := by unfold padK; rw [if_neg (by omega)]
      have q1 : wr.cell? ⟨w.heap.size, k, none⟩ = some (.int .u8 (l.getD k 0 : Nat)) := by rw [b1.cell, get_bts hlt, hg]
      have q3 := b1.frozen k
      have h1 : l.getD k 0 < 256 := ShaM.getD_lt (by omega) H256.out k
      have hx1 : bits .xor .u8 ((l.getD k 0 : Nat) : Int) (x : Int) = ((l.getD k 0 ^^^ x : Nat) : Int) := u8_xor_nat _ _ h1 hx
      generalize hy : l.getD k 0 = y at *
      have HY := hid hy
      have HG := hid hg
      have B1 := hid b1
      have B2 := hid b2
      have BEL := hid hb
      clear hy hg b1 b2 hb
      go_wp2_with fail
      go_roundw
      case rel =>
        refine ⟨k + 1, by omega, by go_num, ?_, B2.out.setCell_other (by simp) _, BEL.out.setCell (by simp) _⟩
        have h := B1.out.setCell_same k (.int .u8 (y ^^^ x : Nat))
        rw [bts_set, ← HY.out, padK_step] at h
        rw [← HY.out]
        exact h
      case measure => simp [intOf]; omega
    · have tk : decide ((k : Int) < 64) = false := by simp; omega
      rw [show k = 64 by omega, padK_full HL.out] at b1
      have hpl : (HmM.pad x l).length = 64 := by rw [HmM.pad_length, HL.out]
      have hp256 : B256 (HmM.pad x l) := HmM.pad_256 hx H256.out
      have hby : Byt wr wr.heap.size (some ⟨w.heap.size, 0, none⟩) (HmM.pad x l) := b1.byt b1.lt (by omega) fun _ _ => rfl
      have HP := hid hpl
      have HP2 := hid hp256
      have BY := hid hby
      have B2 := hid b2
      have BEL := hid hb
      clear b1 b2 hb hpl hp256 hby
      go_wp2_with fail
      refine (ahead_ok _ (HmM.pad x l) 64 64 HP.out rfl (Nat.le_refl _) (by unfold maxLen; omega) (by omega) HP2.out wr BY.out (SA.out.on BEL.out)).mono ?_
      rintro e w4 ⟨rfl, h4⟩
      have b2 := B2.out.below h4 B2.out.lt
      have hb := BEL.out.trans (h4.mono BEL.out.size)
      have hz2 : w.heap.size + 1 < w4.heap.size := b2.lt
      clear h4 B2 BEL BY HP2 HP
      rw [show ShaM.passes ShaM.seeds (HmM.pad x l) = HmM.from' x l from rfl]
      go_upto_region 7 with ((with_reducible apply stp); rfl; rfl; exact Blk.top zlit_pre rfl)
      generalize hw5 : World.setRow _ _ _ = w5
      have c3 : Blk w5 w4.heap.size 54 (pre (HmM.from' x l).get 64 true) := by rw [← hw5]; exact (Blk.top zlit_pre rfl).setRow_same _
      have c2 : Blk w5 (w.heap.size + 1) 54 (pre (fun _ => 0) 0 false) := by rw [← hw5]; exact (b2.alloc _).setRow_other (by omega) _
      have cb : Below w.heap.size w w5 := by rw [← hw5]; exact below_setRow (hb.alloc (by omega) _) (by omega) _
      clear hw5 b2 hb
      go_wp2_with (first | ((with_reducible apply ldp); rfl; exact c3) | ((with_reducible apply stp); rfl; rfl; exact c2))
      apply ret_row Tryd.results29
      · exact c2.setRow_same _
      · exact Tryd.underlying54
      · rfl
      · exact (info_pre.trans (by rw [size_pre]))
      · rfl
      · rfl
      exact ⟨rfl, below_setRow cb (by omega) _⟩
end Go.Proofs.YtnnhnlabkbjacaaDoor
namespace Go.Proofs.YtnnhnlabkbjacaaDoor
open Go.ChangeShapes Go.WideShapes Go.ChangeAt Go.RowKit
attribute [local go_sem] Gives
/-- A prefix's cells. -/
def preC (f : Nat → Nat) (m : Nat) (b : Bool) (j : Nat) : Value := if j < 8 then .int .u32 (f j : Nat) else if j = 8 then .int .i64 m else .bool b
theorem pre_row (f : Nat → Nat) (m : Nat) (b : Bool) : pre f m b = row 10 (preC f m b) := rfl
theorem preC_one (f : Nat → Nat) (m : Nat) (b : Bool) (j : Nat) : (preC f m b j).oneCell' = true := by
  unfold preC
  by_cases h : j < 8
  · simp only [h, if_true]; rfl
  · simp only [h, if_false]
    by_cases h2 : j = 8
    · simp only [h2, if_true]; rfl
    · simp only [h2, if_false]; rfl
/-- Where all tags under one key begin. -/
def kyd (f g : Nat → Nat) : Array Value := row 20 fun j => if j < 10 then preC f 64 true j else preC g 64 true (j - 10)
theorem size_kyd {f g : Nat → Nat} : (kyd f g).size = 20 := size_row
theorem info_kyd : (Tryd.prog.info? 56).map (·.size) = some 20 := by kernel_rfl
theorem built_kyd (f g : Nat → Nat) : Tryd.prog.built 56 [(0, .agg (pre f 64 true)), (1, .agg (pre g 64 true))] = some (kyd f g) := by kernel_rfl
theorem zlit_kyd : (#[.int .u32 0, .int .u32 0, .int .u32 0, .int .u32 0, .int .u32 0, .int .u32 0, .int .u32 0, .int .u32 0, .int .i64 0, .bool false, .int .u32 0, .int .u32 0, .int .u32 0, .int .u32 0, .int .u32 0, .int .u32 0, .int .u32 0, .int .u32 0, .int .i64 0, .bool false] : Array Value) = row 20 fun j => if j < 10 then preC (fun _ => 0) 0 false j else preC (fun _ => 0) 0 false (j - 10) := by rfl
theorem kyd_one {f g : Nat → Nat} : (kyd f g).all (·.oneCell') = true := row_one fun k _ => by
  by_cases h : k < 10
  · simp only [h, if_true]; exact preC_one _ _ _ _
  · simp only [h, if_false]; exact preC_one _ _ _ _
/-- The message: what was gone through, 64 bytes of which the first n wait. -/
def msg (f : Nat → Nat) (m : Nat) (l : Nat → Nat) (n : Nat) : Array Value := row 75 fun j => if j < 10 then preC f m true j else if j < 74 then .int .u8 (l (j - 10) : Nat) else .int .i64 n
theorem size_msg {f : Nat → Nat} {m : Nat} {l : Nat → Nat} {n : Nat} : (msg f m l n).size = 75 := size_row
theorem info_msg : (Tryd.prog.info? 62).map (·.size) = some 75 := by kernel_rfl
theorem built_msg (f : Nat → Nat) : Tryd.prog.built 62 [(0, .agg (pre f 64 true))] = some (msg f 64 (fun _ => 0) 0) := by kernel_rfl
theorem msg_one {f : Nat → Nat} {m : Nat} {l : Nat → Nat} {n : Nat} : (msg f m l n).all (·.oneCell') = true := row_one fun k _ => by
  by_cases h : k < 10
  · simp only [h, if_true]; exact preC_one _ _ _ _
  · simp only [h, if_false]
    by_cases h2 : k < 74
    · simp only [h2, if_true]; rfl
    · simp only [h2, if_false]; rfl
section
variable {w : World} {g m n : Nat} {t : TypeId} {f k : Nat → Nat} {l : Nat → Nat}
theorem Blk.kydA (h : Blk w g t (kyd f k)) : w.rangeAt g 0 (pre f 64 true).toList := fun j v hj => by
  have hj8 : j < 10 := by have := (List.getElem?_eq_some_iff.1 hj).1; rwa [Array.length_toList, size_pre] at this
  rw [Array.getElem?_toList, pre_row, get_row_lt hj8] at hj
  rw [Nat.zero_add, h.cell]
  unfold kyd
  rw [get_row_lt (by omega), if_pos hj8]
  exact hj
theorem Blk.kydB (h : Blk w g t (kyd f k)) : w.rangeAt g 10 (pre k 64 true).toList := fun j v hj => by
  have hj8 : j < 10 := by have := (List.getElem?_eq_some_iff.1 hj).1; rwa [Array.length_toList, size_pre] at this
  rw [Array.getElem?_toList, pre_row, get_row_lt hj8] at hj
  rw [h.cell]
  unfold kyd
  rw [get_row_lt (by omega), if_neg (by omega), show 10 + j - 10 = j by omega]
  exact hj
theorem Blk.msgA (h : Blk w g t (msg f m l n)) : w.rangeAt g 0 (pre f m true).toList := fun j v hj => by
  have hj8 : j < 10 := by have := (List.getElem?_eq_some_iff.1 hj).1; rwa [Array.length_toList, size_pre] at this
  rw [Array.getElem?_toList, pre_row, get_row_lt hj8] at hj
  rw [Nat.zero_add, h.cell]
  unfold msg
  rw [get_row_lt (by omega), if_pos hj8]
  exact hj
theorem Blk.msgN (h : Blk w g t (msg f m l n)) : w.cell? ⟨g, 74, none⟩ = some (.int .i64 n) := by
  rw [h.cell]; unfold msg; rw [get_row_lt (by omega), if_neg (by omega), if_neg (by omega)]
theorem Blk.msgL (h : Blk w g t (msg f m l n)) {j : Nat} (hj : j < 64) : w.cell? ⟨g, 10 + j, none⟩ = some (.int .u8 (l j : Nat)) := by
  rw [h.cell]; unfold msg; rw [get_row_lt (by omega), if_neg (by omega), if_pos (by omega), show 10 + j - 10 = j by omega]
theorem Blk.msgByt (h : Blk w g t (msg f m l n)) {B : Nat} (hg : g < B) {L : List Nat} (hL : L.length ≤ 64) (he : ∀ j, j < L.length → L.getD j 0 = l j) : Byt w B (some ⟨g, 10, none⟩) L := fun _ =>
  ⟨g, 10, rfl, hg, fun i hi => by rw [h.msgL (by omega), he i hi]⟩
theorem Blk.msgSetN (h : Blk w g t (msg f m l n)) (n' : Nat) : Blk (w.setCell ⟨g, 74, none⟩ (.int .i64 n')) g t (msg f m l n') := by
  have h1 := h.setCell_same 74 (.int .i64 n')
  have e : (msg f m l n).setIfInBounds 74 (.int .i64 n') = msg f m l n' := by
    unfold msg
    rw [row_set]
    refine row_ext fun j hj => ?_
    by_cases h2 : j = 74
    · subst h2; simp
    · rw [if_neg h2]
      by_cases h3 : j < 10
      · rw [if_pos h3, if_pos h3]
      · rw [if_neg h3, if_neg h3, if_pos (by omega), if_pos (by omega)]
  rw [e] at h1
  exact h1
/-- The cells vs laid into a row from place o on. -/
theorem blk_setCells {F : Nat → Value} {N : Nat} : ∀ (vs : List Value) (o : Nat) (w : World) (F : Nat → Value), Blk w g t (row N F) → o + vs.length ≤ N →
    Blk (w.setCells g o vs) g t (row N fun j => if o ≤ j ∧ j < o + vs.length then vs.getD (j - o) undef else F j) ∧ Below g w (w.setCells g o vs)
  | [], o, w, F, h, _ => by
    rw [World.setCells]
    refine ⟨?_, Below.refl _ _⟩
    rw [row_ext (g := F) fun j _ => if_neg (by rw [List.length_nil]; omega)]
    exact h
  | v :: r, o, w, F, h, hN => by
    rw [List.length_cons] at hN
    have h1 := h.setCell_same o v
    rw [row_set] at h1
    obtain ⟨h2, h3⟩ := blk_setCells (F := F) r (o + 1) _ _ h1 (by omega)
    rw [World.setCells]
    refine ⟨?_, ((Below.refl g w).setCell (p := ⟨g, o, none⟩) (Nat.le_refl _) v).trans h3⟩
    rw [row_ext (g := fun j => if o ≤ j ∧ j < o + (v :: r).length then (v :: r).getD (j - o) undef else F j) fun j _ => ?_] at h2
    · exact h2
    · rw [List.length_cons]
      by_cases e : j = o
      · subst e
        rw [if_neg (by omega), if_pos rfl, if_pos (by omega), Nat.sub_self]; rfl
      · by_cases e2 : o + 1 ≤ j ∧ j < o + 1 + r.length
        · rw [if_pos e2, if_pos (by omega), show j - o = (j - (o + 1)) + 1 by omega, List.getD_cons_succ]
        · rw [if_neg e2, if_neg e, if_neg (by omega)]
theorem pre_getD (f : Nat → Nat) (m : Nat) (b : Bool) {j : Nat} (h : j < 10) : (pre f m b).toList.getD j undef = preC f m b j := by
  rw [List.getD_eq_getElem?_getD, Array.getElem?_toList, pre_row, get_row_lt h]; rfl
theorem Blk.msgSetP (h : Blk w g t (msg f m l n)) (f' : Nat → Nat) (m' : Nat) : Blk (w.setCells g 0 (pre f' m' true).toList) g t (msg f' m' l n) ∧ Below g w (w.setCells g 0 (pre f' m' true).toList) := by
  have hl : (pre f' m' true).toList.length = 10 := by rw [Array.length_toList, size_pre]
  obtain ⟨h1, h2⟩ := blk_setCells (F := fun _ => undef) (pre f' m' true).toList 0 w _ h (by rw [hl]; omega)
  refine ⟨?_, h2⟩
  unfold msg
  rw [row_ext (g := fun j => if j < 10 then preC f' m' true j else if j < 74 then .int .u8 (l (j - 10) : Nat) else .int .i64 n) fun j _ => ?_] at h1
  · exact h1
  · rw [hl]
    by_cases e : j < 10
    · rw [if_pos (by omega), if_pos e, Nat.sub_zero, pre_getD _ _ _ e]
    · rw [if_neg (by omega), if_neg e, if_neg e]
end
section
variable {ops : Array Oper} {Q : Exit → Act → World → Prop} {a : Act} {w : World} {rest : List Oper} {dst : Option Tmp} {ty : TypeId} {pos : String} {after : Array Edge} {x y : Operand} {g o m m' n : Nat} {f f' l : Nat → Nat} {b : Bool}
/-- A prefix out of the middle of a block. -/
theorem ldpm (hx : a.eval x = .pointer (some ⟨g, o, none⟩)) (hc : w.rangeAt g o (pre f m b).toList) (h : wpList Tryd.prog ops Q rest (a.put dst (.agg (pre f m b))) w) :
    wpList Tryd.prog ops Q (⟨dst, .load 54 x, ty, pos, after, none⟩ :: rest) a w :=
  step_load_mid hc Tryd.underlying54 rfl (info_pre.trans (by rw [Array.length_toList, size_pre])) hx (by rw [Array.toArray_toList]; exact h)
/-- A message's prefix stored. -/
theorem stpm {t : TypeId} (hx : a.eval x = .pointer (some ⟨g, 0, none⟩)) (hy : a.eval y = .agg (pre f' m' true)) (hb : Blk w g t (msg f m l n))
    (h : ∀ w', Blk w' g t (msg f' m' l n) → Below g w w' → wpList Tryd.prog ops Q rest (a.put dst undef) w') :
    wpList Tryd.prog ops Q (⟨dst, .store 54 x y, ty, pos, after, none⟩ :: rest) a w := by
  refine wpList_store_mid rfl 54 x y rfl g 0 (pre f' m' true) hx hy ?_ (info_pre.trans (by rw [size_pre])) pre_one ?_
  · intro j hj
    rw [size_pre] at hj
    refine ⟨?_, hb.frozen _⟩
    rw [hb.cell]
    unfold msg
    rw [get_row_lt (by omega)]; rfl
  · exact h _ (hb.msgSetP f' m').1 (hb.msgSetP f' m').2
theorem bldm (hy : a.eval x = .agg (pre f 64 true)) (h : wpList Tryd.prog ops Q rest (a.put dst (.agg (msg f 64 (fun _ => 0) 0))) w) :
    wpList Tryd.prog ops Q (⟨dst, .build 62 #[(0, x)], ty, pos, after, none⟩ :: rest) a w := by
  refine wpList_plain rfl fun K hK => ?_
  have hr := run_build (P := Tryd.prog) w 62 #[(0, a.eval x)] _ (by rw [hy]; exact built_msg f)
  unfold Oper.wp
  simp [execOp, hr, Result.andThen]
  exact hK _ _ h
theorem stm {t : TypeId} {old : Array Value} (hx : a.eval x = .pointer (some ⟨g, 0, none⟩)) (hy : a.eval y = .agg (msg f m l n)) (hb : Blk w g t old) (ho : old.size = 75) (h : wpList Tryd.prog ops Q rest (a.put dst undef) (w.setRow g (msg f m l n))) :
    wpList Tryd.prog ops Q (⟨dst, .store 62 x y, ty, pos, after, none⟩ :: rest) a w :=
  step_store_row hb (info_msg.trans (by rw [size_msg])) (by rw [size_msg, ho]) msg_one hx hy h
theorem stk {t : TypeId} {old : Array Value} (hx : a.eval x = .pointer (some ⟨g, 0, none⟩)) (hy : a.eval y = .agg (kyd f f')) (hb : Blk w g t old) (ho : old.size = 20) (h : wpList Tryd.prog ops Q rest (a.put dst undef) (w.setRow g (kyd f f'))) :
    wpList Tryd.prog ops Q (⟨dst, .store 56 x y, ty, pos, after, none⟩ :: rest) a w :=
  step_store_row hb (info_kyd.trans (by rw [size_kyd])) (by rw [size_kyd, ho]) kyd_one hx hy h
theorem klb {C : World → Prop} {Qk : Act → Prop} {gd : Option (Nat × Bool)} (hwt : Region.wanted ⟨dst, .load 39 x, ty, pos, after, gd⟩ (yielded ops a.tmps) = true) (hx : a.eval x = .pointer (some ⟨g, 0, none⟩)) (hb : ∀ w, C w → Blk w g 39 (bts 64 f)) (h : wpK Tryd.prog ops C Qk rest (a.put dst (.agg (bts 64 f)))) :
    wpK Tryd.prog ops C Qk (⟨dst, .load 39 x, ty, pos, after, gd⟩ :: rest) a :=
  wpK_val hwt (fun w hw => gives_value (w' := w) (by
    have h1 : w.rangeAt g 0 (bts 64 f).toList := fun j v hj => by
      rw [Array.getElem?_toList] at hj
      rw [Nat.zero_add, (hb w hw).cell]
      exact hj
    have := run_loadAt_mid (P := Tryd.prog) w g 0 39 (bts 64 f).toList _ h1 Tryd.underlying39 rfl (info_b64.trans (by rw [Array.length_toList, size_bts]))
    rw [Array.toArray_toList] at this
    simp only [execOp, hx, Sem.run_bind, this, Result.andThen_ok, Sem.run_pure]) hw) h
theorem bldk {C : World → Prop} {Qk : Act → Prop} {gd : Option (Nat × Bool)} (hwt : Region.wanted ⟨dst, .build 56 #[(0, x), (1, y)], ty, pos, after, gd⟩ (yielded ops a.tmps) = true) (hx : a.eval x = .agg (pre f 64 true)) (hy : a.eval y = .agg (pre f' 64 true))
    (h : wpK Tryd.prog ops C Qk rest (a.put dst (.agg (kyd f f')))) : wpK Tryd.prog ops C Qk (⟨dst, .build 56 #[(0, x), (1, y)], ty, pos, after, gd⟩ :: rest) a :=
  wpK_val hwt (fun w hw => by
    have hr := run_build (P := Tryd.prog) w 56 #[(0, a.eval x), (1, a.eval y)] _ (by rw [hx, hy]; exact built_kyd f f')
    refine gives_value (w' := w) ?_ hw
    simp [execOp, hr, Result.andThen]) h
end
set_option maxHeartbeats 400000 in
set_option maxRecDepth 100000 in
theorem under_any (A : Option Addr) (l : List Nat) (n cap : Nat) (hl : l.length = n) (hc : n ≤ cap) (hm : cap ≤ maxLen) (hz : n ≤ 1000000000000000) (h256 : B256 l) (w : World) (hA : Byt w w.heap.size A l) (hS : Salts w) :
    Calls Tryd.prog 24 #[.slice A n cap] w fun e w' => e = .returned (.agg (kyd (HmM.from' 54 (HmM.blk l)).get (HmM.from' 92 (HmM.blk l)).get)) ∧ Below w.heap.size w w' := by
  have HA := hid hA
  have HL := hid hl
  have SA := hid hS
  have H256 := hid h256
  clear hA hl hS h256
  go_enter Tryd.func24, Tryd.ntmps24
  go_upto_region 1 with fail
  generalize hw3 : World.alloc w _ = w3
  have b1 : Blk w3 w.heap.size 56 (row 20 fun j => if j < 10 then preC (fun _ => 0) 0 false j else preC (fun _ => 0) 0 false (j - 10)) := by rw [← hw3]; exact Blk.top zlit_kyd rfl
  have hb : Below w.heap.size w w3 := by rw [← hw3]; exact (Below.refl _ _).alloc (Nat.le_refl _) _
  clear hw3
  have B1 := hid b1
  have BEL := hid hb
  clear b1 hb
  go_wp2_with fail
  refine (key_any A l n cap HL.out hc hm hz H256.out w3 ((HA.out.below BEL.out (Nat.le_refl _)).more BEL.out.size) (SA.out.on BEL.out)).mono ?_
  rintro e w4 ⟨rfl, h4⟩
  have b1 := B1.out.below h4 B1.out.lt
  have hb := BEL.out.trans (h4.mono BEL.out.size)
  have hz2 : w.heap.size < w4.heap.size := b1.lt
  clear h4 B1 BEL w3
  go_upto_region 2 with ((with_reducible apply stb); rfl; rfl; exact Blk.top zlit_b64 rfl)
  generalize hw5 : World.setRow _ _ _ = w5
  have c3 : Blk w5 w4.heap.size 39 (l64 (HmM.blk l)) := by rw [← hw5]; exact (Blk.top zlit_b64 rfl).setRow_same _
  have c1 : Blk w5 w.heap.size 56 (row 20 fun j => if j < 10 then preC (fun _ => 0) 0 false j else preC (fun _ => 0) 0 false (j - 10)) := by rw [← hw5]; exact (b1.alloc _).setRow_other (by omega) _
  have cb : Below w.heap.size w w5 := by rw [← hw5]; exact below_setRow (hb.alloc (by omega) _) (by omega) _
  clear hw5 b1 hb
  have C1 := hid c1
  have C3 := hid c3
  have CB := hid cb
  clear c1 c3 cb
  have hbl := HmM.blk_length l
  have hb256 := HmM.blk_256 H256.out
  have HBL := hid hbl
  have HB256 := hid hb256
  clear hbl hb256
  go_wp2_with fail
  refine wp_region_tail (C := fun w' => Below w5.heap.size w5 w') 5 (by kernel_rfl) (by kernel_rfl) (by kernel_rfl) (Below.refl _ _).drew ?_
  simp only [List.take_succ_cons, List.take_zero, List.drop_succ_cons, List.drop_zero]
  apply klb
  · rfl
  · rfl
  · exact fun w' hw' => C3.out.below hw' C3.out.lt
  simp only [Act.put, List.setIfInBounds_toArray, List.set_cons_succ, List.set_cons_zero]
  apply wpK_val
  · rfl
  · intro w' hw'
    go_simp
    exact (padded_any (HmM.blk l) HBL.out HB256.out 54 (by omega) _ (SA.out.on (CB.out.trans (hw'.mono CB.out.size)))).mono fun e w'' ⟨he, hb''⟩ => ⟨he, hw'.trans (hb''.mono hw'.size)⟩
  simp only [Act.put, List.setIfInBounds_toArray, List.set_cons_succ, List.set_cons_zero]
  apply klb
  · rfl
  · rfl
  · exact fun w' hw' => C3.out.below hw' C3.out.lt
  simp only [Act.put, List.setIfInBounds_toArray, List.set_cons_succ, List.set_cons_zero]
  apply wpK_val
  · rfl
  · intro w' hw'
    go_simp
    exact (padded_any (HmM.blk l) HBL.out HB256.out 92 (by omega) _ (SA.out.on (CB.out.trans (hw'.mono CB.out.size)))).mono fun e w'' ⟨he, hb''⟩ => ⟨he, hw'.trans (hb''.mono hw'.size)⟩
  simp only [Act.put, List.setIfInBounds_toArray, List.set_cons_succ, List.set_cons_zero]
  apply bldk
  · rfl
  · rfl
  · rfl
  simp only [Act.put, List.setIfInBounds_toArray, List.set_cons_succ, List.set_cons_zero]
  refine wpK_nil fun w6 hw6 => ?_
  have d1 := C1.out.below hw6 C1.out.lt
  have db := CB.out.trans (hw6.mono CB.out.size)
  clear C1 C3 CB hw6
  go_wp2_with ((with_reducible apply stk); rfl; rfl; exact d1; exact size_row)
  apply ret_row Tryd.results24
  · exact d1.setRow_same _
  · exact Tryd.underlying56
  · rfl
  · exact (info_kyd.trans (by rw [size_kyd]))
  · rfl
  · rfl
  exact ⟨rfl, below_setRow db (Nat.le_refl _) _⟩
set_option maxHeartbeats 400000 in
set_option maxRecDepth 100000 in
/-- Whole blocks are gone through: l, which lies in an older block or in this one. -/
theorem goOver_any (s : ShaM.S8) (hs : s.ok) (g m q : Nat) (L : Nat → Nat) (A : Option Addr) (l : List Nat) (n cap : Nat) (hl : l.length = n) (hn : n % 64 = 0) (hc : n ≤ cap) (hm : cap ≤ maxLen) (hz : m + n ≤ 1000000000000000) (h256 : B256 l) (w : World)
    (hg : Blk w g 62 (msg s.get m L q)) (hA : Byt w w.heap.size A l) (hS : Salts w) :
    Calls Tryd.prog 36 #[.pointer (some ⟨g, 0, none⟩), .slice A n cap] w fun e w' => e = .returned (.tuple #[]) ∧ Blk w' g 62 (msg (ShaM.passes s l).get (m + n) L q) ∧ Below g w w' := by
  have HS := hid hs
  have HA := hid hA
  have HL := hid hl
  have SA := hid hS
  have H256 := hid h256
  have hr := hg.msgA
  have HG := hid hg
  clear hA hl hS h256 hs hg
  go_enter Tryd.func36, Tryd.ntmps36
  go_wp2_with ((with_reducible apply ldpm); rfl; exact hr)
  refine (more_ok s HS.out A l n cap m HL.out hn hc hm hz H256.out w HA.out SA.out).mono ?_
  rintro e w4 ⟨rfl, h4⟩
  have g4 := HG.out.below h4 HG.out.lt
  have hb : Below g w w4 := h4.mono (Nat.le_of_lt HG.out.lt)
  clear h4 hr
  go_wp2_with ((with_reducible apply stpm); rfl; rfl; exact g4; intro w5 g5 b5)
  go_end0
  exact ⟨rfl, g5, hb.trans b5⟩
end Go.Proofs.YtnnhnlabkbjacaaDoor
namespace Go.Proofs.YtnnhnlabkbjacaaDoor
open Go.ChangeShapes Go.WideShapes Go.ChangeAt Go.RowKit
attribute [local go_sem] Gives
theorem infoz_u8 : (Tryd.prog.info? 5).map (·.size) = some 1 := by kernel_rfl
/-- k bytes of b laid over L from place p on. -/
def lay (p k : Nat) (b : List Nat) (L : Nat → Nat) (j : Nat) : Nat := if p ≤ j ∧ j < p + k then b.getD (j - p) 0 else L j
theorem lay_in {p k j : Nat} {b : List Nat} {L : Nat → Nat} (h : p ≤ j ∧ j < p + k) : lay p k b L j = b.getD (j - p) 0 := if_pos h
theorem lay_out {p k j : Nat} {b : List Nat} {L : Nat → Nat} (h : ¬ (p ≤ j ∧ j < p + k)) : lay p k b L j = L j := if_neg h
section
variable {a : Act} {w : World} {dst : Option Tmp} {ty : TypeId} {pos : String} {after : Array Edge} {gd : Option (Nat × Bool)} {d s : Operand} {R : World → Prop}
/-- A copy into a message's bytes from place p on. -/
theorem gives_cpm {A : Option Addr} {n cap p c k g B m q : Nat} {t : TypeId} {f L : Nat → Nat} {b : List Nat} (hd : a.eval d = .slice (some ⟨g, 10 + p, none⟩) (64 - p) c) (hs : a.eval s = .slice A n cap) (hg : Blk w g t (msg f m L q)) (hA : Byt w B A b) (hl : b.length = n) (hp : p ≤ 64) (hk : k = min n (64 - p))
    (hR : ∀ w', Blk w' g t (msg f m (lay p k b L) q) → Below g w w' → R w') :
    Gives Tryd.prog ⟨dst, .call { callee := .builtin .copy, args := #[d, s], argTypes := #[22, 22] }, ty, pos, after, gd⟩ a w (.int .i64 k) R := by
  by_cases h0 : k = 0
  · subst h0
    have hrun := run_copy_none (P := Tryd.prog) w 22 22 ty 5 (some ⟨g, 10 + p, none⟩) A (64 - p) c n cap Tryd.underlying22 infoz_u8 (show Nat.min n (64 - p) = 0 from hk.symm)
    refine gives_value (w' := w) (by simp [execOp, resolve, invoke, builtin, hd, hs, hrun, Result.andThen, goInt]) (hR w ?_ (Below.refl _ _))
    unfold msg
    rw [row_ext (g := fun j => if j < 10 then preC f m true j else if j < 74 then .int .u8 (L (j - 10) : Nat) else .int .i64 q) fun j _ => ?_]
    · exact hg
    · by_cases e : j < 10
      · rw [if_pos e, if_pos e]
      · by_cases e4 : j < 74
        · rw [if_neg e, if_neg e, if_pos e4, if_pos e4, lay_out (by omega)]
        · rw [if_neg e, if_neg e, if_neg e4, if_neg e4]
  · obtain ⟨b', o, rfl, hB, hr⟩ := hA (by omega)
    have hlen : (nums .u8 (b.take k)).length = k := by rw [nums_length, List.length_take]; omega
    have hrun := run_copy_row (P := Tryd.prog) w 22 22 ty 5 g (10 + p) (64 - p) c ⟨b', o, none⟩ n cap (msg f m L q) t (nums .u8 (b.take k)) Tryd.underlying22 infoz_u8 hg (by rw [hlen, hk])
      (fun j v hj => by
        have hjk : j < k := by have := (List.getElem?_eq_some_iff.1 hj).1; rwa [hlen] at this
        rw [nums_get .u8 (by rw [List.length_take]; omega)] at hj
        rw [← hj, Addr.add_mid, hr j (by omega), getD_take hjk])
      (by rw [hlen, size_msg]; omega) (fun v hv => by obtain ⟨x, _, rfl⟩ := List.mem_map.1 hv; rfl)
    rw [hlen] at hrun
    refine gives_value (by simp only [execOp, resolve, invoke, builtin, Sem.run_bind, Sem.run_pure, Result.andThen_ok, List.map_toArray, List.map_cons, List.map_nil, hd, hs, hrun]; rfl) (hR _ ?_ (Go.below_setRow (Below.refl _ _) (Nat.le_refl _) _))
    have e : (List.take (10 + p) (msg f m L q).toList ++ nums .u8 (b.take k) ++ (msg f m L q).toList.drop (10 + p + k)).toArray = msg f m (lay p k b L) q := by
      have hsz : (msg f m L q).toList.length = 75 := by rw [Array.length_toList, size_msg]
      apply Array.ext_getElem?
      intro j
      rw [List.getElem?_toArray, List.append_assoc, List.getElem?_append, List.length_take, hsz, List.getElem?_append, hlen]
      unfold msg
      by_cases e1 : j < 10 + p
      · rw [if_pos (by omega), List.getElem?_take_of_lt e1, Array.getElem?_toList, get_row_lt (by omega), get_row_lt (by omega)]
        by_cases e : j < 10
        · rw [if_pos e, if_pos e]
        · by_cases e4 : j < 74
          · rw [if_neg e, if_neg e, if_pos e4, if_pos e4, lay_out (by omega)]
          · rw [if_neg e, if_neg e, if_neg e4, if_neg e4]
      · rw [if_neg (by omega), show min (10 + p) 75 = 10 + p by omega]
        by_cases e2 : j - (10 + p) < k
        · rw [if_pos e2, nums_get .u8 (by rw [List.length_take]; omega), get_row_lt (by omega), if_neg (show ¬ j < 10 by omega), if_pos (show j < 74 by omega), lay_in (by omega), getD_take e2, show j - 10 - p = j - (10 + p) by omega]
        · rw [if_neg e2, List.getElem?_drop, Array.getElem?_toList, show 10 + p + k + (j - (10 + p) - k) = j by omega, get_row, get_row]
          by_cases e3 : j < 75
          · have e5 : ¬ j < 10 := by omega
            rw [if_pos e3, if_pos e3, if_neg e5, if_neg e5]
            by_cases e4 : j < 74
            · rw [if_pos e4, if_pos e4, lay_out (by omega)]
            · rw [if_neg e4, if_neg e4]
          · rw [if_neg e3, if_neg e3]
    rw [e]
    exact hg.setRow_same _
end
theorem cpm {ops : Array Oper} {Q : Exit → Act → World → Prop} {a : Act} {w : World} {rest : List Oper} {dst : Option Tmp} {ty : TypeId} {pos : String} {after : Array Edge} {d s : Operand} {A : Option Addr} {n cap p c k g B m q : Nat} {t : TypeId} {f L : Nat → Nat} {b : List Nat}
    (hd : a.eval d = .slice (some ⟨g, 10 + p, none⟩) (64 - p) c) (hs : a.eval s = .slice A n cap) (hg : Blk w g t (msg f m L q)) (hA : Byt w B A b) (hl : b.length = n) (hp : p ≤ 64) (hk : k = min n (64 - p))
    (h : ∀ w', Blk w' g t (msg f m (lay p k b L) q) → Below g w w' → wpList Tryd.prog ops Q rest (a.put dst (.int .i64 k)) w') :
    wpList Tryd.prog ops Q (⟨dst, .call { callee := .builtin .copy, args := #[d, s], argTypes := #[22, 22] }, ty, pos, after, none⟩ :: rest) a w :=
  wpList_plain rfl fun K hK => wp_of_gives (R := fun w' => Blk w' g t (msg f m (lay p k b L) q) ∧ Below g w w') (gives_cpm hd hs hg hA hl hp hk fun w' h1 h2 => ⟨h1, h2⟩) fun w' ⟨h1, h2⟩ => hK _ _ (h w' h1 h2)
/-- The bytes l were taken in. -/
def Fed (s0 : ShaM.S8) (l : List Nat) (w : World) (g : Nat) : Prop :=
  ∃ A L : List Nat, ∃ f : Nat → Nat, l = A ++ L ∧ A.length % 64 = 0 ∧ L.length < 64 ∧ (∀ j, j < L.length → L.getD j 0 = f j) ∧ Blk w g 62 (msg (ShaM.passes s0 A).get (64 + A.length) f L.length)
theorem Fed.blk {s0 : ShaM.S8} {l : List Nat} {w w' : World} {g B : Nat} (h : Fed s0 l w g) (hb : Below B w w') (hg : g < B) : Fed s0 l w' g := by
  obtain ⟨A, L, f, h1, h2, h3, h4, h5⟩ := h
  exact ⟨A, L, f, h1, h2, h3, h4, h5.below hb hg⟩
set_option maxHeartbeats 400000 in
set_option maxRecDepth 100000 in
theorem add_zero (s0 : ShaM.S8) (hs : s0.ok) (A0 : List Nat) (f : Nat → Nat) (g : Nat) (h0 : A0.length % 64 = 0) (A : Option Addr) (b : List Nat) (n cap : Nat) (hl : b.length = n) (hc : n ≤ cap) (hm : cap ≤ maxLen) (hz : 64 + A0.length + n ≤ 1000000000000000) (h256 : B256 b) (w : World)
    (hg : Blk w g 62 (msg (ShaM.passes s0 A0).get (64 + A0.length) f 0)) (hA : Byt w g A b) (hS : Salts w) :
    Calls Tryd.prog 30 #[.pointer (some ⟨g, 0, none⟩), .slice A n cap] w fun e w' => e = .returned (.tuple #[]) ∧ Fed s0 (A0 ++ b) w' g ∧ Below g w w' := by
  obtain ⟨W, hW⟩ : ∃ W, W = n - n % 64 := ⟨_, rfl⟩
  have e5 : (n : Int) - (n : Int) % 64 = (W : Int) := by omega
  have hm' := hm
  unfold maxLen at hm'
  have e5' : IntKind.i64.wrap ((n : Int) - (n : Int) % 64) = (W : Int) := wr_nat e5 (by omega)
  have hWn : W ≤ n := by omega
  have hWc : (W : Int) ≤ (cap : Int) := by omega
  have hWnI : (W : Int) ≤ (n : Int) := by omega
  have c74 := hg.msgN
  have HS := hid hs
  have HA := hid hA
  have HL := hid hl
  have SA := hid hS
  have H256 := hid h256
  have HG := hid hg
  have HW := hid hW
  have H0 := hid h0
  have HM := hid hm
  clear hA hl hS h256 hs hg hW h0 hm
  go_enter Tryd.func30, Tryd.ntmps30
  go_wp2_with fail
  refine (goOver_any (ShaM.passes s0 A0) (ShaM.passes_ok _ (Nat.le_refl _) HS.out) g (64 + A0.length) 0 f A (b.take W) W cap (by rw [List.length_take, HL.out]; omega) (by have := HW.out; omega) (by omega) HM.out (by omega) (H256.out.take W) w HG.out ((HA.out.take W).more (Nat.le_of_lt HG.out.lt)) SA.out).mono ?_
  rintro e w4 ⟨rfl, g4, h4⟩
  have q1 : (b.drop W).length = n - W := by rw [List.length_drop, HL.out]
  have q2 : n - W < 64 := by have := HW.out; omega
  have hA4 := ((HA.out.dropA cap W (by rw [HL.out]; exact hc)).below h4 (Nat.le_refl _))
  have G4 := hid g4
  have H4 := hid h4
  have HA4 := hid hA4
  have Q1 := hid q1
  clear g4 h4 hA4 q1 c74 HG
  go_upto_region 8 with fail
  refine wp_region_put (C := fun bb w' => match bb with | false => Drew w4 w' | true => Blk w' g 62 (msg (ShaM.passes (ShaM.passes s0 A0) (b.take W)).get (64 + A0.length + W) (lay 0 (n - W) (b.drop W) f) 0) ∧ Below g w4 w') 8 11 (by omega) (by kernel_rfl) (by kernel_rfl) (by kernel_rfl) (Drew.refl _) ?_
  simp only [List.take_succ_cons, List.take_zero, List.drop_succ_cons, List.drop_zero]
  apply wpS_val
  · decide
  · rfl
  · intro bb w' hw'
    go_simp
    first | exact rfl | exact ⟨rfl, hw'⟩
  simp only [Act.put, List.setIfInBounds_toArray, List.set_cons_succ, List.set_cons_zero]
  apply wpS_val
  · decide
  · rfl
  · intro bb w' hw'
    go_simp
    first | exact rfl | exact ⟨rfl, hw'⟩
  simp only [Act.put, List.setIfInBounds_toArray, List.set_cons_succ, List.set_cons_zero]
  apply wpS_val
  · decide
  · rfl
  · intro bb w' hw'
    go_simp
    first | exact rfl | exact ⟨rfl, hw'⟩
  simp only [Act.put, List.setIfInBounds_toArray, List.set_cons_succ, List.set_cons_zero]
  apply wpS_val
  · decide
  · rfl
  · intro bb w' hw'
    go_simp
    first | exact rfl | exact ⟨rfl, hw'⟩
  simp only [Act.put, List.setIfInBounds_toArray, List.set_cons_succ, List.set_cons_zero]
  apply wpS_val
  · decide
  · rfl
  · intro bb w' hw'
    go_simp
    first | exact rfl | exact ⟨rfl, hw'⟩
  simp only [Act.put, List.setIfInBounds_toArray, List.set_cons_succ, List.set_cons_zero]
  apply wpS_val
  · decide
  · rfl
  · intro bb w' hw'
    go_simp
    first | exact rfl | exact ⟨rfl, hw'⟩
  simp only [Act.put, List.setIfInBounds_toArray, List.set_cons_succ, List.set_cons_zero]
  apply wpS_val
  · decide
  · rfl
  · intro bb w' hw'
    go_simp
    first | exact rfl | exact ⟨rfl, hw'⟩
  simp only [Act.put, List.setIfInBounds_toArray, List.set_cons_succ, List.set_cons_zero]
  apply wpS_val
  · decide
  · rfl
  · intro bb w' hw'
    go_simp
    first | exact rfl | exact ⟨rfl, hw'⟩
  simp only [Act.put, List.setIfInBounds_toArray, List.set_cons_succ, List.set_cons_zero]
  apply wpS_put
  · rfl
  · rfl
  · intro w' hw'
    exact gives_cpm (p := 0) (k := n - W) rfl rfl (hw'.blk G4.out) (HA4.out.below (hw'.below (Below.refl g w4)) (Nat.le_refl _)) Q1.out (by omega) (by omega) fun w6 h1 h2 => ⟨h1, (hw'.below (Below.refl g w4)).trans h2⟩
  simp only [Act.put, List.setIfInBounds_toArray, List.set_cons_succ, List.set_cons_zero]
  apply wpS_val
  · decide
  · rfl
  · intro bb w' hw'
    go_simp
    first | exact rfl | exact ⟨rfl, hw'⟩
  simp only [Act.put, List.setIfInBounds_toArray, List.set_cons_succ, List.set_cons_zero]
  apply wpS_val
  · decide
  · rfl
  · intro bb w' hw'
    go_simp
    first | exact rfl | exact ⟨rfl, hw'⟩
  simp only [Act.put, List.setIfInBounds_toArray, List.set_cons_succ, List.set_cons_zero]
  refine wpS_nil fun w5 hw5 => ?_
  obtain ⟨g5, h5⟩ := hw5
  have b5 := H4.out.trans h5
  have k74 := g5.msgN
  have k74f := g5.frozen 74
  have G5 := hid g5
  have B5 := hid b5
  clear g5 h5 b5 G4 H4 HA4
  go_wp2_with fail
  all_goals
    go_end0
    refine ⟨rfl, ⟨A0 ++ b.take W, b.drop W, lay 0 (n - W) (b.drop W) f, ?_, ?_, ?_, ?_, ?_⟩, B5.out.setCell (Nat.le_refl _) _⟩
    · rw [List.append_assoc, List.take_append_drop]
    · rw [List.length_append, List.length_take, HL.out]; have := HW.out; have := H0.out; omega
    · rw [Q1.out]; exact q2
    · intro j hj
      rw [Q1.out] at hj
      rw [lay_in (by omega), Nat.sub_zero]
    · have h := G5.out.msgSetN (n - W)
      rw [List.length_append, List.length_take, HL.out, show min W n = W by omega, Q1.out, ShaM.passes_append (A0.length / 64) (by have := H0.out; omega), ← Nat.add_assoc]
      exact h
set_option maxHeartbeats 400000 in
set_option maxRecDepth 100000 in
/-- What does not fill the block that waits. -/
theorem add_short (s0 : ShaM.S8) (A0 L0 : List Nat) (f : Nat → Nat) (g q : Nat) (hq0 : 0 < q) (hL : L0.length = q) (h0 : A0.length % 64 = 0) (he : ∀ j, j < q → L0.getD j 0 = f j) (A : Option Addr) (b : List Nat) (n cap : Nat) (hl : b.length = n) (hqn : q + n < 64) (hc : n ≤ cap) (hm : cap ≤ maxLen) (w : World)
    (hg : Blk w g 62 (msg (ShaM.passes s0 A0).get (64 + A0.length) f q)) (hA : Byt w g A b) :
    Calls Tryd.prog 30 #[.pointer (some ⟨g, 0, none⟩), .slice A n cap] w fun e w' => e = .returned (.tuple #[]) ∧ Fed s0 ((A0 ++ L0) ++ b) w' g ∧ Below g w w' := by
  have t0 : decide ((0 : Int) < (q : Int)) = true := by simp; omega
  have t1 : (q : Int) < 64 := by omega
  have t2 : (q : Int) ≤ 64 := by omega
  have c74 := hg.msgN
  have HA := hid hA
  have HL := hid hl
  have HG := hid hg
  have H0 := hid h0
  have HM := hid hm
  have HE := hid he
  have HLL := hid hL
  clear hA hl hg h0 hm he hL
  go_enter Tryd.func30, Tryd.ntmps30
  go_upto_region 1 with fail
  refine wp_region_tail (C := Drew w) 9 (by kernel_rfl) (by kernel_rfl) (by kernel_rfl) (Drew.refl _) ?_
  simp only [List.take_succ_cons, List.take_zero, List.drop_succ_cons, List.drop_zero]
  apply wpK_val
  · rfl
  · intro w' hw'
    go_simp
    first | exact rfl | exact ⟨rfl, hw'⟩
  simp only [Act.put, List.setIfInBounds_toArray, List.set_cons_succ, List.set_cons_zero]
  apply wpK_val
  · rfl
  · intro w' hw'
    go_simp
    first | exact rfl | exact ⟨rfl, hw'⟩
  simp only [Act.put, List.setIfInBounds_toArray, List.set_cons_succ, List.set_cons_zero]
  apply wpK_val
  · rfl
  · intro w' hw'
    go_simp
    first | exact rfl | exact ⟨rfl, hw'⟩
  simp only [Act.put, List.setIfInBounds_toArray, List.set_cons_succ, List.set_cons_zero]
  apply wpK_val
  · rfl
  · intro w' hw'
    go_simp
    first | exact rfl | exact ⟨rfl, hw'⟩
  simp only [Act.put, List.setIfInBounds_toArray, List.set_cons_succ, List.set_cons_zero]
  apply wpK_val
  · rfl
  · intro w' hw'
    go_simp
    first | exact rfl | exact ⟨rfl, hw'⟩
  simp only [Act.put, List.setIfInBounds_toArray, List.set_cons_succ, List.set_cons_zero]
  apply wpK_val
  · rfl
  · intro w' hw'
    go_simp
    first | exact rfl | exact ⟨rfl, hw'⟩
  simp only [Act.put, List.setIfInBounds_toArray, List.set_cons_succ, List.set_cons_zero]
  apply wpK_val
  · rfl
  · intro w' hw'
    have hcell := (hw'.blk HG.out).msgN
    go_simp
    first | exact rfl | exact ⟨rfl, hw'⟩
  simp only [Act.put, List.setIfInBounds_toArray, List.set_cons_succ, List.set_cons_zero]
  apply wpK_val
  · rfl
  · intro w' hw'
    go_simp
    first | exact rfl | exact ⟨rfl, hw'⟩
  simp only [Act.put, List.setIfInBounds_toArray, List.set_cons_succ, List.set_cons_zero]
  apply wpK_val
  · rfl
  · intro w' hw'
    go_simp
    first | exact rfl | exact ⟨rfl, hw'⟩
  simp only [Act.put, List.setIfInBounds_toArray, List.set_cons_succ, List.set_cons_zero]
  refine wpK_nil fun w5 hw5 => ?_
  have g5 := hw5.blk HG.out
  have a5 := HA.out.below (hw5.below (Below.refl g w)) (Nat.le_refl _)
  have B5 := hid (hw5.below (Below.refl g w))
  clear hw5 c74
  rw [if_neg (show ¬ 64 = q by omega)]
  go_upto_region 2 with ((with_reducible apply cpm (p := q) (k := n)); rfl; rfl; exact g5; exact a5; exact HL.out; omega; omega; intro w6 g6 h6)
  have k74 := g6.msgN
  have k74f := g6.frozen 74
  have G6 := hid g6
  have B6 := hid (B5.out.trans h6)
  clear g6 h6 g5 a5 B5
  go_upto_region 3 with fail
  generalize hw7 : World.setCell _ _ _ = w7
  have g7 : Blk w7 g 62 (msg (ShaM.passes s0 A0).get (64 + A0.length) (lay q n b f) (q + n)) := by
    rw [← hw7]
    have h := G6.out.msgSetN (q + n)
    rw [Int.natCast_add] at h
    exact h
  have b7 : Below g w w7 := by rw [← hw7]; exact B6.out.setCell (Nat.le_refl _) _
  clear hw7 G6 B6 k74 k74f
  have k7 := g7.msgN
  have t3 : ((q + n : Nat) : Int) < 64 := by omega
  have G7 := hid g7
  clear g7
  go_wp2_with fail
  refine bodyPost_ret (results_none rfl _ _ _) rfl ?_
  refine ⟨rfl, ⟨A0, L0 ++ b, lay q n b f, by rw [List.append_assoc], H0.out, ?_, ?_, ?_⟩, b7⟩
  · rw [List.length_append, HLL.out, HL.out]; omega
  · intro j hj
    rw [List.length_append, HLL.out, HL.out] at hj
    rw [List.getD_eq_getElem?_getD]
    by_cases hjq : j < q
    · rw [List.getElem?_append_left (by rw [HLL.out]; exact hjq), lay_out (by omega), ← List.getD_eq_getElem?_getD]
      exact HE.out j hjq
    · rw [List.getElem?_append_right (by rw [HLL.out]; omega), HLL.out, lay_in (by omega), List.getD_eq_getElem?_getD]
  · rw [List.length_append, HLL.out, HL.out]
    exact G7.out
set_option maxHeartbeats 400000 in
set_option maxRecDepth 100000 in
/-- What fills the block that waits. -/
theorem add_fill (s0 : ShaM.S8) (hs : s0.ok) (A0 L0 : List Nat) (f : Nat → Nat) (g q : Nat) (hq0 : 0 < q) (hq64 : q < 64) (hL : L0.length = q) (h0 : A0.length % 64 = 0) (he : ∀ j, j < q → L0.getD j 0 = f j) (hL256 : B256 L0) (A : Option Addr) (b : List Nat) (n cap : Nat) (hl : b.length = n) (hqn : 64 ≤ q + n) (hc : n ≤ cap) (hm : cap ≤ maxLen)
    (hz : 64 + A0.length + q + n ≤ 1000000000000000) (h256 : B256 b) (w : World)
    (hg0 : 0 < g) (hg : Blk w g 62 (msg (ShaM.passes s0 A0).get (64 + A0.length) f q)) (hA : Byt w g A b) (hS : Salts w) :
    Calls Tryd.prog 30 #[.pointer (some ⟨g, 0, none⟩), .slice A n cap] w fun e w' => e = .returned (.tuple #[]) ∧ Fed s0 ((A0 ++ L0) ++ b) w' g ∧ Below g w w' := by
  have t0 : decide ((0 : Int) < (q : Int)) = true := by simp; omega
  have t1 : (q : Int) < 64 := by omega
  have t2 : (q : Int) ≤ 64 := by omega
  obtain ⟨k, hk⟩ : ∃ k, k = 64 - q := ⟨_, rfl⟩
  have hkn : k ≤ n := by omega
  have hkc : (k : Int) ≤ (cap : Int) := by omega
  have hkn' : (k : Int) ≤ (n : Int) := by omega
  obtain ⟨n1, hn1⟩ : ∃ n1, n1 = n - k := ⟨_, rfl⟩
  obtain ⟨c1, hc1⟩ : ∃ c1, c1 = cap - k := ⟨_, rfl⟩
  have c74 := hg.msgN
  have HS := hid hs
  have HA := hid hA
  have HL := hid hl
  have HG := hid hg
  have H0 := hid h0
  have HM := hid hm
  have HE := hid he
  have HLL := hid hL
  have HK := hid hk
  have HN1 := hid hn1
  have HC1 := hid hc1
  have SA := hid hS
  have H256 := hid h256
  have HL256 := hid hL256
  clear hA hl hg h0 hm he hL hk hS h256 hs hL256 hn1 hc1
  go_enter Tryd.func30, Tryd.ntmps30
  go_upto_region 1 with fail
  refine wp_region_tail (C := Drew w) 9 (by kernel_rfl) (by kernel_rfl) (by kernel_rfl) (Drew.refl _) ?_
  simp only [List.take_succ_cons, List.take_zero, List.drop_succ_cons, List.drop_zero]
  apply wpK_val
  · rfl
  · intro w' hw'
    go_simp
    first | exact rfl | exact ⟨rfl, hw'⟩
  simp only [Act.put, List.setIfInBounds_toArray, List.set_cons_succ, List.set_cons_zero]
  apply wpK_val
  · rfl
  · intro w' hw'
    go_simp
    first | exact rfl | exact ⟨rfl, hw'⟩
  simp only [Act.put, List.setIfInBounds_toArray, List.set_cons_succ, List.set_cons_zero]
  apply wpK_val
  · rfl
  · intro w' hw'
    go_simp
    first | exact rfl | exact ⟨rfl, hw'⟩
  simp only [Act.put, List.setIfInBounds_toArray, List.set_cons_succ, List.set_cons_zero]
  apply wpK_val
  · rfl
  · intro w' hw'
    go_simp
    first | exact rfl | exact ⟨rfl, hw'⟩
  simp only [Act.put, List.setIfInBounds_toArray, List.set_cons_succ, List.set_cons_zero]
  apply wpK_val
  · rfl
  · intro w' hw'
    go_simp
    first | exact rfl | exact ⟨rfl, hw'⟩
  simp only [Act.put, List.setIfInBounds_toArray, List.set_cons_succ, List.set_cons_zero]
  apply wpK_val
  · rfl
  · intro w' hw'
    go_simp
    first | exact rfl | exact ⟨rfl, hw'⟩
  simp only [Act.put, List.setIfInBounds_toArray, List.set_cons_succ, List.set_cons_zero]
  apply wpK_val
  · rfl
  · intro w' hw'
    have hcell := (hw'.blk HG.out).msgN
    go_simp
    first | exact rfl | exact ⟨rfl, hw'⟩
  simp only [Act.put, List.setIfInBounds_toArray, List.set_cons_succ, List.set_cons_zero]
  apply wpK_val
  · rfl
  · intro w' hw'
    go_simp
    first | exact rfl | exact ⟨rfl, hw'⟩
  simp only [Act.put, List.setIfInBounds_toArray, List.set_cons_succ, List.set_cons_zero]
  apply wpK_val
  · rfl
  · intro w' hw'
    go_simp
    first | exact rfl | exact ⟨rfl, hw'⟩
  simp only [Act.put, List.setIfInBounds_toArray, List.set_cons_succ, List.set_cons_zero]
  refine wpK_nil fun w5 hw5 => ?_
  have g5 := hw5.blk HG.out
  have a5 := HA.out.below (hw5.below (Below.refl g w)) (Nat.le_refl _)
  have B5 := hid (hw5.below (Below.refl g w))
  clear hw5 c74
  rw [if_neg (show ¬ 64 = q by omega)]
  go_upto_region 2 with ((with_reducible apply cpm (p := q) (k := k)); rfl; rfl; exact g5; exact a5; exact HL.out; omega; (have := HK.out; omega); intro w6 g6 h6)
  have k74 := g6.msgN
  have k74f := g6.frozen 74
  have G6 := hid g6
  have B6 := hid (B5.out.trans h6)
  clear g6 h6 g5 a5 B5
  have tk : (q : Int) + (k : Int) = 64 := by have := HK.out; omega
  go_upto_region 3 with fail
  generalize hw7 : World.setCell _ _ _ = w7
  have g7 : Blk w7 g 62 (msg (ShaM.passes s0 A0).get (64 + A0.length) (lay q k b f) 64) := by
    rw [← hw7]
    exact G6.out.msgSetN 64
  have b7 : Below g w w7 := by rw [← hw7]; exact B6.out.setCell (Nat.le_refl _) _
  clear hw7 G6 B6 k74 k74f tk
  have k7 := g7.msgN
  have G7 := hid g7
  have B7 := hid b7
  clear g7 b7
  have hf : (L0 ++ b.take k).length = 64 := by rw [List.length_append, List.length_take, HLL.out, HL.out]; have := HK.out; omega
  have hby : Byt w7 w7.heap.size (some ⟨g, 10, none⟩) (L0 ++ b.take k) := G7.out.msgByt G7.out.lt (by omega) fun j hj => by
    rw [List.getD_eq_getElem?_getD]
    by_cases hjq : j < q
    · rw [List.getElem?_append_left (by rw [HLL.out]; exact hjq), lay_out (by omega), ← List.getD_eq_getElem?_getD]
      exact HE.out j hjq
    · rw [List.getElem?_append_right (by rw [HLL.out]; omega), HLL.out, lay_in (by have := HK.out; omega), ← List.getD_eq_getElem?_getD, getD_take (by have := HK.out; omega)]
  have HF := hid hf
  have BY := hid hby
  clear hf hby
  go_wp2_with fail
  refine (goOver_any (ShaM.passes s0 A0) (ShaM.passes_ok _ (Nat.le_refl _) HS.out) g (64 + A0.length) 64 (lay q k b f) _ (L0 ++ b.take k) 64 64 HF.out rfl (Nat.le_refl _) (by unfold maxLen; omega) (by omega) (HL256.out.append (H256.out.take k)) w7 G7.out BY.out (SA.out.below B7.out hg0)).mono ?_
  rintro e w8 ⟨rfl, g8, h8⟩
  obtain ⟨b1, hb1⟩ : ∃ b1, b1 = b.drop k := ⟨_, rfl⟩
  have hl1 : b1.length = n1 := by rw [hb1, List.length_drop, HL.out, HN1.out]
  have h1256 : B256 b1 := by rw [hb1]; exact H256.out.drop k
  have bel8 := B7.out.trans h8
  have hA8 := ((HA.out.dropA cap k (by rw [HL.out]; exact hc)).below bel8 (Nat.le_refl _))
  rw [← hb1] at hA8
  have HB1 := hid hb1
  have hn1n : n1 ≤ n := by rw [HN1.out]; omega
  have hn1c : n1 ≤ c1 := by rw [HN1.out, HC1.out]; omega
  have hc1m : c1 ≤ maxLen := by rw [HC1.out]; have := HM.out; omega
  have hnk : n1 + k = n := by rw [HN1.out]; omega
  obtain ⟨A1', hA1'⟩ : ∃ l : List Nat, l = A0 ++ (L0 ++ b.take k) := ⟨_, rfl⟩
  have hA1l : A1'.length = A0.length + 64 := by rw [hA1', List.length_append, HF.out]
  have g8' : Blk w8 g 62 (msg (ShaM.passes s0 A1').get (64 + A1'.length) (lay q k b f) 64) := by
    rw [hA1l, hA1', ShaM.passes_append (A0.length / 64) (by have := H0.out; omega), ← Nat.add_assoc]
    exact g8
  clear hb1 g8 h8
  go_upto_region 6 with fail
  rw [← HN1.out, ← HC1.out]
  generalize (if cap = k then A else Option.map (fun x => Addr.add x k) A) = A1 at hA8 ⊢
  obtain ⟨W, hW⟩ : ∃ W, W = n1 - n1 % 64 := ⟨_, rfl⟩
  have e5 : (n1 : Int) - (n1 : Int) % 64 = (W : Int) := by omega
  have hm' := hc1m
  unfold maxLen at hm'
  have e5' : IntKind.i64.wrap ((n1 : Int) - (n1 : Int) % 64) = (W : Int) := wr_nat e5 (by omega)
  have hWn : W ≤ n1 := by omega
  have hWc : (W : Int) ≤ (c1 : Int) := by omega
  have hWnI : (W : Int) ≤ (n1 : Int) := by omega
  have G8 := hid g8'
  have B8 := hid bel8
  have HA8 := hid hA8
  have HL1 := hid hl1
  have H1256 := hid h1256
  have HW := hid hW
  have HA1L := hid hA1l
  have HA1E := hid hA1'
  have HNK := hid hnk
  have HC1M := hid hc1m
  clear g8' bel8 hA8 hl1 h1256 hW hA1l hA1' k7 hnk hc1m G7 B7 BY
  go_wp2_with fail
  refine (goOver_any (ShaM.passes s0 A1') (ShaM.passes_ok _ (Nat.le_refl _) HS.out) g (64 + A1'.length) 64 (lay q k b f) A1 (b1.take W) W c1 (by rw [List.length_take, HL1.out]; omega) (by have := HW.out; omega) (by omega) HC1M.out (by rw [HA1L.out]; have := HNK.out; have := HK.out; omega) (H1256.out.take W) w8 G8.out ((HA8.out.take W).more (Nat.le_of_lt G8.out.lt)) (SA.out.below B8.out hg0)).mono ?_
  rintro e w4 ⟨rfl, g4, h4⟩
  have q1 : (b1.drop W).length = n1 - W := by rw [List.length_drop, HL1.out]
  have q2 : n1 - W < 64 := by have := HW.out; omega
  have hA4 := ((HA8.out.dropA c1 W (by rw [HL1.out]; exact hn1c)).below h4 (Nat.le_refl _))
  have G4 := hid g4
  have H4 := hid (B8.out.trans h4)
  have HA4 := hid hA4
  have Q1 := hid q1
  clear g4 h4 hA4 q1 G8 B8
  go_upto_region 8 with fail
  refine wp_region_put (C := fun bb w' => match bb with | false => Drew w4 w' | true => Blk w' g 62 (msg (ShaM.passes (ShaM.passes s0 A1') (b1.take W)).get (64 + A1'.length + W) (lay 0 (n1 - W) (b1.drop W) (lay q k b f)) 64) ∧ Below g w4 w') 8 11 (by omega) (by kernel_rfl) (by kernel_rfl) (by kernel_rfl) (Drew.refl _) ?_
  simp only [List.take_succ_cons, List.take_zero, List.drop_succ_cons, List.drop_zero]
  apply wpS_val
  · decide
  · rfl
  · intro bb w' hw'
    go_simp
    first | exact rfl | exact ⟨rfl, hw'⟩
  simp only [Act.put, List.setIfInBounds_toArray, List.set_cons_succ, List.set_cons_zero]
  apply wpS_val
  · decide
  · rfl
  · intro bb w' hw'
    go_simp
    first | exact rfl | exact ⟨rfl, hw'⟩
  simp only [Act.put, List.setIfInBounds_toArray, List.set_cons_succ, List.set_cons_zero]
  apply wpS_val
  · decide
  · rfl
  · intro bb w' hw'
    go_simp
    first | exact rfl | exact ⟨rfl, hw'⟩
  simp only [Act.put, List.setIfInBounds_toArray, List.set_cons_succ, List.set_cons_zero]
  apply wpS_val
  · decide
  · rfl
  · intro bb w' hw'
    go_simp
    first | exact rfl | exact ⟨rfl, hw'⟩
  simp only [Act.put, List.setIfInBounds_toArray, List.set_cons_succ, List.set_cons_zero]
  apply wpS_val
  · decide
  · rfl
  · intro bb w' hw'
    go_simp
    first | exact rfl | exact ⟨rfl, hw'⟩
  simp only [Act.put, List.setIfInBounds_toArray, List.set_cons_succ, List.set_cons_zero]
  apply wpS_val
  · decide
  · rfl
  · intro bb w' hw'
    go_simp
    first | exact rfl | exact ⟨rfl, hw'⟩
  simp only [Act.put, List.setIfInBounds_toArray, List.set_cons_succ, List.set_cons_zero]
  apply wpS_val
  · decide
  · rfl
  · intro bb w' hw'
    go_simp
    first | exact rfl | exact ⟨rfl, hw'⟩
  simp only [Act.put, List.setIfInBounds_toArray, List.set_cons_succ, List.set_cons_zero]
  apply wpS_val
  · decide
  · rfl
  · intro bb w' hw'
    go_simp
    first | exact rfl | exact ⟨rfl, hw'⟩
  simp only [Act.put, List.setIfInBounds_toArray, List.set_cons_succ, List.set_cons_zero]
  apply wpS_put
  · rfl
  · rfl
  · intro w' hw'
    exact gives_cpm (p := 0) (k := n1 - W) rfl rfl (hw'.blk G4.out) (HA4.out.below (hw'.below (Below.refl g w4)) (Nat.le_refl _)) Q1.out (by omega) (by omega) fun w6 h1 h2 => ⟨h1, (hw'.below (Below.refl g w4)).trans h2⟩
  simp only [Act.put, List.setIfInBounds_toArray, List.set_cons_succ, List.set_cons_zero]
  apply wpS_val
  · decide
  · rfl
  · intro bb w' hw'
    go_simp
    first | exact rfl | exact ⟨rfl, hw'⟩
  simp only [Act.put, List.setIfInBounds_toArray, List.set_cons_succ, List.set_cons_zero]
  apply wpS_val
  · decide
  · rfl
  · intro bb w' hw'
    go_simp
    first | exact rfl | exact ⟨rfl, hw'⟩
  simp only [Act.put, List.setIfInBounds_toArray, List.set_cons_succ, List.set_cons_zero]
  refine wpS_nil fun w5 hw5 => ?_
  obtain ⟨g5, h5⟩ := hw5
  have b5 := H4.out.trans h5
  have k74 := g5.msgN
  have k74f := g5.frozen 74
  have G5 := hid g5
  have B5 := hid b5
  clear g5 h5 b5 G4 H4 HA4
  go_wp2_with fail
  all_goals
    go_end0
    refine ⟨rfl, ⟨A1' ++ b1.take W, b1.drop W, lay 0 (n1 - W) (b1.drop W) (lay q k b f), ?_, ?_, ?_, ?_, ?_⟩, B5.out.setCell (Nat.le_refl _) _⟩
    · rw [HA1E.out, HB1.out, List.append_assoc, List.take_append_drop, List.append_assoc, List.append_assoc, List.take_append_drop]
    · rw [List.length_append, List.length_take, HL1.out, HA1L.out]; have := HW.out; have := H0.out; omega
    · rw [Q1.out]; exact q2
    · intro j hj
      rw [Q1.out] at hj
      rw [lay_in (by omega), Nat.sub_zero]
    · have h := G5.out.msgSetN (n1 - W)
      rw [List.length_append, List.length_take, HL1.out, show min W n1 = W by omega, Q1.out, ShaM.passes_append (A1'.length / 64) (by have := HA1L.out; have := H0.out; omega), ← Nat.add_assoc]
      exact h
theorem add_any (s0 : ShaM.S8) (hs : s0.ok) (l0 : List Nat) (h0256 : B256 l0) (g : Nat) (A : Option Addr) (b : List Nat) (n cap : Nat) (hl : b.length = n) (hc : n ≤ cap) (hm : cap ≤ maxLen) (hz : 64 + l0.length + n ≤ 1000000000000000) (h256 : B256 b) (w : World)
    (hg0 : 0 < g) (hg : Fed s0 l0 w g) (hA : Byt w g A b) (hS : Salts w) :
    Calls Tryd.prog 30 #[.pointer (some ⟨g, 0, none⟩), .slice A n cap] w fun e w' => e = .returned (.tuple #[]) ∧ Fed s0 (l0 ++ b) w' g ∧ Below g w w' := by
  obtain ⟨A0, L0, f, rfl, h1, h2, h3, h4⟩ := hg
  rw [List.length_append] at hz
  rcases Nat.eq_zero_or_pos L0.length with h5 | h5
  · obtain rfl := List.eq_nil_of_length_eq_zero h5
    rw [List.append_nil]
    exact add_zero s0 hs A0 f g h1 A b n cap hl hc hm (by omega) h256 w h4 hA hS
  · rcases Nat.lt_or_ge (L0.length + n) 64 with h6 | h6
    · exact add_short s0 A0 L0 f g _ h5 rfl h1 h3 A b n cap hl h6 hc hm w h4 hA
    · exact add_fill s0 hs A0 L0 f g _ h5 h2 rfl h1 h3 (fun x hx => h0256 x (List.mem_append.2 (.inr hx))) A b n cap hl h6 hc hm (by omega) h256 w hg0 h4 hA hS
end Go.Proofs.YtnnhnlabkbjacaaDoor
namespace Go.Proofs.YtnnhnlabkbjacaaDoor
open Go.ChangeShapes Go.WideShapes Go.ChangeAt Go.RowKit
attribute [local go_sem] Gives
/-- A slice of slices of bytes. -/
def Prts (w : World) (B : Nat) (A : Option Addr) (ls : List (List Nat)) : Prop :=
  0 < ls.length → ∃ b o, A = some ⟨b, o, none⟩ ∧ b < B ∧ ∀ i, i < ls.length → ∃ A' c, w.cell? ⟨b, o + i, none⟩ = some (.slice A' (ls.getD i []).length c) ∧ (ls.getD i []).length ≤ c ∧ c ≤ maxLen ∧ Byt w B A' (ls.getD i [])
theorem Prts.below {B B' : Nat} {w w' : World} {A : Option Addr} {ls : List (List Nat)} (h : Prts w B A ls) (hb : Below B' w w') (hB : B ≤ B') : Prts w' B A ls := fun hn => by
  obtain ⟨b, o, rfl, hl, hr⟩ := h hn
  refine ⟨b, o, rfl, hl, fun i hi => ?_⟩
  obtain ⟨A', c, h1, h2, h3, h4⟩ := hr i hi
  exact ⟨A', c, (hb.cell (p := ⟨b, o + i, none⟩) (by show b < B'; omega)).trans h1, h2, h3, h4.below hb hB⟩
theorem Prts.more {B B' : Nat} {w : World} {A : Option Addr} {ls : List (List Nat)} (h : Prts w B A ls) (hB : B ≤ B') : Prts w B' A ls := fun hn => by
  obtain ⟨b, o, rfl, hl, hr⟩ := h hn
  refine ⟨b, o, rfl, by omega, fun i hi => ?_⟩
  obtain ⟨A', c, h1, h2, h3, h4⟩ := hr i hi
  exact ⟨A', c, h1, h2, h3, h4.more hB⟩
/-- All parts, one behind the other. -/
def flat (ls : List (List Nat)) : List Nat := ls.flatten
theorem flat_step {ls : List (List Nat)} {i : Nat} (h : i < ls.length) : flat (ls.take (i + 1)) = flat (ls.take i) ++ ls.getD i [] := by
  unfold flat
  rw [List.take_succ_eq_append_getElem h, List.flatten_append, List.flatten_singleton, List.getD_eq_getElem?_getD, List.getElem?_eq_getElem h]; rfl
theorem flat_256 {ls : List (List Nat)} (h : ∀ l ∈ ls, B256 l) : B256 (flat ls) := fun x hx => by
  obtain ⟨l, hl, hx⟩ := List.mem_flatten.1 hx
  exact h l hl x hx
theorem flat_take_le (ls : List (List Nat)) (i : Nat) : (flat (ls.take i)).length ≤ (flat ls).length := by
  conv => rhs; rw [← List.take_append_drop i ls]
  unfold flat
  rw [List.flatten_append, List.length_append]; omega
theorem part_256 {ls : List (List Nat)} (h : ∀ l ∈ ls, B256 l) (i : Nat) : B256 (ls.getD i []) := by
  rw [List.getD_eq_getElem?_getD]
  cases e : ls[i]? with
  | none => exact fun x hx => by cases hx
  | some l => exact h l (List.mem_of_getElem? e)
/-- The tag of parts under keys' prefixes. -/
def tagOf (s54 s92 : ShaM.S8) (l : List Nat) : Nat → Nat := ShaM.digest (ShaM.ended s92 64 (HmM.dl (ShaM.digest (ShaM.ended s54 64 l))))
theorem zlit_msg (f : Nat → Nat) : msg f 64 (fun _ => 0) 0 = msg f 64 (fun _ => 0) 0 := rfl
theorem alloc_tag (w : World) : (Instr.alloc 43 true (.tuple #[])).run Tryd.prog w = .ok (.pointer (some ⟨w.heap.size, 0, none⟩)) (w.alloc (.cells (tag fun _ => 0) 43)) := by
  have hz := (zero_of_info (P := Tryd.prog) (t := 43) (v := .agg (tag fun _ => 0)) (n := 32) (by kernel_rfl)).1
  simp [Instr.alloc, Sem.run_bind, hz w, newVar, newRow, Value.cells]
theorem zero_msg (w : World) : (zeroValue 62).run Tryd.prog w = .ok (.agg (row 75 fun j => if j < 10 then preC (fun _ => 0) 0 false j else if j < 74 then .int .u8 0 else .int .i64 0)) w :=
  (zero_of_info (P := Tryd.prog) (t := 62) (v := .agg (row 75 fun j => if j < 10 then preC (fun _ => 0) 0 false j else if j < 74 then .int .u8 0 else .int .i64 0)) (n := 75) (by kernel_rfl)).1 w
section
variable {ops : Array Oper} {a : Act} {rest : List Oper} {dst : Option Tmp} {ty : TypeId} {pos : String} {after : Array Edge} {x : Operand} {g o m : Nat} {f : Nat → Nat} {b : Bool} {C : World → Prop} {Qk : Act → Prop} {gd : Option (Nat × Bool)}
theorem blpm (hwt : Region.wanted ⟨dst, .load 54 x, ty, pos, after, gd⟩ (yielded ops a.tmps) = true) (hx : a.eval x = .pointer (some ⟨g, o, none⟩)) (hb : ∀ w, C w → w.rangeAt g o (pre f m b).toList) (h : wpB Tryd.prog ops C Qk rest (a.put dst (.agg (pre f m b)))) :
    wpB Tryd.prog ops C Qk (⟨dst, .load 54 x, ty, pos, after, gd⟩ :: rest) a :=
  wpB_val hwt (fun w hw => gives_value (w' := w) (by
    have := run_loadAt_mid (P := Tryd.prog) w g o 54 (pre f m b).toList _ (hb w hw) Tryd.underlying54 rfl (info_pre.trans (by rw [Array.length_toList, size_pre]))
    rw [Array.toArray_toList] at this
    simp only [execOp, hx, Sem.run_bind, this, Result.andThen_ok, Sem.run_pure]) ⟨hw, Below.refl _ _⟩) h
theorem klpm (hwt : Region.wanted ⟨dst, .load 54 x, ty, pos, after, gd⟩ (yielded ops a.tmps) = true) (hx : a.eval x = .pointer (some ⟨g, o, none⟩)) (hb : ∀ w, C w → w.rangeAt g o (pre f m b).toList) (h : wpK Tryd.prog ops C Qk rest (a.put dst (.agg (pre f m b)))) :
    wpK Tryd.prog ops C Qk (⟨dst, .load 54 x, ty, pos, after, gd⟩ :: rest) a :=
  wpK_val hwt (fun w hw => gives_value (w' := w) (by
    have := run_loadAt_mid (P := Tryd.prog) w g o 54 (pre f m b).toList _ (hb w hw) Tryd.underlying54 rfl (info_pre.trans (by rw [Array.length_toList, size_pre]))
    rw [Array.toArray_toList] at this
    simp only [execOp, hx, Sem.run_bind, this, Result.andThen_ok, Sem.run_pure]) hw) h
end
set_option maxHeartbeats 400000 in
set_option maxRecDepth 100000 in
theorem tag_any (s54 s92 : ShaM.S8) (h54 : s54.ok) (h92 : s92.ok) (A : Option Addr) (ls : List (List Nat)) (n cap : Nat) (hl : ls.length = n) (hn : n ≤ 1000000) (hls : ∀ l ∈ ls, B256 l) (hz : 64 + (flat ls).length ≤ 1000000000000000) (w : World) (hA : Prts w w.heap.size A ls) (hS : Salts w) :
    Calls Tryd.prog 25 #[.agg (kyd s54.get s92.get), .slice A n cap] w fun e w' => e = .returned (.agg (tag (tagOf s54 s92 (flat ls)))) ∧ Below w.heap.size w w' := by
  have HA := hid hA
  have HL := hid hl
  have SA := hid hS
  have H54 := hid h54
  have H92 := hid h92
  have HLS := hid hls
  clear hA hl hS h54 h92 hls
  have hZ := zero_msg
  go_enter Tryd.func25, Tryd.ntmps25
  go_upto_region 1 with fail
  generalize hw3 : World.alloc (World.alloc w _) _ = w3
  have b1 : Blk w3 w.heap.size 56 (kyd s54.get s92.get) := by rw [← hw3]; exact (Blk.top rfl rfl).alloc _
  have b2 : Blk w3 (w.heap.size + 1) 43 (tag fun _ => 0) := by rw [← hw3]; exact Blk.top zlit_tag (by simp)
  have hb : Below w.heap.size w w3 := by rw [← hw3]; exact ((Below.refl _ _).alloc (Nat.le_refl _) _).alloc (by simp) _
  have hz3 : w3.heap.size = w.heap.size + 2 := by rw [← hw3]; simp
  clear hw3
  have r1 := b1.kydA
  have HZ3 := hid hz3
  clear hz3
  go_upto_region 2 with (first | ((with_reducible apply ldpm); rfl; exact r1) | ((with_reducible apply bldm); rfl) | ((with_reducible apply stm); rfl; rfl; exact Blk.top rfl rfl; exact size_row))
  clear hZ r1
  generalize hw4 : World.setRow _ _ _ = w4
  obtain ⟨g, hg⟩ : ∃ g, g = w3.heap.size := ⟨_, rfl⟩
  rw [← hg]
  have c3 : Blk w4 g 62 (msg s54.get 64 (fun _ => 0) 0) := by rw [← hw4, hg]; exact (Blk.top rfl rfl).setRow_same _
  have c1 : Blk w4 w.heap.size 56 (kyd s54.get s92.get) := by rw [← hw4]; exact (b1.alloc _).setRow_other (by have := HZ3.out; omega) _
  have c2 : Blk w4 (w.heap.size + 1) 43 (tag fun _ => 0) := by rw [← hw4]; exact (b2.alloc _).setRow_other (by have := HZ3.out; omega) _
  have cb : Below w.heap.size w w4 := by rw [← hw4]; exact below_setRow (hb.alloc (by have := HZ3.out; omega) _) (by have := HZ3.out; omega) _
  have hgz : g = w.heap.size + 2 := by rw [hg, HZ3.out]
  have fd : Fed s54 (flat (ls.take 0)) w4 g := ⟨[], [], fun _ => 0, rfl, rfl, by simp, fun j hj => absurd hj (by simp), by rw [ShaM.passes_short (by simp)]; exact c3⟩
  have hg1 : w.heap.size + 1 < g := by omega
  have hg0 : 0 < g := by omega
  have hcell : ∀ i, i < n → ∃ A' c, w.cell? ⟨0, 0, none⟩ = w.cell? ⟨0, 0, none⟩ := fun i hi => ⟨A, cap, rfl⟩
  clear hw4 b1 b2 hb hg hgz c3 hcell HZ3 w3
  have C1 := hid c1
  have C2 := hid c2
  have CB := hid cb
  have FD := hid fd
  clear c1 c2 cb fd
  go_wp2_with fail
  go_loopw [14] (fun v wr => ∃ i : Nat, i ≤ n ∧ v = .int .i64 i ∧ Hid (Fed s54 (flat (ls.take i)) wr g) ∧ Hid (Below g w4 wr)) (fun v _ => n - (intOf v).toNat)
  case atStart => exact ⟨0, Nat.zero_le _, rfl, FD, hid (Below.refl _ _)⟩
  case round =>
    obtain ⟨i, hi, rfl, fd, hb4⟩ := hrel
    clear FD
    by_cases hlt : i < n
    · have ti : (i : Int) < (n : Int) := by omega
      have hlsi : i < ls.length := by rw [HL.out]; exact hlt
      have hst := flat_step hlsi
      have h256 := part_256 HLS.out i
      have hle := flat_take_le ls (i + 1)
      rw [hst, List.length_append] at hle
      have bel := CB.out.trans (hb4.out.mono (by omega))
      obtain ⟨b, o, rfl, hB, hr⟩ := (HA.out.below bel (Nat.le_refl _)) (by omega)
      obtain ⟨A', c', q1, q2, q3, q4⟩ := hr i hlsi
      obtain ⟨p, hp⟩ : ∃ p, p = ls.getD i [] := ⟨_, rfl⟩
      rw [← hp] at q1 q2 q4 hst h256 hle
      obtain ⟨pn, hpn⟩ : ∃ pn, pn = p.length := ⟨_, rfl⟩
      rw [← hpn] at q1 q2 hle
      have HPN := hid hpn
      clear hp hpn
      have h0256 : B256 (flat (ls.take i)) := flat_256 fun l hl => HLS.out l (List.mem_of_mem_take hl)
      have Q4 := hid q4
      have HST := hid hst
      have H256 := hid h256
      have H0256 := hid h0256
      have BEL := hid bel
      have Q2 := hid q2
      have Q3 := hid q3
      clear hst h256 h0256 bel hr q4 q2 q3
      go_wp2_with fail
      refine (add_any s54 H54.out (flat (ls.take i)) H0256.out g A' p pn c' HPN.out.symm Q2.out Q3.out (by omega) H256.out wr hg0 fd.out (Q4.out.more (by omega)) (SA.out.on BEL.out)).mono ?_
      rintro e w5 ⟨rfl, f5, b5⟩
      have F5 := hid f5
      have B5 := hid (hb4.out.trans b5)
      clear f5 b5 q1 Q4
      go_wp2_with fail
      go_roundw
      case rel => exact ⟨i + 1, by omega, by go_num, hid (by rw [HST.out]; exact F5.out), B5⟩
      case measure => simp [intOf]; omega
    · obtain rfl : i = n := by omega
      have hfull : ls.take i = ls := by rw [← HL.out, List.take_length]
      rw [hfull] at fd
      obtain ⟨A0, L0, f, h1, h2, h3, h4, g5⟩ := fd.out
      clear fd hfull
      have c1 := C1.out.below hb4.out (by omega)
      have c2 := C2.out.below hb4.out hg1
      have cb := CB.out.trans (hb4.out.mono (by omega))
      clear C1 C2 CB hb4
      have C1 := hid c1
      have C2 := hid c2
      have CB := hid cb
      have G5 := hid g5
      obtain ⟨q, hq⟩ : ∃ q, q = L0.length := ⟨_, rfl⟩
      have hq64 : (q : Int) ≤ 64 := by omega
      have hqn : q ≤ 64 := by omega
      rw [← hq] at G5
      have HQ := hid hq
      have H1 := hid h1
      have H2 := hid h2
      have H4 := hid h4
      have H3 := hid h3
      have hzl : (flat ls).length = A0.length + L0.length := by rw [h1, List.length_append]
      have HZL := hid hzl
      have h0256 : B256 L0 := fun x hx => flat_256 HLS.out x (by rw [h1]; exact List.mem_append.2 (.inr hx))
      have H0256 := hid h0256
      clear c1 c2 cb g5 hq h1 h2 h4 hzl h0256 h3
      go_upto_region 7 with fail
      have hgl := G5.out.lt
      refine wp_region_new1 (C := fun w' => Below wr.heap.size wr w') 7 43 (tag fun _ => 0) 8 rfl (by kernel_rfl) (by kernel_rfl) (by kernel_rfl) alloc_tag (Below.refl _ _).drew (fun w' hw' => hw'.alloc hw'.size _) (fun w' hw' => hw'.size) ?_
      simp only [List.take_succ_cons, List.take_zero, List.drop_succ_cons, List.drop_zero]
      apply wpB_val
      · rfl
      · intro w' hw'
        have hbl := Below.refl w'.heap.size w'
        go_simp
        first | exact rfl | exact ⟨rfl, hbl⟩ | exact ⟨rfl, hw', hbl⟩
      simp only [Act.put, List.setIfInBounds_toArray, List.set_cons_succ, List.set_cons_zero]
      apply blpm
      · rfl
      · rfl
      · exact fun w' hw' => (G5.out.below hw' G5.out.lt).msgA
      simp only [Act.put, List.setIfInBounds_toArray, List.set_cons_succ, List.set_cons_zero]
      apply wpB_val
      · rfl
      · intro w' hw'
        have hbl := Below.refl w'.heap.size w'
        go_simp
        first | exact rfl | exact ⟨rfl, hbl⟩ | exact ⟨rfl, hw', hbl⟩
      simp only [Act.put, List.setIfInBounds_toArray, List.set_cons_succ, List.set_cons_zero]
      apply wpB_val
      · rfl
      · intro w' hw'
        have hbl := Below.refl w'.heap.size w'
        go_simp
        first | exact rfl | exact ⟨rfl, hbl⟩ | exact ⟨rfl, hw', hbl⟩
      simp only [Act.put, List.setIfInBounds_toArray, List.set_cons_succ, List.set_cons_zero]
      apply wpB_val
      · rfl
      · intro w' hw'
        have hbl := Below.refl w'.heap.size w'
        have hcell : _ := (G5.out.below hw' G5.out.lt).msgN
        go_simp
        first | exact rfl | exact ⟨rfl, hbl⟩ | exact ⟨rfl, hw', hbl⟩
      simp only [Act.put, List.setIfInBounds_toArray, List.set_cons_succ, List.set_cons_zero]
      apply wpB_val
      · rfl
      · intro w' hw'
        have hbl := Below.refl w'.heap.size w'
        have ht : _ := hq64
        go_simp
        first | exact rfl | exact ⟨rfl, hbl⟩ | exact ⟨rfl, hw', hbl⟩
      simp only [Act.put, List.setIfInBounds_toArray, List.set_cons_succ, List.set_cons_zero]
      apply wpB_val
      · rfl
      · intro w' hw'
        go_simp
        exact (psum_ok (ShaM.passes s54 A0) (ShaM.passes_ok _ (Nat.le_refl _) H54.out) _ L0 q 64 (64 + A0.length) HQ.out.symm (by have := H2.out; omega) hqn (by unfold maxLen; omega) (by have := HZL.out; have := HQ.out; omega) H0256.out _ (((G5.out.below hw' G5.out.lt).msgByt (Nat.lt_of_lt_of_le hgl hw'.size) (by have := HQ.out; omega) fun j hj => H4.out j hj)) (SA.out.on (CB.out.trans (hw'.mono CB.out.size)))).mono fun e w'' ⟨he, hb''⟩ => ⟨he, hw'.trans (hb''.mono hw'.size), hb''⟩
      simp only [Act.put, List.setIfInBounds_toArray, List.set_cons_succ, List.set_cons_zero]
      refine wpB_nil fun g8 w5 hw5 q8 hg8 => ?_
      have c1 := C1.out.below hw5 C1.out.lt
      have c2 := C2.out.below hw5 C2.out.lt
      have bel := CB.out.trans (hw5.mono CB.out.size)
      have hgl0 : w.heap.size + 1 < wr.heap.size := C2.out.lt
      have et : ShaM.digest (ShaM.ended (ShaM.passes s54 A0) (64 + A0.length) L0) = ShaM.digest (ShaM.ended s54 64 (flat ls)) := by rw [H1.out, ShaM.ended_append (n := A0.length / 64) (by have := H2.out; omega)]
      rw [et]
      clear hw5 C1 C2 CB G5 et
      unfold ptr
      have C1 := hid c1
      have C2 := hid c2
      have CB := hid bel
      clear c1 c2 bel
      go_upto_region 8 with ((with_reducible apply stt); rfl; rfl; exact q8)
      generalize hw6 : World.setRow _ _ _ = w6
      have d8 : Blk w6 g8 43 (tag (ShaM.digest (ShaM.ended s54 64 (flat ls)))) := by rw [← hw6]; exact q8.setRow_same _
      have d1 : Blk w6 w.heap.size 56 (kyd s54.get s92.get) := by rw [← hw6]; exact C1.out.setRow_other (by omega) _
      have d2 : Blk w6 (w.heap.size + 1) 43 (tag fun _ => 0) := by rw [← hw6]; exact C2.out.setRow_other (by omega) _
      have db : Below w.heap.size w w6 := by rw [← hw6]; exact below_setRow CB.out (by omega) _
      clear hw6 q8 C1 C2 CB w5
      have C1 := hid d1
      have C2 := hid d2
      have C8 := hid d8
      have CB := hid db
      clear d1 d2 d8 db
      have hd256 : B256 (HmM.dl (ShaM.digest (ShaM.ended s54 64 (flat ls)))) := HmM.dl_256 fun k => ShaM.digest_lt _ k
      have HD := hid hd256
      clear hd256
      go_wp2_with fail
      refine wp_region_tail (C := fun w' => Below w6.heap.size w6 w') 4 (by kernel_rfl) (by kernel_rfl) (by kernel_rfl) (Below.refl _ _).drew ?_
      simp only [List.take_succ_cons, List.take_zero, List.drop_succ_cons, List.drop_zero]
      apply wpK_val
      · rfl
      · intro w' hw'
        go_simp
        first | exact rfl | exact ⟨rfl, hw'⟩
      simp only [Act.put, List.setIfInBounds_toArray, List.set_cons_succ, List.set_cons_zero]
      apply klpm
      · rfl
      · rfl
      · exact fun w' hw' => (C1.out.below hw' C1.out.lt).kydB
      simp only [Act.put, List.setIfInBounds_toArray, List.set_cons_succ, List.set_cons_zero]
      apply wpK_val
      · rfl
      · intro w' hw'
        go_simp
        first | exact rfl | exact ⟨rfl, hw'⟩
      simp only [Act.put, List.setIfInBounds_toArray, List.set_cons_succ, List.set_cons_zero]
      apply wpK_val
      · rfl
      · intro w' hw'
        go_simp
        exact (psum_ok s92 H92.out _ (HmM.dl (ShaM.digest (ShaM.ended s54 64 (flat ls)))) 32 32 64 (HmM.dl_length _) rfl (Nat.le_refl _) (by unfold maxLen; omega) (by omega) HD.out _ ((Blk.byt (C8.out.below hw' C8.out.lt) (Nat.lt_of_lt_of_le C8.out.lt hw'.size) (by rw [HmM.dl_length]; omega) fun j hj => by rw [HmM.dl_length] at hj; exact HmM.dl_get _ hj)) (SA.out.on (CB.out.trans (hw'.mono CB.out.size)))).mono fun e w'' ⟨he, hb''⟩ => ⟨he, hw'.trans (hb''.mono hw'.size)⟩
      simp only [Act.put, List.setIfInBounds_toArray, List.set_cons_succ, List.set_cons_zero]
      refine wpK_nil fun w7 hw7 => ?_
      have c2 := C2.out.below hw7 C2.out.lt
      have cb := CB.out.trans (hw7.mono CB.out.size)
      clear hw7 C1 C2 C8 CB
      go_wp2_with ((with_reducible apply stt); rfl; rfl; exact c2)
      apply ret_row Tryd.results25
      · exact c2.setRow_same _
      · exact Tryd.underlying43
      · rfl
      · exact (info_tag.trans (by rw [size_tag]))
      · rfl
      · rfl
      exact ⟨rfl, below_setRow cb (by omega) _⟩
/-- P4.1. -/
theorem tagOf_tag {key : List Nat} (l : List Nat) : tagOf (HmM.from' 54 (HmM.blk key)) (HmM.from' 92 (HmM.blk key)) l = HmM.tag key l := by
  unfold tagOf HmM.tag
  rw [HmM.sum_from (HmM.blk_length key), HmM.sum_from (HmM.blk_length key)]
set_option maxHeartbeats 400000 in
set_option maxRecDepth 100000 in
theorem parts_any (K : Option Addr) (key : List Nat) (kn kcap : Nat) (hkl : key.length = kn) (hkc : kn ≤ kcap) (hkm : kcap ≤ maxLen) (hkz : kn ≤ 1000000000000000) (hk256 : B256 key)
    (A : Option Addr) (ls : List (List Nat)) (n cap : Nat) (hl : ls.length = n) (hn : n ≤ 1000000) (hls : ∀ l ∈ ls, B256 l) (hz : 64 + (flat ls).length ≤ 1000000000000000) (w : World) (hK : Byt w w.heap.size K key) (hA : Prts w w.heap.size A ls) (hS : Salts w) :
    Calls Tryd.prog 20 #[.slice K kn kcap, .slice A n cap] w fun e w' => e = .returned (.agg (tag (HmM.tag key (flat ls)))) ∧ Below w.heap.size w w' := by
  have HA := hid hA
  have HK := hid hK
  have HL := hid hl
  have HKL := hid hkl
  have SA := hid hS
  have HLS := hid hls
  have HK2 := hid hk256
  clear hA hl hS hls hK hkl hk256
  go_enter Tryd.func20, Tryd.ntmps20
  go_upto_region 1 with fail
  generalize hw3 : World.alloc w _ = w3
  have b2 : Blk w3 w.heap.size 43 (tag fun _ => 0) := by rw [← hw3]; exact Blk.top zlit_tag rfl
  have hb : Below w.heap.size w w3 := by rw [← hw3]; exact (Below.refl _ _).alloc (Nat.le_refl _) _
  clear hw3
  have B2 := hid b2
  have BEL := hid hb
  clear b2 hb
  go_wp2_with fail
  refine (under_any K key kn kcap HKL.out hkc hkm hkz HK2.out w3 ((HK.out.below BEL.out (Nat.le_refl _)).more BEL.out.size) (SA.out.on BEL.out)).mono ?_
  rintro e w4 ⟨rfl, h4⟩
  have B4 := hid (B2.out.below h4 B2.out.lt)
  have BEL4 := hid (BEL.out.trans (h4.mono BEL.out.size))
  clear h4 B2 BEL w3
  go_wp2_with fail
  refine (tag_any _ _ (HmM.from_ok 54 _) (HmM.from_ok 92 _) A ls n cap HL.out hn HLS.out hz w4 ((HA.out.below BEL4.out (Nat.le_refl _)).more BEL4.out.size) (SA.out.on BEL4.out)).mono ?_
  rintro e w5 ⟨rfl, h5⟩
  rw [tagOf_tag]
  have b2 := B4.out.below h5 B4.out.lt
  have hb := BEL4.out.trans (h5.mono BEL4.out.size)
  clear h5
  go_wp2_with ((with_reducible apply stt); rfl; rfl; exact b2)
  apply ret_row Tryd.results20
  · exact b2.setRow_same _
  · exact Tryd.underlying43
  · rfl
  · exact (info_tag.trans (by rw [size_tag]))
  · rfl
  · rfl
  exact ⟨rfl, below_setRow hb (Nat.le_refl _) _⟩
set_option maxHeartbeats 400000 in
set_option maxRecDepth 100000 in
theorem hof_any (K : Option Addr) (key : List Nat) (kn kcap : Nat) (hkl : key.length = kn) (hkc : kn ≤ kcap) (hkm : kcap ≤ maxLen) (hkz : kn ≤ 1000000000000000) (hk256 : B256 key)
    (A : Option Addr) (l : List Nat) (n cap : Nat) (hl : l.length = n) (hc : n ≤ cap) (hm : cap ≤ maxLen) (hls : B256 l) (hz : 64 + n ≤ 1000000000000000) (w : World) (hK : Byt w w.heap.size K key) (hA : Byt w w.heap.size A l) (hS : Salts w) :
    Calls Tryd.prog 21 #[.slice K kn kcap, .slice A n cap] w fun e w' => e = .returned (.agg (tag (HmM.tag key l))) ∧ Below w.heap.size w w' := by
  have HA := hid hA
  have HK := hid hK
  have HL := hid hl
  have HKL := hid hkl
  have SA := hid hS
  have HLS := hid hls
  have HK2 := hid hk256
  clear hA hl hS hls hK hkl hk256
  go_enter Tryd.func21, Tryd.ntmps21
  go_upto_region 1 with fail
  generalize hw3 : World.alloc w _ = w3
  have b2 : Blk w3 w.heap.size 43 (tag fun _ => 0) := by rw [← hw3]; exact Blk.top zlit_tag rfl
  have hb : Below w.heap.size w w3 := by rw [← hw3]; exact (Below.refl _ _).alloc (Nat.le_refl _) _
  clear hw3
  have B2 := hid b2
  have BEL := hid hb
  clear b2 hb
  go_wp2_with fail
  generalize hw4 : World.alloc w3 _ = w4
  have b2 : Blk w4 w.heap.size 43 (tag fun _ => 0) := by rw [← hw4]; exact B2.out.alloc _
  have hb : Below w.heap.size w w4 := by rw [← hw4]; exact BEL.out.alloc BEL.out.size _
  have hp : Prts w4 w4.heap.size (some ⟨w3.heap.size, 0, none⟩) [l] := fun _ => by
    refine ⟨w3.heap.size, 0, rfl, by rw [← hw4]; simp, fun i hi => ?_⟩
    obtain rfl : i = 0 := by simp at hi; omega
    refine ⟨A, cap, ?_, by rw [show [l].getD 0 [] = l from rfl, HL.out]; exact hc, hm, (HA.out.below hb (Nat.le_refl _)).more hb.size⟩
    rw [show [l].getD 0 [] = l from rfl, HL.out, ← hw4]
    exact (Blk.top rfl rfl).cell 0
  clear hw4 B2 BEL
  have B2 := hid b2
  have BEL := hid hb
  have HP := hid hp
  clear b2 hb hp
  refine (parts_any K key kn kcap HKL.out hkc hkm hkz HK2.out _ [l] 1 1 rfl (by omega) (fun x hx => by rw [List.mem_singleton.1 hx]; exact HLS.out) (by rw [show flat [l] = l by simp [flat], HL.out]; exact hz) w4 ((HK.out.below BEL.out (Nat.le_refl _)).more BEL.out.size) HP.out (SA.out.on BEL.out)).mono ?_
  rintro e w5 ⟨rfl, h5⟩
  rw [show flat [l] = l by simp [flat]]
  have b2 := B2.out.below h5 B2.out.lt
  have hb := BEL.out.trans (h5.mono BEL.out.size)
  clear h5
  go_wp2_with ((with_reducible apply stt); rfl; rfl; exact b2)
  apply ret_row Tryd.results21
  · exact b2.setRow_same _
  · exact Tryd.underlying43
  · rfl
  · exact (info_tag.trans (by rw [size_tag]))
  · rfl
  · rfl
  exact ⟨rfl, below_setRow hb (Nat.le_refl _) _⟩
end Go.Proofs.YtnnhnlabkbjacaaDoor
namespace Go.Proofs.YtnnhnlabkbjacaaDoor
open Go.ChangeShapes Go.WideShapes Go.ChangeAt Go.RowKit
theorem prts_lit {w : World} {B g : Nat} {t : TypeId} {cs : Array Value} {ls : List (List Nat)} (hb : Blk w g t cs) (hg : g < B) (h : ∀ i, i < ls.length → ∃ A' c, cs[i]? = some (.slice A' (ls.getD i []).length c) ∧ (ls.getD i []).length ≤ c ∧ c ≤ maxLen ∧ Byt w B A' (ls.getD i [])) : Prts w B (some ⟨g, 0, none⟩) ls := fun _ =>
  ⟨g, 0, rfl, hg, fun i hi => by
    obtain ⟨A', c, h1, h2, h3, h4⟩ := h i hi
    exact ⟨A', c, by rw [Nat.zero_add, hb.cell i, h1], h2, h3, h4⟩⟩
end Go.Proofs.YtnnhnlabkbjacaaDoor
namespace Go.Proofs.YtnnhnlabkbjacaaDoor
open Go.RowKit
/-- Are the first n alike? -/
def eqN (n : Nat) (f g : Nat → Int) : Bool := (List.range n).all fun k => f k == g k
section
variable {P : Program}
theorem eq_rounds {d e : TypeId} {k' : IntKind} {k : IntKind} {n : Nat} {f g : Nat → Int} (he : P.underlying e = some (.int k')) (w : World) : ∀ (m i : Nat), i + m = n →
    (forIn (m := Sem) (List.range' i m) ((none, ()) : Option Bool × Unit) (fun i _ => do
      let a ← part e (row n fun k' => .int k (f k')) (i * 1)
      let b ← part e (row n fun k' => .int k (g k')) (i * 1)
      let r ← Op.equalIn (d + 1) e a b
      if !r then pure (ForInStep.done (some false, ())) else pure (ForInStep.yield (none, ())))).run P w =
    .ok (if (List.range' i m).all (fun k => f k == g k) then (none, ()) else (some false, ())) w
  | 0, i, _ => by simp
  | m + 1, i, h => by
    have hp : ∀ (h : Nat → Int), (part e (row n fun k' => .int k (h k')) (i * 1)).run P w = .ok (.int k (h i)) w := fun h' => by
      have : (isAgg e).run P w = .ok false w := by unfold isAgg; rw [Sem.run_bind, run_underlying he w]; rfl
      simp [part, Sem.run_bind, this, get_row_lt (show i < n by omega)]
    rw [List.range'_succ, List.forIn_cons]
    simp only [Sem.run_bind, hp, Result.andThen_ok, run_equalIn_int w d e k k' _ _ he, List.all_cons]
    by_cases hfg : f i == g i
    · simp only [hfg, Bool.not_true, Bool.false_eq_true, if_false, Sem.run_pure, Result.andThen_ok, Bool.true_and]
      exact eq_rounds he w m (i + 1) (by omega)
    · simp [hfg, Sem.run_pure, Result.andThen_ok]
theorem run_equalIn_row {d t e : TypeId} {k' : IntKind} {k : IntKind} {n : Nat} {f g : Nat → Int} (ht : P.underlying t = some (.array n e)) (he : P.underlying e = some (.int k')) (hi : (P.info? e).map (·.size) = some 1) (w : World) :
    (Op.equalIn (d + 2) t (.agg (row n fun j => .int k (f j))) (.agg (row n fun j => .int k (g j)))).run P w = .ok (eqN n f g) w := by
  have hs : (sizeOf e).run P w = .ok 1 w := by
    cases hq : P.info? e with
    | none => simp [hq] at hi
    | some i => simp [hq] at hi; simp [sizeOf, typeInfo, hq, hi]
  have key := eq_rounds (P := P) (d := d) (k := k) (f := f) (g := g) (n := n) he w n 0 (by omega)
  unfold Op.equalIn
  simp only [Sem.run_bind, run_underlying ht, Result.andThen_ok, hs]
  rw [Std.Legacy.Range.forIn_eq_forIn_range']
  have hr : List.range' (Std.Legacy.Range.mk 0 n 1 (by decide)).start (Std.Legacy.Range.mk 0 n 1 (by decide)).size (Std.Legacy.Range.mk 0 n 1 (by decide)).step = List.range' 0 n := by
    simp [Std.Legacy.Range.size]
  rw [hr, key]
  simp only [Result.andThen_ok]
  unfold eqN
  rw [List.range_eq_range']
  by_cases h : ((List.range' 0 n).all fun k => f k == g k) = true
  · simp [h]
  · simp [h]
end
/-- Are two sectors alike? -/
def eqS (f g : Nat → Nat) : Bool := eqN 64 (fun k => f k) fun k => g k
theorem eqS_iff {f g : Nat → Nat} : eqS f g = true ↔ ∀ k, k < 64 → f k = g k := by
  unfold eqS eqN
  rw [List.all_eq_true]
  constructor
  · intro h k hk
    have := h k (List.mem_range.2 hk)
    exact Int.ofNat_inj.1 (beq_iff_eq.1 this)
  · intro h k hk
    have := h k (List.mem_range.1 hk)
    exact beq_iff_eq.2 (congrArg _ this)
theorem eqS_yes {f g : Nat → Nat} (h : ∀ k, k < 64 → f k = g k) : eqS f g = true := eqS_iff.2 h
theorem eqS_no {f g : Nat → Nat} (h : ¬ ∀ k, k < 64 → f k = g k) : eqS f g = false := by
  cases e : eqS f g with
  | false => rfl
  | true => exact absurd (eqS_iff.1 e) h
theorem eqS_sec {f g : Nat → Nat} : eqS f g = true ↔ sec f = sec g := by
  rw [eqS_iff]
  exact ⟨sec_ext, sec_inj⟩
end Go.Proofs.YtnnhnlabkbjacaaDoor
namespace Go.Proofs.YtnnhnlabkbjacaaDoor
open Go.ChangeShapes Go.WideShapes Go.ChangeAt Go.RowKit
attribute [local go_sem] Gives
/-- Are two tags alike? -/
def eqT (f g : Nat → Nat) : Bool := eqN 32 (fun k => f k) fun k => g k
theorem eqT_iff {f g : Nat → Nat} : eqT f g = true ↔ ∀ k, k < 32 → f k = g k := by
  unfold eqT eqN
  rw [List.all_eq_true]
  constructor
  · intro h k hk
    have := h k (List.mem_range.2 hk)
    exact Int.ofNat_inj.1 (beq_iff_eq.1 this)
  · intro h k hk
    have := h k (List.mem_range.1 hk)
    exact beq_iff_eq.2 (congrArg _ this)
theorem eqT_self (f : Nat → Nat) : eqT f f = true := eqT_iff.2 fun _ _ => rfl
theorem xor_zero {x y : Nat} : x ^^^ y = 0 ↔ x = y := by
  constructor
  · intro h
    have h2 : x ^^^ (x ^^^ y) = y := by rw [← Nat.xor_assoc, Nat.xor_self, Nat.zero_xor]
    rw [h, Nat.xor_zero] at h2
    exact h2
  · rintro rfl; exact Nat.xor_self _
section
variable {ops : Array Oper} {Q : Exit → Act → World → Prop} {a : Act} {w : World} {rest : List Oper} {dst : Option Tmp} {ty : TypeId} {pos : String} {after : Array Edge} {x : Operand} {g : Nat} {f : Nat → Nat}
/-- A tag loaded, behind a guard that says yes. -/
theorem ldtg {gd : Option (Nat × Bool)} (hwt : Region.wanted ⟨dst, .load 43 x, ty, pos, after, gd⟩ (yielded ops a.tmps) = true) (hx : a.eval x = .pointer (some ⟨g, 0, none⟩)) (hb : Blk w g 43 (tag f))
    (h : wpList Tryd.prog ops Q rest (a.put dst (.agg (tag f))) w) : wpList Tryd.prog ops Q (⟨dst, .load 43 x, ty, pos, after, gd⟩ :: rest) a w := by
  unfold wpList
  rw [if_pos hwt]
  exact .inl (wp_load_row (P := Tryd.prog) 43 x rfl g hx 43 (tag f) (0, 0) _ hb Tryd.underlying43 rfl (info_tag.trans (by rw [size_tag])) h)
end
theorem byt_lit {w : World} {B g : Nat} {t : TypeId} {cs : Array Value} {fr : Nat × Nat} (h : w.heap[g]? = some (.cells cs t fr)) (hg : g < B) {l : List Nat} (hl : ∀ j, j < l.length → cs[j]? = some (.int .u8 (l.getD j 0 : Nat))) : Byt w B (some ⟨g, 0, none⟩) l := fun _ =>
  ⟨g, 0, rfl, hg, fun i hi => by rw [Nat.zero_add, cell_of_row w g i cs t fr h]; exact hl i hi⟩
theorem lit_ok {l : List Nat} {cs : Array Value} (h : cs = (nums .u8 l).toArray) : ∀ j, j < l.length → cs[j]? = some (.int .u8 (l.getD j 0 : Nat)) := fun j hj => by
  rw [h, List.getElem?_toArray]; exact nums_get .u8 hj
end Go.Proofs.YtnnhnlabkbjacaaDoor
namespace Go.Proofs.YtnnhnlabkbjacaaDoor
open Go.ChangeShapes Go.WideShapes Go.ChangeAt Go.RowKit
def u8s (l : List Nat) : List UInt8 := l.map UInt8.ofNat
theorem u8s_length (l : List Nat) : (u8s l).length = l.length := List.length_map _
/-- A text of these bytes. -/
def str (l : List Nat) : ByteArray := ⟨(u8s l).toArray⟩
theorem u8s_inj {l m : List Nat} (hl : ∀ x ∈ l, x < 256) (hm : ∀ x ∈ m, x < 256) (h : u8s l = u8s m) : l = m := by
  have key : ∀ {l : List Nat}, (∀ x ∈ l, x < 256) → (u8s l).map (·.toNat) = l := fun {l} hl => by
    unfold u8s
    rw [List.map_map]
    conv => rhs; rw [← List.map_id l]
    exact List.map_congr_left fun x hx => by
      have := hl x hx
      simp; omega
  rw [← key hl, h, key hm]
theorem str_inj {l m : List Nat} (hl : ∀ x ∈ l, x < 256) (hm : ∀ x ∈ m, x < 256) (h : str l = str m) : l = m := by
  unfold str at h
  exact u8s_inj hl hm (by simpa using h)
theorem run_bytes_str {A : Option Addr} {l : List Nat} {n cap B : Nat} (hl : l.length = n) (h256 : ∀ x ∈ l, x < 256) (h0 : A = none → n = 0 ∧ cap = 0) {w : World} (hA : Byt w B A l) :
    (convert 22 9 (.slice A n cap)).run Tryd.prog w = .ok (.string (str l)) w := by
  by_cases hn : 0 < l.length
  · obtain ⟨b, o, rfl, _, hr⟩ := hA hn
    have h := run_convert_bytes_back (P := Tryd.prog) w 22 9 5 ⟨b, o, none⟩ cap (u8s l) Tryd.underlying22 Tryd.underlying5 Tryd.underlying9 (fun j hj => by
      rw [u8s_length] at hj
      have hg : l.getD j 0 = l[j] := by rw [List.getD_eq_getElem?_getD, List.getElem?_eq_getElem hj]; rfl
      have hlt := h256 l[j] (List.getElem_mem hj)
      rw [Addr.add_mid, hr j hj, hg]
      simp only [u8s, List.getElem_map]
      congr 2
      simp; omega)
    rw [u8s_length, hl] at h
    exact h
  · obtain rfl := List.eq_nil_of_length_eq_zero (show l.length = 0 by omega)
    obtain rfl : n = 0 := hl.symm
    cases A with
    | some ad => exact run_convert_bytes_back (P := Tryd.prog) w 22 9 5 ad cap [] Tryd.underlying22 Tryd.underlying5 Tryd.underlying9 fun j hj => absurd hj (by simp)
    | none =>
      rw [run_convert_bytes_string w 22 9 5 none 0 cap Tryd.underlying22 Tryd.underlying5 Tryd.underlying9]
      simp [Conv.bytesToString, str, u8s]
      rfl
/-- A slice of bytes that came in, of which the first thousand are looked at. -/
structure Arg (w : World) (K : Option Addr) (key : List Nat) (kn kcap : Nat) : Prop where
  len : key.length = kn
  cap : kn ≤ kcap
  max : kcap ≤ maxLen
  b256 : B256 key
  none : K = none → kn = 0 ∧ kcap = 0
  byt : Byt w w.heap.size K key
theorem Arg.cut {w : World} {K : Option Addr} {key : List Nat} {kn kcap : Nat} (h : Arg w K key kn kcap) : Arg w K (key.take 1000) (min kn 1000) kcap where
  len := by rw [List.length_take, h.len]; omega
  cap := by have := h.cap; omega
  max := h.max
  b256 := h.b256.take 1000
  none e := by obtain ⟨h1, h2⟩ := h.none e; exact ⟨by omega, h2⟩
  byt := h.byt.take 1000
theorem Arg.on {w w' : World} {K : Option Addr} {key : List Nat} {kn kcap : Nat} (h : Arg w K key kn kcap) (hb : Below w.heap.size w w') : Arg w' K key kn kcap where
  len := h.len
  cap := h.cap
  max := h.max
  b256 := h.b256
  none := h.none
  byt := (h.byt.below hb (Nat.le_refl _)).more hb.size
theorem Own.arg {w : World} {B : Nat} {v : Value} {l : List Nat} (h : Own 5 .u8 w B v l) (hb : B256 l) : ∃ A cap, v = .slice A l.length cap ∧ Arg w A l l.length cap := by
  rcases h.form with ⟨rfl, rfl⟩ | ⟨g, cap, rfl, _, _, h1, h2, h3⟩
  · exact ⟨.none, 0, rfl, rfl, Nat.le_refl _, Nat.zero_le _, hb, fun _ => ⟨rfl, rfl⟩, Byt.none rfl⟩
  · exact ⟨_, cap, rfl, rfl, h1, h2, hb, (fun e => by cases e), h3.byt⟩
theorem Arg.str {w : World} {K : Option Addr} {key : List Nat} {kn kcap : Nat} (h : Arg w K key kn kcap) : (convert 22 9 (.slice K kn kcap)).run Tryd.prog w = .ok (.string (str key)) w := run_bytes_str h.len h.b256 h.none h.byt
end Go.Proofs.YtnnhnlabkbjacaaDoor
namespace Go.Proofs.YtnnhnlabkbjacaaDoor
open Go.ChangeShapes Go.WideShapes Go.ChangeAt Go.RowKit
attribute [local go_sem] Gives
/-- The tag of a closed row of 32 cells as an argument. -/
theorem tag_byt {w : World} {g : Nat} {T : Nat → Nat} (h : Blk w g 43 (tag T)) {B : Nat} (hg : g < B) : Byt w B (some ⟨g, 0, none⟩) (HmM.dl T) :=
  Blk.byt h hg (by rw [HmM.dl_length]; omega) (fun j hj => HmM.dl_get T (by rw [HmM.dl_length] at hj; exact hj))
/-- Behind k bytes of the sum. -/
def mixT (k : Nat) (F G : Nat → Nat) (j : Nat) : Nat := if j < k then F j ^^^ G j else F j
theorem mixT_zero (F G : Nat → Nat) : mixT 0 F G = F := funext fun j => by unfold mixT; rw [if_neg (by omega)]
theorem mixT_at (F G : Nat → Nat) (k : Nat) : mixT k F G k = F k := by unfold mixT; rw [if_neg (by omega)]
theorem mixT_full (F G : Nat → Nat) : tag (mixT 32 F G) = tag fun k => F k ^^^ G k := tag_ext fun k hk => by unfold mixT; rw [if_pos hk]
theorem mixT_set (F G : Nat → Nat) {k : Nat} : (tag (mixT k F G)).setIfInBounds k (.int .u8 ((F k ^^^ G k : Nat) : Int)) = tag (mixT (k + 1) F G) := by
  rw [tag_set]
  refine tag_ext fun j _ => ?_
  unfold mixT
  by_cases e : j = k
  · subst e; rw [if_pos rfl, if_pos (by omega)]
  · rw [if_neg e]
    by_cases h : j < k
    · rw [if_pos h, if_pos (by omega)]
    · rw [if_neg h, if_neg (by omega)]
set_option maxHeartbeats 1000000 in
set_option maxRecDepth 100000 in
theorem blockof_any (K : Option Addr) (key : List Nat) (kn kcap : Nat) (A : Option Addr) (l : List Nat) (n cap rounds x : Nat) (hkn : kn ≤ 100000) (hn : n ≤ 100000) (hr : 1 ≤ rounds) (hr2 : rounds ≤ 100000) (hx : x < 256) (w : World) (hK : Arg w K key kn kcap) (hA : Arg w A l n cap) (hS : Salts w) :
    Calls Tryd.prog 22 #[.slice K kn kcap, .slice A n cap, .int .i64 rounds, .int .u8 x] w fun e w' => e = .returned (.agg (tag (PbM.bl key l rounds x))) ∧ Below w.heap.size w w' := by
  have SA := hid hS
  have HK := hid hK
  have HA := hid hA
  obtain ⟨T, hT⟩ : ∃ T, T = PbM.fst key l x := ⟨_, rfl⟩
  obtain ⟨R, hR⟩ : ∃ R, R = rounds - 1 := ⟨_, rfl⟩
  have hbl : PbM.bl key l rounds x = PbM.acc key T R := by rw [hT, hR]; rfl
  rw [hbl]
  have hT256 : ∀ k, T k < 256 := fun k => by rw [hT]; exact PbM.fst_256 _ _ _ k
  have HT256 := hid hT256
  have HT := hid hT
  have e1 : IntKind.i64.wrap ((rounds : Int) - 1) = (R : Int) := wr_nat (by omega) (by omega)
  have hRb : R ≤ 100000 := by omega
  clear hS hK hA hT hbl hT256 hR
  go_enter Tryd.func22, Tryd.ntmps22
  go_upto_region 1 with fail
  generalize hw1 : World.alloc w _ = w1
  have b1 : Blk w1 w.heap.size 43 (tag fun _ => 0) := by rw [← hw1]; exact Blk.top zlit_tag rfl
  have hb1 : Below w.heap.size w w1 := by rw [← hw1]; exact (Below.refl _ _).alloc (Nat.le_refl _) _
  clear hw1
  have C0 := hid b1
  have B1 := hid hb1
  clear b1 hb1
  go_wp2_with fail
  generalize hw4 : World.alloc (World.alloc w1 _) _ = w4
  have k4 : Blk w4 (w1.heap.size + 1) 22 #[.slice A n cap, .slice (some ⟨w1.heap.size, 0, none⟩) 4 4] := by rw [← hw4]; exact Blk.top rfl (by simp)
  have b4 : Below w1.heap.size w1 w4 := by rw [← hw4]; exact ((Below.refl _ _).alloc (Nat.le_refl _) _).alloc (by simp) _
  have x4 : Byt w4 w4.heap.size (some ⟨w1.heap.size, 0, none⟩) [0, 0, 0, x] := by
    have h : Blk w4 w1.heap.size 5 #[.int .u8 0, .int .u8 0, .int .u8 0, .int .u8 (x : Nat)] := by rw [← hw4]; exact (Blk.top rfl rfl).alloc _
    exact byt_lit h h.lt (lit_ok (by rfl))
  have AL := HA.out.on (B1.out.trans (b4.mono B1.out.size))
  have hp : Prts w4 w4.heap.size (some ⟨w1.heap.size + 1, 0, none⟩) [l, [0, 0, 0, x]] := by
    refine prts_lit k4 k4.lt fun j hj => ?_
    match j, hj with
    | 0, _ => exact ⟨A, cap, by rw [show [l, [0, 0, 0, x]].getD 0 [] = l from rfl, AL.len]; rfl, by rw [show [l, [0, 0, 0, x]].getD 0 [] = l from rfl, AL.len]; exact AL.cap, AL.max, AL.byt⟩
    | 1, _ => exact ⟨some ⟨w1.heap.size, 0, none⟩, 4, rfl, Nat.le_refl _, by unfold maxLen; omega, x4⟩
  have hls : ∀ m ∈ [l, [0, 0, 0, x]], B256 m := fun m hm => by
    simp only [List.mem_cons, List.not_mem_nil, or_false] at hm
    rcases hm with rfl | rfl
    · exact AL.b256
    · intro y hy
      simp only [List.mem_cons, List.not_mem_nil, or_false] at hy
      omega
  have hfl : flat [l, [0, 0, 0, x]] = l ++ [0, 0, 0, x] := by simp [flat]
  have hfz : 64 + (flat [l, [0, 0, 0, x]]).length ≤ 1000000000000000 := by
    rw [hfl, List.length_append, AL.len]; simp; omega
  have HP := hid hp
  have HLS := hid hls
  have HFL := hid hfl
  have HFZ := hid hfz
  have B4 := hid (B1.out.trans (b4.mono B1.out.size))
  have C04 := hid (C0.out.below b4 C0.out.lt)
  clear hw4 k4 b4 x4 AL hp hls hfl hfz B1 C0 hx
  have kk := HK.out.on B4.out
  refine (parts_any K key kn kcap kk.len kk.cap kk.max (by omega) kk.b256 _ [l, [0, 0, 0, x]] 2 2 rfl (by omega) HLS.out HFZ.out w4 kk.byt HP.out (SA.out.on B4.out)).mono ?_
  rintro e w5 ⟨rfl, h5⟩
  rw [HFL.out, show HmM.tag key (l ++ [0, 0, 0, x]) = T from HT.out.symm]
  have B5 := hid (B4.out.trans (h5.mono B4.out.size))
  have C05 := hid (C04.out.below h5 C04.out.lt)
  have hz5 := B5.out.size
  clear h5 kk HT HP HLS HFL HFZ B4 C04
  go_upto_region 2 with ((with_reducible apply stt); rfl; rfl; exact Blk.top zlit_tag rfl)
  generalize hw6 : World.setRow _ _ _ = w6
  obtain ⟨g6, hg6⟩ : ∃ g, g = w5.heap.size := ⟨_, rfl⟩
  have d6 : Blk w6 g6 43 (tag T) := by rw [← hw6, hg6]; exact (Blk.top zlit_tag rfl).setRow_same _
  have b56 : Below w5.heap.size w5 w6 := by rw [← hw6]; exact below_setRow ((Below.refl _ _).alloc (Nat.le_refl _) _) (Nat.le_refl _) _
  have c06 := C05.out.below b56 C05.out.lt
  have hg06 : w.heap.size < g6 := by rw [hg6]; exact C05.out.lt
  rw [← hg6]
  have B6 := hid (B5.out.trans (b56.mono hz5))
  have D6 := hid d6
  have C06 := hid c06
  have hz6 := B6.out.size
  have hg6l := d6.lt
  clear hw6 b56 hg6 B5 C05 hz5 c06
  go_upto_region 3 with (first | ((with_reducible apply ldt); rfl; exact d6) | ((with_reducible apply stt); rfl; rfl; exact Blk.top zlit_tag rfl))
  clear d6
  generalize hw7 : World.setRow _ _ _ = w7
  obtain ⟨g7, hg7⟩ : ∃ g, g = w6.heap.size := ⟨_, rfl⟩
  have d7 : Blk w7 g7 43 (tag T) := by rw [← hw7, hg7]; exact (Blk.top zlit_tag rfl).setRow_same _
  have b67 : Below w6.heap.size w6 w7 := by rw [← hw7]; exact below_setRow ((Below.refl _ _).alloc (Nat.le_refl _) _) (Nat.le_refl _) _
  have hg67 : g6 < g7 := by rw [hg7]; exact hg6l
  rw [← hg7]
  have E6 := hid (D6.out.below b67 hg6l)
  have E7 := hid d7
  have E0 := hid (C06.out.below b67 C06.out.lt)
  have B7 := hid (B6.out.trans (b67.mono hz6))
  have K7 := hid (HK.out.on B7.out)
  clear hw7 d7 b67 hg7 hg6l hz6 B6 D6 C06 HA
  go_wp2_with fail
  go_loopw [21] (fun v wr => ∃ j : Nat, j ≤ R ∧ v = .int .i64 j ∧ Hid (Blk wr g6 43 (tag (PbM.un key T j))) ∧ Hid (Blk wr g7 43 (tag (PbM.acc key T j))) ∧ Hid (Blk wr w.heap.size 43 (tag fun _ => 0)) ∧ Hid (Below w.heap.size w wr)) (fun v _ => R - (intOf v).toNat)
  case atStart => exact ⟨0, by omega, rfl, E6, E7, E0, B7⟩
  case round =>
    clear E6 E7 E0 B7 K7 e1
    obtain ⟨j, hj, rfl, q6, q7, q0, hb⟩ := hrel
    by_cases hlt : j < R
    · have tj : (j : Int) < (R : Int) := by omega
      have kk := HK.out.on hb.out
      have hun : PbM.un key T (j + 1) = HmM.tag key (HmM.dl (PbM.un key T j)) := rfl
      have hacc : PbM.acc key T (j + 1) = fun k => PbM.acc key T j k ^^^ PbM.un key T (j + 1) k := rfl
      have hF := PbM.acc_256 (key := key) HT256.out j
      have hG := PbM.un_256 (key := key) HT256.out (j + 1)
      have hU := PbM.un_256 (key := key) HT256.out j
      obtain ⟨U, hU0⟩ : ∃ U, U = PbM.un key T j := ⟨_, rfl⟩
      obtain ⟨F, hF0⟩ : ∃ F, F = PbM.acc key T j := ⟨_, rfl⟩
      obtain ⟨G, hG0⟩ : ∃ G, G = PbM.un key T (j + 1) := ⟨_, rfl⟩
      rw [← hU0] at q6 hun hU
      rw [← hF0] at q7 hacc hF
      rw [← hG0] at hun hacc hG
      have HUN := hid hun
      have HACC := hid hacc
      have HF := hid hF
      have HG := hid hG
      have HU := hid hU
      have HG0 := hid hG0
      have UB := hid (tag_byt q6.out q6.out.lt)
      clear hun hacc hF hG hU hU0 hF0 hG0
      go_wp2_with fail
      refine (hof_any K key kn kcap kk.len kk.cap kk.max (by omega) kk.b256 _ (HmM.dl U) 32 32 (HmM.dl_length _) (Nat.le_refl _) (by unfold maxLen; omega) (HmM.dl_256 HU.out) (by omega) wr kk.byt UB.out (SA.out.on hb.out)).mono ?_
      rintro e w8 ⟨rfl, h8⟩
      rw [← HUN.out]
      have B8 := hid (hb.out.trans (h8.mono hb.out.size))
      have q68 := q6.out.below h8 q6.out.lt
      have Q7 := hid (q7.out.below h8 q7.out.lt)
      have Q0 := hid (q0.out.below h8 q0.out.lt)
      clear h8 q6 q7 q0 hb UB kk HUN
      go_upto_region 6 with ((with_reducible apply stt); rfl; rfl; exact q68)
      generalize hw9 : World.setRow _ _ _ = w9
      have d6 : Blk w9 g6 43 (tag G) := by rw [← hw9]; exact q68.setRow_same _
      have d7 : Blk w9 g7 43 (tag (mixT 0 F G)) := by rw [← hw9, mixT_zero]; exact Q7.out.setRow_other (by omega) _
      have d0 : Blk w9 w.heap.size 43 (tag fun _ => 0) := by rw [← hw9]; exact Q0.out.setRow_other (by omega) _
      have b9 : Below w.heap.size w w9 := by rw [← hw9]; exact below_setRow B8.out (by omega) _
      have D6 := hid d6
      have D7 := hid d7
      have D0 := hid d0
      have B9 := hid b9
      clear hw9 d6 d7 d0 b9 q68 Q7 Q0 B8
      go_wp2_with fail
      go_loopw [26] (fun v wk => ∃ k : Nat, k ≤ 32 ∧ v = .int .i64 k ∧ Hid (Blk wk g6 43 (tag G)) ∧ Hid (Blk wk g7 43 (tag (mixT k F G))) ∧ Hid (Blk wk w.heap.size 43 (tag fun _ => 0)) ∧ Hid (Below w.heap.size w wk)) (fun v _ => 32 - (intOf v).toNat)
      case atStart => exact ⟨0, by omega, rfl, D6, D7, D0, B9⟩
      case round =>
        clear D6 D7 D0 B9
        obtain ⟨k, hk, rfl, q6, q7, q0, hb⟩ := hrel
        by_cases hk2 : k < 32
        · have tk : (k : Int) < 32 := by omega
          have Q6 := hid ((q6.out.cell k).trans (get_tag hk2))
          have q7c := (q7.out.cell k).trans (get_tag hk2)
          rw [mixT_at] at q7c
          have Q7 := hid q7c
          have q7f := q7.out.frozen k
          have hFk := HF.out k
          have hGk := HG.out k
          have EX := hid (u8_xor_nat (F k) (G k) hFk hGk)
          clear q7c
          go_wp2_with fail
          refine wp_region_tail (C := Drew wr) 8 (by kernel_rfl) (by kernel_rfl) (by kernel_rfl) (Drew.refl _) ?_
          simp only [List.take_succ_cons, List.take_zero, List.drop_succ_cons, List.drop_zero]
          apply wpK_val
          · rfl
          · intro w' hw'
            go_simp
            first | exact rfl | exact ⟨rfl, hw'⟩
          simp only [Act.put, List.setIfInBounds_toArray, List.set_cons_succ, List.set_cons_zero]
          apply wpK_val
          · rfl
          · intro w' hw'
            go_simp
            first | exact rfl | exact ⟨rfl, hw'⟩
          simp only [Act.put, List.setIfInBounds_toArray, List.set_cons_succ, List.set_cons_zero]
          apply wpK_val
          · rfl
          · intro w' hw'
            have hcell := hw'.cell Q7.out
            go_simp
            first | exact rfl | exact ⟨rfl, hw'⟩
          simp only [Act.put, List.setIfInBounds_toArray, List.set_cons_succ, List.set_cons_zero]
          apply wpK_val
          · rfl
          · intro w' hw'
            go_simp
            first | exact rfl | exact ⟨rfl, hw'⟩
          simp only [Act.put, List.setIfInBounds_toArray, List.set_cons_succ, List.set_cons_zero]
          apply wpK_val
          · rfl
          · intro w' hw'
            go_simp
            first | exact rfl | exact ⟨rfl, hw'⟩
          simp only [Act.put, List.setIfInBounds_toArray, List.set_cons_succ, List.set_cons_zero]
          apply wpK_val
          · rfl
          · intro w' hw'
            have hcell := hw'.cell Q6.out
            go_simp
            first | exact rfl | exact ⟨rfl, hw'⟩
          simp only [Act.put, List.setIfInBounds_toArray, List.set_cons_succ, List.set_cons_zero]
          apply wpK_val
          · rfl
          · intro w' hw'
            have h1 : _ := EX.out
            go_simp
            first | exact rfl | exact ⟨rfl, hw'⟩
          simp only [Act.put, List.setIfInBounds_toArray, List.set_cons_succ, List.set_cons_zero]
          apply wpK_val
          · rfl
          · intro w' hw'
            go_simp
            first | exact rfl | exact ⟨rfl, hw'⟩
          simp only [Act.put, List.setIfInBounds_toArray, List.set_cons_succ, List.set_cons_zero]
          refine wpK_nil fun w5 hw5 => ?_
          have r6 := hid (hw5.blk q6.out)
          have r7 := hid (hw5.blk q7.out)
          have r0 := hid (hw5.blk q0.out)
          have rb := hid (hw5.below hb.out)
          have f7 := r7.out.frozen k
          have c7 := (r7.out.cell k).trans (get_tag hk2)
          clear q6 q7 q0 hb q7f Q6 Q7 EX hFk hGk hw5
          go_wp2_with fail
          go_roundw
          case rel => exact ⟨k + 1, by omega, by go_num, hid (r6.out.setCell_other (by show g7 ≠ g6; omega) _), hid (by rw [← mixT_set]; exact r7.out.setCell_same _ _), hid (r0.out.setCell_other (by show g7 ≠ w.heap.size; omega) _), hid (rb.out.setCell (p := ⟨g7, k, none⟩) (by show w.heap.size ≤ g7; omega) _)⟩
          case measure => simp [intOf]; omega
        · have tk : decide ((k : Int) < 32) = false := by simp; omega
          obtain rfl : k = 32 := by omega
          have r7 := q7.out
          rw [mixT_full, ← HACC.out] at r7
          have R7 := hid r7
          have R6 := q6.out
          rw [HG0.out] at R6
          have R6' := hid R6
          clear r7 q7 R6 q6
          go_wp2_with fail
          go_roundw
          case rel => exact ⟨j + 1, by omega, by go_num, R6', R7, q0, hb⟩
          case measure => simp [intOf]; omega
    · have tj : decide ((j : Int) < (R : Int)) = false := by simp; omega
      obtain rfl : j = R := by omega
      have q77 := q7.out
      have q00 := q0.out
      have HB := hid hb.out
      clear q7 q0 hb q6
      go_wp2_with (first | ((with_reducible apply ldt); rfl; exact q77) | ((with_reducible apply stt); rfl; rfl; exact q00))
      apply ret_row Tryd.results22
      · exact q00.setRow_same _
      · exact Tryd.underlying43
      · rfl
      · exact (info_tag.trans (by rw [size_tag]))
      · rfl
      · rfl
      exact ⟨rfl, below_setRow HB.out (Nat.le_refl _) _⟩
end Go.Proofs.YtnnhnlabkbjacaaDoor
namespace Go.Proofs.YtnnhnlabkbjacaaDoor
open Go.ChangeShapes Go.WideShapes Go.ChangeAt Go.RowKit
theorem toList_zeroCells_one (z : Value) (n : Nat) : (Builtin.zeroCells #[z] n).toList = List.replicate n z := by
  apply List.ext_getElem?
  intro j
  by_cases hj : j < n
  · simp [Builtin.zeroCells, hj, Nat.mod_one]
  · simp [Builtin.zeroCells, hj]
theorem nums_zeros (k : IntKind) (n : Nat) : nums k (List.replicate n 0) = List.replicate n (.int k 0) := by simp [nums]
theorem run_appZ {S e t : TypeId} {k : IntKind} (E : Elt S e k) (hti : Tryd.prog.underlying t = some (.int .i64)) {w : World} {B g : Nat} {l : List Nat} (ty : TypeId) (n : Nat) (hn : n ≤ 1000) (hll : 0 < l.length) (hl : l.length ≤ 1000)
    (hown : Own e k w B (.slice (some ⟨g, 0, none⟩) l.length l.length) l) (hB : B ≤ w.heap.size) :
    ∃ v' w', (Builtin.append_ #[S, t] ty #[.slice (some ⟨g, 0, none⟩) l.length l.length, .int .i64 (n : Int)]).run Tryd.prog w = .ok v' w' ∧ Own e k w' B v' (l ++ List.replicate n 0) ∧ w.grownBy w' none := by
  obtain ⟨i, hi, hz, h1, h2⟩ := E.inf
  have hw : IntKind.i64.wrap (n : Int) = (n : Int) := IntWalk.i64_in _ (by omega)
  have h48 : ¬ ((281474976710656 : Int) < (n : Int) * (i.bytes : Int)) := by
    have h3 : n * i.bytes ≤ 1000 * 8 := Nat.mul_le_mul hn h2
    have h4 : (n : Int) * (i.bytes : Int) = ((n * i.bytes : Nat) : Int) := by simp
    rw [h4]; omega
  have hn0 : ¬ ((n : Int) < 0) := by omega
  by_cases h0 : n = 0
  · subst h0
    refine ⟨_, w, ?_, by rw [List.replicate_zero, List.append_nil]; exact hown, ⟨rfl, rfl, rfl, Nat.le_refl _, fun _ _ _ => rfl⟩⟩
    have hw0 : IntKind.i64.wrap 0 = 0 := by decide
    simp [Builtin.append_, run_underlying E.und, run_underlying hti, sizeOf, typeInfo, hi, asInt, asIntOf, storeCells, hw0]
  · have hg : ¬ (l.length + n ≤ l.length) := by omega
    have h63' : ¬ (9223372036854775807 < ((l.length : Int) + (n : Int))) := by omega
    have hfit : Builtin.nextslicecap (l.length + n) l.length * i.bytes ≤ 281474976710656 := growslice_fits (by omega) (Nat.le_trans (Nat.mul_le_mul (show l.length + n ≤ 2000 by omega) h2) (by omega))
    have h48' : ¬ (281474976710656 < Builtin.nextslicecap (l.length + n) l.length * i.bytes) := by omega
    have holds : ∀ j u, (nums k l)[j]? = some u → w.cell? ((⟨g, 0, none⟩ : Addr).add j) = some u := hown.cells (g := g) rfl
    have hfo := run_firstCells_some (P := Tryd.prog) w.drew i.size l.length ⟨g, 0, none⟩ l.length l.length (nums k l) (by rw [nums_length, h1, Nat.mul_one]) (by simpa using holds)
    have hgc := grownCap_ge w (l.length + n) l.length e
    have hgm := grownCap_le_maxLen w (l.length + n) l.length e (by unfold maxLen; omega)
    refine ⟨.slice (some ⟨w.heap.size, 0, none⟩) (l.length + n) (grownCap w (l.length + n) l.length e),
      w.drew.alloc (.cells ((nums k l).toArray ++ Builtin.zeroCells #[.int k 0] n ++ Builtin.zeroCells #[.int k 0] (grownCap w (l.length + n) l.length e - (l.length + n))) e), ?_, ?_, ⟨rfl, rfl, rfl, by simp, fun _ hj _ => heap_alloc_old w.drew _ hj⟩⟩
    · simp [Builtin.append_, run_underlying E.und, run_underlying hti, sizeOf, typeInfo, zeroValue, hi, hz, asInt, asIntOf, hw, h48, hn0, hg, h0, h63', h48', h1, Question.forced, newRow, grownCap, Value.cells]
      rw [h1] at hfo
      rw [hfo]
      simp [Result.andThen]
    · unfold Own
      rw [List.length_append, List.length_replicate, nums_append, nums_zeros]
      refine ⟨by simp [nums_length], .inr ⟨w.heap.size, _, _, rfl, hB, heap_alloc_new w.drew _, hgc, hgm, ?_, ?_⟩⟩
      · simp only [Array.size_append, List.size_toArray, size_zeroCells, nums_length]
        simp; omega
      · simp only [Array.toList_append, List.append_assoc, toList_zeroCells_one]
        rw [← List.append_assoc, List.take_left' (by simp [nums_length])]
/-- A literal of one number is a slice of the call's own, and full. -/
theorem Own.lit {e : TypeId} {k : IntKind} (w : World) {B x : Nat} {v : Value} (h : v = .int k (x : Nat)) (hB : B ≤ w.heap.size) : Own e k (w.alloc (.cells #[v] e)) B (.slice (some ⟨w.heap.size, 0, none⟩) 1 1) [x] := by
  subst h
  exact ⟨rfl, .inr ⟨w.heap.size, 1, #[.int k (x : Nat)], rfl, hB, heap_alloc_new w _, Nat.le_refl _, by unfold maxLen; omega, rfl, rfl⟩⟩
theorem wappZ {ops : Array Oper} {Q : Exit → Act → World → Prop} {a : Act} {w : World} {rest : List Oper} {dst : Option Tmp} {ty : TypeId} {pos : String} {after : Array Edge} {s x : Operand} {B g n : Nat} {l : List Nat} {S e t : TypeId} {k : IntKind}
    (E : Elt S e k) (hti : Tryd.prog.underlying t = some (.int .i64)) (hs : a.eval s = .slice (some ⟨g, 0, none⟩) l.length l.length) (hx : a.eval x = .int .i64 (n : Int)) (hown : Own e k w B (.slice (some ⟨g, 0, none⟩) l.length l.length) l) (hn : n ≤ 1000) (hll : 0 < l.length) (hl : l.length ≤ 1000) (hB : B ≤ w.heap.size)
    (h : ∀ v' w', Own e k w' B v' (l ++ List.replicate n 0) → w.grownBy w' none → wpList Tryd.prog ops Q rest (a.put dst v') w') :
    wpList Tryd.prog ops Q (⟨dst, .call { callee := .builtin .append, args := #[s, x], argTypes := #[S, t] }, ty, pos, after, none⟩ :: rest) a w := by
  obtain ⟨v', w', hr, h1, h2⟩ := run_appZ E hti ty n hn hll hl hown hB
  refine wpList_plain rfl fun K hK => ?_
  unfold Oper.wp execOp
  simp only [resolve, invoke, builtin, Sem.run_bind, Sem.run_pure, Result.andThen_ok, List.map_toArray, List.map_cons, List.map_nil, hs, hx, hr]
  exact hK _ _ (h v' w' h1 h2)
end Go.Proofs.YtnnhnlabkbjacaaDoor
namespace Go.Proofs.YtnnhnlabkbjacaaDoor
open Go.ChangeShapes Go.WideShapes Go.ChangeAt Go.RowKit
theorem eltB : Elt 22 5 .u8 := elt_of Tryd.underlying22 (by kernel_rfl) (by kernel_rfl) (by kernel_rfl)
theorem eqg_tag : Tryd.prog.eqGuardType Tryd.prog.depth 43 = false := by kernel_rfl
theorem eq_tag (f g : Nat → Nat) (w : World) : (Op.equalIn 10000 43 (.agg (tag f)) (.agg (tag g))).run Tryd.prog w = .ok (eqT f g) w :=
  run_equalIn_row (P := Tryd.prog) (d := 9998) (t := 43) (e := 5) (k := .u8) (n := 32) (f := fun k => f k) (g := fun k => g k) Tryd.underlying43 Tryd.underlying5 (by kernel_rfl) w
theorem eq_tag_self (f : Nat → Nat) (w : World) : (Op.equalIn 10000 43 (.agg (tag f)) (.agg (tag f))).run Tryd.prog w = .ok true w := by
  rw [eq_tag, eqT_self]
theorem klt {ops : Array Oper} {a : Act} {rest : List Oper} {dst : Option Tmp} {ty : TypeId} {pos : String} {after : Array Edge} {x : Operand} {g : Nat} {f : Nat → Nat} {C : World → Prop} {Qk : Act → Prop} {gd : Option (Nat × Bool)}
    (hwt : Region.wanted ⟨dst, .load 43 x, ty, pos, after, gd⟩ (yielded ops a.tmps) = true) (hx : a.eval x = .pointer (some ⟨g, 0, none⟩)) (hb : ∀ w, C w → Blk w g 43 (tag f)) (h : wpK Tryd.prog ops C Qk rest (a.put dst (.agg (tag f)))) :
    wpK Tryd.prog ops C Qk (⟨dst, .load 43 x, ty, pos, after, gd⟩ :: rest) a :=
  wpK_val hwt (fun w hw => gives_value (w' := w) (by
    have h1 : w.rangeAt g 0 (tag f).toList := fun j v hj => by
      rw [Array.getElem?_toList] at hj
      rw [Nat.zero_add, (hb w hw).cell]
      exact hj
    have := run_loadAt_mid (P := Tryd.prog) w g 0 43 (tag f).toList _ h1 Tryd.underlying43 rfl (info_tag.trans (by rw [Array.length_toList, size_tag]))
    rw [Array.toArray_toList] at this
    simp only [execOp, hx, Sem.run_bind, this, Result.andThen_ok, Sem.run_pure]) hw) h
end Go.Proofs.YtnnhnlabkbjacaaDoor
namespace Go.Proofs.YtnnhnlabkbjacaaDoor
open Go.ChangeShapes Go.WideShapes Go.ChangeAt Go.RowKit
section
variable {ops : Array Oper} {Q : Exit → Act → World → Prop} {a : Act} {w : World} {rest : List Oper} {dst : Option Tmp} {ty : TypeId} {pos : String} {after : Array Edge} {s x : Operand} {m c B B' : Nat} {v : Value} {l kk : List Nat} {S e : TypeId} {k : IntKind} {ad : Addr}
theorem nums_reads (hrd : Nums k w B' (some ad) kk) (hk : kk.length = m) : ∀ j u, (nums k kk)[j]? = some u → w.cell? (ad.add j) = some u := fun j u hj => by
  subst hk
  have hjm : j < kk.length := by
    have := (List.getElem?_eq_some_iff.1 hj).1
    rwa [nums_length] at this
  obtain ⟨b, o, e', _, hr⟩ := hrd (by omega)
  obtain rfl : ad = ⟨b, o, none⟩ := Option.some.inj e'
  rw [nums_get k hjm] at hj
  rw [Addr.add_mid, hr j hjm]
  exact hj
theorem nums_oneCell (kk : List Nat) : ∀ u ∈ nums k kk, u.oneCell' = true := fun u hu => by
  obtain ⟨y, _, rfl⟩ := List.mem_map.1 hu
  rfl
/-- It lies where the slice lay, or anew. -/
theorem run_appN_where (E : Elt S e k) (hown : Own e k w B v l) (hrd : Nums k w B' (some ad) kk) (hk : kk.length = m) (hsz : l.length + m ≤ 1000000) {v' : Value} {w' : World}
    (hr : (Builtin.append_ #[S, S] ty #[v, .slice (some ad) m c]).run Tryd.prog w = .ok v' w') : v'.ownBlock = v.ownBlock ∨ v'.ownBlock = some w.heap.size := by
  obtain ⟨i, hi, hz, h1, h2⟩ := E.inf
  have hbytes : (l.length + m) * i.bytes ≤ 140737488355328 := Nat.le_trans (Nat.mul_le_mul hsz h2) (by omega)
  have hl1 : (nums k kk).length = m * i.size := by rw [nums_length, h1, Nat.mul_one, hk]
  rcases hown.2 with ⟨rfl, h0⟩ | ⟨g, cap, cur, rfl, hB, hg, hnc, hcm, hcs, ht⟩
  · by_cases hm : m = 0
    · subst hm
      have hn : kk = [] := List.eq_nil_of_length_eq_zero hk
      subst hn
      left
      have hrun : (Builtin.append_ #[S, S] ty #[.slice none 0 0, .slice (some ad) 0 c]).run Tryd.prog w = .ok (.slice none 0 0) w := by
        simp [Builtin.append_, run_underlying E.und, sizeOf, typeInfo, hi, Builtin.lenOf, Builtin.firstCells, loadCells, loadCellsFrom]
      rw [hrun] at hr
      cases hr
      rfl
    · right
      rw [h0] at hbytes hsz
      rw [Nat.zero_add] at hbytes
      have hrun := run_append_nil (P := Tryd.prog) w S ty e i (.int k 0) E.und hi hz ad m c (nums k kk) hl1 (nums_reads hrd hk) (by omega) (by omega) (by omega)
      rw [hrun] at hr
      cases hr
      rfl
  · rw [Nat.mul_one] at hcs ht
    by_cases hroom : l.length + m ≤ cap
    · left
      have hrun := run_append_room (P := Tryd.prog) w S ty e i E.und hi g l.length cap cur hg ad m c (nums k kk) hl1 (nums_reads hrd hk) (nums_oneCell kk) hroom (by rw [h1, Nat.mul_one, nums_length, hcs]; omega)
      rw [hrun] at hr
      cases hr
      rfl
    · right
      have hown' : w.ownsRow B e i.size (.slice (some ⟨g, 0, none⟩) l.length cap) l.length (nums k l) := by rw [h1]; exact hown
      have holds : ∀ j u, (nums k l)[j]? = some u → w.cell? ((⟨g, 0, none⟩ : Addr).add j) = some u := hown.cells (g := g) rfl
      have hrun := run_append_grow (P := Tryd.prog) w S ty e i (.int k 0) E.und hi hz ⟨g, 0, none⟩ l.length cap (nums k l) (by rw [nums_length, h1, Nat.mul_one]) holds ad m c (nums k kk) hl1 (nums_reads hrd hk) (by omega) (by omega) (growslice_fits (by omega) hbytes)
      rw [hrun] at hr
      cases hr
      rfl
theorem wappW {A : Option Addr} (E : Elt S e k) (hs : a.eval s = v) (hx : a.eval x = .slice A m c) (h0 : A = none → m = 0 ∧ c = 0) (hown : Own e k w B v l) (hrd : Nums k w B' A kk) (hk : kk.length = m) (hsz : l.length + m ≤ 1000000) (hB : B ≤ w.heap.size)
    (h : ∀ v' w', Own e k w' B v' (l ++ kk) → w.grownBy w' v.ownBlock → (v'.ownBlock = v.ownBlock ∨ v'.ownBlock = some w.heap.size) → wpList Tryd.prog ops Q rest (a.put dst v') w') :
    wpList Tryd.prog ops Q (⟨dst, .call { callee := .builtin .append, args := #[s, x], argTypes := #[S, S] }, ty, pos, after, none⟩ :: rest) a w := by
  cases A with
  | some ad =>
    obtain ⟨v', w', hr, h1, h2⟩ := run_appN (ty := ty) (c := c) E hown hrd hk hsz hB
    have h3 := run_appN_where E hown hrd hk hsz hr
    refine wpList_plain rfl fun K hK => ?_
    unfold Oper.wp execOp
    simp only [resolve, invoke, builtin, Sem.run_bind, Sem.run_pure, Result.andThen_ok, List.map_toArray, List.map_cons, List.map_nil, hs, hx, hr]
    exact hK _ _ (h v' w' h1 h2 h3)
  | none =>
    obtain ⟨rfl, rfl⟩ := h0 rfl
    obtain rfl := List.eq_nil_of_length_eq_zero hk
    rw [List.append_nil] at h
    exact wappN_none E hs hx hown (h v w hown ⟨rfl, rfl, rfl, Nat.le_refl _, fun _ _ _ => rfl⟩ (.inl rfl))
end
theorem Own.lower {e : TypeId} {k : IntKind} {w : World} {B B' : Nat} {v : Value} {l : List Nat} (h : Own e k w B v l) (hB : B' ≤ B) : Own e k w B' v l := by
  refine ⟨h.1, ?_⟩
  rcases h.2 with h' | ⟨g, cap, cur, hv, hb, hr⟩
  · exact .inl h'
  · exact .inr ⟨g, cap, cur, hv, Nat.le_trans hB hb, hr⟩
/-- They lie in rows of their own. -/
def Apart (v u : Value) : Prop := ∀ g, v.ownBlock = some g → u.ownBlock ≠ some g
theorem Apart.symm {v u : Value} (h : Apart v u) : Apart u v := fun g hu hv => h g hv hu
theorem Apart.nil (v : Value) : Apart v (.slice none 0 0) := fun g _ h => by cases h
theorem Own.keep {e : TypeId} {k : IntKind} {w w' : World} {B : Nat} {v u : Value} {l : List Nat} (h : Own e k w B v l) (hg : w.grownBy w' u.ownBlock) (hne : Apart v u) : Own e k w' B v l := by
  refine World.ownsRow.kept h hg ?_
  cases hv : v.ownBlock with
  | none => exact .inl rfl
  | some g => exact .inr (Ne.symm (hne g hv))
theorem Apart.app {e : TypeId} {k : IntKind} {w : World} {B : Nat} {v v' u : Value} {l : List Nat} (h : Apart v u) (hv : Own e k w B v l) (hw : v'.ownBlock = u.ownBlock ∨ v'.ownBlock = some w.heap.size) : Apart v v' := fun g hg => by
  rcases hw with hw | hw
  · rw [hw]; exact h g hg
  · rw [hw]
    intro e'
    have := (World.ownsRow.lt hv g hg).2
    rw [Option.some.inj e'] at this
    exact Nat.lt_irrefl _ this
theorem Blk.apart {w w' : World} {g : Nat} {t : TypeId} {cs : Array Value} {v : Value} (h : Blk w g t cs) (hg : w.grownBy w' v.ownBlock) (hne : v.ownBlock ≠ some g) : Blk w' g t cs :=
  (hg.block g h.lt fun e => hne e.symm).trans h
end Go.Proofs.YtnnhnlabkbjacaaDoor
namespace Go.Proofs.YtnnhnlabkbjacaaDoor
open Go.ChangeShapes Go.WideShapes Go.ChangeAt Go.RowKit
/-- An empty slice with room. -/
theorem mk0 {ops : Array Oper} {Q : Exit → Act → World → Prop} {a : Act} {w : World} {rest : List Oper} {dst : Option Tmp} {ty : TypeId} {pos : String} {after : Array Edge} {x y : Operand} {n : Nat} (hn : n ≤ 10000)
    (hx : a.eval x = .int .i64 0) (hy : a.eval y = .int .i64 (n : Int)) (h : ∀ v w', Own 5 .u8 w' w.heap.size v [] → Below w.heap.size w w' → wpList Tryd.prog ops Q rest (a.put dst v) w') :
    wpList Tryd.prog ops Q (⟨dst, .makeSlice 22 x y, ty, pos, after, none⟩ :: rest) a w := by
  obtain ⟨i, hi, hz, h1, h2⟩ := eltB.inf
  obtain ⟨w', hr, ho, hg⟩ := run_make_own (P := Tryd.prog) w w.heap.size 22 5 i (.int .u8 0) 1 eltB.und hi hz h1 .i64 .i64 n (Nat.le_trans (Nat.mul_le_mul h2 hn) (by omega)) (by unfold maxLen; omega) (Nat.le_refl _)
  refine wpList_plain rfl fun K hK => ?_
  unfold Oper.wp execOp
  simp only [Sem.run_bind, hx, hy, hr, Result.andThen_ok]
  exact hK _ _ (h _ w' ho (below_none (Below.refl _ _) hg (Nat.le_refl _)))
end Go.Proofs.YtnnhnlabkbjacaaDoor
