/-
  Contracts of hmac.keyBlock, hmac.padded over this translation.
-/
import Derived.Test.YtnnhnlabkbjacaaDoorShaAhead
import Derived.Test.YtnnhnlabkbjacaaDoorHmacM
import Derived.Test.YtnnhnlabkbjacaaDoorOwn
import Derived.Laws.BitsAllLaws
namespace Go.Proofs.YtnnhnlabkbjacaaDoor
open Go.ChangeShapes Go.WideShapes Go.ChangeAt Go.RowKit
attribute [local go_sem] Gives
theorem zlit_b64 : (#[.int .u8 0, .int .u8 0, .int .u8 0, .int .u8 0, .int .u8 0, .int .u8 0, .int .u8 0, .int .u8 0, .int .u8 0, .int .u8 0, .int .u8 0, .int .u8 0, .int .u8 0, .int .u8 0, .int .u8 0, .int .u8 0, .int .u8 0, .int .u8 0, .int .u8 0, .int .u8 0, .int .u8 0, .int .u8 0, .int .u8 0, .int .u8 0, .int .u8 0, .int .u8 0, .int .u8 0, .int .u8 0, .int .u8 0, .int .u8 0, .int .u8 0, .int .u8 0, .int .u8 0, .int .u8 0, .int .u8 0, .int .u8 0, .int .u8 0, .int .u8 0, .int .u8 0, .int .u8 0, .int .u8 0, .int .u8 0, .int .u8 0, .int .u8 0, .int .u8 0, .int .u8 0, .int .u8 0, .int .u8 0, .int .u8 0, .int .u8 0, .int .u8 0, .int .u8 0, .int .u8 0, .int .u8 0, .int .u8 0, .int .u8 0, .int .u8 0, .int .u8 0, .int .u8 0, .int .u8 0, .int .u8 0, .int .u8 0, .int .u8 0, .int .u8 0] : Array Value) = bts 64 fun _ => 0 := by rfl
theorem info_b64 : (Tryd.prog.info? 39).map (·.size) = some 64 := by kernel_rfl
section
variable {ops : Array Oper} {Q : Exit → Act → World → Prop} {a : Act} {w : World} {rest : List Oper} {dst : Option Tmp} {ty : TypeId} {pos : String} {after : Array Edge} {x y : Operand} {g : Nat} {f f0 : Nat → Nat}
theorem ldb (hx : a.eval x = .pointer (some ⟨g, 0, none⟩)) (hb : Blk w g 39 (bts 64 f)) (h : wpList Tryd.prog ops Q rest (a.put dst (.agg (bts 64 f))) w) :
    wpList Tryd.prog ops Q (⟨dst, .load 39 x, ty, pos, after, none⟩ :: rest) a w :=
  step_load_row hb Tryd.underlying39 rfl (info_b64.trans (by rw [size_bts])) hx h
theorem stb (hx : a.eval x = .pointer (some ⟨g, 0, none⟩)) (hy : a.eval y = .agg (bts 64 f)) (hb : Blk w g 39 (bts 64 f0)) (h : wpList Tryd.prog ops Q rest (a.put dst undef) (w.setRow g (bts 64 f))) :
    wpList Tryd.prog ops Q (⟨dst, .store 39 x y, ty, pos, after, none⟩ :: rest) a w :=
  step_store_row hb (info_b64.trans (by rw [size_bts])) (by rw [size_bts, size_bts]) bts_one hx hy h
end
/-- A list's bytes as a row of 64. -/
abbrev l64 (l : List Nat) : Array Value := bts 64 fun j => l.getD j 0
theorem key_row {key : List Nat} {n : Nat} (h : (HmM.cutK key).length = n) : (bts 64 fun j => if j < n then ShaM.at' (HmM.cutK key) j else 0) = l64 (HmM.blk key) := bts_ext fun j _ => by
  subst h
  rw [HmM.blk_get]; rfl
set_option maxHeartbeats 400000 in
set_option maxRecDepth 100000 in
theorem key_short (A : Option Addr) (l : List Nat) (n cap : Nat) (hl : l.length = n) (hn : n ≤ 64) (hc : n ≤ cap) (hm : cap ≤ maxLen) (w : World) (hA : Byt w w.heap.size A l) :
    Calls Tryd.prog 28 #[.slice A n cap] w fun e w' => e = .returned (.agg (l64 (HmM.blk l))) ∧ Below w.heap.size w w' := by
  have HA := hid hA
  have HL := hid hl
  have hk : HmM.cutK l = l := by unfold HmM.cutK; rw [if_neg (by omega)]
  have HK := hid hk
  clear hA hl hk
  have t0 : decide ((64 : Int) < (n : Int)) = false := by simp; omega
  go_enter Tryd.func28, Tryd.ntmps28
  go_upto_region 5 with fail
  generalize hw3 : World.alloc (World.alloc w _) _ = w3
  have b1 : Blk w3 w.heap.size 39 (bts 64 fun _ => 0) := by rw [← hw3]; exact (Blk.top zlit_b64 rfl).alloc _
  have b2 : Blk w3 (w.heap.size + 1) 39 (bts 64 fun _ => 0) := by rw [← hw3]; exact Blk.top zlit_b64 (by simp)
  have hb : Below w.heap.size w w3 := by rw [← hw3]; exact ((Below.refl _ _).alloc (Nat.le_refl _) _).alloc (by simp) _
  clear hw3
  have ha := (HA.out.below hb (Nat.le_refl _))
  go_upto_region 6 with ((with_reducible apply wcopy); rfl; rfl; exact b2; exact ha; exact HL.out; omega)
  generalize hw4 : World.setRow _ _ _ = w4
  have c2 : Blk w4 (w.heap.size + 1) 39 (l64 (HmM.blk l)) := by
    rw [← hw4]
    have h := b2.setRow_same (bts 64 fun j => if j < n then ShaM.at' l j else 0)
    rw [← key_row (key := l) (n := n) (by rw [HK.out, HL.out]), HK.out]
    exact h
  have c1 : Blk w4 w.heap.size 39 (bts 64 fun _ => 0) := by rw [← hw4]; exact b1.setRow_other (by omega) _
  have cb : Below w.heap.size w w4 := by rw [← hw4]; exact below_setRow hb (by omega) _
  clear hw4 b1 b2 hb ha w3
  go_wp2_with (first | ((with_reducible apply ldb); rfl; exact c2) | ((with_reducible apply stb); rfl; rfl; exact c1))
  apply ret_row Tryd.results28
  · exact c1.setRow_same _
  · exact Tryd.underlying39
  · rfl
  · exact (info_b64.trans (by rw [size_bts]))
  · rfl
  · rfl
  exact ⟨rfl, below_setRow cb (Nat.le_refl _) _⟩
set_option maxHeartbeats 400000 in
set_option maxRecDepth 100000 in
theorem key_long (A : Option Addr) (l : List Nat) (n cap : Nat) (hl : l.length = n) (hn : 64 < n) (hc : n ≤ cap) (hm : cap ≤ maxLen) (hz : n ≤ 1000000000000000) (h256 : B256 l) (w : World) (hA : Byt w w.heap.size A l) (hS : Salts w) :
    Calls Tryd.prog 28 #[.slice A n cap] w fun e w' => e = .returned (.agg (l64 (HmM.blk l))) ∧ Below w.heap.size w w' := by
  have HA := hid hA
  have HL := hid hl
  have SA := hid hS
  have H256 := hid h256
  have hk : HmM.cutK l = HmM.dl (ShaM.sum l) := by unfold HmM.cutK; rw [if_pos (by omega)]
  have HK := hid hk
  clear hA hl hk hS h256
  have t0 : decide ((64 : Int) < (n : Int)) = true := by simp; omega
  go_enter Tryd.func28, Tryd.ntmps28
  go_upto_region 3 with fail
  generalize hw3 : World.alloc (World.alloc w _) _ = w3
  have b1 : Blk w3 w.heap.size 39 (bts 64 fun _ => 0) := by rw [← hw3]; exact (Blk.top zlit_b64 rfl).alloc _
  have b2 : Blk w3 (w.heap.size + 1) 39 (bts 64 fun _ => 0) := by rw [← hw3]; exact Blk.top zlit_b64 (by simp)
  have hb : Below w.heap.size w w3 := by rw [← hw3]; exact ((Below.refl _ _).alloc (Nat.le_refl _) _).alloc (by simp) _
  clear hw3
  have B1 := hid b1
  have B2 := hid b2
  have BEL := hid hb
  clear b1 b2 hb
  go_wp2_with fail
  refine (sum_any A l n cap HL.out hc hm hz H256.out w3 ((HA.out.below BEL.out (Nat.le_refl _)).more BEL.out.size) (SA.out.on BEL.out)).mono ?_
  rintro e w4 ⟨rfl, h4⟩
  have b1 := B1.out.below h4 B1.out.lt
  have b2 := B2.out.below h4 B2.out.lt
  have hb := BEL.out.trans (h4.mono BEL.out.size)
  have hz2 : w.heap.size + 1 < w4.heap.size := b2.lt
  clear h4 B1 B2 BEL
  go_upto_region 5 with ((with_reducible apply stt); rfl; rfl; exact Blk.top zlit_tag rfl)
  generalize hw5 : World.setRow _ _ _ = w5
  have c3 : Blk w5 w4.heap.size 43 (tag (ShaM.sum l)) := by rw [← hw5]; exact (Blk.top zlit_tag rfl).setRow_same _
  have c1 : Blk w5 w.heap.size 39 (bts 64 fun _ => 0) := by rw [← hw5]; exact (b1.alloc _).setRow_other (by omega) _
  have c2 : Blk w5 (w.heap.size + 1) 39 (bts 64 fun _ => 0) := by rw [← hw5]; exact (b2.alloc _).setRow_other (by omega) _
  have cb : Below w.heap.size w w5 := by rw [← hw5]; exact below_setRow (hb.alloc (by omega) _) (by omega) _
  have ha : Byt w5 w5.heap.size (some ⟨w4.heap.size, 0, none⟩) (HmM.dl (ShaM.sum l)) := Blk.byt c3 c3.lt (by rw [HmM.dl_length]; omega) fun j hj => by rw [HmM.dl_length] at hj; exact HmM.dl_get _ hj
  clear hw5 b1 b2 hb
  go_upto_region 6 with ((with_reducible apply wcopy); rfl; rfl; exact c2; exact ha; exact HmM.dl_length _; omega)
  generalize hw6 : World.setRow _ _ _ = w6
  have d2 : Blk w6 (w.heap.size + 1) 39 (l64 (HmM.blk l)) := by
    rw [← hw6]
    have h := c2.setRow_same (bts 64 fun j => if j < 32 then ShaM.at' (HmM.dl (ShaM.sum l)) j else 0)
    rw [← key_row (key := l) (n := 32) (by rw [HK.out, HmM.dl_length]), HK.out]
    exact h
  have d1 : Blk w6 w.heap.size 39 (bts 64 fun _ => 0) := by rw [← hw6]; exact c1.setRow_other (by omega) _
  have db : Below w.heap.size w w6 := by rw [← hw6]; exact below_setRow cb (by omega) _
  clear hw6 c1 c2 c3 cb ha
  go_wp2_with (first | ((with_reducible apply ldb); rfl; exact d2) | ((with_reducible apply stb); rfl; rfl; exact d1))
  apply ret_row Tryd.results28
  · exact d1.setRow_same _
  · exact Tryd.underlying39
  · rfl
  · exact (info_b64.trans (by rw [size_bts]))
  · rfl
  · rfl
  exact ⟨rfl, below_setRow db (Nat.le_refl _) _⟩
theorem key_any (A : Option Addr) (l : List Nat) (n cap : Nat) (hl : l.length = n) (hc : n ≤ cap) (hm : cap ≤ maxLen) (hz : n ≤ 1000000000000000) (h256 : B256 l) (w : World) (hA : Byt w w.heap.size A l) (hS : Salts w) :
    Calls Tryd.prog 28 #[.slice A n cap] w fun e w' => e = .returned (.agg (l64 (HmM.blk l))) ∧ Below w.heap.size w w' := by
  rcases Nat.lt_or_ge 64 n with h | h
  · exact key_long A l n cap hl h hc hm hz h256 w hA hS
  · exact key_short A l n cap hl h hc hm w hA
/-- The first k bytes added to x. -/
def padK (x : Nat) (l : List Nat) (k j : Nat) : Nat := if j < k then l.getD j 0 ^^^ x else l.getD j 0
theorem padK_step (x : Nat) (l : List Nat) (k : Nat) : (fun j => if j = k then l.getD k 0 ^^^ x else padK x l k j) = padK x l (k + 1) := funext fun j => by
  unfold padK
  by_cases h : j = k
  · subst h; rw [if_pos rfl, if_pos (by omega)]
  · rw [if_neg h]
    by_cases h2 : j < k
    · rw [if_pos h2, if_pos (by omega)]
    · rw [if_neg h2, if_neg (by omega)]
theorem padK_full {x : Nat} {l : List Nat} (h : l.length = 64) : bts 64 (padK x l 64) = l64 (HmM.pad x l) := bts_ext fun j hj => by
  unfold padK
  rw [if_pos hj, HmM.pad_get x l (by omega)]
set_option maxHeartbeats 400000 in
set_option maxRecDepth 100000 in
theorem padded_any (l : List Nat) (hl : l.length = 64) (h256 : B256 l) (x : Nat) (hx : x < 256) (w : World) (hS : Salts w) :
    Calls Tryd.prog 29 #[.agg (l64 l), .int .u8 x] w fun e w' => e = .returned (.agg (pre (HmM.from' x l).get 64 true)) ∧ Below w.heap.size w w' := by
  have HL := hid hl
  have SA := hid hS
  have H256 := hid h256
  clear hl hS h256
  go_enter Tryd.func29, Tryd.ntmps29
  go_upto_region 2 with fail
  generalize hw3 : World.alloc (World.alloc w _) _ = w3
  have b1 : Blk w3 w.heap.size 39 (bts 64 (padK x l 0)) := by rw [← hw3]; exact (Blk.top rfl rfl).alloc _
  have b2 : Blk w3 (w.heap.size + 1) 54 (pre (fun _ => 0) 0 false) := by rw [← hw3]; exact Blk.top zlit_pre (by simp)
  have hb : Below w.heap.size w w3 := by rw [← hw3]; exact ((Below.refl _ _).alloc (Nat.le_refl _) _).alloc (by simp) _
  clear hw3
  go_loopw [8] (fun v wr => ∃ k : Nat, k ≤ 64 ∧ v = .int .i64 k ∧ Blk wr w.heap.size 39 (bts 64 (padK x l k)) ∧ Blk wr (w.heap.size + 1) 54 (pre (fun _ => 0) 0 false) ∧ Below w.heap.size w wr) (fun v _ => 64 - (intOf v).toNat)
  case atStart => exact ⟨0, by omega, rfl, b1, b2, hb⟩
  case round =>
    clear b1 b2 hb
    obtain ⟨k, hk, rfl, b1, b2, hb⟩ := hrel
    by_cases hlt : k < 64
    · have tk : (k : Int) < 64 := by omega
      have hg : padK x l k k = l.getD k 0 := by unfold padK; rw [if_neg (by omega)]
      have q1 : wr.cell? ⟨w.heap.size, k, none⟩ = some (.int .u8 (l.getD k 0 : Nat)) := by rw [b1.cell, get_bts hlt, hg]
      have q3 := b1.frozen k
      have h1 : l.getD k 0 < 256 := ShaM.getD_lt (by omega) H256.out k
      have hx1 : bits .xor .u8 ((l.getD k 0 : Nat) : Int) (x : Int) = ((l.getD k 0 ^^^ x : Nat) : Int) := u8_xor_nat _ _ h1 hx
      generalize hy : l.getD k 0 = y at *
      have HY := hid hy
      have HG := hid hg
      have B1 := hid b1
      have B2 := hid b2
      have BEL := hid hb
      clear hy hg b1 b2 hb
      go_wp2_with fail
      go_roundw
      case rel =>
        refine ⟨k + 1, by omega, by go_num, ?_, B2.out.setCell_other (by simp) _, BEL.out.setCell (by simp) _⟩
        have h := B1.out.setCell_same k (.int .u8 (y ^^^ x : Nat))
        rw [bts_set, ← HY.out, padK_step] at h
        rw [← HY.out]
        exact h
      case measure => simp [intOf]; omega
    · have tk : decide ((k : Int) < 64) = false := by simp; omega
      rw [show k = 64 by omega, padK_full HL.out] at b1
      have hpl : (HmM.pad x l).length = 64 := by rw [HmM.pad_length, HL.out]
      have hp256 : B256 (HmM.pad x l) := HmM.pad_256 hx H256.out
      have hby : Byt wr wr.heap.size (some ⟨w.heap.size, 0, none⟩) (HmM.pad x l) := b1.byt b1.lt (by omega) fun _ _ => rfl
      have HP := hid hpl
      have HP2 := hid hp256
      have BY := hid hby
      have B2 := hid b2
      have BEL := hid hb
      clear b1 b2 hb hpl hp256 hby
      go_wp2_with fail
      refine (ahead_ok _ (HmM.pad x l) 64 64 HP.out rfl (Nat.le_refl _) (by unfold maxLen; omega) (by omega) HP2.out wr BY.out (SA.out.on BEL.out)).mono ?_
      rintro e w4 ⟨rfl, h4⟩
      have b2 := B2.out.below h4 B2.out.lt
      have hb := BEL.out.trans (h4.mono BEL.out.size)
      have hz2 : w.heap.size + 1 < w4.heap.size := b2.lt
      clear h4 B2 BEL BY HP2 HP
      rw [show ShaM.passes ShaM.seeds (HmM.pad x l) = HmM.from' x l from rfl]
      go_upto_region 7 with ((with_reducible apply stp); rfl; rfl; exact Blk.top zlit_pre rfl)
      generalize hw5 : World.setRow _ _ _ = w5
      have c3 : Blk w5 w4.heap.size 54 (pre (HmM.from' x l).get 64 true) := by rw [← hw5]; exact (Blk.top zlit_pre rfl).setRow_same _
      have c2 : Blk w5 (w.heap.size + 1) 54 (pre (fun _ => 0) 0 false) := by rw [← hw5]; exact (b2.alloc _).setRow_other (by omega) _
      have cb : Below w.heap.size w w5 := by rw [← hw5]; exact below_setRow (hb.alloc (by omega) _) (by omega) _
      clear hw5 b2 hb
      go_wp2_with (first | ((with_reducible apply ldp); rfl; exact c3) | ((with_reducible apply stp); rfl; rfl; exact c2))
      apply ret_row Tryd.results29
      · exact c2.setRow_same _
      · exact Tryd.underlying54
      · rfl
      · exact (info_pre.trans (by rw [size_pre]))
      · rfl
      · rfl
      exact ⟨rfl, below_setRow cb (by omega) _⟩
end Go.Proofs.YtnnhnlabkbjacaaDoor
