/-
  Contract of the document's digest (casemateref03.Sum) over this translation.
  Contract of sha.Ahead over this translation.
  HMAC-SHA-256 in plain numbers: a key's block, tags, stretches; nothing of the program stands here.
  Contracts of hmac.keyBlock, hmac.padded over this translation.
  The structs hmac.keyed and hmac.message, as values and in memory; contracts of hmac.under, (*hmac.message).goOver over this translation.
  Contract of (*hmac.message).add over this translation.
  Contracts of (hmac.keyed).tag, hmac.Parts, hmac.Of over this translation.
  Tags held against each other; bytes out of a literal.
  The type of slices of bytes; '==' of two tags.
  Contracts of the document's keys' blocks and tags (casemateref04.Block, Of, Parts, Bytes) over this translation.
-/
import Derived.Test.YtklmjdhhnnanoaaGreatDoorMrg13
import Derived.Laws.BitsAllLaws
set_option linter.unusedVariables false
set_option linter.unusedSimpArgs false
set_option maxRecDepth 100000
namespace Go.Proofs.YtklmjdhhnnanoaaGreatDoor
open Go.ChangeShapes Go.WideShapes Go.ChangeAt Go.RowKit
attribute [local go_sem] Gives
def F4 (c0 c1 c2 c3 v0 v1 v2 v3 : Nat) (base : Nat → Nat) (d : Nat → Bool) (j : Nat) : Nat :=
  if j = c3 ∧ d 41 = true then v3 else if j = c2 ∧ d 39 = true then v2 else if j = c1 ∧ d 37 = true then v1 else if j = c0 ∧ d 35 = true then v0 else base j
def st4 (j : Nat) : Bool := j == 35 || j == 37 || j == 39 || j == 41
end Go.Proofs.YtklmjdhhnnanoaaGreatDoor
set_option maxRecDepth 100000
namespace Go.Proofs.YtklmjdhhnnanoaaGreatDoor
open Go.ChangeShapes Go.WideShapes Go.ChangeAt Go.RowKit
attribute [local go_sem] Gives
set_option maxHeartbeats 400000 in
set_option maxRecDepth 100000 in
theorem ahead_ok (A : Option Addr) (l : List Nat) (n cap : Nat) (hl : l.length = n) (hn : n % 64 = 0) (hc : n ≤ cap) (hm : cap ≤ maxLen) (hz : n ≤ 1000000000000000) (hb : B256 l) (w : World) (hA : Byt w w.heap.size A l) (hS : Salts w) :
    Calls Tryz.prog 168 #[.slice A n cap] w fun e w' => e = .returned (.tuple #[.agg (pre (ShaM.passes ShaM.seeds l).get n true), .int .i64 0]) ∧ Below w.heap.size w w' := by
  have HB := hid hb
  have HA := hid hA
  have SA := hid hS
  have HL := hid hl
  clear hb hA hS hl
  go_enter Tryz.func168, Tryz.ntmps168
  go_wp2_with fail
  generalize hw3 : World.alloc w _ = w3
  have b2 : Blk w3 w.heap.size 213 (pre (fun _ => 0) 0 false) := by rw [← hw3]; exact Blk.top zlit_pre rfl
  have hb : Below w.heap.size w w3 := by rw [← hw3]; exact (Below.refl _ _).alloc (Nat.le_refl _) _
  clear hw3
  refine (start_any w3).mono ?_
  rintro e w4 ⟨rfl, hb'⟩
  have b2' := b2.below hb' b2.lt
  have hb4 := hb.trans (hb'.mono hb.size)
  clear hb' b2 hb w3
  have B2 := hid b2'
  have BEL := hid hb4
  clear b2' hb4
  go_wp2_with fail
  refine (more_ok ShaM.seeds ShaM.seeds_ok A l n cap 0 HL.out hn hc hm (by omega) HB.out w4 ((HA.out.below BEL.out (Nat.le_refl _)).more BEL.out.size) (SA.out.on BEL.out)).mono ?_
  rintro e w5 ⟨rfl, hb'⟩
  rw [Nat.zero_add]
  have b2 := B2.out.below hb' B2.out.lt
  have hb := BEL.out.trans (hb'.mono BEL.out.size)
  clear hb'
  go_wp2_with ((with_reducible apply stp); rfl; rfl; exact b2)
  apply ret_pre2 Tryz.results168
  · rfl
  · rfl
  · rfl
  · exact b2.setRow_same _
  exact ⟨rfl, below_setRow hb (Nat.le_refl _) _⟩
end Go.Proofs.YtklmjdhhnnanoaaGreatDoor
set_option maxRecDepth 100000
namespace Go.Proofs.YtklmjdhhnnanoaaGreatDoor.HmM
open ShaM
def dl (f : Nat → Nat) : List Nat := (List.range 32).map f
theorem dl_length (f : Nat → Nat) : (dl f).length = 32 := by simp [dl]
theorem dl_get (f : Nat → Nat) {k : Nat} (h : k < 32) : (dl f).getD k 0 = f k := by simp [dl, h]
theorem dl_256 {f : Nat → Nat} (h : ∀ k, f k < 256) : ∀ x ∈ dl f, x < 256 := fun x hx => by
  obtain ⟨k, _, rfl⟩ := List.mem_map.1 hx
  exact h k
def cutK (key : List Nat) : List Nat := if 64 < key.length then dl (sum key) else key
theorem cutK_len (key : List Nat) : (cutK key).length ≤ 64 := by
  unfold cutK; split
  · rw [dl_length]; omega
  · omega
def blk (key : List Nat) : List Nat := cutK key ++ List.replicate (64 - (cutK key).length) 0
theorem blk_length (key : List Nat) : (blk key).length = 64 := by
  have := cutK_len key
  simp [blk]; omega
theorem blk_get (key : List Nat) (j : Nat) : (blk key).getD j 0 = if j < (cutK key).length then (cutK key).getD j 0 else 0 := by
  unfold blk
  rw [List.getD_eq_getElem?_getD, List.getD_eq_getElem?_getD]
  by_cases h : j < (cutK key).length
  · rw [if_pos h, List.getElem?_append_left h]
  · rw [if_neg h, List.getElem?_append_right (by omega), List.getElem?_replicate]
    split <;> rfl
theorem sum_256 (l : List Nat) (k : Nat) : sum l k < 256 := digest_lt _ k
theorem cutK_256 {key : List Nat} (h : ∀ x ∈ key, x < 256) : ∀ x ∈ cutK key, x < 256 := by
  unfold cutK; split
  · exact dl_256 (sum_256 key)
  · exact h
theorem blk_256 {key : List Nat} (h : ∀ x ∈ key, x < 256) : ∀ x ∈ blk key, x < 256 := fun x hx => by
  rcases List.mem_append.1 hx with hx | hx
  · exact cutK_256 h x hx
  · rw [(List.mem_replicate.1 hx).2]; omega
def pad (x : Nat) (k : List Nat) : List Nat := k.map (· ^^^ x)
theorem pad_length (x : Nat) (k : List Nat) : (pad x k).length = k.length := by simp [pad]
theorem pad_get (x : Nat) (k : List Nat) {j : Nat} (h : j < k.length) : (pad x k).getD j 0 = k.getD j 0 ^^^ x := by
  simp [pad, List.getD_eq_getElem?_getD, h]
theorem pad_256 {x : Nat} (hx : x < 256) {k : List Nat} (h : ∀ y ∈ k, y < 256) : ∀ y ∈ pad x k, y < 256 := fun y hy => by
  obtain ⟨z, hz, rfl⟩ := List.mem_map.1 hy
  exact Nat.xor_lt_two_pow (n := 8) (h z hz) hx
def tag (key b : List Nat) : Nat → Nat := sum (pad 92 (blk key) ++ dl (sum (pad 54 (blk key) ++ b)))
def from' (x : Nat) (bk : List Nat) : S8 := passes seeds (pad x bk)
theorem from_ok (x : Nat) (bk : List Nat) : (from' x bk).ok := passes_ok _ (Nat.le_refl _) seeds_ok
theorem sum_from {x : Nat} {bk b : List Nat} (h : bk.length = 64) : sum (pad x bk ++ b) = digest (ended (from' x bk) 64 b) := by
  unfold sum from'
  rw [ended_append (n := 1) (by rw [pad_length, h]), pad_length, h]
def link (key b : List Nat) : Nat → List Nat
  | 0 => []
  | n + 1 => dl (tag key (link key b n ++ b ++ [(n + 1) % 256]))
def chain (key b : List Nat) : Nat → List Nat
  | 0 => []
  | n + 1 => chain key b n ++ link key b (n + 1)
def stretch (key b : List Nat) (size : Nat) : List Nat := (chain key b ((size + 31) / 32)).take size
end Go.Proofs.YtklmjdhhnnanoaaGreatDoor.HmM
set_option maxRecDepth 100000
namespace Go.Proofs.YtklmjdhhnnanoaaGreatDoor
open Go.ChangeShapes Go.WideShapes Go.ChangeAt Go.RowKit
attribute [local go_sem] Gives
theorem zlit_b64 : (#[.int .u8 0, .int .u8 0, .int .u8 0, .int .u8 0, .int .u8 0, .int .u8 0, .int .u8 0, .int .u8 0, .int .u8 0, .int .u8 0, .int .u8 0, .int .u8 0, .int .u8 0, .int .u8 0, .int .u8 0, .int .u8 0, .int .u8 0, .int .u8 0, .int .u8 0, .int .u8 0, .int .u8 0, .int .u8 0, .int .u8 0, .int .u8 0, .int .u8 0, .int .u8 0, .int .u8 0, .int .u8 0, .int .u8 0, .int .u8 0, .int .u8 0, .int .u8 0, .int .u8 0, .int .u8 0, .int .u8 0, .int .u8 0, .int .u8 0, .int .u8 0, .int .u8 0, .int .u8 0, .int .u8 0, .int .u8 0, .int .u8 0, .int .u8 0, .int .u8 0, .int .u8 0, .int .u8 0, .int .u8 0, .int .u8 0, .int .u8 0, .int .u8 0, .int .u8 0, .int .u8 0, .int .u8 0, .int .u8 0, .int .u8 0, .int .u8 0, .int .u8 0, .int .u8 0, .int .u8 0, .int .u8 0, .int .u8 0, .int .u8 0, .int .u8 0] : Array Value) = bts 64 fun _ => 0 := by rfl
theorem info_b64 : (Tryz.prog.info? 36).map (·.size) = some 64 := by kernel_rfl
section
variable {ops : Array Oper} {Q : Exit → Act → World → Prop} {a : Act} {w : World} {rest : List Oper} {dst : Option Tmp} {ty : TypeId} {pos : String} {after : Array Edge} {x y : Operand} {g : Nat} {f f0 : Nat → Nat}
theorem ldb (hx : a.eval x = .pointer (some ⟨g, 0, none⟩)) (hb : Blk w g 36 (bts 64 f)) (h : wpList Tryz.prog ops Q rest (a.put dst (.agg (bts 64 f))) w) :
    wpList Tryz.prog ops Q (⟨dst, .load 36 x, ty, pos, after, none⟩ :: rest) a w :=
  step_load_row hb Tryz.underlying36 rfl (info_b64.trans (by rw [size_bts])) hx h
theorem stb (hx : a.eval x = .pointer (some ⟨g, 0, none⟩)) (hy : a.eval y = .agg (bts 64 f)) (hb : Blk w g 36 (bts 64 f0)) (h : wpList Tryz.prog ops Q rest (a.put dst undef) (w.setRow g (bts 64 f))) :
    wpList Tryz.prog ops Q (⟨dst, .store 36 x y, ty, pos, after, none⟩ :: rest) a w :=
  step_store_row hb (info_b64.trans (by rw [size_bts])) (by rw [size_bts, size_bts]) bts_one hx hy h
end
abbrev l64 (l : List Nat) : Array Value := bts 64 fun j => l.getD j 0
theorem key_row {key : List Nat} {n : Nat} (h : (HmM.cutK key).length = n) : (bts 64 fun j => if j < n then ShaM.at' (HmM.cutK key) j else 0) = l64 (HmM.blk key) := bts_ext fun j _ => by
  subst h
  rw [HmM.blk_get]; rfl
set_option maxHeartbeats 400000 in
set_option maxRecDepth 100000 in
theorem key_short (A : Option Addr) (l : List Nat) (n cap : Nat) (hl : l.length = n) (hn : n ≤ 64) (hc : n ≤ cap) (hm : cap ≤ maxLen) (w : World) (hA : Byt w w.heap.size A l) :
    Calls Tryz.prog 147 #[.slice A n cap] w fun e w' => e = .returned (.agg (l64 (HmM.blk l))) ∧ Below w.heap.size w w' := by
  have HA := hid hA
  have HL := hid hl
  have hk : HmM.cutK l = l := by unfold HmM.cutK; rw [if_neg (by omega)]
  have HK := hid hk
  clear hA hl hk
  have t0 : decide ((64 : Int) < (n : Int)) = false := by simp; omega
  go_enter Tryz.func147, Tryz.ntmps147
  go_upto_region 5 with fail
  generalize hw3 : World.alloc (World.alloc w _) _ = w3
  have b1 : Blk w3 w.heap.size 36 (bts 64 fun _ => 0) := by rw [← hw3]; exact (Blk.top zlit_b64 rfl).alloc _
  have b2 : Blk w3 (w.heap.size + 1) 36 (bts 64 fun _ => 0) := by rw [← hw3]; exact Blk.top zlit_b64 (by simp)
  have hb : Below w.heap.size w w3 := by rw [← hw3]; exact ((Below.refl _ _).alloc (Nat.le_refl _) _).alloc (by simp) _
  clear hw3
  have ha := (HA.out.below hb (Nat.le_refl _))
  go_upto_region 6 with ((with_reducible apply wcopy); rfl; rfl; exact b2; exact ha; exact HL.out; omega)
  generalize hw4 : World.setRow _ _ _ = w4
  have c2 : Blk w4 (w.heap.size + 1) 36 (l64 (HmM.blk l)) := by
    rw [← hw4]
    have h := b2.setRow_same (bts 64 fun j => if j < n then ShaM.at' l j else 0)
    rw [← key_row (key := l) (n := n) (by rw [HK.out, HL.out]), HK.out]
    exact h
  have c1 : Blk w4 w.heap.size 36 (bts 64 fun _ => 0) := by rw [← hw4]; exact b1.setRow_other (by omega) _
  have cb : Below w.heap.size w w4 := by rw [← hw4]; exact below_setRow hb (by omega) _
  clear hw4 b1 b2 hb ha w3
  go_wp2_with (first | ((with_reducible apply ldb); rfl; exact c2) | ((with_reducible apply stb); rfl; rfl; exact c1))
  apply ret_row Tryz.results147
  · exact c1.setRow_same _
  · exact Tryz.underlying36
  · rfl
  · exact (info_b64.trans (by rw [size_bts]))
  · rfl
  · rfl
  exact ⟨rfl, below_setRow cb (Nat.le_refl _) _⟩
set_option maxHeartbeats 400000 in
set_option maxRecDepth 100000 in
theorem key_long (A : Option Addr) (l : List Nat) (n cap : Nat) (hl : l.length = n) (hn : 64 < n) (hc : n ≤ cap) (hm : cap ≤ maxLen) (hz : n ≤ 1000000000000000) (h256 : B256 l) (w : World) (hA : Byt w w.heap.size A l) (hS : Salts w) :
    Calls Tryz.prog 147 #[.slice A n cap] w fun e w' => e = .returned (.agg (l64 (HmM.blk l))) ∧ Below w.heap.size w w' := by
  have HA := hid hA
  have HL := hid hl
  have SA := hid hS
  have H256 := hid h256
  have hk : HmM.cutK l = HmM.dl (ShaM.sum l) := by unfold HmM.cutK; rw [if_pos (by omega)]
  have HK := hid hk
  clear hA hl hk hS h256
  have t0 : decide ((64 : Int) < (n : Int)) = true := by simp; omega
  go_enter Tryz.func147, Tryz.ntmps147
  go_upto_region 3 with fail
  generalize hw3 : World.alloc (World.alloc w _) _ = w3
  have b1 : Blk w3 w.heap.size 36 (bts 64 fun _ => 0) := by rw [← hw3]; exact (Blk.top zlit_b64 rfl).alloc _
  have b2 : Blk w3 (w.heap.size + 1) 36 (bts 64 fun _ => 0) := by rw [← hw3]; exact Blk.top zlit_b64 (by simp)
  have hb : Below w.heap.size w w3 := by rw [← hw3]; exact ((Below.refl _ _).alloc (Nat.le_refl _) _).alloc (by simp) _
  clear hw3
  have B1 := hid b1
  have B2 := hid b2
  have BEL := hid hb
  clear b1 b2 hb
  go_wp2_with fail
  refine (sum_any A l n cap HL.out hc hm hz H256.out w3 ((HA.out.below BEL.out (Nat.le_refl _)).more BEL.out.size) (SA.out.on BEL.out)).mono ?_
  rintro e w4 ⟨rfl, h4⟩
  have b1 := B1.out.below h4 B1.out.lt
  have b2 := B2.out.below h4 B2.out.lt
  have hb := BEL.out.trans (h4.mono BEL.out.size)
  have hz2 : w.heap.size + 1 < w4.heap.size := b2.lt
  clear h4 B1 B2 BEL
  go_upto_region 5 with ((with_reducible apply stt); rfl; rfl; exact Blk.top zlit_tag rfl)
  generalize hw5 : World.setRow _ _ _ = w5
  have c3 : Blk w5 w4.heap.size 81 (tag (ShaM.sum l)) := by rw [← hw5]; exact (Blk.top zlit_tag rfl).setRow_same _
  have c1 : Blk w5 w.heap.size 36 (bts 64 fun _ => 0) := by rw [← hw5]; exact (b1.alloc _).setRow_other (by omega) _
  have c2 : Blk w5 (w.heap.size + 1) 36 (bts 64 fun _ => 0) := by rw [← hw5]; exact (b2.alloc _).setRow_other (by omega) _
  have cb : Below w.heap.size w w5 := by rw [← hw5]; exact below_setRow (hb.alloc (by omega) _) (by omega) _
  have ha : Byt w5 w5.heap.size (some ⟨w4.heap.size, 0, none⟩) (HmM.dl (ShaM.sum l)) := Blk.byt c3 c3.lt (by rw [HmM.dl_length]; omega) fun j hj => by rw [HmM.dl_length] at hj; exact HmM.dl_get _ hj
  clear hw5 b1 b2 hb
  go_upto_region 6 with ((with_reducible apply wcopy); rfl; rfl; exact c2; exact ha; exact HmM.dl_length _; omega)
  generalize hw6 : World.setRow _ _ _ = w6
  have d2 : Blk w6 (w.heap.size + 1) 36 (l64 (HmM.blk l)) := by
    rw [← hw6]
    have h := c2.setRow_same (bts 64 fun j => if j < 32 then ShaM.at' (HmM.dl (ShaM.sum l)) j else 0)
    rw [← key_row (key := l) (n := 32) (by rw [HK.out, HmM.dl_length]), HK.out]
    exact h
  have d1 : Blk w6 w.heap.size 36 (bts 64 fun _ => 0) := by rw [← hw6]; exact c1.setRow_other (by omega) _
  have db : Below w.heap.size w w6 := by rw [← hw6]; exact below_setRow cb (by omega) _
  clear hw6 c1 c2 c3 cb ha
  go_wp2_with (first | ((with_reducible apply ldb); rfl; exact d2) | ((with_reducible apply stb); rfl; rfl; exact d1))
  apply ret_row Tryz.results147
  · exact d1.setRow_same _
  · exact Tryz.underlying36
  · rfl
  · exact (info_b64.trans (by rw [size_bts]))
  · rfl
  · rfl
  exact ⟨rfl, below_setRow db (Nat.le_refl _) _⟩
theorem key_any (A : Option Addr) (l : List Nat) (n cap : Nat) (hl : l.length = n) (hc : n ≤ cap) (hm : cap ≤ maxLen) (hz : n ≤ 1000000000000000) (h256 : B256 l) (w : World) (hA : Byt w w.heap.size A l) (hS : Salts w) :
    Calls Tryz.prog 147 #[.slice A n cap] w fun e w' => e = .returned (.agg (l64 (HmM.blk l))) ∧ Below w.heap.size w w' := by
  rcases Nat.lt_or_ge 64 n with h | h
  · exact key_long A l n cap hl h hc hm hz h256 w hA hS
  · exact key_short A l n cap hl h hc hm w hA
def padK (x : Nat) (l : List Nat) (k j : Nat) : Nat := if j < k then l.getD j 0 ^^^ x else l.getD j 0
theorem padK_step (x : Nat) (l : List Nat) (k : Nat) : (fun j => if j = k then l.getD k 0 ^^^ x else padK x l k j) = padK x l (k + 1) := funext fun j => by
  unfold padK
  by_cases h : j = k
  · subst h; rw [if_pos rfl, if_pos (by omega)]
  · rw [if_neg h]
    by_cases h2 : j < k
    · rw [if_pos h2, if_pos (by omega)]
    · rw [if_neg h2, if_neg (by omega)]
theorem padK_full {x : Nat} {l : List Nat} (h : l.length = 64) : bts 64 (padK x l 64) = l64 (HmM.pad x l) := bts_ext fun j hj => by
  unfold padK
  rw [if_pos hj, HmM.pad_get x l (by omega)]
set_option maxHeartbeats 400000 in
set_option maxRecDepth 100000 in
theorem padded_any (l : List Nat) (hl : l.length = 64) (h256 : B256 l) (x : Nat) (hx : x < 256) (w : World) (hS : Salts w) :
    Calls Tryz.prog 148 #[.agg (l64 l), .int .u8 x] w fun e w' => e = .returned (.agg (pre (HmM.from' x l).get 64 true)) ∧ Below w.heap.size w w' := by
  have HL := hid hl
  have SA := hid hS
  have H256 := hid h256
  clear hl hS h256
  go_enter Tryz.func148, Tryz.ntmps148
  go_upto_region 2 with fail
  generalize hw3 : World.alloc (World.alloc w _) _ = w3
  have b1 : Blk w3 w.heap.size 36 (bts 64 (padK x l 0)) := by rw [← hw3]; exact (Blk.top rfl rfl).alloc _
  have b2 : Blk w3 (w.heap.size + 1) 213 (pre (fun _ => 0) 0 false) := by rw [← hw3]; exact Blk.top zlit_pre (by simp)
  have hb : Below w.heap.size w w3 := by rw [← hw3]; exact ((Below.refl _ _).alloc (Nat.le_refl _) _).alloc (by simp) _
  clear hw3
  go_loopw [8] (fun v wr => ∃ k : Nat, k ≤ 64 ∧ v = .int .i64 k ∧ Blk wr w.heap.size 36 (bts 64 (padK x l k)) ∧ Blk wr (w.heap.size + 1) 213 (pre (fun _ => 0) 0 false) ∧ Below w.heap.size w wr) (fun v _ => 64 - (intOf v).toNat)
  case atStart => exact ⟨0, by omega, rfl, b1, b2, hb⟩
  case round =>
    clear b1 b2 hb
    obtain ⟨k, hk, rfl, b1, b2, hb⟩ := hrel
    by_cases hlt : k < 64
    · have tk : (k : Int) < 64 := by omega
      have hg : padK x l k k = l.getD k 0 := by unfold padK; rw [if_neg (by omega)]
      have q1 : wr.cell? ⟨w.heap.size, k, none⟩ = some (.int .u8 (l.getD k 0 : Nat)) := by rw [b1.cell, get_bts hlt, hg]
      have q3 := b1.frozen k
      have h1 : l.getD k 0 < 256 := ShaM.getD_lt (by omega) H256.out k
      have hx1 : bits .xor .u8 ((l.getD k 0 : Nat) : Int) (x : Int) = ((l.getD k 0 ^^^ x : Nat) : Int) := u8_xor_nat _ _ h1 hx
      generalize hy : l.getD k 0 = y at *
      have HY := hid hy
      have HG := hid hg
      have B1 := hid b1
      have B2 := hid b2
      have BEL := hid hb
      clear hy hg b1 b2 hb
      go_wp2_with fail
      go_roundw
      case rel =>
        refine ⟨k + 1, by omega, by go_num, ?_, B2.out.setCell_other (by simp) _, BEL.out.setCell (by simp) _⟩
        have h := B1.out.setCell_same k (.int .u8 (y ^^^ x : Nat))
        rw [bts_set, ← HY.out, padK_step] at h
        rw [← HY.out]
        exact h
      case measure => simp [intOf]; omega
    · have tk : decide ((k : Int) < 64) = false := by simp; omega
      rw [show k = 64 by omega, padK_full HL.out] at b1
      have hpl : (HmM.pad x l).length = 64 := by rw [HmM.pad_length, HL.out]
      have hp256 : B256 (HmM.pad x l) := HmM.pad_256 hx H256.out
      have hby : Byt wr wr.heap.size (some ⟨w.heap.size, 0, none⟩) (HmM.pad x l) := b1.byt b1.lt (by omega) fun _ _ => rfl
      have HP := hid hpl
      have HP2 := hid hp256
      have BY := hid hby
      have B2 := hid b2
      have BEL := hid hb
      clear b1 b2 hb hpl hp256 hby
      go_wp2_with fail
      refine (ahead_ok _ (HmM.pad x l) 64 64 HP.out rfl (Nat.le_refl _) (by unfold maxLen; omega) (by omega) HP2.out wr BY.out (SA.out.on BEL.out)).mono ?_
      rintro e w4 ⟨rfl, h4⟩
      have b2 := B2.out.below h4 B2.out.lt
      have hb := BEL.out.trans (h4.mono BEL.out.size)
      have hz2 : w.heap.size + 1 < w4.heap.size := b2.lt
      clear h4 B2 BEL BY HP2 HP
      rw [show ShaM.passes ShaM.seeds (HmM.pad x l) = HmM.from' x l from rfl]
      go_upto_region 7 with ((with_reducible apply stp); rfl; rfl; exact Blk.top zlit_pre rfl)
      generalize hw5 : World.setRow _ _ _ = w5
      have c3 : Blk w5 w4.heap.size 213 (pre (HmM.from' x l).get 64 true) := by rw [← hw5]; exact (Blk.top zlit_pre rfl).setRow_same _
      have c2 : Blk w5 (w.heap.size + 1) 213 (pre (fun _ => 0) 0 false) := by rw [← hw5]; exact (b2.alloc _).setRow_other (by omega) _
      have cb : Below w.heap.size w w5 := by rw [← hw5]; exact below_setRow (hb.alloc (by omega) _) (by omega) _
      clear hw5 b2 hb
      go_wp2_with (first | ((with_reducible apply ldp); rfl; exact c3) | ((with_reducible apply stp); rfl; rfl; exact c2))
      apply ret_row Tryz.results148
      · exact c2.setRow_same _
      · exact Tryz.underlying213
      · rfl
      · exact (info_pre.trans (by rw [size_pre]))
      · rfl
      · rfl
      exact ⟨rfl, below_setRow cb (by omega) _⟩
end Go.Proofs.YtklmjdhhnnanoaaGreatDoor
set_option maxRecDepth 100000
namespace Go.Proofs.YtklmjdhhnnanoaaGreatDoor
open Go.ChangeShapes Go.WideShapes Go.ChangeAt Go.RowKit
attribute [local go_sem] Gives
def preC (f : Nat → Nat) (m : Nat) (b : Bool) (j : Nat) : Value := if j < 8 then .int .u32 (f j : Nat) else if j = 8 then .int .i64 m else .bool b
theorem pre_row (f : Nat → Nat) (m : Nat) (b : Bool) : pre f m b = row 10 (preC f m b) := rfl
theorem preC_one (f : Nat → Nat) (m : Nat) (b : Bool) (j : Nat) : (preC f m b j).oneCell' = true := by
  unfold preC
  by_cases h : j < 8
  · simp only [h, if_true]; rfl
  · simp only [h, if_false]
    by_cases h2 : j = 8
    · simp only [h2, if_true]; rfl
    · simp only [h2, if_false]; rfl
def kyd (f g : Nat → Nat) : Array Value := row 20 fun j => if j < 10 then preC f 64 true j else preC g 64 true (j - 10)
theorem size_kyd {f g : Nat → Nat} : (kyd f g).size = 20 := size_row
theorem info_kyd : (Tryz.prog.info? 215).map (·.size) = some 20 := by kernel_rfl
theorem built_kyd (f g : Nat → Nat) : Tryz.prog.built 215 [(0, .agg (pre f 64 true)), (1, .agg (pre g 64 true))] = some (kyd f g) := by kernel_rfl
theorem zlit_kyd : (#[.int .u32 0, .int .u32 0, .int .u32 0, .int .u32 0, .int .u32 0, .int .u32 0, .int .u32 0, .int .u32 0, .int .i64 0, .bool false, .int .u32 0, .int .u32 0, .int .u32 0, .int .u32 0, .int .u32 0, .int .u32 0, .int .u32 0, .int .u32 0, .int .i64 0, .bool false] : Array Value) = row 20 fun j => if j < 10 then preC (fun _ => 0) 0 false j else preC (fun _ => 0) 0 false (j - 10) := by rfl
theorem kyd_one {f g : Nat → Nat} : (kyd f g).all (·.oneCell') = true := row_one fun k _ => by
  by_cases h : k < 10
  · simp only [h, if_true]; exact preC_one _ _ _ _
  · simp only [h, if_false]; exact preC_one _ _ _ _
def msg (f : Nat → Nat) (m : Nat) (l : Nat → Nat) (n : Nat) : Array Value := row 75 fun j => if j < 10 then preC f m true j else if j < 74 then .int .u8 (l (j - 10) : Nat) else .int .i64 n
theorem size_msg {f : Nat → Nat} {m : Nat} {l : Nat → Nat} {n : Nat} : (msg f m l n).size = 75 := size_row
theorem info_msg : (Tryz.prog.info? 230).map (·.size) = some 75 := by kernel_rfl
theorem built_msg (f : Nat → Nat) : Tryz.prog.built 230 [(0, .agg (pre f 64 true))] = some (msg f 64 (fun _ => 0) 0) := by kernel_rfl
theorem msg_one {f : Nat → Nat} {m : Nat} {l : Nat → Nat} {n : Nat} : (msg f m l n).all (·.oneCell') = true := row_one fun k _ => by
  by_cases h : k < 10
  · simp only [h, if_true]; exact preC_one _ _ _ _
  · simp only [h, if_false]
    by_cases h2 : k < 74
    · simp only [h2, if_true]; rfl
    · simp only [h2, if_false]; rfl
section
variable {w : World} {g m n : Nat} {t : TypeId} {f k : Nat → Nat} {l : Nat → Nat}
theorem Blk.kydA (h : Blk w g t (kyd f k)) : w.rangeAt g 0 (pre f 64 true).toList := fun j v hj => by
  have hj8 : j < 10 := by have := (List.getElem?_eq_some_iff.1 hj).1; rwa [Array.length_toList, size_pre] at this
  rw [Array.getElem?_toList, pre_row, get_row_lt hj8] at hj
  rw [Nat.zero_add, h.cell]
  unfold kyd
  rw [get_row_lt (by omega), if_pos hj8]
  exact hj
theorem Blk.kydB (h : Blk w g t (kyd f k)) : w.rangeAt g 10 (pre k 64 true).toList := fun j v hj => by
  have hj8 : j < 10 := by have := (List.getElem?_eq_some_iff.1 hj).1; rwa [Array.length_toList, size_pre] at this
  rw [Array.getElem?_toList, pre_row, get_row_lt hj8] at hj
  rw [h.cell]
  unfold kyd
  rw [get_row_lt (by omega), if_neg (by omega), show 10 + j - 10 = j by omega]
  exact hj
theorem Blk.msgA (h : Blk w g t (msg f m l n)) : w.rangeAt g 0 (pre f m true).toList := fun j v hj => by
  have hj8 : j < 10 := by have := (List.getElem?_eq_some_iff.1 hj).1; rwa [Array.length_toList, size_pre] at this
  rw [Array.getElem?_toList, pre_row, get_row_lt hj8] at hj
  rw [Nat.zero_add, h.cell]
  unfold msg
  rw [get_row_lt (by omega), if_pos hj8]
  exact hj
theorem Blk.msgN (h : Blk w g t (msg f m l n)) : w.cell? ⟨g, 74, none⟩ = some (.int .i64 n) := by
  rw [h.cell]; unfold msg; rw [get_row_lt (by omega), if_neg (by omega), if_neg (by omega)]
theorem Blk.msgL (h : Blk w g t (msg f m l n)) {j : Nat} (hj : j < 64) : w.cell? ⟨g, 10 + j, none⟩ = some (.int .u8 (l j : Nat)) := by
  rw [h.cell]; unfold msg; rw [get_row_lt (by omega), if_neg (by omega), if_pos (by omega), show 10 + j - 10 = j by omega]
theorem Blk.msgByt (h : Blk w g t (msg f m l n)) {B : Nat} (hg : g < B) {L : List Nat} (hL : L.length ≤ 64) (he : ∀ j, j < L.length → L.getD j 0 = l j) : Byt w B (some ⟨g, 10, none⟩) L := fun _ =>
  ⟨g, 10, rfl, hg, fun i hi => by rw [h.msgL (by omega), he i hi]⟩
theorem Blk.msgSetN (h : Blk w g t (msg f m l n)) (n' : Nat) : Blk (w.setCell ⟨g, 74, none⟩ (.int .i64 n')) g t (msg f m l n') := by
  have h1 := h.setCell_same 74 (.int .i64 n')
  have e : (msg f m l n).setIfInBounds 74 (.int .i64 n') = msg f m l n' := by
    unfold msg
    rw [row_set]
    refine row_ext fun j hj => ?_
    by_cases h2 : j = 74
    · subst h2; simp
    · rw [if_neg h2]
      by_cases h3 : j < 10
      · rw [if_pos h3, if_pos h3]
      · rw [if_neg h3, if_neg h3, if_pos (by omega), if_pos (by omega)]
  rw [e] at h1
  exact h1
theorem pre_getD (f : Nat → Nat) (m : Nat) (b : Bool) {j : Nat} (h : j < 10) : (pre f m b).toList.getD j undef = preC f m b j := by
  rw [List.getD_eq_getElem?_getD, Array.getElem?_toList, pre_row, get_row_lt h]; rfl
theorem Blk.msgSetP (h : Blk w g t (msg f m l n)) (f' : Nat → Nat) (m' : Nat) : Blk (w.setCells g 0 (pre f' m' true).toList) g t (msg f' m' l n) ∧ Below g w (w.setCells g 0 (pre f' m' true).toList) := by
  have hl : (pre f' m' true).toList.length = 10 := by rw [Array.length_toList, size_pre]
  obtain ⟨h1, h2⟩ := blk_setCells (pre f' m' true).toList 0 w _ h (by rw [hl]; omega)
  refine ⟨?_, h2⟩
  unfold msg
  rw [row_ext (g := fun j => if j < 10 then preC f' m' true j else if j < 74 then .int .u8 (l (j - 10) : Nat) else .int .i64 n) fun j _ => ?_] at h1
  · exact h1
  · rw [hl]
    by_cases e : j < 10
    · rw [if_pos (by omega), if_pos e, Nat.sub_zero, pre_getD _ _ _ e]
    · rw [if_neg (by omega), if_neg e, if_neg e]
end
section
variable {ops : Array Oper} {Q : Exit → Act → World → Prop} {a : Act} {w : World} {rest : List Oper} {dst : Option Tmp} {ty : TypeId} {pos : String} {after : Array Edge} {x y : Operand} {g o m m' n : Nat} {f f' l : Nat → Nat} {b : Bool}
theorem ldpm (hx : a.eval x = .pointer (some ⟨g, o, none⟩)) (hc : w.rangeAt g o (pre f m b).toList) (h : wpList Tryz.prog ops Q rest (a.put dst (.agg (pre f m b))) w) :
    wpList Tryz.prog ops Q (⟨dst, .load 213 x, ty, pos, after, none⟩ :: rest) a w :=
  step_load_mid hc Tryz.underlying213 rfl (info_pre.trans (by rw [Array.length_toList, size_pre])) hx (by rw [Array.toArray_toList]; exact h)
theorem stpm {t : TypeId} (hx : a.eval x = .pointer (some ⟨g, 0, none⟩)) (hy : a.eval y = .agg (pre f' m' true)) (hb : Blk w g t (msg f m l n))
    (h : ∀ w', Blk w' g t (msg f' m' l n) → Below g w w' → wpList Tryz.prog ops Q rest (a.put dst undef) w') :
    wpList Tryz.prog ops Q (⟨dst, .store 213 x y, ty, pos, after, none⟩ :: rest) a w := by
  refine wpList_store_mid rfl 213 x y rfl g 0 (pre f' m' true) hx hy ?_ (info_pre.trans (by rw [size_pre])) pre_one ?_
  · intro j hj
    rw [size_pre] at hj
    refine ⟨?_, hb.frozen _⟩
    rw [hb.cell]
    unfold msg
    rw [get_row_lt (by omega)]; rfl
  · exact h _ (hb.msgSetP f' m').1 (hb.msgSetP f' m').2
theorem bldm (hy : a.eval x = .agg (pre f 64 true)) (h : wpList Tryz.prog ops Q rest (a.put dst (.agg (msg f 64 (fun _ => 0) 0))) w) :
    wpList Tryz.prog ops Q (⟨dst, .build 230 #[(0, x)], ty, pos, after, none⟩ :: rest) a w := by
  refine wpList_plain rfl fun K hK => ?_
  have hr := run_build (P := Tryz.prog) w 230 #[(0, a.eval x)] _ (by rw [hy]; exact built_msg f)
  unfold Oper.wp
  simp [execOp, hr, Result.andThen]
  exact hK _ _ h
theorem stm {t : TypeId} {old : Array Value} (hx : a.eval x = .pointer (some ⟨g, 0, none⟩)) (hy : a.eval y = .agg (msg f m l n)) (hb : Blk w g t old) (ho : old.size = 75) (h : wpList Tryz.prog ops Q rest (a.put dst undef) (w.setRow g (msg f m l n))) :
    wpList Tryz.prog ops Q (⟨dst, .store 230 x y, ty, pos, after, none⟩ :: rest) a w :=
  step_store_row hb (info_msg.trans (by rw [size_msg])) (by rw [size_msg, ho]) msg_one hx hy h
theorem stk {t : TypeId} {old : Array Value} (hx : a.eval x = .pointer (some ⟨g, 0, none⟩)) (hy : a.eval y = .agg (kyd f f')) (hb : Blk w g t old) (ho : old.size = 20) (h : wpList Tryz.prog ops Q rest (a.put dst undef) (w.setRow g (kyd f f'))) :
    wpList Tryz.prog ops Q (⟨dst, .store 215 x y, ty, pos, after, none⟩ :: rest) a w :=
  step_store_row hb (info_kyd.trans (by rw [size_kyd])) (by rw [size_kyd, ho]) kyd_one hx hy h
theorem klb {C : World → Prop} {Qk : Act → Prop} {gd : Option (Nat × Bool)} (hwt : Region.wanted ⟨dst, .load 36 x, ty, pos, after, gd⟩ (yielded ops a.tmps) = true) (hx : a.eval x = .pointer (some ⟨g, 0, none⟩)) (hb : ∀ w, C w → Blk w g 36 (bts 64 f)) (h : wpK Tryz.prog ops C Qk rest (a.put dst (.agg (bts 64 f)))) :
    wpK Tryz.prog ops C Qk (⟨dst, .load 36 x, ty, pos, after, gd⟩ :: rest) a :=
  wpK_val hwt (fun w hw => gives_value (w' := w) (by
    have h1 : w.rangeAt g 0 (bts 64 f).toList := fun j v hj => by
      rw [Array.getElem?_toList] at hj
      rw [Nat.zero_add, (hb w hw).cell]
      exact hj
    have := run_loadAt_mid (P := Tryz.prog) w g 0 36 (bts 64 f).toList _ h1 Tryz.underlying36 rfl (info_b64.trans (by rw [Array.length_toList, size_bts]))
    rw [Array.toArray_toList] at this
    simp only [execOp, hx, Sem.run_bind, this, Result.andThen_ok, Sem.run_pure]) hw) h
theorem bldk {C : World → Prop} {Qk : Act → Prop} {gd : Option (Nat × Bool)} (hwt : Region.wanted ⟨dst, .build 215 #[(0, x), (1, y)], ty, pos, after, gd⟩ (yielded ops a.tmps) = true) (hx : a.eval x = .agg (pre f 64 true)) (hy : a.eval y = .agg (pre f' 64 true))
    (h : wpK Tryz.prog ops C Qk rest (a.put dst (.agg (kyd f f')))) : wpK Tryz.prog ops C Qk (⟨dst, .build 215 #[(0, x), (1, y)], ty, pos, after, gd⟩ :: rest) a :=
  wpK_val hwt (fun w hw => by
    have hr := run_build (P := Tryz.prog) w 215 #[(0, a.eval x), (1, a.eval y)] _ (by rw [hx, hy]; exact built_kyd f f')
    refine gives_value (w' := w) ?_ hw
    simp [execOp, hr, Result.andThen]) h
end
set_option maxHeartbeats 400000 in
set_option maxRecDepth 100000 in
theorem under_any (A : Option Addr) (l : List Nat) (n cap : Nat) (hl : l.length = n) (hc : n ≤ cap) (hm : cap ≤ maxLen) (hz : n ≤ 1000000000000000) (h256 : B256 l) (w : World) (hA : Byt w w.heap.size A l) (hS : Salts w) :
    Calls Tryz.prog 138 #[.slice A n cap] w fun e w' => e = .returned (.agg (kyd (HmM.from' 54 (HmM.blk l)).get (HmM.from' 92 (HmM.blk l)).get)) ∧ Below w.heap.size w w' := by
  have HA := hid hA
  have HL := hid hl
  have SA := hid hS
  have H256 := hid h256
  clear hA hl hS h256
  go_enter Tryz.func138, Tryz.ntmps138
  go_upto_region 1 with fail
  generalize hw3 : World.alloc w _ = w3
  have b1 : Blk w3 w.heap.size 215 (row 20 fun j => if j < 10 then preC (fun _ => 0) 0 false j else preC (fun _ => 0) 0 false (j - 10)) := by rw [← hw3]; exact Blk.top zlit_kyd rfl
  have hb : Below w.heap.size w w3 := by rw [← hw3]; exact (Below.refl _ _).alloc (Nat.le_refl _) _
  clear hw3
  have B1 := hid b1
  have BEL := hid hb
  clear b1 hb
  go_wp2_with fail
  refine (key_any A l n cap HL.out hc hm hz H256.out w3 ((HA.out.below BEL.out (Nat.le_refl _)).more BEL.out.size) (SA.out.on BEL.out)).mono ?_
  rintro e w4 ⟨rfl, h4⟩
  have b1 := B1.out.below h4 B1.out.lt
  have hb := BEL.out.trans (h4.mono BEL.out.size)
  have hz2 : w.heap.size < w4.heap.size := b1.lt
  clear h4 B1 BEL w3
  go_upto_region 2 with ((with_reducible apply stb); rfl; rfl; exact Blk.top zlit_b64 rfl)
  generalize hw5 : World.setRow _ _ _ = w5
  have c3 : Blk w5 w4.heap.size 36 (l64 (HmM.blk l)) := by rw [← hw5]; exact (Blk.top zlit_b64 rfl).setRow_same _
  have c1 : Blk w5 w.heap.size 215 (row 20 fun j => if j < 10 then preC (fun _ => 0) 0 false j else preC (fun _ => 0) 0 false (j - 10)) := by rw [← hw5]; exact (b1.alloc _).setRow_other (by omega) _
  have cb : Below w.heap.size w w5 := by rw [← hw5]; exact below_setRow (hb.alloc (by omega) _) (by omega) _
  clear hw5 b1 hb
  have C1 := hid c1
  have C3 := hid c3
  have CB := hid cb
  clear c1 c3 cb
  have hbl := HmM.blk_length l
  have hb256 := HmM.blk_256 H256.out
  have HBL := hid hbl
  have HB256 := hid hb256
  clear hbl hb256
  go_wp2_with fail
  refine wp_region_tail (C := fun w' => Below w5.heap.size w5 w') 5 (by kernel_rfl) (by kernel_rfl) (by kernel_rfl) (Below.refl _ _).drew ?_
  simp only [List.take_succ_cons, List.take_zero, List.drop_succ_cons, List.drop_zero]
  apply klb
  · rfl
  · rfl
  · exact fun w' hw' => C3.out.below hw' C3.out.lt
  simp only [Act.put, sqA, sqB, sqC]
  apply wpK_val
  · rfl
  · intro w' hw'
    go_simp
    exact (padded_any (HmM.blk l) HBL.out HB256.out 54 (by omega) _ (SA.out.on (CB.out.trans (hw'.mono CB.out.size)))).mono fun e w'' ⟨he, hb''⟩ => ⟨he, hw'.trans (hb''.mono hw'.size)⟩
  simp only [Act.put, sqA, sqB, sqC]
  apply klb
  · rfl
  · rfl
  · exact fun w' hw' => C3.out.below hw' C3.out.lt
  simp only [Act.put, sqA, sqB, sqC]
  apply wpK_val
  · rfl
  · intro w' hw'
    go_simp
    exact (padded_any (HmM.blk l) HBL.out HB256.out 92 (by omega) _ (SA.out.on (CB.out.trans (hw'.mono CB.out.size)))).mono fun e w'' ⟨he, hb''⟩ => ⟨he, hw'.trans (hb''.mono hw'.size)⟩
  simp only [Act.put, sqA, sqB, sqC]
  apply bldk
  · rfl
  · rfl
  · rfl
  simp only [Act.put, sqA, sqB, sqC]
  refine wpK_nil fun w6 hw6 => ?_
  have d1 := C1.out.below hw6 C1.out.lt
  have db := CB.out.trans (hw6.mono CB.out.size)
  clear C1 C3 CB hw6
  go_wp2_with ((with_reducible apply stk); rfl; rfl; exact d1; exact size_row)
  apply ret_row Tryz.results138
  · exact d1.setRow_same _
  · exact Tryz.underlying215
  · rfl
  · exact (info_kyd.trans (by rw [size_kyd]))
  · rfl
  · rfl
  exact ⟨rfl, below_setRow db (Nat.le_refl _) _⟩
set_option maxHeartbeats 400000 in
set_option maxRecDepth 100000 in
theorem goOver_any (s : ShaM.S8) (hs : s.ok) (g m q : Nat) (L : Nat → Nat) (A : Option Addr) (l : List Nat) (n cap : Nat) (hl : l.length = n) (hn : n % 64 = 0) (hc : n ≤ cap) (hm : cap ≤ maxLen) (hz : m + n ≤ 1000000000000000) (h256 : B256 l) (w : World)
    (hg : Blk w g 230 (msg s.get m L q)) (hA : Byt w w.heap.size A l) (hS : Salts w) :
    Calls Tryz.prog 169 #[.pointer (some ⟨g, 0, none⟩), .slice A n cap] w fun e w' => e = .returned (.tuple #[]) ∧ Blk w' g 230 (msg (ShaM.passes s l).get (m + n) L q) ∧ Below g w w' := by
  have HS := hid hs
  have HA := hid hA
  have HL := hid hl
  have SA := hid hS
  have H256 := hid h256
  have hr := hg.msgA
  have HG := hid hg
  clear hA hl hS h256 hs hg
  go_enter Tryz.func169, Tryz.ntmps169
  go_wp2_with ((with_reducible apply ldpm); rfl; exact hr)
  refine (more_ok s HS.out A l n cap m HL.out hn hc hm hz H256.out w HA.out SA.out).mono ?_
  rintro e w4 ⟨rfl, h4⟩
  have g4 := HG.out.below h4 HG.out.lt
  have hb : Below g w w4 := h4.mono (Nat.le_of_lt HG.out.lt)
  clear h4 hr
  go_wp2_with ((with_reducible apply stpm); rfl; rfl; exact g4; intro w5 g5 b5)
  go_end0
  exact ⟨rfl, g5, hb.trans b5⟩
end Go.Proofs.YtklmjdhhnnanoaaGreatDoor
set_option maxRecDepth 100000
namespace Go.Proofs.YtklmjdhhnnanoaaGreatDoor
open Go.ChangeShapes Go.WideShapes Go.ChangeAt Go.RowKit
attribute [local go_sem] Gives
theorem infoz_u8 : (Tryz.prog.info? 5).map (·.size) = some 1 := by kernel_rfl
def lay (p k : Nat) (b : List Nat) (L : Nat → Nat) (j : Nat) : Nat := if p ≤ j ∧ j < p + k then b.getD (j - p) 0 else L j
theorem lay_in {p k j : Nat} {b : List Nat} {L : Nat → Nat} (h : p ≤ j ∧ j < p + k) : lay p k b L j = b.getD (j - p) 0 := if_pos h
theorem lay_out {p k j : Nat} {b : List Nat} {L : Nat → Nat} (h : ¬ (p ≤ j ∧ j < p + k)) : lay p k b L j = L j := if_neg h
section
variable {a : Act} {w : World} {dst : Option Tmp} {ty : TypeId} {pos : String} {after : Array Edge} {gd : Option (Nat × Bool)} {d s : Operand} {R : World → Prop}
theorem gives_cpm {A : Option Addr} {n cap p c k g B m q : Nat} {t : TypeId} {f L : Nat → Nat} {b : List Nat} (hd : a.eval d = .slice (some ⟨g, 10 + p, none⟩) (64 - p) c) (hs : a.eval s = .slice A n cap) (hg : Blk w g t (msg f m L q)) (hA : Byt w B A b) (hl : b.length = n) (hp : p ≤ 64) (hk : k = min n (64 - p))
    (hR : ∀ w', Blk w' g t (msg f m (lay p k b L) q) → Below g w w' → R w') :
    Gives Tryz.prog ⟨dst, .call { callee := .builtin .copy, args := #[d, s], argTypes := #[93, 93] }, ty, pos, after, gd⟩ a w (.int .i64 k) R := by
  by_cases h0 : k = 0
  · subst h0
    have hrun := run_copy_none (P := Tryz.prog) w 93 93 ty 5 (some ⟨g, 10 + p, none⟩) A (64 - p) c n cap Tryz.underlying93 infoz_u8 (show Nat.min n (64 - p) = 0 from hk.symm)
    refine gives_value (w' := w) (by simp [execOp, resolve, invoke, builtin, hd, hs, hrun, Result.andThen, goInt]) (hR w ?_ (Below.refl _ _))
    unfold msg
    rw [row_ext (g := fun j => if j < 10 then preC f m true j else if j < 74 then .int .u8 (L (j - 10) : Nat) else .int .i64 q) fun j _ => ?_]
    · exact hg
    · by_cases e : j < 10
      · rw [if_pos e, if_pos e]
      · by_cases e4 : j < 74
        · rw [if_neg e, if_neg e, if_pos e4, if_pos e4, lay_out (by omega)]
        · rw [if_neg e, if_neg e, if_neg e4, if_neg e4]
  · obtain ⟨b', o, rfl, hB, hr⟩ := hA (by omega)
    have hlen : (nums .u8 (b.take k)).length = k := by rw [nums_length, List.length_take]; omega
    have hrun := run_copy_row (P := Tryz.prog) w 93 93 ty 5 g (10 + p) (64 - p) c ⟨b', o, none⟩ n cap (msg f m L q) t (nums .u8 (b.take k)) Tryz.underlying93 infoz_u8 hg (by rw [hlen, hk])
      (fun j v hj => by
        have hjk : j < k := by have := (List.getElem?_eq_some_iff.1 hj).1; rwa [hlen] at this
        rw [nums_get .u8 (by rw [List.length_take]; omega)] at hj
        rw [← hj, Addr.add_mid, hr j (by omega), getD_take hjk])
      (by rw [hlen, size_msg]; omega) (fun v hv => by obtain ⟨x, _, rfl⟩ := List.mem_map.1 hv; rfl)
    rw [hlen] at hrun
    refine gives_value (by simp only [execOp, resolve, invoke, builtin, Sem.run_bind, Sem.run_pure, Result.andThen_ok, List.map_toArray, List.map_cons, List.map_nil, hd, hs, hrun]; rfl) (hR _ ?_ (Go.below_setRow (Below.refl _ _) (Nat.le_refl _) _))
    have e : (List.take (10 + p) (msg f m L q).toList ++ nums .u8 (b.take k) ++ (msg f m L q).toList.drop (10 + p + k)).toArray = msg f m (lay p k b L) q := by
      have hsz : (msg f m L q).toList.length = 75 := by rw [Array.length_toList, size_msg]
      apply Array.ext_getElem?
      intro j
      rw [List.getElem?_toArray, List.append_assoc, List.getElem?_append, List.length_take, hsz, List.getElem?_append, hlen]
      unfold msg
      by_cases e1 : j < 10 + p
      · rw [if_pos (by omega), List.getElem?_take_of_lt e1, Array.getElem?_toList, get_row_lt (by omega), get_row_lt (by omega)]
        by_cases e : j < 10
        · rw [if_pos e, if_pos e]
        · by_cases e4 : j < 74
          · rw [if_neg e, if_neg e, if_pos e4, if_pos e4, lay_out (by omega)]
          · rw [if_neg e, if_neg e, if_neg e4, if_neg e4]
      · rw [if_neg (by omega), show min (10 + p) 75 = 10 + p by omega]
        by_cases e2 : j - (10 + p) < k
        · rw [if_pos e2, nums_get .u8 (by rw [List.length_take]; omega), get_row_lt (by omega), if_neg (show ¬ j < 10 by omega), if_pos (show j < 74 by omega), lay_in (by omega), getD_take e2, show j - 10 - p = j - (10 + p) by omega]
        · rw [if_neg e2, List.getElem?_drop, Array.getElem?_toList, show 10 + p + k + (j - (10 + p) - k) = j by omega, get_row, get_row]
          by_cases e3 : j < 75
          · have e5 : ¬ j < 10 := by omega
            rw [if_pos e3, if_pos e3, if_neg e5, if_neg e5]
            by_cases e4 : j < 74
            · rw [if_pos e4, if_pos e4, lay_out (by omega)]
            · rw [if_neg e4, if_neg e4]
          · rw [if_neg e3, if_neg e3]
    rw [e]
    exact hg.setRow_same _
end
theorem cpm {ops : Array Oper} {Q : Exit → Act → World → Prop} {a : Act} {w : World} {rest : List Oper} {dst : Option Tmp} {ty : TypeId} {pos : String} {after : Array Edge} {d s : Operand} {A : Option Addr} {n cap p c k g B m q : Nat} {t : TypeId} {f L : Nat → Nat} {b : List Nat}
    (hd : a.eval d = .slice (some ⟨g, 10 + p, none⟩) (64 - p) c) (hs : a.eval s = .slice A n cap) (hg : Blk w g t (msg f m L q)) (hA : Byt w B A b) (hl : b.length = n) (hp : p ≤ 64) (hk : k = min n (64 - p))
    (h : ∀ w', Blk w' g t (msg f m (lay p k b L) q) → Below g w w' → wpList Tryz.prog ops Q rest (a.put dst (.int .i64 k)) w') :
    wpList Tryz.prog ops Q (⟨dst, .call { callee := .builtin .copy, args := #[d, s], argTypes := #[93, 93] }, ty, pos, after, none⟩ :: rest) a w :=
  wpList_plain rfl fun K hK => wp_of_gives (R := fun w' => Blk w' g t (msg f m (lay p k b L) q) ∧ Below g w w') (gives_cpm hd hs hg hA hl hp hk fun w' h1 h2 => ⟨h1, h2⟩) fun w' ⟨h1, h2⟩ => hK _ _ (h w' h1 h2)
def Fed (s0 : ShaM.S8) (l : List Nat) (w : World) (g : Nat) : Prop :=
  ∃ A L : List Nat, ∃ f : Nat → Nat, l = A ++ L ∧ A.length % 64 = 0 ∧ L.length < 64 ∧ (∀ j, j < L.length → L.getD j 0 = f j) ∧ Blk w g 230 (msg (ShaM.passes s0 A).get (64 + A.length) f L.length)
theorem Fed.blk {s0 : ShaM.S8} {l : List Nat} {w w' : World} {g B : Nat} (h : Fed s0 l w g) (hb : Below B w w') (hg : g < B) : Fed s0 l w' g := by
  obtain ⟨A, L, f, h1, h2, h3, h4, h5⟩ := h
  exact ⟨A, L, f, h1, h2, h3, h4, h5.below hb hg⟩
set_option maxHeartbeats 400000 in
set_option maxRecDepth 100000 in
theorem add_zero (s0 : ShaM.S8) (hs : s0.ok) (A0 : List Nat) (f : Nat → Nat) (g : Nat) (h0 : A0.length % 64 = 0) (A : Option Addr) (b : List Nat) (n cap : Nat) (hl : b.length = n) (hc : n ≤ cap) (hm : cap ≤ maxLen) (hz : 64 + A0.length + n ≤ 1000000000000000) (h256 : B256 b) (w : World)
    (hg : Blk w g 230 (msg (ShaM.passes s0 A0).get (64 + A0.length) f 0)) (hA : Byt w g A b) (hS : Salts w) :
    Calls Tryz.prog 149 #[.pointer (some ⟨g, 0, none⟩), .slice A n cap] w fun e w' => e = .returned (.tuple #[]) ∧ Fed s0 (A0 ++ b) w' g ∧ Below g w w' := by
  obtain ⟨W, hW⟩ : ∃ W, W = n - n % 64 := ⟨_, rfl⟩
  have e5 : (n : Int) - (n : Int) % 64 = (W : Int) := by omega
  have hm' := hm
  unfold maxLen at hm'
  have e5' : IntKind.i64.wrap ((n : Int) - (n : Int) % 64) = (W : Int) := wr_nat e5 (by omega)
  have hWn : W ≤ n := by omega
  have hWc : (W : Int) ≤ (cap : Int) := by omega
  have hWnI : (W : Int) ≤ (n : Int) := by omega
  have c74 := hg.msgN
  have HS := hid hs
  have HA := hid hA
  have HL := hid hl
  have SA := hid hS
  have H256 := hid h256
  have HG := hid hg
  have HW := hid hW
  have H0 := hid h0
  have HM := hid hm
  clear hA hl hS h256 hs hg hW h0 hm
  go_enter Tryz.func149, Tryz.ntmps149
  go_wp2_with fail
  refine (goOver_any (ShaM.passes s0 A0) (ShaM.passes_ok _ (Nat.le_refl _) HS.out) g (64 + A0.length) 0 f A (b.take W) W cap (by rw [List.length_take, HL.out]; omega) (by have := HW.out; omega) (by omega) HM.out (by omega) (H256.out.take W) w HG.out ((HA.out.take W).more (Nat.le_of_lt HG.out.lt)) SA.out).mono ?_
  rintro e w4 ⟨rfl, g4, h4⟩
  have q1 : (b.drop W).length = n - W := by rw [List.length_drop, HL.out]
  have q2 : n - W < 64 := by have := HW.out; omega
  have hA4 := ((HA.out.dropA cap W (by rw [HL.out]; exact hc)).below h4 (Nat.le_refl _))
  have G4 := hid g4
  have H4 := hid h4
  have HA4 := hid hA4
  have Q1 := hid q1
  clear g4 h4 hA4 q1 c74 HG
  go_upto_region 8 with fail
  refine wp_region_put (C := fun bb w' => match bb with | false => Drew w4 w' | true => Blk w' g 230 (msg (ShaM.passes (ShaM.passes s0 A0) (b.take W)).get (64 + A0.length + W) (lay 0 (n - W) (b.drop W) f) 0) ∧ Below g w4 w') 8 11 (by omega) (by kernel_rfl) (by kernel_rfl) (by kernel_rfl) (Drew.refl _) ?_
  simp only [List.take_succ_cons, List.take_zero, List.drop_succ_cons, List.drop_zero]
  apply wpS_val
  · decide
  · rfl
  · intro bb w' hw'
    go_simp
    first | exact rfl | exact ⟨rfl, hw'⟩
  simp only [Act.put, sqA, sqB, sqC]
  apply wpS_val
  · decide
  · rfl
  · intro bb w' hw'
    go_simp
    first | exact rfl | exact ⟨rfl, hw'⟩
  simp only [Act.put, sqA, sqB, sqC]
  apply wpS_val
  · decide
  · rfl
  · intro bb w' hw'
    go_simp
    first | exact rfl | exact ⟨rfl, hw'⟩
  simp only [Act.put, sqA, sqB, sqC]
  apply wpS_val
  · decide
  · rfl
  · intro bb w' hw'
    go_simp
    first | exact rfl | exact ⟨rfl, hw'⟩
  simp only [Act.put, sqA, sqB, sqC]
  apply wpS_val
  · decide
  · rfl
  · intro bb w' hw'
    go_simp
    first | exact rfl | exact ⟨rfl, hw'⟩
  simp only [Act.put, sqA, sqB, sqC]
  apply wpS_val
  · decide
  · rfl
  · intro bb w' hw'
    go_simp
    first | exact rfl | exact ⟨rfl, hw'⟩
  simp only [Act.put, sqA, sqB, sqC]
  apply wpS_val
  · decide
  · rfl
  · intro bb w' hw'
    go_simp
    first | exact rfl | exact ⟨rfl, hw'⟩
  simp only [Act.put, sqA, sqB, sqC]
  apply wpS_val
  · decide
  · rfl
  · intro bb w' hw'
    go_simp
    first | exact rfl | exact ⟨rfl, hw'⟩
  simp only [Act.put, sqA, sqB, sqC]
  apply wpS_put
  · rfl
  · rfl
  · intro w' hw'
    exact gives_cpm (p := 0) (k := n - W) rfl rfl (hw'.blk G4.out) (HA4.out.below (hw'.below (Below.refl g w4)) (Nat.le_refl _)) Q1.out (by omega) (by omega) fun w6 h1 h2 => ⟨h1, (hw'.below (Below.refl g w4)).trans h2⟩
  simp only [Act.put, sqA, sqB, sqC]
  apply wpS_val
  · decide
  · rfl
  · intro bb w' hw'
    go_simp
    first | exact rfl | exact ⟨rfl, hw'⟩
  simp only [Act.put, sqA, sqB, sqC]
  apply wpS_val
  · decide
  · rfl
  · intro bb w' hw'
    go_simp
    first | exact rfl | exact ⟨rfl, hw'⟩
  simp only [Act.put, sqA, sqB, sqC]
  refine wpS_nil fun w5 hw5 => ?_
  obtain ⟨g5, h5⟩ := hw5
  have b5 := H4.out.trans h5
  have k74 := g5.msgN
  have k74f := g5.frozen 74
  have G5 := hid g5
  have B5 := hid b5
  clear g5 h5 b5 G4 H4 HA4
  go_wp2_with fail
  all_goals
    go_end0
    refine ⟨rfl, ⟨A0 ++ b.take W, b.drop W, lay 0 (n - W) (b.drop W) f, ?_, ?_, ?_, ?_, ?_⟩, B5.out.setCell (Nat.le_refl _) _⟩
    · rw [List.append_assoc, List.take_append_drop]
    · rw [List.length_append, List.length_take, HL.out]; have := HW.out; have := H0.out; omega
    · rw [Q1.out]; exact q2
    · intro j hj
      rw [Q1.out] at hj
      rw [lay_in (by omega), Nat.sub_zero]
    · have h := G5.out.msgSetN (n - W)
      rw [List.length_append, List.length_take, HL.out, show min W n = W by omega, Q1.out, ShaM.passes_append (A0.length / 64) (by have := H0.out; omega), ← Nat.add_assoc]
      exact h
set_option maxHeartbeats 400000 in
set_option maxRecDepth 100000 in
theorem add_short (s0 : ShaM.S8) (A0 L0 : List Nat) (f : Nat → Nat) (g q : Nat) (hq0 : 0 < q) (hL : L0.length = q) (h0 : A0.length % 64 = 0) (he : ∀ j, j < q → L0.getD j 0 = f j) (A : Option Addr) (b : List Nat) (n cap : Nat) (hl : b.length = n) (hqn : q + n < 64) (hc : n ≤ cap) (hm : cap ≤ maxLen) (w : World)
    (hg : Blk w g 230 (msg (ShaM.passes s0 A0).get (64 + A0.length) f q)) (hA : Byt w g A b) :
    Calls Tryz.prog 149 #[.pointer (some ⟨g, 0, none⟩), .slice A n cap] w fun e w' => e = .returned (.tuple #[]) ∧ Fed s0 ((A0 ++ L0) ++ b) w' g ∧ Below g w w' := by
  have t0 : decide ((0 : Int) < (q : Int)) = true := by simp; omega
  have t1 : (q : Int) < 64 := by omega
  have t2 : (q : Int) ≤ 64 := by omega
  have c74 := hg.msgN
  have HA := hid hA
  have HL := hid hl
  have HG := hid hg
  have H0 := hid h0
  have HM := hid hm
  have HE := hid he
  have HLL := hid hL
  clear hA hl hg h0 hm he hL
  go_enter Tryz.func149, Tryz.ntmps149
  go_upto_region 1 with fail
  refine wp_region_tail (C := Drew w) 9 (by kernel_rfl) (by kernel_rfl) (by kernel_rfl) (Drew.refl _) ?_
  simp only [List.take_succ_cons, List.take_zero, List.drop_succ_cons, List.drop_zero]
  apply wpK_val
  · rfl
  · intro w' hw'
    go_simp
    first | exact rfl | exact ⟨rfl, hw'⟩
  simp only [Act.put, sqA, sqB, sqC]
  apply wpK_val
  · rfl
  · intro w' hw'
    go_simp
    first | exact rfl | exact ⟨rfl, hw'⟩
  simp only [Act.put, sqA, sqB, sqC]
  apply wpK_val
  · rfl
  · intro w' hw'
    go_simp
    first | exact rfl | exact ⟨rfl, hw'⟩
  simp only [Act.put, sqA, sqB, sqC]
  apply wpK_val
  · rfl
  · intro w' hw'
    go_simp
    first | exact rfl | exact ⟨rfl, hw'⟩
  simp only [Act.put, sqA, sqB, sqC]
  apply wpK_val
  · rfl
  · intro w' hw'
    go_simp
    first | exact rfl | exact ⟨rfl, hw'⟩
  simp only [Act.put, sqA, sqB, sqC]
  apply wpK_val
  · rfl
  · intro w' hw'
    go_simp
    first | exact rfl | exact ⟨rfl, hw'⟩
  simp only [Act.put, sqA, sqB, sqC]
  apply wpK_val
  · rfl
  · intro w' hw'
    have hcell := (hw'.blk HG.out).msgN
    go_simp
    first | exact rfl | exact ⟨rfl, hw'⟩
  simp only [Act.put, sqA, sqB, sqC]
  apply wpK_val
  · rfl
  · intro w' hw'
    go_simp
    first | exact rfl | exact ⟨rfl, hw'⟩
  simp only [Act.put, sqA, sqB, sqC]
  apply wpK_val
  · rfl
  · intro w' hw'
    go_simp
    first | exact rfl | exact ⟨rfl, hw'⟩
  simp only [Act.put, sqA, sqB, sqC]
  refine wpK_nil fun w5 hw5 => ?_
  have g5 := hw5.blk HG.out
  have a5 := HA.out.below (hw5.below (Below.refl g w)) (Nat.le_refl _)
  have B5 := hid (hw5.below (Below.refl g w))
  clear hw5 c74
  rw [if_neg (show ¬ 64 = q by omega)]
  go_upto_region 2 with ((with_reducible apply cpm (p := q) (k := n)); rfl; rfl; exact g5; exact a5; exact HL.out; omega; omega; intro w6 g6 h6)
  have k74 := g6.msgN
  have k74f := g6.frozen 74
  have G6 := hid g6
  have B6 := hid (B5.out.trans h6)
  clear g6 h6 g5 a5 B5
  go_upto_region 3 with fail
  generalize hw7 : World.setCell _ _ _ = w7
  have g7 : Blk w7 g 230 (msg (ShaM.passes s0 A0).get (64 + A0.length) (lay q n b f) (q + n)) := by
    rw [← hw7]
    have h := G6.out.msgSetN (q + n)
    rw [Int.natCast_add] at h
    exact h
  have b7 : Below g w w7 := by rw [← hw7]; exact B6.out.setCell (Nat.le_refl _) _
  clear hw7 G6 B6 k74 k74f
  have k7 := g7.msgN
  have t3 : ((q + n : Nat) : Int) < 64 := by omega
  have G7 := hid g7
  clear g7
  go_wp2_with fail
  refine bodyPost_ret (results_none rfl _ _ _) rfl ?_
  refine ⟨rfl, ⟨A0, L0 ++ b, lay q n b f, by rw [List.append_assoc], H0.out, ?_, ?_, ?_⟩, b7⟩
  · rw [List.length_append, HLL.out, HL.out]; omega
  · intro j hj
    rw [List.length_append, HLL.out, HL.out] at hj
    rw [List.getD_eq_getElem?_getD]
    by_cases hjq : j < q
    · rw [List.getElem?_append_left (by rw [HLL.out]; exact hjq), lay_out (by omega), ← List.getD_eq_getElem?_getD]
      exact HE.out j hjq
    · rw [List.getElem?_append_right (by rw [HLL.out]; omega), HLL.out, lay_in (by omega), List.getD_eq_getElem?_getD]
  · rw [List.length_append, HLL.out, HL.out]
    exact G7.out
set_option maxHeartbeats 400000 in
set_option maxRecDepth 100000 in
theorem add_fill (s0 : ShaM.S8) (hs : s0.ok) (A0 L0 : List Nat) (f : Nat → Nat) (g q : Nat) (hq0 : 0 < q) (hq64 : q < 64) (hL : L0.length = q) (h0 : A0.length % 64 = 0) (he : ∀ j, j < q → L0.getD j 0 = f j) (hL256 : B256 L0) (A : Option Addr) (b : List Nat) (n cap : Nat) (hl : b.length = n) (hqn : 64 ≤ q + n) (hc : n ≤ cap) (hm : cap ≤ maxLen)
    (hz : 64 + A0.length + q + n ≤ 1000000000000000) (h256 : B256 b) (w : World)
    (hg0 : tabs < g) (hg : Blk w g 230 (msg (ShaM.passes s0 A0).get (64 + A0.length) f q)) (hA : Byt w g A b) (hS : Salts w) :
    Calls Tryz.prog 149 #[.pointer (some ⟨g, 0, none⟩), .slice A n cap] w fun e w' => e = .returned (.tuple #[]) ∧ Fed s0 ((A0 ++ L0) ++ b) w' g ∧ Below g w w' := by
  have t0 : decide ((0 : Int) < (q : Int)) = true := by simp; omega
  have t1 : (q : Int) < 64 := by omega
  have t2 : (q : Int) ≤ 64 := by omega
  obtain ⟨k, hk⟩ : ∃ k, k = 64 - q := ⟨_, rfl⟩
  have hkn : k ≤ n := by omega
  have hkc : (k : Int) ≤ (cap : Int) := by omega
  have hkn' : (k : Int) ≤ (n : Int) := by omega
  obtain ⟨n1, hn1⟩ : ∃ n1, n1 = n - k := ⟨_, rfl⟩
  obtain ⟨c1, hc1⟩ : ∃ c1, c1 = cap - k := ⟨_, rfl⟩
  have c74 := hg.msgN
  have HS := hid hs
  have HA := hid hA
  have HL := hid hl
  have HG := hid hg
  have H0 := hid h0
  have HM := hid hm
  have HE := hid he
  have HLL := hid hL
  have HK := hid hk
  have HN1 := hid hn1
  have HC1 := hid hc1
  have SA := hid hS
  have H256 := hid h256
  have HL256 := hid hL256
  clear hA hl hg h0 hm he hL hk hS h256 hs hL256 hn1 hc1
  go_enter Tryz.func149, Tryz.ntmps149
  go_upto_region 1 with fail
  refine wp_region_tail (C := Drew w) 9 (by kernel_rfl) (by kernel_rfl) (by kernel_rfl) (Drew.refl _) ?_
  simp only [List.take_succ_cons, List.take_zero, List.drop_succ_cons, List.drop_zero]
  apply wpK_val
  · rfl
  · intro w' hw'
    go_simp
    first | exact rfl | exact ⟨rfl, hw'⟩
  simp only [Act.put, sqA, sqB, sqC]
  apply wpK_val
  · rfl
  · intro w' hw'
    go_simp
    first | exact rfl | exact ⟨rfl, hw'⟩
  simp only [Act.put, sqA, sqB, sqC]
  apply wpK_val
  · rfl
  · intro w' hw'
    go_simp
    first | exact rfl | exact ⟨rfl, hw'⟩
  simp only [Act.put, sqA, sqB, sqC]
  apply wpK_val
  · rfl
  · intro w' hw'
    go_simp
    first | exact rfl | exact ⟨rfl, hw'⟩
  simp only [Act.put, sqA, sqB, sqC]
  apply wpK_val
  · rfl
  · intro w' hw'
    go_simp
    first | exact rfl | exact ⟨rfl, hw'⟩
  simp only [Act.put, sqA, sqB, sqC]
  apply wpK_val
  · rfl
  · intro w' hw'
    go_simp
    first | exact rfl | exact ⟨rfl, hw'⟩
  simp only [Act.put, sqA, sqB, sqC]
  apply wpK_val
  · rfl
  · intro w' hw'
    have hcell := (hw'.blk HG.out).msgN
    go_simp
    first | exact rfl | exact ⟨rfl, hw'⟩
  simp only [Act.put, sqA, sqB, sqC]
  apply wpK_val
  · rfl
  · intro w' hw'
    go_simp
    first | exact rfl | exact ⟨rfl, hw'⟩
  simp only [Act.put, sqA, sqB, sqC]
  apply wpK_val
  · rfl
  · intro w' hw'
    go_simp
    first | exact rfl | exact ⟨rfl, hw'⟩
  simp only [Act.put, sqA, sqB, sqC]
  refine wpK_nil fun w5 hw5 => ?_
  have g5 := hw5.blk HG.out
  have a5 := HA.out.below (hw5.below (Below.refl g w)) (Nat.le_refl _)
  have B5 := hid (hw5.below (Below.refl g w))
  clear hw5 c74
  rw [if_neg (show ¬ 64 = q by omega)]
  go_upto_region 2 with ((with_reducible apply cpm (p := q) (k := k)); rfl; rfl; exact g5; exact a5; exact HL.out; omega; (have := HK.out; omega); intro w6 g6 h6)
  have k74 := g6.msgN
  have k74f := g6.frozen 74
  have G6 := hid g6
  have B6 := hid (B5.out.trans h6)
  clear g6 h6 g5 a5 B5
  have tk : (q : Int) + (k : Int) = 64 := by have := HK.out; omega
  go_upto_region 3 with fail
  generalize hw7 : World.setCell _ _ _ = w7
  have g7 : Blk w7 g 230 (msg (ShaM.passes s0 A0).get (64 + A0.length) (lay q k b f) 64) := by
    rw [← hw7]
    exact G6.out.msgSetN 64
  have b7 : Below g w w7 := by rw [← hw7]; exact B6.out.setCell (Nat.le_refl _) _
  clear hw7 G6 B6 k74 k74f tk
  have k7 := g7.msgN
  have G7 := hid g7
  have B7 := hid b7
  clear g7 b7
  have hf : (L0 ++ b.take k).length = 64 := by rw [List.length_append, List.length_take, HLL.out, HL.out]; have := HK.out; omega
  have hby : Byt w7 w7.heap.size (some ⟨g, 10, none⟩) (L0 ++ b.take k) := G7.out.msgByt G7.out.lt (by omega) fun j hj => by
    rw [List.getD_eq_getElem?_getD]
    by_cases hjq : j < q
    · rw [List.getElem?_append_left (by rw [HLL.out]; exact hjq), lay_out (by omega), ← List.getD_eq_getElem?_getD]
      exact HE.out j hjq
    · rw [List.getElem?_append_right (by rw [HLL.out]; omega), HLL.out, lay_in (by have := HK.out; omega), ← List.getD_eq_getElem?_getD, getD_take (by have := HK.out; omega)]
  have HF := hid hf
  have BY := hid hby
  clear hf hby
  go_wp2_with fail
  refine (goOver_any (ShaM.passes s0 A0) (ShaM.passes_ok _ (Nat.le_refl _) HS.out) g (64 + A0.length) 64 (lay q k b f) _ (L0 ++ b.take k) 64 64 HF.out rfl (Nat.le_refl _) (by unfold maxLen; omega) (by omega) (HL256.out.append (H256.out.take k)) w7 G7.out BY.out (SA.out.below B7.out hg0)).mono ?_
  rintro e w8 ⟨rfl, g8, h8⟩
  obtain ⟨b1, hb1⟩ : ∃ b1, b1 = b.drop k := ⟨_, rfl⟩
  have hl1 : b1.length = n1 := by rw [hb1, List.length_drop, HL.out, HN1.out]
  have h1256 : B256 b1 := by rw [hb1]; exact H256.out.drop k
  have bel8 := B7.out.trans h8
  have hA8 := ((HA.out.dropA cap k (by rw [HL.out]; exact hc)).below bel8 (Nat.le_refl _))
  rw [← hb1] at hA8
  have HB1 := hid hb1
  have hn1n : n1 ≤ n := by rw [HN1.out]; omega
  have hn1c : n1 ≤ c1 := by rw [HN1.out, HC1.out]; omega
  have hc1m : c1 ≤ maxLen := by rw [HC1.out]; have := HM.out; omega
  have hnk : n1 + k = n := by rw [HN1.out]; omega
  obtain ⟨A1', hA1'⟩ : ∃ l : List Nat, l = A0 ++ (L0 ++ b.take k) := ⟨_, rfl⟩
  have hA1l : A1'.length = A0.length + 64 := by rw [hA1', List.length_append, HF.out]
  have g8' : Blk w8 g 230 (msg (ShaM.passes s0 A1').get (64 + A1'.length) (lay q k b f) 64) := by
    rw [hA1l, hA1', ShaM.passes_append (A0.length / 64) (by have := H0.out; omega), ← Nat.add_assoc]
    exact g8
  clear hb1 g8 h8
  go_upto_region 6 with fail
  rw [← HN1.out, ← HC1.out]
  generalize (if cap = k then A else Option.map (fun x => Addr.add x k) A) = A1 at hA8 ⊢
  obtain ⟨W, hW⟩ : ∃ W, W = n1 - n1 % 64 := ⟨_, rfl⟩
  have e5 : (n1 : Int) - (n1 : Int) % 64 = (W : Int) := by omega
  have hm' := hc1m
  unfold maxLen at hm'
  have e5' : IntKind.i64.wrap ((n1 : Int) - (n1 : Int) % 64) = (W : Int) := wr_nat e5 (by omega)
  have hWn : W ≤ n1 := by omega
  have hWc : (W : Int) ≤ (c1 : Int) := by omega
  have hWnI : (W : Int) ≤ (n1 : Int) := by omega
  have G8 := hid g8'
  have B8 := hid bel8
  have HA8 := hid hA8
  have HL1 := hid hl1
  have H1256 := hid h1256
  have HW := hid hW
  have HA1L := hid hA1l
  have HA1E := hid hA1'
  have HNK := hid hnk
  have HC1M := hid hc1m
  clear g8' bel8 hA8 hl1 h1256 hW hA1l hA1' k7 hnk hc1m G7 B7 BY
  go_wp2_with fail
  refine (goOver_any (ShaM.passes s0 A1') (ShaM.passes_ok _ (Nat.le_refl _) HS.out) g (64 + A1'.length) 64 (lay q k b f) A1 (b1.take W) W c1 (by rw [List.length_take, HL1.out]; omega) (by have := HW.out; omega) (by omega) HC1M.out (by rw [HA1L.out]; have := HNK.out; have := HK.out; omega) (H1256.out.take W) w8 G8.out ((HA8.out.take W).more (Nat.le_of_lt G8.out.lt)) (SA.out.below B8.out hg0)).mono ?_
  rintro e w4 ⟨rfl, g4, h4⟩
  have q1 : (b1.drop W).length = n1 - W := by rw [List.length_drop, HL1.out]
  have q2 : n1 - W < 64 := by have := HW.out; omega
  have hA4 := ((HA8.out.dropA c1 W (by rw [HL1.out]; exact hn1c)).below h4 (Nat.le_refl _))
  have G4 := hid g4
  have H4 := hid (B8.out.trans h4)
  have HA4 := hid hA4
  have Q1 := hid q1
  clear g4 h4 hA4 q1 G8 B8
  go_upto_region 8 with fail
  refine wp_region_put (C := fun bb w' => match bb with | false => Drew w4 w' | true => Blk w' g 230 (msg (ShaM.passes (ShaM.passes s0 A1') (b1.take W)).get (64 + A1'.length + W) (lay 0 (n1 - W) (b1.drop W) (lay q k b f)) 64) ∧ Below g w4 w') 8 11 (by omega) (by kernel_rfl) (by kernel_rfl) (by kernel_rfl) (Drew.refl _) ?_
  simp only [List.take_succ_cons, List.take_zero, List.drop_succ_cons, List.drop_zero]
  apply wpS_val
  · decide
  · rfl
  · intro bb w' hw'
    go_simp
    first | exact rfl | exact ⟨rfl, hw'⟩
  simp only [Act.put, sqA, sqB, sqC]
  apply wpS_val
  · decide
  · rfl
  · intro bb w' hw'
    go_simp
    first | exact rfl | exact ⟨rfl, hw'⟩
  simp only [Act.put, sqA, sqB, sqC]
  apply wpS_val
  · decide
  · rfl
  · intro bb w' hw'
    go_simp
    first | exact rfl | exact ⟨rfl, hw'⟩
  simp only [Act.put, sqA, sqB, sqC]
  apply wpS_val
  · decide
  · rfl
  · intro bb w' hw'
    go_simp
    first | exact rfl | exact ⟨rfl, hw'⟩
  simp only [Act.put, sqA, sqB, sqC]
  apply wpS_val
  · decide
  · rfl
  · intro bb w' hw'
    go_simp
    first | exact rfl | exact ⟨rfl, hw'⟩
  simp only [Act.put, sqA, sqB, sqC]
  apply wpS_val
  · decide
  · rfl
  · intro bb w' hw'
    go_simp
    first | exact rfl | exact ⟨rfl, hw'⟩
  simp only [Act.put, sqA, sqB, sqC]
  apply wpS_val
  · decide
  · rfl
  · intro bb w' hw'
    go_simp
    first | exact rfl | exact ⟨rfl, hw'⟩
  simp only [Act.put, sqA, sqB, sqC]
  apply wpS_val
  · decide
  · rfl
  · intro bb w' hw'
    go_simp
    first | exact rfl | exact ⟨rfl, hw'⟩
  simp only [Act.put, sqA, sqB, sqC]
  apply wpS_put
  · rfl
  · rfl
  · intro w' hw'
    exact gives_cpm (p := 0) (k := n1 - W) rfl rfl (hw'.blk G4.out) (HA4.out.below (hw'.below (Below.refl g w4)) (Nat.le_refl _)) Q1.out (by omega) (by omega) fun w6 h1 h2 => ⟨h1, (hw'.below (Below.refl g w4)).trans h2⟩
  simp only [Act.put, sqA, sqB, sqC]
  apply wpS_val
  · decide
  · rfl
  · intro bb w' hw'
    go_simp
    first | exact rfl | exact ⟨rfl, hw'⟩
  simp only [Act.put, sqA, sqB, sqC]
  apply wpS_val
  · decide
  · rfl
  · intro bb w' hw'
    go_simp
    first | exact rfl | exact ⟨rfl, hw'⟩
  simp only [Act.put, sqA, sqB, sqC]
  refine wpS_nil fun w5 hw5 => ?_
  obtain ⟨g5, h5⟩ := hw5
  have b5 := H4.out.trans h5
  have k74 := g5.msgN
  have k74f := g5.frozen 74
  have G5 := hid g5
  have B5 := hid b5
  clear g5 h5 b5 G4 H4 HA4
  go_wp2_with fail
  all_goals
    go_end0
    refine ⟨rfl, ⟨A1' ++ b1.take W, b1.drop W, lay 0 (n1 - W) (b1.drop W) (lay q k b f), ?_, ?_, ?_, ?_, ?_⟩, B5.out.setCell (Nat.le_refl _) _⟩
    · rw [HA1E.out, HB1.out, List.append_assoc, List.take_append_drop, List.append_assoc, List.append_assoc, List.take_append_drop]
    · rw [List.length_append, List.length_take, HL1.out, HA1L.out]; have := HW.out; have := H0.out; omega
    · rw [Q1.out]; exact q2
    · intro j hj
      rw [Q1.out] at hj
      rw [lay_in (by omega), Nat.sub_zero]
    · have h := G5.out.msgSetN (n1 - W)
      rw [List.length_append, List.length_take, HL1.out, show min W n1 = W by omega, Q1.out, ShaM.passes_append (A1'.length / 64) (by have := HA1L.out; have := H0.out; omega), ← Nat.add_assoc]
      exact h
theorem add_any (s0 : ShaM.S8) (hs : s0.ok) (l0 : List Nat) (h0256 : B256 l0) (g : Nat) (A : Option Addr) (b : List Nat) (n cap : Nat) (hl : b.length = n) (hc : n ≤ cap) (hm : cap ≤ maxLen) (hz : 64 + l0.length + n ≤ 1000000000000000) (h256 : B256 b) (w : World)
    (hg0 : tabs < g) (hg : Fed s0 l0 w g) (hA : Byt w g A b) (hS : Salts w) :
    Calls Tryz.prog 149 #[.pointer (some ⟨g, 0, none⟩), .slice A n cap] w fun e w' => e = .returned (.tuple #[]) ∧ Fed s0 (l0 ++ b) w' g ∧ Below g w w' := by
  obtain ⟨A0, L0, f, rfl, h1, h2, h3, h4⟩ := hg
  rw [List.length_append] at hz
  rcases Nat.eq_zero_or_pos L0.length with h5 | h5
  · obtain rfl := List.eq_nil_of_length_eq_zero h5
    rw [List.append_nil]
    exact add_zero s0 hs A0 f g h1 A b n cap hl hc hm (by omega) h256 w h4 hA hS
  · rcases Nat.lt_or_ge (L0.length + n) 64 with h6 | h6
    · exact add_short s0 A0 L0 f g _ h5 rfl h1 h3 A b n cap hl h6 hc hm w h4 hA
    · exact add_fill s0 hs A0 L0 f g _ h5 h2 rfl h1 h3 (fun x hx => h0256 x (List.mem_append.2 (.inr hx))) A b n cap hl h6 hc hm (by omega) h256 w hg0 h4 hA hS
end Go.Proofs.YtklmjdhhnnanoaaGreatDoor
set_option maxRecDepth 100000
namespace Go.Proofs.YtklmjdhhnnanoaaGreatDoor
open Go.ChangeShapes Go.WideShapes Go.ChangeAt Go.RowKit
attribute [local go_sem] Gives
def Prts (w : World) (B : Nat) (A : Option Addr) (ls : List (List Nat)) : Prop :=
  0 < ls.length → ∃ b o, A = some ⟨b, o, none⟩ ∧ b < B ∧ ∀ i, i < ls.length → ∃ A' c, w.cell? ⟨b, o + i, none⟩ = some (.slice A' (ls.getD i []).length c) ∧ (ls.getD i []).length ≤ c ∧ c ≤ maxLen ∧ Byt w B A' (ls.getD i [])
theorem Prts.below {B B' : Nat} {w w' : World} {A : Option Addr} {ls : List (List Nat)} (h : Prts w B A ls) (hb : Below B' w w') (hB : B ≤ B') : Prts w' B A ls := fun hn => by
  obtain ⟨b, o, rfl, hl, hr⟩ := h hn
  refine ⟨b, o, rfl, hl, fun i hi => ?_⟩
  obtain ⟨A', c, h1, h2, h3, h4⟩ := hr i hi
  exact ⟨A', c, (hb.cell (p := ⟨b, o + i, none⟩) (by show b < B'; omega)).trans h1, h2, h3, h4.below hb hB⟩
theorem Prts.more {B B' : Nat} {w : World} {A : Option Addr} {ls : List (List Nat)} (h : Prts w B A ls) (hB : B ≤ B') : Prts w B' A ls := fun hn => by
  obtain ⟨b, o, rfl, hl, hr⟩ := h hn
  refine ⟨b, o, rfl, by omega, fun i hi => ?_⟩
  obtain ⟨A', c, h1, h2, h3, h4⟩ := hr i hi
  exact ⟨A', c, h1, h2, h3, h4.more hB⟩
def flat (ls : List (List Nat)) : List Nat := ls.flatten
theorem flat_step {ls : List (List Nat)} {i : Nat} (h : i < ls.length) : flat (ls.take (i + 1)) = flat (ls.take i) ++ ls.getD i [] := by
  unfold flat
  rw [List.take_succ_eq_append_getElem h, List.flatten_append, List.flatten_singleton, List.getD_eq_getElem?_getD, List.getElem?_eq_getElem h]; rfl
theorem flat_256 {ls : List (List Nat)} (h : ∀ l ∈ ls, B256 l) : B256 (flat ls) := fun x hx => by
  obtain ⟨l, hl, hx⟩ := List.mem_flatten.1 hx
  exact h l hl x hx
theorem flat_take_le (ls : List (List Nat)) (i : Nat) : (flat (ls.take i)).length ≤ (flat ls).length := by
  conv => rhs; rw [← List.take_append_drop i ls]
  unfold flat
  rw [List.flatten_append, List.length_append]; omega
theorem part_256 {ls : List (List Nat)} (h : ∀ l ∈ ls, B256 l) (i : Nat) : B256 (ls.getD i []) := by
  rw [List.getD_eq_getElem?_getD]
  cases e : ls[i]? with
  | none => exact fun x hx => by cases hx
  | some l => exact h l (List.mem_of_getElem? e)
def tagOf (s54 s92 : ShaM.S8) (l : List Nat) : Nat → Nat := ShaM.digest (ShaM.ended s92 64 (HmM.dl (ShaM.digest (ShaM.ended s54 64 l))))
theorem alloc_tag (w : World) : (Instr.alloc 81 true (.tuple #[])).run Tryz.prog w = .ok (.pointer (some ⟨w.heap.size, 0, none⟩)) (w.alloc (.cells (tag fun _ => 0) 81)) := by
  have hz := (zero_of_info (P := Tryz.prog) (t := 81) (v := .agg (tag fun _ => 0)) (n := 32) (by kernel_rfl)).1
  simp [Instr.alloc, Sem.run_bind, hz w, newVar, newRow, Value.cells]
theorem zero_msg (w : World) : (zeroValue 230).run Tryz.prog w = .ok (.agg (row 75 fun j => if j < 10 then preC (fun _ => 0) 0 false j else if j < 74 then .int .u8 0 else .int .i64 0)) w :=
  (zero_of_info (P := Tryz.prog) (t := 230) (v := .agg (row 75 fun j => if j < 10 then preC (fun _ => 0) 0 false j else if j < 74 then .int .u8 0 else .int .i64 0)) (n := 75) (by kernel_rfl)).1 w
section
variable {ops : Array Oper} {a : Act} {rest : List Oper} {dst : Option Tmp} {ty : TypeId} {pos : String} {after : Array Edge} {x : Operand} {g o m : Nat} {f : Nat → Nat} {b : Bool} {C : World → Prop} {Qk : Act → Prop} {gd : Option (Nat × Bool)}
theorem blpm (hwt : Region.wanted ⟨dst, .load 213 x, ty, pos, after, gd⟩ (yielded ops a.tmps) = true) (hx : a.eval x = .pointer (some ⟨g, o, none⟩)) (hb : ∀ w, C w → w.rangeAt g o (pre f m b).toList) (h : wpB Tryz.prog ops C Qk rest (a.put dst (.agg (pre f m b)))) :
    wpB Tryz.prog ops C Qk (⟨dst, .load 213 x, ty, pos, after, gd⟩ :: rest) a :=
  wpB_val hwt (fun w hw => gives_value (w' := w) (by
    have := run_loadAt_mid (P := Tryz.prog) w g o 213 (pre f m b).toList _ (hb w hw) Tryz.underlying213 rfl (info_pre.trans (by rw [Array.length_toList, size_pre]))
    rw [Array.toArray_toList] at this
    simp only [execOp, hx, Sem.run_bind, this, Result.andThen_ok, Sem.run_pure]) ⟨hw, Below.refl _ _⟩) h
theorem klpm (hwt : Region.wanted ⟨dst, .load 213 x, ty, pos, after, gd⟩ (yielded ops a.tmps) = true) (hx : a.eval x = .pointer (some ⟨g, o, none⟩)) (hb : ∀ w, C w → w.rangeAt g o (pre f m b).toList) (h : wpK Tryz.prog ops C Qk rest (a.put dst (.agg (pre f m b)))) :
    wpK Tryz.prog ops C Qk (⟨dst, .load 213 x, ty, pos, after, gd⟩ :: rest) a :=
  wpK_val hwt (fun w hw => gives_value (w' := w) (by
    have := run_loadAt_mid (P := Tryz.prog) w g o 213 (pre f m b).toList _ (hb w hw) Tryz.underlying213 rfl (info_pre.trans (by rw [Array.length_toList, size_pre]))
    rw [Array.toArray_toList] at this
    simp only [execOp, hx, Sem.run_bind, this, Result.andThen_ok, Sem.run_pure]) hw) h
end
set_option maxHeartbeats 400000 in
set_option maxRecDepth 100000 in
theorem tag_any (s54 s92 : ShaM.S8) (h54 : s54.ok) (h92 : s92.ok) (A : Option Addr) (ls : List (List Nat)) (n cap : Nat) (hl : ls.length = n) (hn : n ≤ 1000000) (hls : ∀ l ∈ ls, B256 l) (hz : 64 + (flat ls).length ≤ 1000000000000000) (w : World) (hA : Prts w w.heap.size A ls) (hS : Salts w) :
    Calls Tryz.prog 139 #[.agg (kyd s54.get s92.get), .slice A n cap] w fun e w' => e = .returned (.agg (tag (tagOf s54 s92 (flat ls)))) ∧ Below w.heap.size w w' := by
  have HA := hid hA
  have HL := hid hl
  have SA := hid hS
  have H54 := hid h54
  have H92 := hid h92
  have HLS := hid hls
  clear hA hl hS h54 h92 hls
  have hZ := zero_msg
  go_enter Tryz.func139, Tryz.ntmps139
  go_upto_region 1 with fail
  generalize hw3 : World.alloc (World.alloc w _) _ = w3
  have b1 : Blk w3 w.heap.size 215 (kyd s54.get s92.get) := by rw [← hw3]; exact (Blk.top rfl rfl).alloc _
  have b2 : Blk w3 (w.heap.size + 1) 81 (tag fun _ => 0) := by rw [← hw3]; exact Blk.top zlit_tag (by simp)
  have hb : Below w.heap.size w w3 := by rw [← hw3]; exact ((Below.refl _ _).alloc (Nat.le_refl _) _).alloc (by simp) _
  have hz3 : w3.heap.size = w.heap.size + 2 := by rw [← hw3]; simp
  clear hw3
  have r1 := b1.kydA
  have HZ3 := hid hz3
  clear hz3
  go_upto_region 2 with (first | ((with_reducible apply ldpm); rfl; exact r1) | ((with_reducible apply bldm); rfl) | ((with_reducible apply stm); rfl; rfl; exact Blk.top rfl rfl; exact size_row))
  clear hZ r1
  generalize hw4 : World.setRow _ _ _ = w4
  obtain ⟨g, hg⟩ : ∃ g, g = w3.heap.size := ⟨_, rfl⟩
  rw [← hg]
  have c3 : Blk w4 g 230 (msg s54.get 64 (fun _ => 0) 0) := by rw [← hw4, hg]; exact (Blk.top rfl rfl).setRow_same _
  have c1 : Blk w4 w.heap.size 215 (kyd s54.get s92.get) := by rw [← hw4]; exact (b1.alloc _).setRow_other (by have := HZ3.out; omega) _
  have c2 : Blk w4 (w.heap.size + 1) 81 (tag fun _ => 0) := by rw [← hw4]; exact (b2.alloc _).setRow_other (by have := HZ3.out; omega) _
  have cb : Below w.heap.size w w4 := by rw [← hw4]; exact below_setRow (hb.alloc (by have := HZ3.out; omega) _) (by have := HZ3.out; omega) _
  have hgz : g = w.heap.size + 2 := by rw [hg, HZ3.out]
  have fd : Fed s54 (flat (ls.take 0)) w4 g := ⟨[], [], fun _ => 0, rfl, rfl, by simp, fun j hj => absurd hj (by simp), by rw [ShaM.passes_short (by simp)]; exact c3⟩
  have hg1 : w.heap.size + 1 < g := by omega
  have hg0 : tabs < g := Nat.lt_trans SA.out.1 (by omega)
  have hcell : ∀ i, i < n → ∃ A' c, w.cell? ⟨0, 0, none⟩ = w.cell? ⟨0, 0, none⟩ := fun i hi => ⟨A, cap, rfl⟩
  clear hw4 b1 b2 hb hg hgz c3 hcell HZ3 w3
  have C1 := hid c1
  have C2 := hid c2
  have CB := hid cb
  have FD := hid fd
  clear c1 c2 cb fd
  go_wp2_with fail
  go_loopw [14] (fun v wr => ∃ i : Nat, i ≤ n ∧ v = .int .i64 i ∧ Hid (Fed s54 (flat (ls.take i)) wr g) ∧ Hid (Below g w4 wr)) (fun v _ => n - (intOf v).toNat)
  case atStart => exact ⟨0, Nat.zero_le _, rfl, FD, hid (Below.refl _ _)⟩
  case round =>
    obtain ⟨i, hi, rfl, fd, hb4⟩ := hrel
    clear FD
    by_cases hlt : i < n
    · have ti : (i : Int) < (n : Int) := by omega
      have hlsi : i < ls.length := by rw [HL.out]; exact hlt
      have hst := flat_step hlsi
      have h256 := part_256 HLS.out i
      have hle := flat_take_le ls (i + 1)
      rw [hst, List.length_append] at hle
      have bel := CB.out.trans (hb4.out.mono (by omega))
      obtain ⟨b, o, rfl, hB, hr⟩ := (HA.out.below bel (Nat.le_refl _)) (by omega)
      obtain ⟨A', c', q1, q2, q3, q4⟩ := hr i hlsi
      obtain ⟨p, hp⟩ : ∃ p, p = ls.getD i [] := ⟨_, rfl⟩
      rw [← hp] at q1 q2 q4 hst h256 hle
      obtain ⟨pn, hpn⟩ : ∃ pn, pn = p.length := ⟨_, rfl⟩
      rw [← hpn] at q1 q2 hle
      have HPN := hid hpn
      clear hp hpn
      have h0256 : B256 (flat (ls.take i)) := flat_256 fun l hl => HLS.out l (List.mem_of_mem_take hl)
      have Q4 := hid q4
      have HST := hid hst
      have H256 := hid h256
      have H0256 := hid h0256
      have BEL := hid bel
      have Q2 := hid q2
      have Q3 := hid q3
      clear hst h256 h0256 bel hr q4 q2 q3
      go_wp2_with fail
      refine (add_any s54 H54.out (flat (ls.take i)) H0256.out g A' p pn c' HPN.out.symm Q2.out Q3.out (by omega) H256.out wr hg0 fd.out (Q4.out.more (by omega)) (SA.out.on BEL.out)).mono ?_
      rintro e w5 ⟨rfl, f5, b5⟩
      have F5 := hid f5
      have B5 := hid (hb4.out.trans b5)
      clear f5 b5 q1 Q4
      go_wp2_with fail
      go_roundw
      case rel => exact ⟨i + 1, by omega, by go_num, hid (by rw [HST.out]; exact F5.out), B5⟩
      case measure => simp [intOf]; omega
    · obtain rfl : i = n := by omega
      have hfull : ls.take i = ls := by rw [← HL.out, List.take_length]
      rw [hfull] at fd
      obtain ⟨A0, L0, f, h1, h2, h3, h4, g5⟩ := fd.out
      clear fd hfull
      have c1 := C1.out.below hb4.out (by omega)
      have c2 := C2.out.below hb4.out hg1
      have cb := CB.out.trans (hb4.out.mono (by omega))
      clear C1 C2 CB hb4
      have C1 := hid c1
      have C2 := hid c2
      have CB := hid cb
      have G5 := hid g5
      obtain ⟨q, hq⟩ : ∃ q, q = L0.length := ⟨_, rfl⟩
      have hq64 : (q : Int) ≤ 64 := by omega
      have hqn : q ≤ 64 := by omega
      rw [← hq] at G5
      have HQ := hid hq
      have H1 := hid h1
      have H2 := hid h2
      have H4 := hid h4
      have H3 := hid h3
      have hzl : (flat ls).length = A0.length + L0.length := by rw [h1, List.length_append]
      have HZL := hid hzl
      have h0256 : B256 L0 := fun x hx => flat_256 HLS.out x (by rw [h1]; exact List.mem_append.2 (.inr hx))
      have H0256 := hid h0256
      clear c1 c2 cb g5 hq h1 h2 h4 hzl h0256 h3
      go_upto_region 7 with fail
      have hgl := G5.out.lt
      refine wp_region_new1 (C := fun w' => Below wr.heap.size wr w') 7 81 (tag fun _ => 0) 8 rfl (by kernel_rfl) (by kernel_rfl) (by kernel_rfl) alloc_tag (Below.refl _ _).drew (fun w' hw' => hw'.alloc hw'.size _) (fun w' hw' => hw'.size) ?_
      simp only [List.take_succ_cons, List.take_zero, List.drop_succ_cons, List.drop_zero]
      apply wpB_val
      · rfl
      · intro w' hw'
        have hbl := Below.refl w'.heap.size w'
        go_simp
        first | exact rfl | exact ⟨rfl, hbl⟩ | exact ⟨rfl, hw', hbl⟩
      simp only [Act.put, sqA, sqB, sqC]
      apply blpm
      · rfl
      · rfl
      · exact fun w' hw' => (G5.out.below hw' G5.out.lt).msgA
      simp only [Act.put, sqA, sqB, sqC]
      apply wpB_val
      · rfl
      · intro w' hw'
        have hbl := Below.refl w'.heap.size w'
        go_simp
        first | exact rfl | exact ⟨rfl, hbl⟩ | exact ⟨rfl, hw', hbl⟩
      simp only [Act.put, sqA, sqB, sqC]
      apply wpB_val
      · rfl
      · intro w' hw'
        have hbl := Below.refl w'.heap.size w'
        go_simp
        first | exact rfl | exact ⟨rfl, hbl⟩ | exact ⟨rfl, hw', hbl⟩
      simp only [Act.put, sqA, sqB, sqC]
      apply wpB_val
      · rfl
      · intro w' hw'
        have hbl := Below.refl w'.heap.size w'
        have hcell : _ := (G5.out.below hw' G5.out.lt).msgN
        go_simp
        first | exact rfl | exact ⟨rfl, hbl⟩ | exact ⟨rfl, hw', hbl⟩
      simp only [Act.put, sqA, sqB, sqC]
      apply wpB_val
      · rfl
      · intro w' hw'
        have hbl := Below.refl w'.heap.size w'
        have ht : _ := hq64
        go_simp
        first | exact rfl | exact ⟨rfl, hbl⟩ | exact ⟨rfl, hw', hbl⟩
      simp only [Act.put, sqA, sqB, sqC]
      apply wpB_val
      · rfl
      · intro w' hw'
        go_simp
        exact (psum_ok (ShaM.passes s54 A0) (ShaM.passes_ok _ (Nat.le_refl _) H54.out) _ L0 q 64 (64 + A0.length) HQ.out.symm (by have := H2.out; omega) hqn (by unfold maxLen; omega) (by have := HZL.out; have := HQ.out; omega) H0256.out _ (((G5.out.below hw' G5.out.lt).msgByt (Nat.lt_of_lt_of_le hgl hw'.size) (by have := HQ.out; omega) fun j hj => H4.out j hj)) (SA.out.on (CB.out.trans (hw'.mono CB.out.size)))).mono fun e w'' ⟨he, hb''⟩ => ⟨he, hw'.trans (hb''.mono hw'.size), hb''⟩
      simp only [Act.put, sqA, sqB, sqC]
      refine wpB_nil fun g8 w5 hw5 q8 hg8 => ?_
      have c1 := C1.out.below hw5 C1.out.lt
      have c2 := C2.out.below hw5 C2.out.lt
      have bel := CB.out.trans (hw5.mono CB.out.size)
      have hgl0 : w.heap.size + 1 < wr.heap.size := C2.out.lt
      have et : ShaM.digest (ShaM.ended (ShaM.passes s54 A0) (64 + A0.length) L0) = ShaM.digest (ShaM.ended s54 64 (flat ls)) := by rw [H1.out, ShaM.ended_append (n := A0.length / 64) (by have := H2.out; omega)]
      rw [et]
      clear hw5 C1 C2 CB G5 et
      unfold ptr
      have C1 := hid c1
      have C2 := hid c2
      have CB := hid bel
      clear c1 c2 bel
      go_upto_region 8 with ((with_reducible apply stt); rfl; rfl; exact q8)
      generalize hw6 : World.setRow _ _ _ = w6
      have d8 : Blk w6 g8 81 (tag (ShaM.digest (ShaM.ended s54 64 (flat ls)))) := by rw [← hw6]; exact q8.setRow_same _
      have d1 : Blk w6 w.heap.size 215 (kyd s54.get s92.get) := by rw [← hw6]; exact C1.out.setRow_other (by omega) _
      have d2 : Blk w6 (w.heap.size + 1) 81 (tag fun _ => 0) := by rw [← hw6]; exact C2.out.setRow_other (by omega) _
      have db : Below w.heap.size w w6 := by rw [← hw6]; exact below_setRow CB.out (by omega) _
      clear hw6 q8 C1 C2 CB w5
      have C1 := hid d1
      have C2 := hid d2
      have C8 := hid d8
      have CB := hid db
      clear d1 d2 d8 db
      have hd256 : B256 (HmM.dl (ShaM.digest (ShaM.ended s54 64 (flat ls)))) := HmM.dl_256 fun k => ShaM.digest_lt _ k
      have HD := hid hd256
      clear hd256
      go_wp2_with fail
      refine wp_region_tail (C := fun w' => Below w6.heap.size w6 w') 4 (by kernel_rfl) (by kernel_rfl) (by kernel_rfl) (Below.refl _ _).drew ?_
      simp only [List.take_succ_cons, List.take_zero, List.drop_succ_cons, List.drop_zero]
      apply wpK_val
      · rfl
      · intro w' hw'
        go_simp
        first | exact rfl | exact ⟨rfl, hw'⟩
      simp only [Act.put, sqA, sqB, sqC]
      apply klpm
      · rfl
      · rfl
      · exact fun w' hw' => (C1.out.below hw' C1.out.lt).kydB
      simp only [Act.put, sqA, sqB, sqC]
      apply wpK_val
      · rfl
      · intro w' hw'
        go_simp
        first | exact rfl | exact ⟨rfl, hw'⟩
      simp only [Act.put, sqA, sqB, sqC]
      apply wpK_val
      · rfl
      · intro w' hw'
        go_simp
        exact (psum_ok s92 H92.out _ (HmM.dl (ShaM.digest (ShaM.ended s54 64 (flat ls)))) 32 32 64 (HmM.dl_length _) rfl (Nat.le_refl _) (by unfold maxLen; omega) (by omega) HD.out _ ((Blk.byt (C8.out.below hw' C8.out.lt) (Nat.lt_of_lt_of_le C8.out.lt hw'.size) (by rw [HmM.dl_length]; omega) fun j hj => by rw [HmM.dl_length] at hj; exact HmM.dl_get _ hj)) (SA.out.on (CB.out.trans (hw'.mono CB.out.size)))).mono fun e w'' ⟨he, hb''⟩ => ⟨he, hw'.trans (hb''.mono hw'.size)⟩
      simp only [Act.put, sqA, sqB, sqC]
      refine wpK_nil fun w7 hw7 => ?_
      have c2 := C2.out.below hw7 C2.out.lt
      have cb := CB.out.trans (hw7.mono CB.out.size)
      clear hw7 C1 C2 C8 CB
      go_wp2_with ((with_reducible apply stt); rfl; rfl; exact c2)
      apply ret_row Tryz.results139
      · exact c2.setRow_same _
      · exact Tryz.underlying81
      · rfl
      · exact (info_tag.trans (by rw [size_tag]))
      · rfl
      · rfl
      exact ⟨rfl, below_setRow cb (by omega) _⟩
theorem tagOf_tag {key : List Nat} (l : List Nat) : tagOf (HmM.from' 54 (HmM.blk key)) (HmM.from' 92 (HmM.blk key)) l = HmM.tag key l := by
  unfold tagOf HmM.tag
  rw [HmM.sum_from (HmM.blk_length key), HmM.sum_from (HmM.blk_length key)]
set_option maxHeartbeats 400000 in
set_option maxRecDepth 100000 in
theorem parts_any (K : Option Addr) (key : List Nat) (kn kcap : Nat) (hkl : key.length = kn) (hkc : kn ≤ kcap) (hkm : kcap ≤ maxLen) (hkz : kn ≤ 1000000000000000) (hk256 : B256 key)
    (A : Option Addr) (ls : List (List Nat)) (n cap : Nat) (hl : ls.length = n) (hn : n ≤ 1000000) (hls : ∀ l ∈ ls, B256 l) (hz : 64 + (flat ls).length ≤ 1000000000000000) (w : World) (hK : Byt w w.heap.size K key) (hA : Prts w w.heap.size A ls) (hS : Salts w) :
    Calls Tryz.prog 122 #[.slice K kn kcap, .slice A n cap] w fun e w' => e = .returned (.agg (tag (HmM.tag key (flat ls)))) ∧ Below w.heap.size w w' := by
  have HA := hid hA
  have HK := hid hK
  have HL := hid hl
  have HKL := hid hkl
  have SA := hid hS
  have HLS := hid hls
  have HK2 := hid hk256
  clear hA hl hS hls hK hkl hk256
  go_enter Tryz.func122, Tryz.ntmps122
  go_upto_region 1 with fail
  generalize hw3 : World.alloc w _ = w3
  have b2 : Blk w3 w.heap.size 81 (tag fun _ => 0) := by rw [← hw3]; exact Blk.top zlit_tag rfl
  have hb : Below w.heap.size w w3 := by rw [← hw3]; exact (Below.refl _ _).alloc (Nat.le_refl _) _
  clear hw3
  have B2 := hid b2
  have BEL := hid hb
  clear b2 hb
  go_wp2_with fail
  refine (under_any K key kn kcap HKL.out hkc hkm hkz HK2.out w3 ((HK.out.below BEL.out (Nat.le_refl _)).more BEL.out.size) (SA.out.on BEL.out)).mono ?_
  rintro e w4 ⟨rfl, h4⟩
  have B4 := hid (B2.out.below h4 B2.out.lt)
  have BEL4 := hid (BEL.out.trans (h4.mono BEL.out.size))
  clear h4 B2 BEL w3
  go_wp2_with fail
  refine (tag_any _ _ (HmM.from_ok 54 _) (HmM.from_ok 92 _) A ls n cap HL.out hn HLS.out hz w4 ((HA.out.below BEL4.out (Nat.le_refl _)).more BEL4.out.size) (SA.out.on BEL4.out)).mono ?_
  rintro e w5 ⟨rfl, h5⟩
  rw [tagOf_tag]
  have b2 := B4.out.below h5 B4.out.lt
  have hb := BEL4.out.trans (h5.mono BEL4.out.size)
  clear h5
  go_wp2_with ((with_reducible apply stt); rfl; rfl; exact b2)
  apply ret_row Tryz.results122
  · exact b2.setRow_same _
  · exact Tryz.underlying81
  · rfl
  · exact (info_tag.trans (by rw [size_tag]))
  · rfl
  · rfl
  exact ⟨rfl, below_setRow hb (Nat.le_refl _) _⟩
set_option maxHeartbeats 400000 in
set_option maxRecDepth 100000 in
theorem hof_any (K : Option Addr) (key : List Nat) (kn kcap : Nat) (hkl : key.length = kn) (hkc : kn ≤ kcap) (hkm : kcap ≤ maxLen) (hkz : kn ≤ 1000000000000000) (hk256 : B256 key)
    (A : Option Addr) (l : List Nat) (n cap : Nat) (hl : l.length = n) (hc : n ≤ cap) (hm : cap ≤ maxLen) (hls : B256 l) (hz : 64 + n ≤ 1000000000000000) (w : World) (hK : Byt w w.heap.size K key) (hA : Byt w w.heap.size A l) (hS : Salts w) :
    Calls Tryz.prog 97 #[.slice K kn kcap, .slice A n cap] w fun e w' => e = .returned (.agg (tag (HmM.tag key l))) ∧ Below w.heap.size w w' := by
  have HA := hid hA
  have HK := hid hK
  have HL := hid hl
  have HKL := hid hkl
  have SA := hid hS
  have HLS := hid hls
  have HK2 := hid hk256
  clear hA hl hS hls hK hkl hk256
  go_enter Tryz.func97, Tryz.ntmps97
  go_upto_region 1 with fail
  generalize hw3 : World.alloc w _ = w3
  have b2 : Blk w3 w.heap.size 81 (tag fun _ => 0) := by rw [← hw3]; exact Blk.top zlit_tag rfl
  have hb : Below w.heap.size w w3 := by rw [← hw3]; exact (Below.refl _ _).alloc (Nat.le_refl _) _
  clear hw3
  have B2 := hid b2
  have BEL := hid hb
  clear b2 hb
  go_wp2_with fail
  generalize hw4 : World.alloc w3 _ = w4
  have b2 : Blk w4 w.heap.size 81 (tag fun _ => 0) := by rw [← hw4]; exact B2.out.alloc _
  have hb : Below w.heap.size w w4 := by rw [← hw4]; exact BEL.out.alloc BEL.out.size _
  have hp : Prts w4 w4.heap.size (some ⟨w3.heap.size, 0, none⟩) [l] := fun _ => by
    refine ⟨w3.heap.size, 0, rfl, by rw [← hw4]; simp, fun i hi => ?_⟩
    obtain rfl : i = 0 := by simp at hi; omega
    refine ⟨A, cap, ?_, by rw [show [l].getD 0 [] = l from rfl, HL.out]; exact hc, hm, (HA.out.below hb (Nat.le_refl _)).more hb.size⟩
    rw [show [l].getD 0 [] = l from rfl, HL.out, ← hw4]
    exact (Blk.top rfl rfl).cell 0
  clear hw4 B2 BEL
  have B2 := hid b2
  have BEL := hid hb
  have HP := hid hp
  clear b2 hb hp
  refine (parts_any K key kn kcap HKL.out hkc hkm hkz HK2.out _ [l] 1 1 rfl (by omega) (fun x hx => by rw [List.mem_singleton.1 hx]; exact HLS.out) (by rw [show flat [l] = l by simp [flat], HL.out]; exact hz) w4 ((HK.out.below BEL.out (Nat.le_refl _)).more BEL.out.size) HP.out (SA.out.on BEL.out)).mono ?_
  rintro e w5 ⟨rfl, h5⟩
  rw [show flat [l] = l by simp [flat]]
  have b2 := B2.out.below h5 B2.out.lt
  have hb := BEL.out.trans (h5.mono BEL.out.size)
  clear h5
  go_wp2_with ((with_reducible apply stt); rfl; rfl; exact b2)
  apply ret_row Tryz.results97
  · exact b2.setRow_same _
  · exact Tryz.underlying81
  · rfl
  · exact (info_tag.trans (by rw [size_tag]))
  · rfl
  · rfl
  exact ⟨rfl, below_setRow hb (Nat.le_refl _) _⟩
end Go.Proofs.YtklmjdhhnnanoaaGreatDoor
set_option maxRecDepth 100000
namespace Go.Proofs.YtklmjdhhnnanoaaGreatDoor
open Go.ChangeShapes Go.WideShapes Go.ChangeAt Go.RowKit
attribute [local go_sem] Gives
def eqT (f g : Nat → Nat) : Bool := eqN 32 (fun k => f k) fun k => g k
section
variable {ops : Array Oper} {Q : Exit → Act → World → Prop} {a : Act} {w : World} {rest : List Oper} {dst : Option Tmp} {ty : TypeId} {pos : String} {after : Array Edge} {x : Operand} {g : Nat} {f : Nat → Nat}
end
end Go.Proofs.YtklmjdhhnnanoaaGreatDoor
set_option maxRecDepth 100000
namespace Go.Proofs.YtklmjdhhnnanoaaGreatDoor
open Go.ChangeShapes Go.WideShapes Go.ChangeAt Go.RowKit
end Go.Proofs.YtklmjdhhnnanoaaGreatDoor
set_option maxRecDepth 100000
namespace Go.Proofs.YtklmjdhhnnanoaaGreatDoor
open Go.ChangeShapes Go.WideShapes Go.ChangeAt Go.RowKit
attribute [local go_sem] Gives
end Go.Proofs.YtklmjdhhnnanoaaGreatDoor
