/-
  HMAC-SHA-256 in plain numbers: a key's block, tags, stretches; nothing of the program stands here.
  Contracts of hmac.keyBlock, hmac.padded over this translation.
  Several cells of a block stored one behind the other.
  The structs hmac.keyed and hmac.message, as values and in memory; contracts of hmac.under, (*hmac.message).goOver over this translation.
  Contract of (*hmac.message).add over this translation.
  Contracts of (hmac.keyed).tag, hmac.Parts, hmac.Of over this translation.
  '==' of two arrays of integers.
  Tags held against each other; bytes out of a literal.
  The type of slices of bytes; '==' of two tags.
  Contracts of the document's keys' blocks and tags (casemateref04.Block, Of, Parts, Bytes) over this translation.
  Contract of the document's tag (casemateref04.Of) over this translation.
  Numbers, texts and rows as bytes, and tapes, in plain numbers (no text of the program).
-/
import Derived.Test.YtdfoehcdabmagaaDoorMrg3
import Derived.Laws.BitsAllLaws
import Derived.Deep.MidRow
import Derived.Laws.StructEq
set_option linter.unusedVariables false
set_option linter.unusedSimpArgs false
set_option maxRecDepth 100000
namespace Go.Proofs.YtdfoehcdabmagaaDoor.HmM
open ShaM
/-- A digest's bytes as a list. -/
def dl (f : Nat → Nat) : List Nat := (List.range 32).map f
theorem dl_length (f : Nat → Nat) : (dl f).length = 32 := by simp [dl]
theorem dl_get (f : Nat → Nat) {k : Nat} (h : k < 32) : (dl f).getD k 0 = f k := by simp [dl, h]
theorem dl_256 {f : Nat → Nat} (h : ∀ k, f k < 256) : ∀ x ∈ dl f, x < 256 := fun x hx => by
  obtain ⟨k, _, rfl⟩ := List.mem_map.1 hx
  exact h k
theorem dl_congr {f g : Nat → Nat} (h : ∀ k, k < 32 → f k = g k) : dl f = dl g := List.map_congr_left fun k hk => h k (List.mem_range.1 hk)
/-- A key, or the digest of one that is longer than a block. -/
def cutK (key : List Nat) : List Nat := if 64 < key.length then dl (sum key) else key
theorem cutK_len (key : List Nat) : (cutK key).length ≤ 64 := by
  unfold cutK; split
  · rw [dl_length]; omega
  · omega
/-- A key's block. -/
def blk (key : List Nat) : List Nat := cutK key ++ List.replicate (64 - (cutK key).length) 0
theorem blk_length (key : List Nat) : (blk key).length = 64 := by
  have := cutK_len key
  simp [blk]; omega
theorem blk_get (key : List Nat) (j : Nat) : (blk key).getD j 0 = if j < (cutK key).length then (cutK key).getD j 0 else 0 := by
  unfold blk
  rw [List.getD_eq_getElem?_getD, List.getD_eq_getElem?_getD]
  by_cases h : j < (cutK key).length
  · rw [if_pos h, List.getElem?_append_left h]
  · rw [if_neg h, List.getElem?_append_right (by omega), List.getElem?_replicate]
    split <;> rfl
theorem sum_256 (l : List Nat) (k : Nat) : sum l k < 256 := digest_lt _ k
theorem cutK_256 {key : List Nat} (h : ∀ x ∈ key, x < 256) : ∀ x ∈ cutK key, x < 256 := by
  unfold cutK; split
  · exact dl_256 (sum_256 key)
  · exact h
theorem blk_256 {key : List Nat} (h : ∀ x ∈ key, x < 256) : ∀ x ∈ blk key, x < 256 := fun x hx => by
  rcases List.mem_append.1 hx with hx | hx
  · exact cutK_256 h x hx
  · rw [(List.mem_replicate.1 hx).2]; omega
/-- Each byte added to x. -/
def pad (x : Nat) (k : List Nat) : List Nat := k.map (· ^^^ x)
theorem pad_length (x : Nat) (k : List Nat) : (pad x k).length = k.length := by simp [pad]
theorem pad_get (x : Nat) (k : List Nat) {j : Nat} (h : j < k.length) : (pad x k).getD j 0 = k.getD j 0 ^^^ x := by
  simp [pad, List.getD_eq_getElem?_getD, h]
theorem pad_256 {x : Nat} (hx : x < 256) {k : List Nat} (h : ∀ y ∈ k, y < 256) : ∀ y ∈ pad x k, y < 256 := fun y hy => by
  obtain ⟨z, hz, rfl⟩ := List.mem_map.1 hy
  exact Nat.xor_lt_two_pow (n := 8) (h z hz) hx
/-- The tag of b under key. -/
def tag (key b : List Nat) : Nat → Nat := sum (pad 92 (blk key) ++ dl (sum (pad 54 (blk key) ++ b)))
theorem tag_256 (key b : List Nat) (k : Nat) : tag key b k < 256 := sum_256 _ k
/-- Where all tags under a block begin. -/
def from' (x : Nat) (bk : List Nat) : S8 := passes seeds (pad x bk)
theorem from_ok (x : Nat) (bk : List Nat) : (from' x bk).ok := passes_ok _ (Nat.le_refl _) seeds_ok
theorem sum_from {x : Nat} {bk b : List Nat} (h : bk.length = 64) : sum (pad x bk ++ b) = digest (ended (from' x bk) 64 b) := by
  unfold sum from'
  rw [ended_append (n := 1) (by rw [pad_length, h]), pad_length, h]
/-- The tag of whole blocks A and what is left behind them. -/
theorem tag_parts {key A L : List Nat} {n : Nat} (hA : A.length = 64 * n) : tag key (A ++ L) = digest (ended (from' 92 (blk key)) 64 (dl (digest (ended (passes (from' 54 (blk key)) A) (64 + A.length) L)))) := by
  unfold tag
  rw [sum_from (blk_length key), sum_from (blk_length key), ended_append hA]
theorem tag_zeros {key : List Nat} {m : Nat} (h : key.length + m ≤ 64) (b : List Nat) : tag (key ++ List.replicate m 0) b = tag key b := by
  have e : blk (key ++ List.replicate m 0) = blk key := by
    have c1 : cutK (key ++ List.replicate m 0) = key ++ List.replicate m 0 := by unfold cutK; rw [if_neg (by simp; omega)]
    have c2 : cutK key = key := by unfold cutK; rw [if_neg (by omega)]
    unfold blk
    rw [c1, c2, List.append_assoc, List.length_append, List.length_replicate, List.replicate_append_replicate, show m + (64 - (key.length + m)) = 64 - key.length by omega]
  unfold tag
  rw [e]
theorem tag_long {key : List Nat} (h : 64 < key.length) (b : List Nat) : tag (dl (sum key)) b = tag key b := by
  have e : blk (dl (sum key)) = blk key := by
    have c1 : cutK (dl (sum key)) = dl (sum key) := by unfold cutK; rw [if_neg (by rw [dl_length]; omega)]
    have c2 : cutK key = dl (sum key) := by unfold cutK; rw [if_pos h]
    unfold blk
    rw [c1, c2]
  unfold tag
  rw [e]
/-- The n-th tag of a stretch, from 1 on; the one ahead of the first has no bytes. -/
def link (key b : List Nat) : Nat → List Nat
  | 0 => []
  | n + 1 => dl (tag key (link key b n ++ b ++ [(n + 1) % 256]))
theorem link_length (key b : List Nat) (n : Nat) : (link key b (n + 1)).length = 32 := dl_length _
theorem link_256 (key b : List Nat) : ∀ n, ∀ x ∈ link key b n, x < 256
  | 0 => fun x hx => by cases hx
  | n + 1 => dl_256 (tag_256 _ _)
/-- The first n tags of a stretch. -/
def chain (key b : List Nat) : Nat → List Nat
  | 0 => []
  | n + 1 => chain key b n ++ link key b (n + 1)
theorem chain_length (key b : List Nat) : ∀ n, (chain key b n).length = 32 * n
  | 0 => rfl
  | n + 1 => by rw [chain, List.length_append, chain_length key b n, link_length]; omega
theorem chain_256 (key b : List Nat) : ∀ n, ∀ x ∈ chain key b n, x < 256
  | 0 => fun x hx => by cases hx
  | n + 1 => fun x hx => by
    rcases List.mem_append.1 hx with hx | hx
    · exact chain_256 key b n x hx
    · exact link_256 key b (n + 1) x hx
/-- The first size bytes. -/
def stretch (key b : List Nat) (size : Nat) : List Nat := (chain key b ((size + 31) / 32)).take size
theorem stretch_length (key b : List Nat) (size : Nat) : (stretch key b size).length = size := by
  unfold stretch; rw [List.length_take, chain_length]; omega
theorem chain_take (key b : List Nat) {n : Nat} : ∀ {m : Nat}, n ≤ m → (chain key b m).take (32 * n) = chain key b n := by
  intro m h
  induction m with
  | zero => rw [show n = 0 by omega]; rfl
  | succ m ih =>
    by_cases e : n = m + 1
    · subst e; rw [← chain_length key b (m + 1), List.take_length]
    · rw [chain, List.take_append_of_le_length (by rw [chain_length]; omega), ih (by omega)]
theorem stretch_any (key b : List Nat) {size n : Nat} (h : size ≤ 32 * n) : (chain key b n).take size = stretch key b size := by
  unfold stretch
  rw [← chain_take key b (n := (size + 31) / 32) (m := n) (by omega), List.take_take, Nat.min_eq_left (by omega)]
theorem stretch_take (key b : List Nat) {n m : Nat} (h : m ≤ n) : (stretch key b n).take m = stretch key b m := by
  have e : stretch key b n = (chain key b ((n + 31) / 32)).take n := rfl
  rw [e, List.take_take, Nat.min_eq_left h]
  exact stretch_any key b (by omega)
end Go.Proofs.YtdfoehcdabmagaaDoor.HmM
set_option maxRecDepth 100000
namespace Go.Proofs.YtdfoehcdabmagaaDoor
open Go.ChangeShapes Go.WideShapes Go.ChangeAt Go.RowKit
attribute [local go_sem] Gives
theorem zlit_b64 : (#[.int .u8 0, .int .u8 0, .int .u8 0, .int .u8 0, .int .u8 0, .int .u8 0, .int .u8 0, .int .u8 0, .int .u8 0, .int .u8 0, .int .u8 0, .int .u8 0, .int .u8 0, .int .u8 0, .int .u8 0, .int .u8 0, .int .u8 0, .int .u8 0, .int .u8 0, .int .u8 0, .int .u8 0, .int .u8 0, .int .u8 0, .int .u8 0, .int .u8 0, .int .u8 0, .int .u8 0, .int .u8 0, .int .u8 0, .int .u8 0, .int .u8 0, .int .u8 0, .int .u8 0, .int .u8 0, .int .u8 0, .int .u8 0, .int .u8 0, .int .u8 0, .int .u8 0, .int .u8 0, .int .u8 0, .int .u8 0, .int .u8 0, .int .u8 0, .int .u8 0, .int .u8 0, .int .u8 0, .int .u8 0, .int .u8 0, .int .u8 0, .int .u8 0, .int .u8 0, .int .u8 0, .int .u8 0, .int .u8 0, .int .u8 0, .int .u8 0, .int .u8 0, .int .u8 0, .int .u8 0, .int .u8 0, .int .u8 0, .int .u8 0, .int .u8 0] : Array Value) = bts 64 fun _ => 0 := by rfl
theorem info_b64 : (Tryd.prog.info? 94).map (·.size) = some 64 := by kernel_rfl
section
variable {ops : Array Oper} {Q : Exit → Act → World → Prop} {a : Act} {w : World} {rest : List Oper} {dst : Option Tmp} {ty : TypeId} {pos : String} {after : Array Edge} {x y : Operand} {g : Nat} {f f0 : Nat → Nat}
theorem ldb (hx : a.eval x = .pointer (some ⟨g, 0, none⟩)) (hb : Blk w g 94 (bts 64 f)) (h : wpList Tryd.prog ops Q rest (a.put dst (.agg (bts 64 f))) w) :
    wpList Tryd.prog ops Q (⟨dst, .load 94 x, ty, pos, after, none⟩ :: rest) a w :=
  step_load_row hb Tryd.underlying94 rfl (info_b64.trans (by rw [size_bts])) hx h
theorem stb (hx : a.eval x = .pointer (some ⟨g, 0, none⟩)) (hy : a.eval y = .agg (bts 64 f)) (hb : Blk w g 94 (bts 64 f0)) (h : wpList Tryd.prog ops Q rest (a.put dst undef) (w.setRow g (bts 64 f))) :
    wpList Tryd.prog ops Q (⟨dst, .store 94 x y, ty, pos, after, none⟩ :: rest) a w :=
  step_store_row hb (info_b64.trans (by rw [size_bts])) (by rw [size_bts, size_bts]) bts_one hx hy h
end
/-- A list's bytes as a row of 64. -/
abbrev l64 (l : List Nat) : Array Value := bts 64 fun j => l.getD j 0
theorem key_row {key : List Nat} {n : Nat} (h : (HmM.cutK key).length = n) : (bts 64 fun j => if j < n then ShaM.at' (HmM.cutK key) j else 0) = l64 (HmM.blk key) := bts_ext fun j _ => by
  subst h
  rw [HmM.blk_get]; rfl
set_option maxHeartbeats 400000 in
set_option maxRecDepth 100000 in
theorem key_short (A : Option Addr) (l : List Nat) (n cap : Nat) (hl : l.length = n) (hn : n ≤ 64) (hc : n ≤ cap) (hm : cap ≤ maxLen) (w : World) (hA : Byt w w.heap.size A l) :
    Calls Tryd.prog 60 #[.slice A n cap] w fun e w' => e = .returned (.agg (l64 (HmM.blk l))) ∧ Below w.heap.size w w' := by
  have HA := hid hA
  have HL := hid hl
  have hk : HmM.cutK l = l := by unfold HmM.cutK; rw [if_neg (by omega)]
  have HK := hid hk
  clear hA hl hk
  have t0 : decide ((64 : Int) < (n : Int)) = false := by simp; omega
  go_enter Tryd.func60, Tryd.ntmps60
  go_upto_region 5 with fail
  generalize hw3 : World.alloc (World.alloc w _) _ = w3
  have b1 : Blk w3 w.heap.size 94 (bts 64 fun _ => 0) := by rw [← hw3]; exact (Blk.top zlit_b64 rfl).alloc _
  have b2 : Blk w3 (w.heap.size + 1) 94 (bts 64 fun _ => 0) := by rw [← hw3]; exact Blk.top zlit_b64 (by simp)
  have hb : Below w.heap.size w w3 := by rw [← hw3]; exact ((Below.refl _ _).alloc (Nat.le_refl _) _).alloc (by simp) _
  clear hw3
  have ha := (HA.out.below hb (Nat.le_refl _))
  go_upto_region 6 with ((with_reducible apply wcopy); rfl; rfl; exact b2; exact ha; exact HL.out; omega)
  generalize hw4 : World.setRow _ _ _ = w4
  have c2 : Blk w4 (w.heap.size + 1) 94 (l64 (HmM.blk l)) := by
    rw [← hw4]
    have h := b2.setRow_same (bts 64 fun j => if j < n then ShaM.at' l j else 0)
    rw [← key_row (key := l) (n := n) (by rw [HK.out, HL.out]), HK.out]
    exact h
  have c1 : Blk w4 w.heap.size 94 (bts 64 fun _ => 0) := by rw [← hw4]; exact b1.setRow_other (by omega) _
  have cb : Below w.heap.size w w4 := by rw [← hw4]; exact below_setRow hb (by omega) _
  clear hw4 b1 b2 hb ha w3
  go_wp2_with (first | ((with_reducible apply ldb); rfl; exact c2) | ((with_reducible apply stb); rfl; rfl; exact c1))
  apply ret_row Tryd.results60
  · exact c1.setRow_same _
  · exact Tryd.underlying94
  · rfl
  · exact (info_b64.trans (by rw [size_bts]))
  · rfl
  · rfl
  exact ⟨rfl, below_setRow cb (Nat.le_refl _) _⟩
set_option maxHeartbeats 400000 in
set_option maxRecDepth 100000 in
theorem key_long (A : Option Addr) (l : List Nat) (n cap : Nat) (hl : l.length = n) (hn : 64 < n) (hc : n ≤ cap) (hm : cap ≤ maxLen) (hz : n ≤ 1000000000000000) (h256 : B256 l) (w : World) (hA : Byt w w.heap.size A l) (hS : Salts w) :
    Calls Tryd.prog 60 #[.slice A n cap] w fun e w' => e = .returned (.agg (l64 (HmM.blk l))) ∧ Below w.heap.size w w' := by
  have HA := hid hA
  have HL := hid hl
  have SA := hid hS
  have H256 := hid h256
  have hk : HmM.cutK l = HmM.dl (ShaM.sum l) := by unfold HmM.cutK; rw [if_pos (by omega)]
  have HK := hid hk
  clear hA hl hk hS h256
  have t0 : decide ((64 : Int) < (n : Int)) = true := by simp; omega
  go_enter Tryd.func60, Tryd.ntmps60
  go_upto_region 3 with fail
  generalize hw3 : World.alloc (World.alloc w _) _ = w3
  have b1 : Blk w3 w.heap.size 94 (bts 64 fun _ => 0) := by rw [← hw3]; exact (Blk.top zlit_b64 rfl).alloc _
  have b2 : Blk w3 (w.heap.size + 1) 94 (bts 64 fun _ => 0) := by rw [← hw3]; exact Blk.top zlit_b64 (by simp)
  have hb : Below w.heap.size w w3 := by rw [← hw3]; exact ((Below.refl _ _).alloc (Nat.le_refl _) _).alloc (by simp) _
  clear hw3
  have B1 := hid b1
  have B2 := hid b2
  have BEL := hid hb
  clear b1 b2 hb
  go_wp2_with fail
  refine (sum_any A l n cap HL.out hc hm hz H256.out w3 ((HA.out.below BEL.out (Nat.le_refl _)).more BEL.out.size) (SA.out.on BEL.out)).mono ?_
  rintro e w4 ⟨rfl, h4⟩
  have b1 := B1.out.below h4 B1.out.lt
  have b2 := B2.out.below h4 B2.out.lt
  have hb := BEL.out.trans (h4.mono BEL.out.size)
  have hz2 : w.heap.size + 1 < w4.heap.size := b2.lt
  clear h4 B1 B2 BEL
  go_upto_region 5 with ((with_reducible apply stt); rfl; rfl; exact Blk.top zlit_tag rfl)
  generalize hw5 : World.setRow _ _ _ = w5
  have c3 : Blk w5 w4.heap.size 27 (tag (ShaM.sum l)) := by rw [← hw5]; exact (Blk.top zlit_tag rfl).setRow_same _
  have c1 : Blk w5 w.heap.size 94 (bts 64 fun _ => 0) := by rw [← hw5]; exact (b1.alloc _).setRow_other (by omega) _
  have c2 : Blk w5 (w.heap.size + 1) 94 (bts 64 fun _ => 0) := by rw [← hw5]; exact (b2.alloc _).setRow_other (by omega) _
  have cb : Below w.heap.size w w5 := by rw [← hw5]; exact below_setRow (hb.alloc (by omega) _) (by omega) _
  have ha : Byt w5 w5.heap.size (some ⟨w4.heap.size, 0, none⟩) (HmM.dl (ShaM.sum l)) := Blk.byt c3 c3.lt (by rw [HmM.dl_length]; omega) fun j hj => by rw [HmM.dl_length] at hj; exact HmM.dl_get _ hj
  clear hw5 b1 b2 hb
  go_upto_region 6 with ((with_reducible apply wcopy); rfl; rfl; exact c2; exact ha; exact HmM.dl_length _; omega)
  generalize hw6 : World.setRow _ _ _ = w6
  have d2 : Blk w6 (w.heap.size + 1) 94 (l64 (HmM.blk l)) := by
    rw [← hw6]
    have h := c2.setRow_same (bts 64 fun j => if j < 32 then ShaM.at' (HmM.dl (ShaM.sum l)) j else 0)
    rw [← key_row (key := l) (n := 32) (by rw [HK.out, HmM.dl_length]), HK.out]
    exact h
  have d1 : Blk w6 w.heap.size 94 (bts 64 fun _ => 0) := by rw [← hw6]; exact c1.setRow_other (by omega) _
  have db : Below w.heap.size w w6 := by rw [← hw6]; exact below_setRow cb (by omega) _
  clear hw6 c1 c2 c3 cb ha
  go_wp2_with (first | ((with_reducible apply ldb); rfl; exact d2) | ((with_reducible apply stb); rfl; rfl; exact d1))
  apply ret_row Tryd.results60
  · exact d1.setRow_same _
  · exact Tryd.underlying94
  · rfl
  · exact (info_b64.trans (by rw [size_bts]))
  · rfl
  · rfl
  exact ⟨rfl, below_setRow db (Nat.le_refl _) _⟩
theorem key_any (A : Option Addr) (l : List Nat) (n cap : Nat) (hl : l.length = n) (hc : n ≤ cap) (hm : cap ≤ maxLen) (hz : n ≤ 1000000000000000) (h256 : B256 l) (w : World) (hA : Byt w w.heap.size A l) (hS : Salts w) :
    Calls Tryd.prog 60 #[.slice A n cap] w fun e w' => e = .returned (.agg (l64 (HmM.blk l))) ∧ Below w.heap.size w w' := by
  rcases Nat.lt_or_ge 64 n with h | h
  · exact key_long A l n cap hl h hc hm hz h256 w hA hS
  · exact key_short A l n cap hl h hc hm w hA
/-- The first k bytes added to x. -/
def padK (x : Nat) (l : List Nat) (k j : Nat) : Nat := if j < k then l.getD j 0 ^^^ x else l.getD j 0
theorem padK_step (x : Nat) (l : List Nat) (k : Nat) : (fun j => if j = k then l.getD k 0 ^^^ x else padK x l k j) = padK x l (k + 1) := funext fun j => by
  unfold padK
  by_cases h : j = k
  · subst h; rw [if_pos rfl, if_pos (by omega)]
  · rw [if_neg h]
    by_cases h2 : j < k
    · rw [if_pos h2, if_pos (by omega)]
    · rw [if_neg h2, if_neg (by omega)]
theorem padK_full {x : Nat} {l : List Nat} (h : l.length = 64) : bts 64 (padK x l 64) = l64 (HmM.pad x l) := bts_ext fun j hj => by
  unfold padK
  rw [if_pos hj, HmM.pad_get x l (by omega)]
set_option maxHeartbeats 400000 in
set_option maxRecDepth 100000 in
theorem padded_any (l : List Nat) (hl : l.length = 64) (h256 : B256 l) (x : Nat) (hx : x < 256) (w : World) (hS : Salts w) :
    Calls Tryd.prog 61 #[.agg (l64 l), .int .u8 x] w fun e w' => e = .returned (.agg (pre (HmM.from' x l).get 64 true)) ∧ Below w.heap.size w w' := by
  have HL := hid hl
  have SA := hid hS
  have H256 := hid h256
  clear hl hS h256
  go_enter Tryd.func61, Tryd.ntmps61
  go_upto_region 2 with fail
  generalize hw3 : World.alloc (World.alloc w _) _ = w3
  have b1 : Blk w3 w.heap.size 94 (bts 64 (padK x l 0)) := by rw [← hw3]; exact (Blk.top rfl rfl).alloc _
  have b2 : Blk w3 (w.heap.size + 1) 83 (pre (fun _ => 0) 0 false) := by rw [← hw3]; exact Blk.top zlit_pre (by simp)
  have hb : Below w.heap.size w w3 := by rw [← hw3]; exact ((Below.refl _ _).alloc (Nat.le_refl _) _).alloc (by simp) _
  clear hw3
  go_loopw [8] (fun v wr => ∃ k : Nat, k ≤ 64 ∧ v = .int .i64 k ∧ Blk wr w.heap.size 94 (bts 64 (padK x l k)) ∧ Blk wr (w.heap.size + 1) 83 (pre (fun _ => 0) 0 false) ∧ Below w.heap.size w wr) (fun v _ => 64 - (intOf v).toNat)
  case atStart => exact ⟨0, by omega, rfl, b1, b2, hb⟩
  case round =>
    clear b1 b2 hb
    obtain ⟨k, hk, rfl, b1, b2, hb⟩ := hrel
    by_cases hlt : k < 64
    · have tk : (k : Int) < 64 := by omega
      have hg : padK x l k k = l.getD k 0 := by unfold padK; rw [if_neg (by omega)]
      have q1 : wr.cell? ⟨w.heap.size, k, none⟩ = some (.int .u8 (l.getD k 0 : Nat)) := by rw [b1.cell, get_bts hlt, hg]
      have q3 := b1.frozen k
      have h1 : l.getD k 0 < 256 := ShaM.getD_lt (by omega) H256.out k
      have hx1 : bits .xor .u8 ((l.getD k 0 : Nat) : Int) (x : Int) = ((l.getD k 0 ^^^ x : Nat) : Int) := u8_xor_nat _ _ h1 hx
      generalize hy : l.getD k 0 = y at *
      have HY := hid hy
      have HG := hid hg
      have B1 := hid b1
      have B2 := hid b2
      have BEL := hid hb
      clear hy hg b1 b2 hb
      go_wp2_with fail
      go_roundw
      case rel =>
        refine ⟨k + 1, by omega, by go_num, ?_, B2.out.setCell_other (by simp) _, BEL.out.setCell (by simp) _⟩
        have h := B1.out.setCell_same k (.int .u8 (y ^^^ x : Nat))
        rw [bts_set, ← HY.out, padK_step] at h
        rw [← HY.out]
        exact h
      case measure => simp [intOf]; omega
    · have tk : decide ((k : Int) < 64) = false := by simp; omega
      rw [show k = 64 by omega, padK_full HL.out] at b1
      have hpl : (HmM.pad x l).length = 64 := by rw [HmM.pad_length, HL.out]
      have hp256 : B256 (HmM.pad x l) := HmM.pad_256 hx H256.out
      have hby : Byt wr wr.heap.size (some ⟨w.heap.size, 0, none⟩) (HmM.pad x l) := b1.byt b1.lt (by omega) fun _ _ => rfl
      have HP := hid hpl
      have HP2 := hid hp256
      have BY := hid hby
      have B2 := hid b2
      have BEL := hid hb
      clear b1 b2 hb hpl hp256 hby
      go_wp2_with fail
      refine (ahead_ok _ (HmM.pad x l) 64 64 HP.out rfl (Nat.le_refl _) (by unfold maxLen; omega) (by omega) HP2.out wr BY.out (SA.out.on BEL.out)).mono ?_
      rintro e w4 ⟨rfl, h4⟩
      have b2 := B2.out.below h4 B2.out.lt
      have hb := BEL.out.trans (h4.mono BEL.out.size)
      have hz2 : w.heap.size + 1 < w4.heap.size := b2.lt
      clear h4 B2 BEL BY HP2 HP
      rw [show ShaM.passes ShaM.seeds (HmM.pad x l) = HmM.from' x l from rfl]
      go_upto_region 7 with ((with_reducible apply stp); rfl; rfl; exact Blk.top zlit_pre rfl)
      generalize hw5 : World.setRow _ _ _ = w5
      have c3 : Blk w5 w4.heap.size 83 (pre (HmM.from' x l).get 64 true) := by rw [← hw5]; exact (Blk.top zlit_pre rfl).setRow_same _
      have c2 : Blk w5 (w.heap.size + 1) 83 (pre (fun _ => 0) 0 false) := by rw [← hw5]; exact (b2.alloc _).setRow_other (by omega) _
      have cb : Below w.heap.size w w5 := by rw [← hw5]; exact below_setRow (hb.alloc (by omega) _) (by omega) _
      clear hw5 b2 hb
      go_wp2_with (first | ((with_reducible apply ldp); rfl; exact c3) | ((with_reducible apply stp); rfl; rfl; exact c2))
      apply ret_row Tryd.results61
      · exact c2.setRow_same _
      · exact Tryd.underlying83
      · rfl
      · exact (info_pre.trans (by rw [size_pre]))
      · rfl
      · rfl
      exact ⟨rfl, below_setRow cb (by omega) _⟩
end Go.Proofs.YtdfoehcdabmagaaDoor
set_option maxRecDepth 100000
namespace Go.Proofs.YtdfoehcdabmagaaDoor
open Go.RowKit
section
variable {w : World} {g : Nat} {t : TypeId}
/-- The cells vs laid into a row from place o on. -/
theorem blk_setCells {N : Nat} : ∀ (vs : List Value) (o : Nat) (w : World) (F : Nat → Value), Blk w g t (row N F) → o + vs.length ≤ N →
    Blk (w.setCells g o vs) g t (row N fun j => if o ≤ j ∧ j < o + vs.length then vs.getD (j - o) undef else F j) ∧ Below g w (w.setCells g o vs)
  | [], o, w, F, h, _ => by
    rw [World.setCells]
    refine ⟨?_, Below.refl _ _⟩
    rw [row_ext (g := F) fun j _ => if_neg (by rw [List.length_nil]; omega)]
    exact h
  | v :: r, o, w, F, h, hN => by
    rw [List.length_cons] at hN
    have h1 := h.setCell_same o v
    rw [row_set] at h1
    obtain ⟨h2, h3⟩ := blk_setCells r (o + 1) _ _ h1 (by omega)
    rw [World.setCells]
    refine ⟨?_, ((Below.refl g w).setCell (p := ⟨g, o, none⟩) (Nat.le_refl _) v).trans h3⟩
    rw [row_ext (g := fun j => if o ≤ j ∧ j < o + (v :: r).length then (v :: r).getD (j - o) undef else F j) fun j _ => ?_] at h2
    · exact h2
    · rw [List.length_cons]
      by_cases e : j = o
      · subst e
        rw [if_neg (by omega), if_pos rfl, if_pos (by omega), Nat.sub_self]; rfl
      · by_cases e2 : o + 1 ≤ j ∧ j < o + 1 + r.length
        · rw [if_pos e2, if_pos (by omega), show j - o = (j - (o + 1)) + 1 by omega, List.getD_cons_succ]
        · rw [if_neg e2, if_neg e, if_neg (by omega)]
end
end Go.Proofs.YtdfoehcdabmagaaDoor
set_option maxRecDepth 100000
namespace Go.Proofs.YtdfoehcdabmagaaDoor
open Go.ChangeShapes Go.WideShapes Go.ChangeAt Go.RowKit
attribute [local go_sem] Gives
/-- A prefix's cells. -/
def preC (f : Nat → Nat) (m : Nat) (b : Bool) (j : Nat) : Value := if j < 8 then .int .u32 (f j : Nat) else if j = 8 then .int .i64 m else .bool b
theorem pre_row (f : Nat → Nat) (m : Nat) (b : Bool) : pre f m b = row 10 (preC f m b) := rfl
theorem preC_one (f : Nat → Nat) (m : Nat) (b : Bool) (j : Nat) : (preC f m b j).oneCell' = true := by
  unfold preC
  by_cases h : j < 8
  · simp only [h, if_true]; rfl
  · simp only [h, if_false]
    by_cases h2 : j = 8
    · simp only [h2, if_true]; rfl
    · simp only [h2, if_false]; rfl
/-- Where all tags under one key begin. -/
def kyd (f g : Nat → Nat) : Array Value := row 20 fun j => if j < 10 then preC f 64 true j else preC g 64 true (j - 10)
theorem size_kyd {f g : Nat → Nat} : (kyd f g).size = 20 := size_row
theorem info_kyd : (Tryd.prog.info? 85).map (·.size) = some 20 := by kernel_rfl
theorem built_kyd (f g : Nat → Nat) : Tryd.prog.built 85 [(0, .agg (pre f 64 true)), (1, .agg (pre g 64 true))] = some (kyd f g) := by kernel_rfl
theorem zlit_kyd : (#[.int .u32 0, .int .u32 0, .int .u32 0, .int .u32 0, .int .u32 0, .int .u32 0, .int .u32 0, .int .u32 0, .int .i64 0, .bool false, .int .u32 0, .int .u32 0, .int .u32 0, .int .u32 0, .int .u32 0, .int .u32 0, .int .u32 0, .int .u32 0, .int .i64 0, .bool false] : Array Value) = row 20 fun j => if j < 10 then preC (fun _ => 0) 0 false j else preC (fun _ => 0) 0 false (j - 10) := by rfl
theorem kyd_one {f g : Nat → Nat} : (kyd f g).all (·.oneCell') = true := row_one fun k _ => by
  by_cases h : k < 10
  · simp only [h, if_true]; exact preC_one _ _ _ _
  · simp only [h, if_false]; exact preC_one _ _ _ _
/-- The message: what was gone through, 64 bytes of which the first n wait. -/
def msg (f : Nat → Nat) (m : Nat) (l : Nat → Nat) (n : Nat) : Array Value := row 75 fun j => if j < 10 then preC f m true j else if j < 74 then .int .u8 (l (j - 10) : Nat) else .int .i64 n
theorem size_msg {f : Nat → Nat} {m : Nat} {l : Nat → Nat} {n : Nat} : (msg f m l n).size = 75 := size_row
theorem info_msg : (Tryd.prog.info? 98).map (·.size) = some 75 := by kernel_rfl
theorem built_msg (f : Nat → Nat) : Tryd.prog.built 98 [(0, .agg (pre f 64 true))] = some (msg f 64 (fun _ => 0) 0) := by kernel_rfl
theorem msg_one {f : Nat → Nat} {m : Nat} {l : Nat → Nat} {n : Nat} : (msg f m l n).all (·.oneCell') = true := row_one fun k _ => by
  by_cases h : k < 10
  · simp only [h, if_true]; exact preC_one _ _ _ _
  · simp only [h, if_false]
    by_cases h2 : k < 74
    · simp only [h2, if_true]; rfl
    · simp only [h2, if_false]; rfl
section
variable {w : World} {g m n : Nat} {t : TypeId} {f k : Nat → Nat} {l : Nat → Nat}
theorem Blk.kydA (h : Blk w g t (kyd f k)) : w.rangeAt g 0 (pre f 64 true).toList := fun j v hj => by
  have hj8 : j < 10 := by have := (List.getElem?_eq_some_iff.1 hj).1; rwa [Array.length_toList, size_pre] at this
  rw [Array.getElem?_toList, pre_row, get_row_lt hj8] at hj
  rw [Nat.zero_add, h.cell]
  unfold kyd
  rw [get_row_lt (by omega), if_pos hj8]
  exact hj
theorem Blk.kydB (h : Blk w g t (kyd f k)) : w.rangeAt g 10 (pre k 64 true).toList := fun j v hj => by
  have hj8 : j < 10 := by have := (List.getElem?_eq_some_iff.1 hj).1; rwa [Array.length_toList, size_pre] at this
  rw [Array.getElem?_toList, pre_row, get_row_lt hj8] at hj
  rw [h.cell]
  unfold kyd
  rw [get_row_lt (by omega), if_neg (by omega), show 10 + j - 10 = j by omega]
  exact hj
theorem Blk.msgA (h : Blk w g t (msg f m l n)) : w.rangeAt g 0 (pre f m true).toList := fun j v hj => by
  have hj8 : j < 10 := by have := (List.getElem?_eq_some_iff.1 hj).1; rwa [Array.length_toList, size_pre] at this
  rw [Array.getElem?_toList, pre_row, get_row_lt hj8] at hj
  rw [Nat.zero_add, h.cell]
  unfold msg
  rw [get_row_lt (by omega), if_pos hj8]
  exact hj
theorem Blk.msgN (h : Blk w g t (msg f m l n)) : w.cell? ⟨g, 74, none⟩ = some (.int .i64 n) := by
  rw [h.cell]; unfold msg; rw [get_row_lt (by omega), if_neg (by omega), if_neg (by omega)]
theorem Blk.msgL (h : Blk w g t (msg f m l n)) {j : Nat} (hj : j < 64) : w.cell? ⟨g, 10 + j, none⟩ = some (.int .u8 (l j : Nat)) := by
  rw [h.cell]; unfold msg; rw [get_row_lt (by omega), if_neg (by omega), if_pos (by omega), show 10 + j - 10 = j by omega]
theorem Blk.msgByt (h : Blk w g t (msg f m l n)) {B : Nat} (hg : g < B) {L : List Nat} (hL : L.length ≤ 64) (he : ∀ j, j < L.length → L.getD j 0 = l j) : Byt w B (some ⟨g, 10, none⟩) L := fun _ =>
  ⟨g, 10, rfl, hg, fun i hi => by rw [h.msgL (by omega), he i hi]⟩
theorem Blk.msgSetN (h : Blk w g t (msg f m l n)) (n' : Nat) : Blk (w.setCell ⟨g, 74, none⟩ (.int .i64 n')) g t (msg f m l n') := by
  have h1 := h.setCell_same 74 (.int .i64 n')
  have e : (msg f m l n).setIfInBounds 74 (.int .i64 n') = msg f m l n' := by
    unfold msg
    rw [row_set]
    refine row_ext fun j hj => ?_
    by_cases h2 : j = 74
    · subst h2; simp
    · rw [if_neg h2]
      by_cases h3 : j < 10
      · rw [if_pos h3, if_pos h3]
      · rw [if_neg h3, if_neg h3, if_pos (by omega), if_pos (by omega)]
  rw [e] at h1
  exact h1
theorem pre_getD (f : Nat → Nat) (m : Nat) (b : Bool) {j : Nat} (h : j < 10) : (pre f m b).toList.getD j undef = preC f m b j := by
  rw [List.getD_eq_getElem?_getD, Array.getElem?_toList, pre_row, get_row_lt h]; rfl
theorem Blk.msgSetP (h : Blk w g t (msg f m l n)) (f' : Nat → Nat) (m' : Nat) : Blk (w.setCells g 0 (pre f' m' true).toList) g t (msg f' m' l n) ∧ Below g w (w.setCells g 0 (pre f' m' true).toList) := by
  have hl : (pre f' m' true).toList.length = 10 := by rw [Array.length_toList, size_pre]
  obtain ⟨h1, h2⟩ := blk_setCells (pre f' m' true).toList 0 w _ h (by rw [hl]; omega)
  refine ⟨?_, h2⟩
  unfold msg
  rw [row_ext (g := fun j => if j < 10 then preC f' m' true j else if j < 74 then .int .u8 (l (j - 10) : Nat) else .int .i64 n) fun j _ => ?_] at h1
  · exact h1
  · rw [hl]
    by_cases e : j < 10
    · rw [if_pos (by omega), if_pos e, Nat.sub_zero, pre_getD _ _ _ e]
    · rw [if_neg (by omega), if_neg e, if_neg e]
end
section
variable {ops : Array Oper} {Q : Exit → Act → World → Prop} {a : Act} {w : World} {rest : List Oper} {dst : Option Tmp} {ty : TypeId} {pos : String} {after : Array Edge} {x y : Operand} {g o m m' n : Nat} {f f' l : Nat → Nat} {b : Bool}
/-- A prefix out of the middle of a block. -/
theorem ldpm (hx : a.eval x = .pointer (some ⟨g, o, none⟩)) (hc : w.rangeAt g o (pre f m b).toList) (h : wpList Tryd.prog ops Q rest (a.put dst (.agg (pre f m b))) w) :
    wpList Tryd.prog ops Q (⟨dst, .load 83 x, ty, pos, after, none⟩ :: rest) a w :=
  step_load_mid hc Tryd.underlying83 rfl (info_pre.trans (by rw [Array.length_toList, size_pre])) hx (by rw [Array.toArray_toList]; exact h)
/-- A message's prefix stored. -/
theorem stpm {t : TypeId} (hx : a.eval x = .pointer (some ⟨g, 0, none⟩)) (hy : a.eval y = .agg (pre f' m' true)) (hb : Blk w g t (msg f m l n))
    (h : ∀ w', Blk w' g t (msg f' m' l n) → Below g w w' → wpList Tryd.prog ops Q rest (a.put dst undef) w') :
    wpList Tryd.prog ops Q (⟨dst, .store 83 x y, ty, pos, after, none⟩ :: rest) a w := by
  refine wpList_store_mid rfl 83 x y rfl g 0 (pre f' m' true) hx hy ?_ (info_pre.trans (by rw [size_pre])) pre_one ?_
  · intro j hj
    rw [size_pre] at hj
    refine ⟨?_, hb.frozen _⟩
    rw [hb.cell]
    unfold msg
    rw [get_row_lt (by omega)]; rfl
  · exact h _ (hb.msgSetP f' m').1 (hb.msgSetP f' m').2
theorem bldm (hy : a.eval x = .agg (pre f 64 true)) (h : wpList Tryd.prog ops Q rest (a.put dst (.agg (msg f 64 (fun _ => 0) 0))) w) :
    wpList Tryd.prog ops Q (⟨dst, .build 98 #[(0, x)], ty, pos, after, none⟩ :: rest) a w := by
  refine wpList_plain rfl fun K hK => ?_
  have hr := run_build (P := Tryd.prog) w 98 #[(0, a.eval x)] _ (by rw [hy]; exact built_msg f)
  unfold Oper.wp
  simp [execOp, hr, Result.andThen]
  exact hK _ _ h
theorem stm {t : TypeId} {old : Array Value} (hx : a.eval x = .pointer (some ⟨g, 0, none⟩)) (hy : a.eval y = .agg (msg f m l n)) (hb : Blk w g t old) (ho : old.size = 75) (h : wpList Tryd.prog ops Q rest (a.put dst undef) (w.setRow g (msg f m l n))) :
    wpList Tryd.prog ops Q (⟨dst, .store 98 x y, ty, pos, after, none⟩ :: rest) a w :=
  step_store_row hb (info_msg.trans (by rw [size_msg])) (by rw [size_msg, ho]) msg_one hx hy h
theorem stk {t : TypeId} {old : Array Value} (hx : a.eval x = .pointer (some ⟨g, 0, none⟩)) (hy : a.eval y = .agg (kyd f f')) (hb : Blk w g t old) (ho : old.size = 20) (h : wpList Tryd.prog ops Q rest (a.put dst undef) (w.setRow g (kyd f f'))) :
    wpList Tryd.prog ops Q (⟨dst, .store 85 x y, ty, pos, after, none⟩ :: rest) a w :=
  step_store_row hb (info_kyd.trans (by rw [size_kyd])) (by rw [size_kyd, ho]) kyd_one hx hy h
theorem klb {C : World → Prop} {Qk : Act → Prop} {gd : Option (Nat × Bool)} (hwt : Region.wanted ⟨dst, .load 94 x, ty, pos, after, gd⟩ (yielded ops a.tmps) = true) (hx : a.eval x = .pointer (some ⟨g, 0, none⟩)) (hb : ∀ w, C w → Blk w g 94 (bts 64 f)) (h : wpK Tryd.prog ops C Qk rest (a.put dst (.agg (bts 64 f)))) :
    wpK Tryd.prog ops C Qk (⟨dst, .load 94 x, ty, pos, after, gd⟩ :: rest) a :=
  wpK_val hwt (fun w hw => gives_value (w' := w) (by
    have h1 : w.rangeAt g 0 (bts 64 f).toList := fun j v hj => by
      rw [Array.getElem?_toList] at hj
      rw [Nat.zero_add, (hb w hw).cell]
      exact hj
    have := run_loadAt_mid (P := Tryd.prog) w g 0 94 (bts 64 f).toList _ h1 Tryd.underlying94 rfl (info_b64.trans (by rw [Array.length_toList, size_bts]))
    rw [Array.toArray_toList] at this
    simp only [execOp, hx, Sem.run_bind, this, Result.andThen_ok, Sem.run_pure]) hw) h
theorem bldk {C : World → Prop} {Qk : Act → Prop} {gd : Option (Nat × Bool)} (hwt : Region.wanted ⟨dst, .build 85 #[(0, x), (1, y)], ty, pos, after, gd⟩ (yielded ops a.tmps) = true) (hx : a.eval x = .agg (pre f 64 true)) (hy : a.eval y = .agg (pre f' 64 true))
    (h : wpK Tryd.prog ops C Qk rest (a.put dst (.agg (kyd f f')))) : wpK Tryd.prog ops C Qk (⟨dst, .build 85 #[(0, x), (1, y)], ty, pos, after, gd⟩ :: rest) a :=
  wpK_val hwt (fun w hw => by
    have hr := run_build (P := Tryd.prog) w 85 #[(0, a.eval x), (1, a.eval y)] _ (by rw [hx, hy]; exact built_kyd f f')
    refine gives_value (w' := w) ?_ hw
    simp [execOp, hr, Result.andThen]) h
end
set_option maxHeartbeats 400000 in
set_option maxRecDepth 100000 in
theorem under_any (A : Option Addr) (l : List Nat) (n cap : Nat) (hl : l.length = n) (hc : n ≤ cap) (hm : cap ≤ maxLen) (hz : n ≤ 1000000000000000) (h256 : B256 l) (w : World) (hA : Byt w w.heap.size A l) (hS : Salts w) :
    Calls Tryd.prog 51 #[.slice A n cap] w fun e w' => e = .returned (.agg (kyd (HmM.from' 54 (HmM.blk l)).get (HmM.from' 92 (HmM.blk l)).get)) ∧ Below w.heap.size w w' := by
  have HA := hid hA
  have HL := hid hl
  have SA := hid hS
  have H256 := hid h256
  clear hA hl hS h256
  go_enter Tryd.func51, Tryd.ntmps51
  go_upto_region 1 with fail
  generalize hw3 : World.alloc w _ = w3
  have b1 : Blk w3 w.heap.size 85 (row 20 fun j => if j < 10 then preC (fun _ => 0) 0 false j else preC (fun _ => 0) 0 false (j - 10)) := by rw [← hw3]; exact Blk.top zlit_kyd rfl
  have hb : Below w.heap.size w w3 := by rw [← hw3]; exact (Below.refl _ _).alloc (Nat.le_refl _) _
  clear hw3
  have B1 := hid b1
  have BEL := hid hb
  clear b1 hb
  go_wp2_with fail
  refine (key_any A l n cap HL.out hc hm hz H256.out w3 ((HA.out.below BEL.out (Nat.le_refl _)).more BEL.out.size) (SA.out.on BEL.out)).mono ?_
  rintro e w4 ⟨rfl, h4⟩
  have b1 := B1.out.below h4 B1.out.lt
  have hb := BEL.out.trans (h4.mono BEL.out.size)
  have hz2 : w.heap.size < w4.heap.size := b1.lt
  clear h4 B1 BEL w3
  go_upto_region 2 with ((with_reducible apply stb); rfl; rfl; exact Blk.top zlit_b64 rfl)
  generalize hw5 : World.setRow _ _ _ = w5
  have c3 : Blk w5 w4.heap.size 94 (l64 (HmM.blk l)) := by rw [← hw5]; exact (Blk.top zlit_b64 rfl).setRow_same _
  have c1 : Blk w5 w.heap.size 85 (row 20 fun j => if j < 10 then preC (fun _ => 0) 0 false j else preC (fun _ => 0) 0 false (j - 10)) := by rw [← hw5]; exact (b1.alloc _).setRow_other (by omega) _
  have cb : Below w.heap.size w w5 := by rw [← hw5]; exact below_setRow (hb.alloc (by omega) _) (by omega) _
  clear hw5 b1 hb
  have C1 := hid c1
  have C3 := hid c3
  have CB := hid cb
  clear c1 c3 cb
  have hbl := HmM.blk_length l
  have hb256 := HmM.blk_256 H256.out
  have HBL := hid hbl
  have HB256 := hid hb256
  clear hbl hb256
  go_wp2_with fail
  refine wp_region_tail (C := fun w' => Below w5.heap.size w5 w') 5 (by kernel_rfl) (by kernel_rfl) (by kernel_rfl) (Below.refl _ _).drew ?_
  simp only [List.take_succ_cons, List.take_zero, List.drop_succ_cons, List.drop_zero]
  apply klb
  · rfl
  · rfl
  · exact fun w' hw' => C3.out.below hw' C3.out.lt
  simp only [Act.put, List.setIfInBounds_toArray, List.set_cons_succ, List.set_cons_zero]
  apply wpK_val
  · rfl
  · intro w' hw'
    go_simp
    exact (padded_any (HmM.blk l) HBL.out HB256.out 54 (by omega) _ (SA.out.on (CB.out.trans (hw'.mono CB.out.size)))).mono fun e w'' ⟨he, hb''⟩ => ⟨he, hw'.trans (hb''.mono hw'.size)⟩
  simp only [Act.put, List.setIfInBounds_toArray, List.set_cons_succ, List.set_cons_zero]
  apply klb
  · rfl
  · rfl
  · exact fun w' hw' => C3.out.below hw' C3.out.lt
  simp only [Act.put, List.setIfInBounds_toArray, List.set_cons_succ, List.set_cons_zero]
  apply wpK_val
  · rfl
  · intro w' hw'
    go_simp
    exact (padded_any (HmM.blk l) HBL.out HB256.out 92 (by omega) _ (SA.out.on (CB.out.trans (hw'.mono CB.out.size)))).mono fun e w'' ⟨he, hb''⟩ => ⟨he, hw'.trans (hb''.mono hw'.size)⟩
  simp only [Act.put, List.setIfInBounds_toArray, List.set_cons_succ, List.set_cons_zero]
  apply bldk
  · rfl
  · rfl
  · rfl
  simp only [Act.put, List.setIfInBounds_toArray, List.set_cons_succ, List.set_cons_zero]
  refine wpK_nil fun w6 hw6 => ?_
  have d1 := C1.out.below hw6 C1.out.lt
  have db := CB.out.trans (hw6.mono CB.out.size)
  clear C1 C3 CB hw6
  go_wp2_with ((with_reducible apply stk); rfl; rfl; exact d1; exact size_row)
  apply ret_row Tryd.results51
  · exact d1.setRow_same _
  · exact Tryd.underlying85
  · rfl
  · exact (info_kyd.trans (by rw [size_kyd]))
  · rfl
  · rfl
  exact ⟨rfl, below_setRow db (Nat.le_refl _) _⟩
set_option maxHeartbeats 400000 in
set_option maxRecDepth 100000 in
/-- Whole blocks are gone through: l, which lies in an older block or in this one. -/
theorem goOver_any (s : ShaM.S8) (hs : s.ok) (g m q : Nat) (L : Nat → Nat) (A : Option Addr) (l : List Nat) (n cap : Nat) (hl : l.length = n) (hn : n % 64 = 0) (hc : n ≤ cap) (hm : cap ≤ maxLen) (hz : m + n ≤ 1000000000000000) (h256 : B256 l) (w : World)
    (hg : Blk w g 98 (msg s.get m L q)) (hA : Byt w w.heap.size A l) (hS : Salts w) :
    Calls Tryd.prog 73 #[.pointer (some ⟨g, 0, none⟩), .slice A n cap] w fun e w' => e = .returned (.tuple #[]) ∧ Blk w' g 98 (msg (ShaM.passes s l).get (m + n) L q) ∧ Below g w w' := by
  have HS := hid hs
  have HA := hid hA
  have HL := hid hl
  have SA := hid hS
  have H256 := hid h256
  have hr := hg.msgA
  have HG := hid hg
  clear hA hl hS h256 hs hg
  go_enter Tryd.func73, Tryd.ntmps73
  go_wp2_with ((with_reducible apply ldpm); rfl; exact hr)
  refine (more_ok s HS.out A l n cap m HL.out hn hc hm hz H256.out w HA.out SA.out).mono ?_
  rintro e w4 ⟨rfl, h4⟩
  have g4 := HG.out.below h4 HG.out.lt
  have hb : Below g w w4 := h4.mono (Nat.le_of_lt HG.out.lt)
  clear h4 hr
  go_wp2_with ((with_reducible apply stpm); rfl; rfl; exact g4; intro w5 g5 b5)
  go_end0
  exact ⟨rfl, g5, hb.trans b5⟩
end Go.Proofs.YtdfoehcdabmagaaDoor
set_option maxRecDepth 100000
namespace Go.Proofs.YtdfoehcdabmagaaDoor
open Go.ChangeShapes Go.WideShapes Go.ChangeAt Go.RowKit
attribute [local go_sem] Gives
theorem infoz_u8 : (Tryd.prog.info? 5).map (·.size) = some 1 := by kernel_rfl
/-- k bytes of b laid over L from place p on. -/
def lay (p k : Nat) (b : List Nat) (L : Nat → Nat) (j : Nat) : Nat := if p ≤ j ∧ j < p + k then b.getD (j - p) 0 else L j
theorem lay_in {p k j : Nat} {b : List Nat} {L : Nat → Nat} (h : p ≤ j ∧ j < p + k) : lay p k b L j = b.getD (j - p) 0 := if_pos h
theorem lay_out {p k j : Nat} {b : List Nat} {L : Nat → Nat} (h : ¬ (p ≤ j ∧ j < p + k)) : lay p k b L j = L j := if_neg h
section
variable {a : Act} {w : World} {dst : Option Tmp} {ty : TypeId} {pos : String} {after : Array Edge} {gd : Option (Nat × Bool)} {d s : Operand} {R : World → Prop}
/-- A copy into a message's bytes from place p on. -/
theorem gives_cpm {A : Option Addr} {n cap p c k g B m q : Nat} {t : TypeId} {f L : Nat → Nat} {b : List Nat} (hd : a.eval d = .slice (some ⟨g, 10 + p, none⟩) (64 - p) c) (hs : a.eval s = .slice A n cap) (hg : Blk w g t (msg f m L q)) (hA : Byt w B A b) (hl : b.length = n) (hp : p ≤ 64) (hk : k = min n (64 - p))
    (hR : ∀ w', Blk w' g t (msg f m (lay p k b L) q) → Below g w w' → R w') :
    Gives Tryd.prog ⟨dst, .call { callee := .builtin .copy, args := #[d, s], argTypes := #[39, 39] }, ty, pos, after, gd⟩ a w (.int .i64 k) R := by
  by_cases h0 : k = 0
  · subst h0
    have hrun := run_copy_none (P := Tryd.prog) w 39 39 ty 5 (some ⟨g, 10 + p, none⟩) A (64 - p) c n cap Tryd.underlying39 infoz_u8 (show Nat.min n (64 - p) = 0 from hk.symm)
    refine gives_value (w' := w) (by simp [execOp, resolve, invoke, builtin, hd, hs, hrun, Result.andThen, goInt]) (hR w ?_ (Below.refl _ _))
    unfold msg
    rw [row_ext (g := fun j => if j < 10 then preC f m true j else if j < 74 then .int .u8 (L (j - 10) : Nat) else .int .i64 q) fun j _ => ?_]
    · exact hg
    · by_cases e : j < 10
      · rw [if_pos e, if_pos e]
      · by_cases e4 : j < 74
        · rw [if_neg e, if_neg e, if_pos e4, if_pos e4, lay_out (by omega)]
        · rw [if_neg e, if_neg e, if_neg e4, if_neg e4]
  · obtain ⟨b', o, rfl, hB, hr⟩ := hA (by omega)
    have hlen : (nums .u8 (b.take k)).length = k := by rw [nums_length, List.length_take]; omega
    have hrun := run_copy_row (P := Tryd.prog) w 39 39 ty 5 g (10 + p) (64 - p) c ⟨b', o, none⟩ n cap (msg f m L q) t (nums .u8 (b.take k)) Tryd.underlying39 infoz_u8 hg (by rw [hlen, hk])
      (fun j v hj => by
        have hjk : j < k := by have := (List.getElem?_eq_some_iff.1 hj).1; rwa [hlen] at this
        rw [nums_get .u8 (by rw [List.length_take]; omega)] at hj
        rw [← hj, Addr.add_mid, hr j (by omega), getD_take hjk])
      (by rw [hlen, size_msg]; omega) (fun v hv => by obtain ⟨x, _, rfl⟩ := List.mem_map.1 hv; rfl)
    rw [hlen] at hrun
    refine gives_value (by simp only [execOp, resolve, invoke, builtin, Sem.run_bind, Sem.run_pure, Result.andThen_ok, List.map_toArray, List.map_cons, List.map_nil, hd, hs, hrun]; rfl) (hR _ ?_ (Go.below_setRow (Below.refl _ _) (Nat.le_refl _) _))
    have e : (List.take (10 + p) (msg f m L q).toList ++ nums .u8 (b.take k) ++ (msg f m L q).toList.drop (10 + p + k)).toArray = msg f m (lay p k b L) q := by
      have hsz : (msg f m L q).toList.length = 75 := by rw [Array.length_toList, size_msg]
      apply Array.ext_getElem?
      intro j
      rw [List.getElem?_toArray, List.append_assoc, List.getElem?_append, List.length_take, hsz, List.getElem?_append, hlen]
      unfold msg
      by_cases e1 : j < 10 + p
      · rw [if_pos (by omega), List.getElem?_take_of_lt e1, Array.getElem?_toList, get_row_lt (by omega), get_row_lt (by omega)]
        by_cases e : j < 10
        · rw [if_pos e, if_pos e]
        · by_cases e4 : j < 74
          · rw [if_neg e, if_neg e, if_pos e4, if_pos e4, lay_out (by omega)]
          · rw [if_neg e, if_neg e, if_neg e4, if_neg e4]
      · rw [if_neg (by omega), show min (10 + p) 75 = 10 + p by omega]
        by_cases e2 : j - (10 + p) < k
        · rw [if_pos e2, nums_get .u8 (by rw [List.length_take]; omega), get_row_lt (by omega), if_neg (show ¬ j < 10 by omega), if_pos (show j < 74 by omega), lay_in (by omega), getD_take e2, show j - 10 - p = j - (10 + p) by omega]
        · rw [if_neg e2, List.getElem?_drop, Array.getElem?_toList, show 10 + p + k + (j - (10 + p) - k) = j by omega, get_row, get_row]
          by_cases e3 : j < 75
          · have e5 : ¬ j < 10 := by omega
            rw [if_pos e3, if_pos e3, if_neg e5, if_neg e5]
            by_cases e4 : j < 74
            · rw [if_pos e4, if_pos e4, lay_out (by omega)]
            · rw [if_neg e4, if_neg e4]
          · rw [if_neg e3, if_neg e3]
    rw [e]
    exact hg.setRow_same _
end
theorem cpm {ops : Array Oper} {Q : Exit → Act → World → Prop} {a : Act} {w : World} {rest : List Oper} {dst : Option Tmp} {ty : TypeId} {pos : String} {after : Array Edge} {d s : Operand} {A : Option Addr} {n cap p c k g B m q : Nat} {t : TypeId} {f L : Nat → Nat} {b : List Nat}
    (hd : a.eval d = .slice (some ⟨g, 10 + p, none⟩) (64 - p) c) (hs : a.eval s = .slice A n cap) (hg : Blk w g t (msg f m L q)) (hA : Byt w B A b) (hl : b.length = n) (hp : p ≤ 64) (hk : k = min n (64 - p))
    (h : ∀ w', Blk w' g t (msg f m (lay p k b L) q) → Below g w w' → wpList Tryd.prog ops Q rest (a.put dst (.int .i64 k)) w') :
    wpList Tryd.prog ops Q (⟨dst, .call { callee := .builtin .copy, args := #[d, s], argTypes := #[39, 39] }, ty, pos, after, none⟩ :: rest) a w :=
  wpList_plain rfl fun K hK => wp_of_gives (R := fun w' => Blk w' g t (msg f m (lay p k b L) q) ∧ Below g w w') (gives_cpm hd hs hg hA hl hp hk fun w' h1 h2 => ⟨h1, h2⟩) fun w' ⟨h1, h2⟩ => hK _ _ (h w' h1 h2)
/-- The bytes l were taken in. -/
def Fed (s0 : ShaM.S8) (l : List Nat) (w : World) (g : Nat) : Prop :=
  ∃ A L : List Nat, ∃ f : Nat → Nat, l = A ++ L ∧ A.length % 64 = 0 ∧ L.length < 64 ∧ (∀ j, j < L.length → L.getD j 0 = f j) ∧ Blk w g 98 (msg (ShaM.passes s0 A).get (64 + A.length) f L.length)
theorem Fed.blk {s0 : ShaM.S8} {l : List Nat} {w w' : World} {g B : Nat} (h : Fed s0 l w g) (hb : Below B w w') (hg : g < B) : Fed s0 l w' g := by
  obtain ⟨A, L, f, h1, h2, h3, h4, h5⟩ := h
  exact ⟨A, L, f, h1, h2, h3, h4, h5.below hb hg⟩
set_option maxHeartbeats 400000 in
set_option maxRecDepth 100000 in
theorem add_zero (s0 : ShaM.S8) (hs : s0.ok) (A0 : List Nat) (f : Nat → Nat) (g : Nat) (h0 : A0.length % 64 = 0) (A : Option Addr) (b : List Nat) (n cap : Nat) (hl : b.length = n) (hc : n ≤ cap) (hm : cap ≤ maxLen) (hz : 64 + A0.length + n ≤ 1000000000000000) (h256 : B256 b) (w : World)
    (hg : Blk w g 98 (msg (ShaM.passes s0 A0).get (64 + A0.length) f 0)) (hA : Byt w g A b) (hS : Salts w) :
    Calls Tryd.prog 62 #[.pointer (some ⟨g, 0, none⟩), .slice A n cap] w fun e w' => e = .returned (.tuple #[]) ∧ Fed s0 (A0 ++ b) w' g ∧ Below g w w' := by
  obtain ⟨W, hW⟩ : ∃ W, W = n - n % 64 := ⟨_, rfl⟩
  have e5 : (n : Int) - (n : Int) % 64 = (W : Int) := by omega
  have hm' := hm
  unfold maxLen at hm'
  have e5' : IntKind.i64.wrap ((n : Int) - (n : Int) % 64) = (W : Int) := wr_nat e5 (by omega)
  have hWn : W ≤ n := by omega
  have hWc : (W : Int) ≤ (cap : Int) := by omega
  have hWnI : (W : Int) ≤ (n : Int) := by omega
  have c74 := hg.msgN
  have HS := hid hs
  have HA := hid hA
  have HL := hid hl
  have SA := hid hS
  have H256 := hid h256
  have HG := hid hg
  have HW := hid hW
  have H0 := hid h0
  have HM := hid hm
  clear hA hl hS h256 hs hg hW h0 hm
  go_enter Tryd.func62, Tryd.ntmps62
  go_wp2_with fail
  refine (goOver_any (ShaM.passes s0 A0) (ShaM.passes_ok _ (Nat.le_refl _) HS.out) g (64 + A0.length) 0 f A (b.take W) W cap (by rw [List.length_take, HL.out]; omega) (by have := HW.out; omega) (by omega) HM.out (by omega) (H256.out.take W) w HG.out ((HA.out.take W).more (Nat.le_of_lt HG.out.lt)) SA.out).mono ?_
  rintro e w4 ⟨rfl, g4, h4⟩
  have q1 : (b.drop W).length = n - W := by rw [List.length_drop, HL.out]
  have q2 : n - W < 64 := by have := HW.out; omega
  have hA4 := ((HA.out.dropA cap W (by rw [HL.out]; exact hc)).below h4 (Nat.le_refl _))
  have G4 := hid g4
  have H4 := hid h4
  have HA4 := hid hA4
  have Q1 := hid q1
  clear g4 h4 hA4 q1 c74 HG
  go_upto_region 8 with fail
  refine wp_region_put (C := fun bb w' => match bb with | false => Drew w4 w' | true => Blk w' g 98 (msg (ShaM.passes (ShaM.passes s0 A0) (b.take W)).get (64 + A0.length + W) (lay 0 (n - W) (b.drop W) f) 0) ∧ Below g w4 w') 8 11 (by omega) (by kernel_rfl) (by kernel_rfl) (by kernel_rfl) (Drew.refl _) ?_
  simp only [List.take_succ_cons, List.take_zero, List.drop_succ_cons, List.drop_zero]
  apply wpS_val
  · decide
  · rfl
  · intro bb w' hw'
    go_simp
    first | exact rfl | exact ⟨rfl, hw'⟩
  simp only [Act.put, List.setIfInBounds_toArray, List.set_cons_succ, List.set_cons_zero]
  apply wpS_val
  · decide
  · rfl
  · intro bb w' hw'
    go_simp
    first | exact rfl | exact ⟨rfl, hw'⟩
  simp only [Act.put, List.setIfInBounds_toArray, List.set_cons_succ, List.set_cons_zero]
  apply wpS_val
  · decide
  · rfl
  · intro bb w' hw'
    go_simp
    first | exact rfl | exact ⟨rfl, hw'⟩
  simp only [Act.put, List.setIfInBounds_toArray, List.set_cons_succ, List.set_cons_zero]
  apply wpS_val
  · decide
  · rfl
  · intro bb w' hw'
    go_simp
    first | exact rfl | exact ⟨rfl, hw'⟩
  simp only [Act.put, List.setIfInBounds_toArray, List.set_cons_succ, List.set_cons_zero]
  apply wpS_val
  · decide
  · rfl
  · intro bb w' hw'
    go_simp
    first | exact rfl | exact ⟨rfl, hw'⟩
  simp only [Act.put, List.setIfInBounds_toArray, List.set_cons_succ, List.set_cons_zero]
  apply wpS_val
  · decide
  · rfl
  · intro bb w' hw'
    go_simp
    first | exact rfl | exact ⟨rfl, hw'⟩
  simp only [Act.put, List.setIfInBounds_toArray, List.set_cons_succ, List.set_cons_zero]
  apply wpS_val
  · decide
  · rfl
  · intro bb w' hw'
    go_simp
    first | exact rfl | exact ⟨rfl, hw'⟩
  simp only [Act.put, List.setIfInBounds_toArray, List.set_cons_succ, List.set_cons_zero]
  apply wpS_val
  · decide
  · rfl
  · intro bb w' hw'
    go_simp
    first | exact rfl | exact ⟨rfl, hw'⟩
  simp only [Act.put, List.setIfInBounds_toArray, List.set_cons_succ, List.set_cons_zero]
  apply wpS_put
  · rfl
  · rfl
  · intro w' hw'
    exact gives_cpm (p := 0) (k := n - W) rfl rfl (hw'.blk G4.out) (HA4.out.below (hw'.below (Below.refl g w4)) (Nat.le_refl _)) Q1.out (by omega) (by omega) fun w6 h1 h2 => ⟨h1, (hw'.below (Below.refl g w4)).trans h2⟩
  simp only [Act.put, List.setIfInBounds_toArray, List.set_cons_succ, List.set_cons_zero]
  apply wpS_val
  · decide
  · rfl
  · intro bb w' hw'
    go_simp
    first | exact rfl | exact ⟨rfl, hw'⟩
  simp only [Act.put, List.setIfInBounds_toArray, List.set_cons_succ, List.set_cons_zero]
  apply wpS_val
  · decide
  · rfl
  · intro bb w' hw'
    go_simp
    first | exact rfl | exact ⟨rfl, hw'⟩
  simp only [Act.put, List.setIfInBounds_toArray, List.set_cons_succ, List.set_cons_zero]
  refine wpS_nil fun w5 hw5 => ?_
  obtain ⟨g5, h5⟩ := hw5
  have b5 := H4.out.trans h5
  have k74 := g5.msgN
  have k74f := g5.frozen 74
  have G5 := hid g5
  have B5 := hid b5
  clear g5 h5 b5 G4 H4 HA4
  go_wp2_with fail
  all_goals
    go_end0
    refine ⟨rfl, ⟨A0 ++ b.take W, b.drop W, lay 0 (n - W) (b.drop W) f, ?_, ?_, ?_, ?_, ?_⟩, B5.out.setCell (Nat.le_refl _) _⟩
    · rw [List.append_assoc, List.take_append_drop]
    · rw [List.length_append, List.length_take, HL.out]; have := HW.out; have := H0.out; omega
    · rw [Q1.out]; exact q2
    · intro j hj
      rw [Q1.out] at hj
      rw [lay_in (by omega), Nat.sub_zero]
    · have h := G5.out.msgSetN (n - W)
      rw [List.length_append, List.length_take, HL.out, show min W n = W by omega, Q1.out, ShaM.passes_append (A0.length / 64) (by have := H0.out; omega), ← Nat.add_assoc]
      exact h
set_option maxHeartbeats 400000 in
set_option maxRecDepth 100000 in
/-- What does not fill the block that waits. -/
theorem add_short (s0 : ShaM.S8) (A0 L0 : List Nat) (f : Nat → Nat) (g q : Nat) (hq0 : 0 < q) (hL : L0.length = q) (h0 : A0.length % 64 = 0) (he : ∀ j, j < q → L0.getD j 0 = f j) (A : Option Addr) (b : List Nat) (n cap : Nat) (hl : b.length = n) (hqn : q + n < 64) (hc : n ≤ cap) (hm : cap ≤ maxLen) (w : World)
    (hg : Blk w g 98 (msg (ShaM.passes s0 A0).get (64 + A0.length) f q)) (hA : Byt w g A b) :
    Calls Tryd.prog 62 #[.pointer (some ⟨g, 0, none⟩), .slice A n cap] w fun e w' => e = .returned (.tuple #[]) ∧ Fed s0 ((A0 ++ L0) ++ b) w' g ∧ Below g w w' := by
  have t0 : decide ((0 : Int) < (q : Int)) = true := by simp; omega
  have t1 : (q : Int) < 64 := by omega
  have t2 : (q : Int) ≤ 64 := by omega
  have c74 := hg.msgN
  have HA := hid hA
  have HL := hid hl
  have HG := hid hg
  have H0 := hid h0
  have HM := hid hm
  have HE := hid he
  have HLL := hid hL
  clear hA hl hg h0 hm he hL
  go_enter Tryd.func62, Tryd.ntmps62
  go_upto_region 1 with fail
  refine wp_region_tail (C := Drew w) 9 (by kernel_rfl) (by kernel_rfl) (by kernel_rfl) (Drew.refl _) ?_
  simp only [List.take_succ_cons, List.take_zero, List.drop_succ_cons, List.drop_zero]
  apply wpK_val
  · rfl
  · intro w' hw'
    go_simp
    first | exact rfl | exact ⟨rfl, hw'⟩
  simp only [Act.put, List.setIfInBounds_toArray, List.set_cons_succ, List.set_cons_zero]
  apply wpK_val
  · rfl
  · intro w' hw'
    go_simp
    first | exact rfl | exact ⟨rfl, hw'⟩
  simp only [Act.put, List.setIfInBounds_toArray, List.set_cons_succ, List.set_cons_zero]
  apply wpK_val
  · rfl
  · intro w' hw'
    go_simp
    first | exact rfl | exact ⟨rfl, hw'⟩
  simp only [Act.put, List.setIfInBounds_toArray, List.set_cons_succ, List.set_cons_zero]
  apply wpK_val
  · rfl
  · intro w' hw'
    go_simp
    first | exact rfl | exact ⟨rfl, hw'⟩
  simp only [Act.put, List.setIfInBounds_toArray, List.set_cons_succ, List.set_cons_zero]
  apply wpK_val
  · rfl
  · intro w' hw'
    go_simp
    first | exact rfl | exact ⟨rfl, hw'⟩
  simp only [Act.put, List.setIfInBounds_toArray, List.set_cons_succ, List.set_cons_zero]
  apply wpK_val
  · rfl
  · intro w' hw'
    go_simp
    first | exact rfl | exact ⟨rfl, hw'⟩
  simp only [Act.put, List.setIfInBounds_toArray, List.set_cons_succ, List.set_cons_zero]
  apply wpK_val
  · rfl
  · intro w' hw'
    have hcell := (hw'.blk HG.out).msgN
    go_simp
    first | exact rfl | exact ⟨rfl, hw'⟩
  simp only [Act.put, List.setIfInBounds_toArray, List.set_cons_succ, List.set_cons_zero]
  apply wpK_val
  · rfl
  · intro w' hw'
    go_simp
    first | exact rfl | exact ⟨rfl, hw'⟩
  simp only [Act.put, List.setIfInBounds_toArray, List.set_cons_succ, List.set_cons_zero]
  apply wpK_val
  · rfl
  · intro w' hw'
    go_simp
    first | exact rfl | exact ⟨rfl, hw'⟩
  simp only [Act.put, List.setIfInBounds_toArray, List.set_cons_succ, List.set_cons_zero]
  refine wpK_nil fun w5 hw5 => ?_
  have g5 := hw5.blk HG.out
  have a5 := HA.out.below (hw5.below (Below.refl g w)) (Nat.le_refl _)
  have B5 := hid (hw5.below (Below.refl g w))
  clear hw5 c74
  rw [if_neg (show ¬ 64 = q by omega)]
  go_upto_region 2 with ((with_reducible apply cpm (p := q) (k := n)); rfl; rfl; exact g5; exact a5; exact HL.out; omega; omega; intro w6 g6 h6)
  have k74 := g6.msgN
  have k74f := g6.frozen 74
  have G6 := hid g6
  have B6 := hid (B5.out.trans h6)
  clear g6 h6 g5 a5 B5
  go_upto_region 3 with fail
  generalize hw7 : World.setCell _ _ _ = w7
  have g7 : Blk w7 g 98 (msg (ShaM.passes s0 A0).get (64 + A0.length) (lay q n b f) (q + n)) := by
    rw [← hw7]
    have h := G6.out.msgSetN (q + n)
    rw [Int.natCast_add] at h
    exact h
  have b7 : Below g w w7 := by rw [← hw7]; exact B6.out.setCell (Nat.le_refl _) _
  clear hw7 G6 B6 k74 k74f
  have k7 := g7.msgN
  have t3 : ((q + n : Nat) : Int) < 64 := by omega
  have G7 := hid g7
  clear g7
  go_wp2_with fail
  refine bodyPost_ret (results_none rfl _ _ _) rfl ?_
  refine ⟨rfl, ⟨A0, L0 ++ b, lay q n b f, by rw [List.append_assoc], H0.out, ?_, ?_, ?_⟩, b7⟩
  · rw [List.length_append, HLL.out, HL.out]; omega
  · intro j hj
    rw [List.length_append, HLL.out, HL.out] at hj
    rw [List.getD_eq_getElem?_getD]
    by_cases hjq : j < q
    · rw [List.getElem?_append_left (by rw [HLL.out]; exact hjq), lay_out (by omega), ← List.getD_eq_getElem?_getD]
      exact HE.out j hjq
    · rw [List.getElem?_append_right (by rw [HLL.out]; omega), HLL.out, lay_in (by omega), List.getD_eq_getElem?_getD]
  · rw [List.length_append, HLL.out, HL.out]
    exact G7.out
set_option maxHeartbeats 400000 in
set_option maxRecDepth 100000 in
/-- What fills the block that waits. -/
theorem add_fill (s0 : ShaM.S8) (hs : s0.ok) (A0 L0 : List Nat) (f : Nat → Nat) (g q : Nat) (hq0 : 0 < q) (hq64 : q < 64) (hL : L0.length = q) (h0 : A0.length % 64 = 0) (he : ∀ j, j < q → L0.getD j 0 = f j) (hL256 : B256 L0) (A : Option Addr) (b : List Nat) (n cap : Nat) (hl : b.length = n) (hqn : 64 ≤ q + n) (hc : n ≤ cap) (hm : cap ≤ maxLen)
    (hz : 64 + A0.length + q + n ≤ 1000000000000000) (h256 : B256 b) (w : World)
    (hg0 : tabs < g) (hg : Blk w g 98 (msg (ShaM.passes s0 A0).get (64 + A0.length) f q)) (hA : Byt w g A b) (hS : Salts w) :
    Calls Tryd.prog 62 #[.pointer (some ⟨g, 0, none⟩), .slice A n cap] w fun e w' => e = .returned (.tuple #[]) ∧ Fed s0 ((A0 ++ L0) ++ b) w' g ∧ Below g w w' := by
  have t0 : decide ((0 : Int) < (q : Int)) = true := by simp; omega
  have t1 : (q : Int) < 64 := by omega
  have t2 : (q : Int) ≤ 64 := by omega
  obtain ⟨k, hk⟩ : ∃ k, k = 64 - q := ⟨_, rfl⟩
  have hkn : k ≤ n := by omega
  have hkc : (k : Int) ≤ (cap : Int) := by omega
  have hkn' : (k : Int) ≤ (n : Int) := by omega
  obtain ⟨n1, hn1⟩ : ∃ n1, n1 = n - k := ⟨_, rfl⟩
  obtain ⟨c1, hc1⟩ : ∃ c1, c1 = cap - k := ⟨_, rfl⟩
  have c74 := hg.msgN
  have HS := hid hs
  have HA := hid hA
  have HL := hid hl
  have HG := hid hg
  have H0 := hid h0
  have HM := hid hm
  have HE := hid he
  have HLL := hid hL
  have HK := hid hk
  have HN1 := hid hn1
  have HC1 := hid hc1
  have SA := hid hS
  have H256 := hid h256
  have HL256 := hid hL256
  clear hA hl hg h0 hm he hL hk hS h256 hs hL256 hn1 hc1
  go_enter Tryd.func62, Tryd.ntmps62
  go_upto_region 1 with fail
  refine wp_region_tail (C := Drew w) 9 (by kernel_rfl) (by kernel_rfl) (by kernel_rfl) (Drew.refl _) ?_
  simp only [List.take_succ_cons, List.take_zero, List.drop_succ_cons, List.drop_zero]
  apply wpK_val
  · rfl
  · intro w' hw'
    go_simp
    first | exact rfl | exact ⟨rfl, hw'⟩
  simp only [Act.put, List.setIfInBounds_toArray, List.set_cons_succ, List.set_cons_zero]
  apply wpK_val
  · rfl
  · intro w' hw'
    go_simp
    first | exact rfl | exact ⟨rfl, hw'⟩
  simp only [Act.put, List.setIfInBounds_toArray, List.set_cons_succ, List.set_cons_zero]
  apply wpK_val
  · rfl
  · intro w' hw'
    go_simp
    first | exact rfl | exact ⟨rfl, hw'⟩
  simp only [Act.put, List.setIfInBounds_toArray, List.set_cons_succ, List.set_cons_zero]
  apply wpK_val
  · rfl
  · intro w' hw'
    go_simp
    first | exact rfl | exact ⟨rfl, hw'⟩
  simp only [Act.put, List.setIfInBounds_toArray, List.set_cons_succ, List.set_cons_zero]
  apply wpK_val
  · rfl
  · intro w' hw'
    go_simp
    first | exact rfl | exact ⟨rfl, hw'⟩
  simp only [Act.put, List.setIfInBounds_toArray, List.set_cons_succ, List.set_cons_zero]
  apply wpK_val
  · rfl
  · intro w' hw'
    go_simp
    first | exact rfl | exact ⟨rfl, hw'⟩
  simp only [Act.put, List.setIfInBounds_toArray, List.set_cons_succ, List.set_cons_zero]
  apply wpK_val
  · rfl
  · intro w' hw'
    have hcell := (hw'.blk HG.out).msgN
    go_simp
    first | exact rfl | exact ⟨rfl, hw'⟩
  simp only [Act.put, List.setIfInBounds_toArray, List.set_cons_succ, List.set_cons_zero]
  apply wpK_val
  · rfl
  · intro w' hw'
    go_simp
    first | exact rfl | exact ⟨rfl, hw'⟩
  simp only [Act.put, List.setIfInBounds_toArray, List.set_cons_succ, List.set_cons_zero]
  apply wpK_val
  · rfl
  · intro w' hw'
    go_simp
    first | exact rfl | exact ⟨rfl, hw'⟩
  simp only [Act.put, List.setIfInBounds_toArray, List.set_cons_succ, List.set_cons_zero]
  refine wpK_nil fun w5 hw5 => ?_
  have g5 := hw5.blk HG.out
  have a5 := HA.out.below (hw5.below (Below.refl g w)) (Nat.le_refl _)
  have B5 := hid (hw5.below (Below.refl g w))
  clear hw5 c74
  rw [if_neg (show ¬ 64 = q by omega)]
  go_upto_region 2 with ((with_reducible apply cpm (p := q) (k := k)); rfl; rfl; exact g5; exact a5; exact HL.out; omega; (have := HK.out; omega); intro w6 g6 h6)
  have k74 := g6.msgN
  have k74f := g6.frozen 74
  have G6 := hid g6
  have B6 := hid (B5.out.trans h6)
  clear g6 h6 g5 a5 B5
  have tk : (q : Int) + (k : Int) = 64 := by have := HK.out; omega
  go_upto_region 3 with fail
  generalize hw7 : World.setCell _ _ _ = w7
  have g7 : Blk w7 g 98 (msg (ShaM.passes s0 A0).get (64 + A0.length) (lay q k b f) 64) := by
    rw [← hw7]
    exact G6.out.msgSetN 64
  have b7 : Below g w w7 := by rw [← hw7]; exact B6.out.setCell (Nat.le_refl _) _
  clear hw7 G6 B6 k74 k74f tk
  have k7 := g7.msgN
  have G7 := hid g7
  have B7 := hid b7
  clear g7 b7
  have hf : (L0 ++ b.take k).length = 64 := by rw [List.length_append, List.length_take, HLL.out, HL.out]; have := HK.out; omega
  have hby : Byt w7 w7.heap.size (some ⟨g, 10, none⟩) (L0 ++ b.take k) := G7.out.msgByt G7.out.lt (by omega) fun j hj => by
    rw [List.getD_eq_getElem?_getD]
    by_cases hjq : j < q
    · rw [List.getElem?_append_left (by rw [HLL.out]; exact hjq), lay_out (by omega), ← List.getD_eq_getElem?_getD]
      exact HE.out j hjq
    · rw [List.getElem?_append_right (by rw [HLL.out]; omega), HLL.out, lay_in (by have := HK.out; omega), ← List.getD_eq_getElem?_getD, getD_take (by have := HK.out; omega)]
  have HF := hid hf
  have BY := hid hby
  clear hf hby
  go_wp2_with fail
  refine (goOver_any (ShaM.passes s0 A0) (ShaM.passes_ok _ (Nat.le_refl _) HS.out) g (64 + A0.length) 64 (lay q k b f) _ (L0 ++ b.take k) 64 64 HF.out rfl (Nat.le_refl _) (by unfold maxLen; omega) (by omega) (HL256.out.append (H256.out.take k)) w7 G7.out BY.out (SA.out.below B7.out hg0)).mono ?_
  rintro e w8 ⟨rfl, g8, h8⟩
  obtain ⟨b1, hb1⟩ : ∃ b1, b1 = b.drop k := ⟨_, rfl⟩
  have hl1 : b1.length = n1 := by rw [hb1, List.length_drop, HL.out, HN1.out]
  have h1256 : B256 b1 := by rw [hb1]; exact H256.out.drop k
  have bel8 := B7.out.trans h8
  have hA8 := ((HA.out.dropA cap k (by rw [HL.out]; exact hc)).below bel8 (Nat.le_refl _))
  rw [← hb1] at hA8
  have HB1 := hid hb1
  have hn1n : n1 ≤ n := by rw [HN1.out]; omega
  have hn1c : n1 ≤ c1 := by rw [HN1.out, HC1.out]; omega
  have hc1m : c1 ≤ maxLen := by rw [HC1.out]; have := HM.out; omega
  have hnk : n1 + k = n := by rw [HN1.out]; omega
  obtain ⟨A1', hA1'⟩ : ∃ l : List Nat, l = A0 ++ (L0 ++ b.take k) := ⟨_, rfl⟩
  have hA1l : A1'.length = A0.length + 64 := by rw [hA1', List.length_append, HF.out]
  have g8' : Blk w8 g 98 (msg (ShaM.passes s0 A1').get (64 + A1'.length) (lay q k b f) 64) := by
    rw [hA1l, hA1', ShaM.passes_append (A0.length / 64) (by have := H0.out; omega), ← Nat.add_assoc]
    exact g8
  clear hb1 g8 h8
  go_upto_region 6 with fail
  rw [← HN1.out, ← HC1.out]
  generalize (if cap = k then A else Option.map (fun x => Addr.add x k) A) = A1 at hA8 ⊢
  obtain ⟨W, hW⟩ : ∃ W, W = n1 - n1 % 64 := ⟨_, rfl⟩
  have e5 : (n1 : Int) - (n1 : Int) % 64 = (W : Int) := by omega
  have hm' := hc1m
  unfold maxLen at hm'
  have e5' : IntKind.i64.wrap ((n1 : Int) - (n1 : Int) % 64) = (W : Int) := wr_nat e5 (by omega)
  have hWn : W ≤ n1 := by omega
  have hWc : (W : Int) ≤ (c1 : Int) := by omega
  have hWnI : (W : Int) ≤ (n1 : Int) := by omega
  have G8 := hid g8'
  have B8 := hid bel8
  have HA8 := hid hA8
  have HL1 := hid hl1
  have H1256 := hid h1256
  have HW := hid hW
  have HA1L := hid hA1l
  have HA1E := hid hA1'
  have HNK := hid hnk
  have HC1M := hid hc1m
  clear g8' bel8 hA8 hl1 h1256 hW hA1l hA1' k7 hnk hc1m G7 B7 BY
  go_wp2_with fail
  refine (goOver_any (ShaM.passes s0 A1') (ShaM.passes_ok _ (Nat.le_refl _) HS.out) g (64 + A1'.length) 64 (lay q k b f) A1 (b1.take W) W c1 (by rw [List.length_take, HL1.out]; omega) (by have := HW.out; omega) (by omega) HC1M.out (by rw [HA1L.out]; have := HNK.out; have := HK.out; omega) (H1256.out.take W) w8 G8.out ((HA8.out.take W).more (Nat.le_of_lt G8.out.lt)) (SA.out.below B8.out hg0)).mono ?_
  rintro e w4 ⟨rfl, g4, h4⟩
  have q1 : (b1.drop W).length = n1 - W := by rw [List.length_drop, HL1.out]
  have q2 : n1 - W < 64 := by have := HW.out; omega
  have hA4 := ((HA8.out.dropA c1 W (by rw [HL1.out]; exact hn1c)).below h4 (Nat.le_refl _))
  have G4 := hid g4
  have H4 := hid (B8.out.trans h4)
  have HA4 := hid hA4
  have Q1 := hid q1
  clear g4 h4 hA4 q1 G8 B8
  go_upto_region 8 with fail
  refine wp_region_put (C := fun bb w' => match bb with | false => Drew w4 w' | true => Blk w' g 98 (msg (ShaM.passes (ShaM.passes s0 A1') (b1.take W)).get (64 + A1'.length + W) (lay 0 (n1 - W) (b1.drop W) (lay q k b f)) 64) ∧ Below g w4 w') 8 11 (by omega) (by kernel_rfl) (by kernel_rfl) (by kernel_rfl) (Drew.refl _) ?_
  simp only [List.take_succ_cons, List.take_zero, List.drop_succ_cons, List.drop_zero]
  apply wpS_val
  · decide
  · rfl
  · intro bb w' hw'
    go_simp
    first | exact rfl | exact ⟨rfl, hw'⟩
  simp only [Act.put, List.setIfInBounds_toArray, List.set_cons_succ, List.set_cons_zero]
  apply wpS_val
  · decide
  · rfl
  · intro bb w' hw'
    go_simp
    first | exact rfl | exact ⟨rfl, hw'⟩
  simp only [Act.put, List.setIfInBounds_toArray, List.set_cons_succ, List.set_cons_zero]
  apply wpS_val
  · decide
  · rfl
  · intro bb w' hw'
    go_simp
    first | exact rfl | exact ⟨rfl, hw'⟩
  simp only [Act.put, List.setIfInBounds_toArray, List.set_cons_succ, List.set_cons_zero]
  apply wpS_val
  · decide
  · rfl
  · intro bb w' hw'
    go_simp
    first | exact rfl | exact ⟨rfl, hw'⟩
  simp only [Act.put, List.setIfInBounds_toArray, List.set_cons_succ, List.set_cons_zero]
  apply wpS_val
  · decide
  · rfl
  · intro bb w' hw'
    go_simp
    first | exact rfl | exact ⟨rfl, hw'⟩
  simp only [Act.put, List.setIfInBounds_toArray, List.set_cons_succ, List.set_cons_zero]
  apply wpS_val
  · decide
  · rfl
  · intro bb w' hw'
    go_simp
    first | exact rfl | exact ⟨rfl, hw'⟩
  simp only [Act.put, List.setIfInBounds_toArray, List.set_cons_succ, List.set_cons_zero]
  apply wpS_val
  · decide
  · rfl
  · intro bb w' hw'
    go_simp
    first | exact rfl | exact ⟨rfl, hw'⟩
  simp only [Act.put, List.setIfInBounds_toArray, List.set_cons_succ, List.set_cons_zero]
  apply wpS_val
  · decide
  · rfl
  · intro bb w' hw'
    go_simp
    first | exact rfl | exact ⟨rfl, hw'⟩
  simp only [Act.put, List.setIfInBounds_toArray, List.set_cons_succ, List.set_cons_zero]
  apply wpS_put
  · rfl
  · rfl
  · intro w' hw'
    exact gives_cpm (p := 0) (k := n1 - W) rfl rfl (hw'.blk G4.out) (HA4.out.below (hw'.below (Below.refl g w4)) (Nat.le_refl _)) Q1.out (by omega) (by omega) fun w6 h1 h2 => ⟨h1, (hw'.below (Below.refl g w4)).trans h2⟩
  simp only [Act.put, List.setIfInBounds_toArray, List.set_cons_succ, List.set_cons_zero]
  apply wpS_val
  · decide
  · rfl
  · intro bb w' hw'
    go_simp
    first | exact rfl | exact ⟨rfl, hw'⟩
  simp only [Act.put, List.setIfInBounds_toArray, List.set_cons_succ, List.set_cons_zero]
  apply wpS_val
  · decide
  · rfl
  · intro bb w' hw'
    go_simp
    first | exact rfl | exact ⟨rfl, hw'⟩
  simp only [Act.put, List.setIfInBounds_toArray, List.set_cons_succ, List.set_cons_zero]
  refine wpS_nil fun w5 hw5 => ?_
  obtain ⟨g5, h5⟩ := hw5
  have b5 := H4.out.trans h5
  have k74 := g5.msgN
  have k74f := g5.frozen 74
  have G5 := hid g5
  have B5 := hid b5
  clear g5 h5 b5 G4 H4 HA4
  go_wp2_with fail
  all_goals
    go_end0
    refine ⟨rfl, ⟨A1' ++ b1.take W, b1.drop W, lay 0 (n1 - W) (b1.drop W) (lay q k b f), ?_, ?_, ?_, ?_, ?_⟩, B5.out.setCell (Nat.le_refl _) _⟩
    · rw [HA1E.out, HB1.out, List.append_assoc, List.take_append_drop, List.append_assoc, List.append_assoc, List.take_append_drop]
    · rw [List.length_append, List.length_take, HL1.out, HA1L.out]; have := HW.out; have := H0.out; omega
    · rw [Q1.out]; exact q2
    · intro j hj
      rw [Q1.out] at hj
      rw [lay_in (by omega), Nat.sub_zero]
    · have h := G5.out.msgSetN (n1 - W)
      rw [List.length_append, List.length_take, HL1.out, show min W n1 = W by omega, Q1.out, ShaM.passes_append (A1'.length / 64) (by have := HA1L.out; have := H0.out; omega), ← Nat.add_assoc]
      exact h
theorem add_any (s0 : ShaM.S8) (hs : s0.ok) (l0 : List Nat) (h0256 : B256 l0) (g : Nat) (A : Option Addr) (b : List Nat) (n cap : Nat) (hl : b.length = n) (hc : n ≤ cap) (hm : cap ≤ maxLen) (hz : 64 + l0.length + n ≤ 1000000000000000) (h256 : B256 b) (w : World)
    (hg0 : tabs < g) (hg : Fed s0 l0 w g) (hA : Byt w g A b) (hS : Salts w) :
    Calls Tryd.prog 62 #[.pointer (some ⟨g, 0, none⟩), .slice A n cap] w fun e w' => e = .returned (.tuple #[]) ∧ Fed s0 (l0 ++ b) w' g ∧ Below g w w' := by
  obtain ⟨A0, L0, f, rfl, h1, h2, h3, h4⟩ := hg
  rw [List.length_append] at hz
  rcases Nat.eq_zero_or_pos L0.length with h5 | h5
  · obtain rfl := List.eq_nil_of_length_eq_zero h5
    rw [List.append_nil]
    exact add_zero s0 hs A0 f g h1 A b n cap hl hc hm (by omega) h256 w h4 hA hS
  · rcases Nat.lt_or_ge (L0.length + n) 64 with h6 | h6
    · exact add_short s0 A0 L0 f g _ h5 rfl h1 h3 A b n cap hl h6 hc hm w h4 hA
    · exact add_fill s0 hs A0 L0 f g _ h5 h2 rfl h1 h3 (fun x hx => h0256 x (List.mem_append.2 (.inr hx))) A b n cap hl h6 hc hm (by omega) h256 w hg0 h4 hA hS
end Go.Proofs.YtdfoehcdabmagaaDoor
set_option maxRecDepth 100000
namespace Go.Proofs.YtdfoehcdabmagaaDoor
open Go.ChangeShapes Go.WideShapes Go.ChangeAt Go.RowKit
attribute [local go_sem] Gives
/-- A slice of slices of bytes. -/
def Prts (w : World) (B : Nat) (A : Option Addr) (ls : List (List Nat)) : Prop :=
  0 < ls.length → ∃ b o, A = some ⟨b, o, none⟩ ∧ b < B ∧ ∀ i, i < ls.length → ∃ A' c, w.cell? ⟨b, o + i, none⟩ = some (.slice A' (ls.getD i []).length c) ∧ (ls.getD i []).length ≤ c ∧ c ≤ maxLen ∧ Byt w B A' (ls.getD i [])
theorem Prts.below {B B' : Nat} {w w' : World} {A : Option Addr} {ls : List (List Nat)} (h : Prts w B A ls) (hb : Below B' w w') (hB : B ≤ B') : Prts w' B A ls := fun hn => by
  obtain ⟨b, o, rfl, hl, hr⟩ := h hn
  refine ⟨b, o, rfl, hl, fun i hi => ?_⟩
  obtain ⟨A', c, h1, h2, h3, h4⟩ := hr i hi
  exact ⟨A', c, (hb.cell (p := ⟨b, o + i, none⟩) (by show b < B'; omega)).trans h1, h2, h3, h4.below hb hB⟩
theorem Prts.more {B B' : Nat} {w : World} {A : Option Addr} {ls : List (List Nat)} (h : Prts w B A ls) (hB : B ≤ B') : Prts w B' A ls := fun hn => by
  obtain ⟨b, o, rfl, hl, hr⟩ := h hn
  refine ⟨b, o, rfl, by omega, fun i hi => ?_⟩
  obtain ⟨A', c, h1, h2, h3, h4⟩ := hr i hi
  exact ⟨A', c, h1, h2, h3, h4.more hB⟩
/-- All parts, one behind the other. -/
def flat (ls : List (List Nat)) : List Nat := ls.flatten
theorem flat_step {ls : List (List Nat)} {i : Nat} (h : i < ls.length) : flat (ls.take (i + 1)) = flat (ls.take i) ++ ls.getD i [] := by
  unfold flat
  rw [List.take_succ_eq_append_getElem h, List.flatten_append, List.flatten_singleton, List.getD_eq_getElem?_getD, List.getElem?_eq_getElem h]; rfl
theorem flat_256 {ls : List (List Nat)} (h : ∀ l ∈ ls, B256 l) : B256 (flat ls) := fun x hx => by
  obtain ⟨l, hl, hx⟩ := List.mem_flatten.1 hx
  exact h l hl x hx
theorem flat_take_le (ls : List (List Nat)) (i : Nat) : (flat (ls.take i)).length ≤ (flat ls).length := by
  conv => rhs; rw [← List.take_append_drop i ls]
  unfold flat
  rw [List.flatten_append, List.length_append]; omega
theorem part_256 {ls : List (List Nat)} (h : ∀ l ∈ ls, B256 l) (i : Nat) : B256 (ls.getD i []) := by
  rw [List.getD_eq_getElem?_getD]
  cases e : ls[i]? with
  | none => exact fun x hx => by cases hx
  | some l => exact h l (List.mem_of_getElem? e)
/-- The tag of parts under keys' prefixes. -/
def tagOf (s54 s92 : ShaM.S8) (l : List Nat) : Nat → Nat := ShaM.digest (ShaM.ended s92 64 (HmM.dl (ShaM.digest (ShaM.ended s54 64 l))))
theorem zlit_msg (f : Nat → Nat) : msg f 64 (fun _ => 0) 0 = msg f 64 (fun _ => 0) 0 := rfl
theorem alloc_tag (w : World) : (Instr.alloc 27 true (.tuple #[])).run Tryd.prog w = .ok (.pointer (some ⟨w.heap.size, 0, none⟩)) (w.alloc (.cells (tag fun _ => 0) 27)) := by
  have hz := (zero_of_info (P := Tryd.prog) (t := 27) (v := .agg (tag fun _ => 0)) (n := 32) (by kernel_rfl)).1
  simp [Instr.alloc, Sem.run_bind, hz w, newVar, newRow, Value.cells]
theorem zero_msg (w : World) : (zeroValue 98).run Tryd.prog w = .ok (.agg (row 75 fun j => if j < 10 then preC (fun _ => 0) 0 false j else if j < 74 then .int .u8 0 else .int .i64 0)) w :=
  (zero_of_info (P := Tryd.prog) (t := 98) (v := .agg (row 75 fun j => if j < 10 then preC (fun _ => 0) 0 false j else if j < 74 then .int .u8 0 else .int .i64 0)) (n := 75) (by kernel_rfl)).1 w
section
variable {ops : Array Oper} {a : Act} {rest : List Oper} {dst : Option Tmp} {ty : TypeId} {pos : String} {after : Array Edge} {x : Operand} {g o m : Nat} {f : Nat → Nat} {b : Bool} {C : World → Prop} {Qk : Act → Prop} {gd : Option (Nat × Bool)}
theorem blpm (hwt : Region.wanted ⟨dst, .load 83 x, ty, pos, after, gd⟩ (yielded ops a.tmps) = true) (hx : a.eval x = .pointer (some ⟨g, o, none⟩)) (hb : ∀ w, C w → w.rangeAt g o (pre f m b).toList) (h : wpB Tryd.prog ops C Qk rest (a.put dst (.agg (pre f m b)))) :
    wpB Tryd.prog ops C Qk (⟨dst, .load 83 x, ty, pos, after, gd⟩ :: rest) a :=
  wpB_val hwt (fun w hw => gives_value (w' := w) (by
    have := run_loadAt_mid (P := Tryd.prog) w g o 83 (pre f m b).toList _ (hb w hw) Tryd.underlying83 rfl (info_pre.trans (by rw [Array.length_toList, size_pre]))
    rw [Array.toArray_toList] at this
    simp only [execOp, hx, Sem.run_bind, this, Result.andThen_ok, Sem.run_pure]) ⟨hw, Below.refl _ _⟩) h
theorem klpm (hwt : Region.wanted ⟨dst, .load 83 x, ty, pos, after, gd⟩ (yielded ops a.tmps) = true) (hx : a.eval x = .pointer (some ⟨g, o, none⟩)) (hb : ∀ w, C w → w.rangeAt g o (pre f m b).toList) (h : wpK Tryd.prog ops C Qk rest (a.put dst (.agg (pre f m b)))) :
    wpK Tryd.prog ops C Qk (⟨dst, .load 83 x, ty, pos, after, gd⟩ :: rest) a :=
  wpK_val hwt (fun w hw => gives_value (w' := w) (by
    have := run_loadAt_mid (P := Tryd.prog) w g o 83 (pre f m b).toList _ (hb w hw) Tryd.underlying83 rfl (info_pre.trans (by rw [Array.length_toList, size_pre]))
    rw [Array.toArray_toList] at this
    simp only [execOp, hx, Sem.run_bind, this, Result.andThen_ok, Sem.run_pure]) hw) h
end
set_option maxHeartbeats 400000 in
set_option maxRecDepth 100000 in
theorem tag_any (s54 s92 : ShaM.S8) (h54 : s54.ok) (h92 : s92.ok) (A : Option Addr) (ls : List (List Nat)) (n cap : Nat) (hl : ls.length = n) (hn : n ≤ 1000000) (hls : ∀ l ∈ ls, B256 l) (hz : 64 + (flat ls).length ≤ 1000000000000000) (w : World) (hA : Prts w w.heap.size A ls) (hS : Salts w) :
    Calls Tryd.prog 52 #[.agg (kyd s54.get s92.get), .slice A n cap] w fun e w' => e = .returned (.agg (tag (tagOf s54 s92 (flat ls)))) ∧ Below w.heap.size w w' := by
  have HA := hid hA
  have HL := hid hl
  have SA := hid hS
  have H54 := hid h54
  have H92 := hid h92
  have HLS := hid hls
  clear hA hl hS h54 h92 hls
  have hZ := zero_msg
  go_enter Tryd.func52, Tryd.ntmps52
  go_upto_region 1 with fail
  generalize hw3 : World.alloc (World.alloc w _) _ = w3
  have b1 : Blk w3 w.heap.size 85 (kyd s54.get s92.get) := by rw [← hw3]; exact (Blk.top rfl rfl).alloc _
  have b2 : Blk w3 (w.heap.size + 1) 27 (tag fun _ => 0) := by rw [← hw3]; exact Blk.top zlit_tag (by simp)
  have hb : Below w.heap.size w w3 := by rw [← hw3]; exact ((Below.refl _ _).alloc (Nat.le_refl _) _).alloc (by simp) _
  have hz3 : w3.heap.size = w.heap.size + 2 := by rw [← hw3]; simp
  clear hw3
  have r1 := b1.kydA
  have HZ3 := hid hz3
  clear hz3
  go_upto_region 2 with (first | ((with_reducible apply ldpm); rfl; exact r1) | ((with_reducible apply bldm); rfl) | ((with_reducible apply stm); rfl; rfl; exact Blk.top rfl rfl; exact size_row))
  clear hZ r1
  generalize hw4 : World.setRow _ _ _ = w4
  obtain ⟨g, hg⟩ : ∃ g, g = w3.heap.size := ⟨_, rfl⟩
  rw [← hg]
  have c3 : Blk w4 g 98 (msg s54.get 64 (fun _ => 0) 0) := by rw [← hw4, hg]; exact (Blk.top rfl rfl).setRow_same _
  have c1 : Blk w4 w.heap.size 85 (kyd s54.get s92.get) := by rw [← hw4]; exact (b1.alloc _).setRow_other (by have := HZ3.out; omega) _
  have c2 : Blk w4 (w.heap.size + 1) 27 (tag fun _ => 0) := by rw [← hw4]; exact (b2.alloc _).setRow_other (by have := HZ3.out; omega) _
  have cb : Below w.heap.size w w4 := by rw [← hw4]; exact below_setRow (hb.alloc (by have := HZ3.out; omega) _) (by have := HZ3.out; omega) _
  have hgz : g = w.heap.size + 2 := by rw [hg, HZ3.out]
  have fd : Fed s54 (flat (ls.take 0)) w4 g := ⟨[], [], fun _ => 0, rfl, rfl, by simp, fun j hj => absurd hj (by simp), by rw [ShaM.passes_short (by simp)]; exact c3⟩
  have hg1 : w.heap.size + 1 < g := by omega
  have hg0 : tabs < g := Nat.lt_trans SA.out.1 (by omega)
  have hcell : ∀ i, i < n → ∃ A' c, w.cell? ⟨0, 0, none⟩ = w.cell? ⟨0, 0, none⟩ := fun i hi => ⟨A, cap, rfl⟩
  clear hw4 b1 b2 hb hg hgz c3 hcell HZ3 w3
  have C1 := hid c1
  have C2 := hid c2
  have CB := hid cb
  have FD := hid fd
  clear c1 c2 cb fd
  go_wp2_with fail
  go_loopw [14] (fun v wr => ∃ i : Nat, i ≤ n ∧ v = .int .i64 i ∧ Hid (Fed s54 (flat (ls.take i)) wr g) ∧ Hid (Below g w4 wr)) (fun v _ => n - (intOf v).toNat)
  case atStart => exact ⟨0, Nat.zero_le _, rfl, FD, hid (Below.refl _ _)⟩
  case round =>
    obtain ⟨i, hi, rfl, fd, hb4⟩ := hrel
    clear FD
    by_cases hlt : i < n
    · have ti : (i : Int) < (n : Int) := by omega
      have hlsi : i < ls.length := by rw [HL.out]; exact hlt
      have hst := flat_step hlsi
      have h256 := part_256 HLS.out i
      have hle := flat_take_le ls (i + 1)
      rw [hst, List.length_append] at hle
      have bel := CB.out.trans (hb4.out.mono (by omega))
      obtain ⟨b, o, rfl, hB, hr⟩ := (HA.out.below bel (Nat.le_refl _)) (by omega)
      obtain ⟨A', c', q1, q2, q3, q4⟩ := hr i hlsi
      obtain ⟨p, hp⟩ : ∃ p, p = ls.getD i [] := ⟨_, rfl⟩
      rw [← hp] at q1 q2 q4 hst h256 hle
      obtain ⟨pn, hpn⟩ : ∃ pn, pn = p.length := ⟨_, rfl⟩
      rw [← hpn] at q1 q2 hle
      have HPN := hid hpn
      clear hp hpn
      have h0256 : B256 (flat (ls.take i)) := flat_256 fun l hl => HLS.out l (List.mem_of_mem_take hl)
      have Q4 := hid q4
      have HST := hid hst
      have H256 := hid h256
      have H0256 := hid h0256
      have BEL := hid bel
      have Q2 := hid q2
      have Q3 := hid q3
      clear hst h256 h0256 bel hr q4 q2 q3
      go_wp2_with fail
      refine (add_any s54 H54.out (flat (ls.take i)) H0256.out g A' p pn c' HPN.out.symm Q2.out Q3.out (by omega) H256.out wr hg0 fd.out (Q4.out.more (by omega)) (SA.out.on BEL.out)).mono ?_
      rintro e w5 ⟨rfl, f5, b5⟩
      have F5 := hid f5
      have B5 := hid (hb4.out.trans b5)
      clear f5 b5 q1 Q4
      go_wp2_with fail
      go_roundw
      case rel => exact ⟨i + 1, by omega, by go_num, hid (by rw [HST.out]; exact F5.out), B5⟩
      case measure => simp [intOf]; omega
    · obtain rfl : i = n := by omega
      have hfull : ls.take i = ls := by rw [← HL.out, List.take_length]
      rw [hfull] at fd
      obtain ⟨A0, L0, f, h1, h2, h3, h4, g5⟩ := fd.out
      clear fd hfull
      have c1 := C1.out.below hb4.out (by omega)
      have c2 := C2.out.below hb4.out hg1
      have cb := CB.out.trans (hb4.out.mono (by omega))
      clear C1 C2 CB hb4
      have C1 := hid c1
      have C2 := hid c2
      have CB := hid cb
      have G5 := hid g5
      obtain ⟨q, hq⟩ : ∃ q, q = L0.length := ⟨_, rfl⟩
      have hq64 : (q : Int) ≤ 64 := by omega
      have hqn : q ≤ 64 := by omega
      rw [← hq] at G5
      have HQ := hid hq
      have H1 := hid h1
      have H2 := hid h2
      have H4 := hid h4
      have H3 := hid h3
      have hzl : (flat ls).length = A0.length + L0.length := by rw [h1, List.length_append]
      have HZL := hid hzl
      have h0256 : B256 L0 := fun x hx => flat_256 HLS.out x (by rw [h1]; exact List.mem_append.2 (.inr hx))
      have H0256 := hid h0256
      clear c1 c2 cb g5 hq h1 h2 h4 hzl h0256 h3
      go_upto_region 7 with fail
      have hgl := G5.out.lt
      refine wp_region_new1 (C := fun w' => Below wr.heap.size wr w') 7 27 (tag fun _ => 0) 8 rfl (by kernel_rfl) (by kernel_rfl) (by kernel_rfl) alloc_tag (Below.refl _ _).drew (fun w' hw' => hw'.alloc hw'.size _) (fun w' hw' => hw'.size) ?_
      simp only [List.take_succ_cons, List.take_zero, List.drop_succ_cons, List.drop_zero]
      apply wpB_val
      · rfl
      · intro w' hw'
        have hbl := Below.refl w'.heap.size w'
        go_simp
        first | exact rfl | exact ⟨rfl, hbl⟩ | exact ⟨rfl, hw', hbl⟩
      simp only [Act.put, List.setIfInBounds_toArray, List.set_cons_succ, List.set_cons_zero]
      apply blpm
      · rfl
      · rfl
      · exact fun w' hw' => (G5.out.below hw' G5.out.lt).msgA
      simp only [Act.put, List.setIfInBounds_toArray, List.set_cons_succ, List.set_cons_zero]
      apply wpB_val
      · rfl
      · intro w' hw'
        have hbl := Below.refl w'.heap.size w'
        go_simp
        first | exact rfl | exact ⟨rfl, hbl⟩ | exact ⟨rfl, hw', hbl⟩
      simp only [Act.put, List.setIfInBounds_toArray, List.set_cons_succ, List.set_cons_zero]
      apply wpB_val
      · rfl
      · intro w' hw'
        have hbl := Below.refl w'.heap.size w'
        go_simp
        first | exact rfl | exact ⟨rfl, hbl⟩ | exact ⟨rfl, hw', hbl⟩
      simp only [Act.put, List.setIfInBounds_toArray, List.set_cons_succ, List.set_cons_zero]
      apply wpB_val
      · rfl
      · intro w' hw'
        have hbl := Below.refl w'.heap.size w'
        have hcell : _ := (G5.out.below hw' G5.out.lt).msgN
        go_simp
        first | exact rfl | exact ⟨rfl, hbl⟩ | exact ⟨rfl, hw', hbl⟩
      simp only [Act.put, List.setIfInBounds_toArray, List.set_cons_succ, List.set_cons_zero]
      apply wpB_val
      · rfl
      · intro w' hw'
        have hbl := Below.refl w'.heap.size w'
        have ht : _ := hq64
        go_simp
        first | exact rfl | exact ⟨rfl, hbl⟩ | exact ⟨rfl, hw', hbl⟩
      simp only [Act.put, List.setIfInBounds_toArray, List.set_cons_succ, List.set_cons_zero]
      apply wpB_val
      · rfl
      · intro w' hw'
        go_simp
        exact (psum_ok (ShaM.passes s54 A0) (ShaM.passes_ok _ (Nat.le_refl _) H54.out) _ L0 q 64 (64 + A0.length) HQ.out.symm (by have := H2.out; omega) hqn (by unfold maxLen; omega) (by have := HZL.out; have := HQ.out; omega) H0256.out _ (((G5.out.below hw' G5.out.lt).msgByt (Nat.lt_of_lt_of_le hgl hw'.size) (by have := HQ.out; omega) fun j hj => H4.out j hj)) (SA.out.on (CB.out.trans (hw'.mono CB.out.size)))).mono fun e w'' ⟨he, hb''⟩ => ⟨he, hw'.trans (hb''.mono hw'.size), hb''⟩
      simp only [Act.put, List.setIfInBounds_toArray, List.set_cons_succ, List.set_cons_zero]
      refine wpB_nil fun g8 w5 hw5 q8 hg8 => ?_
      have c1 := C1.out.below hw5 C1.out.lt
      have c2 := C2.out.below hw5 C2.out.lt
      have bel := CB.out.trans (hw5.mono CB.out.size)
      have hgl0 : w.heap.size + 1 < wr.heap.size := C2.out.lt
      have et : ShaM.digest (ShaM.ended (ShaM.passes s54 A0) (64 + A0.length) L0) = ShaM.digest (ShaM.ended s54 64 (flat ls)) := by rw [H1.out, ShaM.ended_append (n := A0.length / 64) (by have := H2.out; omega)]
      rw [et]
      clear hw5 C1 C2 CB G5 et
      unfold ptr
      have C1 := hid c1
      have C2 := hid c2
      have CB := hid bel
      clear c1 c2 bel
      go_upto_region 8 with ((with_reducible apply stt); rfl; rfl; exact q8)
      generalize hw6 : World.setRow _ _ _ = w6
      have d8 : Blk w6 g8 27 (tag (ShaM.digest (ShaM.ended s54 64 (flat ls)))) := by rw [← hw6]; exact q8.setRow_same _
      have d1 : Blk w6 w.heap.size 85 (kyd s54.get s92.get) := by rw [← hw6]; exact C1.out.setRow_other (by omega) _
      have d2 : Blk w6 (w.heap.size + 1) 27 (tag fun _ => 0) := by rw [← hw6]; exact C2.out.setRow_other (by omega) _
      have db : Below w.heap.size w w6 := by rw [← hw6]; exact below_setRow CB.out (by omega) _
      clear hw6 q8 C1 C2 CB w5
      have C1 := hid d1
      have C2 := hid d2
      have C8 := hid d8
      have CB := hid db
      clear d1 d2 d8 db
      have hd256 : B256 (HmM.dl (ShaM.digest (ShaM.ended s54 64 (flat ls)))) := HmM.dl_256 fun k => ShaM.digest_lt _ k
      have HD := hid hd256
      clear hd256
      go_wp2_with fail
      refine wp_region_tail (C := fun w' => Below w6.heap.size w6 w') 4 (by kernel_rfl) (by kernel_rfl) (by kernel_rfl) (Below.refl _ _).drew ?_
      simp only [List.take_succ_cons, List.take_zero, List.drop_succ_cons, List.drop_zero]
      apply wpK_val
      · rfl
      · intro w' hw'
        go_simp
        first | exact rfl | exact ⟨rfl, hw'⟩
      simp only [Act.put, List.setIfInBounds_toArray, List.set_cons_succ, List.set_cons_zero]
      apply klpm
      · rfl
      · rfl
      · exact fun w' hw' => (C1.out.below hw' C1.out.lt).kydB
      simp only [Act.put, List.setIfInBounds_toArray, List.set_cons_succ, List.set_cons_zero]
      apply wpK_val
      · rfl
      · intro w' hw'
        go_simp
        first | exact rfl | exact ⟨rfl, hw'⟩
      simp only [Act.put, List.setIfInBounds_toArray, List.set_cons_succ, List.set_cons_zero]
      apply wpK_val
      · rfl
      · intro w' hw'
        go_simp
        exact (psum_ok s92 H92.out _ (HmM.dl (ShaM.digest (ShaM.ended s54 64 (flat ls)))) 32 32 64 (HmM.dl_length _) rfl (Nat.le_refl _) (by unfold maxLen; omega) (by omega) HD.out _ ((Blk.byt (C8.out.below hw' C8.out.lt) (Nat.lt_of_lt_of_le C8.out.lt hw'.size) (by rw [HmM.dl_length]; omega) fun j hj => by rw [HmM.dl_length] at hj; exact HmM.dl_get _ hj)) (SA.out.on (CB.out.trans (hw'.mono CB.out.size)))).mono fun e w'' ⟨he, hb''⟩ => ⟨he, hw'.trans (hb''.mono hw'.size)⟩
      simp only [Act.put, List.setIfInBounds_toArray, List.set_cons_succ, List.set_cons_zero]
      refine wpK_nil fun w7 hw7 => ?_
      have c2 := C2.out.below hw7 C2.out.lt
      have cb := CB.out.trans (hw7.mono CB.out.size)
      clear hw7 C1 C2 C8 CB
      go_wp2_with ((with_reducible apply stt); rfl; rfl; exact c2)
      apply ret_row Tryd.results52
      · exact c2.setRow_same _
      · exact Tryd.underlying27
      · rfl
      · exact (info_tag.trans (by rw [size_tag]))
      · rfl
      · rfl
      exact ⟨rfl, below_setRow cb (by omega) _⟩
/-- P4.1. -/
theorem tagOf_tag {key : List Nat} (l : List Nat) : tagOf (HmM.from' 54 (HmM.blk key)) (HmM.from' 92 (HmM.blk key)) l = HmM.tag key l := by
  unfold tagOf HmM.tag
  rw [HmM.sum_from (HmM.blk_length key), HmM.sum_from (HmM.blk_length key)]
set_option maxHeartbeats 400000 in
set_option maxRecDepth 100000 in
theorem parts_any (K : Option Addr) (key : List Nat) (kn kcap : Nat) (hkl : key.length = kn) (hkc : kn ≤ kcap) (hkm : kcap ≤ maxLen) (hkz : kn ≤ 1000000000000000) (hk256 : B256 key)
    (A : Option Addr) (ls : List (List Nat)) (n cap : Nat) (hl : ls.length = n) (hn : n ≤ 1000000) (hls : ∀ l ∈ ls, B256 l) (hz : 64 + (flat ls).length ≤ 1000000000000000) (w : World) (hK : Byt w w.heap.size K key) (hA : Prts w w.heap.size A ls) (hS : Salts w) :
    Calls Tryd.prog 44 #[.slice K kn kcap, .slice A n cap] w fun e w' => e = .returned (.agg (tag (HmM.tag key (flat ls)))) ∧ Below w.heap.size w w' := by
  have HA := hid hA
  have HK := hid hK
  have HL := hid hl
  have HKL := hid hkl
  have SA := hid hS
  have HLS := hid hls
  have HK2 := hid hk256
  clear hA hl hS hls hK hkl hk256
  go_enter Tryd.func44, Tryd.ntmps44
  go_upto_region 1 with fail
  generalize hw3 : World.alloc w _ = w3
  have b2 : Blk w3 w.heap.size 27 (tag fun _ => 0) := by rw [← hw3]; exact Blk.top zlit_tag rfl
  have hb : Below w.heap.size w w3 := by rw [← hw3]; exact (Below.refl _ _).alloc (Nat.le_refl _) _
  clear hw3
  have B2 := hid b2
  have BEL := hid hb
  clear b2 hb
  go_wp2_with fail
  refine (under_any K key kn kcap HKL.out hkc hkm hkz HK2.out w3 ((HK.out.below BEL.out (Nat.le_refl _)).more BEL.out.size) (SA.out.on BEL.out)).mono ?_
  rintro e w4 ⟨rfl, h4⟩
  have B4 := hid (B2.out.below h4 B2.out.lt)
  have BEL4 := hid (BEL.out.trans (h4.mono BEL.out.size))
  clear h4 B2 BEL w3
  go_wp2_with fail
  refine (tag_any _ _ (HmM.from_ok 54 _) (HmM.from_ok 92 _) A ls n cap HL.out hn HLS.out hz w4 ((HA.out.below BEL4.out (Nat.le_refl _)).more BEL4.out.size) (SA.out.on BEL4.out)).mono ?_
  rintro e w5 ⟨rfl, h5⟩
  rw [tagOf_tag]
  have b2 := B4.out.below h5 B4.out.lt
  have hb := BEL4.out.trans (h5.mono BEL4.out.size)
  clear h5
  go_wp2_with ((with_reducible apply stt); rfl; rfl; exact b2)
  apply ret_row Tryd.results44
  · exact b2.setRow_same _
  · exact Tryd.underlying27
  · rfl
  · exact (info_tag.trans (by rw [size_tag]))
  · rfl
  · rfl
  exact ⟨rfl, below_setRow hb (Nat.le_refl _) _⟩
set_option maxHeartbeats 400000 in
set_option maxRecDepth 100000 in
theorem hof_any (K : Option Addr) (key : List Nat) (kn kcap : Nat) (hkl : key.length = kn) (hkc : kn ≤ kcap) (hkm : kcap ≤ maxLen) (hkz : kn ≤ 1000000000000000) (hk256 : B256 key)
    (A : Option Addr) (l : List Nat) (n cap : Nat) (hl : l.length = n) (hc : n ≤ cap) (hm : cap ≤ maxLen) (hls : B256 l) (hz : 64 + n ≤ 1000000000000000) (w : World) (hK : Byt w w.heap.size K key) (hA : Byt w w.heap.size A l) (hS : Salts w) :
    Calls Tryd.prog 34 #[.slice K kn kcap, .slice A n cap] w fun e w' => e = .returned (.agg (tag (HmM.tag key l))) ∧ Below w.heap.size w w' := by
  have HA := hid hA
  have HK := hid hK
  have HL := hid hl
  have HKL := hid hkl
  have SA := hid hS
  have HLS := hid hls
  have HK2 := hid hk256
  clear hA hl hS hls hK hkl hk256
  go_enter Tryd.func34, Tryd.ntmps34
  go_upto_region 1 with fail
  generalize hw3 : World.alloc w _ = w3
  have b2 : Blk w3 w.heap.size 27 (tag fun _ => 0) := by rw [← hw3]; exact Blk.top zlit_tag rfl
  have hb : Below w.heap.size w w3 := by rw [← hw3]; exact (Below.refl _ _).alloc (Nat.le_refl _) _
  clear hw3
  have B2 := hid b2
  have BEL := hid hb
  clear b2 hb
  go_wp2_with fail
  generalize hw4 : World.alloc w3 _ = w4
  have b2 : Blk w4 w.heap.size 27 (tag fun _ => 0) := by rw [← hw4]; exact B2.out.alloc _
  have hb : Below w.heap.size w w4 := by rw [← hw4]; exact BEL.out.alloc BEL.out.size _
  have hp : Prts w4 w4.heap.size (some ⟨w3.heap.size, 0, none⟩) [l] := fun _ => by
    refine ⟨w3.heap.size, 0, rfl, by rw [← hw4]; simp, fun i hi => ?_⟩
    obtain rfl : i = 0 := by simp at hi; omega
    refine ⟨A, cap, ?_, by rw [show [l].getD 0 [] = l from rfl, HL.out]; exact hc, hm, (HA.out.below hb (Nat.le_refl _)).more hb.size⟩
    rw [show [l].getD 0 [] = l from rfl, HL.out, ← hw4]
    exact (Blk.top rfl rfl).cell 0
  clear hw4 B2 BEL
  have B2 := hid b2
  have BEL := hid hb
  have HP := hid hp
  clear b2 hb hp
  refine (parts_any K key kn kcap HKL.out hkc hkm hkz HK2.out _ [l] 1 1 rfl (by omega) (fun x hx => by rw [List.mem_singleton.1 hx]; exact HLS.out) (by rw [show flat [l] = l by simp [flat], HL.out]; exact hz) w4 ((HK.out.below BEL.out (Nat.le_refl _)).more BEL.out.size) HP.out (SA.out.on BEL.out)).mono ?_
  rintro e w5 ⟨rfl, h5⟩
  rw [show flat [l] = l by simp [flat]]
  have b2 := B2.out.below h5 B2.out.lt
  have hb := BEL.out.trans (h5.mono BEL.out.size)
  clear h5
  go_wp2_with ((with_reducible apply stt); rfl; rfl; exact b2)
  apply ret_row Tryd.results34
  · exact b2.setRow_same _
  · exact Tryd.underlying27
  · rfl
  · exact (info_tag.trans (by rw [size_tag]))
  · rfl
  · rfl
  exact ⟨rfl, below_setRow hb (Nat.le_refl _) _⟩
end Go.Proofs.YtdfoehcdabmagaaDoor
set_option maxRecDepth 100000
namespace Go.Proofs.YtdfoehcdabmagaaDoor
open Go.RowKit
/-- Are the first n alike? -/
def eqN (n : Nat) (f g : Nat → Int) : Bool := (List.range n).all fun k => f k == g k
section
variable {P : Program}
theorem eq_rounds {d e : TypeId} {k' : IntKind} {k : IntKind} {n : Nat} {f g : Nat → Int} (he : P.underlying e = some (.int k')) (w : World) : ∀ (m i : Nat), i + m = n →
    (forIn (m := Sem) (List.range' i m) ((none, ()) : Option Bool × Unit) (fun i _ => do
      let a ← part e (row n fun k' => .int k (f k')) (i * 1)
      let b ← part e (row n fun k' => .int k (g k')) (i * 1)
      let r ← Op.equalIn (d + 1) e a b
      if !r then pure (ForInStep.done (some false, ())) else pure (ForInStep.yield (none, ())))).run P w =
    .ok (if (List.range' i m).all (fun k => f k == g k) then (none, ()) else (some false, ())) w
  | 0, i, _ => by simp
  | m + 1, i, h => by
    have hp : ∀ (h : Nat → Int), (part e (row n fun k' => .int k (h k')) (i * 1)).run P w = .ok (.int k (h i)) w := fun h' => by
      have : (isAgg e).run P w = .ok false w := by unfold isAgg; rw [Sem.run_bind, run_underlying he w]; rfl
      simp [part, Sem.run_bind, this, get_row_lt (show i < n by omega)]
    rw [List.range'_succ, List.forIn_cons]
    simp only [Sem.run_bind, hp, Result.andThen_ok, run_equalIn_int w d e k k' _ _ he, List.all_cons]
    by_cases hfg : f i == g i
    · simp only [hfg, Bool.not_true, Bool.false_eq_true, if_false, Sem.run_pure, Result.andThen_ok, Bool.true_and]
      exact eq_rounds he w m (i + 1) (by omega)
    · simp [hfg, Sem.run_pure, Result.andThen_ok]
theorem run_equalIn_row {d t e : TypeId} {k' : IntKind} {k : IntKind} {n : Nat} {f g : Nat → Int} (ht : P.underlying t = some (.array n e)) (he : P.underlying e = some (.int k')) (hi : (P.info? e).map (·.size) = some 1) (w : World) :
    (Op.equalIn (d + 2) t (.agg (row n fun j => .int k (f j))) (.agg (row n fun j => .int k (g j)))).run P w = .ok (eqN n f g) w := by
  have hs : (sizeOf e).run P w = .ok 1 w := by
    cases hq : P.info? e with
    | none => simp [hq] at hi
    | some i => simp [hq] at hi; simp [sizeOf, typeInfo, hq, hi]
  have key := eq_rounds (P := P) (d := d) (k := k) (f := f) (g := g) (n := n) he w n 0 (by omega)
  unfold Op.equalIn
  simp only [Sem.run_bind, run_underlying ht, Result.andThen_ok, hs]
  rw [Std.Legacy.Range.forIn_eq_forIn_range']
  have hr : List.range' (Std.Legacy.Range.mk 0 n 1 (by decide)).start (Std.Legacy.Range.mk 0 n 1 (by decide)).size (Std.Legacy.Range.mk 0 n 1 (by decide)).step = List.range' 0 n := by
    simp [Std.Legacy.Range.size]
  rw [hr, key]
  simp only [Result.andThen_ok]
  unfold eqN
  rw [List.range_eq_range']
  by_cases h : ((List.range' 0 n).all fun k => f k == g k) = true
  · simp [h]
  · simp [h]
end
/-- Are two sectors alike? -/
def eqS (f g : Nat → Nat) : Bool := eqN 64 (fun k => f k) fun k => g k
theorem eqS_iff {f g : Nat → Nat} : eqS f g = true ↔ ∀ k, k < 64 → f k = g k := by
  unfold eqS eqN
  rw [List.all_eq_true]
  constructor
  · intro h k hk
    have := h k (List.mem_range.2 hk)
    exact Int.ofNat_inj.1 (beq_iff_eq.1 this)
  · intro h k hk
    have := h k (List.mem_range.1 hk)
    exact beq_iff_eq.2 (congrArg _ this)
theorem eqS_yes {f g : Nat → Nat} (h : ∀ k, k < 64 → f k = g k) : eqS f g = true := eqS_iff.2 h
theorem eqS_no {f g : Nat → Nat} (h : ¬ ∀ k, k < 64 → f k = g k) : eqS f g = false := by
  cases e : eqS f g with
  | false => rfl
  | true => exact absurd (eqS_iff.1 e) h
theorem eqS_sec {f g : Nat → Nat} : eqS f g = true ↔ sec f = sec g := by
  rw [eqS_iff]
  exact ⟨sec_ext, sec_inj⟩
end Go.Proofs.YtdfoehcdabmagaaDoor
set_option maxRecDepth 100000
namespace Go.Proofs.YtdfoehcdabmagaaDoor
open Go.ChangeShapes Go.WideShapes Go.ChangeAt Go.RowKit
attribute [local go_sem] Gives
/-- Are two tags alike? -/
def eqT (f g : Nat → Nat) : Bool := eqN 32 (fun k => f k) fun k => g k
theorem eqT_iff {f g : Nat → Nat} : eqT f g = true ↔ ∀ k, k < 32 → f k = g k := by
  unfold eqT eqN
  rw [List.all_eq_true]
  constructor
  · intro h k hk
    have := h k (List.mem_range.2 hk)
    exact Int.ofNat_inj.1 (beq_iff_eq.1 this)
  · intro h k hk
    have := h k (List.mem_range.1 hk)
    exact beq_iff_eq.2 (congrArg _ this)
theorem eqT_self (f : Nat → Nat) : eqT f f = true := eqT_iff.2 fun _ _ => rfl
theorem xor_zero {x y : Nat} : x ^^^ y = 0 ↔ x = y := by
  constructor
  · intro h
    have h2 : x ^^^ (x ^^^ y) = y := by rw [← Nat.xor_assoc, Nat.xor_self, Nat.zero_xor]
    rw [h, Nat.xor_zero] at h2
    exact h2
  · rintro rfl; exact Nat.xor_self _
section
variable {ops : Array Oper} {Q : Exit → Act → World → Prop} {a : Act} {w : World} {rest : List Oper} {dst : Option Tmp} {ty : TypeId} {pos : String} {after : Array Edge} {x : Operand} {g : Nat} {f : Nat → Nat}
/-- A tag loaded, behind a guard that says yes. -/
theorem ldtg {gd : Option (Nat × Bool)} (hwt : Region.wanted ⟨dst, .load 27 x, ty, pos, after, gd⟩ (yielded ops a.tmps) = true) (hx : a.eval x = .pointer (some ⟨g, 0, none⟩)) (hb : Blk w g 27 (tag f))
    (h : wpList Tryd.prog ops Q rest (a.put dst (.agg (tag f))) w) : wpList Tryd.prog ops Q (⟨dst, .load 27 x, ty, pos, after, gd⟩ :: rest) a w := by
  unfold wpList
  rw [if_pos hwt]
  exact .inl (wp_load_row (P := Tryd.prog) 27 x rfl g hx 27 (tag f) (0, 0) _ hb Tryd.underlying27 rfl (info_tag.trans (by rw [size_tag])) h)
end
end Go.Proofs.YtdfoehcdabmagaaDoor
set_option maxRecDepth 100000
namespace Go.Proofs.YtdfoehcdabmagaaDoor
open Go.ChangeShapes Go.WideShapes Go.ChangeAt Go.RowKit
theorem eqg_tag : Tryd.prog.eqGuardType Tryd.prog.depth 27 = false := by kernel_rfl
theorem eq_tag (f g : Nat → Nat) (w : World) : (Op.equalIn 10000 27 (.agg (tag f)) (.agg (tag g))).run Tryd.prog w = .ok (eqT f g) w :=
  run_equalIn_row (P := Tryd.prog) (d := 9998) (t := 27) (e := 5) (k := .u8) (n := 32) (f := fun k => f k) (g := fun k => g k) Tryd.underlying27 Tryd.underlying5 (by kernel_rfl) w
theorem eq_tag_self (f : Nat → Nat) (w : World) : (Op.equalIn 10000 27 (.agg (tag f)) (.agg (tag f))).run Tryd.prog w = .ok true w := by
  rw [eq_tag, eqT_self]
theorem klt {ops : Array Oper} {a : Act} {rest : List Oper} {dst : Option Tmp} {ty : TypeId} {pos : String} {after : Array Edge} {x : Operand} {g : Nat} {f : Nat → Nat} {C : World → Prop} {Qk : Act → Prop} {gd : Option (Nat × Bool)}
    (hwt : Region.wanted ⟨dst, .load 27 x, ty, pos, after, gd⟩ (yielded ops a.tmps) = true) (hx : a.eval x = .pointer (some ⟨g, 0, none⟩)) (hb : ∀ w, C w → Blk w g 27 (tag f)) (h : wpK Tryd.prog ops C Qk rest (a.put dst (.agg (tag f)))) :
    wpK Tryd.prog ops C Qk (⟨dst, .load 27 x, ty, pos, after, gd⟩ :: rest) a :=
  wpK_val hwt (fun w hw => gives_value (w' := w) (by
    have h1 : w.rangeAt g 0 (tag f).toList := fun j v hj => by
      rw [Array.getElem?_toList] at hj
      rw [Nat.zero_add, (hb w hw).cell]
      exact hj
    have := run_loadAt_mid (P := Tryd.prog) w g 0 27 (tag f).toList _ h1 Tryd.underlying27 rfl (info_tag.trans (by rw [Array.length_toList, size_tag]))
    rw [Array.toArray_toList] at this
    simp only [execOp, hx, Sem.run_bind, this, Result.andThen_ok, Sem.run_pure]) hw) h
end Go.Proofs.YtdfoehcdabmagaaDoor
set_option maxRecDepth 100000
namespace Go.Proofs.YtdfoehcdabmagaaDoor
open Go.ChangeShapes Go.WideShapes Go.ChangeAt Go.RowKit
attribute [local go_sem] Gives
theorem dl_take (f : Nat → Nat) {i : Nat} (h : i < 32) : (HmM.dl f).take (i + 1) = (HmM.dl f).take i ++ [f i] := by
  have hl : i < (HmM.dl f).length := by rw [HmM.dl_length]; exact h
  rw [List.take_succ_eq_append_getElem hl, ← nums_at hl, HmM.dl_get _ h]
theorem dl_full (f : Nat → Nat) : (HmM.dl f).take 32 = HmM.dl f := List.take_of_length_le (by rw [HmM.dl_length]; omega)
theorem pad_take (x : Nat) (k : List Nat) {i : Nat} (h : i < k.length) : (HmM.pad x k).take (i + 1) = (HmM.pad x k).take i ++ [k.getD i 0 ^^^ x] := by
  have hl : i < (HmM.pad x k).length := by rw [HmM.pad_length]; exact h
  rw [List.take_succ_eq_append_getElem hl, ← nums_at hl, HmM.pad_get _ _ h]
set_option maxHeartbeats 1000000 in
set_option maxRecDepth 100000 in
theorem rblock_any (K : Option Addr) (key : List Nat) (kn kcap : Nat) (hkl : key.length = kn) (hkn : kn ≤ 100000) (hk0 : K = none → kn = 0 ∧ kcap = 0) (hk256 : B256 key) (w : World) (hK : Byt w w.heap.size K key) :
    Calls Tryd.prog 39 #[.slice K kn kcap] w fun e w' => Fresh .u8 w w' e (HmM.blk key) := by
  have HK := hid hK
  have HKL := hid hkl
  have H256 := hid hk256
  have hcl := HmM.cutK_len key
  have hbl : HmM.blk key = HmM.cutK key ++ List.replicate (64 - (HmM.cutK key).length) 0 := rfl
  rw [hbl]
  clear hbl
  by_cases h64 : 64 < kn
  · have t0 : decide ((64 : Int) < (kn : Int)) = true := by simp; omega
    have hck : HmM.cutK key = HmM.dl (ShaM.sum key) := by unfold HmM.cutK; rw [if_pos (by rw [hkl]; exact h64)]
    rw [hck] at hcl ⊢
    obtain ⟨C, hC⟩ : ∃ C, C = HmM.dl (ShaM.sum key) := ⟨_, rfl⟩
    rw [← hC] at hcl ⊢
    have HC := hid hC
    clear hK hkl hk256 hck hC
    go_enter Tryd.func39, Tryd.ntmps39
    go_wp2_with fail
    refine (rsum_any K key kn kcap HKL.out hkn hk0 H256.out w HK.out).mono ?_
    rintro e w1 ⟨rfl, h1⟩
    have hz1 := h1.size
    go_upto_region 4 with ((with_reducible apply stt); rfl; rfl; exact Blk.top zlit_tag rfl)
    generalize hw2 : World.setRow _ _ _ = w2
    have c2 : Blk w2 w1.heap.size 27 (tag (ShaM.sum key)) := by rw [← hw2]; exact (Blk.top zlit_tag rfl).setRow_same _
    have b2 : Below w.heap.size w w2 := by rw [← hw2]; exact below_setRow (h1.alloc hz1 _) hz1 _
    clear hw2 h1 hz1
    obtain ⟨g, hg⟩ : ∃ g, g = w1.heap.size := ⟨_, rfl⟩
    rw [← hg] at c2 ⊢
    clear hg
    have C2 := hid c2
    have B2 := hid b2
    have hgl := c2.lt
    clear c2 b2
    go_wp2_with fail
    go_loopw [3, 5] (fun u v wr => ∃ (i : Nat) (vo : Value), i ≤ 32 ∧ v = .int .i64 i ∧ u = vo ∧ Hid (Own 5 .u8 wr w2.heap.size vo (C.take i)) ∧ Hid (Below w2.heap.size w2 wr)) (fun _ v _ => 32 - (intOf v).toNat)
    case atStart => exact ⟨0, _, by omega, rfl, rfl, hid Own.nil, hid (Below.refl _ _)⟩
    case round =>
      obtain ⟨i, vo, hi, rfl, rfl, ho, hb⟩ := hrel
      have hzw := hb.out.size
      have cr := C2.out.below hb.out hgl
      by_cases hlt : i < 32
      · have ti : (i : Int) < 32 := by omega
        have q1 := (cr.cell i).trans (get_tag hlt)
        have hst : C.take (i + 1) = C.take i ++ [ShaM.sum key i] := by rw [HC.out]; exact dl_take _ hlt
        have hlen : (C.take i).length = i := by rw [List.length_take, HC.out, HmM.dl_length]; omega
        have hx := HmM.sum_256 key i
        generalize ShaM.sum key i = x at *
        have HST := hid hst
        have HLEN := hid hlen
        clear hst hlen cr
        go_wp2_with (at_builtin; (with_reducible apply wappN eltB); rfl; rfl; exact ho.out.alloc _; exact nums_one (x := x) (B := wr.heap.size + 1) rfl (Nat.lt_succ_self _); rfl; (rw [HLEN.out]; omega); (simp; omega); intro v' w4 o4 g4)
        have b4 := below_grown (hb.out.alloc hzw (.cells #[.int .u8 (x : Nat)] 5)) g4 ho.out (Nat.le_refl _) (Nat.le_refl _)
        go_roundw
        case rel => exact ⟨i + 1, v', by omega, by go_num, rfl, hid (by rw [HST.out]; exact o4), hid b4⟩
        case measure => simp [intOf] <;> omega
      · obtain rfl : i = 32 := by omega
        have ho2 := ho.out
        rw [show C.take 32 = C from by rw [HC.out]; exact dl_full _] at ho2
        have hbb := B2.out.trans (hb.out.mono B2.out.size)
        have hl32 : C.length = 32 := by rw [HC.out, HmM.dl_length]
        have e0 : C ++ List.replicate 0 0 = C := by rw [List.replicate_zero, List.append_nil]
        rw [← e0] at ho2
        have O2 := hid ho2
        have BB := hid hbb
        have HL32 := hid hl32
        obtain ⟨A3, c3, e3, _, _, _⟩ := ho2.any
        rw [e0, hl32] at e3
        subst e3
        rw [show ((32 : Nat) : Int) = (32 : Int) from rfl]
        obtain ⟨w3, hw3⟩ : ∃ w3, w3 = wr := ⟨_, rfl⟩
        subst hw3
        have HZ23 : w2.heap.size ≤ w3.heap.size := hzw
        have O2' : Hid (Own 5 .u8 w3 w2.heap.size (.slice A3 32 c3) (C ++ List.replicate 0 0)) := O2
        clear ho2 hbb hl32 e0 ho cr C2
        go_wp2_with fail
        go_loopw [3] (fun u wr => ∃ (m N : Nat) (A : Option Addr) (cp : Nat), u = .slice A N cp ∧ Hid (N = 32 + m) ∧ N ≤ 64 ∧ w2.heap.size ≤ wr.heap.size ∧ Hid (Own 5 .u8 wr w2.heap.size u (C ++ List.replicate m 0)) ∧ Hid (Below w.heap.size w wr)) (fun u _ => 64 - lenOf u)
        case atStart => exact ⟨0, 32, A3, c3, rfl, hid rfl, by omega, HZ23, O2', BB⟩
        case round =>
          obtain ⟨m, N, A, cp, rfl, hN, hN64, hbz, ho, hb⟩ := hrel
          clear O2' BB
          have hlen : (C ++ List.replicate m 0).length = N := by rw [List.length_append, List.length_replicate, HL32.out]; exact hN.out.symm
          have HLEN := hid hlen
          clear hlen
          by_cases hlt : N < 64
          · have tN : (N : Int) < 64 := by omega
            go_wp2_with (at_builtin; (with_reducible apply wappN eltB); rfl; rfl; exact ho.out.alloc _; exact nums_one (x := 0) (B := wr.heap.size + 1) rfl (Nat.lt_succ_self _); rfl; (rw [HLEN.out]; omega); (simp; omega); intro v' w4 o4 g4)
            have b4 := below_grown (hb.out.alloc hb.out.size (.cells #[.int .u8 0] 5)) g4 ho.out B2.out.size (Nat.le_refl _)
            have hz4 := g4.size
            simp only [World.size_alloc] at hz4
            obtain ⟨A4, c4, e4, _, _, _⟩ := o4.any
            rw [List.length_append, HLEN.out, List.length_singleton] at e4
            subst e4
            go_roundw
            case rel => exact ⟨m + 1, N + 1, A4, c4, rfl, hid (by have := hN.out; omega), by omega, by omega, hid (by rw [List.replicate_succ', ← List.append_assoc]; exact o4), hid b4⟩
            case measure => simp [lenOf] <;> omega
          · have tN : decide ((N : Int) < 64) = false := by simp; omega
            have hm : m = 64 - C.length := by rw [HL32.out]; have := hN.out; omega
            have hfin := ho.out.fresh hb.out
            rw [hm] at hfin
            have HF := hid hfin
            clear hfin ho hm
            go_wp2_with fail
            go_ret
            exact HF.out
  · have t0 : decide ((64 : Int) < (kn : Int)) = false := by simp; omega
    have hck : HmM.cutK key = key := by unfold HmM.cutK; rw [if_neg (by rw [hkl]; exact h64)]
    rw [hck] at hcl ⊢
    obtain ⟨C, hC⟩ : ∃ C, C = key := ⟨_, rfl⟩
    rw [← hC] at hcl HK HKL ⊢
    clear hK hkl hk256 hck hC H256
    go_enter Tryd.func39, Tryd.ntmps39
    go_upto_region 9 with (at_builtin; (with_reducible apply wappN_any eltB); rfl; rfl; exact hk0; exact (Own.nil (e := 5) (k := .u8) (w := w) (B := w.heap.size)); exact HK.out.nums; exact HKL.out; (rw [List.length_nil]; omega); exact Nat.le_refl _; intro v1 w3 o3 g3)
    rw [List.nil_append] at o3
    have b3 := below_grown (Below.refl w.heap.size w) g3 (Own.nil (e := 5) (k := .u8) (w := w) (B := w.heap.size)) (Nat.le_refl _) (Nat.le_refl _)
    have e0 : C ++ List.replicate 0 0 = C := by rw [List.replicate_zero, List.append_nil]
    obtain ⟨A3, c3, e3, _, _, _⟩ := o3.any
    rw [HKL.out] at e3
    subst e3
    rw [← e0] at o3
    have O2' := hid o3
    have BB := hid b3
    clear o3 b3 g3 e0
    go_loopw [3] (fun u wr => ∃ (m N : Nat) (A : Option Addr) (cp : Nat), u = .slice A N cp ∧ Hid (N = kn + m) ∧ N ≤ 64 ∧ w.heap.size ≤ wr.heap.size ∧ Hid (Own 5 .u8 wr w.heap.size u (C ++ List.replicate m 0)) ∧ Hid (Below w.heap.size w wr)) (fun u _ => 64 - lenOf u)
    case atStart => exact ⟨0, kn, A3, c3, rfl, hid rfl, by omega, BB.out.size, O2', BB⟩
    case round =>
      obtain ⟨m, N, A, cp, rfl, hN, hN64, hbz, ho, hb⟩ := hrel
      clear O2' BB
      have hlen : (C ++ List.replicate m 0).length = N := by rw [List.length_append, List.length_replicate, HKL.out]; exact hN.out.symm
      have HLEN := hid hlen
      clear hlen
      by_cases hlt : N < 64
      · have tN : (N : Int) < 64 := by omega
        go_wp2_with (at_builtin; (with_reducible apply wappN eltB); rfl; rfl; exact ho.out.alloc _; exact nums_one (x := 0) (B := wr.heap.size + 1) rfl (Nat.lt_succ_self _); rfl; (rw [HLEN.out]; omega); (simp; omega); intro v' w4 o4 g4)
        have b4 := below_grown (hb.out.alloc hb.out.size (.cells #[.int .u8 0] 5)) g4 ho.out (Nat.le_refl _) (Nat.le_refl _)
        have hz4 := g4.size
        simp only [World.size_alloc] at hz4
        obtain ⟨A4, c4, e4, _, _, _⟩ := o4.any
        rw [List.length_append, HLEN.out, List.length_singleton] at e4
        subst e4
        go_roundw
        case rel => exact ⟨m + 1, N + 1, A4, c4, rfl, hid (by have := hN.out; omega), by omega, by omega, hid (by rw [List.replicate_succ', ← List.append_assoc]; exact o4), hid b4⟩
        case measure => simp [lenOf] <;> omega
      · have tN : decide ((N : Int) < 64) = false := by simp; omega
        have hm : m = 64 - C.length := by rw [HKL.out]; have := hN.out; omega
        have hfin := ho.out.fresh hb.out
        rw [hm] at hfin
        have HF := hid hfin
        clear hfin ho hm
        go_wp2_with fail
        go_ret
        exact HF.out
end Go.Proofs.YtdfoehcdabmagaaDoor
set_option maxRecDepth 100000
namespace Go.Proofs.YtdfoehcdabmagaaDoor
open Go.ChangeShapes Go.WideShapes Go.ChangeAt Go.RowKit
attribute [local go_sem] Gives
set_option maxHeartbeats 2000000 in
set_option maxRecDepth 100000 in
theorem rof_any (K : Option Addr) (key : List Nat) (kn kcap : Nat) (hkl : key.length = kn) (hkn : kn ≤ 100000) (hk0 : K = none → kn = 0 ∧ kcap = 0) (hk256 : B256 key)
    (A : Option Addr) (l : List Nat) (n cap : Nat) (hl : l.length = n) (hn : n ≤ 90000) (h0 : A = none → n = 0 ∧ cap = 0) (h256 : B256 l) (w : World) (hK : Byt w w.heap.size K key) (hA : Byt w w.heap.size A l) :
    Calls Tryd.prog 25 #[.slice K kn kcap, .slice A n cap] w fun e w' => e = .returned (.agg (tag (HmM.tag key l))) ∧ Below w.heap.size w w' := by
  have hbl := HmM.blk_length key
  have hb256 := HmM.blk_256 hk256
  have RB := hid fun (w : World) (hK : Byt w w.heap.size K key) => rblock_any K key kn kcap hkl hkn hk0 hk256 w hK
  have htag : HmM.tag key l = ShaM.sum (HmM.pad 92 (HmM.blk key) ++ HmM.dl (ShaM.sum (HmM.pad 54 (HmM.blk key) ++ l))) := rfl
  rw [htag]
  clear htag
  generalize HmM.blk key = bk at *
  obtain ⟨I, hI⟩ : ∃ I, I = HmM.pad 54 bk := ⟨_, rfl⟩
  obtain ⟨O, hO⟩ : ∃ O, O = HmM.pad 92 bk := ⟨_, rfl⟩
  have hIl : I.length = 64 := by rw [hI, HmM.pad_length, hbl]
  have hOl : O.length = 64 := by rw [hO, HmM.pad_length, hbl]
  have hI256 : B256 I := by rw [hI]; exact HmM.pad_256 (by omega) hb256
  have hO256 : B256 O := by rw [hO]; exact HmM.pad_256 (by omega) hb256
  have hIst : ∀ i, i < 64 → I.take (i + 1) = I.take i ++ [bk.getD i 0 ^^^ 54] := fun i hi => by rw [hI]; exact pad_take 54 bk (by rw [hbl]; exact hi)
  have hOst : ∀ i, i < 64 → O.take (i + 1) = O.take i ++ [bk.getD i 0 ^^^ 92] := fun i hi => by rw [hO]; exact pad_take 92 bk (by rw [hbl]; exact hi)
  rw [← hI, ← hO]
  have HK := hid hK
  have HA := hid hA
  have HL := hid hl
  have HBL := hid hbl
  have HB256 := hid hb256
  have HIL := hid hIl
  have HOL := hid hOl
  have HI256 := hid hI256
  have HO256 := hid hO256
  have HIST := hid hIst
  have HOST := hid hOst
  have H256 := hid h256
  clear hI hO hIst hOst hIl hOl hI256 hO256 hK hA hl hbl hb256 h256 hkl hk256
  go_enter Tryd.func25, Tryd.ntmps25
  go_upto_region 1 with fail
  generalize hw1 : World.alloc w _ = w1
  have b1 : Blk w1 w.heap.size 27 (tag fun _ => 0) := by rw [← hw1]; exact Blk.top zlit_tag rfl
  have hb : Below w.heap.size w w1 := by rw [← hw1]; exact (Below.refl _ _).alloc (Nat.le_refl _) _
  clear hw1
  have B1 := hid b1
  have BEL := hid hb
  clear b1 hb
  go_wp2_with fail
  refine (RB.out w1 ((HK.out.below BEL.out (Nat.le_refl _)).more BEL.out.size)).mono ?_
  rintro e w3 ⟨Ab, cb, rfl, _, _, nb, h3⟩
  rw [HBL.out]
  obtain ⟨bb, ob, rfl, hBb, hrb⟩ := nb (by rw [HBL.out]; omega)
  rw [HBL.out] at hrb
  have HRB := hid hrb
  have B3 := hid (B1.out.below h3 B1.out.lt)
  have BEL3 := hid (BEL.out.trans (h3.mono BEL.out.size))
  have hz13 := h3.size
  have hwz : w.heap.size < w3.heap.size := Nat.lt_of_lt_of_le B1.out.lt h3.size
  clear nb hrb h3 B1 BEL RB
  go_wp2_with fail
  go_loopw [6, 7, 8] (fun u1 u2 v wr => ∃ (i : Nat) (vi vo : Value), i ≤ 64 ∧ v = .int .i64 i ∧ u1 = vi ∧ u2 = vo ∧ Hid (Own 5 .u8 wr w3.heap.size vi (I.take i)) ∧ Hid (Own 5 .u8 wr w3.heap.size vo (O.take i)) ∧ Hid (Apart vi vo) ∧ Hid (Below w3.heap.size w3 wr)) (fun _ _ v _ => 64 - (intOf v).toNat)
  case atStart => exact ⟨0, _, _, by omega, rfl, rfl, rfl, hid Own.nil, hid Own.nil, hid (Apart.nil _), hid (Below.refl _ _)⟩
  case round =>
    obtain ⟨i, vi, vo, hi, rfl, rfl, rfl, ho1, ho2, hap, hb⟩ := hrel
    have hzw := hb.out.size
    by_cases hlt : i < 64
    · have ti : (i : Int) < 64 := by omega
      have hIs := HIST.out i hlt
      have hOs := HOST.out i hlt
      have q1 : wr.cell? ⟨bb, ob + i, none⟩ = some (.int .u8 (bk.getD i 0 : Nat)) := (hb.out.cell (p := ⟨bb, ob + i, none⟩) hBb).trans (HRB.out i hlt)
      have hx : bk.getD i 0 < 256 := ShaM.getD_lt (by omega) HB256.out i
      obtain ⟨x, hxx⟩ : ∃ x, x = bk.getD i 0 := ⟨_, rfl⟩
      rw [← hxx] at hIs hOs q1 hx
      have e1 : bits .xor .u8 (x : Int) 54 = ((x ^^^ 54 : Nat) : Int) := u8_xor_nat x 54 hx (by omega)
      have e2 : bits .xor .u8 (x : Int) 92 = ((x ^^^ 92 : Nat) : Int) := u8_xor_nat x 92 hx (by omega)
      obtain ⟨y, hy⟩ : ∃ y, y = x ^^^ 54 := ⟨_, rfl⟩
      obtain ⟨z, hz⟩ : ∃ z, z = x ^^^ 92 := ⟨_, rfl⟩
      rw [← hy] at e1 hIs
      rw [← hz] at e2 hOs
      have HIS := hid hIs
      have HOS := hid hOs
      have HQ := hid fun (w' : World) (h : Below w3.heap.size w3 w') => (h.cell (p := ⟨bb, ob + i, none⟩) hBb).trans (HRB.out i hlt)
      have HXX := hid hxx
      have HLI := hid (show (I.take i).length = i by rw [List.length_take, HIL.out]; omega)
      have HLO := hid (show (O.take i).length = i by rw [List.length_take, HOL.out]; omega)
      clear hIs hOs hxx hy hz
      go_upto_region 8 with (at_builtin; (with_reducible apply wappW eltB); rfl; rfl; (intro h; cases h); exact ho1.out.alloc _; exact nums_one (x := y) (B := wr.heap.size + 1) rfl (Nat.lt_succ_self _); rfl; (rw [HLI.out]; omega); (simp; omega); intro v1 w4 o4 g4 p4)
      have b4 := below_grown (hb.out.alloc hzw (.cells #[.int .u8 (y : Nat)] 5)) g4 ho1.out (Nat.le_refl _) (Nat.le_refl _)
      have k4 := (ho2.out.alloc (.cells #[.int .u8 (y : Nat)] 5)).keep g4 hap.out.symm
      have a4 := hap.out.symm.app (ho2.out.alloc (.cells #[.int .u8 (y : Nat)] 5)) p4
      have q4 := HQ.out w4 b4
      rw [← HXX.out] at q4
      have O4 := hid o4
      have K4 := hid k4
      have A4 := hid a4
      have B4 := hid b4
      have hz4 := b4.size
      clear o4 k4 a4 b4 g4 p4 q1 ho1 ho2
      go_wp2_with (at_builtin; (with_reducible apply wappW eltB); rfl; rfl; (intro h; cases h); exact K4.out.alloc _; exact nums_one (x := z) (B := w4.heap.size + 1) rfl (Nat.lt_succ_self _); rfl; (rw [HLO.out]; omega); (simp; omega); intro v2 w5 o5 g5 p5)
      have b5 := below_grown (B4.out.alloc hz4 (.cells #[.int .u8 (z : Nat)] 5)) g5 K4.out (Nat.le_refl _) (Nat.le_refl _)
      have k5 := (O4.out.alloc (.cells #[.int .u8 (z : Nat)] 5)).keep g5 A4.out.symm
      have a5 := A4.out.symm.app (O4.out.alloc (.cells #[.int .u8 (z : Nat)] 5)) p5
      go_roundw
      case rel => exact ⟨i + 1, v1, v2, by omega, by go_num, rfl, rfl, hid (by rw [HIS.out]; exact k5), hid (by rw [HOS.out]; exact o5), hid a5, hid b5⟩
      case measure => simp [intOf] <;> omega
    · obtain rfl : i = 64 := by omega
      have oi := ho1.out
      have oo := ho2.out
      rw [List.take_of_length_le (by rw [HIL.out]; omega)] at oi
      rw [List.take_of_length_le (by rw [HOL.out]; omega)] at oo
      have OI := hid oi
      have OO := hid oo
      have BR := hid (BEL3.out.trans (hb.out.mono BEL3.out.size))
      have hbz := BR.out.size
      clear oi oo ho1 ho2
      rw [show ((64 : Nat) : Int) = (64 : Int) from rfl]
      go_upto_region 10 with (at_builtin; (with_reducible apply wappW eltB); rfl; rfl; exact h0; exact OI.out; exact ((HA.out.below BR.out (Nat.le_refl _)).more hbz).nums; exact HL.out; (rw [HIL.out]; omega); exact hzw; intro v1 w4 o4 g4 p4)
      have b4 := below_grown hb.out g4 OI.out (Nat.le_refl _) (Nat.le_refl _)
      have k4 := OO.out.keep g4 hap.out.symm
      obtain ⟨A5, c5, e5, _, _, n5⟩ := o4.any
      have hl5 : (I ++ l).length = 64 + n := by rw [List.length_append, HIL.out, HL.out]
      obtain ⟨N, hN⟩ : ∃ N, N = 64 + n := ⟨_, rfl⟩
      rw [← hN] at hl5
      rw [hl5] at e5
      subst e5
      have hA5 : A5 = none → N = 0 ∧ c5 = 0 := fun e => by
        subst e
        exfalso
        obtain ⟨_, _, e', _⟩ := n5 (by rw [hl5]; omega)
        cases e'
      have K4 := hid k4
      have B4 := hid b4
      have N5 := hid n5
      have HA5 := hid hA5
      have HL5 := hid hl5
      have hN9 : N ≤ 100000 := by omega
      clear k4 b4 n5 hA5 hl5 o4 g4 p4 OI OO hN
      go_wp2_with fail
      refine (rsum_any A5 (I ++ l) N c5 HL5.out hN9 HA5.out (HI256.out.append H256.out) w4 N5.out.byt).mono ?_
      rintro e w6 ⟨rfl, h6⟩
      obtain ⟨D, hD⟩ : ∃ D, D = ShaM.sum (I ++ l) := ⟨_, rfl⟩
      have hD256 : ∀ k, D k < 256 := fun k => by rw [hD]; exact HmM.sum_256 _ k
      rw [← hD]
      have HD := hid hD
      have HD256 := hid hD256
      have hz6 := h6.size
      have K6 := hid (K4.out.below h6)
      have B6 := hid (B4.out.trans (h6.mono B4.out.size))
      have hz46 := B6.out.size
      clear hD hD256 h6 K4 B4 N5
      go_upto_region 11 with ((with_reducible apply stt); rfl; rfl; exact Blk.top zlit_tag rfl)
      generalize hw7 : World.setRow _ _ _ = w7
      obtain ⟨g, hg⟩ : ∃ g, g = w6.heap.size := ⟨_, rfl⟩
      have d7 : Blk w7 g 27 (tag D) := by rw [← hw7, hg]; exact (Blk.top zlit_tag rfl).setRow_same _
      have b67 : Below w6.heap.size w6 w7 := by rw [← hw7]; exact below_setRow ((Below.refl _ _).alloc (Nat.le_refl _) _) (Nat.le_refl _) _
      have K7 := hid (K6.out.below b67)
      have B7 := hid (B6.out.trans (b67.mono hz46))
      have hne : u7.ownBlock ≠ some g := fun e => by
        have := (World.ownsRow.lt K6.out g e).2
        omega
      have hgz : w3.heap.size ≤ g := by omega
      rw [← hg]
      have D7 := hid d7
      have HNE := hid hne
      clear hw7 b67 d7 hne hg K6 B6
      have k7 := K7.out
      rw [show O = O ++ (HmM.dl D).take 0 by simp] at k7
      have K70 := hid k7
      clear k7 K7
      go_wp2_with fail
      go_loopw [7, 10] (fun u v wr => ∃ (i : Nat) (vo : Value), i ≤ 32 ∧ v = .int .i64 i ∧ u = vo ∧ Hid (Own 5 .u8 wr w3.heap.size vo (O ++ (HmM.dl D).take i)) ∧ Hid (vo.ownBlock ≠ some g) ∧ Hid (Blk wr g 27 (tag D)) ∧ Hid (Below w3.heap.size w3 wr)) (fun _ v _ => 32 - (intOf v).toNat)
      case atStart => exact ⟨0, _, by omega, rfl, rfl, K70, HNE, D7, B7⟩
      case round =>
        clear K70 HNE D7 B7
        obtain ⟨i, vo, hi, rfl, rfl, ho, hne, hd, hb⟩ := hrel
        have hzw := hb.out.size
        by_cases hlt : i < 32
        · have ti : (i : Int) < 32 := by omega
          have q1 := (hd.out.cell i).trans (get_tag hlt)
          have hst : O ++ (HmM.dl D).take (i + 1) = (O ++ (HmM.dl D).take i) ++ [D i] := by rw [dl_take _ hlt, List.append_assoc]
          have hlen : (O ++ (HmM.dl D).take i).length = 64 + i := by rw [List.length_append, HOL.out, List.length_take, HmM.dl_length]; omega
          have hx := HD256.out i
          generalize D i = x at *
          have HST := hid hst
          have HLEN := hid hlen
          clear hst hlen
          go_wp2_with (at_builtin; (with_reducible apply wappW eltB); rfl; rfl; (intro h; cases h); exact ho.out.alloc _; exact nums_one (x := x) (B := wr.heap.size + 1) rfl (Nat.lt_succ_self _); rfl; (rw [HLEN.out]; omega); (simp; omega); intro v' w4 o4 g4 p4)
          have b4 := below_grown (hb.out.alloc hzw (.cells #[.int .u8 (x : Nat)] 5)) g4 ho.out (Nat.le_refl _) (Nat.le_refl _)
          have d4 := (hd.out.alloc (.cells #[.int .u8 (x : Nat)] 5)).apart g4 hne.out
          have n4 : v'.ownBlock ≠ some g := by
            rcases p4 with p4 | p4
            · rw [p4]; exact hne.out
            · rw [p4]; intro e; have := hd.out.lt; simp at e; omega
          go_roundw
          case rel => exact ⟨i + 1, v', by omega, by go_num, rfl, hid (by rw [HST.out]; exact o4), hid n4, hid d4, hid b4⟩
          case measure => simp [intOf] <;> omega
        · obtain rfl : i = 32 := by omega
          have o9 := ho.out
          rw [dl_full] at o9
          obtain ⟨A9, c9, e9, _, _, n9⟩ := o9.any
          have hl9 : (O ++ HmM.dl D).length = 96 := by rw [List.length_append, HOL.out, HmM.dl_length]
          rw [hl9] at e9
          subst e9
          have hA9 : A9 = none → (96 : Nat) = 0 ∧ c9 = 0 := fun e => by
            subst e
            exfalso
            obtain ⟨_, _, e', _⟩ := n9 (by rw [hl9]; omega)
            cases e'
          have N9 := hid n9
          have HA9 := hid hA9
          have HL9 := hid hl9
          have BR := hid (BEL3.out.trans (hb.out.mono BEL3.out.size))
          have b9 := B3.out.below hb.out hwz
          have B9 := hid b9
          clear n9 hA9 hl9 o9 ho hd b9
          go_wp2_with fail
          refine (rsum_any A9 (O ++ HmM.dl D) 96 c9 HL9.out (by omega) HA9.out (HO256.out.append (HmM.dl_256 HD256.out)) wr N9.out.byt).mono ?_
          rintro e w5 ⟨rfl, h5⟩
          have c1 := B9.out.below h5 B9.out.lt
          have b5 := BR.out.trans (h5.mono BR.out.size)
          clear h5
          go_wp2_with ((with_reducible apply stt); rfl; rfl; exact c1)
          apply ret_row Tryd.results25
          · exact c1.setRow_same _
          · exact Tryd.underlying27
          · rfl
          · exact (info_tag.trans (by rw [size_tag]))
          · rfl
          · rfl
          exact ⟨by rw [HD.out], below_setRow b5 (Nat.le_refl _) _⟩
end Go.Proofs.YtdfoehcdabmagaaDoor
set_option maxRecDepth 100000
namespace Go.Proofs.YtdfoehcdabmagaaDoor
namespace BytM
/-- A number in w bytes, the greatest first. -/
def dig : Nat → Nat → List Nat
  | 0, _ => []
  | w + 1, n => (n / 256 ^ w % 256) :: dig w n
def val (l : List Nat) : Nat := l.foldl (fun n b => 256 * n + b) 0
theorem dig_length : ∀ w n, (dig w n).length = w
  | 0, _ => rfl
  | w + 1, n => by rw [dig, List.length_cons, dig_length w n]
theorem dig_256 : ∀ w n, B256 (dig w n)
  | 0, _ => fun x hx => by cases hx
  | w + 1, n => fun x hx => by
    rw [dig] at hx
    rcases List.mem_cons.1 hx with rfl | hx
    · exact Nat.mod_lt _ (by omega)
    · exact dig_256 w n x hx
theorem dig_get : ∀ (w n k : Nat), k < w → (dig w n).getD k 0 = n / 256 ^ (w - 1 - k) % 256
  | 0, _, _, h => absurd h (by omega)
  | w + 1, n, 0, _ => by rw [dig]; simp
  | w + 1, n, k + 1, h => by
    rw [dig, List.getD_cons_succ, dig_get w n k (by omega), show w + 1 - 1 - (k + 1) = w - 1 - k by omega]
theorem dig_step {w n k : Nat} (h : k < w) : (dig w n).take (k + 1) = (dig w n).take k ++ [n / 256 ^ (w - 1 - k) % 256] := by
  have hl : k < (dig w n).length := by rw [dig_length]; exact h
  rw [List.take_succ_eq_append_getElem hl, ← nums_at hl, dig_get w n k h]
theorem dig_drop {w n k : Nat} (h : k < w) : (dig w n).drop k = (n / 256 ^ (w - 1 - k) % 256) :: (dig w n).drop (k + 1) := by
  have hl : k < (dig w n).length := by rw [dig_length]; exact h
  rw [List.drop_eq_getElem_cons hl, ← nums_at hl, dig_get w n k h]
theorem val_go (l : List Nat) : ∀ n, l.foldl (fun n b => 256 * n + b) n = n * 256 ^ l.length + val l := by
  induction l with
  | nil => intro n; simp [val]
  | cons x l ih =>
    intro n
    unfold val
    rw [List.foldl_cons, List.foldl_cons, ih, ih, List.length_cons, Nat.pow_succ]
    simp only [Nat.mul_zero, Nat.zero_add, Nat.add_mul]
    rw [show 256 * n * 256 ^ l.length = n * (256 ^ l.length * 256) by rw [Nat.mul_comm 256 n, Nat.mul_assoc, Nat.mul_comm 256]]
    omega
theorem val_cons (x : Nat) (l : List Nat) : val (x :: l) = x * 256 ^ l.length + val l := by
  show (x :: l).foldl _ 0 = _
  rw [List.foldl_cons, val_go]
  simp
theorem val_snoc (l : List Nat) (x : Nat) : val (l ++ [x]) = 256 * val l + x := by
  unfold val
  rw [List.foldl_append]
  rfl
theorem val_lt {l : List Nat} (h : B256 l) : val l < 256 ^ l.length := by
  induction l with
  | nil => simp [val]
  | cons x l ih =>
    have h1 := ih fun y hy => h y (List.mem_cons_of_mem _ hy)
    have h2 := h x List.mem_cons_self
    rw [val_cons, List.length_cons, Nat.pow_succ]
    have h3 : x * 256 ^ l.length ≤ 255 * 256 ^ l.length := Nat.mul_le_mul_right _ (by omega)
    omega
theorem val_lt_of {l : List Nat} (h : B256 l) {w : Nat} (hl : l.length ≤ w) : val l < 256 ^ w :=
  Nat.lt_of_lt_of_le (val_lt h) (Nat.pow_le_pow_right (by omega) hl)
theorem val_dig : ∀ w n, val (dig w n) = n % 256 ^ w
  | 0, n => by simp [dig, val]; omega
  | w + 1, n => by
    rw [dig, val_cons, dig_length, val_dig w n, Nat.mod_pow_succ, Nat.mul_comm (256 ^ w)]
    omega
theorem dig_add : ∀ (w n c : Nat), dig w (n + c * 256 ^ w) = dig w n
  | 0, _, _ => rfl
  | w + 1, n, c => by
    rw [dig, dig]
    have e : n + c * 256 ^ (w + 1) = n + (c * 256) * 256 ^ w := by rw [Nat.pow_succ, Nat.mul_assoc, Nat.mul_comm 256]
    rw [e, dig_add w n (c * 256), Nat.add_mul_div_right _ _ (Nat.pow_pos (by omega)), Nat.add_mul_mod_self_right]
theorem dig_val : ∀ {l : List Nat}, B256 l → dig l.length (val l) = l
  | [], _ => rfl
  | x :: l, h => by
    have h1 := fun y hy => h y (List.mem_cons_of_mem _ hy)
    have h2 := h x List.mem_cons_self
    have h3 := val_lt h1
    rw [List.length_cons, dig, val_cons, Nat.add_comm (x * _), Nat.add_mul_div_right _ _ (Nat.pow_pos (by omega)), Nat.div_eq_of_lt h3, Nat.zero_add, Nat.mod_eq_of_lt h2, dig_add, dig_val h1]
def isW (w : Int) : Bool := decide (w = 1) || decide (w = 2) || decide (w = 4) || decide (w = 8)
theorem isW_cases {w : Int} (h : isW w = true) : w = 1 ∨ w = 2 ∨ w = 4 ∨ w = 8 := by
  simp [isW] at h
  omega
theorem isW_nat {w : Int} (h : isW w = true) : ∃ n : Nat, w = n ∧ 1 ≤ n ∧ n ≤ 8 ∧ isW (n : Int) = true := by
  rcases isW_cases h with rfl | rfl | rfl | rfl
  · exact ⟨1, rfl, by omega, by omega, rfl⟩
  · exact ⟨2, rfl, by omega, by omega, rfl⟩
  · exact ⟨4, rfl, by omega, by omega, rfl⟩
  · exact ⟨8, rfl, by omega, by omega, rfl⟩
/-- Is w a width, and does n fit in w bytes? -/
def okN (w : Int) (n : Nat) : Bool := isW w && decide (n < 256 ^ w.toNat)
/-- A text as bytes. -/
def txt (s : List Nat) : List Nat := dig 2 s.length ++ s
theorem txt_256 {s : List Nat} (h : B256 s) : B256 (txt s) := (dig_256 _ _).append h
/-- The parts, one behind the other. -/
def flatP : List (List Nat) → List Nat
  | [] => []
  | p :: ps => dig 4 p.length ++ p ++ flatP ps
theorem flatP_append : ∀ (a b : List (List Nat)), flatP (a ++ b) = flatP a ++ flatP b
  | [], _ => rfl
  | p :: a, b => by rw [List.cons_append, flatP, flatP, flatP_append a b, List.append_assoc (dig 4 p.length ++ p)]
theorem flatP_256 : ∀ {ps : List (List Nat)}, (∀ p ∈ ps, B256 p) → B256 (flatP ps)
  | [], _ => fun x hx => by cases hx
  | p :: ps, h => ((dig_256 _ _).append (h p List.mem_cons_self)).append (flatP_256 fun q hq => h q (List.mem_cons_of_mem _ hq))
/-- A row. -/
def rowB (d : Nat) (ps : List (List Nat)) : List Nat := d :: ps.length :: flatP ps
/-! Tapes: what is left, or none where it is torn. -/
abbrev Tp := Option (List Nat)
def cutL (st : Tp) (n : Int) : List Nat := match st with
  | none => []
  | some l => if 0 ≤ n ∧ n ≤ (l.length : Int) then l.take n.toNat else []
def cutS (st : Tp) (n : Int) : Tp := match st with
  | none => none
  | some l => if 0 ≤ n ∧ n ≤ (l.length : Int) then some (l.drop n.toNat) else none
def numL (st : Tp) (w : Int) : Nat := if isW w then val (cutL st w) else 0
def numS (st : Tp) (w : Int) : Tp := if isW w then cutS st w else none
def txtL (st : Tp) (most : Int) : List Nat := if (numL st 2 : Int) > most then [] else cutL (numS st 2) (numL st 2 : Nat)
def txtS (st : Tp) (most : Int) : Tp := if (numL st 2 : Int) > most then none else cutS (numS st 2) (numL st 2 : Nat)
def T256 (st : Tp) : Prop := ∀ l, st = some l → B256 l
theorem T256.some {l : List Nat} (h : B256 l) : T256 (some l) := fun m e => by cases e; exact h
theorem T256.none : T256 none := fun m e => by cases e
theorem T256.cut {st : Tp} (h : T256 st) (n : Int) : T256 (cutS st n) := by
  intro l e
  unfold cutS at e
  split at e
  · cases e
  · split at e
    · cases e; exact (h _ rfl).drop _
    · cases e
theorem T256.num {st : Tp} (h : T256 st) (w : Int) : T256 (numS st w) := by
  unfold numS
  split
  · exact h.cut w
  · exact T256.none
theorem T256.txt {st : Tp} (h : T256 st) (m : Int) : T256 (txtS st m) := by
  unfold txtS
  split
  · exact T256.none
  · exact (h.num 2).cut _
theorem cutL_256 {st : Tp} (h : T256 st) (n : Int) : B256 (cutL st n) := by
  unfold cutL
  split
  · intro x hx; cases hx
  · split
    · exact (h _ rfl).take _
    · intro x hx; cases hx
theorem cutL_len {st : Tp} {n : Int} (w : Nat) (hn : n = w) : (cutL st n).length ≤ w := by
  unfold cutL
  split
  · exact Nat.zero_le _
  · split
    · rw [List.length_take]; omega
    · exact Nat.zero_le _
theorem numL_lt {st : Tp} (h : T256 st) {w : Int} {n : Nat} (hn : w = n) : numL st w < 256 ^ n := by
  unfold numL
  split
  · exact val_lt_of (cutL_256 h w) (cutL_len n hn)
  · exact Nat.pow_pos (by omega)
theorem cut_none (n : Int) : cutS none n = none := rfl
theorem num_none (w : Int) : numS none w = none := by unfold numS; split <;> rfl
theorem txt_none (m : Int) : txtS none m = none := by
  unfold txtS
  split
  · rfl
  · rw [num_none, cut_none]
theorem cut_app (l t : List Nat) {n : Int} (h : n = l.length) : cutL (some (l ++ t)) n = l ∧ cutS (some (l ++ t)) n = some t := by
  subst h
  have hc : (0 : Int) ≤ (l.length : Int) ∧ (l.length : Int) ≤ ((l ++ t).length : Int) := by rw [List.length_append]; omega
  unfold cutL cutS
  dsimp only
  rw [if_pos hc, if_pos hc]
  simp
theorem num_app {w : Int} {k n : Nat} (hw : w = k) (hw2 : isW w = true) (hn : n < 256 ^ k) (t : List Nat) : numL (some (dig k n ++ t)) w = n ∧ numS (some (dig k n ++ t)) w = some t := by
  have := cut_app (dig k n) t (n := w) (by rw [dig_length]; exact hw)
  unfold numL numS
  rw [if_pos hw2, if_pos hw2, this.1, this.2, val_dig, Nat.mod_eq_of_lt hn]
  exact ⟨rfl, rfl⟩
theorem txt_app {s t : List Nat} {m : Int} (hs : s.length ≤ 65535) (hm : (s.length : Int) ≤ m) : txtL (some (txt s ++ t)) m = s ∧ txtS (some (txt s ++ t)) m = some t := by
  unfold txt
  rw [List.append_assoc]
  have h1 := num_app (w := 2) (k := 2) (n := s.length) rfl rfl (by omega) (s ++ t)
  unfold txtL txtS
  rw [h1.1, h1.2, if_neg (by omega), if_neg (by omega)]
  exact cut_app s t rfl
/-! Rows that are read. -/
def prsL : Nat → Tp → List (List Nat)
  | 0, _ => []
  | k + 1, st => cutL (numS st 4) (numL st 4 : Nat) :: prsL k (cutS (numS st 4) (numL st 4 : Nat))
def prsS : Nat → Tp → Tp
  | 0, st => st
  | k + 1, st => prsS k (cutS (numS st 4) (numL st 4 : Nat))
theorem prs_none : ∀ k, prsS k none = none
  | 0 => rfl
  | k + 1 => by rw [prsS, num_none, cut_none, prs_none k]
theorem prs_flat : ∀ (ps : List (List Nat)) (t : List Nat), (∀ p ∈ ps, p.length < 4294967296) → prsL ps.length (some (flatP ps ++ t)) = ps ∧ prsS ps.length (some (flatP ps ++ t)) = some t
  | [], t, _ => ⟨rfl, rfl⟩
  | p :: ps, t, h => by
    have hp := h p List.mem_cons_self
    have ih := prs_flat ps t fun q hq => h q (List.mem_cons_of_mem _ hq)
    have h1 := num_app (w := 4) (k := 4) (n := p.length) rfl rfl (by omega) (p ++ (flatP ps ++ t))
    have h2 := cut_app p (flatP ps ++ t) (n := (p.length : Nat)) rfl
    rw [List.length_cons, flatP, List.append_assoc, List.append_assoc, prsL, prsS, h1.1, h1.2, h2.1, h2.2, ih.1, ih.2]
    exact ⟨rfl, rfl⟩
theorem prs_back : ∀ (k : Nat) (l : List Nat), B256 l → ∀ t, prsS k (some l) = some t → l = flatP (prsL k (some l)) ++ t ∧ (prsL k (some l)).length = k
  | 0, l, _, t, h => by
    cases h
    exact ⟨rfl, rfl⟩
  | k + 1, l, hb, t, h => by
    rw [prsS] at h
    have e4 : numS (some l) 4 = cutS (some l) 4 := rfl
    have v4 : numL (some l) 4 = val (cutL (some l) 4) := rfl
    by_cases h4 : 4 ≤ l.length
    · have c1 : cutL (some l) 4 = l.take 4 := by unfold cutL; dsimp only; rw [if_pos (by omega)]; rfl
      have c2 : cutS (some l) 4 = some (l.drop 4) := by unfold cutS; dsimp only; rw [if_pos (by omega)]; rfl
      have hd : dig 4 (val (l.take 4)) = l.take 4 := by
        have := dig_val (hb.take 4)
        rw [List.length_take, Nat.min_eq_left h4] at this
        exact this
      rw [e4, v4, c1, c2] at h
      rw [prsL, e4, v4, c1, c2]
      generalize val (l.take 4) = n at *
      by_cases hn : n ≤ (l.drop 4).length
      · have d1 : cutL (some (l.drop 4)) (n : Nat) = (l.drop 4).take n := by unfold cutL; dsimp only; rw [if_pos (by omega)]; simp
        have d2 : cutS (some (l.drop 4)) (n : Nat) = some ((l.drop 4).drop n) := by unfold cutS; dsimp only; rw [if_pos (by omega)]; simp
        rw [d2] at h
        have ih := prs_back k _ ((hb.drop 4).drop n) t h
        rw [d1, d2, flatP, List.length_cons, ih.2, List.length_take, Nat.min_eq_left hn, hd]
        refine ⟨?_, rfl⟩
        rw [List.append_assoc, ← ih.1, List.append_assoc, List.take_append_drop, List.take_append_drop]
      · have d2 : cutS (some (l.drop 4)) (n : Nat) = none := by unfold cutS; dsimp only; rw [if_neg (by omega)]
        rw [d2, prs_none] at h
        cases h
    · have c2 : cutS (some l) 4 = none := by unfold cutS; dsimp only; rw [if_neg (by omega)]
      rw [e4, c2, cut_none, prs_none] at h
      cases h
theorem prs_256 : ∀ (k : Nat) (st : Tp), T256 st → ∀ p ∈ prsL k st, B256 p
  | 0, _, _, p, hp => by cases hp
  | k + 1, st, h, p, hp => by
    rw [prsL] at hp
    rcases List.mem_cons.1 hp with rfl | hp
    · exact cutL_256 (h.num 4) _
    · exact prs_256 k _ ((h.num 4).cut _) p hp
theorem prsL_length : ∀ (k : Nat) (st : Tp), (prsL k st).length = k
  | 0, _ => rfl
  | k + 1, st => by rw [prsL, List.length_cons, prsL_length k]
/-- What is read of bytes as a row: its domain and parts, or none. -/
def parse : List Nat → Option (Nat × List (List Nat))
  | d :: m :: l => if 16 < m then none else if prsS m (some l) = some [] then some (d, prsL m (some l)) else none
  | _ => none
/-- The same by a tape. -/
def pDom (l : List Nat) : Nat := numL (some l) 1
def pMany (l : List Nat) : Nat := numL (numS (some l) 1) 1
def pRest (l : List Nat) : Tp := numS (numS (some l) 1) 1
theorem parse_tape (l : List Nat) : parse l = if 16 < pMany l then none else if prsS (pMany l) (pRest l) = some [] then some (pDom l, prsL (pMany l) (pRest l)) else none := by
  match l with
  | [] =>
    have h1 : numS (some []) 1 = none := rfl
    unfold pMany pRest
    rw [h1, num_none]
    have h2 : numL none 1 = 0 := rfl
    rw [h2]
    rfl
  | [d] =>
    have h1 : numS (some [d]) 1 = some [] := rfl
    unfold pMany pRest
    rw [h1]
    have h2 : numL (some []) 1 = 0 := rfl
    have h3 : numS (some []) 1 = none := rfl
    rw [h2, h3]
    rfl
  | d :: m :: t =>
    have hc : (0 : Int) ≤ 1 ∧ (1 : Int) ≤ ((d :: m :: t).length : Int) := by simp only [List.length_cons]; omega
    have hc2 : (0 : Int) ≤ 1 ∧ (1 : Int) ≤ ((m :: t).length : Int) := by simp only [List.length_cons]; omega
    have h1 : numS (some (d :: m :: t)) 1 = some (m :: t) := by
      unfold numS cutS; dsimp only; rw [if_pos (show isW 1 = true from rfl), if_pos hc]; rfl
    have h2 : numL (some (d :: m :: t)) 1 = d := by
      unfold numL cutL; dsimp only; rw [if_pos (show isW 1 = true from rfl), if_pos hc]; simp [val]
    have h3 : numS (some (m :: t)) 1 = some t := by
      unfold numS cutS; dsimp only; rw [if_pos (show isW 1 = true from rfl), if_pos hc2]; rfl
    have h4 : numL (some (m :: t)) 1 = m := by
      unfold numL cutL; dsimp only; rw [if_pos (show isW 1 = true from rfl), if_pos hc2]; simp [val]
    unfold pMany pRest pDom
    rw [h1, h2, h3, h4]
    rfl
theorem parse_row (d : Nat) {ps : List (List Nat)} (h : ps.length ≤ 16) (hp : ∀ p ∈ ps, p.length < 4294967296) : parse (rowB d ps) = some (d, ps) := by
  have h1 := prs_flat ps [] hp
  rw [List.append_nil] at h1
  unfold rowB parse
  dsimp only
  rw [if_neg (by omega), h1.1, h1.2, if_pos rfl]
theorem parse_more (d : Nat) {ps : List (List Nat)} (hp : ∀ p ∈ ps, p.length < 4294967296) {t : List Nat} (ht : t ≠ []) : parse (rowB d ps ++ t) = none := by
  have h1 := prs_flat ps t hp
  unfold rowB
  rw [List.cons_append, List.cons_append]
  unfold parse
  dsimp only
  split
  · rfl
  · rw [h1.2, if_neg (fun e => ht (Option.some.inj e))]
theorem parse_back {l : List Nat} (hb : B256 l) {d : Nat} {ps : List (List Nat)} (h : parse l = some (d, ps)) : rowB d ps = l ∧ ps.length ≤ 16 ∧ (∀ p ∈ ps, B256 p) ∧ d < 256 := by
  unfold parse at h
  split at h
  · rename_i d' m l'
    split at h
    · cases h
    · rename_i hm
      split at h
      · rename_i e
        simp only [Option.some.injEq, Prod.mk.injEq] at h
        obtain ⟨rfl, rfl⟩ := h
        have hb' : B256 l' := fun x hx => hb x (List.mem_cons_of_mem _ (List.mem_cons_of_mem _ hx))
        obtain ⟨h1, h2⟩ := prs_back m l' hb' [] e
        rw [List.append_nil] at h1
        unfold rowB
        rw [h2, ← h1]
        exact ⟨rfl, by omega, prs_256 m _ (T256.some hb'), hb _ List.mem_cons_self⟩
      · cases h
  · cases h
theorem flatP_part : ∀ (ps : List (List Nat)), ∀ p ∈ ps, p.length ≤ (flatP ps).length
  | q :: ps, p, hp => by
    rw [flatP, List.length_append, List.length_append]
    rcases List.mem_cons.1 hp with rfl | hp
    · omega
    · have := flatP_part ps p hp; omega
/-- One byte fewer is no row. -/
theorem parse_less (d : Nat) {ps : List (List Nat)} (hd : B256 (rowB d ps)) (h : ps.length ≤ 16) (hp : ∀ p ∈ ps, p.length < 4294967296) (hz : (rowB d ps).length < 4294967296) : parse ((rowB d ps).take ((rowB d ps).length - 1)) = none := by
  cases e : parse ((rowB d ps).take ((rowB d ps).length - 1)) with
  | none => rfl
  | some x =>
    obtain ⟨d', ps'⟩ := x
    obtain ⟨h1, h2, h3, h4⟩ := parse_back (hd.take _) e
    have hl : (rowB d ps).length ≠ 0 := by unfold rowB; simp
    have h5 : rowB d ps = rowB d' ps' ++ (rowB d ps).drop ((rowB d ps).length - 1) := by rw [h1, List.take_append_drop]
    have h6 : (rowB d ps).drop ((rowB d ps).length - 1) ≠ [] := fun e => by
      have := congrArg List.length e
      rw [List.length_drop, List.length_nil] at this
      omega
    have h7 : ∀ p ∈ ps', p.length < 4294967296 := fun p hp => by
      have h8 := flatP_part ps' p hp
      have h9 : (rowB d' ps').length ≤ (rowB d ps).length := by rw [h1, List.length_take]; omega
      unfold rowB at h9 hz
      simp only [List.length_cons] at h9 hz
      omega
    have h8 := parse_more d' h7 h6
    rw [← h5, parse_row d h hp] at h8
    cases h8
theorem rowB_inj {d d' : Nat} {ps ps' : List (List Nat)} (h : ps.length ≤ 16) (hp : ∀ p ∈ ps, p.length < 4294967296) (h' : ps'.length ≤ 16) (hp' : ∀ p ∈ ps', p.length < 4294967296) (e : rowB d ps = rowB d' ps') : d = d' ∧ ps = ps' := by
  have h1 := parse_row d h hp
  rw [e, parse_row d' h' hp'] at h1
  simp only [Option.some.injEq, Prod.mk.injEq] at h1
  exact ⟨h1.1.symm, h1.2.symm⟩
end BytM
end Go.Proofs.YtdfoehcdabmagaaDoor
