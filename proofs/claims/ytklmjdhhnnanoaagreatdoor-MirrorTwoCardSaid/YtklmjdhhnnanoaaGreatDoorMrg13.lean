/-
  Contracts of (sha.Prefix).Sum, sha.Sum, sha.Ahead over this translation.
  What the document's own words of SHA-256 reckon, against the plain numbers of ShaM: rotations by sums, bits one by one, the roots of the primes.
  Contracts of the document's bits, rotations and choices (casemateref03.bit, Cut, Rot, chosen, two) over this translation.
  Contracts of the document's roots (casemateref03.within, root) over this translation.
  Contracts of the document's primes and their roots (casemateref03.Primes, Roots) over this translation.
  append of so many zeros ('append(l, make([]byte, n)...)'), to a slice of the call's own that is full.
  Contracts of the document's tail and message's numbers (casemateref03.Tail, Message) over this translation.
  Contract of the document's message's numbers (casemateref03.Message) over this translation.
  Contract of the document's pass (casemateref03.Pass) over this translation.
-/
import Derived.Test.YtklmjdhhnnanoaaGreatDoorMrg12
import Derived.Laws.OwnMore
import Derived.Laws.BitsAllLaws
set_option linter.unusedVariables false
set_option linter.unusedSimpArgs false
set_option maxRecDepth 100000
namespace Go.Proofs.YtklmjdhhnnanoaaGreatDoor
open Go.ChangeShapes Go.WideShapes Go.ChangeAt Go.RowKit
attribute [local go_sem] Gives
section
variable {ops : Array Oper} {a : Act} {rest : List Oper} {dst : Option Tmp} {ty : TypeId} {pos : String} {after : Array Edge} {x : Operand} {g o : Nat} {f : Nat → Nat} {C : World → Prop} {Qk : Act → Prop} {gd : Option (Nat × Bool)}
theorem blnm (hwt : Region.wanted ⟨dst, .load 211 x, ty, pos, after, gd⟩ (yielded ops a.tmps) = true) (hx : a.eval x = .pointer (some ⟨g, o, none⟩)) (hb : ∀ w, C w → w.rangeAt g o (num8 f).toList) (h : wpB Tryz.prog ops C Qk rest (a.put dst (.agg (num8 f)))) :
    wpB Tryz.prog ops C Qk (⟨dst, .load 211 x, ty, pos, after, gd⟩ :: rest) a :=
  wpB_val hwt (fun w hw => gives_value (w' := w) (by
    have := run_loadAt_mid (P := Tryz.prog) w g o 211 (num8 f).toList _ (hb w hw) Tryz.underlying211 rfl (info_num8.trans (by rw [Array.length_toList, size_num8]))
    rw [Array.toArray_toList] at this
    simp only [execOp, hx, Sem.run_bind, this, Result.andThen_ok, Sem.run_pure]) ⟨hw, Below.refl _ _⟩) h
end
theorem alloc_num8 (w : World) : (Instr.alloc 211 true (.tuple #[])).run Tryz.prog w = .ok (.pointer (some ⟨w.heap.size, 0, none⟩)) (w.alloc (.cells (num8 fun _ => 0) 211)) := by
  have hz := (zero_of_info (P := Tryz.prog) (t := 211) (v := .agg (num8 fun _ => 0)) (n := 8) (by kernel_rfl)).1
  simp [Instr.alloc, Sem.run_bind, hz w, newVar, newRow, Value.cells]
theorem Byt.dropA {w : World} {B : Nat} {A : Option Addr} {l : List Nat} (h : Byt w B A l) (cap W : Nat) (hc : l.length ≤ cap) : Byt w B (if cap = W then A else Option.map (fun x => x.add W) A) (l.drop W) := fun hn => by
  have hn' := hn
  rw [List.length_drop] at hn
  obtain ⟨b, o, rfl, hl, hr⟩ := h (by omega)
  rw [if_neg (by omega)]
  have e : Option.map (fun x => Addr.add x W) (some ⟨b, o, Option.none⟩) = some ⟨b, o + W, Option.none⟩ := by rw [Option.map_some, Addr.add_mid]
  rw [e]
  exact Byt.drop (l := l) (fun _ => ⟨b, o, rfl, hl, hr⟩) W hn'
set_option maxHeartbeats 400000 in
set_option maxRecDepth 100000 in
theorem psum_ok (s : ShaM.S8) (hs : s.ok) (A : Option Addr) (l : List Nat) (n cap m : Nat) (hl : l.length = n) (hmm : m % 64 = 0) (hc : n ≤ cap) (hm : cap ≤ maxLen) (hz : m + n ≤ 1000000000000000) (hb : B256 l) (w : World) (hA : Byt w w.heap.size A l) (hS : Salts w) :
    Calls Tryz.prog 150 #[.agg (pre s.get m true), .slice A n cap] w fun e w' => e = .returned (.agg (tag (ShaM.digest (ShaM.ended s m l)))) ∧ Below w.heap.size w w' := by
  have HS := hid hs
  have HB := hid hb
  have HA := hid hA
  have SA := hid hS
  have HL := hid hl
  have HM := hid hm
  unfold maxLen at hm
  obtain ⟨W, hW⟩ : ∃ W, W = n - n % 64 := ⟨_, rfl⟩
  have e5 : (n : Int) - (n : Int) % 64 = (W : Int) := by omega
  have e5' : IntKind.i64.wrap ((n : Int) - (n : Int) % 64) = (W : Int) := wr_nat e5 (by omega)
  have e1 : IntKind.i64.wrap ((m : Int) + (n : Int)) = ((m + n : Nat) : Int) := wr_nat (by omega) (by omega)
  have hWn : W ≤ n := by omega
  have hWc : (W : Int) ≤ (cap : Int) := by omega
  have E1 := hid e1
  have HW := hid hW
  clear hs hb hA hS hl e1 hW
  go_enter Tryz.func150, Tryz.ntmps150
  go_upto_region 1 with fail
  generalize hw3 : World.alloc (World.alloc w _) _ = w3
  have b1 : Blk w3 w.heap.size 213 (pre s.get m true) := by rw [← hw3]; exact (Blk.top rfl rfl).alloc _
  have b2 : Blk w3 (w.heap.size + 1) 81 (tag fun _ => 0) := by rw [← hw3]; exact Blk.top zlit_tag (by simp)
  have hb : Below w.heap.size w w3 := by rw [← hw3]; exact ((Below.refl _ _).alloc (Nat.le_refl _) _).alloc (by simp) _
  clear hw3
  have c9 := b1.pre9
  go_upto_region 4 with fail
  have B1 := hid b1
  have B2 := hid b2
  have BEL := hid hb
  clear b1 b2 hb c9
  refine wp_region_new1 (C := fun w' => Below w3.heap.size w3 w') 6 211 (num8 fun _ => 0) 6 rfl (by kernel_rfl) (by kernel_rfl) (by kernel_rfl) alloc_num8 (Below.refl _ _).drew (fun w' hw' => hw'.alloc hw'.size _) (fun w' hw' => hw'.size) ?_
  simp only [List.take_succ_cons, List.take_zero, List.drop_succ_cons, List.drop_zero]
  apply wpB_val
  · rfl
  · intro w' hw'
    have hbl := Below.refl w'.heap.size w'
    go_simp
    first | exact rfl | exact ⟨rfl, hbl⟩ | exact ⟨rfl, hw', hbl⟩
  simp only [Act.put, sqA, sqB, sqC]
  apply blnm
  · rfl
  · rfl
  · exact fun w' hw' => (B1.out.below hw' B1.out.lt).pre0
  simp only [Act.put, sqA, sqB, sqC]
  apply wpB_val
  · rfl
  · intro w' hw'
    have hbl := Below.refl w'.heap.size w'
    go_simp
    first | exact rfl | exact ⟨rfl, hbl⟩ | exact ⟨rfl, hw', hbl⟩
  simp only [Act.put, sqA, sqB, sqC]
  apply wpB_val
  · rfl
  · intro w' hw'
    have hbl := Below.refl w'.heap.size w'
    go_simp
    first | exact rfl | exact ⟨rfl, hbl⟩ | exact ⟨rfl, hw', hbl⟩
  simp only [Act.put, sqA, sqB, sqC]
  apply wpB_val
  · rfl
  · intro w' hw'
    have hbl := Below.refl w'.heap.size w'
    go_simp
    first | exact rfl | exact ⟨rfl, hbl⟩ | exact ⟨rfl, hw', hbl⟩
  simp only [Act.put, sqA, sqB, sqC]
  apply wpB_val
  · rfl
  · intro w' hw'
    go_simp
    exact (passes_any s HS.out A (l.take W) W cap (by rw [List.length_take, HL.out]; omega) (by omega) HM.out (HB.out.take W) _ (((HA.out.take W).below (BEL.out.trans (hw'.mono BEL.out.size)) (Nat.le_refl _)).more (Nat.le_trans BEL.out.size hw'.size)) (SA.out.on (BEL.out.trans (hw'.mono BEL.out.size)))).mono fun e w'' ⟨he, hb''⟩ => ⟨he, hw'.trans (hb''.mono hw'.size), hb''⟩
  simp only [Act.put, sqA, sqB, sqC]
  refine wpB_nil fun g6 w4 hw4 q6 hg6 => ?_
  have b1 := B1.out.below hw4 B1.out.lt
  have b2 := B2.out.below hw4 B2.out.lt
  have bel := BEL.out.trans (hw4.mono BEL.out.size)
  have hz2 : w.heap.size + 1 < w3.heap.size := B2.out.lt
  clear hw4 B1 B2 BEL
  have B1 := hid b1
  have B2 := hid b2
  have BEL := hid bel
  clear b1 b2 bel
  unfold ptr
  go_upto_region 5 with ((with_reducible apply stn); rfl; rfl; exact q6)
  generalize hw5 : World.setRow _ _ _ = w5
  have c6 : Blk w5 g6 211 (num8 (ShaM.passes s (l.take W)).get) := by rw [← hw5]; exact q6.setRow_same _
  have c1 : Blk w5 w.heap.size 213 (pre s.get m true) := by rw [← hw5]; exact B1.out.setRow_other (by omega) _
  have c2 : Blk w5 (w.heap.size + 1) 81 (tag fun _ => 0) := by rw [← hw5]; exact B2.out.setRow_other (by omega) _
  have cb : Below w.heap.size w w5 := by rw [← hw5]; exact below_setRow BEL.out (by omega) _
  clear hw5 q6 B1 B2 BEL w4
  have C1 := hid c1
  have C2 := hid c2
  have C6 := hid c6
  have CB := hid cb
  clear c1 c2 c6 cb
  refine wp_region_tail (C := fun w' => Below w5.heap.size w5 w') 11 (by kernel_rfl) (by kernel_rfl) (by kernel_rfl) (Below.refl _ _).drew ?_
  simp only [List.take_succ_cons, List.take_zero, List.drop_succ_cons, List.drop_zero]
  apply kln
  · rfl
  · rfl
  · exact fun w' hw' => C6.out.below hw' C6.out.lt
  simp only [Act.put, sqA, sqB, sqC]
  apply wpK_val
  · rfl
  · intro w' hw'
    go_simp
    first | exact rfl | exact ⟨rfl, hw'⟩
  simp only [Act.put, sqA, sqB, sqC]
  apply wpK_val
  · rfl
  · intro w' hw'
    go_simp
    first | exact rfl | exact ⟨rfl, hw'⟩
  simp only [Act.put, sqA, sqB, sqC]
  apply wpK_val
  · rfl
  · intro w' hw'
    go_simp
    first | exact rfl | exact ⟨rfl, hw'⟩
  simp only [Act.put, sqA, sqB, sqC]
  apply wpK_val
  · rfl
  · intro w' hw'
    go_simp
    first | exact rfl | exact ⟨rfl, hw'⟩
  simp only [Act.put, sqA, sqB, sqC]
  apply wpK_val
  · rfl
  · intro w' hw'
    have hcell := (C1.out.below hw' C1.out.lt).pre8
    go_simp
    first | exact rfl | exact ⟨rfl, hw'⟩
  simp only [Act.put, sqA, sqB, sqC]
  apply wpK_val
  · rfl
  · intro w' hw'
    go_simp
    first | exact rfl | exact ⟨rfl, hw'⟩
  simp only [Act.put, sqA, sqB, sqC]
  apply wpK_val
  · rfl
  · intro w' hw'
    go_simp
    first | exact rfl | exact ⟨rfl, hw'⟩
  simp only [Act.put, sqA, sqB, sqC]
  apply wpK_val
  · rfl
  · intro w' hw'
    have h1 : _ := E1.out
    go_simp
    first | exact rfl | exact ⟨rfl, hw'⟩
  simp only [Act.put, sqA, sqB, sqC]
  apply wpK_val
  · rfl
  · intro w' hw'
    go_simp
    exact (finish_any (ShaM.passes s (l.take W)) (ShaM.passes_ok _ (Nat.le_refl _) HS.out) _ (l.drop W) (n - W) (cap - W) (m + n) (by rw [List.length_drop, HL.out]) (by have := HW.out; omega) (by have := HW.out; omega) hz (HB.out.drop W) _ ((HA.out.dropA cap W (by rw [HL.out]; exact hc)).below (CB.out.trans (hw'.mono CB.out.size)) (Nat.le_refl _) |>.more (Nat.le_trans CB.out.size hw'.size)) (SA.out.on (CB.out.trans (hw'.mono CB.out.size)))).mono fun e w'' ⟨he, hb''⟩ => ⟨he, hw'.trans (hb''.mono hw'.size)⟩
  simp only [Act.put, sqA, sqB, sqC]
  apply wpK_val
  · rfl
  · intro w' hw'
    go_simp
    exact (digest_any _ (ShaM.passes_ok _ (Nat.le_refl _) (ShaM.passes_ok _ (Nat.le_refl _) HS.out)) _).mono fun e w'' ⟨he, hb''⟩ => ⟨he, hw'.trans (hb''.mono hw'.size)⟩
  simp only [Act.put, sqA, sqB, sqC]
  refine wpK_nil fun w4 hw4 => ?_
  have c2 := C2.out.below hw4 C2.out.lt
  have cb := CB.out.trans (hw4.mono CB.out.size)
  have hmath : ShaM.passes (ShaM.passes s (l.take W)) (l.drop W ++ ShaM.tail (m + n)) = ShaM.ended s m l := by
    unfold ShaM.ended
    rw [HL.out, ← ShaM.passes_append (n / 64) (by rw [List.length_take, HL.out]; have := HW.out; omega), ← List.append_assoc, List.take_append_drop]
  rw [hmath]
  clear hmath
  go_wp2_with ((with_reducible apply stt); rfl; rfl; exact c2)
  all_goals
    apply ret_row Tryz.results150
    · exact c2.setRow_same _
    · exact Tryz.underlying81
    · rfl
    · exact (info_tag.trans (by rw [size_tag]))
    · rfl
    · rfl
    exact ⟨rfl, below_setRow cb (by omega) _⟩
set_option maxHeartbeats 400000 in
set_option maxRecDepth 100000 in
theorem sum_any (A : Option Addr) (l : List Nat) (n cap : Nat) (hl : l.length = n) (hc : n ≤ cap) (hm : cap ≤ maxLen) (hz : n ≤ 1000000000000000) (hb : B256 l) (w : World) (hA : Byt w w.heap.size A l) (hS : Salts w) :
    Calls Tryz.prog 167 #[.slice A n cap] w fun e w' => e = .returned (.agg (tag (ShaM.sum l))) ∧ Below w.heap.size w w' := by
  have HB := hid hb
  have HA := hid hA
  have SA := hid hS
  have HL := hid hl
  clear hb hA hS hl
  go_enter Tryz.func167, Tryz.ntmps167
  go_wp2_with fail
  generalize hw3 : World.alloc w _ = w3
  have b2 : Blk w3 w.heap.size 81 (tag fun _ => 0) := by rw [← hw3]; exact Blk.top zlit_tag rfl
  have hb : Below w.heap.size w w3 := by rw [← hw3]; exact (Below.refl _ _).alloc (Nat.le_refl _) _
  clear hw3
  refine (start_any w3).mono ?_
  rintro e w4 ⟨rfl, hb'⟩
  have b2' := b2.below hb' b2.lt
  have hb4 := hb.trans (hb'.mono hb.size)
  clear hb' b2 hb w3
  have B2 := hid b2'
  have BEL := hid hb4
  clear b2' hb4
  go_wp2_with fail
  refine (psum_ok ShaM.seeds ShaM.seeds_ok A l n cap 0 HL.out rfl hc hm (by omega) HB.out w4 ((HA.out.below BEL.out (Nat.le_refl _)).more BEL.out.size) (SA.out.on BEL.out)).mono ?_
  rintro e w5 ⟨rfl, hb'⟩
  have b2 := B2.out.below hb' B2.out.lt
  have hb := BEL.out.trans (hb'.mono BEL.out.size)
  clear hb'
  go_wp2_with ((with_reducible apply stt); rfl; rfl; exact b2)
  apply ret_row Tryz.results167
  · exact b2.setRow_same _
  · exact Tryz.underlying81
  · rfl
  · exact (info_tag.trans (by rw [size_tag]))
  · rfl
  · rfl
  exact ⟨rfl, below_setRow hb (Nat.le_refl _) _⟩
end Go.Proofs.YtklmjdhhnnanoaaGreatDoor
set_option maxRecDepth 100000
namespace Go.Proofs.YtklmjdhhnnanoaaGreatDoor.ShaM
theorem rr_sum {x n : Nat} (hx : x < 4294967296) (hn : n ≤ 32) : rr x n = x / 2 ^ n + x % 2 ^ n * 2 ^ (32 - n) := by
  unfold rr
  have h32 : (4294967296 : Nat) = 2 ^ n * 2 ^ (32 - n) := by rw [← Nat.pow_add, show n + (32 - n) = 32 by omega]
  have hlt : x / 2 ^ n < 2 ^ (32 - n) := by
    rw [Nat.div_lt_iff_lt_mul (Nat.two_pow_pos n), Nat.mul_comm, ← h32]; exact hx
  rw [h32, Nat.mul_mod_mul_right]
  have h := Nat.shiftLeft_add_eq_or_of_lt hlt (x % 2 ^ n)
  rw [Nat.shiftLeft_eq] at h
  rw [← h, Nat.add_comm]
theorem rot_low_lt {x n : Nat} (hn : n ≤ 32) : x % 2 ^ n * 2 ^ (32 - n) < 4294967296 := by
  have h32 : (4294967296 : Nat) = 2 ^ n * 2 ^ (32 - n) := by rw [← Nat.pow_add, show n + (32 - n) = 32 by omega]
  rw [h32]
  exact Nat.mul_lt_mul_of_pos_right (Nat.mod_lt _ (Nat.two_pow_pos n)) (Nat.two_pow_pos _)
def bitN (x i : Nat) : Nat := x / 2 ^ i % 2
def chN (e f g : Nat) : Nat := (e &&& f) ^^^ (not32 e &&& g)
def twN (a b c : Nat) : Nat := (a &&& b) ^^^ (a &&& c) ^^^ (b &&& c)
def mark (out : List Nat) (k : Nat) : Bool := out.any fun p => decide (p ≤ k) && k % p == 0
def sieve (many : Nat) : Nat → Nat → List Nat → List Nat
  | 0, _, out => out
  | fuel + 1, n, out => if n < 400 ∧ out.length < many then (if mark out n then sieve many fuel (n + 1) out else sieve many fuel (n + 1) (out ++ [n])) else out
def primesN (many : Nat) : List Nat := sieve many 400 2 []
def hi64 (x y : Nat) : Nat := x * y / 18446744073709551616
def lo64 (x y : Nat) : Nat := x * y % 18446744073709551616
def w64 (x : Nat) : Nat := x % 18446744073709551616
def withinN (x p : Nat) (cube : Bool) : Bool :=
  if cube then
    (let high := w64 (w64 (hi64 x x * x) + hi64 (lo64 x x) x)
     let low := lo64 (lo64 x x) x
     let limit := w64 (p * 4294967296)
     decide (high < limit) || (high == limit && low == 0))
  else decide (hi64 x x < p) || (hi64 x x == p && lo64 x x == 0)
def rootN (p : Nat) (cube : Bool) : Nat → Nat → Nat
  | 0, x => x
  | i + 1, x => rootN p cube i (if withinN (w64 (x + 2 ^ i)) p cube then w64 (x + 2 ^ i) else x)
def rootsN (many : Nat) (cube : Bool) : List Nat := (primesN many).map fun p => rootN p cube 38 0 % 4294967296
end Go.Proofs.YtklmjdhhnnanoaaGreatDoor.ShaM
set_option maxRecDepth 100000
namespace Go.Proofs.YtklmjdhhnnanoaaGreatDoor
open Go.ChangeShapes Go.WideShapes Go.ChangeAt Go.RowKit
theorem rcut_any (x n : Nat) (hx : x < 4294967296) (hn : n < 32) (w : World) :
    Calls Tryz.prog 174 #[.int .u32 x, .int .i64 n] w fun e w' => e = .returned (.int .u32 (x / 2 ^ n : Nat)) ∧ w = w' := by
  obtain ⟨P, hP⟩ : ∃ P : Nat, P = 2 ^ n := ⟨_, rfl⟩
  have h1 : P < 4294967296 := by have h := Nat.pow_lt_pow_right (a := 2) (by decide) hn; omega
  have h2 : ¬ P = 0 := by rw [hP]; exact Nat.ne_of_gt (Nat.two_pow_pos n)
  have e0 : (2 : Int) ^ n = (P : Int) := by rw [hP]; simp
  have e : (2 : Int) ^ n % 4294967296 = (P : Int) := by rw [e0]; omega
  clear e0
  have hq : x / P < 4294967296 := Nat.lt_of_le_of_lt (Nat.div_le_self _ _) hx
  obtain ⟨q, hqq⟩ : ∃ q, q = x / P := ⟨_, rfl⟩
  have e2 : (x : Int) / (P : Int) % 4294967296 = (q : Int) := by
    rw [show (x : Int) / (P : Int) = ((x / P : Nat) : Int) by simp, ← hqq]; omega
  rw [← hP, ← hqq]
  have HP := hid hP
  have HQ := hid hqq
  clear hP hqq hq
  go_enter Tryz.func174, Tryz.ntmps174
  go_wp2
  go_ret
  exact ⟨ret_int e2, rfl⟩
theorem rrot_any (x n : Nat) (hx : x < 4294967296) (h0 : 0 < n) (hn : n < 32) (w : World) :
    Calls Tryz.prog 155 #[.int .u32 x, .int .i64 n] w fun e w' => e = .returned (.int .u32 (ShaM.rr x n : Nat)) ∧ w = w' := by
  obtain ⟨P, hP⟩ : ∃ P : Nat, P = 2 ^ n := ⟨_, rfl⟩
  obtain ⟨R, hR⟩ : ∃ R : Nat, R = ShaM.rr x n := ⟨_, rfl⟩
  have h1 : P < 4294967296 := by have h := Nat.pow_lt_pow_right (a := 2) (by decide) hn; omega
  have h2 : ¬ P = 0 := by rw [hP]; exact Nat.ne_of_gt (Nat.two_pow_pos n)
  have e0 : (2 : Int) ^ n = (P : Int) := by rw [hP]; simp
  have e : (2 : Int) ^ n % 4294967296 = (P : Int) := by rw [e0]; omega
  clear e0
  have hs := ShaM.rr_sum hx (Nat.le_of_lt hn)
  have hl := ShaM.rot_low_lt (x := x) (Nat.le_of_lt hn)
  have hr := ShaM.rr_lt hx n
  rw [← hP] at hs hl
  rw [← hR] at hs hr ⊢
  have HP := hid hP
  have HR := hid hR
  have HS := hid hs
  have HL := hid hl
  clear hP hR hs hl
  go_enter Tryz.func155, Tryz.ntmps155
  go_wp2
  go_ret
  refine ⟨ret_int ?_, rfl⟩
  have hs := HS.out
  have hl := HL.out
  have e0 : (2 : Int) ^ n = (P : Int) := by rw [HP.out]; simp
  have e3 : (x : Int) % (P : Int) * 2 ^ (32 - n) = ((x % P * 2 ^ (32 - n) : Nat) : Int) := by simp
  have e4 : (x : Int) / (P : Int) = ((x / P : Nat) : Int) := by simp
  rw [e3, e0, e4]
  generalize x % P * 2 ^ (32 - n) = y at *
  generalize x / P = z at *
  omega
end Go.Proofs.YtklmjdhhnnanoaaGreatDoor
set_option maxRecDepth 100000
namespace Go.Proofs.YtklmjdhhnnanoaaGreatDoor
open Go.ChangeShapes Go.WideShapes Go.ChangeAt Go.RowKit
def tellN (high low limit : Nat) : Bool := decide (high < limit) || (high == limit && low == 0)
end Go.Proofs.YtklmjdhhnnanoaaGreatDoor
set_option maxRecDepth 100000
namespace Go.Proofs.YtklmjdhhnnanoaaGreatDoor
open Go.ChangeShapes Go.WideShapes Go.ChangeAt Go.RowKit
attribute [local go_sem] Gives
theorem elt32 : Elt 221 196 .u32 := elt_of Tryz.underlying221 (by kernel_rfl) (by kernel_rfl) (by kernel_rfl)
def bls (n : Nat) (f : Nat → Bool) : Array Value := row n fun j => .bool (f j)
def markTo (out : List Nat) (n k j : Nat) : Bool := ShaM.mark out j || (decide (n ≤ j) && j % n == 0 && decide (j < k))
def Fresh (k : IntKind) (w w' : World) (e : Ending) (l : List Nat) : Prop := ∃ A cap, e = .returned (.slice A l.length cap) ∧ l.length ≤ cap ∧ cap ≤ maxLen ∧ Nums k w' w'.heap.size A l ∧ Below w.heap.size w w'
theorem Own.fresh {e : TypeId} {k : IntKind} {w0 w : World} {B : Nat} {v : Value} {l : List Nat} (h : Own e k w B v l) (hb : Below w0.heap.size w0 w) : Fresh k w0 w (.returned v) l := by
  obtain ⟨A, cap, rfl, h1, h2, h3⟩ := h.any
  exact ⟨A, cap, rfl, h1, h2, h3, hb⟩
end Go.Proofs.YtklmjdhhnnanoaaGreatDoor
set_option maxRecDepth 100000
namespace Go.Proofs.YtklmjdhhnnanoaaGreatDoor
open Go.ChangeShapes Go.WideShapes Go.ChangeAt Go.RowKit
theorem Own.lit {e : TypeId} {k : IntKind} (w : World) {B x : Nat} {v : Value} (h : v = .int k (x : Nat)) (hB : B ≤ w.heap.size) : Own e k (w.alloc (.cells #[v] e)) B (.slice (some ⟨w.heap.size, 0, none⟩) 1 1) [x] := by
  subst h
  exact ⟨rfl, .inr ⟨w.heap.size, 1, #[.int k (x : Nat)], rfl, hB, heap_alloc_new w _, Nat.le_refl _, by unfold maxLen; omega, rfl, rfl⟩⟩
end Go.Proofs.YtklmjdhhnnanoaaGreatDoor
set_option maxRecDepth 100000
namespace Go.Proofs.YtklmjdhhnnanoaaGreatDoor
open Go.ChangeShapes Go.WideShapes Go.ChangeAt Go.RowKit
attribute [local go_sem] Gives
end Go.Proofs.YtklmjdhhnnanoaaGreatDoor
set_option maxRecDepth 100000
namespace Go.Proofs.YtklmjdhhnnanoaaGreatDoor
open Go.ChangeShapes Go.WideShapes Go.ChangeAt Go.RowKit
attribute [local go_sem] Gives
theorem add_wrap (a b : Nat) : IntKind.u32.wrap ((a : Int) + (b : Int)) = ((ShaM.add a b : Nat) : Int) := by
  rw [IntKind.wrap_u32]; unfold ShaM.add; simp
theorem xor3 {a b : Nat} (ha : a < 4294967296) (hb : b < 4294967296) : bits .xor .u32 (a : Int) (b : Int) = ((a ^^^ b : Nat) : Int) := u32_xor_nat _ _ ha hb
theorem word_sum (b : Nat → Nat) (i : Nat) : ShaM.word b i = b (4 * i) * 16777216 + b (4 * i + 1) * 65536 + b (4 * i + 2) * 256 + b (4 * i + 3) := by
  unfold ShaM.word; omega
theorem first_take (b : Nat → Nat) {i : Nat} (h : i < 16) : (ShaM.first b).take (i + 1) = (ShaM.first b).take i ++ [ShaM.word b i] := by
  have hl : i < (ShaM.first b).length := by rw [ShaM.first_length]; exact h
  rw [List.take_succ_eq_append_getElem hl, ← nums_at hl, ShaM.first_get b h]
theorem ext_take (b : Nat → Nat) (k : Nat) : ShaM.ext (k + 1) (ShaM.first b) = ShaM.ext k (ShaM.first b) ++ [ShaM.next (ShaM.ext k (ShaM.first b)) (16 + k)] := by
  rw [ShaM.ext_succ, ShaM.ext_length, ShaM.first_length]
theorem nums_one' {k : IntKind} {w : World} {t : TypeId} {n x : Nat} {v : Value} (h : v = .int k (x : Nat)) {B : Nat} (hn : n = w.heap.size) (hB : w.heap.size < B) : Nums k (w.alloc (.cells #[v] t)) B (some ⟨n, 0, none⟩) [x] := by
  subst hn; exact nums_one h hB
theorem rcut3 (x : Nat) (hx : x < 4294967296) (w : World) :
    Calls Tryz.prog 174 #[.int .u32 x, .int .i64 3] w fun e w' => e = .returned (.int .u32 (x / 8 : Nat)) ∧ w = w' := rcut_any x 3 hx (by omega) w
theorem rcut10 (x : Nat) (hx : x < 4294967296) (w : World) :
    Calls Tryz.prog 174 #[.int .u32 x, .int .i64 10] w fun e w' => e = .returned (.int .u32 (x / 1024 : Nat)) ∧ w = w' := rcut_any x 10 hx (by omega) w
set_option maxHeartbeats 1000000 in
set_option maxRecDepth 100000 in
theorem message_any (A : Option Addr) (l : List Nat) (cap : Nat) (hl : l.length = 64) (h256 : ∀ k, ShaM.at' l k < 256) (w : World) (hA : Byt w w.heap.size A l) :
    Calls Tryz.prog 154 #[.slice A 64 cap] w fun e w' => Fresh .u32 w w' e (ShaM.sched (ShaM.at' l)) := by
  obtain ⟨b, o, rfl, hB, hr⟩ := hA (by omega)
  rw [hl] at hr
  have HR := hid hr
  have HB := hid h256
  clear hA hr h256
  go_enter Tryz.func154, Tryz.ntmps154
  go_wp2_with fail
  go_loopw [3, 4] (fun u v wr => ∃ (i : Nat) (vs : Value), i ≤ 16 ∧ v = .int .i64 i ∧ u = vs ∧ Hid (Own 196 .u32 wr w.heap.size vs ((ShaM.first (ShaM.at' l)).take i)) ∧ Hid (Below w.heap.size w wr)) (fun _ v _ => 16 - (intOf v).toNat)
  case atStart => exact ⟨0, _, by omega, rfl, rfl, hid Own.nil, hid (Below.refl _ _)⟩
  case round =>
    obtain ⟨i, vs, hi, rfl, rfl, ho, hb⟩ := hrel
    have hsz := hb.out.size
    by_cases hlt : i < 16
    · have ti : (i : Int) < 16 := by omega
      obtain ⟨c0, hc0⟩ : ∃ c, c = 4 * i := ⟨_, rfl⟩
      obtain ⟨c1, hc1⟩ : ∃ c, c = 4 * i + 1 := ⟨_, rfl⟩
      obtain ⟨c2, hc2⟩ : ∃ c, c = 4 * i + 2 := ⟨_, rfl⟩
      obtain ⟨c3, hc3⟩ : ∃ c, c = 4 * i + 3 := ⟨_, rfl⟩
      have E0 := hid (show IntKind.i64.wrap (4 * (i : Int)) = (c0 : Int) from wr_nat (by omega) (by omega))
      have E1 := hid (show IntKind.i64.wrap ((c0 : Int) + 1) = (c1 : Int) from wr_nat (by omega) (by omega))
      have E2 := hid (show IntKind.i64.wrap ((c0 : Int) + 2) = (c2 : Int) from wr_nat (by omega) (by omega))
      have E3 := hid (show IntKind.i64.wrap ((c0 : Int) + 3) = (c3 : Int) from wr_nat (by omega) (by omega))
      have t0 : (c0 : Int) < 64 := by omega
      have t1 : (c1 : Int) < 64 := by omega
      have t2 : (c2 : Int) < 64 := by omega
      have t3 : (c3 : Int) < 64 := by omega
      have cell : ∀ c, c < 64 → wr.cell? ⟨b, o + c, none⟩ = some (.int .u8 (ShaM.at' l c : Nat)) := fun c hc => (hb.out.cell (p := ⟨b, o + c, none⟩) hB).trans (HR.out c hc)
      have Q0 := hid (cell c0 (by omega))
      have Q1 := hid (cell c1 (by omega))
      have Q2 := hid (cell c2 (by omega))
      have Q3 := hid (cell c3 (by omega))
      have l0 := HB.out c0
      have l1 := HB.out c1
      have l2 := HB.out c2
      have l3 := HB.out c3
      have hw := word_sum (ShaM.at' l) i
      rw [← hc1, ← hc2, ← hc3, ← hc0] at hw
      generalize ShaM.at' l c0 = b0 at *
      generalize ShaM.at' l c1 = b1 at *
      generalize ShaM.at' l c2 = b2 at *
      generalize ShaM.at' l c3 = b3 at *
      have HFT := hid (first_take (ShaM.at' l) hlt)
      obtain ⟨W, hW⟩ : ∃ W, W = ShaM.word (ShaM.at' l) i := ⟨_, rfl⟩
      rw [← hW] at HFT hw
      have HW := hid hw
      clear hW
      clear hc0 hc1 hc2 hc3 cell hw
      go_wp2_with fail
      refine wp_region_tail (C := Drew wr) 33 (by kernel_rfl) (by kernel_rfl) (by kernel_rfl) (Drew.refl _) ?_
      simp only [List.take_succ_cons, List.take_zero, List.drop_succ_cons, List.drop_zero]
      apply wpK_val
      · rfl
      · intro w' hw'
        go_simp
        first | exact rfl | exact ⟨rfl, hw'⟩
      simp only [Act.put, sqA, sqB, sqC]
      apply wpK_val
      · rfl
      · intro w' hw'
        go_simp
        first | exact rfl | exact ⟨rfl, hw'⟩
      simp only [Act.put, sqA, sqB, sqC]
      apply wpK_val
      · rfl
      · intro w' hw'
        have h1 : _ := E0.out
        go_simp
        first | exact rfl | exact ⟨rfl, hw'⟩
      simp only [Act.put, sqA, sqB, sqC]
      apply wpK_val
      · rfl
      · intro w' hw'
        go_simp
        first | exact rfl | exact ⟨rfl, hw'⟩
      simp only [Act.put, sqA, sqB, sqC]
      apply wpK_val
      · rfl
      · intro w' hw'
        have hcell := hw'.cell Q0.out
        go_simp
        first | exact rfl | exact ⟨rfl, hw'⟩
      simp only [Act.put, sqA, sqB, sqC]
      apply wpK_val
      · rfl
      · intro w' hw'
        go_simp
        first | exact rfl | exact ⟨rfl, hw'⟩
      simp only [Act.put, sqA, sqB, sqC]
      apply wpK_val
      · rfl
      · intro w' hw'
        go_simp
        first | exact rfl | exact ⟨rfl, hw'⟩
      simp only [Act.put, sqA, sqB, sqC]
      apply wpK_val
      · rfl
      · intro w' hw'
        go_simp
        first | exact rfl | exact ⟨rfl, hw'⟩
      simp only [Act.put, sqA, sqB, sqC]
      apply wpK_val
      · rfl
      · intro w' hw'
        go_simp
        first | exact rfl | exact ⟨rfl, hw'⟩
      simp only [Act.put, sqA, sqB, sqC]
      apply wpK_val
      · rfl
      · intro w' hw'
        have h1 : _ := E0.out
        go_simp
        first | exact rfl | exact ⟨rfl, hw'⟩
      simp only [Act.put, sqA, sqB, sqC]
      apply wpK_val
      · rfl
      · intro w' hw'
        have h1 : _ := E1.out
        go_simp
        first | exact rfl | exact ⟨rfl, hw'⟩
      simp only [Act.put, sqA, sqB, sqC]
      apply wpK_val
      · rfl
      · intro w' hw'
        go_simp
        first | exact rfl | exact ⟨rfl, hw'⟩
      simp only [Act.put, sqA, sqB, sqC]
      apply wpK_val
      · rfl
      · intro w' hw'
        have hcell := hw'.cell Q1.out
        go_simp
        first | exact rfl | exact ⟨rfl, hw'⟩
      simp only [Act.put, sqA, sqB, sqC]
      apply wpK_val
      · rfl
      · intro w' hw'
        go_simp
        first | exact rfl | exact ⟨rfl, hw'⟩
      simp only [Act.put, sqA, sqB, sqC]
      apply wpK_val
      · rfl
      · intro w' hw'
        go_simp
        first | exact rfl | exact ⟨rfl, hw'⟩
      simp only [Act.put, sqA, sqB, sqC]
      apply wpK_val
      · rfl
      · intro w' hw'
        go_simp
        first | exact rfl | exact ⟨rfl, hw'⟩
      simp only [Act.put, sqA, sqB, sqC]
      apply wpK_val
      · rfl
      · intro w' hw'
        go_simp
        first | exact rfl | exact ⟨rfl, hw'⟩
      simp only [Act.put, sqA, sqB, sqC]
      apply wpK_val
      · rfl
      · intro w' hw'
        go_simp
        first | exact rfl | exact ⟨rfl, hw'⟩
      simp only [Act.put, sqA, sqB, sqC]
      apply wpK_val
      · rfl
      · intro w' hw'
        have h1 : _ := E0.out
        go_simp
        first | exact rfl | exact ⟨rfl, hw'⟩
      simp only [Act.put, sqA, sqB, sqC]
      apply wpK_val
      · rfl
      · intro w' hw'
        have h1 : _ := E2.out
        go_simp
        first | exact rfl | exact ⟨rfl, hw'⟩
      simp only [Act.put, sqA, sqB, sqC]
      apply wpK_val
      · rfl
      · intro w' hw'
        go_simp
        first | exact rfl | exact ⟨rfl, hw'⟩
      simp only [Act.put, sqA, sqB, sqC]
      apply wpK_val
      · rfl
      · intro w' hw'
        have hcell := hw'.cell Q2.out
        go_simp
        first | exact rfl | exact ⟨rfl, hw'⟩
      simp only [Act.put, sqA, sqB, sqC]
      apply wpK_val
      · rfl
      · intro w' hw'
        go_simp
        first | exact rfl | exact ⟨rfl, hw'⟩
      simp only [Act.put, sqA, sqB, sqC]
      apply wpK_val
      · rfl
      · intro w' hw'
        go_simp
        first | exact rfl | exact ⟨rfl, hw'⟩
      simp only [Act.put, sqA, sqB, sqC]
      apply wpK_val
      · rfl
      · intro w' hw'
        go_simp
        first | exact rfl | exact ⟨rfl, hw'⟩
      simp only [Act.put, sqA, sqB, sqC]
      apply wpK_val
      · rfl
      · intro w' hw'
        go_simp
        first | exact rfl | exact ⟨rfl, hw'⟩
      simp only [Act.put, sqA, sqB, sqC]
      apply wpK_val
      · rfl
      · intro w' hw'
        go_simp
        first | exact rfl | exact ⟨rfl, hw'⟩
      simp only [Act.put, sqA, sqB, sqC]
      apply wpK_val
      · rfl
      · intro w' hw'
        have h1 : _ := E0.out
        go_simp
        first | exact rfl | exact ⟨rfl, hw'⟩
      simp only [Act.put, sqA, sqB, sqC]
      apply wpK_val
      · rfl
      · intro w' hw'
        have h1 : _ := E3.out
        go_simp
        first | exact rfl | exact ⟨rfl, hw'⟩
      simp only [Act.put, sqA, sqB, sqC]
      apply wpK_val
      · rfl
      · intro w' hw'
        go_simp
        first | exact rfl | exact ⟨rfl, hw'⟩
      simp only [Act.put, sqA, sqB, sqC]
      apply wpK_val
      · rfl
      · intro w' hw'
        have hcell := hw'.cell Q3.out
        go_simp
        first | exact rfl | exact ⟨rfl, hw'⟩
      simp only [Act.put, sqA, sqB, sqC]
      apply wpK_val
      · rfl
      · intro w' hw'
        go_simp
        first | exact rfl | exact ⟨rfl, hw'⟩
      simp only [Act.put, sqA, sqB, sqC]
      apply wpK_val
      · rfl
      · intro w' hw'
        go_simp
        first | exact rfl | exact ⟨rfl, hw'⟩
      simp only [Act.put, sqA, sqB, sqC]
      refine wpK_nil fun w5 hw5 => ?_
      have o5 := hid (ho.out.heap hw5.heap)
      have b5 := hid (hw5.below hb.out)
      have hsz5 := b5.out.size
      have hlen : ((ShaM.first (ShaM.at' l)).take i).length = i := by rw [List.length_take, ShaM.first_length]; omega
      have HLEN := hid hlen
      clear hw5 hlen Q0 Q1 Q2 Q3
      go_wp2_with (at_builtin; (with_reducible apply wappN elt32); rfl; rfl; exact o5.out.alloc _; exact nums_one (x := W) (B := w5.heap.size + 1) (congrArg (Value.int .u32) (by have := HW.out; omega)) (Nat.lt_succ_self _); rfl; (rw [HLEN.out]; omega); (simp; omega); intro v' w6 o6 g6)
      have b6 := below_grown (b5.out.alloc hsz5 _) g6 o5.out (Nat.le_refl _) (Nat.le_refl _)
      go_roundw
      case rel => exact ⟨i + 1, v', by omega, by go_num, rfl, hid (by rw [HFT.out]; exact o6), hid b6⟩
      case measure => simp [intOf] <;> omega
    · obtain rfl : i = 16 := by omega
      have ho16 := ho.out
      rw [List.take_of_length_le (by rw [ShaM.first_length]; omega)] at ho16
      have O16 := hid ho16
      clear ho16 ho
      obtain ⟨A2, c2, e2, _, _, _⟩ := O16.out.any
      rw [ShaM.first_length] at e2
      subst e2
      rw [show ((16 : Nat) : Int) = (16 : Int) from rfl]
      go_wp2_with fail
      go_loopw [3, 6] (fun u v wr => ∃ (N k : Nat) (A : Option Addr) (cap : Nat), N = 16 + k ∧ k ≤ 48 ∧ v = .int .i64 N ∧ u = .slice A N cap ∧ Hid (Own 196 .u32 wr w.heap.size u (ShaM.ext k (ShaM.first (ShaM.at' l)))) ∧ Hid (Below w.heap.size w wr)) (fun _ v _ => 64 - (intOf v).toNat)
      case atStart => exact ⟨16, 0, A2, c2, rfl, by omega, rfl, rfl, O16, hb⟩
      case round =>
        clear O16 hb hsz
        obtain ⟨N, k, A, cap, hN, hk, rfl, rfl, ho, hb⟩ := hrel
        have hsz := hb.out.size
        by_cases hlt : k < 48
        · have tN : (N : Int) < 64 := by omega
          obtain ⟨j1, hj1⟩ : ∃ j, j = k + 1 := ⟨_, rfl⟩
          obtain ⟨j9, hj9⟩ : ∃ j, j = k + 9 := ⟨_, rfl⟩
          obtain ⟨j14, hj14⟩ : ∃ j, j = k + 14 := ⟨_, rfl⟩
          have E0 := hid (show IntKind.i64.wrap ((N : Int) - 16) = (k : Int) from wr_nat (by omega) (by omega))
          have E1 := hid (show IntKind.i64.wrap ((N : Int) - 15) = (j1 : Int) from wr_nat (by omega) (by omega))
          have E9 := hid (show IntKind.i64.wrap ((N : Int) - 7) = (j9 : Int) from wr_nat (by omega) (by omega))
          have E14 := hid (show IntKind.i64.wrap ((N : Int) - 2) = (j14 : Int) from wr_nat (by omega) (by omega))
          have t0 : (k : Int) < (N : Int) := by omega
          have t1 : (j1 : Int) < (N : Int) := by omega
          have t9 : (j9 : Int) < (N : Int) := by omega
          have t14 : (j14 : Int) < (N : Int) := by omega
          have hlen : (ShaM.ext k (ShaM.first (ShaM.at' l))).length = N := by rw [ShaM.ext_length, ShaM.first_length]; omega
          obtain ⟨A', cap', e1, _, _, hn⟩ := ho.out.any
          rw [hlen] at e1
          simp only [Value.slice.injEq, true_and] at e1
          obtain ⟨rfl, rfl⟩ := e1
          have hnx : ShaM.next (ShaM.ext k (ShaM.first (ShaM.at' l))) (16 + k) = ShaM.add (ShaM.add (ShaM.add ((ShaM.ext k (ShaM.first (ShaM.at' l))).getD k 0) (ShaM.l0 ((ShaM.ext k (ShaM.first (ShaM.at' l))).getD j1 0))) ((ShaM.ext k (ShaM.first (ShaM.at' l))).getD j9 0)) (ShaM.l1 ((ShaM.ext k (ShaM.first (ShaM.at' l))).getD j14 0)) := by
            rw [hj1, hj9, hj14]; exact ShaM.next_upM (ShaM.at' l) k
          have hst := ext_take (ShaM.at' l) k
          have hlt4 : ∀ j, (ShaM.ext k (ShaM.first (ShaM.at' l))).getD j 0 < 4294967296 := fun j => ShaM.upM_lt HB.out k j
          rw [hnx] at hst
          have HST := hid hst
          clear hst hnx
          generalize hM : ShaM.ext k (ShaM.first (ShaM.at' l)) = M at *
          have HM := hid hM
          obtain ⟨b2, o2, rfl, hB2, hr2⟩ := hn (by omega)
          have C0 := hid (hr2 k (by omega))
          have C1 := hid (hr2 j1 (by omega))
          have C9 := hid (hr2 j9 (by omega))
          have C14 := hid (hr2 j14 (by omega))
          have x0 := hlt4 k
          have x1 := hlt4 j1
          have x9 := hlt4 j9
          have x14 := hlt4 j14
          generalize M.getD k 0 = m0 at *
          generalize M.getD j1 0 = m1 at *
          generalize M.getD j9 0 = m9 at *
          generalize M.getD j14 0 = m14 at *
          have HN := hid hN
          have HLEN := hid hlen
          have r7 := ShaM.rr_lt x1 7
          have r18 := ShaM.rr_lt x1 18
          have r17 := ShaM.rr_lt x14 17
          have r19 := ShaM.rr_lt x14 19
          have X1 := hid (xor3 r7 r18)
          obtain ⟨L, hL⟩ : ∃ L, L = ShaM.l0 m1 := ⟨_, rfl⟩
          obtain ⟨R, hRR⟩ : ∃ R, R = ShaM.l1 m14 := ⟨_, rfl⟩
          have hLl : L < 4294967296 := by rw [hL]; exact Nat.xor_lt_two_pow (n := 32) (Nat.xor_lt_two_pow (n := 32) r7 r18) (Nat.lt_of_le_of_lt (Nat.div_le_self _ _) x1)
          have hRl : R < 4294967296 := by rw [hRR]; exact Nat.xor_lt_two_pow (n := 32) (Nat.xor_lt_two_pow (n := 32) r17 r19) (Nat.lt_of_le_of_lt (Nat.div_le_self _ _) x14)
          have X2 : Hid (bits .xor .u32 ((ShaM.rr m1 7 ^^^ ShaM.rr m1 18 : Nat) : Int) ((m1 : Int) / 8) = (L : Int)) := hid (by rw [hL]; exact xor3 (Nat.xor_lt_two_pow (n := 32) r7 r18) (show m1 / 8 < 4294967296 from Nat.lt_of_le_of_lt (Nat.div_le_self _ _) x1))
          have Y1 := hid (xor3 r17 r19)
          have Y2 : Hid (bits .xor .u32 ((ShaM.rr m14 17 ^^^ ShaM.rr m14 19 : Nat) : Int) ((m14 : Int) / 1024) = (R : Int)) := hid (by rw [hRR]; exact xor3 (Nat.xor_lt_two_pow (n := 32) r17 r19) (show m14 / 1024 < 4294967296 from Nat.lt_of_le_of_lt (Nat.div_le_self _ _) x14))
          rw [← hL, ← hRR] at HST
          obtain ⟨s1, hs1⟩ : ∃ s, s = ShaM.add m0 L := ⟨_, rfl⟩
          obtain ⟨s2, hs2⟩ : ∃ s, s = ShaM.add s1 m9 := ⟨_, rfl⟩
          obtain ⟨s3, hs3⟩ : ∃ s, s = ShaM.add s2 R := ⟨_, rfl⟩
          rw [← hs1, ← hs2, ← hs3] at HST
          have S1 : Hid (IntKind.u32.wrap ((m0 : Int) + (L : Int)) = (s1 : Int)) := hid (by rw [hs1]; exact add_wrap _ _)
          have S2 : Hid (IntKind.u32.wrap ((s1 : Int) + (m9 : Int)) = (s2 : Int)) := hid (by rw [hs2]; exact add_wrap _ _)
          have S3 : Hid (IntKind.u32.wrap ((s2 : Int) + (R : Int)) = (s3 : Int)) := hid (by rw [hs3]; exact add_wrap _ _)
          have s1l : s1 < 4294967296 := by rw [hs1]; exact ShaM.add_lt _ _
          have s2l : s2 < 4294967296 := by rw [hs2]; exact ShaM.add_lt _ _
          have s3l : s3 < 4294967296 := by rw [hs3]; exact ShaM.add_lt _ _
          have R7 := hid fun w => rrot_any m1 7 x1 (by omega) (by omega) w
          have R18 := hid fun w => rrot_any m1 18 x1 (by omega) (by omega) w
          have R17 := hid fun w => rrot_any m14 17 x14 (by omega) (by omega) w
          have R19 := hid fun w => rrot_any m14 19 x14 (by omega) (by omega) w
          have R3 := hid fun w => rcut3 m1 x1 w
          have R10 := hid fun w => rcut10 m14 x14 w
          clear hr2 hn hlt4 hj1 hj9 hj14 hN hlen hM r7 r18 r17 r19 hL hRR hs1 hs2 hs3
          go_wp2_with fail
          refine wp_region_tail (C := Drew wr) 20 (by kernel_rfl) (by kernel_rfl) (by kernel_rfl) (Drew.refl _) ?_
          simp only [List.take_succ_cons, List.take_zero, List.drop_succ_cons, List.drop_zero]
          apply wpK_val
          · rfl
          · intro w' hw'
            go_simp
            first | exact rfl | exact ⟨rfl, hw'⟩
          simp only [Act.put, sqA, sqB, sqC]
          apply wpK_val
          · rfl
          · intro w' hw'
            go_simp
            first | exact rfl | exact ⟨rfl, hw'⟩
          simp only [Act.put, sqA, sqB, sqC]
          apply wpK_val
          · rfl
          · intro w' hw'
            have h1 : _ := E1.out
            go_simp
            first | exact rfl | exact ⟨rfl, hw'⟩
          simp only [Act.put, sqA, sqB, sqC]
          apply wpK_val
          · rfl
          · intro w' hw'
            go_simp
            first | exact rfl | exact ⟨rfl, hw'⟩
          simp only [Act.put, sqA, sqB, sqC]
          apply wpK_val
          · rfl
          · intro w' hw'
            have hcell := hw'.cell C1.out
            go_simp
            first | exact rfl | exact ⟨rfl, hw'⟩
          simp only [Act.put, sqA, sqB, sqC]
          apply wpK_val
          · rfl
          · intro w' hw'
            go_simp
            exact (R7.out _).mono fun e w'' ⟨he, hb''⟩ => ⟨he, hb'' ▸ hw'⟩
          simp only [Act.put, sqA, sqB, sqC]
          apply wpK_val
          · rfl
          · intro w' hw'
            go_simp
            first | exact rfl | exact ⟨rfl, hw'⟩
          simp only [Act.put, sqA, sqB, sqC]
          apply wpK_val
          · rfl
          · intro w' hw'
            go_simp
            first | exact rfl | exact ⟨rfl, hw'⟩
          simp only [Act.put, sqA, sqB, sqC]
          apply wpK_val
          · rfl
          · intro w' hw'
            have h1 : _ := E1.out
            go_simp
            first | exact rfl | exact ⟨rfl, hw'⟩
          simp only [Act.put, sqA, sqB, sqC]
          apply wpK_val
          · rfl
          · intro w' hw'
            go_simp
            first | exact rfl | exact ⟨rfl, hw'⟩
          simp only [Act.put, sqA, sqB, sqC]
          apply wpK_val
          · rfl
          · intro w' hw'
            have hcell := hw'.cell C1.out
            go_simp
            first | exact rfl | exact ⟨rfl, hw'⟩
          simp only [Act.put, sqA, sqB, sqC]
          apply wpK_val
          · rfl
          · intro w' hw'
            go_simp
            exact (R18.out _).mono fun e w'' ⟨he, hb''⟩ => ⟨he, hb'' ▸ hw'⟩
          simp only [Act.put, sqA, sqB, sqC]
          apply wpK_val
          · rfl
          · intro w' hw'
            have h1 : _ := X1.out
            go_simp
            first | exact rfl | exact ⟨rfl, hw'⟩
          simp only [Act.put, sqA, sqB, sqC]
          apply wpK_val
          · rfl
          · intro w' hw'
            go_simp
            first | exact rfl | exact ⟨rfl, hw'⟩
          simp only [Act.put, sqA, sqB, sqC]
          apply wpK_val
          · rfl
          · intro w' hw'
            go_simp
            first | exact rfl | exact ⟨rfl, hw'⟩
          simp only [Act.put, sqA, sqB, sqC]
          apply wpK_val
          · rfl
          · intro w' hw'
            have h1 : _ := E1.out
            go_simp
            first | exact rfl | exact ⟨rfl, hw'⟩
          simp only [Act.put, sqA, sqB, sqC]
          apply wpK_val
          · rfl
          · intro w' hw'
            go_simp
            first | exact rfl | exact ⟨rfl, hw'⟩
          simp only [Act.put, sqA, sqB, sqC]
          apply wpK_val
          · rfl
          · intro w' hw'
            have hcell := hw'.cell C1.out
            go_simp
            first | exact rfl | exact ⟨rfl, hw'⟩
          simp only [Act.put, sqA, sqB, sqC]
          apply wpK_val
          · rfl
          · intro w' hw'
            go_simp
            exact (R3.out _).mono fun e w'' ⟨he, hb''⟩ => ⟨he, hb'' ▸ hw'⟩
          simp only [Act.put, sqA, sqB, sqC]
          apply wpK_val
          · rfl
          · intro w' hw'
            have h1 : _ := X2.out
            go_simp
            first | exact rfl | exact ⟨rfl, hw'⟩
          simp only [Act.put, sqA, sqB, sqC]
          refine wpK_nil fun w5 hw5 => ?_
          go_wp2_with fail
          refine wp_region_tail (C := Drew wr) 20 (by kernel_rfl) (by kernel_rfl) (by kernel_rfl) (hw5.trans (Drew.refl _)) ?_
          simp only [List.take_succ_cons, List.take_zero, List.drop_succ_cons, List.drop_zero]
          apply wpK_val
          · rfl
          · intro w' hw'
            go_simp
            first | exact rfl | exact ⟨rfl, hw'⟩
          simp only [Act.put, sqA, sqB, sqC]
          apply wpK_val
          · rfl
          · intro w' hw'
            go_simp
            first | exact rfl | exact ⟨rfl, hw'⟩
          simp only [Act.put, sqA, sqB, sqC]
          apply wpK_val
          · rfl
          · intro w' hw'
            have h1 : _ := E14.out
            go_simp
            first | exact rfl | exact ⟨rfl, hw'⟩
          simp only [Act.put, sqA, sqB, sqC]
          apply wpK_val
          · rfl
          · intro w' hw'
            go_simp
            first | exact rfl | exact ⟨rfl, hw'⟩
          simp only [Act.put, sqA, sqB, sqC]
          apply wpK_val
          · rfl
          · intro w' hw'
            have hcell := hw'.cell C14.out
            go_simp
            first | exact rfl | exact ⟨rfl, hw'⟩
          simp only [Act.put, sqA, sqB, sqC]
          apply wpK_val
          · rfl
          · intro w' hw'
            go_simp
            exact (R17.out _).mono fun e w'' ⟨he, hb''⟩ => ⟨he, hb'' ▸ hw'⟩
          simp only [Act.put, sqA, sqB, sqC]
          apply wpK_val
          · rfl
          · intro w' hw'
            go_simp
            first | exact rfl | exact ⟨rfl, hw'⟩
          simp only [Act.put, sqA, sqB, sqC]
          apply wpK_val
          · rfl
          · intro w' hw'
            go_simp
            first | exact rfl | exact ⟨rfl, hw'⟩
          simp only [Act.put, sqA, sqB, sqC]
          apply wpK_val
          · rfl
          · intro w' hw'
            have h1 : _ := E14.out
            go_simp
            first | exact rfl | exact ⟨rfl, hw'⟩
          simp only [Act.put, sqA, sqB, sqC]
          apply wpK_val
          · rfl
          · intro w' hw'
            go_simp
            first | exact rfl | exact ⟨rfl, hw'⟩
          simp only [Act.put, sqA, sqB, sqC]
          apply wpK_val
          · rfl
          · intro w' hw'
            have hcell := hw'.cell C14.out
            go_simp
            first | exact rfl | exact ⟨rfl, hw'⟩
          simp only [Act.put, sqA, sqB, sqC]
          apply wpK_val
          · rfl
          · intro w' hw'
            go_simp
            exact (R19.out _).mono fun e w'' ⟨he, hb''⟩ => ⟨he, hb'' ▸ hw'⟩
          simp only [Act.put, sqA, sqB, sqC]
          apply wpK_val
          · rfl
          · intro w' hw'
            have h1 : _ := Y1.out
            go_simp
            first | exact rfl | exact ⟨rfl, hw'⟩
          simp only [Act.put, sqA, sqB, sqC]
          apply wpK_val
          · rfl
          · intro w' hw'
            go_simp
            first | exact rfl | exact ⟨rfl, hw'⟩
          simp only [Act.put, sqA, sqB, sqC]
          apply wpK_val
          · rfl
          · intro w' hw'
            go_simp
            first | exact rfl | exact ⟨rfl, hw'⟩
          simp only [Act.put, sqA, sqB, sqC]
          apply wpK_val
          · rfl
          · intro w' hw'
            have h1 : _ := E14.out
            go_simp
            first | exact rfl | exact ⟨rfl, hw'⟩
          simp only [Act.put, sqA, sqB, sqC]
          apply wpK_val
          · rfl
          · intro w' hw'
            go_simp
            first | exact rfl | exact ⟨rfl, hw'⟩
          simp only [Act.put, sqA, sqB, sqC]
          apply wpK_val
          · rfl
          · intro w' hw'
            have hcell := hw'.cell C14.out
            go_simp
            first | exact rfl | exact ⟨rfl, hw'⟩
          simp only [Act.put, sqA, sqB, sqC]
          apply wpK_val
          · rfl
          · intro w' hw'
            go_simp
            exact (R10.out _).mono fun e w'' ⟨he, hb''⟩ => ⟨he, hb'' ▸ hw'⟩
          simp only [Act.put, sqA, sqB, sqC]
          apply wpK_val
          · rfl
          · intro w' hw'
            have h1 : _ := Y2.out
            go_simp
            first | exact rfl | exact ⟨rfl, hw'⟩
          simp only [Act.put, sqA, sqB, sqC]
          refine wpK_nil fun w6 hw6 => ?_
          clear hw5
          go_wp2_with fail
          have hz6 := hw6.heap
          have C0' := hid (hw6.cell C0.out)
          have C9' := hid (hw6.cell C9.out)
          have hB6 : b2 < w6.heap.size := by rw [hz6]; exact hB2
          refine wp_region_put (C := Put w6 (.cells #[.int .u32 (s3 : Nat)] 196)) 16 17 (by omega) (by kernel_rfl) (by kernel_rfl) (by kernel_rfl) (Drew.refl _) ?_
          simp only [List.take_succ_cons, List.take_zero, List.drop_succ_cons, List.drop_zero]
          apply wpS_val
          · decide
          · rfl
          · intro bb w' hw'
            go_simp
            first | exact rfl | exact ⟨rfl, hw'⟩
          simp only [Act.put, sqA, sqB, sqC]
          apply wpS_val
          · decide
          · rfl
          · intro bb w' hw'
            go_simp
            first | exact rfl | exact ⟨rfl, hw'⟩
          simp only [Act.put, sqA, sqB, sqC]
          apply wpS_val
          · decide
          · rfl
          · intro bb w' hw'
            go_simp
            first | exact rfl | exact ⟨rfl, hw'⟩
          simp only [Act.put, sqA, sqB, sqC]
          apply wpS_val
          · decide
          · rfl
          · intro bb w' hw'
            have h1 : _ := E0.out
            go_simp
            first | exact rfl | exact ⟨rfl, hw'⟩
          simp only [Act.put, sqA, sqB, sqC]
          apply wpS_val
          · decide
          · rfl
          · intro bb w' hw'
            go_simp
            first | exact rfl | exact ⟨rfl, hw'⟩
          simp only [Act.put, sqA, sqB, sqC]
          apply wpS_val
          · decide
          · rfl
          · intro bb w' hw'
            have hcell : _ := hw'.cell hB6 C0'.out
            go_simp
            first | exact rfl | exact ⟨rfl, hw'⟩
          simp only [Act.put, sqA, sqB, sqC]
          apply wpS_val
          · decide
          · rfl
          · intro bb w' hw'
            go_simp
            first | exact rfl | exact ⟨rfl, hw'⟩
          simp only [Act.put, sqA, sqB, sqC]
          apply wpS_val
          · decide
          · rfl
          · intro bb w' hw'
            have h1 : _ := S1.out
            go_simp
            first | exact rfl | exact ⟨rfl, hw'⟩
          simp only [Act.put, sqA, sqB, sqC]
          apply wpS_val
          · decide
          · rfl
          · intro bb w' hw'
            go_simp
            first | exact rfl | exact ⟨rfl, hw'⟩
          simp only [Act.put, sqA, sqB, sqC]
          apply wpS_val
          · decide
          · rfl
          · intro bb w' hw'
            go_simp
            first | exact rfl | exact ⟨rfl, hw'⟩
          simp only [Act.put, sqA, sqB, sqC]
          apply wpS_val
          · decide
          · rfl
          · intro bb w' hw'
            have h1 : _ := E9.out
            go_simp
            first | exact rfl | exact ⟨rfl, hw'⟩
          simp only [Act.put, sqA, sqB, sqC]
          apply wpS_val
          · decide
          · rfl
          · intro bb w' hw'
            go_simp
            first | exact rfl | exact ⟨rfl, hw'⟩
          simp only [Act.put, sqA, sqB, sqC]
          apply wpS_val
          · decide
          · rfl
          · intro bb w' hw'
            have hcell : _ := hw'.cell hB6 C9'.out
            go_simp
            first | exact rfl | exact ⟨rfl, hw'⟩
          simp only [Act.put, sqA, sqB, sqC]
          apply wpS_val
          · decide
          · rfl
          · intro bb w' hw'
            have h1 : _ := S2.out
            go_simp
            first | exact rfl | exact ⟨rfl, hw'⟩
          simp only [Act.put, sqA, sqB, sqC]
          apply wpS_val
          · decide
          · rfl
          · intro bb w' hw'
            go_simp
            first | exact rfl | exact ⟨rfl, hw'⟩
          simp only [Act.put, sqA, sqB, sqC]
          apply wpS_val
          · decide
          · rfl
          · intro bb w' hw'
            have h1 : _ := S3.out
            go_simp
            first | exact rfl | exact ⟨rfl, hw'⟩
          simp only [Act.put, sqA, sqB, sqC]
          apply wpS_put
          · rfl
          · rfl
          · intro w' hw'
            have hw2 : Drew w6 w' := hw'
            have hz := hw2.heap
            go_simp
            exact ⟨rfl, w', hw2, rfl⟩
          simp only [Act.put, sqA, sqB, sqC]
          refine wpS_nil fun w8 hw8 => ?_
          obtain ⟨w7, h7, rfl⟩ := hw8
          have hz7 : wr.heap.size = w7.heap.size := by rw [h7.heap, hz6]
          have o7 := hid (ho.out.heap (by rw [h7.heap, hz6]))
          have b7 := hid (h7.below (hw6.below hb.out))
          have HZ7 := hid hz7
          clear hw6 h7 hz6 hB6 C0' C9' hz7 S1 S2 S3 X1 X2 Y1 Y2
          go_wp2_with (at_builtin; (with_reducible apply wappN elt32); rfl; rfl; exact o7.out.alloc _; exact nums_one' (x := s3) (B := w7.heap.size + 1) rfl HZ7.out (Nat.lt_succ_self _); rfl; (rw [HLEN.out]; omega); (simp; have := HZ7.out; omega); intro v' w9 o9 g9)
          have b9 := below_grown (b7.out.alloc (by have := HZ7.out; omega) (.cells #[.int .u32 (s3 : Nat)] 196)) g9 o7.out (Nat.le_refl _) (Nat.le_refl _)
          obtain ⟨A3, c3, e3, _, _, _⟩ := o9.any
          rw [List.length_append, HLEN.out, List.length_singleton] at e3
          subst e3
          go_roundw
          case rel => exact ⟨N + 1, k + 1, A3, c3, by have := HN.out; omega, by omega, by go_num, rfl, hid (by rw [HST.out]; exact o9), hid b9⟩
          case measure => simp [intOf] <;> omega
        · obtain rfl : k = 48 := by omega
          have tN : decide ((N : Int) < 64) = false := by simp; omega
          have hfin := hid (ho.out.fresh hb.out)
          clear ho
          go_wp2_with fail
          go_ret
          exact hfin.out
end Go.Proofs.YtklmjdhhnnanoaaGreatDoor
set_option maxRecDepth 100000
namespace Go.Proofs.YtklmjdhhnnanoaaGreatDoor
open Go.ChangeShapes Go.WideShapes Go.ChangeAt Go.RowKit
attribute [local go_sem] Gives
def lst8 (s : ShaM.S8) : List Nat := [s.a, s.b, s.c, s.d, s.e, s.f, s.g, s.h]
end Go.Proofs.YtklmjdhhnnanoaaGreatDoor
