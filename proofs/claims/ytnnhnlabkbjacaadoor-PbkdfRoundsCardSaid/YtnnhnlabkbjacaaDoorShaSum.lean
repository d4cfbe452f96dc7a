/-
  Contracts of (sha.Prefix).Sum, sha.Sum, sha.Ahead over this translation.
-/
import Derived.Test.YtnnhnlabkbjacaaDoorShaPre
import Derived.Test.YtnnhnlabkbjacaaDoorRegOne
namespace Go.Proofs.YtnnhnlabkbjacaaDoor
open Go.ChangeShapes Go.WideShapes Go.ChangeAt Go.RowKit
attribute [local go_sem] Gives
section
variable {ops : Array Oper} {a : Act} {rest : List Oper} {dst : Option Tmp} {ty : TypeId} {pos : String} {after : Array Edge} {x : Operand} {g o : Nat} {f : Nat → Nat} {C : World → Prop} {Qk : Act → Prop} {gd : Option (Nat × Bool)}
theorem blnm (hwt : Region.wanted ⟨dst, .load 52 x, ty, pos, after, gd⟩ (yielded ops a.tmps) = true) (hx : a.eval x = .pointer (some ⟨g, o, none⟩)) (hb : ∀ w, C w → w.rangeAt g o (num8 f).toList) (h : wpB Tryd.prog ops C Qk rest (a.put dst (.agg (num8 f)))) :
    wpB Tryd.prog ops C Qk (⟨dst, .load 52 x, ty, pos, after, gd⟩ :: rest) a :=
  wpB_val hwt (fun w hw => gives_value (w' := w) (by
    have := run_loadAt_mid (P := Tryd.prog) w g o 52 (num8 f).toList _ (hb w hw) Tryd.underlying52 rfl (info_num8.trans (by rw [Array.length_toList, size_num8]))
    rw [Array.toArray_toList] at this
    simp only [execOp, hx, Sem.run_bind, this, Result.andThen_ok, Sem.run_pure]) ⟨hw, Below.refl _ _⟩) h
end
theorem alloc_num8 (w : World) : (Instr.alloc 52 true (.tuple #[])).run Tryd.prog w = .ok (.pointer (some ⟨w.heap.size, 0, none⟩)) (w.alloc (.cells (num8 fun _ => 0) 52)) := by
  have hz := (zero_of_info (P := Tryd.prog) (t := 52) (v := .agg (num8 fun _ => 0)) (n := 8) (by kernel_rfl)).1
  simp [Instr.alloc, Sem.run_bind, hz w, newVar, newRow, Value.cells]
theorem Byt.dropA {w : World} {B : Nat} {A : Option Addr} {l : List Nat} (h : Byt w B A l) (cap W : Nat) (hc : l.length ≤ cap) : Byt w B (if cap = W then A else Option.map (fun x => x.add W) A) (l.drop W) := fun hn => by
  have hn' := hn
  rw [List.length_drop] at hn
  obtain ⟨b, o, rfl, hl, hr⟩ := h (by omega)
  rw [if_neg (by omega)]
  have e : Option.map (fun x => Addr.add x W) (some ⟨b, o, Option.none⟩) = some ⟨b, o + W, Option.none⟩ := by rw [Option.map_some, Addr.add_mid]
  rw [e]
  exact Byt.drop (l := l) (fun _ => ⟨b, o, rfl, hl, hr⟩) W hn'
set_option maxHeartbeats 400000 in
set_option maxRecDepth 100000 in
theorem psum_ok (s : ShaM.S8) (hs : s.ok) (A : Option Addr) (l : List Nat) (n cap m : Nat) (hl : l.length = n) (hmm : m % 64 = 0) (hc : n ≤ cap) (hm : cap ≤ maxLen) (hz : m + n ≤ 1000000000000000) (hb : B256 l) (w : World) (hA : Byt w w.heap.size A l) (hS : Salts w) :
    Calls Tryd.prog 31 #[.agg (pre s.get m true), .slice A n cap] w fun e w' => e = .returned (.agg (tag (ShaM.digest (ShaM.ended s m l)))) ∧ Below w.heap.size w w' := by
  have HS := hid hs
  have HB := hid hb
  have HA := hid hA
  have SA := hid hS
  have HL := hid hl
  have HM := hid hm
  unfold maxLen at hm
  obtain ⟨W, hW⟩ : ∃ W, W = n - n % 64 := ⟨_, rfl⟩
  have e5 : (n : Int) - (n : Int) % 64 = (W : Int) := by omega
  have e5' : IntKind.i64.wrap ((n : Int) - (n : Int) % 64) = (W : Int) := wr_nat e5 (by omega)
  have e1 : IntKind.i64.wrap ((m : Int) + (n : Int)) = ((m + n : Nat) : Int) := wr_nat (by omega) (by omega)
  have hWn : W ≤ n := by omega
  have hWc : (W : Int) ≤ (cap : Int) := by omega
  have E1 := hid e1
  have HW := hid hW
  clear hs hb hA hS hl e1 hW
  go_enter Tryd.func31, Tryd.ntmps31
  go_upto_region 1 with fail
  generalize hw3 : World.alloc (World.alloc w _) _ = w3
  have b1 : Blk w3 w.heap.size 54 (pre s.get m true) := by rw [← hw3]; exact (Blk.top rfl rfl).alloc _
  have b2 : Blk w3 (w.heap.size + 1) 43 (tag fun _ => 0) := by rw [← hw3]; exact Blk.top zlit_tag (by simp)
  have hb : Below w.heap.size w w3 := by rw [← hw3]; exact ((Below.refl _ _).alloc (Nat.le_refl _) _).alloc (by simp) _
  clear hw3
  have c9 := b1.pre9
  go_upto_region 4 with fail
  have B1 := hid b1
  have B2 := hid b2
  have BEL := hid hb
  clear b1 b2 hb c9
  refine wp_region_new1 (C := fun w' => Below w3.heap.size w3 w') 6 52 (num8 fun _ => 0) 6 rfl (by kernel_rfl) (by kernel_rfl) (by kernel_rfl) alloc_num8 (Below.refl _ _).drew (fun w' hw' => hw'.alloc hw'.size _) (fun w' hw' => hw'.size) ?_
  simp only [List.take_succ_cons, List.take_zero, List.drop_succ_cons, List.drop_zero]
  apply wpB_val
  · rfl
  · intro w' hw'
    have hbl := Below.refl w'.heap.size w'
    go_simp
    first | exact rfl | exact ⟨rfl, hbl⟩ | exact ⟨rfl, hw', hbl⟩
  simp only [Act.put, List.setIfInBounds_toArray, List.set_cons_succ, List.set_cons_zero]
  apply blnm
  · rfl
  · rfl
  · exact fun w' hw' => (B1.out.below hw' B1.out.lt).pre0
  simp only [Act.put, List.setIfInBounds_toArray, List.set_cons_succ, List.set_cons_zero]
  apply wpB_val
  · rfl
  · intro w' hw'
    have hbl := Below.refl w'.heap.size w'
    go_simp
    first | exact rfl | exact ⟨rfl, hbl⟩ | exact ⟨rfl, hw', hbl⟩
  simp only [Act.put, List.setIfInBounds_toArray, List.set_cons_succ, List.set_cons_zero]
  apply wpB_val
  · rfl
  · intro w' hw'
    have hbl := Below.refl w'.heap.size w'
    go_simp
    first | exact rfl | exact ⟨rfl, hbl⟩ | exact ⟨rfl, hw', hbl⟩
  simp only [Act.put, List.setIfInBounds_toArray, List.set_cons_succ, List.set_cons_zero]
  apply wpB_val
  · rfl
  · intro w' hw'
    have hbl := Below.refl w'.heap.size w'
    go_simp
    first | exact rfl | exact ⟨rfl, hbl⟩ | exact ⟨rfl, hw', hbl⟩
  simp only [Act.put, List.setIfInBounds_toArray, List.set_cons_succ, List.set_cons_zero]
  apply wpB_val
  · rfl
  · intro w' hw'
    go_simp
    exact (passes_any s HS.out A (l.take W) W cap (by rw [List.length_take, HL.out]; omega) (by omega) HM.out (HB.out.take W) _ (((HA.out.take W).below (BEL.out.trans (hw'.mono BEL.out.size)) (Nat.le_refl _)).more (Nat.le_trans BEL.out.size hw'.size)) (SA.out.on (BEL.out.trans (hw'.mono BEL.out.size)))).mono fun e w'' ⟨he, hb''⟩ => ⟨he, hw'.trans (hb''.mono hw'.size), hb''⟩
  simp only [Act.put, List.setIfInBounds_toArray, List.set_cons_succ, List.set_cons_zero]
  refine wpB_nil fun g6 w4 hw4 q6 hg6 => ?_
  have b1 := B1.out.below hw4 B1.out.lt
  have b2 := B2.out.below hw4 B2.out.lt
  have bel := BEL.out.trans (hw4.mono BEL.out.size)
  have hz2 : w.heap.size + 1 < w3.heap.size := B2.out.lt
  clear hw4 B1 B2 BEL
  have B1 := hid b1
  have B2 := hid b2
  have BEL := hid bel
  clear b1 b2 bel
  unfold ptr
  go_upto_region 5 with ((with_reducible apply stn); rfl; rfl; exact q6)
  generalize hw5 : World.setRow _ _ _ = w5
  have c6 : Blk w5 g6 52 (num8 (ShaM.passes s (l.take W)).get) := by rw [← hw5]; exact q6.setRow_same _
  have c1 : Blk w5 w.heap.size 54 (pre s.get m true) := by rw [← hw5]; exact B1.out.setRow_other (by omega) _
  have c2 : Blk w5 (w.heap.size + 1) 43 (tag fun _ => 0) := by rw [← hw5]; exact B2.out.setRow_other (by omega) _
  have cb : Below w.heap.size w w5 := by rw [← hw5]; exact below_setRow BEL.out (by omega) _
  clear hw5 q6 B1 B2 BEL w4
  have C1 := hid c1
  have C2 := hid c2
  have C6 := hid c6
  have CB := hid cb
  clear c1 c2 c6 cb
  refine wp_region_tail (C := fun w' => Below w5.heap.size w5 w') 11 (by kernel_rfl) (by kernel_rfl) (by kernel_rfl) (Below.refl _ _).drew ?_
  simp only [List.take_succ_cons, List.take_zero, List.drop_succ_cons, List.drop_zero]
  apply kln
  · rfl
  · rfl
  · exact fun w' hw' => C6.out.below hw' C6.out.lt
  simp only [Act.put, List.setIfInBounds_toArray, List.set_cons_succ, List.set_cons_zero]
  apply wpK_val
  · rfl
  · intro w' hw'
    go_simp
    first | exact rfl | exact ⟨rfl, hw'⟩
  simp only [Act.put, List.setIfInBounds_toArray, List.set_cons_succ, List.set_cons_zero]
  apply wpK_val
  · rfl
  · intro w' hw'
    go_simp
    first | exact rfl | exact ⟨rfl, hw'⟩
  simp only [Act.put, List.setIfInBounds_toArray, List.set_cons_succ, List.set_cons_zero]
  apply wpK_val
  · rfl
  · intro w' hw'
    go_simp
    first | exact rfl | exact ⟨rfl, hw'⟩
  simp only [Act.put, List.setIfInBounds_toArray, List.set_cons_succ, List.set_cons_zero]
  apply wpK_val
  · rfl
  · intro w' hw'
    go_simp
    first | exact rfl | exact ⟨rfl, hw'⟩
  simp only [Act.put, List.setIfInBounds_toArray, List.set_cons_succ, List.set_cons_zero]
  apply wpK_val
  · rfl
  · intro w' hw'
    have hcell := (C1.out.below hw' C1.out.lt).pre8
    go_simp
    first | exact rfl | exact ⟨rfl, hw'⟩
  simp only [Act.put, List.setIfInBounds_toArray, List.set_cons_succ, List.set_cons_zero]
  apply wpK_val
  · rfl
  · intro w' hw'
    go_simp
    first | exact rfl | exact ⟨rfl, hw'⟩
  simp only [Act.put, List.setIfInBounds_toArray, List.set_cons_succ, List.set_cons_zero]
  apply wpK_val
  · rfl
  · intro w' hw'
    go_simp
    first | exact rfl | exact ⟨rfl, hw'⟩
  simp only [Act.put, List.setIfInBounds_toArray, List.set_cons_succ, List.set_cons_zero]
  apply wpK_val
  · rfl
  · intro w' hw'
    have h1 : _ := E1.out
    go_simp
    first | exact rfl | exact ⟨rfl, hw'⟩
  simp only [Act.put, List.setIfInBounds_toArray, List.set_cons_succ, List.set_cons_zero]
  apply wpK_val
  · rfl
  · intro w' hw'
    go_simp
    exact (finish_any (ShaM.passes s (l.take W)) (ShaM.passes_ok _ (Nat.le_refl _) HS.out) _ (l.drop W) (n - W) (cap - W) (m + n) (by rw [List.length_drop, HL.out]) (by have := HW.out; omega) (by have := HW.out; omega) hz (HB.out.drop W) _ ((HA.out.dropA cap W (by rw [HL.out]; exact hc)).below (CB.out.trans (hw'.mono CB.out.size)) (Nat.le_refl _) |>.more (Nat.le_trans CB.out.size hw'.size)) (SA.out.on (CB.out.trans (hw'.mono CB.out.size)))).mono fun e w'' ⟨he, hb''⟩ => ⟨he, hw'.trans (hb''.mono hw'.size)⟩
  simp only [Act.put, List.setIfInBounds_toArray, List.set_cons_succ, List.set_cons_zero]
  apply wpK_val
  · rfl
  · intro w' hw'
    go_simp
    exact (digest_any _ (ShaM.passes_ok _ (Nat.le_refl _) (ShaM.passes_ok _ (Nat.le_refl _) HS.out)) _).mono fun e w'' ⟨he, hb''⟩ => ⟨he, hw'.trans (hb''.mono hw'.size)⟩
  simp only [Act.put, List.setIfInBounds_toArray, List.set_cons_succ, List.set_cons_zero]
  refine wpK_nil fun w4 hw4 => ?_
  have c2 := C2.out.below hw4 C2.out.lt
  have cb := CB.out.trans (hw4.mono CB.out.size)
  have hmath : ShaM.passes (ShaM.passes s (l.take W)) (l.drop W ++ ShaM.tail (m + n)) = ShaM.ended s m l := by
    unfold ShaM.ended
    rw [HL.out, ← ShaM.passes_append (n / 64) (by rw [List.length_take, HL.out]; have := HW.out; omega), ← List.append_assoc, List.take_append_drop]
  rw [hmath]
  clear hmath
  go_wp2_with ((with_reducible apply stt); rfl; rfl; exact c2)
  all_goals
    apply ret_row Tryd.results31
    · exact c2.setRow_same _
    · exact Tryd.underlying43
    · rfl
    · exact (info_tag.trans (by rw [size_tag]))
    · rfl
    · rfl
    exact ⟨rfl, below_setRow cb (by omega) _⟩
set_option maxHeartbeats 400000 in
set_option maxRecDepth 100000 in
theorem psum_nil (f : Nat → Nat) (m n cap : Nat) (A : Option Addr) (w : World) :
    Calls Tryd.prog 31 #[.agg (pre f m false), .slice A n cap] w fun e w' => e = .returned (.agg (tag fun _ => 0)) ∧ Below w.heap.size w w' := by
  go_enter Tryd.func31, Tryd.ntmps31
  go_upto_region 1 with fail
  generalize hw3 : World.alloc (World.alloc w _) _ = w3
  have b1 : Blk w3 w.heap.size 54 (pre f m false) := by rw [← hw3]; exact (Blk.top rfl rfl).alloc _
  have b2 : Blk w3 (w.heap.size + 1) 43 (tag fun _ => 0) := by rw [← hw3]; exact Blk.top zlit_tag (by simp)
  have hb : Below w.heap.size w w3 := by rw [← hw3]; exact ((Below.refl _ _).alloc (Nat.le_refl _) _).alloc (by simp) _
  clear hw3
  have c9 := b1.pre9
  go_wp2_with ((with_reducible apply stt (f := fun _ => 0)); rfl; (show Value.agg _ = _; rw [zlit_tag]); exact b2)
  apply ret_row Tryd.results31
  · exact b2.setRow_same _
  · exact Tryd.underlying43
  · rfl
  · exact (info_tag.trans (by rw [size_tag]))
  · rfl
  · rfl
  exact ⟨rfl, below_setRow hb (by omega) _⟩
set_option maxHeartbeats 400000 in
set_option maxRecDepth 100000 in
/-- P3.1. -/
theorem sum_any (A : Option Addr) (l : List Nat) (n cap : Nat) (hl : l.length = n) (hc : n ≤ cap) (hm : cap ≤ maxLen) (hz : n ≤ 1000000000000000) (hb : B256 l) (w : World) (hA : Byt w w.heap.size A l) (hS : Salts w) :
    Calls Tryd.prog 34 #[.slice A n cap] w fun e w' => e = .returned (.agg (tag (ShaM.sum l))) ∧ Below w.heap.size w w' := by
  have HB := hid hb
  have HA := hid hA
  have SA := hid hS
  have HL := hid hl
  clear hb hA hS hl
  go_enter Tryd.func34, Tryd.ntmps34
  go_wp2_with fail
  generalize hw3 : World.alloc w _ = w3
  have b2 : Blk w3 w.heap.size 43 (tag fun _ => 0) := by rw [← hw3]; exact Blk.top zlit_tag rfl
  have hb : Below w.heap.size w w3 := by rw [← hw3]; exact (Below.refl _ _).alloc (Nat.le_refl _) _
  clear hw3
  refine (start_any w3).mono ?_
  rintro e w4 ⟨rfl, hb'⟩
  have b2' := b2.below hb' b2.lt
  have hb4 := hb.trans (hb'.mono hb.size)
  clear hb' b2 hb w3
  have B2 := hid b2'
  have BEL := hid hb4
  clear b2' hb4
  go_wp2_with fail
  refine (psum_ok ShaM.seeds ShaM.seeds_ok A l n cap 0 HL.out rfl hc hm (by omega) HB.out w4 ((HA.out.below BEL.out (Nat.le_refl _)).more BEL.out.size) (SA.out.on BEL.out)).mono ?_
  rintro e w5 ⟨rfl, hb'⟩
  have b2 := B2.out.below hb' B2.out.lt
  have hb := BEL.out.trans (hb'.mono BEL.out.size)
  clear hb'
  go_wp2_with ((with_reducible apply stt); rfl; rfl; exact b2)
  apply ret_row Tryd.results34
  · exact b2.setRow_same _
  · exact Tryd.underlying43
  · rfl
  · exact (info_tag.trans (by rw [size_tag]))
  · rfl
  · rfl
  exact ⟨rfl, below_setRow hb (Nat.le_refl _) _⟩
end Go.Proofs.YtnnhnlabkbjacaaDoor
