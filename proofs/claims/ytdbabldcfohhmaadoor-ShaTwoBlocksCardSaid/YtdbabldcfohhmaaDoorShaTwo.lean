/-
  The walk of ShaTwoBlocks.
-/
import Derived.Test.YtdbabldcfohhmaaDoorShaKeyed
import Derived.Test.YtdbabldcfohhmaaDoorRegRel2
namespace Go.Proofs.YtdbabldcfohhmaaDoor
open Go.ChangeShapes Go.WideShapes Go.ChangeAt Go.RowKit
attribute [local go_sem] Gives
def l64 (f : Nat → Nat) : List Nat := (List.range 64).map f
theorem l64_length (f : Nat → Nat) : (l64 f).length = 64 := by simp [l64]
theorem l64_256 {f : Nat → Nat} (h : ∀ k, f k < 256) : B256 (l64 f) := fun x hx => by
  obtain ⟨k, _, rfl⟩ := List.mem_map.1 hx
  exact h k
theorem blk_arg {w : World} {g : Nat} {t : TypeId} {f : Nat → Nat} (h : Blk w g t (bts 64 f)) (h256 : ∀ k, f k < 256) : Arg w (some ⟨g, 0, none⟩) (l64 f) 64 64 where
  len := l64_length f
  cap := Nat.le_refl _
  max := by unfold maxLen; omega
  b256 := l64_256 h256
  none e := by cases e
  byt := Blk.byt h h.lt (by rw [l64_length]; omega) (fun j hj => by rw [l64_length] at hj; simp [l64, hj])
def dl32 (f : Nat → Nat) : List Nat := (List.range 32).map f
theorem dl32_length (f : Nat → Nat) : (dl32 f).length = 32 := by simp [dl32]
theorem dl32_256 {f : Nat → Nat} (h : ∀ k, f k < 256) : B256 (dl32 f) := fun x hx => by
  obtain ⟨k, _, rfl⟩ := List.mem_map.1 hx
  exact h k
theorem tag_arg32 {w : World} {g : Nat} {T : Nat → Nat} (h : Blk w g 34 (tag T)) (h256 : ∀ k, T k < 256) : Arg w (some ⟨g, 0, none⟩) (dl32 T) 32 32 where
  len := dl32_length T
  cap := Nat.le_refl _
  max := by unfold maxLen; omega
  b256 := dl32_256 h256
  none e := by cases e
  byt := Blk.byt h h.lt (by rw [dl32_length]; omega) (fun j hj => by rw [dl32_length] at hj; simp [dl32, hj])
section
variable {a : Act} {w : World} {dst : Option Tmp} {ty : TypeId} {pos : String} {after : Array Edge} {x : Operand} {g m : Nat} {f : Nat → Nat} {b : Bool} {gd : Option (Nat × Bool)} {R : World → Prop}
theorem gives_ldp2 (hx : a.eval x = .pointer (some ⟨g, 0, none⟩)) (hb : Blk w g 29 (pre f m b)) (hR : R w) : Gives Tryd.prog ⟨dst, .load 29 x, ty, pos, after, gd⟩ a w (.agg (pre f m b)) R := by
  have h1 := hb.range 0 10
  rw [Nat.zero_add, show (10 : Nat) = (pre f m b).size from size_pre.symm, Array.extract_size] at h1
  have h2 := run_loadAt_mid (P := Tryd.prog) w g 0 29 (pre f m b).toList _ h1 Tryd.underlying29 rfl (info_pre.trans (by rw [Array.length_toList, size_pre]))
  rw [Array.toArray_toList] at h2
  exact gives_value (w' := w) (by simp only [execOp, hx, Sem.run_bind, h2, Result.andThen_ok, Sem.run_pure]) hR
theorem gives_ldt (hx : a.eval x = .pointer (some ⟨g, 0, none⟩)) (hb : Blk w g 34 (tag f)) (hR : R w) : Gives Tryd.prog ⟨dst, .load 34 x, ty, pos, after, gd⟩ a w (.agg (tag f)) R := by
  have h1 := hb.range 0 32
  rw [Nat.zero_add, show (32 : Nat) = (tag f).size from size_tag.symm, Array.extract_size] at h1
  have h2 := run_loadAt_mid (P := Tryd.prog) w g 0 34 (tag f).toList _ h1 Tryd.underlying34 rfl (info_tag.trans (by rw [Array.length_toList, size_tag]))
  rw [Array.toArray_toList] at h2
  exact gives_value (w' := w) (by simp only [execOp, hx, Sem.run_bind, h2, Result.andThen_ok, Sem.run_pure]) hR
end
theorem slcs_one {w : World} {t : TypeId} {A : Option Addr} {n c : Nat} : Slcs (w.alloc (.cells #[.slice A n c] t)) (w.heap.size + 1) (some ⟨w.heap.size, 0, none⟩) 1 fun _ => n := fun _ =>
  ⟨w.heap.size, 0, rfl, Nat.lt_succ_self _, fun i hi => by
    obtain rfl : i = 0 := by omega
    exact ⟨A, c, (Blk.top (t := t) rfl rfl).cell 0⟩⟩
/-- What the operations of the last line yield. -/
def tS (T U : Nat → Nat) (f2 : Nat → Nat) (g2 g5 g6 : Nat) : Nat → Value → Prop
  | 0, v => v = .int .i64 0
  | 1, v => v = .bool true
  | 2, v => v = .bool true
  | 3, v => v = .int .i64 0
  | 4, v => v = .bool true
  | 5, v => v = .bool true
  | 6, v => v = .bool true
  | 7, v => v = .agg (tag T)
  | 8, v => v = .agg (tag T)
  | 9, v => v = .bool true
  | 10, v => v = .bool true
  | 11, v => v = .bool true
  | 12, v => v = .agg (pre f2 64 true)
  | 13, v => v = .slice (some ⟨g5, 0, none⟩) 32 32
  | 14, v => v = .agg (tag U)
  | 16, v => v = .slice (some ⟨g2, 0, none⟩) 64 64
  | 18, v => v = .slice (some ⟨g6, 0, none⟩) 32 32
  | 20, v => v = .agg (tag U)
  | 21, v => v = .bool true
  | 22, v => v = .bool true
  | 23, v => v = .bool true
  | 24, v => v = .bool true
  | 25, v => v = .bool true
  | _, _ => True
def tV (T U : Nat → Nat) (f2 : Nat → Nat) (g2 g5 g6 : Nat) : Nat → Value
  | 0 => .int .i64 0
  | 3 => .int .i64 0
  | 7 => .agg (tag T)
  | 8 => .agg (tag T)
  | 12 => .agg (pre f2 64 true)
  | 13 => .slice (some ⟨g5, 0, none⟩) 32 32
  | 14 => .agg (tag U)
  | 16 => .slice (some ⟨g2, 0, none⟩) 64 64
  | 18 => .slice (some ⟨g6, 0, none⟩) 32 32
  | 20 => .agg (tag U)
  | _ => .bool true
theorem tS_ok (T U f2 : Nat → Nat) (g2 g5 g6 : Nat) : ∀ j, tS T U f2 g2 g5 g6 j (tV T U f2 g2 g5 g6 j)
  | 0 | 1 | 2 | 3 | 4 | 5 | 6 | 7 | 8 | 9 | 10 | 11 | 12 | 13 | 14 | 16 | 18 | 20 | 21 | 22 | 23 | 24 | 25 => rfl
  | 15 | 17 | 19 => trivial
  | _ + 26 => trivial
def tD (B : Nat) (o a : List Nat) : Nat → (Nat → Value) → World → Prop
  | 15, vs, w => Own 5 .u8 w B (vs 15) []
  | 17, vs, w => Own 5 .u8 w B (vs 17) o
  | 19, vs, w => Own 5 .u8 w B (vs 19) a
  | _, _, _ => True
theorem tD_below {B : Nat} {o a : List Nat} {vs : Nat → Value} {w w' : World} (j : Nat) (h : tD B o a j vs w) (hb : Below w.heap.size w w') : tD B o a j vs w' := by
  unfold tD at h ⊢
  split <;> first | exact Own.below h hb | trivial
theorem tD_loc {B : Nat} {o a : List Nat} {vs : Nat → Value} {w : World} {i j : Nat} {v : Value} (hji : j ≠ i) (h : tD B o a j vs w) : tD B o a j (updV vs i v) w := by
  unfold tD at h ⊢
  split <;> first | trivial | (simp only [updV_ne _ _ hji]; exact h)
def tK (L : Array Oper) (B : Nat) (o a : List Nat) (i : Nat) (vs : Nat → Value) (w w' : World) : Prop :=
  ∀ j, j ≠ i → Region.waitsFor .any L j i = false → tD B o a j vs w → tD B o a j vs w'
theorem tK_below {L : Array Oper} {B : Nat} {o a : List Nat} {i : Nat} {vs : Nat → Value} {w w' : World} (hb : Below w.heap.size w w') : tK L B o a i vs w w' := fun j _ _ h => tD_below j h hb
theorem tK_app {L : Array Oper} {B : Nat} {o a m : List Nat} {i : Nat} {vs : Nat → Value} {w w' : World} {u : Value} (hu : Own 5 .u8 w B u m) (hg : w.grownBy w' u.ownBlock) (hu' : Own 5 .u8 w' B u m)
    (h17 : 17 ≠ i → Region.waitsFor .any L 17 i = false → o.length ≤ m.length) (h19 : 19 ≠ i → Region.waitsFor .any L 19 i = false → a.length ≤ m.length) : tK L B o a i vs w w' := by
  intro j hji hwt h
  unfold tD at h ⊢
  split
  · exact Own.beside h hu hg hu' (Nat.zero_le _)
  · exact Own.beside h hu hg hu' (h17 hji hwt)
  · exact Own.beside h hu hg hu' (h19 hji hwt)
  · trivial
set_option maxHeartbeats 1000000 in
set_option maxRecDepth 100000 in
theorem two_short (f k : Nat → Nat) (hf : ∀ j, f j < 256) (hk : ∀ j, k j < 256) (A : Option Addr) (l : List Nat) (n cap : Nat) (hn3 : n ≤ 3000) (w : World) (hA : Arg w A l n cap) (hS : Salts w) :
    Calls Tryd.prog 7 #[.agg (bts 64 f), .agg (bts 64 k), .slice A n cap] w fun e w' => e = .returned (.bool true) ∧ Below w.heap.size w w' := by
  have SA := hid hS
  have HA := hid hA
  have HF := hid hf
  have HK := hid hk
  have hL : longB 1 (fun _ => n) = false := longB_no fun i _ => by omega
  have HLB := hid hL
  clear hS hL hA hf hk
  go_enter Tryd.func7, Tryd.ntmps7
  go_upto_region 1 with fail
  generalize hw1 : World.alloc w _ = w1
  generalize hw2 : World.alloc w1 _ = w2
  obtain ⟨g1, hg1⟩ : ∃ g, g = w.heap.size := ⟨_, rfl⟩
  obtain ⟨g2, hg2⟩ : ∃ g, g = g1 + 1 := ⟨_, rfl⟩
  have hg3 : g2 = w1.heap.size := by rw [← hw1, hg2, hg1]; simp
  have c1 : Blk w2 g1 46 (bts 64 f) := by rw [← hw2, ← hw1, hg1]; exact (Blk.top rfl rfl).alloc _
  have c2 : Blk w2 g2 46 (bts 64 k) := by rw [← hw2, hg3]; exact Blk.top rfl rfl
  have b2 : Below w.heap.size w w2 := by rw [← hw2, ← hw1]; exact ((Below.refl _ _).alloc (Nat.le_refl _) _).alloc (by simp) _
  rw [← hg1, ← hg2]
  have C1 := hid c1
  have C2 := hid c2
  have B2 := hid b2
  clear hw1 hw2 c1 c2 b2 hg3 hg1 hg2
  clear w1
  go_wp2_with fail
  refine (long_any _ 1 1 (fun _ => n) (fun i => by omega) (by omega) _ (by have h := slcs_one (w := w2) (t := 22) (A := A) (n := n) (c := cap); rw [show (w2.alloc (.cells #[.slice A n cap] 22)).heap.size = w2.heap.size + 1 by simp]; exact h)).mono ?_
  rintro e w3 ⟨rfl, rfl⟩
  rw [HLB.out]
  have b23 : Below w2.heap.size w2 (w2.alloc (.cells #[.slice A n cap] 22)) := (Below.refl _ _).alloc (Nat.le_refl _) _
  generalize World.alloc w2 _ = w3 at *
  have B3 := hid (B2.out.trans (b23.mono B2.out.size))
  have C13 := hid (C1.out.below b23 C1.out.lt)
  have C23 := hid (C2.out.below b23 C2.out.lt)
  clear b23 B2 C1 C2
  generalize w2.heap.size = a2
  clear w2
  go_wp2_with fail
  have a13 := blk_arg C13.out HF.out
  refine (ahead_ok (some ⟨g1, 0, none⟩) (l64 f) 64 64 a13.len (by omega) a13.cap a13.max (by omega) a13.b256 w3 a13.byt (SA.out.on B3.out)).mono ?_
  clear a13
  rintro e w4 ⟨rfl, h4⟩
  have B4 := hid (B3.out.trans (h4.mono B3.out.size))
  have C14 := hid (C13.out.below h4 C13.out.lt)
  have C24 := hid (C23.out.below h4 C23.out.lt)
  clear h4 B3 C13 C23
  clear w3
  obtain ⟨s1, hs1⟩ : ∃ s, s = ShaM.passes ShaM.seeds (l64 f) := ⟨_, rfl⟩
  rw [← hs1]
  have S1 := hid hs1
  clear hs1
  go_upto_region 4 with ((with_reducible apply stp); rfl; rfl; exact Blk.top zlit_pre rfl)
  generalize hw5 : World.setRow _ _ _ = w5
  obtain ⟨g3, hg3⟩ : ∃ g, g = w4.heap.size := ⟨_, rfl⟩
  have c5 : Blk w5 g3 29 (pre s1.get 64 true) := by rw [← hw5, hg3]; exact (Blk.top zlit_pre rfl).setRow_same _
  have b45 : Below w4.heap.size w4 w5 := by rw [← hw5]; exact below_setRow ((Below.refl _ _).alloc (Nat.le_refl _) _) (Nat.le_refl _) _
  rw [← hg3]
  have B5 := hid (B4.out.trans (b45.mono B4.out.size))
  have C15 := hid (C14.out.below b45 C14.out.lt)
  have C25 := hid (C24.out.below b45 C24.out.lt)
  have D5 := hid c5
  clear hw5 hg3 c5 b45 B4 C14 C24
  clear w4
  go_wp2_with fail
  have a25 := blk_arg C25.out HK.out
  refine (ahead_ok (some ⟨g2, 0, none⟩) (l64 k) 64 64 a25.len (by omega) a25.cap a25.max (by omega) a25.b256 w5 a25.byt (SA.out.on B5.out)).mono ?_
  clear a25
  rintro e w6 ⟨rfl, h6⟩
  have B6 := hid (B5.out.trans (h6.mono B5.out.size))
  have C16 := hid (C15.out.below h6 C15.out.lt)
  have C26 := hid (C25.out.below h6 C25.out.lt)
  have D6 := hid (D5.out.below h6 D5.out.lt)
  clear h6 B5 C15 C25 D5
  clear w5
  obtain ⟨s2, hs2⟩ : ∃ s, s = ShaM.passes ShaM.seeds (l64 k) := ⟨_, rfl⟩
  rw [← hs2]
  have S2 := hid hs2
  clear hs2
  go_upto_region 5 with ((with_reducible apply stp); rfl; rfl; exact Blk.top zlit_pre rfl)
  generalize hw7 : World.setRow _ _ _ = w7
  obtain ⟨g4, hg4⟩ : ∃ g, g = w6.heap.size := ⟨_, rfl⟩
  have c7 : Blk w7 g4 29 (pre s2.get 64 true) := by rw [← hw7, hg4]; exact (Blk.top zlit_pre rfl).setRow_same _
  have b67 : Below w6.heap.size w6 w7 := by rw [← hw7]; exact below_setRow ((Below.refl _ _).alloc (Nat.le_refl _) _) (Nat.le_refl _) _
  rw [← hg4]
  have B7 := hid (B6.out.trans (b67.mono B6.out.size))
  have C17 := hid (C16.out.below b67 C16.out.lt)
  have C27 := hid (C26.out.below b67 C26.out.lt)
  have D7 := hid (D6.out.below b67 D6.out.lt)
  have E7 := hid c7
  clear hw7 hg4 c7 b67 B6 C16 C26 D6
  clear w6
  have d7 := D7.out
  go_wp2_with ((with_reducible apply ldpg); rfl; rfl; exact d7)
  clear d7
  have a7 := HA.out.on B7.out
  refine (psum_ok s1 (by rw [S1.out]; exact ShaM.passes_ok _ (Nat.le_refl _) ShaM.seeds_ok) A l n cap 64 a7.len (by omega) a7.cap a7.max (by omega) a7.b256 w7 a7.byt (SA.out.on B7.out)).mono ?_
  clear a7
  rintro e w8 ⟨rfl, h8⟩
  obtain ⟨T, hT⟩ : ∃ T, T = ShaM.digest (ShaM.ended s1 64 l) := ⟨_, rfl⟩
  rw [← hT]
  have HT := hid hT
  have B8 := hid (B7.out.trans (h8.mono B7.out.size))
  have C18 := hid (C17.out.below h8 C17.out.lt)
  have C28 := hid (C27.out.below h8 C27.out.lt)
  have E8 := hid (E7.out.below h8 E7.out.lt)
  clear hT h8 B7 C17 C27 D7 E7
  clear w7
  go_upto_region 6 with ((with_reducible apply stt); rfl; rfl; exact Blk.top zlit_tag rfl)
  generalize hw9 : World.setRow _ _ _ = w9
  obtain ⟨g5, hg5⟩ : ∃ g, g = w8.heap.size := ⟨_, rfl⟩
  have c9 : Blk w9 g5 34 (tag T) := by rw [← hw9, hg5]; exact (Blk.top zlit_tag rfl).setRow_same _
  have b89 : Below w8.heap.size w8 w9 := by rw [← hw9]; exact below_setRow ((Below.refl _ _).alloc (Nat.le_refl _) _) (Nat.le_refl _) _
  rw [← hg5]
  have B9 := hid (B8.out.trans (b89.mono B8.out.size))
  have C19 := hid (blk_arg (C18.out.below b89 C18.out.lt) HF.out)
  have C29 := hid (C28.out.below b89 C28.out.lt)
  have E9 := hid (E8.out.below b89 E8.out.lt)
  have F9 := hid c9
  clear hw9 hg5 c9 b89 B8 C18 C28 E8
  clear w8
  have A9 := hid (HA.out.on B9.out)
  go_wp2_with (first
    | (at_builtin; (with_reducible apply wappN_any elt8); rfl; rfl; exact C19.out.none; exact Own.empty w9 (Nat.le_refl _); exact ((C19.out.byt.below ((Below.refl w9.heap.size w9).alloc (Nat.le_refl _) _) (Nat.le_refl _))); exact C19.out.len; (rw [List.length_nil]; omega); (simp); intro v10 w10 o10 g10; have b10 := below_grown ((Below.refl w9.heap.size w9).alloc (Nat.le_refl _) (.cells #[] 5)) g10 (Own.empty (e := 5) (k := .u8) w9 (Nat.le_refl _)) (Nat.le_refl _) (Nat.le_refl _); have O10 := hid o10; have B10 := hid b10; clear o10 b10 g10)
    | (at_builtin; (with_reducible apply wappN_any elt8); rfl; rfl; exact A9.out.none; exact O10.out; exact (A9.out.on B10.out).byt.nums; exact A9.out.len; (rw [List.nil_append, l64_length]; omega); exact B10.out.size; intro v11 w11 o11 g11; have b11 := below_grown B10.out g11 O10.out (Nat.le_refl _) (Nat.le_refl _); have O11 := hid o11; have B11 := hid b11; clear o11 b11 g11))
  have o11 := O11.out
  rw [List.nil_append] at o11
  have hall256 : B256 (l64 f ++ l) := C19.out.b256.append A9.out.b256
  obtain ⟨Aa, ca, e11, a11⟩ := o11.arg hall256
  have hlen : (l64 f ++ l).length = 64 + n := by rw [List.length_append, l64_length, A9.out.len]
  obtain ⟨N, hN⟩ : ∃ N, N = 64 + n := ⟨_, rfl⟩
  rw [← hN] at hlen
  rw [hlen] at e11 a11
  subst e11
  have hN6 : N ≤ 6000 := by omega
  have hsum : ShaM.sum (l64 f ++ l) = T := by
    rw [HT.out, S1.out]; unfold ShaM.sum
    rw [ShaM.ended_append (n := 1) (by rw [l64_length]), Nat.zero_add, l64_length]
  have HSUM := hid hsum
  have A11 := hid a11
  have Bx := hid (B9.out.trans (B11.out.mono B9.out.size))
  have C2x := hid (C29.out.below B11.out C29.out.lt)
  have E1x := hid (E9.out.below B11.out E9.out.lt)
  have F1x := hid (F9.out.below B11.out F9.out.lt)
  clear o11 a11 hlen hN hall256 hsum O10 O11 B10 B11 B9 C19 C29 E9 F9 A9
  go_wp2_with fail
  refine (sum_any Aa (l64 f ++ l) N ca A11.out.len A11.out.cap A11.out.max (by omega) A11.out.b256 w11 A11.out.byt (SA.out.on Bx.out)).mono ?_
  rintro e w12 ⟨rfl, h12⟩
  rw [HSUM.out]
  have By := hid (Bx.out.trans (h12.mono Bx.out.size))
  have C2y := hid (C2x.out.below h12 C2x.out.lt)
  have E1y := hid (E1x.out.below h12 E1x.out.lt)
  have F1y := hid (F1x.out.below h12 F1x.out.lt)
  clear h12 Bx C2x E1x F1x A11 HSUM hN6
  go_upto_region 7 with ((with_reducible apply stt); rfl; rfl; exact Blk.top zlit_tag rfl)
  generalize hw13 : World.setRow _ _ _ = w13
  obtain ⟨g6, hg6⟩ : ∃ g, g = w12.heap.size := ⟨_, rfl⟩
  have c13 : Blk w13 g6 34 (tag T) := by rw [← hw13, hg6]; exact (Blk.top zlit_tag rfl).setRow_same _
  have b13 : Below w12.heap.size w12 w13 := by rw [← hw13]; exact below_setRow ((Below.refl _ _).alloc (Nat.le_refl _) _) (Nat.le_refl _) _
  rw [← hg6]
  have BB := hid (By.out.trans (b13.mono By.out.size))
  have CC := hid (C2y.out.below b13 C2y.out.lt)
  have EE := hid (E1y.out.below b13 E1y.out.lt)
  have FF := hid (F1y.out.below b13 F1y.out.lt)
  have GG := hid c13
  clear hw13 hg6 c13 b13 By C2y E1y F1y
  generalize w9.heap.size = a9
  generalize w11.heap.size = a11
  clear w12 w11 w10 w9
  have T256 : ∀ k, T k < 256 := by rw [HT.out]; exact ShaM.digest_lt _
  have hUS : ShaM.sum (l64 k ++ dl32 T) = ShaM.digest (ShaM.ended s2 64 (dl32 T)) := by
    rw [S2.out]; unfold ShaM.sum
    rw [ShaM.ended_append (n := 1) (by rw [l64_length]), Nat.zero_add, l64_length]
  obtain ⟨U, hU⟩ : ∃ U, U = ShaM.digest (ShaM.ended s2 64 (dl32 T)) := ⟨_, rfl⟩
  rw [← hU] at hUS
  have HU := hid hU
  have HUS := hid hUS
  have HT6 := hid T256
  have S2O := hid (show s2.ok by rw [S2.out]; exact ShaM.passes_ok _ (Nat.le_refl _) ShaM.seeds_ok)
  clear hU hUS T256
  refine wp_region_rel2 (S := tS T U s2.get g2 g5 g6) (D := tD w13.heap.size (l64 k) (l64 k ++ dl32 T)) (K := tK _ w13.heap.size (l64 k) (l64 k ++ dl32 T)) (C := fun w' => Below w13.heap.size w13 w') 26 (by kernel_rfl) (by kernel_rfl) (by kernel_rfl)
    _ (tS_ok T U s2.get g2 g5 g6) (fun i j vs w w' _ hji hwt h hb => hb j hji hwt h) (fun j i vs v w hji _ h => tD_loc hji h) (Below.refl _ _).drew fun vs => ?_
  simp only [List.take_succ_cons, List.take_zero, List.drop_succ_cons, List.drop_zero]
  refine ⟨.inl ⟨rfl, fun w' hC hDs => ⟨_, rfl, ?_⟩⟩, fun e => ?_⟩
  · go_simp
    first | exact ⟨rfl, hC, tK_below (Below.refl _ _), trivial⟩ | exact ⟨hC, tK_below (Below.refl _ _), trivial⟩ | exact ⟨rfl, tK_below (Below.refl _ _), trivial⟩ | exact ⟨tK_below (Below.refl _ _), trivial⟩
  have e' : vs 0 = _ := e
  rw [e']
  clear e e'
  simp only [Act.put, List.setIfInBounds_toArray, List.set_cons_succ, List.set_cons_zero]
  refine ⟨.inl ⟨rfl, fun w' hC hDs => ⟨_, rfl, ?_⟩⟩, fun e => ?_⟩
  · go_simp
    first | exact ⟨rfl, hC, tK_below (Below.refl _ _), trivial⟩ | exact ⟨hC, tK_below (Below.refl _ _), trivial⟩ | exact ⟨rfl, tK_below (Below.refl _ _), trivial⟩ | exact ⟨tK_below (Below.refl _ _), trivial⟩
  have e' : vs 1 = _ := e
  rw [e']
  clear e e'
  simp only [Act.put, List.setIfInBounds_toArray, List.set_cons_succ, List.set_cons_zero]
  refine ⟨.inl ⟨rfl, fun w' hC hDs => ⟨_, rfl, ?_⟩⟩, fun e => ?_⟩
  · go_simp
    first | exact ⟨rfl, hC, tK_below (Below.refl _ _), trivial⟩ | exact ⟨hC, tK_below (Below.refl _ _), trivial⟩ | exact ⟨rfl, tK_below (Below.refl _ _), trivial⟩ | exact ⟨tK_below (Below.refl _ _), trivial⟩
  have e' : vs 2 = _ := e
  rw [e']
  clear e e'
  simp only [Act.put, List.setIfInBounds_toArray, List.set_cons_succ, List.set_cons_zero]
  refine ⟨.inl ⟨rfl, fun w' hC hDs => ⟨_, rfl, ?_⟩⟩, fun e => ?_⟩
  · go_simp
    first | exact ⟨rfl, hC, tK_below (Below.refl _ _), trivial⟩ | exact ⟨hC, tK_below (Below.refl _ _), trivial⟩ | exact ⟨rfl, tK_below (Below.refl _ _), trivial⟩ | exact ⟨tK_below (Below.refl _ _), trivial⟩
  have e' : vs 3 = _ := e
  rw [e']
  clear e e'
  simp only [Act.put, List.setIfInBounds_toArray, List.set_cons_succ, List.set_cons_zero]
  refine ⟨.inl ⟨rfl, fun w' hC hDs => ⟨_, rfl, ?_⟩⟩, fun e => ?_⟩
  · go_simp
    first | exact ⟨rfl, hC, tK_below (Below.refl _ _), trivial⟩ | exact ⟨hC, tK_below (Below.refl _ _), trivial⟩ | exact ⟨rfl, tK_below (Below.refl _ _), trivial⟩ | exact ⟨tK_below (Below.refl _ _), trivial⟩
  have e' : vs 4 = _ := e
  rw [e']
  clear e e'
  simp only [Act.put, List.setIfInBounds_toArray, List.set_cons_succ, List.set_cons_zero]
  refine ⟨.inl ⟨rfl, fun w' hC hDs => ⟨_, rfl, ?_⟩⟩, fun e => ?_⟩
  · go_simp
    first | exact ⟨rfl, hC, tK_below (Below.refl _ _), trivial⟩ | exact ⟨hC, tK_below (Below.refl _ _), trivial⟩ | exact ⟨rfl, tK_below (Below.refl _ _), trivial⟩ | exact ⟨tK_below (Below.refl _ _), trivial⟩
  have e' : vs 5 = _ := e
  rw [e']
  clear e e'
  simp only [Act.put, List.setIfInBounds_toArray, List.set_cons_succ, List.set_cons_zero]
  refine ⟨.inl ⟨rfl, fun w' hC hDs => ⟨_, rfl, ?_⟩⟩, fun e => ?_⟩
  · go_simp
    first | exact ⟨rfl, hC, tK_below (Below.refl _ _), trivial⟩ | exact ⟨hC, tK_below (Below.refl _ _), trivial⟩ | exact ⟨rfl, tK_below (Below.refl _ _), trivial⟩ | exact ⟨tK_below (Below.refl _ _), trivial⟩
  have e' : vs 6 = _ := e
  rw [e']
  clear e e'
  simp only [Act.put, List.setIfInBounds_toArray, List.set_cons_succ, List.set_cons_zero]
  refine ⟨.inl ⟨rfl, fun w' hC hDs => ⟨_, rfl, ?_⟩⟩, fun e => ?_⟩
  · exact gives_ldt rfl (FF.out.below hC FF.out.lt) ⟨hC, tK_below (Below.refl _ _), trivial⟩
  have e' : vs 7 = _ := e
  rw [e']
  clear e e'
  simp only [Act.put, List.setIfInBounds_toArray, List.set_cons_succ, List.set_cons_zero]
  refine ⟨.inl ⟨rfl, fun w' hC hDs => ⟨_, rfl, ?_⟩⟩, fun e => ?_⟩
  · exact gives_ldt rfl (GG.out.below hC GG.out.lt) ⟨hC, tK_below (Below.refl _ _), trivial⟩
  have e' : vs 8 = _ := e
  rw [e']
  clear e e'
  simp only [Act.put, List.setIfInBounds_toArray, List.set_cons_succ, List.set_cons_zero]
  refine ⟨.inl ⟨rfl, fun w' hC hDs => ⟨_, rfl, ?_⟩⟩, fun e => ?_⟩
  · have h1 := eq_tag_self T w'
    have h2 := eqg_tag
    go_simp
    first | exact ⟨rfl, hC, tK_below (Below.refl _ _), trivial⟩ | exact ⟨hC, tK_below (Below.refl _ _), trivial⟩ | exact ⟨rfl, tK_below (Below.refl _ _), trivial⟩ | exact ⟨tK_below (Below.refl _ _), trivial⟩
  have e' : vs 9 = _ := e
  rw [e']
  clear e e'
  simp only [Act.put, List.setIfInBounds_toArray, List.set_cons_succ, List.set_cons_zero]
  refine ⟨.inl ⟨rfl, fun w' hC hDs => ⟨_, rfl, ?_⟩⟩, fun e => ?_⟩
  · go_simp
    first | exact ⟨rfl, hC, tK_below (Below.refl _ _), trivial⟩ | exact ⟨hC, tK_below (Below.refl _ _), trivial⟩ | exact ⟨rfl, tK_below (Below.refl _ _), trivial⟩ | exact ⟨tK_below (Below.refl _ _), trivial⟩
  have e' : vs 10 = _ := e
  rw [e']
  clear e e'
  simp only [Act.put, List.setIfInBounds_toArray, List.set_cons_succ, List.set_cons_zero]
  refine ⟨.inl ⟨rfl, fun w' hC hDs => ⟨_, rfl, ?_⟩⟩, fun e => ?_⟩
  · go_simp
    first | exact ⟨rfl, hC, tK_below (Below.refl _ _), trivial⟩ | exact ⟨hC, tK_below (Below.refl _ _), trivial⟩ | exact ⟨rfl, tK_below (Below.refl _ _), trivial⟩ | exact ⟨tK_below (Below.refl _ _), trivial⟩
  have e' : vs 11 = _ := e
  rw [e']
  clear e e'
  simp only [Act.put, List.setIfInBounds_toArray, List.set_cons_succ, List.set_cons_zero]
  refine ⟨.inl ⟨rfl, fun w' hC hDs => ⟨_, rfl, ?_⟩⟩, fun e => ?_⟩
  · exact gives_ldp2 rfl (EE.out.below hC EE.out.lt) ⟨hC, tK_below (Below.refl _ _), trivial⟩
  have e' : vs 12 = _ := e
  rw [e']
  clear e e'
  simp only [Act.put, List.setIfInBounds_toArray, List.set_cons_succ, List.set_cons_zero]
  refine ⟨.inl ⟨rfl, fun w' hC hDs => ⟨_, rfl, ?_⟩⟩, fun e => ?_⟩
  · go_simp
    first | exact ⟨rfl, hC, tK_below (Below.refl _ _), trivial⟩ | exact ⟨hC, tK_below (Below.refl _ _), trivial⟩ | exact ⟨rfl, tK_below (Below.refl _ _), trivial⟩ | exact ⟨tK_below (Below.refl _ _), trivial⟩
  have e' : vs 13 = _ := e
  rw [e']
  clear e e'
  simp only [Act.put, List.setIfInBounds_toArray, List.set_cons_succ, List.set_cons_zero]
  refine ⟨.inl ⟨rfl, fun w' hC hDs => ⟨_, rfl, ?_⟩⟩, fun e => ?_⟩
  · go_simp
    have a5 := tag_arg32 (FF.out.below hC FF.out.lt) HT6.out
    refine (psum_ok s2 S2O.out (some ⟨g5, 0, none⟩) (dl32 T) 32 32 64 a5.len (by omega) a5.cap a5.max (by omega) a5.b256 w' a5.byt (SA.out.on (BB.out.trans (hC.mono BB.out.size)))).mono fun e w'' ⟨he, hb⟩ => ⟨by rw [HU.out]; exact he, hC.trans (hb.mono hC.size), tK_below hb, trivial⟩
  have e' : vs 14 = _ := e
  rw [e']
  clear e e'
  simp only [Act.put, List.setIfInBounds_toArray, List.set_cons_succ, List.set_cons_zero]
  refine ⟨.inl ⟨rfl, fun w' hC hDs => ⟨.slice (some ⟨w'.heap.size, 0, none⟩) 0 0, trivial, ?_⟩⟩, fun _ => ?_⟩
  · go_simp
    have hb : Below w'.heap.size w' (w'.alloc (.cells #[] 5)) := (Below.refl _ _).alloc (Nat.le_refl _) _
    exact ⟨hC.trans (hb.mono hC.size), tK_below hb, Own.empty w' hC.size⟩
  simp only [Act.put, List.setIfInBounds_toArray, List.set_cons_succ, List.set_cons_zero]
  refine ⟨.inl ⟨rfl, fun w' hC hDs => ⟨_, rfl, ?_⟩⟩, fun e => ?_⟩
  · go_simp
    first | exact ⟨rfl, hC, tK_below (Below.refl _ _), trivial⟩ | exact ⟨hC, tK_below (Below.refl _ _), trivial⟩ | exact ⟨rfl, tK_below (Below.refl _ _), trivial⟩ | exact ⟨tK_below (Below.refl _ _), trivial⟩
  have e' : vs 16 = _ := e
  rw [e']
  clear e e'
  simp only [Act.put, List.setIfInBounds_toArray, List.set_cons_succ, List.set_cons_zero]
  refine ⟨.inl ⟨rfl, fun w' hC hDs => ?_⟩, fun _ => ?_⟩
  · have d : Own 5 .u8 w' w13.heap.size (vs 15) [] := hDs 15 (by kernel_rfl)
    have ar := blk_arg (CC.out.below hC CC.out.lt) HK.out
    refine gives_appS elt8 rfl rfl ar.none d ar.byt.nums ar.len (by simp) hC.size fun v' w'' o1 o2 gr => ?_
    have hb := below_grown hC gr d (Nat.le_refl _) (Nat.le_refl _)
    exact ⟨trivial, hb, tK_app d gr o2 (fun h => absurd rfl h) (fun _ h => False.elim (Bool.false_ne_true (h.symm.trans (by kernel_rfl)))), by show Own 5 .u8 w'' w13.heap.size (updV vs 17 v' 17) _; rw [updV_self]; exact o1⟩
  simp only [Act.put, List.setIfInBounds_toArray, List.set_cons_succ, List.set_cons_zero]
  refine ⟨.inl ⟨rfl, fun w' hC hDs => ⟨_, rfl, ?_⟩⟩, fun e => ?_⟩
  · go_simp
    first | exact ⟨rfl, hC, tK_below (Below.refl _ _), trivial⟩ | exact ⟨hC, tK_below (Below.refl _ _), trivial⟩ | exact ⟨rfl, tK_below (Below.refl _ _), trivial⟩ | exact ⟨tK_below (Below.refl _ _), trivial⟩
  have e' : vs 18 = _ := e
  rw [e']
  clear e e'
  simp only [Act.put, List.setIfInBounds_toArray, List.set_cons_succ, List.set_cons_zero]
  refine ⟨.inl ⟨rfl, fun w' hC hDs => ?_⟩, fun _ => ?_⟩
  · have d : Own 5 .u8 w' w13.heap.size (vs 17) (l64 k) := hDs 17 (by kernel_rfl)
    have ar := tag_arg32 (GG.out.below hC GG.out.lt) HT6.out
    refine gives_appS elt8 rfl rfl ar.none d ar.byt.nums ar.len (by simp [l64_length]) hC.size fun v' w'' o1 o2 gr => ?_
    have hb := below_grown hC gr d (Nat.le_refl _) (Nat.le_refl _)
    exact ⟨trivial, hb, tK_app d gr o2 (fun _ _ => Nat.le_refl _) (fun h => absurd rfl h), by show Own 5 .u8 w'' w13.heap.size (updV vs 19 v' 19) _; rw [updV_self]; exact o1⟩
  simp only [Act.put, List.setIfInBounds_toArray, List.set_cons_succ, List.set_cons_zero]
  refine ⟨.inl ⟨rfl, fun w' hC hDs => ⟨_, rfl, ?_⟩⟩, fun e => ?_⟩
  · have d : Own 5 .u8 w' w13.heap.size (vs 19) (l64 k ++ dl32 T) := hDs 19 (by kernel_rfl)
    obtain ⟨A', c', e19, a19⟩ := d.arg ((l64_256 HK.out).append (dl32_256 HT6.out))
    rw [show (l64 k ++ dl32 T).length = 96 by rw [List.length_append, l64_length, dl32_length]] at e19 a19
    go_simp
    refine (sum_any A' (l64 k ++ dl32 T) 96 c' a19.len a19.cap a19.max (by omega) a19.b256 w' a19.byt (SA.out.on (BB.out.trans (hC.mono BB.out.size)))).mono fun e w'' ⟨he, hb⟩ => ⟨by rw [← HUS.out]; exact he, hC.trans (hb.mono hC.size), tK_below hb, trivial⟩
  have e' : vs 20 = _ := e
  rw [e']
  clear e e'
  simp only [Act.put, List.setIfInBounds_toArray, List.set_cons_succ, List.set_cons_zero]
  refine ⟨.inl ⟨rfl, fun w' hC hDs => ⟨_, rfl, ?_⟩⟩, fun e => ?_⟩
  · have h1 := eq_tag_self U w'
    have h2 := eqg_tag
    go_simp
    first | exact ⟨rfl, hC, tK_below (Below.refl _ _), trivial⟩ | exact ⟨hC, tK_below (Below.refl _ _), trivial⟩ | exact ⟨rfl, tK_below (Below.refl _ _), trivial⟩ | exact ⟨tK_below (Below.refl _ _), trivial⟩
  have e' : vs 21 = _ := e
  rw [e']
  clear e e'
  simp only [Act.put, List.setIfInBounds_toArray, List.set_cons_succ, List.set_cons_zero]
  refine ⟨.inl ⟨rfl, fun w' hC hDs => ⟨_, rfl, ?_⟩⟩, fun e => ?_⟩
  · go_simp
    first | exact ⟨rfl, hC, tK_below (Below.refl _ _), trivial⟩ | exact ⟨hC, tK_below (Below.refl _ _), trivial⟩ | exact ⟨rfl, tK_below (Below.refl _ _), trivial⟩ | exact ⟨tK_below (Below.refl _ _), trivial⟩
  have e' : vs 22 = _ := e
  rw [e']
  clear e e'
  simp only [Act.put, List.setIfInBounds_toArray, List.set_cons_succ, List.set_cons_zero]
  refine ⟨.inl ⟨rfl, fun w' hC hDs => ⟨_, rfl, ?_⟩⟩, fun e => ?_⟩
  · go_simp
    first | exact ⟨rfl, hC, tK_below (Below.refl _ _), trivial⟩ | exact ⟨hC, tK_below (Below.refl _ _), trivial⟩ | exact ⟨rfl, tK_below (Below.refl _ _), trivial⟩ | exact ⟨tK_below (Below.refl _ _), trivial⟩
  have e' : vs 23 = _ := e
  rw [e']
  clear e e'
  simp only [Act.put, List.setIfInBounds_toArray, List.set_cons_succ, List.set_cons_zero]
  refine ⟨.inl ⟨rfl, fun w' hC hDs => ⟨_, rfl, ?_⟩⟩, fun e => ?_⟩
  · go_simp
    refine (awake_any w' (SA.out.on (BB.out.trans (hC.mono BB.out.size)))).mono fun e w'' ⟨he, hb⟩ => ⟨he, hC.trans (hb.mono hC.size), tK_below hb, trivial⟩
  have e' : vs 24 = _ := e
  rw [e']
  clear e e'
  simp only [Act.put, List.setIfInBounds_toArray, List.set_cons_succ, List.set_cons_zero]
  refine ⟨.inl ⟨rfl, fun w' hC hDs => ⟨_, rfl, ?_⟩⟩, fun e => ?_⟩
  · go_simp
    first | exact ⟨rfl, hC, tK_below (Below.refl _ _), trivial⟩ | exact ⟨hC, tK_below (Below.refl _ _), trivial⟩ | exact ⟨rfl, tK_below (Below.refl _ _), trivial⟩ | exact ⟨tK_below (Below.refl _ _), trivial⟩
  have e' : vs 25 = _ := e
  rw [e']
  clear e e'
  simp only [Act.put, List.setIfInBounds_toArray, List.set_cons_succ, List.set_cons_zero]
  intro w14 hC hDs
  clear hDs
  have b14 := BB.out.trans (hC.mono BB.out.size)
  clear hC
  go_wp2_with fail
  go_ret
  exact ⟨rfl, b14⟩
set_option maxHeartbeats 1000000 in
set_option maxRecDepth 100000 in
theorem two_long (f k : Nat → Nat) (A : Option Addr) (n cap : Nat) (hn : n ≤ 9223372036854775807) (hn3 : 3000 < n) (w : World) (hS : Salts w) :
    Calls Tryd.prog 7 #[.agg (bts 64 f), .agg (bts 64 k), .slice A n cap] w fun e w' => e = .returned (.bool true) ∧ Below w.heap.size w w' := by
  have SA := hid hS
  have hL : longB 1 (fun _ => n) = true := longB_yes (i := 0) (by omega) hn3
  have HLB := hid hL
  clear hS hL
  go_enter Tryd.func7, Tryd.ntmps7
  go_upto_region 1 with fail
  generalize hw1 : World.alloc w _ = w1
  generalize hw2 : World.alloc w1 _ = w2
  have b2 : Below w.heap.size w w2 := by rw [← hw2, ← hw1]; exact ((Below.refl _ _).alloc (Nat.le_refl _) _).alloc (by simp) _
  have B2 := hid b2
  clear hw1 hw2 b2
  clear w1
  go_wp2_with fail
  refine (long_any _ 1 1 (fun _ => n) (fun i => by omega) (by omega) _ (by have h := slcs_one (w := w2) (t := 22) (A := A) (n := n) (c := cap); rw [show (w2.alloc (.cells #[.slice A n cap] 22)).heap.size = w2.heap.size + 1 by simp]; exact h)).mono ?_
  rintro e w3 ⟨rfl, rfl⟩
  rw [HLB.out]
  have b23 : Below w2.heap.size w2 (w2.alloc (.cells #[.slice A n cap] 22)) := (Below.refl _ _).alloc (Nat.le_refl _) _
  generalize World.alloc w2 _ = w3 at *
  have B3 := hid (B2.out.trans (b23.mono B2.out.size))
  clear b23 B2
  go_wp2_with fail
  refine (awake_any w3 (SA.out.on B3.out)).mono ?_
  rintro e w4 ⟨rfl, h4⟩
  have b4 := B3.out.trans (h4.mono B3.out.size)
  clear h4
  go_wp2_with fail
  go_ret
  exact ⟨rfl, b4⟩
theorem two_law (f k : Nat → Nat) (hf : ∀ j, f j < 256) (hk : ∀ j, k j < 256) (A : Option Addr) (l : List Nat) (n cap : Nat) (w : World) (hA : Arg w A l n cap) (hS : Salts w) :
    Calls Tryd.prog 7 #[.agg (bts 64 f), .agg (bts 64 k), .slice A n cap] w fun e w' => e = .returned (.bool true) ∧ Below w.heap.size w w' := by
  have h3 := hA.cap
  have h4 := hA.max
  unfold maxLen at h4
  by_cases h : 3000 < n
  · exact two_long f k A n cap (by omega) h w hS
  · exact two_short f k hf hk A l n cap (by omega) w hA hS
end Go.Proofs.YtdbabldcfohhmaaDoor
