/-
  The law XtsBlocks.
-/
import Derived.Test.YtfnepbkgmopjcaaXtK2
import Derived.Test.YtfnepbkgmopjcaaXtW
import Derived.Test.YtfnepbkgmopjcaaRegNewG
import Derived.Test.YtfnepbkgmopjcaaStr
namespace Go.Proofs.Ytfnepbkgmopjcaa
open Go.ChangeShapes Go.WideShapes Go.ChangeAt Go.RowKit
open AesM (Bt Q16 ls)
open AesP (tBk tKey wr_nat Cip cip_lt size_u8)
attribute [local go_sem] Gives
section
variable {ops : Array Oper} {a : Act} {rest : List Oper} {dst : Option Tmp} {ty : TypeId} {pos : String} {after : Array Edge} {x : Operand} {g o n B : Nat} {f : Nat → Nat} {T : TypeId} {C : World → Prop} {Qk : Act → Prop} {gd : Option (Nat × Bool)}
theorem gldT (hT : ArT T n) (hwt : Region.wanted ⟨dst, .load T x, ty, pos, after, gd⟩ (yielded ops a.tmps) = true) (hx : a.eval x = .pointer (some ⟨g, o, none⟩)) (hb : ∀ w, C w → w.rangeAt g o (ar n f).toList) (h : wpG Try.prog ops B C Qk rest (a.put dst (.agg (ar n f)))) :
    wpG Try.prog ops B C Qk (⟨dst, .load T x, ty, pos, after, gd⟩ :: rest) a :=
  wpG_val hwt (fun w hw => gives_value (w' := w) (by simp only [execOp, hx, Sem.run_bind, run_ldm hT (hb w hw), Result.andThen_ok, Sem.run_pure]) ⟨hw, Kp.refl _ _⟩) h
end
namespace XtP
theorem Mo.atWork {W w1 w' : World} {g c d : Nat} {K L : Nat → Nat} (h : Mo W w1 g c d K L w') :
    Calls Try.prog 14 #[] w' fun e w2 => e = .returned (.bool true) ∧ Mo W w1 g c d K L w2 := (works_any w').mono fun _ _ ⟨he, hb⟩ => ⟨he, h.below hb⟩
theorem Mo.sealG {W w1 w' : World} {g c d n B : Nat} {K L s : Nat → Nat} (h : Mo W w1 g c d K L w') (hB : c < B) (hK : Bt K) (hL : Bt L) (hs : Bt s) (hn : n < 18446744073709551616) :
    Calls Try.prog 10 #[.pointer (some ⟨g, 0, none⟩), .int .u64 n, .agg (ar 64 s)] w' fun e w2 => e = .returned (.agg (ar 64 (XtM.sect (AesM.sealM K) (AesM.sealM L (XtM.tw n)) s))) ∧ Mo W w1 g c d K L w2 ∧ Kp B w' w2 :=
  (sealing_any K L s hK hL hs n hn g c d w' h.1 h.2.1 h.2.2.1).mono fun _ _ ⟨he, hk⟩ => ⟨he, h.kc hk, Kp.of_only hk.2 hB⟩
theorem sl_two {g q : Nat} (hq : q ≤ 48) (w : World) : (Instr.sliceAt 28 (.pointer (some ⟨g, 0, none⟩)) (some (.int .i64 q)) (some (.int .i64 ((q + 16 : Nat)))) none).run Try.prog w = .ok (.slice (some ⟨g, q, none⟩) 16 (64 - q)) w := by
  have hl : Try.prog.arrayLen 28 = 64 := by kernel_rfl
  have he : Try.prog.elem 28 = 5 := by kernel_rfl
  rw [run_sliceAt_array_lh w 28 _ (by rw [hl, he]; exact Try.underlying28) .i64 .i64 q ((q + 16 : Nat)) (by omega) (by omega) (by rw [hl]; omega), he, size_u8, hl]
  simp only [Result.andThen_ok, slicedAt, Int.toNat_natCast]
  rw [if_neg (by omega), Addr.add_mid, Nat.mul_one, Nat.zero_add, show q + 16 - q = 16 by omega]
theorem sl_bytes {g o : Nat} (w : World) : (Instr.sliceAt 35 (.pointer (some ⟨g, o, none⟩)) none none none).run Try.prog w = .ok (.slice (some ⟨g, o, none⟩) 16 16) w := by
  have hl : Try.prog.arrayLen 35 = 16 := by kernel_rfl
  have he : Try.prog.elem 35 = 5 := by kernel_rfl
  rw [run_sliceAt_array_all w 35 _ (by rw [hl, he]; exact Try.underlying35), he, size_u8, hl]
  simp only [Result.andThen_ok, slicedAt]
  rw [if_neg (by omega), Addr.add_mid, Nat.zero_mul, Nat.add_zero]
/-- The bytes of one block, as a list. -/
def bl (F : Nat → Nat) (q : Nat) : List Nat := (List.range 16).map fun j => F (q + j)
theorem bl_length {F : Nat → Nat} {q : Nat} : (bl F q).length = 16 := by simp [bl]
theorem bl_bt {F : Nat → Nat} {q : Nat} (h : Bt F) : ∀ x ∈ bl F q, x < 256 := fun x hx => by
  unfold bl at hx
  obtain ⟨j, _, rfl⟩ := List.mem_map.1 hx
  exact h _
theorem bl_eq {F G : Nat → Nat} {q : Nat} : bl F q = bl G q ↔ ∀ j, j < 16 → F (q + j) = G (q + j) := by
  unfold bl
  constructor
  · intro h j hj
    have := congrArg (fun l : List Nat => l[j]?) h
    simpa [List.getElem?_map, List.getElem?_range hj] using this
  · intro h
    exact List.map_congr_left fun j hj => h j (List.mem_range.1 hj)
theorem bl_str {w : World} {g q : Nat} {ty : TypeId} {F : Nat → Nat} (hF : Bt F) (hq : q ≤ 48) (hb : Blk w g ty (ar 64 F)) : (convert 41 9 (.slice (some ⟨g, q, none⟩) 16 (64 - q))).run Try.prog w = .ok (.string (str (bl F q))) w := by
  refine run_bytes_str (B := w.heap.size) bl_length (bl_bt hF) (fun e => by cases e) ?_
  intro _
  refine ⟨g, q, rfl, hb.lt, fun j hj => ?_⟩
  rw [bl_length] at hj
  rw [hb.cell, get_ar (by omega)]
  unfold bl
  rw [List.getD_eq_getElem?_getD, List.getElem?_map, List.getElem?_range hj]; rfl
/-- With another block at one place: the same place's block tells whether the sectors are the same. -/
theorem block_told {K L s f : Nat → Nat} {k q : Nat} (hK : Bt K) (hL : Bt L) (hs : Bt s) (hf : Bt f) (n : Nat) (hq : q = 16 * k) (hk : k < 4) :
    (∀ j, j < 16 → XtM.sect (AesM.sealM K) (AesM.sealM L (XtM.tw n)) s (q + j) = XtM.sect (AesM.sealM K) (AesM.sealM L (XtM.tw n)) (putA q 16 s f) (q + j)) ↔ ∀ j, j < 64 → s j = putA q 16 s f j := by
  have hp : Bt (putA q 16 s f) := fun j => by unfold putA; split; exact hf _; exact hs _
  constructor
  · intro h j hj
    by_cases e : j / 16 = k
    · rw [← back_sealed hK hL hs n j, ← back_sealed hK hL hp n j]
      refine XtM.sect_congr (fun _ _ h => AesM.open_q h) fun i hi => ?_
      have := h (i - q) (by omega)
      rwa [show q + (i - q) = i by omega] at this
    · unfold putA
      rw [if_neg (by omega)]
  · intro h j hj
    exact XtM.sect_congr (fun _ _ h => AesM.seal_q h) fun i hi => h i (by omega)
theorem put_bt {s f : Nat → Nat} {q : Nat} (hs : Bt s) (hf : Bt f) : Bt (putA q 16 s f) := fun j => by unfold putA; split; exact hf _; exact hs _
set_option maxHeartbeats 1600000 in
set_option maxRecDepth 100000 in
theorem blocks_law (k t : Nat → Nat) (n : Nat) (s : Nat → Nat) (a : Nat) (f : Nat → Nat) (hk : Bt k) (ht : Bt t) (hn : n < 18446744073709551616) (hs : Bt s) (ha : a < 256) (hf : Bt f) (W : World) :
    Calls Try.prog 6 #[.agg (ksV k t n), .agg (ar 64 s), .agg (bkV a f)] W fun e w' => e = .returned (.bool true) ∧ Below W.heap.size W w' := by
  have HK := hid hk
  have HT := hid ht
  have HN := hid hn
  have HS := hid hs
  have HF := hid hf
  have KK := hid (AesM.ks_bt hk)
  have KT := hid (AesM.ks_bt ht)
  clear hk ht hn hs hf
  obtain ⟨m, hm⟩ : ∃ m, m = a % 4 := ⟨_, rfl⟩
  obtain ⟨q, hq⟩ : ∃ q, q = 16 * m := ⟨_, rfl⟩
  have hm4 : m < 4 := by omega
  have E1 : (a : Int) % 4 = (m : Int) := by omega
  have E2 : IntKind.i64.wrap (16 * (m : Int)) = (q : Int) := wr_nat (by omega) (by omega)
  have HQ := hid hq
  have hq48 : q ≤ 48 := by omega
  clear hm hq
  go_enter Try.func6, Try.ntmps6
  go_upto_region 1 with fail
  generalize hw1 : World.alloc (World.alloc (World.alloc W _) _) _ = w1
  have b0 := hid (show Blk w1 W.heap.size 26 (ksV k t n) by rw [← hw1]; exact ((Blk.new _ _ _).alloc _).alloc _)
  have b1 := hid (show Blk w1 (W.heap.size + 1) 28 (ar 64 s) by rw [← hw1]; exact (Blk.top rfl (by simp)).alloc _)
  have b2 := hid (show Blk w1 (W.heap.size + 2) 40 (bkV a f) by rw [← hw1]; exact Blk.top rfl (by simp))
  have hb := hid (show Below W.heap.size W w1 by rw [← hw1]; exact (((Below.refl _ _).alloc (Nat.le_refl _) _).alloc (by simp) _).alloc (by simp; omega) _)
  clear hw1
  have q0 : w1.cell? ⟨W.heap.size + 1 + 1, 0, none⟩ = some (.int .u8 a) := block_at b2.out
  go_upto_region 2 with fail
  clear q0
  have hl1 := b2.out.lt
  have hz : Blk (w1.alloc (.cells (ar 64 fun _ => 0) 28)) w1.heap.size 28 (ar 64 fun _ => 0) := Blk.new _ _ _
  obtain ⟨gx, hgx⟩ : ∃ gx, gx = w1.heap.size := ⟨_, rfl⟩
  go_upto_region 3 with (first | ((with_reducible apply ldA tSec); rfl; exact b1.out) | (with_reducible apply alA tSec) | ((with_reducible apply stA tSec); rfl; rfl; exact hz))
  rw [← hgx] at hz hl1 ⊢
  generalize hw2 : World.setRow _ _ _ = w2
  have d0 := hid (show Blk w2 W.heap.size 26 (ksV k t n) by rw [← hw2]; exact (b0.out.alloc _).setRow_other (by omega) _)
  have d1 := hid (show Blk w2 (W.heap.size + 1) 28 (ar 64 s) by rw [← hw2]; exact (b1.out.alloc _).setRow_other (by omega) _)
  have d2 := hid (show Blk w2 (W.heap.size + 2) 40 (bkV a f) by rw [← hw2]; exact (b2.out.alloc _).setRow_other (by omega) _)
  have dx := hid (show Blk w2 gx 28 (ar 64 s) by rw [← hw2]; exact hz.setRow_same _)
  have db := hid (show Below W.heap.size W w2 by rw [← hw2]; exact below_setRow (hb.out.alloc hb.out.size _) (by omega) _)
  clear hw2 hz b0 b1 b2 hb hgx E1 E2
  obtain ⟨q2, hq2⟩ : ∃ q2, q2 = q + 16 := ⟨_, rfl⟩
  have E3 := hid (show IntKind.i64.wrap ((q : Int) + 16) = (q2 : Int) from wr_nat (by omega) (by omega))
  have HQ2 := hid hq2
  clear hq2
  refine wp_region_tail (C := Drew w2) 6 (by kernel_rfl) (by kernel_rfl) (by kernel_rfl) (Drew.refl _) ?_
  simp only [List.take_succ_cons, List.take_zero, List.drop_succ_cons, List.drop_zero]
  apply wpK_val
  · rfl
  · intro w' hw'
    go_simp
    first | exact rfl | exact ⟨rfl, hw'⟩
  simp only [Act.put, List.setIfInBounds_toArray, List.set_cons_succ, List.set_cons_zero]
  apply wpK_val
  · rfl
  · intro w' hw'
    go_simp
    first | exact rfl | exact ⟨rfl, hw'⟩
  simp only [Act.put, List.setIfInBounds_toArray, List.set_cons_succ, List.set_cons_zero]
  apply wpK_val
  · rfl
  · intro w' hw'
    have h1 : _ := E3.out
    go_simp
    first | exact rfl | exact ⟨rfl, hw'⟩
  simp only [Act.put, List.setIfInBounds_toArray, List.set_cons_succ, List.set_cons_zero]
  apply wpK_val
  · rfl
  · intro w' hw'
    have h1 : (Instr.sliceAt 28 (.pointer (some ⟨gx, 0, none⟩)) (some (.int .i64 q)) (some (.int .i64 (q2 : Nat))) none).run Try.prog w' = .ok (.slice (some ⟨gx, q, none⟩) 16 (64 - q)) w' := by rw [HQ2.out]; exact sl_two hq48 w'
    go_simp
    first | exact rfl | exact ⟨rfl, hw'⟩
  simp only [Act.put, List.setIfInBounds_toArray, List.set_cons_succ, List.set_cons_zero]
  apply wpK_val
  · rfl
  · intro w' hw'
    go_simp
    first | exact rfl | exact ⟨rfl, hw'⟩
  simp only [Act.put, List.setIfInBounds_toArray, List.set_cons_succ, List.set_cons_zero]
  apply wpK_val
  · rfl
  · intro w' hw'
    have h1 : _ := sl_bytes (g := W.heap.size + 1 + 1) (o := 1) w'
    go_simp
    first | exact rfl | exact ⟨rfl, hw'⟩
  simp only [Act.put, List.setIfInBounds_toArray, List.set_cons_succ, List.set_cons_zero]
  refine wpK_nil fun w3 hw3 => ?_
  have e0 := hid (hw3.blk d0.out)
  have e1 := hid (hw3.blk d1.out)
  have e2 := hw3.blk d2.out
  have ex := hw3.blk dx.out
  have eb := hid (hw3.below db.out)
  have hr := block_bytes e2
  clear d0 d1 d2 dx db hw3
  go_upto_region 4 with ((with_reducible apply wcopyA); rfl; rfl; exact ex; exact hr; rfl; omega)
  generalize hw4 : World.setRow _ _ _ = w4
  have d0 := hid (show Blk w4 W.heap.size 26 (ksV k t n) by rw [← hw4]; exact e0.out.setRow_other (by omega) _)
  have d1 := hid (show Blk w4 (W.heap.size + 1) 28 (ar 64 s) by rw [← hw4]; exact e1.out.setRow_other (by omega) _)
  have dx := hid (show Blk w4 gx 28 (ar 64 (putA q 16 s f)) by rw [← hw4]; exact ex.setRow_same _)
  have db := hid (show Below W.heap.size W w4 by rw [← hw4]; exact below_setRow eb.out (by omega) _)
  clear hw4 e0 e1 e2 ex eb hr
  have hl4 := dx.out.lt
  have HP := hid (put_bt (q := q) HS.out HF.out)
  go_wp2_with (first | ((with_reducible apply ldAm tKey); rfl; exact keys_data d0.out) | ((with_reducible apply ldAm tKey); rfl; exact keys_tweak d0.out))
  refine (mode_any k t HK.out HT.out w4).mono ?_
  rintro e w5 ⟨g, c, d, rfl, hg, hc, hd, hm, kc, kd, h5⟩
  have e0 := hid (d0.out.below h5 d0.out.lt)
  have e1 := hid (d1.out.below h5 d1.out.lt)
  have ex := hid (dx.out.below h5 dx.out.lt)
  have KM := hid (Mo.start (W := W) hm ⟨_, kc⟩ ⟨_, kd⟩ (Nat.le_trans db.out.size hc) (db.out.trans (h5.mono db.out.size)))
  have n0 : W.heap.size ≠ c := by omega
  have n1 : W.heap.size + 1 ≠ c := by omega
  have nx : gx ≠ c := by omega
  clear d0 d1 dx db hg hc hd hm kc kd h5 hl4
  have hlc := KM.out.lt
  go_wp2_with fail
  refine wp_region_new2g (C := Mo W w5 g c d (AesM.ks k) (AesM.ks t)) 10 28 (ar 64 fun _ => 0) 10 11 rfl rfl (by kernel_rfl) (by kernel_rfl) (by kernel_rfl) (run_alloc_ar tSec) KM.out.drew (fun w' hw' => hw'.alloc _) (fun w' hw' => hw'.2.2.2.2.2.2) ?_
  simp only [List.take_succ_cons, List.take_zero, List.drop_succ_cons, List.drop_zero]
  apply wpG_val
  · rfl
  · intro w' hw'
    go_simp
    first | exact ⟨rfl, hw', Kp.refl _ _⟩ | exact ⟨hw', Kp.refl _ _⟩ | exact ⟨rfl, Kp.refl _ _⟩ | exact Kp.refl _ _
  simp only [Act.put, List.setIfInBounds_toArray, List.set_cons_succ, List.set_cons_zero]
  apply wpG_val
  · rfl
  · intro w' hw'
    go_simp
    first | exact ⟨rfl, hw', Kp.refl _ _⟩ | exact ⟨hw', Kp.refl _ _⟩ | exact ⟨rfl, Kp.refl _ _⟩ | exact Kp.refl _ _
  simp only [Act.put, List.setIfInBounds_toArray, List.set_cons_succ, List.set_cons_zero]
  apply wpG_val
  · rfl
  · intro w' hw'
    have hcell := keys_num (hw'.blk e0.out n0)
    go_simp
    first | exact ⟨rfl, hw', Kp.refl _ _⟩ | exact ⟨hw', Kp.refl _ _⟩ | exact ⟨rfl, Kp.refl _ _⟩ | exact Kp.refl _ _
  simp only [Act.put, List.setIfInBounds_toArray, List.set_cons_succ, List.set_cons_zero]
  apply gldT tSec
  · rfl
  · rfl
  · exact fun w' hw' => (hw'.blk e1.out n1).head
  simp only [Act.put, List.setIfInBounds_toArray, List.set_cons_succ, List.set_cons_zero]
  apply wpG_val
  · rfl
  · intro w' hw'
    go_simp
    exact hw'.sealG hlc KK.out KT.out HS.out HN.out
  simp only [Act.put, List.setIfInBounds_toArray, List.set_cons_succ, List.set_cons_zero]
  apply wpG_val
  · rfl
  · intro w' hw'
    go_simp
    first | exact ⟨rfl, hw', Kp.refl _ _⟩ | exact ⟨hw', Kp.refl _ _⟩ | exact ⟨rfl, Kp.refl _ _⟩ | exact Kp.refl _ _
  simp only [Act.put, List.setIfInBounds_toArray, List.set_cons_succ, List.set_cons_zero]
  apply wpG_val
  · rfl
  · intro w' hw'
    go_simp
    first | exact ⟨rfl, hw', Kp.refl _ _⟩ | exact ⟨hw', Kp.refl _ _⟩ | exact ⟨rfl, Kp.refl _ _⟩ | exact Kp.refl _ _
  simp only [Act.put, List.setIfInBounds_toArray, List.set_cons_succ, List.set_cons_zero]
  apply wpG_val
  · rfl
  · intro w' hw'
    have hcell := keys_num (hw'.blk e0.out n0)
    go_simp
    first | exact ⟨rfl, hw', Kp.refl _ _⟩ | exact ⟨hw', Kp.refl _ _⟩ | exact ⟨rfl, Kp.refl _ _⟩ | exact Kp.refl _ _
  simp only [Act.put, List.setIfInBounds_toArray, List.set_cons_succ, List.set_cons_zero]
  apply gldT tSec
  · rfl
  · rfl
  · exact fun w' hw' => (hw'.blk ex.out nx).head
  simp only [Act.put, List.setIfInBounds_toArray, List.set_cons_succ, List.set_cons_zero]
  apply wpG_val
  · rfl
  · intro w' hw'
    go_simp
    exact hw'.sealG hlc KK.out KT.out HP.out HN.out
  simp only [Act.put, List.setIfInBounds_toArray, List.set_cons_succ, List.set_cons_zero]
  refine wpG_nil fun p r w6 hpr hw6 zp zr hp hr => ?_
  unfold ptr
  obtain ⟨F, hF⟩ : ∃ F, F = XtM.sect (AesM.sealM (AesM.ks k)) (AesM.sealM (AesM.ks t) (XtM.tw n)) s := ⟨_, rfl⟩
  obtain ⟨G, hG⟩ : ∃ G, G = XtM.sect (AesM.sealM (AesM.ks k)) (AesM.sealM (AesM.ks t) (XtM.tw n)) (putA q 16 s f) := ⟨_, rfl⟩
  have FB := hid (show Bt F by rw [hF]; exact sealed_bt KK.out KT.out HS.out n)
  have GB := hid (show Bt G by rw [hG]; exact sealed_bt KK.out KT.out HP.out n)
  have TOLD := hid (show (∀ j, j < 16 → F (q + j) = G (q + j)) ↔ ∀ j, j < 64 → s j = putA q 16 s f j by rw [hF, hG]; exact block_told KK.out KT.out HS.out HF.out n HQ.out hm4)
  have SAME := hid (show ∀ j, j / 16 ≠ m → F j = G j by
    intro j hj
    rw [hF, hG]
    exact XtM.sect_congr (fun _ _ h => AesM.seal_q h) fun i hi => by unfold putA; rw [if_neg (by have := HQ.out; omega)])
  rw [← hF, ← hG]
  clear hF hG
  have x0 := hid (hw6.blk e0.out n0)
  have x1 := hid (hw6.blk e1.out n1)
  have xx := hid (hw6.blk ex.out nx)
  have KM6 := hid hw6.renew
  have hW6 := hw6.base.size
  have zr2 := zr.setRow_other (g' := p) hpr (ar 64 F)
  have hl5 := ex.out.lt
  obtain ⟨lg, lc, ld⟩ := KM.out.three
  clear e0 e1 ex KM hw6
  go_upto_region 6 with (first | ((with_reducible apply stA tSec); rfl; rfl; exact zp) | ((with_reducible apply stA tSec); rfl; rfl; exact zr2))
  generalize hw7 : World.setRow (World.setRow _ _ _) _ _ = w7
  have d1 := hid (show Blk w7 (W.heap.size + 1) 28 (ar 64 s) by rw [← hw7]; exact (x1.out.setRow_other (by omega) _).setRow_other (by omega) _)
  have dx := hid (show Blk w7 gx 28 (ar 64 (putA q 16 s f)) by rw [← hw7]; exact (xx.out.setRow_other (by omega) _).setRow_other (by omega) _)
  have dp := hid (show Blk w7 p 28 (ar 64 F) by rw [← hw7]; exact (zp.setRow_same _).setRow_other (Ne.symm hpr) _)
  have dr := hid (show Blk w7 r 28 (ar 64 G) by rw [← hw7]; exact zr2.setRow_same _)
  have db := hid (show Below W.heap.size W w7 by rw [← hw7]; exact below_setRow (below_setRow KM6.out.base (by omega) _) (by omega) _)
  clear hw7 x0 x1 xx KM6 zp zr zr2
  go_wp2_with fail
  go_loopw [12] (fun u wr => ∃ i : Nat, i ≤ 64 ∧ u = .int .i64 i ∧ Drew w7 wr) (fun u _ => 64 - (intOf u).toNat)
  case atStart => exact ⟨0, by omega, rfl, ⟨0, rfl⟩⟩
  case round =>
    obtain ⟨i, hi, rfl, hwr⟩ := hrel
    by_cases hlt : i < 64
    · have ti : (i : Int) < 64 := by omega
      obtain ⟨x, hx⟩ : ∃ x, x = i / 16 := ⟨_, rfl⟩
      have X1 := hid (show IntKind.i64.wrap ((i : Int) / 16) = (x : Int) from wr_nat (by omega) (by omega))
      have X2 := hid (show IntKind.i64.wrap ((q : Int) / 16) = (m : Int) from wr_nat (by have := HQ.out; omega) (by omega))
      have HX := hid hx
      clear hx
      go_wp2_with fail
      by_cases hxm : x = m
      · subst hxm
        refine wp_region_tail (C := Drew w7) 14 (by kernel_rfl) (by kernel_rfl) (by kernel_rfl) (by obtain ⟨n, rfl⟩ := hwr; exact ⟨n + 1, rfl⟩) ?_
        simp only [List.take_succ_cons, List.take_zero, List.drop_succ_cons, List.drop_zero]
        apply wpK_val
        · rfl
        · intro w' hw'
          go_simp
          first | exact rfl | exact ⟨rfl, hw'⟩
        simp only [Act.put, List.setIfInBounds_toArray, List.set_cons_succ, List.set_cons_zero]
        apply wpK_val
        · rfl
        · intro w' hw'
          have h1 : _ := X1.out
          go_simp
          first | exact rfl | exact ⟨rfl, hw'⟩
        simp only [Act.put, List.setIfInBounds_toArray, List.set_cons_succ, List.set_cons_zero]
        apply wpK_val
        · rfl
        · intro w' hw'
          go_simp
          first | exact rfl | exact ⟨rfl, hw'⟩
        simp only [Act.put, List.setIfInBounds_toArray, List.set_cons_succ, List.set_cons_zero]
        apply wpK_val
        · rfl
        · intro w' hw'
          have h1 : _ := X2.out
          go_simp
          first | exact rfl | exact ⟨rfl, hw'⟩
        simp only [Act.put, List.setIfInBounds_toArray, List.set_cons_succ, List.set_cons_zero]
        apply wpK_val
        · rfl
        · intro w' hw'
          go_simp
          first | exact rfl | exact ⟨rfl, hw'⟩
        simp only [Act.put, List.setIfInBounds_toArray, List.set_cons_succ, List.set_cons_zero]
        apply wpK_val
        · rfl
        · intro w' hw'
          go_simp
          first | exact rfl | exact ⟨rfl, hw'⟩
        simp only [Act.put, List.setIfInBounds_toArray, List.set_cons_succ, List.set_cons_zero]
        apply wpK_not
        · rfl
        simp only [Act.put, List.setIfInBounds_toArray, List.set_cons_succ, List.set_cons_zero]
        apply wpK_not
        · rfl
        simp only [Act.put, List.setIfInBounds_toArray, List.set_cons_succ, List.set_cons_zero]
        apply wpK_not
        · rfl
        simp only [Act.put, List.setIfInBounds_toArray, List.set_cons_succ, List.set_cons_zero]
        apply wpK_not
        · rfl
        simp only [Act.put, List.setIfInBounds_toArray, List.set_cons_succ, List.set_cons_zero]
        apply wpK_not
        · rfl
        simp only [Act.put, List.setIfInBounds_toArray, List.set_cons_succ, List.set_cons_zero]
        apply wpK_not
        · rfl
        simp only [Act.put, List.setIfInBounds_toArray, List.set_cons_succ, List.set_cons_zero]
        apply wpK_not
        · rfl
        simp only [Act.put, List.setIfInBounds_toArray, List.set_cons_succ, List.set_cons_zero]
        apply wpK_val
        · rfl
        · intro w' hw'
          go_simp
          first | exact rfl | exact ⟨rfl, hw'⟩
        simp only [Act.put, List.setIfInBounds_toArray, List.set_cons_succ, List.set_cons_zero]
        refine wpK_nil fun w10 hw10 => ?_
        go_wp2_with fail
        go_roundw
        case rel => exact ⟨i + 1, by omega, by go_num, hw10⟩
        case measure => simp [intOf]; omega
      · have hFG := hid (SAME.out i (by have := HX.out; omega))
        refine wp_region_tail (C := Drew w7) 14 (by kernel_rfl) (by kernel_rfl) (by kernel_rfl) (by obtain ⟨n, rfl⟩ := hwr; exact ⟨n + 1, rfl⟩) ?_
        simp only [List.take_succ_cons, List.take_zero, List.drop_succ_cons, List.drop_zero]
        apply wpK_val
        · rfl
        · intro w' hw'
          go_simp
          first | exact rfl | exact ⟨rfl, hw'⟩
        simp only [Act.put, List.setIfInBounds_toArray, List.set_cons_succ, List.set_cons_zero]
        apply wpK_val
        · rfl
        · intro w' hw'
          have h1 : _ := X1.out
          go_simp
          first | exact rfl | exact ⟨rfl, hw'⟩
        simp only [Act.put, List.setIfInBounds_toArray, List.set_cons_succ, List.set_cons_zero]
        apply wpK_val
        · rfl
        · intro w' hw'
          go_simp
          first | exact rfl | exact ⟨rfl, hw'⟩
        simp only [Act.put, List.setIfInBounds_toArray, List.set_cons_succ, List.set_cons_zero]
        apply wpK_val
        · rfl
        · intro w' hw'
          have h1 : _ := X2.out
          go_simp
          first | exact rfl | exact ⟨rfl, hw'⟩
        simp only [Act.put, List.setIfInBounds_toArray, List.set_cons_succ, List.set_cons_zero]
        apply wpK_val (v := .bool true)
        · rfl
        · intro w' hw'
          have h1 : ¬ (x : Int) = (m : Int) := by omega
          have h2 : ((x : Int) == (m : Int)) = false := beq_eq_false_iff_ne.2 h1
          have h3 : ((x : Int) != (m : Int)) = true := bne_iff_ne.2 h1
          go_simp
        simp only [Act.put, List.setIfInBounds_toArray, List.set_cons_succ, List.set_cons_zero]
        apply wpK_val
        · rfl
        · intro w' hw'
          go_simp
          first | exact rfl | exact ⟨rfl, hw'⟩
        simp only [Act.put, List.setIfInBounds_toArray, List.set_cons_succ, List.set_cons_zero]
        apply wpK_val
        · rfl
        · intro w' hw'
          go_simp
          first | exact rfl | exact ⟨rfl, hw'⟩
        simp only [Act.put, List.setIfInBounds_toArray, List.set_cons_succ, List.set_cons_zero]
        apply wpK_val
        · rfl
        · intro w' hw'
          go_simp
          first | exact rfl | exact ⟨rfl, hw'⟩
        simp only [Act.put, List.setIfInBounds_toArray, List.set_cons_succ, List.set_cons_zero]
        apply wpK_val
        · rfl
        · intro w' hw'
          have hcell := ((hw'.blk dp.out).cell i).trans (get_ar hlt)
          go_simp
          first | exact rfl | exact ⟨rfl, hw'⟩
        simp only [Act.put, List.setIfInBounds_toArray, List.set_cons_succ, List.set_cons_zero]
        apply wpK_val
        · rfl
        · intro w' hw'
          go_simp
          first | exact rfl | exact ⟨rfl, hw'⟩
        simp only [Act.put, List.setIfInBounds_toArray, List.set_cons_succ, List.set_cons_zero]
        apply wpK_val
        · rfl
        · intro w' hw'
          go_simp
          first | exact rfl | exact ⟨rfl, hw'⟩
        simp only [Act.put, List.setIfInBounds_toArray, List.set_cons_succ, List.set_cons_zero]
        apply wpK_val
        · rfl
        · intro w' hw'
          have hcell := ((hw'.blk dr.out).cell i).trans ((get_ar hlt).trans (by rw [← hFG.out]))
          go_simp
          first | exact rfl | exact ⟨rfl, hw'⟩
        simp only [Act.put, List.setIfInBounds_toArray, List.set_cons_succ, List.set_cons_zero]
        apply wpK_val
        · rfl
        · intro w' hw'
          go_simp
          first | exact rfl | exact ⟨rfl, hw'⟩
        simp only [Act.put, List.setIfInBounds_toArray, List.set_cons_succ, List.set_cons_zero]
        apply wpK_val
        · rfl
        · intro w' hw'
          go_simp
          first | exact rfl | exact ⟨rfl, hw'⟩
        simp only [Act.put, List.setIfInBounds_toArray, List.set_cons_succ, List.set_cons_zero]
        refine wpK_nil fun w10 hw10 => ?_
        go_wp2_with fail
        go_roundw
        case rel => exact ⟨i + 1, by omega, by go_num, hw10⟩
        case measure => simp [intOf]; omega
    · have ti : decide ((i : Int) < 64) = false := by simp; omega
      go_wp2_with fail
      have Q3 := hid (show IntKind.i64.wrap ((q : Int) + 16) = (q2 : Int) from wr_nat (by have := HQ2.out; omega) (by have := HQ2.out; omega))
      have hSF : ∀ w' : World, Drew w7 w' → (Instr.sliceAt 28 (.pointer (some ⟨p, 0, none⟩)) (some (.int .i64 q)) (some (.int .i64 (q2 : Nat))) none).run Try.prog w' = .ok (.slice (some ⟨p, q, none⟩) 16 (64 - q)) w' := fun w' _ => by rw [HQ2.out]; exact sl_two hq48 w'
      have hSG : ∀ w' : World, Drew w7 w' → (Instr.sliceAt 28 (.pointer (some ⟨r, 0, none⟩)) (some (.int .i64 q)) (some (.int .i64 (q2 : Nat))) none).run Try.prog w' = .ok (.slice (some ⟨r, q, none⟩) 16 (64 - q)) w' := fun w' _ => by rw [HQ2.out]; exact sl_two hq48 w'
      have ep := hid (hwr.blk dp.out)
      have er := hid (hwr.blk dr.out)
      have e1 := hid (hwr.blk d1.out)
      have ex := hid (hwr.blk dx.out)
      have eb := hid (hwr.below db.out)
      clear dp dr d1 dx db hwr hSF hSG
      obtain ⟨eq, heq⟩ : ∃ eq, eqA 64 s (putA q 16 s f) = eq := ⟨_, rfl⟩
      obtain ⟨X, hX⟩ : ∃ X, X = str (bl F q) := ⟨_, rfl⟩
      obtain ⟨Y, hY⟩ : ∃ Y, Y = str (bl G q) := ⟨_, rfl⟩
      have XY : (X.toList == Y.toList) = eq ∧ (eq = true → X = Y) := by
        rw [← heq]
        by_cases h : ∀ j, j < 64 → s j = putA q 16 s f j
        · have e : X = Y := by rw [hX, hY, bl_eq.2 (TOLD.out.2 h)]
          exact ⟨by rw [eqA_yes h, e]; simp, fun _ => e⟩
        · have e : X ≠ Y := fun e => by
            rw [hX, hY] at e
            exact h (TOLD.out.1 (bl_eq.1 (str_inj (bl_bt FB.out) (bl_bt GB.out) e)))
          exact ⟨by rw [eqA_no h, toList_ne e], fun h2 => by rw [eqA_no h] at h2; cases h2⟩
      have HXY := hid XY
      have HEQ := hid heq
      have HX := hid hX
      have HY := hid hY
      clear heq hX hY XY
      refine wp_region_tail (C := fun w' => Below wr.heap.size wr w') 19 (by kernel_rfl) (by kernel_rfl) (by kernel_rfl) (Below.refl _ _).drew ?_
      simp only [List.take_succ_cons, List.take_zero, List.drop_succ_cons, List.drop_zero]
      apply wpK_val
      · rfl
      · intro w' hw'
        go_simp
        first | exact rfl | exact ⟨rfl, hw'⟩
      simp only [Act.put, List.setIfInBounds_toArray, List.set_cons_succ, List.set_cons_zero]
      apply wpK_val
      · rfl
      · intro w' hw'
        go_simp
        first | exact rfl | exact ⟨rfl, hw'⟩
      simp only [Act.put, List.setIfInBounds_toArray, List.set_cons_succ, List.set_cons_zero]
      apply wpK_val
      · rfl
      · intro w' hw'
        have h1 : _ := Q3.out
        go_simp
        first | exact rfl | exact ⟨rfl, hw'⟩
      simp only [Act.put, List.setIfInBounds_toArray, List.set_cons_succ, List.set_cons_zero]
      apply wpK_val
      · rfl
      · intro w' hw'
        have h1 : (Instr.sliceAt 28 (.pointer (some ⟨p, 0, none⟩)) (some (.int .i64 q)) (some (.int .i64 (q2 : Nat))) none).run Try.prog w' = .ok (.slice (some ⟨p, q, none⟩) 16 (64 - q)) w' := by rw [HQ2.out]; exact sl_two hq48 w'
        go_simp
        first | exact rfl | exact ⟨rfl, hw'⟩
      simp only [Act.put, List.setIfInBounds_toArray, List.set_cons_succ, List.set_cons_zero]
      apply wpK_val
      · rfl
      · intro w' hw'
        have h1 : (convert 41 9 (.slice (some ⟨p, q, none⟩) 16 (64 - q))).run Try.prog w' = .ok (.string X) w' := by rw [HX.out]; exact bl_str FB.out hq48 (ep.out.below hw' ep.out.lt)
        go_simp
        first | exact rfl | exact ⟨rfl, hw'⟩
      simp only [Act.put, List.setIfInBounds_toArray, List.set_cons_succ, List.set_cons_zero]
      apply wpK_val
      · rfl
      · intro w' hw'
        go_simp
        first | exact rfl | exact ⟨rfl, hw'⟩
      simp only [Act.put, List.setIfInBounds_toArray, List.set_cons_succ, List.set_cons_zero]
      apply wpK_val
      · rfl
      · intro w' hw'
        go_simp
        first | exact rfl | exact ⟨rfl, hw'⟩
      simp only [Act.put, List.setIfInBounds_toArray, List.set_cons_succ, List.set_cons_zero]
      apply wpK_val
      · rfl
      · intro w' hw'
        have h1 : _ := Q3.out
        go_simp
        first | exact rfl | exact ⟨rfl, hw'⟩
      simp only [Act.put, List.setIfInBounds_toArray, List.set_cons_succ, List.set_cons_zero]
      apply wpK_val
      · rfl
      · intro w' hw'
        have h1 : (Instr.sliceAt 28 (.pointer (some ⟨r, 0, none⟩)) (some (.int .i64 q)) (some (.int .i64 (q2 : Nat))) none).run Try.prog w' = .ok (.slice (some ⟨r, q, none⟩) 16 (64 - q)) w' := by rw [HQ2.out]; exact sl_two hq48 w'
        go_simp
        first | exact rfl | exact ⟨rfl, hw'⟩
      simp only [Act.put, List.setIfInBounds_toArray, List.set_cons_succ, List.set_cons_zero]
      apply wpK_val
      · rfl
      · intro w' hw'
        have h1 : (convert 41 9 (.slice (some ⟨r, q, none⟩) 16 (64 - q))).run Try.prog w' = .ok (.string Y) w' := by rw [HY.out]; exact bl_str GB.out hq48 (er.out.below hw' er.out.lt)
        go_simp
        first | exact rfl | exact ⟨rfl, hw'⟩
      simp only [Act.put, List.setIfInBounds_toArray, List.set_cons_succ, List.set_cons_zero]
      apply wpK_val
      · rfl
      · intro w' hw'
        have h1 : (X.toList == Y.toList) = eq := HXY.out.1
        go_simp
        first | exact rfl | exact ⟨rfl, hw'⟩
      simp only [Act.put, List.setIfInBounds_toArray, List.set_cons_succ, List.set_cons_zero]
      apply kldA tSec
      · rfl
      · rfl
      · exact fun w' hw' => (e1.out.below hw' e1.out.lt).head
      simp only [Act.put, List.setIfInBounds_toArray, List.set_cons_succ, List.set_cons_zero]
      apply kldA tSec
      · rfl
      · rfl
      · exact fun w' hw' => (ex.out.below hw' ex.out.lt).head
      simp only [Act.put, List.setIfInBounds_toArray, List.set_cons_succ, List.set_cons_zero]
      apply keqT eq uSec eqg_sec
      · rfl
      · rfl
      · rfl
      · exact HEQ.out
      simp only [Act.put, List.setIfInBounds_toArray, List.set_cons_succ, List.set_cons_zero]
      apply wpK_val
      · rfl
      · intro w' hw'
        go_simp
        first | exact rfl | exact ⟨rfl, hw'⟩
      simp only [Act.put, List.setIfInBounds_toArray, List.set_cons_succ, List.set_cons_zero]
      apply wpK_val
      · rfl
      · intro w' hw'
        go_simp
        first | exact rfl | exact ⟨rfl, hw'⟩
      simp only [Act.put, List.setIfInBounds_toArray, List.set_cons_succ, List.set_cons_zero]
      apply wpK_val
      · rfl
      · intro w' hw'
        go_simp
        exact (works_any w').mono fun e w2 h => ⟨h.1, hw'.trans (h.2.mono hw'.size)⟩
      simp only [Act.put, List.setIfInBounds_toArray, List.set_cons_succ, List.set_cons_zero]
      apply wpK_val
      · rfl
      · intro w' hw'
        go_simp
        first | exact rfl | exact ⟨rfl, hw'⟩
      simp only [Act.put, List.setIfInBounds_toArray, List.set_cons_succ, List.set_cons_zero]
      apply wpK_val
      · rfl
      · intro w' hw'
        go_simp
        first | exact rfl | exact ⟨rfl, hw'⟩
      simp only [Act.put, List.setIfInBounds_toArray, List.set_cons_succ, List.set_cons_zero]
      refine wpK_nil fun w9 hw9 => ?_
      have rb := eb.out.trans (hw9.mono eb.out.size)
      clear ep er e1 ex eb hw9
      go_wp2_with fail
      go_ret
      exact ⟨rfl, rb⟩
end XtP
end Go.Proofs.Ytfnepbkgmopjcaa
