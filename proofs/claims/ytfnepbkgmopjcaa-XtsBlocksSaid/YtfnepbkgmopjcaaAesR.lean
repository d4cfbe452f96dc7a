/-
  Contract of aes.roundKeys.
-/
import Derived.Test.YtfnepbkgmopjcaaAesK
import Derived.Laws.CopyOwn
namespace Go.Proofs.Ytfnepbkgmopjcaa
open Go.ChangeShapes Go.WideShapes Go.ChangeAt Go.RowKit
open AesM (Bt)
attribute [local go_sem] Gives
section
variable {ops : Array Oper} {Q : Exit → Act → World → Prop} {a : Act} {w : World} {rest : List Oper} {dst : Option Tmp} {ty : TypeId} {pos : String} {after : Array Edge} {d s : Operand} {f h : Nat → Nat} {t : TypeId}
/-- copy of m bytes into the middle of a row. -/
theorem wcopyA {g o N m b p dLen dCap sLen sCap : Nat} (hd : a.eval d = .slice (some ⟨g, o, none⟩) dLen dCap) (hs : a.eval s = .slice (some ⟨b, p, none⟩) sLen sCap) (hg : Blk w g t (ar N f)) (hr : w.rangeAt b p (ar m h).toList)
    (hm : m = Nat.min sLen dLen) (hfit : o + m ≤ N) (hk : wpList Try.prog ops Q rest (a.put dst (goInt m)) (w.setRow g (ar N (putA o m f h)))) :
    wpList Try.prog ops Q (⟨dst, .call { callee := .builtin .copy, args := #[d, s], argTypes := #[41, 41] }, ty, pos, after, none⟩ :: rest) a w := by
  have hlen : (ar m h).toList.length = m := by rw [Array.length_toList, size_ar]
  refine wpList_copy_own rfl d s 41 41 rfl 5 Try.underlying41 (by kernel_rfl) g o dLen dCap ⟨b, p, none⟩ sLen sCap hd hs (ar N f) t hg (ar m h).toList (by rw [hlen]; exact hm) ?_ (by rw [hlen, size_ar]; omega) ?_ ?_
  · intro j v hj
    rw [Addr.add_mid]
    exact hr j v hj
  · intro v hv
    exact (Array.all_eq_true_iff_forall_mem.1 ar_one) v (by simpa using hv)
  · rw [hlen]
    have e : (List.take o (ar N f).toList ++ ((ar m h).toList ++ (ar N f).toList.drop (o + m))).toArray = ar N (putA o m f h) := by
      apply Array.ext_getElem?
      intro k
      rw [List.getElem?_toArray, List.getElem?_append, List.length_take, Array.length_toList, size_ar, Nat.min_eq_left (by omega)]
      by_cases h1 : k < o
      · rw [if_pos h1, List.getElem?_take_of_lt h1, Array.getElem?_toList, get_ar (by omega), get_ar (by omega)]
        unfold putA; rw [if_neg (by omega)]
      · rw [if_neg h1, List.getElem?_append, hlen]
        by_cases h2 : k - o < m
        · rw [if_pos h2, Array.getElem?_toList, get_ar h2, get_ar (by omega)]
          unfold putA; rw [if_pos (by omega)]
        · rw [if_neg h2, List.getElem?_drop, Array.getElem?_toList, show o + m + (k - o - m) = k by omega]
          by_cases h3 : k < N
          · rw [get_ar h3, get_ar h3]; unfold putA; rw [if_neg (by omega)]
          · rw [ar, ar, get_row, get_row, if_neg h3, if_neg h3]
    rw [e]
    exact hk
/-- A row stored into the middle of one. -/
theorem stAm {T : TypeId} {g o n m : Nat} {x y : Operand} (hT : ArT T m) (hx : a.eval x = .pointer (some ⟨g, o, none⟩)) (hy : a.eval y = .agg (ar m h)) (hb : Blk w g t (ar n f)) (hm : o + m ≤ n)
    (hk : wpList Try.prog ops Q rest (a.put dst undef) (w.setCells g o (ar m h).toList)) : wpList Try.prog ops Q (⟨dst, .store T x y, ty, pos, after, none⟩ :: rest) a w :=
  wpList_store_mid rfl T x y rfl g o (ar m h) hx hy (by rw [size_ar]; exact hb.there hm) (hT.size.trans (by rw [size_ar])) ar_one hk
end
theorem putA_next {N m n o : Nat} {h h' : Nat → Nat} (ho : o = m * n) (he : ∀ i, i < m → h' i = h (m * n + i)) : ar N (putA o m (upTo (m * n) (fun _ => 0) h) h') = ar N (upTo (m * (n + 1)) (fun _ => 0) h) := ar_ext fun j _ => by
  subst ho
  unfold putA upTo
  rw [Nat.mul_add, Nat.mul_one]
  by_cases h1 : m * n ≤ j ∧ j < m * n + m
  · rw [if_pos h1, if_pos h1.2, he _ (by omega), show m * n + (j - m * n) = j by omega]
  · rw [if_neg h1]
    by_cases h2 : j < m * n
    · rw [if_pos h2, if_pos (by omega)]
    · rw [if_neg h2, if_neg (by omega)]
theorem range_below {w w' : World} {B b o : Nat} {cs : List Value} (h : w.rangeAt b o cs) (hb : Below B w w') (hlt : b < B) : w'.rangeAt b o cs := fun j v hj => (hb.cell hlt).trans (h j v hj)
theorem extract_ar {N m o : Nat} {f : Nat → Nat} (h : o + m ≤ N) : (ar N f).extract o (o + m) = ar m fun i => f (o + i) := by
  apply Array.ext_getElem?
  intro k
  rw [Array.getElem?_extract]
  by_cases hk : k < m
  · rw [if_pos (by rw [size_ar]; omega), get_ar (by omega), get_ar hk]
  · rw [if_neg (by rw [size_ar]; omega), ar, get_row, if_neg hk]
theorem size_of {T : TypeId} {m : Nat} (hT : ArT T m) (w : World) : (sizeOf T).run Try.prog w = .ok m w := by
  have h := hT.size
  cases hi : Try.prog.info? T with
  | none => rw [hi] at h; cases h
  | some i => rw [hi] at h; simp at h; simp [sizeOf, typeInfo, hi, h]
theorem run_index_part {T e : TypeId} {n m k N : Nat} {f : Nat → Nat} (hT : Try.prog.underlying T = some (.array n e)) (he : ArT e m) (hN : N = n * m) (hk : k < n) (w : World) :
    (Instr.index T (.agg (ar N f)) (.int .i64 k)).run Try.prog w = .ok (.agg (ar m fun i => f (k * m + i))) w := by
  subst hN
  obtain ⟨d, h1, h2⟩ := he.desc
  have hagg : (isAgg e).run Try.prog w = .ok true w := by
    unfold isAgg
    rw [Sem.run_bind, run_underlying h1 w]
    cases d <;> simp_all
  have hb : (0 : Int) ≤ (k : Int) ∧ (k : Int) < n := by omega
  have hfit : k * m + m ≤ n * m := by
    have := Nat.mul_le_mul_right m (show k + 1 ≤ n by omega)
    rwa [Nat.add_mul, Nat.one_mul] at this
  simp [Instr.index, run_underlying hT, asIntOf, hb, Sem.run_bind, size_of he w, part, hagg, extract_ar hfit]
  intro h
  omega
namespace AesP
theorem size_u8 (w : World) : (sizeOf 5).run Try.prog w = .ok 1 w := by
  have h := (by kernel_rfl : (Try.prog.info? 5).map (·.size) = some 1)
  cases hi : Try.prog.info? 5 with
  | none => rw [hi] at h; cases h
  | some i => rw [hi] at h; simp at h; simp [sizeOf, typeInfo, hi, h]
theorem sl_key {g q : Nat} (hq : q < 32) (w : World) : (Instr.sliceAt 23 (.pointer (some ⟨g, 0, none⟩)) (some (.int .i64 q)) none none).run Try.prog w = .ok (.slice (some ⟨g, q, none⟩) (32 - q) (32 - q)) w := by
  have hl : Try.prog.arrayLen 23 = 32 := by kernel_rfl
  have he : Try.prog.elem 23 = 5 := by kernel_rfl
  rw [run_sliceAt_array_l w 23 _ (by rw [hl, he]; exact Try.underlying23) .i64 q (by omega) (by rw [hl]; omega), he, size_u8, hl]
  simp only [Result.andThen_ok, slicedAt, Int.toNat_natCast]
  rw [if_neg (by omega), Addr.add_mid, Nat.mul_one, Nat.zero_add]
theorem sl_st {g o q : Nat} (hq : q < 16) (w : World) : (Instr.sliceAt 59 (.pointer (some ⟨g, o, none⟩)) (some (.int .i64 q)) none none).run Try.prog w = .ok (.slice (some ⟨g, o + q, none⟩) (16 - q) (16 - q)) w := by
  have hl : Try.prog.arrayLen 59 = 16 := by kernel_rfl
  have he : Try.prog.elem 59 = 5 := by kernel_rfl
  rw [run_sliceAt_array_l w 59 _ (by rw [hl, he]; exact Try.underlying59) .i64 q (by omega) (by rw [hl]; omega), he, size_u8, hl]
  simp only [Result.andThen_ok, slicedAt, Int.toNat_natCast]
  rw [if_neg (by omega), Addr.add_mid, Nat.mul_one]
theorem tKey : ArT 23 32 := ⟨by kernel_rfl, ⟨_, Try.underlying23, rfl⟩, (zero_of_info (P := Try.prog) (t := 23) (v := .agg (ar 32 fun _ => 0)) (n := 32) (by kernel_rfl)).1⟩
theorem tWs : ArT 94 240 := ⟨by kernel_rfl, ⟨_, Try.underlying94, rfl⟩, (zero_of_info (P := Try.prog) (t := 94) (v := .agg (ar 240 fun _ => 0)) (n := 240) (by kernel_rfl)).1⟩
theorem tKs : ArT 60 240 := ⟨by kernel_rfl, ⟨_, Try.underlying60, rfl⟩, (zero_of_info (P := Try.prog) (t := 60) (v := .agg (ar 240 fun _ => 0)) (n := 240) (by kernel_rfl)).1⟩
theorem wd_W (T k : Nat → Nat) {n i : Nat} (hi : i < 4) : AesM.W T k (4 * n + i) = AesM.wd T k n i := by
  unfold AesM.W
  rw [show (4 * n + i) / 4 = n by omega, show (4 * n + i) % 4 = i by omega]
set_option maxHeartbeats 400000 in
set_option maxRecDepth 100000 in
theorem keys_any (k T : Nat → Nat) (hk : Bt k) (hT : Bt T) (g o : Nat) (w : World) (hg : g < w.heap.size) (hR : w.rangeAt g o (ar 256 T).toList) :
    Calls Try.prog 29 #[.agg (ar 32 k), .pointer (some ⟨g, o, none⟩)] w fun e w' => e = .returned (.agg (ar 240 (AesM.W T k))) ∧ Below w.heap.size w w' := by
  have HK := hid hk
  have HT := hid hT
  have HR := hid hR
  clear hk hT hR
  go_enter Try.func29, Try.ntmps29
  go_upto_region 2 with (first | (with_reducible apply alA tKs) | (with_reducible apply alA tWs))
  generalize hw1 : World.alloc (World.alloc (World.alloc w _) _) _ = w1
  have b1 := hid (show Blk w1 w.heap.size 23 (ar 32 k) by rw [← hw1]; exact ((Blk.new _ _ _).alloc _).alloc _)
  have b2 := hid (show Blk w1 (w.heap.size + 1) 60 (ar 240 fun _ => 0) by rw [← hw1]; exact (Blk.top rfl (by simp)).alloc _)
  have b3 := hid (show Blk w1 (w.heap.size + 2) 94 (ar 240 fun _ => 0) by rw [← hw1]; exact Blk.top rfl (by simp))
  have hb := hid (show Below w.heap.size w w1 by rw [← hw1]; exact (((Below.refl _ _).alloc (Nat.le_refl _) _).alloc (by simp) _).alloc (by simp; omega) _)
  clear hw1
  go_wp2_with fail
  go_loopw [10] (fun i wr => ∃ n : Nat, n ≤ 60 ∧ i = .int .i64 n ∧ Hid (Blk wr w.heap.size 23 (ar 32 k)) ∧ Hid (Blk wr (w.heap.size + 1) 60 (ar 240 fun _ => 0)) ∧ Hid (Blk wr (w.heap.size + 2) 94 (ar 240 (upTo (4 * n) (fun _ => 0) (AesM.W T k)))) ∧ Hid (Below w.heap.size w wr)) (fun i _ => 60 - (intOf i).toNat)
  case atStart => exact ⟨0, by omega, rfl, b1, b2, by rw [upTo_zero]; exact b3, hb⟩
  case round =>
    clear b1 b2 b3 hb
    obtain ⟨n, hn, rfl, b1, b2, b3, hb⟩ := hrel
    by_cases hlt : n < 60
    · have tn : (n : Int) < 60 := by omega
      by_cases h8 : n < 8
      · have t8 : (n : Int) < 8 := by omega
        obtain ⟨q, hq⟩ : ∃ q, q = 4 * n := ⟨_, rfl⟩
        have hq32 : q ≤ 32 := by omega
        have e1 := hid (show IntKind.i64.wrap ((n : Int) * 4) = (q : Int) from wr_nat (by omega) (by omega))
        have HQ := hid hq
        clear hq
        go_wp2_with fail
        refine wp_region_tail (C := Drew wr) 6 (by kernel_rfl) (by kernel_rfl) (by kernel_rfl) (Drew.refl _) ?_
        simp only [List.take_succ_cons, List.take_zero, List.drop_succ_cons, List.drop_zero]
        apply wpK_val
        · rfl
        · intro w' hw'
          go_simp
          first | exact rfl | exact ⟨rfl, hw'⟩
        simp only [Act.put, List.setIfInBounds_toArray, List.set_cons_succ, List.set_cons_zero]
        apply wpK_val
        · rfl
        · intro w' hw'
          go_simp
          first | exact rfl | exact ⟨rfl, hw'⟩
        simp only [Act.put, List.setIfInBounds_toArray, List.set_cons_succ, List.set_cons_zero]
        apply wpK_val
        · rfl
        · intro w' hw'
          go_simp
          first | exact rfl | exact ⟨rfl, hw'⟩
        simp only [Act.put, List.setIfInBounds_toArray, List.set_cons_succ, List.set_cons_zero]
        apply wpK_val
        · rfl
        · intro w' hw'
          go_simp
          first | exact rfl | exact ⟨rfl, hw'⟩
        simp only [Act.put, List.setIfInBounds_toArray, List.set_cons_succ, List.set_cons_zero]
        apply wpK_val
        · rfl
        · intro w' hw'
          have h1 : _ := e1.out
          go_simp
          first | exact rfl | exact ⟨rfl, hw'⟩
        simp only [Act.put, List.setIfInBounds_toArray, List.set_cons_succ, List.set_cons_zero]
        apply wpK_val
        · rfl
        · intro w' hw'
          have h1 : _ := sl_key (g := w.heap.size) (q := q) (by have := HQ.out; omega) w'
          go_simp
          first | exact rfl | exact ⟨rfl, hw'⟩
        simp only [Act.put, List.setIfInBounds_toArray, List.set_cons_succ, List.set_cons_zero]
        refine wpK_nil fun w5 hw5 => ?_
        have r1 := hw5.blk b1.out
        have r2 := hid (hw5.blk b2.out)
        have r3 := hw5.blk b3.out
        have rb := hid (hw5.below hb.out)
        have hr := r1.arRange (o := q) (m := 4) (by have := HQ.out; omega)
        clear b1 b2 b3 hb hw5 e1
        have hmin := hid (show 4 = Nat.min (32 - q) 4 from (Nat.min_eq_right (by have := HQ.out; omega)).symm)
        have hfit := hid (show n * 4 + 4 ≤ 240 by omega)
        go_wp2_with ((with_reducible apply wcopyA); rfl; rfl; exact r3; exact hr; exact hmin.out; exact hfit.out)
        go_roundw
        case rel =>
          refine ⟨n + 1, by omega, by go_num, hid (r1.setRow_other (by omega) _), hid (r2.out.setRow_other (by omega) _), hid ?_, hid (below_setRow rb.out (by omega) _)⟩
          rw [← putA_next (o := n * 4) (Nat.mul_comm n 4) (h' := fun i => k (q + i)) fun i hi => by rw [wd_W T k hi, AesM.wd_first T k h8 hi, HQ.out]]
          exact r3.setRow_same _
        case measure => simp [intOf]; omega
      · have t8 : decide ((n : Int) < 8) = false := by simp; omega
        obtain ⟨m, hm⟩ : ∃ m, m = n - 8 := ⟨_, rfl⟩
        obtain ⟨l, hl⟩ : ∃ l, l = n - 1 := ⟨_, rfl⟩
        have e1 := hid (show IntKind.i64.wrap ((n : Int) - 8) = (m : Int) from wr_nat (by omega) (by omega))
        have e2 := hid (show IntKind.i64.wrap ((n : Int) - 1) = (l : Int) from wr_nat (by omega) (by omega))
        have tm : (m : Int) < 60 := by omega
        have tl : (l : Int) < 60 := by omega
        have HM := hid hm
        have HL := hid hl
        have hs2 := b3.out.lt
        have P1 := hid (show wr.rangeAt (w.heap.size + 2) (m * 4) (ar 4 (AesM.wd T k m)).toList by
          have h := b3.out.arRange (o := m * 4) (m := 4) (by omega)
          rw [ar_ext (g := AesM.wd T k m) fun i hi => by
            unfold upTo
            rw [if_pos (by omega), Nat.mul_comm m 4, wd_W T k hi]] at h
          exact h)
        have P2 := hid (show wr.rangeAt (w.heap.size + 2) (l * 4) (ar 4 (AesM.wd T k l)).toList by
          have h := b3.out.arRange (o := l * 4) (m := 4) (by omega)
          rw [ar_ext (g := AesM.wd T k l) fun i hi => by
            unfold upTo
            rw [if_pos (by omega), Nat.mul_comm l 4, wd_W T k hi]] at h
          exact h)
        clear hm hl
        go_wp2_with fail
        refine wp_region_tail (C := fun w' => Below wr.heap.size wr w') 13 (by kernel_rfl) (by kernel_rfl) (by kernel_rfl) (Below.refl _ _).drew ?_
        simp only [List.take_succ_cons, List.take_zero, List.drop_succ_cons, List.drop_zero]
        apply wpK_val
        · rfl
        · intro w' hw'
          go_simp
          first | exact rfl | exact ⟨rfl, hw'⟩
        simp only [Act.put, List.setIfInBounds_toArray, List.set_cons_succ, List.set_cons_zero]
        apply wpK_val
        · rfl
        · intro w' hw'
          go_simp
          first | exact rfl | exact ⟨rfl, hw'⟩
        simp only [Act.put, List.setIfInBounds_toArray, List.set_cons_succ, List.set_cons_zero]
        apply wpK_val
        · rfl
        · intro w' hw'
          have h1 : _ := e1.out
          go_simp
          first | exact rfl | exact ⟨rfl, hw'⟩
        simp only [Act.put, List.setIfInBounds_toArray, List.set_cons_succ, List.set_cons_zero]
        apply wpK_val
        · rfl
        · intro w' hw'
          go_simp
          first | exact rfl | exact ⟨rfl, hw'⟩
        simp only [Act.put, List.setIfInBounds_toArray, List.set_cons_succ, List.set_cons_zero]
        apply kldA tWd
        · rfl
        · rfl
        · exact fun w' hw' => range_below P1.out hw' hs2
        simp only [Act.put, List.setIfInBounds_toArray, List.set_cons_succ, List.set_cons_zero]
        apply wpK_val
        · rfl
        · intro w' hw'
          go_simp
          first | exact rfl | exact ⟨rfl, hw'⟩
        simp only [Act.put, List.setIfInBounds_toArray, List.set_cons_succ, List.set_cons_zero]
        apply wpK_val
        · rfl
        · intro w' hw'
          have h1 : _ := e2.out
          go_simp
          first | exact rfl | exact ⟨rfl, hw'⟩
        simp only [Act.put, List.setIfInBounds_toArray, List.set_cons_succ, List.set_cons_zero]
        apply wpK_val
        · rfl
        · intro w' hw'
          go_simp
          first | exact rfl | exact ⟨rfl, hw'⟩
        simp only [Act.put, List.setIfInBounds_toArray, List.set_cons_succ, List.set_cons_zero]
        apply kldA tWd
        · rfl
        · rfl
        · exact fun w' hw' => range_below P2.out hw' hs2
        simp only [Act.put, List.setIfInBounds_toArray, List.set_cons_succ, List.set_cons_zero]
        apply wpK_val
        · rfl
        · intro w' hw'
          go_simp
          first | exact rfl | exact ⟨rfl, hw'⟩
        simp only [Act.put, List.setIfInBounds_toArray, List.set_cons_succ, List.set_cons_zero]
        apply wpK_val
        · rfl
        · intro w' hw'
          go_simp
          first | exact rfl | exact ⟨rfl, hw'⟩
        simp only [Act.put, List.setIfInBounds_toArray, List.set_cons_succ, List.set_cons_zero]
        apply wpK_val
        · rfl
        · intro w' hw'
          go_simp
          exact (next_any (AesM.wd T k m) (AesM.wd T k l) T n (by omega) hlt (AesM.wd_bt HT.out HK.out (by have := HM.out; omega)) (AesM.wd_bt HT.out HK.out (by have := HL.out; omega)) HT.out g o w' (Nat.lt_of_lt_of_le hg (Nat.le_trans hb.out.size hw'.size)) (range_below (range_below HR.out hb.out hg) hw' (Nat.lt_of_lt_of_le hg hb.out.size))).mono fun e w2 h => ⟨h.1, hw'.trans (h.2.mono hw'.size)⟩
        simp only [Act.put, List.setIfInBounds_toArray, List.set_cons_succ, List.set_cons_zero]
        apply wpK_val
        · rfl
        · intro w' hw'
          go_simp
          first | exact rfl | exact ⟨rfl, hw'⟩
        simp only [Act.put, List.setIfInBounds_toArray, List.set_cons_succ, List.set_cons_zero]
        refine wpK_nil fun w5 hw5 => ?_
        have r1 := hid (b1.out.below hw5 b1.out.lt)
        have r2 := hid (b2.out.below hw5 b2.out.lt)
        have r3 := b3.out.below hw5 b3.out.lt
        have rb := hid (hb.out.trans (hw5.mono hb.out.size))
        clear b1 b2 b3 hb hw5 e1 e2 P1 P2 tm tl hs2
        have hfit := hid (show n * 4 + 4 ≤ 240 by omega)
        go_wp2_with ((with_reducible apply stAm tWd); rfl; rfl; exact r3; exact hfit.out)
        obtain ⟨x3, xb⟩ := r3.arPut (m := 4) (h := AesM.nxt T (AesM.wd T k m) (AesM.wd T k l) n) hfit.out
        go_roundw
        case rel =>
          refine ⟨n + 1, by omega, by go_num, hid (r1.out.below xb (by omega)), hid (r2.out.below xb (by omega)), hid ?_, hid (rb.out.trans (xb.mono (by omega)))⟩
          rw [← putA_next (o := n * 4) (Nat.mul_comm n 4) (h' := AesM.nxt T (AesM.wd T k m) (AesM.wd T k l) n) fun i hi => by rw [wd_W T k hi, AesM.wd_next T k (by omega) hi, HM.out, HL.out]]
          exact x3
        case measure => simp [intOf]; omega
    · have tn : decide ((n : Int) < 60) = false := by simp; omega
      have q3 := b3.out
      rw [upTo_all (by omega)] at q3
      have hz : Blk (wr.alloc (.cells (ar 240 fun _ => 0) 60)) wr.heap.size 60 (ar 240 fun _ => 0) := Blk.new _ _ _
      obtain ⟨g7, hg7⟩ : ∃ g7, g7 = wr.heap.size := ⟨_, rfl⟩
      go_upto_region 10 with ((with_reducible apply alA tKs))
      rw [← hg7] at hz ⊢
      generalize hw4 : World.alloc _ _ = w4 at hz ⊢
      have hg3 : w.heap.size + 2 < g7 := by rw [hg7]; exact q3.lt
      have d2 := hid (show Blk w4 (w.heap.size + 1) 60 (ar 240 fun _ => 0) by rw [← hw4]; exact b2.out.alloc _)
      have d3 := show Blk w4 (w.heap.size + 2) 94 (ar 240 (AesM.W T k)) by rw [← hw4]; exact q3.alloc _
      have db := hid (show Below w.heap.size w w4 by rw [← hw4]; exact hb.out.alloc (by omega) _)
      have d7 := hid hz
      clear hw4 hz b1 b2 b3 hb q3 hg7 tn hlt hn
      go_wp2_with ((with_reducible apply ldA tWs); rfl; exact d3)
      clear d3
      go_loopw [37] (fun i wr => ∃ n : Nat, n ≤ 60 ∧ i = .int .i64 n ∧ Hid (Blk wr (w.heap.size + 1) 60 (ar 240 fun _ => 0)) ∧ Hid (Blk wr g7 60 (ar 240 (upTo (4 * n) (fun _ => 0) (AesM.W T k)))) ∧ Hid (Below w.heap.size w wr)) (fun i _ => 60 - (intOf i).toNat)
      case atStart => exact ⟨0, by omega, rfl, d2, by rw [upTo_zero]; exact d7, db⟩
      case round =>
        clear d2 d7 db
        obtain ⟨n, hn, rfl, d2, d7, db⟩ := hrel
        by_cases hlt : n < 60
        · have tn : (n : Int) < 60 := by omega
          have hI := fun w => run_index_part (f := AesM.W T k) Try.underlying94 tWd (N := 240) rfl hlt w
          have hz : Blk (wr.alloc (.cells (ar 4 fun _ => 0) 93)) wr.heap.size 93 (ar 4 fun _ => 0) := Blk.new _ _ _
          obtain ⟨g9, hg9⟩ : ∃ g9, g9 = wr.heap.size := ⟨_, rfl⟩
          go_upto_region 13 with (first | (with_reducible apply alA tWd) | ((with_reducible apply stA tWd); rfl; rfl; exact hz))
          generalize hw4 : World.setRow _ _ _ = w4
          have hg79 : g7 < g9 := by rw [hg9]; exact d7.out.lt
          have c2 := hid (show Blk w4 (w.heap.size + 1) 60 (ar 240 fun _ => 0) by rw [← hw4]; exact (d2.out.alloc _).setRow_other (by have := d2.out.lt; omega) _)
          have c7 := hid (show Blk w4 g7 60 (ar 240 (upTo (4 * n) (fun _ => 0) (AesM.W T k))) by rw [← hw4]; exact (d7.out.alloc _).setRow_other (by omega) _)
          have c9 := hid (show Blk w4 g9 93 (ar 4 fun i => AesM.W T k (n * 4 + i)) by rw [← hw4, hg9]; exact hz.setRow_same _)
          have cb := hid (show Below w.heap.size w w4 by rw [← hw4]; exact below_setRow (db.out.alloc (by have := d2.out.lt; omega) _) (by have := d2.out.lt; omega) _)
          rw [← hg9]
          clear hw4 hz d2 d7 db hg9 hI
          obtain ⟨x, hx⟩ : ∃ x, x = n / 4 := ⟨_, rfl⟩
          obtain ⟨y, hy⟩ : ∃ y, y = n % 4 := ⟨_, rfl⟩
          obtain ⟨z, hz⟩ : ∃ z, z = y * 4 := ⟨_, rfl⟩
          have tx : (x : Int) < 15 := by omega
          have e1 := hid (show (n : Int).tdiv 4 = (x : Int) by rw [hx]; rfl)
          have e2 := hid (show IntKind.i64.wrap (x : Int) = (x : Int) from wr_nat rfl (by omega))
          have e3 := hid (show (n : Int).tmod 4 = (y : Int) by rw [hy]; rfl)
          have e4 := hid (show IntKind.i64.wrap ((y : Int) * 4) = (z : Int) from wr_nat (by omega) (by omega))
          have hz16 := hid (show z < 16 by omega)
          have hoff := hid (show x * 16 + z = 4 * n by omega)
          have hmin := hid (show 4 = Nat.min 4 (16 - z) from (Nat.min_eq_left (by omega)).symm)
          have hfit := hid (show x * 16 + z + 4 ≤ 240 by omega)
          clear hx hy hz
          refine wp_region_tail (C := Drew w4) 8 (by kernel_rfl) (by kernel_rfl) (by kernel_rfl) (Drew.refl _) ?_
          simp only [List.take_succ_cons, List.take_zero, List.drop_succ_cons, List.drop_zero]
          apply wpK_val
          · rfl
          · intro w' hw'
            go_simp
            first | exact rfl | exact ⟨rfl, hw'⟩
          simp only [Act.put, List.setIfInBounds_toArray, List.set_cons_succ, List.set_cons_zero]
          apply wpK_val
          · rfl
          · intro w' hw'
            have h1 : _ := e1.out
            have h2 : _ := e2.out
            go_simp
            first | exact rfl | exact ⟨rfl, hw'⟩
          simp only [Act.put, List.setIfInBounds_toArray, List.set_cons_succ, List.set_cons_zero]
          apply wpK_val
          · rfl
          · intro w' hw'
            go_simp
            first | exact rfl | exact ⟨rfl, hw'⟩
          simp only [Act.put, List.setIfInBounds_toArray, List.set_cons_succ, List.set_cons_zero]
          apply wpK_val
          · rfl
          · intro w' hw'
            go_simp
            first | exact rfl | exact ⟨rfl, hw'⟩
          simp only [Act.put, List.setIfInBounds_toArray, List.set_cons_succ, List.set_cons_zero]
          apply wpK_val
          · rfl
          · intro w' hw'
            have h1 : _ := e3.out
            go_simp
            first | exact rfl | exact ⟨rfl, hw'⟩
          simp only [Act.put, List.setIfInBounds_toArray, List.set_cons_succ, List.set_cons_zero]
          apply wpK_val
          · rfl
          · intro w' hw'
            have h1 : _ := e4.out
            go_simp
            first | exact rfl | exact ⟨rfl, hw'⟩
          simp only [Act.put, List.setIfInBounds_toArray, List.set_cons_succ, List.set_cons_zero]
          apply wpK_val
          · rfl
          · intro w' hw'
            have h1 : _ := sl_st (g := g7) (o := x * 16) hz16.out w'
            go_simp
            first | exact rfl | exact ⟨rfl, hw'⟩
          simp only [Act.put, List.setIfInBounds_toArray, List.set_cons_succ, List.set_cons_zero]
          apply wpK_val
          · rfl
          · intro w' hw'
            go_simp
            first | exact rfl | exact ⟨rfl, hw'⟩
          simp only [Act.put, List.setIfInBounds_toArray, List.set_cons_succ, List.set_cons_zero]
          refine wpK_nil fun w5 hw5 => ?_
          have d2 := hid (hw5.blk c2.out)
          have d7 := hw5.blk c7.out
          have d9 := hw5.blk c9.out
          have db := hid (hw5.below cb.out)
          have hr := d9.head
          clear c2 c7 c9 cb hw5 e1 e2 e3 e4 tx
          go_wp2_with ((with_reducible apply wcopyA); rfl; rfl; exact d7; exact hr; exact hmin.out; exact hfit.out)
          go_roundw
          case rel =>
            refine ⟨n + 1, by omega, by go_num, hid (d2.out.setRow_other (by omega) _), hid ?_, hid (below_setRow db.out (by omega) _)⟩
            rw [← putA_next hoff.out (h' := fun i => AesM.W T k (n * 4 + i)) fun i hi => by rw [Nat.mul_comm n 4]]
            exact d7.setRow_same _
          case measure => simp [intOf]; omega
        · have tn : decide ((n : Int) < 60) = false := by simp; omega
          have c7 := d7.out
          have c2 := d2.out
          rw [upTo_all (by omega)] at c7
          go_wp2_with (first | ((with_reducible apply ldA tKs); rfl; exact c7) | ((with_reducible apply stA tKs); rfl; rfl; exact c2))
          apply ret_ar tKs Try.results29
          · rfl
          · rfl
          · exact c2.setRow_same _
          exact ⟨rfl, below_setRow db.out (by omega) _⟩
end AesP
end Go.Proofs.Ytfnepbkgmopjcaa
