/-
  Contracts of sha.pass and sha.passes over this translation.
-/
import Derived.Test.YtnnhnlabkbjacaaDoorShaSpread
import Derived.Deep.Cut
namespace Go.Proofs.YtnnhnlabkbjacaaDoor
open Go.ChangeShapes Go.WideShapes Go.ChangeAt Go.RowKit
attribute [local go_sem] Gives
/-- The table of the salts is there. -/
def Salts (w : World) : Prop := 0 < w.heap.size ∧ ∀ n, n < 64 → w.cell? ⟨0, n, none⟩ = some (.int .u32 (ShaM.saltAt n : Nat))
theorem Salts.below {B : Nat} {w w' : World} (h : Salts w) (hb : Below B w w') (h0 : 0 < B) : Salts w' :=
  ⟨Nat.lt_of_lt_of_le h.1 hb.size, fun n hn => (hb.cell (p := ⟨0, n, none⟩) h0).trans (h.2 n hn)⟩
theorem Salts.on {w w' : World} (h : Salts w) (hb : Below w.heap.size w w') : Salts w' := h.below hb h.1
/-- Eight numbers. -/
def num8 (f : Nat → Nat) : Array Value := row 8 fun j => .int .u32 (f j : Nat)
theorem size_num8 {f : Nat → Nat} : (num8 f).size = 8 := size_row
theorem get_num8 {f : Nat → Nat} {k : Nat} (h : k < 8) : (num8 f)[k]? = some (.int .u32 (f k : Nat)) := get_row_lt h
theorem num8_ext {f g : Nat → Nat} (h : ∀ k, k < 8 → f k = g k) : num8 f = num8 g := row_ext fun k hk => by rw [h k hk]
theorem num8_set {f : Nat → Nat} {k v : Nat} : (num8 f).setIfInBounds k (.int .u32 (v : Nat)) = num8 fun j => if j = k then v else f j := by
  unfold num8
  rw [row_set]
  exact row_ext fun j _ => by by_cases e : j = k <;> simp [e]
theorem num8_one {f : Nat → Nat} : (num8 f).all (·.oneCell') = true := row_one fun _ _ => rfl
theorem zlit8 : (#[.int .u32 0, .int .u32 0, .int .u32 0, .int .u32 0, .int .u32 0, .int .u32 0, .int .u32 0, .int .u32 0] : Array Value) = num8 fun _ => 0 := by rfl
theorem letters_zero (s : ShaM.S8) : letters s 0 = num8 s.get := row_ext fun j hj => by rw [Nat.add_zero, Nat.mod_eq_of_lt hj]
theorem letters_full (s : ShaM.S8) : letters s 64 = num8 s.get := row_ext fun j hj => by rw [show (j + 64) % 8 = j by omega]
theorem info_num8 : (Tryd.prog.info? 52).map (·.size) = some 8 := by kernel_rfl
section
variable {ops : Array Oper} {Q : Exit → Act → World → Prop} {a : Act} {w : World} {rest : List Oper} {dst : Option Tmp} {ty : TypeId} {pos : String} {after : Array Edge} {x y : Operand} {g : Nat} {f f0 : Nat → Nat}
theorem ldn (hx : a.eval x = .pointer (some ⟨g, 0, none⟩)) (hb : Blk w g 52 (num8 f)) (h : wpList Tryd.prog ops Q rest (a.put dst (.agg (num8 f))) w) :
    wpList Tryd.prog ops Q (⟨dst, .load 52 x, ty, pos, after, none⟩ :: rest) a w :=
  step_load_row hb Tryd.underlying52 rfl (info_num8.trans (by rw [size_num8])) hx h
theorem run_ldn {w : World} (hb : Blk w g 52 (num8 f)) : (Instr.loadAt 52 (.pointer (some ⟨g, 0, none⟩))).run Tryd.prog w = .ok (.agg (num8 f)) w := by
  have h1 := hb.range 0 8
  rw [Nat.zero_add, show (8 : Nat) = (num8 f).size from size_num8.symm, Array.extract_size] at h1
  have := run_loadAt_mid (P := Tryd.prog) w g 0 52 (num8 f).toList _ h1 Tryd.underlying52 rfl (info_num8.trans (by rw [Array.length_toList, size_num8]))
  rwa [Array.toArray_toList] at this
theorem kln {C : World → Prop} {Qk : Act → Prop} {gd : Option (Nat × Bool)} (hwt : Region.wanted ⟨dst, .load 52 x, ty, pos, after, gd⟩ (yielded ops a.tmps) = true) (hx : a.eval x = .pointer (some ⟨g, 0, none⟩)) (hb : ∀ w, C w → Blk w g 52 (num8 f)) (h : wpK Tryd.prog ops C Qk rest (a.put dst (.agg (num8 f)))) :
    wpK Tryd.prog ops C Qk (⟨dst, .load 52 x, ty, pos, after, gd⟩ :: rest) a :=
  wpK_val hwt (fun w hw => gives_value (w' := w) (by simp only [execOp, hx, Sem.run_bind, run_ldn (hb w hw), Result.andThen_ok, Sem.run_pure]) hw) h
theorem stn (hx : a.eval x = .pointer (some ⟨g, 0, none⟩)) (hy : a.eval y = .agg (num8 f)) (hb : Blk w g 52 (num8 f0)) (h : wpList Tryd.prog ops Q rest (a.put dst undef) (w.setRow g (num8 f))) :
    wpList Tryd.prog ops Q (⟨dst, .store 52 x y, ty, pos, after, none⟩ :: rest) a w :=
  step_store_row hb (info_num8.trans (by rw [size_num8])) (by rw [size_num8, size_num8]) num8_one hx hy h
end
def mix8 (k : Nat) (T s : Nat → Nat) : Nat → Nat := fun j => if j < k then ShaM.add (T j) (s j) else T j
theorem mix8_zero (T s : Nat → Nat) : mix8 0 T s = T := funext fun j => by simp [mix8]
theorem mix8_step {k : Nat} (T s : Nat → Nat) : (fun j => if j = k then ShaM.add (T k) (s k) else mix8 k T s j) = mix8 (k + 1) T s := funext fun j => by
  unfold mix8
  by_cases h : j = k
  · subst h; simp
  · simp only [h, if_false]
    by_cases h2 : j < k
    · rw [if_pos h2, if_pos (by omega)]
    · rw [if_neg h2, if_neg (by omega)]
theorem mix8_at (k : Nat) (T s : Nat → Nat) : mix8 k T s k = T k := by simp [mix8]
theorem mix8_full (T s : ShaM.S8) : num8 (mix8 8 T.get s.get) = num8 (ShaM.addS T s).get := num8_ext fun k hk => by
  unfold mix8
  rw [if_pos hk, ShaM.addS_get T s hk]
set_option maxHeartbeats 400000 in
set_option maxRecDepth 100000 in
theorem pass_any (s : ShaM.S8) (hs : s.ok) (A : Option Addr) (l : List Nat) (cap : Nat) (hl : l.length = 64) (hb : ∀ k, ShaM.at' l k < 256) (w : World) (hA : Byt w w.heap.size A l) (hS : Salts w) :
    Calls Tryd.prog 45 #[.agg (num8 s.get), .slice A 64 cap] w fun e w' => e = .returned (.agg (num8 (ShaM.pass s (ShaM.at' l)).get)) ∧ Below w.heap.size w w' := by
  have HS := hid hs
  have HB := hid hb
  have HA := hid hA
  have SA := hid hS
  clear hs hb hA hS
  go_enter Tryd.func45, Tryd.ntmps45
  go_wp2_with fail
  generalize hw3 : World.alloc (World.alloc w _) _ = w3
  have b1 : Blk w3 w.heap.size 52 (num8 s.get) := by rw [← hw3]; exact (Blk.top rfl rfl).alloc _
  have b2 : Blk w3 (w.heap.size + 1) 52 (num8 fun _ => 0) := by rw [← hw3]; exact Blk.top zlit8 (by simp)
  have hb : Below w.heap.size w w3 := by rw [← hw3]; exact ((Below.refl _ _).alloc (Nat.le_refl _) _).alloc (by simp) _
  clear hw3
  have ha := (HA.out.below hb (Nat.le_refl _)).more hb.size
  refine (spread_any A l cap hl HB.out w3 ha).mono ?_
  rintro e w4 ⟨rfl, hb'⟩
  have b1' := b1.below hb' b1.lt
  have b2' := b2.below hb' b2.lt
  have hb4 := hb.trans (hb'.mono hb.size)
  have hz : w.heap.size + 1 < w4.heap.size := b2'.lt
  clear hb' b1 b2 hb ha
  have B1 := hid b1'
  have B2 := hid b2'
  have BEL := hid hb4
  clear b1' b2' hb4
  go_upto_region 2 with ((with_reducible apply stw); rfl; rfl; exact Blk.top zlit_wds rfl)
  generalize hw5 : World.setRow _ _ _ = w5
  have b5 : Blk w5 w4.heap.size 85 (wds (ShaM.upM (ShaM.at' l) 48)) := by rw [← hw5]; exact (Blk.top zlit_wds rfl).setRow_same _
  have b1 : Blk w5 w.heap.size 52 (num8 s.get) := by rw [← hw5]; exact (B1.out.alloc _).setRow_other (by omega) _
  have b2 : Blk w5 (w.heap.size + 1) 52 (num8 fun _ => 0) := by rw [← hw5]; exact (B2.out.alloc _).setRow_other (by omega) _
  have hb : Below w.heap.size w w5 := by rw [← hw5]; exact below_setRow (BEL.out.alloc (by omega) _) (by omega) _
  have hz5 : w4.heap.size < w5.heap.size := b5.lt
  clear hw5 B1 B2 BEL
  generalize hg5 : w4.heap.size = g5 at *
  clear hg5 w4
  go_upto_region 3 with (first | ((with_reducible apply ldn); rfl; exact b1) | ((with_reducible apply stn); rfl; rfl; exact Blk.top zlit8 rfl))
  generalize hw6 : World.setRow _ _ _ = w6
  have c6 : Blk w6 w5.heap.size 52 (letters (ShaM.steps (ShaM.sched (ShaM.at' l)) 0 s) 0) := by rw [← hw6]; rw [letters_zero]; exact (Blk.top zlit8 rfl).setRow_same _
  have c5 : Blk w6 g5 85 (wds (ShaM.upM (ShaM.at' l) 48)) := by rw [← hw6]; exact (b5.alloc _).setRow_other (by omega) _
  have c1 : Blk w6 w.heap.size 52 (num8 s.get) := by rw [← hw6]; exact (b1.alloc _).setRow_other (by omega) _
  have c2 : Blk w6 (w.heap.size + 1) 52 (num8 fun _ => 0) := by rw [← hw6]; exact (b2.alloc _).setRow_other (by omega) _
  have cb : Below w.heap.size w w6 := by rw [← hw6]; exact below_setRow (hb.alloc (by omega) _) (by omega) _
  clear hw6 b1 b2 hb b5
  generalize hg6 : w5.heap.size = g6 at *
  clear hg6 w5
  have hw0 := SA.out.1
  go_wp2_with fail
  go_loopw [12] (fun i wr => ∃ n : Nat, n ≤ 64 ∧ i = .int .i64 n ∧ Blk wr g6 52 (letters (ShaM.steps (ShaM.sched (ShaM.at' l)) n s) n) ∧ Blk wr g5 85 (wds (ShaM.upM (ShaM.at' l) 48)) ∧ Blk wr w.heap.size 52 (num8 s.get) ∧
    Blk wr (w.heap.size + 1) 52 (num8 fun _ => 0) ∧ Below w.heap.size w wr) (fun i _ => 64 - (intOf i).toNat)
  case atStart => exact ⟨0, by omega, rfl, c6, c5, c1, c2, cb⟩
  case round =>
    clear c6 c5 c1 c2 cb
    obtain ⟨n, hn, rfl, c6, c5, c1, c2, cb⟩ := hrel
    by_cases hlt : n < 64
    · have tn : (n : Int) < 64 := by omega
      have S1 := hid ((SA.out.on cb).2 n hlt)
      have M1 := hid ((c5.cell n).trans (get_wds hlt))
      have C6 := hid c6
      have C5 := hid c5
      have C1 := hid c1
      have C2 := hid c2
      have CB := hid cb
      clear c6 c5 c1 c2 cb
      go_wp2_with fail
      refine wp_region_tail (C := Drew wr) 8 (by kernel_rfl) (by kernel_rfl) (by kernel_rfl) (Drew.refl _) ?_
      simp only [List.take_succ_cons, List.take_zero, List.drop_succ_cons, List.drop_zero]
      apply wpK_val
      · rfl
      · intro w' hw'
        go_simp
        first | exact rfl | exact ⟨rfl, hw'⟩
      simp only [Act.put, List.setIfInBounds_toArray, List.set_cons_succ, List.set_cons_zero]
      apply wpK_val
      · rfl
      · intro w' hw'
        go_simp
        first | exact rfl | exact ⟨rfl, hw'⟩
      simp only [Act.put, List.setIfInBounds_toArray, List.set_cons_succ, List.set_cons_zero]
      apply wpK_val
      · rfl
      · intro w' hw'
        go_simp
        first | exact rfl | exact ⟨rfl, hw'⟩
      simp only [Act.put, List.setIfInBounds_toArray, List.set_cons_succ, List.set_cons_zero]
      apply wpK_val
      · rfl
      · intro w' hw'
        have hcell := hw'.cell S1.out
        go_simp
        first | exact rfl | exact ⟨rfl, hw'⟩
      simp only [Act.put, List.setIfInBounds_toArray, List.set_cons_succ, List.set_cons_zero]
      apply wpK_val
      · rfl
      · intro w' hw'
        go_simp
        first | exact rfl | exact ⟨rfl, hw'⟩
      simp only [Act.put, List.setIfInBounds_toArray, List.set_cons_succ, List.set_cons_zero]
      apply wpK_val
      · rfl
      · intro w' hw'
        go_simp
        first | exact rfl | exact ⟨rfl, hw'⟩
      simp only [Act.put, List.setIfInBounds_toArray, List.set_cons_succ, List.set_cons_zero]
      apply wpK_val
      · rfl
      · intro w' hw'
        have hcell := hw'.cell M1.out
        go_simp
        first | exact rfl | exact ⟨rfl, hw'⟩
      simp only [Act.put, List.setIfInBounds_toArray, List.set_cons_succ, List.set_cons_zero]
      apply wpK_val
      · rfl
      · intro w' hw'
        have h1 : _ := u32_wrap_nat (ShaM.saltAt n) (ShaM.upM (ShaM.at' l) 48 n)
        go_simp
        first | exact rfl | exact ⟨rfl, hw'⟩
      simp only [Act.put, List.setIfInBounds_toArray, List.set_cons_succ, List.set_cons_zero]
      refine wpK_nil fun w4 hw4 => ?_
      have c6 := hw4.blk C6.out
      have c5 := hw4.blk C5.out
      have c1 := hw4.blk C1.out
      have c2 := hw4.blk C2.out
      have cb := hw4.below CB.out
      clear hw4 C6 C5 C1 C2 CB S1 M1
      have C6 := hid c6
      have C5 := hid c5
      have C1 := hid c1
      have C2 := hid c2
      have CB := hid cb
      clear c6 c5 c1 c2 cb
      go_wp2_with fail
      refine (step_any _ (ShaM.steps_ok _ HS.out n) g6 _ n _ hlt (ShaM.add_lt _ _) w4 C6.out).mono ?_
      rintro e w7 ⟨rfl, c6, on⟩
      have c5 := C5.out.only on (by omega)
      have c1 := C1.out.only on (by omega)
      have c2 := C2.out.only on (by omega)
      have cb := CB.out.trans ((only_Below on (B := w.heap.size) (by omega) CB.out.size))
      clear C6 C5 C1 C2 CB on w4
      go_wp2_with fail
      go_roundw
      case rel => exact ⟨n + 1, by omega, by go_num, c6, c5, c1, c2, cb⟩
      case measure => simp [intOf]; omega
    · have tn : decide ((n : Int) < 64) = false := by simp; omega
      rw [show n = 64 by omega, letters_full] at c6
      generalize hT : ShaM.steps (ShaM.sched (ShaM.at' l)) 64 s = T at c6
      have HT := hid hT
      clear hT
      go_wp2_with fail
      rw [← mix8_zero T.get s.get] at c6
      go_loopw [25] (fun i wr => ∃ k : Nat, k ≤ 8 ∧ i = .int .i64 k ∧ Blk wr g6 52 (num8 (mix8 k T.get s.get)) ∧ Blk wr w.heap.size 52 (num8 s.get) ∧
        Blk wr (w.heap.size + 1) 52 (num8 fun _ => 0) ∧ Below w.heap.size w wr) (fun i _ => 8 - (intOf i).toNat)
      case atStart => exact ⟨0, by omega, rfl, c6, c1, c2, cb⟩
      case round =>
        clear c6 c5 c1 c2 cb
        obtain ⟨k, hk, rfl, c6, c1, c2, cb⟩ := hrel
        by_cases hlt : k < 8
        · have tk : (k : Int) < 8 := by omega
          have S1 := hid ((c6.cell k).trans (get_num8 hlt))
          have M1 := hid ((c1.cell k).trans (get_num8 hlt))
          rw [mix8_at] at S1
          have C6 := hid c6
          have C1 := hid c1
          have C2 := hid c2
          have CB := hid cb
          clear c6 c1 c2 cb
          go_wp2_with fail
          refine wp_region_tail (C := Drew wr) 8 (by kernel_rfl) (by kernel_rfl) (by kernel_rfl) (Drew.refl _) ?_
          simp only [List.take_succ_cons, List.take_zero, List.drop_succ_cons, List.drop_zero]
          apply wpK_val
          · rfl
          · intro w' hw'
            go_simp
            first | exact rfl | exact ⟨rfl, hw'⟩
          simp only [Act.put, List.setIfInBounds_toArray, List.set_cons_succ, List.set_cons_zero]
          apply wpK_val
          · rfl
          · intro w' hw'
            go_simp
            first | exact rfl | exact ⟨rfl, hw'⟩
          simp only [Act.put, List.setIfInBounds_toArray, List.set_cons_succ, List.set_cons_zero]
          apply wpK_val
          · rfl
          · intro w' hw'
            have hcell := hw'.cell S1.out
            go_simp
            first | exact rfl | exact ⟨rfl, hw'⟩
          simp only [Act.put, List.setIfInBounds_toArray, List.set_cons_succ, List.set_cons_zero]
          apply wpK_val
          · rfl
          · intro w' hw'
            go_simp
            first | exact rfl | exact ⟨rfl, hw'⟩
          simp only [Act.put, List.setIfInBounds_toArray, List.set_cons_succ, List.set_cons_zero]
          apply wpK_val
          · rfl
          · intro w' hw'
            go_simp
            first | exact rfl | exact ⟨rfl, hw'⟩
          simp only [Act.put, List.setIfInBounds_toArray, List.set_cons_succ, List.set_cons_zero]
          apply wpK_val
          · rfl
          · intro w' hw'
            have hcell := hw'.cell M1.out
            go_simp
            first | exact rfl | exact ⟨rfl, hw'⟩
          simp only [Act.put, List.setIfInBounds_toArray, List.set_cons_succ, List.set_cons_zero]
          apply wpK_val
          · rfl
          · intro w' hw'
            have h1 : _ := u32_wrap_nat (T.get k) (s.get k)
            go_simp
            first | exact rfl | exact ⟨rfl, hw'⟩
          simp only [Act.put, List.setIfInBounds_toArray, List.set_cons_succ, List.set_cons_zero]
          apply wpK_val
          · rfl
          · intro w' hw'
            go_simp
            first | exact rfl | exact ⟨rfl, hw'⟩
          simp only [Act.put, List.setIfInBounds_toArray, List.set_cons_succ, List.set_cons_zero]
          refine wpK_nil fun w4 hw4 => ?_
          have c6 := hw4.blk C6.out
          have c1 := hw4.blk C1.out
          have c2 := hw4.blk C2.out
          have cb := hw4.below CB.out
          clear hw4 C6 C1 C2 CB S1 M1
          have q1 := (c6.cell k).trans (get_num8 hlt)
          have q3 := c6.frozen k
          have C6 := hid c6
          have C1 := hid c1
          have C2 := hid c2
          have CB := hid cb
          clear c6 c1 c2 cb
          go_wp2_with fail
          go_roundw
          case rel =>
            refine ⟨k + 1, by omega, by go_num, ?_, C1.out.setCell_other (by show g6 ≠ w.heap.size; omega) _, C2.out.setCell_other (by show g6 ≠ w.heap.size + 1; omega) _, CB.out.setCell (by show w.heap.size ≤ g6; omega) _⟩
            have h := C6.out.setCell_same k (.int .u32 (ShaM.add (T.get k) (s.get k) : Nat))
            rw [num8_set, mix8_step] at h
            exact h
          case measure => simp [intOf]; omega
        · have tk : decide ((k : Int) < 8) = false := by simp; omega
          rw [show k = 8 by omega, mix8_full] at c6
          go_wp2_with (first | ((with_reducible apply ldn); rfl; assumption) | ((with_reducible apply stn); rfl; rfl; assumption))
          apply ret_row Tryd.results45
          · exact c2.setRow_same _
          · exact Tryd.underlying52
          · rfl
          · exact (info_num8.trans (by rw [size_num8]))
          · rfl
          · rfl
          exact ⟨by rw [← HT.out]; rfl, below_setRow cb (by omega) _⟩
end Go.Proofs.YtnnhnlabkbjacaaDoor
