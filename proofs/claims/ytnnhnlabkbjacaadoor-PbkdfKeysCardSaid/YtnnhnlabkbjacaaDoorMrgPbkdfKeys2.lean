/-
  Contracts of sha.pass and sha.passes over this translation.
  What the listed variable gives a walk: the table of the salts.
  HMAC-SHA-256 in plain numbers: a key's block, tags, stretches; nothing of the program stands here.
  PBKDF2 with HMAC-SHA-256 in plain numbers: passphrases' bytes, blocks, keys; nothing of the program stands here.
  Contract of sha.passes over this translation.
  Contract of sha.digest over this translation.
  Contract of sha.finish over this translation.
  The struct sha.Prefix as a value and in memory; contracts of sha.start, More over this translation.
  A region that draws its order and makes two new variables ('x, y := f(), g()'): their addresses hang on the order; all else does not.
  A region that draws its order and makes one new variable ('x := f(y)', the call no lone one): its address hangs on the order; all else does not.
  Contracts of (sha.Prefix).Sum, sha.Sum, sha.Ahead over this translation.
  Contract of sha.Ahead over this translation.
  Slices of numbers of any kind: read out of one row; made by a call for itself, append.
-/
import Derived.Test.YtnnhnlabkbjacaaDoorMrgPbkdfKeys1
import Derived.Deep.Cut
import Derived.Test.YtnnhnlabkbjacaaDoorRows
import Derived.Deep.Slices
import Derived.MakeChecks
import Derived.Lay
import Derived.Laws.CopyOwn
import Derived.Deep.WholeRow
import Derived.Laws.AppendOwn
import Derived.Laws.AppendOwnNone
set_option linter.unusedVariables false
namespace Go.Proofs.YtnnhnlabkbjacaaDoor
open Go.ChangeShapes Go.WideShapes Go.ChangeAt Go.RowKit
attribute [local go_sem] Gives
/-- The table of the salts is there. -/
def Salts (w : World) : Prop := 0 < w.heap.size ∧ ∀ n, n < 64 → w.cell? ⟨0, n, none⟩ = some (.int .u32 (ShaM.saltAt n : Nat))
theorem Salts.below {B : Nat} {w w' : World} (h : Salts w) (hb : Below B w w') (h0 : 0 < B) : Salts w' :=
  ⟨Nat.lt_of_lt_of_le h.1 hb.size, fun n hn => (hb.cell (p := ⟨0, n, none⟩) h0).trans (h.2 n hn)⟩
theorem Salts.on {w w' : World} (h : Salts w) (hb : Below w.heap.size w w') : Salts w' := h.below hb h.1
/-- Eight numbers. -/
def num8 (f : Nat → Nat) : Array Value := row 8 fun j => .int .u32 (f j : Nat)
theorem size_num8 {f : Nat → Nat} : (num8 f).size = 8 := size_row
theorem get_num8 {f : Nat → Nat} {k : Nat} (h : k < 8) : (num8 f)[k]? = some (.int .u32 (f k : Nat)) := get_row_lt h
theorem num8_ext {f g : Nat → Nat} (h : ∀ k, k < 8 → f k = g k) : num8 f = num8 g := row_ext fun k hk => by rw [h k hk]
theorem num8_set {f : Nat → Nat} {k v : Nat} : (num8 f).setIfInBounds k (.int .u32 (v : Nat)) = num8 fun j => if j = k then v else f j := by
  unfold num8
  rw [row_set]
  exact row_ext fun j _ => by by_cases e : j = k <;> simp [e]
theorem num8_one {f : Nat → Nat} : (num8 f).all (·.oneCell') = true := row_one fun _ _ => rfl
theorem zlit8 : (#[.int .u32 0, .int .u32 0, .int .u32 0, .int .u32 0, .int .u32 0, .int .u32 0, .int .u32 0, .int .u32 0] : Array Value) = num8 fun _ => 0 := by rfl
theorem letters_zero (s : ShaM.S8) : letters s 0 = num8 s.get := row_ext fun j hj => by rw [Nat.add_zero, Nat.mod_eq_of_lt hj]
theorem letters_full (s : ShaM.S8) : letters s 64 = num8 s.get := row_ext fun j hj => by rw [show (j + 64) % 8 = j by omega]
theorem info_num8 : (Tryd.prog.info? 52).map (·.size) = some 8 := by kernel_rfl
section
variable {ops : Array Oper} {Q : Exit → Act → World → Prop} {a : Act} {w : World} {rest : List Oper} {dst : Option Tmp} {ty : TypeId} {pos : String} {after : Array Edge} {x y : Operand} {g : Nat} {f f0 : Nat → Nat}
theorem ldn (hx : a.eval x = .pointer (some ⟨g, 0, none⟩)) (hb : Blk w g 52 (num8 f)) (h : wpList Tryd.prog ops Q rest (a.put dst (.agg (num8 f))) w) :
    wpList Tryd.prog ops Q (⟨dst, .load 52 x, ty, pos, after, none⟩ :: rest) a w :=
  step_load_row hb Tryd.underlying52 rfl (info_num8.trans (by rw [size_num8])) hx h
theorem run_ldn {w : World} (hb : Blk w g 52 (num8 f)) : (Instr.loadAt 52 (.pointer (some ⟨g, 0, none⟩))).run Tryd.prog w = .ok (.agg (num8 f)) w := by
  have h1 := hb.range 0 8
  rw [Nat.zero_add, show (8 : Nat) = (num8 f).size from size_num8.symm, Array.extract_size] at h1
  have := run_loadAt_mid (P := Tryd.prog) w g 0 52 (num8 f).toList _ h1 Tryd.underlying52 rfl (info_num8.trans (by rw [Array.length_toList, size_num8]))
  rwa [Array.toArray_toList] at this
theorem kln {C : World → Prop} {Qk : Act → Prop} {gd : Option (Nat × Bool)} (hwt : Region.wanted ⟨dst, .load 52 x, ty, pos, after, gd⟩ (yielded ops a.tmps) = true) (hx : a.eval x = .pointer (some ⟨g, 0, none⟩)) (hb : ∀ w, C w → Blk w g 52 (num8 f)) (h : wpK Tryd.prog ops C Qk rest (a.put dst (.agg (num8 f)))) :
    wpK Tryd.prog ops C Qk (⟨dst, .load 52 x, ty, pos, after, gd⟩ :: rest) a :=
  wpK_val hwt (fun w hw => gives_value (w' := w) (by simp only [execOp, hx, Sem.run_bind, run_ldn (hb w hw), Result.andThen_ok, Sem.run_pure]) hw) h
theorem stn (hx : a.eval x = .pointer (some ⟨g, 0, none⟩)) (hy : a.eval y = .agg (num8 f)) (hb : Blk w g 52 (num8 f0)) (h : wpList Tryd.prog ops Q rest (a.put dst undef) (w.setRow g (num8 f))) :
    wpList Tryd.prog ops Q (⟨dst, .store 52 x y, ty, pos, after, none⟩ :: rest) a w :=
  step_store_row hb (info_num8.trans (by rw [size_num8])) (by rw [size_num8, size_num8]) num8_one hx hy h
end
def mix8 (k : Nat) (T s : Nat → Nat) : Nat → Nat := fun j => if j < k then ShaM.add (T j) (s j) else T j
theorem mix8_zero (T s : Nat → Nat) : mix8 0 T s = T := funext fun j => by simp [mix8]
theorem mix8_step {k : Nat} (T s : Nat → Nat) : (fun j => if j = k then ShaM.add (T k) (s k) else mix8 k T s j) = mix8 (k + 1) T s := funext fun j => by
  unfold mix8
  by_cases h : j = k
  · subst h; simp
  · simp only [h, if_false]
    by_cases h2 : j < k
    · rw [if_pos h2, if_pos (by omega)]
    · rw [if_neg h2, if_neg (by omega)]
theorem mix8_at (k : Nat) (T s : Nat → Nat) : mix8 k T s k = T k := by simp [mix8]
theorem mix8_full (T s : ShaM.S8) : num8 (mix8 8 T.get s.get) = num8 (ShaM.addS T s).get := num8_ext fun k hk => by
  unfold mix8
  rw [if_pos hk, ShaM.addS_get T s hk]
set_option maxHeartbeats 400000 in
set_option maxRecDepth 100000 in
theorem pass_any (s : ShaM.S8) (hs : s.ok) (A : Option Addr) (l : List Nat) (cap : Nat) (hl : l.length = 64) (hb : ∀ k, ShaM.at' l k < 256) (w : World) (hA : Byt w w.heap.size A l) (hS : Salts w) :
    Calls Tryd.prog 45 #[.agg (num8 s.get), .slice A 64 cap] w fun e w' => e = .returned (.agg (num8 (ShaM.pass s (ShaM.at' l)).get)) ∧ Below w.heap.size w w' := by
  have HS := hid hs
  have HB := hid hb
  have HA := hid hA
  have SA := hid hS
  clear hs hb hA hS
  go_enter Tryd.func45, Tryd.ntmps45
  go_wp2_with fail
  generalize hw3 : World.alloc (World.alloc w _) _ = w3
  have b1 : Blk w3 w.heap.size 52 (num8 s.get) := by rw [← hw3]; exact (Blk.top rfl rfl).alloc _
  have b2 : Blk w3 (w.heap.size + 1) 52 (num8 fun _ => 0) := by rw [← hw3]; exact Blk.top zlit8 (by simp)
  have hb : Below w.heap.size w w3 := by rw [← hw3]; exact ((Below.refl _ _).alloc (Nat.le_refl _) _).alloc (by simp) _
  clear hw3
  have ha := (HA.out.below hb (Nat.le_refl _)).more hb.size
  refine (spread_any A l cap hl HB.out w3 ha).mono ?_
  rintro e w4 ⟨rfl, hb'⟩
  have b1' := b1.below hb' b1.lt
  have b2' := b2.below hb' b2.lt
  have hb4 := hb.trans (hb'.mono hb.size)
  have hz : w.heap.size + 1 < w4.heap.size := b2'.lt
  clear hb' b1 b2 hb ha
  have B1 := hid b1'
  have B2 := hid b2'
  have BEL := hid hb4
  clear b1' b2' hb4
  go_upto_region 2 with ((with_reducible apply stw); rfl; rfl; exact Blk.top zlit_wds rfl)
  generalize hw5 : World.setRow _ _ _ = w5
  have b5 : Blk w5 w4.heap.size 85 (wds (ShaM.upM (ShaM.at' l) 48)) := by rw [← hw5]; exact (Blk.top zlit_wds rfl).setRow_same _
  have b1 : Blk w5 w.heap.size 52 (num8 s.get) := by rw [← hw5]; exact (B1.out.alloc _).setRow_other (by omega) _
  have b2 : Blk w5 (w.heap.size + 1) 52 (num8 fun _ => 0) := by rw [← hw5]; exact (B2.out.alloc _).setRow_other (by omega) _
  have hb : Below w.heap.size w w5 := by rw [← hw5]; exact below_setRow (BEL.out.alloc (by omega) _) (by omega) _
  have hz5 : w4.heap.size < w5.heap.size := b5.lt
  clear hw5 B1 B2 BEL
  generalize hg5 : w4.heap.size = g5 at *
  clear hg5 w4
  go_upto_region 3 with (first | ((with_reducible apply ldn); rfl; exact b1) | ((with_reducible apply stn); rfl; rfl; exact Blk.top zlit8 rfl))
  generalize hw6 : World.setRow _ _ _ = w6
  have c6 : Blk w6 w5.heap.size 52 (letters (ShaM.steps (ShaM.sched (ShaM.at' l)) 0 s) 0) := by rw [← hw6]; rw [letters_zero]; exact (Blk.top zlit8 rfl).setRow_same _
  have c5 : Blk w6 g5 85 (wds (ShaM.upM (ShaM.at' l) 48)) := by rw [← hw6]; exact (b5.alloc _).setRow_other (by omega) _
  have c1 : Blk w6 w.heap.size 52 (num8 s.get) := by rw [← hw6]; exact (b1.alloc _).setRow_other (by omega) _
  have c2 : Blk w6 (w.heap.size + 1) 52 (num8 fun _ => 0) := by rw [← hw6]; exact (b2.alloc _).setRow_other (by omega) _
  have cb : Below w.heap.size w w6 := by rw [← hw6]; exact below_setRow (hb.alloc (by omega) _) (by omega) _
  clear hw6 b1 b2 hb b5
  generalize hg6 : w5.heap.size = g6 at *
  clear hg6 w5
  have hw0 := SA.out.1
  go_wp2_with fail
  go_loopw [12] (fun i wr => ∃ n : Nat, n ≤ 64 ∧ i = .int .i64 n ∧ Blk wr g6 52 (letters (ShaM.steps (ShaM.sched (ShaM.at' l)) n s) n) ∧ Blk wr g5 85 (wds (ShaM.upM (ShaM.at' l) 48)) ∧ Blk wr w.heap.size 52 (num8 s.get) ∧
    Blk wr (w.heap.size + 1) 52 (num8 fun _ => 0) ∧ Below w.heap.size w wr) (fun i _ => 64 - (intOf i).toNat)
  case atStart => exact ⟨0, by omega, rfl, c6, c5, c1, c2, cb⟩
  case round =>
    clear c6 c5 c1 c2 cb
    obtain ⟨n, hn, rfl, c6, c5, c1, c2, cb⟩ := hrel
    by_cases hlt : n < 64
    · have tn : (n : Int) < 64 := by omega
      have S1 := hid ((SA.out.on cb).2 n hlt)
      have M1 := hid ((c5.cell n).trans (get_wds hlt))
      have C6 := hid c6
      have C5 := hid c5
      have C1 := hid c1
      have C2 := hid c2
      have CB := hid cb
      clear c6 c5 c1 c2 cb
      go_wp2_with fail
      refine wp_region_tail (C := Drew wr) 8 (by kernel_rfl) (by kernel_rfl) (by kernel_rfl) (Drew.refl _) ?_
      simp only [List.take_succ_cons, List.take_zero, List.drop_succ_cons, List.drop_zero]
      apply wpK_val
      · rfl
      · intro w' hw'
        go_simp
        first | exact rfl | exact ⟨rfl, hw'⟩
      simp only [Act.put, List.setIfInBounds_toArray, List.set_cons_succ, List.set_cons_zero]
      apply wpK_val
      · rfl
      · intro w' hw'
        go_simp
        first | exact rfl | exact ⟨rfl, hw'⟩
      simp only [Act.put, List.setIfInBounds_toArray, List.set_cons_succ, List.set_cons_zero]
      apply wpK_val
      · rfl
      · intro w' hw'
        go_simp
        first | exact rfl | exact ⟨rfl, hw'⟩
      simp only [Act.put, List.setIfInBounds_toArray, List.set_cons_succ, List.set_cons_zero]
      apply wpK_val
      · rfl
      · intro w' hw'
        have hcell := hw'.cell S1.out
        go_simp
        first | exact rfl | exact ⟨rfl, hw'⟩
      simp only [Act.put, List.setIfInBounds_toArray, List.set_cons_succ, List.set_cons_zero]
      apply wpK_val
      · rfl
      · intro w' hw'
        go_simp
        first | exact rfl | exact ⟨rfl, hw'⟩
      simp only [Act.put, List.setIfInBounds_toArray, List.set_cons_succ, List.set_cons_zero]
      apply wpK_val
      · rfl
      · intro w' hw'
        go_simp
        first | exact rfl | exact ⟨rfl, hw'⟩
      simp only [Act.put, List.setIfInBounds_toArray, List.set_cons_succ, List.set_cons_zero]
      apply wpK_val
      · rfl
      · intro w' hw'
        have hcell := hw'.cell M1.out
        go_simp
        first | exact rfl | exact ⟨rfl, hw'⟩
      simp only [Act.put, List.setIfInBounds_toArray, List.set_cons_succ, List.set_cons_zero]
      apply wpK_val
      · rfl
      · intro w' hw'
        have h1 : _ := u32_wrap_nat (ShaM.saltAt n) (ShaM.upM (ShaM.at' l) 48 n)
        go_simp
        first | exact rfl | exact ⟨rfl, hw'⟩
      simp only [Act.put, List.setIfInBounds_toArray, List.set_cons_succ, List.set_cons_zero]
      refine wpK_nil fun w4 hw4 => ?_
      have c6 := hw4.blk C6.out
      have c5 := hw4.blk C5.out
      have c1 := hw4.blk C1.out
      have c2 := hw4.blk C2.out
      have cb := hw4.below CB.out
      clear hw4 C6 C5 C1 C2 CB S1 M1
      have C6 := hid c6
      have C5 := hid c5
      have C1 := hid c1
      have C2 := hid c2
      have CB := hid cb
      clear c6 c5 c1 c2 cb
      go_wp2_with fail
      refine (step_any _ (ShaM.steps_ok _ HS.out n) g6 _ n _ hlt (ShaM.add_lt _ _) w4 C6.out).mono ?_
      rintro e w7 ⟨rfl, c6, on⟩
      have c5 := C5.out.only on (by omega)
      have c1 := C1.out.only on (by omega)
      have c2 := C2.out.only on (by omega)
      have cb := CB.out.trans ((only_Below on (B := w.heap.size) (by omega) CB.out.size))
      clear C6 C5 C1 C2 CB on w4
      go_wp2_with fail
      go_roundw
      case rel => exact ⟨n + 1, by omega, by go_num, c6, c5, c1, c2, cb⟩
      case measure => simp [intOf]; omega
    · have tn : decide ((n : Int) < 64) = false := by simp; omega
      rw [show n = 64 by omega, letters_full] at c6
      generalize hT : ShaM.steps (ShaM.sched (ShaM.at' l)) 64 s = T at c6
      have HT := hid hT
      clear hT
      go_wp2_with fail
      rw [← mix8_zero T.get s.get] at c6
      go_loopw [25] (fun i wr => ∃ k : Nat, k ≤ 8 ∧ i = .int .i64 k ∧ Blk wr g6 52 (num8 (mix8 k T.get s.get)) ∧ Blk wr w.heap.size 52 (num8 s.get) ∧
        Blk wr (w.heap.size + 1) 52 (num8 fun _ => 0) ∧ Below w.heap.size w wr) (fun i _ => 8 - (intOf i).toNat)
      case atStart => exact ⟨0, by omega, rfl, c6, c1, c2, cb⟩
      case round =>
        clear c6 c5 c1 c2 cb
        obtain ⟨k, hk, rfl, c6, c1, c2, cb⟩ := hrel
        by_cases hlt : k < 8
        · have tk : (k : Int) < 8 := by omega
          have S1 := hid ((c6.cell k).trans (get_num8 hlt))
          have M1 := hid ((c1.cell k).trans (get_num8 hlt))
          rw [mix8_at] at S1
          have C6 := hid c6
          have C1 := hid c1
          have C2 := hid c2
          have CB := hid cb
          clear c6 c1 c2 cb
          go_wp2_with fail
          refine wp_region_tail (C := Drew wr) 8 (by kernel_rfl) (by kernel_rfl) (by kernel_rfl) (Drew.refl _) ?_
          simp only [List.take_succ_cons, List.take_zero, List.drop_succ_cons, List.drop_zero]
          apply wpK_val
          · rfl
          · intro w' hw'
            go_simp
            first | exact rfl | exact ⟨rfl, hw'⟩
          simp only [Act.put, List.setIfInBounds_toArray, List.set_cons_succ, List.set_cons_zero]
          apply wpK_val
          · rfl
          · intro w' hw'
            go_simp
            first | exact rfl | exact ⟨rfl, hw'⟩
          simp only [Act.put, List.setIfInBounds_toArray, List.set_cons_succ, List.set_cons_zero]
          apply wpK_val
          · rfl
          · intro w' hw'
            have hcell := hw'.cell S1.out
            go_simp
            first | exact rfl | exact ⟨rfl, hw'⟩
          simp only [Act.put, List.setIfInBounds_toArray, List.set_cons_succ, List.set_cons_zero]
          apply wpK_val
          · rfl
          · intro w' hw'
            go_simp
            first | exact rfl | exact ⟨rfl, hw'⟩
          simp only [Act.put, List.setIfInBounds_toArray, List.set_cons_succ, List.set_cons_zero]
          apply wpK_val
          · rfl
          · intro w' hw'
            go_simp
            first | exact rfl | exact ⟨rfl, hw'⟩
          simp only [Act.put, List.setIfInBounds_toArray, List.set_cons_succ, List.set_cons_zero]
          apply wpK_val
          · rfl
          · intro w' hw'
            have hcell := hw'.cell M1.out
            go_simp
            first | exact rfl | exact ⟨rfl, hw'⟩
          simp only [Act.put, List.setIfInBounds_toArray, List.set_cons_succ, List.set_cons_zero]
          apply wpK_val
          · rfl
          · intro w' hw'
            have h1 : _ := u32_wrap_nat (T.get k) (s.get k)
            go_simp
            first | exact rfl | exact ⟨rfl, hw'⟩
          simp only [Act.put, List.setIfInBounds_toArray, List.set_cons_succ, List.set_cons_zero]
          apply wpK_val
          · rfl
          · intro w' hw'
            go_simp
            first | exact rfl | exact ⟨rfl, hw'⟩
          simp only [Act.put, List.setIfInBounds_toArray, List.set_cons_succ, List.set_cons_zero]
          refine wpK_nil fun w4 hw4 => ?_
          have c6 := hw4.blk C6.out
          have c1 := hw4.blk C1.out
          have c2 := hw4.blk C2.out
          have cb := hw4.below CB.out
          clear hw4 C6 C1 C2 CB S1 M1
          have q1 := (c6.cell k).trans (get_num8 hlt)
          have q3 := c6.frozen k
          have C6 := hid c6
          have C1 := hid c1
          have C2 := hid c2
          have CB := hid cb
          clear c6 c1 c2 cb
          go_wp2_with fail
          go_roundw
          case rel =>
            refine ⟨k + 1, by omega, by go_num, ?_, C1.out.setCell_other (by show g6 ≠ w.heap.size; omega) _, C2.out.setCell_other (by show g6 ≠ w.heap.size + 1; omega) _, CB.out.setCell (by show w.heap.size ≤ g6; omega) _⟩
            have h := C6.out.setCell_same k (.int .u32 (ShaM.add (T.get k) (s.get k) : Nat))
            rw [num8_set, mix8_step] at h
            exact h
          case measure => simp [intOf]; omega
        · have tk : decide ((k : Int) < 8) = false := by simp; omega
          rw [show k = 8 by omega, mix8_full] at c6
          go_wp2_with (first | ((with_reducible apply ldn); rfl; assumption) | ((with_reducible apply stn); rfl; rfl; assumption))
          apply ret_row Tryd.results45
          · exact c2.setRow_same _
          · exact Tryd.underlying52
          · rfl
          · exact (info_num8.trans (by rw [size_num8]))
          · rfl
          · rfl
          exact ⟨by rw [← HT.out]; rfl, below_setRow cb (by omega) _⟩
end Go.Proofs.YtnnhnlabkbjacaaDoor
namespace Go.Proofs.YtnnhnlabkbjacaaDoor
open Go.ChangeShapes Go.WideShapes Go.ChangeAt Go.RowKit Go.Deep
theorem salts_named : Tryd.prog.globalNamed "casemate/sha.salts" = some 0 := by kernel_rfl
theorem salts_type : (Tryd.prog.globals[0]?).map (·.type) = some 85 := by kernel_rfl
theorem cells_u32 : Tryd.prog.cellsOf 50 = 1 := by kernel_rfl
theorem cells_wds : Tryd.prog.cellsOf 85 = 64 := by kernel_rfl
def laidL : List (String × DataW Unit) := [("casemate/sha.salts", Rows.laid_casemate_sha_salts)]
theorem laid_plain : (laidL.all fun x => x.2.handleName?.isNone) = true := by kernel_rfl
def litsD : List (DataW Unit) := List.map (fun n : Nat => DataW.lit (.int .u32 (n : Int))) ShaM.salts
theorem laid_lits : (Rows.laid_casemate_sha_salts : DataW Unit) = .agg litsD := by rfl
theorem salts_of_laid {W : World} (h : laidMetH Tryd.prog laidL W) : Salts W := by
  rw [MakeChecks.laidMetH_plain _ _ _ laid_plain] at h
  obtain ⟨ps, ⟨g, t, cs, fuel, p, q, hg, ht, hvar, hd, _, _⟩, _⟩ := h
  obtain rfl := Option.some.inj (salts_named.symm.trans hg)
  obtain rfl := Option.some.inj (salts_type.symm.trans ht)
  obtain ⟨xs, m, _, hxe, hlen, hxl, hx⟩ := DataW.trod_array Tryd.underlying85 hd
  have hag := (Prod.mk.inj hxe).1
  rw [laid_lits] at hag
  injection hag with hls
  rw [cells_wds] at hlen
  have hcell : ∀ n, n < 64 → W.cell? ⟨0, n, none⟩ = some (.int .u32 (ShaM.saltAt n : Nat)) := fun n hn => by
    have h1 := hx n hn
    rw [cells_u32, Nat.mul_one, List.getElem?_eq_getElem (by omega)] at h1
    obtain ⟨v, e1, e2, wf⟩ := DataW.trod_int Tryd.underlying50 h1
    have h2 : ((cs.toList.drop n).take 1)[0]? = some (.int .u32 v) := by rw [e1]; rfl
    rw [List.getElem?_take_of_lt (by omega), List.getElem?_drop, Array.getElem?_toList] at h2
    have h3 : litsD[n]? = some (.lit (.int .u32 v)) := by
      rw [hls, List.getElem?_map, List.getElem?_eq_getElem (show n < xs.length by omega), e2]; rfl
    have h4 : litsD[n]? = some (.lit (.int .u32 (ShaM.saltAt n : Nat))) := by
      unfold litsD ShaM.saltAt
      have hl : n < ShaM.salts.length := hn
      rw [List.getElem?_map, List.getD_eq_getElem?_getD, List.getElem?_eq_getElem hl]; rfl
    rw [h4] at h3
    simp only [Option.some.injEq, DataW.lit.injEq, Lit.int.injEq, true_and] at h3
    rw [World.var?_cell salts_named hvar n, h3]
    exact h2
  refine ⟨?_, hcell⟩
  have h0 := hcell 0 (by omega)
  rcases Nat.lt_or_ge 0 W.heap.size with h | h
  · exact h
  · unfold World.cell? at h0
    rw [Array.getElem?_eq_none (by exact h)] at h0
    cases h0
theorem laid_met (os : Os) (args : Array Value) : laidMetH Tryd.prog laidL ((World.laidAll Tryd.prog os laidL).forCall (fun _ _ => 0) ⟨#[], args, []⟩).memory := by
  rw [MakeChecks.laidMetH_plain _ _ _ laid_plain]
  exact laidMet_laidAll args (by kernel_rfl) (by kernel_rfl)
end Go.Proofs.YtnnhnlabkbjacaaDoor
namespace Go.Proofs.YtnnhnlabkbjacaaDoor.HmM
open ShaM
/-- A digest's bytes as a list. -/
def dl (f : Nat → Nat) : List Nat := (List.range 32).map f
theorem dl_length (f : Nat → Nat) : (dl f).length = 32 := by simp [dl]
theorem dl_get (f : Nat → Nat) {k : Nat} (h : k < 32) : (dl f).getD k 0 = f k := by simp [dl, h]
theorem dl_256 {f : Nat → Nat} (h : ∀ k, f k < 256) : ∀ x ∈ dl f, x < 256 := fun x hx => by
  obtain ⟨k, _, rfl⟩ := List.mem_map.1 hx
  exact h k
theorem dl_congr {f g : Nat → Nat} (h : ∀ k, k < 32 → f k = g k) : dl f = dl g := List.map_congr_left fun k hk => h k (List.mem_range.1 hk)
/-- A key, or the digest of one that is longer than a block. -/
def cutK (key : List Nat) : List Nat := if 64 < key.length then dl (sum key) else key
theorem cutK_len (key : List Nat) : (cutK key).length ≤ 64 := by
  unfold cutK; split
  · rw [dl_length]; omega
  · omega
/-- A key's block. -/
def blk (key : List Nat) : List Nat := cutK key ++ List.replicate (64 - (cutK key).length) 0
theorem blk_length (key : List Nat) : (blk key).length = 64 := by
  have := cutK_len key
  simp [blk]; omega
theorem blk_get (key : List Nat) (j : Nat) : (blk key).getD j 0 = if j < (cutK key).length then (cutK key).getD j 0 else 0 := by
  unfold blk
  rw [List.getD_eq_getElem?_getD, List.getD_eq_getElem?_getD]
  by_cases h : j < (cutK key).length
  · rw [if_pos h, List.getElem?_append_left h]
  · rw [if_neg h, List.getElem?_append_right (by omega), List.getElem?_replicate]
    split <;> rfl
theorem sum_256 (l : List Nat) (k : Nat) : sum l k < 256 := digest_lt _ k
theorem cutK_256 {key : List Nat} (h : ∀ x ∈ key, x < 256) : ∀ x ∈ cutK key, x < 256 := by
  unfold cutK; split
  · exact dl_256 (sum_256 key)
  · exact h
theorem blk_256 {key : List Nat} (h : ∀ x ∈ key, x < 256) : ∀ x ∈ blk key, x < 256 := fun x hx => by
  rcases List.mem_append.1 hx with hx | hx
  · exact cutK_256 h x hx
  · rw [(List.mem_replicate.1 hx).2]; omega
/-- Each byte added to x. -/
def pad (x : Nat) (k : List Nat) : List Nat := k.map (· ^^^ x)
theorem pad_length (x : Nat) (k : List Nat) : (pad x k).length = k.length := by simp [pad]
theorem pad_get (x : Nat) (k : List Nat) {j : Nat} (h : j < k.length) : (pad x k).getD j 0 = k.getD j 0 ^^^ x := by
  simp [pad, List.getD_eq_getElem?_getD, h]
theorem pad_256 {x : Nat} (hx : x < 256) {k : List Nat} (h : ∀ y ∈ k, y < 256) : ∀ y ∈ pad x k, y < 256 := fun y hy => by
  obtain ⟨z, hz, rfl⟩ := List.mem_map.1 hy
  exact Nat.xor_lt_two_pow (n := 8) (h z hz) hx
/-- The tag of b under key. -/
def tag (key b : List Nat) : Nat → Nat := sum (pad 92 (blk key) ++ dl (sum (pad 54 (blk key) ++ b)))
theorem tag_256 (key b : List Nat) (k : Nat) : tag key b k < 256 := sum_256 _ k
/-- Where all tags under a block begin. -/
def from' (x : Nat) (bk : List Nat) : S8 := passes seeds (pad x bk)
theorem from_ok (x : Nat) (bk : List Nat) : (from' x bk).ok := passes_ok _ (Nat.le_refl _) seeds_ok
theorem sum_from {x : Nat} {bk b : List Nat} (h : bk.length = 64) : sum (pad x bk ++ b) = digest (ended (from' x bk) 64 b) := by
  unfold sum from'
  rw [ended_append (n := 1) (by rw [pad_length, h]), pad_length, h]
/-- The tag of whole blocks A and what is left behind them. -/
theorem tag_parts {key A L : List Nat} {n : Nat} (hA : A.length = 64 * n) : tag key (A ++ L) = digest (ended (from' 92 (blk key)) 64 (dl (digest (ended (passes (from' 54 (blk key)) A) (64 + A.length) L)))) := by
  unfold tag
  rw [sum_from (blk_length key), sum_from (blk_length key), ended_append hA]
theorem tag_zeros {key : List Nat} {m : Nat} (h : key.length + m ≤ 64) (b : List Nat) : tag (key ++ List.replicate m 0) b = tag key b := by
  have e : blk (key ++ List.replicate m 0) = blk key := by
    have c1 : cutK (key ++ List.replicate m 0) = key ++ List.replicate m 0 := by unfold cutK; rw [if_neg (by simp; omega)]
    have c2 : cutK key = key := by unfold cutK; rw [if_neg (by omega)]
    unfold blk
    rw [c1, c2, List.append_assoc, List.length_append, List.length_replicate, List.replicate_append_replicate, show m + (64 - (key.length + m)) = 64 - key.length by omega]
  unfold tag
  rw [e]
theorem tag_long {key : List Nat} (h : 64 < key.length) (b : List Nat) : tag (dl (sum key)) b = tag key b := by
  have e : blk (dl (sum key)) = blk key := by
    have c1 : cutK (dl (sum key)) = dl (sum key) := by unfold cutK; rw [if_neg (by rw [dl_length]; omega)]
    have c2 : cutK key = dl (sum key) := by unfold cutK; rw [if_pos h]
    unfold blk
    rw [c1, c2]
  unfold tag
  rw [e]
/-- The n-th tag of a stretch, from 1 on; the one ahead of the first has no bytes. -/
def link (key b : List Nat) : Nat → List Nat
  | 0 => []
  | n + 1 => dl (tag key (link key b n ++ b ++ [(n + 1) % 256]))
theorem link_length (key b : List Nat) (n : Nat) : (link key b (n + 1)).length = 32 := dl_length _
theorem link_256 (key b : List Nat) : ∀ n, ∀ x ∈ link key b n, x < 256
  | 0 => fun x hx => by cases hx
  | n + 1 => dl_256 (tag_256 _ _)
/-- The first n tags of a stretch. -/
def chain (key b : List Nat) : Nat → List Nat
  | 0 => []
  | n + 1 => chain key b n ++ link key b (n + 1)
theorem chain_length (key b : List Nat) : ∀ n, (chain key b n).length = 32 * n
  | 0 => rfl
  | n + 1 => by rw [chain, List.length_append, chain_length key b n, link_length]; omega
theorem chain_256 (key b : List Nat) : ∀ n, ∀ x ∈ chain key b n, x < 256
  | 0 => fun x hx => by cases hx
  | n + 1 => fun x hx => by
    rcases List.mem_append.1 hx with hx | hx
    · exact chain_256 key b n x hx
    · exact link_256 key b (n + 1) x hx
/-- The first size bytes. -/
def stretch (key b : List Nat) (size : Nat) : List Nat := (chain key b ((size + 31) / 32)).take size
theorem stretch_length (key b : List Nat) (size : Nat) : (stretch key b size).length = size := by
  unfold stretch; rw [List.length_take, chain_length]; omega
theorem chain_take (key b : List Nat) {n : Nat} : ∀ {m : Nat}, n ≤ m → (chain key b m).take (32 * n) = chain key b n := by
  intro m h
  induction m with
  | zero => rw [show n = 0 by omega]; rfl
  | succ m ih =>
    by_cases e : n = m + 1
    · subst e; rw [← chain_length key b (m + 1), List.take_length]
    · rw [chain, List.take_append_of_le_length (by rw [chain_length]; omega), ih (by omega)]
theorem stretch_any (key b : List Nat) {size n : Nat} (h : size ≤ 32 * n) : (chain key b n).take size = stretch key b size := by
  unfold stretch
  rw [← chain_take key b (n := (size + 31) / 32) (m := n) (by omega), List.take_take, Nat.min_eq_left (by omega)]
theorem stretch_take (key b : List Nat) {n m : Nat} (h : m ≤ n) : (stretch key b n).take m = stretch key b m := by
  have e : stretch key b n = (chain key b ((n + 31) / 32)).take n := rfl
  rw [e, List.take_take, Nat.min_eq_left h]
  exact stretch_any key b (by omega)
end Go.Proofs.YtnnhnlabkbjacaaDoor.HmM
namespace Go.Proofs.YtnnhnlabkbjacaaDoor.PbM
open HmM
/-- The tag n tags behind T. -/
def un (key : List Nat) (T : Nat → Nat) : Nat → Nat → Nat
  | 0 => T
  | n + 1 => tag key (dl (un key T n))
/-- T and the n tags behind it, added up. -/
def acc (key : List Nat) (T : Nat → Nat) : Nat → Nat → Nat
  | 0 => T
  | n + 1 => fun k => acc key T n k ^^^ un key T (n + 1) k
theorem un_256 {key : List Nat} {T : Nat → Nat} (h : ∀ k, T k < 256) : ∀ n k, un key T n k < 256
  | 0 => h
  | n + 1 => tag_256 _ _
theorem acc_256 {key : List Nat} {T : Nat → Nat} (h : ∀ k, T k < 256) : ∀ n k, acc key T n k < 256
  | 0 => h
  | n + 1 => fun k => Nat.xor_lt_two_pow (n := 8) (acc_256 h n k) (un_256 h (n + 1) k)
/-- The tag of a salt and a block's number. -/
def fst (key salt : List Nat) (i : Nat) : Nat → Nat := tag key (salt ++ [0, 0, 0, i])
/-- A block. -/
def bl (key salt : List Nat) (rounds i : Nat) : Nat → Nat := acc key (fst key salt i) (rounds - 1)
theorem fst_256 (key salt : List Nat) (i : Nat) : ∀ k, fst key salt i k < 256 := tag_256 _ _
theorem bl_256 (key salt : List Nat) (rounds i : Nat) : ∀ k, bl key salt rounds i k < 256 := acc_256 (fst_256 _ _ _) _
/-- The first n blocks. -/
def cat (key salt : List Nat) (rounds : Nat) : Nat → List Nat
  | 0 => []
  | n + 1 => cat key salt rounds n ++ dl (bl key salt rounds (n + 1))
theorem cat_length (key salt : List Nat) (rounds : Nat) : ∀ n, (cat key salt rounds n).length = 32 * n
  | 0 => rfl
  | n + 1 => by rw [cat, List.length_append, cat_length key salt rounds n, dl_length]; omega
theorem cat_256 (key salt : List Nat) (rounds : Nat) : ∀ n, ∀ x ∈ cat key salt rounds n, x < 256
  | 0 => fun x hx => by cases hx
  | n + 1 => fun x hx => by
    rcases List.mem_append.1 hx with hx | hx
    · exact cat_256 key salt rounds n x hx
    · exact dl_256 (bl_256 _ _ _ _) x hx
/-- A key. -/
def key (pass salt : List Nat) (rounds size : Nat) : List Nat := (cat pass salt rounds 4).take size
theorem key_length {pass salt : List Nat} {rounds size : Nat} (h : size ≤ 128) : (key pass salt rounds size).length = size := by
  unfold key; rw [List.length_take, cat_length]; omega
theorem key_256 (pass salt : List Nat) (rounds size : Nat) : ∀ x ∈ key pass salt rounds size, x < 256 := fun x hx => cat_256 _ _ _ _ x (List.mem_of_mem_take hx)
theorem cat_take (pass salt : List Nat) (rounds : Nat) {n : Nat} : ∀ {m : Nat}, n ≤ m → (cat pass salt rounds m).take (32 * n) = cat pass salt rounds n := by
  intro m h
  induction m with
  | zero => rw [show n = 0 by omega]; rfl
  | succ m ih =>
    by_cases e : n = m + 1
    · subst e; rw [← cat_length pass salt rounds (m + 1), List.take_length]
    · rw [cat, List.take_append_of_le_length (by rw [cat_length]; omega), ih (by omega)]
theorem key_any (pass salt : List Nat) (rounds : Nat) {size n : Nat} (h : size ≤ 32 * n) (h4 : n ≤ 4) : (cat pass salt rounds n).take size = key pass salt rounds size := by
  unfold key
  rw [← cat_take pass salt rounds h4, List.take_take, Nat.min_eq_left h]
theorem key_take (pass salt : List Nat) (rounds : Nat) {n m : Nat} (h : m ≤ n) : (key pass salt rounds n).take m = key pass salt rounds m := by
  unfold key
  rw [List.take_take, Nat.min_eq_left h]
theorem key_32 (pass salt : List Nat) (rounds : Nat) : key pass salt rounds 32 = dl (bl pass salt rounds 1) := by
  rw [← key_any pass salt rounds (n := 1) (by omega) (by omega)]
  show List.take 32 (cat pass salt rounds 0 ++ dl (bl pass salt rounds 1)) = _
  rw [cat, List.nil_append]
  exact List.take_of_length_le (by rw [dl_length]; omega)
/-- What is added behind j blocks. -/
theorem cat_step (pass salt : List Nat) (rounds j size : Nat) (h : 32 * j ≤ size) : (cat pass salt rounds (j + 1)).take size = (cat pass salt rounds j).take size ++ (dl (bl pass salt rounds (j + 1))).take (size - 32 * j) := by
  rw [cat, List.take_append, cat_length]
end Go.Proofs.YtnnhnlabkbjacaaDoor.PbM
namespace Go.Proofs.YtnnhnlabkbjacaaDoor
open Go.ChangeShapes Go.WideShapes Go.ChangeAt Go.RowKit
attribute [local go_sem] Gives
def B256 (l : List Nat) : Prop := ∀ x ∈ l, x < 256
theorem B256.at' {l : List Nat} (h : B256 l) (k : Nat) : ShaM.at' l k < 256 := ShaM.getD_lt (by omega) h k
theorem B256.take {l : List Nat} (h : B256 l) (n : Nat) : B256 (l.take n) := fun x hx => h x (List.mem_of_mem_take hx)
theorem B256.drop {l : List Nat} (h : B256 l) (n : Nat) : B256 (l.drop n) := fun x hx => h x (List.mem_of_mem_drop hx)
theorem B256.append {l k : List Nat} (h : B256 l) (h' : B256 k) : B256 (l ++ k) := fun x hx => (List.mem_append.1 hx).elim (h x) (h' x)
theorem getD_take {l : List Nat} {n i : Nat} (h : i < n) : (l.take n).getD i 0 = l.getD i 0 := by
  rw [List.getD_eq_getElem?_getD, List.getD_eq_getElem?_getD, List.getElem?_take_of_lt h]
theorem getD_drop {l : List Nat} {n i : Nat} : (l.drop n).getD i 0 = l.getD (n + i) 0 := by
  rw [List.getD_eq_getElem?_getD, List.getD_eq_getElem?_getD, List.getElem?_drop]
theorem Byt.take {w : World} {B : Nat} {A : Option Addr} {l : List Nat} (h : Byt w B A l) (n : Nat) : Byt w B A (l.take n) := fun hn => by
  rw [List.length_take] at hn
  obtain ⟨b, o, rfl, hl, hr⟩ := h (by omega)
  refine ⟨b, o, rfl, hl, fun i hi => ?_⟩
  rw [List.length_take] at hi
  rw [getD_take (by omega)]
  exact hr i (by omega)
theorem Byt.drop {w : World} {B b o : Nat} {l : List Nat} (h : Byt w B (some ⟨b, o, none⟩) l) (n : Nat) : Byt w B (some ⟨b, o + n, none⟩) (l.drop n) := fun hn => by
  rw [List.length_drop] at hn
  obtain ⟨b', o', e, hl, hr⟩ := h (by omega)
  cases e
  refine ⟨b, o + n, rfl, hl, fun i hi => ?_⟩
  rw [List.length_drop] at hi
  rw [getD_drop, Nat.add_assoc]
  exact hr (n + i) (by omega)
theorem Byt.none {w : World} {B : Nat} {A : Option Addr} {l : List Nat} (h : l.length = 0) : Byt w B A l := fun hn => by omega
def lenOf : Value → Nat
  | .slice _ n _ => n
  | _ => 0
set_option maxHeartbeats 400000 in
set_option maxRecDepth 100000 in
theorem passes_any (s : ShaM.S8) (hs : s.ok) (A : Option Addr) (l : List Nat) (n cap : Nat) (hl : l.length = n) (hc : n ≤ cap) (hm : cap ≤ maxLen) (hb : B256 l) (w : World) (hA : Byt w w.heap.size A l) (hS : Salts w) :
    Calls Tryd.prog 37 #[.agg (num8 s.get), .slice A n cap] w fun e w' => e = .returned (.agg (num8 (ShaM.passes s l).get)) ∧ Below w.heap.size w w' := by
  unfold maxLen at hm
  have HS := hid hs
  have HB := hid hb
  have HA := hid hA
  have SA := hid hS
  have HL := hid hl
  clear hs hb hA hS hl
  go_enter Tryd.func37, Tryd.ntmps37
  go_wp2_with fail
  generalize hw3 : World.alloc (World.alloc w _) _ = w3
  have b1 : Blk w3 w.heap.size 52 (num8 s.get) := by rw [← hw3]; exact (Blk.top rfl rfl).alloc _
  have b2 : Blk w3 (w.heap.size + 1) 52 (num8 fun _ => 0) := by rw [← hw3]; exact Blk.top zlit8 (by simp)
  have hb : Below w.heap.size w w3 := by rw [← hw3]; exact ((Below.refl _ _).alloc (Nat.le_refl _) _).alloc (by simp) _
  clear hw3
  have ha := HA.out.below hb (Nat.le_refl _)
  go_loopw [1] (fun v wr => ∃ (A' : Option Addr) (l' : List Nat) (n' cap' : Nat) (s' : ShaM.S8), v = .slice A' n' cap' ∧ Hid (l'.length = n') ∧ n' ≤ cap' ∧ cap' ≤ 9223372036854775807 ∧ Hid (B256 l') ∧ Hid s'.ok ∧ Hid (ShaM.passes s' l' = ShaM.passes s l) ∧
    Byt wr w.heap.size A' l' ∧ Blk wr w.heap.size 52 (num8 s'.get) ∧ Blk wr (w.heap.size + 1) 52 (num8 fun _ => 0) ∧ Below w.heap.size w wr) (fun v _ => lenOf v)
  case atStart => exact ⟨A, l, n, cap, s, rfl, HL, hc, by omega, HB, HS, hid rfl, ha, b1, b2, hb⟩
  case round =>
    clear ha b1 b2 hb
    obtain ⟨A', l', n', cap', s', rfl, hl, hc', hm', hb', hs', hp, ha, b1, b2, hb⟩ := hrel
    by_cases hlt : 64 ≤ n'
    · have t0 : decide ((64 : Int) ≤ (n' : Int)) = true := by simp; omega
      obtain ⟨b, o, rfl, hbB, hr⟩ := ha (by have := hl.out; omega)
      clear hr
      have HA' := hid ha
      have B1 := hid b1
      have B2 := hid b2
      have BEL := hid hb
      clear ha b1 b2 hb
      go_wp2_with fail
      refine wp_region_tail (C := fun w' => Below wr.heap.size wr w') 4 (by kernel_rfl) (by kernel_rfl) (by kernel_rfl) (Below.refl _ _).drew ?_
      simp only [List.take_succ_cons, List.take_zero, List.drop_succ_cons, List.drop_zero]
      have hc64 : (64 : Int) ≤ (cap' : Int) := by omega
      apply kln
      · rfl
      · rfl
      · exact fun w' hw' => B1.out.below hw' B1.out.lt
      simp only [Act.put, List.setIfInBounds_toArray, List.set_cons_succ, List.set_cons_zero]
      apply wpK_val
      · rfl
      · intro w' hw'
        go_simp
        first | exact rfl | exact ⟨rfl, hw'⟩
      simp only [Act.put, List.setIfInBounds_toArray, List.set_cons_succ, List.set_cons_zero]
      apply wpK_val
      · rfl
      · intro w' hw'
        go_simp
        first | exact rfl | exact ⟨rfl, hw'⟩
      simp only [Act.put, List.setIfInBounds_toArray, List.set_cons_succ, List.set_cons_zero]
      apply wpK_val
      · rfl
      · intro w' hw'
        go_simp
        exact (pass_any s' hs'.out _ (l'.take 64) cap' (by rw [List.length_take]; have := hl.out; omega) (fun k => (hb'.out.take 64).at' k) _ (((HA'.out.take 64).below (hw'.mono BEL.out.size) (Nat.le_refl _)).more (Nat.le_trans BEL.out.size hw'.size)) (SA.out.on (BEL.out.trans (hw'.mono BEL.out.size)))).mono fun e w'' ⟨he, hb''⟩ => ⟨he, hw'.trans (hb''.mono hw'.size)⟩
      simp only [Act.put, List.setIfInBounds_toArray, List.set_cons_succ, List.set_cons_zero]
      refine wpK_nil fun w4 hw4 => ?_
      have b1 := B1.out.below hw4 B1.out.lt
      have b2 := B2.out.below hw4 B2.out.lt
      have bel := BEL.out.trans (hw4.mono BEL.out.size)
      have ha := HA'.out.below (hw4.mono BEL.out.size) (Nat.le_refl _)
      have B2 := hid b2
      have BEL := hid bel
      have HA' := hid ha
      clear b2 bel ha
      go_wp2_with ((with_reducible apply stn); rfl; rfl; exact b1)
      have hl' := hl.out
      have e1 : ShaM.pass s' (ShaM.at' (List.take 64 l')) = ShaM.pass s' (ShaM.at' l') := ShaM.pass_congr s' fun k hk => getD_take hk
      go_roundw
      case rel =>
        refine ⟨_, l'.drop 64, n' - 64, cap' - 64, ShaM.pass s' (ShaM.at' l'), rfl, hid (by rw [List.length_drop]; omega), by omega, by omega, hid (hb'.out.drop 64), hid (ShaM.pass_ok _ _), hid ?_, ?_, ?_, ?_, ?_⟩
        · rw [← hp.out, ShaM.passes_long (l := l') (by omega)]
        · have hd := (HA'.out.below (below_setRow (Below.refl w.heap.size w4) (Nat.le_refl _) (num8 (ShaM.pass s' (ShaM.at' (List.take 64 l'))).get)) (Nat.le_refl _)).drop 64
          by_cases h64 : cap' = 64
          · exact Byt.none (by rw [List.length_drop]; omega)
          · rw [if_neg h64]; exact hd
        · rw [e1]; exact b1.setRow_same _
        · exact B2.out.setRow_other (by omega) _
        · exact below_setRow BEL.out (Nat.le_refl _) _
      case measure => simp [lenOf]; omega
    · have t0 : decide ((64 : Int) ≤ (n' : Int)) = false := by simp; omega
      have hf : ShaM.passes s l = s' := by rw [← hp.out, ShaM.passes_short (by have := hl.out; omega)]
      have HF := hid hf
      clear hf ha
      go_wp2_with (first | ((with_reducible apply ldn); rfl; assumption) | ((with_reducible apply stn); rfl; rfl; assumption))
      apply ret_row Tryd.results37
      · exact b2.setRow_same _
      · exact Tryd.underlying52
      · rfl
      · exact (info_num8.trans (by rw [size_num8]))
      · rfl
      · rfl
      exact ⟨by rw [HF.out], below_setRow hb (by omega) _⟩
end Go.Proofs.YtnnhnlabkbjacaaDoor
namespace Go.Proofs.YtnnhnlabkbjacaaDoor
open Go.ChangeShapes Go.WideShapes Go.ChangeAt Go.RowKit
attribute [local go_sem] Gives
/-- 32 bytes. -/
def tag (f : Nat → Nat) : Array Value := row 32 fun j => .int .u8 (f j : Nat)
theorem size_tag {f : Nat → Nat} : (tag f).size = 32 := size_row
theorem get_tag {f : Nat → Nat} {k : Nat} (h : k < 32) : (tag f)[k]? = some (.int .u8 (f k : Nat)) := get_row_lt h
theorem tag_ext {f g : Nat → Nat} (h : ∀ k, k < 32 → f k = g k) : tag f = tag g := row_ext fun k hk => by rw [h k hk]
theorem tag_set {f : Nat → Nat} {k v : Nat} : (tag f).setIfInBounds k (.int .u8 (v : Nat)) = tag fun j => if j = k then v else f j := by
  unfold tag
  rw [row_set]
  exact row_ext fun j _ => by by_cases e : j = k <;> simp [e]
theorem tag_one {f : Nat → Nat} : (tag f).all (·.oneCell') = true := row_one fun _ _ => rfl
theorem zlit_tag : (#[.int .u8 0, .int .u8 0, .int .u8 0, .int .u8 0, .int .u8 0, .int .u8 0, .int .u8 0, .int .u8 0, .int .u8 0, .int .u8 0, .int .u8 0, .int .u8 0, .int .u8 0, .int .u8 0, .int .u8 0, .int .u8 0, .int .u8 0, .int .u8 0, .int .u8 0, .int .u8 0, .int .u8 0, .int .u8 0, .int .u8 0, .int .u8 0, .int .u8 0, .int .u8 0, .int .u8 0, .int .u8 0, .int .u8 0, .int .u8 0, .int .u8 0, .int .u8 0] : Array Value) = tag fun _ => 0 := by rfl
theorem info_tag : (Tryd.prog.info? 43).map (·.size) = some 32 := by kernel_rfl
section
variable {ops : Array Oper} {Q : Exit → Act → World → Prop} {a : Act} {w : World} {rest : List Oper} {dst : Option Tmp} {ty : TypeId} {pos : String} {after : Array Edge} {x y : Operand} {g : Nat} {f f0 : Nat → Nat}
theorem ldt (hx : a.eval x = .pointer (some ⟨g, 0, none⟩)) (hb : Blk w g 43 (tag f)) (h : wpList Tryd.prog ops Q rest (a.put dst (.agg (tag f))) w) :
    wpList Tryd.prog ops Q (⟨dst, .load 43 x, ty, pos, after, none⟩ :: rest) a w :=
  step_load_row hb Tryd.underlying43 rfl (info_tag.trans (by rw [size_tag])) hx h
theorem stt (hx : a.eval x = .pointer (some ⟨g, 0, none⟩)) (hy : a.eval y = .agg (tag f)) (hb : Blk w g 43 (tag f0)) (h : wpList Tryd.prog ops Q rest (a.put dst undef) (w.setRow g (tag f))) :
    wpList Tryd.prog ops Q (⟨dst, .store 43 x y, ty, pos, after, none⟩ :: rest) a w :=
  step_store_row hb (info_tag.trans (by rw [size_tag])) (by rw [size_tag, size_tag]) tag_one hx hy h
end
theorem run_index8 (f : Nat → Nat) {k : Nat} (hk : k < 8) (w : World) : (Instr.index 52 (.agg (num8 f)) (.int .i64 k)).run Tryd.prog w = .ok (.int .u32 (f k : Nat)) w := by
  have h1 : (0 : Int) ≤ (k : Int) ∧ (k : Int) < 8 := by omega
  simp [Instr.index, run_underlying Tryd.underlying52, asIntOf, h1, go_sem]
  rw [if_pos hk, get_num8 hk]; rfl
/-- The first c bytes of a digest. -/
def dg (s : ShaM.S8) (c : Nat) : Nat → Nat := fun j => if j < c then ShaM.digest s j else 0
theorem dg_zero (s : ShaM.S8) : dg s 0 = fun _ => 0 := funext fun j => by simp [dg]
theorem dg_step (s : ShaM.S8) (c : Nat) : (fun j => if j = c then ShaM.digest s c else dg s c j) = dg s (c + 1) := funext fun j => by
  unfold dg
  by_cases h : j = c
  · subst h; simp
  · simp only [h, if_false]
    by_cases h2 : j < c
    · rw [if_pos h2, if_pos (by omega)]
    · rw [if_neg h2, if_neg (by omega)]
theorem dg_full (s : ShaM.S8) : tag (dg s 32) = tag (ShaM.digest s) := tag_ext fun k hk => by unfold dg; rw [if_pos hk]
set_option maxHeartbeats 400000 in
set_option maxRecDepth 100000 in
theorem digest_any (s : ShaM.S8) (hs : s.ok) (w : World) :
    Calls Tryd.prog 38 #[.agg (num8 s.get)] w fun e w' => e = .returned (.agg (tag (ShaM.digest s))) ∧ Below w.heap.size w w' := by
  have HS := hid hs
  clear hs
  go_enter Tryd.func38, Tryd.ntmps38
  go_upto_region 2 with fail
  generalize hw3 : World.alloc (World.alloc (World.alloc w _) _) _ = w3
  have b1 : Blk w3 w.heap.size 52 (num8 s.get) := by rw [← hw3]; exact ((Blk.top rfl rfl).alloc _).alloc _
  have b2 : Blk w3 (w.heap.size + 1) 43 (tag fun _ => 0) := by rw [← hw3]; exact (Blk.top zlit_tag (by simp)).alloc _
  have b3 : Blk w3 (w.heap.size + 2) 43 (tag (dg s 0)) := by rw [← hw3, dg_zero]; exact Blk.top zlit_tag (by simp)
  have hb : Below w.heap.size w w3 := by rw [← hw3]; exact (((Below.refl _ _).alloc (Nat.le_refl _) _).alloc (by simp) _).alloc (by simp; omega) _
  clear hw3
  go_wp2_with ((with_reducible apply ldn); rfl; exact b1)
  clear b1
  go_loopw [8] (fun i wr => ∃ k : Nat, k ≤ 8 ∧ i = .int .i64 k ∧ Blk wr (w.heap.size + 1) 43 (tag fun _ => 0) ∧ Blk wr (w.heap.size + 2) 43 (tag (dg s (4 * k))) ∧ Below w.heap.size w wr) (fun i _ => 8 - (intOf i).toNat)
  case atStart => exact ⟨0, by omega, rfl, b2, b3, hb⟩
  case round =>
    clear b2 b3 hb
    obtain ⟨k, hk, rfl, b2, b3, hb⟩ := hrel
    by_cases hlt : k < 8
    · have tk : (k : Int) < 8 := by omega
      have hI := fun w => run_index8 s.get hlt w
      go_wp2_with fail
      clear hI
      go_loopw [12] (fun i wr => ∃ j : Nat, j ≤ 4 ∧ i = .int .i64 j ∧ Blk wr (w.heap.size + 1) 43 (tag fun _ => 0) ∧ Blk wr (w.heap.size + 2) 43 (tag (dg s (4 * k + j))) ∧ Below w.heap.size w wr) (fun i _ => 4 - (intOf i).toNat)
      case atStart => exact ⟨0, by omega, rfl, b2, b3, hb⟩
      case round =>
        clear b2 b3 hb
        obtain ⟨j, hj, rfl, b2, b3, hb⟩ := hrel
        by_cases hlj : j < 4
        · have tj : (j : Int) < 4 := by omega
          obtain ⟨c, hc⟩ : ∃ c, c = 4 * k + j := ⟨_, rfl⟩
          rw [← hc] at b3
          have hc32 : c < 32 := by omega
          have hci : (c : Int) < 32 := by omega
          have c1 : wr.cell? ⟨w.heap.size + 2, c, none⟩ = some (.int .u8 (dg s c c : Nat)) := (b3.cell _).trans (get_tag hc32)
          have c3 := b3.frozen c
          have B2 := hid b2
          have B3 := hid b3
          have HW := hid hb
          have HC := hid hc
          have e1 : IntKind.i64.wrap (4 * (k : Int) + (j : Int)) = (c : Int) := wr_nat (by omega) (by omega)
          have e2 : 4 * (k : Int) + (j : Int) = (c : Int) := by omega
          clear b2 b3 hb hc
          go_wp2_with fail
          go_roundw
          case rel =>
            have hc := HC.out
            have hv : ((s.get k : Nat) : Int) / 2 ^ (8 * (3 - j)) % 256 = ((ShaM.digest s c : Nat) : Int) := by
              unfold ShaM.digest
              rw [show c / 4 = k by omega, show c % 4 = j by omega]
              simp
            refine ⟨j + 1, by omega, by go_num, B2.out.setCell_other (by simp) _, ?_, HW.out.setCell (by show w.heap.size ≤ w.heap.size + 1 + 1; omega) _⟩
            have h := B3.out.setCell_same c (.int .u8 (ShaM.digest s c : Nat))
            rw [tag_set, dg_step] at h
            rw [hv, show 4 * k + (j + 1) = c + 1 by omega]
            exact h
          case measure => simp [intOf]; omega
        · have tj : decide ((j : Int) < 4) = false := by simp; omega
          have h4 : 4 * k + j = 4 * (k + 1) := by omega
          rw [h4] at b3
          clear h4
          go_wp2_with fail
          go_roundw
          case rel => exact ⟨k + 1, by omega, by go_num, b2, b3, hb⟩
          case measure => simp [intOf]; omega
    · have tk : decide ((k : Int) < 8) = false := by simp; omega
      rw [show 4 * k = 32 by omega, dg_full] at b3
      go_wp2_with (first | ((with_reducible apply ldt); rfl; assumption) | ((with_reducible apply stt); rfl; rfl; assumption))
      apply ret_row Tryd.results38
      · exact b2.setRow_same _
      · exact Tryd.underlying43
      · rfl
      · exact (info_tag.trans (by rw [size_tag]))
      · rfl
      · rfl
      exact ⟨rfl, below_setRow hb (by omega) _⟩
end Go.Proofs.YtnnhnlabkbjacaaDoor
namespace Go.Proofs.YtnnhnlabkbjacaaDoor
open Go.ChangeShapes Go.WideShapes Go.ChangeAt Go.RowKit
attribute [local go_sem] Gives
/-- n bytes. -/
def bts (n : Nat) (f : Nat → Nat) : Array Value := row n fun j => .int .u8 (f j : Nat)
theorem size_bts {n : Nat} {f : Nat → Nat} : (bts n f).size = n := size_row
theorem get_bts {n : Nat} {f : Nat → Nat} {k : Nat} (h : k < n) : (bts n f)[k]? = some (.int .u8 (f k : Nat)) := get_row_lt h
theorem bts_ext {n : Nat} {f g : Nat → Nat} (h : ∀ k, k < n → f k = g k) : bts n f = bts n g := row_ext fun k hk => by rw [h k hk]
theorem bts_set {n : Nat} {f : Nat → Nat} {k v : Nat} : (bts n f).setIfInBounds k (.int .u8 (v : Nat)) = bts n fun j => if j = k then v else f j := by
  unfold bts
  rw [row_set]
  exact row_ext fun j _ => by by_cases e : j = k <;> simp [e]
theorem bts_one {n : Nat} {f : Nat → Nat} : (bts n f).all (·.oneCell') = true := row_one fun _ _ => rfl
theorem zero128 (w : World) : (zeroValue 77).run Tryd.prog w = .ok (.agg (bts 128 fun _ => 0)) w :=
  (zero_of_info (P := Tryd.prog) (t := 77) (v := .agg (bts 128 fun _ => 0)) (n := 128) (by kernel_rfl)).1 w
theorem Blk.byt {w : World} {B g n : Nat} {t : TypeId} {f : Nat → Nat} (h : Blk w g t (bts n f)) (hg : g < B) {l : List Nat} (hl : l.length ≤ n) (he : ∀ j, j < l.length → l.getD j 0 = f j) : Byt w B (some ⟨g, 0, none⟩) l := fun _ =>
  ⟨g, 0, rfl, hg, fun i hi => by rw [Nat.zero_add, h.cell, get_bts (by omega), he i hi]⟩
section
variable {ops : Array Oper} {Q : Exit → Act → World → Prop} {a : Act} {w : World} {rest : List Oper} {dst : Option Tmp} {ty : TypeId} {pos : String} {after : Array Edge} {d s : Operand}
/-- copy of up to n bytes to the front of a block. -/
theorem wcopy {A : Option Addr} {n m cap g B cap' : Nat} {t : TypeId} {l : List Nat} {f : Nat → Nat} (hd : a.eval d = .slice (some ⟨g, 0, none⟩) m cap') (hs : a.eval s = .slice A n cap) (hg : Blk w g t (bts m f)) (hA : Byt w B A l) (hl : l.length = n) (hnm : n ≤ m)
    (h : wpList Tryd.prog ops Q rest (a.put dst (goInt n)) (w.setRow g (bts m fun j => if j < n then ShaM.at' l j else f j))) :
    wpList Tryd.prog ops Q (⟨dst, .call { callee := .builtin .copy, args := #[d, s], argTypes := #[22, 22] }, ty, pos, after, none⟩ :: rest) a w := by
  by_cases h0 : n = 0
  · subst h0
    refine wpList_copy_nothing rfl d s 22 22 rfl 5 Tryd.underlying22 (by kernel_rfl) _ _ _ _ _ _ hd hs (Nat.zero_min _) ?_
    rw [bts_ext (g := f) fun k _ => if_neg (Nat.not_lt_zero _), hg.setRow_id] at h
    exact h
  · obtain ⟨b, o, rfl, hB, hr⟩ := hA (by omega)
    have hlen : (bts n fun j => ShaM.at' l j).toList.length = n := by rw [Array.length_toList, size_bts]
    refine wpList_copy_own rfl d s 22 22 rfl 5 Tryd.underlying22 (by kernel_rfl) g 0 m cap' ⟨b, o, none⟩ n cap hd hs (bts m f) t hg (bts n fun j => ShaM.at' l j).toList (by rw [hlen]; exact (Nat.min_eq_left hnm).symm) ?_ (by rw [hlen, size_bts]; omega) ?_ ?_
    · intro j v hj
      have hjn : j < n := by have := (List.getElem?_eq_some_iff.1 hj).1; rwa [hlen] at this
      rw [Array.getElem?_toList, get_bts hjn] at hj
      rw [← hj, Addr.add_mid]
      exact hr j (by omega)
    · intro v hv
      exact (Array.all_eq_true_iff_forall_mem.1 bts_one) v (by simpa using hv)
    · rw [hlen]
      have e : (List.take 0 (bts m f).toList ++ ((bts n fun j => ShaM.at' l j).toList ++ (bts m f).toList.drop (0 + n))).toArray = bts m fun j => if j < n then ShaM.at' l j else f j := by
        apply Array.ext_getElem?
        intro k
        rw [List.getElem?_toArray, List.take_zero, List.nil_append, List.getElem?_append, hlen, Nat.zero_add]
        by_cases hk : k < n
        · rw [if_pos hk, Array.getElem?_toList, get_bts hk, get_bts (by omega), if_pos hk]
        · rw [if_neg hk, List.getElem?_drop, Array.getElem?_toList, show n + (k - n) = k by omega]
          unfold bts
          simp only [get_row, if_neg hk]
      rw [e]
      exact h
end
theorem info_b128 : (Tryd.prog.info? 77).map (·.size) = some 128 := by kernel_rfl
set_option maxHeartbeats 400000 in
set_option maxRecDepth 100000 in
theorem finish_short (s : ShaM.S8) (hs : s.ok) (A : Option Addr) (l : List Nat) (n cap size : Nat) (hl : l.length = n) (hn : n < 64) (hcond : n + 9 ≤ 64) (hsz : size % 64 = n) (hm : size ≤ 1000000000000000) (hb : B256 l) (w : World) (hA : Byt w w.heap.size A l) (hS : Salts w) :
    Calls Tryd.prog 39 #[.agg (num8 s.get), .slice A n cap, .int .i64 size] w fun e w' => e = .returned (.agg (num8 (ShaM.passes s (l ++ ShaM.tail size)).get)) ∧ Below w.heap.size w w' := by
  have HS := hid hs
  have HB := hid hb
  have HA := hid hA
  have SA := hid hS
  have HL := hid hl
  have HZ := hid hsz
  clear hs hb hA hS hl hsz
  have tn : (n : Int) < 64 := by omega
  have hZ := zero128
  go_enter Tryd.func39, Tryd.ntmps39
  go_upto_region 2 with fail
  clear hZ
  generalize hw3 : World.alloc (World.alloc (World.alloc w _) _) _ = w3
  have b1 : Blk w3 w.heap.size 52 (num8 s.get) := by rw [← hw3]; exact ((Blk.top rfl rfl).alloc _).alloc _
  have b2 : Blk w3 (w.heap.size + 1) 52 (num8 fun _ => 0) := by rw [← hw3]; exact (Blk.top zlit8 (by simp)).alloc _
  have b3 : Blk w3 (w.heap.size + 2) 77 (bts 128 fun _ => 0) := by rw [← hw3]; exact Blk.top rfl (by simp)
  have hb : Below w.heap.size w w3 := by rw [← hw3]; exact (((Below.refl _ _).alloc (Nat.le_refl _) _).alloc (by simp) _).alloc (by simp; omega) _
  clear hw3
  have ha := (HA.out.below hb (Nat.le_refl _))
  go_upto_region 3 with ((with_reducible apply wcopy); rfl; rfl; exact b3; exact ha; exact HL.out; omega)
  generalize hw4 : World.setRow _ _ _ = w4
  have c3 : Blk w4 (w.heap.size + 2) 77 (bts 128 fun j => if j < n then ShaM.at' l j else 0) := by rw [← hw4]; exact b3.setRow_same _
  have c1 : Blk w4 w.heap.size 52 (num8 s.get) := by rw [← hw4]; exact b1.setRow_other (by omega) _
  have c2 : Blk w4 (w.heap.size + 1) 52 (num8 fun _ => 0) := by rw [← hw4]; exact b2.setRow_other (by omega) _
  have cb : Below w.heap.size w w4 := by rw [← hw4]; exact below_setRow hb (by omega) _
  clear hw4 b1 b2 b3 hb ha w3
  have q1 := (c3.cell n).trans (get_bts (by omega))
  have q3 := c3.frozen n
  have C1 := hid c1
  have C2 := hid c2
  have C3 := hid c3
  have CB := hid cb
  clear c1 c2 c3 cb
  go_upto_region 4 with fail
  clear q1 q3
  generalize hw5 : World.setCell _ _ _ = w5
  have c3 : Blk w5 (w.heap.size + 2) 77 (bts 128 (ShaM.fin l size 64 0)) := by
    rw [← hw5]
    have h := C3.out.setCell_same n (.int .u8 (128 : Nat))
    rw [bts_set] at h
    rw [← ShaM.fin_zero, HL.out]
    exact h
  have c1 : Blk w5 w.heap.size 52 (num8 s.get) := by rw [← hw5]; exact C1.out.setCell_other (by show w.heap.size + 1 + 1 ≠ w.heap.size; omega) _
  have c2 : Blk w5 (w.heap.size + 1) 52 (num8 fun _ => 0) := by rw [← hw5]; exact C2.out.setCell_other (by simp) _
  have cb : Below w.heap.size w w5 := by rw [← hw5]; exact CB.out.setCell (by show w.heap.size ≤ w.heap.size + 1 + 1; omega) _
  clear hw5 C1 C2 C3 CB w4
  go_wp2_with fail
  go_loopw [24] (fun v wr => ∃ i : Nat, i ≤ 8 ∧ v = .int .i64 i ∧ Blk wr (w.heap.size + 2) 77 (bts 128 (ShaM.fin l size 64 i)) ∧ Blk wr w.heap.size 52 (num8 s.get) ∧
    Blk wr (w.heap.size + 1) 52 (num8 fun _ => 0) ∧ Below w.heap.size w wr) (fun v _ => 8 - (intOf v).toNat)
  case atStart => exact ⟨0, by omega, rfl, c3, c1, c2, cb⟩
  case round =>
    clear c1 c2 c3 cb
    obtain ⟨i, hi, rfl, c3, c1, c2, cb⟩ := hrel
    by_cases hlt : i < 8
    · have ti : (i : Int) < 8 := by omega
      obtain ⟨c, hc⟩ : ∃ c, c = 64 - 1 - i := ⟨_, rfl⟩
      have e1 : IntKind.i64.wrap (63 - (i : Int)) = (c : Int) := wr_nat (by omega) (by omega)
      have e2 : 63 - (i : Int) = (c : Int) := by omega
      have hci : (c : Int) < 128 := by omega
      have HC := hid hc
      have hc128 : c < 128 := by omega
      clear hc
      have q1 := (c3.cell c).trans (get_bts hc128)
      have q3 := c3.frozen c
      have C1 := hid c1
      have C2 := hid c2
      have C3 := hid c3
      have CB := hid cb
      clear c1 c2 c3 cb
      go_wp2_with fail
      go_roundw
      case rel =>
        refine ⟨i + 1, by omega, by go_num, ?_, C1.out.setCell_other (by show w.heap.size + 1 + 1 ≠ w.heap.size; omega) _, C2.out.setCell_other (by show w.heap.size + 1 + 1 ≠ w.heap.size + 1; omega) _, CB.out.setCell (by show w.heap.size ≤ w.heap.size + 1 + 1; omega) _⟩
        have h := C3.out.setCell_same c (.int .u8 (8 * size / 2 ^ (8 * i) % 256 : Nat))
        rw [bts_set, ShaM.fin_step l (by have := HL.out; omega) hlt (by have := HC.out; omega)] at h
        rw [show (8 * (size : Int) / 2 ^ (8 * i) % 256) = ((8 * size / 2 ^ (8 * i) % 256 : Nat) : Int) by simp]
        exact h
      case measure => simp [intOf]; omega
    · have ti : decide ((i : Int) < 8) = false := by simp; omega
      rw [show i = 8 by omega] at c3
      have h64 : 64 = if l.length + 9 ≤ 64 then 64 else 128 := by have := HL.out; split <;> omega
      have hlen : (l ++ ShaM.tail size).length = 64 := ShaM.ended_length (by rw [HL.out]; exact HZ.out) h64
      have hby : Byt wr (w.heap.size + 3) (some ⟨w.heap.size + 2, 0, none⟩) (l ++ ShaM.tail size) := c3.byt (by omega) (by omega) fun j hj => ShaM.ended_get (by rw [HL.out]; exact HZ.out) h64 (by omega)
      have C1 := hid c1
      have C2 := hid c2
      have C3 := hid c3
      have CB := hid cb
      have HLEN := hid hlen
      have BY := hid hby
      clear c1 c2 c3 cb h64 hlen hby
      go_wp2_with fail
      refine wp_region_tail (C := fun w' => Below wr.heap.size wr w') 4 (by kernel_rfl) (by kernel_rfl) (by kernel_rfl) (Below.refl _ _).drew ?_
      simp only [List.take_succ_cons, List.take_zero, List.drop_succ_cons, List.drop_zero]
      apply kln
      · rfl
      · rfl
      · exact fun w' hw' => C1.out.below hw' C1.out.lt
      simp only [Act.put, List.setIfInBounds_toArray, List.set_cons_succ, List.set_cons_zero]
      apply wpK_val
      · rfl
      · intro w' hw'
        go_simp
        first | exact rfl | exact ⟨rfl, hw'⟩
      simp only [Act.put, List.setIfInBounds_toArray, List.set_cons_succ, List.set_cons_zero]
      apply wpK_val
      · rfl
      · intro w' hw'
        go_simp
        first | exact rfl | exact ⟨rfl, hw'⟩
      simp only [Act.put, List.setIfInBounds_toArray, List.set_cons_succ, List.set_cons_zero]
      apply wpK_val
      · rfl
      · intro w' hw'
        go_simp
        exact (passes_any s HS.out _ (l ++ ShaM.tail size) 64 128 HLEN.out (by omega) (by unfold maxLen; omega) (HB.out.append (ShaM.tail_256 size)) _ (((BY.out.below hw' (by have := C3.out.lt; omega)).more (Nat.le_trans (by have := C3.out.lt; omega) hw'.size))) (SA.out.on (CB.out.trans (hw'.mono CB.out.size)))).mono fun e w'' ⟨he, hb''⟩ => ⟨he, hw'.trans (hb''.mono hw'.size)⟩
      simp only [Act.put, List.setIfInBounds_toArray, List.set_cons_succ, List.set_cons_zero]
      refine wpK_nil fun w4 hw4 => ?_
      have c2 := C2.out.below hw4 C2.out.lt
      have cb := CB.out.trans (hw4.mono CB.out.size)
      go_wp2_with ((with_reducible apply stn); rfl; rfl; exact c2)
      apply ret_row Tryd.results39
      · exact c2.setRow_same _
      · exact Tryd.underlying52
      · rfl
      · exact (info_num8.trans (by rw [size_num8]))
      · rfl
      · rfl
      exact ⟨rfl, below_setRow cb (by omega) _⟩
set_option maxHeartbeats 400000 in
set_option maxRecDepth 100000 in
theorem finish_long (s : ShaM.S8) (hs : s.ok) (A : Option Addr) (l : List Nat) (n cap size : Nat) (hl : l.length = n) (hn : n < 64) (hcond : 64 < n + 9) (hsz : size % 64 = n) (hm : size ≤ 1000000000000000) (hb : B256 l) (w : World) (hA : Byt w w.heap.size A l) (hS : Salts w) :
    Calls Tryd.prog 39 #[.agg (num8 s.get), .slice A n cap, .int .i64 size] w fun e w' => e = .returned (.agg (num8 (ShaM.passes s (l ++ ShaM.tail size)).get)) ∧ Below w.heap.size w w' := by
  have HS := hid hs
  have HB := hid hb
  have HA := hid hA
  have SA := hid hS
  have HL := hid hl
  have HZ := hid hsz
  clear hs hb hA hS hl hsz
  have tn : (n : Int) < 64 := by omega
  have hZ := zero128
  go_enter Tryd.func39, Tryd.ntmps39
  go_upto_region 2 with fail
  clear hZ
  generalize hw3 : World.alloc (World.alloc (World.alloc w _) _) _ = w3
  have b1 : Blk w3 w.heap.size 52 (num8 s.get) := by rw [← hw3]; exact ((Blk.top rfl rfl).alloc _).alloc _
  have b2 : Blk w3 (w.heap.size + 1) 52 (num8 fun _ => 0) := by rw [← hw3]; exact (Blk.top zlit8 (by simp)).alloc _
  have b3 : Blk w3 (w.heap.size + 2) 77 (bts 128 fun _ => 0) := by rw [← hw3]; exact Blk.top rfl (by simp)
  have hb : Below w.heap.size w w3 := by rw [← hw3]; exact (((Below.refl _ _).alloc (Nat.le_refl _) _).alloc (by simp) _).alloc (by simp; omega) _
  clear hw3
  have ha := (HA.out.below hb (Nat.le_refl _))
  go_upto_region 3 with ((with_reducible apply wcopy); rfl; rfl; exact b3; exact ha; exact HL.out; omega)
  generalize hw4 : World.setRow _ _ _ = w4
  have c3 : Blk w4 (w.heap.size + 2) 77 (bts 128 fun j => if j < n then ShaM.at' l j else 0) := by rw [← hw4]; exact b3.setRow_same _
  have c1 : Blk w4 w.heap.size 52 (num8 s.get) := by rw [← hw4]; exact b1.setRow_other (by omega) _
  have c2 : Blk w4 (w.heap.size + 1) 52 (num8 fun _ => 0) := by rw [← hw4]; exact b2.setRow_other (by omega) _
  have cb : Below w.heap.size w w4 := by rw [← hw4]; exact below_setRow hb (by omega) _
  clear hw4 b1 b2 b3 hb ha w3
  have q1 := (c3.cell n).trans (get_bts (by omega))
  have q3 := c3.frozen n
  have C1 := hid c1
  have C2 := hid c2
  have C3 := hid c3
  have CB := hid cb
  clear c1 c2 c3 cb
  go_upto_region 4 with fail
  clear q1 q3
  generalize hw5 : World.setCell _ _ _ = w5
  have c3 : Blk w5 (w.heap.size + 2) 77 (bts 128 (ShaM.fin l size 128 0)) := by
    rw [← hw5]
    have h := C3.out.setCell_same n (.int .u8 (128 : Nat))
    rw [bts_set] at h
    rw [← ShaM.fin_zero, HL.out]
    exact h
  have c1 : Blk w5 w.heap.size 52 (num8 s.get) := by rw [← hw5]; exact C1.out.setCell_other (by show w.heap.size + 1 + 1 ≠ w.heap.size; omega) _
  have c2 : Blk w5 (w.heap.size + 1) 52 (num8 fun _ => 0) := by rw [← hw5]; exact C2.out.setCell_other (by simp) _
  have cb : Below w.heap.size w w5 := by rw [← hw5]; exact CB.out.setCell (by show w.heap.size ≤ w.heap.size + 1 + 1; omega) _
  clear hw5 C1 C2 C3 CB w4
  go_wp2_with fail
  go_loopw [24] (fun v wr => ∃ i : Nat, i ≤ 8 ∧ v = .int .i64 i ∧ Blk wr (w.heap.size + 2) 77 (bts 128 (ShaM.fin l size 128 i)) ∧ Blk wr w.heap.size 52 (num8 s.get) ∧
    Blk wr (w.heap.size + 1) 52 (num8 fun _ => 0) ∧ Below w.heap.size w wr) (fun v _ => 8 - (intOf v).toNat)
  case atStart => exact ⟨0, by omega, rfl, c3, c1, c2, cb⟩
  case round =>
    clear c1 c2 c3 cb
    obtain ⟨i, hi, rfl, c3, c1, c2, cb⟩ := hrel
    by_cases hlt : i < 8
    · have ti : (i : Int) < 8 := by omega
      obtain ⟨c, hc⟩ : ∃ c, c = 128 - 1 - i := ⟨_, rfl⟩
      have e1 : IntKind.i64.wrap (127 - (i : Int)) = (c : Int) := wr_nat (by omega) (by omega)
      have e2 : 127 - (i : Int) = (c : Int) := by omega
      have hci : (c : Int) < 128 := by omega
      have HC := hid hc
      have hc128 : c < 128 := by omega
      clear hc
      have q1 := (c3.cell c).trans (get_bts hc128)
      have q3 := c3.frozen c
      have C1 := hid c1
      have C2 := hid c2
      have C3 := hid c3
      have CB := hid cb
      clear c1 c2 c3 cb
      go_wp2_with fail
      go_roundw
      case rel =>
        refine ⟨i + 1, by omega, by go_num, ?_, C1.out.setCell_other (by show w.heap.size + 1 + 1 ≠ w.heap.size; omega) _, C2.out.setCell_other (by show w.heap.size + 1 + 1 ≠ w.heap.size + 1; omega) _, CB.out.setCell (by show w.heap.size ≤ w.heap.size + 1 + 1; omega) _⟩
        have h := C3.out.setCell_same c (.int .u8 (8 * size / 2 ^ (8 * i) % 256 : Nat))
        rw [bts_set, ShaM.fin_step l (by have := HL.out; omega) hlt (by have := HC.out; omega)] at h
        rw [show (8 * (size : Int) / 2 ^ (8 * i) % 256) = ((8 * size / 2 ^ (8 * i) % 256 : Nat) : Int) by simp]
        exact h
      case measure => simp [intOf]; omega
    · have ti : decide ((i : Int) < 8) = false := by simp; omega
      rw [show i = 8 by omega] at c3
      have h128 : 128 = if l.length + 9 ≤ 64 then 64 else 128 := by have := HL.out; split <;> omega
      have hlen : (l ++ ShaM.tail size).length = 128 := ShaM.ended_length (by rw [HL.out]; exact HZ.out) h128
      have hby : Byt wr (w.heap.size + 3) (some ⟨w.heap.size + 2, 0, none⟩) (l ++ ShaM.tail size) := c3.byt (by omega) (by omega) fun j hj => ShaM.ended_get (by rw [HL.out]; exact HZ.out) h128 (by omega)
      have C1 := hid c1
      have C2 := hid c2
      have C3 := hid c3
      have CB := hid cb
      have HLEN := hid hlen
      have BY := hid hby
      clear c1 c2 c3 cb h128 hlen hby
      go_wp2_with fail
      refine wp_region_tail (C := fun w' => Below wr.heap.size wr w') 4 (by kernel_rfl) (by kernel_rfl) (by kernel_rfl) (Below.refl _ _).drew ?_
      simp only [List.take_succ_cons, List.take_zero, List.drop_succ_cons, List.drop_zero]
      apply kln
      · rfl
      · rfl
      · exact fun w' hw' => C1.out.below hw' C1.out.lt
      simp only [Act.put, List.setIfInBounds_toArray, List.set_cons_succ, List.set_cons_zero]
      apply wpK_val
      · rfl
      · intro w' hw'
        go_simp
        first | exact rfl | exact ⟨rfl, hw'⟩
      simp only [Act.put, List.setIfInBounds_toArray, List.set_cons_succ, List.set_cons_zero]
      apply wpK_val
      · rfl
      · intro w' hw'
        go_simp
        first | exact rfl | exact ⟨rfl, hw'⟩
      simp only [Act.put, List.setIfInBounds_toArray, List.set_cons_succ, List.set_cons_zero]
      apply wpK_val
      · rfl
      · intro w' hw'
        go_simp
        exact (passes_any s HS.out _ (l ++ ShaM.tail size) 128 128 HLEN.out (by omega) (by unfold maxLen; omega) (HB.out.append (ShaM.tail_256 size)) _ (((BY.out.below hw' (by have := C3.out.lt; omega)).more (Nat.le_trans (by have := C3.out.lt; omega) hw'.size))) (SA.out.on (CB.out.trans (hw'.mono CB.out.size)))).mono fun e w'' ⟨he, hb''⟩ => ⟨he, hw'.trans (hb''.mono hw'.size)⟩
      simp only [Act.put, List.setIfInBounds_toArray, List.set_cons_succ, List.set_cons_zero]
      refine wpK_nil fun w4 hw4 => ?_
      have c2 := C2.out.below hw4 C2.out.lt
      have cb := CB.out.trans (hw4.mono CB.out.size)
      go_wp2_with ((with_reducible apply stn); rfl; rfl; exact c2)
      apply ret_row Tryd.results39
      · exact c2.setRow_same _
      · exact Tryd.underlying52
      · rfl
      · exact (info_num8.trans (by rw [size_num8]))
      · rfl
      · rfl
      exact ⟨rfl, below_setRow cb (by omega) _⟩
theorem finish_any (s : ShaM.S8) (hs : s.ok) (A : Option Addr) (l : List Nat) (n cap size : Nat) (hl : l.length = n) (hn : n < 64) (hsz : size % 64 = n) (hm : size ≤ 1000000000000000) (hb : B256 l) (w : World) (hA : Byt w w.heap.size A l) (hS : Salts w) :
    Calls Tryd.prog 39 #[.agg (num8 s.get), .slice A n cap, .int .i64 size] w fun e w' => e = .returned (.agg (num8 (ShaM.passes s (l ++ ShaM.tail size)).get)) ∧ Below w.heap.size w w' := by
  rcases Nat.lt_or_ge 64 (n + 9) with h | h
  · exact finish_long s hs A l n cap size hl hn h hsz hm hb w hA hS
  · exact finish_short s hs A l n cap size hl hn h hsz hm hb w hA hS
end Go.Proofs.YtnnhnlabkbjacaaDoor
namespace Go.Proofs.YtnnhnlabkbjacaaDoor
open Go.ChangeShapes Go.WideShapes Go.ChangeAt Go.RowKit
attribute [local go_sem] Gives
/-- A prefix: eight numbers, how many bytes, is it one. -/
def pre (f : Nat → Nat) (m : Nat) (b : Bool) : Array Value := row 10 fun j => if j < 8 then .int .u32 (f j : Nat) else if j = 8 then .int .i64 m else .bool b
theorem size_pre {f : Nat → Nat} {m : Nat} {b : Bool} : (pre f m b).size = 10 := size_row
theorem pre_one {f : Nat → Nat} {m : Nat} {b : Bool} : (pre f m b).all (·.oneCell') = true := row_one fun k _ => by
  by_cases h : k < 8
  · simp only [h, if_true]; rfl
  · simp only [h, if_false]
    by_cases h2 : k = 8
    · simp only [h2, if_true]; rfl
    · simp only [h2, if_false]; rfl
theorem info_pre : (Tryd.prog.info? 54).map (·.size) = some 10 := by kernel_rfl
theorem built_pre (f : Nat → Nat) : Tryd.prog.built 54 [(0, .agg (num8 f)), (2, .bool true)] = some (pre f 0 true) := by kernel_rfl
theorem built_pre3 (f : Nat → Nat) (m : Nat) : Tryd.prog.built 54 [(0, .agg (num8 f)), (1, .int .i64 m), (2, .bool true)] = some (pre f m true) := by kernel_rfl
theorem built_pre0 : Tryd.prog.built 54 [] = some (pre (fun _ => 0) 0 false) := by kernel_rfl
theorem zlit_pre : (#[.int .u32 0, .int .u32 0, .int .u32 0, .int .u32 0, .int .u32 0, .int .u32 0, .int .u32 0, .int .u32 0, .int .i64 0, .bool false] : Array Value) = pre (fun _ => 0) 0 false := by rfl
section
variable {ops : Array Oper} {Q : Exit → Act → World → Prop} {a : Act} {w : World} {rest : List Oper} {dst : Option Tmp} {ty : TypeId} {pos : String} {after : Array Edge} {x y : Operand} {g m m0 : Nat} {f f0 : Nat → Nat} {b b0 : Bool}
theorem ldp (hx : a.eval x = .pointer (some ⟨g, 0, none⟩)) (hb : Blk w g 54 (pre f m b)) (h : wpList Tryd.prog ops Q rest (a.put dst (.agg (pre f m b))) w) :
    wpList Tryd.prog ops Q (⟨dst, .load 54 x, ty, pos, after, none⟩ :: rest) a w :=
  step_load_row hb Tryd.underlying54 rfl (info_pre.trans (by rw [size_pre])) hx h
theorem stp (hx : a.eval x = .pointer (some ⟨g, 0, none⟩)) (hy : a.eval y = .agg (pre f m b)) (hb : Blk w g 54 (pre f0 m0 b0)) (h : wpList Tryd.prog ops Q rest (a.put dst undef) (w.setRow g (pre f m b))) :
    wpList Tryd.prog ops Q (⟨dst, .store 54 x y, ty, pos, after, none⟩ :: rest) a w :=
  step_store_row hb (info_pre.trans (by rw [size_pre])) (by rw [size_pre, size_pre]) pre_one hx hy h
theorem bldp (hy : a.eval x = .agg (num8 f)) (h : wpList Tryd.prog ops Q rest (a.put dst (.agg (pre f 0 true))) w) :
    wpList Tryd.prog ops Q (⟨dst, .build 54 #[(0, x), (2, .const (.bool true))], ty, pos, after, none⟩ :: rest) a w := by
  refine wpList_plain rfl fun K hK => ?_
  have hr := run_build (P := Tryd.prog) w 54 #[(0, a.eval x), (2, .bool true)] _ (by rw [hy]; exact built_pre f)
  have he : a.eval (.const (.bool true)) = .bool true := rfl
  unfold Oper.wp
  simp [execOp, he, hr, Result.andThen]
  exact hK _ _ h
theorem klnm {C : World → Prop} {Qk : Act → Prop} {gd : Option (Nat × Bool)} {o : Nat} (hwt : Region.wanted ⟨dst, .load 52 x, ty, pos, after, gd⟩ (yielded ops a.tmps) = true) (hx : a.eval x = .pointer (some ⟨g, o, none⟩)) (hb : ∀ w, C w → w.rangeAt g o (num8 f).toList) (h : wpK Tryd.prog ops C Qk rest (a.put dst (.agg (num8 f)))) :
    wpK Tryd.prog ops C Qk (⟨dst, .load 52 x, ty, pos, after, gd⟩ :: rest) a :=
  wpK_val hwt (fun w hw => gives_value (w' := w) (by
    have := run_loadAt_mid (P := Tryd.prog) w g o 52 (num8 f).toList _ (hb w hw) Tryd.underlying52 rfl (info_num8.trans (by rw [Array.length_toList, size_num8]))
    rw [Array.toArray_toList] at this
    simp only [execOp, hx, Sem.run_bind, this, Result.andThen_ok, Sem.run_pure]) hw) h
theorem bldp3 {C : World → Prop} {Qk : Act → Prop} {gd : Option (Nat × Bool)} {c : Operand} (hwt : Region.wanted ⟨dst, .build 54 #[(0, x), (1, y), (2, c)], ty, pos, after, gd⟩ (yielded ops a.tmps) = true) (hx : a.eval x = .agg (num8 f)) (hy : a.eval y = .int .i64 m) (hc : a.eval c = .bool true)
    (h : wpK Tryd.prog ops C Qk rest (a.put dst (.agg (pre f m true)))) : wpK Tryd.prog ops C Qk (⟨dst, .build 54 #[(0, x), (1, y), (2, c)], ty, pos, after, gd⟩ :: rest) a :=
  wpK_val hwt (fun w hw => by
    have hr := run_build (P := Tryd.prog) w 54 #[(0, a.eval x), (1, a.eval y), (2, a.eval c)] _ (by rw [hx, hy, hc]; exact built_pre3 f m)
    refine gives_value (w' := w) ?_ hw
    simp [execOp, hr, Result.andThen]) h
theorem bldp0 (h : wpList Tryd.prog ops Q rest (a.put dst (.agg (pre (fun _ => 0) 0 false))) w) :
    wpList Tryd.prog ops Q (⟨dst, .build 54 #[], ty, pos, after, none⟩ :: rest) a w := by
  refine wpList_plain rfl fun K hK => ?_
  have hr := run_build (P := Tryd.prog) w 54 #[] _ built_pre0
  unfold Oper.wp
  simp [execOp, hr, Result.andThen]
  exact hK _ _ h
end
set_option maxHeartbeats 400000 in
set_option maxRecDepth 100000 in
theorem start_any (w : World) :
    Calls Tryd.prog 43 #[] w fun e w' => e = .returned (.agg (pre ShaM.seeds.get 0 true)) ∧ Below w.heap.size w w' := by
  go_enter Tryd.func43, Tryd.ntmps43
  go_upto_region 1 with fail
  generalize hw3 : World.alloc w _ = w3
  have b1 : Blk w3 w.heap.size 54 (pre (fun _ => 0) 0 false) := by rw [← hw3]; exact Blk.top zlit_pre rfl
  have hb : Below w.heap.size w w3 := by rw [← hw3]; exact (Below.refl _ _).alloc (Nat.le_refl _) _
  have hz := b1.lt
  clear hw3
  go_upto_region 2 with fail
  generalize hw4 : World.alloc w3 _ = w4
  have c2 : Blk w4 w3.heap.size 52 (num8 ShaM.seeds.get) := by rw [← hw4]; exact Blk.top (by rfl) rfl
  have c1 : Blk w4 w.heap.size 54 (pre (fun _ => 0) 0 false) := by rw [← hw4]; exact b1.alloc _
  have cb : Below w.heap.size w w4 := by rw [← hw4]; exact hb.alloc (by omega) _
  clear hw4 b1 hb
  go_wp2_with (first | ((with_reducible apply ldn); rfl; exact c2) | ((with_reducible apply bldp); rfl) | ((with_reducible apply stp); rfl; rfl; exact c1))
  apply ret_row Tryd.results43
  · exact c1.setRow_same _
  · exact Tryd.underlying54
  · rfl
  · exact (info_pre.trans (by rw [size_pre]))
  · rfl
  · rfl
  exact ⟨rfl, below_setRow cb (Nat.le_refl _) _⟩
section
variable {a : Act} {w : World} {g m : Nat} {f : Nat → Nat} {b : Bool}
theorem run_pre_var {t : TypeId} (hb : Blk w g t (pre f m b)) : (loadVar 54 ⟨g, 0, none⟩).run Tryd.prog w = .ok (.agg (pre f m b)) w :=
  run_loadVar_row w g t 54 (pre f m b) (0, 0) _ hb Tryd.underlying54 rfl (info_pre.trans (by rw [size_pre]))
theorem ret_pre2 {fn : Func} {R : Ending → World → Prop} {p t : Tmp} {v : Value} (hr : fn.results = #[.cell p 54, .tmp t]) (hp : a.tmps.getD p undef = .pointer (some ⟨g, 0, none⟩)) (ht : a.tmps.getD t undef = v)
    (hdf : a.defers = []) (hb : Blk w g 54 (pre f m b)) (hR : R (.returned (.tuple #[.agg (pre f m b), v])) w) : bodyPost Tryd.prog fn R .ret a w := by
  refine bodyPost_ret ?_ hdf hR
  have hp' : a.tmps[p]?.getD undef = .pointer (some ⟨g, 0, none⟩) := by simpa using hp
  have ht' : a.tmps[t]?.getD undef = v := by simpa using ht
  simp [results, hr, hp', ht', asAddr, run_pre_var hb]
theorem Blk.pre8 {t : TypeId} (hb : Blk w g t (pre f m b)) : w.cell? ⟨g, 8, none⟩ = some (.int .i64 m) := by
  rw [hb.cell]; unfold pre; rw [get_row_lt (by omega), if_neg (by omega), if_pos rfl]
theorem Blk.pre9 {t : TypeId} (hb : Blk w g t (pre f m b)) : w.cell? ⟨g, 9, none⟩ = some (.bool b) := by
  rw [hb.cell]; unfold pre; rw [get_row_lt (by omega), if_neg (by omega), if_neg (by omega)]
theorem Blk.pre0 {t : TypeId} (hb : Blk w g t (pre f m b)) : w.rangeAt g 0 (num8 f).toList := fun j v hj => by
  have hj8 : j < 8 := by have := (List.getElem?_eq_some_iff.1 hj).1; rwa [Array.length_toList, size_num8] at this
  rw [Array.getElem?_toList, get_num8 hj8] at hj
  rw [Nat.zero_add, hb.cell]
  unfold pre
  rw [get_row_lt (by omega), if_pos hj8]
  exact hj
end
set_option maxHeartbeats 400000 in
set_option maxRecDepth 100000 in
theorem more_nil (f : Nat → Nat) (m n cap : Nat) (A : Option Addr) (w : World) :
    Calls Tryd.prog 44 #[.agg (pre f m false), .slice A n cap] w fun e w' => e = .returned (.tuple #[.agg (pre (fun _ => 0) 0 false), .int .i64 1]) ∧ Below w.heap.size w w' := by
  go_enter Tryd.func44, Tryd.ntmps44
  go_upto_region 1 with fail
  generalize hw3 : World.alloc (World.alloc w _) _ = w3
  have b1 : Blk w3 w.heap.size 54 (pre f m false) := by rw [← hw3]; exact (Blk.top rfl rfl).alloc _
  have b2 : Blk w3 (w.heap.size + 1) 54 (pre (fun _ => 0) 0 false) := by rw [← hw3]; exact Blk.top zlit_pre (by simp)
  have hb : Below w.heap.size w w3 := by rw [← hw3]; exact ((Below.refl _ _).alloc (Nat.le_refl _) _).alloc (by simp) _
  clear hw3
  have c9 := b1.pre9
  go_wp2_with (first | ((with_reducible apply bldp0)) | ((with_reducible apply stp); rfl; rfl; exact b2))
  apply ret_pre2 Tryd.results44
  · rfl
  · rfl
  · rfl
  · exact b2.setRow_same _
  exact ⟨rfl, below_setRow hb (by omega) _⟩
set_option maxHeartbeats 400000 in
set_option maxRecDepth 100000 in
theorem more_arg (f : Nat → Nat) (m n cap : Nat) (A : Option Addr) (hn : n % 64 ≠ 0) (hm : n ≤ 1000000000000000) (w : World) :
    Calls Tryd.prog 44 #[.agg (pre f m true), .slice A n cap] w fun e w' => e = .returned (.tuple #[.agg (pre (fun _ => 0) 0 false), .int .i64 2]) ∧ Below w.heap.size w w' := by
  go_enter Tryd.func44, Tryd.ntmps44
  go_upto_region 1 with fail
  generalize hw3 : World.alloc (World.alloc w _) _ = w3
  have b1 : Blk w3 w.heap.size 54 (pre f m true) := by rw [← hw3]; exact (Blk.top rfl rfl).alloc _
  have b2 : Blk w3 (w.heap.size + 1) 54 (pre (fun _ => 0) 0 false) := by rw [← hw3]; exact Blk.top zlit_pre (by simp)
  have hb : Below w.heap.size w w3 := by rw [← hw3]; exact ((Below.refl _ _).alloc (Nat.le_refl _) _).alloc (by simp) _
  clear hw3
  have c9 := b1.pre9
  have t0 : ((n : Int) % 64 != 0) = true := by rw [bne_iff_ne]; omega
  go_wp2_with (first | ((with_reducible apply bldp0)) | ((with_reducible apply stp); rfl; rfl; exact b2))
  apply ret_pre2 Tryd.results44
  · rfl
  · rfl
  · rfl
  · exact b2.setRow_same _
  exact ⟨rfl, below_setRow hb (by omega) _⟩
set_option maxHeartbeats 400000 in
set_option maxRecDepth 100000 in
theorem more_ok (s : ShaM.S8) (hs : s.ok) (A : Option Addr) (l : List Nat) (n cap m : Nat) (hl : l.length = n) (hn : n % 64 = 0) (hc : n ≤ cap) (hm : cap ≤ maxLen) (hz : m + n ≤ 1000000000000000) (hb : B256 l) (w : World) (hA : Byt w w.heap.size A l) (hS : Salts w) :
    Calls Tryd.prog 44 #[.agg (pre s.get m true), .slice A n cap] w fun e w' => e = .returned (.tuple #[.agg (pre (ShaM.passes s l).get (m + n) true), .int .i64 0]) ∧ Below w.heap.size w w' := by
  have HS := hid hs
  have HB := hid hb
  have HA := hid hA
  have SA := hid hS
  have HL := hid hl
  clear hs hb hA hS hl
  go_enter Tryd.func44, Tryd.ntmps44
  go_upto_region 1 with fail
  generalize hw3 : World.alloc (World.alloc w _) _ = w3
  have b1 : Blk w3 w.heap.size 54 (pre s.get m true) := by rw [← hw3]; exact (Blk.top rfl rfl).alloc _
  have b2 : Blk w3 (w.heap.size + 1) 54 (pre (fun _ => 0) 0 false) := by rw [← hw3]; exact Blk.top zlit_pre (by simp)
  have hb : Below w.heap.size w w3 := by rw [← hw3]; exact ((Below.refl _ _).alloc (Nat.le_refl _) _).alloc (by simp) _
  clear hw3
  have c9 := b1.pre9
  have t0 : ((n : Int) % 64 != 0) = false := by rw [bne_eq_false_iff_eq]; omega
  have e1 : IntKind.i64.wrap ((m : Int) + (n : Int)) = ((m + n : Nat) : Int) := wr_nat (by omega) (by omega)
  have B1 := hid b1
  have B2 := hid b2
  have BEL := hid hb
  have E1 := hid e1
  clear b1 b2 hb hn e1
  go_wp2_with fail
  refine wp_region_tail (C := fun w' => Below w3.heap.size w3 w') 10 (by kernel_rfl) (by kernel_rfl) (by kernel_rfl) (Below.refl _ _).drew ?_
  simp only [List.take_succ_cons, List.take_zero, List.drop_succ_cons, List.drop_zero]
  apply wpK_val
  · rfl
  · intro w' hw'
    go_simp
    first | exact rfl | exact ⟨rfl, hw'⟩
  simp only [Act.put, List.setIfInBounds_toArray, List.set_cons_succ, List.set_cons_zero]
  apply klnm
  · rfl
  · rfl
  · exact fun w' hw' => (B1.out.below hw' B1.out.lt).pre0
  simp only [Act.put, List.setIfInBounds_toArray, List.set_cons_succ, List.set_cons_zero]
  apply wpK_val
  · rfl
  · intro w' hw'
    go_simp
    first | exact rfl | exact ⟨rfl, hw'⟩
  simp only [Act.put, List.setIfInBounds_toArray, List.set_cons_succ, List.set_cons_zero]
  apply wpK_val
  · rfl
  · intro w' hw'
    go_simp
    exact (passes_any s HS.out A l n cap HL.out hc hm HB.out _ ((HA.out.below (BEL.out.trans (hw'.mono BEL.out.size)) (Nat.le_refl _)).more (Nat.le_trans BEL.out.size hw'.size)) (SA.out.on (BEL.out.trans (hw'.mono BEL.out.size)))).mono fun e w'' ⟨he, hb''⟩ => ⟨he, hw'.trans (hb''.mono hw'.size)⟩
  simp only [Act.put, List.setIfInBounds_toArray, List.set_cons_succ, List.set_cons_zero]
  apply wpK_val
  · rfl
  · intro w' hw'
    go_simp
    first | exact rfl | exact ⟨rfl, hw'⟩
  simp only [Act.put, List.setIfInBounds_toArray, List.set_cons_succ, List.set_cons_zero]
  apply wpK_val
  · rfl
  · intro w' hw'
    have hcell := (B1.out.below hw' B1.out.lt).pre8
    go_simp
    first | exact rfl | exact ⟨rfl, hw'⟩
  simp only [Act.put, List.setIfInBounds_toArray, List.set_cons_succ, List.set_cons_zero]
  apply wpK_val
  · rfl
  · intro w' hw'
    go_simp
    first | exact rfl | exact ⟨rfl, hw'⟩
  simp only [Act.put, List.setIfInBounds_toArray, List.set_cons_succ, List.set_cons_zero]
  apply wpK_val
  · rfl
  · intro w' hw'
    go_simp
    first | exact rfl | exact ⟨rfl, hw'⟩
  simp only [Act.put, List.setIfInBounds_toArray, List.set_cons_succ, List.set_cons_zero]
  apply wpK_val
  · rfl
  · intro w' hw'
    have h1 : _ := E1.out
    go_simp
    first | exact rfl | exact ⟨rfl, hw'⟩
  simp only [Act.put, List.setIfInBounds_toArray, List.set_cons_succ, List.set_cons_zero]
  apply bldp3
  · rfl
  · rfl
  · rfl
  · rfl
  simp only [Act.put, List.setIfInBounds_toArray, List.set_cons_succ, List.set_cons_zero]
  refine wpK_nil fun w4 hw4 => ?_
  have c2 := B2.out.below hw4 B2.out.lt
  have cb := BEL.out.trans (hw4.mono BEL.out.size)
  go_wp2_with ((with_reducible apply stp); rfl; rfl; exact c2)
  apply ret_pre2 Tryd.results44
  · rfl
  · rfl
  · rfl
  · exact c2.setRow_same _
  exact ⟨rfl, below_setRow cb (by omega) _⟩
end Go.Proofs.YtnnhnlabkbjacaaDoor
namespace Go.Proofs.YtnnhnlabkbjacaaDoor
open Go.RowKit
section
variable {P : Program} {ops : Array Oper}
/-- The operations in the order of the text; each hands on a world of the class, in which all that was there stands. -/
def wpB (P : Program) (ops : Array Oper) (C : World → Prop) (Q : Act → Prop) : List Oper → Act → Prop
  | [], a => Q a
  | o :: rest, a => ∃ v, ((Region.wanted o (yielded ops a.tmps) = true ∧ ∀ w, C w → Gives P o a w v fun w' => C w' ∧ Below w.heap.size w w') ∨ (Region.wanted o (yielded ops a.tmps) = false ∧ v = undef)) ∧ wpB P ops C Q rest (a.put o.dst v)
section
variable {C : World → Prop} {Qk : Act → Prop} {o : Oper} {rest : List Oper} {a : Act} {v : Value}
theorem wpB_nil (h : Qk a) : wpB P ops C Qk [] a := h
theorem wpB_val (hw : Region.wanted o (yielded ops a.tmps) = true) (h1 : ∀ w, C w → Gives P o a w v fun w' => C w' ∧ Below w.heap.size w w') (h2 : wpB P ops C Qk rest (a.put o.dst v)) : wpB P ops C Qk (o :: rest) a := ⟨v, .inl ⟨hw, h1⟩, h2⟩
end
theorem wpB_vals {C : World → Prop} {Qk : Act → Prop} : ∀ (l : List Oper) (a : Act), wpB P ops C Qk l a → ∃ vals : Nat → Value, Qk (lexF l vals l.length a) ∧
    ∀ i o, l[i]? = some o → ((Region.wanted o (yielded ops (lexF l vals i a).tmps) = true ∧ ∀ w, C w → Gives P o (lexF l vals i a) w (vals i) fun w' => C w' ∧ Below w.heap.size w w') ∨ (Region.wanted o (yielded ops (lexF l vals i a).tmps) = false ∧ vals i = undef))
  | [], a, h => ⟨fun _ => undef, h, fun i o hi => by simp at hi⟩
  | o :: l, a, h => by
    obtain ⟨v, h1, h2⟩ := h
    obtain ⟨vals, hq, hs⟩ := wpB_vals l _ h2
    refine ⟨fun j => match j with | 0 => v | j + 1 => vals j, ?_, fun i o' hi => ?_⟩
    · rw [List.length_cons, lexF_cons]; exact hq
    · cases i with
      | zero =>
        simp only [List.getElem?_cons_zero, Option.some.injEq] at hi
        subst hi
        exact h1
      | succ i =>
        rw [lexF_cons]
        exact hs i o' (by simpa using hi)
theorem lexF_congr {l l' : List Oper} {v v' : Nat → Value} : ∀ {i : Nat} {a : Act}, (∀ j, j < i → l[j]? = l'[j]? ∧ v j = v' j) → lexF l v i a = lexF l' v' i a
  | 0, _, _ => rfl
  | i + 1, a, h => by
    simp only [lexF, lexF_congr (i := i) (a := a) fun j hj => h j (by omega), (h i (by omega)).1, (h i (by omega)).2]
theorem gives_mono {o : Oper} {a : Act} {w : World} {v : Value} {R R' : World → Prop} (h : Gives P o a w v R) (hr : ∀ w', R w' → R' w') : Gives P o a w v R' := by
  unfold Gives at *
  generalize (execOp a.eval o).run P w = r at *
  cases r with
  | ok n w' =>
    cases n <;> simp only at h ⊢
    case value u => exact ⟨h.1, hr _ h.2⟩
    case skip => exact ⟨h.1, hr _ h.2⟩
    case enter f args => exact h.mono fun e w'' ⟨he, hR⟩ => ⟨he, hr _ hR⟩
  | halt x w' => exact h
def ptr (b : Nat) : Value := .pointer (some ⟨b, 0, none⟩)
theorem wp_region_new2 {id : Nat} {Q : Exit → Act → World → Prop} {C : World → Prop} {a : Act} {w : World} {l : List Oper} (n : Nat) (T : TypeId) (z : Array Value) (d1 d2 : Tmp) {t1 t2 : TypeId} {p1 p2 : String} {e1 e2 : Array Edge}
    (hl1 : l[n]? = some ⟨some d1, .alloc T, t1, p1, e1, none⟩) (hl2 : l[n + 1]? = some ⟨some d2, .alloc T, t2, p2, e2, none⟩)
    (hm : P.follows .mixedOrders = true) (ht : tidy l.toArray = true) (hB : tailB l.toArray (n + 2) = true)
    (ha : ∀ w, (Instr.alloc T true (.tuple #[])).run P w = .ok (.pointer (some ⟨w.heap.size, 0, none⟩)) (w.alloc (.cells z T)))
    (hC : C w.drew) (hCa : ∀ w, C w → C (w.alloc (.cells z T))) (hCs : ∀ w', C w' → w.heap.size ≤ w'.heap.size)
    (h : wpB P l.toArray C (fun a' => ∀ b1 b2 w', b1 ≠ b2 → C w' → Blk w' b1 T z → Blk w' b2 T z → w.heap.size ≤ b1 → w.heap.size ≤ b2 →
      wpList P l.toArray Q (l.drop (n + 2)) ((a'.put (some d1) (ptr b1)).put (some d2) (ptr b2)) w') (l.take n) a) : (Code.region id l.toArray true).wp P Q a w := by
  obtain ⟨vals, hq, hs⟩ := wpB_vals _ _ h
  have hln : n + 1 < l.length := (List.getElem?_eq_some_iff.1 hl2).1
  have hlen : (l.take n).length = n := by rw [List.length_take]; omega
  let V : Nat × Nat → Nat → Value := fun γ i => if i = n then ptr γ.1 else if i = n + 1 then ptr γ.2 else vals i
  have hV : ∀ γ i, i < n → V γ i = vals i := fun γ i hi => by show (if _ then _ else _) = _; rw [if_neg (by omega), if_neg (by omega)]
  have hfr : ∀ γ i, i ≤ n → lexF (l.take (n + 2)) (V γ) i a = lexF (l.take n) vals i a := fun γ i hi => lexF_congr fun j hj =>
    ⟨by rw [List.getElem?_take_of_lt (by omega), List.getElem?_take_of_lt (by omega)], hV γ j (by omega)⟩
  refine region_core (Γ := Nat × Nat) (C := fun γ L w' => C w' ∧ (L.getD n false = true → Blk w' γ.1 T z ∧ w.heap.size ≤ γ.1) ∧ (L.getD (n + 1) false = true → Blk w' γ.2 T z ∧ w.heap.size ≤ γ.2) ∧
      (L.getD n false = true → L.getD (n + 1) false = true → γ.1 ≠ γ.2)) (n + 2) hm ht hB (0, 0)
    ⟨hC, (fun h => by rw [getD_replicate_false] at h; cases h), (fun h => by rw [getD_replicate_false] at h; cases h), (fun h => by rw [getD_replicate_false] at h; cases h)⟩ V ?_ ?_
  · intro i o hi γ L w' hsz hr ⟨hC', g1, g2, g3⟩
    have hilt : i < n + 2 := by
      have := (List.getElem?_eq_some_iff.1 hi).1
      rw [List.length_take] at this; omega
    rw [List.getElem?_take_of_lt hilt] at hi
    have hun := getD_both (mem_ready.1 hr).1
    rcases Nat.lt_or_ge i n with hin | hin
    · -- no allocation
      have hset : ∀ k, k ≠ i → (L.setIfInBounds i true).getD k false = L.getD k false := fun k hk => getD_set_ne false (Ne.symm hk)
      refine ⟨γ, fun _ _ => rfl, ?_⟩
      rw [hfr γ i (by omega), hV γ i hin]
      simp only [hset n (by omega), hset (n + 1) (by omega)]
      rcases hs i o (by rw [List.getElem?_take_of_lt hin]; exact hi) with ⟨h1, h2⟩ | ⟨h1, h2⟩
      · exact .inl ⟨h1, gives_mono (h2 w' hC') fun w'' ⟨h3, h4⟩ => ⟨h3, fun e => ⟨(g1 e).1.below h4 (g1 e).1.lt, (g1 e).2⟩, fun e => ⟨(g2 e).1.below h4 (g2 e).1.lt, (g2 e).2⟩, g3⟩⟩
      · exact .inr ⟨h1, h2, hC', g1, g2, g3⟩
    · have hw : ∀ b : Act, (execOp b.eval ⟨some d1, .alloc T, t1, p1, e1, none⟩).run P w' = .ok (.value (.pointer (some ⟨w'.heap.size, 0, none⟩))) (w'.alloc (.cells z T)) := fun b => by
        simp only [execOp, Sem.run_bind, ha w', Result.andThen_ok, Sem.run_pure]
      have hw2 : ∀ b : Act, (execOp b.eval ⟨some d2, .alloc T, t2, p2, e2, none⟩).run P w' = .ok (.value (.pointer (some ⟨w'.heap.size, 0, none⟩))) (w'.alloc (.cells z T)) := fun b => by
        simp only [execOp, Sem.run_bind, ha w', Result.andThen_ok, Sem.run_pure]
      by_cases hi1 : i = n
      · subst hi1
        obtain rfl : _ = o := Option.some.inj (hl1.symm.trans hi)
        refine ⟨(w'.heap.size, γ.2), fun j hj => ?_, .inl ⟨rfl, ?_⟩⟩
        · have hjn : j ≠ i := fun e => by subst e; rw [hun] at hj; cases hj
          simp only [V, if_neg hjn]
        · refine gives_value (w' := w'.alloc (.cells z T)) ?_ ?_
          · rw [hw]
            simp only [V, if_pos]; rfl
          · refine ⟨hCa _ hC', fun _ => ⟨Blk.new _ _ _, hCs _ hC'⟩, fun e => ?_, fun _ e => ?_⟩
            · rw [getD_set_ne false (by omega)] at e
              exact ⟨(g2 e).1.alloc _, (g2 e).2⟩
            · rw [getD_set_ne false (by omega)] at e
              have := (g2 e).1.lt
              exact Nat.ne_of_gt this
      · obtain rfl : i = n + 1 := by omega
        obtain rfl : _ = o := Option.some.inj (hl2.symm.trans hi)
        refine ⟨(γ.1, w'.heap.size), fun j hj => ?_, .inl ⟨rfl, ?_⟩⟩
        · have hj2 : j ≠ n + 1 := fun e => by subst e; rw [hun] at hj; cases hj
          simp only [V, if_neg hj2]
        · refine gives_value (w' := w'.alloc (.cells z T)) ?_ ?_
          · rw [hw2]
            simp only [V, if_neg (show ¬ n + 1 = n by omega), if_pos]; rfl
          · refine ⟨hCa _ hC', fun e => ?_, fun _ => ⟨Blk.new _ _ _, hCs _ hC'⟩, fun e _ => ?_⟩
            · rw [getD_set_ne false (by omega)] at e
              exact ⟨(g1 e).1.alloc _, (g1 e).2⟩
            · rw [getD_set_ne false (by omega)] at e
              have := (g1 e).1.lt
              exact Nat.ne_of_lt this
  · intro γ L w' hall ⟨hC', g1, g2, g3⟩
    have h1 := hall n (by omega)
    have h2 := hall (n + 1) (by omega)
    have hl2' : (l.take (n + 2)).length = n + 2 := by rw [List.length_take]; omega
    rw [hl2']
    have hput : lexF (l.take (n + 2)) (V γ) (n + 2) a = ((lexF (l.take n) vals n a).put (some d1) (ptr γ.1)).put (some d2) (ptr γ.2) := by
      rw [lexF, lexF, hfr γ n (Nat.le_refl n), List.getElem?_take_of_lt (by omega), List.getElem?_take_of_lt (by omega), hl1, hl2]
      simp only [V, if_neg (show ¬ n + 1 = n by omega), if_pos, Option.bind_some]
    rw [hput]
    rw [hlen] at hq
    exact hq γ.1 γ.2 w' (g3 h1 h2) hC' (g1 h1).1 (g2 h2).1 (g1 h1).2 (g2 h2).2
end
end Go.Proofs.YtnnhnlabkbjacaaDoor
namespace Go.Proofs.YtnnhnlabkbjacaaDoor
open Go.RowKit
section
variable {P : Program} {ops : Array Oper}
theorem wp_region_new1 {id : Nat} {Q : Exit → Act → World → Prop} {C : World → Prop} {a : Act} {w : World} {l : List Oper} (n : Nat) (T : TypeId) (z : Array Value) (d1 : Tmp) {t1 : TypeId} {p1 : String} {e1 : Array Edge}
    (hl1 : l[n]? = some ⟨some d1, .alloc T, t1, p1, e1, none⟩)
    (hm : P.follows .mixedOrders = true) (ht : tidy l.toArray = true) (hB : tailB l.toArray (n + 1) = true)
    (ha : ∀ w, (Instr.alloc T true (.tuple #[])).run P w = .ok (.pointer (some ⟨w.heap.size, 0, none⟩)) (w.alloc (.cells z T)))
    (hC : C w.drew) (hCa : ∀ w, C w → C (w.alloc (.cells z T))) (hCs : ∀ w', C w' → w.heap.size ≤ w'.heap.size)
    (h : wpB P l.toArray C (fun a' => ∀ b1 w', C w' → Blk w' b1 T z → w.heap.size ≤ b1 →
      wpList P l.toArray Q (l.drop (n + 1)) (a'.put (some d1) (ptr b1)) w') (l.take n) a) : (Code.region id l.toArray true).wp P Q a w := by
  obtain ⟨vals, hq, hs⟩ := wpB_vals _ _ h
  have hln : n < l.length := (List.getElem?_eq_some_iff.1 hl1).1
  have hlen : (l.take n).length = n := by rw [List.length_take]; omega
  let V : Nat → Nat → Value := fun γ i => if i = n then ptr γ else vals i
  have hV : ∀ γ i, i < n → V γ i = vals i := fun γ i hi => by show (if _ then _ else _) = _; rw [if_neg (by omega)]
  have hfr : ∀ γ i, i ≤ n → lexF (l.take (n + 1)) (V γ) i a = lexF (l.take n) vals i a := fun γ i hi => lexF_congr fun j hj =>
    ⟨by rw [List.getElem?_take_of_lt (by omega), List.getElem?_take_of_lt (by omega)], hV γ j (by omega)⟩
  refine region_core (Γ := Nat) (C := fun γ L w' => C w' ∧ (L.getD n false = true → Blk w' γ T z ∧ w.heap.size ≤ γ)) (n + 1) hm ht hB 0
    ⟨hC, (fun h => by rw [getD_replicate_false] at h; cases h)⟩ V ?_ ?_
  · intro i o hi γ L w' hsz hr ⟨hC', g1⟩
    have hilt : i < n + 1 := by
      have := (List.getElem?_eq_some_iff.1 hi).1
      rw [List.length_take] at this; omega
    rw [List.getElem?_take_of_lt hilt] at hi
    have hun := getD_both (mem_ready.1 hr).1
    rcases Nat.lt_or_ge i n with hin | hin
    · have hset : ∀ k, k ≠ i → (L.setIfInBounds i true).getD k false = L.getD k false := fun k hk => getD_set_ne false (Ne.symm hk)
      refine ⟨γ, fun _ _ => rfl, ?_⟩
      rw [hfr γ i (by omega), hV γ i hin]
      simp only [hset n (by omega)]
      rcases hs i o (by rw [List.getElem?_take_of_lt hin]; exact hi) with ⟨h1, h2⟩ | ⟨h1, h2⟩
      · exact .inl ⟨h1, gives_mono (h2 w' hC') fun w'' ⟨h3, h4⟩ => ⟨h3, fun e => ⟨(g1 e).1.below h4 (g1 e).1.lt, (g1 e).2⟩⟩⟩
      · exact .inr ⟨h1, h2, hC', g1⟩
    · obtain rfl : i = n := by omega
      obtain rfl : _ = o := Option.some.inj (hl1.symm.trans hi)
      have hw : ∀ b : Act, (execOp b.eval ⟨some d1, .alloc T, t1, p1, e1, none⟩).run P w' = .ok (.value (.pointer (some ⟨w'.heap.size, 0, none⟩))) (w'.alloc (.cells z T)) := fun b => by
        simp only [execOp, Sem.run_bind, ha w', Result.andThen_ok, Sem.run_pure]
      refine ⟨w'.heap.size, fun j hj => ?_, .inl ⟨rfl, ?_⟩⟩
      · have hjn : j ≠ i := fun e => by subst e; rw [hun] at hj; cases hj
        simp only [V, if_neg hjn]
      · refine gives_value (w' := w'.alloc (.cells z T)) ?_ ?_
        · rw [hw]
          simp only [V, if_pos]; rfl
        · exact ⟨hCa _ hC', fun _ => ⟨Blk.new _ _ _, hCs _ hC'⟩⟩
  · intro γ L w' hall ⟨hC', g1⟩
    have h1 := hall n (by omega)
    have hl2' : (l.take (n + 1)).length = n + 1 := by rw [List.length_take]; omega
    rw [hl2']
    have hput : lexF (l.take (n + 1)) (V γ) (n + 1) a = (lexF (l.take n) vals n a).put (some d1) (ptr γ) := by
      rw [lexF, hfr γ n (Nat.le_refl n), List.getElem?_take_of_lt (by omega), hl1]
      simp only [V, if_pos, Option.bind_some]
    rw [hput]
    rw [hlen] at hq
    exact hq γ w' hC' (g1 h1).1 (g1 h1).2
end
end Go.Proofs.YtnnhnlabkbjacaaDoor
namespace Go.Proofs.YtnnhnlabkbjacaaDoor
open Go.ChangeShapes Go.WideShapes Go.ChangeAt Go.RowKit
attribute [local go_sem] Gives
section
variable {ops : Array Oper} {a : Act} {rest : List Oper} {dst : Option Tmp} {ty : TypeId} {pos : String} {after : Array Edge} {x : Operand} {g o : Nat} {f : Nat → Nat} {C : World → Prop} {Qk : Act → Prop} {gd : Option (Nat × Bool)}
theorem blnm (hwt : Region.wanted ⟨dst, .load 52 x, ty, pos, after, gd⟩ (yielded ops a.tmps) = true) (hx : a.eval x = .pointer (some ⟨g, o, none⟩)) (hb : ∀ w, C w → w.rangeAt g o (num8 f).toList) (h : wpB Tryd.prog ops C Qk rest (a.put dst (.agg (num8 f)))) :
    wpB Tryd.prog ops C Qk (⟨dst, .load 52 x, ty, pos, after, gd⟩ :: rest) a :=
  wpB_val hwt (fun w hw => gives_value (w' := w) (by
    have := run_loadAt_mid (P := Tryd.prog) w g o 52 (num8 f).toList _ (hb w hw) Tryd.underlying52 rfl (info_num8.trans (by rw [Array.length_toList, size_num8]))
    rw [Array.toArray_toList] at this
    simp only [execOp, hx, Sem.run_bind, this, Result.andThen_ok, Sem.run_pure]) ⟨hw, Below.refl _ _⟩) h
end
theorem alloc_num8 (w : World) : (Instr.alloc 52 true (.tuple #[])).run Tryd.prog w = .ok (.pointer (some ⟨w.heap.size, 0, none⟩)) (w.alloc (.cells (num8 fun _ => 0) 52)) := by
  have hz := (zero_of_info (P := Tryd.prog) (t := 52) (v := .agg (num8 fun _ => 0)) (n := 8) (by kernel_rfl)).1
  simp [Instr.alloc, Sem.run_bind, hz w, newVar, newRow, Value.cells]
theorem Byt.dropA {w : World} {B : Nat} {A : Option Addr} {l : List Nat} (h : Byt w B A l) (cap W : Nat) (hc : l.length ≤ cap) : Byt w B (if cap = W then A else Option.map (fun x => x.add W) A) (l.drop W) := fun hn => by
  have hn' := hn
  rw [List.length_drop] at hn
  obtain ⟨b, o, rfl, hl, hr⟩ := h (by omega)
  rw [if_neg (by omega)]
  have e : Option.map (fun x => Addr.add x W) (some ⟨b, o, Option.none⟩) = some ⟨b, o + W, Option.none⟩ := by rw [Option.map_some, Addr.add_mid]
  rw [e]
  exact Byt.drop (l := l) (fun _ => ⟨b, o, rfl, hl, hr⟩) W hn'
set_option maxHeartbeats 400000 in
set_option maxRecDepth 100000 in
theorem psum_ok (s : ShaM.S8) (hs : s.ok) (A : Option Addr) (l : List Nat) (n cap m : Nat) (hl : l.length = n) (hmm : m % 64 = 0) (hc : n ≤ cap) (hm : cap ≤ maxLen) (hz : m + n ≤ 1000000000000000) (hb : B256 l) (w : World) (hA : Byt w w.heap.size A l) (hS : Salts w) :
    Calls Tryd.prog 31 #[.agg (pre s.get m true), .slice A n cap] w fun e w' => e = .returned (.agg (tag (ShaM.digest (ShaM.ended s m l)))) ∧ Below w.heap.size w w' := by
  have HS := hid hs
  have HB := hid hb
  have HA := hid hA
  have SA := hid hS
  have HL := hid hl
  have HM := hid hm
  unfold maxLen at hm
  obtain ⟨W, hW⟩ : ∃ W, W = n - n % 64 := ⟨_, rfl⟩
  have e5 : (n : Int) - (n : Int) % 64 = (W : Int) := by omega
  have e5' : IntKind.i64.wrap ((n : Int) - (n : Int) % 64) = (W : Int) := wr_nat e5 (by omega)
  have e1 : IntKind.i64.wrap ((m : Int) + (n : Int)) = ((m + n : Nat) : Int) := wr_nat (by omega) (by omega)
  have hWn : W ≤ n := by omega
  have hWc : (W : Int) ≤ (cap : Int) := by omega
  have E1 := hid e1
  have HW := hid hW
  clear hs hb hA hS hl e1 hW
  go_enter Tryd.func31, Tryd.ntmps31
  go_upto_region 1 with fail
  generalize hw3 : World.alloc (World.alloc w _) _ = w3
  have b1 : Blk w3 w.heap.size 54 (pre s.get m true) := by rw [← hw3]; exact (Blk.top rfl rfl).alloc _
  have b2 : Blk w3 (w.heap.size + 1) 43 (tag fun _ => 0) := by rw [← hw3]; exact Blk.top zlit_tag (by simp)
  have hb : Below w.heap.size w w3 := by rw [← hw3]; exact ((Below.refl _ _).alloc (Nat.le_refl _) _).alloc (by simp) _
  clear hw3
  have c9 := b1.pre9
  go_upto_region 4 with fail
  have B1 := hid b1
  have B2 := hid b2
  have BEL := hid hb
  clear b1 b2 hb c9
  refine wp_region_new1 (C := fun w' => Below w3.heap.size w3 w') 6 52 (num8 fun _ => 0) 6 rfl (by kernel_rfl) (by kernel_rfl) (by kernel_rfl) alloc_num8 (Below.refl _ _).drew (fun w' hw' => hw'.alloc hw'.size _) (fun w' hw' => hw'.size) ?_
  simp only [List.take_succ_cons, List.take_zero, List.drop_succ_cons, List.drop_zero]
  apply wpB_val
  · rfl
  · intro w' hw'
    have hbl := Below.refl w'.heap.size w'
    go_simp
    first | exact rfl | exact ⟨rfl, hbl⟩ | exact ⟨rfl, hw', hbl⟩
  simp only [Act.put, List.setIfInBounds_toArray, List.set_cons_succ, List.set_cons_zero]
  apply blnm
  · rfl
  · rfl
  · exact fun w' hw' => (B1.out.below hw' B1.out.lt).pre0
  simp only [Act.put, List.setIfInBounds_toArray, List.set_cons_succ, List.set_cons_zero]
  apply wpB_val
  · rfl
  · intro w' hw'
    have hbl := Below.refl w'.heap.size w'
    go_simp
    first | exact rfl | exact ⟨rfl, hbl⟩ | exact ⟨rfl, hw', hbl⟩
  simp only [Act.put, List.setIfInBounds_toArray, List.set_cons_succ, List.set_cons_zero]
  apply wpB_val
  · rfl
  · intro w' hw'
    have hbl := Below.refl w'.heap.size w'
    go_simp
    first | exact rfl | exact ⟨rfl, hbl⟩ | exact ⟨rfl, hw', hbl⟩
  simp only [Act.put, List.setIfInBounds_toArray, List.set_cons_succ, List.set_cons_zero]
  apply wpB_val
  · rfl
  · intro w' hw'
    have hbl := Below.refl w'.heap.size w'
    go_simp
    first | exact rfl | exact ⟨rfl, hbl⟩ | exact ⟨rfl, hw', hbl⟩
  simp only [Act.put, List.setIfInBounds_toArray, List.set_cons_succ, List.set_cons_zero]
  apply wpB_val
  · rfl
  · intro w' hw'
    go_simp
    exact (passes_any s HS.out A (l.take W) W cap (by rw [List.length_take, HL.out]; omega) (by omega) HM.out (HB.out.take W) _ (((HA.out.take W).below (BEL.out.trans (hw'.mono BEL.out.size)) (Nat.le_refl _)).more (Nat.le_trans BEL.out.size hw'.size)) (SA.out.on (BEL.out.trans (hw'.mono BEL.out.size)))).mono fun e w'' ⟨he, hb''⟩ => ⟨he, hw'.trans (hb''.mono hw'.size), hb''⟩
  simp only [Act.put, List.setIfInBounds_toArray, List.set_cons_succ, List.set_cons_zero]
  refine wpB_nil fun g6 w4 hw4 q6 hg6 => ?_
  have b1 := B1.out.below hw4 B1.out.lt
  have b2 := B2.out.below hw4 B2.out.lt
  have bel := BEL.out.trans (hw4.mono BEL.out.size)
  have hz2 : w.heap.size + 1 < w3.heap.size := B2.out.lt
  clear hw4 B1 B2 BEL
  have B1 := hid b1
  have B2 := hid b2
  have BEL := hid bel
  clear b1 b2 bel
  unfold ptr
  go_upto_region 5 with ((with_reducible apply stn); rfl; rfl; exact q6)
  generalize hw5 : World.setRow _ _ _ = w5
  have c6 : Blk w5 g6 52 (num8 (ShaM.passes s (l.take W)).get) := by rw [← hw5]; exact q6.setRow_same _
  have c1 : Blk w5 w.heap.size 54 (pre s.get m true) := by rw [← hw5]; exact B1.out.setRow_other (by omega) _
  have c2 : Blk w5 (w.heap.size + 1) 43 (tag fun _ => 0) := by rw [← hw5]; exact B2.out.setRow_other (by omega) _
  have cb : Below w.heap.size w w5 := by rw [← hw5]; exact below_setRow BEL.out (by omega) _
  clear hw5 q6 B1 B2 BEL w4
  have C1 := hid c1
  have C2 := hid c2
  have C6 := hid c6
  have CB := hid cb
  clear c1 c2 c6 cb
  refine wp_region_tail (C := fun w' => Below w5.heap.size w5 w') 11 (by kernel_rfl) (by kernel_rfl) (by kernel_rfl) (Below.refl _ _).drew ?_
  simp only [List.take_succ_cons, List.take_zero, List.drop_succ_cons, List.drop_zero]
  apply kln
  · rfl
  · rfl
  · exact fun w' hw' => C6.out.below hw' C6.out.lt
  simp only [Act.put, List.setIfInBounds_toArray, List.set_cons_succ, List.set_cons_zero]
  apply wpK_val
  · rfl
  · intro w' hw'
    go_simp
    first | exact rfl | exact ⟨rfl, hw'⟩
  simp only [Act.put, List.setIfInBounds_toArray, List.set_cons_succ, List.set_cons_zero]
  apply wpK_val
  · rfl
  · intro w' hw'
    go_simp
    first | exact rfl | exact ⟨rfl, hw'⟩
  simp only [Act.put, List.setIfInBounds_toArray, List.set_cons_succ, List.set_cons_zero]
  apply wpK_val
  · rfl
  · intro w' hw'
    go_simp
    first | exact rfl | exact ⟨rfl, hw'⟩
  simp only [Act.put, List.setIfInBounds_toArray, List.set_cons_succ, List.set_cons_zero]
  apply wpK_val
  · rfl
  · intro w' hw'
    go_simp
    first | exact rfl | exact ⟨rfl, hw'⟩
  simp only [Act.put, List.setIfInBounds_toArray, List.set_cons_succ, List.set_cons_zero]
  apply wpK_val
  · rfl
  · intro w' hw'
    have hcell := (C1.out.below hw' C1.out.lt).pre8
    go_simp
    first | exact rfl | exact ⟨rfl, hw'⟩
  simp only [Act.put, List.setIfInBounds_toArray, List.set_cons_succ, List.set_cons_zero]
  apply wpK_val
  · rfl
  · intro w' hw'
    go_simp
    first | exact rfl | exact ⟨rfl, hw'⟩
  simp only [Act.put, List.setIfInBounds_toArray, List.set_cons_succ, List.set_cons_zero]
  apply wpK_val
  · rfl
  · intro w' hw'
    go_simp
    first | exact rfl | exact ⟨rfl, hw'⟩
  simp only [Act.put, List.setIfInBounds_toArray, List.set_cons_succ, List.set_cons_zero]
  apply wpK_val
  · rfl
  · intro w' hw'
    have h1 : _ := E1.out
    go_simp
    first | exact rfl | exact ⟨rfl, hw'⟩
  simp only [Act.put, List.setIfInBounds_toArray, List.set_cons_succ, List.set_cons_zero]
  apply wpK_val
  · rfl
  · intro w' hw'
    go_simp
    exact (finish_any (ShaM.passes s (l.take W)) (ShaM.passes_ok _ (Nat.le_refl _) HS.out) _ (l.drop W) (n - W) (cap - W) (m + n) (by rw [List.length_drop, HL.out]) (by have := HW.out; omega) (by have := HW.out; omega) hz (HB.out.drop W) _ ((HA.out.dropA cap W (by rw [HL.out]; exact hc)).below (CB.out.trans (hw'.mono CB.out.size)) (Nat.le_refl _) |>.more (Nat.le_trans CB.out.size hw'.size)) (SA.out.on (CB.out.trans (hw'.mono CB.out.size)))).mono fun e w'' ⟨he, hb''⟩ => ⟨he, hw'.trans (hb''.mono hw'.size)⟩
  simp only [Act.put, List.setIfInBounds_toArray, List.set_cons_succ, List.set_cons_zero]
  apply wpK_val
  · rfl
  · intro w' hw'
    go_simp
    exact (digest_any _ (ShaM.passes_ok _ (Nat.le_refl _) (ShaM.passes_ok _ (Nat.le_refl _) HS.out)) _).mono fun e w'' ⟨he, hb''⟩ => ⟨he, hw'.trans (hb''.mono hw'.size)⟩
  simp only [Act.put, List.setIfInBounds_toArray, List.set_cons_succ, List.set_cons_zero]
  refine wpK_nil fun w4 hw4 => ?_
  have c2 := C2.out.below hw4 C2.out.lt
  have cb := CB.out.trans (hw4.mono CB.out.size)
  have hmath : ShaM.passes (ShaM.passes s (l.take W)) (l.drop W ++ ShaM.tail (m + n)) = ShaM.ended s m l := by
    unfold ShaM.ended
    rw [HL.out, ← ShaM.passes_append (n / 64) (by rw [List.length_take, HL.out]; have := HW.out; omega), ← List.append_assoc, List.take_append_drop]
  rw [hmath]
  clear hmath
  go_wp2_with ((with_reducible apply stt); rfl; rfl; exact c2)
  all_goals
    apply ret_row Tryd.results31
    · exact c2.setRow_same _
    · exact Tryd.underlying43
    · rfl
    · exact (info_tag.trans (by rw [size_tag]))
    · rfl
    · rfl
    exact ⟨rfl, below_setRow cb (by omega) _⟩
set_option maxHeartbeats 400000 in
set_option maxRecDepth 100000 in
theorem psum_nil (f : Nat → Nat) (m n cap : Nat) (A : Option Addr) (w : World) :
    Calls Tryd.prog 31 #[.agg (pre f m false), .slice A n cap] w fun e w' => e = .returned (.agg (tag fun _ => 0)) ∧ Below w.heap.size w w' := by
  go_enter Tryd.func31, Tryd.ntmps31
  go_upto_region 1 with fail
  generalize hw3 : World.alloc (World.alloc w _) _ = w3
  have b1 : Blk w3 w.heap.size 54 (pre f m false) := by rw [← hw3]; exact (Blk.top rfl rfl).alloc _
  have b2 : Blk w3 (w.heap.size + 1) 43 (tag fun _ => 0) := by rw [← hw3]; exact Blk.top zlit_tag (by simp)
  have hb : Below w.heap.size w w3 := by rw [← hw3]; exact ((Below.refl _ _).alloc (Nat.le_refl _) _).alloc (by simp) _
  clear hw3
  have c9 := b1.pre9
  go_wp2_with ((with_reducible apply stt (f := fun _ => 0)); rfl; (show Value.agg _ = _; rw [zlit_tag]); exact b2)
  apply ret_row Tryd.results31
  · exact b2.setRow_same _
  · exact Tryd.underlying43
  · rfl
  · exact (info_tag.trans (by rw [size_tag]))
  · rfl
  · rfl
  exact ⟨rfl, below_setRow hb (by omega) _⟩
set_option maxHeartbeats 400000 in
set_option maxRecDepth 100000 in
/-- P3.1. -/
theorem sum_any (A : Option Addr) (l : List Nat) (n cap : Nat) (hl : l.length = n) (hc : n ≤ cap) (hm : cap ≤ maxLen) (hz : n ≤ 1000000000000000) (hb : B256 l) (w : World) (hA : Byt w w.heap.size A l) (hS : Salts w) :
    Calls Tryd.prog 34 #[.slice A n cap] w fun e w' => e = .returned (.agg (tag (ShaM.sum l))) ∧ Below w.heap.size w w' := by
  have HB := hid hb
  have HA := hid hA
  have SA := hid hS
  have HL := hid hl
  clear hb hA hS hl
  go_enter Tryd.func34, Tryd.ntmps34
  go_wp2_with fail
  generalize hw3 : World.alloc w _ = w3
  have b2 : Blk w3 w.heap.size 43 (tag fun _ => 0) := by rw [← hw3]; exact Blk.top zlit_tag rfl
  have hb : Below w.heap.size w w3 := by rw [← hw3]; exact (Below.refl _ _).alloc (Nat.le_refl _) _
  clear hw3
  refine (start_any w3).mono ?_
  rintro e w4 ⟨rfl, hb'⟩
  have b2' := b2.below hb' b2.lt
  have hb4 := hb.trans (hb'.mono hb.size)
  clear hb' b2 hb w3
  have B2 := hid b2'
  have BEL := hid hb4
  clear b2' hb4
  go_wp2_with fail
  refine (psum_ok ShaM.seeds ShaM.seeds_ok A l n cap 0 HL.out rfl hc hm (by omega) HB.out w4 ((HA.out.below BEL.out (Nat.le_refl _)).more BEL.out.size) (SA.out.on BEL.out)).mono ?_
  rintro e w5 ⟨rfl, hb'⟩
  have b2 := B2.out.below hb' B2.out.lt
  have hb := BEL.out.trans (hb'.mono BEL.out.size)
  clear hb'
  go_wp2_with ((with_reducible apply stt); rfl; rfl; exact b2)
  apply ret_row Tryd.results34
  · exact b2.setRow_same _
  · exact Tryd.underlying43
  · rfl
  · exact (info_tag.trans (by rw [size_tag]))
  · rfl
  · rfl
  exact ⟨rfl, below_setRow hb (Nat.le_refl _) _⟩
end Go.Proofs.YtnnhnlabkbjacaaDoor
namespace Go.Proofs.YtnnhnlabkbjacaaDoor
open Go.ChangeShapes Go.WideShapes Go.ChangeAt Go.RowKit
attribute [local go_sem] Gives
set_option maxHeartbeats 400000 in
set_option maxRecDepth 100000 in
/-- P3.2, of whole blocks. -/
theorem ahead_ok (A : Option Addr) (l : List Nat) (n cap : Nat) (hl : l.length = n) (hn : n % 64 = 0) (hc : n ≤ cap) (hm : cap ≤ maxLen) (hz : n ≤ 1000000000000000) (hb : B256 l) (w : World) (hA : Byt w w.heap.size A l) (hS : Salts w) :
    Calls Tryd.prog 35 #[.slice A n cap] w fun e w' => e = .returned (.tuple #[.agg (pre (ShaM.passes ShaM.seeds l).get n true), .int .i64 0]) ∧ Below w.heap.size w w' := by
  have HB := hid hb
  have HA := hid hA
  have SA := hid hS
  have HL := hid hl
  clear hb hA hS hl
  go_enter Tryd.func35, Tryd.ntmps35
  go_wp2_with fail
  generalize hw3 : World.alloc w _ = w3
  have b2 : Blk w3 w.heap.size 54 (pre (fun _ => 0) 0 false) := by rw [← hw3]; exact Blk.top zlit_pre rfl
  have hb : Below w.heap.size w w3 := by rw [← hw3]; exact (Below.refl _ _).alloc (Nat.le_refl _) _
  clear hw3
  refine (start_any w3).mono ?_
  rintro e w4 ⟨rfl, hb'⟩
  have b2' := b2.below hb' b2.lt
  have hb4 := hb.trans (hb'.mono hb.size)
  clear hb' b2 hb w3
  have B2 := hid b2'
  have BEL := hid hb4
  clear b2' hb4
  go_wp2_with fail
  refine (more_ok ShaM.seeds ShaM.seeds_ok A l n cap 0 HL.out hn hc hm (by omega) HB.out w4 ((HA.out.below BEL.out (Nat.le_refl _)).more BEL.out.size) (SA.out.on BEL.out)).mono ?_
  rintro e w5 ⟨rfl, hb'⟩
  rw [Nat.zero_add]
  have b2 := B2.out.below hb' B2.out.lt
  have hb := BEL.out.trans (hb'.mono BEL.out.size)
  clear hb'
  go_wp2_with ((with_reducible apply stp); rfl; rfl; exact b2)
  apply ret_pre2 Tryd.results35
  · rfl
  · rfl
  · rfl
  · exact b2.setRow_same _
  exact ⟨rfl, below_setRow hb (Nat.le_refl _) _⟩
set_option maxHeartbeats 400000 in
set_option maxRecDepth 100000 in
/-- P3.2, of bytes that are no whole blocks. -/
theorem ahead_arg (A : Option Addr) (n cap : Nat) (hn : n % 64 ≠ 0) (hz : n ≤ 1000000000000000) (w : World) :
    Calls Tryd.prog 35 #[.slice A n cap] w fun e w' => e = .returned (.tuple #[.agg (pre (fun _ => 0) 0 false), .int .i64 2]) ∧ Below w.heap.size w w' := by
  go_enter Tryd.func35, Tryd.ntmps35
  go_wp2_with fail
  generalize hw3 : World.alloc w _ = w3
  have b2 : Blk w3 w.heap.size 54 (pre (fun _ => 0) 0 false) := by rw [← hw3]; exact Blk.top zlit_pre rfl
  have hb : Below w.heap.size w w3 := by rw [← hw3]; exact (Below.refl _ _).alloc (Nat.le_refl _) _
  clear hw3
  refine (start_any w3).mono ?_
  rintro e w4 ⟨rfl, hb'⟩
  have b2' := b2.below hb' b2.lt
  have hb4 := hb.trans (hb'.mono hb.size)
  clear hb' b2 hb w3
  have B2 := hid b2'
  have BEL := hid hb4
  clear b2' hb4
  go_wp2_with fail
  refine (more_arg _ _ n cap A hn hz w4).mono ?_
  rintro e w5 ⟨rfl, hb'⟩
  have b2 := B2.out.below hb' B2.out.lt
  have hb := BEL.out.trans (hb'.mono BEL.out.size)
  clear hb'
  go_wp2_with ((with_reducible apply stp); rfl; rfl; exact b2)
  apply ret_pre2 Tryd.results35
  · rfl
  · rfl
  · rfl
  · exact b2.setRow_same _
  exact ⟨rfl, below_setRow hb (Nat.le_refl _) _⟩
end Go.Proofs.YtnnhnlabkbjacaaDoor
namespace Go.Proofs.YtnnhnlabkbjacaaDoor
open Go.ChangeShapes Go.WideShapes Go.ChangeAt Go.RowKit
/-- A type of slices, of numbers of kind k. -/
structure Elt (S e : TypeId) (k : IntKind) : Prop where
  und : Tryd.prog.underlying S = some (.slice e)
  inf : ∃ i : TypeInfo, Tryd.prog.info? e = some i ∧ i.zero = some (.int k 0) ∧ i.size = 1 ∧ i.bytes ≤ 8
theorem elt_of {S e : TypeId} {k : IntKind} (h : Tryd.prog.underlying S = some (.slice e)) (h1 : (Tryd.prog.info? e).map (·.size) = some 1) (h2 : (Tryd.prog.info? e).map (fun i => decide (i.bytes ≤ 8)) = some true) (h3 : (Tryd.prog.info? e).bind (·.zero) = some (.int k 0)) : Elt S e k := by
  refine ⟨h, ?_⟩
  cases hi : Tryd.prog.info? e with
  | none => rw [hi] at h1; cases h1
  | some i =>
    rw [hi] at h1 h2 h3
    simp only [Option.map_some, Option.some.injEq, decide_eq_true_eq, Option.bind_some] at h1 h2 h3
    exact ⟨i, rfl, h3, h1, h2⟩
def nums (k : IntKind) (l : List Nat) : List Value := l.map fun x => Value.int k (x : Nat)
theorem nums_length (k : IntKind) (l : List Nat) : (nums k l).length = l.length := List.length_map _
theorem nums_append (k : IntKind) (l m : List Nat) : nums k (l ++ m) = nums k l ++ nums k m := List.map_append
theorem nums_get (k : IntKind) {l : List Nat} {i : Nat} (h : i < l.length) : (nums k l)[i]? = some (.int k (l.getD i 0 : Nat)) := by
  unfold nums
  rw [List.getElem?_map, List.getD_eq_getElem?_getD, List.getElem?_eq_getElem h]; rfl
/-- A slice of the numbers of l, in one row below block B. -/
def Nums (k : IntKind) (w : World) (B : Nat) (A : Option Addr) (l : List Nat) : Prop :=
  0 < l.length → ∃ b o, A = some ⟨b, o, none⟩ ∧ b < B ∧ ∀ i, i < l.length → w.cell? ⟨b, o + i, none⟩ = some (.int k (l.getD i 0 : Nat))
theorem Nums.below {k : IntKind} {B B' : Nat} {w w' : World} {A : Option Addr} {l : List Nat} (h : Nums k w B A l) (hb : Below B' w w') (hB : B ≤ B') : Nums k w' B A l := fun hn => by
  obtain ⟨b, o, rfl, hl, hr⟩ := h hn
  exact ⟨b, o, rfl, hl, fun i hi => (hb.cell (p := ⟨b, o + i, none⟩) (by show b < B'; omega)).trans (hr i hi)⟩
theorem Nums.more {k : IntKind} {B B' : Nat} {w : World} {A : Option Addr} {l : List Nat} (h : Nums k w B A l) (hB : B ≤ B') : Nums k w B' A l := fun hn => by
  obtain ⟨b, o, rfl, hl, hr⟩ := h hn
  exact ⟨b, o, rfl, by omega, hr⟩
theorem Nums.byt {w : World} {B : Nat} {A : Option Addr} {l : List Nat} (h : Nums .u8 w B A l) : Byt w B A l := h
theorem Byt.nums {w : World} {B : Nat} {A : Option Addr} {l : List Nat} (h : Byt w B A l) : Nums .u8 w B A l := h
theorem Nums.none {k : IntKind} {w : World} {B : Nat} {A : Option Addr} {l : List Nat} (h : l.length = 0) : Nums k w B A l := fun hn => absurd hn (by omega)
theorem Nums.row {k : IntKind} {w : World} {B g : Nat} {t : TypeId} {cs : Array Value} {l : List Nat} (h : Blk w g t cs) (hg : g < B) (hc : ∀ j, j < l.length → cs[j]? = some (.int k (l.getD j 0 : Nat))) : Nums k w B (some ⟨g, 0, .none⟩) l := fun _ =>
  ⟨g, 0, rfl, hg, fun i hi => by rw [Nat.zero_add, h.cell]; exact hc i hi⟩
/-- v is a slice of the numbers l, in a row of its own from block B on. -/
def Own (e : TypeId) (k : IntKind) (w : World) (B : Nat) (v : Value) (l : List Nat) : Prop := w.ownsRow B e 1 v l.length (nums k l)
section
variable {e : TypeId} {k : IntKind} {w w' : World} {B : Nat} {v : Value} {l : List Nat}
theorem Own.nil : Own e k w B (.slice none 0 0) [] := World.ownsRow_nil w B e 1
theorem Own.empty (w : World) (hB : B ≤ w.heap.size) : Own e k (w.alloc (.cells #[] e)) B (.slice (some ⟨w.heap.size, 0, none⟩) 0 0) [] :=
  World.ownsRow_made w #[] 0 hB (Nat.zero_le _) rfl
theorem Own.form (h : Own e k w B v l) : (v = .slice none 0 0 ∧ l = []) ∨ ∃ g cap, v = .slice (some ⟨g, 0, none⟩) l.length cap ∧ B ≤ g ∧ g < w.heap.size ∧ l.length ≤ cap ∧ cap ≤ maxLen ∧ Nums k w w.heap.size (some ⟨g, 0, none⟩) l := by
  rcases h.2 with ⟨h', h0⟩ | ⟨g, cap, cur, hv, hB, hg, hnc, hcm, hcs, ht⟩
  · exact .inl ⟨h', List.eq_nil_of_length_eq_zero h0⟩
  · have hlt : g < w.heap.size := Blk.lt (t := e) (cs := cur) hg
    refine .inr ⟨g, cap, hv, hB, hlt, hnc, hcm, fun _ => ⟨g, 0, rfl, hlt, fun i hi => ?_⟩⟩
    rw [Nat.zero_add, cell_of_row w g _ cur _ _ hg]
    have h1 := nums_get k hi
    rw [← ht, List.getElem?_take_of_lt (by omega), Array.getElem?_toList] at h1
    exact h1
/-- The same, whichever it is. -/
theorem Own.any (h : Own e k w B v l) : ∃ A cap, v = .slice A l.length cap ∧ l.length ≤ cap ∧ cap ≤ maxLen ∧ Nums k w w.heap.size A l := by
  rcases h.form with ⟨rfl, rfl⟩ | ⟨g, cap, rfl, _, _, h1, h2, h3⟩
  · exact ⟨.none, 0, rfl, Nat.le_refl _, Nat.zero_le _, Nums.none rfl⟩
  · exact ⟨_, cap, rfl, h1, h2, h3⟩
theorem Own.below (h : Own e k w B v l) (hb : Below w.heap.size w w') : Own e k w' B v l := by
  refine ⟨h.1, ?_⟩
  rcases h.2 with h' | ⟨g, cap, cur, hv, hB, hg, hr⟩
  · exact .inl h'
  · exact .inr ⟨g, cap, cur, hv, hB, Blk.below (t := e) (cs := cur) hg hb (Blk.lt (t := e) (cs := cur) hg), hr⟩
theorem Own.alloc (h : Own e k w B v l) (o : Obj) : Own e k (w.alloc o) B v l := World.ownsRow.alloc h o
theorem Own.drew (h : Own e k w B v l) : Own e k w.drew B v l := ⟨h.1, h.2⟩
end
theorem below_grown {B B' : Nat} {w0 w w' w1 : World} {v : Value} {e : TypeId} {k : IntKind} {l : List Nat} (hb : Below B w0 w) (hg : w.grownBy w' v.ownBlock) (ho : Own e k w1 B' v l) (hB : B ≤ B') (hs : B ≤ w0.heap.size) : Below B w0 w' :=
  hb.grown hg (Nat.le_trans hs hb.size) fun g h => Nat.le_trans hB (World.ownsRow.lt ho g h).1
theorem Blk.grown {e : TypeId} {k : IntKind} {w w' w0 : World} {g B : Nat} {t : TypeId} {cs : Array Value} {v : Value} {l : List Nat} (h : Blk w g t cs) (hg : w.grownBy w' v.ownBlock) (ho : Own e k w0 B v l) (hlt : g < B) : Blk w' g t cs :=
  (hg.block g h.lt fun e' => by have := (World.ownsRow.lt ho g e'.symm).1; omega).trans h
theorem Nums.grown {e : TypeId} {k k' : IntKind} {w w' w0 : World} {A : Option Addr} {B B' : Nat} {v : Value} {l m : List Nat} (h : Nums k' w B' A m) (hB : B' ≤ w.heap.size) (hg : w.grownBy w' v.ownBlock) (ho : Own e k w0 B v l) (hlt : B' ≤ B) : Nums k' w' B' A m := fun hn => by
  obtain ⟨b, o, rfl, hl, hr⟩ := h hn
  exact ⟨b, o, rfl, hl, fun i hi => hg.cell (hr i hi) fun e' => by have := (World.ownsRow.lt ho b e'.symm).1; omega⟩
theorem below_none {B : Nat} {w0 w w' : World} (hb : Below B w0 w) (hg : w.grownBy w' none) (hs : B ≤ w0.heap.size) : Below B w0 w' :=
  hb.grown hg (Nat.le_trans hs hb.size) fun g h => by cases h
theorem Own.heap {e : TypeId} {k : IntKind} {w w' : World} {B : Nat} {v : Value} {l : List Nat} (h : Own e k w B v l) (hh : w'.heap = w.heap) : Own e k w' B v l := by
  refine ⟨h.1, ?_⟩
  rcases h.2 with h' | ⟨g, cap, cur, hv, hB, hg, hr⟩
  · exact .inl h'
  · exact .inr ⟨g, cap, cur, hv, hB, by rw [hh]; exact hg, hr⟩
section
variable {ops : Array Oper} {Q : Exit → Act → World → Prop} {a : Act} {w : World} {rest : List Oper} {dst : Option Tmp} {ty : TypeId} {pos : String} {after : Array Edge} {s x : Operand} {m c B B' : Nat} {v : Value} {l kk : List Nat} {S e : TypeId} {k : IntKind} {ad : Addr}
theorem run_appN (E : Elt S e k) (hown : Own e k w B v l) (hrd : Nums k w B' (some ad) kk) (hk : kk.length = m) (hsz : l.length + m ≤ 1000000) (hB : B ≤ w.heap.size) :
    ∃ v' w', (Builtin.append_ #[S, S] ty #[v, .slice (some ad) m c]).run Tryd.prog w = .ok v' w' ∧ Own e k w' B v' (l ++ kk) ∧ w.grownBy w' v.ownBlock := by
  obtain ⟨i, hi, hz, h1, h2⟩ := E.inf
  subst hk
  obtain ⟨v', w', hr, ho, hg, _⟩ := run_append_own (P := Tryd.prog) w B S ty e i (.int k 0) 1 i.bytes E.und hi hz h1 rfl rfl (by decide) v l.length _ hown ad kk.length c (nums k kk) (by rw [nums_length, Nat.mul_one])
    (fun j u hj => by
      have hjm : j < kk.length := by
        have := (List.getElem?_eq_some_iff.1 hj).1
        rwa [nums_length] at this
      obtain ⟨b, o, e', _, hr⟩ := hrd (by omega)
      obtain rfl : ad = ⟨b, o, none⟩ := Option.some.inj e'
      rw [nums_get k hjm] at hj
      rw [Addr.add_mid, hr j hjm]
      exact hj)
    (fun u hu => by
      obtain ⟨y, _, rfl⟩ := List.mem_map.1 hu
      rfl)
    (by unfold maxLen; omega) (Nat.le_trans (Nat.mul_le_mul hsz h2) (by omega)) hB
  refine ⟨v', w', hr, ?_, hg⟩
  unfold Own
  rw [List.length_append, nums_append]
  exact ho
/-- append of numbers to a slice of the call's own. -/
theorem wappN (E : Elt S e k) (hs : a.eval s = v) (hx : a.eval x = .slice (some ad) m c) (hown : Own e k w B v l) (hrd : Nums k w B' (some ad) kk) (hk : kk.length = m) (hsz : l.length + m ≤ 1000000) (hB : B ≤ w.heap.size)
    (h : ∀ v' w', Own e k w' B v' (l ++ kk) → w.grownBy w' v.ownBlock → wpList Tryd.prog ops Q rest (a.put dst v') w') :
    wpList Tryd.prog ops Q (⟨dst, .call { callee := .builtin .append, args := #[s, x], argTypes := #[S, S] }, ty, pos, after, none⟩ :: rest) a w := by
  obtain ⟨v', w', hr, h1, h2⟩ := run_appN (ty := ty) (c := c) E hown hrd hk hsz hB
  refine wpList_plain rfl fun K hK => ?_
  unfold Oper.wp execOp
  simp only [resolve, invoke, builtin, Sem.run_bind, Sem.run_pure, Result.andThen_ok, List.map_toArray, List.map_cons, List.map_nil, hs, hx, hr]
  exact hK _ _ (h v' w' h1 h2)
theorem wappN_none (E : Elt S e k) (hs : a.eval s = v) (hx : a.eval x = .slice none 0 0) (hown : Own e k w B v l) (h : wpList Tryd.prog ops Q rest (a.put dst v) w) :
    wpList Tryd.prog ops Q (⟨dst, .call { callee := .builtin .append, args := #[s, x], argTypes := #[S, S] }, ty, pos, after, none⟩ :: rest) a w := by
  obtain ⟨i, hi, hz, h1, h2⟩ := E.inf
  refine wpList_plain rfl fun K hK => ?_
  unfold Oper.wp execOp
  have := run_append_owned_none (P := Tryd.prog) w B S ty e i 1 E.und hi v l.length _ hown
  simp only [resolve, invoke, builtin, Sem.run_bind, Sem.run_pure, Result.andThen_ok, List.map_toArray, List.map_cons, List.map_nil, hs, hx, this]
  exact hK _ _ h
theorem wappN_any {A : Option Addr} (E : Elt S e k) (hs : a.eval s = v) (hx : a.eval x = .slice A m c) (h0 : A = none → m = 0 ∧ c = 0) (hown : Own e k w B v l) (hrd : Nums k w B' A kk) (hk : kk.length = m) (hsz : l.length + m ≤ 1000000) (hB : B ≤ w.heap.size)
    (h : ∀ v' w', Own e k w' B v' (l ++ kk) → w.grownBy w' v.ownBlock → wpList Tryd.prog ops Q rest (a.put dst v') w') :
    wpList Tryd.prog ops Q (⟨dst, .call { callee := .builtin .append, args := #[s, x], argTypes := #[S, S] }, ty, pos, after, none⟩ :: rest) a w := by
  cases A with
  | some ad => exact wappN E hs hx hown hrd hk hsz hB h
  | none =>
    obtain ⟨rfl, rfl⟩ := h0 rfl
    obtain rfl := List.eq_nil_of_length_eq_zero hk
    rw [List.append_nil] at h
    exact wappN_none E hs hx hown (h v w hown ⟨rfl, rfl, rfl, Nat.le_refl _, fun _ _ _ => rfl⟩)
end
/-- A literal of one number. -/
theorem nums_one {k : IntKind} {w : World} {t : TypeId} {x : Nat} {v : Value} (h : v = .int k (x : Nat)) {B : Nat} (hB : w.heap.size < B) : Nums k (w.alloc (.cells #[v] t)) B (some ⟨w.heap.size, 0, none⟩) [x] := fun _ =>
  ⟨w.heap.size, 0, rfl, hB, fun i hi => by
    obtain rfl : i = 0 := by simp at hi; omega
    rw [(Blk.top (t := t) rfl rfl).cell, h]; rfl⟩
end Go.Proofs.YtnnhnlabkbjacaaDoor
