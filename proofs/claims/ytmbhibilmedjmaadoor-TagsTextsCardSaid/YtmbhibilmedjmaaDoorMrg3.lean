/-
  Contracts of sha.pass and sha.passes over this translation.
  Contract of sha.passes over this translation.
  Contract of sha.digest over this translation.
  Contract of sha.finish over this translation.
  The struct sha.Prefix as a value and in memory; contracts of sha.start, More over this translation.
  A region that draws its order and makes one new variable ('x := f(y)', the call no lone one): its address hangs on the order; all else does not.
  Contracts of (sha.Prefix).Sum, sha.Sum, sha.Ahead over this translation.
  What the document's own words of SHA-256 reckon, against the plain numbers of ShaM: rotations by sums, bits one by one, the roots of the primes.
  Contracts of the document's bits, rotations and choices (casemateref03.bit, Cut, Rot, chosen, two) over this translation.
  Contracts of the document's roots (casemateref03.within, root) over this translation.
  Contracts of the document's primes and their roots (casemateref03.Primes, Roots) over this translation.
  append of so many zeros ('append(l, make([]byte, n)...)'), to a slice of the call's own that is full.
  Contracts of the document's tail and message's numbers (casemateref03.Tail, Message) over this translation.
-/
import Derived.Test.YtmbhibilmedjmaaDoorMrg2
import Derived.Deep.Cut
import Derived.Lib.LaidTab
import Derived.Lib.ItoaNum
import Derived.Laws.CopyOwn
import Derived.Deep.WholeRow
import Derived.Laws.OwnMore
set_option linter.unusedVariables false
set_option linter.unusedSimpArgs false
set_option maxRecDepth 100000
namespace Go.Proofs.YtmbhibilmedjmaaDoor
open Go.ChangeShapes Go.WideShapes Go.ChangeAt Go.RowKit
attribute [local go_sem] Gives
def Pows (_ : World) : Prop := True
def tabs : Nat := 1
/-- The tables of start-up are there: the salts, and the powers of 10 where these are listed. -/
def Salts (w : World) : Prop := tabs < w.heap.size ∧ (∀ n, n < 64 → w.cell? ⟨1, n, none⟩ = some (.int .u32 (ShaM.saltAt n : Nat))) ∧ Pows w
theorem Salts.below {B : Nat} {w w' : World} (h : Salts w) (hb : Below B w w') (h0 : tabs < B) : Salts w' :=
  ⟨Nat.lt_of_lt_of_le h.1 hb.size, fun n hn => (hb.cell (p := ⟨1, n, none⟩) h0).trans (h.2.1 n hn), trivial⟩
theorem Salts.on {w w' : World} (h : Salts w) (hb : Below w.heap.size w w') : Salts w' := h.below hb h.1
/-- Eight numbers. -/
def num8 (f : Nat → Nat) : Array Value := row 8 fun j => .int .u32 (f j : Nat)
theorem size_num8 {f : Nat → Nat} : (num8 f).size = 8 := size_row
theorem get_num8 {f : Nat → Nat} {k : Nat} (h : k < 8) : (num8 f)[k]? = some (.int .u32 (f k : Nat)) := get_row_lt h
theorem num8_ext {f g : Nat → Nat} (h : ∀ k, k < 8 → f k = g k) : num8 f = num8 g := row_ext fun k hk => by rw [h k hk]
theorem num8_set {f : Nat → Nat} {k v : Nat} : (num8 f).setIfInBounds k (.int .u32 (v : Nat)) = num8 fun j => if j = k then v else f j := by
  unfold num8
  rw [row_set]
  exact row_ext fun j _ => by by_cases e : j = k <;> simp [e]
theorem num8_one {f : Nat → Nat} : (num8 f).all (·.oneCell') = true := row_one fun _ _ => rfl
theorem zlit8 : (#[.int .u32 0, .int .u32 0, .int .u32 0, .int .u32 0, .int .u32 0, .int .u32 0, .int .u32 0, .int .u32 0] : Array Value) = num8 fun _ => 0 := by rfl
theorem letters_zero (s : ShaM.S8) : letters s 0 = num8 s.get := row_ext fun j hj => by rw [Nat.add_zero, Nat.mod_eq_of_lt hj]
theorem letters_full (s : ShaM.S8) : letters s 64 = num8 s.get := row_ext fun j hj => by rw [show (j + 64) % 8 = j by omega]
theorem info_num8 : (Tryd.prog.info? 67).map (·.size) = some 8 := by kernel_rfl
section
variable {ops : Array Oper} {Q : Exit → Act → World → Prop} {a : Act} {w : World} {rest : List Oper} {dst : Option Tmp} {ty : TypeId} {pos : String} {after : Array Edge} {x y : Operand} {g : Nat} {f f0 : Nat → Nat}
theorem ldn (hx : a.eval x = .pointer (some ⟨g, 0, none⟩)) (hb : Blk w g 67 (num8 f)) (h : wpList Tryd.prog ops Q rest (a.put dst (.agg (num8 f))) w) :
    wpList Tryd.prog ops Q (⟨dst, .load 67 x, ty, pos, after, none⟩ :: rest) a w :=
  step_load_row hb Tryd.underlying67 rfl (info_num8.trans (by rw [size_num8])) hx h
theorem run_ldn {w : World} (hb : Blk w g 67 (num8 f)) : (Instr.loadAt 67 (.pointer (some ⟨g, 0, none⟩))).run Tryd.prog w = .ok (.agg (num8 f)) w := by
  have h1 := hb.range 0 8
  rw [Nat.zero_add, show (8 : Nat) = (num8 f).size from size_num8.symm, Array.extract_size] at h1
  have := run_loadAt_mid (P := Tryd.prog) w g 0 67 (num8 f).toList _ h1 Tryd.underlying67 rfl (info_num8.trans (by rw [Array.length_toList, size_num8]))
  rwa [Array.toArray_toList] at this
theorem kln {C : World → Prop} {Qk : Act → Prop} {gd : Option (Nat × Bool)} (hwt : Region.wanted ⟨dst, .load 67 x, ty, pos, after, gd⟩ (yielded ops a.tmps) = true) (hx : a.eval x = .pointer (some ⟨g, 0, none⟩)) (hb : ∀ w, C w → Blk w g 67 (num8 f)) (h : wpK Tryd.prog ops C Qk rest (a.put dst (.agg (num8 f)))) :
    wpK Tryd.prog ops C Qk (⟨dst, .load 67 x, ty, pos, after, gd⟩ :: rest) a :=
  wpK_val hwt (fun w hw => gives_value (w' := w) (by simp only [execOp, hx, Sem.run_bind, run_ldn (hb w hw), Result.andThen_ok, Sem.run_pure]) hw) h
theorem stn (hx : a.eval x = .pointer (some ⟨g, 0, none⟩)) (hy : a.eval y = .agg (num8 f)) (hb : Blk w g 67 (num8 f0)) (h : wpList Tryd.prog ops Q rest (a.put dst undef) (w.setRow g (num8 f))) :
    wpList Tryd.prog ops Q (⟨dst, .store 67 x y, ty, pos, after, none⟩ :: rest) a w :=
  step_store_row hb (info_num8.trans (by rw [size_num8])) (by rw [size_num8, size_num8]) num8_one hx hy h
end
def mix8 (k : Nat) (T s : Nat → Nat) : Nat → Nat := fun j => if j < k then ShaM.add (T j) (s j) else T j
theorem mix8_zero (T s : Nat → Nat) : mix8 0 T s = T := funext fun j => by simp [mix8]
theorem mix8_step {k : Nat} (T s : Nat → Nat) : (fun j => if j = k then ShaM.add (T k) (s k) else mix8 k T s j) = mix8 (k + 1) T s := funext fun j => by
  unfold mix8
  by_cases h : j = k
  · subst h; simp
  · simp only [h, if_false]
    by_cases h2 : j < k
    · rw [if_pos h2, if_pos (by omega)]
    · rw [if_neg h2, if_neg (by omega)]
theorem mix8_at (k : Nat) (T s : Nat → Nat) : mix8 k T s k = T k := by simp [mix8]
theorem mix8_full (T s : ShaM.S8) : num8 (mix8 8 T.get s.get) = num8 (ShaM.addS T s).get := num8_ext fun k hk => by
  unfold mix8
  rw [if_pos hk, ShaM.addS_get T s hk]
set_option maxHeartbeats 400000 in
set_option maxRecDepth 100000 in
theorem pass_any (s : ShaM.S8) (hs : s.ok) (A : Option Addr) (l : List Nat) (cap : Nat) (hl : l.length = 64) (hb : ∀ k, ShaM.at' l k < 256) (w : World) (hA : Byt w w.heap.size A l) (hS : Salts w) :
    Calls Tryd.prog 80 #[.agg (num8 s.get), .slice A 64 cap] w fun e w' => e = .returned (.agg (num8 (ShaM.pass s (ShaM.at' l)).get)) ∧ Below w.heap.size w w' := by
  have HS := hid hs
  have HB := hid hb
  have HA := hid hA
  have SA := hid hS
  clear hs hb hA hS
  go_enter Tryd.func80, Tryd.ntmps80
  go_wp2_with fail
  generalize hw3 : World.alloc (World.alloc w _) _ = w3
  have b1 : Blk w3 w.heap.size 67 (num8 s.get) := by rw [← hw3]; exact (Blk.top rfl rfl).alloc _
  have b2 : Blk w3 (w.heap.size + 1) 67 (num8 fun _ => 0) := by rw [← hw3]; exact Blk.top zlit8 (by simp)
  have hb : Below w.heap.size w w3 := by rw [← hw3]; exact ((Below.refl _ _).alloc (Nat.le_refl _) _).alloc (by simp) _
  clear hw3
  have ha := (HA.out.below hb (Nat.le_refl _)).more hb.size
  refine (spread_any A l cap hl HB.out w3 ha).mono ?_
  rintro e w4 ⟨rfl, hb'⟩
  have b1' := b1.below hb' b1.lt
  have b2' := b2.below hb' b2.lt
  have hb4 := hb.trans (hb'.mono hb.size)
  have hz : w.heap.size + 1 < w4.heap.size := b2'.lt
  clear hb' b1 b2 hb ha
  have B1 := hid b1'
  have B2 := hid b2'
  have BEL := hid hb4
  clear b1' b2' hb4
  go_upto_region 2 with ((with_reducible apply stw); rfl; rfl; exact Blk.top zlit_wds rfl)
  generalize hw5 : World.setRow _ _ _ = w5
  have b5 : Blk w5 w4.heap.size 107 (wds (ShaM.upM (ShaM.at' l) 48)) := by rw [← hw5]; exact (Blk.top zlit_wds rfl).setRow_same _
  have b1 : Blk w5 w.heap.size 67 (num8 s.get) := by rw [← hw5]; exact (B1.out.alloc _).setRow_other (by omega) _
  have b2 : Blk w5 (w.heap.size + 1) 67 (num8 fun _ => 0) := by rw [← hw5]; exact (B2.out.alloc _).setRow_other (by omega) _
  have hb : Below w.heap.size w w5 := by rw [← hw5]; exact below_setRow (BEL.out.alloc (by omega) _) (by omega) _
  have hz5 : w4.heap.size < w5.heap.size := b5.lt
  clear hw5 B1 B2 BEL
  generalize hg5 : w4.heap.size = g5 at *
  clear hg5 w4
  go_upto_region 3 with (first | ((with_reducible apply ldn); rfl; exact b1) | ((with_reducible apply stn); rfl; rfl; exact Blk.top zlit8 rfl))
  generalize hw6 : World.setRow _ _ _ = w6
  have c6 : Blk w6 w5.heap.size 67 (letters (ShaM.steps (ShaM.sched (ShaM.at' l)) 0 s) 0) := by rw [← hw6]; rw [letters_zero]; exact (Blk.top zlit8 rfl).setRow_same _
  have c5 : Blk w6 g5 107 (wds (ShaM.upM (ShaM.at' l) 48)) := by rw [← hw6]; exact (b5.alloc _).setRow_other (by omega) _
  have c1 : Blk w6 w.heap.size 67 (num8 s.get) := by rw [← hw6]; exact (b1.alloc _).setRow_other (by omega) _
  have c2 : Blk w6 (w.heap.size + 1) 67 (num8 fun _ => 0) := by rw [← hw6]; exact (b2.alloc _).setRow_other (by omega) _
  have cb : Below w.heap.size w w6 := by rw [← hw6]; exact below_setRow (hb.alloc (by omega) _) (by omega) _
  clear hw6 b1 b2 hb b5
  generalize hg6 : w5.heap.size = g6 at *
  clear hg6 w5
  have hw0 := SA.out.1
  have hwG : 1 < w.heap.size := by unfold tabs at hw0; omega
  go_wp2_with fail
  go_loopw [12] (fun i wr => ∃ n : Nat, n ≤ 64 ∧ i = .int .i64 n ∧ Blk wr g6 67 (letters (ShaM.steps (ShaM.sched (ShaM.at' l)) n s) n) ∧ Blk wr g5 107 (wds (ShaM.upM (ShaM.at' l) 48)) ∧ Blk wr w.heap.size 67 (num8 s.get) ∧
    Blk wr (w.heap.size + 1) 67 (num8 fun _ => 0) ∧ Below w.heap.size w wr) (fun i _ => 64 - (intOf i).toNat)
  case atStart => exact ⟨0, by omega, rfl, c6, c5, c1, c2, cb⟩
  case round =>
    clear c6 c5 c1 c2 cb
    obtain ⟨n, hn, rfl, c6, c5, c1, c2, cb⟩ := hrel
    by_cases hlt : n < 64
    · have tn : (n : Int) < 64 := by omega
      have S1 := hid ((SA.out.on cb).2.1 n hlt)
      have M1 := hid ((c5.cell n).trans (get_wds hlt))
      have C6 := hid c6
      have C5 := hid c5
      have C1 := hid c1
      have C2 := hid c2
      have CB := hid cb
      clear c6 c5 c1 c2 cb
      go_wp2_with fail
      refine wp_region_tail (C := Drew wr) 8 (by kernel_rfl) (by kernel_rfl) (by kernel_rfl) (Drew.refl _) ?_
      simp only [List.take_succ_cons, List.take_zero, List.drop_succ_cons, List.drop_zero]
      apply wpK_val
      · rfl
      · intro w' hw'
        go_simp
        first | exact rfl | exact ⟨rfl, hw'⟩
      simp only [Act.put, List.setIfInBounds_toArray, List.set_cons_succ, List.set_cons_zero]
      apply wpK_val
      · rfl
      · intro w' hw'
        go_simp
        first | exact rfl | exact ⟨rfl, hw'⟩
      simp only [Act.put, List.setIfInBounds_toArray, List.set_cons_succ, List.set_cons_zero]
      apply wpK_val
      · rfl
      · intro w' hw'
        go_simp
        first | exact rfl | exact ⟨rfl, hw'⟩
      simp only [Act.put, List.setIfInBounds_toArray, List.set_cons_succ, List.set_cons_zero]
      apply wpK_val
      · rfl
      · intro w' hw'
        have hcell := hw'.cell S1.out
        go_simp
        first | exact rfl | exact ⟨rfl, hw'⟩
      simp only [Act.put, List.setIfInBounds_toArray, List.set_cons_succ, List.set_cons_zero]
      apply wpK_val
      · rfl
      · intro w' hw'
        go_simp
        first | exact rfl | exact ⟨rfl, hw'⟩
      simp only [Act.put, List.setIfInBounds_toArray, List.set_cons_succ, List.set_cons_zero]
      apply wpK_val
      · rfl
      · intro w' hw'
        go_simp
        first | exact rfl | exact ⟨rfl, hw'⟩
      simp only [Act.put, List.setIfInBounds_toArray, List.set_cons_succ, List.set_cons_zero]
      apply wpK_val
      · rfl
      · intro w' hw'
        have hcell := hw'.cell M1.out
        go_simp
        first | exact rfl | exact ⟨rfl, hw'⟩
      simp only [Act.put, List.setIfInBounds_toArray, List.set_cons_succ, List.set_cons_zero]
      apply wpK_val
      · rfl
      · intro w' hw'
        have h1 : _ := u32_wrap_nat (ShaM.saltAt n) (ShaM.upM (ShaM.at' l) 48 n)
        go_simp
        first | exact rfl | exact ⟨rfl, hw'⟩
      simp only [Act.put, List.setIfInBounds_toArray, List.set_cons_succ, List.set_cons_zero]
      refine wpK_nil fun w4 hw4 => ?_
      have c6 := hw4.blk C6.out
      have c5 := hw4.blk C5.out
      have c1 := hw4.blk C1.out
      have c2 := hw4.blk C2.out
      have cb := hw4.below CB.out
      clear hw4 C6 C5 C1 C2 CB S1 M1
      have C6 := hid c6
      have C5 := hid c5
      have C1 := hid c1
      have C2 := hid c2
      have CB := hid cb
      clear c6 c5 c1 c2 cb
      go_wp2_with fail
      refine (step_any _ (ShaM.steps_ok _ HS.out n) g6 _ n _ hlt (ShaM.add_lt _ _) w4 C6.out).mono ?_
      rintro e w7 ⟨rfl, c6, on⟩
      have c5 := C5.out.only on (by omega)
      have c1 := C1.out.only on (by omega)
      have c2 := C2.out.only on (by omega)
      have cb := CB.out.trans ((only_Below on (B := w.heap.size) (by omega) CB.out.size))
      clear C6 C5 C1 C2 CB on w4
      go_wp2_with fail
      go_roundw
      case rel => exact ⟨n + 1, by omega, by go_num, c6, c5, c1, c2, cb⟩
      case measure => simp [intOf]; omega
    · have tn : decide ((n : Int) < 64) = false := by simp; omega
      rw [show n = 64 by omega, letters_full] at c6
      generalize hT : ShaM.steps (ShaM.sched (ShaM.at' l)) 64 s = T at c6
      have HT := hid hT
      clear hT
      go_wp2_with fail
      rw [← mix8_zero T.get s.get] at c6
      go_loopw [25] (fun i wr => ∃ k : Nat, k ≤ 8 ∧ i = .int .i64 k ∧ Blk wr g6 67 (num8 (mix8 k T.get s.get)) ∧ Blk wr w.heap.size 67 (num8 s.get) ∧
        Blk wr (w.heap.size + 1) 67 (num8 fun _ => 0) ∧ Below w.heap.size w wr) (fun i _ => 8 - (intOf i).toNat)
      case atStart => exact ⟨0, by omega, rfl, c6, c1, c2, cb⟩
      case round =>
        clear c6 c5 c1 c2 cb
        obtain ⟨k, hk, rfl, c6, c1, c2, cb⟩ := hrel
        by_cases hlt : k < 8
        · have tk : (k : Int) < 8 := by omega
          have S1 := hid ((c6.cell k).trans (get_num8 hlt))
          have M1 := hid ((c1.cell k).trans (get_num8 hlt))
          rw [mix8_at] at S1
          have C6 := hid c6
          have C1 := hid c1
          have C2 := hid c2
          have CB := hid cb
          clear c6 c1 c2 cb
          go_wp2_with fail
          refine wp_region_tail (C := Drew wr) 8 (by kernel_rfl) (by kernel_rfl) (by kernel_rfl) (Drew.refl _) ?_
          simp only [List.take_succ_cons, List.take_zero, List.drop_succ_cons, List.drop_zero]
          apply wpK_val
          · rfl
          · intro w' hw'
            go_simp
            first | exact rfl | exact ⟨rfl, hw'⟩
          simp only [Act.put, List.setIfInBounds_toArray, List.set_cons_succ, List.set_cons_zero]
          apply wpK_val
          · rfl
          · intro w' hw'
            go_simp
            first | exact rfl | exact ⟨rfl, hw'⟩
          simp only [Act.put, List.setIfInBounds_toArray, List.set_cons_succ, List.set_cons_zero]
          apply wpK_val
          · rfl
          · intro w' hw'
            have hcell := hw'.cell S1.out
            go_simp
            first | exact rfl | exact ⟨rfl, hw'⟩
          simp only [Act.put, List.setIfInBounds_toArray, List.set_cons_succ, List.set_cons_zero]
          apply wpK_val
          · rfl
          · intro w' hw'
            go_simp
            first | exact rfl | exact ⟨rfl, hw'⟩
          simp only [Act.put, List.setIfInBounds_toArray, List.set_cons_succ, List.set_cons_zero]
          apply wpK_val
          · rfl
          · intro w' hw'
            go_simp
            first | exact rfl | exact ⟨rfl, hw'⟩
          simp only [Act.put, List.setIfInBounds_toArray, List.set_cons_succ, List.set_cons_zero]
          apply wpK_val
          · rfl
          · intro w' hw'
            have hcell := hw'.cell M1.out
            go_simp
            first | exact rfl | exact ⟨rfl, hw'⟩
          simp only [Act.put, List.setIfInBounds_toArray, List.set_cons_succ, List.set_cons_zero]
          apply wpK_val
          · rfl
          · intro w' hw'
            have h1 : _ := u32_wrap_nat (T.get k) (s.get k)
            go_simp
            first | exact rfl | exact ⟨rfl, hw'⟩
          simp only [Act.put, List.setIfInBounds_toArray, List.set_cons_succ, List.set_cons_zero]
          apply wpK_val
          · rfl
          · intro w' hw'
            go_simp
            first | exact rfl | exact ⟨rfl, hw'⟩
          simp only [Act.put, List.setIfInBounds_toArray, List.set_cons_succ, List.set_cons_zero]
          refine wpK_nil fun w4 hw4 => ?_
          have c6 := hw4.blk C6.out
          have c1 := hw4.blk C1.out
          have c2 := hw4.blk C2.out
          have cb := hw4.below CB.out
          clear hw4 C6 C1 C2 CB S1 M1
          have q1 := (c6.cell k).trans (get_num8 hlt)
          have q3 := c6.frozen k
          have C6 := hid c6
          have C1 := hid c1
          have C2 := hid c2
          have CB := hid cb
          clear c6 c1 c2 cb
          go_wp2_with fail
          go_roundw
          case rel =>
            refine ⟨k + 1, by omega, by go_num, ?_, C1.out.setCell_other (by show g6 ≠ w.heap.size; omega) _, C2.out.setCell_other (by show g6 ≠ w.heap.size + 1; omega) _, CB.out.setCell (by show w.heap.size ≤ g6; omega) _⟩
            have h := C6.out.setCell_same k (.int .u32 (ShaM.add (T.get k) (s.get k) : Nat))
            rw [num8_set, mix8_step] at h
            exact h
          case measure => simp [intOf]; omega
        · have tk : decide ((k : Int) < 8) = false := by simp; omega
          rw [show k = 8 by omega, mix8_full] at c6
          go_wp2_with (first | ((with_reducible apply ldn); rfl; assumption) | ((with_reducible apply stn); rfl; rfl; assumption))
          apply ret_row Tryd.results80
          · exact c2.setRow_same _
          · exact Tryd.underlying67
          · rfl
          · exact (info_num8.trans (by rw [size_num8]))
          · rfl
          · rfl
          exact ⟨by rw [← HT.out]; rfl, below_setRow cb (by omega) _⟩
end Go.Proofs.YtmbhibilmedjmaaDoor
set_option maxRecDepth 100000
namespace Go.Proofs.YtmbhibilmedjmaaDoor
open Go.ChangeShapes Go.WideShapes Go.ChangeAt Go.RowKit
attribute [local go_sem] Gives
theorem B256.at' {l : List Nat} (h : B256 l) (k : Nat) : ShaM.at' l k < 256 := ShaM.getD_lt (by omega) h k
set_option maxHeartbeats 400000 in
set_option maxRecDepth 100000 in
theorem passes_any (s : ShaM.S8) (hs : s.ok) (A : Option Addr) (l : List Nat) (n cap : Nat) (hl : l.length = n) (hc : n ≤ cap) (hm : cap ≤ maxLen) (hb : B256 l) (w : World) (hA : Byt w w.heap.size A l) (hS : Salts w) :
    Calls Tryd.prog 72 #[.agg (num8 s.get), .slice A n cap] w fun e w' => e = .returned (.agg (num8 (ShaM.passes s l).get)) ∧ Below w.heap.size w w' := by
  unfold maxLen at hm
  have HS := hid hs
  have HB := hid hb
  have HA := hid hA
  have SA := hid hS
  have HL := hid hl
  clear hs hb hA hS hl
  go_enter Tryd.func72, Tryd.ntmps72
  go_wp2_with fail
  generalize hw3 : World.alloc (World.alloc w _) _ = w3
  have b1 : Blk w3 w.heap.size 67 (num8 s.get) := by rw [← hw3]; exact (Blk.top rfl rfl).alloc _
  have b2 : Blk w3 (w.heap.size + 1) 67 (num8 fun _ => 0) := by rw [← hw3]; exact Blk.top zlit8 (by simp)
  have hb : Below w.heap.size w w3 := by rw [← hw3]; exact ((Below.refl _ _).alloc (Nat.le_refl _) _).alloc (by simp) _
  clear hw3
  have ha := HA.out.below hb (Nat.le_refl _)
  go_loopw [1] (fun v wr => ∃ (A' : Option Addr) (l' : List Nat) (n' cap' : Nat) (s' : ShaM.S8), v = .slice A' n' cap' ∧ Hid (l'.length = n') ∧ n' ≤ cap' ∧ cap' ≤ 9223372036854775807 ∧ Hid (B256 l') ∧ Hid s'.ok ∧ Hid (ShaM.passes s' l' = ShaM.passes s l) ∧
    Byt wr w.heap.size A' l' ∧ Blk wr w.heap.size 67 (num8 s'.get) ∧ Blk wr (w.heap.size + 1) 67 (num8 fun _ => 0) ∧ Below w.heap.size w wr) (fun v _ => lenOf v)
  case atStart => exact ⟨A, l, n, cap, s, rfl, HL, hc, by omega, HB, HS, hid rfl, ha, b1, b2, hb⟩
  case round =>
    clear ha b1 b2 hb
    obtain ⟨A', l', n', cap', s', rfl, hl, hc', hm', hb', hs', hp, ha, b1, b2, hb⟩ := hrel
    by_cases hlt : 64 ≤ n'
    · have t0 : decide ((64 : Int) ≤ (n' : Int)) = true := by simp; omega
      obtain ⟨b, o, rfl, hbB, hr⟩ := ha (by have := hl.out; omega)
      clear hr
      have HA' := hid ha
      have B1 := hid b1
      have B2 := hid b2
      have BEL := hid hb
      clear ha b1 b2 hb
      go_wp2_with fail
      refine wp_region_tail (C := fun w' => Below wr.heap.size wr w') 4 (by kernel_rfl) (by kernel_rfl) (by kernel_rfl) (Below.refl _ _).drew ?_
      simp only [List.take_succ_cons, List.take_zero, List.drop_succ_cons, List.drop_zero]
      have hc64 : (64 : Int) ≤ (cap' : Int) := by omega
      apply kln
      · rfl
      · rfl
      · exact fun w' hw' => B1.out.below hw' B1.out.lt
      simp only [Act.put, List.setIfInBounds_toArray, List.set_cons_succ, List.set_cons_zero]
      apply wpK_val
      · rfl
      · intro w' hw'
        go_simp
        first | exact rfl | exact ⟨rfl, hw'⟩
      simp only [Act.put, List.setIfInBounds_toArray, List.set_cons_succ, List.set_cons_zero]
      apply wpK_val
      · rfl
      · intro w' hw'
        go_simp
        first | exact rfl | exact ⟨rfl, hw'⟩
      simp only [Act.put, List.setIfInBounds_toArray, List.set_cons_succ, List.set_cons_zero]
      apply wpK_val
      · rfl
      · intro w' hw'
        go_simp
        exact (pass_any s' hs'.out _ (l'.take 64) cap' (by rw [List.length_take]; have := hl.out; omega) (fun k => (hb'.out.take 64).at' k) _ (((HA'.out.take 64).below (hw'.mono BEL.out.size) (Nat.le_refl _)).more (Nat.le_trans BEL.out.size hw'.size)) (SA.out.on (BEL.out.trans (hw'.mono BEL.out.size)))).mono fun e w'' ⟨he, hb''⟩ => ⟨he, hw'.trans (hb''.mono hw'.size)⟩
      simp only [Act.put, List.setIfInBounds_toArray, List.set_cons_succ, List.set_cons_zero]
      refine wpK_nil fun w4 hw4 => ?_
      have b1 := B1.out.below hw4 B1.out.lt
      have b2 := B2.out.below hw4 B2.out.lt
      have bel := BEL.out.trans (hw4.mono BEL.out.size)
      have ha := HA'.out.below (hw4.mono BEL.out.size) (Nat.le_refl _)
      have B2 := hid b2
      have BEL := hid bel
      have HA' := hid ha
      clear b2 bel ha
      go_wp2_with ((with_reducible apply stn); rfl; rfl; exact b1)
      have hl' := hl.out
      have e1 : ShaM.pass s' (ShaM.at' (List.take 64 l')) = ShaM.pass s' (ShaM.at' l') := ShaM.pass_congr s' fun k hk => getD_take hk
      go_roundw
      case rel =>
        refine ⟨_, l'.drop 64, n' - 64, cap' - 64, ShaM.pass s' (ShaM.at' l'), rfl, hid (by rw [List.length_drop]; omega), by omega, by omega, hid (hb'.out.drop 64), hid (ShaM.pass_ok _ _), hid ?_, ?_, ?_, ?_, ?_⟩
        · rw [← hp.out, ShaM.passes_long (l := l') (by omega)]
        · have hd := (HA'.out.below (below_setRow (Below.refl w.heap.size w4) (Nat.le_refl _) (num8 (ShaM.pass s' (ShaM.at' (List.take 64 l'))).get)) (Nat.le_refl _)).drop 64
          by_cases h64 : cap' = 64
          · exact Byt.none (by rw [List.length_drop]; omega)
          · rw [if_neg h64]; exact hd
        · rw [e1]; exact b1.setRow_same _
        · exact B2.out.setRow_other (by omega) _
        · exact below_setRow BEL.out (Nat.le_refl _) _
      case measure => simp [lenOf]; omega
    · have t0 : decide ((64 : Int) ≤ (n' : Int)) = false := by simp; omega
      have hf : ShaM.passes s l = s' := by rw [← hp.out, ShaM.passes_short (by have := hl.out; omega)]
      have HF := hid hf
      clear hf ha
      go_wp2_with (first | ((with_reducible apply ldn); rfl; assumption) | ((with_reducible apply stn); rfl; rfl; assumption))
      apply ret_row Tryd.results72
      · exact b2.setRow_same _
      · exact Tryd.underlying67
      · rfl
      · exact (info_num8.trans (by rw [size_num8]))
      · rfl
      · rfl
      exact ⟨by rw [HF.out], below_setRow hb (by omega) _⟩
end Go.Proofs.YtmbhibilmedjmaaDoor
set_option maxRecDepth 100000
namespace Go.Proofs.YtmbhibilmedjmaaDoor
open Go.ChangeShapes Go.WideShapes Go.ChangeAt Go.RowKit
attribute [local go_sem] Gives
/-- 32 bytes. -/
def tag (f : Nat → Nat) : Array Value := row 32 fun j => .int .u8 (f j : Nat)
theorem size_tag {f : Nat → Nat} : (tag f).size = 32 := size_row
theorem get_tag {f : Nat → Nat} {k : Nat} (h : k < 32) : (tag f)[k]? = some (.int .u8 (f k : Nat)) := get_row_lt h
theorem tag_ext {f g : Nat → Nat} (h : ∀ k, k < 32 → f k = g k) : tag f = tag g := row_ext fun k hk => by rw [h k hk]
theorem tag_set {f : Nat → Nat} {k v : Nat} : (tag f).setIfInBounds k (.int .u8 (v : Nat)) = tag fun j => if j = k then v else f j := by
  unfold tag
  rw [row_set]
  exact row_ext fun j _ => by by_cases e : j = k <;> simp [e]
theorem tag_one {f : Nat → Nat} : (tag f).all (·.oneCell') = true := row_one fun _ _ => rfl
theorem zlit_tag : (#[.int .u8 0, .int .u8 0, .int .u8 0, .int .u8 0, .int .u8 0, .int .u8 0, .int .u8 0, .int .u8 0, .int .u8 0, .int .u8 0, .int .u8 0, .int .u8 0, .int .u8 0, .int .u8 0, .int .u8 0, .int .u8 0, .int .u8 0, .int .u8 0, .int .u8 0, .int .u8 0, .int .u8 0, .int .u8 0, .int .u8 0, .int .u8 0, .int .u8 0, .int .u8 0, .int .u8 0, .int .u8 0, .int .u8 0, .int .u8 0, .int .u8 0, .int .u8 0] : Array Value) = tag fun _ => 0 := by rfl
theorem info_tag : (Tryd.prog.info? 29).map (·.size) = some 32 := by kernel_rfl
section
variable {ops : Array Oper} {Q : Exit → Act → World → Prop} {a : Act} {w : World} {rest : List Oper} {dst : Option Tmp} {ty : TypeId} {pos : String} {after : Array Edge} {x y : Operand} {g : Nat} {f f0 : Nat → Nat}
theorem ldt (hx : a.eval x = .pointer (some ⟨g, 0, none⟩)) (hb : Blk w g 29 (tag f)) (h : wpList Tryd.prog ops Q rest (a.put dst (.agg (tag f))) w) :
    wpList Tryd.prog ops Q (⟨dst, .load 29 x, ty, pos, after, none⟩ :: rest) a w :=
  step_load_row hb Tryd.underlying29 rfl (info_tag.trans (by rw [size_tag])) hx h
theorem stt (hx : a.eval x = .pointer (some ⟨g, 0, none⟩)) (hy : a.eval y = .agg (tag f)) (hb : Blk w g 29 (tag f0)) (h : wpList Tryd.prog ops Q rest (a.put dst undef) (w.setRow g (tag f))) :
    wpList Tryd.prog ops Q (⟨dst, .store 29 x y, ty, pos, after, none⟩ :: rest) a w :=
  step_store_row hb (info_tag.trans (by rw [size_tag])) (by rw [size_tag, size_tag]) tag_one hx hy h
end
theorem run_index8 (f : Nat → Nat) {k : Nat} (hk : k < 8) (w : World) : (Instr.index 67 (.agg (num8 f)) (.int .i64 k)).run Tryd.prog w = .ok (.int .u32 (f k : Nat)) w := by
  have h1 : (0 : Int) ≤ (k : Int) ∧ (k : Int) < 8 := by omega
  simp [Instr.index, run_underlying Tryd.underlying67, asIntOf, h1, go_sem]
  rw [if_pos hk, get_num8 hk]; rfl
/-- The first c bytes of a digest. -/
def dg (s : ShaM.S8) (c : Nat) : Nat → Nat := fun j => if j < c then ShaM.digest s j else 0
theorem dg_zero (s : ShaM.S8) : dg s 0 = fun _ => 0 := funext fun j => by simp [dg]
theorem dg_step (s : ShaM.S8) (c : Nat) : (fun j => if j = c then ShaM.digest s c else dg s c j) = dg s (c + 1) := funext fun j => by
  unfold dg
  by_cases h : j = c
  · subst h; simp
  · simp only [h, if_false]
    by_cases h2 : j < c
    · rw [if_pos h2, if_pos (by omega)]
    · rw [if_neg h2, if_neg (by omega)]
theorem dg_full (s : ShaM.S8) : tag (dg s 32) = tag (ShaM.digest s) := tag_ext fun k hk => by unfold dg; rw [if_pos hk]
set_option maxHeartbeats 400000 in
set_option maxRecDepth 100000 in
theorem digest_any (s : ShaM.S8) (hs : s.ok) (w : World) :
    Calls Tryd.prog 73 #[.agg (num8 s.get)] w fun e w' => e = .returned (.agg (tag (ShaM.digest s))) ∧ Below w.heap.size w w' := by
  have HS := hid hs
  clear hs
  go_enter Tryd.func73, Tryd.ntmps73
  go_upto_region 2 with fail
  generalize hw3 : World.alloc (World.alloc (World.alloc w _) _) _ = w3
  have b1 : Blk w3 w.heap.size 67 (num8 s.get) := by rw [← hw3]; exact ((Blk.top rfl rfl).alloc _).alloc _
  have b2 : Blk w3 (w.heap.size + 1) 29 (tag fun _ => 0) := by rw [← hw3]; exact (Blk.top zlit_tag (by simp)).alloc _
  have b3 : Blk w3 (w.heap.size + 2) 29 (tag (dg s 0)) := by rw [← hw3, dg_zero]; exact Blk.top zlit_tag (by simp)
  have hb : Below w.heap.size w w3 := by rw [← hw3]; exact (((Below.refl _ _).alloc (Nat.le_refl _) _).alloc (by simp) _).alloc (by simp; omega) _
  clear hw3
  go_wp2_with ((with_reducible apply ldn); rfl; exact b1)
  clear b1
  go_loopw [8] (fun i wr => ∃ k : Nat, k ≤ 8 ∧ i = .int .i64 k ∧ Blk wr (w.heap.size + 1) 29 (tag fun _ => 0) ∧ Blk wr (w.heap.size + 2) 29 (tag (dg s (4 * k))) ∧ Below w.heap.size w wr) (fun i _ => 8 - (intOf i).toNat)
  case atStart => exact ⟨0, by omega, rfl, b2, b3, hb⟩
  case round =>
    clear b2 b3 hb
    obtain ⟨k, hk, rfl, b2, b3, hb⟩ := hrel
    by_cases hlt : k < 8
    · have tk : (k : Int) < 8 := by omega
      have hI := fun w => run_index8 s.get hlt w
      go_wp2_with fail
      clear hI
      go_loopw [12] (fun i wr => ∃ j : Nat, j ≤ 4 ∧ i = .int .i64 j ∧ Blk wr (w.heap.size + 1) 29 (tag fun _ => 0) ∧ Blk wr (w.heap.size + 2) 29 (tag (dg s (4 * k + j))) ∧ Below w.heap.size w wr) (fun i _ => 4 - (intOf i).toNat)
      case atStart => exact ⟨0, by omega, rfl, b2, b3, hb⟩
      case round =>
        clear b2 b3 hb
        obtain ⟨j, hj, rfl, b2, b3, hb⟩ := hrel
        by_cases hlj : j < 4
        · have tj : (j : Int) < 4 := by omega
          obtain ⟨c, hc⟩ : ∃ c, c = 4 * k + j := ⟨_, rfl⟩
          rw [← hc] at b3
          have hc32 : c < 32 := by omega
          have hci : (c : Int) < 32 := by omega
          have c1 : wr.cell? ⟨w.heap.size + 2, c, none⟩ = some (.int .u8 (dg s c c : Nat)) := (b3.cell _).trans (get_tag hc32)
          have c3 := b3.frozen c
          have B2 := hid b2
          have B3 := hid b3
          have HW := hid hb
          have HC := hid hc
          have e1 : IntKind.i64.wrap (4 * (k : Int) + (j : Int)) = (c : Int) := wr_nat (by omega) (by omega)
          have e2 : 4 * (k : Int) + (j : Int) = (c : Int) := by omega
          clear b2 b3 hb hc
          go_wp2_with fail
          go_roundw
          case rel =>
            have hc := HC.out
            have hv : ((s.get k : Nat) : Int) / 2 ^ (8 * (3 - j)) % 256 = ((ShaM.digest s c : Nat) : Int) := by
              unfold ShaM.digest
              rw [show c / 4 = k by omega, show c % 4 = j by omega]
              simp
            refine ⟨j + 1, by omega, by go_num, B2.out.setCell_other (by simp) _, ?_, HW.out.setCell (by show w.heap.size ≤ w.heap.size + 1 + 1; omega) _⟩
            have h := B3.out.setCell_same c (.int .u8 (ShaM.digest s c : Nat))
            rw [tag_set, dg_step] at h
            rw [hv, show 4 * k + (j + 1) = c + 1 by omega]
            exact h
          case measure => simp [intOf]; omega
        · have tj : decide ((j : Int) < 4) = false := by simp; omega
          have h4 : 4 * k + j = 4 * (k + 1) := by omega
          rw [h4] at b3
          clear h4
          go_wp2_with fail
          go_roundw
          case rel => exact ⟨k + 1, by omega, by go_num, b2, b3, hb⟩
          case measure => simp [intOf]; omega
    · have tk : decide ((k : Int) < 8) = false := by simp; omega
      rw [show 4 * k = 32 by omega, dg_full] at b3
      go_wp2_with (first | ((with_reducible apply ldt); rfl; assumption) | ((with_reducible apply stt); rfl; rfl; assumption))
      apply ret_row Tryd.results73
      · exact b2.setRow_same _
      · exact Tryd.underlying29
      · rfl
      · exact (info_tag.trans (by rw [size_tag]))
      · rfl
      · rfl
      exact ⟨rfl, below_setRow hb (by omega) _⟩
end Go.Proofs.YtmbhibilmedjmaaDoor
set_option maxRecDepth 100000
namespace Go.Proofs.YtmbhibilmedjmaaDoor
open Go.ChangeShapes Go.WideShapes Go.ChangeAt Go.RowKit
attribute [local go_sem] Gives
/-- n bytes. -/
def bts (n : Nat) (f : Nat → Nat) : Array Value := row n fun j => .int .u8 (f j : Nat)
theorem size_bts {n : Nat} {f : Nat → Nat} : (bts n f).size = n := size_row
theorem get_bts {n : Nat} {f : Nat → Nat} {k : Nat} (h : k < n) : (bts n f)[k]? = some (.int .u8 (f k : Nat)) := get_row_lt h
theorem bts_ext {n : Nat} {f g : Nat → Nat} (h : ∀ k, k < n → f k = g k) : bts n f = bts n g := row_ext fun k hk => by rw [h k hk]
theorem bts_set {n : Nat} {f : Nat → Nat} {k v : Nat} : (bts n f).setIfInBounds k (.int .u8 (v : Nat)) = bts n fun j => if j = k then v else f j := by
  unfold bts
  rw [row_set]
  exact row_ext fun j _ => by by_cases e : j = k <;> simp [e]
theorem bts_one {n : Nat} {f : Nat → Nat} : (bts n f).all (·.oneCell') = true := row_one fun _ _ => rfl
theorem zero128 (w : World) : (zeroValue 106).run Tryd.prog w = .ok (.agg (bts 128 fun _ => 0)) w :=
  (zero_of_info (P := Tryd.prog) (t := 106) (v := .agg (bts 128 fun _ => 0)) (n := 128) (by kernel_rfl)).1 w
theorem Blk.byt {w : World} {B g n : Nat} {t : TypeId} {f : Nat → Nat} (h : Blk w g t (bts n f)) (hg : g < B) {l : List Nat} (hl : l.length ≤ n) (he : ∀ j, j < l.length → l.getD j 0 = f j) : Byt w B (some ⟨g, 0, none⟩) l := fun _ =>
  ⟨g, 0, rfl, hg, fun i hi => by rw [Nat.zero_add, h.cell, get_bts (by omega), he i hi]⟩
section
variable {ops : Array Oper} {Q : Exit → Act → World → Prop} {a : Act} {w : World} {rest : List Oper} {dst : Option Tmp} {ty : TypeId} {pos : String} {after : Array Edge} {d s : Operand}
/-- copy of up to n bytes to the front of a block. -/
theorem wcopy {A : Option Addr} {n m cap g B cap' : Nat} {t : TypeId} {l : List Nat} {f : Nat → Nat} (hd : a.eval d = .slice (some ⟨g, 0, none⟩) m cap') (hs : a.eval s = .slice A n cap) (hg : Blk w g t (bts m f)) (hA : Byt w B A l) (hl : l.length = n) (hnm : n ≤ m)
    (h : wpList Tryd.prog ops Q rest (a.put dst (goInt n)) (w.setRow g (bts m fun j => if j < n then ShaM.at' l j else f j))) :
    wpList Tryd.prog ops Q (⟨dst, .call { callee := .builtin .copy, args := #[d, s], argTypes := #[26, 26] }, ty, pos, after, none⟩ :: rest) a w := by
  by_cases h0 : n = 0
  · subst h0
    refine wpList_copy_nothing rfl d s 26 26 rfl 5 Tryd.underlying26 (by kernel_rfl) _ _ _ _ _ _ hd hs (Nat.zero_min _) ?_
    rw [bts_ext (g := f) fun k _ => if_neg (Nat.not_lt_zero _), hg.setRow_id] at h
    exact h
  · obtain ⟨b, o, rfl, hB, hr⟩ := hA (by omega)
    have hlen : (bts n fun j => ShaM.at' l j).toList.length = n := by rw [Array.length_toList, size_bts]
    refine wpList_copy_own rfl d s 26 26 rfl 5 Tryd.underlying26 (by kernel_rfl) g 0 m cap' ⟨b, o, none⟩ n cap hd hs (bts m f) t hg (bts n fun j => ShaM.at' l j).toList (by rw [hlen]; exact (Nat.min_eq_left hnm).symm) ?_ (by rw [hlen, size_bts]; omega) ?_ ?_
    · intro j v hj
      have hjn : j < n := by have := (List.getElem?_eq_some_iff.1 hj).1; rwa [hlen] at this
      rw [Array.getElem?_toList, get_bts hjn] at hj
      rw [← hj, Addr.add_mid]
      exact hr j (by omega)
    · intro v hv
      exact (Array.all_eq_true_iff_forall_mem.1 bts_one) v (by simpa using hv)
    · rw [hlen]
      have e : (List.take 0 (bts m f).toList ++ ((bts n fun j => ShaM.at' l j).toList ++ (bts m f).toList.drop (0 + n))).toArray = bts m fun j => if j < n then ShaM.at' l j else f j := by
        apply Array.ext_getElem?
        intro k
        rw [List.getElem?_toArray, List.take_zero, List.nil_append, List.getElem?_append, hlen, Nat.zero_add]
        by_cases hk : k < n
        · rw [if_pos hk, Array.getElem?_toList, get_bts hk, get_bts (by omega), if_pos hk]
        · rw [if_neg hk, List.getElem?_drop, Array.getElem?_toList, show n + (k - n) = k by omega]
          unfold bts
          simp only [get_row, if_neg hk]
      rw [e]
      exact h
end
theorem info_b128 : (Tryd.prog.info? 106).map (·.size) = some 128 := by kernel_rfl
set_option maxHeartbeats 400000 in
set_option maxRecDepth 100000 in
theorem finish_short (s : ShaM.S8) (hs : s.ok) (A : Option Addr) (l : List Nat) (n cap size : Nat) (hl : l.length = n) (hn : n < 64) (hcond : n + 9 ≤ 64) (hsz : size % 64 = n) (hm : size ≤ 1000000000000000) (hb : B256 l) (w : World) (hA : Byt w w.heap.size A l) (hS : Salts w) :
    Calls Tryd.prog 74 #[.agg (num8 s.get), .slice A n cap, .int .i64 size] w fun e w' => e = .returned (.agg (num8 (ShaM.passes s (l ++ ShaM.tail size)).get)) ∧ Below w.heap.size w w' := by
  have HS := hid hs
  have HB := hid hb
  have HA := hid hA
  have SA := hid hS
  have HL := hid hl
  have HZ := hid hsz
  clear hs hb hA hS hl hsz
  have tn : (n : Int) < 64 := by omega
  have hZ := zero128
  go_enter Tryd.func74, Tryd.ntmps74
  go_upto_region 2 with fail
  clear hZ
  generalize hw3 : World.alloc (World.alloc (World.alloc w _) _) _ = w3
  have b1 : Blk w3 w.heap.size 67 (num8 s.get) := by rw [← hw3]; exact ((Blk.top rfl rfl).alloc _).alloc _
  have b2 : Blk w3 (w.heap.size + 1) 67 (num8 fun _ => 0) := by rw [← hw3]; exact (Blk.top zlit8 (by simp)).alloc _
  have b3 : Blk w3 (w.heap.size + 2) 106 (bts 128 fun _ => 0) := by rw [← hw3]; exact Blk.top rfl (by simp)
  have hb : Below w.heap.size w w3 := by rw [← hw3]; exact (((Below.refl _ _).alloc (Nat.le_refl _) _).alloc (by simp) _).alloc (by simp; omega) _
  clear hw3
  have ha := (HA.out.below hb (Nat.le_refl _))
  go_upto_region 3 with ((with_reducible apply wcopy); rfl; rfl; exact b3; exact ha; exact HL.out; omega)
  generalize hw4 : World.setRow _ _ _ = w4
  have c3 : Blk w4 (w.heap.size + 2) 106 (bts 128 fun j => if j < n then ShaM.at' l j else 0) := by rw [← hw4]; exact b3.setRow_same _
  have c1 : Blk w4 w.heap.size 67 (num8 s.get) := by rw [← hw4]; exact b1.setRow_other (by omega) _
  have c2 : Blk w4 (w.heap.size + 1) 67 (num8 fun _ => 0) := by rw [← hw4]; exact b2.setRow_other (by omega) _
  have cb : Below w.heap.size w w4 := by rw [← hw4]; exact below_setRow hb (by omega) _
  clear hw4 b1 b2 b3 hb ha w3
  have q1 := (c3.cell n).trans (get_bts (by omega))
  have q3 := c3.frozen n
  have C1 := hid c1
  have C2 := hid c2
  have C3 := hid c3
  have CB := hid cb
  clear c1 c2 c3 cb
  go_upto_region 4 with fail
  clear q1 q3
  generalize hw5 : World.setCell _ _ _ = w5
  have c3 : Blk w5 (w.heap.size + 2) 106 (bts 128 (ShaM.fin l size 64 0)) := by
    rw [← hw5]
    have h := C3.out.setCell_same n (.int .u8 (128 : Nat))
    rw [bts_set] at h
    rw [← ShaM.fin_zero, HL.out]
    exact h
  have c1 : Blk w5 w.heap.size 67 (num8 s.get) := by rw [← hw5]; exact C1.out.setCell_other (by show w.heap.size + 1 + 1 ≠ w.heap.size; omega) _
  have c2 : Blk w5 (w.heap.size + 1) 67 (num8 fun _ => 0) := by rw [← hw5]; exact C2.out.setCell_other (by simp) _
  have cb : Below w.heap.size w w5 := by rw [← hw5]; exact CB.out.setCell (by show w.heap.size ≤ w.heap.size + 1 + 1; omega) _
  clear hw5 C1 C2 C3 CB w4
  go_wp2_with fail
  go_loopw [24] (fun v wr => ∃ i : Nat, i ≤ 8 ∧ v = .int .i64 i ∧ Blk wr (w.heap.size + 2) 106 (bts 128 (ShaM.fin l size 64 i)) ∧ Blk wr w.heap.size 67 (num8 s.get) ∧
    Blk wr (w.heap.size + 1) 67 (num8 fun _ => 0) ∧ Below w.heap.size w wr) (fun v _ => 8 - (intOf v).toNat)
  case atStart => exact ⟨0, by omega, rfl, c3, c1, c2, cb⟩
  case round =>
    clear c1 c2 c3 cb
    obtain ⟨i, hi, rfl, c3, c1, c2, cb⟩ := hrel
    by_cases hlt : i < 8
    · have ti : (i : Int) < 8 := by omega
      obtain ⟨c, hc⟩ : ∃ c, c = 64 - 1 - i := ⟨_, rfl⟩
      have e1 : IntKind.i64.wrap (63 - (i : Int)) = (c : Int) := wr_nat (by omega) (by omega)
      have e2 : 63 - (i : Int) = (c : Int) := by omega
      have hci : (c : Int) < 128 := by omega
      have HC := hid hc
      have hc128 : c < 128 := by omega
      clear hc
      have q1 := (c3.cell c).trans (get_bts hc128)
      have q3 := c3.frozen c
      have C1 := hid c1
      have C2 := hid c2
      have C3 := hid c3
      have CB := hid cb
      clear c1 c2 c3 cb
      go_wp2_with fail
      go_roundw
      case rel =>
        refine ⟨i + 1, by omega, by go_num, ?_, C1.out.setCell_other (by show w.heap.size + 1 + 1 ≠ w.heap.size; omega) _, C2.out.setCell_other (by show w.heap.size + 1 + 1 ≠ w.heap.size + 1; omega) _, CB.out.setCell (by show w.heap.size ≤ w.heap.size + 1 + 1; omega) _⟩
        have h := C3.out.setCell_same c (.int .u8 (8 * size / 2 ^ (8 * i) % 256 : Nat))
        rw [bts_set, ShaM.fin_step l (by have := HL.out; omega) hlt (by have := HC.out; omega)] at h
        rw [show (8 * (size : Int) / 2 ^ (8 * i) % 256) = ((8 * size / 2 ^ (8 * i) % 256 : Nat) : Int) by simp]
        exact h
      case measure => simp [intOf]; omega
    · have ti : decide ((i : Int) < 8) = false := by simp; omega
      rw [show i = 8 by omega] at c3
      have h64 : 64 = if l.length + 9 ≤ 64 then 64 else 128 := by have := HL.out; split <;> omega
      have hlen : (l ++ ShaM.tail size).length = 64 := ShaM.ended_length (by rw [HL.out]; exact HZ.out) h64
      have hby : Byt wr (w.heap.size + 3) (some ⟨w.heap.size + 2, 0, none⟩) (l ++ ShaM.tail size) := c3.byt (by omega) (by omega) fun j hj => ShaM.ended_get (by rw [HL.out]; exact HZ.out) h64 (by omega)
      have C1 := hid c1
      have C2 := hid c2
      have C3 := hid c3
      have CB := hid cb
      have HLEN := hid hlen
      have BY := hid hby
      clear c1 c2 c3 cb h64 hlen hby
      go_wp2_with fail
      refine wp_region_tail (C := fun w' => Below wr.heap.size wr w') 4 (by kernel_rfl) (by kernel_rfl) (by kernel_rfl) (Below.refl _ _).drew ?_
      simp only [List.take_succ_cons, List.take_zero, List.drop_succ_cons, List.drop_zero]
      apply kln
      · rfl
      · rfl
      · exact fun w' hw' => C1.out.below hw' C1.out.lt
      simp only [Act.put, List.setIfInBounds_toArray, List.set_cons_succ, List.set_cons_zero]
      apply wpK_val
      · rfl
      · intro w' hw'
        go_simp
        first | exact rfl | exact ⟨rfl, hw'⟩
      simp only [Act.put, List.setIfInBounds_toArray, List.set_cons_succ, List.set_cons_zero]
      apply wpK_val
      · rfl
      · intro w' hw'
        go_simp
        first | exact rfl | exact ⟨rfl, hw'⟩
      simp only [Act.put, List.setIfInBounds_toArray, List.set_cons_succ, List.set_cons_zero]
      apply wpK_val
      · rfl
      · intro w' hw'
        go_simp
        exact (passes_any s HS.out _ (l ++ ShaM.tail size) 64 128 HLEN.out (by omega) (by unfold maxLen; omega) (HB.out.append (ShaM.tail_256 size)) _ (((BY.out.below hw' (by have := C3.out.lt; omega)).more (Nat.le_trans (by have := C3.out.lt; omega) hw'.size))) (SA.out.on (CB.out.trans (hw'.mono CB.out.size)))).mono fun e w'' ⟨he, hb''⟩ => ⟨he, hw'.trans (hb''.mono hw'.size)⟩
      simp only [Act.put, List.setIfInBounds_toArray, List.set_cons_succ, List.set_cons_zero]
      refine wpK_nil fun w4 hw4 => ?_
      have c2 := C2.out.below hw4 C2.out.lt
      have cb := CB.out.trans (hw4.mono CB.out.size)
      go_wp2_with ((with_reducible apply stn); rfl; rfl; exact c2)
      apply ret_row Tryd.results74
      · exact c2.setRow_same _
      · exact Tryd.underlying67
      · rfl
      · exact (info_num8.trans (by rw [size_num8]))
      · rfl
      · rfl
      exact ⟨rfl, below_setRow cb (by omega) _⟩
set_option maxHeartbeats 400000 in
set_option maxRecDepth 100000 in
theorem finish_long (s : ShaM.S8) (hs : s.ok) (A : Option Addr) (l : List Nat) (n cap size : Nat) (hl : l.length = n) (hn : n < 64) (hcond : 64 < n + 9) (hsz : size % 64 = n) (hm : size ≤ 1000000000000000) (hb : B256 l) (w : World) (hA : Byt w w.heap.size A l) (hS : Salts w) :
    Calls Tryd.prog 74 #[.agg (num8 s.get), .slice A n cap, .int .i64 size] w fun e w' => e = .returned (.agg (num8 (ShaM.passes s (l ++ ShaM.tail size)).get)) ∧ Below w.heap.size w w' := by
  have HS := hid hs
  have HB := hid hb
  have HA := hid hA
  have SA := hid hS
  have HL := hid hl
  have HZ := hid hsz
  clear hs hb hA hS hl hsz
  have tn : (n : Int) < 64 := by omega
  have hZ := zero128
  go_enter Tryd.func74, Tryd.ntmps74
  go_upto_region 2 with fail
  clear hZ
  generalize hw3 : World.alloc (World.alloc (World.alloc w _) _) _ = w3
  have b1 : Blk w3 w.heap.size 67 (num8 s.get) := by rw [← hw3]; exact ((Blk.top rfl rfl).alloc _).alloc _
  have b2 : Blk w3 (w.heap.size + 1) 67 (num8 fun _ => 0) := by rw [← hw3]; exact (Blk.top zlit8 (by simp)).alloc _
  have b3 : Blk w3 (w.heap.size + 2) 106 (bts 128 fun _ => 0) := by rw [← hw3]; exact Blk.top rfl (by simp)
  have hb : Below w.heap.size w w3 := by rw [← hw3]; exact (((Below.refl _ _).alloc (Nat.le_refl _) _).alloc (by simp) _).alloc (by simp; omega) _
  clear hw3
  have ha := (HA.out.below hb (Nat.le_refl _))
  go_upto_region 3 with ((with_reducible apply wcopy); rfl; rfl; exact b3; exact ha; exact HL.out; omega)
  generalize hw4 : World.setRow _ _ _ = w4
  have c3 : Blk w4 (w.heap.size + 2) 106 (bts 128 fun j => if j < n then ShaM.at' l j else 0) := by rw [← hw4]; exact b3.setRow_same _
  have c1 : Blk w4 w.heap.size 67 (num8 s.get) := by rw [← hw4]; exact b1.setRow_other (by omega) _
  have c2 : Blk w4 (w.heap.size + 1) 67 (num8 fun _ => 0) := by rw [← hw4]; exact b2.setRow_other (by omega) _
  have cb : Below w.heap.size w w4 := by rw [← hw4]; exact below_setRow hb (by omega) _
  clear hw4 b1 b2 b3 hb ha w3
  have q1 := (c3.cell n).trans (get_bts (by omega))
  have q3 := c3.frozen n
  have C1 := hid c1
  have C2 := hid c2
  have C3 := hid c3
  have CB := hid cb
  clear c1 c2 c3 cb
  go_upto_region 4 with fail
  clear q1 q3
  generalize hw5 : World.setCell _ _ _ = w5
  have c3 : Blk w5 (w.heap.size + 2) 106 (bts 128 (ShaM.fin l size 128 0)) := by
    rw [← hw5]
    have h := C3.out.setCell_same n (.int .u8 (128 : Nat))
    rw [bts_set] at h
    rw [← ShaM.fin_zero, HL.out]
    exact h
  have c1 : Blk w5 w.heap.size 67 (num8 s.get) := by rw [← hw5]; exact C1.out.setCell_other (by show w.heap.size + 1 + 1 ≠ w.heap.size; omega) _
  have c2 : Blk w5 (w.heap.size + 1) 67 (num8 fun _ => 0) := by rw [← hw5]; exact C2.out.setCell_other (by simp) _
  have cb : Below w.heap.size w w5 := by rw [← hw5]; exact CB.out.setCell (by show w.heap.size ≤ w.heap.size + 1 + 1; omega) _
  clear hw5 C1 C2 C3 CB w4
  go_wp2_with fail
  go_loopw [24] (fun v wr => ∃ i : Nat, i ≤ 8 ∧ v = .int .i64 i ∧ Blk wr (w.heap.size + 2) 106 (bts 128 (ShaM.fin l size 128 i)) ∧ Blk wr w.heap.size 67 (num8 s.get) ∧
    Blk wr (w.heap.size + 1) 67 (num8 fun _ => 0) ∧ Below w.heap.size w wr) (fun v _ => 8 - (intOf v).toNat)
  case atStart => exact ⟨0, by omega, rfl, c3, c1, c2, cb⟩
  case round =>
    clear c1 c2 c3 cb
    obtain ⟨i, hi, rfl, c3, c1, c2, cb⟩ := hrel
    by_cases hlt : i < 8
    · have ti : (i : Int) < 8 := by omega
      obtain ⟨c, hc⟩ : ∃ c, c = 128 - 1 - i := ⟨_, rfl⟩
      have e1 : IntKind.i64.wrap (127 - (i : Int)) = (c : Int) := wr_nat (by omega) (by omega)
      have e2 : 127 - (i : Int) = (c : Int) := by omega
      have hci : (c : Int) < 128 := by omega
      have HC := hid hc
      have hc128 : c < 128 := by omega
      clear hc
      have q1 := (c3.cell c).trans (get_bts hc128)
      have q3 := c3.frozen c
      have C1 := hid c1
      have C2 := hid c2
      have C3 := hid c3
      have CB := hid cb
      clear c1 c2 c3 cb
      go_wp2_with fail
      go_roundw
      case rel =>
        refine ⟨i + 1, by omega, by go_num, ?_, C1.out.setCell_other (by show w.heap.size + 1 + 1 ≠ w.heap.size; omega) _, C2.out.setCell_other (by show w.heap.size + 1 + 1 ≠ w.heap.size + 1; omega) _, CB.out.setCell (by show w.heap.size ≤ w.heap.size + 1 + 1; omega) _⟩
        have h := C3.out.setCell_same c (.int .u8 (8 * size / 2 ^ (8 * i) % 256 : Nat))
        rw [bts_set, ShaM.fin_step l (by have := HL.out; omega) hlt (by have := HC.out; omega)] at h
        rw [show (8 * (size : Int) / 2 ^ (8 * i) % 256) = ((8 * size / 2 ^ (8 * i) % 256 : Nat) : Int) by simp]
        exact h
      case measure => simp [intOf]; omega
    · have ti : decide ((i : Int) < 8) = false := by simp; omega
      rw [show i = 8 by omega] at c3
      have h128 : 128 = if l.length + 9 ≤ 64 then 64 else 128 := by have := HL.out; split <;> omega
      have hlen : (l ++ ShaM.tail size).length = 128 := ShaM.ended_length (by rw [HL.out]; exact HZ.out) h128
      have hby : Byt wr (w.heap.size + 3) (some ⟨w.heap.size + 2, 0, none⟩) (l ++ ShaM.tail size) := c3.byt (by omega) (by omega) fun j hj => ShaM.ended_get (by rw [HL.out]; exact HZ.out) h128 (by omega)
      have C1 := hid c1
      have C2 := hid c2
      have C3 := hid c3
      have CB := hid cb
      have HLEN := hid hlen
      have BY := hid hby
      clear c1 c2 c3 cb h128 hlen hby
      go_wp2_with fail
      refine wp_region_tail (C := fun w' => Below wr.heap.size wr w') 4 (by kernel_rfl) (by kernel_rfl) (by kernel_rfl) (Below.refl _ _).drew ?_
      simp only [List.take_succ_cons, List.take_zero, List.drop_succ_cons, List.drop_zero]
      apply kln
      · rfl
      · rfl
      · exact fun w' hw' => C1.out.below hw' C1.out.lt
      simp only [Act.put, List.setIfInBounds_toArray, List.set_cons_succ, List.set_cons_zero]
      apply wpK_val
      · rfl
      · intro w' hw'
        go_simp
        first | exact rfl | exact ⟨rfl, hw'⟩
      simp only [Act.put, List.setIfInBounds_toArray, List.set_cons_succ, List.set_cons_zero]
      apply wpK_val
      · rfl
      · intro w' hw'
        go_simp
        first | exact rfl | exact ⟨rfl, hw'⟩
      simp only [Act.put, List.setIfInBounds_toArray, List.set_cons_succ, List.set_cons_zero]
      apply wpK_val
      · rfl
      · intro w' hw'
        go_simp
        exact (passes_any s HS.out _ (l ++ ShaM.tail size) 128 128 HLEN.out (by omega) (by unfold maxLen; omega) (HB.out.append (ShaM.tail_256 size)) _ (((BY.out.below hw' (by have := C3.out.lt; omega)).more (Nat.le_trans (by have := C3.out.lt; omega) hw'.size))) (SA.out.on (CB.out.trans (hw'.mono CB.out.size)))).mono fun e w'' ⟨he, hb''⟩ => ⟨he, hw'.trans (hb''.mono hw'.size)⟩
      simp only [Act.put, List.setIfInBounds_toArray, List.set_cons_succ, List.set_cons_zero]
      refine wpK_nil fun w4 hw4 => ?_
      have c2 := C2.out.below hw4 C2.out.lt
      have cb := CB.out.trans (hw4.mono CB.out.size)
      go_wp2_with ((with_reducible apply stn); rfl; rfl; exact c2)
      apply ret_row Tryd.results74
      · exact c2.setRow_same _
      · exact Tryd.underlying67
      · rfl
      · exact (info_num8.trans (by rw [size_num8]))
      · rfl
      · rfl
      exact ⟨rfl, below_setRow cb (by omega) _⟩
theorem finish_any (s : ShaM.S8) (hs : s.ok) (A : Option Addr) (l : List Nat) (n cap size : Nat) (hl : l.length = n) (hn : n < 64) (hsz : size % 64 = n) (hm : size ≤ 1000000000000000) (hb : B256 l) (w : World) (hA : Byt w w.heap.size A l) (hS : Salts w) :
    Calls Tryd.prog 74 #[.agg (num8 s.get), .slice A n cap, .int .i64 size] w fun e w' => e = .returned (.agg (num8 (ShaM.passes s (l ++ ShaM.tail size)).get)) ∧ Below w.heap.size w w' := by
  rcases Nat.lt_or_ge 64 (n + 9) with h | h
  · exact finish_long s hs A l n cap size hl hn h hsz hm hb w hA hS
  · exact finish_short s hs A l n cap size hl hn h hsz hm hb w hA hS
end Go.Proofs.YtmbhibilmedjmaaDoor
set_option maxRecDepth 100000
namespace Go.Proofs.YtmbhibilmedjmaaDoor
open Go.ChangeShapes Go.WideShapes Go.ChangeAt Go.RowKit
attribute [local go_sem] Gives
/-- A prefix: eight numbers, how many bytes, is it one. -/
def pre (f : Nat → Nat) (m : Nat) (b : Bool) : Array Value := row 10 fun j => if j < 8 then .int .u32 (f j : Nat) else if j = 8 then .int .i64 m else .bool b
theorem size_pre {f : Nat → Nat} {m : Nat} {b : Bool} : (pre f m b).size = 10 := size_row
theorem pre_one {f : Nat → Nat} {m : Nat} {b : Bool} : (pre f m b).all (·.oneCell') = true := row_one fun k _ => by
  by_cases h : k < 8
  · simp only [h, if_true]; rfl
  · simp only [h, if_false]
    by_cases h2 : k = 8
    · simp only [h2, if_true]; rfl
    · simp only [h2, if_false]; rfl
theorem info_pre : (Tryd.prog.info? 69).map (·.size) = some 10 := by kernel_rfl
theorem built_pre (f : Nat → Nat) : Tryd.prog.built 69 [(0, .agg (num8 f)), (2, .bool true)] = some (pre f 0 true) := by kernel_rfl
theorem built_pre3 (f : Nat → Nat) (m : Nat) : Tryd.prog.built 69 [(0, .agg (num8 f)), (1, .int .i64 m), (2, .bool true)] = some (pre f m true) := by kernel_rfl
theorem built_pre0 : Tryd.prog.built 69 [] = some (pre (fun _ => 0) 0 false) := by kernel_rfl
theorem zlit_pre : (#[.int .u32 0, .int .u32 0, .int .u32 0, .int .u32 0, .int .u32 0, .int .u32 0, .int .u32 0, .int .u32 0, .int .i64 0, .bool false] : Array Value) = pre (fun _ => 0) 0 false := by rfl
section
variable {ops : Array Oper} {Q : Exit → Act → World → Prop} {a : Act} {w : World} {rest : List Oper} {dst : Option Tmp} {ty : TypeId} {pos : String} {after : Array Edge} {x y : Operand} {g m m0 : Nat} {f f0 : Nat → Nat} {b b0 : Bool}
theorem ldp (hx : a.eval x = .pointer (some ⟨g, 0, none⟩)) (hb : Blk w g 69 (pre f m b)) (h : wpList Tryd.prog ops Q rest (a.put dst (.agg (pre f m b))) w) :
    wpList Tryd.prog ops Q (⟨dst, .load 69 x, ty, pos, after, none⟩ :: rest) a w :=
  step_load_row hb Tryd.underlying69 rfl (info_pre.trans (by rw [size_pre])) hx h
theorem stp (hx : a.eval x = .pointer (some ⟨g, 0, none⟩)) (hy : a.eval y = .agg (pre f m b)) (hb : Blk w g 69 (pre f0 m0 b0)) (h : wpList Tryd.prog ops Q rest (a.put dst undef) (w.setRow g (pre f m b))) :
    wpList Tryd.prog ops Q (⟨dst, .store 69 x y, ty, pos, after, none⟩ :: rest) a w :=
  step_store_row hb (info_pre.trans (by rw [size_pre])) (by rw [size_pre, size_pre]) pre_one hx hy h
theorem bldp (hy : a.eval x = .agg (num8 f)) (h : wpList Tryd.prog ops Q rest (a.put dst (.agg (pre f 0 true))) w) :
    wpList Tryd.prog ops Q (⟨dst, .build 69 #[(0, x), (2, .const (.bool true))], ty, pos, after, none⟩ :: rest) a w := by
  refine wpList_plain rfl fun K hK => ?_
  have hr := run_build (P := Tryd.prog) w 69 #[(0, a.eval x), (2, .bool true)] _ (by rw [hy]; exact built_pre f)
  have he : a.eval (.const (.bool true)) = .bool true := rfl
  unfold Oper.wp
  simp [execOp, he, hr, Result.andThen]
  exact hK _ _ h
theorem klnm {C : World → Prop} {Qk : Act → Prop} {gd : Option (Nat × Bool)} {o : Nat} (hwt : Region.wanted ⟨dst, .load 67 x, ty, pos, after, gd⟩ (yielded ops a.tmps) = true) (hx : a.eval x = .pointer (some ⟨g, o, none⟩)) (hb : ∀ w, C w → w.rangeAt g o (num8 f).toList) (h : wpK Tryd.prog ops C Qk rest (a.put dst (.agg (num8 f)))) :
    wpK Tryd.prog ops C Qk (⟨dst, .load 67 x, ty, pos, after, gd⟩ :: rest) a :=
  wpK_val hwt (fun w hw => gives_value (w' := w) (by
    have := run_loadAt_mid (P := Tryd.prog) w g o 67 (num8 f).toList _ (hb w hw) Tryd.underlying67 rfl (info_num8.trans (by rw [Array.length_toList, size_num8]))
    rw [Array.toArray_toList] at this
    simp only [execOp, hx, Sem.run_bind, this, Result.andThen_ok, Sem.run_pure]) hw) h
set_option maxRecDepth 100000 in
theorem bldp3 {C : World → Prop} {Qk : Act → Prop} {gd : Option (Nat × Bool)} {c : Operand} (hwt : Region.wanted ⟨dst, .build 69 #[(0, x), (1, y), (2, c)], ty, pos, after, gd⟩ (yielded ops a.tmps) = true) (hx : a.eval x = .agg (num8 f)) (hy : a.eval y = .int .i64 m) (hc : a.eval c = .bool true)
    (h : wpK Tryd.prog ops C Qk rest (a.put dst (.agg (pre f m true)))) : wpK Tryd.prog ops C Qk (⟨dst, .build 69 #[(0, x), (1, y), (2, c)], ty, pos, after, gd⟩ :: rest) a :=
  wpK_val hwt (fun w hw => by
    have hr := run_build (P := Tryd.prog) w 69 #[(0, a.eval x), (1, a.eval y), (2, a.eval c)] _ (by rw [hx, hy, hc]; exact built_pre3 f m)
    refine gives_value (w' := w) ?_ hw
    simp [execOp, hr, Result.andThen]) h
theorem bldp0 (h : wpList Tryd.prog ops Q rest (a.put dst (.agg (pre (fun _ => 0) 0 false))) w) :
    wpList Tryd.prog ops Q (⟨dst, .build 69 #[], ty, pos, after, none⟩ :: rest) a w := by
  refine wpList_plain rfl fun K hK => ?_
  have hr := run_build (P := Tryd.prog) w 69 #[] _ built_pre0
  unfold Oper.wp
  simp [execOp, hr, Result.andThen]
  exact hK _ _ h
end
set_option maxHeartbeats 400000 in
set_option maxRecDepth 100000 in
theorem start_any (w : World) :
    Calls Tryd.prog 78 #[] w fun e w' => e = .returned (.agg (pre ShaM.seeds.get 0 true)) ∧ Below w.heap.size w w' := by
  go_enter Tryd.func78, Tryd.ntmps78
  go_upto_region 1 with fail
  generalize hw3 : World.alloc w _ = w3
  have b1 : Blk w3 w.heap.size 69 (pre (fun _ => 0) 0 false) := by rw [← hw3]; exact Blk.top zlit_pre rfl
  have hb : Below w.heap.size w w3 := by rw [← hw3]; exact (Below.refl _ _).alloc (Nat.le_refl _) _
  have hz := b1.lt
  clear hw3
  go_upto_region 2 with fail
  generalize hw4 : World.alloc w3 _ = w4
  have c2 : Blk w4 w3.heap.size 67 (num8 ShaM.seeds.get) := by rw [← hw4]; exact Blk.top (by rfl) rfl
  have c1 : Blk w4 w.heap.size 69 (pre (fun _ => 0) 0 false) := by rw [← hw4]; exact b1.alloc _
  have cb : Below w.heap.size w w4 := by rw [← hw4]; exact hb.alloc (by omega) _
  clear hw4 b1 hb
  go_wp2_with (first | ((with_reducible apply ldn); rfl; exact c2) | ((with_reducible apply bldp); rfl) | ((with_reducible apply stp); rfl; rfl; exact c1))
  apply ret_row Tryd.results78
  · exact c1.setRow_same _
  · exact Tryd.underlying69
  · rfl
  · exact (info_pre.trans (by rw [size_pre]))
  · rfl
  · rfl
  exact ⟨rfl, below_setRow cb (Nat.le_refl _) _⟩
section
variable {a : Act} {w : World} {g m : Nat} {f : Nat → Nat} {b : Bool}
theorem run_pre_var {t : TypeId} (hb : Blk w g t (pre f m b)) : (loadVar 69 ⟨g, 0, none⟩).run Tryd.prog w = .ok (.agg (pre f m b)) w :=
  run_loadVar_row w g t 69 (pre f m b) (0, 0) _ hb Tryd.underlying69 rfl (info_pre.trans (by rw [size_pre]))
theorem ret_pre2 {fn : Func} {R : Ending → World → Prop} {p t : Tmp} {v : Value} (hr : fn.results = #[.cell p 69, .tmp t]) (hp : a.tmps.getD p undef = .pointer (some ⟨g, 0, none⟩)) (ht : a.tmps.getD t undef = v)
    (hdf : a.defers = []) (hb : Blk w g 69 (pre f m b)) (hR : R (.returned (.tuple #[.agg (pre f m b), v])) w) : bodyPost Tryd.prog fn R .ret a w := by
  refine bodyPost_ret ?_ hdf hR
  have hp' : a.tmps[p]?.getD undef = .pointer (some ⟨g, 0, none⟩) := by simpa using hp
  have ht' : a.tmps[t]?.getD undef = v := by simpa using ht
  simp [results, hr, hp', ht', asAddr, run_pre_var hb]
theorem Blk.pre8 {t : TypeId} (hb : Blk w g t (pre f m b)) : w.cell? ⟨g, 8, none⟩ = some (.int .i64 m) := by
  rw [hb.cell]; unfold pre; rw [get_row_lt (by omega), if_neg (by omega), if_pos rfl]
theorem Blk.pre9 {t : TypeId} (hb : Blk w g t (pre f m b)) : w.cell? ⟨g, 9, none⟩ = some (.bool b) := by
  rw [hb.cell]; unfold pre; rw [get_row_lt (by omega), if_neg (by omega), if_neg (by omega)]
theorem Blk.pre0 {t : TypeId} (hb : Blk w g t (pre f m b)) : w.rangeAt g 0 (num8 f).toList := fun j v hj => by
  have hj8 : j < 8 := by have := (List.getElem?_eq_some_iff.1 hj).1; rwa [Array.length_toList, size_num8] at this
  rw [Array.getElem?_toList, get_num8 hj8] at hj
  rw [Nat.zero_add, hb.cell]
  unfold pre
  rw [get_row_lt (by omega), if_pos hj8]
  exact hj
end
set_option maxHeartbeats 400000 in
set_option maxRecDepth 100000 in
theorem more_nil (f : Nat → Nat) (m n cap : Nat) (A : Option Addr) (w : World) :
    Calls Tryd.prog 79 #[.agg (pre f m false), .slice A n cap] w fun e w' => e = .returned (.tuple #[.agg (pre (fun _ => 0) 0 false), .int .i64 1]) ∧ Below w.heap.size w w' := by
  go_enter Tryd.func79, Tryd.ntmps79
  go_upto_region 1 with fail
  generalize hw3 : World.alloc (World.alloc w _) _ = w3
  have b1 : Blk w3 w.heap.size 69 (pre f m false) := by rw [← hw3]; exact (Blk.top rfl rfl).alloc _
  have b2 : Blk w3 (w.heap.size + 1) 69 (pre (fun _ => 0) 0 false) := by rw [← hw3]; exact Blk.top zlit_pre (by simp)
  have hb : Below w.heap.size w w3 := by rw [← hw3]; exact ((Below.refl _ _).alloc (Nat.le_refl _) _).alloc (by simp) _
  clear hw3
  have c9 := b1.pre9
  go_wp2_with (first | ((with_reducible apply bldp0)) | ((with_reducible apply stp); rfl; rfl; exact b2))
  apply ret_pre2 Tryd.results79
  · rfl
  · rfl
  · rfl
  · exact b2.setRow_same _
  exact ⟨rfl, below_setRow hb (by omega) _⟩
set_option maxHeartbeats 400000 in
set_option maxRecDepth 100000 in
theorem more_arg (f : Nat → Nat) (m n cap : Nat) (A : Option Addr) (hn : n % 64 ≠ 0) (hm : n ≤ 1000000000000000) (w : World) :
    Calls Tryd.prog 79 #[.agg (pre f m true), .slice A n cap] w fun e w' => e = .returned (.tuple #[.agg (pre (fun _ => 0) 0 false), .int .i64 2]) ∧ Below w.heap.size w w' := by
  go_enter Tryd.func79, Tryd.ntmps79
  go_upto_region 1 with fail
  generalize hw3 : World.alloc (World.alloc w _) _ = w3
  have b1 : Blk w3 w.heap.size 69 (pre f m true) := by rw [← hw3]; exact (Blk.top rfl rfl).alloc _
  have b2 : Blk w3 (w.heap.size + 1) 69 (pre (fun _ => 0) 0 false) := by rw [← hw3]; exact Blk.top zlit_pre (by simp)
  have hb : Below w.heap.size w w3 := by rw [← hw3]; exact ((Below.refl _ _).alloc (Nat.le_refl _) _).alloc (by simp) _
  clear hw3
  have c9 := b1.pre9
  have t0 : ((n : Int) % 64 != 0) = true := by rw [bne_iff_ne]; omega
  go_wp2_with (first | ((with_reducible apply bldp0)) | ((with_reducible apply stp); rfl; rfl; exact b2))
  apply ret_pre2 Tryd.results79
  · rfl
  · rfl
  · rfl
  · exact b2.setRow_same _
  exact ⟨rfl, below_setRow hb (by omega) _⟩
set_option maxHeartbeats 400000 in
set_option maxRecDepth 100000 in
theorem more_ok (s : ShaM.S8) (hs : s.ok) (A : Option Addr) (l : List Nat) (n cap m : Nat) (hl : l.length = n) (hn : n % 64 = 0) (hc : n ≤ cap) (hm : cap ≤ maxLen) (hz : m + n ≤ 1000000000000000) (hb : B256 l) (w : World) (hA : Byt w w.heap.size A l) (hS : Salts w) :
    Calls Tryd.prog 79 #[.agg (pre s.get m true), .slice A n cap] w fun e w' => e = .returned (.tuple #[.agg (pre (ShaM.passes s l).get (m + n) true), .int .i64 0]) ∧ Below w.heap.size w w' := by
  have HS := hid hs
  have HB := hid hb
  have HA := hid hA
  have SA := hid hS
  have HL := hid hl
  clear hs hb hA hS hl
  go_enter Tryd.func79, Tryd.ntmps79
  go_upto_region 1 with fail
  generalize hw3 : World.alloc (World.alloc w _) _ = w3
  have b1 : Blk w3 w.heap.size 69 (pre s.get m true) := by rw [← hw3]; exact (Blk.top rfl rfl).alloc _
  have b2 : Blk w3 (w.heap.size + 1) 69 (pre (fun _ => 0) 0 false) := by rw [← hw3]; exact Blk.top zlit_pre (by simp)
  have hb : Below w.heap.size w w3 := by rw [← hw3]; exact ((Below.refl _ _).alloc (Nat.le_refl _) _).alloc (by simp) _
  clear hw3
  have c9 := b1.pre9
  have t0 : ((n : Int) % 64 != 0) = false := by rw [bne_eq_false_iff_eq]; omega
  have e1 : IntKind.i64.wrap ((m : Int) + (n : Int)) = ((m + n : Nat) : Int) := wr_nat (by omega) (by omega)
  have B1 := hid b1
  have B2 := hid b2
  have BEL := hid hb
  have E1 := hid e1
  clear b1 b2 hb hn e1
  go_wp2_with fail
  refine wp_region_tail (C := fun w' => Below w3.heap.size w3 w') 10 (by kernel_rfl) (by kernel_rfl) (by kernel_rfl) (Below.refl _ _).drew ?_
  simp only [List.take_succ_cons, List.take_zero, List.drop_succ_cons, List.drop_zero]
  apply wpK_val
  · rfl
  · intro w' hw'
    go_simp
    first | exact rfl | exact ⟨rfl, hw'⟩
  simp only [Act.put, List.setIfInBounds_toArray, List.set_cons_succ, List.set_cons_zero]
  apply klnm
  · rfl
  · rfl
  · exact fun w' hw' => (B1.out.below hw' B1.out.lt).pre0
  simp only [Act.put, List.setIfInBounds_toArray, List.set_cons_succ, List.set_cons_zero]
  apply wpK_val
  · rfl
  · intro w' hw'
    go_simp
    first | exact rfl | exact ⟨rfl, hw'⟩
  simp only [Act.put, List.setIfInBounds_toArray, List.set_cons_succ, List.set_cons_zero]
  apply wpK_val
  · rfl
  · intro w' hw'
    go_simp
    exact (passes_any s HS.out A l n cap HL.out hc hm HB.out _ ((HA.out.below (BEL.out.trans (hw'.mono BEL.out.size)) (Nat.le_refl _)).more (Nat.le_trans BEL.out.size hw'.size)) (SA.out.on (BEL.out.trans (hw'.mono BEL.out.size)))).mono fun e w'' ⟨he, hb''⟩ => ⟨he, hw'.trans (hb''.mono hw'.size)⟩
  simp only [Act.put, List.setIfInBounds_toArray, List.set_cons_succ, List.set_cons_zero]
  apply wpK_val
  · rfl
  · intro w' hw'
    go_simp
    first | exact rfl | exact ⟨rfl, hw'⟩
  simp only [Act.put, List.setIfInBounds_toArray, List.set_cons_succ, List.set_cons_zero]
  apply wpK_val
  · rfl
  · intro w' hw'
    have hcell := (B1.out.below hw' B1.out.lt).pre8
    go_simp
    first | exact rfl | exact ⟨rfl, hw'⟩
  simp only [Act.put, List.setIfInBounds_toArray, List.set_cons_succ, List.set_cons_zero]
  apply wpK_val
  · rfl
  · intro w' hw'
    go_simp
    first | exact rfl | exact ⟨rfl, hw'⟩
  simp only [Act.put, List.setIfInBounds_toArray, List.set_cons_succ, List.set_cons_zero]
  apply wpK_val
  · rfl
  · intro w' hw'
    go_simp
    first | exact rfl | exact ⟨rfl, hw'⟩
  simp only [Act.put, List.setIfInBounds_toArray, List.set_cons_succ, List.set_cons_zero]
  apply wpK_val
  · rfl
  · intro w' hw'
    have h1 : _ := E1.out
    go_simp
    first | exact rfl | exact ⟨rfl, hw'⟩
  simp only [Act.put, List.setIfInBounds_toArray, List.set_cons_succ, List.set_cons_zero]
  apply bldp3
  · rfl
  · rfl
  · rfl
  · rfl
  simp only [Act.put, List.setIfInBounds_toArray, List.set_cons_succ, List.set_cons_zero]
  refine wpK_nil fun w4 hw4 => ?_
  have c2 := B2.out.below hw4 B2.out.lt
  have cb := BEL.out.trans (hw4.mono BEL.out.size)
  go_wp2_with ((with_reducible apply stp); rfl; rfl; exact c2)
  apply ret_pre2 Tryd.results79
  · rfl
  · rfl
  · rfl
  · exact c2.setRow_same _
  exact ⟨rfl, below_setRow cb (by omega) _⟩
end Go.Proofs.YtmbhibilmedjmaaDoor
set_option maxRecDepth 100000
namespace Go.Proofs.YtmbhibilmedjmaaDoor
open Go.RowKit
section
variable {P : Program} {ops : Array Oper}
theorem wp_region_new1 {id : Nat} {Q : Exit → Act → World → Prop} {C : World → Prop} {a : Act} {w : World} {l : List Oper} (n : Nat) (T : TypeId) (z : Array Value) (d1 : Tmp) {t1 : TypeId} {p1 : String} {e1 : Array Edge}
    (hl1 : l[n]? = some ⟨some d1, .alloc T, t1, p1, e1, none⟩)
    (hm : P.follows .mixedOrders = true) (ht : tidy l.toArray = true) (hB : tailB l.toArray (n + 1) = true)
    (ha : ∀ w, (Instr.alloc T true (.tuple #[])).run P w = .ok (.pointer (some ⟨w.heap.size, 0, none⟩)) (w.alloc (.cells z T)))
    (hC : C w.drew) (hCa : ∀ w, C w → C (w.alloc (.cells z T))) (hCs : ∀ w', C w' → w.heap.size ≤ w'.heap.size)
    (h : wpB P l.toArray C (fun a' => ∀ b1 w', C w' → Blk w' b1 T z → w.heap.size ≤ b1 →
      wpList P l.toArray Q (l.drop (n + 1)) (a'.put (some d1) (ptr b1)) w') (l.take n) a) : (Code.region id l.toArray true).wp P Q a w := by
  obtain ⟨vals, hq, hs⟩ := wpB_vals _ _ h
  have hln : n < l.length := (List.getElem?_eq_some_iff.1 hl1).1
  have hlen : (l.take n).length = n := by rw [List.length_take]; omega
  let V : Nat → Nat → Value := fun γ i => if i = n then ptr γ else vals i
  have hV : ∀ γ i, i < n → V γ i = vals i := fun γ i hi => by show (if _ then _ else _) = _; rw [if_neg (by omega)]
  have hfr : ∀ γ i, i ≤ n → lexF (l.take (n + 1)) (V γ) i a = lexF (l.take n) vals i a := fun γ i hi => lexF_congr fun j hj =>
    ⟨by rw [List.getElem?_take_of_lt (by omega), List.getElem?_take_of_lt (by omega)], hV γ j (by omega)⟩
  refine region_core (Γ := Nat) (C := fun γ L w' => C w' ∧ (L.getD n false = true → Blk w' γ T z ∧ w.heap.size ≤ γ)) (n + 1) hm ht hB 0
    ⟨hC, (fun h => by rw [getD_replicate_false] at h; cases h)⟩ V ?_ ?_
  · intro i o hi γ L w' hsz hr ⟨hC', g1⟩
    have hilt : i < n + 1 := by
      have := (List.getElem?_eq_some_iff.1 hi).1
      rw [List.length_take] at this; omega
    rw [List.getElem?_take_of_lt hilt] at hi
    have hun := getD_both (mem_ready.1 hr).1
    rcases Nat.lt_or_ge i n with hin | hin
    · have hset : ∀ k, k ≠ i → (L.setIfInBounds i true).getD k false = L.getD k false := fun k hk => getD_set_ne false (Ne.symm hk)
      refine ⟨γ, fun _ _ => rfl, ?_⟩
      rw [hfr γ i (by omega), hV γ i hin]
      simp only [hset n (by omega)]
      rcases hs i o (by rw [List.getElem?_take_of_lt hin]; exact hi) with ⟨h1, h2⟩ | ⟨h1, h2⟩
      · exact .inl ⟨h1, gives_mono (h2 w' hC') fun w'' ⟨h3, h4⟩ => ⟨h3, fun e => ⟨(g1 e).1.below h4 (g1 e).1.lt, (g1 e).2⟩⟩⟩
      · exact .inr ⟨h1, h2, hC', g1⟩
    · obtain rfl : i = n := by omega
      obtain rfl : _ = o := Option.some.inj (hl1.symm.trans hi)
      have hw : ∀ b : Act, (execOp b.eval ⟨some d1, .alloc T, t1, p1, e1, none⟩).run P w' = .ok (.value (.pointer (some ⟨w'.heap.size, 0, none⟩))) (w'.alloc (.cells z T)) := fun b => by
        simp only [execOp, Sem.run_bind, ha w', Result.andThen_ok, Sem.run_pure]
      refine ⟨w'.heap.size, fun j hj => ?_, .inl ⟨rfl, ?_⟩⟩
      · have hjn : j ≠ i := fun e => by subst e; rw [hun] at hj; cases hj
        simp only [V, if_neg hjn]
      · refine gives_value (w' := w'.alloc (.cells z T)) ?_ ?_
        · rw [hw]
          simp only [V, if_pos]; rfl
        · exact ⟨hCa _ hC', fun _ => ⟨Blk.new _ _ _, hCs _ hC'⟩⟩
  · intro γ L w' hall ⟨hC', g1⟩
    have h1 := hall n (by omega)
    have hl2' : (l.take (n + 1)).length = n + 1 := by rw [List.length_take]; omega
    rw [hl2']
    have hput : lexF (l.take (n + 1)) (V γ) (n + 1) a = (lexF (l.take n) vals n a).put (some d1) (ptr γ) := by
      rw [lexF, hfr γ n (Nat.le_refl n), List.getElem?_take_of_lt (by omega), hl1]
      simp only [V, if_pos, Option.bind_some]
    rw [hput]
    rw [hlen] at hq
    exact hq γ w' hC' (g1 h1).1 (g1 h1).2
end
end Go.Proofs.YtmbhibilmedjmaaDoor
set_option maxRecDepth 100000
namespace Go.Proofs.YtmbhibilmedjmaaDoor
open Go.ChangeShapes Go.WideShapes Go.ChangeAt Go.RowKit
attribute [local go_sem] Gives
section
variable {ops : Array Oper} {a : Act} {rest : List Oper} {dst : Option Tmp} {ty : TypeId} {pos : String} {after : Array Edge} {x : Operand} {g o : Nat} {f : Nat → Nat} {C : World → Prop} {Qk : Act → Prop} {gd : Option (Nat × Bool)}
theorem blnm (hwt : Region.wanted ⟨dst, .load 67 x, ty, pos, after, gd⟩ (yielded ops a.tmps) = true) (hx : a.eval x = .pointer (some ⟨g, o, none⟩)) (hb : ∀ w, C w → w.rangeAt g o (num8 f).toList) (h : wpB Tryd.prog ops C Qk rest (a.put dst (.agg (num8 f)))) :
    wpB Tryd.prog ops C Qk (⟨dst, .load 67 x, ty, pos, after, gd⟩ :: rest) a :=
  wpB_val hwt (fun w hw => gives_value (w' := w) (by
    have := run_loadAt_mid (P := Tryd.prog) w g o 67 (num8 f).toList _ (hb w hw) Tryd.underlying67 rfl (info_num8.trans (by rw [Array.length_toList, size_num8]))
    rw [Array.toArray_toList] at this
    simp only [execOp, hx, Sem.run_bind, this, Result.andThen_ok, Sem.run_pure]) ⟨hw, Below.refl _ _⟩) h
end
theorem alloc_num8 (w : World) : (Instr.alloc 67 true (.tuple #[])).run Tryd.prog w = .ok (.pointer (some ⟨w.heap.size, 0, none⟩)) (w.alloc (.cells (num8 fun _ => 0) 67)) := by
  have hz := (zero_of_info (P := Tryd.prog) (t := 67) (v := .agg (num8 fun _ => 0)) (n := 8) (by kernel_rfl)).1
  simp [Instr.alloc, Sem.run_bind, hz w, newVar, newRow, Value.cells]
theorem Byt.dropA {w : World} {B : Nat} {A : Option Addr} {l : List Nat} (h : Byt w B A l) (cap W : Nat) (hc : l.length ≤ cap) : Byt w B (if cap = W then A else Option.map (fun x => x.add W) A) (l.drop W) := fun hn => by
  have hn' := hn
  rw [List.length_drop] at hn
  obtain ⟨b, o, rfl, hl, hr⟩ := h (by omega)
  rw [if_neg (by omega)]
  have e : Option.map (fun x => Addr.add x W) (some ⟨b, o, Option.none⟩) = some ⟨b, o + W, Option.none⟩ := by rw [Option.map_some, Addr.add_mid]
  rw [e]
  exact Byt.drop (l := l) (fun _ => ⟨b, o, rfl, hl, hr⟩) W hn'
set_option maxHeartbeats 400000 in
set_option maxRecDepth 100000 in
theorem psum_ok (s : ShaM.S8) (hs : s.ok) (A : Option Addr) (l : List Nat) (n cap m : Nat) (hl : l.length = n) (hmm : m % 64 = 0) (hc : n ≤ cap) (hm : cap ≤ maxLen) (hz : m + n ≤ 1000000000000000) (hb : B256 l) (w : World) (hA : Byt w w.heap.size A l) (hS : Salts w) :
    Calls Tryd.prog 60 #[.agg (pre s.get m true), .slice A n cap] w fun e w' => e = .returned (.agg (tag (ShaM.digest (ShaM.ended s m l)))) ∧ Below w.heap.size w w' := by
  have HS := hid hs
  have HB := hid hb
  have HA := hid hA
  have SA := hid hS
  have HL := hid hl
  have HM := hid hm
  unfold maxLen at hm
  obtain ⟨W, hW⟩ : ∃ W, W = n - n % 64 := ⟨_, rfl⟩
  have e5 : (n : Int) - (n : Int) % 64 = (W : Int) := by omega
  have e5' : IntKind.i64.wrap ((n : Int) - (n : Int) % 64) = (W : Int) := wr_nat e5 (by omega)
  have e1 : IntKind.i64.wrap ((m : Int) + (n : Int)) = ((m + n : Nat) : Int) := wr_nat (by omega) (by omega)
  have hWn : W ≤ n := by omega
  have hWc : (W : Int) ≤ (cap : Int) := by omega
  have E1 := hid e1
  have HW := hid hW
  clear hs hb hA hS hl e1 hW
  go_enter Tryd.func60, Tryd.ntmps60
  go_upto_region 1 with fail
  generalize hw3 : World.alloc (World.alloc w _) _ = w3
  have b1 : Blk w3 w.heap.size 69 (pre s.get m true) := by rw [← hw3]; exact (Blk.top rfl rfl).alloc _
  have b2 : Blk w3 (w.heap.size + 1) 29 (tag fun _ => 0) := by rw [← hw3]; exact Blk.top zlit_tag (by simp)
  have hb : Below w.heap.size w w3 := by rw [← hw3]; exact ((Below.refl _ _).alloc (Nat.le_refl _) _).alloc (by simp) _
  clear hw3
  have c9 := b1.pre9
  go_upto_region 4 with fail
  have B1 := hid b1
  have B2 := hid b2
  have BEL := hid hb
  clear b1 b2 hb c9
  refine wp_region_new1 (C := fun w' => Below w3.heap.size w3 w') 6 67 (num8 fun _ => 0) 6 rfl (by kernel_rfl) (by kernel_rfl) (by kernel_rfl) alloc_num8 (Below.refl _ _).drew (fun w' hw' => hw'.alloc hw'.size _) (fun w' hw' => hw'.size) ?_
  simp only [List.take_succ_cons, List.take_zero, List.drop_succ_cons, List.drop_zero]
  apply wpB_val
  · rfl
  · intro w' hw'
    have hbl := Below.refl w'.heap.size w'
    go_simp
    first | exact rfl | exact ⟨rfl, hbl⟩ | exact ⟨rfl, hw', hbl⟩
  simp only [Act.put, List.setIfInBounds_toArray, List.set_cons_succ, List.set_cons_zero]
  apply blnm
  · rfl
  · rfl
  · exact fun w' hw' => (B1.out.below hw' B1.out.lt).pre0
  simp only [Act.put, List.setIfInBounds_toArray, List.set_cons_succ, List.set_cons_zero]
  apply wpB_val
  · rfl
  · intro w' hw'
    have hbl := Below.refl w'.heap.size w'
    go_simp
    first | exact rfl | exact ⟨rfl, hbl⟩ | exact ⟨rfl, hw', hbl⟩
  simp only [Act.put, List.setIfInBounds_toArray, List.set_cons_succ, List.set_cons_zero]
  apply wpB_val
  · rfl
  · intro w' hw'
    have hbl := Below.refl w'.heap.size w'
    go_simp
    first | exact rfl | exact ⟨rfl, hbl⟩ | exact ⟨rfl, hw', hbl⟩
  simp only [Act.put, List.setIfInBounds_toArray, List.set_cons_succ, List.set_cons_zero]
  apply wpB_val
  · rfl
  · intro w' hw'
    have hbl := Below.refl w'.heap.size w'
    go_simp
    first | exact rfl | exact ⟨rfl, hbl⟩ | exact ⟨rfl, hw', hbl⟩
  simp only [Act.put, List.setIfInBounds_toArray, List.set_cons_succ, List.set_cons_zero]
  apply wpB_val
  · rfl
  · intro w' hw'
    go_simp
    exact (passes_any s HS.out A (l.take W) W cap (by rw [List.length_take, HL.out]; omega) (by omega) HM.out (HB.out.take W) _ (((HA.out.take W).below (BEL.out.trans (hw'.mono BEL.out.size)) (Nat.le_refl _)).more (Nat.le_trans BEL.out.size hw'.size)) (SA.out.on (BEL.out.trans (hw'.mono BEL.out.size)))).mono fun e w'' ⟨he, hb''⟩ => ⟨he, hw'.trans (hb''.mono hw'.size), hb''⟩
  simp only [Act.put, List.setIfInBounds_toArray, List.set_cons_succ, List.set_cons_zero]
  refine wpB_nil fun g6 w4 hw4 q6 hg6 => ?_
  have b1 := B1.out.below hw4 B1.out.lt
  have b2 := B2.out.below hw4 B2.out.lt
  have bel := BEL.out.trans (hw4.mono BEL.out.size)
  have hz2 : w.heap.size + 1 < w3.heap.size := B2.out.lt
  clear hw4 B1 B2 BEL
  have B1 := hid b1
  have B2 := hid b2
  have BEL := hid bel
  clear b1 b2 bel
  unfold ptr
  go_upto_region 5 with ((with_reducible apply stn); rfl; rfl; exact q6)
  generalize hw5 : World.setRow _ _ _ = w5
  have c6 : Blk w5 g6 67 (num8 (ShaM.passes s (l.take W)).get) := by rw [← hw5]; exact q6.setRow_same _
  have c1 : Blk w5 w.heap.size 69 (pre s.get m true) := by rw [← hw5]; exact B1.out.setRow_other (by omega) _
  have c2 : Blk w5 (w.heap.size + 1) 29 (tag fun _ => 0) := by rw [← hw5]; exact B2.out.setRow_other (by omega) _
  have cb : Below w.heap.size w w5 := by rw [← hw5]; exact below_setRow BEL.out (by omega) _
  clear hw5 q6 B1 B2 BEL w4
  have C1 := hid c1
  have C2 := hid c2
  have C6 := hid c6
  have CB := hid cb
  clear c1 c2 c6 cb
  refine wp_region_tail (C := fun w' => Below w5.heap.size w5 w') 11 (by kernel_rfl) (by kernel_rfl) (by kernel_rfl) (Below.refl _ _).drew ?_
  simp only [List.take_succ_cons, List.take_zero, List.drop_succ_cons, List.drop_zero]
  apply kln
  · rfl
  · rfl
  · exact fun w' hw' => C6.out.below hw' C6.out.lt
  simp only [Act.put, List.setIfInBounds_toArray, List.set_cons_succ, List.set_cons_zero]
  apply wpK_val
  · rfl
  · intro w' hw'
    go_simp
    first | exact rfl | exact ⟨rfl, hw'⟩
  simp only [Act.put, List.setIfInBounds_toArray, List.set_cons_succ, List.set_cons_zero]
  apply wpK_val
  · rfl
  · intro w' hw'
    go_simp
    first | exact rfl | exact ⟨rfl, hw'⟩
  simp only [Act.put, List.setIfInBounds_toArray, List.set_cons_succ, List.set_cons_zero]
  apply wpK_val
  · rfl
  · intro w' hw'
    go_simp
    first | exact rfl | exact ⟨rfl, hw'⟩
  simp only [Act.put, List.setIfInBounds_toArray, List.set_cons_succ, List.set_cons_zero]
  apply wpK_val
  · rfl
  · intro w' hw'
    go_simp
    first | exact rfl | exact ⟨rfl, hw'⟩
  simp only [Act.put, List.setIfInBounds_toArray, List.set_cons_succ, List.set_cons_zero]
  apply wpK_val
  · rfl
  · intro w' hw'
    have hcell := (C1.out.below hw' C1.out.lt).pre8
    go_simp
    first | exact rfl | exact ⟨rfl, hw'⟩
  simp only [Act.put, List.setIfInBounds_toArray, List.set_cons_succ, List.set_cons_zero]
  apply wpK_val
  · rfl
  · intro w' hw'
    go_simp
    first | exact rfl | exact ⟨rfl, hw'⟩
  simp only [Act.put, List.setIfInBounds_toArray, List.set_cons_succ, List.set_cons_zero]
  apply wpK_val
  · rfl
  · intro w' hw'
    go_simp
    first | exact rfl | exact ⟨rfl, hw'⟩
  simp only [Act.put, List.setIfInBounds_toArray, List.set_cons_succ, List.set_cons_zero]
  apply wpK_val
  · rfl
  · intro w' hw'
    have h1 : _ := E1.out
    go_simp
    first | exact rfl | exact ⟨rfl, hw'⟩
  simp only [Act.put, List.setIfInBounds_toArray, List.set_cons_succ, List.set_cons_zero]
  apply wpK_val
  · rfl
  · intro w' hw'
    go_simp
    exact (finish_any (ShaM.passes s (l.take W)) (ShaM.passes_ok _ (Nat.le_refl _) HS.out) _ (l.drop W) (n - W) (cap - W) (m + n) (by rw [List.length_drop, HL.out]) (by have := HW.out; omega) (by have := HW.out; omega) hz (HB.out.drop W) _ ((HA.out.dropA cap W (by rw [HL.out]; exact hc)).below (CB.out.trans (hw'.mono CB.out.size)) (Nat.le_refl _) |>.more (Nat.le_trans CB.out.size hw'.size)) (SA.out.on (CB.out.trans (hw'.mono CB.out.size)))).mono fun e w'' ⟨he, hb''⟩ => ⟨he, hw'.trans (hb''.mono hw'.size)⟩
  simp only [Act.put, List.setIfInBounds_toArray, List.set_cons_succ, List.set_cons_zero]
  apply wpK_val
  · rfl
  · intro w' hw'
    go_simp
    exact (digest_any _ (ShaM.passes_ok _ (Nat.le_refl _) (ShaM.passes_ok _ (Nat.le_refl _) HS.out)) _).mono fun e w'' ⟨he, hb''⟩ => ⟨he, hw'.trans (hb''.mono hw'.size)⟩
  simp only [Act.put, List.setIfInBounds_toArray, List.set_cons_succ, List.set_cons_zero]
  refine wpK_nil fun w4 hw4 => ?_
  have c2 := C2.out.below hw4 C2.out.lt
  have cb := CB.out.trans (hw4.mono CB.out.size)
  have hmath : ShaM.passes (ShaM.passes s (l.take W)) (l.drop W ++ ShaM.tail (m + n)) = ShaM.ended s m l := by
    unfold ShaM.ended
    rw [HL.out, ← ShaM.passes_append (n / 64) (by rw [List.length_take, HL.out]; have := HW.out; omega), ← List.append_assoc, List.take_append_drop]
  rw [hmath]
  clear hmath
  go_wp2_with ((with_reducible apply stt); rfl; rfl; exact c2)
  all_goals
    apply ret_row Tryd.results60
    · exact c2.setRow_same _
    · exact Tryd.underlying29
    · rfl
    · exact (info_tag.trans (by rw [size_tag]))
    · rfl
    · rfl
    exact ⟨rfl, below_setRow cb (by omega) _⟩
set_option maxHeartbeats 400000 in
set_option maxRecDepth 100000 in
theorem psum_nil (f : Nat → Nat) (m n cap : Nat) (A : Option Addr) (w : World) :
    Calls Tryd.prog 60 #[.agg (pre f m false), .slice A n cap] w fun e w' => e = .returned (.agg (tag fun _ => 0)) ∧ Below w.heap.size w w' := by
  go_enter Tryd.func60, Tryd.ntmps60
  go_upto_region 1 with fail
  generalize hw3 : World.alloc (World.alloc w _) _ = w3
  have b1 : Blk w3 w.heap.size 69 (pre f m false) := by rw [← hw3]; exact (Blk.top rfl rfl).alloc _
  have b2 : Blk w3 (w.heap.size + 1) 29 (tag fun _ => 0) := by rw [← hw3]; exact Blk.top zlit_tag (by simp)
  have hb : Below w.heap.size w w3 := by rw [← hw3]; exact ((Below.refl _ _).alloc (Nat.le_refl _) _).alloc (by simp) _
  clear hw3
  have c9 := b1.pre9
  go_wp2_with ((with_reducible apply stt (f := fun _ => 0)); rfl; (show Value.agg _ = _; rw [zlit_tag]); exact b2)
  apply ret_row Tryd.results60
  · exact b2.setRow_same _
  · exact Tryd.underlying29
  · rfl
  · exact (info_tag.trans (by rw [size_tag]))
  · rfl
  · rfl
  exact ⟨rfl, below_setRow hb (by omega) _⟩
set_option maxHeartbeats 400000 in
set_option maxRecDepth 100000 in
/-- P3.1. -/
theorem sum_any (A : Option Addr) (l : List Nat) (n cap : Nat) (hl : l.length = n) (hc : n ≤ cap) (hm : cap ≤ maxLen) (hz : n ≤ 1000000000000000) (hb : B256 l) (w : World) (hA : Byt w w.heap.size A l) (hS : Salts w) :
    Calls Tryd.prog 69 #[.slice A n cap] w fun e w' => e = .returned (.agg (tag (ShaM.sum l))) ∧ Below w.heap.size w w' := by
  have HB := hid hb
  have HA := hid hA
  have SA := hid hS
  have HL := hid hl
  clear hb hA hS hl
  go_enter Tryd.func69, Tryd.ntmps69
  go_wp2_with fail
  generalize hw3 : World.alloc w _ = w3
  have b2 : Blk w3 w.heap.size 29 (tag fun _ => 0) := by rw [← hw3]; exact Blk.top zlit_tag rfl
  have hb : Below w.heap.size w w3 := by rw [← hw3]; exact (Below.refl _ _).alloc (Nat.le_refl _) _
  clear hw3
  refine (start_any w3).mono ?_
  rintro e w4 ⟨rfl, hb'⟩
  have b2' := b2.below hb' b2.lt
  have hb4 := hb.trans (hb'.mono hb.size)
  clear hb' b2 hb w3
  have B2 := hid b2'
  have BEL := hid hb4
  clear b2' hb4
  go_wp2_with fail
  refine (psum_ok ShaM.seeds ShaM.seeds_ok A l n cap 0 HL.out rfl hc hm (by omega) HB.out w4 ((HA.out.below BEL.out (Nat.le_refl _)).more BEL.out.size) (SA.out.on BEL.out)).mono ?_
  rintro e w5 ⟨rfl, hb'⟩
  have b2 := B2.out.below hb' B2.out.lt
  have hb := BEL.out.trans (hb'.mono BEL.out.size)
  clear hb'
  go_wp2_with ((with_reducible apply stt); rfl; rfl; exact b2)
  apply ret_row Tryd.results69
  · exact b2.setRow_same _
  · exact Tryd.underlying29
  · rfl
  · exact (info_tag.trans (by rw [size_tag]))
  · rfl
  · rfl
  exact ⟨rfl, below_setRow hb (Nat.le_refl _) _⟩
end Go.Proofs.YtmbhibilmedjmaaDoor
set_option maxRecDepth 100000
namespace Go.Proofs.YtmbhibilmedjmaaDoor.ShaM
theorem rr_sum {x n : Nat} (hx : x < 4294967296) (hn : n ≤ 32) : rr x n = x / 2 ^ n + x % 2 ^ n * 2 ^ (32 - n) := by
  unfold rr
  have h32 : (4294967296 : Nat) = 2 ^ n * 2 ^ (32 - n) := by rw [← Nat.pow_add, show n + (32 - n) = 32 by omega]
  have hlt : x / 2 ^ n < 2 ^ (32 - n) := by
    rw [Nat.div_lt_iff_lt_mul (Nat.two_pow_pos n), Nat.mul_comm, ← h32]; exact hx
  rw [h32, Nat.mul_mod_mul_right]
  have h := Nat.shiftLeft_add_eq_or_of_lt hlt (x % 2 ^ n)
  rw [Nat.shiftLeft_eq] at h
  rw [← h, Nat.add_comm]
theorem rot_low_lt {x n : Nat} (hn : n ≤ 32) : x % 2 ^ n * 2 ^ (32 - n) < 4294967296 := by
  have h32 : (4294967296 : Nat) = 2 ^ n * 2 ^ (32 - n) := by rw [← Nat.pow_add, show n + (32 - n) = 32 by omega]
  rw [h32]
  exact Nat.mul_lt_mul_of_pos_right (Nat.mod_lt _ (Nat.two_pow_pos n)) (Nat.two_pow_pos _)
def bitN (x i : Nat) : Nat := x / 2 ^ i % 2
theorem bitN_lt (x i : Nat) : bitN x i < 2 := Nat.mod_lt _ (by omega)
theorem bitN_test (x i : Nat) : bitN x i = (x.testBit i).toNat := by
  unfold bitN
  rw [Nat.testBit_eq_decide_div_mod_eq]
  have := Nat.mod_lt (x / 2 ^ i) (show 0 < 2 by omega)
  by_cases h : x / 2 ^ i % 2 = 1
  · rw [h]; rfl
  · have h0 : x / 2 ^ i % 2 = 0 := by omega
    rw [h0]; rfl
theorem div_bit (x i : Nat) : x / 2 ^ i = 2 * (x / 2 ^ (i + 1)) + bitN x i := by
  unfold bitN
  rw [Nat.pow_succ, ← Nat.div_div_eq_div_mul]
  omega
def chN (e f g : Nat) : Nat := (e &&& f) ^^^ (not32 e &&& g)
def twN (a b c : Nat) : Nat := (a &&& b) ^^^ (a &&& c) ^^^ (b &&& c)
theorem not32_lt (e : Nat) : not32 e < 4294967296 := by unfold not32; omega
theorem chN_lt {e f g : Nat} (hf : f < 4294967296) (hg : g < 4294967296) : chN e f g < 4294967296 :=
  Nat.xor_lt_two_pow (n := 32) (Nat.and_lt_two_pow _ hf) (Nat.and_lt_two_pow _ hg)
theorem twN_lt {a b c : Nat} (hb : b < 4294967296) (hc : c < 4294967296) : twN a b c < 4294967296 :=
  Nat.xor_lt_two_pow (n := 32) (Nat.xor_lt_two_pow (n := 32) (Nat.and_lt_two_pow _ hb) (Nat.and_lt_two_pow _ hc)) (Nat.and_lt_two_pow _ hc)
theorem chN_bit {e f g i : Nat} (he : e < 4294967296) (hi : i < 32) : bitN (chN e f g) i = if bitN e i = 1 then bitN f i else bitN g i := by
  have hn : (not32 e).testBit i = !e.testBit i := by
    unfold not32
    have := Nat.testBit_two_pow_sub_succ (x := e) (n := 32) he i
    rw [show (4294967295 : Nat) - e = 2 ^ 32 - (e + 1) by omega, this, decide_eq_true hi, Bool.true_and]
  rw [bitN_test, bitN_test, bitN_test, bitN_test]
  unfold chN
  rw [Nat.testBit_xor, Nat.testBit_and, Nat.testBit_and, hn]
  cases e.testBit i <;> cases f.testBit i <;> cases g.testBit i <;> rfl
theorem twN_bit (a b c i : Nat) : bitN (twN a b c) i = (bitN a i + bitN b i + bitN c i) / 2 := by
  rw [bitN_test, bitN_test, bitN_test, bitN_test]
  unfold twN
  rw [Nat.testBit_xor, Nat.testBit_xor, Nat.testBit_and, Nat.testBit_and, Nat.testBit_and]
  cases a.testBit i <;> cases b.testBit i <;> cases c.testBit i <;> rfl
theorem pOf_sum (s : S8) (k m : Nat) : pOf s (add k m) = add (add (add (add s.h (rr s.e 6 ^^^ rr s.e 11 ^^^ rr s.e 25)) (chN s.e s.f s.g)) k) m := by
  unfold pOf chN add; omega
theorem qOf_sum (s : S8) : qOf s = add (rr s.a 2 ^^^ rr s.a 13 ^^^ rr s.a 22) (twN s.a s.b s.c) := rfl
/-! ### The count at a tail's end, as it comes up from the last byte on -/
theorem count8_length (x : Nat) : (count8 x).length = 8 := by simp [count8]
theorem count8_drop (x : Nat) {i : Nat} (hi : i < 8) : (count8 x).drop (8 - (i + 1)) = (x / 256 ^ i % 256) :: (count8 x).drop (8 - i) := by
  have hl : 8 - (i + 1) < (count8 x).length := by rw [count8_length]; omega
  have h := List.drop_eq_getElem_cons hl
  have h2 := count8_get x (i := 8 - (i + 1)) (by omega)
  rw [List.getD_eq_getElem?_getD, List.getElem?_eq_getElem hl] at h2
  rw [h, show 8 - (i + 1) + 1 = 8 - i by omega, show (count8 x)[8 - (i + 1)]'hl = _ from h2, show 7 - (8 - (i + 1)) = i by omega, show (256 : Nat) = 2 ^ 8 by rfl, Nat.pow_mul]
/-! ### Primes and their roots -/
def mark (out : List Nat) (k : Nat) : Bool := out.any fun p => decide (p ≤ k) && k % p == 0
/-- What the sieve's rounds from n on still make of what was found. -/
def sieve (many : Nat) : Nat → Nat → List Nat → List Nat
  | 0, _, out => out
  | fuel + 1, n, out => if n < 400 ∧ out.length < many then (if mark out n then sieve many fuel (n + 1) out else sieve many fuel (n + 1) (out ++ [n])) else out
def primesN (many : Nat) : List Nat := sieve many 400 2 []
def hi64 (x y : Nat) : Nat := x * y / 18446744073709551616
def lo64 (x y : Nat) : Nat := x * y % 18446744073709551616
def w64 (x : Nat) : Nat := x % 18446744073709551616
def withinN (x p : Nat) (cube : Bool) : Bool :=
  if cube then
    (let high := w64 (w64 (hi64 x x * x) + hi64 (lo64 x x) x)
     let low := lo64 (lo64 x x) x
     let limit := w64 (p * 4294967296)
     decide (high < limit) || (high == limit && low == 0))
  else decide (hi64 x x < p) || (hi64 x x == p && lo64 x x == 0)
/-- The rounds from i - 1 down to 0. -/
def rootN (p : Nat) (cube : Bool) : Nat → Nat → Nat
  | 0, x => x
  | i + 1, x => rootN p cube i (if withinN (w64 (x + 2 ^ i)) p cube then w64 (x + 2 ^ i) else x)
def rootsN (many : Nat) (cube : Bool) : List Nat := (primesN many).map fun p => rootN p cube 38 0 % 4294967296
theorem primes_8 : primesN 8 = [2, 3, 5, 7, 11, 13, 17, 19] := by decide +kernel
theorem primes_64 : primesN 64 = [2, 3, 5, 7, 11, 13, 17, 19, 23, 29, 31, 37, 41, 43, 47, 53, 59, 61, 67, 71, 73, 79, 83, 89, 97, 101, 103, 107, 109, 113, 127, 131, 137, 139, 149, 151, 157, 163, 167, 173, 179, 181, 191, 193, 197, 199, 211, 223, 227, 229, 233, 239, 241, 251, 257, 263, 269, 271, 277, 281, 283, 293, 307, 311] := by decide +kernel
theorem roots_8 : rootsN 8 false = [seeds.a, seeds.b, seeds.c, seeds.d, seeds.e, seeds.f, seeds.g, seeds.h] := by unfold rootsN; rw [primes_8]; decide +kernel
theorem roots_64 : rootsN 64 true = salts := by unfold rootsN; rw [primes_64]; decide +kernel
end Go.Proofs.YtmbhibilmedjmaaDoor.ShaM
set_option maxRecDepth 100000
namespace Go.Proofs.YtmbhibilmedjmaaDoor
open Go.ChangeShapes Go.WideShapes Go.ChangeAt Go.RowKit
theorem bit_any (x i : Nat) (hx : x < 4294967296) (hi : i < 32) (w : World) :
    Calls Tryd.prog 77 #[.int .u32 x, .int .i64 i] w fun e w' => e = .returned (.int .u32 (ShaM.bitN x i : Nat)) ∧ w = w' := by
  go_enter Tryd.func77, Tryd.ntmps77
  go_wp2
  go_ret
  refine ⟨ret_int ?_, rfl⟩
  unfold ShaM.bitN
  rw [Int.tmod_eq_emod_of_nonneg (Int.ediv_nonneg (by omega) (Int.le_of_lt (Int.pow_pos (by omega))))]
  simp
theorem rcut_any (x n : Nat) (hx : x < 4294967296) (hn : n < 32) (w : World) :
    Calls Tryd.prog 76 #[.int .u32 x, .int .i64 n] w fun e w' => e = .returned (.int .u32 (x / 2 ^ n : Nat)) ∧ w = w' := by
  obtain ⟨P, hP⟩ : ∃ P : Nat, P = 2 ^ n := ⟨_, rfl⟩
  have h1 : P < 4294967296 := by have h := Nat.pow_lt_pow_right (a := 2) (by decide) hn; omega
  have h2 : ¬ P = 0 := by rw [hP]; exact Nat.ne_of_gt (Nat.two_pow_pos n)
  have e0 : (2 : Int) ^ n = (P : Int) := by rw [hP]; simp
  have e : (2 : Int) ^ n % 4294967296 = (P : Int) := by rw [e0]; omega
  clear e0
  have hq : x / P < 4294967296 := Nat.lt_of_le_of_lt (Nat.div_le_self _ _) hx
  obtain ⟨q, hqq⟩ : ∃ q, q = x / P := ⟨_, rfl⟩
  have e2 : (x : Int) / (P : Int) % 4294967296 = (q : Int) := by
    rw [show (x : Int) / (P : Int) = ((x / P : Nat) : Int) by simp, ← hqq]; omega
  rw [← hP, ← hqq]
  have HP := hid hP
  have HQ := hid hqq
  clear hP hqq hq
  go_enter Tryd.func76, Tryd.ntmps76
  go_wp2
  go_ret
  exact ⟨ret_int e2, rfl⟩
theorem rrot_any (x n : Nat) (hx : x < 4294967296) (h0 : 0 < n) (hn : n < 32) (w : World) :
    Calls Tryd.prog 66 #[.int .u32 x, .int .i64 n] w fun e w' => e = .returned (.int .u32 (ShaM.rr x n : Nat)) ∧ w = w' := by
  obtain ⟨P, hP⟩ : ∃ P : Nat, P = 2 ^ n := ⟨_, rfl⟩
  obtain ⟨R, hR⟩ : ∃ R : Nat, R = ShaM.rr x n := ⟨_, rfl⟩
  have h1 : P < 4294967296 := by have h := Nat.pow_lt_pow_right (a := 2) (by decide) hn; omega
  have h2 : ¬ P = 0 := by rw [hP]; exact Nat.ne_of_gt (Nat.two_pow_pos n)
  have e0 : (2 : Int) ^ n = (P : Int) := by rw [hP]; simp
  have e : (2 : Int) ^ n % 4294967296 = (P : Int) := by rw [e0]; omega
  clear e0
  have hs := ShaM.rr_sum hx (Nat.le_of_lt hn)
  have hl := ShaM.rot_low_lt (x := x) (Nat.le_of_lt hn)
  have hr := ShaM.rr_lt hx n
  rw [← hP] at hs hl
  rw [← hR] at hs hr ⊢
  have HP := hid hP
  have HR := hid hR
  have HS := hid hs
  have HL := hid hl
  clear hP hR hs hl
  go_enter Tryd.func66, Tryd.ntmps66
  go_wp2
  go_ret
  refine ⟨ret_int ?_, rfl⟩
  have hs := HS.out
  have hl := HL.out
  have e0 : (2 : Int) ^ n = (P : Int) := by rw [HP.out]; simp
  have e3 : (x : Int) % (P : Int) * 2 ^ (32 - n) = ((x % P * 2 ^ (32 - n) : Nat) : Int) := by simp
  have e4 : (x : Int) / (P : Int) = ((x / P : Nat) : Int) := by simp
  rw [e3, e0, e4]
  generalize x % P * 2 ^ (32 - n) = y at *
  generalize x / P = z at *
  omega
set_option maxHeartbeats 400000 in
theorem chosen_any (e f g : Nat) (he : e < 4294967296) (hf : f < 4294967296) (hg : g < 4294967296) (w : World) :
    Calls Tryd.prog 67 #[.int .u32 e, .int .u32 f, .int .u32 g] w fun r w' => r = .returned (.int .u32 (ShaM.chN e f g : Nat)) ∧ w = w' := by
  have hc := ShaM.chN_lt (e := e) hf hg
  obtain ⟨c, hce⟩ : ∃ c, c = ShaM.chN e f g := ⟨_, rfl⟩
  rw [← hce] at hc ⊢
  have HC := hid hce
  clear hce
  go_enter Tryd.func67, Tryd.ntmps67
  go_wp2_with fail
  go_loop [7, 8] (fun u v => ∃ m o : Nat, m ≤ 32 ∧ v = .int .i64 ((m : Int) - 1) ∧ u = .int .u32 o ∧ o = c / 2 ^ m) (fun _ v => (intOf v + 1).toNat)
  case atStart => exact ⟨32, 0, by omega, rfl, rfl, by rw [Nat.div_eq_of_lt (by omega)]⟩
  case round =>
    obtain ⟨m, o, hm, rfl, rfl, ho⟩ := hrel
    cases m with
    | zero =>
      rw [Nat.pow_zero, Nat.div_one] at ho
      subst ho
      go_wp2_with fail
      go_ret
      exact ⟨rfl, rfl⟩
    | succ i =>
      have hi : i < 32 := by omega
      have e1 : ((i + 1 : Nat) : Int) - 1 = (i : Int) := by omega
      rw [e1]
      have hb := ShaM.chN_bit (e := e) (f := f) (g := g) he hi
      rw [← HC.out] at hb
      have hdv := ShaM.div_bit c i
      rw [← ho] at hdv
      have hle : c / 2 ^ i ≤ c := Nat.div_le_self _ _
      have hbe := ShaM.bitN_lt e i
      have hbf := ShaM.bitN_lt f i
      have hbg := ShaM.bitN_lt g i
      have HO := hid ho
      have HB := hid hb
      have HD := hid hdv
      clear ho hb hdv e1
      have hbc := ShaM.bitN_lt c i
      have ho31 : 2 * o + ShaM.bitN c i < 4294967296 := by have := HD.out; omega
      have ho30 : (o : Int) ≤ 2147483647 := by omega
      generalize hy : ShaM.bitN c i = y at *
      have HY := hid hy
      clear hy
      by_cases h1 : ShaM.bitN e i = 1
      · have t1 : ((ShaM.bitN e i : Nat) : Int) = 1 := by omega
        have hyf : ShaM.bitN f i = y := by have := HB.out; rw [if_pos h1] at this; exact this.symm
        have HT := hid t1
        have HYF := hid hyf
        clear h1 t1 hyf hbe
        go_wp2_with fail
        refine (bit_any g i hg hi w).mono ?_
        rintro r w' ⟨rfl, rfl⟩
        go_wp2_with fail
        refine (bit_any e i he hi w).mono ?_
        rintro r w' ⟨rfl, rfl⟩
        rw [HT.out]
        go_wp2_with fail
        refine (bit_any f i hf hi w).mono ?_
        rintro r w' ⟨rfl, rfl⟩
        rw [HYF.out]
        go_wp2_with fail
        go_round
        case rel => exact ⟨i, c / 2 ^ i, by omega, rfl, by rw [HD.out]; go_num, rfl⟩
        case measure => simp [intOf] <;> omega
      · have t1 : (((ShaM.bitN e i : Nat) : Int) == 1) = false := by rw [beq_eq_false_iff_ne]; omega
        have hyf : ShaM.bitN g i = y := by have := HB.out; rw [if_neg h1] at this; exact this.symm
        have HYF := hid hyf
        clear h1 hyf
        go_wp2_with fail
        refine (bit_any g i hg hi w).mono ?_
        rintro r w' ⟨rfl, rfl⟩
        rw [HYF.out]
        go_wp2_with fail
        refine (bit_any e i he hi w).mono ?_
        rintro r w' ⟨rfl, rfl⟩
        go_wp2_with fail
        go_round
        case rel => exact ⟨i, c / 2 ^ i, by omega, rfl, by rw [HD.out]; go_num, rfl⟩
        case measure => simp [intOf] <;> omega
set_option maxHeartbeats 400000 in
theorem two_any (a b d : Nat) (ha : a < 4294967296) (hb : b < 4294967296) (hd : d < 4294967296) (w : World) :
    Calls Tryd.prog 68 #[.int .u32 a, .int .u32 b, .int .u32 d] w fun r w' => r = .returned (.int .u32 (ShaM.twN a b d : Nat)) ∧ w = w' := by
  have hc := ShaM.twN_lt (a := a) hb hd
  obtain ⟨c, hce⟩ : ∃ c, c = ShaM.twN a b d := ⟨_, rfl⟩
  rw [← hce] at hc ⊢
  have HC := hid hce
  clear hce
  go_enter Tryd.func68, Tryd.ntmps68
  go_wp2_with fail
  go_loop [7, 8] (fun u v => ∃ m o : Nat, m ≤ 32 ∧ v = .int .i64 ((m : Int) - 1) ∧ u = .int .u32 o ∧ o = c / 2 ^ m) (fun _ v => (intOf v + 1).toNat)
  case atStart => exact ⟨32, 0, by omega, rfl, rfl, by rw [Nat.div_eq_of_lt (by omega)]⟩
  case round =>
    obtain ⟨m, o, hm, rfl, rfl, ho⟩ := hrel
    cases m with
    | zero =>
      rw [Nat.pow_zero, Nat.div_one] at ho
      subst ho
      go_wp2_with fail
      go_ret
      exact ⟨rfl, rfl⟩
    | succ i =>
      have hi : i < 32 := by omega
      have e1 : ((i + 1 : Nat) : Int) - 1 = (i : Int) := by omega
      rw [e1]
      have hbt := ShaM.twN_bit a b d i
      rw [← HC.out] at hbt
      have hdv := ShaM.div_bit c i
      rw [← ho] at hdv
      have hle : c / 2 ^ i ≤ c := Nat.div_le_self _ _
      have hba := ShaM.bitN_lt a i
      have hbb := ShaM.bitN_lt b i
      have hbd := ShaM.bitN_lt d i
      have HO := hid ho
      have HB := hid hbt
      have HD := hid hdv
      clear ho hbt hdv e1
      have hbc := ShaM.bitN_lt c i
      have ho31 : 2 * o + ShaM.bitN c i < 4294967296 := by have := HD.out; omega
      have ho30 : (o : Int) ≤ 2147483647 := by omega
      generalize hx : ShaM.bitN a i = x at *
      generalize hy : ShaM.bitN b i = y at *
      generalize hz : ShaM.bitN d i = z at *
      have HX := hid hx
      have HY := hid hy
      have HZ := hid hz
      clear hx hy hz
      go_wp2_with fail
      refine (bit_any a i ha hi w).mono ?_
      rintro r w' ⟨rfl, rfl⟩
      rw [HX.out]
      go_wp2_with fail
      refine (bit_any b i hb hi w).mono ?_
      rintro r w' ⟨rfl, rfl⟩
      rw [HY.out]
      go_wp2_with fail
      refine (bit_any d i hd hi w).mono ?_
      rintro r w' ⟨rfl, rfl⟩
      rw [HZ.out]
      go_wp2_with fail
      go_round
      case rel => exact ⟨i, c / 2 ^ i, by omega, rfl, by rw [HD.out, HB.out]; go_num, rfl⟩
      case measure => simp [intOf] <;> omega
end Go.Proofs.YtmbhibilmedjmaaDoor
set_option maxRecDepth 100000
namespace Go.Proofs.YtmbhibilmedjmaaDoor
open Go.ChangeShapes Go.WideShapes Go.ChangeAt Go.RowKit
theorem ret_bool {a b : Bool} (h : a = b) : Ending.returned (.bool a) = .returned (.bool b) := by rw [h]
theorem hi_lt {x y : Nat} (hx : x < 18446744073709551616) (hy : y < 18446744073709551616) : ShaM.hi64 x y < 18446744073709551616 := by
  unfold ShaM.hi64
  rw [Nat.div_lt_iff_lt_mul (by omega)]
  exact Nat.mul_lt_mul'' hx hy
theorem lo_lt (x y : Nat) : ShaM.lo64 x y < 18446744073709551616 := Nat.mod_lt _ (by omega)
theorem mul64_any (x y : Nat) (hx : x < 18446744073709551616) (hy : y < 18446744073709551616) (w : World) :
    Calls Tryd.prog 49 #[.int .u64 x, .int .u64 y] w fun e w' => e = .returned (.tuple #[.int .u64 (ShaM.hi64 x y : Nat), .int .u64 (ShaM.lo64 x y : Nat)]) ∧ w' = w := Tryd.bits_Mul64 x y hx hy w
/-- What the last test tells. -/
def tellN (high low limit : Nat) : Bool := decide (high < limit) || (high == limit && low == 0)
theorem tell_lt {h l m : Nat} (h1 : h < m) : tellN h l m = true := by unfold tellN; rw [decide_eq_true h1]; rfl
theorem tell_eq {l m : Nat} : tellN m l m = (l == 0) := by unfold tellN; simp
theorem tell_gt {h l m : Nat} (h1 : m < h) : tellN h l m = false := by unfold tellN; simp; omega
set_option maxHeartbeats 400000 in
theorem within_sq (x p : Nat) (hx : x < 18446744073709551616) (hp : p < 4294967296) (w : World) :
    Calls Tryd.prog 75 #[.int .u64 x, .int .u64 p, .bool false] w fun e w' => e = .returned (.bool (ShaM.withinN x p false)) ∧ w = w' := by
  have hw : ShaM.withinN x p false = tellN (ShaM.hi64 x x) (ShaM.lo64 x x) p := rfl
  rw [hw]
  clear hw
  have h1 := hi_lt hx hx
  have h2 := lo_lt x x
  have M := mul64_any x x hx hx w
  generalize ShaM.hi64 x x = H at *
  generalize ShaM.lo64 x x = L at *
  go_enter Tryd.func75, Tryd.ntmps75
  rcases Nat.lt_trichotomy H p with h | h | h
  · have t1 : decide (H < p) = true := decide_eq_true h
    have t3 : (p ≤ H) = False := by simp; omega
    have E := hid (tell_lt (l := L) h)
    clear h
    go_wp2_with fail
    refine M.mono ?_
    rintro e w' ⟨rfl, rfl⟩
    go_wp2_with fail
    go_ret
    exact ⟨by rw [E.out]; rfl, rfl⟩
  · subst h
    have t1 : decide (H < H) = false := decide_eq_false (by omega)
    by_cases h0 : L = 0
    · have t2 : ((L : Int) == 0) = true := by rw [beq_iff_eq]; omega
      have E : tellN H L H = true := by rw [tell_eq]; simp [h0]
      have EH := hid E
      clear h0 E
      go_wp2_with fail
      refine M.mono ?_
      rintro e w' ⟨rfl, rfl⟩
      go_wp2_with fail
      go_ret
      exact ⟨by rw [EH.out]; rfl, rfl⟩
    · have t2 : ((L : Int) == 0) = false := by rw [beq_eq_false_iff_ne]; omega
      have E : tellN H L H = false := by rw [tell_eq]; simp [h0]
      have EH := hid E
      clear h0 E
      go_wp2_with fail
      refine M.mono ?_
      rintro e w' ⟨rfl, rfl⟩
      go_wp2_with fail
      go_ret
      exact ⟨by rw [EH.out]; rfl, rfl⟩
  · have t1 : decide (H < p) = false := decide_eq_false (by omega)
    have t3 : (p ≤ H) = True := by simp; omega
    have t2 : ((H : Int) == (p : Int)) = false := by rw [beq_eq_false_iff_ne]; omega
    have E := hid (tell_gt (l := L) h)
    clear h
    go_wp2_with fail
    refine M.mono ?_
    rintro e w' ⟨rfl, rfl⟩
    go_wp2_with fail
    go_ret
    exact ⟨by rw [E.out]; rfl, rfl⟩
set_option maxHeartbeats 400000 in
theorem within_cube (x p : Nat) (hx : x < 18446744073709551616) (hp : p < 4294967296) (w : World) :
    Calls Tryd.prog 75 #[.int .u64 x, .int .u64 p, .bool true] w fun e w' => e = .returned (.bool (ShaM.withinN x p true)) ∧ w = w' := by
  have hw : ShaM.withinN x p true = tellN (ShaM.w64 (ShaM.w64 (ShaM.hi64 x x * x) + ShaM.hi64 (ShaM.lo64 x x) x)) (ShaM.lo64 (ShaM.lo64 x x) x) (ShaM.w64 (p * 4294967296)) := rfl
  rw [hw]
  clear hw
  have h1 := hi_lt hx hx
  have h2 := lo_lt x x
  have M := mul64_any x x hx hx w
  have M2 := mul64_any (ShaM.lo64 x x) x h2 hx w
  have h3 := hi_lt h2 hx
  have h4 := lo_lt (ShaM.lo64 x x) x
  generalize ShaM.hi64 (ShaM.lo64 x x) x = C at *
  generalize ShaM.lo64 (ShaM.lo64 x x) x = L at *
  generalize ShaM.hi64 x x = H0 at *
  generalize ShaM.lo64 x x = L0 at *
  have e1 : IntKind.u64.wrap ((H0 : Int) * (x : Int)) = ((ShaM.w64 (H0 * x) : Nat) : Int) := by rw [IntKind.wrap_u64]; unfold ShaM.w64; simp
  have e2 : IntKind.u64.wrap (((ShaM.w64 (H0 * x) : Nat) : Int) + (C : Int)) = ((ShaM.w64 (ShaM.w64 (H0 * x) + C) : Nat) : Int) := by rw [IntKind.wrap_u64]; unfold ShaM.w64; simp
  have e3 : (p : Int) * 4294967296 = ((ShaM.w64 (p * 4294967296) : Nat) : Int) := by unfold ShaM.w64; omega
  have hH : ShaM.w64 (ShaM.w64 (H0 * x) + C) < 18446744073709551616 := Nat.mod_lt _ (by omega)
  have hG : ShaM.w64 (H0 * x) < 18446744073709551616 := Nat.mod_lt _ (by omega)
  have hp' : ShaM.w64 (p * 4294967296) < 18446744073709551616 := Nat.mod_lt _ (by omega)
  generalize ShaM.w64 (ShaM.w64 (H0 * x) + C) = H at *
  generalize ShaM.w64 (H0 * x) = G at *
  generalize ShaM.w64 (p * 4294967296) = q at *
  go_enter Tryd.func75, Tryd.ntmps75
  rcases Nat.lt_trichotomy H q with h | h | h
  · have t1 : decide (H < q) = true := decide_eq_true h
    have t3 : (q ≤ H) = False := by simp; omega
    have E := hid (tell_lt (l := L) h)
    clear h
    go_wp2_with fail
    refine M.mono ?_
    rintro e w' ⟨rfl, rfl⟩
    go_wp2_with fail
    refine M2.mono ?_
    rintro e w' ⟨rfl, rfl⟩
    go_wp2_with fail
    go_ret
    exact ⟨by rw [E.out]; rfl, rfl⟩
  · subst h
    have t1 : decide (H < H) = false := decide_eq_false (by omega)
    by_cases h0 : L = 0
    · have t2 : ((L : Int) == 0) = true := by rw [beq_iff_eq]; omega
      have E : tellN H L H = true := by rw [tell_eq]; simp [h0]
      have EH := hid E
      clear h0 E
      go_wp2_with fail
      refine M.mono ?_
      rintro e w' ⟨rfl, rfl⟩
      go_wp2_with fail
      refine M2.mono ?_
      rintro e w' ⟨rfl, rfl⟩
      go_wp2_with fail
      go_ret
      exact ⟨by rw [EH.out]; rfl, rfl⟩
    · have t2 : ((L : Int) == 0) = false := by rw [beq_eq_false_iff_ne]; omega
      have E : tellN H L H = false := by rw [tell_eq]; simp [h0]
      have EH := hid E
      clear h0 E
      go_wp2_with fail
      refine M.mono ?_
      rintro e w' ⟨rfl, rfl⟩
      go_wp2_with fail
      refine M2.mono ?_
      rintro e w' ⟨rfl, rfl⟩
      go_wp2_with fail
      go_ret
      exact ⟨by rw [EH.out]; rfl, rfl⟩
  · have t1 : decide (H < q) = false := decide_eq_false (by omega)
    have t3 : (q ≤ H) = True := by simp; omega
    have t2 : ((H : Int) == (q : Int)) = false := by rw [beq_eq_false_iff_ne]; omega
    have E := hid (tell_gt (l := L) h)
    clear h
    go_wp2_with fail
    refine M.mono ?_
    rintro e w' ⟨rfl, rfl⟩
    go_wp2_with fail
    refine M2.mono ?_
    rintro e w' ⟨rfl, rfl⟩
    go_wp2_with fail
    go_ret
    exact ⟨by rw [E.out]; rfl, rfl⟩
theorem within_any (x p : Nat) (cube : Bool) (hx : x < 18446744073709551616) (hp : p < 4294967296) (w : World) :
    Calls Tryd.prog 75 #[.int .u64 x, .int .u64 p, .bool cube] w fun e w' => e = .returned (.bool (ShaM.withinN x p cube)) ∧ w = w' := by
  cases cube
  · exact within_sq x p hx hp w
  · exact within_cube x p hx hp w
set_option maxHeartbeats 400000 in
theorem root_any (p : Nat) (cube : Bool) (hp : p < 4294967296) (w : World) :
    Calls Tryd.prog 64 #[.int .u64 p, .bool cube] w fun e w' => e = .returned (.int .u32 (ShaM.rootN p cube 38 0 % 4294967296 : Nat)) ∧ w = w' := by
  obtain ⟨R, hR⟩ : ∃ R, R = ShaM.rootN p cube 38 0 := ⟨_, rfl⟩
  rw [← hR]
  have HR := hid hR
  clear hR
  go_enter Tryd.func64, Tryd.ntmps64
  go_wp2_with fail
  go_loop [5, 6] (fun u v => ∃ m x : Nat, m ≤ 38 ∧ v = .int .i64 ((m : Int) - 1) ∧ u = .int .u64 x ∧ x < 18446744073709551616 ∧ Hid (ShaM.rootN p cube m x = R)) (fun _ v => (intOf v + 1).toNat)
  case atStart => exact ⟨38, 0, by omega, rfl, rfl, by omega, hid HR.out.symm⟩
  case round =>
    obtain ⟨m, x, hm, rfl, rfl, hx, hr⟩ := hrel
    cases m with
    | zero =>
      obtain rfl : x = R := hr.out
      go_wp2_with fail
      go_ret
      exact ⟨ret_int (by simp), rfl⟩
    | succ i =>
      have hi : i < 38 := by omega
      have e1 : ((i + 1 : Nat) : Int) - 1 = (i : Int) := by omega
      rw [e1]
      obtain ⟨y, hy⟩ : ∃ y, y = ShaM.w64 (x + 2 ^ i) := ⟨_, rfl⟩
      have hyl : y < 18446744073709551616 := by rw [hy]; exact Nat.mod_lt _ (by omega)
      have hpw : 2 ^ i < 2 ^ 38 := Nat.pow_lt_pow_right (by decide) hi
      have e2 : IntKind.u64.wrap ((2 : Int) ^ i) = ((2 ^ i : Nat) : Int) := by
        have h0 : (2 : Int) ^ i = ((2 ^ i : Nat) : Int) := by simp
        generalize 2 ^ i = P at *
        rw [h0]; exact IntWalk.u64_in _ (by omega)
      have hst : ShaM.rootN p cube (i + 1) x = ShaM.rootN p cube i (if ShaM.withinN y p cube then y else x) := by rw [ShaM.rootN, hy]
      have hr2 := hr.out
      rw [hst] at hr2
      have e3 : IntKind.u64.wrap ((x : Int) + ((2 ^ i : Nat) : Int)) = (y : Int) := by rw [hy, IntKind.wrap_u64]; unfold ShaM.w64; omega
      generalize 2 ^ i = P at *
      have HY := hid hy
      have HR2 := hid hr2
      clear hy hr2 hst hr e1
      go_wp2_with fail
      refine (within_any y p cube hyl hp w).mono ?_
      rintro r w' ⟨rfl, rfl⟩
      cases hcs : ShaM.withinN y p cube with
      | true =>
        have hq := HR2.out
        rw [hcs, if_pos rfl] at hq
        have HQ := hid hq
        clear hq hcs HR2
        go_wp2_with fail
        go_round
        case rel => exact ⟨i, y, by omega, rfl, rfl, hyl, HQ⟩
        case measure => simp [intOf] <;> omega
      | false =>
        have hq := HR2.out
        rw [hcs, if_neg (by decide)] at hq
        have HQ := hid hq
        clear hq hcs HR2
        go_wp2_with fail
        go_round
        case rel => exact ⟨i, x, by omega, rfl, rfl, hx, HQ⟩
        case measure => simp [intOf] <;> omega
end Go.Proofs.YtmbhibilmedjmaaDoor
set_option maxRecDepth 100000
namespace Go.Proofs.YtmbhibilmedjmaaDoor
open Go.ChangeShapes Go.WideShapes Go.ChangeAt Go.RowKit
attribute [local go_sem] Gives
theorem elt64 : Elt 91 41 .u64 := elt_of Tryd.underlying91 (by kernel_rfl) (by kernel_rfl) (by kernel_rfl)
theorem elt32 : Elt 81 65 .u32 := elt_of Tryd.underlying81 (by kernel_rfl) (by kernel_rfl) (by kernel_rfl)
theorem elt8 : Elt 26 5 .u8 := elt_of Tryd.underlying26 (by kernel_rfl) (by kernel_rfl) (by kernel_rfl)
theorem info_bool : ∃ i : TypeInfo, Tryd.prog.info? 4 = some i ∧ i.zero = some (.bool false) ∧ i.size = 1 ∧ i.bytes = 1 := by
  have h1 : (Tryd.prog.info? 4).map (·.size) = some 1 := by kernel_rfl
  have h2 : (Tryd.prog.info? 4).map (·.bytes) = some 1 := by kernel_rfl
  have h3 : (Tryd.prog.info? 4).bind (·.zero) = some (.bool false) := by kernel_rfl
  cases hi : Tryd.prog.info? 4 with
  | none => rw [hi] at h1; cases h1
  | some i =>
    rw [hi] at h1 h2 h3
    simp only [Option.map_some, Option.some.injEq, Option.bind_some] at h1 h2 h3
    exact ⟨i, rfl, h3, h1, h2⟩
def bls (n : Nat) (f : Nat → Bool) : Array Value := row n fun j => .bool (f j)
theorem bls_ext {n : Nat} {f g : Nat → Bool} (h : ∀ k, k < n → f k = g k) : bls n f = bls n g := row_ext fun k hk => by rw [h k hk]
theorem get_bls {n : Nat} {f : Nat → Bool} {k : Nat} (h : k < n) : (bls n f)[k]? = some (.bool (f k)) := get_row_lt h
theorem bls_set {n : Nat} {f : Nat → Bool} {k : Nat} {v : Bool} : (bls n f).setIfInBounds k (.bool v) = bls n fun j => if j = k then v else f j := by
  unfold bls
  rw [row_set]
  exact row_ext fun j _ => by by_cases e : j = k <;> simp [e]
theorem run_mkb (w : World) : ∃ w', (Instr.makeSlice 103 (.int .i64 400) (.int .i64 400)).run Tryd.prog w = .ok (.slice (some ⟨w.heap.size, 0, none⟩) 400 400) w' ∧
    Blk w' w.heap.size 4 (bls 400 fun _ => false) ∧ Below w.heap.size w w' := by
  obtain ⟨i, hi, hz, h1, h2⟩ := info_bool
  obtain ⟨w', hr, ho, hg⟩ := run_makeSlice_full (P := Tryd.prog) w w.heap.size 103 4 i (.bool false) 1 Tryd.underlying103 hi hz h1 .i64 .i64 400 (by omega) (by rw [h2]; omega) (by unfold maxLen; omega) (Nat.le_refl _)
  refine ⟨w', hr, ?_, (Below.refl _ _).grown hg (Nat.le_refl _) (fun k e => by cases e)⟩
  rcases ho.2 with ⟨e, _⟩ | ⟨g, cap, cur, hv, _, hgc, _, _, hcs, ht⟩
  · cases e
  · simp only [Value.slice.injEq, Option.some.injEq, Addr.mk.injEq, and_true, true_and] at hv
    obtain ⟨rfl, rfl⟩ := hv
    have hcur : cur = bls 400 fun _ => false := by
      apply Array.ext_getElem?
      intro j
      rw [Nat.mul_one] at hcs ht
      unfold bls
      rw [get_row]
      by_cases hj : j < 400
      · rw [if_pos hj]
        have h3 : (madeCells (Value.cells (.bool false)) 400).toList[j]? = some (.bool false) := by
          rw [Array.getElem?_toList]
          unfold madeCells
          rw [Array.getElem?_map, Array.getElem?_range, if_pos hj]
          simp [Value.cells, Nat.mod_one]
        rw [← ht, List.getElem?_take_of_lt hj, Array.getElem?_toList] at h3
        exact h3
      · rw [if_neg hj, Array.getElem?_eq_none (by omega)]
    rw [← hcur]
    exact hgc
theorem mkb {ops : Array Oper} {Q : Exit → Act → World → Prop} {a : Act} {w : World} {rest : List Oper} {dst : Option Tmp} {ty : TypeId} {pos : String} {after : Array Edge} {x y : Operand}
    (hx : a.eval x = .int .i64 400) (hy : a.eval y = .int .i64 400) (h : ∀ w', Blk w' w.heap.size 4 (bls 400 fun _ => false) → Below w.heap.size w w' → wpList Tryd.prog ops Q rest (a.put dst (.slice (some ⟨w.heap.size, 0, none⟩) 400 400)) w') :
    wpList Tryd.prog ops Q (⟨dst, .makeSlice 103 x y, ty, pos, after, none⟩ :: rest) a w := by
  obtain ⟨w', hr, h1, h2⟩ := run_mkb w
  refine wpList_plain rfl fun K hK => ?_
  unfold Oper.wp execOp
  simp only [Sem.run_bind, hx, hy, hr, Result.andThen_ok]
  exact hK _ _ (h w' h1 h2)
/-- What is marked when the multiples of n below k are. -/
def markTo (out : List Nat) (n k j : Nat) : Bool := ShaM.mark out j || (decide (n ≤ j) && j % n == 0 && decide (j < k))
theorem markTo_zero (out : List Nat) (n j : Nat) : markTo out n n j = ShaM.mark out j := by
  unfold markTo
  have : (decide (n ≤ j) && j % n == 0 && decide (j < n)) = false := by
    rw [Bool.and_eq_false_iff, Bool.and_eq_false_iff]
    by_cases h : n ≤ j
    · right; simp; omega
    · left; left; simp; omega
  rw [this, Bool.or_false]
theorem markTo_full (out : List Nat) (n k j : Nat) (h : j < k) : markTo out n k j = ShaM.mark (out ++ [n]) j := by
  unfold markTo ShaM.mark
  rw [List.any_append, decide_eq_true h, Bool.and_true]
  simp
theorem markTo_step (out : List Nat) {n c : Nat} (hn : 0 < n) (hc : 1 ≤ c) (j : Nat) : (if j = n * c then true else markTo out n (n * c) j) = markTo out n (n * c + n) j := by
  unfold markTo
  by_cases e : j = n * c
  · subst e
    have h1 : n ≤ n * c := Nat.le_mul_of_pos_right n hc
    rw [if_pos rfl, decide_eq_true h1, Nat.mul_mod_right, decide_eq_true (show n * c < n * c + n by omega)]
    simp
  · rw [if_neg e]
    congr 1
    by_cases h : j < n * c
    · rw [decide_eq_true h, decide_eq_true (show j < n * c + n by omega)]
    · by_cases h2 : j < n * c + n
      · have h3 : ¬ j % n = 0 := by
          obtain ⟨r, hr⟩ : ∃ r, j = n * c + r := ⟨j - n * c, by omega⟩
          rw [hr, Nat.mul_add_mod, Nat.mod_eq_of_lt (by omega)]
          omega
        rw [decide_eq_false h, decide_eq_true h2]
        simp [h3]
      · rw [decide_eq_false h, decide_eq_false h2]
theorem sieve_len {many : Nat} : ∀ (fuel n : Nat) (out : List Nat), out.length ≤ (ShaM.sieve many fuel n out).length
  | 0, n, out => Nat.le_refl _
  | fuel + 1, n, out => by
    rw [ShaM.sieve]
    split
    · split
      · exact sieve_len fuel _ _
      · refine Nat.le_trans ?_ (sieve_len fuel _ _)
        simp
    · exact Nat.le_refl _
set_option maxHeartbeats 1000000 in
set_option maxRecDepth 100000 in
theorem primes_any (many : Nat) (hm : many ≤ 1000) (w : World) :
    Calls Tryd.prog 63 #[.int .i64 many] w fun e w' => ∃ A cap, e = .returned (.slice A (ShaM.primesN many).length cap) ∧ (ShaM.primesN many).length ≤ cap ∧ cap ≤ maxLen ∧ Nums .u64 w' w'.heap.size A (ShaM.primesN many) ∧ Below w.heap.size w w' := by
  obtain ⟨R, hR⟩ : ∃ R, R = ShaM.primesN many := ⟨_, rfl⟩
  rw [← hR]
  have HR := hid hR
  clear hR
  go_enter Tryd.func63, Tryd.ntmps63
  go_wp2_with ((with_reducible apply mkb); rfl; rfl; intro w3 b3 h3)
  go_loopw [4, 5] (fun u v wr => ∃ (n f : Nat) (out : List Nat) (A : Option Addr) (cap : Nat), 2 ≤ n ∧ n ≤ 400 ∧ n + f = 402 ∧ v = .int .i64 n ∧ u = .slice A out.length cap ∧ out.length ≤ n ∧ Hid (Own 41 .u64 wr (w.heap.size + 1) u out) ∧ Blk wr w.heap.size 4 (bls 400 (ShaM.mark out)) ∧ Hid (Below w.heap.size w wr) ∧ Hid (ShaM.sieve many f n out = R)) (fun _ v _ => 400 - (intOf v).toNat)
  case atStart => exact ⟨2, 400, [], none, 0, by omega, by omega, by omega, rfl, rfl, by simp, hid Own.nil, b3, hid h3, hid HR.out.symm⟩
  case round =>
    clear b3 h3
    obtain ⟨n, f, out, A, cap, hn2, hn, hf, rfl, rfl, hol, hown, hbl, hbel, hsv⟩ := hrel
    have hexit : out = R → ∃ A' cap', Ending.returned (.slice A out.length cap) = .returned (.slice A' R.length cap') ∧ R.length ≤ cap' ∧ cap' ≤ maxLen ∧ Nums .u64 wr wr.heap.size A' R ∧ Below w.heap.size w wr := fun e => by
      subst e
      obtain ⟨A', cap', e1, e2, e3, e4⟩ := hown.out.any
      simp only [Value.slice.injEq, true_and] at e1
      obtain ⟨rfl, rfl⟩ := e1
      exact ⟨A, cap, rfl, e2, e3, e4, hbel.out⟩
    have HX := hid hexit
    clear hexit
    obtain ⟨f, rfl⟩ : ∃ f', f = f' + 1 := ⟨f - 1, by omega⟩
    have hst := hsv.out
    rw [ShaM.sieve] at hst
    by_cases h4 : n < 400
    · have t4 : (n : Int) < 400 := by omega
      by_cases hlm : out.length < many
      · have t5 : decide (out.length < many) = true := decide_eq_true hlm
        rw [if_pos ⟨h4, hlm⟩] at hst
        have HST := hid hst
        clear hst hsv HX
        have q1 : wr.cell? ⟨w.heap.size, n, none⟩ = some (.bool (ShaM.mark out n)) := by rw [hbl.cell, get_bls h4]
        cases hmk : ShaM.mark out n with
        | true =>
          rw [hmk] at q1
          have hq := HST.out
          rw [if_pos hmk] at hq
          have HQ := hid hq
          clear hq hmk HST
          have HBL := hid hbl
          clear hbl
          go_wp2_with fail
          go_roundw
          case rel => exact ⟨n + 1, f, out, A, cap, by omega, by omega, by omega, by go_num, rfl, by omega, hown, HBL.out, hbel, HQ⟩
          case measure => simp [intOf] <;> omega
        | false =>
          rw [hmk] at q1
          have hq := HST.out
          rw [if_neg (by rw [hmk]; decide)] at hq
          have HQ := hid hq
          clear hq hmk HST
          have hwz := hbel.out.size
          have HBL := hid hbl
          clear hbl
          go_wp2_with (at_builtin; (with_reducible apply wappN elt64); rfl; rfl; exact hown.out.alloc _; exact nums_one (x := n) (B := wr.heap.size + 1) rfl (Nat.lt_succ_self _); rfl; omega; (simp; omega); intro v' w4 hown4 hgr4)
          have b4 := (HBL.out.alloc (.cells #[.int .u64 (n : Nat)] 41)).grown hgr4 hown.out (Nat.lt_succ_self _)
          have bel4 := below_grown (hbel.out.alloc hwz (.cells #[.int .u64 (n : Nat)] 41)) hgr4 hown.out (Nat.le_succ _) (Nat.le_refl _)
          have ho1 : (out ++ [n]).length ≤ n + 1 := by rw [List.length_append, List.length_singleton]; omega
          rw [bls_ext (g := markTo out n (n * 1)) fun k _ => by rw [Nat.mul_one, markTo_zero]] at b4
          have O4 := hid hown4
          have BEL4 := hid bel4
          have B4 := hid b4
          clear hown4 bel4 b4 hgr4 HBL q1
          go_loopw [6] (fun v w5 => ∃ c m : Nat, 1 ≤ c ∧ m = n * c ∧ m < 800 ∧ v = .int .i64 m ∧ Hid (Own 41 .u64 w5 (w.heap.size + 1) v' (out ++ [n])) ∧ Blk w5 w.heap.size 4 (bls 400 (markTo out n m)) ∧ Hid (Below w.heap.size w w5)) (fun v _ => 800 - (intOf v).toNat)
          case atStart => exact ⟨1, n, by omega, by rw [Nat.mul_one], by omega, rfl, O4, by have := B4.out; rwa [Nat.mul_one] at this, BEL4⟩
          case round =>
            clear O4 BEL4 B4
            obtain ⟨c, m, hc, hm2, hm8, rfl, O5, b5, BEL5⟩ := hrel
            have HM2 := hid hm2
            clear hm2
            by_cases h5 : m < 400
            · have t6 : (m : Int) < 400 := by omega
              have q2 := b5.frozen m
              have q3 : wr.cell? ⟨w.heap.size, m, none⟩ = some (.bool (markTo out n m m)) := by rw [b5.cell, get_bls h5]
              have B5 := hid b5
              clear b5
              go_wp2_with fail
              go_roundw
              case rel =>
                refine ⟨c + 1, m + n, by omega, by rw [HM2.out, Nat.mul_succ], by omega, by go_num, hid ?_, ?_, hid (BEL5.out.setCell (Nat.le_refl _) _)⟩
                · refine ⟨O5.out.1, ?_⟩
                  rcases O5.out.2 with h' | ⟨g, cap', cur, hv, hB, hg, hr⟩
                  · exact .inl h'
                  · exact .inr ⟨g, cap', cur, hv, hB, Blk.setCell_other (t := 41) (cs := cur) hg (by show w.heap.size ≠ g; omega) _, hr⟩
                · have h := B5.out.setCell_same m (.bool true)
                  rw [bls_set, bls_ext (g := markTo out n (m + n)) fun k _ => by rw [HM2.out]; exact markTo_step out (by omega) hc k] at h
                  exact h
              case measure => simp [intOf] <;> omega
            · have t6 : decide ((m : Int) < 400) = false := by simp; omega
              rw [bls_ext (g := ShaM.mark (out ++ [n])) fun k hk => markTo_full out n m k (by omega)] at b5
              have B5 := hid b5
              clear b5
              obtain ⟨A2, c2, e1, _, _, _⟩ := O5.out.any
              subst e1
              go_wp2_with fail
              go_roundw
              case rel => exact ⟨n + 1, f, out ++ [n], A2, c2, by omega, by omega, by omega, by go_num, rfl, ho1, O5, B5.out, BEL5, HQ⟩
              case measure => simp [intOf] <;> omega
      · have t5 : decide (out.length < many) = false := decide_eq_false hlm
        rw [if_neg (by omega)] at hst
        have HE := hid (HX.out hst)
        clear hst HX hsv hbl
        go_wp2_with fail
        go_ret
        exact HE.out
    · have t4 : decide ((n : Int) < 400) = false := by simp; omega
      rw [if_neg (by omega)] at hst
      have HE := hid (HX.out hst)
      clear hst HX hsv hbl
      go_wp2_with fail
      go_ret
      exact HE.out
/-- A slice of the numbers l that was made anew. -/
def Fresh (k : IntKind) (w w' : World) (e : Ending) (l : List Nat) : Prop := ∃ A cap, e = .returned (.slice A l.length cap) ∧ l.length ≤ cap ∧ cap ≤ maxLen ∧ Nums k w' w'.heap.size A l ∧ Below w.heap.size w w'
theorem Own.fresh {e : TypeId} {k : IntKind} {w0 w : World} {B : Nat} {v : Value} {l : List Nat} (h : Own e k w B v l) (hb : Below w0.heap.size w0 w) : Fresh k w0 w (.returned v) l := by
  obtain ⟨A, cap, rfl, h1, h2, h3⟩ := h.any
  exact ⟨A, cap, rfl, h1, h2, h3, hb⟩
set_option maxHeartbeats 400000 in
set_option maxRecDepth 100000 in
theorem roots_any (many : Nat) (cube : Bool) (hm : many ≤ 1000) (hp : ∀ p ∈ ShaM.primesN many, p < 400) (hn : (ShaM.primesN many).length ≤ 1000) (w : World) :
    Calls Tryd.prog 55 #[.int .i64 many, .bool cube] w fun e w' => Fresh .u32 w w' e (ShaM.rootsN many cube) := by
  unfold ShaM.rootsN
  have M := primes_any many hm w
  generalize ShaM.primesN many = P at *
  have HP := hid hp
  clear hp
  obtain ⟨m, hmP⟩ : ∃ m, m = P.length := ⟨_, rfl⟩
  rw [← hmP] at M hn
  go_enter Tryd.func55, Tryd.ntmps55
  have HM0 := hid hmP
  clear hmP
  go_wp2_with fail
  refine M.mono ?_
  rintro e w1 ⟨A, cap, rfl, h1, h2, h3, h4⟩
  have hmP := HM0.out
  clear M
  have H3 := hid h3
  have H4 := hid h4
  have HM := hid hmP
  clear h3 h4 hmP
  go_wp2_with fail
  go_loopw [6, 7] (fun u v wr => ∃ (i : Nat) (vo : Value), i ≤ m ∧ v = .int .i64 i ∧ u = vo ∧ Hid (Own 65 .u32 wr w1.heap.size vo ((P.take i).map fun p => ShaM.rootN p cube 38 0 % 4294967296)) ∧ Hid (Below w1.heap.size w1 wr)) (fun _ v _ => m - (intOf v).toNat)
  case atStart => exact ⟨0, _, Nat.zero_le _, rfl, rfl, hid Own.nil, hid (Below.refl _ _)⟩
  case round =>
    obtain ⟨i, vo, hi, rfl, rfl, ho, hb⟩ := hrel
    by_cases hlt : i < m
    · have ti : (i : Int) < (m : Int) := by omega
      have hiP : i < P.length := by rw [← HM.out]; exact hlt
      obtain ⟨b, o, rfl, hB, hr⟩ := H3.out (by omega)
      have q1 : wr.cell? ⟨b, o + i, none⟩ = some (.int .u64 (P.getD i 0 : Nat)) := (hb.out.cell (p := ⟨b, o + i, none⟩) hB).trans (hr i hiP)
      have hpl : P.getD i 0 < 400 := by rw [nums_at hiP]; exact HP.out _ (List.getElem_mem hiP)
      obtain ⟨p, hpp⟩ : ∃ p, p = P.getD i 0 := ⟨_, rfl⟩
      rw [← hpp] at q1 hpl
      have HPP := hid hpp
      have hsz := hb.out.size
      have hlen : ((P.take i).map fun p => ShaM.rootN p cube 38 0 % 4294967296).length = i := by rw [List.length_map, List.length_take]; omega
      have HLEN := hid hlen
      clear hpp hr hlen
      go_wp2_with fail
      refine (root_any p cube (by omega) wr).mono ?_
      rintro e w' ⟨rfl, rfl⟩
      generalize hR : ShaM.rootN p cube 38 0 % 4294967296 = R
      have HR := hid hR
      clear hR q1
      go_wp2_with (at_builtin; (with_reducible apply wappN elt32); rfl; rfl; exact ho.out.alloc _; exact nums_one (x := R) (B := wr.heap.size + 1) rfl (Nat.lt_succ_self _); rfl; (rw [HLEN.out]; omega); (simp; omega); intro v' w4 hown4 hgr4)
      have bel4 := below_grown (hb.out.alloc hsz (.cells #[.int .u32 (R : Nat)] 65)) hgr4 ho.out (Nat.le_refl _) (Nat.le_refl _)
      go_roundw
      case rel =>
        refine ⟨i + 1, v', by omega, by go_num, rfl, hid ?_, hid bel4⟩
        rw [List.take_succ_eq_append_getElem hiP, List.map_append, List.map_singleton, ← nums_at hiP, ← HPP.out, HR.out]
        exact hown4
      case measure => simp [intOf] <;> omega
    · obtain rfl : i = m := by omega
      have hfin := ho.out.fresh (H4.out.trans (hb.out.mono H4.out.size))
      rw [HM.out, List.take_length] at hfin
      have HF := hid hfin
      clear hfin ho
      go_wp2_with fail
      go_ret
      exact HF.out
theorem salts_any (w : World) : Calls Tryd.prog 55 #[.int .i64 64, .bool true] w fun e w' => Fresh .u32 w w' e ShaM.salts := by
  have h := roots_any 64 true (by omega) (by rw [ShaM.primes_64]; decide) (by rw [ShaM.primes_64]; decide) w
  rw [ShaM.roots_64] at h
  exact h
theorem seeds_any (w : World) : Calls Tryd.prog 55 #[.int .i64 8, .bool false] w fun e w' => Fresh .u32 w w' e [ShaM.seeds.a, ShaM.seeds.b, ShaM.seeds.c, ShaM.seeds.d, ShaM.seeds.e, ShaM.seeds.f, ShaM.seeds.g, ShaM.seeds.h] := by
  have h := roots_any 8 false (by omega) (by rw [ShaM.primes_8]; decide) (by rw [ShaM.primes_8]; decide) w
  rw [ShaM.roots_8] at h
  exact h
end Go.Proofs.YtmbhibilmedjmaaDoor
set_option maxRecDepth 100000
namespace Go.Proofs.YtmbhibilmedjmaaDoor
open Go.ChangeShapes Go.WideShapes Go.ChangeAt Go.RowKit
theorem toList_zeroCells_one (z : Value) (n : Nat) : (Builtin.zeroCells #[z] n).toList = List.replicate n z := by
  apply List.ext_getElem?
  intro j
  by_cases hj : j < n
  · simp [Builtin.zeroCells, hj, Nat.mod_one]
  · simp [Builtin.zeroCells, hj]
theorem nums_zeros (k : IntKind) (n : Nat) : nums k (List.replicate n 0) = List.replicate n (.int k 0) := by simp [nums]
theorem run_appZ {S e t : TypeId} {k : IntKind} (E : Elt S e k) (hti : Tryd.prog.underlying t = some (.int .i64)) {w : World} {B g : Nat} {l : List Nat} (ty : TypeId) (n : Nat) (hn : n ≤ 1000) (hll : 0 < l.length) (hl : l.length ≤ 1000)
    (hown : Own e k w B (.slice (some ⟨g, 0, none⟩) l.length l.length) l) (hB : B ≤ w.heap.size) :
    ∃ v' w', (Builtin.append_ #[S, t] ty #[.slice (some ⟨g, 0, none⟩) l.length l.length, .int .i64 (n : Int)]).run Tryd.prog w = .ok v' w' ∧ Own e k w' B v' (l ++ List.replicate n 0) ∧ w.grownBy w' none := by
  obtain ⟨i, hi, hz, h1, h2⟩ := E.inf
  have hw : IntKind.i64.wrap (n : Int) = (n : Int) := IntWalk.i64_in _ (by omega)
  have h48 : ¬ ((281474976710656 : Int) < (n : Int) * (i.bytes : Int)) := by
    have h3 : n * i.bytes ≤ 1000 * 8 := Nat.mul_le_mul hn h2
    have h4 : (n : Int) * (i.bytes : Int) = ((n * i.bytes : Nat) : Int) := by simp
    rw [h4]; omega
  have hn0 : ¬ ((n : Int) < 0) := by omega
  by_cases h0 : n = 0
  · subst h0
    refine ⟨_, w, ?_, by rw [List.replicate_zero, List.append_nil]; exact hown, ⟨rfl, rfl, rfl, Nat.le_refl _, fun _ _ _ => rfl⟩⟩
    have hw0 : IntKind.i64.wrap 0 = 0 := by decide
    simp [Builtin.append_, run_underlying E.und, run_underlying hti, sizeOf, typeInfo, hi, asInt, asIntOf, storeCells, hw0]
  · have hg : ¬ (l.length + n ≤ l.length) := by omega
    have h63' : ¬ (9223372036854775807 < ((l.length : Int) + (n : Int))) := by omega
    have hfit : Builtin.nextslicecap (l.length + n) l.length * i.bytes ≤ 281474976710656 := growslice_fits (by omega) (Nat.le_trans (Nat.mul_le_mul (show l.length + n ≤ 2000 by omega) h2) (by omega))
    have h48' : ¬ (281474976710656 < Builtin.nextslicecap (l.length + n) l.length * i.bytes) := by omega
    have holds : ∀ j u, (nums k l)[j]? = some u → w.cell? ((⟨g, 0, none⟩ : Addr).add j) = some u := hown.cells (g := g) rfl
    have hfo := run_firstCells_some (P := Tryd.prog) w.drew i.size l.length ⟨g, 0, none⟩ l.length l.length (nums k l) (by rw [nums_length, h1, Nat.mul_one]) (by simpa using holds)
    have hgc := grownCap_ge w (l.length + n) l.length e
    have hgm := grownCap_le_maxLen w (l.length + n) l.length e (by unfold maxLen; omega)
    refine ⟨.slice (some ⟨w.heap.size, 0, none⟩) (l.length + n) (grownCap w (l.length + n) l.length e),
      w.drew.alloc (.cells ((nums k l).toArray ++ Builtin.zeroCells #[.int k 0] n ++ Builtin.zeroCells #[.int k 0] (grownCap w (l.length + n) l.length e - (l.length + n))) e), ?_, ?_, ⟨rfl, rfl, rfl, by simp, fun _ hj _ => heap_alloc_old w.drew _ hj⟩⟩
    · simp [Builtin.append_, run_underlying E.und, run_underlying hti, sizeOf, typeInfo, zeroValue, hi, hz, asInt, asIntOf, hw, h48, hn0, hg, h0, h63', h48', h1, Question.forced, newRow, grownCap, Value.cells]
      rw [h1] at hfo
      rw [hfo]
      simp [Result.andThen]
    · unfold Own
      rw [List.length_append, List.length_replicate, nums_append, nums_zeros]
      refine ⟨by simp [nums_length], .inr ⟨w.heap.size, _, _, rfl, hB, heap_alloc_new w.drew _, hgc, hgm, ?_, ?_⟩⟩
      · simp only [Array.size_append, List.size_toArray, size_zeroCells, nums_length]
        simp; omega
      · simp only [Array.toList_append, List.append_assoc, toList_zeroCells_one]
        rw [← List.append_assoc, List.take_left' (by simp [nums_length])]
/-- A literal of one number is a slice of the call's own, and full. -/
theorem Own.lit {e : TypeId} {k : IntKind} (w : World) {B x : Nat} {v : Value} (h : v = .int k (x : Nat)) (hB : B ≤ w.heap.size) : Own e k (w.alloc (.cells #[v] e)) B (.slice (some ⟨w.heap.size, 0, none⟩) 1 1) [x] := by
  subst h
  exact ⟨rfl, .inr ⟨w.heap.size, 1, #[.int k (x : Nat)], rfl, hB, heap_alloc_new w _, Nat.le_refl _, by unfold maxLen; omega, rfl, rfl⟩⟩
theorem wappZ {ops : Array Oper} {Q : Exit → Act → World → Prop} {a : Act} {w : World} {rest : List Oper} {dst : Option Tmp} {ty : TypeId} {pos : String} {after : Array Edge} {s x : Operand} {B g n : Nat} {l : List Nat} {S e t : TypeId} {k : IntKind}
    (E : Elt S e k) (hti : Tryd.prog.underlying t = some (.int .i64)) (hs : a.eval s = .slice (some ⟨g, 0, none⟩) l.length l.length) (hx : a.eval x = .int .i64 (n : Int)) (hown : Own e k w B (.slice (some ⟨g, 0, none⟩) l.length l.length) l) (hn : n ≤ 1000) (hll : 0 < l.length) (hl : l.length ≤ 1000) (hB : B ≤ w.heap.size)
    (h : ∀ v' w', Own e k w' B v' (l ++ List.replicate n 0) → w.grownBy w' none → wpList Tryd.prog ops Q rest (a.put dst v') w') :
    wpList Tryd.prog ops Q (⟨dst, .call { callee := .builtin .append, args := #[s, x], argTypes := #[S, t] }, ty, pos, after, none⟩ :: rest) a w := by
  obtain ⟨v', w', hr, h1, h2⟩ := run_appZ E hti ty n hn hll hl hown hB
  refine wpList_plain rfl fun K hK => ?_
  unfold Oper.wp execOp
  simp only [resolve, invoke, builtin, Sem.run_bind, Sem.run_pure, Result.andThen_ok, List.map_toArray, List.map_cons, List.map_nil, hs, hx, hr]
  exact hK _ _ (h v' w' h1 h2)
end Go.Proofs.YtmbhibilmedjmaaDoor
set_option maxRecDepth 100000
namespace Go.Proofs.YtmbhibilmedjmaaDoor
open Go.ChangeShapes Go.WideShapes Go.ChangeAt Go.RowKit
attribute [local go_sem] Gives
theorem under_int : Tryd.prog.underlying 3 = some (.int .i64) := Tryd.underlying3
theorem count8_all (x : Nat) : (ShaM.count8 x).drop (8 - 8) = ShaM.count8 x := rfl
set_option maxHeartbeats 400000 in
set_option maxRecDepth 100000 in
theorem tail_any (n : Nat) (hn : n ≤ 1000000) (w : World) :
    Calls Tryd.prog 54 #[.int .i64 n] w fun e w' => Fresh .u8 w w' e (ShaM.tail n) := by
  obtain ⟨z, hz⟩ : ∃ z, z = ShaM.zeros n := ⟨_, rfl⟩
  have hz64 : z < 64 := by rw [hz]; unfold ShaM.zeros; omega
  have hz2 : z = (64 - (n + 9) % 64) % 64 := hz
  have htl : ShaM.tail n = (128 :: List.replicate z 0) ++ ShaM.count8 (8 * n) := by rw [hz]; rfl
  rw [htl]
  have HZ := hid hz2
  clear hz htl hz2
  go_enter Tryd.func54, Tryd.ntmps54
  by_cases h0 : (n + 9) % 64 = 0
  · have hz0 : z = 0 := by have := HZ.out; omega
    have t0 : ((n : Int) + 9) % 64 = 0 := by omega
    clear HZ h0
    subst hz0
    go_upto_region 5 with (at_builtin; (with_reducible apply wappZ elt8 under_int (l := [128]) (n := 0) (g := w.heap.size)); rfl; rfl; exact Own.lit w rfl (Nat.le_refl _); omega; decide; decide; (simp); intro v1 w1 o1 g1)
    have b1 := below_none ((Below.refl w.heap.size w).alloc (Nat.le_refl _) (.cells #[.int .u8 128] 5)) g1 (Nat.le_refl _)
    clear g1
    obtain ⟨A1, c1, e1, _, _, _⟩ := o1.any
    generalize hN1 : ([128] ++ List.replicate 0 0).length = N1 at e1
    subst e1
    have HN1 := hid hN1
    clear hN1
    have O1 := hid o1
    have B1 := hid b1
    clear o1 b1
    go_wp2_with fail
    go_loopw [5, 6, 7] (fun x u v wr => ∃ (i X : Nat) (vs : Value), i ≤ 8 ∧ v = .int .i64 i ∧ x = .int .u64 X ∧ X ≤ 8000000 ∧ Hid (X = 8 * n / 256 ^ i) ∧ u = vs ∧ Hid (Own 5 .u8 wr w1.heap.size vs ((ShaM.count8 (8 * n)).drop (8 - i))) ∧ Hid (Below w1.heap.size w1 wr)) (fun _ _ v _ => 8 - (intOf v).toNat)
    case atStart => exact ⟨0, 8 * n, _, by omega, rfl, by go_num, by omega, hid (by simp), rfl, hid (by rw [List.drop_of_length_le (by rw [ShaM.count8_length]; omega)]; exact Own.nil), hid (Below.refl _ _)⟩
    case round =>
      obtain ⟨i, X, vs, hi, rfl, rfl, hX, hXe, rfl, ho, hb⟩ := hrel
      have hsz := hb.out.size
      by_cases hlt : i < 8
      · have ti : (i : Int) < 8 := by omega
        have hdr := ShaM.count8_drop (8 * n) hlt
        rw [← hXe.out] at hdr
        have hX2 : X / 256 = 8 * n / 256 ^ (i + 1) := by rw [hXe.out, Nat.div_div_eq_div_mul, Nat.pow_succ]
        have HX2 := hid hX2
        have HDR := hid hdr
        have hl8 : ((ShaM.count8 (8 * n)).drop (8 - i)).length = i := by rw [List.length_drop, ShaM.count8_length]; omega
        have HL8 := hid hl8
        clear hX2 hdr hl8
        generalize hD : (ShaM.count8 (8 * n)).drop (8 - i) = D at *
        have HD := hid hD
        clear hD
        rcases ho.out.form with ⟨e2, e3⟩ | ⟨g2, c2, e2, _, _, _, _, hN⟩
        · subst e2
          have E3 := hid e3
          clear e3
          go_wp2_with (at_builtin; (with_reducible apply wappN_none elt8); rfl; rfl; exact Own.lit wr (x := X % 256) (by simp) (B := w1.heap.size) hsz)
          go_roundw
          case rel => exact ⟨i + 1, X / 256, _, by omega, by go_num, by go_num, by omega, HX2, rfl, hid (by rw [HDR.out, E3.out]; exact Own.lit wr (by simp) hsz), hid (hb.out.alloc hsz _)⟩
          case measure => simp [intOf] <;> omega
        · subst e2
          have HN := hid hN
          clear hN
          go_wp2_with (at_builtin; (with_reducible apply wappN elt8); rfl; rfl; exact Own.lit wr (x := X % 256) (by simp) (B := w1.heap.size) hsz; exact (HN.out.below ((Below.refl wr.heap.size wr).alloc (Nat.le_refl _) _) (Nat.le_refl _)); rfl; (rw [HL8.out]; simp; omega); (simp; omega); intro v' w4 o4 g4)
          have b4 := below_grown (hb.out.alloc hsz (.cells #[.int .u8 (X % 256 : Nat)] 5)) g4 (Own.lit (e := 5) (k := .u8) wr (x := X % 256) rfl hsz) (Nat.le_refl _) (Nat.le_refl _)
          go_roundw
          case rel => exact ⟨i + 1, X / 256, v', by omega, by go_num, by go_num, by omega, HX2, rfl, hid (by rw [HDR.out]; exact o4), hid b4⟩
          case measure => simp [intOf] <;> omega
      · obtain rfl : i = 8 := by omega
        have O1' := hid (O1.out.below hb.out)
        have ho8 := ho.out
        rw [show (ShaM.count8 (8 * n)).drop (8 - 8) = ShaM.count8 (8 * n) from rfl] at ho8
        have B8 := B1.out.trans (hb.out.mono B1.out.size)
        have HB8 := hid B8
        rcases ho8.form with ⟨e2, e3⟩ | ⟨g2, c2, e2, _, _, _, _, hN⟩
        · exact absurd e3 (by rw [← List.length_eq_zero_iff, ShaM.count8_length]; omega)
        · subst e2
          have HN := hid hN
          have hbw := B8.size
          clear hN ho8 B8
          go_wp2_with (at_builtin; (with_reducible apply wappN elt8); rfl; rfl; exact O1'.out; exact HN.out; (first | rfl | exact ShaM.count8_length _); (simp [ShaM.count8_length] <;> omega); exact hbw; intro v' w4 o4 g4)
          have b4 := below_grown HB8.out g4 O1'.out (Nat.le_refl _) (Nat.le_refl _)
          go_ret
          exact o4.fresh b4
  · have t0 : 64 - ((n : Int) + 9) % 64 = (z : Int) := by have := HZ.out; omega
    have t1 : ((z : Int) == 64) = false := by rw [beq_eq_false_iff_ne]; omega
    clear HZ h0
    go_upto_region 5 with (at_builtin; (with_reducible apply wappZ elt8 under_int (l := [128]) (n := z) (g := w.heap.size)); rfl; rfl; exact Own.lit w rfl (Nat.le_refl _); omega; decide; decide; (simp); intro v1 w1 o1 g1)
    have b1 := below_none ((Below.refl w.heap.size w).alloc (Nat.le_refl _) (.cells #[.int .u8 128] 5)) g1 (Nat.le_refl _)
    clear g1
    obtain ⟨A1, c1, e1, _, _, _⟩ := o1.any
    generalize hN1 : ([128] ++ List.replicate z 0).length = N1 at e1
    subst e1
    have HN1 := hid hN1
    clear hN1
    have O1 := hid o1
    have B1 := hid b1
    clear o1 b1
    go_wp2_with fail
    go_loopw [5, 6, 7] (fun x u v wr => ∃ (i X : Nat) (vs : Value), i ≤ 8 ∧ v = .int .i64 i ∧ x = .int .u64 X ∧ X ≤ 8000000 ∧ Hid (X = 8 * n / 256 ^ i) ∧ u = vs ∧ Hid (Own 5 .u8 wr w1.heap.size vs ((ShaM.count8 (8 * n)).drop (8 - i))) ∧ Hid (Below w1.heap.size w1 wr)) (fun _ _ v _ => 8 - (intOf v).toNat)
    case atStart => exact ⟨0, 8 * n, _, by omega, rfl, by go_num, by omega, hid (by simp), rfl, hid (by rw [List.drop_of_length_le (by rw [ShaM.count8_length]; omega)]; exact Own.nil), hid (Below.refl _ _)⟩
    case round =>
      obtain ⟨i, X, vs, hi, rfl, rfl, hX, hXe, rfl, ho, hb⟩ := hrel
      have hsz := hb.out.size
      by_cases hlt : i < 8
      · have ti : (i : Int) < 8 := by omega
        have hdr := ShaM.count8_drop (8 * n) hlt
        rw [← hXe.out] at hdr
        have hX2 : X / 256 = 8 * n / 256 ^ (i + 1) := by rw [hXe.out, Nat.div_div_eq_div_mul, Nat.pow_succ]
        have HX2 := hid hX2
        have HDR := hid hdr
        have hl8 : ((ShaM.count8 (8 * n)).drop (8 - i)).length = i := by rw [List.length_drop, ShaM.count8_length]; omega
        have HL8 := hid hl8
        clear hX2 hdr hl8
        generalize hD : (ShaM.count8 (8 * n)).drop (8 - i) = D at *
        have HD := hid hD
        clear hD
        rcases ho.out.form with ⟨e2, e3⟩ | ⟨g2, c2, e2, _, _, _, _, hN⟩
        · subst e2
          have E3 := hid e3
          clear e3
          go_wp2_with (at_builtin; (with_reducible apply wappN_none elt8); rfl; rfl; exact Own.lit wr (x := X % 256) (by simp) (B := w1.heap.size) hsz)
          go_roundw
          case rel => exact ⟨i + 1, X / 256, _, by omega, by go_num, by go_num, by omega, HX2, rfl, hid (by rw [HDR.out, E3.out]; exact Own.lit wr (by simp) hsz), hid (hb.out.alloc hsz _)⟩
          case measure => simp [intOf] <;> omega
        · subst e2
          have HN := hid hN
          clear hN
          go_wp2_with (at_builtin; (with_reducible apply wappN elt8); rfl; rfl; exact Own.lit wr (x := X % 256) (by simp) (B := w1.heap.size) hsz; exact (HN.out.below ((Below.refl wr.heap.size wr).alloc (Nat.le_refl _) _) (Nat.le_refl _)); rfl; (rw [HL8.out]; simp; omega); (simp; omega); intro v' w4 o4 g4)
          have b4 := below_grown (hb.out.alloc hsz (.cells #[.int .u8 (X % 256 : Nat)] 5)) g4 (Own.lit (e := 5) (k := .u8) wr (x := X % 256) rfl hsz) (Nat.le_refl _) (Nat.le_refl _)
          go_roundw
          case rel => exact ⟨i + 1, X / 256, v', by omega, by go_num, by go_num, by omega, HX2, rfl, hid (by rw [HDR.out]; exact o4), hid b4⟩
          case measure => simp [intOf] <;> omega
      · obtain rfl : i = 8 := by omega
        have O1' := hid (O1.out.below hb.out)
        have ho8 := ho.out
        rw [show (ShaM.count8 (8 * n)).drop (8 - 8) = ShaM.count8 (8 * n) from rfl] at ho8
        have B8 := B1.out.trans (hb.out.mono B1.out.size)
        have HB8 := hid B8
        rcases ho8.form with ⟨e2, e3⟩ | ⟨g2, c2, e2, _, _, _, _, hN⟩
        · exact absurd e3 (by rw [← List.length_eq_zero_iff, ShaM.count8_length]; omega)
        · subst e2
          have HN := hid hN
          have hbw := B8.size
          clear hN ho8 B8
          go_wp2_with (at_builtin; (with_reducible apply wappN elt8); rfl; rfl; exact O1'.out; exact HN.out; (first | rfl | exact ShaM.count8_length _); (simp [ShaM.count8_length] <;> omega); exact hbw; intro v' w4 o4 g4)
          have b4 := below_grown HB8.out g4 O1'.out (Nat.le_refl _) (Nat.le_refl _)
          go_ret
          exact o4.fresh b4
end Go.Proofs.YtmbhibilmedjmaaDoor
