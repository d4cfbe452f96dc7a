/-
  The contract of sha.Of over this translation; Text and Of undo each other.
-/
import Derived.Test.YtdbabldcfohhmaaDoorShaAwake
import Derived.Lib.IndexLaws
namespace Go.Proofs.YtdbabldcfohhmaaDoor
open Go.ChangeShapes Go.WideShapes Go.ChangeAt Go.RowKit
attribute [local go_sem] Gives
def digitL : List UInt8 := [48, 49, 50, 51, 52, 53, 54, 55, 56, 57, 97, 98, 99, 100, 101, 102]
/-- The j-th byte of a string. -/
def ch (s : ByteArray) (j : Nat) : Nat := (s.data.toList.getD j 0).toNat
theorem run_idxs (s : ByteArray) {j : Nat} (hj : j < s.size) (w : World) : (Instr.index 9 (.string s) (.int .i64 j)).run Tryd.prog w = .ok (.int .u8 (ch s j : Nat)) w := by
  have h1 : (0 : Int) ≤ (j : Int) := by omega
  have h2 : j < s.data.toList.length := by simpa using hj
  simp [Instr.index, run_underlying Tryd.underlying9, asIntOf, go_sem, ch, hj, List.getD_eq_getElem?_getD]
  rfl
/-- A byte's value as a digit; -1, if it is none. -/
def dval (c : Nat) : Int := Lib.indexByte digitL (Int.toNat (c : Int)).toUInt8
theorem idx_any (c : Nat) (w : World) : Calls Tryd.prog 30 #[.string ⟨#[48, 49, 50, 51, 52, 53, 54, 55, 56, 57, 97, 98, 99, 100, 101, 102]⟩, .int .u8 c] w fun e w' => e = .returned (.int .i64 (dval c)) ∧ w = w' :=
  (Tryd.strings_IndexByte _ _ w).mono fun _ _ ⟨he, hw⟩ => ⟨he, hw.symm⟩
theorem dval_fin : ∀ c : Fin 256, dval c.val = -1 ∨ (0 ≤ dval c.val ∧ dval c.val < 16 ∧ hexd (dval c.val).toNat = c.val) := by decide +kernel
theorem dval_hex : ∀ h : Fin 16, dval (hexd h.val) = (h.val : Int) := by decide +kernel
theorem ch_lt (s : ByteArray) (j : Nat) : ch s j < 256 := UInt8.toNat_lt _
theorem dval_ch (s : ByteArray) (j : Nat) : dval (ch s j) = -1 ∨ (0 ≤ dval (ch s j) ∧ dval (ch s j) < 16 ∧ hexd (dval (ch s j)).toNat = ch s j) := dval_fin ⟨ch s j, ch_lt s j⟩
/-- A digit's value. -/
def dn (s : ByteArray) (j : Nat) : Nat := (dval (ch s j)).toNat
def ofT (s : ByteArray) : Nat → Nat := fun i => dn s (2 * i) * 16 + dn s (2 * i + 1)
/-- The first n bytes. -/
def ofTo (s : ByteArray) (n : Nat) : Nat → Nat := fun i => if i < n then ofT s i else 0
theorem ofTo_zero (s : ByteArray) : ofTo s 0 = fun _ => 0 := funext fun i => by simp [ofTo]
theorem ofTo_step (s : ByteArray) (n : Nat) : (fun j => if j = n then ofT s n else ofTo s n j) = ofTo s (n + 1) := funext fun j => by
  unfold ofTo
  by_cases h : j = n
  · subst h; simp
  · simp only [h, if_false]
    by_cases h2 : j < n
    · rw [if_pos h2, if_pos (by omega)]
    · rw [if_neg h2, if_neg (by omega)]
theorem ofTo_full (s : ByteArray) : tag (ofTo s 32) = tag (ofT s) := tag_ext fun k hk => by unfold ofTo; rw [if_pos hk]
theorem or_dig : ∀ h, h < 16 → ∀ l, l < 16 → bits .or .i64 ((h : Nat) * 16 : Int) (l : Nat) = ((h * 16 + l : Nat) : Int) := by decide +kernel
theorem built_tag0 : Tryd.prog.built 34 [] = some (tag fun _ => 0) := by kernel_rfl
section
variable {ops : Array Oper} {Q : Exit → Act → World → Prop} {a : Act} {w : World} {rest : List Oper} {dst : Option Tmp} {ty : TypeId} {pos : String} {after : Array Edge} {g : Nat} {f : Nat → Nat}
theorem bldt0 (h : wpList Tryd.prog ops Q rest (a.put dst (.agg (tag fun _ => 0))) w) :
    wpList Tryd.prog ops Q (⟨dst, .build 34 #[], ty, pos, after, none⟩ :: rest) a w := by
  refine wpList_plain rfl fun K hK => ?_
  have hr := run_build (P := Tryd.prog) w 34 #[] _ built_tag0
  unfold Oper.wp
  simp [execOp, hr, Result.andThen]
  exact hK _ _ h
theorem run_tag_var {t : TypeId} (hb : Blk w g t (tag f)) : (loadVar 34 ⟨g, 0, none⟩).run Tryd.prog w = .ok (.agg (tag f)) w :=
  run_loadVar_row w g t 34 (tag f) (0, 0) _ hb Tryd.underlying34 rfl (info_tag.trans (by rw [size_tag]))
theorem ret_tag2 {fn : Func} {R : Ending → World → Prop} {p t : Tmp} {v : Value} (hr : fn.results = #[.cell p 34, .tmp t]) (hp : a.tmps.getD p undef = .pointer (some ⟨g, 0, none⟩)) (ht : a.tmps.getD t undef = v)
    (hdf : a.defers = []) (hb : Blk w g 34 (tag f)) (hR : R (.returned (.tuple #[.agg (tag f), v])) w) : bodyPost Tryd.prog fn R .ret a w := by
  refine bodyPost_ret ?_ hdf hR
  have hp' : a.tmps[p]?.getD undef = .pointer (some ⟨g, 0, none⟩) := by simpa using hp
  have ht' : a.tmps[t]?.getD undef = v := by simpa using ht
  simp [results, hr, hp', ht', asAddr, run_tag_var hb]
end
set_option maxHeartbeats 400000 in
set_option maxRecDepth 100000 in
theorem of_len (s : ByteArray) (hs : s.size ≠ 64) (w : World) :
    Calls Tryd.prog 16 #[.string s] w fun e w' => e = .returned (.tuple #[.agg (tag fun _ => 0), .bool false]) ∧ Below w.heap.size w w' := by
  have t0 : ((s.size : Int) != 64) = true := by rw [bne_iff_ne]; omega
  go_enter Tryd.func16, Tryd.ntmps16
  go_upto_region 1 with fail
  generalize hw3 : World.alloc w _ = w3
  have b1 : Blk w3 w.heap.size 34 (tag fun _ => 0) := by rw [← hw3]; exact Blk.top zlit_tag rfl
  have hb : Below w.heap.size w w3 := by rw [← hw3]; exact (Below.refl _ _).alloc (Nat.le_refl _) _
  clear hw3
  go_wp2_with (first | ((with_reducible apply bldt0)) | ((with_reducible apply stt); rfl; rfl; exact b1))
  apply ret_tag2 Tryd.results16
  · rfl
  · rfl
  · rfl
  · exact b1.setRow_same _
  exact ⟨rfl, below_setRow hb (Nat.le_refl _) _⟩
/-- What Of answers of 64 bytes. -/
def OfPost (s : ByteArray) (w : World) (e : Ending) (w' : World) : Prop := Below w.heap.size w w' ∧
  ((e = .returned (.tuple #[.agg (tag (ofT s)), .bool true]) ∧ ∀ j, j < 64 → 0 ≤ dval (ch s j)) ∨ (e = .returned (.tuple #[.agg (tag fun _ => 0), .bool false]) ∧ ∃ j, j < 64 ∧ dval (ch s j) = -1))
set_option maxHeartbeats 400000 in
set_option maxRecDepth 100000 in
theorem of_any (s : ByteArray) (hs : s.size = 64) (w : World) : Calls Tryd.prog 16 #[.string s] w (OfPost s w) := by
  have t0 : ((s.size : Int) != 64) = false := by rw [bne_eq_false_iff_eq]; omega
  have HS := hid hs
  clear hs
  go_enter Tryd.func16, Tryd.ntmps16
  go_upto_region 1 with fail
  generalize hw3 : World.alloc w _ = w3
  have b1 : Blk w3 w.heap.size 34 (tag fun _ => 0) := by rw [← hw3]; exact Blk.top zlit_tag rfl
  have hb : Below w.heap.size w w3 := by rw [← hw3]; exact (Below.refl _ _).alloc (Nat.le_refl _) _
  have hlt := b1.lt
  clear hw3
  go_upto_region 4 with fail
  generalize hw4 : World.alloc w3 _ = w4
  have c1 : Blk w4 w.heap.size 34 (tag fun _ => 0) := by rw [← hw4]; exact b1.alloc _
  have c2 : Blk w4 w3.heap.size 34 (tag (ofTo s 0)) := by rw [← hw4, ofTo_zero]; exact Blk.top zlit_tag rfl
  have cb : Below w.heap.size w w4 := by rw [← hw4]; exact hb.alloc hb.size _
  clear hw4 b1 hb
  generalize w3.heap.size = g at *
  clear w3
  go_wp2_with fail
  go_loopw [12] (fun i wr => ∃ k : Nat, k ≤ 32 ∧ i = .int .i64 k ∧ Hid (∀ j, j < 2 * k → 0 ≤ dval (ch s j)) ∧ Blk wr w.heap.size 34 (tag fun _ => 0) ∧ Blk wr g 34 (tag (ofTo s k)) ∧ Below w.heap.size w wr) (fun i _ => 32 - (intOf i).toNat)
  case atStart => exact ⟨0, by omega, rfl, hid fun j hj => by omega, c1, c2, cb⟩
  case round =>
    clear c1 c2 cb
    obtain ⟨k, hk, rfl, hall, c1, c2, cb⟩ := hrel
    by_cases hlk : k < 32
    · have tk : (k : Int) < 32 := by omega
      obtain ⟨j0, hj0⟩ : ∃ j, j = 2 * k := ⟨_, rfl⟩
      obtain ⟨j1, hj1⟩ : ∃ j, j = 2 * k + 1 := ⟨_, rfl⟩
      have E0 := hid (show IntKind.i64.wrap (2 * (k : Int)) = (j0 : Int) from wr_nat (by omega) (by omega))
      have E1 := hid (show IntKind.i64.wrap ((j0 : Int) + 1) = (j1 : Int) from wr_nat (by omega) (by omega))
      have I0 := hid (fun w => run_idxs s (show j0 < s.size by have := HS.out; omega) w)
      have I1 := hid (fun w => run_idxs s (show j1 < s.size by have := HS.out; omega) w)
      have J := hid (And.intro hj0 hj1)
      have C1 := hid c1
      have C2 := hid c2
      have CB := hid cb
      clear c1 c2 cb hj0 hj1
      go_wp2_with fail
      refine wp_region_tail (C := Drew wr) 13 (by kernel_rfl) (by kernel_rfl) (by kernel_rfl) (Drew.refl _) ?_
      simp only [List.take_succ_cons, List.take_zero, List.drop_succ_cons, List.drop_zero]
      apply wpK_val
      · rfl
      · intro w' hw'
        go_simp
        first | exact rfl | exact ⟨rfl, hw'⟩
      simp only [Act.put, List.setIfInBounds_toArray, List.set_cons_succ, List.set_cons_zero]
      apply wpK_val
      · rfl
      · intro w' hw'
        go_simp
        first | exact rfl | exact ⟨rfl, hw'⟩
      simp only [Act.put, List.setIfInBounds_toArray, List.set_cons_succ, List.set_cons_zero]
      apply wpK_val
      · rfl
      · intro w' hw'
        have h1 : _ := E0.out
        go_simp
        first | exact rfl | exact ⟨rfl, hw'⟩
      simp only [Act.put, List.setIfInBounds_toArray, List.set_cons_succ, List.set_cons_zero]
      apply wpK_val
      · rfl
      · intro w' hw'
        have h1 : _ := I0.out
        go_simp
        first | exact rfl | exact ⟨rfl, hw'⟩
      simp only [Act.put, List.setIfInBounds_toArray, List.set_cons_succ, List.set_cons_zero]
      apply wpK_val
      · rfl
      · intro w' hw'
        go_simp
        exact (idx_any (ch s j0) w').mono fun e w'' ⟨he, hb'⟩ => ⟨he, by subst hb'; exact hw'⟩
      simp only [Act.put, List.setIfInBounds_toArray, List.set_cons_succ, List.set_cons_zero]
      apply wpK_val
      · rfl
      · intro w' hw'
        go_simp
        first | exact rfl | exact ⟨rfl, hw'⟩
      simp only [Act.put, List.setIfInBounds_toArray, List.set_cons_succ, List.set_cons_zero]
      apply wpK_val
      · rfl
      · intro w' hw'
        go_simp
        first | exact rfl | exact ⟨rfl, hw'⟩
      simp only [Act.put, List.setIfInBounds_toArray, List.set_cons_succ, List.set_cons_zero]
      apply wpK_val
      · rfl
      · intro w' hw'
        have h1 : _ := E0.out
        go_simp
        first | exact rfl | exact ⟨rfl, hw'⟩
      simp only [Act.put, List.setIfInBounds_toArray, List.set_cons_succ, List.set_cons_zero]
      apply wpK_val
      · rfl
      · intro w' hw'
        have h1 : _ := E1.out
        go_simp
        first | exact rfl | exact ⟨rfl, hw'⟩
      simp only [Act.put, List.setIfInBounds_toArray, List.set_cons_succ, List.set_cons_zero]
      apply wpK_val
      · rfl
      · intro w' hw'
        have h1 : _ := I1.out
        go_simp
        first | exact rfl | exact ⟨rfl, hw'⟩
      simp only [Act.put, List.setIfInBounds_toArray, List.set_cons_succ, List.set_cons_zero]
      apply wpK_val
      · rfl
      · intro w' hw'
        go_simp
        exact (idx_any (ch s j1) w').mono fun e w'' ⟨he, hb'⟩ => ⟨he, by subst hb'; exact hw'⟩
      simp only [Act.put, List.setIfInBounds_toArray, List.set_cons_succ, List.set_cons_zero]
      apply wpK_val
      · rfl
      · intro w' hw'
        go_simp
        first | exact rfl | exact ⟨rfl, hw'⟩
      simp only [Act.put, List.setIfInBounds_toArray, List.set_cons_succ, List.set_cons_zero]
      apply wpK_val
      · rfl
      · intro w' hw'
        go_simp
        first | exact rfl | exact ⟨rfl, hw'⟩
      simp only [Act.put, List.setIfInBounds_toArray, List.set_cons_succ, List.set_cons_zero]
      refine wpK_nil fun w5 hw5 => ?_
      have c1 := hw5.blk C1.out
      have c2 := hw5.blk C2.out
      have cb := hw5.below CB.out
      clear hw5 C1 C2 CB I0 I1 E0 E1
      have bad : ∀ j, j < 64 → dval (ch s j) = -1 → ∃ j, j < 64 ∧ dval (ch s j) = -1 := fun j h1 h2 => ⟨j, h1, h2⟩
      have BAD := hid bad
      clear bad
      rcases dval_ch s j0 with h0 | ⟨p0, q0, r0⟩
      · have B0 := hid (BAD.out j0 (by have := J.out; omega) h0)
        have t1 : decide (dval (ch s j0) < 0) = true := by rw [h0]; rfl
        clear h0
        go_wp2_with (first | ((with_reducible apply bldt0)) | ((with_reducible apply stt); rfl; rfl; exact c1))
        apply ret_tag2 Tryd.results16
        · rfl
        · rfl
        · rfl
        · exact c1.setRow_same _
        exact ⟨below_setRow cb (Nat.le_refl _) _, .inr ⟨rfl, B0.out⟩⟩
      · rcases dval_ch s j1 with h1 | ⟨p1, q1, r1⟩
        · have B0 := hid (BAD.out j1 (by have := J.out; omega) h1)
          have t1 : decide (dval (ch s j0) < 0) = false := by simp; omega
          have t2 : decide (dval (ch s j1) < 0) = true := by rw [h1]; rfl
          clear h1 r0
          go_wp2_with (first | ((with_reducible apply bldt0)) | ((with_reducible apply stt); rfl; rfl; exact c1))
          apply ret_tag2 Tryd.results16
          · rfl
          · rfl
          · rfl
          · exact c1.setRow_same _
          exact ⟨below_setRow cb (Nat.le_refl _) _, .inr ⟨rfl, B0.out⟩⟩
        · clear r0 r1
          have D0 := hid (show dn s j0 = (dval (ch s j0)).toNat from rfl)
          have D1 := hid (show dn s j1 = (dval (ch s j1)).toNat from rfl)
          have G0 := hid p0
          have G1 := hid p1
          obtain ⟨n0, hn0⟩ : ∃ n : Nat, dval (ch s j0) = n := ⟨(dval (ch s j0)).toNat, by omega⟩
          obtain ⟨n1, hn1⟩ : ∃ n : Nat, dval (ch s j1) = n := ⟨(dval (ch s j1)).toNat, by omega⟩
          rw [hn0, hn1]
          have e0 : dn s j0 = n0 := by rw [D0.out, hn0]; rfl
          have e1 : dn s j1 = n1 := by rw [D1.out, hn1]; rfl
          have l0 : n0 < 16 := by omega
          have l1 : n1 < 16 := by omega
          have X0 := hid (And.intro e0 e1)
          have hor := or_dig n0 l0 n1 l1
          clear hn0 hn1 e0 e1 p0 p1 q0 q1 D0 D1
          have k1 := (c2.cell k).trans (get_tag hlk)
          have k3 := c2.frozen k
          have C1 := hid c1
          have C2 := hid c2
          have CB := hid cb
          clear c1 c2 cb
          go_wp2_with fail
          go_roundw
          case rel =>
            obtain ⟨r0, r1⟩ := J.out
            obtain ⟨x0, x1⟩ := X0.out
            refine ⟨k + 1, by omega, by go_num, hid fun j hj => ?_, C1.out.setCell_other (by show g ≠ w.heap.size; omega) _, ?_, CB.out.setCell (by show w.heap.size ≤ g; omega) _⟩
            · by_cases h1 : j < 2 * k
              · exact hall.out j h1
              · by_cases h2 : j = j0
                · rw [h2]; exact G0.out
                · rw [show j = j1 by omega]; exact G1.out
            · have h := C2.out.setCell_same k (.int .u8 ((n0 * 16 + n1 : Nat) : Int))
              rw [tag_set] at h
              have e : ofT s k = n0 * 16 + n1 := by unfold ofT; rw [← r1, ← r0, x0, x1]
              rw [← e, ofTo_step, e] at h
              exact h
          case measure => simp [intOf]; omega
    · have tk : decide ((k : Int) < 32) = false := by simp; omega
      rw [show k = 32 by omega, ofTo_full] at c2
      have HA := hid (fun j (hj : j < 64) => hall.out j (by omega))
      clear hall
      go_wp2_with (first | ((with_reducible apply ldt); rfl; assumption) | ((with_reducible apply stt); rfl; rfl; assumption))
      apply ret_tag2 Tryd.results16
      · rfl
      · rfl
      · rfl
      · exact c1.setRow_same _
      exact ⟨below_setRow cb (Nat.le_refl _) _, .inl ⟨rfl, HA.out⟩⟩
/-- What a digest's text spells. -/
def txt (f : Nat → Nat) : ByteArray := ⟨(hexL f 32).toArray⟩
theorem txt_size (f : Nat → Nat) : (txt f).size = 64 := by
  show (hexL f 32).toArray.size = 64
  rw [List.size_toArray, hexL_length]
theorem hexL_get (f : Nat → Nat) : ∀ n i, i < n → (hexL f n)[2 * i]? = some (UInt8.ofNat (hexd (f i / 16))) ∧ (hexL f n)[2 * i + 1]? = some (UInt8.ofNat (hexd (f i % 16)))
  | 0, i, h => by omega
  | n + 1, i, h => by
    rw [hexL]
    by_cases hi : i < n
    · have ih := hexL_get f n i hi
      rw [List.getElem?_append_left (by rw [hexL_length]; omega), List.getElem?_append_left (by rw [hexL_length]; omega)]
      exact ih
    · obtain rfl : i = n := by omega
      rw [List.getElem?_append_right (by rw [hexL_length]; omega), List.getElem?_append_right (by rw [hexL_length]; omega), hexL_length, Nat.sub_self, show 2 * i + 1 - 2 * i = 1 by omega]
      exact ⟨rfl, rfl⟩
theorem ch_txt (f : Nat → Nat) (hf : ∀ k, f k < 256) {i : Nat} (hi : i < 32) : ch (txt f) (2 * i) = hexd (f i / 16) ∧ ch (txt f) (2 * i + 1) = hexd (f i % 16) := by
  have h := hexL_get f 32 i hi
  have h1 := hexd_lt (h := f i / 16) (by have := hf i; omega)
  have h2 := hexd_lt (h := f i % 16) (Nat.mod_lt _ (by omega))
  unfold ch
  have e : (txt f).data.toList = hexL f 32 := rfl
  rw [e, List.getD_eq_getElem?_getD, List.getD_eq_getElem?_getD, h.1, h.2]
  simp only [Option.getD_some]
  constructor
  · rw [UInt8.toNat_ofNat']; omega
  · rw [UInt8.toNat_ofNat']; omega
/-- P3.6, there and back. -/
theorem of_txt (f : Nat → Nat) (hf : ∀ k, f k < 256) : (∀ j, j < 64 → 0 ≤ dval (ch (txt f) j)) ∧ tag (ofT (txt f)) = tag f := by
  have key : ∀ i, i < 32 → dval (ch (txt f) (2 * i)) = ((f i / 16 : Nat) : Int) ∧ dval (ch (txt f) (2 * i + 1)) = ((f i % 16 : Nat) : Int) := fun i hi => by
    obtain ⟨h1, h2⟩ := ch_txt f hf hi
    rw [h1, h2]
    exact ⟨dval_hex ⟨f i / 16, by have := hf i; omega⟩, dval_hex ⟨f i % 16, Nat.mod_lt _ (by omega)⟩⟩
  refine ⟨fun j hj => ?_, tag_ext fun i hi => ?_⟩
  · obtain ⟨k1, k2⟩ := key (j / 2) (by omega)
    rcases Nat.mod_two_eq_zero_or_one j with h | h
    · rw [show 2 * (j / 2) = j by omega] at k1
      rw [k1]; omega
    · rw [show 2 * (j / 2) + 1 = j by omega] at k2
      rw [k2]; omega
  · obtain ⟨k1, k2⟩ := key i hi
    unfold ofT dn
    rw [k1, k2]
    simp only [Int.toNat_natCast]
    omega
/-- P3.6, back and there. -/
theorem txt_of (s : ByteArray) (hs : s.size = 64) (h : ∀ j, j < 64 → 0 ≤ dval (ch s j)) : txt (ofT s) = s := by
  have hd : ∀ j, j < 64 → dn s j < 16 ∧ hexd (dn s j) = ch s j := fun j hj => by
    rcases dval_ch s j with h0 | ⟨p, q, r⟩
    · have := h j hj; omega
    · exact ⟨by unfold dn; omega, r⟩
  have hf : ∀ i, i < 32 → ofT s i / 16 = dn s (2 * i) ∧ ofT s i % 16 = dn s (2 * i + 1) := fun i hi => by
    have h1 := (hd (2 * i + 1) (by omega)).1
    unfold ofT
    omega
  have hl : hexL (ofT s) 32 = s.data.toList := by
    apply List.ext_getElem?
    intro j
    by_cases hj : j < 64
    · have hg := hexL_get (ofT s) 32 (j / 2) (by omega)
      have hjs : j < s.data.toList.length := by rw [Array.length_toList]; show j < s.size; omega
      have hc : s.data.toList[j]? = some (UInt8.ofNat (ch s j)) := by
        unfold ch
        rw [List.getD_eq_getElem?_getD, List.getElem?_eq_getElem hjs]
        simp
      rw [hc]
      obtain ⟨k1, k2⟩ := hf (j / 2) (by omega)
      rcases Nat.mod_two_eq_zero_or_one j with h2 | h2
      · have := hg.1
        rw [show 2 * (j / 2) = j by omega, k1, show 2 * (j / 2) = j by omega, (hd j hj).2] at this
        exact this
      · have := hg.2
        rw [show 2 * (j / 2) + 1 = j by omega, k2, show 2 * (j / 2) + 1 = j by omega, (hd j hj).2] at this
        exact this
    · rw [List.getElem?_eq_none (by rw [hexL_length]; omega), List.getElem?_eq_none (by rw [Array.length_toList]; show s.size ≤ j; omega)]
  unfold txt
  rw [hl]
end Go.Proofs.YtdbabldcfohhmaaDoor
