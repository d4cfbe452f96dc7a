/-
  The structs hmac.keyed and hmac.message, as values and in memory; contracts of hmac.under, (*hmac.message).goOver over this translation.
-/
import Derived.Test.YtnnhnlabkbjacaaDoorHKey
namespace Go.Proofs.YtnnhnlabkbjacaaDoor
open Go.ChangeShapes Go.WideShapes Go.ChangeAt Go.RowKit
attribute [local go_sem] Gives
/-- A prefix's cells. -/
def preC (f : Nat → Nat) (m : Nat) (b : Bool) (j : Nat) : Value := if j < 8 then .int .u32 (f j : Nat) else if j = 8 then .int .i64 m else .bool b
theorem pre_row (f : Nat → Nat) (m : Nat) (b : Bool) : pre f m b = row 10 (preC f m b) := rfl
theorem preC_one (f : Nat → Nat) (m : Nat) (b : Bool) (j : Nat) : (preC f m b j).oneCell' = true := by
  unfold preC
  by_cases h : j < 8
  · simp only [h, if_true]; rfl
  · simp only [h, if_false]
    by_cases h2 : j = 8
    · simp only [h2, if_true]; rfl
    · simp only [h2, if_false]; rfl
/-- Where all tags under one key begin. -/
def kyd (f g : Nat → Nat) : Array Value := row 20 fun j => if j < 10 then preC f 64 true j else preC g 64 true (j - 10)
theorem size_kyd {f g : Nat → Nat} : (kyd f g).size = 20 := size_row
theorem info_kyd : (Tryd.prog.info? 56).map (·.size) = some 20 := by kernel_rfl
theorem built_kyd (f g : Nat → Nat) : Tryd.prog.built 56 [(0, .agg (pre f 64 true)), (1, .agg (pre g 64 true))] = some (kyd f g) := by kernel_rfl
theorem zlit_kyd : (#[.int .u32 0, .int .u32 0, .int .u32 0, .int .u32 0, .int .u32 0, .int .u32 0, .int .u32 0, .int .u32 0, .int .i64 0, .bool false, .int .u32 0, .int .u32 0, .int .u32 0, .int .u32 0, .int .u32 0, .int .u32 0, .int .u32 0, .int .u32 0, .int .i64 0, .bool false] : Array Value) = row 20 fun j => if j < 10 then preC (fun _ => 0) 0 false j else preC (fun _ => 0) 0 false (j - 10) := by rfl
theorem kyd_one {f g : Nat → Nat} : (kyd f g).all (·.oneCell') = true := row_one fun k _ => by
  by_cases h : k < 10
  · simp only [h, if_true]; exact preC_one _ _ _ _
  · simp only [h, if_false]; exact preC_one _ _ _ _
/-- The message: what was gone through, 64 bytes of which the first n wait. -/
def msg (f : Nat → Nat) (m : Nat) (l : Nat → Nat) (n : Nat) : Array Value := row 75 fun j => if j < 10 then preC f m true j else if j < 74 then .int .u8 (l (j - 10) : Nat) else .int .i64 n
theorem size_msg {f : Nat → Nat} {m : Nat} {l : Nat → Nat} {n : Nat} : (msg f m l n).size = 75 := size_row
theorem info_msg : (Tryd.prog.info? 62).map (·.size) = some 75 := by kernel_rfl
theorem built_msg (f : Nat → Nat) : Tryd.prog.built 62 [(0, .agg (pre f 64 true))] = some (msg f 64 (fun _ => 0) 0) := by kernel_rfl
theorem msg_one {f : Nat → Nat} {m : Nat} {l : Nat → Nat} {n : Nat} : (msg f m l n).all (·.oneCell') = true := row_one fun k _ => by
  by_cases h : k < 10
  · simp only [h, if_true]; exact preC_one _ _ _ _
  · simp only [h, if_false]
    by_cases h2 : k < 74
    · simp only [h2, if_true]; rfl
    · simp only [h2, if_false]; rfl
section
variable {w : World} {g m n : Nat} {t : TypeId} {f k : Nat → Nat} {l : Nat → Nat}
theorem Blk.kydA (h : Blk w g t (kyd f k)) : w.rangeAt g 0 (pre f 64 true).toList := fun j v hj => by
  have hj8 : j < 10 := by have := (List.getElem?_eq_some_iff.1 hj).1; rwa [Array.length_toList, size_pre] at this
  rw [Array.getElem?_toList, pre_row, get_row_lt hj8] at hj
  rw [Nat.zero_add, h.cell]
  unfold kyd
  rw [get_row_lt (by omega), if_pos hj8]
  exact hj
theorem Blk.kydB (h : Blk w g t (kyd f k)) : w.rangeAt g 10 (pre k 64 true).toList := fun j v hj => by
  have hj8 : j < 10 := by have := (List.getElem?_eq_some_iff.1 hj).1; rwa [Array.length_toList, size_pre] at this
  rw [Array.getElem?_toList, pre_row, get_row_lt hj8] at hj
  rw [h.cell]
  unfold kyd
  rw [get_row_lt (by omega), if_neg (by omega), show 10 + j - 10 = j by omega]
  exact hj
theorem Blk.msgA (h : Blk w g t (msg f m l n)) : w.rangeAt g 0 (pre f m true).toList := fun j v hj => by
  have hj8 : j < 10 := by have := (List.getElem?_eq_some_iff.1 hj).1; rwa [Array.length_toList, size_pre] at this
  rw [Array.getElem?_toList, pre_row, get_row_lt hj8] at hj
  rw [Nat.zero_add, h.cell]
  unfold msg
  rw [get_row_lt (by omega), if_pos hj8]
  exact hj
theorem Blk.msgN (h : Blk w g t (msg f m l n)) : w.cell? ⟨g, 74, none⟩ = some (.int .i64 n) := by
  rw [h.cell]; unfold msg; rw [get_row_lt (by omega), if_neg (by omega), if_neg (by omega)]
theorem Blk.msgL (h : Blk w g t (msg f m l n)) {j : Nat} (hj : j < 64) : w.cell? ⟨g, 10 + j, none⟩ = some (.int .u8 (l j : Nat)) := by
  rw [h.cell]; unfold msg; rw [get_row_lt (by omega), if_neg (by omega), if_pos (by omega), show 10 + j - 10 = j by omega]
theorem Blk.msgByt (h : Blk w g t (msg f m l n)) {B : Nat} (hg : g < B) {L : List Nat} (hL : L.length ≤ 64) (he : ∀ j, j < L.length → L.getD j 0 = l j) : Byt w B (some ⟨g, 10, none⟩) L := fun _ =>
  ⟨g, 10, rfl, hg, fun i hi => by rw [h.msgL (by omega), he i hi]⟩
theorem Blk.msgSetN (h : Blk w g t (msg f m l n)) (n' : Nat) : Blk (w.setCell ⟨g, 74, none⟩ (.int .i64 n')) g t (msg f m l n') := by
  have h1 := h.setCell_same 74 (.int .i64 n')
  have e : (msg f m l n).setIfInBounds 74 (.int .i64 n') = msg f m l n' := by
    unfold msg
    rw [row_set]
    refine row_ext fun j hj => ?_
    by_cases h2 : j = 74
    · subst h2; simp
    · rw [if_neg h2]
      by_cases h3 : j < 10
      · rw [if_pos h3, if_pos h3]
      · rw [if_neg h3, if_neg h3, if_pos (by omega), if_pos (by omega)]
  rw [e] at h1
  exact h1
/-- The cells vs laid into a row from place o on. -/
theorem blk_setCells {F : Nat → Value} {N : Nat} : ∀ (vs : List Value) (o : Nat) (w : World) (F : Nat → Value), Blk w g t (row N F) → o + vs.length ≤ N →
    Blk (w.setCells g o vs) g t (row N fun j => if o ≤ j ∧ j < o + vs.length then vs.getD (j - o) undef else F j) ∧ Below g w (w.setCells g o vs)
  | [], o, w, F, h, _ => by
    rw [World.setCells]
    refine ⟨?_, Below.refl _ _⟩
    rw [row_ext (g := F) fun j _ => if_neg (by rw [List.length_nil]; omega)]
    exact h
  | v :: r, o, w, F, h, hN => by
    rw [List.length_cons] at hN
    have h1 := h.setCell_same o v
    rw [row_set] at h1
    obtain ⟨h2, h3⟩ := blk_setCells (F := F) r (o + 1) _ _ h1 (by omega)
    rw [World.setCells]
    refine ⟨?_, ((Below.refl g w).setCell (p := ⟨g, o, none⟩) (Nat.le_refl _) v).trans h3⟩
    rw [row_ext (g := fun j => if o ≤ j ∧ j < o + (v :: r).length then (v :: r).getD (j - o) undef else F j) fun j _ => ?_] at h2
    · exact h2
    · rw [List.length_cons]
      by_cases e : j = o
      · subst e
        rw [if_neg (by omega), if_pos rfl, if_pos (by omega), Nat.sub_self]; rfl
      · by_cases e2 : o + 1 ≤ j ∧ j < o + 1 + r.length
        · rw [if_pos e2, if_pos (by omega), show j - o = (j - (o + 1)) + 1 by omega, List.getD_cons_succ]
        · rw [if_neg e2, if_neg e, if_neg (by omega)]
theorem pre_getD (f : Nat → Nat) (m : Nat) (b : Bool) {j : Nat} (h : j < 10) : (pre f m b).toList.getD j undef = preC f m b j := by
  rw [List.getD_eq_getElem?_getD, Array.getElem?_toList, pre_row, get_row_lt h]; rfl
theorem Blk.msgSetP (h : Blk w g t (msg f m l n)) (f' : Nat → Nat) (m' : Nat) : Blk (w.setCells g 0 (pre f' m' true).toList) g t (msg f' m' l n) ∧ Below g w (w.setCells g 0 (pre f' m' true).toList) := by
  have hl : (pre f' m' true).toList.length = 10 := by rw [Array.length_toList, size_pre]
  obtain ⟨h1, h2⟩ := blk_setCells (F := fun _ => undef) (pre f' m' true).toList 0 w _ h (by rw [hl]; omega)
  refine ⟨?_, h2⟩
  unfold msg
  rw [row_ext (g := fun j => if j < 10 then preC f' m' true j else if j < 74 then .int .u8 (l (j - 10) : Nat) else .int .i64 n) fun j _ => ?_] at h1
  · exact h1
  · rw [hl]
    by_cases e : j < 10
    · rw [if_pos (by omega), if_pos e, Nat.sub_zero, pre_getD _ _ _ e]
    · rw [if_neg (by omega), if_neg e, if_neg e]
end
section
variable {ops : Array Oper} {Q : Exit → Act → World → Prop} {a : Act} {w : World} {rest : List Oper} {dst : Option Tmp} {ty : TypeId} {pos : String} {after : Array Edge} {x y : Operand} {g o m m' n : Nat} {f f' l : Nat → Nat} {b : Bool}
/-- A prefix out of the middle of a block. -/
theorem ldpm (hx : a.eval x = .pointer (some ⟨g, o, none⟩)) (hc : w.rangeAt g o (pre f m b).toList) (h : wpList Tryd.prog ops Q rest (a.put dst (.agg (pre f m b))) w) :
    wpList Tryd.prog ops Q (⟨dst, .load 54 x, ty, pos, after, none⟩ :: rest) a w :=
  step_load_mid hc Tryd.underlying54 rfl (info_pre.trans (by rw [Array.length_toList, size_pre])) hx (by rw [Array.toArray_toList]; exact h)
/-- A message's prefix stored. -/
theorem stpm {t : TypeId} (hx : a.eval x = .pointer (some ⟨g, 0, none⟩)) (hy : a.eval y = .agg (pre f' m' true)) (hb : Blk w g t (msg f m l n))
    (h : ∀ w', Blk w' g t (msg f' m' l n) → Below g w w' → wpList Tryd.prog ops Q rest (a.put dst undef) w') :
    wpList Tryd.prog ops Q (⟨dst, .store 54 x y, ty, pos, after, none⟩ :: rest) a w := by
  refine wpList_store_mid rfl 54 x y rfl g 0 (pre f' m' true) hx hy ?_ (info_pre.trans (by rw [size_pre])) pre_one ?_
  · intro j hj
    rw [size_pre] at hj
    refine ⟨?_, hb.frozen _⟩
    rw [hb.cell]
    unfold msg
    rw [get_row_lt (by omega)]; rfl
  · exact h _ (hb.msgSetP f' m').1 (hb.msgSetP f' m').2
theorem bldm (hy : a.eval x = .agg (pre f 64 true)) (h : wpList Tryd.prog ops Q rest (a.put dst (.agg (msg f 64 (fun _ => 0) 0))) w) :
    wpList Tryd.prog ops Q (⟨dst, .build 62 #[(0, x)], ty, pos, after, none⟩ :: rest) a w := by
  refine wpList_plain rfl fun K hK => ?_
  have hr := run_build (P := Tryd.prog) w 62 #[(0, a.eval x)] _ (by rw [hy]; exact built_msg f)
  unfold Oper.wp
  simp [execOp, hr, Result.andThen]
  exact hK _ _ h
theorem stm {t : TypeId} {old : Array Value} (hx : a.eval x = .pointer (some ⟨g, 0, none⟩)) (hy : a.eval y = .agg (msg f m l n)) (hb : Blk w g t old) (ho : old.size = 75) (h : wpList Tryd.prog ops Q rest (a.put dst undef) (w.setRow g (msg f m l n))) :
    wpList Tryd.prog ops Q (⟨dst, .store 62 x y, ty, pos, after, none⟩ :: rest) a w :=
  step_store_row hb (info_msg.trans (by rw [size_msg])) (by rw [size_msg, ho]) msg_one hx hy h
theorem stk {t : TypeId} {old : Array Value} (hx : a.eval x = .pointer (some ⟨g, 0, none⟩)) (hy : a.eval y = .agg (kyd f f')) (hb : Blk w g t old) (ho : old.size = 20) (h : wpList Tryd.prog ops Q rest (a.put dst undef) (w.setRow g (kyd f f'))) :
    wpList Tryd.prog ops Q (⟨dst, .store 56 x y, ty, pos, after, none⟩ :: rest) a w :=
  step_store_row hb (info_kyd.trans (by rw [size_kyd])) (by rw [size_kyd, ho]) kyd_one hx hy h
theorem klb {C : World → Prop} {Qk : Act → Prop} {gd : Option (Nat × Bool)} (hwt : Region.wanted ⟨dst, .load 39 x, ty, pos, after, gd⟩ (yielded ops a.tmps) = true) (hx : a.eval x = .pointer (some ⟨g, 0, none⟩)) (hb : ∀ w, C w → Blk w g 39 (bts 64 f)) (h : wpK Tryd.prog ops C Qk rest (a.put dst (.agg (bts 64 f)))) :
    wpK Tryd.prog ops C Qk (⟨dst, .load 39 x, ty, pos, after, gd⟩ :: rest) a :=
  wpK_val hwt (fun w hw => gives_value (w' := w) (by
    have h1 : w.rangeAt g 0 (bts 64 f).toList := fun j v hj => by
      rw [Array.getElem?_toList] at hj
      rw [Nat.zero_add, (hb w hw).cell]
      exact hj
    have := run_loadAt_mid (P := Tryd.prog) w g 0 39 (bts 64 f).toList _ h1 Tryd.underlying39 rfl (info_b64.trans (by rw [Array.length_toList, size_bts]))
    rw [Array.toArray_toList] at this
    simp only [execOp, hx, Sem.run_bind, this, Result.andThen_ok, Sem.run_pure]) hw) h
theorem bldk {C : World → Prop} {Qk : Act → Prop} {gd : Option (Nat × Bool)} (hwt : Region.wanted ⟨dst, .build 56 #[(0, x), (1, y)], ty, pos, after, gd⟩ (yielded ops a.tmps) = true) (hx : a.eval x = .agg (pre f 64 true)) (hy : a.eval y = .agg (pre f' 64 true))
    (h : wpK Tryd.prog ops C Qk rest (a.put dst (.agg (kyd f f')))) : wpK Tryd.prog ops C Qk (⟨dst, .build 56 #[(0, x), (1, y)], ty, pos, after, gd⟩ :: rest) a :=
  wpK_val hwt (fun w hw => by
    have hr := run_build (P := Tryd.prog) w 56 #[(0, a.eval x), (1, a.eval y)] _ (by rw [hx, hy]; exact built_kyd f f')
    refine gives_value (w' := w) ?_ hw
    simp [execOp, hr, Result.andThen]) h
end
set_option maxHeartbeats 400000 in
set_option maxRecDepth 100000 in
theorem under_any (A : Option Addr) (l : List Nat) (n cap : Nat) (hl : l.length = n) (hc : n ≤ cap) (hm : cap ≤ maxLen) (hz : n ≤ 1000000000000000) (h256 : B256 l) (w : World) (hA : Byt w w.heap.size A l) (hS : Salts w) :
    Calls Tryd.prog 24 #[.slice A n cap] w fun e w' => e = .returned (.agg (kyd (HmM.from' 54 (HmM.blk l)).get (HmM.from' 92 (HmM.blk l)).get)) ∧ Below w.heap.size w w' := by
  have HA := hid hA
  have HL := hid hl
  have SA := hid hS
  have H256 := hid h256
  clear hA hl hS h256
  go_enter Tryd.func24, Tryd.ntmps24
  go_upto_region 1 with fail
  generalize hw3 : World.alloc w _ = w3
  have b1 : Blk w3 w.heap.size 56 (row 20 fun j => if j < 10 then preC (fun _ => 0) 0 false j else preC (fun _ => 0) 0 false (j - 10)) := by rw [← hw3]; exact Blk.top zlit_kyd rfl
  have hb : Below w.heap.size w w3 := by rw [← hw3]; exact (Below.refl _ _).alloc (Nat.le_refl _) _
  clear hw3
  have B1 := hid b1
  have BEL := hid hb
  clear b1 hb
  go_wp2_with fail
  refine (key_any A l n cap HL.out hc hm hz H256.out w3 ((HA.out.below BEL.out (Nat.le_refl _)).more BEL.out.size) (SA.out.on BEL.out)).mono ?_
  rintro e w4 ⟨rfl, h4⟩
  have b1 := B1.out.below h4 B1.out.lt
  have hb := BEL.out.trans (h4.mono BEL.out.size)
  have hz2 : w.heap.size < w4.heap.size := b1.lt
  clear h4 B1 BEL w3
  go_upto_region 2 with ((with_reducible apply stb); rfl; rfl; exact Blk.top zlit_b64 rfl)
  generalize hw5 : World.setRow _ _ _ = w5
  have c3 : Blk w5 w4.heap.size 39 (l64 (HmM.blk l)) := by rw [← hw5]; exact (Blk.top zlit_b64 rfl).setRow_same _
  have c1 : Blk w5 w.heap.size 56 (row 20 fun j => if j < 10 then preC (fun _ => 0) 0 false j else preC (fun _ => 0) 0 false (j - 10)) := by rw [← hw5]; exact (b1.alloc _).setRow_other (by omega) _
  have cb : Below w.heap.size w w5 := by rw [← hw5]; exact below_setRow (hb.alloc (by omega) _) (by omega) _
  clear hw5 b1 hb
  have C1 := hid c1
  have C3 := hid c3
  have CB := hid cb
  clear c1 c3 cb
  have hbl := HmM.blk_length l
  have hb256 := HmM.blk_256 H256.out
  have HBL := hid hbl
  have HB256 := hid hb256
  clear hbl hb256
  go_wp2_with fail
  refine wp_region_tail (C := fun w' => Below w5.heap.size w5 w') 5 (by kernel_rfl) (by kernel_rfl) (by kernel_rfl) (Below.refl _ _).drew ?_
  simp only [List.take_succ_cons, List.take_zero, List.drop_succ_cons, List.drop_zero]
  apply klb
  · rfl
  · rfl
  · exact fun w' hw' => C3.out.below hw' C3.out.lt
  simp only [Act.put, List.setIfInBounds_toArray, List.set_cons_succ, List.set_cons_zero]
  apply wpK_val
  · rfl
  · intro w' hw'
    go_simp
    exact (padded_any (HmM.blk l) HBL.out HB256.out 54 (by omega) _ (SA.out.on (CB.out.trans (hw'.mono CB.out.size)))).mono fun e w'' ⟨he, hb''⟩ => ⟨he, hw'.trans (hb''.mono hw'.size)⟩
  simp only [Act.put, List.setIfInBounds_toArray, List.set_cons_succ, List.set_cons_zero]
  apply klb
  · rfl
  · rfl
  · exact fun w' hw' => C3.out.below hw' C3.out.lt
  simp only [Act.put, List.setIfInBounds_toArray, List.set_cons_succ, List.set_cons_zero]
  apply wpK_val
  · rfl
  · intro w' hw'
    go_simp
    exact (padded_any (HmM.blk l) HBL.out HB256.out 92 (by omega) _ (SA.out.on (CB.out.trans (hw'.mono CB.out.size)))).mono fun e w'' ⟨he, hb''⟩ => ⟨he, hw'.trans (hb''.mono hw'.size)⟩
  simp only [Act.put, List.setIfInBounds_toArray, List.set_cons_succ, List.set_cons_zero]
  apply bldk
  · rfl
  · rfl
  · rfl
  simp only [Act.put, List.setIfInBounds_toArray, List.set_cons_succ, List.set_cons_zero]
  refine wpK_nil fun w6 hw6 => ?_
  have d1 := C1.out.below hw6 C1.out.lt
  have db := CB.out.trans (hw6.mono CB.out.size)
  clear C1 C3 CB hw6
  go_wp2_with ((with_reducible apply stk); rfl; rfl; exact d1; exact size_row)
  apply ret_row Tryd.results24
  · exact d1.setRow_same _
  · exact Tryd.underlying56
  · rfl
  · exact (info_kyd.trans (by rw [size_kyd]))
  · rfl
  · rfl
  exact ⟨rfl, below_setRow db (Nat.le_refl _) _⟩
set_option maxHeartbeats 400000 in
set_option maxRecDepth 100000 in
/-- Whole blocks are gone through: l, which lies in an older block or in this one. -/
theorem goOver_any (s : ShaM.S8) (hs : s.ok) (g m q : Nat) (L : Nat → Nat) (A : Option Addr) (l : List Nat) (n cap : Nat) (hl : l.length = n) (hn : n % 64 = 0) (hc : n ≤ cap) (hm : cap ≤ maxLen) (hz : m + n ≤ 1000000000000000) (h256 : B256 l) (w : World)
    (hg : Blk w g 62 (msg s.get m L q)) (hA : Byt w w.heap.size A l) (hS : Salts w) :
    Calls Tryd.prog 36 #[.pointer (some ⟨g, 0, none⟩), .slice A n cap] w fun e w' => e = .returned (.tuple #[]) ∧ Blk w' g 62 (msg (ShaM.passes s l).get (m + n) L q) ∧ Below g w w' := by
  have HS := hid hs
  have HA := hid hA
  have HL := hid hl
  have SA := hid hS
  have H256 := hid h256
  have hr := hg.msgA
  have HG := hid hg
  clear hA hl hS h256 hs hg
  go_enter Tryd.func36, Tryd.ntmps36
  go_wp2_with ((with_reducible apply ldpm); rfl; exact hr)
  refine (more_ok s HS.out A l n cap m HL.out hn hc hm hz H256.out w HA.out SA.out).mono ?_
  rintro e w4 ⟨rfl, h4⟩
  have g4 := HG.out.below h4 HG.out.lt
  have hb : Below g w w4 := h4.mono (Nat.le_of_lt HG.out.lt)
  clear h4 hr
  go_wp2_with ((with_reducible apply stpm); rfl; rfl; exact g4; intro w5 g5 b5)
  go_end0
  exact ⟨rfl, g5, hb.trans b5⟩
end Go.Proofs.YtnnhnlabkbjacaaDoor
