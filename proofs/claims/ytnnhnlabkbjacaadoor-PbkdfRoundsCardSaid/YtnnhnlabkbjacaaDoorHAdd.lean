/-
  Contract of (*hmac.message).add over this translation.
-/
import Derived.Test.YtnnhnlabkbjacaaDoorHMsg
namespace Go.Proofs.YtnnhnlabkbjacaaDoor
open Go.ChangeShapes Go.WideShapes Go.ChangeAt Go.RowKit
attribute [local go_sem] Gives
theorem infoz_u8 : (Tryd.prog.info? 5).map (·.size) = some 1 := by kernel_rfl
/-- k bytes of b laid over L from place p on. -/
def lay (p k : Nat) (b : List Nat) (L : Nat → Nat) (j : Nat) : Nat := if p ≤ j ∧ j < p + k then b.getD (j - p) 0 else L j
theorem lay_in {p k j : Nat} {b : List Nat} {L : Nat → Nat} (h : p ≤ j ∧ j < p + k) : lay p k b L j = b.getD (j - p) 0 := if_pos h
theorem lay_out {p k j : Nat} {b : List Nat} {L : Nat → Nat} (h : ¬ (p ≤ j ∧ j < p + k)) : lay p k b L j = L j := if_neg h
section
variable {a : Act} {w : World} {dst : Option Tmp} {ty : TypeId} {pos : String} {after : Array Edge} {gd : Option (Nat × Bool)} {d s : Operand} {R : World → Prop}
/-- A copy into a message's bytes from place p on. -/
theorem gives_cpm {A : Option Addr} {n cap p c k g B m q : Nat} {t : TypeId} {f L : Nat → Nat} {b : List Nat} (hd : a.eval d = .slice (some ⟨g, 10 + p, none⟩) (64 - p) c) (hs : a.eval s = .slice A n cap) (hg : Blk w g t (msg f m L q)) (hA : Byt w B A b) (hl : b.length = n) (hp : p ≤ 64) (hk : k = min n (64 - p))
    (hR : ∀ w', Blk w' g t (msg f m (lay p k b L) q) → Below g w w' → R w') :
    Gives Tryd.prog ⟨dst, .call { callee := .builtin .copy, args := #[d, s], argTypes := #[22, 22] }, ty, pos, after, gd⟩ a w (.int .i64 k) R := by
  by_cases h0 : k = 0
  · subst h0
    have hrun := run_copy_none (P := Tryd.prog) w 22 22 ty 5 (some ⟨g, 10 + p, none⟩) A (64 - p) c n cap Tryd.underlying22 infoz_u8 (show Nat.min n (64 - p) = 0 from hk.symm)
    refine gives_value (w' := w) (by simp [execOp, resolve, invoke, builtin, hd, hs, hrun, Result.andThen, goInt]) (hR w ?_ (Below.refl _ _))
    unfold msg
    rw [row_ext (g := fun j => if j < 10 then preC f m true j else if j < 74 then .int .u8 (L (j - 10) : Nat) else .int .i64 q) fun j _ => ?_]
    · exact hg
    · by_cases e : j < 10
      · rw [if_pos e, if_pos e]
      · by_cases e4 : j < 74
        · rw [if_neg e, if_neg e, if_pos e4, if_pos e4, lay_out (by omega)]
        · rw [if_neg e, if_neg e, if_neg e4, if_neg e4]
  · obtain ⟨b', o, rfl, hB, hr⟩ := hA (by omega)
    have hlen : (nums .u8 (b.take k)).length = k := by rw [nums_length, List.length_take]; omega
    have hrun := run_copy_row (P := Tryd.prog) w 22 22 ty 5 g (10 + p) (64 - p) c ⟨b', o, none⟩ n cap (msg f m L q) t (nums .u8 (b.take k)) Tryd.underlying22 infoz_u8 hg (by rw [hlen, hk])
      (fun j v hj => by
        have hjk : j < k := by have := (List.getElem?_eq_some_iff.1 hj).1; rwa [hlen] at this
        rw [nums_get .u8 (by rw [List.length_take]; omega)] at hj
        rw [← hj, Addr.add_mid, hr j (by omega), getD_take hjk])
      (by rw [hlen, size_msg]; omega) (fun v hv => by obtain ⟨x, _, rfl⟩ := List.mem_map.1 hv; rfl)
    rw [hlen] at hrun
    refine gives_value (by simp only [execOp, resolve, invoke, builtin, Sem.run_bind, Sem.run_pure, Result.andThen_ok, List.map_toArray, List.map_cons, List.map_nil, hd, hs, hrun]; rfl) (hR _ ?_ (Go.below_setRow (Below.refl _ _) (Nat.le_refl _) _))
    have e : (List.take (10 + p) (msg f m L q).toList ++ nums .u8 (b.take k) ++ (msg f m L q).toList.drop (10 + p + k)).toArray = msg f m (lay p k b L) q := by
      have hsz : (msg f m L q).toList.length = 75 := by rw [Array.length_toList, size_msg]
      apply Array.ext_getElem?
      intro j
      rw [List.getElem?_toArray, List.append_assoc, List.getElem?_append, List.length_take, hsz, List.getElem?_append, hlen]
      unfold msg
      by_cases e1 : j < 10 + p
      · rw [if_pos (by omega), List.getElem?_take_of_lt e1, Array.getElem?_toList, get_row_lt (by omega), get_row_lt (by omega)]
        by_cases e : j < 10
        · rw [if_pos e, if_pos e]
        · by_cases e4 : j < 74
          · rw [if_neg e, if_neg e, if_pos e4, if_pos e4, lay_out (by omega)]
          · rw [if_neg e, if_neg e, if_neg e4, if_neg e4]
      · rw [if_neg (by omega), show min (10 + p) 75 = 10 + p by omega]
        by_cases e2 : j - (10 + p) < k
        · rw [if_pos e2, nums_get .u8 (by rw [List.length_take]; omega), get_row_lt (by omega), if_neg (show ¬ j < 10 by omega), if_pos (show j < 74 by omega), lay_in (by omega), getD_take e2, show j - 10 - p = j - (10 + p) by omega]
        · rw [if_neg e2, List.getElem?_drop, Array.getElem?_toList, show 10 + p + k + (j - (10 + p) - k) = j by omega, get_row, get_row]
          by_cases e3 : j < 75
          · have e5 : ¬ j < 10 := by omega
            rw [if_pos e3, if_pos e3, if_neg e5, if_neg e5]
            by_cases e4 : j < 74
            · rw [if_pos e4, if_pos e4, lay_out (by omega)]
            · rw [if_neg e4, if_neg e4]
          · rw [if_neg e3, if_neg e3]
    rw [e]
    exact hg.setRow_same _
end
theorem cpm {ops : Array Oper} {Q : Exit → Act → World → Prop} {a : Act} {w : World} {rest : List Oper} {dst : Option Tmp} {ty : TypeId} {pos : String} {after : Array Edge} {d s : Operand} {A : Option Addr} {n cap p c k g B m q : Nat} {t : TypeId} {f L : Nat → Nat} {b : List Nat}
    (hd : a.eval d = .slice (some ⟨g, 10 + p, none⟩) (64 - p) c) (hs : a.eval s = .slice A n cap) (hg : Blk w g t (msg f m L q)) (hA : Byt w B A b) (hl : b.length = n) (hp : p ≤ 64) (hk : k = min n (64 - p))
    (h : ∀ w', Blk w' g t (msg f m (lay p k b L) q) → Below g w w' → wpList Tryd.prog ops Q rest (a.put dst (.int .i64 k)) w') :
    wpList Tryd.prog ops Q (⟨dst, .call { callee := .builtin .copy, args := #[d, s], argTypes := #[22, 22] }, ty, pos, after, none⟩ :: rest) a w :=
  wpList_plain rfl fun K hK => wp_of_gives (R := fun w' => Blk w' g t (msg f m (lay p k b L) q) ∧ Below g w w') (gives_cpm hd hs hg hA hl hp hk fun w' h1 h2 => ⟨h1, h2⟩) fun w' ⟨h1, h2⟩ => hK _ _ (h w' h1 h2)
/-- The bytes l were taken in. -/
def Fed (s0 : ShaM.S8) (l : List Nat) (w : World) (g : Nat) : Prop :=
  ∃ A L : List Nat, ∃ f : Nat → Nat, l = A ++ L ∧ A.length % 64 = 0 ∧ L.length < 64 ∧ (∀ j, j < L.length → L.getD j 0 = f j) ∧ Blk w g 62 (msg (ShaM.passes s0 A).get (64 + A.length) f L.length)
theorem Fed.blk {s0 : ShaM.S8} {l : List Nat} {w w' : World} {g B : Nat} (h : Fed s0 l w g) (hb : Below B w w') (hg : g < B) : Fed s0 l w' g := by
  obtain ⟨A, L, f, h1, h2, h3, h4, h5⟩ := h
  exact ⟨A, L, f, h1, h2, h3, h4, h5.below hb hg⟩
set_option maxHeartbeats 400000 in
set_option maxRecDepth 100000 in
theorem add_zero (s0 : ShaM.S8) (hs : s0.ok) (A0 : List Nat) (f : Nat → Nat) (g : Nat) (h0 : A0.length % 64 = 0) (A : Option Addr) (b : List Nat) (n cap : Nat) (hl : b.length = n) (hc : n ≤ cap) (hm : cap ≤ maxLen) (hz : 64 + A0.length + n ≤ 1000000000000000) (h256 : B256 b) (w : World)
    (hg : Blk w g 62 (msg (ShaM.passes s0 A0).get (64 + A0.length) f 0)) (hA : Byt w g A b) (hS : Salts w) :
    Calls Tryd.prog 30 #[.pointer (some ⟨g, 0, none⟩), .slice A n cap] w fun e w' => e = .returned (.tuple #[]) ∧ Fed s0 (A0 ++ b) w' g ∧ Below g w w' := by
  obtain ⟨W, hW⟩ : ∃ W, W = n - n % 64 := ⟨_, rfl⟩
  have e5 : (n : Int) - (n : Int) % 64 = (W : Int) := by omega
  have hm' := hm
  unfold maxLen at hm'
  have e5' : IntKind.i64.wrap ((n : Int) - (n : Int) % 64) = (W : Int) := wr_nat e5 (by omega)
  have hWn : W ≤ n := by omega
  have hWc : (W : Int) ≤ (cap : Int) := by omega
  have hWnI : (W : Int) ≤ (n : Int) := by omega
  have c74 := hg.msgN
  have HS := hid hs
  have HA := hid hA
  have HL := hid hl
  have SA := hid hS
  have H256 := hid h256
  have HG := hid hg
  have HW := hid hW
  have H0 := hid h0
  have HM := hid hm
  clear hA hl hS h256 hs hg hW h0 hm
  go_enter Tryd.func30, Tryd.ntmps30
  go_wp2_with fail
  refine (goOver_any (ShaM.passes s0 A0) (ShaM.passes_ok _ (Nat.le_refl _) HS.out) g (64 + A0.length) 0 f A (b.take W) W cap (by rw [List.length_take, HL.out]; omega) (by have := HW.out; omega) (by omega) HM.out (by omega) (H256.out.take W) w HG.out ((HA.out.take W).more (Nat.le_of_lt HG.out.lt)) SA.out).mono ?_
  rintro e w4 ⟨rfl, g4, h4⟩
  have q1 : (b.drop W).length = n - W := by rw [List.length_drop, HL.out]
  have q2 : n - W < 64 := by have := HW.out; omega
  have hA4 := ((HA.out.dropA cap W (by rw [HL.out]; exact hc)).below h4 (Nat.le_refl _))
  have G4 := hid g4
  have H4 := hid h4
  have HA4 := hid hA4
  have Q1 := hid q1
  clear g4 h4 hA4 q1 c74 HG
  go_upto_region 8 with fail
  refine wp_region_put (C := fun bb w' => match bb with | false => Drew w4 w' | true => Blk w' g 62 (msg (ShaM.passes (ShaM.passes s0 A0) (b.take W)).get (64 + A0.length + W) (lay 0 (n - W) (b.drop W) f) 0) ∧ Below g w4 w') 8 11 (by omega) (by kernel_rfl) (by kernel_rfl) (by kernel_rfl) (Drew.refl _) ?_
  simp only [List.take_succ_cons, List.take_zero, List.drop_succ_cons, List.drop_zero]
  apply wpS_val
  · decide
  · rfl
  · intro bb w' hw'
    go_simp
    first | exact rfl | exact ⟨rfl, hw'⟩
  simp only [Act.put, List.setIfInBounds_toArray, List.set_cons_succ, List.set_cons_zero]
  apply wpS_val
  · decide
  · rfl
  · intro bb w' hw'
    go_simp
    first | exact rfl | exact ⟨rfl, hw'⟩
  simp only [Act.put, List.setIfInBounds_toArray, List.set_cons_succ, List.set_cons_zero]
  apply wpS_val
  · decide
  · rfl
  · intro bb w' hw'
    go_simp
    first | exact rfl | exact ⟨rfl, hw'⟩
  simp only [Act.put, List.setIfInBounds_toArray, List.set_cons_succ, List.set_cons_zero]
  apply wpS_val
  · decide
  · rfl
  · intro bb w' hw'
    go_simp
    first | exact rfl | exact ⟨rfl, hw'⟩
  simp only [Act.put, List.setIfInBounds_toArray, List.set_cons_succ, List.set_cons_zero]
  apply wpS_val
  · decide
  · rfl
  · intro bb w' hw'
    go_simp
    first | exact rfl | exact ⟨rfl, hw'⟩
  simp only [Act.put, List.setIfInBounds_toArray, List.set_cons_succ, List.set_cons_zero]
  apply wpS_val
  · decide
  · rfl
  · intro bb w' hw'
    go_simp
    first | exact rfl | exact ⟨rfl, hw'⟩
  simp only [Act.put, List.setIfInBounds_toArray, List.set_cons_succ, List.set_cons_zero]
  apply wpS_val
  · decide
  · rfl
  · intro bb w' hw'
    go_simp
    first | exact rfl | exact ⟨rfl, hw'⟩
  simp only [Act.put, List.setIfInBounds_toArray, List.set_cons_succ, List.set_cons_zero]
  apply wpS_val
  · decide
  · rfl
  · intro bb w' hw'
    go_simp
    first | exact rfl | exact ⟨rfl, hw'⟩
  simp only [Act.put, List.setIfInBounds_toArray, List.set_cons_succ, List.set_cons_zero]
  apply wpS_put
  · rfl
  · rfl
  · intro w' hw'
    exact gives_cpm (p := 0) (k := n - W) rfl rfl (hw'.blk G4.out) (HA4.out.below (hw'.below (Below.refl g w4)) (Nat.le_refl _)) Q1.out (by omega) (by omega) fun w6 h1 h2 => ⟨h1, (hw'.below (Below.refl g w4)).trans h2⟩
  simp only [Act.put, List.setIfInBounds_toArray, List.set_cons_succ, List.set_cons_zero]
  apply wpS_val
  · decide
  · rfl
  · intro bb w' hw'
    go_simp
    first | exact rfl | exact ⟨rfl, hw'⟩
  simp only [Act.put, List.setIfInBounds_toArray, List.set_cons_succ, List.set_cons_zero]
  apply wpS_val
  · decide
  · rfl
  · intro bb w' hw'
    go_simp
    first | exact rfl | exact ⟨rfl, hw'⟩
  simp only [Act.put, List.setIfInBounds_toArray, List.set_cons_succ, List.set_cons_zero]
  refine wpS_nil fun w5 hw5 => ?_
  obtain ⟨g5, h5⟩ := hw5
  have b5 := H4.out.trans h5
  have k74 := g5.msgN
  have k74f := g5.frozen 74
  have G5 := hid g5
  have B5 := hid b5
  clear g5 h5 b5 G4 H4 HA4
  go_wp2_with fail
  all_goals
    go_end0
    refine ⟨rfl, ⟨A0 ++ b.take W, b.drop W, lay 0 (n - W) (b.drop W) f, ?_, ?_, ?_, ?_, ?_⟩, B5.out.setCell (Nat.le_refl _) _⟩
    · rw [List.append_assoc, List.take_append_drop]
    · rw [List.length_append, List.length_take, HL.out]; have := HW.out; have := H0.out; omega
    · rw [Q1.out]; exact q2
    · intro j hj
      rw [Q1.out] at hj
      rw [lay_in (by omega), Nat.sub_zero]
    · have h := G5.out.msgSetN (n - W)
      rw [List.length_append, List.length_take, HL.out, show min W n = W by omega, Q1.out, ShaM.passes_append (A0.length / 64) (by have := H0.out; omega), ← Nat.add_assoc]
      exact h
set_option maxHeartbeats 400000 in
set_option maxRecDepth 100000 in
/-- What does not fill the block that waits. -/
theorem add_short (s0 : ShaM.S8) (A0 L0 : List Nat) (f : Nat → Nat) (g q : Nat) (hq0 : 0 < q) (hL : L0.length = q) (h0 : A0.length % 64 = 0) (he : ∀ j, j < q → L0.getD j 0 = f j) (A : Option Addr) (b : List Nat) (n cap : Nat) (hl : b.length = n) (hqn : q + n < 64) (hc : n ≤ cap) (hm : cap ≤ maxLen) (w : World)
    (hg : Blk w g 62 (msg (ShaM.passes s0 A0).get (64 + A0.length) f q)) (hA : Byt w g A b) :
    Calls Tryd.prog 30 #[.pointer (some ⟨g, 0, none⟩), .slice A n cap] w fun e w' => e = .returned (.tuple #[]) ∧ Fed s0 ((A0 ++ L0) ++ b) w' g ∧ Below g w w' := by
  have t0 : decide ((0 : Int) < (q : Int)) = true := by simp; omega
  have t1 : (q : Int) < 64 := by omega
  have t2 : (q : Int) ≤ 64 := by omega
  have c74 := hg.msgN
  have HA := hid hA
  have HL := hid hl
  have HG := hid hg
  have H0 := hid h0
  have HM := hid hm
  have HE := hid he
  have HLL := hid hL
  clear hA hl hg h0 hm he hL
  go_enter Tryd.func30, Tryd.ntmps30
  go_upto_region 1 with fail
  refine wp_region_tail (C := Drew w) 9 (by kernel_rfl) (by kernel_rfl) (by kernel_rfl) (Drew.refl _) ?_
  simp only [List.take_succ_cons, List.take_zero, List.drop_succ_cons, List.drop_zero]
  apply wpK_val
  · rfl
  · intro w' hw'
    go_simp
    first | exact rfl | exact ⟨rfl, hw'⟩
  simp only [Act.put, List.setIfInBounds_toArray, List.set_cons_succ, List.set_cons_zero]
  apply wpK_val
  · rfl
  · intro w' hw'
    go_simp
    first | exact rfl | exact ⟨rfl, hw'⟩
  simp only [Act.put, List.setIfInBounds_toArray, List.set_cons_succ, List.set_cons_zero]
  apply wpK_val
  · rfl
  · intro w' hw'
    go_simp
    first | exact rfl | exact ⟨rfl, hw'⟩
  simp only [Act.put, List.setIfInBounds_toArray, List.set_cons_succ, List.set_cons_zero]
  apply wpK_val
  · rfl
  · intro w' hw'
    go_simp
    first | exact rfl | exact ⟨rfl, hw'⟩
  simp only [Act.put, List.setIfInBounds_toArray, List.set_cons_succ, List.set_cons_zero]
  apply wpK_val
  · rfl
  · intro w' hw'
    go_simp
    first | exact rfl | exact ⟨rfl, hw'⟩
  simp only [Act.put, List.setIfInBounds_toArray, List.set_cons_succ, List.set_cons_zero]
  apply wpK_val
  · rfl
  · intro w' hw'
    go_simp
    first | exact rfl | exact ⟨rfl, hw'⟩
  simp only [Act.put, List.setIfInBounds_toArray, List.set_cons_succ, List.set_cons_zero]
  apply wpK_val
  · rfl
  · intro w' hw'
    have hcell := (hw'.blk HG.out).msgN
    go_simp
    first | exact rfl | exact ⟨rfl, hw'⟩
  simp only [Act.put, List.setIfInBounds_toArray, List.set_cons_succ, List.set_cons_zero]
  apply wpK_val
  · rfl
  · intro w' hw'
    go_simp
    first | exact rfl | exact ⟨rfl, hw'⟩
  simp only [Act.put, List.setIfInBounds_toArray, List.set_cons_succ, List.set_cons_zero]
  apply wpK_val
  · rfl
  · intro w' hw'
    go_simp
    first | exact rfl | exact ⟨rfl, hw'⟩
  simp only [Act.put, List.setIfInBounds_toArray, List.set_cons_succ, List.set_cons_zero]
  refine wpK_nil fun w5 hw5 => ?_
  have g5 := hw5.blk HG.out
  have a5 := HA.out.below (hw5.below (Below.refl g w)) (Nat.le_refl _)
  have B5 := hid (hw5.below (Below.refl g w))
  clear hw5 c74
  rw [if_neg (show ¬ 64 = q by omega)]
  go_upto_region 2 with ((with_reducible apply cpm (p := q) (k := n)); rfl; rfl; exact g5; exact a5; exact HL.out; omega; omega; intro w6 g6 h6)
  have k74 := g6.msgN
  have k74f := g6.frozen 74
  have G6 := hid g6
  have B6 := hid (B5.out.trans h6)
  clear g6 h6 g5 a5 B5
  go_upto_region 3 with fail
  generalize hw7 : World.setCell _ _ _ = w7
  have g7 : Blk w7 g 62 (msg (ShaM.passes s0 A0).get (64 + A0.length) (lay q n b f) (q + n)) := by
    rw [← hw7]
    have h := G6.out.msgSetN (q + n)
    rw [Int.natCast_add] at h
    exact h
  have b7 : Below g w w7 := by rw [← hw7]; exact B6.out.setCell (Nat.le_refl _) _
  clear hw7 G6 B6 k74 k74f
  have k7 := g7.msgN
  have t3 : ((q + n : Nat) : Int) < 64 := by omega
  have G7 := hid g7
  clear g7
  go_wp2_with fail
  refine bodyPost_ret (results_none rfl _ _ _) rfl ?_
  refine ⟨rfl, ⟨A0, L0 ++ b, lay q n b f, by rw [List.append_assoc], H0.out, ?_, ?_, ?_⟩, b7⟩
  · rw [List.length_append, HLL.out, HL.out]; omega
  · intro j hj
    rw [List.length_append, HLL.out, HL.out] at hj
    rw [List.getD_eq_getElem?_getD]
    by_cases hjq : j < q
    · rw [List.getElem?_append_left (by rw [HLL.out]; exact hjq), lay_out (by omega), ← List.getD_eq_getElem?_getD]
      exact HE.out j hjq
    · rw [List.getElem?_append_right (by rw [HLL.out]; omega), HLL.out, lay_in (by omega), List.getD_eq_getElem?_getD]
  · rw [List.length_append, HLL.out, HL.out]
    exact G7.out
set_option maxHeartbeats 400000 in
set_option maxRecDepth 100000 in
/-- What fills the block that waits. -/
theorem add_fill (s0 : ShaM.S8) (hs : s0.ok) (A0 L0 : List Nat) (f : Nat → Nat) (g q : Nat) (hq0 : 0 < q) (hq64 : q < 64) (hL : L0.length = q) (h0 : A0.length % 64 = 0) (he : ∀ j, j < q → L0.getD j 0 = f j) (hL256 : B256 L0) (A : Option Addr) (b : List Nat) (n cap : Nat) (hl : b.length = n) (hqn : 64 ≤ q + n) (hc : n ≤ cap) (hm : cap ≤ maxLen)
    (hz : 64 + A0.length + q + n ≤ 1000000000000000) (h256 : B256 b) (w : World)
    (hg0 : 0 < g) (hg : Blk w g 62 (msg (ShaM.passes s0 A0).get (64 + A0.length) f q)) (hA : Byt w g A b) (hS : Salts w) :
    Calls Tryd.prog 30 #[.pointer (some ⟨g, 0, none⟩), .slice A n cap] w fun e w' => e = .returned (.tuple #[]) ∧ Fed s0 ((A0 ++ L0) ++ b) w' g ∧ Below g w w' := by
  have t0 : decide ((0 : Int) < (q : Int)) = true := by simp; omega
  have t1 : (q : Int) < 64 := by omega
  have t2 : (q : Int) ≤ 64 := by omega
  obtain ⟨k, hk⟩ : ∃ k, k = 64 - q := ⟨_, rfl⟩
  have hkn : k ≤ n := by omega
  have hkc : (k : Int) ≤ (cap : Int) := by omega
  have hkn' : (k : Int) ≤ (n : Int) := by omega
  obtain ⟨n1, hn1⟩ : ∃ n1, n1 = n - k := ⟨_, rfl⟩
  obtain ⟨c1, hc1⟩ : ∃ c1, c1 = cap - k := ⟨_, rfl⟩
  have c74 := hg.msgN
  have HS := hid hs
  have HA := hid hA
  have HL := hid hl
  have HG := hid hg
  have H0 := hid h0
  have HM := hid hm
  have HE := hid he
  have HLL := hid hL
  have HK := hid hk
  have HN1 := hid hn1
  have HC1 := hid hc1
  have SA := hid hS
  have H256 := hid h256
  have HL256 := hid hL256
  clear hA hl hg h0 hm he hL hk hS h256 hs hL256 hn1 hc1
  go_enter Tryd.func30, Tryd.ntmps30
  go_upto_region 1 with fail
  refine wp_region_tail (C := Drew w) 9 (by kernel_rfl) (by kernel_rfl) (by kernel_rfl) (Drew.refl _) ?_
  simp only [List.take_succ_cons, List.take_zero, List.drop_succ_cons, List.drop_zero]
  apply wpK_val
  · rfl
  · intro w' hw'
    go_simp
    first | exact rfl | exact ⟨rfl, hw'⟩
  simp only [Act.put, List.setIfInBounds_toArray, List.set_cons_succ, List.set_cons_zero]
  apply wpK_val
  · rfl
  · intro w' hw'
    go_simp
    first | exact rfl | exact ⟨rfl, hw'⟩
  simp only [Act.put, List.setIfInBounds_toArray, List.set_cons_succ, List.set_cons_zero]
  apply wpK_val
  · rfl
  · intro w' hw'
    go_simp
    first | exact rfl | exact ⟨rfl, hw'⟩
  simp only [Act.put, List.setIfInBounds_toArray, List.set_cons_succ, List.set_cons_zero]
  apply wpK_val
  · rfl
  · intro w' hw'
    go_simp
    first | exact rfl | exact ⟨rfl, hw'⟩
  simp only [Act.put, List.setIfInBounds_toArray, List.set_cons_succ, List.set_cons_zero]
  apply wpK_val
  · rfl
  · intro w' hw'
    go_simp
    first | exact rfl | exact ⟨rfl, hw'⟩
  simp only [Act.put, List.setIfInBounds_toArray, List.set_cons_succ, List.set_cons_zero]
  apply wpK_val
  · rfl
  · intro w' hw'
    go_simp
    first | exact rfl | exact ⟨rfl, hw'⟩
  simp only [Act.put, List.setIfInBounds_toArray, List.set_cons_succ, List.set_cons_zero]
  apply wpK_val
  · rfl
  · intro w' hw'
    have hcell := (hw'.blk HG.out).msgN
    go_simp
    first | exact rfl | exact ⟨rfl, hw'⟩
  simp only [Act.put, List.setIfInBounds_toArray, List.set_cons_succ, List.set_cons_zero]
  apply wpK_val
  · rfl
  · intro w' hw'
    go_simp
    first | exact rfl | exact ⟨rfl, hw'⟩
  simp only [Act.put, List.setIfInBounds_toArray, List.set_cons_succ, List.set_cons_zero]
  apply wpK_val
  · rfl
  · intro w' hw'
    go_simp
    first | exact rfl | exact ⟨rfl, hw'⟩
  simp only [Act.put, List.setIfInBounds_toArray, List.set_cons_succ, List.set_cons_zero]
  refine wpK_nil fun w5 hw5 => ?_
  have g5 := hw5.blk HG.out
  have a5 := HA.out.below (hw5.below (Below.refl g w)) (Nat.le_refl _)
  have B5 := hid (hw5.below (Below.refl g w))
  clear hw5 c74
  rw [if_neg (show ¬ 64 = q by omega)]
  go_upto_region 2 with ((with_reducible apply cpm (p := q) (k := k)); rfl; rfl; exact g5; exact a5; exact HL.out; omega; (have := HK.out; omega); intro w6 g6 h6)
  have k74 := g6.msgN
  have k74f := g6.frozen 74
  have G6 := hid g6
  have B6 := hid (B5.out.trans h6)
  clear g6 h6 g5 a5 B5
  have tk : (q : Int) + (k : Int) = 64 := by have := HK.out; omega
  go_upto_region 3 with fail
  generalize hw7 : World.setCell _ _ _ = w7
  have g7 : Blk w7 g 62 (msg (ShaM.passes s0 A0).get (64 + A0.length) (lay q k b f) 64) := by
    rw [← hw7]
    exact G6.out.msgSetN 64
  have b7 : Below g w w7 := by rw [← hw7]; exact B6.out.setCell (Nat.le_refl _) _
  clear hw7 G6 B6 k74 k74f tk
  have k7 := g7.msgN
  have G7 := hid g7
  have B7 := hid b7
  clear g7 b7
  have hf : (L0 ++ b.take k).length = 64 := by rw [List.length_append, List.length_take, HLL.out, HL.out]; have := HK.out; omega
  have hby : Byt w7 w7.heap.size (some ⟨g, 10, none⟩) (L0 ++ b.take k) := G7.out.msgByt G7.out.lt (by omega) fun j hj => by
    rw [List.getD_eq_getElem?_getD]
    by_cases hjq : j < q
    · rw [List.getElem?_append_left (by rw [HLL.out]; exact hjq), lay_out (by omega), ← List.getD_eq_getElem?_getD]
      exact HE.out j hjq
    · rw [List.getElem?_append_right (by rw [HLL.out]; omega), HLL.out, lay_in (by have := HK.out; omega), ← List.getD_eq_getElem?_getD, getD_take (by have := HK.out; omega)]
  have HF := hid hf
  have BY := hid hby
  clear hf hby
  go_wp2_with fail
  refine (goOver_any (ShaM.passes s0 A0) (ShaM.passes_ok _ (Nat.le_refl _) HS.out) g (64 + A0.length) 64 (lay q k b f) _ (L0 ++ b.take k) 64 64 HF.out rfl (Nat.le_refl _) (by unfold maxLen; omega) (by omega) (HL256.out.append (H256.out.take k)) w7 G7.out BY.out (SA.out.below B7.out hg0)).mono ?_
  rintro e w8 ⟨rfl, g8, h8⟩
  obtain ⟨b1, hb1⟩ : ∃ b1, b1 = b.drop k := ⟨_, rfl⟩
  have hl1 : b1.length = n1 := by rw [hb1, List.length_drop, HL.out, HN1.out]
  have h1256 : B256 b1 := by rw [hb1]; exact H256.out.drop k
  have bel8 := B7.out.trans h8
  have hA8 := ((HA.out.dropA cap k (by rw [HL.out]; exact hc)).below bel8 (Nat.le_refl _))
  rw [← hb1] at hA8
  have HB1 := hid hb1
  have hn1n : n1 ≤ n := by rw [HN1.out]; omega
  have hn1c : n1 ≤ c1 := by rw [HN1.out, HC1.out]; omega
  have hc1m : c1 ≤ maxLen := by rw [HC1.out]; have := HM.out; omega
  have hnk : n1 + k = n := by rw [HN1.out]; omega
  obtain ⟨A1', hA1'⟩ : ∃ l : List Nat, l = A0 ++ (L0 ++ b.take k) := ⟨_, rfl⟩
  have hA1l : A1'.length = A0.length + 64 := by rw [hA1', List.length_append, HF.out]
  have g8' : Blk w8 g 62 (msg (ShaM.passes s0 A1').get (64 + A1'.length) (lay q k b f) 64) := by
    rw [hA1l, hA1', ShaM.passes_append (A0.length / 64) (by have := H0.out; omega), ← Nat.add_assoc]
    exact g8
  clear hb1 g8 h8
  go_upto_region 6 with fail
  rw [← HN1.out, ← HC1.out]
  generalize (if cap = k then A else Option.map (fun x => Addr.add x k) A) = A1 at hA8 ⊢
  obtain ⟨W, hW⟩ : ∃ W, W = n1 - n1 % 64 := ⟨_, rfl⟩
  have e5 : (n1 : Int) - (n1 : Int) % 64 = (W : Int) := by omega
  have hm' := hc1m
  unfold maxLen at hm'
  have e5' : IntKind.i64.wrap ((n1 : Int) - (n1 : Int) % 64) = (W : Int) := wr_nat e5 (by omega)
  have hWn : W ≤ n1 := by omega
  have hWc : (W : Int) ≤ (c1 : Int) := by omega
  have hWnI : (W : Int) ≤ (n1 : Int) := by omega
  have G8 := hid g8'
  have B8 := hid bel8
  have HA8 := hid hA8
  have HL1 := hid hl1
  have H1256 := hid h1256
  have HW := hid hW
  have HA1L := hid hA1l
  have HA1E := hid hA1'
  have HNK := hid hnk
  have HC1M := hid hc1m
  clear g8' bel8 hA8 hl1 h1256 hW hA1l hA1' k7 hnk hc1m G7 B7 BY
  go_wp2_with fail
  refine (goOver_any (ShaM.passes s0 A1') (ShaM.passes_ok _ (Nat.le_refl _) HS.out) g (64 + A1'.length) 64 (lay q k b f) A1 (b1.take W) W c1 (by rw [List.length_take, HL1.out]; omega) (by have := HW.out; omega) (by omega) HC1M.out (by rw [HA1L.out]; have := HNK.out; have := HK.out; omega) (H1256.out.take W) w8 G8.out ((HA8.out.take W).more (Nat.le_of_lt G8.out.lt)) (SA.out.below B8.out hg0)).mono ?_
  rintro e w4 ⟨rfl, g4, h4⟩
  have q1 : (b1.drop W).length = n1 - W := by rw [List.length_drop, HL1.out]
  have q2 : n1 - W < 64 := by have := HW.out; omega
  have hA4 := ((HA8.out.dropA c1 W (by rw [HL1.out]; exact hn1c)).below h4 (Nat.le_refl _))
  have G4 := hid g4
  have H4 := hid (B8.out.trans h4)
  have HA4 := hid hA4
  have Q1 := hid q1
  clear g4 h4 hA4 q1 G8 B8
  go_upto_region 8 with fail
  refine wp_region_put (C := fun bb w' => match bb with | false => Drew w4 w' | true => Blk w' g 62 (msg (ShaM.passes (ShaM.passes s0 A1') (b1.take W)).get (64 + A1'.length + W) (lay 0 (n1 - W) (b1.drop W) (lay q k b f)) 64) ∧ Below g w4 w') 8 11 (by omega) (by kernel_rfl) (by kernel_rfl) (by kernel_rfl) (Drew.refl _) ?_
  simp only [List.take_succ_cons, List.take_zero, List.drop_succ_cons, List.drop_zero]
  apply wpS_val
  · decide
  · rfl
  · intro bb w' hw'
    go_simp
    first | exact rfl | exact ⟨rfl, hw'⟩
  simp only [Act.put, List.setIfInBounds_toArray, List.set_cons_succ, List.set_cons_zero]
  apply wpS_val
  · decide
  · rfl
  · intro bb w' hw'
    go_simp
    first | exact rfl | exact ⟨rfl, hw'⟩
  simp only [Act.put, List.setIfInBounds_toArray, List.set_cons_succ, List.set_cons_zero]
  apply wpS_val
  · decide
  · rfl
  · intro bb w' hw'
    go_simp
    first | exact rfl | exact ⟨rfl, hw'⟩
  simp only [Act.put, List.setIfInBounds_toArray, List.set_cons_succ, List.set_cons_zero]
  apply wpS_val
  · decide
  · rfl
  · intro bb w' hw'
    go_simp
    first | exact rfl | exact ⟨rfl, hw'⟩
  simp only [Act.put, List.setIfInBounds_toArray, List.set_cons_succ, List.set_cons_zero]
  apply wpS_val
  · decide
  · rfl
  · intro bb w' hw'
    go_simp
    first | exact rfl | exact ⟨rfl, hw'⟩
  simp only [Act.put, List.setIfInBounds_toArray, List.set_cons_succ, List.set_cons_zero]
  apply wpS_val
  · decide
  · rfl
  · intro bb w' hw'
    go_simp
    first | exact rfl | exact ⟨rfl, hw'⟩
  simp only [Act.put, List.setIfInBounds_toArray, List.set_cons_succ, List.set_cons_zero]
  apply wpS_val
  · decide
  · rfl
  · intro bb w' hw'
    go_simp
    first | exact rfl | exact ⟨rfl, hw'⟩
  simp only [Act.put, List.setIfInBounds_toArray, List.set_cons_succ, List.set_cons_zero]
  apply wpS_val
  · decide
  · rfl
  · intro bb w' hw'
    go_simp
    first | exact rfl | exact ⟨rfl, hw'⟩
  simp only [Act.put, List.setIfInBounds_toArray, List.set_cons_succ, List.set_cons_zero]
  apply wpS_put
  · rfl
  · rfl
  · intro w' hw'
    exact gives_cpm (p := 0) (k := n1 - W) rfl rfl (hw'.blk G4.out) (HA4.out.below (hw'.below (Below.refl g w4)) (Nat.le_refl _)) Q1.out (by omega) (by omega) fun w6 h1 h2 => ⟨h1, (hw'.below (Below.refl g w4)).trans h2⟩
  simp only [Act.put, List.setIfInBounds_toArray, List.set_cons_succ, List.set_cons_zero]
  apply wpS_val
  · decide
  · rfl
  · intro bb w' hw'
    go_simp
    first | exact rfl | exact ⟨rfl, hw'⟩
  simp only [Act.put, List.setIfInBounds_toArray, List.set_cons_succ, List.set_cons_zero]
  apply wpS_val
  · decide
  · rfl
  · intro bb w' hw'
    go_simp
    first | exact rfl | exact ⟨rfl, hw'⟩
  simp only [Act.put, List.setIfInBounds_toArray, List.set_cons_succ, List.set_cons_zero]
  refine wpS_nil fun w5 hw5 => ?_
  obtain ⟨g5, h5⟩ := hw5
  have b5 := H4.out.trans h5
  have k74 := g5.msgN
  have k74f := g5.frozen 74
  have G5 := hid g5
  have B5 := hid b5
  clear g5 h5 b5 G4 H4 HA4
  go_wp2_with fail
  all_goals
    go_end0
    refine ⟨rfl, ⟨A1' ++ b1.take W, b1.drop W, lay 0 (n1 - W) (b1.drop W) (lay q k b f), ?_, ?_, ?_, ?_, ?_⟩, B5.out.setCell (Nat.le_refl _) _⟩
    · rw [HA1E.out, HB1.out, List.append_assoc, List.take_append_drop, List.append_assoc, List.append_assoc, List.take_append_drop]
    · rw [List.length_append, List.length_take, HL1.out, HA1L.out]; have := HW.out; have := H0.out; omega
    · rw [Q1.out]; exact q2
    · intro j hj
      rw [Q1.out] at hj
      rw [lay_in (by omega), Nat.sub_zero]
    · have h := G5.out.msgSetN (n1 - W)
      rw [List.length_append, List.length_take, HL1.out, show min W n1 = W by omega, Q1.out, ShaM.passes_append (A1'.length / 64) (by have := HA1L.out; have := H0.out; omega), ← Nat.add_assoc]
      exact h
theorem add_any (s0 : ShaM.S8) (hs : s0.ok) (l0 : List Nat) (h0256 : B256 l0) (g : Nat) (A : Option Addr) (b : List Nat) (n cap : Nat) (hl : b.length = n) (hc : n ≤ cap) (hm : cap ≤ maxLen) (hz : 64 + l0.length + n ≤ 1000000000000000) (h256 : B256 b) (w : World)
    (hg0 : 0 < g) (hg : Fed s0 l0 w g) (hA : Byt w g A b) (hS : Salts w) :
    Calls Tryd.prog 30 #[.pointer (some ⟨g, 0, none⟩), .slice A n cap] w fun e w' => e = .returned (.tuple #[]) ∧ Fed s0 (l0 ++ b) w' g ∧ Below g w w' := by
  obtain ⟨A0, L0, f, rfl, h1, h2, h3, h4⟩ := hg
  rw [List.length_append] at hz
  rcases Nat.eq_zero_or_pos L0.length with h5 | h5
  · obtain rfl := List.eq_nil_of_length_eq_zero h5
    rw [List.append_nil]
    exact add_zero s0 hs A0 f g h1 A b n cap hl hc hm (by omega) h256 w h4 hA hS
  · rcases Nat.lt_or_ge (L0.length + n) 64 with h6 | h6
    · exact add_short s0 A0 L0 f g _ h5 rfl h1 h3 A b n cap hl h6 hc hm w h4 hA
    · exact add_fill s0 hs A0 L0 f g _ h5 h2 rfl h1 h3 (fun x hx => h0256 x (List.mem_append.2 (.inr hx))) A b n cap hl h6 hc hm (by omega) h256 w hg0 h4 hA hS
end Go.Proofs.YtnnhnlabkbjacaaDoor
