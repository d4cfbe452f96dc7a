/-
  Contract of (*hmac.message).add over this translation.
  Contracts of (hmac.keyed).tag, hmac.Parts, hmac.Of over this translation.
  Tags held against each other; bytes out of a literal.
  The type of slices of bytes; '==' of two tags.
  Contracts of the document's keys' blocks and tags (casemateref04.Block, Of, Parts, Bytes) over this translation.
  Contract of the document's tag (casemateref04.Of) over this translation.
  Contracts of casemateref17.Tag and Join.
  Rows of bytes loaded and stored in a region in which several operations write.
  Contract of casemateref17.Split: a region that draws its order, in which two rows are loaded and two are stored.
  Contracts of casemateref17.Leaf, Node, Label, Head and Body: a message laid and its tag.
  What the program's tags answer, as hypotheses of the laws: TagC, beside LeafC, RestC, JoinC. (The landed code's proof of them: another text.)
-/
import Derived.Test.YtmbhibilmedjmaaDoorMrg4
import Derived.Laws.BitsAllLaws
set_option linter.unusedVariables false
set_option linter.unusedSimpArgs false
set_option maxRecDepth 100000
namespace Go.Proofs.YtmbhibilmedjmaaDoor
open Go.ChangeShapes Go.WideShapes Go.ChangeAt Go.RowKit
attribute [local go_sem] Gives
theorem infoz_u8 : (Tryd.prog.info? 5).map (·.size) = some 1 := by kernel_rfl
/-- k bytes of b laid over L from place p on. -/
def lay (p k : Nat) (b : List Nat) (L : Nat → Nat) (j : Nat) : Nat := if p ≤ j ∧ j < p + k then b.getD (j - p) 0 else L j
theorem lay_in {p k j : Nat} {b : List Nat} {L : Nat → Nat} (h : p ≤ j ∧ j < p + k) : lay p k b L j = b.getD (j - p) 0 := if_pos h
theorem lay_out {p k j : Nat} {b : List Nat} {L : Nat → Nat} (h : ¬ (p ≤ j ∧ j < p + k)) : lay p k b L j = L j := if_neg h
section
variable {a : Act} {w : World} {dst : Option Tmp} {ty : TypeId} {pos : String} {after : Array Edge} {gd : Option (Nat × Bool)} {d s : Operand} {R : World → Prop}
/-- A copy into a message's bytes from place p on. -/
theorem gives_cpm {A : Option Addr} {n cap p c k g B m q : Nat} {t : TypeId} {f L : Nat → Nat} {b : List Nat} (hd : a.eval d = .slice (some ⟨g, 10 + p, none⟩) (64 - p) c) (hs : a.eval s = .slice A n cap) (hg : Blk w g t (msg f m L q)) (hA : Byt w B A b) (hl : b.length = n) (hp : p ≤ 64) (hk : k = min n (64 - p))
    (hR : ∀ w', Blk w' g t (msg f m (lay p k b L) q) → Below g w w' → R w') :
    Gives Tryd.prog ⟨dst, .call { callee := .builtin .copy, args := #[d, s], argTypes := #[26, 26] }, ty, pos, after, gd⟩ a w (.int .i64 k) R := by
  by_cases h0 : k = 0
  · subst h0
    have hrun := run_copy_none (P := Tryd.prog) w 26 26 ty 5 (some ⟨g, 10 + p, none⟩) A (64 - p) c n cap Tryd.underlying26 infoz_u8 (show Nat.min n (64 - p) = 0 from hk.symm)
    refine gives_value (w' := w) (by simp [execOp, resolve, invoke, builtin, hd, hs, hrun, Result.andThen, goInt]) (hR w ?_ (Below.refl _ _))
    unfold msg
    rw [row_ext (g := fun j => if j < 10 then preC f m true j else if j < 74 then .int .u8 (L (j - 10) : Nat) else .int .i64 q) fun j _ => ?_]
    · exact hg
    · by_cases e : j < 10
      · rw [if_pos e, if_pos e]
      · by_cases e4 : j < 74
        · rw [if_neg e, if_neg e, if_pos e4, if_pos e4, lay_out (by omega)]
        · rw [if_neg e, if_neg e, if_neg e4, if_neg e4]
  · obtain ⟨b', o, rfl, hB, hr⟩ := hA (by omega)
    have hlen : (nums .u8 (b.take k)).length = k := by rw [nums_length, List.length_take]; omega
    have hrun := run_copy_row (P := Tryd.prog) w 26 26 ty 5 g (10 + p) (64 - p) c ⟨b', o, none⟩ n cap (msg f m L q) t (nums .u8 (b.take k)) Tryd.underlying26 infoz_u8 hg (by rw [hlen, hk])
      (fun j v hj => by
        have hjk : j < k := by have := (List.getElem?_eq_some_iff.1 hj).1; rwa [hlen] at this
        rw [nums_get .u8 (by rw [List.length_take]; omega)] at hj
        rw [← hj, Addr.add_mid, hr j (by omega), getD_take hjk])
      (by rw [hlen, size_msg]; omega) (fun v hv => by obtain ⟨x, _, rfl⟩ := List.mem_map.1 hv; rfl)
    rw [hlen] at hrun
    refine gives_value (by simp only [execOp, resolve, invoke, builtin, Sem.run_bind, Sem.run_pure, Result.andThen_ok, List.map_toArray, List.map_cons, List.map_nil, hd, hs, hrun]; rfl) (hR _ ?_ (Go.below_setRow (Below.refl _ _) (Nat.le_refl _) _))
    have e : (List.take (10 + p) (msg f m L q).toList ++ nums .u8 (b.take k) ++ (msg f m L q).toList.drop (10 + p + k)).toArray = msg f m (lay p k b L) q := by
      have hsz : (msg f m L q).toList.length = 75 := by rw [Array.length_toList, size_msg]
      apply Array.ext_getElem?
      intro j
      rw [List.getElem?_toArray, List.append_assoc, List.getElem?_append, List.length_take, hsz, List.getElem?_append, hlen]
      unfold msg
      by_cases e1 : j < 10 + p
      · rw [if_pos (by omega), List.getElem?_take_of_lt e1, Array.getElem?_toList, get_row_lt (by omega), get_row_lt (by omega)]
        by_cases e : j < 10
        · rw [if_pos e, if_pos e]
        · by_cases e4 : j < 74
          · rw [if_neg e, if_neg e, if_pos e4, if_pos e4, lay_out (by omega)]
          · rw [if_neg e, if_neg e, if_neg e4, if_neg e4]
      · rw [if_neg (by omega), show min (10 + p) 75 = 10 + p by omega]
        by_cases e2 : j - (10 + p) < k
        · rw [if_pos e2, nums_get .u8 (by rw [List.length_take]; omega), get_row_lt (by omega), if_neg (show ¬ j < 10 by omega), if_pos (show j < 74 by omega), lay_in (by omega), getD_take e2, show j - 10 - p = j - (10 + p) by omega]
        · rw [if_neg e2, List.getElem?_drop, Array.getElem?_toList, show 10 + p + k + (j - (10 + p) - k) = j by omega, get_row, get_row]
          by_cases e3 : j < 75
          · have e5 : ¬ j < 10 := by omega
            rw [if_pos e3, if_pos e3, if_neg e5, if_neg e5]
            by_cases e4 : j < 74
            · rw [if_pos e4, if_pos e4, lay_out (by omega)]
            · rw [if_neg e4, if_neg e4]
          · rw [if_neg e3, if_neg e3]
    rw [e]
    exact hg.setRow_same _
end
theorem cpm {ops : Array Oper} {Q : Exit → Act → World → Prop} {a : Act} {w : World} {rest : List Oper} {dst : Option Tmp} {ty : TypeId} {pos : String} {after : Array Edge} {d s : Operand} {A : Option Addr} {n cap p c k g B m q : Nat} {t : TypeId} {f L : Nat → Nat} {b : List Nat}
    (hd : a.eval d = .slice (some ⟨g, 10 + p, none⟩) (64 - p) c) (hs : a.eval s = .slice A n cap) (hg : Blk w g t (msg f m L q)) (hA : Byt w B A b) (hl : b.length = n) (hp : p ≤ 64) (hk : k = min n (64 - p))
    (h : ∀ w', Blk w' g t (msg f m (lay p k b L) q) → Below g w w' → wpList Tryd.prog ops Q rest (a.put dst (.int .i64 k)) w') :
    wpList Tryd.prog ops Q (⟨dst, .call { callee := .builtin .copy, args := #[d, s], argTypes := #[26, 26] }, ty, pos, after, none⟩ :: rest) a w :=
  wpList_plain rfl fun K hK => wp_of_gives (R := fun w' => Blk w' g t (msg f m (lay p k b L) q) ∧ Below g w w') (gives_cpm hd hs hg hA hl hp hk fun w' h1 h2 => ⟨h1, h2⟩) fun w' ⟨h1, h2⟩ => hK _ _ (h w' h1 h2)
/-- The bytes l were taken in. -/
def Fed (s0 : ShaM.S8) (l : List Nat) (w : World) (g : Nat) : Prop :=
  ∃ A L : List Nat, ∃ f : Nat → Nat, l = A ++ L ∧ A.length % 64 = 0 ∧ L.length < 64 ∧ (∀ j, j < L.length → L.getD j 0 = f j) ∧ Blk w g 87 (msg (ShaM.passes s0 A).get (64 + A.length) f L.length)
theorem Fed.blk {s0 : ShaM.S8} {l : List Nat} {w w' : World} {g B : Nat} (h : Fed s0 l w g) (hb : Below B w w') (hg : g < B) : Fed s0 l w' g := by
  obtain ⟨A, L, f, h1, h2, h3, h4, h5⟩ := h
  exact ⟨A, L, f, h1, h2, h3, h4, h5.below hb hg⟩
set_option maxHeartbeats 400000 in
set_option maxRecDepth 100000 in
theorem add_zero (s0 : ShaM.S8) (hs : s0.ok) (A0 : List Nat) (f : Nat → Nat) (g : Nat) (h0 : A0.length % 64 = 0) (A : Option Addr) (b : List Nat) (n cap : Nat) (hl : b.length = n) (hc : n ≤ cap) (hm : cap ≤ maxLen) (hz : 64 + A0.length + n ≤ 1000000000000000) (h256 : B256 b) (w : World)
    (hg : Blk w g 87 (msg (ShaM.passes s0 A0).get (64 + A0.length) f 0)) (hA : Byt w g A b) (hS : Salts w) :
    Calls Tryd.prog 59 #[.pointer (some ⟨g, 0, none⟩), .slice A n cap] w fun e w' => e = .returned (.tuple #[]) ∧ Fed s0 (A0 ++ b) w' g ∧ Below g w w' := by
  obtain ⟨W, hW⟩ : ∃ W, W = n - n % 64 := ⟨_, rfl⟩
  have e5 : (n : Int) - (n : Int) % 64 = (W : Int) := by omega
  have hm' := hm
  unfold maxLen at hm'
  have e5' : IntKind.i64.wrap ((n : Int) - (n : Int) % 64) = (W : Int) := wr_nat e5 (by omega)
  have hWn : W ≤ n := by omega
  have hWc : (W : Int) ≤ (cap : Int) := by omega
  have hWnI : (W : Int) ≤ (n : Int) := by omega
  have c74 := hg.msgN
  have HS := hid hs
  have HA := hid hA
  have HL := hid hl
  have SA := hid hS
  have H256 := hid h256
  have HG := hid hg
  have HW := hid hW
  have H0 := hid h0
  have HM := hid hm
  clear hA hl hS h256 hs hg hW h0 hm
  go_enter Tryd.func59, Tryd.ntmps59
  go_wp2_with fail
  refine (goOver_any (ShaM.passes s0 A0) (ShaM.passes_ok _ (Nat.le_refl _) HS.out) g (64 + A0.length) 0 f A (b.take W) W cap (by rw [List.length_take, HL.out]; omega) (by have := HW.out; omega) (by omega) HM.out (by omega) (H256.out.take W) w HG.out ((HA.out.take W).more (Nat.le_of_lt HG.out.lt)) SA.out).mono ?_
  rintro e w4 ⟨rfl, g4, h4⟩
  have q1 : (b.drop W).length = n - W := by rw [List.length_drop, HL.out]
  have q2 : n - W < 64 := by have := HW.out; omega
  have hA4 := ((HA.out.dropA cap W (by rw [HL.out]; exact hc)).below h4 (Nat.le_refl _))
  have G4 := hid g4
  have H4 := hid h4
  have HA4 := hid hA4
  have Q1 := hid q1
  clear g4 h4 hA4 q1 c74 HG
  go_upto_region 8 with fail
  refine wp_region_put (C := fun bb w' => match bb with | false => Drew w4 w' | true => Blk w' g 87 (msg (ShaM.passes (ShaM.passes s0 A0) (b.take W)).get (64 + A0.length + W) (lay 0 (n - W) (b.drop W) f) 0) ∧ Below g w4 w') 8 11 (by omega) (by kernel_rfl) (by kernel_rfl) (by kernel_rfl) (Drew.refl _) ?_
  simp only [List.take_succ_cons, List.take_zero, List.drop_succ_cons, List.drop_zero]
  apply wpS_val
  · decide
  · rfl
  · intro bb w' hw'
    go_simp
    first | exact rfl | exact ⟨rfl, hw'⟩
  simp only [Act.put, List.setIfInBounds_toArray, List.set_cons_succ, List.set_cons_zero]
  apply wpS_val
  · decide
  · rfl
  · intro bb w' hw'
    go_simp
    first | exact rfl | exact ⟨rfl, hw'⟩
  simp only [Act.put, List.setIfInBounds_toArray, List.set_cons_succ, List.set_cons_zero]
  apply wpS_val
  · decide
  · rfl
  · intro bb w' hw'
    go_simp
    first | exact rfl | exact ⟨rfl, hw'⟩
  simp only [Act.put, List.setIfInBounds_toArray, List.set_cons_succ, List.set_cons_zero]
  apply wpS_val
  · decide
  · rfl
  · intro bb w' hw'
    go_simp
    first | exact rfl | exact ⟨rfl, hw'⟩
  simp only [Act.put, List.setIfInBounds_toArray, List.set_cons_succ, List.set_cons_zero]
  apply wpS_val
  · decide
  · rfl
  · intro bb w' hw'
    go_simp
    first | exact rfl | exact ⟨rfl, hw'⟩
  simp only [Act.put, List.setIfInBounds_toArray, List.set_cons_succ, List.set_cons_zero]
  apply wpS_val
  · decide
  · rfl
  · intro bb w' hw'
    go_simp
    first | exact rfl | exact ⟨rfl, hw'⟩
  simp only [Act.put, List.setIfInBounds_toArray, List.set_cons_succ, List.set_cons_zero]
  apply wpS_val
  · decide
  · rfl
  · intro bb w' hw'
    go_simp
    first | exact rfl | exact ⟨rfl, hw'⟩
  simp only [Act.put, List.setIfInBounds_toArray, List.set_cons_succ, List.set_cons_zero]
  apply wpS_val
  · decide
  · rfl
  · intro bb w' hw'
    go_simp
    first | exact rfl | exact ⟨rfl, hw'⟩
  simp only [Act.put, List.setIfInBounds_toArray, List.set_cons_succ, List.set_cons_zero]
  apply wpS_put
  · rfl
  · rfl
  · intro w' hw'
    exact gives_cpm (p := 0) (k := n - W) rfl rfl (hw'.blk G4.out) (HA4.out.below (hw'.below (Below.refl g w4)) (Nat.le_refl _)) Q1.out (by omega) (by omega) fun w6 h1 h2 => ⟨h1, (hw'.below (Below.refl g w4)).trans h2⟩
  simp only [Act.put, List.setIfInBounds_toArray, List.set_cons_succ, List.set_cons_zero]
  apply wpS_val
  · decide
  · rfl
  · intro bb w' hw'
    go_simp
    first | exact rfl | exact ⟨rfl, hw'⟩
  simp only [Act.put, List.setIfInBounds_toArray, List.set_cons_succ, List.set_cons_zero]
  apply wpS_val
  · decide
  · rfl
  · intro bb w' hw'
    go_simp
    first | exact rfl | exact ⟨rfl, hw'⟩
  simp only [Act.put, List.setIfInBounds_toArray, List.set_cons_succ, List.set_cons_zero]
  refine wpS_nil fun w5 hw5 => ?_
  obtain ⟨g5, h5⟩ := hw5
  have b5 := H4.out.trans h5
  have k74 := g5.msgN
  have k74f := g5.frozen 74
  have G5 := hid g5
  have B5 := hid b5
  clear g5 h5 b5 G4 H4 HA4
  go_wp2_with fail
  all_goals
    go_end0
    refine ⟨rfl, ⟨A0 ++ b.take W, b.drop W, lay 0 (n - W) (b.drop W) f, ?_, ?_, ?_, ?_, ?_⟩, B5.out.setCell (Nat.le_refl _) _⟩
    · rw [List.append_assoc, List.take_append_drop]
    · rw [List.length_append, List.length_take, HL.out]; have := HW.out; have := H0.out; omega
    · rw [Q1.out]; exact q2
    · intro j hj
      rw [Q1.out] at hj
      rw [lay_in (by omega), Nat.sub_zero]
    · have h := G5.out.msgSetN (n - W)
      rw [List.length_append, List.length_take, HL.out, show min W n = W by omega, Q1.out, ShaM.passes_append (A0.length / 64) (by have := H0.out; omega), ← Nat.add_assoc]
      exact h
set_option maxHeartbeats 400000 in
set_option maxRecDepth 100000 in
/-- What does not fill the block that waits. -/
theorem add_short (s0 : ShaM.S8) (A0 L0 : List Nat) (f : Nat → Nat) (g q : Nat) (hq0 : 0 < q) (hL : L0.length = q) (h0 : A0.length % 64 = 0) (he : ∀ j, j < q → L0.getD j 0 = f j) (A : Option Addr) (b : List Nat) (n cap : Nat) (hl : b.length = n) (hqn : q + n < 64) (hc : n ≤ cap) (hm : cap ≤ maxLen) (w : World)
    (hg : Blk w g 87 (msg (ShaM.passes s0 A0).get (64 + A0.length) f q)) (hA : Byt w g A b) :
    Calls Tryd.prog 59 #[.pointer (some ⟨g, 0, none⟩), .slice A n cap] w fun e w' => e = .returned (.tuple #[]) ∧ Fed s0 ((A0 ++ L0) ++ b) w' g ∧ Below g w w' := by
  have t0 : decide ((0 : Int) < (q : Int)) = true := by simp; omega
  have t1 : (q : Int) < 64 := by omega
  have t2 : (q : Int) ≤ 64 := by omega
  have c74 := hg.msgN
  have HA := hid hA
  have HL := hid hl
  have HG := hid hg
  have H0 := hid h0
  have HM := hid hm
  have HE := hid he
  have HLL := hid hL
  clear hA hl hg h0 hm he hL
  go_enter Tryd.func59, Tryd.ntmps59
  go_upto_region 1 with fail
  refine wp_region_tail (C := Drew w) 9 (by kernel_rfl) (by kernel_rfl) (by kernel_rfl) (Drew.refl _) ?_
  simp only [List.take_succ_cons, List.take_zero, List.drop_succ_cons, List.drop_zero]
  apply wpK_val
  · rfl
  · intro w' hw'
    go_simp
    first | exact rfl | exact ⟨rfl, hw'⟩
  simp only [Act.put, List.setIfInBounds_toArray, List.set_cons_succ, List.set_cons_zero]
  apply wpK_val
  · rfl
  · intro w' hw'
    go_simp
    first | exact rfl | exact ⟨rfl, hw'⟩
  simp only [Act.put, List.setIfInBounds_toArray, List.set_cons_succ, List.set_cons_zero]
  apply wpK_val
  · rfl
  · intro w' hw'
    go_simp
    first | exact rfl | exact ⟨rfl, hw'⟩
  simp only [Act.put, List.setIfInBounds_toArray, List.set_cons_succ, List.set_cons_zero]
  apply wpK_val
  · rfl
  · intro w' hw'
    go_simp
    first | exact rfl | exact ⟨rfl, hw'⟩
  simp only [Act.put, List.setIfInBounds_toArray, List.set_cons_succ, List.set_cons_zero]
  apply wpK_val
  · rfl
  · intro w' hw'
    go_simp
    first | exact rfl | exact ⟨rfl, hw'⟩
  simp only [Act.put, List.setIfInBounds_toArray, List.set_cons_succ, List.set_cons_zero]
  apply wpK_val
  · rfl
  · intro w' hw'
    go_simp
    first | exact rfl | exact ⟨rfl, hw'⟩
  simp only [Act.put, List.setIfInBounds_toArray, List.set_cons_succ, List.set_cons_zero]
  apply wpK_val
  · rfl
  · intro w' hw'
    have hcell := (hw'.blk HG.out).msgN
    go_simp
    first | exact rfl | exact ⟨rfl, hw'⟩
  simp only [Act.put, List.setIfInBounds_toArray, List.set_cons_succ, List.set_cons_zero]
  apply wpK_val
  · rfl
  · intro w' hw'
    go_simp
    first | exact rfl | exact ⟨rfl, hw'⟩
  simp only [Act.put, List.setIfInBounds_toArray, List.set_cons_succ, List.set_cons_zero]
  apply wpK_val
  · rfl
  · intro w' hw'
    go_simp
    first | exact rfl | exact ⟨rfl, hw'⟩
  simp only [Act.put, List.setIfInBounds_toArray, List.set_cons_succ, List.set_cons_zero]
  refine wpK_nil fun w5 hw5 => ?_
  have g5 := hw5.blk HG.out
  have a5 := HA.out.below (hw5.below (Below.refl g w)) (Nat.le_refl _)
  have B5 := hid (hw5.below (Below.refl g w))
  clear hw5 c74
  rw [if_neg (show ¬ 64 = q by omega)]
  go_upto_region 2 with ((with_reducible apply cpm (p := q) (k := n)); rfl; rfl; exact g5; exact a5; exact HL.out; omega; omega; intro w6 g6 h6)
  have k74 := g6.msgN
  have k74f := g6.frozen 74
  have G6 := hid g6
  have B6 := hid (B5.out.trans h6)
  clear g6 h6 g5 a5 B5
  go_upto_region 3 with fail
  generalize hw7 : World.setCell _ _ _ = w7
  have g7 : Blk w7 g 87 (msg (ShaM.passes s0 A0).get (64 + A0.length) (lay q n b f) (q + n)) := by
    rw [← hw7]
    have h := G6.out.msgSetN (q + n)
    rw [Int.natCast_add] at h
    exact h
  have b7 : Below g w w7 := by rw [← hw7]; exact B6.out.setCell (Nat.le_refl _) _
  clear hw7 G6 B6 k74 k74f
  have k7 := g7.msgN
  have t3 : ((q + n : Nat) : Int) < 64 := by omega
  have G7 := hid g7
  clear g7
  go_wp2_with fail
  refine bodyPost_ret (results_none rfl _ _ _) rfl ?_
  refine ⟨rfl, ⟨A0, L0 ++ b, lay q n b f, by rw [List.append_assoc], H0.out, ?_, ?_, ?_⟩, b7⟩
  · rw [List.length_append, HLL.out, HL.out]; omega
  · intro j hj
    rw [List.length_append, HLL.out, HL.out] at hj
    rw [List.getD_eq_getElem?_getD]
    by_cases hjq : j < q
    · rw [List.getElem?_append_left (by rw [HLL.out]; exact hjq), lay_out (by omega), ← List.getD_eq_getElem?_getD]
      exact HE.out j hjq
    · rw [List.getElem?_append_right (by rw [HLL.out]; omega), HLL.out, lay_in (by omega), List.getD_eq_getElem?_getD]
  · rw [List.length_append, HLL.out, HL.out]
    exact G7.out
set_option maxHeartbeats 400000 in
set_option maxRecDepth 100000 in
/-- What fills the block that waits. -/
theorem add_fill (s0 : ShaM.S8) (hs : s0.ok) (A0 L0 : List Nat) (f : Nat → Nat) (g q : Nat) (hq0 : 0 < q) (hq64 : q < 64) (hL : L0.length = q) (h0 : A0.length % 64 = 0) (he : ∀ j, j < q → L0.getD j 0 = f j) (hL256 : B256 L0) (A : Option Addr) (b : List Nat) (n cap : Nat) (hl : b.length = n) (hqn : 64 ≤ q + n) (hc : n ≤ cap) (hm : cap ≤ maxLen)
    (hz : 64 + A0.length + q + n ≤ 1000000000000000) (h256 : B256 b) (w : World)
    (hg0 : tabs < g) (hg : Blk w g 87 (msg (ShaM.passes s0 A0).get (64 + A0.length) f q)) (hA : Byt w g A b) (hS : Salts w) :
    Calls Tryd.prog 59 #[.pointer (some ⟨g, 0, none⟩), .slice A n cap] w fun e w' => e = .returned (.tuple #[]) ∧ Fed s0 ((A0 ++ L0) ++ b) w' g ∧ Below g w w' := by
  have t0 : decide ((0 : Int) < (q : Int)) = true := by simp; omega
  have t1 : (q : Int) < 64 := by omega
  have t2 : (q : Int) ≤ 64 := by omega
  obtain ⟨k, hk⟩ : ∃ k, k = 64 - q := ⟨_, rfl⟩
  have hkn : k ≤ n := by omega
  have hkc : (k : Int) ≤ (cap : Int) := by omega
  have hkn' : (k : Int) ≤ (n : Int) := by omega
  obtain ⟨n1, hn1⟩ : ∃ n1, n1 = n - k := ⟨_, rfl⟩
  obtain ⟨c1, hc1⟩ : ∃ c1, c1 = cap - k := ⟨_, rfl⟩
  have c74 := hg.msgN
  have HS := hid hs
  have HA := hid hA
  have HL := hid hl
  have HG := hid hg
  have H0 := hid h0
  have HM := hid hm
  have HE := hid he
  have HLL := hid hL
  have HK := hid hk
  have HN1 := hid hn1
  have HC1 := hid hc1
  have SA := hid hS
  have H256 := hid h256
  have HL256 := hid hL256
  clear hA hl hg h0 hm he hL hk hS h256 hs hL256 hn1 hc1
  go_enter Tryd.func59, Tryd.ntmps59
  go_upto_region 1 with fail
  refine wp_region_tail (C := Drew w) 9 (by kernel_rfl) (by kernel_rfl) (by kernel_rfl) (Drew.refl _) ?_
  simp only [List.take_succ_cons, List.take_zero, List.drop_succ_cons, List.drop_zero]
  apply wpK_val
  · rfl
  · intro w' hw'
    go_simp
    first | exact rfl | exact ⟨rfl, hw'⟩
  simp only [Act.put, List.setIfInBounds_toArray, List.set_cons_succ, List.set_cons_zero]
  apply wpK_val
  · rfl
  · intro w' hw'
    go_simp
    first | exact rfl | exact ⟨rfl, hw'⟩
  simp only [Act.put, List.setIfInBounds_toArray, List.set_cons_succ, List.set_cons_zero]
  apply wpK_val
  · rfl
  · intro w' hw'
    go_simp
    first | exact rfl | exact ⟨rfl, hw'⟩
  simp only [Act.put, List.setIfInBounds_toArray, List.set_cons_succ, List.set_cons_zero]
  apply wpK_val
  · rfl
  · intro w' hw'
    go_simp
    first | exact rfl | exact ⟨rfl, hw'⟩
  simp only [Act.put, List.setIfInBounds_toArray, List.set_cons_succ, List.set_cons_zero]
  apply wpK_val
  · rfl
  · intro w' hw'
    go_simp
    first | exact rfl | exact ⟨rfl, hw'⟩
  simp only [Act.put, List.setIfInBounds_toArray, List.set_cons_succ, List.set_cons_zero]
  apply wpK_val
  · rfl
  · intro w' hw'
    go_simp
    first | exact rfl | exact ⟨rfl, hw'⟩
  simp only [Act.put, List.setIfInBounds_toArray, List.set_cons_succ, List.set_cons_zero]
  apply wpK_val
  · rfl
  · intro w' hw'
    have hcell := (hw'.blk HG.out).msgN
    go_simp
    first | exact rfl | exact ⟨rfl, hw'⟩
  simp only [Act.put, List.setIfInBounds_toArray, List.set_cons_succ, List.set_cons_zero]
  apply wpK_val
  · rfl
  · intro w' hw'
    go_simp
    first | exact rfl | exact ⟨rfl, hw'⟩
  simp only [Act.put, List.setIfInBounds_toArray, List.set_cons_succ, List.set_cons_zero]
  apply wpK_val
  · rfl
  · intro w' hw'
    go_simp
    first | exact rfl | exact ⟨rfl, hw'⟩
  simp only [Act.put, List.setIfInBounds_toArray, List.set_cons_succ, List.set_cons_zero]
  refine wpK_nil fun w5 hw5 => ?_
  have g5 := hw5.blk HG.out
  have a5 := HA.out.below (hw5.below (Below.refl g w)) (Nat.le_refl _)
  have B5 := hid (hw5.below (Below.refl g w))
  clear hw5 c74
  rw [if_neg (show ¬ 64 = q by omega)]
  go_upto_region 2 with ((with_reducible apply cpm (p := q) (k := k)); rfl; rfl; exact g5; exact a5; exact HL.out; omega; (have := HK.out; omega); intro w6 g6 h6)
  have k74 := g6.msgN
  have k74f := g6.frozen 74
  have G6 := hid g6
  have B6 := hid (B5.out.trans h6)
  clear g6 h6 g5 a5 B5
  have tk : (q : Int) + (k : Int) = 64 := by have := HK.out; omega
  go_upto_region 3 with fail
  generalize hw7 : World.setCell _ _ _ = w7
  have g7 : Blk w7 g 87 (msg (ShaM.passes s0 A0).get (64 + A0.length) (lay q k b f) 64) := by
    rw [← hw7]
    exact G6.out.msgSetN 64
  have b7 : Below g w w7 := by rw [← hw7]; exact B6.out.setCell (Nat.le_refl _) _
  clear hw7 G6 B6 k74 k74f tk
  have k7 := g7.msgN
  have G7 := hid g7
  have B7 := hid b7
  clear g7 b7
  have hf : (L0 ++ b.take k).length = 64 := by rw [List.length_append, List.length_take, HLL.out, HL.out]; have := HK.out; omega
  have hby : Byt w7 w7.heap.size (some ⟨g, 10, none⟩) (L0 ++ b.take k) := G7.out.msgByt G7.out.lt (by omega) fun j hj => by
    rw [List.getD_eq_getElem?_getD]
    by_cases hjq : j < q
    · rw [List.getElem?_append_left (by rw [HLL.out]; exact hjq), lay_out (by omega), ← List.getD_eq_getElem?_getD]
      exact HE.out j hjq
    · rw [List.getElem?_append_right (by rw [HLL.out]; omega), HLL.out, lay_in (by have := HK.out; omega), ← List.getD_eq_getElem?_getD, getD_take (by have := HK.out; omega)]
  have HF := hid hf
  have BY := hid hby
  clear hf hby
  go_wp2_with fail
  refine (goOver_any (ShaM.passes s0 A0) (ShaM.passes_ok _ (Nat.le_refl _) HS.out) g (64 + A0.length) 64 (lay q k b f) _ (L0 ++ b.take k) 64 64 HF.out rfl (Nat.le_refl _) (by unfold maxLen; omega) (by omega) (HL256.out.append (H256.out.take k)) w7 G7.out BY.out (SA.out.below B7.out hg0)).mono ?_
  rintro e w8 ⟨rfl, g8, h8⟩
  obtain ⟨b1, hb1⟩ : ∃ b1, b1 = b.drop k := ⟨_, rfl⟩
  have hl1 : b1.length = n1 := by rw [hb1, List.length_drop, HL.out, HN1.out]
  have h1256 : B256 b1 := by rw [hb1]; exact H256.out.drop k
  have bel8 := B7.out.trans h8
  have hA8 := ((HA.out.dropA cap k (by rw [HL.out]; exact hc)).below bel8 (Nat.le_refl _))
  rw [← hb1] at hA8
  have HB1 := hid hb1
  have hn1n : n1 ≤ n := by rw [HN1.out]; omega
  have hn1c : n1 ≤ c1 := by rw [HN1.out, HC1.out]; omega
  have hc1m : c1 ≤ maxLen := by rw [HC1.out]; have := HM.out; omega
  have hnk : n1 + k = n := by rw [HN1.out]; omega
  obtain ⟨A1', hA1'⟩ : ∃ l : List Nat, l = A0 ++ (L0 ++ b.take k) := ⟨_, rfl⟩
  have hA1l : A1'.length = A0.length + 64 := by rw [hA1', List.length_append, HF.out]
  have g8' : Blk w8 g 87 (msg (ShaM.passes s0 A1').get (64 + A1'.length) (lay q k b f) 64) := by
    rw [hA1l, hA1', ShaM.passes_append (A0.length / 64) (by have := H0.out; omega), ← Nat.add_assoc]
    exact g8
  clear hb1 g8 h8
  go_upto_region 6 with fail
  rw [← HN1.out, ← HC1.out]
  generalize (if cap = k then A else Option.map (fun x => Addr.add x k) A) = A1 at hA8 ⊢
  obtain ⟨W, hW⟩ : ∃ W, W = n1 - n1 % 64 := ⟨_, rfl⟩
  have e5 : (n1 : Int) - (n1 : Int) % 64 = (W : Int) := by omega
  have hm' := hc1m
  unfold maxLen at hm'
  have e5' : IntKind.i64.wrap ((n1 : Int) - (n1 : Int) % 64) = (W : Int) := wr_nat e5 (by omega)
  have hWn : W ≤ n1 := by omega
  have hWc : (W : Int) ≤ (c1 : Int) := by omega
  have hWnI : (W : Int) ≤ (n1 : Int) := by omega
  have G8 := hid g8'
  have B8 := hid bel8
  have HA8 := hid hA8
  have HL1 := hid hl1
  have H1256 := hid h1256
  have HW := hid hW
  have HA1L := hid hA1l
  have HA1E := hid hA1'
  have HNK := hid hnk
  have HC1M := hid hc1m
  clear g8' bel8 hA8 hl1 h1256 hW hA1l hA1' k7 hnk hc1m G7 B7 BY
  go_wp2_with fail
  refine (goOver_any (ShaM.passes s0 A1') (ShaM.passes_ok _ (Nat.le_refl _) HS.out) g (64 + A1'.length) 64 (lay q k b f) A1 (b1.take W) W c1 (by rw [List.length_take, HL1.out]; omega) (by have := HW.out; omega) (by omega) HC1M.out (by rw [HA1L.out]; have := HNK.out; have := HK.out; omega) (H1256.out.take W) w8 G8.out ((HA8.out.take W).more (Nat.le_of_lt G8.out.lt)) (SA.out.below B8.out hg0)).mono ?_
  rintro e w4 ⟨rfl, g4, h4⟩
  have q1 : (b1.drop W).length = n1 - W := by rw [List.length_drop, HL1.out]
  have q2 : n1 - W < 64 := by have := HW.out; omega
  have hA4 := ((HA8.out.dropA c1 W (by rw [HL1.out]; exact hn1c)).below h4 (Nat.le_refl _))
  have G4 := hid g4
  have H4 := hid (B8.out.trans h4)
  have HA4 := hid hA4
  have Q1 := hid q1
  clear g4 h4 hA4 q1 G8 B8
  go_upto_region 8 with fail
  refine wp_region_put (C := fun bb w' => match bb with | false => Drew w4 w' | true => Blk w' g 87 (msg (ShaM.passes (ShaM.passes s0 A1') (b1.take W)).get (64 + A1'.length + W) (lay 0 (n1 - W) (b1.drop W) (lay q k b f)) 64) ∧ Below g w4 w') 8 11 (by omega) (by kernel_rfl) (by kernel_rfl) (by kernel_rfl) (Drew.refl _) ?_
  simp only [List.take_succ_cons, List.take_zero, List.drop_succ_cons, List.drop_zero]
  apply wpS_val
  · decide
  · rfl
  · intro bb w' hw'
    go_simp
    first | exact rfl | exact ⟨rfl, hw'⟩
  simp only [Act.put, List.setIfInBounds_toArray, List.set_cons_succ, List.set_cons_zero]
  apply wpS_val
  · decide
  · rfl
  · intro bb w' hw'
    go_simp
    first | exact rfl | exact ⟨rfl, hw'⟩
  simp only [Act.put, List.setIfInBounds_toArray, List.set_cons_succ, List.set_cons_zero]
  apply wpS_val
  · decide
  · rfl
  · intro bb w' hw'
    go_simp
    first | exact rfl | exact ⟨rfl, hw'⟩
  simp only [Act.put, List.setIfInBounds_toArray, List.set_cons_succ, List.set_cons_zero]
  apply wpS_val
  · decide
  · rfl
  · intro bb w' hw'
    go_simp
    first | exact rfl | exact ⟨rfl, hw'⟩
  simp only [Act.put, List.setIfInBounds_toArray, List.set_cons_succ, List.set_cons_zero]
  apply wpS_val
  · decide
  · rfl
  · intro bb w' hw'
    go_simp
    first | exact rfl | exact ⟨rfl, hw'⟩
  simp only [Act.put, List.setIfInBounds_toArray, List.set_cons_succ, List.set_cons_zero]
  apply wpS_val
  · decide
  · rfl
  · intro bb w' hw'
    go_simp
    first | exact rfl | exact ⟨rfl, hw'⟩
  simp only [Act.put, List.setIfInBounds_toArray, List.set_cons_succ, List.set_cons_zero]
  apply wpS_val
  · decide
  · rfl
  · intro bb w' hw'
    go_simp
    first | exact rfl | exact ⟨rfl, hw'⟩
  simp only [Act.put, List.setIfInBounds_toArray, List.set_cons_succ, List.set_cons_zero]
  apply wpS_val
  · decide
  · rfl
  · intro bb w' hw'
    go_simp
    first | exact rfl | exact ⟨rfl, hw'⟩
  simp only [Act.put, List.setIfInBounds_toArray, List.set_cons_succ, List.set_cons_zero]
  apply wpS_put
  · rfl
  · rfl
  · intro w' hw'
    exact gives_cpm (p := 0) (k := n1 - W) rfl rfl (hw'.blk G4.out) (HA4.out.below (hw'.below (Below.refl g w4)) (Nat.le_refl _)) Q1.out (by omega) (by omega) fun w6 h1 h2 => ⟨h1, (hw'.below (Below.refl g w4)).trans h2⟩
  simp only [Act.put, List.setIfInBounds_toArray, List.set_cons_succ, List.set_cons_zero]
  apply wpS_val
  · decide
  · rfl
  · intro bb w' hw'
    go_simp
    first | exact rfl | exact ⟨rfl, hw'⟩
  simp only [Act.put, List.setIfInBounds_toArray, List.set_cons_succ, List.set_cons_zero]
  apply wpS_val
  · decide
  · rfl
  · intro bb w' hw'
    go_simp
    first | exact rfl | exact ⟨rfl, hw'⟩
  simp only [Act.put, List.setIfInBounds_toArray, List.set_cons_succ, List.set_cons_zero]
  refine wpS_nil fun w5 hw5 => ?_
  obtain ⟨g5, h5⟩ := hw5
  have b5 := H4.out.trans h5
  have k74 := g5.msgN
  have k74f := g5.frozen 74
  have G5 := hid g5
  have B5 := hid b5
  clear g5 h5 b5 G4 H4 HA4
  go_wp2_with fail
  all_goals
    go_end0
    refine ⟨rfl, ⟨A1' ++ b1.take W, b1.drop W, lay 0 (n1 - W) (b1.drop W) (lay q k b f), ?_, ?_, ?_, ?_, ?_⟩, B5.out.setCell (Nat.le_refl _) _⟩
    · rw [HA1E.out, HB1.out, List.append_assoc, List.take_append_drop, List.append_assoc, List.append_assoc, List.take_append_drop]
    · rw [List.length_append, List.length_take, HL1.out, HA1L.out]; have := HW.out; have := H0.out; omega
    · rw [Q1.out]; exact q2
    · intro j hj
      rw [Q1.out] at hj
      rw [lay_in (by omega), Nat.sub_zero]
    · have h := G5.out.msgSetN (n1 - W)
      rw [List.length_append, List.length_take, HL1.out, show min W n1 = W by omega, Q1.out, ShaM.passes_append (A1'.length / 64) (by have := HA1L.out; have := H0.out; omega), ← Nat.add_assoc]
      exact h
theorem add_any (s0 : ShaM.S8) (hs : s0.ok) (l0 : List Nat) (h0256 : B256 l0) (g : Nat) (A : Option Addr) (b : List Nat) (n cap : Nat) (hl : b.length = n) (hc : n ≤ cap) (hm : cap ≤ maxLen) (hz : 64 + l0.length + n ≤ 1000000000000000) (h256 : B256 b) (w : World)
    (hg0 : tabs < g) (hg : Fed s0 l0 w g) (hA : Byt w g A b) (hS : Salts w) :
    Calls Tryd.prog 59 #[.pointer (some ⟨g, 0, none⟩), .slice A n cap] w fun e w' => e = .returned (.tuple #[]) ∧ Fed s0 (l0 ++ b) w' g ∧ Below g w w' := by
  obtain ⟨A0, L0, f, rfl, h1, h2, h3, h4⟩ := hg
  rw [List.length_append] at hz
  rcases Nat.eq_zero_or_pos L0.length with h5 | h5
  · obtain rfl := List.eq_nil_of_length_eq_zero h5
    rw [List.append_nil]
    exact add_zero s0 hs A0 f g h1 A b n cap hl hc hm (by omega) h256 w h4 hA hS
  · rcases Nat.lt_or_ge (L0.length + n) 64 with h6 | h6
    · exact add_short s0 A0 L0 f g _ h5 rfl h1 h3 A b n cap hl h6 hc hm w h4 hA
    · exact add_fill s0 hs A0 L0 f g _ h5 h2 rfl h1 h3 (fun x hx => h0256 x (List.mem_append.2 (.inr hx))) A b n cap hl h6 hc hm (by omega) h256 w hg0 h4 hA hS
end Go.Proofs.YtmbhibilmedjmaaDoor
set_option maxRecDepth 100000
namespace Go.Proofs.YtmbhibilmedjmaaDoor
open Go.ChangeShapes Go.WideShapes Go.ChangeAt Go.RowKit
attribute [local go_sem] Gives
/-- A slice of slices of bytes. -/
def Prts (w : World) (B : Nat) (A : Option Addr) (ls : List (List Nat)) : Prop :=
  0 < ls.length → ∃ b o, A = some ⟨b, o, none⟩ ∧ b < B ∧ ∀ i, i < ls.length → ∃ A' c, w.cell? ⟨b, o + i, none⟩ = some (.slice A' (ls.getD i []).length c) ∧ (ls.getD i []).length ≤ c ∧ c ≤ maxLen ∧ Byt w B A' (ls.getD i [])
theorem Prts.below {B B' : Nat} {w w' : World} {A : Option Addr} {ls : List (List Nat)} (h : Prts w B A ls) (hb : Below B' w w') (hB : B ≤ B') : Prts w' B A ls := fun hn => by
  obtain ⟨b, o, rfl, hl, hr⟩ := h hn
  refine ⟨b, o, rfl, hl, fun i hi => ?_⟩
  obtain ⟨A', c, h1, h2, h3, h4⟩ := hr i hi
  exact ⟨A', c, (hb.cell (p := ⟨b, o + i, none⟩) (by show b < B'; omega)).trans h1, h2, h3, h4.below hb hB⟩
theorem Prts.more {B B' : Nat} {w : World} {A : Option Addr} {ls : List (List Nat)} (h : Prts w B A ls) (hB : B ≤ B') : Prts w B' A ls := fun hn => by
  obtain ⟨b, o, rfl, hl, hr⟩ := h hn
  refine ⟨b, o, rfl, by omega, fun i hi => ?_⟩
  obtain ⟨A', c, h1, h2, h3, h4⟩ := hr i hi
  exact ⟨A', c, h1, h2, h3, h4.more hB⟩
/-- All parts, one behind the other. -/
def flat (ls : List (List Nat)) : List Nat := ls.flatten
theorem flat_step {ls : List (List Nat)} {i : Nat} (h : i < ls.length) : flat (ls.take (i + 1)) = flat (ls.take i) ++ ls.getD i [] := by
  unfold flat
  rw [List.take_succ_eq_append_getElem h, List.flatten_append, List.flatten_singleton, List.getD_eq_getElem?_getD, List.getElem?_eq_getElem h]; rfl
theorem flat_256 {ls : List (List Nat)} (h : ∀ l ∈ ls, B256 l) : B256 (flat ls) := fun x hx => by
  obtain ⟨l, hl, hx⟩ := List.mem_flatten.1 hx
  exact h l hl x hx
theorem flat_take_le (ls : List (List Nat)) (i : Nat) : (flat (ls.take i)).length ≤ (flat ls).length := by
  conv => rhs; rw [← List.take_append_drop i ls]
  unfold flat
  rw [List.flatten_append, List.length_append]; omega
theorem part_256 {ls : List (List Nat)} (h : ∀ l ∈ ls, B256 l) (i : Nat) : B256 (ls.getD i []) := by
  rw [List.getD_eq_getElem?_getD]
  cases e : ls[i]? with
  | none => exact fun x hx => by cases hx
  | some l => exact h l (List.mem_of_getElem? e)
/-- The tag of parts under keys' prefixes. -/
def tagOf (s54 s92 : ShaM.S8) (l : List Nat) : Nat → Nat := ShaM.digest (ShaM.ended s92 64 (HmM.dl (ShaM.digest (ShaM.ended s54 64 l))))
theorem zlit_msg (f : Nat → Nat) : msg f 64 (fun _ => 0) 0 = msg f 64 (fun _ => 0) 0 := rfl
theorem alloc_tag (w : World) : (Instr.alloc 29 true (.tuple #[])).run Tryd.prog w = .ok (.pointer (some ⟨w.heap.size, 0, none⟩)) (w.alloc (.cells (tag fun _ => 0) 29)) := by
  have hz := (zero_of_info (P := Tryd.prog) (t := 29) (v := .agg (tag fun _ => 0)) (n := 32) (by kernel_rfl)).1
  simp [Instr.alloc, Sem.run_bind, hz w, newVar, newRow, Value.cells]
theorem zero_msg (w : World) : (zeroValue 87).run Tryd.prog w = .ok (.agg (row 75 fun j => if j < 10 then preC (fun _ => 0) 0 false j else if j < 74 then .int .u8 0 else .int .i64 0)) w :=
  (zero_of_info (P := Tryd.prog) (t := 87) (v := .agg (row 75 fun j => if j < 10 then preC (fun _ => 0) 0 false j else if j < 74 then .int .u8 0 else .int .i64 0)) (n := 75) (by kernel_rfl)).1 w
section
variable {ops : Array Oper} {a : Act} {rest : List Oper} {dst : Option Tmp} {ty : TypeId} {pos : String} {after : Array Edge} {x : Operand} {g o m : Nat} {f : Nat → Nat} {b : Bool} {C : World → Prop} {Qk : Act → Prop} {gd : Option (Nat × Bool)}
theorem blpm (hwt : Region.wanted ⟨dst, .load 69 x, ty, pos, after, gd⟩ (yielded ops a.tmps) = true) (hx : a.eval x = .pointer (some ⟨g, o, none⟩)) (hb : ∀ w, C w → w.rangeAt g o (pre f m b).toList) (h : wpB Tryd.prog ops C Qk rest (a.put dst (.agg (pre f m b)))) :
    wpB Tryd.prog ops C Qk (⟨dst, .load 69 x, ty, pos, after, gd⟩ :: rest) a :=
  wpB_val hwt (fun w hw => gives_value (w' := w) (by
    have := run_loadAt_mid (P := Tryd.prog) w g o 69 (pre f m b).toList _ (hb w hw) Tryd.underlying69 rfl (info_pre.trans (by rw [Array.length_toList, size_pre]))
    rw [Array.toArray_toList] at this
    simp only [execOp, hx, Sem.run_bind, this, Result.andThen_ok, Sem.run_pure]) ⟨hw, Below.refl _ _⟩) h
theorem klpm (hwt : Region.wanted ⟨dst, .load 69 x, ty, pos, after, gd⟩ (yielded ops a.tmps) = true) (hx : a.eval x = .pointer (some ⟨g, o, none⟩)) (hb : ∀ w, C w → w.rangeAt g o (pre f m b).toList) (h : wpK Tryd.prog ops C Qk rest (a.put dst (.agg (pre f m b)))) :
    wpK Tryd.prog ops C Qk (⟨dst, .load 69 x, ty, pos, after, gd⟩ :: rest) a :=
  wpK_val hwt (fun w hw => gives_value (w' := w) (by
    have := run_loadAt_mid (P := Tryd.prog) w g o 69 (pre f m b).toList _ (hb w hw) Tryd.underlying69 rfl (info_pre.trans (by rw [Array.length_toList, size_pre]))
    rw [Array.toArray_toList] at this
    simp only [execOp, hx, Sem.run_bind, this, Result.andThen_ok, Sem.run_pure]) hw) h
end
set_option maxHeartbeats 400000 in
set_option maxRecDepth 100000 in
theorem tag_any (s54 s92 : ShaM.S8) (h54 : s54.ok) (h92 : s92.ok) (A : Option Addr) (ls : List (List Nat)) (n cap : Nat) (hl : ls.length = n) (hn : n ≤ 1000000) (hls : ∀ l ∈ ls, B256 l) (hz : 64 + (flat ls).length ≤ 1000000000000000) (w : World) (hA : Prts w w.heap.size A ls) (hS : Salts w) :
    Calls Tryd.prog 47 #[.agg (kyd s54.get s92.get), .slice A n cap] w fun e w' => e = .returned (.agg (tag (tagOf s54 s92 (flat ls)))) ∧ Below w.heap.size w w' := by
  have HA := hid hA
  have HL := hid hl
  have SA := hid hS
  have H54 := hid h54
  have H92 := hid h92
  have HLS := hid hls
  clear hA hl hS h54 h92 hls
  have hZ := zero_msg
  go_enter Tryd.func47, Tryd.ntmps47
  go_upto_region 1 with fail
  generalize hw3 : World.alloc (World.alloc w _) _ = w3
  have b1 : Blk w3 w.heap.size 71 (kyd s54.get s92.get) := by rw [← hw3]; exact (Blk.top rfl rfl).alloc _
  have b2 : Blk w3 (w.heap.size + 1) 29 (tag fun _ => 0) := by rw [← hw3]; exact Blk.top zlit_tag (by simp)
  have hb : Below w.heap.size w w3 := by rw [← hw3]; exact ((Below.refl _ _).alloc (Nat.le_refl _) _).alloc (by simp) _
  have hz3 : w3.heap.size = w.heap.size + 2 := by rw [← hw3]; simp
  clear hw3
  have r1 := b1.kydA
  have HZ3 := hid hz3
  clear hz3
  go_upto_region 2 with (first | ((with_reducible apply ldpm); rfl; exact r1) | ((with_reducible apply bldm); rfl) | ((with_reducible apply stm); rfl; rfl; exact Blk.top rfl rfl; exact size_row))
  clear hZ r1
  generalize hw4 : World.setRow _ _ _ = w4
  obtain ⟨g, hg⟩ : ∃ g, g = w3.heap.size := ⟨_, rfl⟩
  rw [← hg]
  have c3 : Blk w4 g 87 (msg s54.get 64 (fun _ => 0) 0) := by rw [← hw4, hg]; exact (Blk.top rfl rfl).setRow_same _
  have c1 : Blk w4 w.heap.size 71 (kyd s54.get s92.get) := by rw [← hw4]; exact (b1.alloc _).setRow_other (by have := HZ3.out; omega) _
  have c2 : Blk w4 (w.heap.size + 1) 29 (tag fun _ => 0) := by rw [← hw4]; exact (b2.alloc _).setRow_other (by have := HZ3.out; omega) _
  have cb : Below w.heap.size w w4 := by rw [← hw4]; exact below_setRow (hb.alloc (by have := HZ3.out; omega) _) (by have := HZ3.out; omega) _
  have hgz : g = w.heap.size + 2 := by rw [hg, HZ3.out]
  have fd : Fed s54 (flat (ls.take 0)) w4 g := ⟨[], [], fun _ => 0, rfl, rfl, by simp, fun j hj => absurd hj (by simp), by rw [ShaM.passes_short (by simp)]; exact c3⟩
  have hg1 : w.heap.size + 1 < g := by omega
  have hg0 : tabs < g := Nat.lt_trans SA.out.1 (by omega)
  have hcell : ∀ i, i < n → ∃ A' c, w.cell? ⟨0, 0, none⟩ = w.cell? ⟨0, 0, none⟩ := fun i hi => ⟨A, cap, rfl⟩
  clear hw4 b1 b2 hb hg hgz c3 hcell HZ3 w3
  have C1 := hid c1
  have C2 := hid c2
  have CB := hid cb
  have FD := hid fd
  clear c1 c2 cb fd
  go_wp2_with fail
  go_loopw [14] (fun v wr => ∃ i : Nat, i ≤ n ∧ v = .int .i64 i ∧ Hid (Fed s54 (flat (ls.take i)) wr g) ∧ Hid (Below g w4 wr)) (fun v _ => n - (intOf v).toNat)
  case atStart => exact ⟨0, Nat.zero_le _, rfl, FD, hid (Below.refl _ _)⟩
  case round =>
    obtain ⟨i, hi, rfl, fd, hb4⟩ := hrel
    clear FD
    by_cases hlt : i < n
    · have ti : (i : Int) < (n : Int) := by omega
      have hlsi : i < ls.length := by rw [HL.out]; exact hlt
      have hst := flat_step hlsi
      have h256 := part_256 HLS.out i
      have hle := flat_take_le ls (i + 1)
      rw [hst, List.length_append] at hle
      have bel := CB.out.trans (hb4.out.mono (by omega))
      obtain ⟨b, o, rfl, hB, hr⟩ := (HA.out.below bel (Nat.le_refl _)) (by omega)
      obtain ⟨A', c', q1, q2, q3, q4⟩ := hr i hlsi
      obtain ⟨p, hp⟩ : ∃ p, p = ls.getD i [] := ⟨_, rfl⟩
      rw [← hp] at q1 q2 q4 hst h256 hle
      obtain ⟨pn, hpn⟩ : ∃ pn, pn = p.length := ⟨_, rfl⟩
      rw [← hpn] at q1 q2 hle
      have HPN := hid hpn
      clear hp hpn
      have h0256 : B256 (flat (ls.take i)) := flat_256 fun l hl => HLS.out l (List.mem_of_mem_take hl)
      have Q4 := hid q4
      have HST := hid hst
      have H256 := hid h256
      have H0256 := hid h0256
      have BEL := hid bel
      have Q2 := hid q2
      have Q3 := hid q3
      clear hst h256 h0256 bel hr q4 q2 q3
      go_wp2_with fail
      refine (add_any s54 H54.out (flat (ls.take i)) H0256.out g A' p pn c' HPN.out.symm Q2.out Q3.out (by omega) H256.out wr hg0 fd.out (Q4.out.more (by omega)) (SA.out.on BEL.out)).mono ?_
      rintro e w5 ⟨rfl, f5, b5⟩
      have F5 := hid f5
      have B5 := hid (hb4.out.trans b5)
      clear f5 b5 q1 Q4
      go_wp2_with fail
      go_roundw
      case rel => exact ⟨i + 1, by omega, by go_num, hid (by rw [HST.out]; exact F5.out), B5⟩
      case measure => simp [intOf]; omega
    · obtain rfl : i = n := by omega
      have hfull : ls.take i = ls := by rw [← HL.out, List.take_length]
      rw [hfull] at fd
      obtain ⟨A0, L0, f, h1, h2, h3, h4, g5⟩ := fd.out
      clear fd hfull
      have c1 := C1.out.below hb4.out (by omega)
      have c2 := C2.out.below hb4.out hg1
      have cb := CB.out.trans (hb4.out.mono (by omega))
      clear C1 C2 CB hb4
      have C1 := hid c1
      have C2 := hid c2
      have CB := hid cb
      have G5 := hid g5
      obtain ⟨q, hq⟩ : ∃ q, q = L0.length := ⟨_, rfl⟩
      have hq64 : (q : Int) ≤ 64 := by omega
      have hqn : q ≤ 64 := by omega
      rw [← hq] at G5
      have HQ := hid hq
      have H1 := hid h1
      have H2 := hid h2
      have H4 := hid h4
      have H3 := hid h3
      have hzl : (flat ls).length = A0.length + L0.length := by rw [h1, List.length_append]
      have HZL := hid hzl
      have h0256 : B256 L0 := fun x hx => flat_256 HLS.out x (by rw [h1]; exact List.mem_append.2 (.inr hx))
      have H0256 := hid h0256
      clear c1 c2 cb g5 hq h1 h2 h4 hzl h0256 h3
      go_upto_region 7 with fail
      have hgl := G5.out.lt
      refine wp_region_new1 (C := fun w' => Below wr.heap.size wr w') 7 29 (tag fun _ => 0) 8 rfl (by kernel_rfl) (by kernel_rfl) (by kernel_rfl) alloc_tag (Below.refl _ _).drew (fun w' hw' => hw'.alloc hw'.size _) (fun w' hw' => hw'.size) ?_
      simp only [List.take_succ_cons, List.take_zero, List.drop_succ_cons, List.drop_zero]
      apply wpB_val
      · rfl
      · intro w' hw'
        have hbl := Below.refl w'.heap.size w'
        go_simp
        first | exact rfl | exact ⟨rfl, hbl⟩ | exact ⟨rfl, hw', hbl⟩
      simp only [Act.put, List.setIfInBounds_toArray, List.set_cons_succ, List.set_cons_zero]
      apply blpm
      · rfl
      · rfl
      · exact fun w' hw' => (G5.out.below hw' G5.out.lt).msgA
      simp only [Act.put, List.setIfInBounds_toArray, List.set_cons_succ, List.set_cons_zero]
      apply wpB_val
      · rfl
      · intro w' hw'
        have hbl := Below.refl w'.heap.size w'
        go_simp
        first | exact rfl | exact ⟨rfl, hbl⟩ | exact ⟨rfl, hw', hbl⟩
      simp only [Act.put, List.setIfInBounds_toArray, List.set_cons_succ, List.set_cons_zero]
      apply wpB_val
      · rfl
      · intro w' hw'
        have hbl := Below.refl w'.heap.size w'
        go_simp
        first | exact rfl | exact ⟨rfl, hbl⟩ | exact ⟨rfl, hw', hbl⟩
      simp only [Act.put, List.setIfInBounds_toArray, List.set_cons_succ, List.set_cons_zero]
      apply wpB_val
      · rfl
      · intro w' hw'
        have hbl := Below.refl w'.heap.size w'
        have hcell : _ := (G5.out.below hw' G5.out.lt).msgN
        go_simp
        first | exact rfl | exact ⟨rfl, hbl⟩ | exact ⟨rfl, hw', hbl⟩
      simp only [Act.put, List.setIfInBounds_toArray, List.set_cons_succ, List.set_cons_zero]
      apply wpB_val
      · rfl
      · intro w' hw'
        have hbl := Below.refl w'.heap.size w'
        have ht : _ := hq64
        go_simp
        first | exact rfl | exact ⟨rfl, hbl⟩ | exact ⟨rfl, hw', hbl⟩
      simp only [Act.put, List.setIfInBounds_toArray, List.set_cons_succ, List.set_cons_zero]
      apply wpB_val
      · rfl
      · intro w' hw'
        go_simp
        exact (psum_ok (ShaM.passes s54 A0) (ShaM.passes_ok _ (Nat.le_refl _) H54.out) _ L0 q 64 (64 + A0.length) HQ.out.symm (by have := H2.out; omega) hqn (by unfold maxLen; omega) (by have := HZL.out; have := HQ.out; omega) H0256.out _ (((G5.out.below hw' G5.out.lt).msgByt (Nat.lt_of_lt_of_le hgl hw'.size) (by have := HQ.out; omega) fun j hj => H4.out j hj)) (SA.out.on (CB.out.trans (hw'.mono CB.out.size)))).mono fun e w'' ⟨he, hb''⟩ => ⟨he, hw'.trans (hb''.mono hw'.size), hb''⟩
      simp only [Act.put, List.setIfInBounds_toArray, List.set_cons_succ, List.set_cons_zero]
      refine wpB_nil fun g8 w5 hw5 q8 hg8 => ?_
      have c1 := C1.out.below hw5 C1.out.lt
      have c2 := C2.out.below hw5 C2.out.lt
      have bel := CB.out.trans (hw5.mono CB.out.size)
      have hgl0 : w.heap.size + 1 < wr.heap.size := C2.out.lt
      have et : ShaM.digest (ShaM.ended (ShaM.passes s54 A0) (64 + A0.length) L0) = ShaM.digest (ShaM.ended s54 64 (flat ls)) := by rw [H1.out, ShaM.ended_append (n := A0.length / 64) (by have := H2.out; omega)]
      rw [et]
      clear hw5 C1 C2 CB G5 et
      unfold ptr
      have C1 := hid c1
      have C2 := hid c2
      have CB := hid bel
      clear c1 c2 bel
      go_upto_region 8 with ((with_reducible apply stt); rfl; rfl; exact q8)
      generalize hw6 : World.setRow _ _ _ = w6
      have d8 : Blk w6 g8 29 (tag (ShaM.digest (ShaM.ended s54 64 (flat ls)))) := by rw [← hw6]; exact q8.setRow_same _
      have d1 : Blk w6 w.heap.size 71 (kyd s54.get s92.get) := by rw [← hw6]; exact C1.out.setRow_other (by omega) _
      have d2 : Blk w6 (w.heap.size + 1) 29 (tag fun _ => 0) := by rw [← hw6]; exact C2.out.setRow_other (by omega) _
      have db : Below w.heap.size w w6 := by rw [← hw6]; exact below_setRow CB.out (by omega) _
      clear hw6 q8 C1 C2 CB w5
      have C1 := hid d1
      have C2 := hid d2
      have C8 := hid d8
      have CB := hid db
      clear d1 d2 d8 db
      have hd256 : B256 (HmM.dl (ShaM.digest (ShaM.ended s54 64 (flat ls)))) := HmM.dl_256 fun k => ShaM.digest_lt _ k
      have HD := hid hd256
      clear hd256
      go_wp2_with fail
      refine wp_region_tail (C := fun w' => Below w6.heap.size w6 w') 4 (by kernel_rfl) (by kernel_rfl) (by kernel_rfl) (Below.refl _ _).drew ?_
      simp only [List.take_succ_cons, List.take_zero, List.drop_succ_cons, List.drop_zero]
      apply wpK_val
      · rfl
      · intro w' hw'
        go_simp
        first | exact rfl | exact ⟨rfl, hw'⟩
      simp only [Act.put, List.setIfInBounds_toArray, List.set_cons_succ, List.set_cons_zero]
      apply klpm
      · rfl
      · rfl
      · exact fun w' hw' => (C1.out.below hw' C1.out.lt).kydB
      simp only [Act.put, List.setIfInBounds_toArray, List.set_cons_succ, List.set_cons_zero]
      apply wpK_val
      · rfl
      · intro w' hw'
        go_simp
        first | exact rfl | exact ⟨rfl, hw'⟩
      simp only [Act.put, List.setIfInBounds_toArray, List.set_cons_succ, List.set_cons_zero]
      apply wpK_val
      · rfl
      · intro w' hw'
        go_simp
        exact (psum_ok s92 H92.out _ (HmM.dl (ShaM.digest (ShaM.ended s54 64 (flat ls)))) 32 32 64 (HmM.dl_length _) rfl (Nat.le_refl _) (by unfold maxLen; omega) (by omega) HD.out _ ((Blk.byt (C8.out.below hw' C8.out.lt) (Nat.lt_of_lt_of_le C8.out.lt hw'.size) (by rw [HmM.dl_length]; omega) fun j hj => by rw [HmM.dl_length] at hj; exact HmM.dl_get _ hj)) (SA.out.on (CB.out.trans (hw'.mono CB.out.size)))).mono fun e w'' ⟨he, hb''⟩ => ⟨he, hw'.trans (hb''.mono hw'.size)⟩
      simp only [Act.put, List.setIfInBounds_toArray, List.set_cons_succ, List.set_cons_zero]
      refine wpK_nil fun w7 hw7 => ?_
      have c2 := C2.out.below hw7 C2.out.lt
      have cb := CB.out.trans (hw7.mono CB.out.size)
      clear hw7 C1 C2 C8 CB
      go_wp2_with ((with_reducible apply stt); rfl; rfl; exact c2)
      apply ret_row Tryd.results47
      · exact c2.setRow_same _
      · exact Tryd.underlying29
      · rfl
      · exact (info_tag.trans (by rw [size_tag]))
      · rfl
      · rfl
      exact ⟨rfl, below_setRow cb (by omega) _⟩
/-- P4.1. -/
theorem tagOf_tag {key : List Nat} (l : List Nat) : tagOf (HmM.from' 54 (HmM.blk key)) (HmM.from' 92 (HmM.blk key)) l = HmM.tag key l := by
  unfold tagOf HmM.tag
  rw [HmM.sum_from (HmM.blk_length key), HmM.sum_from (HmM.blk_length key)]
set_option maxHeartbeats 400000 in
set_option maxRecDepth 100000 in
theorem parts_any (K : Option Addr) (key : List Nat) (kn kcap : Nat) (hkl : key.length = kn) (hkc : kn ≤ kcap) (hkm : kcap ≤ maxLen) (hkz : kn ≤ 1000000000000000) (hk256 : B256 key)
    (A : Option Addr) (ls : List (List Nat)) (n cap : Nat) (hl : ls.length = n) (hn : n ≤ 1000000) (hls : ∀ l ∈ ls, B256 l) (hz : 64 + (flat ls).length ≤ 1000000000000000) (w : World) (hK : Byt w w.heap.size K key) (hA : Prts w w.heap.size A ls) (hS : Salts w) :
    Calls Tryd.prog 36 #[.slice K kn kcap, .slice A n cap] w fun e w' => e = .returned (.agg (tag (HmM.tag key (flat ls)))) ∧ Below w.heap.size w w' := by
  have HA := hid hA
  have HK := hid hK
  have HL := hid hl
  have HKL := hid hkl
  have SA := hid hS
  have HLS := hid hls
  have HK2 := hid hk256
  clear hA hl hS hls hK hkl hk256
  go_enter Tryd.func36, Tryd.ntmps36
  go_upto_region 1 with fail
  generalize hw3 : World.alloc w _ = w3
  have b2 : Blk w3 w.heap.size 29 (tag fun _ => 0) := by rw [← hw3]; exact Blk.top zlit_tag rfl
  have hb : Below w.heap.size w w3 := by rw [← hw3]; exact (Below.refl _ _).alloc (Nat.le_refl _) _
  clear hw3
  have B2 := hid b2
  have BEL := hid hb
  clear b2 hb
  go_wp2_with fail
  refine (under_any K key kn kcap HKL.out hkc hkm hkz HK2.out w3 ((HK.out.below BEL.out (Nat.le_refl _)).more BEL.out.size) (SA.out.on BEL.out)).mono ?_
  rintro e w4 ⟨rfl, h4⟩
  have B4 := hid (B2.out.below h4 B2.out.lt)
  have BEL4 := hid (BEL.out.trans (h4.mono BEL.out.size))
  clear h4 B2 BEL w3
  go_wp2_with fail
  refine (tag_any _ _ (HmM.from_ok 54 _) (HmM.from_ok 92 _) A ls n cap HL.out hn HLS.out hz w4 ((HA.out.below BEL4.out (Nat.le_refl _)).more BEL4.out.size) (SA.out.on BEL4.out)).mono ?_
  rintro e w5 ⟨rfl, h5⟩
  rw [tagOf_tag]
  have b2 := B4.out.below h5 B4.out.lt
  have hb := BEL4.out.trans (h5.mono BEL4.out.size)
  clear h5
  go_wp2_with ((with_reducible apply stt); rfl; rfl; exact b2)
  apply ret_row Tryd.results36
  · exact b2.setRow_same _
  · exact Tryd.underlying29
  · rfl
  · exact (info_tag.trans (by rw [size_tag]))
  · rfl
  · rfl
  exact ⟨rfl, below_setRow hb (Nat.le_refl _) _⟩
set_option maxHeartbeats 400000 in
set_option maxRecDepth 100000 in
theorem hof_any (K : Option Addr) (key : List Nat) (kn kcap : Nat) (hkl : key.length = kn) (hkc : kn ≤ kcap) (hkm : kcap ≤ maxLen) (hkz : kn ≤ 1000000000000000) (hk256 : B256 key)
    (A : Option Addr) (l : List Nat) (n cap : Nat) (hl : l.length = n) (hc : n ≤ cap) (hm : cap ≤ maxLen) (hls : B256 l) (hz : 64 + n ≤ 1000000000000000) (w : World) (hK : Byt w w.heap.size K key) (hA : Byt w w.heap.size A l) (hS : Salts w) :
    Calls Tryd.prog 30 #[.slice K kn kcap, .slice A n cap] w fun e w' => e = .returned (.agg (tag (HmM.tag key l))) ∧ Below w.heap.size w w' := by
  have HA := hid hA
  have HK := hid hK
  have HL := hid hl
  have HKL := hid hkl
  have SA := hid hS
  have HLS := hid hls
  have HK2 := hid hk256
  clear hA hl hS hls hK hkl hk256
  go_enter Tryd.func30, Tryd.ntmps30
  go_upto_region 1 with fail
  generalize hw3 : World.alloc w _ = w3
  have b2 : Blk w3 w.heap.size 29 (tag fun _ => 0) := by rw [← hw3]; exact Blk.top zlit_tag rfl
  have hb : Below w.heap.size w w3 := by rw [← hw3]; exact (Below.refl _ _).alloc (Nat.le_refl _) _
  clear hw3
  have B2 := hid b2
  have BEL := hid hb
  clear b2 hb
  go_wp2_with fail
  generalize hw4 : World.alloc w3 _ = w4
  have b2 : Blk w4 w.heap.size 29 (tag fun _ => 0) := by rw [← hw4]; exact B2.out.alloc _
  have hb : Below w.heap.size w w4 := by rw [← hw4]; exact BEL.out.alloc BEL.out.size _
  have hp : Prts w4 w4.heap.size (some ⟨w3.heap.size, 0, none⟩) [l] := fun _ => by
    refine ⟨w3.heap.size, 0, rfl, by rw [← hw4]; simp, fun i hi => ?_⟩
    obtain rfl : i = 0 := by simp at hi; omega
    refine ⟨A, cap, ?_, by rw [show [l].getD 0 [] = l from rfl, HL.out]; exact hc, hm, (HA.out.below hb (Nat.le_refl _)).more hb.size⟩
    rw [show [l].getD 0 [] = l from rfl, HL.out, ← hw4]
    exact (Blk.top rfl rfl).cell 0
  clear hw4 B2 BEL
  have B2 := hid b2
  have BEL := hid hb
  have HP := hid hp
  clear b2 hb hp
  refine (parts_any K key kn kcap HKL.out hkc hkm hkz HK2.out _ [l] 1 1 rfl (by omega) (fun x hx => by rw [List.mem_singleton.1 hx]; exact HLS.out) (by rw [show flat [l] = l by simp [flat], HL.out]; exact hz) w4 ((HK.out.below BEL.out (Nat.le_refl _)).more BEL.out.size) HP.out (SA.out.on BEL.out)).mono ?_
  rintro e w5 ⟨rfl, h5⟩
  rw [show flat [l] = l by simp [flat]]
  have b2 := B2.out.below h5 B2.out.lt
  have hb := BEL.out.trans (h5.mono BEL.out.size)
  clear h5
  go_wp2_with ((with_reducible apply stt); rfl; rfl; exact b2)
  apply ret_row Tryd.results30
  · exact b2.setRow_same _
  · exact Tryd.underlying29
  · rfl
  · exact (info_tag.trans (by rw [size_tag]))
  · rfl
  · rfl
  exact ⟨rfl, below_setRow hb (Nat.le_refl _) _⟩
end Go.Proofs.YtmbhibilmedjmaaDoor
set_option maxRecDepth 100000
namespace Go.Proofs.YtmbhibilmedjmaaDoor
open Go.ChangeShapes Go.WideShapes Go.ChangeAt Go.RowKit
attribute [local go_sem] Gives
/-- Are two tags alike? -/
def eqT (f g : Nat → Nat) : Bool := eqN 32 (fun k => f k) fun k => g k
theorem eqT_iff {f g : Nat → Nat} : eqT f g = true ↔ ∀ k, k < 32 → f k = g k := by
  unfold eqT eqN
  rw [List.all_eq_true]
  constructor
  · intro h k hk
    have := h k (List.mem_range.2 hk)
    exact Int.ofNat_inj.1 (beq_iff_eq.1 this)
  · intro h k hk
    have := h k (List.mem_range.1 hk)
    exact beq_iff_eq.2 (congrArg _ this)
theorem eqT_self (f : Nat → Nat) : eqT f f = true := eqT_iff.2 fun _ _ => rfl
theorem xor_zero {x y : Nat} : x ^^^ y = 0 ↔ x = y := by
  constructor
  · intro h
    have h2 : x ^^^ (x ^^^ y) = y := by rw [← Nat.xor_assoc, Nat.xor_self, Nat.zero_xor]
    rw [h, Nat.xor_zero] at h2
    exact h2
  · rintro rfl; exact Nat.xor_self _
section
variable {ops : Array Oper} {Q : Exit → Act → World → Prop} {a : Act} {w : World} {rest : List Oper} {dst : Option Tmp} {ty : TypeId} {pos : String} {after : Array Edge} {x : Operand} {g : Nat} {f : Nat → Nat}
/-- A tag loaded, behind a guard that says yes. -/
theorem ldtg {gd : Option (Nat × Bool)} (hwt : Region.wanted ⟨dst, .load 29 x, ty, pos, after, gd⟩ (yielded ops a.tmps) = true) (hx : a.eval x = .pointer (some ⟨g, 0, none⟩)) (hb : Blk w g 29 (tag f))
    (h : wpList Tryd.prog ops Q rest (a.put dst (.agg (tag f))) w) : wpList Tryd.prog ops Q (⟨dst, .load 29 x, ty, pos, after, gd⟩ :: rest) a w := by
  unfold wpList
  rw [if_pos hwt]
  exact .inl (wp_load_row (P := Tryd.prog) 29 x rfl g hx 29 (tag f) (0, 0) _ hb Tryd.underlying29 rfl (info_tag.trans (by rw [size_tag])) h)
end
end Go.Proofs.YtmbhibilmedjmaaDoor
set_option maxRecDepth 100000
namespace Go.Proofs.YtmbhibilmedjmaaDoor
open Go.ChangeShapes Go.WideShapes Go.ChangeAt Go.RowKit
theorem eqg_tag : Tryd.prog.eqGuardType Tryd.prog.depth 29 = false := by kernel_rfl
theorem eq_tag (f g : Nat → Nat) (w : World) : (Op.equalIn 10000 29 (.agg (tag f)) (.agg (tag g))).run Tryd.prog w = .ok (eqT f g) w :=
  run_equalIn_row (P := Tryd.prog) (d := 9998) (t := 29) (e := 5) (k := .u8) (n := 32) (f := fun k => f k) (g := fun k => g k) Tryd.underlying29 Tryd.underlying5 (by kernel_rfl) w
theorem eq_tag_self (f : Nat → Nat) (w : World) : (Op.equalIn 10000 29 (.agg (tag f)) (.agg (tag f))).run Tryd.prog w = .ok true w := by
  rw [eq_tag, eqT_self]
theorem klt {ops : Array Oper} {a : Act} {rest : List Oper} {dst : Option Tmp} {ty : TypeId} {pos : String} {after : Array Edge} {x : Operand} {g : Nat} {f : Nat → Nat} {C : World → Prop} {Qk : Act → Prop} {gd : Option (Nat × Bool)}
    (hwt : Region.wanted ⟨dst, .load 29 x, ty, pos, after, gd⟩ (yielded ops a.tmps) = true) (hx : a.eval x = .pointer (some ⟨g, 0, none⟩)) (hb : ∀ w, C w → Blk w g 29 (tag f)) (h : wpK Tryd.prog ops C Qk rest (a.put dst (.agg (tag f)))) :
    wpK Tryd.prog ops C Qk (⟨dst, .load 29 x, ty, pos, after, gd⟩ :: rest) a :=
  wpK_val hwt (fun w hw => gives_value (w' := w) (by
    have h1 : w.rangeAt g 0 (tag f).toList := fun j v hj => by
      rw [Array.getElem?_toList] at hj
      rw [Nat.zero_add, (hb w hw).cell]
      exact hj
    have := run_loadAt_mid (P := Tryd.prog) w g 0 29 (tag f).toList _ h1 Tryd.underlying29 rfl (info_tag.trans (by rw [Array.length_toList, size_tag]))
    rw [Array.toArray_toList] at this
    simp only [execOp, hx, Sem.run_bind, this, Result.andThen_ok, Sem.run_pure]) hw) h
end Go.Proofs.YtmbhibilmedjmaaDoor
set_option maxRecDepth 100000
namespace Go.Proofs.YtmbhibilmedjmaaDoor
open Go.ChangeShapes Go.WideShapes Go.ChangeAt Go.RowKit
attribute [local go_sem] Gives
theorem dl_take (f : Nat → Nat) {i : Nat} (h : i < 32) : (HmM.dl f).take (i + 1) = (HmM.dl f).take i ++ [f i] := by
  have hl : i < (HmM.dl f).length := by rw [HmM.dl_length]; exact h
  rw [List.take_succ_eq_append_getElem hl, ← nums_at hl, HmM.dl_get _ h]
theorem dl_full (f : Nat → Nat) : (HmM.dl f).take 32 = HmM.dl f := List.take_of_length_le (by rw [HmM.dl_length]; omega)
theorem pad_take (x : Nat) (k : List Nat) {i : Nat} (h : i < k.length) : (HmM.pad x k).take (i + 1) = (HmM.pad x k).take i ++ [k.getD i 0 ^^^ x] := by
  have hl : i < (HmM.pad x k).length := by rw [HmM.pad_length]; exact h
  rw [List.take_succ_eq_append_getElem hl, ← nums_at hl, HmM.pad_get _ _ h]
set_option maxHeartbeats 1000000 in
set_option maxRecDepth 100000 in
theorem rblock_any (K : Option Addr) (key : List Nat) (kn kcap : Nat) (hkl : key.length = kn) (hkn : kn ≤ 100000) (hk0 : K = none → kn = 0 ∧ kcap = 0) (hk256 : B256 key) (w : World) (hK : Byt w w.heap.size K key) :
    Calls Tryd.prog 44 #[.slice K kn kcap] w fun e w' => Fresh .u8 w w' e (HmM.blk key) := by
  have HK := hid hK
  have HKL := hid hkl
  have H256 := hid hk256
  have hcl := HmM.cutK_len key
  have hbl : HmM.blk key = HmM.cutK key ++ List.replicate (64 - (HmM.cutK key).length) 0 := rfl
  rw [hbl]
  clear hbl
  by_cases h64 : 64 < kn
  · have t0 : decide ((64 : Int) < (kn : Int)) = true := by simp; omega
    have hck : HmM.cutK key = HmM.dl (ShaM.sum key) := by unfold HmM.cutK; rw [if_pos (by rw [hkl]; exact h64)]
    rw [hck] at hcl ⊢
    obtain ⟨C, hC⟩ : ∃ C, C = HmM.dl (ShaM.sum key) := ⟨_, rfl⟩
    rw [← hC] at hcl ⊢
    have HC := hid hC
    clear hK hkl hk256 hck hC
    go_enter Tryd.func44, Tryd.ntmps44
    go_wp2_with fail
    refine (rsum_any K key kn kcap HKL.out hkn hk0 H256.out w HK.out).mono ?_
    rintro e w1 ⟨rfl, h1⟩
    have hz1 := h1.size
    go_upto_region 4 with ((with_reducible apply stt); rfl; rfl; exact Blk.top zlit_tag rfl)
    generalize hw2 : World.setRow _ _ _ = w2
    have c2 : Blk w2 w1.heap.size 29 (tag (ShaM.sum key)) := by rw [← hw2]; exact (Blk.top zlit_tag rfl).setRow_same _
    have b2 : Below w.heap.size w w2 := by rw [← hw2]; exact below_setRow (h1.alloc hz1 _) hz1 _
    clear hw2 h1 hz1
    obtain ⟨g, hg⟩ : ∃ g, g = w1.heap.size := ⟨_, rfl⟩
    rw [← hg] at c2 ⊢
    clear hg
    have C2 := hid c2
    have B2 := hid b2
    have hgl := c2.lt
    clear c2 b2
    go_wp2_with fail
    go_loopw [3, 5] (fun u v wr => ∃ (i : Nat) (vo : Value), i ≤ 32 ∧ v = .int .i64 i ∧ u = vo ∧ Hid (Own 5 .u8 wr w2.heap.size vo (C.take i)) ∧ Hid (Below w2.heap.size w2 wr)) (fun _ v _ => 32 - (intOf v).toNat)
    case atStart => exact ⟨0, _, by omega, rfl, rfl, hid Own.nil, hid (Below.refl _ _)⟩
    case round =>
      obtain ⟨i, vo, hi, rfl, rfl, ho, hb⟩ := hrel
      have hzw := hb.out.size
      have cr := C2.out.below hb.out hgl
      by_cases hlt : i < 32
      · have ti : (i : Int) < 32 := by omega
        have q1 := (cr.cell i).trans (get_tag hlt)
        have hst : C.take (i + 1) = C.take i ++ [ShaM.sum key i] := by rw [HC.out]; exact dl_take _ hlt
        have hlen : (C.take i).length = i := by rw [List.length_take, HC.out, HmM.dl_length]; omega
        have hx := HmM.sum_256 key i
        generalize ShaM.sum key i = x at *
        have HST := hid hst
        have HLEN := hid hlen
        clear hst hlen cr
        go_wp2_with (at_builtin; (with_reducible apply wappN eltB); rfl; rfl; exact ho.out.alloc _; exact nums_one (x := x) (B := wr.heap.size + 1) rfl (Nat.lt_succ_self _); rfl; (rw [HLEN.out]; omega); (simp; omega); intro v' w4 o4 g4)
        have b4 := below_grown (hb.out.alloc hzw (.cells #[.int .u8 (x : Nat)] 5)) g4 ho.out (Nat.le_refl _) (Nat.le_refl _)
        go_roundw
        case rel => exact ⟨i + 1, v', by omega, by go_num, rfl, hid (by rw [HST.out]; exact o4), hid b4⟩
        case measure => simp [intOf] <;> omega
      · obtain rfl : i = 32 := by omega
        have ho2 := ho.out
        rw [show C.take 32 = C from by rw [HC.out]; exact dl_full _] at ho2
        have hbb := B2.out.trans (hb.out.mono B2.out.size)
        have hl32 : C.length = 32 := by rw [HC.out, HmM.dl_length]
        have e0 : C ++ List.replicate 0 0 = C := by rw [List.replicate_zero, List.append_nil]
        rw [← e0] at ho2
        have O2 := hid ho2
        have BB := hid hbb
        have HL32 := hid hl32
        obtain ⟨A3, c3, e3, _, _, _⟩ := ho2.any
        rw [e0, hl32] at e3
        subst e3
        rw [show ((32 : Nat) : Int) = (32 : Int) from rfl]
        obtain ⟨w3, hw3⟩ : ∃ w3, w3 = wr := ⟨_, rfl⟩
        subst hw3
        have HZ23 : w2.heap.size ≤ w3.heap.size := hzw
        have O2' : Hid (Own 5 .u8 w3 w2.heap.size (.slice A3 32 c3) (C ++ List.replicate 0 0)) := O2
        clear ho2 hbb hl32 e0 ho cr C2
        go_wp2_with fail
        go_loopw [3] (fun u wr => ∃ (m N : Nat) (A : Option Addr) (cp : Nat), u = .slice A N cp ∧ Hid (N = 32 + m) ∧ N ≤ 64 ∧ w2.heap.size ≤ wr.heap.size ∧ Hid (Own 5 .u8 wr w2.heap.size u (C ++ List.replicate m 0)) ∧ Hid (Below w.heap.size w wr)) (fun u _ => 64 - lenOf u)
        case atStart => exact ⟨0, 32, A3, c3, rfl, hid rfl, by omega, HZ23, O2', BB⟩
        case round =>
          obtain ⟨m, N, A, cp, rfl, hN, hN64, hbz, ho, hb⟩ := hrel
          clear O2' BB
          have hlen : (C ++ List.replicate m 0).length = N := by rw [List.length_append, List.length_replicate, HL32.out]; exact hN.out.symm
          have HLEN := hid hlen
          clear hlen
          by_cases hlt : N < 64
          · have tN : (N : Int) < 64 := by omega
            go_wp2_with (at_builtin; (with_reducible apply wappN eltB); rfl; rfl; exact ho.out.alloc _; exact nums_one (x := 0) (B := wr.heap.size + 1) rfl (Nat.lt_succ_self _); rfl; (rw [HLEN.out]; omega); (simp; omega); intro v' w4 o4 g4)
            have b4 := below_grown (hb.out.alloc hb.out.size (.cells #[.int .u8 0] 5)) g4 ho.out B2.out.size (Nat.le_refl _)
            have hz4 := g4.size
            simp only [World.size_alloc] at hz4
            obtain ⟨A4, c4, e4, _, _, _⟩ := o4.any
            rw [List.length_append, HLEN.out, List.length_singleton] at e4
            subst e4
            go_roundw
            case rel => exact ⟨m + 1, N + 1, A4, c4, rfl, hid (by have := hN.out; omega), by omega, by omega, hid (by rw [List.replicate_succ', ← List.append_assoc]; exact o4), hid b4⟩
            case measure => simp [lenOf] <;> omega
          · have tN : decide ((N : Int) < 64) = false := by simp; omega
            have hm : m = 64 - C.length := by rw [HL32.out]; have := hN.out; omega
            have hfin := ho.out.fresh hb.out
            rw [hm] at hfin
            have HF := hid hfin
            clear hfin ho hm
            go_wp2_with fail
            go_ret
            exact HF.out
  · have t0 : decide ((64 : Int) < (kn : Int)) = false := by simp; omega
    have hck : HmM.cutK key = key := by unfold HmM.cutK; rw [if_neg (by rw [hkl]; exact h64)]
    rw [hck] at hcl ⊢
    obtain ⟨C, hC⟩ : ∃ C, C = key := ⟨_, rfl⟩
    rw [← hC] at hcl HK HKL ⊢
    clear hK hkl hk256 hck hC H256
    go_enter Tryd.func44, Tryd.ntmps44
    go_upto_region 9 with (at_builtin; (with_reducible apply wappN_any eltB); rfl; rfl; exact hk0; exact (Own.nil (e := 5) (k := .u8) (w := w) (B := w.heap.size)); exact HK.out.nums; exact HKL.out; (rw [List.length_nil]; omega); exact Nat.le_refl _; intro v1 w3 o3 g3)
    rw [List.nil_append] at o3
    have b3 := below_grown (Below.refl w.heap.size w) g3 (Own.nil (e := 5) (k := .u8) (w := w) (B := w.heap.size)) (Nat.le_refl _) (Nat.le_refl _)
    have e0 : C ++ List.replicate 0 0 = C := by rw [List.replicate_zero, List.append_nil]
    obtain ⟨A3, c3, e3, _, _, _⟩ := o3.any
    rw [HKL.out] at e3
    subst e3
    rw [← e0] at o3
    have O2' := hid o3
    have BB := hid b3
    clear o3 b3 g3 e0
    go_loopw [3] (fun u wr => ∃ (m N : Nat) (A : Option Addr) (cp : Nat), u = .slice A N cp ∧ Hid (N = kn + m) ∧ N ≤ 64 ∧ w.heap.size ≤ wr.heap.size ∧ Hid (Own 5 .u8 wr w.heap.size u (C ++ List.replicate m 0)) ∧ Hid (Below w.heap.size w wr)) (fun u _ => 64 - lenOf u)
    case atStart => exact ⟨0, kn, A3, c3, rfl, hid rfl, by omega, BB.out.size, O2', BB⟩
    case round =>
      obtain ⟨m, N, A, cp, rfl, hN, hN64, hbz, ho, hb⟩ := hrel
      clear O2' BB
      have hlen : (C ++ List.replicate m 0).length = N := by rw [List.length_append, List.length_replicate, HKL.out]; exact hN.out.symm
      have HLEN := hid hlen
      clear hlen
      by_cases hlt : N < 64
      · have tN : (N : Int) < 64 := by omega
        go_wp2_with (at_builtin; (with_reducible apply wappN eltB); rfl; rfl; exact ho.out.alloc _; exact nums_one (x := 0) (B := wr.heap.size + 1) rfl (Nat.lt_succ_self _); rfl; (rw [HLEN.out]; omega); (simp; omega); intro v' w4 o4 g4)
        have b4 := below_grown (hb.out.alloc hb.out.size (.cells #[.int .u8 0] 5)) g4 ho.out (Nat.le_refl _) (Nat.le_refl _)
        have hz4 := g4.size
        simp only [World.size_alloc] at hz4
        obtain ⟨A4, c4, e4, _, _, _⟩ := o4.any
        rw [List.length_append, HLEN.out, List.length_singleton] at e4
        subst e4
        go_roundw
        case rel => exact ⟨m + 1, N + 1, A4, c4, rfl, hid (by have := hN.out; omega), by omega, by omega, hid (by rw [List.replicate_succ', ← List.append_assoc]; exact o4), hid b4⟩
        case measure => simp [lenOf] <;> omega
      · have tN : decide ((N : Int) < 64) = false := by simp; omega
        have hm : m = 64 - C.length := by rw [HKL.out]; have := hN.out; omega
        have hfin := ho.out.fresh hb.out
        rw [hm] at hfin
        have HF := hid hfin
        clear hfin ho hm
        go_wp2_with fail
        go_ret
        exact HF.out
end Go.Proofs.YtmbhibilmedjmaaDoor
set_option maxRecDepth 100000
namespace Go.Proofs.YtmbhibilmedjmaaDoor
open Go.ChangeShapes Go.WideShapes Go.ChangeAt Go.RowKit
attribute [local go_sem] Gives
set_option maxHeartbeats 2000000 in
set_option maxRecDepth 100000 in
theorem rof_any (K : Option Addr) (key : List Nat) (kn kcap : Nat) (hkl : key.length = kn) (hkn : kn ≤ 100000) (hk0 : K = none → kn = 0 ∧ kcap = 0) (hk256 : B256 key)
    (A : Option Addr) (l : List Nat) (n cap : Nat) (hl : l.length = n) (hn : n ≤ 90000) (h0 : A = none → n = 0 ∧ cap = 0) (h256 : B256 l) (w : World) (hK : Byt w w.heap.size K key) (hA : Byt w w.heap.size A l) :
    Calls Tryd.prog 35 #[.slice K kn kcap, .slice A n cap] w fun e w' => e = .returned (.agg (tag (HmM.tag key l))) ∧ Below w.heap.size w w' := by
  have hbl := HmM.blk_length key
  have hb256 := HmM.blk_256 hk256
  have RB := hid fun (w : World) (hK : Byt w w.heap.size K key) => rblock_any K key kn kcap hkl hkn hk0 hk256 w hK
  have htag : HmM.tag key l = ShaM.sum (HmM.pad 92 (HmM.blk key) ++ HmM.dl (ShaM.sum (HmM.pad 54 (HmM.blk key) ++ l))) := rfl
  rw [htag]
  clear htag
  generalize HmM.blk key = bk at *
  obtain ⟨I, hI⟩ : ∃ I, I = HmM.pad 54 bk := ⟨_, rfl⟩
  obtain ⟨O, hO⟩ : ∃ O, O = HmM.pad 92 bk := ⟨_, rfl⟩
  have hIl : I.length = 64 := by rw [hI, HmM.pad_length, hbl]
  have hOl : O.length = 64 := by rw [hO, HmM.pad_length, hbl]
  have hI256 : B256 I := by rw [hI]; exact HmM.pad_256 (by omega) hb256
  have hO256 : B256 O := by rw [hO]; exact HmM.pad_256 (by omega) hb256
  have hIst : ∀ i, i < 64 → I.take (i + 1) = I.take i ++ [bk.getD i 0 ^^^ 54] := fun i hi => by rw [hI]; exact pad_take 54 bk (by rw [hbl]; exact hi)
  have hOst : ∀ i, i < 64 → O.take (i + 1) = O.take i ++ [bk.getD i 0 ^^^ 92] := fun i hi => by rw [hO]; exact pad_take 92 bk (by rw [hbl]; exact hi)
  rw [← hI, ← hO]
  have HK := hid hK
  have HA := hid hA
  have HL := hid hl
  have HBL := hid hbl
  have HB256 := hid hb256
  have HIL := hid hIl
  have HOL := hid hOl
  have HI256 := hid hI256
  have HO256 := hid hO256
  have HIST := hid hIst
  have HOST := hid hOst
  have H256 := hid h256
  clear hI hO hIst hOst hIl hOl hI256 hO256 hK hA hl hbl hb256 h256 hkl hk256
  go_enter Tryd.func35, Tryd.ntmps35
  go_upto_region 1 with fail
  generalize hw1 : World.alloc w _ = w1
  have b1 : Blk w1 w.heap.size 29 (tag fun _ => 0) := by rw [← hw1]; exact Blk.top zlit_tag rfl
  have hb : Below w.heap.size w w1 := by rw [← hw1]; exact (Below.refl _ _).alloc (Nat.le_refl _) _
  clear hw1
  have B1 := hid b1
  have BEL := hid hb
  clear b1 hb
  go_wp2_with fail
  refine (RB.out w1 ((HK.out.below BEL.out (Nat.le_refl _)).more BEL.out.size)).mono ?_
  rintro e w3 ⟨Ab, cb, rfl, _, _, nb, h3⟩
  rw [HBL.out]
  obtain ⟨bb, ob, rfl, hBb, hrb⟩ := nb (by rw [HBL.out]; omega)
  rw [HBL.out] at hrb
  have HRB := hid hrb
  have B3 := hid (B1.out.below h3 B1.out.lt)
  have BEL3 := hid (BEL.out.trans (h3.mono BEL.out.size))
  have hz13 := h3.size
  have hwz : w.heap.size < w3.heap.size := Nat.lt_of_lt_of_le B1.out.lt h3.size
  clear nb hrb h3 B1 BEL RB
  go_wp2_with fail
  go_loopw [6, 7, 8] (fun u1 u2 v wr => ∃ (i : Nat) (vi vo : Value), i ≤ 64 ∧ v = .int .i64 i ∧ u1 = vi ∧ u2 = vo ∧ Hid (Own 5 .u8 wr w3.heap.size vi (I.take i)) ∧ Hid (Own 5 .u8 wr w3.heap.size vo (O.take i)) ∧ Hid (Apart vi vo) ∧ Hid (Below w3.heap.size w3 wr)) (fun _ _ v _ => 64 - (intOf v).toNat)
  case atStart => exact ⟨0, _, _, by omega, rfl, rfl, rfl, hid Own.nil, hid Own.nil, hid (Apart.nil _), hid (Below.refl _ _)⟩
  case round =>
    obtain ⟨i, vi, vo, hi, rfl, rfl, rfl, ho1, ho2, hap, hb⟩ := hrel
    have hzw := hb.out.size
    by_cases hlt : i < 64
    · have ti : (i : Int) < 64 := by omega
      have hIs := HIST.out i hlt
      have hOs := HOST.out i hlt
      have q1 : wr.cell? ⟨bb, ob + i, none⟩ = some (.int .u8 (bk.getD i 0 : Nat)) := (hb.out.cell (p := ⟨bb, ob + i, none⟩) hBb).trans (HRB.out i hlt)
      have hx : bk.getD i 0 < 256 := ShaM.getD_lt (by omega) HB256.out i
      obtain ⟨x, hxx⟩ : ∃ x, x = bk.getD i 0 := ⟨_, rfl⟩
      rw [← hxx] at hIs hOs q1 hx
      have e1 : bits .xor .u8 (x : Int) 54 = ((x ^^^ 54 : Nat) : Int) := u8_xor_nat x 54 hx (by omega)
      have e2 : bits .xor .u8 (x : Int) 92 = ((x ^^^ 92 : Nat) : Int) := u8_xor_nat x 92 hx (by omega)
      obtain ⟨y, hy⟩ : ∃ y, y = x ^^^ 54 := ⟨_, rfl⟩
      obtain ⟨z, hz⟩ : ∃ z, z = x ^^^ 92 := ⟨_, rfl⟩
      rw [← hy] at e1 hIs
      rw [← hz] at e2 hOs
      have HIS := hid hIs
      have HOS := hid hOs
      have HQ := hid fun (w' : World) (h : Below w3.heap.size w3 w') => (h.cell (p := ⟨bb, ob + i, none⟩) hBb).trans (HRB.out i hlt)
      have HXX := hid hxx
      have HLI := hid (show (I.take i).length = i by rw [List.length_take, HIL.out]; omega)
      have HLO := hid (show (O.take i).length = i by rw [List.length_take, HOL.out]; omega)
      clear hIs hOs hxx hy hz
      go_upto_region 8 with (at_builtin; (with_reducible apply wappW eltB); rfl; rfl; (intro h; cases h); exact ho1.out.alloc _; exact nums_one (x := y) (B := wr.heap.size + 1) rfl (Nat.lt_succ_self _); rfl; (rw [HLI.out]; omega); (simp; omega); intro v1 w4 o4 g4 p4)
      have b4 := below_grown (hb.out.alloc hzw (.cells #[.int .u8 (y : Nat)] 5)) g4 ho1.out (Nat.le_refl _) (Nat.le_refl _)
      have k4 := (ho2.out.alloc (.cells #[.int .u8 (y : Nat)] 5)).keep g4 hap.out.symm
      have a4 := hap.out.symm.app (ho2.out.alloc (.cells #[.int .u8 (y : Nat)] 5)) p4
      have q4 := HQ.out w4 b4
      rw [← HXX.out] at q4
      have O4 := hid o4
      have K4 := hid k4
      have A4 := hid a4
      have B4 := hid b4
      have hz4 := b4.size
      clear o4 k4 a4 b4 g4 p4 q1 ho1 ho2
      go_wp2_with (at_builtin; (with_reducible apply wappW eltB); rfl; rfl; (intro h; cases h); exact K4.out.alloc _; exact nums_one (x := z) (B := w4.heap.size + 1) rfl (Nat.lt_succ_self _); rfl; (rw [HLO.out]; omega); (simp; omega); intro v2 w5 o5 g5 p5)
      have b5 := below_grown (B4.out.alloc hz4 (.cells #[.int .u8 (z : Nat)] 5)) g5 K4.out (Nat.le_refl _) (Nat.le_refl _)
      have k5 := (O4.out.alloc (.cells #[.int .u8 (z : Nat)] 5)).keep g5 A4.out.symm
      have a5 := A4.out.symm.app (O4.out.alloc (.cells #[.int .u8 (z : Nat)] 5)) p5
      go_roundw
      case rel => exact ⟨i + 1, v1, v2, by omega, by go_num, rfl, rfl, hid (by rw [HIS.out]; exact k5), hid (by rw [HOS.out]; exact o5), hid a5, hid b5⟩
      case measure => simp [intOf] <;> omega
    · obtain rfl : i = 64 := by omega
      have oi := ho1.out
      have oo := ho2.out
      rw [List.take_of_length_le (by rw [HIL.out]; omega)] at oi
      rw [List.take_of_length_le (by rw [HOL.out]; omega)] at oo
      have OI := hid oi
      have OO := hid oo
      have BR := hid (BEL3.out.trans (hb.out.mono BEL3.out.size))
      have hbz := BR.out.size
      clear oi oo ho1 ho2
      rw [show ((64 : Nat) : Int) = (64 : Int) from rfl]
      go_upto_region 10 with (at_builtin; (with_reducible apply wappW eltB); rfl; rfl; exact h0; exact OI.out; exact ((HA.out.below BR.out (Nat.le_refl _)).more hbz).nums; exact HL.out; (rw [HIL.out]; omega); exact hzw; intro v1 w4 o4 g4 p4)
      have b4 := below_grown hb.out g4 OI.out (Nat.le_refl _) (Nat.le_refl _)
      have k4 := OO.out.keep g4 hap.out.symm
      obtain ⟨A5, c5, e5, _, _, n5⟩ := o4.any
      have hl5 : (I ++ l).length = 64 + n := by rw [List.length_append, HIL.out, HL.out]
      obtain ⟨N, hN⟩ : ∃ N, N = 64 + n := ⟨_, rfl⟩
      rw [← hN] at hl5
      rw [hl5] at e5
      subst e5
      have hA5 : A5 = none → N = 0 ∧ c5 = 0 := fun e => by
        subst e
        exfalso
        obtain ⟨_, _, e', _⟩ := n5 (by rw [hl5]; omega)
        cases e'
      have K4 := hid k4
      have B4 := hid b4
      have N5 := hid n5
      have HA5 := hid hA5
      have HL5 := hid hl5
      have hN9 : N ≤ 100000 := by omega
      clear k4 b4 n5 hA5 hl5 o4 g4 p4 OI OO hN
      go_wp2_with fail
      refine (rsum_any A5 (I ++ l) N c5 HL5.out hN9 HA5.out (HI256.out.append H256.out) w4 N5.out.byt).mono ?_
      rintro e w6 ⟨rfl, h6⟩
      obtain ⟨D, hD⟩ : ∃ D, D = ShaM.sum (I ++ l) := ⟨_, rfl⟩
      have hD256 : ∀ k, D k < 256 := fun k => by rw [hD]; exact HmM.sum_256 _ k
      rw [← hD]
      have HD := hid hD
      have HD256 := hid hD256
      have hz6 := h6.size
      have K6 := hid (K4.out.below h6)
      have B6 := hid (B4.out.trans (h6.mono B4.out.size))
      have hz46 := B6.out.size
      clear hD hD256 h6 K4 B4 N5
      go_upto_region 11 with ((with_reducible apply stt); rfl; rfl; exact Blk.top zlit_tag rfl)
      generalize hw7 : World.setRow _ _ _ = w7
      obtain ⟨g, hg⟩ : ∃ g, g = w6.heap.size := ⟨_, rfl⟩
      have d7 : Blk w7 g 29 (tag D) := by rw [← hw7, hg]; exact (Blk.top zlit_tag rfl).setRow_same _
      have b67 : Below w6.heap.size w6 w7 := by rw [← hw7]; exact below_setRow ((Below.refl _ _).alloc (Nat.le_refl _) _) (Nat.le_refl _) _
      have K7 := hid (K6.out.below b67)
      have B7 := hid (B6.out.trans (b67.mono hz46))
      have hne : u7.ownBlock ≠ some g := fun e => by
        have := (World.ownsRow.lt K6.out g e).2
        omega
      have hgz : w3.heap.size ≤ g := by omega
      rw [← hg]
      have D7 := hid d7
      have HNE := hid hne
      clear hw7 b67 d7 hne hg K6 B6
      have k7 := K7.out
      rw [show O = O ++ (HmM.dl D).take 0 by simp] at k7
      have K70 := hid k7
      clear k7 K7
      go_wp2_with fail
      go_loopw [7, 10] (fun u v wr => ∃ (i : Nat) (vo : Value), i ≤ 32 ∧ v = .int .i64 i ∧ u = vo ∧ Hid (Own 5 .u8 wr w3.heap.size vo (O ++ (HmM.dl D).take i)) ∧ Hid (vo.ownBlock ≠ some g) ∧ Hid (Blk wr g 29 (tag D)) ∧ Hid (Below w3.heap.size w3 wr)) (fun _ v _ => 32 - (intOf v).toNat)
      case atStart => exact ⟨0, _, by omega, rfl, rfl, K70, HNE, D7, B7⟩
      case round =>
        clear K70 HNE D7 B7
        obtain ⟨i, vo, hi, rfl, rfl, ho, hne, hd, hb⟩ := hrel
        have hzw := hb.out.size
        by_cases hlt : i < 32
        · have ti : (i : Int) < 32 := by omega
          have q1 := (hd.out.cell i).trans (get_tag hlt)
          have hst : O ++ (HmM.dl D).take (i + 1) = (O ++ (HmM.dl D).take i) ++ [D i] := by rw [dl_take _ hlt, List.append_assoc]
          have hlen : (O ++ (HmM.dl D).take i).length = 64 + i := by rw [List.length_append, HOL.out, List.length_take, HmM.dl_length]; omega
          have hx := HD256.out i
          generalize D i = x at *
          have HST := hid hst
          have HLEN := hid hlen
          clear hst hlen
          go_wp2_with (at_builtin; (with_reducible apply wappW eltB); rfl; rfl; (intro h; cases h); exact ho.out.alloc _; exact nums_one (x := x) (B := wr.heap.size + 1) rfl (Nat.lt_succ_self _); rfl; (rw [HLEN.out]; omega); (simp; omega); intro v' w4 o4 g4 p4)
          have b4 := below_grown (hb.out.alloc hzw (.cells #[.int .u8 (x : Nat)] 5)) g4 ho.out (Nat.le_refl _) (Nat.le_refl _)
          have d4 := (hd.out.alloc (.cells #[.int .u8 (x : Nat)] 5)).apart g4 hne.out
          have n4 : v'.ownBlock ≠ some g := by
            rcases p4 with p4 | p4
            · rw [p4]; exact hne.out
            · rw [p4]; intro e; have := hd.out.lt; simp at e; omega
          go_roundw
          case rel => exact ⟨i + 1, v', by omega, by go_num, rfl, hid (by rw [HST.out]; exact o4), hid n4, hid d4, hid b4⟩
          case measure => simp [intOf] <;> omega
        · obtain rfl : i = 32 := by omega
          have o9 := ho.out
          rw [dl_full] at o9
          obtain ⟨A9, c9, e9, _, _, n9⟩ := o9.any
          have hl9 : (O ++ HmM.dl D).length = 96 := by rw [List.length_append, HOL.out, HmM.dl_length]
          rw [hl9] at e9
          subst e9
          have hA9 : A9 = none → (96 : Nat) = 0 ∧ c9 = 0 := fun e => by
            subst e
            exfalso
            obtain ⟨_, _, e', _⟩ := n9 (by rw [hl9]; omega)
            cases e'
          have N9 := hid n9
          have HA9 := hid hA9
          have HL9 := hid hl9
          have BR := hid (BEL3.out.trans (hb.out.mono BEL3.out.size))
          have b9 := B3.out.below hb.out hwz
          have B9 := hid b9
          clear n9 hA9 hl9 o9 ho hd b9
          go_wp2_with fail
          refine (rsum_any A9 (O ++ HmM.dl D) 96 c9 HL9.out (by omega) HA9.out (HO256.out.append (HmM.dl_256 HD256.out)) wr N9.out.byt).mono ?_
          rintro e w5 ⟨rfl, h5⟩
          have c1 := B9.out.below h5 B9.out.lt
          have b5 := BR.out.trans (h5.mono BR.out.size)
          clear h5
          go_wp2_with ((with_reducible apply stt); rfl; rfl; exact c1)
          apply ret_row Tryd.results35
          · exact c1.setRow_same _
          · exact Tryd.underlying29
          · rfl
          · exact (info_tag.trans (by rw [size_tag]))
          · rfl
          · rfl
          exact ⟨by rw [HD.out], below_setRow b5 (Nat.le_refl _) _⟩
end Go.Proofs.YtmbhibilmedjmaaDoor
set_option maxRecDepth 100000
namespace Go.Proofs.YtmbhibilmedjmaaDoor
open Go.ChangeShapes Go.WideShapes Go.ChangeAt Go.RowKit
attribute [local go_sem] Gives
namespace TgP
set_option maxHeartbeats 800000 in
set_option maxRecDepth 100000 in
theorem rtag_any (k : Nat → Nat) (hk : ∀ i, k i < 256) (A : Option Addr) (l : List Nat) (n cap : Nat) (hn : n ≤ 90000) (w : World) (h : Arg w A l n cap) :
    Calls Tryd.prog 29 #[.agg (ar 32 k), .slice A n cap] w fun e w' => e = .returned (.agg (ar 32 (HmM.tag (HmM.dl k) l))) ∧ Below w.heap.size w w' := by
  have HF := hid hk
  have HN := hid hn
  have H := hid h
  clear hk hn h
  go_enter Tryd.func29, Tryd.ntmps29
  go_upto_region 1 with (with_reducible apply alA tT)
  generalize hw1 : World.alloc (World.alloc w _) _ = w1
  have B1 := hid (show Blk w1 w.heap.size 23 (ar 32 k) by rw [← hw1]; exact (Blk.new _ _ _).alloc _)
  have B2 := hid (show Blk w1 (w.heap.size + 1) 29 (ar 32 fun _ => 0) by rw [← hw1]; exact Blk.top rfl (by simp))
  have BEL := hid (show Below w.heap.size w w1 by rw [← hw1]; exact ((Below.refl _ _).alloc (Nat.le_refl _) _).alloc (by simp) _)
  clear hw1
  have hgl := B1.out.lt
  have hgl2 := B2.out.lt
  go_wp2_with fail
  go_loopw [5, 6] (fun u v wr => ∃ (i : Nat) (vo : Value), i ≤ 32 ∧ v = .int .i64 i ∧ u = vo ∧ Hid (Own 5 .u8 wr w1.heap.size vo ((HmM.dl k).take i)) ∧ Hid (Below w1.heap.size w1 wr)) (fun _ v _ => 32 - (intOf v).toNat)
  case atStart => exact ⟨0, _, by omega, rfl, rfl, hid Own.nil, hid (Below.refl _ _)⟩
  case round =>
    obtain ⟨i, vo, hi, rfl, rfl, ho, hb⟩ := hrel
    have hzw := hb.out.size
    by_cases hlt : i < 32
    · have ti : (i : Int) < 32 := by omega
      have q1 := ((B1.out.below hb.out hgl).cell i).trans (get_ar hlt)
      have hst := dl_take k hlt
      have hlen : ((HmM.dl k).take i).length = i := by rw [List.length_take, HmM.dl_length]; omega
      have hx := HF.out i
      generalize k i = x at *
      have HST := hid hst
      have HLEN := hid hlen
      clear hst hlen
      go_wp2_with (at_builtin; (with_reducible apply wappN eltB); rfl; rfl; exact ho.out.alloc _; exact nums_one (x := x) (B := wr.heap.size + 1) rfl (Nat.lt_succ_self _); rfl; (rw [HLEN.out]; omega); (simp; omega); intro v' w4 o4 g4)
      have b4 := below_grown (hb.out.alloc hzw (.cells #[.int .u8 (x : Nat)] 5)) g4 ho.out (Nat.le_refl _) (Nat.le_refl _)
      go_roundw
      case rel => exact ⟨i + 1, v', by omega, by go_num, rfl, hid (by rw [HST.out]; exact o4), hid b4⟩
      case measure => simp [intOf] <;> omega
    · obtain rfl : i = 32 := by omega
      have o9 := ho.out
      rw [dl_full] at o9
      have c2 := hid (B2.out.below hb.out hgl2)
      have cb := hid (BEL.out.trans (hb.out.mono BEL.out.size))
      have A3 := hid ((H.out.on BEL.out).on hb.out)
      obtain ⟨K, kcap, rfl, ak⟩ := o9.arg (HmM.dl_256 HF.out)
      have AK := hid ak
      clear o9 ho hb B1 B2 BEL ak hzw H
      go_upto_region 6 with fail
      go_wp2_with fail
      rw [HmM.dl_length] at *
      refine (rof_any K (HmM.dl k) _ kcap (by rw [HmM.dl_length]) (by omega) AK.out.none AK.out.b256 A l n cap A3.out.len HN.out A3.out.none A3.out.b256 wr AK.out.byt A3.out.byt).mono ?_
      rintro e w4 ⟨rfl, h4⟩
      rw [show tag (HmM.tag (HmM.dl k) l) = ar 32 (HmM.tag (HmM.dl k) l) from rfl]
      obtain ⟨F, hF⟩ : ∃ F, F = HmM.tag (HmM.dl k) l := ⟨_, rfl⟩
      have HFE := hid hF
      rw [← hF]
      have d2 := c2.out.below h4 c2.out.lt
      have cd := hid (cb.out.trans (h4.mono cb.out.size))
      clear hF h4 c2 cb AK A3
      go_wp2_with ((with_reducible apply stA tT); rfl; rfl; exact d2)
      apply ret_ar tT Tryd.results29
      · rfl
      · rfl
      · exact d2.setRow_same _
      exact ⟨by rw [HFE.out], below_setRow cd.out (by omega) _⟩
/-- Behind i rounds. -/
def joinTo (i : Nat) (f g : Nat → Nat) (j : Nat) : Nat := if j < i then f j else if 32 ≤ j ∧ j < 32 + i then g (j - 32) else 0
theorem joinTo_zero {f g : Nat → Nat} : joinTo 0 f g = fun _ => 0 := by
  funext j
  unfold joinTo
  rw [if_neg (by omega), if_neg (by omega)]
theorem joinTo_all {f g : Nat → Nat} : ar 64 (joinTo 32 f g) = ar 64 (joined f g) := ar_ext fun j hj => by
  unfold joinTo joined
  by_cases h : j < 32
  · rw [if_pos h, if_pos h]
  · rw [if_neg h, if_neg h, if_pos (by omega)]
theorem joinTo_step {w : World} {b i : Nat} {t : TypeId} {f g : Nat → Nat} (hi : i < 32) (h : Blk w b t (((ar 64 (joinTo i f g)).setIfInBounds i (.int .u8 (f i : Nat))).setIfInBounds (32 + i) (.int .u8 (g i : Nat)))) : Blk w b t (ar 64 (joinTo (i + 1) f g)) := by
  rw [ar_set, ar_set] at h
  rw [ar_ext (g := fun j => if j = 32 + i then g i else if j = i then f i else joinTo i f g j) fun j _ => ?_]
  · exact h
  · unfold joinTo
    by_cases e1 : j = 32 + i
    · subst e1
      rw [if_neg (by omega), if_pos (by omega), if_pos rfl, show 32 + i - 32 = i by omega]
    · rw [if_neg e1]
      by_cases e2 : j = i
      · subst e2
        rw [if_pos (by omega), if_pos rfl]
      · rw [if_neg e2]
        by_cases e3 : j < i
        · rw [if_pos e3, if_pos (by omega)]
        · rw [if_neg e3, if_neg (by omega)]
          by_cases e4 : 32 ≤ j ∧ j < 32 + i
          · rw [if_pos e4, if_pos (by omega)]
          · rw [if_neg e4, if_neg (by omega)]
set_option maxHeartbeats 400000 in
set_option maxRecDepth 100000 in
theorem rjoin_any (f g : Nat → Nat) (w : World) :
    Calls Tryd.prog 16 #[.agg (ar 32 f), .agg (ar 32 g)] w fun e w' => e = .returned (.agg (ar 64 (joined f g))) ∧ Below w.heap.size w w' := by
  go_enter Tryd.func16, Tryd.ntmps16
  go_upto_region 1 with (with_reducible apply alA tS)
  generalize hw1 : World.alloc (World.alloc (World.alloc w _) _) _ = w1
  have B1 := show Blk w1 w.heap.size 29 (ar 32 f) by rw [← hw1]; exact ((Blk.new _ _ _).alloc _).alloc _
  have B2 := show Blk w1 (w.heap.size + 1) 29 (ar 32 g) by rw [← hw1]; exact (Blk.top rfl (by simp)).alloc _
  have B3 := show Blk w1 (w.heap.size + 2) 25 (ar 64 fun _ => 0) by rw [← hw1]; exact Blk.top rfl (by simp)
  have BEL := show Below w.heap.size w w1 by rw [← hw1]; exact (((Below.refl _ _).alloc (Nat.le_refl _) _).alloc (by simp) _).alloc (by simp; omega) _
  clear hw1
  have hl := B3.lt
  obtain ⟨gt, hgt⟩ : ∃ gt, gt = w1.heap.size := ⟨_, rfl⟩
  have hz : Blk (w1.alloc (.cells (ar 64 fun _ => 0) 25)) w1.heap.size 25 (ar 64 fun _ => 0) := Blk.new _ _ _
  go_upto_region 2 with (with_reducible apply alA tS)
  rw [← hgt] at hz hl ⊢
  generalize hw2 : World.alloc w1 _ = w2 at hz ⊢
  have C1 := show Blk w2 w.heap.size 29 (ar 32 f) by rw [← hw2]; exact B1.alloc _
  have C2 := show Blk w2 (w.heap.size + 1) 29 (ar 32 g) by rw [← hw2]; exact B2.alloc _
  have C3 := show Blk w2 (w.heap.size + 2) 25 (ar 64 fun _ => 0) by rw [← hw2]; exact B3.alloc _
  have CB := show Below w.heap.size w w2 by rw [← hw2]; exact BEL.alloc BEL.size _
  clear hw2 B1 B2 B3 BEL hgt
  go_wp2_with fail
  go_loopw [6] (fun v wr => ∃ i : Nat, i ≤ 32 ∧ v = .int .i64 i ∧ Blk wr w.heap.size 29 (ar 32 f) ∧ Blk wr (w.heap.size + 1) 29 (ar 32 g) ∧ Blk wr (w.heap.size + 2) 25 (ar 64 fun _ => 0) ∧ Blk wr gt 25 (ar 64 (joinTo i f g)) ∧ Below w.heap.size w wr) (fun v _ => 32 - (intOf v).toNat)
  case atStart => exact ⟨0, by omega, rfl, C1, C2, C3, by rw [joinTo_zero]; exact hz, CB⟩
  case round =>
    clear C1 C2 C3 hz CB
    obtain ⟨i, hi, rfl, b1, b2, b3, b4, hb⟩ := hrel
    by_cases hlt : i < 32
    · have ti : (i : Int) < 32 := by omega
      have c1 : wr.cell? ⟨w.heap.size, i, none⟩ = some (.int .u8 (f i : Nat)) := by rw [b1.cell, get_ar hlt]
      have c2 : wr.cell? ⟨w.heap.size + 1, i, none⟩ = some (.int .u8 (g i : Nat)) := by rw [b2.cell, get_ar hlt]
      have c3 := b4.frozen i
      have c4 := (b4.cell i).trans (get_ar (show i < 64 by omega))
      go_upto_region 6 with fail
      generalize hw3 : World.setCell wr _ _ = w3
      have d4 : Blk w3 gt 25 ((ar 64 (joinTo i f g)).setIfInBounds i (.int .u8 (f i : Nat))) := by rw [← hw3]; exact b4.setCell_same i _
      have d1 : Blk w3 w.heap.size 29 (ar 32 f) := by rw [← hw3]; exact b1.setCell_other (by show gt ≠ _; omega) _
      have d2 : Blk w3 (w.heap.size + 1) 29 (ar 32 g) := by rw [← hw3]; exact b2.setCell_other (by show gt ≠ _; omega) _
      have d3 : Blk w3 (w.heap.size + 2) 25 (ar 64 fun _ => 0) := by rw [← hw3]; exact b3.setCell_other (by show gt ≠ _; omega) _
      have db : Below w.heap.size w w3 := by rw [← hw3]; exact hb.setCell (by show w.heap.size ≤ gt; omega) _
      have c2 : w3.cell? ⟨w.heap.size + 1, i, none⟩ = some (.int .u8 (g i : Nat)) := by rw [d2.cell, get_ar hlt]
      have c5 := d4.frozen (32 + i)
      have c6 : w3.cell? ⟨gt, 32 + i, none⟩ = some (.int .u8 (joinTo i f g (32 + i) : Nat)) := (d4.cell (32 + i)).trans (by rw [ar_set, get_ar (by omega), if_neg (by omega)])
      clear c1 c3 c4 b1 b2 b3 b4 hb hw3
      have t32 : (32 : Int) + (i : Int) < 64 := by omega
      have t33 : (0 : Int) ≤ 32 + (i : Int) := by omega
      have t34 : ((32 : Int) + (i : Int)).toNat = 32 + i := by omega
      go_wp2_with fail
      go_roundw
      case rel => exact ⟨i + 1, by omega, by go_num, d1.setCell_other (by show gt ≠ _; omega) _, d2.setCell_other (by show gt ≠ _; omega) _, d3.setCell_other (by show gt ≠ _; omega) _, joinTo_step hlt (d4.setCell_same (32 + i) _), db.setCell (by show w.heap.size ≤ gt; omega) _⟩
      case measure => simp [intOf]; omega
    · have ti : decide ((i : Int) < 32) = false := by simp; omega
      obtain rfl : i = 32 := by omega
      rw [joinTo_all] at b4
      go_wp2_with (first | ((with_reducible apply ldA tS); rfl; exact b4) | ((with_reducible apply stA tS); rfl; rfl; exact b3))
      apply ret_ar tS Tryd.results16
      · rfl
      · rfl
      · exact b3.setRow_same _
      exact ⟨rfl, below_setRow hb (by omega) _⟩
end TgP
end Go.Proofs.YtmbhibilmedjmaaDoor
set_option maxRecDepth 100000
namespace Go.Proofs.YtmbhibilmedjmaaDoor
open Go.ChangeShapes Go.WideShapes Go.ChangeAt Go.RowKit
attribute [local go_sem] Gives
namespace TgP
section
variable {ops : Array Oper} {a : Act} {rest : List Oper} {dst : Option Tmp} {ty : TypeId} {pos : String} {after : Array Edge} {x y : Operand} {g o n k : Nat} {f : Nat → Nat} {T : TypeId} {st : Nat → Bool} {D : (Nat → Bool) → World → Prop} {Qk : Act → Prop} {gd : Option (Nat × Bool)}
theorem mld (hT : ArT T n) (hk : st k = false) (hwt : Region.wanted ⟨dst, .load T x, ty, pos, after, gd⟩ (yielded ops a.tmps) = true) (hx : a.eval x = .pointer (some ⟨g, o, none⟩)) (hb : ∀ d w, D d w → w.rangeAt g o (ar n f).toList) (h : wpM Tryd.prog ops st D Qk (k + 1) rest (a.put dst (.agg (ar n f)))) :
    wpM Tryd.prog ops st D Qk k (⟨dst, .load T x, ty, pos, after, gd⟩ :: rest) a :=
  wpM_val hk hwt (fun d w hw => gives_value (w' := w) (by simp only [execOp, hx, Sem.run_bind, run_ldm hT (hb d w hw), Result.andThen_ok, Sem.run_pure]) hw) h
theorem mst {t : TypeId} (hT : ArT T n) (hk : st k = true) (hwt : Region.wanted ⟨dst, .store T x y, ty, pos, after, gd⟩ (yielded ops a.tmps) = true) (hx : a.eval x = .pointer (some ⟨g, 0, none⟩)) (hy : a.eval y = .agg (ar n f))
    (hb : ∀ d w, d k = false → D d w → ∃ f0, Blk w g t (ar n f0)) (hD : ∀ d w, d k = false → D d w → D (upB d k) (w.setRow g (ar n f))) (h : wpM Tryd.prog ops st D Qk (k + 1) rest (a.put dst undef)) :
    wpM Tryd.prog ops st D Qk k (⟨dst, .store T x y, ty, pos, after, gd⟩ :: rest) a :=
  wpM_put hk hwt (fun d w hd hw => gives_skip (w' := w.setRow g (ar n f)) (by
    obtain ⟨f0, hb0⟩ := hb d w hd hw
    have := run_storeVar_row (P := Tryd.prog) w g t T (ar n f0) (ar n f) hb0 (hT.size.trans (by rw [size_ar])) (by rw [size_ar, size_ar]) ar_one
    simp only [execOp, hx, hy, Instr.storeAt, Instr.sureAddr, Sem.run_bind, this, Result.andThen_ok, Sem.run_pure]) (hD d w hd hw)) h
end
end TgP
end Go.Proofs.YtmbhibilmedjmaaDoor
set_option maxRecDepth 100000
namespace Go.Proofs.YtmbhibilmedjmaaDoor
open Go.ChangeShapes Go.WideShapes Go.ChangeAt Go.RowKit
attribute [local go_sem] Gives
namespace TgP
/-- Two tags laid as a call's answers. -/
def T2 (g0 g1 g2 g3 : Nat) (B : Nat) (w : World) (K F : Nat → Nat) (d : Nat → Bool) (w' : World) : Prop :=
  Blk w' g2 29 (ar 32 K) ∧ Blk w' g3 29 (ar 32 F) ∧ Blk w' g0 29 (ar 32 (if d 2 then K else fun _ => 0)) ∧ Blk w' g1 29 (ar 32 (if d 3 then F else fun _ => 0)) ∧ Below B w w'
set_option maxHeartbeats 400000 in
set_option maxRecDepth 100000 in
theorem rsplit_any (f : Nat → Nat) (w : World) :
    Calls Tryd.prog 10 #[.agg (ar 64 f)] w fun e w' => e = .returned (.tuple #[.agg (ar 32 f), .agg (ar 32 fun j => f (32 + j))]) ∧ Below w.heap.size w w' := by
  go_enter Tryd.func10, Tryd.ntmps10
  go_upto_region 1 with (with_reducible apply alA tT)
  generalize hw1 : World.alloc (World.alloc (World.alloc w _) _) _ = w1
  have B1 := show Blk w1 w.heap.size 25 (ar 64 f) by rw [← hw1]; exact ((Blk.new _ _ _).alloc _).alloc _
  have B2 := show Blk w1 (w.heap.size + 1) 29 (ar 32 fun _ => 0) by rw [← hw1]; exact (Blk.top rfl (by simp)).alloc _
  have B3 := show Blk w1 (w.heap.size + 2) 29 (ar 32 fun _ => 0) by rw [← hw1]; exact Blk.top rfl (by simp)
  have BEL := show Below w.heap.size w w1 by rw [← hw1]; exact (((Below.refl _ _).alloc (Nat.le_refl _) _).alloc (by simp) _).alloc (by simp; omega) _
  clear hw1
  have hl := B3.lt
  obtain ⟨gt, hgt⟩ : ∃ gt, gt = w1.heap.size := ⟨_, rfl⟩
  have hz1 : Blk ((w1.alloc (.cells (ar 32 fun _ => 0) 29)).alloc (.cells (ar 32 fun _ => 0) 29)) w1.heap.size 29 (ar 32 fun _ => 0) := (Blk.new _ _ _).alloc _
  have hz2 : Blk ((w1.alloc (.cells (ar 32 fun _ => 0) 29)).alloc (.cells (ar 32 fun _ => 0) 29)) (w1.heap.size + 1) 29 (ar 32 fun _ => 0) := Blk.top rfl (by simp)
  go_upto_region 2 with (with_reducible apply alA tT)
  try rw [show (w1.alloc (.cells (ar 32 fun _ => 0) 29)).heap.size = w1.heap.size + 1 by simp]
  rw [← hgt] at hz1 hz2 hl ⊢
  generalize hw2 : World.alloc (World.alloc w1 _) _ = w2 at hz1 hz2 ⊢
  have C1 := show Blk w2 w.heap.size 25 (ar 64 f) by rw [← hw2]; exact (B1.alloc _).alloc _
  have C2 := show Blk w2 (w.heap.size + 1) 29 (ar 32 fun _ => 0) by rw [← hw2]; exact (B2.alloc _).alloc _
  have C3 := show Blk w2 (w.heap.size + 2) 29 (ar 32 fun _ => 0) by rw [← hw2]; exact (B3.alloc _).alloc _
  have CB := show Below w.heap.size w w2 by rw [← hw2]; exact (BEL.alloc BEL.size _).alloc (by simp; have := BEL.size; omega) _
  clear hw2 B1 B2 B3 BEL hgt
  go_wp2_with fail
  go_loopw [6] (fun v wr => ∃ i : Nat, i ≤ 32 ∧ v = .int .i64 i ∧ Blk wr w.heap.size 25 (ar 64 f) ∧ Blk wr (w.heap.size + 1) 29 (ar 32 fun _ => 0) ∧ Blk wr (w.heap.size + 2) 29 (ar 32 fun _ => 0) ∧ Blk wr gt 29 (ar 32 (upTo i (fun _ => 0) f)) ∧ Blk wr (gt + 1) 29 (ar 32 (upTo i (fun _ => 0) fun j => f (32 + j))) ∧ Below w.heap.size w wr) (fun v _ => 32 - (intOf v).toNat)
  case atStart => exact ⟨0, by omega, rfl, C1, C2, C3, by rw [upTo_zero]; exact hz1, by rw [upTo_zero]; exact hz2, CB⟩
  case round =>
    clear C1 C2 C3 hz1 hz2 CB
    obtain ⟨i, hi, rfl, b1, b2, b3, b4, b5, hb⟩ := hrel
    by_cases hlt : i < 32
    · have ti : (i : Int) < 32 := by omega
      have ti2 : (i : Int) < 64 := by omega
      have c1 : wr.cell? ⟨w.heap.size, i, none⟩ = some (.int .u8 (f i : Nat)) := by rw [b1.cell, get_ar (by omega)]
      have c3 := b4.frozen i
      have c4 := (b4.cell i).trans (get_ar hlt)
      go_upto_region 6 with fail
      generalize hw3 : World.setCell wr _ _ = w3
      have d4 : Blk w3 gt 29 (ar 32 (upTo (i + 1) (fun _ => 0) f)) := by rw [← hw3]; exact upTo_step (b4.setCell_same i _)
      have d1 : Blk w3 w.heap.size 25 (ar 64 f) := by rw [← hw3]; exact b1.setCell_other (by show gt ≠ _; omega) _
      have d2 : Blk w3 (w.heap.size + 1) 29 (ar 32 fun _ => 0) := by rw [← hw3]; exact b2.setCell_other (by show gt ≠ _; omega) _
      have d3 : Blk w3 (w.heap.size + 2) 29 (ar 32 fun _ => 0) := by rw [← hw3]; exact b3.setCell_other (by show gt ≠ _; omega) _
      have d5 : Blk w3 (gt + 1) 29 (ar 32 (upTo i (fun _ => 0) fun j => f (32 + j))) := by rw [← hw3]; exact b5.setCell_other (by show gt ≠ _; omega) _
      have db : Below w.heap.size w w3 := by rw [← hw3]; exact hb.setCell (by show w.heap.size ≤ gt; omega) _
      have c2 : w3.cell? ⟨w.heap.size, 32 + i, none⟩ = some (.int .u8 (f (32 + i) : Nat)) := by rw [d1.cell, get_ar (by omega)]
      have c5 := d5.frozen i
      have c6 := (d5.cell i).trans (get_ar hlt)
      clear c1 c3 c4 b1 b2 b3 b4 b5 hb hw3
      have t32 : (32 : Int) + (i : Int) < 64 := by omega
      have t33 : (0 : Int) ≤ 32 + (i : Int) := by omega
      have t34 : ((32 : Int) + (i : Int)).toNat = 32 + i := by omega
      go_wp2_with fail
      go_roundw
      case rel => exact ⟨i + 1, by omega, by go_num, d1.setCell_other (by show gt + 1 ≠ _; omega) _, d2.setCell_other (by show gt + 1 ≠ _; omega) _, d3.setCell_other (by show gt + 1 ≠ _; omega) _, d4.setCell_other (by show gt + 1 ≠ _; omega) _, upTo_step (f := fun _ => 0) (h := fun j => f (32 + j)) (d5.setCell_same i _), db.setCell (by show w.heap.size ≤ gt + 1; omega) _⟩
      case measure => simp [intOf]; omega
    · have ti : decide ((i : Int) < 32) = false := by simp; omega
      obtain rfl : i = 32 := by omega
      rw [upTo_all (by omega)] at b4 b5
      go_upto_region 7 with fail
      refine wp_region_set (D := T2 (w.heap.size + 1) (w.heap.size + 2) gt (gt + 1) w.heap.size w f fun j => f (32 + j)) (fun j => decide (j = 2) || decide (j = 3)) 4 (fun j hj => by simp at hj; omega) (by kernel_rfl) (by kernel_rfl) (by kernel_rfl)
        (fun d d' w hd h => by unfold T2 at h ⊢; rw [← hd 2 rfl, ← hd 3 rfl]; exact h) ⟨b4.drew, b5.drew, b2.drew, b3.drew, hb.drew⟩ ?_
      simp only [List.take_succ_cons, List.take_zero, List.drop_succ_cons, List.drop_zero]
      apply mld tT
      · rfl
      · rfl
      · rfl
      · exact fun d w' h => h.1.head
      simp only [Act.put, List.setIfInBounds_toArray, List.set_cons_succ, List.set_cons_zero]
      apply mld tT
      · rfl
      · rfl
      · rfl
      · exact fun d w' h => h.2.1.head
      simp only [Act.put, List.setIfInBounds_toArray, List.set_cons_succ, List.set_cons_zero]
      apply mst tT
      · rfl
      · rfl
      · rfl
      · rfl
      · exact fun d w' _ h => ⟨_, h.2.2.1⟩
      · exact fun d w' hd h => ⟨h.1.setRow_other (by omega) _, h.2.1.setRow_other (by omega) _, by unfold upB; simp only [if_true]; exact h.2.2.1.setRow_same _, h.2.2.2.1.setRow_other (by omega) _, below_setRow h.2.2.2.2 (by omega) _⟩
      simp only [Act.put]
      apply mst tT
      · rfl
      · rfl
      · rfl
      · rfl
      · exact fun d w' _ h => ⟨_, h.2.2.2.1⟩
      · exact fun d w' hd h => ⟨h.1.setRow_other (by omega) _, h.2.1.setRow_other (by omega) _, h.2.2.1.setRow_other (by omega) _, by unfold upB; simp only [if_true]; exact h.2.2.2.1.setRow_same _, below_setRow h.2.2.2.2 (by omega) _⟩
      simp only [Act.put]
      refine wpM_nil fun w5 h5 => ?_
      have d0 := h5.2.2.1
      have d1 := h5.2.2.2.1
      simp only [if_true] at d0 d1
      have db := h5.2.2.2.2
      clear b1 b2 b3 b4 b5 hb h5
      go_wp2_with fail
      apply ret_ar2 tT tT Tryd.results10
      · rfl
      · rfl
      · rfl
      · exact d0
      · exact d1
      exact ⟨rfl, db⟩
end TgP
end Go.Proofs.YtmbhibilmedjmaaDoor
set_option maxRecDepth 100000
namespace Go.Proofs.YtmbhibilmedjmaaDoor
open Go.ChangeShapes Go.WideShapes Go.ChangeAt Go.RowKit
attribute [local go_sem] Gives GivesE
namespace TgP
set_option maxHeartbeats 400000 in
set_option maxRecDepth 100000 in
theorem rleaf_any (k : Nat → Nat) (hk : ∀ i, k i < 256) (num : Int) (s : Nat → Nat) (hs : ∀ i, s i < 256) (w : World) :
    Calls Tryd.prog 12 #[.agg (ar 32 k), .int .i64 num, .agg (ar 64 s)] w fun e w' => e = .returned (.agg (ar 32 (HmM.tag (HmM.dl k) (BytM.rowB 76 [BytM.dig 8 (bits num), ls 64 s])))) ∧ Below w.heap.size w w' := by
  have HK := hid hk
  have HS := hid hs
  clear hk hs
  obtain ⟨L, hL⟩ : ∃ L, L = BytM.rowB 76 [BytM.dig 8 (bits num), ls 64 s] := ⟨_, rfl⟩
  have HL := hid hL
  have HN := hid (show L.length ≤ 90000 by rw [hL, rowB2_length]; omega)
  have HL256 := hid (show B256 L by rw [hL]; exact rowB2_256 (by omega) (BytM.dig_256 _ _) (ls_256 HS.out))
  clear hL
  obtain ⟨F, hF⟩ : ∃ F, F = HmM.tag (HmM.dl k) L := ⟨_, rfl⟩
  have HF := hid hF
  clear hF
  rw [← HL.out, ← HF.out]
  go_enter Tryd.func12, Tryd.ntmps12
  go_upto_region 1 with (with_reducible apply alA tT)
  rw [show ((w.alloc (.cells (ar 32 k) 23)).alloc (.cells (ar 64 s) 25)).heap.size = w.heap.size + 2 by simp]
  generalize hw1 : World.alloc (World.alloc (World.alloc w _) _) _ = w1
  have z0 := hid (show Blk w1 w.heap.size 23 (ar 32 k) by rw [← hw1]; exact ((Blk.new _ _ _).alloc _).alloc _)
  have z1 := hid (show Blk w1 (w.heap.size + 1) 25 (ar 64 s) by rw [← hw1]; exact (Blk.top rfl (by simp)).alloc _)
  have z2 := hid (show Blk w1 (w.heap.size + 2) 29 (ar 32 fun _ => 0) by rw [← hw1]; exact Blk.top rfl (by simp))
  have hb := hid (show Below w.heap.size w w1 by rw [← hw1]; exact (((Below.refl _ _).alloc (Nat.le_refl _) _).alloc (by simp) _).alloc (by simp; omega) _)
  clear hw1
  refine wp_region_eS [some (.agg (ar 32 k)), some (.int .i64 num), some (.agg (ar 64 s)), none, some (.agg (ar 32 F))] [(3, L)] 5 (by kernel_rfl) (by kernel_rfl) (by kernel_rfl) fun vs => ?_
  simp only [List.take_succ_cons, List.take_zero, List.drop_succ_cons, List.drop_zero]
  refine ⟨.inl ⟨rfl, fun dd w' hd hC hDs => ?_⟩, fun e => ?_⟩
  · exact gE_ldA tK rfl ((z0.out.below hC z0.out.lt).head) ⟨rfl, hC, Below.refl _ _, eD_none rfl⟩
  have e' : vs 0 = _ := e
  rw [e']
  clear e e'
  simp only [Act.put, List.setIfInBounds_toArray, List.set_cons_succ, List.set_cons_zero]
  refine ⟨.inl ⟨rfl, fun dd w' hd hC hDs => ?_⟩, fun e => ?_⟩
  · go_simp
    first | exact ⟨rfl, hC, Below.refl _ _, eD_none rfl⟩ | exact ⟨rfl, Below.refl _ _, eD_none rfl⟩ | exact ⟨hC, Below.refl _ _, eD_none rfl⟩
  have e' : vs 1 = _ := e
  rw [e']
  clear e e'
  simp only [Act.put, List.setIfInBounds_toArray, List.set_cons_succ, List.set_cons_zero]
  refine ⟨.inl ⟨rfl, fun dd w' hd hC hDs => ?_⟩, fun e => ?_⟩
  · exact gE_ldA tS rfl ((z1.out.below hC z1.out.lt).head) ⟨rfl, hC, Below.refl _ _, eD_none rfl⟩
  have e' : vs 2 = _ := e
  rw [e']
  clear e e'
  simp only [Act.put, List.setIfInBounds_toArray, List.set_cons_succ, List.set_cons_zero]
  refine ⟨.inl ⟨rfl, fun dd w' hd hC hDs => ?_⟩, fun e => ?_⟩
  · go_simp
    refine ((by have := rnumbered_any 76 num s HS.out w'; rwa [← HL.out] at this : Calls _ _ _ _ _)).mono ?_
    rintro e w2 ⟨v, rfl, o2, h2⟩
    have hbs : B256 _ := HL256.out
    exact ⟨_, rfl, own_sl o2 hbs, hC.trans (h2.mono hC.size), h2, own_eD rfl o2 hbs⟩
  obtain ⟨A3, c3, e'⟩ : ∃ (A : Option Addr) (c : Nat), vs 3 = .slice A _ c := e
  rw [e']
  have E3 := hid e'
  clear e'
  simp only [Act.put, List.setIfInBounds_toArray, List.set_cons_succ, List.set_cons_zero]
  refine ⟨.inl ⟨rfl, fun dd w' hd hC hDs => ?_⟩, fun e => ?_⟩
  · obtain ⟨B3, k3, f3, a3⟩ := hDs 3 (by kernel_rfl) L rfl
    rw [E3.out] at f3
    cases f3
    go_simp
    have ht := rtag_any k HK.out A3 L _ _ HN.out w' a3
    rw [← HF.out] at ht
    refine ht.mono ?_
    rintro e w2 ⟨rfl, h2⟩
    exact ⟨_, rfl, rfl, hC.trans (h2.mono hC.size), h2, eD_none rfl⟩
  have e' : vs 4 = _ := e
  rw [e']
  clear e e'
  simp only [Act.put, List.setIfInBounds_toArray, List.set_cons_succ, List.set_cons_zero]
  intro dd w4 hall hC4 hDs
  have d2 := z2.out.below hC4 z2.out.lt
  have db := hid (hb.out.trans (hC4.mono hb.out.size))
  clear hall hC4 hDs E3 z0 z1 z2 hb
  go_wp2_with ((with_reducible apply stA tT); rfl; rfl; exact d2)
  apply ret_ar tT Tryd.results12
  · rfl
  · rfl
  · exact d2.setRow_same _
  exact ⟨rfl, below_setRow db.out (by omega) _⟩
set_option maxHeartbeats 400000 in
set_option maxRecDepth 100000 in
theorem rnode_any (k : Nat → Nat) (hk : ∀ i, k i < 256) (num : Int) (s : Nat → Nat) (hs : ∀ i, s i < 256) (w : World) :
    Calls Tryd.prog 14 #[.agg (ar 32 k), .int .i64 num, .agg (ar 64 s)] w fun e w' => e = .returned (.agg (ar 32 (HmM.tag (HmM.dl k) (BytM.rowB 78 [BytM.dig 8 (bits num), ls 64 s])))) ∧ Below w.heap.size w w' := by
  have HK := hid hk
  have HS := hid hs
  clear hk hs
  obtain ⟨L, hL⟩ : ∃ L, L = BytM.rowB 78 [BytM.dig 8 (bits num), ls 64 s] := ⟨_, rfl⟩
  have HL := hid hL
  have HN := hid (show L.length ≤ 90000 by rw [hL, rowB2_length]; omega)
  have HL256 := hid (show B256 L by rw [hL]; exact rowB2_256 (by omega) (BytM.dig_256 _ _) (ls_256 HS.out))
  clear hL
  obtain ⟨F, hF⟩ : ∃ F, F = HmM.tag (HmM.dl k) L := ⟨_, rfl⟩
  have HF := hid hF
  clear hF
  rw [← HL.out, ← HF.out]
  go_enter Tryd.func14, Tryd.ntmps14
  go_upto_region 1 with (with_reducible apply alA tT)
  rw [show ((w.alloc (.cells (ar 32 k) 23)).alloc (.cells (ar 64 s) 25)).heap.size = w.heap.size + 2 by simp]
  generalize hw1 : World.alloc (World.alloc (World.alloc w _) _) _ = w1
  have z0 := hid (show Blk w1 w.heap.size 23 (ar 32 k) by rw [← hw1]; exact ((Blk.new _ _ _).alloc _).alloc _)
  have z1 := hid (show Blk w1 (w.heap.size + 1) 25 (ar 64 s) by rw [← hw1]; exact (Blk.top rfl (by simp)).alloc _)
  have z2 := hid (show Blk w1 (w.heap.size + 2) 29 (ar 32 fun _ => 0) by rw [← hw1]; exact Blk.top rfl (by simp))
  have hb := hid (show Below w.heap.size w w1 by rw [← hw1]; exact (((Below.refl _ _).alloc (Nat.le_refl _) _).alloc (by simp) _).alloc (by simp; omega) _)
  clear hw1
  refine wp_region_eS [some (.agg (ar 32 k)), some (.int .i64 num), some (.agg (ar 64 s)), none, some (.agg (ar 32 F))] [(3, L)] 5 (by kernel_rfl) (by kernel_rfl) (by kernel_rfl) fun vs => ?_
  simp only [List.take_succ_cons, List.take_zero, List.drop_succ_cons, List.drop_zero]
  refine ⟨.inl ⟨rfl, fun dd w' hd hC hDs => ?_⟩, fun e => ?_⟩
  · exact gE_ldA tK rfl ((z0.out.below hC z0.out.lt).head) ⟨rfl, hC, Below.refl _ _, eD_none rfl⟩
  have e' : vs 0 = _ := e
  rw [e']
  clear e e'
  simp only [Act.put, List.setIfInBounds_toArray, List.set_cons_succ, List.set_cons_zero]
  refine ⟨.inl ⟨rfl, fun dd w' hd hC hDs => ?_⟩, fun e => ?_⟩
  · go_simp
    first | exact ⟨rfl, hC, Below.refl _ _, eD_none rfl⟩ | exact ⟨rfl, Below.refl _ _, eD_none rfl⟩ | exact ⟨hC, Below.refl _ _, eD_none rfl⟩
  have e' : vs 1 = _ := e
  rw [e']
  clear e e'
  simp only [Act.put, List.setIfInBounds_toArray, List.set_cons_succ, List.set_cons_zero]
  refine ⟨.inl ⟨rfl, fun dd w' hd hC hDs => ?_⟩, fun e => ?_⟩
  · exact gE_ldA tS rfl ((z1.out.below hC z1.out.lt).head) ⟨rfl, hC, Below.refl _ _, eD_none rfl⟩
  have e' : vs 2 = _ := e
  rw [e']
  clear e e'
  simp only [Act.put, List.setIfInBounds_toArray, List.set_cons_succ, List.set_cons_zero]
  refine ⟨.inl ⟨rfl, fun dd w' hd hC hDs => ?_⟩, fun e => ?_⟩
  · go_simp
    refine ((by have := rnumbered_any 78 num s HS.out w'; rwa [← HL.out] at this : Calls _ _ _ _ _)).mono ?_
    rintro e w2 ⟨v, rfl, o2, h2⟩
    have hbs : B256 _ := HL256.out
    exact ⟨_, rfl, own_sl o2 hbs, hC.trans (h2.mono hC.size), h2, own_eD rfl o2 hbs⟩
  obtain ⟨A3, c3, e'⟩ : ∃ (A : Option Addr) (c : Nat), vs 3 = .slice A _ c := e
  rw [e']
  have E3 := hid e'
  clear e'
  simp only [Act.put, List.setIfInBounds_toArray, List.set_cons_succ, List.set_cons_zero]
  refine ⟨.inl ⟨rfl, fun dd w' hd hC hDs => ?_⟩, fun e => ?_⟩
  · obtain ⟨B3, k3, f3, a3⟩ := hDs 3 (by kernel_rfl) L rfl
    rw [E3.out] at f3
    cases f3
    go_simp
    have ht := rtag_any k HK.out A3 L _ _ HN.out w' a3
    rw [← HF.out] at ht
    refine ht.mono ?_
    rintro e w2 ⟨rfl, h2⟩
    exact ⟨_, rfl, rfl, hC.trans (h2.mono hC.size), h2, eD_none rfl⟩
  have e' : vs 4 = _ := e
  rw [e']
  clear e e'
  simp only [Act.put, List.setIfInBounds_toArray, List.set_cons_succ, List.set_cons_zero]
  intro dd w4 hall hC4 hDs
  have d2 := z2.out.below hC4 z2.out.lt
  have db := hid (hb.out.trans (hC4.mono hb.out.size))
  clear hall hC4 hDs E3 z0 z1 z2 hb
  go_wp2_with ((with_reducible apply stA tT); rfl; rfl; exact d2)
  apply ret_ar tT Tryd.results14
  · rfl
  · rfl
  · exact d2.setRow_same _
  exact ⟨rfl, below_setRow db.out (by omega) _⟩
set_option maxHeartbeats 400000 in
set_option maxRecDepth 100000 in
theorem rlabel_any (k : Nat → Nat) (hk : ∀ i, k i < 256) (A : Option Addr) (l : List Nat) (n cap : Nat) (hn : n ≤ 10000) (w : World) (h : Arg w A l n cap) :
    Calls Tryd.prog 23 #[.agg (ar 32 k), .slice A n cap] w fun e w' => e = .returned (.agg (ar 32 (HmM.tag (HmM.dl k) (BytM.rowB 82 [l])))) ∧ Below w.heap.size w w' := by
  have HK := hid hk
  have H := hid h
  have HM := hid hn
  clear hk h hn
  obtain ⟨L, hL⟩ : ∃ L, L = BytM.rowB 82 [l] := ⟨_, rfl⟩
  have HL := hid hL
  have HN := hid (show L.length ≤ 90000 by rw [hL, rowB1_length]; have := H.out.len; have := HM.out; omega)
  have HL256 := hid (show B256 L by rw [hL]; exact rowB1_256 (by omega) H.out.b256)
  clear hL
  obtain ⟨F, hF⟩ : ∃ F, F = HmM.tag (HmM.dl k) L := ⟨_, rfl⟩
  have HF := hid hF
  clear hF
  rw [← HL.out, ← HF.out]
  go_enter Tryd.func23, Tryd.ntmps23
  go_upto_region 1 with (with_reducible apply alA tT)
  rw [show (w.alloc (.cells (ar 32 k) 23)).heap.size = w.heap.size + 1 by simp]
  generalize hw1 : World.alloc (World.alloc w _) _ = w1
  have z0 := hid (show Blk w1 w.heap.size 23 (ar 32 k) by rw [← hw1]; exact (Blk.new _ _ _).alloc _)
  have z2 := hid (show Blk w1 (w.heap.size + 1) 29 (ar 32 fun _ => 0) by rw [← hw1]; exact Blk.top rfl (by simp))
  have hb := hid (show Below w.heap.size w w1 by rw [← hw1]; exact ((Below.refl _ _).alloc (Nat.le_refl _) _).alloc (by simp) _)
  have HA := hid (H.out.on hb.out)
  clear hw1
  refine wp_region_eS [some (.agg (ar 32 k)), some (.slice A n cap), none, some (.agg (ar 32 F))] [(2, L)] 4 (by kernel_rfl) (by kernel_rfl) (by kernel_rfl) fun vs => ?_
  simp only [List.take_succ_cons, List.take_zero, List.drop_succ_cons, List.drop_zero]
  refine ⟨.inl ⟨rfl, fun dd w' hd hC hDs => ?_⟩, fun e => ?_⟩
  · exact gE_ldA tK rfl ((z0.out.below hC z0.out.lt).head) ⟨rfl, hC, Below.refl _ _, eD_none rfl⟩
  have e' : vs 0 = _ := e
  rw [e']
  clear e e'
  simp only [Act.put, List.setIfInBounds_toArray, List.set_cons_succ, List.set_cons_zero]
  refine ⟨.inl ⟨rfl, fun dd w' hd hC hDs => ?_⟩, fun e => ?_⟩
  · go_simp
    first | exact ⟨rfl, hC, Below.refl _ _, eD_none rfl⟩ | exact ⟨rfl, Below.refl _ _, eD_none rfl⟩ | exact ⟨hC, Below.refl _ _, eD_none rfl⟩
  have e' : vs 1 = _ := e
  rw [e']
  clear e e'
  simp only [Act.put, List.setIfInBounds_toArray, List.set_cons_succ, List.set_cons_zero]
  refine ⟨.inl ⟨rfl, fun dd w' hd hC hDs => ?_⟩, fun e => ?_⟩
  · go_simp
    refine ((by have := rplain_any 82 A l n cap HM.out w' (HA.out.on hC); rwa [← HL.out] at this : Calls _ _ _ _ _)).mono ?_
    rintro e w2 ⟨v, rfl, o2, h2⟩
    have hbs : B256 _ := HL256.out
    exact ⟨_, rfl, own_sl o2 hbs, hC.trans (h2.mono hC.size), h2, own_eD rfl o2 hbs⟩
  obtain ⟨A2, c2, e'⟩ : ∃ (A : Option Addr) (c : Nat), vs 2 = .slice A _ c := e
  rw [e']
  have E2 := hid e'
  clear e'
  simp only [Act.put, List.setIfInBounds_toArray, List.set_cons_succ, List.set_cons_zero]
  refine ⟨.inl ⟨rfl, fun dd w' hd hC hDs => ?_⟩, fun e => ?_⟩
  · obtain ⟨B2, k2, f2, a2⟩ := hDs 2 (by kernel_rfl) L rfl
    rw [E2.out] at f2
    cases f2
    go_simp
    have ht := rtag_any k HK.out A2 L _ _ HN.out w' a2
    rw [← HF.out] at ht
    refine ht.mono ?_
    rintro e w2 ⟨rfl, h2⟩
    exact ⟨_, rfl, rfl, hC.trans (h2.mono hC.size), h2, eD_none rfl⟩
  have e' : vs 3 = _ := e
  rw [e']
  clear e e'
  simp only [Act.put, List.setIfInBounds_toArray, List.set_cons_succ, List.set_cons_zero]
  intro dd w4 hall hC4 hDs
  have d2 := z2.out.below hC4 z2.out.lt
  have db := hid (hb.out.trans (hC4.mono hb.out.size))
  clear hall hC4 hDs E2 z0 z2 hb HA H
  go_wp2_with ((with_reducible apply stA tT); rfl; rfl; exact d2)
  apply ret_ar tT Tryd.results23
  · rfl
  · rfl
  · exact d2.setRow_same _
  exact ⟨rfl, below_setRow db.out (by omega) _⟩
set_option maxHeartbeats 400000 in
set_option maxRecDepth 100000 in
theorem rhead_any (k : Nat → Nat) (hk : ∀ i, k i < 256) (A : Option Addr) (l : List Nat) (n cap : Nat) (hn : n ≤ 10000) (w : World) (h : Arg w A l n cap) :
    Calls Tryd.prog 25 #[.agg (ar 32 k), .slice A n cap] w fun e w' => e = .returned (.agg (ar 32 (HmM.tag (HmM.dl k) (BytM.rowB 72 [l])))) ∧ Below w.heap.size w w' := by
  have HK := hid hk
  have H := hid h
  have HM := hid hn
  clear hk h hn
  obtain ⟨L, hL⟩ : ∃ L, L = BytM.rowB 72 [l] := ⟨_, rfl⟩
  have HL := hid hL
  have HN := hid (show L.length ≤ 90000 by rw [hL, rowB1_length]; have := H.out.len; have := HM.out; omega)
  have HL256 := hid (show B256 L by rw [hL]; exact rowB1_256 (by omega) H.out.b256)
  clear hL
  obtain ⟨F, hF⟩ : ∃ F, F = HmM.tag (HmM.dl k) L := ⟨_, rfl⟩
  have HF := hid hF
  clear hF
  rw [← HL.out, ← HF.out]
  go_enter Tryd.func25, Tryd.ntmps25
  go_upto_region 1 with (with_reducible apply alA tT)
  rw [show (w.alloc (.cells (ar 32 k) 23)).heap.size = w.heap.size + 1 by simp]
  generalize hw1 : World.alloc (World.alloc w _) _ = w1
  have z0 := hid (show Blk w1 w.heap.size 23 (ar 32 k) by rw [← hw1]; exact (Blk.new _ _ _).alloc _)
  have z2 := hid (show Blk w1 (w.heap.size + 1) 29 (ar 32 fun _ => 0) by rw [← hw1]; exact Blk.top rfl (by simp))
  have hb := hid (show Below w.heap.size w w1 by rw [← hw1]; exact ((Below.refl _ _).alloc (Nat.le_refl _) _).alloc (by simp) _)
  have HA := hid (H.out.on hb.out)
  clear hw1
  refine wp_region_eS [some (.agg (ar 32 k)), some (.slice A n cap), none, some (.agg (ar 32 F))] [(2, L)] 4 (by kernel_rfl) (by kernel_rfl) (by kernel_rfl) fun vs => ?_
  simp only [List.take_succ_cons, List.take_zero, List.drop_succ_cons, List.drop_zero]
  refine ⟨.inl ⟨rfl, fun dd w' hd hC hDs => ?_⟩, fun e => ?_⟩
  · exact gE_ldA tK rfl ((z0.out.below hC z0.out.lt).head) ⟨rfl, hC, Below.refl _ _, eD_none rfl⟩
  have e' : vs 0 = _ := e
  rw [e']
  clear e e'
  simp only [Act.put, List.setIfInBounds_toArray, List.set_cons_succ, List.set_cons_zero]
  refine ⟨.inl ⟨rfl, fun dd w' hd hC hDs => ?_⟩, fun e => ?_⟩
  · go_simp
    first | exact ⟨rfl, hC, Below.refl _ _, eD_none rfl⟩ | exact ⟨rfl, Below.refl _ _, eD_none rfl⟩ | exact ⟨hC, Below.refl _ _, eD_none rfl⟩
  have e' : vs 1 = _ := e
  rw [e']
  clear e e'
  simp only [Act.put, List.setIfInBounds_toArray, List.set_cons_succ, List.set_cons_zero]
  refine ⟨.inl ⟨rfl, fun dd w' hd hC hDs => ?_⟩, fun e => ?_⟩
  · go_simp
    refine ((by have := rplain_any 72 A l n cap HM.out w' (HA.out.on hC); rwa [← HL.out] at this : Calls _ _ _ _ _)).mono ?_
    rintro e w2 ⟨v, rfl, o2, h2⟩
    have hbs : B256 _ := HL256.out
    exact ⟨_, rfl, own_sl o2 hbs, hC.trans (h2.mono hC.size), h2, own_eD rfl o2 hbs⟩
  obtain ⟨A2, c2, e'⟩ : ∃ (A : Option Addr) (c : Nat), vs 2 = .slice A _ c := e
  rw [e']
  have E2 := hid e'
  clear e'
  simp only [Act.put, List.setIfInBounds_toArray, List.set_cons_succ, List.set_cons_zero]
  refine ⟨.inl ⟨rfl, fun dd w' hd hC hDs => ?_⟩, fun e => ?_⟩
  · obtain ⟨B2, k2, f2, a2⟩ := hDs 2 (by kernel_rfl) L rfl
    rw [E2.out] at f2
    cases f2
    go_simp
    have ht := rtag_any k HK.out A2 L _ _ HN.out w' a2
    rw [← HF.out] at ht
    refine ht.mono ?_
    rintro e w2 ⟨rfl, h2⟩
    exact ⟨_, rfl, rfl, hC.trans (h2.mono hC.size), h2, eD_none rfl⟩
  have e' : vs 3 = _ := e
  rw [e']
  clear e e'
  simp only [Act.put, List.setIfInBounds_toArray, List.set_cons_succ, List.set_cons_zero]
  intro dd w4 hall hC4 hDs
  have d2 := z2.out.below hC4 z2.out.lt
  have db := hid (hb.out.trans (hC4.mono hb.out.size))
  clear hall hC4 hDs E2 z0 z2 hb HA H
  go_wp2_with ((with_reducible apply stA tT); rfl; rfl; exact d2)
  apply ret_ar tT Tryd.results25
  · rfl
  · rfl
  · exact d2.setRow_same _
  exact ⟨rfl, below_setRow db.out (by omega) _⟩
set_option maxHeartbeats 400000 in
set_option maxRecDepth 100000 in
theorem rbody_any (k : Nat → Nat) (hk : ∀ i, k i < 256) (A : Option Addr) (l : List Nat) (n cap : Nat) (hn : n ≤ 10000) (w : World) (h : Arg w A l n cap) :
    Calls Tryd.prog 27 #[.agg (ar 32 k), .slice A n cap] w fun e w' => e = .returned (.agg (ar 32 (HmM.tag (HmM.dl k) (BytM.rowB 66 [l])))) ∧ Below w.heap.size w w' := by
  have HK := hid hk
  have H := hid h
  have HM := hid hn
  clear hk h hn
  obtain ⟨L, hL⟩ : ∃ L, L = BytM.rowB 66 [l] := ⟨_, rfl⟩
  have HL := hid hL
  have HN := hid (show L.length ≤ 90000 by rw [hL, rowB1_length]; have := H.out.len; have := HM.out; omega)
  have HL256 := hid (show B256 L by rw [hL]; exact rowB1_256 (by omega) H.out.b256)
  clear hL
  obtain ⟨F, hF⟩ : ∃ F, F = HmM.tag (HmM.dl k) L := ⟨_, rfl⟩
  have HF := hid hF
  clear hF
  rw [← HL.out, ← HF.out]
  go_enter Tryd.func27, Tryd.ntmps27
  go_upto_region 1 with (with_reducible apply alA tT)
  rw [show (w.alloc (.cells (ar 32 k) 23)).heap.size = w.heap.size + 1 by simp]
  generalize hw1 : World.alloc (World.alloc w _) _ = w1
  have z0 := hid (show Blk w1 w.heap.size 23 (ar 32 k) by rw [← hw1]; exact (Blk.new _ _ _).alloc _)
  have z2 := hid (show Blk w1 (w.heap.size + 1) 29 (ar 32 fun _ => 0) by rw [← hw1]; exact Blk.top rfl (by simp))
  have hb := hid (show Below w.heap.size w w1 by rw [← hw1]; exact ((Below.refl _ _).alloc (Nat.le_refl _) _).alloc (by simp) _)
  have HA := hid (H.out.on hb.out)
  clear hw1
  refine wp_region_eS [some (.agg (ar 32 k)), some (.slice A n cap), none, some (.agg (ar 32 F))] [(2, L)] 4 (by kernel_rfl) (by kernel_rfl) (by kernel_rfl) fun vs => ?_
  simp only [List.take_succ_cons, List.take_zero, List.drop_succ_cons, List.drop_zero]
  refine ⟨.inl ⟨rfl, fun dd w' hd hC hDs => ?_⟩, fun e => ?_⟩
  · exact gE_ldA tK rfl ((z0.out.below hC z0.out.lt).head) ⟨rfl, hC, Below.refl _ _, eD_none rfl⟩
  have e' : vs 0 = _ := e
  rw [e']
  clear e e'
  simp only [Act.put, List.setIfInBounds_toArray, List.set_cons_succ, List.set_cons_zero]
  refine ⟨.inl ⟨rfl, fun dd w' hd hC hDs => ?_⟩, fun e => ?_⟩
  · go_simp
    first | exact ⟨rfl, hC, Below.refl _ _, eD_none rfl⟩ | exact ⟨rfl, Below.refl _ _, eD_none rfl⟩ | exact ⟨hC, Below.refl _ _, eD_none rfl⟩
  have e' : vs 1 = _ := e
  rw [e']
  clear e e'
  simp only [Act.put, List.setIfInBounds_toArray, List.set_cons_succ, List.set_cons_zero]
  refine ⟨.inl ⟨rfl, fun dd w' hd hC hDs => ?_⟩, fun e => ?_⟩
  · go_simp
    refine ((by have := rplain_any 66 A l n cap HM.out w' (HA.out.on hC); rwa [← HL.out] at this : Calls _ _ _ _ _)).mono ?_
    rintro e w2 ⟨v, rfl, o2, h2⟩
    have hbs : B256 _ := HL256.out
    exact ⟨_, rfl, own_sl o2 hbs, hC.trans (h2.mono hC.size), h2, own_eD rfl o2 hbs⟩
  obtain ⟨A2, c2, e'⟩ : ∃ (A : Option Addr) (c : Nat), vs 2 = .slice A _ c := e
  rw [e']
  have E2 := hid e'
  clear e'
  simp only [Act.put, List.setIfInBounds_toArray, List.set_cons_succ, List.set_cons_zero]
  refine ⟨.inl ⟨rfl, fun dd w' hd hC hDs => ?_⟩, fun e => ?_⟩
  · obtain ⟨B2, k2, f2, a2⟩ := hDs 2 (by kernel_rfl) L rfl
    rw [E2.out] at f2
    cases f2
    go_simp
    have ht := rtag_any k HK.out A2 L _ _ HN.out w' a2
    rw [← HF.out] at ht
    refine ht.mono ?_
    rintro e w2 ⟨rfl, h2⟩
    exact ⟨_, rfl, rfl, hC.trans (h2.mono hC.size), h2, eD_none rfl⟩
  have e' : vs 3 = _ := e
  rw [e']
  clear e e'
  simp only [Act.put, List.setIfInBounds_toArray, List.set_cons_succ, List.set_cons_zero]
  intro dd w4 hall hC4 hDs
  have d2 := z2.out.below hC4 z2.out.lt
  have db := hid (hb.out.trans (hC4.mono hb.out.size))
  clear hall hC4 hDs E2 z0 z2 hb HA H
  go_wp2_with ((with_reducible apply stA tT); rfl; rfl; exact d2)
  apply ret_ar tT Tryd.results27
  · rfl
  · rfl
  · exact d2.setRow_same _
  exact ⟨rfl, below_setRow db.out (by omega) _⟩
end TgP
end Go.Proofs.YtmbhibilmedjmaaDoor
set_option maxRecDepth 100000
namespace Go.Proofs.YtmbhibilmedjmaaDoor
open Go.ChangeShapes Go.WideShapes Go.ChangeAt Go.RowKit
attribute [local go_sem] Gives
namespace TgP
def tagN (k : Nat → Nat) (L : List Nat) : Nat → Nat := HmM.tag (HmM.dl k) L
abbrev NumTag (f d : Nat) : Prop := ∀ (k : Nat → Nat), (∀ i, k i < 256) → ∀ (num : Int), (-9223372036854775808 ≤ num ∧ num ≤ 9223372036854775807) → ∀ (s : Nat → Nat), (∀ i, s i < 256) → ∀ w : World, Salts w →
  Calls Tryd.prog f #[.agg (ar 32 k), .int .i64 num, .agg (ar 64 s)] w fun e w' => e = .returned (.agg (ar 32 (tagN k (numT d num s)))) ∧ Below w.heap.size w w'
abbrev PlainTag (f d : Nat) : Prop := ∀ (k : Nat → Nat), (∀ i, k i < 256) → ∀ (A : Option Addr) (l : List Nat) (n cap : Nat), n ≤ 10000 → ∀ w : World, Arg w A l n cap → Salts w →
  Calls Tryd.prog f #[.agg (ar 32 k), .slice A n cap] w fun e w' => e = .returned (.agg (ar 32 (tagN k (plainT d l)))) ∧ Below w.heap.size w w'
structure TagC : Prop where
  of : ∀ (k : Nat → Nat), (∀ i, k i < 256) → ∀ (A : Option Addr) (l : List Nat) (n cap : Nat), n ≤ 90000 → ∀ w : World, Arg w A l n cap → Salts w →
    Calls Tryd.prog 28 #[.agg (ar 32 k), .slice A n cap] w fun e w' => e = .returned (.agg (ar 32 (tagN k l))) ∧ Below w.heap.size w w'
  leaf : NumTag 11 76
  node : NumTag 13 78
  label : PlainTag 22 82
  head : PlainTag 24 72
  body : PlainTag 26 66
end TgP
end Go.Proofs.YtmbhibilmedjmaaDoor
