/-
  The program's Advance.
  The program's cell keeps its contracts.
  What is wanted of the program's bus: the contracts of its calls, over whatever it lays in memory; a bus of the program's beside one of the document's.
  The law's do: an act done to both.
  The law's alike: bus, members and cell tell what the document's do.
  Lists of elements: a literal of two elements.
  The law's full, given and two.
  The law's two: a bus of two members.
  A region that draws its order, as in XRegC; that what has come up is closed is at hand.
  The law's awake, in plain words.
  The law's awake.
  The law BusSees: what a step sets is seen by each I/O from its number on, and by none ahead.
  The law's over: an act over a bus of the program's.
-/
import Derived.Test.YthogklchmhjjkaaGreatMrg6
set_option linter.unusedVariables false
set_option linter.unusedSimpArgs false
set_option maxRecDepth 100000
namespace Go.Proofs.YthogklchmhjjkaaGreat
open Go.ChangeShapes Go.WideShapes Go.ChangeAt Go.RowKit
attribute [local go_sem] Gives GivesE
namespace ClP
section
variable {w w' : World} {g : Nat} {v : Value} {H : List Held} {h : Held}
theorem padv_full (P : Pc w g v H h) (hc : h.1 = most) (t : Nat → Nat) :
    Calls Tryz.prog 62 #[ptr' g, .agg (ar 32 t)] w fun e w' => e = .returned (.tuple #[.int .u64 0, .int .i64 15]) ∧ Below w.heap.size w w' := by
  have HH := hid P
  unfold ptr'
  clear P
  go_enter Tryz.func62, Tryz.ntmps62
  go_upto_region 1 with fail
  generalize hw1 : World.alloc w _ = w1
  have BEL := hid (show Below w.heap.size w w1 by rw [← hw1]; exact (Below.refl _ _).alloc (Nat.le_refl _) _)
  have H1 := hid (HH.out.below BEL.out)
  have q0 : w1.cell? ⟨g, 1, none⟩ = some (.int .u64 (4611686018427387904 : Int)) := by
    have := pc_c H1.out.blk
    rw [hc] at this
    exact this
  clear hw1 HH
  go_wp2_with fail
  refine (made_any H1.out).mono ?_
  rintro e w2 ⟨rfl, rfl⟩
  go_wp2_with fail
  go_ret2
  exact ⟨rfl, BEL.out⟩
set_option maxHeartbeats 1000000 in
set_option maxRecDepth 100000 in
theorem padv_any (P : Pc w g v H h) (hc : h.1 < most) (hl : H.length ≤ 10000) (t : Nat → Nat) :
    Calls Tryz.prog 62 #[ptr' g, .agg (ar 32 t)] w fun e w' => e = .returned (.tuple #[.int .u64 ((h.1 + 1 : Nat) : Int), .int .i64 0]) ∧ ∃ v', Pc w' g v' (H ++ [h]) (h.1 + 1, t) ∧
      (∀ b, v'.ownBlock = some b → v.ownBlock = some b ∨ w.heap.size ≤ b) ∧ Turn (mutB g v) w w' := by
  obtain ⟨A, c0, rfl, _⟩ := P.hs.sli ceL_len
  obtain ⟨c, l0⟩ := h
  have HH := hid P
  have hgl := P.blk.lt
  unfold ptr'
  unfold most at hc
  have hc' : c < 4611686018427387904 := hc
  have t1 : ((c : Int) == 4611686018427387904) = false := by simp; omega
  have t2 : decide (c = 4611686018427387904) = false := by simp; omega
  have t3 : decide ((c : Int) = 4611686018427387904) = false := by simp; omega
  have tw : IntKind.u64.wrap ((c : Int) + 1) = ((c + 1 : Nat) : Int) := (IntWalk.u64_in _ (by omega)).trans (by omega)
  clear P hc
  go_enter Tryz.func62, Tryz.ntmps62
  go_upto_region 1 with fail
  generalize hw1 : World.alloc w _ = w1
  have b1 := hid (show Blk w1 w.heap.size 25 (ar 32 t) by rw [← hw1]; exact Blk.new _ _ _)
  have BEL := hid (show Below w.heap.size w w1 by rw [← hw1]; exact (Below.refl _ _).alloc (Nat.le_refl _) _)
  have H1 := hid (HH.out.below BEL.out)
  clear hw1 HH
  have q0 : w1.cell? ⟨g, 1, none⟩ = some (.int .u64 (c : Nat)) := pc_c H1.out.blk
  go_wp2_with fail
  refine (made_any H1.out).mono ?_
  rintro e w2 ⟨rfl, rfl⟩
  go_upto_region 5 with fail
  have C2 := hid H1.out.blk
  have O2 := hid H1.out.hs
  have hne := hid H1.out.ne
  refine wp_region_c (S := yS [some (.pointer (some ⟨g, 0, none⟩)), some (.pointer (some ⟨g, 0, none⟩)), some (.pointer (some ⟨g, 0, none⟩)), some (.pointer (some ⟨g, 34, none⟩)), some (.slice A H.length c0), some (.pointer (some ⟨g, 0, none⟩)), some (.pointer (some ⟨g, 0, none⟩)), some (.pointer (some ⟨g, 1, none⟩)), some (.agg (ceL (c, l0)).toArray), none, none, some (.pointer (some ⟨g, 0, none⟩)), some (.pointer (some ⟨g, 34, none⟩))]
      [(9, kSl 1), (10, kSl (H.length + 1))]) (C := fun d vs w' => ApC 27 33 ceL w2 (.slice A H.length c0) H ((c, l0) : Held) (d 9) (d 10) (vs 9) (vs 10) w') 13 (by kernel_rfl) (by kernel_rfl) (by kernel_rfl) _
    (yS_ok _ fun y hy => by simp only [List.mem_cons, List.not_mem_nil, or_false] at hy; rcases hy with rfl | rfl <;> exact kSl_ok _) ⟨Turn.drew _, fun _ => (Below.refl _ _).drew, (fun e => by cases e), (fun e => by cases e)⟩ fun vs => ?_
  simp only [List.take_succ_cons, List.take_zero, List.drop_succ_cons, List.drop_zero]
  refine ⟨.inl ⟨rfl, fun dd w' hd hnx hw hC => ?_⟩, fun e => ?_⟩
  · go_simp
    first | exact ⟨rfl, hC⟩ | exact hC
  have e' : vs 0 = _ := e
  rw [e']
  clear e e'
  simp only [Act.put, List.setIfInBounds_toArray, List.set_cons_succ, List.set_cons_zero]
  refine ⟨.inl ⟨rfl, fun dd w' hd hnx hw hC => ?_⟩, fun e => ?_⟩
  · go_simp
    first | exact ⟨rfl, hC⟩ | exact hC
  have e' : vs 1 = _ := e
  rw [e']
  clear e e'
  simp only [Act.put, List.setIfInBounds_toArray, List.set_cons_succ, List.set_cons_zero]
  refine ⟨.inl ⟨rfl, fun dd w' hd hnx hw hC => ?_⟩, fun e => ?_⟩
  · go_simp
    first | exact ⟨rfl, hC⟩ | exact hC
  have e' : vs 2 = _ := e
  rw [e']
  clear e e'
  simp only [Act.put, List.setIfInBounds_toArray, List.set_cons_succ, List.set_cons_zero]
  refine ⟨.inl ⟨rfl, fun dd w' hd hnx hw hC => ?_⟩, fun e => ?_⟩
  · go_simp
    first | exact ⟨rfl, hC⟩ | exact hC
  have e' : vs 3 = _ := e
  rw [e']
  clear e e'
  simp only [Act.put, List.setIfInBounds_toArray, List.set_cons_succ, List.set_cons_zero]
  refine ⟨.inl ⟨rfl, fun dd w' hd hnx hw hC => ?_⟩, fun e => ?_⟩
  · have h1 : w'.cell? ⟨g, 34, none⟩ = some (.slice A H.length c0) := pc_v (C2.out.turn hC.t hne.out)
    go_simp
    first | exact ⟨rfl, hC⟩ | exact hC
  have e' : vs 4 = _ := e
  rw [e']
  clear e e'
  simp only [Act.put, List.setIfInBounds_toArray, List.set_cons_succ, List.set_cons_zero]
  refine ⟨.inl ⟨rfl, fun dd w' hd hnx hw hC => ?_⟩, fun e => ?_⟩
  · go_simp
    first | exact ⟨rfl, hC⟩ | exact hC
  have e' : vs 5 = _ := e
  rw [e']
  clear e e'
  simp only [Act.put, List.setIfInBounds_toArray, List.set_cons_succ, List.set_cons_zero]
  refine ⟨.inl ⟨rfl, fun dd w' hd hnx hw hC => ?_⟩, fun e => ?_⟩
  · go_simp
    first | exact ⟨rfl, hC⟩ | exact hC
  have e' : vs 6 = _ := e
  rw [e']
  clear e e'
  simp only [Act.put, List.setIfInBounds_toArray, List.set_cons_succ, List.set_cons_zero]
  refine ⟨.inl ⟨rfl, fun dd w' hd hnx hw hC => ?_⟩, fun e => ?_⟩
  · go_simp
    first | exact ⟨rfl, hC⟩ | exact hC
  have e' : vs 7 = _ := e
  rw [e']
  clear e e'
  simp only [Act.put, List.setIfInBounds_toArray, List.set_cons_succ, List.set_cons_zero]
  refine ⟨.inl ⟨rfl, fun dd w' hd hnx hw hC => ?_⟩, fun e => ?_⟩
  · exact gE_ldR (cs := (ceL (c, l0)).toArray) (tCe (c, l0)) rfl (pc_h (C2.out.turn hC.t hne.out)) ⟨rfl, hC⟩
  have e' : vs 8 = _ := e
  rw [e']
  clear e e'
  simp only [Act.put, List.setIfInBounds_toArray, List.set_cons_succ, List.set_cons_zero]
  refine ⟨.inl ⟨rfl, fun dd w' hd hnx hw hC => ?_⟩, fun e => ?_⟩
  · have h8 : dd 10 = false := hnx 10 (by kernel_rfl)
    have ha := (Below.refl w'.heap.size w').alloc (Nat.le_refl _) (.cells (ceL (c, l0)).toArray 27)
    have hbl := hC.b h8
    exact gE_lit1 (x := ((c, l0) : Held)) eltCe undCe (by omega) rfl rfl ⟨⟨_, _, rfl⟩, hC.t.trans (Turn.of_new (S := fun _ => False) ha) (fun _ e => e.elim), (fun _ => hbl.trans (ha.mono hbl.size)), (fun _ _ => ⟨_, _, rfl, sli_lit1 eltCe ((c, l0) : Held) w' hbl.size⟩), fun e => by
      have e' : dd 10 = true := e
      rw [h8] at e'; cases e'⟩
  obtain ⟨A7, c7, e'⟩ : ∃ (A : Option Addr) (c : Nat), vs 9 = .slice A 1 c := e
  rw [e']
  have E7 := hid e'
  clear e'
  simp only [Act.put, List.setIfInBounds_toArray, List.set_cons_succ, List.set_cons_zero]
  refine ⟨.inl ⟨rfl, fun dd w' hd hnx hw hC => ?_⟩, fun e => ?_⟩
  · have h7 : dd 9 = true := hw 9 (by kernel_rfl)
    have hbl := hC.b hd
    obtain ⟨A', c', f, sl⟩ := hC.lit h7 hd
    rw [E7.out] at f
    cases f
    refine gE_appW eltCe undCe (B := 0) (v := .slice A H.length c0) (l := H) (m := [((c, l0) : Held)]) rfl rfl (O2.out.below hbl (Nat.le_refl _)) sl (by omega) (by omega) (Nat.zero_le _) fun v' w4 o4 g4 wh => ?_
    obtain ⟨A4, c4, rfl, _⟩ := o4.sli ceL_len
    refine ⟨⟨A4, c4, by rw [List.length_append]; rfl⟩, ?_⟩
    exact ⟨(Turn.of_new (S := fun b => (Value.slice A H.length c0).ownBlock = some b) hbl).trans (Turn.of_grown (S := fun b => (Value.slice A H.length c0).ownBlock = some b) g4 fun b e => e) (fun b e => .inl e), (fun e => by cases e), (fun _ e => by cases e), fun _ => ⟨o4, fun b e => by
      have e3 : (Value.slice A4 (H ++ [((c, l0) : Held)]).length c4).ownBlock = some b := e
      rcases wh with x | x
      · exact .inl (x.symm.trans e3)
      · rw [x] at e3; cases e3; exact .inr hbl.size⟩⟩
  obtain ⟨A8, c8, e'⟩ : ∃ (A : Option Addr) (c : Nat), vs 10 = .slice A (H.length + 1) c := e
  rw [e']
  have E8 := hid e'
  clear e'
  simp only [Act.put, List.setIfInBounds_toArray, List.set_cons_succ, List.set_cons_zero]
  refine ⟨.inl ⟨rfl, fun dd w' hd hnx hw hC => ?_⟩, fun e => ?_⟩
  · go_simp
    first | exact ⟨rfl, hC⟩ | exact hC
  have e' : vs 11 = _ := e
  rw [e']
  clear e e'
  simp only [Act.put, List.setIfInBounds_toArray, List.set_cons_succ, List.set_cons_zero]
  refine ⟨.inl ⟨rfl, fun dd w' hd hnx hw hC => ?_⟩, fun e => ?_⟩
  · go_simp
    first | exact ⟨rfl, hC⟩ | exact hC
  have e' : vs 12 = _ := e
  rw [e']
  clear e e'
  simp only [Act.put, List.setIfInBounds_toArray, List.set_cons_succ, List.set_cons_zero]
  intro dd w4 hall hC
  obtain ⟨o4, wh⟩ := hC.own (hall 10 (by omega))
  rw [E8.out] at o4 wh
  have bb := C2.out.turn hC.t hne.out
  have tu5 := Turn.setCell (S := fun b => b = g) w4 ⟨g, 34, none⟩ (.slice A8 (H.length + 1) c8) rfl
  have hne4 : ∀ b, (Value.slice A8 (H.length + 1) c8).ownBlock = some b → b ≠ g := fun b e e2 => by
    rcases wh b e with x | x
    · exact hne.out (by rw [x, e2])
    · have := C2.out.lt; omega
  have P3 := hid (show Pc (w4.setCell ⟨g, 34, none⟩ (.slice A8 (H.length + 1) c8)) g (.slice A8 (H.length + 1) c8) (H ++ [((c, l0) : Held)]) (c, l0) from
    ⟨pc_setV bb _, o4.turn tu5 hne4, fun e => by simp at e⟩)
  have T3 := hid (show Turn (mutB g (.slice A H.length c0)) w (w4.setCell ⟨g, 34, none⟩ (.slice A8 (H.length + 1) c8)) from
    ((Turn.of_new (S := mutB g (.slice A H.length c0)) BEL.out).trans (hC.t.mono (T := mutB g (.slice A H.length c0)) fun b e => .inr e) fun b e => .inl e).trans tu5 fun b e => .inl (.inl e))
  have b3 := hid (b1.out.turn (Turn.trans (S := mutB g (.slice A H.length c0)) (hC.t.mono fun b e => .inr e) tu5 fun b e => .inl (.inl e)) fun e => by
    rcases e with e | e
    · omega
    · have := H1.out.hs.own _ e; have := (H1.out.hs.obj e); obtain ⟨cur, hcur⟩ := this; have hb := b1.out; unfold Blk at hb; rw [hcur] at hb; simp at hb)
  have W := hid (show ∀ b, (Value.slice A8 (H.length + 1) c8).ownBlock = some b → (Value.slice A H.length c0).ownBlock = some b ∨ w.heap.size ≤ b from fun b e => (wh b e).imp id fun x => Nat.le_trans BEL.out.size x)
  have p34 : w4.cell? ⟨g, 34, none⟩ = some (.slice A H.length c0) := pc_v bb
  have fz := bb.frozen 34
  clear C2 O2 hC o4 wh bb hall E7 E8 tu5 hne4 H1 b1 BEL q0 hne
  go_upto_region 6 with fail
  generalize World.setCell w4 _ _ = w5 at P3 T3 b3 ⊢
  clear p34 fz
  refine wp_region_tail (C := fun w' => Below w5.heap.size w5 w') 11 (by kernel_rfl) (by kernel_rfl) (by kernel_rfl) (Below.refl _ _).drew ?_
  simp only [List.take_succ_cons, List.take_zero, List.drop_succ_cons, List.drop_zero]
  apply wpK_val
  · rfl
  · intro w' hw'
    go_simp
    first | exact rfl | exact ⟨rfl, hw'⟩
  simp only [Act.put, List.setIfInBounds_toArray, List.set_cons_succ, List.set_cons_zero]
  apply wpK_val
  · rfl
  · intro w' hw'
    go_simp
    first | exact rfl | exact ⟨rfl, hw'⟩
  simp only [Act.put, List.setIfInBounds_toArray, List.set_cons_succ, List.set_cons_zero]
  apply wpK_val
  · rfl
  · intro w' hw'
    go_simp
    first | exact rfl | exact ⟨rfl, hw'⟩
  simp only [Act.put, List.setIfInBounds_toArray, List.set_cons_succ, List.set_cons_zero]
  apply wpK_val
  · rfl
  · intro w' hw'
    go_simp
    first | exact rfl | exact ⟨rfl, hw'⟩
  simp only [Act.put, List.setIfInBounds_toArray, List.set_cons_succ, List.set_cons_zero]
  apply wpK_val
  · rfl
  · intro w' hw'
    go_simp
    first | exact rfl | exact ⟨rfl, hw'⟩
  simp only [Act.put, List.setIfInBounds_toArray, List.set_cons_succ, List.set_cons_zero]
  apply wpK_val
  · rfl
  · intro w' hw'
    have hcell := pc_c (P3.out.below hw').blk
    go_simp
    first | exact rfl | exact ⟨rfl, hw'⟩
  simp only [Act.put, List.setIfInBounds_toArray, List.set_cons_succ, List.set_cons_zero]
  apply wpK_val
  · rfl
  · intro w' hw'
    go_simp
    first | exact rfl | exact ⟨rfl, hw'⟩
  simp only [Act.put, List.setIfInBounds_toArray, List.set_cons_succ, List.set_cons_zero]
  apply kldA tTg
  · rfl
  · rfl
  · exact fun w' hw' => (b3.out.below hw' b3.out.lt).head
  simp only [Act.put, List.setIfInBounds_toArray, List.set_cons_succ, List.set_cons_zero]
  apply kblC (c := c + 1) (l := t)
  · rfl
  · rfl
  · rfl
  simp only [Act.put, List.setIfInBounds_toArray, List.set_cons_succ, List.set_cons_zero]
  apply wpK_val
  · rfl
  · intro w' hw'
    go_simp
    first | exact rfl | exact ⟨rfl, hw'⟩
  simp only [Act.put, List.setIfInBounds_toArray, List.set_cons_succ, List.set_cons_zero]
  apply wpK_val
  · rfl
  · intro w' hw'
    go_simp
    first | exact rfl | exact ⟨rfl, hw'⟩
  simp only [Act.put, List.setIfInBounds_toArray, List.set_cons_succ, List.set_cons_zero]
  intro wa hCa
  have P4 := hid (P3.out.below hCa)
  have T4 := hid (T3.out.trans (Turn.of_new (S := fun _ => False) hCa) fun _ e => e.elim)
  have th := hid (pc_there (o := 1) (n := (ceL (c + 1, t)).toArray.size) P4.out.blk (by rw [List.size_toArray, ceL_len]; omega))
  clear P3 T3 b3 hCa
  go_upto_region 7 with ((with_reducible apply stRM (tCe (c + 1, t))); rfl; rfl; exact th.out; exact ce_one _)
  have tu2 := turn_setCells (g := g) (ceL (c + 1, t)).toArray.toList 1 wa
  have hne5 := P4.out.ne
  have P5 := hid (show Pc (wa.setCells g 1 (ceL (c + 1, t)).toArray.toList) g (.slice A8 (H.length + 1) c8) (H ++ [((c, l0) : Held)]) (c + 1, t) from
    ⟨pc_setH P4.out.blk (c + 1, t), P4.out.hs.turn tu2 fun b e e2 => hne5 (by rw [e, e2]), fun e => by simp at e⟩)
  have T5 := hid (T4.out.trans tu2 fun _ e => .inl (.inl e))
  clear tu2 hne5 P4 T4 th
  generalize World.setCells wa _ _ _ = w6 at P5 T5 ⊢
  have p1 : w6.cell? ⟨g, 1, none⟩ = some (.int .u64 ((c + 1 : Nat) : Int)) := pc_c P5.out.blk
  go_wp2_with fail
  go_ret2
  exact ⟨rfl, _, P5.out, W.out, T5.out⟩
end
end ClP
end Go.Proofs.YthogklchmhjjkaaGreat
set_option maxRecDepth 100000
namespace Go.Proofs.YthogklchmhjjkaaGreat
open Go.ChangeShapes Go.WideShapes Go.ChangeAt Go.RowKit
attribute [local go_sem] Gives GivesE
namespace ClP
/-! ### Of nil, and of what New did not make -/
def zPc : Array Value := pcV false (0, zero) (.slice none 0 0)
end ClP
end Go.Proofs.YthogklchmhjjkaaGreat
set_option maxRecDepth 100000
namespace Go.Proofs.YthogklchmhjjkaaGreat
open Go.ChangeShapes Go.WideShapes Go.ChangeAt Go.RowKit
attribute [local go_sem] Gives GivesE
namespace BuP
open BuM MbM MbP
abbrev RepM : MbP.RepT := MbO.Rep
/-- In w block g is a cell of the program's that holds h, and has held L; it turns blocks of M alone. -/
def repCb (w : World) (g : Nat) (M : Nat → Prop) (L : List ClP.Held) (h : ClP.Held) : Prop := ∃ H v, ClP.Pc w g v H h ∧ L = H ++ [h] ∧ M = ClP.mutB g v
section
variable {w w' : World} {g : Nat} {M : Nat → Prop} {L : List ClP.Held} {h : ClP.Held}
theorem cb_lt (H : repCb w g M L h) : ∀ q, M q → q < w.heap.size := by
  obtain ⟨H, v, P, _, rfl⟩ := H
  intro q e
  rcases e with e | e
  · rw [e]; exact P.blk.lt
  · exact (P.hs.own _ e).2
theorem cb_turn {T : Nat → Prop} (H : repCb w g M L h) (ht : Turn T w w') (hT : ∀ q, M q → ¬ T q) : repCb w' g M L h := by
  obtain ⟨K, v, P, hL, rfl⟩ := H
  exact ⟨K, v, P.turn ht hT, hL, rfl⟩
theorem cb_new (c : Nat) (l : Nat → Nat) (hc : c ≤ ClP.most) (w : World) : Calls Tryz.prog 21 #[.agg (ClP.ceL (c, l)).toArray] w fun e w' => ∃ g M, e = .returned (.tuple #[MbP.at' g, .int .i64 0]) ∧ repCb w' g M [((c, l) : ClP.Held)] (c, l) ∧ (∀ q, M q → w.heap.size ≤ q) ∧ Below w.heap.size w w' :=
  (ClP.pnew_any c l hc w).mono fun e w' ⟨g, he, hP, hg, hB⟩ => ⟨g, ClP.mutB g (.slice none 0 0), he, ⟨[], _, hP, rfl, rfl⟩, (fun p hp => by
    rcases hp with e | e
    · rw [e]; exact hg
    · cases e), hB⟩
theorem cb_read (H : repCb w g M L h) : Calls Tryz.prog 33 #[MbP.at' g] w fun e w' => e = .returned (.tuple #[.agg (ClP.ceL h).toArray, .int .i64 0]) ∧ Below w.heap.size w w' := by
  obtain ⟨K, v, P, _, _⟩ := H
  exact ClP.pread_any P
theorem cb_adv (H : repCb w g M L h) (hc : h.1 < ClP.most) (hl : L.length ≤ 10000) (t : Nat → Nat) : Calls Tryz.prog 62 #[MbP.at' g, .agg (ar 32 t)] w fun e w' => e = .returned (.tuple #[.int .u64 ((h.1 + 1 : Nat) : Int), .int .i64 0]) ∧
    ∃ M', repCb w' g M' (L ++ [((h.1 + 1, t) : ClP.Held)]) (h.1 + 1, t) ∧ (∀ q, M' q → M q ∨ w.heap.size ≤ q) ∧ Turn M w w' := by
  obtain ⟨K, v, P, rfl, rfl⟩ := H
  refine (ClP.padv_any P hc (by rw [List.length_append] at hl; omega) t).mono ?_
  rintro e w' ⟨rfl, v', hP, hw, ht⟩
  refine ⟨rfl, _, ⟨_, v', hP, rfl, rfl⟩, fun p hp => ?_, ht⟩
  rcases hp with e | e
  · exact .inl (.inl e)
  · exact (hw _ e).imp .inr id
theorem cb_full (H : repCb w g M L h) (hc : h.1 = ClP.most) (t : Nat → Nat) : Calls Tryz.prog 62 #[MbP.at' g, .agg (ar 32 t)] w fun e w' => e = .returned (.tuple #[.int .u64 0, .int .i64 15]) ∧ Below w.heap.size w w' := by
  obtain ⟨K, v, P, rfl, rfl⟩ := H
  exact ClP.padv_full P hc t
end
/-- Where all of the program's bus lies. -/
structure Fq where
  gs : List Nat
  Ms : Nat → Nat → Prop
  Is : Nat → Nat → Prop
  gc : Nat
  Mc : Nat → Prop
  hist : List ClP.Held
  Mo : Nat → Prop
  Io : Nat → Prop
def mutP (F : Fq) (q : Nat) : Prop := F.Mo q ∨ F.Mc q ∨ ∃ i, i < F.gs.length ∧ F.Ms i q
def rdP (F : Fq) (q : Nat) : Prop := F.Io q ∨ ∃ i, i < F.gs.length ∧ F.Is i q
/-- repB w g gs gc Mo Io steps off log: in w block g is a bus over these members and this cell; but for these it turns blocks of Mo alone, and reads those of Mo and Io. -/
abbrev RepB := World → Nat → List Nat → Nat → (Nat → Prop) → (Nat → Prop) → List Stp → Bool → List BuM.Ent → Prop
structure Pp (repB : RepB) (w : World) (g : Nat) (F : Fq) (k : Nat) (b : Bs) : Prop where
  skel : repB w g F.gs F.gc F.Mo F.Io b.steps b.off b.log
  len : F.gs.length = b.ms.length
  mem : ∀ (i gi : Nat) (st : St), F.gs[i]? = some gi → b.ms[i]? = some st → RepM w gi (F.Ms i) (F.Is i) k st
  ok : okM b.ms ∧ ∀ s ∈ b.steps, okS s
  cel : repCb w F.gc F.Mc F.hist b.c
  olt : ∀ q, F.Mo q ∨ F.Io q → q < w.heap.size
  sep : ∀ q, rdP F q → ¬ mutP F q
  nd : ∀ i j q, i < F.gs.length → j < F.gs.length → F.Ms i q → F.Ms j q → i = j
  mc : ∀ q, F.Mc q → ¬ F.Mo q ∧ ∀ i, i < F.gs.length → ¬ F.Ms i q
  mo : ∀ q, F.Mo q → ∀ i, i < F.gs.length → ¬ F.Ms i q
  sz : b.ms.length ≤ 64 ∧ b.steps.length ≤ 1000 ∧ F.hist.length ≤ k + 1 ∧ b.log.length ≤ k ∧ ∀ s ∈ b.steps, s.picks.length ≤ 140737488351232
  cmx : b.c.1 ≤ ClP.most
/-- What a call of it leaves. -/
def outQ (repB : RepB) (w : World) (g : Nat) (F : Fq) (k : Nat) (b : Bs) (w' : World) : Prop :=
  ∃ F', Pp repB w' g F' k b ∧ F'.gs = F.gs ∧ F'.gc = F.gc ∧ (∀ q, mutP F' q → mutP F q ∨ w.heap.size ≤ q) ∧ (∀ q, rdP F' q → mutP F q ∨ rdP F q ∨ w.heap.size ≤ q) ∧ Turn (mutP F) w w'
structure BusC (repB : RepB) : Prop where
  frame : ∀ {w w' g gs gc Mo Io steps off log} {T : Nat → Prop}, repB w g gs gc Mo Io steps off log → Turn T w w' → (∀ q, Mo q ∨ Io q → ¬ T q) → repB w' g gs gc Mo Io steps off log
  new : ∀ {w : World} {A : Option Addr} {gs : List Nat} {n c gc : Nat} {As : Option Addr} {ns cs : Nat} {steps : List Stp} {sl : List SlB} {S Sp : Nat → Prop} {Ms Is : Nat → Nat → Prop} {Mc : Nat → Prop} {hist : List ClP.Held} {cv : ClP.Held} {k : Nat} {ms : List St},
    Sli 1 ptL S w A gs n c → gs.length = ms.length → (∀ (i gi : Nat) (st : St), gs[i]? = some gi → ms[i]? = some st → RepM w gi (Ms i) (Is i) k st ∧ 1 ≤ st.n) → 1 ≤ n → n ≤ 64 → repCb w gc Mc hist cv →
    Sli 70 stL S w As (steps.zip sl) ns cs → sl.length = steps.length → ns ≤ 1000 → (∀ s x, (s, x) ∈ steps.zip sl → Arg w x.A s.picks s.picks.length x.c ∧ s.picks.length ≤ 140737488351232 ∧ okS s ∧ ∀ q o, 0 < s.picks.length → x.A = some ⟨q, o, none⟩ → Sp q) →
    Calls Tryz.prog 23 #[.slice A n c, MbP.at' gc, .slice As ns cs] w fun e w' => ∃ g Mo Io, e = .returned (.tuple #[MbP.at' g, .int .i64 0]) ∧ repB w' g gs gc Mo Io steps false [] ∧ (∀ q, Mo q → w.heap.size ≤ q) ∧ (∀ q, Io q → w.heap.size ≤ q ∧ q < w'.heap.size ∨ Sp q) ∧ (∀ q, Mo q → q < w'.heap.size ∧ ¬ Io q) ∧ Below w.heap.size w w'
  bad : ∀ {w : World} {A : Option Addr} {gs : List Nat} {n c gc : Nat} {As : Option Addr} {ns cs : Nat} {steps : List Stp} {sl : List SlB} {S : Nat → Prop} {Ms Is : Nat → Nat → Prop} {Mc : Nat → Prop} {hist : List ClP.Held} {cv : ClP.Held} {k : Nat} {ms : List St},
    Sli 1 ptL S w A gs n c → gs.length = ms.length → (∀ (i gi : Nat) (st : St), gs[i]? = some gi → ms[i]? = some st → RepM w gi (Ms i) (Is i) k st ∧ 1 ≤ st.n) → n = 0 ∨ 64 < n → n ≤ 1000 → repCb w gc Mc hist cv →
    Sli 70 stL S w As (steps.zip sl) ns cs → sl.length = steps.length → ns ≤ 1000 →
    Calls Tryz.prog 23 #[.slice A n c, MbP.at' gc, .slice As ns cs] w fun e w' => e = .returned (.tuple #[.pointer none, .int .i64 2]) ∧ Below w.heap.size w w'
  read : ∀ {w g F k b}, Pp repB w g F k b → k + b.steps.length + 2 ≤ 8000 → ∀ m i : Int, Calls Tryz.prog 13 #[MbP.at' g, .int .i64 m, .int .i64 i] w fun e w' => e = .returned (.tuple #[.agg (ar 64 (BuM.rdB (BuM.ahead b) m i).s), .int .i64 (BuM.rdB (BuM.ahead b) m i).e]) ∧ outQ repB w g F (k + b.steps.length + 2) (BuM.rdT b m i) w'
  write : ∀ {w g F k b}, Pp repB w g F k b → k + b.steps.length + 2 ≤ 8000 → ∀ (m i : Int) (x : Nat → Nat), (∀ j, x j < 256) → Calls Tryz.prog 16 #[MbP.at' g, .int .i64 m, .int .i64 i, .agg (ar 64 x)] w fun e w' => e = .returned (.int .i64 (BuM.wrB (BuM.ahead b) m i x).e) ∧ outQ repB w g F (k + b.steps.length + 2) (BuM.wrT b m i x) w'
  flush : ∀ {w g F k b}, Pp repB w g F k b → k + b.steps.length + 2 ≤ 8000 → ∀ m : Int, Calls Tryz.prog 25 #[MbP.at' g, .int .i64 m] w fun e w' => e = .returned (.int .i64 (BuM.flB (BuM.ahead b) m).e) ∧ outQ repB w g F (k + b.steps.length + 2) (BuM.flT b m) w'
  cell : ∀ {w g F k b}, Pp repB w g F k b → k + b.steps.length + 2 ≤ 8000 → Calls Tryz.prog 27 #[MbP.at' g] w fun e w' => e = .returned (.tuple #[.agg (ClP.ceL (BuM.ceV (BuM.ahead b))).toArray, .int .i64 (BuM.ceB (BuM.ahead b)).e]) ∧ outQ repB w g F (k + b.steps.length + 2) (BuM.ceT b) w'
  adv : ∀ {w g F k b}, Pp repB w g F k b → k + b.steps.length + 2 ≤ 8000 → ∀ t : Nat → Nat, Calls Tryz.prog 29 #[MbP.at' g, .agg (ar 32 t)] w fun e w' => e = .returned (.tuple #[.int .u64 (BuM.adN (BuM.ahead b)), .int .i64 (BuM.adB (BuM.ahead b) t).e]) ∧ outQ repB w g F (k + b.steps.length + 2) (BuM.adT b t) w'
  power : ∀ {w g F k b}, Pp repB w g F k b → Calls Tryz.prog 31 #[MbP.at' g] w fun e w' => e = .returned (.int .i64 0) ∧ outQ repB w g F k (BuM.power b) w'
  count : ∀ {w g F k b}, Pp repB w g F k b → Calls Tryz.prog 18 #[MbP.at' g] w fun e w' => e = .returned (.int .i64 (b.log.length : Nat)) ∧ Below w.heap.size w w'
  off : ∀ {w g F k b}, Pp repB w g F k b → Calls Tryz.prog 17 #[MbP.at' g] w fun e w' => e = .returned (.bool b.off) ∧ Below w.heap.size w w'
  members : ∀ {w g F k b}, Pp repB w g F k b → Calls Tryz.prog 34 #[MbP.at' g] w fun e w' => e = .returned (.int .i64 (b.ms.length : Nat)) ∧ Below w.heap.size w w'
  sectors : ∀ {w g F k b}, Pp repB w g F k b → ∀ m : Int, Calls Tryz.prog 10 #[MbP.at' g, .int .i64 m] w fun e w' => e = .returned (.int .i64 (if mem b.ms m then (BuM.at' b.ms m).n else 0)) ∧ Below w.heap.size w w'
  log : ∀ {w g F k b}, Pp repB w g F k b → k ≤ 8000 → Calls Tryz.prog 9 #[MbP.at' g] w fun e w' => ∃ v, e = .returned v ∧ OwnX 57 68 enL w' w.heap.size v b.log ∧ Below w.heap.size w w'
section
variable {repB : RepB} {w w' : World} {g k : Nat} {F : Fq} {b : Bs}
theorem Pp.mlt (H : Pp repB w g F k b) : ∀ q, mutP F q → q < w.heap.size := fun q e => by
  rcases e with e | e | ⟨i, hi, e⟩
  · exact H.olt q (.inl e)
  · exact cb_lt H.cel q e
  · exact MbP.memB_ok.lt (H.mem i _ _ (List.getElem?_eq_getElem hi) (List.getElem?_eq_getElem (by rw [← H.len]; exact hi))) q (.inl e)
theorem Pp.ilt (H : Pp repB w g F k b) : ∀ q, rdP F q → q < w.heap.size := fun q e => by
  rcases e with e | ⟨i, hi, e⟩
  · exact H.olt q (.inr e)
  · exact MbP.memB_ok.lt (H.mem i _ _ (List.getElem?_eq_getElem hi) (List.getElem?_eq_getElem (by rw [← H.len]; exact hi))) q (.inr e)
theorem Pp.turn (hC : BusC repB) {T : Nat → Prop} (H : Pp repB w g F k b) (ht : Turn T w w') (hT : ∀ q, mutP F q ∨ rdP F q → ¬ T q) : Pp repB w' g F k b where
  skel := hC.frame H.skel ht fun q e => hT q (e.imp .inl .inl)
  len := H.len
  mem i gi st h1 h2 := MbP.memB_ok.frame (H.mem i gi st h1 h2) ht fun q e => hT q (e.imp (fun x => .inr (.inr ⟨i, (List.getElem?_eq_some_iff.1 h1).1, x⟩)) fun x => .inr ⟨i, (List.getElem?_eq_some_iff.1 h1).1, x⟩)
  ok := H.ok
  cel := cb_turn H.cel ht fun q e => hT q (.inl (.inr (.inl e)))
  olt q e := Nat.lt_of_lt_of_le (H.olt q e) ht.size
  sep := H.sep
  nd := H.nd
  mc := H.mc
  mo := H.mo
  sz := H.sz
  cmx := H.cmx
theorem Pp.below (hC : BusC repB) (H : Pp repB w g F k b) (hb : Below w.heap.size w w') : Pp repB w' g F k b :=
  H.turn hC (Turn.of_new (S := fun _ => False) hb) fun _ _ e => e
end
/-- A bus of the program's beside one of the document's; all that both may turn lies from block B on. -/
structure Both (repB : RepB) (B : Nat) (w : World) (g : Nat) (F : Fq) (k : Nat) (r : Nat) (E : Fp) (b : Bs) : Prop where
  prog : Pp repB w g F k b
  ref : Rb w r E k b
  d1 : ∀ q, mutP F q → ¬ (mutR r E q ∨ rdR E q)
  d2 : ∀ q, mutR r E q → ¬ rdP F q
  low : ∀ q, mutP F q ∨ mutR r E q → B ≤ q
  base : B ≤ w.heap.size
/-- What both leave: what may be turned was so, or is new. -/
structure Went (w : World) (F : Fq) (r : Nat) (E : Fp) (w' : World) (F' : Fq) (E' : Fp) : Prop where
  gs : F'.gs = F.gs
  gc : F'.gc = F.gc
  es : E'.gs = E.gs
  ec : E'.gc = E.gc
  t : Turn (fun q => mutP F q ∨ mutR r E q) w w'
  m : ∀ q, mutP F' q ∨ mutR r E' q → (mutP F q ∨ mutR r E q) ∨ w.heap.size ≤ q
section
variable {repB : RepB} {B : Nat} {w w' w2 : World} {g k k' r : Nat} {F F' F2 : Fq} {E E' E2 : Fp} {b b' : Bs}
theorem Both.below (hC : BusC repB) (H : Both repB B w g F k r E b) (hb : Below w.heap.size w w') : Both repB B w' g F k r E b :=
  ⟨H.prog.below hC hb, H.ref.below hb, H.d1, H.d2, H.low, Nat.le_trans H.base hb.size⟩
theorem Pp.mono (H : Pp repB w g F k b) (hk : k ≤ k') : Pp repB w g F k' b where
  skel := H.skel
  len := H.len
  mem i gi st h1 h2 := MbP.memB_ok.mono (H.mem i gi st h1 h2) hk
  ok := H.ok
  cel := H.cel
  olt := H.olt
  sep := H.sep
  nd := H.nd
  mc := H.mc
  mo := H.mo
  sz := ⟨H.sz.1, H.sz.2.1, Nat.le_trans H.sz.2.2.1 (Nat.succ_le_succ hk), Nat.le_trans H.sz.2.2.2.1 hk, H.sz.2.2.2.2⟩
  cmx := H.cmx
theorem Both.mono (H : Both repB B w g F k r E b) (hk : k ≤ k') : Both repB B w g F k' r E b := ⟨H.prog.mono hk, H.ref.mono hk, H.d1, H.d2, H.low, H.base⟩
theorem Went.refl (w : World) (F : Fq) (r : Nat) (E : Fp) (hb : Below w.heap.size w w') : Went w F r E w' F E := ⟨rfl, rfl, rfl, rfl, Turn.of_new hb, fun _ e => .inl e⟩
theorem Went.trans (h : Went w F r E w' F' E') (h2 : Went w' F' r E' w2 F2 E2) : Went w F r E w2 F2 E2 :=
  ⟨h2.gs.trans h.gs, h2.gc.trans h.gc, h2.es.trans h.es, h2.ec.trans h.ec, h.t.trans h2.t h.m, fun q e => (h2.m q e).elim (h.m q) fun x => .inr (Nat.le_trans h.t.size x)⟩
theorem Both.turned (H : Both repB B w g F k r E b) (h : Went w F r E w' F' E') : Below B w w' := h.t.below H.base H.low
theorem Both.byP {b2 : Bs} {k2 : Nat} (H : Both repB B w g F k r E b) (ho : outQ repB w g F k2 b2 w') : ∃ F', Pp repB w' g F' k2 b2 ∧ Rb w' r E k b ∧ (∀ q, mutP F' q → ¬ (mutR r E q ∨ rdR E q)) ∧ (∀ q, mutR r E q → ¬ rdP F' q) ∧ Went w F r E w' F' E := by
  obtain ⟨F', h1, h2, h3, h4, h5, h6⟩ := ho
  refine ⟨F', h1, H.ref.turn h6 fun q e x => H.d1 q x e, fun q e x => ?_, fun q e x => ?_, h2, h3, rfl, rfl, h6.mono fun q e => .inl e, fun q e => ?_⟩
  · rcases h4 q e with y | y
    · exact H.d1 q y x
    · have := x.elim (H.ref.mlt q) (H.ref.ilt q); omega
  · rcases h5 q x with y | y | y
    · exact H.d1 q y (.inl e)
    · exact H.d2 q e y
    · have := H.ref.mlt q e; omega
  · rcases e with e | e
    · exact (h4 q e).imp .inl id
    · exact .inl (.inr e)
/-- An act of both, one behind the other. -/
theorem Both.byR (hC : BusC repB) {b2 : Bs} {k2 : Nat} (H : Both repB B w g F k r E b) (hF : Went w F r E w' F' E) (hp : Pp repB w' g F' k2 b2) (e1 : ∀ q, mutP F' q → ¬ (mutR r E q ∨ rdR E q)) (e2 : ∀ q, mutR r E q → ¬ rdP F' q) (ho : outB w' r E k2 b2 w2) :
    ∃ E', Both repB B w2 g F' k2 r E' b2 ∧ Went w F r E w2 F' E' := by
  obtain ⟨E', h1, h2, h3, h4, h5, h6⟩ := ho
  have hW : Went w' F' r E w2 F' E' := ⟨rfl, rfl, h2, h3, h6.mono fun q e => .inr e, fun q e => e.elim (fun x => .inl (.inl x)) fun x => (h4 q x).imp .inr id⟩
  refine ⟨E', ⟨hp.turn hC h6 fun q e x => e.elim (fun y => e1 q y (.inl x)) (e2 q x), h1, fun q e x => ?_, fun q e x => ?_, fun q e => ?_, ?_⟩, hF.trans hW⟩
  · rcases x with x | x
    · rcases h4 q x with y | y
      · exact e1 q e (.inl y)
      · have := hp.mlt q e; omega
    · rcases h5 q x with y | y
      · exact e1 q e (.inr y)
      · have := hp.mlt q e; omega
  · rcases h4 q e with y | y
    · exact e2 q y x
    · have := hp.ilt q x; omega
  · rcases (hF.trans hW).m q e with x | x
    · exact H.low q x
    · exact Nat.le_trans H.base x
  · exact Nat.le_trans H.base (hF.trans hW).t.size
end
/-- The document's power is there again. -/
theorem Rb.powered {w : World} {g k : Nat} {F : Fp} {b : Bs} (H : Rb w g F k b) : Rb (w.setCell ⟨g, 3, none⟩ (.bool false)) g F k (BuM.power b) where
  blk := bu_setOff H.blk false
  arr := H.arr.turn (Turn.setCell (S := fun q => q = g) w ⟨g, 3, none⟩ (.bool false) rfl) fun q hq _ e => H.sep q (.inl hq) (.inl e)
  mem := H.mem.turn (Turn.setCell (S := fun q => q = g) w ⟨g, 3, none⟩ (.bool false) rfl) (fun q e x => H.g_gs (x ▸ e)) fun j q hj e x => H.sep q (.inr ⟨j, hj, e⟩) (.inl x)
  cel := H.cel.turn (Turn.setCell (S := fun q => q = g) w ⟨g, 3, none⟩ (.bool false) rfl) (fun e => H.g_gc e.symm) fun q hq e => H.g_vc (e ▸ hq)
  sll := H.sll
  stp := H.stp.turn (Turn.setCell (S := fun q => q = g) w ⟨g, 3, none⟩ (.bool false) rfl) fun q hq _ e => H.sep q (.inl hq) (.inl e)
  pk s x hx := ⟨(H.pk s x hx).1.turn (Turn.setCell (S := fun q => q = g) w ⟨g, 3, none⟩ (.bool false) rfl) fun q o h1 h2 e => H.sep q (.inl ((H.pk s x hx).2.2 q o h1 h2)) (.inl e), (H.pk s x hx).2⟩
  log := H.log.turn (Turn.setCell (S := fun q => q = g) w ⟨g, 3, none⟩ (.bool false) rfl) fun q hq e => H.g_vl (e ▸ hq)
  rlt q hq := by rw [show (w.setCell ⟨g, 3, none⟩ (.bool false)).heap.size = w.heap.size by simp]; exact H.rlt q hq
  sep := H.sep
  sz := H.sz
  cmx := H.cmx
end BuP
end Go.Proofs.YthogklchmhjjkaaGreat
set_option maxRecDepth 100000
namespace Go.Proofs.YthogklchmhjjkaaGreat
open Go.ChangeShapes Go.WideShapes Go.ChangeAt Go.RowKit
attribute [local go_sem] Gives GivesE
namespace BuP
open BuM MbM MbP
/-- An act over a bus. -/
structure ActB where
  d : Int
  m : Int
  i : Int
  s : Nat → Nat
  t : Nat → Nat
def abL (a : ActB) : List Value := .int .i64 a.d :: .int .i64 a.m :: .int .i64 a.i :: (ar64 a.s ++ (ar 32 a.t).toList)
theorem abL_len (a : ActB) : (abL a).length = 99 := by unfold abL; simp [ar64_len, size_ar]
section
variable {w : World} {b o : Nat} {a : ActB}
theorem ab_d (h : w.rangeAt b o (abL a)) : w.cell? ⟨b, o, none⟩ = some (.int .i64 a.d) := h 0 _ rfl
theorem ab_m (h : w.rangeAt b o (abL a)) : w.cell? ⟨b, o + 1, none⟩ = some (.int .i64 a.m) := h 1 _ rfl
theorem ab_i (h : w.rangeAt b o (abL a)) : w.cell? ⟨b, o + 2, none⟩ = some (.int .i64 a.i) := h 2 _ rfl
theorem ab_s (h : w.rangeAt b o (abL a)) : w.rangeAt b (o + 3) (ar 64 a.s).toList := fun j v hj => by
  have hl := (List.getElem?_eq_some_iff.1 hj).1
  have := h (j + 3) v (by unfold abL; rw [List.getElem?_cons_succ, List.getElem?_cons_succ, List.getElem?_cons_succ, List.getElem?_append_left (show j < (ar64 _).length from hl)]; exact hj)
  rwa [show o + (j + 3) = o + 3 + j by omega] at this
theorem ab_t (h : w.rangeAt b o (abL a)) : w.rangeAt b (o + 67) (ar 32 a.t).toList := fun j v hj => by
  have := h (j + 67) v (by unfold abL; rw [show j + 67 = (j + 64) + 3 by omega, List.getElem?_cons_succ, List.getElem?_cons_succ, List.getElem?_cons_succ, List.getElem?_append_right (by rw [ar64_len]; omega), ar64_len, Nat.add_sub_cancel]; exact hj)
  rwa [show o + (j + 67) = o + 67 + j by omega] at this
end
theorem and7 (D : Int) : ∃ r : Nat, r ≤ 7 ∧ bits .and .i64 D 7 = (r : Int) := by
  have h : (BitVec.ofInt 64 D &&& BitVec.ofInt 64 7).toNat ≤ 7 := by
    rw [BitVec.toNat_and]
    exact Nat.le_trans Nat.and_le_right (by decide)
  refine ⟨_, h, ?_⟩
  show IntKind.i64.wrap ((BitVec.ofInt 64 D &&& BitVec.ofInt 64 7).toNat : Int) = _
  generalize (BitVec.ofInt 64 D &&& BitVec.ofInt 64 7).toNat = n at *
  exact IntWalk.i64_in _ (by omega)
def kind7 (D : Int) : Nat := (bits .and .i64 D 7).toNat
theorem kind7_le (D : Int) : kind7 D ≤ 7 := by obtain ⟨r, h1, h2⟩ := and7 D; unfold kind7; rw [h2]; exact h1
theorem kind7_bits (D : Int) : bits .and .i64 D 7 = (kind7 D : Int) := by obtain ⟨r, h1, h2⟩ := and7 D; unfold kind7; rw [h2]; rfl
/-- What an act leaves. -/
def doK (b : Bs) (a : ActB) : Nat → Bs
  | 1 | 2 => BuM.wrT b a.m a.i a.s
  | 3 => BuM.flT b a.m
  | 4 => BuM.ceT b
  | 5 => BuM.adT b a.t
  | 6 => BuM.power b
  | _ => BuM.rdT b a.m a.i
def doB (b : Bs) (a : ActB) : Bs := doK b a (kind7 a.d)
section
variable {ops : Array Oper} {Q : Exit → Act → World → Prop} {a : Act} {w : World} {rest : List Oper} {dst : Option Tmp} {ty r : TypeId} {pos : String} {after : Array Edge} {x y : Operand} {p q : ClP.Held} {f f2 : Nat → Nat}
theorem weqCe (hx : a.eval x = .agg (ClP.ceL p).toArray) (hy : a.eval y = .agg (ClP.ceL p).toArray) (h : wpList Tryz.prog ops Q rest (a.put dst (.bool true)) w) : wpList Tryz.prog ops Q (⟨dst, .binOp .eql 27 x y r, ty, pos, after, none⟩ :: rest) a w := by
  have hr := ClP.run_eq_ce p p w
  rw [ClP.ceq_iff.2 ⟨rfl, fun _ _ => rfl⟩] at hr
  have h1 : (eqGuard .eql 27 x y (.agg (ClP.ceL p).toArray) (.agg (ClP.ceL p).toArray)).run Tryz.prog w = .ok () w := by
    simp [eqGuard, ClP.gCe, go_sem]
  refine wpList_plain rfl fun K hK => ?_
  unfold Oper.wp
  simp only [execOp, hx, hy, Sem.run_bind, h1, hr, Result.andThen_ok, Sem.run_pure]
  exact hK _ _ h
theorem uSe' : Tryz.prog.underlying 43 = some (.array 64 5) := Tryz.underlying43
theorem gSe' : Tryz.prog.eqGuardType Tryz.prog.depth 43 = false := by kernel_rfl
end
/-- What a pair is behind an act. -/
def outD (repB : RepB) (B : Nat) (w : World) (g : Nat) (F : Fq) (r : Nat) (E : Fp) (k : Nat) (b : Bs) (w' : World) : Prop := ∃ F' E', Both repB B w' g F' k r E' b ∧ Went w F r E w' F' E'
theorem outD.below {repB : RepB} {B : Nat} {w w' w2 : World} {g : Nat} {F : Fq} {r : Nat} {E : Fp} {k : Nat} {b : Bs} (hC : BusC repB) (h : outD repB B w g F r E k b w') (hb : Below w'.heap.size w' w2) : outD repB B w g F r E k b w2 := by
  obtain ⟨F', E', h1, h2⟩ := h
  exact ⟨F', E', h1.below hC hb, h2.trans (Went.refl _ _ _ _ hb)⟩
set_option maxHeartbeats 4000000 in
set_option maxRecDepth 100000 in
theorem do_any {repB : RepB} (hC : BusC repB) {B : Nat} {w : World} {g k r : Nat} {F : Fq} {E : Fp} {b : Bs} (H : Both repB B w g F k r E b) (hk : k + b.steps.length + 2 ≤ 8000) (a : ActB) (ha : ∀ j, a.s j < 256) :
    Calls Tryz.prog 7 #[MbP.at' g, MbP.at' r, .agg (abL a).toArray] w fun e w' => e = .returned (.bool true) ∧ outD repB B w g F r E (k + b.steps.length + 2) (doB b a) w' := by
  have HH := hid H
  have HA := hid ha
  clear H ha
  unfold MbP.at' doB
  obtain ⟨kd, hkd⟩ : ∃ z, z = kind7 a.d := ⟨_, rfl⟩
  have kb := kind7_bits a.d
  have kl := kind7_le a.d
  rw [← hkd] at kb kl ⊢
  clear hkd
  go_enter Tryz.func7, Tryz.ntmps7
  go_upto_region 1 with fail
  generalize hw1 : World.alloc w _ = w1
  have b1 : Below w.heap.size w w1 := by rw [← hw1]; exact (Below.refl _ _).alloc (Nat.le_refl _) _
  have a1 : Blk w1 w.heap.size 45 (abL a).toArray := by rw [← hw1]; exact Blk.new _ _ _
  have HO := hid (Went.refl w F r E b1)
  have H1 := hid (HH.out.below hC b1)
  obtain ⟨gA, hgA⟩ : ∃ n, n = w.heap.size := ⟨_, rfl⟩
  have HN := hid (show ∀ q, mutP F q ∨ mutR r E q → q ≠ gA from fun q e x => by
    have := e.elim (HH.out.prog.mlt q) (HH.out.ref.mlt q); omega)
  rw [← hgA] at a1 ⊢
  have A1 := hid a1
  clear hw1 b1 a1 hgA HH
  have p0 : w1.cell? ⟨gA, 0, none⟩ = some (.int .i64 a.d) := ab_d (o := 0) A1.out.whole
  have p1 : w1.cell? ⟨gA, 1, none⟩ = some (.int .i64 a.m) := ab_m (o := 0) A1.out.whole
  have p2 : w1.cell? ⟨gA, 2, none⟩ = some (.int .i64 a.i) := ab_i (o := 0) A1.out.whole
  have q3 := hid (show w1.rangeAt gA 3 (ar 64 a.s).toList from ab_s (o := 0) (a := a) A1.out.whole)
  have q67 := hid (show w1.rangeAt gA 67 (ar 32 a.t).toList from ab_t (o := 0) (a := a) A1.out.whole)
  obtain rfl | rfl | rfl | rfl | rfl | rfl | rfl | rfl : kd = 0 ∨ kd = 1 ∨ kd = 2 ∨ kd = 3 ∨ kd = 4 ∨ kd = 5 ∨ kd = 6 ∨ kd = 7 := by omega
  · have kb' : bits .and .i64 a.d 7 = 0 := kb
    clear kb kl
    go_wp2_with fail
    refine (hC.read H1.out.prog hk a.m a.i).mono ?_
    rintro e w2 ⟨rfl, ho⟩
    obtain ⟨ev, hev⟩ : ∃ z, z = (BuM.rdB (BuM.ahead b) a.m a.i).e := ⟨_, rfl⟩
    rw [← hev]
    have HVev := hid hev
    clear hev
    obtain ⟨sv, hsv⟩ : ∃ z, z = (BuM.rdB (BuM.ahead b) a.m a.i).s := ⟨_, rfl⟩
    rw [← hsv]
    have HVsv := hid hsv
    clear hsv
    obtain ⟨F2, hp, hr, e1, e2, hw⟩ := H1.out.byP ho
    have A2 := hid (A1.out.turn hw.t fun e => HN.out gA e rfl)
    have HP := hid hp
    have HR := hid hr
    have HE1 := hid e1
    have HE2 := hid e2
    have HW := hid hw
    clear ho hp hr e1 e2 hw p0 p1 p2 q3 q67
    have p1 : w2.cell? ⟨gA, 1, none⟩ = some (.int .i64 a.m) := ab_m (o := 0) A2.out.whole
    have p2 : w2.cell? ⟨gA, 2, none⟩ = some (.int .i64 a.i) := ab_i (o := 0) A2.out.whole
    have q3 := hid (show w2.rangeAt gA 3 (ar 64 a.s).toList from ab_s (o := 0) (a := a) A2.out.whole)
    have q67 := hid (show w2.rangeAt gA 67 (ar 32 a.t).toList from ab_t (o := 0) (a := a) A2.out.whole)
    go_upto_region 22 with (first | (with_reducible apply alA tSe) | ((with_reducible apply stA tSe); rfl; rfl; exact Blk.new _ _ _))
    generalize hw4 : World.setRow _ _ _ = w4
    have b4 : Below w2.heap.size w2 w4 := by rw [← hw4]; exact below_setRow ((Below.refl _ _).alloc (Nat.le_refl _) _) (Nat.le_refl _) _
    have s4 : Blk w4 w2.heap.size 43 (ar 64 sv) := by rw [← hw4]; exact (Blk.new w2 _ _).setRow_same _
    obtain ⟨gX, hgX⟩ : ∃ n, n = w2.heap.size := ⟨_, rfl⟩
    rw [← hgX] at s4 ⊢
    have HX := hid (show ¬ mutR r E gX from fun e => by have := HR.out.mlt gX e; omega)
    have S4 := hid s4
    have R4 := hid (HR.out.below b4)
    have HP4 := hid (HP.out.below hC b4)
    have HW4 := hid (HW.out.trans (Went.refl _ _ _ _ b4))
    have p1 : w4.cell? ⟨gA, 1, none⟩ = some (.int .i64 a.m) := ab_m (o := 0) (A2.out.below b4 A2.out.lt).whole
    have p2 : w4.cell? ⟨gA, 2, none⟩ = some (.int .i64 a.i) := ab_i (o := 0) (A2.out.below b4 A2.out.lt).whole
    clear hw4 b4 s4 hgX HP HR HW q3 q67
    go_wp2_with fail
    refine (bread_any R4.out hk a.m a.i).mono ?_
    rintro e w3 ⟨rfl, ho⟩
    rw [← HVev.out, ← HVsv.out]
    have S5 := hid (by obtain ⟨_, _, _, _, _, _, tt⟩ := ho; exact S4.out.turn tt HX.out)
    obtain ⟨E2, hB, hW⟩ := H1.out.byR hC HW4.out HP4.out HE1.out HE2.out ho
    have RES := hid (show outD repB B w g F r E (k + b.steps.length + 2) _ w3 from ⟨F2, E2, hB, HO.out.trans hW⟩)
    clear ho hB hW S4 R4 HP4 HW4 A1 A2 HN HO H1 HE1 HE2 p1 p2
    go_upto_region 23 with (first | (with_reducible apply alA tSe) | ((with_reducible apply stA tSe); rfl; rfl; exact Blk.new _ _ _))
    generalize hw6 : World.setRow _ _ _ = w6
    have b6 : Below w3.heap.size w3 w6 := by rw [← hw6]; exact below_setRow ((Below.refl _ _).alloc (Nat.le_refl _) _) (Nat.le_refl _) _
    have T6 := hid (show Blk w6 w3.heap.size 43 (ar 64 sv) by rw [← hw6]; exact (Blk.new w3 _ _).setRow_same _)
    have S6 := hid (S5.out.below b6 S5.out.lt)
    replace RES := hid (RES.out.below hC b6)
    clear hw6 b6 S5
    go_wp2_with (first | ((with_reducible apply ldA tSe); rfl; exact S6.out) | ((with_reducible apply ldA tSe); rfl; exact T6.out) | ((with_reducible apply MbO.weqU true uSe' gSe'); rfl; rfl; exact eqA_yes fun _ _ => rfl))
    refine bodyPost_ret (results_tmp (t := 6) rfl _ _ _) rfl ?_
    exact ⟨rfl, RES.out⟩
  · have kb' : bits .and .i64 a.d 7 = 1 := kb
    clear kb kl
    go_wp2_with ((with_reducible apply ldAm tSe); rfl; exact q3.out)
    refine (hC.write H1.out.prog hk a.m a.i a.s HA.out).mono ?_
    rintro e w2 ⟨rfl, ho⟩
    obtain ⟨ev, hev⟩ : ∃ z, z = (BuM.wrB (BuM.ahead b) a.m a.i a.s).e := ⟨_, rfl⟩
    rw [← hev]
    have HVev := hid hev
    clear hev
    obtain ⟨F2, hp, hr, e1, e2, hw⟩ := H1.out.byP ho
    have A2 := hid (A1.out.turn hw.t fun e => HN.out gA e rfl)
    have HP := hid hp
    have HR := hid hr
    have HE1 := hid e1
    have HE2 := hid e2
    have HW := hid hw
    clear ho hp hr e1 e2 hw p0 p1 p2 q3 q67
    have p1 : w2.cell? ⟨gA, 1, none⟩ = some (.int .i64 a.m) := ab_m (o := 0) A2.out.whole
    have p2 : w2.cell? ⟨gA, 2, none⟩ = some (.int .i64 a.i) := ab_i (o := 0) A2.out.whole
    have q3 := hid (show w2.rangeAt gA 3 (ar 64 a.s).toList from ab_s (o := 0) (a := a) A2.out.whole)
    have q67 := hid (show w2.rangeAt gA 67 (ar 32 a.t).toList from ab_t (o := 0) (a := a) A2.out.whole)
    go_wp2_with ((with_reducible apply ldAm tSe); rfl; exact q3.out)
    refine (bwrite_any HR.out hk a.m a.i a.s).mono ?_
    rintro e w3 ⟨rfl, ho⟩
    rw [← HVev.out]
    obtain ⟨E2, hB, hW⟩ := H1.out.byR hC HW.out HP.out HE1.out HE2.out ho
    have RES := hid (show outD repB B w g F r E (k + b.steps.length + 2) _ w3 from ⟨F2, E2, hB, HO.out.trans hW⟩)
    clear ho hB hW
    go_wp2_with fail
    refine bodyPost_ret (results_tmp (t := 6) rfl _ _ _) rfl ?_
    exact ⟨rfl, RES.out⟩
  · have kb' : bits .and .i64 a.d 7 = 2 := kb
    clear kb kl
    go_wp2_with ((with_reducible apply ldAm tSe); rfl; exact q3.out)
    refine (hC.write H1.out.prog hk a.m a.i a.s HA.out).mono ?_
    rintro e w2 ⟨rfl, ho⟩
    obtain ⟨ev, hev⟩ : ∃ z, z = (BuM.wrB (BuM.ahead b) a.m a.i a.s).e := ⟨_, rfl⟩
    rw [← hev]
    have HVev := hid hev
    clear hev
    obtain ⟨F2, hp, hr, e1, e2, hw⟩ := H1.out.byP ho
    have A2 := hid (A1.out.turn hw.t fun e => HN.out gA e rfl)
    have HP := hid hp
    have HR := hid hr
    have HE1 := hid e1
    have HE2 := hid e2
    have HW := hid hw
    clear ho hp hr e1 e2 hw p0 p1 p2 q3 q67
    have p1 : w2.cell? ⟨gA, 1, none⟩ = some (.int .i64 a.m) := ab_m (o := 0) A2.out.whole
    have p2 : w2.cell? ⟨gA, 2, none⟩ = some (.int .i64 a.i) := ab_i (o := 0) A2.out.whole
    have q3 := hid (show w2.rangeAt gA 3 (ar 64 a.s).toList from ab_s (o := 0) (a := a) A2.out.whole)
    have q67 := hid (show w2.rangeAt gA 67 (ar 32 a.t).toList from ab_t (o := 0) (a := a) A2.out.whole)
    go_wp2_with ((with_reducible apply ldAm tSe); rfl; exact q3.out)
    refine (bwrite_any HR.out hk a.m a.i a.s).mono ?_
    rintro e w3 ⟨rfl, ho⟩
    rw [← HVev.out]
    obtain ⟨E2, hB, hW⟩ := H1.out.byR hC HW.out HP.out HE1.out HE2.out ho
    have RES := hid (show outD repB B w g F r E (k + b.steps.length + 2) _ w3 from ⟨F2, E2, hB, HO.out.trans hW⟩)
    clear ho hB hW
    go_wp2_with fail
    refine bodyPost_ret (results_tmp (t := 6) rfl _ _ _) rfl ?_
    exact ⟨rfl, RES.out⟩
  · have kb' : bits .and .i64 a.d 7 = 3 := kb
    clear kb kl
    go_wp2_with fail
    refine (hC.flush H1.out.prog hk a.m).mono ?_
    rintro e w2 ⟨rfl, ho⟩
    obtain ⟨ev, hev⟩ : ∃ z, z = (BuM.flB (BuM.ahead b) a.m).e := ⟨_, rfl⟩
    rw [← hev]
    have HVev := hid hev
    clear hev
    obtain ⟨F2, hp, hr, e1, e2, hw⟩ := H1.out.byP ho
    have A2 := hid (A1.out.turn hw.t fun e => HN.out gA e rfl)
    have HP := hid hp
    have HR := hid hr
    have HE1 := hid e1
    have HE2 := hid e2
    have HW := hid hw
    clear ho hp hr e1 e2 hw p0 p1 p2 q3 q67
    have p1 : w2.cell? ⟨gA, 1, none⟩ = some (.int .i64 a.m) := ab_m (o := 0) A2.out.whole
    have p2 : w2.cell? ⟨gA, 2, none⟩ = some (.int .i64 a.i) := ab_i (o := 0) A2.out.whole
    have q3 := hid (show w2.rangeAt gA 3 (ar 64 a.s).toList from ab_s (o := 0) (a := a) A2.out.whole)
    have q67 := hid (show w2.rangeAt gA 67 (ar 32 a.t).toList from ab_t (o := 0) (a := a) A2.out.whole)
    go_wp2_with fail
    refine (bflush_any HR.out hk a.m).mono ?_
    rintro e w3 ⟨rfl, ho⟩
    rw [← HVev.out]
    obtain ⟨E2, hB, hW⟩ := H1.out.byR hC HW.out HP.out HE1.out HE2.out ho
    have RES := hid (show outD repB B w g F r E (k + b.steps.length + 2) _ w3 from ⟨F2, E2, hB, HO.out.trans hW⟩)
    clear ho hB hW
    go_wp2_with fail
    refine bodyPost_ret (results_tmp (t := 6) rfl _ _ _) rfl ?_
    exact ⟨rfl, RES.out⟩
  · have kb' : bits .and .i64 a.d 7 = 4 := kb
    clear kb kl
    go_wp2_with fail
    refine (hC.cell H1.out.prog hk).mono ?_
    rintro e w2 ⟨rfl, ho⟩
    obtain ⟨ev, hev⟩ : ∃ z, z = (BuM.ceB (BuM.ahead b)).e := ⟨_, rfl⟩
    rw [← hev]
    have HVev := hid hev
    clear hev
    obtain ⟨hv, hhv⟩ : ∃ z, z = BuM.ceV (BuM.ahead b) := ⟨_, rfl⟩
    rw [← hhv]
    have HVhv := hid hhv
    clear hhv
    obtain ⟨F2, hp, hr, e1, e2, hw⟩ := H1.out.byP ho
    have A2 := hid (A1.out.turn hw.t fun e => HN.out gA e rfl)
    have HP := hid hp
    have HR := hid hr
    have HE1 := hid e1
    have HE2 := hid e2
    have HW := hid hw
    clear ho hp hr e1 e2 hw p0 p1 p2 q3 q67
    have p1 : w2.cell? ⟨gA, 1, none⟩ = some (.int .i64 a.m) := ab_m (o := 0) A2.out.whole
    have p2 : w2.cell? ⟨gA, 2, none⟩ = some (.int .i64 a.i) := ab_i (o := 0) A2.out.whole
    have q3 := hid (show w2.rangeAt gA 3 (ar 64 a.s).toList from ab_s (o := 0) (a := a) A2.out.whole)
    have q67 := hid (show w2.rangeAt gA 67 (ar 32 a.t).toList from ab_t (o := 0) (a := a) A2.out.whole)
    go_upto_region 11 with (first | (with_reducible apply alZ' ClP.zCe) | ((with_reducible apply stR (ClP.tCe hv)); rfl; rfl; exact Blk.new _ _ _; exact ClP.ce_size _ _; exact ClP.ce_one _))
    generalize hw4 : World.setRow _ _ _ = w4
    have b4 : Below w2.heap.size w2 w4 := by rw [← hw4]; exact below_setRow ((Below.refl _ _).alloc (Nat.le_refl _) _) (Nat.le_refl _) _
    have s4 : Blk w4 w2.heap.size 27 (ClP.ceL hv).toArray := by rw [← hw4]; exact (Blk.new w2 _ _).setRow_same _
    obtain ⟨gX, hgX⟩ : ∃ n, n = w2.heap.size := ⟨_, rfl⟩
    rw [← hgX] at s4 ⊢
    have HX := hid (show ¬ mutR r E gX from fun e => by have := HR.out.mlt gX e; omega)
    have S4 := hid s4
    have R4 := hid (HR.out.below b4)
    have HP4 := hid (HP.out.below hC b4)
    have HW4 := hid (HW.out.trans (Went.refl _ _ _ _ b4))
    clear hw4 b4 s4 hgX HP HR HW p1 p2 q3 q67
    go_wp2_with fail
    refine (bcell_any R4.out hk).mono ?_
    rintro e w3 ⟨rfl, ho⟩
    rw [← HVev.out, ← HVhv.out]
    have S5 := hid (by obtain ⟨_, _, _, _, _, _, tt⟩ := ho; exact S4.out.turn tt HX.out)
    obtain ⟨E2, hB, hW⟩ := H1.out.byR hC HW4.out HP4.out HE1.out HE2.out ho
    have RES := hid (show outD repB B w g F r E (k + b.steps.length + 2) _ w3 from ⟨F2, E2, hB, HO.out.trans hW⟩)
    clear ho hB hW S4 R4 HP4 HW4 A1 A2 HN HO H1 HE1 HE2
    go_upto_region 12 with (first | (with_reducible apply alZ' ClP.zCe) | ((with_reducible apply stR (ClP.tCe hv)); rfl; rfl; exact Blk.new _ _ _; exact ClP.ce_size _ _; exact ClP.ce_one _))
    generalize hw6 : World.setRow _ _ _ = w6
    have b6 : Below w3.heap.size w3 w6 := by rw [← hw6]; exact below_setRow ((Below.refl _ _).alloc (Nat.le_refl _) _) (Nat.le_refl _) _
    have T6 := hid (show Blk w6 w3.heap.size 27 (ClP.ceL hv).toArray by rw [← hw6]; exact (Blk.new w3 _ _).setRow_same _)
    have S6 := hid (S5.out.below b6 S5.out.lt)
    replace RES := hid (RES.out.below hC b6)
    clear hw6 b6 S5
    go_wp2_with (first | ((with_reducible apply ldR (cs := (ClP.ceL hv).toArray) (ClP.tCe hv)); rfl; exact S6.out.whole) | ((with_reducible apply ldR (cs := (ClP.ceL hv).toArray) (ClP.tCe hv)); rfl; exact T6.out.whole) | ((with_reducible apply weqCe (p := hv)); rfl; rfl))
    refine bodyPost_ret (results_tmp (t := 6) rfl _ _ _) rfl ?_
    exact ⟨rfl, RES.out⟩
  · have kb' : bits .and .i64 a.d 7 = 5 := kb
    clear kb kl
    go_wp2_with ((with_reducible apply ldAm ClP.tTg); rfl; exact q67.out)
    refine (hC.adv H1.out.prog hk a.t).mono ?_
    rintro e w2 ⟨rfl, ho⟩
    obtain ⟨nv, hnv⟩ : ∃ z, z = BuM.adN (BuM.ahead b) := ⟨_, rfl⟩
    rw [← hnv]
    have HVnv := hid hnv
    clear hnv
    obtain ⟨ev, hev⟩ : ∃ z, z = (BuM.adB (BuM.ahead b) a.t).e := ⟨_, rfl⟩
    rw [← hev]
    have HVev := hid hev
    clear hev
    obtain ⟨F2, hp, hr, e1, e2, hw⟩ := H1.out.byP ho
    have A2 := hid (A1.out.turn hw.t fun e => HN.out gA e rfl)
    have HP := hid hp
    have HR := hid hr
    have HE1 := hid e1
    have HE2 := hid e2
    have HW := hid hw
    clear ho hp hr e1 e2 hw p0 p1 p2 q3 q67
    have p1 : w2.cell? ⟨gA, 1, none⟩ = some (.int .i64 a.m) := ab_m (o := 0) A2.out.whole
    have p2 : w2.cell? ⟨gA, 2, none⟩ = some (.int .i64 a.i) := ab_i (o := 0) A2.out.whole
    have q3 := hid (show w2.rangeAt gA 3 (ar 64 a.s).toList from ab_s (o := 0) (a := a) A2.out.whole)
    have q67 := hid (show w2.rangeAt gA 67 (ar 32 a.t).toList from ab_t (o := 0) (a := a) A2.out.whole)
    go_wp2_with ((with_reducible apply ldAm ClP.tTg); rfl; exact q67.out)
    refine (badv_any HR.out hk a.t).mono ?_
    rintro e w3 ⟨rfl, ho⟩
    rw [← HVnv.out, ← HVev.out]
    obtain ⟨E2, hB, hW⟩ := H1.out.byR hC HW.out HP.out HE1.out HE2.out ho
    have RES := hid (show outD repB B w g F r E (k + b.steps.length + 2) _ w3 from ⟨F2, E2, hB, HO.out.trans hW⟩)
    clear ho hB hW
    go_wp2_with fail
    refine bodyPost_ret (results_tmp (t := 6) rfl _ _ _) rfl ?_
    exact ⟨rfl, RES.out⟩
  · have kb' : bits .and .i64 a.d 7 = 6 := kb
    clear kb kl
    go_wp2_with fail
    refine (hC.power H1.out.prog).mono ?_
    rintro e w2 ⟨rfl, ho⟩
    obtain ⟨F2, hp, hr, e1, e2, hw⟩ := H1.out.byP ho
    have A2 := hid (A1.out.turn hw.t fun e => HN.out gA e rfl)
    have HP := hid hp
    have HR := hid hr
    have HE1 := hid e1
    have HE2 := hid e2
    have HW := hid hw
    clear ho hp hr e1 e2 hw p0 p1 p2 q3 q67
    have p1 : w2.cell? ⟨gA, 1, none⟩ = some (.int .i64 a.m) := ab_m (o := 0) A2.out.whole
    have p2 : w2.cell? ⟨gA, 2, none⟩ = some (.int .i64 a.i) := ab_i (o := 0) A2.out.whole
    have q3 := hid (show w2.rangeAt gA 3 (ar 64 a.s).toList from ab_s (o := 0) (a := a) A2.out.whole)
    have q67 := hid (show w2.rangeAt gA 67 (ar 32 a.t).toList from ab_t (o := 0) (a := a) A2.out.whole)
    have q3' := bu_off HR.out.blk
    have fz := HR.out.blk.frozen 3
    have tu := Turn.setCell (S := fun q => q = r) w2 ⟨r, 3, none⟩ (.bool false) rfl
    have ho : outB w2 r E k (BuM.power b) (w2.setCell ⟨r, 3, none⟩ (.bool false)) := by
      exact ⟨E, HR.out.powered, rfl, rfl, fun q e => .inl e, fun q e => .inl e, tu.mono fun q e => .inl e⟩
    obtain ⟨E2, hB, hW⟩ := H1.out.byR hC HW.out HP.out HE1.out HE2.out ho
    have RES := hid (show outD repB B w g F r E (k + b.steps.length + 2) _ _ from ⟨F2, E2, hB.mono (by omega), HO.out.trans hW⟩)
    clear ho hB hW tu p1 p2 q3 q67
    go_wp2_with fail
    refine bodyPost_ret (results_tmp (t := 6) rfl _ _ _) rfl ?_
    exact ⟨rfl, RES.out⟩
  · have kb' : bits .and .i64 a.d 7 = 7 := kb
    clear kb kl
    go_wp2_with fail
    refine (hC.read H1.out.prog hk a.m a.i).mono ?_
    rintro e w2 ⟨rfl, ho⟩
    obtain ⟨ev, hev⟩ : ∃ z, z = (BuM.rdB (BuM.ahead b) a.m a.i).e := ⟨_, rfl⟩
    rw [← hev]
    have HVev := hid hev
    clear hev
    obtain ⟨sv, hsv⟩ : ∃ z, z = (BuM.rdB (BuM.ahead b) a.m a.i).s := ⟨_, rfl⟩
    rw [← hsv]
    have HVsv := hid hsv
    clear hsv
    obtain ⟨F2, hp, hr, e1, e2, hw⟩ := H1.out.byP ho
    have A2 := hid (A1.out.turn hw.t fun e => HN.out gA e rfl)
    have HP := hid hp
    have HR := hid hr
    have HE1 := hid e1
    have HE2 := hid e2
    have HW := hid hw
    clear ho hp hr e1 e2 hw p0 p1 p2 q3 q67
    have p1 : w2.cell? ⟨gA, 1, none⟩ = some (.int .i64 a.m) := ab_m (o := 0) A2.out.whole
    have p2 : w2.cell? ⟨gA, 2, none⟩ = some (.int .i64 a.i) := ab_i (o := 0) A2.out.whole
    have q3 := hid (show w2.rangeAt gA 3 (ar 64 a.s).toList from ab_s (o := 0) (a := a) A2.out.whole)
    have q67 := hid (show w2.rangeAt gA 67 (ar 32 a.t).toList from ab_t (o := 0) (a := a) A2.out.whole)
    go_upto_region 22 with (first | (with_reducible apply alA tSe) | ((with_reducible apply stA tSe); rfl; rfl; exact Blk.new _ _ _))
    generalize hw4 : World.setRow _ _ _ = w4
    have b4 : Below w2.heap.size w2 w4 := by rw [← hw4]; exact below_setRow ((Below.refl _ _).alloc (Nat.le_refl _) _) (Nat.le_refl _) _
    have s4 : Blk w4 w2.heap.size 43 (ar 64 sv) := by rw [← hw4]; exact (Blk.new w2 _ _).setRow_same _
    obtain ⟨gX, hgX⟩ : ∃ n, n = w2.heap.size := ⟨_, rfl⟩
    rw [← hgX] at s4 ⊢
    have HX := hid (show ¬ mutR r E gX from fun e => by have := HR.out.mlt gX e; omega)
    have S4 := hid s4
    have R4 := hid (HR.out.below b4)
    have HP4 := hid (HP.out.below hC b4)
    have HW4 := hid (HW.out.trans (Went.refl _ _ _ _ b4))
    have p1 : w4.cell? ⟨gA, 1, none⟩ = some (.int .i64 a.m) := ab_m (o := 0) (A2.out.below b4 A2.out.lt).whole
    have p2 : w4.cell? ⟨gA, 2, none⟩ = some (.int .i64 a.i) := ab_i (o := 0) (A2.out.below b4 A2.out.lt).whole
    clear hw4 b4 s4 hgX HP HR HW q3 q67
    go_wp2_with fail
    refine (bread_any R4.out hk a.m a.i).mono ?_
    rintro e w3 ⟨rfl, ho⟩
    rw [← HVev.out, ← HVsv.out]
    have S5 := hid (by obtain ⟨_, _, _, _, _, _, tt⟩ := ho; exact S4.out.turn tt HX.out)
    obtain ⟨E2, hB, hW⟩ := H1.out.byR hC HW4.out HP4.out HE1.out HE2.out ho
    have RES := hid (show outD repB B w g F r E (k + b.steps.length + 2) _ w3 from ⟨F2, E2, hB, HO.out.trans hW⟩)
    clear ho hB hW S4 R4 HP4 HW4 A1 A2 HN HO H1 HE1 HE2 p1 p2
    go_upto_region 23 with (first | (with_reducible apply alA tSe) | ((with_reducible apply stA tSe); rfl; rfl; exact Blk.new _ _ _))
    generalize hw6 : World.setRow _ _ _ = w6
    have b6 : Below w3.heap.size w3 w6 := by rw [← hw6]; exact below_setRow ((Below.refl _ _).alloc (Nat.le_refl _) _) (Nat.le_refl _) _
    have T6 := hid (show Blk w6 w3.heap.size 43 (ar 64 sv) by rw [← hw6]; exact (Blk.new w3 _ _).setRow_same _)
    have S6 := hid (S5.out.below b6 S5.out.lt)
    replace RES := hid (RES.out.below hC b6)
    clear hw6 b6 S5
    go_wp2_with (first | ((with_reducible apply ldA tSe); rfl; exact S6.out) | ((with_reducible apply ldA tSe); rfl; exact T6.out) | ((with_reducible apply MbO.weqU true uSe' gSe'); rfl; rfl; exact eqA_yes fun _ _ => rfl))
    refine bodyPost_ret (results_tmp (t := 6) rfl _ _ _) rfl ?_
    exact ⟨rfl, RES.out⟩
end BuP
end Go.Proofs.YthogklchmhjjkaaGreat
set_option maxRecDepth 100000
namespace Go.Proofs.YthogklchmhjjkaaGreat
open Go.ChangeShapes Go.WideShapes Go.ChangeAt Go.RowKit
attribute [local go_sem] Gives GivesE
namespace BuP
open BuM MbM MbP
section
variable {ops : Array Oper} {Q : Exit → Act → World → Prop} {a : Act} {w : World} {rest : List Oper} {dst : Option Tmp} {ty r : TypeId} {pos : String} {after : Array Edge} {x y : Operand} {f : Nat → Nat}
theorem wneSe (hx : a.eval x = .agg (ar 64 f)) (hy : a.eval y = .agg (ar 64 f)) (h : wpList Tryz.prog ops Q rest (a.put dst (.bool false)) w) : wpList Tryz.prog ops Q (⟨dst, .binOp .neq 43 x y r, ty, pos, after, none⟩ :: rest) a w := by
  have h1 : (eqGuard .neq 43 x y (.agg (ar 64 f)) (.agg (ar 64 f))).run Tryz.prog w = .ok () w := by
    simp [eqGuard, gSe', go_sem]
  have h2 : (binOp .neq 43 (.agg (ar 64 f)) (.agg (ar 64 f))).run Tryz.prog w = .ok (.bool (!eqA 64 f f)) w := run_neq_ar uSe' _ _ _
  rw [eqA_yes fun _ _ => rfl] at h2
  refine wpList_plain rfl fun K hK => ?_
  unfold Oper.wp
  simp only [execOp, hx, hy, Sem.run_bind, h1, h2, Result.andThen_ok, Sem.run_pure]
  exact hK _ _ h
end
theorem rs_fields {w : World} {g k : Nat} {L : Nat → Prop} {st : St} (h : RS w g L k st) : w.cell? ⟨g, 0, none⟩ = some (.int .i64 st.n) ∧ (∃ A c, w.cell? ⟨g, 2, none⟩ = some (.slice A st.log.length c)) ∧ w.cell? ⟨g, 5, none⟩ = some (.bool st.hurt) := by
  obtain ⟨s, ⟨A1, c1, A2, c2, A3, c3, h1⟩, rfl, h3⟩ := h
  exact ⟨h1.blk.cell 0, ⟨A2, c2, h1.blk.cell 2⟩, h1.blk.cell 5⟩
set_option maxHeartbeats 4000000 in
set_option maxRecDepth 100000 in
theorem alike_any {repB : RepB} (hC : BusC repB) {B : Nat} {w : World} {g k r : Nat} {F : Fq} {E : Fp} {b : Bs} (H : Both repB B w g F k r E b) (hk : k ≤ 8000) {S : Nat → Prop} {A : Option Addr} {n c : Nat} (hl : Sli 1 ptL S w A F.gs n c) :
    Calls Tryz.prog 8 #[MbP.at' g, .slice A n c, MbP.at' F.gc, MbP.at' r] w fun e w' => e = .returned (.bool true) ∧ Below w.heap.size w w' := by
  have HH := hid H
  have HL := hid hl
  have hn : n = b.ms.length := hl.len.symm.trans H.prog.len
  have hnx : n ≤ 64 := by rw [hn]; exact H.prog.sz.1
  have HN := hid hn
  clear H hl hn
  unfold MbP.at'
  go_enter Tryz.func8, Tryz.ntmps8
  go_wp2_with fail
  refine (cb_read HH.out.prog.cel).mono ?_
  rintro e wa ⟨rfl, ha⟩
  obtain ⟨cv, hcv⟩ : ∃ z, z = b.c := ⟨_, rfl⟩
  rw [← hcv]
  have HCV := hid hcv
  clear hcv
  go_upto_region 2 with (first | (with_reducible apply alZ' ClP.zCe) | ((with_reducible apply stR (ClP.tCe cv)); rfl; rfl; exact Blk.new _ _ _; exact ClP.ce_size _ _; exact ClP.ce_one _))
  generalize hw1 : World.setRow _ _ _ = w1
  have b1 : Below wa.heap.size wa w1 := by rw [← hw1]; exact below_setRow ((Below.refl _ _).alloc (Nat.le_refl _) _) (Nat.le_refl _) _
  have C1 := hid (show Blk w1 wa.heap.size 27 (ClP.ceL cv).toArray by rw [← hw1]; exact (Blk.new wa _ _).setRow_same _)
  have B1 := hid (ha.trans (b1.mono ha.size))
  have H1 := hid (HH.out.below hC B1.out)
  obtain ⟨gX, hgX⟩ : ∃ n, n = wa.heap.size := ⟨_, rfl⟩
  rw [← hgX] at C1 ⊢
  clear hw1 b1 ha hgX
  obtain ⟨Al, cl, hvl, _⟩ := HH.out.ref.log.sli enL_len
  have Q4 := hid (show ∀ w', Below w1.heap.size w1 w' → w'.cell? ⟨r, 4, none⟩ = some (.slice Al b.log.length cl) from fun w' hb => by rw [← hvl]; exact bu_lg (H1.out.ref.below hb).blk)
  have Q3 := hid (show ∀ w', Below w1.heap.size w1 w' → w'.cell? ⟨r, 3, none⟩ = some (.bool b.off) from fun w' hb => bu_off (H1.out.ref.below hb).blk)
  have Q0 := hid (show ∀ w', Below w1.heap.size w1 w' → w'.cell? ⟨r, 0, none⟩ = some (.slice E.Am b.ms.length E.cm) from fun w' hb => bu_ms (H1.out.ref.below hb).blk)
  have Q1 := hid (show ∀ w', Below w1.heap.size w1 w' → w'.cell? ⟨r, 1, none⟩ = some (.pointer (some ⟨E.gc, 0, none⟩)) from fun w' hb => bu_c (H1.out.ref.below hb).blk)
  clear hvl
  refine wp_region_tail (C := fun w' => Below w1.heap.size w1 w') 36 (by kernel_rfl) (by kernel_rfl) (by kernel_rfl) (Below.refl _ _).drew ?_
  simp only [List.take_succ_cons, List.take_zero, List.drop_succ_cons, List.drop_zero]
  apply wpK_val
  · rfl
  · intro w' hw'
    go_simp
    first | exact rfl | exact ⟨rfl, hw'⟩
  simp only [Act.put, List.setIfInBounds_toArray, List.set_cons_succ, List.set_cons_zero]
  apply wpK_val
  · rfl
  · intro w' hw'
    go_simp
    exact ((hC.count (H1.out.below hC hw').prog).mono fun e w5 ⟨h1, h5⟩ => ⟨h1, hw'.trans (h5.mono hw'.size)⟩)
  simp only [Act.put, List.setIfInBounds_toArray, List.set_cons_succ, List.set_cons_zero]
  apply wpK_val
  · rfl
  · intro w' hw'
    go_simp
    first | exact rfl | exact ⟨rfl, hw'⟩
  simp only [Act.put, List.setIfInBounds_toArray, List.set_cons_succ, List.set_cons_zero]
  apply wpK_val
  · rfl
  · intro w' hw'
    go_simp
    first | exact rfl | exact ⟨rfl, hw'⟩
  simp only [Act.put, List.setIfInBounds_toArray, List.set_cons_succ, List.set_cons_zero]
  apply wpK_val
  · rfl
  · intro w' hw'
    go_simp
    first | exact rfl | exact ⟨rfl, hw'⟩
  simp only [Act.put, List.setIfInBounds_toArray, List.set_cons_succ, List.set_cons_zero]
  apply wpK_val
  · rfl
  · intro w' hw'
    have hcell := Q4.out w' hw'
    go_simp
    first | exact rfl | exact ⟨rfl, hw'⟩
  simp only [Act.put, List.setIfInBounds_toArray, List.set_cons_succ, List.set_cons_zero]
  apply wpK_val
  · rfl
  · intro w' hw'
    go_simp
    first | exact rfl | exact ⟨rfl, hw'⟩
  simp only [Act.put, List.setIfInBounds_toArray, List.set_cons_succ, List.set_cons_zero]
  apply wpK_val
  · rfl
  · intro w' hw'
    go_simp
    first | exact rfl | exact ⟨rfl, hw'⟩
  simp only [Act.put, List.setIfInBounds_toArray, List.set_cons_succ, List.set_cons_zero]
  apply wpK_val
  · rfl
  · intro w' hw'
    go_simp
    first | exact rfl | exact ⟨rfl, hw'⟩
  simp only [Act.put, List.setIfInBounds_toArray, List.set_cons_succ, List.set_cons_zero]
  apply wpK_val
  · rfl
  · intro w' hw'
    go_simp
    first | exact rfl | exact ⟨rfl, hw'⟩
  simp only [Act.put, List.setIfInBounds_toArray, List.set_cons_succ, List.set_cons_zero]
  apply wpK_val
  · rfl
  · intro w' hw'
    go_simp
    exact ((hC.off (H1.out.below hC hw').prog).mono fun e w5 ⟨h1, h5⟩ => ⟨h1, hw'.trans (h5.mono hw'.size)⟩)
  simp only [Act.put, List.setIfInBounds_toArray, List.set_cons_succ, List.set_cons_zero]
  apply wpK_val
  · rfl
  · intro w' hw'
    go_simp
    first | exact rfl | exact ⟨rfl, hw'⟩
  simp only [Act.put, List.setIfInBounds_toArray, List.set_cons_succ, List.set_cons_zero]
  apply wpK_val
  · rfl
  · intro w' hw'
    go_simp
    first | exact rfl | exact ⟨rfl, hw'⟩
  simp only [Act.put, List.setIfInBounds_toArray, List.set_cons_succ, List.set_cons_zero]
  apply wpK_val
  · rfl
  · intro w' hw'
    go_simp
    first | exact rfl | exact ⟨rfl, hw'⟩
  simp only [Act.put, List.setIfInBounds_toArray, List.set_cons_succ, List.set_cons_zero]
  apply wpK_val
  · rfl
  · intro w' hw'
    have hcell := Q3.out w' hw'
    go_simp
    first | exact rfl | exact ⟨rfl, hw'⟩
  simp only [Act.put, List.setIfInBounds_toArray, List.set_cons_succ, List.set_cons_zero]
  apply wpK_val
  · rfl
  · intro w' hw'
    go_simp
    first | exact rfl | exact ⟨rfl, hw'⟩
  simp only [Act.put, List.setIfInBounds_toArray, List.set_cons_succ, List.set_cons_zero]
  apply wpK_val
  · rfl
  · intro w' hw'
    go_simp
    first | exact rfl | exact ⟨rfl, hw'⟩
  simp only [Act.put, List.setIfInBounds_toArray, List.set_cons_succ, List.set_cons_zero]
  apply wpK_val
  · rfl
  · intro w' hw'
    go_simp
    first | exact rfl | exact ⟨rfl, hw'⟩
  simp only [Act.put, List.setIfInBounds_toArray, List.set_cons_succ, List.set_cons_zero]
  apply wpK_val
  · rfl
  · intro w' hw'
    go_simp
    first | exact rfl | exact ⟨rfl, hw'⟩
  simp only [Act.put, List.setIfInBounds_toArray, List.set_cons_succ, List.set_cons_zero]
  apply wpK_val
  · rfl
  · intro w' hw'
    go_simp
    exact ((hC.members (H1.out.below hC hw').prog).mono fun e w5 ⟨h1, h5⟩ => ⟨h1, hw'.trans (h5.mono hw'.size)⟩)
  simp only [Act.put, List.setIfInBounds_toArray, List.set_cons_succ, List.set_cons_zero]
  apply wpK_val
  · rfl
  · intro w' hw'
    go_simp
    first | exact rfl | exact ⟨rfl, hw'⟩
  simp only [Act.put, List.setIfInBounds_toArray, List.set_cons_succ, List.set_cons_zero]
  apply wpK_val
  · rfl
  · intro w' hw'
    go_simp
    first | exact rfl | exact ⟨rfl, hw'⟩
  simp only [Act.put, List.setIfInBounds_toArray, List.set_cons_succ, List.set_cons_zero]
  apply wpK_val
  · rfl
  · intro w' hw'
    go_simp
    first | exact rfl | exact ⟨rfl, hw'⟩
  simp only [Act.put, List.setIfInBounds_toArray, List.set_cons_succ, List.set_cons_zero]
  apply wpK_val
  · rfl
  · intro w' hw'
    have hcell := Q0.out w' hw'
    go_simp
    first | exact rfl | exact ⟨rfl, hw'⟩
  simp only [Act.put, List.setIfInBounds_toArray, List.set_cons_succ, List.set_cons_zero]
  apply wpK_val
  · rfl
  · intro w' hw'
    go_simp
    first | exact rfl | exact ⟨rfl, hw'⟩
  simp only [Act.put, List.setIfInBounds_toArray, List.set_cons_succ, List.set_cons_zero]
  apply wpK_val
  · rfl
  · intro w' hw'
    go_simp
    first | exact rfl | exact ⟨rfl, hw'⟩
  simp only [Act.put, List.setIfInBounds_toArray, List.set_cons_succ, List.set_cons_zero]
  apply wpK_val
  · rfl
  · intro w' hw'
    go_simp
    first | exact rfl | exact ⟨rfl, hw'⟩
  simp only [Act.put, List.setIfInBounds_toArray, List.set_cons_succ, List.set_cons_zero]
  apply wpK_val
  · rfl
  · intro w' hw'
    go_simp
    first | exact rfl | exact ⟨rfl, hw'⟩
  simp only [Act.put, List.setIfInBounds_toArray, List.set_cons_succ, List.set_cons_zero]
  apply kldR (cs := (ClP.ceL cv).toArray) (ClP.tCe cv)
  · rfl
  · rfl
  · exact fun w' hw' => (C1.out.below hw' C1.out.lt).whole
  simp only [Act.put, List.setIfInBounds_toArray, List.set_cons_succ, List.set_cons_zero]
  apply wpK_val
  · rfl
  · intro w' hw'
    go_simp
    first | exact rfl | exact ⟨rfl, hw'⟩
  simp only [Act.put, List.setIfInBounds_toArray, List.set_cons_succ, List.set_cons_zero]
  apply wpK_val
  · rfl
  · intro w' hw'
    go_simp
    first | exact rfl | exact ⟨rfl, hw'⟩
  simp only [Act.put, List.setIfInBounds_toArray, List.set_cons_succ, List.set_cons_zero]
  apply wpK_val
  · rfl
  · intro w' hw'
    go_simp
    first | exact rfl | exact ⟨rfl, hw'⟩
  simp only [Act.put, List.setIfInBounds_toArray, List.set_cons_succ, List.set_cons_zero]
  apply wpK_val
  · rfl
  · intro w' hw'
    have hcell := Q1.out w' hw'
    go_simp
    first | exact rfl | exact ⟨rfl, hw'⟩
  simp only [Act.put, List.setIfInBounds_toArray, List.set_cons_succ, List.set_cons_zero]
  apply wpK_val
  · rfl
  · intro w' hw'
    have hb : Blk w' E.gc 122 (ClP.rcV cv.1 cv.2 E.vc) := by rw [HCV.out]; exact (H1.out.ref.below hw').cel.blk
    go_simp
    exact (ClP.rread_any E.gc cv.1 cv.2 E.vc w' hb).mono fun e w5 ⟨h1, h5⟩ => ⟨h1, hw'.trans (h5.mono hw'.size)⟩
  simp only [Act.put, List.setIfInBounds_toArray, List.set_cons_succ, List.set_cons_zero]
  apply ClP.kneC (p := cv) (q := cv) false
  · rfl
  · rfl
  · rfl
  · rw [ClP.ceq_refl]; rfl
  simp only [Act.put, List.setIfInBounds_toArray, List.set_cons_succ, List.set_cons_zero]
  apply wpK_val
  · rfl
  · intro w' hw'
    go_simp
    first | exact rfl | exact ⟨rfl, hw'⟩
  simp only [Act.put, List.setIfInBounds_toArray, List.set_cons_succ, List.set_cons_zero]
  intro w2 hC2
  have B2 := hid (B1.out.trans (hC2.mono B1.out.size))
  clear Q4 Q3 Q0 Q1 C1 H1 B1 hC2 HCV
  go_wp2_with fail
  go_loopw [11] (fun u wr => ∃ i : Nat, u = .int .i64 i ∧ i ≤ n ∧ Hid (Below w.heap.size w wr)) (fun u _ => n - (intOf u).toNat)
  case atStart => exact ⟨0, rfl, Nat.zero_le _, B2⟩
  case round =>
    clear B2
    obtain ⟨i, rfl, hi, HW⟩ := hrel
    obtain ⟨wo, hwo⟩ : ∃ x, x = wr := ⟨_, rfl⟩
    subst hwo
    by_cases hgo : i < n ∧ i < 8
    · obtain ⟨hin, hi8⟩ := hgo
      have t1 : (i : Int) < (n : Int) := by omega
      have t2 : (i : Int) < 8 := by omega
      have HB := hid (HH.out.below hC HW.out)
      have hil : i < b.ms.length := by rw [← HN.out]; exact hin
      obtain ⟨gi, hgi⟩ : ∃ gi, E.gs[i]? = some gi := ⟨_, List.getElem?_eq_getElem (by rw [HB.out.ref.mem.len]; exact hil)⟩
      obtain ⟨mi, hmi⟩ : ∃ mi, F.gs[i]? = some mi := ⟨_, List.getElem?_eq_getElem (by rw [HB.out.prog.len]; exact hil)⟩
      obtain ⟨st, hst, rs⟩ := HB.out.ref.mem.at hgi
      have RS := hid rs
      have RM := hid (HB.out.prog.mem i mi st hmi hst)
      have HOK := hid (HB.out.prog.ok.1 st (List.mem_of_getElem? hst))
      obtain ⟨bA, oA, hA, hbS, hbl, hr⟩ := HB.out.ref.arr.some hgi
      rw [Nat.mul_one] at hr
      have q1 : wo.cell? ⟨bA, oA + i, none⟩ = some (.pointer (some ⟨gi, 0, none⟩)) := pt_p hr
      have q0 : wo.cell? ⟨r, 0, none⟩ = some (.slice (some ⟨bA, oA, none⟩) n E.cm) := by rw [← hA, HN.out]; exact bu_ms HB.out.ref.blk
      obtain ⟨bL, oL, hL, _, hbL, hrL⟩ := HL.out.some hmi
      rw [Nat.mul_one] at hrL
      have QL := hid (show ∀ w', Below wo.heap.size wo w' → w'.cell? ⟨bL, oL + i, none⟩ = some (.pointer (some ⟨mi, 0, none⟩)) from fun w' hb => (hb.cell (p := ⟨bL, oL + i, none⟩) (Nat.lt_of_lt_of_le hbL HW.out.size)).trans ((HW.out.cell (p := ⟨bL, oL + i, none⟩) hbL).trans (pt_p hrL)))
      subst hL
      have HMS := hid (show mem b.ms (i : Int) = true by unfold mem; simp; omega)
      have HAT := hid (at_of hst)
      clear hr hA hrL hgi hmi hst rs hbS
      go_upto_region 8 with fail
      have F0 := hid (show ∀ w', Below wo.heap.size wo w' → w'.cell? ⟨gi, 0, none⟩ = some (.int .i64 st.n) from fun w' hb => (hb.cell (p := ⟨gi, 0, none⟩) RS.out.lt.1).trans (rs_fields RS.out).1)
      obtain ⟨A2, c2, h2⟩ := (rs_fields RS.out).2.1
      have F2 := hid (show ∀ w', Below wo.heap.size wo w' → w'.cell? ⟨gi, 2, none⟩ = some (.slice A2 st.log.length c2) from fun w' hb => (hb.cell (p := ⟨gi, 2, none⟩) RS.out.lt.1).trans h2)
      have F5 := hid (show ∀ w', Below wo.heap.size wo w' → w'.cell? ⟨gi, 5, none⟩ = some (.bool st.hurt) from fun w' hb => (hb.cell (p := ⟨gi, 5, none⟩) RS.out.lt.1).trans (rs_fields RS.out).2.2)
      clear h2 q0 q1
      refine wp_region_tail (C := fun w' => Below wo.heap.size wo w') 33 (by kernel_rfl) (by kernel_rfl) (by kernel_rfl) (Below.refl _ _).drew ?_
      simp only [List.take_succ_cons, List.take_zero, List.drop_succ_cons, List.drop_zero]
      apply wpK_val
      · rfl
      · intro w' hw'
        go_simp
        first | exact rfl | exact ⟨rfl, hw'⟩
      simp only [Act.put, List.setIfInBounds_toArray, List.set_cons_succ, List.set_cons_zero]
      apply wpK_val
      · rfl
      · intro w' hw'
        go_simp
        first | exact rfl | exact ⟨rfl, hw'⟩
      simp only [Act.put, List.setIfInBounds_toArray, List.set_cons_succ, List.set_cons_zero]
      apply wpK_val
      · rfl
      · intro w' hw'
        go_simp
        exact ((hC.sectors (HB.out.below hC hw').prog i).mono fun e w5 ⟨h1, h5⟩ => ⟨by rw [HMS.out, if_pos rfl, HAT.out] at h1; exact h1, hw'.trans (h5.mono hw'.size)⟩)
      simp only [Act.put, List.setIfInBounds_toArray, List.set_cons_succ, List.set_cons_zero]
      apply wpK_val
      · rfl
      · intro w' hw'
        go_simp
        first | exact rfl | exact ⟨rfl, hw'⟩
      simp only [Act.put, List.setIfInBounds_toArray, List.set_cons_succ, List.set_cons_zero]
      apply wpK_val
      · rfl
      · intro w' hw'
        go_simp
        first | exact rfl | exact ⟨rfl, hw'⟩
      simp only [Act.put, List.setIfInBounds_toArray, List.set_cons_succ, List.set_cons_zero]
      apply wpK_val
      · rfl
      · intro w' hw'
        go_simp
        first | exact rfl | exact ⟨rfl, hw'⟩
      simp only [Act.put, List.setIfInBounds_toArray, List.set_cons_succ, List.set_cons_zero]
      apply wpK_val
      · rfl
      · intro w' hw'
        have hcell := F0.out w' hw'
        go_simp
        first | exact rfl | exact ⟨rfl, hw'⟩
      simp only [Act.put, List.setIfInBounds_toArray, List.set_cons_succ, List.set_cons_zero]
      apply wpK_val
      · rfl
      · intro w' hw'
        go_simp
        first | exact rfl | exact ⟨rfl, hw'⟩
      simp only [Act.put, List.setIfInBounds_toArray, List.set_cons_succ, List.set_cons_zero]
      apply wpK_val
      · rfl
      · intro w' hw'
        go_simp
        first | exact rfl | exact ⟨rfl, hw'⟩
      simp only [Act.put, List.setIfInBounds_toArray, List.set_cons_succ, List.set_cons_zero]
      apply wpK_val
      · rfl
      · intro w' hw'
        go_simp
        first | exact rfl | exact ⟨rfl, hw'⟩
      simp only [Act.put, List.setIfInBounds_toArray, List.set_cons_succ, List.set_cons_zero]
      apply wpK_val
      · rfl
      · intro w' hw'
        go_simp
        first | exact rfl | exact ⟨rfl, hw'⟩
      simp only [Act.put, List.setIfInBounds_toArray, List.set_cons_succ, List.set_cons_zero]
      apply wpK_val
      · rfl
      · intro w' hw'
        go_simp
        first | exact rfl | exact ⟨rfl, hw'⟩
      simp only [Act.put, List.setIfInBounds_toArray, List.set_cons_succ, List.set_cons_zero]
      apply wpK_val
      · rfl
      · intro w' hw'
        have hcell := QL.out w' hw'
        go_simp
        first | exact rfl | exact ⟨rfl, hw'⟩
      simp only [Act.put, List.setIfInBounds_toArray, List.set_cons_succ, List.set_cons_zero]
      apply wpK_val
      · rfl
      · intro w' hw'
        go_simp
        exact ((MbP.memB_ok.touched (MbP.memB_ok.frame RM.out (Turn.of_new (S := fun _ => False) hw') fun _ _ e => e)).mono fun e w5 ⟨h1, h5⟩ => ⟨h1, hw'.trans (h5.mono hw'.size)⟩)
      simp only [Act.put, List.setIfInBounds_toArray, List.set_cons_succ, List.set_cons_zero]
      apply wpK_val
      · rfl
      · intro w' hw'
        go_simp
        first | exact rfl | exact ⟨rfl, hw'⟩
      simp only [Act.put, List.setIfInBounds_toArray, List.set_cons_succ, List.set_cons_zero]
      apply wpK_val
      · rfl
      · intro w' hw'
        go_simp
        first | exact rfl | exact ⟨rfl, hw'⟩
      simp only [Act.put, List.setIfInBounds_toArray, List.set_cons_succ, List.set_cons_zero]
      apply wpK_val
      · rfl
      · intro w' hw'
        go_simp
        first | exact rfl | exact ⟨rfl, hw'⟩
      simp only [Act.put, List.setIfInBounds_toArray, List.set_cons_succ, List.set_cons_zero]
      apply wpK_val
      · rfl
      · intro w' hw'
        have hcell := F5.out w' hw'
        go_simp
        first | exact rfl | exact ⟨rfl, hw'⟩
      simp only [Act.put, List.setIfInBounds_toArray, List.set_cons_succ, List.set_cons_zero]
      apply wpK_val
      · rfl
      · intro w' hw'
        go_simp
        first | exact rfl | exact ⟨rfl, hw'⟩
      simp only [Act.put, List.setIfInBounds_toArray, List.set_cons_succ, List.set_cons_zero]
      apply wpK_val
      · rfl
      · intro w' hw'
        go_simp
        first | exact rfl | exact ⟨rfl, hw'⟩
      simp only [Act.put, List.setIfInBounds_toArray, List.set_cons_succ, List.set_cons_zero]
      apply wpK_val
      · rfl
      · intro w' hw'
        go_simp
        first | exact rfl | exact ⟨rfl, hw'⟩
      simp only [Act.put, List.setIfInBounds_toArray, List.set_cons_succ, List.set_cons_zero]
      apply wpK_val
      · rfl
      · intro w' hw'
        go_simp
        first | exact rfl | exact ⟨rfl, hw'⟩
      simp only [Act.put, List.setIfInBounds_toArray, List.set_cons_succ, List.set_cons_zero]
      apply wpK_val
      · rfl
      · intro w' hw'
        go_simp
        first | exact rfl | exact ⟨rfl, hw'⟩
      simp only [Act.put, List.setIfInBounds_toArray, List.set_cons_succ, List.set_cons_zero]
      apply wpK_val
      · rfl
      · intro w' hw'
        go_simp
        first | exact rfl | exact ⟨rfl, hw'⟩
      simp only [Act.put, List.setIfInBounds_toArray, List.set_cons_succ, List.set_cons_zero]
      apply wpK_val
      · rfl
      · intro w' hw'
        have hcell := QL.out w' hw'
        go_simp
        first | exact rfl | exact ⟨rfl, hw'⟩
      simp only [Act.put, List.setIfInBounds_toArray, List.set_cons_succ, List.set_cons_zero]
      apply wpK_val
      · rfl
      · intro w' hw'
        go_simp
        exact ((MbP.memB_ok.unflushed (MbP.memB_ok.frame RM.out (Turn.of_new (S := fun _ => False) hw') fun _ _ e => e)).mono fun e w5 ⟨h1, h5⟩ => ⟨h1, hw'.trans (h5.mono hw'.size)⟩)
      simp only [Act.put, List.setIfInBounds_toArray, List.set_cons_succ, List.set_cons_zero]
      apply wpK_val
      · rfl
      · intro w' hw'
        go_simp
        first | exact rfl | exact ⟨rfl, hw'⟩
      simp only [Act.put, List.setIfInBounds_toArray, List.set_cons_succ, List.set_cons_zero]
      apply wpK_val
      · rfl
      · intro w' hw'
        go_simp
        first | exact rfl | exact ⟨rfl, hw'⟩
      simp only [Act.put, List.setIfInBounds_toArray, List.set_cons_succ, List.set_cons_zero]
      apply wpK_val
      · rfl
      · intro w' hw'
        go_simp
        first | exact rfl | exact ⟨rfl, hw'⟩
      simp only [Act.put, List.setIfInBounds_toArray, List.set_cons_succ, List.set_cons_zero]
      apply wpK_val
      · rfl
      · intro w' hw'
        have hcell := F2.out w' hw'
        go_simp
        first | exact rfl | exact ⟨rfl, hw'⟩
      simp only [Act.put, List.setIfInBounds_toArray, List.set_cons_succ, List.set_cons_zero]
      apply wpK_val
      · rfl
      · intro w' hw'
        go_simp
        first | exact rfl | exact ⟨rfl, hw'⟩
      simp only [Act.put, List.setIfInBounds_toArray, List.set_cons_succ, List.set_cons_zero]
      apply wpK_val
      · rfl
      · intro w' hw'
        go_simp
        first | exact rfl | exact ⟨rfl, hw'⟩
      simp only [Act.put, List.setIfInBounds_toArray, List.set_cons_succ, List.set_cons_zero]
      apply wpK_val
      · rfl
      · intro w' hw'
        go_simp
        first | exact rfl | exact ⟨rfl, hw'⟩
      simp only [Act.put, List.setIfInBounds_toArray, List.set_cons_succ, List.set_cons_zero]
      intro w3 hC3
      have B3 := hid hC3
      go_wp2_with fail
      clear F2 F5 HMS HAT
      go_loopw [13] (fun u w4 => ∃ j : Nat, u = .int .i64 j ∧ j ≤ 6 ∧ Hid (Below wo.heap.size wo w4)) (fun u _ => 6 - (intOf u).toNat)
      case atStart => exact ⟨0, rfl, by omega, B3⟩
      case round =>
        clear B3 hC3
        obtain ⟨j, rfl, hj, HV⟩ := hrel
        have f0 := F0.out wr HV.out
        by_cases hjn : (j : Int) < st.n
        · by_cases hj6 : j < 6
          · have t3 : (j : Int) < 6 := by omega
            have ql : wr.cell? ⟨bL, oL + i, none⟩ = some (.pointer (some ⟨mi, 0, none⟩)) := QL.out wr HV.out
            go_wp2_with fail
            refine (MbP.memB_ok.look (MbP.memB_ok.frame RM.out (Turn.of_new (S := fun _ => False) HV.out) fun _ _ e => e) HOK.out (by omega) (j : Int)).mono ?_
            rintro e w5 ⟨rfl, h5⟩
            obtain ⟨sv, hsv⟩ : ∃ z, z = lkS st (j : Int) := ⟨_, rfl⟩
            rw [← hsv]
            have HSV := hid hsv
            clear hsv ql f0
            go_upto_region 14 with (first | (with_reducible apply alA tSe) | ((with_reducible apply stA tSe); rfl; rfl; exact Blk.new _ _ _))
            generalize hw6 : World.setRow _ _ _ = w6
            have b6 : Below w5.heap.size w5 w6 := by rw [← hw6]; exact below_setRow ((Below.refl _ _).alloc (Nat.le_refl _) _) (Nat.le_refl _) _
            have S6 := hid (show Blk w6 w5.heap.size 43 (ar 64 sv) by rw [← hw6]; exact (Blk.new w5 _ _).setRow_same _)
            have V6 := hid (HV.out.trans ((h5.trans (b6.mono h5.size)).mono HV.out.size))
            clear hw6 b6 h5 HV
            go_wp2_with fail
            refine (rs_look (RS.out.turn (Turn.of_new (S := fun _ => False) V6.out) (fun e => e) fun _ _ e => e) (j : Int)).mono ?_
            rintro e w7 ⟨rfl, h7⟩
            rw [← HSV.out]
            have S7 := hid (S6.out.below h7 S6.out.lt)
            go_upto_region 15 with (first | (with_reducible apply alA tSe) | ((with_reducible apply stA tSe); rfl; rfl; exact Blk.new _ _ _))
            generalize hw8 : World.setRow _ _ _ = w8
            have b8 : Below w7.heap.size w7 w8 := by rw [← hw8]; exact below_setRow ((Below.refl _ _).alloc (Nat.le_refl _) _) (Nat.le_refl _) _
            have T8 := hid (show Blk w8 w7.heap.size 43 (ar 64 sv) by rw [← hw8]; exact (Blk.new w7 _ _).setRow_same _)
            have S8 := hid (S7.out.below b8 S7.out.lt)
            have V8 := hid (V6.out.trans ((h7.trans (b8.mono h7.size)).mono V6.out.size))
            clear hw8 b8 h7 V6 S6 S7 HSV
            go_wp2_with (first | ((with_reducible apply ldA tSe); rfl; exact S8.out) | ((with_reducible apply ldA tSe); rfl; exact T8.out) | ((with_reducible apply wneSe (f := sv)); rfl; rfl))
            go_roundw
            case rel => exact ⟨j + 1, by go_num, by omega, V8⟩
            case measure => simp [intOf] <;> omega
          · have t3 : decide ((j : Int) < 6) = false := by simp; omega
            go_wp2_with fail
            go_roundw
            case rel => exact ⟨i + 1, by go_num, by omega, hid (HW.out.trans (HV.out.mono HW.out.size))⟩
            case measure => simp [intOf] <;> omega
        · have t3 : decide ((j : Int) < st.n) = false := by simp; omega
          go_wp2_with fail
          go_roundw
          case rel => exact ⟨i + 1, by go_num, by omega, hid (HW.out.trans (HV.out.mono HW.out.size))⟩
          case measure => simp [intOf] <;> omega
    · by_cases hin : i < n
      · have t1 : (i : Int) < (n : Int) := by omega
        have t2 : decide ((i : Int) < 8) = false := by simp; omega
        go_wp2_with fail
        go_ret
        exact ⟨rfl, HW.out⟩
      · have t1 : decide ((i : Int) < (n : Int)) = false := by simp; omega
        go_wp2_with fail
        go_ret
        exact ⟨rfl, HW.out⟩
end BuP
end Go.Proofs.YthogklchmhjjkaaGreat
set_option maxRecDepth 100000
namespace Go.Proofs.YthogklchmhjjkaaGreat
open Go.ChangeShapes Go.WideShapes Go.ChangeAt Go.RowKit
section
variable {α : Type} {k : Nat} {en : α → List Value} {E L : TypeId}
theorem run_lit2 (hE : EltX E k en) (hu : Tryz.prog.underlying L = some (.slice E)) (x y : α) {v u : Value} (hv : v.cells.toList = en x) (hy : u.cells.toList = en y) (hk : k ≤ 1000) (w : World) :
    (Instr.buildSlice L 2 #[(0, v), (1, u)]).run Tryz.prog w = .ok (.slice (some ⟨w.heap.size, 0, none⟩) 2 2) (w.alloc (.cells (en x ++ en y).toArray E)) := by
  obtain ⟨ie, z, hi, hz, h1, h2, h3⟩ := hE.info
  refine run_buildSlice w L E 2 _ _ ie z hu hi hz (by rw [h1]; omega) (by rw [h1]; have := hE.pos; omega) ?_
  have hcs : v.cells.size = k := by rw [← Array.length_toList, hv, hE.len]
  have hcu : u.cells.size = k := by rw [← Array.length_toList, hy, hE.len]
  have := fill_consec (place := fun i => some (i * ie.size, ie.size)) [v, u] [(0, k), (k, k)] [] (((Array.range (2 * ie.size)).map (z.cells[· % z.cells.size]!)).toList) 0 ⟨rfl, by simp, trivial⟩ (by simp [hcs, hcu]) (by simp [h1]; omega) (fun j hj => by
    have : j = 0 ∨ j = 1 := by simp at hj; omega
    rcases this with rfl | rfl
    · simp [h1]
    · simp [h1])
  simp only [List.nil_append, List.map_cons, List.map_nil, List.sum_cons, List.sum_nil, Nat.add_zero, List.flatMap_cons, List.flatMap_nil, List.append_nil, hv, hy] at this
  rw [List.drop_eq_nil_of_le (by simp [h1]; omega), List.append_nil, Array.toArray_toList] at this
  exact this
/-- What such a literal is. -/
theorem sli_lit2 {S : Nat → Prop} (hE : EltX E k en) (x y : α) (w : World) (hS : S w.heap.size) : Sli k en S (w.alloc (.cells (en x ++ en y).toArray E)) (some ⟨w.heap.size, 0, none⟩) [x, y] 2 2 where
  len := rfl
  cap := Nat.le_refl _
  max := by unfold maxLen; omega
  none e := by cases e
  lst _ := ⟨w.heap.size, 0, rfl, hS, by simp, fun i z hi j u hj => by
    have hb : Blk (w.alloc (.cells (en x ++ en y).toArray E)) w.heap.size E (en x ++ en y).toArray := Blk.new _ _ _
    have hjl := (List.getElem?_eq_some_iff.1 hj).1
    rcases i with _ | _ | i
    · simp only [List.getElem?_cons_zero, Option.some.injEq] at hi
      subst hi
      rw [hE.len] at hjl
      rw [Nat.zero_add, Nat.zero_mul, Nat.zero_add, hb.cell, List.getElem?_toArray, List.getElem?_append_left (by rw [hE.len]; exact hjl)]
      exact hj
    · simp only [List.getElem?_cons_succ, List.getElem?_cons_zero, Option.some.injEq] at hi
      subst hi
      rw [Nat.zero_add, Nat.zero_add, Nat.one_mul, hb.cell, List.getElem?_toArray, List.getElem?_append_right (by rw [hE.len]; omega), hE.len, Nat.add_sub_cancel_left]
      exact hj
    · simp at hi⟩
variable {ops : Array Oper} {Q : Exit → Act → World → Prop} {a : Act} {w : World} {rest : List Oper} {dst : Option Tmp} {ty : TypeId} {pos : String} {after : Array Edge} {o p : Operand} {x y : α} {v u : Value}
theorem wlit2 (hE : EltX E k en) (hu : Tryz.prog.underlying L = some (.slice E)) (hk : k ≤ 1000) (ho : a.eval o = v) (hp : a.eval p = u) (hv : v.cells.toList = en x) (hy : u.cells.toList = en y)
    (h : wpList Tryz.prog ops Q rest (a.put dst (.slice (some ⟨w.heap.size, 0, none⟩) 2 2)) (w.alloc (.cells (en x ++ en y).toArray E))) :
    wpList Tryz.prog ops Q (⟨dst, .buildSlice L 2 #[(0, o), (1, p)], ty, pos, after, none⟩ :: rest) a w := by
  have hm : (#[(0, o), (1, p)] : Array (Nat × Operand)).map (fun (i, x) => (i, a.eval x)) = #[(0, v), (1, u)] := by
    simp only [List.map_toArray, List.map_cons, List.map_nil, ho, hp]
  refine wpList_plain rfl fun K hK => ?_
  unfold Oper.wp execOp
  simp only [Sem.run_bind, hm, run_lit2 hE hu x y hv hy hk w, Result.andThen_ok, Sem.run_pure]
  exact hK _ _ h
end
end Go.Proofs.YthogklchmhjjkaaGreat
set_option maxRecDepth 100000
namespace Go.Proofs.YthogklchmhjjkaaGreat
open Go.ChangeShapes Go.WideShapes Go.ChangeAt Go.RowKit
attribute [local go_sem] Gives GivesE
namespace BuP
open BuM MbM MbP
set_option maxRecDepth 100000 in
theorem full13_any (x : Nat) (w : World) : Calls Tryz.prog 14 #[.int .u8 (x : Nat)] w fun e w' => e = .returned (.agg (ar 64 fun _ => x)) ∧ Below w.heap.size w w' := by
  go_enter Tryz.func14, Tryz.ntmps14
  go_upto_region 2 with (with_reducible apply alA tSe)
  generalize hw3 : World.alloc (World.alloc w _) _ = w3
  have b1 : Blk w3 w.heap.size 43 (ar 64 fun _ => 0) := by rw [← hw3]; exact (Blk.new _ _ _).alloc _
  have b2 : Blk w3 (w.heap.size + 1) 43 (ar 64 fun _ => 0) := by rw [← hw3]; exact Blk.top rfl (by simp)
  have hb : Below w.heap.size w w3 := by rw [← hw3]; exact ((Below.refl _ _).alloc (Nat.le_refl _) _).alloc (by simp) _
  clear hw3
  go_wp2_with fail
  go_loopw [4] (fun i wr => ∃ k : Nat, k ≤ 64 ∧ i = .int .i64 k ∧ Blk wr w.heap.size 43 (ar 64 fun _ => 0) ∧ Blk wr (w.heap.size + 1) 43 (ar 64 (upTo k (fun _ => 0) fun _ => x)) ∧ Below w.heap.size w wr) (fun i _ => 64 - (intOf i).toNat)
  case atStart => exact ⟨0, by omega, rfl, b1, by rw [upTo_zero]; exact b2, hb⟩
  case round =>
    clear b1 b2 hb
    obtain ⟨k, hk, rfl, b1, b2, hb⟩ := hrel
    by_cases hlt : k < 64
    · have tk : (k : Int) < 64 := by omega
      have c3 := b2.frozen k
      have e3 := (b2.cell k).trans (get_ar (show k < 64 by omega))
      go_wp2_with fail
      go_roundw
      case rel => exact ⟨k + 1, by omega, by go_num, b1.setCell_other (by show w.heap.size + 1 ≠ _; omega) _, upTo_step (b2.setCell_same k _), hb.setCell (show w.heap.size ≤ w.heap.size + 1 by omega) _⟩
      case measure => simp [intOf]; omega
    · have tk : decide ((k : Int) < 64) = false := by simp; omega
      obtain rfl : k = 64 := by omega
      rw [show ar 64 (upTo 64 (fun _ => 0) fun _ => x) = ar 64 fun _ => x from ar_ext fun j hj => by unfold upTo; rw [if_pos hj]] at b2
      have b4 := b1.setRow_same (ar 64 fun _ => x)
      have B4 := hid (below_setRow hb (Nat.le_refl w.heap.size) (ar 64 fun _ => x))
      go_wp2_with (first | ((with_reducible apply ldA tSe); rfl; exact b2) | ((with_reducible apply stA tSe); rfl; rfl; exact b1))
      apply ret_ar tSe Tryz.results14
      · rfl
      · rfl
      · exact b4
      exact ⟨rfl, B4.out⟩
/-! ### The chapter's steps -/
def gs1 : Stp := ⟨1, 1, 0, 2, 0, fun _ => 1, []⟩
def gs2 : Stp := ⟨3, 6, 0, 0, 0, fun _ => 0, [0, 1]⟩
theorem built_g1 : Tryz.prog.built 62 [(0, .int .i64 1), (1, .int .i64 1), (3, .int .i64 2), (5, .agg (ar 64 fun _ => 1))] = some (stL (gs1, ⟨none, 0⟩)).toArray := by kernel_rfl
theorem built_g2 (A : Option Addr) : Tryz.prog.built 62 [(0, .int .i64 3), (1, .int .i64 6), (6, .slice A 2 2)] = some (stL (gs2, ⟨A, 2⟩)).toArray := by kernel_rfl
section
variable {ops : Array Oper} {Q : Exit → Act → World → Prop} {a : Act} {w : World} {rest : List Oper} {dst : Option Tmp} {ty : TypeId} {pos : String} {after : Array Edge} {x : Operand} {A : Option Addr}
theorem wblG1 (hx : a.eval x = .agg (ar 64 fun _ => 1)) (hk : wpList Tryz.prog ops Q rest (a.put dst (.agg (stL (gs1, ⟨none, 0⟩)).toArray)) w) : wpList Tryz.prog ops Q (⟨dst, .build 62 #[(0, .const (.int .i64 1)), (1, .const (.int .i64 1)), (3, .const (.int .i64 2)), (5, x)], ty, pos, after, none⟩ :: rest) a w := by
  have hr : (Instr.build 62 #[(0, .int .i64 1), (1, .int .i64 1), (3, .int .i64 2), (5, .agg (ar 64 fun _ => 1))]).run Tryz.prog w = .ok (.agg (stL (gs1, ⟨none, 0⟩)).toArray) w := run_build w _ _ _ built_g1
  have hm : (#[(0, .const (.int .i64 1)), (1, .const (.int .i64 1)), (3, .const (.int .i64 2)), (5, x)] : Array (Nat × Operand)).map (fun (i, x) => (i, a.eval x)) = #[(0, .int .i64 1), (1, .int .i64 1), (3, .int .i64 2), (5, .agg (ar 64 fun _ => 1))] := by
    simp only [List.map_toArray, List.map_cons, List.map_nil, hx]; rfl
  refine wpList_plain rfl fun K hK => ?_
  unfold Oper.wp execOp
  simp only [Sem.run_bind, hm, hr, Result.andThen_ok, Sem.run_pure]
  exact hK _ _ hk
theorem wblG2 (hx : a.eval x = .slice A 2 2) (hk : wpList Tryz.prog ops Q rest (a.put dst (.agg (stL (gs2, ⟨A, 2⟩)).toArray)) w) : wpList Tryz.prog ops Q (⟨dst, .build 62 #[(0, .const (.int .i64 3)), (1, .const (.int .i64 6)), (6, x)], ty, pos, after, none⟩ :: rest) a w := by
  have hr : (Instr.build 62 #[(0, .int .i64 3), (1, .int .i64 6), (6, .slice A 2 2)]).run Tryz.prog w = .ok (.agg (stL (gs2, ⟨A, 2⟩)).toArray) w := run_build w _ _ _ (built_g2 A)
  have hm : (#[(0, .const (.int .i64 3)), (1, .const (.int .i64 6)), (6, x)] : Array (Nat × Operand)).map (fun (i, x) => (i, a.eval x)) = #[(0, .int .i64 3), (1, .int .i64 6), (6, .slice A 2 2)] := by
    simp only [List.map_toArray, List.map_cons, List.map_nil, hx]; rfl
  refine wpList_plain rfl fun K hK => ?_
  unfold Oper.wp execOp
  simp only [Sem.run_bind, hm, hr, Result.andThen_ok, Sem.run_pure]
  exact hK _ _ hk
end
set_option maxHeartbeats 1000000 in
set_option maxRecDepth 100000 in
theorem given_any (w : World) : Calls Tryz.prog 12 #[] w fun e w' => ∃ gS gB, e = .returned (.slice (some ⟨gS, 0, none⟩) 2 2) ∧ Sli 70 stL (fun q => w.heap.size ≤ q) w' (some ⟨gS, 0, none⟩) [(gs1, ⟨none, 0⟩), (gs2, ⟨some ⟨gB, 0, none⟩, 2⟩)] 2 2 ∧
      Arg w' (some ⟨gB, 0, none⟩) [0, 1] 2 2 ∧ w.heap.size ≤ gB ∧ gS ≠ gB ∧ Below w.heap.size w w' := by
  go_enter Tryz.func12, Tryz.ntmps12
  go_wp2_with fail
  refine (full13_any 1 w).mono ?_
  rintro e w1 ⟨rfl, h1⟩
  go_wp2_with (first
    | ((with_reducible apply wblG1); rfl)
    | ((with_reducible apply wlit2 eltBy undBy (x := 0) (y := 1)); omega; rfl; rfl; rfl; rfl)
    | ((with_reducible apply wblG2); rfl)
    | ((with_reducible apply wlit2 eltStP undStP (x := (gs1, ⟨none, 0⟩)) (y := (gs2, ⟨some ⟨w1.heap.size, 0, none⟩, 2⟩))); omega; rfl; rfl; rfl; rfl))
  go_ret
  have hs := h1.size
  have b2 := h1.alloc hs (.cells (byL 0 ++ byL 1).toArray 5)
  have b3 := b2.alloc (by simp; omega) (.cells (stL (gs1, ⟨none, 0⟩) ++ stL (gs2, ⟨some ⟨w1.heap.size, 0, none⟩, 2⟩)).toArray 62)
  have l1 := sli_lit2 (S := fun q => w.heap.size ≤ q) eltBy 0 1 w1 hs
  have l2 := sli_lit2 (S := fun q => w.heap.size ≤ q) eltStP (gs1, ⟨none, 0⟩) (gs2, ⟨some ⟨w1.heap.size, 0, none⟩, 2⟩) (w1.alloc (.cells (byL 0 ++ byL 1).toArray 5)) (by simp; omega)
  refine ⟨w1.heap.size + 1, w1.heap.size, by simp, ?_, ?_, hs, by omega, b3⟩
  · have := l2
    rw [show (w1.alloc (.cells (byL 0 ++ byL 1).toArray 5)).heap.size = w1.heap.size + 1 by simp] at this
    exact this
  · exact sli_arg (l1.turn (Turn.alloc (S := fun _ => False) _ _) fun _ _ _ e => e) (by intro x hx; simp at hx; omega)
end BuP
end Go.Proofs.YthogklchmhjjkaaGreat
set_option maxRecDepth 100000
namespace Go.Proofs.YthogklchmhjjkaaGreat
open Go.ChangeShapes Go.WideShapes Go.ChangeAt Go.RowKit
attribute [local go_sem] Gives GivesE
namespace BuP
open BuM MbM MbP
theorem zip_mem {α β : Type} {l : List α} {m : List β} (h : m.length = l.length) {x : α} (hx : x ∈ l) : ∃ y, (x, y) ∈ l.zip m := by
  obtain ⟨i, hi⟩ := List.mem_iff_getElem?.1 hx
  have hl := (List.getElem?_eq_some_iff.1 hi).1
  refine ⟨m[i]'(by omega), List.mem_of_getElem? (i := i) ?_⟩
  rw [List.getElem?_zip_eq_some]
  exact ⟨hi, List.getElem?_eq_getElem (by omega)⟩
theorem undPtP : Tryz.prog.underlying 35 = some (.slice 63) := Tryz.underlying35
/-- The two members' bus. -/
def two (steps : List Stp) : Bs := BuM.new [made 4, made 4] (0, ClP.zero) steps
set_option maxHeartbeats 1000000 in
set_option maxRecDepth 100000 in
theorem two_any {repB : RepB} (hC : BusC repB) {w : World} {As : Option Addr} {ns cs : Nat} {steps : List Stp} {sl : List SlB} {S Sp : Nat → Prop} (hst : Sli 70 stL S w As (steps.zip sl) ns cs) (hsl : sl.length = steps.length) (hns : ns ≤ 1000)
    (hpk : ∀ s x, (s, x) ∈ steps.zip sl → Arg w x.A s.picks s.picks.length x.c ∧ s.picks.length ≤ 140737488351232 ∧ okS s ∧ ∀ q o, 0 < s.picks.length → x.A = some ⟨q, o, none⟩ → Sp q) (hSp : ∀ q, Sp q → q < w.heap.size) :
    Calls Tryz.prog 11 #[.slice As ns cs] w fun e w' => ∃ g m1 m2 F, e = .returned (.tuple #[MbP.at' g, MbP.at' m1, MbP.at' m2]) ∧ Pp repB w' g F 0 (two steps) ∧ F.gs = [m1, m2] ∧ (∀ q, mutP F q → w.heap.size ≤ q) ∧ (∀ q, rdP F q → w.heap.size ≤ q ∨ Sp q) ∧ Below w.heap.size w w' := by
  have HST := hid hst
  have HPK := hid hpk
  have HSP := hid hSp
  have hlen : ns = steps.length := by have := hst.len; rw [List.length_zip, hsl, Nat.min_self] at this; exact this.symm
  have HLN := hid hlen
  clear hst hpk hSp hlen
  unfold MbP.at'
  go_enter Tryz.func11, Tryz.ntmps11
  go_wp2_with fail
  refine (MbP.memB_ok.new 4 (by omega) (by omega) w).mono ?_
  rintro e w1 ⟨m1, M1, I1, rfl, r1, l1, b1⟩
  have R1 := hid r1
  have L1 := hid l1
  have B1 := hid b1
  clear r1 l1 b1
  unfold MbP.at'
  go_wp2_with fail
  refine (MbP.memB_ok.new 4 (by omega) (by omega) w1).mono ?_
  rintro e w2 ⟨m2, M2, I2, rfl, r2, l2, b2⟩
  have R2 := hid r2
  have L2 := hid l2
  have B2 := hid b2
  clear r2 l2 b2
  unfold MbP.at'
  go_wp2_with (with_reducible apply ClP.wblZ)
  refine (cb_new 0 ClP.zero (by unfold ClP.most; omega) w2).mono ?_
  rintro e w3 ⟨gc, Mc, rfl, rc, lc, b3⟩
  have RC := hid rc
  have LC := hid lc
  have B3 := hid b3
  clear rc lc b3
  unfold MbP.at'
  go_wp2_with ((with_reducible apply wlit2 eltPtP undPtP (x := m1) (y := m2)); omega; rfl; rfl; rfl; rfl)
  have a4 : Below w3.heap.size w3 (w3.alloc (.cells (ptL m1 ++ ptL m2).toArray 63)) := (Below.refl _ _).alloc (Nat.le_refl _) _
  have hl4 := sli_lit2 (S := fun q => True) eltPtP m1 m2 w3 trivial
  generalize World.alloc w3 _ = w4 at a4 hl4 ⊢
  have B4 := hid a4
  have HL4 := hid hl4
  have s1 := B1.out.size
  have s2 := B2.out.size
  have s3 := B3.out.size
  have s4 := a4.size
  have R1' := hid (MbP.memB_ok.frame R1.out (Turn.of_new (S := fun _ => False) ((B2.out.trans (B3.out.mono B2.out.size)).trans (a4.mono (Nat.le_trans B2.out.size B3.out.size)))) fun _ _ e => e)
  have R2' := hid (MbP.memB_ok.frame R2.out (Turn.of_new (S := fun _ => False) (B3.out.trans (a4.mono B3.out.size))) fun _ _ e => e)
  have RC' := hid (cb_turn RC.out (Turn.of_new (S := fun _ => False) a4) fun _ _ e => e)
  have BB := hid (((B1.out.trans (B2.out.mono B1.out.size)).trans (B3.out.mono (Nat.le_trans B1.out.size B2.out.size))).trans (a4.mono (Nat.le_trans B1.out.size (Nat.le_trans B2.out.size B3.out.size))))
  have X1 := hid (MbP.memB_ok.lt R1.out)
  have X2 := hid (MbP.memB_ok.lt R2.out)
  have XC := hid (cb_lt RC.out)
  clear a4 hl4
  refine (hC.new (gs := [m1, m2]) (ms := [made 4, made 4]) (k := 0) (Ms := fun i => if i = 0 then M1 else M2) (Is := fun i => if i = 0 then I1 else I2) (S := fun _ => True) (Sp := Sp) (sl := sl) HL4.out rfl (fun i gi st h1 h2 => ?_) (by omega) (by omega) RC'.out
    ((HST.out.turn (Turn.of_new (S := fun _ => False) BB.out) fun _ _ _ e => e).mono fun _ _ => trivial) hsl hns (fun s x hx => ?_)).mono ?_
  · rcases i with _ | _ | i
    · simp only [List.getElem?_cons_zero, Option.some.injEq] at h1 h2
      subst h1 h2
      exact ⟨R1'.out, by show (1 : Int) ≤ 4; omega⟩
    · simp only [List.getElem?_cons_succ, List.getElem?_cons_zero, Option.some.injEq] at h1 h2
      subst h1 h2
      exact ⟨R2'.out, by show (1 : Int) ≤ 4; omega⟩
    · simp at h1
  · obtain ⟨p1, p2, p3, p4⟩ := HPK.out s x hx
    exact ⟨p1.turn (Turn.of_new (S := fun _ => False) BB.out) fun _ _ _ _ e => e, p2, p3, p4⟩
  rintro e w5 ⟨g, Mo, Io, rfl, hsk, hmo, hio, hmi, h5⟩
  have s5 := h5.size
  have hP : Pp repB w5 g ⟨[m1, m2], fun i => if i = 0 then M1 else M2, fun i => if i = 0 then I1 else I2, gc, Mc, [((0, ClP.zero) : ClP.Held)], Mo, Io⟩ 0 (two steps) := by
    have k1 : ∀ q, M1 q ∨ I1 q → w.heap.size ≤ q ∧ q < w1.heap.size := fun q e => ⟨L1.out q e, X1.out q e⟩
    have k2 : ∀ q, M2 q ∨ I2 q → w1.heap.size ≤ q ∧ q < w2.heap.size := fun q e => ⟨L2.out q e, X2.out q e⟩
    have k3 : ∀ q, Mc q → w2.heap.size ≤ q ∧ q < w3.heap.size := fun q e => ⟨LC.out q e, XC.out q e⟩
    refine {
      skel := hsk
      len := rfl
      mem := fun i gi st h1 h2 => ?_
      ok := ⟨fun st hs => ?_, fun s hs => ?_⟩
      cel := cb_turn RC'.out (Turn.of_new (S := fun _ => False) h5) fun _ _ e => e
      olt := fun q e => ?_
      sep := fun q e e2 => ?_
      nd := fun i j q hi hj h1 h2 => ?_
      mc := fun q e => ⟨fun e2 => ?_, fun i hi e2 => ?_⟩
      mo := fun q e i hi e2 => ?_
      sz := ⟨by show 2 ≤ 64; omega, by show steps.length ≤ 1000; rw [← HLN.out]; exact hns, Nat.le_refl _, Nat.le_refl _, fun s hs => ?_⟩
      cmx := by show 0 ≤ _; omega }
    · replace h1 : [m1, m2][i]? = some gi := h1
      replace h2 : [made 4, made 4][i]? = some st := h2
      rcases i with _ | _ | i
      · simp only [List.getElem?_cons_zero, Option.some.injEq] at h1 h2
        subst h1 h2
        exact MbP.memB_ok.frame R1'.out (Turn.of_new (S := fun _ => False) h5) fun _ _ e => e
      · simp only [List.getElem?_cons_succ, List.getElem?_cons_zero, Option.some.injEq] at h1 h2
        subst h1 h2
        exact MbP.memB_ok.frame R2'.out (Turn.of_new (S := fun _ => False) h5) fun _ _ e => e
      · simp at h1
    · have : st = made 4 := by
        have : st ∈ [made 4, made 4] := hs
        simpa using this
      rw [this]; exact made_ok 4
    · obtain ⟨x, hx⟩ := zip_mem hsl hs
      exact (HPK.out s x hx).2.2.1
    · rcases e with e | e
      · exact (hmi q e).1
      · rcases hio q e with x | x
        · exact x.2
        · have := HSP.out q x; omega
    · have e2' : Mo q ∨ Mc q ∨ M1 q ∨ M2 q := by
        rcases e2 with e2 | e2 | ⟨i, hi, e2⟩
        · exact .inl e2
        · exact .inr (.inl e2)
        · replace e2 : (if i = 0 then M1 else M2) q := e2
          by_cases h0 : i = 0
          · rw [if_pos h0] at e2; exact .inr (.inr (.inl e2))
          · rw [if_neg h0] at e2; exact .inr (.inr (.inr e2))
      have e' : Io q ∨ I1 q ∨ I2 q := by
        rcases e with e | ⟨i, hi, e⟩
        · exact .inl e
        · replace e : (if i = 0 then I1 else I2) q := e
          by_cases h0 : i = 0
          · rw [if_pos h0] at e; exact .inr (.inl e)
          · rw [if_neg h0] at e; exact .inr (.inr e)
      rcases e' with e' | e' | e'
      · have hq : w4.heap.size ≤ q ∨ q < w.heap.size := (hio q e').imp (fun x => x.1) (HSP.out q)
        rcases e2' with x | x | x | x
        · exact (hmi q x).2 e'
        · have := k3 q x; omega
        · have := k1 q (.inl x); omega
        · have := k2 q (.inl x); omega
      · have y := k1 q (.inr e')
        rcases e2' with x | x | x | x
        · have := hmo q x; omega
        · have := k3 q x; omega
        · exact MbP.memB_ok.own R1.out q x e'
        · have := k2 q (.inl x); omega
      · have y := k2 q (.inr e')
        rcases e2' with x | x | x | x
        · have := hmo q x; omega
        · have := k3 q x; omega
        · have := k1 q (.inl x); omega
        · exact MbP.memB_ok.own R2.out q x e'
    · replace h1 : (if i = 0 then M1 else M2) q := h1
      replace h2 : (if j = 0 then M1 else M2) q := h2
      replace hi : i < 2 := hi
      replace hj : j < 2 := hj
      by_cases hi0 : i = 0
      · by_cases hj0 : j = 0
        · omega
        · rw [if_pos hi0] at h1; rw [if_neg hj0] at h2
          have := k1 q (.inl h1); have := k2 q (.inl h2); omega
      · by_cases hj0 : j = 0
        · rw [if_neg hi0] at h1; rw [if_pos hj0] at h2
          have := k2 q (.inl h1); have := k1 q (.inl h2); omega
        · omega
    · have := k3 q e; have := hmo q e2; omega
    · replace e2 : (if i = 0 then M1 else M2) q := e2
      have := k3 q e
      by_cases h0 : i = 0
      · rw [if_pos h0] at e2; have := k1 q (.inl e2); omega
      · rw [if_neg h0] at e2; have := k2 q (.inl e2); omega
    · replace e2 : (if i = 0 then M1 else M2) q := e2
      have := hmo q e
      by_cases h0 : i = 0
      · rw [if_pos h0] at e2; have := k1 q (.inl e2); omega
      · rw [if_neg h0] at e2; have := k2 q (.inl e2); omega
    · obtain ⟨x, hx⟩ := zip_mem hsl hs
      exact (HPK.out s x hx).2.1
  have hm : ∀ q, mutP ⟨[m1, m2], fun i => if i = 0 then M1 else M2, fun i => if i = 0 then I1 else I2, gc, Mc, [((0, ClP.zero) : ClP.Held)], Mo, Io⟩ q → w.heap.size ≤ q := fun q e => by
    rcases e with e | e | ⟨i, hi, e⟩
    · have := hmo q e; omega
    · have := LC.out q e; omega
    · replace e : (if i = 0 then M1 else M2) q := e
      by_cases h0 : i = 0
      · rw [if_pos h0] at e; exact L1.out q (.inl e)
      · rw [if_neg h0] at e; have := L2.out q (.inl e); omega
  have hr : ∀ q, rdP ⟨[m1, m2], fun i => if i = 0 then M1 else M2, fun i => if i = 0 then I1 else I2, gc, Mc, [((0, ClP.zero) : ClP.Held)], Mo, Io⟩ q → w.heap.size ≤ q ∨ Sp q := fun q e => by
    rcases e with e | ⟨i, hi, e⟩
    · rcases hio q e with x | x
      · left; omega
      · exact .inr x
    · left
      replace e : (if i = 0 then I1 else I2) q := e
      by_cases h0 : i = 0
      · rw [if_pos h0] at e; exact L1.out q (.inr e)
      · rw [if_neg h0] at e; have := L2.out q (.inr e); omega
  have B5 := hid (BB.out.trans (h5.mono BB.out.size))
  have HP := hid hP
  have HM := hid hm
  have HR := hid hr
  clear hP hm hr hsk hmo hio hmi h5 HST HPK HSP R1 R2 RC R1' R2' RC' L1 L2 LC X1 X2 XC B1 B2 B3 B4 HL4 BB s1 s2 s3 s4 s5
  unfold MbP.at'
  go_wp2_with fail
  refine bodyPost_ret (results_tmp3 rfl _ _ _) rfl ?_
  exact ⟨g, m1, m2, _, rfl, HP.out, rfl, HM.out, HR.out, B5.out⟩
end BuP
end Go.Proofs.YthogklchmhjjkaaGreat
set_option maxRecDepth 100000
namespace Go.Proofs.YthogklchmhjjkaaGreat
open Go.RowKit
section
variable {P : Program} {ops : Array Oper}
/-- The operations in the order of the text, the k-th first. -/
def wpD (P : Program) (ops : Array Oper) (S : Nat → Value → Prop) (C : (Nat → Bool) → (Nat → Value) → World → Prop) (Q : (Nat → Value) → Act → Prop) : Nat → (Nat → Value) → List Oper → Act → Prop
  | _, vs, [], a => Q vs a
  | k, vs, o :: rest, a => ((Region.wanted o (yielded ops a.tmps) = true ∧ ∀ d w, d k = false → (∀ p q, Region.waitsFor .any ops p q = true → d p = true → d q = true) → (∀ j, Region.waitsFor .any ops j k = true → d j = false) → (∀ j, Region.waitsFor .any ops k j = true → d j = true) → C d vs w →
      GivesE P o a w fun v w' => S k v ∧ C (upB d k) (updV vs k v) w') ∨
      (Region.wanted o (yielded ops a.tmps) = false ∧ S k undef ∧ (∀ d w, C d vs w → C (upB d k) (updV vs k undef) w))) ∧ (S k (vs k) → wpD P ops S C Q (k + 1) vs rest (a.put o.dst (vs k)))
theorem wpD_at {S : Nat → Value → Prop} {C : (Nat → Bool) → (Nat → Value) → World → Prop} {Qk : (Nat → Value) → Act → Prop} {vs : Nat → Value} (hS : ∀ j, S j (vs j)) : ∀ (l : List Oper) (k : Nat) (a : Act), wpD P ops S C Qk k vs l a →
    Qk vs (lexF l (fun i => vs (k + i)) l.length a) ∧ ∀ i o, l[i]? = some o →
      ((Region.wanted o (yielded ops (lexF l (fun i => vs (k + i)) i a).tmps) = true ∧ ∀ d w, d (k + i) = false → (∀ p q, Region.waitsFor .any ops p q = true → d p = true → d q = true) → (∀ j, Region.waitsFor .any ops j (k + i) = true → d j = false) → (∀ j, Region.waitsFor .any ops (k + i) j = true → d j = true) → C d vs w →
        GivesE P o (lexF l (fun i => vs (k + i)) i a) w fun v w' => S (k + i) v ∧ C (upB d (k + i)) (updV vs (k + i) v) w') ∨
      (Region.wanted o (yielded ops (lexF l (fun i => vs (k + i)) i a).tmps) = false ∧ S (k + i) undef ∧ (∀ d w, C d vs w → C (upB d (k + i)) (updV vs (k + i) undef) w)))
  | [], k, a, h => ⟨h, fun i o hi => by simp at hi⟩
  | o :: l, k, a, h => by
    obtain ⟨h1, h2⟩ := h
    obtain ⟨hq, hs⟩ := wpD_at hS l (k + 1) _ (h2 (hS k))
    have e : (fun i => vs (k + 1 + i)) = fun i => vs (k + (i + 1)) := funext fun i => by rw [show k + 1 + i = k + (i + 1) by omega]
    rw [e] at hq hs
    refine ⟨?_, fun i o' hi => ?_⟩
    · rw [List.length_cons, lexF_cons]; exact hq
    · cases i with
      | zero =>
        simp only [List.getElem?_cons_zero, Option.some.injEq] at hi
        subst hi
        exact h1
      | succ i =>
        rw [lexF_cons, show k + (i + 1) = k + 1 + i by omega]
        exact hs i o' (by simpa using hi)
theorem wp_region_d {id : Nat} {Q : Exit → Act → World → Prop} {C : (Nat → Bool) → (Nat → Value) → World → Prop} {S : Nat → Value → Prop} {a : Act} {w : World} {l : List Oper} (n : Nat)
    (hm : P.follows .mixedOrders = true) (ht : tidy l.toArray = true) (hB : tailB l.toArray n = true)
    (v0 : Nat → Value) (h0 : ∀ j, S j (v0 j)) (hC : C (fun _ => false) v0 w.drew)
    (h : ∀ vs : Nat → Value, wpD P l.toArray S C (fun vs a' => ∀ d w', (∀ k, k < n → d k = true) → C d vs w' → wpList P l.toArray Q (l.drop n) a' w') 0 vs (l.take n) a) : (Code.region id l.toArray true).wp P Q a w := by
  refine region_coreE (Γ := {vs : Nat → Value // ∀ j, S j (vs j)}) (C := fun γ L w' => C (fun j => L.getD j false) γ.1 w' ∧ Closed l.toArray L) n hm ht hB ⟨v0, h0⟩
    ⟨by rw [show (fun j => (Array.replicate l.length false).getD j false) = fun _ => false from funext fun j => getD_replicate_false _ j]; exact hC, (fun j o _ hl => by rw [getD_replicate_false] at hl; cases hl)⟩ (fun γ => γ.1) ?_ ?_
  · intro i o hi γ L w' hsz hr ⟨hC', hcl⟩
    have hun := getD_both (mem_ready.1 hr).1
    have hlt : i < L.size := by
      obtain ⟨o', ho', _⟩ := (mem_ready.1 hr).2
      have := (Array.getElem?_eq_some_iff.1 ho').1
      simp at this; omega
    have hup : (fun j => (L.setIfInBounds i true).getD j false) = upB (fun j => L.getD j false) i := funext fun j => by
      unfold upB
      by_cases e : j = i
      · subst e; rw [if_pos rfl]; simp [hlt]
      · rw [if_neg e, getD_set_ne false (Ne.symm e)]
    have hcl2 := closed_set hcl hr
    have key := (wpD_at γ.2 (l.take n) 0 a (h γ.1)).2 i o hi
    simp only [Nat.zero_add] at key
    have hwait : ∀ j, Region.waitsFor .any l.toArray i j = true → L.getD j false = true := fun j hj => waits_ready hr hj
    have hnext : ∀ j, Region.waitsFor .any l.toArray j i = true → L.getD j false = false := fun j hj => by
      cases hx : L.getD j false with
      | false => rfl
      | true =>
        have := waits_closed hcl hx hj
        rw [hun] at this
        cases this
    have upd : ∀ v, S i v → ∀ j, S j (updV γ.1 i v j) := fun v hv j => by
      by_cases e : j = i
      · subst e; rw [updV_self]; exact hv
      · rw [updV_ne _ _ e]; exact γ.2 j
    have keep : ∀ v j, L.getD j false = true → γ.1 j = updV γ.1 i v j := fun v j hj => by
      have : j ≠ i := fun e => by subst e; rw [hun] at hj; cases hj
      rw [updV_ne _ _ this]
    rcases key with ⟨k1, k2⟩ | ⟨k1, k2, k3⟩
    · refine .inl ⟨k1, givesE_mono (k2 _ w' hun (fun p q hpq hp => waits_closed hcl hp hpq) hnext hwait hC') fun v w2 ⟨h1, h2⟩ => ⟨⟨updV γ.1 i v, upd v h1⟩, keep v, updV_self _ _ _, ?_, hcl2⟩⟩
      rw [hup]; exact h2
    · refine .inr ⟨k1, ⟨updV γ.1 i undef, upd undef k2⟩, keep undef, updV_self _ _ _, ?_, hcl2⟩
      rw [hup]; exact k3 _ _ hC'
  · intro γ L w' hall ⟨hC', _⟩
    have key := (wpD_at γ.2 (l.take n) 0 a (h γ.1)).1
    have ez : (fun i => γ.1 (0 + i)) = γ.1 := funext fun i => by rw [Nat.zero_add]
    rw [ez] at key
    exact key _ w' hall hC'
end
end Go.Proofs.YthogklchmhjjkaaGreat
set_option maxRecDepth 100000
namespace Go.Proofs.YthogklchmhjjkaaGreat
namespace BuP
open BuM MbM
def f1 : Nat → Nat := fun _ => 1
def aw0 : Bs := two [gs1, gs2]
def aw1 : Bs := BuM.rdT aw0 0 2
def aw2 : Bs := BuM.rdT aw1 0 2
def aw3 : Bs := BuM.wrT aw2 1 0 f1
def aw4 : Bs := BuM.wrT aw3 1 1 f1
theorem aw_r1 : (BuM.rdB (BuM.ahead aw0) 0 2).s = (fun _ => 0) ∧ (BuM.rdB (BuM.ahead aw0) 0 2).e = 0 := ⟨rfl, rfl⟩
theorem aw_r2 : (BuM.rdB (BuM.ahead aw1) 0 2).s = f1 ∧ (BuM.rdB (BuM.ahead aw1) 0 2).e = 0 := ⟨rfl, rfl⟩
end BuP
end Go.Proofs.YthogklchmhjjkaaGreat
set_option maxRecDepth 100000
namespace Go.Proofs.YthogklchmhjjkaaGreat
open Go.ChangeShapes Go.WideShapes Go.ChangeAt Go.RowKit
attribute [local go_sem] Gives GivesE
namespace BuP
open BuM MbM MbP
section
variable {a : Act} {w : World} {dst : Option Tmp} {ty T : TypeId} {r : TypeId} {pos : String} {after : Array Edge} {gd : Option (Nat × Bool)} {R : Value → World → Prop} {x y : Operand} {v : Value} {f : Nat → Nat}
theorem gE_bld0 (hb : ∀ w, (Instr.build T #[]).run Tryz.prog w = .ok v w) (hR : R v w) : GivesE Tryz.prog ⟨dst, .build T #[], ty, pos, after, gd⟩ a w R := by
  unfold GivesE execOp
  simp [hb, Result.andThen]
  exact hR
theorem gE_eqSe (hx : a.eval x = .agg (ar 64 f)) (hy : a.eval y = .agg (ar 64 f)) (hR : R (.bool true) w) : GivesE Tryz.prog ⟨dst, .binOp .eql 43 x y r, ty, pos, after, gd⟩ a w R := by
  have h1 : (eqGuard .eql 43 x y (.agg (ar 64 f)) (.agg (ar 64 f))).run Tryz.prog w = .ok () w := by
    simp [eqGuard, gSe', go_sem]
  have h2 : (binOp .eql 43 (.agg (ar 64 f)) (.agg (ar 64 f))).run Tryz.prog w = .ok (.bool (eqA 64 f f)) w := run_eql_ar uSe' _ _ _
  rw [eqA_yes fun _ _ => rfl] at h2
  unfold GivesE
  simp only [execOp, hx, hy, Sem.run_bind, h1, h2, Result.andThen_ok, Sem.run_pure]
  exact hR
theorem run_se0 (w : World) : (Instr.build 43 #[]).run Tryz.prog w = .ok (.agg (ar 64 fun _ => 0)) w := run_build w _ _ _ (by kernel_rfl)
end
/-- A bus of two members in the midst of awake, and the two sectors that were read. -/
structure AwS (repB : RepB) (B : Nat) (W : World) (g m1 m2 gX gY k : Nat) (b : Bs) (w' : World) : Prop where
  pp : ∃ F', Pp repB w' g F' k b ∧ F'.gs = [m1, m2] ∧ ∀ q, mutP F' q → B ≤ q ∧ q ≠ gX ∧ q ≠ gY
  bel : Below B W w'
  base : B ≤ w'.heap.size
  x : Blk w' gX 43 (ar 64 fun _ => 0)
  y : Blk w' gY 43 (ar 64 f1)
def stB (a c : Bool) : Bs := if c then aw4 else if a then aw3 else aw2
def stK (a c : Bool) : Nat := if c then 16 else if a then 12 else 8
section
variable {repB : RepB} {B : Nat} {W w' w2 : World} {g m1 m2 gX gY k k2 : Nat} {b b2 : Bs}
theorem AwS.on (hC : BusC repB) (H : AwS repB B W g m1 m2 gX gY k b w') (hb : Below w'.heap.size w' w2) : AwS repB B W g m1 m2 gX gY k b w2 := by
  obtain ⟨F', h1, h2, h3⟩ := H.pp
  exact ⟨⟨F', h1.below hC hb, h2, h3⟩, H.bel.trans (hb.mono H.base), Nat.le_trans H.base hb.size, H.x.below hb H.x.lt, H.y.below hb H.y.lt⟩
theorem AwS.io {F' : Fq} (H : AwS repB B W g m1 m2 gX gY k b w') (h2 : F'.gs = [m1, m2]) (h3 : ∀ q, mutP F' q → B ≤ q ∧ q ≠ gX ∧ q ≠ gY) (ho : outQ repB w' g F' k2 b2 w2) : AwS repB B W g m1 m2 gX gY k2 b2 w2 := by
  obtain ⟨F2, p, e1, e2, mm, ii, t⟩ := ho
  refine ⟨⟨F2, p, e1.trans h2, fun q e => ?_⟩, H.bel.trans (t.below H.base fun q e => (h3 q e).1), Nat.le_trans H.base t.size, H.x.turn t fun e => (h3 gX e).2.1 rfl, H.y.turn t fun e => (h3 gY e).2.2 rfl⟩
  rcases mm q e with x | x
  · exact h3 q x
  · have := H.x.lt; have := H.y.lt; have := H.base
    exact ⟨by omega, by omega, by omega⟩
theorem AwS.touched (H : AwS repB B W g m1 m2 gX gY k b w') (hb : (b.ms[0]?.map (·.hurt)) = some true) : Calls Tryz.prog 15 #[MbP.at' m1] w' fun e w2 => e = .returned (.bool true) ∧ Below w'.heap.size w' w2 := by
  obtain ⟨F', h1, h2, h3⟩ := H.pp
  cases h : b.ms[0]? with
  | none => rw [h] at hb; cases hb
  | some st =>
    rw [h] at hb
    have hh : st.hurt = true := by simpa using hb
    have := MbP.memB_ok.touched (h1.mem 0 m1 st (by rw [h2]; rfl) h)
    rw [hh] at this
    exact this
end
set_option maxHeartbeats 4000000 in
set_option maxRecDepth 100000 in
theorem awake_any {repB : RepB} (hC : BusC repB) (w : World) : Calls Tryz.prog 5 #[] w fun e w' => e = .returned (.bool true) ∧ Below w.heap.size w w' := by
  have hC0 := hid hC
  go_enter Tryz.func5, Tryz.ntmps5
  go_wp2_with fail
  refine (given_any w).mono ?_
  rintro e w1 ⟨gS, gB, rfl, hs, hp, hgB, hne, h1⟩
  have HS := hid hs
  have HP := hid hp
  have B1 := hid h1
  clear hs hp h1
  go_wp2_with fail
  refine (two_any hC (steps := [gs1, gs2]) (sl := [⟨none, 0⟩, ⟨some ⟨gB, 0, none⟩, 2⟩]) (Sp := fun q => q = gB) HS.out rfl (by omega) (fun s x hx => ?_) (fun q e => ?_)).mono ?_
  · have hx' : (s, x) = (gs1, (⟨none, 0⟩ : SlB)) ∨ (s, x) = (gs2, (⟨some ⟨gB, 0, none⟩, 2⟩ : SlB)) := by simpa using hx
    rcases hx' with hx' | hx'
    · cases hx'
      exact ⟨⟨rfl, Nat.le_refl _, Nat.zero_le _, (fun x hx => by cases hx), fun _ => ⟨rfl, rfl⟩, Byt.none rfl⟩, by show 0 ≤ _; omega, ⟨fun _ => by show 1 < 256; omega, fun p hp => by cases hp⟩, fun q o h0 _ => by cases h0⟩
    · cases hx'
      exact ⟨HP.out, by show 2 ≤ _; omega, ⟨fun _ => by show 0 < 256; omega, fun p hp => (by have h9 : p = 0 ∨ p = 1 := (by simpa [gs2] using hp); omega)⟩, fun q o _ e => by cases e; rfl⟩
  · obtain ⟨b, o, e', hl, _⟩ := HP.out.byt (by show 0 < 2; omega)
    cases e'
    rw [e]; exact hl
  rintro e w2 ⟨g, m1, m2, F, rfl, hP, hgs, hm, _, h2⟩
  have PP := hid hP
  have HM := hid hm
  have B2 := hid (B1.out.trans (h2.mono B1.out.size))
  have s1 := B1.out.size
  clear hP hm h2 HS HP
  unfold MbP.at'
  go_wp2_with fail
  refine (hC.read (b := aw0) PP.out (by show 0 + 2 + 2 ≤ _; omega) 0 2).mono ?_
  rintro e w3 ⟨rfl, ho⟩
  rw [aw_r1.1, aw_r1.2]
  obtain ⟨F3, p3, g3, c3, mm3, ii3, t3⟩ := ho
  have P3 := hid (show Pp repB w3 g F3 4 aw1 from p3)
  have M3 := hid (show ∀ q, mutP F3 q → w.heap.size ≤ q from fun q e => (mm3 q e).elim (fun x => by have := HM.out q x; omega) fun x => by have := B2.out.size; omega)
  have B3 := hid (B2.out.trans (t3.below B2.out.size fun q e => by have := HM.out q e; omega))
  have G3 := hid (show F3.gs = [m1, m2] from g3.trans hgs)
  clear p3 g3 c3 mm3 ii3 t3 PP HM hgs
  go_upto_region 5 with (first | (with_reducible apply alA tSe) | ((with_reducible apply stA tSe); rfl; rfl; exact Blk.new _ _ _))
  generalize hw4 : World.setRow _ _ _ = w4
  have b4 : Below w3.heap.size w3 w4 := by rw [← hw4]; exact below_setRow ((Below.refl _ _).alloc (Nat.le_refl _) _) (Nat.le_refl _) _
  have X4 := hid (show Blk w4 w3.heap.size 43 (ar 64 fun _ => 0) by rw [← hw4]; exact (Blk.new w3 _ _).setRow_same _)
  obtain ⟨gX, hgX⟩ : ∃ n, n = w3.heap.size := ⟨_, rfl⟩
  have N3 := hid (show ∀ q, mutP F3 q → q ≠ gX from fun q e => by have := P3.out.mlt q e; omega)
  rw [← hgX] at X4 ⊢
  have P4 := hid (P3.out.below hC b4)
  have B4 := hid (B3.out.trans (b4.mono B3.out.size))
  clear hw4 b4 hgX P3 B3
  go_wp2_with fail
  refine (hC.read (b := aw1) P4.out (by show 4 + 2 + 2 ≤ _; omega) 0 2).mono ?_
  rintro e w5 ⟨rfl, ho⟩
  rw [aw_r2.1, aw_r2.2]
  obtain ⟨F5, p5, g5, c5, mm5, ii5, t5⟩ := ho
  have P5 := hid (show Pp repB w5 g F5 8 aw2 from p5)
  have X5 := hid (X4.out.turn t5 fun e => N3.out gX e rfl)
  have M5 := hid (show ∀ q, mutP F5 q → w.heap.size ≤ q ∧ q ≠ gX from fun q e => (mm5 q e).elim (fun x => ⟨M3.out q x, N3.out q x⟩) fun x => by have := B4.out.size; have := X4.out.lt; exact ⟨by omega, by omega⟩)
  have B5 := hid (B4.out.trans (t5.below B4.out.size fun q e => M3.out q e))
  have G5 := hid (show F5.gs = [m1, m2] from g5.trans G3.out)
  clear p5 g5 c5 mm5 ii5 t5 P4 X4 M3 N3 G3 B4
  go_upto_region 6 with (first | (with_reducible apply alA tSe) | ((with_reducible apply stA tSe); rfl; rfl; exact Blk.new _ _ _))
  generalize hw6 : World.setRow _ _ _ = w6
  have b6 : Below w5.heap.size w5 w6 := by rw [← hw6]; exact below_setRow ((Below.refl _ _).alloc (Nat.le_refl _) _) (Nat.le_refl _) _
  have y6 : Blk w6 w5.heap.size 43 (ar 64 f1) := by rw [← hw6]; exact (Blk.new w5 _ _).setRow_same _
  obtain ⟨gY, hgY⟩ : ∃ n, n = w5.heap.size := ⟨_, rfl⟩
  have N5 : ∀ q, mutP F5 q → q ≠ gY := fun q e => by have := P5.out.mlt q e; omega
  rw [← hgY] at y6 ⊢
  have SS : AwS repB w.heap.size w g m1 m2 gX gY (stK false false) (stB false false) w6.drew := by
    have h0 : AwS repB w.heap.size w g m1 m2 gX gY 8 aw2 w6 := ⟨⟨F5, P5.out.below hC b6, G5.out, fun q e => ⟨(M5.out q e).1, (M5.out q e).2, N5 q e⟩⟩, B5.out.trans (b6.mono B5.out.size), Nat.le_trans B5.out.size b6.size, X5.out.below b6 X5.out.lt, y6⟩
    exact h0.on hC (Below.refl _ _).drew
  clear hw6 b6 y6 hgY N5 P5 X5 M5 B5 G5
  rw [show f1 = (fun _ => 1 : Nat → Nat) from rfl]
  refine wp_region_d (S := yS [some (.agg (ar 64 fun _ => 0)), some (.agg (ar 64 fun _ => 0)), some (.bool true), some (.bool true), some (.int .i64 0), some (.bool true), some (.bool true), some (.bool true), some (.agg (ar 64 fun _ => 1)), some (.agg (ar 64 fun _ => 1)), some (.bool true), some (.bool true), some (.bool true), some (.int .i64 0), some (.bool true), some (.bool true), some (.bool true), some (.pointer (some ⟨m1, 0, none⟩)), some (.bool true), some (.bool true), some (.bool true), some (.pointer (some ⟨g, 0, none⟩)), some (.agg (ar 64 fun _ => 1)), some (.int .i64 0), some (.bool true), some (.bool true), some (.bool true), some (.pointer (some ⟨g, 0, none⟩)), some (.agg (ar 64 fun _ => 1)), some (.int .i64 13), some (.bool true), some (.bool true), some (.bool true), some (.pointer (some ⟨g, 0, none⟩)), some (.bool true), some (.bool true), some (.bool true), some (.pointer (some ⟨g, 0, none⟩)), some (.int .i64 4), some (.bool true), some (.bool true)] []) (C := fun d vs w' => AwS repB w.heap.size w g m1 m2 gX gY (stK (d 23) (d 29)) (stB (d 23) (d 29)) w') 41 (by kernel_rfl) (by kernel_rfl) (by kernel_rfl) _
    (yS_ok _ fun y hy => by cases hy) SS fun vs => ?_
  clear SS
  simp only [List.take_succ_cons, List.take_zero, List.drop_succ_cons, List.drop_zero]
  refine ⟨.inl ⟨rfl, fun dd w' hd hcl hnx hw hC => ?_⟩, fun e => ?_⟩
  · exact gE_ldA tSe rfl hC.x.head ⟨rfl, hC⟩
  have e' : vs 0 = _ := e
  rw [e']
  clear e e'
  simp only [Act.put, List.setIfInBounds_toArray, List.set_cons_succ, List.set_cons_zero]
  refine ⟨.inl ⟨rfl, fun dd w' hd hcl hnx hw hC => ?_⟩, fun e => ?_⟩
  · exact gE_bld0 run_se0 ⟨rfl, hC⟩
  have e' : vs 1 = _ := e
  rw [e']
  clear e e'
  simp only [Act.put, List.setIfInBounds_toArray, List.set_cons_succ, List.set_cons_zero]
  refine ⟨.inl ⟨rfl, fun dd w' hd hcl hnx hw hC => ?_⟩, fun e => ?_⟩
  · exact gE_eqSe rfl rfl ⟨rfl, hC⟩
  have e' : vs 2 = _ := e
  rw [e']
  clear e e'
  simp only [Act.put, List.setIfInBounds_toArray, List.set_cons_succ, List.set_cons_zero]
  refine ⟨.inl ⟨rfl, fun dd w' hd hcl hnx hw hC => ?_⟩, fun e => ?_⟩
  · go_simp
    first | exact ⟨rfl, hC⟩ | exact hC
  have e' : vs 3 = _ := e
  rw [e']
  clear e e'
  simp only [Act.put, List.setIfInBounds_toArray, List.set_cons_succ, List.set_cons_zero]
  refine ⟨.inl ⟨rfl, fun dd w' hd hcl hnx hw hC => ?_⟩, fun e => ?_⟩
  · go_simp
    first | exact ⟨rfl, hC⟩ | exact hC
  have e' : vs 4 = _ := e
  rw [e']
  clear e e'
  simp only [Act.put, List.setIfInBounds_toArray, List.set_cons_succ, List.set_cons_zero]
  refine ⟨.inl ⟨rfl, fun dd w' hd hcl hnx hw hC => ?_⟩, fun e => ?_⟩
  · go_simp
    first | exact ⟨rfl, hC⟩ | exact hC
  have e' : vs 5 = _ := e
  rw [e']
  clear e e'
  simp only [Act.put, List.setIfInBounds_toArray, List.set_cons_succ, List.set_cons_zero]
  refine ⟨.inl ⟨rfl, fun dd w' hd hcl hnx hw hC => ?_⟩, fun e => ?_⟩
  · go_simp
    first | exact ⟨rfl, hC⟩ | exact hC
  have e' : vs 6 = _ := e
  rw [e']
  clear e e'
  simp only [Act.put, List.setIfInBounds_toArray, List.set_cons_succ, List.set_cons_zero]
  refine ⟨.inl ⟨rfl, fun dd w' hd hcl hnx hw hC => ?_⟩, fun e => ?_⟩
  · go_simp
    first | exact ⟨rfl, hC⟩ | exact hC
  have e' : vs 7 = _ := e
  rw [e']
  clear e e'
  simp only [Act.put, List.setIfInBounds_toArray, List.set_cons_succ, List.set_cons_zero]
  refine ⟨.inl ⟨rfl, fun dd w' hd hcl hnx hw hC => ?_⟩, fun e => ?_⟩
  · exact gE_ldA tSe rfl hC.y.head ⟨rfl, hC⟩
  have e' : vs 8 = _ := e
  rw [e']
  clear e e'
  simp only [Act.put, List.setIfInBounds_toArray, List.set_cons_succ, List.set_cons_zero]
  refine ⟨.inl ⟨rfl, fun dd w' hd hcl hnx hw hC => ?_⟩, fun e => ?_⟩
  · go_simp
    refine (full13_any 1 w').mono ?_
    rintro e w2 ⟨rfl, h⟩
    exact ⟨_, rfl, rfl, hC.on hC0.out h⟩
  have e' : vs 9 = _ := e
  rw [e']
  clear e e'
  simp only [Act.put, List.setIfInBounds_toArray, List.set_cons_succ, List.set_cons_zero]
  refine ⟨.inl ⟨rfl, fun dd w' hd hcl hnx hw hC => ?_⟩, fun e => ?_⟩
  · exact gE_eqSe rfl rfl ⟨rfl, hC⟩
  have e' : vs 10 = _ := e
  rw [e']
  clear e e'
  simp only [Act.put, List.setIfInBounds_toArray, List.set_cons_succ, List.set_cons_zero]
  refine ⟨.inl ⟨rfl, fun dd w' hd hcl hnx hw hC => ?_⟩, fun e => ?_⟩
  · go_simp
    first | exact ⟨rfl, hC⟩ | exact hC
  have e' : vs 11 = _ := e
  rw [e']
  clear e e'
  simp only [Act.put, List.setIfInBounds_toArray, List.set_cons_succ, List.set_cons_zero]
  refine ⟨.inl ⟨rfl, fun dd w' hd hcl hnx hw hC => ?_⟩, fun e => ?_⟩
  · go_simp
    first | exact ⟨rfl, hC⟩ | exact hC
  have e' : vs 12 = _ := e
  rw [e']
  clear e e'
  simp only [Act.put, List.setIfInBounds_toArray, List.set_cons_succ, List.set_cons_zero]
  refine ⟨.inl ⟨rfl, fun dd w' hd hcl hnx hw hC => ?_⟩, fun e => ?_⟩
  · go_simp
    first | exact ⟨rfl, hC⟩ | exact hC
  have e' : vs 13 = _ := e
  rw [e']
  clear e e'
  simp only [Act.put, List.setIfInBounds_toArray, List.set_cons_succ, List.set_cons_zero]
  refine ⟨.inl ⟨rfl, fun dd w' hd hcl hnx hw hC => ?_⟩, fun e => ?_⟩
  · go_simp
    first | exact ⟨rfl, hC⟩ | exact hC
  have e' : vs 14 = _ := e
  rw [e']
  clear e e'
  simp only [Act.put, List.setIfInBounds_toArray, List.set_cons_succ, List.set_cons_zero]
  refine ⟨.inl ⟨rfl, fun dd w' hd hcl hnx hw hC => ?_⟩, fun e => ?_⟩
  · go_simp
    first | exact ⟨rfl, hC⟩ | exact hC
  have e' : vs 15 = _ := e
  rw [e']
  clear e e'
  simp only [Act.put, List.setIfInBounds_toArray, List.set_cons_succ, List.set_cons_zero]
  refine ⟨.inl ⟨rfl, fun dd w' hd hcl hnx hw hC => ?_⟩, fun e => ?_⟩
  · go_simp
    first | exact ⟨rfl, hC⟩ | exact hC
  have e' : vs 16 = _ := e
  rw [e']
  clear e e'
  simp only [Act.put, List.setIfInBounds_toArray, List.set_cons_succ, List.set_cons_zero]
  refine ⟨.inl ⟨rfl, fun dd w' hd hcl hnx hw hC => ?_⟩, fun e => ?_⟩
  · go_simp
    first | exact ⟨rfl, hC⟩ | exact hC
  have e' : vs 17 = _ := e
  rw [e']
  clear e e'
  simp only [Act.put, List.setIfInBounds_toArray, List.set_cons_succ, List.set_cons_zero]
  refine ⟨.inl ⟨rfl, fun dd w' hd hcl hnx hw hC => ?_⟩, fun e => ?_⟩
  · go_simp
    refine (AwS.touched hC (by cases dd 23 <;> cases dd 29 <;> rfl)).mono ?_
    rintro e w2 ⟨rfl, h⟩
    exact ⟨_, rfl, rfl, hC.on hC0.out h⟩
  have e' : vs 18 = _ := e
  rw [e']
  clear e e'
  simp only [Act.put, List.setIfInBounds_toArray, List.set_cons_succ, List.set_cons_zero]
  refine ⟨.inl ⟨rfl, fun dd w' hd hcl hnx hw hC => ?_⟩, fun e => ?_⟩
  · go_simp
    first | exact ⟨rfl, hC⟩ | exact hC
  have e' : vs 19 = _ := e
  rw [e']
  clear e e'
  simp only [Act.put, List.setIfInBounds_toArray, List.set_cons_succ, List.set_cons_zero]
  refine ⟨.inl ⟨rfl, fun dd w' hd hcl hnx hw hC => ?_⟩, fun e => ?_⟩
  · go_simp
    first | exact ⟨rfl, hC⟩ | exact hC
  have e' : vs 20 = _ := e
  rw [e']
  clear e e'
  simp only [Act.put, List.setIfInBounds_toArray, List.set_cons_succ, List.set_cons_zero]
  refine ⟨.inl ⟨rfl, fun dd w' hd hcl hnx hw hC => ?_⟩, fun e => ?_⟩
  · go_simp
    first | exact ⟨rfl, hC⟩ | exact hC
  have e' : vs 21 = _ := e
  rw [e']
  clear e e'
  simp only [Act.put, List.setIfInBounds_toArray, List.set_cons_succ, List.set_cons_zero]
  refine ⟨.inl ⟨rfl, fun dd w' hd hcl hnx hw hC => ?_⟩, fun e => ?_⟩
  · go_simp
    refine (full13_any 1 w').mono ?_
    rintro e w2 ⟨rfl, h⟩
    exact ⟨_, rfl, rfl, hC.on hC0.out h⟩
  have e' : vs 22 = _ := e
  rw [e']
  clear e e'
  simp only [Act.put, List.setIfInBounds_toArray, List.set_cons_succ, List.set_cons_zero]
  refine ⟨.inl ⟨rfl, fun dd w' hd hcl hnx hw hC => ?_⟩, fun e => ?_⟩
  · have h29' : dd 29 = false := by
      cases h29 : dd 29 with
      | false => rfl
      | true =>
        have h26 : dd 26 = true := hcl 29 26 (by kernel_rfl) h29
        have h25 : dd 25 = true := hcl 26 25 (by kernel_rfl) h26
        have h24 : dd 24 = true := hcl 25 24 (by kernel_rfl) h25
        have h23 : dd 23 = true := hcl 24 23 (by kernel_rfl) h24
        rw [show dd 23 = false from hd] at h23; cases h23
    have hc : AwS repB w.heap.size w g m1 m2 gX gY (stK (dd 23) (dd 29)) (stB (dd 23) (dd 29)) w' := hC
    rw [show dd 23 = false from hd, h29'] at hc
    obtain ⟨F', p1, p2, p3⟩ := hc.pp
    go_simp
    refine (hC0.out.write (b := aw2) p1 (by show 8 + 2 + 2 ≤ _; omega) 1 0 f1 (fun _ => by show 1 < 256; omega)).mono ?_
    rintro e w2 ⟨rfl, ho⟩
    have hq := hc.io (k2 := 12) (b2 := aw3) p2 p3 ho
    refine ⟨_, rfl, rfl, ?_⟩
    show AwS repB w.heap.size w g m1 m2 gX gY (stK true (dd 29)) (stB true (dd 29)) w2
    rw [h29']; exact hq
  have e' : vs 23 = _ := e
  rw [e']
  clear e e'
  simp only [Act.put, List.setIfInBounds_toArray, List.set_cons_succ, List.set_cons_zero]
  refine ⟨.inl ⟨rfl, fun dd w' hd hcl hnx hw hC => ?_⟩, fun e => ?_⟩
  · go_simp
    first | exact ⟨rfl, hC⟩ | exact hC
  have e' : vs 24 = _ := e
  rw [e']
  clear e e'
  simp only [Act.put, List.setIfInBounds_toArray, List.set_cons_succ, List.set_cons_zero]
  refine ⟨.inl ⟨rfl, fun dd w' hd hcl hnx hw hC => ?_⟩, fun e => ?_⟩
  · go_simp
    first | exact ⟨rfl, hC⟩ | exact hC
  have e' : vs 25 = _ := e
  rw [e']
  clear e e'
  simp only [Act.put, List.setIfInBounds_toArray, List.set_cons_succ, List.set_cons_zero]
  refine ⟨.inl ⟨rfl, fun dd w' hd hcl hnx hw hC => ?_⟩, fun e => ?_⟩
  · go_simp
    first | exact ⟨rfl, hC⟩ | exact hC
  have e' : vs 26 = _ := e
  rw [e']
  clear e e'
  simp only [Act.put, List.setIfInBounds_toArray, List.set_cons_succ, List.set_cons_zero]
  refine ⟨.inl ⟨rfl, fun dd w' hd hcl hnx hw hC => ?_⟩, fun e => ?_⟩
  · go_simp
    first | exact ⟨rfl, hC⟩ | exact hC
  have e' : vs 27 = _ := e
  rw [e']
  clear e e'
  simp only [Act.put, List.setIfInBounds_toArray, List.set_cons_succ, List.set_cons_zero]
  refine ⟨.inl ⟨rfl, fun dd w' hd hcl hnx hw hC => ?_⟩, fun e => ?_⟩
  · go_simp
    refine (full13_any 1 w').mono ?_
    rintro e w2 ⟨rfl, h⟩
    exact ⟨_, rfl, rfl, hC.on hC0.out h⟩
  have e' : vs 28 = _ := e
  rw [e']
  clear e e'
  simp only [Act.put, List.setIfInBounds_toArray, List.set_cons_succ, List.set_cons_zero]
  refine ⟨.inl ⟨rfl, fun dd w' hd hcl hnx hw hC => ?_⟩, fun e => ?_⟩
  · have h26 : dd 26 = true := hw 26 (by kernel_rfl)
    have h25 : dd 25 = true := hcl 26 25 (by kernel_rfl) h26
    have h24 : dd 24 = true := hcl 25 24 (by kernel_rfl) h25
    have h23 : dd 23 = true := hcl 24 23 (by kernel_rfl) h24
    have hc : AwS repB w.heap.size w g m1 m2 gX gY (stK (dd 23) (dd 29)) (stB (dd 23) (dd 29)) w' := hC
    rw [show dd 29 = false from hd, h23] at hc
    obtain ⟨F', p1, p2, p3⟩ := hc.pp
    go_simp
    refine (hC0.out.write (b := aw3) p1 (by show 12 + 2 + 2 ≤ _; omega) 1 1 f1 (fun _ => by show 1 < 256; omega)).mono ?_
    rintro e w2 ⟨rfl, ho⟩
    have hq := hc.io (k2 := 16) (b2 := aw4) p2 p3 ho
    refine ⟨_, rfl, rfl, ?_⟩
    exact hq
  have e' : vs 29 = _ := e
  rw [e']
  clear e e'
  simp only [Act.put, List.setIfInBounds_toArray, List.set_cons_succ, List.set_cons_zero]
  refine ⟨.inl ⟨rfl, fun dd w' hd hcl hnx hw hC => ?_⟩, fun e => ?_⟩
  · go_simp
    first | exact ⟨rfl, hC⟩ | exact hC
  have e' : vs 30 = _ := e
  rw [e']
  clear e e'
  simp only [Act.put, List.setIfInBounds_toArray, List.set_cons_succ, List.set_cons_zero]
  refine ⟨.inl ⟨rfl, fun dd w' hd hcl hnx hw hC => ?_⟩, fun e => ?_⟩
  · go_simp
    first | exact ⟨rfl, hC⟩ | exact hC
  have e' : vs 31 = _ := e
  rw [e']
  clear e e'
  simp only [Act.put, List.setIfInBounds_toArray, List.set_cons_succ, List.set_cons_zero]
  refine ⟨.inl ⟨rfl, fun dd w' hd hcl hnx hw hC => ?_⟩, fun e => ?_⟩
  · go_simp
    first | exact ⟨rfl, hC⟩ | exact hC
  have e' : vs 32 = _ := e
  rw [e']
  clear e e'
  simp only [Act.put, List.setIfInBounds_toArray, List.set_cons_succ, List.set_cons_zero]
  refine ⟨.inl ⟨rfl, fun dd w' hd hcl hnx hw hC => ?_⟩, fun e => ?_⟩
  · go_simp
    first | exact ⟨rfl, hC⟩ | exact hC
  have e' : vs 33 = _ := e
  rw [e']
  clear e e'
  simp only [Act.put, List.setIfInBounds_toArray, List.set_cons_succ, List.set_cons_zero]
  refine ⟨.inl ⟨rfl, fun dd w' hd hcl hnx hw hC => ?_⟩, fun e => ?_⟩
  · have h32 : dd 32 = true := hw 32 (by kernel_rfl)
    have h31 : dd 31 = true := hcl 32 31 (by kernel_rfl) h32
    have h30 : dd 30 = true := hcl 31 30 (by kernel_rfl) h31
    have h29 : dd 29 = true := hcl 30 29 (by kernel_rfl) h30
    have hc : AwS repB w.heap.size w g m1 m2 gX gY (stK (dd 23) (dd 29)) (stB (dd 23) (dd 29)) w' := hC
    rw [h29] at hc
    obtain ⟨F', p1, p2, p3⟩ := hc.pp
    go_simp
    refine (hC0.out.off (b := aw4) p1).mono ?_
    rintro e w2 ⟨rfl, h⟩
    exact ⟨_, rfl, rfl, hC.on hC0.out h⟩
  have e' : vs 34 = _ := e
  rw [e']
  clear e e'
  simp only [Act.put, List.setIfInBounds_toArray, List.set_cons_succ, List.set_cons_zero]
  refine ⟨.inl ⟨rfl, fun dd w' hd hcl hnx hw hC => ?_⟩, fun e => ?_⟩
  · go_simp
    first | exact ⟨rfl, hC⟩ | exact hC
  have e' : vs 35 = _ := e
  rw [e']
  clear e e'
  simp only [Act.put, List.setIfInBounds_toArray, List.set_cons_succ, List.set_cons_zero]
  refine ⟨.inl ⟨rfl, fun dd w' hd hcl hnx hw hC => ?_⟩, fun e => ?_⟩
  · go_simp
    first | exact ⟨rfl, hC⟩ | exact hC
  have e' : vs 36 = _ := e
  rw [e']
  clear e e'
  simp only [Act.put, List.setIfInBounds_toArray, List.set_cons_succ, List.set_cons_zero]
  refine ⟨.inl ⟨rfl, fun dd w' hd hcl hnx hw hC => ?_⟩, fun e => ?_⟩
  · go_simp
    first | exact ⟨rfl, hC⟩ | exact hC
  have e' : vs 37 = _ := e
  rw [e']
  clear e e'
  simp only [Act.put, List.setIfInBounds_toArray, List.set_cons_succ, List.set_cons_zero]
  refine ⟨.inl ⟨rfl, fun dd w' hd hcl hnx hw hC => ?_⟩, fun e => ?_⟩
  · have h36 : dd 36 = true := hw 36 (by kernel_rfl)
    have h35 : dd 35 = true := hcl 36 35 (by kernel_rfl) h36
    have h34 : dd 34 = true := hcl 35 34 (by kernel_rfl) h35
    have h32 : dd 32 = true := hcl 34 32 (by kernel_rfl) h34
    have h31 : dd 31 = true := hcl 32 31 (by kernel_rfl) h32
    have h30 : dd 30 = true := hcl 31 30 (by kernel_rfl) h31
    have h29 : dd 29 = true := hcl 30 29 (by kernel_rfl) h30
    have hc : AwS repB w.heap.size w g m1 m2 gX gY (stK (dd 23) (dd 29)) (stB (dd 23) (dd 29)) w' := hC
    rw [h29] at hc
    obtain ⟨F', p1, p2, p3⟩ := hc.pp
    go_simp
    refine (hC0.out.count (b := aw4) p1).mono ?_
    rintro e w2 ⟨rfl, h⟩
    exact ⟨_, rfl, rfl, hC.on hC0.out h⟩
  have e' : vs 38 = _ := e
  rw [e']
  clear e e'
  simp only [Act.put, List.setIfInBounds_toArray, List.set_cons_succ, List.set_cons_zero]
  refine ⟨.inl ⟨rfl, fun dd w' hd hcl hnx hw hC => ?_⟩, fun e => ?_⟩
  · go_simp
    first | exact ⟨rfl, hC⟩ | exact hC
  have e' : vs 39 = _ := e
  rw [e']
  clear e e'
  simp only [Act.put, List.setIfInBounds_toArray, List.set_cons_succ, List.set_cons_zero]
  refine ⟨.inl ⟨rfl, fun dd w' hd hcl hnx hw hC => ?_⟩, fun e => ?_⟩
  · go_simp
    first | exact ⟨rfl, hC⟩ | exact hC
  have e' : vs 40 = _ := e
  rw [e']
  clear e e'
  simp only [Act.put, List.setIfInBounds_toArray, List.set_cons_succ, List.set_cons_zero]
  intro dd w7 hall hC
  have BE := hid hC.bel
  clear hC hall
  go_wp2_with fail
  go_ret
  exact ⟨rfl, BE.out⟩
end BuP
end Go.Proofs.YthogklchmhjjkaaGreat
set_option maxRecDepth 100000
namespace Go.Proofs.YthogklchmhjjkaaGreat
open Go.ChangeShapes Go.WideShapes Go.ChangeAt Go.RowKit
attribute [local go_sem] Gives GivesE
namespace BuP
open BuM MbM MbP
/-- The step; the bus behind i reads. -/
def seSt (n : Nat) (s : Nat → Nat) : Stp := ⟨n, 1, 0, 3, 0, s, []⟩
def seMb (n : Nat) (s : Nat → Nat) (i : Nat) : St := if i ≤ n then made 4 else MbM.seT (made 4) 3 s
def seB (n : Nat) (s : Nat → Nat) (i : Nat) (L : List BuM.Ent) : Bs := ⟨[seMb n s i, made 4], (0, ClP.zero), [seSt n s], false, L⟩
section
variable {ops : Array Oper} {Q : Exit → Act → World → Prop} {a : Act} {w : World} {rest : List Oper} {dst : Option Tmp} {ty : TypeId} {pos : String} {after : Array Edge} {x y : Operand} {n : Int} {s : Nat → Nat}
end
end BuP
end Go.Proofs.YthogklchmhjjkaaGreat
set_option maxRecDepth 100000
namespace Go.Proofs.YthogklchmhjjkaaGreat
open Go.ChangeShapes Go.WideShapes Go.ChangeAt Go.RowKit
attribute [local go_sem] Gives GivesE
namespace BuP
open BuM MbM MbP
/-- What over tells, and leaves. -/
def ovE (b : Bs) (a : ActB) : Nat → Int
  | 1 | 2 => (BuM.wrB (BuM.ahead b) a.m a.i a.s).e
  | 3 => (BuM.flB (BuM.ahead b) a.m).e
  | 4 => (BuM.ceB (BuM.ahead b)).e
  | 5 => (BuM.adB (BuM.ahead b) a.t).e
  | 6 => 0
  | _ => (BuM.rdB (BuM.ahead b) a.m a.i).e
def ovB (b : Bs) (a : ActB) : Nat → Bs
  | 1 | 2 => BuM.wrT b a.m a.i a.s
  | 3 => BuM.flT b a.m
  | 4 => BuM.ceT b
  | 5 => BuM.adT b a.t
  | 6 => b
  | _ => BuM.rdT b a.m a.i
/-- What a bus alone is behind a call: what may be turned was so, or is new. -/
def outS (repB : RepB) (w : World) (g : Nat) (F : Fq) (k : Nat) (b : Bs) (w' : World) : Prop :=
  ∃ F', Pp repB w' g F' k b ∧ F'.gs = F.gs ∧ (∀ q, mutP F' q → mutP F q ∨ w.heap.size ≤ q) ∧ (∀ q, rdP F' q → mutP F q ∨ rdP F q ∨ w.heap.size ≤ q) ∧ Turn (mutP F) w w'
theorem outS.of {repB : RepB} {w w1 w2 : World} {g k : Nat} {F : Fq} {b : Bs} (hb : Below w.heap.size w w1) (h : outQ repB w1 g F k b w2) : outS repB w g F k b w2 := by
  obtain ⟨F', h1, h2, _, h4, h5, h6⟩ := h
  exact ⟨F', h1, h2, fun q e => (h4 q e).imp id fun x => Nat.le_trans hb.size x, fun q e => (h5 q e).imp id fun y => y.imp id fun x => Nat.le_trans hb.size x, (Turn.of_new (S := mutP F) hb).trans h6 fun q e => .inl e⟩
theorem outS.below {repB : RepB} {w w1 w2 : World} {g k : Nat} {F : Fq} {b : Bs} (hC : BusC repB) (h : outS repB w g F k b w1) (hb : Below w1.heap.size w1 w2) : outS repB w g F k b w2 := by
  obtain ⟨F', h1, h2, h4, h5, h6⟩ := h
  exact ⟨F', h1.below hC hb, h2, h4, h5, h6.trans (Turn.of_new (S := fun _ => False) hb) fun _ e => e.elim⟩
end BuP
end Go.Proofs.YthogklchmhjjkaaGreat
