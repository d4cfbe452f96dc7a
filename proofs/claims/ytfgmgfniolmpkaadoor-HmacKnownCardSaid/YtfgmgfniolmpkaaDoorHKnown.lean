/-
  The walk of HmacKnown.
-/
import Derived.Test.YtfgmgfniolmpkaaDoorHText
import Derived.Test.YtfgmgfniolmpkaaDoorHDig
import Derived.Laws.OwnMore
import Derived.Test.YtfgmgfniolmpkaaDoorHLawCut
namespace Go.Proofs.YtfgmgfniolmpkaaDoor
open Go.ChangeShapes Go.WideShapes Go.ChangeAt Go.RowKit
attribute [local go_sem] Gives
set_option maxRecDepth 100000
def k20 : List Nat := [11, 11, 11, 11, 11, 11, 11, 11, 11, 11, 11, 11, 11, 11, 11, 11, 11, 11, 11, 11]
def hiL : List Nat := [72, 105, 32]
def thL : List Nat := [84, 104, 101, 114, 101]
theorem k20_256 : B256 k20 := by unfold B256 k20; decide
theorem hiL_256 : B256 hiL := by unfold B256 hiL; decide
theorem thL_256 : B256 thL := by unfold B256 thL; decide
theorem txt_none : str (hx (HmM.dl (HmM.tag [] []))) = ⟨#[98, 54, 49, 51, 54, 55, 57, 97, 48, 56, 49, 52, 100, 57, 101, 99, 55, 55, 50, 102, 57, 53, 100, 55, 55, 56, 99, 51, 53, 102, 99, 53, 102, 102, 49, 54, 57, 55, 99, 52, 57, 51, 55, 49, 53, 54, 53, 51, 99, 54, 99, 55, 49, 50, 49, 52, 52, 50, 57, 50, 99, 53, 97, 100]⟩ := by rw [tag_none]; decide +kernel
theorem txt_fox : str (hx (HmM.dl (HmM.tag keyL foxL))) = ⟨#[102, 55, 98, 99, 56, 51, 102, 52, 51, 48, 53, 51, 56, 52, 50, 52, 98, 49, 51, 50, 57, 56, 101, 54, 97, 97, 54, 102, 98, 49, 52, 51, 101, 102, 52, 100, 53, 57, 97, 49, 52, 57, 52, 54, 49, 55, 53, 57, 57, 55, 52, 55, 57, 100, 98, 99, 50, 100, 49, 97, 51, 99, 100, 56]⟩ := by unfold keyL foxL; rw [tag_fox]; decide +kernel
theorem txt_hi : str (hx (HmM.dl (HmM.tag k20 (flat [hiL, [], thL])))) = ⟨#[98, 48, 51, 52, 52, 99, 54, 49, 100, 56, 100, 98, 51, 56, 53, 51, 53, 99, 97, 56, 97, 102, 99, 101, 97, 102, 48, 98, 102, 49, 50, 98, 56, 56, 49, 100, 99, 50, 48, 48, 99, 57, 56, 51, 51, 100, 97, 55, 50, 54, 101, 57, 51, 55, 54, 99, 50, 101, 51, 50, 99, 102, 102, 55]⟩ := by
  rw [show flat [hiL, [], thL] = [72, 105, 32, 84, 104, 101, 114, 101] from rfl]
  unfold k20
  rw [tag_hi]; decide +kernel
/-- Twenty bytes, the first i of them 11. -/
def twenty (i : Nat) : Array Value := row 20 fun j => .int .u8 ((if j < i then 11 else 0 : Nat) : Int)
theorem made20 : (madeCells (Value.int IntKind.u8 0).cells (20 * 1)).toList = (twenty 0).toList := by
  unfold madeCells twenty row
  simp [Value.cells, Nat.mod_one]
  rfl
theorem run_mk20 (w : World) : ∃ w', (Instr.makeSlice 22 (.int .i64 20) (.int .i64 20)).run Tryd.prog w = .ok (.slice (some ⟨w.heap.size, 0, none⟩) 20 20) w' ∧
    Blk w' w.heap.size 5 (twenty 0) ∧ Below w.heap.size w w' := by
  obtain ⟨i, hi, hz, h1, h2⟩ := eltB.inf
  obtain ⟨w', hr, ho, hg⟩ := run_makeSlice_full (P := Tryd.prog) w w.heap.size 22 5 i (.int .u8 0) 1 eltB.und hi hz h1 .i64 .i64 20 (by omega) (Nat.le_trans (Nat.mul_le_mul h2 (Nat.le_refl 20)) (by omega)) (by unfold maxLen; omega) (Nat.le_refl _)
  refine ⟨w', hr, ?_, (Below.refl _ _).grown hg (Nat.le_refl _) (fun k e => by cases e)⟩
  rcases ho.2 with ⟨e, _⟩ | ⟨g, cap, cur, hv, _, hgc, _, _, hcs, ht⟩
  · cases e
  · simp only [Value.slice.injEq, Option.some.injEq, Addr.mk.injEq, and_true, true_and] at hv
    obtain ⟨rfl, rfl⟩ := hv
    have e : cur = twenty 0 := by
      apply Array.ext'
      exact (List.take_of_length_le (by rw [Array.length_toList, hcs]; omega)).symm.trans (ht.trans made20)
    rw [← e]; exact hgc
theorem mk20 {ops : Array Oper} {Q : Exit → Act → World → Prop} {a : Act} {w : World} {rest : List Oper} {dst : Option Tmp} {ty : TypeId} {pos : String} {after : Array Edge} {x y : Operand}
    (hx : a.eval x = .int .i64 20) (hy : a.eval y = .int .i64 20) (h : ∀ w', Blk w' w.heap.size 5 (twenty 0) → Below w.heap.size w w' → wpList Tryd.prog ops Q rest (a.put dst (.slice (some ⟨w.heap.size, 0, none⟩) 20 20)) w') :
    wpList Tryd.prog ops Q (⟨dst, .makeSlice 22 x y, ty, pos, after, none⟩ :: rest) a w := by
  obtain ⟨w', hr, h1, h2⟩ := run_mk20 w
  refine wpList_plain rfl fun K hK => ?_
  unfold Oper.wp execOp
  simp only [Sem.run_bind, hx, hy, hr, Result.andThen_ok]
  exact hK _ _ (h w' h1 h2)
theorem twenty_set (i : Nat) : (twenty i).setIfInBounds i (.int .u8 11) = twenty (i + 1) := by
  unfold twenty
  rw [row_set]
  congr 1
  funext j
  by_cases h : j = i
  · subst h; simp
  · rw [if_neg h]
    by_cases h2 : j < i
    · rw [if_pos h2, if_pos (by omega)]
    · rw [if_neg h2, if_neg (by omega)]
theorem twenty_byt {w : World} {g B : Nat} (h : Blk w g 5 (twenty 20)) (hg : g < B) : Byt w B (some ⟨g, 0, none⟩) k20 :=
  byt_lit h hg (lit_ok (by rfl))
theorem tag_arg {w : World} {g : Nat} {T : Nat → Nat} (h : Blk w g 25 (tag T)) (h256 : ∀ k, T k < 256) : Arg w (some ⟨g, 0, none⟩) (HmM.dl T) 32 32 where
  len := HmM.dl_length T
  cap := Nat.le_refl _
  max := by unfold maxLen; omega
  b256 := HmM.dl_256 h256
  none e := by cases e
  byt := Blk.byt h h.lt (by rw [HmM.dl_length]; omega) (fun j hj => HmM.dl_get T (by rw [HmM.dl_length] at hj; exact hj))
set_option maxHeartbeats 1000000 in
theorem hknown_law (w : World) (hS : Salts w) :
    Calls Tryd.prog 9 #[] w fun e w' => e = .returned (.bool true) ∧ Below w.heap.size w w' := by
  have SA := hid hS
  clear hS
  go_enter Tryd.func9, Tryd.ntmps9
  go_wp2_with fail
  refine (hof_any none [] 0 0 rfl (Nat.le_refl _) (Nat.zero_le _) (by omega) (fun x hx => by cases hx) none [] 0 0 rfl (Nat.le_refl _) (Nat.zero_le _) (fun x hx => by cases hx) (by omega) w (Byt.none rfl) (Byt.none rfl) SA.out).mono ?_
  rintro e w1 ⟨rfl, h1⟩
  have hz1 := h1.size
  obtain ⟨T1, hT1⟩ : ∃ T, T = HmM.tag [] [] := ⟨_, rfl⟩
  rw [← hT1]
  have E1 := hid hT1
  clear hT1
  go_upto_region 2 with ((with_reducible apply stt); rfl; rfl; exact Blk.top zlit_tag rfl)
  generalize hw2 : World.setRow _ _ _ = w2
  obtain ⟨g1, hg1⟩ : ∃ g, g = w1.heap.size := ⟨_, rfl⟩
  have c2 : Blk w2 g1 25 (tag T1) := by rw [← hw2, hg1]; exact (Blk.top zlit_tag rfl).setRow_same _
  have b2 : Below w.heap.size w w2 := by rw [← hw2]; exact below_setRow (h1.alloc hz1 _) hz1 _
  rw [← hg1]
  have G1 := hid c2
  have B2 := hid b2
  clear hw2 h1 hz1 c2 b2 hg1
  clear w1
  have kc := fun (w : World) (C : Array Value) (n c : Nat) => Lib.run_convert_bytes_const (P := Tryd.prog) w 22 5 C n c Tryd.underlying22 Tryd.underlying5
  go_wp2_with fail
  generalize hw3 : World.alloc w2 _ = w3
  have hz3 : w2.heap.size + 1 = w3.heap.size := by rw [← hw3]; simp
  have k3 : Byt w3 w3.heap.size (some ⟨w2.heap.size, 0, none⟩) keyL := by
    rw [← hw3]
    exact byt_lit (heap_alloc_new w2 _) (by simp) (lit_ok (by rfl))
  have b3 : Below w2.heap.size w2 w3 := by rw [← hw3]; exact (Below.refl _ _).alloc (Nat.le_refl _) _
  clear hw3
  rw [hz3, kc]
  clear hz3 kc
  simp only [Result.andThen]
  rw [Oper.upon_value]
  generalize hw4 : World.alloc w3 _ = w4
  have k4 : Byt w4 w4.heap.size (some ⟨w3.heap.size, 0, none⟩) foxL := by
    rw [← hw4]
    exact byt_lit (heap_alloc_new w3 _) (by simp) (lit_ok (by rfl))
  have b4 : Below w2.heap.size w2 w4 := by rw [← hw4]; exact b3.alloc b3.size _
  have k3' : Byt w4 w4.heap.size (some ⟨w2.heap.size, 0, none⟩) keyL := by
    rw [← hw4]
    exact (k3.below ((Below.refl w3.heap.size w3).alloc (Nat.le_refl _) _) (Nat.le_refl _)).more (by simp)
  clear hw4 k3 b3
  have K3 := hid k3'
  have K4 := hid k4
  have B4 := hid (B2.out.trans (b4.mono B2.out.size))
  have G14 := hid (G1.out.below b4 G1.out.lt)
  clear k3' k4 b4 B2 G1
  go_wp2_with fail
  refine (hof_any _ keyL 3 3 rfl (Nat.le_refl _) (by unfold maxLen; omega) (by omega) keyL_256 _ foxL 43 43 foxL_length (Nat.le_refl _) (by unfold maxLen; omega) foxL_256 (by omega) w4 K3.out K4.out (SA.out.on B4.out)).mono ?_
  rintro e w5 ⟨rfl, h5⟩
  have b5 := B4.out.trans (h5.mono B4.out.size)
  have g15 := G14.out.below h5 G14.out.lt
  clear h5 B4 K3 K4 G14
  obtain ⟨T2, hT2⟩ : ∃ T, T = HmM.tag keyL foxL := ⟨_, rfl⟩
  rw [← hT2]
  have E2 := hid hT2
  clear hT2
  have hz5 := b5.size
  go_upto_region 3 with ((with_reducible apply stt); rfl; rfl; exact Blk.top zlit_tag rfl)
  generalize hw6 : World.setRow _ _ _ = w6
  obtain ⟨g2, hg2⟩ : ∃ g, g = w5.heap.size := ⟨_, rfl⟩
  have c6 : Blk w6 g2 25 (tag T2) := by rw [← hw6, hg2]; exact (Blk.top zlit_tag rfl).setRow_same _
  have b6 : Below w5.heap.size w5 w6 := by rw [← hw6]; exact below_setRow ((Below.refl _ _).alloc (Nat.le_refl _) _) (Nat.le_refl _) _
  rw [← hg2]
  have B6 := hid (b5.trans (b6.mono hz5))
  have G1 := hid (g15.below b6 g15.lt)
  have G2 := hid c6
  clear hw6 b5 hz5 g15 c6 b6 hg2
  generalize w2.heap.size = a2
  generalize w3.heap.size = a3
  clear w5 w4 w3 w2
  go_wp2_with ((with_reducible apply mk20); rfl; rfl; intro w7 m7 b7)
  have hz6 := B6.out.size
  obtain ⟨g3, hg3⟩ : ∃ g, g = w6.heap.size := ⟨_, rfl⟩
  rw [← hg3] at m7 ⊢
  have hg3w : w.heap.size ≤ g3 := by omega
  have G17 := hid (G1.out.below b7 G1.out.lt)
  have G27 := hid (G2.out.below b7 G2.out.lt)
  have B7 := hid (B6.out.trans (b7.mono B6.out.size))
  have hl1 : g1 < g3 := by rw [hg3]; exact G1.out.lt
  have hl2 : g2 < g3 := by rw [hg3]; exact G2.out.lt
  have G3 := hid m7
  clear m7 b7 B6 G1 G2 hz6 hg3
  clear w6
  go_loopw [4] (fun v wr => ∃ i : Nat, i ≤ 20 ∧ v = .int .i64 i ∧ Hid (Blk wr g3 5 (twenty i)) ∧ Hid (Blk wr g1 25 (tag T1)) ∧ Hid (Blk wr g2 25 (tag T2)) ∧ Hid (Below w.heap.size w wr)) (fun v _ => 20 - (intOf v).toNat)
  case atStart => exact ⟨0, by omega, rfl, G3, G17, G27, B7⟩
  case round =>
    clear G3 G17 G27 B7
    obtain ⟨i, hi, rfl, h3, h1, h2, hb⟩ := hrel
    by_cases hlt : i < 20
    · have ti : (i : Int) < 20 := by omega
      have c0 : wr.cell? ⟨g3, i, none⟩ = some (.int .u8 ((if i < i then 11 else 0 : Nat) : Int)) := (h3.out.cell i).trans (by unfold twenty; rw [get_row, if_pos hlt])
      rw [if_neg (Nat.lt_irrefl i)] at c0
      have f0 := h3.out.frozen i
      go_wp2_with fail
      go_roundw
      case rel => exact ⟨i + 1, by omega, by go_num, hid (by rw [← twenty_set]; exact h3.out.setCell_same _ _), hid (h1.out.setCell_other (by show g3 ≠ g1; omega) _), hid (h2.out.setCell_other (by show g3 ≠ g2; omega) _), hid (hb.out.setCell (p := ⟨g3, i, none⟩) hg3w _)⟩
      case measure => simp [intOf]; omega
    · have ti : decide ((i : Int) < 20) = false := by simp; omega
      obtain rfl : i = 20 := by omega
      clear ti hlt hi
      have K3 := hid (twenty_byt h3.out h3.out.lt)
      have G1 := hid h1.out
      have G2 := hid h2.out
      have BW := hid hb.out
      clear h1 h2 h3 hb hl1 hl2 hg3w
      have kc := fun (w : World) (C : Array Value) (n c : Nat) => Lib.run_convert_bytes_const (P := Tryd.prog) w 22 5 C n c Tryd.underlying22 Tryd.underlying5
      go_wp2_with fail
      generalize hw3 : World.alloc wr _ = w3
      have hz3 : wr.heap.size + 1 = w3.heap.size := by rw [← hw3]; simp
      have q3 : Byt w3 w3.heap.size (some ⟨wr.heap.size, 0, none⟩) hiL := by
        rw [← hw3]
        exact byt_lit (heap_alloc_new wr _) (by simp) (lit_ok (by rfl))
      have b3 : Below wr.heap.size wr w3 := by rw [← hw3]; exact (Below.refl _ _).alloc (Nat.le_refl _) _
      clear hw3
      rw [hz3, kc]
      clear hz3 kc
      simp only [Result.andThen]
      rw [Oper.upon_value]
      generalize hw4 : World.alloc w3 _ = w4
      have q4 : Byt w4 w4.heap.size (some ⟨w3.heap.size, 0, none⟩) thL := by
        rw [← hw4]
        exact byt_lit (heap_alloc_new w3 _) (by simp) (lit_ok (by rfl))
      have b4 : Below wr.heap.size wr w4 := by rw [← hw4]; exact b3.alloc b3.size _
      have q3' : Byt w4 w4.heap.size (some ⟨wr.heap.size, 0, none⟩) hiL := by
        rw [← hw4]
        exact (q3.below ((Below.refl w3.heap.size w3).alloc (Nat.le_refl _) _) (Nat.le_refl _)).more (by simp)
      clear hw4 q3 b3
      have Q3 := hid q3'
      have Q4 := hid q4
      have B4 := hid b4
      clear q3' q4 b4
      go_wp2_with fail
      generalize hw5 : World.alloc w4 _ = w5
      have b5 : Below w4.heap.size w4 w5 := by rw [← hw5]; exact (Below.refl _ _).alloc (Nat.le_refl _) _
      have hp : Prts w5 w5.heap.size (some ⟨w4.heap.size, 0, none⟩) [hiL, [], thL] := by
        have bl : Blk w5 w4.heap.size 22 #[.slice (some ⟨wr.heap.size, 0, none⟩) 3 3, .slice none 0 0, .slice (some ⟨w3.heap.size, 0, none⟩) 5 5] := by rw [← hw5]; exact Blk.top rfl rfl
        refine prts_lit bl bl.lt fun j hj => ?_
        match j, hj with
        | 0, _ => exact ⟨_, 3, rfl, Nat.le_refl _, by unfold maxLen; omega, (Q3.out.below b5 (Nat.le_refl _)).more b5.size⟩
        | 1, _ => exact ⟨none, 0, rfl, Nat.le_refl _, Nat.zero_le _, Byt.none rfl⟩
        | 2, _ => exact ⟨_, 5, rfl, Nat.le_refl _, by unfold maxLen; omega, (Q4.out.below b5 (Nat.le_refl _)).more b5.size⟩
      have b45 := B4.out.trans (b5.mono B4.out.size)
      have B5 := hid (BW.out.trans (b45.mono BW.out.size))
      have G15 := hid (G1.out.below b45 G1.out.lt)
      have G25 := hid (G2.out.below b45 G2.out.lt)
      have K5 := hid ((K3.out.below b45 (Nat.le_refl _)).more b45.size)
      have HP := hid hp
      clear hw5 b5 hp b45 B4 BW G1 G2 K3 Q3 Q4
      refine (parts_any _ k20 20 20 rfl (Nat.le_refl _) (by unfold maxLen; omega) (by omega) k20_256 _ [hiL, [], thL] 3 3 rfl (by omega) (fun x hx => by
        simp only [List.mem_cons, List.not_mem_nil, or_false] at hx
        rcases hx with rfl | rfl | rfl
        · exact hiL_256
        · exact fun y hy => by cases hy
        · exact thL_256) (by decide) w5 K5.out HP.out (SA.out.on B5.out)).mono ?_
      rintro e w6 ⟨rfl, h6⟩
      obtain ⟨T3, hT3⟩ : ∃ T, T = HmM.tag k20 (flat [hiL, [], thL]) := ⟨_, rfl⟩
      rw [← hT3]
      have E3 := hid hT3
      have b6 := B5.out.trans (h6.mono B5.out.size)
      have hz6 := b6.size
      have g16 := G15.out.below h6 G15.out.lt
      have g26 := G25.out.below h6 G25.out.lt
      have k6 := (K5.out.below h6 (Nat.le_refl _)).more h6.size
      clear hT3 h6 B5 G15 G25 K5 HP
      go_upto_region 9 with ((with_reducible apply stt); rfl; rfl; exact Blk.top zlit_tag rfl)
      generalize hw7 : World.setRow _ _ _ = w7
      obtain ⟨g4, hg4⟩ : ∃ g, g = w6.heap.size := ⟨_, rfl⟩
      have c7 : Blk w7 g4 25 (tag T3) := by rw [← hw7, hg4]; exact (Blk.top zlit_tag rfl).setRow_same _
      have b7 : Below w6.heap.size w6 w7 := by rw [← hw7]; exact below_setRow ((Below.refl _ _).alloc (Nat.le_refl _) _) (Nat.le_refl _) _
      rw [← hg4]
      have B7 := hid (b6.trans (b7.mono hz6))
      have G1 := hid (g16.below b7 g16.lt)
      have G2 := hid (g26.below b7 g26.lt)
      have G4 := hid c7
      have K7 := hid ((k6.below b7 (Nat.le_refl _)).more b7.size)
      clear hw7 b6 hz6 g16 g26 k6 c7 b7 hg4
      generalize w4.heap.size = a4
      generalize w3.heap.size = a5
      generalize wr.heap.size = a6
      clear w6 w5 w4 w3 wr
      go_wp2_with fail
      refine (bad_any _ 20 20 none 0 0 8161 (by omega) w7).mono ?_
      rintro e w' ⟨rfl, rfl⟩
      go_wp2_with fail
      refine (bad_any _ 20 20 none 0 0 (-1) (by omega) w7).mono ?_
      rintro e w' ⟨rfl, rfl⟩
      go_wp2_with fail
      refine (hstretch_any _ k20 20 20 none [] 0 0 0 (by omega) (by omega) (by omega) w7 ⟨rfl, Nat.le_refl _, by unfold maxLen; omega, k20_256, (fun e => by cases e), K7.out⟩ ⟨rfl, Nat.le_refl _, Nat.zero_le _, (fun x hx => by cases hx), fun _ => ⟨rfl, rfl⟩, Byt.none rfl⟩ (SA.out.on B7.out)).mono ?_
      rintro e w8 ⟨A8, c8, rfl, a8, h8⟩
      clear a8
      have B8 := hid (B7.out.trans (h8.mono B7.out.size))
      have G18 := hid (G1.out.below h8 G1.out.lt)
      have G28 := hid (G2.out.below h8 G2.out.lt)
      have G48 := hid (G4.out.below h8 G4.out.lt)
      clear h8 B7 G1 G2 G4 K7
      clear w7
      go_wp2_with fail
      refine (htext_any g1 0 (HmM.dl T1) 32 32 (by omega) (by omega) w8 (tag_arg G18.out (by rw [E1.out]; exact HmM.tag_256 _ _))).mono ?_
      rintro e w9 ⟨rfl, h9⟩
      rw [(congrArg (fun T => str (hx (HmM.dl T))) E1.out).trans txt_none]
      have B9 := hid (B8.out.trans (h9.mono B8.out.size))
      have G29 := hid (G28.out.below h9 G28.out.lt)
      have G49 := hid (G48.out.below h9 G48.out.lt)
      clear h9 B8 G18 G28 G48
      clear w8
      go_wp2_with fail
      refine (htext_any g2 0 (HmM.dl T2) 32 32 (by omega) (by omega) w9 (tag_arg G29.out (by rw [E2.out]; exact HmM.tag_256 _ _))).mono ?_
      rintro e w10 ⟨rfl, h10⟩
      rw [(congrArg (fun T => str (hx (HmM.dl T))) E2.out).trans txt_fox]
      have B10 := hid (B9.out.trans (h10.mono B9.out.size))
      have G410 := hid (G49.out.below h10 G49.out.lt)
      clear h10 B9 G29 G49
      clear w9
      go_wp2_with fail
      refine (htext_any g4 0 (HmM.dl T3) 32 32 (by omega) (by omega) w10 (tag_arg G410.out (by rw [E3.out]; exact HmM.tag_256 _ _))).mono ?_
      rintro e w11 ⟨rfl, h11⟩
      rw [(congrArg (fun T => str (hx (HmM.dl T))) E3.out).trans txt_hi]
      have B11 := hid (B10.out.trans (h11.mono B10.out.size))
      clear h11 B10 G410
      clear w10
      go_wp2_with fail
      refine (works_any w11 (SA.out.on B11.out)).mono ?_
      rintro e w12 ⟨rfl, h12⟩
      have b12 := B11.out.trans (h12.mono B11.out.size)
      clear h12
      go_wp2_with fail
      go_ret
      exact ⟨rfl, b12⟩
end Go.Proofs.YtfgmgfniolmpkaaDoor
