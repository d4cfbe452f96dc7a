/-
  StripeKnown: the chapter's examples; rows that are none.
  Contracts of the document's row (casemateref16): Write.
  The program's row beside the document's, in memory.
-/
import Derived.Test.YtlbfjnddbdpdpaaMrg8
set_option linter.unusedVariables false
set_option linter.unusedSimpArgs false
set_option maxRecDepth 100000
namespace Go.Proofs.Ytlbfjnddbdpdpaa
open Go.ChangeShapes Go.WideShapes Go.ChangeAt Go.RowKit Go.Shelf
attribute [local go_sem] Gives eqg_sec
attribute [local go_sem high] run_eql_sec run_neq_sec
namespace StM
def kD (a b : Nat) : Nat → Nat → Nat := fun i _ => if i = 0 then a else if i = 1 then b else 0
theorem kD_lt {a b : Nat} (ha : a < 256) (hb : b < 256) : ∀ i k, kD a b i k < 256 := fun i k => by
  unfold kD
  split
  · exact ha
  · split
    · exact hb
    · omega
theorem k12 : ∀ i k, kD 1 2 i k < 256 := kD_lt (by omega) (by omega)
theorem k11 : ∀ i k, kD 1 1 i k < 256 := kD_lt (by omega) (by omega)
theorem k12_row (i : Nat) (hi : i < 4) : rowF 2 (kD 1 2) i = fun _ => [1, 2, 3, 5].getD i 0 := by
  match i, hi with
  | 0, _ => rfl
  | 1, _ => rfl
  | 2, _ =>
    funext k
    show (0 ^^^ 1) ^^^ 2 = 3
    decide
  | 3, _ =>
    funext k
    show (0 ^^^ GfM.mul (GfM.pw 0) 1) ^^^ GfM.mul (GfM.pw 1) 2 = 5
    decide +kernel
theorem k11_2 : rowF 2 (kD 1 1) 2 = fun _ => 0 := funext fun k => by
  show (0 ^^^ 1) ^^^ 1 = 0
  decide
theorem k_upd : ∀ i k, rowF 2 (upd (kD 1 2) 1 fun _ => 1) i k = rowF 2 (kD 1 1) i k := fun i k => by
  have : upd (kD 1 2) 1 (fun _ => 1) = kD 1 1 := funext fun j => by
    unfold upd kD
    by_cases e : j = 1
    · subst e; rfl
    · rw [if_neg e]
      funext _
      by_cases e0 : j = 0
      · rw [if_pos e0, if_pos e0]
      · rw [if_neg e0, if_neg e0, if_neg e, if_neg e]
  rw [this]
theorem k_upd2 : ∀ i k, rowF 2 (upd (kD 1 1) 1 fun _ => 1) i k = rowF 2 (kD 1 1) i k := fun i k => by
  have : upd (kD 1 1) 1 (fun _ => 1) = kD 1 1 := funext fun j => by
    unfold upd kD
    by_cases e : j = 1
    · subst e; rfl
    · rw [if_neg e]
  rw [this]
theorem al_rt {D E : Nat → Nat → Nat} (h : ∀ i k, rowF 2 D i k = rowF 2 E i k) : Al (rt 2 D) (rt 2 E) := ⟨rfl, fun _ _ => rfl, fun i k _ _ _ => h i k⟩
theorem l03 : (lz (lz (rt 2 (kD 1 2)) 0) 3).lost = [0, 3] := by decide
theorem made4 : (made 4).lost = [0, 1, 2, 3] := by decide
theorem made4E : menE (made 4) = 7 := by decide
theorem made4L : menL (made 4) = [] := by decide
theorem made4T : menT (made 4) = made 4 := if_pos (by decide)
set_option maxRecDepth 100000 in
set_option maxHeartbeats 16000000 in
theorem known_law (W : World) : Calls Try.prog 6 #[] W fun e w' => e = .returned (.bool true) ∧ Below W.heap.size W w' := by
  go_enter Try.func6, Try.ntmps6
  go_wp2_with fail
  refine (pnew_any 4 (by omega) (by omega) W).mono ?_
  rintro e w1 ⟨g, gc, cc, gg, cg, rfl, P, hg, hc, hh, hb⟩
  have P1 := hid P
  have G := hid (And.intro hg (And.intro hc hh))
  have B1 := hid hb
  clear P hg hc hh hb
  go_wp2_with fail
  refine (plost_any P1.out).mono ?_
  rintro e w2 ⟨v, rfl, oi, h2⟩
  rw [made4] at oi
  obtain ⟨A2, c2, rfl⟩ := OwnI.len oi
  have P2 := hid (P1.out.on h2)
  have B2 := hid (B1.out.trans (h2.mono B1.out.size))
  clear h2 oi P1 B1
  simp only [List.length_cons, List.length_nil]
  go_wp2_with fail
  refine (pmend_any P2.out).mono ?_
  rintro e w3 ⟨A3, c3, rfl, _, o3⟩
  rw [made4E, made4L]
  have P3 := hid (show Pr w3 g gc cc gg cg (made 4) by rw [← made4T]; exact o3.1)
  have B3 := hid (B2.out.trans (o3.below B2.out.size G.out.2.1 G.out.2.2))
  clear o3 P2 B2
  simp only [List.length_nil]
  go_upto_region 5 with fail
  generalize hw4 : World.alloc w3 _ = w4
  have h4 : Below w3.heap.size w3 w4 := by rw [← hw4]; exact (Below.refl _ _).alloc (Nat.le_refl _) _
  have bL := hid (show Blk w4 w3.heap.size 5 #[.int .u8 1, .int .u8 2, .int .u8 3, .int .u8 5] by rw [← hw4]; exact Blk.top rfl rfl)
  have P4 := hid ((P3.out.on h4).to (prt_0 (m := 2) (D := kD 1 2)) (prt_ok (by omega) (by omega) k12 0))
  have B4 := hid (B3.out.trans (h4.mono B3.out.size))
  obtain ⟨b0, hb0⟩ : ∃ b, b = w3.heap.size := ⟨_, rfl⟩
  have D0 := hid (show gc < b0 ∧ gg < b0 by rw [hb0]; exact P3.out.lts.2)
  rw [← hb0] at bL ⊢
  clear h4 hw4 P3 B3 hb0
  go_loopw [48] (fun uu wr => ∃ i : Nat, uu = .int .i64 i ∧ i ≤ 4 ∧ Hid (Pr wr g gc cc gg cg (prt 2 (kD 1 2) i)) ∧ Hid (Turn (fun k => k = gc ∨ k = gg) w4 wr)) (fun uu _ => 4 - (intOf uu).toNat)
  case atStart => exact ⟨0, rfl, Nat.zero_le _, P4, hid (Turn.refl _ _)⟩
  case round =>
    obtain ⟨i, rfl, hi, HP, HT⟩ := hrel
    by_cases hgo : i < 4
    · have t1 : (i : Int) < 4 := by omega
      have q0 : wr.cell? ⟨b0, i, none⟩ = some (.int .u8 (([1, 2, 3, 5].getD i 0 : Nat) : Int)) := by
        refine HT.out.cell ?_ (show ¬ (b0 = gc ∨ b0 = gg) by have := D0.out; omega)
        rw [bL.out.cell]
        match i, hgo with
        | 0, _ => rfl
        | 1, _ => rfl
        | 2, _ => rfl
        | 3, _ => rfl
      have hx := hid (show [1, 2, 3, 5].getD i 0 < 256 from by
        match i, hgo with
        | 0, _ => decide
        | 1, _ => decide
        | 2, _ => decide
        | 3, _ => decide)
      have hrow := hid (k12_row i hgo)
      have hE := hid (show argE (prt 2 (kD 1 2) i) i = 0 from if_pos (has_nat (show i < 2 + 2 by omega)))
      revert q0
      generalize [1, 2, 3, 5].getD i 0 = c at hx hrow
      intro q0
      go_wp2_with fail
      refine (fill_any c _).mono ?_
      rintro e w5 ⟨rfl, h5⟩
      have P5 := hid (HP.out.on h5)
      have T5 := hid (HT.out.trans (Turn.of_new (S := fun k => k = gc ∨ k = gg) h5) fun _ e => .inl e)
      clear h5 q0
      go_wp2_with fail
      refine (pput_any P5.out i (fun _ => c) fun _ => hx.out).mono ?_
      rintro e w6 ⟨rfl, o6⟩
      rw [hE.out]
      have P6 := hid (o6.1.to (by rw [← hrow.out]; exact prt_step (by omega)) (prt_ok (by omega) (by omega) k12 (i + 1)))
      have T6 := hid (T5.out.trans o6.2 fun _ e => .inl e)
      clear o6 P5 T5
      go_wp2_with fail
      go_roundw
      case rel =>
        repeat apply Exists.intro
        refine ⟨?_, rfl⟩
        exact ⟨i + 1, by go_num, by omega, P6, T6⟩
      case measure => simp [intOf] <;> omega
    · have t1 : ¬ (i : Int) < 4 := by omega
      have hin : i = 4 := by omega
      have P5 := hid (show Pr wr g gc cc gg cg (rt 2 (kD 1 2)) by have h := HP.out; rw [hin] at h; exact h.to prt_end (rt_ok (by omega) (by omega) k12))
      have B5 := hid (B4.out.trans (HT.out.below B4.out.size fun k e => by have := G.out; rcases e with rfl | rfl <;> omega))
      clear hin HP HT P4 B4 bL

      go_wp2_with fail
      refine (pright_any P5.out).mono ?_
      rintro e w6 ⟨rfl, h6⟩
      rw [rt_right (by omega) (by omega) k12]
      have P6 := hid (P5.out.on h6)
      have B6 := hid (B5.out.trans (h6.mono B5.out.size))
      clear h6
      clear P5 B5
      go_wp2_with fail
      refine (plose_any P6.out 0).mono ?_
      rintro e w7 ⟨rfl, o7⟩
      have P7 := hid (show Pr w7 g gc cc gg cg (lz (rt 2 (kD 1 2)) 0) by rw [← los_in (show 0 < (rt 2 (kD 1 2)).n by decide)]; exact o7.1)
      have B7 := hid (B6.out.trans (o7.below B6.out.size G.out.2.1 G.out.2.2))
      clear o7
      clear P6 B6
      go_wp2_with fail
      refine (plose_any P7.out 3).mono ?_
      rintro e w8 ⟨rfl, o8⟩
      have P8 := hid (show Pr w8 g gc cc gg cg (lz (lz (rt 2 (kD 1 2)) 0) 3) by rw [← los_in (show 3 < (lz (rt 2 (kD 1 2)) 0).n by decide)]; exact o8.1)
      have B8 := hid (B7.out.trans (o8.below B7.out.size G.out.2.1 G.out.2.2))
      clear o8
      clear P7 B7
      go_wp2_with fail
      refine (pget_any P8.out 0).mono ?_
      rintro e w9 ⟨rfl, h9⟩
      rw [show getE (lz (lz (rt 2 (kD 1 2)) 0) 3) 0 = 5 by decide]
      have P9 := hid (P8.out.on h9)
      have B9 := hid (B8.out.trans (h9.mono B8.out.size))
      clear h9
      clear P8 B8
      go_upto_region 14 with (first | ((with_reducible apply stx); rfl; rfl; exact Blk.top zlit rfl))
      generalize hw10 : World.setRow (World.alloc w9 _) _ _ = w10
      have h10 : Below w9.heap.size w9 w10 := by rw [← hw10]; exact below_setRow ((Below.refl _ _).alloc (Nat.le_refl _) _) (Nat.le_refl _) _
      have P10 := hid (P9.out.on h10)
      have B10 := hid (B9.out.trans (h10.mono B9.out.size))
      clear h10 hw10
      clear P9 B9
      go_wp2_with fail
      have K2 := hid (lz_ok (lz_ok (rt_ok (by omega) (by omega) k12) (show 0 < (rt 2 (kD 1 2)).n by decide)) (show 3 < (lz (rt 2 (kD 1 2)) 0).n by decide))
      obtain ⟨bE, bLL, bT⟩ := back2 (by omega) (by omega) k12 K2.out rfl rfl (by rw [l03]; decide)
      have LP := hid P10.out.lts.2
      refine (pmend_any P10.out).mono ?_
      rintro e w11 ⟨AM, cM, rfl, oi, o11⟩
      rw [bE, bLL, l03]
      rw [bLL, l03] at oi
      have P11 := hid (o11.1.to bT (rt_ok (by omega) (by omega) k12))
      have B11 := hid (B10.out.trans (o11.below B10.out.size G.out.2.1 G.out.2.2))
      clear o11
      clear P10 B10
      obtain ⟨bl, cl, ee, hr⟩ := OwnI.get (j := 0) oi (by decide)
      simp only [List.length_cons, List.length_nil, Value.slice.injEq] at ee
      obtain ⟨rfl, _, rfl⟩ := ee
      have DLL := hid (show gc < bl ∧ gg < bl by have := (OwnI.lt oi bl rfl).1; have := LP.out; omega)
      have L0_11 := hid (show w11.cell? ⟨bl, 0, none⟩ = some (.int .i64 0) from hr 0 (by decide))
      have L1_11 := hid (show w11.cell? ⟨bl, 1, none⟩ = some (.int .i64 3) from hr 1 (by decide))
      obtain ⟨bL0, hbL0⟩ : ∃ b, b = bl := ⟨_, rfl⟩
      obtain ⟨bL1, hbL1⟩ : ∃ b, b = bl := ⟨_, rfl⟩
      have DL0 := hid (show gc < bL0 ∧ gg < bL0 by rw [hbL0]; exact DLL.out)
      have DL1 := hid (show gc < bL1 ∧ gg < bL1 by rw [hbL1]; exact DLL.out)
      rw [← hbL0] at L0_11
      rw [← hbL1] at L1_11
      have E01 := hid (show bL0 = bL1 by rw [hbL0, hbL1])
      simp only [List.length_cons, List.length_nil]
      rw [← hbL0]
      clear hbL0 hbL1 hr oi bE bLL bT K2
      go_wp2_with fail
      refine (pget_any P11.out 0).mono ?_
      rintro e w12 ⟨rfl, h12⟩
      rw [show sec (getS (rt 2 (kD 1 2)) 0) = sec fun _ => 1 by rw [rt_getS ⟨by omega, by omega⟩]; exact congrArg sec (k12_row 0 (by omega)), rt_getE ⟨by omega, by omega⟩]
      have P12 := hid (P11.out.on h12)
      have B12 := hid (B11.out.trans (h12.mono B11.out.size))
      have L0_12 := hid ((h12.cell (World.block_lt_of_cell? _ _ L0_11.out)).trans L0_11.out)
      have L1_12 := hid ((h12.cell (World.block_lt_of_cell? _ _ L1_11.out)).trans L1_11.out)
      clear h12
      clear P11 B11 L0_11 L1_11
      go_upto_region 16 with (first | ((with_reducible apply stx); rfl; rfl; exact Blk.top zlit rfl))
      generalize hw13 : World.setRow (World.alloc w12 _) _ _ = w13
      obtain ⟨bA, hbA⟩ : ∃ b, b = w12.heap.size := ⟨_, rfl⟩
      have A_13 := hid (show Blk w13 bA 32 (sec fun _ => 1) by rw [hbA, ← hw13]; exact (Blk.top zlit rfl).setRow_same _)
      have DA := hid (show gc < bA ∧ gg < bA by rw [hbA]; exact P12.out.lts.2)
      rw [← hbA]
      have h13 : Below w12.heap.size w12 w13 := by rw [← hw13]; exact below_setRow ((Below.refl _ _).alloc (Nat.le_refl _) _) (Nat.le_refl _) _
      have P13 := hid (P12.out.on h13)
      have B13 := hid (B12.out.trans (h13.mono B12.out.size))
      have L0_13 := hid ((h13.cell (World.block_lt_of_cell? _ _ L0_12.out)).trans L0_12.out)
      have L1_13 := hid ((h13.cell (World.block_lt_of_cell? _ _ L1_12.out)).trans L1_12.out)
      clear h13 hw13 hbA
      clear P12 B12 L0_12 L1_12
      go_wp2_with fail
      refine (fill_any 1 _).mono ?_
      rintro e w14 ⟨rfl, h14⟩
      have P14 := hid (P13.out.on h14)
      have B14 := hid (B13.out.trans (h14.mono B13.out.size))
      have L0_14 := hid ((h14.cell (World.block_lt_of_cell? _ _ L0_13.out)).trans L0_13.out)
      have L1_14 := hid ((h14.cell (World.block_lt_of_cell? _ _ L1_13.out)).trans L1_13.out)
      have A_14 := hid (A_13.out.below h14 A_13.out.lt)
      clear h14
      clear P13 B13 L0_13 L1_13 A_13
      go_wp2_with fail
      have W1 := hid (show ∀ k : Nat, (fun _ : Nat => 1) k < 256 from fun _ => by show 1 < 256; omega)
      refine (pwrite_any P14.out ((1 : Nat) : Int) (fun _ => 1) W1.out).mono ?_
      rintro e w15 ⟨A15, c15, rfl, _, o15⟩
      rw [rt_wriE (by omega) (by omega) k12 (by omega), rt_other (by omega) (by omega) k12 (by omega) (fun _ => 1) (k := 0) (by omega) (by decide) W1.out]
      simp only [List.length_cons, List.length_nil]
      have P15 := hid ((o15.1.to (rt_write (by omega) (by omega) k12 (by omega) (fun _ => 1) W1.out) (rt_ok (by omega) (by omega) (upd_lt k12 W1.out))).to (al_rt k_upd) (rt_ok (by omega) (by omega) k11))
      have B15 := hid (B14.out.trans (o15.below B14.out.size G.out.2.1 G.out.2.2))
      have L0_15 := hid (o15.2.cell L0_14.out (show ¬ (bL0 = gc ∨ bL0 = gg) by have := DL0.out; omega))
      have L1_15 := hid (o15.2.cell L1_14.out (show ¬ (bL1 = gc ∨ bL1 = gg) by have := DL1.out; omega))
      have A_15 := hid (A_14.out.turn o15.2 (show ¬ (bA = gc ∨ bA = gg) by have := DA.out; omega))
      clear o15
      clear P14 B14 L0_14 L1_14 A_14
      go_wp2_with fail
      refine (pget_any P15.out 2).mono ?_
      rintro e w16 ⟨rfl, h16⟩
      rw [show sec (getS (rt 2 (kD 1 1)) 2) = sec fun _ => 0 by rw [rt_getS ⟨by omega, by omega⟩]; exact congrArg sec k11_2, rt_getE ⟨by omega, by omega⟩]
      have P16 := hid (P15.out.on h16)
      have B16 := hid (B15.out.trans (h16.mono B15.out.size))
      have L0_16 := hid ((h16.cell (World.block_lt_of_cell? _ _ L0_15.out)).trans L0_15.out)
      have L1_16 := hid ((h16.cell (World.block_lt_of_cell? _ _ L1_15.out)).trans L1_15.out)
      have A_16 := hid (A_15.out.below h16 A_15.out.lt)
      clear h16
      clear P15 B15 L0_15 L1_15 A_15
      go_upto_region 18 with (first | ((with_reducible apply stx); rfl; rfl; exact Blk.top zlit rfl))
      generalize hw17 : World.setRow (World.alloc w16 _) _ _ = w17
      obtain ⟨bZ, hbZ⟩ : ∃ b, b = w16.heap.size := ⟨_, rfl⟩
      have Z_17 := hid (show Blk w17 bZ 32 (sec fun _ => 0) by rw [hbZ, ← hw17]; exact (Blk.top zlit rfl).setRow_same _)
      have DZ := hid (show gc < bZ ∧ gg < bZ by rw [hbZ]; exact P16.out.lts.2)
      rw [← hbZ]
      have h17 : Below w16.heap.size w16 w17 := by rw [← hw17]; exact below_setRow ((Below.refl _ _).alloc (Nat.le_refl _) _) (Nat.le_refl _) _
      have P17 := hid (P16.out.on h17)
      have B17 := hid (B16.out.trans (h17.mono B16.out.size))
      have L0_17 := hid ((h17.cell (World.block_lt_of_cell? _ _ L0_16.out)).trans L0_16.out)
      have L1_17 := hid ((h17.cell (World.block_lt_of_cell? _ _ L1_16.out)).trans L1_16.out)
      have A_17 := hid (A_16.out.below h17 A_16.out.lt)
      clear h17 hw17 hbZ
      clear P16 B16 L0_16 L1_16 A_16
      go_wp2_with fail
      refine (fill_any 1 _).mono ?_
      rintro e w18 ⟨rfl, h18⟩
      have P18 := hid (P17.out.on h18)
      have B18 := hid (B17.out.trans (h18.mono B17.out.size))
      have L0_18 := hid ((h18.cell (World.block_lt_of_cell? _ _ L0_17.out)).trans L0_17.out)
      have L1_18 := hid ((h18.cell (World.block_lt_of_cell? _ _ L1_17.out)).trans L1_17.out)
      have A_18 := hid (A_17.out.below h18 A_17.out.lt)
      have Z_18 := hid (Z_17.out.below h18 Z_17.out.lt)
      clear h18
      clear P17 B17 L0_17 L1_17 A_17 Z_17
      go_wp2_with fail
      refine (pwrite_any P18.out ((1 : Nat) : Int) (fun _ => 1) W1.out).mono ?_
      rintro e w19 ⟨A19, c19, rfl, _, o19⟩
      rw [rt_wriE (by omega) (by omega) k11 (by omega), rt_same (by omega) (by omega) k11 (by omega) (fun _ => 1) (fun _ _ => rfl) W1.out]
      simp only [List.length_nil]
      have P19 := hid ((o19.1.to (rt_write (by omega) (by omega) k11 (by omega) (fun _ => 1) W1.out) (rt_ok (by omega) (by omega) (upd_lt k11 W1.out))).to (al_rt k_upd2) (rt_ok (by omega) (by omega) k11))
      have B19 := hid (B18.out.trans (o19.below B18.out.size G.out.2.1 G.out.2.2))
      have L0_19 := hid (o19.2.cell L0_18.out (show ¬ (bL0 = gc ∨ bL0 = gg) by have := DL0.out; omega))
      have L1_19 := hid (o19.2.cell L1_18.out (show ¬ (bL1 = gc ∨ bL1 = gg) by have := DL1.out; omega))
      have A_19 := hid (A_18.out.turn o19.2 (show ¬ (bA = gc ∨ bA = gg) by have := DA.out; omega))
      have Z_19 := hid (Z_18.out.turn o19.2 (show ¬ (bZ = gc ∨ bZ = gg) by have := DZ.out; omega))
      clear o19
      clear P18 B18 L0_18 L1_18 A_18 Z_18
      go_wp2_with fail
      refine (fill_any 1 _).mono ?_
      rintro e w20 ⟨rfl, h20⟩
      have P20 := hid (P19.out.on h20)
      have B20 := hid (B19.out.trans (h20.mono B19.out.size))
      have L0_20 := hid ((h20.cell (World.block_lt_of_cell? _ _ L0_19.out)).trans L0_19.out)
      have L1_20 := hid ((h20.cell (World.block_lt_of_cell? _ _ L1_19.out)).trans L1_19.out)
      have A_20 := hid (A_19.out.below h20 A_19.out.lt)
      have Z_20 := hid (Z_19.out.below h20 Z_19.out.lt)
      clear h20
      clear P19 B19 L0_19 L1_19 A_19 Z_19
      go_wp2_with fail
      refine (pwrite_any P20.out 2 (fun _ => 1) W1.out).mono ?_
      rintro e w21 ⟨A21, c21, rfl, _, o21⟩
      rw [show wriE (rt 2 (kD 1 1)) 2 = 2 by decide, show wriL (rt 2 (kD 1 1)) 2 (fun _ => 1) = [] from if_neg (by decide)]
      simp only [List.length_nil]
      have P21 := hid (show Pr w21 g gc cc gg cg (rt 2 (kD 1 1)) by have h := o21.1; rwa [show wriT (rt 2 (kD 1 1)) 2 (fun _ => 1) = rt 2 (kD 1 1) from if_neg (by decide)] at h)
      have B21 := hid (B20.out.trans (o21.below B20.out.size G.out.2.1 G.out.2.2))
      have L0_21 := hid (o21.2.cell L0_20.out (show ¬ (bL0 = gc ∨ bL0 = gg) by have := DL0.out; omega))
      have L1_21 := hid (o21.2.cell L1_20.out (show ¬ (bL1 = gc ∨ bL1 = gg) by have := DL1.out; omega))
      have A_21 := hid (A_20.out.turn o21.2 (show ¬ (bA = gc ∨ bA = gg) by have := DA.out; omega))
      have Z_21 := hid (Z_20.out.turn o21.2 (show ¬ (bZ = gc ∨ bZ = gg) by have := DZ.out; omega))
      clear o21
      clear P20 B20 L0_20 L1_20 A_20 Z_20
      have ee1 := hid (eqS_yes (f := fun _ => 1) (g := fun _ => 1) fun _ _ => rfl)
      have ee0 := hid (eqS_yes (f := fun _ => 0) (g := fun _ => 0) fun _ _ => rfl)
      go_wp2_with fail
      refine wp_region_tail (C := fun w' => Below w21.heap.size w21 w') 49 (by kernel_rfl) (by kernel_rfl) (by kernel_rfl) (Below.refl _ _).drew ?_
      simp only [List.take_succ_cons, List.take_zero, List.drop_succ_cons, List.drop_zero]
      apply wpK_val
      · rfl
      · intro w' hw'
        go_simp
        first | exact rfl | exact ⟨rfl, hw'⟩
      simp only [Act.put, List.setIfInBounds_toArray, List.set_cons_succ, List.set_cons_zero]
      apply wpK_val
      · rfl
      · intro w' hw'
        go_simp
        first | exact rfl | exact ⟨rfl, hw'⟩
      simp only [Act.put, List.setIfInBounds_toArray, List.set_cons_succ, List.set_cons_zero]
      apply wpK_val
      · rfl
      · intro w' hw'
        go_simp
        first | exact rfl | exact ⟨rfl, hw'⟩
      simp only [Act.put, List.setIfInBounds_toArray, List.set_cons_succ, List.set_cons_zero]
      apply wpK_val
      · rfl
      · intro w' hw'
        go_simp
        first | exact rfl | exact ⟨rfl, hw'⟩
      simp only [Act.put, List.setIfInBounds_toArray, List.set_cons_succ, List.set_cons_zero]
      apply wpK_val
      · rfl
      · intro w' hw'
        go_simp
        first | exact rfl | exact ⟨rfl, hw'⟩
      simp only [Act.put, List.setIfInBounds_toArray, List.set_cons_succ, List.set_cons_zero]
      apply wpK_val
      · rfl
      · intro w' hw'
        go_simp
        first | exact rfl | exact ⟨rfl, hw'⟩
      simp only [Act.put, List.setIfInBounds_toArray, List.set_cons_succ, List.set_cons_zero]
      apply wpK_val
      · rfl
      · intro w' hw'
        go_simp
        first | exact rfl | exact ⟨rfl, hw'⟩
      simp only [Act.put, List.setIfInBounds_toArray, List.set_cons_succ, List.set_cons_zero]
      apply wpK_val
      · rfl
      · intro w' hw'
        go_simp
        first | exact rfl | exact ⟨rfl, hw'⟩
      simp only [Act.put, List.setIfInBounds_toArray, List.set_cons_succ, List.set_cons_zero]
      apply wpK_val
      · rfl
      · intro w' hw'
        go_simp
        first | exact rfl | exact ⟨rfl, hw'⟩
      simp only [Act.put, List.setIfInBounds_toArray, List.set_cons_succ, List.set_cons_zero]
      apply wpK_val
      · rfl
      · intro w' hw'
        go_simp
        first | exact rfl | exact ⟨rfl, hw'⟩
      simp only [Act.put, List.setIfInBounds_toArray, List.set_cons_succ, List.set_cons_zero]
      apply wpK_val
      · rfl
      · intro w' hw'
        go_simp
        first | exact rfl | exact ⟨rfl, hw'⟩
      simp only [Act.put, List.setIfInBounds_toArray, List.set_cons_succ, List.set_cons_zero]
      apply wpK_val
      · rfl
      · intro w' hw'
        go_simp
        first | exact rfl | exact ⟨rfl, hw'⟩
      simp only [Act.put, List.setIfInBounds_toArray, List.set_cons_succ, List.set_cons_zero]
      apply wpK_val
      · rfl
      · intro w' hw'
        go_simp
        first | exact rfl | exact ⟨rfl, hw'⟩
      simp only [Act.put, List.setIfInBounds_toArray, List.set_cons_succ, List.set_cons_zero]
      apply wpK_val
      · rfl
      · intro w' hw'
        go_simp
        first | exact rfl | exact ⟨rfl, hw'⟩
      simp only [Act.put, List.setIfInBounds_toArray, List.set_cons_succ, List.set_cons_zero]
      apply wpK_val
      · rfl
      · intro w' hw'
        go_simp
        first | exact rfl | exact ⟨rfl, hw'⟩
      simp only [Act.put, List.setIfInBounds_toArray, List.set_cons_succ, List.set_cons_zero]
      apply wpK_val
      · rfl
      · intro w' hw'
        go_simp
        first | exact rfl | exact ⟨rfl, hw'⟩
      simp only [Act.put, List.setIfInBounds_toArray, List.set_cons_succ, List.set_cons_zero]
      apply wpK_val
      · rfl
      · intro w' hw'
        go_simp
        first | exact rfl | exact ⟨rfl, hw'⟩
      simp only [Act.put, List.setIfInBounds_toArray, List.set_cons_succ, List.set_cons_zero]
      apply wpK_val
      · rfl
      · intro w' hw'
        go_simp
        first | exact rfl | exact ⟨rfl, hw'⟩
      simp only [Act.put, List.setIfInBounds_toArray, List.set_cons_succ, List.set_cons_zero]
      apply wpK_val
      · rfl
      · intro w' hw'
        go_simp
        first | exact rfl | exact ⟨rfl, hw'⟩
      simp only [Act.put, List.setIfInBounds_toArray, List.set_cons_succ, List.set_cons_zero]
      apply wpK_val
      · rfl
      · intro w' hw'
        go_simp
        first | exact rfl | exact ⟨rfl, hw'⟩
      simp only [Act.put, List.setIfInBounds_toArray, List.set_cons_succ, List.set_cons_zero]
      apply wpK_val
      · rfl
      · intro w' hw'
        go_simp
        first | exact rfl | exact ⟨rfl, hw'⟩
      simp only [Act.put, List.setIfInBounds_toArray, List.set_cons_succ, List.set_cons_zero]
      apply wpK_val
      · rfl
      · intro w' hw'
        go_simp
        first | exact rfl | exact ⟨rfl, hw'⟩
      simp only [Act.put, List.setIfInBounds_toArray, List.set_cons_succ, List.set_cons_zero]
      apply wpK_val
      · rfl
      · intro w' hw'
        go_simp
        first | exact rfl | exact ⟨rfl, hw'⟩
      simp only [Act.put, List.setIfInBounds_toArray, List.set_cons_succ, List.set_cons_zero]
      apply wpK_val
      · rfl
      · intro w' hw'
        go_simp
        first | exact rfl | exact ⟨rfl, hw'⟩
      simp only [Act.put, List.setIfInBounds_toArray, List.set_cons_succ, List.set_cons_zero]
      apply wpK_val
      · rfl
      · intro w' hw'
        go_simp
        first | exact rfl | exact ⟨rfl, hw'⟩
      simp only [Act.put, List.setIfInBounds_toArray, List.set_cons_succ, List.set_cons_zero]
      apply wpK_val
      · rfl
      · intro w' hw'
        go_simp
        first | exact rfl | exact ⟨rfl, hw'⟩
      simp only [Act.put, List.setIfInBounds_toArray, List.set_cons_succ, List.set_cons_zero]
      apply wpK_val
      · rfl
      · intro w' hw'
        go_simp
        first | exact rfl | exact ⟨rfl, hw'⟩
      simp only [Act.put, List.setIfInBounds_toArray, List.set_cons_succ, List.set_cons_zero]
      apply wpK_val
      · rfl
      · intro w' hw'
        go_simp
        first | exact rfl | exact ⟨rfl, hw'⟩
      simp only [Act.put, List.setIfInBounds_toArray, List.set_cons_succ, List.set_cons_zero]
      apply wpK_val
      · rfl
      · intro w' hw'
        go_simp
        first | exact rfl | exact ⟨rfl, hw'⟩
      simp only [Act.put, List.setIfInBounds_toArray, List.set_cons_succ, List.set_cons_zero]
      apply wpK_val
      · rfl
      · intro w' hw'
        go_simp
        first | exact rfl | exact ⟨rfl, hw'⟩
      simp only [Act.put, List.setIfInBounds_toArray, List.set_cons_succ, List.set_cons_zero]
      apply wpK_val
      · rfl
      · intro w' hw'
        go_simp
        first | exact rfl | exact ⟨rfl, hw'⟩
      simp only [Act.put, List.setIfInBounds_toArray, List.set_cons_succ, List.set_cons_zero]
      apply wpK_val
      · rfl
      · intro w' hw'
        have hcell := (hw'.cell (World.block_lt_of_cell? _ _ L0_21.out)).trans L0_21.out
        go_simp
        first | exact rfl | exact ⟨rfl, hw'⟩
      simp only [Act.put, List.setIfInBounds_toArray, List.set_cons_succ, List.set_cons_zero]
      apply wpK_val
      · rfl
      · intro w' hw'
        go_simp
        first | exact rfl | exact ⟨rfl, hw'⟩
      simp only [Act.put, List.setIfInBounds_toArray, List.set_cons_succ, List.set_cons_zero]
      apply wpK_val
      · rfl
      · intro w' hw'
        go_simp
        first | exact rfl | exact ⟨rfl, hw'⟩
      simp only [Act.put, List.setIfInBounds_toArray, List.set_cons_succ, List.set_cons_zero]
      apply wpK_val
      · rfl
      · intro w' hw'
        go_simp
        first | exact rfl | exact ⟨rfl, hw'⟩
      simp only [Act.put, List.setIfInBounds_toArray, List.set_cons_succ, List.set_cons_zero]
      apply wpK_val
      · rfl
      · intro w' hw'
        go_simp
        first | exact rfl | exact ⟨rfl, hw'⟩
      simp only [Act.put, List.setIfInBounds_toArray, List.set_cons_succ, List.set_cons_zero]
      apply wpK_val
      · rfl
      · intro w' hw'
        go_simp
        first | exact rfl | exact ⟨rfl, hw'⟩
      simp only [Act.put, List.setIfInBounds_toArray, List.set_cons_succ, List.set_cons_zero]
      apply wpK_val
      · rfl
      · intro w' hw'
        have hcell : w'.cell? ⟨bL0, 1, none⟩ = some (.int .i64 3) := by have h := (hw'.cell (World.block_lt_of_cell? _ _ L1_21.out)).trans L1_21.out; rwa [← E01.out] at h
        go_simp
        first | exact rfl | exact ⟨rfl, hw'⟩
      simp only [Act.put, List.setIfInBounds_toArray, List.set_cons_succ, List.set_cons_zero]
      apply wpK_val
      · rfl
      · intro w' hw'
        go_simp
        first | exact rfl | exact ⟨rfl, hw'⟩
      simp only [Act.put, List.setIfInBounds_toArray, List.set_cons_succ, List.set_cons_zero]
      apply wpK_val
      · rfl
      · intro w' hw'
        go_simp
        first | exact rfl | exact ⟨rfl, hw'⟩
      simp only [Act.put, List.setIfInBounds_toArray, List.set_cons_succ, List.set_cons_zero]
      apply wpK_val
      · rfl
      · intro w' hw'
        go_simp
        first | exact rfl | exact ⟨rfl, hw'⟩
      simp only [Act.put, List.setIfInBounds_toArray, List.set_cons_succ, List.set_cons_zero]
      apply kld
      · rfl
      · rfl
      · exact fun w' hw' => A_21.out.below hw' A_21.out.lt
      simp only [Act.put, List.setIfInBounds_toArray, List.set_cons_succ, List.set_cons_zero]
      apply wpK_val
      · rfl
      · intro w' hw'
        go_simp
        exact (fill_any 1 _).mono fun e w'' ⟨he, hb'⟩ => ⟨he, hw'.trans (hb'.mono hw'.size)⟩
      simp only [Act.put, List.setIfInBounds_toArray, List.set_cons_succ, List.set_cons_zero]
      apply wpK_val
      · rfl
      · intro w' hw'
        have e1 : eqS (fun _ => 1) (fun _ => 1) = true := ee1.out
        go_simp
        first | exact rfl | exact ⟨rfl, hw'⟩
      simp only [Act.put, List.setIfInBounds_toArray, List.set_cons_succ, List.set_cons_zero]
      apply wpK_val
      · rfl
      · intro w' hw'
        go_simp
        first | exact rfl | exact ⟨rfl, hw'⟩
      simp only [Act.put, List.setIfInBounds_toArray, List.set_cons_succ, List.set_cons_zero]
      apply wpK_val
      · rfl
      · intro w' hw'
        go_simp
        first | exact rfl | exact ⟨rfl, hw'⟩
      simp only [Act.put, List.setIfInBounds_toArray, List.set_cons_succ, List.set_cons_zero]
      apply wpK_val
      · rfl
      · intro w' hw'
        go_simp
        first | exact rfl | exact ⟨rfl, hw'⟩
      simp only [Act.put, List.setIfInBounds_toArray, List.set_cons_succ, List.set_cons_zero]
      apply wpK_val
      · rfl
      · intro w' hw'
        go_simp
        first | exact rfl | exact ⟨rfl, hw'⟩
      simp only [Act.put, List.setIfInBounds_toArray, List.set_cons_succ, List.set_cons_zero]
      apply wpK_val
      · rfl
      · intro w' hw'
        go_simp
        first | exact rfl | exact ⟨rfl, hw'⟩
      simp only [Act.put, List.setIfInBounds_toArray, List.set_cons_succ, List.set_cons_zero]
      refine wpK_nil fun w22 h22 => ?_
      have P22 := hid (P21.out.on h22)
      have B22 := hid (B21.out.trans (h22.mono B21.out.size))
      have L0_22 := hid ((h22.cell (World.block_lt_of_cell? _ _ L0_21.out)).trans L0_21.out)
      have L1_22 := hid ((h22.cell (World.block_lt_of_cell? _ _ L1_21.out)).trans L1_21.out)
      have A_22 := hid (A_21.out.below h22 A_21.out.lt)
      have Z_22 := hid (Z_21.out.below h22 Z_21.out.lt)
      clear h22
      clear P21 B21 L0_21 L1_21 A_21 Z_21
      go_wp2_with fail
      refine wp_region_tail (C := fun w' => Below w22.heap.size w22 w') 34 (by kernel_rfl) (by kernel_rfl) (by kernel_rfl) (Below.refl _ _).drew ?_
      simp only [List.take_succ_cons, List.take_zero, List.drop_succ_cons, List.drop_zero]
      apply wpK_val
      · rfl
      · intro w' hw'
        go_simp
        first | exact rfl | exact ⟨rfl, hw'⟩
      simp only [Act.put, List.setIfInBounds_toArray, List.set_cons_succ, List.set_cons_zero]
      apply wpK_val
      · rfl
      · intro w' hw'
        go_simp
        first | exact rfl | exact ⟨rfl, hw'⟩
      simp only [Act.put, List.setIfInBounds_toArray, List.set_cons_succ, List.set_cons_zero]
      apply wpK_val
      · rfl
      · intro w' hw'
        go_simp
        first | exact rfl | exact ⟨rfl, hw'⟩
      simp only [Act.put, List.setIfInBounds_toArray, List.set_cons_succ, List.set_cons_zero]
      apply wpK_val
      · rfl
      · intro w' hw'
        go_simp
        first | exact rfl | exact ⟨rfl, hw'⟩
      simp only [Act.put, List.setIfInBounds_toArray, List.set_cons_succ, List.set_cons_zero]
      apply wpK_val
      · rfl
      · intro w' hw'
        go_simp
        first | exact rfl | exact ⟨rfl, hw'⟩
      simp only [Act.put, List.setIfInBounds_toArray, List.set_cons_succ, List.set_cons_zero]
      apply wpK_val
      · rfl
      · intro w' hw'
        go_simp
        first | exact rfl | exact ⟨rfl, hw'⟩
      simp only [Act.put, List.setIfInBounds_toArray, List.set_cons_succ, List.set_cons_zero]
      apply wpK_val
      · rfl
      · intro w' hw'
        go_simp
        first | exact rfl | exact ⟨rfl, hw'⟩
      simp only [Act.put, List.setIfInBounds_toArray, List.set_cons_succ, List.set_cons_zero]
      apply wpK_val
      · rfl
      · intro w' hw'
        go_simp
        first | exact rfl | exact ⟨rfl, hw'⟩
      simp only [Act.put, List.setIfInBounds_toArray, List.set_cons_succ, List.set_cons_zero]
      apply kld
      · rfl
      · rfl
      · exact fun w' hw' => Z_22.out.below hw' Z_22.out.lt
      simp only [Act.put, List.setIfInBounds_toArray, List.set_cons_succ, List.set_cons_zero]
      apply wpK_val
      · rfl
      · intro w' hw'
        go_simp
        exact (fill_any 0 _).mono fun e w'' ⟨he, hb'⟩ => ⟨he, hw'.trans (hb'.mono hw'.size)⟩
      simp only [Act.put, List.setIfInBounds_toArray, List.set_cons_succ, List.set_cons_zero]
      apply wpK_val
      · rfl
      · intro w' hw'
        have e0 : eqS (fun _ => 0) (fun _ => 0) = true := ee0.out
        go_simp
        first | exact rfl | exact ⟨rfl, hw'⟩
      simp only [Act.put, List.setIfInBounds_toArray, List.set_cons_succ, List.set_cons_zero]
      apply wpK_val
      · rfl
      · intro w' hw'
        go_simp
        first | exact rfl | exact ⟨rfl, hw'⟩
      simp only [Act.put, List.setIfInBounds_toArray, List.set_cons_succ, List.set_cons_zero]
      apply wpK_val
      · rfl
      · intro w' hw'
        go_simp
        first | exact rfl | exact ⟨rfl, hw'⟩
      simp only [Act.put, List.setIfInBounds_toArray, List.set_cons_succ, List.set_cons_zero]
      apply wpK_val
      · rfl
      · intro w' hw'
        go_simp
        first | exact rfl | exact ⟨rfl, hw'⟩
      simp only [Act.put, List.setIfInBounds_toArray, List.set_cons_succ, List.set_cons_zero]
      apply wpK_val
      · rfl
      · intro w' hw'
        go_simp
        first | exact rfl | exact ⟨rfl, hw'⟩
      simp only [Act.put, List.setIfInBounds_toArray, List.set_cons_succ, List.set_cons_zero]
      apply wpK_val
      · rfl
      · intro w' hw'
        go_simp
        first | exact rfl | exact ⟨rfl, hw'⟩
      simp only [Act.put, List.setIfInBounds_toArray, List.set_cons_succ, List.set_cons_zero]
      apply wpK_val
      · rfl
      · intro w' hw'
        go_simp
        first | exact rfl | exact ⟨rfl, hw'⟩
      simp only [Act.put, List.setIfInBounds_toArray, List.set_cons_succ, List.set_cons_zero]
      apply wpK_val
      · rfl
      · intro w' hw'
        go_simp
        first | exact rfl | exact ⟨rfl, hw'⟩
      simp only [Act.put, List.setIfInBounds_toArray, List.set_cons_succ, List.set_cons_zero]
      apply wpK_val
      · rfl
      · intro w' hw'
        go_simp
        first | exact rfl | exact ⟨rfl, hw'⟩
      simp only [Act.put, List.setIfInBounds_toArray, List.set_cons_succ, List.set_cons_zero]
      apply wpK_val
      · rfl
      · intro w' hw'
        go_simp
        first | exact rfl | exact ⟨rfl, hw'⟩
      simp only [Act.put, List.setIfInBounds_toArray, List.set_cons_succ, List.set_cons_zero]
      apply wpK_val
      · rfl
      · intro w' hw'
        go_simp
        first | exact rfl | exact ⟨rfl, hw'⟩
      simp only [Act.put, List.setIfInBounds_toArray, List.set_cons_succ, List.set_cons_zero]
      apply wpK_val
      · rfl
      · intro w' hw'
        go_simp
        first | exact rfl | exact ⟨rfl, hw'⟩
      simp only [Act.put, List.setIfInBounds_toArray, List.set_cons_succ, List.set_cons_zero]
      apply wpK_val
      · rfl
      · intro w' hw'
        go_simp
        first | exact rfl | exact ⟨rfl, hw'⟩
      simp only [Act.put, List.setIfInBounds_toArray, List.set_cons_succ, List.set_cons_zero]
      apply wpK_val
      · rfl
      · intro w' hw'
        go_simp
        first | exact rfl | exact ⟨rfl, hw'⟩
      simp only [Act.put, List.setIfInBounds_toArray, List.set_cons_succ, List.set_cons_zero]
      apply wpK_val
      · rfl
      · intro w' hw'
        go_simp
        first | exact rfl | exact ⟨rfl, hw'⟩
      simp only [Act.put, List.setIfInBounds_toArray, List.set_cons_succ, List.set_cons_zero]
      apply wpK_val
      · rfl
      · intro w' hw'
        go_simp
        first | exact rfl | exact ⟨rfl, hw'⟩
      simp only [Act.put, List.setIfInBounds_toArray, List.set_cons_succ, List.set_cons_zero]
      apply wpK_val
      · rfl
      · intro w' hw'
        go_simp
        first | exact rfl | exact ⟨rfl, hw'⟩
      simp only [Act.put, List.setIfInBounds_toArray, List.set_cons_succ, List.set_cons_zero]
      apply wpK_val
      · rfl
      · intro w' hw'
        go_simp
        first | exact rfl | exact ⟨rfl, hw'⟩
      simp only [Act.put, List.setIfInBounds_toArray, List.set_cons_succ, List.set_cons_zero]
      apply wpK_val
      · rfl
      · intro w' hw'
        go_simp
        first | exact rfl | exact ⟨rfl, hw'⟩
      simp only [Act.put, List.setIfInBounds_toArray, List.set_cons_succ, List.set_cons_zero]
      apply wpK_val
      · rfl
      · intro w' hw'
        go_simp
        first | exact rfl | exact ⟨rfl, hw'⟩
      simp only [Act.put, List.setIfInBounds_toArray, List.set_cons_succ, List.set_cons_zero]
      apply wpK_val
      · rfl
      · intro w' hw'
        go_simp
        first | exact rfl | exact ⟨rfl, hw'⟩
      simp only [Act.put, List.setIfInBounds_toArray, List.set_cons_succ, List.set_cons_zero]
      apply wpK_val
      · rfl
      · intro w' hw'
        go_simp
        exact (pright_any (P22.out.on hw')).mono fun e w'' ⟨he, hb'⟩ => ⟨by rw [he, rt_right (by omega) (by omega) k11], hw'.trans (hb'.mono hw'.size)⟩
      simp only [Act.put, List.setIfInBounds_toArray, List.set_cons_succ, List.set_cons_zero]
      apply wpK_val
      · rfl
      · intro w' hw'
        go_simp
        first | exact rfl | exact ⟨rfl, hw'⟩
      simp only [Act.put, List.setIfInBounds_toArray, List.set_cons_succ, List.set_cons_zero]
      apply wpK_val
      · rfl
      · intro w' hw'
        go_simp
        first | exact rfl | exact ⟨rfl, hw'⟩
      simp only [Act.put, List.setIfInBounds_toArray, List.set_cons_succ, List.set_cons_zero]
      refine wpK_nil fun w23 h23 => ?_
      have P23 := hid (P22.out.on h23)
      have B23 := hid (B22.out.trans (h23.mono B22.out.size))
      have L0_23 := hid ((h23.cell (World.block_lt_of_cell? _ _ L0_22.out)).trans L0_22.out)
      have L1_23 := hid ((h23.cell (World.block_lt_of_cell? _ _ L1_22.out)).trans L1_22.out)
      have A_23 := hid (A_22.out.below h23 A_22.out.lt)
      have Z_23 := hid (Z_22.out.below h23 Z_22.out.lt)
      clear h23
      clear P22 B22 L0_22 L1_22 A_22 Z_22
      clear L0_23 L1_23 Z_23 P23
      go_wp2_with fail
      refine (new_bad 3 (by omega) _).mono ?_
      rintro e wq ⟨rfl, rfl⟩
      go_wp2_with fail
      refine (new_bad 65 (by omega) _).mono ?_
      rintro e wq ⟨rfl, rfl⟩
      go_upto_region 28 with fail
      generalize hw24 : World.alloc w23 _ = w24
      have h24 : Below w23.heap.size w23 w24 := by rw [← hw24]; exact (Below.refl _ _).alloc (Nat.le_refl _) _
      have E24 := hid (show Cn w24 (.pointer (some ⟨w23.heap.size, 0, none⟩)) 0 from .inr ⟨_, none, 0, rfl, by rw [← hw24]; exact (Blk.new _ _ _).cell 0⟩)
      have B24 := hid (B23.out.trans (h24.mono B23.out.size))
      have A_24 := hid (A_23.out.below h24 A_23.out.lt)
      obtain ⟨bE, hbE⟩ : ∃ b, b = w23.heap.size := ⟨_, rfl⟩
      rw [← hbE] at E24 ⊢
      clear h24 hw24 hbE
      clear B23 A_23
      go_wp2_with fail
      refine (mend_none' (w := w24) (.inl ⟨rfl, rfl⟩)).mono ?_
      rintro e wq ⟨rfl, rfl⟩
      go_wp2_with ((with_reducible apply ld); rfl; exact A_24.out)
      refine (write_none E24.out 0 (fun _ => 1)).mono ?_
      rintro e w25 ⟨rfl, h25⟩
      have E25 := hid (E24.out.on h25)
      have B25 := hid (B24.out.trans (h25.mono B24.out.size))
      have A_25 := hid (A_24.out.below h25 A_24.out.lt)
      clear h25 E24
      clear B24 A_24
      go_wp2_with fail
      refine (get_none (w := w25) (.inl ⟨rfl, rfl⟩) 0).mono ?_
      rintro e w26 ⟨rfl, h26⟩
      have E26 := hid (E25.out.on h26)
      have B26 := hid (B25.out.trans (h26.mono B25.out.size))
      have A_26 := hid (A_25.out.below h26 A_25.out.lt)
      clear h26 E25
      clear B25 A_25
      go_upto_region 31 with (first | ((with_reducible apply stx); rfl; rfl; exact Blk.top zlit rfl))
      generalize hw27 : World.setRow (World.alloc w26 _) _ _ = w27
      have h27 : Below w26.heap.size w26 w27 := by rw [← hw27]; exact below_setRow ((Below.refl _ _).alloc (Nat.le_refl _) _) (Nat.le_refl _) _
      have E27 := hid (E26.out.on h27)
      have B27 := hid (B26.out.trans (h27.mono B26.out.size))
      have A_27 := hid (A_26.out.below h27 A_26.out.lt)
      clear h27 hw27 E26
      clear B26 A_26
      go_wp2_with ((with_reducible apply ldg); rfl; rfl; exact A_27.out)
      refine (put_none (w := w27) (.inl ⟨rfl, rfl⟩) 0 (fun _ => 1)).mono ?_
      rintro e w28 ⟨rfl, h28⟩
      have E28 := hid (E27.out.on h28)
      have B28 := hid (B27.out.trans (h28.mono B27.out.size))
      have A_28 := hid (A_27.out.below h28 A_27.out.lt)
      clear h28 E27
      clear B27 A_27
      go_wp2_with fail
      refine (lose_none E28.out 0).mono ?_
      rintro e w29 ⟨rfl, h29⟩
      have E29 := hid (E28.out.on h29)
      have B29 := hid (B28.out.trans (h29.mono B28.out.size))
      have A_29 := hid (A_28.out.below h29 A_28.out.lt)
      clear h29 E28
      clear B28 A_28
      go_wp2_with fail
      refine (lost_none (w := w29) (.inl ⟨rfl, rfl⟩)).mono ?_
      rintro e w30 ⟨vN, rfl, oN, h30⟩
      obtain ⟨AN, cN, rfl⟩ := OwnI.len oN
      clear oN
      simp only [List.length_nil]
      have E30 := hid (E29.out.on h30)
      have B30 := hid (B29.out.trans (h30.mono B29.out.size))
      have A_30 := hid (A_29.out.below h30 A_29.out.lt)
      clear h30 E29
      clear B29 A_29
      go_wp2_with fail
      refine (right_none E30.out).mono ?_
      rintro e wq ⟨rfl, rfl⟩
      go_wp2_with fail
      refine (columns_any (w := w30) (n := 0) (.inl ⟨rfl, rfl⟩)).mono ?_
      rintro e wq ⟨rfl, rfl⟩
      go_wp2_with fail
      refine (works_any _).mono ?_
      rintro e wz ⟨rfl, hz⟩
      have BZ := hid (B30.out.trans (hz.mono B30.out.size))
      clear hz
      go_wp2_with fail
      go_ret
      exact ⟨rfl, BZ.out⟩
end StM
end Go.Proofs.Ytlbfjnddbdpdpaa
set_option maxRecDepth 100000
namespace Go.Proofs.Ytlbfjnddbdpdpaa
open Go.ChangeShapes Go.WideShapes Go.ChangeAt Go.RowKit
attribute [local go_sem] Gives GivesE
attribute [local go_sem high] run_eql_sec run_neq_sec
namespace StM
theorem row_low' {W : World} {B B' : Nat} {e : TypeId} {size : Nat} {v : Value} {k : Nat} {xs : List Value} (h : W.ownsRow B e size v k xs) (hB : B' ≤ B) : W.ownsRow B' e size v k xs :=
  ⟨h.1, h.2.imp id fun ⟨g, cap, cur, hv, hg, rest⟩ => ⟨g, cap, cur, hv, Nat.le_trans hB hg, rest⟩⟩
section
variable {w : World} {g gc cc gg cg : Nat} {s : Rw}
/-- What Write answers, and leaves. -/
def WriOut (w : World) (g gc gg : Nat) (s : Rw) (c : Int) (x : Nat → Nat) (e : Ending) (w' : World) : Prop :=
  ∃ A k, e = .returned (.tuple #[.slice A (wriL s c x).length k, .int .i64 (wriE s c)]) ∧ OwnI w' w.heap.size (.slice A (wriL s c x).length k) (wriL s c x) ∧ outR w g gc gg (wriT s c x) w'
theorem WriOut.no {w w' : World} {c : Int} {x : Nat → Nat} (E : Nat) (hE : wriE s c = E) (h0 : E ≠ 0) (H : Rq w' g gc cc gg cg s) (hb : Below w.heap.size w w') : WriOut w g gc gg s c x (.returned (.tuple #[.slice none 0 0, .int .i64 E])) w' := by
  have e1 : wriL s c x = [] := by unfold wriL; rw [if_neg (by omega)]
  have e2 : wriT s c x = s := by unfold wriT; rw [if_neg (by omega)]
  refine ⟨none, 0, by rw [e1, hE]; rfl, by rw [e1]; exact World.ownsRow_nil _ _ _ _, ?_⟩
  rw [e2]
  exact ⟨gc, cc, gg, cg, H, .inl rfl, .inl rfl, Turn.of_new hb⟩
set_option maxRecDepth 100000 in
set_option maxHeartbeats 4000000 in
theorem rwrite_any (H : Rq w g gc cc gg cg s) (hk : s.ok) (c : Int) (x : Nat → Nat) (hx : ∀ k, x k < 256) : Calls Try.prog 19 #[.pointer (some ⟨g, 0, none⟩), .int .i64 c, .agg (sec x)] w (WriOut w g gc gg s c x) := by
  have HH := hid H
  have h4 := hk.lo
  have h6 := hk.hi
  have HK := hid hk
  have HX := hid hx
  clear H hk hx
  obtain ⟨d, hd⟩ : ∃ d, d = s.n - 2 := ⟨_, rfl⟩
  have hn : s.n = d + 2 := by omega
  have D := hid hd
  have N := hid hn
  have w1 : wrap64 ((s.n : Int) - 2) = (d : Int) := by rw [IntWalk.wrap64_in _ (by omega)]; omega
  by_cases hdat : s.dat c
  · have hgc : d < s.n ∧ d + 1 < s.n := by omega
    by_cases hl : s.lost = []
    · obtain ⟨j, rfl⟩ : ∃ j : Nat, c = j := ⟨c.toNat, by have := hdat.1; omega⟩
      have hjd : j < d := by have := hdat.2; omega
      have hE := hid (show wriE s j = 0 by unfold wriE; rw [if_pos hdat, if_pos hl])
      have LL := hid hl
      have JD := hid hjd
      have hdn := hgc.1
      have hdn1 := hgc.2
      have hjn : j < s.n := by omega
      have hd62 : d ≤ 62 := by omega
      have tj0 : ¬ (j : Int) < 0 := by omega
      have tjd : ¬ (d : Int) ≤ (j : Int) := by omega
      obtain ⟨Y, hY⟩ : ∃ Y, Y = chg (x3 (s.F d) (s.F (d + 1)) (s.F j)) j x := ⟨_, rfl⟩
      have YE := hid hY
      have CH := hid (show ∀ w', Calls Try.prog 41 #[.agg (secs 3 (x3 (s.F d) (s.F (d + 1)) (s.F j))), .int .i64 j, .agg (sec x)] w' fun e w'' => e = .returned (.tuple #[.agg (secs 3 Y), .int .i64 0]) ∧ Below w'.heap.size w' w'' from fun w' => by
        rw [YE.out]
        exact rchange_ok _ x j (by omega) (x3_lt (HK.out.by' _) (HK.out.by' _) (HK.out.by' _)) HX.out w')
      have hW := hid (show ∀ i k, i < s.n → wriF s j x i k = upd (upd (upd s.F j x) d (Y 0)) (d + 1) (Y 1) i k from fun i k hi => by
        unfold wriF
        rw [← hd, show s.n - 1 = d + 1 by omega, hY]
        unfold upd
        by_cases e1 : i = j
        · rw [if_pos e1, if_neg (by omega), if_neg (by omega), if_pos e1]
        · rw [if_neg e1]
          by_cases e2 : i = d
          · rw [if_pos e2, if_neg (by omega), if_pos e2]; rfl
          · rw [if_neg e2]
            by_cases e3 : i = d + 1
            · rw [if_pos e3, if_pos e3]; rfl
            · rw [if_neg e3, if_neg e3, if_neg e2, if_neg e1])
      have wr2 := hid (show IntKind.i64.wrap ((d : Int) + 1) = ((d + 1 : Nat) : Int) by rw [show ((d : Int) + 1) = ((d + 1 : Nat) : Int) by omega]; exact IntWalk.i64_in _ (by omega))
      have am := hid (show ((s.n : Int) - 2) = (d : Int) by omega)
      clear hdat hd hn hY hl w1 hgc
      go_enter Try.func19, Try.ntmps19
      go_upto_region 1 with fail
      generalize hw1 : World.alloc w _ = w1
      have B1 := hid (show Below w.heap.size w w1 by rw [← hw1]; exact (Below.refl _ _).alloc (Nat.le_refl _) _)
      have bS := hid (show Blk w1 w.heap.size 32 (sec x) by rw [← hw1]; exact Blk.top rfl rfl)
      have H1 := hid (HH.out.on B1.out)
      have q0 := H1.out.q0
      clear hw1
      have tj1 : ¬ ((s.n : Int) - 2) ≤ (j : Int) := by have := am.out; omega
      go_wp2_with fail
      refine (rlost_any H1.out h6).mono ?_
      rintro e w3 ⟨v, rfl, oi, h3⟩
      obtain ⟨A3, c3, rfl⟩ := OwnI.len oi
      rw [LL.out, am.out]
      have B3 := hid (B1.out.trans (h3.mono B1.out.size))
      have H3 := hid (H1.out.on h3)
      have bS3 := hid (bS.out.below h3 bS.out.lt)
      clear oi h3 q0 tj1
      go_wp2_with fail
      have q0 := H3.out.q0
      refine wp_region_c (S := yS [some (.pointer (some ⟨g, 0, none⟩)), some (.pointer (some ⟨g, 0, none⟩)), some (.pointer (some ⟨g, 0, none⟩)), some (.slice (some ⟨gc, 0, none⟩) s.n cc), some (.int .i64 d), some (.pointer (some ⟨gc, d * 64, none⟩)), some (.agg (sec (s.F d))),
          some (.pointer (some ⟨g, 0, none⟩)), some (.pointer (some ⟨g, 0, none⟩)), some (.pointer (some ⟨g, 0, none⟩)), some (.slice (some ⟨gc, 0, none⟩) s.n cc), some (.int .i64 d), some (.int .i64 ((d + 1 : Nat) : Int)), some (.pointer (some ⟨gc, (d + 1) * 64, none⟩)), some (.agg (sec (s.F (d + 1)))),
          some (.pointer (some ⟨g, 0, none⟩)), some (.pointer (some ⟨g, 0, none⟩)), some (.pointer (some ⟨g, 0, none⟩)), some (.slice (some ⟨gc, 0, none⟩) s.n cc), some (.int .i64 j), some (.pointer (some ⟨gc, j * 64, none⟩)), some (.agg (sec (s.F j))),
          some (.agg (secs 3 (x3 (s.F d) (s.F (d + 1)) (s.F j)))), some (.int .i64 j), some (.agg (sec x)), some (.tuple #[.agg (secs 3 Y), .int .i64 0]), some (.tuple #[.agg (secs 3 Y), .int .i64 0]), some (.agg (secs 3 Y)), some (.int .i64 0), none, some undef, some (.int .i64 0)] [(29, kPtr)])
        (C := fun dd vs w' => NvC w3 Y (dd 29) (dd 30) (vs 29) w') 32 (by kernel_rfl) (by kernel_rfl) (by kernel_rfl) _ (yS_ok _ fun y hy => by simp only [List.mem_cons, List.not_mem_nil, or_false] at hy; rcases hy with rfl; exact kPtr_ok) ⟨(Below.refl _ _).drew, fun e => by cases e⟩ fun vs => ?_
      simp only [List.take_succ_cons, List.take_zero, List.drop_succ_cons, List.drop_zero]
      refine ⟨.inl ⟨rfl, fun dd w' hd hnx hw hC => ?_⟩, fun e => ?_⟩
      · go_simp
        first | exact ⟨rfl, hC⟩ | exact hC
      have e' : vs 0 = _ := e
      rw [e']
      clear e e'
      simp only [Act.put, List.setIfInBounds_toArray, List.set_cons_succ, List.set_cons_zero]
      refine ⟨.inl ⟨rfl, fun dd w' hd hnx hw hC => ?_⟩, fun e => ?_⟩
      · go_simp
        first | exact ⟨rfl, hC⟩ | exact hC
      have e' : vs 1 = _ := e
      rw [e']
      clear e e'
      simp only [Act.put, List.setIfInBounds_toArray, List.set_cons_succ, List.set_cons_zero]
      refine ⟨.inl ⟨rfl, fun dd w' hd hnx hw hC => ?_⟩, fun e => ?_⟩
      · go_simp
        first | exact ⟨rfl, hC⟩ | exact hC
      have e' : vs 2 = _ := e
      rw [e']
      clear e e'
      simp only [Act.put, List.setIfInBounds_toArray, List.set_cons_succ, List.set_cons_zero]
      refine ⟨.inl ⟨rfl, fun dd w' hd hnx hw hC => ?_⟩, fun e => ?_⟩
      · have q0 : w'.cell? ⟨g, 0, none⟩ = some (.slice (some ⟨gc, 0, none⟩) s.n cc) := (H3.out.on hC.b).q0
        go_simp
        first | exact ⟨rfl, hC⟩ | exact hC
      have e' : vs 3 = _ := e
      rw [e']
      clear e e'
      simp only [Act.put, List.setIfInBounds_toArray, List.set_cons_succ, List.set_cons_zero]
      refine ⟨.inl ⟨rfl, fun dd w' hd hnx hw hC => ?_⟩, fun e => ?_⟩
      · go_simp
        first | exact ⟨rfl, hC⟩ | exact hC
      have e' : vs 4 = _ := e
      rw [e']
      clear e e'
      simp only [Act.put, List.setIfInBounds_toArray, List.set_cons_succ, List.set_cons_zero]
      refine ⟨.inl ⟨rfl, fun dd w' hd hnx hw hC => ?_⟩, fun e => ?_⟩
      · go_simp
        first | exact ⟨rfl, hC⟩ | exact hC
      have e' : vs 5 = _ := e
      rw [e']
      clear e e'
      simp only [Act.put, List.setIfInBounds_toArray, List.set_cons_succ, List.set_cons_zero]
      refine ⟨.inl ⟨rfl, fun dd w' hd hnx hw hC => ?_⟩, fun e => ?_⟩
      · exact gE_ldS rfl ((H3.out.on hC.b).col hdn) ⟨rfl, hC⟩
      have e' : vs 6 = _ := e
      rw [e']
      clear e e'
      simp only [Act.put, List.setIfInBounds_toArray, List.set_cons_succ, List.set_cons_zero]
      refine ⟨.inl ⟨rfl, fun dd w' hd hnx hw hC => ?_⟩, fun e => ?_⟩
      · go_simp
        first | exact ⟨rfl, hC⟩ | exact hC
      have e' : vs 7 = _ := e
      rw [e']
      clear e e'
      simp only [Act.put, List.setIfInBounds_toArray, List.set_cons_succ, List.set_cons_zero]
      refine ⟨.inl ⟨rfl, fun dd w' hd hnx hw hC => ?_⟩, fun e => ?_⟩
      · go_simp
        first | exact ⟨rfl, hC⟩ | exact hC
      have e' : vs 8 = _ := e
      rw [e']
      clear e e'
      simp only [Act.put, List.setIfInBounds_toArray, List.set_cons_succ, List.set_cons_zero]
      refine ⟨.inl ⟨rfl, fun dd w' hd hnx hw hC => ?_⟩, fun e => ?_⟩
      · go_simp
        first | exact ⟨rfl, hC⟩ | exact hC
      have e' : vs 9 = _ := e
      rw [e']
      clear e e'
      simp only [Act.put, List.setIfInBounds_toArray, List.set_cons_succ, List.set_cons_zero]
      refine ⟨.inl ⟨rfl, fun dd w' hd hnx hw hC => ?_⟩, fun e => ?_⟩
      · have q0 : w'.cell? ⟨g, 0, none⟩ = some (.slice (some ⟨gc, 0, none⟩) s.n cc) := (H3.out.on hC.b).q0
        go_simp
        first | exact ⟨rfl, hC⟩ | exact hC
      have e' : vs 10 = _ := e
      rw [e']
      clear e e'
      simp only [Act.put, List.setIfInBounds_toArray, List.set_cons_succ, List.set_cons_zero]
      refine ⟨.inl ⟨rfl, fun dd w' hd hnx hw hC => ?_⟩, fun e => ?_⟩
      · go_simp
        first | exact ⟨rfl, hC⟩ | exact hC
      have e' : vs 11 = _ := e
      rw [e']
      clear e e'
      simp only [Act.put, List.setIfInBounds_toArray, List.set_cons_succ, List.set_cons_zero]
      refine ⟨.inl ⟨rfl, fun dd w' hd hnx hw hC => ?_⟩, fun e => ?_⟩
      · have hq : IntKind.i64.wrap ((d : Int) + 1) = ((d + 1 : Nat) : Int) := wr2.out
        go_simp
        first | exact ⟨rfl, hC⟩ | exact hC
      have e' : vs 12 = _ := e
      rw [e']
      clear e e'
      simp only [Act.put, List.setIfInBounds_toArray, List.set_cons_succ, List.set_cons_zero]
      refine ⟨.inl ⟨rfl, fun dd w' hd hnx hw hC => ?_⟩, fun e => ?_⟩
      · have hq : (0 : Int) ≤ (d : Int) + 1 ∧ (d : Int) + 1 < (s.n : Int) := ⟨by omega, by omega⟩
        go_simp
        first | exact ⟨rfl, hC⟩ | exact hC
      have e' : vs 13 = _ := e
      rw [e']
      clear e e'
      simp only [Act.put, List.setIfInBounds_toArray, List.set_cons_succ, List.set_cons_zero]
      refine ⟨.inl ⟨rfl, fun dd w' hd hnx hw hC => ?_⟩, fun e => ?_⟩
      · exact gE_ldS rfl ((H3.out.on hC.b).col hdn1) ⟨rfl, hC⟩
      have e' : vs 14 = _ := e
      rw [e']
      clear e e'
      simp only [Act.put, List.setIfInBounds_toArray, List.set_cons_succ, List.set_cons_zero]
      refine ⟨.inl ⟨rfl, fun dd w' hd hnx hw hC => ?_⟩, fun e => ?_⟩
      · go_simp
        first | exact ⟨rfl, hC⟩ | exact hC
      have e' : vs 15 = _ := e
      rw [e']
      clear e e'
      simp only [Act.put, List.setIfInBounds_toArray, List.set_cons_succ, List.set_cons_zero]
      refine ⟨.inl ⟨rfl, fun dd w' hd hnx hw hC => ?_⟩, fun e => ?_⟩
      · go_simp
        first | exact ⟨rfl, hC⟩ | exact hC
      have e' : vs 16 = _ := e
      rw [e']
      clear e e'
      simp only [Act.put, List.setIfInBounds_toArray, List.set_cons_succ, List.set_cons_zero]
      refine ⟨.inl ⟨rfl, fun dd w' hd hnx hw hC => ?_⟩, fun e => ?_⟩
      · go_simp
        first | exact ⟨rfl, hC⟩ | exact hC
      have e' : vs 17 = _ := e
      rw [e']
      clear e e'
      simp only [Act.put, List.setIfInBounds_toArray, List.set_cons_succ, List.set_cons_zero]
      refine ⟨.inl ⟨rfl, fun dd w' hd hnx hw hC => ?_⟩, fun e => ?_⟩
      · have q0 : w'.cell? ⟨g, 0, none⟩ = some (.slice (some ⟨gc, 0, none⟩) s.n cc) := (H3.out.on hC.b).q0
        go_simp
        first | exact ⟨rfl, hC⟩ | exact hC
      have e' : vs 18 = _ := e
      rw [e']
      clear e e'
      simp only [Act.put, List.setIfInBounds_toArray, List.set_cons_succ, List.set_cons_zero]
      refine ⟨.inl ⟨rfl, fun dd w' hd hnx hw hC => ?_⟩, fun e => ?_⟩
      · go_simp
        first | exact ⟨rfl, hC⟩ | exact hC
      have e' : vs 19 = _ := e
      rw [e']
      clear e e'
      simp only [Act.put, List.setIfInBounds_toArray, List.set_cons_succ, List.set_cons_zero]
      refine ⟨.inl ⟨rfl, fun dd w' hd hnx hw hC => ?_⟩, fun e => ?_⟩
      · go_simp
        first | exact ⟨rfl, hC⟩ | exact hC
      have e' : vs 20 = _ := e
      rw [e']
      clear e e'
      simp only [Act.put, List.setIfInBounds_toArray, List.set_cons_succ, List.set_cons_zero]
      refine ⟨.inl ⟨rfl, fun dd w' hd hnx hw hC => ?_⟩, fun e => ?_⟩
      · exact gE_ldS rfl ((H3.out.on hC.b).col hjn) ⟨rfl, hC⟩
      have e' : vs 21 = _ := e
      rw [e']
      clear e e'
      simp only [Act.put, List.setIfInBounds_toArray, List.set_cons_succ, List.set_cons_zero]
      refine ⟨.inl ⟨rfl, fun dd w' hd hnx hw hC => ?_⟩, fun e => ?_⟩
      · exact gE_bldr (x3 (s.F d) (s.F (d + 1)) (s.F j)) 0 [s.F d, s.F (d + 1), s.F j] (Nat.le_refl 3) x3_parts rfl ⟨rfl, hC⟩
      have e' : vs 22 = _ := e
      rw [e']
      clear e e'
      simp only [Act.put, List.setIfInBounds_toArray, List.set_cons_succ, List.set_cons_zero]
      refine ⟨.inl ⟨rfl, fun dd w' hd hnx hw hC => ?_⟩, fun e => ?_⟩
      · go_simp
        first | exact ⟨rfl, hC⟩ | exact hC
      have e' : vs 23 = _ := e
      rw [e']
      clear e e'
      simp only [Act.put, List.setIfInBounds_toArray, List.set_cons_succ, List.set_cons_zero]
      refine ⟨.inl ⟨rfl, fun dd w' hd hnx hw hC => ?_⟩, fun e => ?_⟩
      · exact gE_ldS rfl (by have := (bS3.out.below hC.b bS3.out.lt).range 0 64; rwa [Nat.zero_add, show (64 : Nat) = (sec x).size from size_sec.symm, Array.extract_size] at this) ⟨rfl, hC⟩
      have e' : vs 24 = _ := e
      rw [e']
      clear e e'
      simp only [Act.put, List.setIfInBounds_toArray, List.set_cons_succ, List.set_cons_zero]
      refine ⟨.inl ⟨rfl, fun dd w' hd hnx hw hC => ?_⟩, fun e => ?_⟩
      · go_simp
        refine (CH.out w').mono ?_
        rintro e w5 ⟨rfl, h5⟩
        exact ⟨_, rfl, rfl, hC.on h5⟩
      have e' : vs 25 = _ := e
      rw [e']
      clear e e'
      simp only [Act.put, List.setIfInBounds_toArray, List.set_cons_succ, List.set_cons_zero]
      refine ⟨.inl ⟨rfl, fun dd w' hd hnx hw hC => ?_⟩, fun e => ?_⟩
      · go_simp
        first | exact ⟨rfl, hC⟩ | exact hC
      have e' : vs 26 = _ := e
      rw [e']
      clear e e'
      simp only [Act.put, List.setIfInBounds_toArray, List.set_cons_succ, List.set_cons_zero]
      refine ⟨.inl ⟨rfl, fun dd w' hd hnx hw hC => ?_⟩, fun e => ?_⟩
      · go_simp
        first | exact ⟨rfl, hC⟩ | exact hC
      have e' : vs 27 = _ := e
      rw [e']
      clear e e'
      simp only [Act.put, List.setIfInBounds_toArray, List.set_cons_succ, List.set_cons_zero]
      refine ⟨.inl ⟨rfl, fun dd w' hd hnx hw hC => ?_⟩, fun e => ?_⟩
      · go_simp
        first | exact ⟨rfl, hC⟩ | exact hC
      have e' : vs 28 = _ := e
      rw [e']
      clear e e'
      simp only [Act.put, List.setIfInBounds_toArray, List.set_cons_succ, List.set_cons_zero]
      refine ⟨.inl ⟨rfl, fun dd w' hd hnx hw hC => ?_⟩, fun e => ?_⟩
      · have h30 : dd 30 = false := hnx 30 (by kernel_rfl)
        have ha : Below w'.heap.size w' (w'.alloc (.cells (secs 3 z3) 75)) := (Below.refl _ _).alloc (Nat.le_refl _) _
        refine gE_alR ⟨⟨_, rfl⟩, hC.b.trans (ha.mono hC.b.size), fun _ => ⟨w'.heap.size, rfl, hC.b.size, ?_⟩⟩
        show Blk _ _ _ (secs 3 (if dd 30 then Y else z3))
        rw [h30]
        exact Blk.new _ _ _
      obtain ⟨bX, e'⟩ : ∃ b : Nat, vs 29 = .pointer (some ⟨b, 0, none⟩) := e
      rw [e']
      have EX := hid e'
      clear e'
      simp only [Act.put, List.setIfInBounds_toArray, List.set_cons_succ, List.set_cons_zero]
      apply cstR bX Y
      · rfl
      · rfl
      · rfl
      · intro dd w' hd hw hC
        have h29 : dd 29 = true := hw 29 (by kernel_rfl)
        exact ⟨⟨_, (hC.get h29 EX.out).2⟩, rfl, hC.put h29 EX.out⟩
      intro e
      have e' : vs 30 = _ := e
      rw [e']
      clear e e'
      simp only [Act.put, List.setIfInBounds_toArray, List.set_cons_succ, List.set_cons_zero]
      refine ⟨.inl ⟨rfl, fun dd w' hd hnx hw hC => ?_⟩, fun e => ?_⟩
      · go_simp
        first | exact ⟨rfl, hC⟩ | exact hC
      have e' : vs 31 = _ := e
      rw [e']
      clear e e'
      simp only [Act.put, List.setIfInBounds_toArray, List.set_cons_succ, List.set_cons_zero]
      intro dd w5 hall hC
      have hbk := (hC.get (hall 29 (by omega)) EX.out).2
      rw [hall 30 (by omega)] at hbk
      have bX5 := hid (show Blk w5 bX 75 (secs 3 Y) from hbk)
      have B5 := hid (B3.out.trans (hC.b.mono B3.out.size))
      have H5 := hid (H3.out.on hC.b)
      have bS5 := hid (bS3.out.below hC.b bS3.out.lt)
      clear hbk hC EX hall H3 bS3 B3 CH q0
      have q0 := H5.out.q0
      go_upto_region 9 with ((with_reducible apply wapp (v := .slice none 0 0) (n := 0) (B := w5.heap.size) (F := fun _ _ => 0)); rfl; rfl; exact World.ownsRow_nil _ _ _ _; exact H5.out.secs; omega; exact Nat.le_refl _; intro v' w6 own grow hnil)
      obtain ⟨g6, c6, rfl, hb6, hl6, _, _⟩ := own.form fun e => by have := (hnil.1 e).2; omega
      rw [Nat.zero_add]
      have O6 := hid (show OwnS w6 w5.heap.size (.slice (some ⟨g6, 0, none⟩) s.n c6) s.n s.F by
        have h := own.mono (G := s.F) fun i k _ _ => by unfold catF; rw [if_neg (Nat.not_lt_zero _), Nat.sub_zero]
        rwa [Nat.zero_add] at h)
      have h56 : Below w5.heap.size w5 w6 := ⟨grow.os, grow.tape, grow.output, grow.size, fun k hk => grow.block k hk (by intro e; cases e)⟩
      have B6 := hid (B5.out.trans (h56.mono B5.out.size))
      have H6 := hid (H5.out.on h56)
      have bS6 := hid (bS5.out.below h56 bS5.out.lt)
      have bX6 := hid (bX5.out.below h56 bX5.out.lt)
      have D6 := hid (show (¬ g = g6 ∧ ¬ gc = g6 ∧ ¬ gg = g6) ∧ ¬ w.heap.size = g6 ∧ ¬ bX = g6 ∧ w.heap.size ≤ g6 by
        have := H5.out.gLt; have := H5.out.cLt; have := H5.out.oLt; have := bS5.out.lt; have := bX5.out.lt; have := B5.out.size; omega)
      clear own grow hnil h56 H5 bS5 bX5 B5 q0
      go_upto_region 10 with (first | ((with_reducible apply ld); rfl; exact bS6.out) | ((with_reducible apply sto0); rfl; rfl; exact O6.out; exact hjn; intro w7 o7 g7))
      have O7 := hid o7
      have T7 := hid (Turn.of_grown (S := fun b => b = g6) g7 fun b e => by cases e; rfl)
      have bX7 := hid (bX6.out.turn T7.out D6.out.2.2.1)
      have bX6b := bX6
      clear o7 g7 bX6 bS6
      go_upto_region 11 with (first | ((with_reducible apply ldm (f := Y 0) (o := 0)); rfl; exact range_secs (i := 0) bX7.out (by decide)) | ((with_reducible apply sto0); rfl; rfl; exact O7.out; exact hdn; intro w8 o8 g8))
      have O8 := hid o8
      have T8 := hid (T7.out.trans (Turn.of_grown (S := fun b => b = g6) g8 fun b e => by cases e; rfl) fun _ e => .inl e)
      have bX8 := hid (bX6b.out.turn T8.out D6.out.2.2.1)
      clear o8 g8 bX7
      have tq : (0 : Int) ≤ (d : Int) + 1 ∧ (d : Int) + 1 < (s.n : Int) := ⟨by omega, by omega⟩
      go_upto_region 12 with (first | ((with_reducible apply ldm (f := Y 1) (o := 64)); rfl; exact range_secs (i := 1) bX8.out (by decide)) | ((with_reducible apply sto0 (i := d + 1)); rfl; rfl; exact O8.out; exact hdn1; intro w9 o9 g9))
      have T9 := hid (T8.out.trans (Turn.of_grown (S := fun b => b = g6) g9 fun b e => by cases e; rfl) fun _ e => .inl e)
      have O9 := hid (o9.mono (G := wriF s j x) fun i k hi _ => hW.out i k hi)
      have H9 := hid (H6.out.turn T9.out D6.out.1.1 D6.out.1.2.1 D6.out.1.2.2)
      have B9 := hid (show Below w.heap.size w w9 from B6.out.trans (T9.out.below B6.out.size fun k e => by have := D6.out.2.2.2; omega))
      clear o9 g9 bX8 bX6b T7 T8 T9 O6 O7 O8 H6 B6 tq
      go_wp2_with fail
      go_loopw [12, 13] (fun u12 u13 wr => ∃ k : Nat, u13 = .int .i64 k ∧ k ≤ s.n ∧ Hid (OwnI wr w9.heap.size u12 (gapsL k fun i => !eqS (wriF s j x i) (s.F i))) ∧ Hid (Below w9.heap.size w9 wr)) (fun _ u13 _ => s.n - (intOf u13).toNat)
      case atStart => exact ⟨0, rfl, Nat.zero_le _, hid (World.ownsRow_nil _ _ _ _), hid (Below.refl _ _)⟩
      case round =>
        obtain ⟨k, rfl, hk, HO, HB⟩ := hrel
        have HR := hid (H9.out.on HB.out)
        have OC := hid (OwnS.below O9.out HB.out (Nat.le_refl _))
        by_cases hgo : k < s.n
        · have t1 : (k : Int) < s.n := by omega
          go_wp2_with fail
          refine wp_region_tail (C := fun w' => Below wr.heap.size wr w') 12 (by kernel_rfl) (by kernel_rfl) (by kernel_rfl) (Below.refl _ _).drew ?_
          simp only [List.take_succ_cons, List.take_zero, List.drop_succ_cons, List.drop_zero]
          apply wpK_val
          · rfl
          · intro w' hw'
            go_simp
            first | exact rfl | exact ⟨rfl, hw'⟩
          simp only [Act.put, List.setIfInBounds_toArray, List.set_cons_succ, List.set_cons_zero]
          apply wpK_val
          · rfl
          · intro w' hw'
            go_simp
            first | exact rfl | exact ⟨rfl, hw'⟩
          simp only [Act.put, List.setIfInBounds_toArray, List.set_cons_succ, List.set_cons_zero]
          apply wpK_val
          · rfl
          · intro w' hw'
            go_simp
            first | exact rfl | exact ⟨rfl, hw'⟩
          simp only [Act.put, List.setIfInBounds_toArray, List.set_cons_succ, List.set_cons_zero]
          apply kldm
          · rfl
          · rfl
          · exact fun w' hw' => by have := own_range (OwnS.below OC.out hw' (Nat.le_refl _)) hgo; rwa [Nat.zero_add] at this
          simp only [Act.put, List.setIfInBounds_toArray, List.set_cons_succ, List.set_cons_zero]
          apply wpK_val
          · rfl
          · intro w' hw'
            go_simp
            first | exact rfl | exact ⟨rfl, hw'⟩
          simp only [Act.put, List.setIfInBounds_toArray, List.set_cons_succ, List.set_cons_zero]
          apply wpK_val
          · rfl
          · intro w' hw'
            go_simp
            first | exact rfl | exact ⟨rfl, hw'⟩
          simp only [Act.put, List.setIfInBounds_toArray, List.set_cons_succ, List.set_cons_zero]
          apply wpK_val
          · rfl
          · intro w' hw'
            go_simp
            first | exact rfl | exact ⟨rfl, hw'⟩
          simp only [Act.put, List.setIfInBounds_toArray, List.set_cons_succ, List.set_cons_zero]
          apply wpK_val
          · rfl
          · intro w' hw'
            have hcell := (HR.out.on hw').q0
            go_simp
            first | exact rfl | exact ⟨rfl, hw'⟩
          simp only [Act.put, List.setIfInBounds_toArray, List.set_cons_succ, List.set_cons_zero]
          apply wpK_val
          · rfl
          · intro w' hw'
            go_simp
            first | exact rfl | exact ⟨rfl, hw'⟩
          simp only [Act.put, List.setIfInBounds_toArray, List.set_cons_succ, List.set_cons_zero]
          apply wpK_val
          · rfl
          · intro w' hw'
            go_simp
            first | exact rfl | exact ⟨rfl, hw'⟩
          simp only [Act.put, List.setIfInBounds_toArray, List.set_cons_succ, List.set_cons_zero]
          apply kldm
          · rfl
          · rfl
          · exact fun w' hw' => (HR.out.on hw').col hgo
          simp only [Act.put, List.setIfInBounds_toArray, List.set_cons_succ, List.set_cons_zero]
          cases he : eqS (wriF s j x k) (s.F k)
          · have hn := hid (gapsL_yes (m := k) (M := fun i => !eqS (wriF s j x i) (s.F i)) (by simp [he]))
            have hlen := hid (Nat.le_trans (gapsL_le k fun i => !eqS (wriF s j x i) (s.F i)) (show k ≤ 1000 by omega))
            have HE := hid he
            clear he
            apply wpK_val
            · rfl
            · intro w' hw'
              have he : eqS (wriF s j x k) (s.F k) = false := HE.out
              go_simp
              first | exact rfl | exact ⟨rfl, hw'⟩
            simp only [Act.put, List.setIfInBounds_toArray, List.set_cons_succ, List.set_cons_zero]
            refine wpK_nil fun w10 hw10 => ?_
            have O10 := hid (OwnI.below HO.out hw10 (Nat.le_refl _))
            have B10 := hid (HB.out.trans (hw10.mono HB.out.size))
            clear hw10
            go_wp2_with ((with_reducible apply wappi (y := k)); rfl; rfl; exact World.ownsRow.alloc O10.out _; simp; exact hlen.out; (have := B10.out.size; simp; omega); intro v' w11 o11 g11; have O11 := hid o11; have B11 := hid (show Below w9.heap.size w9 w11 from (B10.out.alloc B10.out.size _).grown g11 (by have := B10.out.size; simp; omega) fun x e => (O10.out.lt x e).1); clear o11 g11)
            go_roundw
            case rel => exact ⟨k + 1, by go_num, by omega, by rw [hn.out]; exact O11, B11⟩
            case measure => simp [intOf] <;> omega
          · have hn := hid (gapsL_no (m := k) (M := fun i => !eqS (wriF s j x i) (s.F i)) (by simp [he]))
            have HE := hid he
            clear he
            apply wpK_val
            · rfl
            · intro w' hw'
              have he : eqS (wriF s j x k) (s.F k) = true := HE.out
              go_simp
              first | exact rfl | exact ⟨rfl, hw'⟩
            simp only [Act.put, List.setIfInBounds_toArray, List.set_cons_succ, List.set_cons_zero]
            refine wpK_nil fun w10 hw10 => ?_
            have O10 := hid (OwnI.below HO.out hw10 (Nat.le_refl _))
            have B10 := hid (HB.out.trans (hw10.mono HB.out.size))
            clear hw10
            go_wp2_with fail
            go_roundw
            case rel => exact ⟨k + 1, by go_num, by omega, by rw [hn.out]; exact O10, B10⟩
            case measure => simp [intOf] <;> omega
        · have t1 : ¬ (k : Int) < s.n := by omega
          have hkn : k = s.n := by omega
          have OI := hid (show OwnI wr w9.heap.size u12 (gapsL s.n fun i => !eqS (wriF s j x i) (s.F i)) by have h := HO.out; rw [hkn] at h; exact h)
          have f0 := HR.out.blk.frozen 0
          have q0 := HR.out.q0
          obtain ⟨A9, c9, rfl⟩ := OwnI.len OI.out
          clear hkn HO
          go_wp2_with fail
          go_ret2
          have eL : wriL s j x = gapsL s.n fun i => !eqS (wriF s j x i) (s.F i) := by
            unfold wriL
            rw [if_pos hE.out]
            rfl
          have eT : wriT s j x = { s with F := wriF s j x } := by
            unfold wriT
            rw [if_pos hE.out]
            rfl
          have hg9 : w.heap.size ≤ w9.heap.size := B9.out.size
          have L := HR.out.lay (F := wriF s j x) OC.out
          refine ⟨A9, c9, by rw [eL, hE.out]; rfl, ?_, ?_⟩
          · rw [eL]
            exact row_low' (ownsRow_setCell_below OI.out (a := ⟨g, 0, none⟩) (Nat.lt_of_lt_of_le HH.out.gLt hg9) (.slice (some ⟨g6, 0, none⟩) s.n c6)) hg9
          · rw [eT]
            exact ⟨g6, c6, gg, cg, L, .inr D6.out.2.2.2, .inl rfl, ((Turn.of_new (S := fun k => k = g ∨ k = gc ∨ k = gg) B9.out).trans (Turn.of_below HB.out) fun k e => .inr (Nat.le_trans B9.out.size e)).trans (Turn.setCell (S := fun k => k = g ∨ k = gc ∨ k = gg) _ _ _ (.inl rfl)) fun _ e => .inl e⟩
    · have hE := hid (show wriE s c = 5 by unfold wriE; rw [if_pos hdat, if_neg hl])
      obtain ⟨j, rfl⟩ : ∃ j : Nat, c = j := ⟨c.toNat, by have := hdat.1; omega⟩
      have hjd : j < d := by have := hdat.2; omega
      have tj0 : ¬ (j : Int) < 0 := by omega
      obtain ⟨k, hk⟩ : ∃ k, k = s.lost.length := ⟨_, rfl⟩
      have KK := hid hk
      have hk0 : 0 < (k : Int) := by
        have : s.lost.length ≠ 0 := fun e => hl (List.eq_nil_of_length_eq_zero e)
        omega
      have tj1 : ¬ ((s.n : Int) - 2) ≤ (j : Int) := by omega
      clear hdat hd hn hl hgc hk
      go_enter Try.func19, Try.ntmps19
      go_upto_region 1 with fail
      generalize hw1 : World.alloc w _ = w1
      have B1 := hid (show Below w.heap.size w w1 by rw [← hw1]; exact (Below.refl _ _).alloc (Nat.le_refl _) _)
      have H1 := hid (HH.out.on B1.out)
      have q0 := H1.out.q0
      clear hw1
      go_wp2_with fail
      refine (rlost_any H1.out h6).mono ?_
      rintro e w3 ⟨v, rfl, oi, h3⟩
      obtain ⟨A3, c3, rfl⟩ := OwnI.len oi
      rw [← KK.out]
      have B3 := hid (B1.out.trans (h3.mono B1.out.size))
      have H3 := hid (H1.out.on h3)
      clear oi h3 q0
      go_wp2_with fail
      go_ret2
      exact WriOut.no 5 hE.out (by omega) H3.out B3.out
  · have hE := hid (show wriE s c = 2 by unfold wriE; rw [if_neg hdat])
    go_enter Try.func19, Try.ntmps19
    go_upto_region 1 with fail
    generalize hw1 : World.alloc w _ = w1
    have B1 := hid (show Below w.heap.size w w1 by rw [← hw1]; exact (Below.refl _ _).alloc (Nat.le_refl _) _)
    have H1 := hid (HH.out.on B1.out)
    have q0 := H1.out.q0
    clear hw1
    by_cases h0 : c < 0
    · clear hdat hd hn
      go_wp2_with fail
      go_ret2
      exact WriOut.no 2 hE.out (by omega) H1.out B1.out
    · have h1 : (d : Int) ≤ c := by
        unfold Rw.dat at hdat
        omega
      have h2' : ((s.n : Int) - 2) ≤ c := by omega
      clear hdat hd hn
      go_wp2_with fail
      go_ret2
      exact WriOut.no 2 hE.out (by omega) H1.out B1.out
end
end StM
end Go.Proofs.Ytlbfjnddbdpdpaa
set_option maxRecDepth 100000
namespace Go.Proofs.Ytlbfjnddbdpdpaa
open Go.ChangeShapes Go.WideShapes Go.ChangeAt Go.RowKit Go.Shelf
set_option linter.unusedSectionVars false
namespace StM
/-- Blocks that are kept. -/
def Kept (O : Nat → Prop) (w w' : World) : Prop := ∀ b, O b → w'.heap[b]? = w.heap[b]?
theorem Kept.refl (O : Nat → Prop) (w : World) : Kept O w w := fun _ _ => rfl
theorem Kept.trans {O : Nat → Prop} {a b c : World} (h : Kept O a b) (k : Kept O b c) : Kept O a c := fun x hx => (k x hx).trans (h x hx)
theorem Kept.blk {O : Nat → Prop} {w w' : World} {b : Nat} {t : TypeId} {cs : Array Value} (h : Kept O w w') (hb : Blk w b t cs) (ho : O b) : Blk w' b t cs := (h b ho).trans hb
/-- One block. -/
def One (b : Nat) : Nat → Prop := fun k => k = b
theorem one_self (b : Nat) : One b b := rfl
/-- The two rows beside each other, and blocks O that are neither's. -/
structure Bo (W : World) (O : Nat → Prop) (g gc cc gg cg q : Nat) (s t : Rw) (w : World) : Prop where
  r : Pr w g gc cc gg cg s
  d : ∃ kc kk kg kl, Rq w q kc kk kg kl t ∧ W.heap.size ≤ kc ∧ W.heap.size ≤ kg ∧ (g ≠ kc ∧ gc ≠ kc ∧ gg ≠ kc ∧ g ≠ kg ∧ gc ≠ kg ∧ gg ≠ kg) ∧ ∀ b, O b → b ≠ kc ∧ b ≠ kg
  b : Below W.heap.size W w
  f : (W.heap.size ≤ gc ∧ W.heap.size ≤ gg ∧ W.heap.size ≤ q) ∧ (q ≠ gc ∧ q ≠ gg ∧ q ≠ g)
  o : ∀ b, O b → b < w.heap.size ∧ b ≠ gc ∧ b ≠ gg ∧ b ≠ q
section
variable {W w w' : World} {O : Nat → Prop} {g gc cc gg cg q : Nat} {s s' t t' : Rw} (T : Bo W O g gc cc gg cg q s t w)
include T
theorem Bo.keep (hb : Below w.heap.size w w') : Kept O w w' := fun b hO => hb.block b (T.o b hO).1
theorem Bo.on (hb : Below w.heap.size w w') : Bo W O g gc cc gg cg q s t w' := by
  obtain ⟨kc, kk, kg, kl, h1, h2⟩ := T.d
  exact ⟨T.r.on hb, ⟨kc, kk, kg, kl, h1.on hb, h2⟩, T.b.trans (hb.mono T.b.size), T.f, fun b hO => ⟨Nat.lt_of_lt_of_le (T.o b hO).1 hb.size, (T.o b hO).2⟩⟩
theorem Bo.stepR (o : outP w g gc cc gg cg s' w') : Bo W O g gc cc gg cg q s' t w' ∧ Kept O w w' := by
  obtain ⟨kc, kk, kg, kl, h1, h2, h3, h4, h5⟩ := T.d
  refine ⟨⟨o.1, ⟨kc, kk, kg, kl, h1.turn o.2 (by have := T.f; omega) (by omega) (by omega), h2, h3, h4, h5⟩, T.b.trans (o.below T.b.size T.f.1.1 T.f.1.2.1), T.f, fun b hO => ⟨Nat.lt_of_lt_of_le (T.o b hO).1 o.2.size, (T.o b hO).2⟩⟩, fun b hO => ?_⟩
  exact o.2.block b (T.o b hO).1 (by have := T.o b hO; omega)
theorem Bo.stepQ {kc kg : Nat} (h2 : W.heap.size ≤ kc) (h3 : W.heap.size ≤ kg) (h4 : g ≠ kc ∧ gc ≠ kc ∧ gg ≠ kc ∧ g ≠ kg ∧ gc ≠ kg ∧ gg ≠ kg) (h5 : ∀ b, O b → b ≠ kc ∧ b ≠ kg) (o : outR w q kc kg t' w') :
    Bo W O g gc cc gg cg q s t' w' ∧ Kept O w w' := by
  obtain ⟨lc, lk, lg, ll, k1, k2, k3, k4⟩ := o
  have hl := T.r.lts
  have hW := T.b.size
  refine ⟨⟨T.r.turn k4 (by have := T.f; omega) (by have := T.f; omega) (by have := T.f; omega), ⟨lc, lk, lg, ll, k1, by omega, by omega, by omega, fun b hO => by have := h5 b hO; have := (T.o b hO).1; omega⟩,
    T.b.trans (k4.below hW fun k e => by have := T.f; omega), T.f, fun b hO => ⟨Nat.lt_of_lt_of_le (T.o b hO).1 k4.size, (T.o b hO).2⟩⟩, fun b hO => ?_⟩
  exact k4.block b (T.o b hO).1 (by have := T.o b hO; have := h5 b hO; omega)
theorem Bo.sub {O' : Nat → Prop} (h : ∀ b, O' b → O b) : Bo W O' g gc cc gg cg q s t w := by
  obtain ⟨kc, kk, kg, kl, h1, h2, h3, h4, h5⟩ := T.d
  exact ⟨T.r, ⟨kc, kk, kg, kl, h1, h2, h3, h4, fun b hO => h5 b (h b hO)⟩, T.b, T.f, fun b hO => T.o b (h b hO)⟩
/-- The program's step: what is new behind it is neither's. -/
theorem Bo.stepN (o : outP w g gc cc gg cg s' w') : Bo W (fun k => O k ∨ (w.heap.size ≤ k ∧ k < w'.heap.size)) g gc cc gg cg q s' t w' ∧ Kept O w w' := by
  obtain ⟨k1, k2⟩ := T.stepR o
  obtain ⟨kc, kk, kg, kl, h1, h2, h3, h4, h5⟩ := T.d
  have l1 := h1.cLt
  have l2 := h1.oLt
  have l3 := h1.gLt
  have l4 := T.r.lts
  refine ⟨⟨k1.r, ⟨kc, kk, kg, kl, h1.turn o.2 (by have := T.f; omega) (by omega) (by omega), h2, h3, h4, fun b hO => ?_⟩, k1.b, k1.f, fun b hO => ?_⟩, k2⟩
  · rcases hO with hO | hO
    · exact h5 b hO
    · omega
  · rcases hO with hO | hO
    · exact k1.o b hO
    · omega
theorem bput_any (c : Int) (x : Nat → Nat) : Calls Try.prog 12 #[.pointer (some ⟨q, 0, none⟩), .int .i64 c, .agg (sec x)] w fun e w' => e = .returned (.int .i64 (argE t c)) ∧ Bo W O g gc cc gg cg q s (putT t c x) w' ∧ Kept O w w' := by
  obtain ⟨kc, kk, kg, kl, h1, h2, h3, h4, h5⟩ := T.d
  exact (rput_any h1 c x).mono fun e w' ⟨e1, e2⟩ => ⟨e1, T.stepQ h2 h3 h4 h5 e2⟩
theorem blose_any (c : Int) : Calls Try.prog 14 #[.pointer (some ⟨q, 0, none⟩), .int .i64 c] w fun e w' => e = .returned (.int .i64 (argE t c)) ∧ Bo W O g gc cc gg cg q s (losT t c) w' ∧ Kept O w w' := by
  obtain ⟨kc, kk, kg, kl, h1, h2, h3, h4, h5⟩ := T.d
  exact (rlose_any h1 c).mono fun e w' ⟨e1, e2⟩ => ⟨e1, T.stepQ h2 h3 h4 h5 e2⟩
theorem bget_any (c : Int) : Calls Try.prog 21 #[.pointer (some ⟨q, 0, none⟩), .int .i64 c] w fun e w' => e = .returned (.tuple #[.agg (sec (getS t c)), .int .i64 (getE t c)]) ∧ Below w.heap.size w w' := by
  obtain ⟨kc, kk, kg, kl, h1, _⟩ := T.d
  exact rget_any h1 c
theorem blost_any (hk : t.ok) : Calls Try.prog 23 #[.pointer (some ⟨q, 0, none⟩)] w fun e w' => ∃ v, e = .returned v ∧ OwnI w' w.heap.size v t.lost ∧ Below w.heap.size w w' := by
  obtain ⟨kc, kk, kg, kl, h1, _⟩ := T.d
  exact rlost_any h1 hk.hi
theorem bright_any (hk : t.ok) : Calls Try.prog 25 #[.pointer (some ⟨q, 0, none⟩)] w fun e w' => e = .returned (.bool t.right) ∧ Below w.heap.size w w' := by
  obtain ⟨kc, kk, kg, kl, h1, _⟩ := T.d
  exact rright_st h1 hk
theorem bmend_any (hk : t.ok) : Calls Try.prog 16 #[.pointer (some ⟨q, 0, none⟩)] w fun e w' =>
    ∃ A c, e = .returned (.tuple #[.slice A (menL t).length c, .int .i64 (menE t)]) ∧ OwnI w' w.heap.size (.slice A (menL t).length c) (menL t) ∧ Bo W O g gc cc gg cg q s (menT t) w' ∧ Kept O w w' := by
  obtain ⟨kc, kk, kg, kl, h1, h2, h3, h4, h5⟩ := T.d
  refine (rmend_any h1 hk).mono ?_
  rintro e w' ⟨A, c, e1, e2, e3, _⟩
  exact ⟨A, c, e1, e2, T.stepQ h2 h3 h4 h5 e3⟩
theorem bwrite_any (hk : t.ok) (c : Int) (x : Nat → Nat) (hx : ∀ k, x k < 256) : Calls Try.prog 19 #[.pointer (some ⟨q, 0, none⟩), .int .i64 c, .agg (sec x)] w fun e w' =>
    ∃ A k, e = .returned (.tuple #[.slice A (wriL t c x).length k, .int .i64 (wriE t c)]) ∧ OwnI w' w.heap.size (.slice A (wriL t c x).length k) (wriL t c x) ∧ Bo W O g gc cc gg cg q s (wriT t c x) w' ∧ Kept O w w' := by
  obtain ⟨kc, kk, kg, kl, h1, h2, h3, h4, h5⟩ := T.d
  refine (rwrite_any h1 hk c x hx).mono ?_
  rintro e w' ⟨A, k, e1, e2, e3⟩
  exact ⟨A, k, e1, e2, T.stepQ h2 h3 h4 h5 e3⟩
/-- A new block beside them. -/
theorem Bo.add (hb : Below w.heap.size w w') {b : Nat} (hb1 : w.heap.size ≤ b) (hb2 : b < w'.heap.size) : Bo W (One b) g gc cc gg cg q s t w' := by
  obtain ⟨kc, kk, kg, kl, h1, h2, h3, h4, _⟩ := T.d
  have l1 := h1.cLt
  have l2 := h1.oLt
  have l3 := h1.gLt
  have l4 := T.r.lts
  exact ⟨T.r.on hb, ⟨kc, kk, kg, kl, h1.on hb, h2, h3, h4, fun k e => by cases e; omega⟩, T.b.trans (hb.mono T.b.size), T.f, fun k e => by cases e; exact ⟨hb2, by omega⟩⟩
theorem Bo.drop : Bo W (fun _ => False) g gc cc gg cg q s t w := by
  obtain ⟨kc, kk, kg, kl, h1, h2, h3, h4, _⟩ := T.d
  exact ⟨T.r, ⟨kc, kk, kg, kl, h1, h2, h3, h4, fun _ e => e.elim⟩, T.b, T.f, fun _ e => e.elim⟩
end
/-- A list of ints stays while its block is kept. -/
theorem ownI_kept {w w' : World} {B : Nat} {O : Nat → Prop} {v : Value} {l : List Nat} (h : OwnI w B v l) (k : Kept O w w') (hO : ∀ b, B ≤ b → b < w.heap.size → O b) : OwnI w' B v l := by
  refine ⟨h.1, ?_⟩
  rcases h.2 with hn | ⟨g, cap, cur, rfl, hb, hg, rest⟩
  · exact .inl hn
  · exact .inr ⟨g, cap, cur, rfl, hb, (k g (hO g hb (Blk.lt (t := 3) (cs := cur) hg))).trans hg, rest⟩
/-- What holds in a drawn region in which both rows are turned. -/
structure Pc (W : World) (bA g gc cc gg cg q : Nat) (s s' : Rw) (d1 d2 : Bool) (w3 w : World) : Prop where
  b : Bo W (One bA) g gc cc gg cg q (cond d1 s' s) (cond d2 s' s) w
  k : Kept (One bA) w3 w
theorem menL_le {s : Rw} : (menL s).length ≤ s.n := by
  unfold menL
  split
  · exact Nat.zero_le _
  · exact gapsL_le _ _
theorem wriL_le {s : Rw} {c : Int} {x : Nat → Nat} : (wriL s c x).length ≤ s.n := by
  unfold wriL
  split
  · exact Nat.le_trans (List.length_filter_le _ _) (by rw [List.length_range]; exact Nat.le_refl _)
  · exact Nat.zero_le _
theorem men_n {s : Rw} : (menT s).n = s.n := by unfold menT; split <;> rfl
theorem wri_n {s : Rw} {c : Int} {x : Nat → Nat} : (wriT s c x).n = s.n := by unfold wriT; split <;> rfl
theorem put_n' {s : Rw} {c : Int} {x : Nat → Nat} : (putT s c x).n = s.n := by unfold putT; split <;> rfl
theorem los_n {s : Rw} {c : Int} : (losT s c).n = s.n := by unfold losT; split <;> rfl
/-- A list of ints of one's own, from block B on. -/
def kI (l : List Nat) (B : Nat) : Sp := ⟨fun v => ∃ (A : Option Addr) (c : Nat), v = .slice A l.length c, fun v w => OwnI w B v l, .slice none l.length 0⟩
theorem kI_ok (l : List Nat) (B : Nat) : (kI l B).ok := ⟨⟨none, 0, rfl⟩, fun _ _ _ h hb => OwnI.below h hb (Nat.le_refl _)⟩
/-- The act as a row. -/
def acA (y : Ac) : Array Value := (acL y).toArray
theorem acA_size (y : Ac) : (acA y).size = 66 := by unfold acA; rw [List.size_toArray, acL_len]
theorem rowAc : RowT 34 66 := ⟨by kernel_rfl, ⟨_, Try.underlying34, rfl⟩⟩
theorem zeroAc : ∀ w, (zeroValue 34).run Try.prog w = .ok (.agg (acA ⟨0, 0, fun _ => 0⟩)) w :=
  (zero_of_info (P := Try.prog) (t := 34) (v := .agg (acA ⟨0, 0, fun _ => 0⟩)) (n := 66) (by kernel_rfl)).1
theorem acA_one (y : Ac) : (acA y).all (·.oneCell') = true := by
  unfold acA
  rw [Array.all_eq_true_iff_forall_mem]
  intro u hu
  unfold acL at hu
  simp only [List.mem_toArray, List.mem_cons] at hu
  rcases hu with rfl | rfl | hu
  · rfl
  · rfl
  · exact (Array.all_eq_true_iff_forall_mem.1 (sec_one (f := y.s))) u (by simpa using hu)
section
variable {w : World} {b : Nat} {y : Ac} (h : Blk w b 34 (acA y))
include h
theorem ac_d : w.cell? ⟨b, 0, none⟩ = some (.int .i64 y.d) := (h.cell 0).trans rfl
theorem ac_c : w.cell? ⟨b, 1, none⟩ = some (.int .i64 y.c) := (h.cell 1).trans rfl
theorem ac_s : w.rangeAt b 2 (sec y.s).toList := fun j v hj => by
  rw [h.cell]
  unfold acA acL
  rw [List.getElem?_toArray, show 2 + j = j + 1 + 1 by omega, List.getElem?_cons_succ, List.getElem?_cons_succ]
  exact hj
end
end StM
end Go.Proofs.Ytlbfjnddbdpdpaa
