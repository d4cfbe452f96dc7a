/-
  PlaceColumns, PlaceNumbers, PlaceFinds: the program's answers are the document's.
  PlaceKnown: the chapter's examples.
  PlaceBack: columns and members, numbers and places, leaves and places undo each other.
  PlaceApart: unlike logical sectors lie in unlike leaves, of one row on unlike members.
  PlaceTurns: in each row each member has one column, and each column one member.
-/
import Derived.Test.YtclmdakgkiponaaMrg2
set_option linter.unusedVariables false
set_option linter.unusedSimpArgs false
set_option maxRecDepth 100000
namespace Go.Proofs.Ytclmdakgkiponaa
open Go.ChangeShapes Go.WideShapes Go.ChangeAt Go.RowKit
attribute [local go_sem] Gives
namespace GeM
set_option maxHeartbeats 4000000 in
theorem columns_law (a b r n : Int) (W : World) : Calls Try.prog 3 #[gv a b, .int .i64 r, .int .i64 n] W fun e w' => e = .returned (.bool true) ∧ Below W.heap.size W w' := by
  obtain ⟨⟨c, e⟩, hc⟩ : ∃ p, p = colP a b r n := ⟨_, rfl⟩
  obtain ⟨⟨d, f⟩, hd⟩ : ∃ p, p = memP a b r n := ⟨_, rfl⟩
  have HC := hid hc
  have HD := hid hd
  clear hc hd
  unfold gv
  go_enter Try.func3, Try.ntmps3
  have A0 := hid (At.new W a b)
  go_wp2_with ((with_reducible apply ldR (cs := #[Value.int .i64 a, .int .i64 b]) (tGe _ _)); rfl; exact A0.out.blk.whole)
  refine (column_any a b r n _).mono ?_
  rintro x w1 ⟨rfl, h1⟩
  rw [← HC.out, v2_eq]
  have A1 := hid (A0.out.on h1)
  clear h1 A0
  go_wp2_with ((with_reducible apply ldR (cs := #[Value.int .i64 a, .int .i64 b]) (tGe _ _)); rfl; exact A1.out.blk.whole)
  refine (rcolumn_any a b r n _).mono ?_
  rintro x w2 ⟨rfl, h2⟩
  rw [← HC.out, v2_eq]
  have A2 := hid (A1.out.on h2)
  clear h2 A1
  go_wp2_with ((with_reducible apply ldR (cs := #[Value.int .i64 a, .int .i64 b]) (tGe _ _)); rfl; exact A2.out.blk.whole)
  refine (member_any a b r n _).mono ?_
  rintro x w3 ⟨rfl, h3⟩
  rw [← HD.out, v2_eq]
  have A3 := hid (A2.out.on h3)
  clear h3 A2
  go_wp2_with ((with_reducible apply ldR (cs := #[Value.int .i64 a, .int .i64 b]) (tGe _ _)); rfl; exact A3.out.blk.whole)
  refine (rmember_any a b r n _).mono ?_
  rintro x w4 ⟨rfl, h4⟩
  rw [← HD.out, v2_eq]
  have A4 := hid (A3.out.on h4)
  clear h4 A3
  go_wp2_with fail
  refine (awake15_any _).mono ?_
  rintro x w5 ⟨rfl, h5⟩
  have A5 := hid (A4.out.on h5)
  clear h5 A4
  go_wp2_with fail
  go_ret
  exact ⟨rfl, A5.out.bel⟩
set_option maxHeartbeats 4000000 in
theorem numbers_law (a b r n : Int) (W : World) : Calls Try.prog 4 #[gv a b, .int .i64 r, .int .i64 n] W fun e w' => e = .returned (.bool true) ∧ Below W.heap.size W w' := by
  obtain ⟨⟨c, e⟩, hc⟩ : ∃ p, p = numP a b r n := ⟨_, rfl⟩
  obtain ⟨⟨d, f⟩, hd⟩ : ∃ p, p = lefP a b r n := ⟨_, rfl⟩
  have HC := hid hc
  have HD := hid hd
  clear hc hd
  unfold gv
  go_enter Try.func4, Try.ntmps4
  have A0 := hid (At.new W a b)
  go_wp2_with ((with_reducible apply ldR (cs := #[Value.int .i64 a, .int .i64 b]) (tGe _ _)); rfl; exact A0.out.blk.whole)
  refine (number_any a b r n _).mono ?_
  rintro x w1 ⟨rfl, h1⟩
  rw [← HC.out, v2_eq]
  have A1 := hid (A0.out.on h1)
  clear h1 A0
  go_wp2_with ((with_reducible apply ldR (cs := #[Value.int .i64 a, .int .i64 b]) (tGe _ _)); rfl; exact A1.out.blk.whole)
  refine (rnumber_any a b r n _).mono ?_
  rintro x w2 ⟨rfl, h2⟩
  rw [← HC.out, v2_eq]
  have A2 := hid (A1.out.on h2)
  clear h2 A1
  go_wp2_with ((with_reducible apply ldR (cs := #[Value.int .i64 a, .int .i64 b]) (tGe _ _)); rfl; exact A2.out.blk.whole)
  refine (leaf_any a b r n _).mono ?_
  rintro x w3 ⟨rfl, h3⟩
  rw [← HD.out, v2_eq]
  have A3 := hid (A2.out.on h3)
  clear h3 A2
  go_wp2_with ((with_reducible apply ldR (cs := #[Value.int .i64 a, .int .i64 b]) (tGe _ _)); rfl; exact A3.out.blk.whole)
  refine (rleaf_any a b r n _).mono ?_
  rintro x w4 ⟨rfl, h4⟩
  rw [← HD.out, v2_eq]
  have A4 := hid (A3.out.on h4)
  clear h4 A3
  go_wp2_with fail
  refine (awake15_any _).mono ?_
  rintro x w5 ⟨rfl, h5⟩
  have A5 := hid (A4.out.on h5)
  clear h5 A4
  go_wp2_with fail
  go_ret
  exact ⟨rfl, A5.out.bel⟩
set_option maxHeartbeats 4000000 in
theorem finds_law (a b n : Int) (hn : n ≤ 9223372036854775807) (W : World) : Calls Try.prog 5 #[gv a b, .int .i64 n] W fun e w' => e = .returned (.bool true) ∧ Below W.heap.size W w' := by
  obtain ⟨⟨c, e, k⟩, hc⟩ : ∃ p, p = ofP a b n := ⟨_, rfl⟩
  obtain ⟨⟨d, f, l⟩, hd⟩ : ∃ p, p = atP a b n := ⟨_, rfl⟩
  have HC := hid hc
  have HD := hid hd
  have HN := hid hn
  clear hc hd hn
  unfold gv
  go_enter Try.func5, Try.ntmps5
  have A0 := hid (At.new W a b)
  go_wp2_with ((with_reducible apply ldR (cs := #[Value.int .i64 a, .int .i64 b]) (tGe _ _)); rfl; exact A0.out.blk.whole)
  refine (of_at a b n _).mono ?_
  rintro x w1 ⟨rfl, h1⟩
  rw [← HC.out, v3_eq]
  have A1 := hid (A0.out.on h1)
  clear h1 A0
  go_wp2_with ((with_reducible apply ldR (cs := #[Value.int .i64 a, .int .i64 b]) (tGe _ _)); rfl; exact A1.out.blk.whole)
  refine (rof_any a b n _).mono ?_
  rintro x w2 ⟨rfl, h2⟩
  rw [← HC.out, v3_eq]
  have A2 := hid (A1.out.on h2)
  clear h2 A1
  go_wp2_with ((with_reducible apply ldR (cs := #[Value.int .i64 a, .int .i64 b]) (tGe _ _)); rfl; exact A2.out.blk.whole)
  refine (at_any a b n _).mono ?_
  rintro x w3 ⟨rfl, h3⟩
  rw [← HD.out, v3_eq]
  have A3 := hid (A2.out.on h3)
  clear h3 A2
  go_wp2_with ((with_reducible apply ldR (cs := #[Value.int .i64 a, .int .i64 b]) (tGe _ _)); rfl; exact A3.out.blk.whole)
  refine (rat_any a b n HN.out _).mono ?_
  rintro x w4 ⟨rfl, h4⟩
  rw [← HD.out, v3_eq]
  have A4 := hid (A3.out.on h4)
  clear h4 A3
  go_wp2_with fail
  refine (awake15_any _).mono ?_
  rintro x w5 ⟨rfl, h5⟩
  have A5 := hid (A4.out.on h5)
  clear h5 A4
  go_wp2_with fail
  go_ret
  exact ⟨rfl, A5.out.bel⟩
end GeM
end Go.Proofs.Ytclmdakgkiponaa
set_option maxRecDepth 100000
namespace Go.Proofs.Ytclmdakgkiponaa
open Go.ChangeShapes Go.WideShapes Go.ChangeAt Go.RowKit
attribute [local go_sem] Gives
namespace GeM
theorem At.var {B w : World} {a b : Int} (hb : Below B.heap.size B w) : At B w.heap.size a b (w.alloc (.cells #[.int .i64 a, .int .i64 b] tyG)) := ⟨Blk.new _ _ _, hb.alloc hb.size _⟩
set_option maxHeartbeats 400000 in
theorem no_any (n e t : Int) (hn : n = 0) (he : e = t) (w : World) : Calls Try.prog 25 #[.int .i64 n, .int .i64 e, .int .i64 t] w fun x w' => x = .returned (.bool true) ∧ w = w' := by
  subst hn he
  go_enter Try.func25, Try.ntmps25
  go_wp2_with fail
  go_ret
  exact ⟨rfl, rfl⟩
theorem kn_0 : colP 4 3 0 2 = (2, 0) := by decide +kernel
theorem kn_1 : colP 4 3 2 2 = (0, 0) := by decide +kernel
theorem kn_2 : colP 4 3 3 2 = (0, 2) := by decide +kernel
theorem kn_3 : memP 4 3 1 3 = (2, 0) := by decide +kernel
theorem kn_4 : memP 4 3 1 4 = (0, 2) := by decide +kernel
theorem kn_6 : ofP 4 3 5 = (2, 1, 0) := by decide +kernel
theorem kn_7 : ofP 4 3 6 = (0, 0, 2) := by decide +kernel
theorem kn_8 : numP 4 3 2 1 = (5, 0) := by decide +kernel
theorem kn_9 : numP 4 3 2 2 = (0, 5) := by decide +kernel
theorem kn_10 : atP 4 3 9 = (2, 1, 0) := by decide +kernel
theorem kn_11 : atP 4 3 12 = (0, 0, 2) := by decide +kernel
theorem kn_12 : lefP 3 1 0 0 = (0, 2) := by decide +kernel
set_option maxHeartbeats 4000000 in
theorem known_law15 (W : World) : Calls Try.prog 6 #[] W fun e w' => e = .returned (.bool true) ∧ Below W.heap.size W w' := by
  go_enter Try.func6, Try.ntmps6
  go_wp2_with fail
  refine (given15_any _).mono ?_
  rintro e w1 ⟨rfl, h1⟩
  have A1 := hid (At.var (a := 4) (b := 3) h1)
  clear h1
  unfold gv
  go_wp2_with ((with_reducible apply ldR (cs := #[Value.int .i64 4, .int .i64 3]) (tGe _ _)); rfl; exact A1.out.blk.whole)
  refine (column_any 4 3 0 2 _).mono ?_
  rintro e w2 ⟨rfl, h2⟩
  rw [kn_0, v2_eq]
  have A2 := hid (A1.out.on h2)
  clear h2 A1
  go_wp2_with ((with_reducible apply ldR (cs := #[Value.int .i64 4, .int .i64 3]) (tGe _ _)); rfl; exact A2.out.blk.whole)
  refine (column_any 4 3 2 2 _).mono ?_
  rintro e w3 ⟨rfl, h3⟩
  rw [kn_1, v2_eq]
  have A3 := hid (A2.out.on h3)
  clear h3 A2
  go_wp2_with ((with_reducible apply ldR (cs := #[Value.int .i64 4, .int .i64 3]) (tGe _ _)); rfl; exact A3.out.blk.whole)
  refine (column_any 4 3 3 2 _).mono ?_
  rintro e w4 ⟨rfl, h4⟩
  rw [kn_2, v2_eq]
  have A4 := hid (A3.out.on h4)
  clear h4 A3
  go_wp2_with ((with_reducible apply ldR (cs := #[Value.int .i64 4, .int .i64 3]) (tGe _ _)); rfl; exact A4.out.blk.whole)
  refine (member_any 4 3 1 3 _).mono ?_
  rintro e w5 ⟨rfl, h5⟩
  rw [kn_3, v2_eq]
  have A5 := hid (A4.out.on h5)
  clear h5 A4
  go_wp2_with ((with_reducible apply ldR (cs := #[Value.int .i64 4, .int .i64 3]) (tGe _ _)); rfl; exact A5.out.blk.whole)
  refine (member_any 4 3 1 4 _).mono ?_
  rintro e w6 ⟨rfl, h6⟩
  rw [kn_4, v2_eq]
  have A6 := hid (A5.out.on h6)
  clear h6 A5
  go_wp2_with fail
  refine (awake15_any _).mono ?_
  rintro e w7 ⟨rfl, h7⟩
  have A7 := hid (A6.out.on h7)
  clear h7 A6
  go_wp2_with fail
  refine (is_any 2 0 2 _).mono ?_
  rintro e w' ⟨rfl, rfl⟩
  go_wp2_with fail
  refine (is_any 0 0 0 _).mono ?_
  rintro e w' ⟨rfl, rfl⟩
  go_wp2_with fail
  refine (no_any 0 2 2 rfl rfl _).mono ?_
  rintro e w' ⟨rfl, rfl⟩
  go_wp2_with fail
  refine (is_any 2 0 2 _).mono ?_
  rintro e w' ⟨rfl, rfl⟩
  go_wp2_with fail
  refine (no_any 0 2 2 rfl rfl _).mono ?_
  rintro e w' ⟨rfl, rfl⟩
  go_wp2_with ((with_reducible apply ldR (cs := #[Value.int .i64 4, .int .i64 3]) (tGe _ _)); rfl; exact A7.out.blk.whole)
  refine (of_at 4 3 5 _).mono ?_
  rintro e w8 ⟨rfl, h8⟩
  rw [kn_6, v3_eq]
  have A8 := hid (A7.out.on h8)
  clear h8 A7
  go_wp2_with ((with_reducible apply ldR (cs := #[Value.int .i64 4, .int .i64 3]) (tGe _ _)); rfl; exact A8.out.blk.whole)
  refine (of_at 4 3 6 _).mono ?_
  rintro e w9 ⟨rfl, h9⟩
  rw [kn_7, v3_eq]
  have A9 := hid (A8.out.on h9)
  clear h9 A8
  go_wp2_with ((with_reducible apply ldR (cs := #[Value.int .i64 4, .int .i64 3]) (tGe _ _)); rfl; exact A9.out.blk.whole)
  refine (number_any 4 3 2 1 _).mono ?_
  rintro e w10 ⟨rfl, h10⟩
  rw [kn_8, v2_eq]
  have A10 := hid (A9.out.on h10)
  clear h10 A9
  go_wp2_with ((with_reducible apply ldR (cs := #[Value.int .i64 4, .int .i64 3]) (tGe _ _)); rfl; exact A10.out.blk.whole)
  refine (number_any 4 3 2 2 _).mono ?_
  rintro e w11 ⟨rfl, h11⟩
  rw [kn_9, v2_eq]
  have A11 := hid (A10.out.on h11)
  clear h11 A10
  go_wp2_with ((with_reducible apply ldR (cs := #[Value.int .i64 4, .int .i64 3]) (tGe _ _)); rfl; exact A11.out.blk.whole)
  refine (at_any 4 3 9 _).mono ?_
  rintro e w12 ⟨rfl, h12⟩
  rw [kn_10, v3_eq]
  have A12 := hid (A11.out.on h12)
  clear h12 A11
  go_wp2_with ((with_reducible apply ldR (cs := #[Value.int .i64 4, .int .i64 3]) (tGe _ _)); rfl; exact A12.out.blk.whole)
  refine (at_any 4 3 12 _).mono ?_
  rintro e w13 ⟨rfl, h13⟩
  rw [kn_11, v3_eq]
  have A13 := hid (A12.out.on h13)
  clear h13 A12
  go_wp2_with ((with_reducible apply ldR (cs := #[Value.int .i64 4, .int .i64 3]) (tGe _ _)); rfl; exact A13.out.blk.whole)
  refine (leaf_any 3 1 0 0 _).mono ?_
  rintro e w14 ⟨rfl, h14⟩
  rw [kn_12, v2_eq]
  have A14 := hid (A13.out.on h14)
  clear h14 A13
  go_wp2_with fail
  refine (is_any 5 0 5 _).mono ?_
  rintro e w' ⟨rfl, rfl⟩
  go_wp2_with fail
  refine (no_any 0 5 5 rfl rfl _).mono ?_
  rintro e w' ⟨rfl, rfl⟩
  go_wp2_with fail
  go_ret
  exact ⟨rfl, A14.out.bel⟩
end GeM
end Go.Proofs.Ytclmdakgkiponaa
set_option maxRecDepth 100000
namespace Go.Proofs.Ytclmdakgkiponaa
open Go.ChangeShapes Go.WideShapes Go.ChangeAt Go.RowKit
attribute [local go_sem] Gives
namespace GeM
theorem good_small (x y : Nat) : Good ((4 + x % 61 : Nat) : Int) ((1 + y % 64 : Nat) : Int) := ⟨by omega, by omega, by omega, by omega⟩
section
variable {m q l k : Nat}
/-- A leaf's row and member, and back. -/
theorem back_lf (hg : Good m q) (hl : l < lv m q) : ∃ r j c : Nat, r < q ∧ j < m ∧ c < m ∧ atP m q l = (r, j, 0) ∧ lefP m q r j = (l, 0) ∧ colP m q r j = (c, 0) ∧ memP m q r c = (j, 0) := by
  have hm : 0 < m := by have := r_bd hg; omega
  have hr : l / m < q := Nat.div_lt_of_lt_mul hl
  have hj : l % m < m := Nat.mod_lt _ hm
  refine ⟨l / m, l % m, col m (l / m) (l % m), hr, hj, col_lt hm, atP_ok hg hl, ?_, colP_ok hg hr hj, ?_⟩
  · rw [lefP_ok hg hr hj, Nat.mul_comm, Nat.div_add_mod]
  · rw [memP_ok hg hr (col_lt hm), mem_col hj]
/-- A logical sector's row, column and member, and back. -/
theorem back_no (hg : Good m q) (hk : k < lo m q) : ∃ r c j : Nat, r < q ∧ c + 2 < m ∧ j < m ∧ ofP m q k = (r, c, 0) ∧ numP m q r c = (k, 0) ∧ memP m q r c = (j, 0) ∧ colP m q r j = (c, 0) ∧ j = mem m r c ∧ k = r * (m - 2) + c := by
  have hb := r_bd hg
  have hm : 0 < m - 2 := by omega
  have hr : k / (m - 2) < q := Nat.div_lt_of_lt_mul (by unfold lo at hk; rwa [Nat.mul_comm] at hk)
  have hc : k % (m - 2) < m - 2 := Nat.mod_lt _ hm
  have hj := mem_lt (m := m) (r := k / (m - 2)) (c := k % (m - 2)) (by omega)
  have he : k / (m - 2) * (m - 2) + k % (m - 2) = k := by rw [Nat.mul_comm, Nat.div_add_mod]
  refine ⟨k / (m - 2), k % (m - 2), mem m (k / (m - 2)) (k % (m - 2)), hr, by omega, hj, ofP_ok hg hk, ?_, memP_ok hg hr (by omega), ?_, rfl, he.symm⟩
  · rw [numP_ok hg hr (by omega) (by omega), he]
  · rw [colP_ok hg hr hj, col_mem (by omega)]
end
set_option maxHeartbeats 400000 in
theorem back_law15 (x y z : Nat) (hx : x < 256) (hy : y < 256) (hz : z < 65536) (W : World) : Calls Try.prog 7 #[.int .u8 x, .int .u8 y, .int .u16 z] W fun e w' => e = .returned (.bool true) ∧ Below W.heap.size W w' := by
  have hg := good_small x y
  obtain ⟨m, hm⟩ : ∃ m, m = 4 + x % 61 := ⟨_, rfl⟩
  obtain ⟨q, hq⟩ : ∃ q, q = 1 + y % 64 := ⟨_, rfl⟩
  have SM := hid (small_any x y hx hy)
  rw [← hm, ← hq] at hg SM
  clear hm hq hx hy
  have hb := r_bd hg
  have hlv := lv_bd hg
  have hlo : 0 < lo m q := Nat.mul_pos (by omega) (by omega)
  have hlo2 := lo_bd hg
  obtain ⟨u, hu⟩ : ∃ u, u = lv m q := ⟨_, rfl⟩
  obtain ⟨v, hv⟩ : ∃ v, v = lo m q := ⟨_, rfl⟩
  obtain ⟨l, hl⟩ : ∃ l, l = z % u := ⟨_, rfl⟩
  obtain ⟨k, hk⟩ : ∃ k, k = z % v := ⟨_, rfl⟩
  have U := hid (show L lv m q = u by rw [L_good hg, hu])
  have V := hid (show L lo m q = v by rw [L_good hg, hv])
  have LL := hid (show (z : Int).tmod (u : Int) = (l : Int) by rw [hl]; exact (Int.ofNat_tmod z u).symm)
  have KK := hid (show (z : Int).tmod (v : Int) = (k : Int) by rw [hk]; exact (Int.ofNat_tmod z v).symm)
  have MU := hid (show (z : Int) % (u : Int) = (l : Int) by rw [hl]; omega)
  have MV := hid (show (z : Int) % (v : Int) = (k : Int) by rw [hk]; omega)
  have hu0 : ¬ u = 0 := by omega
  have hv0 : ¬ v = 0 := by omega
  have hu1 : ¬ (u : Int) < 1 := by omega
  have hv1 : ¬ (v : Int) < 1 := by omega
  have du : decide ((u : Int) < 1) = false := decide_eq_false hu1
  have dv : decide ((v : Int) < 1) = false := decide_eq_false hv1
  have hll : l < lv m q := by rw [hl, hu]; exact Nat.mod_lt _ (by omega)
  have hkk : k < lo m q := by rw [hk, hv]; exact Nat.mod_lt _ (by omega)
  obtain ⟨r, j, c, -, -, -, f1, f2, f3, f4⟩ := back_lf hg hll
  obtain ⟨r2, c2, j2, -, hc2, -, g1, g2, g3, g4, -, -⟩ := back_no hg hkk
  have F1 := hid f1
  have F2 := hid f2
  have F3 := hid f3
  have F4 := hid f4
  have G1 := hid g1
  have G2 := hid g2
  have G3 := hid g3
  have G4 := hid g4
  have C2 := hid (show (c2 : Int) < (m : Int) - 2 by omega)
  clear f1 f2 f3 f4 g1 g2 g3 g4 hll hkk hl hk hu hv hlv hlo hlo2 hg hc2
  go_enter Try.func7, Try.ntmps7
  go_wp2_with fail
  refine (SM.out W).mono ?_
  rintro e w1 ⟨rfl, h1⟩
  have A1 := hid (At.var (a := m) (b := q) h1)
  have q0 := A1.out.c0
  have q1 := A1.out.c1
  clear h1
  unfold gv
  go_wp2_with ((with_reducible apply ldR (cs := #[Value.int .i64 m, .int .i64 q]) (tGe _ _)); rfl; exact A1.out.blk.whole)
  refine (leaves_any m q _).mono ?_
  rintro e w2 ⟨rfl, h2⟩
  rw [U.out]
  have A2 := hid (A1.out.on h2)
  clear h2 A1 q0 q1
  have q0 := A2.out.c0
  have q1 := A2.out.c1
  go_wp2_with ((with_reducible apply ldR (cs := #[Value.int .i64 m, .int .i64 q]) (tGe _ _)); rfl; exact A2.out.blk.whole)
  refine (logical_any m q _).mono ?_
  rintro e w3 ⟨rfl, h3⟩
  rw [V.out]
  have A3 := hid (A2.out.on h3)
  clear h3 A2 q0 q1
  have q0 := A3.out.c0
  have q1 := A3.out.c1
  have e1 := MU.out
  have e2 := LL.out
  go_wp2_with ((with_reducible apply ldR (cs := #[Value.int .i64 m, .int .i64 q]) (tGe _ _)); rfl; exact A3.out.blk.whole)
  refine (leaves_any m q _).mono ?_
  rintro e w4 ⟨rfl, h4⟩
  rw [U.out]
  have A4 := hid (A3.out.on h4)
  clear h4 A3 q0 q1
  have q0 := A4.out.c0
  have q1 := A4.out.c1
  have e3 := MV.out
  have e4 := KK.out
  go_wp2_with ((with_reducible apply ldR (cs := #[Value.int .i64 m, .int .i64 q]) (tGe _ _)); rfl; exact A4.out.blk.whole)
  refine (logical_any m q _).mono ?_
  rintro e w5 ⟨rfl, h5⟩
  rw [V.out]
  have A5 := hid (A4.out.on h5)
  clear h5 A4 q0 q1
  have q0 := A5.out.c0
  have q1 := A5.out.c1
  go_wp2_with ((with_reducible apply ldR (cs := #[Value.int .i64 m, .int .i64 q]) (tGe _ _)); rfl; exact A5.out.blk.whole)
  refine (at_any m q l _).mono ?_
  rintro e w6 ⟨rfl, h6⟩
  rw [F1.out, v3_eq]
  have A6 := hid (A5.out.on h6)
  clear h6 A5 q0 q1
  have q0 := A6.out.c0
  have q1 := A6.out.c1
  go_wp2_with ((with_reducible apply ldR (cs := #[Value.int .i64 m, .int .i64 q]) (tGe _ _)); rfl; exact A6.out.blk.whole)
  refine (leaf_any m q r j _).mono ?_
  rintro e w7 ⟨rfl, h7⟩
  rw [F2.out, v2_eq]
  have A7 := hid (A6.out.on h7)
  clear h7 A6 q0 q1
  have q0 := A7.out.c0
  have q1 := A7.out.c1
  go_wp2_with ((with_reducible apply ldR (cs := #[Value.int .i64 m, .int .i64 q]) (tGe _ _)); rfl; exact A7.out.blk.whole)
  refine (column_any m q r j _).mono ?_
  rintro e w8 ⟨rfl, h8⟩
  rw [F3.out, v2_eq]
  have A8 := hid (A7.out.on h8)
  clear h8 A7 q0 q1
  have q0 := A8.out.c0
  have q1 := A8.out.c1
  go_wp2_with ((with_reducible apply ldR (cs := #[Value.int .i64 m, .int .i64 q]) (tGe _ _)); rfl; exact A8.out.blk.whole)
  refine (member_any m q r c _).mono ?_
  rintro e w9 ⟨rfl, h9⟩
  rw [F4.out, v2_eq]
  have A9 := hid (A8.out.on h9)
  clear h9 A8 q0 q1
  have q0 := A9.out.c0
  have q1 := A9.out.c1
  go_wp2_with ((with_reducible apply ldR (cs := #[Value.int .i64 m, .int .i64 q]) (tGe _ _)); rfl; exact A9.out.blk.whole)
  refine (of_at m q k _).mono ?_
  rintro e w10 ⟨rfl, h10⟩
  rw [G1.out, v3_eq]
  have A10 := hid (A9.out.on h10)
  clear h10 A9 q0 q1
  have q0 := A10.out.c0
  have q1 := A10.out.c1
  go_wp2_with ((with_reducible apply ldR (cs := #[Value.int .i64 m, .int .i64 q]) (tGe _ _)); rfl; exact A10.out.blk.whole)
  refine (number_any m q r2 c2 _).mono ?_
  rintro e w11 ⟨rfl, h11⟩
  rw [G2.out, v2_eq]
  have A11 := hid (A10.out.on h11)
  clear h11 A10 q0 q1
  have q0 := A11.out.c0
  have q1 := A11.out.c1
  go_wp2_with ((with_reducible apply ldR (cs := #[Value.int .i64 m, .int .i64 q]) (tGe _ _)); rfl; exact A11.out.blk.whole)
  refine (member_any m q r2 c2 _).mono ?_
  rintro e w12 ⟨rfl, h12⟩
  rw [G3.out, v2_eq]
  have A12 := hid (A11.out.on h12)
  clear h12 A11 q0 q1
  have q0 := A12.out.c0
  have q1 := A12.out.c1
  go_wp2_with ((with_reducible apply ldR (cs := #[Value.int .i64 m, .int .i64 q]) (tGe _ _)); rfl; exact A12.out.blk.whole)
  refine (column_any m q r2 j2 _).mono ?_
  rintro e w13 ⟨rfl, h13⟩
  rw [G4.out, v2_eq]
  have A13 := hid (A12.out.on h13)
  clear h13 A12 q0 q1
  have q0 := A13.out.c0
  have q1 := A13.out.c1
  have c2 := C2.out
  go_wp2_with fail
  refine (awake15_any _).mono ?_
  rintro e w9 ⟨rfl, h9⟩
  have A9 := hid (A13.out.on h9)
  clear h9
  go_wp2_with fail
  go_ret
  exact ⟨rfl, A9.out.bel⟩
end GeM
end Go.Proofs.Ytclmdakgkiponaa
set_option maxRecDepth 100000
namespace Go.Proofs.Ytclmdakgkiponaa
open Go.ChangeShapes Go.WideShapes Go.ChangeAt Go.RowKit
attribute [local go_sem] Gives
namespace GeM
/-- A geometry and two numbers of 16 bits in memory. -/
structure Gu (B : World) (g h : Nat) (a b : Int) (x y : Nat) (w : World) : Prop where
  a : At B g a b w
  p : Blk w h 45 #[.int .u16 x, .int .u16 y]
section
variable {B w w' : World} {g h : Nat} {a b : Int} {x y : Nat}
theorem Gu.on (H : Gu B g h a b x y w) (hb : Below w.heap.size w w') : Gu B g h a b x y w' := ⟨H.a.on hb, H.p.below hb H.p.lt⟩
theorem Gu.drew (H : Gu B g h a b x y w) : Gu B g h a b x y w.drew := ⟨H.a.drew, H.p.drew⟩
end
section
variable {m q r s c d : Nat}
theorem mul_add_inj {j i : Nat} (hj : j < m) (hi : i < m) (e : r * m + j = s * m + i) : r = s ∧ j = i := by
  have h1 : (r * m + j) / m = r := by rw [Nat.mul_comm, Nat.mul_add_div (by omega), Nat.div_eq_of_lt hj, Nat.add_zero]
  have h2 : (s * m + i) / m = s := by rw [Nat.mul_comm, Nat.mul_add_div (by omega), Nat.div_eq_of_lt hi, Nat.add_zero]
  have h3 : r = s := by rw [← h1, ← h2, e]
  subst h3
  exact ⟨rfl, by omega⟩
end
set_option maxHeartbeats 800000 in
theorem apart_law15 (x y z z2 : Nat) (hx : x < 256) (hy : y < 256) (hz : z < 65536) (hz2 : z2 < 65536) (W : World) : Calls Try.prog 9 #[.int .u8 x, .int .u8 y, .agg #[.int .u16 z, .int .u16 z2]] W fun e w' => e = .returned (.bool true) ∧ Below W.heap.size W w' := by
  have hg := good_small x y
  obtain ⟨m, hm⟩ : ∃ m, m = 4 + x % 61 := ⟨_, rfl⟩
  obtain ⟨q, hq⟩ : ∃ q, q = 1 + y % 64 := ⟨_, rfl⟩
  have SM := hid (small_any x y hx hy)
  rw [← hm, ← hq] at hg SM
  clear hm hq hx hy
  have hb := r_bd hg
  have hlo : 0 < lo m q := Nat.mul_pos (by omega) (by omega)
  have hlo2 := lo_bd hg
  obtain ⟨v, hv⟩ : ∃ v, v = lo m q := ⟨_, rfl⟩
  obtain ⟨a, ha⟩ : ∃ a, a = z % v := ⟨_, rfl⟩
  obtain ⟨b, hb2⟩ : ∃ b, b = z2 % v := ⟨_, rfl⟩
  have V := hid (show L lo m q = v by rw [L_good hg, hv])
  have AA := hid (show (z : Int).tmod (v : Int) = (a : Int) by rw [ha]; exact (Int.ofNat_tmod z v).symm)
  have BB := hid (show (z2 : Int).tmod (v : Int) = (b : Int) by rw [hb2]; exact (Int.ofNat_tmod z2 v).symm)
  have hv0 := hid (show ¬ v = 0 by omega)
  have ZW := hid (show IntKind.i64.wrap (z : Int) = (z : Int) from IntWalk.i64_in _ (by omega))
  have ZW2 := hid (show IntKind.i64.wrap (z2 : Int) = (z2 : Int) from IntWalk.i64_in _ (by omega))
  have AM := hid (show (z : Int) % (v : Int) = (a : Int) by rw [ha]; omega)
  have BM := hid (show (z2 : Int) % (v : Int) = (b : Int) by rw [hb2]; omega)
  have hv1 : ¬ (v : Int) < 1 := by omega
  have dv : decide ((v : Int) < 1) = false := decide_eq_false hv1
  have haa : a < lo m q := by rw [ha, hv]; exact Nat.mod_lt _ (by omega)
  have hbb : b < lo m q := by rw [hb2, hv]; exact Nat.mod_lt _ (by omega)
  obtain ⟨r, c, j, hr, hc, hj, f1, -, f2, -, f3, f4⟩ := back_no hg haa
  obtain ⟨s, d, i, hs, hd, hi, g1, -, g2, -, g3, g4⟩ := back_no hg hbb
  obtain ⟨X, hX⟩ : ∃ X, X = r * m + j := ⟨_, rfl⟩
  obtain ⟨Y, hY⟩ : ∃ Y, Y = s * m + i := ⟨_, rfl⟩
  obtain ⟨P, hP⟩ : ∃ P, P = mem m r (m - 2) := ⟨_, rfl⟩
  obtain ⟨Q, hQ⟩ : ∃ Q, Q = mem m r (m - 1) := ⟨_, rfl⟩
  have F1 := hid f1
  have F2 := hid f2
  have F3 := hid (show lefP m q r j = (X, 0) by rw [lefP_ok hg hr hj, hX])
  have G1 := hid g1
  have G2 := hid g2
  have G3 := hid (show lefP m q s i = (Y, 0) by rw [lefP_ok hg hs hi, hY])
  have F4 := hid (show memP m q r ((m : Int) - 2) = (P, 0) by
    rw [show (m : Int) - 2 = ((m - 2 : Nat) : Int) by omega, memP_ok hg hr (by omega), hP])
  have F5 := hid (show memP m q r ((m : Int) - 1) = (Q, 0) by
    rw [show (m : Int) - 1 = ((m - 1 : Nat) : Int) by omega, memP_ok hg hr (by omega), hQ])
  have CS := hid (show (X = Y ∧ a = b) ∨ (X ≠ Y ∧ a ≠ b ∧ r ≠ s) ∨ (X ≠ Y ∧ a ≠ b ∧ r = s ∧ j ≠ i) by
    by_cases e : a = b
    · left
      refine ⟨?_, e⟩
      rw [← e, f1] at g1
      simp only [Prod.mk.injEq] at g1
      rw [hX, hY, f3, g3, ← g1.1, ← g1.2.1]
    · have hji : r = s → j ≠ i := fun h1 h2 => e (by
        subst h1
        rw [f3, g3] at h2
        have := mem_inj (by omega) (by omega) h2
        rw [f4, g4, this])
      have hxy : X ≠ Y := fun h => by
        rw [hX, hY] at h
        obtain ⟨h1, h2⟩ := mul_add_inj hj hi h
        exact hji h1 h2
      by_cases h : r = s
      · exact .inr (.inr ⟨hxy, e, h, hji h⟩)
      · exact .inr (.inl ⟨hxy, e, h⟩))
  have N1 := hid (show ((j : Int) != (P : Int)) = true by
    have : j ≠ P := fun h => by
      rw [f3, hP] at h
      have := mem_inj (by omega) (by omega) h
      omega
    simp; omega)
  have N2 := hid (show ((j : Int) != (Q : Int)) = true by
    have : j ≠ Q := fun h => by
      rw [f3, hQ] at h
      have := mem_inj (by omega) (by omega) h
      omega
    simp; omega)
  have N3 := hid (show ((P : Int) != (Q : Int)) = true by
    have : P ≠ Q := fun h => by
      rw [hP, hQ] at h
      have := mem_inj (by omega) (by omega) h
      omega
    simp; omega)
  have W2 := hid (show wrap64 ((m : Int) - 2) = (m : Int) - 2 from IntWalk.wrap64_in _ (by omega))
  have W1 := hid (show wrap64 ((m : Int) - 1) = (m : Int) - 1 from IntWalk.wrap64_in _ (by omega))
  clear f1 f2 f3 f4 g1 g2 g3 g4 haa hbb ha hb2 hv hlo hlo2 hg hc hd hr hs hj hi hX hY hP hQ
  go_enter Try.func9, Try.ntmps9
  go_wp2_with fail
  refine (SM.out _).mono ?_
  rintro e w1 ⟨rfl, h1⟩
  have U1 := hid (show Gu W w1.heap.size W.heap.size m q z z2 _ from ⟨At.var ((below_al _).trans (h1.mono (by simp))), ((Blk.new W 45 #[.int .u16 z, .int .u16 z2]).below h1 (by simp)).alloc _⟩)
  have q0 := U1.out.a.c0
  have q1 := U1.out.a.c1
  clear h1
  unfold gv
  go_wp2_with ((with_reducible apply ldR (cs := #[Value.int .i64 m, .int .i64 q]) (tGe _ _)); rfl; exact U1.out.a.blk.whole)
  refine (logical_any m q _).mono ?_
  rintro e w2 ⟨rfl, h2⟩
  rw [V.out]
  have U2 := hid (U1.out.on h2)
  clear h2 U1 q0 q1
  go_wp2_with fail
  have LG := hid (logical_any m q)
  rw [V.out] at LG
  refine wp_region_tail (C := Gu W w1.heap.size W.heap.size m q z z2) 13 (by kernel_rfl) (by kernel_rfl) (by kernel_rfl) U2.out.drew ?_
  simp only [List.take_succ_cons, List.take_zero, List.drop_succ_cons, List.drop_zero]
  apply wpK_val
  · rfl
  · intro w' hw'
    go_simp
    first | exact rfl | exact ⟨rfl, hw'⟩
  simp only [Act.put, List.setIfInBounds_toArray, List.set_cons_succ, List.set_cons_zero]
  apply wpK_val
  · rfl
  · intro w' hw'
    have hcell := (show w'.cell? ⟨W.heap.size, 0, none⟩ = some (.int .u16 z) from hw'.p.cell 0)
    go_simp
    first | exact rfl | exact ⟨rfl, hw'⟩
  simp only [Act.put, List.setIfInBounds_toArray, List.set_cons_succ, List.set_cons_zero]
  apply wpK_val
  · rfl
  · intro w' hw'
    have h1 : _ = _ := ZW.out
    go_simp
    first | exact rfl | exact ⟨rfl, hw'⟩
  simp only [Act.put, List.setIfInBounds_toArray, List.set_cons_succ, List.set_cons_zero]
  apply kldR (tGe (m : Int) (q : Int))
  · rfl
  · rfl
  · exact fun w' hw' => hw'.a.blk.whole
  simp only [Act.put, List.setIfInBounds_toArray, List.set_cons_succ, List.set_cons_zero]
  apply wpK_val
  · rfl
  · intro w' hw'
    go_simp
    exact (LG.out w').mono fun e w5 h => ⟨h.1, hw'.on h.2⟩
  simp only [Act.put, List.setIfInBounds_toArray, List.set_cons_succ, List.set_cons_zero]
  apply wpK_val
  · rfl
  · intro w' hw'
    have h1 : _ = _ := AA.out
    have h2 : ¬ v = 0 := hv0.out
    go_simp
    first | exact rfl | exact ⟨rfl, hw'⟩
  simp only [Act.put, List.setIfInBounds_toArray, List.set_cons_succ, List.set_cons_zero]
  apply wpK_val
  · rfl
  · intro w' hw'
    go_simp
    first | exact rfl | exact ⟨rfl, hw'⟩
  simp only [Act.put, List.setIfInBounds_toArray, List.set_cons_succ, List.set_cons_zero]
  apply wpK_val
  · rfl
  · intro w' hw'
    have hcell := (show w'.cell? ⟨W.heap.size, 1, none⟩ = some (.int .u16 z2) from hw'.p.cell 1)
    go_simp
    first | exact rfl | exact ⟨rfl, hw'⟩
  simp only [Act.put, List.setIfInBounds_toArray, List.set_cons_succ, List.set_cons_zero]
  apply wpK_val
  · rfl
  · intro w' hw'
    have h1 : _ = _ := ZW2.out
    go_simp
    first | exact rfl | exact ⟨rfl, hw'⟩
  simp only [Act.put, List.setIfInBounds_toArray, List.set_cons_succ, List.set_cons_zero]
  apply kldR (tGe (m : Int) (q : Int))
  · rfl
  · rfl
  · exact fun w' hw' => hw'.a.blk.whole
  simp only [Act.put, List.setIfInBounds_toArray, List.set_cons_succ, List.set_cons_zero]
  apply wpK_val
  · rfl
  · intro w' hw'
    go_simp
    exact (LG.out w').mono fun e w5 h => ⟨h.1, hw'.on h.2⟩
  simp only [Act.put, List.setIfInBounds_toArray, List.set_cons_succ, List.set_cons_zero]
  apply wpK_val
  · rfl
  · intro w' hw'
    have h1 : _ = _ := BB.out
    have h2 : ¬ v = 0 := hv0.out
    go_simp
    first | exact rfl | exact ⟨rfl, hw'⟩
  simp only [Act.put, List.setIfInBounds_toArray, List.set_cons_succ, List.set_cons_zero]
  apply wpK_val
  · rfl
  · intro w' hw'
    go_simp
    first | exact rfl | exact ⟨rfl, hw'⟩
  simp only [Act.put, List.setIfInBounds_toArray, List.set_cons_succ, List.set_cons_zero]
  refine wpK_nil fun w3 hw3 => ?_
  have A3 := hid hw3.a
  have q0 := A3.out.c0
  have q1 := A3.out.c1
  clear hw3 U2
  go_wp2_with ((with_reducible apply ldR (cs := #[Value.int .i64 m, .int .i64 q]) (tGe _ _)); rfl; exact A3.out.blk.whole)
  refine (of_at m q a _).mono ?_
  rintro e w4 ⟨rfl, h4⟩
  rw [F1.out, v3_eq]
  have A4 := hid (A3.out.on h4)
  clear h4 A3 q0 q1
  have q0 := A4.out.c0
  have q1 := A4.out.c1
  go_wp2_with ((with_reducible apply ldR (cs := #[Value.int .i64 m, .int .i64 q]) (tGe _ _)); rfl; exact A4.out.blk.whole)
  refine (of_at m q b _).mono ?_
  rintro e w5 ⟨rfl, h5⟩
  rw [G1.out, v3_eq]
  have A5 := hid (A4.out.on h5)
  clear h5 A4 q0 q1
  have q0 := A5.out.c0
  have q1 := A5.out.c1
  go_wp2_with ((with_reducible apply ldR (cs := #[Value.int .i64 m, .int .i64 q]) (tGe _ _)); rfl; exact A5.out.blk.whole)
  refine (member_any m q r c _).mono ?_
  rintro e w6 ⟨rfl, h6⟩
  rw [F2.out, v2_eq]
  have A6 := hid (A5.out.on h6)
  clear h6 A5 q0 q1
  have q0 := A6.out.c0
  have q1 := A6.out.c1
  go_wp2_with ((with_reducible apply ldR (cs := #[Value.int .i64 m, .int .i64 q]) (tGe _ _)); rfl; exact A6.out.blk.whole)
  refine (member_any m q s d _).mono ?_
  rintro e w7 ⟨rfl, h7⟩
  rw [G2.out, v2_eq]
  have A7 := hid (A6.out.on h7)
  clear h7 A6 q0 q1
  have q0 := A7.out.c0
  have q1 := A7.out.c1
  go_wp2_with ((with_reducible apply ldR (cs := #[Value.int .i64 m, .int .i64 q]) (tGe _ _)); rfl; exact A7.out.blk.whole)
  refine (leaf_any m q r j _).mono ?_
  rintro e w8 ⟨rfl, h8⟩
  rw [F3.out, v2_eq]
  have A8 := hid (A7.out.on h8)
  clear h8 A7 q0 q1
  have q0 := A8.out.c0
  have q1 := A8.out.c1
  go_wp2_with ((with_reducible apply ldR (cs := #[Value.int .i64 m, .int .i64 q]) (tGe _ _)); rfl; exact A8.out.blk.whole)
  refine (leaf_any m q s i _).mono ?_
  rintro e w9 ⟨rfl, h9⟩
  rw [G3.out, v2_eq]
  have A9 := hid (A8.out.on h9)
  clear h9 A8 q0 q1
  have q0 := A9.out.c0
  have q1 := A9.out.c1
  have e2 := W2.out
  go_wp2_with ((with_reducible apply ldR (cs := #[Value.int .i64 m, .int .i64 q]) (tGe _ _)); rfl; exact A9.out.blk.whole)
  refine (member_any m q r ((m : Int) - 2) _).mono ?_
  rintro e w10 ⟨rfl, h10⟩
  rw [F4.out, v2_eq]
  have A10 := hid (A9.out.on h10)
  clear h10 A9 q0 q1
  have q0 := A10.out.c0
  have q1 := A10.out.c1
  have e1 := W1.out
  go_wp2_with ((with_reducible apply ldR (cs := #[Value.int .i64 m, .int .i64 q]) (tGe _ _)); rfl; exact A10.out.blk.whole)
  refine (member_any m q r ((m : Int) - 1) _).mono ?_
  rintro e w11 ⟨rfl, h11⟩
  rw [F5.out, v2_eq]
  have A11 := hid (A10.out.on h11)
  clear h11 A10 q0 q1
  have q0 := A11.out.c0
  have q1 := A11.out.c1
  have n1 := N1.out
  have n2 := N2.out
  have n3 := N3.out
  rcases CS.out with ⟨c1, c2⟩ | ⟨c1, c2, c3⟩ | ⟨c1, c2, c3, c4⟩
  · have t1 : ((X : Int) == (Y : Int)) = true := by simp; omega
    have t2 : ((a : Int) == (b : Int)) = true := by simp; omega
    have T1 := hid t1
    clear c1 c2
    go_wp2_with fail
    refine (awake15_any _).mono ?_
    rintro e w99 ⟨rfl, h9⟩
    have A99 := hid (A11.out.on h9)
    clear h9
    go_wp2_with fail
    go_ret
    exact ⟨rfl, A99.out.bel⟩
  · have t1 : ((X : Int) == (Y : Int)) = false := by simp; omega
    have t2 : ((a : Int) == (b : Int)) = false := by simp; omega
    have t3 : ((r : Int) != (s : Int)) = true := by simp; omega
    clear c1 c2 c3
    go_wp2_with fail
    refine (awake15_any _).mono ?_
    rintro e w99 ⟨rfl, h9⟩
    have A99 := hid (A11.out.on h9)
    clear h9
    go_wp2_with fail
    go_ret
    exact ⟨rfl, A99.out.bel⟩
  · have t1 : ((X : Int) == (Y : Int)) = false := by simp; omega
    have t2 : ((a : Int) == (b : Int)) = false := by simp; omega
    have t3 : ((r : Int) != (s : Int)) = false := by simp; omega
    have t4 : ((j : Int) != (i : Int)) = true := by simp; omega
    clear c1 c2 c3 c4
    go_wp2_with fail
    refine (awake15_any _).mono ?_
    rintro e w99 ⟨rfl, h9⟩
    have A99 := hid (A11.out.on h9)
    clear h9
    go_wp2_with fail
    go_ret
    exact ⟨rfl, A99.out.bel⟩
end GeM
end Go.Proofs.Ytclmdakgkiponaa
set_option maxRecDepth 100000
namespace Go.Proofs.Ytclmdakgkiponaa
open Go.ChangeShapes Go.WideShapes Go.ChangeAt Go.RowKit
attribute [local go_sem] Gives
namespace GeM
/-- n bools. -/
def bl (n : Nat) (F : Nat → Bool) : Array Value := row n fun j => .bool (F j)
theorem made_bl (n : Nat) : madeCells (Value.cells (.bool false)) n = bl n fun _ => false := by
  apply Array.ext'
  apply List.ext_getElem?
  intro k
  unfold bl
  rw [Array.getElem?_toList, Array.getElem?_toList, get_row]
  unfold madeCells
  by_cases h : k < n
  · simp [h, Value.cells]
    rw [Nat.mod_one]; rfl
  · simp [h, Value.cells]
theorem wmkBl {ops : Array Oper} {Q : Exit → Act → World → Prop} {a : Act} {w : World} {rest : List Oper} {dst : Option Tmp} {ty : TypeId} {pos : String} {after : Array Edge} {x y : Operand} {N : Nat} (hx : a.eval x = .int .i64 N) (hy : a.eval y = .int .i64 N) (hN : N ≤ 64)
    (h : wpList Try.prog ops Q rest (a.put dst (.slice (some ⟨w.heap.size, 0, none⟩) N N)) (w.alloc (.cells (bl N fun _ => false) 4))) :
    wpList Try.prog ops Q (⟨dst, .makeSlice 43 x y, ty, pos, after, none⟩ :: rest) a w := by
  obtain ⟨i, hi, hz, h1, h2⟩ := info_parts (P := Try.prog) (e := 4) (z := .bool false) (size := 1) (bytes := 1) (by kernel_rfl)
  have hr := run_makeSlice (P := Try.prog) (w := w) 43 4 i _ Try.underlying43 hi hz .i64 .i64 N N (by omega) (by omega) (by rw [h1]; omega) (by rw [h2]; omega) (by omega)
  rw [h1, Int.toNat_natCast, Nat.mul_one, made_bl] at hr
  refine wpList_plain rfl fun K hK => ?_
  unfold Oper.wp execOp
  simp only [Sem.run_bind, hx, hy, hr, Result.andThen_ok]
  exact hK _ _ h
theorem bl_at {w : World} {g n : Nat} {t : TypeId} {F : Nat → Bool} (h : Blk w g t (bl n F)) {j : Nat} (hj : j < n) : w.cell? ⟨g, j, none⟩ = some (.bool (F j)) := by rw [h.cell]; exact get_row_lt hj
theorem bl_set {w : World} {g n j : Nat} {t : TypeId} {F G : Nat → Bool} (h : Blk w g t (bl n F)) (hs : ∀ i, i < n → G i = if i = j then true else F i) : Blk (w.setCell ⟨g, j, none⟩ (.bool true)) g t (bl n G) := by
  have h2 := h.setCell_same j (.bool true)
  unfold bl at h2 ⊢
  rw [row_set] at h2
  have he : (row n fun j => Value.bool (G j)) = row n fun i => if i = j then Value.bool true else .bool (F i) := row_ext fun i hi => by rw [hs i hi]; split <;> rfl
  rwa [he]
section
variable {m r c : Nat}
/-- Columns that members below k have. -/
theorem seen_step {k : Nat} (hk : k < m) : ∀ j, j < m → decide (mem m r j < k + 1) = if j = col m r k then true else decide (mem m r j < k) := fun j hj => by
  by_cases e : j = col m r k
  · rw [if_pos e, e, mem_col hk]
    simp
  · rw [if_neg e]
    have : mem m r j ≠ k := fun h => e (by rw [← h, col_mem hj])
    by_cases h : mem m r j < k
    · rw [decide_eq_true h, decide_eq_true (by omega)]
    · rw [decide_eq_false h, decide_eq_false (by omega)]
theorem mem_mem (hr : r < m) (hc : c < m) : mem m (mem m r c) c = r := by
  have h1 := mem_lt (m := m) (r := r) (c := c) (by omega)
  have h2 := mem_cases (r := r) hc
  have h3 := mem_cases (r := mem m r c) hc
  have h4 := mem_lt (m := m) (r := mem m r c) (c := c) (by omega)
  rw [Nat.mod_eq_of_lt hr] at h2
  rw [Nat.mod_eq_of_lt h1] at h3
  omega
/-- Members that had the column c in rows below k. -/
theorem had_step {k : Nat} (hk : k < m) (hc : c < m) : ∀ j, j < m → decide (mem m j c < k + 1) = if j = mem m k c then true else decide (mem m j c < k) := fun j hj => by
  by_cases e : j = mem m k c
  · rw [if_pos e, e, mem_mem hk hc]
    simp
  · rw [if_neg e]
    have : mem m j c ≠ k := fun h => e (by rw [← h, mem_mem hj hc])
    by_cases h : mem m j c < k
    · rw [decide_eq_true h, decide_eq_true (by omega)]
    · rw [decide_eq_false h, decide_eq_false (by omega)]
end
/-- The geometry stands; a slice of bools lies in block h. -/
structure Tn (B : World) (g h : Nat) (a b : Int) (n : Nat) (F : Nat → Bool) (w : World) : Prop where
  a : At B g a b w
  p : Blk w h 4 (bl n F)
  n : B.heap.size ≤ h
  d : h ≠ g
section
variable {B w w' : World} {g h n : Nat} {a b : Int} {F G : Nat → Bool}
theorem Tn.on (H : Tn B g h a b n F w) (hb : Below w.heap.size w w') : Tn B g h a b n F w' := ⟨H.a.on hb, H.p.below hb H.p.lt, H.n, H.d⟩
theorem Tn.put (H : Tn B g h a b n F w) (j : Nat) (hs : ∀ i, i < n → G i = if i = j then true else F i) : Tn B g h a b n G (w.setCell ⟨h, j, none⟩ (.bool true)) :=
  ⟨⟨H.a.blk.setCell_other (p := ⟨h, j, none⟩) H.d _, H.a.bel.setCell H.n _⟩, bl_set H.p hs, H.n, H.d⟩
theorem Tn.new (H : At B g a b w) : Tn B g w.heap.size a b n (fun _ => false) (w.alloc (.cells (bl n fun _ => false) 4)) :=
  ⟨H.on (below_al _), Blk.new _ _ _, H.bel.size, by have := H.blk.lt; omega⟩
end
set_option maxHeartbeats 400000 in
theorem turns_law (x y z : Nat) (hx : x < 256) (hy : y < 256) (hz : z < 256) (W : World) : Calls Try.prog 8 #[.int .u8 x, .int .u8 y, .int .u8 z] W fun e w' => e = .returned (.bool true) ∧ Below W.heap.size W w' := by
  have hg := good_small x y
  obtain ⟨m, hm⟩ : ∃ m, m = 4 + x % 61 := ⟨_, rfl⟩
  obtain ⟨q, hq⟩ : ∃ q, q = 1 + y % 64 := ⟨_, rfl⟩
  have SM := hid (small_any x y hx hy)
  rw [← hm, ← hq] at hg SM
  have hb := r_bd hg
  obtain ⟨c, hc⟩ : ∃ c, c = z % m := ⟨_, rfl⟩
  have hcm : c < m := by rw [hc]; exact Nat.mod_lt _ (by omega)
  have MC := hid (show (z : Int) % (m : Int) = (c : Int) by rw [hc]; omega)
  have hm0 : ¬ m = 0 := by omega
  have HC := hid (show ∀ r k, r < q → k < m → colP m q r k = (col m r k, 0) from fun r k hr hk => colP_ok hg hr hk)
  have HM := hid (show ∀ r k, r < q → k < m → memP m q r k = (mem m r k, 0) from fun r k hr hk => memP_ok hg hr hk)
  have zw : wrap64 (z : Int) = (z : Int) := IntWalk.wrap64_in _ (by omega)
  have zm : (z : Int).tmod (m : Int) = (c : Int) := by rw [hc]; exact (Int.ofNat_tmod z m).symm
  clear hm hq hx hy hc hg
  go_enter Try.func8, Try.ntmps8
  go_wp2_with fail
  refine (SM.out W).mono ?_
  rintro e w1 ⟨rfl, h1⟩
  have A1 := hid (At.var (a := m) (b := q) h1)
  have q0 := A1.out.c0
  have e1 := MC.out
  clear h1
  unfold gv
  go_wp2_with fail
  clear q0 e1 zw zm
  go_loopw [9, 10, 11, 12, 13] (fun u9 u10 u11 u12 u13 wr => ∃ r : Nat, u9 = .int .i64 r ∧ r ≤ q ∧ Hid (At W w1.heap.size m q wr)) (fun u9 _ _ _ _ _ => q - (intOf u9).toNat)
  case atStart => exact ⟨0, rfl, by omega, A1⟩
  case round =>
    obtain ⟨r, rfl, hr, HA⟩ := hrel
    have q0 := HA.out.c0
    have q1 := HA.out.c1
    by_cases hgo : r < q
    · have t1 : (r : Int) < q := by omega
      have T0 := hid (Tn.new (n := m) HA.out)
      go_wp2_with ((with_reducible apply wmkBl); rfl; rfl; omega)
      generalize hw5 : World.alloc wr _ = w5 at T0 ⊢
      obtain ⟨h, hh⟩ : ∃ h, h = wr.heap.size := ⟨_, rfl⟩
      rw [← hh] at T0 ⊢
      clear hw5 hh HA q0 q1
      have T1 := hid (show Tn W w1.heap.size h m q m (fun j => decide (mem m r j < 0)) w5 from T0.out)
      clear T0
      go_loopw [11, 12, 13] (fun u11 u12 u13 wr => ∃ k : Nat, u11 = .int .i64 k ∧ k ≤ m ∧ Hid (Tn W w1.heap.size h m q m (fun j => decide (mem m r j < k)) wr)) (fun u11 _ _ _ => m - (intOf u11).toNat)
      case atStart => exact ⟨0, rfl, by omega, T1⟩
      case round =>
        obtain ⟨k, rfl, hk, HT⟩ := hrel
        clear T1
        have q0 := HT.out.a.c0
        by_cases hgk : k < m
        · have t2 : (k : Int) < m := by omega
          go_wp2_with ((with_reducible apply ldR (cs := #[Value.int .i64 m, .int .i64 q]) (tGe _ _)); rfl; exact HT.out.a.blk.whole)
          refine (column_any m q r k _).mono ?_
          rintro e w6 ⟨rfl, h6⟩
          rw [HC.out r k (by omega) hgk, v2_eq]
          have T6 := hid (HT.out.on h6)
          clear h6 HT q0
          obtain ⟨j, hj⟩ : ∃ j, j = col m r k := ⟨_, rfl⟩
          have hjm : j < m := by rw [hj]; exact col_lt (by omega)
          have HJ := hid hj
          rw [← hj]
          have hf : decide (mem m r j < k) = false := decide_eq_false (by rw [hj, mem_col hgk]; omega)
          have q0 := T6.out.a.c0
          have q2 := bl_at T6.out.p hjm
          rw [hf] at q2
          have q3 := T6.out.p.frozen j
          have t3 : ¬ (m : Int) ≤ j := by omega
          have t4 : decide ((j : Int) < 0) = false := decide_eq_false (by omega)
          have t5 : decide (m ≤ j) = false := decide_eq_false (by omega)
          have T7 := hid (T6.out.put j (G := fun i => decide (mem m r i < k + 1)) fun i hi => by rw [HJ.out]; exact seen_step hgk i hi)
          clear hj hf
          go_wp2_with fail
          go_roundw
          case rel => exact ⟨k + 1, by go_num, by omega, T7⟩
          case measure => simp [intOf] <;> omega
        · have t2 : ¬ (k : Int) < m := by omega
          have HA := hid HT.out.a
          go_wp2_with fail
          go_roundw
          case rel => exact ⟨r + 1, by go_num, by omega, HA⟩
          case measure => simp [intOf] <;> omega
    · have t1 : ¬ (r : Int) < q := by omega
      have T0 := hid (Tn.new (n := m) HA.out)
      go_wp2_with ((with_reducible apply wmkBl); rfl; rfl; omega)
      generalize hw5 : World.alloc wr _ = w5 at T0 ⊢
      obtain ⟨h, hh⟩ : ∃ h, h = wr.heap.size := ⟨_, rfl⟩
      rw [← hh] at T0 ⊢
      clear hw5 hh HA q0 q1 hr hgo t1
      have T1 := hid (show Tn W w1.heap.size h m q m (fun j => decide (mem m j c < 0)) w5 from T0.out)
      clear T0
      go_loopw [15, 16, 17] (fun u15 u16 u17 wr => ∃ k : Nat, u15 = .int .i64 k ∧ k ≤ m ∧ k ≤ q ∧ Hid (Tn W w1.heap.size h m q m (fun j => decide (mem m j c < k)) wr)) (fun u15 _ _ _ => m - (intOf u15).toNat)
      case atStart => exact ⟨0, rfl, by omega, by omega, T1⟩
      case round =>
        obtain ⟨k, rfl, hk, hkq, HT⟩ := hrel
        clear T1
        have q0 := HT.out.a.c0
        have q1 := HT.out.a.c1
        by_cases hgk : k < m ∧ k < q
        · obtain ⟨g1, g2⟩ := hgk
          have t2 : (k : Int) < m := by omega
          have t6 : (k : Int) < q := by omega
          go_wp2_with ((with_reducible apply ldR (cs := #[Value.int .i64 m, .int .i64 q]) (tGe _ _)); rfl; exact HT.out.a.blk.whole)
          refine (member_any m q k c _).mono ?_
          rintro e w6 ⟨rfl, h6⟩
          rw [HM.out k c g2 hcm, v2_eq]
          have T6 := hid (HT.out.on h6)
          clear h6 HT q0 q1
          obtain ⟨j, hj⟩ : ∃ j, j = mem m k c := ⟨_, rfl⟩
          have hjm : j < m := by rw [hj]; exact mem_lt (by omega)
          have HJ := hid hj
          rw [← hj]
          have hf : decide (mem m j c < k) = false := decide_eq_false (by rw [hj, mem_mem g1 hcm]; omega)
          have q2 := bl_at T6.out.p hjm
          rw [hf] at q2
          have q3 := T6.out.p.frozen j
          have T7 := hid (T6.out.put j (G := fun i => decide (mem m i c < k + 1)) fun i hi => by rw [HJ.out]; exact had_step g1 hcm i hi)
          clear hj hf
          go_wp2_with fail
          go_roundw
          case rel => exact ⟨k + 1, by go_num, by omega, by omega, T7⟩
          case measure => simp [intOf] <;> omega
        · have HB := hid HT.out.a.bel
          by_cases g1 : k < m
          · have t2 : (k : Int) < m := by omega
            have t6 : ¬ (k : Int) < q := by omega
            go_wp2_with fail
            refine (awake15_any _).mono ?_
            rintro e w9 ⟨rfl, h9⟩
            have B9 := hid (HB.out.trans (h9.mono HB.out.size))
            clear h9
            go_wp2_with fail
            go_ret
            exact ⟨rfl, B9.out⟩
          · have t2 : ¬ (k : Int) < m := by omega
            go_wp2_with fail
            refine (awake15_any _).mono ?_
            rintro e w9 ⟨rfl, h9⟩
            have B9 := hid (HB.out.trans (h9.mono HB.out.size))
            clear h9
            go_wp2_with fail
            go_ret
            exact ⟨rfl, B9.out⟩
end GeM
end Go.Proofs.Ytclmdakgkiponaa
