/-
  Contract of bytes.Parts over this translation.
-/
import Derived.Test.YtiebaiofpihoiaaByCut
import Derived.Test.YtiebaiofpihoiaaRefBy2
import Derived.Test.YtiebaiofpihoiaaOwnP
namespace Go.Proofs.Ytiebaiofpihoiaa
open Go.ChangeShapes Go.WideShapes Go.ChangeAt Go.RowKit
attribute [local go_sem] Gives
/-- The cells of parts that are read. -/
def PRd (w : World) (lo hi : Nat) (cs : List Value) (ls : List (List Nat)) : Prop :=
  cs.length = ls.length ∧ ∀ j, j < ls.length → ∃ A' c, cs[j]? = some (.slice A' (ls.getD j []).length c) ∧ Rd w lo hi A' (ls.getD j []) (ls.getD j []).length c
theorem PRd.nil {w : World} {lo hi : Nat} : PRd w lo hi [] [] := ⟨rfl, fun j hj => by cases hj⟩
theorem PRd.gr {w w' : World} {lo hi : Nat} {r : Option Nat} {cs : List Value} {ls : List (List Nat)} (h : PRd w lo hi cs ls) (hg : w.grownBy w' r) (hr : ∀ k, r = some k → k < lo ∨ hi ≤ k) : PRd w' lo hi cs ls :=
  ⟨h.1, fun j hj => by
    obtain ⟨A', c, h1, h2⟩ := h.2 j hj
    exact ⟨A', c, h1, h2.gr hg hr⟩⟩
theorem PRd.snoc {w : World} {lo hi : Nat} {cs : List Value} {ls : List (List Nat)} (h : PRd w lo hi cs ls) {A' : Option Addr} {l : List Nat} {c : Nat} (h2 : Rd w lo hi A' l l.length c) : PRd w lo hi (cs ++ [.slice A' l.length c]) (ls ++ [l]) := by
  refine ⟨by rw [List.length_append, List.length_append, h.1]; rfl, fun j hj => ?_⟩
  rw [List.length_append, List.length_singleton] at hj
  by_cases e : j < ls.length
  · obtain ⟨B, d, h3, h4⟩ := h.2 j e
    have e2 : (ls ++ [l]).getD j [] = ls.getD j [] := by rw [List.getD_eq_getElem?_getD, List.getElem?_append_left e, List.getD_eq_getElem?_getD]
    rw [e2]
    exact ⟨B, d, by rw [List.getElem?_append_left (by rw [h.1]; exact e)]; exact h3, h4⟩
  · obtain rfl : j = ls.length := by omega
    have e2 : (ls ++ [l]).getD ls.length [] = l := by rw [List.getD_eq_getElem?_getD, List.getElem?_append_right (Nat.le_refl _), Nat.sub_self]; rfl
    rw [e2]
    exact ⟨A', c, by rw [List.getElem?_append_right (by rw [h.1]; exact Nat.le_refl _), h.1, Nat.sub_self]; rfl, h2⟩
theorem OwnP.rws {w : World} {B lo hi : Nat} {v : Value} {cs : List Value} {ls : List (List Nat)} (h : OwnP w B v cs) (hp : PRd w lo hi cs ls) (hh : hi ≤ w.heap.size) : ∃ A cap, v = .slice A ls.length cap ∧ Rws w A ls ls.length cap := by
  have h6 : ∀ l ∈ ls, B256 l := fun l hl => by
    obtain ⟨j, hj⟩ := List.getElem?_of_mem hl
    have hj' := (List.getElem?_eq_some_iff.1 hj).1
    obtain ⟨A', c, _, h2⟩ := hp.2 j hj'
    rw [List.getD_eq_getElem?_getD, hj] at h2
    exact h2.b256
  rcases h.2 with ⟨rfl, h0⟩ | ⟨g, cap, cur, rfl, hB, hg, hnc, hcm, hcs, ht⟩
  · have hl0 : ls.length = 0 := by rw [← hp.1]; exact h0
    rw [hl0]
    exact ⟨none, 0, rfl, hl0, Nat.le_refl _, Nat.zero_le _, h6, fun _ => ⟨rfl, rfl⟩, fun hn => by omega⟩
  · rw [hp.1] at hnc ht
    refine ⟨_, cap, by rw [hp.1], rfl, hnc, hcm, h6, (fun e => by cases e), fun _ => ⟨g, 0, rfl, Blk.lt (t := 22) (cs := cur) hg, fun i hi => ?_⟩⟩
    obtain ⟨A', c, h1, h2⟩ := hp.2 i hi
    refine ⟨A', c, ?_, h2.cap, h2.max, h2.byt.byt.more hh, h2.none⟩
    rw [Nat.zero_add, cell_of_row w g i cur _ _ hg]
    rw [← ht, List.getElem?_take_of_lt (by omega), Array.getElem?_toList] at h1
    exact h1
theorem OwnP.gr {w w' : World} {B : Nat} {r : Option Nat} {v : Value} {cs : List Value} (h : OwnP w B v cs) (hg : w.grownBy w' r) (hr : ∀ k, r = some k → k < B) : OwnP w' B v cs := by
  refine World.ownsRow.kept h hg ?_
  cases hv : v.ownBlock with
  | none => exact .inl rfl
  | some k =>
    refine .inr fun e => ?_
    have h1 := (World.ownsRow.lt h k hv).1
    have h2 := hr k e.symm
    omega
theorem OwnP.alloc {w : World} {B : Nat} {v : Value} {cs : List Value} (h : OwnP w B v cs) (o : Obj) : OwnP (w.alloc o) B v cs := World.ownsRow.alloc h o
theorem OwnP.rowGe {w : World} {B : Nat} {v : Value} {cs : List Value} (h : OwnP w B v cs) : ∀ k, v.ownBlock = some k → B ≤ k := fun k hk => (World.ownsRow.lt h k hk).1
set_option maxHeartbeats 400000 in
theorem pparts_many (A : Option Addr) (l : List Nat) (n cap : Nat) (hn : n ≤ 1000000) (hm : 16 < BytM.pMany l) (w : World) (hA : Arg w A l n cap) :
    Calls Try.prog 18 #[.slice A n cap] w fun e w' => e = .returned (.tuple #[.int .u8 0, .slice none 0 0, .int .i64 4]) ∧ Below w.heap.size w w' := by
  have O := hid (open_any A l n cap hn w hA)
  have h256 := BytM.T256.some hA.b256
  have hd1 := BytM.numL_lt h256 (w := 1) (n := 1) rfl
  have hd2 := BytM.numL_lt (h256.num 1) (w := 1) (n := 1) rfl
  have N1 := hid fun (g lo : Nat) (w : World) (h : Tap w g lo (some l)) => tnum_any w h 1
  have N2 := hid fun (g lo : Nat) (w : World) (h : Tap w g lo (BytM.numS (some l) 1)) => tnum_any w h 1
  unfold BytM.pMany at hm
  generalize BytM.numL (BytM.numS (some l) 1) 1 = M at *
  generalize BytM.numL (some l) 1 = D at *
  have t0 : decide ((16 : Int) < (M : Int)) = true := decide_eq_true (by omega)
  have hD : D < 256 := hd1
  have hM : M < 256 := hd2
  clear hA h256 hd1 hd2 hm
  go_enter Try.func18, Try.ntmps18
  go_wp2_with fail
  refine O.out.mono ?_
  rintro e w1 ⟨g, rfl, t1, b1⟩
  have T1 := hid t1
  have B1 := hid b1
  clear t1 b1 O
  go_wp2_with fail
  refine (N1.out g _ w1 T1.out).mono ?_
  rintro e w2 ⟨rfl, t2, g2⟩
  have T2 := hid t2
  have B2 := hid (below_by B1.out g2 T1.out.le (Nat.le_refl _))
  clear t2 g2 N1
  go_wp2_with fail
  refine (N2.out g _ w2 T2.out).mono ?_
  rintro e w3 ⟨rfl, t3, g3⟩
  have B3 := hid (below_by B2.out g3 T1.out.le (Nat.le_refl _))
  clear t3 g3 N2
  go_wp2_with fail
  go_ret3
  exact ⟨rfl, B3.out⟩
set_option maxHeartbeats 800000 in
theorem pparts_bad (A : Option Addr) (l : List Nat) (n cap : Nat) (hn : n ≤ 1000000) (hm : ¬ 16 < BytM.pMany l) (h8 : ¬ BytM.prsS (BytM.pMany l) (BytM.pRest l) = some []) (w : World) (hA : Arg w A l n cap) :
    Calls Try.prog 18 #[.slice A n cap] w fun e w' => e = .returned (.tuple #[.int .u8 0, .slice none 0 0, .int .i64 4]) ∧ Below w.heap.size w w' := by
  have O := hid (open_any A l n cap hn w hA)
  have h256 := BytM.T256.some hA.b256
  have hd1 := BytM.numL_lt h256 (w := 1) (n := 1) rfl
  have N1 := hid fun (g lo : Nat) (w : World) (h : Tap w g lo (some l)) => tnum_any w h 1
  have N2 := hid fun (g lo : Nat) (w : World) (h : Tap w g lo (BytM.numS (some l) 1)) => tnum_any w h 1
  unfold BytM.pMany at hm
  unfold BytM.pMany BytM.pRest at h8
  generalize BytM.numL (BytM.numS (some l) 1) 1 = M at *
  generalize BytM.numL (some l) 1 = D at *
  generalize hst2 : BytM.numS (BytM.numS (some l) 1) 1 = st2 at *
  have hPL : BytM.prsL M st2 = BytM.prsL M st2 := rfl
  generalize hpl : BytM.prsL M st2 = pl at *
  generalize hps : BytM.prsS M st2 = stf at *
  have PL := hid hpl
  have PS := hid hps
  have t0 : decide ((16 : Int) < (M : Int)) = false := decide_eq_false (by omega)
  have hD : D < 256 := hd1
  have hM : M ≤ 16 := by omega
  clear hA h256 hd1 hm hPL hpl hps hst2
  go_enter Try.func18, Try.ntmps18
  go_wp2_with fail
  refine O.out.mono ?_
  rintro e w1 ⟨g, rfl, t1, b1⟩
  have T1 := hid t1
  have B1 := hid b1
  clear t1 b1 O
  go_wp2_with fail
  refine (N1.out g _ w1 T1.out).mono ?_
  rintro e w2 ⟨rfl, t2, g2⟩
  have T2 := hid t2
  have B2 := hid (below_by B1.out g2 T1.out.le (Nat.le_refl _))
  clear t2 g2 N1
  go_wp2_with fail
  refine (N2.out g _ w2 T2.out).mono ?_
  rintro e w3 ⟨rfl, t3, g3⟩
  have T3 := hid t3
  have B3 := hid (below_by B2.out g3 T1.out.le (Nat.le_refl _))
  have LE := hid T1.out.le
  clear t3 g3 N2 T1 T2 B1 B2
  go_wp2_with fail
  go_loopw [3, 18] (fun u i wr => ∃ (k : Nat) (vs : Value) (cs : List Value) (acc : List (List Nat)) (st : BytM.Tp), k ≤ M ∧ i = .int .i64 k ∧ u = vs ∧ cs.length ≤ k ∧ Hid (OwnP wr w3.heap.size vs cs) ∧ Hid (PRd wr w.heap.size g cs acc) ∧ Hid (Tap wr g w.heap.size st) ∧ Hid (acc ++ BytM.prsL (M - k) st = pl) ∧ Hid (BytM.prsS (M - k) st = stf) ∧ Hid (Below w.heap.size w wr) ∧ w3.heap.size ≤ wr.heap.size) (fun _ i _ => M - (intOf i).toNat)
  case atStart => exact ⟨0, _, [], [], st2, by omega, rfl, rfl, Nat.le_refl _, hid (OwnP.nil _ _), hid PRd.nil, T3, PL, PS, B3, Nat.le_refl _⟩
  case round =>
    have GL := hid T3.out.lt
    clear T3 B3 PL PS
    obtain ⟨k, vs, cs, acc, st, hk, rfl, rfl, hcs, ho, hp, ht, hL, hS, hb, hz⟩ := hrel
    by_cases hlt : k < M
    · have tk : (k : Int) < (M : Int) := by omega
      have hMk : M - k = (M - (k + 1)) + 1 := by omega
      have hL2 := hL.out
      have hS2 := hS.out
      rw [hMk, BytM.prsL] at hL2
      rw [hMk, BytM.prsS] at hS2
      have hN4 := BytM.numL_lt ht.out.t256 (w := 4) (n := 4) rfl
      have TN := hid (tnum_any wr ht.out 4)
      have TC := hid fun (w : World) (lo : Nat) (h : Tap w g lo (BytM.numS st 4)) => pcut_any w h (BytM.numL st 4 : Nat)
      generalize BytM.numS st 4 = st4 at *
      generalize BytM.numL st 4 = N4 at *
      generalize BytM.cutL st4 (N4 : Nat) = P at *
      generalize BytM.cutS st4 (N4 : Nat) = st5 at *
      have hN : N4 < 4294967296 := hN4
      have L2 := hid hL2
      have S2 := hid hS2
      clear hL2 hS2 hL hS hN4 hMk
      go_wp2_with fail
      refine TN.out.mono ?_
      rintro e w4 ⟨rfl, t4, g4⟩
      have T4 := hid t4
      have G4 := hid g4
      clear t4 g4 TN ht
      go_wp2_with fail
      refine (TC.out w4 _ T4.out).mono ?_
      rintro e w5 ⟨A5, c5, rfl, r5, t5, g5⟩
      have G5 := hid (grown_trans G4.out g5)
      have T5 := hid t5
      have R5 := hid r5
      have B5 := hid (below_by hb.out G5.out LE.out (Nat.le_refl _))
      have O5 := hid (ho.out.gr G5.out fun k e => by cases e; exact GL.out)
      have P5 := hid (hp.out.gr G5.out fun k e => by cases e; exact .inr (Nat.le_refl _))
      have HZ5 := hid (Nat.le_trans hz G5.out.size)
      clear t5 g5 r5 T4 TC ho hp G4 hb
      go_wp2_with (at_builtin; (with_reducible apply wappP); rfl; rfl; exact O5.out.alloc _; exact Blk.top rfl rfl; omega; (simp; have := HZ5.out; omega); intro v6 w6 o6 g6)
      have ha := (grown_below ((Below.refl w5.heap.size w5).alloc (Nat.le_refl _) (.cells #[.slice A5 P.length c5] 22)) u3.ownBlock)
      have g7 := grown_trans ha g6
      have hge := O5.out.rowGe
      have hgl := GL.out
      have t7 := T5.out.gr g7 fun k e => by have := hge k e; omega
      have p7 := (P5.out.snoc R5.out).gr g7 fun k e => by have := hge k e; omega
      have b7 := B5.out.grown g7 (Nat.le_trans (Nat.le_refl _) B5.out.size) fun k e => by have := hge k e; have := LE.out; omega
      have hz7 := Nat.le_trans HZ5.out g7.size
      go_roundw
      case rel => exact ⟨k + 1, v6, cs ++ [.slice A5 P.length c5], acc ++ [P], st5, by omega, by go_num, rfl, by rw [List.length_append, List.length_singleton]; omega, hid o6, hid p7, hid t7, hid (by rw [List.append_assoc]; exact L2.out), S2, hid b7, hz7⟩
      case measure => simp [intOf] <;> omega
    · obtain rfl : k = M := by omega
      have hL2 := hL.out
      have hS2 := hS.out
      rw [Nat.sub_self, BytM.prsL, List.append_nil] at hL2
      rw [Nat.sub_self, BytM.prsS] at hS2
      obtain ⟨A9, c9, e9, r9⟩ := ho.out.rws hp.out (Nat.le_of_lt ht.out.lt)
      have T9 := ht
      have B9 := hb
      rw [hL2] at e9 r9
      rw [hS2] at T9
      subst e9
      have R9 := hid r9
      clear hL2 hS2 r9
      clear ho hp ht hb hL hS
      go_wp2_with fail
      refine (end_any wr T9.out).mono ?_
      rintro e w9 ⟨rfl, rfl⟩
      rw [show decide (stf = some []) = false from decide_eq_false h8]
      go_wp2_with fail
      go_ret3
      exact ⟨rfl, B9.out⟩
set_option maxHeartbeats 800000 in
theorem pparts_ok (A : Option Addr) (l : List Nat) (n cap : Nat) (hn : n ≤ 1000000) (hm : ¬ 16 < BytM.pMany l) (h8 : BytM.prsS (BytM.pMany l) (BytM.pRest l) = some []) (w : World) (hA : Arg w A l n cap) :
    Calls Try.prog 18 #[.slice A n cap] w fun e w' => ∃ Ap cp, e = .returned (.tuple #[.int .u8 (BytM.pDom l), .slice Ap (BytM.prsL (BytM.pMany l) (BytM.pRest l)).length cp, .int .i64 0]) ∧ Rws w' Ap (BytM.prsL (BytM.pMany l) (BytM.pRest l)) (BytM.prsL (BytM.pMany l) (BytM.pRest l)).length cp ∧ Below w.heap.size w w' := by
  have O := hid (open_any A l n cap hn w hA)
  have h256 := BytM.T256.some hA.b256
  have hd1 := BytM.numL_lt h256 (w := 1) (n := 1) rfl
  have N1 := hid fun (g lo : Nat) (w : World) (h : Tap w g lo (some l)) => tnum_any w h 1
  have N2 := hid fun (g lo : Nat) (w : World) (h : Tap w g lo (BytM.numS (some l) 1)) => tnum_any w h 1
  unfold BytM.pMany at hm
  unfold BytM.pMany BytM.pRest at h8
  unfold BytM.pMany BytM.pRest BytM.pDom
  generalize BytM.numL (BytM.numS (some l) 1) 1 = M at *
  generalize BytM.numL (some l) 1 = D at *
  generalize hst2 : BytM.numS (BytM.numS (some l) 1) 1 = st2 at *
  have hPL : BytM.prsL M st2 = BytM.prsL M st2 := rfl
  generalize hpl : BytM.prsL M st2 = pl at *
  generalize hps : BytM.prsS M st2 = stf at *
  have PL := hid hpl
  have PS := hid hps
  have t0 : decide ((16 : Int) < (M : Int)) = false := decide_eq_false (by omega)
  have hD : D < 256 := hd1
  have hM : M ≤ 16 := by omega
  clear hA h256 hd1 hm hPL hpl hps hst2
  go_enter Try.func18, Try.ntmps18
  go_wp2_with fail
  refine O.out.mono ?_
  rintro e w1 ⟨g, rfl, t1, b1⟩
  have T1 := hid t1
  have B1 := hid b1
  clear t1 b1 O
  go_wp2_with fail
  refine (N1.out g _ w1 T1.out).mono ?_
  rintro e w2 ⟨rfl, t2, g2⟩
  have T2 := hid t2
  have B2 := hid (below_by B1.out g2 T1.out.le (Nat.le_refl _))
  clear t2 g2 N1
  go_wp2_with fail
  refine (N2.out g _ w2 T2.out).mono ?_
  rintro e w3 ⟨rfl, t3, g3⟩
  have T3 := hid t3
  have B3 := hid (below_by B2.out g3 T1.out.le (Nat.le_refl _))
  have LE := hid T1.out.le
  clear t3 g3 N2 T1 T2 B1 B2
  go_wp2_with fail
  go_loopw [3, 18] (fun u i wr => ∃ (k : Nat) (vs : Value) (cs : List Value) (acc : List (List Nat)) (st : BytM.Tp), k ≤ M ∧ i = .int .i64 k ∧ u = vs ∧ cs.length ≤ k ∧ Hid (OwnP wr w3.heap.size vs cs) ∧ Hid (PRd wr w.heap.size g cs acc) ∧ Hid (Tap wr g w.heap.size st) ∧ Hid (acc ++ BytM.prsL (M - k) st = pl) ∧ Hid (BytM.prsS (M - k) st = stf) ∧ Hid (Below w.heap.size w wr) ∧ w3.heap.size ≤ wr.heap.size) (fun _ i _ => M - (intOf i).toNat)
  case atStart => exact ⟨0, _, [], [], st2, by omega, rfl, rfl, Nat.le_refl _, hid (OwnP.nil _ _), hid PRd.nil, T3, PL, PS, B3, Nat.le_refl _⟩
  case round =>
    have GL := hid T3.out.lt
    clear T3 B3 PL PS
    obtain ⟨k, vs, cs, acc, st, hk, rfl, rfl, hcs, ho, hp, ht, hL, hS, hb, hz⟩ := hrel
    by_cases hlt : k < M
    · have tk : (k : Int) < (M : Int) := by omega
      have hMk : M - k = (M - (k + 1)) + 1 := by omega
      have hL2 := hL.out
      have hS2 := hS.out
      rw [hMk, BytM.prsL] at hL2
      rw [hMk, BytM.prsS] at hS2
      have hN4 := BytM.numL_lt ht.out.t256 (w := 4) (n := 4) rfl
      have TN := hid (tnum_any wr ht.out 4)
      have TC := hid fun (w : World) (lo : Nat) (h : Tap w g lo (BytM.numS st 4)) => pcut_any w h (BytM.numL st 4 : Nat)
      generalize BytM.numS st 4 = st4 at *
      generalize BytM.numL st 4 = N4 at *
      generalize BytM.cutL st4 (N4 : Nat) = P at *
      generalize BytM.cutS st4 (N4 : Nat) = st5 at *
      have hN : N4 < 4294967296 := hN4
      have L2 := hid hL2
      have S2 := hid hS2
      clear hL2 hS2 hL hS hN4 hMk
      go_wp2_with fail
      refine TN.out.mono ?_
      rintro e w4 ⟨rfl, t4, g4⟩
      have T4 := hid t4
      have G4 := hid g4
      clear t4 g4 TN ht
      go_wp2_with fail
      refine (TC.out w4 _ T4.out).mono ?_
      rintro e w5 ⟨A5, c5, rfl, r5, t5, g5⟩
      have G5 := hid (grown_trans G4.out g5)
      have T5 := hid t5
      have R5 := hid r5
      have B5 := hid (below_by hb.out G5.out LE.out (Nat.le_refl _))
      have O5 := hid (ho.out.gr G5.out fun k e => by cases e; exact GL.out)
      have P5 := hid (hp.out.gr G5.out fun k e => by cases e; exact .inr (Nat.le_refl _))
      have HZ5 := hid (Nat.le_trans hz G5.out.size)
      clear t5 g5 r5 T4 TC ho hp G4 hb
      go_wp2_with (at_builtin; (with_reducible apply wappP); rfl; rfl; exact O5.out.alloc _; exact Blk.top rfl rfl; omega; (simp; have := HZ5.out; omega); intro v6 w6 o6 g6)
      have ha := (grown_below ((Below.refl w5.heap.size w5).alloc (Nat.le_refl _) (.cells #[.slice A5 P.length c5] 22)) u3.ownBlock)
      have g7 := grown_trans ha g6
      have hge := O5.out.rowGe
      have hgl := GL.out
      have t7 := T5.out.gr g7 fun k e => by have := hge k e; omega
      have p7 := (P5.out.snoc R5.out).gr g7 fun k e => by have := hge k e; omega
      have b7 := B5.out.grown g7 (Nat.le_trans (Nat.le_refl _) B5.out.size) fun k e => by have := hge k e; have := LE.out; omega
      have hz7 := Nat.le_trans HZ5.out g7.size
      go_roundw
      case rel => exact ⟨k + 1, v6, cs ++ [.slice A5 P.length c5], acc ++ [P], st5, by omega, by go_num, rfl, by rw [List.length_append, List.length_singleton]; omega, hid o6, hid p7, hid t7, hid (by rw [List.append_assoc]; exact L2.out), S2, hid b7, hz7⟩
      case measure => simp [intOf] <;> omega
    · obtain rfl : k = M := by omega
      have hL2 := hL.out
      have hS2 := hS.out
      rw [Nat.sub_self, BytM.prsL, List.append_nil] at hL2
      rw [Nat.sub_self, BytM.prsS] at hS2
      obtain ⟨A9, c9, e9, r9⟩ := ho.out.rws hp.out (Nat.le_of_lt ht.out.lt)
      have T9 := ht
      have B9 := hb
      rw [hL2] at e9 r9
      rw [hS2] at T9
      subst e9
      have R9 := hid r9
      clear hL2 hS2 r9
      clear ho hp ht hb hL hS
      go_wp2_with fail
      refine (end_any wr T9.out).mono ?_
      rintro e w9 ⟨rfl, rfl⟩
      rw [show decide (stf = some []) = true from decide_eq_true h8]
      go_wp2_with fail
      go_ret3
      exact ⟨A9, c9, rfl, R9.out, B9.out⟩
theorem pparts_none (A : Option Addr) (l : List Nat) (n cap : Nat) (hn : n ≤ 1000000) (h : BytM.parse l = none) (w : World) (hA : Arg w A l n cap) :
    Calls Try.prog 18 #[.slice A n cap] w fun e w' => e = .returned (.tuple #[.int .u8 0, .slice none 0 0, .int .i64 4]) ∧ Below w.heap.size w w' := by
  rw [BytM.parse_tape] at h
  by_cases hm : 16 < BytM.pMany l
  · exact pparts_many A l n cap hn hm w hA
  · rw [if_neg hm] at h
    by_cases h8 : BytM.prsS (BytM.pMany l) (BytM.pRest l) = some []
    · rw [if_pos h8] at h; cases h
    · exact pparts_bad A l n cap hn hm h8 w hA
theorem pparts_some (A : Option Addr) (l : List Nat) (n cap : Nat) (hn : n ≤ 1000000) {d : Nat} {ps : List (List Nat)} (h : BytM.parse l = some (d, ps)) (w : World) (hA : Arg w A l n cap) :
    Calls Try.prog 18 #[.slice A n cap] w fun e w' => ∃ Ap cp, e = .returned (.tuple #[.int .u8 d, .slice Ap ps.length cp, .int .i64 0]) ∧ Rws w' Ap ps ps.length cp ∧ Below w.heap.size w w' := by
  rw [BytM.parse_tape] at h
  by_cases hm : 16 < BytM.pMany l
  · rw [if_pos hm] at h; cases h
  · rw [if_neg hm] at h
    by_cases h8 : BytM.prsS (BytM.pMany l) (BytM.pRest l) = some []
    · rw [if_pos h8] at h
      simp only [Option.some.injEq, Prod.mk.injEq] at h
      obtain ⟨rfl, rfl⟩ := h
      exact (pparts_ok A l n cap hn hm h8 w hA).mono fun e w' ⟨Ap, cp, h1, h2, h3⟩ => ⟨Ap, cp, h1, h2, h3⟩
    · rw [if_neg h8] at h; cases h
end Go.Proofs.Ytiebaiofpihoiaa
