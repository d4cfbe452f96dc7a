/-
  The walk of BytesRow.
-/
import Derived.Test.YtiebaiofpihoiaaRefParts2
import Derived.Test.YtiebaiofpihoiaaDrew
namespace Go.Proofs.Ytiebaiofpihoiaa
open Go.ChangeShapes Go.WideShapes Go.ChangeAt Go.RowKit
attribute [local go_sem] Gives
/-- The parts that a law looks at: the first x, the first y bytes of each. -/
def lsN (x y : Nat) (ls : List (List Nat)) : List (List Nat) := (ls.take x).map (·.take y)
theorem lsN_length (x y : Nat) (ls : List (List Nat)) : (lsN x y ls).length = min x ls.length := by simp [lsN]
theorem lsN_get (x y : Nat) (ls : List (List Nat)) {i : Nat} (h : i < ls.length) (h2 : i < x) : (lsN x y ls).getD i [] = (ls.getD i []).take y := by
  unfold lsN
  rw [List.getD_eq_getElem?_getD, List.getElem?_map, List.getElem?_take_of_lt h2, List.getD_eq_getElem?_getD, List.getElem?_eq_getElem h]
  rfl
theorem lsN_256 (x y : Nat) {ls : List (List Nat)} (h : ∀ l ∈ ls, B256 l) : ∀ l ∈ lsN x y ls, B256 l := fun l hl => by
  obtain ⟨m, hm, rfl⟩ := List.mem_map.1 hl
  exact (h m (List.mem_of_mem_take hm)).take y
theorem lsN_part (x y : Nat) (ls : List (List Nat)) : ∀ l ∈ lsN x y ls, l.length ≤ y := fun l hl => by
  obtain ⟨m, _, rfl⟩ := List.mem_map.1 hl
  rw [List.length_take]; omega
theorem flatP_le : ∀ (y : Nat) (ls : List (List Nat)), (∀ l ∈ ls, l.length ≤ y) → (BytM.flatP ls).length ≤ (y + 4) * ls.length
  | _, [], _ => Nat.le_refl _
  | y, l :: ls, h => by
    have h1 := flatP_le y ls fun m hm => h m (List.mem_cons_of_mem _ hm)
    have h2 := h l List.mem_cons_self
    rw [BytM.flatP, List.length_append, List.length_append, BytM.dig_length, List.length_cons, Nat.mul_succ]
    omega
theorem OwnP.rwsP {w wr : World} {B : Nat} {v : Value} {cs : List Value} {ls : List (List Nat)} (h : OwnP wr B v cs) (hp : PCell w ls cs) (hl : ls.length = cs.length) (hb : Below w.heap.size w wr) (h6 : ∀ l ∈ ls, B256 l) : ∃ A cap, v = .slice A ls.length cap ∧ Rws wr A ls ls.length cap := by
  have h0 := h
  rcases h.2 with ⟨rfl, h0'⟩ | ⟨g, cap, cur, rfl, hB, hg, hnc, hcm, hcs, ht⟩
  · rw [hl, h0']
    obtain rfl : ls = [] := List.eq_nil_of_length_eq_zero (by omega)
    exact ⟨none, 0, rfl, rfl, Nat.le_refl _, Nat.zero_le _, h6, fun _ => ⟨rfl, rfl⟩, fun hn => absurd hn (by simp)⟩
  · obtain ⟨A, c2, e, hP⟩ := h0.parts hp hl hb
    simp only [Value.slice.injEq, true_and] at e
    obtain ⟨rfl, rfl⟩ := e
    exact ⟨_, _, by rw [hl], rfl, by rw [hl]; exact hnc, hcm, h6, (fun e => by cases e), hP⟩
def rowO (d : Nat) (ls : List (List Nat)) : List Nat := if ls.length ≤ 16 then BytM.rowB d ls else []
def rowE (ls : List (List Nat)) : Int := if ls.length ≤ 16 then 0 else 3
theorem rowB_256 {d : Nat} (hd : d < 256) {ls : List (List Nat)} (hn : ls.length ≤ 16) (h : ∀ l ∈ ls, B256 l) : B256 (BytM.rowB d ls) := fun x hx => by
  unfold BytM.rowB at hx
  rcases List.mem_cons.1 hx with rfl | hx
  · exact hd
  rcases List.mem_cons.1 hx with rfl | hx
  · omega
  exact BytM.flatP_256 h x hx
theorem prow_all (d : Nat) (hd : d < 256) (A : Option Addr) (ls : List (List Nat)) (n cap : Nat) (hz : (BytM.flatP ls).length ≤ 800000) (W : World) (h : Rws W A ls n cap) :
    Calls Try.prog 16 #[.int .u8 d, .slice A n cap] W fun e w' => ∃ A' c', e = .returned (.tuple #[.slice A' (rowO d ls).length c', .int .i64 (rowE ls)]) ∧ Arg w' A' (rowO d ls) (rowO d ls).length c' ∧ Below W.heap.size W w' := by
  unfold rowO rowE
  by_cases hn : ls.length ≤ 16
  · simp only [if_pos hn]
    refine (prow_any d hd A ls n cap (by rw [← h.len]; exact hn) hz W h).mono ?_
    rintro e w' ⟨v, rfl, o, b⟩
    obtain ⟨A', c', rfl, a⟩ := o.arg (rowB_256 hd hn h.b256)
    exact ⟨A', c', rfl, a, b⟩
  · simp only [if_neg hn]
    refine (prow_bad _ A n cap (by rw [← h.len]; omega) W).mono ?_
    rintro e w' ⟨rfl, rfl⟩
    exact ⟨none, 0, rfl, Arg.nil, Below.refl _ _⟩
theorem rrow_all (d : Nat) (hd : d < 256) (A : Option Addr) (ls : List (List Nat)) (n cap : Nat) (hz : (BytM.flatP ls).length ≤ 800000) (W : World) (h : Rws W A ls n cap) :
    Calls Try.prog 17 #[.int .u8 d, .slice A n cap] W fun e w' => ∃ A' c', e = .returned (.tuple #[.slice A' (rowO d ls).length c', .int .i64 (rowE ls)]) ∧ Arg w' A' (rowO d ls) (rowO d ls).length c' ∧ Below W.heap.size W w' := by
  unfold rowO rowE
  by_cases hn : ls.length ≤ 16
  · simp only [if_pos hn]
    refine (rrow_any d A ls n cap (by rw [← h.len]; exact hn) hz W h).mono ?_
    rintro e w' ⟨v, rfl, o, b⟩
    obtain ⟨A', c', rfl, a⟩ := o.arg (rowB_256 hd hn h.b256)
    exact ⟨A', c', rfl, a, b⟩
  · simp only [if_neg hn]
    refine (rrow_bad _ A n cap (by rw [← h.len]; omega) W).mono ?_
    rintro e w' ⟨rfl, rfl⟩
    exact ⟨none, 0, rfl, Arg.nil, Below.refl _ _⟩
/-- What Parts answers. -/
def ptD (l : List Nat) : Nat := match BytM.parse l with | some (d, _) => d | none => 0
def ptL (l : List Nat) : List (List Nat) := match BytM.parse l with | some (_, ps) => ps | none => []
def ptE (l : List Nat) : Int := match BytM.parse l with | some _ => 0 | none => 4
theorem Rws.nil {w : World} : Rws w .none [] 0 0 := ⟨rfl, Nat.le_refl _, Nat.zero_le _, (fun x hx => by cases hx), fun _ => ⟨rfl, rfl⟩, fun hn => absurd hn (by simp)⟩
theorem pparts_all (A : Option Addr) (l : List Nat) (n cap : Nat) (hn : n ≤ 900000) (w : World) (hA : Arg w A l n cap) :
    Calls Try.prog 18 #[.slice A n cap] w fun e w' => ∃ Ap cp, e = .returned (.tuple #[.int .u8 (ptD l), .slice Ap (ptL l).length cp, .int .i64 (ptE l)]) ∧ Rws w' Ap (ptL l) (ptL l).length cp ∧ Below w.heap.size w w' := by
  unfold ptD ptL ptE
  cases h : BytM.parse l with
  | none => exact (pparts_none A l n cap (by omega) h w hA).mono fun e w' ⟨h1, h2⟩ => ⟨none, 0, h1, Rws.nil, h2⟩
  | some x => exact pparts_some A l n cap (by omega) h w hA
theorem rparts_all (A : Option Addr) (l : List Nat) (n cap : Nat) (hn : n ≤ 900000) (w : World) (hA : Arg w A l n cap) :
    Calls Try.prog 19 #[.slice A n cap] w fun e w' => ∃ Ap cp, e = .returned (.tuple #[.int .u8 (ptD l), .slice Ap (ptL l).length cp, .int .i64 (ptE l)]) ∧ Rws w' Ap (ptL l) (ptL l).length cp ∧ Below w.heap.size w w' := by
  unfold ptD ptL ptE
  cases h : BytM.parse l with
  | none => exact (rparts_none A l n cap hn h w hA).mono fun e w' ⟨h1, h2⟩ => ⟨none, 0, h1, Rws.nil, h2⟩
  | some x => exact rparts_some A l n cap hn h w hA
set_option maxHeartbeats 800000 in
set_option maxRecDepth 100000 in
theorem row_law (d : Nat) (hd : d < 256) (A : Option Addr) (ls : List (List Nat)) (n cap : Nat) (K : Option Addr) (l : List Nat) (kn kcap : Nat) (w : World) (hA : Rws w A ls n cap) (hK : Arg w K l kn kcap) :
    Calls Try.prog 4 #[.int .u8 d, .slice A n cap, .slice K kn kcap] w fun e w' => e = .returned (.bool true) ∧ Below w.heap.size w w' := by
  have CK := hid fun w => lcut_any K kn kcap hK.cap hK.max w
  have k1 := hK.cutN 5000
  have hk5 : min kn 5000 ≤ 5000 := by omega
  generalize l.take 5000 = l' at *
  generalize min kn 5000 = kn' at *
  have HK := hid k1
  have HA := hid hA
  have hcm := hA.max
  have hnc := hA.cap
  unfold maxLen at hcm
  have hn6 : n ≤ 9223372036854775807 := by omega
  clear hK k1 hA hcm hnc
  go_enter Try.func4, Try.ntmps4
  go_wp2_with fail
  refine (CK.out w).mono ?_
  rintro e w' ⟨rfl, rfl⟩
  clear CK
  go_wp2_with fail
  go_loopw [7, 8] (fun u v wr => ∃ (i : Nat) (vs : Value) (cs : List Value), i ≤ n ∧ i ≤ 20 ∧ v = .int .i64 i ∧ u = vs ∧ cs.length = i ∧ Hid (OwnP wr w.heap.size vs cs) ∧ Hid (PCell w (lsN 20 1000 ls) cs) ∧ Hid (Below w.heap.size w wr)) (fun _ v _ => n - (intOf v).toNat)
  case atStart => exact ⟨0, _, [], by omega, by omega, rfl, rfl, rfl, hid (OwnP.nil _ _), hid (fun j hj => by cases hj), hid (Below.refl _ _)⟩
  case round =>
    obtain ⟨i, vs, cs, hi, hi2, rfl, rfl, hcs, ho, hp, hb⟩ := hrel
    by_cases hgo : i < n ∧ i < 20
    · obtain ⟨hlt, h20⟩ := hgo
      have ti : (i : Int) < n := by omega
      have ti2 : (i : Int) < 20 := by omega
      obtain ⟨b, o, A', c, rfl, hbl, c0, a0⟩ := HA.out.part hlt
      have C0 := hid ((hb.out.cell (p := ⟨b, o + i, none⟩) hbl).trans c0)
      have hget := lsN_get 20 1000 ls (by rw [HA.out.len]; exact hlt) h20
      obtain ⟨M, hM⟩ : ∃ M, M = min (ls.getD i []).length 1000 := ⟨_, rfl⟩
      have h1 := a0.cap
      have h2 := a0.max
      have HP2 := hid (PCell.snoc (A' := A') (M := M) (c := c) hp.out (by rw [hcs, hget, List.length_take, hM]; omega) (by omega) h2 (by rw [hcs, hget]; exact a0.byt.take 1000) (fun e => by have := a0.none e; omega))
      have hMc : M ≤ c := by omega
      have hcm := h2
      have hbr : b < wr.heap.size := Nat.lt_of_lt_of_le hbl hb.out.size
      generalize (ls.getD i []).length = L at *
      have e1 : (if (1000 : Int) < (L : Int) then (1000 : Int) else (L : Int)) = (M : Int) := by split <;> omega
      clear c0 h1 h2 hget hM a0
      go_wp2_with fail
      refine wp_region_put (C := Put wr (.cells #[.slice A' M c] 22)) 12 13 (by omega) (by kernel_rfl) (by kernel_rfl) (by kernel_rfl) (Drew.refl _) ?_
      simp only [List.take_succ_cons, List.take_zero, List.drop_succ_cons, List.drop_zero]
      apply wpS_val
      · decide
      · rfl
      · intro bb w' hw'
        go_simp
        first | exact rfl | exact ⟨rfl, hw'⟩
      simp only [Act.put, List.setIfInBounds_toArray, List.set_cons_succ, List.set_cons_zero]
      apply wpS_val
      · decide
      · rfl
      · intro bb w' hw'
        go_simp
        first | exact rfl | exact ⟨rfl, hw'⟩
      simp only [Act.put, List.setIfInBounds_toArray, List.set_cons_succ, List.set_cons_zero]
      apply wpS_val
      · decide
      · rfl
      · intro bb w' hw'
        go_simp
        first | exact rfl | exact ⟨rfl, hw'⟩
      simp only [Act.put, List.setIfInBounds_toArray, List.set_cons_succ, List.set_cons_zero]
      apply wpS_val
      · decide
      · rfl
      · intro bb w' hw'
        go_simp
        first | exact rfl | exact ⟨rfl, hw'⟩
      simp only [Act.put, List.setIfInBounds_toArray, List.set_cons_succ, List.set_cons_zero]
      apply wpS_val
      · decide
      · rfl
      · intro bb w' hw'
        have hcell : _ := hw'.cell hbr C0.out
        go_simp
        first | exact rfl | exact ⟨rfl, hw'⟩
      simp only [Act.put, List.setIfInBounds_toArray, List.set_cons_succ, List.set_cons_zero]
      apply wpS_val
      · decide
      · rfl
      · intro bb w' hw'
        go_simp
        first | exact rfl | exact ⟨rfl, hw'⟩
      simp only [Act.put, List.setIfInBounds_toArray, List.set_cons_succ, List.set_cons_zero]
      apply wpS_val
      · decide
      · rfl
      · intro bb w' hw'
        go_simp
        first | exact rfl | exact ⟨rfl, hw'⟩
      simp only [Act.put, List.setIfInBounds_toArray, List.set_cons_succ, List.set_cons_zero]
      apply wpS_val
      · decide
      · rfl
      · intro bb w' hw'
        go_simp
        first | exact rfl | exact ⟨rfl, hw'⟩
      simp only [Act.put, List.setIfInBounds_toArray, List.set_cons_succ, List.set_cons_zero]
      apply wpS_val
      · decide
      · rfl
      · intro bb w' hw'
        have hcell : _ := hw'.cell hbr C0.out
        go_simp
        first | exact rfl | exact ⟨rfl, hw'⟩
      simp only [Act.put, List.setIfInBounds_toArray, List.set_cons_succ, List.set_cons_zero]
      apply wpS_val
      · decide
      · rfl
      · intro bb w' hw'
        go_simp
        first | exact rfl | exact ⟨rfl, hw'⟩
      simp only [Act.put, List.setIfInBounds_toArray, List.set_cons_succ, List.set_cons_zero]
      apply wpS_val
      · decide
      · rfl
      · intro bb w' hw'
        go_simp
        first | exact rfl | exact ⟨rfl, hw'⟩
      simp only [Act.put, List.setIfInBounds_toArray, List.set_cons_succ, List.set_cons_zero]
      apply wpS_val
      · decide
      · rfl
      · intro bb w' hw'
        go_simp
        first | exact rfl | exact ⟨rfl, hw'⟩
      simp only [Act.put, List.setIfInBounds_toArray, List.set_cons_succ, List.set_cons_zero]
      apply wpS_put
      · rfl
      · rfl
      · intro w' hw'
        have hw2 : Drew wr w' := hw'
        have hz := hw2.heap
        go_simp
        exact ⟨rfl, w', hw2, rfl⟩
      simp only [Act.put, List.setIfInBounds_toArray, List.set_cons_succ, List.set_cons_zero]
      refine wpS_nil fun w8 hw8 => ?_
      obtain ⟨w7, h7, rfl⟩ := hw8
      have hz7 : wr.heap.size = w7.heap.size := by rw [h7.heap]
      have o7 := ho.out.heap h7.heap
      have O7 := hid (show OwnP (w7.alloc (.cells #[.slice A' M c] 22)) w.heap.size _ cs from World.ownsRow.alloc o7 _)
      have b7 := hid (h7.below hb.out)
      have bl := hid (show Blk (w7.alloc (.cells #[.slice A' M c] 22)) wr.heap.size 22 #[.slice A' M c] by rw [hz7]; exact Blk.top rfl rfl)
      have HZ7 := hid hz7
      have HSW := hid hb.out.size
      clear h7 hz7 o7 hbr C0 e1 hcm
      go_wp2_with (at_builtin; (with_reducible apply wappP); rfl; rfl; exact O7.out; exact bl.out; omega; (have := HZ7.out; have := HSW.out; simp; omega); intro v9 w9 o9 g9)
      have b9 := (b7.out.alloc (by have := HZ7.out; have := HSW.out; omega) (.cells #[.slice A' M c] 22)).grown g9 (by have := HZ7.out; have := HSW.out; simp; omega) fun g h => (World.ownsRow.lt ho.out g h).1
      go_roundw
      case rel => exact ⟨i + 1, v9, _, by omega, by omega, by go_num, rfl, by rw [List.length_append, hcs]; rfl, hid o9, HP2, hid b9⟩
      case measure => simp [intOf]; omega
    · have hlen : (lsN 20 1000 ls).length = cs.length := by rw [lsN_length, HA.out.len, hcs]; omega
      have hfl : (BytM.flatP (lsN 20 1000 ls)).length ≤ 800000 := by
        have h1 := flatP_le 1000 _ (lsN_part 20 1000 ls)
        have h2 := lsN_length 20 1000 ls
        omega
      obtain ⟨Al, cl, rfl, hP⟩ := ho.out.rwsP hp.out hlen hb.out (lsN_256 20 1000 HA.out.b256)
      rw [hlen, hcs] at *
      have HP := hid hP
      have HFL := hid hfl
      have HB := hid hb.out
      have tg : ((i : Int) < n) = False ∨ ((i : Int) < 20) = False := by
        by_cases h : i < n
        · right; simp; omega
        · left; simp; omega
      generalize lsN 20 1000 ls = ls2 at *
      clear hP hlen ho hp hb hfl
      by_cases h : i < n
      · have t1 : (i : Int) < n := by omega
        have t2 : decide ((i : Int) < 20) = false := by simp; omega
        clear tg hgo
        go_wp2_with fail
        refine (prow_all d hd Al ls2 i cl HFL.out wr HP.out).mono ?_
        rintro e w4 ⟨A4, c4, rfl, a4, b4⟩
        have B4 := hid (HB.out.trans (b4.mono HB.out.size))
        have P4 := hid (HP.out.on b4)
        have R4 := hid a4
        clear a4 b4
        go_wp2_with fail
        refine (rrow_all d hd Al ls2 i cl HFL.out w4 P4.out).mono ?_
        rintro e w5 ⟨A5, c5, rfl, a5, b5⟩
        have B5 := hid (B4.out.trans (b5.mono B4.out.size))
        have R4' := hid (R4.out.on b5)
        have R5 := hid a5
        clear a5 b5 P4 B4 R4
        go_wp2_with fail
        refine (pparts_all K l' kn' kcap (by omega) w5 (HK.out.on B5.out)).mono ?_
        rintro e w6 ⟨A6, c6, rfl, r6, b6⟩
        have B6 := hid (B5.out.trans (b6.mono B5.out.size))
        have R4 := hid (R4'.out.on b6)
        have R5' := hid (R5.out.on b6)
        have R6 := hid r6
        clear r6 b6 R4' R5 B5
        go_wp2_with fail
        refine (rparts_all K l' kn' kcap (by omega) w6 (HK.out.on B6.out)).mono ?_
        rintro e w7 ⟨A7, c7, rfl, r7, b7⟩
        have B7 := hid (B6.out.trans (b7.mono B6.out.size))
        have s1 := (R4.out.on b7).str
        have s2 := (R5'.out.on b7).str
        have X6 := hid (R6.out.on b7)
        have X7 := hid r7
        clear r7 b7 R4 R5' R6 B6
        have SM := hid (rsame_any A6 (ptL l') (ptL l').length c6 A7 (ptL l') (ptL l').length c7 w7 X6.out X7.out)
        rw [decide_eq_true (rfl : ptL l' = ptL l')] at SM
        generalize (rowO d ls2).length = L1 at *
        generalize rowO d ls2 = O1 at *
        generalize (ptL l').length = L2 at *
        generalize ptD l' = D1 at *
        generalize ptE l' = E1 at *
        generalize rowE ls2 = E2 at *
        go_wp2_with fail
        refine SM.out.mono ?_
        rintro e w8 ⟨rfl, b8⟩
        have B8 := hid (B7.out.trans (b8.mono B7.out.size))
        clear b8 B7 s1 s2 SM
        go_wp2_with fail
        refine (works_any w8).mono ?_
        rintro e w9 ⟨rfl, b9⟩
        have B9 := hid (B8.out.trans (b9.mono B8.out.size))
        clear b9 B8
        go_wp2_with fail
        go_ret
        exact ⟨rfl, B9.out⟩
      · have t1 : decide ((i : Int) < n) = false := by simp; omega
        clear tg hgo
        go_wp2_with fail
        refine (prow_all d hd Al ls2 i cl HFL.out wr HP.out).mono ?_
        rintro e w4 ⟨A4, c4, rfl, a4, b4⟩
        have B4 := hid (HB.out.trans (b4.mono HB.out.size))
        have P4 := hid (HP.out.on b4)
        have R4 := hid a4
        clear a4 b4
        go_wp2_with fail
        refine (rrow_all d hd Al ls2 i cl HFL.out w4 P4.out).mono ?_
        rintro e w5 ⟨A5, c5, rfl, a5, b5⟩
        have B5 := hid (B4.out.trans (b5.mono B4.out.size))
        have R4' := hid (R4.out.on b5)
        have R5 := hid a5
        clear a5 b5 P4 B4 R4
        go_wp2_with fail
        refine (pparts_all K l' kn' kcap (by omega) w5 (HK.out.on B5.out)).mono ?_
        rintro e w6 ⟨A6, c6, rfl, r6, b6⟩
        have B6 := hid (B5.out.trans (b6.mono B5.out.size))
        have R4 := hid (R4'.out.on b6)
        have R5' := hid (R5.out.on b6)
        have R6 := hid r6
        clear r6 b6 R4' R5 B5
        go_wp2_with fail
        refine (rparts_all K l' kn' kcap (by omega) w6 (HK.out.on B6.out)).mono ?_
        rintro e w7 ⟨A7, c7, rfl, r7, b7⟩
        have B7 := hid (B6.out.trans (b7.mono B6.out.size))
        have s1 := (R4.out.on b7).str
        have s2 := (R5'.out.on b7).str
        have X6 := hid (R6.out.on b7)
        have X7 := hid r7
        clear r7 b7 R4 R5' R6 B6
        have SM := hid (rsame_any A6 (ptL l') (ptL l').length c6 A7 (ptL l') (ptL l').length c7 w7 X6.out X7.out)
        rw [decide_eq_true (rfl : ptL l' = ptL l')] at SM
        generalize (rowO d ls2).length = L1 at *
        generalize rowO d ls2 = O1 at *
        generalize (ptL l').length = L2 at *
        generalize ptD l' = D1 at *
        generalize ptE l' = E1 at *
        generalize rowE ls2 = E2 at *
        go_wp2_with fail
        refine SM.out.mono ?_
        rintro e w8 ⟨rfl, b8⟩
        have B8 := hid (B7.out.trans (b8.mono B7.out.size))
        clear b8 B7 s1 s2 SM
        go_wp2_with fail
        refine (works_any w8).mono ?_
        rintro e w9 ⟨rfl, b9⟩
        have B9 := hid (B8.out.trans (b9.mono B8.out.size))
        clear b9 B8
        go_wp2_with fail
        go_ret
        exact ⟨rfl, B9.out⟩
end Go.Proofs.Ytiebaiofpihoiaa
