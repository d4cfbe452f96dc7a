/-
  The walk of BytesApart.
-/
import Derived.Test.YtiebaiofpihoiaaByApart2
namespace Go.Proofs.Ytiebaiofpihoiaa
open Go.ChangeShapes Go.WideShapes Go.ChangeAt Go.RowKit
attribute [local go_sem] Gives GivesE
def eS (l : List (Option Value)) (j : Nat) (v : Value) : Prop := match l.getD j none with | some x => v = x | none => True
def eV (l : List (Option Value)) (j : Nat) : Value := (l.getD j none).getD undef
theorem eS_ok (l : List (Option Value)) (j : Nat) : eS l j (eV l j) := by
  unfold eS eV
  cases l.getD j none with
  | none => trivial
  | some x => rfl
def bD (x y : List (List Nat)) (j : Nat) (vs : Nat → Value) (w : World) : Prop :=
  (j = 12 → ∃ A c, vs j = .slice A x.length c ∧ Rws w A x x.length c) ∧ (j = 14 → ∃ A c, vs j = .slice A y.length c ∧ Rws w A y y.length c)
theorem bD_below {x y : List (List Nat)} {j : Nat} {vs : Nat → Value} {w w' : World} (h : bD x y j vs w) (hb : Below w.heap.size w w') : bD x y j vs w' :=
  ⟨fun e => by obtain ⟨A, c, h1, h2⟩ := h.1 e; exact ⟨A, c, h1, h2.on hb⟩, fun e => by obtain ⟨A, c, h1, h2⟩ := h.2 e; exact ⟨A, c, h1, h2.on hb⟩⟩
theorem bD_loc {x y : List (List Nat)} {i j : Nat} {vs : Nat → Value} {v : Value} {w : World} (hji : j ≠ i) (h : bD x y j vs w) : bD x y j (updV vs i v) w := by
  unfold bD at h ⊢
  rw [updV_ne _ _ hji]
  exact h
theorem bD_none {x y : List (List Nat)} {j : Nat} {vs : Nat → Value} {w : World} (h3 : j ≠ 12) (h4 : j ≠ 14) : bD x y j vs w := ⟨fun e => absurd e h3, fun e => absurd e h4⟩
theorem lsN_small {x y : Nat} (hy : y ≤ 1000) (ls : List (List Nat)) : ∀ p ∈ lsN x y ls, p.length < 4294967296 := fun p hp => by
  have := lsN_part x y ls p hp
  omega
theorem rowB_len (d : Nat) (ls : List (List Nat)) : (BytM.rowB d (lsN 16 300 ls)).length ≤ 4866 ∧ 2 ≤ (BytM.rowB d (lsN 16 300 ls)).length := by
  have h1 := flatP_le 300 _ (lsN_part 16 300 ls)
  have h2 := lsN_length 16 300 ls
  unfold BytM.rowB
  simp only [List.length_cons]
  omega
theorem Arg.upto {w : World} {K : Option Addr} {key : List Nat} {kn kcap k : Nat} (h : Arg w K key kn kcap) (hk : k ≤ kn) : Arg w K (key.take k) k kcap where
  len := by rw [List.length_take, h.len]; omega
  cap := by have := h.cap; omega
  max := h.max
  b256 := h.b256.take k
  none e := by obtain ⟨h1, h2⟩ := h.none e; exact ⟨by omega, h2⟩
  byt := h.byt.take k
set_option maxHeartbeats 1600000 in
set_option maxRecDepth 100000 in
theorem apart_law (dx : Nat) (hdx : dx < 256) (A : Option Addr) (ls : List (List Nat)) (n cap : Nat) (dy : Nat) (hdy : dy < 256) (A' : Option Addr) (ls' : List (List Nat)) (n' cap' : Nat) (K : Option Addr) (l : List Nat) (kn kcap : Nat) (w : World)
    (hX : Rws w A ls n cap) (hY : Rws w A' ls' n' cap') (hK : Arg w K l kn kcap) :
    Calls Try.prog 7 #[.agg #[.int .u8 dx, .slice A n cap], .agg #[.int .u8 dy, .slice A' n' cap'], .slice K kn kcap] w fun e w' => e = .returned (.bool true) ∧ Below w.heap.size w w' := by
  have C := hid fun w => lcut_any K kn kcap hK.cap hK.max w
  have k5 := hK.cutN 5000
  have hk5 : min kn 5000 ≤ 5000 := by omega
  generalize l.take 5000 = l5 at *
  generalize min kn 5000 = k at *
  have HK := hid k5
  have HX := hid hX
  have HY := hid hY
  have RX := hid fun w (h : Rws w A ls n cap) => lrow_any dx hdx A ls n cap w h
  have RY := hid fun w (h : Rws w A' ls' n' cap') => lrow_any dy hdy A' ls' n' cap' w h
  have PX := hid fun w (h : Rws w A ls n cap) => lparts_any dx A ls n cap w h
  have PY := hid fun w (h : Rws w A' ls' n' cap') => lparts_any dy A' ls' n' cap' w h
  have hlx : (lsN 16 300 ls).length ≤ 16 := by rw [lsN_length]; omega
  have hly : (lsN 16 300 ls').length ≤ 16 := by rw [lsN_length]; omega
  have hsx := lsN_small (x := 16) (y := 300) (by omega) ls
  have hsy := lsN_small (x := 16) (y := 300) (by omega) ls'
  have h6x := rowB_256 hdx hlx (lsN_256 16 300 hX.b256)
  have h6y := rowB_256 hdy hly (lsN_256 16 300 hY.b256)
  obtain ⟨hLx, hLx2⟩ := rowB_len dx ls
  obtain ⟨hLy, _⟩ := rowB_len dy ls'
  have pX := BytM.parse_row dx hlx hsx
  have pL := BytM.parse_less dx h6x hlx hsx (by omega)
  have pM := fun (z : Nat) => BytM.parse_more dx hsx (t := [z]) (by simp)
  have pI : BytM.rowB dx (lsN 16 300 ls) = BytM.rowB dy (lsN 16 300 ls') → dx = dy ∧ lsN 16 300 ls = lsN 16 300 ls' := BytM.rowB_inj hlx hsx hly hsy
  have pE : dx = dy → lsN 16 300 ls = lsN 16 300 ls' → BytM.rowB dx (lsN 16 300 ls) = BytM.rowB dy (lsN 16 300 ls') := fun e1 e2 => by rw [e1, e2]
  generalize lsN 16 300 ls = x at *
  generalize lsN 16 300 ls' = y at *
  generalize BytM.rowB dx x = P at *
  generalize BytM.rowB dy y = Q at *
  have H6X := hid h6x
  have H6Y := hid h6y
  have PP := hid pX
  have PL := hid pL
  have PM := hid pM
  have PI := hid pI
  have PE := hid pE
  generalize hLP : P.length = LP at *
  have HLP := hid hLP
  clear hX hY hK k5 hlx hly hsx hsy h6x h6y pX pL pM pI pE hLP
  go_enter Try.func7, Try.ntmps7
  go_upto_region 1 with fail
  generalize hw1 : World.alloc (World.alloc w _) _ = w1
  obtain ⟨gx, hgx⟩ : ∃ g, g = w.heap.size := ⟨_, rfl⟩
  obtain ⟨gy, hgy⟩ : ∃ g, g = gx + 1 := ⟨_, rfl⟩
  have bx : Blk w1 gx 60 #[.int .u8 dx, .slice A n cap] := by rw [← hw1, hgx]; exact (Blk.top rfl rfl).alloc _
  have by' : Blk w1 gy 60 #[.int .u8 dy, .slice A' n' cap'] := by rw [← hw1, hgy, hgx]; exact Blk.top rfl (by simp)
  have B1 := hid (show Below w.heap.size w w1 by rw [← hw1]; exact ((Below.refl _ _).alloc (Nat.le_refl _) _).alloc (by simp) _)
  have CX := hid fun w' (h : Below w1.heap.size w1 w') => And.intro ((h.cell (p := ⟨gx, 0, none⟩) bx.lt).trans (show w1.cell? ⟨gx, 0, none⟩ = some (.int .u8 dx) from bx.cell 0)) ((h.cell (p := ⟨gx, 1, none⟩) bx.lt).trans (show w1.cell? ⟨gx, 1, none⟩ = some (.slice A n cap) from bx.cell 1))
  have CY := hid fun w' (h : Below w1.heap.size w1 w') => And.intro ((h.cell (p := ⟨gy, 0, none⟩) by'.lt).trans (show w1.cell? ⟨gy, 0, none⟩ = some (.int .u8 dy) from by'.cell 0)) ((h.cell (p := ⟨gy, 1, none⟩) by'.lt).trans (show w1.cell? ⟨gy, 1, none⟩ = some (.slice A' n' cap') from by'.cell 1))
  rw [← hgx, ← hgy]
  clear hw1 bx by' hgx hgy
  obtain ⟨x0, x1⟩ := CX.out w1 (Below.refl _ _)
  go_wp2_with fail
  refine (C.out w1).mono ?_
  rintro e w' ⟨rfl, rfl⟩
  clear C
  go_wp2_with fail
  refine (RX.out w1 (HX.out.on B1.out)).mono ?_
  rintro e w2 ⟨A2, c2, rfl, a2, b2⟩
  have S2 := hid a2
  have B2 := hid b2
  clear x0 x1 a2 b2 RX
  obtain ⟨y0, y1⟩ := CY.out w2 B2.out
  go_wp2_with fail
  refine (RY.out w2 (HY.out.on (B1.out.trans (B2.out.mono B1.out.size)))).mono ?_
  rintro e w3 ⟨A3, c3, rfl, a3, b3⟩
  have S3 := hid a3
  have B3 := hid (B2.out.trans (b3.mono B2.out.size))
  have S2' := hid (S2.out.on b3)
  clear y0 y1 a3 b3 RY S2 B2
  go_wp2_with fail
  refine (pparts_some A2 P LP c2 (by omega) PP.out w3 S2'.out).mono ?_
  rintro e w4 ⟨A4, c4, rfl, r4, b4⟩
  have R4 := hid r4
  have B4 := hid (B3.out.trans (b4.mono B3.out.size))
  have S2 := hid (S2'.out.on b4)
  have S3' := hid (S3.out.on b4)
  clear r4 b4 S2' S3 B3
  obtain ⟨x0, x1⟩ := CX.out w4 B4.out
  go_wp2_with fail
  refine (PX.out w4 (HX.out.on (B1.out.trans (B4.out.mono B1.out.size)))).mono ?_
  rintro e w5 ⟨A5, c5, rfl, r5, b5⟩
  have SM := lsame_any A4 x x.length c4 A5 x x.length c5 w5 (R4.out.on b5) r5
  rw [decide_eq_true (rfl : x = x)] at SM
  have SM' := hid SM
  have B5 := hid (B4.out.trans (b5.mono B4.out.size))
  have S2' := hid (S2.out.on b5)
  have S3 := hid (S3'.out.on b5)
  clear SM r5 b5 x0 x1 S2 S3' B4 R4
  go_wp2_with fail
  refine SM'.out.mono ?_
  rintro e w6 ⟨rfl, b6⟩
  have B6 := hid (B5.out.trans (b6.mono B5.out.size))
  have S2 := hid (S2'.out.on b6)
  have S3' := hid (S3.out.on b6)
  clear b6 S2' S3 B5 SM'
  go_upto_region 7 with fail
  by_cases hd : dx = dy
  · subst hd
    obtain ⟨b, hb⟩ : ∃ b, b = decide (x = y) := ⟨_, rfl⟩
    have TB : Hid (((str P).toList == (str Q).toList) = b) := hid (by
      rw [hb]
      by_cases hxy : x = y
      · rw [PE.out rfl hxy, decide_eq_true hxy]; exact beq_self_eq_true _
      · rw [decide_eq_false hxy]
        exact toList_ne fun e => hxy (PI.out (str_inj H6X.out H6Y.out e)).2)
    have HB := hid hb
    clear hb
    refine wp_region_ex (S := eS [some (.slice A2 LP c2), some (.string (str P)), some (.slice A3 Q.length c3), some (.string (str Q)), some (.bool b), some (.pointer (some ⟨gx, 0, none⟩)), some (.int .u8 dx), some (.pointer (some ⟨gy, 0, none⟩)), some (.int .u8 dx), some (.bool true), some (.bool true), some (.agg #[.int .u8 dx, .slice A n cap]), none, some (.agg #[.int .u8 dx, .slice A' n' cap']), none, some (.bool b), some (.bool b), some (.bool false)]) (D := bD x y) (K := fun _ _ w w' => Below w.heap.size w w') (C := fun _ w' => Below w6.heap.size w6 w') 18 (by kernel_rfl) (by kernel_rfl) (by kernel_rfl)
      _ (eS_ok _) (fun i j vs w w' _ _ _ h hb => bD_below h hb) (fun j i vs v w hji _ h => bD_loc hji h) (Below.refl _ _).drew fun vs => ?_
    simp only [List.take_succ_cons, List.take_zero, List.drop_succ_cons, List.drop_zero]
    refine ⟨.inl ⟨rfl, fun dd w' hd hC hDs => ?_⟩, fun e => ?_⟩
    · go_simp
      first | exact ⟨rfl, hC, Below.refl _ _, bD_none (by decide) (by decide)⟩ | exact ⟨hC, Below.refl _ _, bD_none (by decide) (by decide)⟩ | exact ⟨rfl, Below.refl _ _, bD_none (by decide) (by decide)⟩ | exact ⟨Below.refl _ _, bD_none (by decide) (by decide)⟩
    have e' : vs 0 = _ := e
    rw [e']
    clear e e'
    simp only [Act.put, List.setIfInBounds_toArray, List.set_cons_succ, List.set_cons_zero]
    refine ⟨.inl ⟨rfl, fun dd w' hd hC hDs => ?_⟩, fun e => ?_⟩
    · have h1 := (S2.out.on hC).str
      go_simp
      first | exact ⟨rfl, hC, Below.refl _ _, bD_none (by decide) (by decide)⟩ | exact ⟨hC, Below.refl _ _, bD_none (by decide) (by decide)⟩ | exact ⟨rfl, Below.refl _ _, bD_none (by decide) (by decide)⟩ | exact ⟨Below.refl _ _, bD_none (by decide) (by decide)⟩
    have e' : vs 1 = _ := e
    rw [e']
    clear e e'
    simp only [Act.put, List.setIfInBounds_toArray, List.set_cons_succ, List.set_cons_zero]
    refine ⟨.inl ⟨rfl, fun dd w' hd hC hDs => ?_⟩, fun e => ?_⟩
    · go_simp
      first | exact ⟨rfl, hC, Below.refl _ _, bD_none (by decide) (by decide)⟩ | exact ⟨hC, Below.refl _ _, bD_none (by decide) (by decide)⟩ | exact ⟨rfl, Below.refl _ _, bD_none (by decide) (by decide)⟩ | exact ⟨Below.refl _ _, bD_none (by decide) (by decide)⟩
    have e' : vs 2 = _ := e
    rw [e']
    clear e e'
    simp only [Act.put, List.setIfInBounds_toArray, List.set_cons_succ, List.set_cons_zero]
    refine ⟨.inl ⟨rfl, fun dd w' hd hC hDs => ?_⟩, fun e => ?_⟩
    · have h1 := (S3'.out.on hC).str
      go_simp
      first | exact ⟨rfl, hC, Below.refl _ _, bD_none (by decide) (by decide)⟩ | exact ⟨hC, Below.refl _ _, bD_none (by decide) (by decide)⟩ | exact ⟨rfl, Below.refl _ _, bD_none (by decide) (by decide)⟩ | exact ⟨Below.refl _ _, bD_none (by decide) (by decide)⟩
    have e' : vs 3 = _ := e
    rw [e']
    clear e e'
    simp only [Act.put, List.setIfInBounds_toArray, List.set_cons_succ, List.set_cons_zero]
    refine ⟨.inl ⟨rfl, fun dd w' hd hC hDs => ?_⟩, fun e => ?_⟩
    · have h1 := TB.out
      go_simp
      first | exact ⟨rfl, hC, Below.refl _ _, bD_none (by decide) (by decide)⟩ | exact ⟨hC, Below.refl _ _, bD_none (by decide) (by decide)⟩ | exact ⟨rfl, Below.refl _ _, bD_none (by decide) (by decide)⟩ | exact ⟨Below.refl _ _, bD_none (by decide) (by decide)⟩
    have e' : vs 4 = _ := e
    rw [e']
    clear e e'
    simp only [Act.put, List.setIfInBounds_toArray, List.set_cons_succ, List.set_cons_zero]
    refine ⟨.inl ⟨rfl, fun dd w' hd hC hDs => ?_⟩, fun e => ?_⟩
    · go_simp
      first | exact ⟨rfl, hC, Below.refl _ _, bD_none (by decide) (by decide)⟩ | exact ⟨hC, Below.refl _ _, bD_none (by decide) (by decide)⟩ | exact ⟨rfl, Below.refl _ _, bD_none (by decide) (by decide)⟩ | exact ⟨Below.refl _ _, bD_none (by decide) (by decide)⟩
    have e' : vs 5 = _ := e
    rw [e']
    clear e e'
    simp only [Act.put, List.setIfInBounds_toArray, List.set_cons_succ, List.set_cons_zero]
    refine ⟨.inl ⟨rfl, fun dd w' hd hC hDs => ?_⟩, fun e => ?_⟩
    · have hx0 := (CX.out _ (B6.out.trans (hC.mono B6.out.size))).1
      go_simp
      first | exact ⟨rfl, hC, Below.refl _ _, bD_none (by decide) (by decide)⟩ | exact ⟨hC, Below.refl _ _, bD_none (by decide) (by decide)⟩ | exact ⟨rfl, Below.refl _ _, bD_none (by decide) (by decide)⟩ | exact ⟨Below.refl _ _, bD_none (by decide) (by decide)⟩
    have e' : vs 6 = _ := e
    rw [e']
    clear e e'
    simp only [Act.put, List.setIfInBounds_toArray, List.set_cons_succ, List.set_cons_zero]
    refine ⟨.inl ⟨rfl, fun dd w' hd hC hDs => ?_⟩, fun e => ?_⟩
    · go_simp
      first | exact ⟨rfl, hC, Below.refl _ _, bD_none (by decide) (by decide)⟩ | exact ⟨hC, Below.refl _ _, bD_none (by decide) (by decide)⟩ | exact ⟨rfl, Below.refl _ _, bD_none (by decide) (by decide)⟩ | exact ⟨Below.refl _ _, bD_none (by decide) (by decide)⟩
    have e' : vs 7 = _ := e
    rw [e']
    clear e e'
    simp only [Act.put, List.setIfInBounds_toArray, List.set_cons_succ, List.set_cons_zero]
    refine ⟨.inl ⟨rfl, fun dd w' hd hC hDs => ?_⟩, fun e => ?_⟩
    · have hy0 := (CY.out _ (B6.out.trans (hC.mono B6.out.size))).1
      go_simp
      first | exact ⟨rfl, hC, Below.refl _ _, bD_none (by decide) (by decide)⟩ | exact ⟨hC, Below.refl _ _, bD_none (by decide) (by decide)⟩ | exact ⟨rfl, Below.refl _ _, bD_none (by decide) (by decide)⟩ | exact ⟨Below.refl _ _, bD_none (by decide) (by decide)⟩
    have e' : vs 8 = _ := e
    rw [e']
    clear e e'
    simp only [Act.put, List.setIfInBounds_toArray, List.set_cons_succ, List.set_cons_zero]
    refine ⟨.inl ⟨rfl, fun dd w' hd hC hDs => ?_⟩, fun e => ?_⟩
    · go_simp
      first | exact ⟨rfl, hC, Below.refl _ _, bD_none (by decide) (by decide)⟩ | exact ⟨hC, Below.refl _ _, bD_none (by decide) (by decide)⟩ | exact ⟨rfl, Below.refl _ _, bD_none (by decide) (by decide)⟩ | exact ⟨Below.refl _ _, bD_none (by decide) (by decide)⟩
    have e' : vs 9 = _ := e
    rw [e']
    clear e e'
    simp only [Act.put, List.setIfInBounds_toArray, List.set_cons_succ, List.set_cons_zero]
    refine ⟨.inl ⟨rfl, fun dd w' hd hC hDs => ?_⟩, fun e => ?_⟩
    · go_simp
      first | exact ⟨rfl, hC, Below.refl _ _, bD_none (by decide) (by decide)⟩ | exact ⟨hC, Below.refl _ _, bD_none (by decide) (by decide)⟩ | exact ⟨rfl, Below.refl _ _, bD_none (by decide) (by decide)⟩ | exact ⟨Below.refl _ _, bD_none (by decide) (by decide)⟩
    have e' : vs 10 = _ := e
    rw [e']
    clear e e'
    simp only [Act.put, List.setIfInBounds_toArray, List.set_cons_succ, List.set_cons_zero]
    refine ⟨.inl ⟨rfl, fun dd w' hd hC hDs => ?_⟩, fun e => ?_⟩
    · have hx0 := (CX.out _ (B6.out.trans (hC.mono B6.out.size))).1
      have hx1 := (CX.out _ (B6.out.trans (hC.mono B6.out.size))).2
      go_simp
      first | exact ⟨rfl, hC, Below.refl _ _, bD_none (by decide) (by decide)⟩ | exact ⟨hC, Below.refl _ _, bD_none (by decide) (by decide)⟩ | exact ⟨rfl, Below.refl _ _, bD_none (by decide) (by decide)⟩ | exact ⟨Below.refl _ _, bD_none (by decide) (by decide)⟩
    have e' : vs 11 = _ := e
    rw [e']
    clear e e'
    simp only [Act.put, List.setIfInBounds_toArray, List.set_cons_succ, List.set_cons_zero]
    refine ⟨.inl ⟨rfl, fun dd w' hd hC hDs => ?_⟩, fun e => ?_⟩
    · go_simp
      refine (PX.out w' (HX.out.on (B1.out.trans ((B6.out.trans (hC.mono B6.out.size)).mono B1.out.size)))).mono ?_
      rintro e w'' ⟨A7, c7, rfl, r7, b7⟩
      exact ⟨_, rfl, trivial, hC.trans (b7.mono hC.size), b7, fun _ => ⟨A7, c7, updV_self _ _ _, r7⟩, fun e => absurd e (by decide)⟩
    clear e
    simp only [Act.put, List.setIfInBounds_toArray, List.set_cons_succ, List.set_cons_zero]
    refine ⟨.inl ⟨rfl, fun dd w' hd hC hDs => ?_⟩, fun e => ?_⟩
    · have hy0 := (CY.out _ (B6.out.trans (hC.mono B6.out.size))).1
      have hy1 := (CY.out _ (B6.out.trans (hC.mono B6.out.size))).2
      go_simp
      first | exact ⟨rfl, hC, Below.refl _ _, bD_none (by decide) (by decide)⟩ | exact ⟨hC, Below.refl _ _, bD_none (by decide) (by decide)⟩ | exact ⟨rfl, Below.refl _ _, bD_none (by decide) (by decide)⟩ | exact ⟨Below.refl _ _, bD_none (by decide) (by decide)⟩
    have e' : vs 13 = _ := e
    rw [e']
    clear e e'
    simp only [Act.put, List.setIfInBounds_toArray, List.set_cons_succ, List.set_cons_zero]
    refine ⟨.inl ⟨rfl, fun dd w' hd hC hDs => ?_⟩, fun e => ?_⟩
    · go_simp
      refine (PY.out w' (HY.out.on (B1.out.trans ((B6.out.trans (hC.mono B6.out.size)).mono B1.out.size)))).mono ?_
      rintro e w'' ⟨A7, c7, rfl, r7, b7⟩
      exact ⟨_, rfl, trivial, hC.trans (b7.mono hC.size), b7, fun e => absurd e (by decide), fun _ => ⟨A7, c7, updV_self _ _ _, r7⟩⟩
    clear e
    simp only [Act.put, List.setIfInBounds_toArray, List.set_cons_succ, List.set_cons_zero]
    refine ⟨.inl ⟨rfl, fun dd w' hd hC hDs => ?_⟩, fun e => ?_⟩
    · obtain ⟨A7, c7, e7, r7⟩ := (hDs 12 (by kernel_rfl)).1 rfl
      obtain ⟨A8, c8, e8, r8⟩ := (hDs 14 (by kernel_rfl)).2 rfl
      rw [e7, e8]
      go_simp
      refine (lsame_any A7 x x.length c7 A8 y y.length c8 w' r7 r8).mono ?_
      rintro e w'' ⟨rfl, b9⟩
      rw [← HB.out]
      exact ⟨_, rfl, rfl, hC.trans (b9.mono hC.size), b9, bD_none (by decide) (by decide)⟩
    have e' : vs 15 = _ := e
    rw [e']
    clear e e'
    simp only [Act.put, List.setIfInBounds_toArray, List.set_cons_succ, List.set_cons_zero]
    refine ⟨.inl ⟨rfl, fun dd w' hd hC hDs => ?_⟩, fun e => ?_⟩
    · go_simp
      first | exact ⟨rfl, hC, Below.refl _ _, bD_none (by decide) (by decide)⟩ | exact ⟨hC, Below.refl _ _, bD_none (by decide) (by decide)⟩ | exact ⟨rfl, Below.refl _ _, bD_none (by decide) (by decide)⟩ | exact ⟨Below.refl _ _, bD_none (by decide) (by decide)⟩
    have e' : vs 16 = _ := e
    rw [e']
    clear e e'
    simp only [Act.put, List.setIfInBounds_toArray, List.set_cons_succ, List.set_cons_zero]
    refine ⟨.inl ⟨rfl, fun dd w' hd hC hDs => ?_⟩, fun e => ?_⟩
    · have h1 : (b == b) = true := by cases b <;> rfl
      go_simp
      first | exact ⟨rfl, hC, Below.refl _ _, bD_none (by decide) (by decide)⟩ | exact ⟨hC, Below.refl _ _, bD_none (by decide) (by decide)⟩ | exact ⟨rfl, Below.refl _ _, bD_none (by decide) (by decide)⟩ | exact ⟨Below.refl _ _, bD_none (by decide) (by decide)⟩
    have e' : vs 17 = _ := e
    rw [e']
    clear e e'
    simp only [Act.put, List.setIfInBounds_toArray, List.set_cons_succ, List.set_cons_zero]
    intro dd w7 _ hC7 _
    have B7 := hid (B6.out.trans (hC7.mono B6.out.size))
    have S2' := hid (S2.out.on hC7)
    clear hC7 S2 S3' B6 TB HB
    have hc2 := S2'.out.cap
    obtain ⟨L1, hL1⟩ : ∃ z, z = LP - 1 := ⟨_, rfl⟩
    have e1 : (LP : Int) - 1 = (L1 : Int) := by omega
    have hcc : (L1 : Int) ≤ (c2 : Int) := by omega
    have hl1 : L1 ≤ LP := by omega
    have PL' := hid (show BytM.parse (P.take L1) = none by rw [hL1]; exact PL.out)
    clear hL1
    go_wp2_with fail
    refine (pparts_none A2 (P.take L1) L1 c2 (by omega) PL'.out w7 (S2'.out.upto hl1)).mono ?_
    rintro e w8 ⟨rfl, b8⟩
    have B8 := hid (B1.out.trans ((B7.out.trans (b8.mono B7.out.size)).mono B1.out.size))
    have S8 := hid (S2'.out.on b8)
    clear b8 S2' PL' e1 hcc B7
    have OE : Hid (Own 5 .u8 (w8.alloc (.cells #[] 5)) w8.heap.size (.slice (some ⟨w8.heap.size, 0, none⟩) 0 0) []) := hid (Own.empty w8 (Nat.le_refl _))
    have BE := hid ((Below.refl w8.heap.size w8).alloc (Nat.le_refl _) (.cells #[] 5))
    have AE := hid (S8.out.on BE.out)
    have HZ := hid (show B256 ([] ++ P ++ [k % 256]) from (show B256 ([] ++ P) from H6X.out).append fun z hz => by rw [List.mem_singleton.1 hz]; exact Nat.mod_lt _ (by omega))
    have ez : ((k % 256 : Nat) : Int) = (k : Int) % 256 := by omega
    have EZ := hid ez
    clear ez
    have HLZ := hid (show ([] ++ P ++ [k % 256]).length = LP + 1 by rw [List.nil_append, List.length_append, HLP.out]; rfl)
    go_wp2_with (first
      | (at_builtin; (with_reducible apply wappN_any eltB); rfl; rfl; exact AE.out.none; exact OE.out; exact AE.out.byt.nums; exact AE.out.len; (rw [List.length_nil]; omega); (simp); intro v9 w9 o9 g9)
      | (at_builtin; (with_reducible apply wappN eltB); rfl; rfl; exact o9.alloc _; exact nums_one (x := k % 256) (B := w9.heap.size + 1) (congrArg (Value.int .u8) EZ.out.symm) (Nat.lt_succ_self _); rfl; (rw [List.nil_append, HLP.out]; omega); (have hz9 := g9.size; simp at hz9 ⊢; omega); intro v10 w10 o10 g10; obtain ⟨A10, c10, e10, a10⟩ := o10.arg HZ.out; rw [HLZ.out] at e10 a10; subst e10))
    have M9 := below_grown BE.out g9 OE.out (Nat.le_refl _) (Nat.le_refl _)
    have M10 := hid (below_grown (M9.alloc M9.size (.cells #[.int .u8 ((k : Int) % 256)] 5)) g10 o9 (Nat.le_refl _) (Nat.le_refl _))
    have B10 := hid (B8.out.trans (M10.out.mono B8.out.size))
    have S10 := hid a10
    clear M9 M10 g9 g10 o9 o10 a10 AE OE BE B8 S8
    refine (pparts_none A10 ([] ++ P ++ [k % 256]) (LP + 1) c10 (by omega) (PM.out (k % 256)) w10 S10.out).mono ?_
    rintro e w11 ⟨rfl, b11⟩
    have B11 := hid (B10.out.trans (b11.mono B10.out.size))
    clear b11 B10 S10
    cases hps : BytM.parse l5 with
    | none =>
      have PN := hid (pparts_none K l5 k kcap (by omega) hps w11 (HK.out.on B11.out))
      clear hps
      go_wp2_with fail
      refine PN.out.mono ?_
      rintro e w12 ⟨rfl, b12⟩
      have B12 := hid (B11.out.trans (b12.mono B11.out.size))
      clear b12 PN
      go_wp2_with fail
      refine (works_any w12).mono ?_
      rintro e w13 ⟨rfl, b13⟩
      have B13 := hid (B12.out.trans (b13.mono B12.out.size))
      clear b13
      go_wp2_with fail
      go_ret
      exact ⟨rfl, B13.out⟩
    | some q =>
      obtain ⟨d, ps⟩ := q
      obtain ⟨hb1, hb2, hb3, hb4⟩ := BytM.parse_back HK.out.b256 hps
      have PN := hid (pparts_some K l5 k kcap (by omega) hps w11 (HK.out.on B11.out))
      have hfl : (BytM.flatP ps).length ≤ 800000 := by
        have h1 := HK.out.len
        rw [← hb1] at h1
        unfold BytM.rowB at h1
        simp only [List.length_cons] at h1
        omega
      have PR := hid fun (A : Option Addr) (c : Nat) (w : World) (h : Rws w A ps ps.length c) => prow_any d hb4 A ps ps.length c hb2 hfl w h
      rw [hb1] at PR
      clear hps hb1 hb2 hb3 hfl
      go_wp2_with fail
      refine PN.out.mono ?_
      rintro e w12 ⟨A12, c12, rfl, r12, b12⟩
      have B12 := hid (B11.out.trans (b12.mono B11.out.size))
      have R12 := hid r12
      clear b12 r12 PN B11
      go_wp2_with fail
      refine (PR.out A12 c12 w12 R12.out).mono ?_
      rintro e w13 ⟨v13, rfl, o13, b13⟩
      obtain ⟨A13, c13, e13, a13⟩ := o13.arg HK.out.b256
      rw [HK.out.len] at e13 a13
      subst e13
      have B13 := hid (B12.out.trans (b13.mono B12.out.size))
      have s1 := a13.str
      have s2 := (HK.out.on B13.out).str
      have e9 : ((str l5).toList == (str l5).toList) = true := beq_self_eq_true _
      clear o13 a13 b13 B12 R12 PR
      go_wp2_with fail
      refine (works_any w13).mono ?_
      rintro e w14 ⟨rfl, b14⟩
      have B14 := hid (B13.out.trans (b14.mono B13.out.size))
      clear b14 s1 s2
      go_wp2_with fail
      go_ret
      exact ⟨rfl, B14.out⟩
  · have NE := hid (show ((str P).toList == (str Q).toList) = false from toList_ne fun e => hd (PI.out (str_inj H6X.out H6Y.out e)).1)
    have ND := hid (show ((dx : Int) == (dy : Int)) = false by rw [beq_eq_false_iff_ne]; omega)
    clear hd
    refine wp_region_tail (C := fun w' => Below w6.heap.size w6 w') 18 (by kernel_rfl) (by kernel_rfl) (by kernel_rfl) (Below.refl _ _).drew ?_
    simp only [List.take_succ_cons, List.take_zero, List.drop_succ_cons, List.drop_zero]
    apply wpK_val
    · rfl
    · intro w' hw'
      go_simp
      first | exact rfl | exact ⟨rfl, hw'⟩
    simp only [Act.put, List.setIfInBounds_toArray, List.set_cons_succ, List.set_cons_zero]
    apply wpK_val
    · rfl
    · intro w' hw'
      have h1 : _ := (S2.out.on hw').str
      go_simp
      first | exact rfl | exact ⟨rfl, hw'⟩
    simp only [Act.put, List.setIfInBounds_toArray, List.set_cons_succ, List.set_cons_zero]
    apply wpK_val
    · rfl
    · intro w' hw'
      go_simp
      first | exact rfl | exact ⟨rfl, hw'⟩
    simp only [Act.put, List.setIfInBounds_toArray, List.set_cons_succ, List.set_cons_zero]
    apply wpK_val
    · rfl
    · intro w' hw'
      have h1 : _ := (S3'.out.on hw').str
      go_simp
      first | exact rfl | exact ⟨rfl, hw'⟩
    simp only [Act.put, List.setIfInBounds_toArray, List.set_cons_succ, List.set_cons_zero]
    apply wpK_val
    · rfl
    · intro w' hw'
      have h1 : _ := NE.out
      go_simp
      first | exact rfl | exact ⟨rfl, hw'⟩
    simp only [Act.put, List.setIfInBounds_toArray, List.set_cons_succ, List.set_cons_zero]
    apply wpK_val
    · rfl
    · intro w' hw'
      go_simp
      first | exact rfl | exact ⟨rfl, hw'⟩
    simp only [Act.put, List.setIfInBounds_toArray, List.set_cons_succ, List.set_cons_zero]
    apply wpK_val
    · rfl
    · intro w' hw'
      have hcell := (CX.out _ (B6.out.trans (hw'.mono B6.out.size))).1
      go_simp
      first | exact rfl | exact ⟨rfl, hw'⟩
    simp only [Act.put, List.setIfInBounds_toArray, List.set_cons_succ, List.set_cons_zero]
    apply wpK_val
    · rfl
    · intro w' hw'
      go_simp
      first | exact rfl | exact ⟨rfl, hw'⟩
    simp only [Act.put, List.setIfInBounds_toArray, List.set_cons_succ, List.set_cons_zero]
    apply wpK_val
    · rfl
    · intro w' hw'
      have hcell := (CY.out _ (B6.out.trans (hw'.mono B6.out.size))).1
      go_simp
      first | exact rfl | exact ⟨rfl, hw'⟩
    simp only [Act.put, List.setIfInBounds_toArray, List.set_cons_succ, List.set_cons_zero]
    apply wpK_val
    · rfl
    · intro w' hw'
      have h1 : _ := ND.out
      go_simp
      first | exact rfl | exact ⟨rfl, hw'⟩
    simp only [Act.put, List.setIfInBounds_toArray, List.set_cons_succ, List.set_cons_zero]
    apply wpK_val
    · rfl
    · intro w' hw'
      go_simp
      first | exact rfl | exact ⟨rfl, hw'⟩
    simp only [Act.put, List.setIfInBounds_toArray, List.set_cons_succ, List.set_cons_zero]
    apply wpK_not
    · rfl
    simp only [Act.put, List.setIfInBounds_toArray, List.set_cons_succ, List.set_cons_zero]
    apply wpK_not
    · rfl
    simp only [Act.put, List.setIfInBounds_toArray, List.set_cons_succ, List.set_cons_zero]
    apply wpK_not
    · rfl
    simp only [Act.put, List.setIfInBounds_toArray, List.set_cons_succ, List.set_cons_zero]
    apply wpK_not
    · rfl
    simp only [Act.put, List.setIfInBounds_toArray, List.set_cons_succ, List.set_cons_zero]
    apply wpK_not
    · rfl
    simp only [Act.put, List.setIfInBounds_toArray, List.set_cons_succ, List.set_cons_zero]
    apply wpK_val
    · rfl
    · intro w' hw'
      go_simp
      first | exact rfl | exact ⟨rfl, hw'⟩
    simp only [Act.put, List.setIfInBounds_toArray, List.set_cons_succ, List.set_cons_zero]
    apply wpK_val
    · rfl
    · intro w' hw'
      go_simp
      first | exact rfl | exact ⟨rfl, hw'⟩
    simp only [Act.put, List.setIfInBounds_toArray, List.set_cons_succ, List.set_cons_zero]
    refine wpK_nil fun w7 hC7 => ?_
    have B7 := hid (B6.out.trans (hC7.mono B6.out.size))
    have S2' := hid (S2.out.on hC7)
    clear hC7 S2 S3' B6 NE ND
    have hc2 := S2'.out.cap
    obtain ⟨L1, hL1⟩ : ∃ z, z = LP - 1 := ⟨_, rfl⟩
    have e1 : (LP : Int) - 1 = (L1 : Int) := by omega
    have hcc : (L1 : Int) ≤ (c2 : Int) := by omega
    have hl1 : L1 ≤ LP := by omega
    have PL' := hid (show BytM.parse (P.take L1) = none by rw [hL1]; exact PL.out)
    clear hL1
    go_wp2_with fail
    refine (pparts_none A2 (P.take L1) L1 c2 (by omega) PL'.out w7 (S2'.out.upto hl1)).mono ?_
    rintro e w8 ⟨rfl, b8⟩
    have B8 := hid (B1.out.trans ((B7.out.trans (b8.mono B7.out.size)).mono B1.out.size))
    have S8 := hid (S2'.out.on b8)
    clear b8 S2' PL' e1 hcc B7
    have OE : Hid (Own 5 .u8 (w8.alloc (.cells #[] 5)) w8.heap.size (.slice (some ⟨w8.heap.size, 0, none⟩) 0 0) []) := hid (Own.empty w8 (Nat.le_refl _))
    have BE := hid ((Below.refl w8.heap.size w8).alloc (Nat.le_refl _) (.cells #[] 5))
    have AE := hid (S8.out.on BE.out)
    have HZ := hid (show B256 ([] ++ P ++ [k % 256]) from (show B256 ([] ++ P) from H6X.out).append fun z hz => by rw [List.mem_singleton.1 hz]; exact Nat.mod_lt _ (by omega))
    have ez : ((k % 256 : Nat) : Int) = (k : Int) % 256 := by omega
    have EZ := hid ez
    clear ez
    have HLZ := hid (show ([] ++ P ++ [k % 256]).length = LP + 1 by rw [List.nil_append, List.length_append, HLP.out]; rfl)
    go_wp2_with (first
      | (at_builtin; (with_reducible apply wappN_any eltB); rfl; rfl; exact AE.out.none; exact OE.out; exact AE.out.byt.nums; exact AE.out.len; (rw [List.length_nil]; omega); (simp); intro v9 w9 o9 g9)
      | (at_builtin; (with_reducible apply wappN eltB); rfl; rfl; exact o9.alloc _; exact nums_one (x := k % 256) (B := w9.heap.size + 1) (congrArg (Value.int .u8) EZ.out.symm) (Nat.lt_succ_self _); rfl; (rw [List.nil_append, HLP.out]; omega); (have hz9 := g9.size; simp at hz9 ⊢; omega); intro v10 w10 o10 g10; obtain ⟨A10, c10, e10, a10⟩ := o10.arg HZ.out; rw [HLZ.out] at e10 a10; subst e10))
    have M9 := below_grown BE.out g9 OE.out (Nat.le_refl _) (Nat.le_refl _)
    have M10 := hid (below_grown (M9.alloc M9.size (.cells #[.int .u8 ((k : Int) % 256)] 5)) g10 o9 (Nat.le_refl _) (Nat.le_refl _))
    have B10 := hid (B8.out.trans (M10.out.mono B8.out.size))
    have S10 := hid a10
    clear M9 M10 g9 g10 o9 o10 a10 AE OE BE B8 S8
    refine (pparts_none A10 ([] ++ P ++ [k % 256]) (LP + 1) c10 (by omega) (PM.out (k % 256)) w10 S10.out).mono ?_
    rintro e w11 ⟨rfl, b11⟩
    have B11 := hid (B10.out.trans (b11.mono B10.out.size))
    clear b11 B10 S10
    cases hps : BytM.parse l5 with
    | none =>
      have PN := hid (pparts_none K l5 k kcap (by omega) hps w11 (HK.out.on B11.out))
      clear hps
      go_wp2_with fail
      refine PN.out.mono ?_
      rintro e w12 ⟨rfl, b12⟩
      have B12 := hid (B11.out.trans (b12.mono B11.out.size))
      clear b12 PN
      go_wp2_with fail
      refine (works_any w12).mono ?_
      rintro e w13 ⟨rfl, b13⟩
      have B13 := hid (B12.out.trans (b13.mono B12.out.size))
      clear b13
      go_wp2_with fail
      go_ret
      exact ⟨rfl, B13.out⟩
    | some q =>
      obtain ⟨d, ps⟩ := q
      obtain ⟨hb1, hb2, hb3, hb4⟩ := BytM.parse_back HK.out.b256 hps
      have PN := hid (pparts_some K l5 k kcap (by omega) hps w11 (HK.out.on B11.out))
      have hfl : (BytM.flatP ps).length ≤ 800000 := by
        have h1 := HK.out.len
        rw [← hb1] at h1
        unfold BytM.rowB at h1
        simp only [List.length_cons] at h1
        omega
      have PR := hid fun (A : Option Addr) (c : Nat) (w : World) (h : Rws w A ps ps.length c) => prow_any d hb4 A ps ps.length c hb2 hfl w h
      rw [hb1] at PR
      clear hps hb1 hb2 hb3 hfl
      go_wp2_with fail
      refine PN.out.mono ?_
      rintro e w12 ⟨A12, c12, rfl, r12, b12⟩
      have B12 := hid (B11.out.trans (b12.mono B11.out.size))
      have R12 := hid r12
      clear b12 r12 PN B11
      go_wp2_with fail
      refine (PR.out A12 c12 w12 R12.out).mono ?_
      rintro e w13 ⟨v13, rfl, o13, b13⟩
      obtain ⟨A13, c13, e13, a13⟩ := o13.arg HK.out.b256
      rw [HK.out.len] at e13 a13
      subst e13
      have B13 := hid (B12.out.trans (b13.mono B12.out.size))
      have s1 := a13.str
      have s2 := (HK.out.on B13.out).str
      have e9 : ((str l5).toList == (str l5).toList) = true := beq_self_eq_true _
      clear o13 a13 b13 B12 R12 PR
      go_wp2_with fail
      refine (works_any w13).mono ?_
      rintro e w14 ⟨rfl, b14⟩
      have B14 := hid (B13.out.trans (b14.mono B13.out.size))
      clear b14 s1 s2
      go_wp2_with fail
      go_ret
      exact ⟨rfl, B14.out⟩
end Go.Proofs.Ytiebaiofpihoiaa
