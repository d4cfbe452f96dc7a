/-
  Contract of (casematelaw06.Parted).row over this translation.
-/
import Derived.Test.YtiebaiofpihoiaaByApart
import Derived.Test.YtiebaiofpihoiaaRegEx
namespace Go.Proofs.Ytiebaiofpihoiaa
open Go.ChangeShapes Go.WideShapes Go.ChangeAt Go.RowKit
attribute [local go_sem] Gives GivesE
/-- What each operation's value is like. -/
def aS (d : Nat) (A : Option Addr) (n cap g L M : Nat) (j : Nat) (v : Value) : Prop := match j with
  | 0 => v = .pointer (some ⟨g, 0, none⟩)
  | 1 => v = .int .u8 d
  | 2 => v = .agg #[.int .u8 d, .slice A n cap]
  | 3 => ∃ A c, v = .slice A L c
  | 4 => ∃ A c, v = .tuple #[.slice A M c, .int .i64 0]
  | 6 => v = .int .i64 0
  | _ => True
def aV (d : Nat) (A : Option Addr) (n cap g L M : Nat) (j : Nat) : Value := match j with
  | 0 => .pointer (some ⟨g, 0, none⟩)
  | 1 => .int .u8 d
  | 2 => .agg #[.int .u8 d, .slice A n cap]
  | 3 => .slice none L 0
  | 4 => .tuple #[.slice none M 0, .int .i64 0]
  | 6 => .int .i64 0
  | _ => undef
theorem aS_ok (d : Nat) (A : Option Addr) (n cap g L M : Nat) (j : Nat) : aS d A n cap g L M j (aV d A n cap g L M j) := by
  unfold aS aV
  split <;> first | rfl | exact ⟨_, _, rfl⟩ | trivial
def aD (ls : List (List Nat)) (r : List Nat) (j : Nat) (vs : Nat → Value) (w : World) : Prop :=
  (j = 3 → ∃ A c, vs j = .slice A ls.length c ∧ Rws w A ls ls.length c) ∧ (j = 4 → ∃ A c, vs j = .tuple #[.slice A r.length c, .int .i64 0] ∧ Arg w A r r.length c) ∧ (j = 5 → ∃ A c, vs j = .slice A r.length c ∧ Arg w A r r.length c)
theorem aD_below {ls : List (List Nat)} {r : List Nat} {j : Nat} {vs : Nat → Value} {w w' : World} (h : aD ls r j vs w) (hb : Below w.heap.size w w') : aD ls r j vs w' :=
  ⟨fun e => by obtain ⟨A, c, h1, h2⟩ := h.1 e; exact ⟨A, c, h1, h2.on hb⟩, fun e => by obtain ⟨A, c, h1, h2⟩ := h.2.1 e; exact ⟨A, c, h1, h2.on hb⟩, fun e => by obtain ⟨A, c, h1, h2⟩ := h.2.2 e; exact ⟨A, c, h1, h2.on hb⟩⟩
theorem aD_loc {ls : List (List Nat)} {r : List Nat} {i j : Nat} {vs : Nat → Value} {v : Value} {w : World} (hji : j ≠ i) (h : aD ls r j vs w) : aD ls r j (updV vs i v) w := by
  unfold aD at h ⊢
  rw [updV_ne _ _ hji]
  exact h
theorem aD_none {ls : List (List Nat)} {r : List Nat} {j : Nat} {vs : Nat → Value} {w : World} (h3 : j ≠ 3) (h4 : j ≠ 4) (h5 : j ≠ 5) : aD ls r j vs w := ⟨fun e => absurd e h3, fun e => absurd e h4, fun e => absurd e h5⟩
set_option maxHeartbeats 800000 in
set_option maxRecDepth 100000 in
theorem lrow_any (d : Nat) (hd : d < 256) (A : Option Addr) (ls : List (List Nat)) (n cap : Nat) (w : World) (hA0 : Rws w A ls n cap) :
    Calls Try.prog 31 #[.agg #[.int .u8 d, .slice A n cap]] w fun e w' => ∃ A' c', e = .returned (.tuple #[.slice A' (BytM.rowB d (lsN 16 300 ls)).length c', .int .i64 0]) ∧ Arg w' A' (BytM.rowB d (lsN 16 300 ls)) (BytM.rowB d (lsN 16 300 ls)).length c' ∧ Below w.heap.size w w' := by
  have hfl : (BytM.flatP (lsN 16 300 ls)).length ≤ 800000 := by
    have h1 := flatP_le 300 _ (lsN_part 16 300 ls)
    have h2 := lsN_length 16 300 ls
    omega
  have hl16 : (lsN 16 300 ls).length ≤ 16 := by rw [lsN_length]; omega
  have h6 := rowB_256 hd hl16 (lsN_256 16 300 hA0.b256)
  have PA := hid fun w (h : Rws w A ls n cap) => lparts_any d A ls n cap w h
  generalize lsN 16 300 ls = ls2 at *
  have PR := hid fun (A : Option Addr) (c : Nat) (w : World) (h : Rws w A ls2 ls2.length c) => prow_any d hd A ls2 ls2.length c hl16 hfl w h
  generalize BytM.rowB d ls2 = r at *
  have H6 := hid h6
  have HA0 := hid hA0
  clear hfl hl16 h6 hA0
  go_enter Try.func31, Try.ntmps31
  go_upto_region 1 with fail
  generalize hw1 : World.alloc w _ = w1
  obtain ⟨g, hg⟩ : ∃ g, g = w.heap.size := ⟨_, rfl⟩
  have b1 : Blk w1 g 60 #[.int .u8 d, .slice A n cap] := by rw [← hw1, hg]; exact Blk.top rfl rfl
  have BW := hid (show Below w.heap.size w w1 by rw [← hw1]; exact (Below.refl _ _).alloc (Nat.le_refl _) _)
  have HA := hid (HA0.out.on BW.out)
  have G0 := hid (show w1.cell? ⟨g, 0, none⟩ = some (.int .u8 d) from b1.cell 0)
  have G1 := hid (show w1.cell? ⟨g, 1, none⟩ = some (.slice A n cap) from b1.cell 1)
  have HG := hid b1.lt
  rw [← hg]
  clear hw1 b1 hg HA0
  refine wp_region_ex (S := aS d A n cap g ls2.length r.length) (D := aD ls2 r) (K := fun _ _ w w' => Below w.heap.size w w') (C := fun _ w' => Below w1.heap.size w1 w') 7 (by kernel_rfl) (by kernel_rfl) (by kernel_rfl)
    _ (aS_ok _ _ _ _ _ _ _) (fun i j vs w w' _ _ _ h hb => aD_below h hb) (fun j i vs v w hji _ h => aD_loc hji h) (Below.refl _ _).drew fun vs => ?_
  simp only [List.take_succ_cons, List.take_zero, List.drop_succ_cons, List.drop_zero]
  refine ⟨.inl ⟨rfl, fun dd w' hd hC hDs => ?_⟩, fun e => ?_⟩
  · go_simp
    first | exact ⟨rfl, hC, Below.refl _ _, aD_none (by decide) (by decide) (by decide)⟩ | exact ⟨hC, Below.refl _ _, aD_none (by decide) (by decide) (by decide)⟩ | exact ⟨rfl, Below.refl _ _, aD_none (by decide) (by decide) (by decide)⟩ | exact ⟨Below.refl _ _, aD_none (by decide) (by decide) (by decide)⟩
  have e' : vs 0 = _ := e
  rw [e']
  clear e e'
  simp only [Act.put, List.setIfInBounds_toArray, List.set_cons_succ, List.set_cons_zero]
  refine ⟨.inl ⟨rfl, fun dd w' hd hC hDs => ?_⟩, fun e => ?_⟩
  · have h0 := (hC.cell (p := ⟨g, 0, none⟩) HG.out).trans G0.out
    go_simp
    first | exact ⟨rfl, hC, Below.refl _ _, aD_none (by decide) (by decide) (by decide)⟩ | exact ⟨hC, Below.refl _ _, aD_none (by decide) (by decide) (by decide)⟩ | exact ⟨rfl, Below.refl _ _, aD_none (by decide) (by decide) (by decide)⟩ | exact ⟨Below.refl _ _, aD_none (by decide) (by decide) (by decide)⟩
  have e' : vs 1 = _ := e
  rw [e']
  clear e e'
  simp only [Act.put, List.setIfInBounds_toArray, List.set_cons_succ, List.set_cons_zero]
  refine ⟨.inl ⟨rfl, fun dd w' hd hC hDs => ?_⟩, fun e => ?_⟩
  · have h0 := (hC.cell (p := ⟨g, 0, none⟩) HG.out).trans G0.out
    have h1 := (hC.cell (p := ⟨g, 1, none⟩) HG.out).trans G1.out
    go_simp
    first | exact ⟨rfl, hC, Below.refl _ _, aD_none (by decide) (by decide) (by decide)⟩ | exact ⟨hC, Below.refl _ _, aD_none (by decide) (by decide) (by decide)⟩ | exact ⟨rfl, Below.refl _ _, aD_none (by decide) (by decide) (by decide)⟩ | exact ⟨Below.refl _ _, aD_none (by decide) (by decide) (by decide)⟩
  have e' : vs 2 = _ := e
  rw [e']
  clear e e'
  simp only [Act.put, List.setIfInBounds_toArray, List.set_cons_succ, List.set_cons_zero]
  refine ⟨.inl ⟨rfl, fun dd w' hd hC hDs => ?_⟩, fun e => ?_⟩
  · go_simp
    refine (PA.out w' (HA.out.on hC)).mono ?_
    rintro e w'' ⟨A3, c3, rfl, r3, b3⟩
    exact ⟨_, rfl, ⟨A3, c3, rfl⟩, hC.trans (b3.mono hC.size), b3, fun _ => ⟨A3, c3, updV_self _ _ _, r3⟩, fun e => absurd e (by decide), fun e => absurd e (by decide)⟩
  clear e
  simp only [Act.put, List.setIfInBounds_toArray, List.set_cons_succ, List.set_cons_zero]
  refine ⟨.inl ⟨rfl, fun dd w' hd hC hDs => ?_⟩, fun e => ?_⟩
  · obtain ⟨A3, c3, e3, r3⟩ := (hDs 3 (by kernel_rfl)).1 rfl
    rw [e3]
    go_simp
    refine (PR.out A3 c3 w' r3).mono ?_
    rintro e w'' ⟨v, rfl, o4, b4⟩
    obtain ⟨A4, c4, rfl, a4⟩ := o4.arg H6.out
    exact ⟨_, rfl, ⟨A4, c4, rfl⟩, hC.trans (b4.mono hC.size), b4, fun e => absurd e (by decide), fun _ => ⟨A4, c4, updV_self _ _ _, a4⟩, fun e => absurd e (by decide)⟩
  clear e
  simp only [Act.put, List.setIfInBounds_toArray, List.set_cons_succ, List.set_cons_zero]
  refine ⟨.inl ⟨rfl, fun dd w' hd hC hDs => ?_⟩, fun e => ?_⟩
  · obtain ⟨A4, c4, e4, a4⟩ := (hDs 4 (by kernel_rfl)).2.1 rfl
    rw [e4]
    go_simp
    first | exact ⟨trivial, hC, Below.refl _ _, fun e => absurd e (by decide), fun e => absurd e (by decide), fun _ => ⟨A4, c4, updV_self _ _ _, a4⟩⟩ | exact ⟨trivial, Below.refl _ _, fun e => absurd e (by decide), fun e => absurd e (by decide), fun _ => ⟨A4, c4, updV_self _ _ _, a4⟩⟩ | exact ⟨Below.refl _ _, fun e => absurd e (by decide), fun e => absurd e (by decide), fun _ => ⟨A4, c4, updV_self _ _ _, a4⟩⟩
  clear e
  simp only [Act.put, List.setIfInBounds_toArray, List.set_cons_succ, List.set_cons_zero]
  refine ⟨.inl ⟨rfl, fun dd w' hd hC hDs => ?_⟩, fun e => ?_⟩
  · obtain ⟨A4, c4, e4, a4⟩ := (hDs 4 (by kernel_rfl)).2.1 rfl
    rw [e4]
    go_simp
    first | exact ⟨rfl, hC, Below.refl _ _, aD_none (by decide) (by decide) (by decide)⟩ | exact ⟨hC, Below.refl _ _, aD_none (by decide) (by decide) (by decide)⟩ | exact ⟨rfl, Below.refl _ _, aD_none (by decide) (by decide) (by decide)⟩ | exact ⟨Below.refl _ _, aD_none (by decide) (by decide) (by decide)⟩
  have e' : vs 6 = _ := e
  rw [e']
  clear e e'
  simp only [Act.put, List.setIfInBounds_toArray, List.set_cons_succ, List.set_cons_zero]
  intro dd w9 _ hC9 hD9
  obtain ⟨A5, c5, e5, a5⟩ := (hD9 5 (by omega)).2.2 rfl
  rw [e5]
  have A5' := hid a5
  have B9 := hid (BW.out.trans (hC9.mono BW.out.size))
  clear hD9 hC9 a5 e5
  go_wp2_with fail
  go_ret2
  exact ⟨A5, c5, rfl, A5'.out, B9.out⟩
end Go.Proofs.Ytiebaiofpihoiaa
