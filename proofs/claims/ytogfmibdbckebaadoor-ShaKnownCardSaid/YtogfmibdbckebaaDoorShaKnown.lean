/-
  The walk of ShaKnown: the chapter's examples; prefixes that are none.
-/
import Derived.Test.YtogfmibdbckebaaDoorShaBack
import Derived.Test.YtogfmibdbckebaaDoorRegRel
import Derived.Laws.OwnMore
namespace Go.Proofs.YtogfmibdbckebaaDoor
open Go.ChangeShapes Go.WideShapes Go.ChangeAt Go.RowKit
attribute [local go_sem] Gives
def zrs (n : Nat) : List Nat := List.replicate n 0
theorem zrs_length (n : Nat) : (zrs n).length = n := List.length_replicate
theorem zrs_256 (n : Nat) : B256 (zrs n) := fun x hx => by rw [(List.mem_replicate.1 hx).2]; omega
theorem info_u8 : ∃ i : TypeInfo, Tryd.prog.info? 5 = some i ∧ i.zero = some (.int .u8 0) ∧ i.size = 1 ∧ i.bytes = 1 := info_parts Tryd.Builder_Extra_169.infoByte
/-- make of n bytes. -/
theorem run_mkz (n : Nat) (hn : n ≤ 1000) (w : World) : ∃ w', (Instr.makeSlice 22 (.int .i64 (n : Int)) (.int .i64 (n : Int))).run Tryd.prog w = .ok (.slice (some ⟨w.heap.size, 0, none⟩) n n) w' ∧
    Byt w' w'.heap.size (some ⟨w.heap.size, 0, none⟩) (zrs n) ∧ Below w.heap.size w w' := by
  obtain ⟨i, hi, hz, h1, h2⟩ := info_u8
  obtain ⟨w', hr, ho, hg⟩ := run_makeSlice_full (P := Tryd.prog) w w.heap.size 22 5 i (.int .u8 0) 1 Tryd.underlying22 hi hz h1 .i64 .i64 n (by omega) (by rw [h2]; omega) (by unfold maxLen; omega) (Nat.le_refl _)
  refine ⟨w', hr, ?_, (Below.refl _ _).grown hg (Nat.le_refl _) (fun k e => by cases e)⟩
  intro hn0
  rw [zrs_length] at hn0
  rcases ho.2 with ⟨e, _⟩ | ⟨g, cap, cur, hv, _, hgc, _, _, _, ht⟩
  · cases e
  · simp only [Value.slice.injEq, Option.some.injEq, Addr.mk.injEq, and_true, true_and] at hv
    obtain ⟨rfl, rfl⟩ := hv
    refine ⟨w.heap.size, 0, rfl, Blk.lt (t := 5) (cs := cur) hgc, fun j hj => ?_⟩
    rw [zrs_length] at hj
    rw [Nat.zero_add, cell_of_row w' _ j cur 5 (0, 0) hgc]
    have h3 : (madeCells (Value.cells (.int .u8 0)) (n * 1)).toList[j]? = some (.int .u8 ((zrs n).getD j 0 : Nat)) := by
      have e0 : (zrs n).getD j 0 = 0 := by unfold zrs; rw [List.getD_eq_getElem?_getD, List.getElem?_replicate, if_pos hj]; rfl
      rw [e0, Array.getElem?_toList]
      unfold madeCells
      rw [Nat.mul_one, Array.getElem?_map, Array.getElem?_range, if_pos hj]
      simp [Value.cells, Nat.mod_one]
    rw [← ht, List.getElem?_take_of_lt (by omega), Array.getElem?_toList] at h3
    exact h3
theorem mkz {ops : Array Oper} {Q : Exit → Act → World → Prop} {a : Act} {w : World} {rest : List Oper} {dst : Option Tmp} {ty : TypeId} {pos : String} {after : Array Edge} {x y : Operand} (n : Nat) (hn : n ≤ 1000)
    (hx : a.eval x = .int .i64 (n : Int)) (hy : a.eval y = .int .i64 (n : Int)) (h : ∀ w', Byt w' w'.heap.size (some ⟨w.heap.size, 0, none⟩) (zrs n) → Below w.heap.size w w' → wpList Tryd.prog ops Q rest (a.put dst (.slice (some ⟨w.heap.size, 0, none⟩) n n)) w') :
    wpList Tryd.prog ops Q (⟨dst, .makeSlice 22 x y, ty, pos, after, none⟩ :: rest) a w := by
  obtain ⟨w', hr, h1, h2⟩ := run_mkz n hn w
  refine wpList_plain rfl fun K hK => ?_
  unfold Oper.wp execOp
  simp only [Sem.run_bind, hx, hy, hr, Result.andThen_ok]
  exact hK _ _ (h w' h1 h2)
theorem alloc_pre (w : World) : (Instr.alloc 29 true (.tuple #[])).run Tryd.prog w = .ok (.pointer (some ⟨w.heap.size, 0, none⟩)) (w.alloc (.cells (pre (fun _ => 0) 0 false) 29)) := by
  have hz := (zero_of_info (P := Tryd.prog) (t := 29) (v := .agg (pre (fun _ => 0) 0 false)) (n := 10) (by kernel_rfl)).1
  simp [Instr.alloc, Sem.run_bind, hz w, newVar, newRow, Value.cells]
section
variable {a : Act} {w : World} {dst : Option Tmp} {ty : TypeId} {pos : String} {after : Array Edge} {x y : Operand} {g m : Nat} {f : Nat → Nat} {b : Bool} {gd : Option (Nat × Bool)} {R : World → Prop}
theorem gives_ldp (hx : a.eval x = .pointer (some ⟨g, 0, none⟩)) (hb : Blk w g 29 (pre f m b)) (hR : R w) : Gives Tryd.prog ⟨dst, .load 29 x, ty, pos, after, gd⟩ a w (.agg (pre f m b)) R := by
  have h1 := hb.range 0 10
  rw [Nat.zero_add, show (10 : Nat) = (pre f m b).size from size_pre.symm, Array.extract_size] at h1
  have h2 := run_loadAt_mid (P := Tryd.prog) w g 0 29 (pre f m b).toList _ h1 Tryd.underlying29 rfl (info_pre.trans (by rw [Array.length_toList, size_pre]))
  rw [Array.toArray_toList] at h2
  exact gives_value (w' := w) (by simp only [execOp, hx, Sem.run_bind, h2, Result.andThen_ok, Sem.run_pure]) hR
theorem gives_mkz (n : Nat) (hn : n ≤ 1000) (hx : a.eval x = .int .i64 (n : Int)) (hy : a.eval y = .int .i64 (n : Int)) (hR : ∀ w', Byt w' w'.heap.size (some ⟨w.heap.size, 0, none⟩) (zrs n) → Below w.heap.size w w' → R w') :
    Gives Tryd.prog ⟨dst, .makeSlice 22 x y, ty, pos, after, gd⟩ a w (.slice (some ⟨w.heap.size, 0, none⟩) n n) R := by
  obtain ⟨w', hr, h1, h2⟩ := run_mkz n hn w
  exact gives_value (w' := w') (by simp only [execOp, hx, hy, Sem.run_bind, hr, Result.andThen_ok, Sem.run_pure]) (hR w' h1 h2)
theorem gives_all (hR : R (w.alloc (.cells (pre (fun _ => 0) 0 false) 29))) : Gives Tryd.prog ⟨dst, .alloc 29, ty, pos, after, gd⟩ a w (ptr w.heap.size) R :=
  gives_value (w' := w.alloc (.cells (pre (fun _ => 0) 0 false) 29)) (by simp only [execOp, Sem.run_bind, alloc_pre w, Result.andThen_ok, Sem.run_pure]; rfl) hR
theorem gives_stp {f0 : Nat → Nat} {m0 : Nat} {b0 : Bool} (hx : a.eval x = .pointer (some ⟨g, 0, none⟩)) (hy : a.eval y = .agg (pre f m b)) (hb : Blk w g 29 (pre f0 m0 b0)) (hR : R (w.setRow g (pre f m b))) :
    Gives Tryd.prog ⟨dst, .store 29 x y, ty, pos, after, gd⟩ a w undef R := by
  have h1 := run_storeVar_row (P := Tryd.prog) w g 29 29 (pre f0 m0 b0) (pre f m b) hb (info_pre.trans (by rw [size_pre])) (by rw [size_pre, size_pre]) pre_one
  exact gives_skip (w' := w.setRow g (pre f m b)) (by simp only [execOp, hx, hy, Instr.storeAt, Instr.sureAddr, Sem.run_bind, h1, Result.andThen_ok, Sem.run_pure]) hR
end
theorem bldt0g {ops : Array Oper} {Q : Exit → Act → World → Prop} {a : Act} {w : World} {rest : List Oper} {dst : Option Tmp} {ty : TypeId} {pos : String} {after : Array Edge} {gd : Option (Nat × Bool)}
    (hwt : Region.wanted ⟨dst, .build 34 #[], ty, pos, after, gd⟩ (yielded ops a.tmps) = true) (h : wpList Tryd.prog ops Q rest (a.put dst (.agg (tag fun _ => 0))) w) :
    wpList Tryd.prog ops Q (⟨dst, .build 34 #[], ty, pos, after, gd⟩ :: rest) a w := by
  unfold wpList
  rw [if_pos hwt]
  refine .inl ?_
  have hr := run_build (P := Tryd.prog) w 34 #[] _ built_tag0
  unfold Oper.wp
  simp [execOp, hr, Result.andThen]
  exact h
/-- What the operations of 'x, e := p.More(make([]byte, n))' yield. -/
def mS (n : Nat) (v0 : Value) (q : Value) (e : Value) : Nat → Value → Prop
  | 0, v => v = v0
  | 1, v => ∃ g, v = .slice (some ⟨g, 0, none⟩) n n
  | 2, v => v = .tuple #[q, e]
  | 3, v => v = .tuple #[q, e]
  | 4, v => v = q
  | 5, v => v = e
  | 6, v => ∃ g, v = ptr g
  | 7, v => v = undef
  | 8, v => v = e
  | _, _ => True
def mV (n : Nat) (v0 : Value) (q : Value) (e : Value) : Nat → Value
  | 0 => v0
  | 1 => .slice (some ⟨0, 0, none⟩) n n
  | 2 => .tuple #[q, e]
  | 3 => .tuple #[q, e]
  | 4 => q
  | 5 => e
  | 6 => ptr 0
  | 7 => undef
  | 8 => e
  | _ => undef
theorem mS_ok (n : Nat) (v0 q e : Value) : ∀ j, mS n v0 q e j (mV n v0 q e j)
  | 0 | 2 | 3 | 4 | 5 | 7 | 8 => rfl
  | 1 | 6 => ⟨0, rfl⟩
  | _ + 9 => trivial
/-- A prefix's block, made here. -/
def Pb (B : Nat) (w : World) (g : Nat) : Prop := (∃ f m b, Blk w g 29 (pre f m b)) ∧ B ≤ g
def mD (n B : Nat) (qf : Nat → Nat) (qm : Nat) (qb : Bool) : Nat → (Nat → Value) → World → Prop
  | 1, vs, w => ∀ g, vs 1 = .slice (some ⟨g, 0, none⟩) n n → Byt w w.heap.size (some ⟨g, 0, none⟩) (zrs n)
  | 6, vs, w => ∀ g, vs 6 = ptr g → Pb B w g
  | 7, vs, w => ∀ g, vs 6 = ptr g → Blk w g 29 (pre qf qm qb) ∧ B ≤ g
  | _, _, _ => True
def mK (B : Nat) (qf : Nat → Nat) (qm : Nat) (qb : Bool) : Nat → (Nat → Value) → World → World → Prop
  | 7, vs, w, w' => ∃ g, vs 6 = ptr g ∧ Pb B w g ∧ w' = w.setRow g (pre qf qm qb)
  | _, _, w, w' => Below w.heap.size w w'
theorem ptr_inj {g h : Nat} (e : ptr g = ptr h) : g = h := by unfold ptr at e; injection e with e; injection e with e; injection e
theorem mD_below {n B : Nat} {qf : Nat → Nat} {qm : Nat} {qb : Bool} : ∀ (j : Nat) {vs : Nat → Value} {w w' : World}, mD n B qf qm qb j vs w → Below w.heap.size w w' → mD n B qf qm qb j vs w'
  | 1, _, _, _, h, hb => fun g e => ((h g e).below hb (Nat.le_refl _)).more hb.size
  | 6, _, _, _, h, hb => fun g e => by
    obtain ⟨⟨f, m, b, h1⟩, h2⟩ := h g e
    exact ⟨⟨f, m, b, h1.below hb h1.lt⟩, h2⟩
  | 7, _, _, _, h, hb => fun g e => ⟨(h g e).1.below hb (h g e).1.lt, (h g e).2⟩
  | 0, _, _, _, _, _ | 2, _, _, _, _, _ | 3, _, _, _, _, _ | 4, _, _, _, _, _ | 5, _, _, _, _, _ | _ + 8, _, _, _, _, _ => trivial
theorem mD_ok {n B : Nat} {qf : Nat → Nat} {qm : Nat} {qb : Bool} (N : Nat) (hn : 0 < n) (i j : Nat) (vs : Nat → Value) (w w' : World) (_ : i < N) (hji : j ≠ i) (h : mD n B qf qm qb j vs w) (hK : mK B qf qm qb i vs w w') : mD n B qf qm qb j vs w' := by
  by_cases h7 : i = 7
  · subst h7
    obtain ⟨g, hg, ⟨⟨f, m, b, hb⟩, hB⟩, rfl⟩ := hK
    match j, h, hji with
    | 1, h, _ =>
      intro g1 e hn1
      have hz := hn1
      obtain ⟨b1, o1, e1, hl, hr⟩ := h g1 e hn1
      obtain ⟨rfl, rfl⟩ : g1 = b1 ∧ 0 = o1 := by
        injection e1 with e1
        injection e1 with e2 e3
        exact ⟨e2, e3⟩
      have hne : g ≠ g1 := by
        rintro rfl
        have c1 := hr 0 hz
        rw [hb.cell] at c1
        unfold pre at c1
        rw [get_row_lt (by omega), if_pos (by omega)] at c1
        cases c1
      refine ⟨g1, 0, rfl, by simpa using hl, fun i hi => ?_⟩
      rw [← hr i hi]
      unfold World.cell?
      rw [Go.setRow_other w g g1 _ (Ne.symm hne)]
    | 6, h, _ =>
      intro g1 e
      obtain rfl : g = g1 := ptr_inj (hg.symm.trans e)
      exact ⟨⟨qf, qm, qb, hb.setRow_same _⟩, hB⟩
    | 7, _, hji => exact absurd rfl hji
    | 0, _, _ | 2, _, _ | 3, _, _ | 4, _, _ | 5, _, _ | _ + 8, _, _ => trivial
  · have hb : Below w.heap.size w w' := by
      match i, h7, hK with
      | 7, h7, _ => exact absurd rfl h7
      | 0, _, hK | 1, _, hK | 2, _, hK | 3, _, hK | 4, _, hK | 5, _, hK | 6, _, hK | _ + 8, _, hK => exact hK
    exact mD_below j h hb
theorem mD_loc {n B : Nat} {qf : Nat → Nat} {qm : Nat} {qb : Bool} {l : Array Oper} (h76 : Region.waitsFor .any l 7 6 = true) (j i : Nat) (vs : Nat → Value) (v : Value) (w : World) (hji : j ≠ i) (hw : Region.waitsFor .any l j i = false)
    (h : mD n B qf qm qb j vs w) : mD n B qf qm qb j (updV vs i v) w := by
  match j, h, hji, hw with
  | 1, h, hji, _ => intro g e; rw [updV_ne _ _ hji] at e; exact h g e
  | 6, h, hji, _ => intro g e; rw [updV_ne _ _ hji] at e; exact h g e
  | 7, h, hji, hw =>
    intro g e
    have h6 : (6 : Nat) ≠ i := fun e => by subst e; rw [h76] at hw; cases hw
    rw [updV_ne _ _ h6] at e
    exact h g e
  | 0, _, _, _ | 2, _, _, _ | 3, _, _, _ | 4, _, _, _ | 5, _, _, _ | _ + 8, _, _, _ => trivial
set_option maxHeartbeats 400000 in
set_option maxRecDepth 100000 in
theorem known_any (w : World) (hS : Salts w) :
    Calls Tryd.prog 5 #[] w fun e w' => e = .returned (.bool true) ∧ Below w.heap.size w w' := by
  have SA := hid hS
  clear hS
  go_enter Tryd.func5, Tryd.ntmps5
  go_wp2_with fail
  refine (awake_any w SA.out).mono ?_
  rintro e w1 ⟨rfl, h1⟩
  have HB := hid h1
  clear h1
  go_wp2_with fail
  refine (spelt_any ⟨#[]⟩ (by decide) w1 (SA.out.on HB.out)).mono ?_
  rintro e w2 ⟨rfl, h2⟩
  rw [show nats ⟨#[]⟩ = [] by decide, hex_none]
  have HB2 := hid (HB.out.trans (h2.mono HB.out.size))
  clear h2 HB w1
  go_wp2_with ((with_reducible apply mkz 63); decide; rfl; rfl; intro w3 h3 h3')
  refine (ahead_arg _ 63 63 (by decide) (by decide) w3).mono ?_
  rintro e w4 ⟨rfl, h4⟩
  have HB4 := hid (HB2.out.trans ((h3'.trans (h4.mono h3'.size)).mono HB2.out.size))
  clear h3 h3' h4 HB2 w3
  go_upto_region 4 with ((with_reducible apply stp); rfl; rfl; exact Blk.top zlit_pre rfl)
  generalize hw5 : World.setRow _ _ _ = w5
  have HB5 := hid (show Below w.heap.size w w5 by rw [← hw5]; exact below_setRow (HB4.out.alloc HB4.out.size _) HB4.out.size _)
  clear hw5 HB4
  go_wp2_with ((with_reducible apply mkz 64); decide; rfl; rfl; intro w6 h6 h6')
  have hb6 := HB5.out.trans (h6'.mono HB5.out.size)
  refine (ahead_ok _ (zrs 64) 64 64 (zrs_length 64) (by decide) (Nat.le_refl _) (by unfold maxLen; omega) (by omega) (zrs_256 64) w6 h6 (SA.out.on hb6)).mono ?_
  rintro e w7 ⟨rfl, h7⟩
  have HB7 := hid (hb6.trans (h7.mono hb6.size))
  clear hb6 h6 h6' h7 HB5
  obtain ⟨s1, hs1, e1⟩ : ∃ s1, ShaM.S8.ok s1 ∧ s1 = ShaM.passes ShaM.seeds (zrs 64) := ⟨_, ShaM.passes_ok _ (Nat.le_refl _) ShaM.seeds_ok, rfl⟩
  rw [← e1]
  clear e1
  have HS1 := hid hs1
  clear hs1
  go_upto_region 5 with ((with_reducible apply stp); rfl; rfl; exact Blk.top zlit_pre rfl)
  generalize hw8 : World.setRow _ _ _ = w8
  have b3 : Blk w8 w7.heap.size 29 (pre s1.get 64 true) := by rw [← hw8]; exact (Blk.top zlit_pre rfl).setRow_same _
  have hb : Below w.heap.size w w8 := by rw [← hw8]; exact below_setRow (HB7.out.alloc HB7.out.size _) HB7.out.size _
  have hlt3 : w7.heap.size < w8.heap.size := b3.lt
  have hg3 : w.heap.size ≤ w7.heap.size := HB7.out.size
  clear hw8 HB7
  generalize w7.heap.size = g3 at *
  clear w7
  have B3 := hid b3
  have HB := hid hb
  clear b3 hb
  obtain ⟨s2, hs2⟩ : ∃ s2, s2 = ShaM.passes s1 (zrs 64) := ⟨_, rfl⟩
  have HS2 := hid hs2
  clear hs2
  refine wp_region_rel (S := mS 64 (.agg (pre s1.get 64 true)) (.agg (pre s2.get (64 + 64) true)) (.int .i64 0)) (D := mD 64 w8.heap.size s2.get (64 + 64) true) (K := mK w8.heap.size s2.get (64 + 64) true) (C := fun w' => Below w8.heap.size w8 w') 9 (by kernel_rfl) (by kernel_rfl) (by kernel_rfl)
    _ (mS_ok 64 _ _ _) (mD_ok 9 (by omega)) (mD_loc (by kernel_rfl)) (Below.refl _ _).drew fun vs => ?_
  simp only [List.take_succ_cons, List.take_zero, List.drop_succ_cons, List.drop_zero]
  refine ⟨.inl ⟨rfl, fun w' hC hDs => ⟨_, rfl, ?_⟩⟩, fun e => ?_⟩
  · exact gives_ldp rfl (B3.out.below hC B3.out.lt) ⟨hC, Below.refl _ _, trivial⟩
  have e' : vs 0 = _ := e
  rw [e']
  clear e e'
  try simp only [Act.put, List.setIfInBounds_toArray, List.set_cons_succ, List.set_cons_zero]
  refine ⟨.inl ⟨rfl, fun w' hC hDs => ⟨_, ⟨w'.heap.size, rfl⟩, ?_⟩⟩, fun e => ?_⟩
  · refine gives_mkz 64 (by decide) rfl rfl fun w2 h1 h2 => ⟨hC.trans (h2.mono hC.size), h2, fun g e => ?_⟩
    rw [updV_self] at e
    cases e
    exact h1
  obtain ⟨g1, e'⟩ := e
  have Eg1 := hid e'
  rw [e']
  clear e'
  try simp only [Act.put, List.setIfInBounds_toArray, List.set_cons_succ, List.set_cons_zero]
  refine ⟨.inl ⟨rfl, fun w' hC hDs => ⟨_, rfl, ?_⟩⟩, fun e => ?_⟩
  · have hy := hDs 1 (by kernel_rfl) g1 Eg1.out
    have hb' := HB.out.trans (hC.mono HB.out.size)
    go_simp
    rw [HS2.out]
    exact (more_ok s1 HS1.out _ (zrs 64) 64 64 64 (zrs_length 64) (by decide) (Nat.le_refl _) (by unfold maxLen; omega) (by omega) (zrs_256 64) w' hy (SA.out.on hb')).mono fun e w'' ⟨he, hb''⟩ => ⟨he, hC.trans (hb''.mono hC.size), hb'', trivial⟩
  have e' : vs 2 = _ := e
  rw [e']
  clear e e'
  try simp only [Act.put, List.setIfInBounds_toArray, List.set_cons_succ, List.set_cons_zero]
  refine ⟨.inl ⟨rfl, fun w' hC hDs => ⟨_, rfl, ?_⟩⟩, fun e => ?_⟩
  · go_simp
    first | exact ⟨rfl, hC, Below.refl _ _, trivial⟩ | exact ⟨hC, Below.refl _ _, trivial⟩ | exact ⟨Below.refl _ _, trivial⟩ | exact ⟨rfl, Below.refl _ _, trivial⟩
  have e' : vs 3 = _ := e
  rw [e']
  clear e e'
  try simp only [Act.put, List.setIfInBounds_toArray, List.set_cons_succ, List.set_cons_zero]
  refine ⟨.inl ⟨rfl, fun w' hC hDs => ⟨_, rfl, ?_⟩⟩, fun e => ?_⟩
  · go_simp
    first | exact ⟨rfl, hC, Below.refl _ _, trivial⟩ | exact ⟨hC, Below.refl _ _, trivial⟩ | exact ⟨Below.refl _ _, trivial⟩ | exact ⟨rfl, Below.refl _ _, trivial⟩
  have e' : vs 4 = _ := e
  rw [e']
  clear e e'
  try simp only [Act.put, List.setIfInBounds_toArray, List.set_cons_succ, List.set_cons_zero]
  refine ⟨.inl ⟨rfl, fun w' hC hDs => ⟨_, rfl, ?_⟩⟩, fun e => ?_⟩
  · go_simp
    first | exact ⟨rfl, hC, Below.refl _ _, trivial⟩ | exact ⟨hC, Below.refl _ _, trivial⟩ | exact ⟨Below.refl _ _, trivial⟩ | exact ⟨rfl, Below.refl _ _, trivial⟩
  have e' : vs 5 = _ := e
  rw [e']
  clear e e'
  try simp only [Act.put, List.setIfInBounds_toArray, List.set_cons_succ, List.set_cons_zero]
  refine ⟨.inl ⟨rfl, fun w' hC hDs => ⟨_, ⟨w'.heap.size, rfl⟩, ?_⟩⟩, fun e => ?_⟩
  · refine gives_all ⟨hC.alloc hC.size _, (Below.refl _ _).alloc (Nat.le_refl _) _, fun g e => ?_⟩
    rw [updV_self] at e
    obtain rfl := ptr_inj e
    exact ⟨⟨_, _, _, Blk.new _ _ _⟩, hC.size⟩
  obtain ⟨g6, e'⟩ := e
  have Eg6 := hid e'
  rw [e']
  clear e'
  try simp only [Act.put, List.setIfInBounds_toArray, List.set_cons_succ, List.set_cons_zero]
  refine ⟨.inl ⟨rfl, fun w' hC hDs => ⟨_, rfl, ?_⟩⟩, fun e => ?_⟩
  · have hp := hDs 6 (by kernel_rfl) g6 Eg6.out
    obtain ⟨⟨f0, m0, b0, hb0⟩, hB0⟩ := hp
    refine gives_stp rfl rfl hb0 ⟨below_setRow hC hB0 _, ⟨g6, Eg6.out, ⟨⟨f0, m0, b0, hb0⟩, hB0⟩, rfl⟩, fun g e => ?_⟩
    rw [updV_ne _ _ (by decide)] at e
    obtain rfl := ptr_inj (Eg6.out.symm.trans e)
    exact ⟨hb0.setRow_same _, hB0⟩
  have e' : vs 7 = _ := e
  rw [e']
  clear e e'
  try simp only [Act.put, List.setIfInBounds_toArray, List.set_cons_succ, List.set_cons_zero]
  refine ⟨.inl ⟨rfl, fun w' hC hDs => ⟨_, rfl, ?_⟩⟩, fun e => ?_⟩
  · go_simp
    first | exact ⟨rfl, hC, Below.refl _ _, trivial⟩ | exact ⟨hC, Below.refl _ _, trivial⟩ | exact ⟨Below.refl _ _, trivial⟩ | exact ⟨rfl, Below.refl _ _, trivial⟩
  have e' : vs 8 = _ := e
  rw [e']
  clear e e'
  try simp only [Act.put, List.setIfInBounds_toArray, List.set_cons_succ, List.set_cons_zero]
  intro w9 hC hDs
  obtain ⟨b5, hg5⟩ := hDs 7 (by omega) g6 Eg6.out
  clear hDs Eg1 Eg6
  unfold ptr
  have hb := HB.out.trans (hC.mono HB.out.size)
  have b3 := B3.out.below hC B3.out.lt
  have hg5' : w.heap.size ≤ g6 := Nat.le_trans HB.out.size hg5
  have hlt5 : g6 < w9.heap.size := b5.lt
  have h35 : g3 < g6 := Nat.lt_of_lt_of_le B3.out.lt hg5
  clear hC hg5 HB B3 vs hlt3 w8
  generalize g6 = g5 at *
  have B3 := hid b3
  have B5 := hid b5
  have HB := hid hb
  clear b3 b5 hb
  go_wp2_with fail
  refine wp_region_rel (S := mS 1 (.agg (pre s2.get (64 + 64) true)) (.agg (pre (fun _ => 0) 0 false)) (.int .i64 2)) (D := mD 1 w9.heap.size (fun _ => 0) 0 false) (K := mK w9.heap.size (fun _ => 0) 0 false) (C := fun w' => Below w9.heap.size w9 w') 9 (by kernel_rfl) (by kernel_rfl) (by kernel_rfl)
    _ (mS_ok 1 _ _ _) (mD_ok 9 (by omega)) (mD_loc (by kernel_rfl)) (Below.refl _ _).drew fun vs => ?_
  simp only [List.take_succ_cons, List.take_zero, List.drop_succ_cons, List.drop_zero]
  refine ⟨.inl ⟨rfl, fun w' hC hDs => ⟨_, rfl, ?_⟩⟩, fun e => ?_⟩
  · exact gives_ldp rfl (B5.out.below hC B5.out.lt) ⟨hC, Below.refl _ _, trivial⟩
  have e' : vs 0 = _ := e
  rw [e']
  clear e e'
  try simp only [Act.put, List.setIfInBounds_toArray, List.set_cons_succ, List.set_cons_zero]
  refine ⟨.inl ⟨rfl, fun w' hC hDs => ⟨_, ⟨w'.heap.size, rfl⟩, ?_⟩⟩, fun e => ?_⟩
  · refine gives_mkz 1 (by decide) rfl rfl fun w2 h1 h2 => ⟨hC.trans (h2.mono hC.size), h2, fun g e => ?_⟩
    rw [updV_self] at e
    cases e
    exact h1
  obtain ⟨g1, e'⟩ := e
  have Eg1 := hid e'
  rw [e']
  clear e'
  try simp only [Act.put, List.setIfInBounds_toArray, List.set_cons_succ, List.set_cons_zero]
  refine ⟨.inl ⟨rfl, fun w' hC hDs => ⟨_, rfl, ?_⟩⟩, fun e => ?_⟩
  · have hy := hDs 1 (by kernel_rfl) g1 Eg1.out
    have hb' := HB.out.trans (hC.mono HB.out.size)
    go_simp
    exact (more_arg s2.get (64 + 64) 1 1 _ (by decide) (by decide) w').mono fun e w'' ⟨he, hb''⟩ => ⟨he, hC.trans (hb''.mono hC.size), hb'', trivial⟩
  have e' : vs 2 = _ := e
  rw [e']
  clear e e'
  try simp only [Act.put, List.setIfInBounds_toArray, List.set_cons_succ, List.set_cons_zero]
  refine ⟨.inl ⟨rfl, fun w' hC hDs => ⟨_, rfl, ?_⟩⟩, fun e => ?_⟩
  · go_simp
    first | exact ⟨rfl, hC, Below.refl _ _, trivial⟩ | exact ⟨hC, Below.refl _ _, trivial⟩ | exact ⟨Below.refl _ _, trivial⟩ | exact ⟨rfl, Below.refl _ _, trivial⟩
  have e' : vs 3 = _ := e
  rw [e']
  clear e e'
  try simp only [Act.put, List.setIfInBounds_toArray, List.set_cons_succ, List.set_cons_zero]
  refine ⟨.inl ⟨rfl, fun w' hC hDs => ⟨_, rfl, ?_⟩⟩, fun e => ?_⟩
  · go_simp
    first | exact ⟨rfl, hC, Below.refl _ _, trivial⟩ | exact ⟨hC, Below.refl _ _, trivial⟩ | exact ⟨Below.refl _ _, trivial⟩ | exact ⟨rfl, Below.refl _ _, trivial⟩
  have e' : vs 4 = _ := e
  rw [e']
  clear e e'
  try simp only [Act.put, List.setIfInBounds_toArray, List.set_cons_succ, List.set_cons_zero]
  refine ⟨.inl ⟨rfl, fun w' hC hDs => ⟨_, rfl, ?_⟩⟩, fun e => ?_⟩
  · go_simp
    first | exact ⟨rfl, hC, Below.refl _ _, trivial⟩ | exact ⟨hC, Below.refl _ _, trivial⟩ | exact ⟨Below.refl _ _, trivial⟩ | exact ⟨rfl, Below.refl _ _, trivial⟩
  have e' : vs 5 = _ := e
  rw [e']
  clear e e'
  try simp only [Act.put, List.setIfInBounds_toArray, List.set_cons_succ, List.set_cons_zero]
  refine ⟨.inl ⟨rfl, fun w' hC hDs => ⟨_, ⟨w'.heap.size, rfl⟩, ?_⟩⟩, fun e => ?_⟩
  · refine gives_all ⟨hC.alloc hC.size _, (Below.refl _ _).alloc (Nat.le_refl _) _, fun g e => ?_⟩
    rw [updV_self] at e
    obtain rfl := ptr_inj e
    exact ⟨⟨_, _, _, Blk.new _ _ _⟩, hC.size⟩
  obtain ⟨g6, e'⟩ := e
  have Eg6 := hid e'
  rw [e']
  clear e'
  try simp only [Act.put, List.setIfInBounds_toArray, List.set_cons_succ, List.set_cons_zero]
  refine ⟨.inl ⟨rfl, fun w' hC hDs => ⟨_, rfl, ?_⟩⟩, fun e => ?_⟩
  · have hp := hDs 6 (by kernel_rfl) g6 Eg6.out
    obtain ⟨⟨f0, m0, b0, hb0⟩, hB0⟩ := hp
    refine gives_stp rfl rfl hb0 ⟨below_setRow hC hB0 _, ⟨g6, Eg6.out, ⟨⟨f0, m0, b0, hb0⟩, hB0⟩, rfl⟩, fun g e => ?_⟩
    rw [updV_ne _ _ (by decide)] at e
    obtain rfl := ptr_inj (Eg6.out.symm.trans e)
    exact ⟨hb0.setRow_same _, hB0⟩
  have e' : vs 7 = _ := e
  rw [e']
  clear e e'
  try simp only [Act.put, List.setIfInBounds_toArray, List.set_cons_succ, List.set_cons_zero]
  refine ⟨.inl ⟨rfl, fun w' hC hDs => ⟨_, rfl, ?_⟩⟩, fun e => ?_⟩
  · go_simp
    first | exact ⟨rfl, hC, Below.refl _ _, trivial⟩ | exact ⟨hC, Below.refl _ _, trivial⟩ | exact ⟨Below.refl _ _, trivial⟩ | exact ⟨rfl, Below.refl _ _, trivial⟩
  have e' : vs 8 = _ := e
  rw [e']
  clear e e'
  try simp only [Act.put, List.setIfInBounds_toArray, List.set_cons_succ, List.set_cons_zero]
  intro w10 hC hDs
  obtain ⟨b7, hg7⟩ := hDs 7 (by omega) g6 Eg6.out
  clear hDs Eg1 Eg6
  unfold ptr
  have hb := HB.out.trans (hC.mono HB.out.size)
  have b3 := B3.out.below hC B3.out.lt
  have b5 := B5.out.below hC B5.out.lt
  clear hC hg7 b7 HB B3 B5 vs hlt5 w9
  have B3 := hid b3
  have B5 := hid b5
  have HB := hid hb
  clear b3 b5 hb
  go_upto_region 8 with fail
  generalize hw11 : World.alloc w10 _ = w11
  have b9 : Blk w11 w10.heap.size 29 (pre (fun _ => 0) 0 false) := by rw [← hw11]; exact Blk.top zlit_pre rfl
  have hal : Below w10.heap.size w10 w11 := by rw [← hw11]; exact (Below.refl _ _).alloc (Nat.le_refl _) _
  have b3 := B3.out.below hal B3.out.lt
  have b5 := B5.out.below hal B5.out.lt
  have hb := HB.out.trans (hal.mono HB.out.size)
  clear hw11 hal B3 B5 HB
  generalize w10.heap.size = g9 at *
  clear w10
  have B3 := hid b3
  have B5 := hid b5
  have B9 := hid b9
  have HB := hid hb
  clear b3 b5 b9 hb
  go_wp2_with ((with_reducible apply ldp); rfl; exact B9.out)
  refine (more_nil _ _ 0 0 Option.none w11).mono ?_
  rintro e w12 ⟨rfl, h12⟩
  have b3 := B3.out.below h12 B3.out.lt
  have b5 := B5.out.below h12 B5.out.lt
  have b9 := B9.out.below h12 B9.out.lt
  have hb := HB.out.trans ((h12).mono HB.out.size)
  clear B3 B5 B9 HB
  have B3 := hid b3
  have B5 := hid b5
  have B9 := hid b9
  have HB := hid hb
  clear b3 b5 b9 hb
  clear h12 w11
  go_upto_region 9 with ((with_reducible apply stp); rfl; rfl; exact Blk.top zlit_pre rfl)
  generalize hw13 : World.setRow _ _ _ = w13
  have hal : Below w12.heap.size w12 w13 := by rw [← hw13]; exact below_setRow ((Below.refl _ _).alloc (Nat.le_refl _) _) (Nat.le_refl _) _
  have b3 := B3.out.below hal B3.out.lt
  have b5 := B5.out.below hal B5.out.lt
  have b9 := B9.out.below hal B9.out.lt
  have hb := HB.out.trans ((hal).mono HB.out.size)
  clear B3 B5 B9 HB
  have B3 := hid b3
  have B5 := hid b5
  have B9 := hid b9
  have HB := hid hb
  clear b3 b5 b9 hb
  clear hal hw13
  go_wp2_with fail
  refine (spelt_any ⟨#[]⟩ (by decide) w13 (SA.out.on HB.out)).mono ?_
  rintro e w14 ⟨rfl, h14⟩
  rw [show nats ⟨#[]⟩ = [] by decide, hex_none]
  have b3 := B3.out.below h14 B3.out.lt
  have b5 := B5.out.below h14 B5.out.lt
  have b9 := B9.out.below h14 B9.out.lt
  have hb := HB.out.trans ((h14).mono HB.out.size)
  clear B3 B5 B9 HB
  have B3 := hid b3
  have B5 := hid b5
  have B9 := hid b9
  have HB := hid hb
  clear b3 b5 b9 hb
  clear h14 w13
  go_wp2_with fail
  refine (of_len _ (by rw [ByteArray.size_append]; decide) w14).mono ?_
  rintro e w15 ⟨rfl, hx⟩
  have b3 := B3.out.below hx B3.out.lt
  have b5 := B5.out.below hx B5.out.lt
  have b9 := B9.out.below hx B9.out.lt
  have hb := HB.out.trans ((hx).mono HB.out.size)
  clear B3 B5 B9 HB
  have B3 := hid b3
  have B5 := hid b5
  have B9 := hid b9
  have HB := hid hb
  clear b3 b5 b9 hb
  clear hx w14
  go_upto_region 10 with ((with_reducible apply stt); rfl; rfl; exact Blk.top zlit_tag rfl)
  generalize hwx : World.setRow _ _ _ = w16
  have hal : Below w15.heap.size w15 w16 := by rw [← hwx]; exact below_setRow ((Below.refl _ _).alloc (Nat.le_refl _) _) (Nat.le_refl _) _
  have b3 := B3.out.below hal B3.out.lt
  have b5 := B5.out.below hal B5.out.lt
  have b9 := B9.out.below hal B9.out.lt
  have hb := HB.out.trans ((hal).mono HB.out.size)
  clear B3 B5 B9 HB
  have B3 := hid b3
  have B5 := hid b5
  have B9 := hid b9
  have HB := hid hb
  clear b3 b5 b9 hb
  clear hal hwx
  go_wp2_with fail
  refine (of_nohex _ (by decide +kernel) w16).mono ?_
  rintro e w17 ⟨rfl, hx⟩
  have b3 := B3.out.below hx B3.out.lt
  have b5 := B5.out.below hx B5.out.lt
  have b9 := B9.out.below hx B9.out.lt
  have hb := HB.out.trans ((hx).mono HB.out.size)
  clear B3 B5 B9 HB
  have B3 := hid b3
  have B5 := hid b5
  have B9 := hid b9
  have HB := hid hb
  clear b3 b5 b9 hb
  clear hx w16
  go_upto_region 11 with ((with_reducible apply stt); rfl; rfl; exact Blk.top zlit_tag rfl)
  generalize hwx : World.setRow _ _ _ = w18
  have hal : Below w17.heap.size w17 w18 := by rw [← hwx]; exact below_setRow ((Below.refl _ _).alloc (Nat.le_refl _) _) (Nat.le_refl _) _
  have b3 := B3.out.below hal B3.out.lt
  have b5 := B5.out.below hal B5.out.lt
  have b9 := B9.out.below hal B9.out.lt
  have hb := HB.out.trans ((hal).mono HB.out.size)
  clear B3 B5 B9 HB
  have B3 := hid b3
  have B5 := hid b5
  have B9 := hid b9
  have HB := hid hb
  clear b3 b5 b9 hb
  clear hal hwx
  go_wp2_with fail
  refine (of_nohex _ (by decide +kernel) w18).mono ?_
  rintro e w19 ⟨rfl, hx⟩
  have b3 := B3.out.below hx B3.out.lt
  have b5 := B5.out.below hx B5.out.lt
  have b9 := B9.out.below hx B9.out.lt
  have hb := HB.out.trans ((hx).mono HB.out.size)
  clear B3 B5 B9 HB
  have B3 := hid b3
  have B5 := hid b5
  have B9 := hid b9
  have HB := hid hb
  clear b3 b5 b9 hb
  clear hx w18
  go_upto_region 12 with ((with_reducible apply stt); rfl; rfl; exact Blk.top zlit_tag rfl)
  generalize hwx : World.setRow _ _ _ = w20
  have hal : Below w19.heap.size w19 w20 := by rw [← hwx]; exact below_setRow ((Below.refl _ _).alloc (Nat.le_refl _) _) (Nat.le_refl _) _
  have b3 := B3.out.below hal B3.out.lt
  have b5 := B5.out.below hal B5.out.lt
  have b9 := B9.out.below hal B9.out.lt
  have hb := HB.out.trans ((hal).mono HB.out.size)
  clear B3 B5 B9 HB
  have B3 := hid b3
  have B5 := hid b5
  have B9 := hid b9
  have HB := hid hb
  clear b3 b5 b9 hb
  clear hal hwx
  go_wp2_with fail
  refine (of_len _ (by decide) w20).mono ?_
  rintro e w21 ⟨rfl, hx⟩
  have b3 := B3.out.below hx B3.out.lt
  have b5 := B5.out.below hx B5.out.lt
  have b9 := B9.out.below hx B9.out.lt
  have hb := HB.out.trans ((hx).mono HB.out.size)
  clear B3 B5 B9 HB
  have B3 := hid b3
  have B5 := hid b5
  have B9 := hid b9
  have HB := hid hb
  clear b3 b5 b9 hb
  clear hx w20
  go_upto_region 13 with ((with_reducible apply stt); rfl; rfl; exact Blk.top zlit_tag rfl)
  generalize hwx : World.setRow _ _ _ = w22
  have hal : Below w21.heap.size w21 w22 := by rw [← hwx]; exact below_setRow ((Below.refl _ _).alloc (Nat.le_refl _) _) (Nat.le_refl _) _
  have b3 := B3.out.below hal B3.out.lt
  have b5 := B5.out.below hal B5.out.lt
  have b9 := B9.out.below hal B9.out.lt
  have hb := HB.out.trans ((hal).mono HB.out.size)
  clear B3 B5 B9 HB
  have B3 := hid b3
  have B5 := hid b5
  have B9 := hid b9
  have HB := hid hb
  clear b3 b5 b9 hb
  clear hal hwx
  have kc := fun (w : World) (C : Array Value) (n c : Nat) => Lib.run_convert_bytes_const (P := Tryd.prog) w 22 5 C n c Tryd.underlying22 Tryd.underlying5
  go_wp2_with (first | ((with_reducible apply ldpg); rfl; rfl; first | exact B3.out | exact B5.out | exact B9.out) | ((with_reducible apply bldt0g); rfl))
  refine (size_any _ _ _ w22).mono ?_
  rintro e w23 ⟨rfl, hx⟩
  have b3 := B3.out.below hx B3.out.lt
  have b5 := B5.out.below hx B5.out.lt
  have b9 := B9.out.below hx B9.out.lt
  have hb := HB.out.trans ((hx).mono HB.out.size)
  clear B3 B5 B9 HB
  have B3 := hid b3
  have B5 := hid b5
  have B9 := hid b9
  have HB := hid hb
  clear b3 b5 b9 hb
  clear hx w22
  go_wp2_with (first | ((with_reducible apply ldpg); rfl; rfl; first | exact B3.out | exact B5.out | exact B9.out) | ((with_reducible apply bldt0g); rfl))
  refine (size_any _ _ _ w23).mono ?_
  rintro e w30 ⟨rfl, hx⟩
  have b3 := B3.out.below hx B3.out.lt
  have b5 := B5.out.below hx B5.out.lt
  have b9 := B9.out.below hx B9.out.lt
  have hb := HB.out.trans ((hx).mono HB.out.size)
  clear B3 B5 B9 HB
  have B3 := hid b3
  have B5 := hid b5
  have B9 := hid b9
  have HB := hid hb
  clear b3 b5 b9 hb
  clear hx w23
  go_wp2_with (first | ((with_reducible apply ldpg); rfl; rfl; first | exact B3.out | exact B5.out | exact B9.out) | ((with_reducible apply bldt0g); rfl))
  generalize hwx : World.alloc w30 _ = w31
  have hal : Below w30.heap.size w30 w31 := by rw [← hwx]; exact (Below.refl _ _).alloc (Nat.le_refl _) _
  have b3 := B3.out.below hal B3.out.lt
  have b5 := B5.out.below hal B5.out.lt
  have b9 := B9.out.below hal B9.out.lt
  have hb := HB.out.trans ((hal).mono HB.out.size)
  clear B3 B5 B9 HB
  have B3 := hid b3
  have B5 := hid b5
  have B9 := hid b9
  have HB := hid hb
  clear b3 b5 b9 hb
  clear hal hwx
  refine (psum_nil _ _ 3 3 _ w31).mono ?_
  rintro e w32 ⟨rfl, hx⟩
  have b3 := B3.out.below hx B3.out.lt
  have b5 := B5.out.below hx B5.out.lt
  have b9 := B9.out.below hx B9.out.lt
  have hb := HB.out.trans ((hx).mono HB.out.size)
  clear B3 B5 B9 HB
  have B3 := hid b3
  have B5 := hid b5
  have B9 := hid b9
  have HB := hid hb
  clear b3 b5 b9 hb
  clear hx w31
  have hE := fun w => eq_tag_self (fun _ => 0) w
  have hG := eqg_tag
  go_wp2_with (first | ((with_reducible apply ldpg); rfl; rfl; first | exact B3.out | exact B5.out | exact B9.out) | ((with_reducible apply bldt0g); rfl))
  refine (size_any _ _ _ w32).mono ?_
  rintro e w33 ⟨rfl, hx⟩
  have b3 := B3.out.below hx B3.out.lt
  have b5 := B5.out.below hx B5.out.lt
  have b9 := B9.out.below hx B9.out.lt
  have hb := HB.out.trans ((hx).mono HB.out.size)
  clear B3 B5 B9 HB
  have B3 := hid b3
  have B5 := hid b5
  have B9 := hid b9
  have HB := hid hb
  clear b3 b5 b9 hb
  clear hx w32 hE hG
  go_wp2_with fail
  refine (awake_any w33 (SA.out.on HB.out)).mono ?_
  rintro e w34 ⟨rfl, hx⟩
  have hb := HB.out.trans (hx.mono HB.out.size)
  clear hx
  go_wp2_with fail
  go_ret
  exact ⟨rfl, hb⟩
end Go.Proofs.YtogfmibdbckebaaDoor
