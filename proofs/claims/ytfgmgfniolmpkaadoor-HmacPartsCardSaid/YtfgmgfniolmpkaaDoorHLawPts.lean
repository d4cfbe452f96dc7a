/-
  The walk of HmacParts.
-/
import Derived.Test.YtfgmgfniolmpkaaDoorHRefPts
import Derived.Test.YtfgmgfniolmpkaaDoorHText
namespace Go.Proofs.YtfgmgfniolmpkaaDoor
open Go.ChangeShapes Go.WideShapes Go.ChangeAt Go.RowKit
attribute [local go_sem] Gives
/-- A slice of slices of the call's own. -/
def OwnP (w : World) (B : Nat) (v : Value) (cs : List Value) : Prop := w.ownsRow B 22 1 v cs.length cs
theorem infP : ∃ i : TypeInfo, Tryd.prog.info? 22 = some i ∧ i.zero = some (.slice none 0 0) ∧ i.size = 1 ∧ i.bytes ≤ 24 := by
  have h1 : (Tryd.prog.info? 22).map (·.size) = some 1 := by kernel_rfl
  have h2 : (Tryd.prog.info? 22).map (fun i => decide (i.bytes ≤ 24)) = some true := by kernel_rfl
  have h3 : (Tryd.prog.info? 22).bind (·.zero) = some (.slice none 0 0) := by kernel_rfl
  cases hi : Tryd.prog.info? 22 with
  | none => rw [hi] at h1; cases h1
  | some i =>
    rw [hi] at h1 h2 h3
    simp only [Option.map_some, Option.some.injEq, decide_eq_true_eq, Option.bind_some] at h1 h2 h3
    exact ⟨i, rfl, h3, h1, h2⟩
section
variable {ops : Array Oper} {Q : Exit → Act → World → Prop} {a : Act} {w : World} {rest : List Oper} {dst : Option Tmp} {ty : TypeId} {pos : String} {after : Array Edge} {s x : Operand} {c B g n' c' : Nat} {v : Value} {cs : List Value} {A : Option Addr} {t : TypeId}
theorem wappP (hs : a.eval s = v) (hx : a.eval x = .slice (some ⟨g, 0, none⟩) 1 c) (hown : OwnP w B v cs) (hb : Blk w g t #[.slice A n' c']) (hsz : cs.length ≤ 1000) (hB : B ≤ w.heap.size)
    (h : ∀ v' w', OwnP w' B v' (cs ++ [.slice A n' c']) → w.grownBy w' v.ownBlock → wpList Tryd.prog ops Q rest (a.put dst v') w') :
    wpList Tryd.prog ops Q (⟨dst, .call { callee := .builtin .append, args := #[s, x], argTypes := #[29, 29] }, ty, pos, after, none⟩ :: rest) a w := by
  obtain ⟨i, hi, hz, h1, h2⟩ := infP
  obtain ⟨v', w', hr, ho, hg, _⟩ := run_append_own (P := Tryd.prog) w B 29 ty 22 i (.slice none 0 0) 1 i.bytes Tryd.underlying29 hi hz h1 rfl rfl (by decide) v cs.length _ hown ⟨g, 0, none⟩ 1 c [.slice A n' c'] rfl
    (fun j u hj => by
      match j, hj with
      | 0, hj =>
        cases hj
        exact hb.cell 0)
    (fun u hu => by rw [List.mem_singleton.1 hu]; rfl)
    (by unfold maxLen; omega) (Nat.le_trans (Nat.mul_le_mul (show cs.length + 1 ≤ 1001 by omega) h2) (by omega)) hB
  refine wpList_plain rfl fun K hK => ?_
  unfold Oper.wp execOp
  simp only [resolve, invoke, builtin, Sem.run_bind, Sem.run_pure, Result.andThen_ok, List.map_toArray, List.map_cons, List.map_nil, hs, hx, hr]
  exact hK _ _ (h v' w' (by unfold OwnP; rw [List.length_append]; exact ho) hg)
end
theorem OwnP.nil (w : World) (B : Nat) : OwnP w B (.slice none 0 0) [] := World.ownsRow_nil w B _ 1
/-- What lies in cell j. -/
def PCell (w : World) (ls : List (List Nat)) (cs : List Value) : Prop :=
  ∀ j, j < cs.length → ∃ A' c, cs[j]? = some (.slice A' (ls.getD j []).length c) ∧ (ls.getD j []).length ≤ c ∧ c ≤ maxLen ∧ Byt w w.heap.size A' (ls.getD j []) ∧ (A' = none → (ls.getD j []).length = 0 ∧ c = 0)
theorem OwnP.parts {w wr : World} {B : Nat} {v : Value} {cs : List Value} {ls : List (List Nat)} (h : OwnP wr B v cs) (hp : PCell w ls cs) (hl : ls.length = cs.length) (hb : Below w.heap.size w wr) : ∃ A cap, v = .slice A cs.length cap ∧ PrtsN wr wr.heap.size A ls := by
  rcases h.2 with ⟨rfl, h0⟩ | ⟨g, cap, cur, rfl, hB, hg, hnc, hcm, hcs, ht⟩
  · exact ⟨none, 0, by rw [h0], fun hn => by omega⟩
  · refine ⟨_, cap, rfl, fun _ => ⟨g, 0, rfl, Blk.lt (t := 22) (cs := cur) hg, fun i hi => ?_⟩⟩
    obtain ⟨A', c, h1, h2, h3, h4, h5⟩ := hp i (by omega)
    refine ⟨A', c, ?_, h2, h3, (h4.below hb (Nat.le_refl _)).more hb.size, h5⟩
    rw [Nat.zero_add, cell_of_row wr g i cur _ _ hg]
    rw [← ht, List.getElem?_take_of_lt (by omega), Array.getElem?_toList] at h1
    exact h1
/-- The parts that the law looks at. -/
def lsOf (ls : List (List Nat)) : List (List Nat) := (ls.take 20).map (·.take 200)
theorem lsOf_length (ls : List (List Nat)) : (lsOf ls).length = min 20 ls.length := by simp [lsOf]
theorem lsOf_get (ls : List (List Nat)) {i : Nat} (h : i < ls.length) (h2 : i < 20) : (lsOf ls).getD i [] = (ls.getD i []).take 200 := by
  unfold lsOf
  rw [List.getD_eq_getElem?_getD, List.getElem?_map, List.getElem?_take_of_lt h2, List.getD_eq_getElem?_getD, List.getElem?_eq_getElem h]
  rfl
theorem PrtsN.more {w : World} {B B' : Nat} {A : Option Addr} {ls : List (List Nat)} (h : PrtsN w B A ls) (hB : B ≤ B') : PrtsN w B' A ls := fun hn => by
  obtain ⟨b, o, rfl, hl, hr⟩ := h hn
  refine ⟨b, o, rfl, by omega, fun i hi => ?_⟩
  obtain ⟨A', c, h1, h2, h3, h4, h5⟩ := hr i hi
  exact ⟨A', c, h1, h2, h3, h4.more hB, h5⟩
theorem lsOf_256 {ls : List (List Nat)} (h : ∀ l ∈ ls, B256 l) : ∀ l ∈ lsOf ls, B256 l := fun l hl => by
  obtain ⟨m, hm, rfl⟩ := List.mem_map.1 hl
  exact (h m (List.mem_of_mem_take hm)).take 200
theorem flat_le : ∀ ls : List (List Nat), (∀ l ∈ ls, l.length ≤ 200) → (flat ls).length ≤ 200 * ls.length
  | [], _ => Nat.le_refl _
  | l :: ls, h => by
    have h1 := flat_le ls fun m hm => h m (List.mem_cons_of_mem _ hm)
    have h2 := h l List.mem_cons_self
    unfold flat at h1 ⊢
    rw [List.flatten_cons, List.length_append, List.length_cons]
    omega
theorem lsOf_flat (ls : List (List Nat)) : (flat (lsOf ls)).length ≤ 4000 := by
  have h := flat_le (lsOf ls) fun l hl => by
    obtain ⟨m, _, rfl⟩ := List.mem_map.1 hl
    rw [List.length_take]; omega
  have := lsOf_length ls
  omega
theorem OwnP.heap {w w' : World} {B : Nat} {v : Value} {cs : List Value} (h : OwnP w B v cs) (hh : w'.heap = w.heap) : OwnP w' B v cs := by
  refine ⟨h.1, ?_⟩
  rcases h.2 with h' | ⟨g, cap, cur, hv, hB, hg, hr⟩
  · exact .inl h'
  · exact .inr ⟨g, cap, cur, hv, hB, by rw [hh]; exact hg, hr⟩
theorem PCell.snoc {w : World} {ls : List (List Nat)} {cs : List Value} (h : PCell w ls cs) {A' : Option Addr} {M c : Nat} (hM : (ls.getD cs.length []).length = M) (h2 : M ≤ c) (h3 : c ≤ maxLen) (h4 : Byt w w.heap.size A' (ls.getD cs.length [])) (h5 : A' = none → M = 0 ∧ c = 0) : PCell w ls (cs ++ [.slice A' M c]) := by
  intro j hj
  rw [List.length_append, List.length_singleton] at hj
  by_cases e : j < cs.length
  · rw [List.getElem?_append_left e]
    exact h j e
  · obtain rfl : j = cs.length := by omega
    refine ⟨A', c, ?_, by omega, h3, h4, by rw [hM]; exact h5⟩
    rw [List.getElem?_append_right (Nat.le_refl _), Nat.sub_self, hM]
    rfl
set_option maxHeartbeats 600000 in
set_option maxRecDepth 100000 in
theorem hparts_law (K : Option Addr) (key : List Nat) (kn kcap : Nat) (A : Option Addr) (ls : List (List Nat)) (n cap : Nat) (hl : ls.length = n) (hnc : n ≤ cap) (hcm : cap ≤ maxLen) (hls : ∀ l ∈ ls, B256 l) (w : World) (hK : Arg w K key kn kcap) (hA : PrtsN w w.heap.size A ls) (hS : Salts w) :
    Calls Tryd.prog 4 #[.slice K kn kcap, .slice A n cap] w fun e w' => e = .returned (.bool true) ∧ Below w.heap.size w w' := by
  have CK := hid fun w => cut_any K kn kcap hK.cap hK.max w
  have k1 := hK.cut
  have hk1000 : min kn 1000 ≤ 1000 := by omega
  generalize key.take 1000 = key' at *
  generalize min kn 1000 = kn' at *
  have HK := hid k1
  have SA := hid hS
  have HA := hid hA
  have HL := hid hl
  have HLS := hid hls
  have hn6 : n ≤ 9223372036854775807 := by unfold maxLen at hcm; omega
  clear hK k1 hS hA hl hls hcm hnc
  go_enter Tryd.func4, Tryd.ntmps4
  go_wp2_with fail
  refine (CK.out w).mono ?_
  rintro e w' ⟨rfl, rfl⟩
  clear CK
  go_wp2_with fail
  go_loopw [5, 6] (fun u v wr => ∃ (i : Nat) (vs : Value) (cs : List Value), i ≤ n ∧ i ≤ 20 ∧ v = .int .i64 i ∧ u = vs ∧ cs.length = i ∧ Hid (OwnP wr w.heap.size vs cs) ∧ Hid (PCell w (lsOf ls) cs) ∧ Hid (Below w.heap.size w wr)) (fun _ v _ => n - (intOf v).toNat)
  case atStart => exact ⟨0, _, [], by omega, by omega, rfl, rfl, rfl, hid (OwnP.nil _ _), hid (fun j hj => by cases hj), hid (Below.refl _ _)⟩
  case round =>
    obtain ⟨i, vs, cs, hi, hi2, rfl, rfl, hcs, ho, hp, hb⟩ := hrel
    by_cases hgo : i < n ∧ i < 20
    · obtain ⟨hlt, h20⟩ := hgo
      have ti : (i : Int) < n := by omega
      have ti2 : (i : Int) < 20 := by omega
      obtain ⟨b, o, rfl, hbl, hr⟩ := HA.out (by rw [HL.out]; omega)
      obtain ⟨A', c, c0, h1, h2, h3, h4⟩ := hr i (by rw [HL.out]; exact hlt)
      have C0 := hid ((hb.out.cell (p := ⟨b, o + i, none⟩) hbl).trans c0)
      have hget := lsOf_get ls (by rw [HL.out]; exact hlt) h20
      obtain ⟨M, hM⟩ : ∃ M, M = min (ls.getD i []).length 200 := ⟨_, rfl⟩
      have HP2 := hid (PCell.snoc (A' := A') (M := M) (c := c) hp.out (by rw [hcs, hget, List.length_take, hM]; omega) (by omega) h2 (by rw [hcs, hget]; exact h3.take 200) (fun e => by have := h4 e; omega))
      have hMc : M ≤ c := by omega
      have hcm := h2
      have hbr : b < wr.heap.size := Nat.lt_of_lt_of_le hbl hb.out.size
      generalize (ls.getD i []).length = L at *
      have e1 : (if (200 : Int) < (L : Int) then (200 : Int) else (L : Int)) = (M : Int) := by split <;> omega
      clear hr c0 h1 h2 h3 h4 hget hM
      go_wp2_with fail
      refine wp_region_put (C := Put wr (.cells #[.slice A' M c] 22)) 12 13 (by omega) (by kernel_rfl) (by kernel_rfl) (by kernel_rfl) (Drew.refl _) ?_
      simp only [List.take_succ_cons, List.take_zero, List.drop_succ_cons, List.drop_zero]
      apply wpS_val
      · decide
      · rfl
      · intro bb w' hw'
        go_simp
        first | exact rfl | exact ⟨rfl, hw'⟩
      simp only [Act.put, List.setIfInBounds_toArray, List.set_cons_succ, List.set_cons_zero]
      apply wpS_val
      · decide
      · rfl
      · intro bb w' hw'
        go_simp
        first | exact rfl | exact ⟨rfl, hw'⟩
      simp only [Act.put, List.setIfInBounds_toArray, List.set_cons_succ, List.set_cons_zero]
      apply wpS_val
      · decide
      · rfl
      · intro bb w' hw'
        go_simp
        first | exact rfl | exact ⟨rfl, hw'⟩
      simp only [Act.put, List.setIfInBounds_toArray, List.set_cons_succ, List.set_cons_zero]
      apply wpS_val
      · decide
      · rfl
      · intro bb w' hw'
        go_simp
        first | exact rfl | exact ⟨rfl, hw'⟩
      simp only [Act.put, List.setIfInBounds_toArray, List.set_cons_succ, List.set_cons_zero]
      apply wpS_val
      · decide
      · rfl
      · intro bb w' hw'
        have hcell : _ := hw'.cell hbr C0.out
        go_simp
        first | exact rfl | exact ⟨rfl, hw'⟩
      simp only [Act.put, List.setIfInBounds_toArray, List.set_cons_succ, List.set_cons_zero]
      apply wpS_val
      · decide
      · rfl
      · intro bb w' hw'
        go_simp
        first | exact rfl | exact ⟨rfl, hw'⟩
      simp only [Act.put, List.setIfInBounds_toArray, List.set_cons_succ, List.set_cons_zero]
      apply wpS_val
      · decide
      · rfl
      · intro bb w' hw'
        go_simp
        first | exact rfl | exact ⟨rfl, hw'⟩
      simp only [Act.put, List.setIfInBounds_toArray, List.set_cons_succ, List.set_cons_zero]
      apply wpS_val
      · decide
      · rfl
      · intro bb w' hw'
        go_simp
        first | exact rfl | exact ⟨rfl, hw'⟩
      simp only [Act.put, List.setIfInBounds_toArray, List.set_cons_succ, List.set_cons_zero]
      apply wpS_val
      · decide
      · rfl
      · intro bb w' hw'
        have hcell : _ := hw'.cell hbr C0.out
        go_simp
        first | exact rfl | exact ⟨rfl, hw'⟩
      simp only [Act.put, List.setIfInBounds_toArray, List.set_cons_succ, List.set_cons_zero]
      apply wpS_val
      · decide
      · rfl
      · intro bb w' hw'
        go_simp
        first | exact rfl | exact ⟨rfl, hw'⟩
      simp only [Act.put, List.setIfInBounds_toArray, List.set_cons_succ, List.set_cons_zero]
      apply wpS_val
      · decide
      · rfl
      · intro bb w' hw'
        go_simp
        first | exact rfl | exact ⟨rfl, hw'⟩
      simp only [Act.put, List.setIfInBounds_toArray, List.set_cons_succ, List.set_cons_zero]
      apply wpS_val
      · decide
      · rfl
      · intro bb w' hw'
        go_simp
        first | exact rfl | exact ⟨rfl, hw'⟩
      simp only [Act.put, List.setIfInBounds_toArray, List.set_cons_succ, List.set_cons_zero]
      apply wpS_put
      · rfl
      · rfl
      · intro w' hw'
        have hw2 : Drew wr w' := hw'
        have hz := hw2.heap
        go_simp
        exact ⟨rfl, w', hw2, rfl⟩
      simp only [Act.put, List.setIfInBounds_toArray, List.set_cons_succ, List.set_cons_zero]
      refine wpS_nil fun w8 hw8 => ?_
      obtain ⟨w7, h7, rfl⟩ := hw8
      have hz7 : wr.heap.size = w7.heap.size := by rw [h7.heap]
      have o7 := ho.out.heap h7.heap
      have O7 := hid (show OwnP (w7.alloc (.cells #[.slice A' M c] 22)) w.heap.size _ cs from World.ownsRow.alloc o7 _)
      have b7 := hid (h7.below hb.out)
      have bl := hid (show Blk (w7.alloc (.cells #[.slice A' M c] 22)) wr.heap.size 22 #[.slice A' M c] by rw [hz7]; exact Blk.top rfl rfl)
      have HZ7 := hid hz7
      have HSW := hid hb.out.size
      clear h7 hz7 o7 hbr C0 e1 hcm
      go_wp2_with (at_builtin; (with_reducible apply wappP); rfl; rfl; exact O7.out; exact bl.out; omega; (have := HZ7.out; have := HSW.out; simp; omega); intro v9 w9 o9 g9)
      have b9 := (b7.out.alloc (by have := HZ7.out; have := HSW.out; omega) (.cells #[.slice A' M c] 22)).grown g9 (by have := HZ7.out; have := HSW.out; simp; omega) fun g h => (World.ownsRow.lt ho.out g h).1
      go_roundw
      case rel => exact ⟨i + 1, v9, _, by omega, by omega, by go_num, rfl, by rw [List.length_append, hcs]; rfl, hid o9, HP2, hid b9⟩
      case measure => simp [intOf]; omega
    · have HB := hid hb.out
      have hlen : (lsOf ls).length = cs.length := by rw [lsOf_length, HL.out, hcs]; omega
      obtain ⟨Al, cl, rfl, hP⟩ := ho.out.parts hp.out hlen hb.out
      rw [hcs] at *
      have HP := hid hP
      have HLEN := hid hlen
      have HLO := hid (lsOf_256 HLS.out)
      have HFL := hid (lsOf_flat ls)
      have tg : ((i : Int) < n) = False ∨ ((i : Int) < 20) = False := by
        by_cases h : i < n
        · right; simp; omega
        · left; simp; omega
      clear hP hlen ho hp hb
      have hk2 := HK.out.on HB.out
      by_cases h : i < n
      · have t1 : (i : Int) < n := by omega
        have t2 : decide ((i : Int) < 20) = false := by simp; omega
        clear tg hgo
        go_wp2_with fail
        refine (parts_any K key' kn' kcap hk2.len hk2.cap hk2.max (by omega) hk2.b256 Al (lsOf ls) i cl HLEN.out (by omega) HLO.out (by have := HFL.out; omega) wr hk2.byt HP.out.prts (SA.out.on HB.out)).mono ?_
        rintro e w5 ⟨rfl, h5⟩
        have HB5 := hid (HB.out.trans (h5.mono HB.out.size))
        have HP5 := hid ((HP.out.below h5 (Nat.le_refl _)).more h5.size)
        have hk5 := hk2.on h5
        obtain ⟨T, hT⟩ : ∃ T, T = HmM.tag key' (flat (lsOf ls)) := ⟨_, rfl⟩
        rw [← hT]
        have HT := hid hT
        clear h5 hT hk2 HB HP
        clear wr
        go_wp2_with fail
        refine (rparts_any K key' kn' kcap (by omega) Al (lsOf ls) i cl HLEN.out (by omega) HLO.out (by have := HFL.out; omega) w5 hk5 HP5.out).mono ?_
        rintro e w6 ⟨rfl, h6⟩
        rw [← HT.out]
        have HB6 := hid (HB5.out.trans (h6.mono HB5.out.size))
        have he := fun w => eq_tag_self T w
        have he2 := eqg_tag
        clear h6 hk5 HB5 HP5
        clear w5
        go_wp2_with fail
        refine (works_any w6 (SA.out.on HB6.out)).mono ?_
        rintro e w7 ⟨rfl, h7⟩
        have b7 := HB6.out.trans (h7.mono HB6.out.size)
        clear h7 he he2
        go_wp2_with fail
        go_ret
        exact ⟨rfl, b7⟩
      · have t1 : decide ((i : Int) < n) = false := by simp; omega
        clear tg hgo
        go_wp2_with fail
        refine (parts_any K key' kn' kcap hk2.len hk2.cap hk2.max (by omega) hk2.b256 Al (lsOf ls) i cl HLEN.out (by omega) HLO.out (by have := HFL.out; omega) wr hk2.byt HP.out.prts (SA.out.on HB.out)).mono ?_
        rintro e w5 ⟨rfl, h5⟩
        have HB5 := hid (HB.out.trans (h5.mono HB.out.size))
        have HP5 := hid ((HP.out.below h5 (Nat.le_refl _)).more h5.size)
        have hk5 := hk2.on h5
        obtain ⟨T, hT⟩ : ∃ T, T = HmM.tag key' (flat (lsOf ls)) := ⟨_, rfl⟩
        rw [← hT]
        have HT := hid hT
        clear h5 hT hk2 HB HP
        clear wr
        go_wp2_with fail
        refine (rparts_any K key' kn' kcap (by omega) Al (lsOf ls) i cl HLEN.out (by omega) HLO.out (by have := HFL.out; omega) w5 hk5 HP5.out).mono ?_
        rintro e w6 ⟨rfl, h6⟩
        rw [← HT.out]
        have HB6 := hid (HB5.out.trans (h6.mono HB5.out.size))
        have he := fun w => eq_tag_self T w
        have he2 := eqg_tag
        clear h6 hk5 HB5 HP5
        clear w5
        go_wp2_with fail
        refine (works_any w6 (SA.out.on HB6.out)).mono ?_
        rintro e w7 ⟨rfl, h7⟩
        have b7 := HB6.out.trans (h7.mono HB6.out.size)
        clear h7 he he2
        go_wp2_with fail
        go_ret
        exact ⟨rfl, b7⟩
end Go.Proofs.YtfgmgfniolmpkaaDoor
