/-
  What comes in as a row's domain and parts; contract of (casematelaw06.Parted).parts.
-/
import Derived.Test.YtiebaiofpihoiaaByW2
namespace Go.Proofs.Ytiebaiofpihoiaa
open Go.ChangeShapes Go.WideShapes Go.ChangeAt Go.RowKit Go.Deep
attribute [local go_sem] Gives
theorem cells_pted : Try.prog.cellsOf 60 = 2 := by kernel_rfl
section
variable {H : Type} {enc : TypeId × Value → H} {w : World} {base : Nat} {spare : Nat → Bool} {held : Bool}
theorem open_parted {r : Reach} {b0 : Nat} {v : Value} {d : DataW H} {p : List MemPlace} (hv : Value.okWide Try.prog w r b0 60 v) (h : DataW.Trod enc Try.prog w base spare held 60 v d p) :
    ∃ (x : Nat) (A : Option Addr) (ls : List (List Nat)) (n cap : Nat), v = .agg #[.int .u8 x, .slice A n cap] ∧ x < 256 ∧ Rws w A ls n cap := by
  obtain ⟨c0, c1, y0, y1, m, rfl, rfl, rfl, hy0, hy1⟩ := Joins.open_agg2 Try.underlying60 (by kernel_rfl) cells_pted hv h
  obtain ⟨x, e0, rfl, w0⟩ := DataW.trod_int Try.underlying5 hy0
  obtain ⟨k, rfl, hk⟩ := u8_wf w0
  simp only [List.cons.injEq, and_true] at e0
  subst e0
  rcases open_slice Try.underlying36 hy1 with ⟨hcs, _⟩ | ⟨a, n, cap, m', fu, D, Pl, hcs, hb, hl, hm, hmm, hx, hi⟩
  · simp only [List.cons.injEq, and_true] at hcs
    subst hcs
    exact ⟨k, none, [], 0, 0, rfl, hk, Rws.nil⟩
  · simp only [List.cons.injEq, and_true] at hcs
    subst hcs
    have hnm : n ≤ m' := by rw [hmm]; split <;> omega
    have one : ∀ i, i < n → ∃ y : List Nat, B256 y ∧ ∃ (A' : Option Addr) (c : Nat), w.cell? (a.add i) = some (.slice A' y.length c) ∧ y.length ≤ c ∧ c ≤ maxLen ∧ Byt w w.heap.size A' y ∧ (A' = none → y.length = 0 ∧ c = 0) := fun i hin => by
      obtain ⟨cs', hc, ht⟩ := hi i (by omega)
      obtain ⟨A', y, c, e, h1, h2, h3, h4, h5⟩ := trod_byts ht
      subst e
      have h6 := (World.cells?_some hc).2.2 0 (by rw [cells_sl]; omega)
      rw [Go.Deep.add_add, cells_sl, Nat.mul_one, Nat.add_zero] at h6
      exact ⟨y, h3, A', c, h6, h1, h2, h4, h5⟩
    obtain ⟨F, hF⟩ := choose_lt one
    have hg : ∀ i, i < n → (((List.range n).map F).getD i []) = F i := fun i hi => by
      rw [List.getD_eq_getElem?_getD, List.getElem?_map, List.getElem?_range hi]; rfl
    refine ⟨k, some a, (List.range n).map F, n, cap, rfl, hk, by simp, hl, hm, fun l hl2 => ?_, (fun h => by cases h), fun hn => ?_⟩
    · obtain ⟨i, hi2, rfl⟩ := List.mem_map.1 hl2
      exact (hF i (List.mem_range.1 hi2)).1
    · have hn' : 0 < n := by simpa using hn
      obtain ⟨_, A0, c0, h0, _⟩ := hF 0 hn'
      have hsp : a.spot = none := by
        simp only [Addr.add, if_true] at h0
        unfold World.cell? at h0
        split at h0
        · cases hs : a.spot with
          | none => rfl
          | some s => simp [hs] at h0
        · cases h0
      have hblk : a.block < w.heap.size := by
        have := World.block_lt_of_cell? w _ h0
        simpa [Addr.add] using this
      obtain ⟨b, o, sp⟩ := a
      subst hsp
      refine ⟨b, o, rfl, hblk, fun i hi2 => ?_⟩
      have hin : i < n := by simpa using hi2
      obtain ⟨_, A', c, h1, h2, h3, h4, h5⟩ := hF i hin
      rw [Addr.add_mid] at h1
      rw [hg i hin]
      exact ⟨A', c, h1, h2, h3, h4, h5⟩
end
set_option maxHeartbeats 800000 in
set_option maxRecDepth 100000 in
theorem lparts_any (d : Nat) (A : Option Addr) (ls : List (List Nat)) (n cap : Nat) (w : World) (hA0 : Rws w A ls n cap) :
    Calls Try.prog 33 #[.agg #[.int .u8 d, .slice A n cap]] w fun e w' => ∃ A' c', e = .returned (.slice A' (lsN 16 300 ls).length c') ∧ Rws w' A' (lsN 16 300 ls) (lsN 16 300 ls).length c' ∧ Below w.heap.size w w' := by
  have hcm := hA0.max
  have hnc := hA0.cap
  unfold maxLen at hcm
  have hn6 : n ≤ 9223372036854775807 := by omega
  have HA0 := hid hA0
  obtain ⟨ls2, h2⟩ : ∃ x, x = lsN 16 300 ls := ⟨_, rfl⟩
  rw [← h2]
  have LS2 := hid h2
  clear hcm hnc hA0 h2
  go_enter Try.func33, Try.ntmps33
  go_upto_region 1 with fail
  generalize hw1 : World.alloc w _ = w1
  obtain ⟨g, hg⟩ : ∃ g, g = w.heap.size := ⟨_, rfl⟩
  have b1 : Blk w1 g 60 #[.int .u8 d, .slice A n cap] := by rw [← hw1, hg]; exact Blk.top rfl rfl
  have BW := hid (show Below w.heap.size w w1 by rw [← hw1]; exact (Below.refl _ _).alloc (Nat.le_refl _) _)
  have HA := hid (HA0.out.on BW.out)
  have G1 := hid (show w1.cell? ⟨g, 1, none⟩ = some (.slice A n cap) from b1.cell 1)
  have HG := hid b1.lt
  rw [← hg]
  clear hw1 b1 hg
  go_wp2_with fail
  go_loopw [3, 4] (fun u v wr => ∃ (i : Nat) (vs : Value) (cs : List Value), i ≤ n ∧ i ≤ 16 ∧ v = .int .i64 i ∧ u = vs ∧ cs.length = i ∧ Hid (OwnP wr w1.heap.size vs cs) ∧ Hid (PCell w1 (lsN 16 300 ls) cs) ∧ Hid (Below w1.heap.size w1 wr)) (fun _ v _ => n - (intOf v).toNat)
  case atStart => exact ⟨0, _, [], by omega, by omega, rfl, rfl, rfl, hid (OwnP.nil _ _), hid (fun j hj => by cases hj), hid (Below.refl _ _)⟩
  case round =>
    obtain ⟨i, vs, cs, hi, hi2, rfl, rfl, hcs, ho, hp, hb⟩ := hrel
    by_cases hgo : i < n ∧ i < 16
    · obtain ⟨hlt, h16⟩ := hgo
      have ti : (i : Int) < n := by omega
      have ti2 : (i : Int) < 16 := by omega
      obtain ⟨b, o, A', c, rfl, hbl, c0, a0⟩ := HA.out.part hlt
      have C0 := hid ((hb.out.cell (p := ⟨b, o + i, none⟩) hbl).trans c0)
      have c1 := (hb.out.cell (p := ⟨g, 1, none⟩) HG.out).trans G1.out
      have C1 := hid c1
      have HBG := hid (Nat.lt_of_lt_of_le HG.out hb.out.size)
      have hget := lsN_get 16 300 ls (by rw [HA.out.len]; exact hlt) h16
      obtain ⟨M, hM⟩ : ∃ M, M = min (ls.getD i []).length 300 := ⟨_, rfl⟩
      have h1 := a0.cap
      have h2 := a0.max
      have HP2 := hid (PCell.snoc (A' := A') (M := M) (c := c) hp.out (by rw [hcs, hget, List.length_take, hM]; omega) (by omega) h2 (by rw [hcs, hget]; exact a0.byt.take 300) (fun e => by have := a0.none e; omega))
      have hMc : M ≤ c := by omega
      have hcm := h2
      have hbr : b < wr.heap.size := Nat.lt_of_lt_of_le hbl hb.out.size
      generalize (ls.getD i []).length = L at *
      have e1 : (if (300 : Int) < (L : Int) then (300 : Int) else (L : Int)) = (M : Int) := by split <;> omega
      clear c0 h1 h2 hget hM a0
      go_wp2_with fail
      refine wp_region_put (C := Put wr (.cells #[.slice A' M c] 22)) 14 15 (by omega) (by kernel_rfl) (by kernel_rfl) (by kernel_rfl) (Drew.refl _) ?_
      simp only [List.take_succ_cons, List.take_zero, List.drop_succ_cons, List.drop_zero]
      apply wpS_val
      · decide
      · rfl
      · intro bb w' hw'
        go_simp
        first | exact rfl | exact ⟨rfl, hw'⟩
      simp only [Act.put, List.setIfInBounds_toArray, List.set_cons_succ, List.set_cons_zero]
      apply wpS_val
      · decide
      · rfl
      · intro bb w' hw'
        go_simp
        first | exact rfl | exact ⟨rfl, hw'⟩
      simp only [Act.put, List.setIfInBounds_toArray, List.set_cons_succ, List.set_cons_zero]
      apply wpS_val
      · decide
      · rfl
      · intro bb w' hw'
        have hcell : _ := hw'.cell HBG.out C1.out
        go_simp
        first | exact rfl | exact ⟨rfl, hw'⟩
      simp only [Act.put, List.setIfInBounds_toArray, List.set_cons_succ, List.set_cons_zero]
      apply wpS_val
      · decide
      · rfl
      · intro bb w' hw'
        go_simp
        first | exact rfl | exact ⟨rfl, hw'⟩
      simp only [Act.put, List.setIfInBounds_toArray, List.set_cons_succ, List.set_cons_zero]
      apply wpS_val
      · decide
      · rfl
      · intro bb w' hw'
        go_simp
        first | exact rfl | exact ⟨rfl, hw'⟩
      simp only [Act.put, List.setIfInBounds_toArray, List.set_cons_succ, List.set_cons_zero]
      apply wpS_val
      · decide
      · rfl
      · intro bb w' hw'
        have hcell : _ := hw'.cell hbr C0.out
        go_simp
        first | exact rfl | exact ⟨rfl, hw'⟩
      simp only [Act.put, List.setIfInBounds_toArray, List.set_cons_succ, List.set_cons_zero]
      apply wpS_val
      · decide
      · rfl
      · intro bb w' hw'
        go_simp
        first | exact rfl | exact ⟨rfl, hw'⟩
      simp only [Act.put, List.setIfInBounds_toArray, List.set_cons_succ, List.set_cons_zero]
      apply wpS_val
      · decide
      · rfl
      · intro bb w' hw'
        have hcell : _ := hw'.cell HBG.out C1.out
        go_simp
        first | exact rfl | exact ⟨rfl, hw'⟩
      simp only [Act.put, List.setIfInBounds_toArray, List.set_cons_succ, List.set_cons_zero]
      apply wpS_val
      · decide
      · rfl
      · intro bb w' hw'
        go_simp
        first | exact rfl | exact ⟨rfl, hw'⟩
      simp only [Act.put, List.setIfInBounds_toArray, List.set_cons_succ, List.set_cons_zero]
      apply wpS_val
      · decide
      · rfl
      · intro bb w' hw'
        go_simp
        first | exact rfl | exact ⟨rfl, hw'⟩
      simp only [Act.put, List.setIfInBounds_toArray, List.set_cons_succ, List.set_cons_zero]
      apply wpS_val
      · decide
      · rfl
      · intro bb w' hw'
        have hcell : _ := hw'.cell hbr C0.out
        go_simp
        first | exact rfl | exact ⟨rfl, hw'⟩
      simp only [Act.put, List.setIfInBounds_toArray, List.set_cons_succ, List.set_cons_zero]
      apply wpS_val
      · decide
      · rfl
      · intro bb w' hw'
        go_simp
        first | exact rfl | exact ⟨rfl, hw'⟩
      simp only [Act.put, List.setIfInBounds_toArray, List.set_cons_succ, List.set_cons_zero]
      apply wpS_val
      · decide
      · rfl
      · intro bb w' hw'
        go_simp
        first | exact rfl | exact ⟨rfl, hw'⟩
      simp only [Act.put, List.setIfInBounds_toArray, List.set_cons_succ, List.set_cons_zero]
      apply wpS_val
      · decide
      · rfl
      · intro bb w' hw'
        go_simp
        first | exact rfl | exact ⟨rfl, hw'⟩
      simp only [Act.put, List.setIfInBounds_toArray, List.set_cons_succ, List.set_cons_zero]
      apply wpS_put
      · rfl
      · rfl
      · intro w' hw'
        have hw2 : Drew wr w' := hw'
        have hz := hw2.heap
        go_simp
        exact ⟨rfl, w', hw2, rfl⟩
      simp only [Act.put, List.setIfInBounds_toArray, List.set_cons_succ, List.set_cons_zero]
      refine wpS_nil fun w8 hw8 => ?_
      obtain ⟨w7, h7, rfl⟩ := hw8
      have hz7 : wr.heap.size = w7.heap.size := by rw [h7.heap]
      have o7 := ho.out.heap h7.heap
      have O7 := hid (show OwnP (w7.alloc (.cells #[.slice A' M c] 22)) w1.heap.size _ cs from World.ownsRow.alloc o7 _)
      have b7 := hid (h7.below hb.out)
      have bl := hid (show Blk (w7.alloc (.cells #[.slice A' M c] 22)) wr.heap.size 22 #[.slice A' M c] by rw [hz7]; exact Blk.top rfl rfl)
      have HZ7 := hid hz7
      have HSW := hid hb.out.size
      clear h7 hz7 o7 hbr C0 e1 hcm
      go_wp2_with (at_builtin; (with_reducible apply wappP); rfl; rfl; exact O7.out; exact bl.out; omega; (have := HZ7.out; have := HSW.out; simp; omega); intro v9 w9 o9 g9)
      have b9 := (b7.out.alloc (by have := HZ7.out; have := HSW.out; omega) (.cells #[.slice A' M c] 22)).grown g9 (by have := HZ7.out; have := HSW.out; simp; omega) fun g h => (World.ownsRow.lt ho.out g h).1
      go_roundw
      case rel => exact ⟨i + 1, v9, _, by omega, by omega, by go_num, rfl, by rw [List.length_append, hcs]; rfl, hid o9, HP2, hid b9⟩
      case measure => simp [intOf]; omega
    · have hlen : (lsN 16 300 ls).length = cs.length := by rw [lsN_length, HA.out.len, hcs]; omega
      obtain ⟨Al, cl, eP, hP⟩ := ho.out.rwsP hp.out hlen hb.out (lsN_256 16 300 HA.out.b256)
      rw [← LS2.out] at eP hP
      subst eP
      have c1 := (hb.out.cell (p := ⟨g, 1, none⟩) HG.out).trans G1.out
      have HP := hid hP
      have HB := hid (BW.out.trans (hb.out.mono BW.out.size))
      have tg : ((i : Int) < n) = False ∨ ((i : Int) < 16) = False := by
        by_cases h : i < n
        · right; simp; omega
        · left; simp; omega
      clear hP hlen ho hp hb
      by_cases h : i < n
      · have t1 : (i : Int) < n := by omega
        have t2 : decide ((i : Int) < 16) = false := by simp; omega
        clear tg hgo
        go_wp2_with fail
        go_ret
        exact ⟨Al, cl, rfl, HP.out, HB.out⟩
      · have t1 : decide ((i : Int) < n) = false := by simp; omega
        clear tg hgo
        go_wp2_with fail
        go_ret
        exact ⟨Al, cl, rfl, HP.out, HB.out⟩
end Go.Proofs.Ytiebaiofpihoiaa
