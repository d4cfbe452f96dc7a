/-
  The document's own Of and Text (casemateref03) over this translation: they answer what sha's do.
-/
import Derived.Test.YtogfmibdbckebaaDoorShaBack
import Derived.Laws.IdiomStrings
namespace Go.Proofs.YtogfmibdbckebaaDoor
open Go.ChangeShapes Go.WideShapes Go.ChangeAt Go.RowKit
attribute [local go_sem] Gives
theorem dval_lo : ∀ c : Fin 256, 48 ≤ c.val → c.val ≤ 57 → dval c.val = ((c.val - 48 : Nat) : Int) := by decide +kernel
theorem dval_hi : ∀ c : Fin 256, 97 ≤ c.val → c.val ≤ 102 → dval c.val = ((c.val - 87 : Nat) : Int) := by decide +kernel
theorem dval_not : ∀ c : Fin 256, ¬ (48 ≤ c.val ∧ c.val ≤ 57) → ¬ (97 ≤ c.val ∧ c.val ≤ 102) → dval c.val = -1 := by decide +kernel
/-- The bytes behind i digits. -/
def rt (s : ByteArray) (i : Nat) : Nat → Nat := fun j => if 2 * j + 1 < i then ofT s j else if 2 * j + 1 = i then dn s (2 * j) else 0
theorem rt_zero (s : ByteArray) : rt s 0 = fun _ => 0 := funext fun j => by unfold rt; rw [if_neg (by omega), if_neg (by omega)]
theorem rt_step (s : ByteArray) (i : Nat) : (fun j => if j = i / 2 then 16 * rt s i (i / 2) + dn s i else rt s i j) = rt s (i + 1) := funext fun j => by
  unfold rt
  by_cases h : j = i / 2
  · rw [if_pos h, if_neg (show ¬ 2 * (i / 2) + 1 < i by omega)]
    rcases Nat.mod_two_eq_zero_or_one i with h2 | h2
    · rw [if_neg (by omega), if_neg (by omega), if_pos (by omega), show 2 * j = i by omega, Nat.mul_zero, Nat.zero_add]
    · rw [if_pos (by omega), if_pos (by omega)]
      unfold ofT
      rw [show 2 * j = 2 * (i / 2) by omega, show 2 * (i / 2) + 1 = i by omega, Nat.mul_comm]
  · rw [if_neg h]
    by_cases h1 : 2 * j + 1 < i
    · rw [if_pos h1, if_pos (by omega)]
    · rw [if_neg h1, if_neg (by omega), if_neg (by omega), if_neg (by omega)]
theorem rt_full (s : ByteArray) : tag (rt s 64) = tag (ofT s) := tag_ext fun k hk => by unfold rt; rw [if_pos (by omega)]
theorem rt_lt (s : ByteArray) (hd : ∀ j, dn s j < 16) (i : Nat) : rt s i (i / 2) < 16 := by
  unfold rt
  rw [if_neg (by omega)]
  split
  · exact hd _
  · omega
theorem dn_lt (s : ByteArray) (j : Nat) : dn s j < 16 := by
  unfold dn
  rcases dval_ch s j with h | ⟨_, h, _⟩ <;> omega
set_option maxHeartbeats 400000 in
set_option maxRecDepth 100000 in
theorem rof_len (s : ByteArray) (hs : s.size ≠ 64) (w : World) :
    Calls Tryd.prog 17 #[.string s] w fun e w' => e = .returned (.tuple #[.agg (tag fun _ => 0), .bool false]) ∧ Below w.heap.size w w' := by
  have t0 : ((s.size : Int) != 64) = true := by rw [bne_iff_ne]; omega
  go_enter Tryd.func17, Tryd.ntmps17
  go_upto_region 2 with fail
  generalize hw3 : World.alloc (World.alloc w _) _ = w3
  have b1 : Blk w3 w.heap.size 34 (tag fun _ => 0) := by rw [← hw3]; exact (Blk.top zlit_tag rfl).alloc _
  have b2 : Blk w3 (w.heap.size + 1) 34 (tag fun _ => 0) := by rw [← hw3]; exact Blk.top zlit_tag (by simp)
  have hb : Below w.heap.size w w3 := by rw [← hw3]; exact ((Below.refl _ _).alloc (Nat.le_refl _) _).alloc (by simp) _
  clear hw3
  go_wp2_with (first | ((with_reducible apply ldt); rfl; exact b2) | ((with_reducible apply stt); rfl; rfl; exact b1))
  apply ret_tag2 Tryd.results17
  · rfl
  · rfl
  · rfl
  · exact b1.setRow_same _
  exact ⟨rfl, below_setRow hb (Nat.le_refl _) _⟩
set_option maxHeartbeats 400000 in
set_option maxRecDepth 100000 in
theorem rof_any (s : ByteArray) (hs : s.size = 64) (w : World) : Calls Tryd.prog 17 #[.string s] w (OfPost s w) := by
  have t0 : ((s.size : Int) != 64) = false := by rw [bne_eq_false_iff_eq]; omega
  have HS := hid hs
  clear hs
  go_enter Tryd.func17, Tryd.ntmps17
  go_upto_region 2 with fail
  generalize hw3 : World.alloc (World.alloc w _) _ = w3
  have c1 : Blk w3 w.heap.size 34 (tag fun _ => 0) := by rw [← hw3]; exact (Blk.top zlit_tag rfl).alloc _
  have c2 : Blk w3 (w.heap.size + 1) 34 (tag (rt s 0)) := by rw [← hw3, rt_zero]; exact Blk.top zlit_tag (by simp)
  have cb : Below w.heap.size w w3 := by rw [← hw3]; exact ((Below.refl _ _).alloc (Nat.le_refl _) _).alloc (by simp) _
  clear hw3
  go_wp2_with fail
  go_loopw [5] (fun i wr => ∃ k : Nat, k ≤ 64 ∧ i = .int .i64 k ∧ Hid (∀ j, j < k → 0 ≤ dval (ch s j)) ∧ Blk wr w.heap.size 34 (tag fun _ => 0) ∧ Blk wr (w.heap.size + 1) 34 (tag (rt s k)) ∧ Below w.heap.size w wr) (fun i _ => 64 - (intOf i).toNat)
  case atStart => exact ⟨0, by omega, rfl, hid fun j hj => by omega, c1, c2, cb⟩
  case round =>
    clear c1 c2 cb
    obtain ⟨k, hk, rfl, hall, c1, c2, cb⟩ := hrel
    by_cases hlk : k < 64
    · have tk : (k : Int) < 64 := by omega
      have hi := fun w => run_idxs s (show k < s.size by have := HS.out; omega) w
      obtain ⟨c, hc⟩ : ∃ c, c = ch s k := ⟨_, rfl⟩
      rw [← hc] at hi
      have hc256 : c < 256 := by rw [hc]; exact ch_lt s k
      have HC := hid hc
      clear hc
      by_cases hd : (48 ≤ c ∧ c ≤ 57) ∨ (97 ≤ c ∧ c ≤ 102)
      · obtain ⟨d, hd1, hd2⟩ : ∃ d : Nat, dval c = d ∧ ((48 ≤ c ∧ c ≤ 57 ∧ d + 48 = c) ∨ (97 ≤ c ∧ c ≤ 102 ∧ d + 87 = c)) := by
          rcases hd with ⟨p, q⟩ | ⟨p, q⟩
          · exact ⟨c - 48, dval_lo ⟨c, hc256⟩ p q, .inl ⟨p, q, by omega⟩⟩
          · exact ⟨c - 87, dval_hi ⟨c, hc256⟩ p q, .inr ⟨p, q, by omega⟩⟩
        have hd16 : d < 16 := by omega
        have HD := hid hd1
        clear hd1 hd
        have hr := rt_lt s (dn_lt s) k
        have e5 : ((k / 2 : Nat) : Int) < 32 := by omega
        have hk2 : k / 2 < 32 := by omega
        have k1 := (c2.cell (k / 2)).trans (get_tag hk2)
        have k3 := c2.frozen (k / 2)
        generalize hR : rt s k (k / 2) = r at *
        have HR := hid hR
        clear hR
        have C1 := hid c1
        have C2 := hid c2
        have CB := hid cb
        clear c1 c2 cb
        have t99 : ((d : Int) == 99) = false := by rw [beq_eq_false_iff_ne]; omega
        have close : ∀ wr', wr' = wr.setCell ⟨w.heap.size + 1, k / 2, none⟩ (.int .u8 (16 * (r : Int) + d)) →
            Hid (∀ j, j < k + 1 → 0 ≤ dval (ch s j)) ∧ Blk wr' w.heap.size 34 (tag fun _ => 0) ∧ Blk wr' (w.heap.size + 1) 34 (tag (rt s (k + 1))) ∧ Below w.heap.size w wr' := by
          rintro wr' rfl
          refine ⟨hid fun j hj => ?_, C1.out.setCell_other (by show w.heap.size + 1 ≠ w.heap.size; omega) _, ?_, CB.out.setCell (by show w.heap.size ≤ w.heap.size + 1; omega) _⟩
          · by_cases h1 : j < k
            · exact hall.out j h1
            · rw [show j = k by omega, ← HC.out, HD.out]; omega
          · have h := C2.out.setCell_same (k / 2) (.int .u8 ((16 * r + d : Nat) : Int))
            rw [tag_set] at h
            have e : dn s k = d := by unfold dn; rw [← HC.out, HD.out]; rfl
            rw [← HR.out, ← e, rt_step, e, HR.out] at h
            rw [show (16 * (r : Int) + d) = ((16 * r + d : Nat) : Int) by simp]
            exact h
        have CL := hid close
        clear close
        rcases hd2 with ⟨p, q, e⟩ | ⟨p, q, e⟩
        · have p' : (48 : Int) ≤ (c : Int) := by omega
          have q' : (c : Int) ≤ 57 := by omega
          have u1 : decide ((97 : Int) ≤ (c : Int)) = false := by simp; omega
          have e' : (c : Int) - 48 = (d : Int) := by omega
          clear e
          go_wp2_with fail
          go_roundw
          case rel =>
            obtain ⟨z1, z2, z3, z4⟩ := CL.out _ rfl
            exact ⟨k + 1, by omega, by go_num, z1, z2, z3, z4⟩
          case measure => simp [intOf]; omega
        · have p' : (97 : Int) ≤ (c : Int) := by omega
          have q' : (c : Int) ≤ 102 := by omega
          have u0 : decide ((48 : Int) ≤ (c : Int)) = true := by simp; omega
          have u1 : decide ((c : Int) ≤ 57) = false := by simp; omega
          have e' : (c : Int) - 97 + 10 = (d : Int) := by omega
          clear e
          go_wp2_with fail
          go_roundw
          case rel =>
            obtain ⟨z1, z2, z3, z4⟩ := CL.out _ rfl
            exact ⟨k + 1, by omega, by go_num, z1, z2, z3, z4⟩
          case measure => simp [intOf]; omega
      · have hbad : dval (ch s k) = -1 := by rw [← HC.out]; exact dval_not ⟨c, hc256⟩ (fun h => hd (.inl h)) (fun h => hd (.inr h))
        have BAD : RowKit.Hid (∃ j, j < 64 ∧ dval (ch s j) = -1) := hid ⟨k, hlk, hbad⟩
        clear hbad
        have h3 : c < 48 ∨ (57 < c ∧ c < 97) ∨ 102 < c := by omega
        clear hd
        rcases h3 with p | ⟨p, q⟩ | p
        · have u0 : decide ((48 : Int) ≤ (c : Int)) = false := by simp; omega
          have u1 : decide ((97 : Int) ≤ (c : Int)) = false := by simp; omega
          go_wp2_with (first | ((with_reducible apply bldt0)) | ((with_reducible apply stt); rfl; rfl; exact c1))
          apply ret_tag2 Tryd.results17
          · rfl
          · rfl
          · rfl
          · exact c1.setRow_same _
          exact ⟨below_setRow cb (Nat.le_refl _) _, .inr ⟨rfl, BAD.out⟩⟩
        · have u0 : decide ((48 : Int) ≤ (c : Int)) = true := by simp; omega
          have u2 : decide ((c : Int) ≤ 57) = false := by simp; omega
          have u1 : decide ((97 : Int) ≤ (c : Int)) = false := by simp; omega
          go_wp2_with (first | ((with_reducible apply bldt0)) | ((with_reducible apply stt); rfl; rfl; exact c1))
          apply ret_tag2 Tryd.results17
          · rfl
          · rfl
          · rfl
          · exact c1.setRow_same _
          exact ⟨below_setRow cb (Nat.le_refl _) _, .inr ⟨rfl, BAD.out⟩⟩
        · have u0 : decide ((48 : Int) ≤ (c : Int)) = true := by simp; omega
          have u2 : decide ((c : Int) ≤ 57) = false := by simp; omega
          have u1 : decide ((97 : Int) ≤ (c : Int)) = true := by simp; omega
          have u3 : decide ((c : Int) ≤ 102) = false := by simp; omega
          go_wp2_with (first | ((with_reducible apply bldt0)) | ((with_reducible apply stt); rfl; rfl; exact c1))
          apply ret_tag2 Tryd.results17
          · rfl
          · rfl
          · rfl
          · exact c1.setRow_same _
          exact ⟨below_setRow cb (Nat.le_refl _) _, .inr ⟨rfl, BAD.out⟩⟩
    · have tk : decide ((k : Int) < 64) = false := by simp; omega
      rw [show k = 64 by omega, rt_full] at c2
      have HA := hid (fun j (hj : j < 64) => hall.out j (by omega))
      clear hall
      go_wp2_with (first | ((with_reducible apply ldt); rfl; exact c2) | ((with_reducible apply stt); rfl; rfl; exact c1))
      apply ret_tag2 Tryd.results17
      · rfl
      · rfl
      · rfl
      · exact c1.setRow_same _
      exact ⟨below_setRow cb (Nat.le_refl _) _, .inl ⟨rfl, HA.out⟩⟩
theorem rof_hex (s : ByteArray) (h : isHex s = true) (w : World) :
    Calls Tryd.prog 17 #[.string s] w fun e w' => e = .returned (.tuple #[.agg (tag (ofT s)), .bool true]) ∧ Below w.heap.size w w' := by
  obtain ⟨h1, h2⟩ := isHex_yes h
  refine (rof_any s h1 w).mono fun e w' hp => ?_
  obtain ⟨hb, ⟨he, _⟩ | ⟨_, j, hj, hd⟩⟩ := hp
  · exact ⟨he, hb⟩
  · have := h2 j hj
    omega
theorem rof_nohex (s : ByteArray) (h : isHex s = false) (w : World) :
    Calls Tryd.prog 17 #[.string s] w fun e w' => e = .returned (.tuple #[.agg (tag fun _ => 0), .bool false]) ∧ Below w.heap.size w w' := by
  by_cases hs : s.size = 64
  · refine (rof_any s hs w).mono fun e w' hp => ?_
    obtain ⟨hb, ⟨_, ha⟩ | ⟨he, _⟩⟩ := hp
    · exact absurd ha (isHex_no h hs)
    · exact ⟨he, hb⟩
  · exact rof_len s hs w
/-! ### The document's Text -/
/-- The i-th digit of a text. -/
def hcd (f : Nat → Nat) (i : Nat) : Nat := if i % 2 = 1 then f (i / 2) % 16 else f (i / 2) / 16
def strN (f : Nat → Nat) (k : Nat) : ByteArray := ⟨((List.range k).map fun i => UInt8.ofNat (hexd (hcd f i))).toArray⟩
theorem strN_step (f : Nat → Nat) (k : Nat) : strN f k ++ ⟨#[UInt8.ofNat (hexd (hcd f k))]⟩ = strN f (k + 1) := by
  apply ByteArray.ext
  rw [ByteArray.data_append]
  unfold strN
  rw [List.range_succ, List.map_append]
  simp
theorem str_at (f : Nat → Nat) (j : Nat) : ((List.range 64).map fun i => UInt8.ofNat (hexd (hcd f i)))[j]? = (hexL f 32)[j]? := by
  by_cases hj : j < 64
  · have hg := hexL_get f 32 (j / 2) (by omega)
    rw [List.getElem?_map, List.getElem?_range hj, Option.map_some]
    unfold hcd
    rcases Nat.mod_two_eq_zero_or_one j with h2 | h2
    · rw [if_neg (by omega)]
      have := hg.1
      rw [show 2 * (j / 2) = j by omega] at this
      exact this.symm
    · rw [if_pos h2]
      have := hg.2
      rw [show 2 * (j / 2) + 1 = j by omega] at this
      exact this.symm
  · rw [List.getElem?_eq_none (by simp; omega), List.getElem?_eq_none (by rw [hexL_length]; omega)]
theorem strN_full (f : Nat → Nat) : strN f 64 = txt f := by
  have hl : (List.range 64).map (fun i => UInt8.ofNat (hexd (hcd f i))) = hexL f 32 := List.ext_getElem? (str_at f)
  unfold strN txt
  rw [hl]
end Go.Proofs.YtogfmibdbckebaaDoor
