/-
  Contract of hmac.Stretch over this translation.
-/
import Derived.Test.YtfgmgfniolmpkaaDoorHTag
import Derived.Test.YtfgmgfniolmpkaaDoorElts
import Derived.Test.YtfgmgfniolmpkaaDoorOwn2
import Derived.Laws.MakeOwn
import Derived.Test.YtfgmgfniolmpkaaDoorStr
namespace Go.Proofs.YtfgmgfniolmpkaaDoor
open Go.ChangeShapes Go.WideShapes Go.ChangeAt Go.RowKit
attribute [local go_sem] Gives
theorem bad_any (K : Option Addr) (kn kcap : Nat) (A : Option Addr) (n cap : Nat) (size : Int) (h : size < 0 ∨ 8160 < size) (w : World) :
    Calls Tryd.prog 16 #[.slice K kn kcap, .slice A n cap, .int .i64 size] w fun e w' => e = .returned (.tuple #[.slice none 0 0, .int .i64 2]) ∧ w = w' := by
  go_enter Tryd.func16, Tryd.ntmps16
  by_cases h1 : size < 0
  · have t1 : decide (size < 0) = true := decide_eq_true h1
    go_wp2_with fail
    go_ret2
    exact ⟨rfl, rfl⟩
  · have t1 : decide (size < 0) = false := decide_eq_false h1
    have t2 : decide ((8160 : Int) < size) = true := decide_eq_true (by omega)
    clear h
    go_wp2_with fail
    go_ret2
    exact ⟨rfl, rfl⟩
theorem ldky {ops : Array Oper} {Q : Exit → Act → World → Prop} {a : Act} {w : World} {rest : List Oper} {dst : Option Tmp} {ty : TypeId} {pos : String} {after : Array Edge} {x : Operand} {g : Nat} {f k : Nat → Nat} (hx : a.eval x = .pointer (some ⟨g, 0, none⟩)) (hb : Blk w g 52 (kyd f k)) (h : wpList Tryd.prog ops Q rest (a.put dst (.agg (kyd f k))) w) :
    wpList Tryd.prog ops Q (⟨dst, .load 52 x, ty, pos, after, none⟩ :: rest) a w :=
  step_load_row hb Tryd.underlying52 rfl (info_kyd.trans (by rw [size_kyd])) hx h
/-- An empty slice with room. -/
theorem mk0 {ops : Array Oper} {Q : Exit → Act → World → Prop} {a : Act} {w : World} {rest : List Oper} {dst : Option Tmp} {ty : TypeId} {pos : String} {after : Array Edge} {x y : Operand} {n : Nat} (hn : n ≤ 10000)
    (hx : a.eval x = .int .i64 0) (hy : a.eval y = .int .i64 (n : Int)) (h : ∀ v w', Own 5 .u8 w' w.heap.size v [] → Below w.heap.size w w' → wpList Tryd.prog ops Q rest (a.put dst v) w') :
    wpList Tryd.prog ops Q (⟨dst, .makeSlice 22 x y, ty, pos, after, none⟩ :: rest) a w := by
  obtain ⟨i, hi, hz, h1, h2⟩ := eltB.inf
  obtain ⟨w', hr, ho, hg⟩ := run_make_own (P := Tryd.prog) w w.heap.size 22 5 i (.int .u8 0) 1 eltB.und hi hz h1 .i64 .i64 n (Nat.le_trans (Nat.mul_le_mul h2 hn) (by omega)) (by unfold maxLen; omega) (Nat.le_refl _)
  refine wpList_plain rfl fun K hK => ?_
  unfold Oper.wp execOp
  simp only [Sem.run_bind, hx, hy, hr, Result.andThen_ok]
  exact hK _ _ (h _ w' ho (below_none (Below.refl _ _) hg (Nat.le_refl _)))
theorem flat3 (a b c : List Nat) : flat [a, b, c] = a ++ b ++ c := by simp [flat]
theorem chain_step (key l : List Nat) (j size : Nat) (h : 32 * j ≤ size) : (HmM.chain key l (j + 1)).take size = (HmM.chain key l j).take size ++ (HmM.link key l (j + 1)).take (size - 32 * j) := by
  rw [HmM.chain, List.take_append, HmM.chain_length]
theorem take_take32 (T : Nat → Nat) (m k : Nat) (h : m = min k 32) : (HmM.dl T).take k = (HmM.dl T).take m := by
  by_cases hk : k ≤ 32
  · rw [h, Nat.min_eq_left hk]
  · rw [h, Nat.min_eq_right (by omega), List.take_of_length_le (by rw [HmM.dl_length]; omega), List.take_of_length_le (by rw [HmM.dl_length]; omega)]
set_option maxHeartbeats 2000000 in
set_option maxRecDepth 100000 in
theorem hstretch_any (K : Option Addr) (key : List Nat) (kn kcap : Nat) (A : Option Addr) (l : List Nat) (n cap size : Nat) (hkn : kn ≤ 100000) (hn : n ≤ 100000) (hs : size ≤ 8160) (w : World) (hK : Arg w K key kn kcap) (hA : Arg w A l n cap) (hS : Salts w) :
    Calls Tryd.prog 16 #[.slice K kn kcap, .slice A n cap, .int .i64 size] w fun e w' => ∃ Ar cr, e = .returned (.tuple #[.slice Ar size cr, .int .i64 0]) ∧ Arg w' Ar (HmM.stretch key l size) size cr ∧ Below w.heap.size w w' := by
  have SA := hid hS
  have HK := hid hK
  have HA := hid hA
  clear hS hK hA
  go_enter Tryd.func16, Tryd.ntmps16
  go_wp2_with fail
  refine (under_any K key kn kcap HK.out.len HK.out.cap HK.out.max (by omega) HK.out.b256 w HK.out.byt SA.out).mono ?_
  rintro e w1 ⟨rfl, h1⟩
  have hz1 := h1.size
  go_upto_region 4 with ((with_reducible apply stk); rfl; rfl; exact Blk.top zlit_kyd rfl; exact size_row)
  generalize hw2 : World.setRow _ _ _ = w2
  obtain ⟨g, hg⟩ : ∃ g, g = w1.heap.size := ⟨_, rfl⟩
  have c2 : Blk w2 g 52 (kyd (HmM.from' 54 (HmM.blk key)).get (HmM.from' 92 (HmM.blk key)).get) := by rw [← hw2, hg]; exact (Blk.top zlit_kyd rfl).setRow_same _
  have b2 : Below w.heap.size w w2 := by rw [← hw2]; exact below_setRow (h1.alloc hz1 _) hz1 _
  rw [← hg]
  have C2 := hid c2
  have B2 := hid b2
  have hgl := c2.lt
  clear hw2 c2 b2 hg h1 hz1
  go_upto_region 5 with ((with_reducible apply mk0 (n := size)); omega; rfl; rfl; intro v3 w3 o3 b3)
  obtain ⟨A3, c3, e3, _⟩ := o3.any
  subst e3
  have O3 := hid o3
  have B3 := hid b3
  clear o3 b3
  go_wp2_with fail
  go_loopw [9, 10, 11] (fun u9 u10 u11 wr => ∃ (j L na x : Nat) (As Aa : Option Addr) (cs ca : Nat), u9 = .slice As L cs ∧ u10 = .slice Aa na ca ∧ u11 = .int .u8 x ∧ x < 256 ∧ Hid (x = (j + 1) % 256) ∧ Hid (L = min (32 * j) size) ∧ L ≤ size ∧ Hid (Own 5 .u8 wr w2.heap.size u9 ((HmM.chain key l j).take size)) ∧ Hid (Arg wr Aa (HmM.link key l j) na ca) ∧ Hid (Below w2.heap.size w2 wr)) (fun u9 _ _ _ => size - lenOf u9)
  case atStart => exact ⟨0, 0, 0, 1, A3, .none, c3, 0, rfl, rfl, rfl, by omega, hid rfl, hid (by omega), by omega, hid (by have := O3.out; simpa [HmM.chain] using this), hid ⟨rfl, Nat.le_refl _, Nat.zero_le _, (fun x hx => by cases hx), fun _ => ⟨rfl, rfl⟩, Byt.none rfl⟩, B3⟩
  case round =>
    clear O3 B3
    obtain ⟨j, L, na, x, As, Aa, cs, ca, rfl, rfl, rfl, hx, hxe, hL, hLs, ho, ha, hb⟩ := hrel
    have hzw := hb.out.size
    by_cases hlt : L < size
    · have t1 : decide (L < size) = true := decide_eq_true hlt
      have hLj : L = 32 * j := by have := hL.out; omega
      have cr := C2.out.below hb.out hgl
      have HLJ := hid hLj
      clear hLj
      go_wp2_with ((with_reducible apply ldky); rfl; exact cr)
      generalize hw4 : World.alloc (World.alloc wr _) _ = w4
      have k4 : Blk w4 (wr.heap.size + 1) 22 #[.slice Aa na ca, .slice A n cap, .slice (some ⟨wr.heap.size, 0, none⟩) 1 1] := by rw [← hw4]; exact Blk.top rfl (by simp)
      have b4 : Below wr.heap.size wr w4 := by rw [← hw4]; exact ((Below.refl _ _).alloc (Nat.le_refl _) _).alloc (by simp) _
      have x4 : Byt w4 w4.heap.size (some ⟨wr.heap.size, 0, none⟩) [x] := by
        rw [← hw4]
        exact ((nums_one (t := 5) (x := x) (k := .u8) (w := wr) (B := wr.heap.size + 1) rfl (Nat.lt_succ_self _)).byt.below ((Below.refl (wr.heap.size + 1) _).alloc (by simp) _) (Nat.le_refl _)).more (by simp)
      have hbw : Below w.heap.size w w4 := B2.out.trans ((hb.out.trans (b4.mono hzw)).mono B2.out.size)
      have AA := ha.out.on b4
      have AL := HA.out.on hbw
      have hp : Prts w4 w4.heap.size (some ⟨wr.heap.size + 1, 0, none⟩) [HmM.link key l j, l, [x]] := fun _ => by
        refine ⟨wr.heap.size + 1, 0, rfl, k4.lt, fun i hi => ?_⟩
        match i, hi with
        | 0, _ => exact ⟨Aa, ca, by rw [Nat.zero_add, k4.cell, show [HmM.link key l j, l, [x]].getD 0 [] = HmM.link key l j from rfl, AA.len]; rfl, by rw [show [HmM.link key l j, l, [x]].getD 0 [] = HmM.link key l j from rfl, AA.len]; exact AA.cap, AA.max, AA.byt⟩
        | 1, _ => exact ⟨A, cap, by rw [k4.cell, show [HmM.link key l j, l, [x]].getD 1 [] = l from rfl, AL.len]; rfl, by rw [show [HmM.link key l j, l, [x]].getD 1 [] = l from rfl, AL.len]; exact AL.cap, AL.max, AL.byt⟩
        | 2, _ => exact ⟨some ⟨wr.heap.size, 0, none⟩, 1, by rw [k4.cell]; rfl, Nat.le_refl _, by unfold maxLen; omega, x4⟩
      have hls : ∀ m ∈ [HmM.link key l j, l, [x]], B256 m := fun m hm => by
        simp only [List.mem_cons, List.not_mem_nil, or_false] at hm
        rcases hm with rfl | rfl | rfl
        · exact AA.b256
        · exact AL.b256
        · intro y hy; rw [List.mem_singleton.1 hy]; exact hx
      have hfl : flat [HmM.link key l j, l, [x]] = HmM.link key l j ++ l ++ [x] := flat3 _ _ _
      have hna : na ≤ 32 := by
        rw [← AA.len]
        cases j with
        | zero => exact Nat.zero_le _
        | succ j => rw [HmM.link_length]; omega
      have hfz : 64 + (flat [HmM.link key l j, l, [x]]).length ≤ 1000000000000000 := by
        rw [hfl, List.length_append, List.length_append, AA.len, AL.len, List.length_singleton]; omega
      have HP := hid hp
      have HLS := hid hls
      have HFL := hid hfl
      have HFZ := hid hfz
      have BW := hid hbw
      have B24 := hid (hb.out.trans (b4.mono hzw))
      have AL4 := hid AL
      have O4 := hid (ho.out.below b4)
      clear hw4 k4 b4 x4 hbw AA AL hp hls hfl hfz cr ho ha
      refine (tag_any _ _ (HmM.from_ok 54 _) (HmM.from_ok 92 _) _ [HmM.link key l j, l, [x]] 3 3 rfl (by omega) HLS.out HFZ.out w4 HP.out (SA.out.on BW.out)).mono ?_
      rintro e w5 ⟨rfl, h5⟩
      obtain ⟨T, hT⟩ : ∃ T, T = HmM.tag key (HmM.link key l j ++ l ++ [x]) := ⟨_, rfl⟩
      rw [tagOf_tag, HFL.out, ← hT]
      have hlink : HmM.link key l (j + 1) = HmM.dl T := by rw [hT, hxe.out]; rfl
      have hT256 : ∀ k, T k < 256 := fun k => by rw [hT]; exact HmM.tag_256 _ _ k
      have B25 := hid (B24.out.trans (h5.mono B24.out.size))
      have O5 := hid (O4.out.below h5)
      have hz5 := B25.out.size
      have HLK := hid hlink
      have HT256 := hid hT256
      clear hT hlink hT256 h5 HP HLS HFL HFZ BW B24 AL4 O4
      go_upto_region 10 with ((with_reducible apply stt); rfl; rfl; exact Blk.top zlit_tag rfl)
      generalize hw6 : World.setRow _ _ _ = w6
      obtain ⟨g6, hg6⟩ : ∃ g, g = w5.heap.size := ⟨_, rfl⟩
      have d6 : Blk w6 g6 25 (tag T) := by rw [← hw6, hg6]; exact (Blk.top zlit_tag rfl).setRow_same _
      have b56 : Below w5.heap.size w5 w6 := by rw [← hw6]; exact below_setRow ((Below.refl _ _).alloc (Nat.le_refl _) _) (Nat.le_refl _) _
      have hne : (Value.slice As L cs).ownBlock ≠ some g6 := fun e => by
        have := (World.ownsRow.lt O5.out g6 e).2
        omega
      rw [← hg6]
      have O6 := hid (O5.out.below b56)
      have B26 := hid (B25.out.trans (b56.mono hz5))
      have D6 := hid d6
      have HNE := hid hne
      have hz6 := B26.out.size
      have hg6l := d6.lt
      clear hw6 d6 b56 hne hg6 O5 B25 hz5
      have hol : ((HmM.chain key l j).take size).length = L := by rw [List.length_take, HmM.chain_length, HLJ.out]; have := HLJ.out; omega
      have HOL := hid hol
      have hxw : IntKind.u8.wrap ((x : Int) + 1) = (((j + 1 + 1) % 256 : Nat) : Int) := by rw [IntKind.wrap_u8]; have := hxe.out; omega
      have HXW := hid hxw
      clear hol hxw
      obtain ⟨y, hy⟩ : ∃ y, y = (j + 1 + 1) % 256 := ⟨_, rfl⟩
      have HY := hid hy
      have hy256 : y < 256 := by rw [hy]; omega
      clear hy
      by_cases h32 : 32 < size - L
      · have t32 : (32 : Int) < (size : Int) - (L : Int) := by omega
        have hm : 32 = 32 := rfl
        have hm32 : 32 ≤ 32 := by omega
        have hmin : 32 = min (size - 32 * j) 32 := by have := HLJ.out; omega
        have hnm : Nums .u8 w6 w6.heap.size (some ⟨g6, 0, none⟩) ((HmM.dl T).take 32) := ((Blk.byt D6.out hg6l (l := HmM.dl T) (by rw [HmM.dl_length]; omega) fun j hj => by rw [HmM.dl_length] at hj; exact HmM.dl_get _ hj).take 32).nums
        have hlm : ((HmM.dl T).take 32).length = 32 := by rw [List.length_take, HmM.dl_length]; omega
        have NM := hid hnm
        have HLM := hid hlm
        have hch : (HmM.chain key l (j + 1)).take size = (HmM.chain key l j).take size ++ (HmM.dl T).take 32 := by
          rw [chain_step key l j size (by have := HLJ.out; omega), HLK.out, take_take32 T 32 _ hmin]
        have HCH := hid hch
        have HM := hid hm
        clear hnm hlm hch hmin
        skip
        go_upto_region 8 with (at_builtin; (with_reducible apply wappW eltB); rfl; rfl; (intro h; cases h); exact O6.out; exact NM.out; exact HLM.out; (rw [HOL.out]; omega); exact hz6; intro v7 w7 o7 g7 p7)
        have b7 := below_grown B26.out g7 O6.out (Nat.le_refl _) (Nat.le_refl _)
        have d7 := D6.out.apart g7 HNE.out
        obtain ⟨A7, c7, e7, _⟩ := o7.any
        have hl7 : ((HmM.chain key l j).take size ++ (HmM.dl T).take 32).length = L + 32 := by rw [List.length_append, HOL.out, HLM.out]
        rw [hl7] at e7
        subst e7
        have a7 : Arg w7 (some ⟨g6, 0, none⟩) (HmM.link key l (j + 1)) 32 32 := ⟨HmM.link_length _ _ _, Nat.le_refl _, by unfold maxLen; omega, HmM.link_256 _ _ _, (fun e => by cases e), by
          rw [HLK.out]
          exact Blk.byt d7 d7.lt (l := HmM.dl T) (by rw [HmM.dl_length]; omega) fun j hj => by rw [HmM.dl_length] at hj; exact HmM.dl_get _ hj⟩
        have O7 := hid o7
        have B7 := hid b7
        have A7' := hid a7
        clear o7 b7 a7 d7 g7 p7 hl7
        have hxw2 := HXW.out
        rw [← HY.out] at hxw2
        go_wp2_with fail
        go_roundw
        case rel => exact ⟨_, _, _, ⟨j + 1, L + 32, ⟨A7, c7, rfl⟩, 32, y, some ⟨g6, 0, none⟩, 32, rfl, rfl, hy256, HY, hid (by have := HLJ.out; omega), by omega, hid (by rw [HCH.out]; exact O7.out), A7'⟩, (by first | rfl | (congr 1; omega)), rfl, rfl⟩
        case measure => simp [lenOf] <;> omega
      · have t32 : (size : Int) - (L : Int) ≤ 32 := by omega
        have hm : size - L = size - L := rfl
        have hm32 : (size - L) ≤ 32 := by omega
        have hmin : (size - L) = min (size - 32 * j) 32 := by have := HLJ.out; omega
        have hnm : Nums .u8 w6 w6.heap.size (some ⟨g6, 0, none⟩) ((HmM.dl T).take (size - L)) := ((Blk.byt D6.out hg6l (l := HmM.dl T) (by rw [HmM.dl_length]; omega) fun j hj => by rw [HmM.dl_length] at hj; exact HmM.dl_get _ hj).take (size - L)).nums
        have hlm : ((HmM.dl T).take (size - L)).length = (size - L) := by rw [List.length_take, HmM.dl_length]; omega
        have NM := hid hnm
        have HLM := hid hlm
        have hch : (HmM.chain key l (j + 1)).take size = (HmM.chain key l j).take size ++ (HmM.dl T).take (size - L) := by
          rw [chain_step key l j size (by have := HLJ.out; omega), HLK.out, take_take32 T (size - L) _ hmin]
        have HCH := hid hch
        have HM := hid hm
        clear hnm hlm hch hmin
        skip
        go_upto_region 8 with (at_builtin; (with_reducible apply wappW eltB); rfl; rfl; (intro h; cases h); exact O6.out; exact NM.out; exact HLM.out; (rw [HOL.out]; omega); exact hz6; intro v7 w7 o7 g7 p7)
        have b7 := below_grown B26.out g7 O6.out (Nat.le_refl _) (Nat.le_refl _)
        have d7 := D6.out.apart g7 HNE.out
        obtain ⟨A7, c7, e7, _⟩ := o7.any
        have hl7 : ((HmM.chain key l j).take size ++ (HmM.dl T).take (size - L)).length = L + (size - L) := by rw [List.length_append, HOL.out, HLM.out]
        rw [hl7] at e7
        subst e7
        have a7 : Arg w7 (some ⟨g6, 0, none⟩) (HmM.link key l (j + 1)) 32 32 := ⟨HmM.link_length _ _ _, Nat.le_refl _, by unfold maxLen; omega, HmM.link_256 _ _ _, (fun e => by cases e), by
          rw [HLK.out]
          exact Blk.byt d7 d7.lt (l := HmM.dl T) (by rw [HmM.dl_length]; omega) fun j hj => by rw [HmM.dl_length] at hj; exact HmM.dl_get _ hj⟩
        have O7 := hid o7
        have B7 := hid b7
        have A7' := hid a7
        clear o7 b7 a7 d7 g7 p7 hl7
        have hxw2 := HXW.out
        rw [← HY.out] at hxw2
        go_wp2_with fail
        go_roundw
        case rel => exact ⟨_, _, _, ⟨j + 1, L + (size - L), ⟨A7, c7, rfl⟩, 32, y, some ⟨g6, 0, none⟩, 32, rfl, rfl, hy256, HY, hid (by have := HLJ.out; omega), by omega, hid (by rw [HCH.out]; exact O7.out), A7'⟩, (by first | rfl | (congr 1; omega)), rfl, rfl⟩
        case measure => simp [lenOf] <;> omega
    · have t1 : decide (L < size) = false := decide_eq_false hlt
      obtain rfl : L = size := by omega
      have hj : L ≤ 32 * j := by have := hL.out; omega
      have hst : (HmM.chain key l j).take L = HmM.stretch key l L := HmM.stretch_any key l hj
      have o1 := ho.out
      rw [hst] at o1
      obtain ⟨Ar, cr, e9, a9⟩ := o1.arg (fun y hy => by rw [← hst] at hy; exact HmM.chain_256 key l j y (List.mem_of_mem_take hy))
      rw [HmM.stretch_length] at e9 a9
      simp only [Value.slice.injEq, true_and] at e9
      obtain ⟨rfl, rfl⟩ := e9
      have A9 := hid a9
      have BF := hid (B2.out.trans (hb.out.mono B2.out.size))
      clear o1 ho a9 hst
      go_wp2_with fail
      go_ret2
      exact ⟨As, cs, rfl, A9.out, BF.out⟩
end Go.Proofs.YtfgmgfniolmpkaaDoor
