/-
  The program's Set: unflushed writes there struck out of their row (slices.IndexFunc, slices.DeleteFunc).
  The program's Back and Copy.
  The program's Copy.
  The program's member keeps MemC.
  An append of one element to a slice that is the call's own, or that is full: what it turns, place by place.
  The law CellKnown: the chapter's examples; cells that are none.
  The program's cell in memory; isMade, New, Read.
  The program's History and Copy.
  The program's Advance.
  The program's cell keeps its contracts.
  What is wanted of the program's bus: the contracts of its calls, over whatever it lays in memory; a bus of the program's beside one of the document's.
-/
import Derived.Test.YtablkaofaedpeaaMrg3
import Derived.Deep.OwnRows
import Derived.Lib.SliceRun
set_option linter.unusedVariables false
set_option linter.unusedSimpArgs false
set_option maxRecDepth 100000
namespace Go.Proofs.Ytablkaofaedpeaa
open Go.ChangeShapes Go.WideShapes Go.ChangeAt Go.RowKit
attribute [local go_sem] Gives GivesE
namespace MbO
open MbM MbP
theorem elemWr : Try.prog.elem 90 = 100 := by kernel_rfl
theorem cf_there (args : Array Value) (w : World) : (callFunc 76 args).run Try.prog w = .ok (.enter 76 args) w := by
  simp [callFunc, Try.func76, Try.f76]
/-- The function that Set hands down. -/
abbrev thereF (h : Nat) : Value := .func (.func 76) #[] #[.pointer (some ⟨h, 0, none⟩)]
set_option maxHeartbeats 400000 in
set_option maxRecDepth 100000 in
/-- slices.IndexFunc, of unflushed writes. -/
theorem index_any (A : Option Addr) (l : List Pt) (n c h : Nat) (i : Int) (S : Nat → Prop) (w : World) (hA : Sli 65 atL S w A l n c) (hb : w.cell? ⟨h, 0, none⟩ = some (.int .i64 i)) (hn : n ≤ 10000) :
    Calls Try.prog 78 #[.slice A n c, thereF h] w fun e w' => ∃ j : Nat, (∀ q p, q < j → l[q]? = some p → p.i ≠ i) ∧ (∃ r : Int, e = .returned (.int .i64 r) ∧ ((j < n ∧ r = j ∧ ∃ p, l[j]? = some p ∧ p.i = i) ∨ (n ≤ j ∧ r = -1))) ∧ Below w.heap.size w w' := by
  have HA := hid hA
  have HB := hid hb
  have hhl : h < w.heap.size := World.block_lt_of_cell? w ⟨h, 0, none⟩ hb
  unfold thereF
  clear hA hb
  go_enter Try.func78, Try.ntmps78
  go_wp2_with fail
  go_loopw [8] (fun u wr => ∃ k : Nat, u = .int .i64 k ∧ k ≤ n ∧ Hid (∀ q p, q < k → l[q]? = some p → p.i ≠ i) ∧ Hid (Below w.heap.size w wr)) (fun u _ => n - (intOf u).toNat)
  case atStart => exact ⟨0, rfl, Nat.zero_le _, hid fun q p hq => absurd hq (Nat.not_lt_zero _), hid (Below.refl _ _)⟩
  case round =>
    obtain ⟨k, rfl, hk, hM, hB⟩ := hrel
    by_cases hgo : k < n
    · have t1 : (k : Int) < (n : Int) := by omega
      obtain ⟨p, hp⟩ : ∃ p, l[k]? = some p := ⟨_, List.getElem?_eq_getElem (by rw [HA.out.len]; exact hgo)⟩
      obtain ⟨b, o, rfl, _, hbl, hr⟩ := HA.out.some hp
      have HR := hid (show wr.rangeAt b (o + k * 65) (atL p) from fun j v hj => (hB.out.cell (p := ⟨b, o + k * 65 + j, none⟩) hbl).trans (hr j v hj))
      have HBr := hid ((hB.out.cell (p := ⟨h, 0, none⟩) hhl).trans HB.out)
      have HP := hid hp
      clear hr hp
      go_wp2_with ((with_reducible apply ldR (cs := (atL p).toArray) (tWr p)); rfl; exact HR.out)
      refine (there_any h i p wr HBr.out).mono ?_
      rintro e w2 ⟨rfl, h2⟩
      have B2 := hid (hB.out.trans (h2.mono hB.out.size))
      clear hB HR HBr h2
      by_cases he : p.i = i
      · rw [show decide (p.i = i) = true by simp [he]]
        go_wp2_with fail
        go_ret
        exact ⟨k, hM.out, ⟨k, rfl, .inl ⟨hgo, rfl, p, HP.out, he⟩⟩, B2.out⟩
      · rw [show decide (p.i = i) = false by simp [he]]
        go_wp2_with fail
        go_roundw
        case rel =>
          refine ⟨k + 1, by go_num, by omega, hid fun q x hq hx => ?_, B2⟩
          by_cases e : q = k
          · subst e
            rw [HP.out] at hx
            cases hx
            exact he
          · exact hM.out q x (by omega) hx
        case measure => simp [intOf] <;> omega
    · have t1 : ¬ k < n := hgo
      go_wp2_with fail
      go_ret
      exact ⟨k, hM.out, ⟨_, rfl, .inr ⟨by omega, rfl⟩⟩, hB.out⟩
/-- The row in the midst of being put together. -/
structure Dl (w0 : World) (b cap : Nat) (l : List Pt) (i : Int) (j : Nat) (w : World) : Prop where
  blk : ∃ cur, w.heap[b]? = some (.cells cur 100 (0, 0)) ∧ cur.size = cap * 65
  don : ∀ (q : Nat) x, (oth (l.take j) i)[q]? = some x → w.rangeAt b (q * 65) (atL x)
  rem : ∀ (q : Nat) x, j ≤ q → l[q]? = some x → w.rangeAt b (q * 65) (atL x)
  t : Turn (fun k => k = b) w0 w
theorem Dl.turn {w0 w w' : World} {b cap : Nat} {l : List Pt} {i : Int} {j : Nat} (h : Dl w0 b cap l i j w) (hb : Below w.heap.size w w') (hbl : b < w0.heap.size) : Dl w0 b cap l i j w' := by
  have hlt : b < w.heap.size := Nat.lt_of_lt_of_le hbl h.t.size
  have ht := Turn.of_below hb
  obtain ⟨cur, h1, h2⟩ := h.blk
  exact ⟨⟨cur, (hb.block b hlt).trans h1, h2⟩, fun q x hx => ht.range (h.don q x hx) (by omega), fun q x hq hx => ht.range (h.rem q x hq hx) (by omega), h.t.trans (Turn.of_new (S := fun _ => False) hb) fun _ e => e.elim⟩
theorem oth_all {l : List Pt} {i : Int} : ∀ {m : Nat}, (∀ q p, q < m → l[q]? = some p → p.i ≠ i) → m ≤ l.length → oth (l.take m) i = l.take m
  | 0, _, _ => by rw [List.take_zero]; rfl
  | m + 1, h, hm => by
    rw [oth_step (p := l[m]) (List.getElem?_eq_getElem (by omega)), if_neg (h m _ (by omega) (List.getElem?_eq_getElem (by omega))), oth_all (fun q p hq => h q p (by omega)) (by omega), List.take_add_one, List.getElem?_eq_getElem (by omega)]
    rfl
set_option maxHeartbeats 1000000 in
set_option maxRecDepth 100000 in
/-- slices.DeleteFunc, of unflushed writes. -/
theorem delete_any (v : Value) (l : List Pt) (i0 : Int) (hb : Nat) (w : World) (hO : OwnL w 0 v l) (hbox : w.cell? ⟨hb, 0, none⟩ = some (.int .i64 i0)) (hne : ∀ b, v.ownBlock = some b → b ≠ hb) (hlen : l.length ≤ 10000) :
    Calls Try.prog 75 #[v, thereF hb] w fun e w' => ∃ v', e = .returned v' ∧ OwnL w' 0 v' (oth l i0) ∧ v'.ownBlock = v.ownBlock ∧ Turn (fun b => v.ownBlock = some b) w w' := by
  obtain ⟨A, cap, rfl, sl⟩ := hO.sli atL_len
  have HO := hid hO
  have SL := hid sl
  have HB := hid hbox
  have HN := hid hne
  have hhl : hb < w.heap.size := World.block_lt_of_cell? w ⟨hb, 0, none⟩ hbox
  unfold thereF
  clear hO sl hbox hne
  go_enter Try.func75, Try.ntmps75
  go_wp2_with fail
  refine (index_any A l l.length cap hb i0 (fun b => 0 ≤ b) w SL.out HB.out hlen).mono ?_
  rintro e w1 ⟨j, hj, ⟨r, rfl, hr⟩, h1⟩
  rcases hr with ⟨hjn, rfl, p0, hp0, he0⟩ | ⟨hjn, rfl⟩
  · have t0 : ((j : Int) == -1) = false := by simp
    have t0' : decide ((j : Int) = -1) = false := by simp
    have HJ := hid hj
    rcases HO.out.2 with ⟨e0, h0⟩ | ⟨g, cp, cur, e0, _, hg, hnc, hcm, hcs, htk⟩
    · omega
    · cases e0
      have hgl : g < w.heap.size := Blk.lt (t := 100) (cs := cur) hg
      have hall : ∀ (q : Nat) x, l[q]? = some x → w.rangeAt g (q * 65) (atL x) := fun q x hx => by
        obtain ⟨b, o, e, _, _, hr⟩ := SL.out.some hx
        cases e
        rwa [Nat.zero_add] at hr
      have hfst : oth (l.take (j + 1)) i0 = l.take j := by rw [oth_step hp0, if_pos he0, List.append_nil, oth_all HJ.out (by omega)]
      have D0 := hid (show Dl w g cap l i0 (j + 1) w1 from Dl.turn ⟨⟨cur, hg, hcs⟩, (fun q x hx => by
        rw [hfst] at hx
        have hql : q < j := by have := (List.getElem?_eq_some_iff.1 hx).1; rw [List.length_take] at this; omega
        rw [List.getElem?_take_of_lt hql] at hx
        exact hall q x hx), (fun q x _ hx => hall q x hx), Turn.refl _ _⟩ h1 hgl)
      have hfl := hid (show (oth (l.take (j + 1)) i0).length = j by rw [hfst, List.length_take]; omega)
      have hgb := HN.out g rfl
      have hcap : l.length ≤ cap := hnc
      have HCM := hid hcm
      clear HO SL hj hg hcm hcs htk hall hfst h1 hp0
      go_wp2_with fail
      go_loopw [5, 6] (fun u v wr => ∃ (m x : Nat), u = .int .i64 m ∧ v = .int .i64 x ∧ m < x ∧ x ≤ l.length ∧ Hid ((oth (l.take x) i0).length = m) ∧ Hid (Dl w g cap l i0 x wr)) (fun _ v _ => l.length - (intOf v).toNat)
      case atStart => exact ⟨j, j + 1, rfl, by go_num, by omega, by omega, hfl, D0⟩
      case round =>
        clear D0 hfl
        obtain ⟨m, x, rfl, rfl, hmx, hxl, hF, hD⟩ := hrel
        by_cases hgo : x < l.length
        · have t1 : (x : Int) < (l.length : Int) := by omega
          obtain ⟨p, hp⟩ : ∃ p, l[x]? = some p := ⟨_, List.getElem?_eq_getElem hgo⟩
          have HR := hid (show wr.rangeAt g (x * 65) (atL p) by exact hD.out.rem x p (Nat.le_refl _) hp)
          have hst := oth_step hp i0
          have HP := hid hp
          clear hp
          go_upto_region 8 with (first
            | ((with_reducible apply ldR (cs := (atL p).toArray) (tWr p)); rfl; exact HR.out)
            | (with_reducible apply alZ zWr)
            | ((with_reducible apply stR (tWr p)); rfl; rfl; exact Blk.new _ _ _; exact atL_size _ _; exact at_one p))
          generalize hw2 : World.setRow _ _ _ = w2
          have b2 := hid (show Blk w2 wr.heap.size 100 (atL p).toArray by rw [← hw2]; exact (Blk.new wr _ _).setRow_same _)
          have h2 := hid (show Below wr.heap.size wr w2 by rw [← hw2]; exact below_setRow ((Below.refl _ _).alloc (Nat.le_refl _) _) (Nat.le_refl _) _)
          have D2 := hid (hD.out.turn h2.out hgl)
          have HB2 := hid ((D2.out.t.cell (p := ⟨hb, 0, none⟩) HB.out) fun e => hgb e.symm)
          have hgr := Nat.lt_of_lt_of_le hgl hD.out.t.size
          clear hw2 hD h2 HR
          go_wp2_with ((with_reducible apply ldR (cs := (atL p).toArray) (tWr p)); rfl; exact b2.out.whole)
          refine (there_any hb i0 p w2 HB2.out).mono ?_
          rintro e w3 ⟨rfl, h3⟩
          have D3 := hid (D2.out.turn h3 hgl)
          have b3 := hid (b2.out.below h3 b2.out.lt)
          clear D2 b2 HB2 h3
          by_cases he : p.i = i0
          · rw [if_pos he, List.append_nil] at hst
            rw [show decide (p.i = i0) = true by simp [he]]
            have HST := hid hst
            clear hst b3
            go_wp2_with fail
            go_roundw
            case rel =>
              refine ⟨m, x + 1, rfl, by go_num, by omega, by omega, hid (by rw [HST.out]; exact hF.out), hid ⟨D3.out.blk, (by rw [HST.out]; exact D3.out.don), (fun q y hq hy => D3.out.rem q y (by omega) hy), D3.out.t⟩⟩
            case measure => simp [intOf] <;> omega
          · rw [if_neg he] at hst
            rw [show decide (p.i = i0) = false by simp [he]]
            have HST := hid hst
            have hTH := hid (show w3.there g (m * 65) (atL p).toArray.size by
              obtain ⟨cur, h1, h2⟩ := D3.out.blk
              refine there_of h1 ?_
              rw [h2, List.size_toArray, atL_len]
              have := Nat.mul_le_mul_right 65 (show m + 1 ≤ cap by omega)
              omega)
            have hDn := hid (show Dl w g cap l i0 (x + 1) (w3.setCells g (m * 65) (atL p).toArray.toList) from {
              blk := cells_setCells _ _ _ D3.out.blk
              don := fun q y hy => by
                rw [HST.out] at hy
                by_cases hq : q < m
                · rw [List.getElem?_append_left (by rw [hF.out]; exact hq)] at hy
                  have h4 := D3.out.don q y hy
                  refine World.rangeAt_setCells_apart h4 _ _ _ (.inr (.inl ?_))
                  rw [atL_len]
                  have := Nat.mul_le_mul_right 65 (show q + 1 ≤ m from hq)
                  omega
                · have hq2 : q = m := by
                    have := (List.getElem?_eq_some_iff.1 hy).1
                    rw [List.length_append, hF.out, List.length_cons, List.length_nil] at this
                    omega
                  subst hq2
                  rw [List.getElem?_append_right (by rw [hF.out]; exact Nat.le_refl _), hF.out, Nat.sub_self, List.getElem?_cons_zero] at hy
                  cases hy
                  have := World.rangeAt_setCells_same w3 g (q * 65) (atL p).toArray.toList hTH.out
                  exact this
              rem := fun q y hq hy => by
                have h4 := D3.out.rem q y (by omega) hy
                refine World.rangeAt_setCells_apart h4 _ _ _ (.inr (.inr ?_))
                show m * 65 + (atL p).length ≤ q * 65
                rw [atL_len]
                have := Nat.mul_le_mul_right 65 (show m + 1 ≤ q by omega)
                omega
              t := D3.out.t.trans (turn_setCells _ _ _) fun b e => .inl e })
            clear D3 hst
            go_wp2_with (first | ((with_reducible apply ldR (cs := (atL p).toArray) (tWr p)); rfl; exact b3.out.whole) | ((with_reducible apply stRM (cs := (atL p).toArray) (tWr p)); rfl; rfl; exact hTH.out; exact at_one p))
            go_roundw
            case rel =>
              refine ⟨m + 1, x + 1, by go_num, by go_num, by omega, by omega, hid (by rw [HST.out, List.length_append, hF.out]; rfl), hDn⟩
            case measure => simp [intOf] <;> omega
        · have hxe : x = l.length := by omega
          subst hxe
          have t1 : ¬ l.length < l.length := by omega
          rw [List.take_length] at hF
          have HM := hid (show (oth l i0).length = m from hF.out)
          have hDD := hid hD.out
          have hmc : m < cap := by omega
          have hml : m ≤ l.length := by omega
          have hth := hid (show wr.there g (m * 65) ((l.length - m) * (atL ⟨0, zero⟩).toArray.size) by
            obtain ⟨cur, h1, h2⟩ := hDD.out.blk
            refine there_of h1 ?_
            rw [h2, List.size_toArray, atL_len, ← Nat.add_mul]
            exact Nat.mul_le_mul_right 65 (by omega))
          clear hD hF hgo hxl
          go_wp2_with (first
            | ((with_reducible apply wslF eltWr undWr elemWr); rfl; rfl; exact hml; exact hmc)
            | ((with_reducible apply wclr undWr zWr); (rw [List.size_toArray, atL_len]; omega); exact atL_ones _; rfl; exact hth.out; intro zs hzs; generalize hwz : World.setCells _ _ _ _ = wz)
            | ((with_reducible apply wslT eltWr undWr elemWr); rfl; rfl; exact hmc))
          go_ret
          refine ⟨_, rfl, ?_, rfl, ?_⟩
          · obtain ⟨cur, h1, h2⟩ := cells_setCells (g := g) zs (m * 65) wr hDD.out.blk
            rw [hwz] at h1
            have hown := own_of_ranges (l := oth l i0) atL_len (by omega) h1 h2 (by rw [HM.out]; omega) HCM.out fun q y hy => by
              have hq : q < m := by rw [← HM.out]; exact (List.getElem?_eq_some_iff.1 hy).1
              have hy' : (oth (l.take l.length) i0)[q]? = some y := by rw [List.take_length]; exact hy
              rw [← hwz]
              refine World.rangeAt_setCells_apart (hDD.out.don q y hy') _ _ _ (.inr (.inl ?_))
              rw [atL_len]
              have := Nat.mul_le_mul_right 65 (show q + 1 ≤ m from hq)
              omega
            rw [HM.out] at hown
            exact hown
          · have ht := (hDD.out.t.trans (turn_setCells zs (m * 65) wr) fun b e => .inl e)
            rw [hwz] at ht
            exact ht.mono fun b e => by rw [e]; rfl
  · have hfin := hid (show oth l i0 = l by
      have := oth_all (l := l) (i := i0) (m := l.length) (fun q p hq => hj q p (by omega)) (Nat.le_refl _)
      rwa [List.take_length] at this)
    have b1 := hid h1
    have o1 := hid (HO.out.below h1 (Nat.le_refl _))
    clear hj h1 HO SL
    go_wp2_with fail
    go_ret
    exact ⟨_, rfl, by rw [hfin.out]; exact o1.out, rfl, Turn.of_new b1.out⟩
section
variable {w w' : World} {g rs rd : Nat} {vl vm : Value} {ms : List Nat} {n : Int} {S D : Img} {log : List Pt} {marks : List Img} {f h : Bool}
theorem Mm.hurt (H : Mm w g rs rd vl vm ms n S D log marks f h) (h' : Bool) : Mm (w.setCell ⟨g, 6, none⟩ (.bool h')) g rs rd vl vm ms n S D log marks f h' :=
  H.flags f h' (Turn.setCell (S := fun b => b = g) w ⟨g, 6, none⟩ (.bool h') rfl) (H.blk.setCell_same 6 (.bool h'))
set_option maxHeartbeats 400000 in
theorem set2_bad (H : Mm w g rs rd vl vm ms n S D log marks f h) (i : Int) (hq : decide (0 ≤ i ∧ i < n) = false) (x : Nat → Nat) :
    Calls Try.prog 65 #[at' g, .int .i64 i, .agg (ar 64 x)] w fun e w' => e = .returned (.int .i64 2) ∧ Below w.heap.size w w' := by
  have HH := hid H
  have HQ := hid hq
  have hn := hid H.pos
  unfold at'
  clear H hq
  go_enter Try.func65, Try.ntmps65
  go_upto_region 1 with fail
  generalize hw1 : World.alloc (World.alloc w _) _ = w1
  have b0 := hid (show Blk w1 w.heap.size 3 #[.int .i64 i] by rw [← hw1]; exact (Blk.new _ _ _).alloc _)
  have BEL := hid (show Below w.heap.size w w1 by rw [← hw1]; exact ((Below.refl _ _).alloc (Nat.le_refl _) _).alloc (by simp) _)
  have H1 := hid (HH.out.below BEL.out)
  clear hw1 HH
  have p0 : w1.cell? ⟨g, 0, none⟩ = some (.int .i64 n) := H1.out.blk.cell 0
  have pi : w1.cell? ⟨w.heap.size, 0, none⟩ = some (.int .i64 i) := b0.out.cell 0
  go_wp2_with fail
  refine (find2_any g n hn.out i false HQ.out w1 p0).mono ?_
  rintro e w' ⟨rfl, rfl⟩
  go_wp2_with fail
  go_ret
  exact ⟨rfl, BEL.out⟩
set_option maxHeartbeats 1000000 in
set_option maxRecDepth 100000 in
theorem set2_any (H : Mm w g rs rd vl vm ms n S D log marks f h) (i : Int) (hq : decide (0 ≤ i ∧ i < n) = true) (x : Nat → Nat) (hlen : log.length ≤ 10000) :
    Calls Try.prog 65 #[at' g, .int .i64 i, .agg (ar 64 x)] w fun e w' => e = .returned (.int .i64 0) ∧ ∃ vl', Mm w' g rs rd vl' vm ms n (upd S ⟨i, x⟩) (upd D ⟨i, x⟩) (oth log i) marks f true ∧
      vl'.ownBlock = vl.ownBlock ∧ Turn (mSet g rs rd vl vm) w w' := by
  have HH := hid H
  have HQ := hid hq
  have hn := hid H.pos
  have hrs := H.seen.lt
  have hrd := H.dur.lt
  have hvl := hid H.lg.own
  unfold at'
  clear H hq
  go_enter Try.func65, Try.ntmps65
  go_upto_region 1 with fail
  generalize hw1 : World.alloc (World.alloc w _) _ = w1
  have b0 := hid (show Blk w1 w.heap.size 3 #[.int .i64 i] by rw [← hw1]; exact (Blk.new _ _ _).alloc _)
  have b1 := hid (show Blk w1 (w.heap.size + 1) 30 (ar 64 x) by rw [← hw1]; exact Blk.top rfl (by simp))
  have BEL := hid (show Below w.heap.size w w1 by rw [← hw1]; exact ((Below.refl _ _).alloc (Nat.le_refl _) _).alloc (by simp) _)
  have H1 := hid (HH.out.below BEL.out)
  clear hw1 HH
  have p0 : w1.cell? ⟨g, 0, none⟩ = some (.int .i64 n) := H1.out.blk.cell 0
  have pi : w1.cell? ⟨w.heap.size, 0, none⟩ = some (.int .i64 i) := b0.out.cell 0
  go_wp2_with fail
  refine (find2_any g n hn.out i true HQ.out w1 p0).mono ?_
  rintro e w' ⟨rfl, rfl⟩
  go_upto_region 4 with fail
  refine wp_region_tail (C := fun w' => Below w1.heap.size w1 w') 6 (by kernel_rfl) (by kernel_rfl) (by kernel_rfl) (Below.refl _ _).drew ?_
  apply wpK_val
  · rfl
  · intro w' hw'
    go_simp
    first | exact rfl | exact ⟨rfl, hw'⟩
  simp only [Act.put, List.setIfInBounds_toArray, List.set_cons_succ, List.set_cons_zero]
  apply wpK_val
  · rfl
  · intro w' hw'
    go_simp
    first | exact rfl | exact ⟨rfl, hw'⟩
  simp only [Act.put, List.setIfInBounds_toArray, List.set_cons_succ, List.set_cons_zero]
  apply wpK_val
  · rfl
  · intro w' hw'
    go_simp
    first | exact rfl | exact ⟨rfl, hw'⟩
  simp only [Act.put, List.setIfInBounds_toArray, List.set_cons_succ, List.set_cons_zero]
  apply wpK_val
  · rfl
  · intro w' hw'
    have hcell := (H1.out.below hw').blk.cell 1
    go_simp
    first | exact rfl | exact ⟨rfl, hw'⟩
  simp only [Act.put, List.setIfInBounds_toArray, List.set_cons_succ, List.set_cons_zero]
  apply wpK_val
  · rfl
  · intro w' hw'
    have hcell := (b0.out.below hw' b0.out.lt).cell 0
    go_simp
    first | exact rfl | exact ⟨rfl, hw'⟩
  simp only [Act.put, List.setIfInBounds_toArray, List.set_cons_succ, List.set_cons_zero]
  apply kldA tSe
  · rfl
  · rfl
  · exact fun w' hw' => ((b1.out.below hw' b1.out.lt).head)
  simp only [Act.put, List.setIfInBounds_toArray, List.set_cons_succ, List.set_cons_zero]
  intro w2 hC2
  have H2 := hid (H1.out.below hC2)
  have B2 := hid (BEL.out.trans (hC2.mono BEL.out.size))
  have c0 := hid (b0.out.below hC2 b0.out.lt)
  have c1 := hid (b1.out.below hC2 b1.out.lt)
  clear H1 BEL b0 b1 hC2 p0 pi
  go_wp2_with fail
  refine (put_any rs S i x w2 H2.out.seen).mono ?_
  rintro e w3 ⟨rfl, m3, t3⟩
  have H3 := hid (H2.out.setS t3 m3)
  have T3 := hid ((Turn.of_new (S := mSet g rs rd vl vm) B2.out).trans t3 fun _ e => .inl (.inr (.inl e)))
  have b0 := hid (c0.out.turn t3 (by omega))
  have b1 := hid (c1.out.turn t3 (by omega))
  clear H2 B2 c0 c1 m3 t3
  go_upto_region 5 with fail
  refine wp_region_tail (C := fun w' => Below w3.heap.size w3 w') 6 (by kernel_rfl) (by kernel_rfl) (by kernel_rfl) (Below.refl _ _).drew ?_
  apply wpK_val
  · rfl
  · intro w' hw'
    go_simp
    first | exact rfl | exact ⟨rfl, hw'⟩
  simp only [Act.put, List.setIfInBounds_toArray, List.set_cons_succ, List.set_cons_zero]
  apply wpK_val
  · rfl
  · intro w' hw'
    go_simp
    first | exact rfl | exact ⟨rfl, hw'⟩
  simp only [Act.put, List.setIfInBounds_toArray, List.set_cons_succ, List.set_cons_zero]
  apply wpK_val
  · rfl
  · intro w' hw'
    go_simp
    first | exact rfl | exact ⟨rfl, hw'⟩
  simp only [Act.put, List.setIfInBounds_toArray, List.set_cons_succ, List.set_cons_zero]
  apply wpK_val
  · rfl
  · intro w' hw'
    have hcell := (H3.out.below hw').blk.cell 2
    go_simp
    first | exact rfl | exact ⟨rfl, hw'⟩
  simp only [Act.put, List.setIfInBounds_toArray, List.set_cons_succ, List.set_cons_zero]
  apply wpK_val
  · rfl
  · intro w' hw'
    have hcell := (b0.out.below hw' b0.out.lt).cell 0
    go_simp
    first | exact rfl | exact ⟨rfl, hw'⟩
  simp only [Act.put, List.setIfInBounds_toArray, List.set_cons_succ, List.set_cons_zero]
  apply kldA tSe
  · rfl
  · rfl
  · exact fun w' hw' => ((b1.out.below hw' b1.out.lt).head)
  simp only [Act.put, List.setIfInBounds_toArray, List.set_cons_succ, List.set_cons_zero]
  intro w4 hC4
  have H4 := hid (H3.out.below hC4)
  have T4 := hid (T3.out.trans (Turn.of_new (S := fun _ => False) hC4) fun _ e => e.elim)
  have c0 := hid (b0.out.below hC4 b0.out.lt)
  clear H3 T3 b0 b1 hC4
  go_wp2_with fail
  refine (put_any rd D i x w4 H4.out.dur).mono ?_
  rintro e w5 ⟨rfl, m5, t5⟩
  have H5 := hid (H4.out.setD t5 m5)
  have T5 := hid (T4.out.trans t5 fun _ e => .inl (.inr (.inr (.inl e))))
  have b0 := hid (c0.out.turn t5 (by omega))
  have p3 : w5.cell? ⟨g, 3, none⟩ = some vl := H5.out.blk.cell 3
  clear H4 T4 c0 m5 t5
  go_wp2_with fail
  refine (delete_any vl log i w.heap.size w5 H5.out.lg (b0.out.cell 0) (fun b e => by have := (hvl.out b e).2; omega) hlen).mono ?_
  rintro e w6 ⟨vl', rfl, o6, hob, t6⟩
  obtain ⟨A6, c6, rfl, _⟩ := o6.sli atL_len
  have H7 := hid (H5.out.setL t6 o6)
  have T7 := hid ((T5.out.trans t6 fun b e => .inl (.inr (.inr (.inr (.inl e))))).trans (Turn.setCell (S := fun b => b = g) w6 ⟨g, 3, none⟩ (.slice A6 (oth log i).length c6) rfl) fun b e => .inl (.inl e))
  have bb := H5.out.blk.turn t6 H5.out.l_g
  have p3 : w6.cell? ⟨g, 3, none⟩ = some vl := bb.cell 3
  have fz := bb.frozen 3
  have HOB := hid hob
  clear H5 T5 b0 o6 t6 bb hob
  go_upto_region 7 with fail
  generalize World.setCell w6 _ _ = w7 at H7 T7 ⊢
  have p6 : w7.cell? ⟨g, 6, none⟩ = some (.bool h) := H7.out.blk.cell 6
  have fz := H7.out.blk.frozen 6
  have hfin := hid (And.intro (H7.out.hurt true) (T7.out.trans (Turn.setCell (S := fun b => b = g) w7 ⟨g, 6, none⟩ (.bool true) rfl) fun b e => .inl (.inl e)))
  clear H7 T7
  go_wp2_with fail
  go_ret
  exact ⟨rfl, _, hfin.out.1, HOB.out, hfin.out.2⟩
end
end MbO
end Go.Proofs.Ytablkaofaedpeaa
set_option maxRecDepth 100000
namespace Go.Proofs.Ytablkaofaedpeaa
open Go.ChangeShapes Go.WideShapes Go.ChangeAt Go.RowKit
attribute [local go_sem] Gives GivesE
namespace MbO
open MbM MbP
section
variable {w w' : World} {g rs rd : Nat} {vl vm : Value} {ms : List Nat} {n : Int} {S D : Img} {log : List Pt} {marks : List Img} {f h : Bool}
/-- Two other images. -/
theorem Mm.clones {rs' rd' : Nat} {F F' : Img} (H : Mm w g rs rd vl vm ms n S D log marks f h) (ht : Turn (fun b => b = g) w w') (hb : Blk w' g 93 (mbC7 n rs' rd' vl vm f h)) (hs : MapB w' rs' F) (hd : MapB w' rd' F') (hne : rs' ≠ rd') (hr : w.heap.size ≤ rs') (hr' : w.heap.size ≤ rd') :
    Mm w' g rs' rd' vl vm ms n F F' log marks f h where
  blk := hb
  pos := H.pos
  seen := hs
  dur := hd
  lg := H.lg.turn ht fun b e e2 => H.l_g (by rw [e, e2])
  mr := H.mr.turn ht fun b e e2 => H.m_g (by rw [e, e2])
  len := H.len
  im i m F h1 h2 := (H.im i m F h1 h2).turn ht fun e => map_ne (H.im i m F h1 h2) H.blk e.symm
  ne := hne
  out m hm := by have := H.lt (.inr hm); exact ⟨by omega, by omega⟩
/-- What holds in the midst of Back's two stores. -/
structure BkC (w0 : World) (g rs rd : Nat) (vl vm : Value) (n : Int) (f h : Bool) (F : Img) (d9 d17 d20 : Bool) (w' : World) : Prop where
  t : Turn (fun b => b = g) w0 w'
  b : d20 = false → Below w0.heap.size w0 w'
  c1 : d17 = true → d9 = true
  c2 : d20 = true → d17 = true
  s0 : d9 = false → w'.heap.size = w0.heap.size
  s1 : d9 = true → d17 = false → w'.heap.size = w0.heap.size + 1
  m1 : d9 = true → MapB w' w0.heap.size F
  m2 : d17 = true → MapB w' (w0.heap.size + 1) F
  blk : Blk w' g 93 (mbC7 n (if d20 then w0.heap.size else rs) rd vl vm f h)
theorem no_of {a b : Bool} (h : b = true → a = true) (ha : a = false) : b = false := by
  cases b with
  | false => rfl
  | true => rw [h rfl] at ha; cases ha
set_option maxHeartbeats 400000 in
theorem back2_bad (H : Mm w g rs rd vl vm ms n S D log marks f h) (i : Int) (hi : i < 0 ∨ (marks.length : Int) ≤ i) :
    Calls Try.prog 69 #[at' g, .int .i64 i] w fun e w' => e = .returned (.int .i64 2) ∧ w = w' := by
  have p0 : w.cell? ⟨g, 0, none⟩ = some (.int .i64 n) := H.blk.cell 0
  obtain ⟨A, c, e, _⟩ := H.mr.sli eltIm.len
  rw [List.length_map, H.len] at e
  have p4 : w.cell? ⟨g, 4, none⟩ = some (.slice A marks.length c) := by rw [← e]; exact H.blk.cell 4
  have hn := hid H.pos
  unfold at'
  clear H e
  by_cases h0 : i < 0
  · go_enter Try.func69, Try.ntmps69
    go_wp2_with fail
    refine (made_any g n hn.out w p0).mono ?_
    rintro e w' ⟨rfl, rfl⟩
    go_wp2_with fail
    go_ret
    exact ⟨rfl, rfl⟩
  · have t2 : (marks.length : Int) ≤ i := by omega
    go_enter Try.func69, Try.ntmps69
    go_wp2_with fail
    refine (made_any g n hn.out w p0).mono ?_
    rintro e w' ⟨rfl, rfl⟩
    go_wp2_with fail
    go_ret
    exact ⟨rfl, rfl⟩
set_option maxHeartbeats 1000000 in
set_option maxRecDepth 100000 in
theorem back2_any (H : Mm w g rs rd vl vm ms n S D log marks f h) (k : Nat) (F : Img) (hk : marks[k]? = some F) :
    Calls Try.prog 69 #[at' g, .int .i64 k] w fun e w' => e = .returned (.int .i64 0) ∧ ∃ rs' rd', Mm w' g rs' rd' (.slice none 0 0) vm ms n F F [] marks f true ∧
      w.heap.size ≤ rs' ∧ w.heap.size ≤ rd' ∧ Turn (fun b => b = g) w w' := by
  have p0 : w.cell? ⟨g, 0, none⟩ = some (.int .i64 n) := H.blk.cell 0
  obtain ⟨A, c, rfl, sl⟩ := H.mr.sli eltIm.len
  have hml : (ms.map some).length = marks.length := by rw [List.length_map, H.len]
  have hkl : k < marks.length := (List.getElem?_eq_some_iff.1 hk).1
  obtain ⟨m, hm⟩ : ∃ m, ms[k]? = some m := ⟨_, List.getElem?_eq_getElem (by rw [H.len]; exact hkl)⟩
  have hF := hid (H.im k m F hm hk)
  obtain ⟨b, o, rfl, _, hbl, hr⟩ := sl.some (i := k) (x := some m) (by rw [List.getElem?_map, hm]; rfl)
  have pk : w.cell? ⟨b, o + k * 1, none⟩ = some (.map (some m)) := hr 0 _ rfl
  rw [Nat.mul_one] at pk
  have HV := hid (show (Value.slice (some ⟨b, o, none⟩) (ms.map some).length c) = .slice (some ⟨b, o, none⟩) marks.length c by rw [hml])
  have p4 : w.cell? ⟨g, 4, none⟩ = some (.slice (some ⟨b, o, none⟩) marks.length c) := by rw [← hml]; exact H.blk.cell 4
  have hn := hid H.pos
  have HH := hid H
  unfold at'
  have t1 : (k : Int) < (marks.length : Int) := by omega
  clear H hml sl hr hm hk
  go_enter Try.func69, Try.ntmps69
  go_wp2_with fail
  refine (made_any g n hn.out w p0).mono ?_
  rintro e w' ⟨rfl, rfl⟩
  go_upto_region 5 with fail
  have hFm := hid (show ∀ w', Turn (fun b => b = g) w w' → MapB w' m F from fun w' ht => hF.out.turn ht fun e => map_ne hF.out HH.out.blk e.symm)
  have hbg : b ≠ g := fun e => HH.out.m_g (by rw [e]; rfl)
  have hgl := HH.out.blk.lt
  refine wp_region_c (S := yS [some (.pointer (some ⟨g, 0, none⟩)), some (.pointer (some ⟨g, 0, none⟩)), some (.pointer (some ⟨g, 0, none⟩)), some (.pointer (some ⟨g, 0, none⟩)), some (.pointer (some ⟨g, 4, none⟩)), some (.slice (some ⟨b, o, none⟩) marks.length c), some (.int .i64 k), some (.pointer (some ⟨b, o + k, none⟩)), some (.map (some m)), some (.map (some w.heap.size)),
      some (.pointer (some ⟨g, 0, none⟩)), some (.pointer (some ⟨g, 0, none⟩)), some (.pointer (some ⟨g, 4, none⟩)), some (.slice (some ⟨b, o, none⟩) marks.length c), some (.int .i64 k), some (.pointer (some ⟨b, o + k, none⟩)), some (.map (some m)), some (.map (some (w.heap.size + 1))), some (.pointer (some ⟨g, 0, none⟩)), some (.pointer (some ⟨g, 1, none⟩)), none] [])
    (C := fun d _ w' => BkC w g rs rd vl (.slice (some ⟨b, o, none⟩) marks.length c) n f h F (d 9) (d 17) (d 20) w') 21 (by kernel_rfl) (by kernel_rfl) (by kernel_rfl) _ (yS_ok _ fun y hy => by cases hy) ?_ fun vs => ?_
  · exact ⟨Turn.drew _, fun _ => (Below.refl _ _).drew, (fun e => by cases e), (fun e => by cases e), fun _ => rfl, (fun e => by cases e), (fun e => by cases e), (fun e => by cases e), by
      have := HH.out.blk.turn (Turn.drew (S := fun _ => False) w) id
      rw [HV.out] at this
      exact this⟩
  simp only [List.take_succ_cons, List.take_zero, List.drop_succ_cons, List.drop_zero]
  refine ⟨.inl ⟨rfl, fun dd w' hd hnx hw hC => ?_⟩, fun e => ?_⟩
  · go_simp
    first | exact ⟨rfl, hC⟩ | exact hC
  have e' : vs 0 = _ := e
  rw [e']
  clear e e'
  simp only [Act.put, List.setIfInBounds_toArray, List.set_cons_succ, List.set_cons_zero]
  refine ⟨.inl ⟨rfl, fun dd w' hd hnx hw hC => ?_⟩, fun e => ?_⟩
  · go_simp
    first | exact ⟨rfl, hC⟩ | exact hC
  have e' : vs 1 = _ := e
  rw [e']
  clear e e'
  simp only [Act.put, List.setIfInBounds_toArray, List.set_cons_succ, List.set_cons_zero]
  refine ⟨.inl ⟨rfl, fun dd w' hd hnx hw hC => ?_⟩, fun e => ?_⟩
  · go_simp
    first | exact ⟨rfl, hC⟩ | exact hC
  have e' : vs 2 = _ := e
  rw [e']
  clear e e'
  simp only [Act.put, List.setIfInBounds_toArray, List.set_cons_succ, List.set_cons_zero]
  refine ⟨.inl ⟨rfl, fun dd w' hd hnx hw hC => ?_⟩, fun e => ?_⟩
  · go_simp
    first | exact ⟨rfl, hC⟩ | exact hC
  have e' : vs 3 = _ := e
  rw [e']
  clear e e'
  simp only [Act.put, List.setIfInBounds_toArray, List.set_cons_succ, List.set_cons_zero]
  refine ⟨.inl ⟨rfl, fun dd w' hd hnx hw hC => ?_⟩, fun e => ?_⟩
  · go_simp
    first | exact ⟨rfl, hC⟩ | exact hC
  have e' : vs 4 = _ := e
  rw [e']
  clear e e'
  simp only [Act.put, List.setIfInBounds_toArray, List.set_cons_succ, List.set_cons_zero]
  refine ⟨.inl ⟨rfl, fun dd w' hd hnx hw hC => ?_⟩, fun e => ?_⟩
  · have h1 : w'.cell? ⟨g, 4, none⟩ = some (.slice (some ⟨b, o, none⟩) marks.length c) := hC.blk.cell 4
    go_simp
    first | exact ⟨rfl, hC⟩ | exact hC
  have e' : vs 5 = _ := e
  rw [e']
  clear e e'
  simp only [Act.put, List.setIfInBounds_toArray, List.set_cons_succ, List.set_cons_zero]
  refine ⟨.inl ⟨rfl, fun dd w' hd hnx hw hC => ?_⟩, fun e => ?_⟩
  · go_simp
    first | exact ⟨rfl, hC⟩ | exact hC
  have e' : vs 6 = _ := e
  rw [e']
  clear e e'
  simp only [Act.put, List.setIfInBounds_toArray, List.set_cons_succ, List.set_cons_zero]
  refine ⟨.inl ⟨rfl, fun dd w' hd hnx hw hC => ?_⟩, fun e => ?_⟩
  · go_simp
    first | exact ⟨rfl, hC⟩ | exact hC
  have e' : vs 7 = _ := e
  rw [e']
  clear e e'
  simp only [Act.put, List.setIfInBounds_toArray, List.set_cons_succ, List.set_cons_zero]
  refine ⟨.inl ⟨rfl, fun dd w' hd hnx hw hC => ?_⟩, fun e => ?_⟩
  · have h1 : w'.cell? ⟨b, o + k, none⟩ = some (.map (some m)) := hC.t.cell pk hbg
    go_simp
    first | exact ⟨rfl, hC⟩ | exact hC
  have e' : vs 8 = _ := e
  rw [e']
  clear e e'
  simp only [Act.put, List.setIfInBounds_toArray, List.set_cons_succ, List.set_cons_zero]
  refine ⟨.inl ⟨rfl, fun dd w' hd hnx hw hC => ?_⟩, fun e => ?_⟩
  · have h17 := no_of hC.c1 hd
    have h20 := no_of hC.c2 h17
    have hs0 := hC.s0 hd
    go_simp
    refine (clone_any m F w' (hFm.out w' hC.t)).mono ?_
    rintro e w4 ⟨rfl, m4, h4, hs4⟩
    rw [hs0] at m4 hs4 ⊢
    exact ⟨_, rfl, rfl, hC.t.trans (Turn.of_new (S := fun _ => False) h4) (fun _ e => e.elim), (fun _ => (hC.b h20).trans (h4.mono (by omega))), (fun _ => rfl), hC.c2, (fun e => by cases e), (fun _ _ => hs4), (fun _ => m4), (fun e => by
      have e' : dd 17 = true := e
      rw [h17] at e'; cases e'), hC.blk.below h4 (by omega)⟩
  have e' : vs 9 = _ := e
  rw [e']
  clear e e'
  simp only [Act.put, List.setIfInBounds_toArray, List.set_cons_succ, List.set_cons_zero]
  refine ⟨.inl ⟨rfl, fun dd w' hd hnx hw hC => ?_⟩, fun e => ?_⟩
  · go_simp
    first | exact ⟨rfl, hC⟩ | exact hC
  have e' : vs 10 = _ := e
  rw [e']
  clear e e'
  simp only [Act.put, List.setIfInBounds_toArray, List.set_cons_succ, List.set_cons_zero]
  refine ⟨.inl ⟨rfl, fun dd w' hd hnx hw hC => ?_⟩, fun e => ?_⟩
  · go_simp
    first | exact ⟨rfl, hC⟩ | exact hC
  have e' : vs 11 = _ := e
  rw [e']
  clear e e'
  simp only [Act.put, List.setIfInBounds_toArray, List.set_cons_succ, List.set_cons_zero]
  refine ⟨.inl ⟨rfl, fun dd w' hd hnx hw hC => ?_⟩, fun e => ?_⟩
  · go_simp
    first | exact ⟨rfl, hC⟩ | exact hC
  have e' : vs 12 = _ := e
  rw [e']
  clear e e'
  simp only [Act.put, List.setIfInBounds_toArray, List.set_cons_succ, List.set_cons_zero]
  refine ⟨.inl ⟨rfl, fun dd w' hd hnx hw hC => ?_⟩, fun e => ?_⟩
  · have h1 : w'.cell? ⟨g, 4, none⟩ = some (.slice (some ⟨b, o, none⟩) marks.length c) := hC.blk.cell 4
    go_simp
    first | exact ⟨rfl, hC⟩ | exact hC
  have e' : vs 13 = _ := e
  rw [e']
  clear e e'
  simp only [Act.put, List.setIfInBounds_toArray, List.set_cons_succ, List.set_cons_zero]
  refine ⟨.inl ⟨rfl, fun dd w' hd hnx hw hC => ?_⟩, fun e => ?_⟩
  · go_simp
    first | exact ⟨rfl, hC⟩ | exact hC
  have e' : vs 14 = _ := e
  rw [e']
  clear e e'
  simp only [Act.put, List.setIfInBounds_toArray, List.set_cons_succ, List.set_cons_zero]
  refine ⟨.inl ⟨rfl, fun dd w' hd hnx hw hC => ?_⟩, fun e => ?_⟩
  · go_simp
    first | exact ⟨rfl, hC⟩ | exact hC
  have e' : vs 15 = _ := e
  rw [e']
  clear e e'
  simp only [Act.put, List.setIfInBounds_toArray, List.set_cons_succ, List.set_cons_zero]
  refine ⟨.inl ⟨rfl, fun dd w' hd hnx hw hC => ?_⟩, fun e => ?_⟩
  · have h1 : w'.cell? ⟨b, o + k, none⟩ = some (.map (some m)) := hC.t.cell pk hbg
    go_simp
    first | exact ⟨rfl, hC⟩ | exact hC
  have e' : vs 16 = _ := e
  rw [e']
  clear e e'
  simp only [Act.put, List.setIfInBounds_toArray, List.set_cons_succ, List.set_cons_zero]
  refine ⟨.inl ⟨rfl, fun dd w' hd hnx hw hC => ?_⟩, fun e => ?_⟩
  · have h9 : dd 9 = true := hw 9 (by kernel_rfl)
    have h20 := no_of hC.c2 hd
    have hs1 := hC.s1 h9 hd
    go_simp
    refine (clone_any m F w' (hFm.out w' hC.t)).mono ?_
    rintro e w4 ⟨rfl, m4, h4, hs4⟩
    rw [hs1] at m4 hs4 ⊢
    exact ⟨_, rfl, rfl, hC.t.trans (Turn.of_new (S := fun _ => False) h4) (fun _ e => e.elim), (fun _ => (hC.b h20).trans (h4.mono (by omega))), (fun _ => h9), (fun _ => rfl), (fun e => by
      have e' : dd 9 = false := e
      rw [h9] at e'; cases e'), (fun _ e => by cases e), (fun _ => (hC.m1 h9).below h4), (fun _ => m4), hC.blk.below h4 (by omega)⟩
  have e' : vs 17 = _ := e
  rw [e']
  clear e e'
  simp only [Act.put, List.setIfInBounds_toArray, List.set_cons_succ, List.set_cons_zero]
  refine ⟨.inl ⟨rfl, fun dd w' hd hnx hw hC => ?_⟩, fun e => ?_⟩
  · go_simp
    first | exact ⟨rfl, hC⟩ | exact hC
  have e' : vs 18 = _ := e
  rw [e']
  clear e e'
  simp only [Act.put, List.setIfInBounds_toArray, List.set_cons_succ, List.set_cons_zero]
  refine ⟨.inl ⟨rfl, fun dd w' hd hnx hw hC => ?_⟩, fun e => ?_⟩
  · go_simp
    first | exact ⟨rfl, hC⟩ | exact hC
  have e' : vs 19 = _ := e
  rw [e']
  clear e e'
  simp only [Act.put, List.setIfInBounds_toArray, List.set_cons_succ, List.set_cons_zero]
  refine ⟨.inl ⟨rfl, fun dd w' hd hnx hw hC => ?_⟩, fun e => ?_⟩
  · have h9 : dd 9 = true := hw 9 (by kernel_rfl)
    have h17 : dd 17 = true := hw 17 (by kernel_rfl)
    have hb := hC.blk
    rw [hd, if_neg (by simp)] at hb
    have h1 : w'.cell? ⟨g, 1, none⟩ = some (.map (some rs)) := hb.cell 1
    have fz := hb.frozen 1
    have tu := Turn.setCell (S := fun b => b = g) w' ⟨g, 1, none⟩ (.map (some w.heap.size)) rfl
    have hm1 := hC.m1 h9
    have hm2 := hC.m2 h17
    have hfin0 : BkC w g rs rd vl (.slice (some ⟨b, o, none⟩) marks.length c) n f h F true true true (w'.setCell ⟨g, 1, none⟩ (.map (some w.heap.size))) := ⟨hC.t.trans tu fun _ e => .inl e, (fun e => by cases e), fun _ => rfl, fun _ => rfl, (fun e => by cases e), (fun _ e => by cases e),
      (fun _ => hm1.turn tu fun e => by omega), (fun _ => hm2.turn tu fun e => by omega), hb.setCell_same 1 _⟩
    have hfin : BkC w g rs rd vl (.slice (some ⟨b, o, none⟩) marks.length c) n f h F (dd 9) (dd 17) true (w'.setCell ⟨g, 1, none⟩ (.map (some w.heap.size))) := by rw [h9, h17]; exact hfin0
    go_simp
    first | exact ⟨trivial, hfin⟩ | exact hfin
  simp only [Act.put]
  clear e
  intro dd w4 hall hC
  rw [hall 9 (by omega), hall 17 (by omega), hall 20 (by omega)] at hC
  have hb := hC.blk
  rw [if_pos rfl] at hb
  have p2 : w4.cell? ⟨g, 2, none⟩ = some (.map (some rd)) := hb.cell 2
  have fz := hb.frozen 2
  have tu := Turn.setCell (S := fun b => b = g) w4 ⟨g, 2, none⟩ (.map (some (w.heap.size + 1))) rfl
  have M5 := hid (show Mm (w4.setCell ⟨g, 2, none⟩ (.map (some (w.heap.size + 1)))) g w.heap.size (w.heap.size + 1) vl (.slice (some ⟨b, o, none⟩) (ms.map some).length c) ms n F F log marks f h from
    HH.out.clones (hC.t.trans tu fun _ e => .inl e) (by rw [HV.out]; exact hb.setCell_same 2 _) ((hC.m1 rfl).turn tu fun e => by omega) ((hC.m2 rfl).turn tu fun e => by omega) (by omega) (Nat.le_refl _) (by omega))
  have T5 := hid (show Turn (fun b => b = g) w (w4.setCell ⟨g, 2, none⟩ (.map (some (w.heap.size + 1)))) from hC.t.trans tu fun _ e => .inl e)
  clear hC hb tu hFm HH hF HV hall
  go_upto_region 6 with fail
  generalize World.setCell w4 _ _ = w5 at M5 T5 ⊢
  have p3 : w5.cell? ⟨g, 3, none⟩ = some vl := M5.out.blk.cell 3
  have fz := M5.out.blk.frozen 3
  have M6 := hid M5.out.noLog
  have T6 := hid (T5.out.trans (Turn.setCell (S := fun b => b = g) w5 ⟨g, 3, none⟩ (.slice none 0 0) rfl) fun _ e => .inl e)
  clear M5 T5
  go_upto_region 7 with fail
  generalize World.setCell w5 _ _ = w6 at M6 T6 ⊢
  have p6 : w6.cell? ⟨g, 6, none⟩ = some (.bool h) := M6.out.blk.cell 6
  have fz := M6.out.blk.frozen 6
  have M7 := hid (M6.out.hurt true)
  have T7 := hid (T6.out.trans (Turn.setCell (S := fun b => b = g) w6 ⟨g, 6, none⟩ (.bool true) rfl) fun _ e => .inl e)
  clear M6 T6
  go_wp2_with fail
  go_ret
  exact ⟨rfl, _, _, M7.out, Nat.le_refl _, by omega, T7.out⟩
end
end MbO
end Go.Proofs.Ytablkaofaedpeaa
set_option maxRecDepth 100000
namespace Go.Proofs.Ytablkaofaedpeaa
open Go.ChangeShapes Go.WideShapes Go.ChangeAt Go.RowKit
attribute [local go_sem] Gives GivesE
theorem made_none (n : Nat) (z : Value) : (madeCells #[z] n).toList = List.replicate n z := by
  unfold madeCells
  apply List.ext_getElem?
  intro j
  simp [Nat.mod_one, List.getElem?_replicate]
  by_cases h : j < n
  · rw [List.getElem?_range h, if_pos h]; rfl
  · rw [List.getElem?_eq_none (by simp; omega), if_neg h]; rfl
namespace MbO
open MbM MbP
set_option maxRecDepth 100000 in
/-- slices.Clone, of unflushed writes. -/
theorem cloneW_any (v : Value) (l : List Pt) (w : World) (hO : OwnL w 0 v l) (hlen : l.length ≤ 10000) :
    Calls Try.prog 52 #[v] w fun e w' => ∃ v', e = .returned v' ∧ OwnL w' w.heap.size v' l ∧ Below w.heap.size w w' := by
  obtain ⟨A, cap, rfl, sl⟩ := hO.sli atL_len
  have SL := hid sl
  cases A with
  | none =>
    obtain ⟨hl0, rfl⟩ := sl.none rfl
    obtain rfl := List.eq_nil_of_length_eq_zero hl0
    have hq : ∀ w, (binOp .eql 90 (.slice none 0 0) (.slice none 0 0)).run Try.prog w = .ok (.bool true) w := fun w => Go.Lib.run_eql_slice_nil (P := Try.prog) w 90 100 none 0 0 0 0 undWr
    rw [List.length_nil]
    clear hO sl SL hl0
    go_enter Try.func52, Try.ntmps52
    go_wp2_with fail
    go_ret
    exact ⟨_, rfl, OwnX.nil _ _ _ _ _, Below.refl _ _⟩
  | some ad =>
    have hq : ∀ w, (binOp .eql 90 (.slice (some ad) l.length cap) (.slice none 0 0)).run Try.prog w = .ok (.bool false) w := fun w => Go.Lib.run_eql_slice_nil (P := Try.prog) w 90 100 (some ad) l.length cap 0 0 undWr
    clear hO sl
    go_enter Try.func52, Try.ntmps52
    go_wp2_with (at_builtin; (with_reducible apply wappX eltWr undWr (B := w.heap.size)); rfl; rfl; exact OwnX.empty (Nat.le_refl _); exact SL.out.turn (Turn.alloc (S := fun _ => False) w _) (fun _ _ _ e => e); (simp; omega); omega; (simp); intro v2 w2 o2 g2)
    rw [List.nil_append] at o2
    have b2 : Below w.heap.size w w2 := ((Below.refl _ _).alloc (Nat.le_refl _) _).trans ((Turn.of_grown (S := fun b => w.heap.size ≤ b) g2 fun b e => by cases e; simp).below (by simp) fun _ h => h)
    go_ret
    exact ⟨_, rfl, o2, b2⟩
theorem tMb7 (n : Int) (rs rd : Nat) (vl vm : Value) (f h : Bool) : RowT 93 (mbC7 n rs rd vl vm f h).size := ⟨by kernel_rfl, _, Try.underlying93, rfl⟩
def zMb7 : Array Value := #[.int .i64 0, .map none, .map none, .slice none 0 0, .slice none 0 0, .bool false, .bool false]
theorem zMb (w : World) : (zeroValue 93).run Try.prog w = .ok (.agg zMb7) w := (zero_of_info (P := Try.prog) (t := 93) (v := .agg zMb7) (n := 7) (by kernel_rfl)).1 w
theorem wmkI {ops : Array Oper} {Q : Exit → Act → World → Prop} {a : Act} {w : World} {rest : List Oper} {dst : Option Tmp} {ty : TypeId} {pos : String} {after : Array Edge} {x y : Operand} {N : Nat} (hx : a.eval x = .int .i64 N) (hy : a.eval y = .int .i64 N) (hN : N ≤ 64)
    (h : wpList Try.prog ops Q rest (a.put dst (.slice (some ⟨w.heap.size, 0, none⟩) N N)) (w.alloc (.cells (Array.replicate N (Value.map none)) 89))) :
    wpList Try.prog ops Q (⟨dst, .makeSlice 91 x y, ty, pos, after, none⟩ :: rest) a w := by
  obtain ⟨i, z, hi, hz, h1, h2, h3⟩ := eltIm.info
  have hz2 : z = .map none := by
    have : (Try.prog.info? 89).bind (·.zero) = some (.map none) := by kernel_rfl
    rw [hi] at this
    simp only [Option.bind_some, hz, Option.some.injEq] at this
    exact this
  subst hz2
  have hr := run_make_row (P := Try.prog) 91 89 i (.map none) undIm hi hz h1 rfl .i64 .i64 N (Nat.le_trans (Nat.mul_le_mul h2 hN) (by omega)) (by omega) w
  rw [show madeCells #[Value.map none] N = Array.replicate N (Value.map none) from Array.ext' (by rw [made_none, Array.toList_replicate])] at hr
  refine wpList_plain rfl fun K hK => ?_
  unfold Oper.wp execOp
  simp only [Sem.run_bind, hx, hy, hr, Result.andThen_ok]
  exact hK _ _ h
/-- What holds in the midst of the clones of Copy. -/
structure CpC (w0 : World) (S D : Img) (d4 d9 : Bool) (w' : World) : Prop where
  b : Below w0.heap.size w0 w'
  c1 : d9 = true → d4 = true
  s0 : d4 = false → w'.heap.size = w0.heap.size
  s1 : d4 = true → d9 = false → w'.heap.size = w0.heap.size + 1
  m1 : d4 = true → MapB w' w0.heap.size S
  m2 : d9 = true → MapB w' (w0.heap.size + 1) D
/-- A member that is being copied. -/
structure CpL (w0 w : World) (g rs rd : Nat) (vl : Value) (gm N : Nat) (ds : List Nat) (n : Int) (S D : Img) (log : List Pt) (marks : List Img) (f h : Bool) : Prop where
  blk : Blk w g 93 (mbC7 n rs rd vl (.slice (some ⟨gm, 0, none⟩) N N) f h)
  seen : MapB w rs S
  dur : MapB w rd D
  lg : OwnL w w0.heap.size vl log
  mr : Blk w gm 89 (ds.map (fun d => Value.map (some d)) ++ List.replicate (N - ds.length) (Value.map none)).toArray
  im : ∀ (i m : Nat) (F : Img), ds[i]? = some m → marks[i]? = some F → MapB w m F
  len : ds.length ≤ N ∧ marks.length = N
  new : w0.heap.size ≤ g ∧ w0.heap.size ≤ rs ∧ w0.heap.size ≤ rd ∧ w0.heap.size ≤ gm ∧ ∀ d, d ∈ ds → w0.heap.size ≤ d
  ne : rs ≠ rd
  out : ∀ d, d ∈ ds → d ≠ rs ∧ d ≠ rd
  b : Below w0.heap.size w0 w
section
variable {w0 w w' : World} {g rs rd : Nat} {vl vm : Value} {gm N : Nat} {ds ms : List Nat} {n : Int} {S D : Img} {log : List Pt} {marks : List Img} {f h : Bool}
theorem CpL.im_ex (H : CpL w0 w g rs rd vl gm N ds n S D log marks f h) {d : Nat} (hd : d ∈ ds) : ∃ F, MapB w d F := by
  obtain ⟨i, hi⟩ := List.mem_iff_getElem?.1 hd
  have hil : i < marks.length := by have := (List.getElem?_eq_some_iff.1 hi).1; have := H.len; omega
  exact ⟨_, H.im i d _ hi (List.getElem?_eq_getElem hil)⟩
theorem CpL.below (H : CpL w0 w g rs rd vl gm N ds n S D log marks f h) (hb : Below w.heap.size w w') : CpL w0 w' g rs rd vl gm N ds n S D log marks f h where
  blk := H.blk.below hb H.blk.lt
  seen := H.seen.below hb
  dur := H.dur.below hb
  lg := H.lg.below hb (Nat.le_refl _)
  mr := H.mr.below hb H.mr.lt
  im i m F h1 h2 := (H.im i m F h1 h2).below hb
  len := H.len
  new := H.new
  ne := H.ne
  out := H.out
  b := H.b.trans (hb.mono H.b.size)
theorem CpL.put (H : CpL w0 w g rs rd vl gm N ds n S D log marks f h) (hb : Below w.heap.size w w') (r : Nat) (F : Img) (hr : w.heap.size ≤ r) (hm : MapB w' r F) (hF : marks[ds.length]? = some F) (hl : ds.length < N) :
    CpL w0 (w'.setCell ⟨gm, ds.length, none⟩ (.map (some r))) g rs rd vl gm N (ds ++ [r]) n S D log marks f h := by
  have H' := H.below hb
  have hgm := H.mr.lt
  have tu := Turn.setCell (S := fun b => b = gm) w' ⟨gm, ds.length, none⟩ (.map (some r)) rfl
  have hmr : ∀ {x : Nat} {G : Img}, MapB w' x G → x ≠ gm := fun hx e => map_ne hx (show w'.heap[gm]? = some (.cells _ 89 (0, 0)) from H'.mr) e.symm
  exact {
    blk := H'.blk.turn tu fun e => by
      have h1 : w'.heap[g]? = some (.cells _ 93 (0, 0)) := H'.blk
      have h2 : w'.heap[gm]? = some (.cells _ 89 (0, 0)) := H'.mr
      rw [e, h2] at h1
      simp at h1
    seen := H'.seen.turn tu (hmr H'.seen)
    dur := H'.dur.turn tu (hmr H'.dur)
    lg := H'.lg.turn tu fun b e e2 => by
      obtain ⟨c, hc⟩ := H'.lg.obj e
      have h2 : w'.heap[gm]? = some (.cells _ 89 (0, 0)) := H'.mr
      rw [e2, h2] at hc
      simp at hc
    mr := by
      have h1 := H'.mr.setCell_same ds.length (.map (some r))
      have e : ((ds.map (fun d => Value.map (some d)) ++ List.replicate (N - ds.length) (Value.map none)).toArray).setIfInBounds ds.length (.map (some r)) = ((ds ++ [r]).map (fun d => Value.map (some d)) ++ List.replicate (N - (ds ++ [r]).length) (Value.map none)).toArray := by
        rw [List.setIfInBounds_toArray, List.set_append_right _ _ (by rw [List.length_map]; exact Nat.le_refl _), List.length_map, Nat.sub_self, List.length_append, List.length_cons, List.length_nil, List.map_append, List.append_assoc]
        obtain ⟨q, hq⟩ : ∃ q, N - ds.length = q + 1 := ⟨N - ds.length - 1, by omega⟩
        rw [hq, show N - (ds.length + (0 + 1)) = q by omega, List.replicate_succ]
        rfl
      rw [e] at h1
      exact h1
    im := fun i m G h1 h2 => by
      by_cases hi : i < ds.length
      · rw [List.getElem?_append_left hi] at h1
        exact (H'.im i m G h1 h2).turn tu (hmr (H'.im i m G h1 h2))
      · have hi2 : i = ds.length := by
          have := (List.getElem?_eq_some_iff.1 h1).1
          rw [List.length_append, List.length_cons, List.length_nil] at this
          omega
        subst hi2
        rw [List.getElem?_append_right (Nat.le_refl _), Nat.sub_self, List.getElem?_cons_zero] at h1
        cases h1
        rw [hF] at h2
        cases h2
        exact hm.turn tu (hmr hm)
    len := ⟨by rw [List.length_append, List.length_cons, List.length_nil]; omega, H.len.2⟩
    new := ⟨H.new.1, H.new.2.1, H.new.2.2.1, H.new.2.2.2.1, fun d hd => by
      rcases List.mem_append.1 hd with hd | hd
      · exact H.new.2.2.2.2 d hd
      · rw [List.mem_singleton] at hd
        subst hd
        exact Nat.le_trans H.b.size hr⟩
    ne := H.ne
    out := fun d hd => by
      rcases List.mem_append.1 hd with hd | hd
      · exact H.out d hd
      · rw [List.mem_singleton] at hd
        subst hd
        have := H.seen.lt
        have := H.dur.lt
        exact ⟨by omega, by omega⟩
    b := H'.b.trans (tu.below (Nat.le_trans H.new.2.2.2.1 (Nat.le_of_lt H'.mr.lt) |> fun _ => H'.b.size) fun b e => by rw [e]; exact H.new.2.2.2.1) }
theorem CpL.full (H : CpL w0 w g rs rd vl gm N ds n S D log marks f h) (hl : ds.length = N) (hn : 0 < n) (hN : N ≤ 64) : Mm w g rs rd vl (.slice (some ⟨gm, 0, none⟩) N N) ds n S D log marks f h where
  blk := H.blk
  pos := hn
  seen := H.seen
  dur := H.dur
  lg := H.lg.lower (Nat.zero_le _)
  mr := by
    have h1 := H.mr
    rw [hl, Nat.sub_self, List.replicate_zero, List.append_nil] at h1
    have h2 : w.heap[gm]? = some (.cells (ds.map (fun d => Value.map (some d))).toArray 89 (0, 0)) := h1
    have := own_of_ranges (l := ds.map some) (cap := N) (k := 1) (en := imE) (fun _ => rfl) (by omega) h2 (by simp [hl]) (by simp [hl]) (by unfold maxLen; omega) fun q x hx j v hj => by
      rw [cell_of_row w gm _ _ 89 (0, 0) h2]
      cases j with
      | zero =>
        rw [Nat.mul_one, Nat.add_zero]
        rw [List.getElem?_map] at hx
        cases hd : ds[q]? with
        | none => rw [hd] at hx; cases hx
        | some d =>
          rw [hd] at hx
          cases hx
          have : v = .map (some d) := by simpa [imE] using hj.symm
          subst this
          simp [hd]
      | succ j => simp [imE] at hj
    rw [List.length_map, hl] at this
    exact this
  len := by rw [hl, H.len.2]
  im := H.im
  ne := H.ne
  out := H.out
end
section
variable {w : World} {g rs rd : Nat} {vl vm : Value} {ms : List Nat} {n : Int} {S D : Img} {log : List Pt} {marks : List Img} {f h : Bool}
set_option maxHeartbeats 1000000 in
set_option maxRecDepth 100000 in
theorem copy2_any (H : Mm w g rs rd vl vm ms n S D log marks f h) (hlen : log.length ≤ 10000) (hN : marks.length ≤ 64) :
    Calls Try.prog 26 #[at' g] w fun e w' => ∃ g2 rs2 rd2 vl2 vm2 ms2, e = .returned (at' g2) ∧ Mm w' g2 rs2 rd2 vl2 vm2 ms2 n S D log marks f h ∧
      (∀ b, mSet g2 rs2 rd2 vl2 vm2 b ∨ b ∈ ms2 → w.heap.size ≤ b) ∧ Below w.heap.size w w' := by
  have p0 : w.cell? ⟨g, 0, none⟩ = some (.int .i64 n) := H.blk.cell 0
  obtain ⟨A, c, e, _⟩ := H.mr.sli eltIm.len
  rw [List.length_map, H.len] at e
  subst e
  obtain ⟨A1, c1, e, _⟩ := H.lg.sli atL_len
  subst e
  have hone : (mbC7 n rs rd (.slice A1 log.length c1) (.slice A marks.length c) f h).all (·.oneCell') = true := by simp [mbC7, Value.oneCell']
  have hn := hid H.pos
  have HH := hid H
  unfold at'
  clear H
  go_enter Try.func26, Try.ntmps26
  go_wp2_with fail
  refine (made_any g n hn.out w p0).mono ?_
  rintro e w' ⟨rfl, rfl⟩
  go_upto_region 4 with (first
    | ((with_reducible apply ldR (cs := mbC7 n rs rd (.slice A1 log.length c1) (.slice A marks.length c) f h) (tMb7 _ _ _ _ _ _ _)); rfl; exact HH.out.blk.whole)
    | (with_reducible apply alZ zMb)
    | ((with_reducible apply stR (tMb7 _ _ _ _ _ _ _)); rfl; rfl; exact Blk.new _ _ _; rfl; exact hone))
  generalize hw1 : World.setRow _ _ _ = w1
  obtain ⟨g2, hg2⟩ : ∃ g2, g2 = w.heap.size := ⟨_, rfl⟩
  rw [← hg2] at hw1 ⊢
  have b1 := hid (show Blk w1 g2 93 (mbC7 n rs rd (.slice A1 log.length c1) (.slice A marks.length c) f h) by rw [← hw1, hg2]; exact (Blk.new w _ _).setRow_same _)
  have B1 := hid (show Below w.heap.size w w1 by rw [← hw1]; exact below_setRow ((Below.refl _ _).alloc (Nat.le_refl _) _) (by omega) _)
  have H1 := hid (HH.out.below B1.out)
  have hg2l := b1.out.lt
  have HG2 := hid hg2
  have hgg : g < g2 := by have := HH.out.blk.lt; omega
  have hold := hid (show ∀ b, mSet g rs rd (.slice A1 log.length c1) (.slice A marks.length c) b ∨ b ∈ ms → b ≠ g2 from fun b hb e => by have := HH.out.lt hb; omega)
  have hge : w.heap.size ≤ g2 := by omega
  clear hw1 p0 hg2
  simp only [Act.put, List.setIfInBounds_toArray, List.set_cons_succ, List.set_cons_zero]
  refine wp_region_c (S := yS [some (.pointer (some ⟨g, 0, none⟩)), some (.pointer (some ⟨g, 0, none⟩)), some (.pointer (some ⟨g, 1, none⟩)), some (.map (some rs)), some (.map (some w1.heap.size)), some (.pointer (some ⟨g, 0, none⟩)), some (.pointer (some ⟨g, 0, none⟩)), some (.pointer (some ⟨g, 2, none⟩)), some (.map (some rd)), some (.map (some (w1.heap.size + 1)))] [])
    (C := fun d _ w' => CpC w1 S D (d 4) (d 9) w') 10 (by kernel_rfl) (by kernel_rfl) (by kernel_rfl) _ (yS_ok _ fun y hy => by cases hy)
    ⟨(Below.refl _ _).drew, (fun e => by cases e), fun _ => rfl, (fun e => by cases e), (fun e => by cases e), (fun e => by cases e)⟩ fun vs => ?_
  simp only [List.take_succ_cons, List.take_zero, List.drop_succ_cons, List.drop_zero]
  refine ⟨.inl ⟨rfl, fun dd w' hd hnx hw hC => ?_⟩, fun e => ?_⟩
  · go_simp
    first | exact ⟨rfl, hC⟩ | exact hC
  have e' : vs 0 = _ := e
  rw [e']
  clear e e'
  simp only [Act.put, List.setIfInBounds_toArray, List.set_cons_succ, List.set_cons_zero]
  refine ⟨.inl ⟨rfl, fun dd w' hd hnx hw hC => ?_⟩, fun e => ?_⟩
  · go_simp
    first | exact ⟨rfl, hC⟩ | exact hC
  have e' : vs 1 = _ := e
  rw [e']
  clear e e'
  simp only [Act.put, List.setIfInBounds_toArray, List.set_cons_succ, List.set_cons_zero]
  refine ⟨.inl ⟨rfl, fun dd w' hd hnx hw hC => ?_⟩, fun e => ?_⟩
  · go_simp
    first | exact ⟨rfl, hC⟩ | exact hC
  have e' : vs 2 = _ := e
  rw [e']
  clear e e'
  simp only [Act.put, List.setIfInBounds_toArray, List.set_cons_succ, List.set_cons_zero]
  refine ⟨.inl ⟨rfl, fun dd w' hd hnx hw hC => ?_⟩, fun e => ?_⟩
  · have h1 : w'.cell? ⟨g, 1, none⟩ = some (.map (some rs)) := (H1.out.below hC.b).blk.cell 1
    go_simp
    first | exact ⟨rfl, hC⟩ | exact hC
  have e' : vs 3 = _ := e
  rw [e']
  clear e e'
  simp only [Act.put, List.setIfInBounds_toArray, List.set_cons_succ, List.set_cons_zero]
  refine ⟨.inl ⟨rfl, fun dd w' hd hnx hw hC => ?_⟩, fun e => ?_⟩
  · have h9 := no_of hC.c1 hd
    have hs0 := hC.s0 hd
    go_simp
    refine (clone_any rs S w' (H1.out.below hC.b).seen).mono ?_
    rintro e w4 ⟨rfl, m4, h4, hs4⟩
    rw [hs0] at m4 hs4 ⊢
    exact ⟨_, rfl, rfl, hC.b.trans (h4.mono (by omega)), (fun _ => rfl), (fun e => by cases e), (fun _ _ => hs4), (fun _ => m4), fun e => by
      have e' : dd 9 = true := e
      rw [h9] at e'; cases e'⟩
  have e' : vs 4 = _ := e
  rw [e']
  clear e e'
  simp only [Act.put, List.setIfInBounds_toArray, List.set_cons_succ, List.set_cons_zero]
  refine ⟨.inl ⟨rfl, fun dd w' hd hnx hw hC => ?_⟩, fun e => ?_⟩
  · go_simp
    first | exact ⟨rfl, hC⟩ | exact hC
  have e' : vs 5 = _ := e
  rw [e']
  clear e e'
  simp only [Act.put, List.setIfInBounds_toArray, List.set_cons_succ, List.set_cons_zero]
  refine ⟨.inl ⟨rfl, fun dd w' hd hnx hw hC => ?_⟩, fun e => ?_⟩
  · go_simp
    first | exact ⟨rfl, hC⟩ | exact hC
  have e' : vs 6 = _ := e
  rw [e']
  clear e e'
  simp only [Act.put, List.setIfInBounds_toArray, List.set_cons_succ, List.set_cons_zero]
  refine ⟨.inl ⟨rfl, fun dd w' hd hnx hw hC => ?_⟩, fun e => ?_⟩
  · go_simp
    first | exact ⟨rfl, hC⟩ | exact hC
  have e' : vs 7 = _ := e
  rw [e']
  clear e e'
  simp only [Act.put, List.setIfInBounds_toArray, List.set_cons_succ, List.set_cons_zero]
  refine ⟨.inl ⟨rfl, fun dd w' hd hnx hw hC => ?_⟩, fun e => ?_⟩
  · have h1 : w'.cell? ⟨g, 2, none⟩ = some (.map (some rd)) := (H1.out.below hC.b).blk.cell 2
    go_simp
    first | exact ⟨rfl, hC⟩ | exact hC
  have e' : vs 8 = _ := e
  rw [e']
  clear e e'
  simp only [Act.put, List.setIfInBounds_toArray, List.set_cons_succ, List.set_cons_zero]
  refine ⟨.inl ⟨rfl, fun dd w' hd hnx hw hC => ?_⟩, fun e => ?_⟩
  · have h4' : dd 4 = true := hw 4 (by kernel_rfl)
    have hs1 := hC.s1 h4' hd
    go_simp
    refine (clone_any rd D w' (H1.out.below hC.b).dur).mono ?_
    rintro e w4 ⟨rfl, m4, h4, hs4⟩
    rw [hs1] at m4 hs4 ⊢
    exact ⟨_, rfl, rfl, hC.b.trans (h4.mono (by omega)), (fun _ => h4'), (fun e => by
      have e' : dd 4 = false := e
      rw [h4'] at e'; cases e'), (fun _ e => by cases e), (fun _ => (hC.m1 h4').below h4), fun _ => m4⟩
  have e' : vs 9 = _ := e
  rw [e']
  clear e e'
  simp only [Act.put, List.setIfInBounds_toArray, List.set_cons_succ, List.set_cons_zero]
  intro dd w2 hall hC
  have m1 := hid (hC.m1 (hall 4 (by omega)))
  have m2 := hid (hC.m2 (hall 9 (by omega)))
  have b2 := hid (b1.out.below hC.b hg2l)
  have B2 := hid (B1.out.trans (hC.b.mono B1.out.size))
  have H2 := hid (H1.out.below hC.b)
  have q1 : w2.cell? ⟨g2, 1, none⟩ = some (.map (some rs)) := b2.out.cell 1
  have f1 := b2.out.frozen 1
  obtain ⟨r1, hr1⟩ : ∃ r1, r1 = w1.heap.size := ⟨_, rfl⟩
  rw [← hr1] at m1 m2 ⊢
  have hrg : g2 < r1 := by omega
  have hrw : w.heap.size ≤ r1 := by omega
  clear hC hall b1 B1 H1 hr1
  have c1' := b2.out.setCell_same 1 (.map (some r1))
  have q2 : (w2.setCell ⟨g2, 1, none⟩ (.map (some r1))).cell? ⟨g2, 2, none⟩ = some (.map (some rd)) := c1'.cell 2
  have f2 := c1'.frozen 2
  have c2' := c1'.setCell_same 2 (.map (some (r1 + 1)))
  have t1 := Turn.setCell (S := fun b => b = g2) w2 ⟨g2, 1, none⟩ (.map (some r1)) rfl
  have t2 := t1.trans (Turn.setCell (S := fun b => b = g2) (w2.setCell ⟨g2, 1, none⟩ (.map (some r1))) ⟨g2, 2, none⟩ (.map (some (r1 + 1))) rfl) fun _ e => .inl e
  have b3 := hid (show Blk ((w2.setCell ⟨g2, 1, none⟩ (.map (some r1))).setCell ⟨g2, 2, none⟩ (.map (some (r1 + 1)))) g2 93 (mbC7 n r1 (r1 + 1) (.slice A1 log.length c1) (.slice A marks.length c) f h) from c2')
  have T3 := hid t2
  clear c1' c2' t1 t2
  go_upto_region 5 with fail
  generalize World.setCell (World.setCell w2 _ _) _ _ = w3 at b3 T3 ⊢
  have m1 := hid (m1.out.turn T3.out (by omega))
  have m2 := hid (m2.out.turn T3.out (by omega))
  have H3 := hid (H2.out.turn T3.out fun b hb e => hold.out b hb e)
  have B3 := hid (show Below w.heap.size w w3 from B2.out.trans (T3.out.below B2.out.size fun b e => by omega))
  clear H2 B2 b2 T3 q1 f1 q2 f2
  have p3 : w3.cell? ⟨g, 3, none⟩ = some (.slice A1 log.length c1) := H3.out.blk.cell 3
  go_wp2_with fail
  refine (cloneW_any (.slice A1 log.length c1) log w3 H3.out.lg hlen).mono ?_
  rintro e w4 ⟨v4, rfl, o4, h4⟩
  obtain ⟨A4, c4, rfl, _⟩ := o4.sli atL_len
  have m1 := hid (m1.out.below h4)
  have m2 := hid (m2.out.below h4)
  have H4 := hid (H3.out.below h4)
  have B4 := hid (B3.out.trans (h4.mono B3.out.size))
  have O4 := hid o4
  have b4 := hid (b3.out.below h4 b3.out.lt)
  have p34 : w4.cell? ⟨g2, 3, none⟩ = some (.slice A1 log.length c1) := b4.out.cell 3
  have f34 := b4.out.frozen 3
  have tu := Turn.setCell (S := fun b => b = g2) w4 ⟨g2, 3, none⟩ (.slice A4 log.length c4) rfl
  have T5 := hid tu
  have b5 := hid (show Blk (w4.setCell ⟨g2, 3, none⟩ (.slice A4 log.length c4)) g2 93 (mbC7 n r1 (r1 + 1) (.slice A4 log.length c4) (.slice A marks.length c) f h) from b4.out.setCell_same 3 _)
  have hg23 := b3.out.lt
  clear H3 B3 b3 b4 h4 o4 p3 tu
  go_upto_region 6 with fail
  generalize World.setCell w4 _ _ = w5 at b5 T5 ⊢
  have m1 := hid (m1.out.turn T5.out (by omega))
  have m2 := hid (m2.out.turn T5.out (by omega))
  have H5 := hid (H4.out.turn T5.out fun b hb e => hold.out b hb e)
  have B5 := hid (show Below w.heap.size w w5 from B4.out.trans (T5.out.below B4.out.size fun b e => by omega))
  have O5 := hid (show OwnL w5 w.heap.size (.slice A4 log.length c4) log from (O4.out.turn T5.out fun b e e2 => by have := (O4.out.own b e).1; omega).lower (by omega))
  have p4 : w5.cell? ⟨g, 4, none⟩ = some (.slice A marks.length c) := H5.out.blk.cell 4
  obtain ⟨wa, hwa⟩ : ∃ wa, wa = w5.alloc (.cells (Array.replicate marks.length (Value.map none)) 89) := ⟨_, rfl⟩
  obtain ⟨gm, hgm⟩ : ∃ gm, gm = w5.heap.size := ⟨_, rfl⟩
  have ba := hid (show Blk wa g2 93 (mbC7 n r1 (r1 + 1) (.slice A4 log.length c4) (.slice A marks.length c) f h) by rw [hwa]; exact b5.out.alloc _)
  have bm := hid (show Blk wa gm 89 (([] : List Nat).map (fun d => Value.map (some d)) ++ List.replicate (marks.length - ([] : List Nat).length) (Value.map none)).toArray by
    rw [hwa, hgm, List.map_nil, List.nil_append, List.length_nil, Nat.sub_zero, show (List.replicate marks.length (Value.map none)).toArray = Array.replicate marks.length (Value.map none) from Array.ext' (by rw [Array.toList_replicate])]
    exact Blk.new _ _ _)
  have qa : wa.cell? ⟨g2, 4, none⟩ = some (.slice A marks.length c) := ba.out.cell 4
  have fa := ba.out.frozen 4
  have HA := hid (show Below w5.heap.size w5 wa by rw [hwa]; exact (Below.refl _ _).alloc (Nat.le_refl _) _)
  rw [hwa] at qa fa
  have HGM := hid hgm
  have HWA := hid hwa
  clear H4 B4 O4 T5 p34 f34 hwa hgm
  go_upto_region 7 with ((with_reducible apply wmkI); rfl; rfl; exact hN)
  rw [← HWA.out, ← HGM.out]
  have hgmw : g2 < gm := by have := HGM.out; have := b5.out.lt; omega
  have tu := Turn.setCell (S := fun b => b = g2) wa ⟨g2, 4, none⟩ (.slice (some ⟨gm, 0, none⟩) marks.length marks.length) rfl
  have CP := hid (show CpL w (wa.setCell ⟨g2, 4, none⟩ (.slice (some ⟨gm, 0, none⟩) marks.length marks.length)) g2 r1 (r1 + 1) (.slice A4 log.length c4) gm marks.length [] n S D log marks f h from {
    blk := ba.out.setCell_same 4 _
    seen := (m1.out.below HA.out).turn tu (by omega)
    dur := (m2.out.below HA.out).turn tu (by omega)
    lg := (O5.out.below HA.out (Nat.le_refl _)).turn tu fun b e e2 => by
      obtain ⟨cc, hc⟩ := O5.out.obj e
      have h2 : w5.heap[g2]? = some (.cells _ 93 (0, 0)) := b5.out
      rw [e2, h2] at hc
      simp at hc
    mr := bm.out.turn tu (by omega)
    im := fun i m F h1 h2 => by simp at h1
    len := ⟨Nat.zero_le _, rfl⟩
    new := ⟨hge, hrw, by omega, by omega, fun d hd => by cases hd⟩
    ne := by omega
    out := fun d hd => by cases hd
    b := (B5.out.trans (HA.out.mono B5.out.size)).trans (tu.below (Nat.le_trans B5.out.size HA.out.size) fun b e => by omega) })
  have HO := hid (show Mm (wa.setCell ⟨g2, 4, none⟩ (.slice (some ⟨gm, 0, none⟩) marks.length marks.length)) g rs rd (.slice A1 log.length c1) (.slice A marks.length c) ms n S D log marks f h from (H5.out.below HA.out).turn tu fun b hb e => hold.out b hb e)
  clear tu ba bm qa fa HA HGM HWA m1 m2 H5 B5 O5 b5 p4
  generalize World.setCell wa _ _ = w6 at CP HO ⊢
  have p4 : w6.cell? ⟨g, 4, none⟩ = some (.slice A marks.length c) := HO.out.blk.cell 4
  clear HO
  go_wp2_with fail
  go_loopw [42] (fun u wr => ∃ (k : Nat) (ds : List Nat), u = .int .i64 k ∧ ds.length = k ∧ k ≤ marks.length ∧ Hid (CpL w wr g2 r1 (r1 + 1) (.slice A4 log.length c4) gm marks.length ds n S D log marks f h)) (fun u _ => marks.length - (intOf u).toNat)
  case atStart => exact ⟨0, [], rfl, rfl, Nat.zero_le _, CP⟩
  case round =>
    clear CP
    obtain ⟨k, ds, rfl, hdk, hk, CP⟩ := hrel
    by_cases hgo : k < marks.length
    · have t1 : (k : Int) < (marks.length : Int) := by omega
      obtain ⟨F, hF⟩ : ∃ F, marks[k]? = some F := ⟨_, List.getElem?_eq_getElem hgo⟩
      obtain ⟨m, hm⟩ : ∃ m, ms[k]? = some m := ⟨_, List.getElem?_eq_getElem (by rw [HH.out.len]; exact hgo)⟩
      obtain ⟨A', c', e', sl⟩ := HH.out.mr.sli eltIm.len
      have e2 : A' = A := by injection e' with h1 h2 h3; exact h1.symm
      subst e2
      clear e'
      obtain ⟨b, o, rfl, _, hbl, hr⟩ := sl.some (i := k) (x := some m) (by rw [List.getElem?_map, hm]; rfl)
      have pk0 : w.cell? ⟨b, o + k * 1, none⟩ = some (.map (some m)) := hr 0 _ rfl
      rw [Nat.mul_one] at pk0
      have pk : wr.cell? ⟨b, o + k, none⟩ = some (.map (some m)) := (CP.out.b.cell (p := ⟨b, o + k, none⟩) hbl).trans pk0
      have hFm := hid (HH.out.im k m F hm hF)
      have hml := hFm.out.lt
      have HF := hid hF
      have HDK := hid hdk
      clear sl hr hm hF pk0 hdk
      go_upto_region 10 with fail
      refine wp_region_c (S := yS [some (.pointer (some ⟨g2, 4, none⟩)), some (.slice (some ⟨gm, 0, none⟩) marks.length marks.length), some (.int .i64 k), some (.map (some m)), some (.map (some wr.heap.size)), some (.pointer (some ⟨gm, k, none⟩))] [])
        (C := fun d _ w' => CpC wr F F (d 4) false w') 6 (by kernel_rfl) (by kernel_rfl) (by kernel_rfl) _ (yS_ok _ fun y hy => by cases hy)
        ⟨(Below.refl _ _).drew, (fun e => by cases e), fun _ => rfl, (fun e => by cases e), (fun e => by cases e), (fun e => by cases e)⟩ fun vs => ?_
      simp only [List.take_succ_cons, List.take_zero, List.drop_succ_cons, List.drop_zero]
      refine ⟨.inl ⟨rfl, fun dd w' hd hnx hw hC => ?_⟩, fun e => ?_⟩
      · go_simp
        first | exact ⟨rfl, hC⟩ | exact hC
      have e' : vs 0 = _ := e
      rw [e']
      clear e e'
      simp only [Act.put, List.setIfInBounds_toArray, List.set_cons_succ, List.set_cons_zero]
      refine ⟨.inl ⟨rfl, fun dd w' hd hnx hw hC => ?_⟩, fun e => ?_⟩
      · have h1 : w'.cell? ⟨g2, 4, none⟩ = some (.slice (some ⟨gm, 0, none⟩) marks.length marks.length) := (CP.out.below hC.b).blk.cell 4
        go_simp
        first | exact ⟨rfl, hC⟩ | exact hC
      have e' : vs 1 = _ := e
      rw [e']
      clear e e'
      simp only [Act.put, List.setIfInBounds_toArray, List.set_cons_succ, List.set_cons_zero]
      refine ⟨.inl ⟨rfl, fun dd w' hd hnx hw hC => ?_⟩, fun e => ?_⟩
      · go_simp
        first | exact ⟨rfl, hC⟩ | exact hC
      have e' : vs 2 = _ := e
      rw [e']
      clear e e'
      simp only [Act.put, List.setIfInBounds_toArray, List.set_cons_succ, List.set_cons_zero]
      refine ⟨.inl ⟨rfl, fun dd w' hd hnx hw hC => ?_⟩, fun e => ?_⟩
      · go_simp
        first | exact ⟨rfl, hC⟩ | exact hC
      have e' : vs 3 = _ := e
      rw [e']
      clear e e'
      simp only [Act.put, List.setIfInBounds_toArray, List.set_cons_succ, List.set_cons_zero]
      refine ⟨.inl ⟨rfl, fun dd w' hd hnx hw hC => ?_⟩, fun e => ?_⟩
      · have hs0 := hC.s0 hd
        go_simp
        refine (clone_any m F w' ((hFm.out.turn (Turn.of_below CP.out.b) (by omega)).below hC.b)).mono ?_
        rintro e w4 ⟨rfl, m4, h4, hs4⟩
        rw [hs0] at m4 hs4 ⊢
        exact ⟨_, rfl, rfl, hC.b.trans (h4.mono (by omega)), (fun e => by cases e), (fun e => by cases e), (fun _ _ => hs4), (fun _ => m4), fun e => by cases e⟩
      have e' : vs 4 = _ := e
      rw [e']
      clear e e'
      simp only [Act.put, List.setIfInBounds_toArray, List.set_cons_succ, List.set_cons_zero]
      refine ⟨.inl ⟨rfl, fun dd w' hd hnx hw hC => ?_⟩, fun e => ?_⟩
      · go_simp
        first | exact ⟨rfl, hC⟩ | exact hC
      have e' : vs 5 = _ := e
      rw [e']
      clear e e'
      simp only [Act.put, List.setIfInBounds_toArray, List.set_cons_succ, List.set_cons_zero]
      intro dd w7 hall hC
      have CN := hid (CP.out.put hC.b wr.heap.size F (Nat.le_refl _) (hC.m1 (hall 4 (by omega))) (by rw [HDK.out]; exact HF.out) (by rw [HDK.out]; exact hgo))
      have bm := (CP.out.below hC.b).mr
      have qk : w7.cell? ⟨gm, k, none⟩ = some (Value.map none) := by
        rw [bm.cell]
        have hdk := HDK.out
        rw [List.getElem?_toArray, List.getElem?_append_right (by rw [List.length_map]; omega), List.length_map, List.getElem?_replicate, if_pos (by omega)]
      have fk := bm.frozen k
      rw [HDK.out] at CN
      clear hC hall bm CP hFm
      go_wp2_with fail
      go_roundw
      case rel => exact ⟨k + 1, ds ++ [wr.heap.size], by go_num, by rw [List.length_append, HDK.out]; rfl, by omega, CN⟩
      case measure => simp [intOf] <;> omega
    · have hke : k = marks.length := by omega
      subst hke
      have t1 : ¬ marks.length < marks.length := by omega
      have hfin := hid (CP.out.full hdk hn.out hN)
      have hnew := hid CP.out.new
      have hb := hid CP.out.b
      have hown := hid CP.out.lg.own
      clear CP HH hgo hk
      go_wp2_with fail
      go_ret
      refine ⟨g2, _, _, _, _, _, rfl, hfin.out, fun b hbm => ?_, hb.out⟩
      obtain ⟨n1, n2, n3, n4, n5⟩ := hnew.out
      rcases hbm with (rfl | rfl | rfl | e | e) | e
      · exact n1
      · exact n2
      · exact n3
      · exact (hown.out b e).1
      · cases e; exact n4
      · exact n5 b e
end
end MbO
end Go.Proofs.Ytablkaofaedpeaa
set_option maxRecDepth 100000
namespace Go.Proofs.Ytablkaofaedpeaa
open Go.ChangeShapes Go.WideShapes Go.ChangeAt Go.RowKit
attribute [local go_sem] Gives GivesE
namespace MbO
open MbM MbP
theorem app_flt {i : Int} {j : Int} (hj : j ≠ i) : ∀ (l : List Pt) (d1 d2 : Img), d1 j = d2 j → app d1 (l.filter fun p => decide (p.i ≠ i)) j = app d2 l j
  | [], d1, d2, h => h
  | p :: l, d1, d2, h => by
    by_cases e : p.i = i
    · rw [List.filter_cons_of_neg (by simp [e]), app_cons]
      refine app_flt hj l d1 _ ?_
      unfold upd
      rw [if_neg fun x => hj (x.trans e)]
      exact h
    · rw [List.filter_cons_of_pos (by simp [e]), app_cons, app_cons]
      refine app_flt hj l _ _ ?_
      unfold upd
      split
      · rfl
      · exact h
theorem seen_set (st : St) (i : Int) (x : Nat → Nat) : MbM.seen (MbM.set st i x) = upd (MbM.seen st) ⟨i, x⟩ := by
  funext j
  show app (upd st.dur ⟨i, x⟩) (st.log.filter fun p => decide (p.i ≠ i)) j = upd (app st.dur st.log) ⟨i, x⟩ j
  by_cases e : j = i
  · subst e
    rw [app_out fun p hp => by simpa using (List.mem_filter.1 hp).2]
    unfold upd
    rw [if_pos rfl, if_pos rfl]
  · rw [app_flt e st.log (upd st.dur ⟨i, x⟩) st.dur (by unfold upd; rw [if_neg e])]
    conv => rhs; unfold upd
    rw [if_neg e]
theorem seen_write (st : St) (i : Int) (x : Nat → Nat) : MbM.seen (MbM.write st i x) = upd (MbM.seen st) ⟨i, x⟩ := app_snoc _ _ _
section
variable {w w' : World} {g : Nat} {M I : Nat → Prop} {k : Nat} {st : St}
theorem rep_mono {k' : Nat} (h : Rep w g M I k st) (hk : k ≤ k') : Rep w g M I k' st := by
  obtain ⟨rs, rd, vl, vm, ms, H, ⟨hl, hm, hn⟩, rfl, rfl⟩ := h
  exact ⟨rs, rd, vl, vm, ms, H, ⟨Nat.le_trans hl hk, hm, hn⟩, rfl, rfl⟩
theorem same_out (h : Rep w g M I k st) (hb : Below w.heap.size w w') : outP Rep w g M I (k + 1) st w' := Rep.same (rep_mono h (by omega)) hb
theorem write_ok (h : Rep w g M I k st) (hk : k ≤ 9000) (i : Int) (x : Nat → Nat) : Calls Try.prog 27 #[at' g, .int .i64 i, .agg (ar 64 x)] w fun e w' => e = .returned (.int .i64 (rdE st i)) ∧ outP Rep w g M I (k + 1) (wrT st i x) w' := by
  have h0 := h
  obtain ⟨rs, rd, vl, vm, ms, H, ⟨hl, hm, hn⟩, rfl, rfl⟩ := h
  by_cases hq : st.may i = true
  · by_cases hf : st.fails = true
    · have e1 : rdE st i = 10 := by unfold rdE; rw [if_pos hq, if_pos hf]
      have e2 : wrT st i x = st := by unfold wrT; rw [if_pos hq, if_pos hf]
      rw [e1, e2]
      refine (write2_bad H i true hq x (.inr hf)).mono ?_
      rintro e w2 ⟨rfl, hb⟩
      rw [hf]
      exact ⟨rfl, same_out h0 hb⟩
    · have hf' : st.fails = false := by simpa using hf
      have e1 : rdE st i = 0 := by unfold rdE; rw [if_pos hq, if_neg hf]
      have e2 : wrT st i x = MbM.write st i x := by unfold wrT; rw [if_pos hq, if_neg hf]
      rw [e1, e2]
      rw [hf'] at H
      refine (write2_any H i hq x (by omega)).mono ?_
      rintro e w2 ⟨rfl, vl', H2, hb, ht⟩
      refine ⟨rfl, Rep.out (st' := MbM.write st i x) (rs' := rs) (rd' := rd) (vl' := vl') (vm' := vm) (ms' := ms) (by rw [seen_write]; rw [← hf'] at H2; exact H2) ⟨?_, hm, hn⟩ (fun b hbb => ?_) (fun b e => .inl e) ht⟩
      · show (st.log ++ [_]).length ≤ k + 1
        rw [List.length_append]
        simp
        exact hl
      · rcases hbb with e | e | e | e | e
        · exact .inl (.inl e)
        · exact .inl (.inr (.inl e))
        · exact .inl (.inr (.inr (.inl e)))
        · exact (hb b e).imp (fun e => .inr (.inr (.inr (.inl e)))) id
        · exact .inl (.inr (.inr (.inr (.inr e))))
  · have hq' : st.may i = false := by simpa using hq
    have e1 : rdE st i = 2 := by unfold rdE; rw [if_neg hq]
    have e2 : wrT st i x = st := by unfold wrT; rw [if_neg hq]
    rw [e1, e2]
    refine (write2_bad H i false hq' x (.inl rfl)).mono ?_
    rintro e w2 ⟨rfl, hb⟩
    exact ⟨rfl, same_out h0 hb⟩
theorem three_set {rs rd : Nat} {vl vm : Value} : ∀ b, (b = g ∨ b = rs ∨ b = rd) → mSet g rs rd vl vm b := fun _ e => e.imp id fun e => e.imp id fun e => .inl e
theorem flush_ok (h : Rep w g M I k st) (hk : k ≤ 9000) : Calls Try.prog 28 #[at' g] w fun e w' => e = .returned (.int .i64 (MbM.flE st)) ∧ outP Rep w g M I (k + 1) (flT st) w' := by
  have h0 := h
  obtain ⟨rs, rd, vl, vm, ms, H, ⟨hl, hm, hn⟩, rfl, rfl⟩ := h
  refine (flush2_any H (by omega)).mono ?_
  rintro e w2 (⟨hf, rfl, rfl⟩ | ⟨hf, E, rfl, rfl, H2, ht⟩)
  · rw [show MbM.flE st = 10 by unfold MbM.flE; rw [if_pos hf], show flT st = st by unfold flT; rw [if_pos hf]]
    exact ⟨rfl, same_out h0 (Below.refl _ _)⟩
  · rw [show MbM.flE st = 0 by unfold MbM.flE; rw [if_neg (by simp [hf])], show flT st = MbM.flush st by unfold flT; rw [if_neg (by simp [hf])]]
    have hs : app (MbM.seen st) (st.log.map fun p => ⟨p.i, app st.dur st.log p.i⟩) = app st.dur st.log := sem_settle fun p hp => hp
    rw [hs] at H2
    refine ⟨rfl, Rep.out (st' := MbM.flush st) (rs' := rs) (rd' := rd) (vl' := .slice none 0 0) (vm' := vm) (ms' := ms) H2 ⟨Nat.zero_le _, hm, hn⟩ (fun b hb => .inl ?_) (fun b e => .inl e) (ht.mono three_set)⟩
    rcases hb with e | e | e | e | e
    · exact .inl e
    · exact .inr (.inl e)
    · exact .inr (.inr (.inl e))
    · cases e
    · exact .inr (.inr (.inr (.inr e)))
theorem crash_ok (h : Rep w g M I k st) (hk : k ≤ 9000) (P : Option Addr) (picks : List Nat) (pn pc : Nat) (hp : Arg w P picks pn pc) (hne : ∀ b o, 0 < picks.length → P = some ⟨b, o, none⟩ → ¬ (M b ∨ I b)) :
    Calls Try.prog 77 #[at' g, .slice P pn pc] w fun e w' => e = .returned (.int .i64 0) ∧ outP Rep w g M I (k + 1) (MbM.crash st picks) w' := by
  obtain ⟨rs, rd, vl, vm, ms, H, ⟨hl, hm, hn⟩, rfl, rfl⟩ := h
  refine (crash2_any H (by omega) P picks pn pc hp fun b o h1 h2 e => hne b o h1 h2 (.inl (.inr (.inr (.inl e))))).mono ?_
  rintro e w2 ⟨E, rfl, rfl, H2, ht⟩
  have hs : app (MbM.seen st) (st.log.map fun p => ⟨p.i, app st.dur (kept st.log picks) p.i⟩) = app st.dur (kept st.log picks) := sem_settle fun p hp => kept_mem hp
  rw [hs] at H2
  refine ⟨rfl, Rep.out (st' := MbM.crash st picks) (rs' := rs) (rd' := rd) (vl' := .slice none 0 0) (vm' := vm) (ms' := ms) H2 ⟨Nat.zero_le _, hm, hn⟩ (fun b hb => .inl ?_) (fun b e => .inl e) (ht.mono three_set)⟩
  rcases hb with e | e | e | e | e
  · exact .inl e
  · exact .inr (.inl e)
  · exact .inr (.inr (.inl e))
  · cases e
  · exact .inr (.inr (.inr (.inr e)))
theorem set_ok (h : Rep w g M I k st) (hk : k ≤ 9000) (i : Int) (x : Nat → Nat) : Calls Try.prog 65 #[at' g, .int .i64 i, .agg (ar 64 x)] w fun e w' => e = .returned (.int .i64 (lkE st i)) ∧ outP Rep w g M I (k + 1) (seT st i x) w' := by
  have h0 := h
  obtain ⟨rs, rd, vl, vm, ms, H, ⟨hl, hm, hn⟩, rfl, rfl⟩ := h
  by_cases hq : st.may i = true
  · rw [show lkE st i = 0 by unfold lkE; rw [if_pos hq], show seT st i x = MbM.set st i x by unfold seT; rw [if_pos hq]]
    refine (set2_any H i hq x (by omega)).mono ?_
    rintro e w2 ⟨rfl, vl', H2, hb, ht⟩
    refine ⟨rfl, Rep.out (st' := MbM.set st i x) (rs' := rs) (rd' := rd) (vl' := vl') (vm' := vm) (ms' := ms) (by rw [seen_set]; exact H2) ⟨?_, hm, hn⟩ (fun b hbb => .inl ?_) (fun b e => .inl e) ht⟩
    · exact Nat.le_trans (List.length_filter_le _ _) (by omega)
    · rcases hbb with e | e | e | e | e
      · exact .inl e
      · exact .inr (.inl e)
      · exact .inr (.inr (.inl e))
      · exact .inr (.inr (.inr (.inl (by rw [← hb]; exact e))))
      · exact .inr (.inr (.inr (.inr e)))
  · have hq' : st.may i = false := by simpa using hq
    rw [show lkE st i = 2 by unfold lkE; rw [if_neg hq], show seT st i x = st by unfold seT; rw [if_neg hq]]
    refine (set2_bad H i hq' x).mono ?_
    rintro e w2 ⟨rfl, hb⟩
    exact ⟨rfl, same_out h0 hb⟩
theorem mark_ok (h : Rep w g M I k st) : Calls Try.prog 67 #[at' g] w fun e w' => e = .returned (.tuple #[.int .i64 (mkN st), .int .i64 (mkE st)]) ∧ outP Rep w g M I (k + 1) (mkT st) w' := by
  have h0 := h
  obtain ⟨rs, rd, vl, vm, ms, H, ⟨hl, hm, hn⟩, rfl, rfl⟩ := h
  by_cases hf : 64 ≤ st.marks.length
  · rw [show mkN st = 0 by unfold mkN; rw [if_pos hf], show mkE st = 7 by unfold mkE; rw [if_pos hf], show mkT st = st by unfold mkT; rw [if_pos hf]]
    refine (mark2_full H (by omega)).mono ?_
    rintro e w2 ⟨rfl, rfl⟩
    exact ⟨rfl, same_out h0 (Below.refl _ _)⟩
  · rw [show mkN st = st.marks.length by unfold mkN; rw [if_neg hf], show mkE st = 0 by unfold mkE; rw [if_neg hf], show mkT st = MbM.mark st by unfold mkT; rw [if_neg hf]]
    refine (mark2_any H (by omega)).mono ?_
    rintro e w2 ⟨rfl, vm', r, H2, hb, hr, ht⟩
    refine ⟨rfl, Rep.out (st' := MbM.mark st) (rs' := rs) (rd' := rd) (vl' := vl) (vm' := vm') (ms' := ms ++ [r]) H2 ⟨?_, ?_, hn⟩ (fun b hbb => ?_) (fun b e => ?_) ht⟩
    · exact Nat.le_trans hl (by omega)
    · show (st.marks ++ [_]).length ≤ 64
      rw [List.length_append, List.length_cons, List.length_nil]
      omega
    · rcases hbb with e | e | e | e | e
      · exact .inl (.inl e)
      · exact .inl (.inr (.inl e))
      · exact .inl (.inr (.inr (.inl e)))
      · exact .inl (.inr (.inr (.inr (.inl e))))
      · exact (hb b e).imp (fun e => .inr (.inr (.inr (.inr e)))) id
    · rcases List.mem_append.1 e with e | e
      · exact .inl e
      · rw [List.mem_singleton] at e
        subst e
        exact .inr hr
theorem back_ok (h : Rep w g M I k st) (n : Int) : Calls Try.prog 69 #[at' g, .int .i64 n] w fun e w' => e = .returned (.int .i64 (bkE st n)) ∧ outP Rep w g M I (k + 1) (bkT st n) w' := by
  have h0 := h
  obtain ⟨rs, rd, vl, vm, ms, H, ⟨hl, hm, hn⟩, rfl, rfl⟩ := h
  by_cases hb : n < 0 ∨ (st.marks.length : Int) ≤ n
  · rw [show bkE st n = 2 by unfold bkE; rw [if_pos hb], show bkT st n = st by unfold bkT; rw [if_pos hb]]
    refine (back2_bad H n hb).mono ?_
    rintro e w2 ⟨rfl, rfl⟩
    exact ⟨rfl, same_out h0 (Below.refl _ _)⟩
  · rw [show bkE st n = 0 by unfold bkE; rw [if_neg hb], show bkT st n = MbM.back st n.toNat by unfold bkT; rw [if_neg hb]]
    obtain ⟨j, rfl⟩ : ∃ j : Nat, n = j := ⟨n.toNat, by omega⟩
    rw [Int.toNat_natCast]
    have hj : j < st.marks.length := by omega
    have hF : st.marks[j]? = some st.marks[j] := List.getElem?_eq_getElem hj
    have hgd : (st.marks.getD j fun _ => zero) = st.marks[j] := by rw [List.getD_eq_getElem?_getD, hF]; rfl
    refine (back2_any H j _ hF).mono ?_
    rintro e w2 ⟨rfl, rs', rd', H2, h1, h2, ht⟩
    refine ⟨rfl, Rep.out (st' := MbM.back st j) (rs' := rs') (rd' := rd') (vl' := .slice none 0 0) (vm' := vm) (ms' := ms) ?_ ⟨Nat.zero_le _, hm, hn⟩ (fun b hbb => ?_) (fun b e => .inl e) (ht.mono fun b e => .inl e)⟩
    · show Mm w2 g rs' rd' _ vm ms st.n (app (st.marks.getD j fun _ => zero) []) (st.marks.getD j fun _ => zero) [] st.marks st.fails true
      rw [hgd, app_nil]
      exact H2
    · rcases hbb with e | e | e | e | e
      · exact .inl (.inl e)
      · exact .inr (by rw [e]; exact h1)
      · exact .inr (by rw [e]; exact h2)
      · cases e
      · exact .inl (.inr (.inr (.inr (.inr e))))
theorem memD_ok : MemD Rep where
  lt h b hb := by
    obtain ⟨rs, rd, vl, vm, ms, H, _, rfl, rfl⟩ := h
    exact H.lt hb
  frame h ht hT := by
    obtain ⟨rs, rd, vl, vm, ms, H, hk, rfl, rfl⟩ := h
    exact ⟨rs, rd, vl, vm, ms, H.turn ht hT, hk, rfl, rfl⟩
  mono h hk := rep_mono h hk
  own h b hb := by
    obtain ⟨rs, rd, vl, vm, ms, H, _, rfl, rfl⟩ := h
    exact H.own hb
  new n h1 h2 w := new_any n h1 h2 w
  bad n h w := bad_any n h w
  read h _ _ i := by
    obtain ⟨rs, rd, vl, vm, ms, H, _, rfl, rfl⟩ := h
    refine (read2_any H i _ rfl).mono ?_
    rintro e w2 ⟨rfl, hb⟩
    exact ⟨rfl, hb⟩
  look h _ _ i := by
    obtain ⟨rs, rd, vl, vm, ms, H, _, rfl, rfl⟩ := h
    refine (look2_any H i _ rfl).mono ?_
    rintro e w2 ⟨rfl, hb⟩
    exact ⟨rfl, hb⟩
  touched h := by
    obtain ⟨rs, rd, vl, vm, ms, H, _, rfl, rfl⟩ := h
    refine (touched2_any H).mono ?_
    rintro e w2 ⟨rfl, rfl⟩
    exact ⟨rfl, Below.refl _ _⟩
  len h := by
    obtain ⟨rs, rd, vl, vm, ms, H, _, rfl, rfl⟩ := h
    refine (len2_any H).mono ?_
    rintro e w2 ⟨rfl, rfl⟩
    exact ⟨rfl, Below.refl _ _⟩
  unflushed h := by
    obtain ⟨rs, rd, vl, vm, ms, H, _, rfl, rfl⟩ := h
    refine (unflushed2_any H).mono ?_
    rintro e w2 ⟨rfl, rfl⟩
    exact ⟨rfl, Below.refl _ _⟩
  write h _ hk i x _ := write_ok h hk i x
  flush h _ hk := flush_ok h hk
  writeF h _ hk hf i x _ := by
    have h0 := h
    obtain ⟨rs, rd, vl, vm, ms, H, _, rfl, rfl⟩ := h
    refine (write2_bad H i _ rfl x (.inr hf)).mono ?_
    rintro e w2 ⟨rfl, hb⟩
    exact ⟨rfl, Rep.same h0 hb⟩
  flushF h _ hk hf := by
    have h0 := h
    obtain ⟨rs, rd, vl, vm, ms, H, ⟨hl, _, _⟩, rfl, rfl⟩ := h
    refine (flush2_any H (by omega)).mono ?_
    rintro e w2 (⟨_, rfl, rfl⟩ | ⟨hf', _⟩)
    · exact ⟨rfl, Rep.same h0 (Below.refl _ _)⟩
    · rw [hf] at hf'; cases hf'
  crash h _ hk P picks pn pc hp hne := crash_ok h hk P picks pn pc hp hne
  set h _ hk i x _ := set_ok h hk i x
  mark h _ _ := mark_ok h
  back h _ _ n := back_ok h n
  fail h q := by
    obtain ⟨rs, rd, vl, vm, ms, H, ⟨hl, hm, hn⟩, rfl, rfl⟩ := h
    refine (fail2_any H q).mono ?_
    rintro e w2 ⟨rfl, H2, ht⟩
    exact ⟨rfl, Rep.out (st' := MbM.fail _ q) H2 ⟨Nat.le_trans hl (Nat.le_succ _), hm, hn⟩ (fun b e => .inl e) (fun b e => .inl e) (ht.mono fun b e => .inl e)⟩
  copy h _ hk := by
    obtain ⟨rs, rd, vl, vm, ms, H, ⟨hl, hm, hn⟩, rfl, rfl⟩ := h
    refine (copy2_any H (by omega) hm).mono ?_
    rintro e w2 ⟨g2, rs2, rd2, vl2, vm2, ms2, rfl, H2, hnew, hb⟩
    exact ⟨g2, _, _, rfl, ⟨rs2, rd2, vl2, vm2, ms2, H2, ⟨hl, hm, hn⟩, rfl, rfl⟩, (fun b e => hnew b (.inl e)), (fun b e => .inr (hnew b (.inr e))), hb⟩
end
end MbO
namespace MbP
theorem memD_ok : MemD MbO.Rep := MbO.memD_ok
end MbP
end Go.Proofs.Ytablkaofaedpeaa
set_option maxRecDepth 100000
namespace Go.Proofs.Ytablkaofaedpeaa
open Go.ChangeShapes Go.WideShapes Go.ChangeAt Go.RowKit
attribute [local go_sem] Gives GivesE
section
variable {α : Type} {k : Nat} {en : α → List Value} {E L : TypeId} {S : Nat → Prop} {w : World} {a : Act} {dst : Option Tmp} {ty : TypeId} {pos : String} {after : Array Edge} {gd : Option (Nat × Bool)} {R : Value → World → Prop} {o1 o2 : Operand} {v : Value} {l m : List α} {A : Option Addr} {n cap B : Nat}
/-- An append's result lies where the slice lay, or anew: then nothing of old is turned. -/
theorem run_appX_grown (hE : EltX E k en) (hu : Try.prog.underlying L = some (.slice E)) (hown : OwnX E k en w B v l) (hm : Sli k en S w A m n cap) (hsz : l.length + n ≤ 1000000) (hk : k ≤ 1000) {v' : Value} {w' : World}
    (hr : (Builtin.append_ #[L, L] ty #[v, .slice A n cap]).run Try.prog w = .ok v' w') : v'.ownBlock = v.ownBlock ∨ v'.ownBlock = some w.heap.size ∧ Below w.heap.size w w' := by
  obtain ⟨i, z, hi, hz, h1, h2, h3⟩ := hE.info
  cases A with
  | none =>
    obtain ⟨rfl, rfl⟩ := hm.none rfl
    rw [run_append_owned_none (P := Try.prog) w B L ty E i k hu hi v l.length _ hown] at hr
    cases hr
    exact .inl rfl
  | some ad =>
    have hbytes : (l.length + n) * i.bytes ≤ 140737488355328 := Nat.le_trans (Nat.mul_le_mul hsz (Nat.le_trans h2 (show 16 * k + 16 ≤ 16016 by omega))) (by omega)
    have hl1 : (m.flatMap en).length = n * i.size := by rw [flat_len hE.len, hm.len, h1]
    have hne := flat_read hE hm
    have hone : ∀ u ∈ m.flatMap en, u.oneCell' = true := fun u hu => by obtain ⟨x, _, hx⟩ := List.mem_flatMap.1 hu; exact hE.one x u hx
    rcases hown.2 with ⟨rfl, h0⟩ | ⟨g, c, cur, rfl, hB, hg, hnc, hcm, hcs, ht⟩
    · by_cases hn0 : n = 0
      · subst hn0
        have hn : m = [] := List.eq_nil_of_length_eq_zero hm.len
        subst hn
        left
        have hrun : (Builtin.append_ #[L, L] ty #[.slice none 0 0, .slice (some ad) 0 cap]).run Try.prog w = .ok (.slice none 0 0) w := by
          simp [Builtin.append_, run_underlying hu, sizeOf, typeInfo, hi, Builtin.lenOf, Builtin.firstCells, loadCells, loadCellsFrom]
        rw [hrun] at hr
        cases hr
        rfl
      · right
        rw [h0, Nat.zero_add] at hbytes
        have hrun := run_append_nil (P := Try.prog) w L ty E i z hu hi hz ad n cap _ hl1 hne (by omega) (by omega) (by omega)
        rw [hrun] at hr
        cases hr
        exact ⟨rfl, (Below.refl _ _).drew.alloc (Nat.le_refl _) _⟩
    · by_cases hroom : l.length + n ≤ c
      · left
        have hrun := run_append_room (P := Try.prog) w L ty E i hu hi g l.length c cur hg ad n cap _ hl1 hne hone hroom (by
          rw [h1, flat_len hE.len, hm.len, hcs, ← Nat.add_mul]; exact Nat.mul_le_mul_right k hroom)
        rw [hrun] at hr
        cases hr
        rfl
      · right
        have hown' : w.ownsRow B E i.size (.slice (some ⟨g, 0, none⟩) l.length c) l.length (l.flatMap en) := by rw [h1]; exact hown
        have holds : ∀ j u, (l.flatMap en)[j]? = some u → w.cell? ((⟨g, 0, none⟩ : Addr).add j) = some u := hown'.cells (g := g) rfl
        have hrun := run_append_grow (P := Try.prog) w L ty E i z hu hi hz ⟨g, 0, none⟩ l.length c (l.flatMap en) (by rw [flat_len hE.len, h1]) holds ad n cap _ hl1 hne (by omega) (by omega) (growslice_fits (by omega) hbytes)
        rw [hrun] at hr
        cases hr
        exact ⟨rfl, (Below.refl _ _).drew.alloc (Nat.le_refl _) _⟩
theorem take_app (x y : List Value) (z : Array Value) (n : Nat) (hn : n = x.length + y.length) : (x.toArray ++ y.toArray ++ z).toList.take n = x ++ y := by
  subst hn
  simp [List.take_append, List.take_of_length_le]
/-- An append to a slice that is full and not empty: a row of its own. -/
theorem run_fullX (hE : EltX E k en) (hu : Try.prog.underlying L = some (.slice E)) {T : Nat → Prop} {j cB : Nat} {b1 b2 : Addr} (h : Sli k en S w (some b1) l n n) (hm : Sli k en T w (some b2) m j cB) (hj : 0 < j) (hsz : n + j ≤ 1000000) (hk : k ≤ 1000) :
    ∃ c' w', (Builtin.append_ #[L, L] ty #[.slice (some b1) n n, .slice (some b2) j cB]).run Try.prog w = .ok (.slice (some ⟨w.heap.size, 0, none⟩) (n + j) c') w' ∧ OwnX E k en w' w.heap.size (.slice (some ⟨w.heap.size, 0, none⟩) (n + j) c') (l ++ m) ∧ Below w.heap.size w w' := by
  obtain ⟨i, z, hi, hz, h1, h2, h3⟩ := hE.info
  have hbytes : (n + j) * i.bytes ≤ 140737488355328 := Nat.le_trans (Nat.mul_le_mul hsz (Nat.le_trans h2 (show 16 * k + 16 ≤ 16016 by omega))) (by omega)
  have hlm : (m.flatMap en).length = j * i.size := by rw [flat_len hE.len, hm.len, h1]
  have hll : (l.flatMap en).length = n * i.size := by rw [flat_len hE.len, h.len, h1]
  have hr := run_append_grow (P := Try.prog) w L ty E i z hu hi hz b1 n n (l.flatMap en) hll (flat_read hE h) b2 j cB (m.flatMap en) hlm (flat_read hE hm) (by omega) (by omega) (growslice_fits (by omega) hbytes)
  have hc := grownCap_ge w (n + j) n E
  have hcm : grownCap w (n + j) n E ≤ maxLen := grownCap_le_maxLen _ _ _ _ (by unfold maxLen; omega)
  refine ⟨_, _, hr, ⟨?_, .inr ⟨w.heap.size, _, _, ?_, Nat.le_refl _, heap_alloc_new w.drew _, ?_, hcm, ?_, ?_⟩⟩, (Below.refl _ _).drew.alloc (Nat.le_refl _) _⟩
  · rw [flat_len hE.len]
  · rw [List.length_append, h.len, hm.len]
  · rw [List.length_append, h.len, hm.len]; exact hc
  · simp only [Array.size_append, List.size_toArray, size_zeroCells, h3]
    rw [hll, hlm, h1, ← Nat.add_mul, ← Nat.add_mul]
    congr 1
    omega
  · rw [List.flatMap_append]
    exact take_app _ _ _ _ (by rw [hll, hlm, h1, List.length_append, h.len, hm.len, Nat.add_mul])
end
namespace ClP
theorem TurnC.refl (M : Cs) (w : World) : TurnC M w w := ⟨Turn.refl _ _, fun _ _ _ _ => rfl⟩
theorem TurnC.trans {M N : Cs} {w w' w2 : World} (h : TurnC M w w') (h2 : TurnC N w' w2) (hT : ∀ p, N p → M p ∨ w.heap.size ≤ p.1) : TurnC M w w2 where
  out := h.out.trans h2.out fun k e => e.elim fun i e => (hT (k, i) e).imp (fun x => ⟨i, x⟩) id
  cell b i hb hn := (h2.cell b i (Nat.lt_of_lt_of_le hb h.size) fun e => (hT _ e).elim hn fun h3 => absurd hb (Nat.not_lt.2 h3)).trans (h.cell b i hb hn)
theorem TurnC.of_new {M : Cs} {w w' : World} (h : Below w.heap.size w w') : TurnC M w w' where
  out := Turn.of_new h
  cell b i hb _ := World.cell?_of_block (h.block b hb)
/-- A history: of the cell's own, or one that is full; it lies in block b from its start on. -/
structure Hst (w : World) (own : Bool) (b : Nat) (v : Value) (L : List Held) : Prop where
  pos : 0 < L.length
  lt : b < w.heap.size
  sli : ∃ c, v = .slice (some ⟨b, 0, none⟩) L.length c ∧ Sli 33 ceL (fun x => x = b) w (some ⟨b, 0, none⟩) L L.length c ∧ (own = false → c = L.length)
  lg : own = true → OwnX 43 33 ceL w 0 v L
def tailC (own : Bool) (b n : Nat) : Cs := fun p => own = true ∧ p.1 = b ∧ n * 33 ≤ p.2
theorem own_sli {w : World} {v : Value} {L : List Held} {b : Nat} (h : OwnX 43 33 ceL w 0 v L) (hv : v.ownBlock = some b) : b < w.heap.size ∧ ∃ c, v = .slice (some ⟨b, 0, none⟩) L.length c ∧ Sli 33 ceL (fun x => x = b) w (some ⟨b, 0, none⟩) L L.length c := by
  refine ⟨(h.own b hv).2, ?_⟩
  have h2 := h.2
  obtain ⟨A, c, rfl, s⟩ := h.sli ceL_len
  rcases h2 with ⟨e, _⟩ | ⟨g, cap, cur, e, _⟩
  · rw [e] at hv; cases hv
  · rw [e] at hv
    obtain rfl : g = b := by cases hv; rfl
    cases e
    refine ⟨c, rfl, s.len, s.cap, s.max, (fun e => by cases e), fun hn => ?_⟩
    obtain ⟨b', o', e', _, hl, hr⟩ := s.lst hn
    cases e'
    exact ⟨g, 0, rfl, rfl, hl, hr⟩
theorem hst_own {w : World} {v : Value} {L : List Held} {b : Nat} (h : OwnX 43 33 ceL w 0 v L) (hv : v.ownBlock = some b) (hL : 0 < L.length) : Hst w true b v L := by
  obtain ⟨h1, c, h2, h3⟩ := own_sli h hv
  exact ⟨hL, h1, ⟨c, h2, h3, fun e => by cases e⟩, fun _ => h⟩
theorem Hst.turn {w w' : World} {own : Bool} {b : Nat} {v : Value} {L : List Held} {T : Cs} (h : Hst w own b v L) (ht : TurnC T w w') (h1 : ∀ p, p.1 = b → p.2 < L.length * 33 → ¬ T p) (h2 : ∀ p, tailC own b L.length p → ¬ T p) : Hst w' own b v L := by
  refine ⟨h.pos, Nat.lt_of_lt_of_le h.lt ht.size, ?_, fun e => ?_⟩
  · obtain ⟨c, e, s, f⟩ := h.sli
    refine ⟨c, e, ⟨s.len, s.cap, s.max, s.none, fun hn => ?_⟩, f⟩
    obtain ⟨b', o', e', hb', hl, hr⟩ := s.lst hn
    cases e'
    refine ⟨b, 0, rfl, rfl, Nat.lt_of_lt_of_le hl ht.size, fun q x hq j u hj => ?_⟩
    have hq' := (List.getElem?_eq_some_iff.1 hq).1
    have hj' : j < 33 := by have := (List.getElem?_eq_some_iff.1 hj).1; rwa [ceL_len] at this
    rw [ht.cell b _ hl (h1 (b, 0 + q * 33 + j) rfl (show 0 + q * 33 + j < L.length * 33 by omega))]
    exact hr q x hq j u hj
  · subst e
    refine (h.lg rfl).turn ht.out fun b' hb' ⟨i, hi⟩ => ?_
    obtain ⟨c, e, _⟩ := h.sli
    rw [e] at hb'
    obtain rfl : b = b' := by cases hb'; rfl
    by_cases hlt : i < L.length * 33
    · exact h1 (b, i) rfl hlt hi
    · exact h2 (b, i) ⟨rfl, rfl, Nat.not_lt.1 hlt⟩ hi
theorem Hst.below {w w' : World} {own : Bool} {b : Nat} {v : Value} {L : List Held} (h : Hst w own b v L) (hb : Below w.heap.size w w') : Hst w' own b v L :=
  h.turn (T := fun _ => False) (TurnC.of_new hb) (fun _ _ _ e => e) fun _ _ e => e
theorem run_app1 {w : World} {own : Bool} {b : Nat} {v : Value} {L : List Held} {x : Held} {S : Nat → Prop} {A : Option Addr} {c : Nat} {ty : TypeId} (h : Hst w own b v L) (hm : Sli 33 ceL S w A [x] 1 c) (hsz : L.length ≤ 10000) :
    ∃ v' w' b', (Builtin.append_ #[85, 85] ty #[v, .slice A 1 c]).run Try.prog w = .ok v' w' ∧ Hst w' true b' v' (L ++ [x]) ∧ (own = true ∧ b' = b ∨ w.heap.size ≤ b') ∧ TurnC (tailC own b L.length) w w' := by
  obtain ⟨ad, rfl⟩ : ∃ ad, A = some ad := by
    cases A with
    | none => have := hm.none rfl; omega
    | some ad => exact ⟨ad, rfl⟩
  have hp : 0 < (L ++ [x]).length := by rw [List.length_append, List.length_cons]; omega
  cases own with
  | true =>
    have ho := h.lg rfl
    obtain ⟨c0, hv, s0, _⟩ := h.sli
    obtain ⟨v', w', hr, h1, h2⟩ := run_appX (ty := ty) eltCe undCe ho hm (by omega) (by omega) (Nat.zero_le _)
    have hw := run_appX_grown eltCe undCe ho hm (by omega) (by omega) hr
    have hvb : v.ownBlock = some b := by rw [hv]; rfl
    rcases hw with hw | ⟨hw, hb⟩
    · rw [hvb] at hw
      have H' := hst_own h1 hw hp
      refine ⟨v', w', b, hr, H', .inl ⟨rfl, rfl⟩, ?_, ?_⟩
      · exact (Turn.of_grown (S := fun k => k = b) h2 fun k e => by rw [hvb] at e; cases e; rfl).mono fun k e => ⟨L.length * 33, rfl, e, Nat.le_refl _⟩
      · intro b' i hb' hn
        by_cases e : b' = b
        · subst e
          have hi : i < L.length * 33 := Nat.lt_of_not_le fun e => hn ⟨rfl, rfl, e⟩
          obtain ⟨c1, _, s1, _⟩ := H'.sli
          obtain ⟨u, hu⟩ : ∃ u, (L.flatMap ceL)[i]? = some u := ⟨_, List.getElem?_eq_getElem (by rw [flat_len ceL_len]; exact hi)⟩
          have e0 := flat_read eltCe s0 i u hu
          have e1 := flat_read eltCe s1 i u (by rw [List.flatMap_append, List.getElem?_append_left (by rw [flat_len ceL_len]; exact hi)]; exact hu)
          rw [Addr.add_mid, Nat.zero_add] at e0 e1
          rw [e0, e1]
        · exact World.cell?_of_block (h2.block b' hb' fun f => e (by rw [hvb] at f; cases f; rfl))
    · exact ⟨v', w', w.heap.size, hr, hst_own h1 hw hp, .inr (Nat.le_refl _), TurnC.of_new hb⟩
  | false =>
    obtain ⟨c0, rfl, s0, f⟩ := h.sli
    obtain rfl := f rfl
    obtain ⟨c', w', hr, h1, h2⟩ := run_fullX (ty := ty) eltCe undCe s0 hm (by omega) (by omega) (by omega)
    exact ⟨_, w', w.heap.size, hr, hst_own (h1.lower (Nat.zero_le _)) rfl hp, .inr (Nat.le_refl _), TurnC.of_new h2⟩
section
variable {a : Act} {w : World} {dst : Option Tmp} {ty : TypeId} {pos : String} {after : Array Edge} {gd : Option (Nat × Bool)} {R : Value → World → Prop} {o1 o2 : Operand} {own : Bool} {b : Nat} {v : Value} {L : List Held} {x : Held} {S : Nat → Prop} {A : Option Addr} {c : Nat}
theorem gE_app1 (hx : a.eval o1 = v) (hy : a.eval o2 = .slice A 1 c) (h : Hst w own b v L) (hm : Sli 33 ceL S w A [x] 1 c) (hsz : L.length ≤ 10000)
    (hR : ∀ v' w' b', Hst w' true b' v' (L ++ [x]) → (own = true ∧ b' = b ∨ w.heap.size ≤ b') → TurnC (tailC own b L.length) w w' → R v' w') :
    GivesE Try.prog ⟨dst, .call { callee := .builtin .append, args := #[o1, o2], argTypes := #[85, 85] }, ty, pos, after, gd⟩ a w R := by
  obtain ⟨v', w', b', hr, h1, h2, h3⟩ := run_app1 (ty := ty) h hm hsz
  unfold GivesE execOp
  simp only [resolve, invoke, builtin, Sem.run_bind, Sem.run_pure, Result.andThen_ok, List.map_toArray, List.map_cons, List.map_nil, hx, hy, hr]
  exact hR v' w' b' h1 h2 h3
end
/-- What holds in the midst of an append of one element to a history. -/
structure ApH (w0 : World) (own : Bool) (bk : Nat) (L : List Held) (x : Held) (d8 d9 : Bool) (v8 v9 : Value) (w' : World) : Prop where
  t : TurnC (tailC own bk L.length) w0 w'
  b : d9 = false → Below w0.heap.size w0 w'
  lit : d8 = true → d9 = false → ∃ A c, v8 = .slice A 1 c ∧ Sli 33 ceL (fun b => w0.heap.size ≤ b) w' A [x] 1 c
  own : d9 = true → ∃ b', Hst w' true b' v9 (L ++ [x]) ∧ (own = true ∧ b' = bk ∨ w0.heap.size ≤ b')
end ClP
end Go.Proofs.Ytablkaofaedpeaa
set_option maxRecDepth 100000
namespace Go.Proofs.Ytablkaofaedpeaa
open Go.ChangeShapes Go.WideShapes Go.ChangeAt Go.RowKit
attribute [local go_sem] Gives GivesE
namespace ClP
section
variable {ops : Array Oper} {Q : Exit → Act → World → Prop} {a : Act} {w : World} {rest : List Oper} {dst : Option Tmp} {ty : TypeId} {pos : String} {after : Array Edge} {x y : Operand}
theorem wblZc {zCl : Array Value} (hz : Try.prog.built 87 [] = some zCl) (hk : wpList Try.prog ops Q rest (a.put dst (.agg zCl)) w) : wpList Try.prog ops Q (⟨dst, .build 87 #[], ty, pos, after, none⟩ :: rest) a w := by
  have hr : (Instr.build 87 #[]).run Try.prog w = .ok (.agg zCl) w := run_build w _ _ _ hz
  refine wpList_plain rfl fun K hK => ?_
  unfold Oper.wp execOp
  simp [hr, Result.andThen]
  exact hK _ _ hk
end
theorem run_ceN (w : World) : (Instr.build 43 #[(0, .int .u64 4611686018427387905)]).run Try.prog w = .ok (.agg (ceL (4611686018427387905, zero)).toArray) w := run_build w _ _ _ (by kernel_rfl)
theorem run_tg0 (w : World) : (Instr.build 41 #[]).run Try.prog w = .ok (.agg (ar 32 fun _ => 0)) w := run_build w _ _ _ (by kernel_rfl)
end ClP
end Go.Proofs.Ytablkaofaedpeaa
set_option maxRecDepth 100000
namespace Go.Proofs.Ytablkaofaedpeaa
open Go.ChangeShapes Go.WideShapes Go.ChangeAt Go.RowKit
attribute [local go_sem] Gives GivesE
theorem ret_rowt' {a : Act} {w : World} {g : Nat} {t T : TypeId} {cs : Array Value} {fn : Func} {R : Ending → World → Prop} {p q : Tmp} {v : Value} (hT : RowT T cs.size) (hr : fn.results = #[.cell p T, .tmp q]) (hp : a.tmps.getD p undef = .pointer (some ⟨g, 0, none⟩))
    (hq : a.tmps.getD q undef = v) (hdf : a.defers = []) (hb : Blk w g t cs) (hR : R (.returned (.tuple #[.agg cs, v])) w) : bodyPost Try.prog fn R .ret a w := by
  obtain ⟨d, h1, h2⟩ := hT.desc
  refine bodyPost_ret ?_ hdf hR
  have hv : (loadVar T ⟨g, 0, none⟩).run Try.prog w = .ok (.agg cs) w := run_loadVar_row w g _ _ cs (0, 0) _ hb h1 (by cases d <;> first | rfl | exact h2) hT.size
  have hp' : a.tmps[p]?.getD undef = .pointer (some ⟨g, 0, none⟩) := by simpa using hp
  have hq' : a.tmps[q]?.getD undef = v := by simpa using hq
  simp [results, hr, hp', hq', asAddr, hv]
namespace ClP
def pcF (m : Bool) (h : Held) (v : Value) (j : Nat) : Value := if j = 0 then .bool m else if j = 34 then v else (ceL h).getD (j - 1) undef
def pcV (m : Bool) (h : Held) (v : Value) : Array Value := row 35 (pcF m h v)
section
variable {w : World} {g : Nat} {m : Bool} {h : Held} {v : Value} {t : TypeId}
theorem pc_m (H : Blk w g t (pcV m h v)) : w.cell? ⟨g, 0, none⟩ = some (.bool m) := by
  rw [H.cell, pcV, get_row_lt (by omega)]; rfl
theorem pc_v (H : Blk w g t (pcV m h v)) : w.cell? ⟨g, 34, none⟩ = some v := by
  rw [H.cell, pcV, get_row_lt (by omega)]; rfl
theorem pc_h (H : Blk w g t (pcV m h v)) : w.rangeAt g 1 (ceL h) := fun j u hj => by
  have hlt : j < 33 := by have := (List.getElem?_eq_some_iff.1 hj).1; rwa [ceL_len] at this
  rw [H.cell, pcV, get_row_lt (by omega)]
  unfold pcF
  rw [if_neg (by omega), if_neg (by omega), show 1 + j - 1 = j by omega, List.getD_eq_getElem?_getD, hj]; rfl
theorem pc_c (H : Blk w g t (pcV m h v)) : w.cell? ⟨g, 1, none⟩ = some (.int .u64 (h.1 : Nat)) := ce_n (pc_h H)
theorem pc_setV (H : Blk w g t (pcV m h v)) (v' : Value) : Blk (w.setCell ⟨g, 34, none⟩ v') g t (pcV m h v') := by
  have h1 := H.setCell_same 34 v'
  rw [pcV, row_set, row_ext (g := pcF m h v') fun j hj => by
    unfold pcF
    by_cases e : j = 34
    · subst e; rfl
    · rw [if_neg e, if_neg e, if_neg e]] at h1
  exact h1
theorem pc_setH (H : Blk w g t (pcV m h v)) (p : Held) : Blk (w.setCells g 1 (ceL p).toArray.toList) g t (pcV m p v) := by
  have h1 := (blk_setCells (ceL p).toArray.toList 1 w (pcF m h v) H (by simp [ceL_len])).1
  have hlen : (ceL p).length = 33 := ceL_len p
  rw [row_ext (g := pcF m p v) fun j hj => by
    show (if 1 ≤ j ∧ j < 1 + (ceL p).length then (ceL p).getD (j - 1) undef else pcF m h v j) = _
    rw [hlen]
    unfold pcF
    by_cases e : 1 ≤ j ∧ j < 1 + 33
    · rw [if_pos e, if_neg (by omega), if_neg (by omega)]
    · rw [if_neg e]
      by_cases e0 : j = 0
      · rw [if_pos e0, if_pos e0]
      · rw [if_neg e0, if_neg e0, if_pos (by omega), if_pos (by omega)]] at h1
  exact h1
theorem pc_there (H : Blk w g t (pcV m h v)) {o n : Nat} (hm : o + n ≤ 35) : w.there g o n := there_of (t := t) (cur := pcV m h v) H (by rw [pcV, size_row]; exact hm)
end
theorem built_pc (h : Held) (A : Option Addr) (n k : Nat) : Try.prog.built 87 [(0, .bool true), (1, .agg (ceL h).toArray), (2, .slice A n k)] = some (pcV true h (.slice A n k)) := by kernel_rfl
theorem built_pn (h : Held) : Try.prog.built 87 [(0, .bool true), (1, .agg (ceL h).toArray)] = some (pcV true h (.slice none 0 0)) := by kernel_rfl
/-- Block g holds a cell that holds h, and has held H ahead of it. -/
structure Pc (w : World) (g : Nat) (v : Value) (H : List Held) (h : Held) : Prop where
  blk : Blk w g 87 (pcV true h v)
  hs : OwnX 43 33 ceL w 0 v H
  nil : H = [] → v = .slice none 0 0
def mutC (g : Nat) (v : Value) : Cs := fun p => p.1 = g ∨ v.ownBlock = some p.1
def mutB (g : Nat) (v : Value) (b : Nat) : Prop := b = g ∨ v.ownBlock = some b
def repC : RepC := fun w g M I L h => ∃ H v, Pc w g v H h ∧ L = H ++ [h] ∧ M = mutC g v ∧ I = fun _ => False
section
variable {w w' : World} {g : Nat} {v : Value} {H : List Held} {h : Held}
theorem Pc.ne (P : Pc w g v H h) : v.ownBlock ≠ some g := fun e => by
  obtain ⟨c, hc⟩ := P.hs.obj e
  have h2 : w.heap[g]? = some (.cells _ 87 (0, 0)) := P.blk
  rw [hc] at h2
  simp at h2
theorem Pc.turn {T : Nat → Prop} (P : Pc w g v H h) (ht : Turn T w w') (hT : ∀ b, mutB g v b → ¬ T b) : Pc w' g v H h where
  blk := P.blk.turn ht (hT g (.inl rfl))
  hs := P.hs.turn ht fun b hb => hT b (.inr hb)
  nil := P.nil
theorem Pc.below (P : Pc w g v H h) (hb : Below w.heap.size w w') : Pc w' g v H h :=
  P.turn (T := fun _ => False) (Turn.of_new hb) fun _ _ e => e
theorem made_any (P : Pc w g v H h) : Calls Try.prog 60 #[ptr' g] w fun e w' => e = .returned (.bool true) ∧ w' = w := by
  have p0 := pc_m P.blk
  unfold ptr'
  clear P
  go_enter Try.func60, Try.ntmps60
  go_wp2_with fail
  go_ret
  exact ⟨rfl, rfl⟩
section
variable {ops : Array Oper} {Q : Exit → Act → World → Prop} {a : Act} {w : World} {rest : List Oper} {dst : Option Tmp} {ty : TypeId} {pos : String} {after : Array Edge} {x y : Operand} {n k : Nat} {h : Held} {A : Option Addr}
theorem wblP (hx : a.eval x = .agg (ceL h).toArray) (hy : a.eval y = .slice A n k) (hk : wpList Try.prog ops Q rest (a.put dst (.agg (pcV true h (.slice A n k)))) w) : wpList Try.prog ops Q (⟨dst, .build 87 #[(0, .const (.bool true)), (1, x), (2, y)], ty, pos, after, none⟩ :: rest) a w := by
  have hr : (Instr.build 87 #[(0, .bool true), (1, .agg (ceL h).toArray), (2, .slice A n k)]).run Try.prog w = .ok (.agg (pcV true h (.slice A n k))) w := run_build w _ _ _ (built_pc h A n k)
  have hm : (#[(0, .const (.bool true)), (1, x), (2, y)] : Array (Nat × Operand)).map (fun (i, x) => (i, a.eval x)) = #[(0, .bool true), (1, .agg (ceL h).toArray), (2, .slice A n k)] := by
    simp only [List.map_toArray, List.map_cons, List.map_nil, hx, hy]; rfl
  refine wpList_plain rfl fun K hK => ?_
  unfold Oper.wp execOp
  simp only [Sem.run_bind, hm, hr, Result.andThen_ok, Sem.run_pure]
  exact hK _ _ hk
theorem wblN (hx : a.eval x = .agg (ceL h).toArray) (hk : wpList Try.prog ops Q rest (a.put dst (.agg (pcV true h (.slice none 0 0)))) w) : wpList Try.prog ops Q (⟨dst, .build 87 #[(0, .const (.bool true)), (1, x)], ty, pos, after, none⟩ :: rest) a w := by
  have hr : (Instr.build 87 #[(0, .bool true), (1, .agg (ceL h).toArray)]).run Try.prog w = .ok (.agg (pcV true h (.slice none 0 0))) w := run_build w _ _ _ (built_pn h)
  have hm : (#[(0, .const (.bool true)), (1, x)] : Array (Nat × Operand)).map (fun (i, x) => (i, a.eval x)) = #[(0, .bool true), (1, .agg (ceL h).toArray)] := by
    simp only [List.map_toArray, List.map_cons, List.map_nil, hx]; rfl
  refine wpList_plain rfl fun K hK => ?_
  unfold Oper.wp execOp
  simp only [Sem.run_bind, hm, hr, Result.andThen_ok, Sem.run_pure]
  exact hK _ _ hk
end
set_option maxHeartbeats 600000 in
set_option maxRecDepth 100000 in
theorem pread_any (P : Pc w g v H h) : Calls Try.prog 43 #[ptr' g] w fun e w' => e = .returned (.tuple #[.agg (ceL h).toArray, .int .i64 0]) ∧ Below w.heap.size w w' := by
  have HH := hid P
  clear P
  unfold ptr'
  go_enter Try.func43, Try.ntmps43
  go_upto_region 1 with (with_reducible apply alZ' zCe)
  generalize hw1 : World.alloc w _ = w1
  have b1 := hid (show Blk w1 w.heap.size 43 (ceL (0, zero)).toArray by rw [← hw1]; exact Blk.new _ _ _)
  have BEL := hid (show Below w.heap.size w w1 by rw [← hw1]; exact (Below.refl _ _).alloc (Nat.le_refl _) _)
  have H1 := hid (HH.out.below BEL.out)
  clear hw1 HH
  go_wp2_with fail
  refine (made_any H1.out).mono ?_
  rintro e w2 ⟨rfl, rfl⟩
  have b3 := b1.out.setRow_same (ceL h).toArray
  have B3 := hid (below_setRow BEL.out (Nat.le_refl w.heap.size) (ceL h).toArray)
  go_wp2_with (first | ((with_reducible apply ldR (cs := (ceL h).toArray) (tCe h)); rfl; exact pc_h H1.out.blk) | ((with_reducible apply stR (tCe h)); rfl; rfl; exact b1.out; exact ce_size _ _; exact ce_one _))
  apply ret_rowt' (tCe h) Try.results43
  · rfl
  · rfl
  · rfl
  · exact b3
  exact ⟨rfl, B3.out⟩
end
set_option maxHeartbeats 600000 in
set_option maxRecDepth 100000 in
theorem pnew_any (c : Nat) (l : Nat → Nat) (hc : c ≤ most) (w : World) :
    Calls Try.prog 21 #[.agg (ceL (c, l)).toArray] w fun e w' => ∃ g, e = .returned (.tuple #[ptr' g, .int .i64 0]) ∧ Pc w' g (.slice none 0 0) [] (c, l) ∧ w.heap.size ≤ g ∧ Below w.heap.size w w' := by
  unfold ptr'
  have t1 : decide ((4611686018427387904 : Int) < (c : Int)) = false := by unfold most at hc; simp; omega
  have t2 : ¬ 4611686018427387904 < c := by unfold most at hc; omega
  clear hc
  go_enter Try.func21, Try.ntmps21
  go_upto_region 1 with fail
  generalize hw1 : World.alloc w _ = w1
  have b1 := hid (show Blk w1 w.heap.size 43 (ceL (c, l)).toArray by rw [← hw1]; exact Blk.new _ _ _)
  have BEL := hid (show Below w.heap.size w w1 by rw [← hw1]; exact (Below.refl _ _).alloc (Nat.le_refl _) _)
  clear hw1
  have q0 : w1.cell? ⟨w.heap.size, 0, none⟩ = some (.int .u64 (c : Nat)) := ce_n b1.out.whole
  go_wp2_with (first
    | ((with_reducible apply ldR (cs := (ceL (c, l)).toArray) (tCe (c, l))); rfl; exact b1.out.whole)
    | ((with_reducible apply wblN (h := (c, l))); rfl))
  go_ret2
  have hs := BEL.out.size
  exact ⟨w1.heap.size, by simp, ⟨Blk.new _ _ _, OwnX.nil _ _ _ _ _, fun _ => rfl⟩, hs, BEL.out.alloc hs _⟩
theorem pnew_bad (c : Nat) (l : Nat → Nat) (hc : most < c) (w : World) :
    Calls Try.prog 21 #[.agg (ceL (c, l)).toArray] w fun e w' => e = .returned (.tuple #[.pointer none, .int .i64 2]) ∧ Below w.heap.size w w' := by
  have t1 : decide ((4611686018427387904 : Int) < (c : Int)) = true := by unfold most at hc; simp; omega
  have t2 : 4611686018427387904 < c := hc
  clear hc
  go_enter Try.func21, Try.ntmps21
  go_upto_region 1 with fail
  generalize hw1 : World.alloc w _ = w1
  have b1 := hid (show Blk w1 w.heap.size 43 (ceL (c, l)).toArray by rw [← hw1]; exact Blk.new _ _ _)
  have BEL := hid (show Below w.heap.size w w1 by rw [← hw1]; exact (Below.refl _ _).alloc (Nat.le_refl _) _)
  clear hw1
  have q0 : w1.cell? ⟨w.heap.size, 0, none⟩ = some (.int .u64 (c : Nat)) := ce_n b1.out.whole
  go_wp2_with fail
  go_ret2
  exact ⟨rfl, BEL.out⟩
end ClP
end Go.Proofs.Ytablkaofaedpeaa
set_option maxRecDepth 100000
namespace Go.Proofs.Ytablkaofaedpeaa
open Go.ChangeShapes Go.WideShapes Go.ChangeAt Go.RowKit
attribute [local go_sem] Gives GivesE
namespace ClP
section
variable {w : World} {g : Nat} {v : Value} {H : List Held} {h : Held}
/-- What holds in the midst of Copy. -/
structure CoC (w0 : World) (H : List Held) (nl : Prop) (d8 : Bool) (v8 : Value) (w' : World) : Prop where
  b : Below w0.heap.size w0 w'
  own : d8 = true → OwnX 43 33 ceL w' w0.heap.size v8 H ∧ (nl → v8 = .slice none 0 0)
/-- An append to a slice that is full, of a row of its own. -/
theorem run_fullO {w : World} {A : Option Addr} {S T : Nat → Prop} {x : Held} {b2 : Addr} {cB : Nat} {ty : TypeId} (hs : Sli 33 ceL S w A H H.length H.length) (hm : Sli 33 ceL T w (some b2) [x] 1 cB) (hsz : H.length ≤ 10000) :
    ∃ v' w', (Builtin.append_ #[85, 85] ty #[.slice A H.length H.length, .slice (some b2) 1 cB]).run Try.prog w = .ok v' w' ∧ OwnX 43 33 ceL w' w.heap.size v' (H ++ [x]) ∧ Below w.heap.size w w' := by
  cases A with
  | none =>
    obtain ⟨h0, _⟩ := hs.none rfl
    obtain rfl := List.eq_nil_of_length_eq_zero h0
    obtain ⟨v', w', hr, h1, h2⟩ := run_appX (ty := ty) (w := w) (B := w.heap.size) eltCe undCe (OwnX.nil _ _ _ _ _) hm (by simp) (by omega) (Nat.le_refl _)
    exact ⟨v', w', hr, h1, (Turn.of_grown (S := fun b => w.heap.size ≤ b) h2 fun b e => by cases e).below (Nat.le_refl _) fun _ h => h⟩
  | some ad =>
    obtain ⟨c', w', hr, h1, h2⟩ := run_fullX (ty := ty) eltCe undCe hs hm (by omega) (by omega) (by omega)
    exact ⟨_, w', hr, h1, h2⟩
section
variable {a : Act} {w : World} {dst : Option Tmp} {ty : TypeId} {pos : String} {after : Array Edge} {gd : Option (Nat × Bool)} {R : Value → World → Prop} {x y z : Operand} {n c : Nat} {A : Option Addr}
theorem run_three (h0 : n = 0 → A = none) (hA : A = none → n = 0 ∧ c = 0) (hB : ∀ ad, A = some ad → ∃ b o, ad = ⟨b, o, none⟩) (hc : n ≤ c) (w : World) : (Instr.sliceAt 85 (.slice A n c) none (some (.int .i64 n)) (some (.int .i64 n))).run Try.prog w = .ok (.slice A n n) w := by
  obtain ⟨ie, z, hi, hz, h1, h2, h3⟩ := eltCe.info
  have hsz : (sizeOf (Try.prog.elem 85)).run Try.prog w = .ok 33 w := by rw [elemCe]; simp [sizeOf, typeInfo, hi, h1]
  have hu' : Try.prog.underlying 85 = some (.slice (Try.prog.elem 85)) := by rw [elemCe]; exact undCe
  rw [run_sliceAt_slice w _ _ _ _ _ hu', run_slice_hm w _ _ n c hu' .i64 .i64 n n (by omega) (by omega) (by omega), hsz]
  simp only [Result.andThen, sliced, Int.toNat_natCast, Nat.sub_zero]
  cases A with
  | none => obtain ⟨rfl, _⟩ := hA rfl; simp
  | some ad =>
    obtain ⟨b, o, rfl⟩ := hB ad rfl
    rw [if_neg (fun e => by have := h0 e; cases this), Option.map_some, Addr.add_mid, Nat.zero_mul, Nat.add_zero]
theorem gE_fullO {S T : Nat → Prop} {h : Held} {b2 : Addr} {cB : Nat} (hx : a.eval x = .slice A H.length H.length) (hy : a.eval y = .slice (some b2) 1 cB) (hs : Sli 33 ceL S w A H H.length H.length) (hm : Sli 33 ceL T w (some b2) [h] 1 cB) (hsz : H.length ≤ 10000)
    (hR : ∀ v' w', OwnX 43 33 ceL w' w.heap.size v' (H ++ [h]) → Below w.heap.size w w' → R v' w') :
    GivesE Try.prog ⟨dst, .call { callee := .builtin .append, args := #[x, y], argTypes := #[85, 85] }, ty, pos, after, gd⟩ a w R := by
  obtain ⟨v', w', hr, h1, h2⟩ := run_fullO (ty := ty) hs hm hsz
  unfold GivesE execOp
  simp only [resolve, invoke, builtin, Sem.run_bind, Sem.run_pure, Result.andThen_ok, List.map_toArray, List.map_cons, List.map_nil, hx, hy, hr]
  exact hR v' w' h1 h2
theorem gE_sl3 (h0 : n = 0 → A = none) (hA : A = none → n = 0 ∧ c = 0) (hB : ∀ ad, A = some ad → ∃ b o, ad = ⟨b, o, none⟩) (hc : n ≤ c) (hx : a.eval x = .slice A n c) (hy : a.eval y = .int .i64 n) (hz : a.eval z = .int .i64 n) (hR : R (.slice A n n) w) :
    GivesE Try.prog ⟨dst, .slice 85 x none (some y) (some z), ty, pos, after, gd⟩ a w R := by
  unfold GivesE execOp
  simp only [Sem.run_bind, Option.map_some, Option.map_none, Sem.run_pure, hx, hy, hz, run_three h0 hA hB hc w, Result.andThen_ok]
  exact hR
end
/-- What holds in the midst of History. -/
structure HiC (w0 : World) (H : List Held) (h : Held) (d11 d12 : Bool) (v11 v12 : Value) (w' : World) : Prop where
  b : Below w0.heap.size w0 w'
  lit : d11 = true → d12 = false → ∃ A c, v11 = .slice A 1 c ∧ Sli 33 ceL (fun b => w0.heap.size ≤ b) w' A [h] 1 c
  own : d12 = true → OwnX 43 33 ceL w' w0.heap.size v12 (H ++ [h])
end
end ClP
end Go.Proofs.Ytablkaofaedpeaa
set_option maxRecDepth 100000
namespace Go.Proofs.Ytablkaofaedpeaa
open Go.ChangeShapes Go.WideShapes Go.ChangeAt Go.RowKit
attribute [local go_sem] Gives GivesE
namespace ClP
section
variable {w w' : World} {g : Nat} {v : Value} {H : List Held} {h : Held}
theorem padv_full (P : Pc w g v H h) (hc : h.1 = most) (t : Nat → Nat) :
    Calls Try.prog 41 #[ptr' g, .agg (ar 32 t)] w fun e w' => e = .returned (.tuple #[.int .u64 0, .int .i64 15]) ∧ Below w.heap.size w w' := by
  have HH := hid P
  unfold ptr'
  clear P
  go_enter Try.func41, Try.ntmps41
  go_upto_region 1 with fail
  generalize hw1 : World.alloc w _ = w1
  have BEL := hid (show Below w.heap.size w w1 by rw [← hw1]; exact (Below.refl _ _).alloc (Nat.le_refl _) _)
  have H1 := hid (HH.out.below BEL.out)
  have q0 : w1.cell? ⟨g, 1, none⟩ = some (.int .u64 (4611686018427387904 : Int)) := by
    have := pc_c H1.out.blk
    rw [hc] at this
    exact this
  clear hw1 HH
  go_wp2_with fail
  refine (made_any H1.out).mono ?_
  rintro e w2 ⟨rfl, rfl⟩
  go_wp2_with fail
  go_ret2
  exact ⟨rfl, BEL.out⟩
set_option maxHeartbeats 1000000 in
set_option maxRecDepth 100000 in
theorem padv_any (P : Pc w g v H h) (hc : h.1 < most) (hl : H.length ≤ 10000) (t : Nat → Nat) :
    Calls Try.prog 41 #[ptr' g, .agg (ar 32 t)] w fun e w' => e = .returned (.tuple #[.int .u64 ((h.1 + 1 : Nat) : Int), .int .i64 0]) ∧ ∃ v', Pc w' g v' (H ++ [h]) (h.1 + 1, t) ∧
      (∀ b, v'.ownBlock = some b → v.ownBlock = some b ∨ w.heap.size ≤ b) ∧ Turn (mutB g v) w w' := by
  obtain ⟨A, c0, rfl, _⟩ := P.hs.sli ceL_len
  obtain ⟨c, l0⟩ := h
  have HH := hid P
  have hgl := P.blk.lt
  unfold ptr'
  unfold most at hc
  have hc' : c < 4611686018427387904 := hc
  have t1 : ((c : Int) == 4611686018427387904) = false := by simp; omega
  have t2 : decide (c = 4611686018427387904) = false := by simp; omega
  have t3 : decide ((c : Int) = 4611686018427387904) = false := by simp; omega
  have tw : IntKind.u64.wrap ((c : Int) + 1) = ((c + 1 : Nat) : Int) := (IntWalk.u64_in _ (by omega)).trans (by omega)
  clear P hc
  go_enter Try.func41, Try.ntmps41
  go_upto_region 1 with fail
  generalize hw1 : World.alloc w _ = w1
  have b1 := hid (show Blk w1 w.heap.size 41 (ar 32 t) by rw [← hw1]; exact Blk.new _ _ _)
  have BEL := hid (show Below w.heap.size w w1 by rw [← hw1]; exact (Below.refl _ _).alloc (Nat.le_refl _) _)
  have H1 := hid (HH.out.below BEL.out)
  clear hw1 HH
  have q0 : w1.cell? ⟨g, 1, none⟩ = some (.int .u64 (c : Nat)) := pc_c H1.out.blk
  go_wp2_with fail
  refine (made_any H1.out).mono ?_
  rintro e w2 ⟨rfl, rfl⟩
  go_upto_region 5 with fail
  have C2 := hid H1.out.blk
  have O2 := hid H1.out.hs
  have hne := hid H1.out.ne
  refine wp_region_c (S := yS [some (.pointer (some ⟨g, 0, none⟩)), some (.pointer (some ⟨g, 0, none⟩)), some (.pointer (some ⟨g, 0, none⟩)), some (.pointer (some ⟨g, 34, none⟩)), some (.slice A H.length c0), some (.pointer (some ⟨g, 0, none⟩)), some (.pointer (some ⟨g, 0, none⟩)), some (.pointer (some ⟨g, 1, none⟩)), some (.agg (ceL (c, l0)).toArray), none, none, some (.pointer (some ⟨g, 0, none⟩)), some (.pointer (some ⟨g, 34, none⟩))]
      [(9, kSl 1), (10, kSl (H.length + 1))]) (C := fun d vs w' => ApC 43 33 ceL w2 (.slice A H.length c0) H ((c, l0) : Held) (d 9) (d 10) (vs 9) (vs 10) w') 13 (by kernel_rfl) (by kernel_rfl) (by kernel_rfl) _
    (yS_ok _ fun y hy => by simp only [List.mem_cons, List.not_mem_nil, or_false] at hy; rcases hy with rfl | rfl <;> exact kSl_ok _) ⟨Turn.drew _, fun _ => (Below.refl _ _).drew, (fun e => by cases e), (fun e => by cases e)⟩ fun vs => ?_
  simp only [List.take_succ_cons, List.take_zero, List.drop_succ_cons, List.drop_zero]
  refine ⟨.inl ⟨rfl, fun dd w' hd hnx hw hC => ?_⟩, fun e => ?_⟩
  · go_simp
    first | exact ⟨rfl, hC⟩ | exact hC
  have e' : vs 0 = _ := e
  rw [e']
  clear e e'
  simp only [Act.put, List.setIfInBounds_toArray, List.set_cons_succ, List.set_cons_zero]
  refine ⟨.inl ⟨rfl, fun dd w' hd hnx hw hC => ?_⟩, fun e => ?_⟩
  · go_simp
    first | exact ⟨rfl, hC⟩ | exact hC
  have e' : vs 1 = _ := e
  rw [e']
  clear e e'
  simp only [Act.put, List.setIfInBounds_toArray, List.set_cons_succ, List.set_cons_zero]
  refine ⟨.inl ⟨rfl, fun dd w' hd hnx hw hC => ?_⟩, fun e => ?_⟩
  · go_simp
    first | exact ⟨rfl, hC⟩ | exact hC
  have e' : vs 2 = _ := e
  rw [e']
  clear e e'
  simp only [Act.put, List.setIfInBounds_toArray, List.set_cons_succ, List.set_cons_zero]
  refine ⟨.inl ⟨rfl, fun dd w' hd hnx hw hC => ?_⟩, fun e => ?_⟩
  · go_simp
    first | exact ⟨rfl, hC⟩ | exact hC
  have e' : vs 3 = _ := e
  rw [e']
  clear e e'
  simp only [Act.put, List.setIfInBounds_toArray, List.set_cons_succ, List.set_cons_zero]
  refine ⟨.inl ⟨rfl, fun dd w' hd hnx hw hC => ?_⟩, fun e => ?_⟩
  · have h1 : w'.cell? ⟨g, 34, none⟩ = some (.slice A H.length c0) := pc_v (C2.out.turn hC.t hne.out)
    go_simp
    first | exact ⟨rfl, hC⟩ | exact hC
  have e' : vs 4 = _ := e
  rw [e']
  clear e e'
  simp only [Act.put, List.setIfInBounds_toArray, List.set_cons_succ, List.set_cons_zero]
  refine ⟨.inl ⟨rfl, fun dd w' hd hnx hw hC => ?_⟩, fun e => ?_⟩
  · go_simp
    first | exact ⟨rfl, hC⟩ | exact hC
  have e' : vs 5 = _ := e
  rw [e']
  clear e e'
  simp only [Act.put, List.setIfInBounds_toArray, List.set_cons_succ, List.set_cons_zero]
  refine ⟨.inl ⟨rfl, fun dd w' hd hnx hw hC => ?_⟩, fun e => ?_⟩
  · go_simp
    first | exact ⟨rfl, hC⟩ | exact hC
  have e' : vs 6 = _ := e
  rw [e']
  clear e e'
  simp only [Act.put, List.setIfInBounds_toArray, List.set_cons_succ, List.set_cons_zero]
  refine ⟨.inl ⟨rfl, fun dd w' hd hnx hw hC => ?_⟩, fun e => ?_⟩
  · go_simp
    first | exact ⟨rfl, hC⟩ | exact hC
  have e' : vs 7 = _ := e
  rw [e']
  clear e e'
  simp only [Act.put, List.setIfInBounds_toArray, List.set_cons_succ, List.set_cons_zero]
  refine ⟨.inl ⟨rfl, fun dd w' hd hnx hw hC => ?_⟩, fun e => ?_⟩
  · exact gE_ldR (cs := (ceL (c, l0)).toArray) (tCe (c, l0)) rfl (pc_h (C2.out.turn hC.t hne.out)) ⟨rfl, hC⟩
  have e' : vs 8 = _ := e
  rw [e']
  clear e e'
  simp only [Act.put, List.setIfInBounds_toArray, List.set_cons_succ, List.set_cons_zero]
  refine ⟨.inl ⟨rfl, fun dd w' hd hnx hw hC => ?_⟩, fun e => ?_⟩
  · have h8 : dd 10 = false := hnx 10 (by kernel_rfl)
    have ha := (Below.refl w'.heap.size w').alloc (Nat.le_refl _) (.cells (ceL (c, l0)).toArray 43)
    have hbl := hC.b h8
    exact gE_lit1 (x := ((c, l0) : Held)) eltCe undCe (by omega) rfl rfl ⟨⟨_, _, rfl⟩, hC.t.trans (Turn.of_new (S := fun _ => False) ha) (fun _ e => e.elim), (fun _ => hbl.trans (ha.mono hbl.size)), (fun _ _ => ⟨_, _, rfl, sli_lit1 eltCe ((c, l0) : Held) w' hbl.size⟩), fun e => by
      have e' : dd 10 = true := e
      rw [h8] at e'; cases e'⟩
  obtain ⟨A7, c7, e'⟩ : ∃ (A : Option Addr) (c : Nat), vs 9 = .slice A 1 c := e
  rw [e']
  have E7 := hid e'
  clear e'
  simp only [Act.put, List.setIfInBounds_toArray, List.set_cons_succ, List.set_cons_zero]
  refine ⟨.inl ⟨rfl, fun dd w' hd hnx hw hC => ?_⟩, fun e => ?_⟩
  · have h7 : dd 9 = true := hw 9 (by kernel_rfl)
    have hbl := hC.b hd
    obtain ⟨A', c', f, sl⟩ := hC.lit h7 hd
    rw [E7.out] at f
    cases f
    refine gE_appW eltCe undCe (B := 0) (v := .slice A H.length c0) (l := H) (m := [((c, l0) : Held)]) rfl rfl (O2.out.below hbl (Nat.le_refl _)) sl (by omega) (by omega) (Nat.zero_le _) fun v' w4 o4 g4 wh => ?_
    obtain ⟨A4, c4, rfl, _⟩ := o4.sli ceL_len
    refine ⟨⟨A4, c4, by rw [List.length_append]; rfl⟩, ?_⟩
    exact ⟨(Turn.of_new (S := fun b => (Value.slice A H.length c0).ownBlock = some b) hbl).trans (Turn.of_grown (S := fun b => (Value.slice A H.length c0).ownBlock = some b) g4 fun b e => e) (fun b e => .inl e), (fun e => by cases e), (fun _ e => by cases e), fun _ => ⟨o4, fun b e => by
      have e3 : (Value.slice A4 (H ++ [((c, l0) : Held)]).length c4).ownBlock = some b := e
      rcases wh with x | x
      · exact .inl (x.symm.trans e3)
      · rw [x] at e3; cases e3; exact .inr hbl.size⟩⟩
  obtain ⟨A8, c8, e'⟩ : ∃ (A : Option Addr) (c : Nat), vs 10 = .slice A (H.length + 1) c := e
  rw [e']
  have E8 := hid e'
  clear e'
  simp only [Act.put, List.setIfInBounds_toArray, List.set_cons_succ, List.set_cons_zero]
  refine ⟨.inl ⟨rfl, fun dd w' hd hnx hw hC => ?_⟩, fun e => ?_⟩
  · go_simp
    first | exact ⟨rfl, hC⟩ | exact hC
  have e' : vs 11 = _ := e
  rw [e']
  clear e e'
  simp only [Act.put, List.setIfInBounds_toArray, List.set_cons_succ, List.set_cons_zero]
  refine ⟨.inl ⟨rfl, fun dd w' hd hnx hw hC => ?_⟩, fun e => ?_⟩
  · go_simp
    first | exact ⟨rfl, hC⟩ | exact hC
  have e' : vs 12 = _ := e
  rw [e']
  clear e e'
  simp only [Act.put, List.setIfInBounds_toArray, List.set_cons_succ, List.set_cons_zero]
  intro dd w4 hall hC
  obtain ⟨o4, wh⟩ := hC.own (hall 10 (by omega))
  rw [E8.out] at o4 wh
  have bb := C2.out.turn hC.t hne.out
  have tu5 := Turn.setCell (S := fun b => b = g) w4 ⟨g, 34, none⟩ (.slice A8 (H.length + 1) c8) rfl
  have hne4 : ∀ b, (Value.slice A8 (H.length + 1) c8).ownBlock = some b → b ≠ g := fun b e e2 => by
    rcases wh b e with x | x
    · exact hne.out (by rw [x, e2])
    · have := C2.out.lt; omega
  have P3 := hid (show Pc (w4.setCell ⟨g, 34, none⟩ (.slice A8 (H.length + 1) c8)) g (.slice A8 (H.length + 1) c8) (H ++ [((c, l0) : Held)]) (c, l0) from
    ⟨pc_setV bb _, o4.turn tu5 hne4, fun e => by simp at e⟩)
  have T3 := hid (show Turn (mutB g (.slice A H.length c0)) w (w4.setCell ⟨g, 34, none⟩ (.slice A8 (H.length + 1) c8)) from
    ((Turn.of_new (S := mutB g (.slice A H.length c0)) BEL.out).trans (hC.t.mono (T := mutB g (.slice A H.length c0)) fun b e => .inr e) fun b e => .inl e).trans tu5 fun b e => .inl (.inl e))
  have b3 := hid (b1.out.turn (Turn.trans (S := mutB g (.slice A H.length c0)) (hC.t.mono fun b e => .inr e) tu5 fun b e => .inl (.inl e)) fun e => by
    rcases e with e | e
    · omega
    · have := H1.out.hs.own _ e; have := (H1.out.hs.obj e); obtain ⟨cur, hcur⟩ := this; have hb := b1.out; unfold Blk at hb; rw [hcur] at hb; simp at hb)
  have W := hid (show ∀ b, (Value.slice A8 (H.length + 1) c8).ownBlock = some b → (Value.slice A H.length c0).ownBlock = some b ∨ w.heap.size ≤ b from fun b e => (wh b e).imp id fun x => Nat.le_trans BEL.out.size x)
  have p34 : w4.cell? ⟨g, 34, none⟩ = some (.slice A H.length c0) := pc_v bb
  have fz := bb.frozen 34
  clear C2 O2 hC o4 wh bb hall E7 E8 tu5 hne4 H1 b1 BEL q0 hne
  go_upto_region 6 with fail
  generalize World.setCell w4 _ _ = w5 at P3 T3 b3 ⊢
  clear p34 fz
  refine wp_region_tail (C := fun w' => Below w5.heap.size w5 w') 11 (by kernel_rfl) (by kernel_rfl) (by kernel_rfl) (Below.refl _ _).drew ?_
  simp only [List.take_succ_cons, List.take_zero, List.drop_succ_cons, List.drop_zero]
  apply wpK_val
  · rfl
  · intro w' hw'
    go_simp
    first | exact rfl | exact ⟨rfl, hw'⟩
  simp only [Act.put, List.setIfInBounds_toArray, List.set_cons_succ, List.set_cons_zero]
  apply wpK_val
  · rfl
  · intro w' hw'
    go_simp
    first | exact rfl | exact ⟨rfl, hw'⟩
  simp only [Act.put, List.setIfInBounds_toArray, List.set_cons_succ, List.set_cons_zero]
  apply wpK_val
  · rfl
  · intro w' hw'
    go_simp
    first | exact rfl | exact ⟨rfl, hw'⟩
  simp only [Act.put, List.setIfInBounds_toArray, List.set_cons_succ, List.set_cons_zero]
  apply wpK_val
  · rfl
  · intro w' hw'
    go_simp
    first | exact rfl | exact ⟨rfl, hw'⟩
  simp only [Act.put, List.setIfInBounds_toArray, List.set_cons_succ, List.set_cons_zero]
  apply wpK_val
  · rfl
  · intro w' hw'
    go_simp
    first | exact rfl | exact ⟨rfl, hw'⟩
  simp only [Act.put, List.setIfInBounds_toArray, List.set_cons_succ, List.set_cons_zero]
  apply wpK_val
  · rfl
  · intro w' hw'
    have hcell := pc_c (P3.out.below hw').blk
    go_simp
    first | exact rfl | exact ⟨rfl, hw'⟩
  simp only [Act.put, List.setIfInBounds_toArray, List.set_cons_succ, List.set_cons_zero]
  apply wpK_val
  · rfl
  · intro w' hw'
    go_simp
    first | exact rfl | exact ⟨rfl, hw'⟩
  simp only [Act.put, List.setIfInBounds_toArray, List.set_cons_succ, List.set_cons_zero]
  apply kldA tTg
  · rfl
  · rfl
  · exact fun w' hw' => (b3.out.below hw' b3.out.lt).head
  simp only [Act.put, List.setIfInBounds_toArray, List.set_cons_succ, List.set_cons_zero]
  apply kblC (c := c + 1) (l := t)
  · rfl
  · rfl
  · rfl
  simp only [Act.put, List.setIfInBounds_toArray, List.set_cons_succ, List.set_cons_zero]
  apply wpK_val
  · rfl
  · intro w' hw'
    go_simp
    first | exact rfl | exact ⟨rfl, hw'⟩
  simp only [Act.put, List.setIfInBounds_toArray, List.set_cons_succ, List.set_cons_zero]
  apply wpK_val
  · rfl
  · intro w' hw'
    go_simp
    first | exact rfl | exact ⟨rfl, hw'⟩
  simp only [Act.put, List.setIfInBounds_toArray, List.set_cons_succ, List.set_cons_zero]
  intro wa hCa
  have P4 := hid (P3.out.below hCa)
  have T4 := hid (T3.out.trans (Turn.of_new (S := fun _ => False) hCa) fun _ e => e.elim)
  have th := hid (pc_there (o := 1) (n := (ceL (c + 1, t)).toArray.size) P4.out.blk (by rw [List.size_toArray, ceL_len]; omega))
  clear P3 T3 b3 hCa
  go_upto_region 7 with ((with_reducible apply stRM (tCe (c + 1, t))); rfl; rfl; exact th.out; exact ce_one _)
  have tu2 := turn_setCells (g := g) (ceL (c + 1, t)).toArray.toList 1 wa
  have hne5 := P4.out.ne
  have P5 := hid (show Pc (wa.setCells g 1 (ceL (c + 1, t)).toArray.toList) g (.slice A8 (H.length + 1) c8) (H ++ [((c, l0) : Held)]) (c + 1, t) from
    ⟨pc_setH P4.out.blk (c + 1, t), P4.out.hs.turn tu2 fun b e e2 => hne5 (by rw [e, e2]), fun e => by simp at e⟩)
  have T5 := hid (T4.out.trans tu2 fun _ e => .inl (.inl e))
  clear tu2 hne5 P4 T4 th
  generalize World.setCells wa _ _ _ = w6 at P5 T5 ⊢
  have p1 : w6.cell? ⟨g, 1, none⟩ = some (.int .u64 ((c + 1 : Nat) : Int)) := pc_c P5.out.blk
  go_wp2_with fail
  go_ret2
  exact ⟨rfl, _, P5.out, W.out, T5.out⟩
end
end ClP
end Go.Proofs.Ytablkaofaedpeaa
set_option maxRecDepth 100000
namespace Go.Proofs.Ytablkaofaedpeaa
open Go.ChangeShapes Go.WideShapes Go.ChangeAt Go.RowKit
attribute [local go_sem] Gives GivesE
namespace ClP
theorem rep_turn {w w' : World} {g : Nat} {v : Value} {T : Nat → Prop} (ht : Turn T w w') (hT : ∀ b, T b → mutB g v b) : TurnC (mutC g v) w w' :=
  (TurnC.of_turn ht).mono fun p e => hT p.1 e
theorem cellD_ok : CellD repC where
  lt H b hb := by
    obtain ⟨K, v, P, _, rfl, rfl⟩ := H
    rcases hb with (e | e) | e
    · rw [e]; exact P.blk.lt
    · exact (P.hs.own _ e).2
    · exact e.elim
  frame H ht hT := by
    obtain ⟨K, v, P, hL, rfl, rfl⟩ := H
    exact ⟨K, v, P.turn ht.out fun b hb ⟨i, e⟩ => hT (b, i) (.inl hb) e, hL, rfl, rfl⟩
  own H b hb := by
    obtain ⟨K, v, P, _, rfl, rfl⟩ := H
    exact fun e => e
  new c l hc w := (pnew_any c l hc w).mono fun e w' ⟨g, he, hP, hg, hB⟩ => ⟨g, _, _, he, ⟨[], _, hP, rfl, rfl, rfl⟩, fun p hp => by
    rcases hp with (e | e) | e
    · rw [e]; exact hg
    · cases e
    · exact e.elim, hB⟩
  bad c l hc w := pnew_bad c l hc w
  read H := by
    obtain ⟨K, v, P, _, _, _⟩ := H
    exact pread_any P
  adv H hc hl t := by
    obtain ⟨K, v, P, rfl, rfl, rfl⟩ := H
    refine (padv_any P hc (by rw [List.length_append] at hl; omega) t).mono ?_
    rintro e w' ⟨rfl, v', hP, hw, ht⟩
    refine ⟨rfl, _, _, ⟨_, v', hP, rfl, rfl, rfl⟩, fun p hp => ?_, fun p hp => hp.elim, rep_turn ht fun b e => e⟩
    rcases hp with e | e
    · exact .inl (.inl e)
    · exact (hw _ e).imp .inr id
  full H hc t := by
    obtain ⟨K, v, P, hL, rfl, rfl⟩ := H
    refine (padv_full P hc t).mono ?_
    rintro e w' ⟨rfl, hB⟩
    exact ⟨rfl, _, _, ⟨K, v, P.below hB, hL, rfl, rfl⟩, fun p hp => .inl hp, fun p hp => hp.elim, TurnC.of_new hB⟩
/-! ### Of nil, and of what New did not make -/
def zPc : Array Value := pcV false (0, zero) (.slice none 0 0)
theorem made_nil (w : World) : Calls Try.prog 60 #[.pointer none] w fun e w' => e = .returned (.bool false) ∧ w' = w := by
  go_enter Try.func60, Try.ntmps60
  go_wp2_with fail
  go_ret
  exact ⟨rfl, rfl⟩
theorem made_zero (z : Nat) (w : World) (H : Blk w z 87 zPc) : Calls Try.prog 60 #[ptr' z] w fun e w' => e = .returned (.bool false) ∧ w' = w := by
  have p0 := pc_m H
  unfold ptr'
  clear H
  go_enter Try.func60, Try.ntmps60
  go_wp2_with fail
  go_ret
  exact ⟨rfl, rfl⟩
end ClP
end Go.Proofs.Ytablkaofaedpeaa
set_option maxRecDepth 100000
namespace Go.Proofs.Ytablkaofaedpeaa
open Go.ChangeShapes Go.WideShapes Go.ChangeAt Go.RowKit
attribute [local go_sem] Gives GivesE
namespace BuP
open BuM MbM MbP
abbrev RepM : MbP.RepT := MbO.Rep
/-- In w block g is a cell of the program's that holds h, and has held L; it turns blocks of M alone. -/
def repCb (w : World) (g : Nat) (M : Nat → Prop) (L : List ClP.Held) (h : ClP.Held) : Prop := ∃ H v, ClP.Pc w g v H h ∧ L = H ++ [h] ∧ M = ClP.mutB g v
section
variable {w w' : World} {g : Nat} {M : Nat → Prop} {L : List ClP.Held} {h : ClP.Held}
theorem cb_lt (H : repCb w g M L h) : ∀ q, M q → q < w.heap.size := by
  obtain ⟨H, v, P, _, rfl⟩ := H
  intro q e
  rcases e with e | e
  · rw [e]; exact P.blk.lt
  · exact (P.hs.own _ e).2
theorem cb_turn {T : Nat → Prop} (H : repCb w g M L h) (ht : Turn T w w') (hT : ∀ q, M q → ¬ T q) : repCb w' g M L h := by
  obtain ⟨K, v, P, hL, rfl⟩ := H
  exact ⟨K, v, P.turn ht hT, hL, rfl⟩
theorem cb_new (c : Nat) (l : Nat → Nat) (hc : c ≤ ClP.most) (w : World) : Calls Try.prog 21 #[.agg (ClP.ceL (c, l)).toArray] w fun e w' => ∃ g M, e = .returned (.tuple #[MbP.at' g, .int .i64 0]) ∧ repCb w' g M [((c, l) : ClP.Held)] (c, l) ∧ (∀ q, M q → w.heap.size ≤ q) ∧ Below w.heap.size w w' :=
  (ClP.pnew_any c l hc w).mono fun e w' ⟨g, he, hP, hg, hB⟩ => ⟨g, ClP.mutB g (.slice none 0 0), he, ⟨[], _, hP, rfl, rfl⟩, (fun p hp => by
    rcases hp with e | e
    · rw [e]; exact hg
    · cases e), hB⟩
theorem cb_read (H : repCb w g M L h) : Calls Try.prog 43 #[MbP.at' g] w fun e w' => e = .returned (.tuple #[.agg (ClP.ceL h).toArray, .int .i64 0]) ∧ Below w.heap.size w w' := by
  obtain ⟨K, v, P, _, _⟩ := H
  exact ClP.pread_any P
theorem cb_adv (H : repCb w g M L h) (hc : h.1 < ClP.most) (hl : L.length ≤ 10000) (t : Nat → Nat) : Calls Try.prog 41 #[MbP.at' g, .agg (ar 32 t)] w fun e w' => e = .returned (.tuple #[.int .u64 ((h.1 + 1 : Nat) : Int), .int .i64 0]) ∧
    ∃ M', repCb w' g M' (L ++ [((h.1 + 1, t) : ClP.Held)]) (h.1 + 1, t) ∧ (∀ q, M' q → M q ∨ w.heap.size ≤ q) ∧ Turn M w w' := by
  obtain ⟨K, v, P, rfl, rfl⟩ := H
  refine (ClP.padv_any P hc (by rw [List.length_append] at hl; omega) t).mono ?_
  rintro e w' ⟨rfl, v', hP, hw, ht⟩
  refine ⟨rfl, _, ⟨_, v', hP, rfl, rfl⟩, fun p hp => ?_, ht⟩
  rcases hp with e | e
  · exact .inl (.inl e)
  · exact (hw _ e).imp .inr id
theorem cb_full (H : repCb w g M L h) (hc : h.1 = ClP.most) (t : Nat → Nat) : Calls Try.prog 41 #[MbP.at' g, .agg (ar 32 t)] w fun e w' => e = .returned (.tuple #[.int .u64 0, .int .i64 15]) ∧ Below w.heap.size w w' := by
  obtain ⟨K, v, P, rfl, rfl⟩ := H
  exact ClP.padv_full P hc t
end
/-- Where all of the program's bus lies. -/
structure Fq where
  gs : List Nat
  Ms : Nat → Nat → Prop
  Is : Nat → Nat → Prop
  gc : Nat
  Mc : Nat → Prop
  hist : List ClP.Held
  Mo : Nat → Prop
  Io : Nat → Prop
def mutP (F : Fq) (q : Nat) : Prop := F.Mo q ∨ F.Mc q ∨ ∃ i, i < F.gs.length ∧ F.Ms i q
def rdP (F : Fq) (q : Nat) : Prop := F.Io q ∨ ∃ i, i < F.gs.length ∧ F.Is i q
/-- repB w g gs gc Mo Io steps off log: in w block g is a bus over these members and this cell; but for these it turns blocks of Mo alone, and reads those of Mo and Io. -/
abbrev RepB := World → Nat → List Nat → Nat → (Nat → Prop) → (Nat → Prop) → List Stp → Bool → List BuM.Ent → Prop
structure Pp (repB : RepB) (w : World) (g : Nat) (F : Fq) (k : Nat) (b : Bs) : Prop where
  skel : repB w g F.gs F.gc F.Mo F.Io b.steps b.off b.log
  len : F.gs.length = b.ms.length
  mem : ∀ (i gi : Nat) (st : St), F.gs[i]? = some gi → b.ms[i]? = some st → RepM w gi (F.Ms i) (F.Is i) k st
  ok : okM b.ms ∧ ∀ s ∈ b.steps, okS s
  cel : repCb w F.gc F.Mc F.hist b.c
  olt : ∀ q, F.Mo q ∨ F.Io q → q < w.heap.size
  sep : ∀ q, rdP F q → ¬ mutP F q
  nd : ∀ i j q, i < F.gs.length → j < F.gs.length → F.Ms i q → F.Ms j q → i = j
  mc : ∀ q, F.Mc q → ¬ F.Mo q ∧ ∀ i, i < F.gs.length → ¬ F.Ms i q
  mo : ∀ q, F.Mo q → ∀ i, i < F.gs.length → ¬ F.Ms i q
  sz : b.ms.length ≤ 64 ∧ b.steps.length ≤ 1000 ∧ F.hist.length ≤ k + 1 ∧ b.log.length ≤ k ∧ ∀ s ∈ b.steps, s.picks.length ≤ 140737488351232
  cmx : b.c.1 ≤ ClP.most
/-- What a call of it leaves. -/
def outQ (repB : RepB) (w : World) (g : Nat) (F : Fq) (k : Nat) (b : Bs) (w' : World) : Prop :=
  ∃ F', Pp repB w' g F' k b ∧ F'.gs = F.gs ∧ F'.gc = F.gc ∧ (∀ q, mutP F' q → mutP F q ∨ w.heap.size ≤ q) ∧ (∀ q, rdP F' q → mutP F q ∨ rdP F q ∨ w.heap.size ≤ q) ∧ Turn (mutP F) w w'
structure BusC (repB : RepB) : Prop where
  frame : ∀ {w w' g gs gc Mo Io steps off log} {T : Nat → Prop}, repB w g gs gc Mo Io steps off log → Turn T w w' → (∀ q, Mo q ∨ Io q → ¬ T q) → repB w' g gs gc Mo Io steps off log
  new : ∀ {w : World} {A : Option Addr} {gs : List Nat} {n c gc : Nat} {As : Option Addr} {ns cs : Nat} {steps : List Stp} {sl : List SlB} {S Sp : Nat → Prop} {Ms Is : Nat → Nat → Prop} {Mc : Nat → Prop} {hist : List ClP.Held} {cv : ClP.Held} {k : Nat} {ms : List St},
    Sli 1 ptL S w A gs n c → gs.length = ms.length → (∀ (i gi : Nat) (st : St), gs[i]? = some gi → ms[i]? = some st → RepM w gi (Ms i) (Is i) k st ∧ 1 ≤ st.n) → 1 ≤ n → n ≤ 64 → repCb w gc Mc hist cv →
    Sli 70 stL S w As (steps.zip sl) ns cs → sl.length = steps.length → ns ≤ 1000 → (∀ s x, (s, x) ∈ steps.zip sl → Arg w x.A s.picks s.picks.length x.c ∧ s.picks.length ≤ 140737488351232 ∧ okS s ∧ ∀ q o, 0 < s.picks.length → x.A = some ⟨q, o, none⟩ → Sp q) →
    Calls Try.prog 23 #[.slice A n c, MbP.at' gc, .slice As ns cs] w fun e w' => ∃ g Mo Io, e = .returned (.tuple #[MbP.at' g, .int .i64 0]) ∧ repB w' g gs gc Mo Io steps false [] ∧ (∀ q, Mo q → w.heap.size ≤ q) ∧ (∀ q, Io q → w.heap.size ≤ q ∧ q < w'.heap.size ∨ Sp q) ∧ (∀ q, Mo q → q < w'.heap.size ∧ ¬ Io q) ∧ Below w.heap.size w w'
  bad : ∀ {w : World} {A : Option Addr} {gs : List Nat} {n c gc : Nat} {As : Option Addr} {ns cs : Nat} {steps : List Stp} {sl : List SlB} {S : Nat → Prop} {Ms Is : Nat → Nat → Prop} {Mc : Nat → Prop} {hist : List ClP.Held} {cv : ClP.Held} {k : Nat} {ms : List St},
    Sli 1 ptL S w A gs n c → gs.length = ms.length → (∀ (i gi : Nat) (st : St), gs[i]? = some gi → ms[i]? = some st → RepM w gi (Ms i) (Is i) k st ∧ 1 ≤ st.n) → n = 0 ∨ 64 < n → n ≤ 1000 → repCb w gc Mc hist cv →
    Sli 70 stL S w As (steps.zip sl) ns cs → sl.length = steps.length → ns ≤ 1000 →
    Calls Try.prog 23 #[.slice A n c, MbP.at' gc, .slice As ns cs] w fun e w' => e = .returned (.tuple #[.pointer none, .int .i64 2]) ∧ Below w.heap.size w w'
  read : ∀ {w g F k b}, Pp repB w g F k b → k + b.steps.length + 2 ≤ 8000 → ∀ m i : Int, Calls Try.prog 11 #[MbP.at' g, .int .i64 m, .int .i64 i] w fun e w' => e = .returned (.tuple #[.agg (ar 64 (BuM.rdB (BuM.ahead b) m i).s), .int .i64 (BuM.rdB (BuM.ahead b) m i).e]) ∧ outQ repB w g F (k + b.steps.length + 2) (BuM.rdT b m i) w'
  write : ∀ {w g F k b}, Pp repB w g F k b → k + b.steps.length + 2 ≤ 8000 → ∀ (m i : Int) (x : Nat → Nat), (∀ j, x j < 256) → Calls Try.prog 12 #[MbP.at' g, .int .i64 m, .int .i64 i, .agg (ar 64 x)] w fun e w' => e = .returned (.int .i64 (BuM.wrB (BuM.ahead b) m i x).e) ∧ outQ repB w g F (k + b.steps.length + 2) (BuM.wrT b m i x) w'
  flush : ∀ {w g F k b}, Pp repB w g F k b → k + b.steps.length + 2 ≤ 8000 → ∀ m : Int, Calls Try.prog 18 #[MbP.at' g, .int .i64 m] w fun e w' => e = .returned (.int .i64 (BuM.flB (BuM.ahead b) m).e) ∧ outQ repB w g F (k + b.steps.length + 2) (BuM.flT b m) w'
  cell : ∀ {w g F k b}, Pp repB w g F k b → k + b.steps.length + 2 ≤ 8000 → Calls Try.prog 17 #[MbP.at' g] w fun e w' => e = .returned (.tuple #[.agg (ClP.ceL (BuM.ceV (BuM.ahead b))).toArray, .int .i64 (BuM.ceB (BuM.ahead b)).e]) ∧ outQ repB w g F (k + b.steps.length + 2) (BuM.ceT b) w'
  adv : ∀ {w g F k b}, Pp repB w g F k b → k + b.steps.length + 2 ≤ 8000 → ∀ t : Nat → Nat, Calls Try.prog 16 #[MbP.at' g, .agg (ar 32 t)] w fun e w' => e = .returned (.tuple #[.int .u64 (BuM.adN (BuM.ahead b)), .int .i64 (BuM.adB (BuM.ahead b) t).e]) ∧ outQ repB w g F (k + b.steps.length + 2) (BuM.adT b t) w'
  power : ∀ {w g F k b}, Pp repB w g F k b → Calls Try.prog 14 #[MbP.at' g] w fun e w' => e = .returned (.int .i64 0) ∧ outQ repB w g F k (BuM.power b) w'
  count : ∀ {w g F k b}, Pp repB w g F k b → Calls Try.prog 19 #[MbP.at' g] w fun e w' => e = .returned (.int .i64 (b.log.length : Nat)) ∧ Below w.heap.size w w'
  off : ∀ {w g F k b}, Pp repB w g F k b → Calls Try.prog 15 #[MbP.at' g] w fun e w' => e = .returned (.bool b.off) ∧ Below w.heap.size w w'
  members : ∀ {w g F k b}, Pp repB w g F k b → Calls Try.prog 24 #[MbP.at' g] w fun e w' => e = .returned (.int .i64 (b.ms.length : Nat)) ∧ Below w.heap.size w w'
  sectors : ∀ {w g F k b}, Pp repB w g F k b → ∀ m : Int, Calls Try.prog 25 #[MbP.at' g, .int .i64 m] w fun e w' => e = .returned (.int .i64 (if mem b.ms m then (BuM.at' b.ms m).n else 0)) ∧ Below w.heap.size w w'
  log : ∀ {w g F k b}, Pp repB w g F k b → k ≤ 8000 → Calls Try.prog 20 #[MbP.at' g] w fun e w' => ∃ v, e = .returned v ∧ OwnX 51 68 enL w' w.heap.size v b.log ∧ Below w.heap.size w w'
section
variable {repB : RepB} {w w' : World} {g k : Nat} {F : Fq} {b : Bs}
theorem Pp.mlt (H : Pp repB w g F k b) : ∀ q, mutP F q → q < w.heap.size := fun q e => by
  rcases e with e | e | ⟨i, hi, e⟩
  · exact H.olt q (.inl e)
  · exact cb_lt H.cel q e
  · exact MbP.memD_ok.lt (H.mem i _ _ (List.getElem?_eq_getElem hi) (List.getElem?_eq_getElem (by rw [← H.len]; exact hi))) q (.inl e)
theorem Pp.ilt (H : Pp repB w g F k b) : ∀ q, rdP F q → q < w.heap.size := fun q e => by
  rcases e with e | ⟨i, hi, e⟩
  · exact H.olt q (.inr e)
  · exact MbP.memD_ok.lt (H.mem i _ _ (List.getElem?_eq_getElem hi) (List.getElem?_eq_getElem (by rw [← H.len]; exact hi))) q (.inr e)
theorem Pp.turn (hC : BusC repB) {T : Nat → Prop} (H : Pp repB w g F k b) (ht : Turn T w w') (hT : ∀ q, mutP F q ∨ rdP F q → ¬ T q) : Pp repB w' g F k b where
  skel := hC.frame H.skel ht fun q e => hT q (e.imp .inl .inl)
  len := H.len
  mem i gi st h1 h2 := MbP.memD_ok.frame (H.mem i gi st h1 h2) ht fun q e => hT q (e.imp (fun x => .inr (.inr ⟨i, (List.getElem?_eq_some_iff.1 h1).1, x⟩)) fun x => .inr ⟨i, (List.getElem?_eq_some_iff.1 h1).1, x⟩)
  ok := H.ok
  cel := cb_turn H.cel ht fun q e => hT q (.inl (.inr (.inl e)))
  olt q e := Nat.lt_of_lt_of_le (H.olt q e) ht.size
  sep := H.sep
  nd := H.nd
  mc := H.mc
  mo := H.mo
  sz := H.sz
  cmx := H.cmx
theorem Pp.below (hC : BusC repB) (H : Pp repB w g F k b) (hb : Below w.heap.size w w') : Pp repB w' g F k b :=
  H.turn hC (Turn.of_new (S := fun _ => False) hb) fun _ _ e => e
end
/-- What both leave: what may be turned was so, or is new. -/
structure Went (w : World) (F : Fq) (r : Nat) (E : Fp) (w' : World) (F' : Fq) (E' : Fp) : Prop where
  gs : F'.gs = F.gs
  gc : F'.gc = F.gc
  es : E'.gs = E.gs
  ec : E'.gc = E.gc
  t : Turn (fun q => mutP F q ∨ mutR r E q) w w'
  m : ∀ q, mutP F' q ∨ mutR r E' q → (mutP F q ∨ mutR r E q) ∨ w.heap.size ≤ q
section
variable {repB : RepB} {B : Nat} {w w' w2 : World} {g k k' r : Nat} {F F' F2 : Fq} {E E' E2 : Fp} {b b' : Bs}
theorem Pp.mono (H : Pp repB w g F k b) (hk : k ≤ k') : Pp repB w g F k' b where
  skel := H.skel
  len := H.len
  mem i gi st h1 h2 := MbP.memD_ok.mono (H.mem i gi st h1 h2) hk
  ok := H.ok
  cel := H.cel
  olt := H.olt
  sep := H.sep
  nd := H.nd
  mc := H.mc
  mo := H.mo
  sz := ⟨H.sz.1, H.sz.2.1, Nat.le_trans H.sz.2.2.1 (Nat.succ_le_succ hk), Nat.le_trans H.sz.2.2.2.1 hk, H.sz.2.2.2.2⟩
  cmx := H.cmx
theorem Went.refl (w : World) (F : Fq) (r : Nat) (E : Fp) (hb : Below w.heap.size w w') : Went w F r E w' F E := ⟨rfl, rfl, rfl, rfl, Turn.of_new hb, fun _ e => .inl e⟩
theorem Went.trans (h : Went w F r E w' F' E') (h2 : Went w' F' r E' w2 F2 E2) : Went w F r E w2 F2 E2 :=
  ⟨h2.gs.trans h.gs, h2.gc.trans h.gc, h2.es.trans h.es, h2.ec.trans h.ec, h.t.trans h2.t h.m, fun q e => (h2.m q e).elim (h.m q) fun x => .inr (Nat.le_trans h.t.size x)⟩
end
end BuP
end Go.Proofs.Ytablkaofaedpeaa
