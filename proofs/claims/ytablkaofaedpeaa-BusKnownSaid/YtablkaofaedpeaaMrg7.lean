/-
  The landed bus: byNumbers.
  The landed bus: New.
  The landed bus: calls of no bus, and of a block of zeros; New of a member that is none, and of no cell.
  The landed bus: Cell, Advance.
  The landed bus: I/Os of no bus, and of a block of zeros; what New refuses.
  The law's do: an act done to both.
  The law's alike: bus, members and cell tell what the document's do.
  Lists of elements: a literal of two elements.
  The law's full, given and two.
  The law's two: a bus of two members.
  The law's awake, in plain words.
  The law's awake.
  The law BusSees: what a step sets is seen by each I/O from its number on, and by none ahead.
  The law's over: an act over a bus of the program's.
-/
import Derived.Test.YtablkaofaedpeaaMrg6
set_option linter.unusedVariables false
set_option linter.unusedSimpArgs false
set_option maxRecDepth 100000
namespace Go.Proofs.Ytablkaofaedpeaa
open Go.ChangeShapes Go.WideShapes Go.ChangeAt Go.RowKit
attribute [local go_sem] Gives GivesE
namespace BuP
open BuM MbM MbP MpV
/-- The steps of a number, each with its picks. -/
def ofN (n : Int) (l : List (Stp × SlB)) : List (Stp × SlB) := l.filter fun x => decide (x.1.a = n)
/-- Behind the first steps: what lies by their numbers. -/
structure ByN (w0 : World) (r : Nat) (L : List (Stp × SlB)) (w : World) (Fm : MpV.Img) : Prop where
  map : MapV w r Fm
  own : ∀ n, OwnX 67 70 stL w 0 (Fm n) (ofN n L)
  low : ∀ n b, (Fm n).ownBlock = some b → w0.heap.size ≤ b ∧ b ≠ r
  nd : ∀ n m b, n ≠ m → (Fm n).ownBlock = some b → (Fm m).ownBlock ≠ some b
  pk : ∀ x ∈ L, Arg w x.2.A x.1.picks x.1.picks.length x.2.c ∧ ∀ q o, 0 < x.1.picks.length → x.2.A = some ⟨q, o, none⟩ → w0.heap.size ≤ q ∧ q < w.heap.size ∧ q ≠ r ∧ ∀ n, (Fm n).ownBlock ≠ some q
  bel : Below w0.heap.size w0 w
  rl : w0.heap.size ≤ r
section
variable {w0 w w' : World} {r : Nat} {L : List (Stp × SlB)} {Fm : MpV.Img}
theorem ByN.on (H : ByN w0 r L w Fm) (hb : Below w.heap.size w w') : ByN w0 r L w' Fm where
  map := H.map.turn (T := fun _ => False) (Turn.of_new hb) fun e => e
  own n := (H.own n).below hb (Nat.le_refl _)
  low := H.low
  nd := H.nd
  pk x hx := ⟨(H.pk x hx).1.on hb, fun q o h1 h2 => by
    obtain ⟨a, b, c, d⟩ := (H.pk x hx).2 q o h1 h2
    exact ⟨a, Nat.lt_of_lt_of_le b hb.size, c, d⟩⟩
  bel := H.bel.trans (hb.mono H.bel.size)
  rl := H.rl
theorem ofN_snoc (n : Int) (x : Stp × SlB) : ofN n (L ++ [x]) = ofN n L ++ (if x.1.a = n then [x] else []) := by
  unfold ofN
  rw [List.filter_append]
  congr 1
  by_cases e : x.1.a = n
  · rw [if_pos e, List.filter_cons, if_pos (by simpa using e)]; rfl
  · rw [if_neg e, List.filter_cons, if_neg (by simpa using e)]; rfl
/-- One step more. -/
theorem ByN.step (H : ByN w0 r L w Fm) {w4 w5 : World} {x : Stp × SlB} {v' : Value} (ha : Arg w x.2.A x.1.picks x.1.picks.length x.2.c) (hq : ∀ q o, 0 < x.1.picks.length → x.2.A = some ⟨q, o, none⟩ → w0.heap.size ≤ q ∧ q < w.heap.size ∧ q ≠ r ∧ ∀ n, (Fm n).ownBlock ≠ some q)
    (ht : Turn (fun b => (Fm x.1.a).ownBlock = some b) w w4) (ho : OwnX 67 70 stL w4 0 v' (ofN x.1.a L ++ [x])) (hv : ∀ b, v'.ownBlock = some b → (Fm x.1.a).ownBlock = some b ∨ w.heap.size ≤ b)
    (hm : MapV w5 r (MpV.upd Fm x.1.a v')) (hr : Turn (fun b => b = r) w4 w5) : ByN w0 r (L ++ [x]) w5 (MpV.upd Fm x.1.a v') := by
  have hrw : r < w.heap.size := H.map.lt
  have hTr : ∀ b, (b = r) → ¬ (v'.ownBlock = some b) := fun b e e2 => by
    rcases hv b e2 with y | y
    · exact (H.low _ b y).2 e
    · omega
  have hT : Turn (fun b => (Fm x.1.a).ownBlock = some b ∨ b = r) w w5 := (ht.mono fun b e => .inl e).trans hr fun b e => .inl (.inr e)
  have hs := ht.size
  have hs2 := hr.size
  refine ⟨hm, fun n => ?_, fun n b e => ?_, fun n m b hnm e1 e2 => ?_, fun y hy => ?_, ?_, H.rl⟩
  · rw [ofN_snoc]
    unfold MpV.upd
    by_cases e : n = x.1.a
    · subst e
      rw [if_pos rfl, if_pos rfl]
      exact ho.turn hr fun b e1 e2 => hTr b e2 e1
    · rw [if_neg e, if_neg fun h => e h.symm, List.append_nil]
      exact (H.own n).turn hT fun b e1 e2 => e2.elim (fun y => H.nd n x.1.a b e e1 y) fun y => (H.low n b e1).2 y
  · unfold MpV.upd at e
    by_cases h : n = x.1.a
    · rw [if_pos h] at e
      rcases hv b e with y | y
      · exact H.low _ b y
      · exact ⟨Nat.le_trans H.bel.size y, by omega⟩
    · rw [if_neg h] at e; exact H.low n b e
  · unfold MpV.upd at e1 e2
    by_cases h : n = x.1.a
    · rw [if_pos h] at e1
      rw [if_neg fun e => hnm (h.trans e.symm)] at e2
      rcases hv b e1 with y | y
      · exact H.nd m x.1.a b (fun e => hnm (h.trans e.symm)) e2 y
      · have := (H.own m).own b e2; omega
    · rw [if_neg h] at e1
      by_cases h2 : m = x.1.a
      · rw [if_pos h2] at e2
        rcases hv b e2 with y | y
        · exact H.nd n x.1.a b h e1 y
        · have := (H.own n).own b e1; omega
      · rw [if_neg h2] at e2
        exact H.nd n m b hnm e1 e2
  · have key : Arg w y.2.A y.1.picks y.1.picks.length y.2.c ∧ ∀ q o, 0 < y.1.picks.length → y.2.A = some ⟨q, o, none⟩ → w0.heap.size ≤ q ∧ q < w.heap.size ∧ q ≠ r ∧ ∀ n, (Fm n).ownBlock ≠ some q := by
      rcases List.mem_append.1 hy with h | h
      · exact H.pk y h
      · rw [List.mem_singleton] at h; subst h; exact ⟨ha, hq⟩
    refine ⟨key.1.turn hT fun q o h1 h2 e => ?_, fun q o h1 h2 => ?_⟩
    · obtain ⟨_, _, c, d⟩ := key.2 q o h1 h2
      exact e.elim (d _) c
    · obtain ⟨a, b, c, d⟩ := key.2 q o h1 h2
      refine ⟨a, by omega, c, fun n e => ?_⟩
      unfold MpV.upd at e
      by_cases h : n = x.1.a
      · rw [if_pos h] at e
        rcases hv q e with z | z
        · exact d _ z
        · omega
      · rw [if_neg h] at e; exact d n e
  · exact (H.bel.trans (Below.refl _ _)).trans (hT.below H.bel.size fun b e => by
      rcases e with y | y
      · exact (H.low _ b y).1
      · rw [y]; exact H.rl)
end
theorem zip_take {α β : Type} : ∀ (l : List α) (m : List β) (i : Nat) (a : α) (b : β), l[i]? = some a → m.length = i → (l.take (i + 1)).zip (m ++ [b]) = (l.take i).zip m ++ [(a, b)]
  | [], _, _, _, _, h, _ => by cases h
  | x :: l, [], i, a, b, h, hm => by
    obtain rfl : i = 0 := hm.symm
    simp only [List.getElem?_cons_zero, Option.some.injEq] at h
    subst h
    rfl
  | x :: l, y :: m, 0, a, b, h, hm => by cases hm
  | x :: l, y :: m, i + 1, a, b, h, hm => by
    rw [List.getElem?_cons_succ] at h
    rw [List.take_succ_cons, List.take_succ_cons, List.cons_append, List.zip_cons_cons, List.zip_cons_cons, zip_take l m i a b h (Nat.succ.inj hm), List.cons_append]
set_option maxHeartbeats 1000000 in
set_option maxRecDepth 100000 in
theorem lb_byN {w : World} {As : Option Addr} {ns cs : Nat} {steps : List Stp} {sl : List SlB} {S : Nat → Prop} (hS : Sli 70 stL S w As (steps.zip sl) ns cs) (hsl : sl.length = steps.length) (hn : ns ≤ 1000) (hp : ∀ s x, (s, x) ∈ steps.zip sl → Arg w x.A s.picks s.picks.length x.c ∧ s.picks.length ≤ 140737488351232) :
    Calls Try.prog 48 #[.slice As ns cs] w fun e w' => ∃ r Fm sl2, e = .returned (.map (some r)) ∧ sl2.length = steps.length ∧ ByN w r (steps.zip sl2) w' Fm := by
  have SL := hid hS
  have HP := hid hp
  have hzl : ns = steps.length := by rw [← hS.len, List.length_zip, hsl, Nat.min_self]
  have hZL := hid hzl
  have hSL := hid hsl
  clear hS hp hzl hsl
  go_enter Try.func48, Try.ntmps48
  go_wp2_with (with_reducible apply MbO.wmkM)
  generalize hw1 : World.alloc w _ = w1
  obtain ⟨r, hr⟩ : ∃ n, n = w.heap.size := ⟨_, rfl⟩
  have BEL := hid (show Below w.heap.size w w1 by rw [← hw1]; exact (Below.refl _ _).alloc (Nat.le_refl _) _)
  have B0 := hid (show ByN w r [] w1 fun _ => MpV.zero from ⟨by rw [← hw1, hr]; exact MapV.new w, fun n => OwnX.nil _ _ _ _ _, fun n b e => (by cases e), fun n m b _ e => (by cases e), fun x hx => (by cases hx), BEL.out, by omega⟩)
  rw [← hr]
  clear hw1 hr
  go_loopw [9] (fun u9 wr => ∃ (i : Nat) (Fm : MpV.Img) (sl2 : List SlB), u9 = .int .i64 i ∧ i ≤ ns ∧ sl2.length = i ∧ Hid (ByN w r ((steps.take i).zip sl2) wr Fm)) (fun u9 _ => ns - (intOf u9).toNat)
  case atStart => exact ⟨0, _, [], rfl, Nat.zero_le _, rfl, hid (by rw [List.take_zero]; exact B0.out)⟩
  case round =>
    clear B0
    obtain ⟨i, Fm, sl2, rfl, hi, hl2, HB⟩ := hrel
    obtain ⟨wo, hwo⟩ : ∃ x, x = wr := ⟨_, rfl⟩
    subst hwo
    by_cases hin : i < ns
    · have t1 : (i : Int) < (ns : Int) := by omega
      have hil : i < steps.length := by rw [← hZL.out]; exact hin
      obtain ⟨s, hs⟩ : ∃ s, steps[i]? = some s := ⟨_, List.getElem?_eq_getElem hil⟩
      obtain ⟨x, hx⟩ : ∃ x, sl[i]? = some x := ⟨_, List.getElem?_eq_getElem (by rw [hSL.out]; exact hil)⟩
      have hz : (steps.zip sl)[i]? = some (s, x) := by rw [List.getElem?_zip_eq_some]; exact ⟨hs, hx⟩
      have HSs := hid hs
      obtain ⟨bS, oS, rfl, hbS, hSl, hr⟩ := SL.out.some hz
      have hp := HP.out s x (List.mem_of_getElem? hz)
      have R1 := hid ((Turn.of_below HB.out.bel).range hr (by omega))
      have P1 := hid (show Arg wo x.A s.picks s.picks.length x.c from hp.1.turn (Turn.of_below HB.out.bel) fun q o h1 h2 => by
        obtain ⟨o2, v2, h4⟩ := arg_ne hp.1 h1 h2
        have := World.block_lt_of_cell? w _ h4
        have : q < w.heap.size := this
        omega)
      have hpl := hp.2
      clear hs hx hz hr hp
      go_upto_region 5 with (first | ((with_reducible apply ldR (cs := (stL (s, x)).toArray) (tStP (s, x))); rfl; exact R1.out) | (with_reducible apply alZ' zStP) | ((with_reducible apply stR (tStP (s, x))); rfl; rfl; exact Blk.new _ _ _; exact stP_size _ _; exact stP_one _))
      generalize hw2 : World.setRow _ _ _ = w2
      obtain ⟨gS, hgS⟩ : ∃ n, n = wo.heap.size := ⟨_, rfl⟩
      have B1 := hid (show Below wo.heap.size wo w2 by rw [← hw2]; exact below_setRow ((Below.refl _ _).alloc (Nat.le_refl _) _) (Nat.le_refl _) _)
      have b1 := hid (show Blk w2 gS 67 (stL (s, x)).toArray by rw [← hw2, hgS]; exact (Blk.new wo _ _).setRow_same _)
      have hgo := hid (show wo.heap.size ≤ gS by omega)
      rw [← hgS]
      clear hw2 hgS R1
      have P2 := hid (P1.out.on B1.out)
      have qp : w2.cell? ⟨gS, 69, none⟩ = some (.slice x.A s.picks.length x.c) := st_p (o := 0) (x := (s, x)) b1.out.whole
      go_wp2_with fail
      refine (lb_cloneB x.A s.picks s.picks.length x.c hpl w2 P2.out).mono ?_
      rintro e w3 ⟨A', c', rfl, ha, hq, hb⟩
      have b3 := hid (b1.out.below hb b1.out.lt)
      have B3 := hid (B1.out.trans (hb.mono B1.out.size))
      have A3 := hid ha
      have Q3 := hid (show ∀ q o, 0 < s.picks.length → A' = some ⟨q, o, none⟩ → w2.heap.size ≤ q ∧ q < w3.heap.size from hq)
      have bs2 := hid b1.out.lt
      have hb3s := hid hb.size
      have q69 : w3.cell? ⟨gS, 69, none⟩ = some (.slice x.A s.picks.length x.c) := st_p (o := 0) (x := (s, x)) b3.out.whole
      have fz := b3.out.frozen 69
      clear ha hq hb qp P1 P2 b1 B1
      go_upto_region 6 with fail
      have tu := Turn.setCell (S := fun q => q = gS) w3 ⟨gS, 69, none⟩ (.slice A' s.picks.length c') rfl
      have b4 := hid (st_setP b3.out ⟨A', c'⟩)
      have B4 := hid (show Below wo.heap.size wo (w3.setCell ⟨gS, 69, none⟩ (.slice A' s.picks.length c')) from B3.out.trans (tu.below B3.out.size fun q e => by rw [e]; exact hgo.out))
      have A4 := hid (A3.out.turn tu fun q o h1 h2 e => by have := (Q3.out q o h1 h2).1; have := bs2.out; omega)
      have hsz4 : (w3.setCell ⟨gS, 69, none⟩ (.slice A' s.picks.length c')).heap.size = w3.heap.size := by simp
      have Q4 := hid (show ∀ q o, 0 < s.picks.length → A' = some ⟨q, o, none⟩ → wo.heap.size ≤ q ∧ q < (w3.setCell ⟨gS, 69, none⟩ (.slice A' s.picks.length c')).heap.size from fun q o h1 h2 => by
        have h3 := Q3.out q o h1 h2
        have := hgo.out; have := bs2.out
        exact ⟨by omega, by rw [hsz4]; exact h3.2⟩)
      generalize World.setCell w3 _ _ = w4 at b4 B4 A4 Q4 ⊢
      clear tu q69 fz b3 B3 A3 Q3 bs2 hb3s hsz4
      have H4 := hid (HB.out.on B4.out)
      obtain ⟨y, hy⟩ : ∃ y : Stp × SlB, y = (s, ⟨A', c'⟩) := ⟨_, rfl⟩
      have HY := hid hy
      rw [← hy] at b4
      obtain ⟨Ao, co, hvo, _⟩ := (H4.out.own s.a).sli stL_len
      obtain ⟨lo, hlo⟩ : ∃ l, l = ofN s.a ((steps.take i).zip sl2) := ⟨_, rfl⟩
      have HLO := hid hlo
      rw [← hlo] at hvo
      have HVO := hid hvo
      have hll : lo.length ≤ 1000 := by
        rw [hlo]
        unfold ofN
        refine Nat.le_trans (List.length_filter_le _ _) ?_
        rw [List.length_zip, List.length_take]; omega
      have OO := hid (show OwnX 67 70 stL w4 0 (.slice Ao lo.length co) lo by rw [← hvo, hlo]; exact H4.out.own s.a)
      have LOW := hid (show ∀ b, (Value.slice Ao lo.length co).ownBlock = some b → b < w4.heap.size from fun b e => (OO.out.own b e).2)
      have q0 : w4.cell? ⟨gS, 0, none⟩ = some (.int .i64 s.a) := by have := st_a (o := 0) b4.out.whole; rw [HY.out] at this; exact this
      have gSo := hid (show (Value.slice Ao lo.length co).ownBlock ≠ some gS from fun e => by
        rw [← hvo] at e
        have h1 := ((HB.out.own s.a).own gS e).2
        have := hgo.out
        omega)
      have rSo := hid (show (Value.slice Ao lo.length co).ownBlock ≠ some r from fun e => by
        rw [← hvo] at e
        exact (H4.out.low s.a r e).2 rfl)
      clear hvo hlo hy
      refine wp_region_c (S := yS [some (.map (some r)), some (.pointer (some ⟨gS, 0, none⟩)), some (.int .i64 s.a), some (.map (some r)), some (.pointer (some ⟨gS, 0, none⟩)), some (.int .i64 s.a), some (.slice Ao lo.length co), some (.agg (stL y).toArray), none, none] [(8, kSl 1), (9, kSl (lo.length + 1))])
        (C := fun d vs w' => ApC 67 70 stL w4 (.slice Ao lo.length co) lo y (d 8) (d 9) (vs 8) (vs 9) w') 10 (by kernel_rfl) (by kernel_rfl) (by kernel_rfl) _
        (yS_ok _ fun y hy => by simp only [List.mem_cons, List.not_mem_nil, or_false] at hy; rcases hy with rfl | rfl <;> exact kSl_ok _) ⟨Turn.drew _, fun _ => (Below.refl _ _).drew, (fun e => by cases e), (fun e => by cases e)⟩ fun vs => ?_
      simp only [List.take_succ_cons, List.take_zero, List.drop_succ_cons, List.drop_zero]
      refine ⟨.inl ⟨rfl, fun dd w' hd hnx hw hC => ?_⟩, fun e => ?_⟩
      · go_simp
        first | exact ⟨rfl, hC⟩ | exact hC
      have e' : vs 0 = _ := e
      rw [e']
      clear e e'
      simp only [Act.put, List.setIfInBounds_toArray, List.set_cons_succ, List.set_cons_zero]
      refine ⟨.inl ⟨rfl, fun dd w' hd hnx hw hC => ?_⟩, fun e => ?_⟩
      · go_simp
        first | exact ⟨rfl, hC⟩ | exact hC
      have e' : vs 1 = _ := e
      rw [e']
      clear e e'
      simp only [Act.put, List.setIfInBounds_toArray, List.set_cons_succ, List.set_cons_zero]
      refine ⟨.inl ⟨rfl, fun dd w' hd hnx hw hC => ?_⟩, fun e => ?_⟩
      · have h1 : w'.cell? ⟨gS, 0, none⟩ = some (.int .i64 s.a) := hC.t.cell (p := ⟨gS, 0, none⟩) q0 gSo.out
        go_simp
        first | exact ⟨rfl, hC⟩ | exact hC
      have e' : vs 2 = _ := e
      rw [e']
      clear e e'
      simp only [Act.put, List.setIfInBounds_toArray, List.set_cons_succ, List.set_cons_zero]
      refine ⟨.inl ⟨rfl, fun dd w' hd hnx hw hC => ?_⟩, fun e => ?_⟩
      · go_simp
        first | exact ⟨rfl, hC⟩ | exact hC
      have e' : vs 3 = _ := e
      rw [e']
      clear e e'
      simp only [Act.put, List.setIfInBounds_toArray, List.set_cons_succ, List.set_cons_zero]
      refine ⟨.inl ⟨rfl, fun dd w' hd hnx hw hC => ?_⟩, fun e => ?_⟩
      · go_simp
        first | exact ⟨rfl, hC⟩ | exact hC
      have e' : vs 4 = _ := e
      rw [e']
      clear e e'
      simp only [Act.put, List.setIfInBounds_toArray, List.set_cons_succ, List.set_cons_zero]
      refine ⟨.inl ⟨rfl, fun dd w' hd hnx hw hC => ?_⟩, fun e => ?_⟩
      · have h1 : w'.cell? ⟨gS, 0, none⟩ = some (.int .i64 s.a) := hC.t.cell (p := ⟨gS, 0, none⟩) q0 gSo.out
        go_simp
        first | exact ⟨rfl, hC⟩ | exact hC
      have e' : vs 5 = _ := e
      rw [e']
      clear e e'
      simp only [Act.put, List.setIfInBounds_toArray, List.set_cons_succ, List.set_cons_zero]
      refine ⟨.inl ⟨rfl, fun dd w' hd hnx hw hC => ?_⟩, fun e => ?_⟩
      · refine gE_lookV rfl rfl (H4.out.map.turn hC.t rSo.out) ?_
        rw [HVO.out]
        exact ⟨rfl, hC⟩
      have e' : vs 6 = _ := e
      rw [e']
      clear e e'
      simp only [Act.put, List.setIfInBounds_toArray, List.set_cons_succ, List.set_cons_zero]
      refine ⟨.inl ⟨rfl, fun dd w' hd hnx hw hC => ?_⟩, fun e => ?_⟩
      · exact ClP.gE_ldR (cs := (stL y).toArray) (tStP y) rfl (b4.out.turn hC.t gSo.out).whole ⟨rfl, hC⟩
      have e' : vs 7 = _ := e
      rw [e']
      clear e e'
      simp only [Act.put, List.setIfInBounds_toArray, List.set_cons_succ, List.set_cons_zero]
      refine ⟨.inl ⟨rfl, fun dd w' hd hnx hw hC => ?_⟩, fun e => ?_⟩
      · have h8 : dd 9 = false := hnx 9 (by kernel_rfl)
        have ha := (Below.refl w'.heap.size w').alloc (Nat.le_refl _) (.cells (stL y).toArray 67)
        have hbl := hC.b h8
        exact gE_lit1 (x := y) eltStP undStP (by omega) rfl rfl ⟨⟨_, _, rfl⟩, hC.t.trans (Turn.of_new (S := fun _ => False) ha) (fun _ e => e.elim), (fun _ => hbl.trans (ha.mono hbl.size)), (fun _ _ => ⟨_, _, rfl, sli_lit1 eltStP y w' hbl.size⟩), fun e => by
          have e' : dd 9 = true := e
          rw [h8] at e'; cases e'⟩
      obtain ⟨A7, c7, e'⟩ : ∃ (A : Option Addr) (c : Nat), vs 8 = .slice A 1 c := e
      rw [e']
      have E7 := hid e'
      clear e'
      simp only [Act.put, List.setIfInBounds_toArray, List.set_cons_succ, List.set_cons_zero]
      refine ⟨.inl ⟨rfl, fun dd w' hd hnx hw hC => ?_⟩, fun e => ?_⟩
      · have h7 : dd 8 = true := hw 8 (by kernel_rfl)
        have hbl := hC.b hd
        obtain ⟨A', c', f, sl⟩ := hC.lit h7 hd
        rw [E7.out] at f
        cases f
        refine gE_appW eltStP undStP (B := 0) (v := .slice Ao lo.length co) (l := lo) (m := [y]) rfl rfl (OO.out.below hbl (Nat.le_refl _)) sl (by omega) (by omega) (Nat.zero_le _) fun v' w4 o4 g4 wh => ?_
        obtain ⟨A4, c4, rfl, _⟩ := o4.sli stL_len
        refine ⟨⟨A4, c4, by rw [List.length_append]; rfl⟩, ?_⟩
        exact ⟨(Turn.of_new (S := fun b => (Value.slice Ao lo.length co).ownBlock = some b) hbl).trans (Turn.of_grown (S := fun b => (Value.slice Ao lo.length co).ownBlock = some b) g4 fun b e => e) (fun b e => .inl e), (fun e => by cases e), (fun _ e => by cases e), fun _ => ⟨o4, fun b e => by
          have e3 : (Value.slice A4 (lo ++ [y]).length c4).ownBlock = some b := e
          rcases wh with x | x
          · exact .inl (x.symm.trans e3)
          · rw [x] at e3; cases e3; exact .inr hbl.size⟩⟩
      obtain ⟨A8, c8, e'⟩ : ∃ (A : Option Addr) (c : Nat), vs 9 = .slice A (lo.length + 1) c := e
      rw [e']
      have E8 := hid e'
      clear e'
      simp only [Act.put, List.setIfInBounds_toArray, List.set_cons_succ, List.set_cons_zero]
      intro dd wz hall hC
      obtain ⟨o4, wh⟩ := hC.own (hall 9 (by omega))
      rw [E8.out] at o4 wh
      have M9 := hid (H4.out.map.turn hC.t rSo.out)
      have ST := hid (show ∀ w9, MapV w9 r (MpV.upd Fm s.a (.slice A8 (lo.length + 1) c8)) → Turn (fun b => b = r) wz w9 → ByN w r ((steps.take i).zip sl2 ++ [y]) w9 (MpV.upd Fm s.a (.slice A8 (lo.length + 1) c8)) from fun w9 hM hT => by
        have e1 : y.1 = s := by rw [HY.out]
        have hfv := HVO.out
        rw [← e1] at hM hfv ⊢
        refine H4.out.step (x := y) ?_ ?_ (by rw [hfv]; exact hC.t) (by rw [e1, ← HLO.out]; exact o4) (by rw [hfv]; exact wh) hM hT
        · rw [HY.out]; exact A4.out
        · intro q o h1 h2
          rw [HY.out] at h1 h2
          obtain ⟨h3, h4⟩ := Q4.out q o h1 h2
          have hrw : r < wo.heap.size := HB.out.map.lt
          refine ⟨Nat.le_trans HB.out.bel.size h3, h4, by omega, fun n e => ?_⟩
          have := ((HB.out.own n).own q e).2
          omega)
      have HLz := hid (show (steps.take (i + 1)).zip (sl2 ++ [y.2]) = (steps.take i).zip sl2 ++ [y] from by
        have e1 : y = (s, y.2) := by rw [HY.out]
        rw [zip_take steps sl2 i s y.2 HSs.out hl2, ← e1])
      clear hC o4 wh hall E7 E8 H4 OO LOW b4 B4 A4 Q4 q0 gSo rSo HVO HLO HY hll
      go_wp2_with ((with_reducible apply wputV); rfl; rfl; rfl; exact M9.out; intro w9 hM9 hT9)
      have H9 := hid (show ByN w r ((steps.take (i + 1)).zip (sl2 ++ [y.2])) w9 (MpV.upd Fm s.a (.slice A8 (lo.length + 1) c8)) from by rw [HLz.out]; exact ST.out w9 hM9 hT9)
      clear ST M9 hM9 hT9 HLz
      go_roundw
      case rel => exact ⟨i + 1, _, sl2 ++ [y.2], by go_num, by omega, by rw [List.length_append, hl2]; rfl, H9⟩
      case measure => simp [intOf] <;> omega
    · have t1 : decide ((i : Int) < (ns : Int)) = false := by simp; omega
      obtain rfl : i = ns := by omega
      go_wp2_with fail
      go_ret
      refine ⟨r, Fm, sl2, rfl, by rw [hl2]; exact hZL.out, ?_⟩
      have h9 := HB.out
      rw [List.take_of_length_le (by have := hZL.out; omega)] at h9
      exact h9
end BuP
end Go.Proofs.Ytablkaofaedpeaa
set_option maxRecDepth 100000
namespace Go.Proofs.Ytablkaofaedpeaa
open Go.ChangeShapes Go.WideShapes Go.ChangeAt Go.RowKit
attribute [local go_sem] Gives GivesE
namespace BuP
open BuM MbM MbP MpV
theorem built_bus (A : Option Addr) (n c gc r : Nat) : Try.prog.built 56 [(0, .slice A n c), (1, .pointer (some ⟨gc, 0, none⟩)), (2, .map (some r))] = some (pbV A n c gc r (.slice none 0 0) false) := by kernel_rfl
section
variable {ops : Array Oper} {Q : Exit → Act → World → Prop} {a : Act} {w : World} {rest : List Oper} {dst : Option Tmp} {ty : TypeId} {pos : String} {after : Array Edge} {x y z : Operand} {A : Option Addr} {n c gc r : Nat}
theorem wblBus (hx : a.eval x = .slice A n c) (hy : a.eval y = .pointer (some ⟨gc, 0, none⟩)) (hz : a.eval z = .map (some r)) (hk : wpList Try.prog ops Q rest (a.put dst (.agg (pbV A n c gc r (.slice none 0 0) false))) w) : wpList Try.prog ops Q (⟨dst, .build 56 #[(0, x), (1, y), (2, z)], ty, pos, after, none⟩ :: rest) a w := by
  have hr : (Instr.build 56 #[(0, .slice A n c), (1, .pointer (some ⟨gc, 0, none⟩)), (2, .map (some r))]).run Try.prog w = .ok (.agg (pbV A n c gc r (.slice none 0 0) false)) w := run_build w _ _ _ (built_bus A n c gc r)
  have hm : (#[(0, x), (1, y), (2, z)] : Array (Nat × Operand)).map (fun (i, x) => (i, a.eval x)) = #[(0, .slice A n c), (1, .pointer (some ⟨gc, 0, none⟩)), (2, .map (some r))] := by
    simp only [List.map_toArray, List.map_cons, List.map_nil, hx, hy, hz]
  refine wpList_plain rfl fun K hK => ?_
  unfold Oper.wp execOp
  simp only [Sem.run_bind, hm, hr, Result.andThen_ok, Sem.run_pure]
  exact hK _ _ hk
end
theorem ofN_fst (n : Int) : ∀ (l : List Stp) (m : List SlB), m.length = l.length → (ofN n (l.zip m)).map (·.1) = l.filter fun s => decide (s.a = n)
  | [], [], _ => rfl
  | [], y :: m, h => by cases h
  | x :: l, [], h => by cases h
  | x :: l, y :: m, h => by
    have ih := ofN_fst n l m (Nat.succ.inj h)
    unfold ofN at ih ⊢
    rw [List.zip_cons_cons, List.filter_cons, List.filter_cons]
    by_cases e : x.a = n
    · rw [if_pos (by simpa using e), if_pos (by simpa using e), List.map_cons, ih]
    · rw [if_neg (by simpa using e), if_neg (by simpa using e), ih]
/-- What New lays. -/
theorem sk_new {w wc w9 : World} {g r gc c : Nat} {A : Option Addr} {gs : List Nat} {steps : List Stp} {sl2 : List SlB} {Fm : MpV.Img} (hb : Blk w9 g 56 (pbV A gs.length c gc r (.slice none 0 0) false)) (hp : 1 ≤ gs.length) (hA : Sli 1 ptL (fun b => w.heap.size ≤ b) wc A gs gs.length c) (hc : Below wc.heap.size wc w9) (hwc : w.heap.size ≤ wc.heap.size)
    (hB : ByN wc r (steps.zip sl2) w9 Fm) (hsl : sl2.length = steps.length) (hg : ∀ q, q < wc.heap.size → q ≠ g) (hgo : ∀ n, (Fm n).ownBlock ≠ some g) (hgp : ∀ x ∈ steps.zip sl2, ∀ o, 0 < x.1.picks.length → x.2.A ≠ some ⟨g, o, none⟩) :
    Sk 0 w9 g gs gc A c r (.slice none 0 0) Fm (fun q => w.heap.size ≤ q ∧ q < w9.heap.size ∧ q ≠ g ∧ q ≠ r) steps false [] where
  blk := hb
  pos := hp
  arr := by
    refine ⟨hA.len, hA.cap, hA.max, hA.none, fun hn => ?_⟩
    obtain ⟨b, o, e, h1, h2, h3⟩ := hA.lst hn
    have hs := hc.size
    exact ⟨b, o, e, ⟨h1, by omega, hg b h2, by have := hB.rl; omega⟩, by omega, fun i x hi => (Turn.of_new (S := fun _ => False) hc).range (h3 i x hi) fun e => e⟩
  map := hB.map
  due n _ := by
    obtain ⟨A', c', e, hs⟩ := own_sli (S := fun q => w.heap.size ≤ q ∧ q < w9.heap.size ∧ q ≠ g ∧ q ≠ r) stL_len (hB.own (n : Int)) fun b e => ⟨Nat.le_trans hwc (hB.low _ b e).1, ((hB.own (n : Int)).own b e).2, fun x => hgo _ (x ▸ e), (hB.low _ b e).2⟩
    have hf := ofN_fst (n : Int) steps sl2 hsl
    have hl : (steps.filter fun s => decide (s.a = (n : Int))).length = (ofN (n : Int) (steps.zip sl2)).length := by rw [← hf, List.length_map]
    refine ⟨ofN (n : Int) (steps.zip sl2), A', c', by rw [hl]; exact e, hf, by rw [hl]; exact hs, fun x hx => ?_⟩
    have hm : x ∈ steps.zip sl2 := by
      unfold ofN at hx
      exact (List.mem_filter.1 hx).1
    have h1 := hB.pk x hm
    exact ⟨h1.1, fun q o h2 h3 => by
      obtain ⟨a, b, c, _⟩ := h1.2 q o h2 h3
      exact ⟨Nat.le_trans hwc a, b, fun e => hgp x hm o h2 (by rw [h3, e]), c⟩⟩
  lg := OwnX.nil _ _ _ _ _
  slt q hq := hq.2.1
set_option maxHeartbeats 1000000 in
set_option maxRecDepth 100000 in
theorem lb_new {w : World} {A : Option Addr} {gs : List Nat} {n c gc : Nat} {As : Option Addr} {ns cs : Nat} {steps : List Stp} {sl : List SlB} {S Sp : Nat → Prop} {Ms Is : Nat → Nat → Prop} {Mc : Nat → Prop} {hist : List ClP.Held} {cv : ClP.Held} {k : Nat} {ms : List St}
    (hA : Sli 1 ptL S w A gs n c) (hgm : gs.length = ms.length) (hme : ∀ (i gi : Nat) (st : St), gs[i]? = some gi → ms[i]? = some st → RepM w gi (Ms i) (Is i) k st ∧ 1 ≤ st.n) (hn1 : 1 ≤ n) (hn2 : n ≤ 64) (hce : repCb w gc Mc hist cv)
    (hS : Sli 70 stL S w As (steps.zip sl) ns cs) (hsl : sl.length = steps.length) (hns : ns ≤ 1000) (hp : ∀ s x, (s, x) ∈ steps.zip sl → Arg w x.A s.picks s.picks.length x.c ∧ s.picks.length ≤ 140737488351232 ∧ okS s ∧ ∀ q o, 0 < s.picks.length → x.A = some ⟨q, o, none⟩ → Sp q) :
    Calls Try.prog 23 #[.slice A n c, MbP.at' gc, .slice As ns cs] w fun e w' => ∃ g Mo Io, e = .returned (.tuple #[MbP.at' g, .int .i64 0]) ∧ RepK 0 w' g gs gc Mo Io steps false [] ∧ (∀ q, Mo q → w.heap.size ≤ q) ∧ (∀ q, Io q → w.heap.size ≤ q ∧ q < w'.heap.size ∨ Sp q) ∧ (∀ q, Mo q → q < w'.heap.size ∧ ¬ Io q) ∧ Below w.heap.size w w' := by
  have HA := hid hA
  have HM := hid hme
  have HC := hid hce
  have HS := hid hS
  have HP := hid hp
  have HL := hid hsl
  have HG := hid hgm
  have hgn := hid hA.len
  have t0 : decide ((n : Int) = 0) = false := by simp; omega
  have t0b : ((n : Int) == 0) = false := by simp; omega
  have t64 : decide ((64 : Int) < (n : Int)) = false := by simp; omega
  have t64b : ¬ 64 < n := by omega
  have tn0 : ¬ n = 0 := by omega
  clear hA hme hce hS hp hsl hgm
  unfold MbP.at'
  go_enter Try.func23, Try.ntmps23
  go_wp2_with fail
  refine (cb_read HC.out).mono ?_
  rintro e w2 ⟨rfl, hb2⟩
  have B2 := hid hb2
  clear hb2
  go_upto_region 2 with (first | (with_reducible apply alZ' ClP.zCe) | ((with_reducible apply stR (ClP.tCe cv)); rfl; rfl; exact Blk.new _ _ _; exact ClP.ce_size _ _; exact ClP.ce_one _))
  generalize hw3 : World.setRow _ _ _ = w3
  have B3 := hid (show Below w.heap.size w w3 by rw [← hw3]; exact B2.out.trans (below_setRow ((Below.refl _ _).alloc (Nat.le_refl _) _) (Nat.le_refl _) _ |>.mono B2.out.size))
  clear hw3 B2
  go_wp2_with fail
  go_loopw [22] (fun u22 wr => ∃ i : Nat, u22 = .int .i64 i ∧ i ≤ n ∧ Hid (Below w.heap.size w wr)) (fun u22 _ => n - (intOf u22).toNat)
  case atStart => exact ⟨0, rfl, Nat.zero_le _, B3⟩
  case round =>
    clear B3
    obtain ⟨i, rfl, hi, HB⟩ := hrel
    obtain ⟨wo, hwo⟩ : ∃ x, x = wr := ⟨_, rfl⟩
    subst hwo
    by_cases hin : i < n
    · have t1 : (i : Int) < (n : Int) := by omega
      obtain ⟨gi, hgi⟩ : ∃ gi, gs[i]? = some gi := ⟨_, List.getElem?_eq_getElem (by rw [hgn.out]; exact hin)⟩
      obtain ⟨st, hst⟩ : ∃ st, ms[i]? = some st := ⟨_, List.getElem?_eq_getElem (by rw [← HG.out, hgn.out]; exact hin)⟩
      obtain ⟨bA, oA, rfl, hbS, hbl, hr⟩ := HA.out.some hgi
      rw [Nat.mul_one] at hr
      have q1 : wo.cell? ⟨bA, oA + i, none⟩ = some (.pointer (some ⟨gi, 0, none⟩)) := (HB.out.cell (p := ⟨bA, oA + i, none⟩) hbl).trans (pt_p hr)
      obtain ⟨hrm, hst1⟩ := HM.out i gi st hgi hst
      have RMi := hid (MbP.memD_ok.frame hrm (T := fun _ => False) (Turn.of_new HB.out) fun _ _ e => e)
      have t2 : decide (st.n = 0) = false := by simp; omega
      have t2b : (st.n == 0) = false := by simp; omega
      have t2c : ¬ st.n = 0 := by omega
      clear hgi hst hr hrm
      go_upto_region 7 with fail
      go_wp2_with fail
      refine (MbP.memD_ok.len RMi.out).mono ?_
      rintro e w4 ⟨rfl, hb⟩
      have B4 := hid (HB.out.trans (hb.mono HB.out.size))
      clear hb q1 RMi HB
      go_wp2_with fail
      go_roundw
      case rel => exact ⟨i + 1, by go_num, by omega, B4⟩
      case measure => simp [intOf] <;> omega
    · have t1 : decide ((i : Int) < (n : Int)) = false := by simp; omega
      obtain rfl : i = n := by omega
      have A3 := hid (HA.out.turn (T := fun _ => False) (Turn.of_new HB.out) fun _ _ _ e => e)
      go_upto_region 12 with fail
      go_wp2_with fail
      refine (lb_cloneP A3.out (by omega)).mono ?_
      rintro e wc ⟨A', c', rfl, hA', hbc⟩
      have BC := hid (HB.out.trans (hbc.mono HB.out.size))
      have AC := hid hA'
      have SC := hid (HS.out.turn (T := fun _ => False) (Turn.of_new BC.out) fun _ _ _ e => e)
      have PC := hid (show ∀ s x, (s, x) ∈ steps.zip sl → Arg wc x.A s.picks s.picks.length x.c ∧ s.picks.length ≤ 140737488351232 from fun s x h => ⟨(HP.out s x h).1.on BC.out, (HP.out s x h).2.1⟩)
      have hws := hid HB.out.size
      clear hA' hbc A3 HB
      go_wp2_with fail
      refine (lb_byN SC.out HL.out hns PC.out).mono ?_
      rintro e w5 ⟨r, Fm, sl2, rfl, hl2, hB⟩
      have BN := hid hB
      have L2 := hid hl2
      clear hB hl2 SC PC
      go_wp2_with ((with_reducible apply wblBus); rfl; rfl; rfl)
      go_ret2
      have hBN := BN.out
      have hal := (Below.refl w5.heap.size w5).alloc (Nat.le_refl _) (.cells (pbV A' i c' gc r (.slice none 0 0) false) 56)
      have hr5 : r < w5.heap.size := hBN.map.lt
      have hrc := hBN.rl
      have hcs := BC.out.size
      have hc5 := hBN.bel.size
      have hgl : gs.length = i := hgn.out
      have hwo := hws.out
      have hsz : (w5.alloc (.cells (pbV A' i c' gc r (.slice none 0 0) false) 56)).heap.size = w5.heap.size + 1 := by simp
      have hsk : Sk 0 (w5.alloc (.cells (pbV A' i c' gc r (.slice none 0 0) false) 56)) w5.heap.size gs gc A' c' r (.slice none 0 0) Fm (fun q => w.heap.size ≤ q ∧ q < (w5.alloc (.cells (pbV A' i c' gc r (.slice none 0 0) false) 56)).heap.size ∧ q ≠ w5.heap.size ∧ q ≠ r) steps false [] :=
        sk_new (by rw [hgl]; exact Blk.new _ _ _) (by omega) (by rw [hgl]; exact AC.out.mono fun b e => Nat.le_trans hwo e) (hBN.bel.trans (hal.mono hc5)) hcs (hBN.on hal) L2.out (fun q h => by omega) (fun n e => by have := ((hBN.own n).own _ e).2; omega) (fun x hx o h1 h2 => by have := (hBN.pk x hx).2 _ o h1 h2; omega)
      refine ⟨w5.heap.size, mutK w5.heap.size r (.slice none 0 0), _, by simp, ⟨A', c', r, _, Fm, hsk, rfl⟩, fun q e => ?_, fun q e => .inl ⟨e.1, e.2.1⟩, fun q e => ?_, BC.out.trans ((hBN.bel.trans (hal.mono hc5)).mono hcs)⟩
      · rcases e with e | e | e
        · omega
        · omega
        · cases e
      · rcases e with e | e | e
        · exact ⟨by rw [hsz]; omega, fun x => x.2.2.1 e⟩
        · exact ⟨by rw [hsz]; omega, fun x => x.2.2.2 e⟩
        · cases e
end BuP
end Go.Proofs.Ytablkaofaedpeaa
set_option maxRecDepth 100000
namespace Go.Proofs.Ytablkaofaedpeaa
open Go.ChangeShapes Go.WideShapes Go.ChangeAt Go.RowKit
attribute [local go_sem] Gives GivesE
namespace BuP
open BuM MbM MbP MpV
theorem nb_made (w : World) : Calls Try.prog 37 #[.pointer none] w fun e w' => e = .returned (.bool false) ∧ w = w' := by
  go_enter Try.func37, Try.ntmps37
  go_wp2_with fail
  go_ret
  exact ⟨rfl, rfl⟩
theorem zb_made (g : Nat) (w : World) (h : w.cell? ⟨g, 0, none⟩ = some (.slice none 0 0)) : Calls Try.prog 37 #[.pointer (some ⟨g, 0, none⟩)] w fun e w' => e = .returned (.bool false) ∧ w = w' := by
  go_enter Try.func37, Try.ntmps37
  go_wp2_with fail
  go_ret
  exact ⟨rfl, rfl⟩
theorem nb_find (m : Int) (w : World) : Calls Try.prog 49 #[.pointer none, .int .i64 m] w fun e w' => e = .returned (.pointer none) ∧ w = w' := by
  go_enter Try.func49, Try.ntmps49
  go_wp2_with fail
  refine (nb_made w).mono ?_
  rintro e w' ⟨rfl, rfl⟩
  go_wp2_with fail
  go_ret
  exact ⟨rfl, rfl⟩
theorem nb_sectors (m : Int) (w : World) : Calls Try.prog 25 #[.pointer none, .int .i64 m] w fun e w' => e = .returned (.int .i64 0) ∧ Below w.heap.size w w' := by
  go_enter Try.func25, Try.ntmps25
  go_wp2_with fail
  refine (nb_find m w).mono ?_
  rintro e w' ⟨rfl, rfl⟩
  go_wp2_with fail
  refine (MbO.lenN w).mono ?_
  rintro e w2 ⟨rfl, hb⟩
  have HB := hid hb
  clear hb
  go_wp2_with fail
  go_ret
  exact ⟨rfl, HB.out⟩
theorem nb_count (w : World) : Calls Try.prog 19 #[.pointer none] w fun e w' => e = .returned (.int .i64 0) ∧ Below w.heap.size w w' := by
  go_enter Try.func19, Try.ntmps19
  go_wp2_with fail
  refine (nb_made w).mono ?_
  rintro e w' ⟨rfl, rfl⟩
  go_wp2_with fail
  go_ret
  exact ⟨rfl, Below.refl _ _⟩
theorem nb_off (w : World) : Calls Try.prog 15 #[.pointer none] w fun e w' => e = .returned (.bool false) ∧ Below w.heap.size w w' := by
  go_enter Try.func15, Try.ntmps15
  go_wp2_with fail
  refine (nb_made w).mono ?_
  rintro e w' ⟨rfl, rfl⟩
  go_wp2_with fail
  go_ret
  exact ⟨rfl, Below.refl _ _⟩
theorem nb_power (w : World) : Calls Try.prog 14 #[.pointer none] w fun e w' => e = .returned (.int .i64 1) ∧ Below w.heap.size w w' := by
  go_enter Try.func14, Try.ntmps14
  go_wp2_with fail
  refine (nb_made w).mono ?_
  rintro e w' ⟨rfl, rfl⟩
  go_wp2_with fail
  go_ret
  exact ⟨rfl, Below.refl _ _⟩
theorem zb_members (g : Nat) (w : World) (h : w.cell? ⟨g, 0, none⟩ = some (.slice none 0 0)) : Calls Try.prog 24 #[.pointer (some ⟨g, 0, none⟩)] w fun e w' => e = .returned (.int .i64 0) ∧ Below w.heap.size w w' := by
  go_enter Try.func24, Try.ntmps24
  go_wp2_with fail
  refine (zb_made g w h).mono ?_
  rintro e w' ⟨rfl, rfl⟩
  go_wp2_with fail
  go_ret
  exact ⟨rfl, Below.refl _ _⟩
theorem zb_log (g : Nat) (w : World) (h : w.cell? ⟨g, 0, none⟩ = some (.slice none 0 0)) : Calls Try.prog 20 #[.pointer (some ⟨g, 0, none⟩)] w fun e w' => e = .returned (.slice none 0 0) ∧ Below w.heap.size w w' := by
  go_enter Try.func20, Try.ntmps20
  go_wp2_with fail
  refine (zb_made g w h).mono ?_
  rintro e w' ⟨rfl, rfl⟩
  go_wp2_with fail
  go_ret
  exact ⟨rfl, Below.refl _ _⟩
def en1 : BuM.Ent := ⟨0, 0, 0, fun _ => 0, 1⟩
theorem bp_en1 (w : World) : (Instr.build 51 #[(4, .int .i64 1)]).run Try.prog w = .ok (.agg (enL en1).toArray) w := run_build w _ _ _ (by kernel_rfl)
theorem wbpE1 {ops : Array Oper} {Q : Exit → Act → World → Prop} {a : Act} {w : World} {rest : List Oper} {dst : Option Tmp} {ty : TypeId} {pos : String} {after : Array Edge} (hk : wpList Try.prog ops Q rest (a.put dst (.agg (enL en1).toArray)) w) : wpList Try.prog ops Q (⟨dst, .build 51 #[(4, .const (.int .i64 1))], ty, pos, after, none⟩ :: rest) a w := by
  have hm : (#[(4, .const (.int .i64 1))] : Array (Nat × Operand)).map (fun (i, x) => (i, a.eval x)) = #[(4, .int .i64 1)] := by
    simp only [List.map_toArray, List.map_cons, List.map_nil]; rfl
  refine wpList_plain rfl fun K hK => ?_
  unfold Oper.wp execOp
  simp only [Sem.run_bind, hm, bp_en1, Result.andThen_ok, Sem.run_pure]
  exact hK _ _ hk
set_option maxRecDepth 100000 in
/-- An I/O of what New did not make, whatever was to do it. -/
theorem xb_io {v f : Value} {x : BuM.Ent} {w : World} (hm : ∀ w', Below w.heap.size w w' → Calls Try.prog 37 #[v] w' fun e w2 => e = .returned (.bool false) ∧ w' = w2) :
    Calls Try.prog 38 #[v, .agg (enL x).toArray, f] w fun e w' => e = .returned (.agg (enL en1).toArray) ∧ Below w.heap.size w w' := by
  have HM := hid hm
  clear hm
  go_enter Try.func38, Try.ntmps38
  go_upto_region 1 with (with_reducible apply alZ' zEnP)
  simp only [Act.put, List.setIfInBounds_toArray, List.set_cons_succ, List.set_cons_zero]
  generalize hw0 : World.alloc w _ = w0
  generalize hw1 : World.alloc w0 _ = w1
  obtain ⟨gR, hgR⟩ : ∃ n, n = w0.heap.size := ⟨_, rfl⟩
  have hs0 : w0.heap.size = w.heap.size + 1 := by rw [← hw0]; simp
  have bR := hid (show Blk w1 gR 51 (enL enP0).toArray by rw [← hw1, hgR]; exact Blk.new _ _ _)
  have BEL := hid (show Below w.heap.size w w1 by rw [← hw1, ← hw0]; exact ((Below.refl _ _).alloc (Nat.le_refl _) _).alloc (by simp) _)
  have hRw := hid (show w.heap.size ≤ gR by omega)
  rw [← hgR]
  clear hw1 hw0 hs0 hgR
  have b4 := bR.out.setRow_same (enL en1).toArray
  have B4 := hid (below_setRow BEL.out hRw.out (enL en1).toArray)
  go_wp2_with fail
  refine (HM.out w1 BEL.out).mono ?_
  rintro e w2 ⟨rfl, rfl⟩
  go_wp2_with (first | (with_reducible apply wbpE1) | ((with_reducible apply stR (tEnP en1)); rfl; rfl; exact bR.out; exact en_size _ _; exact en_one' _))
  apply ret_row' (tEnP en1) Try.results38
  · rfl
  · rfl
  · exact b4
  exact ⟨rfl, B4.out⟩
end BuP
end Go.Proofs.Ytablkaofaedpeaa
set_option maxRecDepth 100000
namespace Go.Proofs.Ytablkaofaedpeaa
open Go.ChangeShapes Go.WideShapes Go.ChangeAt Go.RowKit
attribute [local go_sem] Gives GivesE
namespace BuP
open BuM MbM MbP MpV
section
variable {w w' : World} {d g k : Nat} {F : Fq} {b : Bs}
theorem bp_en4 (w : World) : (Instr.build 51 #[(0, .int .i64 4)]).run Try.prog w = .ok (.agg (enL ⟨4, 0, 0, fun _ => 0, 0⟩).toArray) w := run_build w _ _ _ (by kernel_rfl)
theorem wbpCe {ops : Array Oper} {Q : Exit → Act → World → Prop} {a : Act} {w : World} {rest : List Oper} {dst : Option Tmp} {ty : TypeId} {pos : String} {after : Array Edge} (hk : wpList Try.prog ops Q rest (a.put dst (.agg (enL ⟨4, 0, 0, fun _ => 0, 0⟩).toArray)) w) : wpList Try.prog ops Q (⟨dst, .build 51 #[(0, .const (.int .i64 4))], ty, pos, after, none⟩ :: rest) a w := by
  have hm : (#[(0, .const (.int .i64 4))] : Array (Nat × Operand)).map (fun (i, x) => (i, a.eval x)) = #[(0, .int .i64 4)] := by
    simp only [List.map_toArray, List.map_cons, List.map_nil]; rfl
  refine wpList_plain rfl fun K hK => ?_
  unfold Oper.wp execOp
  simp only [Sem.run_bind, hm, bp_en4, Result.andThen_ok, Sem.run_pure]
  exact hK _ _ hk
set_option maxHeartbeats 600000 in
set_option maxRecDepth 100000 in
theorem lb_cell (H : Pp (RepK 0) w g F k b) (hk : k + b.steps.length + 2 ≤ 8000) : Calls Try.prog 17 #[MbP.at' g] w fun e w' => e = .returned (.tuple #[.agg (ClP.ceL (BuM.ceV (BuM.ahead b))).toArray, .int .i64 (BuM.ceB (BuM.ahead b)).e]) ∧ outQ (RepK 0) w g F (k + b.steps.length + 2) (BuM.ceT b) w' := by
  have HH := hid H
  clear H
  unfold MbP.at'
  go_enter Try.func17, Try.ntmps17
  go_upto_region 2 with (with_reducible apply alZ' ClP.zCe)
  try simp only [Act.put, List.setIfInBounds_toArray, List.set_cons_succ, List.set_cons_zero]
  generalize hw0 : World.alloc w _ = w0
  generalize hwa : World.alloc w0 _ = wa
  generalize hw1 : World.alloc wa _ = w1
  obtain ⟨gB, hgB⟩ : ∃ n, n = w.heap.size := ⟨_, rfl⟩
  have hs0 : w0.heap.size = w.heap.size + 1 := by rw [← hw0]; simp
  have hsa : wa.heap.size = w.heap.size + 1 + 1 := by rw [← hwa, ← hs0]; simp
  obtain ⟨gR, hgR⟩ : ∃ n, n = w.heap.size + 1 := ⟨_, rfl⟩
  obtain ⟨gH, hgH⟩ : ∃ n, n = w.heap.size + 1 + 1 := ⟨_, rfl⟩
  have ba : Below w.heap.size w w0 := by rw [← hw0]; exact (Below.refl _ _).alloc (Nat.le_refl _) _
  have bb : Below w0.heap.size w0 wa := by rw [← hwa]; exact (Below.refl _ _).alloc (Nat.le_refl _) _
  have bc : Below wa.heap.size wa w1 := by rw [← hw1]; exact (Below.refl _ _).alloc (Nat.le_refl _) _
  have k1 : Blk w0 gB 22 #[.pointer (some ⟨g, 0, none⟩)] := by rw [← hw0, hgB]; exact Blk.new _ _ _
  have k2 : Blk wa gR 43 (ClP.ceL (0, ClP.zero)).toArray := by rw [← hwa, hgR, ← hs0]; exact Blk.new _ _ _
  have k3 : Blk w1 gH 43 (ClP.ceL (0, ClP.zero)).toArray := by rw [← hw1, hgH, ← hsa]; exact Blk.new _ _ _
  have K1 := hid ((k1.below bb k1.lt).below bc (Nat.lt_of_lt_of_le k1.lt bb.size))
  have K2 := hid (k2.below bc k2.lt)
  have K3 := hid k3
  have BEL := hid (show Below w.heap.size w w1 from (ba.trans (bb.mono ba.size)).trans (bc.mono (Nat.le_trans ba.size bb.size)))
  have nB : ¬ mutP F gB := fun e => by have := HH.out.mlt gB e; omega
  have nR : ¬ mutP F gR ∧ ¬ rdP F gR := ⟨fun e => by have := HH.out.mlt gR e; omega, fun e => by have := HH.out.ilt gR e; omega⟩
  have nH : ¬ mutP F gH ∧ ¬ rdP F gH := ⟨fun e => by have := HH.out.mlt gH e; omega, fun e => by have := HH.out.ilt gH e; omega⟩
  have hRw := hid (show w.heap.size ≤ gR by omega)
  have hHw := hid (show w.heap.size ≤ gH by omega)
  have hBH : gB ≠ gH := by omega
  have hRH : gR ≠ gH := by omega
  try rw [hsa]
  try rw [hs0]
  rw [← hgH, ← hgR, ← hgB]
  clear hw1 hw0 hwa hs0 hsa hgB hgR hgH ba bb bc k1 k2 k3
  have H1 := hid (HH.out.belowK BEL.out)
  have qB : w1.cell? ⟨gB, 0, none⟩ = some (.pointer (some ⟨g, 0, none⟩)) := K1.out.cell 0
  go_wp2_with (with_reducible apply wbpCe)
  refine (lb_ceIo H1.out hk hBH K1.out K3.out nB nH).mono ?_
  rintro e w2 ⟨rfl, ho, hd⟩
  obtain ⟨z, hz⟩ : ∃ z, z = ceB (BuM.ahead b) := ⟨_, rfl⟩
  obtain ⟨h, hh⟩ : ∃ h, h = ceV (BuM.ahead b) := ⟨_, rfl⟩
  have HZ := hid hz
  have HV := hid hh
  obtain ⟨F2, hP2, hC2⟩ := Come.ofX ho
  have R2 := hid (K2.out.turn hC2.2.2.2.2 fun e => e.elim nR.1 hRH)
  have H2 := hid (show Blk w2 gH 43 (ClP.ceL h).toArray by rw [hh]; exact hd)
  have hrl := K2.out.lt
  have n2 : ¬ mutP F2 gR ∧ ¬ rdP F2 gR := ⟨fun e => (hC2.2.2.1 gR e).elim nR.1 fun y => by omega, fun e => by
    rcases hC2.2.2.2.1 gR e with y | y | y
    · exact nR.1 y
    · exact nR.2 y
    · omega⟩
  have P2 := hid hP2
  have C2 := hid ((Come.refl (fun _ => False) F BEL.out).trans hC2 fun q e => .inr (by rw [e]; exact hHw.out))
  have hrl2 := R2.out.lt
  have hhl2 := H2.out.lt
  rw [← hz]
  clear qB ho hd hP2 hC2 K1 K2 K3 H1 hrl nR nH nB hz hh hBH
  go_upto_region 3 with (first | (with_reducible apply alZ' zEnP) | ((with_reducible apply stR (tEnP z)); rfl; rfl; exact Blk.new _ _ _; exact en_size _ _; exact en_one' _))
  generalize hw3 : World.setRow _ _ _ = w3
  obtain ⟨gE, hgE⟩ : ∃ n, n = w2.heap.size := ⟨_, rfl⟩
  have B3 := hid (show Below w2.heap.size w2 w3 by rw [← hw3]; exact below_setRow ((Below.refl _ _).alloc (Nat.le_refl _) _) (Nat.le_refl _) _)
  have E3 := hid (show Blk w3 gE 51 (enL z).toArray by rw [← hw3, hgE]; exact (Blk.new w2 _ _).setRow_same _)
  have hER : gR ≠ gE := by omega
  rw [← hgE]
  clear hw3 hgE
  have R3 := hid (R2.out.below B3.out hrl2)
  have H3 := hid (H2.out.below B3.out hhl2)
  have P3 := hid (P2.out.belowK B3.out)
  have C3 := hid (C2.out.trans (Come.refl (fun _ => False) F2 B3.out) fun _ e => e.elim)
  clear R2 H2 P2 C2 B3 hrl2 hhl2
  refine wp_region_c (S := yS [some (.agg (ClP.ceL h).toArray), some (.pointer (some ⟨gE, 67, none⟩)), some (.int .i64 z.e), some undef, some (.int .i64 z.e)] []) (C := fun d vs w' => ResQ w3 gR h (d 3) w') 5 (by kernel_rfl) (by kernel_rfl) (by kernel_rfl) _
    (yS_ok _ fun y hy => by cases hy) ⟨Turn.drew _, R3.out.drew⟩ fun vs => ?_
  simp only [List.take_succ_cons, List.take_zero, List.drop_succ_cons, List.drop_zero]
  refine ⟨.inl ⟨rfl, fun dd w' hd hnx hw hC => ?_⟩, fun e => ?_⟩
  · exact ClP.gE_ldR (cs := (ClP.ceL h).toArray) (ClP.tCe h) rfl (H3.out.turn hC.t fun e => hRH e.symm).whole ⟨rfl, hC⟩
  have e' : vs 0 = _ := e
  rw [e']
  clear e e'
  simp only [Act.put, List.setIfInBounds_toArray, List.set_cons_succ, List.set_cons_zero]
  refine ⟨.inl ⟨rfl, fun dd w' hd hnx hw hC => ?_⟩, fun e => ?_⟩
  · go_simp
    first | exact ⟨rfl, hC⟩ | exact hC
  have e' : vs 1 = _ := e
  rw [e']
  clear e e'
  simp only [Act.put, List.setIfInBounds_toArray, List.set_cons_succ, List.set_cons_zero]
  refine ⟨.inl ⟨rfl, fun dd w' hd hnx hw hC => ?_⟩, fun e => ?_⟩
  · have h1 : w'.cell? ⟨gE, 67, none⟩ = some (.int .i64 z.e) := en_qe (E3.out.turn hC.t fun e => hER e.symm)
    go_simp
    first | exact ⟨rfl, hC⟩ | exact hC
  have e' : vs 2 = _ := e
  rw [e']
  clear e e'
  simp only [Act.put, List.setIfInBounds_toArray, List.set_cons_succ, List.set_cons_zero]
  refine ⟨.inl ⟨rfl, fun dd w' hd hnx hw hC => ?_⟩, fun e => ?_⟩
  · with_reducible refine gE_stR (cs := (ClP.ceL h).toArray) (old := (ClP.ceL (if dd 3 then h else (0, ClP.zero))).toArray) (g := gR) (t := 43) ?_ ?_ ?_ ?_ ?_ ?_ ?_
    · exact ClP.tCe h
    · rfl
    · rfl
    · exact hC.b
    · exact ClP.ce_size _ _
    · exact ClP.ce_one _
    · exact ⟨rfl, hC.put⟩
  have e' : vs 3 = _ := e
  rw [e']
  clear e e'
  simp only [Act.put, List.setIfInBounds_toArray, List.set_cons_succ, List.set_cons_zero]
  refine ⟨.inl ⟨rfl, fun dd w' hd hnx hw hC => ?_⟩, fun e => ?_⟩
  · go_simp
    first | exact ⟨rfl, hC⟩ | exact hC
  have e' : vs 4 = _ := e
  rw [e']
  clear e e'
  simp only [Act.put, List.setIfInBounds_toArray, List.set_cons_succ, List.set_cons_zero]
  intro dd wz hall hC
  have h4 : dd 3 = true := hall 3 (by omega)
  have Z := hid (show Blk wz gR 43 (ClP.ceL h).toArray by have := hC.b; rw [h4] at this; exact this)
  have P6 := hid (P3.out.turnK hC.t fun q e x => by rw [x] at e; exact e.elim n2.1 n2.2)
  have C6 := hid (show Come (fun _ => False) w F wz F2 from C3.out.trans (Come.touch (X := fun q => q = gR) _ F2 hC.t fun q e => .inl e) fun q e => .inr (e ▸ hRw.out))
  clear hC h4 hall E3 R3 H3 P3 C3 n2
  go_wp2_with fail
  refine ret_rowt2 (t := 43) (cs := (ClP.ceL h).toArray) (g := gR) (v := .int .i64 z.e) (ClP.tCe h) Try.results17 rfl rfl rfl Z.out ?_
  have e1 : Ending.returned (.tuple #[.agg (ClP.ceL h).toArray, .int .i64 z.e]) = .returned (.tuple #[.agg (ClP.ceL (BuM.ceV (BuM.ahead b))).toArray, .int .i64 (BuM.ceB (BuM.ahead b)).e]) := by rw [HV.out, HZ.out]
  exact ⟨e1, C6.out.toQ P6.out⟩
end
end BuP
end Go.Proofs.Ytablkaofaedpeaa
set_option maxRecDepth 100000
namespace Go.Proofs.Ytablkaofaedpeaa
open Go.ChangeShapes Go.WideShapes Go.ChangeAt Go.RowKit
attribute [local go_sem] Gives GivesE
namespace BuP
open BuM MbM MbP MpV
/-- A pointer that is no bus, in w and whatever comes of it. -/
def NoBus (w : World) (p : Option Addr) : Prop := ∀ w', Below w.heap.size w w' → Calls Try.prog 37 #[.pointer p] w' fun e w2 => e = .returned (.bool false) ∧ w' = w2
theorem NoBus.on {w w' : World} {p : Option Addr} (h : NoBus w p) (hb : Below w.heap.size w w') : NoBus w' p := fun w2 h2 => h w2 (hb.trans (h2.mono hb.size))
theorem noBus_nil (w : World) : NoBus w none := fun w' _ => nb_made w'
theorem noBus_zero {w : World} {g : Nat} (h : w.cell? ⟨g, 0, none⟩ = some (.slice none 0 0)) : NoBus w (some ⟨g, 0, none⟩) := fun w' hb => zb_made g w' ((hb.cell (p := ⟨g, 0, none⟩) (World.block_lt_of_cell? w _ h)).trans h)
set_option maxRecDepth 100000 in
theorem xb_ofm {p : Option Addr} {fn : FuncId} {cap : Array Value} {x : BuM.Ent} {w : World} (hm : NoBus w p) :
    Calls Try.prog 34 #[.pointer p, .agg (enL x).toArray, .func (.func fn) #[] cap] w fun e w' => e = .returned (.agg (enL en1).toArray) ∧ Below w.heap.size w w' := by
  have HM := hid hm
  clear hm
  go_enter Try.func34, Try.ntmps34
  go_upto_region 1 with (with_reducible apply alZ' zEnP)
  simp only [Act.put, List.setIfInBounds_toArray, List.set_cons_succ, List.set_cons_zero]
  generalize hwa : World.alloc w _ = wa
  generalize hwb : World.alloc wa _ = wb
  generalize hwc : World.alloc wb _ = wc
  generalize hwd : World.alloc wc _ = wd
  obtain ⟨g1, hg1⟩ : ∃ n, n = w.heap.size := ⟨_, rfl⟩
  obtain ⟨g2, hg2⟩ : ∃ n, n = w.heap.size + 1 := ⟨_, rfl⟩
  obtain ⟨g3, hg3⟩ : ∃ n, n = w.heap.size + 1 + 1 := ⟨_, rfl⟩
  obtain ⟨g4, hg4⟩ : ∃ n, n = wc.heap.size := ⟨_, rfl⟩
  have ba : Below w.heap.size w wa := by rw [← hwa]; exact (Below.refl _ _).alloc (Nat.le_refl _) _
  have bb : Below wa.heap.size wa wb := by rw [← hwb]; exact (Below.refl _ _).alloc (Nat.le_refl _) _
  have bc : Below wb.heap.size wb wc := by rw [← hwc]; exact (Below.refl _ _).alloc (Nat.le_refl _) _
  have bd : Below wc.heap.size wc wd := by rw [← hwd]; exact (Below.refl _ _).alloc (Nat.le_refl _) _
  have sa1 : wa.heap.size = w.heap.size + 1 := by rw [← hwa]; simp
  have k1 : Blk wa g1 22 #[.pointer p] := by rw [← hwa, hg1]; exact Blk.new _ _ _
  have k2 : Blk wb g2 51 (enL x).toArray := by rw [← hwb, hg2, ← sa1]; exact Blk.new _ _ _
  have k4 : Blk wd g4 51 (enL enP0).toArray := by rw [← hwd, hg4]; exact Blk.new _ _ _
  have sa := ba.size
  have sb := bb.size
  have sc := bc.size
  have BEL := hid (((ba.trans (bb.mono sa)).trans (bc.mono (Nat.le_trans sa sb))).trans (bd.mono (Nat.le_trans sa (Nat.le_trans sb sc))))
  have K1 := hid (((k1.below bb k1.lt).below bc (Nat.lt_of_lt_of_le k1.lt sb)).below bd (Nat.lt_of_lt_of_le k1.lt (Nat.le_trans sb sc)))
  have K2 := hid ((k2.below bc k2.lt).below bd (Nat.lt_of_lt_of_le k2.lt sc))
  have K4 := hid k4
  have h4w := hid (show w.heap.size ≤ g4 by omega)
  rw [← hg4, ← hg3, ← hg2, ← hg1]
  have q1 : wd.cell? ⟨g1, 0, none⟩ = some (.pointer p) := K1.out.cell 0
  clear sa1 hwa hwb hwc hwd hg1 hg2 hg3 hg4 ba bb bc bd k1 k2 k4 sa sb sc
  go_wp2_with ((with_reducible apply ldR (cs := (enL x).toArray) (tEnP x)); rfl; exact K2.out.whole)
  refine (xb_io (x := x) (HM.out.on BEL.out)).mono ?_
  rintro e w2 ⟨rfl, hb⟩
  have B2 := hid (BEL.out.trans (hb.mono BEL.out.size))
  have K5 := hid (K4.out.below hb K4.out.lt)
  have b4 := K5.out.setRow_same (enL en1).toArray
  have B4 := hid (below_setRow B2.out h4w.out (enL en1).toArray)
  clear q1 hb K1 K2 K4
  go_wp2_with ((with_reducible apply stR (tEnP en1)); rfl; rfl; exact K5.out; exact en_size _ _; exact en_one' _)
  apply ret_row' (tEnP en1) Try.results34
  · rfl
  · rfl
  · exact b4
  exact ⟨rfl, B4.out⟩
set_option maxRecDepth 100000 in
theorem xb_write {p : Option Addr} {m i : Int} {x : Nat → Nat} {w : World} (hm : NoBus w p) : Calls Try.prog 12 #[.pointer p, .int .i64 m, .int .i64 i, .agg (ar 64 x)] w fun e w' => e = .returned (.int .i64 1) ∧ Below w.heap.size w w' := by
  have HM := hid hm
  clear hm
  go_enter Try.func12, Try.ntmps12
  go_upto_region 1 with fail
  generalize hw0 : World.alloc w _ = w0
  generalize hw1 : World.alloc w0 _ = w1
  obtain ⟨gI, hgI⟩ : ∃ n, n = w.heap.size := ⟨_, rfl⟩
  have hs0 : w0.heap.size = w.heap.size + 1 := by rw [← hw0]; simp
  obtain ⟨gX, hgX⟩ : ∃ n, n = w.heap.size + 1 := ⟨_, rfl⟩
  have bI := hid (show Blk w1 gI 3 #[.int .i64 i] by rw [← hw1, ← hw0, hgI]; exact (Blk.new _ _ _).alloc _)
  have bX := hid (show Blk w1 gX 30 (ar 64 x) by rw [← hw1, hgX, ← hs0]; exact Blk.new _ _ _)
  have BEL := hid (show Below w.heap.size w w1 by rw [← hw1, ← hw0]; exact ((Below.refl _ _).alloc (Nat.le_refl _) _).alloc (by simp) _)
  rw [← hgX, ← hgI]
  clear hw1 hw0 hs0 hgI hgX
  have qI : w1.cell? ⟨gI, 0, none⟩ = some (.int .i64 i) := bI.out.cell 0
  go_wp2_with (first | ((with_reducible apply ldA tSe); rfl; exact bX.out) | ((with_reducible apply wbpWr (s := x)); rfl; rfl; rfl))
  refine (xb_ofm (HM.out.on BEL.out)).mono ?_
  rintro e w2 ⟨rfl, hb⟩
  have B2 := hid (BEL.out.trans (hb.mono BEL.out.size))
  clear hb bI bX qI
  go_wp2_with ((with_reducible apply wfldE (E := en1)); rfl)
  go_ret
  exact ⟨rfl, B2.out⟩
set_option maxRecDepth 100000 in
theorem xb_flush {p : Option Addr} {m : Int} {w : World} (hm : NoBus w p) : Calls Try.prog 18 #[.pointer p, .int .i64 m] w fun e w' => e = .returned (.int .i64 1) ∧ Below w.heap.size w w' := by
  have HM := hid hm
  clear hm
  go_enter Try.func18, Try.ntmps18
  go_wp2_with ((with_reducible apply wbpFl); rfl)
  refine (xb_ofm HM.out).mono ?_
  rintro e w2 ⟨rfl, hb⟩
  have B2 := hid hb
  clear hb
  go_wp2_with ((with_reducible apply wfldE (E := en1)); rfl)
  go_ret
  exact ⟨rfl, B2.out⟩
set_option maxHeartbeats 600000 in
set_option maxRecDepth 100000 in
theorem xb_read {p : Option Addr} {m i : Int} {w : World} (hm : NoBus w p) : Calls Try.prog 11 #[.pointer p, .int .i64 m, .int .i64 i] w fun e w' => e = .returned (.tuple #[.agg (ar 64 fun _ => 0), .int .i64 1]) ∧ Below w.heap.size w w' := by
  have HM := hid hm
  clear hm
  go_enter Try.func11, Try.ntmps11
  go_upto_region 1 with (with_reducible apply alA tSe)
  try simp only [Act.put, List.setIfInBounds_toArray, List.set_cons_succ, List.set_cons_zero]
  generalize hw0 : World.alloc w _ = w0
  generalize hw1 : World.alloc w0 _ = w1
  obtain ⟨gI, hgI⟩ : ∃ n, n = w.heap.size := ⟨_, rfl⟩
  obtain ⟨gR, hgR⟩ : ∃ n, n = w.heap.size + 1 := ⟨_, rfl⟩
  have hs0 : w0.heap.size = w.heap.size + 1 := by rw [← hw0]; simp
  have bI := hid (show Blk w1 gI 3 #[.int .i64 i] by rw [← hw1, ← hw0, hgI]; exact (Blk.new _ _ _).alloc _)
  have bR := hid (show Blk w1 gR 30 (ar 64 fun _ => 0) by rw [← hw1, hgR, ← hs0]; exact Blk.new _ _ _)
  have BEL := hid (show Below w.heap.size w w1 by rw [← hw1, ← hw0]; exact ((Below.refl _ _).alloc (Nat.le_refl _) _).alloc (by simp) _)
  have hRw := hid (show w.heap.size ≤ gR by omega)
  rw [← hgR, ← hgI]
  clear hw1 hw0 hs0 hgI hgR
  have qI : w1.cell? ⟨gI, 0, none⟩ = some (.int .i64 i) := bI.out.cell 0
  go_wp2_with ((with_reducible apply wbpRd); rfl; rfl)
  refine (xb_ofm (HM.out.on BEL.out)).mono ?_
  rintro e w2 ⟨rfl, hb⟩
  have B2 := hid (BEL.out.trans (hb.mono BEL.out.size))
  have R2 := hid (bR.out.below hb bR.out.lt)
  have hrl2 := R2.out.lt
  clear qI hb bI bR
  go_upto_region 2 with (first | (with_reducible apply alZ' zEnP) | ((with_reducible apply stR (tEnP en1)); rfl; rfl; exact Blk.new _ _ _; exact en_size _ _; exact en_one' _))
  generalize hw3 : World.setRow _ _ _ = w3
  obtain ⟨gE, hgE⟩ : ∃ n, n = w2.heap.size := ⟨_, rfl⟩
  have B3 := hid (show Below w2.heap.size w2 w3 by rw [← hw3]; exact below_setRow ((Below.refl _ _).alloc (Nat.le_refl _) _) (Nat.le_refl _) _)
  have E3 := hid (show Blk w3 gE 51 (enL en1).toArray by rw [← hw3, hgE]; exact (Blk.new w2 _ _).setRow_same _)
  have hER : gR ≠ gE := by omega
  rw [← hgE]
  clear hw3 hgE
  have R3 := hid (R2.out.below B3.out hrl2)
  have B4 := hid (B2.out.trans (B3.out.mono B2.out.size))
  clear R2 B2 B3 hrl2
  refine wp_region_c (S := yS [some (.pointer (some ⟨gE, 3, none⟩)), some (.agg (ar 64 fun _ => 0)), some (.pointer (some ⟨gE, 67, none⟩)), some (.int .i64 1), some undef, some (.int .i64 1)] []) (C := fun d vs w' => ResC w3 gR (fun _ => 0) (d 4) w') 6 (by kernel_rfl) (by kernel_rfl) (by kernel_rfl) _
    (yS_ok _ fun y hy => by cases hy) ⟨Turn.drew _, R3.out.drew⟩ fun vs => ?_
  simp only [List.take_succ_cons, List.take_zero, List.drop_succ_cons, List.drop_zero]
  refine ⟨.inl ⟨rfl, fun dd w' hd hnx hw hC => ?_⟩, fun e => ?_⟩
  · go_simp
    first | exact ⟨rfl, hC⟩ | exact hC
  have e' : vs 0 = _ := e
  rw [e']
  clear e e'
  simp only [Act.put, List.setIfInBounds_toArray, List.set_cons_succ, List.set_cons_zero]
  refine ⟨.inl ⟨rfl, fun dd w' hd hnx hw hC => ?_⟩, fun e => ?_⟩
  · exact gE_ldA tSe rfl (en_qs (E3.out.turn hC.t fun e => hER e.symm)) ⟨rfl, hC⟩
  have e' : vs 1 = _ := e
  rw [e']
  clear e e'
  simp only [Act.put, List.setIfInBounds_toArray, List.set_cons_succ, List.set_cons_zero]
  refine ⟨.inl ⟨rfl, fun dd w' hd hnx hw hC => ?_⟩, fun e => ?_⟩
  · go_simp
    first | exact ⟨rfl, hC⟩ | exact hC
  have e' : vs 2 = _ := e
  rw [e']
  clear e e'
  simp only [Act.put, List.setIfInBounds_toArray, List.set_cons_succ, List.set_cons_zero]
  refine ⟨.inl ⟨rfl, fun dd w' hd hnx hw hC => ?_⟩, fun e => ?_⟩
  · have h1 : w'.cell? ⟨gE, 67, none⟩ = some (.int .i64 1) := en_qe (E3.out.turn hC.t fun e => hER e.symm)
    go_simp
    first | exact ⟨rfl, hC⟩ | exact hC
  have e' : vs 3 = _ := e
  rw [e']
  clear e e'
  simp only [Act.put, List.setIfInBounds_toArray, List.set_cons_succ, List.set_cons_zero]
  refine ⟨.inl ⟨rfl, fun dd w' hd hnx hw hC => ?_⟩, fun e => ?_⟩
  · with_reducible refine gE_stA (n := 64) (f0 := if dd 4 then (fun _ => 0) else fun _ => 0) (f := fun _ => 0) (g := gR) (t := 30) ?_ ?_ ?_ ?_ ?_
    · exact tSe
    · rfl
    · rfl
    · exact hC.b
    · exact ⟨rfl, hC.put⟩
  have e' : vs 4 = _ := e
  rw [e']
  clear e e'
  simp only [Act.put, List.setIfInBounds_toArray, List.set_cons_succ, List.set_cons_zero]
  refine ⟨.inl ⟨rfl, fun dd w' hd hnx hw hC => ?_⟩, fun e => ?_⟩
  · go_simp
    first | exact ⟨rfl, hC⟩ | exact hC
  have e' : vs 5 = _ := e
  rw [e']
  clear e e'
  simp only [Act.put, List.setIfInBounds_toArray, List.set_cons_succ, List.set_cons_zero]
  intro dd wz hall hC
  have h4 : dd 4 = true := hall 4 (by omega)
  have Z := hid (show Blk wz gR 30 (ar 64 fun _ => 0) by have := hC.b; rw [h4] at this; exact this)
  have B6 := hid (B4.out.trans (hC.t.below B4.out.size fun q e => by rw [e]; exact hRw.out))
  clear hC h4 hall E3 R3 B4
  go_wp2_with fail
  exact retA (t := 30) (f := fun _ => 0) (h := gR) (v := .int .i64 1) tSe Try.results11 rfl rfl rfl Z.out ⟨rfl, B6.out⟩
end BuP
end Go.Proofs.Ytablkaofaedpeaa
set_option maxRecDepth 100000
namespace Go.Proofs.Ytablkaofaedpeaa
open Go.ChangeShapes Go.WideShapes Go.ChangeAt Go.RowKit
attribute [local go_sem] Gives GivesE
namespace BuP
open BuM MbM MbP
/-- An act over a bus. -/
structure ActB where
  d : Int
  m : Int
  i : Int
  s : Nat → Nat
  t : Nat → Nat
def abL (a : ActB) : List Value := .int .i64 a.d :: .int .i64 a.m :: .int .i64 a.i :: (ar64 a.s ++ (ar 32 a.t).toList)
theorem abL_len (a : ActB) : (abL a).length = 99 := by unfold abL; simp [ar64_len, size_ar]
section
variable {w : World} {b o : Nat} {a : ActB}
theorem ab_d (h : w.rangeAt b o (abL a)) : w.cell? ⟨b, o, none⟩ = some (.int .i64 a.d) := h 0 _ rfl
theorem ab_m (h : w.rangeAt b o (abL a)) : w.cell? ⟨b, o + 1, none⟩ = some (.int .i64 a.m) := h 1 _ rfl
theorem ab_i (h : w.rangeAt b o (abL a)) : w.cell? ⟨b, o + 2, none⟩ = some (.int .i64 a.i) := h 2 _ rfl
theorem ab_s (h : w.rangeAt b o (abL a)) : w.rangeAt b (o + 3) (ar 64 a.s).toList := fun j v hj => by
  have hl := (List.getElem?_eq_some_iff.1 hj).1
  have := h (j + 3) v (by unfold abL; rw [List.getElem?_cons_succ, List.getElem?_cons_succ, List.getElem?_cons_succ, List.getElem?_append_left (show j < (ar64 _).length from hl)]; exact hj)
  rwa [show o + (j + 3) = o + 3 + j by omega] at this
theorem ab_t (h : w.rangeAt b o (abL a)) : w.rangeAt b (o + 67) (ar 32 a.t).toList := fun j v hj => by
  have := h (j + 67) v (by unfold abL; rw [show j + 67 = (j + 64) + 3 by omega, List.getElem?_cons_succ, List.getElem?_cons_succ, List.getElem?_cons_succ, List.getElem?_append_right (by rw [ar64_len]; omega), ar64_len, Nat.add_sub_cancel]; exact hj)
  rwa [show o + (j + 67) = o + 67 + j by omega] at this
end
theorem and7 (D : Int) : ∃ r : Nat, r ≤ 7 ∧ bits .and .i64 D 7 = (r : Int) := by
  have h : (BitVec.ofInt 64 D &&& BitVec.ofInt 64 7).toNat ≤ 7 := by
    rw [BitVec.toNat_and]
    exact Nat.le_trans Nat.and_le_right (by decide)
  refine ⟨_, h, ?_⟩
  show IntKind.i64.wrap ((BitVec.ofInt 64 D &&& BitVec.ofInt 64 7).toNat : Int) = _
  generalize (BitVec.ofInt 64 D &&& BitVec.ofInt 64 7).toNat = n at *
  exact IntWalk.i64_in _ (by omega)
def kind7 (D : Int) : Nat := (bits .and .i64 D 7).toNat
theorem kind7_le (D : Int) : kind7 D ≤ 7 := by obtain ⟨r, h1, h2⟩ := and7 D; unfold kind7; rw [h2]; exact h1
theorem kind7_bits (D : Int) : bits .and .i64 D 7 = (kind7 D : Int) := by obtain ⟨r, h1, h2⟩ := and7 D; unfold kind7; rw [h2]; rfl
/-- What an act leaves. -/
def doK (b : Bs) (a : ActB) : Nat → Bs
  | 1 | 2 => BuM.wrT b a.m a.i a.s
  | 3 => BuM.flT b a.m
  | 4 => BuM.ceT b
  | 5 => BuM.adT b a.t
  | 6 => BuM.power b
  | _ => BuM.rdT b a.m a.i
def doB (b : Bs) (a : ActB) : Bs := doK b a (kind7 a.d)
section
variable {ops : Array Oper} {Q : Exit → Act → World → Prop} {a : Act} {w : World} {rest : List Oper} {dst : Option Tmp} {ty r : TypeId} {pos : String} {after : Array Edge} {x y : Operand} {p q : ClP.Held} {f f2 : Nat → Nat}
theorem weqCe (hx : a.eval x = .agg (ClP.ceL p).toArray) (hy : a.eval y = .agg (ClP.ceL p).toArray) (h : wpList Try.prog ops Q rest (a.put dst (.bool true)) w) : wpList Try.prog ops Q (⟨dst, .binOp .eql 43 x y r, ty, pos, after, none⟩ :: rest) a w := by
  have hr := ClP.run_eq_ce p p w
  rw [ClP.ceq_iff.2 ⟨rfl, fun _ _ => rfl⟩] at hr
  have h1 : (eqGuard .eql 43 x y (.agg (ClP.ceL p).toArray) (.agg (ClP.ceL p).toArray)).run Try.prog w = .ok () w := by
    simp [eqGuard, ClP.gCe, go_sem]
  refine wpList_plain rfl fun K hK => ?_
  unfold Oper.wp
  simp only [execOp, hx, hy, Sem.run_bind, h1, hr, Result.andThen_ok, Sem.run_pure]
  exact hK _ _ h
theorem uSe' : Try.prog.underlying 30 = some (.array 64 5) := Try.underlying30
theorem gSe' : Try.prog.eqGuardType Try.prog.depth 30 = false := by kernel_rfl
end
end BuP
end Go.Proofs.Ytablkaofaedpeaa
set_option maxRecDepth 100000
namespace Go.Proofs.Ytablkaofaedpeaa
open Go.ChangeShapes Go.WideShapes Go.ChangeAt Go.RowKit
attribute [local go_sem] Gives GivesE
namespace BuP
open BuM MbM MbP
section
variable {ops : Array Oper} {Q : Exit → Act → World → Prop} {a : Act} {w : World} {rest : List Oper} {dst : Option Tmp} {ty r : TypeId} {pos : String} {after : Array Edge} {x y : Operand} {f : Nat → Nat}
theorem wneSe (hx : a.eval x = .agg (ar 64 f)) (hy : a.eval y = .agg (ar 64 f)) (h : wpList Try.prog ops Q rest (a.put dst (.bool false)) w) : wpList Try.prog ops Q (⟨dst, .binOp .neq 30 x y r, ty, pos, after, none⟩ :: rest) a w := by
  have h1 : (eqGuard .neq 30 x y (.agg (ar 64 f)) (.agg (ar 64 f))).run Try.prog w = .ok () w := by
    simp [eqGuard, gSe', go_sem]
  have h2 : (binOp .neq 30 (.agg (ar 64 f)) (.agg (ar 64 f))).run Try.prog w = .ok (.bool (!eqA 64 f f)) w := run_neq_ar uSe' _ _ _
  rw [eqA_yes fun _ _ => rfl] at h2
  refine wpList_plain rfl fun K hK => ?_
  unfold Oper.wp
  simp only [execOp, hx, hy, Sem.run_bind, h1, h2, Result.andThen_ok, Sem.run_pure]
  exact hK _ _ h
end
end BuP
end Go.Proofs.Ytablkaofaedpeaa
set_option maxRecDepth 100000
namespace Go.Proofs.Ytablkaofaedpeaa
open Go.ChangeShapes Go.WideShapes Go.ChangeAt Go.RowKit
section
variable {α : Type} {k : Nat} {en : α → List Value} {E L : TypeId}
theorem run_lit2 (hE : EltX E k en) (hu : Try.prog.underlying L = some (.slice E)) (x y : α) {v u : Value} (hv : v.cells.toList = en x) (hy : u.cells.toList = en y) (hk : k ≤ 1000) (w : World) :
    (Instr.buildSlice L 2 #[(0, v), (1, u)]).run Try.prog w = .ok (.slice (some ⟨w.heap.size, 0, none⟩) 2 2) (w.alloc (.cells (en x ++ en y).toArray E)) := by
  obtain ⟨ie, z, hi, hz, h1, h2, h3⟩ := hE.info
  refine run_buildSlice w L E 2 _ _ ie z hu hi hz (by rw [h1]; omega) (by rw [h1]; have := hE.pos; omega) ?_
  have hcs : v.cells.size = k := by rw [← Array.length_toList, hv, hE.len]
  have hcu : u.cells.size = k := by rw [← Array.length_toList, hy, hE.len]
  have := fill_consec (place := fun i => some (i * ie.size, ie.size)) [v, u] [(0, k), (k, k)] [] (((Array.range (2 * ie.size)).map (z.cells[· % z.cells.size]!)).toList) 0 ⟨rfl, by simp, trivial⟩ (by simp [hcs, hcu]) (by simp [h1]; omega) (fun j hj => by
    have : j = 0 ∨ j = 1 := by simp at hj; omega
    rcases this with rfl | rfl
    · simp [h1]
    · simp [h1])
  simp only [List.nil_append, List.map_cons, List.map_nil, List.sum_cons, List.sum_nil, Nat.add_zero, List.flatMap_cons, List.flatMap_nil, List.append_nil, hv, hy] at this
  rw [List.drop_eq_nil_of_le (by simp [h1]; omega), List.append_nil, Array.toArray_toList] at this
  exact this
/-- What such a literal is. -/
theorem sli_lit2 {S : Nat → Prop} (hE : EltX E k en) (x y : α) (w : World) (hS : S w.heap.size) : Sli k en S (w.alloc (.cells (en x ++ en y).toArray E)) (some ⟨w.heap.size, 0, none⟩) [x, y] 2 2 where
  len := rfl
  cap := Nat.le_refl _
  max := by unfold maxLen; omega
  none e := by cases e
  lst _ := ⟨w.heap.size, 0, rfl, hS, by simp, fun i z hi j u hj => by
    have hb : Blk (w.alloc (.cells (en x ++ en y).toArray E)) w.heap.size E (en x ++ en y).toArray := Blk.new _ _ _
    have hjl := (List.getElem?_eq_some_iff.1 hj).1
    rcases i with _ | _ | i
    · simp only [List.getElem?_cons_zero, Option.some.injEq] at hi
      subst hi
      rw [hE.len] at hjl
      rw [Nat.zero_add, Nat.zero_mul, Nat.zero_add, hb.cell, List.getElem?_toArray, List.getElem?_append_left (by rw [hE.len]; exact hjl)]
      exact hj
    · simp only [List.getElem?_cons_succ, List.getElem?_cons_zero, Option.some.injEq] at hi
      subst hi
      rw [Nat.zero_add, Nat.zero_add, Nat.one_mul, hb.cell, List.getElem?_toArray, List.getElem?_append_right (by rw [hE.len]; omega), hE.len, Nat.add_sub_cancel_left]
      exact hj
    · simp at hi⟩
variable {ops : Array Oper} {Q : Exit → Act → World → Prop} {a : Act} {w : World} {rest : List Oper} {dst : Option Tmp} {ty : TypeId} {pos : String} {after : Array Edge} {o p : Operand} {x y : α} {v u : Value}
theorem wlit2 (hE : EltX E k en) (hu : Try.prog.underlying L = some (.slice E)) (hk : k ≤ 1000) (ho : a.eval o = v) (hp : a.eval p = u) (hv : v.cells.toList = en x) (hy : u.cells.toList = en y)
    (h : wpList Try.prog ops Q rest (a.put dst (.slice (some ⟨w.heap.size, 0, none⟩) 2 2)) (w.alloc (.cells (en x ++ en y).toArray E))) :
    wpList Try.prog ops Q (⟨dst, .buildSlice L 2 #[(0, o), (1, p)], ty, pos, after, none⟩ :: rest) a w := by
  have hm : (#[(0, o), (1, p)] : Array (Nat × Operand)).map (fun (i, x) => (i, a.eval x)) = #[(0, v), (1, u)] := by
    simp only [List.map_toArray, List.map_cons, List.map_nil, ho, hp]
  refine wpList_plain rfl fun K hK => ?_
  unfold Oper.wp execOp
  simp only [Sem.run_bind, hm, run_lit2 hE hu x y hv hy hk w, Result.andThen_ok, Sem.run_pure]
  exact hK _ _ h
end
end Go.Proofs.Ytablkaofaedpeaa
set_option maxRecDepth 100000
namespace Go.Proofs.Ytablkaofaedpeaa
open Go.ChangeShapes Go.WideShapes Go.ChangeAt Go.RowKit
attribute [local go_sem] Gives GivesE
namespace BuP
open BuM MbM MbP
set_option maxRecDepth 100000 in
theorem full13_any (x : Nat) (w : World) : Calls Try.prog 13 #[.int .u8 (x : Nat)] w fun e w' => e = .returned (.agg (ar 64 fun _ => x)) ∧ Below w.heap.size w w' := by
  go_enter Try.func13, Try.ntmps13
  go_upto_region 2 with (with_reducible apply alA tSe)
  generalize hw3 : World.alloc (World.alloc w _) _ = w3
  have b1 : Blk w3 w.heap.size 30 (ar 64 fun _ => 0) := by rw [← hw3]; exact (Blk.new _ _ _).alloc _
  have b2 : Blk w3 (w.heap.size + 1) 30 (ar 64 fun _ => 0) := by rw [← hw3]; exact Blk.top rfl (by simp)
  have hb : Below w.heap.size w w3 := by rw [← hw3]; exact ((Below.refl _ _).alloc (Nat.le_refl _) _).alloc (by simp) _
  clear hw3
  go_wp2_with fail
  go_loopw [4] (fun i wr => ∃ k : Nat, k ≤ 64 ∧ i = .int .i64 k ∧ Blk wr w.heap.size 30 (ar 64 fun _ => 0) ∧ Blk wr (w.heap.size + 1) 30 (ar 64 (upTo k (fun _ => 0) fun _ => x)) ∧ Below w.heap.size w wr) (fun i _ => 64 - (intOf i).toNat)
  case atStart => exact ⟨0, by omega, rfl, b1, by rw [upTo_zero]; exact b2, hb⟩
  case round =>
    clear b1 b2 hb
    obtain ⟨k, hk, rfl, b1, b2, hb⟩ := hrel
    by_cases hlt : k < 64
    · have tk : (k : Int) < 64 := by omega
      have c3 := b2.frozen k
      have e3 := (b2.cell k).trans (get_ar (show k < 64 by omega))
      go_wp2_with fail
      go_roundw
      case rel => exact ⟨k + 1, by omega, by go_num, b1.setCell_other (by show w.heap.size + 1 ≠ _; omega) _, upTo_step (b2.setCell_same k _), hb.setCell (show w.heap.size ≤ w.heap.size + 1 by omega) _⟩
      case measure => simp [intOf]; omega
    · have tk : decide ((k : Int) < 64) = false := by simp; omega
      obtain rfl : k = 64 := by omega
      rw [show ar 64 (upTo 64 (fun _ => 0) fun _ => x) = ar 64 fun _ => x from ar_ext fun j hj => by unfold upTo; rw [if_pos hj]] at b2
      have b4 := b1.setRow_same (ar 64 fun _ => x)
      have B4 := hid (below_setRow hb (Nat.le_refl w.heap.size) (ar 64 fun _ => x))
      go_wp2_with (first | ((with_reducible apply ldA tSe); rfl; exact b2) | ((with_reducible apply stA tSe); rfl; rfl; exact b1))
      apply ret_ar tSe Try.results13
      · rfl
      · rfl
      · exact b4
      exact ⟨rfl, B4.out⟩
/-! ### The chapter's steps -/
def gs1 : Stp := ⟨1, 1, 0, 2, 0, fun _ => 1, []⟩
def gs2 : Stp := ⟨3, 6, 0, 0, 0, fun _ => 0, [0, 1]⟩
theorem built_g1 : Try.prog.built 67 [(0, .int .i64 1), (1, .int .i64 1), (3, .int .i64 2), (5, .agg (ar 64 fun _ => 1))] = some (stL (gs1, ⟨none, 0⟩)).toArray := by kernel_rfl
theorem built_g2 (A : Option Addr) : Try.prog.built 67 [(0, .int .i64 3), (1, .int .i64 6), (6, .slice A 2 2)] = some (stL (gs2, ⟨A, 2⟩)).toArray := by kernel_rfl
section
variable {ops : Array Oper} {Q : Exit → Act → World → Prop} {a : Act} {w : World} {rest : List Oper} {dst : Option Tmp} {ty : TypeId} {pos : String} {after : Array Edge} {x : Operand} {A : Option Addr}
theorem wblG1 (hx : a.eval x = .agg (ar 64 fun _ => 1)) (hk : wpList Try.prog ops Q rest (a.put dst (.agg (stL (gs1, ⟨none, 0⟩)).toArray)) w) : wpList Try.prog ops Q (⟨dst, .build 67 #[(0, .const (.int .i64 1)), (1, .const (.int .i64 1)), (3, .const (.int .i64 2)), (5, x)], ty, pos, after, none⟩ :: rest) a w := by
  have hr : (Instr.build 67 #[(0, .int .i64 1), (1, .int .i64 1), (3, .int .i64 2), (5, .agg (ar 64 fun _ => 1))]).run Try.prog w = .ok (.agg (stL (gs1, ⟨none, 0⟩)).toArray) w := run_build w _ _ _ built_g1
  have hm : (#[(0, .const (.int .i64 1)), (1, .const (.int .i64 1)), (3, .const (.int .i64 2)), (5, x)] : Array (Nat × Operand)).map (fun (i, x) => (i, a.eval x)) = #[(0, .int .i64 1), (1, .int .i64 1), (3, .int .i64 2), (5, .agg (ar 64 fun _ => 1))] := by
    simp only [List.map_toArray, List.map_cons, List.map_nil, hx]; rfl
  refine wpList_plain rfl fun K hK => ?_
  unfold Oper.wp execOp
  simp only [Sem.run_bind, hm, hr, Result.andThen_ok, Sem.run_pure]
  exact hK _ _ hk
theorem wblG2 (hx : a.eval x = .slice A 2 2) (hk : wpList Try.prog ops Q rest (a.put dst (.agg (stL (gs2, ⟨A, 2⟩)).toArray)) w) : wpList Try.prog ops Q (⟨dst, .build 67 #[(0, .const (.int .i64 3)), (1, .const (.int .i64 6)), (6, x)], ty, pos, after, none⟩ :: rest) a w := by
  have hr : (Instr.build 67 #[(0, .int .i64 3), (1, .int .i64 6), (6, .slice A 2 2)]).run Try.prog w = .ok (.agg (stL (gs2, ⟨A, 2⟩)).toArray) w := run_build w _ _ _ (built_g2 A)
  have hm : (#[(0, .const (.int .i64 3)), (1, .const (.int .i64 6)), (6, x)] : Array (Nat × Operand)).map (fun (i, x) => (i, a.eval x)) = #[(0, .int .i64 3), (1, .int .i64 6), (6, .slice A 2 2)] := by
    simp only [List.map_toArray, List.map_cons, List.map_nil, hx]; rfl
  refine wpList_plain rfl fun K hK => ?_
  unfold Oper.wp execOp
  simp only [Sem.run_bind, hm, hr, Result.andThen_ok, Sem.run_pure]
  exact hK _ _ hk
end
set_option maxHeartbeats 1000000 in
set_option maxRecDepth 100000 in
theorem given_any (w : World) : Calls Try.prog 9 #[] w fun e w' => ∃ gS gB, e = .returned (.slice (some ⟨gS, 0, none⟩) 2 2) ∧ Sli 70 stL (fun q => w.heap.size ≤ q) w' (some ⟨gS, 0, none⟩) [(gs1, ⟨none, 0⟩), (gs2, ⟨some ⟨gB, 0, none⟩, 2⟩)] 2 2 ∧
      Arg w' (some ⟨gB, 0, none⟩) [0, 1] 2 2 ∧ w.heap.size ≤ gB ∧ gS ≠ gB ∧ Below w.heap.size w w' := by
  go_enter Try.func9, Try.ntmps9
  go_wp2_with fail
  refine (full13_any 1 w).mono ?_
  rintro e w1 ⟨rfl, h1⟩
  go_wp2_with (first
    | ((with_reducible apply wblG1); rfl)
    | ((with_reducible apply wlit2 eltBy undBy (x := 0) (y := 1)); omega; rfl; rfl; rfl; rfl)
    | ((with_reducible apply wblG2); rfl)
    | ((with_reducible apply wlit2 eltStP undStP (x := (gs1, ⟨none, 0⟩)) (y := (gs2, ⟨some ⟨w1.heap.size, 0, none⟩, 2⟩))); omega; rfl; rfl; rfl; rfl))
  go_ret
  have hs := h1.size
  have b2 := h1.alloc hs (.cells (byL 0 ++ byL 1).toArray 5)
  have b3 := b2.alloc (by simp; omega) (.cells (stL (gs1, ⟨none, 0⟩) ++ stL (gs2, ⟨some ⟨w1.heap.size, 0, none⟩, 2⟩)).toArray 67)
  have l1 := sli_lit2 (S := fun q => w.heap.size ≤ q) eltBy 0 1 w1 hs
  have l2 := sli_lit2 (S := fun q => w.heap.size ≤ q) eltStP (gs1, ⟨none, 0⟩) (gs2, ⟨some ⟨w1.heap.size, 0, none⟩, 2⟩) (w1.alloc (.cells (byL 0 ++ byL 1).toArray 5)) (by simp; omega)
  refine ⟨w1.heap.size + 1, w1.heap.size, by simp, ?_, ?_, hs, by omega, b3⟩
  · have := l2
    rw [show (w1.alloc (.cells (byL 0 ++ byL 1).toArray 5)).heap.size = w1.heap.size + 1 by simp] at this
    exact this
  · exact sli_arg (l1.turn (Turn.alloc (S := fun _ => False) _ _) fun _ _ _ e => e) (by intro x hx; simp at hx; omega)
end BuP
end Go.Proofs.Ytablkaofaedpeaa
set_option maxRecDepth 100000
namespace Go.Proofs.Ytablkaofaedpeaa
open Go.ChangeShapes Go.WideShapes Go.ChangeAt Go.RowKit
attribute [local go_sem] Gives GivesE
namespace BuP
open BuM MbM MbP
theorem zip_mem {α β : Type} {l : List α} {m : List β} (h : m.length = l.length) {x : α} (hx : x ∈ l) : ∃ y, (x, y) ∈ l.zip m := by
  obtain ⟨i, hi⟩ := List.mem_iff_getElem?.1 hx
  have hl := (List.getElem?_eq_some_iff.1 hi).1
  refine ⟨m[i]'(by omega), List.mem_of_getElem? (i := i) ?_⟩
  rw [List.getElem?_zip_eq_some]
  exact ⟨hi, List.getElem?_eq_getElem (by omega)⟩
theorem undPtP : Try.prog.underlying 52 = some (.slice 23) := Try.underlying52
/-- The two members' bus. -/
def two (steps : List Stp) : Bs := BuM.new [made 4, made 4] (0, ClP.zero) steps
set_option maxHeartbeats 1000000 in
set_option maxRecDepth 100000 in
theorem two_any {repB : RepB} (hC : BusC repB) {w : World} {As : Option Addr} {ns cs : Nat} {steps : List Stp} {sl : List SlB} {S Sp : Nat → Prop} (hst : Sli 70 stL S w As (steps.zip sl) ns cs) (hsl : sl.length = steps.length) (hns : ns ≤ 1000)
    (hpk : ∀ s x, (s, x) ∈ steps.zip sl → Arg w x.A s.picks s.picks.length x.c ∧ s.picks.length ≤ 140737488351232 ∧ okS s ∧ ∀ q o, 0 < s.picks.length → x.A = some ⟨q, o, none⟩ → Sp q) (hSp : ∀ q, Sp q → q < w.heap.size) :
    Calls Try.prog 8 #[.slice As ns cs] w fun e w' => ∃ g m1 m2 F, e = .returned (.tuple #[MbP.at' g, MbP.at' m1, MbP.at' m2]) ∧ Pp repB w' g F 0 (two steps) ∧ F.gs = [m1, m2] ∧ (∀ q, mutP F q → w.heap.size ≤ q) ∧ (∀ q, rdP F q → w.heap.size ≤ q ∨ Sp q) ∧ Below w.heap.size w w' := by
  have HST := hid hst
  have HPK := hid hpk
  have HSP := hid hSp
  have hlen : ns = steps.length := by have := hst.len; rw [List.length_zip, hsl, Nat.min_self] at this; exact this.symm
  have HLN := hid hlen
  clear hst hpk hSp hlen
  unfold MbP.at'
  go_enter Try.func8, Try.ntmps8
  go_wp2_with fail
  refine (MbP.memD_ok.new 4 (by omega) (by omega) w).mono ?_
  rintro e w1 ⟨m1, M1, I1, rfl, r1, l1, b1⟩
  have R1 := hid r1
  have L1 := hid l1
  have B1 := hid b1
  clear r1 l1 b1
  unfold MbP.at'
  go_wp2_with fail
  refine (MbP.memD_ok.new 4 (by omega) (by omega) w1).mono ?_
  rintro e w2 ⟨m2, M2, I2, rfl, r2, l2, b2⟩
  have R2 := hid r2
  have L2 := hid l2
  have B2 := hid b2
  clear r2 l2 b2
  unfold MbP.at'
  go_wp2_with (with_reducible apply ClP.wblZ)
  refine (cb_new 0 ClP.zero (by unfold ClP.most; omega) w2).mono ?_
  rintro e w3 ⟨gc, Mc, rfl, rc, lc, b3⟩
  have RC := hid rc
  have LC := hid lc
  have B3 := hid b3
  clear rc lc b3
  unfold MbP.at'
  go_wp2_with ((with_reducible apply wlit2 eltPtP undPtP (x := m1) (y := m2)); omega; rfl; rfl; rfl; rfl)
  have a4 : Below w3.heap.size w3 (w3.alloc (.cells (ptL m1 ++ ptL m2).toArray 23)) := (Below.refl _ _).alloc (Nat.le_refl _) _
  have hl4 := sli_lit2 (S := fun q => True) eltPtP m1 m2 w3 trivial
  generalize World.alloc w3 _ = w4 at a4 hl4 ⊢
  have B4 := hid a4
  have HL4 := hid hl4
  have s1 := B1.out.size
  have s2 := B2.out.size
  have s3 := B3.out.size
  have s4 := a4.size
  have R1' := hid (MbP.memD_ok.frame R1.out (Turn.of_new (S := fun _ => False) ((B2.out.trans (B3.out.mono B2.out.size)).trans (a4.mono (Nat.le_trans B2.out.size B3.out.size)))) fun _ _ e => e)
  have R2' := hid (MbP.memD_ok.frame R2.out (Turn.of_new (S := fun _ => False) (B3.out.trans (a4.mono B3.out.size))) fun _ _ e => e)
  have RC' := hid (cb_turn RC.out (Turn.of_new (S := fun _ => False) a4) fun _ _ e => e)
  have BB := hid (((B1.out.trans (B2.out.mono B1.out.size)).trans (B3.out.mono (Nat.le_trans B1.out.size B2.out.size))).trans (a4.mono (Nat.le_trans B1.out.size (Nat.le_trans B2.out.size B3.out.size))))
  have X1 := hid (MbP.memD_ok.lt R1.out)
  have X2 := hid (MbP.memD_ok.lt R2.out)
  have XC := hid (cb_lt RC.out)
  clear a4 hl4
  refine (hC.new (gs := [m1, m2]) (ms := [made 4, made 4]) (k := 0) (Ms := fun i => if i = 0 then M1 else M2) (Is := fun i => if i = 0 then I1 else I2) (S := fun _ => True) (Sp := Sp) (sl := sl) HL4.out rfl (fun i gi st h1 h2 => ?_) (by omega) (by omega) RC'.out
    ((HST.out.turn (Turn.of_new (S := fun _ => False) BB.out) fun _ _ _ e => e).mono fun _ _ => trivial) hsl hns (fun s x hx => ?_)).mono ?_
  · rcases i with _ | _ | i
    · simp only [List.getElem?_cons_zero, Option.some.injEq] at h1 h2
      subst h1 h2
      exact ⟨R1'.out, by show (1 : Int) ≤ 4; omega⟩
    · simp only [List.getElem?_cons_succ, List.getElem?_cons_zero, Option.some.injEq] at h1 h2
      subst h1 h2
      exact ⟨R2'.out, by show (1 : Int) ≤ 4; omega⟩
    · simp at h1
  · obtain ⟨p1, p2, p3, p4⟩ := HPK.out s x hx
    exact ⟨p1.turn (Turn.of_new (S := fun _ => False) BB.out) fun _ _ _ _ e => e, p2, p3, p4⟩
  rintro e w5 ⟨g, Mo, Io, rfl, hsk, hmo, hio, hmi, h5⟩
  have s5 := h5.size
  have hP : Pp repB w5 g ⟨[m1, m2], fun i => if i = 0 then M1 else M2, fun i => if i = 0 then I1 else I2, gc, Mc, [((0, ClP.zero) : ClP.Held)], Mo, Io⟩ 0 (two steps) := by
    have k1 : ∀ q, M1 q ∨ I1 q → w.heap.size ≤ q ∧ q < w1.heap.size := fun q e => ⟨L1.out q e, X1.out q e⟩
    have k2 : ∀ q, M2 q ∨ I2 q → w1.heap.size ≤ q ∧ q < w2.heap.size := fun q e => ⟨L2.out q e, X2.out q e⟩
    have k3 : ∀ q, Mc q → w2.heap.size ≤ q ∧ q < w3.heap.size := fun q e => ⟨LC.out q e, XC.out q e⟩
    refine {
      skel := hsk
      len := rfl
      mem := fun i gi st h1 h2 => ?_
      ok := ⟨fun st hs => ?_, fun s hs => ?_⟩
      cel := cb_turn RC'.out (Turn.of_new (S := fun _ => False) h5) fun _ _ e => e
      olt := fun q e => ?_
      sep := fun q e e2 => ?_
      nd := fun i j q hi hj h1 h2 => ?_
      mc := fun q e => ⟨fun e2 => ?_, fun i hi e2 => ?_⟩
      mo := fun q e i hi e2 => ?_
      sz := ⟨by show 2 ≤ 64; omega, by show steps.length ≤ 1000; rw [← HLN.out]; exact hns, Nat.le_refl _, Nat.le_refl _, fun s hs => ?_⟩
      cmx := by show 0 ≤ _; omega }
    · replace h1 : [m1, m2][i]? = some gi := h1
      replace h2 : [made 4, made 4][i]? = some st := h2
      rcases i with _ | _ | i
      · simp only [List.getElem?_cons_zero, Option.some.injEq] at h1 h2
        subst h1 h2
        exact MbP.memD_ok.frame R1'.out (Turn.of_new (S := fun _ => False) h5) fun _ _ e => e
      · simp only [List.getElem?_cons_succ, List.getElem?_cons_zero, Option.some.injEq] at h1 h2
        subst h1 h2
        exact MbP.memD_ok.frame R2'.out (Turn.of_new (S := fun _ => False) h5) fun _ _ e => e
      · simp at h1
    · have : st = made 4 := by
        have : st ∈ [made 4, made 4] := hs
        simpa using this
      rw [this]; exact made_ok 4
    · obtain ⟨x, hx⟩ := zip_mem hsl hs
      exact (HPK.out s x hx).2.2.1
    · rcases e with e | e
      · exact (hmi q e).1
      · rcases hio q e with x | x
        · exact x.2
        · have := HSP.out q x; omega
    · have e2' : Mo q ∨ Mc q ∨ M1 q ∨ M2 q := by
        rcases e2 with e2 | e2 | ⟨i, hi, e2⟩
        · exact .inl e2
        · exact .inr (.inl e2)
        · replace e2 : (if i = 0 then M1 else M2) q := e2
          by_cases h0 : i = 0
          · rw [if_pos h0] at e2; exact .inr (.inr (.inl e2))
          · rw [if_neg h0] at e2; exact .inr (.inr (.inr e2))
      have e' : Io q ∨ I1 q ∨ I2 q := by
        rcases e with e | ⟨i, hi, e⟩
        · exact .inl e
        · replace e : (if i = 0 then I1 else I2) q := e
          by_cases h0 : i = 0
          · rw [if_pos h0] at e; exact .inr (.inl e)
          · rw [if_neg h0] at e; exact .inr (.inr e)
      rcases e' with e' | e' | e'
      · have hq : w4.heap.size ≤ q ∨ q < w.heap.size := (hio q e').imp (fun x => x.1) (HSP.out q)
        rcases e2' with x | x | x | x
        · exact (hmi q x).2 e'
        · have := k3 q x; omega
        · have := k1 q (.inl x); omega
        · have := k2 q (.inl x); omega
      · have y := k1 q (.inr e')
        rcases e2' with x | x | x | x
        · have := hmo q x; omega
        · have := k3 q x; omega
        · exact MbP.memD_ok.own R1.out q x e'
        · have := k2 q (.inl x); omega
      · have y := k2 q (.inr e')
        rcases e2' with x | x | x | x
        · have := hmo q x; omega
        · have := k3 q x; omega
        · have := k1 q (.inl x); omega
        · exact MbP.memD_ok.own R2.out q x e'
    · replace h1 : (if i = 0 then M1 else M2) q := h1
      replace h2 : (if j = 0 then M1 else M2) q := h2
      replace hi : i < 2 := hi
      replace hj : j < 2 := hj
      by_cases hi0 : i = 0
      · by_cases hj0 : j = 0
        · omega
        · rw [if_pos hi0] at h1; rw [if_neg hj0] at h2
          have := k1 q (.inl h1); have := k2 q (.inl h2); omega
      · by_cases hj0 : j = 0
        · rw [if_neg hi0] at h1; rw [if_pos hj0] at h2
          have := k2 q (.inl h1); have := k1 q (.inl h2); omega
        · omega
    · have := k3 q e; have := hmo q e2; omega
    · replace e2 : (if i = 0 then M1 else M2) q := e2
      have := k3 q e
      by_cases h0 : i = 0
      · rw [if_pos h0] at e2; have := k1 q (.inl e2); omega
      · rw [if_neg h0] at e2; have := k2 q (.inl e2); omega
    · replace e2 : (if i = 0 then M1 else M2) q := e2
      have := hmo q e
      by_cases h0 : i = 0
      · rw [if_pos h0] at e2; have := k1 q (.inl e2); omega
      · rw [if_neg h0] at e2; have := k2 q (.inl e2); omega
    · obtain ⟨x, hx⟩ := zip_mem hsl hs
      exact (HPK.out s x hx).2.1
  have hm : ∀ q, mutP ⟨[m1, m2], fun i => if i = 0 then M1 else M2, fun i => if i = 0 then I1 else I2, gc, Mc, [((0, ClP.zero) : ClP.Held)], Mo, Io⟩ q → w.heap.size ≤ q := fun q e => by
    rcases e with e | e | ⟨i, hi, e⟩
    · have := hmo q e; omega
    · have := LC.out q e; omega
    · replace e : (if i = 0 then M1 else M2) q := e
      by_cases h0 : i = 0
      · rw [if_pos h0] at e; exact L1.out q (.inl e)
      · rw [if_neg h0] at e; have := L2.out q (.inl e); omega
  have hr : ∀ q, rdP ⟨[m1, m2], fun i => if i = 0 then M1 else M2, fun i => if i = 0 then I1 else I2, gc, Mc, [((0, ClP.zero) : ClP.Held)], Mo, Io⟩ q → w.heap.size ≤ q ∨ Sp q := fun q e => by
    rcases e with e | ⟨i, hi, e⟩
    · rcases hio q e with x | x
      · left; omega
      · exact .inr x
    · left
      replace e : (if i = 0 then I1 else I2) q := e
      by_cases h0 : i = 0
      · rw [if_pos h0] at e; exact L1.out q (.inr e)
      · rw [if_neg h0] at e; have := L2.out q (.inr e); omega
  have B5 := hid (BB.out.trans (h5.mono BB.out.size))
  have HP := hid hP
  have HM := hid hm
  have HR := hid hr
  clear hP hm hr hsk hmo hio hmi h5 HST HPK HSP R1 R2 RC R1' R2' RC' L1 L2 LC X1 X2 XC B1 B2 B3 B4 HL4 BB s1 s2 s3 s4 s5
  unfold MbP.at'
  go_wp2_with fail
  refine bodyPost_ret (results_tmp3 rfl _ _ _) rfl ?_
  exact ⟨g, m1, m2, _, rfl, HP.out, rfl, HM.out, HR.out, B5.out⟩
end BuP
end Go.Proofs.Ytablkaofaedpeaa
set_option maxRecDepth 100000
namespace Go.Proofs.Ytablkaofaedpeaa
namespace BuP
open BuM MbM
def f1 : Nat → Nat := fun _ => 1
def aw0 : Bs := two [gs1, gs2]
def aw1 : Bs := BuM.rdT aw0 0 2
def aw2 : Bs := BuM.rdT aw1 0 2
def aw3 : Bs := BuM.wrT aw2 1 0 f1
def aw4 : Bs := BuM.wrT aw3 1 1 f1
theorem aw_r1 : (BuM.rdB (BuM.ahead aw0) 0 2).s = (fun _ => 0) ∧ (BuM.rdB (BuM.ahead aw0) 0 2).e = 0 := ⟨rfl, rfl⟩
theorem aw_r2 : (BuM.rdB (BuM.ahead aw1) 0 2).s = f1 ∧ (BuM.rdB (BuM.ahead aw1) 0 2).e = 0 := ⟨rfl, rfl⟩
theorem aw_w3 : (BuM.wrB (BuM.ahead aw2) 1 0 f1).e = 0 := rfl
theorem aw_w4 : (BuM.wrB (BuM.ahead aw3) 1 1 f1).e = 13 := rfl
theorem aw_off : aw4.off = true ∧ aw4.log.length = 4 := ⟨rfl, rfl⟩
theorem aw_hurt : (aw2.ms[0]?.map (·.hurt)) = some true ∧ (aw3.ms[0]?.map (·.hurt)) = some true ∧ (aw4.ms[0]?.map (·.hurt)) = some true := ⟨rfl, rfl, rfl⟩
theorem aw_steps : aw0.steps.length = 2 ∧ aw1.steps.length = 2 ∧ aw2.steps.length = 2 ∧ aw3.steps.length = 2 ∧ aw4.steps.length = 2 := ⟨rfl, rfl, rfl, rfl, rfl⟩
end BuP
end Go.Proofs.Ytablkaofaedpeaa
set_option maxRecDepth 100000
namespace Go.Proofs.Ytablkaofaedpeaa
open Go.ChangeShapes Go.WideShapes Go.ChangeAt Go.RowKit
attribute [local go_sem] Gives GivesE
namespace BuP
open BuM MbM MbP
section
variable {a : Act} {w : World} {dst : Option Tmp} {ty T : TypeId} {r : TypeId} {pos : String} {after : Array Edge} {gd : Option (Nat × Bool)} {R : Value → World → Prop} {x y : Operand} {v : Value} {f : Nat → Nat}
theorem gE_bld0 (hb : ∀ w, (Instr.build T #[]).run Try.prog w = .ok v w) (hR : R v w) : GivesE Try.prog ⟨dst, .build T #[], ty, pos, after, gd⟩ a w R := by
  unfold GivesE execOp
  simp [hb, Result.andThen]
  exact hR
theorem gE_eqSe (hx : a.eval x = .agg (ar 64 f)) (hy : a.eval y = .agg (ar 64 f)) (hR : R (.bool true) w) : GivesE Try.prog ⟨dst, .binOp .eql 30 x y r, ty, pos, after, gd⟩ a w R := by
  have h1 : (eqGuard .eql 30 x y (.agg (ar 64 f)) (.agg (ar 64 f))).run Try.prog w = .ok () w := by
    simp [eqGuard, gSe', go_sem]
  have h2 : (binOp .eql 30 (.agg (ar 64 f)) (.agg (ar 64 f))).run Try.prog w = .ok (.bool (eqA 64 f f)) w := run_eql_ar uSe' _ _ _
  rw [eqA_yes fun _ _ => rfl] at h2
  unfold GivesE
  simp only [execOp, hx, hy, Sem.run_bind, h1, h2, Result.andThen_ok, Sem.run_pure]
  exact hR
theorem run_se0 (w : World) : (Instr.build 30 #[]).run Try.prog w = .ok (.agg (ar 64 fun _ => 0)) w := run_build w _ _ _ (by kernel_rfl)
end
/-- A bus of two members in the midst of awake, and the two sectors that were read. -/
structure AwS (repB : RepB) (B : Nat) (W : World) (g m1 m2 gX gY k : Nat) (b : Bs) (w' : World) : Prop where
  pp : ∃ F', Pp repB w' g F' k b ∧ F'.gs = [m1, m2] ∧ ∀ q, mutP F' q → B ≤ q ∧ q ≠ gX ∧ q ≠ gY
  bel : Below B W w'
  base : B ≤ w'.heap.size
  x : Blk w' gX 30 (ar 64 fun _ => 0)
  y : Blk w' gY 30 (ar 64 f1)
def stB (a c : Bool) : Bs := if c then aw4 else if a then aw3 else aw2
def stK (a c : Bool) : Nat := if c then 16 else if a then 12 else 8
section
variable {repB : RepB} {B : Nat} {W w' w2 : World} {g m1 m2 gX gY k k2 : Nat} {b b2 : Bs}
theorem AwS.on (hC : BusC repB) (H : AwS repB B W g m1 m2 gX gY k b w') (hb : Below w'.heap.size w' w2) : AwS repB B W g m1 m2 gX gY k b w2 := by
  obtain ⟨F', h1, h2, h3⟩ := H.pp
  exact ⟨⟨F', h1.below hC hb, h2, h3⟩, H.bel.trans (hb.mono H.base), Nat.le_trans H.base hb.size, H.x.below hb H.x.lt, H.y.below hb H.y.lt⟩
theorem AwS.io {F' : Fq} (H : AwS repB B W g m1 m2 gX gY k b w') (h2 : F'.gs = [m1, m2]) (h3 : ∀ q, mutP F' q → B ≤ q ∧ q ≠ gX ∧ q ≠ gY) (ho : outQ repB w' g F' k2 b2 w2) : AwS repB B W g m1 m2 gX gY k2 b2 w2 := by
  obtain ⟨F2, p, e1, e2, mm, ii, t⟩ := ho
  refine ⟨⟨F2, p, e1.trans h2, fun q e => ?_⟩, H.bel.trans (t.below H.base fun q e => (h3 q e).1), Nat.le_trans H.base t.size, H.x.turn t fun e => (h3 gX e).2.1 rfl, H.y.turn t fun e => (h3 gY e).2.2 rfl⟩
  rcases mm q e with x | x
  · exact h3 q x
  · have := H.x.lt; have := H.y.lt; have := H.base
    exact ⟨by omega, by omega, by omega⟩
theorem AwS.touched (H : AwS repB B W g m1 m2 gX gY k b w') (hb : (b.ms[0]?.map (·.hurt)) = some true) : Calls Try.prog 31 #[MbP.at' m1] w' fun e w2 => e = .returned (.bool true) ∧ Below w'.heap.size w' w2 := by
  obtain ⟨F', h1, h2, h3⟩ := H.pp
  cases h : b.ms[0]? with
  | none => rw [h] at hb; cases hb
  | some st =>
    rw [h] at hb
    have hh : st.hurt = true := by simpa using hb
    have := MbP.memD_ok.touched (h1.mem 0 m1 st (by rw [h2]; rfl) h)
    rw [hh] at this
    exact this
end
set_option maxHeartbeats 4000000 in
set_option maxRecDepth 100000 in
theorem awake_any {repB : RepB} (hC : BusC repB) (w : World) : Calls Try.prog 10 #[] w fun e w' => e = .returned (.bool true) ∧ Below w.heap.size w w' := by
  have hC0 := hid hC
  go_enter Try.func10, Try.ntmps10
  go_wp2_with fail
  refine (given_any w).mono ?_
  rintro e w1 ⟨gS, gB, rfl, hs, hp, hgB, hne, h1⟩
  have HS := hid hs
  have HP := hid hp
  have B1 := hid h1
  clear hs hp h1
  go_wp2_with fail
  refine (two_any hC (steps := [gs1, gs2]) (sl := [⟨none, 0⟩, ⟨some ⟨gB, 0, none⟩, 2⟩]) (Sp := fun q => q = gB) HS.out rfl (by omega) (fun s x hx => ?_) (fun q e => ?_)).mono ?_
  · have hx' : (s, x) = (gs1, (⟨none, 0⟩ : SlB)) ∨ (s, x) = (gs2, (⟨some ⟨gB, 0, none⟩, 2⟩ : SlB)) := by simpa using hx
    rcases hx' with hx' | hx'
    · cases hx'
      exact ⟨⟨rfl, Nat.le_refl _, Nat.zero_le _, (fun x hx => by cases hx), fun _ => ⟨rfl, rfl⟩, Byt.none rfl⟩, by show 0 ≤ _; omega, ⟨fun _ => by show 1 < 256; omega, fun p hp => by cases hp⟩, fun q o h0 _ => by cases h0⟩
    · cases hx'
      exact ⟨HP.out, by show 2 ≤ _; omega, ⟨fun _ => by show 0 < 256; omega, fun p hp => (by have h9 : p = 0 ∨ p = 1 := (by simpa [gs2] using hp); omega)⟩, fun q o _ e => by cases e; rfl⟩
  · obtain ⟨b, o, e', hl, _⟩ := HP.out.byt (by show 0 < 2; omega)
    cases e'
    rw [e]; exact hl
  rintro e w2 ⟨g, m1, m2, F, rfl, hP, hgs, hm, _, h2⟩
  have PP := hid hP
  have HM := hid hm
  have B2 := hid (B1.out.trans (h2.mono B1.out.size))
  have s1 := B1.out.size
  clear hP hm h2 HS HP
  unfold MbP.at'
  go_wp2_with fail
  refine (hC.read (b := aw0) PP.out (by show 0 + 2 + 2 ≤ _; omega) 0 2).mono ?_
  rintro e w3 ⟨rfl, ho⟩
  rw [aw_r1.1, aw_r1.2]
  obtain ⟨F3, p3, g3, c3, mm3, ii3, t3⟩ := ho
  have P3 := hid (show Pp repB w3 g F3 4 aw1 from p3)
  have M3 := hid (show ∀ q, mutP F3 q → w.heap.size ≤ q from fun q e => (mm3 q e).elim (fun x => by have := HM.out q x; omega) fun x => by have := B2.out.size; omega)
  have B3 := hid (B2.out.trans (t3.below B2.out.size fun q e => by have := HM.out q e; omega))
  have G3 := hid (show F3.gs = [m1, m2] from g3.trans hgs)
  clear p3 g3 c3 mm3 ii3 t3 PP HM hgs
  go_upto_region 5 with (first | (with_reducible apply alA tSe) | ((with_reducible apply stA tSe); rfl; rfl; exact Blk.new _ _ _))
  generalize hw4 : World.setRow _ _ _ = w4
  have b4 : Below w3.heap.size w3 w4 := by rw [← hw4]; exact below_setRow ((Below.refl _ _).alloc (Nat.le_refl _) _) (Nat.le_refl _) _
  have X4 := hid (show Blk w4 w3.heap.size 30 (ar 64 fun _ => 0) by rw [← hw4]; exact (Blk.new w3 _ _).setRow_same _)
  obtain ⟨gX, hgX⟩ : ∃ n, n = w3.heap.size := ⟨_, rfl⟩
  have N3 := hid (show ∀ q, mutP F3 q → q ≠ gX from fun q e => by have := P3.out.mlt q e; omega)
  rw [← hgX] at X4 ⊢
  have P4 := hid (P3.out.below hC b4)
  have B4 := hid (B3.out.trans (b4.mono B3.out.size))
  clear hw4 b4 hgX P3 B3
  go_wp2_with fail
  refine (hC.read (b := aw1) P4.out (by show 4 + 2 + 2 ≤ _; omega) 0 2).mono ?_
  rintro e w5 ⟨rfl, ho⟩
  rw [aw_r2.1, aw_r2.2]
  obtain ⟨F5, p5, g5, c5, mm5, ii5, t5⟩ := ho
  have P5 := hid (show Pp repB w5 g F5 8 aw2 from p5)
  have X5 := hid (X4.out.turn t5 fun e => N3.out gX e rfl)
  have M5 := hid (show ∀ q, mutP F5 q → w.heap.size ≤ q ∧ q ≠ gX from fun q e => (mm5 q e).elim (fun x => ⟨M3.out q x, N3.out q x⟩) fun x => by have := B4.out.size; have := X4.out.lt; exact ⟨by omega, by omega⟩)
  have B5 := hid (B4.out.trans (t5.below B4.out.size fun q e => M3.out q e))
  have G5 := hid (show F5.gs = [m1, m2] from g5.trans G3.out)
  clear p5 g5 c5 mm5 ii5 t5 P4 X4 M3 N3 G3 B4
  go_upto_region 6 with (first | (with_reducible apply alA tSe) | ((with_reducible apply stA tSe); rfl; rfl; exact Blk.new _ _ _))
  generalize hw6 : World.setRow _ _ _ = w6
  have b6 : Below w5.heap.size w5 w6 := by rw [← hw6]; exact below_setRow ((Below.refl _ _).alloc (Nat.le_refl _) _) (Nat.le_refl _) _
  have y6 : Blk w6 w5.heap.size 30 (ar 64 f1) := by rw [← hw6]; exact (Blk.new w5 _ _).setRow_same _
  obtain ⟨gY, hgY⟩ : ∃ n, n = w5.heap.size := ⟨_, rfl⟩
  have N5 : ∀ q, mutP F5 q → q ≠ gY := fun q e => by have := P5.out.mlt q e; omega
  rw [← hgY] at y6 ⊢
  have SS : AwS repB w.heap.size w g m1 m2 gX gY (stK false false) (stB false false) w6.drew := by
    have h0 : AwS repB w.heap.size w g m1 m2 gX gY 8 aw2 w6 := ⟨⟨F5, P5.out.below hC b6, G5.out, fun q e => ⟨(M5.out q e).1, (M5.out q e).2, N5 q e⟩⟩, B5.out.trans (b6.mono B5.out.size), Nat.le_trans B5.out.size b6.size, X5.out.below b6 X5.out.lt, y6⟩
    exact h0.on hC (Below.refl _ _).drew
  clear hw6 b6 y6 hgY N5 P5 X5 M5 B5 G5
  rw [show f1 = (fun _ => 1 : Nat → Nat) from rfl]
  refine wp_region_d (S := yS [some (.agg (ar 64 fun _ => 0)), some (.agg (ar 64 fun _ => 0)), some (.bool true), some (.bool true), some (.int .i64 0), some (.bool true), some (.bool true), some (.bool true), some (.agg (ar 64 fun _ => 1)), some (.agg (ar 64 fun _ => 1)), some (.bool true), some (.bool true), some (.bool true), some (.int .i64 0), some (.bool true), some (.bool true), some (.bool true), some (.pointer (some ⟨m1, 0, none⟩)), some (.bool true), some (.bool true), some (.bool true), some (.pointer (some ⟨g, 0, none⟩)), some (.agg (ar 64 fun _ => 1)), some (.int .i64 0), some (.bool true), some (.bool true), some (.bool true), some (.pointer (some ⟨g, 0, none⟩)), some (.agg (ar 64 fun _ => 1)), some (.int .i64 13), some (.bool true), some (.bool true), some (.bool true), some (.pointer (some ⟨g, 0, none⟩)), some (.bool true), some (.bool true), some (.bool true), some (.pointer (some ⟨g, 0, none⟩)), some (.int .i64 4), some (.bool true), some (.bool true)] []) (C := fun d vs w' => AwS repB w.heap.size w g m1 m2 gX gY (stK (d 23) (d 29)) (stB (d 23) (d 29)) w') 41 (by kernel_rfl) (by kernel_rfl) (by kernel_rfl) _
    (yS_ok _ fun y hy => by cases hy) SS fun vs => ?_
  clear SS
  simp only [List.take_succ_cons, List.take_zero, List.drop_succ_cons, List.drop_zero]
  refine ⟨.inl ⟨rfl, fun dd w' hd hcl hnx hw hC => ?_⟩, fun e => ?_⟩
  · exact gE_ldA tSe rfl hC.x.head ⟨rfl, hC⟩
  have e' : vs 0 = _ := e
  rw [e']
  clear e e'
  simp only [Act.put, List.setIfInBounds_toArray, List.set_cons_succ, List.set_cons_zero]
  refine ⟨.inl ⟨rfl, fun dd w' hd hcl hnx hw hC => ?_⟩, fun e => ?_⟩
  · exact gE_bld0 run_se0 ⟨rfl, hC⟩
  have e' : vs 1 = _ := e
  rw [e']
  clear e e'
  simp only [Act.put, List.setIfInBounds_toArray, List.set_cons_succ, List.set_cons_zero]
  refine ⟨.inl ⟨rfl, fun dd w' hd hcl hnx hw hC => ?_⟩, fun e => ?_⟩
  · exact gE_eqSe rfl rfl ⟨rfl, hC⟩
  have e' : vs 2 = _ := e
  rw [e']
  clear e e'
  simp only [Act.put, List.setIfInBounds_toArray, List.set_cons_succ, List.set_cons_zero]
  refine ⟨.inl ⟨rfl, fun dd w' hd hcl hnx hw hC => ?_⟩, fun e => ?_⟩
  · go_simp
    first | exact ⟨rfl, hC⟩ | exact hC
  have e' : vs 3 = _ := e
  rw [e']
  clear e e'
  simp only [Act.put, List.setIfInBounds_toArray, List.set_cons_succ, List.set_cons_zero]
  refine ⟨.inl ⟨rfl, fun dd w' hd hcl hnx hw hC => ?_⟩, fun e => ?_⟩
  · go_simp
    first | exact ⟨rfl, hC⟩ | exact hC
  have e' : vs 4 = _ := e
  rw [e']
  clear e e'
  simp only [Act.put, List.setIfInBounds_toArray, List.set_cons_succ, List.set_cons_zero]
  refine ⟨.inl ⟨rfl, fun dd w' hd hcl hnx hw hC => ?_⟩, fun e => ?_⟩
  · go_simp
    first | exact ⟨rfl, hC⟩ | exact hC
  have e' : vs 5 = _ := e
  rw [e']
  clear e e'
  simp only [Act.put, List.setIfInBounds_toArray, List.set_cons_succ, List.set_cons_zero]
  refine ⟨.inl ⟨rfl, fun dd w' hd hcl hnx hw hC => ?_⟩, fun e => ?_⟩
  · go_simp
    first | exact ⟨rfl, hC⟩ | exact hC
  have e' : vs 6 = _ := e
  rw [e']
  clear e e'
  simp only [Act.put, List.setIfInBounds_toArray, List.set_cons_succ, List.set_cons_zero]
  refine ⟨.inl ⟨rfl, fun dd w' hd hcl hnx hw hC => ?_⟩, fun e => ?_⟩
  · go_simp
    first | exact ⟨rfl, hC⟩ | exact hC
  have e' : vs 7 = _ := e
  rw [e']
  clear e e'
  simp only [Act.put, List.setIfInBounds_toArray, List.set_cons_succ, List.set_cons_zero]
  refine ⟨.inl ⟨rfl, fun dd w' hd hcl hnx hw hC => ?_⟩, fun e => ?_⟩
  · exact gE_ldA tSe rfl hC.y.head ⟨rfl, hC⟩
  have e' : vs 8 = _ := e
  rw [e']
  clear e e'
  simp only [Act.put, List.setIfInBounds_toArray, List.set_cons_succ, List.set_cons_zero]
  refine ⟨.inl ⟨rfl, fun dd w' hd hcl hnx hw hC => ?_⟩, fun e => ?_⟩
  · go_simp
    refine (full13_any 1 w').mono ?_
    rintro e w2 ⟨rfl, h⟩
    exact ⟨_, rfl, rfl, hC.on hC0.out h⟩
  have e' : vs 9 = _ := e
  rw [e']
  clear e e'
  simp only [Act.put, List.setIfInBounds_toArray, List.set_cons_succ, List.set_cons_zero]
  refine ⟨.inl ⟨rfl, fun dd w' hd hcl hnx hw hC => ?_⟩, fun e => ?_⟩
  · exact gE_eqSe rfl rfl ⟨rfl, hC⟩
  have e' : vs 10 = _ := e
  rw [e']
  clear e e'
  simp only [Act.put, List.setIfInBounds_toArray, List.set_cons_succ, List.set_cons_zero]
  refine ⟨.inl ⟨rfl, fun dd w' hd hcl hnx hw hC => ?_⟩, fun e => ?_⟩
  · go_simp
    first | exact ⟨rfl, hC⟩ | exact hC
  have e' : vs 11 = _ := e
  rw [e']
  clear e e'
  simp only [Act.put, List.setIfInBounds_toArray, List.set_cons_succ, List.set_cons_zero]
  refine ⟨.inl ⟨rfl, fun dd w' hd hcl hnx hw hC => ?_⟩, fun e => ?_⟩
  · go_simp
    first | exact ⟨rfl, hC⟩ | exact hC
  have e' : vs 12 = _ := e
  rw [e']
  clear e e'
  simp only [Act.put, List.setIfInBounds_toArray, List.set_cons_succ, List.set_cons_zero]
  refine ⟨.inl ⟨rfl, fun dd w' hd hcl hnx hw hC => ?_⟩, fun e => ?_⟩
  · go_simp
    first | exact ⟨rfl, hC⟩ | exact hC
  have e' : vs 13 = _ := e
  rw [e']
  clear e e'
  simp only [Act.put, List.setIfInBounds_toArray, List.set_cons_succ, List.set_cons_zero]
  refine ⟨.inl ⟨rfl, fun dd w' hd hcl hnx hw hC => ?_⟩, fun e => ?_⟩
  · go_simp
    first | exact ⟨rfl, hC⟩ | exact hC
  have e' : vs 14 = _ := e
  rw [e']
  clear e e'
  simp only [Act.put, List.setIfInBounds_toArray, List.set_cons_succ, List.set_cons_zero]
  refine ⟨.inl ⟨rfl, fun dd w' hd hcl hnx hw hC => ?_⟩, fun e => ?_⟩
  · go_simp
    first | exact ⟨rfl, hC⟩ | exact hC
  have e' : vs 15 = _ := e
  rw [e']
  clear e e'
  simp only [Act.put, List.setIfInBounds_toArray, List.set_cons_succ, List.set_cons_zero]
  refine ⟨.inl ⟨rfl, fun dd w' hd hcl hnx hw hC => ?_⟩, fun e => ?_⟩
  · go_simp
    first | exact ⟨rfl, hC⟩ | exact hC
  have e' : vs 16 = _ := e
  rw [e']
  clear e e'
  simp only [Act.put, List.setIfInBounds_toArray, List.set_cons_succ, List.set_cons_zero]
  refine ⟨.inl ⟨rfl, fun dd w' hd hcl hnx hw hC => ?_⟩, fun e => ?_⟩
  · go_simp
    first | exact ⟨rfl, hC⟩ | exact hC
  have e' : vs 17 = _ := e
  rw [e']
  clear e e'
  simp only [Act.put, List.setIfInBounds_toArray, List.set_cons_succ, List.set_cons_zero]
  refine ⟨.inl ⟨rfl, fun dd w' hd hcl hnx hw hC => ?_⟩, fun e => ?_⟩
  · go_simp
    refine (AwS.touched hC (by cases dd 23 <;> cases dd 29 <;> rfl)).mono ?_
    rintro e w2 ⟨rfl, h⟩
    exact ⟨_, rfl, rfl, hC.on hC0.out h⟩
  have e' : vs 18 = _ := e
  rw [e']
  clear e e'
  simp only [Act.put, List.setIfInBounds_toArray, List.set_cons_succ, List.set_cons_zero]
  refine ⟨.inl ⟨rfl, fun dd w' hd hcl hnx hw hC => ?_⟩, fun e => ?_⟩
  · go_simp
    first | exact ⟨rfl, hC⟩ | exact hC
  have e' : vs 19 = _ := e
  rw [e']
  clear e e'
  simp only [Act.put, List.setIfInBounds_toArray, List.set_cons_succ, List.set_cons_zero]
  refine ⟨.inl ⟨rfl, fun dd w' hd hcl hnx hw hC => ?_⟩, fun e => ?_⟩
  · go_simp
    first | exact ⟨rfl, hC⟩ | exact hC
  have e' : vs 20 = _ := e
  rw [e']
  clear e e'
  simp only [Act.put, List.setIfInBounds_toArray, List.set_cons_succ, List.set_cons_zero]
  refine ⟨.inl ⟨rfl, fun dd w' hd hcl hnx hw hC => ?_⟩, fun e => ?_⟩
  · go_simp
    first | exact ⟨rfl, hC⟩ | exact hC
  have e' : vs 21 = _ := e
  rw [e']
  clear e e'
  simp only [Act.put, List.setIfInBounds_toArray, List.set_cons_succ, List.set_cons_zero]
  refine ⟨.inl ⟨rfl, fun dd w' hd hcl hnx hw hC => ?_⟩, fun e => ?_⟩
  · go_simp
    refine (full13_any 1 w').mono ?_
    rintro e w2 ⟨rfl, h⟩
    exact ⟨_, rfl, rfl, hC.on hC0.out h⟩
  have e' : vs 22 = _ := e
  rw [e']
  clear e e'
  simp only [Act.put, List.setIfInBounds_toArray, List.set_cons_succ, List.set_cons_zero]
  refine ⟨.inl ⟨rfl, fun dd w' hd hcl hnx hw hC => ?_⟩, fun e => ?_⟩
  · have h29' : dd 29 = false := by
      cases h29 : dd 29 with
      | false => rfl
      | true =>
        have h26 : dd 26 = true := hcl 29 26 (by kernel_rfl) h29
        have h25 : dd 25 = true := hcl 26 25 (by kernel_rfl) h26
        have h24 : dd 24 = true := hcl 25 24 (by kernel_rfl) h25
        have h23 : dd 23 = true := hcl 24 23 (by kernel_rfl) h24
        rw [show dd 23 = false from hd] at h23; cases h23
    have hc : AwS repB w.heap.size w g m1 m2 gX gY (stK (dd 23) (dd 29)) (stB (dd 23) (dd 29)) w' := hC
    rw [show dd 23 = false from hd, h29'] at hc
    obtain ⟨F', p1, p2, p3⟩ := hc.pp
    go_simp
    refine (hC0.out.write (b := aw2) p1 (by show 8 + 2 + 2 ≤ _; omega) 1 0 f1 (fun _ => by show 1 < 256; omega)).mono ?_
    rintro e w2 ⟨rfl, ho⟩
    have hq := hc.io (k2 := 12) (b2 := aw3) p2 p3 ho
    refine ⟨_, rfl, rfl, ?_⟩
    show AwS repB w.heap.size w g m1 m2 gX gY (stK true (dd 29)) (stB true (dd 29)) w2
    rw [h29']; exact hq
  have e' : vs 23 = _ := e
  rw [e']
  clear e e'
  simp only [Act.put, List.setIfInBounds_toArray, List.set_cons_succ, List.set_cons_zero]
  refine ⟨.inl ⟨rfl, fun dd w' hd hcl hnx hw hC => ?_⟩, fun e => ?_⟩
  · go_simp
    first | exact ⟨rfl, hC⟩ | exact hC
  have e' : vs 24 = _ := e
  rw [e']
  clear e e'
  simp only [Act.put, List.setIfInBounds_toArray, List.set_cons_succ, List.set_cons_zero]
  refine ⟨.inl ⟨rfl, fun dd w' hd hcl hnx hw hC => ?_⟩, fun e => ?_⟩
  · go_simp
    first | exact ⟨rfl, hC⟩ | exact hC
  have e' : vs 25 = _ := e
  rw [e']
  clear e e'
  simp only [Act.put, List.setIfInBounds_toArray, List.set_cons_succ, List.set_cons_zero]
  refine ⟨.inl ⟨rfl, fun dd w' hd hcl hnx hw hC => ?_⟩, fun e => ?_⟩
  · go_simp
    first | exact ⟨rfl, hC⟩ | exact hC
  have e' : vs 26 = _ := e
  rw [e']
  clear e e'
  simp only [Act.put, List.setIfInBounds_toArray, List.set_cons_succ, List.set_cons_zero]
  refine ⟨.inl ⟨rfl, fun dd w' hd hcl hnx hw hC => ?_⟩, fun e => ?_⟩
  · go_simp
    first | exact ⟨rfl, hC⟩ | exact hC
  have e' : vs 27 = _ := e
  rw [e']
  clear e e'
  simp only [Act.put, List.setIfInBounds_toArray, List.set_cons_succ, List.set_cons_zero]
  refine ⟨.inl ⟨rfl, fun dd w' hd hcl hnx hw hC => ?_⟩, fun e => ?_⟩
  · go_simp
    refine (full13_any 1 w').mono ?_
    rintro e w2 ⟨rfl, h⟩
    exact ⟨_, rfl, rfl, hC.on hC0.out h⟩
  have e' : vs 28 = _ := e
  rw [e']
  clear e e'
  simp only [Act.put, List.setIfInBounds_toArray, List.set_cons_succ, List.set_cons_zero]
  refine ⟨.inl ⟨rfl, fun dd w' hd hcl hnx hw hC => ?_⟩, fun e => ?_⟩
  · have h26 : dd 26 = true := hw 26 (by kernel_rfl)
    have h25 : dd 25 = true := hcl 26 25 (by kernel_rfl) h26
    have h24 : dd 24 = true := hcl 25 24 (by kernel_rfl) h25
    have h23 : dd 23 = true := hcl 24 23 (by kernel_rfl) h24
    have hc : AwS repB w.heap.size w g m1 m2 gX gY (stK (dd 23) (dd 29)) (stB (dd 23) (dd 29)) w' := hC
    rw [show dd 29 = false from hd, h23] at hc
    obtain ⟨F', p1, p2, p3⟩ := hc.pp
    go_simp
    refine (hC0.out.write (b := aw3) p1 (by show 12 + 2 + 2 ≤ _; omega) 1 1 f1 (fun _ => by show 1 < 256; omega)).mono ?_
    rintro e w2 ⟨rfl, ho⟩
    have hq := hc.io (k2 := 16) (b2 := aw4) p2 p3 ho
    refine ⟨_, rfl, rfl, ?_⟩
    exact hq
  have e' : vs 29 = _ := e
  rw [e']
  clear e e'
  simp only [Act.put, List.setIfInBounds_toArray, List.set_cons_succ, List.set_cons_zero]
  refine ⟨.inl ⟨rfl, fun dd w' hd hcl hnx hw hC => ?_⟩, fun e => ?_⟩
  · go_simp
    first | exact ⟨rfl, hC⟩ | exact hC
  have e' : vs 30 = _ := e
  rw [e']
  clear e e'
  simp only [Act.put, List.setIfInBounds_toArray, List.set_cons_succ, List.set_cons_zero]
  refine ⟨.inl ⟨rfl, fun dd w' hd hcl hnx hw hC => ?_⟩, fun e => ?_⟩
  · go_simp
    first | exact ⟨rfl, hC⟩ | exact hC
  have e' : vs 31 = _ := e
  rw [e']
  clear e e'
  simp only [Act.put, List.setIfInBounds_toArray, List.set_cons_succ, List.set_cons_zero]
  refine ⟨.inl ⟨rfl, fun dd w' hd hcl hnx hw hC => ?_⟩, fun e => ?_⟩
  · go_simp
    first | exact ⟨rfl, hC⟩ | exact hC
  have e' : vs 32 = _ := e
  rw [e']
  clear e e'
  simp only [Act.put, List.setIfInBounds_toArray, List.set_cons_succ, List.set_cons_zero]
  refine ⟨.inl ⟨rfl, fun dd w' hd hcl hnx hw hC => ?_⟩, fun e => ?_⟩
  · go_simp
    first | exact ⟨rfl, hC⟩ | exact hC
  have e' : vs 33 = _ := e
  rw [e']
  clear e e'
  simp only [Act.put, List.setIfInBounds_toArray, List.set_cons_succ, List.set_cons_zero]
  refine ⟨.inl ⟨rfl, fun dd w' hd hcl hnx hw hC => ?_⟩, fun e => ?_⟩
  · have h32 : dd 32 = true := hw 32 (by kernel_rfl)
    have h31 : dd 31 = true := hcl 32 31 (by kernel_rfl) h32
    have h30 : dd 30 = true := hcl 31 30 (by kernel_rfl) h31
    have h29 : dd 29 = true := hcl 30 29 (by kernel_rfl) h30
    have hc : AwS repB w.heap.size w g m1 m2 gX gY (stK (dd 23) (dd 29)) (stB (dd 23) (dd 29)) w' := hC
    rw [h29] at hc
    obtain ⟨F', p1, p2, p3⟩ := hc.pp
    go_simp
    refine (hC0.out.off (b := aw4) p1).mono ?_
    rintro e w2 ⟨rfl, h⟩
    exact ⟨_, rfl, rfl, hC.on hC0.out h⟩
  have e' : vs 34 = _ := e
  rw [e']
  clear e e'
  simp only [Act.put, List.setIfInBounds_toArray, List.set_cons_succ, List.set_cons_zero]
  refine ⟨.inl ⟨rfl, fun dd w' hd hcl hnx hw hC => ?_⟩, fun e => ?_⟩
  · go_simp
    first | exact ⟨rfl, hC⟩ | exact hC
  have e' : vs 35 = _ := e
  rw [e']
  clear e e'
  simp only [Act.put, List.setIfInBounds_toArray, List.set_cons_succ, List.set_cons_zero]
  refine ⟨.inl ⟨rfl, fun dd w' hd hcl hnx hw hC => ?_⟩, fun e => ?_⟩
  · go_simp
    first | exact ⟨rfl, hC⟩ | exact hC
  have e' : vs 36 = _ := e
  rw [e']
  clear e e'
  simp only [Act.put, List.setIfInBounds_toArray, List.set_cons_succ, List.set_cons_zero]
  refine ⟨.inl ⟨rfl, fun dd w' hd hcl hnx hw hC => ?_⟩, fun e => ?_⟩
  · go_simp
    first | exact ⟨rfl, hC⟩ | exact hC
  have e' : vs 37 = _ := e
  rw [e']
  clear e e'
  simp only [Act.put, List.setIfInBounds_toArray, List.set_cons_succ, List.set_cons_zero]
  refine ⟨.inl ⟨rfl, fun dd w' hd hcl hnx hw hC => ?_⟩, fun e => ?_⟩
  · have h36 : dd 36 = true := hw 36 (by kernel_rfl)
    have h35 : dd 35 = true := hcl 36 35 (by kernel_rfl) h36
    have h34 : dd 34 = true := hcl 35 34 (by kernel_rfl) h35
    have h32 : dd 32 = true := hcl 34 32 (by kernel_rfl) h34
    have h31 : dd 31 = true := hcl 32 31 (by kernel_rfl) h32
    have h30 : dd 30 = true := hcl 31 30 (by kernel_rfl) h31
    have h29 : dd 29 = true := hcl 30 29 (by kernel_rfl) h30
    have hc : AwS repB w.heap.size w g m1 m2 gX gY (stK (dd 23) (dd 29)) (stB (dd 23) (dd 29)) w' := hC
    rw [h29] at hc
    obtain ⟨F', p1, p2, p3⟩ := hc.pp
    go_simp
    refine (hC0.out.count (b := aw4) p1).mono ?_
    rintro e w2 ⟨rfl, h⟩
    exact ⟨_, rfl, rfl, hC.on hC0.out h⟩
  have e' : vs 38 = _ := e
  rw [e']
  clear e e'
  simp only [Act.put, List.setIfInBounds_toArray, List.set_cons_succ, List.set_cons_zero]
  refine ⟨.inl ⟨rfl, fun dd w' hd hcl hnx hw hC => ?_⟩, fun e => ?_⟩
  · go_simp
    first | exact ⟨rfl, hC⟩ | exact hC
  have e' : vs 39 = _ := e
  rw [e']
  clear e e'
  simp only [Act.put, List.setIfInBounds_toArray, List.set_cons_succ, List.set_cons_zero]
  refine ⟨.inl ⟨rfl, fun dd w' hd hcl hnx hw hC => ?_⟩, fun e => ?_⟩
  · go_simp
    first | exact ⟨rfl, hC⟩ | exact hC
  have e' : vs 40 = _ := e
  rw [e']
  clear e e'
  simp only [Act.put, List.setIfInBounds_toArray, List.set_cons_succ, List.set_cons_zero]
  intro dd w7 hall hC
  have BE := hid hC.bel
  clear hC hall
  go_wp2_with fail
  go_ret
  exact ⟨rfl, BE.out⟩
end BuP
end Go.Proofs.Ytablkaofaedpeaa
set_option maxRecDepth 100000
namespace Go.Proofs.Ytablkaofaedpeaa
open Go.ChangeShapes Go.WideShapes Go.ChangeAt Go.RowKit
attribute [local go_sem] Gives GivesE
namespace BuP
open BuM MbM MbP
/-- The step; the bus behind i reads. -/
def seSt (n : Nat) (s : Nat → Nat) : Stp := ⟨n, 1, 0, 3, 0, s, []⟩
def seMb (n : Nat) (s : Nat → Nat) (i : Nat) : St := if i ≤ n then made 4 else MbM.seT (made 4) 3 s
def seB (n : Nat) (s : Nat → Nat) (i : Nat) (L : List BuM.Ent) : Bs := ⟨[seMb n s i, made 4], (0, ClP.zero), [seSt n s], false, L⟩
theorem se_ahead (n : Nat) (s : Nat → Nat) (i : Nat) (L : List BuM.Ent) (hL : L.length = i) : BuM.ahead (seB n s i L) = seB n s (i + 1) L := by
  unfold BuM.ahead seB
  have h : hands L.length [seSt n s] ([seMb n s i, made 4], false) = ([seMb n s (i + 1), made 4], false) := by
    rw [hands_cons]
    show hand L.length (seSt n s) ([seMb n s i, made 4], false) = _
    rw [hL]
    unfold hand
    by_cases e : n = i
    · subst e
      rw [if_pos (show (seSt n s).a = (n : Int) from rfl), if_neg (show ¬ (seSt n s).kind = 6 by show ¬ (1 : Int) = 6; omega)]
      have h1 : seMb n s n = made 4 := if_pos (Nat.le_refl _)
      have h2 : seMb n s (n + 1) = MbM.seT (made 4) 3 s := if_neg (by omega)
      rw [h1, h2]
      rfl
    · rw [if_neg (show ¬ (seSt n s).a = (i : Int) by show ¬ (n : Int) = i; omega)]
      unfold seMb
      by_cases h : i ≤ n
      · rw [if_pos h, if_pos (by omega)]
      · rw [if_neg h, if_neg (by omega)]
  show (⟨(hands L.length [seSt n s] ([seMb n s i, made 4], false)).1, (0, ClP.zero), [seSt n s], (hands L.length [seSt n s] ([seMb n s i, made 4], false)).2, L⟩ : Bs) = _
  rw [h]
theorem se_read (n : Nat) (s : Nat → Nat) (i : Nat) (L : List BuM.Ent) (hL : L.length = i) : BuM.rdB (BuM.ahead (seB n s i L)) 0 3 = ⟨1, 0, 3, if i < n then (fun _ => 0) else s, 0⟩ := by
  rw [se_ahead n s i L hL]
  by_cases h : i < n
  · rw [if_pos h]
    have : seB n s (i + 1) L = ⟨[made 4, made 4], (0, ClP.zero), [seSt n s], false, L⟩ := by unfold seB seMb; rw [if_pos (by omega)]
    rw [this]; rfl
  · rw [if_neg h]
    have : seB n s (i + 1) L = ⟨[MbM.seT (made 4) 3 s, made 4], (0, ClP.zero), [seSt n s], false, L⟩ := by unfold seB seMb; rw [if_neg (by omega)]
    rw [this]; rfl
theorem se_next (n : Nat) (s : Nat → Nat) (i : Nat) (L : List BuM.Ent) (hL : L.length = i) : BuM.rdT (seB n s i L) 0 3 = seB n s (i + 1) (L ++ [⟨1, 0, 3, if i < n then (fun _ => 0) else s, 0⟩]) := by
  unfold BuM.rdT
  rw [se_read n s i L hL, se_ahead n s i L hL]; rfl
theorem se_hurt (n : Nat) (s : Nat → Nat) (i : Nat) (L : List BuM.Ent) (h : n < i) : ((seB n s i L).ms[0]?.map (·.hurt)) = some true := by
  show some (seMb n s i).hurt = some true
  unfold seMb
  rw [if_neg (by omega)]; rfl
theorem built_ss (n : Int) (s : Nat → Nat) : Try.prog.built 67 [(0, .int .i64 n), (1, .int .i64 1), (3, .int .i64 3), (5, .agg (ar 64 s))] = some (stL (⟨n, 1, 0, 3, 0, s, []⟩, ⟨none, 0⟩)).toArray := by kernel_rfl
section
variable {ops : Array Oper} {Q : Exit → Act → World → Prop} {a : Act} {w : World} {rest : List Oper} {dst : Option Tmp} {ty : TypeId} {pos : String} {after : Array Edge} {x y : Operand} {n : Int} {s : Nat → Nat}
theorem wblSs (hx : a.eval x = .int .i64 n) (hy : a.eval y = .agg (ar 64 s)) (hk : wpList Try.prog ops Q rest (a.put dst (.agg (stL (⟨n, 1, 0, 3, 0, s, []⟩, ⟨none, 0⟩)).toArray)) w) : wpList Try.prog ops Q (⟨dst, .build 67 #[(0, x), (1, .const (.int .i64 1)), (3, .const (.int .i64 3)), (5, y)], ty, pos, after, none⟩ :: rest) a w := by
  have hr : (Instr.build 67 #[(0, .int .i64 n), (1, .int .i64 1), (3, .int .i64 3), (5, .agg (ar 64 s))]).run Try.prog w = .ok (.agg (stL (⟨n, 1, 0, 3, 0, s, []⟩, ⟨none, 0⟩)).toArray) w := run_build w _ _ _ (built_ss n s)
  have hm : (#[(0, x), (1, .const (.int .i64 1)), (3, .const (.int .i64 3)), (5, y)] : Array (Nat × Operand)).map (fun (i, x) => (i, a.eval x)) = #[(0, .int .i64 n), (1, .int .i64 1), (3, .int .i64 3), (5, .agg (ar 64 s))] := by
    simp only [List.map_toArray, List.map_cons, List.map_nil, hx, hy]; rfl
  refine wpList_plain rfl fun K hK => ?_
  unfold Oper.wp execOp
  simp only [Sem.run_bind, hm, hr, Result.andThen_ok, Sem.run_pure]
  exact hK _ _ hk
end
set_option maxHeartbeats 4000000 in
set_option maxRecDepth 100000 in
theorem sees_law {repB : RepB} (hC : BusC repB) (x : Nat) (hx : x < 256) (s : Nat → Nat) (hs : ∀ j, s j < 256) (W : World) : Calls Try.prog 7 #[.int .u8 (x : Nat), .agg (ar 64 s)] W fun e w' => e = .returned (.bool true) ∧ Below W.heap.size W w' := by
  have HSL := hid hs
  clear hs
  go_enter Try.func7, Try.ntmps7
  go_upto_region 1 with fail
  generalize hw1 : World.alloc W _ = w1
  have b1 := hid (show Below W.heap.size W w1 by rw [← hw1]; exact (Below.refl _ _).alloc (Nat.le_refl _) _)
  have S1 := hid (show Blk w1 W.heap.size 30 (ar 64 s) by rw [← hw1]; exact Blk.new _ _ _)
  clear hw1
  go_upto_region 2 with fail
  obtain ⟨n, hn, hn30⟩ : ∃ n : Nat, (x : Int) % 31 = (n : Int) ∧ n ≤ 30 := ⟨x % 31, by omega, by omega⟩
  rw [hn]
  clear hn
  by_cases hz : ∀ k, k < 64 → s k = 0
  · have he : eqA 64 s (fun _ => 0) = true := eqA_yes hz
    go_wp2_with (first | ((with_reducible apply ldA tSe); rfl; exact S1.out) | ((with_reducible apply bldZr); (kernel_rfl)) | ((with_reducible apply MbO.weqU true uSe' gSe'); rfl; rfl; exact he))
    refine (awake_any hC w1).mono ?_
    rintro e w2 ⟨rfl, h2⟩
    have B2 := hid (b1.out.trans (h2.mono b1.out.size))
    go_wp2_with fail
    go_ret
    exact ⟨rfl, B2.out⟩
  · have he : eqA 64 s (fun _ => 0) = false := by
      cases h : eqA 64 s fun _ => 0 with
      | false => rfl
      | true => exact absurd (eqA_iff.1 h) hz
    have HE := hid he
    clear he
    go_wp2_with (first | ((with_reducible apply ldA tSe); rfl; exact S1.out) | ((with_reducible apply bldZr); (kernel_rfl)) | ((with_reducible apply MbO.weqU false uSe' gSe'); rfl; rfl; exact HE.out) | ((with_reducible apply wblSs (n := (n : Int)) (s := s)); rfl; rfl) | ((with_reducible apply wlit1 eltStP undStP (x := (seSt n s, (⟨none, 0⟩ : SlB)))); omega; rfl; rfl))
    have b2 : Below w1.heap.size w1 (w1.alloc (.cells (stL (seSt n s, (⟨none, 0⟩ : SlB))).toArray 67)) := (Below.refl _ _).alloc (Nat.le_refl _) _
    have l2 := sli_lit1 (S := fun _ => True) eltStP (seSt n s, (⟨none, 0⟩ : SlB)) w1 trivial
    generalize World.alloc w1 _ = w2 at b2 l2 ⊢
    have HL2 := hid l2
    have B2 := hid (b1.out.trans (b2.mono b1.out.size))
    have S2 := hid (S1.out.below b2 S1.out.lt)
    have hs0 := S1.out.lt
    have hs2 := b2.size
    clear l2 b2
    refine (two_any hC (steps := [seSt n s]) (sl := [⟨none, 0⟩]) (Sp := fun _ => False) HL2.out rfl (by omega) (fun s' y hy => ?_) (fun q e => e.elim)).mono ?_
    · have hy' : (s', y) = (seSt n s, (⟨none, 0⟩ : SlB)) := by simpa using hy
      cases hy'
      exact ⟨⟨rfl, Nat.le_refl _, Nat.zero_le _, (fun x hx => by cases hx), fun _ => ⟨rfl, rfl⟩, Byt.none rfl⟩, by show 0 ≤ _; omega, ⟨HSL.out, fun p hp => by cases hp⟩, fun q o h0 _ => by cases h0⟩
    rintro e w3 ⟨g, m1, m2, F, rfl, hP, hgs, hm, _, h3⟩
    have PP := hid hP
    have HG := hid hgs
    have HM := hid (show ∀ q, mutP F q → W.heap.size ≤ q ∧ q ≠ W.heap.size from fun q e => by have := hm q e; exact ⟨by omega, by omega⟩)
    have B3 := hid (B2.out.trans (h3.mono B2.out.size))
    have S3 := hid (S2.out.below h3 S2.out.lt)
    clear hP hgs hm h3 HL2 S1 S2 b1 B2 hs0 hs2
    unfold MbP.at'
    go_wp2_with fail
    go_loopw [9] (fun u wr => ∃ (i : Nat) (F' : Fq) (L : List BuM.Ent), u = .int .i64 i ∧ i ≤ 32 ∧ Hid (L.length = i) ∧ Hid (Pp repB wr g F' (3 * i) (seB n s i L)) ∧ Hid (F'.gs = [m1, m2]) ∧ Hid (∀ q, mutP F' q → W.heap.size ≤ q ∧ q ≠ W.heap.size) ∧ Hid (Below W.heap.size W wr) ∧ Hid (Blk wr W.heap.size 30 (ar 64 s)))
      (fun u _ => 32 - (intOf u).toNat)
    case atStart => exact ⟨0, F, [], rfl, by omega, hid rfl, hid (by have := PP.out; unfold seB; rw [show seMb n s 0 = made 4 from if_pos (Nat.zero_le _)]; exact this), HG, HM, B3, S3⟩
    case round =>
      clear PP HG HM B3 S3
      obtain ⟨i, F', L, rfl, hi, HLn, HP, HG, HM, HB, HS⟩ := hrel
      by_cases hi32 : i < 32
      · have t1 : (i : Int) < 32 := by omega
        go_wp2_with fail
        refine (hC.read (b := seB n s i L) HP.out (by show 3 * i + 1 + 2 ≤ _; omega) 0 3).mono ?_
        rintro e w4 ⟨rfl, ho⟩
        rw [se_read n s i L HLn.out]
        rw [se_next n s i L HLn.out] at ho
        obtain ⟨F5, p5, g5, c5, mm5, ii5, t5⟩ := ho
        have P5 := hid (show Pp repB w4 g F5 (3 * (i + 1)) (seB n s (i + 1) (L ++ [⟨1, 0, 3, if i < n then (fun _ => 0) else s, 0⟩])) from p5)
        have M5 := hid (show ∀ q, mutP F5 q → W.heap.size ≤ q ∧ q ≠ W.heap.size from fun q e => (mm5 q e).elim (HM.out q) fun x => by have := HS.out.lt; exact ⟨by omega, by omega⟩)
        have B5 := hid (HB.out.trans (t5.below HB.out.size fun q e => (HM.out q e).1))
        have S5 := hid (HS.out.turn t5 fun e => (HM.out _ e).2 rfl)
        have G5 := hid (g5.trans HG.out)
        have L5 := hid (show (L ++ ([⟨1, 0, 3, if i < n then (fun _ => 0) else s, 0⟩] : List BuM.Ent)).length = i + 1 by rw [List.length_append, HLn.out]; rfl)
        clear p5 g5 c5 mm5 ii5 t5 HP HG HM HB HS HLn
        by_cases h : i < n
        · have HE2 := hid (show eqA 64 (fun _ => 0) s = false by
            cases h : eqA 64 (fun _ => 0) s with
            | false => rfl
            | true => exact absurd (fun k hk => (eqA_iff.1 h k hk).symm) hz)
          rw [if_pos h] at P5 L5 ⊢
          go_upto_region 11 with (first | (with_reducible apply alA tSe) | ((with_reducible apply stA tSe); rfl; rfl; exact Blk.new _ _ _))
          generalize hw6 : World.setRow _ _ _ = w6
          have b6 : Below w4.heap.size w4 w6 := by rw [← hw6]; exact below_setRow ((Below.refl _ _).alloc (Nat.le_refl _) _) (Nat.le_refl _) _
          have T6 := hid (show Blk w6 w4.heap.size 30 (ar 64 (fun _ => 0)) by rw [← hw6]; exact (Blk.new w4 _ _).setRow_same _)
          have S6 := hid (S5.out.below b6 S5.out.lt)
          have P6 := hid (P5.out.below hC b6)
          have B6 := hid (B5.out.trans (b6.mono B5.out.size))
          clear hw6 b6 P5 S5 B5
          have u1 : decide (n ≤ i) = false := by simp; omega
          have u1' : ¬ n ≤ i := by omega
          have u2 : decide (i < n) = true := by simp; omega
          refine wp_region_fixed (C := fun w' => Below w6.heap.size w6 w') 20 (Below.refl _ _) ?_
          simp only [List.take_succ_cons, List.take_zero, List.drop_succ_cons, List.drop_zero]
          apply wpK_val
          · rfl
          · intro w' hw'
            go_simp
            first | exact rfl | exact ⟨rfl, hw'⟩
          simp only [Act.put, List.setIfInBounds_toArray, List.set_cons_succ, List.set_cons_zero]
          apply wpK_val
          · rfl
          · intro w' hw'
            go_simp
            first | exact rfl | exact ⟨rfl, hw'⟩
          simp only [Act.put, List.setIfInBounds_toArray, List.set_cons_succ, List.set_cons_zero]
          apply wpK_val
          · rfl
          · intro w' hw'
            go_simp
            first | exact rfl | exact ⟨rfl, hw'⟩
          simp only [Act.put, List.setIfInBounds_toArray, List.set_cons_succ, List.set_cons_zero]
          apply kldA tSe
          · rfl
          · rfl
          · exact fun w' hw' => (T6.out.below hw' T6.out.lt).head
          simp only [Act.put, List.setIfInBounds_toArray, List.set_cons_succ, List.set_cons_zero]
          apply kldA tSe
          · rfl
          · rfl
          · exact fun w' hw' => (S6.out.below hw' S6.out.lt).head
          simp only [Act.put, List.setIfInBounds_toArray, List.set_cons_succ, List.set_cons_zero]
          apply keqU false uSe' gSe'
          · rfl
          · rfl
          · rfl
          · exact HE2.out
          simp only [Act.put, List.setIfInBounds_toArray, List.set_cons_succ, List.set_cons_zero]
          apply wpK_val
          · rfl
          · intro w' hw'
            go_simp
            first | exact rfl | exact ⟨rfl, hw'⟩
          simp only [Act.put, List.setIfInBounds_toArray, List.set_cons_succ, List.set_cons_zero]
          apply wpK_val
          · rfl
          · intro w' hw'
            go_simp
            first | exact rfl | exact ⟨rfl, hw'⟩
          simp only [Act.put, List.setIfInBounds_toArray, List.set_cons_succ, List.set_cons_zero]
          apply wpK_val
          · rfl
          · intro w' hw'
            go_simp
            first | exact rfl | exact ⟨rfl, hw'⟩
          simp only [Act.put, List.setIfInBounds_toArray, List.set_cons_succ, List.set_cons_zero]
          apply wpK_val
          · rfl
          · intro w' hw'
            go_simp
            first | exact rfl | exact ⟨rfl, hw'⟩
          simp only [Act.put, List.setIfInBounds_toArray, List.set_cons_succ, List.set_cons_zero]
          apply wpK_val
          · rfl
          · intro w' hw'
            go_simp
            first | exact rfl | exact ⟨rfl, hw'⟩
          simp only [Act.put, List.setIfInBounds_toArray, List.set_cons_succ, List.set_cons_zero]
          apply wpK_val
          · rfl
          · intro w' hw'
            go_simp
            first | exact rfl | exact ⟨rfl, hw'⟩
          simp only [Act.put, List.setIfInBounds_toArray, List.set_cons_succ, List.set_cons_zero]
          apply kldA tSe
          · rfl
          · rfl
          · exact fun w' hw' => (T6.out.below hw' T6.out.lt).head
          simp only [Act.put, List.setIfInBounds_toArray, List.set_cons_succ, List.set_cons_zero]
          apply kbldZ (hb := run_se0)
          · rfl
          simp only [Act.put, List.setIfInBounds_toArray, List.set_cons_succ, List.set_cons_zero]
          apply keqU true uSe' gSe'
          · rfl
          · rfl
          · rfl
          · exact eqA_yes fun _ _ => rfl
          simp only [Act.put, List.setIfInBounds_toArray, List.set_cons_succ, List.set_cons_zero]
          apply wpK_val
          · rfl
          · intro w' hw'
            go_simp
            first | exact rfl | exact ⟨rfl, hw'⟩
          simp only [Act.put, List.setIfInBounds_toArray, List.set_cons_succ, List.set_cons_zero]
          apply wpK_val
          · rfl
          · intro w' hw'
            go_simp
            first | exact rfl | exact ⟨rfl, hw'⟩
          simp only [Act.put, List.setIfInBounds_toArray, List.set_cons_succ, List.set_cons_zero]
          apply wpK_val
          · rfl
          · intro w' hw'
            go_simp
            first | exact rfl | exact ⟨rfl, hw'⟩
          simp only [Act.put, List.setIfInBounds_toArray, List.set_cons_succ, List.set_cons_zero]
          apply wpK_val
          · rfl
          · intro w' hw'
            go_simp
            first | exact rfl | exact ⟨rfl, hw'⟩
          simp only [Act.put, List.setIfInBounds_toArray, List.set_cons_succ, List.set_cons_zero]
          apply wpK_val
          · rfl
          · intro w' hw'
            go_simp
            first | exact rfl | exact ⟨rfl, hw'⟩
          simp only [Act.put, List.setIfInBounds_toArray, List.set_cons_succ, List.set_cons_zero]
          intro w7 hC7
          replace P6 := hid (P6.out.below hC hC7)
          replace S6 := hid (S6.out.below hC7 S6.out.lt)
          replace B6 := hid (B6.out.trans (hC7.mono B6.out.size))
          clear hC7 T6
          go_wp2_with fail
          go_roundw
          case rel => exact ⟨i + 1, F5, _, by go_num, by omega, L5, P6, G5, M5, B6, S6⟩
          case measure => simp [intOf] <;> omega
        · skip
          rw [if_neg h] at P5 L5 ⊢
          go_upto_region 11 with (first | (with_reducible apply alA tSe) | ((with_reducible apply stA tSe); rfl; rfl; exact Blk.new _ _ _))
          generalize hw6 : World.setRow _ _ _ = w6
          have b6 : Below w4.heap.size w4 w6 := by rw [← hw6]; exact below_setRow ((Below.refl _ _).alloc (Nat.le_refl _) _) (Nat.le_refl _) _
          have T6 := hid (show Blk w6 w4.heap.size 30 (ar 64 s) by rw [← hw6]; exact (Blk.new w4 _ _).setRow_same _)
          have S6 := hid (S5.out.below b6 S5.out.lt)
          have P6 := hid (P5.out.below hC b6)
          have B6 := hid (B5.out.trans (b6.mono B5.out.size))
          clear hw6 b6 P5 S5 B5
          have u1 : decide (n ≤ i) = true := by simp; omega
          have u1' : n ≤ i := by omega
          have u2 : decide (i < n) = false := by simp; omega
          refine wp_region_fixed (C := fun w' => Below w6.heap.size w6 w') 20 (Below.refl _ _) ?_
          simp only [List.take_succ_cons, List.take_zero, List.drop_succ_cons, List.drop_zero]
          apply wpK_val
          · rfl
          · intro w' hw'
            go_simp
            first | exact rfl | exact ⟨rfl, hw'⟩
          simp only [Act.put, List.setIfInBounds_toArray, List.set_cons_succ, List.set_cons_zero]
          apply wpK_val
          · rfl
          · intro w' hw'
            go_simp
            first | exact rfl | exact ⟨rfl, hw'⟩
          simp only [Act.put, List.setIfInBounds_toArray, List.set_cons_succ, List.set_cons_zero]
          apply wpK_val
          · rfl
          · intro w' hw'
            go_simp
            first | exact rfl | exact ⟨rfl, hw'⟩
          simp only [Act.put, List.setIfInBounds_toArray, List.set_cons_succ, List.set_cons_zero]
          apply kldA tSe
          · rfl
          · rfl
          · exact fun w' hw' => (T6.out.below hw' T6.out.lt).head
          simp only [Act.put, List.setIfInBounds_toArray, List.set_cons_succ, List.set_cons_zero]
          apply kldA tSe
          · rfl
          · rfl
          · exact fun w' hw' => (S6.out.below hw' S6.out.lt).head
          simp only [Act.put, List.setIfInBounds_toArray, List.set_cons_succ, List.set_cons_zero]
          apply keqU true uSe' gSe'
          · rfl
          · rfl
          · rfl
          · exact eqA_yes fun _ _ => rfl
          simp only [Act.put, List.setIfInBounds_toArray, List.set_cons_succ, List.set_cons_zero]
          apply wpK_val
          · rfl
          · intro w' hw'
            go_simp
            first | exact rfl | exact ⟨rfl, hw'⟩
          simp only [Act.put, List.setIfInBounds_toArray, List.set_cons_succ, List.set_cons_zero]
          apply wpK_val
          · rfl
          · intro w' hw'
            go_simp
            first | exact rfl | exact ⟨rfl, hw'⟩
          simp only [Act.put, List.setIfInBounds_toArray, List.set_cons_succ, List.set_cons_zero]
          apply wpK_val
          · rfl
          · intro w' hw'
            go_simp
            first | exact rfl | exact ⟨rfl, hw'⟩
          simp only [Act.put, List.setIfInBounds_toArray, List.set_cons_succ, List.set_cons_zero]
          apply wpK_val
          · rfl
          · intro w' hw'
            go_simp
            first | exact rfl | exact ⟨rfl, hw'⟩
          simp only [Act.put, List.setIfInBounds_toArray, List.set_cons_succ, List.set_cons_zero]
          apply wpK_val
          · rfl
          · intro w' hw'
            go_simp
            first | exact rfl | exact ⟨rfl, hw'⟩
          simp only [Act.put, List.setIfInBounds_toArray, List.set_cons_succ, List.set_cons_zero]
          apply wpK_val
          · rfl
          · intro w' hw'
            go_simp
            first | exact rfl | exact ⟨rfl, hw'⟩
          simp only [Act.put, List.setIfInBounds_toArray, List.set_cons_succ, List.set_cons_zero]
          apply kldA tSe
          · rfl
          · rfl
          · exact fun w' hw' => (T6.out.below hw' T6.out.lt).head
          simp only [Act.put, List.setIfInBounds_toArray, List.set_cons_succ, List.set_cons_zero]
          apply kbldZ (hb := run_se0)
          · rfl
          simp only [Act.put, List.setIfInBounds_toArray, List.set_cons_succ, List.set_cons_zero]
          apply keqU false uSe' gSe'
          · rfl
          · rfl
          · rfl
          · exact HE.out
          simp only [Act.put, List.setIfInBounds_toArray, List.set_cons_succ, List.set_cons_zero]
          apply wpK_val
          · rfl
          · intro w' hw'
            go_simp
            first | exact rfl | exact ⟨rfl, hw'⟩
          simp only [Act.put, List.setIfInBounds_toArray, List.set_cons_succ, List.set_cons_zero]
          apply wpK_val
          · rfl
          · intro w' hw'
            go_simp
            first | exact rfl | exact ⟨rfl, hw'⟩
          simp only [Act.put, List.setIfInBounds_toArray, List.set_cons_succ, List.set_cons_zero]
          apply wpK_val
          · rfl
          · intro w' hw'
            go_simp
            first | exact rfl | exact ⟨rfl, hw'⟩
          simp only [Act.put, List.setIfInBounds_toArray, List.set_cons_succ, List.set_cons_zero]
          apply wpK_val
          · rfl
          · intro w' hw'
            go_simp
            first | exact rfl | exact ⟨rfl, hw'⟩
          simp only [Act.put, List.setIfInBounds_toArray, List.set_cons_succ, List.set_cons_zero]
          apply wpK_val
          · rfl
          · intro w' hw'
            go_simp
            first | exact rfl | exact ⟨rfl, hw'⟩
          simp only [Act.put, List.setIfInBounds_toArray, List.set_cons_succ, List.set_cons_zero]
          intro w7 hC7
          replace P6 := hid (P6.out.below hC hC7)
          replace S6 := hid (S6.out.below hC7 S6.out.lt)
          replace B6 := hid (B6.out.trans (hC7.mono B6.out.size))
          clear hC7 T6
          go_wp2_with fail
          go_roundw
          case rel => exact ⟨i + 1, F5, _, by go_num, by omega, L5, P6, G5, M5, B6, S6⟩
          case measure => simp [intOf] <;> omega
      · have t1 : decide ((i : Int) < 32) = false := by simp; omega
        obtain rfl : i = 32 := by omega
        have HT := hid (se_hurt n s 32 L (by omega))
        obtain ⟨st, hst, hh⟩ : ∃ st, (seB n s 32 L).ms[0]? = some st ∧ st.hurt = true := by
          have := HT.out
          cases h : (seB n s 32 L).ms[0]? with
          | none => rw [h] at this; cases this
          | some st => rw [h] at this; exact ⟨st, rfl, by simpa using this⟩
        have hc := MbP.memD_ok.touched (HP.out.mem 0 m1 st (by rw [HG.out]; rfl) hst)
        rw [hh] at hc
        have HTC := hid hc
        clear hc hst hh
        go_wp2_with fail
        refine HTC.out.mono ?_
        rintro e w4 ⟨rfl, h4⟩
        have B4 := hid (HB.out.trans (h4.mono HB.out.size))
        clear h4 HTC HT HP HM HB HS HG HLn
        go_wp2_with fail
        refine (awake_any hC w4).mono ?_
        rintro e w5 ⟨rfl, h5⟩
        have B5 := hid (B4.out.trans (h5.mono B4.out.size))
        clear h5 B4
        go_wp2_with fail
        go_ret
        exact ⟨rfl, B5.out⟩
end BuP
end Go.Proofs.Ytablkaofaedpeaa
set_option maxRecDepth 100000
namespace Go.Proofs.Ytablkaofaedpeaa
open Go.ChangeShapes Go.WideShapes Go.ChangeAt Go.RowKit
attribute [local go_sem] Gives GivesE
namespace BuP
open BuM MbM MbP
/-- What over tells, and leaves. -/
def ovE (b : Bs) (a : ActB) : Nat → Int
  | 1 | 2 => (BuM.wrB (BuM.ahead b) a.m a.i a.s).e
  | 3 => (BuM.flB (BuM.ahead b) a.m).e
  | 4 => (BuM.ceB (BuM.ahead b)).e
  | 5 => (BuM.adB (BuM.ahead b) a.t).e
  | 6 => 0
  | _ => (BuM.rdB (BuM.ahead b) a.m a.i).e
def ovB (b : Bs) (a : ActB) : Nat → Bs
  | 1 | 2 => BuM.wrT b a.m a.i a.s
  | 3 => BuM.flT b a.m
  | 4 => BuM.ceT b
  | 5 => BuM.adT b a.t
  | 6 => b
  | _ => BuM.rdT b a.m a.i
/-- What a bus alone is behind a call: what may be turned was so, or is new. -/
def outS (repB : RepB) (w : World) (g : Nat) (F : Fq) (k : Nat) (b : Bs) (w' : World) : Prop :=
  ∃ F', Pp repB w' g F' k b ∧ F'.gs = F.gs ∧ (∀ q, mutP F' q → mutP F q ∨ w.heap.size ≤ q) ∧ (∀ q, rdP F' q → mutP F q ∨ rdP F q ∨ w.heap.size ≤ q) ∧ Turn (mutP F) w w'
theorem outS.of {repB : RepB} {w w1 w2 : World} {g k : Nat} {F : Fq} {b : Bs} (hb : Below w.heap.size w w1) (h : outQ repB w1 g F k b w2) : outS repB w g F k b w2 := by
  obtain ⟨F', h1, h2, _, h4, h5, h6⟩ := h
  exact ⟨F', h1, h2, fun q e => (h4 q e).imp id fun x => Nat.le_trans hb.size x, fun q e => (h5 q e).imp id fun y => y.imp id fun x => Nat.le_trans hb.size x, (Turn.of_new (S := mutP F) hb).trans h6 fun q e => .inl e⟩
theorem outS.below {repB : RepB} {w w1 w2 : World} {g k : Nat} {F : Fq} {b : Bs} (hC : BusC repB) (h : outS repB w g F k b w1) (hb : Below w1.heap.size w1 w2) : outS repB w g F k b w2 := by
  obtain ⟨F', h1, h2, h4, h5, h6⟩ := h
  exact ⟨F', h1.below hC hb, h2, h4, h5, h6.trans (Turn.of_new (S := fun _ => False) hb) fun _ e => e.elim⟩
set_option maxHeartbeats 4000000 in
set_option maxRecDepth 100000 in
theorem over_any {repB : RepB} (hC : BusC repB) {w : World} {g k : Nat} {F : Fq} {b : Bs} (H : Pp repB w g F k b) (hk : k + b.steps.length + 2 ≤ 8000) (a : ActB) (ha : ∀ j, a.s j < 256) :
    Calls Try.prog 32 #[MbP.at' g, .agg (abL a).toArray] w fun e w' => e = .returned (.int .i64 (ovE b a (kind7 a.d))) ∧ outS repB w g F (k + b.steps.length + 2) (ovB b a (kind7 a.d)) w' := by
  have HH := hid H
  have HA := hid ha
  clear H ha
  unfold MbP.at'
  obtain ⟨kd, hkd⟩ : ∃ z, z = kind7 a.d := ⟨_, rfl⟩
  have kb := kind7_bits a.d
  have kl := kind7_le a.d
  rw [← hkd] at kb kl ⊢
  clear hkd
  obtain ⟨b0, hb0⟩ : ∃ z, z = ovB b a kd := ⟨_, rfl⟩
  obtain ⟨e0, he0⟩ : ∃ z, z = ovE b a kd := ⟨_, rfl⟩
  have HB0 := hid hb0
  have HE0 := hid he0
  rw [← hb0, ← he0]
  clear hb0 he0
  go_enter Try.func32, Try.ntmps32
  go_upto_region 1 with fail
  generalize hw1 : World.alloc w _ = w1
  have b1 := hid (show Below w.heap.size w w1 by rw [← hw1]; exact (Below.refl _ _).alloc (Nat.le_refl _) _)
  have A1 := hid (show Blk w1 w.heap.size 70 (abL a).toArray by rw [← hw1]; exact Blk.new _ _ _)
  have H1 := hid (HH.out.below hC b1.out)
  obtain ⟨gA, hgA⟩ : ∃ n, n = w.heap.size := ⟨_, rfl⟩
  rw [← hgA] at A1 ⊢
  clear hw1 hgA HH
  have p0 : w1.cell? ⟨gA, 0, none⟩ = some (.int .i64 a.d) := ab_d (o := 0) A1.out.whole
  have p1 : w1.cell? ⟨gA, 1, none⟩ = some (.int .i64 a.m) := ab_m (o := 0) A1.out.whole
  have p2 : w1.cell? ⟨gA, 2, none⟩ = some (.int .i64 a.i) := ab_i (o := 0) A1.out.whole
  have q3 := hid (show w1.rangeAt gA 3 (ar 64 a.s).toList from ab_s (o := 0) (a := a) A1.out.whole)
  have q67 := hid (show w1.rangeAt gA 67 (ar 32 a.t).toList from ab_t (o := 0) (a := a) A1.out.whole)
  obtain rfl | rfl | rfl | rfl | rfl | rfl | rfl | rfl : kd = 0 ∨ kd = 1 ∨ kd = 2 ∨ kd = 3 ∨ kd = 4 ∨ kd = 5 ∨ kd = 6 ∨ kd = 7 := by omega
  · have kb' : bits .and .i64 a.d 7 = 0 := kb
    clear kb kl
    go_wp2_with fail
    refine (hC.read H1.out hk a.m a.i).mono ?_
    rintro e w2 ⟨rfl, ho⟩
    obtain ⟨ev, hev⟩ : ∃ z, z = (BuM.rdB (BuM.ahead b) a.m a.i).e := ⟨_, rfl⟩
    rw [← hev]
    have HE1 := hid (show e0 = ev by rw [HE0.out, hev]; rfl)
    have RES := hid (show outS repB w g F (k + b.steps.length + 2) b0 w2 from by rw [HB0.out]; exact outS.of b1.out ho)
    clear ho hev p0 p1 p2 q3 q67 H1 A1 HE0 HB0 HA
    obtain ⟨xv, hxv⟩ : ∃ z, z = (BuM.rdB (BuM.ahead b) a.m a.i).s := ⟨_, rfl⟩
    rw [← hxv]
    clear hxv
    go_upto_region 16 with (first | (with_reducible apply alA tSe) | ((with_reducible apply stA tSe); rfl; rfl; exact Blk.new _ _ _))
    generalize hw4 : World.setRow _ _ _ = w4
    have b4 : Below w2.heap.size w2 w4 := by rw [← hw4]; exact below_setRow ((Below.refl _ _).alloc (Nat.le_refl _) _) (Nat.le_refl _) _
    replace RES := hid (RES.out.below hC b4)
    clear hw4 b4
    go_wp2_with fail
    go_ret
    exact ⟨(by have h9 := HE1.out; subst h9; rfl), RES.out⟩
  · have kb' : bits .and .i64 a.d 7 = 1 := kb
    clear kb kl
    go_wp2_with ((with_reducible apply ldAm tSe); rfl; exact q3.out)
    refine (hC.write H1.out hk a.m a.i a.s HA.out).mono ?_
    rintro e w2 ⟨rfl, ho⟩
    obtain ⟨ev, hev⟩ : ∃ z, z = (BuM.wrB (BuM.ahead b) a.m a.i a.s).e := ⟨_, rfl⟩
    rw [← hev]
    have HE1 := hid (show e0 = ev by rw [HE0.out, hev]; rfl)
    have RES := hid (show outS repB w g F (k + b.steps.length + 2) b0 w2 from by rw [HB0.out]; exact outS.of b1.out ho)
    clear ho hev p0 p1 p2 q3 q67 H1 A1 HE0 HB0 HA
    go_wp2_with fail
    go_ret
    exact ⟨(by have h9 := HE1.out; subst h9; rfl), RES.out⟩
  · have kb' : bits .and .i64 a.d 7 = 2 := kb
    clear kb kl
    go_wp2_with ((with_reducible apply ldAm tSe); rfl; exact q3.out)
    refine (hC.write H1.out hk a.m a.i a.s HA.out).mono ?_
    rintro e w2 ⟨rfl, ho⟩
    obtain ⟨ev, hev⟩ : ∃ z, z = (BuM.wrB (BuM.ahead b) a.m a.i a.s).e := ⟨_, rfl⟩
    rw [← hev]
    have HE1 := hid (show e0 = ev by rw [HE0.out, hev]; rfl)
    have RES := hid (show outS repB w g F (k + b.steps.length + 2) b0 w2 from by rw [HB0.out]; exact outS.of b1.out ho)
    clear ho hev p0 p1 p2 q3 q67 H1 A1 HE0 HB0 HA
    go_wp2_with fail
    go_ret
    exact ⟨(by have h9 := HE1.out; subst h9; rfl), RES.out⟩
  · have kb' : bits .and .i64 a.d 7 = 3 := kb
    clear kb kl
    go_wp2_with fail
    refine (hC.flush H1.out hk a.m).mono ?_
    rintro e w2 ⟨rfl, ho⟩
    obtain ⟨ev, hev⟩ : ∃ z, z = (BuM.flB (BuM.ahead b) a.m).e := ⟨_, rfl⟩
    rw [← hev]
    have HE1 := hid (show e0 = ev by rw [HE0.out, hev]; rfl)
    have RES := hid (show outS repB w g F (k + b.steps.length + 2) b0 w2 from by rw [HB0.out]; exact outS.of b1.out ho)
    clear ho hev p0 p1 p2 q3 q67 H1 A1 HE0 HB0 HA
    go_wp2_with fail
    go_ret
    exact ⟨(by have h9 := HE1.out; subst h9; rfl), RES.out⟩
  · have kb' : bits .and .i64 a.d 7 = 4 := kb
    clear kb kl
    go_wp2_with fail
    refine (hC.cell H1.out hk).mono ?_
    rintro e w2 ⟨rfl, ho⟩
    obtain ⟨ev, hev⟩ : ∃ z, z = (BuM.ceB (BuM.ahead b)).e := ⟨_, rfl⟩
    rw [← hev]
    have HE1 := hid (show e0 = ev by rw [HE0.out, hev]; rfl)
    have RES := hid (show outS repB w g F (k + b.steps.length + 2) b0 w2 from by rw [HB0.out]; exact outS.of b1.out ho)
    clear ho hev p0 p1 p2 q3 q67 H1 A1 HE0 HB0 HA
    obtain ⟨xv, hxv⟩ : ∃ z, z = BuM.ceV (BuM.ahead b) := ⟨_, rfl⟩
    rw [← hxv]
    clear hxv
    go_upto_region 9 with (first | (with_reducible apply alZ' ClP.zCe) | ((with_reducible apply stR (ClP.tCe xv)); rfl; rfl; exact Blk.new _ _ _; exact ClP.ce_size _ _; exact ClP.ce_one _))
    generalize hw4 : World.setRow _ _ _ = w4
    have b4 : Below w2.heap.size w2 w4 := by rw [← hw4]; exact below_setRow ((Below.refl _ _).alloc (Nat.le_refl _) _) (Nat.le_refl _) _
    replace RES := hid (RES.out.below hC b4)
    clear hw4 b4
    go_wp2_with fail
    go_ret
    exact ⟨(by have h9 := HE1.out; subst h9; rfl), RES.out⟩
  · have kb' : bits .and .i64 a.d 7 = 5 := kb
    clear kb kl
    go_wp2_with ((with_reducible apply ldAm ClP.tTg); rfl; exact q67.out)
    refine (hC.adv H1.out hk a.t).mono ?_
    rintro e w2 ⟨rfl, ho⟩
    obtain ⟨ev, hev⟩ : ∃ z, z = (BuM.adB (BuM.ahead b) a.t).e := ⟨_, rfl⟩
    rw [← hev]
    obtain ⟨nv, hnv⟩ : ∃ z, z = BuM.adN (BuM.ahead b) := ⟨_, rfl⟩
    rw [← hnv]
    clear hnv
    have HE1 := hid (show e0 = ev by rw [HE0.out, hev]; rfl)
    have RES := hid (show outS repB w g F (k + b.steps.length + 2) b0 w2 from by rw [HB0.out]; exact outS.of b1.out ho)
    clear ho hev p0 p1 p2 q3 q67 H1 A1 HE0 HB0 HA
    go_wp2_with fail
    go_ret
    exact ⟨(by have h9 := HE1.out; subst h9; rfl), RES.out⟩
  · have kb' : bits .and .i64 a.d 7 = 6 := kb
    clear kb kl
    have RES := hid (show outS repB w g F (k + b.steps.length + 2) b0 w1 from by
      rw [HB0.out]
      exact ⟨F, H1.out.mono (by omega), rfl, fun q e => .inl e, fun q e => .inr (.inl e), Turn.of_new b1.out⟩)
    have HE1 := hid (show e0 = 0 by rw [HE0.out]; rfl)
    clear H1 A1 HE0 HB0 HA p1 p2 q3 q67
    go_wp2_with fail
    go_ret
    exact ⟨(by have h9 := HE1.out; subst h9; rfl), RES.out⟩
  · have kb' : bits .and .i64 a.d 7 = 7 := kb
    clear kb kl
    go_wp2_with fail
    refine (hC.read H1.out hk a.m a.i).mono ?_
    rintro e w2 ⟨rfl, ho⟩
    obtain ⟨ev, hev⟩ : ∃ z, z = (BuM.rdB (BuM.ahead b) a.m a.i).e := ⟨_, rfl⟩
    rw [← hev]
    have HE1 := hid (show e0 = ev by rw [HE0.out, hev]; rfl)
    have RES := hid (show outS repB w g F (k + b.steps.length + 2) b0 w2 from by rw [HB0.out]; exact outS.of b1.out ho)
    clear ho hev p0 p1 p2 q3 q67 H1 A1 HE0 HB0 HA
    obtain ⟨xv, hxv⟩ : ∃ z, z = (BuM.rdB (BuM.ahead b) a.m a.i).s := ⟨_, rfl⟩
    rw [← hxv]
    clear hxv
    go_upto_region 16 with (first | (with_reducible apply alA tSe) | ((with_reducible apply stA tSe); rfl; rfl; exact Blk.new _ _ _))
    generalize hw4 : World.setRow _ _ _ = w4
    have b4 : Below w2.heap.size w2 w4 := by rw [← hw4]; exact below_setRow ((Below.refl _ _).alloc (Nat.le_refl _) _) (Nat.le_refl _) _
    replace RES := hid (RES.out.below hC b4)
    clear hw4 b4
    go_wp2_with fail
    go_ret
    exact ⟨(by have h9 := HE1.out; subst h9; rfl), RES.out⟩
end BuP
end Go.Proofs.Ytablkaofaedpeaa
