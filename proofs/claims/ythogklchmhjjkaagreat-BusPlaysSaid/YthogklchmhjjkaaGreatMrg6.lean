/-
  The program's settle: unflushed writes made durable, or lost; Flush and Crash.
  The program's Write and Mark.
  The program's Set: unflushed writes there struck out of their row (slices.IndexFunc, slices.DeleteFunc).
  The program's Back and Copy.
  The program's Copy.
  The program's member keeps MemC.
  An append of one element to a slice that is the call's own, or that is full: what it turns, place by place.
  The law CellKnown: the chapter's examples; cells that are none.
  The program's cell in memory; isMade, New, Read.
  The program's History and Copy.
-/
import Derived.Test.YthogklchmhjjkaaGreatMrg5
import Derived.Deep.OwnRows
import Derived.Lib.SliceRun
set_option linter.unusedVariables false
set_option linter.unusedSimpArgs false
set_option maxRecDepth 100000
namespace Go.Proofs.YthogklchmhjjkaaGreat
open Go.ChangeShapes Go.WideShapes Go.ChangeAt Go.RowKit
attribute [local go_sem] Gives
namespace MbO
open MbM MbP
def keptB (l : List Pt) (q : Nat → Bool) (n : Nat) : List Pt := (List.range n).flatMap fun k => if q k then l[k]?.toList else []
theorem keptB_step (l : List Pt) (q : Nat → Bool) (k : Nat) : keptB l q (k + 1) = keptB l q k ++ (if q k then l[k]?.toList else []) := by
  unfold keptB
  rw [List.range_succ, List.flatMap_append, List.flatMap_singleton]
theorem keptB_yes {l : List Pt} {q : Nat → Bool} {k : Nat} {p : Pt} (hp : l[k]? = some p) (h : q k = true) : keptB l q (k + 1) = keptB l q k ++ [p] := by
  rw [keptB_step, if_pos h, hp]; rfl
theorem keptB_no {l : List Pt} {q : Nat → Bool} {k : Nat} (h : q k = false) : keptB l q (k + 1) = keptB l q k := by
  rw [keptB_step, if_neg (by simp [h]), List.append_nil]
theorem keptB_all (l : List Pt) : ∀ n, n ≤ l.length → keptB l (fun _ => true) n = l.take n
  | 0, _ => by rw [List.take_zero]; rfl
  | n + 1, h => by
    rw [keptB_yes (p := l[n]) (List.getElem?_eq_getElem (by omega)) rfl, keptB_all l n (by omega), List.take_add_one, List.getElem?_eq_getElem (by omega)]; rfl
theorem keptB_picks (l : List Pt) (picks : List Nat) (n : Nat) : keptB l (fun k => decide (picks.getD k 0 ≠ 0)) n = keptN l picks n := by
  unfold keptB keptN
  congr 1
  funext k
  by_cases e : picks.getD k 0 = 0
  · rw [if_neg (by rw [decide_eq_true_eq]; exact fun h => h e), if_pos e]
  · rw [if_pos (by simp only [decide_eq_true_eq]; exact e), if_neg e]
theorem app_out {i : Int} : ∀ {l : List Pt} {d : Img}, (∀ p ∈ l, p.i ≠ i) → app d l i = d i
  | [], d, _ => rfl
  | p :: l, d, h => by
    rw [app_cons, app_out fun q hq => h q (List.mem_cons_of_mem _ hq)]
    unfold upd
    rw [if_neg fun e => h p List.mem_cons_self e.symm]
theorem app_in {i : Int} {x : Nat → Nat} : ∀ {l : List Pt} {d : Img}, (∀ p ∈ l, p.i = i → p.s = x) → (∃ p ∈ l, p.i = i) → app d l i = x
  | [], d, _, ⟨p, hp, _⟩ => by cases hp
  | p :: l, d, h, he => by
    rw [app_cons]
    by_cases e : ∃ q ∈ l, q.i = i
    · exact app_in (fun q hq => h q (List.mem_cons_of_mem _ hq)) e
    · rw [app_out fun q hq hi => e ⟨q, hq, hi⟩]
      obtain ⟨q, hq, hi⟩ := he
      rcases List.mem_cons.1 hq with rfl | hq
      · unfold upd
        rw [if_pos hi.symm]
        exact h q List.mem_cons_self hi
      · exact absurd ⟨q, hq, hi⟩ e
/-- What is seen, once each place of an unflushed write has what is durable there. -/
theorem resee {d : Img} {l k : List Pt} (hk : ∀ p ∈ k, p ∈ l) : app (app d l) (l.map fun p => ⟨p.i, app d k p.i⟩) = app d k := by
  funext i
  by_cases h : ∃ p ∈ l, p.i = i
  · obtain ⟨p, hp, hi⟩ := h
    refine app_in (fun q hq e => ?_) ⟨⟨p.i, app d k p.i⟩, List.mem_map.2 ⟨p, hp, rfl⟩, hi⟩
    obtain ⟨p2, _, rfl⟩ := List.mem_map.1 hq
    show app d k p2.i = app d k i
    rw [show p2.i = i from e]
  · rw [app_out fun q hq e => ?_, app_out fun p hp e => h ⟨p, hp, e⟩, app_out fun p hp e => h ⟨p, hk p hp, e⟩]
    obtain ⟨p2, hp2, rfl⟩ := List.mem_map.1 hq
    exact h ⟨p2, hp2, e⟩
section
variable {w w' : World} {g rs rd : Nat} {vl vm : Value} {ms : List Nat} {n : Int} {S D S' D' : Img} {log : List Pt} {marks : List Img} {f h : Bool}
theorem Mm.setD (H : Mm w g rs rd vl vm ms n S D log marks f h) (ht : Turn (fun b => b = rd) w w') (hd : MapB w' rd D') : Mm w' g rs rd vl vm ms n S D' log marks f h where
  blk := H.blk.turn ht H.g_rd
  pos := H.pos
  seen := H.seen.turn ht H.ne
  dur := hd
  lg := H.lg.turn ht fun b e e2 => H.l_rd (by rw [e, e2])
  mr := H.mr.turn ht fun b e e2 => H.m_rd (by rw [e, e2])
  len := H.len
  im i m F h1 h2 := (H.im i m F h1 h2).turn ht fun e => (H.out m (List.mem_of_getElem? h1)).2 e
  ne := H.ne
  out := H.out
theorem Mm.setS (H : Mm w g rs rd vl vm ms n S D log marks f h) (ht : Turn (fun b => b = rs) w w') (hs : MapB w' rs S') : Mm w' g rs rd vl vm ms n S' D log marks f h where
  blk := H.blk.turn ht H.g_rs
  pos := H.pos
  seen := hs
  dur := H.dur.turn ht H.ne.symm
  lg := H.lg.turn ht fun b e e2 => H.l_rs (by rw [e, e2])
  mr := H.mr.turn ht fun b e e2 => H.m_rs (by rw [e, e2])
  len := H.len
  im i m F h1 h2 := (H.im i m F h1 h2).turn ht fun e => (H.out m (List.mem_of_getElem? h1)).1 e
  ne := H.ne
  out := H.out
/-- The unflushed writes let go of. -/
theorem Mm.noLog (H : Mm w g rs rd vl vm ms n S D log marks f h) : Mm (w.setCell ⟨g, 3, none⟩ (.slice none 0 0)) g rs rd (.slice none 0 0) vm ms n S D [] marks f h where
  blk := H.blk.setCell_same 3 _
  pos := H.pos
  seen := H.seen.turn (Turn.setCell (S := fun b => b = g) w ⟨g, 3, none⟩ _ rfl) fun e => H.g_rs e.symm
  dur := H.dur.turn (Turn.setCell (S := fun b => b = g) w ⟨g, 3, none⟩ _ rfl) fun e => H.g_rd e.symm
  lg := OwnX.nil _ _ _ _ _
  mr := H.mr.turn (Turn.setCell (S := fun b => b = g) w ⟨g, 3, none⟩ _ rfl) fun b e e2 => H.m_g (by rw [e, e2])
  len := H.len
  im i m F h1 h2 := (H.im i m F h1 h2).turn (Turn.setCell (S := fun b => b = g) w ⟨g, 3, none⟩ _ rfl) fun e => map_ne (H.im i m F h1 h2) H.blk e.symm
  ne := H.ne
  out := H.out
end
section
variable {ops : Array Oper} {Q : Exit → Act → World → Prop} {a : Act} {w : World} {rest : List Oper} {dst : Option Tmp} {ty T : TypeId} {pos : String} {after : Array Edge} {z : Array Value} {C : World → Prop} {Qk : Act → Prop} {gd : Option (Nat × Bool)} {m x : Operand} {r : Nat} {i : Int} {F : Img}
theorem alZ (hz : ∀ w, (zeroValue T).run Tryz.prog w = .ok (.agg z) w) (h : wpList Tryz.prog ops Q rest (a.put dst (.pointer (some ⟨w.heap.size, 0, none⟩))) (w.alloc (.cells z T))) :
    wpList Tryz.prog ops Q (⟨dst, .alloc T, ty, pos, after, none⟩ :: rest) a w := by
  have hr : (Instr.alloc T true (.tuple #[])).run Tryz.prog w = .ok (.pointer (some ⟨w.heap.size, 0, none⟩)) (w.alloc (.cells z T)) := by
    simp [Instr.alloc, Sem.run_bind, hz w, newVar, newRow, Value.cells]
  refine wpList_plain rfl fun K hK => ?_
  unfold Oper.wp execOp
  simp only [Sem.run_bind, hr, Result.andThen_ok, Sem.run_pure]
  exact hK _ _ h
theorem klookM (hwt : Region.wanted ⟨dst, .lookup 112 m x false, ty, pos, after, gd⟩ (yielded ops a.tmps) = true) (hm : a.eval m = .map (some r)) (hx : a.eval x = .int .i64 i) (h : ∀ w, C w → MapB w r F)
    (hk : wpK Tryz.prog ops C Qk rest (a.put dst (.agg (ar 64 (F i))))) : wpK Tryz.prog ops C Qk (⟨dst, .lookup 112 m x false, ty, pos, after, gd⟩ :: rest) a :=
  wpK_val hwt (fun w hw => gives_value (w' := w) (by simp [execOp, hm, hx, run_look (h w hw) i, Result.andThen]) hw) hk
end
theorem cf_yes (args : Array Value) (w : World) : (callFunc 80 args).run Tryz.prog w = .ok (.enter 80 args) w := by
  simp [callFunc, Tryz.func80, Tryz.f80]
theorem cf_pick (args : Array Value) (w : World) : (callFunc 102 args).run Tryz.prog w = .ok (.enter 102 args) w := by
  simp [callFunc, Tryz.func102, Tryz.f102]
theorem zWr (w : World) : (zeroValue 134).run Tryz.prog w = .ok (.agg (atL ⟨0, zero⟩).toArray) w := (zero_of_info (P := Tryz.prog) (t := 134) (v := .agg (atL ⟨0, zero⟩).toArray) (n := 65) (by kernel_rfl)).1 w
theorem atL_size (p q : Pt) : (atL p).toArray.size = (atL q).toArray.size := by rw [List.size_toArray, List.size_toArray, atL_len, atL_len]
section
variable {w : World} {g rs rd : Nat} {vl vm : Value} {ms : List Nat} {n : Int} {S D : Img} {log : List Pt} {marks : List Img} {f h : Bool}
set_option maxHeartbeats 1000000 in
set_option maxRecDepth 100000 in
theorem settle_any (fn : FuncId) (cap : Array Value) (q : Nat → Bool) (hcf : ∀ args w, (callFunc fn args).run Tryz.prog w = .ok (.enter fn args) w) (H : Mm w g rs rd vl vm ms n S D log marks f h) (hlen : log.length ≤ 1000000)
    (hq : ∀ (k : Nat) w1, k < log.length → Turn (fun b => b = rd) w w1 → Calls Tryz.prog fn (#[.int .i64 k] ++ cap) w1 fun e w' => e = .returned (.bool (q k)) ∧ w1 = w') :
    Calls Tryz.prog 79 #[at' g, .func (.func fn) #[] cap] w fun e w' => ∃ E, E = app D (keptB log q log.length) ∧ e = .returned (.tuple #[]) ∧
      Mm w' g rs rd (.slice none 0 0) vm ms n (app S (log.map fun p => ⟨p.i, E p.i⟩)) E [] marks f h ∧ Turn (fun b => b = g ∨ b = rs ∨ b = rd) w w' := by
  obtain ⟨A, c, rfl, _⟩ := H.lg.sli atL_len
  have HH := hid H
  have HQ := hid hq
  have p3 : w.cell? ⟨g, 3, none⟩ = some (.slice A log.length c) := H.blk.cell 3
  unfold at'
  clear H hq
  go_enter Tryz.func79, Tryz.ntmps79
  go_wp2_with fail
  go_loopw [13] (fun u wr => ∃ k : Nat, u = .int .i64 k ∧ k ≤ log.length ∧ Hid (Mm wr g rs rd (.slice A log.length c) vm ms n S (app D (keptB log q k)) log marks f h) ∧ Hid (Turn (fun b => b = rd) w wr)) (fun u _ => log.length - (intOf u).toNat)
  case atStart => exact ⟨0, rfl, Nat.zero_le _, hid HH.out, hid (Turn.refl _ _)⟩
  case round =>
    obtain ⟨k, rfl, hk, hM, hT⟩ := hrel
    by_cases hgo : k < log.length
    · have t1 : (k : Int) < (log.length : Int) := by omega
      obtain ⟨p, hp⟩ : ∃ p, log[k]? = some p := ⟨_, List.getElem?_eq_getElem hgo⟩
      obtain ⟨A', c', e', sl⟩ := hM.out.lg.sli atL_len
      cases e'
      obtain ⟨b, o, rfl, _, hbl, hr⟩ := sl.some hp
      have HR := hid hr
      have HP := hid hp
      clear sl hr hp
      go_upto_region 3 with (first
        | ((with_reducible apply ldR (cs := (atL p).toArray) (tWr p)); rfl; exact HR.out)
        | (with_reducible apply alZ zWr)
        | ((with_reducible apply stR (tWr p)); rfl; rfl; exact Blk.new _ _ _; exact atL_size _ _; exact at_one p))
      generalize hw2 : World.setRow _ _ _ = w2
      have b2 := hid (show Blk w2 wr.heap.size 134 (atL p).toArray by rw [← hw2]; exact (Blk.new wr _ _).setRow_same _)
      have h2 := hid (show Below wr.heap.size wr w2 by rw [← hw2]; exact below_setRow ((Below.refl _ _).alloc (Nat.le_refl _) _) (Nat.le_refl _) _)
      have M2 := hid (hM.out.below h2.out)
      have T2 := hid (show Turn (fun b => b = rd) w w2 from hT.out.trans (Turn.of_new (S := fun b => b = rd) h2.out) fun _ e => .inl e)
      clear hw2 hM hT h2 HR
      go_wp2_with fail
      refine (HQ.out k w2 hgo T2.out).mono ?_
      rintro e w3 ⟨rfl, rfl⟩
      obtain ⟨v, hv⟩ : ∃ v, v = q k := ⟨_, rfl⟩
      rw [← hv]
      have HV := hid hv.symm
      clear hv
      cases v with
      | false =>
        have hk1 := hid (show keptB log q (k + 1) = keptB log q k from keptB_no HV.out)
        go_wp2_with fail
        go_roundw
        case rel => exact ⟨k + 1, by go_num, by omega, hid (by rw [hk1.out]; exact M2.out), T2⟩
        case measure => simp [intOf] <;> omega
      | true =>
        have hk1 := hid (show app D (keptB log q (k + 1)) = upd (app D (keptB log q k)) ⟨p.i, p.s⟩ by rw [keptB_yes HP.out HV.out, app_snoc])
        go_upto_region 4 with fail
        refine wp_region_tail (C := fun w' => Below w2.heap.size w2 w') 8 (by kernel_rfl) (by kernel_rfl) (by kernel_rfl) (Below.refl _ _).drew ?_
        apply wpK_val
        · rfl
        · intro w' hw'
          go_simp
          first | exact rfl | exact ⟨rfl, hw'⟩
        simp only [Act.put, List.setIfInBounds_toArray, List.set_cons_succ, List.set_cons_zero]
        apply wpK_val
        · rfl
        · intro w' hw'
          go_simp
          first | exact rfl | exact ⟨rfl, hw'⟩
        simp only [Act.put, List.setIfInBounds_toArray, List.set_cons_succ, List.set_cons_zero]
        apply wpK_val
        · rfl
        · intro w' hw'
          go_simp
          first | exact rfl | exact ⟨rfl, hw'⟩
        simp only [Act.put, List.setIfInBounds_toArray, List.set_cons_succ, List.set_cons_zero]
        apply wpK_val
        · rfl
        · intro w' hw'
          have hcell := (M2.out.below hw').blk.cell 2
          go_simp
          first | exact rfl | exact ⟨rfl, hw'⟩
        simp only [Act.put, List.setIfInBounds_toArray, List.set_cons_succ, List.set_cons_zero]
        apply wpK_val
        · rfl
        · intro w' hw'
          go_simp
          first | exact rfl | exact ⟨rfl, hw'⟩
        simp only [Act.put, List.setIfInBounds_toArray, List.set_cons_succ, List.set_cons_zero]
        apply wpK_val
        · rfl
        · intro w' hw'
          have hcell := at_i ((b2.out.below hw' b2.out.lt).whole)
          go_simp
          first | exact rfl | exact ⟨rfl, hw'⟩
        simp only [Act.put, List.setIfInBounds_toArray, List.set_cons_succ, List.set_cons_zero]
        apply wpK_val
        · rfl
        · intro w' hw'
          go_simp
          first | exact rfl | exact ⟨rfl, hw'⟩
        simp only [Act.put, List.setIfInBounds_toArray, List.set_cons_succ, List.set_cons_zero]
        apply kldA tSe
        · rfl
        · rfl
        · exact fun w' hw' => at_s ((b2.out.below hw' b2.out.lt).whole)
        simp only [Act.put, List.setIfInBounds_toArray, List.set_cons_succ, List.set_cons_zero]
        intro w3 hC3
        have M3 := hid (M2.out.below hC3)
        have T3 := hid (T2.out.trans (Turn.of_new (S := fun b => b = rd) hC3) fun _ e => .inl e)
        clear b2 M2 T2 hC3
        go_wp2_with fail
        refine (put_any rd (app D (keptB log q k)) p.i p.s w3 M3.out.dur).mono ?_
        rintro e w4 ⟨rfl, m4, t4⟩
        have M4 := hid (M3.out.setD t4 m4)
        have T4 := hid (T3.out.trans t4 fun _ e => .inl e)
        clear M3 T3 m4 t4
        go_wp2_with fail
        go_roundw
        case rel => exact ⟨k + 1, by go_num, by omega, hid (by rw [hk1.out]; exact M4.out), T4⟩
        case measure => simp [intOf] <;> omega
    · have hkl : k = log.length := by omega
      subst hkl
      have t1 : ¬ log.length < log.length := by omega
      obtain ⟨E, hE⟩ : ∃ E, E = app D (keptB log q log.length) := ⟨_, rfl⟩
      have HE := hid hE
      rw [← hE] at hM
      have p3 : wr.cell? ⟨g, 3, none⟩ = some (.slice A log.length c) := hM.out.blk.cell 3
      clear HH HQ hgo hk hE
      go_wp2_with fail
      go_loopw [36] (fun u wr => ∃ k : Nat, u = .int .i64 k ∧ k ≤ log.length ∧ Hid (Mm wr g rs rd (.slice A log.length c) vm ms n (app S ((log.take k).map fun p => ⟨p.i, E p.i⟩)) E log marks f h) ∧ Hid (Turn (fun b => b = g ∨ b = rs ∨ b = rd) w wr)) (fun u _ => log.length - (intOf u).toNat)
      case atStart => exact ⟨0, rfl, Nat.zero_le _, hid (by rw [List.take_zero]; exact hM.out), hid (hT.out.mono fun _ e => .inr (.inr e))⟩
      case round =>
        clear hM hT
        obtain ⟨k, rfl, hk, hM, hT⟩ := hrel
        by_cases hgo : k < log.length
        · have t1 : (k : Int) < (log.length : Int) := by omega
          obtain ⟨p, hp⟩ : ∃ p, log[k]? = some p := ⟨_, List.getElem?_eq_getElem hgo⟩
          obtain ⟨A', c', e', sl⟩ := hM.out.lg.sli atL_len
          cases e'
          obtain ⟨b, o, rfl, _, hbl, hr⟩ := sl.some hp
          have HR := hid hr
          have hk1 := hid (show app S ((log.take (k + 1)).map fun p => ⟨p.i, E p.i⟩) = upd (app S ((log.take k).map fun p => ⟨p.i, E p.i⟩)) ⟨p.i, E p.i⟩ by
            rw [List.take_add_one, hp, Option.toList_some, List.map_append, List.map_cons, List.map_nil, app_snoc])
          clear sl hr hp
          go_upto_region 9 with (first
            | ((with_reducible apply ldR (cs := (atL p).toArray) (tWr p)); rfl; exact HR.out)
            | (with_reducible apply alZ zWr)
            | ((with_reducible apply stR (tWr p)); rfl; rfl; exact Blk.new _ _ _; exact atL_size _ _; exact at_one p))
          generalize hw2 : World.setRow _ _ _ = w3
          have b2 := hid (show Blk w3 wr.heap.size 134 (atL p).toArray by rw [← hw2]; exact (Blk.new wr _ _).setRow_same _)
          have h2 := hid (show Below wr.heap.size wr w3 by rw [← hw2]; exact below_setRow ((Below.refl _ _).alloc (Nat.le_refl _) _) (Nat.le_refl _) _)
          have M2 := hid (hM.out.below h2.out)
          have T2 := hid (show Turn (fun b => b = g ∨ b = rs ∨ b = rd) w w3 from hT.out.trans (Turn.of_new (S := fun b => b = g) h2.out) fun _ e => .inl (.inl e))
          clear hw2 hM hT h2 HR
          refine wp_region_tail (C := fun w' => Below w3.heap.size w3 w') 13 (by kernel_rfl) (by kernel_rfl) (by kernel_rfl) (Below.refl _ _).drew ?_
          apply wpK_val
          · rfl
          · intro w' hw'
            go_simp
            first | exact rfl | exact ⟨rfl, hw'⟩
          simp only [Act.put, List.setIfInBounds_toArray, List.set_cons_succ, List.set_cons_zero]
          apply wpK_val
          · rfl
          · intro w' hw'
            go_simp
            first | exact rfl | exact ⟨rfl, hw'⟩
          simp only [Act.put, List.setIfInBounds_toArray, List.set_cons_succ, List.set_cons_zero]
          apply wpK_val
          · rfl
          · intro w' hw'
            go_simp
            first | exact rfl | exact ⟨rfl, hw'⟩
          simp only [Act.put, List.setIfInBounds_toArray, List.set_cons_succ, List.set_cons_zero]
          apply wpK_val
          · rfl
          · intro w' hw'
            have hcell := (M2.out.below hw').blk.cell 1
            go_simp
            first | exact rfl | exact ⟨rfl, hw'⟩
          simp only [Act.put, List.setIfInBounds_toArray, List.set_cons_succ, List.set_cons_zero]
          apply wpK_val
          · rfl
          · intro w' hw'
            go_simp
            first | exact rfl | exact ⟨rfl, hw'⟩
          simp only [Act.put, List.setIfInBounds_toArray, List.set_cons_succ, List.set_cons_zero]
          apply wpK_val
          · rfl
          · intro w' hw'
            have hcell := at_i ((b2.out.below hw' b2.out.lt).whole)
            go_simp
            first | exact rfl | exact ⟨rfl, hw'⟩
          simp only [Act.put, List.setIfInBounds_toArray, List.set_cons_succ, List.set_cons_zero]
          apply wpK_val
          · rfl
          · intro w' hw'
            go_simp
            first | exact rfl | exact ⟨rfl, hw'⟩
          simp only [Act.put, List.setIfInBounds_toArray, List.set_cons_succ, List.set_cons_zero]
          apply wpK_val
          · rfl
          · intro w' hw'
            go_simp
            first | exact rfl | exact ⟨rfl, hw'⟩
          simp only [Act.put, List.setIfInBounds_toArray, List.set_cons_succ, List.set_cons_zero]
          apply wpK_val
          · rfl
          · intro w' hw'
            go_simp
            first | exact rfl | exact ⟨rfl, hw'⟩
          simp only [Act.put, List.setIfInBounds_toArray, List.set_cons_succ, List.set_cons_zero]
          apply wpK_val
          · rfl
          · intro w' hw'
            have hcell := (M2.out.below hw').blk.cell 2
            go_simp
            first | exact rfl | exact ⟨rfl, hw'⟩
          simp only [Act.put, List.setIfInBounds_toArray, List.set_cons_succ, List.set_cons_zero]
          apply wpK_val
          · rfl
          · intro w' hw'
            go_simp
            first | exact rfl | exact ⟨rfl, hw'⟩
          simp only [Act.put, List.setIfInBounds_toArray, List.set_cons_succ, List.set_cons_zero]
          apply wpK_val
          · rfl
          · intro w' hw'
            have hcell := at_i ((b2.out.below hw' b2.out.lt).whole)
            go_simp
            first | exact rfl | exact ⟨rfl, hw'⟩
          simp only [Act.put, List.setIfInBounds_toArray, List.set_cons_succ, List.set_cons_zero]
          apply klookM (r := rd) (i := p.i) (F := E)
          · rfl
          · rfl
          · rfl
          · exact fun w' hw' => (M2.out.below hw').dur
          simp only [Act.put, List.setIfInBounds_toArray, List.set_cons_succ, List.set_cons_zero]
          intro w4 hC4
          have M4 := hid (M2.out.below hC4)
          have T4 := hid (T2.out.trans (Turn.of_new (S := fun b => b = g) hC4) fun _ e => .inl (.inl e))
          clear b2 M2 T2 hC4
          go_wp2_with fail
          refine (put_any rs (app S ((log.take k).map fun p => ⟨p.i, E p.i⟩)) p.i (E p.i) w4 M4.out.seen).mono ?_
          rintro e w5 ⟨rfl, m5, t5⟩
          have M5 := hid (M4.out.setS t5 m5)
          have T5 := hid (T4.out.trans t5 fun _ e => .inl (.inr (.inl e)))
          clear M4 T4 m5 t5
          go_wp2_with fail
          go_roundw
          case rel => exact ⟨k + 1, by go_num, by omega, hid (by rw [hk1.out]; exact M5.out), T5⟩
          case measure => simp [intOf] <;> omega
        · have hkl : k = log.length := by omega
          subst hkl
          have t1 : ¬ log.length < log.length := by omega
          rw [List.take_length] at hM
          have p3 : wr.cell? ⟨g, 3, none⟩ = some (.slice A log.length c) := hM.out.blk.cell 3
          have fz := hM.out.blk.frozen 3
          have hfin := hid (And.intro hM.out.noLog (hT.out.trans (Turn.setCell (S := fun b => b = g) wr ⟨g, 3, none⟩ (.slice none 0 0) rfl) fun _ e => .inl (.inl e)))
          clear hM hT hgo hk
          go_wp2_with fail
          go_end0
          exact ⟨E, HE.out, rfl, hfin.out⟩
/-- What settle leaves, in the words of the document. -/
theorem sem_settle {st : St} {k : List Pt} (hk : ∀ p ∈ k, p ∈ st.log) : app (MbM.seen st) (st.log.map fun p => ⟨p.i, app st.dur k p.i⟩) = app st.dur k := resee hk
set_option maxHeartbeats 400000 in
theorem flush2_any (H : Mm w g rs rd vl vm ms n S D log marks f h) (hlen : log.length ≤ 1000000) :
    Calls Tryz.prog 55 #[at' g] w fun e w' => (f = true ∧ e = .returned (.int .i64 10) ∧ w = w') ∨ (f = false ∧ ∃ E, E = app D log ∧ e = .returned (.int .i64 0) ∧
      Mm w' g rs rd (.slice none 0 0) vm ms n (app S (log.map fun p => ⟨p.i, E p.i⟩)) E [] marks f h ∧ Turn (fun b => b = g ∨ b = rs ∨ b = rd) w w') := by
  have HH := hid H
  have hn := hid H.pos
  have hq := hid (show decide ((0 : Int) ≤ 0 ∧ 0 < n) = true by simp; exact H.pos)
  have p0 : w.cell? ⟨g, 0, none⟩ = some (.int .i64 n) := H.blk.cell 0
  have p5 : w.cell? ⟨g, 5, none⟩ = some (.bool f) := H.blk.cell 5
  unfold at'
  clear H
  go_enter Tryz.func55, Tryz.ntmps55
  go_wp2_with fail
  refine (reach_any g n hn.out 0 true f hq.out w p0 p5).mono ?_
  rintro e w' ⟨rfl, rfl⟩
  cases f with
  | true =>
    go_wp2_with fail
    go_ret
    exact ⟨rfl, rfl⟩
  | false =>
    go_wp2_with fail
    refine (settle_any 80 #[] (fun _ => true) cf_yes HH.out hlen fun k w1 _ _ => yes_any k w1).mono ?_
    rintro e w2 ⟨E, hE, rfl, M2, T2⟩
    have M2 := hid M2
    have T2 := hid T2
    have HE := hid (show E = app D log by rw [hE, keptB_all log _ (Nat.le_refl _), List.take_length])
    clear hE
    have M3 := hid (show Mm w2 g rs rd (.slice none 0 0) vm ms n (app S (log.map fun p => ⟨p.i, app D log p.i⟩)) (app D log) [] marks false h by have := M2.out; rw [HE.out] at this; exact this)
    go_wp2_with fail
    go_ret
    exact ⟨rfl, M3.out, T2.out⟩
set_option maxHeartbeats 400000 in
theorem crash2_any (H : Mm w g rs rd vl vm ms n S D log marks f h) (hlen : log.length ≤ 1000000) (P : Option Addr) (picks : List Nat) (pn pc : Nat) (hp : Arg w P picks pn pc) (hne : ∀ b o, 0 < picks.length → P = some ⟨b, o, none⟩ → b ≠ rd) :
    Calls Tryz.prog 99 #[at' g, .slice P pn pc] w fun e w' => ∃ E, E = app D (kept log picks) ∧ e = .returned (.int .i64 0) ∧
      Mm w' g rs rd (.slice none 0 0) vm ms n (app S (log.map fun p => ⟨p.i, E p.i⟩)) E [] marks f h ∧ Turn (fun b => b = g ∨ b = rs ∨ b = rd) w w' := by
  have HH := hid H
  have hn := hid H.pos
  have HP := hid hp
  have HN := hid hne
  unfold at'
  clear H hp hne
  go_enter Tryz.func99, Tryz.ntmps99
  go_upto_region 1 with fail
  generalize hw1 : World.alloc w _ = w1
  have b1 := hid (show Blk w1 w.heap.size 60 #[.slice P pn pc] by rw [← hw1]; exact Blk.new _ _ _)
  have BEL := hid (show Below w.heap.size w w1 by rw [← hw1]; exact (Below.refl _ _).alloc (Nat.le_refl _) _)
  have H1 := hid (HH.out.below BEL.out)
  have P1 := hid (HP.out.on BEL.out)
  have hgl := HH.out.dur.lt
  clear hw1 HP
  have p0 : w1.cell? ⟨g, 0, none⟩ = some (.int .i64 n) := H1.out.blk.cell 0
  go_wp2_with fail
  refine (made_any g n hn.out w1 p0).mono ?_
  rintro e w' ⟨rfl, rfl⟩
  go_wp2_with fail
  refine (settle_any 102 #[.pointer (some ⟨w.heap.size, 0, none⟩)] (fun k => decide (picks.getD k 0 ≠ 0)) cf_pick H1.out hlen fun k w2 _ ht => picked_any w.heap.size P picks pn pc k w2 ?_ ?_).mono ?_
  · exact (b1.out.turn ht (by omega)).cell 0
  · exact P1.out.turn ht fun b o h1 h2 => HN.out b o h1 h2
  rintro e w2 ⟨E, hE, rfl, M2, T2⟩
  have M2 := hid M2
  have T2 := hid ((Turn.of_new (S := fun b => b = g ∨ b = rs ∨ b = rd) BEL.out).trans T2 fun _ e => .inl e)
  have HE := hid (show E = app D (kept log picks) by rw [hE, keptB_picks]; rfl)
  clear hE
  go_wp2_with fail
  go_ret
  exact ⟨E, HE.out, rfl, M2.out, T2.out⟩
end
end MbO
end Go.Proofs.YthogklchmhjjkaaGreat
set_option maxRecDepth 100000
namespace Go.Proofs.YthogklchmhjjkaaGreat
open Go.ChangeShapes Go.WideShapes Go.ChangeAt Go.RowKit
attribute [local go_sem] Gives GivesE
namespace MbO
open MbM MbP
theorem built_wr (i : Int) (x : Nat → Nat) : Tryz.prog.built 134 [(0, .int .i64 i), (1, .agg (ar 64 x))] = some (atL ⟨i, x⟩).toArray := by
  have h := built_struct (T := 134) (ss := [(0, 1), (1, 64)]) (N := 65) (by kernel_rfl) Tryz.underlying134 (by kernel_rfl) ⟨rfl, rfl, trivial⟩ rfl [.int .i64 i, .agg (ar 64 x)] (by simp [Value.cells, size_ar])
  simp only [partsAt] at h
  rw [h]
  simp [atL, Value.cells]
section
variable {a : Act} {w : World} {dst : Option Tmp} {ty : TypeId} {pos : String} {after : Array Edge} {o1 o2 : Operand} {i : Int} {x : Nat → Nat}
theorem gE_wr {gd : Option (Nat × Bool)} {R : Value → World → Prop} (h1 : a.eval o1 = .int .i64 i) (h2 : a.eval o2 = .agg (ar 64 x)) (h : R (.agg (atL ⟨i, x⟩).toArray) w) : GivesE Tryz.prog ⟨dst, .build 134 #[(0, o1), (1, o2)], ty, pos, after, gd⟩ a w R := by
  have hm : (#[(0, o1), (1, o2)] : Array (Nat × Operand)).map (fun (i, x) => (i, a.eval x)) = #[(0, .int .i64 i), (1, .agg (ar 64 x))] := by
    simp only [List.map_toArray, List.map_cons, List.map_nil, h1, h2]
  have hr : (Instr.build 134 #[(0, .int .i64 i), (1, .agg (ar 64 x))]).run Tryz.prog w = .ok (.agg (atL ⟨i, x⟩).toArray) w := run_build w _ _ _ (built_wr i x)
  unfold GivesE execOp
  simp only [Sem.run_bind, hm, hr, Result.andThen_ok, Sem.run_pure]
  exact h
end
/-- What holds in the midst of Mark. -/
structure MkC (w0 : World) (vm : Value) (l : List (Option Nat)) (S : Img) (d9 d10 d11 : Bool) (v9 v10 v11 : Value) (w' : World) : Prop where
  t : Turn (fun b => vm.ownBlock = some b) w0 w'
  b : d11 = false → Below w0.heap.size w0 w'
  c1 : d11 = true → d10 = true
  c2 : d10 = true → d9 = true
  im : d9 = true → ∃ r, v9 = .map (some r) ∧ MapB w' r S ∧ w0.heap.size ≤ r
  lit : d10 = true → d11 = false → ∃ A c r, v9 = .map (some r) ∧ v10 = .slice A 1 c ∧ Sli 1 imE (fun b => w0.heap.size ≤ b) w' A [some r] 1 c
  own : d11 = true → ∃ r, v9 = .map (some r) ∧ OwnM w' 0 v11 (l ++ [some r]) ∧ ∀ b, v11.ownBlock = some b → vm.ownBlock = some b ∨ w0.heap.size ≤ b
section
variable {w w' : World} {g rs rd : Nat} {vl vl' vm vm' : Value} {ms ms' : List Nat} {n : Int} {S D : Img} {log log' : List Pt} {marks marks' : List Img} {f h : Bool}
/-- The unflushed writes are others. -/
theorem Mm.setL (H : Mm w g rs rd vl vm ms n S D log marks f h) (ht : Turn (fun b => vl.ownBlock = some b) w w') (ho : OwnL w' 0 vl' log') : Mm (w'.setCell ⟨g, 3, none⟩ vl') g rs rd vl' vm ms n S D log' marks f h := by
  have hb : Blk w' g 116 (mbC7 n rs rd vl vm f h) := H.blk.turn ht H.l_g
  have hs : MapB w' rs S := H.seen.turn ht H.l_rs
  have hd : MapB w' rd D := H.dur.turn ht H.l_rd
  have hm : OwnM w' 0 vm (ms.map some) := H.mr.turn ht fun b e e2 => H.l_m e2 e
  have hi : ∀ (i m : Nat) (F : Img), ms[i]? = some m → marks[i]? = some F → MapB w' m F := fun i m F h1 h2 => (H.im i m F h1 h2).turn ht fun e => by
    obtain ⟨c, hc⟩ := H.lg.obj e; exact map_ne (H.im i m F h1 h2) hc rfl
  have tu := Turn.setCell (S := fun b => b = g) w' ⟨g, 3, none⟩ vl' rfl
  exact {
    blk := hb.setCell_same 3 vl'
    pos := H.pos
    seen := hs.turn tu fun e => H.g_rs e.symm
    dur := hd.turn tu fun e => H.g_rd e.symm
    lg := ho.turn tu fun b e e2 => by
      obtain ⟨c, hc⟩ := ho.obj e
      have h2 : w'.heap[g]? = some (.cells _ 116 (0, 0)) := hb
      rw [e2, h2] at hc
      simp at hc
    mr := hm.turn tu fun b e e2 => H.m_g (by rw [e, e2])
    len := H.len
    im := fun i m F h1 h2 => (hi i m F h1 h2).turn tu fun e => map_ne (H.im i m F h1 h2) H.blk e.symm
    ne := H.ne
    out := H.out }
/-- The marks are others. -/
theorem Mm.setM (H : Mm w g rs rd vl vm ms n S D log marks f h) (ht : Turn (fun b => vm.ownBlock = some b) w w') (ho : OwnM w' 0 vm' (ms'.map some)) (hl : ms'.length = marks'.length)
    (him : ∀ (i m : Nat) (F : Img), ms'[i]? = some m → marks'[i]? = some F → MapB w' m F) (hout : ∀ m, m ∈ ms' → m ≠ rs ∧ m ≠ rd) : Mm (w'.setCell ⟨g, 4, none⟩ vm') g rs rd vl vm' ms' n S D log marks' f h := by
  have hb : Blk w' g 116 (mbC7 n rs rd vl vm f h) := H.blk.turn ht H.m_g
  have hs : MapB w' rs S := H.seen.turn ht H.m_rs
  have hd : MapB w' rd D := H.dur.turn ht H.m_rd
  have hl2 : OwnL w' 0 vl log := H.lg.turn ht fun b e e2 => H.l_m e e2
  have tu := Turn.setCell (S := fun b => b = g) w' ⟨g, 4, none⟩ vm' rfl
  exact {
    blk := hb.setCell_same 4 vm'
    pos := H.pos
    seen := hs.turn tu fun e => H.g_rs e.symm
    dur := hd.turn tu fun e => H.g_rd e.symm
    lg := hl2.turn tu fun b e e2 => H.l_g (by rw [e, e2])
    mr := ho.turn tu fun b e e2 => by
      obtain ⟨c, hc⟩ := ho.obj e
      have h2 : w'.heap[g]? = some (.cells _ 116 (0, 0)) := hb
      rw [e2, h2] at hc
      simp at hc
    len := hl
    im := fun i m F h1 h2 => (him i m F h1 h2).turn tu fun e => map_ne (him i m F h1 h2) hb e.symm
    ne := H.ne
    out := hout }
set_option maxHeartbeats 400000 in
theorem write2_bad (H : Mm w g rs rd vl vm ms n S D log marks f h) (i : Int) (q : Bool) (hq : decide (0 ≤ i ∧ i < n) = q) (x : Nat → Nat) (hb : q = false ∨ f = true) :
    Calls Tryz.prog 48 #[at' g, .int .i64 i, .agg (ar 64 x)] w fun e w' => e = .returned (.int .i64 (if q then (if f then 10 else 0) else 2)) ∧ Below w.heap.size w w' := by
  have HH := hid H
  have HQ := hid hq
  have hn := hid H.pos
  unfold at'
  clear H hq
  go_enter Tryz.func48, Tryz.ntmps48
  go_upto_region 1 with fail
  generalize hw1 : World.alloc w _ = w1
  have BEL := hid (show Below w.heap.size w w1 by rw [← hw1]; exact (Below.refl _ _).alloc (Nat.le_refl _) _)
  have H1 := hid (HH.out.below BEL.out)
  clear hw1 HH
  have p0 : w1.cell? ⟨g, 0, none⟩ = some (.int .i64 n) := H1.out.blk.cell 0
  have p5 : w1.cell? ⟨g, 5, none⟩ = some (.bool f) := H1.out.blk.cell 5
  go_wp2_with fail
  refine (reach_any g n hn.out i q f HQ.out w1 p0 p5).mono ?_
  rintro e w' ⟨rfl, rfl⟩
  cases q with
  | false =>
    go_wp2_with fail
    go_ret
    exact ⟨rfl, BEL.out⟩
  | true =>
    obtain rfl : f = true := by rcases hb with e | e; cases e; exact e
    go_wp2_with fail
    go_ret
    exact ⟨rfl, BEL.out⟩
set_option maxHeartbeats 1000000 in
set_option maxRecDepth 100000 in
theorem write2_any (H : Mm w g rs rd vl vm ms n S D log marks false h) (i : Int) (hq : decide (0 ≤ i ∧ i < n) = true) (x : Nat → Nat) (hlen : log.length ≤ 10000) :
    Calls Tryz.prog 48 #[at' g, .int .i64 i, .agg (ar 64 x)] w fun e w' => e = .returned (.int .i64 0) ∧ ∃ vl', Mm w' g rs rd vl' vm ms n (upd S ⟨i, x⟩) D (log ++ [⟨i, x⟩]) marks false h ∧
      (∀ b, vl'.ownBlock = some b → vl.ownBlock = some b ∨ w.heap.size ≤ b) ∧ Turn (mSet g rs rd vl vm) w w' := by
  obtain ⟨A, c, rfl, _⟩ := H.lg.sli atL_len
  have HH := hid H
  have HQ := hid hq
  have hn := hid H.pos
  unfold at'
  clear H hq
  go_enter Tryz.func48, Tryz.ntmps48
  go_upto_region 1 with fail
  generalize hw1 : World.alloc w _ = w1
  have b1 := hid (show Blk w1 w.heap.size 43 (ar 64 x) by rw [← hw1]; exact Blk.new _ _ _)
  have BEL := hid (show Below w.heap.size w w1 by rw [← hw1]; exact (Below.refl _ _).alloc (Nat.le_refl _) _)
  have H1 := hid (HH.out.below BEL.out)
  have hrs := HH.out.seen.lt
  clear hw1 HH
  have p0 : w1.cell? ⟨g, 0, none⟩ = some (.int .i64 n) := H1.out.blk.cell 0
  have p5 : w1.cell? ⟨g, 5, none⟩ = some (.bool false) := H1.out.blk.cell 5
  go_wp2_with fail
  refine (reach_any g n hn.out i true false HQ.out w1 p0 p5).mono ?_
  rintro e w' ⟨rfl, rfl⟩
  go_upto_region 4 with fail
  refine wp_region_tail (C := fun w' => Below w1.heap.size w1 w') 6 (by kernel_rfl) (by kernel_rfl) (by kernel_rfl) (Below.refl _ _).drew ?_
  apply wpK_val
  · rfl
  · intro w' hw'
    go_simp
    first | exact rfl | exact ⟨rfl, hw'⟩
  simp only [Act.put, List.setIfInBounds_toArray, List.set_cons_succ, List.set_cons_zero]
  apply wpK_val
  · rfl
  · intro w' hw'
    go_simp
    first | exact rfl | exact ⟨rfl, hw'⟩
  simp only [Act.put, List.setIfInBounds_toArray, List.set_cons_succ, List.set_cons_zero]
  apply wpK_val
  · rfl
  · intro w' hw'
    go_simp
    first | exact rfl | exact ⟨rfl, hw'⟩
  simp only [Act.put, List.setIfInBounds_toArray, List.set_cons_succ, List.set_cons_zero]
  apply wpK_val
  · rfl
  · intro w' hw'
    have hcell := (H1.out.below hw').blk.cell 1
    go_simp
    first | exact rfl | exact ⟨rfl, hw'⟩
  simp only [Act.put, List.setIfInBounds_toArray, List.set_cons_succ, List.set_cons_zero]
  apply wpK_val
  · rfl
  · intro w' hw'
    go_simp
    first | exact rfl | exact ⟨rfl, hw'⟩
  simp only [Act.put, List.setIfInBounds_toArray, List.set_cons_succ, List.set_cons_zero]
  apply kldA tSe
  · rfl
  · rfl
  · exact fun w' hw' => ((b1.out.below hw' b1.out.lt).head)
  simp only [Act.put, List.setIfInBounds_toArray, List.set_cons_succ, List.set_cons_zero]
  intro w2 hC2
  have H2 := hid (H1.out.below hC2)
  have B2 := hid (BEL.out.trans (hC2.mono BEL.out.size))
  have b2 := hid (b1.out.below hC2 b1.out.lt)
  clear H1 BEL b1 hC2 p0 p5
  go_wp2_with fail
  refine (put_any rs S i x w2 H2.out.seen).mono ?_
  rintro e w3 ⟨rfl, m3, t3⟩
  have H3 := hid (H2.out.setS t3 m3)
  have T3 := hid ((Turn.of_new (S := fun b => b = rs) B2.out).trans t3 fun _ e => .inl e)
  have b3 := hid (b2.out.turn t3 (by omega))
  have HBX := hid (show ¬ (Value.slice A log.length c).ownBlock = some w.heap.size from fun e => by
    obtain ⟨cur, hc⟩ := H3.out.lg.obj e
    have h2 : w3.heap[w.heap.size]? = some (.cells _ 43 (0, 0)) := b3.out
    rw [h2] at hc
    simp at hc)
  clear H2 B2 b2 m3 t3
  go_upto_region 5 with fail
  refine wp_region_c (S := yS [some (.pointer (some ⟨g, 0, none⟩)), some (.pointer (some ⟨g, 0, none⟩)), some (.pointer (some ⟨g, 0, none⟩)), some (.pointer (some ⟨g, 3, none⟩)), some (.slice A log.length c), some (.int .i64 i), some (.agg (ar 64 x)), some (.agg (atL ⟨i, x⟩).toArray), none, none, some (.pointer (some ⟨g, 0, none⟩)), some (.pointer (some ⟨g, 3, none⟩))]
      [(8, kSl 1), (9, kSl (log.length + 1))]) (C := fun d vs w' => ApC 134 65 atL w3 (.slice A log.length c) log (⟨i, x⟩ : Pt) (d 8) (d 9) (vs 8) (vs 9) w') 12 (by kernel_rfl) (by kernel_rfl) (by kernel_rfl) _
    (yS_ok _ fun y hy => by simp only [List.mem_cons, List.not_mem_nil, or_false] at hy; rcases hy with rfl | rfl <;> exact kSl_ok _) ⟨Turn.drew _, fun _ => (Below.refl _ _).drew, (fun e => by cases e), (fun e => by cases e)⟩ fun vs => ?_
  simp only [List.take_succ_cons, List.take_zero, List.drop_succ_cons, List.drop_zero]
  refine ⟨.inl ⟨rfl, fun dd w' hd hnx hw hC => ?_⟩, fun e => ?_⟩
  · go_simp
    first | exact ⟨rfl, hC⟩ | exact hC
  have e' : vs 0 = _ := e
  rw [e']
  clear e e'
  simp only [Act.put, List.setIfInBounds_toArray, List.set_cons_succ, List.set_cons_zero]
  refine ⟨.inl ⟨rfl, fun dd w' hd hnx hw hC => ?_⟩, fun e => ?_⟩
  · go_simp
    first | exact ⟨rfl, hC⟩ | exact hC
  have e' : vs 1 = _ := e
  rw [e']
  clear e e'
  simp only [Act.put, List.setIfInBounds_toArray, List.set_cons_succ, List.set_cons_zero]
  refine ⟨.inl ⟨rfl, fun dd w' hd hnx hw hC => ?_⟩, fun e => ?_⟩
  · go_simp
    first | exact ⟨rfl, hC⟩ | exact hC
  have e' : vs 2 = _ := e
  rw [e']
  clear e e'
  simp only [Act.put, List.setIfInBounds_toArray, List.set_cons_succ, List.set_cons_zero]
  refine ⟨.inl ⟨rfl, fun dd w' hd hnx hw hC => ?_⟩, fun e => ?_⟩
  · go_simp
    first | exact ⟨rfl, hC⟩ | exact hC
  have e' : vs 3 = _ := e
  rw [e']
  clear e e'
  simp only [Act.put, List.setIfInBounds_toArray, List.set_cons_succ, List.set_cons_zero]
  refine ⟨.inl ⟨rfl, fun dd w' hd hnx hw hC => ?_⟩, fun e => ?_⟩
  · have h1 : w'.cell? ⟨g, 3, none⟩ = some (.slice A log.length c) := (H3.out.blk.turn hC.t H3.out.l_g).cell 3
    go_simp
    first | exact ⟨rfl, hC⟩ | exact hC
  have e' : vs 4 = _ := e
  rw [e']
  clear e e'
  simp only [Act.put, List.setIfInBounds_toArray, List.set_cons_succ, List.set_cons_zero]
  refine ⟨.inl ⟨rfl, fun dd w' hd hnx hw hC => ?_⟩, fun e => ?_⟩
  · go_simp
    first | exact ⟨rfl, hC⟩ | exact hC
  have e' : vs 5 = _ := e
  rw [e']
  clear e e'
  simp only [Act.put, List.setIfInBounds_toArray, List.set_cons_succ, List.set_cons_zero]
  refine ⟨.inl ⟨rfl, fun dd w' hd hnx hw hC => ?_⟩, fun e => ?_⟩
  · exact gE_ldA tSe rfl ((b3.out.turn hC.t (HBX.out)).head) ⟨rfl, hC⟩
  have e' : vs 6 = _ := e
  rw [e']
  clear e e'
  simp only [Act.put, List.setIfInBounds_toArray, List.set_cons_succ, List.set_cons_zero]
  refine ⟨.inl ⟨rfl, fun dd w' hd hnx hw hC => ?_⟩, fun e => ?_⟩
  · exact gE_wr rfl rfl ⟨rfl, hC⟩
  have e' : vs 7 = _ := e
  rw [e']
  clear e e'
  simp only [Act.put, List.setIfInBounds_toArray, List.set_cons_succ, List.set_cons_zero]
  refine ⟨.inl ⟨rfl, fun dd w' hd hnx hw hC => ?_⟩, fun e => ?_⟩
  · have h9 : dd 9 = false := hnx 9 (by kernel_rfl)
    have ha := (Below.refl w'.heap.size w').alloc (Nat.le_refl _) (.cells (atL ⟨i, x⟩).toArray 134)
    have hbl := hC.b h9
    exact gE_lit1 (x := (⟨i, x⟩ : Pt)) eltWr undWr (by omega) rfl rfl ⟨⟨_, _, rfl⟩, hC.t.trans (Turn.of_new (S := fun _ => False) ha) (fun _ e => e.elim), (fun _ => hbl.trans (ha.mono hbl.size)), (fun _ _ => ⟨_, _, rfl, sli_lit1 eltWr (⟨i, x⟩ : Pt) w' hbl.size⟩), fun e => by
      have e' : dd 9 = true := e
      rw [h9] at e'; cases e'⟩
  obtain ⟨A8, c8, e'⟩ : ∃ (A : Option Addr) (c : Nat), vs 8 = .slice A 1 c := e
  rw [e']
  have E8 := hid e'
  clear e'
  simp only [Act.put, List.setIfInBounds_toArray, List.set_cons_succ, List.set_cons_zero]
  refine ⟨.inl ⟨rfl, fun dd w' hd hnx hw hC => ?_⟩, fun e => ?_⟩
  · have h8 : dd 8 = true := hw 8 (by kernel_rfl)
    have hbl := hC.b hd
    obtain ⟨A', c', f, sl⟩ := hC.lit h8 hd
    rw [E8.out] at f
    cases f
    refine gE_appW eltWr undWr (B := 0) (v := .slice A log.length c) (l := log) (m := [(⟨i, x⟩ : Pt)]) rfl rfl (H3.out.lg.below hbl (Nat.le_refl _)) sl (by omega) (by omega) (Nat.zero_le _) fun v' w4 o4 g4 wh => ?_
    obtain ⟨A4, c4, rfl, _⟩ := o4.sli atL_len
    refine ⟨⟨A4, c4, by rw [List.length_append]; rfl⟩, ?_⟩
    exact ⟨(Turn.of_new (S := fun b => (Value.slice A log.length c).ownBlock = some b) hbl).trans (Turn.of_grown (S := fun b => (Value.slice A log.length c).ownBlock = some b) g4 fun b e => e) (fun b e => .inl e), (fun e => by cases e), (fun _ e => by cases e), fun _ => ⟨o4, fun b e => by
      have e' : (Value.slice A4 (log ++ [(⟨i, x⟩ : Pt)]).length c4).ownBlock = some b := e
      rcases wh with e2 | e2
      · exact .inl (e2.symm.trans e')
      · rw [e2] at e'; cases e'; exact .inr hbl.size⟩⟩
  obtain ⟨A9, c9, e'⟩ : ∃ (A : Option Addr) (c : Nat), vs 9 = .slice A (log.length + 1) c := e
  rw [e']
  have E9 := hid e'
  clear e'
  simp only [Act.put, List.setIfInBounds_toArray, List.set_cons_succ, List.set_cons_zero]
  refine ⟨.inl ⟨rfl, fun dd w' hd hnx hw hC => ?_⟩, fun e => ?_⟩
  · go_simp
    first | exact ⟨rfl, hC⟩ | exact hC
  have e' : vs 10 = _ := e
  rw [e']
  clear e e'
  simp only [Act.put, List.setIfInBounds_toArray, List.set_cons_succ, List.set_cons_zero]
  refine ⟨.inl ⟨rfl, fun dd w' hd hnx hw hC => ?_⟩, fun e => ?_⟩
  · go_simp
    first | exact ⟨rfl, hC⟩ | exact hC
  have e' : vs 11 = _ := e
  rw [e']
  clear e e'
  simp only [Act.put, List.setIfInBounds_toArray, List.set_cons_succ, List.set_cons_zero]
  intro dd w4 hall hC
  obtain ⟨o4, wh⟩ := hC.own (hall 9 (by omega))
  rw [E9.out] at o4 wh
  have hfin := hid (show Mm (w4.setCell ⟨g, 3, none⟩ (.slice A9 (log.length + 1) c9)) g rs rd (.slice A9 (log.length + 1) c9) vm ms n (upd S ⟨i, x⟩) D (log ++ [⟨i, x⟩]) marks false h from H3.out.setL hC.t o4)
  have hT := hid (show Turn (mSet g rs rd (.slice A log.length c) vm) w (w4.setCell ⟨g, 3, none⟩ (.slice A9 (log.length + 1) c9)) from
    ((T3.out.mono (T := mSet g rs rd (.slice A log.length c) vm) fun b e => .inr (.inl e)).trans hC.t fun b e => .inl (.inr (.inr (.inr (.inl e))))).trans (Turn.setCell (S := fun b => b = g) w4 ⟨g, 3, none⟩ _ rfl) fun b e => .inl (.inl e))
  have hsz := T3.out.size
  have W := hid wh
  have bb := H3.out.blk.turn hC.t H3.out.l_g
  have p3 : w4.cell? ⟨g, 3, none⟩ = some (.slice A log.length c) := bb.cell 3
  have fz := bb.frozen 3
  clear H3 T3 b3 hC o4 wh bb HBX hall E8 E9
  go_wp2_with fail
  go_ret
  exact ⟨rfl, _, hfin.out, fun b e => (W.out b e).imp id fun e => Nat.le_trans hsz e, hT.out⟩
set_option maxHeartbeats 400000 in
theorem mark2_full (H : Mm w g rs rd vl vm ms n S D log marks f h) (hl : marks.length = 64) :
    Calls Tryz.prog 88 #[at' g] w fun e w' => e = .returned (.tuple #[.int .i64 0, .int .i64 7]) ∧ w = w' := by
  have p0 : w.cell? ⟨g, 0, none⟩ = some (.int .i64 n) := H.blk.cell 0
  obtain ⟨A, c, e, _⟩ := H.mr.sli eltIm.len
  rw [List.length_map, H.len, hl] at e
  have p4 : w.cell? ⟨g, 4, none⟩ = some (.slice A 64 c) := by rw [← e]; exact H.blk.cell 4
  have hn := hid H.pos
  unfold at'
  clear H e
  go_enter Tryz.func88, Tryz.ntmps88
  go_wp2_with fail
  refine (made_any g n hn.out w p0).mono ?_
  rintro e w' ⟨rfl, rfl⟩
  go_wp2_with fail
  go_ret2
  exact ⟨rfl, rfl⟩
set_option maxHeartbeats 1000000 in
set_option maxRecDepth 100000 in
theorem mark2_any (H : Mm w g rs rd vl vm ms n S D log marks f h) (hl : marks.length < 64) :
    Calls Tryz.prog 88 #[at' g] w fun e w' => e = .returned (.tuple #[.int .i64 (marks.length : Nat), .int .i64 0]) ∧ ∃ vm' r, Mm w' g rs rd vl vm' (ms ++ [r]) n S D log (marks ++ [S]) f h ∧
      (∀ b, vm'.ownBlock = some b → vm.ownBlock = some b ∨ w.heap.size ≤ b) ∧ w.heap.size ≤ r ∧ Turn (mSet g rs rd vl vm) w w' := by
  have p0 : w.cell? ⟨g, 0, none⟩ = some (.int .i64 n) := H.blk.cell 0
  obtain ⟨A, c, rfl, _⟩ := H.mr.sli eltIm.len
  have hml : (ms.map some).length = marks.length := by rw [List.length_map, H.len]
  have HML := hid hml
  have p4 : w.cell? ⟨g, 4, none⟩ = some (.slice A marks.length c) := by rw [← hml]; exact H.blk.cell 4
  have hn := hid H.pos
  have HH := hid H
  rw [hml]
  unfold at'
  have t1 : ((marks.length : Int) == 64) = false := by simp; omega
  have t2 : decide ((marks.length : Int) = 64) = false := by simp; omega
  clear H hml
  go_enter Tryz.func88, Tryz.ntmps88
  go_wp2_with fail
  refine (made_any g n hn.out w p0).mono ?_
  rintro e w' ⟨rfl, rfl⟩
  go_upto_region 6 with fail
  have HV := hid (show (Value.slice A (ms.map some).length c) = .slice A marks.length c by rw [HML.out])
  refine wp_region_c (S := yS [some (.pointer (some ⟨g, 0, none⟩)), some (.pointer (some ⟨g, 0, none⟩)), some (.pointer (some ⟨g, 0, none⟩)), some (.pointer (some ⟨g, 4, none⟩)), some (.slice A marks.length c), some (.pointer (some ⟨g, 0, none⟩)), some (.pointer (some ⟨g, 0, none⟩)), some (.pointer (some ⟨g, 1, none⟩)), some (.map (some rs)), none, none, none, some (.pointer (some ⟨g, 0, none⟩)), some (.pointer (some ⟨g, 4, none⟩))]
      [(9, kMp), (10, kSl 1), (11, kSl (marks.length + 1))]) (C := fun d vs w' => MkC w (.slice A marks.length c) (ms.map some) S (d 9) (d 10) (d 11) (vs 9) (vs 10) (vs 11) w') 14 (by kernel_rfl) (by kernel_rfl) (by kernel_rfl) _
    (yS_ok _ fun y hy => by simp only [List.mem_cons, List.not_mem_nil, or_false] at hy; rcases hy with rfl | rfl | rfl <;> first | exact kSl_ok _ | exact kMp_ok)
    ⟨Turn.drew _, fun _ => (Below.refl _ _).drew, (fun e => by cases e), (fun e => by cases e), (fun e => by cases e), (fun e => by cases e), (fun e => by cases e)⟩ fun vs => ?_
  simp only [List.take_succ_cons, List.take_zero, List.drop_succ_cons, List.drop_zero]
  have BK := hid (show ∀ w', Turn (fun b => (Value.slice A marks.length c).ownBlock = some b) w w' → Blk w' g 116 (mbC7 n rs rd vl (.slice A marks.length c) f h) from fun w' ht => by
    have := HH.out.blk.turn ht (by rw [← HV.out]; exact HH.out.m_g)
    rw [HV.out] at this
    exact this)
  refine ⟨.inl ⟨rfl, fun dd w' hd hnx hw hC => ?_⟩, fun e => ?_⟩
  · go_simp
    first | exact ⟨rfl, hC⟩ | exact hC
  have e' : vs 0 = _ := e
  rw [e']
  clear e e'
  simp only [Act.put, List.setIfInBounds_toArray, List.set_cons_succ, List.set_cons_zero]
  refine ⟨.inl ⟨rfl, fun dd w' hd hnx hw hC => ?_⟩, fun e => ?_⟩
  · go_simp
    first | exact ⟨rfl, hC⟩ | exact hC
  have e' : vs 1 = _ := e
  rw [e']
  clear e e'
  simp only [Act.put, List.setIfInBounds_toArray, List.set_cons_succ, List.set_cons_zero]
  refine ⟨.inl ⟨rfl, fun dd w' hd hnx hw hC => ?_⟩, fun e => ?_⟩
  · go_simp
    first | exact ⟨rfl, hC⟩ | exact hC
  have e' : vs 2 = _ := e
  rw [e']
  clear e e'
  simp only [Act.put, List.setIfInBounds_toArray, List.set_cons_succ, List.set_cons_zero]
  refine ⟨.inl ⟨rfl, fun dd w' hd hnx hw hC => ?_⟩, fun e => ?_⟩
  · go_simp
    first | exact ⟨rfl, hC⟩ | exact hC
  have e' : vs 3 = _ := e
  rw [e']
  clear e e'
  simp only [Act.put, List.setIfInBounds_toArray, List.set_cons_succ, List.set_cons_zero]
  refine ⟨.inl ⟨rfl, fun dd w' hd hnx hw hC => ?_⟩, fun e => ?_⟩
  · have h1 : w'.cell? ⟨g, 4, none⟩ = some (.slice A marks.length c) := (BK.out _ hC.t).cell 4
    go_simp
    first | exact ⟨rfl, hC⟩ | exact hC
  have e' : vs 4 = _ := e
  rw [e']
  clear e e'
  simp only [Act.put, List.setIfInBounds_toArray, List.set_cons_succ, List.set_cons_zero]
  refine ⟨.inl ⟨rfl, fun dd w' hd hnx hw hC => ?_⟩, fun e => ?_⟩
  · go_simp
    first | exact ⟨rfl, hC⟩ | exact hC
  have e' : vs 5 = _ := e
  rw [e']
  clear e e'
  simp only [Act.put, List.setIfInBounds_toArray, List.set_cons_succ, List.set_cons_zero]
  refine ⟨.inl ⟨rfl, fun dd w' hd hnx hw hC => ?_⟩, fun e => ?_⟩
  · go_simp
    first | exact ⟨rfl, hC⟩ | exact hC
  have e' : vs 6 = _ := e
  rw [e']
  clear e e'
  simp only [Act.put, List.setIfInBounds_toArray, List.set_cons_succ, List.set_cons_zero]
  refine ⟨.inl ⟨rfl, fun dd w' hd hnx hw hC => ?_⟩, fun e => ?_⟩
  · go_simp
    first | exact ⟨rfl, hC⟩ | exact hC
  have e' : vs 7 = _ := e
  rw [e']
  clear e e'
  simp only [Act.put, List.setIfInBounds_toArray, List.set_cons_succ, List.set_cons_zero]
  refine ⟨.inl ⟨rfl, fun dd w' hd hnx hw hC => ?_⟩, fun e => ?_⟩
  · have h1 : w'.cell? ⟨g, 1, none⟩ = some (.map (some rs)) := (BK.out _ hC.t).cell 1
    go_simp
    first | exact ⟨rfl, hC⟩ | exact hC
  have e' : vs 8 = _ := e
  rw [e']
  clear e e'
  simp only [Act.put, List.setIfInBounds_toArray, List.set_cons_succ, List.set_cons_zero]
  refine ⟨.inl ⟨rfl, fun dd w' hd hnx hw hC => ?_⟩, fun e => ?_⟩
  · have h10 : dd 10 = false := by
      cases e : dd 10 with
      | false => rfl
      | true => have := hC.c2 e; rw [hd] at this; cases this
    have h11 : dd 11 = false := by
      cases e : dd 11 with
      | false => rfl
      | true => have := hC.c1 e; rw [h10] at this; cases this
    have hbl := hC.b h11
    go_simp
    refine (clone_any rs S w' (HH.out.seen.below hbl)).mono ?_
    rintro e w4 ⟨rfl, m4, h4, _⟩
    exact ⟨_, rfl, ⟨_, rfl⟩, hC.t.trans (Turn.of_new (S := fun _ => False) h4) (fun _ e => e.elim), (fun _ => hbl.trans (h4.mono hbl.size)), hC.c1, (fun _ => rfl), (fun _ => ⟨_, rfl, m4, hbl.size⟩), (fun e => by
      have e' : dd 10 = true := e
      rw [h10] at e'; cases e'), fun e => by
      have e' : dd 11 = true := e
      rw [h11] at e'; cases e'⟩
  obtain ⟨r9, e'⟩ : ∃ r : Nat, vs 9 = .map (some r) := e
  rw [e']
  have E9 := hid e'
  clear e'
  simp only [Act.put, List.setIfInBounds_toArray, List.set_cons_succ, List.set_cons_zero]
  refine ⟨.inl ⟨rfl, fun dd w' hd hnx hw hC => ?_⟩, fun e => ?_⟩
  · have h9 : dd 9 = true := hw 9 (by kernel_rfl)
    have h11 : dd 11 = false := by
      cases e : dd 11 with
      | false => rfl
      | true => have := hC.c1 e; rw [hd] at this; cases this
    have hbl := hC.b h11
    have ha := (Below.refl w'.heap.size w').alloc (Nat.le_refl _) (.cells (imE (some r9)).toArray 112)
    refine gE_lit1 (x := some r9) (v := .map (some r9)) eltIm undIm (by omega) rfl rfl ⟨⟨_, _, rfl⟩, hC.t.trans (Turn.of_new (S := fun _ => False) ha) (fun _ e => e.elim), (fun _ => hbl.trans (ha.mono hbl.size)), (fun _ => rfl), (fun _ => h9), (fun _ => ?_), (fun _ _ => ⟨_, _, r9, E9.out, rfl, sli_lit1 eltIm (some r9) w' hbl.size⟩), fun e => by
      have e' : dd 11 = true := e
      rw [h11] at e'; cases e'⟩
    obtain ⟨r, e1, e2, e3⟩ := hC.im h9
    exact ⟨r, e1, e2.below ha, e3⟩
  obtain ⟨A10, c10, e'⟩ : ∃ (A : Option Addr) (c : Nat), vs 10 = .slice A 1 c := e
  rw [e']
  have E10 := hid e'
  clear e'
  simp only [Act.put, List.setIfInBounds_toArray, List.set_cons_succ, List.set_cons_zero]
  refine ⟨.inl ⟨rfl, fun dd w' hd hnx hw hC => ?_⟩, fun e => ?_⟩
  · have h10 : dd 10 = true := hw 10 (by kernel_rfl)
    have hbl := hC.b hd
    obtain ⟨A', c', r, e1, f1, sl⟩ := hC.lit h10 hd
    rw [E10.out] at f1
    cases f1
    have hvo : OwnM w' 0 (.slice A marks.length c) (ms.map some) := by rw [← HV.out]; exact HH.out.mr.below hbl (Nat.le_refl _)
    have hlen := HML.out
    refine gE_appW eltIm undIm (B := 0) (v := .slice A marks.length c) (l := ms.map some) (m := [some r]) rfl rfl hvo sl (by omega) (by omega) (Nat.zero_le _) fun v' w4 o4 g4 wh => ?_
    obtain ⟨A4, c4, rfl, _⟩ := o4.sli eltIm.len
    have tg := Turn.of_grown (S := fun b => (Value.slice A marks.length c).ownBlock = some b) g4 fun b e => e
    refine ⟨⟨A4, c4, by rw [List.length_append, hlen]; rfl⟩, (hC.t.trans tg (fun b e => .inl e)), (fun e => by cases e), (fun _ => h10), hC.c2, (fun e => ?_), (fun _ e => by cases e), fun _ => ⟨r, e1, o4, fun b e => ?_⟩⟩
    · obtain ⟨r2, e2, e3, e4⟩ := hC.im e
      refine ⟨r2, e2, e3.turn tg fun x => ?_, e4⟩
      have := (hvo.own _ x).2
      obtain ⟨cur, hc⟩ := hvo.obj x
      exact map_ne e3 hc rfl
    · have e' : (Value.slice A4 (ms.map some ++ [some r]).length c4).ownBlock = some b := e
      rcases wh with e2 | e2
      · exact .inl (e2.symm.trans e')
      · rw [e2] at e'; cases e'; exact .inr hbl.size
  obtain ⟨A11, c11, e'⟩ : ∃ (A : Option Addr) (c : Nat), vs 11 = .slice A (marks.length + 1) c := e
  rw [e']
  have E11 := hid e'
  clear e'
  simp only [Act.put, List.setIfInBounds_toArray, List.set_cons_succ, List.set_cons_zero]
  refine ⟨.inl ⟨rfl, fun dd w' hd hnx hw hC => ?_⟩, fun e => ?_⟩
  · go_simp
    first | exact ⟨rfl, hC⟩ | exact hC
  have e' : vs 12 = _ := e
  rw [e']
  clear e e'
  simp only [Act.put, List.setIfInBounds_toArray, List.set_cons_succ, List.set_cons_zero]
  refine ⟨.inl ⟨rfl, fun dd w' hd hnx hw hC => ?_⟩, fun e => ?_⟩
  · go_simp
    first | exact ⟨rfl, hC⟩ | exact hC
  have e' : vs 13 = _ := e
  rw [e']
  clear e e'
  simp only [Act.put, List.setIfInBounds_toArray, List.set_cons_succ, List.set_cons_zero]
  intro dd w4 hall hC
  obtain ⟨r, e1, o4, wh⟩ := hC.own (hall 11 (by omega))
  obtain ⟨r', e2, m4, hr4⟩ := hC.im (hall 9 (by omega))
  rw [E9.out] at e1 e2
  cases e1
  cases e2
  rw [E11.out] at o4 wh
  have ht' : Turn (fun b => (Value.slice A (ms.map some).length c).ownBlock = some b) w w4 := by rw [HV.out]; exact hC.t
  have hfin := hid (show Mm (w4.setCell ⟨g, 4, none⟩ (.slice A11 (marks.length + 1) c11)) g rs rd vl (.slice A11 (marks.length + 1) c11) (ms ++ [r9]) n S D log (marks ++ [S]) f h from
    HH.out.setM ht' (by rw [List.map_append]; exact o4) (by rw [List.length_append, List.length_append, HH.out.len]; rfl) (fun i m F h1 h2 => by
      by_cases hi : i < ms.length
      · rw [List.getElem?_append_left hi] at h1
        rw [List.getElem?_append_left (by rw [← HH.out.len]; exact hi)] at h2
        exact (HH.out.im i m F h1 h2).turn ht' fun e => by obtain ⟨cur, hc⟩ := HH.out.mr.obj e; exact map_ne (HH.out.im i m F h1 h2) hc rfl
      · have hi2 : i = ms.length := by
          have := (List.getElem?_eq_some_iff.1 h1).1
          rw [List.length_append, List.length_cons, List.length_nil] at this
          omega
        subst hi2
        rw [List.getElem?_append_right (Nat.le_refl _), Nat.sub_self, List.getElem?_cons_zero] at h1
        rw [HH.out.len, List.getElem?_append_right (Nat.le_refl _), Nat.sub_self, List.getElem?_cons_zero] at h2
        cases h1
        cases h2
        exact m4) (fun m hm => by
      rcases List.mem_append.1 hm with hm | hm
      · exact HH.out.out m hm
      · rw [List.mem_singleton] at hm
        subst hm
        have := HH.out.seen.lt
        have := HH.out.dur.lt
        exact ⟨by omega, by omega⟩))
  have hT := hid (show Turn (mSet g rs rd vl (.slice A marks.length c)) w (w4.setCell ⟨g, 4, none⟩ (.slice A11 (marks.length + 1) c11)) from
    (hC.t.mono (T := mSet g rs rd vl (.slice A marks.length c)) fun b e => .inr (.inr (.inr (.inr e)))).trans (Turn.setCell (S := fun b => b = g) w4 ⟨g, 4, none⟩ _ rfl) fun b e => .inl (.inl e))
  have W := hid wh
  have bb := BK.out _ hC.t
  have p4 : w4.cell? ⟨g, 4, none⟩ = some (.slice A marks.length c) := bb.cell 4
  have fz := bb.frozen 4
  clear HH hC o4 wh bb BK hall E9 E10 E11 ht' HV HML m4
  go_wp2_with fail
  go_ret2
  exact ⟨rfl, _, r9, hfin.out, W.out, hr4, hT.out⟩
end
end MbO
end Go.Proofs.YthogklchmhjjkaaGreat
set_option maxRecDepth 100000
namespace Go.Proofs.YthogklchmhjjkaaGreat
open Go.ChangeShapes Go.WideShapes Go.ChangeAt Go.RowKit
attribute [local go_sem] Gives GivesE
namespace MbO
open MbM MbP
theorem elemWr : Tryz.prog.elem 113 = 134 := by kernel_rfl
/-- The function that Set hands down. -/
abbrev thereF (h : Nat) : Value := .func (.func 97) #[] #[.pointer (some ⟨h, 0, none⟩)]
set_option maxHeartbeats 400000 in
set_option maxRecDepth 100000 in
/-- slices.IndexFunc, of unflushed writes. -/
theorem index_any (A : Option Addr) (l : List Pt) (n c h : Nat) (i : Int) (S : Nat → Prop) (w : World) (hA : Sli 65 atL S w A l n c) (hb : w.cell? ⟨h, 0, none⟩ = some (.int .i64 i)) (hn : n ≤ 10000) :
    Calls Tryz.prog 100 #[.slice A n c, thereF h] w fun e w' => ∃ j : Nat, (∀ q p, q < j → l[q]? = some p → p.i ≠ i) ∧ (∃ r : Int, e = .returned (.int .i64 r) ∧ ((j < n ∧ r = j ∧ ∃ p, l[j]? = some p ∧ p.i = i) ∨ (n ≤ j ∧ r = -1))) ∧ Below w.heap.size w w' := by
  have HA := hid hA
  have HB := hid hb
  have hhl : h < w.heap.size := World.block_lt_of_cell? w ⟨h, 0, none⟩ hb
  unfold thereF
  clear hA hb
  go_enter Tryz.func100, Tryz.ntmps100
  go_wp2_with fail
  go_loopw [8] (fun u wr => ∃ k : Nat, u = .int .i64 k ∧ k ≤ n ∧ Hid (∀ q p, q < k → l[q]? = some p → p.i ≠ i) ∧ Hid (Below w.heap.size w wr)) (fun u _ => n - (intOf u).toNat)
  case atStart => exact ⟨0, rfl, Nat.zero_le _, hid fun q p hq => absurd hq (Nat.not_lt_zero _), hid (Below.refl _ _)⟩
  case round =>
    obtain ⟨k, rfl, hk, hM, hB⟩ := hrel
    by_cases hgo : k < n
    · have t1 : (k : Int) < (n : Int) := by omega
      obtain ⟨p, hp⟩ : ∃ p, l[k]? = some p := ⟨_, List.getElem?_eq_getElem (by rw [HA.out.len]; exact hgo)⟩
      obtain ⟨b, o, rfl, _, hbl, hr⟩ := HA.out.some hp
      have HR := hid (show wr.rangeAt b (o + k * 65) (atL p) from fun j v hj => (hB.out.cell (p := ⟨b, o + k * 65 + j, none⟩) hbl).trans (hr j v hj))
      have HBr := hid ((hB.out.cell (p := ⟨h, 0, none⟩) hhl).trans HB.out)
      have HP := hid hp
      clear hr hp
      go_wp2_with ((with_reducible apply ldR (cs := (atL p).toArray) (tWr p)); rfl; exact HR.out)
      refine (there_any h i p wr HBr.out).mono ?_
      rintro e w2 ⟨rfl, h2⟩
      have B2 := hid (hB.out.trans (h2.mono hB.out.size))
      clear hB HR HBr h2
      by_cases he : p.i = i
      · rw [show decide (p.i = i) = true by simp [he]]
        go_wp2_with fail
        go_ret
        exact ⟨k, hM.out, ⟨k, rfl, .inl ⟨hgo, rfl, p, HP.out, he⟩⟩, B2.out⟩
      · rw [show decide (p.i = i) = false by simp [he]]
        go_wp2_with fail
        go_roundw
        case rel =>
          refine ⟨k + 1, by go_num, by omega, hid fun q x hq hx => ?_, B2⟩
          by_cases e : q = k
          · subst e
            rw [HP.out] at hx
            cases hx
            exact he
          · exact hM.out q x (by omega) hx
        case measure => simp [intOf] <;> omega
    · have t1 : ¬ k < n := hgo
      go_wp2_with fail
      go_ret
      exact ⟨k, hM.out, ⟨_, rfl, .inr ⟨by omega, rfl⟩⟩, hB.out⟩
/-- The row in the midst of being put together. -/
structure Dl (w0 : World) (b cap : Nat) (l : List Pt) (i : Int) (j : Nat) (w : World) : Prop where
  blk : ∃ cur, w.heap[b]? = some (.cells cur 134 (0, 0)) ∧ cur.size = cap * 65
  don : ∀ (q : Nat) x, (oth (l.take j) i)[q]? = some x → w.rangeAt b (q * 65) (atL x)
  rem : ∀ (q : Nat) x, j ≤ q → l[q]? = some x → w.rangeAt b (q * 65) (atL x)
  t : Turn (fun k => k = b) w0 w
theorem Dl.turn {w0 w w' : World} {b cap : Nat} {l : List Pt} {i : Int} {j : Nat} (h : Dl w0 b cap l i j w) (hb : Below w.heap.size w w') (hbl : b < w0.heap.size) : Dl w0 b cap l i j w' := by
  have hlt : b < w.heap.size := Nat.lt_of_lt_of_le hbl h.t.size
  have ht := Turn.of_below hb
  obtain ⟨cur, h1, h2⟩ := h.blk
  exact ⟨⟨cur, (hb.block b hlt).trans h1, h2⟩, fun q x hx => ht.range (h.don q x hx) (by omega), fun q x hq hx => ht.range (h.rem q x hq hx) (by omega), h.t.trans (Turn.of_new (S := fun _ => False) hb) fun _ e => e.elim⟩
theorem oth_all {l : List Pt} {i : Int} : ∀ {m : Nat}, (∀ q p, q < m → l[q]? = some p → p.i ≠ i) → m ≤ l.length → oth (l.take m) i = l.take m
  | 0, _, _ => by rw [List.take_zero]; rfl
  | m + 1, h, hm => by
    rw [oth_step (p := l[m]) (List.getElem?_eq_getElem (by omega)), if_neg (h m _ (by omega) (List.getElem?_eq_getElem (by omega))), oth_all (fun q p hq => h q p (by omega)) (by omega), List.take_add_one, List.getElem?_eq_getElem (by omega)]
    rfl
set_option maxHeartbeats 1000000 in
set_option maxRecDepth 100000 in
/-- slices.DeleteFunc, of unflushed writes. -/
theorem delete_any (v : Value) (l : List Pt) (i0 : Int) (hb : Nat) (w : World) (hO : OwnL w 0 v l) (hbox : w.cell? ⟨hb, 0, none⟩ = some (.int .i64 i0)) (hne : ∀ b, v.ownBlock = some b → b ≠ hb) (hlen : l.length ≤ 10000) :
    Calls Tryz.prog 96 #[v, thereF hb] w fun e w' => ∃ v', e = .returned v' ∧ OwnL w' 0 v' (oth l i0) ∧ v'.ownBlock = v.ownBlock ∧ Turn (fun b => v.ownBlock = some b) w w' := by
  obtain ⟨A, cap, rfl, sl⟩ := hO.sli atL_len
  have HO := hid hO
  have SL := hid sl
  have HB := hid hbox
  have HN := hid hne
  have hhl : hb < w.heap.size := World.block_lt_of_cell? w ⟨hb, 0, none⟩ hbox
  unfold thereF
  clear hO sl hbox hne
  go_enter Tryz.func96, Tryz.ntmps96
  go_wp2_with fail
  refine (index_any A l l.length cap hb i0 (fun b => 0 ≤ b) w SL.out HB.out hlen).mono ?_
  rintro e w1 ⟨j, hj, ⟨r, rfl, hr⟩, h1⟩
  rcases hr with ⟨hjn, rfl, p0, hp0, he0⟩ | ⟨hjn, rfl⟩
  · have t0 : ((j : Int) == -1) = false := by simp
    have t0' : decide ((j : Int) = -1) = false := by simp
    have HJ := hid hj
    rcases HO.out.2 with ⟨e0, h0⟩ | ⟨g, cp, cur, e0, _, hg, hnc, hcm, hcs, htk⟩
    · omega
    · cases e0
      have hgl : g < w.heap.size := Blk.lt (t := 134) (cs := cur) hg
      have hall : ∀ (q : Nat) x, l[q]? = some x → w.rangeAt g (q * 65) (atL x) := fun q x hx => by
        obtain ⟨b, o, e, _, _, hr⟩ := SL.out.some hx
        cases e
        rwa [Nat.zero_add] at hr
      have hfst : oth (l.take (j + 1)) i0 = l.take j := by rw [oth_step hp0, if_pos he0, List.append_nil, oth_all HJ.out (by omega)]
      have D0 := hid (show Dl w g cap l i0 (j + 1) w1 from Dl.turn ⟨⟨cur, hg, hcs⟩, (fun q x hx => by
        rw [hfst] at hx
        have hql : q < j := by have := (List.getElem?_eq_some_iff.1 hx).1; rw [List.length_take] at this; omega
        rw [List.getElem?_take_of_lt hql] at hx
        exact hall q x hx), (fun q x _ hx => hall q x hx), Turn.refl _ _⟩ h1 hgl)
      have hfl := hid (show (oth (l.take (j + 1)) i0).length = j by rw [hfst, List.length_take]; omega)
      have hgb := HN.out g rfl
      have hcap : l.length ≤ cap := hnc
      have HCM := hid hcm
      clear HO SL hj hg hcm hcs htk hall hfst h1 hp0
      go_wp2_with fail
      go_loopw [5, 6] (fun u v wr => ∃ (m x : Nat), u = .int .i64 m ∧ v = .int .i64 x ∧ m < x ∧ x ≤ l.length ∧ Hid ((oth (l.take x) i0).length = m) ∧ Hid (Dl w g cap l i0 x wr)) (fun _ v _ => l.length - (intOf v).toNat)
      case atStart => exact ⟨j, j + 1, rfl, by go_num, by omega, by omega, hfl, D0⟩
      case round =>
        clear D0 hfl
        obtain ⟨m, x, rfl, rfl, hmx, hxl, hF, hD⟩ := hrel
        by_cases hgo : x < l.length
        · have t1 : (x : Int) < (l.length : Int) := by omega
          obtain ⟨p, hp⟩ : ∃ p, l[x]? = some p := ⟨_, List.getElem?_eq_getElem hgo⟩
          have HR := hid (show wr.rangeAt g (x * 65) (atL p) by exact hD.out.rem x p (Nat.le_refl _) hp)
          have hst := oth_step hp i0
          have HP := hid hp
          clear hp
          go_upto_region 8 with (first
            | ((with_reducible apply ldR (cs := (atL p).toArray) (tWr p)); rfl; exact HR.out)
            | (with_reducible apply alZ zWr)
            | ((with_reducible apply stR (tWr p)); rfl; rfl; exact Blk.new _ _ _; exact atL_size _ _; exact at_one p))
          generalize hw2 : World.setRow _ _ _ = w2
          have b2 := hid (show Blk w2 wr.heap.size 134 (atL p).toArray by rw [← hw2]; exact (Blk.new wr _ _).setRow_same _)
          have h2 := hid (show Below wr.heap.size wr w2 by rw [← hw2]; exact below_setRow ((Below.refl _ _).alloc (Nat.le_refl _) _) (Nat.le_refl _) _)
          have D2 := hid (hD.out.turn h2.out hgl)
          have HB2 := hid ((D2.out.t.cell (p := ⟨hb, 0, none⟩) HB.out) fun e => hgb e.symm)
          have hgr := Nat.lt_of_lt_of_le hgl hD.out.t.size
          clear hw2 hD h2 HR
          go_wp2_with ((with_reducible apply ldR (cs := (atL p).toArray) (tWr p)); rfl; exact b2.out.whole)
          refine (there_any hb i0 p w2 HB2.out).mono ?_
          rintro e w3 ⟨rfl, h3⟩
          have D3 := hid (D2.out.turn h3 hgl)
          have b3 := hid (b2.out.below h3 b2.out.lt)
          clear D2 b2 HB2 h3
          by_cases he : p.i = i0
          · rw [if_pos he, List.append_nil] at hst
            rw [show decide (p.i = i0) = true by simp [he]]
            have HST := hid hst
            clear hst b3
            go_wp2_with fail
            go_roundw
            case rel =>
              refine ⟨m, x + 1, rfl, by go_num, by omega, by omega, hid (by rw [HST.out]; exact hF.out), hid ⟨D3.out.blk, (by rw [HST.out]; exact D3.out.don), (fun q y hq hy => D3.out.rem q y (by omega) hy), D3.out.t⟩⟩
            case measure => simp [intOf] <;> omega
          · rw [if_neg he] at hst
            rw [show decide (p.i = i0) = false by simp [he]]
            have HST := hid hst
            have hTH := hid (show w3.there g (m * 65) (atL p).toArray.size by
              obtain ⟨cur, h1, h2⟩ := D3.out.blk
              refine there_of h1 ?_
              rw [h2, List.size_toArray, atL_len]
              have := Nat.mul_le_mul_right 65 (show m + 1 ≤ cap by omega)
              omega)
            have hDn := hid (show Dl w g cap l i0 (x + 1) (w3.setCells g (m * 65) (atL p).toArray.toList) from {
              blk := cells_setCells _ _ _ D3.out.blk
              don := fun q y hy => by
                rw [HST.out] at hy
                by_cases hq : q < m
                · rw [List.getElem?_append_left (by rw [hF.out]; exact hq)] at hy
                  have h4 := D3.out.don q y hy
                  refine World.rangeAt_setCells_apart h4 _ _ _ (.inr (.inl ?_))
                  rw [atL_len]
                  have := Nat.mul_le_mul_right 65 (show q + 1 ≤ m from hq)
                  omega
                · have hq2 : q = m := by
                    have := (List.getElem?_eq_some_iff.1 hy).1
                    rw [List.length_append, hF.out, List.length_cons, List.length_nil] at this
                    omega
                  subst hq2
                  rw [List.getElem?_append_right (by rw [hF.out]; exact Nat.le_refl _), hF.out, Nat.sub_self, List.getElem?_cons_zero] at hy
                  cases hy
                  have := World.rangeAt_setCells_same w3 g (q * 65) (atL p).toArray.toList hTH.out
                  exact this
              rem := fun q y hq hy => by
                have h4 := D3.out.rem q y (by omega) hy
                refine World.rangeAt_setCells_apart h4 _ _ _ (.inr (.inr ?_))
                show m * 65 + (atL p).length ≤ q * 65
                rw [atL_len]
                have := Nat.mul_le_mul_right 65 (show m + 1 ≤ q by omega)
                omega
              t := D3.out.t.trans (turn_setCells _ _ _) fun b e => .inl e })
            clear D3 hst
            go_wp2_with (first | ((with_reducible apply ldR (cs := (atL p).toArray) (tWr p)); rfl; exact b3.out.whole) | ((with_reducible apply stRM (cs := (atL p).toArray) (tWr p)); rfl; rfl; exact hTH.out; exact at_one p))
            go_roundw
            case rel =>
              refine ⟨m + 1, x + 1, by go_num, by go_num, by omega, by omega, hid (by rw [HST.out, List.length_append, hF.out]; rfl), hDn⟩
            case measure => simp [intOf] <;> omega
        · have hxe : x = l.length := by omega
          subst hxe
          have t1 : ¬ l.length < l.length := by omega
          rw [List.take_length] at hF
          have HM := hid (show (oth l i0).length = m from hF.out)
          have hDD := hid hD.out
          have hmc : m < cap := by omega
          have hml : m ≤ l.length := by omega
          have hth := hid (show wr.there g (m * 65) ((l.length - m) * (atL ⟨0, zero⟩).toArray.size) by
            obtain ⟨cur, h1, h2⟩ := hDD.out.blk
            refine there_of h1 ?_
            rw [h2, List.size_toArray, atL_len, ← Nat.add_mul]
            exact Nat.mul_le_mul_right 65 (by omega))
          clear hD hF hgo hxl
          go_wp2_with (first
            | ((with_reducible apply wslF eltWr undWr elemWr); rfl; rfl; exact hml; exact hmc)
            | ((with_reducible apply wclr undWr zWr); (rw [List.size_toArray, atL_len]; omega); exact atL_ones _; rfl; exact hth.out; intro zs hzs; generalize hwz : World.setCells _ _ _ _ = wz)
            | ((with_reducible apply wslT eltWr undWr elemWr); rfl; rfl; exact hmc))
          go_ret
          refine ⟨_, rfl, ?_, rfl, ?_⟩
          · obtain ⟨cur, h1, h2⟩ := cells_setCells (g := g) zs (m * 65) wr hDD.out.blk
            rw [hwz] at h1
            have hown := own_of_ranges (l := oth l i0) atL_len (by omega) h1 h2 (by rw [HM.out]; omega) HCM.out fun q y hy => by
              have hq : q < m := by rw [← HM.out]; exact (List.getElem?_eq_some_iff.1 hy).1
              have hy' : (oth (l.take l.length) i0)[q]? = some y := by rw [List.take_length]; exact hy
              rw [← hwz]
              refine World.rangeAt_setCells_apart (hDD.out.don q y hy') _ _ _ (.inr (.inl ?_))
              rw [atL_len]
              have := Nat.mul_le_mul_right 65 (show q + 1 ≤ m from hq)
              omega
            rw [HM.out] at hown
            exact hown
          · have ht := (hDD.out.t.trans (turn_setCells zs (m * 65) wr) fun b e => .inl e)
            rw [hwz] at ht
            exact ht.mono fun b e => by rw [e]; rfl
  · have hfin := hid (show oth l i0 = l by
      have := oth_all (l := l) (i := i0) (m := l.length) (fun q p hq => hj q p (by omega)) (Nat.le_refl _)
      rwa [List.take_length] at this)
    have b1 := hid h1
    have o1 := hid (HO.out.below h1 (Nat.le_refl _))
    clear hj h1 HO SL
    go_wp2_with fail
    go_ret
    exact ⟨_, rfl, by rw [hfin.out]; exact o1.out, rfl, Turn.of_new b1.out⟩
section
variable {w w' : World} {g rs rd : Nat} {vl vm : Value} {ms : List Nat} {n : Int} {S D : Img} {log : List Pt} {marks : List Img} {f h : Bool}
theorem Mm.hurt (H : Mm w g rs rd vl vm ms n S D log marks f h) (h' : Bool) : Mm (w.setCell ⟨g, 6, none⟩ (.bool h')) g rs rd vl vm ms n S D log marks f h' :=
  H.flags f h' (Turn.setCell (S := fun b => b = g) w ⟨g, 6, none⟩ (.bool h') rfl) (H.blk.setCell_same 6 (.bool h'))
set_option maxHeartbeats 400000 in
theorem set2_bad (H : Mm w g rs rd vl vm ms n S D log marks f h) (i : Int) (hq : decide (0 ≤ i ∧ i < n) = false) (x : Nat → Nat) :
    Calls Tryz.prog 86 #[at' g, .int .i64 i, .agg (ar 64 x)] w fun e w' => e = .returned (.int .i64 2) ∧ Below w.heap.size w w' := by
  have HH := hid H
  have HQ := hid hq
  have hn := hid H.pos
  unfold at'
  clear H hq
  go_enter Tryz.func86, Tryz.ntmps86
  go_upto_region 1 with fail
  generalize hw1 : World.alloc (World.alloc w _) _ = w1
  have b0 := hid (show Blk w1 w.heap.size 3 #[.int .i64 i] by rw [← hw1]; exact (Blk.new _ _ _).alloc _)
  have BEL := hid (show Below w.heap.size w w1 by rw [← hw1]; exact ((Below.refl _ _).alloc (Nat.le_refl _) _).alloc (by simp) _)
  have H1 := hid (HH.out.below BEL.out)
  clear hw1 HH
  have p0 : w1.cell? ⟨g, 0, none⟩ = some (.int .i64 n) := H1.out.blk.cell 0
  have pi : w1.cell? ⟨w.heap.size, 0, none⟩ = some (.int .i64 i) := b0.out.cell 0
  go_wp2_with fail
  refine (find2_any g n hn.out i false HQ.out w1 p0).mono ?_
  rintro e w' ⟨rfl, rfl⟩
  go_wp2_with fail
  go_ret
  exact ⟨rfl, BEL.out⟩
set_option maxHeartbeats 1000000 in
set_option maxRecDepth 100000 in
theorem set2_any (H : Mm w g rs rd vl vm ms n S D log marks f h) (i : Int) (hq : decide (0 ≤ i ∧ i < n) = true) (x : Nat → Nat) (hlen : log.length ≤ 10000) :
    Calls Tryz.prog 86 #[at' g, .int .i64 i, .agg (ar 64 x)] w fun e w' => e = .returned (.int .i64 0) ∧ ∃ vl', Mm w' g rs rd vl' vm ms n (upd S ⟨i, x⟩) (upd D ⟨i, x⟩) (oth log i) marks f true ∧
      vl'.ownBlock = vl.ownBlock ∧ Turn (mSet g rs rd vl vm) w w' := by
  have HH := hid H
  have HQ := hid hq
  have hn := hid H.pos
  have hrs := H.seen.lt
  have hrd := H.dur.lt
  have hvl := hid H.lg.own
  unfold at'
  clear H hq
  go_enter Tryz.func86, Tryz.ntmps86
  go_upto_region 1 with fail
  generalize hw1 : World.alloc (World.alloc w _) _ = w1
  have b0 := hid (show Blk w1 w.heap.size 3 #[.int .i64 i] by rw [← hw1]; exact (Blk.new _ _ _).alloc _)
  have b1 := hid (show Blk w1 (w.heap.size + 1) 43 (ar 64 x) by rw [← hw1]; exact Blk.top rfl (by simp))
  have BEL := hid (show Below w.heap.size w w1 by rw [← hw1]; exact ((Below.refl _ _).alloc (Nat.le_refl _) _).alloc (by simp) _)
  have H1 := hid (HH.out.below BEL.out)
  clear hw1 HH
  have p0 : w1.cell? ⟨g, 0, none⟩ = some (.int .i64 n) := H1.out.blk.cell 0
  have pi : w1.cell? ⟨w.heap.size, 0, none⟩ = some (.int .i64 i) := b0.out.cell 0
  go_wp2_with fail
  refine (find2_any g n hn.out i true HQ.out w1 p0).mono ?_
  rintro e w' ⟨rfl, rfl⟩
  go_upto_region 4 with fail
  refine wp_region_tail (C := fun w' => Below w1.heap.size w1 w') 6 (by kernel_rfl) (by kernel_rfl) (by kernel_rfl) (Below.refl _ _).drew ?_
  apply wpK_val
  · rfl
  · intro w' hw'
    go_simp
    first | exact rfl | exact ⟨rfl, hw'⟩
  simp only [Act.put, List.setIfInBounds_toArray, List.set_cons_succ, List.set_cons_zero]
  apply wpK_val
  · rfl
  · intro w' hw'
    go_simp
    first | exact rfl | exact ⟨rfl, hw'⟩
  simp only [Act.put, List.setIfInBounds_toArray, List.set_cons_succ, List.set_cons_zero]
  apply wpK_val
  · rfl
  · intro w' hw'
    go_simp
    first | exact rfl | exact ⟨rfl, hw'⟩
  simp only [Act.put, List.setIfInBounds_toArray, List.set_cons_succ, List.set_cons_zero]
  apply wpK_val
  · rfl
  · intro w' hw'
    have hcell := (H1.out.below hw').blk.cell 1
    go_simp
    first | exact rfl | exact ⟨rfl, hw'⟩
  simp only [Act.put, List.setIfInBounds_toArray, List.set_cons_succ, List.set_cons_zero]
  apply wpK_val
  · rfl
  · intro w' hw'
    have hcell := (b0.out.below hw' b0.out.lt).cell 0
    go_simp
    first | exact rfl | exact ⟨rfl, hw'⟩
  simp only [Act.put, List.setIfInBounds_toArray, List.set_cons_succ, List.set_cons_zero]
  apply kldA tSe
  · rfl
  · rfl
  · exact fun w' hw' => ((b1.out.below hw' b1.out.lt).head)
  simp only [Act.put, List.setIfInBounds_toArray, List.set_cons_succ, List.set_cons_zero]
  intro w2 hC2
  have H2 := hid (H1.out.below hC2)
  have B2 := hid (BEL.out.trans (hC2.mono BEL.out.size))
  have c0 := hid (b0.out.below hC2 b0.out.lt)
  have c1 := hid (b1.out.below hC2 b1.out.lt)
  clear H1 BEL b0 b1 hC2 p0 pi
  go_wp2_with fail
  refine (put_any rs S i x w2 H2.out.seen).mono ?_
  rintro e w3 ⟨rfl, m3, t3⟩
  have H3 := hid (H2.out.setS t3 m3)
  have T3 := hid ((Turn.of_new (S := mSet g rs rd vl vm) B2.out).trans t3 fun _ e => .inl (.inr (.inl e)))
  have b0 := hid (c0.out.turn t3 (by omega))
  have b1 := hid (c1.out.turn t3 (by omega))
  clear H2 B2 c0 c1 m3 t3
  go_upto_region 5 with fail
  refine wp_region_tail (C := fun w' => Below w3.heap.size w3 w') 6 (by kernel_rfl) (by kernel_rfl) (by kernel_rfl) (Below.refl _ _).drew ?_
  apply wpK_val
  · rfl
  · intro w' hw'
    go_simp
    first | exact rfl | exact ⟨rfl, hw'⟩
  simp only [Act.put, List.setIfInBounds_toArray, List.set_cons_succ, List.set_cons_zero]
  apply wpK_val
  · rfl
  · intro w' hw'
    go_simp
    first | exact rfl | exact ⟨rfl, hw'⟩
  simp only [Act.put, List.setIfInBounds_toArray, List.set_cons_succ, List.set_cons_zero]
  apply wpK_val
  · rfl
  · intro w' hw'
    go_simp
    first | exact rfl | exact ⟨rfl, hw'⟩
  simp only [Act.put, List.setIfInBounds_toArray, List.set_cons_succ, List.set_cons_zero]
  apply wpK_val
  · rfl
  · intro w' hw'
    have hcell := (H3.out.below hw').blk.cell 2
    go_simp
    first | exact rfl | exact ⟨rfl, hw'⟩
  simp only [Act.put, List.setIfInBounds_toArray, List.set_cons_succ, List.set_cons_zero]
  apply wpK_val
  · rfl
  · intro w' hw'
    have hcell := (b0.out.below hw' b0.out.lt).cell 0
    go_simp
    first | exact rfl | exact ⟨rfl, hw'⟩
  simp only [Act.put, List.setIfInBounds_toArray, List.set_cons_succ, List.set_cons_zero]
  apply kldA tSe
  · rfl
  · rfl
  · exact fun w' hw' => ((b1.out.below hw' b1.out.lt).head)
  simp only [Act.put, List.setIfInBounds_toArray, List.set_cons_succ, List.set_cons_zero]
  intro w4 hC4
  have H4 := hid (H3.out.below hC4)
  have T4 := hid (T3.out.trans (Turn.of_new (S := fun _ => False) hC4) fun _ e => e.elim)
  have c0 := hid (b0.out.below hC4 b0.out.lt)
  clear H3 T3 b0 b1 hC4
  go_wp2_with fail
  refine (put_any rd D i x w4 H4.out.dur).mono ?_
  rintro e w5 ⟨rfl, m5, t5⟩
  have H5 := hid (H4.out.setD t5 m5)
  have T5 := hid (T4.out.trans t5 fun _ e => .inl (.inr (.inr (.inl e))))
  have b0 := hid (c0.out.turn t5 (by omega))
  have p3 : w5.cell? ⟨g, 3, none⟩ = some vl := H5.out.blk.cell 3
  clear H4 T4 c0 m5 t5
  go_wp2_with fail
  refine (delete_any vl log i w.heap.size w5 H5.out.lg (b0.out.cell 0) (fun b e => by have := (hvl.out b e).2; omega) hlen).mono ?_
  rintro e w6 ⟨vl', rfl, o6, hob, t6⟩
  obtain ⟨A6, c6, rfl, _⟩ := o6.sli atL_len
  have H7 := hid (H5.out.setL t6 o6)
  have T7 := hid ((T5.out.trans t6 fun b e => .inl (.inr (.inr (.inr (.inl e))))).trans (Turn.setCell (S := fun b => b = g) w6 ⟨g, 3, none⟩ (.slice A6 (oth log i).length c6) rfl) fun b e => .inl (.inl e))
  have bb := H5.out.blk.turn t6 H5.out.l_g
  have p3 : w6.cell? ⟨g, 3, none⟩ = some vl := bb.cell 3
  have fz := bb.frozen 3
  have HOB := hid hob
  clear H5 T5 b0 o6 t6 bb hob
  go_upto_region 7 with fail
  generalize World.setCell w6 _ _ = w7 at H7 T7 ⊢
  have p6 : w7.cell? ⟨g, 6, none⟩ = some (.bool h) := H7.out.blk.cell 6
  have fz := H7.out.blk.frozen 6
  have hfin := hid (And.intro (H7.out.hurt true) (T7.out.trans (Turn.setCell (S := fun b => b = g) w7 ⟨g, 6, none⟩ (.bool true) rfl) fun b e => .inl (.inl e)))
  clear H7 T7
  go_wp2_with fail
  go_ret
  exact ⟨rfl, _, hfin.out.1, HOB.out, hfin.out.2⟩
end
end MbO
end Go.Proofs.YthogklchmhjjkaaGreat
set_option maxRecDepth 100000
namespace Go.Proofs.YthogklchmhjjkaaGreat
open Go.ChangeShapes Go.WideShapes Go.ChangeAt Go.RowKit
attribute [local go_sem] Gives GivesE
namespace MbO
open MbM MbP
section
variable {w w' : World} {g rs rd : Nat} {vl vm : Value} {ms : List Nat} {n : Int} {S D : Img} {log : List Pt} {marks : List Img} {f h : Bool}
/-- Two other images. -/
theorem Mm.clones {rs' rd' : Nat} {F F' : Img} (H : Mm w g rs rd vl vm ms n S D log marks f h) (ht : Turn (fun b => b = g) w w') (hb : Blk w' g 116 (mbC7 n rs' rd' vl vm f h)) (hs : MapB w' rs' F) (hd : MapB w' rd' F') (hne : rs' ≠ rd') (hr : w.heap.size ≤ rs') (hr' : w.heap.size ≤ rd') :
    Mm w' g rs' rd' vl vm ms n F F' log marks f h where
  blk := hb
  pos := H.pos
  seen := hs
  dur := hd
  lg := H.lg.turn ht fun b e e2 => H.l_g (by rw [e, e2])
  mr := H.mr.turn ht fun b e e2 => H.m_g (by rw [e, e2])
  len := H.len
  im i m F h1 h2 := (H.im i m F h1 h2).turn ht fun e => map_ne (H.im i m F h1 h2) H.blk e.symm
  ne := hne
  out m hm := by have := H.lt (.inr hm); exact ⟨by omega, by omega⟩
/-- What holds in the midst of Back's two stores. -/
structure BkC (w0 : World) (g rs rd : Nat) (vl vm : Value) (n : Int) (f h : Bool) (F : Img) (d9 d17 d20 : Bool) (w' : World) : Prop where
  t : Turn (fun b => b = g) w0 w'
  b : d20 = false → Below w0.heap.size w0 w'
  c1 : d17 = true → d9 = true
  c2 : d20 = true → d17 = true
  s0 : d9 = false → w'.heap.size = w0.heap.size
  s1 : d9 = true → d17 = false → w'.heap.size = w0.heap.size + 1
  m1 : d9 = true → MapB w' w0.heap.size F
  m2 : d17 = true → MapB w' (w0.heap.size + 1) F
  blk : Blk w' g 116 (mbC7 n (if d20 then w0.heap.size else rs) rd vl vm f h)
theorem no_of {a b : Bool} (h : b = true → a = true) (ha : a = false) : b = false := by
  cases b with
  | false => rfl
  | true => rw [h rfl] at ha; cases ha
set_option maxHeartbeats 400000 in
theorem back2_bad (H : Mm w g rs rd vl vm ms n S D log marks f h) (i : Int) (hi : i < 0 ∨ (marks.length : Int) ≤ i) :
    Calls Tryz.prog 90 #[at' g, .int .i64 i] w fun e w' => e = .returned (.int .i64 2) ∧ w = w' := by
  have p0 : w.cell? ⟨g, 0, none⟩ = some (.int .i64 n) := H.blk.cell 0
  obtain ⟨A, c, e, _⟩ := H.mr.sli eltIm.len
  rw [List.length_map, H.len] at e
  have p4 : w.cell? ⟨g, 4, none⟩ = some (.slice A marks.length c) := by rw [← e]; exact H.blk.cell 4
  have hn := hid H.pos
  unfold at'
  clear H e
  by_cases h0 : i < 0
  · go_enter Tryz.func90, Tryz.ntmps90
    go_wp2_with fail
    refine (made_any g n hn.out w p0).mono ?_
    rintro e w' ⟨rfl, rfl⟩
    go_wp2_with fail
    go_ret
    exact ⟨rfl, rfl⟩
  · have t2 : (marks.length : Int) ≤ i := by omega
    go_enter Tryz.func90, Tryz.ntmps90
    go_wp2_with fail
    refine (made_any g n hn.out w p0).mono ?_
    rintro e w' ⟨rfl, rfl⟩
    go_wp2_with fail
    go_ret
    exact ⟨rfl, rfl⟩
set_option maxHeartbeats 1000000 in
set_option maxRecDepth 100000 in
theorem back2_any (H : Mm w g rs rd vl vm ms n S D log marks f h) (k : Nat) (F : Img) (hk : marks[k]? = some F) :
    Calls Tryz.prog 90 #[at' g, .int .i64 k] w fun e w' => e = .returned (.int .i64 0) ∧ ∃ rs' rd', Mm w' g rs' rd' (.slice none 0 0) vm ms n F F [] marks f true ∧
      w.heap.size ≤ rs' ∧ w.heap.size ≤ rd' ∧ Turn (fun b => b = g) w w' := by
  have p0 : w.cell? ⟨g, 0, none⟩ = some (.int .i64 n) := H.blk.cell 0
  obtain ⟨A, c, rfl, sl⟩ := H.mr.sli eltIm.len
  have hml : (ms.map some).length = marks.length := by rw [List.length_map, H.len]
  have hkl : k < marks.length := (List.getElem?_eq_some_iff.1 hk).1
  obtain ⟨m, hm⟩ : ∃ m, ms[k]? = some m := ⟨_, List.getElem?_eq_getElem (by rw [H.len]; exact hkl)⟩
  have hF := hid (H.im k m F hm hk)
  obtain ⟨b, o, rfl, _, hbl, hr⟩ := sl.some (i := k) (x := some m) (by rw [List.getElem?_map, hm]; rfl)
  have pk : w.cell? ⟨b, o + k * 1, none⟩ = some (.map (some m)) := hr 0 _ rfl
  rw [Nat.mul_one] at pk
  have HV := hid (show (Value.slice (some ⟨b, o, none⟩) (ms.map some).length c) = .slice (some ⟨b, o, none⟩) marks.length c by rw [hml])
  have p4 : w.cell? ⟨g, 4, none⟩ = some (.slice (some ⟨b, o, none⟩) marks.length c) := by rw [← hml]; exact H.blk.cell 4
  have hn := hid H.pos
  have HH := hid H
  unfold at'
  have t1 : (k : Int) < (marks.length : Int) := by omega
  clear H hml sl hr hm hk
  go_enter Tryz.func90, Tryz.ntmps90
  go_wp2_with fail
  refine (made_any g n hn.out w p0).mono ?_
  rintro e w' ⟨rfl, rfl⟩
  go_upto_region 5 with fail
  have hFm := hid (show ∀ w', Turn (fun b => b = g) w w' → MapB w' m F from fun w' ht => hF.out.turn ht fun e => map_ne hF.out HH.out.blk e.symm)
  have hbg : b ≠ g := fun e => HH.out.m_g (by rw [e]; rfl)
  have hgl := HH.out.blk.lt
  refine wp_region_c (S := yS [some (.pointer (some ⟨g, 0, none⟩)), some (.pointer (some ⟨g, 0, none⟩)), some (.pointer (some ⟨g, 0, none⟩)), some (.pointer (some ⟨g, 0, none⟩)), some (.pointer (some ⟨g, 4, none⟩)), some (.slice (some ⟨b, o, none⟩) marks.length c), some (.int .i64 k), some (.pointer (some ⟨b, o + k, none⟩)), some (.map (some m)), some (.map (some w.heap.size)),
      some (.pointer (some ⟨g, 0, none⟩)), some (.pointer (some ⟨g, 0, none⟩)), some (.pointer (some ⟨g, 4, none⟩)), some (.slice (some ⟨b, o, none⟩) marks.length c), some (.int .i64 k), some (.pointer (some ⟨b, o + k, none⟩)), some (.map (some m)), some (.map (some (w.heap.size + 1))), some (.pointer (some ⟨g, 0, none⟩)), some (.pointer (some ⟨g, 1, none⟩)), none] [])
    (C := fun d _ w' => BkC w g rs rd vl (.slice (some ⟨b, o, none⟩) marks.length c) n f h F (d 9) (d 17) (d 20) w') 21 (by kernel_rfl) (by kernel_rfl) (by kernel_rfl) _ (yS_ok _ fun y hy => by cases hy) ?_ fun vs => ?_
  · exact ⟨Turn.drew _, fun _ => (Below.refl _ _).drew, (fun e => by cases e), (fun e => by cases e), fun _ => rfl, (fun e => by cases e), (fun e => by cases e), (fun e => by cases e), by
      have := HH.out.blk.turn (Turn.drew (S := fun _ => False) w) id
      rw [HV.out] at this
      exact this⟩
  simp only [List.take_succ_cons, List.take_zero, List.drop_succ_cons, List.drop_zero]
  refine ⟨.inl ⟨rfl, fun dd w' hd hnx hw hC => ?_⟩, fun e => ?_⟩
  · go_simp
    first | exact ⟨rfl, hC⟩ | exact hC
  have e' : vs 0 = _ := e
  rw [e']
  clear e e'
  simp only [Act.put, List.setIfInBounds_toArray, List.set_cons_succ, List.set_cons_zero]
  refine ⟨.inl ⟨rfl, fun dd w' hd hnx hw hC => ?_⟩, fun e => ?_⟩
  · go_simp
    first | exact ⟨rfl, hC⟩ | exact hC
  have e' : vs 1 = _ := e
  rw [e']
  clear e e'
  simp only [Act.put, List.setIfInBounds_toArray, List.set_cons_succ, List.set_cons_zero]
  refine ⟨.inl ⟨rfl, fun dd w' hd hnx hw hC => ?_⟩, fun e => ?_⟩
  · go_simp
    first | exact ⟨rfl, hC⟩ | exact hC
  have e' : vs 2 = _ := e
  rw [e']
  clear e e'
  simp only [Act.put, List.setIfInBounds_toArray, List.set_cons_succ, List.set_cons_zero]
  refine ⟨.inl ⟨rfl, fun dd w' hd hnx hw hC => ?_⟩, fun e => ?_⟩
  · go_simp
    first | exact ⟨rfl, hC⟩ | exact hC
  have e' : vs 3 = _ := e
  rw [e']
  clear e e'
  simp only [Act.put, List.setIfInBounds_toArray, List.set_cons_succ, List.set_cons_zero]
  refine ⟨.inl ⟨rfl, fun dd w' hd hnx hw hC => ?_⟩, fun e => ?_⟩
  · go_simp
    first | exact ⟨rfl, hC⟩ | exact hC
  have e' : vs 4 = _ := e
  rw [e']
  clear e e'
  simp only [Act.put, List.setIfInBounds_toArray, List.set_cons_succ, List.set_cons_zero]
  refine ⟨.inl ⟨rfl, fun dd w' hd hnx hw hC => ?_⟩, fun e => ?_⟩
  · have h1 : w'.cell? ⟨g, 4, none⟩ = some (.slice (some ⟨b, o, none⟩) marks.length c) := hC.blk.cell 4
    go_simp
    first | exact ⟨rfl, hC⟩ | exact hC
  have e' : vs 5 = _ := e
  rw [e']
  clear e e'
  simp only [Act.put, List.setIfInBounds_toArray, List.set_cons_succ, List.set_cons_zero]
  refine ⟨.inl ⟨rfl, fun dd w' hd hnx hw hC => ?_⟩, fun e => ?_⟩
  · go_simp
    first | exact ⟨rfl, hC⟩ | exact hC
  have e' : vs 6 = _ := e
  rw [e']
  clear e e'
  simp only [Act.put, List.setIfInBounds_toArray, List.set_cons_succ, List.set_cons_zero]
  refine ⟨.inl ⟨rfl, fun dd w' hd hnx hw hC => ?_⟩, fun e => ?_⟩
  · go_simp
    first | exact ⟨rfl, hC⟩ | exact hC
  have e' : vs 7 = _ := e
  rw [e']
  clear e e'
  simp only [Act.put, List.setIfInBounds_toArray, List.set_cons_succ, List.set_cons_zero]
  refine ⟨.inl ⟨rfl, fun dd w' hd hnx hw hC => ?_⟩, fun e => ?_⟩
  · have h1 : w'.cell? ⟨b, o + k, none⟩ = some (.map (some m)) := hC.t.cell pk hbg
    go_simp
    first | exact ⟨rfl, hC⟩ | exact hC
  have e' : vs 8 = _ := e
  rw [e']
  clear e e'
  simp only [Act.put, List.setIfInBounds_toArray, List.set_cons_succ, List.set_cons_zero]
  refine ⟨.inl ⟨rfl, fun dd w' hd hnx hw hC => ?_⟩, fun e => ?_⟩
  · have h17 := no_of hC.c1 hd
    have h20 := no_of hC.c2 h17
    have hs0 := hC.s0 hd
    go_simp
    refine (clone_any m F w' (hFm.out w' hC.t)).mono ?_
    rintro e w4 ⟨rfl, m4, h4, hs4⟩
    rw [hs0] at m4 hs4 ⊢
    exact ⟨_, rfl, rfl, hC.t.trans (Turn.of_new (S := fun _ => False) h4) (fun _ e => e.elim), (fun _ => (hC.b h20).trans (h4.mono (by omega))), (fun _ => rfl), hC.c2, (fun e => by cases e), (fun _ _ => hs4), (fun _ => m4), (fun e => by
      have e' : dd 17 = true := e
      rw [h17] at e'; cases e'), hC.blk.below h4 (by omega)⟩
  have e' : vs 9 = _ := e
  rw [e']
  clear e e'
  simp only [Act.put, List.setIfInBounds_toArray, List.set_cons_succ, List.set_cons_zero]
  refine ⟨.inl ⟨rfl, fun dd w' hd hnx hw hC => ?_⟩, fun e => ?_⟩
  · go_simp
    first | exact ⟨rfl, hC⟩ | exact hC
  have e' : vs 10 = _ := e
  rw [e']
  clear e e'
  simp only [Act.put, List.setIfInBounds_toArray, List.set_cons_succ, List.set_cons_zero]
  refine ⟨.inl ⟨rfl, fun dd w' hd hnx hw hC => ?_⟩, fun e => ?_⟩
  · go_simp
    first | exact ⟨rfl, hC⟩ | exact hC
  have e' : vs 11 = _ := e
  rw [e']
  clear e e'
  simp only [Act.put, List.setIfInBounds_toArray, List.set_cons_succ, List.set_cons_zero]
  refine ⟨.inl ⟨rfl, fun dd w' hd hnx hw hC => ?_⟩, fun e => ?_⟩
  · go_simp
    first | exact ⟨rfl, hC⟩ | exact hC
  have e' : vs 12 = _ := e
  rw [e']
  clear e e'
  simp only [Act.put, List.setIfInBounds_toArray, List.set_cons_succ, List.set_cons_zero]
  refine ⟨.inl ⟨rfl, fun dd w' hd hnx hw hC => ?_⟩, fun e => ?_⟩
  · have h1 : w'.cell? ⟨g, 4, none⟩ = some (.slice (some ⟨b, o, none⟩) marks.length c) := hC.blk.cell 4
    go_simp
    first | exact ⟨rfl, hC⟩ | exact hC
  have e' : vs 13 = _ := e
  rw [e']
  clear e e'
  simp only [Act.put, List.setIfInBounds_toArray, List.set_cons_succ, List.set_cons_zero]
  refine ⟨.inl ⟨rfl, fun dd w' hd hnx hw hC => ?_⟩, fun e => ?_⟩
  · go_simp
    first | exact ⟨rfl, hC⟩ | exact hC
  have e' : vs 14 = _ := e
  rw [e']
  clear e e'
  simp only [Act.put, List.setIfInBounds_toArray, List.set_cons_succ, List.set_cons_zero]
  refine ⟨.inl ⟨rfl, fun dd w' hd hnx hw hC => ?_⟩, fun e => ?_⟩
  · go_simp
    first | exact ⟨rfl, hC⟩ | exact hC
  have e' : vs 15 = _ := e
  rw [e']
  clear e e'
  simp only [Act.put, List.setIfInBounds_toArray, List.set_cons_succ, List.set_cons_zero]
  refine ⟨.inl ⟨rfl, fun dd w' hd hnx hw hC => ?_⟩, fun e => ?_⟩
  · have h1 : w'.cell? ⟨b, o + k, none⟩ = some (.map (some m)) := hC.t.cell pk hbg
    go_simp
    first | exact ⟨rfl, hC⟩ | exact hC
  have e' : vs 16 = _ := e
  rw [e']
  clear e e'
  simp only [Act.put, List.setIfInBounds_toArray, List.set_cons_succ, List.set_cons_zero]
  refine ⟨.inl ⟨rfl, fun dd w' hd hnx hw hC => ?_⟩, fun e => ?_⟩
  · have h9 : dd 9 = true := hw 9 (by kernel_rfl)
    have h20 := no_of hC.c2 hd
    have hs1 := hC.s1 h9 hd
    go_simp
    refine (clone_any m F w' (hFm.out w' hC.t)).mono ?_
    rintro e w4 ⟨rfl, m4, h4, hs4⟩
    rw [hs1] at m4 hs4 ⊢
    exact ⟨_, rfl, rfl, hC.t.trans (Turn.of_new (S := fun _ => False) h4) (fun _ e => e.elim), (fun _ => (hC.b h20).trans (h4.mono (by omega))), (fun _ => h9), (fun _ => rfl), (fun e => by
      have e' : dd 9 = false := e
      rw [h9] at e'; cases e'), (fun _ e => by cases e), (fun _ => (hC.m1 h9).below h4), (fun _ => m4), hC.blk.below h4 (by omega)⟩
  have e' : vs 17 = _ := e
  rw [e']
  clear e e'
  simp only [Act.put, List.setIfInBounds_toArray, List.set_cons_succ, List.set_cons_zero]
  refine ⟨.inl ⟨rfl, fun dd w' hd hnx hw hC => ?_⟩, fun e => ?_⟩
  · go_simp
    first | exact ⟨rfl, hC⟩ | exact hC
  have e' : vs 18 = _ := e
  rw [e']
  clear e e'
  simp only [Act.put, List.setIfInBounds_toArray, List.set_cons_succ, List.set_cons_zero]
  refine ⟨.inl ⟨rfl, fun dd w' hd hnx hw hC => ?_⟩, fun e => ?_⟩
  · go_simp
    first | exact ⟨rfl, hC⟩ | exact hC
  have e' : vs 19 = _ := e
  rw [e']
  clear e e'
  simp only [Act.put, List.setIfInBounds_toArray, List.set_cons_succ, List.set_cons_zero]
  refine ⟨.inl ⟨rfl, fun dd w' hd hnx hw hC => ?_⟩, fun e => ?_⟩
  · have h9 : dd 9 = true := hw 9 (by kernel_rfl)
    have h17 : dd 17 = true := hw 17 (by kernel_rfl)
    have hb := hC.blk
    rw [hd, if_neg (by simp)] at hb
    have h1 : w'.cell? ⟨g, 1, none⟩ = some (.map (some rs)) := hb.cell 1
    have fz := hb.frozen 1
    have tu := Turn.setCell (S := fun b => b = g) w' ⟨g, 1, none⟩ (.map (some w.heap.size)) rfl
    have hm1 := hC.m1 h9
    have hm2 := hC.m2 h17
    have hfin0 : BkC w g rs rd vl (.slice (some ⟨b, o, none⟩) marks.length c) n f h F true true true (w'.setCell ⟨g, 1, none⟩ (.map (some w.heap.size))) := ⟨hC.t.trans tu fun _ e => .inl e, (fun e => by cases e), fun _ => rfl, fun _ => rfl, (fun e => by cases e), (fun _ e => by cases e),
      (fun _ => hm1.turn tu fun e => by omega), (fun _ => hm2.turn tu fun e => by omega), hb.setCell_same 1 _⟩
    have hfin : BkC w g rs rd vl (.slice (some ⟨b, o, none⟩) marks.length c) n f h F (dd 9) (dd 17) true (w'.setCell ⟨g, 1, none⟩ (.map (some w.heap.size))) := by rw [h9, h17]; exact hfin0
    go_simp
    first | exact ⟨trivial, hfin⟩ | exact hfin
  simp only [Act.put]
  clear e
  intro dd w4 hall hC
  rw [hall 9 (by omega), hall 17 (by omega), hall 20 (by omega)] at hC
  have hb := hC.blk
  rw [if_pos rfl] at hb
  have p2 : w4.cell? ⟨g, 2, none⟩ = some (.map (some rd)) := hb.cell 2
  have fz := hb.frozen 2
  have tu := Turn.setCell (S := fun b => b = g) w4 ⟨g, 2, none⟩ (.map (some (w.heap.size + 1))) rfl
  have M5 := hid (show Mm (w4.setCell ⟨g, 2, none⟩ (.map (some (w.heap.size + 1)))) g w.heap.size (w.heap.size + 1) vl (.slice (some ⟨b, o, none⟩) (ms.map some).length c) ms n F F log marks f h from
    HH.out.clones (hC.t.trans tu fun _ e => .inl e) (by rw [HV.out]; exact hb.setCell_same 2 _) ((hC.m1 rfl).turn tu fun e => by omega) ((hC.m2 rfl).turn tu fun e => by omega) (by omega) (Nat.le_refl _) (by omega))
  have T5 := hid (show Turn (fun b => b = g) w (w4.setCell ⟨g, 2, none⟩ (.map (some (w.heap.size + 1)))) from hC.t.trans tu fun _ e => .inl e)
  clear hC hb tu hFm HH hF HV hall
  go_upto_region 6 with fail
  generalize World.setCell w4 _ _ = w5 at M5 T5 ⊢
  have p3 : w5.cell? ⟨g, 3, none⟩ = some vl := M5.out.blk.cell 3
  have fz := M5.out.blk.frozen 3
  have M6 := hid M5.out.noLog
  have T6 := hid (T5.out.trans (Turn.setCell (S := fun b => b = g) w5 ⟨g, 3, none⟩ (.slice none 0 0) rfl) fun _ e => .inl e)
  clear M5 T5
  go_upto_region 7 with fail
  generalize World.setCell w5 _ _ = w6 at M6 T6 ⊢
  have p6 : w6.cell? ⟨g, 6, none⟩ = some (.bool h) := M6.out.blk.cell 6
  have fz := M6.out.blk.frozen 6
  have M7 := hid (M6.out.hurt true)
  have T7 := hid (T6.out.trans (Turn.setCell (S := fun b => b = g) w6 ⟨g, 6, none⟩ (.bool true) rfl) fun _ e => .inl e)
  clear M6 T6
  go_wp2_with fail
  go_ret
  exact ⟨rfl, _, _, M7.out, Nat.le_refl _, by omega, T7.out⟩
end
end MbO
end Go.Proofs.YthogklchmhjjkaaGreat
set_option maxRecDepth 100000
namespace Go.Proofs.YthogklchmhjjkaaGreat
open Go.ChangeShapes Go.WideShapes Go.ChangeAt Go.RowKit
attribute [local go_sem] Gives GivesE
namespace MbO
open MbM MbP
def zMb7 : Array Value := #[.int .i64 0, .map none, .map none, .slice none 0 0, .slice none 0 0, .bool false, .bool false]
/-- What holds in the midst of the clones of Copy. -/
structure CpC (w0 : World) (S D : Img) (d4 d9 : Bool) (w' : World) : Prop where
  b : Below w0.heap.size w0 w'
  c1 : d9 = true → d4 = true
  s0 : d4 = false → w'.heap.size = w0.heap.size
  s1 : d4 = true → d9 = false → w'.heap.size = w0.heap.size + 1
  m1 : d4 = true → MapB w' w0.heap.size S
  m2 : d9 = true → MapB w' (w0.heap.size + 1) D
/-- A member that is being copied. -/
structure CpL (w0 w : World) (g rs rd : Nat) (vl : Value) (gm N : Nat) (ds : List Nat) (n : Int) (S D : Img) (log : List Pt) (marks : List Img) (f h : Bool) : Prop where
  blk : Blk w g 116 (mbC7 n rs rd vl (.slice (some ⟨gm, 0, none⟩) N N) f h)
  seen : MapB w rs S
  dur : MapB w rd D
  lg : OwnL w w0.heap.size vl log
  mr : Blk w gm 112 (ds.map (fun d => Value.map (some d)) ++ List.replicate (N - ds.length) (Value.map none)).toArray
  im : ∀ (i m : Nat) (F : Img), ds[i]? = some m → marks[i]? = some F → MapB w m F
  len : ds.length ≤ N ∧ marks.length = N
  new : w0.heap.size ≤ g ∧ w0.heap.size ≤ rs ∧ w0.heap.size ≤ rd ∧ w0.heap.size ≤ gm ∧ ∀ d, d ∈ ds → w0.heap.size ≤ d
  ne : rs ≠ rd
  out : ∀ d, d ∈ ds → d ≠ rs ∧ d ≠ rd
  b : Below w0.heap.size w0 w
section
variable {w0 w w' : World} {g rs rd : Nat} {vl vm : Value} {gm N : Nat} {ds ms : List Nat} {n : Int} {S D : Img} {log : List Pt} {marks : List Img} {f h : Bool}
theorem CpL.below (H : CpL w0 w g rs rd vl gm N ds n S D log marks f h) (hb : Below w.heap.size w w') : CpL w0 w' g rs rd vl gm N ds n S D log marks f h where
  blk := H.blk.below hb H.blk.lt
  seen := H.seen.below hb
  dur := H.dur.below hb
  lg := H.lg.below hb (Nat.le_refl _)
  mr := H.mr.below hb H.mr.lt
  im i m F h1 h2 := (H.im i m F h1 h2).below hb
  len := H.len
  new := H.new
  ne := H.ne
  out := H.out
  b := H.b.trans (hb.mono H.b.size)
theorem CpL.put (H : CpL w0 w g rs rd vl gm N ds n S D log marks f h) (hb : Below w.heap.size w w') (r : Nat) (F : Img) (hr : w.heap.size ≤ r) (hm : MapB w' r F) (hF : marks[ds.length]? = some F) (hl : ds.length < N) :
    CpL w0 (w'.setCell ⟨gm, ds.length, none⟩ (.map (some r))) g rs rd vl gm N (ds ++ [r]) n S D log marks f h := by
  have H' := H.below hb
  have hgm := H.mr.lt
  have tu := Turn.setCell (S := fun b => b = gm) w' ⟨gm, ds.length, none⟩ (.map (some r)) rfl
  have hmr : ∀ {x : Nat} {G : Img}, MapB w' x G → x ≠ gm := fun hx e => map_ne hx (show w'.heap[gm]? = some (.cells _ 112 (0, 0)) from H'.mr) e.symm
  exact {
    blk := H'.blk.turn tu fun e => by
      have h1 : w'.heap[g]? = some (.cells _ 116 (0, 0)) := H'.blk
      have h2 : w'.heap[gm]? = some (.cells _ 112 (0, 0)) := H'.mr
      rw [e, h2] at h1
      simp at h1
    seen := H'.seen.turn tu (hmr H'.seen)
    dur := H'.dur.turn tu (hmr H'.dur)
    lg := H'.lg.turn tu fun b e e2 => by
      obtain ⟨c, hc⟩ := H'.lg.obj e
      have h2 : w'.heap[gm]? = some (.cells _ 112 (0, 0)) := H'.mr
      rw [e2, h2] at hc
      simp at hc
    mr := by
      have h1 := H'.mr.setCell_same ds.length (.map (some r))
      have e : ((ds.map (fun d => Value.map (some d)) ++ List.replicate (N - ds.length) (Value.map none)).toArray).setIfInBounds ds.length (.map (some r)) = ((ds ++ [r]).map (fun d => Value.map (some d)) ++ List.replicate (N - (ds ++ [r]).length) (Value.map none)).toArray := by
        rw [List.setIfInBounds_toArray, List.set_append_right _ _ (by rw [List.length_map]; exact Nat.le_refl _), List.length_map, Nat.sub_self, List.length_append, List.length_cons, List.length_nil, List.map_append, List.append_assoc]
        obtain ⟨q, hq⟩ : ∃ q, N - ds.length = q + 1 := ⟨N - ds.length - 1, by omega⟩
        rw [hq, show N - (ds.length + (0 + 1)) = q by omega, List.replicate_succ]
        rfl
      rw [e] at h1
      exact h1
    im := fun i m G h1 h2 => by
      by_cases hi : i < ds.length
      · rw [List.getElem?_append_left hi] at h1
        exact (H'.im i m G h1 h2).turn tu (hmr (H'.im i m G h1 h2))
      · have hi2 : i = ds.length := by
          have := (List.getElem?_eq_some_iff.1 h1).1
          rw [List.length_append, List.length_cons, List.length_nil] at this
          omega
        subst hi2
        rw [List.getElem?_append_right (Nat.le_refl _), Nat.sub_self, List.getElem?_cons_zero] at h1
        cases h1
        rw [hF] at h2
        cases h2
        exact hm.turn tu (hmr hm)
    len := ⟨by rw [List.length_append, List.length_cons, List.length_nil]; omega, H.len.2⟩
    new := ⟨H.new.1, H.new.2.1, H.new.2.2.1, H.new.2.2.2.1, fun d hd => by
      rcases List.mem_append.1 hd with hd | hd
      · exact H.new.2.2.2.2 d hd
      · rw [List.mem_singleton] at hd
        subst hd
        exact Nat.le_trans H.b.size hr⟩
    ne := H.ne
    out := fun d hd => by
      rcases List.mem_append.1 hd with hd | hd
      · exact H.out d hd
      · rw [List.mem_singleton] at hd
        subst hd
        have := H.seen.lt
        have := H.dur.lt
        exact ⟨by omega, by omega⟩
    b := H'.b.trans (tu.below (Nat.le_trans H.new.2.2.2.1 (Nat.le_of_lt H'.mr.lt) |> fun _ => H'.b.size) fun b e => by rw [e]; exact H.new.2.2.2.1) }
theorem CpL.full (H : CpL w0 w g rs rd vl gm N ds n S D log marks f h) (hl : ds.length = N) (hn : 0 < n) (hN : N ≤ 64) : Mm w g rs rd vl (.slice (some ⟨gm, 0, none⟩) N N) ds n S D log marks f h where
  blk := H.blk
  pos := hn
  seen := H.seen
  dur := H.dur
  lg := H.lg.lower (Nat.zero_le _)
  mr := by
    have h1 := H.mr
    rw [hl, Nat.sub_self, List.replicate_zero, List.append_nil] at h1
    have h2 : w.heap[gm]? = some (.cells (ds.map (fun d => Value.map (some d))).toArray 112 (0, 0)) := h1
    have := own_of_ranges (l := ds.map some) (cap := N) (k := 1) (en := imE) (fun _ => rfl) (by omega) h2 (by simp [hl]) (by simp [hl]) (by unfold maxLen; omega) fun q x hx j v hj => by
      rw [cell_of_row w gm _ _ 112 (0, 0) h2]
      cases j with
      | zero =>
        rw [Nat.mul_one, Nat.add_zero]
        rw [List.getElem?_map] at hx
        cases hd : ds[q]? with
        | none => rw [hd] at hx; cases hx
        | some d =>
          rw [hd] at hx
          cases hx
          have : v = .map (some d) := by simpa [imE] using hj.symm
          subst this
          simp [hd]
      | succ j => simp [imE] at hj
    rw [List.length_map, hl] at this
    exact this
  len := by rw [hl, H.len.2]
  im := H.im
  ne := H.ne
  out := H.out
end
section
variable {w : World} {g rs rd : Nat} {vl vm : Value} {ms : List Nat} {n : Int} {S D : Img} {log : List Pt} {marks : List Img} {f h : Bool}
end
end MbO
end Go.Proofs.YthogklchmhjjkaaGreat
set_option maxRecDepth 100000
namespace Go.Proofs.YthogklchmhjjkaaGreat
open Go.ChangeShapes Go.WideShapes Go.ChangeAt Go.RowKit
attribute [local go_sem] Gives GivesE
namespace MbO
open MbM MbP
theorem app_flt {i : Int} {j : Int} (hj : j ≠ i) : ∀ (l : List Pt) (d1 d2 : Img), d1 j = d2 j → app d1 (l.filter fun p => decide (p.i ≠ i)) j = app d2 l j
  | [], d1, d2, h => h
  | p :: l, d1, d2, h => by
    by_cases e : p.i = i
    · rw [List.filter_cons_of_neg (by simp [e]), app_cons]
      refine app_flt hj l d1 _ ?_
      unfold upd
      rw [if_neg fun x => hj (x.trans e)]
      exact h
    · rw [List.filter_cons_of_pos (by simp [e]), app_cons, app_cons]
      refine app_flt hj l _ _ ?_
      unfold upd
      split
      · rfl
      · exact h
theorem seen_set (st : St) (i : Int) (x : Nat → Nat) : MbM.seen (MbM.set st i x) = upd (MbM.seen st) ⟨i, x⟩ := by
  funext j
  show app (upd st.dur ⟨i, x⟩) (st.log.filter fun p => decide (p.i ≠ i)) j = upd (app st.dur st.log) ⟨i, x⟩ j
  by_cases e : j = i
  · subst e
    rw [app_out fun p hp => by simpa using (List.mem_filter.1 hp).2]
    unfold upd
    rw [if_pos rfl, if_pos rfl]
  · rw [app_flt e st.log (upd st.dur ⟨i, x⟩) st.dur (by unfold upd; rw [if_neg e])]
    conv => rhs; unfold upd
    rw [if_neg e]
theorem seen_write (st : St) (i : Int) (x : Nat → Nat) : MbM.seen (MbM.write st i x) = upd (MbM.seen st) ⟨i, x⟩ := app_snoc _ _ _
section
variable {w w' : World} {g : Nat} {M I : Nat → Prop} {k : Nat} {st : St}
theorem rep_mono {k' : Nat} (h : Rep w g M I k st) (hk : k ≤ k') : Rep w g M I k' st := by
  obtain ⟨rs, rd, vl, vm, ms, H, ⟨hl, hm, hn⟩, rfl, rfl⟩ := h
  exact ⟨rs, rd, vl, vm, ms, H, ⟨Nat.le_trans hl hk, hm, hn⟩, rfl, rfl⟩
theorem same_out (h : Rep w g M I k st) (hb : Below w.heap.size w w') : outP Rep w g M I (k + 1) st w' := Rep.same (rep_mono h (by omega)) hb
theorem write_ok (h : Rep w g M I k st) (hk : k ≤ 9000) (i : Int) (x : Nat → Nat) : Calls Tryz.prog 48 #[at' g, .int .i64 i, .agg (ar 64 x)] w fun e w' => e = .returned (.int .i64 (rdE st i)) ∧ outP Rep w g M I (k + 1) (wrT st i x) w' := by
  have h0 := h
  obtain ⟨rs, rd, vl, vm, ms, H, ⟨hl, hm, hn⟩, rfl, rfl⟩ := h
  by_cases hq : st.may i = true
  · by_cases hf : st.fails = true
    · have e1 : rdE st i = 10 := by unfold rdE; rw [if_pos hq, if_pos hf]
      have e2 : wrT st i x = st := by unfold wrT; rw [if_pos hq, if_pos hf]
      rw [e1, e2]
      refine (write2_bad H i true hq x (.inr hf)).mono ?_
      rintro e w2 ⟨rfl, hb⟩
      rw [hf]
      exact ⟨rfl, same_out h0 hb⟩
    · have hf' : st.fails = false := by simpa using hf
      have e1 : rdE st i = 0 := by unfold rdE; rw [if_pos hq, if_neg hf]
      have e2 : wrT st i x = MbM.write st i x := by unfold wrT; rw [if_pos hq, if_neg hf]
      rw [e1, e2]
      rw [hf'] at H
      refine (write2_any H i hq x (by omega)).mono ?_
      rintro e w2 ⟨rfl, vl', H2, hb, ht⟩
      refine ⟨rfl, Rep.out (st' := MbM.write st i x) (rs' := rs) (rd' := rd) (vl' := vl') (vm' := vm) (ms' := ms) (by rw [seen_write]; rw [← hf'] at H2; exact H2) ⟨?_, hm, hn⟩ (fun b hbb => ?_) (fun b e => .inl e) ht⟩
      · show (st.log ++ [_]).length ≤ k + 1
        rw [List.length_append]
        simp
        exact hl
      · rcases hbb with e | e | e | e | e
        · exact .inl (.inl e)
        · exact .inl (.inr (.inl e))
        · exact .inl (.inr (.inr (.inl e)))
        · exact (hb b e).imp (fun e => .inr (.inr (.inr (.inl e)))) id
        · exact .inl (.inr (.inr (.inr (.inr e))))
  · have hq' : st.may i = false := by simpa using hq
    have e1 : rdE st i = 2 := by unfold rdE; rw [if_neg hq]
    have e2 : wrT st i x = st := by unfold wrT; rw [if_neg hq]
    rw [e1, e2]
    refine (write2_bad H i false hq' x (.inl rfl)).mono ?_
    rintro e w2 ⟨rfl, hb⟩
    exact ⟨rfl, same_out h0 hb⟩
theorem three_set {rs rd : Nat} {vl vm : Value} : ∀ b, (b = g ∨ b = rs ∨ b = rd) → mSet g rs rd vl vm b := fun _ e => e.imp id fun e => e.imp id fun e => .inl e
theorem flush_ok (h : Rep w g M I k st) (hk : k ≤ 9000) : Calls Tryz.prog 55 #[at' g] w fun e w' => e = .returned (.int .i64 (MbM.flE st)) ∧ outP Rep w g M I (k + 1) (flT st) w' := by
  have h0 := h
  obtain ⟨rs, rd, vl, vm, ms, H, ⟨hl, hm, hn⟩, rfl, rfl⟩ := h
  refine (flush2_any H (by omega)).mono ?_
  rintro e w2 (⟨hf, rfl, rfl⟩ | ⟨hf, E, rfl, rfl, H2, ht⟩)
  · rw [show MbM.flE st = 10 by unfold MbM.flE; rw [if_pos hf], show flT st = st by unfold flT; rw [if_pos hf]]
    exact ⟨rfl, same_out h0 (Below.refl _ _)⟩
  · rw [show MbM.flE st = 0 by unfold MbM.flE; rw [if_neg (by simp [hf])], show flT st = MbM.flush st by unfold flT; rw [if_neg (by simp [hf])]]
    have hs : app (MbM.seen st) (st.log.map fun p => ⟨p.i, app st.dur st.log p.i⟩) = app st.dur st.log := sem_settle fun p hp => hp
    rw [hs] at H2
    refine ⟨rfl, Rep.out (st' := MbM.flush st) (rs' := rs) (rd' := rd) (vl' := .slice none 0 0) (vm' := vm) (ms' := ms) H2 ⟨Nat.zero_le _, hm, hn⟩ (fun b hb => .inl ?_) (fun b e => .inl e) (ht.mono three_set)⟩
    rcases hb with e | e | e | e | e
    · exact .inl e
    · exact .inr (.inl e)
    · exact .inr (.inr (.inl e))
    · cases e
    · exact .inr (.inr (.inr (.inr e)))
theorem crash_ok (h : Rep w g M I k st) (hk : k ≤ 9000) (P : Option Addr) (picks : List Nat) (pn pc : Nat) (hp : Arg w P picks pn pc) (hne : ∀ b o, 0 < picks.length → P = some ⟨b, o, none⟩ → ¬ (M b ∨ I b)) :
    Calls Tryz.prog 99 #[at' g, .slice P pn pc] w fun e w' => e = .returned (.int .i64 0) ∧ outP Rep w g M I (k + 1) (MbM.crash st picks) w' := by
  obtain ⟨rs, rd, vl, vm, ms, H, ⟨hl, hm, hn⟩, rfl, rfl⟩ := h
  refine (crash2_any H (by omega) P picks pn pc hp fun b o h1 h2 e => hne b o h1 h2 (.inl (.inr (.inr (.inl e))))).mono ?_
  rintro e w2 ⟨E, rfl, rfl, H2, ht⟩
  have hs : app (MbM.seen st) (st.log.map fun p => ⟨p.i, app st.dur (kept st.log picks) p.i⟩) = app st.dur (kept st.log picks) := sem_settle fun p hp => kept_mem hp
  rw [hs] at H2
  refine ⟨rfl, Rep.out (st' := MbM.crash st picks) (rs' := rs) (rd' := rd) (vl' := .slice none 0 0) (vm' := vm) (ms' := ms) H2 ⟨Nat.zero_le _, hm, hn⟩ (fun b hb => .inl ?_) (fun b e => .inl e) (ht.mono three_set)⟩
  rcases hb with e | e | e | e | e
  · exact .inl e
  · exact .inr (.inl e)
  · exact .inr (.inr (.inl e))
  · cases e
  · exact .inr (.inr (.inr (.inr e)))
theorem set_ok (h : Rep w g M I k st) (hk : k ≤ 9000) (i : Int) (x : Nat → Nat) : Calls Tryz.prog 86 #[at' g, .int .i64 i, .agg (ar 64 x)] w fun e w' => e = .returned (.int .i64 (lkE st i)) ∧ outP Rep w g M I (k + 1) (seT st i x) w' := by
  have h0 := h
  obtain ⟨rs, rd, vl, vm, ms, H, ⟨hl, hm, hn⟩, rfl, rfl⟩ := h
  by_cases hq : st.may i = true
  · rw [show lkE st i = 0 by unfold lkE; rw [if_pos hq], show seT st i x = MbM.set st i x by unfold seT; rw [if_pos hq]]
    refine (set2_any H i hq x (by omega)).mono ?_
    rintro e w2 ⟨rfl, vl', H2, hb, ht⟩
    refine ⟨rfl, Rep.out (st' := MbM.set st i x) (rs' := rs) (rd' := rd) (vl' := vl') (vm' := vm) (ms' := ms) (by rw [seen_set]; exact H2) ⟨?_, hm, hn⟩ (fun b hbb => .inl ?_) (fun b e => .inl e) ht⟩
    · exact Nat.le_trans (List.length_filter_le _ _) (by omega)
    · rcases hbb with e | e | e | e | e
      · exact .inl e
      · exact .inr (.inl e)
      · exact .inr (.inr (.inl e))
      · exact .inr (.inr (.inr (.inl (by rw [← hb]; exact e))))
      · exact .inr (.inr (.inr (.inr e)))
  · have hq' : st.may i = false := by simpa using hq
    rw [show lkE st i = 2 by unfold lkE; rw [if_neg hq], show seT st i x = st by unfold seT; rw [if_neg hq]]
    refine (set2_bad H i hq' x).mono ?_
    rintro e w2 ⟨rfl, hb⟩
    exact ⟨rfl, same_out h0 hb⟩
theorem mark_ok (h : Rep w g M I k st) : Calls Tryz.prog 88 #[at' g] w fun e w' => e = .returned (.tuple #[.int .i64 (mkN st), .int .i64 (mkE st)]) ∧ outP Rep w g M I (k + 1) (mkT st) w' := by
  have h0 := h
  obtain ⟨rs, rd, vl, vm, ms, H, ⟨hl, hm, hn⟩, rfl, rfl⟩ := h
  by_cases hf : 64 ≤ st.marks.length
  · rw [show mkN st = 0 by unfold mkN; rw [if_pos hf], show mkE st = 7 by unfold mkE; rw [if_pos hf], show mkT st = st by unfold mkT; rw [if_pos hf]]
    refine (mark2_full H (by omega)).mono ?_
    rintro e w2 ⟨rfl, rfl⟩
    exact ⟨rfl, same_out h0 (Below.refl _ _)⟩
  · rw [show mkN st = st.marks.length by unfold mkN; rw [if_neg hf], show mkE st = 0 by unfold mkE; rw [if_neg hf], show mkT st = MbM.mark st by unfold mkT; rw [if_neg hf]]
    refine (mark2_any H (by omega)).mono ?_
    rintro e w2 ⟨rfl, vm', r, H2, hb, hr, ht⟩
    refine ⟨rfl, Rep.out (st' := MbM.mark st) (rs' := rs) (rd' := rd) (vl' := vl) (vm' := vm') (ms' := ms ++ [r]) H2 ⟨?_, ?_, hn⟩ (fun b hbb => ?_) (fun b e => ?_) ht⟩
    · exact Nat.le_trans hl (by omega)
    · show (st.marks ++ [_]).length ≤ 64
      rw [List.length_append, List.length_cons, List.length_nil]
      omega
    · rcases hbb with e | e | e | e | e
      · exact .inl (.inl e)
      · exact .inl (.inr (.inl e))
      · exact .inl (.inr (.inr (.inl e)))
      · exact .inl (.inr (.inr (.inr (.inl e))))
      · exact (hb b e).imp (fun e => .inr (.inr (.inr (.inr e)))) id
    · rcases List.mem_append.1 e with e | e
      · exact .inl e
      · rw [List.mem_singleton] at e
        subst e
        exact .inr hr
theorem back_ok (h : Rep w g M I k st) (n : Int) : Calls Tryz.prog 90 #[at' g, .int .i64 n] w fun e w' => e = .returned (.int .i64 (bkE st n)) ∧ outP Rep w g M I (k + 1) (bkT st n) w' := by
  have h0 := h
  obtain ⟨rs, rd, vl, vm, ms, H, ⟨hl, hm, hn⟩, rfl, rfl⟩ := h
  by_cases hb : n < 0 ∨ (st.marks.length : Int) ≤ n
  · rw [show bkE st n = 2 by unfold bkE; rw [if_pos hb], show bkT st n = st by unfold bkT; rw [if_pos hb]]
    refine (back2_bad H n hb).mono ?_
    rintro e w2 ⟨rfl, rfl⟩
    exact ⟨rfl, same_out h0 (Below.refl _ _)⟩
  · rw [show bkE st n = 0 by unfold bkE; rw [if_neg hb], show bkT st n = MbM.back st n.toNat by unfold bkT; rw [if_neg hb]]
    obtain ⟨j, rfl⟩ : ∃ j : Nat, n = j := ⟨n.toNat, by omega⟩
    rw [Int.toNat_natCast]
    have hj : j < st.marks.length := by omega
    have hF : st.marks[j]? = some st.marks[j] := List.getElem?_eq_getElem hj
    have hgd : (st.marks.getD j fun _ => zero) = st.marks[j] := by rw [List.getD_eq_getElem?_getD, hF]; rfl
    refine (back2_any H j _ hF).mono ?_
    rintro e w2 ⟨rfl, rs', rd', H2, h1, h2, ht⟩
    refine ⟨rfl, Rep.out (st' := MbM.back st j) (rs' := rs') (rd' := rd') (vl' := .slice none 0 0) (vm' := vm) (ms' := ms) ?_ ⟨Nat.zero_le _, hm, hn⟩ (fun b hbb => ?_) (fun b e => .inl e) (ht.mono fun b e => .inl e)⟩
    · show Mm w2 g rs' rd' _ vm ms st.n (app (st.marks.getD j fun _ => zero) []) (st.marks.getD j fun _ => zero) [] st.marks st.fails true
      rw [hgd, app_nil]
      exact H2
    · rcases hbb with e | e | e | e | e
      · exact .inl (.inl e)
      · exact .inr (by rw [e]; exact h1)
      · exact .inr (by rw [e]; exact h2)
      · cases e
      · exact .inl (.inr (.inr (.inr (.inr e))))
theorem memB_ok : MemB Rep where
  lt h b hb := by
    obtain ⟨rs, rd, vl, vm, ms, H, _, rfl, rfl⟩ := h
    exact H.lt hb
  frame h ht hT := by
    obtain ⟨rs, rd, vl, vm, ms, H, hk, rfl, rfl⟩ := h
    exact ⟨rs, rd, vl, vm, ms, H.turn ht hT, hk, rfl, rfl⟩
  mono h hk := rep_mono h hk
  own h b hb := by
    obtain ⟨rs, rd, vl, vm, ms, H, _, rfl, rfl⟩ := h
    exact H.own hb
  new n h1 h2 w := new_any n h1 h2 w
  bad n h w := bad_any n h w
  read h _ _ i := by
    obtain ⟨rs, rd, vl, vm, ms, H, _, rfl, rfl⟩ := h
    refine (read2_any H i _ rfl).mono ?_
    rintro e w2 ⟨rfl, hb⟩
    exact ⟨rfl, hb⟩
  look h _ _ i := by
    obtain ⟨rs, rd, vl, vm, ms, H, _, rfl, rfl⟩ := h
    refine (look2_any H i _ rfl).mono ?_
    rintro e w2 ⟨rfl, hb⟩
    exact ⟨rfl, hb⟩
  touched h := by
    obtain ⟨rs, rd, vl, vm, ms, H, _, rfl, rfl⟩ := h
    refine (touched2_any H).mono ?_
    rintro e w2 ⟨rfl, rfl⟩
    exact ⟨rfl, Below.refl _ _⟩
  len h := by
    obtain ⟨rs, rd, vl, vm, ms, H, _, rfl, rfl⟩ := h
    refine (len2_any H).mono ?_
    rintro e w2 ⟨rfl, rfl⟩
    exact ⟨rfl, Below.refl _ _⟩
  unflushed h := by
    obtain ⟨rs, rd, vl, vm, ms, H, _, rfl, rfl⟩ := h
    refine (unflushed2_any H).mono ?_
    rintro e w2 ⟨rfl, rfl⟩
    exact ⟨rfl, Below.refl _ _⟩
  write h _ hk i x _ := write_ok h hk i x
  flush h _ hk := flush_ok h hk
  writeF h _ hk hf i x _ := by
    have h0 := h
    obtain ⟨rs, rd, vl, vm, ms, H, _, rfl, rfl⟩ := h
    refine (write2_bad H i _ rfl x (.inr hf)).mono ?_
    rintro e w2 ⟨rfl, hb⟩
    exact ⟨rfl, Rep.same h0 hb⟩
  flushF h _ hk hf := by
    have h0 := h
    obtain ⟨rs, rd, vl, vm, ms, H, ⟨hl, _, _⟩, rfl, rfl⟩ := h
    refine (flush2_any H (by omega)).mono ?_
    rintro e w2 (⟨_, rfl, rfl⟩ | ⟨hf', _⟩)
    · exact ⟨rfl, Rep.same h0 (Below.refl _ _)⟩
    · rw [hf] at hf'; cases hf'
  crash h _ hk P picks pn pc hp hne := crash_ok h hk P picks pn pc hp hne
  set h _ hk i x _ := set_ok h hk i x
  mark h _ _ := mark_ok h
  back h _ _ n := back_ok h n
  fail h q := by
    obtain ⟨rs, rd, vl, vm, ms, H, ⟨hl, hm, hn⟩, rfl, rfl⟩ := h
    refine (fail2_any H q).mono ?_
    rintro e w2 ⟨rfl, H2, ht⟩
    exact ⟨rfl, Rep.out (st' := MbM.fail _ q) H2 ⟨Nat.le_trans hl (Nat.le_succ _), hm, hn⟩ (fun b e => .inl e) (fun b e => .inl e) (ht.mono fun b e => .inl e)⟩
end
end MbO
namespace MbP
theorem memB_ok : MemB MbO.Rep := MbO.memB_ok
end MbP
end Go.Proofs.YthogklchmhjjkaaGreat
set_option maxRecDepth 100000
namespace Go.Proofs.YthogklchmhjjkaaGreat
open Go.ChangeShapes Go.WideShapes Go.ChangeAt Go.RowKit
attribute [local go_sem] Gives GivesE
section
variable {α : Type} {k : Nat} {en : α → List Value} {E L : TypeId} {S : Nat → Prop} {w : World} {a : Act} {dst : Option Tmp} {ty : TypeId} {pos : String} {after : Array Edge} {gd : Option (Nat × Bool)} {R : Value → World → Prop} {o1 o2 : Operand} {v : Value} {l m : List α} {A : Option Addr} {n cap B : Nat}
end
namespace ClP
theorem TurnC.refl (M : Cs) (w : World) : TurnC M w w := ⟨Turn.refl _ _, fun _ _ _ _ => rfl⟩
theorem TurnC.trans {M N : Cs} {w w' w2 : World} (h : TurnC M w w') (h2 : TurnC N w' w2) (hT : ∀ p, N p → M p ∨ w.heap.size ≤ p.1) : TurnC M w w2 where
  out := h.out.trans h2.out fun k e => e.elim fun i e => (hT (k, i) e).imp (fun x => ⟨i, x⟩) id
  cell b i hb hn := (h2.cell b i (Nat.lt_of_lt_of_le hb h.size) fun e => (hT _ e).elim hn fun h3 => absurd hb (Nat.not_lt.2 h3)).trans (h.cell b i hb hn)
theorem TurnC.of_new {M : Cs} {w w' : World} (h : Below w.heap.size w w') : TurnC M w w' where
  out := Turn.of_new h
  cell b i hb _ := World.cell?_of_block (h.block b hb)
/-- A history: of the cell's own, or one that is full; it lies in block b from its start on. -/
structure Hst (w : World) (own : Bool) (b : Nat) (v : Value) (L : List Held) : Prop where
  pos : 0 < L.length
  lt : b < w.heap.size
  sli : ∃ c, v = .slice (some ⟨b, 0, none⟩) L.length c ∧ Sli 33 ceL (fun x => x = b) w (some ⟨b, 0, none⟩) L L.length c ∧ (own = false → c = L.length)
  lg : own = true → OwnX 27 33 ceL w 0 v L
def tailC (own : Bool) (b n : Nat) : Cs := fun p => own = true ∧ p.1 = b ∧ n * 33 ≤ p.2
theorem own_sli {w : World} {v : Value} {L : List Held} {b : Nat} (h : OwnX 27 33 ceL w 0 v L) (hv : v.ownBlock = some b) : b < w.heap.size ∧ ∃ c, v = .slice (some ⟨b, 0, none⟩) L.length c ∧ Sli 33 ceL (fun x => x = b) w (some ⟨b, 0, none⟩) L L.length c := by
  refine ⟨(h.own b hv).2, ?_⟩
  have h2 := h.2
  obtain ⟨A, c, rfl, s⟩ := h.sli ceL_len
  rcases h2 with ⟨e, _⟩ | ⟨g, cap, cur, e, _⟩
  · rw [e] at hv; cases hv
  · rw [e] at hv
    obtain rfl : g = b := by cases hv; rfl
    cases e
    refine ⟨c, rfl, s.len, s.cap, s.max, (fun e => by cases e), fun hn => ?_⟩
    obtain ⟨b', o', e', _, hl, hr⟩ := s.lst hn
    cases e'
    exact ⟨g, 0, rfl, rfl, hl, hr⟩
theorem Hst.turn {w w' : World} {own : Bool} {b : Nat} {v : Value} {L : List Held} {T : Cs} (h : Hst w own b v L) (ht : TurnC T w w') (h1 : ∀ p, p.1 = b → p.2 < L.length * 33 → ¬ T p) (h2 : ∀ p, tailC own b L.length p → ¬ T p) : Hst w' own b v L := by
  refine ⟨h.pos, Nat.lt_of_lt_of_le h.lt ht.size, ?_, fun e => ?_⟩
  · obtain ⟨c, e, s, f⟩ := h.sli
    refine ⟨c, e, ⟨s.len, s.cap, s.max, s.none, fun hn => ?_⟩, f⟩
    obtain ⟨b', o', e', hb', hl, hr⟩ := s.lst hn
    cases e'
    refine ⟨b, 0, rfl, rfl, Nat.lt_of_lt_of_le hl ht.size, fun q x hq j u hj => ?_⟩
    have hq' := (List.getElem?_eq_some_iff.1 hq).1
    have hj' : j < 33 := by have := (List.getElem?_eq_some_iff.1 hj).1; rwa [ceL_len] at this
    rw [ht.cell b _ hl (h1 (b, 0 + q * 33 + j) rfl (show 0 + q * 33 + j < L.length * 33 by omega))]
    exact hr q x hq j u hj
  · subst e
    refine (h.lg rfl).turn ht.out fun b' hb' ⟨i, hi⟩ => ?_
    obtain ⟨c, e, _⟩ := h.sli
    rw [e] at hb'
    obtain rfl : b = b' := by cases hb'; rfl
    by_cases hlt : i < L.length * 33
    · exact h1 (b, i) rfl hlt hi
    · exact h2 (b, i) ⟨rfl, rfl, Nat.not_lt.1 hlt⟩ hi
theorem Hst.below {w w' : World} {own : Bool} {b : Nat} {v : Value} {L : List Held} (h : Hst w own b v L) (hb : Below w.heap.size w w') : Hst w' own b v L :=
  h.turn (T := fun _ => False) (TurnC.of_new hb) (fun _ _ _ e => e) fun _ _ e => e
section
variable {a : Act} {w : World} {dst : Option Tmp} {ty : TypeId} {pos : String} {after : Array Edge} {gd : Option (Nat × Bool)} {R : Value → World → Prop} {o1 o2 : Operand} {own : Bool} {b : Nat} {v : Value} {L : List Held} {x : Held} {S : Nat → Prop} {A : Option Addr} {c : Nat}
end
/-- What holds in the midst of an append of one element to a history. -/
structure ApH (w0 : World) (own : Bool) (bk : Nat) (L : List Held) (x : Held) (d8 d9 : Bool) (v8 v9 : Value) (w' : World) : Prop where
  t : TurnC (tailC own bk L.length) w0 w'
  b : d9 = false → Below w0.heap.size w0 w'
  lit : d8 = true → d9 = false → ∃ A c, v8 = .slice A 1 c ∧ Sli 33 ceL (fun b => w0.heap.size ≤ b) w' A [x] 1 c
  own : d9 = true → ∃ b', Hst w' true b' v9 (L ++ [x]) ∧ (own = true ∧ b' = bk ∨ w0.heap.size ≤ b')
end ClP
end Go.Proofs.YthogklchmhjjkaaGreat
set_option maxRecDepth 100000
namespace Go.Proofs.YthogklchmhjjkaaGreat
open Go.ChangeShapes Go.WideShapes Go.ChangeAt Go.RowKit
attribute [local go_sem] Gives GivesE
namespace ClP
section
variable {ops : Array Oper} {Q : Exit → Act → World → Prop} {a : Act} {w : World} {rest : List Oper} {dst : Option Tmp} {ty : TypeId} {pos : String} {after : Array Edge} {x y : Operand}
end
end ClP
end Go.Proofs.YthogklchmhjjkaaGreat
set_option maxRecDepth 100000
namespace Go.Proofs.YthogklchmhjjkaaGreat
open Go.ChangeShapes Go.WideShapes Go.ChangeAt Go.RowKit
attribute [local go_sem] Gives GivesE
theorem ret_rowt' {a : Act} {w : World} {g : Nat} {t T : TypeId} {cs : Array Value} {fn : Func} {R : Ending → World → Prop} {p q : Tmp} {v : Value} (hT : RowT T cs.size) (hr : fn.results = #[.cell p T, .tmp q]) (hp : a.tmps.getD p undef = .pointer (some ⟨g, 0, none⟩))
    (hq : a.tmps.getD q undef = v) (hdf : a.defers = []) (hb : Blk w g t cs) (hR : R (.returned (.tuple #[.agg cs, v])) w) : bodyPost Tryz.prog fn R .ret a w := by
  obtain ⟨d, h1, h2⟩ := hT.desc
  refine bodyPost_ret ?_ hdf hR
  have hv : (loadVar T ⟨g, 0, none⟩).run Tryz.prog w = .ok (.agg cs) w := run_loadVar_row w g _ _ cs (0, 0) _ hb h1 (by cases d <;> first | rfl | exact h2) hT.size
  have hp' : a.tmps[p]?.getD undef = .pointer (some ⟨g, 0, none⟩) := by simpa using hp
  have hq' : a.tmps[q]?.getD undef = v := by simpa using hq
  simp [results, hr, hp', hq', asAddr, hv]
namespace ClP
def pcF (m : Bool) (h : Held) (v : Value) (j : Nat) : Value := if j = 0 then .bool m else if j = 34 then v else (ceL h).getD (j - 1) undef
def pcV (m : Bool) (h : Held) (v : Value) : Array Value := row 35 (pcF m h v)
section
variable {w : World} {g : Nat} {m : Bool} {h : Held} {v : Value} {t : TypeId}
theorem pc_m (H : Blk w g t (pcV m h v)) : w.cell? ⟨g, 0, none⟩ = some (.bool m) := by
  rw [H.cell, pcV, get_row_lt (by omega)]; rfl
theorem pc_v (H : Blk w g t (pcV m h v)) : w.cell? ⟨g, 34, none⟩ = some v := by
  rw [H.cell, pcV, get_row_lt (by omega)]; rfl
theorem pc_h (H : Blk w g t (pcV m h v)) : w.rangeAt g 1 (ceL h) := fun j u hj => by
  have hlt : j < 33 := by have := (List.getElem?_eq_some_iff.1 hj).1; rwa [ceL_len] at this
  rw [H.cell, pcV, get_row_lt (by omega)]
  unfold pcF
  rw [if_neg (by omega), if_neg (by omega), show 1 + j - 1 = j by omega, List.getD_eq_getElem?_getD, hj]; rfl
theorem pc_c (H : Blk w g t (pcV m h v)) : w.cell? ⟨g, 1, none⟩ = some (.int .u64 (h.1 : Nat)) := ce_n (pc_h H)
theorem pc_setV (H : Blk w g t (pcV m h v)) (v' : Value) : Blk (w.setCell ⟨g, 34, none⟩ v') g t (pcV m h v') := by
  have h1 := H.setCell_same 34 v'
  rw [pcV, row_set, row_ext (g := pcF m h v') fun j hj => by
    unfold pcF
    by_cases e : j = 34
    · subst e; rfl
    · rw [if_neg e, if_neg e, if_neg e]] at h1
  exact h1
theorem pc_setH (H : Blk w g t (pcV m h v)) (p : Held) : Blk (w.setCells g 1 (ceL p).toArray.toList) g t (pcV m p v) := by
  have h1 := (blk_setCells (ceL p).toArray.toList 1 w (pcF m h v) H (by simp [ceL_len])).1
  have hlen : (ceL p).length = 33 := ceL_len p
  rw [row_ext (g := pcF m p v) fun j hj => by
    show (if 1 ≤ j ∧ j < 1 + (ceL p).length then (ceL p).getD (j - 1) undef else pcF m h v j) = _
    rw [hlen]
    unfold pcF
    by_cases e : 1 ≤ j ∧ j < 1 + 33
    · rw [if_pos e, if_neg (by omega), if_neg (by omega)]
    · rw [if_neg e]
      by_cases e0 : j = 0
      · rw [if_pos e0, if_pos e0]
      · rw [if_neg e0, if_neg e0, if_pos (by omega), if_pos (by omega)]] at h1
  exact h1
theorem pc_there (H : Blk w g t (pcV m h v)) {o n : Nat} (hm : o + n ≤ 35) : w.there g o n := there_of (t := t) (cur := pcV m h v) H (by rw [pcV, size_row]; exact hm)
end
theorem built_pc (h : Held) (A : Option Addr) (n k : Nat) : Tryz.prog.built 120 [(0, .bool true), (1, .agg (ceL h).toArray), (2, .slice A n k)] = some (pcV true h (.slice A n k)) := by kernel_rfl
theorem built_pn (h : Held) : Tryz.prog.built 120 [(0, .bool true), (1, .agg (ceL h).toArray)] = some (pcV true h (.slice none 0 0)) := by kernel_rfl
/-- Block g holds a cell that holds h, and has held H ahead of it. -/
structure Pc (w : World) (g : Nat) (v : Value) (H : List Held) (h : Held) : Prop where
  blk : Blk w g 120 (pcV true h v)
  hs : OwnX 27 33 ceL w 0 v H
  nil : H = [] → v = .slice none 0 0
def mutC (g : Nat) (v : Value) : Cs := fun p => p.1 = g ∨ v.ownBlock = some p.1
def mutB (g : Nat) (v : Value) (b : Nat) : Prop := b = g ∨ v.ownBlock = some b
def repC : RepC := fun w g M I L h => ∃ H v, Pc w g v H h ∧ L = H ++ [h] ∧ M = mutC g v ∧ I = fun _ => False
section
variable {w w' : World} {g : Nat} {v : Value} {H : List Held} {h : Held}
theorem Pc.ne (P : Pc w g v H h) : v.ownBlock ≠ some g := fun e => by
  obtain ⟨c, hc⟩ := P.hs.obj e
  have h2 : w.heap[g]? = some (.cells _ 120 (0, 0)) := P.blk
  rw [hc] at h2
  simp at h2
theorem Pc.turn {T : Nat → Prop} (P : Pc w g v H h) (ht : Turn T w w') (hT : ∀ b, mutB g v b → ¬ T b) : Pc w' g v H h where
  blk := P.blk.turn ht (hT g (.inl rfl))
  hs := P.hs.turn ht fun b hb => hT b (.inr hb)
  nil := P.nil
theorem Pc.below (P : Pc w g v H h) (hb : Below w.heap.size w w') : Pc w' g v H h :=
  P.turn (T := fun _ => False) (Turn.of_new hb) fun _ _ e => e
theorem made_any (P : Pc w g v H h) : Calls Tryz.prog 65 #[ptr' g] w fun e w' => e = .returned (.bool true) ∧ w' = w := by
  have p0 := pc_m P.blk
  unfold ptr'
  clear P
  go_enter Tryz.func65, Tryz.ntmps65
  go_wp2_with fail
  go_ret
  exact ⟨rfl, rfl⟩
section
variable {ops : Array Oper} {Q : Exit → Act → World → Prop} {a : Act} {w : World} {rest : List Oper} {dst : Option Tmp} {ty : TypeId} {pos : String} {after : Array Edge} {x y : Operand} {n k : Nat} {h : Held} {A : Option Addr}
theorem wblP (hx : a.eval x = .agg (ceL h).toArray) (hy : a.eval y = .slice A n k) (hk : wpList Tryz.prog ops Q rest (a.put dst (.agg (pcV true h (.slice A n k)))) w) : wpList Tryz.prog ops Q (⟨dst, .build 120 #[(0, .const (.bool true)), (1, x), (2, y)], ty, pos, after, none⟩ :: rest) a w := by
  have hr : (Instr.build 120 #[(0, .bool true), (1, .agg (ceL h).toArray), (2, .slice A n k)]).run Tryz.prog w = .ok (.agg (pcV true h (.slice A n k))) w := run_build w _ _ _ (built_pc h A n k)
  have hm : (#[(0, .const (.bool true)), (1, x), (2, y)] : Array (Nat × Operand)).map (fun (i, x) => (i, a.eval x)) = #[(0, .bool true), (1, .agg (ceL h).toArray), (2, .slice A n k)] := by
    simp only [List.map_toArray, List.map_cons, List.map_nil, hx, hy]; rfl
  refine wpList_plain rfl fun K hK => ?_
  unfold Oper.wp execOp
  simp only [Sem.run_bind, hm, hr, Result.andThen_ok, Sem.run_pure]
  exact hK _ _ hk
theorem wblN (hx : a.eval x = .agg (ceL h).toArray) (hk : wpList Tryz.prog ops Q rest (a.put dst (.agg (pcV true h (.slice none 0 0)))) w) : wpList Tryz.prog ops Q (⟨dst, .build 120 #[(0, .const (.bool true)), (1, x)], ty, pos, after, none⟩ :: rest) a w := by
  have hr : (Instr.build 120 #[(0, .bool true), (1, .agg (ceL h).toArray)]).run Tryz.prog w = .ok (.agg (pcV true h (.slice none 0 0))) w := run_build w _ _ _ (built_pn h)
  have hm : (#[(0, .const (.bool true)), (1, x)] : Array (Nat × Operand)).map (fun (i, x) => (i, a.eval x)) = #[(0, .bool true), (1, .agg (ceL h).toArray)] := by
    simp only [List.map_toArray, List.map_cons, List.map_nil, hx]; rfl
  refine wpList_plain rfl fun K hK => ?_
  unfold Oper.wp execOp
  simp only [Sem.run_bind, hm, hr, Result.andThen_ok, Sem.run_pure]
  exact hK _ _ hk
end
set_option maxHeartbeats 600000 in
set_option maxRecDepth 100000 in
theorem pread_any (P : Pc w g v H h) : Calls Tryz.prog 33 #[ptr' g] w fun e w' => e = .returned (.tuple #[.agg (ceL h).toArray, .int .i64 0]) ∧ Below w.heap.size w w' := by
  have HH := hid P
  clear P
  unfold ptr'
  go_enter Tryz.func33, Tryz.ntmps33
  go_upto_region 1 with (with_reducible apply alZ' zCe)
  generalize hw1 : World.alloc w _ = w1
  have b1 := hid (show Blk w1 w.heap.size 27 (ceL (0, zero)).toArray by rw [← hw1]; exact Blk.new _ _ _)
  have BEL := hid (show Below w.heap.size w w1 by rw [← hw1]; exact (Below.refl _ _).alloc (Nat.le_refl _) _)
  have H1 := hid (HH.out.below BEL.out)
  clear hw1 HH
  go_wp2_with fail
  refine (made_any H1.out).mono ?_
  rintro e w2 ⟨rfl, rfl⟩
  have b3 := b1.out.setRow_same (ceL h).toArray
  have B3 := hid (below_setRow BEL.out (Nat.le_refl w.heap.size) (ceL h).toArray)
  go_wp2_with (first | ((with_reducible apply ldR (cs := (ceL h).toArray) (tCe h)); rfl; exact pc_h H1.out.blk) | ((with_reducible apply stR (tCe h)); rfl; rfl; exact b1.out; exact ce_size _ _; exact ce_one _))
  apply ret_rowt' (tCe h) Tryz.results33
  · rfl
  · rfl
  · rfl
  · exact b3
  exact ⟨rfl, B3.out⟩
end
set_option maxHeartbeats 600000 in
set_option maxRecDepth 100000 in
theorem pnew_any (c : Nat) (l : Nat → Nat) (hc : c ≤ most) (w : World) :
    Calls Tryz.prog 21 #[.agg (ceL (c, l)).toArray] w fun e w' => ∃ g, e = .returned (.tuple #[ptr' g, .int .i64 0]) ∧ Pc w' g (.slice none 0 0) [] (c, l) ∧ w.heap.size ≤ g ∧ Below w.heap.size w w' := by
  unfold ptr'
  have t1 : decide ((4611686018427387904 : Int) < (c : Int)) = false := by unfold most at hc; simp; omega
  have t2 : ¬ 4611686018427387904 < c := by unfold most at hc; omega
  clear hc
  go_enter Tryz.func21, Tryz.ntmps21
  go_upto_region 1 with fail
  generalize hw1 : World.alloc w _ = w1
  have b1 := hid (show Blk w1 w.heap.size 27 (ceL (c, l)).toArray by rw [← hw1]; exact Blk.new _ _ _)
  have BEL := hid (show Below w.heap.size w w1 by rw [← hw1]; exact (Below.refl _ _).alloc (Nat.le_refl _) _)
  clear hw1
  have q0 : w1.cell? ⟨w.heap.size, 0, none⟩ = some (.int .u64 (c : Nat)) := ce_n b1.out.whole
  go_wp2_with (first
    | ((with_reducible apply ldR (cs := (ceL (c, l)).toArray) (tCe (c, l))); rfl; exact b1.out.whole)
    | ((with_reducible apply wblN (h := (c, l))); rfl))
  go_ret2
  have hs := BEL.out.size
  exact ⟨w1.heap.size, by simp, ⟨Blk.new _ _ _, OwnX.nil _ _ _ _ _, fun _ => rfl⟩, hs, BEL.out.alloc hs _⟩
theorem pnew_bad (c : Nat) (l : Nat → Nat) (hc : most < c) (w : World) :
    Calls Tryz.prog 21 #[.agg (ceL (c, l)).toArray] w fun e w' => e = .returned (.tuple #[.pointer none, .int .i64 2]) ∧ Below w.heap.size w w' := by
  have t1 : decide ((4611686018427387904 : Int) < (c : Int)) = true := by unfold most at hc; simp; omega
  have t2 : 4611686018427387904 < c := hc
  clear hc
  go_enter Tryz.func21, Tryz.ntmps21
  go_upto_region 1 with fail
  generalize hw1 : World.alloc w _ = w1
  have b1 := hid (show Blk w1 w.heap.size 27 (ceL (c, l)).toArray by rw [← hw1]; exact Blk.new _ _ _)
  have BEL := hid (show Below w.heap.size w w1 by rw [← hw1]; exact (Below.refl _ _).alloc (Nat.le_refl _) _)
  clear hw1
  have q0 : w1.cell? ⟨w.heap.size, 0, none⟩ = some (.int .u64 (c : Nat)) := ce_n b1.out.whole
  go_wp2_with fail
  go_ret2
  exact ⟨rfl, BEL.out⟩
end ClP
end Go.Proofs.YthogklchmhjjkaaGreat
set_option maxRecDepth 100000
namespace Go.Proofs.YthogklchmhjjkaaGreat
open Go.ChangeShapes Go.WideShapes Go.ChangeAt Go.RowKit
attribute [local go_sem] Gives GivesE
namespace ClP
section
variable {w : World} {g : Nat} {v : Value} {H : List Held} {h : Held}
/-- What holds in the midst of Copy. -/
structure CoC (w0 : World) (H : List Held) (nl : Prop) (d8 : Bool) (v8 : Value) (w' : World) : Prop where
  b : Below w0.heap.size w0 w'
  own : d8 = true → OwnX 27 33 ceL w' w0.heap.size v8 H ∧ (nl → v8 = .slice none 0 0)
section
variable {a : Act} {w : World} {dst : Option Tmp} {ty : TypeId} {pos : String} {after : Array Edge} {gd : Option (Nat × Bool)} {R : Value → World → Prop} {x y z : Operand} {n c : Nat} {A : Option Addr}
end
/-- What holds in the midst of History. -/
structure HiC (w0 : World) (H : List Held) (h : Held) (d11 d12 : Bool) (v11 v12 : Value) (w' : World) : Prop where
  b : Below w0.heap.size w0 w'
  lit : d11 = true → d12 = false → ∃ A c, v11 = .slice A 1 c ∧ Sli 33 ceL (fun b => w0.heap.size ≤ b) w' A [h] 1 c
  own : d12 = true → OwnX 27 33 ceL w' w0.heap.size v12 (H ++ [h])
end
end ClP
end Go.Proofs.YthogklchmhjjkaaGreat
