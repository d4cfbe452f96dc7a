/-
  The program's settle: unflushed writes made durable, or lost; Flush and Crash.
  A region that draws its order: of each operation's value one states what it is like (S); of the worlds what holds by which operations have come up, and by their values (C).
  The program's Write and Mark.
  The program's Set: unflushed writes there struck out of their row (slices.IndexFunc, slices.DeleteFunc).
  The program's Back and Copy.
  The program's Copy.
-/
import Derived.Test.YteglhalninlapaaMrg3
import Derived.Laws.IdiomCopy
import Derived.Deep.OwnRows
import Derived.Lib.SliceRun
set_option linter.unusedVariables false
set_option linter.unusedSimpArgs false
set_option maxRecDepth 100000
namespace Go.Proofs.Yteglhalninlapaa
open Go.ChangeShapes Go.WideShapes Go.ChangeAt Go.RowKit
attribute [local go_sem] Gives
namespace MbO
open MbM MbP
def keptB (l : List Pt) (q : Nat → Bool) (n : Nat) : List Pt := (List.range n).flatMap fun k => if q k then l[k]?.toList else []
theorem keptB_step (l : List Pt) (q : Nat → Bool) (k : Nat) : keptB l q (k + 1) = keptB l q k ++ (if q k then l[k]?.toList else []) := by
  unfold keptB
  rw [List.range_succ, List.flatMap_append, List.flatMap_singleton]
theorem keptB_yes {l : List Pt} {q : Nat → Bool} {k : Nat} {p : Pt} (hp : l[k]? = some p) (h : q k = true) : keptB l q (k + 1) = keptB l q k ++ [p] := by
  rw [keptB_step, if_pos h, hp]; rfl
theorem keptB_no {l : List Pt} {q : Nat → Bool} {k : Nat} (h : q k = false) : keptB l q (k + 1) = keptB l q k := by
  rw [keptB_step, if_neg (by simp [h]), List.append_nil]
theorem keptB_all (l : List Pt) : ∀ n, n ≤ l.length → keptB l (fun _ => true) n = l.take n
  | 0, _ => by rw [List.take_zero]; rfl
  | n + 1, h => by
    rw [keptB_yes (p := l[n]) (List.getElem?_eq_getElem (by omega)) rfl, keptB_all l n (by omega), List.take_add_one, List.getElem?_eq_getElem (by omega)]; rfl
theorem keptB_picks (l : List Pt) (picks : List Nat) (n : Nat) : keptB l (fun k => decide (picks.getD k 0 ≠ 0)) n = keptN l picks n := by
  unfold keptB keptN
  congr 1
  funext k
  by_cases e : picks.getD k 0 = 0
  · rw [if_neg (by rw [decide_eq_true_eq]; exact fun h => h e), if_pos e]
  · rw [if_pos (by simp only [decide_eq_true_eq]; exact e), if_neg e]
theorem app_out {i : Int} : ∀ {l : List Pt} {d : Img}, (∀ p ∈ l, p.i ≠ i) → app d l i = d i
  | [], d, _ => rfl
  | p :: l, d, h => by
    rw [app_cons, app_out fun q hq => h q (List.mem_cons_of_mem _ hq)]
    unfold upd
    rw [if_neg fun e => h p List.mem_cons_self e.symm]
theorem app_in {i : Int} {x : Nat → Nat} : ∀ {l : List Pt} {d : Img}, (∀ p ∈ l, p.i = i → p.s = x) → (∃ p ∈ l, p.i = i) → app d l i = x
  | [], d, _, ⟨p, hp, _⟩ => by cases hp
  | p :: l, d, h, he => by
    rw [app_cons]
    by_cases e : ∃ q ∈ l, q.i = i
    · exact app_in (fun q hq => h q (List.mem_cons_of_mem _ hq)) e
    · rw [app_out fun q hq hi => e ⟨q, hq, hi⟩]
      obtain ⟨q, hq, hi⟩ := he
      rcases List.mem_cons.1 hq with rfl | hq
      · unfold upd
        rw [if_pos hi.symm]
        exact h q List.mem_cons_self hi
      · exact absurd ⟨q, hq, hi⟩ e
/-- What is seen, once each place of an unflushed write has what is durable there. -/
theorem resee {d : Img} {l k : List Pt} (hk : ∀ p ∈ k, p ∈ l) : app (app d l) (l.map fun p => ⟨p.i, app d k p.i⟩) = app d k := by
  funext i
  by_cases h : ∃ p ∈ l, p.i = i
  · obtain ⟨p, hp, hi⟩ := h
    refine app_in (fun q hq e => ?_) ⟨⟨p.i, app d k p.i⟩, List.mem_map.2 ⟨p, hp, rfl⟩, hi⟩
    obtain ⟨p2, _, rfl⟩ := List.mem_map.1 hq
    show app d k p2.i = app d k i
    rw [show p2.i = i from e]
  · rw [app_out fun q hq e => ?_, app_out fun p hp e => h ⟨p, hp, e⟩, app_out fun p hp e => h ⟨p, hk p hp, e⟩]
    obtain ⟨p2, hp2, rfl⟩ := List.mem_map.1 hq
    exact h ⟨p2, hp2, e⟩
theorem keptB_mem {l : List Pt} {q : Nat → Bool} {n : Nat} : ∀ p ∈ keptB l q n, p ∈ l := fun p h => by
  unfold keptB at h
  obtain ⟨k, _, hk⟩ := List.mem_flatMap.1 h
  split at hk
  · cases e : l[k]? with
    | none => rw [e] at hk; cases hk
    | some x =>
      rw [e] at hk
      simp only [Option.toList_some, List.mem_singleton] at hk
      subst hk
      exact List.mem_of_getElem? e
  · cases hk
section
variable {w w' : World} {g rs rd : Nat} {vl vm : Value} {ms : List Nat} {n : Int} {S D S' D' : Img} {log : List Pt} {marks : List Img} {f h : Bool}
theorem Mm.setD (H : Mm w g rs rd vl vm ms n S D log marks f h) (ht : Turn (fun b => b = rd) w w') (hd : MapB w' rd D') : Mm w' g rs rd vl vm ms n S D' log marks f h where
  blk := H.blk.turn ht H.g_rd
  pos := H.pos
  seen := H.seen.turn ht H.ne
  dur := hd
  lg := H.lg.turn ht fun b e e2 => H.l_rd (by rw [e, e2])
  mr := H.mr.turn ht fun b e e2 => H.m_rd (by rw [e, e2])
  len := H.len
  im i m F h1 h2 := (H.im i m F h1 h2).turn ht fun e => (H.out m (List.mem_of_getElem? h1)).2 e
  ne := H.ne
  out := H.out
theorem Mm.setS (H : Mm w g rs rd vl vm ms n S D log marks f h) (ht : Turn (fun b => b = rs) w w') (hs : MapB w' rs S') : Mm w' g rs rd vl vm ms n S' D log marks f h where
  blk := H.blk.turn ht H.g_rs
  pos := H.pos
  seen := hs
  dur := H.dur.turn ht H.ne.symm
  lg := H.lg.turn ht fun b e e2 => H.l_rs (by rw [e, e2])
  mr := H.mr.turn ht fun b e e2 => H.m_rs (by rw [e, e2])
  len := H.len
  im i m F h1 h2 := (H.im i m F h1 h2).turn ht fun e => (H.out m (List.mem_of_getElem? h1)).1 e
  ne := H.ne
  out := H.out
/-- The unflushed writes let go of. -/
theorem Mm.noLog (H : Mm w g rs rd vl vm ms n S D log marks f h) : Mm (w.setCell ⟨g, 3, none⟩ (.slice none 0 0)) g rs rd (.slice none 0 0) vm ms n S D [] marks f h where
  blk := H.blk.setCell_same 3 _
  pos := H.pos
  seen := H.seen.turn (Turn.setCell (S := fun b => b = g) w ⟨g, 3, none⟩ _ rfl) fun e => H.g_rs e.symm
  dur := H.dur.turn (Turn.setCell (S := fun b => b = g) w ⟨g, 3, none⟩ _ rfl) fun e => H.g_rd e.symm
  lg := OwnX.nil _ _ _ _ _
  mr := H.mr.turn (Turn.setCell (S := fun b => b = g) w ⟨g, 3, none⟩ _ rfl) fun b e e2 => H.m_g (by rw [e, e2])
  len := H.len
  im i m F h1 h2 := (H.im i m F h1 h2).turn (Turn.setCell (S := fun b => b = g) w ⟨g, 3, none⟩ _ rfl) fun e => map_ne (H.im i m F h1 h2) H.blk e.symm
  ne := H.ne
  out := H.out
end
section
variable {ops : Array Oper} {Q : Exit → Act → World → Prop} {a : Act} {w : World} {rest : List Oper} {dst : Option Tmp} {ty T : TypeId} {pos : String} {after : Array Edge} {z : Array Value} {C : World → Prop} {Qk : Act → Prop} {gd : Option (Nat × Bool)} {m x : Operand} {r : Nat} {i : Int} {F : Img}
theorem alZ (hz : ∀ w, (zeroValue T).run Try.prog w = .ok (.agg z) w) (h : wpList Try.prog ops Q rest (a.put dst (.pointer (some ⟨w.heap.size, 0, none⟩))) (w.alloc (.cells z T))) :
    wpList Try.prog ops Q (⟨dst, .alloc T, ty, pos, after, none⟩ :: rest) a w := by
  have hr : (Instr.alloc T true (.tuple #[])).run Try.prog w = .ok (.pointer (some ⟨w.heap.size, 0, none⟩)) (w.alloc (.cells z T)) := by
    simp [Instr.alloc, Sem.run_bind, hz w, newVar, newRow, Value.cells]
  refine wpList_plain rfl fun K hK => ?_
  unfold Oper.wp execOp
  simp only [Sem.run_bind, hr, Result.andThen_ok, Sem.run_pure]
  exact hK _ _ h
theorem klookM (hwt : Region.wanted ⟨dst, .lookup 54 m x false, ty, pos, after, gd⟩ (yielded ops a.tmps) = true) (hm : a.eval m = .map (some r)) (hx : a.eval x = .int .i64 i) (h : ∀ w, C w → MapB w r F)
    (hk : wpK Try.prog ops C Qk rest (a.put dst (.agg (ar 64 (F i))))) : wpK Try.prog ops C Qk (⟨dst, .lookup 54 m x false, ty, pos, after, gd⟩ :: rest) a :=
  wpK_val hwt (fun w hw => gives_value (w' := w) (by simp [execOp, hm, hx, run_look (h w hw) i, Result.andThen]) hw) hk
end
theorem cf_yes (args : Array Value) (w : World) : (callFunc 52 args).run Try.prog w = .ok (.enter 52 args) w := by
  simp [callFunc, Try.func52, Try.f52]
theorem cf_pick (args : Array Value) (w : World) : (callFunc 48 args).run Try.prog w = .ok (.enter 48 args) w := by
  simp [callFunc, Try.func48, Try.f48]
theorem zWr (w : World) : (zeroValue 77).run Try.prog w = .ok (.agg (atL ⟨0, zero⟩).toArray) w := (zero_of_info (P := Try.prog) (t := 77) (v := .agg (atL ⟨0, zero⟩).toArray) (n := 65) (by kernel_rfl)).1 w
theorem atL_size (p q : Pt) : (atL p).toArray.size = (atL q).toArray.size := by rw [List.size_toArray, List.size_toArray, atL_len, atL_len]
section
variable {w : World} {g rs rd : Nat} {vl vm : Value} {ms : List Nat} {n : Int} {S D : Img} {log : List Pt} {marks : List Img} {f h : Bool}
set_option maxHeartbeats 1000000 in
set_option maxRecDepth 100000 in
theorem settle_any (fn : FuncId) (cap : Array Value) (q : Nat → Bool) (hcf : ∀ args w, (callFunc fn args).run Try.prog w = .ok (.enter fn args) w) (H : Mm w g rs rd vl vm ms n S D log marks f h) (hlen : log.length ≤ 1000000)
    (hq : ∀ (k : Nat) w1, k < log.length → Turn (fun b => b = rd) w w1 → Calls Try.prog fn (#[.int .i64 k] ++ cap) w1 fun e w' => e = .returned (.bool (q k)) ∧ w1 = w') :
    Calls Try.prog 47 #[at' g, .func (.func fn) #[] cap] w fun e w' => ∃ E, E = app D (keptB log q log.length) ∧ e = .returned (.tuple #[]) ∧
      Mm w' g rs rd (.slice none 0 0) vm ms n (app S (log.map fun p => ⟨p.i, E p.i⟩)) E [] marks f h ∧ Turn (fun b => b = g ∨ b = rs ∨ b = rd) w w' := by
  obtain ⟨A, c, rfl, _⟩ := H.lg.sli atL_len
  have HH := hid H
  have HQ := hid hq
  have p3 : w.cell? ⟨g, 3, none⟩ = some (.slice A log.length c) := H.blk.cell 3
  unfold at'
  clear H hq
  go_enter Try.func47, Try.ntmps47
  go_wp2_with fail
  go_loopw [13] (fun u wr => ∃ k : Nat, u = .int .i64 k ∧ k ≤ log.length ∧ Hid (Mm wr g rs rd (.slice A log.length c) vm ms n S (app D (keptB log q k)) log marks f h) ∧ Hid (Turn (fun b => b = rd) w wr)) (fun u _ => log.length - (intOf u).toNat)
  case atStart => exact ⟨0, rfl, Nat.zero_le _, hid HH.out, hid (Turn.refl _ _)⟩
  case round =>
    obtain ⟨k, rfl, hk, hM, hT⟩ := hrel
    by_cases hgo : k < log.length
    · have t1 : (k : Int) < (log.length : Int) := by omega
      obtain ⟨p, hp⟩ : ∃ p, log[k]? = some p := ⟨_, List.getElem?_eq_getElem hgo⟩
      obtain ⟨A', c', e', sl⟩ := hM.out.lg.sli atL_len
      cases e'
      obtain ⟨b, o, rfl, _, hbl, hr⟩ := sl.some hp
      have HR := hid hr
      have HP := hid hp
      clear sl hr hp
      go_upto_region 3 with (first
        | ((with_reducible apply ldR (cs := (atL p).toArray) (tWr p)); rfl; exact HR.out)
        | (with_reducible apply alZ zWr)
        | ((with_reducible apply stR (tWr p)); rfl; rfl; exact Blk.new _ _ _; exact atL_size _ _; exact at_one p))
      generalize hw2 : World.setRow _ _ _ = w2
      have b2 := hid (show Blk w2 wr.heap.size 77 (atL p).toArray by rw [← hw2]; exact (Blk.new wr _ _).setRow_same _)
      have h2 := hid (show Below wr.heap.size wr w2 by rw [← hw2]; exact below_setRow ((Below.refl _ _).alloc (Nat.le_refl _) _) (Nat.le_refl _) _)
      have M2 := hid (hM.out.below h2.out)
      have T2 := hid (show Turn (fun b => b = rd) w w2 from hT.out.trans (Turn.of_new (S := fun b => b = rd) h2.out) fun _ e => .inl e)
      clear hw2 hM hT h2 HR
      go_wp2_with fail
      refine (HQ.out k w2 hgo T2.out).mono ?_
      rintro e w3 ⟨rfl, rfl⟩
      obtain ⟨v, hv⟩ : ∃ v, v = q k := ⟨_, rfl⟩
      rw [← hv]
      have HV := hid hv.symm
      clear hv
      cases v with
      | false =>
        have hk1 := hid (show keptB log q (k + 1) = keptB log q k from keptB_no HV.out)
        go_wp2_with fail
        go_roundw
        case rel => exact ⟨k + 1, by go_num, by omega, hid (by rw [hk1.out]; exact M2.out), T2⟩
        case measure => simp [intOf] <;> omega
      | true =>
        have hk1 := hid (show app D (keptB log q (k + 1)) = upd (app D (keptB log q k)) ⟨p.i, p.s⟩ by rw [keptB_yes HP.out HV.out, app_snoc])
        go_upto_region 4 with fail
        refine wp_region_tail (C := fun w' => Below w2.heap.size w2 w') 8 (by kernel_rfl) (by kernel_rfl) (by kernel_rfl) (Below.refl _ _).drew ?_
        apply wpK_val
        · rfl
        · intro w' hw'
          go_simp
          first | exact rfl | exact ⟨rfl, hw'⟩
        simp only [Act.put, List.setIfInBounds_toArray, List.set_cons_succ, List.set_cons_zero]
        apply wpK_val
        · rfl
        · intro w' hw'
          go_simp
          first | exact rfl | exact ⟨rfl, hw'⟩
        simp only [Act.put, List.setIfInBounds_toArray, List.set_cons_succ, List.set_cons_zero]
        apply wpK_val
        · rfl
        · intro w' hw'
          go_simp
          first | exact rfl | exact ⟨rfl, hw'⟩
        simp only [Act.put, List.setIfInBounds_toArray, List.set_cons_succ, List.set_cons_zero]
        apply wpK_val
        · rfl
        · intro w' hw'
          have hcell := (M2.out.below hw').blk.cell 2
          go_simp
          first | exact rfl | exact ⟨rfl, hw'⟩
        simp only [Act.put, List.setIfInBounds_toArray, List.set_cons_succ, List.set_cons_zero]
        apply wpK_val
        · rfl
        · intro w' hw'
          go_simp
          first | exact rfl | exact ⟨rfl, hw'⟩
        simp only [Act.put, List.setIfInBounds_toArray, List.set_cons_succ, List.set_cons_zero]
        apply wpK_val
        · rfl
        · intro w' hw'
          have hcell := at_i ((b2.out.below hw' b2.out.lt).whole)
          go_simp
          first | exact rfl | exact ⟨rfl, hw'⟩
        simp only [Act.put, List.setIfInBounds_toArray, List.set_cons_succ, List.set_cons_zero]
        apply wpK_val
        · rfl
        · intro w' hw'
          go_simp
          first | exact rfl | exact ⟨rfl, hw'⟩
        simp only [Act.put, List.setIfInBounds_toArray, List.set_cons_succ, List.set_cons_zero]
        apply kldA tSe
        · rfl
        · rfl
        · exact fun w' hw' => at_s ((b2.out.below hw' b2.out.lt).whole)
        simp only [Act.put, List.setIfInBounds_toArray, List.set_cons_succ, List.set_cons_zero]
        intro w3 hC3
        have M3 := hid (M2.out.below hC3)
        have T3 := hid (T2.out.trans (Turn.of_new (S := fun b => b = rd) hC3) fun _ e => .inl e)
        clear b2 M2 T2 hC3
        go_wp2_with fail
        refine (put_any rd (app D (keptB log q k)) p.i p.s w3 M3.out.dur).mono ?_
        rintro e w4 ⟨rfl, m4, t4⟩
        have M4 := hid (M3.out.setD t4 m4)
        have T4 := hid (T3.out.trans t4 fun _ e => .inl e)
        clear M3 T3 m4 t4
        go_wp2_with fail
        go_roundw
        case rel => exact ⟨k + 1, by go_num, by omega, hid (by rw [hk1.out]; exact M4.out), T4⟩
        case measure => simp [intOf] <;> omega
    · have hkl : k = log.length := by omega
      subst hkl
      have t1 : ¬ log.length < log.length := by omega
      obtain ⟨E, hE⟩ : ∃ E, E = app D (keptB log q log.length) := ⟨_, rfl⟩
      have HE := hid hE
      rw [← hE] at hM
      have p3 : wr.cell? ⟨g, 3, none⟩ = some (.slice A log.length c) := hM.out.blk.cell 3
      clear HH HQ hgo hk hE
      go_wp2_with fail
      go_loopw [36] (fun u wr => ∃ k : Nat, u = .int .i64 k ∧ k ≤ log.length ∧ Hid (Mm wr g rs rd (.slice A log.length c) vm ms n (app S ((log.take k).map fun p => ⟨p.i, E p.i⟩)) E log marks f h) ∧ Hid (Turn (fun b => b = g ∨ b = rs ∨ b = rd) w wr)) (fun u _ => log.length - (intOf u).toNat)
      case atStart => exact ⟨0, rfl, Nat.zero_le _, hid (by rw [List.take_zero]; exact hM.out), hid (hT.out.mono fun _ e => .inr (.inr e))⟩
      case round =>
        clear hM hT
        obtain ⟨k, rfl, hk, hM, hT⟩ := hrel
        by_cases hgo : k < log.length
        · have t1 : (k : Int) < (log.length : Int) := by omega
          obtain ⟨p, hp⟩ : ∃ p, log[k]? = some p := ⟨_, List.getElem?_eq_getElem hgo⟩
          obtain ⟨A', c', e', sl⟩ := hM.out.lg.sli atL_len
          cases e'
          obtain ⟨b, o, rfl, _, hbl, hr⟩ := sl.some hp
          have HR := hid hr
          have hk1 := hid (show app S ((log.take (k + 1)).map fun p => ⟨p.i, E p.i⟩) = upd (app S ((log.take k).map fun p => ⟨p.i, E p.i⟩)) ⟨p.i, E p.i⟩ by
            rw [List.take_add_one, hp, Option.toList_some, List.map_append, List.map_cons, List.map_nil, app_snoc])
          clear sl hr hp
          go_upto_region 9 with (first
            | ((with_reducible apply ldR (cs := (atL p).toArray) (tWr p)); rfl; exact HR.out)
            | (with_reducible apply alZ zWr)
            | ((with_reducible apply stR (tWr p)); rfl; rfl; exact Blk.new _ _ _; exact atL_size _ _; exact at_one p))
          generalize hw2 : World.setRow _ _ _ = w3
          have b2 := hid (show Blk w3 wr.heap.size 77 (atL p).toArray by rw [← hw2]; exact (Blk.new wr _ _).setRow_same _)
          have h2 := hid (show Below wr.heap.size wr w3 by rw [← hw2]; exact below_setRow ((Below.refl _ _).alloc (Nat.le_refl _) _) (Nat.le_refl _) _)
          have M2 := hid (hM.out.below h2.out)
          have T2 := hid (show Turn (fun b => b = g ∨ b = rs ∨ b = rd) w w3 from hT.out.trans (Turn.of_new (S := fun b => b = g) h2.out) fun _ e => .inl (.inl e))
          clear hw2 hM hT h2 HR
          refine wp_region_tail (C := fun w' => Below w3.heap.size w3 w') 13 (by kernel_rfl) (by kernel_rfl) (by kernel_rfl) (Below.refl _ _).drew ?_
          apply wpK_val
          · rfl
          · intro w' hw'
            go_simp
            first | exact rfl | exact ⟨rfl, hw'⟩
          simp only [Act.put, List.setIfInBounds_toArray, List.set_cons_succ, List.set_cons_zero]
          apply wpK_val
          · rfl
          · intro w' hw'
            go_simp
            first | exact rfl | exact ⟨rfl, hw'⟩
          simp only [Act.put, List.setIfInBounds_toArray, List.set_cons_succ, List.set_cons_zero]
          apply wpK_val
          · rfl
          · intro w' hw'
            go_simp
            first | exact rfl | exact ⟨rfl, hw'⟩
          simp only [Act.put, List.setIfInBounds_toArray, List.set_cons_succ, List.set_cons_zero]
          apply wpK_val
          · rfl
          · intro w' hw'
            have hcell := (M2.out.below hw').blk.cell 1
            go_simp
            first | exact rfl | exact ⟨rfl, hw'⟩
          simp only [Act.put, List.setIfInBounds_toArray, List.set_cons_succ, List.set_cons_zero]
          apply wpK_val
          · rfl
          · intro w' hw'
            go_simp
            first | exact rfl | exact ⟨rfl, hw'⟩
          simp only [Act.put, List.setIfInBounds_toArray, List.set_cons_succ, List.set_cons_zero]
          apply wpK_val
          · rfl
          · intro w' hw'
            have hcell := at_i ((b2.out.below hw' b2.out.lt).whole)
            go_simp
            first | exact rfl | exact ⟨rfl, hw'⟩
          simp only [Act.put, List.setIfInBounds_toArray, List.set_cons_succ, List.set_cons_zero]
          apply wpK_val
          · rfl
          · intro w' hw'
            go_simp
            first | exact rfl | exact ⟨rfl, hw'⟩
          simp only [Act.put, List.setIfInBounds_toArray, List.set_cons_succ, List.set_cons_zero]
          apply wpK_val
          · rfl
          · intro w' hw'
            go_simp
            first | exact rfl | exact ⟨rfl, hw'⟩
          simp only [Act.put, List.setIfInBounds_toArray, List.set_cons_succ, List.set_cons_zero]
          apply wpK_val
          · rfl
          · intro w' hw'
            go_simp
            first | exact rfl | exact ⟨rfl, hw'⟩
          simp only [Act.put, List.setIfInBounds_toArray, List.set_cons_succ, List.set_cons_zero]
          apply wpK_val
          · rfl
          · intro w' hw'
            have hcell := (M2.out.below hw').blk.cell 2
            go_simp
            first | exact rfl | exact ⟨rfl, hw'⟩
          simp only [Act.put, List.setIfInBounds_toArray, List.set_cons_succ, List.set_cons_zero]
          apply wpK_val
          · rfl
          · intro w' hw'
            go_simp
            first | exact rfl | exact ⟨rfl, hw'⟩
          simp only [Act.put, List.setIfInBounds_toArray, List.set_cons_succ, List.set_cons_zero]
          apply wpK_val
          · rfl
          · intro w' hw'
            have hcell := at_i ((b2.out.below hw' b2.out.lt).whole)
            go_simp
            first | exact rfl | exact ⟨rfl, hw'⟩
          simp only [Act.put, List.setIfInBounds_toArray, List.set_cons_succ, List.set_cons_zero]
          apply klookM (r := rd) (i := p.i) (F := E)
          · rfl
          · rfl
          · rfl
          · exact fun w' hw' => (M2.out.below hw').dur
          simp only [Act.put, List.setIfInBounds_toArray, List.set_cons_succ, List.set_cons_zero]
          intro w4 hC4
          have M4 := hid (M2.out.below hC4)
          have T4 := hid (T2.out.trans (Turn.of_new (S := fun b => b = g) hC4) fun _ e => .inl (.inl e))
          clear b2 M2 T2 hC4
          go_wp2_with fail
          refine (put_any rs (app S ((log.take k).map fun p => ⟨p.i, E p.i⟩)) p.i (E p.i) w4 M4.out.seen).mono ?_
          rintro e w5 ⟨rfl, m5, t5⟩
          have M5 := hid (M4.out.setS t5 m5)
          have T5 := hid (T4.out.trans t5 fun _ e => .inl (.inr (.inl e)))
          clear M4 T4 m5 t5
          go_wp2_with fail
          go_roundw
          case rel => exact ⟨k + 1, by go_num, by omega, hid (by rw [hk1.out]; exact M5.out), T5⟩
          case measure => simp [intOf] <;> omega
        · have hkl : k = log.length := by omega
          subst hkl
          have t1 : ¬ log.length < log.length := by omega
          rw [List.take_length] at hM
          have p3 : wr.cell? ⟨g, 3, none⟩ = some (.slice A log.length c) := hM.out.blk.cell 3
          have fz := hM.out.blk.frozen 3
          have hfin := hid (And.intro hM.out.noLog (hT.out.trans (Turn.setCell (S := fun b => b = g) wr ⟨g, 3, none⟩ (.slice none 0 0) rfl) fun _ e => .inl (.inl e)))
          clear hM hT hgo hk
          go_wp2_with fail
          go_end0
          exact ⟨E, HE.out, rfl, hfin.out⟩
/-- What settle leaves, in the words of the document. -/
theorem sem_settle {st : St} {k : List Pt} (hk : ∀ p ∈ k, p ∈ st.log) : app (MbM.seen st) (st.log.map fun p => ⟨p.i, app st.dur k p.i⟩) = app st.dur k := resee hk
set_option maxHeartbeats 400000 in
theorem flush2_any (H : Mm w g rs rd vl vm ms n S D log marks f h) (hlen : log.length ≤ 1000000) :
    Calls Try.prog 27 #[at' g] w fun e w' => (f = true ∧ e = .returned (.int .i64 10) ∧ w = w') ∨ (f = false ∧ ∃ E, E = app D log ∧ e = .returned (.int .i64 0) ∧
      Mm w' g rs rd (.slice none 0 0) vm ms n (app S (log.map fun p => ⟨p.i, E p.i⟩)) E [] marks f h ∧ Turn (fun b => b = g ∨ b = rs ∨ b = rd) w w') := by
  have HH := hid H
  have hn := hid H.pos
  have hq := hid (show decide ((0 : Int) ≤ 0 ∧ 0 < n) = true by simp; exact H.pos)
  have p0 : w.cell? ⟨g, 0, none⟩ = some (.int .i64 n) := H.blk.cell 0
  have p5 : w.cell? ⟨g, 5, none⟩ = some (.bool f) := H.blk.cell 5
  unfold at'
  clear H
  go_enter Try.func27, Try.ntmps27
  go_wp2_with fail
  refine (reach_any g n hn.out 0 true f hq.out w p0 p5).mono ?_
  rintro e w' ⟨rfl, rfl⟩
  cases f with
  | true =>
    go_wp2_with fail
    go_ret
    exact ⟨rfl, rfl⟩
  | false =>
    go_wp2_with fail
    refine (settle_any 52 #[] (fun _ => true) cf_yes HH.out hlen fun k w1 _ _ => yes_any k w1).mono ?_
    rintro e w2 ⟨E, hE, rfl, M2, T2⟩
    have M2 := hid M2
    have T2 := hid T2
    have HE := hid (show E = app D log by rw [hE, keptB_all log _ (Nat.le_refl _), List.take_length])
    clear hE
    have M3 := hid (show Mm w2 g rs rd (.slice none 0 0) vm ms n (app S (log.map fun p => ⟨p.i, app D log p.i⟩)) (app D log) [] marks false h by have := M2.out; rw [HE.out] at this; exact this)
    go_wp2_with fail
    go_ret
    exact ⟨rfl, M3.out, T2.out⟩
set_option maxHeartbeats 400000 in
theorem crash2_any (H : Mm w g rs rd vl vm ms n S D log marks f h) (hlen : log.length ≤ 1000000) (P : Option Addr) (picks : List Nat) (pn pc : Nat) (hp : Arg w P picks pn pc) (hne : ∀ b o, 0 < picks.length → P = some ⟨b, o, none⟩ → b ≠ rd) :
    Calls Try.prog 18 #[at' g, .slice P pn pc] w fun e w' => ∃ E, E = app D (kept log picks) ∧ e = .returned (.int .i64 0) ∧
      Mm w' g rs rd (.slice none 0 0) vm ms n (app S (log.map fun p => ⟨p.i, E p.i⟩)) E [] marks f h ∧ Turn (fun b => b = g ∨ b = rs ∨ b = rd) w w' := by
  have HH := hid H
  have hn := hid H.pos
  have HP := hid hp
  have HN := hid hne
  unfold at'
  clear H hp hne
  go_enter Try.func18, Try.ntmps18
  go_upto_region 1 with fail
  generalize hw1 : World.alloc w _ = w1
  have b1 := hid (show Blk w1 w.heap.size 33 #[.slice P pn pc] by rw [← hw1]; exact Blk.new _ _ _)
  have BEL := hid (show Below w.heap.size w w1 by rw [← hw1]; exact (Below.refl _ _).alloc (Nat.le_refl _) _)
  have H1 := hid (HH.out.below BEL.out)
  have P1 := hid (HP.out.on BEL.out)
  have hgl := HH.out.dur.lt
  clear hw1 HP
  have p0 : w1.cell? ⟨g, 0, none⟩ = some (.int .i64 n) := H1.out.blk.cell 0
  go_wp2_with fail
  refine (made_any g n hn.out w1 p0).mono ?_
  rintro e w' ⟨rfl, rfl⟩
  go_wp2_with fail
  refine (settle_any 48 #[.pointer (some ⟨w.heap.size, 0, none⟩)] (fun k => decide (picks.getD k 0 ≠ 0)) cf_pick H1.out hlen fun k w2 _ ht => picked_any w.heap.size P picks pn pc k w2 ?_ ?_).mono ?_
  · exact (b1.out.turn ht (by omega)).cell 0
  · exact P1.out.turn ht fun b o h1 h2 => HN.out b o h1 h2
  rintro e w2 ⟨E, hE, rfl, M2, T2⟩
  have M2 := hid M2
  have T2 := hid ((Turn.of_new (S := fun b => b = g ∨ b = rs ∨ b = rd) BEL.out).trans T2 fun _ e => .inl e)
  have HE := hid (show E = app D (kept log picks) by rw [hE, keptB_picks]; rfl)
  clear hE
  go_wp2_with fail
  go_ret
  exact ⟨E, HE.out, rfl, M2.out, T2.out⟩
end
end MbO
end Go.Proofs.Yteglhalninlapaa
set_option maxRecDepth 100000
namespace Go.Proofs.Yteglhalninlapaa
open Go.RowKit
section
variable {P : Program} {ops : Array Oper}
/-- The operations in the order of the text, the k-th first. -/
def wpC (P : Program) (ops : Array Oper) (S : Nat → Value → Prop) (C : (Nat → Bool) → (Nat → Value) → World → Prop) (Q : (Nat → Value) → Act → Prop) : Nat → (Nat → Value) → List Oper → Act → Prop
  | _, vs, [], a => Q vs a
  | k, vs, o :: rest, a => ((Region.wanted o (yielded ops a.tmps) = true ∧ ∀ d w, d k = false → (∀ j, Region.waitsFor .any ops j k = true → d j = false) → (∀ j, Region.waitsFor .any ops k j = true → d j = true) → C d vs w →
      GivesE P o a w fun v w' => S k v ∧ C (upB d k) (updV vs k v) w') ∨
      (Region.wanted o (yielded ops a.tmps) = false ∧ S k undef ∧ (∀ d w, C d vs w → C (upB d k) (updV vs k undef) w))) ∧ (S k (vs k) → wpC P ops S C Q (k + 1) vs rest (a.put o.dst (vs k)))
theorem wpC_at {S : Nat → Value → Prop} {C : (Nat → Bool) → (Nat → Value) → World → Prop} {Qk : (Nat → Value) → Act → Prop} {vs : Nat → Value} (hS : ∀ j, S j (vs j)) : ∀ (l : List Oper) (k : Nat) (a : Act), wpC P ops S C Qk k vs l a →
    Qk vs (lexF l (fun i => vs (k + i)) l.length a) ∧ ∀ i o, l[i]? = some o →
      ((Region.wanted o (yielded ops (lexF l (fun i => vs (k + i)) i a).tmps) = true ∧ ∀ d w, d (k + i) = false → (∀ j, Region.waitsFor .any ops j (k + i) = true → d j = false) → (∀ j, Region.waitsFor .any ops (k + i) j = true → d j = true) → C d vs w →
        GivesE P o (lexF l (fun i => vs (k + i)) i a) w fun v w' => S (k + i) v ∧ C (upB d (k + i)) (updV vs (k + i) v) w') ∨
      (Region.wanted o (yielded ops (lexF l (fun i => vs (k + i)) i a).tmps) = false ∧ S (k + i) undef ∧ (∀ d w, C d vs w → C (upB d (k + i)) (updV vs (k + i) undef) w)))
  | [], k, a, h => ⟨h, fun i o hi => by simp at hi⟩
  | o :: l, k, a, h => by
    obtain ⟨h1, h2⟩ := h
    obtain ⟨hq, hs⟩ := wpC_at hS l (k + 1) _ (h2 (hS k))
    have e : (fun i => vs (k + 1 + i)) = fun i => vs (k + (i + 1)) := funext fun i => by rw [show k + 1 + i = k + (i + 1) by omega]
    rw [e] at hq hs
    refine ⟨?_, fun i o' hi => ?_⟩
    · rw [List.length_cons, lexF_cons]; exact hq
    · cases i with
      | zero =>
        simp only [List.getElem?_cons_zero, Option.some.injEq] at hi
        subst hi
        exact h1
      | succ i =>
        rw [lexF_cons, show k + (i + 1) = k + 1 + i by omega]
        exact hs i o' (by simpa using hi)
theorem wp_region_c {id : Nat} {Q : Exit → Act → World → Prop} {C : (Nat → Bool) → (Nat → Value) → World → Prop} {S : Nat → Value → Prop} {a : Act} {w : World} {l : List Oper} (n : Nat)
    (hm : P.follows .mixedOrders = true) (ht : tidy l.toArray = true) (hB : tailB l.toArray n = true)
    (v0 : Nat → Value) (h0 : ∀ j, S j (v0 j)) (hC : C (fun _ => false) v0 w.drew)
    (h : ∀ vs : Nat → Value, wpC P l.toArray S C (fun vs a' => ∀ d w', (∀ k, k < n → d k = true) → C d vs w' → wpList P l.toArray Q (l.drop n) a' w') 0 vs (l.take n) a) : (Code.region id l.toArray true).wp P Q a w := by
  refine region_coreE (Γ := {vs : Nat → Value // ∀ j, S j (vs j)}) (C := fun γ L w' => C (fun j => L.getD j false) γ.1 w' ∧ Closed l.toArray L) n hm ht hB ⟨v0, h0⟩
    ⟨by rw [show (fun j => (Array.replicate l.length false).getD j false) = fun _ => false from funext fun j => getD_replicate_false _ j]; exact hC, (fun j o _ hl => by rw [getD_replicate_false] at hl; cases hl)⟩ (fun γ => γ.1) ?_ ?_
  · intro i o hi γ L w' hsz hr ⟨hC', hcl⟩
    have hun := getD_both (mem_ready.1 hr).1
    have hlt : i < L.size := by
      obtain ⟨o', ho', _⟩ := (mem_ready.1 hr).2
      have := (Array.getElem?_eq_some_iff.1 ho').1
      simp at this; omega
    have hup : (fun j => (L.setIfInBounds i true).getD j false) = upB (fun j => L.getD j false) i := funext fun j => by
      unfold upB
      by_cases e : j = i
      · subst e; rw [if_pos rfl]; simp [hlt]
      · rw [if_neg e, getD_set_ne false (Ne.symm e)]
    have hcl2 := closed_set hcl hr
    have key := (wpC_at γ.2 (l.take n) 0 a (h γ.1)).2 i o hi
    simp only [Nat.zero_add] at key
    have hwait : ∀ j, Region.waitsFor .any l.toArray i j = true → L.getD j false = true := fun j hj => waits_ready hr hj
    have hnext : ∀ j, Region.waitsFor .any l.toArray j i = true → L.getD j false = false := fun j hj => by
      cases hx : L.getD j false with
      | false => rfl
      | true =>
        have := waits_closed hcl hx hj
        rw [hun] at this
        cases this
    have upd : ∀ v, S i v → ∀ j, S j (updV γ.1 i v j) := fun v hv j => by
      by_cases e : j = i
      · subst e; rw [updV_self]; exact hv
      · rw [updV_ne _ _ e]; exact γ.2 j
    have keep : ∀ v j, L.getD j false = true → γ.1 j = updV γ.1 i v j := fun v j hj => by
      have : j ≠ i := fun e => by subst e; rw [hun] at hj; cases hj
      rw [updV_ne _ _ this]
    rcases key with ⟨k1, k2⟩ | ⟨k1, k2, k3⟩
    · refine .inl ⟨k1, givesE_mono (k2 _ w' hun hnext hwait hC') fun v w2 ⟨h1, h2⟩ => ⟨⟨updV γ.1 i v, upd v h1⟩, keep v, updV_self _ _ _, ?_, hcl2⟩⟩
      rw [hup]; exact h2
    · refine .inr ⟨k1, ⟨updV γ.1 i undef, upd undef k2⟩, keep undef, updV_self _ _ _, ?_, hcl2⟩
      rw [hup]; exact k3 _ _ hC'
  · intro γ L w' hall ⟨hC', _⟩
    have key := (wpC_at γ.2 (l.take n) 0 a (h γ.1)).1
    have ez : (fun i => γ.1 (0 + i)) = γ.1 := funext fun i => by rw [Nat.zero_add]
    rw [ez] at key
    exact key _ w' hall hC'
end
open Go.ChangeShapes Go.WideShapes Go.ChangeAt
/-- A slice of so many elements. -/
def kSl (m : Nat) : Sp := ⟨fun v => ∃ (A : Option Addr) (c : Nat), v = .slice A m c, fun _ _ => True, .slice none m 0⟩
theorem kSl_ok (m : Nat) : (kSl m).ok := ⟨⟨none, 0, rfl⟩, fun _ _ _ _ _ => trivial⟩
/-- A map. -/
def kMp : Sp := ⟨fun v => ∃ r : Nat, v = .map (some r), fun _ _ => True, .map (some 0)⟩
theorem kMp_ok : kMp.ok := ⟨⟨0, rfl⟩, fun _ _ _ _ _ => trivial⟩
section
variable {α : Type} {k : Nat} {en : α → List Value} {E L : TypeId} {S : Nat → Prop} {w : World} {a : Act} {dst : Option Tmp} {ty : TypeId} {pos : String} {after : Array Edge} {gd : Option (Nat × Bool)} {R : Value → World → Prop} {o1 o2 : Operand} {v : Value} {l m : List α} {A : Option Addr} {n cap B : Nat}
/-- An append's result lies where the slice lay, or anew. -/
theorem run_appX_where (hE : EltX E k en) (hu : Try.prog.underlying L = some (.slice E)) (hown : OwnX E k en w B v l) (hm : Sli k en S w A m n cap) (hsz : l.length + n ≤ 1000000) (hk : k ≤ 1000) {v' : Value} {w' : World}
    (hr : (Builtin.append_ #[L, L] ty #[v, .slice A n cap]).run Try.prog w = .ok v' w') : v'.ownBlock = v.ownBlock ∨ v'.ownBlock = some w.heap.size := by
  obtain ⟨i, z, hi, hz, h1, h2, h3⟩ := hE.info
  cases A with
  | none =>
    obtain ⟨rfl, rfl⟩ := hm.none rfl
    rw [run_append_owned_none (P := Try.prog) w B L ty E i k hu hi v l.length _ hown] at hr
    cases hr
    exact .inl rfl
  | some ad =>
    have hbytes : (l.length + n) * i.bytes ≤ 140737488355328 := Nat.le_trans (Nat.mul_le_mul hsz (Nat.le_trans h2 (show 16 * k + 16 ≤ 16016 by omega))) (by omega)
    have hl1 : (m.flatMap en).length = n * i.size := by rw [flat_len hE.len, hm.len, h1]
    have hne := flat_read hE hm
    have hone : ∀ u ∈ m.flatMap en, u.oneCell' = true := fun u hu => by obtain ⟨x, _, hx⟩ := List.mem_flatMap.1 hu; exact hE.one x u hx
    rcases hown.2 with ⟨rfl, h0⟩ | ⟨g, c, cur, rfl, hB, hg, hnc, hcm, hcs, ht⟩
    · by_cases hn0 : n = 0
      · subst hn0
        have hn : m = [] := List.eq_nil_of_length_eq_zero hm.len
        subst hn
        left
        have hrun : (Builtin.append_ #[L, L] ty #[.slice none 0 0, .slice (some ad) 0 cap]).run Try.prog w = .ok (.slice none 0 0) w := by
          simp [Builtin.append_, run_underlying hu, sizeOf, typeInfo, hi, Builtin.lenOf, Builtin.firstCells, loadCells, loadCellsFrom]
        rw [hrun] at hr
        cases hr
        rfl
      · right
        rw [h0, Nat.zero_add] at hbytes
        have hrun := run_append_nil (P := Try.prog) w L ty E i z hu hi hz ad n cap _ hl1 hne (by omega) (by omega) (by omega)
        rw [hrun] at hr
        cases hr
        rfl
    · by_cases hroom : l.length + n ≤ c
      · left
        have hrun := run_append_room (P := Try.prog) w L ty E i hu hi g l.length c cur hg ad n cap _ hl1 hne hone hroom (by
          rw [h1, flat_len hE.len, hm.len, hcs, ← Nat.add_mul]; exact Nat.mul_le_mul_right k hroom)
        rw [hrun] at hr
        cases hr
        rfl
      · right
        have hown' : w.ownsRow B E i.size (.slice (some ⟨g, 0, none⟩) l.length c) l.length (l.flatMap en) := by rw [h1]; exact hown
        have holds : ∀ j u, (l.flatMap en)[j]? = some u → w.cell? ((⟨g, 0, none⟩ : Addr).add j) = some u := hown'.cells (g := g) rfl
        have hrun := run_append_grow (P := Try.prog) w L ty E i z hu hi hz ⟨g, 0, none⟩ l.length c (l.flatMap en) (by rw [flat_len hE.len, h1]) holds ad n cap _ hl1 hne (by omega) (by omega) (growslice_fits (by omega) hbytes)
        rw [hrun] at hr
        cases hr
        rfl
theorem gE_appW (hE : EltX E k en) (hu : Try.prog.underlying L = some (.slice E)) (hx : a.eval o1 = v) (hy : a.eval o2 = .slice A n cap) (hown : OwnX E k en w B v l) (hm : Sli k en S w A m n cap) (hsz : l.length + n ≤ 1000000) (hk : k ≤ 1000) (hB : B ≤ w.heap.size)
    (hR : ∀ v' w', OwnX E k en w' B v' (l ++ m) → w.grownBy w' v.ownBlock → (v'.ownBlock = v.ownBlock ∨ v'.ownBlock = some w.heap.size) → R v' w') :
    GivesE Try.prog ⟨dst, .call { callee := .builtin .append, args := #[o1, o2], argTypes := #[L, L] }, ty, pos, after, gd⟩ a w R := by
  obtain ⟨v', w', hr, h1, h2⟩ := run_appX (ty := ty) hE hu hown hm hsz hk hB
  have h3 := run_appX_where hE hu hown hm hsz hk hr
  unfold GivesE execOp
  simp only [resolve, invoke, builtin, Sem.run_bind, Sem.run_pure, Result.andThen_ok, List.map_toArray, List.map_cons, List.map_nil, hx, hy, hr]
  exact hR v' w' h1 h2 h3
end
end Go.Proofs.Yteglhalninlapaa
set_option maxRecDepth 100000
namespace Go.Proofs.Yteglhalninlapaa
open Go.ChangeShapes Go.WideShapes Go.ChangeAt Go.RowKit
attribute [local go_sem] Gives GivesE
namespace MbO
open MbM MbP
theorem built_wr (i : Int) (x : Nat → Nat) : Try.prog.built 77 [(0, .int .i64 i), (1, .agg (ar 64 x))] = some (atL ⟨i, x⟩).toArray := by
  have h := built_struct (T := 77) (ss := [(0, 1), (1, 64)]) (N := 65) (by kernel_rfl) Try.underlying77 (by kernel_rfl) ⟨rfl, rfl, trivial⟩ rfl [.int .i64 i, .agg (ar 64 x)] (by simp [Value.cells, size_ar])
  simp only [partsAt] at h
  rw [h]
  simp [atL, Value.cells]
section
variable {a : Act} {w : World} {dst : Option Tmp} {ty : TypeId} {pos : String} {after : Array Edge} {o1 o2 : Operand} {i : Int} {x : Nat → Nat}
theorem gE_wr {gd : Option (Nat × Bool)} {R : Value → World → Prop} (h1 : a.eval o1 = .int .i64 i) (h2 : a.eval o2 = .agg (ar 64 x)) (h : R (.agg (atL ⟨i, x⟩).toArray) w) : GivesE Try.prog ⟨dst, .build 77 #[(0, o1), (1, o2)], ty, pos, after, gd⟩ a w R := by
  have hm : (#[(0, o1), (1, o2)] : Array (Nat × Operand)).map (fun (i, x) => (i, a.eval x)) = #[(0, .int .i64 i), (1, .agg (ar 64 x))] := by
    simp only [List.map_toArray, List.map_cons, List.map_nil, h1, h2]
  have hr : (Instr.build 77 #[(0, .int .i64 i), (1, .agg (ar 64 x))]).run Try.prog w = .ok (.agg (atL ⟨i, x⟩).toArray) w := run_build w _ _ _ (built_wr i x)
  unfold GivesE execOp
  simp only [Sem.run_bind, hm, hr, Result.andThen_ok, Sem.run_pure]
  exact h
end
/-- What holds in the midst of an append of one element to a slice of the member's own. -/
structure ApC {α : Type} (E : TypeId) (k : Nat) (en : α → List Value) (w0 : World) (vl : Value) (l : List α) (x : α) (d8 d9 : Bool) (v8 v9 : Value) (w' : World) : Prop where
  t : Turn (fun b => vl.ownBlock = some b) w0 w'
  b : d9 = false → Below w0.heap.size w0 w'
  lit : d8 = true → d9 = false → ∃ A c, v8 = .slice A 1 c ∧ Sli k en (fun b => w0.heap.size ≤ b) w' A [x] 1 c
  own : d9 = true → OwnX E k en w' 0 v9 (l ++ [x]) ∧ ∀ b, v9.ownBlock = some b → vl.ownBlock = some b ∨ w0.heap.size ≤ b
/-- What holds in the midst of Mark. -/
structure MkC (w0 : World) (vm : Value) (l : List (Option Nat)) (S : Img) (d9 d10 d11 : Bool) (v9 v10 v11 : Value) (w' : World) : Prop where
  t : Turn (fun b => vm.ownBlock = some b) w0 w'
  b : d11 = false → Below w0.heap.size w0 w'
  c1 : d11 = true → d10 = true
  c2 : d10 = true → d9 = true
  im : d9 = true → ∃ r, v9 = .map (some r) ∧ MapB w' r S ∧ w0.heap.size ≤ r
  lit : d10 = true → d11 = false → ∃ A c r, v9 = .map (some r) ∧ v10 = .slice A 1 c ∧ Sli 1 imE (fun b => w0.heap.size ≤ b) w' A [some r] 1 c
  own : d11 = true → ∃ r, v9 = .map (some r) ∧ OwnM w' 0 v11 (l ++ [some r]) ∧ ∀ b, v11.ownBlock = some b → vm.ownBlock = some b ∨ w0.heap.size ≤ b
section
variable {w w' : World} {g rs rd : Nat} {vl vl' vm vm' : Value} {ms ms' : List Nat} {n : Int} {S D : Img} {log log' : List Pt} {marks marks' : List Img} {f h : Bool}
/-- The unflushed writes are others. -/
theorem Mm.setL (H : Mm w g rs rd vl vm ms n S D log marks f h) (ht : Turn (fun b => vl.ownBlock = some b) w w') (ho : OwnL w' 0 vl' log') : Mm (w'.setCell ⟨g, 3, none⟩ vl') g rs rd vl' vm ms n S D log' marks f h := by
  have hb : Blk w' g 58 (mbC7 n rs rd vl vm f h) := H.blk.turn ht H.l_g
  have hs : MapB w' rs S := H.seen.turn ht H.l_rs
  have hd : MapB w' rd D := H.dur.turn ht H.l_rd
  have hm : OwnM w' 0 vm (ms.map some) := H.mr.turn ht fun b e e2 => H.l_m e2 e
  have hi : ∀ (i m : Nat) (F : Img), ms[i]? = some m → marks[i]? = some F → MapB w' m F := fun i m F h1 h2 => (H.im i m F h1 h2).turn ht fun e => by
    obtain ⟨c, hc⟩ := H.lg.obj e; exact map_ne (H.im i m F h1 h2) hc rfl
  have tu := Turn.setCell (S := fun b => b = g) w' ⟨g, 3, none⟩ vl' rfl
  exact {
    blk := hb.setCell_same 3 vl'
    pos := H.pos
    seen := hs.turn tu fun e => H.g_rs e.symm
    dur := hd.turn tu fun e => H.g_rd e.symm
    lg := ho.turn tu fun b e e2 => by
      obtain ⟨c, hc⟩ := ho.obj e
      have h2 : w'.heap[g]? = some (.cells _ 58 (0, 0)) := hb
      rw [e2, h2] at hc
      simp at hc
    mr := hm.turn tu fun b e e2 => H.m_g (by rw [e, e2])
    len := H.len
    im := fun i m F h1 h2 => (hi i m F h1 h2).turn tu fun e => map_ne (H.im i m F h1 h2) H.blk e.symm
    ne := H.ne
    out := H.out }
/-- The marks are others. -/
theorem Mm.setM (H : Mm w g rs rd vl vm ms n S D log marks f h) (ht : Turn (fun b => vm.ownBlock = some b) w w') (ho : OwnM w' 0 vm' (ms'.map some)) (hl : ms'.length = marks'.length)
    (him : ∀ (i m : Nat) (F : Img), ms'[i]? = some m → marks'[i]? = some F → MapB w' m F) (hout : ∀ m, m ∈ ms' → m ≠ rs ∧ m ≠ rd) : Mm (w'.setCell ⟨g, 4, none⟩ vm') g rs rd vl vm' ms' n S D log marks' f h := by
  have hb : Blk w' g 58 (mbC7 n rs rd vl vm f h) := H.blk.turn ht H.m_g
  have hs : MapB w' rs S := H.seen.turn ht H.m_rs
  have hd : MapB w' rd D := H.dur.turn ht H.m_rd
  have hl2 : OwnL w' 0 vl log := H.lg.turn ht fun b e e2 => H.l_m e e2
  have tu := Turn.setCell (S := fun b => b = g) w' ⟨g, 4, none⟩ vm' rfl
  exact {
    blk := hb.setCell_same 4 vm'
    pos := H.pos
    seen := hs.turn tu fun e => H.g_rs e.symm
    dur := hd.turn tu fun e => H.g_rd e.symm
    lg := hl2.turn tu fun b e e2 => H.l_g (by rw [e, e2])
    mr := ho.turn tu fun b e e2 => by
      obtain ⟨c, hc⟩ := ho.obj e
      have h2 : w'.heap[g]? = some (.cells _ 58 (0, 0)) := hb
      rw [e2, h2] at hc
      simp at hc
    len := hl
    im := fun i m F h1 h2 => (him i m F h1 h2).turn tu fun e => map_ne (him i m F h1 h2) hb e.symm
    ne := H.ne
    out := hout }
set_option maxHeartbeats 400000 in
theorem write2_bad (H : Mm w g rs rd vl vm ms n S D log marks f h) (i : Int) (q : Bool) (hq : decide (0 ≤ i ∧ i < n) = q) (x : Nat → Nat) (hb : q = false ∨ f = true) :
    Calls Try.prog 16 #[at' g, .int .i64 i, .agg (ar 64 x)] w fun e w' => e = .returned (.int .i64 (if q then (if f then 10 else 0) else 2)) ∧ Below w.heap.size w w' := by
  have HH := hid H
  have HQ := hid hq
  have hn := hid H.pos
  unfold at'
  clear H hq
  go_enter Try.func16, Try.ntmps16
  go_upto_region 1 with fail
  generalize hw1 : World.alloc w _ = w1
  have BEL := hid (show Below w.heap.size w w1 by rw [← hw1]; exact (Below.refl _ _).alloc (Nat.le_refl _) _)
  have H1 := hid (HH.out.below BEL.out)
  clear hw1 HH
  have p0 : w1.cell? ⟨g, 0, none⟩ = some (.int .i64 n) := H1.out.blk.cell 0
  have p5 : w1.cell? ⟨g, 5, none⟩ = some (.bool f) := H1.out.blk.cell 5
  go_wp2_with fail
  refine (reach_any g n hn.out i q f HQ.out w1 p0 p5).mono ?_
  rintro e w' ⟨rfl, rfl⟩
  cases q with
  | false =>
    go_wp2_with fail
    go_ret
    exact ⟨rfl, BEL.out⟩
  | true =>
    obtain rfl : f = true := by rcases hb with e | e; cases e; exact e
    go_wp2_with fail
    go_ret
    exact ⟨rfl, BEL.out⟩
set_option maxHeartbeats 1000000 in
set_option maxRecDepth 100000 in
theorem write2_any (H : Mm w g rs rd vl vm ms n S D log marks false h) (i : Int) (hq : decide (0 ≤ i ∧ i < n) = true) (x : Nat → Nat) (hlen : log.length ≤ 10000) :
    Calls Try.prog 16 #[at' g, .int .i64 i, .agg (ar 64 x)] w fun e w' => e = .returned (.int .i64 0) ∧ ∃ vl', Mm w' g rs rd vl' vm ms n (upd S ⟨i, x⟩) D (log ++ [⟨i, x⟩]) marks false h ∧
      (∀ b, vl'.ownBlock = some b → vl.ownBlock = some b ∨ w.heap.size ≤ b) ∧ Turn (mSet g rs rd vl vm) w w' := by
  obtain ⟨A, c, rfl, _⟩ := H.lg.sli atL_len
  have HH := hid H
  have HQ := hid hq
  have hn := hid H.pos
  unfold at'
  clear H hq
  go_enter Try.func16, Try.ntmps16
  go_upto_region 1 with fail
  generalize hw1 : World.alloc w _ = w1
  have b1 := hid (show Blk w1 w.heap.size 32 (ar 64 x) by rw [← hw1]; exact Blk.new _ _ _)
  have BEL := hid (show Below w.heap.size w w1 by rw [← hw1]; exact (Below.refl _ _).alloc (Nat.le_refl _) _)
  have H1 := hid (HH.out.below BEL.out)
  have hrs := HH.out.seen.lt
  clear hw1 HH
  have p0 : w1.cell? ⟨g, 0, none⟩ = some (.int .i64 n) := H1.out.blk.cell 0
  have p5 : w1.cell? ⟨g, 5, none⟩ = some (.bool false) := H1.out.blk.cell 5
  go_wp2_with fail
  refine (reach_any g n hn.out i true false HQ.out w1 p0 p5).mono ?_
  rintro e w' ⟨rfl, rfl⟩
  go_upto_region 4 with fail
  refine wp_region_tail (C := fun w' => Below w1.heap.size w1 w') 6 (by kernel_rfl) (by kernel_rfl) (by kernel_rfl) (Below.refl _ _).drew ?_
  apply wpK_val
  · rfl
  · intro w' hw'
    go_simp
    first | exact rfl | exact ⟨rfl, hw'⟩
  simp only [Act.put, List.setIfInBounds_toArray, List.set_cons_succ, List.set_cons_zero]
  apply wpK_val
  · rfl
  · intro w' hw'
    go_simp
    first | exact rfl | exact ⟨rfl, hw'⟩
  simp only [Act.put, List.setIfInBounds_toArray, List.set_cons_succ, List.set_cons_zero]
  apply wpK_val
  · rfl
  · intro w' hw'
    go_simp
    first | exact rfl | exact ⟨rfl, hw'⟩
  simp only [Act.put, List.setIfInBounds_toArray, List.set_cons_succ, List.set_cons_zero]
  apply wpK_val
  · rfl
  · intro w' hw'
    have hcell := (H1.out.below hw').blk.cell 1
    go_simp
    first | exact rfl | exact ⟨rfl, hw'⟩
  simp only [Act.put, List.setIfInBounds_toArray, List.set_cons_succ, List.set_cons_zero]
  apply wpK_val
  · rfl
  · intro w' hw'
    go_simp
    first | exact rfl | exact ⟨rfl, hw'⟩
  simp only [Act.put, List.setIfInBounds_toArray, List.set_cons_succ, List.set_cons_zero]
  apply kldA tSe
  · rfl
  · rfl
  · exact fun w' hw' => ((b1.out.below hw' b1.out.lt).head)
  simp only [Act.put, List.setIfInBounds_toArray, List.set_cons_succ, List.set_cons_zero]
  intro w2 hC2
  have H2 := hid (H1.out.below hC2)
  have B2 := hid (BEL.out.trans (hC2.mono BEL.out.size))
  have b2 := hid (b1.out.below hC2 b1.out.lt)
  clear H1 BEL b1 hC2 p0 p5
  go_wp2_with fail
  refine (put_any rs S i x w2 H2.out.seen).mono ?_
  rintro e w3 ⟨rfl, m3, t3⟩
  have H3 := hid (H2.out.setS t3 m3)
  have T3 := hid ((Turn.of_new (S := fun b => b = rs) B2.out).trans t3 fun _ e => .inl e)
  have b3 := hid (b2.out.turn t3 (by omega))
  have HBX := hid (show ¬ (Value.slice A log.length c).ownBlock = some w.heap.size from fun e => by
    obtain ⟨cur, hc⟩ := H3.out.lg.obj e
    have h2 : w3.heap[w.heap.size]? = some (.cells _ 32 (0, 0)) := b3.out
    rw [h2] at hc
    simp at hc)
  clear H2 B2 b2 m3 t3
  go_upto_region 5 with fail
  refine wp_region_c (S := yS [some (.pointer (some ⟨g, 0, none⟩)), some (.pointer (some ⟨g, 0, none⟩)), some (.pointer (some ⟨g, 0, none⟩)), some (.pointer (some ⟨g, 3, none⟩)), some (.slice A log.length c), some (.int .i64 i), some (.agg (ar 64 x)), some (.agg (atL ⟨i, x⟩).toArray), none, none, some (.pointer (some ⟨g, 0, none⟩)), some (.pointer (some ⟨g, 3, none⟩))]
      [(8, kSl 1), (9, kSl (log.length + 1))]) (C := fun d vs w' => ApC 77 65 atL w3 (.slice A log.length c) log (⟨i, x⟩ : Pt) (d 8) (d 9) (vs 8) (vs 9) w') 12 (by kernel_rfl) (by kernel_rfl) (by kernel_rfl) _
    (yS_ok _ fun y hy => by simp only [List.mem_cons, List.not_mem_nil, or_false] at hy; rcases hy with rfl | rfl <;> exact kSl_ok _) ⟨Turn.drew _, fun _ => (Below.refl _ _).drew, (fun e => by cases e), (fun e => by cases e)⟩ fun vs => ?_
  simp only [List.take_succ_cons, List.take_zero, List.drop_succ_cons, List.drop_zero]
  refine ⟨.inl ⟨rfl, fun dd w' hd hnx hw hC => ?_⟩, fun e => ?_⟩
  · go_simp
    first | exact ⟨rfl, hC⟩ | exact hC
  have e' : vs 0 = _ := e
  rw [e']
  clear e e'
  simp only [Act.put, List.setIfInBounds_toArray, List.set_cons_succ, List.set_cons_zero]
  refine ⟨.inl ⟨rfl, fun dd w' hd hnx hw hC => ?_⟩, fun e => ?_⟩
  · go_simp
    first | exact ⟨rfl, hC⟩ | exact hC
  have e' : vs 1 = _ := e
  rw [e']
  clear e e'
  simp only [Act.put, List.setIfInBounds_toArray, List.set_cons_succ, List.set_cons_zero]
  refine ⟨.inl ⟨rfl, fun dd w' hd hnx hw hC => ?_⟩, fun e => ?_⟩
  · go_simp
    first | exact ⟨rfl, hC⟩ | exact hC
  have e' : vs 2 = _ := e
  rw [e']
  clear e e'
  simp only [Act.put, List.setIfInBounds_toArray, List.set_cons_succ, List.set_cons_zero]
  refine ⟨.inl ⟨rfl, fun dd w' hd hnx hw hC => ?_⟩, fun e => ?_⟩
  · go_simp
    first | exact ⟨rfl, hC⟩ | exact hC
  have e' : vs 3 = _ := e
  rw [e']
  clear e e'
  simp only [Act.put, List.setIfInBounds_toArray, List.set_cons_succ, List.set_cons_zero]
  refine ⟨.inl ⟨rfl, fun dd w' hd hnx hw hC => ?_⟩, fun e => ?_⟩
  · have h1 : w'.cell? ⟨g, 3, none⟩ = some (.slice A log.length c) := (H3.out.blk.turn hC.t H3.out.l_g).cell 3
    go_simp
    first | exact ⟨rfl, hC⟩ | exact hC
  have e' : vs 4 = _ := e
  rw [e']
  clear e e'
  simp only [Act.put, List.setIfInBounds_toArray, List.set_cons_succ, List.set_cons_zero]
  refine ⟨.inl ⟨rfl, fun dd w' hd hnx hw hC => ?_⟩, fun e => ?_⟩
  · go_simp
    first | exact ⟨rfl, hC⟩ | exact hC
  have e' : vs 5 = _ := e
  rw [e']
  clear e e'
  simp only [Act.put, List.setIfInBounds_toArray, List.set_cons_succ, List.set_cons_zero]
  refine ⟨.inl ⟨rfl, fun dd w' hd hnx hw hC => ?_⟩, fun e => ?_⟩
  · exact gE_ldA tSe rfl ((b3.out.turn hC.t (HBX.out)).head) ⟨rfl, hC⟩
  have e' : vs 6 = _ := e
  rw [e']
  clear e e'
  simp only [Act.put, List.setIfInBounds_toArray, List.set_cons_succ, List.set_cons_zero]
  refine ⟨.inl ⟨rfl, fun dd w' hd hnx hw hC => ?_⟩, fun e => ?_⟩
  · exact gE_wr rfl rfl ⟨rfl, hC⟩
  have e' : vs 7 = _ := e
  rw [e']
  clear e e'
  simp only [Act.put, List.setIfInBounds_toArray, List.set_cons_succ, List.set_cons_zero]
  refine ⟨.inl ⟨rfl, fun dd w' hd hnx hw hC => ?_⟩, fun e => ?_⟩
  · have h9 : dd 9 = false := hnx 9 (by kernel_rfl)
    have ha := (Below.refl w'.heap.size w').alloc (Nat.le_refl _) (.cells (atL ⟨i, x⟩).toArray 77)
    have hbl := hC.b h9
    exact gE_lit1 (x := (⟨i, x⟩ : Pt)) eltWr undWr (by omega) rfl rfl ⟨⟨_, _, rfl⟩, hC.t.trans (Turn.of_new (S := fun _ => False) ha) (fun _ e => e.elim), (fun _ => hbl.trans (ha.mono hbl.size)), (fun _ _ => ⟨_, _, rfl, sli_lit1 eltWr (⟨i, x⟩ : Pt) w' hbl.size⟩), fun e => by
      have e' : dd 9 = true := e
      rw [h9] at e'; cases e'⟩
  obtain ⟨A8, c8, e'⟩ : ∃ (A : Option Addr) (c : Nat), vs 8 = .slice A 1 c := e
  rw [e']
  have E8 := hid e'
  clear e'
  simp only [Act.put, List.setIfInBounds_toArray, List.set_cons_succ, List.set_cons_zero]
  refine ⟨.inl ⟨rfl, fun dd w' hd hnx hw hC => ?_⟩, fun e => ?_⟩
  · have h8 : dd 8 = true := hw 8 (by kernel_rfl)
    have hbl := hC.b hd
    obtain ⟨A', c', f, sl⟩ := hC.lit h8 hd
    rw [E8.out] at f
    cases f
    refine gE_appW eltWr undWr (B := 0) (v := .slice A log.length c) (l := log) (m := [(⟨i, x⟩ : Pt)]) rfl rfl (H3.out.lg.below hbl (Nat.le_refl _)) sl (by omega) (by omega) (Nat.zero_le _) fun v' w4 o4 g4 wh => ?_
    obtain ⟨A4, c4, rfl, _⟩ := o4.sli atL_len
    refine ⟨⟨A4, c4, by rw [List.length_append]; rfl⟩, ?_⟩
    exact ⟨(Turn.of_new (S := fun b => (Value.slice A log.length c).ownBlock = some b) hbl).trans (Turn.of_grown (S := fun b => (Value.slice A log.length c).ownBlock = some b) g4 fun b e => e) (fun b e => .inl e), (fun e => by cases e), (fun _ e => by cases e), fun _ => ⟨o4, fun b e => by
      have e' : (Value.slice A4 (log ++ [(⟨i, x⟩ : Pt)]).length c4).ownBlock = some b := e
      rcases wh with e2 | e2
      · exact .inl (e2.symm.trans e')
      · rw [e2] at e'; cases e'; exact .inr hbl.size⟩⟩
  obtain ⟨A9, c9, e'⟩ : ∃ (A : Option Addr) (c : Nat), vs 9 = .slice A (log.length + 1) c := e
  rw [e']
  have E9 := hid e'
  clear e'
  simp only [Act.put, List.setIfInBounds_toArray, List.set_cons_succ, List.set_cons_zero]
  refine ⟨.inl ⟨rfl, fun dd w' hd hnx hw hC => ?_⟩, fun e => ?_⟩
  · go_simp
    first | exact ⟨rfl, hC⟩ | exact hC
  have e' : vs 10 = _ := e
  rw [e']
  clear e e'
  simp only [Act.put, List.setIfInBounds_toArray, List.set_cons_succ, List.set_cons_zero]
  refine ⟨.inl ⟨rfl, fun dd w' hd hnx hw hC => ?_⟩, fun e => ?_⟩
  · go_simp
    first | exact ⟨rfl, hC⟩ | exact hC
  have e' : vs 11 = _ := e
  rw [e']
  clear e e'
  simp only [Act.put, List.setIfInBounds_toArray, List.set_cons_succ, List.set_cons_zero]
  intro dd w4 hall hC
  obtain ⟨o4, wh⟩ := hC.own (hall 9 (by omega))
  rw [E9.out] at o4 wh
  have hfin := hid (show Mm (w4.setCell ⟨g, 3, none⟩ (.slice A9 (log.length + 1) c9)) g rs rd (.slice A9 (log.length + 1) c9) vm ms n (upd S ⟨i, x⟩) D (log ++ [⟨i, x⟩]) marks false h from H3.out.setL hC.t o4)
  have hT := hid (show Turn (mSet g rs rd (.slice A log.length c) vm) w (w4.setCell ⟨g, 3, none⟩ (.slice A9 (log.length + 1) c9)) from
    ((T3.out.mono (T := mSet g rs rd (.slice A log.length c) vm) fun b e => .inr (.inl e)).trans hC.t fun b e => .inl (.inr (.inr (.inr (.inl e))))).trans (Turn.setCell (S := fun b => b = g) w4 ⟨g, 3, none⟩ _ rfl) fun b e => .inl (.inl e))
  have hsz := T3.out.size
  have W := hid wh
  have bb := H3.out.blk.turn hC.t H3.out.l_g
  have p3 : w4.cell? ⟨g, 3, none⟩ = some (.slice A log.length c) := bb.cell 3
  have fz := bb.frozen 3
  clear H3 T3 b3 hC o4 wh bb HBX hall E8 E9
  go_wp2_with fail
  go_ret
  exact ⟨rfl, _, hfin.out, fun b e => (W.out b e).imp id fun e => Nat.le_trans hsz e, hT.out⟩
set_option maxHeartbeats 400000 in
theorem mark2_full (H : Mm w g rs rd vl vm ms n S D log marks f h) (hl : marks.length = 64) :
    Calls Try.prog 20 #[at' g] w fun e w' => e = .returned (.tuple #[.int .i64 0, .int .i64 7]) ∧ w = w' := by
  have p0 : w.cell? ⟨g, 0, none⟩ = some (.int .i64 n) := H.blk.cell 0
  obtain ⟨A, c, e, _⟩ := H.mr.sli eltIm.len
  rw [List.length_map, H.len, hl] at e
  have p4 : w.cell? ⟨g, 4, none⟩ = some (.slice A 64 c) := by rw [← e]; exact H.blk.cell 4
  have hn := hid H.pos
  unfold at'
  clear H e
  go_enter Try.func20, Try.ntmps20
  go_wp2_with fail
  refine (made_any g n hn.out w p0).mono ?_
  rintro e w' ⟨rfl, rfl⟩
  go_wp2_with fail
  go_ret2
  exact ⟨rfl, rfl⟩
set_option maxHeartbeats 1000000 in
set_option maxRecDepth 100000 in
theorem mark2_any (H : Mm w g rs rd vl vm ms n S D log marks f h) (hl : marks.length < 64) :
    Calls Try.prog 20 #[at' g] w fun e w' => e = .returned (.tuple #[.int .i64 (marks.length : Nat), .int .i64 0]) ∧ ∃ vm' r, Mm w' g rs rd vl vm' (ms ++ [r]) n S D log (marks ++ [S]) f h ∧
      (∀ b, vm'.ownBlock = some b → vm.ownBlock = some b ∨ w.heap.size ≤ b) ∧ w.heap.size ≤ r ∧ Turn (mSet g rs rd vl vm) w w' := by
  have p0 : w.cell? ⟨g, 0, none⟩ = some (.int .i64 n) := H.blk.cell 0
  obtain ⟨A, c, rfl, _⟩ := H.mr.sli eltIm.len
  have hml : (ms.map some).length = marks.length := by rw [List.length_map, H.len]
  have HML := hid hml
  have p4 : w.cell? ⟨g, 4, none⟩ = some (.slice A marks.length c) := by rw [← hml]; exact H.blk.cell 4
  have hn := hid H.pos
  have HH := hid H
  rw [hml]
  unfold at'
  have t1 : ((marks.length : Int) == 64) = false := by simp; omega
  have t2 : decide ((marks.length : Int) = 64) = false := by simp; omega
  clear H hml
  go_enter Try.func20, Try.ntmps20
  go_wp2_with fail
  refine (made_any g n hn.out w p0).mono ?_
  rintro e w' ⟨rfl, rfl⟩
  go_upto_region 6 with fail
  have HV := hid (show (Value.slice A (ms.map some).length c) = .slice A marks.length c by rw [HML.out])
  refine wp_region_c (S := yS [some (.pointer (some ⟨g, 0, none⟩)), some (.pointer (some ⟨g, 0, none⟩)), some (.pointer (some ⟨g, 0, none⟩)), some (.pointer (some ⟨g, 4, none⟩)), some (.slice A marks.length c), some (.pointer (some ⟨g, 0, none⟩)), some (.pointer (some ⟨g, 0, none⟩)), some (.pointer (some ⟨g, 1, none⟩)), some (.map (some rs)), none, none, none, some (.pointer (some ⟨g, 0, none⟩)), some (.pointer (some ⟨g, 4, none⟩))]
      [(9, kMp), (10, kSl 1), (11, kSl (marks.length + 1))]) (C := fun d vs w' => MkC w (.slice A marks.length c) (ms.map some) S (d 9) (d 10) (d 11) (vs 9) (vs 10) (vs 11) w') 14 (by kernel_rfl) (by kernel_rfl) (by kernel_rfl) _
    (yS_ok _ fun y hy => by simp only [List.mem_cons, List.not_mem_nil, or_false] at hy; rcases hy with rfl | rfl | rfl <;> first | exact kSl_ok _ | exact kMp_ok)
    ⟨Turn.drew _, fun _ => (Below.refl _ _).drew, (fun e => by cases e), (fun e => by cases e), (fun e => by cases e), (fun e => by cases e), (fun e => by cases e)⟩ fun vs => ?_
  simp only [List.take_succ_cons, List.take_zero, List.drop_succ_cons, List.drop_zero]
  have BK := hid (show ∀ w', Turn (fun b => (Value.slice A marks.length c).ownBlock = some b) w w' → Blk w' g 58 (mbC7 n rs rd vl (.slice A marks.length c) f h) from fun w' ht => by
    have := HH.out.blk.turn ht (by rw [← HV.out]; exact HH.out.m_g)
    rw [HV.out] at this
    exact this)
  refine ⟨.inl ⟨rfl, fun dd w' hd hnx hw hC => ?_⟩, fun e => ?_⟩
  · go_simp
    first | exact ⟨rfl, hC⟩ | exact hC
  have e' : vs 0 = _ := e
  rw [e']
  clear e e'
  simp only [Act.put, List.setIfInBounds_toArray, List.set_cons_succ, List.set_cons_zero]
  refine ⟨.inl ⟨rfl, fun dd w' hd hnx hw hC => ?_⟩, fun e => ?_⟩
  · go_simp
    first | exact ⟨rfl, hC⟩ | exact hC
  have e' : vs 1 = _ := e
  rw [e']
  clear e e'
  simp only [Act.put, List.setIfInBounds_toArray, List.set_cons_succ, List.set_cons_zero]
  refine ⟨.inl ⟨rfl, fun dd w' hd hnx hw hC => ?_⟩, fun e => ?_⟩
  · go_simp
    first | exact ⟨rfl, hC⟩ | exact hC
  have e' : vs 2 = _ := e
  rw [e']
  clear e e'
  simp only [Act.put, List.setIfInBounds_toArray, List.set_cons_succ, List.set_cons_zero]
  refine ⟨.inl ⟨rfl, fun dd w' hd hnx hw hC => ?_⟩, fun e => ?_⟩
  · go_simp
    first | exact ⟨rfl, hC⟩ | exact hC
  have e' : vs 3 = _ := e
  rw [e']
  clear e e'
  simp only [Act.put, List.setIfInBounds_toArray, List.set_cons_succ, List.set_cons_zero]
  refine ⟨.inl ⟨rfl, fun dd w' hd hnx hw hC => ?_⟩, fun e => ?_⟩
  · have h1 : w'.cell? ⟨g, 4, none⟩ = some (.slice A marks.length c) := (BK.out _ hC.t).cell 4
    go_simp
    first | exact ⟨rfl, hC⟩ | exact hC
  have e' : vs 4 = _ := e
  rw [e']
  clear e e'
  simp only [Act.put, List.setIfInBounds_toArray, List.set_cons_succ, List.set_cons_zero]
  refine ⟨.inl ⟨rfl, fun dd w' hd hnx hw hC => ?_⟩, fun e => ?_⟩
  · go_simp
    first | exact ⟨rfl, hC⟩ | exact hC
  have e' : vs 5 = _ := e
  rw [e']
  clear e e'
  simp only [Act.put, List.setIfInBounds_toArray, List.set_cons_succ, List.set_cons_zero]
  refine ⟨.inl ⟨rfl, fun dd w' hd hnx hw hC => ?_⟩, fun e => ?_⟩
  · go_simp
    first | exact ⟨rfl, hC⟩ | exact hC
  have e' : vs 6 = _ := e
  rw [e']
  clear e e'
  simp only [Act.put, List.setIfInBounds_toArray, List.set_cons_succ, List.set_cons_zero]
  refine ⟨.inl ⟨rfl, fun dd w' hd hnx hw hC => ?_⟩, fun e => ?_⟩
  · go_simp
    first | exact ⟨rfl, hC⟩ | exact hC
  have e' : vs 7 = _ := e
  rw [e']
  clear e e'
  simp only [Act.put, List.setIfInBounds_toArray, List.set_cons_succ, List.set_cons_zero]
  refine ⟨.inl ⟨rfl, fun dd w' hd hnx hw hC => ?_⟩, fun e => ?_⟩
  · have h1 : w'.cell? ⟨g, 1, none⟩ = some (.map (some rs)) := (BK.out _ hC.t).cell 1
    go_simp
    first | exact ⟨rfl, hC⟩ | exact hC
  have e' : vs 8 = _ := e
  rw [e']
  clear e e'
  simp only [Act.put, List.setIfInBounds_toArray, List.set_cons_succ, List.set_cons_zero]
  refine ⟨.inl ⟨rfl, fun dd w' hd hnx hw hC => ?_⟩, fun e => ?_⟩
  · have h10 : dd 10 = false := by
      cases e : dd 10 with
      | false => rfl
      | true => have := hC.c2 e; rw [hd] at this; cases this
    have h11 : dd 11 = false := by
      cases e : dd 11 with
      | false => rfl
      | true => have := hC.c1 e; rw [h10] at this; cases this
    have hbl := hC.b h11
    go_simp
    refine (clone_any rs S w' (HH.out.seen.below hbl)).mono ?_
    rintro e w4 ⟨rfl, m4, h4, _⟩
    exact ⟨_, rfl, ⟨_, rfl⟩, hC.t.trans (Turn.of_new (S := fun _ => False) h4) (fun _ e => e.elim), (fun _ => hbl.trans (h4.mono hbl.size)), hC.c1, (fun _ => rfl), (fun _ => ⟨_, rfl, m4, hbl.size⟩), (fun e => by
      have e' : dd 10 = true := e
      rw [h10] at e'; cases e'), fun e => by
      have e' : dd 11 = true := e
      rw [h11] at e'; cases e'⟩
  obtain ⟨r9, e'⟩ : ∃ r : Nat, vs 9 = .map (some r) := e
  rw [e']
  have E9 := hid e'
  clear e'
  simp only [Act.put, List.setIfInBounds_toArray, List.set_cons_succ, List.set_cons_zero]
  refine ⟨.inl ⟨rfl, fun dd w' hd hnx hw hC => ?_⟩, fun e => ?_⟩
  · have h9 : dd 9 = true := hw 9 (by kernel_rfl)
    have h11 : dd 11 = false := by
      cases e : dd 11 with
      | false => rfl
      | true => have := hC.c1 e; rw [hd] at this; cases this
    have hbl := hC.b h11
    have ha := (Below.refl w'.heap.size w').alloc (Nat.le_refl _) (.cells (imE (some r9)).toArray 54)
    refine gE_lit1 (x := some r9) (v := .map (some r9)) eltIm undIm (by omega) rfl rfl ⟨⟨_, _, rfl⟩, hC.t.trans (Turn.of_new (S := fun _ => False) ha) (fun _ e => e.elim), (fun _ => hbl.trans (ha.mono hbl.size)), (fun _ => rfl), (fun _ => h9), (fun _ => ?_), (fun _ _ => ⟨_, _, r9, E9.out, rfl, sli_lit1 eltIm (some r9) w' hbl.size⟩), fun e => by
      have e' : dd 11 = true := e
      rw [h11] at e'; cases e'⟩
    obtain ⟨r, e1, e2, e3⟩ := hC.im h9
    exact ⟨r, e1, e2.below ha, e3⟩
  obtain ⟨A10, c10, e'⟩ : ∃ (A : Option Addr) (c : Nat), vs 10 = .slice A 1 c := e
  rw [e']
  have E10 := hid e'
  clear e'
  simp only [Act.put, List.setIfInBounds_toArray, List.set_cons_succ, List.set_cons_zero]
  refine ⟨.inl ⟨rfl, fun dd w' hd hnx hw hC => ?_⟩, fun e => ?_⟩
  · have h10 : dd 10 = true := hw 10 (by kernel_rfl)
    have hbl := hC.b hd
    obtain ⟨A', c', r, e1, f1, sl⟩ := hC.lit h10 hd
    rw [E10.out] at f1
    cases f1
    have hvo : OwnM w' 0 (.slice A marks.length c) (ms.map some) := by rw [← HV.out]; exact HH.out.mr.below hbl (Nat.le_refl _)
    have hlen := HML.out
    refine gE_appW eltIm undIm (B := 0) (v := .slice A marks.length c) (l := ms.map some) (m := [some r]) rfl rfl hvo sl (by omega) (by omega) (Nat.zero_le _) fun v' w4 o4 g4 wh => ?_
    obtain ⟨A4, c4, rfl, _⟩ := o4.sli eltIm.len
    have tg := Turn.of_grown (S := fun b => (Value.slice A marks.length c).ownBlock = some b) g4 fun b e => e
    refine ⟨⟨A4, c4, by rw [List.length_append, hlen]; rfl⟩, (hC.t.trans tg (fun b e => .inl e)), (fun e => by cases e), (fun _ => h10), hC.c2, (fun e => ?_), (fun _ e => by cases e), fun _ => ⟨r, e1, o4, fun b e => ?_⟩⟩
    · obtain ⟨r2, e2, e3, e4⟩ := hC.im e
      refine ⟨r2, e2, e3.turn tg fun x => ?_, e4⟩
      have := (hvo.own _ x).2
      obtain ⟨cur, hc⟩ := hvo.obj x
      exact map_ne e3 hc rfl
    · have e' : (Value.slice A4 (ms.map some ++ [some r]).length c4).ownBlock = some b := e
      rcases wh with e2 | e2
      · exact .inl (e2.symm.trans e')
      · rw [e2] at e'; cases e'; exact .inr hbl.size
  obtain ⟨A11, c11, e'⟩ : ∃ (A : Option Addr) (c : Nat), vs 11 = .slice A (marks.length + 1) c := e
  rw [e']
  have E11 := hid e'
  clear e'
  simp only [Act.put, List.setIfInBounds_toArray, List.set_cons_succ, List.set_cons_zero]
  refine ⟨.inl ⟨rfl, fun dd w' hd hnx hw hC => ?_⟩, fun e => ?_⟩
  · go_simp
    first | exact ⟨rfl, hC⟩ | exact hC
  have e' : vs 12 = _ := e
  rw [e']
  clear e e'
  simp only [Act.put, List.setIfInBounds_toArray, List.set_cons_succ, List.set_cons_zero]
  refine ⟨.inl ⟨rfl, fun dd w' hd hnx hw hC => ?_⟩, fun e => ?_⟩
  · go_simp
    first | exact ⟨rfl, hC⟩ | exact hC
  have e' : vs 13 = _ := e
  rw [e']
  clear e e'
  simp only [Act.put, List.setIfInBounds_toArray, List.set_cons_succ, List.set_cons_zero]
  intro dd w4 hall hC
  obtain ⟨r, e1, o4, wh⟩ := hC.own (hall 11 (by omega))
  obtain ⟨r', e2, m4, hr4⟩ := hC.im (hall 9 (by omega))
  rw [E9.out] at e1 e2
  cases e1
  cases e2
  rw [E11.out] at o4 wh
  have ht' : Turn (fun b => (Value.slice A (ms.map some).length c).ownBlock = some b) w w4 := by rw [HV.out]; exact hC.t
  have hfin := hid (show Mm (w4.setCell ⟨g, 4, none⟩ (.slice A11 (marks.length + 1) c11)) g rs rd vl (.slice A11 (marks.length + 1) c11) (ms ++ [r9]) n S D log (marks ++ [S]) f h from
    HH.out.setM ht' (by rw [List.map_append]; exact o4) (by rw [List.length_append, List.length_append, HH.out.len]; rfl) (fun i m F h1 h2 => by
      by_cases hi : i < ms.length
      · rw [List.getElem?_append_left hi] at h1
        rw [List.getElem?_append_left (by rw [← HH.out.len]; exact hi)] at h2
        exact (HH.out.im i m F h1 h2).turn ht' fun e => by obtain ⟨cur, hc⟩ := HH.out.mr.obj e; exact map_ne (HH.out.im i m F h1 h2) hc rfl
      · have hi2 : i = ms.length := by
          have := (List.getElem?_eq_some_iff.1 h1).1
          rw [List.length_append, List.length_cons, List.length_nil] at this
          omega
        subst hi2
        rw [List.getElem?_append_right (Nat.le_refl _), Nat.sub_self, List.getElem?_cons_zero] at h1
        rw [HH.out.len, List.getElem?_append_right (Nat.le_refl _), Nat.sub_self, List.getElem?_cons_zero] at h2
        cases h1
        cases h2
        exact m4) (fun m hm => by
      rcases List.mem_append.1 hm with hm | hm
      · exact HH.out.out m hm
      · rw [List.mem_singleton] at hm
        subst hm
        have := HH.out.seen.lt
        have := HH.out.dur.lt
        exact ⟨by omega, by omega⟩))
  have hT := hid (show Turn (mSet g rs rd vl (.slice A marks.length c)) w (w4.setCell ⟨g, 4, none⟩ (.slice A11 (marks.length + 1) c11)) from
    (hC.t.mono (T := mSet g rs rd vl (.slice A marks.length c)) fun b e => .inr (.inr (.inr (.inr e)))).trans (Turn.setCell (S := fun b => b = g) w4 ⟨g, 4, none⟩ _ rfl) fun b e => .inl (.inl e))
  have W := hid wh
  have bb := BK.out _ hC.t
  have p4 : w4.cell? ⟨g, 4, none⟩ = some (.slice A marks.length c) := bb.cell 4
  have fz := bb.frozen 4
  clear HH hC o4 wh bb BK hall E9 E10 E11 ht' HV HML m4
  go_wp2_with fail
  go_ret2
  exact ⟨rfl, _, r9, hfin.out, W.out, hr4, hT.out⟩
end
end MbO
end Go.Proofs.Yteglhalninlapaa
set_option maxRecDepth 100000
namespace Go.Proofs.Yteglhalninlapaa
open Go.ChangeShapes Go.WideShapes Go.ChangeAt Go.RowKit
attribute [local go_sem] Gives GivesE
section
variable {α : Type} {E L : TypeId} {k : Nat} {en : α → List Value} {w : World} {g cap : Nat} {l : List α}
theorem own_of_ranges {cur : Array Value} (hE : ∀ x, (en x).length = k) (hk : 0 < k) (hg : w.heap[g]? = some (.cells cur E (0, 0))) (hcs : cur.size = cap * k) (hn : l.length ≤ cap) (hcm : cap ≤ maxLen)
    (hr : ∀ (q : Nat) x, l[q]? = some x → w.rangeAt g (q * k) (en x)) : OwnX E k en w 0 (.slice (some ⟨g, 0, none⟩) l.length cap) l := by
  refine ⟨flat_len hE l, .inr ⟨g, cap, cur, rfl, Nat.zero_le _, hg, hn, hcm, hcs, ?_⟩⟩
  have hlk : l.length * k ≤ cap * k := Nat.mul_le_mul_right k hn
  refine List.ext_getElem? fun m => ?_
  by_cases hm : m < l.length * k
  · rw [List.getElem?_take_of_lt hm, Array.getElem?_toList]
    have hq : m / k < l.length := Nat.div_lt_of_lt_mul (by rw [Nat.mul_comm]; exact hm)
    have hrm := Nat.mod_lt m hk
    have hx : l[m / k]? = some l[m / k] := List.getElem?_eq_getElem hq
    have h1 := flat_at hE l (m / k) (m % k) _ hx hrm
    have hmm : m / k * k + m % k = m := by rw [Nat.mul_comm]; exact Nat.div_add_mod m k
    rw [hmm] at h1
    have hlen := hE l[m / k]
    have h2 : (en l[m / k])[m % k]? = some (en l[m / k])[m % k] := List.getElem?_eq_getElem (by omega)
    have h3 := hr _ _ hx (m % k) _ h2
    rw [hmm, cell_of_row w g m cur E (0, 0) hg] at h3
    rw [h3, h1, h2]
  · rw [List.getElem?_eq_none (by rw [List.length_take]; omega), List.getElem?_eq_none (by rw [flat_len hE]; omega)]
theorem cells_setCells {t : TypeId} {N : Nat} : ∀ (vs : List Value) (o : Nat) (w : World), (∃ cur, w.heap[g]? = some (.cells cur t (0, 0)) ∧ cur.size = N) → ∃ cur, (w.setCells g o vs).heap[g]? = some (.cells cur t (0, 0)) ∧ cur.size = N
  | [], _, _, h => h
  | v :: vs, o, w, ⟨cur, h1, h2⟩ => by
    have h3 : Blk w g t cur := h1
    exact cells_setCells vs (o + 1) _ ⟨_, h3.setCell_same o v, by rw [Array.size_setIfInBounds]; exact h2⟩
theorem turn_setCells : ∀ (vs : List Value) (o : Nat) (w : World), Turn (fun b => b = g) w (w.setCells g o vs)
  | [], o, w => Turn.refl _ _
  | v :: vs, o, w => (Turn.setCell (S := fun b => b = g) w ⟨g, o, none⟩ v rfl).trans (turn_setCells vs (o + 1) _) fun _ e => .inl e
theorem there_of {t : TypeId} {cur : Array Value} {o m : Nat} (h : w.heap[g]? = some (.cells cur t (0, 0))) (hm : o + m ≤ cur.size) : w.there g o m := fun j hj => by
  have hb : Blk w g t cur := h
  refine ⟨?_, hb.frozen _⟩
  rw [cell_of_row w g (o + j) cur t (0, 0) h, Array.getElem?_eq_getElem (by omega)]
  rfl
theorem zeros_len (z : Array Value) (m : Nat) : (Builtin.zeroCells z m).toList.length = m * z.size := by simp [Builtin.zeroCells]
theorem zeros_mem {z : Array Value} {m : Nat} {v : Value} (hv : v ∈ (Builtin.zeroCells z m).toList) (hz : 0 < z.size) : v ∈ z.toList := by
  simp only [Builtin.zeroCells, Array.toList_map, List.mem_map] at hv
  obtain ⟨i, _, rfl⟩ := hv
  have hi : i % z.size < z.size := Nat.mod_lt _ hz
  rw [getElem!_pos z _ hi]
  exact Array.getElem_mem_toList hi
theorem run_clr {ty : TypeId} {z : Array Value} {o m c : Nat} (hu : Try.prog.underlying L = some (.slice E)) (hz : ∀ w, (zeroValue E).run Try.prog w = .ok (.agg z) w) (hzk : 0 < z.size) (h1 : ∀ u ∈ z.toList, u.oneCell' = true) (ht : w.there g o (m * z.size)) :
    ∃ zs : List Value, zs.length = m * z.size ∧ (Builtin.clear_ #[L] ty #[.slice (some ⟨g, o, none⟩) m c]).run Try.prog w = .ok (.tuple #[]) (w.setCells g o zs) := by
  refine ⟨(Builtin.zeroCells z m).toList, zeros_len z m, ?_⟩
  cases m with
  | zero =>
    have : (Builtin.zeroCells z 0).toList = [] := List.eq_nil_of_length_eq_zero (by rw [zeros_len, Nat.zero_mul])
    rw [this]
    simp [Builtin.clear_, run_underlying hu, Result.andThen, World.setCells]
  | succ m =>
    have hst := run_storeCells_cells (P := Try.prog) g o (Builtin.zeroCells z (m + 1)).toList 0 w (fun j hj => by rw [Nat.add_zero]; exact (ht j (by rw [zeros_len] at hj; exact hj)).1) (fun j hj => by rw [Nat.add_zero]; exact (ht j (by rw [zeros_len] at hj; exact hj)).2)
      (fun v hv => h1 v (zeros_mem hv hzk))
    simp only [Nat.add_zero] at hst
    simp [Builtin.clear_, run_underlying hu, hz, Value.cells, hst, Result.andThen]
variable {ops : Array Oper} {Q : Exit → Act → World → Prop} {a : Act} {rest : List Oper} {dst : Option Tmp} {ty : TypeId} {pos : String} {after : Array Edge} {x : Operand}
theorem wclr {z : Array Value} {o m c : Nat} (hu : Try.prog.underlying L = some (.slice E)) (hz : ∀ w, (zeroValue E).run Try.prog w = .ok (.agg z) w) (hzk : 0 < z.size) (h1 : ∀ u ∈ z.toList, u.oneCell' = true) (hx : a.eval x = .slice (some ⟨g, o, none⟩) m c) (ht : w.there g o (m * z.size))
    (h : ∀ zs : List Value, zs.length = m * z.size → wpList Try.prog ops Q rest (a.put dst (.tuple #[])) (w.setCells g o zs)) :
    wpList Try.prog ops Q (⟨dst, .call { callee := .builtin .clear, args := #[x], argTypes := #[L] }, ty, pos, after, none⟩ :: rest) a w := by
  obtain ⟨zs, h2, hr⟩ := run_clr (ty := ty) (m := m) (c := c) hu hz hzk h1 ht
  refine wpList_plain rfl fun K hK => ?_
  unfold Oper.wp execOp
  simp only [resolve, invoke, builtin, Sem.run_bind, Sem.run_pure, Result.andThen_ok, List.map_toArray, List.map_cons, List.map_nil, hx, hr]
  exact hK _ _ (h zs h2)
theorem stRM {T : TypeId} {cs : Array Value} {o : Nat} {y : Operand} (hT : RowT T cs.size) (hx : a.eval x = .pointer (some ⟨g, o, none⟩)) (hy : a.eval y = .agg cs) (ht : w.there g o cs.size) (h1 : cs.all (·.oneCell') = true)
    (h : wpList Try.prog ops Q rest (a.put dst undef) (w.setCells g o cs.toList)) : wpList Try.prog ops Q (⟨dst, .store T x y, ty, pos, after, none⟩ :: rest) a w :=
  wpList_store_mid rfl T x y rfl g o cs hx hy ht hT.size h1 h
theorem wslF {y : Operand} {n c m : Nat} (hE : EltX E k en) (hu : Try.prog.underlying L = some (.slice E)) (hel : Try.prog.elem L = E) (hx : a.eval x = .slice (some ⟨g, 0, none⟩) n c) (hy : a.eval y = .int .i64 m) (hm : m ≤ n) (hc : m < c)
    (h : wpList Try.prog ops Q rest (a.put dst (.slice (some ⟨g, m * k, none⟩) (n - m) (c - m))) w) : wpList Try.prog ops Q (⟨dst, .slice L x (some y) none none, ty, pos, after, none⟩ :: rest) a w := by
  obtain ⟨ie, z, hi, hz, h1, h2, h3⟩ := hE.info
  have hsz : (sizeOf (Try.prog.elem L)).run Try.prog w = .ok k w := by rw [hel]; simp [sizeOf, typeInfo, hi, h1]
  have hu' : Try.prog.underlying L = some (.slice (Try.prog.elem L)) := by rw [hel]; exact hu
  have hr : (Instr.sliceAt L (.slice (some ⟨g, 0, none⟩) n c) (some (.int .i64 m)) none none).run Try.prog w = .ok (.slice (some ⟨g, m * k, none⟩) (n - m) (c - m)) w := by
    rw [run_sliceAt_slice w L _ _ _ _ hu', run_slice_l w L _ n c hu' .i64 m (by omega) (by omega), hsz]
    simp only [Result.andThen, sliced, Int.toNat_natCast]
    rw [if_neg (by omega), Option.map_some, Addr.add_mid, Nat.zero_add]
  refine wpList_plain rfl fun K hK => ?_
  unfold Oper.wp execOp
  simp only [Sem.run_bind, Option.map_some, Option.map_none, Sem.run_pure, hx, hy, hr, Result.andThen_ok]
  exact hK _ _ h
theorem wslT {y : Operand} {n c m : Nat} (hE : EltX E k en) (hu : Try.prog.underlying L = some (.slice E)) (hel : Try.prog.elem L = E) (hx : a.eval x = .slice (some ⟨g, 0, none⟩) n c) (hy : a.eval y = .int .i64 m) (hm : m < c)
    (h : wpList Try.prog ops Q rest (a.put dst (.slice (some ⟨g, 0, none⟩) m c)) w) : wpList Try.prog ops Q (⟨dst, .slice L x none (some y) none, ty, pos, after, none⟩ :: rest) a w := by
  obtain ⟨ie, z, hi, hz, h1, h2, h3⟩ := hE.info
  have hsz : (sizeOf (Try.prog.elem L)).run Try.prog w = .ok k w := by rw [hel]; simp [sizeOf, typeInfo, hi, h1]
  have hu' : Try.prog.underlying L = some (.slice (Try.prog.elem L)) := by rw [hel]; exact hu
  have hr : (Instr.sliceAt L (.slice (some ⟨g, 0, none⟩) n c) none (some (.int .i64 m)) none).run Try.prog w = .ok (.slice (some ⟨g, 0, none⟩) m c) w := by
    rw [run_sliceAt_slice w L _ _ _ _ hu', run_slice_h w L _ n c hu' .i64 m (by omega) (by omega), hsz]
    simp only [Result.andThen, sliced, Int.toNat_natCast, Nat.sub_zero]
    rw [if_neg (by omega), Option.map_some, Addr.add_mid, Nat.zero_mul, Nat.zero_add]
  refine wpList_plain rfl fun K hK => ?_
  unfold Oper.wp execOp
  simp only [Sem.run_bind, Option.map_some, Option.map_none, Sem.run_pure, hx, hy, hr, Result.andThen_ok]
  exact hK _ _ h
end
namespace MbO
open MbM MbP
theorem elemWr : Try.prog.elem 55 = 77 := by kernel_rfl
theorem cf_there (args : Array Value) (w : World) : (callFunc 51 args).run Try.prog w = .ok (.enter 51 args) w := by
  simp [callFunc, Try.func51, Try.f51]
/-- The function that Set hands down. -/
abbrev thereF (h : Nat) : Value := .func (.func 51) #[] #[.pointer (some ⟨h, 0, none⟩)]
set_option maxHeartbeats 400000 in
set_option maxRecDepth 100000 in
/-- slices.IndexFunc, of unflushed writes. -/
theorem index_any (A : Option Addr) (l : List Pt) (n c h : Nat) (i : Int) (S : Nat → Prop) (w : World) (hA : Sli 65 atL S w A l n c) (hb : w.cell? ⟨h, 0, none⟩ = some (.int .i64 i)) (hn : n ≤ 10000) :
    Calls Try.prog 58 #[.slice A n c, thereF h] w fun e w' => ∃ j : Nat, (∀ q p, q < j → l[q]? = some p → p.i ≠ i) ∧ (∃ r : Int, e = .returned (.int .i64 r) ∧ ((j < n ∧ r = j ∧ ∃ p, l[j]? = some p ∧ p.i = i) ∨ (n ≤ j ∧ r = -1))) ∧ Below w.heap.size w w' := by
  have HA := hid hA
  have HB := hid hb
  have hhl : h < w.heap.size := World.block_lt_of_cell? w ⟨h, 0, none⟩ hb
  unfold thereF
  clear hA hb
  go_enter Try.func58, Try.ntmps58
  go_wp2_with fail
  go_loopw [8] (fun u wr => ∃ k : Nat, u = .int .i64 k ∧ k ≤ n ∧ Hid (∀ q p, q < k → l[q]? = some p → p.i ≠ i) ∧ Hid (Below w.heap.size w wr)) (fun u _ => n - (intOf u).toNat)
  case atStart => exact ⟨0, rfl, Nat.zero_le _, hid fun q p hq => absurd hq (Nat.not_lt_zero _), hid (Below.refl _ _)⟩
  case round =>
    obtain ⟨k, rfl, hk, hM, hB⟩ := hrel
    by_cases hgo : k < n
    · have t1 : (k : Int) < (n : Int) := by omega
      obtain ⟨p, hp⟩ : ∃ p, l[k]? = some p := ⟨_, List.getElem?_eq_getElem (by rw [HA.out.len]; exact hgo)⟩
      obtain ⟨b, o, rfl, _, hbl, hr⟩ := HA.out.some hp
      have HR := hid (show wr.rangeAt b (o + k * 65) (atL p) from fun j v hj => (hB.out.cell (p := ⟨b, o + k * 65 + j, none⟩) hbl).trans (hr j v hj))
      have HBr := hid ((hB.out.cell (p := ⟨h, 0, none⟩) hhl).trans HB.out)
      have HP := hid hp
      clear hr hp
      go_wp2_with ((with_reducible apply ldR (cs := (atL p).toArray) (tWr p)); rfl; exact HR.out)
      refine (there_any h i p wr HBr.out).mono ?_
      rintro e w2 ⟨rfl, h2⟩
      have B2 := hid (hB.out.trans (h2.mono hB.out.size))
      clear hB HR HBr h2
      by_cases he : p.i = i
      · rw [show decide (p.i = i) = true by simp [he]]
        go_wp2_with fail
        go_ret
        exact ⟨k, hM.out, ⟨k, rfl, .inl ⟨hgo, rfl, p, HP.out, he⟩⟩, B2.out⟩
      · rw [show decide (p.i = i) = false by simp [he]]
        go_wp2_with fail
        go_roundw
        case rel =>
          refine ⟨k + 1, by go_num, by omega, hid fun q x hq hx => ?_, B2⟩
          by_cases e : q = k
          · subst e
            rw [HP.out] at hx
            cases hx
            exact he
          · exact hM.out q x (by omega) hx
        case measure => simp [intOf] <;> omega
    · have t1 : ¬ k < n := hgo
      go_wp2_with fail
      go_ret
      exact ⟨k, hM.out, ⟨_, rfl, .inr ⟨by omega, rfl⟩⟩, hB.out⟩
/-- The row in the midst of being put together. -/
structure Dl (w0 : World) (b cap : Nat) (l : List Pt) (i : Int) (j : Nat) (w : World) : Prop where
  blk : ∃ cur, w.heap[b]? = some (.cells cur 77 (0, 0)) ∧ cur.size = cap * 65
  don : ∀ (q : Nat) x, (oth (l.take j) i)[q]? = some x → w.rangeAt b (q * 65) (atL x)
  rem : ∀ (q : Nat) x, j ≤ q → l[q]? = some x → w.rangeAt b (q * 65) (atL x)
  t : Turn (fun k => k = b) w0 w
theorem Dl.turn {w0 w w' : World} {b cap : Nat} {l : List Pt} {i : Int} {j : Nat} (h : Dl w0 b cap l i j w) (hb : Below w.heap.size w w') (hbl : b < w0.heap.size) : Dl w0 b cap l i j w' := by
  have hlt : b < w.heap.size := Nat.lt_of_lt_of_le hbl h.t.size
  have ht := Turn.of_below hb
  obtain ⟨cur, h1, h2⟩ := h.blk
  exact ⟨⟨cur, (hb.block b hlt).trans h1, h2⟩, fun q x hx => ht.range (h.don q x hx) (by omega), fun q x hq hx => ht.range (h.rem q x hq hx) (by omega), h.t.trans (Turn.of_new (S := fun _ => False) hb) fun _ e => e.elim⟩
theorem oth_all {l : List Pt} {i : Int} : ∀ {m : Nat}, (∀ q p, q < m → l[q]? = some p → p.i ≠ i) → m ≤ l.length → oth (l.take m) i = l.take m
  | 0, _, _ => by rw [List.take_zero]; rfl
  | m + 1, h, hm => by
    rw [oth_step (p := l[m]) (List.getElem?_eq_getElem (by omega)), if_neg (h m _ (by omega) (List.getElem?_eq_getElem (by omega))), oth_all (fun q p hq => h q p (by omega)) (by omega), List.take_add_one, List.getElem?_eq_getElem (by omega)]
    rfl
set_option maxHeartbeats 1000000 in
set_option maxRecDepth 100000 in
/-- slices.DeleteFunc, of unflushed writes. -/
theorem delete_any (v : Value) (l : List Pt) (i0 : Int) (hb : Nat) (w : World) (hO : OwnL w 0 v l) (hbox : w.cell? ⟨hb, 0, none⟩ = some (.int .i64 i0)) (hne : ∀ b, v.ownBlock = some b → b ≠ hb) (hlen : l.length ≤ 10000) :
    Calls Try.prog 50 #[v, thereF hb] w fun e w' => ∃ v', e = .returned v' ∧ OwnL w' 0 v' (oth l i0) ∧ v'.ownBlock = v.ownBlock ∧ Turn (fun b => v.ownBlock = some b) w w' := by
  obtain ⟨A, cap, rfl, sl⟩ := hO.sli atL_len
  have HO := hid hO
  have SL := hid sl
  have HB := hid hbox
  have HN := hid hne
  have hhl : hb < w.heap.size := World.block_lt_of_cell? w ⟨hb, 0, none⟩ hbox
  unfold thereF
  clear hO sl hbox hne
  go_enter Try.func50, Try.ntmps50
  go_wp2_with fail
  refine (index_any A l l.length cap hb i0 (fun b => 0 ≤ b) w SL.out HB.out hlen).mono ?_
  rintro e w1 ⟨j, hj, ⟨r, rfl, hr⟩, h1⟩
  rcases hr with ⟨hjn, rfl, p0, hp0, he0⟩ | ⟨hjn, rfl⟩
  · have t0 : ((j : Int) == -1) = false := by simp
    have t0' : decide ((j : Int) = -1) = false := by simp
    have HJ := hid hj
    rcases HO.out.2 with ⟨e0, h0⟩ | ⟨g, cp, cur, e0, _, hg, hnc, hcm, hcs, htk⟩
    · omega
    · cases e0
      have hgl : g < w.heap.size := Blk.lt (t := 77) (cs := cur) hg
      have hall : ∀ (q : Nat) x, l[q]? = some x → w.rangeAt g (q * 65) (atL x) := fun q x hx => by
        obtain ⟨b, o, e, _, _, hr⟩ := SL.out.some hx
        cases e
        rwa [Nat.zero_add] at hr
      have hfst : oth (l.take (j + 1)) i0 = l.take j := by rw [oth_step hp0, if_pos he0, List.append_nil, oth_all HJ.out (by omega)]
      have D0 := hid (show Dl w g cap l i0 (j + 1) w1 from Dl.turn ⟨⟨cur, hg, hcs⟩, (fun q x hx => by
        rw [hfst] at hx
        have hql : q < j := by have := (List.getElem?_eq_some_iff.1 hx).1; rw [List.length_take] at this; omega
        rw [List.getElem?_take_of_lt hql] at hx
        exact hall q x hx), (fun q x _ hx => hall q x hx), Turn.refl _ _⟩ h1 hgl)
      have hfl := hid (show (oth (l.take (j + 1)) i0).length = j by rw [hfst, List.length_take]; omega)
      have hgb := HN.out g rfl
      have hcap : l.length ≤ cap := hnc
      have HCM := hid hcm
      clear HO SL hj hg hcm hcs htk hall hfst h1 hp0
      go_wp2_with fail
      go_loopw [5, 6] (fun u v wr => ∃ (m x : Nat), u = .int .i64 m ∧ v = .int .i64 x ∧ m < x ∧ x ≤ l.length ∧ Hid ((oth (l.take x) i0).length = m) ∧ Hid (Dl w g cap l i0 x wr)) (fun _ v _ => l.length - (intOf v).toNat)
      case atStart => exact ⟨j, j + 1, rfl, by go_num, by omega, by omega, hfl, D0⟩
      case round =>
        clear D0 hfl
        obtain ⟨m, x, rfl, rfl, hmx, hxl, hF, hD⟩ := hrel
        by_cases hgo : x < l.length
        · have t1 : (x : Int) < (l.length : Int) := by omega
          obtain ⟨p, hp⟩ : ∃ p, l[x]? = some p := ⟨_, List.getElem?_eq_getElem hgo⟩
          have HR := hid (show wr.rangeAt g (x * 65) (atL p) by exact hD.out.rem x p (Nat.le_refl _) hp)
          have hst := oth_step hp i0
          have HP := hid hp
          clear hp
          go_upto_region 8 with (first
            | ((with_reducible apply ldR (cs := (atL p).toArray) (tWr p)); rfl; exact HR.out)
            | (with_reducible apply alZ zWr)
            | ((with_reducible apply stR (tWr p)); rfl; rfl; exact Blk.new _ _ _; exact atL_size _ _; exact at_one p))
          generalize hw2 : World.setRow _ _ _ = w2
          have b2 := hid (show Blk w2 wr.heap.size 77 (atL p).toArray by rw [← hw2]; exact (Blk.new wr _ _).setRow_same _)
          have h2 := hid (show Below wr.heap.size wr w2 by rw [← hw2]; exact below_setRow ((Below.refl _ _).alloc (Nat.le_refl _) _) (Nat.le_refl _) _)
          have D2 := hid (hD.out.turn h2.out hgl)
          have HB2 := hid ((D2.out.t.cell (p := ⟨hb, 0, none⟩) HB.out) fun e => hgb e.symm)
          have hgr := Nat.lt_of_lt_of_le hgl hD.out.t.size
          clear hw2 hD h2 HR
          go_wp2_with ((with_reducible apply ldR (cs := (atL p).toArray) (tWr p)); rfl; exact b2.out.whole)
          refine (there_any hb i0 p w2 HB2.out).mono ?_
          rintro e w3 ⟨rfl, h3⟩
          have D3 := hid (D2.out.turn h3 hgl)
          have b3 := hid (b2.out.below h3 b2.out.lt)
          clear D2 b2 HB2 h3
          by_cases he : p.i = i0
          · rw [if_pos he, List.append_nil] at hst
            rw [show decide (p.i = i0) = true by simp [he]]
            have HST := hid hst
            clear hst b3
            go_wp2_with fail
            go_roundw
            case rel =>
              refine ⟨m, x + 1, rfl, by go_num, by omega, by omega, hid (by rw [HST.out]; exact hF.out), hid ⟨D3.out.blk, (by rw [HST.out]; exact D3.out.don), (fun q y hq hy => D3.out.rem q y (by omega) hy), D3.out.t⟩⟩
            case measure => simp [intOf] <;> omega
          · rw [if_neg he] at hst
            rw [show decide (p.i = i0) = false by simp [he]]
            have HST := hid hst
            have hTH := hid (show w3.there g (m * 65) (atL p).toArray.size by
              obtain ⟨cur, h1, h2⟩ := D3.out.blk
              refine there_of h1 ?_
              rw [h2, List.size_toArray, atL_len]
              have := Nat.mul_le_mul_right 65 (show m + 1 ≤ cap by omega)
              omega)
            have hDn := hid (show Dl w g cap l i0 (x + 1) (w3.setCells g (m * 65) (atL p).toArray.toList) from {
              blk := cells_setCells _ _ _ D3.out.blk
              don := fun q y hy => by
                rw [HST.out] at hy
                by_cases hq : q < m
                · rw [List.getElem?_append_left (by rw [hF.out]; exact hq)] at hy
                  have h4 := D3.out.don q y hy
                  refine World.rangeAt_setCells_apart h4 _ _ _ (.inr (.inl ?_))
                  rw [atL_len]
                  have := Nat.mul_le_mul_right 65 (show q + 1 ≤ m from hq)
                  omega
                · have hq2 : q = m := by
                    have := (List.getElem?_eq_some_iff.1 hy).1
                    rw [List.length_append, hF.out, List.length_cons, List.length_nil] at this
                    omega
                  subst hq2
                  rw [List.getElem?_append_right (by rw [hF.out]; exact Nat.le_refl _), hF.out, Nat.sub_self, List.getElem?_cons_zero] at hy
                  cases hy
                  have := World.rangeAt_setCells_same w3 g (q * 65) (atL p).toArray.toList hTH.out
                  exact this
              rem := fun q y hq hy => by
                have h4 := D3.out.rem q y (by omega) hy
                refine World.rangeAt_setCells_apart h4 _ _ _ (.inr (.inr ?_))
                show m * 65 + (atL p).length ≤ q * 65
                rw [atL_len]
                have := Nat.mul_le_mul_right 65 (show m + 1 ≤ q by omega)
                omega
              t := D3.out.t.trans (turn_setCells _ _ _) fun b e => .inl e })
            clear D3 hst
            go_wp2_with (first | ((with_reducible apply ldR (cs := (atL p).toArray) (tWr p)); rfl; exact b3.out.whole) | ((with_reducible apply stRM (cs := (atL p).toArray) (tWr p)); rfl; rfl; exact hTH.out; exact at_one p))
            go_roundw
            case rel =>
              refine ⟨m + 1, x + 1, by go_num, by go_num, by omega, by omega, hid (by rw [HST.out, List.length_append, hF.out]; rfl), hDn⟩
            case measure => simp [intOf] <;> omega
        · have hxe : x = l.length := by omega
          subst hxe
          have t1 : ¬ l.length < l.length := by omega
          rw [List.take_length] at hF
          have HM := hid (show (oth l i0).length = m from hF.out)
          have hDD := hid hD.out
          have hmc : m < cap := by omega
          have hml : m ≤ l.length := by omega
          have hth := hid (show wr.there g (m * 65) ((l.length - m) * (atL ⟨0, zero⟩).toArray.size) by
            obtain ⟨cur, h1, h2⟩ := hDD.out.blk
            refine there_of h1 ?_
            rw [h2, List.size_toArray, atL_len, ← Nat.add_mul]
            exact Nat.mul_le_mul_right 65 (by omega))
          clear hD hF hgo hxl
          go_wp2_with (first
            | ((with_reducible apply wslF eltWr undWr elemWr); rfl; rfl; exact hml; exact hmc)
            | ((with_reducible apply wclr undWr zWr); (rw [List.size_toArray, atL_len]; omega); exact eltAt.one _; rfl; exact hth.out; intro zs hzs; generalize hwz : World.setCells _ _ _ _ = wz)
            | ((with_reducible apply wslT eltWr undWr elemWr); rfl; rfl; exact hmc))
          go_ret
          refine ⟨_, rfl, ?_, rfl, ?_⟩
          · obtain ⟨cur, h1, h2⟩ := cells_setCells (g := g) zs (m * 65) wr hDD.out.blk
            rw [hwz] at h1
            have hown := own_of_ranges (l := oth l i0) atL_len (by omega) h1 h2 (by rw [HM.out]; omega) HCM.out fun q y hy => by
              have hq : q < m := by rw [← HM.out]; exact (List.getElem?_eq_some_iff.1 hy).1
              have hy' : (oth (l.take l.length) i0)[q]? = some y := by rw [List.take_length]; exact hy
              rw [← hwz]
              refine World.rangeAt_setCells_apart (hDD.out.don q y hy') _ _ _ (.inr (.inl ?_))
              rw [atL_len]
              have := Nat.mul_le_mul_right 65 (show q + 1 ≤ m from hq)
              omega
            rw [HM.out] at hown
            exact hown
          · have ht := (hDD.out.t.trans (turn_setCells zs (m * 65) wr) fun b e => .inl e)
            rw [hwz] at ht
            exact ht.mono fun b e => by rw [e]; rfl
  · have hfin := hid (show oth l i0 = l by
      have := oth_all (l := l) (i := i0) (m := l.length) (fun q p hq => hj q p (by omega)) (Nat.le_refl _)
      rwa [List.take_length] at this)
    have b1 := hid h1
    have o1 := hid (HO.out.below h1 (Nat.le_refl _))
    clear hj h1 HO SL
    go_wp2_with fail
    go_ret
    exact ⟨_, rfl, by rw [hfin.out]; exact o1.out, rfl, Turn.of_new b1.out⟩
section
variable {w w' : World} {g rs rd : Nat} {vl vm : Value} {ms : List Nat} {n : Int} {S D : Img} {log : List Pt} {marks : List Img} {f h : Bool}
theorem Mm.hurt (H : Mm w g rs rd vl vm ms n S D log marks f h) (h' : Bool) : Mm (w.setCell ⟨g, 6, none⟩ (.bool h')) g rs rd vl vm ms n S D log marks f h' :=
  H.flags f h' (Turn.setCell (S := fun b => b = g) w ⟨g, 6, none⟩ (.bool h') rfl) (H.blk.setCell_same 6 (.bool h'))
set_option maxHeartbeats 400000 in
theorem set2_bad (H : Mm w g rs rd vl vm ms n S D log marks f h) (i : Int) (hq : decide (0 ≤ i ∧ i < n) = false) (x : Nat → Nat) :
    Calls Try.prog 21 #[at' g, .int .i64 i, .agg (ar 64 x)] w fun e w' => e = .returned (.int .i64 2) ∧ Below w.heap.size w w' := by
  have HH := hid H
  have HQ := hid hq
  have hn := hid H.pos
  unfold at'
  clear H hq
  go_enter Try.func21, Try.ntmps21
  go_upto_region 1 with fail
  generalize hw1 : World.alloc (World.alloc w _) _ = w1
  have b0 := hid (show Blk w1 w.heap.size 3 #[.int .i64 i] by rw [← hw1]; exact (Blk.new _ _ _).alloc _)
  have BEL := hid (show Below w.heap.size w w1 by rw [← hw1]; exact ((Below.refl _ _).alloc (Nat.le_refl _) _).alloc (by simp) _)
  have H1 := hid (HH.out.below BEL.out)
  clear hw1 HH
  have p0 : w1.cell? ⟨g, 0, none⟩ = some (.int .i64 n) := H1.out.blk.cell 0
  have pi : w1.cell? ⟨w.heap.size, 0, none⟩ = some (.int .i64 i) := b0.out.cell 0
  go_wp2_with fail
  refine (find2_any g n hn.out i false HQ.out w1 p0).mono ?_
  rintro e w' ⟨rfl, rfl⟩
  go_wp2_with fail
  go_ret
  exact ⟨rfl, BEL.out⟩
set_option maxHeartbeats 1000000 in
set_option maxRecDepth 100000 in
theorem set2_any (H : Mm w g rs rd vl vm ms n S D log marks f h) (i : Int) (hq : decide (0 ≤ i ∧ i < n) = true) (x : Nat → Nat) (hlen : log.length ≤ 10000) :
    Calls Try.prog 21 #[at' g, .int .i64 i, .agg (ar 64 x)] w fun e w' => e = .returned (.int .i64 0) ∧ ∃ vl', Mm w' g rs rd vl' vm ms n (upd S ⟨i, x⟩) (upd D ⟨i, x⟩) (oth log i) marks f true ∧
      vl'.ownBlock = vl.ownBlock ∧ Turn (mSet g rs rd vl vm) w w' := by
  have HH := hid H
  have HQ := hid hq
  have hn := hid H.pos
  have hrs := H.seen.lt
  have hrd := H.dur.lt
  have hvl := hid H.lg.own
  unfold at'
  clear H hq
  go_enter Try.func21, Try.ntmps21
  go_upto_region 1 with fail
  generalize hw1 : World.alloc (World.alloc w _) _ = w1
  have b0 := hid (show Blk w1 w.heap.size 3 #[.int .i64 i] by rw [← hw1]; exact (Blk.new _ _ _).alloc _)
  have b1 := hid (show Blk w1 (w.heap.size + 1) 32 (ar 64 x) by rw [← hw1]; exact Blk.top rfl (by simp))
  have BEL := hid (show Below w.heap.size w w1 by rw [← hw1]; exact ((Below.refl _ _).alloc (Nat.le_refl _) _).alloc (by simp) _)
  have H1 := hid (HH.out.below BEL.out)
  clear hw1 HH
  have p0 : w1.cell? ⟨g, 0, none⟩ = some (.int .i64 n) := H1.out.blk.cell 0
  have pi : w1.cell? ⟨w.heap.size, 0, none⟩ = some (.int .i64 i) := b0.out.cell 0
  go_wp2_with fail
  refine (find2_any g n hn.out i true HQ.out w1 p0).mono ?_
  rintro e w' ⟨rfl, rfl⟩
  go_upto_region 4 with fail
  refine wp_region_tail (C := fun w' => Below w1.heap.size w1 w') 6 (by kernel_rfl) (by kernel_rfl) (by kernel_rfl) (Below.refl _ _).drew ?_
  apply wpK_val
  · rfl
  · intro w' hw'
    go_simp
    first | exact rfl | exact ⟨rfl, hw'⟩
  simp only [Act.put, List.setIfInBounds_toArray, List.set_cons_succ, List.set_cons_zero]
  apply wpK_val
  · rfl
  · intro w' hw'
    go_simp
    first | exact rfl | exact ⟨rfl, hw'⟩
  simp only [Act.put, List.setIfInBounds_toArray, List.set_cons_succ, List.set_cons_zero]
  apply wpK_val
  · rfl
  · intro w' hw'
    go_simp
    first | exact rfl | exact ⟨rfl, hw'⟩
  simp only [Act.put, List.setIfInBounds_toArray, List.set_cons_succ, List.set_cons_zero]
  apply wpK_val
  · rfl
  · intro w' hw'
    have hcell := (H1.out.below hw').blk.cell 1
    go_simp
    first | exact rfl | exact ⟨rfl, hw'⟩
  simp only [Act.put, List.setIfInBounds_toArray, List.set_cons_succ, List.set_cons_zero]
  apply wpK_val
  · rfl
  · intro w' hw'
    have hcell := (b0.out.below hw' b0.out.lt).cell 0
    go_simp
    first | exact rfl | exact ⟨rfl, hw'⟩
  simp only [Act.put, List.setIfInBounds_toArray, List.set_cons_succ, List.set_cons_zero]
  apply kldA tSe
  · rfl
  · rfl
  · exact fun w' hw' => ((b1.out.below hw' b1.out.lt).head)
  simp only [Act.put, List.setIfInBounds_toArray, List.set_cons_succ, List.set_cons_zero]
  intro w2 hC2
  have H2 := hid (H1.out.below hC2)
  have B2 := hid (BEL.out.trans (hC2.mono BEL.out.size))
  have c0 := hid (b0.out.below hC2 b0.out.lt)
  have c1 := hid (b1.out.below hC2 b1.out.lt)
  clear H1 BEL b0 b1 hC2 p0 pi
  go_wp2_with fail
  refine (put_any rs S i x w2 H2.out.seen).mono ?_
  rintro e w3 ⟨rfl, m3, t3⟩
  have H3 := hid (H2.out.setS t3 m3)
  have T3 := hid ((Turn.of_new (S := mSet g rs rd vl vm) B2.out).trans t3 fun _ e => .inl (.inr (.inl e)))
  have b0 := hid (c0.out.turn t3 (by omega))
  have b1 := hid (c1.out.turn t3 (by omega))
  clear H2 B2 c0 c1 m3 t3
  go_upto_region 5 with fail
  refine wp_region_tail (C := fun w' => Below w3.heap.size w3 w') 6 (by kernel_rfl) (by kernel_rfl) (by kernel_rfl) (Below.refl _ _).drew ?_
  apply wpK_val
  · rfl
  · intro w' hw'
    go_simp
    first | exact rfl | exact ⟨rfl, hw'⟩
  simp only [Act.put, List.setIfInBounds_toArray, List.set_cons_succ, List.set_cons_zero]
  apply wpK_val
  · rfl
  · intro w' hw'
    go_simp
    first | exact rfl | exact ⟨rfl, hw'⟩
  simp only [Act.put, List.setIfInBounds_toArray, List.set_cons_succ, List.set_cons_zero]
  apply wpK_val
  · rfl
  · intro w' hw'
    go_simp
    first | exact rfl | exact ⟨rfl, hw'⟩
  simp only [Act.put, List.setIfInBounds_toArray, List.set_cons_succ, List.set_cons_zero]
  apply wpK_val
  · rfl
  · intro w' hw'
    have hcell := (H3.out.below hw').blk.cell 2
    go_simp
    first | exact rfl | exact ⟨rfl, hw'⟩
  simp only [Act.put, List.setIfInBounds_toArray, List.set_cons_succ, List.set_cons_zero]
  apply wpK_val
  · rfl
  · intro w' hw'
    have hcell := (b0.out.below hw' b0.out.lt).cell 0
    go_simp
    first | exact rfl | exact ⟨rfl, hw'⟩
  simp only [Act.put, List.setIfInBounds_toArray, List.set_cons_succ, List.set_cons_zero]
  apply kldA tSe
  · rfl
  · rfl
  · exact fun w' hw' => ((b1.out.below hw' b1.out.lt).head)
  simp only [Act.put, List.setIfInBounds_toArray, List.set_cons_succ, List.set_cons_zero]
  intro w4 hC4
  have H4 := hid (H3.out.below hC4)
  have T4 := hid (T3.out.trans (Turn.of_new (S := fun _ => False) hC4) fun _ e => e.elim)
  have c0 := hid (b0.out.below hC4 b0.out.lt)
  clear H3 T3 b0 b1 hC4
  go_wp2_with fail
  refine (put_any rd D i x w4 H4.out.dur).mono ?_
  rintro e w5 ⟨rfl, m5, t5⟩
  have H5 := hid (H4.out.setD t5 m5)
  have T5 := hid (T4.out.trans t5 fun _ e => .inl (.inr (.inr (.inl e))))
  have b0 := hid (c0.out.turn t5 (by omega))
  have p3 : w5.cell? ⟨g, 3, none⟩ = some vl := H5.out.blk.cell 3
  clear H4 T4 c0 m5 t5
  go_wp2_with fail
  refine (delete_any vl log i w.heap.size w5 H5.out.lg (b0.out.cell 0) (fun b e => by have := (hvl.out b e).2; omega) hlen).mono ?_
  rintro e w6 ⟨vl', rfl, o6, hob, t6⟩
  obtain ⟨A6, c6, rfl, _⟩ := o6.sli atL_len
  have H7 := hid (H5.out.setL t6 o6)
  have T7 := hid ((T5.out.trans t6 fun b e => .inl (.inr (.inr (.inr (.inl e))))).trans (Turn.setCell (S := fun b => b = g) w6 ⟨g, 3, none⟩ (.slice A6 (oth log i).length c6) rfl) fun b e => .inl (.inl e))
  have bb := H5.out.blk.turn t6 H5.out.l_g
  have p3 : w6.cell? ⟨g, 3, none⟩ = some vl := bb.cell 3
  have fz := bb.frozen 3
  have HOB := hid hob
  clear H5 T5 b0 o6 t6 bb hob
  go_upto_region 7 with fail
  generalize World.setCell w6 _ _ = w7 at H7 T7 ⊢
  have p6 : w7.cell? ⟨g, 6, none⟩ = some (.bool h) := H7.out.blk.cell 6
  have fz := H7.out.blk.frozen 6
  have hfin := hid (And.intro (H7.out.hurt true) (T7.out.trans (Turn.setCell (S := fun b => b = g) w7 ⟨g, 6, none⟩ (.bool true) rfl) fun b e => .inl (.inl e)))
  clear H7 T7
  go_wp2_with fail
  go_ret
  exact ⟨rfl, _, hfin.out.1, HOB.out, hfin.out.2⟩
end
end MbO
end Go.Proofs.Yteglhalninlapaa
set_option maxRecDepth 100000
namespace Go.Proofs.Yteglhalninlapaa
open Go.ChangeShapes Go.WideShapes Go.ChangeAt Go.RowKit
attribute [local go_sem] Gives GivesE
namespace MbO
open MbM MbP
section
variable {w w' : World} {g rs rd : Nat} {vl vm : Value} {ms : List Nat} {n : Int} {S D : Img} {log : List Pt} {marks : List Img} {f h : Bool}
/-- Two other images. -/
theorem Mm.clones {rs' rd' : Nat} {F F' : Img} (H : Mm w g rs rd vl vm ms n S D log marks f h) (ht : Turn (fun b => b = g) w w') (hb : Blk w' g 58 (mbC7 n rs' rd' vl vm f h)) (hs : MapB w' rs' F) (hd : MapB w' rd' F') (hne : rs' ≠ rd') (hr : w.heap.size ≤ rs') (hr' : w.heap.size ≤ rd') :
    Mm w' g rs' rd' vl vm ms n F F' log marks f h where
  blk := hb
  pos := H.pos
  seen := hs
  dur := hd
  lg := H.lg.turn ht fun b e e2 => H.l_g (by rw [e, e2])
  mr := H.mr.turn ht fun b e e2 => H.m_g (by rw [e, e2])
  len := H.len
  im i m F h1 h2 := (H.im i m F h1 h2).turn ht fun e => map_ne (H.im i m F h1 h2) H.blk e.symm
  ne := hne
  out m hm := by have := H.lt (.inr hm); exact ⟨by omega, by omega⟩
/-- What holds in the midst of Back's two stores. -/
structure BkC (w0 : World) (g rs rd : Nat) (vl vm : Value) (n : Int) (f h : Bool) (F : Img) (d9 d17 d20 : Bool) (w' : World) : Prop where
  t : Turn (fun b => b = g) w0 w'
  b : d20 = false → Below w0.heap.size w0 w'
  c1 : d17 = true → d9 = true
  c2 : d20 = true → d17 = true
  s0 : d9 = false → w'.heap.size = w0.heap.size
  s1 : d9 = true → d17 = false → w'.heap.size = w0.heap.size + 1
  m1 : d9 = true → MapB w' w0.heap.size F
  m2 : d17 = true → MapB w' (w0.heap.size + 1) F
  blk : Blk w' g 58 (mbC7 n (if d20 then w0.heap.size else rs) rd vl vm f h)
theorem no_of {a b : Bool} (h : b = true → a = true) (ha : a = false) : b = false := by
  cases b with
  | false => rfl
  | true => rw [h rfl] at ha; cases ha
set_option maxHeartbeats 400000 in
theorem back2_bad (H : Mm w g rs rd vl vm ms n S D log marks f h) (i : Int) (hi : i < 0 ∨ (marks.length : Int) ≤ i) :
    Calls Try.prog 23 #[at' g, .int .i64 i] w fun e w' => e = .returned (.int .i64 2) ∧ w = w' := by
  have p0 : w.cell? ⟨g, 0, none⟩ = some (.int .i64 n) := H.blk.cell 0
  obtain ⟨A, c, e, _⟩ := H.mr.sli eltIm.len
  rw [List.length_map, H.len] at e
  have p4 : w.cell? ⟨g, 4, none⟩ = some (.slice A marks.length c) := by rw [← e]; exact H.blk.cell 4
  have hn := hid H.pos
  unfold at'
  clear H e
  by_cases h0 : i < 0
  · go_enter Try.func23, Try.ntmps23
    go_wp2_with fail
    refine (made_any g n hn.out w p0).mono ?_
    rintro e w' ⟨rfl, rfl⟩
    go_wp2_with fail
    go_ret
    exact ⟨rfl, rfl⟩
  · have t2 : (marks.length : Int) ≤ i := by omega
    go_enter Try.func23, Try.ntmps23
    go_wp2_with fail
    refine (made_any g n hn.out w p0).mono ?_
    rintro e w' ⟨rfl, rfl⟩
    go_wp2_with fail
    go_ret
    exact ⟨rfl, rfl⟩
set_option maxHeartbeats 1000000 in
set_option maxRecDepth 100000 in
theorem back2_any (H : Mm w g rs rd vl vm ms n S D log marks f h) (k : Nat) (F : Img) (hk : marks[k]? = some F) :
    Calls Try.prog 23 #[at' g, .int .i64 k] w fun e w' => e = .returned (.int .i64 0) ∧ ∃ rs' rd', Mm w' g rs' rd' (.slice none 0 0) vm ms n F F [] marks f true ∧
      w.heap.size ≤ rs' ∧ w.heap.size ≤ rd' ∧ Turn (fun b => b = g) w w' := by
  have p0 : w.cell? ⟨g, 0, none⟩ = some (.int .i64 n) := H.blk.cell 0
  obtain ⟨A, c, rfl, sl⟩ := H.mr.sli eltIm.len
  have hml : (ms.map some).length = marks.length := by rw [List.length_map, H.len]
  have hkl : k < marks.length := (List.getElem?_eq_some_iff.1 hk).1
  obtain ⟨m, hm⟩ : ∃ m, ms[k]? = some m := ⟨_, List.getElem?_eq_getElem (by rw [H.len]; exact hkl)⟩
  have hF := hid (H.im k m F hm hk)
  obtain ⟨b, o, rfl, _, hbl, hr⟩ := sl.some (i := k) (x := some m) (by rw [List.getElem?_map, hm]; rfl)
  have pk : w.cell? ⟨b, o + k * 1, none⟩ = some (.map (some m)) := hr 0 _ rfl
  rw [Nat.mul_one] at pk
  have HV := hid (show (Value.slice (some ⟨b, o, none⟩) (ms.map some).length c) = .slice (some ⟨b, o, none⟩) marks.length c by rw [hml])
  have p4 : w.cell? ⟨g, 4, none⟩ = some (.slice (some ⟨b, o, none⟩) marks.length c) := by rw [← hml]; exact H.blk.cell 4
  have hn := hid H.pos
  have HH := hid H
  unfold at'
  have t1 : (k : Int) < (marks.length : Int) := by omega
  clear H hml sl hr hm hk
  go_enter Try.func23, Try.ntmps23
  go_wp2_with fail
  refine (made_any g n hn.out w p0).mono ?_
  rintro e w' ⟨rfl, rfl⟩
  go_upto_region 5 with fail
  have hFm := hid (show ∀ w', Turn (fun b => b = g) w w' → MapB w' m F from fun w' ht => hF.out.turn ht fun e => map_ne hF.out HH.out.blk e.symm)
  have hbg : b ≠ g := fun e => HH.out.m_g (by rw [e]; rfl)
  have hgl := HH.out.blk.lt
  refine wp_region_c (S := yS [some (.pointer (some ⟨g, 0, none⟩)), some (.pointer (some ⟨g, 0, none⟩)), some (.pointer (some ⟨g, 0, none⟩)), some (.pointer (some ⟨g, 0, none⟩)), some (.pointer (some ⟨g, 4, none⟩)), some (.slice (some ⟨b, o, none⟩) marks.length c), some (.int .i64 k), some (.pointer (some ⟨b, o + k, none⟩)), some (.map (some m)), some (.map (some w.heap.size)),
      some (.pointer (some ⟨g, 0, none⟩)), some (.pointer (some ⟨g, 0, none⟩)), some (.pointer (some ⟨g, 4, none⟩)), some (.slice (some ⟨b, o, none⟩) marks.length c), some (.int .i64 k), some (.pointer (some ⟨b, o + k, none⟩)), some (.map (some m)), some (.map (some (w.heap.size + 1))), some (.pointer (some ⟨g, 0, none⟩)), some (.pointer (some ⟨g, 1, none⟩)), none] [])
    (C := fun d _ w' => BkC w g rs rd vl (.slice (some ⟨b, o, none⟩) marks.length c) n f h F (d 9) (d 17) (d 20) w') 21 (by kernel_rfl) (by kernel_rfl) (by kernel_rfl) _ (yS_ok _ fun y hy => by cases hy) ?_ fun vs => ?_
  · exact ⟨Turn.drew _, fun _ => (Below.refl _ _).drew, (fun e => by cases e), (fun e => by cases e), fun _ => rfl, (fun e => by cases e), (fun e => by cases e), (fun e => by cases e), by
      have := HH.out.blk.turn (Turn.drew (S := fun _ => False) w) id
      rw [HV.out] at this
      exact this⟩
  simp only [List.take_succ_cons, List.take_zero, List.drop_succ_cons, List.drop_zero]
  refine ⟨.inl ⟨rfl, fun dd w' hd hnx hw hC => ?_⟩, fun e => ?_⟩
  · go_simp
    first | exact ⟨rfl, hC⟩ | exact hC
  have e' : vs 0 = _ := e
  rw [e']
  clear e e'
  simp only [Act.put, List.setIfInBounds_toArray, List.set_cons_succ, List.set_cons_zero]
  refine ⟨.inl ⟨rfl, fun dd w' hd hnx hw hC => ?_⟩, fun e => ?_⟩
  · go_simp
    first | exact ⟨rfl, hC⟩ | exact hC
  have e' : vs 1 = _ := e
  rw [e']
  clear e e'
  simp only [Act.put, List.setIfInBounds_toArray, List.set_cons_succ, List.set_cons_zero]
  refine ⟨.inl ⟨rfl, fun dd w' hd hnx hw hC => ?_⟩, fun e => ?_⟩
  · go_simp
    first | exact ⟨rfl, hC⟩ | exact hC
  have e' : vs 2 = _ := e
  rw [e']
  clear e e'
  simp only [Act.put, List.setIfInBounds_toArray, List.set_cons_succ, List.set_cons_zero]
  refine ⟨.inl ⟨rfl, fun dd w' hd hnx hw hC => ?_⟩, fun e => ?_⟩
  · go_simp
    first | exact ⟨rfl, hC⟩ | exact hC
  have e' : vs 3 = _ := e
  rw [e']
  clear e e'
  simp only [Act.put, List.setIfInBounds_toArray, List.set_cons_succ, List.set_cons_zero]
  refine ⟨.inl ⟨rfl, fun dd w' hd hnx hw hC => ?_⟩, fun e => ?_⟩
  · go_simp
    first | exact ⟨rfl, hC⟩ | exact hC
  have e' : vs 4 = _ := e
  rw [e']
  clear e e'
  simp only [Act.put, List.setIfInBounds_toArray, List.set_cons_succ, List.set_cons_zero]
  refine ⟨.inl ⟨rfl, fun dd w' hd hnx hw hC => ?_⟩, fun e => ?_⟩
  · have h1 : w'.cell? ⟨g, 4, none⟩ = some (.slice (some ⟨b, o, none⟩) marks.length c) := hC.blk.cell 4
    go_simp
    first | exact ⟨rfl, hC⟩ | exact hC
  have e' : vs 5 = _ := e
  rw [e']
  clear e e'
  simp only [Act.put, List.setIfInBounds_toArray, List.set_cons_succ, List.set_cons_zero]
  refine ⟨.inl ⟨rfl, fun dd w' hd hnx hw hC => ?_⟩, fun e => ?_⟩
  · go_simp
    first | exact ⟨rfl, hC⟩ | exact hC
  have e' : vs 6 = _ := e
  rw [e']
  clear e e'
  simp only [Act.put, List.setIfInBounds_toArray, List.set_cons_succ, List.set_cons_zero]
  refine ⟨.inl ⟨rfl, fun dd w' hd hnx hw hC => ?_⟩, fun e => ?_⟩
  · go_simp
    first | exact ⟨rfl, hC⟩ | exact hC
  have e' : vs 7 = _ := e
  rw [e']
  clear e e'
  simp only [Act.put, List.setIfInBounds_toArray, List.set_cons_succ, List.set_cons_zero]
  refine ⟨.inl ⟨rfl, fun dd w' hd hnx hw hC => ?_⟩, fun e => ?_⟩
  · have h1 : w'.cell? ⟨b, o + k, none⟩ = some (.map (some m)) := hC.t.cell pk hbg
    go_simp
    first | exact ⟨rfl, hC⟩ | exact hC
  have e' : vs 8 = _ := e
  rw [e']
  clear e e'
  simp only [Act.put, List.setIfInBounds_toArray, List.set_cons_succ, List.set_cons_zero]
  refine ⟨.inl ⟨rfl, fun dd w' hd hnx hw hC => ?_⟩, fun e => ?_⟩
  · have h17 := no_of hC.c1 hd
    have h20 := no_of hC.c2 h17
    have hs0 := hC.s0 hd
    go_simp
    refine (clone_any m F w' (hFm.out w' hC.t)).mono ?_
    rintro e w4 ⟨rfl, m4, h4, hs4⟩
    rw [hs0] at m4 hs4 ⊢
    exact ⟨_, rfl, rfl, hC.t.trans (Turn.of_new (S := fun _ => False) h4) (fun _ e => e.elim), (fun _ => (hC.b h20).trans (h4.mono (by omega))), (fun _ => rfl), hC.c2, (fun e => by cases e), (fun _ _ => hs4), (fun _ => m4), (fun e => by
      have e' : dd 17 = true := e
      rw [h17] at e'; cases e'), hC.blk.below h4 (by omega)⟩
  have e' : vs 9 = _ := e
  rw [e']
  clear e e'
  simp only [Act.put, List.setIfInBounds_toArray, List.set_cons_succ, List.set_cons_zero]
  refine ⟨.inl ⟨rfl, fun dd w' hd hnx hw hC => ?_⟩, fun e => ?_⟩
  · go_simp
    first | exact ⟨rfl, hC⟩ | exact hC
  have e' : vs 10 = _ := e
  rw [e']
  clear e e'
  simp only [Act.put, List.setIfInBounds_toArray, List.set_cons_succ, List.set_cons_zero]
  refine ⟨.inl ⟨rfl, fun dd w' hd hnx hw hC => ?_⟩, fun e => ?_⟩
  · go_simp
    first | exact ⟨rfl, hC⟩ | exact hC
  have e' : vs 11 = _ := e
  rw [e']
  clear e e'
  simp only [Act.put, List.setIfInBounds_toArray, List.set_cons_succ, List.set_cons_zero]
  refine ⟨.inl ⟨rfl, fun dd w' hd hnx hw hC => ?_⟩, fun e => ?_⟩
  · go_simp
    first | exact ⟨rfl, hC⟩ | exact hC
  have e' : vs 12 = _ := e
  rw [e']
  clear e e'
  simp only [Act.put, List.setIfInBounds_toArray, List.set_cons_succ, List.set_cons_zero]
  refine ⟨.inl ⟨rfl, fun dd w' hd hnx hw hC => ?_⟩, fun e => ?_⟩
  · have h1 : w'.cell? ⟨g, 4, none⟩ = some (.slice (some ⟨b, o, none⟩) marks.length c) := hC.blk.cell 4
    go_simp
    first | exact ⟨rfl, hC⟩ | exact hC
  have e' : vs 13 = _ := e
  rw [e']
  clear e e'
  simp only [Act.put, List.setIfInBounds_toArray, List.set_cons_succ, List.set_cons_zero]
  refine ⟨.inl ⟨rfl, fun dd w' hd hnx hw hC => ?_⟩, fun e => ?_⟩
  · go_simp
    first | exact ⟨rfl, hC⟩ | exact hC
  have e' : vs 14 = _ := e
  rw [e']
  clear e e'
  simp only [Act.put, List.setIfInBounds_toArray, List.set_cons_succ, List.set_cons_zero]
  refine ⟨.inl ⟨rfl, fun dd w' hd hnx hw hC => ?_⟩, fun e => ?_⟩
  · go_simp
    first | exact ⟨rfl, hC⟩ | exact hC
  have e' : vs 15 = _ := e
  rw [e']
  clear e e'
  simp only [Act.put, List.setIfInBounds_toArray, List.set_cons_succ, List.set_cons_zero]
  refine ⟨.inl ⟨rfl, fun dd w' hd hnx hw hC => ?_⟩, fun e => ?_⟩
  · have h1 : w'.cell? ⟨b, o + k, none⟩ = some (.map (some m)) := hC.t.cell pk hbg
    go_simp
    first | exact ⟨rfl, hC⟩ | exact hC
  have e' : vs 16 = _ := e
  rw [e']
  clear e e'
  simp only [Act.put, List.setIfInBounds_toArray, List.set_cons_succ, List.set_cons_zero]
  refine ⟨.inl ⟨rfl, fun dd w' hd hnx hw hC => ?_⟩, fun e => ?_⟩
  · have h9 : dd 9 = true := hw 9 (by kernel_rfl)
    have h20 := no_of hC.c2 hd
    have hs1 := hC.s1 h9 hd
    go_simp
    refine (clone_any m F w' (hFm.out w' hC.t)).mono ?_
    rintro e w4 ⟨rfl, m4, h4, hs4⟩
    rw [hs1] at m4 hs4 ⊢
    exact ⟨_, rfl, rfl, hC.t.trans (Turn.of_new (S := fun _ => False) h4) (fun _ e => e.elim), (fun _ => (hC.b h20).trans (h4.mono (by omega))), (fun _ => h9), (fun _ => rfl), (fun e => by
      have e' : dd 9 = false := e
      rw [h9] at e'; cases e'), (fun _ e => by cases e), (fun _ => (hC.m1 h9).below h4), (fun _ => m4), hC.blk.below h4 (by omega)⟩
  have e' : vs 17 = _ := e
  rw [e']
  clear e e'
  simp only [Act.put, List.setIfInBounds_toArray, List.set_cons_succ, List.set_cons_zero]
  refine ⟨.inl ⟨rfl, fun dd w' hd hnx hw hC => ?_⟩, fun e => ?_⟩
  · go_simp
    first | exact ⟨rfl, hC⟩ | exact hC
  have e' : vs 18 = _ := e
  rw [e']
  clear e e'
  simp only [Act.put, List.setIfInBounds_toArray, List.set_cons_succ, List.set_cons_zero]
  refine ⟨.inl ⟨rfl, fun dd w' hd hnx hw hC => ?_⟩, fun e => ?_⟩
  · go_simp
    first | exact ⟨rfl, hC⟩ | exact hC
  have e' : vs 19 = _ := e
  rw [e']
  clear e e'
  simp only [Act.put, List.setIfInBounds_toArray, List.set_cons_succ, List.set_cons_zero]
  refine ⟨.inl ⟨rfl, fun dd w' hd hnx hw hC => ?_⟩, fun e => ?_⟩
  · have h9 : dd 9 = true := hw 9 (by kernel_rfl)
    have h17 : dd 17 = true := hw 17 (by kernel_rfl)
    have hb := hC.blk
    rw [hd, if_neg (by simp)] at hb
    have h1 : w'.cell? ⟨g, 1, none⟩ = some (.map (some rs)) := hb.cell 1
    have fz := hb.frozen 1
    have tu := Turn.setCell (S := fun b => b = g) w' ⟨g, 1, none⟩ (.map (some w.heap.size)) rfl
    have hm1 := hC.m1 h9
    have hm2 := hC.m2 h17
    have hfin0 : BkC w g rs rd vl (.slice (some ⟨b, o, none⟩) marks.length c) n f h F true true true (w'.setCell ⟨g, 1, none⟩ (.map (some w.heap.size))) := ⟨hC.t.trans tu fun _ e => .inl e, (fun e => by cases e), fun _ => rfl, fun _ => rfl, (fun e => by cases e), (fun _ e => by cases e),
      (fun _ => hm1.turn tu fun e => by omega), (fun _ => hm2.turn tu fun e => by omega), hb.setCell_same 1 _⟩
    have hfin : BkC w g rs rd vl (.slice (some ⟨b, o, none⟩) marks.length c) n f h F (dd 9) (dd 17) true (w'.setCell ⟨g, 1, none⟩ (.map (some w.heap.size))) := by rw [h9, h17]; exact hfin0
    go_simp
    first | exact ⟨trivial, hfin⟩ | exact hfin
  simp only [Act.put]
  clear e
  intro dd w4 hall hC
  rw [hall 9 (by omega), hall 17 (by omega), hall 20 (by omega)] at hC
  have hb := hC.blk
  rw [if_pos rfl] at hb
  have p2 : w4.cell? ⟨g, 2, none⟩ = some (.map (some rd)) := hb.cell 2
  have fz := hb.frozen 2
  have tu := Turn.setCell (S := fun b => b = g) w4 ⟨g, 2, none⟩ (.map (some (w.heap.size + 1))) rfl
  have M5 := hid (show Mm (w4.setCell ⟨g, 2, none⟩ (.map (some (w.heap.size + 1)))) g w.heap.size (w.heap.size + 1) vl (.slice (some ⟨b, o, none⟩) (ms.map some).length c) ms n F F log marks f h from
    HH.out.clones (hC.t.trans tu fun _ e => .inl e) (by rw [HV.out]; exact hb.setCell_same 2 _) ((hC.m1 rfl).turn tu fun e => by omega) ((hC.m2 rfl).turn tu fun e => by omega) (by omega) (Nat.le_refl _) (by omega))
  have T5 := hid (show Turn (fun b => b = g) w (w4.setCell ⟨g, 2, none⟩ (.map (some (w.heap.size + 1)))) from hC.t.trans tu fun _ e => .inl e)
  clear hC hb tu hFm HH hF HV hall
  go_upto_region 6 with fail
  generalize World.setCell w4 _ _ = w5 at M5 T5 ⊢
  have p3 : w5.cell? ⟨g, 3, none⟩ = some vl := M5.out.blk.cell 3
  have fz := M5.out.blk.frozen 3
  have M6 := hid M5.out.noLog
  have T6 := hid (T5.out.trans (Turn.setCell (S := fun b => b = g) w5 ⟨g, 3, none⟩ (.slice none 0 0) rfl) fun _ e => .inl e)
  clear M5 T5
  go_upto_region 7 with fail
  generalize World.setCell w5 _ _ = w6 at M6 T6 ⊢
  have p6 : w6.cell? ⟨g, 6, none⟩ = some (.bool h) := M6.out.blk.cell 6
  have fz := M6.out.blk.frozen 6
  have M7 := hid (M6.out.hurt true)
  have T7 := hid (T6.out.trans (Turn.setCell (S := fun b => b = g) w6 ⟨g, 6, none⟩ (.bool true) rfl) fun _ e => .inl e)
  clear M6 T6
  go_wp2_with fail
  go_ret
  exact ⟨rfl, _, _, M7.out, Nat.le_refl _, by omega, T7.out⟩
end
end MbO
end Go.Proofs.Yteglhalninlapaa
set_option maxRecDepth 100000
namespace Go.Proofs.Yteglhalninlapaa
open Go.ChangeShapes Go.WideShapes Go.ChangeAt Go.RowKit
attribute [local go_sem] Gives GivesE
theorem made_none (n : Nat) (z : Value) : (madeCells #[z] n).toList = List.replicate n z := by
  unfold madeCells
  apply List.ext_getElem?
  intro j
  simp [Nat.mod_one, List.getElem?_replicate]
  by_cases h : j < n
  · rw [List.getElem?_range h, if_pos h]; rfl
  · rw [List.getElem?_eq_none (by simp; omega), if_neg h]; rfl
namespace MbO
open MbM MbP
set_option maxRecDepth 100000 in
/-- slices.Clone, of unflushed writes. -/
theorem cloneW_any (v : Value) (l : List Pt) (w : World) (hO : OwnL w 0 v l) (hlen : l.length ≤ 10000) :
    Calls Try.prog 44 #[v] w fun e w' => ∃ v', e = .returned v' ∧ OwnL w' w.heap.size v' l ∧ Below w.heap.size w w' := by
  obtain ⟨A, cap, rfl, sl⟩ := hO.sli atL_len
  have SL := hid sl
  cases A with
  | none =>
    obtain ⟨hl0, rfl⟩ := sl.none rfl
    obtain rfl := List.eq_nil_of_length_eq_zero hl0
    have hq : ∀ w, (binOp .eql 55 (.slice none 0 0) (.slice none 0 0)).run Try.prog w = .ok (.bool true) w := fun w => Go.Lib.run_eql_slice_nil (P := Try.prog) w 55 77 none 0 0 0 0 undWr
    rw [List.length_nil]
    clear hO sl SL hl0
    go_enter Try.func44, Try.ntmps44
    go_wp2_with fail
    go_ret
    exact ⟨_, rfl, OwnX.nil _ _ _ _ _, Below.refl _ _⟩
  | some ad =>
    have hq : ∀ w, (binOp .eql 55 (.slice (some ad) l.length cap) (.slice none 0 0)).run Try.prog w = .ok (.bool false) w := fun w => Go.Lib.run_eql_slice_nil (P := Try.prog) w 55 77 (some ad) l.length cap 0 0 undWr
    clear hO sl
    go_enter Try.func44, Try.ntmps44
    go_wp2_with (at_builtin; (with_reducible apply wappX eltWr undWr (B := w.heap.size)); rfl; rfl; exact OwnX.empty (Nat.le_refl _); exact SL.out.turn (Turn.alloc (S := fun _ => False) w _) (fun _ _ _ e => e); (simp; omega); omega; (simp); intro v2 w2 o2 g2)
    rw [List.nil_append] at o2
    have b2 : Below w.heap.size w w2 := ((Below.refl _ _).alloc (Nat.le_refl _) _).trans ((Turn.of_grown (S := fun b => w.heap.size ≤ b) g2 fun b e => by cases e; simp).below (by simp) fun _ h => h)
    go_ret
    exact ⟨_, rfl, o2, b2⟩
theorem tMb7 (n : Int) (rs rd : Nat) (vl vm : Value) (f h : Bool) : RowT 58 (mbC7 n rs rd vl vm f h).size := ⟨by kernel_rfl, _, Try.underlying58, rfl⟩
def zMb7 : Array Value := #[.int .i64 0, .map none, .map none, .slice none 0 0, .slice none 0 0, .bool false, .bool false]
theorem zMb (w : World) : (zeroValue 58).run Try.prog w = .ok (.agg zMb7) w := (zero_of_info (P := Try.prog) (t := 58) (v := .agg zMb7) (n := 7) (by kernel_rfl)).1 w
theorem wmkI {ops : Array Oper} {Q : Exit → Act → World → Prop} {a : Act} {w : World} {rest : List Oper} {dst : Option Tmp} {ty : TypeId} {pos : String} {after : Array Edge} {x y : Operand} {N : Nat} (hx : a.eval x = .int .i64 N) (hy : a.eval y = .int .i64 N) (hN : N ≤ 64)
    (h : wpList Try.prog ops Q rest (a.put dst (.slice (some ⟨w.heap.size, 0, none⟩) N N)) (w.alloc (.cells (Array.replicate N (Value.map none)) 54))) :
    wpList Try.prog ops Q (⟨dst, .makeSlice 56 x y, ty, pos, after, none⟩ :: rest) a w := by
  obtain ⟨i, z, hi, hz, h1, h2, h3⟩ := eltIm.info
  have hz2 : z = .map none := by
    have : (Try.prog.info? 54).bind (·.zero) = some (.map none) := by kernel_rfl
    rw [hi] at this
    simp only [Option.bind_some, hz, Option.some.injEq] at this
    exact this
  subst hz2
  have hr := run_make_row (P := Try.prog) 56 54 i (.map none) undIm hi hz h1 rfl .i64 .i64 N (Nat.le_trans (Nat.mul_le_mul h2 hN) (by omega)) (by omega) w
  rw [show madeCells #[Value.map none] N = Array.replicate N (Value.map none) from Array.ext' (by rw [made_none, Array.toList_replicate])] at hr
  refine wpList_plain rfl fun K hK => ?_
  unfold Oper.wp execOp
  simp only [Sem.run_bind, hx, hy, hr, Result.andThen_ok]
  exact hK _ _ h
/-- What holds in the midst of the clones of Copy. -/
structure CpC (w0 : World) (S D : Img) (d4 d9 : Bool) (w' : World) : Prop where
  b : Below w0.heap.size w0 w'
  c1 : d9 = true → d4 = true
  s0 : d4 = false → w'.heap.size = w0.heap.size
  s1 : d4 = true → d9 = false → w'.heap.size = w0.heap.size + 1
  m1 : d4 = true → MapB w' w0.heap.size S
  m2 : d9 = true → MapB w' (w0.heap.size + 1) D
/-- A member that is being copied. -/
structure CpL (w0 w : World) (g rs rd : Nat) (vl : Value) (gm N : Nat) (ds : List Nat) (n : Int) (S D : Img) (log : List Pt) (marks : List Img) (f h : Bool) : Prop where
  blk : Blk w g 58 (mbC7 n rs rd vl (.slice (some ⟨gm, 0, none⟩) N N) f h)
  seen : MapB w rs S
  dur : MapB w rd D
  lg : OwnL w w0.heap.size vl log
  mr : Blk w gm 54 (ds.map (fun d => Value.map (some d)) ++ List.replicate (N - ds.length) (Value.map none)).toArray
  im : ∀ (i m : Nat) (F : Img), ds[i]? = some m → marks[i]? = some F → MapB w m F
  len : ds.length ≤ N ∧ marks.length = N
  new : w0.heap.size ≤ g ∧ w0.heap.size ≤ rs ∧ w0.heap.size ≤ rd ∧ w0.heap.size ≤ gm ∧ ∀ d, d ∈ ds → w0.heap.size ≤ d
  ne : rs ≠ rd
  out : ∀ d, d ∈ ds → d ≠ rs ∧ d ≠ rd
  b : Below w0.heap.size w0 w
section
variable {w0 w w' : World} {g rs rd : Nat} {vl vm : Value} {gm N : Nat} {ds ms : List Nat} {n : Int} {S D : Img} {log : List Pt} {marks : List Img} {f h : Bool}
theorem CpL.im_ex (H : CpL w0 w g rs rd vl gm N ds n S D log marks f h) {d : Nat} (hd : d ∈ ds) : ∃ F, MapB w d F := by
  obtain ⟨i, hi⟩ := List.mem_iff_getElem?.1 hd
  have hil : i < marks.length := by have := (List.getElem?_eq_some_iff.1 hi).1; have := H.len; omega
  exact ⟨_, H.im i d _ hi (List.getElem?_eq_getElem hil)⟩
theorem CpL.below (H : CpL w0 w g rs rd vl gm N ds n S D log marks f h) (hb : Below w.heap.size w w') : CpL w0 w' g rs rd vl gm N ds n S D log marks f h where
  blk := H.blk.below hb H.blk.lt
  seen := H.seen.below hb
  dur := H.dur.below hb
  lg := H.lg.below hb (Nat.le_refl _)
  mr := H.mr.below hb H.mr.lt
  im i m F h1 h2 := (H.im i m F h1 h2).below hb
  len := H.len
  new := H.new
  ne := H.ne
  out := H.out
  b := H.b.trans (hb.mono H.b.size)
theorem CpL.put (H : CpL w0 w g rs rd vl gm N ds n S D log marks f h) (hb : Below w.heap.size w w') (r : Nat) (F : Img) (hr : w.heap.size ≤ r) (hm : MapB w' r F) (hF : marks[ds.length]? = some F) (hl : ds.length < N) :
    CpL w0 (w'.setCell ⟨gm, ds.length, none⟩ (.map (some r))) g rs rd vl gm N (ds ++ [r]) n S D log marks f h := by
  have H' := H.below hb
  have hgm := H.mr.lt
  have tu := Turn.setCell (S := fun b => b = gm) w' ⟨gm, ds.length, none⟩ (.map (some r)) rfl
  have hmr : ∀ {x : Nat} {G : Img}, MapB w' x G → x ≠ gm := fun hx e => map_ne hx (show w'.heap[gm]? = some (.cells _ 54 (0, 0)) from H'.mr) e.symm
  exact {
    blk := H'.blk.turn tu fun e => by
      have h1 : w'.heap[g]? = some (.cells _ 58 (0, 0)) := H'.blk
      have h2 : w'.heap[gm]? = some (.cells _ 54 (0, 0)) := H'.mr
      rw [e, h2] at h1
      simp at h1
    seen := H'.seen.turn tu (hmr H'.seen)
    dur := H'.dur.turn tu (hmr H'.dur)
    lg := H'.lg.turn tu fun b e e2 => by
      obtain ⟨c, hc⟩ := H'.lg.obj e
      have h2 : w'.heap[gm]? = some (.cells _ 54 (0, 0)) := H'.mr
      rw [e2, h2] at hc
      simp at hc
    mr := by
      have h1 := H'.mr.setCell_same ds.length (.map (some r))
      have e : ((ds.map (fun d => Value.map (some d)) ++ List.replicate (N - ds.length) (Value.map none)).toArray).setIfInBounds ds.length (.map (some r)) = ((ds ++ [r]).map (fun d => Value.map (some d)) ++ List.replicate (N - (ds ++ [r]).length) (Value.map none)).toArray := by
        rw [List.setIfInBounds_toArray, List.set_append_right _ _ (by rw [List.length_map]; exact Nat.le_refl _), List.length_map, Nat.sub_self, List.length_append, List.length_cons, List.length_nil, List.map_append, List.append_assoc]
        obtain ⟨q, hq⟩ : ∃ q, N - ds.length = q + 1 := ⟨N - ds.length - 1, by omega⟩
        rw [hq, show N - (ds.length + (0 + 1)) = q by omega, List.replicate_succ]
        rfl
      rw [e] at h1
      exact h1
    im := fun i m G h1 h2 => by
      by_cases hi : i < ds.length
      · rw [List.getElem?_append_left hi] at h1
        exact (H'.im i m G h1 h2).turn tu (hmr (H'.im i m G h1 h2))
      · have hi2 : i = ds.length := by
          have := (List.getElem?_eq_some_iff.1 h1).1
          rw [List.length_append, List.length_cons, List.length_nil] at this
          omega
        subst hi2
        rw [List.getElem?_append_right (Nat.le_refl _), Nat.sub_self, List.getElem?_cons_zero] at h1
        cases h1
        rw [hF] at h2
        cases h2
        exact hm.turn tu (hmr hm)
    len := ⟨by rw [List.length_append, List.length_cons, List.length_nil]; omega, H.len.2⟩
    new := ⟨H.new.1, H.new.2.1, H.new.2.2.1, H.new.2.2.2.1, fun d hd => by
      rcases List.mem_append.1 hd with hd | hd
      · exact H.new.2.2.2.2 d hd
      · rw [List.mem_singleton] at hd
        subst hd
        exact Nat.le_trans H.b.size hr⟩
    ne := H.ne
    out := fun d hd => by
      rcases List.mem_append.1 hd with hd | hd
      · exact H.out d hd
      · rw [List.mem_singleton] at hd
        subst hd
        have := H.seen.lt
        have := H.dur.lt
        exact ⟨by omega, by omega⟩
    b := H'.b.trans (tu.below (Nat.le_trans H.new.2.2.2.1 (Nat.le_of_lt H'.mr.lt) |> fun _ => H'.b.size) fun b e => by rw [e]; exact H.new.2.2.2.1) }
theorem CpL.full (H : CpL w0 w g rs rd vl gm N ds n S D log marks f h) (hl : ds.length = N) (hn : 0 < n) (hN : N ≤ 64) : Mm w g rs rd vl (.slice (some ⟨gm, 0, none⟩) N N) ds n S D log marks f h where
  blk := H.blk
  pos := hn
  seen := H.seen
  dur := H.dur
  lg := H.lg.lower (Nat.zero_le _)
  mr := by
    have h1 := H.mr
    rw [hl, Nat.sub_self, List.replicate_zero, List.append_nil] at h1
    have h2 : w.heap[gm]? = some (.cells (ds.map (fun d => Value.map (some d))).toArray 54 (0, 0)) := h1
    have := own_of_ranges (l := ds.map some) (cap := N) (k := 1) (en := imE) (fun _ => rfl) (by omega) h2 (by simp [hl]) (by simp [hl]) (by unfold maxLen; omega) fun q x hx j v hj => by
      rw [cell_of_row w gm _ _ 54 (0, 0) h2]
      cases j with
      | zero =>
        rw [Nat.mul_one, Nat.add_zero]
        rw [List.getElem?_map] at hx
        cases hd : ds[q]? with
        | none => rw [hd] at hx; cases hx
        | some d =>
          rw [hd] at hx
          cases hx
          have : v = .map (some d) := by simpa [imE] using hj.symm
          subst this
          simp [hd]
      | succ j => simp [imE] at hj
    rw [List.length_map, hl] at this
    exact this
  len := by rw [hl, H.len.2]
  im := H.im
  ne := H.ne
  out := H.out
end
section
variable {w : World} {g rs rd : Nat} {vl vm : Value} {ms : List Nat} {n : Int} {S D : Img} {log : List Pt} {marks : List Img} {f h : Bool}
set_option maxHeartbeats 1000000 in
set_option maxRecDepth 100000 in
theorem copy2_any (H : Mm w g rs rd vl vm ms n S D log marks f h) (hlen : log.length ≤ 10000) (hN : marks.length ≤ 64) :
    Calls Try.prog 14 #[at' g] w fun e w' => ∃ g2 rs2 rd2 vl2 vm2 ms2, e = .returned (at' g2) ∧ Mm w' g2 rs2 rd2 vl2 vm2 ms2 n S D log marks f h ∧
      (∀ b, mSet g2 rs2 rd2 vl2 vm2 b ∨ b ∈ ms2 → w.heap.size ≤ b) ∧ Below w.heap.size w w' := by
  have p0 : w.cell? ⟨g, 0, none⟩ = some (.int .i64 n) := H.blk.cell 0
  obtain ⟨A, c, e, _⟩ := H.mr.sli eltIm.len
  rw [List.length_map, H.len] at e
  subst e
  obtain ⟨A1, c1, e, _⟩ := H.lg.sli atL_len
  subst e
  have hone : (mbC7 n rs rd (.slice A1 log.length c1) (.slice A marks.length c) f h).all (·.oneCell') = true := by simp [mbC7, Value.oneCell']
  have hn := hid H.pos
  have HH := hid H
  unfold at'
  clear H
  go_enter Try.func14, Try.ntmps14
  go_wp2_with fail
  refine (made_any g n hn.out w p0).mono ?_
  rintro e w' ⟨rfl, rfl⟩
  go_upto_region 4 with (first
    | ((with_reducible apply ldR (cs := mbC7 n rs rd (.slice A1 log.length c1) (.slice A marks.length c) f h) (tMb7 _ _ _ _ _ _ _)); rfl; exact HH.out.blk.whole)
    | (with_reducible apply alZ zMb)
    | ((with_reducible apply stR (tMb7 _ _ _ _ _ _ _)); rfl; rfl; exact Blk.new _ _ _; rfl; exact hone))
  generalize hw1 : World.setRow _ _ _ = w1
  obtain ⟨g2, hg2⟩ : ∃ g2, g2 = w.heap.size := ⟨_, rfl⟩
  rw [← hg2] at hw1 ⊢
  have b1 := hid (show Blk w1 g2 58 (mbC7 n rs rd (.slice A1 log.length c1) (.slice A marks.length c) f h) by rw [← hw1, hg2]; exact (Blk.new w _ _).setRow_same _)
  have B1 := hid (show Below w.heap.size w w1 by rw [← hw1]; exact below_setRow ((Below.refl _ _).alloc (Nat.le_refl _) _) (by omega) _)
  have H1 := hid (HH.out.below B1.out)
  have hg2l := b1.out.lt
  have HG2 := hid hg2
  have hgg : g < g2 := by have := HH.out.blk.lt; omega
  have hold := hid (show ∀ b, mSet g rs rd (.slice A1 log.length c1) (.slice A marks.length c) b ∨ b ∈ ms → b ≠ g2 from fun b hb e => by have := HH.out.lt hb; omega)
  have hge : w.heap.size ≤ g2 := by omega
  clear hw1 p0 hg2
  simp only [Act.put, List.setIfInBounds_toArray, List.set_cons_succ, List.set_cons_zero]
  refine wp_region_c (S := yS [some (.pointer (some ⟨g, 0, none⟩)), some (.pointer (some ⟨g, 0, none⟩)), some (.pointer (some ⟨g, 1, none⟩)), some (.map (some rs)), some (.map (some w1.heap.size)), some (.pointer (some ⟨g, 0, none⟩)), some (.pointer (some ⟨g, 0, none⟩)), some (.pointer (some ⟨g, 2, none⟩)), some (.map (some rd)), some (.map (some (w1.heap.size + 1)))] [])
    (C := fun d _ w' => CpC w1 S D (d 4) (d 9) w') 10 (by kernel_rfl) (by kernel_rfl) (by kernel_rfl) _ (yS_ok _ fun y hy => by cases hy)
    ⟨(Below.refl _ _).drew, (fun e => by cases e), fun _ => rfl, (fun e => by cases e), (fun e => by cases e), (fun e => by cases e)⟩ fun vs => ?_
  simp only [List.take_succ_cons, List.take_zero, List.drop_succ_cons, List.drop_zero]
  refine ⟨.inl ⟨rfl, fun dd w' hd hnx hw hC => ?_⟩, fun e => ?_⟩
  · go_simp
    first | exact ⟨rfl, hC⟩ | exact hC
  have e' : vs 0 = _ := e
  rw [e']
  clear e e'
  simp only [Act.put, List.setIfInBounds_toArray, List.set_cons_succ, List.set_cons_zero]
  refine ⟨.inl ⟨rfl, fun dd w' hd hnx hw hC => ?_⟩, fun e => ?_⟩
  · go_simp
    first | exact ⟨rfl, hC⟩ | exact hC
  have e' : vs 1 = _ := e
  rw [e']
  clear e e'
  simp only [Act.put, List.setIfInBounds_toArray, List.set_cons_succ, List.set_cons_zero]
  refine ⟨.inl ⟨rfl, fun dd w' hd hnx hw hC => ?_⟩, fun e => ?_⟩
  · go_simp
    first | exact ⟨rfl, hC⟩ | exact hC
  have e' : vs 2 = _ := e
  rw [e']
  clear e e'
  simp only [Act.put, List.setIfInBounds_toArray, List.set_cons_succ, List.set_cons_zero]
  refine ⟨.inl ⟨rfl, fun dd w' hd hnx hw hC => ?_⟩, fun e => ?_⟩
  · have h1 : w'.cell? ⟨g, 1, none⟩ = some (.map (some rs)) := (H1.out.below hC.b).blk.cell 1
    go_simp
    first | exact ⟨rfl, hC⟩ | exact hC
  have e' : vs 3 = _ := e
  rw [e']
  clear e e'
  simp only [Act.put, List.setIfInBounds_toArray, List.set_cons_succ, List.set_cons_zero]
  refine ⟨.inl ⟨rfl, fun dd w' hd hnx hw hC => ?_⟩, fun e => ?_⟩
  · have h9 := no_of hC.c1 hd
    have hs0 := hC.s0 hd
    go_simp
    refine (clone_any rs S w' (H1.out.below hC.b).seen).mono ?_
    rintro e w4 ⟨rfl, m4, h4, hs4⟩
    rw [hs0] at m4 hs4 ⊢
    exact ⟨_, rfl, rfl, hC.b.trans (h4.mono (by omega)), (fun _ => rfl), (fun e => by cases e), (fun _ _ => hs4), (fun _ => m4), fun e => by
      have e' : dd 9 = true := e
      rw [h9] at e'; cases e'⟩
  have e' : vs 4 = _ := e
  rw [e']
  clear e e'
  simp only [Act.put, List.setIfInBounds_toArray, List.set_cons_succ, List.set_cons_zero]
  refine ⟨.inl ⟨rfl, fun dd w' hd hnx hw hC => ?_⟩, fun e => ?_⟩
  · go_simp
    first | exact ⟨rfl, hC⟩ | exact hC
  have e' : vs 5 = _ := e
  rw [e']
  clear e e'
  simp only [Act.put, List.setIfInBounds_toArray, List.set_cons_succ, List.set_cons_zero]
  refine ⟨.inl ⟨rfl, fun dd w' hd hnx hw hC => ?_⟩, fun e => ?_⟩
  · go_simp
    first | exact ⟨rfl, hC⟩ | exact hC
  have e' : vs 6 = _ := e
  rw [e']
  clear e e'
  simp only [Act.put, List.setIfInBounds_toArray, List.set_cons_succ, List.set_cons_zero]
  refine ⟨.inl ⟨rfl, fun dd w' hd hnx hw hC => ?_⟩, fun e => ?_⟩
  · go_simp
    first | exact ⟨rfl, hC⟩ | exact hC
  have e' : vs 7 = _ := e
  rw [e']
  clear e e'
  simp only [Act.put, List.setIfInBounds_toArray, List.set_cons_succ, List.set_cons_zero]
  refine ⟨.inl ⟨rfl, fun dd w' hd hnx hw hC => ?_⟩, fun e => ?_⟩
  · have h1 : w'.cell? ⟨g, 2, none⟩ = some (.map (some rd)) := (H1.out.below hC.b).blk.cell 2
    go_simp
    first | exact ⟨rfl, hC⟩ | exact hC
  have e' : vs 8 = _ := e
  rw [e']
  clear e e'
  simp only [Act.put, List.setIfInBounds_toArray, List.set_cons_succ, List.set_cons_zero]
  refine ⟨.inl ⟨rfl, fun dd w' hd hnx hw hC => ?_⟩, fun e => ?_⟩
  · have h4' : dd 4 = true := hw 4 (by kernel_rfl)
    have hs1 := hC.s1 h4' hd
    go_simp
    refine (clone_any rd D w' (H1.out.below hC.b).dur).mono ?_
    rintro e w4 ⟨rfl, m4, h4, hs4⟩
    rw [hs1] at m4 hs4 ⊢
    exact ⟨_, rfl, rfl, hC.b.trans (h4.mono (by omega)), (fun _ => h4'), (fun e => by
      have e' : dd 4 = false := e
      rw [h4'] at e'; cases e'), (fun _ e => by cases e), (fun _ => (hC.m1 h4').below h4), fun _ => m4⟩
  have e' : vs 9 = _ := e
  rw [e']
  clear e e'
  simp only [Act.put, List.setIfInBounds_toArray, List.set_cons_succ, List.set_cons_zero]
  intro dd w2 hall hC
  have m1 := hid (hC.m1 (hall 4 (by omega)))
  have m2 := hid (hC.m2 (hall 9 (by omega)))
  have b2 := hid (b1.out.below hC.b hg2l)
  have B2 := hid (B1.out.trans (hC.b.mono B1.out.size))
  have H2 := hid (H1.out.below hC.b)
  have q1 : w2.cell? ⟨g2, 1, none⟩ = some (.map (some rs)) := b2.out.cell 1
  have f1 := b2.out.frozen 1
  obtain ⟨r1, hr1⟩ : ∃ r1, r1 = w1.heap.size := ⟨_, rfl⟩
  rw [← hr1] at m1 m2 ⊢
  have hrg : g2 < r1 := by omega
  have hrw : w.heap.size ≤ r1 := by omega
  clear hC hall b1 B1 H1 hr1
  have c1' := b2.out.setCell_same 1 (.map (some r1))
  have q2 : (w2.setCell ⟨g2, 1, none⟩ (.map (some r1))).cell? ⟨g2, 2, none⟩ = some (.map (some rd)) := c1'.cell 2
  have f2 := c1'.frozen 2
  have c2' := c1'.setCell_same 2 (.map (some (r1 + 1)))
  have t1 := Turn.setCell (S := fun b => b = g2) w2 ⟨g2, 1, none⟩ (.map (some r1)) rfl
  have t2 := t1.trans (Turn.setCell (S := fun b => b = g2) (w2.setCell ⟨g2, 1, none⟩ (.map (some r1))) ⟨g2, 2, none⟩ (.map (some (r1 + 1))) rfl) fun _ e => .inl e
  have b3 := hid (show Blk ((w2.setCell ⟨g2, 1, none⟩ (.map (some r1))).setCell ⟨g2, 2, none⟩ (.map (some (r1 + 1)))) g2 58 (mbC7 n r1 (r1 + 1) (.slice A1 log.length c1) (.slice A marks.length c) f h) from c2')
  have T3 := hid t2
  clear c1' c2' t1 t2
  go_upto_region 5 with fail
  generalize World.setCell (World.setCell w2 _ _) _ _ = w3 at b3 T3 ⊢
  have m1 := hid (m1.out.turn T3.out (by omega))
  have m2 := hid (m2.out.turn T3.out (by omega))
  have H3 := hid (H2.out.turn T3.out fun b hb e => hold.out b hb e)
  have B3 := hid (show Below w.heap.size w w3 from B2.out.trans (T3.out.below B2.out.size fun b e => by omega))
  clear H2 B2 b2 T3 q1 f1 q2 f2
  have p3 : w3.cell? ⟨g, 3, none⟩ = some (.slice A1 log.length c1) := H3.out.blk.cell 3
  go_wp2_with fail
  refine (cloneW_any (.slice A1 log.length c1) log w3 H3.out.lg hlen).mono ?_
  rintro e w4 ⟨v4, rfl, o4, h4⟩
  obtain ⟨A4, c4, rfl, _⟩ := o4.sli atL_len
  have m1 := hid (m1.out.below h4)
  have m2 := hid (m2.out.below h4)
  have H4 := hid (H3.out.below h4)
  have B4 := hid (B3.out.trans (h4.mono B3.out.size))
  have O4 := hid o4
  have b4 := hid (b3.out.below h4 b3.out.lt)
  have p34 : w4.cell? ⟨g2, 3, none⟩ = some (.slice A1 log.length c1) := b4.out.cell 3
  have f34 := b4.out.frozen 3
  have tu := Turn.setCell (S := fun b => b = g2) w4 ⟨g2, 3, none⟩ (.slice A4 log.length c4) rfl
  have T5 := hid tu
  have b5 := hid (show Blk (w4.setCell ⟨g2, 3, none⟩ (.slice A4 log.length c4)) g2 58 (mbC7 n r1 (r1 + 1) (.slice A4 log.length c4) (.slice A marks.length c) f h) from b4.out.setCell_same 3 _)
  have hg23 := b3.out.lt
  clear H3 B3 b3 b4 h4 o4 p3 tu
  go_upto_region 6 with fail
  generalize World.setCell w4 _ _ = w5 at b5 T5 ⊢
  have m1 := hid (m1.out.turn T5.out (by omega))
  have m2 := hid (m2.out.turn T5.out (by omega))
  have H5 := hid (H4.out.turn T5.out fun b hb e => hold.out b hb e)
  have B5 := hid (show Below w.heap.size w w5 from B4.out.trans (T5.out.below B4.out.size fun b e => by omega))
  have O5 := hid (show OwnL w5 w.heap.size (.slice A4 log.length c4) log from (O4.out.turn T5.out fun b e e2 => by have := (O4.out.own b e).1; omega).lower (by omega))
  have p4 : w5.cell? ⟨g, 4, none⟩ = some (.slice A marks.length c) := H5.out.blk.cell 4
  obtain ⟨wa, hwa⟩ : ∃ wa, wa = w5.alloc (.cells (Array.replicate marks.length (Value.map none)) 54) := ⟨_, rfl⟩
  obtain ⟨gm, hgm⟩ : ∃ gm, gm = w5.heap.size := ⟨_, rfl⟩
  have ba := hid (show Blk wa g2 58 (mbC7 n r1 (r1 + 1) (.slice A4 log.length c4) (.slice A marks.length c) f h) by rw [hwa]; exact b5.out.alloc _)
  have bm := hid (show Blk wa gm 54 (([] : List Nat).map (fun d => Value.map (some d)) ++ List.replicate (marks.length - ([] : List Nat).length) (Value.map none)).toArray by
    rw [hwa, hgm, List.map_nil, List.nil_append, List.length_nil, Nat.sub_zero, show (List.replicate marks.length (Value.map none)).toArray = Array.replicate marks.length (Value.map none) from Array.ext' (by rw [Array.toList_replicate])]
    exact Blk.new _ _ _)
  have qa : wa.cell? ⟨g2, 4, none⟩ = some (.slice A marks.length c) := ba.out.cell 4
  have fa := ba.out.frozen 4
  have HA := hid (show Below w5.heap.size w5 wa by rw [hwa]; exact (Below.refl _ _).alloc (Nat.le_refl _) _)
  rw [hwa] at qa fa
  have HGM := hid hgm
  have HWA := hid hwa
  clear H4 B4 O4 T5 p34 f34 hwa hgm
  go_upto_region 7 with ((with_reducible apply wmkI); rfl; rfl; exact hN)
  rw [← HWA.out, ← HGM.out]
  have hgmw : g2 < gm := by have := HGM.out; have := b5.out.lt; omega
  have tu := Turn.setCell (S := fun b => b = g2) wa ⟨g2, 4, none⟩ (.slice (some ⟨gm, 0, none⟩) marks.length marks.length) rfl
  have CP := hid (show CpL w (wa.setCell ⟨g2, 4, none⟩ (.slice (some ⟨gm, 0, none⟩) marks.length marks.length)) g2 r1 (r1 + 1) (.slice A4 log.length c4) gm marks.length [] n S D log marks f h from {
    blk := ba.out.setCell_same 4 _
    seen := (m1.out.below HA.out).turn tu (by omega)
    dur := (m2.out.below HA.out).turn tu (by omega)
    lg := (O5.out.below HA.out (Nat.le_refl _)).turn tu fun b e e2 => by
      obtain ⟨cc, hc⟩ := O5.out.obj e
      have h2 : w5.heap[g2]? = some (.cells _ 58 (0, 0)) := b5.out
      rw [e2, h2] at hc
      simp at hc
    mr := bm.out.turn tu (by omega)
    im := fun i m F h1 h2 => by simp at h1
    len := ⟨Nat.zero_le _, rfl⟩
    new := ⟨hge, hrw, by omega, by omega, fun d hd => by cases hd⟩
    ne := by omega
    out := fun d hd => by cases hd
    b := (B5.out.trans (HA.out.mono B5.out.size)).trans (tu.below (Nat.le_trans B5.out.size HA.out.size) fun b e => by omega) })
  have HO := hid (show Mm (wa.setCell ⟨g2, 4, none⟩ (.slice (some ⟨gm, 0, none⟩) marks.length marks.length)) g rs rd (.slice A1 log.length c1) (.slice A marks.length c) ms n S D log marks f h from (H5.out.below HA.out).turn tu fun b hb e => hold.out b hb e)
  clear tu ba bm qa fa HA HGM HWA m1 m2 H5 B5 O5 b5 p4
  generalize World.setCell wa _ _ = w6 at CP HO ⊢
  have p4 : w6.cell? ⟨g, 4, none⟩ = some (.slice A marks.length c) := HO.out.blk.cell 4
  clear HO
  go_wp2_with fail
  go_loopw [42] (fun u wr => ∃ (k : Nat) (ds : List Nat), u = .int .i64 k ∧ ds.length = k ∧ k ≤ marks.length ∧ Hid (CpL w wr g2 r1 (r1 + 1) (.slice A4 log.length c4) gm marks.length ds n S D log marks f h)) (fun u _ => marks.length - (intOf u).toNat)
  case atStart => exact ⟨0, [], rfl, rfl, Nat.zero_le _, CP⟩
  case round =>
    clear CP
    obtain ⟨k, ds, rfl, hdk, hk, CP⟩ := hrel
    by_cases hgo : k < marks.length
    · have t1 : (k : Int) < (marks.length : Int) := by omega
      obtain ⟨F, hF⟩ : ∃ F, marks[k]? = some F := ⟨_, List.getElem?_eq_getElem hgo⟩
      obtain ⟨m, hm⟩ : ∃ m, ms[k]? = some m := ⟨_, List.getElem?_eq_getElem (by rw [HH.out.len]; exact hgo)⟩
      obtain ⟨A', c', e', sl⟩ := HH.out.mr.sli eltIm.len
      have e2 : A' = A := by injection e' with h1 h2 h3; exact h1.symm
      subst e2
      clear e'
      obtain ⟨b, o, rfl, _, hbl, hr⟩ := sl.some (i := k) (x := some m) (by rw [List.getElem?_map, hm]; rfl)
      have pk0 : w.cell? ⟨b, o + k * 1, none⟩ = some (.map (some m)) := hr 0 _ rfl
      rw [Nat.mul_one] at pk0
      have pk : wr.cell? ⟨b, o + k, none⟩ = some (.map (some m)) := (CP.out.b.cell (p := ⟨b, o + k, none⟩) hbl).trans pk0
      have hFm := hid (HH.out.im k m F hm hF)
      have hml := hFm.out.lt
      have HF := hid hF
      have HDK := hid hdk
      clear sl hr hm hF pk0 hdk
      go_upto_region 10 with fail
      refine wp_region_c (S := yS [some (.pointer (some ⟨g2, 4, none⟩)), some (.slice (some ⟨gm, 0, none⟩) marks.length marks.length), some (.int .i64 k), some (.map (some m)), some (.map (some wr.heap.size)), some (.pointer (some ⟨gm, k, none⟩))] [])
        (C := fun d _ w' => CpC wr F F (d 4) false w') 6 (by kernel_rfl) (by kernel_rfl) (by kernel_rfl) _ (yS_ok _ fun y hy => by cases hy)
        ⟨(Below.refl _ _).drew, (fun e => by cases e), fun _ => rfl, (fun e => by cases e), (fun e => by cases e), (fun e => by cases e)⟩ fun vs => ?_
      simp only [List.take_succ_cons, List.take_zero, List.drop_succ_cons, List.drop_zero]
      refine ⟨.inl ⟨rfl, fun dd w' hd hnx hw hC => ?_⟩, fun e => ?_⟩
      · go_simp
        first | exact ⟨rfl, hC⟩ | exact hC
      have e' : vs 0 = _ := e
      rw [e']
      clear e e'
      simp only [Act.put, List.setIfInBounds_toArray, List.set_cons_succ, List.set_cons_zero]
      refine ⟨.inl ⟨rfl, fun dd w' hd hnx hw hC => ?_⟩, fun e => ?_⟩
      · have h1 : w'.cell? ⟨g2, 4, none⟩ = some (.slice (some ⟨gm, 0, none⟩) marks.length marks.length) := (CP.out.below hC.b).blk.cell 4
        go_simp
        first | exact ⟨rfl, hC⟩ | exact hC
      have e' : vs 1 = _ := e
      rw [e']
      clear e e'
      simp only [Act.put, List.setIfInBounds_toArray, List.set_cons_succ, List.set_cons_zero]
      refine ⟨.inl ⟨rfl, fun dd w' hd hnx hw hC => ?_⟩, fun e => ?_⟩
      · go_simp
        first | exact ⟨rfl, hC⟩ | exact hC
      have e' : vs 2 = _ := e
      rw [e']
      clear e e'
      simp only [Act.put, List.setIfInBounds_toArray, List.set_cons_succ, List.set_cons_zero]
      refine ⟨.inl ⟨rfl, fun dd w' hd hnx hw hC => ?_⟩, fun e => ?_⟩
      · go_simp
        first | exact ⟨rfl, hC⟩ | exact hC
      have e' : vs 3 = _ := e
      rw [e']
      clear e e'
      simp only [Act.put, List.setIfInBounds_toArray, List.set_cons_succ, List.set_cons_zero]
      refine ⟨.inl ⟨rfl, fun dd w' hd hnx hw hC => ?_⟩, fun e => ?_⟩
      · have hs0 := hC.s0 hd
        go_simp
        refine (clone_any m F w' ((hFm.out.turn (Turn.of_below CP.out.b) (by omega)).below hC.b)).mono ?_
        rintro e w4 ⟨rfl, m4, h4, hs4⟩
        rw [hs0] at m4 hs4 ⊢
        exact ⟨_, rfl, rfl, hC.b.trans (h4.mono (by omega)), (fun e => by cases e), (fun e => by cases e), (fun _ _ => hs4), (fun _ => m4), fun e => by cases e⟩
      have e' : vs 4 = _ := e
      rw [e']
      clear e e'
      simp only [Act.put, List.setIfInBounds_toArray, List.set_cons_succ, List.set_cons_zero]
      refine ⟨.inl ⟨rfl, fun dd w' hd hnx hw hC => ?_⟩, fun e => ?_⟩
      · go_simp
        first | exact ⟨rfl, hC⟩ | exact hC
      have e' : vs 5 = _ := e
      rw [e']
      clear e e'
      simp only [Act.put, List.setIfInBounds_toArray, List.set_cons_succ, List.set_cons_zero]
      intro dd w7 hall hC
      have CN := hid (CP.out.put hC.b wr.heap.size F (Nat.le_refl _) (hC.m1 (hall 4 (by omega))) (by rw [HDK.out]; exact HF.out) (by rw [HDK.out]; exact hgo))
      have bm := (CP.out.below hC.b).mr
      have qk : w7.cell? ⟨gm, k, none⟩ = some (Value.map none) := by
        rw [bm.cell]
        have hdk := HDK.out
        rw [List.getElem?_toArray, List.getElem?_append_right (by rw [List.length_map]; omega), List.length_map, List.getElem?_replicate, if_pos (by omega)]
      have fk := bm.frozen k
      rw [HDK.out] at CN
      clear hC hall bm CP hFm
      go_wp2_with fail
      go_roundw
      case rel => exact ⟨k + 1, ds ++ [wr.heap.size], by go_num, by rw [List.length_append, HDK.out]; rfl, by omega, CN⟩
      case measure => simp [intOf] <;> omega
    · have hke : k = marks.length := by omega
      subst hke
      have t1 : ¬ marks.length < marks.length := by omega
      have hfin := hid (CP.out.full hdk hn.out hN)
      have hnew := hid CP.out.new
      have hb := hid CP.out.b
      have hown := hid CP.out.lg.own
      clear CP HH hgo hk
      go_wp2_with fail
      go_ret
      refine ⟨g2, _, _, _, _, _, rfl, hfin.out, fun b hbm => ?_, hb.out⟩
      obtain ⟨n1, n2, n3, n4, n5⟩ := hnew.out
      rcases hbm with (rfl | rfl | rfl | e | e) | e
      · exact n1
      · exact n2
      · exact n3
      · exact (hown.out b e).1
      · cases e; exact n4
      · exact n5 b e
end
end MbO
end Go.Proofs.Yteglhalninlapaa
