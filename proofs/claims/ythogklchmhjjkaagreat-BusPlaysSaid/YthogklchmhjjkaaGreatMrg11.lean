/-
  BusPlays' made, walked.
  BusPlays: whatever members, cell and steps, and whatever goes over the bus.
-/
import Derived.Test.YthogklchmhjjkaaGreatMrg10
set_option linter.unusedVariables false
set_option linter.unusedSimpArgs false
set_option maxRecDepth 100000
namespace Go.Proofs.YthogklchmhjjkaaGreat
open Go.ChangeShapes Go.WideShapes Go.ChangeAt Go.RowKit
attribute [local go_sem] Gives GivesE
theorem OwnX.raise {α : Type} {k : Nat} {en : α → List Value} {E : TypeId} {w : World} {B B' : Nat} {v : Value} {l : List α} (h : OwnX E k en w B v l) (hB : ∀ b, v.ownBlock = some b → B' ≤ b) : OwnX E k en w B' v l :=
  ⟨h.1, h.2.imp id fun ⟨g, cap, cur, hv, _, rest⟩ => ⟨g, cap, cur, hv, hB g (by rw [hv]; rfl), rest⟩⟩
theorem results_tmp5 {fn : Func} {t1 t2 t3 t4 t5 : Tmp} (h : fn.results = #[.tmp t1, .tmp t2, .tmp t3, .tmp t4, .tmp t5]) (tmps : Array Value) (P : Program) (w : World) :
    (results fn tmps).run P w = .ok (.tuple #[tmps.getD t1 undef, tmps.getD t2 undef, tmps.getD t3 undef, tmps.getD t4 undef, tmps.getD t5 undef]) w := by
  simp [results, h]
namespace BuP
open MbP BuM MbM
theorem gE_build' {a : Act} {w : World} {dst : Option Tmp} {ty : TypeId} {pos : String} {after : Array Edge} {gd : Option (Nat × Bool)} {R : Value → World → Prop} {parts : Array (Nat × Operand)} {T : TypeId} {cs : Array Value} (hb : (Instr.build T (parts.map fun (i, x) => (i, a.eval x))).run Tryz.prog w = .ok (.agg cs) w) (hR : R (.agg cs) w) : GivesE Tryz.prog ⟨dst, .build T parts, ty, pos, after, gd⟩ a w R := by
  unfold GivesE
  simp only [execOp, Sem.run_bind, hb, Result.andThen_ok, Sem.run_pure]
  exact hR
theorem built_R (sa kd sm si sn : Int) (sd : Nat → Nat) (pk : List Nat) (x : SlB) : Tryz.prog.built 76 [(0, .int .i64 sa), (1, .int .i64 kd), (2, .int .i64 sm), (3, .int .i64 si), (4, .int .i64 sn), (5, .agg (ar 64 sd)), (6, .slice x.A pk.length x.c)] = some (stL (⟨sa, kd, sm, si, sn, sd, pk⟩, x)).toArray := by kernel_rfl
def lateS (n : Int) : Stp × SlB := (⟨n, 1, 0, 0, 0, fun _ => 0, []⟩, ⟨none, 0⟩)
theorem built_lt (n : Int) : Tryz.prog.built 62 [(0, .int .i64 n), (1, .int .i64 1)] = some (stL (lateS n)).toArray := by kernel_rfl
section
variable {ops : Array Oper} {Q : Exit → Act → World → Prop} {a : Act} {w : World} {rest : List Oper} {dst : Option Tmp} {ty : TypeId} {pos : String} {after : Array Edge} {x : Operand} {n : Int}
theorem wblLt (hx : a.eval x = .int .i64 n) (hk : wpList Tryz.prog ops Q rest (a.put dst (.agg (stL (lateS n)).toArray)) w) : wpList Tryz.prog ops Q (⟨dst, .build 62 #[(0, x), (1, .const (.int .i64 1))], ty, pos, after, none⟩ :: rest) a w := by
  have hr : (Instr.build 62 #[(0, .int .i64 n), (1, .int .i64 1)]).run Tryz.prog w = .ok (.agg (stL (lateS n)).toArray) w := run_build w _ _ _ (built_lt n)
  have hm : (#[(0, x), (1, .const (.int .i64 1))] : Array (Nat × Operand)).map (fun (i, x) => (i, a.eval x)) = #[(0, .int .i64 n), (1, .int .i64 1)] := by
    simp only [List.map_toArray, List.map_cons, List.map_nil, hx]; rfl
  refine wpList_plain rfl fun K hK => ?_
  unfold Oper.wp execOp
  simp only [Sem.run_bind, hm, hr, Result.andThen_ok, Sem.run_pure]
  exact hK _ _ hk
end
theorem undPtR' : Tryz.prog.underlying 49 = some (.slice 74) := Tryz.underlying49
/-- What made tells. -/
def MadeP (W : World) (ls : List Int) (h : ClP.Held) (l : List (Stp × SlB)) (n : Nat) (v : Value) (w' : World) : Prop :=
  v = .tuple #[.pointer none, .slice none 0 0, .pointer none, .pointer none, .int .i64 1] ∨
  (∃ A c k r, (n < 1 ∨ 64 < n) ∧ v = .tuple #[.pointer none, .slice A n c, at' k, at' r, .int .i64 2]) ∨
  ∃ g A c r F E S, (1 ≤ n ∧ n ≤ 64) ∧ v = .tuple #[at' g, .slice A n c, at' F.gc, at' r, .int .i64 0] ∧ Both (RepK 0) W.heap.size w' g F 0 r E (mdB ls h l) ∧ Sli 1 ptL S w' A F.gs n c ∧ ∀ q, S q → ¬ (mutP F q ∨ mutR r E q)
set_option maxHeartbeats 8000000 in
set_option maxRecDepth 100000 in
theorem made13_any {A A2 : Option Addr} {ls : List Int} {l : List (Stp × SlB)} {n c n2 c2 : Nat} {hc : Nat} {hl : Nat → Nat} (W : World) (hA : Sli 1 inL (fun b => b < W.heap.size) W A ls n c) (h2 : Sli 70 stL (fun b => b < W.heap.size) W A2 l n2 c2) (hs : ∀ y ∈ l, StOk W y) (hn : n ≤ 70) (hn2 : n2 ≤ 60) (hp : ∀ y ∈ l, y.1.picks.length ≤ 200) :
    Calls Tryz.prog 6 #[.agg (caR A n c (hc, hl) A2 n2 c2)] W fun e w' => ∃ v, e = .returned v ∧ MadeP W ls (hc, hl) l n v w' ∧ Below W.heap.size W w' := by
  have HA := hid hA
  have H2 := hid h2
  have HS := hid hs
  have HPK := hid hp
  clear hA h2 hs hp
  go_enter Tryz.func6, Tryz.ntmps6
  go_upto_region 3 with fail
  obtain ⟨gC, hgC⟩ : ∃ g, g = W.heap.size := ⟨_, rfl⟩
  obtain ⟨gr, hgr⟩ : ∃ g, g = W.heap.size + 1 := ⟨_, rfl⟩
  rw [← hgr, ← hgC]
  obtain ⟨ca, hca⟩ : ∃ ca, ca = caR A n c (hc, hl) A2 n2 c2 := ⟨_, rfl⟩
  rw [← hca]
  have HCA := hid hca
  generalize hw1 : World.alloc (World.alloc W _) _ = w1
  have b1 : Below W.heap.size W w1 := by rw [← hw1]; exact ((Below.refl _ _).alloc (Nat.le_refl _) _).alloc (by simp) _
  have K1 := hid (show Kd W ls ca gC gr 0 0 0 [] [] (fun _ _ => False) (fun _ _ => False) (.slice none 0 0) (.slice none 0 0) (.slice none 0 0) l w1 from {
    c := {
      low := b1
      cas := by rw [← hw1, hgC]; exact (Blk.new W _ _).alloc _
      clo := by rw [hgC]; exact Nat.le_refl _
      len := rfl
      mem := fun i gi z e => by simp at e
      lo := fun i q hi => absurd hi (Nat.not_lt_zero _)
      nd := fun i j q hi => absurd hi (Nat.not_lt_zero _)
      sep := fun i j q hi => absurd hi (Nat.not_lt_zero _)
      ref := ⟨rfl, fun i gi st e => by simp at e, fun i j gi e => by simp at e, fun i j gi e => by simp at e⟩
      elo := fun q hq => by cases hq }
    bus := by rw [← hw1, hgr]; exact Blk.top rfl (by simp)
    rlo := by rw [hgr]; exact Nat.le_succ _
    o1 := OwnX.nil _ _ _ _ _
    o2 := OwnX.nil _ _ _ _ _
    o3 := OwnX.nil _ _ _ _ _
    elen := rfl
    eap := fun i q hi => absurd hi (Nat.not_lt_zero _) })
  clear hw1 b1 hgr hgC hca
  go_wp2_with fail
  go_loopw [7, 9] (fun v u wr => ∃ (k : Nat) (gs es : List Nat) (Ms Is : Nat → Nat → Prop) (vm : Value), u = .int .i64 k ∧ k ≤ n ∧ Hid (Kd W ls ca gC gr k k 0 gs es Ms Is v vm (.slice none 0 0) l wr)) (fun _ u _ => n - (intOf u).toNat)
  case atStart => exact ⟨0, [], [], _, _, _, rfl, Nat.zero_le _, K1⟩
  case round =>
    obtain ⟨k, gs, es, Ms, Is, vm, rfl, hk, K⟩ := hrel
    clear K1
    by_cases hgo : k < n
    · obtain ⟨z, hz⟩ : ∃ z, ls[k]? = some z := ⟨_, List.getElem?_eq_getElem (by rw [HA.out.len]; exact hgo)⟩
      have SA := HA.out.turn (Turn.of_below K.out.c.low) fun q h1 h2 e => by omega
      obtain ⟨b, o, rfl, _, hbl, hr⟩ := SA.some hz
      have q0 : wr.cell? ⟨gC, 0, none⟩ = some (.slice (some ⟨b, o, none⟩) n c) := by have := K.out.c.cas; rw [HCA.out] at this; exact ca_0 this
      have q1 : wr.cell? ⟨b, o + k, none⟩ = some (.int .i64 z) := by have := hr 0 _ rfl; simpa using this
      obtain ⟨r, hr63, e63⟩ := and63 z
      have HZ := hid hz
      have HN := hid (show nOf z = (r : Int) + 1 by unfold nOf; rw [e63])
      clear hr SA hz
      have t1 : (k : Int) < n := by omega
      go_wp2_with fail
      rw [← HN.out]
      refine (MbP.memB_ok.new (nOf z) (nOf_bd z).1 (by have := (nOf_bd z).2; omega) wr).mono ?_
      rintro e w2 ⟨gm, M, I, rfl, hR, hNew, hB2⟩
      have R2 := hid hR
      have N2 := hid hNew
      have L2 := hid hB2
      have KB := hid (K.out.below hB2)
      clear hR hNew hB2
      unfold MbP.at'
      go_upto_region 9 with (first
        | ((with_reducible apply wlit1 (x := gm) eltPtP undPtP); omega; rfl; rfl)
        | (at_builtin; (with_reducible apply wappXW eltPtP undPtP (B := W.heap.size) (m := [gm]) (S := fun _ => True)); rfl; rfl; exact KB.out.o1.below ((Below.refl _ _).alloc (Nat.le_refl _) _) (Nat.le_refl _); exact sli_lit1 eltPtP gm w2 trivial; (rw [KB.out.c.len]; omega); omega; (have := KB.out.c.low.size; simp; omega); intro v3 w3 o3 g3 wh3))
      have T3 := hid ((Turn.of_new (S := fun b => u7.ownBlock = some b) ((Below.refl w2.heap.size w2).alloc (Nat.le_refl _) (.cells (ptL gm).toArray 63))).trans (Turn.of_grown (S := fun b => u7.ownBlock = some b) g3 fun b e => e) fun b e => .inl e)
      have K3 := hid (K.out.more HZ.out L2.out (by unfold mdOf; exact R2.out) N2.out T3.out o3 (wh3.imp id fun e => ⟨_, e, by simp⟩))
      clear g3 o3 wh3 T3 KB R2 N2 L2 K
      obtain ⟨Am, cm, hvm, _⟩ := K3.out.o2.sli ptL_len
      obtain ⟨nl, hnl⟩ : ∃ x, x = es.length := ⟨_, rfl⟩
      obtain ⟨ge, hge⟩ : ∃ x, x = w3.heap.size := ⟨_, rfl⟩
      rw [← hnl] at hvm
      subst hvm
      have HNL := hid hnl
      have HGE := hid hge
      have NLK := hid (show nl = k by rw [hnl]; exact K3.out.elen)
      have Q5 := hid (show w3.cell? ⟨gr, 0, none⟩ = some (.slice Am nl cm) from K3.out.bus.cell 0)
      have G3 := hid (show (Value.slice Am nl cm).ownBlock ≠ some gr from own_not K3.out.o2 K3.out.bus (by decide))
      have V3 := hid (show (Value.slice Am nl cm).ownBlock ≠ some ge from fun e => by have := (K3.out.o2.own ge e).2; omega)
      have O2 := hid (show OwnX 74 1 ptL w3 0 (.slice Am nl cm) es from K3.out.o2.lower (Nat.zero_le _))
      clear hnl hge
      refine wp_region_c (S := yS [some (.pointer (some ⟨gr, 0, none⟩)), some (.pointer (some ⟨gr, 0, none⟩)), some (.pointer (some ⟨gr, 0, none⟩)), some (.pointer (some ⟨gr, 0, none⟩)), some (.slice Am nl cm), some (.int .i64 (nOf z)), some (.pointer (some ⟨ge, 0, none⟩)), none, none, some (.pointer (some ⟨gr, 0, none⟩)), some (.pointer (some ⟨gr, 0, none⟩))]
        [(7, kSl 1), (8, kSl (nl + 1))]) (C := fun d vs w' => MkC w3 (.slice Am nl cm) es z ge (d 6) (d 7) (d 8) (vs 7) (vs 8) w') 11 (by kernel_rfl) (by kernel_rfl) (by kernel_rfl) _
        (yS_ok _ fun y hy => by simp only [List.mem_cons, List.not_mem_nil, or_false] at hy; rcases hy with rfl | rfl <;> exact kSl_ok _) ⟨Turn.drew _, (fun _ => HGE.out.symm), (fun _ => (Below.refl _ _).drew), (fun e => by cases e), (fun e => by cases e), (fun e => by cases e)⟩ fun vs => ?_
      simp only [List.take_succ_cons, List.take_zero, List.drop_succ_cons, List.drop_zero]
      refine ⟨.inl ⟨rfl, fun dd w' hd hnx hw hC => ?_⟩, fun e => ?_⟩
      · go_simp
        first | exact ⟨rfl, hC⟩ | exact hC
      have e' : vs 0 = _ := e
      rw [e']
      clear e e'
      simp only [Act.put, List.setIfInBounds_toArray, List.set_cons_succ, List.set_cons_zero]
      refine ⟨.inl ⟨rfl, fun dd w' hd hnx hw hC => ?_⟩, fun e => ?_⟩
      · go_simp
        first | exact ⟨rfl, hC⟩ | exact hC
      have e' : vs 1 = _ := e
      rw [e']
      clear e e'
      simp only [Act.put, List.setIfInBounds_toArray, List.set_cons_succ, List.set_cons_zero]
      refine ⟨.inl ⟨rfl, fun dd w' hd hnx hw hC => ?_⟩, fun e => ?_⟩
      · go_simp
        first | exact ⟨rfl, hC⟩ | exact hC
      have e' : vs 2 = _ := e
      rw [e']
      clear e e'
      simp only [Act.put, List.setIfInBounds_toArray, List.set_cons_succ, List.set_cons_zero]
      refine ⟨.inl ⟨rfl, fun dd w' hd hnx hw hC => ?_⟩, fun e => ?_⟩
      · go_simp
        first | exact ⟨rfl, hC⟩ | exact hC
      have e' : vs 3 = _ := e
      rw [e']
      clear e e'
      simp only [Act.put, List.setIfInBounds_toArray, List.set_cons_succ, List.set_cons_zero]
      refine ⟨.inl ⟨rfl, fun dd w' hd hnx hw hC => ?_⟩, fun e => ?_⟩
      · have h1 : w'.cell? ⟨gr, 0, none⟩ = some (.slice Am nl cm) := hC.t.cell (p := ⟨gr, 0, none⟩) Q5.out G3.out
        go_simp
        first | exact ⟨rfl, hC⟩ | exact hC
      have e' : vs 4 = _ := e
      rw [e']
      clear e e'
      simp only [Act.put, List.setIfInBounds_toArray, List.set_cons_succ, List.set_cons_zero]
      refine ⟨.inl ⟨rfl, fun dd w' hd hnx hw hC => ?_⟩, fun e => ?_⟩
      · go_simp
        first | exact ⟨rfl, hC⟩ | exact hC
      have e' : vs 5 = _ := e
      rw [e']
      clear e e'
      simp only [Act.put, List.setIfInBounds_toArray, List.set_cons_succ, List.set_cons_zero]
      refine ⟨.inl ⟨rfl, fun dd w' hd hnx hw hC => ?_⟩, fun e => ?_⟩
      · have h7 : dd 7 = false := hnx 7 (by kernel_rfl)
        have h8 : dd 8 = false := hnx 8 (by kernel_rfl)
        go_simp
        refine (rs_made (nOf z) w').mono ?_
        rintro e w4 ⟨rfl, hr, hb⟩
        rw [hC.pre hd] at hr
        refine ⟨_, rfl, ?_, ?_⟩
        · rw [hC.pre hd]; rfl
        · exact (show MkC w3 (.slice Am nl cm) es z ge true (dd 7) (dd 8) (vs 7) (vs 8) w4 from
            ⟨hC.t.trans (Turn.of_new (S := fun _ => False) hb) (fun _ e => e.elim), (fun e => by cases e), (fun _ => (hC.b h8).trans (hb.mono (hC.b h8).size)), (fun _ => hr), (fun e => by rw [h7] at e; cases e), (fun e => by rw [h8] at e; cases e)⟩)
      have e' : vs 6 = _ := e
      rw [e']
      clear e e'
      simp only [Act.put, List.setIfInBounds_toArray, List.set_cons_succ, List.set_cons_zero]
      refine ⟨.inl ⟨rfl, fun dd w' hd hnx hw hC => ?_⟩, fun e => ?_⟩
      · have h6 : dd 6 = true := hw 6 (by kernel_rfl)
        have h8 : dd 8 = false := hnx 8 (by kernel_rfl)
        have ha := (Below.refl w'.heap.size w').alloc (Nat.le_refl _) (.cells (ptL ge).toArray 74)
        have hbl := hC.b h8
        exact gE_lit1 (x := ge) eltPtR undPtR' (by omega) rfl rfl ⟨⟨_, _, rfl⟩, (show MkC w3 (.slice Am nl cm) es z ge (dd 6) true (dd 8) _ (vs 8) _ from
          ⟨hC.t.trans (Turn.of_new (S := fun _ => False) ha) (fun _ e => e.elim), (fun e => by rw [h6] at e; cases e), (fun _ => hbl.trans (ha.mono hbl.size)), (fun _ => (hC.mem h6).turn (Turn.of_new (S := fun _ => False) ha) id fun _ e => e.elim), (fun _ _ => ⟨_, _, rfl, sli_lit1 eltPtR ge w' hbl.size⟩), (fun e => by rw [h8] at e; cases e)⟩)⟩
      obtain ⟨A7, c7, e'⟩ : ∃ (A : Option Addr) (c : Nat), vs 7 = .slice A 1 c := e
      rw [e']
      have E7 := hid e'
      clear e'
      simp only [Act.put, List.setIfInBounds_toArray, List.set_cons_succ, List.set_cons_zero]
      refine ⟨.inl ⟨rfl, fun dd w' hd hnx hw hC => ?_⟩, fun e => ?_⟩
      · have h6 : dd 6 = true := hw 6 (by kernel_rfl)
        have h7 : dd 7 = true := hw 7 (by kernel_rfl)
        have hbl := hC.b hd
        obtain ⟨A', c', f, sl⟩ := hC.lit h7 hd
        rw [E7.out] at f
        cases f
        refine gE_appW eltPtR undPtR' (B := 0) (v := .slice Am nl cm) (l := es) (m := [ge]) rfl rfl (O2.out.below hbl (Nat.le_refl _)) sl (by have := HNL.out; have := NLK.out; omega) (by omega) (Nat.zero_le _) fun v' w4 o4 g4 wh => ?_
        obtain ⟨A4, c4, rfl, _⟩ := o4.sli ptL_len
        have tg := Turn.of_grown (S := fun b => (Value.slice Am nl cm).ownBlock = some b) g4 fun b e => e
        refine ⟨⟨A4, c4, by rw [List.length_append, ← HNL.out]; rfl⟩, (show MkC w3 (.slice Am nl cm) es z ge (dd 6) (dd 7) true (vs 7) _ w4 from
          ⟨(Turn.of_new (S := fun b => (Value.slice Am nl cm).ownBlock = some b) hbl).trans tg (fun b e => .inl e), (fun e => by rw [h6] at e; cases e), (fun e => by cases e), (fun _ => (hC.mem h6).turn tg V3.out fun _ e => e.elim), (fun _ e => by cases e), fun _ => ⟨o4, fun b e => by
            have e3 : (Value.slice A4 (es ++ [ge]).length c4).ownBlock = some b := e
            rcases wh with x | x
            · exact .inl (x.symm.trans e3)
            · rw [x] at e3; cases e3; exact .inr hbl.size⟩⟩)⟩
      obtain ⟨A8, c8, e'⟩ : ∃ (A : Option Addr) (c : Nat), vs 8 = .slice A (nl + 1) c := e
      rw [e']
      have E8 := hid e'
      clear e'
      simp only [Act.put, List.setIfInBounds_toArray, List.set_cons_succ, List.set_cons_zero]
      refine ⟨.inl ⟨rfl, fun dd w' hd hnx hw hC => ?_⟩, fun e => ?_⟩
      · go_simp
        first | exact ⟨rfl, hC⟩ | exact hC
      have e' : vs 9 = _ := e
      rw [e']
      clear e e'
      simp only [Act.put, List.setIfInBounds_toArray, List.set_cons_succ, List.set_cons_zero]
      refine ⟨.inl ⟨rfl, fun dd w' hd hnx hw hC => ?_⟩, fun e => ?_⟩
      · go_simp
        first | exact ⟨rfl, hC⟩ | exact hC
      have e' : vs 10 = _ := e
      rw [e']
      clear e e'
      simp only [Act.put, List.setIfInBounds_toArray, List.set_cons_succ, List.set_cons_zero]
      intro dd w4 hall hC
      obtain ⟨o4, wh⟩ := hC.own (hall 8 (by omega))
      rw [E8.out] at o4 wh
      have bb := K3.out.bus.turn hC.t G3.out
      have p4 : w4.cell? ⟨gr, 0, none⟩ = some (.slice Am nl cm) := bb.cell 0
      have fz := bb.frozen 0
      have K4 := hid (K3.out.moreR HZ.out hC.t (hC.mem (hall 6 (by omega))) (by rw [HGE.out]; exact Nat.le_refl _) (o4.raise fun q e => (wh q e).elim (fun x => (K3.out.o2.own q x).1) fun x => Nat.le_trans K3.out.c.low.size x) wh)
      clear hC o4 wh bb hall K3 E7 E8 Q5 G3 V3 O2 HGE
      clear NLK HNL
      go_wp2_with fail
      go_roundw
      case rel => exact ⟨k + 1, _, _, _, _, _, by go_num, by omega, K4⟩
      case measure => simp [intOf] <;> omega
    · have ek : k = n := by omega
      subst ek
      clear hk hgo
      have q0 : wr.cell? ⟨gC, 0, none⟩ = some (.slice A k c) := by have := K.out.c.cas; rw [HCA.out] at this; exact ca_0 this
      have t1 : ¬ (k : Int) < k := by omega
      go_wp2_with fail
      clear q0 t1
      go_loopw [13] (fun u wr => ∃ (j : Nat) (vs : Value), u = .int .i64 j ∧ j ≤ n2 ∧ Hid (Kd W ls ca gC gr k k j gs es Ms Is u7 vm vs l wr)) (fun u _ => n2 - (intOf u).toNat)
      case atStart => exact ⟨0, _, rfl, Nat.zero_le _, K⟩
      case round =>
        clear K
        obtain ⟨j, vs, rfl, hj, K⟩ := hrel
        by_cases hgo : j < n2
        · obtain ⟨y, hy⟩ : ∃ y, l[j]? = some y := ⟨_, List.getElem?_eq_getElem (by rw [H2.out.len]; exact hgo)⟩
          have SA := H2.out.turn (Turn.of_below K.out.c.low) fun q h1 h2 e => by omega
          obtain ⟨b, o, rfl, _, hbl, hr⟩ := SA.some hy
          have q0 : wr.cell? ⟨gC, 34, none⟩ = some (.slice (some ⟨b, o, none⟩) n2 c2) := by have := K.out.c.cas; rw [HCA.out] at this; exact ca_34 this
          have HR := hid hr
          have HYY := hid hy
          have t1 : (j : Int) < n2 := by omega
          clear hr SA hy
          go_upto_region 14 with (first | ((with_reducible apply ldR (cs := (stL y).toArray) (tStP y)); rfl; exact HR.out) | (with_reducible apply alZ' zStP) | ((with_reducible apply stR (tStP y)); rfl; rfl; exact Blk.new _ _ _; exact st_size _ _; exact st_one' _))
          generalize hw2 : World.setRow _ _ _ = w2
          obtain ⟨gT, hgT⟩ : ∃ n, n = wr.heap.size := ⟨_, rfl⟩
          have b2 : Below wr.heap.size wr w2 := by rw [← hw2]; exact below_setRow ((Below.refl _ _).alloc (Nat.le_refl _) _) (Nat.le_refl _) _
          have bb : Blk w2 gT 62 (stL y).toArray := by rw [← hw2, hgT]; exact (Blk.new wr _ _).setRow_same _
          obtain ⟨Av, cv, hvs, _⟩ := K.out.o3.sli stL_len
          obtain ⟨nl, hnl⟩ : ∃ x, x = (l.take j).length := ⟨_, rfl⟩
          rw [← hnl] at hvs
          subst hvs
          have NLJ := hid (show nl ≤ 100 by rw [hnl, List.length_take]; omega)
          have K2 := hid (K.out.below b2)
          have V3 := hid (show (Value.slice Av nl cv).ownBlock ≠ some gT from fun e => by have := (K.out.o3.own gT e).2; omega)
          have G3 := hid (show (Value.slice Av nl cv).ownBlock ≠ some gr from own_not K.out.o3 K.out.bus (by decide))
          have O3 := hid (show OwnX 76 70 stL w2 0 (.slice Av nl cv) (l.take j) from K2.out.o3.lower (Nat.zero_le _))
          have Q5 := hid (show w2.cell? ⟨gr, 2, none⟩ = some (.slice Av nl cv) from K2.out.bus.cell 2)
          have HNL := hid hnl
          rw [← hgT]
          obtain ⟨⟨sa, kd, sm, si, sn, sd, pk⟩, x⟩ := y
          have bw : w2.rangeAt gT 0 (stL (⟨sa, kd, sm, si, sn, sd, pk⟩, x)) := bb.whole
          have qa := hid (show w2.cell? ⟨gT, 0, none⟩ = some (.int .i64 sa) from st_a (o := 0) bw)
          have qk := hid (show w2.cell? ⟨gT, 1, none⟩ = some (.int .i64 kd) from st_k (o := 0) bw)
          have qm := hid (show w2.cell? ⟨gT, 2, none⟩ = some (.int .i64 sm) from st_m (o := 0) bw)
          have qi := hid (show w2.cell? ⟨gT, 3, none⟩ = some (.int .i64 si) from st_i (o := 0) bw)
          have qn := hid (show w2.cell? ⟨gT, 4, none⟩ = some (.int .i64 sn) from st_n (o := 0) bw)
          have qp := hid (show w2.cell? ⟨gT, 69, none⟩ = some (.slice x.A pk.length x.c) from st_p (o := 0) bw)
          have qd := hid (show w2.rangeAt gT 5 (ar 64 sd).toList from st_s (o := 0) (x := (⟨sa, kd, sm, si, sn, sd, pk⟩, x)) bw)
          have TL := hid bb.lt
          clear hw2 b2 bb bw HR hnl hgT q0 t1 K
          refine wp_region_c (S := yS [some (.pointer (some ⟨gr, 0, none⟩)), some (.pointer (some ⟨gr, 0, none⟩)), some (.pointer (some ⟨gr, 0, none⟩)), some (.pointer (some ⟨gr, 2, none⟩)), some (.slice Av nl cv),
            some (.pointer (some ⟨gT, 0, none⟩)), some (.int .i64 sa), some (.pointer (some ⟨gT, 1, none⟩)), some (.int .i64 kd), some (.pointer (some ⟨gT, 2, none⟩)), some (.int .i64 sm), some (.pointer (some ⟨gT, 3, none⟩)), some (.int .i64 si), some (.pointer (some ⟨gT, 4, none⟩)), some (.int .i64 sn), some (.pointer (some ⟨gT, 5, none⟩)), some (.agg (ar 64 sd)), some (.pointer (some ⟨gT, 69, none⟩)), some (.slice x.A pk.length x.c),
            some (.agg (stL (⟨sa, kd, sm, si, sn, sd, pk⟩, x)).toArray), none, none, some (.pointer (some ⟨gr, 0, none⟩)), some (.pointer (some ⟨gr, 2, none⟩))]
            [(20, kSl 1), (21, kSl (nl + 1))]) (C := fun d vs w' => ApC 76 70 stL w2 (.slice Av nl cv) (l.take j) ((⟨sa, kd, sm, si, sn, sd, pk⟩, x) : Stp × SlB) (d 20) (d 21) (vs 20) (vs 21) w') 24 (by kernel_rfl) (by kernel_rfl) (by kernel_rfl) _
            (yS_ok _ fun y hy => by simp only [List.mem_cons, List.not_mem_nil, or_false] at hy; rcases hy with rfl | rfl <;> exact kSl_ok _) ⟨Turn.drew _, fun _ => (Below.refl _ _).drew, (fun e => by cases e), (fun e => by cases e)⟩ fun vs => ?_
          simp only [List.take_succ_cons, List.take_zero, List.drop_succ_cons, List.drop_zero]
          refine ⟨.inl ⟨rfl, fun dd w' hd hnx hw hC => ?_⟩, fun e => ?_⟩
          · go_simp
            first | exact ⟨rfl, hC⟩ | exact hC
          have e' : vs 0 = _ := e
          rw [e']
          clear e e'
          simp only [Act.put, List.setIfInBounds_toArray, List.set_cons_succ, List.set_cons_zero]
          refine ⟨.inl ⟨rfl, fun dd w' hd hnx hw hC => ?_⟩, fun e => ?_⟩
          · go_simp
            first | exact ⟨rfl, hC⟩ | exact hC
          have e' : vs 1 = _ := e
          rw [e']
          clear e e'
          simp only [Act.put, List.setIfInBounds_toArray, List.set_cons_succ, List.set_cons_zero]
          refine ⟨.inl ⟨rfl, fun dd w' hd hnx hw hC => ?_⟩, fun e => ?_⟩
          · go_simp
            first | exact ⟨rfl, hC⟩ | exact hC
          have e' : vs 2 = _ := e
          rw [e']
          clear e e'
          simp only [Act.put, List.setIfInBounds_toArray, List.set_cons_succ, List.set_cons_zero]
          refine ⟨.inl ⟨rfl, fun dd w' hd hnx hw hC => ?_⟩, fun e => ?_⟩
          · go_simp
            first | exact ⟨rfl, hC⟩ | exact hC
          have e' : vs 3 = _ := e
          rw [e']
          clear e e'
          simp only [Act.put, List.setIfInBounds_toArray, List.set_cons_succ, List.set_cons_zero]
          refine ⟨.inl ⟨rfl, fun dd w' hd hnx hw hC => ?_⟩, fun e => ?_⟩
          · have h1 : w'.cell? ⟨gr, 2, none⟩ = some (.slice Av nl cv) := hC.t.cell (p := ⟨gr, 2, none⟩) Q5.out G3.out
            go_simp
            first | exact ⟨rfl, hC⟩ | exact hC
          have e' : vs 4 = _ := e
          rw [e']
          clear e e'
          simp only [Act.put, List.setIfInBounds_toArray, List.set_cons_succ, List.set_cons_zero]
          refine ⟨.inl ⟨rfl, fun dd w' hd hnx hw hC => ?_⟩, fun e => ?_⟩
          · go_simp
            first | exact ⟨rfl, hC⟩ | exact hC
          have e' : vs 5 = _ := e
          rw [e']
          clear e e'
          simp only [Act.put, List.setIfInBounds_toArray, List.set_cons_succ, List.set_cons_zero]
          refine ⟨.inl ⟨rfl, fun dd w' hd hnx hw hC => ?_⟩, fun e => ?_⟩
          · have h1 : w'.cell? ⟨gT, 0, none⟩ = some (.int .i64 sa) := hC.t.cell (p := ⟨gT, 0, none⟩) qa.out V3.out
            go_simp
            first | exact ⟨rfl, hC⟩ | exact hC
          have e' : vs 6 = _ := e
          rw [e']
          clear e e'
          simp only [Act.put, List.setIfInBounds_toArray, List.set_cons_succ, List.set_cons_zero]
          refine ⟨.inl ⟨rfl, fun dd w' hd hnx hw hC => ?_⟩, fun e => ?_⟩
          · go_simp
            first | exact ⟨rfl, hC⟩ | exact hC
          have e' : vs 7 = _ := e
          rw [e']
          clear e e'
          simp only [Act.put, List.setIfInBounds_toArray, List.set_cons_succ, List.set_cons_zero]
          refine ⟨.inl ⟨rfl, fun dd w' hd hnx hw hC => ?_⟩, fun e => ?_⟩
          · have h1 : w'.cell? ⟨gT, 1, none⟩ = some (.int .i64 kd) := hC.t.cell (p := ⟨gT, 1, none⟩) qk.out V3.out
            go_simp
            first | exact ⟨rfl, hC⟩ | exact hC
          have e' : vs 8 = _ := e
          rw [e']
          clear e e'
          simp only [Act.put, List.setIfInBounds_toArray, List.set_cons_succ, List.set_cons_zero]
          refine ⟨.inl ⟨rfl, fun dd w' hd hnx hw hC => ?_⟩, fun e => ?_⟩
          · go_simp
            first | exact ⟨rfl, hC⟩ | exact hC
          have e' : vs 9 = _ := e
          rw [e']
          clear e e'
          simp only [Act.put, List.setIfInBounds_toArray, List.set_cons_succ, List.set_cons_zero]
          refine ⟨.inl ⟨rfl, fun dd w' hd hnx hw hC => ?_⟩, fun e => ?_⟩
          · have h1 : w'.cell? ⟨gT, 2, none⟩ = some (.int .i64 sm) := hC.t.cell (p := ⟨gT, 2, none⟩) qm.out V3.out
            go_simp
            first | exact ⟨rfl, hC⟩ | exact hC
          have e' : vs 10 = _ := e
          rw [e']
          clear e e'
          simp only [Act.put, List.setIfInBounds_toArray, List.set_cons_succ, List.set_cons_zero]
          refine ⟨.inl ⟨rfl, fun dd w' hd hnx hw hC => ?_⟩, fun e => ?_⟩
          · go_simp
            first | exact ⟨rfl, hC⟩ | exact hC
          have e' : vs 11 = _ := e
          rw [e']
          clear e e'
          simp only [Act.put, List.setIfInBounds_toArray, List.set_cons_succ, List.set_cons_zero]
          refine ⟨.inl ⟨rfl, fun dd w' hd hnx hw hC => ?_⟩, fun e => ?_⟩
          · have h1 : w'.cell? ⟨gT, 3, none⟩ = some (.int .i64 si) := hC.t.cell (p := ⟨gT, 3, none⟩) qi.out V3.out
            go_simp
            first | exact ⟨rfl, hC⟩ | exact hC
          have e' : vs 12 = _ := e
          rw [e']
          clear e e'
          simp only [Act.put, List.setIfInBounds_toArray, List.set_cons_succ, List.set_cons_zero]
          refine ⟨.inl ⟨rfl, fun dd w' hd hnx hw hC => ?_⟩, fun e => ?_⟩
          · go_simp
            first | exact ⟨rfl, hC⟩ | exact hC
          have e' : vs 13 = _ := e
          rw [e']
          clear e e'
          simp only [Act.put, List.setIfInBounds_toArray, List.set_cons_succ, List.set_cons_zero]
          refine ⟨.inl ⟨rfl, fun dd w' hd hnx hw hC => ?_⟩, fun e => ?_⟩
          · have h1 : w'.cell? ⟨gT, 4, none⟩ = some (.int .i64 sn) := hC.t.cell (p := ⟨gT, 4, none⟩) qn.out V3.out
            go_simp
            first | exact ⟨rfl, hC⟩ | exact hC
          have e' : vs 14 = _ := e
          rw [e']
          clear e e'
          simp only [Act.put, List.setIfInBounds_toArray, List.set_cons_succ, List.set_cons_zero]
          refine ⟨.inl ⟨rfl, fun dd w' hd hnx hw hC => ?_⟩, fun e => ?_⟩
          · go_simp
            first | exact ⟨rfl, hC⟩ | exact hC
          have e' : vs 15 = _ := e
          rw [e']
          clear e e'
          simp only [Act.put, List.setIfInBounds_toArray, List.set_cons_succ, List.set_cons_zero]
          refine ⟨.inl ⟨rfl, fun dd w' hd hnx hw hC => ?_⟩, fun e => ?_⟩
          · exact gE_ldA tSe rfl (hC.t.range qd.out V3.out) ⟨rfl, hC⟩
          have e' : vs 16 = _ := e
          rw [e']
          clear e e'
          simp only [Act.put, List.setIfInBounds_toArray, List.set_cons_succ, List.set_cons_zero]
          refine ⟨.inl ⟨rfl, fun dd w' hd hnx hw hC => ?_⟩, fun e => ?_⟩
          · go_simp
            first | exact ⟨rfl, hC⟩ | exact hC
          have e' : vs 17 = _ := e
          rw [e']
          clear e e'
          simp only [Act.put, List.setIfInBounds_toArray, List.set_cons_succ, List.set_cons_zero]
          refine ⟨.inl ⟨rfl, fun dd w' hd hnx hw hC => ?_⟩, fun e => ?_⟩
          · have h1 : w'.cell? ⟨gT, 69, none⟩ = some (.slice x.A pk.length x.c) := hC.t.cell (p := ⟨gT, 69, none⟩) qp.out V3.out
            go_simp
            first | exact ⟨rfl, hC⟩ | exact hC
          have e' : vs 18 = _ := e
          rw [e']
          clear e e'
          simp only [Act.put, List.setIfInBounds_toArray, List.set_cons_succ, List.set_cons_zero]
          refine ⟨.inl ⟨rfl, fun dd w' hd hnx hw hC => ?_⟩, fun e => ?_⟩
          · exact gE_build' (by simp only [List.map_toArray, List.map_cons, List.map_nil]; exact run_build w' _ _ _ (built_R sa kd sm si sn sd pk x)) ⟨rfl, hC⟩
          have e' : vs 19 = _ := e
          rw [e']
          clear e e'
          simp only [Act.put, List.setIfInBounds_toArray, List.set_cons_succ, List.set_cons_zero]
          refine ⟨.inl ⟨rfl, fun dd w' hd hnx hw hC => ?_⟩, fun e => ?_⟩
          · have h8 : dd 21 = false := hnx 21 (by kernel_rfl)
            have ha := (Below.refl w'.heap.size w').alloc (Nat.le_refl _) (.cells (stL ((⟨sa, kd, sm, si, sn, sd, pk⟩, x) : Stp × SlB)).toArray 76)
            have hbl := hC.b h8
            exact gE_lit1 (x := ((⟨sa, kd, sm, si, sn, sd, pk⟩, x) : Stp × SlB)) eltStR undStR (by omega) rfl rfl ⟨⟨_, _, rfl⟩, hC.t.trans (Turn.of_new (S := fun _ => False) ha) (fun _ e => e.elim), (fun _ => hbl.trans (ha.mono hbl.size)), (fun _ _ => ⟨_, _, rfl, sli_lit1 eltStR ((⟨sa, kd, sm, si, sn, sd, pk⟩, x) : Stp × SlB) w' hbl.size⟩), fun e => by
              have e' : dd 21 = true := e
              rw [h8] at e'; cases e'⟩
          obtain ⟨A7, c7, e'⟩ : ∃ (A : Option Addr) (c : Nat), vs 20 = .slice A 1 c := e
          rw [e']
          have E7 := hid e'
          clear e'
          simp only [Act.put, List.setIfInBounds_toArray, List.set_cons_succ, List.set_cons_zero]
          refine ⟨.inl ⟨rfl, fun dd w' hd hnx hw hC => ?_⟩, fun e => ?_⟩
          · have h7 : dd 20 = true := hw 20 (by kernel_rfl)
            have hbl := hC.b hd
            obtain ⟨A', c', f, sl⟩ := hC.lit h7 hd
            rw [E7.out] at f
            cases f
            refine gE_appW eltStR undStR (B := 0) (v := .slice Av nl cv) (l := l.take j) (m := [((⟨sa, kd, sm, si, sn, sd, pk⟩, x) : Stp × SlB)]) rfl rfl (O3.out.below hbl (Nat.le_refl _)) sl (by have := HNL.out; have := NLJ.out; omega) (by omega) (Nat.zero_le _) fun v' w4 o4 g4 wh => ?_
            obtain ⟨A4, c4, rfl, _⟩ := o4.sli stL_len
            refine ⟨⟨A4, c4, by rw [List.length_append, ← HNL.out]; rfl⟩, ?_⟩
            exact ⟨(Turn.of_new (S := fun b => (Value.slice Av nl cv).ownBlock = some b) hbl).trans (Turn.of_grown (S := fun b => (Value.slice Av nl cv).ownBlock = some b) g4 fun b e => e) (fun b e => .inl e), (fun e => by cases e), (fun _ e => by cases e), fun _ => ⟨o4, fun b e => by
              have e3 : (Value.slice A4 (l.take j ++ [((⟨sa, kd, sm, si, sn, sd, pk⟩, x) : Stp × SlB)]).length c4).ownBlock = some b := e
              rcases wh with x | x
              · exact .inl (x.symm.trans e3)
              · rw [x] at e3; cases e3; exact .inr hbl.size⟩⟩
          obtain ⟨A8, c8, e'⟩ : ∃ (A : Option Addr) (c : Nat), vs 21 = .slice A (nl + 1) c := e
          rw [e']
          have E8 := hid e'
          clear e'
          simp only [Act.put, List.setIfInBounds_toArray, List.set_cons_succ, List.set_cons_zero]
          refine ⟨.inl ⟨rfl, fun dd w' hd hnx hw hC => ?_⟩, fun e => ?_⟩
          · go_simp
            first | exact ⟨rfl, hC⟩ | exact hC
          have e' : vs 22 = _ := e
          rw [e']
          clear e e'
          simp only [Act.put, List.setIfInBounds_toArray, List.set_cons_succ, List.set_cons_zero]
          refine ⟨.inl ⟨rfl, fun dd w' hd hnx hw hC => ?_⟩, fun e => ?_⟩
          · go_simp
            first | exact ⟨rfl, hC⟩ | exact hC
          have e' : vs 23 = _ := e
          rw [e']
          clear e e'
          simp only [Act.put, List.setIfInBounds_toArray, List.set_cons_succ, List.set_cons_zero]
          intro dd w4 hall hC
          obtain ⟨o4, wh⟩ := hC.own (hall 21 (by omega))
          rw [E8.out] at o4 wh
          have bb := K2.out.bus.turn hC.t G3.out
          have p4 : w4.cell? ⟨gr, 2, none⟩ = some (.slice Av nl cv) := bb.cell 2
          have fz := bb.frozen 2
          have K4 := hid (K2.out.moreS HYY.out hC.t (o4.raise fun q e => (wh q e).elim (fun x => (K2.out.o3.own q x).1) fun x => Nat.le_trans K2.out.c.low.size x) wh)
          clear hC o4 wh bb hall K2 E7 E8 Q5 G3 V3 O3 qa qk qm qi qn qp qd TL HNL NLJ
          go_wp2_with fail
          go_roundw
          case rel => exact ⟨j + 1, _, by go_num, by omega, K4⟩
          case measure => simp [intOf] <;> omega
        · have ej : j = n2 := by omega
          subst ej
          clear hj hgo
          have q0 : wr.cell? ⟨gC, 34, none⟩ = some (.slice A2 j c2) := by have := K.out.c.cas; rw [HCA.out] at this; exact ca_34 this
          have t1 : ¬ (j : Int) < j := by omega
          have CR := hid (show wr.rangeAt gC 1 (ClP.ceL (hc, hl)) by have := K.out.c.cas; rw [HCA.out] at this; exact ca_c this)
          go_wp2_with ((with_reducible apply ldR (cs := (ClP.ceL (hc, hl)).toArray) (ClP.tCe (hc, hl))); rfl; exact CR.out)
          clear q0 t1
          by_cases hmx : hc ≤ ClP.most
          · obtain ⟨Am, cm, hvm, _⟩ := K.out.o2.sli ptL_len
            rw [K.out.elen] at hvm
            subst hvm
            obtain ⟨As, cs, hvs, _⟩ := K.out.o3.sli stL_len
            obtain ⟨Av, cv, hv, sv0⟩ := K.out.o1.sli ptL_len
            rw [K.out.c.len] at hv sv0
            have hlt : l.take j = l := List.take_of_length_le (by rw [H2.out.len]; exact Nat.le_refl _)
            rw [hlt, H2.out.len] at hvs
            subst hvs hv
            refine (cb_new hc hl hmx wr).mono ?_
            rintro e w2 ⟨gk, Mc, rfl, rC2, c2', h2⟩
            have K2 := hid (K.out.below h2)
            have RC2 := hid rC2
            have C2 := hid c2'
            have S2 := hid h2.size
            have CR2 := hid (show w2.rangeAt gC 1 (ClP.ceL (hc, hl)) by have := K2.out.c.cas; rw [HCA.out] at this; exact ca_c this)
            clear rC2 c2' h2 CR
            unfold MbP.at'
            go_wp2_with ((with_reducible apply ldR (cs := (ClP.ceL (hc, hl)).toArray) (ClP.tCe (hc, hl))); rfl; exact CR2.out)
            refine (ClP.rnew_any hc hl hmx w2).mono ?_
            rintro e w3 ⟨gq, rfl, vc, rq3, q3, h3⟩
            have K3 := hid (K2.out.below h3)
            have RQ3 := hid rq3
            have Q3 := hid q3
            have RC3 := hid (cb_turn RC2.out (Turn.of_new (S := fun _ => False) h3) fun _ _ e => e)
            have CL2 := hid (cb_lt RC2.out)
            have S3 := hid h3.size
            have p1 : w3.cell? ⟨gr, 1, none⟩ = some (.pointer none) := K3.out.bus.cell 1
            have fz := K3.out.bus.frozen 1
            clear rq3 q3 h3 CR2 RC2 K2
            unfold ClP.ptr'
            go_upto_region 20 with fail
            generalize hw4 : World.setCell w3 _ _ = w4
            have t4 : Turn (fun q => q = gr) w3 w4 := by rw [← hw4]; exact Turn.setCell (S := fun q => q = gr) w3 ⟨gr, 1, none⟩ _ rfl
            have L1 := hid (show ∀ i q, i < k → Ms i q ∨ Is i q → q < wr.heap.size from fun i q hi e => (K.out.c.lo i q hi e).2)
            have L2 := hid (show ∀ q ∈ es, q < wr.heap.size from K.out.c.ref.lt.1)
            have L3 := hid K.out.bus.lt
            have L4 := hid (show ∀ q, (Value.slice Am k cm).ownBlock = some q → q < wr.heap.size from fun q e => (K.out.o2.own q e).2)
            have L5 := hid (show ∀ q, (Value.slice As j cs).ownBlock = some q → q < wr.heap.size from fun q e => (K.out.o3.own q e).2)
            have L6 := hid K.out.c.cas.lt
            have LV := hid (show ∀ q, (Value.slice Av k cv).ownBlock = some q → q < wr.heap.size from fun q e => (K.out.o1.own q e).2)
            have LW := hid K.out.c.low.size
            have RLO := hid K.out.rlo
            have EAP := hid K.out.eap
            have K4 := hid (K3.out.c.turn t4 (fun q e => by rw [e]; exact K3.out.rlo) (fun e => K3.out.bus.neT K3.out.c.cas (by decide) e.symm) (fun q hq e => K3.out.gr_es (e ▸ hq)) fun i q hi e e2 => (K3.out.eap i q hi e).2.1 e2)
            have bb4 := hid (show Blk w4 gr 54 (buR Am k cm gq As j cs false (.slice none 0 0)) by rw [← hw4]; exact K3.out.bus.setCell_same 1 _)
            have o14 := hid (K3.out.o1.turn t4 fun q e e2 => own_not K3.out.o1 K3.out.bus (by decide) (e2 ▸ e))
            have o24 := hid (K3.out.o2.turn t4 fun q e e2 => own_not K3.out.o2 K3.out.bus (by decide) (e2 ▸ e))
            have o34 := hid (K3.out.o3.turn t4 fun q e e2 => own_not K3.out.o3 K3.out.bus (by decide) (e2 ▸ e))
            have rC4 := hid (cb_turn RC3.out t4 fun q e e2 => by have := C2.out q e; have := L3.out; omega)
            have rq4 := hid (RQ3.out.turn t4 (fun e => by have := Q3.out gq (.inl rfl); have := L3.out; have := S2.out; omega) fun q e e2 => by have := Q3.out q (.inr e); have := L3.out; have := S2.out; omega)
            have C14 := hid (show ∀ q, Mc q → wr.heap.size ≤ q ∧ q < w2.heap.size from fun q e => ⟨C2.out q e, CL2.out q e⟩)
            have S4 := hid (show w3.heap.size ≤ w4.heap.size from t4.size)
            have q34 : ∀ o, (World.alloc w4 o).cell? ⟨gC, 34, none⟩ = some (.slice A2 j c2) := fun o => by have := K4.out.cas; rw [HCA.out] at this; exact ca_34 (this.alloc o)
            have SA4 := hid (H2.out.turn (Turn.of_below K4.out.low) fun q h1 h2 e => by omega)
            rw [hlt] at o34
            have hll : l.length = j := H2.out.len
            clear hw4 t4 K3 RQ3 RC3 K p1 fz C2 CL2 hlt
            go_wp2_with (at_builtin; (with_reducible apply wappX eltStP undStP (B := w4.heap.size)); rfl; rfl; exact OwnX.empty (Nat.le_refl _); exact SA4.out.turn (Turn.alloc (S := fun _ => False) w4 _) (fun _ _ _ e => e); (simp; omega); omega; (simp); intro v5 w5 o5 g5)
            rw [List.nil_append] at o5
            have b5 := hid (show Below w4.heap.size w4 w5 from ((Below.refl _ _).alloc (Nat.le_refl _) _).trans ((Turn.of_grown (S := fun b => w4.heap.size ≤ b) g5 fun b e => by cases e; simp).below (by simp) fun _ h => h))
            have O5 := hid o5
            obtain ⟨Ast, cst, hv5, sst⟩ := o5.sli stL_len
            rw [hll] at hv5 sst
            subst hv5
            have K5 := hid (K4.out.below b5.out)
            have o15 := hid (o14.out.below b5.out (Nat.le_refl _))
            have o25 := hid (o24.out.below b5.out (Nat.le_refl _))
            have o35 := hid (o34.out.below b5.out (Nat.le_refl _))
            have rC5 := hid (cb_turn rC4.out (Turn.of_new (S := fun _ => False) b5.out) fun _ _ e => e)
            have rq5 := hid (rq4.out.below b5.out)
            have bb5 := hid (bb4.out.below b5.out bb4.out.lt)
            have S5 := hid b5.out.size
            have sv5 := hid (show Sli 1 ptL (fun b => (Value.slice Av k cv).ownBlock = some b) w5 Av gs k cv by
              obtain ⟨A', c', e, s⟩ := o15.out.sli ptL_len
              rw [K5.out.len] at e s
              cases e
              exact sli_own s)
            have SST := hid (sli_own sst)
            have HB5 := hid (show ∀ b o, Ast = some ⟨b, o, none⟩ → o = 0 ∧ b < w5.heap.size ∧ ∃ cur, w5.heap[b]? = some (.cells cur 62 (0, 0)) ∧ cur.size = cst * 70 by
              intro b o e
              subst e
              rcases O5.out.2 with ⟨h1, _⟩ | ⟨g, c', cur, h1, _, h3, _, _, h6, _⟩
              · cases h1
              · cases h1
                have hb : b < w5.heap.size := (O5.out.own b rfl).2
                exact ⟨rfl, hb, cur, h3, h6⟩)
            have C15 := hid (show ∀ q, (Value.slice Ast j cst).ownBlock = some q → w4.heap.size ≤ q ∧ q < w5.heap.size from fun q e => O5.out.own q e)
            have hlsn : ls.length = k := HA.out.len
            have GQ := hid (show w2.heap.size ≤ gq ∧ gq < w4.heap.size from ⟨Q3.out gq (.inl rfl), rq4.out.blk.lt⟩)
            have VC := hid (show ∀ q, vc.ownBlock = some q → w2.heap.size ≤ q ∧ q < w4.heap.size from fun q e => ⟨Q3.out q (.inr e), (rq4.out.lg.own q e).2⟩)
            clear o5 g5 sst K4 bb4 o14 o24 o34 rC4 rq4 SA4 sv0 q34 Q3 b5
            refine (new13 K5.out hlsn hn hll hn2 HS.out sv5.out rC5.out SST.out).mono ?_
            rintro e w6 ⟨v1, er, rfl, hN, h6⟩
            have NN := hid hN
            have B6 := hid h6
            have HB6 := hid (show ∀ b o, Ast = some ⟨b, o, none⟩ → o = 0 ∧ ∃ cur, w6.heap[b]? = some (.cells cur 62 (0, 0)) ∧ cur.size = cst * 70 from fun b o e => by
              obtain ⟨e1, e2, cur, e3, e4⟩ := HB5.out b o e
              exact ⟨e1, cur, (h6.block b e2).trans e3, e4⟩)
            clear hN h6 HB5
            go_wp2_with fail
            go_loopw [22] (fun u w7 => ∃ i : Nat, u = .int .i64 i ∧ i ≤ j ∧ Hid (Turn (fun q => (Value.slice Ast j cst).ownBlock = some q) w6 w7) ∧ Hid (∀ b o, Ast = some ⟨b, o, none⟩ → o = 0 ∧ ∃ cur, w7.heap[b]? = some (.cells cur 62 (0, 0)) ∧ cur.size = cst * 70)) (fun u _ => j - (intOf u).toNat)
            case atStart => exact ⟨0, rfl, Nat.zero_le _, hid (Turn.of_new (S := fun _ => False) (Below.refl _ _) |>.mono fun _ e => e.elim), HB6⟩
            case round =>
              clear HB6
              obtain ⟨i, rfl, hi, HT, HB⟩ := hrel
              by_cases hgo : i < j
              · have t1 : (i : Int) < j := by omega
                obtain ⟨y, hy⟩ : ∃ y, l[i]? = some y := ⟨_, List.getElem?_eq_getElem (by rw [hll]; exact hgo)⟩
                obtain ⟨b, o, rfl, _, _, _⟩ := SST.out.some hy
                obtain ⟨e0, cur, e3, e4⟩ := HB.out b o rfl
                subst e0
                have hcap := SST.out.cap
                have TH := hid (show wr.there b (i * 70) (stL (lateS i)).toArray.size from there_of e3 (by rw [List.size_toArray, stL_len, e4]; have := Nat.mul_le_mul_right 70 (show i + 1 ≤ cst by omega); omega))
                clear e3 e4 hy hcap
                go_wp2_with (first | ((with_reducible apply wblLt (n := (i : Int))); rfl) | ((with_reducible apply stRM (cs := (stL (lateS i)).toArray) (tStP (lateS i))); rfl; rfl; exact TH.out; exact st_one' _))
                have ct := cells_setCells (g := b) (stL (lateS i)).toArray.toList (i * 70) wr (by obtain ⟨_, cur, e3, e4⟩ := HB.out b 0 rfl; exact ⟨cur, e3, e4⟩)
                have tt := turn_setCells (g := b) (stL (lateS i)).toArray.toList (i * 70) wr
                have HT2 := hid (HT.out.trans (tt.mono (T := fun q => (Value.slice (some ⟨b, 0, none⟩) j cst).ownBlock = some q) fun q e => by rw [e]; rfl) fun q e => .inl e)
                generalize World.setCells wr _ _ _ = w8 at ct tt HT2 ⊢
                have HB2 := hid (show ∀ b' o', (some (⟨b, 0, none⟩ : Addr)) = some ⟨b', o', none⟩ → o' = 0 ∧ ∃ cur, w8.heap[b']? = some (.cells cur 62 (0, 0)) ∧ cur.size = cst * 70 from fun b' o' e => by
                  cases e
                  exact ⟨rfl, ct⟩)
                clear ct tt HT HB TH
                go_wp2_with fail
                go_roundw
                case rel => exact ⟨i + 1, by go_num, by omega, HT2, HB2⟩
                case measure => simp [intOf] <;> omega
              · have ei : i = j := by omega
                subst ei
                have t1 : ¬ (i : Int) < i := by omega
                go_wp2_with fail
                refine bodyPost_ret (results_tmp5 rfl _ _ _) rfl ?_
                have B7 := (K5.out.low.trans (B6.out.mono K5.out.low.size)).trans (HT.out.below (by have := K5.out.low.size; have := B6.out.size; omega) fun q e => by have := C15.out q e; have := LW.out; have := S2.out; have := S3.out; have := S4.out; omega)
                refine ⟨_, rfl, ?_, B7⟩
                rcases NN.out with ⟨e1, e2, e3⟩ | ⟨g, Mo, Io, e1, e2, e3, n1, n2, n3, n4⟩
                · exact .inr (.inl ⟨Av, cv, gk, gr, e1, by rw [e2, e3]; rfl⟩)
                · have HBth := made_both (a := _) K5.out hlsn e1.2 hll hn2 HS.out HPK.out hmx bb5.out o25.out o35.out (fun i q hi e => ⟨(EAP.out i q hi e).1, (EAP.out i q hi e).2.1, (EAP.out i q hi e).2.2.2.2.1, (EAP.out i q hi e).2.2.2.2.2⟩) LW.out S2.out (Nat.le_trans S3.out S4.out) S5.out
                    L1.out L2.out L6.out L3.out RLO.out L4.out L5.out rC5.out C14.out rq5.out GQ.out VC.out C15.out n1 n2 n3 n4 B6.out HT.out
                  refine .inr (.inr ⟨g, Av, cv, gr, _, _, fun q => (Value.slice Av k cv).ownBlock = some q, e1, by rw [e2, e3]; rfl, HBth, ?_, fun q e => ?_⟩)
                  · exact (sv5.out.turn (Turn.of_new (S := fun _ => False) B6.out) fun _ _ _ e => e).turn HT.out fun q e _ e2 => by have := C15.out q e2; have := LV.out q e; have := S2.out; have := S3.out; have := S4.out; omega
                  · have hq := LV.out q e
                    have hs2 := S2.out
                    have hs3 := S3.out
                    have hs4 := S4.out
                    have hs5 := S5.out
                    rintro (x | x)
                    · rcases x with x | x | ⟨i, hi, x⟩
                      · have := n2 q x; omega
                      · have := C14.out q x; omega
                      · exact (EAP.out i q (by have := K5.out.len; rw [← this]; exact hi) (.inl x)).2.2.2.1 e
                    · rcases x with x | x | x | x | x
                      · subst x; exact own_not o15.out bb5.out (by decide) e
                      · obtain ⟨cs', hc'⟩ := K5.out.es_obj x
                        exact own_not o15.out hc' (by decide) e
                      · have x' : q = gq := x
                        have := GQ.out; omega
                      · have := VC.out q x; omega
                      · cases x
          · refine (ClP.pnew_bad hc hl (by omega) wr).mono ?_
            rintro e w2 ⟨rfl, h2⟩
            have B2 := hid (K.out.c.low.trans (h2.mono K.out.c.low.size))
            clear h2 K CR
            go_wp2_with fail
            refine bodyPost_ret (results_tmp5 rfl _ _ _) rfl ?_
            exact ⟨_, rfl, .inl rfl, B2.out⟩
end BuP
end Go.Proofs.YthogklchmhjjkaaGreat
set_option maxRecDepth 100000
namespace Go.Proofs.YthogklchmhjjkaaGreat
open Go.ChangeShapes Go.WideShapes Go.ChangeAt Go.RowKit
attribute [local go_sem] Gives GivesE
/-- A pointer. -/
def kPt : Sp := ⟨fun v => ∃ b : Nat, v = .pointer (some ⟨b, 0, none⟩), fun _ _ => True, .pointer (some ⟨0, 0, none⟩)⟩
theorem kPt_ok : kPt.ok := ⟨⟨0, rfl⟩, fun _ _ _ _ _ => trivial⟩
namespace BuP
open MbP BuM MbM
theorem tCa (A : Option Addr) (n c : Nat) (h : ClP.Held) (A2 : Option Addr) (n2 c2 : Nat) : RowT 30 (caR A n c h A2 n2 c2).size := by
  rw [caR_size]
  exact ⟨by kernel_rfl, _, Tryz.underlying30, rfl⟩
theorem ahead_len13 (b : Bs) : (BuM.ahead b).ms.length = b.ms.length := hands_len _ _ _
theorem doK_steps (b : Bs) (a : ActB) (k : Nat) : (doK b a k).steps = b.steps ∧ (doK b a k).ms.length = b.ms.length := by
  have h1 : (BuM.rdT b a.m a.i).steps = b.steps ∧ (BuM.rdT b a.m a.i).ms.length = b.ms.length := ⟨rfl, ahead_len13 b⟩
  have h2 : (BuM.wrT b a.m a.i a.s).steps = b.steps ∧ (BuM.wrT b a.m a.i a.s).ms.length = b.ms.length := by
    unfold BuM.wrT BuM.put BuM.wrM
    split
    · exact ⟨rfl, by show ((BuM.ahead b).ms.set _ _).length = _; rw [List.length_set]; exact ahead_len13 b⟩
    · exact ⟨rfl, ahead_len13 b⟩
  have h3 : (BuM.flT b a.m).steps = b.steps ∧ (BuM.flT b a.m).ms.length = b.ms.length := by
    unfold BuM.flT BuM.put BuM.flM
    split
    · exact ⟨rfl, by show ((BuM.ahead b).ms.set _ _).length = _; rw [List.length_set]; exact ahead_len13 b⟩
    · exact ⟨rfl, ahead_len13 b⟩
  have h4 : (BuM.ceT b).steps = b.steps ∧ (BuM.ceT b).ms.length = b.ms.length := ⟨rfl, ahead_len13 b⟩
  have h5 : (BuM.adT b a.t).steps = b.steps ∧ (BuM.adT b a.t).ms.length = b.ms.length := by
    unfold BuM.adT BuM.put BuM.adM
    split
    · exact ⟨rfl, ahead_len13 b⟩
    · split
      · exact ⟨rfl, ahead_len13 b⟩
      · exact ⟨rfl, ahead_len13 b⟩
  unfold doK
  split
  · exact h2
  · exact h2
  · exact h3
  · exact h4
  · exact h5
  · exact ⟨rfl, rfl⟩
  · exact h1
theorem doB_steps (b : Bs) (a : ActB) : (doB b a).steps = b.steps := (doK_steps b a _).1
theorem doB_len (b : Bs) (a : ActB) : (doB b a).ms.length = b.ms.length := (doK_steps b a _).2
/-- What stands between two acts. -/
structure Pl13 (W : World) (g r gk n c : Nat) (A : Option Addr) (i : Nat) (ns : Nat) (b : Bs) (w : World) : Prop where
  st : ∃ F E S, Both (RepK 0) W.heap.size w g F (62 * i) r E b ∧ F.gc = gk ∧ Sli 1 ptL S w A F.gs n c ∧ ∀ q, S q → ¬ (mutP F q ∨ mutR r E q)
  ns : b.steps.length ≤ ns
  ms : b.ms.length = n
  low : Below W.heap.size W w
theorem Pl13.below {W w w' : World} {g r gk n c i ns : Nat} {A : Option Addr} {b : Bs} (H : Pl13 W g r gk n c A i ns b w) (hb : Below w.heap.size w w') : Pl13 W g r gk n c A i ns b w' := by
  obtain ⟨F, E, S, h1, h2, h3, h4⟩ := H.st
  exact ⟨⟨F, E, S, h1.below bus_ok hb, h2, h3.turn (Turn.of_new (S := fun _ => False) hb) fun _ _ _ e => e, h4⟩, H.ns, H.ms, H.low.trans (hb.mono H.low.size)⟩
theorem Pl13.act {W w w2 : World} {g r gk n c i : Nat} {A : Option Addr} {b : Bs} {F : Fq} {E : Fp} {S : Nat → Prop} (a : ActB) (hB : Both (RepK 0) W.heap.size w g F (62 * i) r E b) (hg : F.gc = gk) (hl : Sli 1 ptL S w A F.gs n c) (hS : ∀ q, S q → ¬ (mutP F q ∨ mutR r E q))
    (hns : b.steps.length ≤ 60) (hms : b.ms.length = n) (low : Below W.heap.size W w) (ho : outD (RepK 0) W.heap.size w g F r E (62 * i + b.steps.length + 2) (doB b a) w2) : Pl13 W g r gk n c A (i + 1) 60 (doB b a) w2 := by
  obtain ⟨F', E', h1, h2⟩ := ho
  refine ⟨⟨F', E', fun q => S q ∧ q < w.heap.size, h1.mono (by omega), h2.gc.trans hg, ?_, fun q e e2 => ?_⟩, by rw [doB_steps]; exact hns, by rw [doB_len]; exact hms, low.trans (hB.turned h2)⟩
  · rw [h2.gs]
    exact hl.bound.turn h2.t fun q e _ e2 => hS q e.1 e2
  · rcases h2.m q e2 with x | x
    · exact hS q e.1 x
    · omega
theorem en_q0 {w : World} {g : Nat} {t : TypeId} {x : BuM.Ent} (h : Blk w g t (enL x).toArray) : w.cell? ⟨g, 0, none⟩ = some (.int .i64 x.d) := h.whole 0 _ rfl
theorem en_q1 {w : World} {g : Nat} {t : TypeId} {x : BuM.Ent} (h : Blk w g t (enL x).toArray) : w.cell? ⟨g, 1, none⟩ = some (.int .i64 x.m) := h.whole 1 _ rfl
theorem en_q2 {w : World} {g : Nat} {t : TypeId} {x : BuM.Ent} (h : Blk w g t (enL x).toArray) : w.cell? ⟨g, 2, none⟩ = some (.int .i64 x.i) := h.whole 2 _ rfl
theorem built_e0 : Tryz.prog.built 57 [] = some (enL enP0).toArray := by kernel_rfl
section
variable {ops : Array Oper} {Q : Exit → Act → World → Prop} {a : Act} {w : World} {rest : List Oper} {dst : Option Tmp} {ty : TypeId} {pos : String} {after : Array Edge}
theorem wblE0 (hk : wpList Tryz.prog ops Q rest (a.put dst (.agg (enL enP0).toArray)) w) : wpList Tryz.prog ops Q (⟨dst, .build 57 #[], ty, pos, after, none⟩ :: rest) a w := by
  have hr : (Instr.build 57 #[]).run Tryz.prog w = .ok (.agg (enL enP0).toArray) w := run_build w _ _ _ built_e0
  refine wpList_plain rfl fun K hK => ?_
  unfold Oper.wp execOp
  simp only [Sem.run_bind, List.map_toArray, List.map_nil, hr, Result.andThen_ok, Sem.run_pure]
  exact hK _ _ hk
end
/-- What holds in the midst of 'x, y := log[i], r.Log[i]'. -/
structure LgC (w0 : World) (y : BuM.Ent) (d11 d12 d13 : Bool) (v11 v12 : Value) (w' : World) : Prop where
  b : Below w0.heap.size w0 w'
  x : d11 = true → ∃ q, v11 = .pointer (some ⟨q, 0, none⟩) ∧ w0.heap.size ≤ q ∧ Blk w' q 57 (enL (if d13 then y else enP0)).toArray
  z : d12 = true → ∃ q, v12 = .pointer (some ⟨q, 0, none⟩) ∧ w0.heap.size ≤ q ∧ Blk w' q 59 (enL en0).toArray
theorem LgC.x' {w0 w' : World} {y : BuM.Ent} {d12 d13 : Bool} {x : Nat} {v12 : Value} (h : LgC w0 y true d12 d13 (.pointer (some ⟨x, 0, none⟩)) v12 w') : w0.heap.size ≤ x ∧ Blk w' x 57 (enL (if d13 then y else enP0)).toArray := by
  obtain ⟨q, e, a, b⟩ := h.x rfl
  cases e
  exact ⟨a, b⟩
theorem LgC.put {w0 w' : World} {y : BuM.Ent} {d12 d13 : Bool} {x : Nat} {v12 : Value} (h : LgC w0 y true d12 d13 (.pointer (some ⟨x, 0, none⟩)) v12 w') : LgC w0 y true d12 true (.pointer (some ⟨x, 0, none⟩)) v12 (w'.setRow x (enL y).toArray) :=
  ⟨below_setRow h.b h.x'.1 _, fun _ => ⟨x, rfl, h.x'.1, by rw [if_pos rfl]; exact h.x'.2.setRow_same _⟩, fun e => by
    obtain ⟨q, f1, f2, f3⟩ := h.z e
    exact ⟨q, f1, f2, f3.setRow_other (h.x'.2.neT f3 (by decide)) _⟩⟩
set_option maxHeartbeats 8000000 in
set_option maxRecDepth 100000 in
theorem plays13_law {A A2 A3 : Option Addr} {ls : List Int} {l : List (Stp × SlB)} {la : List ActB} {n c n2 c2 n3 c3 : Nat} {hc : Nat} {hl : Nat → Nat} (W : World) (hA : Sli 1 inL (fun b => b < W.heap.size) W A ls n c) (h2 : Sli 70 stL (fun b => b < W.heap.size) W A2 l n2 c2) (hs : ∀ y ∈ l, StOk W y) (h3 : Sli 99 abL (fun b => b < W.heap.size) W A3 la n3 c3) (h4 : ∀ a ∈ la, ∀ j, a.s j < 256) :
    Calls Tryz.prog 3 #[.agg (caR A n c (hc, hl) A2 n2 c2), .slice A3 n3 c3] W fun e w' => e = .returned (.bool true) ∧ Below W.heap.size W w' := by
  have HA := hid hA
  have H2 := hid h2
  have HS := hid hs
  have H3 := hid h3
  have H4 := hid h4
  have hm3 : n3 ≤ maxLen := Nat.le_trans h3.cap h3.max
  have HM3 := hid hm3
  clear hA h2 hs h3 h4 hm3
  go_enter Tryz.func3, Tryz.ntmps3
  go_upto_region 1 with fail
  generalize hw1 : World.alloc W _ = w1
  obtain ⟨gC, hgC⟩ : ∃ g, g = W.heap.size := ⟨_, rfl⟩
  have B1 := hid (show Below W.heap.size W w1 by rw [← hw1]; exact (Below.refl _ _).alloc (Nat.le_refl _) _)
  have C1 := hid (show Blk w1 gC 30 (caR A n c (hc, hl) A2 n2 c2) by rw [← hw1, hgC]; exact Blk.new _ _ _)
  have GC := hid hgC
  rw [← hgC]
  clear hw1 hgC
  have T1 := hid (Turn.of_below B1.out)
  have A1 := hid (HA.out.turn T1.out fun q h1 h2 e => by omega)
  have A21 := hid (H2.out.turn T1.out fun q h1 h2 e => by omega)
  go_wp2_with ((with_reducible apply ldR (cs := caR A n c (hc, hl) A2 n2 c2) (tCa A n c (hc, hl) A2 n2 c2)); rfl; exact C1.out.whole)
  refine (large_any (ls := ls) (l := l) (la := la) w1 (A1.out.mono fun q e => Nat.lt_of_lt_of_le e B1.out.size) (A21.out.mono fun q e => Nat.lt_of_lt_of_le e B1.out.size) HM3.out).mono ?_
  rintro e w2 ⟨v, rfl, hv, h2⟩
  have B2 := hid (B1.out.trans (h2.mono B1.out.size))
  have C2 := hid (C1.out.below h2 C1.out.lt)
  clear h2 A1 A21 T1 B1 C1
  rcases hv with rfl | ⟨rfl, hn, hn2, hn3, hpk⟩
  · go_wp2_with fail
    refine (awake_any bus_ok w2).mono ?_
    rintro e w3 ⟨rfl, h3⟩
    have B3 := hid (B2.out.trans (h3.mono B2.out.size))
    clear h3 B2
    go_wp2_with fail
    go_ret
    exact ⟨rfl, B3.out⟩
  have HPK := hid hpk
  have T2 := hid (Turn.of_below B2.out)
  have A2' := hid (HA.out.turn T2.out fun q h1 h2 e => by omega)
  have A22 := hid (H2.out.turn T2.out fun q h1 h2 e => by omega)
  clear hpk
  go_wp2_with ((with_reducible apply ldR (cs := caR A n c (hc, hl) A2 n2 c2) (tCa A n c (hc, hl) A2 n2 c2)); rfl; exact C2.out.whole)
  refine (made13_any (ls := ls) (l := l) w2 (A2'.out.mono fun q e => Nat.lt_of_lt_of_le e B2.out.size) (A22.out.mono fun q e => Nat.lt_of_lt_of_le e B2.out.size) (fun y hy => ?_) hn hn2 HPK.out).mono ?_
  · have k := HS.out y hy
    exact ⟨k.ok, k.arg.turn T2.out fun q o h1 h2 e => by have := k.old q o h1 h2; omega, k.few, fun q o h1 h2 => Nat.lt_of_lt_of_le (k.old q o h1 h2) B2.out.size⟩
  rintro e w3 ⟨v, rfl, hv, h3⟩
  have B3 := hid (B2.out.trans (h3.mono B2.out.size))
  have C3 := hid (C2.out.below h3 C2.out.lt)
  have L2 := hid B2.out.size
  have B2' := B2
  have H23 := hid h3
  clear h3 A2' A22 T2 B2 C2
  rcases hv with rfl | ⟨Ab, cb, kk, rr, hbad, rfl⟩ | ⟨g, Ab, cb, r, F, E, S, hgood, rfl, hB, hsl, hS⟩
  · go_wp2_with fail
    refine (awake_any bus_ok w3).mono ?_
    rintro e w4 ⟨rfl, h4⟩
    have B4 := hid (B3.out.trans (h4.mono B3.out.size))
    clear h4 B3
    go_wp2_with fail
    go_ret
    exact ⟨rfl, B4.out⟩
  · have q0 := ca_0 C3.out
    unfold MbP.at'
    have hbad' : n = 0 ∨ 64 < n := by omega
    rcases hbad' with h0 | h64
    · have t1 : (n : Int) < 1 := by omega
      go_wp2_with fail
      refine (awake_any bus_ok w3).mono ?_
      rintro e w4 ⟨rfl, h4⟩
      have B4 := hid (B3.out.trans (h4.mono B3.out.size))
      clear h4 B3
      go_wp2_with fail
      go_ret
      exact ⟨rfl, B4.out⟩
    · have t1 : ¬ (n : Int) < 1 := by omega
      have t2 : (64 : Int) < n := by omega
      go_wp2_with fail
      refine (awake_any bus_ok w3).mono ?_
      rintro e w4 ⟨rfl, h4⟩
      have B4 := hid (B3.out.trans (h4.mono B3.out.size))
      clear h4 B3
      go_wp2_with fail
      go_ret
      exact ⟨rfl, B4.out⟩
  · obtain ⟨gk, hgk⟩ : ∃ x, x = F.gc := ⟨_, rfl⟩
    rw [← hgk]
    have hml : (mdB ls (hc, hl) l).ms.length = n := by show (ls.map mdOf).length = n; rw [List.length_map]; exact HA.out.len
    have P3 := hid (show Pl13 w2 g r gk n cb Ab 0 60 (mdB ls (hc, hl) l) w3 from ⟨⟨F, E, S, hB, hgk.symm, hsl, hS⟩, by show (l.map (·.1)).length ≤ 60; rw [List.length_map, H2.out.len]; exact hn2, hml, H23.out⟩)
    obtain ⟨hg1, hg64⟩ := hgood
    have q0 := ca_0 C3.out
    have t1 : ¬ (n : Int) < 1 := by omega
    have t2 : ¬ (64 : Int) < n := by omega
    obtain ⟨bs, hbs⟩ : ∃ x, x = mdB ls (hc, hl) l := ⟨_, rfl⟩
    rw [← hbs] at P3
    have m0 : n3 ≤ 80 := hn3
    clear hB hsl hS hgk hml hbs H23 B3 HA H2 HS HPK HM3
    unfold MbP.at'
    go_wp2_with fail
    clear q0 t1 t2 C3
    go_loopw [10] (fun u wr => ∃ (i : Nat) (b : Bs), u = .int .i64 i ∧ i ≤ n3 ∧ Hid (Pl13 w2 g r gk n cb Ab i 60 b wr)) (fun u _ => n3 - (intOf u).toNat)
    case atStart => exact ⟨0, bs, rfl, Nat.zero_le _, P3⟩
    case round =>
      clear P3
      obtain ⟨i, b, rfl, hi, P⟩ := hrel
      by_cases hgo : i < n3
      · obtain ⟨a, ha⟩ : ∃ a, la[i]? = some a := ⟨_, List.getElem?_eq_getElem (by rw [H3.out.len]; exact hgo)⟩
        have SA := (H3.out.turn (Turn.of_below B2'.out) fun q h1 h2 e => by omega).turn (Turn.of_below P.out.low) fun q h1 h2 e => by have := L2.out; omega
        obtain ⟨bA, oA, rfl, _, hbl, hr⟩ := SA.some ha
        have HR := hid hr
        have A4 := hid (H4.out a (List.mem_of_getElem? ha))
        have t1 : (i : Int) < n3 := by omega
        clear hr SA ha
        obtain ⟨F1, E1, S1, hB1, hg1', hsl1, hS1⟩ := P.out.st
        have HB1 := hid hB1
        have HG1 := hid hg1'
        have HSL1 := hid hsl1
        have HS1 := hid hS1
        have hns := P.out.ns
        clear hB1 hg1' hsl1 hS1
        go_wp2_with ((with_reducible apply ldR (cs := (abL a).toArray) (tAb a)); rfl; exact HR.out)
        refine (do_any bus_ok HB1.out (by omega) a A4.out).mono ?_
        rintro e w4 ⟨rfl, ho⟩
        have P4 := hid (Pl13.act a HB1.out HG1.out HSL1.out HS1.out hns P.out.ms P.out.low ho)
        clear ho P HB1 HG1 HSL1 HS1 HR A4
        obtain ⟨F2, E2, S2, hB2, hg2, hsl2, hS2⟩ := P4.out.st
        have HB2 := hid hB2
        have HG2 := hid hg2
        have HSL2 := hid hsl2
        clear hB2 hsl2 hS2
        go_wp2_with fail
        rw [← HG2.out]
        refine (alike_any bus_ok HB2.out (by omega) HSL2.out).mono ?_
        rintro e w5 ⟨rfl, h5⟩
        have P5 := hid (P4.out.below h5)
        clear h5 P4 HB2 HG2 HSL2
        go_wp2_with fail
        go_roundw
        case rel => exact ⟨i + 1, _, by go_num, by omega, P5⟩
        case measure => simp [intOf] <;> omega
      · have ei : i = n3 := by omega
        subst ei
        have t1 : ¬ (i : Int) < i := by omega
        obtain ⟨wo, hwo⟩ : ∃ x, x = wr := ⟨_, rfl⟩
        subst hwo
        obtain ⟨F1, E1, S1, hB1, hg1', hsl1, hS1⟩ := P.out.st
        have HB1 := hid hB1
        have MS := hid P.out.ms
        have LOW := hid P.out.low
        clear hB1 hg1' hsl1 hS1 P hgo hi
        go_wp2_with fail
        refine (bus_ok.log HB1.out.prog (by omega)).mono ?_
        rintro e w4 ⟨vL, rfl, oL, h4⟩
        obtain ⟨AL, cL, rfl, sL⟩ := oL.sli enL_len
        have B4 := hid (HB1.out.below bus_ok h4)
        have OL := hid oL
        have SL := hid (sli_own sL)
        have LW4 := hid (LOW.out.trans (h4.mono LOW.out.size))
        have S14 := hid h4.size
        obtain ⟨AR, cR, hvl, sR0⟩ := HB1.out.ref.log.sli enL_len
        have LE := hid (show b.log.length ≤ 8000 by have := HB1.out.prog.sz.2.2.2.1; omega)
        have Q4 := hid (show w4.cell? ⟨r, 4, none⟩ = some (.slice AR b.log.length cR) by rw [← hvl]; exact bu_lg B4.out.ref.blk)
        have q4 := Q4.out
        have RL := hid HB1.out.ref.blk.lt
        have VRL := hid (show ∀ q, E1.vl.ownBlock = some q → q < wo.heap.size from fun q e => (HB1.out.ref.log.own q e).2)
        have PL := hid (show ∀ q, mutP F1 q ∨ rdP F1 q → q < wo.heap.size from fun q e => e.elim (HB1.out.prog.mlt q) (HB1.out.prog.ilt q))
        clear oL sL h4 HB1 sR0 t1
        obtain ⟨nl, hnl⟩ : ∃ x, x = b.log.length := ⟨_, rfl⟩
        rw [← hnl] at q4 ⊢
        have HNL := hid hnl
        clear hnl
        go_wp2_with fail
        refine (bus_ok.sectors B4.out.prog (-1)).mono ?_
        rintro e w5 ⟨rfl, h5⟩
        rw [if_neg (show ¬ mem b.ms (-1) = true by unfold mem; simp)]
        have B5 := hid (B4.out.below bus_ok h5)
        have H5 := hid h5
        clear h5 q4
        go_wp2_with fail
        refine (bus_ok.sectors B5.out.prog (n : Int)).mono ?_
        rintro e w6 ⟨rfl, h6⟩
        rw [if_neg (show ¬ mem b.ms (n : Int) = true by unfold mem; rw [MS.out]; simp)]
        have B6 := hid (B5.out.below bus_ok h6)
        have H46 := hid (H5.out.trans (h6.mono H5.out.size))
        have LW6 := hid (LW4.out.trans (H46.out.mono LW4.out.size))
        clear h6 H5 B4 B5 LW4
        have hnl := HNL.out
        have VL6 := hid (show ∀ q, (Value.slice AL nl cL).ownBlock = some q → wo.heap.size ≤ q ∧ q < w4.heap.size from fun q e => OL.out.own q (by rw [← hnl]; exact e))
        have Q6 := hid (show w6.cell? ⟨r, 4, none⟩ = some (.slice AR nl cR) from (H46.out.cell (p := ⟨r, 4, none⟩) (World.block_lt_of_cell? _ _ Q4.out)).trans (by rw [hnl]; exact Q4.out))
        have RB6 := hid B6.out.ref
        have SR6 := hid (show Sli 68 enL (fun q => (Value.slice AR nl cR).ownBlock = some q) w6 AR b.log nl cR by
          obtain ⟨A', c', e, s⟩ := RB6.out.log.sli enL_len
          rw [hvl] at e
          cases e
          rw [hnl]
          exact sli_own s)
        have OL6 := OL.out.below H46.out (Nat.le_refl _)
        have SL6 : Sli 68 enL (fun q => (Value.slice AL nl cL).ownBlock = some q) w6 AL b.log nl cL := by
          have := SL.out.turn (Turn.of_new (S := fun _ => False) H46.out) fun _ _ _ e => e
          rw [← hnl] at this
          exact this
        have HC6 := hid (show ∀ bb oo, AL = some ⟨bb, oo, none⟩ → oo = 0 ∧ ∃ cur, w6.heap[bb]? = some (.cells cur 57 (0, 0)) ∧ cur.size = cL * 68 by
          intro bb oo e
          subst e
          rcases OL6.2 with ⟨h1, _⟩ | ⟨g', c', cur, h1, _, h3, _, _, h6, _⟩
          · cases h1
          · cases h1
            exact ⟨rfl, cur, h3, h6⟩)
        have HR6 := hid (show ∀ q y, 0 ≤ q → b.log[q]? = some y → ∀ bb oo, AL = some ⟨bb, oo, none⟩ → w6.rangeAt bb (q * 68) (enL y) by
          intro q y _ hq bb oo e
          subst e
          have e0 := (HC6.out bb oo rfl).1
          subst e0
          obtain ⟨b', o', e', _, _, hr'⟩ := SL6.some hq
          cases e'
          rw [Nat.zero_add] at hr'
          exact hr')
        have SLS := hid SL6
        have NLB := hid (show nl = b.log.length from hnl)
        have ARL := hid (show ∀ q, (Value.slice AR nl cR).ownBlock = some q → q < wo.heap.size from fun q e => VRL.out q (by rw [hvl, ← hnl]; exact e))
        have nl8 : nl ≤ 8000 := by rw [hnl]; exact LE.out
        clear OL6 SL6 OL SL Q4 VRL hnl
        go_wp2_with fail
        go_loopw [12] (fun u w' => ∃ j : Nat, u = .int .i64 j ∧ j ≤ nl ∧ Hid (Turn (fun q => (Value.slice AL nl cL).ownBlock = some q) w6 w') ∧ Hid (∀ q y, j ≤ q → b.log[q]? = some y → ∀ bb oo, AL = some ⟨bb, oo, none⟩ → w'.rangeAt bb (q * 68) (enL y)) ∧ Hid (∀ bb oo, AL = some ⟨bb, oo, none⟩ → oo = 0 ∧ ∃ cur, w'.heap[bb]? = some (.cells cur 57 (0, 0)) ∧ cur.size = cL * 68)) (fun u _ => nl - (intOf u).toNat)
        case atStart => exact ⟨0, rfl, Nat.zero_le _, hid ((Turn.of_new (S := fun _ => False) (Below.refl _ _)).mono fun _ e => e.elim), HR6, HC6⟩
        case round =>
          clear HR6 HC6
          obtain ⟨j, rfl, hj, HT, HR, HC⟩ := hrel
          by_cases hgo : j < nl
          · obtain ⟨y, hy⟩ : ∃ y, b.log[j]? = some y := ⟨_, List.getElem?_eq_getElem (by rw [← NLB.out]; exact hgo)⟩
            obtain ⟨bb, oo, rfl, _, _, _⟩ := SLS.out.some hy
            obtain ⟨e0, cur, hc1, hc2⟩ := HC.out bb oo rfl
            subst e0
            have RY := hid (HR.out j y (Nat.le_refl _) hy bb 0 rfl)
            have q4 : wr.cell? ⟨r, 4, none⟩ = some (.slice AR nl cR) := HT.out.cell (p := ⟨r, 4, none⟩) Q6.out fun e => by have := (VL6.out r e).1; have := RL.out; omega
            have SR := SR6.out.turn HT.out fun q e _ e2 => by have := (VL6.out q e2).1; have := ARL.out q e; omega
            obtain ⟨bR, oR, rfl, _, hbR, hrR⟩ := SR.some hy
            have RR := hid hrR
            have hcap := SLS.out.cap
            have TH := hid (show wr.there bb (j * 68) (enL (⟨0, 0, 0, fun _ => 0, 0⟩ : BuM.Ent)).toArray.size from there_of hc1 (by rw [List.size_toArray, enL_len, hc2]; have := Nat.mul_le_mul_right 68 (show j + 1 ≤ cL by omega); omega))
            have HCB := hid (show ∃ cur, wr.heap[bb]? = some (.cells cur 57 (0, 0)) ∧ cur.size = cL * 68 from ⟨cur, hc1, hc2⟩)
            have t1 : (j : Int) < nl := by omega
            clear SR hrR hc1 hc2 hy hcap
            go_upto_region 21 with fail
            refine wp_region_c (S := yS [some (.slice (some ⟨bb, 0, none⟩) nl cL), some (.int .i64 (j : Nat)), some (.pointer (some ⟨bb, j * 68, none⟩)), some (.agg (enL y).toArray), some (.pointer (some ⟨r, 0, none⟩)), some (.pointer (some ⟨r, 0, none⟩)), some (.pointer (some ⟨r, 4, none⟩)), some (.slice (some ⟨bR, oR, none⟩) nl cR), some (.int .i64 (j : Nat)), some (.pointer (some ⟨bR, oR + j * 68, none⟩)), some (.agg (enL y).toArray), none, none, some undef]
              [(11, kPt), (12, kPt)]) (C := fun d vs w' => LgC wr y (d 11) (d 12) (d 13) (vs 11) (vs 12) w') 14 (by kernel_rfl) (by kernel_rfl) (by kernel_rfl) _
              (yS_ok _ fun y hy => by simp only [List.mem_cons, List.not_mem_nil, or_false] at hy; rcases hy with rfl | rfl <;> exact kPt_ok) ⟨(Below.refl _ _).drew, (fun e => by cases e), (fun e => by cases e)⟩ fun vs => ?_
            simp only [List.take_succ_cons, List.take_zero, List.drop_succ_cons, List.drop_zero]
            refine ⟨.inl ⟨rfl, fun dd w' hd hnx hw hC => ?_⟩, fun e => ?_⟩
            · go_simp
              first | exact ⟨rfl, hC⟩ | exact hC
            have e' : vs 0 = _ := e
            rw [e']
            clear e e'
            simp only [Act.put, List.setIfInBounds_toArray, List.set_cons_succ, List.set_cons_zero]
            refine ⟨.inl ⟨rfl, fun dd w' hd hnx hw hC => ?_⟩, fun e => ?_⟩
            · go_simp
              first | exact ⟨rfl, hC⟩ | exact hC
            have e' : vs 1 = _ := e
            rw [e']
            clear e e'
            simp only [Act.put, List.setIfInBounds_toArray, List.set_cons_succ, List.set_cons_zero]
            refine ⟨.inl ⟨rfl, fun dd w' hd hnx hw hC => ?_⟩, fun e => ?_⟩
            · go_simp
              first | exact ⟨rfl, hC⟩ | exact hC
            have e' : vs 2 = _ := e
            rw [e']
            clear e e'
            simp only [Act.put, List.setIfInBounds_toArray, List.set_cons_succ, List.set_cons_zero]
            refine ⟨.inl ⟨rfl, fun dd w' hd hnx hw hC => ?_⟩, fun e => ?_⟩
            · exact ClP.gE_ldR (cs := (enL y).toArray) (tEnP y) rfl ((Turn.of_new (S := fun _ => False) hC.b).range RY.out id) ⟨rfl, hC⟩
            have e' : vs 3 = _ := e
            rw [e']
            clear e e'
            simp only [Act.put, List.setIfInBounds_toArray, List.set_cons_succ, List.set_cons_zero]
            refine ⟨.inl ⟨rfl, fun dd w' hd hnx hw hC => ?_⟩, fun e => ?_⟩
            · go_simp
              first | exact ⟨rfl, hC⟩ | exact hC
            have e' : vs 4 = _ := e
            rw [e']
            clear e e'
            simp only [Act.put, List.setIfInBounds_toArray, List.set_cons_succ, List.set_cons_zero]
            refine ⟨.inl ⟨rfl, fun dd w' hd hnx hw hC => ?_⟩, fun e => ?_⟩
            · go_simp
              first | exact ⟨rfl, hC⟩ | exact hC
            have e' : vs 5 = _ := e
            rw [e']
            clear e e'
            simp only [Act.put, List.setIfInBounds_toArray, List.set_cons_succ, List.set_cons_zero]
            refine ⟨.inl ⟨rfl, fun dd w' hd hnx hw hC => ?_⟩, fun e => ?_⟩
            · go_simp
              first | exact ⟨rfl, hC⟩ | exact hC
            have e' : vs 6 = _ := e
            rw [e']
            clear e e'
            simp only [Act.put, List.setIfInBounds_toArray, List.set_cons_succ, List.set_cons_zero]
            refine ⟨.inl ⟨rfl, fun dd w' hd hnx hw hC => ?_⟩, fun e => ?_⟩
            · have h1 : w'.cell? ⟨r, 4, none⟩ = some (.slice (some ⟨bR, oR, none⟩) nl cR) := (Turn.of_new (S := fun _ => False) hC.b).cell (p := ⟨r, 4, none⟩) q4 id
              go_simp
              first | exact ⟨rfl, hC⟩ | exact hC
            have e' : vs 7 = _ := e
            rw [e']
            clear e e'
            simp only [Act.put, List.setIfInBounds_toArray, List.set_cons_succ, List.set_cons_zero]
            refine ⟨.inl ⟨rfl, fun dd w' hd hnx hw hC => ?_⟩, fun e => ?_⟩
            · go_simp
              first | exact ⟨rfl, hC⟩ | exact hC
            have e' : vs 8 = _ := e
            rw [e']
            clear e e'
            simp only [Act.put, List.setIfInBounds_toArray, List.set_cons_succ, List.set_cons_zero]
            refine ⟨.inl ⟨rfl, fun dd w' hd hnx hw hC => ?_⟩, fun e => ?_⟩
            · go_simp
              first | exact ⟨rfl, hC⟩ | exact hC
            have e' : vs 9 = _ := e
            rw [e']
            clear e e'
            simp only [Act.put, List.setIfInBounds_toArray, List.set_cons_succ, List.set_cons_zero]
            refine ⟨.inl ⟨rfl, fun dd w' hd hnx hw hC => ?_⟩, fun e => ?_⟩
            · exact ClP.gE_ldR (cs := (enL y).toArray) (tEn y) rfl ((Turn.of_new (S := fun _ => False) hC.b).range RR.out id) ⟨rfl, hC⟩
            have e' : vs 10 = _ := e
            rw [e']
            clear e e'
            simp only [Act.put, List.setIfInBounds_toArray, List.set_cons_succ, List.set_cons_zero]
            refine ⟨.inl ⟨rfl, fun dd w' hd hnx hw hC => ?_⟩, fun e => ?_⟩
            · have h13 : dd 13 = false := hnx 13 (by kernel_rfl)
              have ha := (Below.refl w'.heap.size w').alloc (Nat.le_refl _) (.cells (enL enP0).toArray 57)
              exact gE_alZ zEnP ⟨⟨_, rfl⟩, (show LgC wr y true (dd 12) (dd 13) _ (vs 12) _ from ⟨hC.b.trans (ha.mono hC.b.size), (fun _ => ⟨_, rfl, hC.b.size, by rw [h13]; exact Blk.new _ _ _⟩), fun e => by
                obtain ⟨q, e1, e2, e3⟩ := hC.z e
                exact ⟨q, e1, e2, e3.alloc _⟩⟩)⟩
            obtain ⟨x11, e'⟩ : ∃ b : Nat, vs 11 = .pointer (some ⟨b, 0, none⟩) := e
            rw [e']
            have E11 := hid e'
            clear e'
            simp only [Act.put, List.setIfInBounds_toArray, List.set_cons_succ, List.set_cons_zero]
            refine ⟨.inl ⟨rfl, fun dd w' hd hnx hw hC => ?_⟩, fun e => ?_⟩
            · have ha := (Below.refl w'.heap.size w').alloc (Nat.le_refl _) (.cells (enL en0).toArray 59)
              exact gE_alZ zEn ⟨⟨_, rfl⟩, (show LgC wr y (dd 11) true (dd 13) (vs 11) _ _ from ⟨hC.b.trans (ha.mono hC.b.size), (fun e => by
                obtain ⟨q, e1, e2, e3⟩ := hC.x e
                exact ⟨q, e1, e2, e3.alloc _⟩), fun _ => ⟨_, rfl, hC.b.size, Blk.new _ _ _⟩⟩)⟩
            obtain ⟨x12, e'⟩ : ∃ b : Nat, vs 12 = .pointer (some ⟨b, 0, none⟩) := e
            rw [e']
            have E12 := hid e'
            clear e'
            simp only [Act.put, List.setIfInBounds_toArray, List.set_cons_succ, List.set_cons_zero]
            refine ⟨.inl ⟨rfl, fun dd w' hd hnx hw hC => ?_⟩, fun e => ?_⟩
            · have h11 : dd 11 = true := hw 11 (by kernel_rfl)
              have hC2 : LgC wr y (dd 11) (dd 12) (dd 13) (vs 11) (vs 12) w' := hC
              have hC3 : LgC wr y true (dd 12) (dd 13) (.pointer (some ⟨x11, 0, none⟩)) (vs 12) w' := E11.out ▸ h11 ▸ hC2
              with_reducible refine gE_stR (cs := (enL y).toArray) (old := (enL (if dd 13 then y else enP0)).toArray) (g := x11) (t := 57) ?_ ?_ ?_ ?_ ?_ ?_ ?_
              · exact tEnP y
              · rfl
              · rfl
              · exact hC3.x'.2
              · exact en_size _ _
              · exact en_one' _
              · refine ⟨rfl, ?_⟩
                show LgC wr y (dd 11) (dd 12) true (vs 11) (vs 12) _
                rw [h11, E11.out]
                exact hC3.put
            have e' : vs 13 = _ := e
            rw [e']
            clear e e'
            simp only [Act.put, List.setIfInBounds_toArray, List.set_cons_succ, List.set_cons_zero]
            intro dd wq hall hC
            obtain ⟨q, e1, XL, BX⟩ := hC.x (hall 11 (by omega))
            rw [E11.out] at e1
            cases e1
            obtain ⟨q, e1, ZL, BZ⟩ := hC.z (hall 12 (by omega))
            rw [E12.out] at e1
            cases e1
            rw [hall 13 (by omega), if_pos rfl] at BX
            have ZZ := hid BZ
            have XX := hid BX
            have QB := hid hC.b
            have XL' := hid XL
            have ZL' := hid ZL
            have XZ := hid (BX.neT BZ (by decide))
            clear hC hall BX BZ XL ZL E11 E12 RR RY q4
            go_upto_region 22 with ((with_reducible apply stR (tEn y)); rfl; rfl; exact ZZ.out; (rw [List.size_toArray, List.size_toArray, enL_len, enL_len]); exact en_one' _)
            generalize hw9 : World.setRow wq _ _ = w9
            have B9 := hid (show Below wr.heap.size wr w9 by rw [← hw9]; exact below_setRow QB.out ZL'.out _)
            have Z9 := hid (show Blk w9 x12 59 (enL y).toArray by rw [← hw9]; exact ZZ.out.setRow_same _)
            have X9 := hid (show Blk w9 x11 57 (enL y).toArray by rw [← hw9]; exact XX.out.setRow_other XZ.out.symm _)
            clear hw9 ZZ XX QB XZ
            refine wp_region_fixed (C := fun w' => Below w9.heap.size w9 w') 33 (Below.refl _ _) ?_
            simp only [List.take_succ_cons, List.take_zero, List.drop_succ_cons, List.drop_zero]
            apply wpK_val
            · rfl
            · intro w' hw'
              go_simp
              first | exact rfl | exact ⟨rfl, hw'⟩
            simp only [Act.put, List.setIfInBounds_toArray, List.set_cons_succ, List.set_cons_zero]
            apply wpK_val
            · rfl
            · intro w' hw'
              have hcell := en_q0 (X9.out.below hw' X9.out.lt)
              go_simp
              first | exact rfl | exact ⟨rfl, hw'⟩
            simp only [Act.put, List.setIfInBounds_toArray, List.set_cons_succ, List.set_cons_zero]
            apply wpK_val
            · rfl
            · intro w' hw'
              go_simp
              first | exact rfl | exact ⟨rfl, hw'⟩
            simp only [Act.put, List.setIfInBounds_toArray, List.set_cons_succ, List.set_cons_zero]
            apply wpK_val
            · rfl
            · intro w' hw'
              have hcell := en_q0 (Z9.out.below hw' Z9.out.lt)
              go_simp
              first | exact rfl | exact ⟨rfl, hw'⟩
            simp only [Act.put, List.setIfInBounds_toArray, List.set_cons_succ, List.set_cons_zero]
            apply wpK_val
            · rfl
            · intro w' hw'
              go_simp
              first | exact rfl | exact ⟨rfl, hw'⟩
            simp only [Act.put, List.setIfInBounds_toArray, List.set_cons_succ, List.set_cons_zero]
            apply wpK_val
            · rfl
            · intro w' hw'
              go_simp
              first | exact rfl | exact ⟨rfl, hw'⟩
            simp only [Act.put, List.setIfInBounds_toArray, List.set_cons_succ, List.set_cons_zero]
            apply wpK_val
            · rfl
            · intro w' hw'
              go_simp
              first | exact rfl | exact ⟨rfl, hw'⟩
            simp only [Act.put, List.setIfInBounds_toArray, List.set_cons_succ, List.set_cons_zero]
            apply wpK_val
            · rfl
            · intro w' hw'
              have hcell := en_q1 (X9.out.below hw' X9.out.lt)
              go_simp
              first | exact rfl | exact ⟨rfl, hw'⟩
            simp only [Act.put, List.setIfInBounds_toArray, List.set_cons_succ, List.set_cons_zero]
            apply wpK_val
            · rfl
            · intro w' hw'
              go_simp
              first | exact rfl | exact ⟨rfl, hw'⟩
            simp only [Act.put, List.setIfInBounds_toArray, List.set_cons_succ, List.set_cons_zero]
            apply wpK_val
            · rfl
            · intro w' hw'
              have hcell := en_q1 (Z9.out.below hw' Z9.out.lt)
              go_simp
              first | exact rfl | exact ⟨rfl, hw'⟩
            simp only [Act.put, List.setIfInBounds_toArray, List.set_cons_succ, List.set_cons_zero]
            apply wpK_val
            · rfl
            · intro w' hw'
              go_simp
              first | exact rfl | exact ⟨rfl, hw'⟩
            simp only [Act.put, List.setIfInBounds_toArray, List.set_cons_succ, List.set_cons_zero]
            apply wpK_val
            · rfl
            · intro w' hw'
              go_simp
              first | exact rfl | exact ⟨rfl, hw'⟩
            simp only [Act.put, List.setIfInBounds_toArray, List.set_cons_succ, List.set_cons_zero]
            apply wpK_val
            · rfl
            · intro w' hw'
              go_simp
              first | exact rfl | exact ⟨rfl, hw'⟩
            simp only [Act.put, List.setIfInBounds_toArray, List.set_cons_succ, List.set_cons_zero]
            apply wpK_val
            · rfl
            · intro w' hw'
              go_simp
              first | exact rfl | exact ⟨rfl, hw'⟩
            simp only [Act.put, List.setIfInBounds_toArray, List.set_cons_succ, List.set_cons_zero]
            apply wpK_val
            · rfl
            · intro w' hw'
              have hcell := en_q2 (X9.out.below hw' X9.out.lt)
              go_simp
              first | exact rfl | exact ⟨rfl, hw'⟩
            simp only [Act.put, List.setIfInBounds_toArray, List.set_cons_succ, List.set_cons_zero]
            apply wpK_val
            · rfl
            · intro w' hw'
              go_simp
              first | exact rfl | exact ⟨rfl, hw'⟩
            simp only [Act.put, List.setIfInBounds_toArray, List.set_cons_succ, List.set_cons_zero]
            apply wpK_val
            · rfl
            · intro w' hw'
              have hcell := en_q2 (Z9.out.below hw' Z9.out.lt)
              go_simp
              first | exact rfl | exact ⟨rfl, hw'⟩
            simp only [Act.put, List.setIfInBounds_toArray, List.set_cons_succ, List.set_cons_zero]
            apply wpK_val
            · rfl
            · intro w' hw'
              go_simp
              first | exact rfl | exact ⟨rfl, hw'⟩
            simp only [Act.put, List.setIfInBounds_toArray, List.set_cons_succ, List.set_cons_zero]
            apply wpK_val
            · rfl
            · intro w' hw'
              go_simp
              first | exact rfl | exact ⟨rfl, hw'⟩
            simp only [Act.put, List.setIfInBounds_toArray, List.set_cons_succ, List.set_cons_zero]
            apply wpK_val
            · rfl
            · intro w' hw'
              go_simp
              first | exact rfl | exact ⟨rfl, hw'⟩
            simp only [Act.put, List.setIfInBounds_toArray, List.set_cons_succ, List.set_cons_zero]
            apply wpK_val
            · rfl
            · intro w' hw'
              go_simp
              first | exact rfl | exact ⟨rfl, hw'⟩
            simp only [Act.put, List.setIfInBounds_toArray, List.set_cons_succ, List.set_cons_zero]
            apply kldA tSe
            · rfl
            · rfl
            · exact fun w' hw' => en_qs (X9.out.below hw' X9.out.lt)
            simp only [Act.put, List.setIfInBounds_toArray, List.set_cons_succ, List.set_cons_zero]
            apply wpK_val
            · rfl
            · intro w' hw'
              go_simp
              first | exact rfl | exact ⟨rfl, hw'⟩
            simp only [Act.put, List.setIfInBounds_toArray, List.set_cons_succ, List.set_cons_zero]
            apply kldA tSe
            · rfl
            · rfl
            · exact fun w' hw' => en_qs (Z9.out.below hw' Z9.out.lt)
            simp only [Act.put, List.setIfInBounds_toArray, List.set_cons_succ, List.set_cons_zero]
            apply kneU false uSe' gSe'
            · rfl
            · rfl
            · rfl
            · exact (by rw [eqA_yes fun _ _ => rfl]; rfl)
            simp only [Act.put, List.setIfInBounds_toArray, List.set_cons_succ, List.set_cons_zero]
            apply wpK_val
            · rfl
            · intro w' hw'
              go_simp
              first | exact rfl | exact ⟨rfl, hw'⟩
            simp only [Act.put, List.setIfInBounds_toArray, List.set_cons_succ, List.set_cons_zero]
            apply wpK_val
            · rfl
            · intro w' hw'
              go_simp
              first | exact rfl | exact ⟨rfl, hw'⟩
            simp only [Act.put, List.setIfInBounds_toArray, List.set_cons_succ, List.set_cons_zero]
            apply wpK_val
            · rfl
            · intro w' hw'
              go_simp
              first | exact rfl | exact ⟨rfl, hw'⟩
            simp only [Act.put, List.setIfInBounds_toArray, List.set_cons_succ, List.set_cons_zero]
            apply wpK_val
            · rfl
            · intro w' hw'
              have hcell := en_qe (X9.out.below hw' X9.out.lt)
              go_simp
              first | exact rfl | exact ⟨rfl, hw'⟩
            simp only [Act.put, List.setIfInBounds_toArray, List.set_cons_succ, List.set_cons_zero]
            apply wpK_val
            · rfl
            · intro w' hw'
              go_simp
              first | exact rfl | exact ⟨rfl, hw'⟩
            simp only [Act.put, List.setIfInBounds_toArray, List.set_cons_succ, List.set_cons_zero]
            apply wpK_val
            · rfl
            · intro w' hw'
              have hcell := en_qe (Z9.out.below hw' Z9.out.lt)
              go_simp
              first | exact rfl | exact ⟨rfl, hw'⟩
            simp only [Act.put, List.setIfInBounds_toArray, List.set_cons_succ, List.set_cons_zero]
            apply wpK_val
            · rfl
            · intro w' hw'
              go_simp
              first | exact rfl | exact ⟨rfl, hw'⟩
            simp only [Act.put, List.setIfInBounds_toArray, List.set_cons_succ, List.set_cons_zero]
            apply wpK_val
            · rfl
            · intro w' hw'
              go_simp
              first | exact rfl | exact ⟨rfl, hw'⟩
            simp only [Act.put, List.setIfInBounds_toArray, List.set_cons_succ, List.set_cons_zero]
            intro w10 hC10
            have B10 := hid (B9.out.trans (hC10.mono B9.out.size))
            clear hC10 X9 Z9 B9
            have HC10 := hid (show ∃ cur, w10.heap[bb]? = some (.cells cur 57 (0, 0)) ∧ cur.size = cL * 68 by
              obtain ⟨cur, h1, h2⟩ := HCB.out
              exact ⟨cur, (B10.out.block bb (Blk.lt h1)).trans h1, h2⟩)
            have hcap := SLS.out.cap
            have TH10 := hid (show w10.there bb (j * 68) (enL enP0).toArray.size by
              obtain ⟨cur, h1, h2⟩ := HC10.out
              exact there_of h1 (by rw [List.size_toArray, enL_len, h2]; have := Nat.mul_le_mul_right 68 (show j + 1 ≤ cL by omega); omega))
            have HC11 := hid (show ∃ cur, (w10.setCells bb (j * 68) (enL enP0).toArray.toList).heap[bb]? = some (.cells cur 57 (0, 0)) ∧ cur.size = cL * 68 from cells_setCells _ _ _ HC10.out)
            have HT11 := hid (show Turn (fun q => (Value.slice (some ⟨bb, 0, none⟩) nl cL).ownBlock = some q) w6 (w10.setCells bb (j * 68) (enL enP0).toArray.toList) from (HT.out.trans (Turn.of_new (S := fun _ => False) B10.out) fun _ e => e.elim).trans (turn_setCells _ _ _) fun q e => .inl (by rw [e]; rfl))
            have HR11 := hid (show ∀ q y, j + 1 ≤ q → b.log[q]? = some y → ∀ b' oo, some (⟨bb, 0, none⟩ : Addr) = some ⟨b', oo, none⟩ → (w10.setCells bb (j * 68) (enL enP0).toArray.toList).rangeAt b' (q * 68) (enL y) by
              intro q y hq hy b' oo e
              cases e
              have h4 := (Turn.of_new (S := fun _ => False) B10.out).range (HR.out q y (by omega) hy bb 0 rfl) id
              refine World.rangeAt_setCells_apart h4 _ _ _ (.inr (.inr ?_))
              show j * 68 + (enL enP0).length ≤ q * 68
              rw [enL_len]
              have := Nat.mul_le_mul_right 68 hq
              omega)
            clear HC10 HCB B10 TH HR HT HC hcap
            go_wp2_with (first | (with_reducible apply wblE0) | ((with_reducible apply stRM (cs := (enL enP0).toArray) (tEnP enP0)); rfl; rfl; exact TH10.out; exact en_one' _))
            go_roundw
            case rel =>
              refine ⟨j + 1, by go_num, by omega, HT11, HR11, hid ?_⟩
              intro b' oo e
              cases e
              exact ⟨rfl, HC11.out⟩
            case measure => simp [intOf] <;> omega
          · have hje : nl = j := by omega
            subst hje
            have t1 : ¬ (nl : Int) < nl := by omega
            have PT := hid (B6.out.prog.turn bus_ok HT.out fun q e x => by have := (VL6.out q x).1; have := PL.out q e; omega)
            have hlw := hid (show W.heap.size ≤ wo.heap.size by have := B2'.out.size; have := LOW.out.size; omega)
            have BT := hid (show Below W.heap.size W wr from (B2'.out.trans (LW6.out.mono B2'.out.size)).trans (HT.out.below (by have := LW6.out.size; have := B2'.out.size; omega) fun q e => by have := (VL6.out q e).1; have := hlw.out; omega))
            have q4 : wr.cell? ⟨r, 4, none⟩ = some (.slice AR nl cR) := HT.out.cell (p := ⟨r, 4, none⟩) Q6.out fun e => by have := (VL6.out r e).1; have := RL.out; omega
            have Q4 := hid q4
            have SR := hid (SR6.out.turn HT.out fun q e _ e2 => by have := (VL6.out q e2).1; have := ARL.out q e; omega)
            clear q4
            go_wp2_with fail
            refine (bus_ok.log PT.out (by omega)).mono ?_
            rintro e w7 ⟨v7, rfl, o7, h7⟩
            obtain ⟨A7, c7, rfl, s7⟩ := o7.sli enL_len
            have B7 := hid (BT.out.trans (h7.mono BT.out.size))
            have S7 := hid s7
            have q7 := hid (show w7.cell? ⟨r, 4, none⟩ = some (.slice AR nl cR) from (Turn.of_new (S := fun _ => False) h7).cell (p := ⟨r, 4, none⟩) Q4.out id)
            rw [← NLB.out]
            have SR7 := hid (SR.out.turn (Turn.of_new (S := fun _ => False) h7) fun _ _ _ e => e)
            clear s7 o7 h7 PT BT Q4 SR
            go_upto_region 26 with fail
            have AWK : ∀ w', Below w7.heap.size w7 w' → Calls Tryz.prog 5 #[] w' fun e w2 => e = .returned (.bool true) ∧ Below w7.heap.size w7 w2 := fun w' hw' => (awake_any bus_ok w').mono fun e w2 h => ⟨h.1, hw'.trans (h.2.mono hw'.size)⟩
            by_cases h0 : nl = 0
            · subst h0
              refine wp_region_tail (C := fun w' => Below w7.heap.size w7 w') 20 (by kernel_rfl) (by kernel_rfl) (by kernel_rfl) (Below.refl _ _).drew ?_
              simp only [List.take_succ_cons, List.take_zero, List.drop_succ_cons, List.drop_zero]
              apply wpK_val
              · rfl
              · intro w' hw'
                go_simp
                first | exact rfl | exact ⟨rfl, hw'⟩
              simp only [Act.put, List.setIfInBounds_toArray, List.set_cons_succ, List.set_cons_zero]
              apply wpK_val
              · rfl
              · intro w' hw'
                go_simp
                first | exact rfl | exact ⟨rfl, hw'⟩
              simp only [Act.put, List.setIfInBounds_toArray, List.set_cons_succ, List.set_cons_zero]
              apply wpK_val
              · rfl
              · intro w' hw'
                go_simp
                first | exact rfl | exact ⟨rfl, hw'⟩
              simp only [Act.put, List.setIfInBounds_toArray, List.set_cons_succ, List.set_cons_zero]
              apply wpK_val
              · rfl
              · intro w' hw'
                go_simp
                first | exact rfl | exact ⟨rfl, hw'⟩
              simp only [Act.put, List.setIfInBounds_toArray, List.set_cons_succ, List.set_cons_zero]
              apply wpK_not
              · rfl
              simp only [Act.put, List.setIfInBounds_toArray, List.set_cons_succ, List.set_cons_zero]
              apply wpK_not
              · rfl
              simp only [Act.put, List.setIfInBounds_toArray, List.set_cons_succ, List.set_cons_zero]
              apply wpK_not
              · rfl
              simp only [Act.put, List.setIfInBounds_toArray, List.set_cons_succ, List.set_cons_zero]
              apply wpK_not
              · rfl
              simp only [Act.put, List.setIfInBounds_toArray, List.set_cons_succ, List.set_cons_zero]
              apply wpK_not
              · rfl
              simp only [Act.put, List.setIfInBounds_toArray, List.set_cons_succ, List.set_cons_zero]
              apply wpK_not
              · rfl
              simp only [Act.put, List.setIfInBounds_toArray, List.set_cons_succ, List.set_cons_zero]
              apply wpK_not
              · rfl
              simp only [Act.put, List.setIfInBounds_toArray, List.set_cons_succ, List.set_cons_zero]
              apply wpK_not
              · rfl
              simp only [Act.put, List.setIfInBounds_toArray, List.set_cons_succ, List.set_cons_zero]
              apply wpK_not
              · rfl
              simp only [Act.put, List.setIfInBounds_toArray, List.set_cons_succ, List.set_cons_zero]
              apply wpK_not
              · rfl
              simp only [Act.put, List.setIfInBounds_toArray, List.set_cons_succ, List.set_cons_zero]
              apply wpK_not
              · rfl
              simp only [Act.put, List.setIfInBounds_toArray, List.set_cons_succ, List.set_cons_zero]
              apply wpK_not
              · rfl
              simp only [Act.put, List.setIfInBounds_toArray, List.set_cons_succ, List.set_cons_zero]
              apply wpK_val
              · rfl
              · intro w' hw'
                go_simp
                first | exact rfl | exact ⟨rfl, hw'⟩
              simp only [Act.put, List.setIfInBounds_toArray, List.set_cons_succ, List.set_cons_zero]
              apply wpK_val
              · rfl
              · intro w' hw'
                go_simp
                first | exact rfl | exact ⟨rfl, hw'⟩
              simp only [Act.put, List.setIfInBounds_toArray, List.set_cons_succ, List.set_cons_zero]
              apply wpK_val
              · rfl
              · intro w' hw'
                go_simp
                exact AWK w' hw'
              simp only [Act.put, List.setIfInBounds_toArray, List.set_cons_succ, List.set_cons_zero]
              apply wpK_val
              · rfl
              · intro w' hw'
                go_simp
                first | exact rfl | exact ⟨rfl, hw'⟩
              simp only [Act.put, List.setIfInBounds_toArray, List.set_cons_succ, List.set_cons_zero]
              intro w8 hC8
              have B8 := hid (B7.out.trans (hC8.mono B7.out.size))
              clear hC8 AWK S7 q7 SR7 B7
              go_wp2_with fail
              go_ret
              exact ⟨rfl, B8.out⟩
            · obtain ⟨y0, hy0⟩ : ∃ y, b.log[0]? = some y := ⟨_, List.getElem?_eq_getElem (by rw [← NLB.out]; omega)⟩
              obtain ⟨b7, o8, rfl, _, _, r7⟩ := S7.out.some hy0
              obtain ⟨bR, oR, rfl, _, _, rR⟩ := SR7.out.some hy0
              have R7 := hid (show w7.rangeAt b7 o8 (enL y0) by rw [Nat.zero_mul, Nat.add_zero] at r7; exact r7)
              have RR7 := hid (show w7.rangeAt bR oR (enL y0) by rw [Nat.zero_mul, Nat.add_zero] at rR; exact rR)
              have u2 : (0 : Int) < nl := by omega
              have u3 : 0 < nl := by omega
              clear r7 rR S7 SR7 hy0
              refine wp_region_tail (C := fun w' => Below w7.heap.size w7 w') 20 (by kernel_rfl) (by kernel_rfl) (by kernel_rfl) (Below.refl _ _).drew ?_
              simp only [List.take_succ_cons, List.take_zero, List.drop_succ_cons, List.drop_zero]
              apply wpK_val
              · rfl
              · intro w' hw'
                go_simp
                first | exact rfl | exact ⟨rfl, hw'⟩
              simp only [Act.put, List.setIfInBounds_toArray, List.set_cons_succ, List.set_cons_zero]
              apply wpK_val
              · rfl
              · intro w' hw'
                go_simp
                first | exact rfl | exact ⟨rfl, hw'⟩
              simp only [Act.put, List.setIfInBounds_toArray, List.set_cons_succ, List.set_cons_zero]
              apply wpK_val
              · rfl
              · intro w' hw'
                have e1 : ((nl : Int) == 0) = false := beq_eq_false_iff_ne.2 (by omega)
                have e2 : decide ((nl : Int) = 0) = false := decide_eq_false (by omega)
                have e3 : (nl == 0) = false := beq_eq_false_iff_ne.2 h0
                have e4 : decide (nl = 0) = false := decide_eq_false h0
                go_simp
                first | exact rfl | exact ⟨rfl, hw'⟩
              simp only [Act.put, List.setIfInBounds_toArray, List.set_cons_succ, List.set_cons_zero]
              apply wpK_val
              · rfl
              · intro w' hw'
                go_simp
                first | exact rfl | exact ⟨rfl, hw'⟩
              simp only [Act.put, List.setIfInBounds_toArray, List.set_cons_succ, List.set_cons_zero]
              apply wpK_val
              · rfl
              · intro w' hw'
                go_simp
                first | exact rfl | exact ⟨rfl, hw'⟩
              simp only [Act.put, List.setIfInBounds_toArray, List.set_cons_succ, List.set_cons_zero]
              apply wpK_val
              · rfl
              · intro w' hw'
                go_simp
                first | exact rfl | exact ⟨rfl, hw'⟩
              simp only [Act.put, List.setIfInBounds_toArray, List.set_cons_succ, List.set_cons_zero]
              apply wpK_val
              · rfl
              · intro w' hw'
                go_simp
                first | exact rfl | exact ⟨rfl, hw'⟩
              simp only [Act.put, List.setIfInBounds_toArray, List.set_cons_succ, List.set_cons_zero]
              apply wpK_val
              · rfl
              · intro w' hw'
                have hcell := en_d ((Turn.of_new (S := fun _ => False) hw').range R7.out id)
                go_simp
                first | exact rfl | exact ⟨rfl, hw'⟩
              simp only [Act.put, List.setIfInBounds_toArray, List.set_cons_succ, List.set_cons_zero]
              apply wpK_val
              · rfl
              · intro w' hw'
                go_simp
                first | exact rfl | exact ⟨rfl, hw'⟩
              simp only [Act.put, List.setIfInBounds_toArray, List.set_cons_succ, List.set_cons_zero]
              apply wpK_val
              · rfl
              · intro w' hw'
                go_simp
                first | exact rfl | exact ⟨rfl, hw'⟩
              simp only [Act.put, List.setIfInBounds_toArray, List.set_cons_succ, List.set_cons_zero]
              apply wpK_val
              · rfl
              · intro w' hw'
                go_simp
                first | exact rfl | exact ⟨rfl, hw'⟩
              simp only [Act.put, List.setIfInBounds_toArray, List.set_cons_succ, List.set_cons_zero]
              apply wpK_val
              · rfl
              · intro w' hw'
                have hcell := (Turn.of_new (S := fun _ => False) hw').cell (p := ⟨r, 4, none⟩) q7.out id
                go_simp
                first | exact rfl | exact ⟨rfl, hw'⟩
              simp only [Act.put, List.setIfInBounds_toArray, List.set_cons_succ, List.set_cons_zero]
              apply wpK_val
              · rfl
              · intro w' hw'
                go_simp
                first | exact rfl | exact ⟨rfl, hw'⟩
              simp only [Act.put, List.setIfInBounds_toArray, List.set_cons_succ, List.set_cons_zero]
              apply wpK_val
              · rfl
              · intro w' hw'
                go_simp
                first | exact rfl | exact ⟨rfl, hw'⟩
              simp only [Act.put, List.setIfInBounds_toArray, List.set_cons_succ, List.set_cons_zero]
              apply wpK_val
              · rfl
              · intro w' hw'
                have hcell := en_d ((Turn.of_new (S := fun _ => False) hw').range RR7.out id)
                go_simp
                first | exact rfl | exact ⟨rfl, hw'⟩
              simp only [Act.put, List.setIfInBounds_toArray, List.set_cons_succ, List.set_cons_zero]
              apply wpK_val
              · rfl
              · intro w' hw'
                go_simp
                first | exact rfl | exact ⟨rfl, hw'⟩
              simp only [Act.put, List.setIfInBounds_toArray, List.set_cons_succ, List.set_cons_zero]
              apply wpK_val
              · rfl
              · intro w' hw'
                go_simp
                first | exact rfl | exact ⟨rfl, hw'⟩
              simp only [Act.put, List.setIfInBounds_toArray, List.set_cons_succ, List.set_cons_zero]
              apply wpK_val
              · rfl
              · intro w' hw'
                go_simp
                first | exact rfl | exact ⟨rfl, hw'⟩
              simp only [Act.put, List.setIfInBounds_toArray, List.set_cons_succ, List.set_cons_zero]
              apply wpK_val
              · rfl
              · intro w' hw'
                go_simp
                exact AWK w' hw'
              simp only [Act.put, List.setIfInBounds_toArray, List.set_cons_succ, List.set_cons_zero]
              apply wpK_val
              · rfl
              · intro w' hw'
                go_simp
                first | exact rfl | exact ⟨rfl, hw'⟩
              simp only [Act.put, List.setIfInBounds_toArray, List.set_cons_succ, List.set_cons_zero]
              intro w8 hC8
              have B8 := hid (B7.out.trans (hC8.mono B7.out.size))
              clear hC8 AWK q7 B7
              go_wp2_with fail
              go_ret
              exact ⟨rfl, B8.out⟩
end BuP
end Go.Proofs.YthogklchmhjjkaaGreat
