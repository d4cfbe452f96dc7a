/-
  Contracts of the document's places (casemateref14.Place, What) over this translation.
  The laws' made, walked.
  What comes in to the laws of chapter 14: a geometry, two ints, an int.
  Which member has which column of a row, and which sector lies where, in plain numbers.
  Where a write lies, in plain numbers; what is done to its members, one behind the other.
  Contracts of place over this translation.
  Rows of bytes: compared, built, returned beside a number.
  The landed mirror: where a write lies.
  What comes in to the laws of chapter 19: a geometry, a write.
  Loops over functions: what a loop may turn; an append to what a box holds.
  A range over a function whose body may turn what it made itself, maps too: the loop's own two blocks alone are kept.
  Lists of ints of the call's own.
  Lists of ints as lists of elements.
  The landed mirror: a write's members gone through by a function; Where.
-/
import Derived.Test.YtklmjdhhnnanoaaGreatDoorMrg9
import Derived.Lib.SmallJoins
import Derived.RangeFuncNested
import Derived.RangeFuncBound
import Derived.RangeFuncCalls
import Derived.RangeFuncLeaves
import Derived.RangeFuncBox
import Derived.Maps.AppendAt
import Derived.Shelf.Abstract
import Derived.Shelf.RegionOpen
import Derived.WalkKit
import Derived.OwnWalkIn
import Derived.TacticsInMore
import Derived.LoopNIn
import Derived.LoopIn
import Derived.Laws.AppendOwn
set_option linter.unusedVariables false
set_option linter.unusedSimpArgs false
set_option maxRecDepth 100000
namespace Go.Proofs.YtklmjdhhnnanoaaGreatDoor
open Go.ChangeShapes Go.WideShapes Go.ChangeAt Go.RowKit
attribute [local go_sem] Gives
namespace GeM
end GeM
end Go.Proofs.YtklmjdhhnnanoaaGreatDoor
set_option maxRecDepth 100000
namespace Go.Proofs.YtklmjdhhnnanoaaGreatDoor
open Go.ChangeShapes Go.WideShapes Go.ChangeAt Go.RowKit
attribute [local go_sem] Gives GivesE
theorem OwnX.raise {α : Type} {k : Nat} {en : α → List Value} {E : TypeId} {w : World} {B B' : Nat} {v : Value} {l : List α} (h : OwnX E k en w B v l) (hB : ∀ b, v.ownBlock = some b → B' ≤ b) : OwnX E k en w B' v l :=
  ⟨h.1, h.2.imp id fun ⟨g, cap, cur, hv, _, rest⟩ => ⟨g, cap, cur, hv, hB g (by rw [hv]; rfl), rest⟩⟩
namespace MiP
open BuP MbP BuM MbM GeM
theorem gE_build' {a : Act} {w : World} {dst : Option Tmp} {ty : TypeId} {pos : String} {after : Array Edge} {gd : Option (Nat × Bool)} {R : Value → World → Prop} {parts : Array (Nat × Operand)} {T : TypeId} {cs : Array Value} (hb : (Instr.build T (parts.map fun (i, x) => (i, a.eval x))).run Tryz.prog w = .ok (.agg cs) w) (hR : R (.agg cs) w) : GivesE Tryz.prog ⟨dst, .build T parts, ty, pos, after, gd⟩ a w R := by
  unfold GivesE
  simp only [execOp, Sem.run_bind, hb, Result.andThen_ok, Sem.run_pure]
  exact hR
theorem built_R (sa kd sm si sn : Int) (sd : Nat → Nat) (pk : List Nat) (x : SlB) : Tryz.prog.built 96 [(0, .int .i64 sa), (1, .int .i64 kd), (2, .int .i64 sm), (3, .int .i64 si), (4, .int .i64 sn), (5, .agg (ar 64 sd)), (6, .slice x.A pk.length x.c)] = some (stL (⟨sa, kd, sm, si, sn, sd, pk⟩, x)).toArray := by kernel_rfl
theorem undPtR' : Tryz.prog.underlying 45 = some (.slice 56) := Tryz.underlying45
theorem run_ce0 (w : World) : (Instr.build 102 #[]).run Tryz.prog w = .ok (.agg (ClP.ceL (0, ClP.zero)).toArray) w := run_build w _ _ _ (by kernel_rfl)
theorem wblCe0 {ops : Array Oper} {Q : Exit → Act → World → Prop} {a : Act} {w : World} {rest : List Oper} {dst : Option Tmp} {ty : TypeId} {pos : String} {after : Array Edge} (hk : wpList Tryz.prog ops Q rest (a.put dst (.agg (ClP.ceL (0, ClP.zero)).toArray)) w) : wpList Tryz.prog ops Q (⟨dst, .build 102 #[], ty, pos, after, none⟩ :: rest) a w := by
  have hm : (#[] : Array (Nat × Operand)).map (fun (i, x) => (i, a.eval x)) = #[] := by simp
  refine wpList_plain rfl fun K hK => ?_
  unfold Oper.wp execOp
  simp only [Sem.run_bind, hm, run_ce0, Result.andThen_ok, Sem.run_pure]
  exact hK _ _ hk
theorem sec_pos {m r : Nat} : 1 ≤ GeM.sec m r := by unfold GeM.sec; show 1 ≤ 8 + 2 * hf m r + nd m r + r; omega
def lsM (m N : Nat) : List Int := List.replicate m (N : Int)
theorem lsM_len (m N : Nat) : (lsM m N).length = m := List.length_replicate
theorem lsM_get {m N k : Nat} (h : k < m) : (lsM m N)[k]? = some (N : Int) := by unfold lsM; rw [List.getElem?_replicate, if_pos h]
theorem lsM_one {m N : Nat} (hN : 1 ≤ N) : ∀ z ∈ lsM m N, 1 ≤ z := fun z hz => by
  rw [List.eq_of_mem_replicate hz]; omega
def MadeP (W : World) (m N : Nat) (l : List (Stp × SlB)) (v : Value) (w' : World) : Prop :=
  ∃ g A c r F E S, v = .tuple #[at' g, .slice A m c, at' r] ∧ Both (RepK 0) W.heap.size w' g F 0 r E (mdB (lsM m N) (0, ClP.zero) l) ∧ Sli 1 ptL S w' A F.gs m c ∧ ∀ q, S q → ¬ (mutP F q ∨ mutR r E q)
set_option maxHeartbeats 8000000 in
set_option maxRecDepth 100000 in
theorem made19_any {A2 : Option Addr} {l : List (Stp × SlB)} {m q n2 c2 : Nat} (W : World) (hg : GeM.Good m q) (h2 : Sli 70 stL (fun b => b < W.heap.size) W A2 l n2 c2) (hs : ∀ y ∈ l, StOk W y) (hn2 : n2 ≤ 60) :
    Calls Tryz.prog 9 #[gv m q, .slice A2 n2 c2] W fun e w' => ∃ v, e = .returned v ∧ MadeP W m (GeM.sec m q) l v w' ∧ Below W.heap.size W w' := by
  have H2 := hid h2
  have HS := hid hs
  have hm64 : m ≤ 64 := by have := hg.2.1; omega
  have hm4 : 4 ≤ m := by have := hg.1; omega
  obtain ⟨N, hN⟩ : ∃ N, N = GeM.sec m q := ⟨_, rfl⟩
  have HNE := hid (show L GeM.sec (m : Int) (q : Int) = N by rw [L_good hg]; exact hN.symm)
  have hN1 : 1 ≤ N := by rw [hN]; exact sec_pos
  have hN2 : N ≤ 65536 := by rw [hN]; exact Nat.le_trans (sec_bd hg) (by omega)
  rw [← hN]
  clear h2 hs hg hN
  go_enter Tryz.func9, Tryz.ntmps9
  go_upto_region 3 with fail
  obtain ⟨gC, hgC⟩ : ∃ g, g = W.heap.size := ⟨_, rfl⟩
  obtain ⟨gr, hgr⟩ : ∃ g, g = W.heap.size + 1 := ⟨_, rfl⟩
  rw [← hgr, ← hgC]
  obtain ⟨ca, hca⟩ : ∃ ca : Array Value, ca = #[.int .i64 (m : Nat), .int .i64 (q : Nat)] := ⟨_, rfl⟩
  rw [← hca]
  have HCA := hid hca
  generalize hw1 : World.alloc (World.alloc W _) _ = w1
  have b1 : Below W.heap.size W w1 := by rw [← hw1]; exact ((Below.refl _ _).alloc (Nat.le_refl _) _).alloc (by simp) _
  have K1 := hid (show Kd W (lsM m N) ca gC gr 0 0 0 [] [] (fun _ _ => False) (fun _ _ => False) (.slice none 0 0) (.slice none 0 0) (.slice none 0 0) l w1 from {
    c := {
      low := b1
      cas := by rw [← hw1, hgC]; exact (Blk.new W _ _).alloc _
      clo := by rw [hgC]; exact Nat.le_refl _
      len := rfl
      mem := fun i gi z e => by simp at e
      lo := fun i q hi => absurd hi (Nat.not_lt_zero _)
      nd := fun i j q hi => absurd hi (Nat.not_lt_zero _)
      sep := fun i j q hi => absurd hi (Nat.not_lt_zero _)
      ref := ⟨rfl, fun i gi st e => by simp at e, fun i j gi e => by simp at e, fun i j gi e => by simp at e⟩
      elo := fun q hq => by cases hq }
    bus := by rw [← hw1, hgr]; exact Blk.top rfl (by simp)
    rlo := by rw [hgr]; exact Nat.le_succ _
    o1 := OwnX.nil _ _ _ _ _
    o2 := OwnX.nil _ _ _ _ _
    o3 := OwnX.nil _ _ _ _ _
    elen := rfl
    eap := fun i q hi => absurd hi (Nat.not_lt_zero _) })
  clear hw1 b1 hgr hgC
  have G1 := hid (show Blk w1 gC 23 #[.int .i64 (m : Nat), .int .i64 (q : Nat)] by rw [← hca]; exact K1.out.c.cas)
  clear hca
  unfold gv
  go_wp2_with ((with_reducible apply ldR (cs := #[Value.int .i64 (m : Nat), .int .i64 (q : Nat)]) (tGe _ _)); rfl; exact G1.out.whole)
  refine (rsectors_any (m : Nat) (q : Nat) w1).mono ?_
  rintro e w1' ⟨rfl, h1'⟩
  rw [HNE.out]
  have K1 := hid (K1.out.below h1')
  clear G1 h1'
  go_wp2_with fail
  go_loopw [7, 10] (fun v u wr => ∃ (k : Nat) (gs es : List Nat) (Ms Is : Nat → Nat → Prop) (vm : Value), u = .int .i64 k ∧ k ≤ m ∧ Hid (Kd W (lsM m N) ca gC gr k k 0 gs es Ms Is v vm (.slice none 0 0) l wr)) (fun _ u _ => m - (intOf u).toNat)
  case atStart => exact ⟨0, [], [], _, _, _, rfl, Nat.zero_le _, K1⟩
  case round =>
    obtain ⟨k, gs, es, Ms, Is, vm, rfl, hk, K⟩ := hrel
    clear K1
    by_cases hgo : k < m
    · have hz : (lsM m N)[k]? = some (N : Int) := lsM_get hgo
      have q0 : wr.cell? ⟨gC, 0, none⟩ = some (.int .i64 (m : Nat)) := by have := K.out.c.cas; rw [HCA.out] at this; exact this.cell 0
      have HZ := hid hz
      clear hz
      have t1 : (k : Int) < m := by omega
      go_wp2_with fail
      refine (MbP.memB_ok.new (N : Nat) (by omega) (by omega) wr).mono ?_
      rintro e w2 ⟨gm, M, I, rfl, hR, hNew, hB2⟩
      have R2 := hid hR
      have N2 := hid hNew
      have L2 := hid hB2
      have KB := hid (K.out.below hB2)
      clear hR hNew hB2
      unfold MbP.at'
      go_upto_region 9 with (first
        | ((with_reducible apply wlit1 (x := gm) eltPtP undPtP); omega; rfl; rfl)
        | (at_builtin; (with_reducible apply wappXW eltPtP undPtP (B := W.heap.size) (m := [gm]) (S := fun _ => True)); rfl; rfl; exact KB.out.o1.below ((Below.refl _ _).alloc (Nat.le_refl _) _) (Nat.le_refl _); exact sli_lit1 eltPtP gm w2 trivial; (rw [KB.out.c.len]; omega); omega; (have := KB.out.c.low.size; simp; omega); intro v3 w3 o3 g3 wh3))
      have T3 := hid ((Turn.of_new (S := fun b => u7.ownBlock = some b) ((Below.refl w2.heap.size w2).alloc (Nat.le_refl _) (.cells (ptL gm).toArray 51))).trans (Turn.of_grown (S := fun b => u7.ownBlock = some b) g3 fun b e => e) fun b e => .inl e)
      have K3 := hid (K.out.more HZ.out L2.out R2.out N2.out T3.out o3 (wh3.imp id fun e => ⟨_, e, by simp⟩))
      clear g3 o3 wh3 T3 KB R2 N2 L2 K
      obtain ⟨Am, cm, hvm, _⟩ := K3.out.o2.sli ptL_len
      obtain ⟨nl, hnl⟩ : ∃ x, x = es.length := ⟨_, rfl⟩
      obtain ⟨ge, hge⟩ : ∃ x, x = w3.heap.size := ⟨_, rfl⟩
      rw [← hnl] at hvm
      subst hvm
      have HNL := hid hnl
      have HGE := hid hge
      have NLK := hid (show nl = k by rw [hnl]; exact K3.out.elen)
      have Q5 := hid (show w3.cell? ⟨gr, 0, none⟩ = some (.slice Am nl cm) from K3.out.bus.cell 0)
      have G3 := hid (show (Value.slice Am nl cm).ownBlock ≠ some gr from own_not K3.out.o2 K3.out.bus (by decide))
      have V3 := hid (show (Value.slice Am nl cm).ownBlock ≠ some ge from fun e => by have := (K3.out.o2.own ge e).2; omega)
      have O2 := hid (show OwnX 56 1 ptL w3 0 (.slice Am nl cm) es from K3.out.o2.lower (Nat.zero_le _))
      clear hnl hge
      refine wp_region_c (S := yS [some (.pointer (some ⟨gr, 0, none⟩)), some (.pointer (some ⟨gr, 0, none⟩)), some (.pointer (some ⟨gr, 0, none⟩)), some (.pointer (some ⟨gr, 0, none⟩)), some (.slice Am nl cm), some (.int .i64 ((N : Nat) : Int)), some (.pointer (some ⟨ge, 0, none⟩)), none, none, some (.pointer (some ⟨gr, 0, none⟩)), some (.pointer (some ⟨gr, 0, none⟩))]
        [(7, kSl 1), (8, kSl (nl + 1))]) (C := fun d vs w' => MkC w3 (.slice Am nl cm) es (N : Int) ge (d 6) (d 7) (d 8) (vs 7) (vs 8) w') 11 (by kernel_rfl) (by kernel_rfl) (by kernel_rfl) _
        (yS_ok _ fun y hy => by simp only [List.mem_cons, List.not_mem_nil, or_false] at hy; rcases hy with rfl | rfl <;> exact kSl_ok _) ⟨Turn.drew _, (fun _ => HGE.out.symm), (fun _ => (Below.refl _ _).drew), (fun e => by cases e), (fun e => by cases e), (fun e => by cases e)⟩ fun vs => ?_
      simp only [List.take_succ_cons, List.take_zero, List.drop_succ_cons, List.drop_zero]
      refine ⟨.inl ⟨rfl, fun dd w' hd hnx hw hC => ?_⟩, fun e => ?_⟩
      · go_simp
        first | exact ⟨rfl, hC⟩ | exact hC
      have e' : vs 0 = _ := e
      rw [e']
      clear e e'
      simp only [Act.put, sqA, sqB, sqC]
      refine ⟨.inl ⟨rfl, fun dd w' hd hnx hw hC => ?_⟩, fun e => ?_⟩
      · go_simp
        first | exact ⟨rfl, hC⟩ | exact hC
      have e' : vs 1 = _ := e
      rw [e']
      clear e e'
      simp only [Act.put, sqA, sqB, sqC]
      refine ⟨.inl ⟨rfl, fun dd w' hd hnx hw hC => ?_⟩, fun e => ?_⟩
      · go_simp
        first | exact ⟨rfl, hC⟩ | exact hC
      have e' : vs 2 = _ := e
      rw [e']
      clear e e'
      simp only [Act.put, sqA, sqB, sqC]
      refine ⟨.inl ⟨rfl, fun dd w' hd hnx hw hC => ?_⟩, fun e => ?_⟩
      · go_simp
        first | exact ⟨rfl, hC⟩ | exact hC
      have e' : vs 3 = _ := e
      rw [e']
      clear e e'
      simp only [Act.put, sqA, sqB, sqC]
      refine ⟨.inl ⟨rfl, fun dd w' hd hnx hw hC => ?_⟩, fun e => ?_⟩
      · have h1 : w'.cell? ⟨gr, 0, none⟩ = some (.slice Am nl cm) := hC.t.cell (p := ⟨gr, 0, none⟩) Q5.out G3.out
        go_simp
        first | exact ⟨rfl, hC⟩ | exact hC
      have e' : vs 4 = _ := e
      rw [e']
      clear e e'
      simp only [Act.put, sqA, sqB, sqC]
      refine ⟨.inl ⟨rfl, fun dd w' hd hnx hw hC => ?_⟩, fun e => ?_⟩
      · go_simp
        first | exact ⟨rfl, hC⟩ | exact hC
      have e' : vs 5 = _ := e
      rw [e']
      clear e e'
      simp only [Act.put, sqA, sqB, sqC]
      refine ⟨.inl ⟨rfl, fun dd w' hd hnx hw hC => ?_⟩, fun e => ?_⟩
      · have h7 : dd 7 = false := hnx 7 (by kernel_rfl)
        have h8 : dd 8 = false := hnx 8 (by kernel_rfl)
        go_simp
        refine (rs_made (N : Int) w').mono ?_
        rintro e w4 ⟨rfl, hr, hb⟩
        rw [hC.pre hd] at hr
        refine ⟨_, rfl, ?_, ?_⟩
        · rw [hC.pre hd]; rfl
        · exact (show MkC w3 (.slice Am nl cm) es (N : Int) ge true (dd 7) (dd 8) (vs 7) (vs 8) w4 from
            ⟨hC.t.trans (Turn.of_new (S := fun _ => False) hb) (fun _ e => e.elim), (fun e => by cases e), (fun _ => (hC.b h8).trans (hb.mono (hC.b h8).size)), (fun _ => hr), (fun e => by rw [h7] at e; cases e), (fun e => by rw [h8] at e; cases e)⟩)
      have e' : vs 6 = _ := e
      rw [e']
      clear e e'
      simp only [Act.put, sqA, sqB, sqC]
      refine ⟨.inl ⟨rfl, fun dd w' hd hnx hw hC => ?_⟩, fun e => ?_⟩
      · have h6 : dd 6 = true := hw 6 (by kernel_rfl)
        have h8 : dd 8 = false := hnx 8 (by kernel_rfl)
        have ha := (Below.refl w'.heap.size w').alloc (Nat.le_refl _) (.cells (ptL ge).toArray 56)
        have hbl := hC.b h8
        exact gE_lit1 (x := ge) eltPtR undPtR' (by omega) rfl rfl ⟨⟨_, _, rfl⟩, (show MkC w3 (.slice Am nl cm) es (N : Int) ge (dd 6) true (dd 8) _ (vs 8) _ from
          ⟨hC.t.trans (Turn.of_new (S := fun _ => False) ha) (fun _ e => e.elim), (fun e => by rw [h6] at e; cases e), (fun _ => hbl.trans (ha.mono hbl.size)), (fun _ => (hC.mem h6).turn (Turn.of_new (S := fun _ => False) ha) id fun _ e => e.elim), (fun _ _ => ⟨_, _, rfl, sli_lit1 eltPtR ge w' hbl.size⟩), (fun e => by rw [h8] at e; cases e)⟩)⟩
      obtain ⟨A7, c7, e'⟩ : ∃ (A : Option Addr) (c : Nat), vs 7 = .slice A 1 c := e
      rw [e']
      have E7 := hid e'
      clear e'
      simp only [Act.put, sqA, sqB, sqC]
      refine ⟨.inl ⟨rfl, fun dd w' hd hnx hw hC => ?_⟩, fun e => ?_⟩
      · have h6 : dd 6 = true := hw 6 (by kernel_rfl)
        have h7 : dd 7 = true := hw 7 (by kernel_rfl)
        have hbl := hC.b hd
        obtain ⟨A', c', f, sl⟩ := hC.lit h7 hd
        rw [E7.out] at f
        cases f
        refine gE_appW eltPtR undPtR' (B := 0) (v := .slice Am nl cm) (l := es) (m := [ge]) rfl rfl (O2.out.below hbl (Nat.le_refl _)) sl (by have := HNL.out; have := NLK.out; omega) (by omega) (Nat.zero_le _) fun v' w4 o4 g4 wh => ?_
        obtain ⟨A4, c4, rfl, _⟩ := o4.sli ptL_len
        have tg := Turn.of_grown (S := fun b => (Value.slice Am nl cm).ownBlock = some b) g4 fun b e => e
        refine ⟨⟨A4, c4, by rw [List.length_append, ← HNL.out]; rfl⟩, (show MkC w3 (.slice Am nl cm) es (N : Int) ge (dd 6) (dd 7) true (vs 7) _ w4 from
          ⟨(Turn.of_new (S := fun b => (Value.slice Am nl cm).ownBlock = some b) hbl).trans tg (fun b e => .inl e), (fun e => by rw [h6] at e; cases e), (fun e => by cases e), (fun _ => (hC.mem h6).turn tg V3.out fun _ e => e.elim), (fun _ e => by cases e), fun _ => ⟨o4, fun b e => by
            have e3 : (Value.slice A4 (es ++ [ge]).length c4).ownBlock = some b := e
            rcases wh with x | x
            · exact .inl (x.symm.trans e3)
            · rw [x] at e3; cases e3; exact .inr hbl.size⟩⟩)⟩
      obtain ⟨A8, c8, e'⟩ : ∃ (A : Option Addr) (c : Nat), vs 8 = .slice A (nl + 1) c := e
      rw [e']
      have E8 := hid e'
      clear e'
      simp only [Act.put, sqA, sqB, sqC]
      refine ⟨.inl ⟨rfl, fun dd w' hd hnx hw hC => ?_⟩, fun e => ?_⟩
      · go_simp
        first | exact ⟨rfl, hC⟩ | exact hC
      have e' : vs 9 = _ := e
      rw [e']
      clear e e'
      simp only [Act.put, sqA, sqB, sqC]
      refine ⟨.inl ⟨rfl, fun dd w' hd hnx hw hC => ?_⟩, fun e => ?_⟩
      · go_simp
        first | exact ⟨rfl, hC⟩ | exact hC
      have e' : vs 10 = _ := e
      rw [e']
      clear e e'
      simp only [Act.put, sqA, sqB, sqC]
      intro dd w4 hall hC
      obtain ⟨o4, wh⟩ := hC.own (hall 8 (by omega))
      rw [E8.out] at o4 wh
      have bb := K3.out.bus.turn hC.t G3.out
      have p4 : w4.cell? ⟨gr, 0, none⟩ = some (.slice Am nl cm) := bb.cell 0
      have fz := bb.frozen 0
      have K4 := hid (K3.out.moreR HZ.out hC.t (hC.mem (hall 6 (by omega))) (by rw [HGE.out]; exact Nat.le_refl _) (o4.raise fun q e => (wh q e).elim (fun x => (K3.out.o2.own q x).1) fun x => Nat.le_trans K3.out.c.low.size x) wh)
      clear hC o4 wh bb hall K3 E7 E8 Q5 G3 V3 O2 HGE
      clear NLK HNL
      go_wp2_with fail
      go_roundw
      case rel => exact ⟨k + 1, _, _, _, _, _, by go_num, by omega, K4⟩
      case measure => simp [intOf] <;> omega
    · have ek : k = m := by omega
      subst ek
      clear hk hgo
      have q0 : wr.cell? ⟨gC, 0, none⟩ = some (.int .i64 (k : Nat)) := by have := K.out.c.cas; rw [HCA.out] at this; exact this.cell 0
      have t1 : ¬ (k : Int) < k := by omega
      go_wp2_with fail
      clear q0 t1
      go_loopw [13] (fun u wr => ∃ (j : Nat) (vs : Value), u = .int .i64 j ∧ j ≤ n2 ∧ Hid (Kd W (lsM k N) ca gC gr k k j gs es Ms Is u7 vm vs l wr)) (fun u _ => n2 - (intOf u).toNat)
      case atStart => exact ⟨0, _, rfl, Nat.zero_le _, K⟩
      case round =>
        clear K
        obtain ⟨j, vs, rfl, hj, K⟩ := hrel
        by_cases hgo : j < n2
        · obtain ⟨y, hy⟩ : ∃ y, l[j]? = some y := ⟨_, List.getElem?_eq_getElem (by rw [H2.out.len]; exact hgo)⟩
          have SA := H2.out.turn (Turn.of_below K.out.c.low) fun q h1 h2 e => by omega
          obtain ⟨b, o, rfl, _, hbl, hr⟩ := SA.some hy
          have HR := hid hr
          have HYY := hid hy
          have t1 : (j : Int) < n2 := by omega
          clear hr SA hy
          go_upto_region 14 with (first | ((with_reducible apply ldR (cs := (stL y).toArray) (tStP y)); rfl; exact HR.out) | (with_reducible apply alZ' zStP) | ((with_reducible apply stR (tStP y)); rfl; rfl; exact Blk.new _ _ _; exact st_size _ _; exact st_one' _))
          generalize hw2 : World.setRow _ _ _ = w2
          obtain ⟨gT, hgT⟩ : ∃ n, n = wr.heap.size := ⟨_, rfl⟩
          have b2 : Below wr.heap.size wr w2 := by rw [← hw2]; exact below_setRow ((Below.refl _ _).alloc (Nat.le_refl _) _) (Nat.le_refl _) _
          have bb : Blk w2 gT 95 (stL y).toArray := by rw [← hw2, hgT]; exact (Blk.new wr _ _).setRow_same _
          obtain ⟨Av, cv, hvs, _⟩ := K.out.o3.sli stL_len
          obtain ⟨nl, hnl⟩ : ∃ x, x = (l.take j).length := ⟨_, rfl⟩
          rw [← hnl] at hvs
          subst hvs
          have NLJ := hid (show nl ≤ 100 by rw [hnl, List.length_take]; omega)
          have K2 := hid (K.out.below b2)
          have V3 := hid (show (Value.slice Av nl cv).ownBlock ≠ some gT from fun e => by have := (K.out.o3.own gT e).2; omega)
          have G3 := hid (show (Value.slice Av nl cv).ownBlock ≠ some gr from own_not K.out.o3 K.out.bus (by decide))
          have O3 := hid (show OwnX 96 70 stL w2 0 (.slice Av nl cv) (l.take j) from K2.out.o3.lower (Nat.zero_le _))
          have Q5 := hid (show w2.cell? ⟨gr, 2, none⟩ = some (.slice Av nl cv) from K2.out.bus.cell 2)
          have HNL := hid hnl
          rw [← hgT]
          obtain ⟨⟨sa, kd, sm, si, sn, sd, pk⟩, x⟩ := y
          have bw : w2.rangeAt gT 0 (stL (⟨sa, kd, sm, si, sn, sd, pk⟩, x)) := bb.whole
          have qa := hid (show w2.cell? ⟨gT, 0, none⟩ = some (.int .i64 sa) from st_a (o := 0) bw)
          have qk := hid (show w2.cell? ⟨gT, 1, none⟩ = some (.int .i64 kd) from st_k (o := 0) bw)
          have qm := hid (show w2.cell? ⟨gT, 2, none⟩ = some (.int .i64 sm) from st_m (o := 0) bw)
          have qi := hid (show w2.cell? ⟨gT, 3, none⟩ = some (.int .i64 si) from st_i (o := 0) bw)
          have qn := hid (show w2.cell? ⟨gT, 4, none⟩ = some (.int .i64 sn) from st_n (o := 0) bw)
          have qp := hid (show w2.cell? ⟨gT, 69, none⟩ = some (.slice x.A pk.length x.c) from st_p (o := 0) bw)
          have qd := hid (show w2.rangeAt gT 5 (ar 64 sd).toList from st_s (o := 0) (x := (⟨sa, kd, sm, si, sn, sd, pk⟩, x)) bw)
          have TL := hid bb.lt
          clear hw2 b2 bb bw HR hnl hgT t1 K
          refine wp_region_c (S := yS [some (.pointer (some ⟨gr, 0, none⟩)), some (.pointer (some ⟨gr, 0, none⟩)), some (.pointer (some ⟨gr, 0, none⟩)), some (.pointer (some ⟨gr, 2, none⟩)), some (.slice Av nl cv),
            some (.pointer (some ⟨gT, 0, none⟩)), some (.int .i64 sa), some (.pointer (some ⟨gT, 1, none⟩)), some (.int .i64 kd), some (.pointer (some ⟨gT, 2, none⟩)), some (.int .i64 sm), some (.pointer (some ⟨gT, 3, none⟩)), some (.int .i64 si), some (.pointer (some ⟨gT, 4, none⟩)), some (.int .i64 sn), some (.pointer (some ⟨gT, 5, none⟩)), some (.agg (ar 64 sd)), some (.pointer (some ⟨gT, 69, none⟩)), some (.slice x.A pk.length x.c),
            some (.agg (stL (⟨sa, kd, sm, si, sn, sd, pk⟩, x)).toArray), none, none, some (.pointer (some ⟨gr, 0, none⟩)), some (.pointer (some ⟨gr, 2, none⟩))]
            [(20, kSl 1), (21, kSl (nl + 1))]) (C := fun d vs w' => ApC 96 70 stL w2 (.slice Av nl cv) (l.take j) ((⟨sa, kd, sm, si, sn, sd, pk⟩, x) : Stp × SlB) (d 20) (d 21) (vs 20) (vs 21) w') 24 (by kernel_rfl) (by kernel_rfl) (by kernel_rfl) _
            (yS_ok _ fun y hy => by simp only [List.mem_cons, List.not_mem_nil, or_false] at hy; rcases hy with rfl | rfl <;> exact kSl_ok _) ⟨Turn.drew _, fun _ => (Below.refl _ _).drew, (fun e => by cases e), (fun e => by cases e)⟩ fun vs => ?_
          simp only [List.take_succ_cons, List.take_zero, List.drop_succ_cons, List.drop_zero]
          refine ⟨.inl ⟨rfl, fun dd w' hd hnx hw hC => ?_⟩, fun e => ?_⟩
          · go_simp
            first | exact ⟨rfl, hC⟩ | exact hC
          have e' : vs 0 = _ := e
          rw [e']
          clear e e'
          simp only [Act.put, sqA, sqB, sqC]
          refine ⟨.inl ⟨rfl, fun dd w' hd hnx hw hC => ?_⟩, fun e => ?_⟩
          · go_simp
            first | exact ⟨rfl, hC⟩ | exact hC
          have e' : vs 1 = _ := e
          rw [e']
          clear e e'
          simp only [Act.put, sqA, sqB, sqC]
          refine ⟨.inl ⟨rfl, fun dd w' hd hnx hw hC => ?_⟩, fun e => ?_⟩
          · go_simp
            first | exact ⟨rfl, hC⟩ | exact hC
          have e' : vs 2 = _ := e
          rw [e']
          clear e e'
          simp only [Act.put, sqA, sqB, sqC]
          refine ⟨.inl ⟨rfl, fun dd w' hd hnx hw hC => ?_⟩, fun e => ?_⟩
          · go_simp
            first | exact ⟨rfl, hC⟩ | exact hC
          have e' : vs 3 = _ := e
          rw [e']
          clear e e'
          simp only [Act.put, sqA, sqB, sqC]
          refine ⟨.inl ⟨rfl, fun dd w' hd hnx hw hC => ?_⟩, fun e => ?_⟩
          · have h1 : w'.cell? ⟨gr, 2, none⟩ = some (.slice Av nl cv) := hC.t.cell (p := ⟨gr, 2, none⟩) Q5.out G3.out
            go_simp
            first | exact ⟨rfl, hC⟩ | exact hC
          have e' : vs 4 = _ := e
          rw [e']
          clear e e'
          simp only [Act.put, sqA, sqB, sqC]
          refine ⟨.inl ⟨rfl, fun dd w' hd hnx hw hC => ?_⟩, fun e => ?_⟩
          · go_simp
            first | exact ⟨rfl, hC⟩ | exact hC
          have e' : vs 5 = _ := e
          rw [e']
          clear e e'
          simp only [Act.put, sqA, sqB, sqC]
          refine ⟨.inl ⟨rfl, fun dd w' hd hnx hw hC => ?_⟩, fun e => ?_⟩
          · have h1 : w'.cell? ⟨gT, 0, none⟩ = some (.int .i64 sa) := hC.t.cell (p := ⟨gT, 0, none⟩) qa.out V3.out
            go_simp
            first | exact ⟨rfl, hC⟩ | exact hC
          have e' : vs 6 = _ := e
          rw [e']
          clear e e'
          simp only [Act.put, sqA, sqB, sqC]
          refine ⟨.inl ⟨rfl, fun dd w' hd hnx hw hC => ?_⟩, fun e => ?_⟩
          · go_simp
            first | exact ⟨rfl, hC⟩ | exact hC
          have e' : vs 7 = _ := e
          rw [e']
          clear e e'
          simp only [Act.put, sqA, sqB, sqC]
          refine ⟨.inl ⟨rfl, fun dd w' hd hnx hw hC => ?_⟩, fun e => ?_⟩
          · have h1 : w'.cell? ⟨gT, 1, none⟩ = some (.int .i64 kd) := hC.t.cell (p := ⟨gT, 1, none⟩) qk.out V3.out
            go_simp
            first | exact ⟨rfl, hC⟩ | exact hC
          have e' : vs 8 = _ := e
          rw [e']
          clear e e'
          simp only [Act.put, sqA, sqB, sqC]
          refine ⟨.inl ⟨rfl, fun dd w' hd hnx hw hC => ?_⟩, fun e => ?_⟩
          · go_simp
            first | exact ⟨rfl, hC⟩ | exact hC
          have e' : vs 9 = _ := e
          rw [e']
          clear e e'
          simp only [Act.put, sqA, sqB, sqC]
          refine ⟨.inl ⟨rfl, fun dd w' hd hnx hw hC => ?_⟩, fun e => ?_⟩
          · have h1 : w'.cell? ⟨gT, 2, none⟩ = some (.int .i64 sm) := hC.t.cell (p := ⟨gT, 2, none⟩) qm.out V3.out
            go_simp
            first | exact ⟨rfl, hC⟩ | exact hC
          have e' : vs 10 = _ := e
          rw [e']
          clear e e'
          simp only [Act.put, sqA, sqB, sqC]
          refine ⟨.inl ⟨rfl, fun dd w' hd hnx hw hC => ?_⟩, fun e => ?_⟩
          · go_simp
            first | exact ⟨rfl, hC⟩ | exact hC
          have e' : vs 11 = _ := e
          rw [e']
          clear e e'
          simp only [Act.put, sqA, sqB, sqC]
          refine ⟨.inl ⟨rfl, fun dd w' hd hnx hw hC => ?_⟩, fun e => ?_⟩
          · have h1 : w'.cell? ⟨gT, 3, none⟩ = some (.int .i64 si) := hC.t.cell (p := ⟨gT, 3, none⟩) qi.out V3.out
            go_simp
            first | exact ⟨rfl, hC⟩ | exact hC
          have e' : vs 12 = _ := e
          rw [e']
          clear e e'
          simp only [Act.put, sqA, sqB, sqC]
          refine ⟨.inl ⟨rfl, fun dd w' hd hnx hw hC => ?_⟩, fun e => ?_⟩
          · go_simp
            first | exact ⟨rfl, hC⟩ | exact hC
          have e' : vs 13 = _ := e
          rw [e']
          clear e e'
          simp only [Act.put, sqA, sqB, sqC]
          refine ⟨.inl ⟨rfl, fun dd w' hd hnx hw hC => ?_⟩, fun e => ?_⟩
          · have h1 : w'.cell? ⟨gT, 4, none⟩ = some (.int .i64 sn) := hC.t.cell (p := ⟨gT, 4, none⟩) qn.out V3.out
            go_simp
            first | exact ⟨rfl, hC⟩ | exact hC
          have e' : vs 14 = _ := e
          rw [e']
          clear e e'
          simp only [Act.put, sqA, sqB, sqC]
          refine ⟨.inl ⟨rfl, fun dd w' hd hnx hw hC => ?_⟩, fun e => ?_⟩
          · go_simp
            first | exact ⟨rfl, hC⟩ | exact hC
          have e' : vs 15 = _ := e
          rw [e']
          clear e e'
          simp only [Act.put, sqA, sqB, sqC]
          refine ⟨.inl ⟨rfl, fun dd w' hd hnx hw hC => ?_⟩, fun e => ?_⟩
          · exact gE_ldA tSe rfl (hC.t.range qd.out V3.out) ⟨rfl, hC⟩
          have e' : vs 16 = _ := e
          rw [e']
          clear e e'
          simp only [Act.put, sqA, sqB, sqC]
          refine ⟨.inl ⟨rfl, fun dd w' hd hnx hw hC => ?_⟩, fun e => ?_⟩
          · go_simp
            first | exact ⟨rfl, hC⟩ | exact hC
          have e' : vs 17 = _ := e
          rw [e']
          clear e e'
          simp only [Act.put, sqA, sqB, sqC]
          refine ⟨.inl ⟨rfl, fun dd w' hd hnx hw hC => ?_⟩, fun e => ?_⟩
          · have h1 : w'.cell? ⟨gT, 69, none⟩ = some (.slice x.A pk.length x.c) := hC.t.cell (p := ⟨gT, 69, none⟩) qp.out V3.out
            go_simp
            first | exact ⟨rfl, hC⟩ | exact hC
          have e' : vs 18 = _ := e
          rw [e']
          clear e e'
          simp only [Act.put, sqA, sqB, sqC]
          refine ⟨.inl ⟨rfl, fun dd w' hd hnx hw hC => ?_⟩, fun e => ?_⟩
          · exact gE_build' (by simp only [List.map_toArray, List.map_cons, List.map_nil]; exact run_build w' _ _ _ (built_R sa kd sm si sn sd pk x)) ⟨rfl, hC⟩
          have e' : vs 19 = _ := e
          rw [e']
          clear e e'
          simp only [Act.put, sqA, sqB, sqC]
          refine ⟨.inl ⟨rfl, fun dd w' hd hnx hw hC => ?_⟩, fun e => ?_⟩
          · have h8 : dd 21 = false := hnx 21 (by kernel_rfl)
            have ha := (Below.refl w'.heap.size w').alloc (Nat.le_refl _) (.cells (stL ((⟨sa, kd, sm, si, sn, sd, pk⟩, x) : Stp × SlB)).toArray 96)
            have hbl := hC.b h8
            exact gE_lit1 (x := ((⟨sa, kd, sm, si, sn, sd, pk⟩, x) : Stp × SlB)) eltStR undStR (by omega) rfl rfl ⟨⟨_, _, rfl⟩, hC.t.trans (Turn.of_new (S := fun _ => False) ha) (fun _ e => e.elim), (fun _ => hbl.trans (ha.mono hbl.size)), (fun _ _ => ⟨_, _, rfl, sli_lit1 eltStR ((⟨sa, kd, sm, si, sn, sd, pk⟩, x) : Stp × SlB) w' hbl.size⟩), fun e => by
              have e' : dd 21 = true := e
              rw [h8] at e'; cases e'⟩
          obtain ⟨A7, c7, e'⟩ : ∃ (A : Option Addr) (c : Nat), vs 20 = .slice A 1 c := e
          rw [e']
          have E7 := hid e'
          clear e'
          simp only [Act.put, sqA, sqB, sqC]
          refine ⟨.inl ⟨rfl, fun dd w' hd hnx hw hC => ?_⟩, fun e => ?_⟩
          · have h7 : dd 20 = true := hw 20 (by kernel_rfl)
            have hbl := hC.b hd
            obtain ⟨A', c', f, sl⟩ := hC.lit h7 hd
            rw [E7.out] at f
            cases f
            refine gE_appW eltStR undStR (B := 0) (v := .slice Av nl cv) (l := l.take j) (m := [((⟨sa, kd, sm, si, sn, sd, pk⟩, x) : Stp × SlB)]) rfl rfl (O3.out.below hbl (Nat.le_refl _)) sl (by have := HNL.out; have := NLJ.out; omega) (by omega) (Nat.zero_le _) fun v' w4 o4 g4 wh => ?_
            obtain ⟨A4, c4, rfl, _⟩ := o4.sli stL_len
            refine ⟨⟨A4, c4, by rw [List.length_append, ← HNL.out]; rfl⟩, ?_⟩
            exact ⟨(Turn.of_new (S := fun b => (Value.slice Av nl cv).ownBlock = some b) hbl).trans (Turn.of_grown (S := fun b => (Value.slice Av nl cv).ownBlock = some b) g4 fun b e => e) (fun b e => .inl e), (fun e => by cases e), (fun _ e => by cases e), fun _ => ⟨o4, fun b e => by
              have e3 : (Value.slice A4 (l.take j ++ [((⟨sa, kd, sm, si, sn, sd, pk⟩, x) : Stp × SlB)]).length c4).ownBlock = some b := e
              rcases wh with x | x
              · exact .inl (x.symm.trans e3)
              · rw [x] at e3; cases e3; exact .inr hbl.size⟩⟩
          obtain ⟨A8, c8, e'⟩ : ∃ (A : Option Addr) (c : Nat), vs 21 = .slice A (nl + 1) c := e
          rw [e']
          have E8 := hid e'
          clear e'
          simp only [Act.put, sqA, sqB, sqC]
          refine ⟨.inl ⟨rfl, fun dd w' hd hnx hw hC => ?_⟩, fun e => ?_⟩
          · go_simp
            first | exact ⟨rfl, hC⟩ | exact hC
          have e' : vs 22 = _ := e
          rw [e']
          clear e e'
          simp only [Act.put, sqA, sqB, sqC]
          refine ⟨.inl ⟨rfl, fun dd w' hd hnx hw hC => ?_⟩, fun e => ?_⟩
          · go_simp
            first | exact ⟨rfl, hC⟩ | exact hC
          have e' : vs 23 = _ := e
          rw [e']
          clear e e'
          simp only [Act.put, sqA, sqB, sqC]
          intro dd w4 hall hC
          obtain ⟨o4, wh⟩ := hC.own (hall 21 (by omega))
          rw [E8.out] at o4 wh
          have bb := K2.out.bus.turn hC.t G3.out
          have p4 : w4.cell? ⟨gr, 2, none⟩ = some (.slice Av nl cv) := bb.cell 2
          have fz := bb.frozen 2
          have K4 := hid (K2.out.moreS HYY.out hC.t (o4.raise fun q e => (wh q e).elim (fun x => (K2.out.o3.own q x).1) fun x => Nat.le_trans K2.out.c.low.size x) wh)
          clear hC o4 wh bb hall K2 E7 E8 Q5 G3 V3 O3 qa qk qm qi qn qp qd TL HNL NLJ
          go_wp2_with fail
          go_roundw
          case rel => exact ⟨j + 1, _, by go_num, by omega, K4⟩
          case measure => simp [intOf] <;> omega
        · have ej : j = n2 := by omega
          subst ej
          clear hj hgo
          have t1 : ¬ (j : Int) < j := by omega
          go_wp2_with (with_reducible apply wblCe0)
          clear t1
          obtain ⟨Am, cm, hvm, _⟩ := K.out.o2.sli ptL_len
          rw [K.out.elen] at hvm
          subst hvm
          obtain ⟨As, cs, hvs, _⟩ := K.out.o3.sli stL_len
          obtain ⟨Av, cv, hv, sv0⟩ := K.out.o1.sli ptL_len
          rw [K.out.c.len] at hv sv0
          have hlt : l.take j = l := List.take_of_length_le (by rw [H2.out.len]; exact Nat.le_refl _)
          rw [hlt, H2.out.len] at hvs
          subst hvs hv
          refine (cb_new 0 ClP.zero (by unfold ClP.most; omega) wr).mono ?_
          rintro e w2 ⟨gk, Mc, rfl, rC2, c2', h2⟩
          have K2 := hid (K.out.below h2)
          have RC2 := hid rC2
          have C2 := hid c2'
          have S2 := hid h2.size
          clear rC2 c2' h2
          unfold MbP.at'
          go_wp2_with (with_reducible apply wblCe0)
          refine (ClP.rnew_any 0 ClP.zero (by unfold ClP.most; omega) w2).mono ?_
          rintro e w3 ⟨gq, rfl, vc, rq3, q3, h3⟩
          have K3 := hid (K2.out.below h3)
          have RQ3 := hid rq3
          have Q3 := hid q3
          have RC3 := hid (cb_turn RC2.out (Turn.of_new (S := fun _ => False) h3) fun _ _ e => e)
          have CL2 := hid (cb_lt RC2.out)
          have S3 := hid h3.size
          have p1 : w3.cell? ⟨gr, 1, none⟩ = some (.pointer none) := K3.out.bus.cell 1
          have fz := K3.out.bus.frozen 1
          clear rq3 q3 h3 RC2 K2
          unfold ClP.ptr'
          go_upto_region 18 with fail
          generalize hw4 : World.setCell w3 _ _ = w4
          have t4 : Turn (fun q => q = gr) w3 w4 := by rw [← hw4]; exact Turn.setCell (S := fun q => q = gr) w3 ⟨gr, 1, none⟩ _ rfl
          have L1 := hid (show ∀ i q, i < k → Ms i q ∨ Is i q → q < wr.heap.size from fun i q hi e => (K.out.c.lo i q hi e).2)
          have L2 := hid (show ∀ q ∈ es, q < wr.heap.size from K.out.c.ref.lt.1)
          have L3 := hid K.out.bus.lt
          have L4 := hid (show ∀ q, (Value.slice Am k cm).ownBlock = some q → q < wr.heap.size from fun q e => (K.out.o2.own q e).2)
          have L5 := hid (show ∀ q, (Value.slice As j cs).ownBlock = some q → q < wr.heap.size from fun q e => (K.out.o3.own q e).2)
          have L6 := hid K.out.c.cas.lt
          have LV := hid (show ∀ q, (Value.slice Av k cv).ownBlock = some q → q < wr.heap.size from fun q e => (K.out.o1.own q e).2)
          have LW := hid K.out.c.low.size
          have RLO := hid K.out.rlo
          have EAP := hid K.out.eap
          have K5 := hid (K3.out.c.turn t4 (fun q e => by rw [e]; exact K3.out.rlo) (fun e => K3.out.bus.neT K3.out.c.cas (by decide) e.symm) (fun q hq e => K3.out.gr_es (e ▸ hq)) fun i q hi e e2 => (K3.out.eap i q hi e).2.1 e2)
          have bb5 := hid (show Blk w4 gr 50 (buR Am k cm gq As j cs false (.slice none 0 0)) by rw [← hw4]; exact K3.out.bus.setCell_same 1 _)
          have o15 := hid (K3.out.o1.turn t4 fun q e e2 => own_not K3.out.o1 K3.out.bus (by decide) (e2 ▸ e))
          have o25 := hid (K3.out.o2.turn t4 fun q e e2 => own_not K3.out.o2 K3.out.bus (by decide) (e2 ▸ e))
          have o35 := hid (show OwnX 96 70 stL w4 W.heap.size (.slice As j cs) l by rw [← hlt]; exact K3.out.o3.turn t4 fun q e e2 => own_not K3.out.o3 K3.out.bus (by decide) (e2 ▸ e))
          have rC5 := hid (cb_turn RC3.out t4 fun q e e2 => by have := C2.out q e; have := L3.out; omega)
          have rq5 := hid (RQ3.out.turn t4 (fun e => by have := Q3.out gq (.inl rfl); have := L3.out; have := S2.out; omega) fun q e e2 => by have := Q3.out q (.inr e); have := L3.out; have := S2.out; omega)
          have C15 := hid (show ∀ q, Mc q → wr.heap.size ≤ q ∧ q < w2.heap.size from fun q e => ⟨C2.out q e, CL2.out q e⟩)
          have S4 := hid (show w3.heap.size ≤ w4.heap.size from t4.size)
          have SST := hid (H2.out.turn (Turn.of_below K5.out.low) fun q h1 h2 e => by omega)
          have hll : l.length = j := H2.out.len
          have sv5 := hid (show Sli 1 ptL (fun b => (Value.slice Av k cv).ownBlock = some b) w4 Av gs k cv by
            obtain ⟨A', c', e, s⟩ := o15.out.sli ptL_len
            rw [K5.out.len] at e s
            cases e
            exact sli_own s)
          have hlsn : (lsM k N).length = k := lsM_len k N
          have GQ := hid (show w2.heap.size ≤ gq ∧ gq < w4.heap.size from ⟨Q3.out gq (.inl rfl), rq5.out.blk.lt⟩)
          have VC := hid (show ∀ q, vc.ownBlock = some q → w2.heap.size ≤ q ∧ q < w4.heap.size from fun q e => ⟨Q3.out q (.inr e), (rq5.out.lg.own q e).2⟩)
          clear hw4 t4 K3 RQ3 RC3 K p1 fz C2 CL2 hlt sv0 Q3
          go_wp2_with fail
          refine (new19 K5.out hlsn (lsM_one hN1) (by omega) hll hn2 HS.out sv5.out rC5.out SST.out).mono ?_
          rintro e w6 ⟨v1, er, rfl, hN, h6⟩
          rcases hN with ⟨e1, _⟩ | ⟨g, Mo, Io, e1, e2, e3, n1, n2', n3, n4⟩
          · omega
          · subst e2 e3
            have HBth := hid (made_both (a := _) (vst := .slice none 0 0) K5.out hlsn e1.2 hll hn2 HS.out (show ((0, ClP.zero) : ClP.Held).1 ≤ ClP.most by unfold ClP.most; omega) bb5.out o25.out o35.out (fun i q hi e => ⟨(EAP.out i q hi e).1, (EAP.out i q hi e).2.1, (EAP.out i q hi e).2.2.2.2.1, (EAP.out i q hi e).2.2.2.2.2⟩) LW.out S2.out (Nat.le_trans S3.out S4.out) (Nat.le_refl _)
              L1.out L2.out L6.out L3.out RLO.out L4.out L5.out rC5.out C15.out rq5.out GQ.out VC.out (fun q e => by cases e) n1 n2' n3 n4 h6 (Turn.refl _ _))
            have BW := hid (K5.out.low.trans (h6.mono K5.out.low.size))
            have SV6 := hid (sv5.out.turn (Turn.of_new (S := fun _ => False) h6) fun _ _ _ e => e)
            have SVN := hid (show ∀ q, (Value.slice Av k cv).ownBlock = some q → ¬ (mutP (mdF gs Ms Is gk Mc (0, ClP.zero) Mo Io) q ∨ mutR gr (mdE W es Am k cm gq As j cs l vc (0, ClP.zero)) q) from fun q e => by
              have hq := LV.out q e
              have hs2 := S2.out
              have hs3 := S3.out
              have hs4 := S4.out
              rintro (x | x)
              · rcases x with x | x | ⟨i, hi, x⟩
                · have := n2' q x; omega
                · have := C15.out q x; omega
                · exact (EAP.out i q (by have := K5.out.len; rw [← this]; exact hi) (.inl x)).2.2.2.1 e
              · rcases x with x | x | x | x | x
                · subst x; exact own_not o15.out bb5.out (by decide) e
                · obtain ⟨cs', hc'⟩ := K5.out.es_obj x
                  exact own_not o15.out hc' (by decide) e
                · have x' : q = gq := x
                  have := GQ.out; omega
                · have := VC.out q x; omega
                · cases x)
            clear n1 n2' n3 n4 h6 K5 bb5 o15 o25 o35 rC5 rq5 C15 SST sv5
            unfold MbP.at'
            go_wp2_with fail
            go_ret3
            exact ⟨_, rfl, ⟨g, Av, cv, gr, _, _, _, rfl, HBth.out, SV6.out, SVN.out⟩, BW.out⟩
end MiP
end Go.Proofs.YtklmjdhhnnanoaaGreatDoor
set_option maxRecDepth 100000
namespace Go.Proofs.YtklmjdhhnnanoaaGreatDoor
open Go.ChangeShapes Go.WideShapes Go.ChangeAt Go.RowKit Go.Deep
namespace GeM
section
variable {H : Type} {enc : TypeId × Value → H} {w : World} {base : Nat} {spare : Nat → Bool} {held : Bool}
end
end GeM
end Go.Proofs.YtklmjdhhnnanoaaGreatDoor
set_option maxRecDepth 100000
namespace Go.Proofs.YtklmjdhhnnanoaaGreatDoor
namespace GeM
def Ok (a b r n : Int) : Prop := Good a b ∧ 0 ≤ r ∧ r < b ∧ 0 ≤ n ∧ n < a
instance (a b r n : Int) : Decidable (Ok a b r n) := by unfold Ok; infer_instance
def Om (a b n : Int) (k : Nat) : Prop := Good a b ∧ 0 ≤ n ∧ n < (k : Int)
instance (a b n : Int) (k : Nat) : Decidable (Om a b n k) := by unfold Om; infer_instance
def col (m r k : Nat) : Nat := (k + r) % m
def mem (m r c : Nat) : Nat := (c + (m - r % m)) % m
def v2 (x : Nat × Nat) : Value := .tuple #[.int .i64 x.1, .int .i64 x.2]
def v3 (x : Nat × Nat × Nat) : Value := .tuple #[.int .i64 x.1, .int .i64 x.2.1, .int .i64 x.2.2]
def colP (a b r n : Int) : Nat × Nat := if Ok a b r n then (col a.toNat r.toNat n.toNat, 0) else (0, 2)
def memP (a b r n : Int) : Nat × Nat := if Ok a b r n then (mem a.toNat r.toNat n.toNat, 0) else (0, 2)
def numP (a b r n : Int) : Nat × Nat := if Ok a b r n then (if n.toNat + 2 < a.toNat then (r.toNat * (a.toNat - 2) + n.toNat, 0) else (0, 5)) else (0, 2)
def lefP (a b r n : Int) : Nat × Nat := if Ok a b r n then (r.toNat * a.toNat + n.toNat, 0) else (0, 2)
def ofP (a b n : Int) : Nat × Nat × Nat := if Om a b n (L lo a b) then (n.toNat / (a.toNat - 2), n.toNat % (a.toNat - 2), 0) else (0, 0, 2)
def atP (a b n : Int) : Nat × Nat × Nat := if Om a b n (L lv a b) then (n.toNat / a.toNat, n.toNat % a.toNat, 0) else (0, 0, 2)
theorem om_nat {a b n : Int} {k : Nat} (h : Om a b n k) : ∃ m q y : Nat, a = m ∧ b = q ∧ n = y ∧ Good m q ∧ y < k := by
  obtain ⟨hg, h1, h2⟩ := h
  obtain ⟨m, q, rfl, rfl, _⟩ := good_nat hg
  exact ⟨m, q, n.toNat, rfl, rfl, by omega, hg, by omega⟩
section
variable {m q x y : Nat}
theorem ofP_ok (hg : Good m q) (hy : y < lo m q) : ofP m q y = (y / (m - 2), y % (m - 2), 0) := by rw [ofP, if_pos ⟨hg, by omega, by rw [L_good hg]; omega⟩]; rfl
theorem atP_ok (hg : Good m q) (hy : y < lv m q) : atP m q y = (y / m, y % m, 0) := by rw [atP, if_pos ⟨hg, by omega, by rw [L_good hg]; omega⟩]; rfl
end
section
variable {a b r n : Int}
theorem atP_no (h : ¬ Om a b n (L lv a b)) : atP a b n = (0, 0, 2) := by rw [atP, if_neg h]
end
section
variable {m q r k c : Nat}
end
end GeM
end Go.Proofs.YtklmjdhhnnanoaaGreatDoor
set_option maxRecDepth 100000
namespace Go.Proofs.YtklmjdhhnnanoaaGreatDoor
namespace MiM
open GeM BuM MbM
def hom (a b k i : Int) : Option (Nat × Nat × Nat) :=
  if k = 1 then (pl a b 1 i).map fun p => (0, a.toNat, p)
  else if k = 3 then (pl a b 3 i).map fun p => (i.toNat, 3, p)
  else if k = 4 then (if Om a b i (L lv a b) then (pl a b 4 ((i.toNat / a.toNat : Nat) : Int)).map fun p => (i.toNat % a.toNat, 1, p) else none)
  else none
def rnd (m f n : Nat) : List Nat := (List.range n).map fun i => (f + i) % m
def whL (a b k i : Int) : List Nat := match hom a b k i with
  | some (f, n, _) => rnd a.toNat f n
  | none => []
def whP (a b k i : Int) : Nat := match hom a b k i with
  | some (_, _, p) => p
  | none => 0
theorem rnd_length (m f n : Nat) : (rnd m f n).length = n := by unfold rnd; rw [List.length_map, List.length_range]
theorem rnd_get {m f n i : Nat} (h : i < n) : (rnd m f n)[i]? = some ((f + i) % m) := by unfold rnd; rw [List.getElem?_map, List.getElem?_range h]; rfl
theorem rnd_succ (m f n : Nat) : rnd m f (n + 1) = rnd m f n ++ [(f + n) % m] := by unfold rnd; rw [List.range_succ, List.map_append]; rfl
theorem rnd_take {m f n i : Nat} (h : i ≤ n) : (rnd m f n).take i = rnd m f i := by unfold rnd; rw [← List.map_take, List.take_range, Nat.min_eq_left h]
theorem rnd_lt {m f n : Nat} (hm : 0 < m) : ∀ x ∈ rnd m f n, x < m := fun x hx => by
  unfold rnd at hx
  obtain ⟨i, _, rfl⟩ := List.mem_map.1 hx
  exact Nat.mod_lt _ hm
theorem pl_some {a b k i : Int} {p : Nat} (h : pl a b k i = some p) : GeM.Good a b ∧ 1 ≤ k ∧ k ≤ 4 ∧ (GeM.lw k : Int) ≤ i ∧ i - GeM.lw k < GeM.sz a.toNat b.toNat k.toNat := by
  by_cases e : GeM.Good a b ∧ 1 ≤ k ∧ k ≤ 4 ∧ (GeM.lw k : Int) ≤ i ∧ i - GeM.lw k < GeM.sz a.toNat b.toNat k.toNat
  · exact e
  · rw [pl_none e] at h; cases h
theorem pl_le {a b k i : Int} {p : Nat} (h : pl a b k i = some p) : p ≤ 20000 := by
  have h0 := pl_some h
  obtain ⟨hg, h1, h4, h5, h6⟩ := h0
  obtain ⟨n, hn⟩ : ∃ n : Nat, k = n := ⟨k.toNat, by omega⟩
  subst hn
  rw [pl_L (k := n) (by omega) (by omega) a b i] at h
  have hu := st_up (a := a) (b := b) (k := n) (by omega) (by omega)
  split at h
  · rename_i h7
    cases h
    omega
  · cases h
theorem hom_some {a b k i : Int} {f n p : Nat} (h : hom a b k i = some (f, n, p)) : ∃ m q : Nat, a = m ∧ b = q ∧ GeM.Good m q ∧ 4 ≤ m ∧ m ≤ 64 ∧ 1 ≤ n ∧ n ≤ m ∧ f ≤ 8192 ∧ p ≤ 20000 := by
  unfold hom at h
  split at h
  · cases e : pl a b 1 i with
    | none => rw [e] at h; cases h
    | some x =>
      rw [e] at h
      simp only [Option.map_some, Option.some.injEq, Prod.mk.injEq] at h
      obtain ⟨rfl, rfl, rfl⟩ := h
      have hg := (pl_some e).1
      obtain ⟨m, q, rfl, rfl, h1, h2, h3, h4⟩ := good_nat hg
      have := pl_le e
      exact ⟨m, q, rfl, rfl, hg, h1, h2, by omega, by omega, by omega, this⟩
  · split at h
    · cases e : pl a b 3 i with
      | none => rw [e] at h; cases h
      | some x =>
        rw [e] at h
        simp only [Option.map_some, Option.some.injEq, Prod.mk.injEq] at h
        obtain ⟨rfl, rfl, rfl⟩ := h
        obtain ⟨hg, _, _, h5, h6⟩ := pl_some e
        have := pl_le e
        obtain ⟨m, q, rfl, rfl, h1, h2, h3, h4⟩ := good_nat hg
        have h7 : GeM.sz (m : Int).toNat (q : Int).toNat (3 : Int).toNat = nd m q := rfl
        have h8 : nd m q ≤ 4096 := by
          unfold nd
          have := Nat.pow_le_pow_right (show 0 < 2 by omega) (ht_bd hg)
          omega
        rw [h7] at h6
        have h9 : (GeM.lw 3 : Int) = 1 := rfl
        exact ⟨m, q, rfl, rfl, hg, h1, h2, by omega, by omega, by omega, this⟩
    · split at h
      · split at h
        · rename_i hom
          cases e : pl a b 4 ((i.toNat / a.toNat : Nat) : Int) with
          | none => rw [e] at h; cases h
          | some x =>
            rw [e] at h
            simp only [Option.map_some, Option.some.injEq, Prod.mk.injEq] at h
            obtain ⟨rfl, rfl, rfl⟩ := h
            have hg := (pl_some e).1
            obtain ⟨m, q, rfl, rfl, h1, h2, h3, h4⟩ := good_nat hg
            have := pl_le e
            have := Nat.mod_lt i.toNat (show 0 < (m : Int).toNat by omega)
            exact ⟨m, q, rfl, rfl, hg, h1, h2, by omega, by omega, by omega, ‹_›⟩
        · cases h
      · cases h
theorem whL_nil {a b k i : Int} : whL a b k i = [] ↔ hom a b k i = none := by
  unfold whL
  cases e : hom a b k i with
  | none => simp
  | some x =>
    obtain ⟨f, n, p⟩ := x
    obtain ⟨m, q, rfl, rfl, hg, _, _, h1, _⟩ := hom_some e
    simp only [reduceCtorEq, iff_false]
    intro e2
    have := congrArg List.length e2
    rw [rnd_length] at this
    simp only [List.length_nil] at this
    omega
section
variable (e : Bs → Nat → Int) (t : Bs → Nat → Bs)
def run (b : Bs) (l : List Nat) : Bs := l.foldl t b
def did (b : Bs) : List Nat → List Nat
  | [] => []
  | m :: l => if e b m = 0 then m :: did (t b m) l else did (t b m) l
def nof (b : Bs) : List Nat → Prop
  | [] => True
  | m :: l => e b m ≠ 13 ∧ nof (t b m) l
def took (b : Bs) : List Nat → Option (List Nat) × Bs
  | [] => (some [], b)
  | m :: l => if e b m = 13 then (none, t b m) else ((took (t b m) l).1.map fun x => if e b m = 0 then m :: x else x, (took (t b m) l).2)
def tkE : Option (List Nat) → Int
  | none => 13
  | some _ => 0
variable {e t} {b : Bs}
theorem run_snoc (l : List Nat) (m : Nat) : run t b (l ++ [m]) = t (run t b l) m := by unfold run; rw [List.foldl_append]; rfl
theorem did_snoc : ∀ (l : List Nat) (b : Bs) (m : Nat), did e t b (l ++ [m]) = did e t b l ++ if e (run t b l) m = 0 then [m] else []
  | [], b, m => by
    show (if e b m = 0 then m :: [] else []) = [] ++ _
    rw [List.nil_append]; rfl
  | x :: l, b, m => by
    show (if e b x = 0 then x :: did e t (t b x) (l ++ [m]) else did e t (t b x) (l ++ [m])) = (if e b x = 0 then x :: did e t (t b x) l else did e t (t b x) l) ++ if e (run t (t b x) l) m = 0 then [m] else []
    rw [did_snoc l (t b x) m]
    split <;> rfl
theorem nof_snoc : ∀ (l : List Nat) (b : Bs) (m : Nat), nof e t b (l ++ [m]) ↔ nof e t b l ∧ e (run t b l) m ≠ 13
  | [], b, m => by
    show e b m ≠ 13 ∧ True ↔ True ∧ e b m ≠ 13
    exact ⟨fun h => ⟨trivial, h.1⟩, fun h => ⟨h.2, trivial⟩⟩
  | x :: l, b, m => by
    show e b x ≠ 13 ∧ nof e t (t b x) (l ++ [m]) ↔ (e b x ≠ 13 ∧ nof e t (t b x) l) ∧ e (run t (t b x) l) m ≠ 13
    rw [nof_snoc l (t b x) m, and_assoc]
theorem did_sub : ∀ (l : List Nat) (b : Bs) , (did e t b l).length ≤ l.length
  | [], _ => Nat.le_refl _
  | x :: l, b => by
    show (if e b x = 0 then x :: did e t (t b x) l else did e t (t b x) l).length ≤ l.length + 1
    have := did_sub l (t b x)
    split
    · rw [List.length_cons]; omega
    · omega
theorem took_done : ∀ (l : List Nat) (b : Bs), nof e t b l → took e t b l = (some (did e t b l), run t b l)
  | [], _, _ => rfl
  | x :: l, b, h => by
    have h1 : e b x ≠ 13 := h.1
    show (if e b x = 13 then (none, t b x) else ((took e t (t b x) l).1.map fun y => if e b x = 0 then x :: y else y, (took e t (t b x) l).2)) = _
    rw [if_neg h1, took_done l (t b x) h.2]
    show (some (if e b x = 0 then x :: did e t (t b x) l else did e t (t b x) l), run t (t b x) l) = _
    rfl
theorem took_stop : ∀ (pre : List Nat) (b : Bs) (m : Nat) (l : List Nat), nof e t b pre → e (run t b pre) m = 13 → took e t b (pre ++ m :: l) = (none, run t b (pre ++ [m]))
  | [], b, m, l, _, h => by
    have h1 : e b m = 13 := h
    show (if e b m = 13 then (none, t b m) else _) = _
    rw [if_pos h1]; rfl
  | x :: pre, b, m, l, h, h2 => by
    have h1 : e b x ≠ 13 := h.1
    show (if e b x = 13 then (none, t b x) else ((took e t (t b x) (pre ++ m :: l)).1.map fun y => if e b x = 0 then x :: y else y, (took e t (t b x) (pre ++ m :: l)).2)) = _
    rw [if_neg h1, took_stop pre (t b x) m l h.2 h2]
    rfl
end
section
variable (T : (Nat → Nat) → Bool) (p : Nat)
def rde (b : Bs) (m : Nat) : Ent := rdB (BuM.ahead b) (m : Int) (p : Int)
def rdt (b : Bs) (m : Nat) : Bs := BuM.rdT b (m : Int) (p : Int)
def hit (b : Bs) (m : Nat) : Bool := decide ((rde p b m).e = 0) && T (rde p b m).s
def non (b : Bs) : List Nat → Prop
  | [] => True
  | m :: l => ((rde p b m).e ≠ 13 ∧ hit T p b m = false) ∧ non (rdt p b m) l
def why (b : Bs) : List Nat → Int → Int
  | [], y => y
  | m :: l, y => why (rdt p b m) l (if (rde p b m).e = 0 then 11 else y)
def nodeR (b : Bs) (pre : List Nat) : List Nat → Int → (Nat → Nat) × List Nat × Int × Bs
  | [], y => (fun _ => 0, [], y, b)
  | m :: l, y => if (rde p b m).e = 13 then (fun _ => 0, [], 13, rdt p b m) else if hit T p b m = true then ((rde p b m).s, pre, 0, rdt p b m) else nodeR (rdt p b m) (pre ++ [m]) l (if (rde p b m).e = 0 then 11 else y)
variable {T p} {b : Bs}
theorem non_snoc : ∀ (l : List Nat) (b : Bs) (m : Nat), non T p b (l ++ [m]) ↔ non T p b l ∧ ((rde p (run (rdt p) b l) m).e ≠ 13 ∧ hit T p (run (rdt p) b l) m = false)
  | [], b, m => by
    show ((rde p b m).e ≠ 13 ∧ hit T p b m = false) ∧ True ↔ True ∧ ((rde p b m).e ≠ 13 ∧ hit T p b m = false)
    exact ⟨fun h => ⟨trivial, h.1⟩, fun h => ⟨h.2, trivial⟩⟩
  | x :: l, b, m => by
    show ((rde p b x).e ≠ 13 ∧ hit T p b x = false) ∧ non T p (rdt p b x) (l ++ [m]) ↔ (((rde p b x).e ≠ 13 ∧ hit T p b x = false) ∧ non T p (rdt p b x) l) ∧ ((rde p (run (rdt p) (rdt p b x) l) m).e ≠ 13 ∧ hit T p (run (rdt p) (rdt p b x) l) m = false)
    rw [non_snoc l (rdt p b x) m]
    exact and_assoc.symm
theorem why_snoc : ∀ (l : List Nat) (b : Bs) (m : Nat) (y : Int), why p b (l ++ [m]) y = if (rde p (run (rdt p) b l) m).e = 0 then 11 else why p b l y
  | [], b, m, y => rfl
  | x :: l, b, m, y => by
    show why p (rdt p b x) (l ++ [m]) _ = _
    rw [why_snoc l (rdt p b x) m]
    rfl
theorem nodeR_done : ∀ (l : List Nat) (b : Bs) (pre : List Nat) (y : Int), non T p b l → nodeR T p b pre l y = (fun _ => 0, [], why p b l y, run (rdt p) b l)
  | [], _, _, _, _ => rfl
  | x :: l, b, pre, y, h => by
    have h1 : (rde p b x).e ≠ 13 := h.1.1
    have h2 : ¬ hit T p b x = true := by rw [h.1.2]; exact Bool.false_ne_true
    show (if (rde p b x).e = 13 then _ else if hit T p b x = true then _ else nodeR T p (rdt p b x) (pre ++ [x]) l _) = _
    rw [if_neg h1, if_neg h2, nodeR_done l _ _ _ h.2]
    rfl
theorem nodeR_off : ∀ (l : List Nat) (b : Bs) (pre : List Nat) (y : Int) (m : Nat) (l2 : List Nat), non T p b l → (rde p (run (rdt p) b l) m).e = 13 → nodeR T p b pre (l ++ m :: l2) y = (fun _ => 0, [], 13, run (rdt p) b (l ++ [m]))
  | [], b, pre, y, m, l2, _, h => by
    have h1 : (rde p b m).e = 13 := h
    show (if (rde p b m).e = 13 then (fun _ => 0, [], 13, rdt p b m) else _) = _
    rw [if_pos h1]; rfl
  | x :: l, b, pre, y, m, l2, h, h3 => by
    have h1 : (rde p b x).e ≠ 13 := h.1.1
    have h2 : ¬ hit T p b x = true := by rw [h.1.2]; exact Bool.false_ne_true
    show (if (rde p b x).e = 13 then _ else if hit T p b x = true then _ else nodeR T p (rdt p b x) (pre ++ [x]) (l ++ m :: l2) _) = _
    rw [if_neg h1, if_neg h2, nodeR_off l _ _ _ m l2 h.2 h3]
    rfl
theorem nodeR_hit : ∀ (l : List Nat) (b : Bs) (pre : List Nat) (y : Int) (m : Nat) (l2 : List Nat), non T p b l → (rde p (run (rdt p) b l) m).e ≠ 13 → hit T p (run (rdt p) b l) m = true → nodeR T p b pre (l ++ m :: l2) y = ((rde p (run (rdt p) b l) m).s, pre ++ l, 0, run (rdt p) b (l ++ [m]))
  | [], b, pre, y, m, l2, _, h, h4 => by
    have h1 : (rde p b m).e ≠ 13 := h
    have h5 : hit T p b m = true := h4
    show (if (rde p b m).e = 13 then _ else if hit T p b m = true then ((rde p b m).s, pre, 0, rdt p b m) else _) = _
    rw [if_neg h1, if_pos h5, List.append_nil]; rfl
  | x :: l, b, pre, y, m, l2, h, h3, h4 => by
    have h1 : (rde p b x).e ≠ 13 := h.1.1
    have h2 : ¬ hit T p b x = true := by rw [h.1.2]; exact Bool.false_ne_true
    show (if (rde p b x).e = 13 then _ else if hit T p b x = true then _ else nodeR T p (rdt p b x) (pre ++ [x]) (l ++ m :: l2) _) = _
    rw [if_neg h1, if_neg h2, nodeR_hit l _ _ _ m l2 h.2 h3 h4, List.append_assoc]
    rfl
end
end MiM
end Go.Proofs.YtklmjdhhnnanoaaGreatDoor
set_option maxRecDepth 100000
namespace Go.Proofs.YtklmjdhhnnanoaaGreatDoor
open Go.ChangeShapes Go.WideShapes Go.ChangeAt Go.RowKit
attribute [local go_sem] Gives GivesE
namespace GeM
def prL (p : Int × Int) : List Value := [.int .i64 p.1, .int .i64 p.2]
theorem eltPr : EltX 191 2 prL where
  pos := by omega
  len := fun _ => rfl
  one p u hu := by
    simp only [prL, List.mem_cons, List.not_mem_nil, or_false] at hu
    rcases hu with rfl | rfl <;> rfl
  info := elt_info (by kernel_rfl) (by kernel_rfl) (by kernel_rfl)
theorem undPr : Tryz.prog.underlying 208 = some (.slice 191) := Tryz.underlying208
theorem tPr (p : Int × Int) : RowT 191 (#[Value.int .i64 p.1, .int .i64 p.2] : Array Value).size := ⟨by kernel_rfl, _, Tryz.underlying191, rfl⟩
def thr (a b : Int) (l : List (Int × Int)) : Bool := decide (Good a b) && l.all fun p => decide (0 ≤ p.1 ∧ p.1 < p.2)
set_option maxHeartbeats 400000 in
theorem there_any {A : Option Addr} {l : List (Int × Int)} {n c : Nat} {S : Nat → Prop} (a b : Int) (w : World) (hl : Sli 2 prL S w A l n c) :
    Calls Tryz.prog 112 #[gv a b, .slice A n c] w fun e w' => e = .returned (.bool (thr a b l)) ∧ Below w.heap.size w w' := by
  have HL := hid hl
  have hn : n ≤ 9223372036854775807 := by have := hl.cap; have := hl.max; unfold maxLen at *; omega
  clear hl
  obtain ⟨q, hq⟩ : ∃ q, q = thr a b l := ⟨_, rfl⟩
  rw [← hq]
  have HQ := hid hq
  clear hq
  unfold gv
  go_enter Tryz.func112, Tryz.ntmps112
  go_wp2_with fail
  go_loopw [9] (fun u wr => ∃ k : Nat, u = .int .i64 k ∧ k ≤ n ∧ Hid (At w w.heap.size a b wr) ∧ Hid (∀ i y, i < k → l[i]? = some y → 0 ≤ y.1 ∧ y.1 < y.2)) (fun u _ => n - (intOf u).toNat)
  case atStart => exact ⟨0, rfl, by omega, hid (At.new w a b), hid fun i y hi => absurd hi (Nat.not_lt_zero _)⟩
  case round =>
    obtain ⟨k, rfl, hk, HA, HM⟩ := hrel
    by_cases hgo : k < n
    · have t1 : (k : Int) < n := by omega
      obtain ⟨y, hy⟩ : ∃ y, l[k]? = some y := ⟨_, List.getElem?_eq_getElem (by rw [HL.out.len]; exact hgo)⟩
      obtain ⟨g, o, rfl, _, hbl, hr⟩ := (HL.out.turn (Turn.of_new (S := fun _ => False) HA.out.bel) fun _ _ _ e => e).some hy
      have HY := hid hy
      have HR := hid hr
      clear hy hr
      obtain ⟨y1, y2⟩ := y
      by_cases hok : 0 ≤ y1 ∧ y1 < y2
      · obtain ⟨o1, o2⟩ := hok
        have t2 : ¬ y1 < 0 := by omega
        have t3 : ¬ y2 ≤ y1 := by omega
        go_wp2_with ((with_reducible apply ldR (cs := #[Value.int .i64 y1, Value.int .i64 y2]) (tPr (y1, y2))); rfl; exact HR.out)
        go_roundw
        case rel =>
          refine ⟨k + 1, by go_num, by omega, hid (HA.out.on (below_al _)), hid fun i x hi hx => ?_⟩
          by_cases e : i = k
          · rw [e, HY.out] at hx
            cases hx
            exact ⟨o1, o2⟩
          · exact HM.out i x (by omega) hx
        case measure => simp [intOf] <;> omega
      · have hf : thr a b l = false := by
          unfold thr
          rw [Bool.and_eq_false_iff]
          refine .inr (Bool.eq_false_iff.2 fun e => hok ?_)
          have := List.all_eq_true.1 e _ (List.mem_of_getElem? HY.out)
          exact of_decide_eq_true this
        have HF := hid hf
        clear hf
        have HB := hid ((HA.out.on (below_al (.cells #[Value.int .i64 y1, Value.int .i64 y2] 191))).bel)
        by_cases t2 : y1 < 0
        · go_wp2_with ((with_reducible apply ldR (cs := #[Value.int .i64 y1, Value.int .i64 y2]) (tPr (y1, y2))); rfl; exact HR.out)
          go_ret
          exact ⟨by rw [HQ.out, HF.out]; rfl, HB.out⟩
        · have t3 : y2 ≤ y1 := by omega
          go_wp2_with ((with_reducible apply ldR (cs := #[Value.int .i64 y1, Value.int .i64 y2]) (tPr (y1, y2))); rfl; exact HR.out)
          go_ret
          exact ⟨by rw [HQ.out, HF.out]; rfl, HB.out⟩
    · have t1 : ¬ (k : Int) < n := by omega
      have hall : (l.all fun p => decide (0 ≤ p.1 ∧ p.1 < p.2)) = true := List.all_eq_true.2 fun x hx => by
        obtain ⟨i, hi⟩ := List.getElem?_of_mem hx
        exact decide_eq_true (HM.out i x (by have := (List.getElem?_eq_some_iff.1 hi).1; rw [HL.out.len] at this; omega) hi)
      have HT := hid (show thr a b l = decide (Good a b) by unfold thr; rw [hall, Bool.and_true])
      clear hall
      go_wp2_with ((with_reducible apply ldR (cs := #[Value.int .i64 a, .int .i64 b]) (tGe _ _)); rfl; exact HA.out.blk.whole)
      refine (check_any _ _ _).mono ?_
      rintro e w1 ⟨rfl, h1⟩
      have A1 := hid (HA.out.on h1)
      clear h1 HA
      by_cases hg : Good a b
      · rw [if_pos hg]
        go_wp2_with fail
        go_ret
        exact ⟨by rw [HQ.out, HT.out, decide_eq_true hg]; rfl, A1.out.bel⟩
      · rw [if_neg hg]
        go_wp2_with fail
        go_ret
        exact ⟨by rw [HQ.out, HT.out, decide_eq_false hg]; rfl, A1.out.bel⟩
theorem thr_one {a b n : Int} {k : Nat} : thr a b [(n, (k : Int))] = decide (Om a b n k) := by
  rw [Bool.eq_iff_iff, decide_eq_true_iff]
  unfold thr Om
  simp
theorem gE_ldG {a : Act} {w : World} {dst : Option Tmp} {ty T : TypeId} {pos : String} {after : Array Edge} {x : Operand} {gd : Option (Nat × Bool)} {R : Value → World → Prop} {g o : Nat} {cs : Array Value}
    (hT : RowT T cs.size) (hx : a.eval x = .pointer (some ⟨g, o, none⟩)) (hb : w.rangeAt g o cs.toList) (hR : R (.agg cs) w) : GivesE Tryz.prog ⟨dst, .load T x, ty, pos, after, gd⟩ a w R := by
  unfold GivesE
  simp only [execOp, hx, Sem.run_bind, run_ldR hT hb, Result.andThen_ok, Sem.run_pure]
  exact hR
structure LitC (B : World) (g : Nat) (a b : Int) (p : Int × Int) (d5 : Bool) (v5 : Value) (w : World) : Prop where
  at' : At B g a b w
  lit : d5 = true → ∃ A c, v5 = .slice A 1 c ∧ Sli 2 prL (fun _ => True) w A [p] 1 c
theorem LitC.on {B : World} {g : Nat} {a b : Int} {p : Int × Int} {d5 : Bool} {v5 : Value} {w w' : World} (h : LitC B g a b p d5 v5 w) (hb : Below w.heap.size w w') : LitC B g a b p d5 v5 w' :=
  ⟨h.at'.on hb, fun e => by
    obtain ⟨A, c, h1, h2⟩ := h.lit e
    exact ⟨A, c, h1, h2.turn (Turn.of_new (S := fun _ => False) hb) fun _ _ _ e => e⟩⟩
set_option maxHeartbeats 400000 in
theorem at_any (a b n : Int) (w : World) : Calls Tryz.prog 82 #[gv a b, .int .i64 n] w fun e w' => e = .returned (v3 (atP a b n)) ∧ Below w.heap.size w w' := by
  obtain ⟨k, hk⟩ : ∃ k, k = L lv a b := ⟨_, rfl⟩
  have K := hid hk
  have LA := hid (leaves_any a b)
  rw [← hk] at LA
  clear hk
  unfold gv
  go_enter Tryz.func82, Tryz.ntmps82
  go_wp2_with fail
  refine wp_region_c (S := yS [some (gv a b), some (.int .i64 n), some (gv a b), some (.int .i64 (k : Nat)), some (.agg #[.int .i64 n, .int .i64 (k : Nat)])] [(5, kSl 1)]) (C := fun d vs w' => LitC w w.heap.size a b (n, (k : Int)) (d 5) (vs 5) w') 6 (by kernel_rfl) (by kernel_rfl) (by kernel_rfl) _
    (yS_ok _ fun y hy => by simp only [List.mem_cons, List.not_mem_nil, or_false] at hy; subst hy; exact kSl_ok _) ⟨(At.new w a b).drew, (fun e => by cases e)⟩ fun vs => ?_
  simp only [List.take_succ_cons, List.take_zero, List.drop_succ_cons, List.drop_zero]
  refine ⟨.inl ⟨rfl, fun dd w' hd hnx hw hC => ?_⟩, fun e => ?_⟩
  · exact gE_ldG (cs := #[Value.int .i64 a, .int .i64 b]) (tGe a b) rfl hC.at'.blk.whole ⟨rfl, hC⟩
  have e' : vs 0 = _ := e
  rw [e']
  clear e e'
  simp only [Act.put, sqA, sqB, sqC]
  refine ⟨.inl ⟨rfl, fun dd w' hd hnx hw hC => ?_⟩, fun e => ?_⟩
  · go_simp
    first | exact ⟨rfl, hC⟩ | exact hC
  have e' : vs 1 = _ := e
  rw [e']
  clear e e'
  simp only [Act.put, sqA, sqB, sqC]
  refine ⟨.inl ⟨rfl, fun dd w' hd hnx hw hC => ?_⟩, fun e => ?_⟩
  · exact gE_ldG (cs := #[Value.int .i64 a, .int .i64 b]) (tGe a b) rfl hC.at'.blk.whole ⟨rfl, hC⟩
  have e' : vs 2 = _ := e
  rw [e']
  clear e e'
  simp only [Act.put, sqA, sqB, sqC]
  refine ⟨.inl ⟨rfl, fun dd w' hd hnx hw hC => ?_⟩, fun e => ?_⟩
  · go_simp
    refine (LA.out w').mono ?_
    rintro e w2 ⟨rfl, h2⟩
    exact ⟨_, rfl, rfl, hC.on h2⟩
  have e' : vs 3 = _ := e
  rw [e']
  clear e e'
  simp only [Act.put, sqA, sqB, sqC]
  refine ⟨.inl ⟨rfl, fun dd w' hd hnx hw hC => ?_⟩, fun e => ?_⟩
  · go_simp
    first | exact ⟨rfl, hC⟩ | exact hC
  have e' : vs 4 = _ := e
  rw [e']
  clear e e'
  simp only [Act.put, sqA, sqB, sqC]
  refine ⟨.inl ⟨rfl, fun dd w' hd hnx hw hC => ?_⟩, fun e => ?_⟩
  · have ha := (Below.refl w'.heap.size w').alloc (Nat.le_refl _) (.cells (prL (n, (k : Int))).toArray 191)
    exact gE_lit1 (x := (n, (k : Int))) eltPr undPr (by omega) rfl rfl ⟨⟨_, _, rfl⟩, hC.at'.on ha, fun _ => ⟨_, _, rfl, sli_lit1 eltPr (n, (k : Int)) w' trivial⟩⟩
  obtain ⟨A7, c7, e'⟩ : ∃ (A : Option Addr) (c : Nat), vs 5 = .slice A 1 c := e
  rw [e']
  have E7 := hid e'
  clear e'
  simp only [Act.put, sqA, sqB, sqC]
  intro dd w1 hall hC
  have A1 := hid hC.at'
  obtain ⟨A2, c2, e2, l2⟩ := hC.lit (hall 5 (by omega))
  rw [E7.out] at e2
  cases e2
  have L2 := hid l2
  clear hC l2 hall E7
  go_wp2_with fail
  refine (there_any a b _ L2.out).mono ?_
  rintro e w3 ⟨rfl, h3⟩
  rw [thr_one]
  have A3 := hid (A1.out.on h3)
  clear h3 A1 L2
  by_cases h : Om a b n k
  · rw [decide_eq_true h]
    have h' := h
    rw [K.out] at h'
    obtain ⟨m, q, y, rfl, rfl, rfl, hg, hy⟩ := om_nat h'
    have hy' : y < lv m q := by rwa [L_good hg] at hy
    have HP := hid (atP_ok hg hy')
    have hb := r_bd hg
    have hlo := lv_bd hg
    have hd0 : ¬ m = 0 := by omega
    obtain ⟨s, hs⟩ : ∃ s, s = y / m := ⟨_, rfl⟩
    obtain ⟨t, ht⟩ : ∃ t, t = y % m := ⟨_, rfl⟩
    have hs1 : s ≤ y := by rw [hs]; exact Nat.div_le_self _ _
    have E1 := hid (show (y : Int).tdiv (m : Int) = (s : Int) by rw [hs]; exact (Int.ofNat_tdiv y m).symm)
    have E2 := hid (show (y : Int).tmod (m : Int) = (t : Int) by rw [ht]; exact (Int.ofNat_tmod y m).symm)
    have E3 := hid (show IntKind.i64.wrap (s : Int) = (s : Int) from IntWalk.i64_in _ (by omega))
    rw [← hs, ← ht] at HP
    clear h h' hg hy hy' hs ht hb hlo hs1
    go_wp2_with fail
    refine wp_region_tail (C := At w w.heap.size m q) 9 (by kernel_rfl) (by kernel_rfl) (by kernel_rfl) A3.out.drew ?_
    simp only [List.take_succ_cons, List.take_zero, List.drop_succ_cons, List.drop_zero]
    apply wpK_val
    · rfl
    · intro w' hw'
      go_simp
      first | exact rfl | exact ⟨rfl, hw'⟩
    simp only [Act.put, sqA, sqB, sqC]
    apply wpK_val
    · rfl
    · intro w' hw'
      go_simp
      first | exact rfl | exact ⟨rfl, hw'⟩
    simp only [Act.put, sqA, sqB, sqC]
    apply wpK_val
    · rfl
    · intro w' hw'
      have hcell := hw'.c0
      go_simp
      first | exact rfl | exact ⟨rfl, hw'⟩
    simp only [Act.put, sqA, sqB, sqC]
    apply wpK_val
    · rfl
    · intro w' hw'
      have h1 : _ = _ := E1.out
      have h2 : _ = _ := E3.out
      go_simp
      first | exact rfl | exact ⟨rfl, hw'⟩
    simp only [Act.put, sqA, sqB, sqC]
    apply wpK_val
    · rfl
    · intro w' hw'
      go_simp
      first | exact rfl | exact ⟨rfl, hw'⟩
    simp only [Act.put, sqA, sqB, sqC]
    apply wpK_val
    · rfl
    · intro w' hw'
      go_simp
      first | exact rfl | exact ⟨rfl, hw'⟩
    simp only [Act.put, sqA, sqB, sqC]
    apply wpK_val
    · rfl
    · intro w' hw'
      have hcell := hw'.c0
      go_simp
      first | exact rfl | exact ⟨rfl, hw'⟩
    simp only [Act.put, sqA, sqB, sqC]
    apply wpK_val
    · rfl
    · intro w' hw'
      have h1 : _ = _ := E2.out
      go_simp
      first | exact rfl | exact ⟨rfl, hw'⟩
    simp only [Act.put, sqA, sqB, sqC]
    apply wpK_val
    · rfl
    · intro w' hw'
      go_simp
      first | exact rfl | exact ⟨rfl, hw'⟩
    simp only [Act.put, sqA, sqB, sqC]
    refine wpK_nil fun w5 hw5 => ?_
    have A5 := hid hw5
    clear hw5
    go_wp2_with fail
    go_ret3
    exact ⟨by rw [HP.out]; rfl, A5.out.bel⟩
  · rw [decide_eq_false h]
    rw [K.out] at h
    have H := hid (atP_no h)
    clear h
    go_wp2_with fail
    go_ret3
    exact ⟨by rw [H.out]; rfl, A3.out.bel⟩
end GeM
end Go.Proofs.YtklmjdhhnnanoaaGreatDoor
set_option maxRecDepth 100000
namespace Go.Proofs.YtklmjdhhnnanoaaGreatDoor
open Go.ChangeShapes Go.WideShapes Go.ChangeAt Go.RowKit
attribute [local go_sem] Gives GivesE
section
variable {ops : Array Oper} {Q : Exit → Act → World → Prop} {a : Act} {w : World} {rest : List Oper} {dst : Option Tmp} {ty r : TypeId} {pos : String} {after : Array Edge} {x y : Operand} {f g : Nat → Nat} {T : TypeId} {n : Nat}
end
section
variable {ops : Array Oper} {Q : Exit → Act → World → Prop} {a : Act} {w : World} {rest : List Oper} {dst : Option Tmp} {ty T : TypeId} {pos : String} {after : Array Edge} {gd : Option (Nat × Bool)} {R : Value → World → Prop} {cs : Array Value} {ps : Array (Nat × Operand)} {vs : Array (Nat × Value)}
end
section
variable {ops : Array Oper} {Q : Exit → Act → World → Prop} {a : Act} {w : World} {rest : List Oper} {dst : Option Tmp} {ty r T : TypeId} {pos : String} {after : Array Edge} {x y : Operand} {g o n : Nat} {f h' : Nat → Nat} {gd : Option (Nat × Bool)}
end
end Go.Proofs.YtklmjdhhnnanoaaGreatDoor
set_option maxRecDepth 100000
namespace Go.Proofs.YtklmjdhhnnanoaaGreatDoor
open Go.ChangeShapes Go.WideShapes Go.ChangeAt Go.RowKit
attribute [local go_sem] Gives GivesE
namespace MiM
open GeM
theorem ret_rowM {a : Act} {w : World} {g : Nat} {t T : TypeId} {cs : Array Value} {fn : Func} {R : Ending → World → Prop} {p q : Tmp} {v : Value} (hT : RowT T cs.size) (hr : fn.results = #[.cell p T, .tmp q]) (hp : a.tmps.getD p undef = .pointer (some ⟨g, 0, none⟩))
    (hq : a.tmps.getD q undef = v) (hdf : a.defers = []) (hb : Blk w g t cs) (hR : R (.returned (.tuple #[.agg cs, v])) w) : bodyPost Tryz.prog fn R .ret a w := by
  obtain ⟨d, h1, h2⟩ := hT.desc
  refine bodyPost_ret ?_ hdf hR
  have hv : (loadVar T ⟨g, 0, none⟩).run Tryz.prog w = .ok (.agg cs) w := run_loadVar_row w g _ _ cs (0, 0) _ hb h1 (by cases d <;> first | rfl | exact h2) hT.size
  have hp' : a.tmps[p]?.getD undef = .pointer (some ⟨g, 0, none⟩) := by simpa using hp
  have hq' : a.tmps[q]?.getD undef = v := by simpa using hq
  simp [results, hr, hp', hq', asAddr, hv]
abbrev tyW : TypeId := 39
abbrev tyH : TypeId := 129
def wrL (k i : Int) (x : Nat → Nat) : List Value := .int .i64 k :: .int .i64 i :: (ar 64 x).toList
theorem wrL_len (k i : Int) (x : Nat → Nat) : (wrL k i x).length = 66 := by unfold wrL; simp [size_ar]
theorem tWr (k i : Int) (x : Nat → Nat) : RowT tyW (wrL k i x).toArray.size := by
  rw [List.size_toArray, wrL_len]
  exact ⟨by kernel_rfl, _, Tryz.underlying39, rfl⟩
theorem wr_x {w : World} {g : Nat} {k i : Int} {x : Nat → Nat} (h : Blk w g tyW (wrL k i x).toArray) : w.rangeAt g 2 (ar 64 x).toList := fun j v hj => by
  have h1 : w.rangeAt g 0 (wrL k i x) := h.whole
  have := h1 (j + 2) v (by unfold wrL; rw [List.getElem?_cons_succ, List.getElem?_cons_succ]; exact hj)
  rwa [show 0 + (j + 2) = 2 + j by omega] at this
theorem wr_k {w : World} {g : Nat} {k i : Int} {x : Nat → Nat} (h : Blk w g tyW (wrL k i x).toArray) : w.cell? ⟨g, 0, none⟩ = some (.int .i64 k) := h.cell 0
theorem wr_i {w : World} {g : Nat} {k i : Int} {x : Nat → Nat} (h : Blk w g tyW (wrL k i x).toArray) : w.cell? ⟨g, 1, none⟩ = some (.int .i64 i) := h.cell 1
theorem built_wr (k i : Int) (x : Nat → Nat) : Tryz.prog.built 39 [(0, .int .i64 k), (1, .int .i64 i), (2, .agg (ar 64 x))] = some (wrL k i x).toArray := by kernel_rfl
theorem built_w0 (k i : Int) : Tryz.prog.built 39 [(0, .int .i64 k), (1, .int .i64 i)] = some (wrL k i fun _ => 0).toArray := by kernel_rfl
section
variable {ops : Array Oper} {Q : Exit → Act → World → Prop} {a : Act} {w : World} {rest : List Oper} {dst : Option Tmp} {ty : TypeId} {pos : String} {after : Array Edge} {T : TypeId} {parts : Array (Nat × Operand)} {vs : List (Nat × Value)} {cs : Array Value}
theorem wblV (hb : Tryz.prog.built T vs = some cs) (hp : (parts.map fun (i, x) => (i, a.eval x)) = vs.toArray) (hk : wpList Tryz.prog ops Q rest (a.put dst (.agg cs)) w) : wpList Tryz.prog ops Q (⟨dst, .build T parts, ty, pos, after, none⟩ :: rest) a w := by
  have hr : (Instr.build T vs.toArray).run Tryz.prog w = .ok (.agg cs) w := run_build w _ _ _ hb
  refine wpList_plain rfl fun K hK => ?_
  unfold Oper.wp execOp
  simp only [Sem.run_bind, hp, hr, Result.andThen_ok, Sem.run_pure]
  exact hK _ _ hk
end
def hoL (f n p : Nat) : Array Value := #[.int .i64 (f : Nat), .int .i64 (n : Nat), .int .i64 (p : Nat)]
theorem tHo (f n p : Nat) : RowT tyH (hoL f n p).size := ⟨by kernel_rfl, _, Tryz.underlying129, rfl⟩
theorem ho_one (f n p : Nat) : (hoL f n p).all (·.oneCell') = true := by unfold hoL; simp [Value.oneCell']
def hoV : Option (Nat × Nat × Nat) → Value
  | some (f, n, p) => .tuple #[.agg (hoL f n p), .int .i64 0]
  | none => .tuple #[.agg (hoL 0 0 0), .int .i64 2]
structure HoB (w : World) (a b k i : Int) (x : Nat → Nat) (gg gw gh : Nat) (w1 : World) : Prop where
  geo : Blk w1 gg tyG #[.int .i64 a, .int .i64 b]
  wr : Blk w1 gw tyW (wrL k i x).toArray
  ho : Blk w1 gh tyH (hoL 0 0 0)
  bel : Below w.heap.size w w1
  lo : w.heap.size ≤ gh
theorem HoB.on {w : World} {a b k i : Int} {x : Nat → Nat} {gg gw gh : Nat} {w1 w2 : World} (h : HoB w a b k i x gg gw gh w1) (hb : Below w1.heap.size w1 w2) : HoB w a b k i x gg gw gh w2 :=
  ⟨h.geo.below hb h.geo.lt, h.wr.below hb h.wr.lt, h.ho.below hb h.ho.lt, h.bel.trans (hb.mono h.bel.size), h.lo⟩
theorem HoB.mk' (w : World) (a b k i : Int) (x : Nat → Nat) : HoB w a b k i x w.heap.size (w.heap.size + 1) (w.heap.size + 2) (((w.alloc (.cells #[.int .i64 a, .int .i64 b] tyG)).alloc (.cells (wrL k i x).toArray tyW)).alloc (.cells (hoL 0 0 0) tyH)) :=
  ⟨((Blk.new _ _ _).alloc _).alloc _, (Blk.top rfl (by simp)).alloc _, Blk.top rfl (by simp), (((Below.refl _ _).alloc (Nat.le_refl _) _).alloc (by simp) _).alloc (by simp; omega) _, by omega⟩
theorem hom_1 {a b i : Int} : hom a b 1 i = (pl a b 1 i).map fun p => (0, a.toNat, p) := rfl
theorem hom_3 {a b i : Int} : hom a b 3 i = (pl a b 3 i).map fun p => (i.toNat, 3, p) := rfl
theorem hom_4 {a b i : Int} (h : Om a b i (L lv a b)) : hom a b 4 i = (pl a b 4 ((i.toNat / a.toNat : Nat) : Int)).map fun p => (i.toNat % a.toNat, 1, p) := by
  show (if Om a b i (L lv a b) then _ else none) = _
  rw [if_pos h]
theorem hom_4n {a b i : Int} (h : ¬ Om a b i (L lv a b)) : hom a b 4 i = none := by
  show (if Om a b i (L lv a b) then _ else none) = _
  rw [if_neg h]
theorem hom_o {a b k i : Int} (h1 : k ≠ 1) (h3 : k ≠ 3) (h4 : k ≠ 4) : hom a b k i = none := by unfold hom; rw [if_neg h1, if_neg h3, if_neg h4]
set_option maxHeartbeats 1600000 in
theorem home_any (a b k i : Int) (x : Nat → Nat) (hi : -9223372036854775808 ≤ i ∧ i ≤ 9223372036854775807) (w : World) : Calls Tryz.prog 49 #[gv a b, .agg (wrL k i x).toArray] w fun e w' => e = .returned (hoV (hom a b k i)) ∧ Below w.heap.size w w' := by
  obtain ⟨R, hR⟩ : ∃ R, R = hom a b k i := ⟨_, rfl⟩
  rw [← hR]
  have HR := hid hR
  clear hR
  unfold gv
  go_enter Tryz.func49, Tryz.ntmps49
  go_upto_region 1 with fail
  obtain ⟨gg, hgg⟩ : ∃ g, g = w.heap.size := ⟨_, rfl⟩
  obtain ⟨gw, hgw⟩ : ∃ g, g = w.heap.size + 1 := ⟨_, rfl⟩
  obtain ⟨gh, hgh⟩ : ∃ g, g = w.heap.size + 2 := ⟨_, rfl⟩
  rw [show w.heap.size + 1 + 1 = gh by omega, ← hgw, ← hgg]
  generalize hW : World.alloc (World.alloc (World.alloc w _) _) _ = w1
  have E1 := hid (show HoB w a b k i x gg gw gh w1 by rw [hgg, hgw, hgh, ← hW]; exact HoB.mk' w a b k i x)
  have r0 := wr_k E1.out.wr
  have r1 := wr_i E1.out.wr
  have s0 : w1.cell? ⟨gg, 0, none⟩ = some (.int .i64 a) := E1.out.geo.cell 0
  clear hgg hgw hgh hW
  by_cases k1 : k = 1
  · subst k1
    go_wp2_with ((with_reducible apply ldR (cs := #[Value.int .i64 a, .int .i64 b]) (tGe _ _)); rfl; exact E1.out.geo.whole)
    refine (place_any a b 1 i hi _).mono ?_
    rintro e w2 ⟨rfl, h2⟩
    have E2 := hid (E1.out.on h2)
    clear h2 E1 r0 r1 s0
    cases hp : pl a b 1 i with
    | none =>
      unfold plV
      go_wp2_with ((with_reducible apply stR (tHo 0 0 0)); rfl; rfl; exact E2.out.ho; rfl; exact ho_one _ _ _)
      refine ret_rowM (tHo 0 0 0) rfl rfl rfl rfl (E2.out.ho.setRow_same _) ?_
      exact ⟨by rw [HR.out, hom_1, hp]; rfl, below_setRow E2.out.bel E2.out.lo _⟩
    | some p =>
      obtain ⟨m, q, rfl, rfl, _⟩ := good_nat (pl_some hp).1
      unfold plV
      go_wp2_with ((with_reducible apply stR (tHo 0 m p)); rfl; rfl; exact E2.out.ho; rfl; exact ho_one _ _ _)
      refine ret_rowM (tHo 0 m p) rfl rfl rfl rfl (E2.out.ho.setRow_same _) ?_
      exact ⟨by rw [HR.out, hom_1, hp]; rfl, below_setRow E2.out.bel E2.out.lo _⟩
  by_cases k3 : k = 3
  · subst k3
    clear k1
    go_wp2_with ((with_reducible apply ldR (cs := #[Value.int .i64 a, .int .i64 b]) (tGe _ _)); rfl; exact E1.out.geo.whole)
    refine (place_any a b 3 i hi _).mono ?_
    rintro e w2 ⟨rfl, h2⟩
    have E2 := hid (E1.out.on h2)
    clear h2 E1 r0 r1 s0
    cases hp : pl a b 3 i with
    | none =>
      unfold plV
      go_wp2_with ((with_reducible apply stR (tHo 0 0 0)); rfl; rfl; exact E2.out.ho; rfl; exact ho_one _ _ _)
      refine ret_rowM (tHo 0 0 0) rfl rfl rfl rfl (E2.out.ho.setRow_same _) ?_
      exact ⟨by rw [HR.out, hom_3, hp]; rfl, below_setRow E2.out.bel E2.out.lo _⟩
    | some p =>
      have hl := (pl_some hp).2.2.2.1
      obtain ⟨y, rfl⟩ : ∃ y : Nat, i = y := ⟨i.toNat, by omega⟩
      unfold plV
      go_wp2_with ((with_reducible apply stR (tHo y 3 p)); rfl; rfl; exact E2.out.ho; rfl; exact ho_one _ _ _)
      refine ret_rowM (tHo y 3 p) rfl rfl rfl rfl (E2.out.ho.setRow_same _) ?_
      exact ⟨by rw [HR.out, hom_3, hp]; rfl, below_setRow E2.out.bel E2.out.lo _⟩
  by_cases k4 : k = 4
  · subst k4
    clear k1 k3
    go_wp2_with ((with_reducible apply ldR (cs := #[Value.int .i64 a, .int .i64 b]) (tGe _ _)); rfl; exact E1.out.geo.whole)
    refine (at_any a b i _).mono ?_
    rintro e w2 ⟨rfl, h2⟩
    have E2 := hid (E1.out.on h2)
    clear h2 E1 r0 r1 s0
    by_cases ho : Om a b i (L lv a b)
    · have HR := hid (HR.out.trans (hom_4 ho))
      obtain ⟨m, q, y, rfl, rfl, rfl, hg, hy⟩ := om_nat ho
      rw [L_good hg] at hy
      rw [atP_ok hg hy]
      have r0 := wr_k E2.out.wr
      have hyb := lv_bd hg
      obtain ⟨s, hs⟩ : ∃ s, s = y / m := ⟨_, rfl⟩
      obtain ⟨t, ht⟩ : ∃ t, t = y % m := ⟨_, rfl⟩
      have hs1 : s ≤ y := by rw [hs]; exact Nat.div_le_self _ _
      rw [Int.toNat_natCast, Int.toNat_natCast, ← hs, ← ht] at HR
      rw [← hs, ← ht]
      unfold v3
      clear hs ht ho hg
      go_wp2_with ((with_reducible apply ldR (cs := #[Value.int .i64 m, .int .i64 q]) (tGe _ _)); rfl; exact E2.out.geo.whole)
      refine (place_any m q 4 s (by omega) _).mono ?_
      rintro e w3 ⟨rfl, h3⟩
      have E3 := hid (E2.out.on h3)
      clear h3 E2 r0
      cases hp : pl m q 4 s with
      | none =>
        unfold plV
        go_wp2_with ((with_reducible apply stR (tHo 0 0 0)); rfl; rfl; exact E3.out.ho; rfl; exact ho_one _ _ _)
        refine ret_rowM (tHo 0 0 0) rfl rfl rfl rfl (E3.out.ho.setRow_same _) ?_
        exact ⟨by rw [HR.out, hp]; rfl, below_setRow E3.out.bel E3.out.lo _⟩
      | some p =>
        unfold plV
        go_wp2_with ((with_reducible apply stR (tHo t 1 p)); rfl; rfl; exact E3.out.ho; rfl; exact ho_one _ _ _)
        refine ret_rowM (tHo t 1 p) rfl rfl rfl rfl (E3.out.ho.setRow_same _) ?_
        exact ⟨by rw [HR.out, hp]; rfl, below_setRow E3.out.bel E3.out.lo _⟩
    · rw [atP_no ho]
      have HR := hid (HR.out.trans (hom_4n ho))
      unfold v3
      clear ho
      go_wp2_with ((with_reducible apply stR (tHo 0 0 0)); rfl; rfl; exact E2.out.ho; rfl; exact ho_one _ _ _)
      refine ret_rowM (tHo 0 0 0) rfl rfl rfl rfl (E2.out.ho.setRow_same _) ?_
      exact ⟨by rw [HR.out]; rfl, below_setRow E2.out.bel E2.out.lo _⟩
  · have HR := hid (HR.out.trans (hom_o k1 k3 k4))
    have j1 : (k == 1) = false := by simp [k1]
    have j3 : (k == 3) = false := by simp [k3]
    have j4 : (k == 4) = false := by simp [k4]
    go_wp2_with ((with_reducible apply stR (tHo 0 0 0)); rfl; rfl; exact E1.out.ho; rfl; exact ho_one _ _ _)
    refine ret_rowM (tHo 0 0 0) rfl rfl rfl rfl (E1.out.ho.setRow_same _) ?_
    exact ⟨by rw [HR.out]; rfl, below_setRow E1.out.bel E1.out.lo _⟩
end MiM
end Go.Proofs.YtklmjdhhnnanoaaGreatDoor
set_option maxRecDepth 100000
namespace Go.Proofs.YtklmjdhhnnanoaaGreatDoor
open Go.ChangeShapes Go.WideShapes Go.ChangeAt Go.RowKit Go.Deep
namespace MiM
open GeM
theorem cells_se19 : Tryz.prog.cellsOf 37 = 64 := by kernel_rfl
theorem uSe19 : Tryz.prog.underlying 37 = some (.array 64 5) := Tryz.underlying37
theorem u8_wf19 {b : Int} (h : (Lit.int .u8 b).wf = true) : ∃ n : Nat, b = n ∧ n < 256 := by
  simp [Lit.wf, IntKind.min, IntKind.max, IntKind.bits, IntKind.signed] at h
  exact ⟨b.toNat, by omega, by omega⟩
section
variable {H : Type} {enc : TypeId × Value → H} {w : World} {base : Nat} {spare : Nat → Bool} {held : Bool}
theorem open_u819 {r : Reach} {b0 : Nat} {v : Value} {d : DataW H} {p : List MemPlace} (hv : Value.okWide Tryz.prog w r b0 5 v) (h : DataW.Trod enc Tryz.prog w base spare held 5 v d p) : ∃ x : Nat, v = .int .u8 (x : Nat) ∧ x < 256 := by
  obtain ⟨i, rfl⟩ := okWide_int Tryz.underlying5 hv
  obtain ⟨fuel, hf⟩ := h
  obtain ⟨n, e1, e2, wf⟩ := DataW.trod_int Tryz.underlying5 hf
  simp only [Value.cells, List.cons.injEq, Value.int.injEq, true_and, and_true] at e1
  subst e1
  obtain ⟨x, rfl, hx⟩ := u8_wf19 wf
  exact ⟨x, rfl, hx⟩
end
end MiM
end Go.Proofs.YtklmjdhhnnanoaaGreatDoor
set_option maxRecDepth 100000
namespace Go.Proofs.YtklmjdhhnnanoaaGreatDoor
open Go.ChangeShapes Go.WideShapes Go.ChangeAt Go.RowKit
namespace StM
def Tl (hl B : Nat) (k : Nat) : Prop := k = hl ∨ B ≤ k
theorem turn_putObj {T : Nat → Prop} (W : World) (l : Nat) (o' : Obj) (hl : T l) : Turn T W (W.putObj l o') := Turn.of_grown (grownBy_putObj' W l o') fun k e => by cases e; exact hl
theorem row_low {W : World} {B B' : Nat} {e : TypeId} {size : Nat} {v : Value} {k : Nat} {xs : List Value} (h : W.ownsRow B e size v k xs) (hB : B' ≤ B) : W.ownsRow B' e size v k xs :=
  ⟨h.1, h.2.imp id fun ⟨g, cap, cur, hv, hg, rest⟩ => ⟨g, cap, cur, hv, Nat.le_trans hB hg, rest⟩⟩
theorem box_app {W w1 : World} {n₀ B : Nat} {t e : TypeId} {size : Nat} {v v' : Value} {k m : Nat} {xs ys : List Value} {tmp : Obj} {T : Nat → Prop}
    (hv : Boxed W B t v) (hte : t ≠ e) (hrow : W.ownsRow n₀ e size v k xs) (hn₀ : n₀ ≤ W.heap.size) (hB : T B) (hT : ∀ k, n₀ ≤ k → T k)
    (hown' : w1.ownsRow n₀ e size v' m ys) (hgrow : (W.alloc tmp).grownBy w1 v.ownBlock) :
    Boxed w1 B t v ∧ Boxed (w1.setCell ⟨B, 0, none⟩ v') B t v' ∧ (w1.setCell ⟨B, 0, none⟩ v').ownsRow n₀ e size v' m ys ∧ KeepsOthers W (w1.setCell ⟨B, 0, none⟩ v') ∧ Turn T W (w1.setCell ⟨B, 0, none⟩ v') := by
  obtain ⟨h1, h2, _, h4, _⟩ := hv.appended hte (row_low hrow (Nat.zero_le _)) (Nat.zero_le _) (Nat.zero_le _) (row_low hown' (Nat.zero_le _)) hgrow
  refine ⟨h1, h2, hown'.kept (grownBy_setCell' w1 B v') (.inr (h1.not_row hte hown').symm), h4, ?_⟩
  refine ((Turn.alloc (S := T) W tmp).trans (Turn.of_grown (S := T) hgrow fun j ej => hT j ?_) fun _ e => .inl e).trans (Turn.setCell (S := T) w1 ⟨B, 0, none⟩ v' hB) fun _ e => .inl e
  rcases hrow.2 with ⟨rfl, _⟩ | ⟨g, cap, cur, rfl, hb, _, _⟩
  · simp [Value.ownBlock] at ej
  · obtain rfl : g = j := by simpa [Value.ownBlock] using ej
    exact hb
theorem infoI : (Tryz.prog.info? 3).map (fun i => (i.zero, i.size, i.bytes)) = some (some (.int .i64 0), 1, 8) := by kernel_rfl
end StM
end Go.Proofs.YtklmjdhhnnanoaaGreatDoor
set_option maxRecDepth 100000
namespace Go.Proofs.YtklmjdhhnnanoaaGreatDoor
open Go.ChangeShapes Go.WideShapes Go.ChangeAt Go.RowKit
namespace RgM
open StM
def Bk (B k : Nat) : Prop := k = B ∨ k = B + 1
def post {α : Type} (T : Nat → Prop) (I : List α → World → Prop) (Ix : Code → List α → World → Prop) (xs : List α) (W : World) : Exit → Act → World → Prop
  | .normal, _, W' => Turn T W W' ∧ I xs W'
  | .ret, _, W' => Turn T W W' ∧ Ix .ret xs W'
  | .exit id, _, W' => Turn T W W' ∧ Ix (.exit id) xs W'
  | .goto t, _, W' => Turn T W W' ∧ Ix (.goto t) xs W'
  | .panic _, _, _ => False
  | .outgrown, _, _ => False
section
variable {F : Fence} {n : Nat} {P : Program} {α : Type}
def Seq (F : Fence) (n : Nat) (P : Program) (gf : Nat) (lb : Array Value) (encs : α → Array Value) (T : Nat → Prop) (S Sp : List α → Prop) (N B : Nat) (w : World) : Prop :=
  ∀ (J Jx : List α → World → Prop) (W : World), Below B w W →
    (∀ pre x W1, J pre W1 → pre.length < N → YieldAt F (n - 1) P (B + 1) (encs x) W1 fun e W' => (e = .returned (.bool true) ∧ J (pre ++ [x]) W' ∧ Turn (fun k => T k ∨ Bk B k) W1 W') ∨ (e = .returned (.bool false) ∧ Jx (pre ++ [x]) W')) →
    J [] W → CallsIn F n P gf (#[.func (.yield (B + 1)) #[] #[]] ++ lb) W fun e W' => (∃ v, e = .returned v) ∧ ((∃ xs, S xs ∧ J xs W') ∨ (∃ pre, Sp pre ∧ Jx pre W'))
theorem turn_put {T : Nat → Prop} (W : World) (l : Nat) (o' : Obj) (hl : T l) : Turn T W (W.putObj l o') := Turn.of_grown (grownBy_putObj' W l o') fun k e => by cases e; exact hl
theorem wpIn_range {g : Operand} {ps : Array Tmp} {assign body : Code} {Q : Exit → Act → World → Prop} {a : Act} {w : World}
    (hro : F.round = none) (h1 : 1 ≤ n) {gf : Nat} {lb : Array Value} (hg : a.eval g = .func (.func gf) #[] lb) (hFg : F.fn gf) (eg : ∀ args w, (callFunc gf args).run P w = .ok (.enter gf args) w)
    {encs : α → Array Value} {T : Nat → Prop} {S Sp : List α → Prop} {N : Nat} (hseq : Seq F (n - 1) P gf lb encs T S Sp N w.heap.size w) (hT : ∀ k, T k → ¬ Bk w.heap.size k) (hps : ∀ x, (encs x).size = ps.size)
    (I : List α → World → Prop) (Ix : Code → List α → World → Prop) (hI : ∀ s X Y, I s X → Turn (Bk w.heap.size) X Y → I s Y) (hIx : ∀ c s X Y, Ix c s X → Turn (Bk w.heap.size) X Y → Ix c s Y) (h0 : I [] w) (a₁ : α → Act)
    (hassign : ∀ (l : Nat) (x : α) (W : World) (K : Act → World → Prop), K (a₁ x) W →
      assign.wpIn (F.inRound l) (n - 1 - 1) P (Exit.then K (fun _ _ _ => False)) { tmps := (ps.zip (encs x)).foldl (fun t (p, v) => t.setIfInBounds p v) a.tmps, defers := [] } W)
    (hbody : ∀ (l : Nat) (pre : List α) (x : α) (W : World), I pre W → pre.length < N → w.heap.size + 2 ≤ W.heap.size → body.wpIn (F.inRound l) (n - 1 - 1) P (post T I Ix (pre ++ [x]) W) (a₁ x) W)
    (hdone : ∀ (D : Nat) (xs : List α) (W : World), D = w.heap.size → S xs → I xs W → W.heap[D]? = some (.deferred (some [])) → Q .normal { a with defers := { target := .collected D, args := #[] } :: a.defers } W)
    (hstop : ∀ (D : Nat) (c : Code) (pre : List α) (W : World), D = w.heap.size → Sp pre → Ix c pre W → W.heap[D]? = some (.deferred (some [])) → c.wpIn F n P Q { a with defers := { target := .collected D, args := #[] } :: a.defers } W) :
    (Code.rangeFunc g ps assign body).wpIn F n P Q a w := by
  refine wpIn_rangeFunc ?_
  intro fn hfn
  rw [hro]
  obtain ⟨rec, hrec⟩ : ∃ rec : LoopState → Option Code → Loop, rec = fun st pe => { state := st, pending := pe, fn, tmps := a.tmps, params := ps, assign, body, defers := w.heap.size } := ⟨_, rfl⟩
  obtain ⟨W1, hW1⟩ : ∃ W1, (w.alloc (.deferred (some []))).alloc (.loop (rec .ready none)) = W1 := ⟨_, rfl⟩
  have hL1 : W1.heap[w.heap.size + 1]? = some (.loop (rec .ready none)) := by
    rw [← hW1]; have := World.alloc_heap_new (w.alloc (.deferred (some []))) (.loop (rec .ready none)); rwa [World.size_alloc] at this
  have hK1 : W1.heap[w.heap.size]? = some (.deferred (some [])) := by
    rw [← hW1]; exact (Below.heap_alloc _ _ _ (by simp)).trans (World.alloc_heap_new w _)
  have hb1 : Below w.heap.size w W1 := by
    rw [← hW1]; exact ((Below.refl _ w).alloc (Nat.le_refl _) _).alloc (by simp) _
  have hI1 : I [] W1 := hI _ _ _ h0 (Turn.of_new hb1)
  refine ⟨w.heap.size + 1, [{ target := .collected w.heap.size, args := #[] }], W1, { target := .fn (.func gf) lb, args := #[.func (.yield (w.heap.size + 1)) #[] #[]] }, W1, gf,
    #[.func (.yield (w.heap.size + 1)) #[] #[]] ++ lb, W1, ?_, ?_, ?_, ?_, fun _ => h1, ?_⟩
  · rw [← hW1, hrec]; exact run_enterLoop_outer _ _ _ _ _
  · simp only [resolve, hg]
    simp [go_sem]
  · intro f' hf'; simp [Target.leads] at hf'; subst hf'; exact hFg
  · simp [invoke, go_sem, eg]
  · refine (hseq
      (fun pre W => I pre W ∧ W.heap[w.heap.size + 1]? = some (.loop (rec .ready none)) ∧ W.heap[w.heap.size]? = some (.deferred (some [])))
      (fun pre W => ∃ c, Ix c pre W ∧ W.heap[w.heap.size + 1]? = some (.loop (rec .done (some c))) ∧ W.heap[w.heap.size]? = some (.deferred (some [])))
      W1 hb1 ?_ ⟨hI1, hL1, hK1⟩).mono ?_
    · rintro pre x W ⟨hi, hl, hk⟩ hlen
      have hlt : w.heap.size + 1 < W.heap.size := (Array.getElem?_eq_some_iff.1 hl).1
      have hy := run_yield (P := P) (args := encs x) hl (by rw [hrec]; exact hps x)
      rw [hrec] at hy
      refine ⟨fn, _, assign, body, hy, roundIn_of_wpIn hfn (hassign _ x W _ ⟨_, run_beginRound hl (by rw [hrec]), ?_⟩)⟩
      have hl2 : (W.putObj (w.heap.size + 1) (.loop { rec .ready none with state := .busy })).heap[w.heap.size + 1]? = some (.loop { rec .ready none with state := .busy }) := World.putObj_heap_same hlt
      have hk2 : (W.putObj (w.heap.size + 1) (.loop { rec .ready none with state := .busy })).heap[w.heap.size]? = some (.deferred (some [])) := (World.putObj_heap_other (by omega)).trans hk
      have hw2 : Turn (Bk w.heap.size) W (W.putObj (w.heap.size + 1) (.loop { rec .ready none with state := .busy })) := turn_put _ _ _ (.inr rfl)
      have hs2 := hw2.size
      refine wpIn_mono (hbody _ pre x _ (hI _ _ _ hi hw2) hlen (Nat.le_trans hlt hs2)) ?_
      have fin : ∀ (jump : Option Code) (W3 : World), Turn T (W.putObj (w.heap.size + 1) (.loop { rec .ready none with state := .busy })) W3 →
          (Instr.endRound (w.heap.size + 1) jump).run P W3 = .ok (.bool jump.isNone) (W3.putObj (w.heap.size + 1) (.loop (rec (if jump.isNone then .ready else .done) jump))) ∧
          (W3.putObj (w.heap.size + 1) (.loop (rec (if jump.isNone then .ready else .done) jump))).heap[w.heap.size + 1]? = some (.loop (rec (if jump.isNone then .ready else .done) jump)) ∧
          (W3.putObj (w.heap.size + 1) (.loop (rec (if jump.isNone then .ready else .done) jump))).heap[w.heap.size]? = some (.deferred (some [])) ∧
          Turn (Bk w.heap.size) W3 (W3.putObj (w.heap.size + 1) (.loop (rec (if jump.isNone then .ready else .done) jump))) := fun jump W3 hk3 => by
        have hl3 := (hk3.block (w.heap.size + 1) (Nat.lt_of_lt_of_le hlt hs2) (fun e => hT _ e (.inr rfl))).trans hl2
        have hk4 := (hk3.block w.heap.size (Nat.lt_of_lt_of_le (Nat.lt_of_succ_lt hlt) hs2) (fun e => hT _ e (.inl rfl))).trans hk2
        have := run_endRound (P := P) jump hl3
        rw [hrec] at this ⊢
        exact ⟨this, World.putObj_heap_same (Array.getElem?_eq_some_iff.1 hl3).1, (World.putObj_heap_other (by omega)).trans hk4, turn_put _ _ _ (.inr rfl)⟩
      rintro e a3 W3 hp
      cases e with
      | normal =>
        obtain ⟨hkp3, hi3⟩ := hp
        obtain ⟨hr, hl4, hk4, ht4⟩ := fin none W3 hkp3
        exact ⟨_, _, hr, .inl ⟨rfl, ⟨hI _ _ _ hi3 ht4, hl4, hk4⟩, ((hw2.mono fun k e => .inr e).trans (hkp3.mono (T := fun k => T k ∨ Bk w.heap.size k) fun k e => .inl e) fun k e => .inl e).trans (ht4.mono (T := fun k => T k ∨ Bk w.heap.size k) fun k e => .inr e) fun k e => .inl e⟩⟩
      | ret =>
        obtain ⟨hk3, hi3⟩ := hp
        obtain ⟨hr, hl4, hk4, ht4⟩ := fin (some .ret) W3 hk3
        exact ⟨_, _, hr, .inr ⟨rfl, .ret, hIx _ _ _ _ hi3 ht4, hl4, hk4⟩⟩
      | exit id =>
        obtain ⟨hk3, hi3⟩ := hp
        obtain ⟨hr, hl4, hk4, ht4⟩ := fin (some (.exit id)) W3 hk3
        exact ⟨_, _, hr, .inr ⟨rfl, .exit id, hIx _ _ _ _ hi3 ht4, hl4, hk4⟩⟩
      | goto t =>
        obtain ⟨hk3, hi3⟩ := hp
        obtain ⟨hr, hl4, hk4, ht4⟩ := fin (some (.goto t)) W3 hk3
        exact ⟨_, _, hr, .inr ⟨rfl, .goto t, hIx _ _ _ _ hi3 ht4, hl4, hk4⟩⟩
      | panic ch => exact hp.elim
      | outgrown => exact hp.elim
    · rintro e W2 ⟨⟨v, rfl⟩, (⟨xs, hS, hi, hl, hk⟩ | ⟨pre, hSp, c, hi, hl, hk⟩)⟩
      · exact ⟨none, _, by have := run_endLoop (P := P) hl (by rw [hrec]; simp); rw [hrec] at this; exact this, hdone _ xs _ rfl hS (hI _ _ _ hi (turn_put _ _ _ (.inr rfl))) ((World.putObj_heap_other (by omega)).trans hk)⟩
      · exact ⟨some c, _, by have := run_endLoop (P := P) hl (by rw [hrec]; simp); rw [hrec] at this; exact this, hstop _ c pre _ rfl hSp (hIx c _ _ _ hi (turn_put _ _ _ (.inr rfl))) ((World.putObj_heap_other (by omega)).trans hk)⟩
end
theorem row_turn {S : Nat → Prop} {X Y : World} {e : TypeId} {B size m : Nat} {v : Value} {xs : List Value} (h : X.ownsRow B e size v m xs) (ht : Turn S X Y) (hd : ∀ b, v.ownBlock = some b → ¬ S b) : Y.ownsRow B e size v m xs := by
  refine ⟨h.1, ?_⟩
  rcases h.2 with hn | ⟨g, cap, cur, rfl, hB, hg, rest⟩
  · exact .inl hn
  · exact .inr ⟨g, cap, cur, rfl, hB, (ht.block g (Array.getElem?_eq_some_iff.1 hg).1 (hd g rfl)).trans hg, rest⟩
theorem row_from {X Y : World} {e : TypeId} {B C size m : Nat} {v : Value} {xs : List Value} (h : X.ownsRow B e size v m xs) (ht : Turn (Bk C) X Y) (hB : C + 2 ≤ B) : Y.ownsRow B e size v m xs :=
  row_turn h ht fun b e1 e2 => by have := (World.ownsRow.lt h b e1).1; unfold Bk at e2; omega
end RgM
end Go.Proofs.YtklmjdhhnnanoaaGreatDoor
set_option maxRecDepth 100000
namespace Go.Proofs.YtklmjdhhnnanoaaGreatDoor
open Go.ChangeShapes Go.WideShapes Go.ChangeAt Go.RowKit
attribute [local go_sem] Gives
def OwnI (w : World) (B : Nat) (v : Value) (G : List Nat) : Prop := w.ownsRow B 3 1 v G.length (G.map fun j : Nat => Value.int .i64 j)
theorem OwnI.down {w : World} {B B' : Nat} {v : Value} {G : List Nat} (h : OwnI w B v G) (hB : B' ≤ B) : OwnI w B' v G :=
  ⟨h.1, h.2.imp id fun ⟨g, cap, cur, hv, hb, hr⟩ => ⟨g, cap, cur, hv, Nat.le_trans hB hb, hr⟩⟩
theorem OwnI.lt {w : World} {B : Nat} {v : Value} {G : List Nat} (h : OwnI w B v G) : ∀ k, v.ownBlock = some k → B ≤ k ∧ k < w.heap.size := World.ownsRow.lt h
theorem OwnI.only {w w' : World} {B g : Nat} {v : Value} {G : List Nat} (h : OwnI w B v G) (ho : w.grownBy w' (some g)) (hg : g < B) : OwnI w' B v G :=
  World.ownsRow.kept h ho (by
    cases e : v.ownBlock with
    | none => exact .inl rfl
    | some k => exact .inr (fun e2 => by injection e2 with e2; have := (h.lt k e).1; omega))
theorem OwnI.below {w w' : World} {B k : Nat} {v : Value} {G : List Nat} (h : OwnI w B v G) (hb : Below k w w') (hk : w.heap.size ≤ k) : OwnI w' B v G :=
  World.ownsRow.kept (row := none) h ⟨hb.os, hb.tape, hb.output, hb.size, fun i hi _ => hb.block i (by omega)⟩ (by
    cases v.ownBlock with
    | none => exact .inl rfl
    | some g => exact .inr (fun e => by cases e))
theorem OwnI.len {w : World} {B : Nat} {v : Value} {G : List Nat} (h : OwnI w B v G) : ∃ A c, v = .slice A G.length c := by
  rcases h.2 with ⟨h1, h2⟩ | ⟨g, cap, cur, h1, _⟩
  · exact ⟨none, 0, by rw [h1, h2]⟩
  · exact ⟨_, _, h1⟩
theorem OwnI.get {w : World} {B j : Nat} {v : Value} {G : List Nat} (h : OwnI w B v G) (hj : j < G.length) : ∃ g c, v = .slice (some ⟨g, 0, none⟩) G.length c ∧ ∀ i, i < G.length → w.cell? ⟨g, i, none⟩ = some (.int .i64 (G.getD i 0 : Nat)) := by
  rcases h.2 with ⟨h1, h2⟩ | ⟨g, cap, cur, h1, _⟩
  · omega
  · refine ⟨g, cap, h1, fun i hi => ?_⟩
    have := World.ownsRow.cellAt (h1 ▸ h : w.ownsRow B 3 1 (.slice (some ⟨g, 0, none⟩) G.length cap) G.length _) i (by omega)
    rw [this, List.getElem?_map, List.getElem?_eq_getElem hi]
    simp [List.getD, hi]
theorem OwnI.cell {w : World} {B gg n c i : Nat} {G : List Nat} (h : OwnI w B (.slice (some ⟨gg, 0, none⟩) n c) G) (hi : i < G.length) : w.cell? ⟨gg, i, none⟩ = some (.int .i64 (G.getD i 0 : Nat)) := by
  obtain ⟨g', c', e, hr⟩ := h.get hi
  simp only [Value.slice.injEq, Option.some.injEq, Addr.mk.injEq, and_true, true_and] at e
  obtain ⟨rfl, _, _⟩ := e
  exact hr i hi
section
variable {ops : Array Oper} {Q : Exit → Act → World → Prop} {a : Act} {w : World} {rest : List Oper} {dst : Option Tmp} {ty : TypeId} {pos : String} {after : Array Edge} {s x : Operand} {c B : Nat} {v : Value} {G : List Nat}
end
end Go.Proofs.YtklmjdhhnnanoaaGreatDoor
set_option maxRecDepth 100000
namespace Go.Proofs.YtklmjdhhnnanoaaGreatDoor
open Go.ChangeShapes Go.WideShapes Go.ChangeAt Go.RowKit
namespace MiM
def natL (n : Nat) : List Value := [.int .i64 (n : Nat)]
theorem eltNat : EltX 3 1 natL where
  pos := by omega
  len := fun _ => rfl
  one p u hu := by
    simp only [natL, List.mem_cons, List.not_mem_nil, or_false] at hu
    rw [hu]; rfl
  info := elt_info (by kernel_rfl) (by kernel_rfl) (by kernel_rfl)
theorem undNat : Tryz.prog.underlying 64 = some (.slice 3) := Tryz.underlying64
theorem natL_flat : ∀ l : List Nat, l.flatMap natL = l.map fun j : Nat => Value.int .i64 j
  | [] => rfl
  | x :: l => by rw [List.flatMap_cons, natL_flat l, List.map_cons]; rfl
theorem ownX_I {w : World} {B : Nat} {v : Value} {l : List Nat} : OwnX 3 1 natL w B v l ↔ OwnI w B v l := by
  unfold OwnX OwnI
  rw [natL_flat]
theorem own_nats (l : List Nat) (w : World) {B : Nat} (hB : B ≤ w.heap.size) (hl : l.length ≤ maxLen) : OwnI (w.alloc (.cells (l.map fun j : Nat => Value.int .i64 j).toArray 3)) B (.slice (some ⟨w.heap.size, 0, none⟩) l.length l.length) l :=
  ⟨by simp, .inr ⟨w.heap.size, l.length, (l.map fun j : Nat => Value.int .i64 j).toArray, rfl, hB, Blk.new _ _ _, Nat.le_refl _, hl, by simp, List.take_of_length_le (by simp)⟩⟩
section
variable {P : Program} {ops : Array Oper} {Q : Exit → Act → World → Prop} {a : Act} {w : World} {rest : List Oper} {dst : Option Tmp} {ty : TypeId} {pos : String} {after : Array Edge} {s x : Operand} {v : Value} {l : List Nat} {n c B : Nat}
theorem wappM {b : Nat} (hs : a.eval s = v) (hx : a.eval x = .slice (some ⟨b, 0, none⟩) 1 c) (hown : OwnI w B v l) (hc : Sli 1 natL (fun _ => True) w (some ⟨b, 0, none⟩) [n] 1 c) (hsz : l.length ≤ 100000) (hB : B ≤ w.heap.size)
    (h : ∀ v' w', OwnI w' B v' (l ++ [n]) → w.grownBy w' v.ownBlock → (v'.ownBlock = v.ownBlock ∨ v'.ownBlock = some w.heap.size) → wpList Tryz.prog ops Q rest (a.put dst v') w') :
    wpList Tryz.prog ops Q (⟨dst, .call { callee := .builtin .append, args := #[s, x], argTypes := #[64, 64] }, ty, pos, after, none⟩ :: rest) a w := by
  obtain ⟨v', w', hr, ho, hg⟩ := run_appX (ty := ty) eltNat undNat (ownX_I.2 hown) hc (by omega) (by omega) hB
  have hw := run_appX_where eltNat undNat (ownX_I.2 hown) hc (by omega) (by omega) hr
  refine wpList_plain rfl fun K hK => ?_
  unfold Oper.wp execOp
  simp only [resolve, invoke, builtin, Sem.run_bind, Sem.run_pure, Result.andThen_ok, List.map_toArray, List.map_cons, List.map_nil, hs, hx, hr]
  exact hK _ _ (h v' w' (ownX_I.1 ho) hg hw)
end
end MiM
end Go.Proofs.YtklmjdhhnnanoaaGreatDoor
set_option maxRecDepth 100000
namespace Go.Proofs.YtklmjdhhnnanoaaGreatDoor
open Go.ChangeShapes Go.WideShapes Go.ChangeAt Go.RowKit Go.Shelf
attribute [local go_sem] Gives
attribute [local go_sem] Oper.semAt_some
namespace MiM
open GeM StM RgM
theorem around_any (f n p : Nat) (m : Int) (w : World) : Calls Tryz.prog 51 #[.agg (hoL f n p), .int .i64 m] w fun e w' =>
    e = .returned (.func (.func 84) #[] #[.pointer (some ⟨w.heap.size, 0, none⟩), .pointer (some ⟨w.heap.size + 1, 0, none⟩)]) ∧ Below w.heap.size w w' ∧ Blk w' w.heap.size tyH (hoL f n p) ∧ Blk w' (w.heap.size + 1) 3 #[.int .i64 m] ∧ w'.heap.size = w.heap.size + 2 := by
  have B := hid (show Below w.heap.size w ((w.alloc (.cells (hoL f n p) tyH)).alloc (.cells #[.int .i64 m] 3)) from ((Below.refl _ _).alloc (Nat.le_refl _) _).alloc (by simp) _)
  have K1 := hid (show Blk ((w.alloc (.cells (hoL f n p) tyH)).alloc (.cells #[.int .i64 m] 3)) w.heap.size tyH (hoL f n p) from (Blk.new _ _ _).alloc _)
  have K2 := hid (show Blk ((w.alloc (.cells (hoL f n p) tyH)).alloc (.cells #[.int .i64 m] 3)) (w.heap.size + 1) 3 #[.int .i64 m] from Blk.top rfl (by simp))
  go_enter Tryz.func51, Tryz.ntmps51
  go_wp2_with fail
  refine bodyPost_ret (results_tmp (t := 4) rfl _ _ _) rfl ?_
  exact ⟨rfl, B.out, K1.out, K2.out, by simp⟩
theorem ownI_nil (w : World) (B : Nat) : OwnI w B (.slice none 0 0) [] := World.ownsRow_nil _ _ _ _
theorem ho_0 {w : World} {g f n p : Nat} (h : Blk w g tyH (hoL f n p)) : w.cell? ⟨g, 0, none⟩ = some (.int .i64 (f : Nat)) := h.cell 0
theorem ho_1 {w : World} {g f n p : Nat} (h : Blk w g tyH (hoL f n p)) : w.cell? ⟨g, 1, none⟩ = some (.int .i64 (n : Nat)) := h.cell 1
theorem ho_2 {w : World} {g f n p : Nat} (h : Blk w g tyH (hoL f n p)) : w.cell? ⟨g, 2, none⟩ = some (.int .i64 (p : Nat)) := h.cell 2
set_option maxRecDepth 100000 in
set_option maxHeartbeats 1000000 in
theorem around1_in (f n p m bH bM B : Nat) (hm : 0 < m) (hm64 : m ≤ 64) (hn : n ≤ 64) (hf : f ≤ 8192) (T : Nat → Prop) (w1 : World)
    (q1 : Blk w1 bH tyH (hoL f n p)) (q2 : w1.cell? ⟨bM, 0, none⟩ = some (.int .i64 (m : Nat))) (d1 : ¬ T bH) (d2 : ¬ T bM) (l1 : bH < B) (l2 : bM < B) :
    RgM.Seq Fence.wide 6 Tryz.prog 84 #[.pointer (some ⟨bH, 0, none⟩), .pointer (some ⟨bM, 0, none⟩)] (fun x : Nat => #[Value.int .i64 x]) T (fun ys => ys = rnd m f n) (fun pre => pre = (rnd m f n).take pre.length ∧ pre.length ≤ n) n B w1 := by
  intro J Jx W hB hY h0
  have Q1 := hid (q1.turn (Turn.of_below hB) (by omega))
  have Q2 := hid ((Turn.of_below hB).cell q2 (by show ¬ B ≤ bM; omega))
  have HY := hid hY
  have H0 := hid h0
  have D1 : ¬ (T bH ∨ Bk B bH) := fun e => e.elim d1 fun e => by unfold Bk at e; omega
  have D2 : ¬ (T bM ∨ Bk B bM) := fun e => e.elim d2 fun e => by unfold Bk at e; omega
  have E1 := hid D1
  have E2 := hid D2
  clear hY h0 q1 q2 hB d1 d2 D1 D2
  refine callsIn_of_wp Tryz.func84 rfl trivial ?_ rfl
  simp only [Tryz.ntmps84, List.size_toArray, List.length_cons, List.length_nil, Nat.reduceAdd, Nat.reduceSub, Array.replicate_succ, Array.replicate_zero, List.push_toArray, List.append_toArray, List.nil_append, List.cons_append]
  have r1 := ho_1 Q1.out
  gi_wp2
  gi_loopw [7] (fun u wr => ∃ i : Nat, i ≤ n ∧ u = .int .i64 (i : Nat) ∧ Hid (J (rnd m f i) wr) ∧ Hid (Turn (fun k => T k ∨ Bk B k) W wr)) (fun u _ => n - (intOf u).toNat)
  case atStart => exact ⟨0, Nat.zero_le _, rfl, H0, hid (Turn.refl _ _)⟩
  case round =>
    clear r1
    obtain ⟨i, hi, rfl, HJ, HT⟩ := hrel
    by_cases hgo : i < n
    · have t1 : (i : Int) < (n : Int) := by omega
      have s0 := HT.out.cell (ho_0 Q1.out) E1.out
      have s1 := HT.out.cell Q2.out E2.out
      have hm0 : (m : Int) ≠ 0 := by omega
      obtain ⟨x, hx⟩ : ∃ x, x = (f + i) % m := ⟨_, rfl⟩
      have e2 : ((f : Int) + (i : Int)) % (m : Int) = (x : Int) := by rw [hx]; push_cast; rfl
      have HX := hid hx
      have hxm : x < m := by rw [hx]; exact Nat.mod_lt _ hm
      clear hx
      obtain ⟨fn, tmps, assign, body, hy, hR⟩ := HY.out (rnd m f i) x wr HJ.out (by rw [rnd_length]; exact hgo)
      gi_wp2
      refine hR.mono ?_
      rintro e w3 (⟨rfl, hJ3, hk3⟩ | ⟨rfl, hJx3⟩)
      · have hT3 := hid (HT.out.trans hk3 fun _ e => .inl e)
        have HJ3 := hid hJ3
        clear hJ3 hk3 HJ HT hR hy e2
        gi_wp2
        go_roundw
        case rel => exact ⟨i + 1, by omega, by go_num, by rw [rnd_succ, ← HX.out]; exact HJ3, hT3⟩
        case measure => simp [intOf] <;> omega
      · have HJ3 := hid hJx3
        clear hJx3 HJ HT hR hy e2
        gi_wp2
        refine bodyPost_ret (results_none rfl _ _ _) rfl ?_
        refine ⟨⟨_, rfl⟩, .inr ⟨rnd m f i ++ [x], ⟨?_, ?_⟩, HJ3.out⟩⟩
        · rw [List.length_append, rnd_length, List.length_singleton, rnd_take (by omega), rnd_succ, ← HX.out]
        · rw [List.length_append, rnd_length, List.length_singleton]; omega
    · have t1 : ¬ (i : Int) < (n : Int) := by omega
      have ein : i = n := by omega
      gi_wp2
      go_end0
      exact ⟨⟨_, rfl⟩, .inl (ein ▸ HJ.out)⟩
def Tl2 (hl B k : Nat) : Prop := k = hl ∨ B + 2 ≤ k
set_option maxRecDepth 100000 in
set_option maxHeartbeats 2000000 in
theorem appseq19_any (f n p m bH bM : Nat) (hm : 0 < m) (hm64 : m ≤ 64) (hn : n ≤ 64) (hf : f ≤ 8192) (w : World) (q1 : Blk w bH tyH (hoL f n p)) (q2 : Blk w bM 3 #[.int .i64 (m : Nat)]) :
    Calls Tryz.prog 83 #[.slice none 0 0, .func (.func 84) #[] #[.pointer (some ⟨bH, 0, none⟩), .pointer (some ⟨bM, 0, none⟩)]] w fun e w' => ∃ v, e = .returned v ∧ OwnI w' w.heap.size v (rnd m f n) ∧ Below w.heap.size w w' := by
  refine (callsIn_wide (n := 7)).1 ?_
  obtain ⟨i0, hi, hz0, hz1, hz2⟩ := info_parts infoI
  have lH := q1.lt
  have lM := q2.lt
  refine callsIn_of_wp_marks Tryz.func83 rfl trivial ?_ rfl
  simp only [Tryz.ntmps83, List.size_toArray, List.length_cons, List.length_nil, Nat.reduceAdd, Nat.reduceSub, Array.replicate_succ, Array.replicate_zero, List.push_toArray, List.append_toArray, List.nil_append, List.cons_append]
  obtain ⟨w3, hw3⟩ : ∃ w3, w3 = w.alloc (.cells #[.slice none 0 0] 64) := ⟨_, rfl⟩
  have hsz : w3.heap.size = w.heap.size + 1 := by rw [hw3]; simp
  have B0 : Below w.heap.size w w3 := by rw [hw3]; exact (Below.refl _ w).alloc (Nat.le_refl _) _
  have bL : Boxed w3 w.heap.size 64 (.slice none 0 0) := by rw [hw3]; exact Boxed.new w _ _
  have r1 := q1.below B0 lH
  have r2 := (q2.below B0 lM).cell 0
  have hT : ∀ k, (Tl2 w.heap.size w3.heap.size k ∨ Bk w3.heap.size k) → w.heap.size ≤ k := fun k e => by unfold Tl2 Bk at e; omega
  have HB := hid (show ∀ W, Turn (fun k => Tl2 w.heap.size w3.heap.size k ∨ Bk w3.heap.size k) w3 W → Below w.heap.size w W from fun W h => B0.trans (h.below (by omega) hT))
  gi_wp2
  rw [← hw3]
  clear hw3 q1 q2
  refine wpIn_range (α := Nat) rfl (by omega) (gf := 84) (lb := #[.pointer (some ⟨bH, 0, none⟩), .pointer (some ⟨bM, 0, none⟩)]) rfl trivial (enters_of Tryz.func84 (by kernel_rfl) rfl)
    (encs := fun x : Nat => #[Value.int .i64 x]) (T := Tl2 w.heap.size w3.heap.size) (S := fun ys => ys = rnd m f n) (Sp := fun pre => pre = (rnd m f n).take pre.length ∧ pre.length ≤ n) (N := n)
    (around1_in f n p m bH bM w3.heap.size hm hm64 hn hf (Tl2 w.heap.size w3.heap.size) w3 r1 r2 (by unfold Tl2; omega) (by unfold Tl2; omega) (by omega) (by omega))
    (fun k e => by unfold Tl2 at e; unfold Bk; omega) (fun _ => rfl)
    (fun pre W => (∃ v, Boxed W w.heap.size 64 v ∧ W.ownsRow (w3.heap.size + 2) 3 1 v pre.length (pre.map fun j : Nat => Value.int .i64 j)) ∧ Turn (fun k => Tl2 w.heap.size w3.heap.size k ∨ Bk w3.heap.size k) w3 W)
    (fun _ _ _ => False)
    (fun s X Y ⟨⟨v, h1, h2⟩, h3⟩ ht => ⟨⟨v, Blk.turn h1 ht (fun e => by unfold Bk at e; omega), row_from h2 ht (Nat.le_refl _)⟩, h3.trans ht fun k e => .inl (.inr e)⟩)
    (fun _ _ _ _ hs _ => hs)
    ⟨⟨_, bL, World.ownsRow_nil _ _ _ _⟩, Turn.refl _ _⟩
    (fun x => { tmps := #[.slice none 0 0, .func (.func 84) #[] #[.pointer (some ⟨bH, 0, none⟩), .pointer (some ⟨bM, 0, none⟩)], .pointer (some ⟨w.heap.size, 0, none⟩), undef, .slice none 0 0, .int .i64 x, .func (.func 84) #[] #[.pointer (some ⟨bH, 0, none⟩), .pointer (some ⟨bM, 0, none⟩)], .int .i64 x, undef, undef, undef, undef, undef], defers := [] }) ?assign ?body ?done ?stop
  case assign =>
    intro l x W K hK
    gi_wp2
    exact hK
  case body =>
    rintro l pre x W ⟨⟨v, hv, hrow⟩, hT2⟩ hlt hW2
    have hc := hv.cell
    have hf := hv.frozen
    have hml : 65 ≤ maxLen := by unfold maxLen; omega
    gi_wp2_with (gi_at_builtin; refine wpListIn_append_own _ rfl _ _ 64 rfl (w3.heap.size + 2) 3 i0 (.int .i64 0) 1 8 Tryz.underlying64 hi hz0 hz1 hz2 rfl (by decide) _ _ _ rfl (hrow.alloc _) ⟨W.heap.size, 0, none⟩ 1 1 [.int .i64 x] rfl rfl (cell_one_new _ _ _) (by simp [Value.oneCell']) (by omega) (by omega) (by simp; omega) ?_; intro v' w4 hown' hgrow _; obtain ⟨g', cap', rfl⟩ := ownsRow_succ hown'; obtain ⟨hv1, hv2, hr2, hk2, hb2⟩ := box_app (T := Tl2 w.heap.size w3.heap.size) hv (by decide) hrow hW2 (.inl rfl) (fun _ e => .inr e) hown' hgrow; have hc1 := hv1.cell; have hf1 := hv1.frozen)
    exact ⟨hb2, ⟨_, hv2, by simpa using hr2⟩, hT2.trans hb2 fun _ e => .inl (.inl e)⟩
  case done =>
    rintro D ys W hD rfl ⟨⟨v, hv, hrow⟩, hT2⟩ hK
    have hc := hv.cell
    gi_wp2
    refine ⟨by simp, .inl ⟨_, _, rfl, run_takeDeferred hK, ?_⟩⟩
    exact ⟨_, results_tmp rfl _ _ _, v, rfl, row_low (ownsRow_putObj hrow _ hK rfl) (by omega), (HB.out W hT2).trans (belowK_b (w := w) (Nat.le_refl _) W D _ _ (by omega) hK rfl rfl)⟩
  case stop =>
    rintro D c pre W _ _ h _
    exact h.elim
theorem collect19_any (f n p m bH bM : Nat) (hm : 0 < m) (hm64 : m ≤ 64) (hn : n ≤ 64) (hf : f ≤ 8192) (w : World) (q1 : Blk w bH tyH (hoL f n p)) (q2 : Blk w bM 3 #[.int .i64 (m : Nat)]) :
    Calls Tryz.prog 50 #[.func (.func 84) #[] #[.pointer (some ⟨bH, 0, none⟩), .pointer (some ⟨bM, 0, none⟩)]] w fun e w' => ∃ v, e = .returned v ∧ OwnI w' w.heap.size v (rnd m f n) ∧ Below w.heap.size w w' := by
  have A := hid (appseq19_any f n p m bH bM hm hm64 hn hf w q1 q2)
  clear q1 q2
  go_enter Tryz.func50, Tryz.ntmps50
  go_wp2_with fail
  refine A.out.mono ?_
  rintro e w1 ⟨v, rfl, h1, h2⟩
  have H := hid (And.intro h1 h2)
  clear h1 h2
  obtain ⟨A1, c1, rfl⟩ := OwnI.len H.out.1
  go_wp2_with fail
  go_ret
  exact ⟨_, rfl, H.out⟩
set_option maxHeartbeats 1600000 in
theorem where_any (a b k i : Int) (x : Nat → Nat) (hi : -9223372036854775808 ≤ i ∧ i ≤ 9223372036854775807) (w : World) : Calls Tryz.prog 17 #[gv a b, .agg (wrL k i x).toArray] w fun e w' => ∃ v, e = .returned v ∧ OwnI w' w.heap.size v (whL a b k i) ∧ Below w.heap.size w w' := by
  obtain ⟨R, hR⟩ : ∃ R, R = whL a b k i := ⟨_, rfl⟩
  rw [← hR]
  have HR := hid hR
  clear hR
  unfold gv
  go_enter Tryz.func17, Tryz.ntmps17
  go_upto_region 1 with fail
  obtain ⟨gg, hgg⟩ : ∃ g, g = w.heap.size := ⟨_, rfl⟩
  obtain ⟨gw, hgw⟩ : ∃ g, g = w.heap.size + 1 := ⟨_, rfl⟩
  rw [← hgw, ← hgg]
  generalize hW : World.alloc (World.alloc w _) _ = w1
  have G1 := hid (show Blk w1 gg tyG #[.int .i64 a, .int .i64 b] by rw [hgg, ← hW]; exact (Blk.new _ _ _).alloc _)
  have W1 := hid (show Blk w1 gw tyW (wrL k i x).toArray by rw [hgw, ← hW]; exact Blk.top rfl (by simp))
  have B1 := hid (show Below w.heap.size w w1 by rw [← hW]; exact ((Below.refl _ _).alloc (Nat.le_refl _) _).alloc (by simp) _)
  clear hgg hgw hW
  go_wp2_with (first | ((with_reducible apply ldR (cs := #[Value.int .i64 a, .int .i64 b]) (tGe _ _)); rfl; exact G1.out.whole) | ((with_reducible apply ldR (cs := (wrL k i x).toArray) (tWr k i x)); rfl; exact W1.out.whole))
  refine (home_any a b k i x hi w1).mono ?_
  rintro e w2 ⟨rfl, h2⟩
  have G2 := hid (G1.out.below h2 G1.out.lt)
  have B2 := hid (B1.out.trans (h2.mono B1.out.size))
  clear h2 G1 W1 B1
  cases hh : hom a b k i with
  | none =>
    have HR := hid (HR.out.trans (whL_nil.2 hh))
    unfold hoV
    go_wp2_with ((with_reducible apply stR (tHo 0 0 0)); rfl; rfl; exact Blk.new _ _ _; rfl; exact ho_one _ _ _)
    go_ret
    exact ⟨_, rfl, by rw [HR.out]; exact ownI_nil _ _, below_setRow (B2.out.alloc B2.out.size _) B2.out.size _⟩
  | some y =>
    obtain ⟨f, n, p⟩ := y
    obtain ⟨m, q, rfl, rfl, hg, hm4, hm64, hn1, hnm, hf, hp⟩ := hom_some hh
    have HR := hid (HR.out.trans (show whL m q k i = rnd m f n by unfold whL; rw [hh]; rfl))
    unfold hoV
    go_upto_region 2 with ((with_reducible apply stR (tHo f n p)); rfl; rfl; exact Blk.new _ _ _; rfl; exact ho_one _ _ _)
    obtain ⟨gh, hgh⟩ : ∃ g, g = w2.heap.size := ⟨_, rfl⟩
    rw [← hgh]
    generalize hW : World.setRow (World.alloc w2 _) _ _ = w3
    have K3 := hid (show Blk w3 gh tyH (hoL f n p) by rw [← hW, hgh]; exact (Blk.new w2 _ _).setRow_same _)
    have b3 : Below w2.heap.size w2 w3 := by rw [← hW, hgh]; exact below_setRow ((Below.refl _ _).alloc (Nat.le_refl _) _) (Nat.le_refl _) _
    have B3 := hid (B2.out.trans (b3.mono B2.out.size))
    have G3 := hid (G2.out.below b3 G2.out.lt)
    have r0 : w3.cell? ⟨gg, 0, none⟩ = some (.int .i64 (m : Nat)) := G3.out.cell 0
    clear hW b3 hgh G2 B2 hh
    go_wp2_with ((with_reducible apply ldR (cs := hoL f n p) (tHo f n p)); rfl; exact K3.out.whole)
    refine (around_any f n p m w3).mono ?_
    rintro e w4 ⟨rfl, h4, k1, k2, _⟩
    have B4 := hid (B3.out.trans (h4.mono B3.out.size))
    have C4 := hid (collect19_any f n p m w3.heap.size (w3.heap.size + 1) (by omega) hm64 (by omega) hf w4 k1 k2)
    clear h4 k1 k2 B3 G3 K3 r0
    go_wp2_with fail
    refine C4.out.mono ?_
    rintro e w5 ⟨v, rfl, h5, b5⟩
    have H := hid (And.intro (OwnI.down h5 B4.out.size) (B4.out.trans (b5.mono B4.out.size)))
    clear h5 b5 B4 C4
    obtain ⟨A1, c1, rfl⟩ := OwnI.len H.out.1
    go_wp2_with fail
    go_ret
    exact ⟨_, rfl, by rw [HR.out]; exact H.out.1, H.out.2⟩
end MiM
end Go.Proofs.YtklmjdhhnnanoaaGreatDoor
