/-
  The landed bus: New.
  The landed bus: Cell, Advance.
  The landed bus: all of its contracts.
-/
import Derived.Test.YtablkaofaedpeaaMrg8
set_option linter.unusedVariables false
set_option linter.unusedSimpArgs false
set_option maxRecDepth 100000
namespace Go.Proofs.Ytablkaofaedpeaa
open Go.ChangeShapes Go.WideShapes Go.ChangeAt Go.RowKit
attribute [local go_sem] Gives GivesE
namespace BuP
open BuM MbM MbP MpV
theorem built_bus (A : Option Addr) (n c gc r : Nat) : Try.prog.built 56 [(0, .slice A n c), (1, .pointer (some ⟨gc, 0, none⟩)), (2, .map (some r))] = some (pbV A n c gc r (.slice none 0 0) false) := by kernel_rfl
section
variable {ops : Array Oper} {Q : Exit → Act → World → Prop} {a : Act} {w : World} {rest : List Oper} {dst : Option Tmp} {ty : TypeId} {pos : String} {after : Array Edge} {x y z : Operand} {A : Option Addr} {n c gc r : Nat}
theorem wblBus (hx : a.eval x = .slice A n c) (hy : a.eval y = .pointer (some ⟨gc, 0, none⟩)) (hz : a.eval z = .map (some r)) (hk : wpList Try.prog ops Q rest (a.put dst (.agg (pbV A n c gc r (.slice none 0 0) false))) w) : wpList Try.prog ops Q (⟨dst, .build 56 #[(0, x), (1, y), (2, z)], ty, pos, after, none⟩ :: rest) a w := by
  have hr : (Instr.build 56 #[(0, .slice A n c), (1, .pointer (some ⟨gc, 0, none⟩)), (2, .map (some r))]).run Try.prog w = .ok (.agg (pbV A n c gc r (.slice none 0 0) false)) w := run_build w _ _ _ (built_bus A n c gc r)
  have hm : (#[(0, x), (1, y), (2, z)] : Array (Nat × Operand)).map (fun (i, x) => (i, a.eval x)) = #[(0, .slice A n c), (1, .pointer (some ⟨gc, 0, none⟩)), (2, .map (some r))] := by
    simp only [List.map_toArray, List.map_cons, List.map_nil, hx, hy, hz]
  refine wpList_plain rfl fun K hK => ?_
  unfold Oper.wp execOp
  simp only [Sem.run_bind, hm, hr, Result.andThen_ok, Sem.run_pure]
  exact hK _ _ hk
end
theorem ofN_fst (n : Int) : ∀ (l : List Stp) (m : List SlB), m.length = l.length → (ofN n (l.zip m)).map (·.1) = l.filter fun s => decide (s.a = n)
  | [], [], _ => rfl
  | [], y :: m, h => by cases h
  | x :: l, [], h => by cases h
  | x :: l, y :: m, h => by
    have ih := ofN_fst n l m (Nat.succ.inj h)
    unfold ofN at ih ⊢
    rw [List.zip_cons_cons, List.filter_cons, List.filter_cons]
    by_cases e : x.a = n
    · rw [if_pos (by simpa using e), if_pos (by simpa using e), List.map_cons, ih]
    · rw [if_neg (by simpa using e), if_neg (by simpa using e), ih]
/-- What New lays. -/
theorem sk_new {w wc w9 : World} {g r gc c : Nat} {A : Option Addr} {gs : List Nat} {steps : List Stp} {sl2 : List SlB} {Fm : MpV.Img} (hb : Blk w9 g 56 (pbV A gs.length c gc r (.slice none 0 0) false)) (hp : 1 ≤ gs.length) (hA : Sli 1 ptL (fun b => w.heap.size ≤ b) wc A gs gs.length c) (hc : Below wc.heap.size wc w9) (hwc : w.heap.size ≤ wc.heap.size)
    (hB : ByN wc r (steps.zip sl2) w9 Fm) (hsl : sl2.length = steps.length) (hg : ∀ q, q < wc.heap.size → q ≠ g) (hgo : ∀ n, (Fm n).ownBlock ≠ some g) (hgp : ∀ x ∈ steps.zip sl2, ∀ o, 0 < x.1.picks.length → x.2.A ≠ some ⟨g, o, none⟩) :
    Sk 0 w9 g gs gc A c r (.slice none 0 0) Fm (fun q => w.heap.size ≤ q ∧ q < w9.heap.size ∧ q ≠ g ∧ q ≠ r) steps false [] where
  blk := hb
  pos := hp
  arr := by
    refine ⟨hA.len, hA.cap, hA.max, hA.none, fun hn => ?_⟩
    obtain ⟨b, o, e, h1, h2, h3⟩ := hA.lst hn
    have hs := hc.size
    exact ⟨b, o, e, ⟨h1, by omega, hg b h2, by have := hB.rl; omega⟩, by omega, fun i x hi => (Turn.of_new (S := fun _ => False) hc).range (h3 i x hi) fun e => e⟩
  map := hB.map
  due n _ := by
    obtain ⟨A', c', e, hs⟩ := own_sli (S := fun q => w.heap.size ≤ q ∧ q < w9.heap.size ∧ q ≠ g ∧ q ≠ r) stL_len (hB.own (n : Int)) fun b e => ⟨Nat.le_trans hwc (hB.low _ b e).1, ((hB.own (n : Int)).own b e).2, fun x => hgo _ (x ▸ e), (hB.low _ b e).2⟩
    have hf := ofN_fst (n : Int) steps sl2 hsl
    have hl : (steps.filter fun s => decide (s.a = (n : Int))).length = (ofN (n : Int) (steps.zip sl2)).length := by rw [← hf, List.length_map]
    refine ⟨ofN (n : Int) (steps.zip sl2), A', c', by rw [hl]; exact e, hf, by rw [hl]; exact hs, fun x hx => ?_⟩
    have hm : x ∈ steps.zip sl2 := by
      unfold ofN at hx
      exact (List.mem_filter.1 hx).1
    have h1 := hB.pk x hm
    exact ⟨h1.1, fun q o h2 h3 => by
      obtain ⟨a, b, c, _⟩ := h1.2 q o h2 h3
      exact ⟨Nat.le_trans hwc a, b, fun e => hgp x hm o h2 (by rw [h3, e]), c⟩⟩
  lg := OwnX.nil _ _ _ _ _
  slt q hq := hq.2.1
set_option maxHeartbeats 1000000 in
set_option maxRecDepth 100000 in
theorem lb_new {w : World} {A : Option Addr} {gs : List Nat} {n c gc : Nat} {As : Option Addr} {ns cs : Nat} {steps : List Stp} {sl : List SlB} {S Sp : Nat → Prop} {Ms Is : Nat → Nat → Prop} {Mc : Nat → Prop} {hist : List ClP.Held} {cv : ClP.Held} {k : Nat} {ms : List St}
    (hA : Sli 1 ptL S w A gs n c) (hgm : gs.length = ms.length) (hme : ∀ (i gi : Nat) (st : St), gs[i]? = some gi → ms[i]? = some st → RepM w gi (Ms i) (Is i) k st ∧ 1 ≤ st.n) (hn1 : 1 ≤ n) (hn2 : n ≤ 64) (hce : repCb w gc Mc hist cv)
    (hS : Sli 70 stL S w As (steps.zip sl) ns cs) (hsl : sl.length = steps.length) (hns : ns ≤ 1000) (hp : ∀ s x, (s, x) ∈ steps.zip sl → Arg w x.A s.picks s.picks.length x.c ∧ s.picks.length ≤ 140737488351232 ∧ okS s ∧ ∀ q o, 0 < s.picks.length → x.A = some ⟨q, o, none⟩ → Sp q) :
    Calls Try.prog 23 #[.slice A n c, MbP.at' gc, .slice As ns cs] w fun e w' => ∃ g Mo Io, e = .returned (.tuple #[MbP.at' g, .int .i64 0]) ∧ RepK 0 w' g gs gc Mo Io steps false [] ∧ (∀ q, Mo q → w.heap.size ≤ q) ∧ (∀ q, Io q → w.heap.size ≤ q ∧ q < w'.heap.size ∨ Sp q) ∧ (∀ q, Mo q → q < w'.heap.size ∧ ¬ Io q) ∧ Below w.heap.size w w' := by
  have HA := hid hA
  have HM := hid hme
  have HC := hid hce
  have HS := hid hS
  have HP := hid hp
  have HL := hid hsl
  have HG := hid hgm
  have hgn := hid hA.len
  have t0 : decide ((n : Int) = 0) = false := by simp; omega
  have t0b : ((n : Int) == 0) = false := by simp; omega
  have t64 : decide ((64 : Int) < (n : Int)) = false := by simp; omega
  have t64b : ¬ 64 < n := by omega
  have tn0 : ¬ n = 0 := by omega
  clear hA hme hce hS hp hsl hgm
  unfold MbP.at'
  go_enter Try.func23, Try.ntmps23
  go_wp2_with fail
  refine (cb_read HC.out).mono ?_
  rintro e w2 ⟨rfl, hb2⟩
  have B2 := hid hb2
  clear hb2
  go_upto_region 2 with (first | (with_reducible apply alZ' ClP.zCe) | ((with_reducible apply stR (ClP.tCe cv)); rfl; rfl; exact Blk.new _ _ _; exact ClP.ce_size _ _; exact ClP.ce_one _))
  generalize hw3 : World.setRow _ _ _ = w3
  have B3 := hid (show Below w.heap.size w w3 by rw [← hw3]; exact B2.out.trans (below_setRow ((Below.refl _ _).alloc (Nat.le_refl _) _) (Nat.le_refl _) _ |>.mono B2.out.size))
  clear hw3 B2
  go_wp2_with fail
  go_loopw [22] (fun u22 wr => ∃ i : Nat, u22 = .int .i64 i ∧ i ≤ n ∧ Hid (Below w.heap.size w wr)) (fun u22 _ => n - (intOf u22).toNat)
  case atStart => exact ⟨0, rfl, Nat.zero_le _, B3⟩
  case round =>
    clear B3
    obtain ⟨i, rfl, hi, HB⟩ := hrel
    obtain ⟨wo, hwo⟩ : ∃ x, x = wr := ⟨_, rfl⟩
    subst hwo
    by_cases hin : i < n
    · have t1 : (i : Int) < (n : Int) := by omega
      obtain ⟨gi, hgi⟩ : ∃ gi, gs[i]? = some gi := ⟨_, List.getElem?_eq_getElem (by rw [hgn.out]; exact hin)⟩
      obtain ⟨st, hst⟩ : ∃ st, ms[i]? = some st := ⟨_, List.getElem?_eq_getElem (by rw [← HG.out, hgn.out]; exact hin)⟩
      obtain ⟨bA, oA, rfl, hbS, hbl, hr⟩ := HA.out.some hgi
      rw [Nat.mul_one] at hr
      have q1 : wo.cell? ⟨bA, oA + i, none⟩ = some (.pointer (some ⟨gi, 0, none⟩)) := (HB.out.cell (p := ⟨bA, oA + i, none⟩) hbl).trans (pt_p hr)
      obtain ⟨hrm, hst1⟩ := HM.out i gi st hgi hst
      have RMi := hid (MbP.memD_ok.frame hrm (T := fun _ => False) (Turn.of_new HB.out) fun _ _ e => e)
      have t2 : decide (st.n = 0) = false := by simp; omega
      have t2b : (st.n == 0) = false := by simp; omega
      have t2c : ¬ st.n = 0 := by omega
      clear hgi hst hr hrm
      go_upto_region 7 with fail
      go_wp2_with fail
      refine (MbP.memD_ok.len RMi.out).mono ?_
      rintro e w4 ⟨rfl, hb⟩
      have B4 := hid (HB.out.trans (hb.mono HB.out.size))
      clear hb q1 RMi HB
      go_wp2_with fail
      go_roundw
      case rel => exact ⟨i + 1, by go_num, by omega, B4⟩
      case measure => simp [intOf] <;> omega
    · have t1 : decide ((i : Int) < (n : Int)) = false := by simp; omega
      obtain rfl : i = n := by omega
      have A3 := hid (HA.out.turn (T := fun _ => False) (Turn.of_new HB.out) fun _ _ _ e => e)
      go_upto_region 12 with fail
      go_wp2_with fail
      refine (lb_cloneP A3.out (by omega)).mono ?_
      rintro e wc ⟨A', c', rfl, hA', hbc⟩
      have BC := hid (HB.out.trans (hbc.mono HB.out.size))
      have AC := hid hA'
      have SC := hid (HS.out.turn (T := fun _ => False) (Turn.of_new BC.out) fun _ _ _ e => e)
      have PC := hid (show ∀ s x, (s, x) ∈ steps.zip sl → Arg wc x.A s.picks s.picks.length x.c ∧ s.picks.length ≤ 140737488351232 from fun s x h => ⟨(HP.out s x h).1.on BC.out, (HP.out s x h).2.1⟩)
      have hws := hid HB.out.size
      clear hA' hbc A3 HB
      go_wp2_with fail
      refine (lb_byN SC.out HL.out hns PC.out).mono ?_
      rintro e w5 ⟨r, Fm, sl2, rfl, hl2, hB⟩
      have BN := hid hB
      have L2 := hid hl2
      clear hB hl2 SC PC
      go_wp2_with ((with_reducible apply wblBus); rfl; rfl; rfl)
      go_ret2
      have hBN := BN.out
      have hal := (Below.refl w5.heap.size w5).alloc (Nat.le_refl _) (.cells (pbV A' i c' gc r (.slice none 0 0) false) 56)
      have hr5 : r < w5.heap.size := hBN.map.lt
      have hrc := hBN.rl
      have hcs := BC.out.size
      have hc5 := hBN.bel.size
      have hgl : gs.length = i := hgn.out
      have hwo := hws.out
      have hsz : (w5.alloc (.cells (pbV A' i c' gc r (.slice none 0 0) false) 56)).heap.size = w5.heap.size + 1 := by simp
      have hsk : Sk 0 (w5.alloc (.cells (pbV A' i c' gc r (.slice none 0 0) false) 56)) w5.heap.size gs gc A' c' r (.slice none 0 0) Fm (fun q => w.heap.size ≤ q ∧ q < (w5.alloc (.cells (pbV A' i c' gc r (.slice none 0 0) false) 56)).heap.size ∧ q ≠ w5.heap.size ∧ q ≠ r) steps false [] :=
        sk_new (by rw [hgl]; exact Blk.new _ _ _) (by omega) (by rw [hgl]; exact AC.out.mono fun b e => Nat.le_trans hwo e) (hBN.bel.trans (hal.mono hc5)) hcs (hBN.on hal) L2.out (fun q h => by omega) (fun n e => by have := ((hBN.own n).own _ e).2; omega) (fun x hx o h1 h2 => by have := (hBN.pk x hx).2 _ o h1 h2; omega)
      refine ⟨w5.heap.size, mutK w5.heap.size r (.slice none 0 0), _, by simp, ⟨A', c', r, _, Fm, hsk, rfl⟩, fun q e => ?_, fun q e => .inl ⟨e.1, e.2.1⟩, fun q e => ?_, BC.out.trans ((hBN.bel.trans (hal.mono hc5)).mono hcs)⟩
      · rcases e with e | e | e
        · omega
        · omega
        · cases e
      · rcases e with e | e | e
        · exact ⟨by rw [hsz]; omega, fun x => x.2.2.1 e⟩
        · exact ⟨by rw [hsz]; omega, fun x => x.2.2.2 e⟩
        · cases e
end BuP
end Go.Proofs.Ytablkaofaedpeaa
set_option maxRecDepth 100000
namespace Go.Proofs.Ytablkaofaedpeaa
open Go.ChangeShapes Go.WideShapes Go.ChangeAt Go.RowKit
attribute [local go_sem] Gives GivesE
namespace BuP
open BuM MbM MbP MpV
section
variable {w w' : World} {d g k : Nat} {F : Fq} {b : Bs}
theorem bp_en4 (w : World) : (Instr.build 51 #[(0, .int .i64 4)]).run Try.prog w = .ok (.agg (enL ⟨4, 0, 0, fun _ => 0, 0⟩).toArray) w := run_build w _ _ _ (by kernel_rfl)
theorem wbpCe {ops : Array Oper} {Q : Exit → Act → World → Prop} {a : Act} {w : World} {rest : List Oper} {dst : Option Tmp} {ty : TypeId} {pos : String} {after : Array Edge} (hk : wpList Try.prog ops Q rest (a.put dst (.agg (enL ⟨4, 0, 0, fun _ => 0, 0⟩).toArray)) w) : wpList Try.prog ops Q (⟨dst, .build 51 #[(0, .const (.int .i64 4))], ty, pos, after, none⟩ :: rest) a w := by
  have hm : (#[(0, .const (.int .i64 4))] : Array (Nat × Operand)).map (fun (i, x) => (i, a.eval x)) = #[(0, .int .i64 4)] := by
    simp only [List.map_toArray, List.map_cons, List.map_nil]; rfl
  refine wpList_plain rfl fun K hK => ?_
  unfold Oper.wp execOp
  simp only [Sem.run_bind, hm, bp_en4, Result.andThen_ok, Sem.run_pure]
  exact hK _ _ hk
set_option maxHeartbeats 600000 in
set_option maxRecDepth 100000 in
theorem lb_cell (H : Pp (RepK 0) w g F k b) (hk : k + b.steps.length + 2 ≤ 8000) : Calls Try.prog 17 #[MbP.at' g] w fun e w' => e = .returned (.tuple #[.agg (ClP.ceL (BuM.ceV (BuM.ahead b))).toArray, .int .i64 (BuM.ceB (BuM.ahead b)).e]) ∧ outQ (RepK 0) w g F (k + b.steps.length + 2) (BuM.ceT b) w' := by
  have HH := hid H
  clear H
  unfold MbP.at'
  go_enter Try.func17, Try.ntmps17
  go_upto_region 2 with (with_reducible apply alZ' ClP.zCe)
  try simp only [Act.put, List.setIfInBounds_toArray, List.set_cons_succ, List.set_cons_zero]
  generalize hw0 : World.alloc w _ = w0
  generalize hwa : World.alloc w0 _ = wa
  generalize hw1 : World.alloc wa _ = w1
  obtain ⟨gB, hgB⟩ : ∃ n, n = w.heap.size := ⟨_, rfl⟩
  have hs0 : w0.heap.size = w.heap.size + 1 := by rw [← hw0]; simp
  have hsa : wa.heap.size = w.heap.size + 1 + 1 := by rw [← hwa, ← hs0]; simp
  obtain ⟨gR, hgR⟩ : ∃ n, n = w.heap.size + 1 := ⟨_, rfl⟩
  obtain ⟨gH, hgH⟩ : ∃ n, n = w.heap.size + 1 + 1 := ⟨_, rfl⟩
  have ba : Below w.heap.size w w0 := by rw [← hw0]; exact (Below.refl _ _).alloc (Nat.le_refl _) _
  have bb : Below w0.heap.size w0 wa := by rw [← hwa]; exact (Below.refl _ _).alloc (Nat.le_refl _) _
  have bc : Below wa.heap.size wa w1 := by rw [← hw1]; exact (Below.refl _ _).alloc (Nat.le_refl _) _
  have k1 : Blk w0 gB 22 #[.pointer (some ⟨g, 0, none⟩)] := by rw [← hw0, hgB]; exact Blk.new _ _ _
  have k2 : Blk wa gR 43 (ClP.ceL (0, ClP.zero)).toArray := by rw [← hwa, hgR, ← hs0]; exact Blk.new _ _ _
  have k3 : Blk w1 gH 43 (ClP.ceL (0, ClP.zero)).toArray := by rw [← hw1, hgH, ← hsa]; exact Blk.new _ _ _
  have K1 := hid ((k1.below bb k1.lt).below bc (Nat.lt_of_lt_of_le k1.lt bb.size))
  have K2 := hid (k2.below bc k2.lt)
  have K3 := hid k3
  have BEL := hid (show Below w.heap.size w w1 from (ba.trans (bb.mono ba.size)).trans (bc.mono (Nat.le_trans ba.size bb.size)))
  have nB : ¬ mutP F gB := fun e => by have := HH.out.mlt gB e; omega
  have nR : ¬ mutP F gR ∧ ¬ rdP F gR := ⟨fun e => by have := HH.out.mlt gR e; omega, fun e => by have := HH.out.ilt gR e; omega⟩
  have nH : ¬ mutP F gH ∧ ¬ rdP F gH := ⟨fun e => by have := HH.out.mlt gH e; omega, fun e => by have := HH.out.ilt gH e; omega⟩
  have hRw := hid (show w.heap.size ≤ gR by omega)
  have hHw := hid (show w.heap.size ≤ gH by omega)
  have hBH : gB ≠ gH := by omega
  have hRH : gR ≠ gH := by omega
  try rw [hsa]
  try rw [hs0]
  rw [← hgH, ← hgR, ← hgB]
  clear hw1 hw0 hwa hs0 hsa hgB hgR hgH ba bb bc k1 k2 k3
  have H1 := hid (HH.out.belowK BEL.out)
  have qB : w1.cell? ⟨gB, 0, none⟩ = some (.pointer (some ⟨g, 0, none⟩)) := K1.out.cell 0
  go_wp2_with (with_reducible apply wbpCe)
  refine (lb_ceIo H1.out hk hBH K1.out K3.out nB nH).mono ?_
  rintro e w2 ⟨rfl, ho, hd⟩
  obtain ⟨z, hz⟩ : ∃ z, z = ceB (BuM.ahead b) := ⟨_, rfl⟩
  obtain ⟨h, hh⟩ : ∃ h, h = ceV (BuM.ahead b) := ⟨_, rfl⟩
  have HZ := hid hz
  have HV := hid hh
  obtain ⟨F2, hP2, hC2⟩ := Come.ofX ho
  have R2 := hid (K2.out.turn hC2.2.2.2.2 fun e => e.elim nR.1 hRH)
  have H2 := hid (show Blk w2 gH 43 (ClP.ceL h).toArray by rw [hh]; exact hd)
  have hrl := K2.out.lt
  have n2 : ¬ mutP F2 gR ∧ ¬ rdP F2 gR := ⟨fun e => (hC2.2.2.1 gR e).elim nR.1 fun y => by omega, fun e => by
    rcases hC2.2.2.2.1 gR e with y | y | y
    · exact nR.1 y
    · exact nR.2 y
    · omega⟩
  have P2 := hid hP2
  have C2 := hid ((Come.refl (fun _ => False) F BEL.out).trans hC2 fun q e => .inr (by rw [e]; exact hHw.out))
  have hrl2 := R2.out.lt
  have hhl2 := H2.out.lt
  rw [← hz]
  clear qB ho hd hP2 hC2 K1 K2 K3 H1 hrl nR nH nB hz hh hBH
  go_upto_region 3 with (first | (with_reducible apply alZ' zEnP) | ((with_reducible apply stR (tEnP z)); rfl; rfl; exact Blk.new _ _ _; exact en_size _ _; exact en_one' _))
  generalize hw3 : World.setRow _ _ _ = w3
  obtain ⟨gE, hgE⟩ : ∃ n, n = w2.heap.size := ⟨_, rfl⟩
  have B3 := hid (show Below w2.heap.size w2 w3 by rw [← hw3]; exact below_setRow ((Below.refl _ _).alloc (Nat.le_refl _) _) (Nat.le_refl _) _)
  have E3 := hid (show Blk w3 gE 51 (enL z).toArray by rw [← hw3, hgE]; exact (Blk.new w2 _ _).setRow_same _)
  have hER : gR ≠ gE := by omega
  rw [← hgE]
  clear hw3 hgE
  have R3 := hid (R2.out.below B3.out hrl2)
  have H3 := hid (H2.out.below B3.out hhl2)
  have P3 := hid (P2.out.belowK B3.out)
  have C3 := hid (C2.out.trans (Come.refl (fun _ => False) F2 B3.out) fun _ e => e.elim)
  clear R2 H2 P2 C2 B3 hrl2 hhl2
  refine wp_region_c (S := yS [some (.agg (ClP.ceL h).toArray), some (.pointer (some ⟨gE, 67, none⟩)), some (.int .i64 z.e), some undef, some (.int .i64 z.e)] []) (C := fun d vs w' => ResQ w3 gR h (d 3) w') 5 (by kernel_rfl) (by kernel_rfl) (by kernel_rfl) _
    (yS_ok _ fun y hy => by cases hy) ⟨Turn.drew _, R3.out.drew⟩ fun vs => ?_
  simp only [List.take_succ_cons, List.take_zero, List.drop_succ_cons, List.drop_zero]
  refine ⟨.inl ⟨rfl, fun dd w' hd hnx hw hC => ?_⟩, fun e => ?_⟩
  · exact ClP.gE_ldR (cs := (ClP.ceL h).toArray) (ClP.tCe h) rfl (H3.out.turn hC.t fun e => hRH e.symm).whole ⟨rfl, hC⟩
  have e' : vs 0 = _ := e
  rw [e']
  clear e e'
  simp only [Act.put, List.setIfInBounds_toArray, List.set_cons_succ, List.set_cons_zero]
  refine ⟨.inl ⟨rfl, fun dd w' hd hnx hw hC => ?_⟩, fun e => ?_⟩
  · go_simp
    first | exact ⟨rfl, hC⟩ | exact hC
  have e' : vs 1 = _ := e
  rw [e']
  clear e e'
  simp only [Act.put, List.setIfInBounds_toArray, List.set_cons_succ, List.set_cons_zero]
  refine ⟨.inl ⟨rfl, fun dd w' hd hnx hw hC => ?_⟩, fun e => ?_⟩
  · have h1 : w'.cell? ⟨gE, 67, none⟩ = some (.int .i64 z.e) := en_qe (E3.out.turn hC.t fun e => hER e.symm)
    go_simp
    first | exact ⟨rfl, hC⟩ | exact hC
  have e' : vs 2 = _ := e
  rw [e']
  clear e e'
  simp only [Act.put, List.setIfInBounds_toArray, List.set_cons_succ, List.set_cons_zero]
  refine ⟨.inl ⟨rfl, fun dd w' hd hnx hw hC => ?_⟩, fun e => ?_⟩
  · with_reducible refine gE_stR (cs := (ClP.ceL h).toArray) (old := (ClP.ceL (if dd 3 then h else (0, ClP.zero))).toArray) (g := gR) (t := 43) ?_ ?_ ?_ ?_ ?_ ?_ ?_
    · exact ClP.tCe h
    · rfl
    · rfl
    · exact hC.b
    · exact ClP.ce_size _ _
    · exact ClP.ce_one _
    · exact ⟨rfl, hC.put⟩
  have e' : vs 3 = _ := e
  rw [e']
  clear e e'
  simp only [Act.put, List.setIfInBounds_toArray, List.set_cons_succ, List.set_cons_zero]
  refine ⟨.inl ⟨rfl, fun dd w' hd hnx hw hC => ?_⟩, fun e => ?_⟩
  · go_simp
    first | exact ⟨rfl, hC⟩ | exact hC
  have e' : vs 4 = _ := e
  rw [e']
  clear e e'
  simp only [Act.put, List.setIfInBounds_toArray, List.set_cons_succ, List.set_cons_zero]
  intro dd wz hall hC
  have h4 : dd 3 = true := hall 3 (by omega)
  have Z := hid (show Blk wz gR 43 (ClP.ceL h).toArray by have := hC.b; rw [h4] at this; exact this)
  have P6 := hid (P3.out.turnK hC.t fun q e x => by rw [x] at e; exact e.elim n2.1 n2.2)
  have C6 := hid (show Come (fun _ => False) w F wz F2 from C3.out.trans (Come.touch (X := fun q => q = gR) _ F2 hC.t fun q e => .inl e) fun q e => .inr (e ▸ hRw.out))
  clear hC h4 hall E3 R3 H3 P3 C3 n2
  go_wp2_with fail
  refine ret_rowt2 (t := 43) (cs := (ClP.ceL h).toArray) (g := gR) (v := .int .i64 z.e) (ClP.tCe h) Try.results17 rfl rfl rfl Z.out ?_
  have e1 : Ending.returned (.tuple #[.agg (ClP.ceL h).toArray, .int .i64 z.e]) = .returned (.tuple #[.agg (ClP.ceL (BuM.ceV (BuM.ahead b))).toArray, .int .i64 (BuM.ceB (BuM.ahead b)).e]) := by rw [HV.out, HZ.out]
  exact ⟨e1, C6.out.toQ P6.out⟩
end
end BuP
end Go.Proofs.Ytablkaofaedpeaa
set_option maxRecDepth 100000
namespace Go.Proofs.Ytablkaofaedpeaa
open Go.ChangeShapes Go.WideShapes Go.ChangeAt Go.RowKit
attribute [local go_sem] Gives GivesE
namespace BuP
open BuM MbM MbP MpV
set_option maxHeartbeats 1000000 in
set_option maxRecDepth 100000 in
theorem lb_bad {w : World} {A : Option Addr} {gs : List Nat} {n c gc : Nat} {As : Option Addr} {ns cs : Nat} {Ms Is : Nat → Nat → Prop} {S : Nat → Prop} {Mc : Nat → Prop} {hist : List ClP.Held} {cv : ClP.Held} {k : Nat} {ms : List St}
    (hA : Sli 1 ptL S w A gs n c) (hgm : gs.length = ms.length) (hme : ∀ (i gi : Nat) (st : St), gs[i]? = some gi → ms[i]? = some st → RepM w gi (Ms i) (Is i) k st ∧ 1 ≤ st.n) (hn : n = 0 ∨ 64 < n) (hn2 : n ≤ 1000) (hce : repCb w gc Mc hist cv) :
    Calls Try.prog 23 #[.slice A n c, MbP.at' gc, .slice As ns cs] w fun e w' => e = .returned (.tuple #[.pointer none, .int .i64 2]) ∧ Below w.heap.size w w' := by
  have HA := hid hA
  have HM := hid hme
  have HC := hid hce
  have HG := hid hgm
  have hgn := hid hA.len
  have HN := hid hn
  clear hA hme hce hgm hn
  unfold MbP.at'
  go_enter Try.func23, Try.ntmps23
  go_wp2_with fail
  refine (cb_read HC.out).mono ?_
  rintro e w2 ⟨rfl, hb2⟩
  have B2 := hid hb2
  clear hb2
  go_upto_region 2 with (first | (with_reducible apply alZ' ClP.zCe) | ((with_reducible apply stR (ClP.tCe cv)); rfl; rfl; exact Blk.new _ _ _; exact ClP.ce_size _ _; exact ClP.ce_one _))
  generalize hw3 : World.setRow _ _ _ = w3
  have B3 := hid (show Below w.heap.size w w3 by rw [← hw3]; exact B2.out.trans (below_setRow ((Below.refl _ _).alloc (Nat.le_refl _) _) (Nat.le_refl _) _ |>.mono B2.out.size))
  clear hw3 B2
  go_wp2_with fail
  go_loopw [22] (fun u22 wr => ∃ i : Nat, u22 = .int .i64 i ∧ i ≤ n ∧ Hid (Below w.heap.size w wr)) (fun u22 _ => n - (intOf u22).toNat)
  case atStart => exact ⟨0, rfl, Nat.zero_le _, B3⟩
  case round =>
    clear B3
    obtain ⟨i, rfl, hi, HB⟩ := hrel
    obtain ⟨wo, hwo⟩ : ∃ x, x = wr := ⟨_, rfl⟩
    subst hwo
    by_cases hin : i < n
    · have t1 : (i : Int) < (n : Int) := by omega
      obtain ⟨gi, hgi⟩ : ∃ gi, gs[i]? = some gi := ⟨_, List.getElem?_eq_getElem (by rw [hgn.out]; exact hin)⟩
      obtain ⟨st, hst⟩ : ∃ st, ms[i]? = some st := ⟨_, List.getElem?_eq_getElem (by rw [← HG.out, hgn.out]; exact hin)⟩
      obtain ⟨bA, oA, rfl, hbS, hbl, hr⟩ := HA.out.some hgi
      rw [Nat.mul_one] at hr
      have q1 : wo.cell? ⟨bA, oA + i, none⟩ = some (.pointer (some ⟨gi, 0, none⟩)) := (HB.out.cell (p := ⟨bA, oA + i, none⟩) hbl).trans (pt_p hr)
      obtain ⟨hrm, hst1⟩ := HM.out i gi st hgi hst
      have RMi := hid (MbP.memD_ok.frame hrm (T := fun _ => False) (Turn.of_new HB.out) fun _ _ e => e)
      have t2 : decide (st.n = 0) = false := by simp; omega
      have t2b : (st.n == 0) = false := by simp; omega
      have t2c : ¬ st.n = 0 := by omega
      clear hgi hst hr hrm
      go_upto_region 7 with fail
      go_wp2_with fail
      refine (MbP.memD_ok.len RMi.out).mono ?_
      rintro e w4 ⟨rfl, hb⟩
      have B4 := hid (HB.out.trans (hb.mono HB.out.size))
      clear hb q1 RMi HB
      go_wp2_with fail
      go_roundw
      case rel => exact ⟨i + 1, by go_num, by omega, B4⟩
      case measure => simp [intOf] <;> omega
    · have t1 : decide ((i : Int) < (n : Int)) = false := by simp; omega
      obtain rfl : i = n := by omega
      have hn := HN.out
      rcases hn with h0 | h64
      · subst h0
        have t0 : decide (((0 : Nat) : Int) = 0) = true := rfl
        clear HN
        go_wp2_with fail
        go_ret2
        exact ⟨rfl, HB.out⟩
      · have t0 : decide ((i : Int) = 0) = false := by simp; omega
        have t0b : ((i : Int) == 0) = false := by simp; omega
        have tn0 : ¬ i = 0 := by omega
        have t64 : decide ((64 : Int) < (i : Int)) = true := by simp; omega
        have t64b : 64 < i := h64
        clear HN
        go_wp2_with fail
        go_ret2
        exact ⟨rfl, HB.out⟩
/-- The landed bus keeps the contracts. -/
theorem bus_ok : BusC (RepK 0) where
  frame h ht hT := repK_frame h ht hT
  new hA hgm hme h1 h2 hce hS hsl hns hp := lb_new hA hgm hme h1 h2 hce hS hsl hns hp
  bad hA hgm hme hn h2 hce _ _ _ := lb_bad hA hgm hme hn h2 hce
  read H hk m i := lb_read H hk m i
  write H hk m i x hx := lb_write H hk m i x hx
  flush H hk m := lb_flush H hk m
  cell H hk := lb_cell H hk
  adv H hk t := lb_adv H hk t
  power H := lb_power H
  count H := lb_count H
  off H := lb_off H
  members H := lb_members H
  sectors H m := lb_sectors H m
  log H hk := lb_log H hk
end BuP
end Go.Proofs.Ytablkaofaedpeaa
