/-
  The landed bus: New.
  The landed bus: Cell, Advance.
  The law BusReplay: the writes and flushes of the log that are OK, done again on new members, make them the same.
  The landed bus: all of its contracts.
-/
import Derived.Test.YtablkaofaedpeaaMrg8
set_option linter.unusedVariables false
set_option linter.unusedSimpArgs false
set_option maxRecDepth 100000
namespace Go.Proofs.Ytablkaofaedpeaa
open Go.ChangeShapes Go.WideShapes Go.ChangeAt Go.RowKit
attribute [local go_sem] Gives GivesE
namespace BuP
open BuM MbM MbP MpV
theorem built_bus (A : Option Addr) (n c gc r : Nat) : Try.prog.built 56 [(0, .slice A n c), (1, .pointer (some ⟨gc, 0, none⟩)), (2, .map (some r))] = some (pbV A n c gc r (.slice none 0 0) false) := by kernel_rfl
section
variable {ops : Array Oper} {Q : Exit → Act → World → Prop} {a : Act} {w : World} {rest : List Oper} {dst : Option Tmp} {ty : TypeId} {pos : String} {after : Array Edge} {x y z : Operand} {A : Option Addr} {n c gc r : Nat}
theorem wblBus (hx : a.eval x = .slice A n c) (hy : a.eval y = .pointer (some ⟨gc, 0, none⟩)) (hz : a.eval z = .map (some r)) (hk : wpList Try.prog ops Q rest (a.put dst (.agg (pbV A n c gc r (.slice none 0 0) false))) w) : wpList Try.prog ops Q (⟨dst, .build 56 #[(0, x), (1, y), (2, z)], ty, pos, after, none⟩ :: rest) a w := by
  have hr : (Instr.build 56 #[(0, .slice A n c), (1, .pointer (some ⟨gc, 0, none⟩)), (2, .map (some r))]).run Try.prog w = .ok (.agg (pbV A n c gc r (.slice none 0 0) false)) w := run_build w _ _ _ (built_bus A n c gc r)
  have hm : (#[(0, x), (1, y), (2, z)] : Array (Nat × Operand)).map (fun (i, x) => (i, a.eval x)) = #[(0, .slice A n c), (1, .pointer (some ⟨gc, 0, none⟩)), (2, .map (some r))] := by
    simp only [List.map_toArray, List.map_cons, List.map_nil, hx, hy, hz]
  refine wpList_plain rfl fun K hK => ?_
  unfold Oper.wp execOp
  simp only [Sem.run_bind, hm, hr, Result.andThen_ok, Sem.run_pure]
  exact hK _ _ hk
end
theorem ofN_fst (n : Int) : ∀ (l : List Stp) (m : List SlB), m.length = l.length → (ofN n (l.zip m)).map (·.1) = l.filter fun s => decide (s.a = n)
  | [], [], _ => rfl
  | [], y :: m, h => by cases h
  | x :: l, [], h => by cases h
  | x :: l, y :: m, h => by
    have ih := ofN_fst n l m (Nat.succ.inj h)
    unfold ofN at ih ⊢
    rw [List.zip_cons_cons, List.filter_cons, List.filter_cons]
    by_cases e : x.a = n
    · rw [if_pos (by simpa using e), if_pos (by simpa using e), List.map_cons, ih]
    · rw [if_neg (by simpa using e), if_neg (by simpa using e), ih]
/-- What New lays. -/
theorem sk_new {w wc w9 : World} {g r gc c : Nat} {A : Option Addr} {gs : List Nat} {steps : List Stp} {sl2 : List SlB} {Fm : MpV.Img} (hb : Blk w9 g 56 (pbV A gs.length c gc r (.slice none 0 0) false)) (hp : 1 ≤ gs.length) (hA : Sli 1 ptL (fun b => w.heap.size ≤ b) wc A gs gs.length c) (hc : Below wc.heap.size wc w9) (hwc : w.heap.size ≤ wc.heap.size)
    (hB : ByN wc r (steps.zip sl2) w9 Fm) (hsl : sl2.length = steps.length) (hg : ∀ q, q < wc.heap.size → q ≠ g) (hgo : ∀ n, (Fm n).ownBlock ≠ some g) (hgp : ∀ x ∈ steps.zip sl2, ∀ o, 0 < x.1.picks.length → x.2.A ≠ some ⟨g, o, none⟩) :
    Sk 0 w9 g gs gc A c r (.slice none 0 0) Fm (fun q => w.heap.size ≤ q ∧ q < w9.heap.size ∧ q ≠ g ∧ q ≠ r) steps false [] where
  blk := hb
  pos := hp
  arr := by
    refine ⟨hA.len, hA.cap, hA.max, hA.none, fun hn => ?_⟩
    obtain ⟨b, o, e, h1, h2, h3⟩ := hA.lst hn
    have hs := hc.size
    exact ⟨b, o, e, ⟨h1, by omega, hg b h2, by have := hB.rl; omega⟩, by omega, fun i x hi => (Turn.of_new (S := fun _ => False) hc).range (h3 i x hi) fun e => e⟩
  map := hB.map
  due n _ := by
    obtain ⟨A', c', e, hs⟩ := own_sli (S := fun q => w.heap.size ≤ q ∧ q < w9.heap.size ∧ q ≠ g ∧ q ≠ r) stL_len (hB.own (n : Int)) fun b e => ⟨Nat.le_trans hwc (hB.low _ b e).1, ((hB.own (n : Int)).own b e).2, fun x => hgo _ (x ▸ e), (hB.low _ b e).2⟩
    have hf := ofN_fst (n : Int) steps sl2 hsl
    have hl : (steps.filter fun s => decide (s.a = (n : Int))).length = (ofN (n : Int) (steps.zip sl2)).length := by rw [← hf, List.length_map]
    refine ⟨ofN (n : Int) (steps.zip sl2), A', c', by rw [hl]; exact e, hf, by rw [hl]; exact hs, fun x hx => ?_⟩
    have hm : x ∈ steps.zip sl2 := by
      unfold ofN at hx
      exact (List.mem_filter.1 hx).1
    have h1 := hB.pk x hm
    exact ⟨h1.1, fun q o h2 h3 => by
      obtain ⟨a, b, c, _⟩ := h1.2 q o h2 h3
      exact ⟨Nat.le_trans hwc a, b, fun e => hgp x hm o h2 (by rw [h3, e]), c⟩⟩
  lg := OwnX.nil _ _ _ _ _
  slt q hq := hq.2.1
set_option maxHeartbeats 1000000 in
set_option maxRecDepth 100000 in
theorem lb_new {w : World} {A : Option Addr} {gs : List Nat} {n c gc : Nat} {As : Option Addr} {ns cs : Nat} {steps : List Stp} {sl : List SlB} {S Sp : Nat → Prop} {Ms Is : Nat → Nat → Prop} {Mc : Nat → Prop} {hist : List ClP.Held} {cv : ClP.Held} {k : Nat} {ms : List St}
    (hA : Sli 1 ptL S w A gs n c) (hgm : gs.length = ms.length) (hme : ∀ (i gi : Nat) (st : St), gs[i]? = some gi → ms[i]? = some st → RepM w gi (Ms i) (Is i) k st ∧ 1 ≤ st.n) (hn1 : 1 ≤ n) (hn2 : n ≤ 64) (hce : repCb w gc Mc hist cv)
    (hS : Sli 70 stL S w As (steps.zip sl) ns cs) (hsl : sl.length = steps.length) (hns : ns ≤ 1000) (hp : ∀ s x, (s, x) ∈ steps.zip sl → Arg w x.A s.picks s.picks.length x.c ∧ s.picks.length ≤ 140737488351232 ∧ okS s ∧ ∀ q o, 0 < s.picks.length → x.A = some ⟨q, o, none⟩ → Sp q) :
    Calls Try.prog 23 #[.slice A n c, MbP.at' gc, .slice As ns cs] w fun e w' => ∃ g Mo Io, e = .returned (.tuple #[MbP.at' g, .int .i64 0]) ∧ RepK 0 w' g gs gc Mo Io steps false [] ∧ (∀ q, Mo q → w.heap.size ≤ q) ∧ (∀ q, Io q → w.heap.size ≤ q ∧ q < w'.heap.size ∨ Sp q) ∧ (∀ q, Mo q → q < w'.heap.size ∧ ¬ Io q) ∧ Below w.heap.size w w' := by
  have HA := hid hA
  have HM := hid hme
  have HC := hid hce
  have HS := hid hS
  have HP := hid hp
  have HL := hid hsl
  have HG := hid hgm
  have hgn := hid hA.len
  have t0 : decide ((n : Int) = 0) = false := by simp; omega
  have t0b : ((n : Int) == 0) = false := by simp; omega
  have t64 : decide ((64 : Int) < (n : Int)) = false := by simp; omega
  have t64b : ¬ 64 < n := by omega
  have tn0 : ¬ n = 0 := by omega
  clear hA hme hce hS hp hsl hgm
  unfold MbP.at'
  go_enter Try.func23, Try.ntmps23
  go_wp2_with fail
  refine (cb_read HC.out).mono ?_
  rintro e w2 ⟨rfl, hb2⟩
  have B2 := hid hb2
  clear hb2
  go_upto_region 2 with (first | (with_reducible apply alZ' ClP.zCe) | ((with_reducible apply stR (ClP.tCe cv)); rfl; rfl; exact Blk.new _ _ _; exact ClP.ce_size _ _; exact ClP.ce_one _))
  generalize hw3 : World.setRow _ _ _ = w3
  have B3 := hid (show Below w.heap.size w w3 by rw [← hw3]; exact B2.out.trans (below_setRow ((Below.refl _ _).alloc (Nat.le_refl _) _) (Nat.le_refl _) _ |>.mono B2.out.size))
  clear hw3 B2
  go_wp2_with fail
  go_loopw [22] (fun u22 wr => ∃ i : Nat, u22 = .int .i64 i ∧ i ≤ n ∧ Hid (Below w.heap.size w wr)) (fun u22 _ => n - (intOf u22).toNat)
  case atStart => exact ⟨0, rfl, Nat.zero_le _, B3⟩
  case round =>
    clear B3
    obtain ⟨i, rfl, hi, HB⟩ := hrel
    obtain ⟨wo, hwo⟩ : ∃ x, x = wr := ⟨_, rfl⟩
    subst hwo
    by_cases hin : i < n
    · have t1 : (i : Int) < (n : Int) := by omega
      obtain ⟨gi, hgi⟩ : ∃ gi, gs[i]? = some gi := ⟨_, List.getElem?_eq_getElem (by rw [hgn.out]; exact hin)⟩
      obtain ⟨st, hst⟩ : ∃ st, ms[i]? = some st := ⟨_, List.getElem?_eq_getElem (by rw [← HG.out, hgn.out]; exact hin)⟩
      obtain ⟨bA, oA, rfl, hbS, hbl, hr⟩ := HA.out.some hgi
      rw [Nat.mul_one] at hr
      have q1 : wo.cell? ⟨bA, oA + i, none⟩ = some (.pointer (some ⟨gi, 0, none⟩)) := (HB.out.cell (p := ⟨bA, oA + i, none⟩) hbl).trans (pt_p hr)
      obtain ⟨hrm, hst1⟩ := HM.out i gi st hgi hst
      have RMi := hid (MbP.memD_ok.frame hrm (T := fun _ => False) (Turn.of_new HB.out) fun _ _ e => e)
      have t2 : decide (st.n = 0) = false := by simp; omega
      have t2b : (st.n == 0) = false := by simp; omega
      have t2c : ¬ st.n = 0 := by omega
      clear hgi hst hr hrm
      go_upto_region 7 with fail
      go_wp2_with fail
      refine (MbP.memD_ok.len RMi.out).mono ?_
      rintro e w4 ⟨rfl, hb⟩
      have B4 := hid (HB.out.trans (hb.mono HB.out.size))
      clear hb q1 RMi HB
      go_wp2_with fail
      go_roundw
      case rel => exact ⟨i + 1, by go_num, by omega, B4⟩
      case measure => simp [intOf] <;> omega
    · have t1 : decide ((i : Int) < (n : Int)) = false := by simp; omega
      obtain rfl : i = n := by omega
      have A3 := hid (HA.out.turn (T := fun _ => False) (Turn.of_new HB.out) fun _ _ _ e => e)
      go_upto_region 12 with fail
      go_wp2_with fail
      refine (lb_cloneP A3.out (by omega)).mono ?_
      rintro e wc ⟨A', c', rfl, hA', hbc⟩
      have BC := hid (HB.out.trans (hbc.mono HB.out.size))
      have AC := hid hA'
      have SC := hid (HS.out.turn (T := fun _ => False) (Turn.of_new BC.out) fun _ _ _ e => e)
      have PC := hid (show ∀ s x, (s, x) ∈ steps.zip sl → Arg wc x.A s.picks s.picks.length x.c ∧ s.picks.length ≤ 140737488351232 from fun s x h => ⟨(HP.out s x h).1.on BC.out, (HP.out s x h).2.1⟩)
      have hws := hid HB.out.size
      clear hA' hbc A3 HB
      go_wp2_with fail
      refine (lb_byN SC.out HL.out hns PC.out).mono ?_
      rintro e w5 ⟨r, Fm, sl2, rfl, hl2, hB⟩
      have BN := hid hB
      have L2 := hid hl2
      clear hB hl2 SC PC
      go_wp2_with ((with_reducible apply wblBus); rfl; rfl; rfl)
      go_ret2
      have hBN := BN.out
      have hal := (Below.refl w5.heap.size w5).alloc (Nat.le_refl _) (.cells (pbV A' i c' gc r (.slice none 0 0) false) 56)
      have hr5 : r < w5.heap.size := hBN.map.lt
      have hrc := hBN.rl
      have hcs := BC.out.size
      have hc5 := hBN.bel.size
      have hgl : gs.length = i := hgn.out
      have hwo := hws.out
      have hsz : (w5.alloc (.cells (pbV A' i c' gc r (.slice none 0 0) false) 56)).heap.size = w5.heap.size + 1 := by simp
      have hsk : Sk 0 (w5.alloc (.cells (pbV A' i c' gc r (.slice none 0 0) false) 56)) w5.heap.size gs gc A' c' r (.slice none 0 0) Fm (fun q => w.heap.size ≤ q ∧ q < (w5.alloc (.cells (pbV A' i c' gc r (.slice none 0 0) false) 56)).heap.size ∧ q ≠ w5.heap.size ∧ q ≠ r) steps false [] :=
        sk_new (by rw [hgl]; exact Blk.new _ _ _) (by omega) (by rw [hgl]; exact AC.out.mono fun b e => Nat.le_trans hwo e) (hBN.bel.trans (hal.mono hc5)) hcs (hBN.on hal) L2.out (fun q h => by omega) (fun n e => by have := ((hBN.own n).own _ e).2; omega) (fun x hx o h1 h2 => by have := (hBN.pk x hx).2 _ o h1 h2; omega)
      refine ⟨w5.heap.size, mutK w5.heap.size r (.slice none 0 0), _, by simp, ⟨A', c', r, _, Fm, hsk, rfl⟩, fun q e => ?_, fun q e => .inl ⟨e.1, e.2.1⟩, fun q e => ?_, BC.out.trans ((hBN.bel.trans (hal.mono hc5)).mono hcs)⟩
      · rcases e with e | e | e
        · omega
        · omega
        · cases e
      · rcases e with e | e | e
        · exact ⟨by rw [hsz]; omega, fun x => x.2.2.1 e⟩
        · exact ⟨by rw [hsz]; omega, fun x => x.2.2.2 e⟩
        · cases e
end BuP
end Go.Proofs.Ytablkaofaedpeaa
set_option maxRecDepth 100000
namespace Go.Proofs.Ytablkaofaedpeaa
open Go.ChangeShapes Go.WideShapes Go.ChangeAt Go.RowKit
attribute [local go_sem] Gives GivesE
namespace BuP
open BuM MbM MbP MpV
section
variable {w w' : World} {d g k : Nat} {F : Fq} {b : Bs}
theorem bp_en4 (w : World) : (Instr.build 51 #[(0, .int .i64 4)]).run Try.prog w = .ok (.agg (enL ⟨4, 0, 0, fun _ => 0, 0⟩).toArray) w := run_build w _ _ _ (by kernel_rfl)
theorem wbpCe {ops : Array Oper} {Q : Exit → Act → World → Prop} {a : Act} {w : World} {rest : List Oper} {dst : Option Tmp} {ty : TypeId} {pos : String} {after : Array Edge} (hk : wpList Try.prog ops Q rest (a.put dst (.agg (enL ⟨4, 0, 0, fun _ => 0, 0⟩).toArray)) w) : wpList Try.prog ops Q (⟨dst, .build 51 #[(0, .const (.int .i64 4))], ty, pos, after, none⟩ :: rest) a w := by
  have hm : (#[(0, .const (.int .i64 4))] : Array (Nat × Operand)).map (fun (i, x) => (i, a.eval x)) = #[(0, .int .i64 4)] := by
    simp only [List.map_toArray, List.map_cons, List.map_nil]; rfl
  refine wpList_plain rfl fun K hK => ?_
  unfold Oper.wp execOp
  simp only [Sem.run_bind, hm, bp_en4, Result.andThen_ok, Sem.run_pure]
  exact hK _ _ hk
set_option maxHeartbeats 600000 in
set_option maxRecDepth 100000 in
theorem lb_cell (H : Pp (RepK 0) w g F k b) (hk : k + b.steps.length + 2 ≤ 8000) : Calls Try.prog 17 #[MbP.at' g] w fun e w' => e = .returned (.tuple #[.agg (ClP.ceL (BuM.ceV (BuM.ahead b))).toArray, .int .i64 (BuM.ceB (BuM.ahead b)).e]) ∧ outQ (RepK 0) w g F (k + b.steps.length + 2) (BuM.ceT b) w' := by
  have HH := hid H
  clear H
  unfold MbP.at'
  go_enter Try.func17, Try.ntmps17
  go_upto_region 2 with (with_reducible apply alZ' ClP.zCe)
  try simp only [Act.put, List.setIfInBounds_toArray, List.set_cons_succ, List.set_cons_zero]
  generalize hw0 : World.alloc w _ = w0
  generalize hwa : World.alloc w0 _ = wa
  generalize hw1 : World.alloc wa _ = w1
  obtain ⟨gB, hgB⟩ : ∃ n, n = w.heap.size := ⟨_, rfl⟩
  have hs0 : w0.heap.size = w.heap.size + 1 := by rw [← hw0]; simp
  have hsa : wa.heap.size = w.heap.size + 1 + 1 := by rw [← hwa, ← hs0]; simp
  obtain ⟨gR, hgR⟩ : ∃ n, n = w.heap.size + 1 := ⟨_, rfl⟩
  obtain ⟨gH, hgH⟩ : ∃ n, n = w.heap.size + 1 + 1 := ⟨_, rfl⟩
  have ba : Below w.heap.size w w0 := by rw [← hw0]; exact (Below.refl _ _).alloc (Nat.le_refl _) _
  have bb : Below w0.heap.size w0 wa := by rw [← hwa]; exact (Below.refl _ _).alloc (Nat.le_refl _) _
  have bc : Below wa.heap.size wa w1 := by rw [← hw1]; exact (Below.refl _ _).alloc (Nat.le_refl _) _
  have k1 : Blk w0 gB 22 #[.pointer (some ⟨g, 0, none⟩)] := by rw [← hw0, hgB]; exact Blk.new _ _ _
  have k2 : Blk wa gR 43 (ClP.ceL (0, ClP.zero)).toArray := by rw [← hwa, hgR, ← hs0]; exact Blk.new _ _ _
  have k3 : Blk w1 gH 43 (ClP.ceL (0, ClP.zero)).toArray := by rw [← hw1, hgH, ← hsa]; exact Blk.new _ _ _
  have K1 := hid ((k1.below bb k1.lt).below bc (Nat.lt_of_lt_of_le k1.lt bb.size))
  have K2 := hid (k2.below bc k2.lt)
  have K3 := hid k3
  have BEL := hid (show Below w.heap.size w w1 from (ba.trans (bb.mono ba.size)).trans (bc.mono (Nat.le_trans ba.size bb.size)))
  have nB : ¬ mutP F gB := fun e => by have := HH.out.mlt gB e; omega
  have nR : ¬ mutP F gR ∧ ¬ rdP F gR := ⟨fun e => by have := HH.out.mlt gR e; omega, fun e => by have := HH.out.ilt gR e; omega⟩
  have nH : ¬ mutP F gH ∧ ¬ rdP F gH := ⟨fun e => by have := HH.out.mlt gH e; omega, fun e => by have := HH.out.ilt gH e; omega⟩
  have hRw := hid (show w.heap.size ≤ gR by omega)
  have hHw := hid (show w.heap.size ≤ gH by omega)
  have hBH : gB ≠ gH := by omega
  have hRH : gR ≠ gH := by omega
  try rw [hsa]
  try rw [hs0]
  rw [← hgH, ← hgR, ← hgB]
  clear hw1 hw0 hwa hs0 hsa hgB hgR hgH ba bb bc k1 k2 k3
  have H1 := hid (HH.out.belowK BEL.out)
  have qB : w1.cell? ⟨gB, 0, none⟩ = some (.pointer (some ⟨g, 0, none⟩)) := K1.out.cell 0
  go_wp2_with (with_reducible apply wbpCe)
  refine (lb_ceIo H1.out hk hBH K1.out K3.out nB nH).mono ?_
  rintro e w2 ⟨rfl, ho, hd⟩
  obtain ⟨z, hz⟩ : ∃ z, z = ceB (BuM.ahead b) := ⟨_, rfl⟩
  obtain ⟨h, hh⟩ : ∃ h, h = ceV (BuM.ahead b) := ⟨_, rfl⟩
  have HZ := hid hz
  have HV := hid hh
  obtain ⟨F2, hP2, hC2⟩ := Come.ofX ho
  have R2 := hid (K2.out.turn hC2.2.2.2.2 fun e => e.elim nR.1 hRH)
  have H2 := hid (show Blk w2 gH 43 (ClP.ceL h).toArray by rw [hh]; exact hd)
  have hrl := K2.out.lt
  have n2 : ¬ mutP F2 gR ∧ ¬ rdP F2 gR := ⟨fun e => (hC2.2.2.1 gR e).elim nR.1 fun y => by omega, fun e => by
    rcases hC2.2.2.2.1 gR e with y | y | y
    · exact nR.1 y
    · exact nR.2 y
    · omega⟩
  have P2 := hid hP2
  have C2 := hid ((Come.refl (fun _ => False) F BEL.out).trans hC2 fun q e => .inr (by rw [e]; exact hHw.out))
  have hrl2 := R2.out.lt
  have hhl2 := H2.out.lt
  rw [← hz]
  clear qB ho hd hP2 hC2 K1 K2 K3 H1 hrl nR nH nB hz hh hBH
  go_upto_region 3 with (first | (with_reducible apply alZ' zEnP) | ((with_reducible apply stR (tEnP z)); rfl; rfl; exact Blk.new _ _ _; exact en_size _ _; exact en_one' _))
  generalize hw3 : World.setRow _ _ _ = w3
  obtain ⟨gE, hgE⟩ : ∃ n, n = w2.heap.size := ⟨_, rfl⟩
  have B3 := hid (show Below w2.heap.size w2 w3 by rw [← hw3]; exact below_setRow ((Below.refl _ _).alloc (Nat.le_refl _) _) (Nat.le_refl _) _)
  have E3 := hid (show Blk w3 gE 51 (enL z).toArray by rw [← hw3, hgE]; exact (Blk.new w2 _ _).setRow_same _)
  have hER : gR ≠ gE := by omega
  rw [← hgE]
  clear hw3 hgE
  have R3 := hid (R2.out.below B3.out hrl2)
  have H3 := hid (H2.out.below B3.out hhl2)
  have P3 := hid (P2.out.belowK B3.out)
  have C3 := hid (C2.out.trans (Come.refl (fun _ => False) F2 B3.out) fun _ e => e.elim)
  clear R2 H2 P2 C2 B3 hrl2 hhl2
  refine wp_region_c (S := yS [some (.agg (ClP.ceL h).toArray), some (.pointer (some ⟨gE, 67, none⟩)), some (.int .i64 z.e), some undef, some (.int .i64 z.e)] []) (C := fun d vs w' => ResQ w3 gR h (d 3) w') 5 (by kernel_rfl) (by kernel_rfl) (by kernel_rfl) _
    (yS_ok _ fun y hy => by cases hy) ⟨Turn.drew _, R3.out.drew⟩ fun vs => ?_
  simp only [List.take_succ_cons, List.take_zero, List.drop_succ_cons, List.drop_zero]
  refine ⟨.inl ⟨rfl, fun dd w' hd hnx hw hC => ?_⟩, fun e => ?_⟩
  · exact ClP.gE_ldR (cs := (ClP.ceL h).toArray) (ClP.tCe h) rfl (H3.out.turn hC.t fun e => hRH e.symm).whole ⟨rfl, hC⟩
  have e' : vs 0 = _ := e
  rw [e']
  clear e e'
  simp only [Act.put, List.setIfInBounds_toArray, List.set_cons_succ, List.set_cons_zero]
  refine ⟨.inl ⟨rfl, fun dd w' hd hnx hw hC => ?_⟩, fun e => ?_⟩
  · go_simp
    first | exact ⟨rfl, hC⟩ | exact hC
  have e' : vs 1 = _ := e
  rw [e']
  clear e e'
  simp only [Act.put, List.setIfInBounds_toArray, List.set_cons_succ, List.set_cons_zero]
  refine ⟨.inl ⟨rfl, fun dd w' hd hnx hw hC => ?_⟩, fun e => ?_⟩
  · have h1 : w'.cell? ⟨gE, 67, none⟩ = some (.int .i64 z.e) := en_qe (E3.out.turn hC.t fun e => hER e.symm)
    go_simp
    first | exact ⟨rfl, hC⟩ | exact hC
  have e' : vs 2 = _ := e
  rw [e']
  clear e e'
  simp only [Act.put, List.setIfInBounds_toArray, List.set_cons_succ, List.set_cons_zero]
  refine ⟨.inl ⟨rfl, fun dd w' hd hnx hw hC => ?_⟩, fun e => ?_⟩
  · with_reducible refine gE_stR (cs := (ClP.ceL h).toArray) (old := (ClP.ceL (if dd 3 then h else (0, ClP.zero))).toArray) (g := gR) (t := 43) ?_ ?_ ?_ ?_ ?_ ?_ ?_
    · exact ClP.tCe h
    · rfl
    · rfl
    · exact hC.b
    · exact ClP.ce_size _ _
    · exact ClP.ce_one _
    · exact ⟨rfl, hC.put⟩
  have e' : vs 3 = _ := e
  rw [e']
  clear e e'
  simp only [Act.put, List.setIfInBounds_toArray, List.set_cons_succ, List.set_cons_zero]
  refine ⟨.inl ⟨rfl, fun dd w' hd hnx hw hC => ?_⟩, fun e => ?_⟩
  · go_simp
    first | exact ⟨rfl, hC⟩ | exact hC
  have e' : vs 4 = _ := e
  rw [e']
  clear e e'
  simp only [Act.put, List.setIfInBounds_toArray, List.set_cons_succ, List.set_cons_zero]
  intro dd wz hall hC
  have h4 : dd 3 = true := hall 3 (by omega)
  have Z := hid (show Blk wz gR 43 (ClP.ceL h).toArray by have := hC.b; rw [h4] at this; exact this)
  have P6 := hid (P3.out.turnK hC.t fun q e x => by rw [x] at e; exact e.elim n2.1 n2.2)
  have C6 := hid (show Come (fun _ => False) w F wz F2 from C3.out.trans (Come.touch (X := fun q => q = gR) _ F2 hC.t fun q e => .inl e) fun q e => .inr (e ▸ hRw.out))
  clear hC h4 hall E3 R3 H3 P3 C3 n2
  go_wp2_with fail
  refine ret_rowt2 (t := 43) (cs := (ClP.ceL h).toArray) (g := gR) (v := .int .i64 z.e) (ClP.tCe h) Try.results17 rfl rfl rfl Z.out ?_
  have e1 : Ending.returned (.tuple #[.agg (ClP.ceL h).toArray, .int .i64 z.e]) = .returned (.tuple #[.agg (ClP.ceL (BuM.ceV (BuM.ahead b))).toArray, .int .i64 (BuM.ceB (BuM.ahead b)).e]) := by rw [HV.out, HZ.out]
  exact ⟨e1, C6.out.toQ P6.out⟩
end
end BuP
end Go.Proofs.Ytablkaofaedpeaa
set_option maxRecDepth 100000
namespace Go.Proofs.Ytablkaofaedpeaa
open Go.ChangeShapes Go.WideShapes Go.ChangeAt Go.RowKit
attribute [local go_sem] Gives GivesE
namespace BuP
open BuM MbM MbP
def ms0 : List St := [made 4, made 4]
set_option maxHeartbeats 8000000 in
set_option maxRecDepth 100000 in
theorem replay_law {repB : RepB} (hC : BusC repB) {W : World} {A1 : Option Addr} {la1 : List ActB} {n1 c1 : Nat} (h1 : Sli 99 abL (fun b => b < W.heap.size) W A1 la1 n1 c1) (b1 : ∀ a ∈ la1, ∀ j, a.s j < 256) :
    Calls Try.prog 6 #[.slice A1 n1 c1] W fun e w' => e = .returned (.bool true) ∧ Below W.heap.size W w' := by
  have L1 := hid h1
  have K1 := hid b1
  have hl1 := h1.len
  clear h1 b1
  go_enter Try.func6, Try.ntmps6
  by_cases x1 : 60 < n1
  · have t1 : decide (60 < n1) = true := by simp; omega
    go_wp2_with fail
    refine (awake_any hC W).mono ?_
    rintro e w2 ⟨rfl, h2⟩
    go_wp2_with fail
    go_ret
    exact ⟨rfl, h2⟩
  · have t1 : decide (60 < n1) = false := by simp; omega
    have u1 : n1 ≤ 60 := by omega
    clear x1
    go_wp2_with fail
    clear t1
    refine (two_any hC (w := W) (steps := []) (sl := []) (S := fun _ => True) (Sp := fun _ => False) (Sli.nil _ _ _ _) rfl (by omega) (fun s' y hy => by cases hy) (fun q e => e.elim)).mono ?_
    rintro e w3 ⟨g, m1, m2, F, rfl, hP, hgs, hm, hr, h3⟩
    have AL := hid (show Alone repB W w3 g m1 m2 F 0 (two []) from ⟨hP, hgs, hm, h3⟩)
    clear hP hgs hm hr h3
    unfold MbP.at'
    go_wp2_with fail
    go_loopw [6] (fun u wr => ∃ (i : Nat) (F' : Fq) (b : Bs), u = .int .i64 i ∧ i ≤ n1 ∧ Hid (Alone repB W wr g m1 m2 F' (2 * i) b) ∧ Hid (b.steps = [] ∧ b.ms = repl ms0 b.log ∧ b.ms.length = 2 ∧ (∀ x ∈ b.log, okEnt b.ms.length x))) (fun u _ => n1 - (intOf u).toNat)
    case atStart => exact ⟨0, F, _, rfl, Nat.zero_le _, AL, hid ⟨rfl, rfl, rfl, fun x hx => by cases hx⟩⟩
    case round =>
      clear AL
      obtain ⟨i, F', b, rfl, hi, HAL, HBB⟩ := hrel
      by_cases hin : i < n1
      · have t1 : (i : Int) < (n1 : Int) := by omega
        obtain ⟨a, ha⟩ : ∃ a, la1[i]? = some a := ⟨_, List.getElem?_eq_getElem (by omega)⟩
        obtain ⟨bA, oA, rfl, hbS, hbl, hr⟩ := L1.out.some ha
        have R1 := hid (show wr.rangeAt bA (oA + i * 99) (abL a).toArray.toList from fun j v hj => (HAL.out.bel.cell (p := ⟨bA, oA + i * 99 + j, none⟩) hbl).trans (hr j v (by simpa using hj)))
        have HKA := hid (K1.out a (List.mem_of_getElem? ha))
        clear hr ha
        go_wp2_with ((with_reducible apply ldR (cs := (abL a).toArray) (tAb a)); rfl; exact R1.out)
        refine (over_any hC HAL.out.pp (by have := HBB.out.1; rw [this]; show 2 * i + 0 + 2 ≤ _; omega) a HKA.out).mono ?_
        rintro e w4 ⟨rfl, ho⟩
        have ho' : outS repB wr g F' (2 * (i + 1)) (ovB b a (kind7 a.d)) w4 := by
          have := ho
          rw [HBB.out.1] at this
          exact this
        obtain ⟨F2, al2, _, _, _⟩ := HAL.out.out ho'
        have AL2 := hid al2
        have BB2 := hid (show (ovB b a (kind7 a.d)).steps = [] ∧ (ovB b a (kind7 a.d)).ms = repl ms0 (ovB b a (kind7 a.d)).log ∧ (ovB b a (kind7 a.d)).ms.length = 2 ∧ (∀ x ∈ (ovB b a (kind7 a.d)).log, okEnt (ovB b a (kind7 a.d)).ms.length x) by
          obtain ⟨e1, e2, e3, e4⟩ := HBB.out
          have e5 := ov_rep e1 a (kind7 a.d) e2
          have e6 := ov_okE e1 a HKA.out (kind7 a.d) e4
          have e7 : (ovB b a (kind7 a.d)).steps = [] ∧ (ovB b a (kind7 a.d)).ms.length = b.ms.length := by
            by_cases h6 : kind7 a.d = 6
            · rw [h6]; exact ⟨e1, rfl⟩
            · have hk := ov_kept b a _ h6
              exact ⟨hk.steps.trans e1, hk.ms⟩
          exact ⟨e7.1, e5, e7.2.trans e3, by rw [e7.2]; exact e6⟩)
        obtain ⟨b', hb'⟩ : ∃ z, z = ovB b a (kind7 a.d) := ⟨_, rfl⟩
        rw [← hb'] at AL2 BB2
        obtain ⟨ev, hev⟩ : ∃ z, z = ovE b a (kind7 a.d) := ⟨_, rfl⟩
        rw [← hev]
        clear ho ho' al2 hb' hev HAL HBB R1 HKA
        go_wp2_with fail
        go_roundw
        case rel => exact ⟨i + 1, F2, b', by go_num, by omega, AL2, BB2⟩
        case measure => simp [intOf] <;> omega
      · have t1 : decide ((i : Int) < (n1 : Int)) = false := by simp; omega
        obtain rfl : n1 = i := by omega
        obtain ⟨wB, hwB⟩ : ∃ z, z = wr := ⟨_, rfl⟩
        subst hwB
        have hll := hid (show b.log.length ≤ 200 by have := HAL.out.pp.sz.2.2.2.1; omega)
        obtain ⟨s1, hs1⟩ : ∃ x, b.ms[0]? = some x := ⟨_, List.getElem?_eq_getElem (by have := HBB.out.2.2.1; omega)⟩
        obtain ⟨s2, hs2⟩ : ∃ x, b.ms[1]? = some x := ⟨_, List.getElem?_eq_getElem (by have := HBB.out.2.2.1; omega)⟩
        have HS1 := hid hs1
        have HS2 := hid hs2
        have RM1 := hid (MbP.memD_ok.mono (HAL.out.pp.mem 0 m1 s1 (by rw [HAL.out.gs]; rfl) hs1) (show 2 * n1 ≤ 200 by omega))
        have RM2 := hid (MbP.memD_ok.mono (HAL.out.pp.mem 1 m2 s2 (by rw [HAL.out.gs]; rfl) hs2) (show 2 * n1 ≤ 200 by omega))
        have OK1 := hid (HAL.out.pp.ok.1 s1 (List.mem_of_getElem? hs1))
        have OK2 := hid (HAL.out.pp.ok.1 s2 (List.mem_of_getElem? hs2))
        clear hs1 hs2
        go_wp2_with fail
        refine (two_any hC (w := wB) (steps := []) (sl := []) (S := fun _ => True) (Sp := fun _ => False) (Sli.nil _ _ _ _) rfl (by omega) (fun s' y hy => by cases hy) (fun q e => e.elim)).mono ?_
        rintro e w4 ⟨g2, m3, m4, G, rfl, hP, hgs, hm, hr, h4⟩
        have PG := hid hP
        have GG := hid hgs
        have HM := hid hm
        have B4 := hid h4
        have AL4 := hid (HAL.out.below hC h4)
        have s4 := h4.size
        have BWB := hid HAL.out.bel
        clear hP hgs hm hr h4 HAL t1
        unfold MbP.at'
        go_upto_region 12 with ((with_reducible apply wlit2 eltPtP undPtP (x := m3) (y := m4)); omega; rfl; rfl; rfl; rfl)
        have a5 : Below w4.heap.size w4 (w4.alloc (.cells (ptL m3 ++ ptL m4).toArray 23)) := (Below.refl _ _).alloc (Nat.le_refl _) _
        have hl5 := sli_lit2 (S := fun q => q = w4.heap.size) eltPtP m3 m4 w4 rfl
        have z5 : (w4.alloc (.cells (ptL m3 ++ ptL m4).toArray 23)).heap.size = w4.heap.size + 1 := by simp
        generalize World.alloc w4 _ = w5 at a5 hl5 z5 ⊢
        have HL5 := hid hl5
        have B5 := hid (B4.out.trans (a5.mono B4.out.size))
        have AL5 := hid (AL4.out.below hC a5)
        have PG5 := hid (PG.out.below hC a5)
        have PG4 := hid PG.out
        clear a5 hl5 PG AL4
        go_wp2_with fail
        refine (hC.log AL5.out.pp (by omega)).mono ?_
        rintro e w6 ⟨v, rfl, ow, h6⟩
        obtain ⟨AV, cv, rfl, sl⟩ := ow.sli enL_len
        have SV := hid sl
        have B6 := hid (B5.out.trans (h6.mono B5.out.size))
        have s6 := h6.size
        obtain ⟨X, hX⟩ : ∃ X : Nat → Prop, X = fun q => w4.heap.size ≤ q ∧ q < w6.heap.size := ⟨_, rfl⟩
        have HX := hid (show ∀ q, X q ↔ w4.heap.size ≤ q ∧ q < w6.heap.size from fun q => by rw [hX])
        have FR := hid (show Fr wB.heap.size X w6 [m3, m4] G.Ms G.Is 0 (repl ms0 (b.log.take 0)) from by
          have P6 := PG5.out.below hC h6
          have hg2 : G.gs = [m3, m4] := GG.out
          refine { len := rfl, mem := fun i gi st e1 e2 => P6.mem i gi st (by rw [hg2]; exact e1) e2, ok := P6.ok.1, ap := fun i j q hi hj hne e e2 => ?_, low := fun i q hi e => ?_, xlt := fun q e => ((HX.out q).1 e).2, base := B6.out.size }
          · have hi' : i < G.gs.length := by rw [hg2]; exact hi
            have hj' : j < G.gs.length := by rw [hg2]; exact hj
            rcases e2 with e2 | e2
            · exact hne (P6.nd i j q hi' hj' e e2)
            · exact P6.sep q (.inr ⟨j, hj', e2⟩) (.inr (.inr ⟨i, hi', e⟩))
          · have hi' : i < G.gs.length := by rw [hg2]; exact hi
            have hmq : mutP G q := .inr (.inr ⟨i, hi', e⟩)
            refine ⟨HM.out q hmq, fun x => ?_⟩
            have h1 := ((HX.out q).1 x).1
            have h2 := B4.out
            have h3 := PG4.out.mlt q hmq
            omega)
        have SF := hid (show ∀ w', Turn (fun q => wB.heap.size ≤ q ∧ ¬ X q) w6 w' → ∀ mi gi, [m3, m4][mi]? = some gi → w'.cell? ⟨w4.heap.size, mi, none⟩ = some (.pointer (some ⟨gi, 0, none⟩)) from fun w' ht mi gi hgi => by
          obtain ⟨b5, o5, e5, hb5, hlt5, hr5⟩ := HL5.out.some hgi
          cases e5
          rw [Nat.mul_one, Nat.zero_add] at hr5
          have hc := (h6.cell (p := ⟨w4.heap.size, mi, none⟩) hlt5).trans (pt_p hr5)
          exact ht.cell (p := ⟨w4.heap.size, mi, none⟩) hc fun e => e.2 ((HX.out _).2 ⟨Nat.le_refl _, Nat.lt_of_lt_of_le hlt5 s6⟩))
        have SE := hid (show ∀ w', Turn (fun q => wB.heap.size ≤ q ∧ ¬ X q) w6 w' → ∀ (i : Nat) (x : BuM.Ent), b.log[i]? = some x → ∃ bL oL, AV = some ⟨bL, oL, none⟩ ∧ w'.rangeAt bL (oL + i * 68) (enL x) ∧ bL < w'.heap.size from fun w' ht i x hx => by
          obtain ⟨bL, oL, e5, hbL, hlt5, hr5⟩ := SV.out.some hx
          have hbL' : w5.heap.size ≤ bL := hbL
          exact ⟨bL, oL, e5, fun j u hj => ht.cell (p := ⟨bL, oL + i * 68 + j, none⟩) (hr5 j u hj) fun e => e.2 ((HX.out _).2 ⟨by show w4.heap.size ≤ bL; omega, hlt5⟩), Nat.lt_of_lt_of_le hlt5 ht.size⟩)
        have HEN := hid (show ∀ x ∈ b.log, okEnt 2 x from by have := HBB.out.2.2.2; rw [HBB.out.2.2.1] at this; exact this)
        clear ow sl h6 hX HL5 SV AL5 PG5 HM
        obtain ⟨nl, hnl⟩ : ∃ z, z = b.log.length := ⟨_, rfl⟩
        have HNL := hid hnl
        rw [← hnl]
        have hnl2 : nl ≤ 200 := by rw [hnl]; exact hll.out
        clear hnl
        go_wp2_with fail
        go_loopw [12] (fun u wr => ∃ (i : Nat) (Ms Is : Nat → Nat → Prop), u = .int .i64 i ∧ i ≤ nl ∧ Hid (Fr wB.heap.size X wr [m3, m4] Ms Is i (repl ms0 (b.log.take i))) ∧ Hid (Turn (fun q => wB.heap.size ≤ q ∧ ¬ X q) w6 wr)) (fun u _ => nl - (intOf u).toNat)
        case atStart => exact ⟨0, G.Ms, G.Is, rfl, Nat.zero_le _, FR, hid (Turn.refl _ _)⟩
        case round =>
          clear FR
          obtain ⟨i, Ms, Is, rfl, hi, HF, HT⟩ := hrel
          by_cases hin : i < nl
          · have t1 : (i : Int) < (nl : Int) := by omega
            obtain ⟨x, hx⟩ : ∃ x, b.log[i]? = some x := ⟨_, List.getElem?_eq_getElem (by rw [← HNL.out]; exact hin)⟩
            have OKX := hid (HEN.out x (List.mem_of_getElem? hx))
            have HXX := hid hx
            obtain ⟨bL, oL, rfl, hr, hbl⟩ := SE.out wr HT.out i x hx
            have q67 : wr.cell? ⟨bL, oL + i * 68 + 67, none⟩ = some (.int .i64 x.e) := en_e hr
            have qd : wr.cell? ⟨bL, oL + i * 68, none⟩ = some (.int .i64 x.d) := en_d hr
            have qm : wr.cell? ⟨bL, oL + i * 68 + 1, none⟩ = some (.int .i64 x.m) := en_m hr
            have qi : wr.cell? ⟨bL, oL + i * 68 + 2, none⟩ = some (.int .i64 x.i) := en_i hr
            have qs := hid (en_s hr)
            have HSN := hid (show repl ms0 (b.log.take (i + 1)) = rep1 (repl ms0 (b.log.take i)) x by rw [List.take_add_one, hx, Option.toList_some, repl_snoc])
            clear hr hx
            by_cases he : x.e = 0
            · rw [he] at q67
              by_cases hd2 : x.d = 2
              · rw [hd2] at qd
                obtain ⟨mi, hmi, hml⟩ := OKX.out.2 he (.inl hd2)
                rw [hmi] at qm
                obtain ⟨gi, hgi⟩ : ∃ gi, [m3, m4][mi]? = some gi := ⟨_, List.getElem?_eq_getElem (by simpa using hml)⟩
                have qf := SF.out wr HT.out mi gi hgi
                obtain ⟨st, hst⟩ : ∃ st, (repl ms0 (b.log.take i))[mi]? = some st := ⟨_, List.getElem?_eq_getElem (by rw [← HF.out.len]; simpa using hml)⟩
                have RX := hid (HF.out.mem mi gi st hgi hst)
                have HGI := hid hgi
                have HOK := hid (HF.out.ok st (List.mem_of_getElem? hst))
                have HNX := hid (show rep1 (repl ms0 (b.log.take i)) x = (repl ms0 (b.log.take i)).set mi (MbM.wrT st x.i x.s) by unfold rep1; rw [if_pos he, if_pos hd2, hmi, at_of hst, Int.toNat_natCast])
                have t9 : (mi : Int) < 2 := by omega
                have t9' : mi < 2 := hml
                have HBY := hid (OKX.out.1 hd2)
                clear hgi hst he hd2 hmi OKX
                go_upto_region 19 with fail
                refine wp_region_tail (C := fun w' => Below wr.heap.size wr w') 18 (by kernel_rfl) (by kernel_rfl) (by kernel_rfl) (Below.refl _ _).drew ?_
                simp only [List.take_succ_cons, List.take_zero, List.drop_succ_cons, List.drop_zero]
                apply wpK_val
                · rfl
                · intro w' hw'
                  go_simp
                  first | exact rfl | exact ⟨rfl, hw'⟩
                simp only [Act.put, List.setIfInBounds_toArray, List.set_cons_succ, List.set_cons_zero]
                apply wpK_val
                · rfl
                · intro w' hw'
                  go_simp
                  first | exact rfl | exact ⟨rfl, hw'⟩
                simp only [Act.put, List.setIfInBounds_toArray, List.set_cons_succ, List.set_cons_zero]
                apply wpK_val
                · rfl
                · intro w' hw'
                  go_simp
                  first | exact rfl | exact ⟨rfl, hw'⟩
                simp only [Act.put, List.setIfInBounds_toArray, List.set_cons_succ, List.set_cons_zero]
                apply wpK_val
                · rfl
                · intro w' hw'
                  go_simp
                  first | exact rfl | exact ⟨rfl, hw'⟩
                simp only [Act.put, List.setIfInBounds_toArray, List.set_cons_succ, List.set_cons_zero]
                apply wpK_val
                · rfl
                · intro w' hw'
                  go_simp
                  first | exact rfl | exact ⟨rfl, hw'⟩
                simp only [Act.put, List.setIfInBounds_toArray, List.set_cons_succ, List.set_cons_zero]
                apply wpK_val
                · rfl
                · intro w' hw'
                  have hcell := (hw'.cell (p := ⟨bL, oL + i * 68 + 1, none⟩) hbl).trans qm
                  go_simp
                  first | exact rfl | exact ⟨rfl, hw'⟩
                simp only [Act.put, List.setIfInBounds_toArray, List.set_cons_succ, List.set_cons_zero]
                apply wpK_val
                · rfl
                · intro w' hw'
                  go_simp
                  first | exact rfl | exact ⟨rfl, hw'⟩
                simp only [Act.put, List.setIfInBounds_toArray, List.set_cons_succ, List.set_cons_zero]
                apply wpK_val
                · rfl
                · intro w' hw'
                  have hcell := (hw'.cell (p := ⟨w4.heap.size, mi, none⟩) (World.block_lt_of_cell? wr _ qf)).trans qf
                  go_simp
                  first | exact rfl | exact ⟨rfl, hw'⟩
                simp only [Act.put, List.setIfInBounds_toArray, List.set_cons_succ, List.set_cons_zero]
                apply wpK_val
                · rfl
                · intro w' hw'
                  go_simp
                  first | exact rfl | exact ⟨rfl, hw'⟩
                simp only [Act.put, List.setIfInBounds_toArray, List.set_cons_succ, List.set_cons_zero]
                apply wpK_val
                · rfl
                · intro w' hw'
                  go_simp
                  first | exact rfl | exact ⟨rfl, hw'⟩
                simp only [Act.put, List.setIfInBounds_toArray, List.set_cons_succ, List.set_cons_zero]
                apply wpK_val
                · rfl
                · intro w' hw'
                  go_simp
                  first | exact rfl | exact ⟨rfl, hw'⟩
                simp only [Act.put, List.setIfInBounds_toArray, List.set_cons_succ, List.set_cons_zero]
                apply wpK_val
                · rfl
                · intro w' hw'
                  go_simp
                  first | exact rfl | exact ⟨rfl, hw'⟩
                simp only [Act.put, List.setIfInBounds_toArray, List.set_cons_succ, List.set_cons_zero]
                apply wpK_val
                · rfl
                · intro w' hw'
                  have hcell := (hw'.cell (p := ⟨bL, oL + i * 68 + 2, none⟩) hbl).trans qi
                  go_simp
                  first | exact rfl | exact ⟨rfl, hw'⟩
                simp only [Act.put, List.setIfInBounds_toArray, List.set_cons_succ, List.set_cons_zero]
                apply wpK_val
                · rfl
                · intro w' hw'
                  go_simp
                  first | exact rfl | exact ⟨rfl, hw'⟩
                simp only [Act.put, List.setIfInBounds_toArray, List.set_cons_succ, List.set_cons_zero]
                apply wpK_val
                · rfl
                · intro w' hw'
                  go_simp
                  first | exact rfl | exact ⟨rfl, hw'⟩
                simp only [Act.put, List.setIfInBounds_toArray, List.set_cons_succ, List.set_cons_zero]
                apply wpK_val
                · rfl
                · intro w' hw'
                  go_simp
                  first | exact rfl | exact ⟨rfl, hw'⟩
                simp only [Act.put, List.setIfInBounds_toArray, List.set_cons_succ, List.set_cons_zero]
                apply wpK_val
                · rfl
                · intro w' hw'
                  go_simp
                  first | exact rfl | exact ⟨rfl, hw'⟩
                simp only [Act.put, List.setIfInBounds_toArray, List.set_cons_succ, List.set_cons_zero]
                apply kldA tSe
                · rfl
                · rfl
                · exact fun w' hw' => (fun j v hj => (hw'.cell (p := ⟨bL, oL + i * 68 + 3 + j, none⟩) hbl).trans (qs.out j v hj))
                simp only [Act.put, List.setIfInBounds_toArray, List.set_cons_succ, List.set_cons_zero]
                intro w7 hC7
                have F7 := hid (HF.out.below hC7)
                have R7 := hid (MbP.memD_ok.frame RX.out (Turn.of_new (S := fun _ => False) hC7) fun _ _ e => e)
                have T7 := hid (HT.out.trans (Turn.of_new (S := fun _ => False) hC7) fun _ e => e.elim)
                clear hC7 HF RX HT qd qm qi qs q67 qf
                go_wp2_with fail
                refine (MbP.memD_ok.write R7.out HOK.out (by omega) x.i x.s HBY.out).mono ?_
                rintro e w8 ⟨rfl, ho⟩
                obtain ⟨Ms8, Is8, f8, t8⟩ := F7.out.put (Nat.le_succ i) HGI.out (wr_ok HOK.out x.i HBY.out) ho
                have F8 := hid (show Fr wB.heap.size X w8 [m3, m4] Ms8 Is8 (i + 1) (repl ms0 (b.log.take (i + 1))) by rw [HSN.out, HNX.out]; exact f8)
                have T8 := hid (T7.out.trans t8 fun q e => .inl e)
                obtain ⟨ev, hev⟩ : ∃ z, z = rdE st x.i := ⟨_, rfl⟩
                rw [← hev]
                clear ho f8 t8 hev F7 T7 R7
                go_wp2_with fail
                go_roundw
                case rel => exact ⟨i + 1, Ms8, Is8, by go_num, by omega, F8, T8⟩
                case measure => simp [intOf] <;> omega
              · have v2 : decide (x.d = 2) = false := by simp; omega
                have v2' : (x.d == 2) = false := by simp; omega
                by_cases hd3 : x.d = 3
                · rw [hd3] at qd
                  obtain ⟨mi, hmi, hml⟩ := OKX.out.2 he (.inr hd3)
                  rw [hmi] at qm
                  obtain ⟨gi, hgi⟩ : ∃ gi, [m3, m4][mi]? = some gi := ⟨_, List.getElem?_eq_getElem (by simpa using hml)⟩
                  have qf := SF.out wr HT.out mi gi hgi
                  obtain ⟨st, hst⟩ : ∃ st, (repl ms0 (b.log.take i))[mi]? = some st := ⟨_, List.getElem?_eq_getElem (by rw [← HF.out.len]; simpa using hml)⟩
                  have RX := hid (HF.out.mem mi gi st hgi hst)
                  have HGI := hid hgi
                  have HOK := hid (HF.out.ok st (List.mem_of_getElem? hst))
                  have HNX := hid (show rep1 (repl ms0 (b.log.take i)) x = (repl ms0 (b.log.take i)).set mi (MbM.flT st) by unfold rep1; rw [if_pos he, if_neg hd2, if_pos hd3, hmi, at_of hst, Int.toNat_natCast])
                  have t9 : (mi : Int) < 2 := by omega
                  have t9' : mi < 2 := hml
                  clear hgi hst he hd2 hd3 hmi OKX v2 v2'
                  go_wp2_with fail
                  refine (MbP.memD_ok.flush RX.out HOK.out (by omega)).mono ?_
                  rintro e w8 ⟨rfl, ho⟩
                  obtain ⟨Ms8, Is8, f8, t8⟩ := HF.out.put (Nat.le_succ i) HGI.out (fl_ok HOK.out) ho
                  have F8 := hid (show Fr wB.heap.size X w8 [m3, m4] Ms8 Is8 (i + 1) (repl ms0 (b.log.take (i + 1))) by rw [HSN.out, HNX.out]; exact f8)
                  have T8 := hid (HT.out.trans t8 fun q e => .inl e)
                  obtain ⟨ev, hev⟩ : ∃ z, z = MbM.flE st := ⟨_, rfl⟩
                  rw [← hev]
                  clear ho f8 t8 hev HF HT RX qd qm qi qs q67 qf
                  go_wp2_with fail
                  go_roundw
                  case rel => exact ⟨i + 1, Ms8, Is8, by go_num, by omega, F8, T8⟩
                  case measure => simp [intOf] <;> omega
                · have v3 : decide (x.d = 3) = false := by simp; omega
                  have v3' : (x.d == 3) = false := by simp; omega
                  have F8 := hid (show Fr wB.heap.size X wr [m3, m4] Ms Is (i + 1) (repl ms0 (b.log.take (i + 1))) by
                    rw [HSN.out, show rep1 (repl ms0 (b.log.take i)) x = repl ms0 (b.log.take i) from by unfold rep1; rw [if_pos he, if_neg hd2, if_neg hd3]]
                    exact ⟨HF.out.len, fun j gj st e1 e2 => MbP.memD_ok.mono (HF.out.mem j gj st e1 e2) (Nat.le_succ i), HF.out.ok, HF.out.ap, HF.out.low, HF.out.xlt, HF.out.base⟩)
                  clear HF he hd2 hd3
                  go_wp2_with fail
                  go_roundw
                  case rel => exact ⟨i + 1, Ms, Is, by go_num, by omega, F8, HT⟩
                  case measure => simp [intOf] <;> omega
            · have v0 : decide (x.e = 0) = false := by simp; omega
              have v0' : (x.e == 0) = false := by simp; omega
              have v0'' : (x.e != 0) = true := by simp; omega
              have F8 := hid (show Fr wB.heap.size X wr [m3, m4] Ms Is (i + 1) (repl ms0 (b.log.take (i + 1))) by
                rw [HSN.out, show rep1 (repl ms0 (b.log.take i)) x = repl ms0 (b.log.take i) from by unfold rep1; rw [if_neg he]]
                exact ⟨HF.out.len, fun j gj st e1 e2 => MbP.memD_ok.mono (HF.out.mem j gj st e1 e2) (Nat.le_succ i), HF.out.ok, HF.out.ap, HF.out.low, HF.out.xlt, HF.out.base⟩)
              clear HF
              go_wp2_with fail
              go_roundw
              case rel => exact ⟨i + 1, Ms, Is, by go_num, by omega, F8, HT⟩
              case measure => simp [intOf] <;> omega
          · have t1 : decide ((i : Int) < (nl : Int)) = false := by simp; omega
            have hi2 : i = nl := by omega
            have hms : repl ms0 (b.log.take i) = b.ms := by rw [hi2, HNL.out, List.take_length]; exact HBB.out.2.1.symm
            have F9 := hid (show Fr wB.heap.size X wr [m3, m4] Ms Is 200 b.ms by
              rw [← hms]
              exact ⟨HF.out.len, fun j gj st e1 e2 => MbP.memD_ok.mono (HF.out.mem j gj st e1 e2) (by omega), HF.out.ok, HF.out.ap, HF.out.low, HF.out.xlt, HF.out.base⟩)
            have B9 := hid (B6.out.trans ((HT.out.below (B := wB.heap.size) B6.out.size fun q e => e.1)))
            have BW := hid (BWB.out.trans (B9.out.mono BWB.out.size))
            have fr1 : ∀ {gg : Nat} {M I : Nat → Prop} {st : St} {w' : World}, RepM wB gg M I 200 st → Below wB.heap.size wB w' → RepM w' gg M I 200 st := fun h hb => MbP.memD_ok.frame h (Turn.of_new (S := fun _ => False) hb) fun _ _ e => e
            obtain ⟨w9, hw9⟩ : ∃ z, z = wr := ⟨_, rfl⟩
            subst hw9
            have Q1 := hid (fr1 RM1.out B9.out)
            have Q2 := hid (fr1 RM2.out B9.out)
            have Q3 := hid (F9.out.mem 0 m3 s1 rfl HS1.out)
            have Q4 := hid (F9.out.mem 1 m4 s2 rfl HS2.out)
            clear fr1 HF HT hms hi2 F9 B9 RM1 RM2 SF SE HEN
            go_wp2_with fail
            go_loopw [13] (fun u wr => ∃ j : Nat, u = .int .i64 j ∧ j ≤ 4 ∧ Hid (Below w9.heap.size w9 wr)) (fun u _ => 4 - (intOf u).toNat)
            case atStart => exact ⟨0, rfl, by omega, hid (Below.refl _ _)⟩
            case round =>
              obtain ⟨j, rfl, hj, HV⟩ := hrel
              have fr : ∀ {gg : Nat} {M I : Nat → Prop} {st : St} {w' : World}, RepM w9 gg M I 200 st → Below w9.heap.size w9 w' → RepM w' gg M I 200 st := fun h hb => MbP.memD_ok.frame h (Turn.of_new (S := fun _ => False) hb) fun _ _ e => e
              by_cases hj4 : j < 4
              · have t3 : (j : Int) < 4 := by omega
                obtain ⟨v1, hv1⟩ : ∃ z, z = lkS s1 (j : Int) := ⟨_, rfl⟩
                obtain ⟨v2, hv2⟩ : ∃ z, z = rdS s2 (j : Int) := ⟨_, rfl⟩
                have HV1 := hid hv1
                have HV2 := hid hv2
                clear hv1 hv2
                go_wp2_with fail
                refine (MbP.memD_ok.look (fr Q1.out HV.out) OK1.out (by omega) (j : Int)).mono ?_
                rintro e uX ⟨rfl, h5⟩
                rw [← HV1.out]
                go_upto_region 26 with (first | (with_reducible apply alA tSe) | ((with_reducible apply stA tSe); rfl; rfl; exact Blk.new _ _ _))
                generalize hwX : World.setRow _ _ _ = wX
                have b6 : Below uX.heap.size uX wX := by rw [← hwX]; exact below_setRow ((Below.refl _ _).alloc (Nat.le_refl _) _) (Nat.le_refl _) _
                have SX := hid (show Blk wX uX.heap.size 30 (ar 64 v1) by rw [← hwX]; exact (Blk.new uX _ _).setRow_same _)
                replace HV := hid (HV.out.trans ((h5.trans (b6.mono h5.size)).mono HV.out.size))
                obtain ⟨gX, hgX⟩ : ∃ n, n = uX.heap.size := ⟨_, rfl⟩
                rw [← hgX] at SX ⊢
                clear hwX b6 h5 hgX
                go_wp2_with fail
                refine (MbP.memD_ok.look (fr Q3.out HV.out) OK1.out (by omega) (j : Int)).mono ?_
                rintro e uY ⟨rfl, h5⟩
                rw [← HV1.out]
                go_upto_region 27 with (first | (with_reducible apply alA tSe) | ((with_reducible apply stA tSe); rfl; rfl; exact Blk.new _ _ _))
                generalize hwY : World.setRow _ _ _ = wY
                have b6 : Below uY.heap.size uY wY := by rw [← hwY]; exact below_setRow ((Below.refl _ _).alloc (Nat.le_refl _) _) (Nat.le_refl _) _
                have SY := hid (show Blk wY uY.heap.size 30 (ar 64 v1) by rw [← hwY]; exact (Blk.new uY _ _).setRow_same _)
                replace SX := hid (SX.out.below (h5.trans (b6.mono h5.size)) SX.out.lt)
                replace HV := hid (HV.out.trans ((h5.trans (b6.mono h5.size)).mono HV.out.size))
                obtain ⟨gY, hgY⟩ : ∃ n, n = uY.heap.size := ⟨_, rfl⟩
                rw [← hgY] at SY ⊢
                clear hwY b6 h5 hgY
                go_wp2_with fail
                refine (MbP.memD_ok.read (fr Q2.out HV.out) OK2.out (by omega) (j : Int)).mono ?_
                rintro e uZ ⟨rfl, h5⟩
                rw [← HV2.out]
                go_upto_region 28 with (first | (with_reducible apply alA tSe) | ((with_reducible apply stA tSe); rfl; rfl; exact Blk.new _ _ _))
                generalize hwZ : World.setRow _ _ _ = wZ
                have b6 : Below uZ.heap.size uZ wZ := by rw [← hwZ]; exact below_setRow ((Below.refl _ _).alloc (Nat.le_refl _) _) (Nat.le_refl _) _
                have SZ := hid (show Blk wZ uZ.heap.size 30 (ar 64 v2) by rw [← hwZ]; exact (Blk.new uZ _ _).setRow_same _)
                replace SX := hid (SX.out.below (h5.trans (b6.mono h5.size)) SX.out.lt)
                replace SY := hid (SY.out.below (h5.trans (b6.mono h5.size)) SY.out.lt)
                replace HV := hid (HV.out.trans ((h5.trans (b6.mono h5.size)).mono HV.out.size))
                obtain ⟨gZ, hgZ⟩ : ∃ n, n = uZ.heap.size := ⟨_, rfl⟩
                rw [← hgZ] at SZ ⊢
                clear hwZ b6 h5 hgZ
                go_wp2_with fail
                refine (MbP.memD_ok.read (fr Q4.out HV.out) OK2.out (by omega) (j : Int)).mono ?_
                rintro e uT ⟨rfl, h5⟩
                rw [← HV2.out]
                go_upto_region 29 with (first | (with_reducible apply alA tSe) | ((with_reducible apply stA tSe); rfl; rfl; exact Blk.new _ _ _))
                generalize hwT : World.setRow _ _ _ = wT
                have b6 : Below uT.heap.size uT wT := by rw [← hwT]; exact below_setRow ((Below.refl _ _).alloc (Nat.le_refl _) _) (Nat.le_refl _) _
                have ST := hid (show Blk wT uT.heap.size 30 (ar 64 v2) by rw [← hwT]; exact (Blk.new uT _ _).setRow_same _)
                replace SX := hid (SX.out.below (h5.trans (b6.mono h5.size)) SX.out.lt)
                replace SY := hid (SY.out.below (h5.trans (b6.mono h5.size)) SY.out.lt)
                replace SZ := hid (SZ.out.below (h5.trans (b6.mono h5.size)) SZ.out.lt)
                replace HV := hid (HV.out.trans ((h5.trans (b6.mono h5.size)).mono HV.out.size))
                obtain ⟨gT, hgT⟩ : ∃ n, n = uT.heap.size := ⟨_, rfl⟩
                rw [← hgT] at ST ⊢
                clear hwT b6 h5 hgT
                refine wp_region_fixed (C := fun w' => Below wT.heap.size wT w') 8 (Below.refl _ _) ?_
                simp only [List.take_succ_cons, List.take_zero, List.drop_succ_cons, List.drop_zero]
                apply kldA tSe
                · rfl
                · rfl
                · exact fun w' hw' => (SX.out.below hw' SX.out.lt).head
                simp only [Act.put, List.setIfInBounds_toArray, List.set_cons_succ, List.set_cons_zero]
                apply kldA tSe
                · rfl
                · rfl
                · exact fun w' hw' => (SY.out.below hw' SY.out.lt).head
                simp only [Act.put, List.setIfInBounds_toArray, List.set_cons_succ, List.set_cons_zero]
                apply kneU false uSe' gSe'
                · rfl
                · rfl
                · rfl
                · exact (by rw [eqA_yes fun _ _ => rfl]; rfl)
                simp only [Act.put, List.setIfInBounds_toArray, List.set_cons_succ, List.set_cons_zero]
                apply wpK_val
                · rfl
                · intro w' hw'
                  go_simp
                  first | exact rfl | exact ⟨rfl, hw'⟩
                simp only [Act.put, List.setIfInBounds_toArray, List.set_cons_succ, List.set_cons_zero]
                apply kldA tSe
                · rfl
                · rfl
                · exact fun w' hw' => (SZ.out.below hw' SZ.out.lt).head
                simp only [Act.put, List.setIfInBounds_toArray, List.set_cons_succ, List.set_cons_zero]
                apply kldA tSe
                · rfl
                · rfl
                · exact fun w' hw' => (ST.out.below hw' ST.out.lt).head
                simp only [Act.put, List.setIfInBounds_toArray, List.set_cons_succ, List.set_cons_zero]
                apply kneU false uSe' gSe'
                · rfl
                · rfl
                · rfl
                · exact (by rw [eqA_yes fun _ _ => rfl]; rfl)
                simp only [Act.put, List.setIfInBounds_toArray, List.set_cons_succ, List.set_cons_zero]
                apply wpK_val
                · rfl
                · intro w' hw'
                  go_simp
                  first | exact rfl | exact ⟨rfl, hw'⟩
                simp only [Act.put, List.setIfInBounds_toArray, List.set_cons_succ, List.set_cons_zero]
                intro wq hCq
                have HVq := hid (HV.out.trans (hCq.mono HV.out.size))
                clear hCq SX SY SZ ST HV HV1 HV2 fr
                go_wp2_with fail
                go_roundw
                case rel => exact ⟨j + 1, by go_num, by omega, HVq⟩
                case measure => simp [intOf] <;> omega
              · have t3 : decide ((j : Int) < 4) = false := by simp; omega
                obtain ⟨c1, hc1⟩ : ∃ z, z = s1.log.length := ⟨_, rfl⟩
                obtain ⟨c2, hc2⟩ : ∃ z, z = s2.log.length := ⟨_, rfl⟩
                have U1 := hid (show ∀ w', Below w9.heap.size w9 w' → Calls Try.prog 33 #[.pointer (some ⟨m1, 0, none⟩)] w' fun e w2 => e = .returned (.int .i64 (c1 : Nat)) ∧ Below w'.heap.size w' w2 from fun w' hb => by rw [hc1]; exact MbP.memD_ok.unflushed (fr Q1.out hb))
                have U2 := hid (show ∀ w', Below w9.heap.size w9 w' → Calls Try.prog 33 #[.pointer (some ⟨m2, 0, none⟩)] w' fun e w2 => e = .returned (.int .i64 (c2 : Nat)) ∧ Below w'.heap.size w' w2 from fun w' hb => by rw [hc2]; exact MbP.memD_ok.unflushed (fr Q2.out hb))
                have U3 := hid (show ∀ w', Below w9.heap.size w9 w' → Calls Try.prog 33 #[.pointer (some ⟨m3, 0, none⟩)] w' fun e w2 => e = .returned (.int .i64 (c1 : Nat)) ∧ Below w'.heap.size w' w2 from fun w' hb => by rw [hc1]; exact MbP.memD_ok.unflushed (fr Q3.out hb))
                have U4 := hid (show ∀ w', Below w9.heap.size w9 w' → Calls Try.prog 33 #[.pointer (some ⟨m4, 0, none⟩)] w' fun e w2 => e = .returned (.int .i64 (c2 : Nat)) ∧ Below w'.heap.size w' w2 from fun w' hb => by rw [hc2]; exact MbP.memD_ok.unflushed (fr Q4.out hb))
                clear hc1 hc2 Q1 Q2 Q3 Q4 OK1 OK2 fr
                go_wp2_with fail
                refine (U1.out wr HV.out).mono ?_
                rintro e wa ⟨rfl, ha⟩
                have VA := hid (HV.out.trans (ha.mono HV.out.size))
                clear ha
                go_wp2_with fail
                refine (U3.out wa VA.out).mono ?_
                rintro e wb ⟨rfl, hb⟩
                have VB := hid (VA.out.trans (hb.mono VA.out.size))
                clear hb
                go_wp2_with fail
                refine (U2.out wb VB.out).mono ?_
                rintro e wc ⟨rfl, hc⟩
                have VC := hid (VB.out.trans (hc.mono VB.out.size))
                clear hc
                go_wp2_with fail
                refine (U4.out wc VC.out).mono ?_
                rintro e wd ⟨rfl, hd⟩
                have VD := hid (VC.out.trans (hd.mono VC.out.size))
                clear hd VA VB VC HV U1 U2 U3 U4
                go_wp2_with fail
                refine (awake_any hC wd).mono ?_
                rintro e wx ⟨rfl, h7⟩
                have B7 := hid ((BW.out.trans (VD.out.mono BW.out.size)).trans (h7.mono (Nat.le_trans BW.out.size VD.out.size)))
                clear h7 VD BW
                go_wp2_with fail
                go_ret
                exact ⟨rfl, B7.out⟩
end BuP
end Go.Proofs.Ytablkaofaedpeaa
set_option maxRecDepth 100000
namespace Go.Proofs.Ytablkaofaedpeaa
open Go.ChangeShapes Go.WideShapes Go.ChangeAt Go.RowKit
attribute [local go_sem] Gives GivesE
namespace BuP
open BuM MbM MbP MpV
set_option maxHeartbeats 1000000 in
set_option maxRecDepth 100000 in
theorem lb_bad {w : World} {A : Option Addr} {gs : List Nat} {n c gc : Nat} {As : Option Addr} {ns cs : Nat} {Ms Is : Nat → Nat → Prop} {S : Nat → Prop} {Mc : Nat → Prop} {hist : List ClP.Held} {cv : ClP.Held} {k : Nat} {ms : List St}
    (hA : Sli 1 ptL S w A gs n c) (hgm : gs.length = ms.length) (hme : ∀ (i gi : Nat) (st : St), gs[i]? = some gi → ms[i]? = some st → RepM w gi (Ms i) (Is i) k st ∧ 1 ≤ st.n) (hn : n = 0 ∨ 64 < n) (hn2 : n ≤ 1000) (hce : repCb w gc Mc hist cv) :
    Calls Try.prog 23 #[.slice A n c, MbP.at' gc, .slice As ns cs] w fun e w' => e = .returned (.tuple #[.pointer none, .int .i64 2]) ∧ Below w.heap.size w w' := by
  have HA := hid hA
  have HM := hid hme
  have HC := hid hce
  have HG := hid hgm
  have hgn := hid hA.len
  have HN := hid hn
  clear hA hme hce hgm hn
  unfold MbP.at'
  go_enter Try.func23, Try.ntmps23
  go_wp2_with fail
  refine (cb_read HC.out).mono ?_
  rintro e w2 ⟨rfl, hb2⟩
  have B2 := hid hb2
  clear hb2
  go_upto_region 2 with (first | (with_reducible apply alZ' ClP.zCe) | ((with_reducible apply stR (ClP.tCe cv)); rfl; rfl; exact Blk.new _ _ _; exact ClP.ce_size _ _; exact ClP.ce_one _))
  generalize hw3 : World.setRow _ _ _ = w3
  have B3 := hid (show Below w.heap.size w w3 by rw [← hw3]; exact B2.out.trans (below_setRow ((Below.refl _ _).alloc (Nat.le_refl _) _) (Nat.le_refl _) _ |>.mono B2.out.size))
  clear hw3 B2
  go_wp2_with fail
  go_loopw [22] (fun u22 wr => ∃ i : Nat, u22 = .int .i64 i ∧ i ≤ n ∧ Hid (Below w.heap.size w wr)) (fun u22 _ => n - (intOf u22).toNat)
  case atStart => exact ⟨0, rfl, Nat.zero_le _, B3⟩
  case round =>
    clear B3
    obtain ⟨i, rfl, hi, HB⟩ := hrel
    obtain ⟨wo, hwo⟩ : ∃ x, x = wr := ⟨_, rfl⟩
    subst hwo
    by_cases hin : i < n
    · have t1 : (i : Int) < (n : Int) := by omega
      obtain ⟨gi, hgi⟩ : ∃ gi, gs[i]? = some gi := ⟨_, List.getElem?_eq_getElem (by rw [hgn.out]; exact hin)⟩
      obtain ⟨st, hst⟩ : ∃ st, ms[i]? = some st := ⟨_, List.getElem?_eq_getElem (by rw [← HG.out, hgn.out]; exact hin)⟩
      obtain ⟨bA, oA, rfl, hbS, hbl, hr⟩ := HA.out.some hgi
      rw [Nat.mul_one] at hr
      have q1 : wo.cell? ⟨bA, oA + i, none⟩ = some (.pointer (some ⟨gi, 0, none⟩)) := (HB.out.cell (p := ⟨bA, oA + i, none⟩) hbl).trans (pt_p hr)
      obtain ⟨hrm, hst1⟩ := HM.out i gi st hgi hst
      have RMi := hid (MbP.memD_ok.frame hrm (T := fun _ => False) (Turn.of_new HB.out) fun _ _ e => e)
      have t2 : decide (st.n = 0) = false := by simp; omega
      have t2b : (st.n == 0) = false := by simp; omega
      have t2c : ¬ st.n = 0 := by omega
      clear hgi hst hr hrm
      go_upto_region 7 with fail
      go_wp2_with fail
      refine (MbP.memD_ok.len RMi.out).mono ?_
      rintro e w4 ⟨rfl, hb⟩
      have B4 := hid (HB.out.trans (hb.mono HB.out.size))
      clear hb q1 RMi HB
      go_wp2_with fail
      go_roundw
      case rel => exact ⟨i + 1, by go_num, by omega, B4⟩
      case measure => simp [intOf] <;> omega
    · have t1 : decide ((i : Int) < (n : Int)) = false := by simp; omega
      obtain rfl : i = n := by omega
      have hn := HN.out
      rcases hn with h0 | h64
      · subst h0
        have t0 : decide (((0 : Nat) : Int) = 0) = true := rfl
        clear HN
        go_wp2_with fail
        go_ret2
        exact ⟨rfl, HB.out⟩
      · have t0 : decide ((i : Int) = 0) = false := by simp; omega
        have t0b : ((i : Int) == 0) = false := by simp; omega
        have tn0 : ¬ i = 0 := by omega
        have t64 : decide ((64 : Int) < (i : Int)) = true := by simp; omega
        have t64b : 64 < i := h64
        clear HN
        go_wp2_with fail
        go_ret2
        exact ⟨rfl, HB.out⟩
/-- The landed bus keeps the contracts. -/
theorem bus_ok : BusC (RepK 0) where
  frame h ht hT := repK_frame h ht hT
  new hA hgm hme h1 h2 hce hS hsl hns hp := lb_new hA hgm hme h1 h2 hce hS hsl hns hp
  bad hA hgm hme hn h2 hce _ _ _ := lb_bad hA hgm hme hn h2 hce
  read H hk m i := lb_read H hk m i
  write H hk m i x hx := lb_write H hk m i x hx
  flush H hk m := lb_flush H hk m
  cell H hk := lb_cell H hk
  adv H hk t := lb_adv H hk t
  power H := lb_power H
  count H := lb_count H
  off H := lb_off H
  members H := lb_members H
  sectors H m := lb_sectors H m
  log H hk := lb_log H hk
end BuP
end Go.Proofs.Ytablkaofaedpeaa
