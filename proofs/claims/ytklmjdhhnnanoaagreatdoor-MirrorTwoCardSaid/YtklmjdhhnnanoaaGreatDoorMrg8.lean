/-
  The landed bus: an I/O, over whatever function does it.
  The landed bus: an I/O of a member.
  The landed bus: Read, Write, Flush.
  The landed bus: Read, Write, Flush.
  The landed bus: Read, Write, Flush: the walks.
  The landed bus: Read, Write, Flush.
  The landed bus: a label as a sector; a number stored in a drawn region.
  The landed bus: Cell.
  The landed bus: Advance's closure.
  The landed bus: Advance.
  The landed bus: copies of steps, by the numbers of their I/Os.
  The landed bus: byNumbers.
  The landed bus: New.
  The landed bus: Cell, Advance.
  The log of a bus, done again on other members, in plain words; members of the program's, alone.
  The law BusReplay: the writes and flushes of the log that are OK, done again on new members, make them the same.
  The landed bus: all of its contracts.
-/
import Derived.Test.YtklmjdhhnnanoaaGreatDoorMrg7
import Derived.Laws.CopyOwn
set_option linter.unusedVariables false
set_option linter.unusedSimpArgs false
set_option maxRecDepth 100000
namespace Go.Proofs.YtklmjdhhnnanoaaGreatDoor
open Go.ChangeShapes Go.WideShapes Go.ChangeAt Go.RowKit
attribute [local go_sem] Gives GivesE
namespace BuP
open BuM MbM MbP MpV
def outX (X : Nat → Prop) (repB : RepB) (w : World) (g : Nat) (F : Fq) (k : Nat) (b : Bs) (w' : World) : Prop :=
  ∃ F', Pp repB w' g F' k b ∧ F'.gs = F.gs ∧ F'.gc = F.gc ∧ (∀ q, mutP F' q → mutP F q ∨ w.heap.size ≤ q) ∧ (∀ q, rdP F' q → mutP F q ∨ rdP F q ∨ w.heap.size ≤ q) ∧ Turn (fun q => mutP F q ∨ X q) w w'
def Come (X : Nat → Prop) (w : World) (F : Fq) (w' : World) (F' : Fq) : Prop := F'.gs = F.gs ∧ F'.gc = F.gc ∧ (∀ q, mutP F' q → mutP F q ∨ w.heap.size ≤ q) ∧ (∀ q, rdP F' q → mutP F q ∨ rdP F q ∨ w.heap.size ≤ q) ∧ Turn (fun q => mutP F q ∨ X q) w w'
section
variable {rB : RepB} {X Y : Nat → Prop} {w w' w2 : World} {g k : Nat} {F F' F2 : Fq} {b : Bs}
theorem Come.trans (h : Come X w F w' F') (h2 : Come Y w' F' w2 F2) (hY : ∀ q, Y q → X q ∨ w.heap.size ≤ q) : Come X w F w2 F2 := by
  obtain ⟨f1, f2, f3, f4, f5⟩ := h
  obtain ⟨e1, e2, e3, e4, e5⟩ := h2
  have hs := f5.size
  refine ⟨e1.trans f1, e2.trans f2, fun q e => ?_, fun q e => ?_, f5.trans e5 fun q e => ?_⟩
  · rcases e3 q e with y | y
    · exact f3 q y
    · exact .inr (by omega)
  · rcases e4 q e with y | y | y
    · exact (f3 q y).imp id .inr
    · exact f4 q y
    · exact .inr (.inr (by omega))
  · rcases e with y | y
    · exact (f3 q y).imp .inl id
    · exact (hY q y).imp .inr id
theorem Come.refl (X : Nat → Prop) (F : Fq) (hb : Below w.heap.size w w') : Come X w F w' F := ⟨rfl, rfl, fun _ e => .inl e, fun _ e => .inr (.inl e), Turn.of_new hb⟩
theorem Come.ofQ (h : outQ rB w g F k b w') : ∃ F', Pp rB w' g F' k b ∧ Come (fun _ => False) w F w' F' := by
  obtain ⟨F', h1, h2, h3, h4, h5, h6⟩ := h
  exact ⟨F', h1, h2, h3, h4, h5, h6.mono fun _ e => .inl e⟩
theorem Come.toQ (h : Come (fun _ => False) w F w' F') (H : Pp rB w' g F' k b) : outQ rB w g F k b w' := ⟨F', H, h.1, h.2.1, h.2.2.1, h.2.2.2.1, h.2.2.2.2.mono fun _ e => e.elim id False.elim⟩
theorem Come.toX (h : Come X w F w' F') (H : Pp rB w' g F' k b) : outX X rB w g F k b w' := ⟨F', H, h⟩
theorem Come.ofX (h : outX X rB w g F k b w') : ∃ F', Pp rB w' g F' k b ∧ Come X w F w' F' := h
theorem Come.touch (T : Nat → Prop) (F : Fq) (hb : Turn T w w') (hT : ∀ q, T q → X q ∨ w.heap.size ≤ q) : Come X w F w' F := ⟨rfl, rfl, fun _ e => .inl e, fun _ e => .inr (.inl e), (Turn.refl _ _).trans hb fun q e => (hT q e).imp .inr id⟩
end
def enP0 : BuM.Ent := ⟨0, 0, 0, fun _ => 0, 0⟩
theorem zEnP (w : World) : (zeroValue 89).run Tryz.prog w = .ok (.agg (enL enP0).toArray) w := (zero_of_info (P := Tryz.prog) (t := 89) (v := .agg (enL enP0).toArray) (n := 68) (by kernel_rfl)).1 w
section
variable {w w' : World} {g k : Nat} {F : Fq} {b : Bs}
theorem Pp.logged (H : Pp (RepK 1) w g F k b) {A : Option Addr} {c r : Nat} {vl v' : Value} {Fm : MpV.Img} {x : BuM.Ent} (K : Sk 1 w g F.gs F.gc A c r vl Fm F.Io b.steps b.off b.log) (hMo : F.Mo = mutK g r vl) (ht : Turn (fun q => q = g ∨ vl.ownBlock = some q) w w')
    (hb : Blk w' g 117 (pbV A F.gs.length c F.gc r v' b.off)) (ho : OwnX 89 68 enL w' 0 v' (b.log ++ [x])) (hv : ∀ q, v'.ownBlock = some q → vl.ownBlock = some q ∨ w.heap.size ≤ q) : outQ (RepK 0) w g F (k + 1) (BuM.put b x) w' := by
  have hS : ∀ q, F.Io q → ¬ (q = g ∨ vl.ownBlock = some q) := fun q e x => H.sep q (.inl e) (.inl (by rw [hMo]; exact x.imp id .inr))
  refine H.own (repB2 := RepK 0) (Mo' := mutK g r v') (off' := b.off) (log' := b.log ++ [x]) ⟨A, c, r, v', Fm, ⟨hb, K.pos, K.arr.turn ht fun q hq _ => hS q hq, K.map.turn ht fun e => e.elim (fun y => K.g_r y.symm) K.l_r, fun n hn => (K.due n ?_).turn ht hS, ho, fun q hq => Nat.lt_of_lt_of_le (K.slt q hq) ht.size⟩, rfl⟩ (ht.mono fun q e => by rw [hMo]; exact e.imp id .inr) (fun q e => ?_) (fun q e => ?_) (Nat.le_succ _) ?_
  · rw [List.length_append, List.length_cons, List.length_nil] at hn; omega
  · rcases e with e | e | e
    · exact .inl (by rw [hMo]; exact .inl e)
    · exact .inl (by rw [hMo]; exact .inr (.inl e))
    · exact (hv q e).imp (fun y => by rw [hMo]; exact .inr (.inr y)) id
  · rcases e with e | e | e
    · rw [e]; exact hb.lt
    · rw [e]; exact Nat.lt_of_lt_of_le K.map.lt ht.size
    · exact (ho.own q e).2
  · rw [List.length_append, List.length_cons, List.length_nil]; have := H.sz.2.2.2.1; omega
set_option maxHeartbeats 2000000 in
set_option maxRecDepth 100000 in
theorem lb_io {X : Nat → Prop} {D : World → Prop} {fn : FuncId} {cap : Array Value} {x y : BuM.Ent} {b2 : Bs} (H : Pp (RepK 0) w g F k b) (hk : k + b.steps.length + 2 ≤ 200000) (hcf : ∀ args w, (callFunc fn args).run Tryz.prog w = .ok (.enter fn args) w)
    (hX : ∀ q, X q → q < w.heap.size ∧ ¬ mutP F q ∧ ¬ rdP F q) (hD : ∀ w w' T, D w → Turn T w w' → (∀ q, X q → ¬ T q) → D w')
    (hdo : (BuM.ahead b).off = false → ∀ (w1 : World) (t : Nat) (F1 : Fq), Pp (RepK 1) w1 g F1 (k + b.steps.length) (BuM.ahead b) → Come (fun _ => False) w F w1 F1 → w.heap.size ≤ t → ¬ mutP F1 t → ¬ rdP F1 t → Blk w1 t 89 (enL x).toArray →
      Calls Tryz.prog fn (#[MbP.at' t] ++ cap) w1 fun e w2 => e = .returned (.tuple #[]) ∧ Blk w2 t 89 (enL y).toArray ∧ outX (fun q => q = t ∨ X q) (RepK 1) w1 g F1 (k + b.steps.length + 1) b2 w2 ∧ D w2) :
    Calls Tryz.prog 114 #[MbP.at' g, .agg (enL x).toArray, .func (.func fn) #[] cap] w fun e w' =>
      ((BuM.ahead b).off = true ∧ e = .returned (.agg (enL { x with e := 13 }).toArray) ∧ outQ (RepK 0) w g F (k + b.steps.length + 2) (BuM.put (BuM.ahead b) { x with e := 13 }) w') ∨
      ((BuM.ahead b).off = false ∧ e = .returned (.agg (enL y).toArray) ∧ outX X (RepK 0) w g F (k + b.steps.length + 2) (BuM.put b2 y) w' ∧ D w') := by
  have HH := hid H
  have HX := hid hX
  have HD := hid hD
  have HDO := hid hdo
  have hps := H.pos
  clear H hX hD hdo
  unfold MbP.at'
  go_enter Tryz.func114, Tryz.ntmps114
  go_upto_region 1 with (with_reducible apply alZ' zEnP)
  simp only [Act.put, sqA, sqB, sqC]
  generalize hw0 : World.alloc w _ = w0
  generalize hw1 : World.alloc w0 _ = w1
  obtain ⟨gT, hgT⟩ : ∃ n, n = w.heap.size := ⟨_, rfl⟩
  obtain ⟨gR, hgR⟩ : ∃ n, n = w0.heap.size := ⟨_, rfl⟩
  have hs0 : w0.heap.size = w.heap.size + 1 := by rw [← hw0]; simp
  have bT := hid (show Blk w1 gT 89 (enL x).toArray by rw [← hw1, ← hw0, hgT]; exact (Blk.new _ _ _).alloc _)
  have bR := hid (show Blk w1 gR 89 (enL enP0).toArray by rw [← hw1, hgR]; exact Blk.new _ _ _)
  have BEL := hid (show Below w.heap.size w w1 by rw [← hw1, ← hw0]; exact ((Below.refl _ _).alloc (Nat.le_refl _) _).alloc (by simp) _)
  rw [← hgT, ← hgR]
  have hTR : gT ≠ gR := by omega
  have hTw := hid (show w.heap.size ≤ gT by omega)
  have hRw := hid (show w.heap.size ≤ gR by omega)
  clear hw1 hw0 hs0 hgT hgR
  have H1 := hid (HH.out.belowK BEL.out)
  obtain ⟨A0, c0, p0⟩ := H1.out.hd
  go_wp2_with fail
  refine (lb_made p0 hps).mono ?_
  rintro e w' ⟨rfl, rfl⟩
  clear p0
  go_wp2_with fail
  refine (lb_steps H1.out (by omega)).mono ?_
  rintro e w2 ⟨rfl, ho⟩
  obtain ⟨F2, hP2, hC2⟩ := Come.ofQ ho
  have P2 := hid hP2
  have C2 := hid (show Come (fun _ => False) w F w2 F2 from (Come.refl _ F BEL.out).trans hC2 fun _ e => e.elim)
  have nT : ¬ mutP F2 gT ∧ ¬ rdP F2 gT := by
    have h1 := bT.out.lt
    have hl := hTw.out
    refine ⟨fun e => ?_, fun e => ?_⟩
    · rcases hC2.2.2.1 gT e with y | y
      · have := HH.out.mlt gT y; omega
      · omega
    · rcases hC2.2.2.2.1 gT e with y | y | y
      · have := HH.out.mlt gT y; omega
      · have := HH.out.ilt gT y; omega
      · omega
  have nR : ¬ mutP F2 gR ∧ ¬ rdP F2 gR := by
    have h1 := bR.out.lt
    have hl := hRw.out
    refine ⟨fun e => ?_, fun e => ?_⟩
    · rcases hC2.2.2.1 gR e with y | y
      · have := HH.out.mlt gR y; omega
      · omega
    · rcases hC2.2.2.2.1 gR e with y | y | y
      · have := HH.out.mlt gR y; omega
      · have := HH.out.ilt gR y; omega
      · omega
  have tQ : ∀ q, q < w1.heap.size → w.heap.size ≤ q → ¬ (mutP F q ∨ False) := fun q _ hq e => by
    rcases e with y | y
    · have := HH.out.mlt q y; omega
    · exact y
  have T2 := hid (bT.out.turn hC2.2.2.2.2 (tQ gT bT.out.lt hTw.out))
  have R2 := hid (bR.out.turn hC2.2.2.2.2 (tQ gR bR.out.lt hRw.out))
  clear ho hP2 hC2 bT bR tQ H1
  obtain ⟨A2, c2, r2, vl2, Fm2, K2, hMo2⟩ := P2.out.skel
  have p4 := pb_off K2.blk
  clear K2 hMo2
  cases hoff : (BuM.ahead b).off with
  | true =>
    rw [hoff] at p4
    have q67 := en_qe T2.out
    have fz := T2.out.frozen 67
    have ts := Turn.setCell (S := fun q => q = gT) w2 ⟨gT, 67, none⟩ (.int .i64 13) rfl
    have P3 := hid ((P2.out.turnK ts fun q e x => by rw [x] at e; exact e.elim nT.1 nT.2).mono (Nat.le_succ (k + b.steps.length)))
    have T3 := hid (en_setE T2.out 13)
    have R3 := hid (R2.out.turn ts fun e => hTR e.symm)
    have C3 := hid (show Come (fun _ => False) w F (w2.setCell ⟨gT, 67, none⟩ (.int .i64 13)) F2 from C2.out.trans (Come.touch (X := fun q => q = gT) _ F2 ts fun q e => .inl e) fun q e => .inr (e ▸ hTw.out))
    have nT3 := nT.1
    have nR3 := nR
    clear ts P2 T2 R2 C2 nT nR HDO HD HX
    go_upto_region 7 with fail
    generalize World.setCell w2 _ _ = w3 at P3 T3 R3 C3 ⊢
    clear p4 q67 fz
    obtain ⟨A3, c3, r3, vl3, Fm3, K3, hMo3⟩ := P3.out.skel
    obtain ⟨Al, cl, rfl, _⟩ := K3.lg.sli enL_len
    have hMm := hid (show ∀ q, (q = g ∨ (Value.slice Al (BuM.ahead b).log.length cl).ownBlock = some q) → mutP F2 q from fun q e => .inl (by rw [hMo3]; exact e.imp id .inr))
    have SK := hid K3
    have hMo := hid hMo3
    have hlg : (BuM.ahead b).log.length ≤ 210000 := Nat.le_trans P3.out.sz.2.2.2.1 (by omega)
    have hgw := K3.blk.lt
    have gTo : (Value.slice Al (BuM.ahead b).log.length cl).ownBlock ≠ some gT := fun e => nT3 (hMm.out _ (.inr e))
    have gTg : gT ≠ g := fun e => nT3 (hMm.out _ (.inl e))
    clear K3 hMo3
    refine wp_region_c (S := yS [some (.pointer (some ⟨g, 0, none⟩)), some (.pointer (some ⟨g, 0, none⟩)), some (.pointer (some ⟨g, 0, none⟩)), some (.pointer (some ⟨g, 3, none⟩)), some (.slice Al (BuM.ahead b).log.length cl), some (.agg (enL { x with e := 13 }).toArray), none, none, some (.pointer (some ⟨g, 0, none⟩)), some (.pointer (some ⟨g, 3, none⟩))]
      [(6, kSl 1), (7, kSl ((BuM.ahead b).log.length + 1))]) (C := fun d vs w' => ApC 89 68 enL w3 (.slice Al (BuM.ahead b).log.length cl) (BuM.ahead b).log ({ x with e := 13 }) (d 6) (d 7) (vs 6) (vs 7) w') 10 (by kernel_rfl) (by kernel_rfl) (by kernel_rfl) _
      (yS_ok _ fun y hy => by simp only [List.mem_cons, List.not_mem_nil, or_false] at hy; rcases hy with rfl | rfl <;> exact kSl_ok _) ⟨Turn.drew _, fun _ => (Below.refl _ _).drew, (fun e => by cases e), (fun e => by cases e)⟩ fun vs => ?_
    simp only [List.take_succ_cons, List.take_zero, List.drop_succ_cons, List.drop_zero]
    refine ⟨.inl ⟨rfl, fun dd w' hd hnx hw hC => ?_⟩, fun e => ?_⟩
    · go_simp
      first | exact ⟨rfl, hC⟩ | exact hC
    have e' : vs 0 = _ := e
    rw [e']
    clear e e'
    simp only [Act.put, sqA, sqB, sqC]
    refine ⟨.inl ⟨rfl, fun dd w' hd hnx hw hC => ?_⟩, fun e => ?_⟩
    · go_simp
      first | exact ⟨rfl, hC⟩ | exact hC
    have e' : vs 1 = _ := e
    rw [e']
    clear e e'
    simp only [Act.put, sqA, sqB, sqC]
    refine ⟨.inl ⟨rfl, fun dd w' hd hnx hw hC => ?_⟩, fun e => ?_⟩
    · go_simp
      first | exact ⟨rfl, hC⟩ | exact hC
    have e' : vs 2 = _ := e
    rw [e']
    clear e e'
    simp only [Act.put, sqA, sqB, sqC]
    refine ⟨.inl ⟨rfl, fun dd w' hd hnx hw hC => ?_⟩, fun e => ?_⟩
    · go_simp
      first | exact ⟨rfl, hC⟩ | exact hC
    have e' : vs 3 = _ := e
    rw [e']
    clear e e'
    simp only [Act.put, sqA, sqB, sqC]
    refine ⟨.inl ⟨rfl, fun dd w' hd hnx hw hC => ?_⟩, fun e => ?_⟩
    · have h1 : w'.cell? ⟨g, 3, none⟩ = some (.slice Al (BuM.ahead b).log.length cl) := pb_lg (SK.out.blk.turn hC.t SK.out.l_g)
      go_simp
      first | exact ⟨rfl, hC⟩ | exact hC
    have e' : vs 4 = _ := e
    rw [e']
    clear e e'
    simp only [Act.put, sqA, sqB, sqC]
    refine ⟨.inl ⟨rfl, fun dd w' hd hnx hw hC => ?_⟩, fun e => ?_⟩
    · exact ClP.gE_ldR (cs := (enL { x with e := 13 }).toArray) (tEnP _) rfl (T3.out.turn hC.t gTo).whole ⟨rfl, hC⟩
    have e' : vs 5 = _ := e
    rw [e']
    clear e e'
    simp only [Act.put, sqA, sqB, sqC]
    refine ⟨.inl ⟨rfl, fun dd w' hd hnx hw hC => ?_⟩, fun e => ?_⟩
    · have h8 : dd 7 = false := hnx 7 (by kernel_rfl)
      have ha := (Below.refl w'.heap.size w').alloc (Nat.le_refl _) (.cells (enL { x with e := 13 }).toArray 89)
      have hbl := hC.b h8
      exact gE_lit1 (x := ({ x with e := 13 } : BuM.Ent)) eltEnP undEnP (by omega) rfl rfl ⟨⟨_, _, rfl⟩, hC.t.trans (Turn.of_new (S := fun _ => False) ha) (fun _ e => e.elim), (fun _ => hbl.trans (ha.mono hbl.size)), (fun _ _ => ⟨_, _, rfl, sli_lit1 eltEnP ({ x with e := 13 } : BuM.Ent) w' hbl.size⟩), fun e => by
        have e' : dd 7 = true := e
        rw [h8] at e'; cases e'⟩
    obtain ⟨A7, c7, e'⟩ : ∃ (A : Option Addr) (c : Nat), vs 6 = .slice A 1 c := e
    rw [e']
    have E7 := hid e'
    clear e'
    simp only [Act.put, sqA, sqB, sqC]
    refine ⟨.inl ⟨rfl, fun dd w' hd hnx hw hC => ?_⟩, fun e => ?_⟩
    · have h7 : dd 6 = true := hw 6 (by kernel_rfl)
      have hbl := hC.b hd
      obtain ⟨A', c', f, sl⟩ := hC.lit h7 hd
      rw [E7.out] at f
      cases f
      refine gE_appW eltEnP undEnP (B := 0) (v := .slice Al (BuM.ahead b).log.length cl) (l := (BuM.ahead b).log) (m := [({ x with e := 13 } : BuM.Ent)]) rfl rfl (SK.out.lg.below hbl (Nat.le_refl _)) sl (by omega) (by omega) (Nat.zero_le _) fun v' w4 o4 g4 wh => ?_
      obtain ⟨A4, c4, rfl, _⟩ := o4.sli enL_len
      refine ⟨⟨A4, c4, by rw [List.length_append]; rfl⟩, ?_⟩
      exact ⟨(Turn.of_new (S := fun b' => (Value.slice Al (BuM.ahead b).log.length cl).ownBlock = some b') hbl).trans (Turn.of_grown (S := fun b' => (Value.slice Al (BuM.ahead b).log.length cl).ownBlock = some b') g4 fun b' e => e) (fun b' e => .inl e), (fun e => by cases e), (fun _ e => by cases e), fun _ => ⟨o4, fun b' e => by
        have e3 : (Value.slice A4 ((BuM.ahead b).log ++ [({ x with e := 13 } : BuM.Ent)]).length c4).ownBlock = some b' := e
        rcases wh with x | x
        · exact .inl (x.symm.trans e3)
        · rw [x] at e3; cases e3; exact .inr hbl.size⟩⟩
    obtain ⟨A8, c8, e'⟩ : ∃ (A : Option Addr) (c : Nat), vs 7 = .slice A ((BuM.ahead b).log.length + 1) c := e
    rw [e']
    have E8 := hid e'
    clear e'
    simp only [Act.put, sqA, sqB, sqC]
    refine ⟨.inl ⟨rfl, fun dd w' hd hnx hw hC => ?_⟩, fun e => ?_⟩
    · go_simp
      first | exact ⟨rfl, hC⟩ | exact hC
    have e' : vs 8 = _ := e
    rw [e']
    clear e e'
    simp only [Act.put, sqA, sqB, sqC]
    refine ⟨.inl ⟨rfl, fun dd w' hd hnx hw hC => ?_⟩, fun e => ?_⟩
    · go_simp
      first | exact ⟨rfl, hC⟩ | exact hC
    have e' : vs 9 = _ := e
    rw [e']
    clear e e'
    simp only [Act.put, sqA, sqB, sqC]
    intro dd w4 hall hC
    obtain ⟨o4, wh⟩ := hC.own (hall 7 (by omega))
    rw [E8.out] at o4 wh
    have bb4 := SK.out.blk.turn hC.t SK.out.l_g
    have tu5 := Turn.setCell (S := fun q => q = g) w4 ⟨g, 3, none⟩ (.slice A8 ((BuM.ahead b).log.length + 1) c8) rfl
    have hne4 : ∀ q, (Value.slice A8 ((BuM.ahead b).log.length + 1) c8).ownBlock = some q → q ≠ g := fun q e e2 => by
      rcases wh q e with x | x
      · exact SK.out.l_g (by rw [x, e2])
      · omega
    have TT5 := hid (show Turn (fun q => (q = g ∨ (Value.slice Al (BuM.ahead b).log.length cl).ownBlock = some q) ∨ w3.heap.size ≤ q) w3 (w4.setCell ⟨g, 3, none⟩ (.slice A8 ((BuM.ahead b).log.length + 1) c8)) from
      (hC.t.mono fun q e => .inl (.inr e)).trans tu5 fun q e => .inl (.inl (.inl e)))
    have TU5 := hid (show Turn (fun q => q = g ∨ (Value.slice Al (BuM.ahead b).log.length cl).ownBlock = some q) w3 (w4.setCell ⟨g, 3, none⟩ (.slice A8 ((BuM.ahead b).log.length + 1) c8)) from
      (hC.t.mono fun q e => .inr e).trans tu5 fun q e => .inl (.inl e))
    have HL := hid (P3.out.logged (x := { x with e := 13 }) SK.out hMo.out TU5.out (pb_setLg bb4 _) (o4.turn tu5 hne4) wh)
    have T5 := hid (T3.out.turn TU5.out fun e => e.elim gTg gTo)
    have R5 := hid (R3.out.turn TU5.out fun e => nR3.1 (hMm.out _ e))
    have hRl := hid R3.out.lt
    have p3 : w4.cell? ⟨g, 3, none⟩ = some (.slice Al (BuM.ahead b).log.length cl) := pb_lg bb4
    have fz := bb4.frozen 3
    clear hC o4 wh hall E7 E8 tu5 hne4 bb4 SK hMo T3 R3
    go_upto_region 8 with fail
    generalize World.setCell w4 _ _ = w5 at TT5 TU5 HL T5 R5 ⊢
    clear p3 fz
    go_wp2_with (first | ((with_reducible apply ldR (cs := (enL { x with e := 13 }).toArray) (tEnP _)); rfl; exact T5.out.whole) | ((with_reducible apply stR (tEnP _)); rfl; rfl; exact R5.out; exact en_size _ _; exact en_one' _))
    generalize hw6 : World.setRow w5 _ _ = w6
    have R6 := hid (show Blk w6 gR 89 (enL { x with e := 13 }).toArray by rw [← hw6]; exact R5.out.setRow_same _)
    have T6 := hid (show Turn (fun q => q = gR) w5 w6 by rw [← hw6]; exact Turn.setRow _ _ _ rfl)
    obtain ⟨F5, hP5, hC5⟩ := Come.ofQ HL.out
    have nR5 : ¬ mutP F5 gR ∧ ¬ rdP F5 gR := by
      have h1 := hRl.out
      refine ⟨fun e => ?_, fun e => ?_⟩
      · rcases hC5.2.2.1 gR e with y | y
        · exact nR3.1 y
        · omega
      · rcases hC5.2.2.2.1 gR e with y | y | y
        · exact nR3.1 y
        · exact nR3.2 y
        · omega
    have P6 := hid (hP5.turnK T6.out fun q e x => by rw [x] at e; exact e.elim nR5.1 nR5.2)
    have C6 := hid (show Come (fun _ => False) w F w6 F5 from (C3.out.trans hC5 fun _ e => e.elim).trans (Come.touch (X := fun q => q = gR) _ F5 T6.out fun q e => .inl e) fun q e => .inr (e ▸ hRw.out))
    clear hw6 HL hP5 hC5 T5 R5 nR5
    apply ret_row' (tEnP _) Tryz.results114
    · rfl
    · rfl
    · exact R6.out
    exact .inl ⟨by first | rfl | exact hoff, rfl, C6.out.toQ P6.out⟩
  | false =>
    rw [hoff] at p4
    have hdo := HDO.out hoff w2 gT F2 P2.out C2.out hTw.out nT.1 nT.2 T2.out
    clear HDO
    go_wp2_with fail
    clear p4
    refine hdo.mono ?_
    rintro e w3 ⟨rfl, hb, ho, hd⟩
    obtain ⟨F3, hP3, hC3⟩ := Come.ofX ho
    have P3 := hid hP3
    have T3 := hid hb
    have nT3 : ¬ mutP F3 gT := fun e => by
      have h1 := T2.out.lt
      rcases hC3.2.2.1 gT e with y | y
      · exact nT.1 y
      · omega
    have nR3 : ¬ mutP F3 gR ∧ ¬ rdP F3 gR := by
      have h1 := R2.out.lt
      refine ⟨fun e => ?_, fun e => ?_⟩
      · rcases hC3.2.2.1 gR e with y | y
        · exact nR.1 y
        · omega
      · rcases hC3.2.2.2.1 gR e with y | y | y
        · exact nR.1 y
        · exact nR.2 y
        · omega
    have R3 := hid (R2.out.turn hC3.2.2.2.2 fun e => by
      rcases e with e | e | e
      · exact nR.1 e
      · exact hTR e.symm
      · have := (HX.out gR e).1; have := hRw.out; omega)
    have C3 := hid (show Come X w F w3 F3 from Come.trans (X := X) (Come.trans (X := X) (Come.refl X F (Below.refl _ _)) C2.out fun _ e => e.elim) hC3 fun q e => e.elim (fun y => .inr (y ▸ hTw.out)) .inl)
    have nX := hid (show ∀ q, X q → ¬ mutP F3 q from fun q e x => by
      have hq := HX.out q e
      rcases C3.out.2.2.1 q x with y | y
      · exact hq.2.1 y
      · omega)
    have D3 := hid hd
    clear ho hP3 hC3 hb hd hdo P2 T2 R2 C2 nT nR
    go_upto_region 7 with fail
    obtain ⟨A3, c3, r3, vl3, Fm3, K3, hMo3⟩ := P3.out.skel
    obtain ⟨Al, cl, rfl, _⟩ := K3.lg.sli enL_len
    have hMm := hid (show ∀ q, (q = g ∨ (Value.slice Al (b2).log.length cl).ownBlock = some q) → mutP F3 q from fun q e => .inl (by rw [hMo3]; exact e.imp id .inr))
    have SK := hid K3
    have hMo := hid hMo3
    have hlg : (b2).log.length ≤ 210000 := Nat.le_trans P3.out.sz.2.2.2.1 (by omega)
    have hgw := K3.blk.lt
    have gTo : (Value.slice Al (b2).log.length cl).ownBlock ≠ some gT := fun e => nT3 (hMm.out _ (.inr e))
    have gTg : gT ≠ g := fun e => nT3 (hMm.out _ (.inl e))
    clear K3 hMo3
    refine wp_region_c (S := yS [some (.pointer (some ⟨g, 0, none⟩)), some (.pointer (some ⟨g, 0, none⟩)), some (.pointer (some ⟨g, 0, none⟩)), some (.pointer (some ⟨g, 3, none⟩)), some (.slice Al (b2).log.length cl), some (.agg (enL y).toArray), none, none, some (.pointer (some ⟨g, 0, none⟩)), some (.pointer (some ⟨g, 3, none⟩))]
      [(6, kSl 1), (7, kSl ((b2).log.length + 1))]) (C := fun d vs w' => ApC 89 68 enL w3 (.slice Al (b2).log.length cl) (b2).log (y) (d 6) (d 7) (vs 6) (vs 7) w') 10 (by kernel_rfl) (by kernel_rfl) (by kernel_rfl) _
      (yS_ok _ fun y hy => by simp only [List.mem_cons, List.not_mem_nil, or_false] at hy; rcases hy with rfl | rfl <;> exact kSl_ok _) ⟨Turn.drew _, fun _ => (Below.refl _ _).drew, (fun e => by cases e), (fun e => by cases e)⟩ fun vs => ?_
    simp only [List.take_succ_cons, List.take_zero, List.drop_succ_cons, List.drop_zero]
    refine ⟨.inl ⟨rfl, fun dd w' hd hnx hw hC => ?_⟩, fun e => ?_⟩
    · go_simp
      first | exact ⟨rfl, hC⟩ | exact hC
    have e' : vs 0 = _ := e
    rw [e']
    clear e e'
    simp only [Act.put, sqA, sqB, sqC]
    refine ⟨.inl ⟨rfl, fun dd w' hd hnx hw hC => ?_⟩, fun e => ?_⟩
    · go_simp
      first | exact ⟨rfl, hC⟩ | exact hC
    have e' : vs 1 = _ := e
    rw [e']
    clear e e'
    simp only [Act.put, sqA, sqB, sqC]
    refine ⟨.inl ⟨rfl, fun dd w' hd hnx hw hC => ?_⟩, fun e => ?_⟩
    · go_simp
      first | exact ⟨rfl, hC⟩ | exact hC
    have e' : vs 2 = _ := e
    rw [e']
    clear e e'
    simp only [Act.put, sqA, sqB, sqC]
    refine ⟨.inl ⟨rfl, fun dd w' hd hnx hw hC => ?_⟩, fun e => ?_⟩
    · go_simp
      first | exact ⟨rfl, hC⟩ | exact hC
    have e' : vs 3 = _ := e
    rw [e']
    clear e e'
    simp only [Act.put, sqA, sqB, sqC]
    refine ⟨.inl ⟨rfl, fun dd w' hd hnx hw hC => ?_⟩, fun e => ?_⟩
    · have h1 : w'.cell? ⟨g, 3, none⟩ = some (.slice Al (b2).log.length cl) := pb_lg (SK.out.blk.turn hC.t SK.out.l_g)
      go_simp
      first | exact ⟨rfl, hC⟩ | exact hC
    have e' : vs 4 = _ := e
    rw [e']
    clear e e'
    simp only [Act.put, sqA, sqB, sqC]
    refine ⟨.inl ⟨rfl, fun dd w' hd hnx hw hC => ?_⟩, fun e => ?_⟩
    · exact ClP.gE_ldR (cs := (enL y).toArray) (tEnP _) rfl (T3.out.turn hC.t gTo).whole ⟨rfl, hC⟩
    have e' : vs 5 = _ := e
    rw [e']
    clear e e'
    simp only [Act.put, sqA, sqB, sqC]
    refine ⟨.inl ⟨rfl, fun dd w' hd hnx hw hC => ?_⟩, fun e => ?_⟩
    · have h8 : dd 7 = false := hnx 7 (by kernel_rfl)
      have ha := (Below.refl w'.heap.size w').alloc (Nat.le_refl _) (.cells (enL y).toArray 89)
      have hbl := hC.b h8
      exact gE_lit1 (x := (y : BuM.Ent)) eltEnP undEnP (by omega) rfl rfl ⟨⟨_, _, rfl⟩, hC.t.trans (Turn.of_new (S := fun _ => False) ha) (fun _ e => e.elim), (fun _ => hbl.trans (ha.mono hbl.size)), (fun _ _ => ⟨_, _, rfl, sli_lit1 eltEnP (y : BuM.Ent) w' hbl.size⟩), fun e => by
        have e' : dd 7 = true := e
        rw [h8] at e'; cases e'⟩
    obtain ⟨A7, c7, e'⟩ : ∃ (A : Option Addr) (c : Nat), vs 6 = .slice A 1 c := e
    rw [e']
    have E7 := hid e'
    clear e'
    simp only [Act.put, sqA, sqB, sqC]
    refine ⟨.inl ⟨rfl, fun dd w' hd hnx hw hC => ?_⟩, fun e => ?_⟩
    · have h7 : dd 6 = true := hw 6 (by kernel_rfl)
      have hbl := hC.b hd
      obtain ⟨A', c', f, sl⟩ := hC.lit h7 hd
      rw [E7.out] at f
      cases f
      refine gE_appW eltEnP undEnP (B := 0) (v := .slice Al (b2).log.length cl) (l := (b2).log) (m := [(y : BuM.Ent)]) rfl rfl (SK.out.lg.below hbl (Nat.le_refl _)) sl (by omega) (by omega) (Nat.zero_le _) fun v' w4 o4 g4 wh => ?_
      obtain ⟨A4, c4, rfl, _⟩ := o4.sli enL_len
      refine ⟨⟨A4, c4, by rw [List.length_append]; rfl⟩, ?_⟩
      exact ⟨(Turn.of_new (S := fun b' => (Value.slice Al (b2).log.length cl).ownBlock = some b') hbl).trans (Turn.of_grown (S := fun b' => (Value.slice Al (b2).log.length cl).ownBlock = some b') g4 fun b' e => e) (fun b' e => .inl e), (fun e => by cases e), (fun _ e => by cases e), fun _ => ⟨o4, fun b' e => by
        have e3 : (Value.slice A4 ((b2).log ++ [(y : BuM.Ent)]).length c4).ownBlock = some b' := e
        rcases wh with x | x
        · exact .inl (x.symm.trans e3)
        · rw [x] at e3; cases e3; exact .inr hbl.size⟩⟩
    obtain ⟨A8, c8, e'⟩ : ∃ (A : Option Addr) (c : Nat), vs 7 = .slice A ((b2).log.length + 1) c := e
    rw [e']
    have E8 := hid e'
    clear e'
    simp only [Act.put, sqA, sqB, sqC]
    refine ⟨.inl ⟨rfl, fun dd w' hd hnx hw hC => ?_⟩, fun e => ?_⟩
    · go_simp
      first | exact ⟨rfl, hC⟩ | exact hC
    have e' : vs 8 = _ := e
    rw [e']
    clear e e'
    simp only [Act.put, sqA, sqB, sqC]
    refine ⟨.inl ⟨rfl, fun dd w' hd hnx hw hC => ?_⟩, fun e => ?_⟩
    · go_simp
      first | exact ⟨rfl, hC⟩ | exact hC
    have e' : vs 9 = _ := e
    rw [e']
    clear e e'
    simp only [Act.put, sqA, sqB, sqC]
    intro dd w4 hall hC
    obtain ⟨o4, wh⟩ := hC.own (hall 7 (by omega))
    rw [E8.out] at o4 wh
    have bb4 := SK.out.blk.turn hC.t SK.out.l_g
    have tu5 := Turn.setCell (S := fun q => q = g) w4 ⟨g, 3, none⟩ (.slice A8 ((b2).log.length + 1) c8) rfl
    have hne4 : ∀ q, (Value.slice A8 ((b2).log.length + 1) c8).ownBlock = some q → q ≠ g := fun q e e2 => by
      rcases wh q e with x | x
      · exact SK.out.l_g (by rw [x, e2])
      · omega
    have TT5 := hid (show Turn (fun q => (q = g ∨ (Value.slice Al (b2).log.length cl).ownBlock = some q) ∨ w3.heap.size ≤ q) w3 (w4.setCell ⟨g, 3, none⟩ (.slice A8 ((b2).log.length + 1) c8)) from
      (hC.t.mono fun q e => .inl (.inr e)).trans tu5 fun q e => .inl (.inl (.inl e)))
    have TU5 := hid (show Turn (fun q => q = g ∨ (Value.slice Al (b2).log.length cl).ownBlock = some q) w3 (w4.setCell ⟨g, 3, none⟩ (.slice A8 ((b2).log.length + 1) c8)) from
      (hC.t.mono fun q e => .inr e).trans tu5 fun q e => .inl (.inl e))
    have HL := hid (P3.out.logged (x := y) SK.out hMo.out TU5.out (pb_setLg bb4 _) (o4.turn tu5 hne4) wh)
    have T5 := hid (T3.out.turn TU5.out fun e => e.elim gTg gTo)
    have R5 := hid (R3.out.turn TU5.out fun e => nR3.1 (hMm.out _ e))
    have hRl := hid R3.out.lt
    have p3 : w4.cell? ⟨g, 3, none⟩ = some (.slice Al (b2).log.length cl) := pb_lg bb4
    have fz := bb4.frozen 3
    clear hC o4 wh hall E7 E8 tu5 hne4 bb4 SK hMo T3 R3
    go_upto_region 8 with fail
    generalize World.setCell w4 _ _ = w5 at TT5 TU5 HL T5 R5 ⊢
    clear p3 fz
    go_wp2_with (first | ((with_reducible apply ldR (cs := (enL y).toArray) (tEnP _)); rfl; exact T5.out.whole) | ((with_reducible apply stR (tEnP _)); rfl; rfl; exact R5.out; exact en_size _ _; exact en_one' _))
    generalize hw6 : World.setRow w5 _ _ = w6
    have R6 := hid (show Blk w6 gR 89 (enL y).toArray by rw [← hw6]; exact R5.out.setRow_same _)
    have T6 := hid (show Turn (fun q => q = gR) w5 w6 by rw [← hw6]; exact Turn.setRow _ _ _ rfl)
    obtain ⟨F5, hP5, hC5⟩ := Come.ofQ HL.out
    have nR5 : ¬ mutP F5 gR ∧ ¬ rdP F5 gR := by
      have h1 := hRl.out
      refine ⟨fun e => ?_, fun e => ?_⟩
      · rcases hC5.2.2.1 gR e with y | y
        · exact nR3.1 y
        · omega
      · rcases hC5.2.2.2.1 gR e with y | y | y
        · exact nR3.1 y
        · exact nR3.2 y
        · omega
    have P6 := hid (hP5.turnK T6.out fun q e x => by rw [x] at e; exact e.elim nR5.1 nR5.2)
    have C6 := hid (show Come X w F w6 F5 from (C3.out.trans hC5 fun _ e => e.elim).trans (Come.touch (X := fun q => q = gR) _ F5 T6.out fun q e => .inl e) fun q e => .inr (e ▸ hRw.out))
    clear hw6 HL hP5 hC5 T5 R5 nR5
    apply ret_row' (tEnP _) Tryz.results114
    · rfl
    · rfl
    · exact R6.out
    have D6 := hid (show D w6 from HD.out _ _ _ (HD.out _ _ _ D3.out TT5.out fun q e x => by
      rcases x with x | x
      · exact nX.out q e (hMm.out q x)
      · have h1 := (HX.out q e).1; have h2 := C3.out.2.2.2.2.size; omega) T6.out fun q e x => by
        have h1 := (HX.out q e).1; have := hRw.out; rw [x] at h1; omega)
    exact .inr ⟨by first | rfl | exact hoff, rfl, C6.out.toX P6.out, D6.out⟩
end
end BuP
end Go.Proofs.YtklmjdhhnnanoaaGreatDoor
set_option maxRecDepth 100000
namespace Go.Proofs.YtklmjdhhnnanoaaGreatDoor
open Go.ChangeShapes Go.WideShapes Go.ChangeAt Go.RowKit
attribute [local go_sem] Gives GivesE
namespace BuP
open BuM MbM MbP MpV
section
variable {w w' : World} {d g k : Nat} {F : Fq} {b : Bs}
set_option maxRecDepth 100000 in
theorem lb_ofmIn {t g1 g3 mi gi : Nat} {x : BuM.Ent} {fn : FuncId} {cap : Array Value} {R : World → Prop} {T1 T3 : TypeId} (H : Pp (RepK d) w g F k b) (hm : mi < b.ms.length) (hgi : F.gs[mi]? = some gi) (hx : x.m = (mi : Int)) (bt : Blk w t 89 (enL x).toArray)
    (b1 : Blk w g1 T1 #[.pointer (some ⟨g, 0, none⟩)]) (b3 : Blk w g3 T3 #[.func (.func fn) #[] cap]) (hcf : ∀ args w, (callFunc fn args).run Tryz.prog w = .ok (.enter fn args) w)
    (hcall : ∀ w2, Below w.heap.size w w2 → Calls Tryz.prog fn (#[MbP.at' gi, MbP.at' t] ++ cap) w2 fun e w' => e = .returned (.tuple #[]) ∧ R w') :
    Calls Tryz.prog 115 #[MbP.at' t, .pointer (some ⟨g1, 0, none⟩), .pointer (some ⟨g3, 0, none⟩)] w fun e w' => e = .returned (.tuple #[]) ∧ R w' := by
  obtain ⟨gi', st, A, c, bA, oA, h1, _, _, _, h5, rfl, h7, _⟩ := H.at hm
  rw [hgi] at h1
  cases h1
  have hps := H.pos
  have qm : w.cell? ⟨t, 1, none⟩ = some (.int .i64 (mi : Nat)) := by rw [← hx]; exact en_m (o := 0) bt.whole
  have q1 : w.cell? ⟨g1, 0, none⟩ = some (.pointer (some ⟨g, 0, none⟩)) := b1.cell 0
  have q3 : w.cell? ⟨g3, 0, none⟩ = some (.func (.func fn) #[] cap) := b3.cell 0
  have HC := hid hcall
  clear H hcall bt b1 b3 hgi hx
  unfold MbP.at'
  go_enter Tryz.func115, Tryz.ntmps115
  go_upto_region 0 with fail
  refine wp_region_tail (C := fun w' => Below w.heap.size w w') 5 (by kernel_rfl) (by kernel_rfl) (by kernel_rfl) (Below.refl _ _).drew ?_
  simp only [List.take_succ_cons, List.take_zero, List.drop_succ_cons, List.drop_zero]
  apply wpK_val
  · rfl
  · intro w' hw'
    have hcell := (hw'.cell (p := ⟨g1, 0, none⟩) (World.block_lt_of_cell? w _ q1)).trans q1
    go_simp
    first | exact rfl | exact ⟨rfl, hw'⟩
  simp only [Act.put, sqA, sqB, sqC]
  apply wpK_val
  · rfl
  · intro w' hw'
    go_simp
    first | exact rfl | exact ⟨rfl, hw'⟩
  simp only [Act.put, sqA, sqB, sqC]
  apply wpK_val
  · rfl
  · intro w' hw'
    go_simp
    first | exact rfl | exact ⟨rfl, hw'⟩
  simp only [Act.put, sqA, sqB, sqC]
  apply wpK_val
  · rfl
  · intro w' hw'
    go_simp
    first | exact rfl | exact ⟨rfl, hw'⟩
  simp only [Act.put, sqA, sqB, sqC]
  apply wpK_val
  · rfl
  · intro w' hw'
    have hcell := (hw'.cell (p := ⟨t, 1, none⟩) (World.block_lt_of_cell? w _ qm)).trans qm
    go_simp
    first | exact rfl | exact ⟨rfl, hw'⟩
  simp only [Act.put, sqA, sqB, sqC]
  intro w2 hC2
  have H2 := hid (HC.out w2 hC2)
  have h5' := (hC2.cell (p := ⟨g, 0, none⟩) (World.block_lt_of_cell? w _ h5)).trans h5
  have h7' := (hC2.cell (p := ⟨bA, oA + mi, none⟩) (World.block_lt_of_cell? w _ h7)).trans h7
  have q3' := (hC2.cell (p := ⟨g3, 0, none⟩) (World.block_lt_of_cell? w _ q3)).trans q3
  clear h5 h7 q1 q3 qm HC hC2
  go_wp2_with fail
  refine (lb_in h5' hps hm h7').mono ?_
  rintro e w' ⟨rfl, rfl⟩
  clear h5' h7'
  unfold MbP.at'
  go_wp2_with fail
  refine H2.out.mono ?_
  rintro e w4 ⟨rfl, hR⟩
  have HR := hid hR
  clear hR q3' H2
  go_wp2_with fail
  refine bodyPost_end (results_none rfl _ _ _) rfl ?_
  exact ⟨rfl, HR.out⟩
set_option maxRecDepth 100000 in
theorem lb_ofmOut {t g1 g3 : Nat} {x : BuM.Ent} {T1 : TypeId} (H : Pp (RepK d) w g F k b) (hm : ¬ mem b.ms x.m = true) (bt : Blk w t 89 (enL x).toArray) (b1 : Blk w g1 T1 #[.pointer (some ⟨g, 0, none⟩)]) :
    Calls Tryz.prog 115 #[MbP.at' t, .pointer (some ⟨g1, 0, none⟩), .pointer (some ⟨g3, 0, none⟩)] w fun e w' => e = .returned (.tuple #[]) ∧ ∃ w2, Below w.heap.size w w2 ∧ w' = w2.setCell ⟨t, 67, none⟩ (.int .i64 2) := by
  obtain ⟨A, c, h5⟩ := H.hd
  have hps := H.pos
  have hmn := mem_not hm
  obtain ⟨m, hmx⟩ : ∃ m, m = x.m := ⟨_, rfl⟩
  rw [← hmx] at hmn
  have qm : w.cell? ⟨t, 1, none⟩ = some (.int .i64 m) := by rw [hmx]; exact en_m (o := 0) bt.whole
  have q1 : w.cell? ⟨g1, 0, none⟩ = some (.pointer (some ⟨g, 0, none⟩)) := b1.cell 0
  have BT := hid bt
  clear H bt b1 hm hmx
  unfold MbP.at'
  go_enter Tryz.func115, Tryz.ntmps115
  go_upto_region 0 with fail
  refine wp_region_tail (C := fun w' => Below w.heap.size w w') 5 (by kernel_rfl) (by kernel_rfl) (by kernel_rfl) (Below.refl _ _).drew ?_
  simp only [List.take_succ_cons, List.take_zero, List.drop_succ_cons, List.drop_zero]
  apply wpK_val
  · rfl
  · intro w' hw'
    have hcell := (hw'.cell (p := ⟨g1, 0, none⟩) (World.block_lt_of_cell? w _ q1)).trans q1
    go_simp
    first | exact rfl | exact ⟨rfl, hw'⟩
  simp only [Act.put, sqA, sqB, sqC]
  apply wpK_val
  · rfl
  · intro w' hw'
    go_simp
    first | exact rfl | exact ⟨rfl, hw'⟩
  simp only [Act.put, sqA, sqB, sqC]
  apply wpK_val
  · rfl
  · intro w' hw'
    go_simp
    first | exact rfl | exact ⟨rfl, hw'⟩
  simp only [Act.put, sqA, sqB, sqC]
  apply wpK_val
  · rfl
  · intro w' hw'
    go_simp
    first | exact rfl | exact ⟨rfl, hw'⟩
  simp only [Act.put, sqA, sqB, sqC]
  apply wpK_val
  · rfl
  · intro w' hw'
    have hcell := (hw'.cell (p := ⟨t, 1, none⟩) (World.block_lt_of_cell? w _ qm)).trans qm
    go_simp
    first | exact rfl | exact ⟨rfl, hw'⟩
  simp only [Act.put, sqA, sqB, sqC]
  intro w2 hC2
  have h5' := (hC2.cell (p := ⟨g, 0, none⟩) (World.block_lt_of_cell? w _ h5)).trans h5
  have B2 := BT.out.below hC2 BT.out.lt
  have qe := en_qe B2
  have fz := B2.frozen 67
  have HB := hid hC2
  clear h5 q1 qm hC2 B2
  go_wp2_with fail
  refine (lb_out h5' hps hmn).mono ?_
  rintro e w' ⟨rfl, rfl⟩
  clear h5'
  go_wp2_with fail
  refine bodyPost_ret (results_none rfl _ _ _) rfl ?_
  exact ⟨rfl, _, HB.out, rfl⟩
def tellE (b : Bs) (x : BuM.Ent) (y : St → BuM.Ent) : BuM.Ent := if may b x.m = 0 then y (BuM.at' b.ms x.m) else { x with e := may b x.m }
def tellB (b : Bs) (x : BuM.Ent) (f : St → St) : Bs := if may b x.m = 0 then BuM.upd b x.m (f (BuM.at' b.ms x.m)) else b
theorem lb_ofmIo {g1 g3 : Nat} {Xc : Nat → Prop} {Cp : World → Prop} {fn : FuncId} {cap : Array Value} {x : BuM.Ent} {y : St → BuM.Ent} {f : St → St} {T1 T3 : TypeId} (H : Pp (RepK 0) w g F k b) (hk : k + b.steps.length + 2 ≤ 200000) (hcf : ∀ args w, (callFunc fn args).run Tryz.prog w = .ok (.enter fn args) w)
    (b1 : Blk w g1 T1 #[.pointer (some ⟨g, 0, none⟩)]) (b3 : Blk w g3 T3 #[.func (.func fn) #[] cap]) (n1 : ¬ mutP F g1) (n3 : ¬ mutP F g3)
    (hC0 : Cp w) (hCp : ∀ w w' T, Cp w → Turn T w w' → (∀ q, Xc q → ¬ T q) → Cp w') (hXc : ∀ q, Xc q → q < w.heap.size ∧ ¬ mutP F q)
    (hin : ∀ (w1 : World) (t : Nat) (F1 : Fq) (mi gi : Nat), Pp (RepK 1) w1 g F1 (k + b.steps.length) (BuM.ahead b) → F1.gs[mi]? = some gi → mi < (BuM.ahead b).ms.length → x.m = (mi : Int) → ¬ mutP F1 t → ¬ rdP F1 t → Blk w1 t 89 (enL x).toArray → Cp w1 →
      Calls Tryz.prog fn (#[MbP.at' gi, MbP.at' t] ++ cap) w1 fun e w2 => e = .returned (.tuple #[]) ∧ Blk w2 t 89 (enL (y (BuM.at' (BuM.ahead b).ms (mi : Int)))).toArray ∧ outX (fun q => q = t) (RepK 1) w1 g F1 (k + b.steps.length + 1) { BuM.ahead b with ms := (BuM.ahead b).ms.set mi (f (BuM.at' (BuM.ahead b).ms (mi : Int))) } w2) :
    Calls Tryz.prog 114 #[MbP.at' g, .agg (enL x).toArray, .func (.func 115) #[] #[.pointer (some ⟨g1, 0, none⟩), .pointer (some ⟨g3, 0, none⟩)]] w fun e w' => e = .returned (.agg (enL (tellE (BuM.ahead b) x y)).toArray) ∧ outQ (RepK 0) w g F (k + b.steps.length + 2) (BuM.put (tellB (BuM.ahead b) x f) (tellE (BuM.ahead b) x y)) w' := by
  have hcf2 : ∀ args w, (callFunc 115 args).run Tryz.prog w = .ok (.enter 115 args) w := fun args w => by simp [callFunc, Tryz.func115, Tryz.f115]
  by_cases ho : (BuM.ahead b).off = true
  · have hm : may (BuM.ahead b) x.m = 13 := by unfold BuM.may; rw [if_pos ho]
    refine (lb_io (X := fun _ => False) (D := fun _ => True) (y := x) (b2 := BuM.ahead b) H hk hcf2 (fun q e => e.elim) (fun _ _ _ _ _ _ => trivial) fun h => by rw [ho] at h; cases h).mono ?_
    rintro e w' (⟨_, he, h⟩ | ⟨h, _⟩)
    · unfold tellE tellB
      rw [hm, if_neg (by decide), if_neg (by decide)]
      exact ⟨he, h⟩
    · rw [ho] at h; cases h
  · have hoff : (BuM.ahead b).off = false := by simpa using ho
    by_cases hmm : mem (BuM.ahead b).ms x.m = true
    · have hm : may (BuM.ahead b) x.m = 0 := by unfold BuM.may; rw [if_neg ho, if_pos hmm]
      obtain ⟨mi, hmi, hml⟩ := mem_nat hmm
      refine (lb_io (X := fun _ => False) (D := fun _ => True) (y := y (BuM.at' (BuM.ahead b).ms (mi : Int))) (b2 := { BuM.ahead b with ms := (BuM.ahead b).ms.set mi (f (BuM.at' (BuM.ahead b).ms (mi : Int))) }) H hk hcf2 (fun q e => e.elim) (fun _ _ _ _ _ _ => trivial) fun _ w1 t F1 hP hC ht n1' n2' bt => ?_).mono ?_
      · have hgl : mi < F1.gs.length := by rw [hP.len]; exact hml
        have hg := List.getElem?_eq_getElem hgl
        have tu := hC.2.2.2.2
        refine (lb_ofmIn (g1 := g1) (g3 := g3) (R := fun w2 => Blk w2 t 89 (enL (y (BuM.at' (BuM.ahead b).ms (mi : Int)))).toArray ∧ outX (fun q => q = t ∨ False) (RepK 1) w1 g F1 (k + b.steps.length + 1) { BuM.ahead b with ms := (BuM.ahead b).ms.set mi (f (BuM.at' (BuM.ahead b).ms (mi : Int))) } w2 ∧ True)
          hP hml hg hmi bt (b1.turn tu fun e => e.elim n1 id) (b3.turn tu fun e => e.elim n3 id) hcf fun w2 hb2 => ?_).mono fun e w2 h => ⟨h.1, h.2⟩
        refine (hin w2 t F1 mi _ (hP.belowK hb2) hg hml hmi n1' n2' (bt.below hb2 bt.lt) (hCp _ _ _ (hCp _ _ _ hC0 tu fun q e x => x.elim (hXc q e).2 id) (Turn.of_new (S := fun _ => False) hb2) fun _ _ e => e)).mono ?_
        rintro e w3 ⟨he, h1, h2⟩
        obtain ⟨F3, h3, h4⟩ := Come.ofX h2
        exact ⟨he, h1, (Come.trans (Come.refl _ F1 hb2) h4 fun q e => .inl (.inl e)).toX h3, trivial⟩
      · rintro e w' (⟨h, _⟩ | ⟨_, he, h, _⟩)
        · rw [hoff] at h; cases h
        · unfold tellE tellB
          rw [hm, if_pos rfl, if_pos rfl, hmi]
          obtain ⟨F3, h3, h4⟩ := Come.ofX h
          exact ⟨he, h4.toQ h3⟩
    · have hm : may (BuM.ahead b) x.m = 2 := by unfold BuM.may; rw [if_neg ho, if_neg hmm]
      refine (lb_io (X := fun _ => False) (D := fun _ => True) (y := { x with e := 2 }) (b2 := BuM.ahead b) H hk hcf2 (fun q e => e.elim) (fun _ _ _ _ _ _ => trivial) fun _ w1 t F1 hP hC ht n1' n2' bt => ?_).mono ?_
      · have tu := hC.2.2.2.2
        refine (lb_ofmOut (g1 := g1) (g3 := g3) hP hmm bt (b1.turn tu fun e => e.elim n1 id)).mono ?_
        rintro e w3 ⟨he, w2, hb2, rfl⟩
        have ts := Turn.setCell (S := fun q => q = t) w2 ⟨t, 67, none⟩ (.int .i64 2) rfl
        refine ⟨he, en_setE (bt.below hb2 bt.lt) 2, ?_, trivial⟩
        have hP2 := (hP.belowK hb2).turnK ts fun q e x => by rw [x] at e; exact e.elim n1' n2'
        exact (Come.trans (X := fun q => q = t ∨ False) (Come.refl _ F1 hb2) (Come.touch (X := fun q => q = t) _ F1 ts fun q e => .inl e) fun q e => .inl (.inl e)).toX (hP2.mono (Nat.le_succ _))
      · rintro e w' (⟨h, _⟩ | ⟨_, he, h, _⟩)
        · rw [hoff] at h; cases h
        · unfold tellE tellB
          rw [hm, if_neg (by decide), if_neg (by decide)]
          obtain ⟨F3, h3, h4⟩ := Come.ofX h
          exact ⟨he, h4.toQ h3⟩
end
end BuP
end Go.Proofs.YtklmjdhhnnanoaaGreatDoor
set_option maxRecDepth 100000
namespace Go.Proofs.YtklmjdhhnnanoaaGreatDoor
open Go.ChangeShapes Go.WideShapes Go.ChangeAt Go.RowKit
attribute [local go_sem] Gives GivesE
namespace BuP
open BuM MbM MbP MpV
section
variable {w w' : World} {d g k : Nat} {F : Fq} {b : Bs}
set_option maxHeartbeats 600000 in
set_option maxRecDepth 100000 in
theorem lb_ofm {Xc : Nat → Prop} {Cp : World → Prop} {fn : FuncId} {cap : Array Value} {x : BuM.Ent} {y : St → BuM.Ent} {f : St → St} (H : Pp (RepK 0) w g F k b) (hk : k + b.steps.length + 2 ≤ 200000) (hcf : ∀ args w, (callFunc fn args).run Tryz.prog w = .ok (.enter fn args) w)
    (hC0 : Cp w) (hCp : ∀ w w' T, Cp w → Turn T w w' → (∀ q, Xc q → ¬ T q) → Cp w') (hXc : ∀ q, Xc q → q < w.heap.size ∧ ¬ mutP F q)
    (hin : ∀ (w1 : World) (t : Nat) (F1 : Fq) (mi gi : Nat), Pp (RepK 1) w1 g F1 (k + b.steps.length) (BuM.ahead b) → F1.gs[mi]? = some gi → mi < (BuM.ahead b).ms.length → x.m = (mi : Int) → ¬ mutP F1 t → ¬ rdP F1 t → Blk w1 t 89 (enL x).toArray → Cp w1 →
      Calls Tryz.prog fn (#[MbP.at' gi, MbP.at' t] ++ cap) w1 fun e w2 => e = .returned (.tuple #[]) ∧ Blk w2 t 89 (enL (y (BuM.at' (BuM.ahead b).ms (mi : Int)))).toArray ∧ outX (fun q => q = t) (RepK 1) w1 g F1 (k + b.steps.length + 1) { BuM.ahead b with ms := (BuM.ahead b).ms.set mi (f (BuM.at' (BuM.ahead b).ms (mi : Int))) } w2) :
    Calls Tryz.prog 87 #[MbP.at' g, .agg (enL x).toArray, .func (.func fn) #[] cap] w fun e w' => e = .returned (.agg (enL (tellE (BuM.ahead b) x y)).toArray) ∧ outQ (RepK 0) w g F (k + b.steps.length + 2) (BuM.put (tellB (BuM.ahead b) x f) (tellE (BuM.ahead b) x y)) w' := by
  have HH := hid H
  have HC := hid hC0
  have HCp := hid hCp
  have HX := hid hXc
  have HI := hid hin
  have HF := hid hcf
  clear H hC0 hCp hXc hin hcf
  unfold MbP.at'
  go_enter Tryz.func87, Tryz.ntmps87
  go_upto_region 1 with (with_reducible apply alZ' zEnP)
  simp only [Act.put, sqA, sqB, sqC]
  generalize hwa : World.alloc w _ = wa
  generalize hwb : World.alloc wa _ = wb
  generalize hwc : World.alloc wb _ = wc
  generalize hwd : World.alloc wc _ = wd
  obtain ⟨g1, hg1⟩ : ∃ n, n = w.heap.size := ⟨_, rfl⟩
  obtain ⟨g2, hg2⟩ : ∃ n, n = w.heap.size + 1 := ⟨_, rfl⟩
  obtain ⟨g3, hg3⟩ : ∃ n, n = w.heap.size + 1 + 1 := ⟨_, rfl⟩
  obtain ⟨g4, hg4⟩ : ∃ n, n = wc.heap.size := ⟨_, rfl⟩
  have ba : Below w.heap.size w wa := by rw [← hwa]; exact (Below.refl _ _).alloc (Nat.le_refl _) _
  have bb : Below wa.heap.size wa wb := by rw [← hwb]; exact (Below.refl _ _).alloc (Nat.le_refl _) _
  have bc : Below wb.heap.size wb wc := by rw [← hwc]; exact (Below.refl _ _).alloc (Nat.le_refl _) _
  have bd : Below wc.heap.size wc wd := by rw [← hwd]; exact (Below.refl _ _).alloc (Nat.le_refl _) _
  have sa1 : wa.heap.size = w.heap.size + 1 := by rw [← hwa]; simp
  have sb1 : wb.heap.size = w.heap.size + 1 + 1 := by rw [← hwb, ← sa1]; simp
  have k1 : Blk wa g1 30 #[.pointer (some ⟨g, 0, none⟩)] := by rw [← hwa, hg1]; exact Blk.new _ _ _
  have k2 : Blk wb g2 89 (enL x).toArray := by rw [← hwb, hg2, ← sa1]; exact Blk.new _ _ _
  have k3 : Blk wc g3 179 #[.func (.func fn) #[] cap] := by rw [← hwc, hg3, ← sb1]; exact Blk.new _ _ _
  have k4 : Blk wd g4 89 (enL enP0).toArray := by rw [← hwd, hg4]; exact Blk.new _ _ _
  have sa := ba.size
  have sb := bb.size
  have sc := bc.size
  have BEL := hid (((ba.trans (bb.mono sa)).trans (bc.mono (Nat.le_trans sa sb))).trans (bd.mono (Nat.le_trans sa (Nat.le_trans sb sc))))
  have K1 := hid (((k1.below bb k1.lt).below bc (Nat.lt_of_lt_of_le k1.lt sb)).below bd (Nat.lt_of_lt_of_le k1.lt (Nat.le_trans sb sc)))
  have K2 := hid ((k2.below bc k2.lt).below bd (Nat.lt_of_lt_of_le k2.lt sc))
  have K3 := hid (k3.below bd k3.lt)
  have K4 := hid k4
  rw [← hg4, ← hg3, ← hg2, ← hg1]
  have n1 : ¬ mutP F g1 := fun e => by have := HH.out.mlt g1 e; omega
  have n3 : ¬ mutP F g3 := fun e => by have := HH.out.mlt g3 e; omega
  have n4 : ¬ mutP F g4 ∧ ¬ rdP F g4 := ⟨fun e => by have := HH.out.mlt g4 e; omega, fun e => by have := HH.out.ilt g4 e; omega⟩
  have h4w := hid (show w.heap.size ≤ g4 by omega)
  have q1 : wd.cell? ⟨g1, 0, none⟩ = some (.pointer (some ⟨g, 0, none⟩)) := K1.out.cell 0
  clear sa1 sb1 hwa hwb hwc hwd hg1 hg2 hg3 hg4 ba bb bc bd k1 k2 k3 k4 sa sb sc
  have H1 := hid (HH.out.belowK BEL.out)
  go_wp2_with ((with_reducible apply ldR (cs := (enL x).toArray) (tEnP x)); rfl; exact K2.out.whole)
  clear q1
  refine (lb_ofmIo H1.out hk HF.out K1.out K3.out n1 n3 (HCp.out _ _ _ HC.out (Turn.of_new (S := fun _ => False) BEL.out) fun _ _ e => e) HCp.out (fun q e => ⟨Nat.lt_of_lt_of_le (HX.out q e).1 BEL.out.size, (HX.out q e).2⟩) HI.out).mono ?_
  rintro e w2 ⟨rfl, ho⟩
  obtain ⟨F2, hP2, hC2⟩ := Come.ofQ ho
  have K4' := hid (K4.out.turn hC2.2.2.2.2 fun e => e.elim n4.1 id)
  have h4l := K4.out.lt
  have n5 : ¬ mutP F2 g4 ∧ ¬ rdP F2 g4 := ⟨fun e => by
    rcases hC2.2.2.1 g4 e with y | y
    · exact n4.1 y
    · omega, fun e => by
    rcases hC2.2.2.2.1 g4 e with y | y | y
    · exact n4.1 y
    · exact n4.2 y
    · omega⟩
  have P2 := hid hP2
  have C2 := hid ((Come.refl (fun _ => False) F BEL.out).trans hC2 fun _ e => e.elim)
  obtain ⟨z, hz⟩ : ∃ z, z = tellE (BuM.ahead b) x y := ⟨_, rfl⟩
  have HZ := hid hz
  rw [← hz] at hP2
  clear ho hP2 hC2 K1 K2 K3 K4 H1 HC HI HF HX HCp h4l n4 n1 n3 hz
  rw [← HZ.out]
  go_wp2_with ((with_reducible apply stR (tEnP z)); rfl; rfl; exact K4'.out; exact en_size _ _; exact en_one' _)
  generalize hw6 : World.setRow w2 _ _ = w6
  have R6 := hid (show Blk w6 g4 89 (enL z).toArray by rw [← hw6]; exact K4'.out.setRow_same _)
  have T6 := hid (show Turn (fun q => q = g4) w2 w6 by rw [← hw6]; exact Turn.setRow _ _ _ rfl)
  have P6 := hid (P2.out.turnK T6.out fun q e x => by rw [x] at e; exact e.elim n5.1 n5.2)
  have C6 := hid (show Come (fun _ => False) w F w6 F2 from C2.out.trans (Come.touch (X := fun q => q = g4) _ F2 T6.out fun q e => .inl e) fun q e => .inr (e ▸ h4w.out))
  clear hw6 P2 C2 K4' n5
  apply ret_row' (tEnP z) Tryz.results87
  · rfl
  · rfl
  · exact R6.out
  have h9 := C6.out.toQ P6.out
  exact ⟨by rw [HZ.out], h9⟩
end
end BuP
end Go.Proofs.YtklmjdhhnnanoaaGreatDoor
set_option maxRecDepth 100000
namespace Go.Proofs.YtklmjdhhnnanoaaGreatDoor
open Go.ChangeShapes Go.WideShapes Go.ChangeAt Go.RowKit
attribute [local go_sem] Gives GivesE
namespace BuP
open BuM MbM MbP MpV
section
variable {ops : Array Oper} {Q : Exit → Act → World → Prop} {a : Act} {w : World} {rest : List Oper} {dst : Option Tmp} {ty : TypeId} {pos : String} {after : Array Edge} {x y z : Operand} {m i : Int} {s : Nat → Nat}
theorem wbpRd (hx : a.eval x = .int .i64 m) (hy : a.eval y = .int .i64 i) (hk : wpList Tryz.prog ops Q rest (a.put dst (.agg (enL ⟨1, m, i, fun _ => 0, 0⟩).toArray)) w) : wpList Tryz.prog ops Q (⟨dst, .build 89 #[(0, .const (.int .i64 1)), (1, x), (2, y)], ty, pos, after, none⟩ :: rest) a w := by
  have hr : (Instr.build 89 #[(0, .int .i64 1), (1, .int .i64 m), (2, .int .i64 i)]).run Tryz.prog w = .ok (.agg (enL ⟨1, m, i, fun _ => 0, 0⟩).toArray) w := run_build w _ _ _ (by kernel_rfl)
  have hm : (#[(0, .const (.int .i64 1)), (1, x), (2, y)] : Array (Nat × Operand)).map (fun (i, x) => (i, a.eval x)) = #[(0, .int .i64 1), (1, .int .i64 m), (2, .int .i64 i)] := by
    simp only [List.map_toArray, List.map_cons, List.map_nil, hx, hy]; rfl
  refine wpList_plain rfl fun K hK => ?_
  unfold Oper.wp execOp
  simp only [Sem.run_bind, hm, hr, Result.andThen_ok, Sem.run_pure]
  exact hK _ _ hk
theorem wbpWr (hx : a.eval x = .int .i64 m) (hy : a.eval y = .int .i64 i) (hz : a.eval z = .agg (ar 64 s)) (hk : wpList Tryz.prog ops Q rest (a.put dst (.agg (enL ⟨2, m, i, s, 0⟩).toArray)) w) : wpList Tryz.prog ops Q (⟨dst, .build 89 #[(0, .const (.int .i64 2)), (1, x), (2, y), (3, z)], ty, pos, after, none⟩ :: rest) a w := by
  have hr : (Instr.build 89 #[(0, .int .i64 2), (1, .int .i64 m), (2, .int .i64 i), (3, .agg (ar 64 s))]).run Tryz.prog w = .ok (.agg (enL ⟨2, m, i, s, 0⟩).toArray) w := run_build w _ _ _ (by kernel_rfl)
  have hm : (#[(0, .const (.int .i64 2)), (1, x), (2, y), (3, z)] : Array (Nat × Operand)).map (fun (i, x) => (i, a.eval x)) = #[(0, .int .i64 2), (1, .int .i64 m), (2, .int .i64 i), (3, .agg (ar 64 s))] := by
    simp only [List.map_toArray, List.map_cons, List.map_nil, hx, hy, hz]; rfl
  refine wpList_plain rfl fun K hK => ?_
  unfold Oper.wp execOp
  simp only [Sem.run_bind, hm, hr, Result.andThen_ok, Sem.run_pure]
  exact hK _ _ hk
theorem wbpFl (hx : a.eval x = .int .i64 m) (hk : wpList Tryz.prog ops Q rest (a.put dst (.agg (enL ⟨3, m, 0, fun _ => 0, 0⟩).toArray)) w) : wpList Tryz.prog ops Q (⟨dst, .build 89 #[(0, .const (.int .i64 3)), (1, x)], ty, pos, after, none⟩ :: rest) a w := by
  have hr : (Instr.build 89 #[(0, .int .i64 3), (1, .int .i64 m)]).run Tryz.prog w = .ok (.agg (enL ⟨3, m, 0, fun _ => 0, 0⟩).toArray) w := run_build w _ _ _ (by kernel_rfl)
  have hm : (#[(0, .const (.int .i64 3)), (1, x)] : Array (Nat × Operand)).map (fun (i, x) => (i, a.eval x)) = #[(0, .int .i64 3), (1, .int .i64 m)] := by
    simp only [List.map_toArray, List.map_cons, List.map_nil, hx]; rfl
  refine wpList_plain rfl fun K hK => ?_
  unfold Oper.wp execOp
  simp only [Sem.run_bind, hm, hr, Result.andThen_ok, Sem.run_pure]
  exact hK _ _ hk
theorem wfldE {E : BuM.Ent} (hx : a.eval x = .agg (enL E).toArray) (hk : wpList Tryz.prog ops Q rest (a.put dst (.int .i64 E.e)) w) : wpList Tryz.prog ops Q (⟨dst, .field 89 x 4, ty, pos, after, none⟩ :: rest) a w := by
  have hr : (Instr.field 89 (.agg (enL E).toArray) 4).run Tryz.prog w = .ok (.int .i64 E.e) w := by kernel_rfl
  refine wpList_plain rfl fun K hK => ?_
  unfold Oper.wp execOp
  simp only [hx, hr, Sem.run_bind, Result.andThen_ok, Sem.run_pure]
  exact hK _ _ hk
end
section
variable {w w' : World} {d g k : Nat} {F : Fq} {b : Bs}
theorem hcf_rd (args : Array Value) (w : World) : (callFunc 93 args).run Tryz.prog w = .ok (.enter 93 args) w := by
  simp [callFunc, Tryz.func93, Tryz.f93]
theorem hcf_wr (args : Array Value) (w : World) : (callFunc 88 args).run Tryz.prog w = .ok (.enter 88 args) w := by
  simp [callFunc, Tryz.func88, Tryz.f88]
theorem hcf_fl (args : Array Value) (w : World) : (callFunc 90 args).run Tryz.prog w = .ok (.enter 90 args) w := by
  simp [callFunc, Tryz.func90, Tryz.f90]
theorem told_out {w2 w3 : World} {t mi gi : Nat} {st st' : St} {x y : BuM.Ent} (H : Pp (RepK d) w g F k b) (hgi : F.gs[mi]? = some gi) (hst : BuM.at' b.ms (mi : Int) = st) (hm : mi < b.ms.length) (nt : ¬ mutP F t ∧ ¬ rdP F t) (bt : Blk w t 89 (enL x).toArray) (ho : outP RepM w gi (F.Ms mi) (F.Is mi) (k + 1) st' w2) (hok : st'.ok)
    (ht : Turn (fun q => q = t) w2 w3) (hb : Blk w2 t 89 (enL x).toArray → Blk w3 t 89 (enL y).toArray) : Blk w3 t 89 (enL y).toArray ∧ outX (fun q => q = t) (RepK d) w g F (k + 1) { b with ms := b.ms.set mi st' } w3 := by
  obtain ⟨F2, hP, hC⟩ := Come.ofQ (Pp.put (repB := RepK d) (repK_fr d) H hgi ho (Nat.le_succ _) hok)
  have hl := bt.lt
  have n2 : ¬ mutP F2 t ∧ ¬ rdP F2 t := ⟨fun e => (hC.2.2.1 t e).elim nt.1 fun y => by omega, fun e => by
    rcases hC.2.2.2.1 t e with y | y | y
    · exact nt.1 y
    · exact nt.2 y
    · omega⟩
  refine ⟨hb (bt.turn hC.2.2.2.2 fun e => e.elim nt.1 id), ?_⟩
  exact (Come.trans (X := fun q => q = t) (Come.trans (X := fun q => q = t) (Come.refl _ F (Below.refl _ _)) hC fun _ e => e.elim) (Come.touch (X := fun q => q = t) _ F2 ht fun q e => .inl e) fun q e => .inl e).toX (hP.turnK ht fun q e x => by rw [x] at e; exact e.elim n2.1 n2.2)
end
end BuP
end Go.Proofs.YtklmjdhhnnanoaaGreatDoor
set_option maxRecDepth 100000
namespace Go.Proofs.YtklmjdhhnnanoaaGreatDoor
open Go.ChangeShapes Go.WideShapes Go.ChangeAt Go.RowKit
attribute [local go_sem] Gives GivesE
namespace BuP
open BuM MbM MbP MpV
section
variable {w w' : World} {d g k : Nat} {F : Fq} {b : Bs}
set_option maxRecDepth 100000 in
theorem lb_rd1 {t mi gi gI : Nat} {m i : Int} {T1 : TypeId} (H : Pp (RepK d) w g F k b) (hk : k ≤ 210000) (hgi : F.gs[mi]? = some gi) (hm : mi < b.ms.length) (n1 : ¬ mutP F t) (n2 : ¬ rdP F t) (bt : Blk w t 89 (enL ⟨1, m, i, fun _ => 0, 0⟩).toArray) (bi : Blk w gI T1 #[.int .i64 i]) :
    Calls Tryz.prog 93 #[MbP.at' gi, MbP.at' t, .pointer (some ⟨gI, 0, none⟩)] w fun e w2 => e = .returned (.tuple #[]) ∧ Blk w2 t 89 (enL ⟨1, m, i, rdS (BuM.at' b.ms (mi : Int)) i, rdE (BuM.at' b.ms (mi : Int)) i⟩).toArray ∧
      outX (fun q => q = t) (RepK d) w g F (k + 1) { b with ms := b.ms.set mi (BuM.at' b.ms (mi : Int)) } w2 := by
  obtain ⟨gi', st, A, c, bA, oA, h1, h2, h3, h4, _, _, _, _⟩ := H.at hm
  rw [hgi] at h1
  cases h1
  rw [h4]
  have HH := hid H
  have R := hid h3
  have hok := hid (H.ok.1 st (List.mem_of_getElem? h2))
  have BT := hid bt
  have q1 : w.cell? ⟨gI, 0, none⟩ = some (.int .i64 i) := bi.cell 0
  have HG := hid hgi
  have HS := hid h4
  have N := hid (And.intro n1 n2)
  clear H h2 h3 h4 bt bi hgi n1 n2
  unfold MbP.at'
  go_enter Tryz.func93, Tryz.ntmps93
  go_wp2_with fail
  refine (MbP.memB_ok.read R.out hok.out hk i).mono ?_
  rintro e w2 ⟨rfl, hb⟩
  obtain ⟨sv, hsv⟩ : ∃ s, s = rdS st i := ⟨_, rfl⟩
  obtain ⟨ev, hev⟩ : ∃ s, s = rdE st i := ⟨_, rfl⟩
  have B2 := hid (BT.out.below hb BT.out.lt)
  have th := hid (show w2.there t 3 (ar 64 sv).size by rw [size_ar]; exact en_there (o := 3) (n := 64) B2.out (by omega))
  have B3 := hid (en_setS B2.out sv)
  have HF := hid (fun (w3 : World) (ht : Turn (fun q => q = t) w2 w3) (h5 : Blk w3 t 89 (enL ⟨1, m, i, sv, ev⟩).toArray) =>
    told_out (y := ⟨1, m, i, sv, ev⟩) HH.out HG.out HS.out hm N.out BT.out (st' := st) ⟨_, _, MbP.memB_ok.mono (MbP.memB_ok.frame R.out (T := fun _ => False) (Turn.of_new hb) fun _ _ e => e) (Nat.le_succ _), fun _ e => .inl e, fun _ e => .inr (.inl e), Turn.of_new hb⟩ hok.out ht fun _ => h5)
  have HSV := hid hsv
  have HEV := hid hev
  rw [← hsv, ← hev]
  clear q1 R BT hb HH hsv hev
  have q67 : (w2.setCells t 3 (ar 64 sv).toList).cell? ⟨t, 67, none⟩ = some (.int .i64 0) := en_qe B3.out
  have fz := B3.out.frozen 67
  have ts := turn_setCells (g := t) (ar 64 sv).toList 3 w2
  have tu := Turn.setCell (S := fun q => q = t) (w2.setCells t 3 (ar 64 sv).toList) ⟨t, 67, none⟩ (.int .i64 ev) rfl
  have E4 := hid (HF.out _ (ts.trans tu fun q e => .inl e) (en_setE B3.out ev))
  clear ts tu HF
  go_wp2_with ((with_reducible apply stRM (cs := ar 64 sv) tSeR); rfl; rfl; exact th.out; exact ar_one)
  refine bodyPost_end (results_none rfl _ _ _) rfl ?_
  exact ⟨rfl, by have h9 := E4.out; have h8 := HEV.out; have h7 := HSV.out; subst h8; subst h7; exact h9⟩
set_option maxRecDepth 100000 in
theorem lb_wr1 {t mi gi gI gX : Nat} {m i : Int} {x : Nat → Nat} {T1 T2 : TypeId} (H : Pp (RepK d) w g F k b) (hk : k ≤ 210000) (hx : ∀ j, x j < 256) (hgi : F.gs[mi]? = some gi) (hm : mi < b.ms.length) (n1 : ¬ mutP F t) (n2 : ¬ rdP F t) (bt : Blk w t 89 (enL ⟨2, m, i, x, 0⟩).toArray) (bi : Blk w gI T1 #[.int .i64 i]) (bx : Blk w gX T2 (ar 64 x)) :
    Calls Tryz.prog 88 #[MbP.at' gi, MbP.at' t, .pointer (some ⟨gI, 0, none⟩), .pointer (some ⟨gX, 0, none⟩)] w fun e w2 => e = .returned (.tuple #[]) ∧ Blk w2 t 89 (enL ⟨2, m, i, x, rdE (BuM.at' b.ms (mi : Int)) i⟩).toArray ∧
      outX (fun q => q = t) (RepK d) w g F (k + 1) { b with ms := b.ms.set mi (wrT (BuM.at' b.ms (mi : Int)) i x) } w2 := by
  obtain ⟨gi', st, A, c, bA, oA, h1, h2, h3, h4, _, _, _, _⟩ := H.at hm
  rw [hgi] at h1
  cases h1
  rw [h4]
  have HH := hid H
  have R := hid h3
  have hok := hid (H.ok.1 st (List.mem_of_getElem? h2))
  have BT := hid bt
  have BX := hid bx
  have q1 : w.cell? ⟨gI, 0, none⟩ = some (.int .i64 i) := bi.cell 0
  have HG := hid hgi
  have HS := hid h4
  have N := hid (And.intro n1 n2)
  have HX := hid hx
  clear H h2 h3 h4 bt bi bx hgi n1 n2 hx
  unfold MbP.at'
  go_enter Tryz.func88, Tryz.ntmps88
  go_wp2_with ((with_reducible apply ldA tSe); rfl; exact BX.out)
  refine (MbP.memB_ok.write R.out hok.out hk i x HX.out).mono ?_
  rintro e w2 ⟨rfl, ho⟩
  obtain ⟨ev, hev⟩ : ∃ s, s = rdE st i := ⟨_, rfl⟩
  have HO := hid ho
  have tn : Blk w2 t 89 (enL ⟨2, m, i, x, 0⟩).toArray := by
    obtain ⟨M', I', _, _, _, ht⟩ := ho
    exact BT.out.turn ht fun e => N.out.1 (.inr (.inr ⟨mi, (List.getElem?_eq_some_iff.1 HG.out).1, e⟩))
  have B2 := hid tn
  have HEV := hid hev
  rw [← hev]
  clear q1 R ho tn hev BX
  have q67 : w2.cell? ⟨t, 67, none⟩ = some (.int .i64 0) := en_qe B2.out
  have fz := B2.out.frozen 67
  have tu := Turn.setCell (S := fun q => q = t) w2 ⟨t, 67, none⟩ (.int .i64 ev) rfl
  have E4 := hid (told_out (y := ⟨2, m, i, x, ev⟩) HH.out HG.out HS.out hm N.out BT.out HO.out (wr_ok hok.out i HX.out) tu fun h => en_setE h ev)
  clear tu HO HH
  go_wp2_with fail
  refine bodyPost_end (results_none rfl _ _ _) rfl ?_
  exact ⟨rfl, by have h9 := E4.out; have h8 := HEV.out; subst h8; exact h9⟩
set_option maxRecDepth 100000 in
theorem lb_fl1 {t mi gi : Nat} {m : Int} (H : Pp (RepK d) w g F k b) (hk : k ≤ 210000) (hgi : F.gs[mi]? = some gi) (hm : mi < b.ms.length) (n1 : ¬ mutP F t) (n2 : ¬ rdP F t) (bt : Blk w t 89 (enL ⟨3, m, 0, fun _ => 0, 0⟩).toArray) :
    Calls Tryz.prog 90 #[MbP.at' gi, MbP.at' t] w fun e w2 => e = .returned (.tuple #[]) ∧ Blk w2 t 89 (enL ⟨3, m, 0, fun _ => 0, MbM.flE (BuM.at' b.ms (mi : Int))⟩).toArray ∧
      outX (fun q => q = t) (RepK d) w g F (k + 1) { b with ms := b.ms.set mi (MbM.flT (BuM.at' b.ms (mi : Int))) } w2 := by
  obtain ⟨gi', st, A, c, bA, oA, h1, h2, h3, h4, _, _, _, _⟩ := H.at hm
  rw [hgi] at h1
  cases h1
  rw [h4]
  have HH := hid H
  have R := hid h3
  have hok := hid (H.ok.1 st (List.mem_of_getElem? h2))
  have BT := hid bt
  have HG := hid hgi
  have HS := hid h4
  have N := hid (And.intro n1 n2)
  clear H h2 h3 h4 bt hgi n1 n2
  unfold MbP.at'
  go_enter Tryz.func90, Tryz.ntmps90
  go_wp2_with fail
  refine (MbP.memB_ok.flush R.out hok.out hk).mono ?_
  rintro e w2 ⟨rfl, ho⟩
  obtain ⟨ev, hev⟩ : ∃ s, s = MbM.flE st := ⟨_, rfl⟩
  have HO := hid ho
  have tn : Blk w2 t 89 (enL ⟨3, m, 0, fun _ => 0, 0⟩).toArray := by
    obtain ⟨M', I', _, _, _, ht⟩ := ho
    exact BT.out.turn ht fun e => N.out.1 (.inr (.inr ⟨mi, (List.getElem?_eq_some_iff.1 HG.out).1, e⟩))
  have B2 := hid tn
  have HEV := hid hev
  rw [← hev]
  clear R ho tn hev
  have q67 : w2.cell? ⟨t, 67, none⟩ = some (.int .i64 0) := en_qe B2.out
  have fz := B2.out.frozen 67
  have tu := Turn.setCell (S := fun q => q = t) w2 ⟨t, 67, none⟩ (.int .i64 ev) rfl
  have E4 := hid (told_out (y := ⟨3, m, 0, fun _ => 0, ev⟩) HH.out HG.out HS.out hm N.out BT.out HO.out (fl_ok hok.out) tu fun h => en_setE h ev)
  clear tu HO HH
  go_wp2_with fail
  refine bodyPost_end (results_none rfl _ _ _) rfl ?_
  exact ⟨rfl, by have h9 := E4.out; have h8 := HEV.out; subst h8; exact h9⟩
end
end BuP
end Go.Proofs.YtklmjdhhnnanoaaGreatDoor
set_option maxRecDepth 100000
namespace Go.Proofs.YtklmjdhhnnanoaaGreatDoor
open Go.ChangeShapes Go.WideShapes Go.ChangeAt Go.RowKit
attribute [local go_sem] Gives GivesE
namespace BuP
open BuM MbM MbP MpV
section
variable {w w' : World} {d g k : Nat} {F : Fq} {b : Bs}
theorem tell_rd (b : Bs) (m i : Int) : tellE b ⟨1, m, i, fun _ => 0, 0⟩ (fun st => ⟨1, m, i, rdS st i, rdE st i⟩) = rdB b m i := by
  unfold tellE rdB
  split <;> rfl
theorem tell_id (b : Bs) (x : BuM.Ent) : tellB b x (fun st => st) = b := by
  unfold tellB
  split
  · unfold BuM.upd
    rw [lb_setAt]
  · rfl
theorem tell_wr (b : Bs) (m i : Int) (x : Nat → Nat) : tellE b ⟨2, m, i, x, 0⟩ (fun st => ⟨2, m, i, x, rdE st i⟩) = wrB b m i x := by
  unfold tellE wrB
  show (if BuM.may b m = 0 then _ else _) = _
  split <;> rfl
theorem tell_fl (b : Bs) (m : Int) : tellE b ⟨3, m, 0, fun _ => 0, 0⟩ (fun st => ⟨3, m, 0, fun _ => 0, MbM.flE st⟩) = flB b m := by
  unfold tellE flB
  show (if BuM.may b m = 0 then _ else _) = _
  split <;> rfl
theorem lb_ofmRd {gI : Nat} (H : Pp (RepK 0) w g F k b) (hk : k + b.steps.length + 2 ≤ 200000) (m i : Int) (bi : Blk w gI 3 #[.int .i64 i]) (ni : ¬ mutP F gI) :
    Calls Tryz.prog 87 #[MbP.at' g, .agg (enL ⟨1, m, i, fun _ => 0, 0⟩).toArray, .func (.func 93) #[] #[.pointer (some ⟨gI, 0, none⟩)]] w fun e w' => e = .returned (.agg (enL (rdB (BuM.ahead b) m i)).toArray) ∧ outQ (RepK 0) w g F (k + b.steps.length + 2) (BuM.rdT b m i) w' := by
  have h := lb_ofm (Xc := fun q => q = gI) (Cp := fun w => Blk w gI 3 #[.int .i64 i]) (cap := #[.pointer (some ⟨gI, 0, none⟩)]) (x := ⟨1, m, i, fun _ => 0, 0⟩) (y := fun st => ⟨1, m, i, rdS st i, rdE st i⟩) (f := fun st => st) H hk hcf_rd bi (fun w w' T h1 h2 h3 => h1.turn h2 (h3 gI rfl)) (fun q e => by rw [e]; exact ⟨bi.lt, ni⟩)
    fun w1 t F1 mi gi hP hg hm hx n1 n2 bt bc => lb_rd1 hP (by have := hP.sz; omega) hg hm n1 n2 bt bc
  rw [tell_rd, tell_id] at h
  exact h
theorem lb_ofmWr {gI gX : Nat} (H : Pp (RepK 0) w g F k b) (hk : k + b.steps.length + 2 ≤ 200000) (m i : Int) (x : Nat → Nat) (hx : ∀ j, x j < 256) (bi : Blk w gI 3 #[.int .i64 i]) (bx : Blk w gX 37 (ar 64 x)) (ni : ¬ mutP F gI) (nx : ¬ mutP F gX) :
    Calls Tryz.prog 87 #[MbP.at' g, .agg (enL ⟨2, m, i, x, 0⟩).toArray, .func (.func 88) #[] #[.pointer (some ⟨gI, 0, none⟩), .pointer (some ⟨gX, 0, none⟩)]] w fun e w' => e = .returned (.agg (enL (wrB (BuM.ahead b) m i x)).toArray) ∧ outQ (RepK 0) w g F (k + b.steps.length + 2) (BuM.wrT b m i x) w' := by
  have h := lb_ofm (Xc := fun q => q = gI ∨ q = gX) (Cp := fun w => Blk w gI 3 #[.int .i64 i] ∧ Blk w gX 37 (ar 64 x)) (cap := #[.pointer (some ⟨gI, 0, none⟩), .pointer (some ⟨gX, 0, none⟩)]) (x := ⟨2, m, i, x, 0⟩) (y := fun st => ⟨2, m, i, x, rdE st i⟩) (f := fun st => MbM.wrT st i x) H hk hcf_wr ⟨bi, bx⟩ (fun w w' T h1 h2 h3 => ⟨h1.1.turn h2 (h3 gI (.inl rfl)), h1.2.turn h2 (h3 gX (.inr rfl))⟩) (fun q e => by rcases e with e | e <;> rw [e] <;> first | exact ⟨bi.lt, ni⟩ | exact ⟨bx.lt, nx⟩)
    fun w1 t F1 mi gi hP hg hm _ n1 n2 bt bc => lb_wr1 hP (by have := hP.sz; omega) hx hg hm n1 n2 bt bc.1 bc.2
  rw [tell_wr] at h
  exact h
theorem lb_ofmFl (H : Pp (RepK 0) w g F k b) (hk : k + b.steps.length + 2 ≤ 200000) (m : Int) :
    Calls Tryz.prog 87 #[MbP.at' g, .agg (enL ⟨3, m, 0, fun _ => 0, 0⟩).toArray, .func (.func 90) #[] #[]] w fun e w' => e = .returned (.agg (enL (flB (BuM.ahead b) m)).toArray) ∧ outQ (RepK 0) w g F (k + b.steps.length + 2) (BuM.flT b m) w' := by
  have h := lb_ofm (Xc := fun _ => False) (Cp := fun _ => True) (cap := #[]) (x := ⟨3, m, 0, fun _ => 0, 0⟩) (y := fun st => ⟨3, m, 0, fun _ => 0, MbM.flE st⟩) (f := fun st => MbM.flT st) H hk hcf_fl trivial (fun _ _ _ _ _ _ => trivial) (fun q e => e.elim)
    fun w1 t F1 mi gi hP hg hm _ n1 n2 bt _ => lb_fl1 hP (by have := hP.sz; omega) hg hm n1 n2 bt
  rw [tell_fl] at h
  exact h
set_option maxHeartbeats 600000 in
set_option maxRecDepth 100000 in
theorem lb_read (H : Pp (RepK 0) w g F k b) (hk : k + b.steps.length + 2 ≤ 200000) (m i : Int) : Calls Tryz.prog 64 #[MbP.at' g, .int .i64 m, .int .i64 i] w fun e w' => e = .returned (.tuple #[.agg (ar 64 (BuM.rdB (BuM.ahead b) m i).s), .int .i64 (BuM.rdB (BuM.ahead b) m i).e]) ∧ outQ (RepK 0) w g F (k + b.steps.length + 2) (BuM.rdT b m i) w' := by
  have HH := hid H
  clear H
  unfold MbP.at'
  go_enter Tryz.func64, Tryz.ntmps64
  go_upto_region 1 with (with_reducible apply alA tSe)
  try simp only [Act.put, sqA, sqB, sqC]
  generalize hw0 : World.alloc w _ = w0
  generalize hw1 : World.alloc w0 _ = w1
  obtain ⟨gI, hgI⟩ : ∃ n, n = w.heap.size := ⟨_, rfl⟩
  obtain ⟨gR, hgR⟩ : ∃ n, n = w.heap.size + 1 := ⟨_, rfl⟩
  have hs0 : w0.heap.size = w.heap.size + 1 := by rw [← hw0]; simp
  have bI := hid (show Blk w1 gI 3 #[.int .i64 i] by rw [← hw1, ← hw0, hgI]; exact (Blk.new _ _ _).alloc _)
  have bR := hid (show Blk w1 gR 37 (ar 64 fun _ => 0) by rw [← hw1, hgR, ← hs0]; exact Blk.new _ _ _)
  have BEL := hid (show Below w.heap.size w w1 by rw [← hw1, ← hw0]; exact ((Below.refl _ _).alloc (Nat.le_refl _) _).alloc (by simp) _)
  have nI : ¬ mutP F gI := fun e => by have := HH.out.mlt gI e; omega
  have nR : ¬ mutP F gR ∧ ¬ rdP F gR := ⟨fun e => by have := HH.out.mlt gR e; omega, fun e => by have := HH.out.ilt gR e; omega⟩
  have hRw := hid (show w.heap.size ≤ gR by omega)
  rw [← hgR, ← hgI]
  clear hw1 hw0 hs0 hgI hgR
  have H1 := hid (HH.out.belowK BEL.out)
  have qI : w1.cell? ⟨gI, 0, none⟩ = some (.int .i64 i) := bI.out.cell 0
  go_wp2_with ((with_reducible apply wbpRd); rfl; rfl)
  refine (lb_ofmRd H1.out hk m i bI.out nI).mono ?_
  rintro e w2 ⟨rfl, ho⟩
  obtain ⟨z, hz⟩ : ∃ z, z = rdB (BuM.ahead b) m i := ⟨_, rfl⟩
  have HZ := hid hz
  obtain ⟨F2, hP2, hC2⟩ := Come.ofQ ho
  have R2 := hid (bR.out.turn hC2.2.2.2.2 fun e => e.elim nR.1 id)
  have hrl := bR.out.lt
  have n2 : ¬ mutP F2 gR ∧ ¬ rdP F2 gR := ⟨fun e => (hC2.2.2.1 gR e).elim nR.1 fun y => by omega, fun e => by
    rcases hC2.2.2.2.1 gR e with y | y | y
    · exact nR.1 y
    · exact nR.2 y
    · omega⟩
  have P2 := hid hP2
  have C2 := hid ((Come.refl (fun _ => False) F BEL.out).trans hC2 fun _ e => e.elim)
  have hrl2 := R2.out.lt
  rw [← hz]
  clear qI ho hP2 hC2 bI bR H1 hrl nI nR hz
  go_upto_region 2 with (first | (with_reducible apply alZ' zEnP) | ((with_reducible apply stR (tEnP z)); rfl; rfl; exact Blk.new _ _ _; exact en_size _ _; exact en_one' _))
  generalize hw3 : World.setRow _ _ _ = w3
  obtain ⟨gE, hgE⟩ : ∃ n, n = w2.heap.size := ⟨_, rfl⟩
  have B3 := hid (show Below w2.heap.size w2 w3 by rw [← hw3]; exact below_setRow ((Below.refl _ _).alloc (Nat.le_refl _) _) (Nat.le_refl _) _)
  have E3 := hid (show Blk w3 gE 89 (enL z).toArray by rw [← hw3, hgE]; exact (Blk.new w2 _ _).setRow_same _)
  have hER : gR ≠ gE := by omega
  rw [← hgE]
  clear hw3 hgE
  have R3 := hid (R2.out.below B3.out hrl2)
  have P3 := hid (P2.out.belowK B3.out)
  have C3 := hid (C2.out.trans (Come.refl (fun _ => False) F2 B3.out) fun _ e => e.elim)
  clear R2 P2 C2 B3 hrl2
  refine wp_region_c (S := yS [some (.pointer (some ⟨gE, 3, none⟩)), some (.agg (ar 64 z.s)), some (.pointer (some ⟨gE, 67, none⟩)), some (.int .i64 z.e), some undef, some (.int .i64 z.e)] []) (C := fun d vs w' => ResC w3 gR z.s (d 4) w') 6 (by kernel_rfl) (by kernel_rfl) (by kernel_rfl) _
    (yS_ok _ fun y hy => by cases hy) ⟨Turn.drew _, R3.out.drew⟩ fun vs => ?_
  simp only [List.take_succ_cons, List.take_zero, List.drop_succ_cons, List.drop_zero]
  refine ⟨.inl ⟨rfl, fun dd w' hd hnx hw hC => ?_⟩, fun e => ?_⟩
  · go_simp
    first | exact ⟨rfl, hC⟩ | exact hC
  have e' : vs 0 = _ := e
  rw [e']
  clear e e'
  simp only [Act.put, sqA, sqB, sqC]
  refine ⟨.inl ⟨rfl, fun dd w' hd hnx hw hC => ?_⟩, fun e => ?_⟩
  · exact gE_ldA tSe rfl (en_qs (E3.out.turn hC.t fun e => hER e.symm)) ⟨rfl, hC⟩
  have e' : vs 1 = _ := e
  rw [e']
  clear e e'
  simp only [Act.put, sqA, sqB, sqC]
  refine ⟨.inl ⟨rfl, fun dd w' hd hnx hw hC => ?_⟩, fun e => ?_⟩
  · go_simp
    first | exact ⟨rfl, hC⟩ | exact hC
  have e' : vs 2 = _ := e
  rw [e']
  clear e e'
  simp only [Act.put, sqA, sqB, sqC]
  refine ⟨.inl ⟨rfl, fun dd w' hd hnx hw hC => ?_⟩, fun e => ?_⟩
  · have h1 : w'.cell? ⟨gE, 67, none⟩ = some (.int .i64 z.e) := en_qe (E3.out.turn hC.t fun e => hER e.symm)
    go_simp
    first | exact ⟨rfl, hC⟩ | exact hC
  have e' : vs 3 = _ := e
  rw [e']
  clear e e'
  simp only [Act.put, sqA, sqB, sqC]
  refine ⟨.inl ⟨rfl, fun dd w' hd hnx hw hC => ?_⟩, fun e => ?_⟩
  · with_reducible refine gE_stA (n := 64) (f0 := if dd 4 then z.s else fun _ => 0) (f := z.s) (g := gR) (t := 37) ?_ ?_ ?_ ?_ ?_
    · exact tSe
    · rfl
    · rfl
    · exact hC.b
    · exact ⟨rfl, hC.put⟩
  have e' : vs 4 = _ := e
  rw [e']
  clear e e'
  simp only [Act.put, sqA, sqB, sqC]
  refine ⟨.inl ⟨rfl, fun dd w' hd hnx hw hC => ?_⟩, fun e => ?_⟩
  · go_simp
    first | exact ⟨rfl, hC⟩ | exact hC
  have e' : vs 5 = _ := e
  rw [e']
  clear e e'
  simp only [Act.put, sqA, sqB, sqC]
  intro dd wz hall hC
  have h4 : dd 4 = true := hall 4 (by omega)
  have Z := hid (show Blk wz gR 37 (ar 64 z.s) by have := hC.b; rw [h4] at this; exact this)
  have P6 := hid (P3.out.turnK hC.t fun q e x => by rw [x] at e; exact e.elim n2.1 n2.2)
  have C6 := hid (show Come (fun _ => False) w F wz F2 from C3.out.trans (Come.touch (X := fun q => q = gR) _ F2 hC.t fun q e => .inl e) fun q e => .inr (e ▸ hRw.out))
  clear hC h4 hall E3 R3 P3 C3 n2
  go_wp2_with fail
  refine retA (t := 37) (f := z.s) (h := gR) (v := .int .i64 z.e) tSe Tryz.results64 rfl rfl rfl Z.out ?_
  have h9 := C6.out.toQ P6.out
  have h8 := HZ.out
  subst h8
  exact ⟨rfl, h9⟩
set_option maxRecDepth 100000 in
theorem lb_write (H : Pp (RepK 0) w g F k b) (hk : k + b.steps.length + 2 ≤ 200000) (m i : Int) (x : Nat → Nat) (hx : ∀ j, x j < 256) : Calls Tryz.prog 57 #[MbP.at' g, .int .i64 m, .int .i64 i, .agg (ar 64 x)] w fun e w' => e = .returned (.int .i64 (BuM.wrB (BuM.ahead b) m i x).e) ∧ outQ (RepK 0) w g F (k + b.steps.length + 2) (BuM.wrT b m i x) w' := by
  have HH := hid H
  have HX := hid hx
  clear H hx
  unfold MbP.at'
  go_enter Tryz.func57, Tryz.ntmps57
  go_upto_region 1 with fail
  generalize hw0 : World.alloc w _ = w0
  generalize hw1 : World.alloc w0 _ = w1
  obtain ⟨gI, hgI⟩ : ∃ n, n = w.heap.size := ⟨_, rfl⟩
  have hs0 : w0.heap.size = w.heap.size + 1 := by rw [← hw0]; simp
  obtain ⟨gX, hgX⟩ : ∃ n, n = w.heap.size + 1 := ⟨_, rfl⟩
  have bI := hid (show Blk w1 gI 3 #[.int .i64 i] by rw [← hw1, ← hw0, hgI]; exact (Blk.new _ _ _).alloc _)
  have bX := hid (show Blk w1 gX 37 (ar 64 x) by rw [← hw1, hgX, ← hs0]; exact Blk.new _ _ _)
  have BEL := hid (show Below w.heap.size w w1 by rw [← hw1, ← hw0]; exact ((Below.refl _ _).alloc (Nat.le_refl _) _).alloc (by simp) _)
  have nI : ¬ mutP F gI := fun e => by have := HH.out.mlt gI e; omega
  have nX : ¬ mutP F gX := fun e => by have := HH.out.mlt gX e; omega
  rw [← hgX, ← hgI]
  clear hw1 hw0 hs0 hgI hgX
  have H1 := hid (HH.out.belowK BEL.out)
  have qI : w1.cell? ⟨gI, 0, none⟩ = some (.int .i64 i) := bI.out.cell 0
  go_wp2_with (first | ((with_reducible apply ldA tSe); rfl; exact bX.out) | ((with_reducible apply wbpWr (s := x)); rfl; rfl; rfl))
  refine (lb_ofmWr H1.out hk m i x HX.out bI.out bX.out nI nX).mono ?_
  rintro e w2 ⟨rfl, ho⟩
  have HO := hid (outQ.behind BEL.out ho)
  clear ho H1 bI bX qI nI nX
  go_wp2_with ((with_reducible apply wfldE (E := wrB (BuM.ahead b) m i x)); rfl)
  go_ret
  exact ⟨rfl, HO.out⟩
set_option maxRecDepth 100000 in
theorem lb_flush (H : Pp (RepK 0) w g F k b) (hk : k + b.steps.length + 2 ≤ 200000) (m : Int) : Calls Tryz.prog 59 #[MbP.at' g, .int .i64 m] w fun e w' => e = .returned (.int .i64 (BuM.flB (BuM.ahead b) m).e) ∧ outQ (RepK 0) w g F (k + b.steps.length + 2) (BuM.flT b m) w' := by
  have HH := hid H
  clear H
  unfold MbP.at'
  go_enter Tryz.func59, Tryz.ntmps59
  go_wp2_with ((with_reducible apply wbpFl); rfl)
  refine (lb_ofmFl HH.out hk m).mono ?_
  rintro e w2 ⟨rfl, ho⟩
  have HO := hid ho
  clear ho
  go_wp2_with ((with_reducible apply wfldE (E := flB (BuM.ahead b) m)); rfl)
  go_ret
  exact ⟨rfl, HO.out⟩
end
end BuP
end Go.Proofs.YtklmjdhhnnanoaaGreatDoor
set_option maxRecDepth 100000
namespace Go.Proofs.YtklmjdhhnnanoaaGreatDoor
open Go.ChangeShapes Go.WideShapes Go.ChangeAt Go.RowKit
attribute [local go_sem] Gives GivesE
namespace BuP
open BuM MbM MbP MpV
section
variable {ops : Array Oper} {Q : Exit → Act → World → Prop} {a : Act} {w : World} {rest : List Oper} {dst : Option Tmp} {ty : TypeId} {pos : String} {after : Array Edge} {d s x y : Operand} {f h : Nat → Nat} {t : TypeId} {gd : Option (Nat × Bool)}
end
end BuP
end Go.Proofs.YtklmjdhhnnanoaaGreatDoor
set_option maxRecDepth 100000
namespace Go.Proofs.YtklmjdhhnnanoaaGreatDoor
open Go.ChangeShapes Go.WideShapes Go.ChangeAt Go.RowKit
attribute [local go_sem] Gives GivesE
namespace BuP
open BuM MbM MbP MpV
section
variable {w w' : World} {d g k : Nat} {F : Fq} {b : Bs}
end
end BuP
end Go.Proofs.YtklmjdhhnnanoaaGreatDoor
set_option maxRecDepth 100000
namespace Go.Proofs.YtklmjdhhnnanoaaGreatDoor
open Go.ChangeShapes Go.WideShapes Go.ChangeAt Go.RowKit
attribute [local go_sem] Gives GivesE
namespace BuP
open BuM MbM MbP MpV
section
variable {w w' : World} {d g k : Nat} {F : Fq} {b : Bs}
def avN (c : ClP.Held) : Int := if full c then 0 else ((c.1 + 1 : Nat) : Int)
def avE (c : ClP.Held) : Int := if full c then 15 else 0
def avC (c : ClP.Held) (t : Nat → Nat) : ClP.Held := if full c then c else (c.1 + 1, t)
structure AvC (d : Nat) (w0 : World) (g : Nat) (F : Fq) (k : Nat) (b2 : Bs) (t gN : Nat) (x : BuM.Ent) (N e : Int) (d6 d10 d13 : Bool) (w' : World) : Prop where
  pre : d6 = false → Below w0.heap.size w0 w'
  post : d6 = true → ∃ F', Pp (RepK d) w' g F' k b2 ∧ Come (fun q => q = t ∨ q = gN) w0 F w' F'
  n : Blk w' gN 100 #[.int .u64 (if d10 then N else 0)]
  t : Blk w' t 89 (enL { x with e := if d13 then e else x.e }).toArray
end
end BuP
end Go.Proofs.YtklmjdhhnnanoaaGreatDoor
set_option maxRecDepth 100000
namespace Go.Proofs.YtklmjdhhnnanoaaGreatDoor
open Go.ChangeShapes Go.WideShapes Go.ChangeAt Go.RowKit
attribute [local go_sem] Gives GivesE
namespace BuP
open BuM MbM MbP MpV
section
variable {w w' : World} {d g k : Nat} {F : Fq} {b : Bs}
def kPt : Sp := ⟨fun v => ∃ q, v = .pointer (some ⟨q, 0, none⟩), fun _ _ => True, .pointer (some ⟨0, 0, none⟩)⟩
section
variable {a : Act} {dst : Option Tmp} {ty T : TypeId} {pos : String} {after : Array Edge} {gd : Option (Nat × Bool)} {z : Array Value} {R : Value → World → Prop}
end
structure AvM (w0 : World) (g : Nat) (F : Fq) (K : Nat) (b2 : Bs) (gN : Nat) (N : Int) (z : BuM.Ent) (d5 d6 d7 : Bool) (v6 : Value) (w' : World) : Prop where
  pre : d5 = false → Below w0.heap.size w0 w'
  post : d5 = true → ∃ F', Pp (RepK 0) w' g F' K b2 ∧ Come (fun q => q = gN) w0 F w' F' ∧ Blk w' gN 100 #[.int .u64 N] ∧ (d6 = true → ∀ q, v6 = .pointer (some ⟨q, 0, none⟩) → ¬ mutP F' q ∧ ¬ rdP F' q)
  var : d6 = true → ∃ q, v6 = .pointer (some ⟨q, 0, none⟩) ∧ w0.heap.size ≤ q ∧ Blk w' q 89 (enL (if d7 then z else enP0)).toArray
end
end BuP
end Go.Proofs.YtklmjdhhnnanoaaGreatDoor
set_option maxRecDepth 100000
namespace Go.Proofs.YtklmjdhhnnanoaaGreatDoor
open Go.ChangeShapes Go.WideShapes Go.ChangeAt Go.RowKit
attribute [local go_sem] Gives GivesE
namespace BuP
open BuM MbM MbP MpV
theorem lb_eqNil (A : Option Addr) (l c : Nat) (w : World) : (binOp .eql 93 (.slice A l c) (.slice none 0 0)).run Tryz.prog w = .ok (.bool A.isNone) w := Go.Lib.run_eql_slice_nil (P := Tryz.prog) w 93 5 A l c 0 0 undBy
theorem lb_eqNilP (A : Option Addr) (l c : Nat) (w : World) : (binOp .eql 31 (.slice A l c) (.slice none 0 0)).run Tryz.prog w = .ok (.bool A.isNone) w := Go.Lib.run_eql_slice_nil (P := Tryz.prog) w 31 51 A l c 0 0 Tryz.underlying31
attribute [local go_sem] lb_eqNil
set_option maxHeartbeats 400000 in
theorem lb_cloneB (A : Option Addr) (l : List Nat) (n cap : Nat) (hn : n ≤ 140737488351232) (w : World) (hA : Arg w A l n cap) :
    Calls Tryz.prog 102 #[.slice A n cap] w fun e w' => ∃ A' c', e = .returned (.slice A' n c') ∧ Arg w' A' l n c' ∧ (∀ q o, 0 < l.length → A' = some ⟨q, o, none⟩ → w.heap.size ≤ q ∧ q < w'.heap.size) ∧ Below w.heap.size w w' := by
  have HA := hid hA
  have hln := hA.len
  have hfin : ∀ (v : Value) (w' : World), Own 5 .u8 w' w.heap.size v l → Below w.heap.size w w' → ∃ A' c', Ending.returned v = .returned (.slice A' n c') ∧ Arg w' A' l n c' ∧ (∀ q o, 0 < l.length → A' = some ⟨q, o, none⟩ → w.heap.size ≤ q ∧ q < w'.heap.size) ∧ Below w.heap.size w w' := fun v w' ho hb => by
    obtain ⟨A', c', rfl, ha⟩ := ho.arg hA.b256
    refine ⟨A', c', by rw [hln], by rw [← hln]; exact ha, fun q o hl e => ?_, hb⟩
    rcases ho.form with ⟨e2, e3⟩ | ⟨g, c2, e2, h1, h2, _⟩
    · rw [e3] at hl; cases hl
    · rw [e] at e2
      cases e2
      exact ⟨h1, h2⟩
  have HFI := hid hfin
  clear hA hfin
  cases A with
  | none =>
    obtain ⟨rfl, rfl⟩ := HA.out.none rfl
    have hl := List.eq_nil_of_length_eq_zero HA.out.len
    subst hl
    clear HA
    go_enter Tryz.func102, Tryz.ntmps102
    go_wp2_with fail
    go_ret
    exact HFI.out _ _ Own.nil (Below.refl _ _)
  | some ad =>
    go_enter Tryz.func102, Tryz.ntmps102
    have OE : Hid (Own 5 .u8 (w.alloc (.cells #[] 5)) w.heap.size (.slice (some ⟨w.heap.size, 0, none⟩) 0 0) []) := hid (Own.empty w (Nat.le_refl _))
    have BE := hid ((Below.refl w.heap.size w).alloc (Nat.le_refl _) (.cells #[] 5))
    have AE := hid (HA.out.on BE.out)
    go_wp2_with (at_builtin; (with_reducible apply wappB); rfl; rfl; (intro e; cases e); exact OE.out; exact AE.out.byt.nums; exact AE.out.len; (rw [List.length_nil]; omega); (simp); intro v4 w4 o4 g4)
    have B4 := hid (below_grown BE.out g4 OE.out (Nat.le_refl _) (Nat.le_refl _))
    have O4 := hid o4
    clear o4 g4
    go_wp2_with fail
    go_ret
    exact HFI.out _ _ O4.out B4.out
set_option maxRecDepth 100000 in
theorem lb_cloneP {w : World} {S : Nat → Prop} {A : Option Addr} {gs : List Nat} {n cap : Nat} (hS : Sli 1 ptL S w A gs n cap) (hlen : n ≤ 220000) :
    Calls Tryz.prog 72 #[.slice A n cap] w fun e w' => ∃ A' c', e = .returned (.slice A' n c') ∧ Sli 1 ptL (fun b => w.heap.size ≤ b) w' A' gs n c' ∧ Below w.heap.size w w' := by
  have SL := hid hS
  have hl := hS.len
  have hfin : ∀ (v : Value) (w' : World), OwnX 51 1 ptL w' w.heap.size v gs → Below w.heap.size w w' → ∃ A' c', Ending.returned v = .returned (.slice A' n c') ∧ Sli 1 ptL (fun b => w.heap.size ≤ b) w' A' gs n c' ∧ Below w.heap.size w w' := fun v w' ho hb => by
    obtain ⟨A', c', rfl, sl⟩ := ho.sli ptL_len
    exact ⟨A', c', by rw [hl], by rw [← hl]; exact sl, hb⟩
  have HFI := hid hfin
  clear hfin
  cases A with
  | none =>
    obtain ⟨rfl, rfl⟩ := hS.none rfl
    obtain rfl := List.eq_nil_of_length_eq_zero hl
    have hq := lb_eqNilP none 0 0
    clear hS SL hl
    go_enter Tryz.func72, Tryz.ntmps72
    go_wp2_with fail
    go_ret
    exact HFI.out _ _ (OwnX.nil _ _ _ _ _) (Below.refl _ _)
  | some ad =>
    have hq := lb_eqNilP (some ad) n cap
    clear hS
    go_enter Tryz.func72, Tryz.ntmps72
    go_wp2_with (at_builtin; (with_reducible apply wappX eltPtP Tryz.underlying31 (B := w.heap.size)); rfl; rfl; exact OwnX.empty (Nat.le_refl _); exact SL.out.turn (Turn.alloc (S := fun _ => False) w _) (fun _ _ _ e => e); (simp; omega); omega; (simp); intro v2 w2 o2 g2)
    rw [List.nil_append] at o2
    have b2 : Below w.heap.size w w2 := ((Below.refl _ _).alloc (Nat.le_refl _) _).trans ((Turn.of_grown (S := fun b => w.heap.size ≤ b) g2 fun b e => by cases e; simp).below (by simp) fun _ h => h)
    go_ret
    exact HFI.out _ _ o2 b2
theorem blk_list_set {w : World} {g i : Nat} {t : TypeId} {l : List Value} {v : Value} (h : Blk w g t l.toArray) : Blk (w.setCell ⟨g, i, none⟩ v) g t (l.set i v).toArray := by
  have := h.setCell_same i v
  rwa [List.setIfInBounds_toArray] at this
theorem list_set69 {a b c d e v u : Value} {l : List Value} (h : l.length = 64) : (a :: b :: c :: d :: e :: (l ++ [v])).set 69 u = a :: b :: c :: d :: e :: (l ++ [u]) := by
  rw [List.set_cons_succ, List.set_cons_succ, List.set_cons_succ, List.set_cons_succ, List.set_cons_succ, List.set_append_right _ _ (by omega), h, Nat.sub_self, List.set_cons_zero]
theorem st_setP {w : World} {g : Nat} {t : TypeId} {s : Stp} {x : SlB} (h : Blk w g t (stL (s, x)).toArray) (x' : SlB) : Blk (w.setCell ⟨g, 69, none⟩ (.slice x'.A s.picks.length x'.c)) g t (stL (s, x')).toArray := by
  have h1 := blk_list_set (i := 69) (v := .slice x'.A s.picks.length x'.c) h
  have e : (stL (s, x)).set 69 (.slice x'.A s.picks.length x'.c) = stL (s, x') := list_set69 (ar64_len s.s)
  rw [e] at h1
  exact h1
theorem own_sli {α : Type} {E : TypeId} {k : Nat} {en : α → List Value} {w : World} {v : Value} {l : List α} {S : Nat → Prop} (hE : ∀ x, (en x).length = k) (h : OwnX E k en w 0 v l) (hS : ∀ b, v.ownBlock = some b → S b) : ∃ A cap, v = .slice A l.length cap ∧ Sli k en S w A l l.length cap := by
  obtain ⟨A, cap, rfl, sl⟩ := h.sli hE
  refine ⟨A, cap, rfl, sl.len, sl.cap, sl.max, sl.none, fun hn => ?_⟩
  obtain ⟨b, o, rfl, _, hl, hr⟩ := sl.lst hn
  exact ⟨b, o, rfl, hS b rfl, hl, hr⟩
section
variable {ops : Array Oper} {Q : Exit → Act → World → Prop} {a : Act} {w : World} {rest : List Oper} {dst : Option Tmp} {ty : TypeId} {pos : String} {after : Array Edge} {m x y : Operand} {r : Nat} {i : Int} {F : MpV.Img} {v : Value}
theorem wputV (hm : a.eval m = .map (some r)) (hx : a.eval x = .int .i64 i) (hy : a.eval y = v) (h : MapV w r F) (hk : ∀ w', MapV w' r (MpV.upd F i v) → Turn (fun b => b = r) w w' → wpList Tryz.prog ops Q rest (a.put dst undef) w') :
    wpList Tryz.prog ops Q (⟨dst, .mapUpdate 115 m x y, ty, pos, after, none⟩ :: rest) a w := by
  obtain ⟨w', hr, h1, h2⟩ := MpV.run_put h i v
  refine wpList_plain rfl fun K hK => ?_
  unfold Oper.wp execOp
  simp [hm, hx, hy, hr, Result.andThen]
  exact hK _ _ (hk w' h1 h2)
theorem gE_lookV {R : Value → World → Prop} {gd : Option (Nat × Bool)} (hm : a.eval m = .map (some r)) (hx : a.eval x = .int .i64 i) (h : MapV w r F) (hR : R (F i) w) : GivesE Tryz.prog ⟨dst, .lookup 115 m x false, ty, pos, after, gd⟩ a w R := by
  unfold GivesE execOp
  simp only [Sem.run_bind, hm, hx, MpV.run_look h i, Result.andThen_ok, Sem.run_pure]
  exact hR
end
end BuP
end Go.Proofs.YtklmjdhhnnanoaaGreatDoor
set_option maxRecDepth 100000
namespace Go.Proofs.YtklmjdhhnnanoaaGreatDoor
open Go.ChangeShapes Go.WideShapes Go.ChangeAt Go.RowKit
attribute [local go_sem] Gives GivesE
namespace BuP
open BuM MbM MbP MpV
def ofN (n : Int) (l : List (Stp × SlB)) : List (Stp × SlB) := l.filter fun x => decide (x.1.a = n)
structure ByN (w0 : World) (r : Nat) (L : List (Stp × SlB)) (w : World) (Fm : MpV.Img) : Prop where
  map : MapV w r Fm
  own : ∀ n, OwnX 95 70 stL w 0 (Fm n) (ofN n L)
  low : ∀ n b, (Fm n).ownBlock = some b → w0.heap.size ≤ b ∧ b ≠ r
  nd : ∀ n m b, n ≠ m → (Fm n).ownBlock = some b → (Fm m).ownBlock ≠ some b
  pk : ∀ x ∈ L, Arg w x.2.A x.1.picks x.1.picks.length x.2.c ∧ ∀ q o, 0 < x.1.picks.length → x.2.A = some ⟨q, o, none⟩ → w0.heap.size ≤ q ∧ q < w.heap.size ∧ q ≠ r ∧ ∀ n, (Fm n).ownBlock ≠ some q
  bel : Below w0.heap.size w0 w
  rl : w0.heap.size ≤ r
section
variable {w0 w w' : World} {r : Nat} {L : List (Stp × SlB)} {Fm : MpV.Img}
theorem ByN.on (H : ByN w0 r L w Fm) (hb : Below w.heap.size w w') : ByN w0 r L w' Fm where
  map := H.map.turn (T := fun _ => False) (Turn.of_new hb) fun e => e
  own n := (H.own n).below hb (Nat.le_refl _)
  low := H.low
  nd := H.nd
  pk x hx := ⟨(H.pk x hx).1.on hb, fun q o h1 h2 => by
    obtain ⟨a, b, c, d⟩ := (H.pk x hx).2 q o h1 h2
    exact ⟨a, Nat.lt_of_lt_of_le b hb.size, c, d⟩⟩
  bel := H.bel.trans (hb.mono H.bel.size)
  rl := H.rl
theorem ofN_snoc (n : Int) (x : Stp × SlB) : ofN n (L ++ [x]) = ofN n L ++ (if x.1.a = n then [x] else []) := by
  unfold ofN
  rw [List.filter_append]
  congr 1
  by_cases e : x.1.a = n
  · rw [if_pos e, List.filter_cons, if_pos (by simpa using e)]; rfl
  · rw [if_neg e, List.filter_cons, if_neg (by simpa using e)]; rfl
theorem ByN.step (H : ByN w0 r L w Fm) {w4 w5 : World} {x : Stp × SlB} {v' : Value} (ha : Arg w x.2.A x.1.picks x.1.picks.length x.2.c) (hq : ∀ q o, 0 < x.1.picks.length → x.2.A = some ⟨q, o, none⟩ → w0.heap.size ≤ q ∧ q < w.heap.size ∧ q ≠ r ∧ ∀ n, (Fm n).ownBlock ≠ some q)
    (ht : Turn (fun b => (Fm x.1.a).ownBlock = some b) w w4) (ho : OwnX 95 70 stL w4 0 v' (ofN x.1.a L ++ [x])) (hv : ∀ b, v'.ownBlock = some b → (Fm x.1.a).ownBlock = some b ∨ w.heap.size ≤ b)
    (hm : MapV w5 r (MpV.upd Fm x.1.a v')) (hr : Turn (fun b => b = r) w4 w5) : ByN w0 r (L ++ [x]) w5 (MpV.upd Fm x.1.a v') := by
  have hrw : r < w.heap.size := H.map.lt
  have hTr : ∀ b, (b = r) → ¬ (v'.ownBlock = some b) := fun b e e2 => by
    rcases hv b e2 with y | y
    · exact (H.low _ b y).2 e
    · omega
  have hT : Turn (fun b => (Fm x.1.a).ownBlock = some b ∨ b = r) w w5 := (ht.mono fun b e => .inl e).trans hr fun b e => .inl (.inr e)
  have hs := ht.size
  have hs2 := hr.size
  refine ⟨hm, fun n => ?_, fun n b e => ?_, fun n m b hnm e1 e2 => ?_, fun y hy => ?_, ?_, H.rl⟩
  · rw [ofN_snoc]
    unfold MpV.upd
    by_cases e : n = x.1.a
    · subst e
      rw [if_pos rfl, if_pos rfl]
      exact ho.turn hr fun b e1 e2 => hTr b e2 e1
    · rw [if_neg e, if_neg fun h => e h.symm, List.append_nil]
      exact (H.own n).turn hT fun b e1 e2 => e2.elim (fun y => H.nd n x.1.a b e e1 y) fun y => (H.low n b e1).2 y
  · unfold MpV.upd at e
    by_cases h : n = x.1.a
    · rw [if_pos h] at e
      rcases hv b e with y | y
      · exact H.low _ b y
      · exact ⟨Nat.le_trans H.bel.size y, by omega⟩
    · rw [if_neg h] at e; exact H.low n b e
  · unfold MpV.upd at e1 e2
    by_cases h : n = x.1.a
    · rw [if_pos h] at e1
      rw [if_neg fun e => hnm (h.trans e.symm)] at e2
      rcases hv b e1 with y | y
      · exact H.nd m x.1.a b (fun e => hnm (h.trans e.symm)) e2 y
      · have := (H.own m).own b e2; omega
    · rw [if_neg h] at e1
      by_cases h2 : m = x.1.a
      · rw [if_pos h2] at e2
        rcases hv b e2 with y | y
        · exact H.nd n x.1.a b h e1 y
        · have := (H.own n).own b e1; omega
      · rw [if_neg h2] at e2
        exact H.nd n m b hnm e1 e2
  · have key : Arg w y.2.A y.1.picks y.1.picks.length y.2.c ∧ ∀ q o, 0 < y.1.picks.length → y.2.A = some ⟨q, o, none⟩ → w0.heap.size ≤ q ∧ q < w.heap.size ∧ q ≠ r ∧ ∀ n, (Fm n).ownBlock ≠ some q := by
      rcases List.mem_append.1 hy with h | h
      · exact H.pk y h
      · rw [List.mem_singleton] at h; subst h; exact ⟨ha, hq⟩
    refine ⟨key.1.turn hT fun q o h1 h2 e => ?_, fun q o h1 h2 => ?_⟩
    · obtain ⟨_, _, c, d⟩ := key.2 q o h1 h2
      exact e.elim (d _) c
    · obtain ⟨a, b, c, d⟩ := key.2 q o h1 h2
      refine ⟨a, by omega, c, fun n e => ?_⟩
      unfold MpV.upd at e
      by_cases h : n = x.1.a
      · rw [if_pos h] at e
        rcases hv q e with z | z
        · exact d _ z
        · omega
      · rw [if_neg h] at e; exact d n e
  · exact (H.bel.trans (Below.refl _ _)).trans (hT.below H.bel.size fun b e => by
      rcases e with y | y
      · exact (H.low _ b y).1
      · rw [y]; exact H.rl)
end
theorem zip_take {α β : Type} : ∀ (l : List α) (m : List β) (i : Nat) (a : α) (b : β), l[i]? = some a → m.length = i → (l.take (i + 1)).zip (m ++ [b]) = (l.take i).zip m ++ [(a, b)]
  | [], _, _, _, _, h, _ => by cases h
  | x :: l, [], i, a, b, h, hm => by
    obtain rfl : i = 0 := hm.symm
    simp only [List.getElem?_cons_zero, Option.some.injEq] at h
    subst h
    rfl
  | x :: l, y :: m, 0, a, b, h, hm => by cases hm
  | x :: l, y :: m, i + 1, a, b, h, hm => by
    rw [List.getElem?_cons_succ] at h
    rw [List.take_succ_cons, List.take_succ_cons, List.cons_append, List.zip_cons_cons, List.zip_cons_cons, zip_take l m i a b h (Nat.succ.inj hm), List.cons_append]
set_option maxHeartbeats 1000000 in
set_option maxRecDepth 100000 in
theorem lb_byN {w : World} {As : Option Addr} {ns cs : Nat} {steps : List Stp} {sl : List SlB} {S : Nat → Prop} (hS : Sli 70 stL S w As (steps.zip sl) ns cs) (hsl : sl.length = steps.length) (hn : ns ≤ 1000) (hp : ∀ s x, (s, x) ∈ steps.zip sl → Arg w x.A s.picks s.picks.length x.c ∧ s.picks.length ≤ 140737488351232) :
    Calls Tryz.prog 73 #[.slice As ns cs] w fun e w' => ∃ r Fm sl2, e = .returned (.map (some r)) ∧ sl2.length = steps.length ∧ ByN w r (steps.zip sl2) w' Fm := by
  have SL := hid hS
  have HP := hid hp
  have hzl : ns = steps.length := by rw [← hS.len, List.length_zip, hsl, Nat.min_self]
  have hZL := hid hzl
  have hSL := hid hsl
  clear hS hp hzl hsl
  go_enter Tryz.func73, Tryz.ntmps73
  go_wp2_with (with_reducible apply MbO.wmkM)
  generalize hw1 : World.alloc w _ = w1
  obtain ⟨r, hr⟩ : ∃ n, n = w.heap.size := ⟨_, rfl⟩
  have BEL := hid (show Below w.heap.size w w1 by rw [← hw1]; exact (Below.refl _ _).alloc (Nat.le_refl _) _)
  have B0 := hid (show ByN w r [] w1 fun _ => MpV.zero from ⟨by rw [← hw1, hr]; exact MapV.new w, fun n => OwnX.nil _ _ _ _ _, fun n b e => (by cases e), fun n m b _ e => (by cases e), fun x hx => (by cases hx), BEL.out, by omega⟩)
  rw [← hr]
  clear hw1 hr
  go_loopw [9] (fun u9 wr => ∃ (i : Nat) (Fm : MpV.Img) (sl2 : List SlB), u9 = .int .i64 i ∧ i ≤ ns ∧ sl2.length = i ∧ Hid (ByN w r ((steps.take i).zip sl2) wr Fm)) (fun u9 _ => ns - (intOf u9).toNat)
  case atStart => exact ⟨0, _, [], rfl, Nat.zero_le _, rfl, hid (by rw [List.take_zero]; exact B0.out)⟩
  case round =>
    clear B0
    obtain ⟨i, Fm, sl2, rfl, hi, hl2, HB⟩ := hrel
    obtain ⟨wo, hwo⟩ : ∃ x, x = wr := ⟨_, rfl⟩
    subst hwo
    by_cases hin : i < ns
    · have t1 : (i : Int) < (ns : Int) := by omega
      have hil : i < steps.length := by rw [← hZL.out]; exact hin
      obtain ⟨s, hs⟩ : ∃ s, steps[i]? = some s := ⟨_, List.getElem?_eq_getElem hil⟩
      obtain ⟨x, hx⟩ : ∃ x, sl[i]? = some x := ⟨_, List.getElem?_eq_getElem (by rw [hSL.out]; exact hil)⟩
      have hz : (steps.zip sl)[i]? = some (s, x) := by rw [List.getElem?_zip_eq_some]; exact ⟨hs, hx⟩
      have HSs := hid hs
      obtain ⟨bS, oS, rfl, hbS, hSl, hr⟩ := SL.out.some hz
      have hp := HP.out s x (List.mem_of_getElem? hz)
      have R1 := hid ((Turn.of_below HB.out.bel).range hr (by omega))
      have P1 := hid (show Arg wo x.A s.picks s.picks.length x.c from hp.1.turn (Turn.of_below HB.out.bel) fun q o h1 h2 => by
        obtain ⟨o2, v2, h4⟩ := arg_ne hp.1 h1 h2
        have := World.block_lt_of_cell? w _ h4
        have : q < w.heap.size := this
        omega)
      have hpl := hp.2
      clear hs hx hz hr hp
      go_upto_region 5 with (first | ((with_reducible apply ldR (cs := (stL (s, x)).toArray) (tStP (s, x))); rfl; exact R1.out) | (with_reducible apply alZ' zStP) | ((with_reducible apply stR (tStP (s, x))); rfl; rfl; exact Blk.new _ _ _; exact stP_size _ _; exact stP_one _))
      generalize hw2 : World.setRow _ _ _ = w2
      obtain ⟨gS, hgS⟩ : ∃ n, n = wo.heap.size := ⟨_, rfl⟩
      have B1 := hid (show Below wo.heap.size wo w2 by rw [← hw2]; exact below_setRow ((Below.refl _ _).alloc (Nat.le_refl _) _) (Nat.le_refl _) _)
      have b1 := hid (show Blk w2 gS 95 (stL (s, x)).toArray by rw [← hw2, hgS]; exact (Blk.new wo _ _).setRow_same _)
      have hgo := hid (show wo.heap.size ≤ gS by omega)
      rw [← hgS]
      clear hw2 hgS R1
      have P2 := hid (P1.out.on B1.out)
      have qp : w2.cell? ⟨gS, 69, none⟩ = some (.slice x.A s.picks.length x.c) := st_p (o := 0) (x := (s, x)) b1.out.whole
      go_wp2_with fail
      refine (lb_cloneB x.A s.picks s.picks.length x.c hpl w2 P2.out).mono ?_
      rintro e w3 ⟨A', c', rfl, ha, hq, hb⟩
      have b3 := hid (b1.out.below hb b1.out.lt)
      have B3 := hid (B1.out.trans (hb.mono B1.out.size))
      have A3 := hid ha
      have Q3 := hid (show ∀ q o, 0 < s.picks.length → A' = some ⟨q, o, none⟩ → w2.heap.size ≤ q ∧ q < w3.heap.size from hq)
      have bs2 := hid b1.out.lt
      have hb3s := hid hb.size
      have q69 : w3.cell? ⟨gS, 69, none⟩ = some (.slice x.A s.picks.length x.c) := st_p (o := 0) (x := (s, x)) b3.out.whole
      have fz := b3.out.frozen 69
      clear ha hq hb qp P1 P2 b1 B1
      go_upto_region 6 with fail
      have tu := Turn.setCell (S := fun q => q = gS) w3 ⟨gS, 69, none⟩ (.slice A' s.picks.length c') rfl
      have b4 := hid (st_setP b3.out ⟨A', c'⟩)
      have B4 := hid (show Below wo.heap.size wo (w3.setCell ⟨gS, 69, none⟩ (.slice A' s.picks.length c')) from B3.out.trans (tu.below B3.out.size fun q e => by rw [e]; exact hgo.out))
      have A4 := hid (A3.out.turn tu fun q o h1 h2 e => by have := (Q3.out q o h1 h2).1; have := bs2.out; omega)
      have hsz4 : (w3.setCell ⟨gS, 69, none⟩ (.slice A' s.picks.length c')).heap.size = w3.heap.size := by simp
      have Q4 := hid (show ∀ q o, 0 < s.picks.length → A' = some ⟨q, o, none⟩ → wo.heap.size ≤ q ∧ q < (w3.setCell ⟨gS, 69, none⟩ (.slice A' s.picks.length c')).heap.size from fun q o h1 h2 => by
        have h3 := Q3.out q o h1 h2
        have := hgo.out; have := bs2.out
        exact ⟨by omega, by rw [hsz4]; exact h3.2⟩)
      generalize World.setCell w3 _ _ = w4 at b4 B4 A4 Q4 ⊢
      clear tu q69 fz b3 B3 A3 Q3 bs2 hb3s hsz4
      have H4 := hid (HB.out.on B4.out)
      obtain ⟨y, hy⟩ : ∃ y : Stp × SlB, y = (s, ⟨A', c'⟩) := ⟨_, rfl⟩
      have HY := hid hy
      rw [← hy] at b4
      obtain ⟨Ao, co, hvo, _⟩ := (H4.out.own s.a).sli stL_len
      obtain ⟨lo, hlo⟩ : ∃ l, l = ofN s.a ((steps.take i).zip sl2) := ⟨_, rfl⟩
      have HLO := hid hlo
      rw [← hlo] at hvo
      have HVO := hid hvo
      have hll : lo.length ≤ 1000 := by
        rw [hlo]
        unfold ofN
        refine Nat.le_trans (List.length_filter_le _ _) ?_
        rw [List.length_zip, List.length_take]; omega
      have OO := hid (show OwnX 95 70 stL w4 0 (.slice Ao lo.length co) lo by rw [← hvo, hlo]; exact H4.out.own s.a)
      have LOW := hid (show ∀ b, (Value.slice Ao lo.length co).ownBlock = some b → b < w4.heap.size from fun b e => (OO.out.own b e).2)
      have q0 : w4.cell? ⟨gS, 0, none⟩ = some (.int .i64 s.a) := by have := st_a (o := 0) b4.out.whole; rw [HY.out] at this; exact this
      have gSo := hid (show (Value.slice Ao lo.length co).ownBlock ≠ some gS from fun e => by
        rw [← hvo] at e
        have h1 := ((HB.out.own s.a).own gS e).2
        have := hgo.out
        omega)
      have rSo := hid (show (Value.slice Ao lo.length co).ownBlock ≠ some r from fun e => by
        rw [← hvo] at e
        exact (H4.out.low s.a r e).2 rfl)
      clear hvo hlo hy
      refine wp_region_c (S := yS [some (.map (some r)), some (.pointer (some ⟨gS, 0, none⟩)), some (.int .i64 s.a), some (.map (some r)), some (.pointer (some ⟨gS, 0, none⟩)), some (.int .i64 s.a), some (.slice Ao lo.length co), some (.agg (stL y).toArray), none, none] [(8, kSl 1), (9, kSl (lo.length + 1))])
        (C := fun d vs w' => ApC 95 70 stL w4 (.slice Ao lo.length co) lo y (d 8) (d 9) (vs 8) (vs 9) w') 10 (by kernel_rfl) (by kernel_rfl) (by kernel_rfl) _
        (yS_ok _ fun y hy => by simp only [List.mem_cons, List.not_mem_nil, or_false] at hy; rcases hy with rfl | rfl <;> exact kSl_ok _) ⟨Turn.drew _, fun _ => (Below.refl _ _).drew, (fun e => by cases e), (fun e => by cases e)⟩ fun vs => ?_
      simp only [List.take_succ_cons, List.take_zero, List.drop_succ_cons, List.drop_zero]
      refine ⟨.inl ⟨rfl, fun dd w' hd hnx hw hC => ?_⟩, fun e => ?_⟩
      · go_simp
        first | exact ⟨rfl, hC⟩ | exact hC
      have e' : vs 0 = _ := e
      rw [e']
      clear e e'
      simp only [Act.put, sqA, sqB, sqC]
      refine ⟨.inl ⟨rfl, fun dd w' hd hnx hw hC => ?_⟩, fun e => ?_⟩
      · go_simp
        first | exact ⟨rfl, hC⟩ | exact hC
      have e' : vs 1 = _ := e
      rw [e']
      clear e e'
      simp only [Act.put, sqA, sqB, sqC]
      refine ⟨.inl ⟨rfl, fun dd w' hd hnx hw hC => ?_⟩, fun e => ?_⟩
      · have h1 : w'.cell? ⟨gS, 0, none⟩ = some (.int .i64 s.a) := hC.t.cell (p := ⟨gS, 0, none⟩) q0 gSo.out
        go_simp
        first | exact ⟨rfl, hC⟩ | exact hC
      have e' : vs 2 = _ := e
      rw [e']
      clear e e'
      simp only [Act.put, sqA, sqB, sqC]
      refine ⟨.inl ⟨rfl, fun dd w' hd hnx hw hC => ?_⟩, fun e => ?_⟩
      · go_simp
        first | exact ⟨rfl, hC⟩ | exact hC
      have e' : vs 3 = _ := e
      rw [e']
      clear e e'
      simp only [Act.put, sqA, sqB, sqC]
      refine ⟨.inl ⟨rfl, fun dd w' hd hnx hw hC => ?_⟩, fun e => ?_⟩
      · go_simp
        first | exact ⟨rfl, hC⟩ | exact hC
      have e' : vs 4 = _ := e
      rw [e']
      clear e e'
      simp only [Act.put, sqA, sqB, sqC]
      refine ⟨.inl ⟨rfl, fun dd w' hd hnx hw hC => ?_⟩, fun e => ?_⟩
      · have h1 : w'.cell? ⟨gS, 0, none⟩ = some (.int .i64 s.a) := hC.t.cell (p := ⟨gS, 0, none⟩) q0 gSo.out
        go_simp
        first | exact ⟨rfl, hC⟩ | exact hC
      have e' : vs 5 = _ := e
      rw [e']
      clear e e'
      simp only [Act.put, sqA, sqB, sqC]
      refine ⟨.inl ⟨rfl, fun dd w' hd hnx hw hC => ?_⟩, fun e => ?_⟩
      · refine gE_lookV rfl rfl (H4.out.map.turn hC.t rSo.out) ?_
        rw [HVO.out]
        exact ⟨rfl, hC⟩
      have e' : vs 6 = _ := e
      rw [e']
      clear e e'
      simp only [Act.put, sqA, sqB, sqC]
      refine ⟨.inl ⟨rfl, fun dd w' hd hnx hw hC => ?_⟩, fun e => ?_⟩
      · exact ClP.gE_ldR (cs := (stL y).toArray) (tStP y) rfl (b4.out.turn hC.t gSo.out).whole ⟨rfl, hC⟩
      have e' : vs 7 = _ := e
      rw [e']
      clear e e'
      simp only [Act.put, sqA, sqB, sqC]
      refine ⟨.inl ⟨rfl, fun dd w' hd hnx hw hC => ?_⟩, fun e => ?_⟩
      · have h8 : dd 9 = false := hnx 9 (by kernel_rfl)
        have ha := (Below.refl w'.heap.size w').alloc (Nat.le_refl _) (.cells (stL y).toArray 95)
        have hbl := hC.b h8
        exact gE_lit1 (x := y) eltStP undStP (by omega) rfl rfl ⟨⟨_, _, rfl⟩, hC.t.trans (Turn.of_new (S := fun _ => False) ha) (fun _ e => e.elim), (fun _ => hbl.trans (ha.mono hbl.size)), (fun _ _ => ⟨_, _, rfl, sli_lit1 eltStP y w' hbl.size⟩), fun e => by
          have e' : dd 9 = true := e
          rw [h8] at e'; cases e'⟩
      obtain ⟨A7, c7, e'⟩ : ∃ (A : Option Addr) (c : Nat), vs 8 = .slice A 1 c := e
      rw [e']
      have E7 := hid e'
      clear e'
      simp only [Act.put, sqA, sqB, sqC]
      refine ⟨.inl ⟨rfl, fun dd w' hd hnx hw hC => ?_⟩, fun e => ?_⟩
      · have h7 : dd 8 = true := hw 8 (by kernel_rfl)
        have hbl := hC.b hd
        obtain ⟨A', c', f, sl⟩ := hC.lit h7 hd
        rw [E7.out] at f
        cases f
        refine gE_appW eltStP undStP (B := 0) (v := .slice Ao lo.length co) (l := lo) (m := [y]) rfl rfl (OO.out.below hbl (Nat.le_refl _)) sl (by omega) (by omega) (Nat.zero_le _) fun v' w4 o4 g4 wh => ?_
        obtain ⟨A4, c4, rfl, _⟩ := o4.sli stL_len
        refine ⟨⟨A4, c4, by rw [List.length_append]; rfl⟩, ?_⟩
        exact ⟨(Turn.of_new (S := fun b => (Value.slice Ao lo.length co).ownBlock = some b) hbl).trans (Turn.of_grown (S := fun b => (Value.slice Ao lo.length co).ownBlock = some b) g4 fun b e => e) (fun b e => .inl e), (fun e => by cases e), (fun _ e => by cases e), fun _ => ⟨o4, fun b e => by
          have e3 : (Value.slice A4 (lo ++ [y]).length c4).ownBlock = some b := e
          rcases wh with x | x
          · exact .inl (x.symm.trans e3)
          · rw [x] at e3; cases e3; exact .inr hbl.size⟩⟩
      obtain ⟨A8, c8, e'⟩ : ∃ (A : Option Addr) (c : Nat), vs 9 = .slice A (lo.length + 1) c := e
      rw [e']
      have E8 := hid e'
      clear e'
      simp only [Act.put, sqA, sqB, sqC]
      intro dd wz hall hC
      obtain ⟨o4, wh⟩ := hC.own (hall 9 (by omega))
      rw [E8.out] at o4 wh
      have M9 := hid (H4.out.map.turn hC.t rSo.out)
      have ST := hid (show ∀ w9, MapV w9 r (MpV.upd Fm s.a (.slice A8 (lo.length + 1) c8)) → Turn (fun b => b = r) wz w9 → ByN w r ((steps.take i).zip sl2 ++ [y]) w9 (MpV.upd Fm s.a (.slice A8 (lo.length + 1) c8)) from fun w9 hM hT => by
        have e1 : y.1 = s := by rw [HY.out]
        have hfv := HVO.out
        rw [← e1] at hM hfv ⊢
        refine H4.out.step (x := y) ?_ ?_ (by rw [hfv]; exact hC.t) (by rw [e1, ← HLO.out]; exact o4) (by rw [hfv]; exact wh) hM hT
        · rw [HY.out]; exact A4.out
        · intro q o h1 h2
          rw [HY.out] at h1 h2
          obtain ⟨h3, h4⟩ := Q4.out q o h1 h2
          have hrw : r < wo.heap.size := HB.out.map.lt
          refine ⟨Nat.le_trans HB.out.bel.size h3, h4, by omega, fun n e => ?_⟩
          have := ((HB.out.own n).own q e).2
          omega)
      have HLz := hid (show (steps.take (i + 1)).zip (sl2 ++ [y.2]) = (steps.take i).zip sl2 ++ [y] from by
        have e1 : y = (s, y.2) := by rw [HY.out]
        rw [zip_take steps sl2 i s y.2 HSs.out hl2, ← e1])
      clear hC o4 wh hall E7 E8 H4 OO LOW b4 B4 A4 Q4 q0 gSo rSo HVO HLO HY hll
      go_wp2_with ((with_reducible apply wputV); rfl; rfl; rfl; exact M9.out; intro w9 hM9 hT9)
      have H9 := hid (show ByN w r ((steps.take (i + 1)).zip (sl2 ++ [y.2])) w9 (MpV.upd Fm s.a (.slice A8 (lo.length + 1) c8)) from by rw [HLz.out]; exact ST.out w9 hM9 hT9)
      clear ST M9 hM9 hT9 HLz
      go_roundw
      case rel => exact ⟨i + 1, _, sl2 ++ [y.2], by go_num, by omega, by rw [List.length_append, hl2]; rfl, H9⟩
      case measure => simp [intOf] <;> omega
    · have t1 : decide ((i : Int) < (ns : Int)) = false := by simp; omega
      obtain rfl : i = ns := by omega
      go_wp2_with fail
      go_ret
      refine ⟨r, Fm, sl2, rfl, by rw [hl2]; exact hZL.out, ?_⟩
      have h9 := HB.out
      rw [List.take_of_length_le (by have := hZL.out; omega)] at h9
      exact h9
end BuP
end Go.Proofs.YtklmjdhhnnanoaaGreatDoor
set_option maxRecDepth 100000
namespace Go.Proofs.YtklmjdhhnnanoaaGreatDoor
open Go.ChangeShapes Go.WideShapes Go.ChangeAt Go.RowKit
attribute [local go_sem] Gives GivesE
namespace BuP
open BuM MbM MbP MpV
theorem built_bus (A : Option Addr) (n c gc r : Nat) : Tryz.prog.built 117 [(0, .slice A n c), (1, .pointer (some ⟨gc, 0, none⟩)), (2, .map (some r))] = some (pbV A n c gc r (.slice none 0 0) false) := by kernel_rfl
section
variable {ops : Array Oper} {Q : Exit → Act → World → Prop} {a : Act} {w : World} {rest : List Oper} {dst : Option Tmp} {ty : TypeId} {pos : String} {after : Array Edge} {x y z : Operand} {A : Option Addr} {n c gc r : Nat}
theorem wblBus (hx : a.eval x = .slice A n c) (hy : a.eval y = .pointer (some ⟨gc, 0, none⟩)) (hz : a.eval z = .map (some r)) (hk : wpList Tryz.prog ops Q rest (a.put dst (.agg (pbV A n c gc r (.slice none 0 0) false))) w) : wpList Tryz.prog ops Q (⟨dst, .build 117 #[(0, x), (1, y), (2, z)], ty, pos, after, none⟩ :: rest) a w := by
  have hr : (Instr.build 117 #[(0, .slice A n c), (1, .pointer (some ⟨gc, 0, none⟩)), (2, .map (some r))]).run Tryz.prog w = .ok (.agg (pbV A n c gc r (.slice none 0 0) false)) w := run_build w _ _ _ (built_bus A n c gc r)
  have hm : (#[(0, x), (1, y), (2, z)] : Array (Nat × Operand)).map (fun (i, x) => (i, a.eval x)) = #[(0, .slice A n c), (1, .pointer (some ⟨gc, 0, none⟩)), (2, .map (some r))] := by
    simp only [List.map_toArray, List.map_cons, List.map_nil, hx, hy, hz]
  refine wpList_plain rfl fun K hK => ?_
  unfold Oper.wp execOp
  simp only [Sem.run_bind, hm, hr, Result.andThen_ok, Sem.run_pure]
  exact hK _ _ hk
end
theorem ofN_fst (n : Int) : ∀ (l : List Stp) (m : List SlB), m.length = l.length → (ofN n (l.zip m)).map (·.1) = l.filter fun s => decide (s.a = n)
  | [], [], _ => rfl
  | [], y :: m, h => by cases h
  | x :: l, [], h => by cases h
  | x :: l, y :: m, h => by
    have ih := ofN_fst n l m (Nat.succ.inj h)
    unfold ofN at ih ⊢
    rw [List.zip_cons_cons, List.filter_cons, List.filter_cons]
    by_cases e : x.a = n
    · rw [if_pos (by simpa using e), if_pos (by simpa using e), List.map_cons, ih]
    · rw [if_neg (by simpa using e), if_neg (by simpa using e), ih]
theorem sk_new {w wc w9 : World} {g r gc c : Nat} {A : Option Addr} {gs : List Nat} {steps : List Stp} {sl2 : List SlB} {Fm : MpV.Img} (hb : Blk w9 g 117 (pbV A gs.length c gc r (.slice none 0 0) false)) (hp : 1 ≤ gs.length) (hA : Sli 1 ptL (fun b => w.heap.size ≤ b) wc A gs gs.length c) (hc : Below wc.heap.size wc w9) (hwc : w.heap.size ≤ wc.heap.size)
    (hB : ByN wc r (steps.zip sl2) w9 Fm) (hsl : sl2.length = steps.length) (hg : ∀ q, q < wc.heap.size → q ≠ g) (hgo : ∀ n, (Fm n).ownBlock ≠ some g) (hgp : ∀ x ∈ steps.zip sl2, ∀ o, 0 < x.1.picks.length → x.2.A ≠ some ⟨g, o, none⟩) :
    Sk 0 w9 g gs gc A c r (.slice none 0 0) Fm (fun q => w.heap.size ≤ q ∧ q < w9.heap.size ∧ q ≠ g ∧ q ≠ r) steps false [] where
  blk := hb
  pos := hp
  arr := by
    refine ⟨hA.len, hA.cap, hA.max, hA.none, fun hn => ?_⟩
    obtain ⟨b, o, e, h1, h2, h3⟩ := hA.lst hn
    have hs := hc.size
    exact ⟨b, o, e, ⟨h1, by omega, hg b h2, by have := hB.rl; omega⟩, by omega, fun i x hi => (Turn.of_new (S := fun _ => False) hc).range (h3 i x hi) fun e => e⟩
  map := hB.map
  due n _ := by
    obtain ⟨A', c', e, hs⟩ := own_sli (S := fun q => w.heap.size ≤ q ∧ q < w9.heap.size ∧ q ≠ g ∧ q ≠ r) stL_len (hB.own (n : Int)) fun b e => ⟨Nat.le_trans hwc (hB.low _ b e).1, ((hB.own (n : Int)).own b e).2, fun x => hgo _ (x ▸ e), (hB.low _ b e).2⟩
    have hf := ofN_fst (n : Int) steps sl2 hsl
    have hl : (steps.filter fun s => decide (s.a = (n : Int))).length = (ofN (n : Int) (steps.zip sl2)).length := by rw [← hf, List.length_map]
    refine ⟨ofN (n : Int) (steps.zip sl2), A', c', by rw [hl]; exact e, hf, by rw [hl]; exact hs, fun x hx => ?_⟩
    have hm : x ∈ steps.zip sl2 := by
      unfold ofN at hx
      exact (List.mem_filter.1 hx).1
    have h1 := hB.pk x hm
    exact ⟨h1.1, fun q o h2 h3 => by
      obtain ⟨a, b, c, _⟩ := h1.2 q o h2 h3
      exact ⟨Nat.le_trans hwc a, b, fun e => hgp x hm o h2 (by rw [h3, e]), c⟩⟩
  lg := OwnX.nil _ _ _ _ _
  slt q hq := hq.2.1
set_option maxHeartbeats 1000000 in
set_option maxRecDepth 100000 in
theorem lb_new {w : World} {A : Option Addr} {gs : List Nat} {n c gc : Nat} {As : Option Addr} {ns cs : Nat} {steps : List Stp} {sl : List SlB} {S Sp : Nat → Prop} {Ms Is : Nat → Nat → Prop} {Mc : Nat → Prop} {hist : List ClP.Held} {cv : ClP.Held} {k : Nat} {ms : List St}
    (hA : Sli 1 ptL S w A gs n c) (hgm : gs.length = ms.length) (hme : ∀ (i gi : Nat) (st : St), gs[i]? = some gi → ms[i]? = some st → RepM w gi (Ms i) (Is i) k st ∧ 1 ≤ st.n) (hn1 : 1 ≤ n) (hn2 : n ≤ 64) (hce : repCb w gc Mc hist cv)
    (hS : Sli 70 stL S w As (steps.zip sl) ns cs) (hsl : sl.length = steps.length) (hns : ns ≤ 1000) (hp : ∀ s x, (s, x) ∈ steps.zip sl → Arg w x.A s.picks s.picks.length x.c ∧ s.picks.length ≤ 140737488351232 ∧ okS s ∧ ∀ q o, 0 < s.picks.length → x.A = some ⟨q, o, none⟩ → Sp q) :
    Calls Tryz.prog 36 #[.slice A n c, MbP.at' gc, .slice As ns cs] w fun e w' => ∃ g Mo Io, e = .returned (.tuple #[MbP.at' g, .int .i64 0]) ∧ RepK 0 w' g gs gc Mo Io steps false [] ∧ (∀ q, Mo q → w.heap.size ≤ q) ∧ (∀ q, Io q → w.heap.size ≤ q ∧ q < w'.heap.size ∨ Sp q) ∧ (∀ q, Mo q → q < w'.heap.size ∧ ¬ Io q) ∧ Below w.heap.size w w' := by
  have HA := hid hA
  have HM := hid hme
  have HC := hid hce
  have HS := hid hS
  have HP := hid hp
  have HL := hid hsl
  have HG := hid hgm
  have hgn := hid hA.len
  have t0 : decide ((n : Int) = 0) = false := by simp; omega
  have t0b : ((n : Int) == 0) = false := by simp; omega
  have t64 : decide ((64 : Int) < (n : Int)) = false := by simp; omega
  have t64b : ¬ 64 < n := by omega
  have tn0 : ¬ n = 0 := by omega
  clear hA hme hce hS hp hsl hgm
  unfold MbP.at'
  go_enter Tryz.func36, Tryz.ntmps36
  go_wp2_with fail
  refine (cb_read HC.out).mono ?_
  rintro e w2 ⟨rfl, hb2⟩
  have B2 := hid hb2
  clear hb2
  go_upto_region 2 with (first | (with_reducible apply alZ' ClP.zCe) | ((with_reducible apply stR (ClP.tCe cv)); rfl; rfl; exact Blk.new _ _ _; exact ClP.ce_size _ _; exact ClP.ce_one _))
  generalize hw3 : World.setRow _ _ _ = w3
  have B3 := hid (show Below w.heap.size w w3 by rw [← hw3]; exact B2.out.trans (below_setRow ((Below.refl _ _).alloc (Nat.le_refl _) _) (Nat.le_refl _) _ |>.mono B2.out.size))
  clear hw3 B2
  go_wp2_with fail
  go_loopw [22] (fun u22 wr => ∃ i : Nat, u22 = .int .i64 i ∧ i ≤ n ∧ Hid (Below w.heap.size w wr)) (fun u22 _ => n - (intOf u22).toNat)
  case atStart => exact ⟨0, rfl, Nat.zero_le _, B3⟩
  case round =>
    clear B3
    obtain ⟨i, rfl, hi, HB⟩ := hrel
    obtain ⟨wo, hwo⟩ : ∃ x, x = wr := ⟨_, rfl⟩
    subst hwo
    by_cases hin : i < n
    · have t1 : (i : Int) < (n : Int) := by omega
      obtain ⟨gi, hgi⟩ : ∃ gi, gs[i]? = some gi := ⟨_, List.getElem?_eq_getElem (by rw [hgn.out]; exact hin)⟩
      obtain ⟨st, hst⟩ : ∃ st, ms[i]? = some st := ⟨_, List.getElem?_eq_getElem (by rw [← HG.out, hgn.out]; exact hin)⟩
      obtain ⟨bA, oA, rfl, hbS, hbl, hr⟩ := HA.out.some hgi
      rw [Nat.mul_one] at hr
      have q1 : wo.cell? ⟨bA, oA + i, none⟩ = some (.pointer (some ⟨gi, 0, none⟩)) := (HB.out.cell (p := ⟨bA, oA + i, none⟩) hbl).trans (pt_p hr)
      obtain ⟨hrm, hst1⟩ := HM.out i gi st hgi hst
      have RMi := hid (MbP.memB_ok.frame hrm (T := fun _ => False) (Turn.of_new HB.out) fun _ _ e => e)
      have t2 : decide (st.n = 0) = false := by simp; omega
      have t2b : (st.n == 0) = false := by simp; omega
      have t2c : ¬ st.n = 0 := by omega
      clear hgi hst hr hrm
      go_upto_region 7 with fail
      go_wp2_with fail
      refine (MbP.memB_ok.len RMi.out).mono ?_
      rintro e w4 ⟨rfl, hb⟩
      have B4 := hid (HB.out.trans (hb.mono HB.out.size))
      clear hb q1 RMi HB
      go_wp2_with fail
      go_roundw
      case rel => exact ⟨i + 1, by go_num, by omega, B4⟩
      case measure => simp [intOf] <;> omega
    · have t1 : decide ((i : Int) < (n : Int)) = false := by simp; omega
      obtain rfl : i = n := by omega
      have A3 := hid (HA.out.turn (T := fun _ => False) (Turn.of_new HB.out) fun _ _ _ e => e)
      go_upto_region 12 with fail
      go_wp2_with fail
      refine (lb_cloneP A3.out (by omega)).mono ?_
      rintro e wc ⟨A', c', rfl, hA', hbc⟩
      have BC := hid (HB.out.trans (hbc.mono HB.out.size))
      have AC := hid hA'
      have SC := hid (HS.out.turn (T := fun _ => False) (Turn.of_new BC.out) fun _ _ _ e => e)
      have PC := hid (show ∀ s x, (s, x) ∈ steps.zip sl → Arg wc x.A s.picks s.picks.length x.c ∧ s.picks.length ≤ 140737488351232 from fun s x h => ⟨(HP.out s x h).1.on BC.out, (HP.out s x h).2.1⟩)
      have hws := hid HB.out.size
      clear hA' hbc A3 HB
      go_wp2_with fail
      refine (lb_byN SC.out HL.out hns PC.out).mono ?_
      rintro e w5 ⟨r, Fm, sl2, rfl, hl2, hB⟩
      have BN := hid hB
      have L2 := hid hl2
      clear hB hl2 SC PC
      go_wp2_with ((with_reducible apply wblBus); rfl; rfl; rfl)
      go_ret2
      have hBN := BN.out
      have hal := (Below.refl w5.heap.size w5).alloc (Nat.le_refl _) (.cells (pbV A' i c' gc r (.slice none 0 0) false) 117)
      have hr5 : r < w5.heap.size := hBN.map.lt
      have hrc := hBN.rl
      have hcs := BC.out.size
      have hc5 := hBN.bel.size
      have hgl : gs.length = i := hgn.out
      have hwo := hws.out
      have hsz : (w5.alloc (.cells (pbV A' i c' gc r (.slice none 0 0) false) 117)).heap.size = w5.heap.size + 1 := by simp
      have hsk : Sk 0 (w5.alloc (.cells (pbV A' i c' gc r (.slice none 0 0) false) 117)) w5.heap.size gs gc A' c' r (.slice none 0 0) Fm (fun q => w.heap.size ≤ q ∧ q < (w5.alloc (.cells (pbV A' i c' gc r (.slice none 0 0) false) 117)).heap.size ∧ q ≠ w5.heap.size ∧ q ≠ r) steps false [] :=
        sk_new (by rw [hgl]; exact Blk.new _ _ _) (by omega) (by rw [hgl]; exact AC.out.mono fun b e => Nat.le_trans hwo e) (hBN.bel.trans (hal.mono hc5)) hcs (hBN.on hal) L2.out (fun q h => by omega) (fun n e => by have := ((hBN.own n).own _ e).2; omega) (fun x hx o h1 h2 => by have := (hBN.pk x hx).2 _ o h1 h2; omega)
      refine ⟨w5.heap.size, mutK w5.heap.size r (.slice none 0 0), _, by simp, ⟨A', c', r, _, Fm, hsk, rfl⟩, fun q e => ?_, fun q e => .inl ⟨e.1, e.2.1⟩, fun q e => ?_, BC.out.trans ((hBN.bel.trans (hal.mono hc5)).mono hcs)⟩
      · rcases e with e | e | e
        · omega
        · omega
        · cases e
      · rcases e with e | e | e
        · exact ⟨by rw [hsz]; omega, fun x => x.2.2.1 e⟩
        · exact ⟨by rw [hsz]; omega, fun x => x.2.2.2 e⟩
        · cases e
end BuP
end Go.Proofs.YtklmjdhhnnanoaaGreatDoor
set_option maxRecDepth 100000
namespace Go.Proofs.YtklmjdhhnnanoaaGreatDoor
open Go.ChangeShapes Go.WideShapes Go.ChangeAt Go.RowKit
attribute [local go_sem] Gives GivesE
namespace BuP
open BuM MbM MbP MpV
section
variable {w w' : World} {d g k : Nat} {F : Fq} {b : Bs}
end
end BuP
end Go.Proofs.YtklmjdhhnnanoaaGreatDoor
set_option maxRecDepth 100000
namespace Go.Proofs.YtklmjdhhnnanoaaGreatDoor
open Go.ChangeShapes Go.WideShapes Go.ChangeAt Go.RowKit
attribute [local go_sem] Gives GivesE
namespace BuP
open BuM MbM MbP
def rep1 (ms : List St) (x : BuM.Ent) : List St :=
  if x.e = 0 then (if x.d = 2 then ms.set x.m.toNat (MbM.wrT (BuM.at' ms x.m) x.i x.s) else if x.d = 3 then ms.set x.m.toNat (MbM.flT (BuM.at' ms x.m)) else ms) else ms
def repl (ms : List St) (L : List BuM.Ent) : List St := L.foldl rep1 ms
def okEnt (n : Nat) (x : BuM.Ent) : Prop := (x.d = 2 → ∀ j, x.s j < 256) ∧ (x.e = 0 → x.d = 2 ∨ x.d = 3 → ∃ mi : Nat, x.m = mi ∧ mi < n)
structure Fr (B : Nat) (X : Nat → Prop) (w : World) (gs : List Nat) (Ms Is : Nat → Nat → Prop) (k : Nat) (ms : List St) : Prop where
  len : gs.length = ms.length
  mem : ∀ (i gi : Nat) (st : St), gs[i]? = some gi → ms[i]? = some st → RepM w gi (Ms i) (Is i) k st
  ok : okM ms
  ap : ∀ i j q, i < gs.length → j < gs.length → i ≠ j → Ms i q → ¬ (Ms j q ∨ Is j q)
  low : ∀ i q, i < gs.length → Ms i q → B ≤ q ∧ ¬ X q
  xlt : ∀ q, X q → q < w.heap.size
  base : B ≤ w.heap.size
section
variable {B : Nat} {X : Nat → Prop} {w w' : World} {gs : List Nat} {Ms Is : Nat → Nat → Prop} {k : Nat} {ms : List St}
theorem Fr.below (H : Fr B X w gs Ms Is k ms) (hb : Below w.heap.size w w') : Fr B X w' gs Ms Is k ms where
  len := H.len
  mem i gi st h1 h2 := MbP.memB_ok.frame (H.mem i gi st h1 h2) (Turn.of_new (S := fun _ => False) hb) fun _ _ e => e
  ok := H.ok
  ap := H.ap
  low := H.low
  xlt q e := Nat.lt_of_lt_of_le (H.xlt q e) hb.size
  base := Nat.le_trans H.base hb.size
theorem Fr.put (H : Fr B X w gs Ms Is k ms) {j gj k' : Nat} {st' : St} (hk : k ≤ k') (hj : gs[j]? = some gj) (hok : st'.ok) (ho : outP RepM w gj (Ms j) (Is j) k' st' w') :
    ∃ Ms' Is', Fr B X w' gs Ms' Is' k' (ms.set j st') ∧ Turn (fun q => B ≤ q ∧ ¬ X q) w w' := by
  obtain ⟨M', I', h1, h2, h3, h4⟩ := ho
  have hjl := (List.getElem?_eq_some_iff.1 hj).1
  have lt : ∀ i q, i < gs.length → Ms i q ∨ Is i q → q < w.heap.size := fun i q hi e =>
    MbP.memB_ok.lt (H.mem i _ _ (List.getElem?_eq_getElem hi) (List.getElem?_eq_getElem (by rw [← H.len]; exact hi))) q e
  refine ⟨fun i => if i = j then M' else Ms i, fun i => if i = j then I' else Is i, ?_, h4.mono fun q e => H.low j q hjl e⟩
  refine { len := by rw [List.length_set]; exact H.len, mem := fun i gi st e1 e2 => ?_, ok := set_ok H.ok j hok, ap := fun i l q hi hl hne e e2 => ?_, low := fun i q hi e => ?_, xlt := fun q e => Nat.lt_of_lt_of_le (H.xlt q e) h4.size, base := Nat.le_trans H.base h4.size }
  · by_cases e : i = j
    · subst e
      rw [hj] at e1
      cases e1
      rw [List.getElem?_set_self (by rw [← H.len]; exact hjl)] at e2
      cases e2
      rw [if_pos rfl, if_pos rfl]
      exact h1
    · rw [List.getElem?_set_ne (fun x => e x.symm)] at e2
      rw [if_neg e, if_neg e]
      exact MbP.memB_ok.mono (MbP.memB_ok.frame (H.mem i gi st e1 e2) h4 fun q x y => H.ap j i q hjl (List.getElem?_eq_some_iff.1 e1).1 (fun z => e z.symm) y x) hk
  · replace e : (if i = j then M' else Ms i) q := e
    replace e2 : (if l = j then M' else Ms l) q ∨ (if l = j then I' else Is l) q := e2
    by_cases c : i = j
    · rw [if_pos c] at e
      rw [if_neg (fun z => hne (c.trans z.symm)), if_neg (fun z => hne (c.trans z.symm))] at e2
      rcases h2 q e with x | x
      · exact H.ap j l q hjl hl (fun z => hne (c.trans z)) x e2
      · have := lt l q hl e2; omega
    · rw [if_neg c] at e
      by_cases d : l = j
      · rw [if_pos d, if_pos d] at e2
        have hq := lt i q hi (.inl e)
        rcases e2 with x | x
        · rcases h2 q x with y | y
          · exact H.ap i j q hi hjl c e (.inl y)
          · omega
        · rcases h3 q x with y | y | y
          · exact H.ap i j q hi hjl c e (.inl y)
          · exact H.ap i j q hi hjl c e (.inr y)
          · omega
      · rw [if_neg d, if_neg d] at e2
        exact H.ap i l q hi hl hne e e2
  · replace e : (if i = j then M' else Ms i) q := e
    by_cases c : i = j
    · rw [if_pos c] at e
      rcases h2 q e with x | x
      · exact H.low j q hjl x
      · exact ⟨Nat.le_trans H.base x, fun y => by have := H.xlt q y; omega⟩
    · rw [if_neg c] at e
      exact H.low i q hi e
end
end BuP
end Go.Proofs.YtklmjdhhnnanoaaGreatDoor
set_option maxRecDepth 100000
namespace Go.Proofs.YtklmjdhhnnanoaaGreatDoor
open Go.ChangeShapes Go.WideShapes Go.ChangeAt Go.RowKit
attribute [local go_sem] Gives GivesE
namespace BuP
open BuM MbM MbP
def ms0 : List St := [made 4, made 4]
end BuP
end Go.Proofs.YtklmjdhhnnanoaaGreatDoor
set_option maxRecDepth 100000
namespace Go.Proofs.YtklmjdhhnnanoaaGreatDoor
open Go.ChangeShapes Go.WideShapes Go.ChangeAt Go.RowKit
attribute [local go_sem] Gives GivesE
namespace BuP
open BuM MbM MbP MpV
set_option maxHeartbeats 1000000 in
set_option maxRecDepth 100000 in
theorem lb_bad {w : World} {A : Option Addr} {gs : List Nat} {n c gc : Nat} {As : Option Addr} {ns cs : Nat} {Ms Is : Nat → Nat → Prop} {S : Nat → Prop} {Mc : Nat → Prop} {hist : List ClP.Held} {cv : ClP.Held} {k : Nat} {ms : List St}
    (hA : Sli 1 ptL S w A gs n c) (hgm : gs.length = ms.length) (hme : ∀ (i gi : Nat) (st : St), gs[i]? = some gi → ms[i]? = some st → RepM w gi (Ms i) (Is i) k st ∧ 1 ≤ st.n) (hn : n = 0 ∨ 64 < n) (hn2 : n ≤ 1000) (hce : repCb w gc Mc hist cv) :
    Calls Tryz.prog 36 #[.slice A n c, MbP.at' gc, .slice As ns cs] w fun e w' => e = .returned (.tuple #[.pointer none, .int .i64 2]) ∧ Below w.heap.size w w' := by
  have HA := hid hA
  have HM := hid hme
  have HC := hid hce
  have HG := hid hgm
  have hgn := hid hA.len
  have HN := hid hn
  clear hA hme hce hgm hn
  unfold MbP.at'
  go_enter Tryz.func36, Tryz.ntmps36
  go_wp2_with fail
  refine (cb_read HC.out).mono ?_
  rintro e w2 ⟨rfl, hb2⟩
  have B2 := hid hb2
  clear hb2
  go_upto_region 2 with (first | (with_reducible apply alZ' ClP.zCe) | ((with_reducible apply stR (ClP.tCe cv)); rfl; rfl; exact Blk.new _ _ _; exact ClP.ce_size _ _; exact ClP.ce_one _))
  generalize hw3 : World.setRow _ _ _ = w3
  have B3 := hid (show Below w.heap.size w w3 by rw [← hw3]; exact B2.out.trans (below_setRow ((Below.refl _ _).alloc (Nat.le_refl _) _) (Nat.le_refl _) _ |>.mono B2.out.size))
  clear hw3 B2
  go_wp2_with fail
  go_loopw [22] (fun u22 wr => ∃ i : Nat, u22 = .int .i64 i ∧ i ≤ n ∧ Hid (Below w.heap.size w wr)) (fun u22 _ => n - (intOf u22).toNat)
  case atStart => exact ⟨0, rfl, Nat.zero_le _, B3⟩
  case round =>
    clear B3
    obtain ⟨i, rfl, hi, HB⟩ := hrel
    obtain ⟨wo, hwo⟩ : ∃ x, x = wr := ⟨_, rfl⟩
    subst hwo
    by_cases hin : i < n
    · have t1 : (i : Int) < (n : Int) := by omega
      obtain ⟨gi, hgi⟩ : ∃ gi, gs[i]? = some gi := ⟨_, List.getElem?_eq_getElem (by rw [hgn.out]; exact hin)⟩
      obtain ⟨st, hst⟩ : ∃ st, ms[i]? = some st := ⟨_, List.getElem?_eq_getElem (by rw [← HG.out, hgn.out]; exact hin)⟩
      obtain ⟨bA, oA, rfl, hbS, hbl, hr⟩ := HA.out.some hgi
      rw [Nat.mul_one] at hr
      have q1 : wo.cell? ⟨bA, oA + i, none⟩ = some (.pointer (some ⟨gi, 0, none⟩)) := (HB.out.cell (p := ⟨bA, oA + i, none⟩) hbl).trans (pt_p hr)
      obtain ⟨hrm, hst1⟩ := HM.out i gi st hgi hst
      have RMi := hid (MbP.memB_ok.frame hrm (T := fun _ => False) (Turn.of_new HB.out) fun _ _ e => e)
      have t2 : decide (st.n = 0) = false := by simp; omega
      have t2b : (st.n == 0) = false := by simp; omega
      have t2c : ¬ st.n = 0 := by omega
      clear hgi hst hr hrm
      go_upto_region 7 with fail
      go_wp2_with fail
      refine (MbP.memB_ok.len RMi.out).mono ?_
      rintro e w4 ⟨rfl, hb⟩
      have B4 := hid (HB.out.trans (hb.mono HB.out.size))
      clear hb q1 RMi HB
      go_wp2_with fail
      go_roundw
      case rel => exact ⟨i + 1, by go_num, by omega, B4⟩
      case measure => simp [intOf] <;> omega
    · have t1 : decide ((i : Int) < (n : Int)) = false := by simp; omega
      obtain rfl : i = n := by omega
      have hn := HN.out
      rcases hn with h0 | h64
      · subst h0
        have t0 : decide (((0 : Nat) : Int) = 0) = true := rfl
        clear HN
        go_wp2_with fail
        go_ret2
        exact ⟨rfl, HB.out⟩
      · have t0 : decide ((i : Int) = 0) = false := by simp; omega
        have t0b : ((i : Int) == 0) = false := by simp; omega
        have tn0 : ¬ i = 0 := by omega
        have t64 : decide ((64 : Int) < (i : Int)) = true := by simp; omega
        have t64b : 64 < i := h64
        clear HN
        go_wp2_with fail
        go_ret2
        exact ⟨rfl, HB.out⟩
theorem bus_ok : BusC (RepK 0) where
  frame h ht hT := repK_frame h ht hT
  new hA hgm hme h1 h2 hce hS hsl hns hp := lb_new hA hgm hme h1 h2 hce hS hsl hns hp
  bad hA hgm hme hn h2 hce _ _ _ := lb_bad hA hgm hme hn h2 hce
  read H hk m i := lb_read H hk m i
  write H hk m i x hx := lb_write H hk m i x hx
  flush H hk m := lb_flush H hk m
  power H := lb_power H
  count H := lb_count H
  members H := lb_members H
  log H hk := lb_log H hk
end BuP
end Go.Proofs.YtklmjdhhnnanoaaGreatDoor
