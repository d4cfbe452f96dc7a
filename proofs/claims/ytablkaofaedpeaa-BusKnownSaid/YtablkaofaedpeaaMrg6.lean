/-
  The landed bus: an I/O, over whatever function does it.
  The landed bus: an I/O of a member.
  The landed bus: Read, Write, Flush.
  The landed bus: Read, Write, Flush.
  The landed bus: Read, Write, Flush: the walks.
  The landed bus: Read, Write, Flush.
  The landed bus: a label as a sector; a number stored in a drawn region.
  The landed bus: Cell.
  A region that draws its order, as in XRegC; that what has come up is closed is at hand.
  The landed bus: Advance's closure.
  The landed bus: Advance.
  The landed bus: copies of steps, by the numbers of their I/Os.
-/
import Derived.Test.YtablkaofaedpeaaMrg5
import Derived.Laws.CopyOwn
set_option linter.unusedVariables false
set_option linter.unusedSimpArgs false
set_option maxRecDepth 100000
namespace Go.Proofs.Ytablkaofaedpeaa
open Go.ChangeShapes Go.WideShapes Go.ChangeAt Go.RowKit
attribute [local go_sem] Gives GivesE
namespace BuP
open BuM MbM MbP MpV
/-- As outQ; blocks of X may be turned too. -/
def outX (X : Nat → Prop) (repB : RepB) (w : World) (g : Nat) (F : Fq) (k : Nat) (b : Bs) (w' : World) : Prop :=
  ∃ F', Pp repB w' g F' k b ∧ F'.gs = F.gs ∧ F'.gc = F.gc ∧ (∀ q, mutP F' q → mutP F q ∨ w.heap.size ≤ q) ∧ (∀ q, rdP F' q → mutP F q ∨ rdP F q ∨ w.heap.size ≤ q) ∧ Turn (fun q => mutP F q ∨ X q) w w'
/-- How F' came out of F. -/
def Come (X : Nat → Prop) (w : World) (F : Fq) (w' : World) (F' : Fq) : Prop := F'.gs = F.gs ∧ F'.gc = F.gc ∧ (∀ q, mutP F' q → mutP F q ∨ w.heap.size ≤ q) ∧ (∀ q, rdP F' q → mutP F q ∨ rdP F q ∨ w.heap.size ≤ q) ∧ Turn (fun q => mutP F q ∨ X q) w w'
section
variable {rB : RepB} {X Y : Nat → Prop} {w w' w2 : World} {g k : Nat} {F F' F2 : Fq} {b : Bs}
theorem Come.trans (h : Come X w F w' F') (h2 : Come Y w' F' w2 F2) (hY : ∀ q, Y q → X q ∨ w.heap.size ≤ q) : Come X w F w2 F2 := by
  obtain ⟨f1, f2, f3, f4, f5⟩ := h
  obtain ⟨e1, e2, e3, e4, e5⟩ := h2
  have hs := f5.size
  refine ⟨e1.trans f1, e2.trans f2, fun q e => ?_, fun q e => ?_, f5.trans e5 fun q e => ?_⟩
  · rcases e3 q e with y | y
    · exact f3 q y
    · exact .inr (by omega)
  · rcases e4 q e with y | y | y
    · exact (f3 q y).imp id .inr
    · exact f4 q y
    · exact .inr (.inr (by omega))
  · rcases e with y | y
    · exact (f3 q y).imp .inl id
    · exact (hY q y).imp .inr id
theorem Come.refl (X : Nat → Prop) (F : Fq) (hb : Below w.heap.size w w') : Come X w F w' F := ⟨rfl, rfl, fun _ e => .inl e, fun _ e => .inr (.inl e), Turn.of_new hb⟩
theorem Come.ofQ (h : outQ rB w g F k b w') : ∃ F', Pp rB w' g F' k b ∧ Come (fun _ => False) w F w' F' := by
  obtain ⟨F', h1, h2, h3, h4, h5, h6⟩ := h
  exact ⟨F', h1, h2, h3, h4, h5, h6.mono fun _ e => .inl e⟩
theorem Come.toQ (h : Come (fun _ => False) w F w' F') (H : Pp rB w' g F' k b) : outQ rB w g F k b w' := ⟨F', H, h.1, h.2.1, h.2.2.1, h.2.2.2.1, h.2.2.2.2.mono fun _ e => e.elim id False.elim⟩
theorem Come.toX (h : Come X w F w' F') (H : Pp rB w' g F' k b) : outX X rB w g F k b w' := ⟨F', H, h⟩
theorem Come.ofX (h : outX X rB w g F k b w') : ∃ F', Pp rB w' g F' k b ∧ Come X w F w' F' := h
theorem Come.touch (T : Nat → Prop) (F : Fq) (hb : Turn T w w') (hT : ∀ q, T q → X q ∨ w.heap.size ≤ q) : Come X w F w' F := ⟨rfl, rfl, fun _ e => .inl e, fun _ e => .inr (.inl e), (Turn.refl _ _).trans hb fun q e => (hT q e).imp .inr id⟩
end
def enP0 : BuM.Ent := ⟨0, 0, 0, fun _ => 0, 0⟩
theorem zEnP (w : World) : (zeroValue 51).run Try.prog w = .ok (.agg (enL enP0).toArray) w := (zero_of_info (P := Try.prog) (t := 51) (v := .agg (enL enP0).toArray) (n := 68) (by kernel_rfl)).1 w
section
variable {w w' : World} {g k : Nat} {F : Fq} {b : Bs}
/-- One more entry in the log; what is struck out is past. -/
theorem Pp.logged (H : Pp (RepK 1) w g F k b) {A : Option Addr} {c r : Nat} {vl v' : Value} {Fm : MpV.Img} {x : BuM.Ent} (K : Sk 1 w g F.gs F.gc A c r vl Fm F.Io b.steps b.off b.log) (hMo : F.Mo = mutK g r vl) (ht : Turn (fun q => q = g ∨ vl.ownBlock = some q) w w')
    (hb : Blk w' g 56 (pbV A F.gs.length c F.gc r v' b.off)) (ho : OwnX 51 68 enL w' 0 v' (b.log ++ [x])) (hv : ∀ q, v'.ownBlock = some q → vl.ownBlock = some q ∨ w.heap.size ≤ q) : outQ (RepK 0) w g F (k + 1) (BuM.put b x) w' := by
  have hS : ∀ q, F.Io q → ¬ (q = g ∨ vl.ownBlock = some q) := fun q e x => H.sep q (.inl e) (.inl (by rw [hMo]; exact x.imp id .inr))
  refine H.own (repB2 := RepK 0) (Mo' := mutK g r v') (off' := b.off) (log' := b.log ++ [x]) ⟨A, c, r, v', Fm, ⟨hb, K.pos, K.arr.turn ht fun q hq _ => hS q hq, K.map.turn ht fun e => e.elim (fun y => K.g_r y.symm) K.l_r, fun n hn => (K.due n ?_).turn ht hS, ho, fun q hq => Nat.lt_of_lt_of_le (K.slt q hq) ht.size⟩, rfl⟩ (ht.mono fun q e => by rw [hMo]; exact e.imp id .inr) (fun q e => ?_) (fun q e => ?_) (Nat.le_succ _) ?_
  · rw [List.length_append, List.length_cons, List.length_nil] at hn; omega
  · rcases e with e | e | e
    · exact .inl (by rw [hMo]; exact .inl e)
    · exact .inl (by rw [hMo]; exact .inr (.inl e))
    · exact (hv q e).imp (fun y => by rw [hMo]; exact .inr (.inr y)) id
  · rcases e with e | e | e
    · rw [e]; exact hb.lt
    · rw [e]; exact Nat.lt_of_lt_of_le K.map.lt ht.size
    · exact (ho.own q e).2
  · rw [List.length_append, List.length_cons, List.length_nil]; have := H.sz.2.2.2.1; omega
set_option maxHeartbeats 2000000 in
set_option maxRecDepth 100000 in
theorem lb_io {X : Nat → Prop} {D : World → Prop} {fn : FuncId} {cap : Array Value} {x y : BuM.Ent} {b2 : Bs} (H : Pp (RepK 0) w g F k b) (hk : k + b.steps.length + 2 ≤ 8000) (hcf : ∀ args w, (callFunc fn args).run Try.prog w = .ok (.enter fn args) w)
    (hX : ∀ q, X q → q < w.heap.size ∧ ¬ mutP F q ∧ ¬ rdP F q) (hD : ∀ w w' T, D w → Turn T w w' → (∀ q, X q → ¬ T q) → D w')
    (hdo : (BuM.ahead b).off = false → ∀ (w1 : World) (t : Nat) (F1 : Fq), Pp (RepK 1) w1 g F1 (k + b.steps.length) (BuM.ahead b) → Come (fun _ => False) w F w1 F1 → w.heap.size ≤ t → ¬ mutP F1 t → ¬ rdP F1 t → Blk w1 t 51 (enL x).toArray →
      Calls Try.prog fn (#[MbP.at' t] ++ cap) w1 fun e w2 => e = .returned (.tuple #[]) ∧ Blk w2 t 51 (enL y).toArray ∧ outX (fun q => q = t ∨ X q) (RepK 1) w1 g F1 (k + b.steps.length + 1) b2 w2 ∧ D w2) :
    Calls Try.prog 38 #[MbP.at' g, .agg (enL x).toArray, .func (.func fn) #[] cap] w fun e w' =>
      ((BuM.ahead b).off = true ∧ e = .returned (.agg (enL { x with e := 13 }).toArray) ∧ outQ (RepK 0) w g F (k + b.steps.length + 2) (BuM.put (BuM.ahead b) { x with e := 13 }) w') ∨
      ((BuM.ahead b).off = false ∧ e = .returned (.agg (enL y).toArray) ∧ outX X (RepK 0) w g F (k + b.steps.length + 2) (BuM.put b2 y) w' ∧ D w') := by
  have HH := hid H
  have HX := hid hX
  have HD := hid hD
  have HDO := hid hdo
  have hps := H.pos
  clear H hX hD hdo
  unfold MbP.at'
  go_enter Try.func38, Try.ntmps38
  go_upto_region 1 with (with_reducible apply alZ' zEnP)
  simp only [Act.put, List.setIfInBounds_toArray, List.set_cons_succ, List.set_cons_zero]
  generalize hw0 : World.alloc w _ = w0
  generalize hw1 : World.alloc w0 _ = w1
  obtain ⟨gT, hgT⟩ : ∃ n, n = w.heap.size := ⟨_, rfl⟩
  obtain ⟨gR, hgR⟩ : ∃ n, n = w0.heap.size := ⟨_, rfl⟩
  have hs0 : w0.heap.size = w.heap.size + 1 := by rw [← hw0]; simp
  have bT := hid (show Blk w1 gT 51 (enL x).toArray by rw [← hw1, ← hw0, hgT]; exact (Blk.new _ _ _).alloc _)
  have bR := hid (show Blk w1 gR 51 (enL enP0).toArray by rw [← hw1, hgR]; exact Blk.new _ _ _)
  have BEL := hid (show Below w.heap.size w w1 by rw [← hw1, ← hw0]; exact ((Below.refl _ _).alloc (Nat.le_refl _) _).alloc (by simp) _)
  rw [← hgT, ← hgR]
  have hTR : gT ≠ gR := by omega
  have hTw := hid (show w.heap.size ≤ gT by omega)
  have hRw := hid (show w.heap.size ≤ gR by omega)
  clear hw1 hw0 hs0 hgT hgR
  have H1 := hid (HH.out.belowK BEL.out)
  obtain ⟨A0, c0, p0⟩ := H1.out.hd
  go_wp2_with fail
  refine (lb_made p0 hps).mono ?_
  rintro e w' ⟨rfl, rfl⟩
  clear p0
  go_wp2_with fail
  refine (lb_steps H1.out (by omega)).mono ?_
  rintro e w2 ⟨rfl, ho⟩
  obtain ⟨F2, hP2, hC2⟩ := Come.ofQ ho
  have P2 := hid hP2
  have C2 := hid (show Come (fun _ => False) w F w2 F2 from (Come.refl _ F BEL.out).trans hC2 fun _ e => e.elim)
  have nT : ¬ mutP F2 gT ∧ ¬ rdP F2 gT := by
    have h1 := bT.out.lt
    have hl := hTw.out
    refine ⟨fun e => ?_, fun e => ?_⟩
    · rcases hC2.2.2.1 gT e with y | y
      · have := HH.out.mlt gT y; omega
      · omega
    · rcases hC2.2.2.2.1 gT e with y | y | y
      · have := HH.out.mlt gT y; omega
      · have := HH.out.ilt gT y; omega
      · omega
  have nR : ¬ mutP F2 gR ∧ ¬ rdP F2 gR := by
    have h1 := bR.out.lt
    have hl := hRw.out
    refine ⟨fun e => ?_, fun e => ?_⟩
    · rcases hC2.2.2.1 gR e with y | y
      · have := HH.out.mlt gR y; omega
      · omega
    · rcases hC2.2.2.2.1 gR e with y | y | y
      · have := HH.out.mlt gR y; omega
      · have := HH.out.ilt gR y; omega
      · omega
  have tQ : ∀ q, q < w1.heap.size → w.heap.size ≤ q → ¬ (mutP F q ∨ False) := fun q _ hq e => by
    rcases e with y | y
    · have := HH.out.mlt q y; omega
    · exact y
  have T2 := hid (bT.out.turn hC2.2.2.2.2 (tQ gT bT.out.lt hTw.out))
  have R2 := hid (bR.out.turn hC2.2.2.2.2 (tQ gR bR.out.lt hRw.out))
  clear ho hP2 hC2 bT bR tQ H1
  obtain ⟨A2, c2, r2, vl2, Fm2, K2, hMo2⟩ := P2.out.skel
  have p4 := pb_off K2.blk
  clear K2 hMo2
  cases hoff : (BuM.ahead b).off with
  | true =>
    rw [hoff] at p4
    have q67 := en_qe T2.out
    have fz := T2.out.frozen 67
    have ts := Turn.setCell (S := fun q => q = gT) w2 ⟨gT, 67, none⟩ (.int .i64 13) rfl
    have P3 := hid ((P2.out.turnK ts fun q e x => by rw [x] at e; exact e.elim nT.1 nT.2).mono (Nat.le_succ (k + b.steps.length)))
    have T3 := hid (en_setE T2.out 13)
    have R3 := hid (R2.out.turn ts fun e => hTR e.symm)
    have C3 := hid (show Come (fun _ => False) w F (w2.setCell ⟨gT, 67, none⟩ (.int .i64 13)) F2 from C2.out.trans (Come.touch (X := fun q => q = gT) _ F2 ts fun q e => .inl e) fun q e => .inr (e ▸ hTw.out))
    have nT3 := nT.1
    have nR3 := nR
    clear ts P2 T2 R2 C2 nT nR HDO HD HX
    go_upto_region 7 with fail
    generalize World.setCell w2 _ _ = w3 at P3 T3 R3 C3 ⊢
    clear p4 q67 fz
    obtain ⟨A3, c3, r3, vl3, Fm3, K3, hMo3⟩ := P3.out.skel
    obtain ⟨Al, cl, rfl, _⟩ := K3.lg.sli enL_len
    have hMm := hid (show ∀ q, (q = g ∨ (Value.slice Al (BuM.ahead b).log.length cl).ownBlock = some q) → mutP F2 q from fun q e => .inl (by rw [hMo3]; exact e.imp id .inr))
    have SK := hid K3
    have hMo := hid hMo3
    have hlg : (BuM.ahead b).log.length ≤ 9000 := Nat.le_trans P3.out.sz.2.2.2.1 (by omega)
    have hgw := K3.blk.lt
    have gTo : (Value.slice Al (BuM.ahead b).log.length cl).ownBlock ≠ some gT := fun e => nT3 (hMm.out _ (.inr e))
    have gTg : gT ≠ g := fun e => nT3 (hMm.out _ (.inl e))
    clear K3 hMo3
    refine wp_region_c (S := yS [some (.pointer (some ⟨g, 0, none⟩)), some (.pointer (some ⟨g, 0, none⟩)), some (.pointer (some ⟨g, 0, none⟩)), some (.pointer (some ⟨g, 3, none⟩)), some (.slice Al (BuM.ahead b).log.length cl), some (.agg (enL { x with e := 13 }).toArray), none, none, some (.pointer (some ⟨g, 0, none⟩)), some (.pointer (some ⟨g, 3, none⟩))]
      [(6, kSl 1), (7, kSl ((BuM.ahead b).log.length + 1))]) (C := fun d vs w' => ApC 51 68 enL w3 (.slice Al (BuM.ahead b).log.length cl) (BuM.ahead b).log ({ x with e := 13 }) (d 6) (d 7) (vs 6) (vs 7) w') 10 (by kernel_rfl) (by kernel_rfl) (by kernel_rfl) _
      (yS_ok _ fun y hy => by simp only [List.mem_cons, List.not_mem_nil, or_false] at hy; rcases hy with rfl | rfl <;> exact kSl_ok _) ⟨Turn.drew _, fun _ => (Below.refl _ _).drew, (fun e => by cases e), (fun e => by cases e)⟩ fun vs => ?_
    simp only [List.take_succ_cons, List.take_zero, List.drop_succ_cons, List.drop_zero]
    refine ⟨.inl ⟨rfl, fun dd w' hd hnx hw hC => ?_⟩, fun e => ?_⟩
    · go_simp
      first | exact ⟨rfl, hC⟩ | exact hC
    have e' : vs 0 = _ := e
    rw [e']
    clear e e'
    simp only [Act.put, List.setIfInBounds_toArray, List.set_cons_succ, List.set_cons_zero]
    refine ⟨.inl ⟨rfl, fun dd w' hd hnx hw hC => ?_⟩, fun e => ?_⟩
    · go_simp
      first | exact ⟨rfl, hC⟩ | exact hC
    have e' : vs 1 = _ := e
    rw [e']
    clear e e'
    simp only [Act.put, List.setIfInBounds_toArray, List.set_cons_succ, List.set_cons_zero]
    refine ⟨.inl ⟨rfl, fun dd w' hd hnx hw hC => ?_⟩, fun e => ?_⟩
    · go_simp
      first | exact ⟨rfl, hC⟩ | exact hC
    have e' : vs 2 = _ := e
    rw [e']
    clear e e'
    simp only [Act.put, List.setIfInBounds_toArray, List.set_cons_succ, List.set_cons_zero]
    refine ⟨.inl ⟨rfl, fun dd w' hd hnx hw hC => ?_⟩, fun e => ?_⟩
    · go_simp
      first | exact ⟨rfl, hC⟩ | exact hC
    have e' : vs 3 = _ := e
    rw [e']
    clear e e'
    simp only [Act.put, List.setIfInBounds_toArray, List.set_cons_succ, List.set_cons_zero]
    refine ⟨.inl ⟨rfl, fun dd w' hd hnx hw hC => ?_⟩, fun e => ?_⟩
    · have h1 : w'.cell? ⟨g, 3, none⟩ = some (.slice Al (BuM.ahead b).log.length cl) := pb_lg (SK.out.blk.turn hC.t SK.out.l_g)
      go_simp
      first | exact ⟨rfl, hC⟩ | exact hC
    have e' : vs 4 = _ := e
    rw [e']
    clear e e'
    simp only [Act.put, List.setIfInBounds_toArray, List.set_cons_succ, List.set_cons_zero]
    refine ⟨.inl ⟨rfl, fun dd w' hd hnx hw hC => ?_⟩, fun e => ?_⟩
    · exact ClP.gE_ldR (cs := (enL { x with e := 13 }).toArray) (tEnP _) rfl (T3.out.turn hC.t gTo).whole ⟨rfl, hC⟩
    have e' : vs 5 = _ := e
    rw [e']
    clear e e'
    simp only [Act.put, List.setIfInBounds_toArray, List.set_cons_succ, List.set_cons_zero]
    refine ⟨.inl ⟨rfl, fun dd w' hd hnx hw hC => ?_⟩, fun e => ?_⟩
    · have h8 : dd 7 = false := hnx 7 (by kernel_rfl)
      have ha := (Below.refl w'.heap.size w').alloc (Nat.le_refl _) (.cells (enL { x with e := 13 }).toArray 51)
      have hbl := hC.b h8
      exact gE_lit1 (x := ({ x with e := 13 } : BuM.Ent)) eltEnP undEnP (by omega) rfl rfl ⟨⟨_, _, rfl⟩, hC.t.trans (Turn.of_new (S := fun _ => False) ha) (fun _ e => e.elim), (fun _ => hbl.trans (ha.mono hbl.size)), (fun _ _ => ⟨_, _, rfl, sli_lit1 eltEnP ({ x with e := 13 } : BuM.Ent) w' hbl.size⟩), fun e => by
        have e' : dd 7 = true := e
        rw [h8] at e'; cases e'⟩
    obtain ⟨A7, c7, e'⟩ : ∃ (A : Option Addr) (c : Nat), vs 6 = .slice A 1 c := e
    rw [e']
    have E7 := hid e'
    clear e'
    simp only [Act.put, List.setIfInBounds_toArray, List.set_cons_succ, List.set_cons_zero]
    refine ⟨.inl ⟨rfl, fun dd w' hd hnx hw hC => ?_⟩, fun e => ?_⟩
    · have h7 : dd 6 = true := hw 6 (by kernel_rfl)
      have hbl := hC.b hd
      obtain ⟨A', c', f, sl⟩ := hC.lit h7 hd
      rw [E7.out] at f
      cases f
      refine gE_appW eltEnP undEnP (B := 0) (v := .slice Al (BuM.ahead b).log.length cl) (l := (BuM.ahead b).log) (m := [({ x with e := 13 } : BuM.Ent)]) rfl rfl (SK.out.lg.below hbl (Nat.le_refl _)) sl (by omega) (by omega) (Nat.zero_le _) fun v' w4 o4 g4 wh => ?_
      obtain ⟨A4, c4, rfl, _⟩ := o4.sli enL_len
      refine ⟨⟨A4, c4, by rw [List.length_append]; rfl⟩, ?_⟩
      exact ⟨(Turn.of_new (S := fun b' => (Value.slice Al (BuM.ahead b).log.length cl).ownBlock = some b') hbl).trans (Turn.of_grown (S := fun b' => (Value.slice Al (BuM.ahead b).log.length cl).ownBlock = some b') g4 fun b' e => e) (fun b' e => .inl e), (fun e => by cases e), (fun _ e => by cases e), fun _ => ⟨o4, fun b' e => by
        have e3 : (Value.slice A4 ((BuM.ahead b).log ++ [({ x with e := 13 } : BuM.Ent)]).length c4).ownBlock = some b' := e
        rcases wh with x | x
        · exact .inl (x.symm.trans e3)
        · rw [x] at e3; cases e3; exact .inr hbl.size⟩⟩
    obtain ⟨A8, c8, e'⟩ : ∃ (A : Option Addr) (c : Nat), vs 7 = .slice A ((BuM.ahead b).log.length + 1) c := e
    rw [e']
    have E8 := hid e'
    clear e'
    simp only [Act.put, List.setIfInBounds_toArray, List.set_cons_succ, List.set_cons_zero]
    refine ⟨.inl ⟨rfl, fun dd w' hd hnx hw hC => ?_⟩, fun e => ?_⟩
    · go_simp
      first | exact ⟨rfl, hC⟩ | exact hC
    have e' : vs 8 = _ := e
    rw [e']
    clear e e'
    simp only [Act.put, List.setIfInBounds_toArray, List.set_cons_succ, List.set_cons_zero]
    refine ⟨.inl ⟨rfl, fun dd w' hd hnx hw hC => ?_⟩, fun e => ?_⟩
    · go_simp
      first | exact ⟨rfl, hC⟩ | exact hC
    have e' : vs 9 = _ := e
    rw [e']
    clear e e'
    simp only [Act.put, List.setIfInBounds_toArray, List.set_cons_succ, List.set_cons_zero]
    intro dd w4 hall hC
    obtain ⟨o4, wh⟩ := hC.own (hall 7 (by omega))
    rw [E8.out] at o4 wh
    have bb4 := SK.out.blk.turn hC.t SK.out.l_g
    have tu5 := Turn.setCell (S := fun q => q = g) w4 ⟨g, 3, none⟩ (.slice A8 ((BuM.ahead b).log.length + 1) c8) rfl
    have hne4 : ∀ q, (Value.slice A8 ((BuM.ahead b).log.length + 1) c8).ownBlock = some q → q ≠ g := fun q e e2 => by
      rcases wh q e with x | x
      · exact SK.out.l_g (by rw [x, e2])
      · omega
    have TT5 := hid (show Turn (fun q => (q = g ∨ (Value.slice Al (BuM.ahead b).log.length cl).ownBlock = some q) ∨ w3.heap.size ≤ q) w3 (w4.setCell ⟨g, 3, none⟩ (.slice A8 ((BuM.ahead b).log.length + 1) c8)) from
      (hC.t.mono fun q e => .inl (.inr e)).trans tu5 fun q e => .inl (.inl (.inl e)))
    have TU5 := hid (show Turn (fun q => q = g ∨ (Value.slice Al (BuM.ahead b).log.length cl).ownBlock = some q) w3 (w4.setCell ⟨g, 3, none⟩ (.slice A8 ((BuM.ahead b).log.length + 1) c8)) from
      (hC.t.mono fun q e => .inr e).trans tu5 fun q e => .inl (.inl e))
    have HL := hid (P3.out.logged (x := { x with e := 13 }) SK.out hMo.out TU5.out (pb_setLg bb4 _) (o4.turn tu5 hne4) wh)
    have T5 := hid (T3.out.turn TU5.out fun e => e.elim gTg gTo)
    have R5 := hid (R3.out.turn TU5.out fun e => nR3.1 (hMm.out _ e))
    have hRl := hid R3.out.lt
    have p3 : w4.cell? ⟨g, 3, none⟩ = some (.slice Al (BuM.ahead b).log.length cl) := pb_lg bb4
    have fz := bb4.frozen 3
    clear hC o4 wh hall E7 E8 tu5 hne4 bb4 SK hMo T3 R3
    go_upto_region 8 with fail
    generalize World.setCell w4 _ _ = w5 at TT5 TU5 HL T5 R5 ⊢
    clear p3 fz
    go_wp2_with (first | ((with_reducible apply ldR (cs := (enL { x with e := 13 }).toArray) (tEnP _)); rfl; exact T5.out.whole) | ((with_reducible apply stR (tEnP _)); rfl; rfl; exact R5.out; exact en_size _ _; exact en_one' _))
    generalize hw6 : World.setRow w5 _ _ = w6
    have R6 := hid (show Blk w6 gR 51 (enL { x with e := 13 }).toArray by rw [← hw6]; exact R5.out.setRow_same _)
    have T6 := hid (show Turn (fun q => q = gR) w5 w6 by rw [← hw6]; exact Turn.setRow _ _ _ rfl)
    obtain ⟨F5, hP5, hC5⟩ := Come.ofQ HL.out
    have nR5 : ¬ mutP F5 gR ∧ ¬ rdP F5 gR := by
      have h1 := hRl.out
      refine ⟨fun e => ?_, fun e => ?_⟩
      · rcases hC5.2.2.1 gR e with y | y
        · exact nR3.1 y
        · omega
      · rcases hC5.2.2.2.1 gR e with y | y | y
        · exact nR3.1 y
        · exact nR3.2 y
        · omega
    have P6 := hid (hP5.turnK T6.out fun q e x => by rw [x] at e; exact e.elim nR5.1 nR5.2)
    have C6 := hid (show Come (fun _ => False) w F w6 F5 from (C3.out.trans hC5 fun _ e => e.elim).trans (Come.touch (X := fun q => q = gR) _ F5 T6.out fun q e => .inl e) fun q e => .inr (e ▸ hRw.out))
    clear hw6 HL hP5 hC5 T5 R5 nR5
    apply ret_row' (tEnP _) Try.results38
    · rfl
    · rfl
    · exact R6.out
    exact .inl ⟨by first | rfl | exact hoff, rfl, C6.out.toQ P6.out⟩
  | false =>
    rw [hoff] at p4
    have hdo := HDO.out hoff w2 gT F2 P2.out C2.out hTw.out nT.1 nT.2 T2.out
    clear HDO
    go_wp2_with fail
    clear p4
    refine hdo.mono ?_
    rintro e w3 ⟨rfl, hb, ho, hd⟩
    obtain ⟨F3, hP3, hC3⟩ := Come.ofX ho
    have P3 := hid hP3
    have T3 := hid hb
    have nT3 : ¬ mutP F3 gT := fun e => by
      have h1 := T2.out.lt
      rcases hC3.2.2.1 gT e with y | y
      · exact nT.1 y
      · omega
    have nR3 : ¬ mutP F3 gR ∧ ¬ rdP F3 gR := by
      have h1 := R2.out.lt
      refine ⟨fun e => ?_, fun e => ?_⟩
      · rcases hC3.2.2.1 gR e with y | y
        · exact nR.1 y
        · omega
      · rcases hC3.2.2.2.1 gR e with y | y | y
        · exact nR.1 y
        · exact nR.2 y
        · omega
    have R3 := hid (R2.out.turn hC3.2.2.2.2 fun e => by
      rcases e with e | e | e
      · exact nR.1 e
      · exact hTR e.symm
      · have := (HX.out gR e).1; have := hRw.out; omega)
    have C3 := hid (show Come X w F w3 F3 from Come.trans (X := X) (Come.trans (X := X) (Come.refl X F (Below.refl _ _)) C2.out fun _ e => e.elim) hC3 fun q e => e.elim (fun y => .inr (y ▸ hTw.out)) .inl)
    have nX := hid (show ∀ q, X q → ¬ mutP F3 q from fun q e x => by
      have hq := HX.out q e
      rcases C3.out.2.2.1 q x with y | y
      · exact hq.2.1 y
      · omega)
    have D3 := hid hd
    clear ho hP3 hC3 hb hd hdo P2 T2 R2 C2 nT nR
    go_upto_region 7 with fail
    obtain ⟨A3, c3, r3, vl3, Fm3, K3, hMo3⟩ := P3.out.skel
    obtain ⟨Al, cl, rfl, _⟩ := K3.lg.sli enL_len
    have hMm := hid (show ∀ q, (q = g ∨ (Value.slice Al (b2).log.length cl).ownBlock = some q) → mutP F3 q from fun q e => .inl (by rw [hMo3]; exact e.imp id .inr))
    have SK := hid K3
    have hMo := hid hMo3
    have hlg : (b2).log.length ≤ 9000 := Nat.le_trans P3.out.sz.2.2.2.1 (by omega)
    have hgw := K3.blk.lt
    have gTo : (Value.slice Al (b2).log.length cl).ownBlock ≠ some gT := fun e => nT3 (hMm.out _ (.inr e))
    have gTg : gT ≠ g := fun e => nT3 (hMm.out _ (.inl e))
    clear K3 hMo3
    refine wp_region_c (S := yS [some (.pointer (some ⟨g, 0, none⟩)), some (.pointer (some ⟨g, 0, none⟩)), some (.pointer (some ⟨g, 0, none⟩)), some (.pointer (some ⟨g, 3, none⟩)), some (.slice Al (b2).log.length cl), some (.agg (enL y).toArray), none, none, some (.pointer (some ⟨g, 0, none⟩)), some (.pointer (some ⟨g, 3, none⟩))]
      [(6, kSl 1), (7, kSl ((b2).log.length + 1))]) (C := fun d vs w' => ApC 51 68 enL w3 (.slice Al (b2).log.length cl) (b2).log (y) (d 6) (d 7) (vs 6) (vs 7) w') 10 (by kernel_rfl) (by kernel_rfl) (by kernel_rfl) _
      (yS_ok _ fun y hy => by simp only [List.mem_cons, List.not_mem_nil, or_false] at hy; rcases hy with rfl | rfl <;> exact kSl_ok _) ⟨Turn.drew _, fun _ => (Below.refl _ _).drew, (fun e => by cases e), (fun e => by cases e)⟩ fun vs => ?_
    simp only [List.take_succ_cons, List.take_zero, List.drop_succ_cons, List.drop_zero]
    refine ⟨.inl ⟨rfl, fun dd w' hd hnx hw hC => ?_⟩, fun e => ?_⟩
    · go_simp
      first | exact ⟨rfl, hC⟩ | exact hC
    have e' : vs 0 = _ := e
    rw [e']
    clear e e'
    simp only [Act.put, List.setIfInBounds_toArray, List.set_cons_succ, List.set_cons_zero]
    refine ⟨.inl ⟨rfl, fun dd w' hd hnx hw hC => ?_⟩, fun e => ?_⟩
    · go_simp
      first | exact ⟨rfl, hC⟩ | exact hC
    have e' : vs 1 = _ := e
    rw [e']
    clear e e'
    simp only [Act.put, List.setIfInBounds_toArray, List.set_cons_succ, List.set_cons_zero]
    refine ⟨.inl ⟨rfl, fun dd w' hd hnx hw hC => ?_⟩, fun e => ?_⟩
    · go_simp
      first | exact ⟨rfl, hC⟩ | exact hC
    have e' : vs 2 = _ := e
    rw [e']
    clear e e'
    simp only [Act.put, List.setIfInBounds_toArray, List.set_cons_succ, List.set_cons_zero]
    refine ⟨.inl ⟨rfl, fun dd w' hd hnx hw hC => ?_⟩, fun e => ?_⟩
    · go_simp
      first | exact ⟨rfl, hC⟩ | exact hC
    have e' : vs 3 = _ := e
    rw [e']
    clear e e'
    simp only [Act.put, List.setIfInBounds_toArray, List.set_cons_succ, List.set_cons_zero]
    refine ⟨.inl ⟨rfl, fun dd w' hd hnx hw hC => ?_⟩, fun e => ?_⟩
    · have h1 : w'.cell? ⟨g, 3, none⟩ = some (.slice Al (b2).log.length cl) := pb_lg (SK.out.blk.turn hC.t SK.out.l_g)
      go_simp
      first | exact ⟨rfl, hC⟩ | exact hC
    have e' : vs 4 = _ := e
    rw [e']
    clear e e'
    simp only [Act.put, List.setIfInBounds_toArray, List.set_cons_succ, List.set_cons_zero]
    refine ⟨.inl ⟨rfl, fun dd w' hd hnx hw hC => ?_⟩, fun e => ?_⟩
    · exact ClP.gE_ldR (cs := (enL y).toArray) (tEnP _) rfl (T3.out.turn hC.t gTo).whole ⟨rfl, hC⟩
    have e' : vs 5 = _ := e
    rw [e']
    clear e e'
    simp only [Act.put, List.setIfInBounds_toArray, List.set_cons_succ, List.set_cons_zero]
    refine ⟨.inl ⟨rfl, fun dd w' hd hnx hw hC => ?_⟩, fun e => ?_⟩
    · have h8 : dd 7 = false := hnx 7 (by kernel_rfl)
      have ha := (Below.refl w'.heap.size w').alloc (Nat.le_refl _) (.cells (enL y).toArray 51)
      have hbl := hC.b h8
      exact gE_lit1 (x := (y : BuM.Ent)) eltEnP undEnP (by omega) rfl rfl ⟨⟨_, _, rfl⟩, hC.t.trans (Turn.of_new (S := fun _ => False) ha) (fun _ e => e.elim), (fun _ => hbl.trans (ha.mono hbl.size)), (fun _ _ => ⟨_, _, rfl, sli_lit1 eltEnP (y : BuM.Ent) w' hbl.size⟩), fun e => by
        have e' : dd 7 = true := e
        rw [h8] at e'; cases e'⟩
    obtain ⟨A7, c7, e'⟩ : ∃ (A : Option Addr) (c : Nat), vs 6 = .slice A 1 c := e
    rw [e']
    have E7 := hid e'
    clear e'
    simp only [Act.put, List.setIfInBounds_toArray, List.set_cons_succ, List.set_cons_zero]
    refine ⟨.inl ⟨rfl, fun dd w' hd hnx hw hC => ?_⟩, fun e => ?_⟩
    · have h7 : dd 6 = true := hw 6 (by kernel_rfl)
      have hbl := hC.b hd
      obtain ⟨A', c', f, sl⟩ := hC.lit h7 hd
      rw [E7.out] at f
      cases f
      refine gE_appW eltEnP undEnP (B := 0) (v := .slice Al (b2).log.length cl) (l := (b2).log) (m := [(y : BuM.Ent)]) rfl rfl (SK.out.lg.below hbl (Nat.le_refl _)) sl (by omega) (by omega) (Nat.zero_le _) fun v' w4 o4 g4 wh => ?_
      obtain ⟨A4, c4, rfl, _⟩ := o4.sli enL_len
      refine ⟨⟨A4, c4, by rw [List.length_append]; rfl⟩, ?_⟩
      exact ⟨(Turn.of_new (S := fun b' => (Value.slice Al (b2).log.length cl).ownBlock = some b') hbl).trans (Turn.of_grown (S := fun b' => (Value.slice Al (b2).log.length cl).ownBlock = some b') g4 fun b' e => e) (fun b' e => .inl e), (fun e => by cases e), (fun _ e => by cases e), fun _ => ⟨o4, fun b' e => by
        have e3 : (Value.slice A4 ((b2).log ++ [(y : BuM.Ent)]).length c4).ownBlock = some b' := e
        rcases wh with x | x
        · exact .inl (x.symm.trans e3)
        · rw [x] at e3; cases e3; exact .inr hbl.size⟩⟩
    obtain ⟨A8, c8, e'⟩ : ∃ (A : Option Addr) (c : Nat), vs 7 = .slice A ((b2).log.length + 1) c := e
    rw [e']
    have E8 := hid e'
    clear e'
    simp only [Act.put, List.setIfInBounds_toArray, List.set_cons_succ, List.set_cons_zero]
    refine ⟨.inl ⟨rfl, fun dd w' hd hnx hw hC => ?_⟩, fun e => ?_⟩
    · go_simp
      first | exact ⟨rfl, hC⟩ | exact hC
    have e' : vs 8 = _ := e
    rw [e']
    clear e e'
    simp only [Act.put, List.setIfInBounds_toArray, List.set_cons_succ, List.set_cons_zero]
    refine ⟨.inl ⟨rfl, fun dd w' hd hnx hw hC => ?_⟩, fun e => ?_⟩
    · go_simp
      first | exact ⟨rfl, hC⟩ | exact hC
    have e' : vs 9 = _ := e
    rw [e']
    clear e e'
    simp only [Act.put, List.setIfInBounds_toArray, List.set_cons_succ, List.set_cons_zero]
    intro dd w4 hall hC
    obtain ⟨o4, wh⟩ := hC.own (hall 7 (by omega))
    rw [E8.out] at o4 wh
    have bb4 := SK.out.blk.turn hC.t SK.out.l_g
    have tu5 := Turn.setCell (S := fun q => q = g) w4 ⟨g, 3, none⟩ (.slice A8 ((b2).log.length + 1) c8) rfl
    have hne4 : ∀ q, (Value.slice A8 ((b2).log.length + 1) c8).ownBlock = some q → q ≠ g := fun q e e2 => by
      rcases wh q e with x | x
      · exact SK.out.l_g (by rw [x, e2])
      · omega
    have TT5 := hid (show Turn (fun q => (q = g ∨ (Value.slice Al (b2).log.length cl).ownBlock = some q) ∨ w3.heap.size ≤ q) w3 (w4.setCell ⟨g, 3, none⟩ (.slice A8 ((b2).log.length + 1) c8)) from
      (hC.t.mono fun q e => .inl (.inr e)).trans tu5 fun q e => .inl (.inl (.inl e)))
    have TU5 := hid (show Turn (fun q => q = g ∨ (Value.slice Al (b2).log.length cl).ownBlock = some q) w3 (w4.setCell ⟨g, 3, none⟩ (.slice A8 ((b2).log.length + 1) c8)) from
      (hC.t.mono fun q e => .inr e).trans tu5 fun q e => .inl (.inl e))
    have HL := hid (P3.out.logged (x := y) SK.out hMo.out TU5.out (pb_setLg bb4 _) (o4.turn tu5 hne4) wh)
    have T5 := hid (T3.out.turn TU5.out fun e => e.elim gTg gTo)
    have R5 := hid (R3.out.turn TU5.out fun e => nR3.1 (hMm.out _ e))
    have hRl := hid R3.out.lt
    have p3 : w4.cell? ⟨g, 3, none⟩ = some (.slice Al (b2).log.length cl) := pb_lg bb4
    have fz := bb4.frozen 3
    clear hC o4 wh hall E7 E8 tu5 hne4 bb4 SK hMo T3 R3
    go_upto_region 8 with fail
    generalize World.setCell w4 _ _ = w5 at TT5 TU5 HL T5 R5 ⊢
    clear p3 fz
    go_wp2_with (first | ((with_reducible apply ldR (cs := (enL y).toArray) (tEnP _)); rfl; exact T5.out.whole) | ((with_reducible apply stR (tEnP _)); rfl; rfl; exact R5.out; exact en_size _ _; exact en_one' _))
    generalize hw6 : World.setRow w5 _ _ = w6
    have R6 := hid (show Blk w6 gR 51 (enL y).toArray by rw [← hw6]; exact R5.out.setRow_same _)
    have T6 := hid (show Turn (fun q => q = gR) w5 w6 by rw [← hw6]; exact Turn.setRow _ _ _ rfl)
    obtain ⟨F5, hP5, hC5⟩ := Come.ofQ HL.out
    have nR5 : ¬ mutP F5 gR ∧ ¬ rdP F5 gR := by
      have h1 := hRl.out
      refine ⟨fun e => ?_, fun e => ?_⟩
      · rcases hC5.2.2.1 gR e with y | y
        · exact nR3.1 y
        · omega
      · rcases hC5.2.2.2.1 gR e with y | y | y
        · exact nR3.1 y
        · exact nR3.2 y
        · omega
    have P6 := hid (hP5.turnK T6.out fun q e x => by rw [x] at e; exact e.elim nR5.1 nR5.2)
    have C6 := hid (show Come X w F w6 F5 from (C3.out.trans hC5 fun _ e => e.elim).trans (Come.touch (X := fun q => q = gR) _ F5 T6.out fun q e => .inl e) fun q e => .inr (e ▸ hRw.out))
    clear hw6 HL hP5 hC5 T5 R5 nR5
    apply ret_row' (tEnP _) Try.results38
    · rfl
    · rfl
    · exact R6.out
    have D6 := hid (show D w6 from HD.out _ _ _ (HD.out _ _ _ D3.out TT5.out fun q e x => by
      rcases x with x | x
      · exact nX.out q e (hMm.out q x)
      · have h1 := (HX.out q e).1; have h2 := C3.out.2.2.2.2.size; omega) T6.out fun q e x => by
        have h1 := (HX.out q e).1; have := hRw.out; rw [x] at h1; omega)
    exact .inr ⟨by first | rfl | exact hoff, rfl, C6.out.toX P6.out, D6.out⟩
end
end BuP
end Go.Proofs.Ytablkaofaedpeaa
set_option maxRecDepth 100000
namespace Go.Proofs.Ytablkaofaedpeaa
open Go.ChangeShapes Go.WideShapes Go.ChangeAt Go.RowKit
attribute [local go_sem] Gives GivesE
namespace BuP
open BuM MbM MbP MpV
section
variable {w w' : World} {d g k : Nat} {F : Fq} {b : Bs}
set_option maxRecDepth 100000 in
theorem lb_ofmIn {t g1 g3 mi gi : Nat} {x : BuM.Ent} {fn : FuncId} {cap : Array Value} {R : World → Prop} {T1 T3 : TypeId} (H : Pp (RepK d) w g F k b) (hm : mi < b.ms.length) (hgi : F.gs[mi]? = some gi) (hx : x.m = (mi : Int)) (bt : Blk w t 51 (enL x).toArray)
    (b1 : Blk w g1 T1 #[.pointer (some ⟨g, 0, none⟩)]) (b3 : Blk w g3 T3 #[.func (.func fn) #[] cap]) (hcf : ∀ args w, (callFunc fn args).run Try.prog w = .ok (.enter fn args) w)
    (hcall : ∀ w2, Below w.heap.size w w2 → Calls Try.prog fn (#[MbP.at' gi, MbP.at' t] ++ cap) w2 fun e w' => e = .returned (.tuple #[]) ∧ R w') :
    Calls Try.prog 58 #[MbP.at' t, .pointer (some ⟨g1, 0, none⟩), .pointer (some ⟨g3, 0, none⟩)] w fun e w' => e = .returned (.tuple #[]) ∧ R w' := by
  obtain ⟨gi', st, A, c, bA, oA, h1, _, _, _, h5, rfl, h7, _⟩ := H.at hm
  rw [hgi] at h1
  cases h1
  have hps := H.pos
  have qm : w.cell? ⟨t, 1, none⟩ = some (.int .i64 (mi : Nat)) := by rw [← hx]; exact en_m (o := 0) bt.whole
  have q1 : w.cell? ⟨g1, 0, none⟩ = some (.pointer (some ⟨g, 0, none⟩)) := b1.cell 0
  have q3 : w.cell? ⟨g3, 0, none⟩ = some (.func (.func fn) #[] cap) := b3.cell 0
  have HC := hid hcall
  clear H hcall bt b1 b3 hgi hx
  unfold MbP.at'
  go_enter Try.func58, Try.ntmps58
  go_upto_region 0 with fail
  refine wp_region_tail (C := fun w' => Below w.heap.size w w') 5 (by kernel_rfl) (by kernel_rfl) (by kernel_rfl) (Below.refl _ _).drew ?_
  simp only [List.take_succ_cons, List.take_zero, List.drop_succ_cons, List.drop_zero]
  apply wpK_val
  · rfl
  · intro w' hw'
    have hcell := (hw'.cell (p := ⟨g1, 0, none⟩) (World.block_lt_of_cell? w _ q1)).trans q1
    go_simp
    first | exact rfl | exact ⟨rfl, hw'⟩
  simp only [Act.put, List.setIfInBounds_toArray, List.set_cons_succ, List.set_cons_zero]
  apply wpK_val
  · rfl
  · intro w' hw'
    go_simp
    first | exact rfl | exact ⟨rfl, hw'⟩
  simp only [Act.put, List.setIfInBounds_toArray, List.set_cons_succ, List.set_cons_zero]
  apply wpK_val
  · rfl
  · intro w' hw'
    go_simp
    first | exact rfl | exact ⟨rfl, hw'⟩
  simp only [Act.put, List.setIfInBounds_toArray, List.set_cons_succ, List.set_cons_zero]
  apply wpK_val
  · rfl
  · intro w' hw'
    go_simp
    first | exact rfl | exact ⟨rfl, hw'⟩
  simp only [Act.put, List.setIfInBounds_toArray, List.set_cons_succ, List.set_cons_zero]
  apply wpK_val
  · rfl
  · intro w' hw'
    have hcell := (hw'.cell (p := ⟨t, 1, none⟩) (World.block_lt_of_cell? w _ qm)).trans qm
    go_simp
    first | exact rfl | exact ⟨rfl, hw'⟩
  simp only [Act.put, List.setIfInBounds_toArray, List.set_cons_succ, List.set_cons_zero]
  intro w2 hC2
  have H2 := hid (HC.out w2 hC2)
  have h5' := (hC2.cell (p := ⟨g, 0, none⟩) (World.block_lt_of_cell? w _ h5)).trans h5
  have h7' := (hC2.cell (p := ⟨bA, oA + mi, none⟩) (World.block_lt_of_cell? w _ h7)).trans h7
  have q3' := (hC2.cell (p := ⟨g3, 0, none⟩) (World.block_lt_of_cell? w _ q3)).trans q3
  clear h5 h7 q1 q3 qm HC hC2
  go_wp2_with fail
  refine (lb_in h5' hps hm h7').mono ?_
  rintro e w' ⟨rfl, rfl⟩
  clear h5' h7'
  unfold MbP.at'
  go_wp2_with fail
  refine H2.out.mono ?_
  rintro e w4 ⟨rfl, hR⟩
  have HR := hid hR
  clear hR q3' H2
  go_wp2_with fail
  refine bodyPost_end (results_none rfl _ _ _) rfl ?_
  exact ⟨rfl, HR.out⟩
set_option maxRecDepth 100000 in
theorem lb_ofmOut {t g1 g3 : Nat} {x : BuM.Ent} {T1 : TypeId} (H : Pp (RepK d) w g F k b) (hm : ¬ mem b.ms x.m = true) (bt : Blk w t 51 (enL x).toArray) (b1 : Blk w g1 T1 #[.pointer (some ⟨g, 0, none⟩)]) :
    Calls Try.prog 58 #[MbP.at' t, .pointer (some ⟨g1, 0, none⟩), .pointer (some ⟨g3, 0, none⟩)] w fun e w' => e = .returned (.tuple #[]) ∧ ∃ w2, Below w.heap.size w w2 ∧ w' = w2.setCell ⟨t, 67, none⟩ (.int .i64 2) := by
  obtain ⟨A, c, h5⟩ := H.hd
  have hps := H.pos
  have hmn := mem_not hm
  obtain ⟨m, hmx⟩ : ∃ m, m = x.m := ⟨_, rfl⟩
  rw [← hmx] at hmn
  have qm : w.cell? ⟨t, 1, none⟩ = some (.int .i64 m) := by rw [hmx]; exact en_m (o := 0) bt.whole
  have q1 : w.cell? ⟨g1, 0, none⟩ = some (.pointer (some ⟨g, 0, none⟩)) := b1.cell 0
  have BT := hid bt
  clear H bt b1 hm hmx
  unfold MbP.at'
  go_enter Try.func58, Try.ntmps58
  go_upto_region 0 with fail
  refine wp_region_tail (C := fun w' => Below w.heap.size w w') 5 (by kernel_rfl) (by kernel_rfl) (by kernel_rfl) (Below.refl _ _).drew ?_
  simp only [List.take_succ_cons, List.take_zero, List.drop_succ_cons, List.drop_zero]
  apply wpK_val
  · rfl
  · intro w' hw'
    have hcell := (hw'.cell (p := ⟨g1, 0, none⟩) (World.block_lt_of_cell? w _ q1)).trans q1
    go_simp
    first | exact rfl | exact ⟨rfl, hw'⟩
  simp only [Act.put, List.setIfInBounds_toArray, List.set_cons_succ, List.set_cons_zero]
  apply wpK_val
  · rfl
  · intro w' hw'
    go_simp
    first | exact rfl | exact ⟨rfl, hw'⟩
  simp only [Act.put, List.setIfInBounds_toArray, List.set_cons_succ, List.set_cons_zero]
  apply wpK_val
  · rfl
  · intro w' hw'
    go_simp
    first | exact rfl | exact ⟨rfl, hw'⟩
  simp only [Act.put, List.setIfInBounds_toArray, List.set_cons_succ, List.set_cons_zero]
  apply wpK_val
  · rfl
  · intro w' hw'
    go_simp
    first | exact rfl | exact ⟨rfl, hw'⟩
  simp only [Act.put, List.setIfInBounds_toArray, List.set_cons_succ, List.set_cons_zero]
  apply wpK_val
  · rfl
  · intro w' hw'
    have hcell := (hw'.cell (p := ⟨t, 1, none⟩) (World.block_lt_of_cell? w _ qm)).trans qm
    go_simp
    first | exact rfl | exact ⟨rfl, hw'⟩
  simp only [Act.put, List.setIfInBounds_toArray, List.set_cons_succ, List.set_cons_zero]
  intro w2 hC2
  have h5' := (hC2.cell (p := ⟨g, 0, none⟩) (World.block_lt_of_cell? w _ h5)).trans h5
  have B2 := BT.out.below hC2 BT.out.lt
  have qe := en_qe B2
  have fz := B2.frozen 67
  have HB := hid hC2
  clear h5 q1 qm hC2 B2
  go_wp2_with fail
  refine (lb_out h5' hps hmn).mono ?_
  rintro e w' ⟨rfl, rfl⟩
  clear h5'
  go_wp2_with fail
  refine bodyPost_ret (results_none rfl _ _ _) rfl ?_
  exact ⟨rfl, _, HB.out, rfl⟩
/-- What an I/O of a member tells, and what it leaves. -/
def tellE (b : Bs) (x : BuM.Ent) (y : St → BuM.Ent) : BuM.Ent := if may b x.m = 0 then y (BuM.at' b.ms x.m) else { x with e := may b x.m }
def tellB (b : Bs) (x : BuM.Ent) (f : St → St) : Bs := if may b x.m = 0 then BuM.upd b x.m (f (BuM.at' b.ms x.m)) else b
theorem lb_ofmIo {g1 g3 : Nat} {Xc : Nat → Prop} {Cp : World → Prop} {fn : FuncId} {cap : Array Value} {x : BuM.Ent} {y : St → BuM.Ent} {f : St → St} {T1 T3 : TypeId} (H : Pp (RepK 0) w g F k b) (hk : k + b.steps.length + 2 ≤ 8000) (hcf : ∀ args w, (callFunc fn args).run Try.prog w = .ok (.enter fn args) w)
    (b1 : Blk w g1 T1 #[.pointer (some ⟨g, 0, none⟩)]) (b3 : Blk w g3 T3 #[.func (.func fn) #[] cap]) (n1 : ¬ mutP F g1) (n3 : ¬ mutP F g3)
    (hC0 : Cp w) (hCp : ∀ w w' T, Cp w → Turn T w w' → (∀ q, Xc q → ¬ T q) → Cp w') (hXc : ∀ q, Xc q → q < w.heap.size ∧ ¬ mutP F q)
    (hin : ∀ (w1 : World) (t : Nat) (F1 : Fq) (mi gi : Nat), Pp (RepK 1) w1 g F1 (k + b.steps.length) (BuM.ahead b) → F1.gs[mi]? = some gi → mi < (BuM.ahead b).ms.length → x.m = (mi : Int) → ¬ mutP F1 t → ¬ rdP F1 t → Blk w1 t 51 (enL x).toArray → Cp w1 →
      Calls Try.prog fn (#[MbP.at' gi, MbP.at' t] ++ cap) w1 fun e w2 => e = .returned (.tuple #[]) ∧ Blk w2 t 51 (enL (y (BuM.at' (BuM.ahead b).ms (mi : Int)))).toArray ∧ outX (fun q => q = t) (RepK 1) w1 g F1 (k + b.steps.length + 1) { BuM.ahead b with ms := (BuM.ahead b).ms.set mi (f (BuM.at' (BuM.ahead b).ms (mi : Int))) } w2) :
    Calls Try.prog 38 #[MbP.at' g, .agg (enL x).toArray, .func (.func 58) #[] #[.pointer (some ⟨g1, 0, none⟩), .pointer (some ⟨g3, 0, none⟩)]] w fun e w' => e = .returned (.agg (enL (tellE (BuM.ahead b) x y)).toArray) ∧ outQ (RepK 0) w g F (k + b.steps.length + 2) (BuM.put (tellB (BuM.ahead b) x f) (tellE (BuM.ahead b) x y)) w' := by
  have hcf2 : ∀ args w, (callFunc 58 args).run Try.prog w = .ok (.enter 58 args) w := fun args w => by simp [callFunc, Try.func58, Try.f58]
  by_cases ho : (BuM.ahead b).off = true
  · have hm : may (BuM.ahead b) x.m = 13 := by unfold BuM.may; rw [if_pos ho]
    refine (lb_io (X := fun _ => False) (D := fun _ => True) (y := x) (b2 := BuM.ahead b) H hk hcf2 (fun q e => e.elim) (fun _ _ _ _ _ _ => trivial) fun h => by rw [ho] at h; cases h).mono ?_
    rintro e w' (⟨_, he, h⟩ | ⟨h, _⟩)
    · unfold tellE tellB
      rw [hm, if_neg (by decide), if_neg (by decide)]
      exact ⟨he, h⟩
    · rw [ho] at h; cases h
  · have hoff : (BuM.ahead b).off = false := by simpa using ho
    by_cases hmm : mem (BuM.ahead b).ms x.m = true
    · have hm : may (BuM.ahead b) x.m = 0 := by unfold BuM.may; rw [if_neg ho, if_pos hmm]
      obtain ⟨mi, hmi, hml⟩ := mem_nat hmm
      refine (lb_io (X := fun _ => False) (D := fun _ => True) (y := y (BuM.at' (BuM.ahead b).ms (mi : Int))) (b2 := { BuM.ahead b with ms := (BuM.ahead b).ms.set mi (f (BuM.at' (BuM.ahead b).ms (mi : Int))) }) H hk hcf2 (fun q e => e.elim) (fun _ _ _ _ _ _ => trivial) fun _ w1 t F1 hP hC ht n1' n2' bt => ?_).mono ?_
      · have hgl : mi < F1.gs.length := by rw [hP.len]; exact hml
        have hg := List.getElem?_eq_getElem hgl
        have tu := hC.2.2.2.2
        refine (lb_ofmIn (g1 := g1) (g3 := g3) (R := fun w2 => Blk w2 t 51 (enL (y (BuM.at' (BuM.ahead b).ms (mi : Int)))).toArray ∧ outX (fun q => q = t ∨ False) (RepK 1) w1 g F1 (k + b.steps.length + 1) { BuM.ahead b with ms := (BuM.ahead b).ms.set mi (f (BuM.at' (BuM.ahead b).ms (mi : Int))) } w2 ∧ True)
          hP hml hg hmi bt (b1.turn tu fun e => e.elim n1 id) (b3.turn tu fun e => e.elim n3 id) hcf fun w2 hb2 => ?_).mono fun e w2 h => ⟨h.1, h.2⟩
        refine (hin w2 t F1 mi _ (hP.belowK hb2) hg hml hmi n1' n2' (bt.below hb2 bt.lt) (hCp _ _ _ (hCp _ _ _ hC0 tu fun q e x => x.elim (hXc q e).2 id) (Turn.of_new (S := fun _ => False) hb2) fun _ _ e => e)).mono ?_
        rintro e w3 ⟨he, h1, h2⟩
        obtain ⟨F3, h3, h4⟩ := Come.ofX h2
        exact ⟨he, h1, (Come.trans (Come.refl _ F1 hb2) h4 fun q e => .inl (.inl e)).toX h3, trivial⟩
      · rintro e w' (⟨h, _⟩ | ⟨_, he, h, _⟩)
        · rw [hoff] at h; cases h
        · unfold tellE tellB
          rw [hm, if_pos rfl, if_pos rfl, hmi]
          obtain ⟨F3, h3, h4⟩ := Come.ofX h
          exact ⟨he, h4.toQ h3⟩
    · have hm : may (BuM.ahead b) x.m = 2 := by unfold BuM.may; rw [if_neg ho, if_neg hmm]
      refine (lb_io (X := fun _ => False) (D := fun _ => True) (y := { x with e := 2 }) (b2 := BuM.ahead b) H hk hcf2 (fun q e => e.elim) (fun _ _ _ _ _ _ => trivial) fun _ w1 t F1 hP hC ht n1' n2' bt => ?_).mono ?_
      · have tu := hC.2.2.2.2
        refine (lb_ofmOut (g1 := g1) (g3 := g3) hP hmm bt (b1.turn tu fun e => e.elim n1 id)).mono ?_
        rintro e w3 ⟨he, w2, hb2, rfl⟩
        have ts := Turn.setCell (S := fun q => q = t) w2 ⟨t, 67, none⟩ (.int .i64 2) rfl
        refine ⟨he, en_setE (bt.below hb2 bt.lt) 2, ?_, trivial⟩
        have hP2 := (hP.belowK hb2).turnK ts fun q e x => by rw [x] at e; exact e.elim n1' n2'
        exact (Come.trans (X := fun q => q = t ∨ False) (Come.refl _ F1 hb2) (Come.touch (X := fun q => q = t) _ F1 ts fun q e => .inl e) fun q e => .inl (.inl e)).toX (hP2.mono (Nat.le_succ _))
      · rintro e w' (⟨h, _⟩ | ⟨_, he, h, _⟩)
        · rw [hoff] at h; cases h
        · unfold tellE tellB
          rw [hm, if_neg (by decide), if_neg (by decide)]
          obtain ⟨F3, h3, h4⟩ := Come.ofX h
          exact ⟨he, h4.toQ h3⟩
end
end BuP
end Go.Proofs.Ytablkaofaedpeaa
set_option maxRecDepth 100000
namespace Go.Proofs.Ytablkaofaedpeaa
open Go.ChangeShapes Go.WideShapes Go.ChangeAt Go.RowKit
attribute [local go_sem] Gives GivesE
namespace BuP
open BuM MbM MbP MpV
section
variable {w w' : World} {d g k : Nat} {F : Fq} {b : Bs}
set_option maxHeartbeats 600000 in
set_option maxRecDepth 100000 in
theorem lb_ofm {Xc : Nat → Prop} {Cp : World → Prop} {fn : FuncId} {cap : Array Value} {x : BuM.Ent} {y : St → BuM.Ent} {f : St → St} (H : Pp (RepK 0) w g F k b) (hk : k + b.steps.length + 2 ≤ 8000) (hcf : ∀ args w, (callFunc fn args).run Try.prog w = .ok (.enter fn args) w)
    (hC0 : Cp w) (hCp : ∀ w w' T, Cp w → Turn T w w' → (∀ q, Xc q → ¬ T q) → Cp w') (hXc : ∀ q, Xc q → q < w.heap.size ∧ ¬ mutP F q)
    (hin : ∀ (w1 : World) (t : Nat) (F1 : Fq) (mi gi : Nat), Pp (RepK 1) w1 g F1 (k + b.steps.length) (BuM.ahead b) → F1.gs[mi]? = some gi → mi < (BuM.ahead b).ms.length → x.m = (mi : Int) → ¬ mutP F1 t → ¬ rdP F1 t → Blk w1 t 51 (enL x).toArray → Cp w1 →
      Calls Try.prog fn (#[MbP.at' gi, MbP.at' t] ++ cap) w1 fun e w2 => e = .returned (.tuple #[]) ∧ Blk w2 t 51 (enL (y (BuM.at' (BuM.ahead b).ms (mi : Int)))).toArray ∧ outX (fun q => q = t) (RepK 1) w1 g F1 (k + b.steps.length + 1) { BuM.ahead b with ms := (BuM.ahead b).ms.set mi (f (BuM.at' (BuM.ahead b).ms (mi : Int))) } w2) :
    Calls Try.prog 34 #[MbP.at' g, .agg (enL x).toArray, .func (.func fn) #[] cap] w fun e w' => e = .returned (.agg (enL (tellE (BuM.ahead b) x y)).toArray) ∧ outQ (RepK 0) w g F (k + b.steps.length + 2) (BuM.put (tellB (BuM.ahead b) x f) (tellE (BuM.ahead b) x y)) w' := by
  have HH := hid H
  have HC := hid hC0
  have HCp := hid hCp
  have HX := hid hXc
  have HI := hid hin
  have HF := hid hcf
  clear H hC0 hCp hXc hin hcf
  unfold MbP.at'
  go_enter Try.func34, Try.ntmps34
  go_upto_region 1 with (with_reducible apply alZ' zEnP)
  simp only [Act.put, List.setIfInBounds_toArray, List.set_cons_succ, List.set_cons_zero]
  generalize hwa : World.alloc w _ = wa
  generalize hwb : World.alloc wa _ = wb
  generalize hwc : World.alloc wb _ = wc
  generalize hwd : World.alloc wc _ = wd
  obtain ⟨g1, hg1⟩ : ∃ n, n = w.heap.size := ⟨_, rfl⟩
  obtain ⟨g2, hg2⟩ : ∃ n, n = w.heap.size + 1 := ⟨_, rfl⟩
  obtain ⟨g3, hg3⟩ : ∃ n, n = w.heap.size + 1 + 1 := ⟨_, rfl⟩
  obtain ⟨g4, hg4⟩ : ∃ n, n = wc.heap.size := ⟨_, rfl⟩
  have ba : Below w.heap.size w wa := by rw [← hwa]; exact (Below.refl _ _).alloc (Nat.le_refl _) _
  have bb : Below wa.heap.size wa wb := by rw [← hwb]; exact (Below.refl _ _).alloc (Nat.le_refl _) _
  have bc : Below wb.heap.size wb wc := by rw [← hwc]; exact (Below.refl _ _).alloc (Nat.le_refl _) _
  have bd : Below wc.heap.size wc wd := by rw [← hwd]; exact (Below.refl _ _).alloc (Nat.le_refl _) _
  have sa1 : wa.heap.size = w.heap.size + 1 := by rw [← hwa]; simp
  have sb1 : wb.heap.size = w.heap.size + 1 + 1 := by rw [← hwb, ← sa1]; simp
  have k1 : Blk wa g1 22 #[.pointer (some ⟨g, 0, none⟩)] := by rw [← hwa, hg1]; exact Blk.new _ _ _
  have k2 : Blk wb g2 51 (enL x).toArray := by rw [← hwb, hg2, ← sa1]; exact Blk.new _ _ _
  have k3 : Blk wc g3 80 #[.func (.func fn) #[] cap] := by rw [← hwc, hg3, ← sb1]; exact Blk.new _ _ _
  have k4 : Blk wd g4 51 (enL enP0).toArray := by rw [← hwd, hg4]; exact Blk.new _ _ _
  have sa := ba.size
  have sb := bb.size
  have sc := bc.size
  have BEL := hid (((ba.trans (bb.mono sa)).trans (bc.mono (Nat.le_trans sa sb))).trans (bd.mono (Nat.le_trans sa (Nat.le_trans sb sc))))
  have K1 := hid (((k1.below bb k1.lt).below bc (Nat.lt_of_lt_of_le k1.lt sb)).below bd (Nat.lt_of_lt_of_le k1.lt (Nat.le_trans sb sc)))
  have K2 := hid ((k2.below bc k2.lt).below bd (Nat.lt_of_lt_of_le k2.lt sc))
  have K3 := hid (k3.below bd k3.lt)
  have K4 := hid k4
  rw [← hg4, ← hg3, ← hg2, ← hg1]
  have n1 : ¬ mutP F g1 := fun e => by have := HH.out.mlt g1 e; omega
  have n3 : ¬ mutP F g3 := fun e => by have := HH.out.mlt g3 e; omega
  have n4 : ¬ mutP F g4 ∧ ¬ rdP F g4 := ⟨fun e => by have := HH.out.mlt g4 e; omega, fun e => by have := HH.out.ilt g4 e; omega⟩
  have h4w := hid (show w.heap.size ≤ g4 by omega)
  have q1 : wd.cell? ⟨g1, 0, none⟩ = some (.pointer (some ⟨g, 0, none⟩)) := K1.out.cell 0
  clear sa1 sb1 hwa hwb hwc hwd hg1 hg2 hg3 hg4 ba bb bc bd k1 k2 k3 k4 sa sb sc
  have H1 := hid (HH.out.belowK BEL.out)
  go_wp2_with ((with_reducible apply ldR (cs := (enL x).toArray) (tEnP x)); rfl; exact K2.out.whole)
  clear q1
  refine (lb_ofmIo H1.out hk HF.out K1.out K3.out n1 n3 (HCp.out _ _ _ HC.out (Turn.of_new (S := fun _ => False) BEL.out) fun _ _ e => e) HCp.out (fun q e => ⟨Nat.lt_of_lt_of_le (HX.out q e).1 BEL.out.size, (HX.out q e).2⟩) HI.out).mono ?_
  rintro e w2 ⟨rfl, ho⟩
  obtain ⟨F2, hP2, hC2⟩ := Come.ofQ ho
  have K4' := hid (K4.out.turn hC2.2.2.2.2 fun e => e.elim n4.1 id)
  have h4l := K4.out.lt
  have n5 : ¬ mutP F2 g4 ∧ ¬ rdP F2 g4 := ⟨fun e => by
    rcases hC2.2.2.1 g4 e with y | y
    · exact n4.1 y
    · omega, fun e => by
    rcases hC2.2.2.2.1 g4 e with y | y | y
    · exact n4.1 y
    · exact n4.2 y
    · omega⟩
  have P2 := hid hP2
  have C2 := hid ((Come.refl (fun _ => False) F BEL.out).trans hC2 fun _ e => e.elim)
  obtain ⟨z, hz⟩ : ∃ z, z = tellE (BuM.ahead b) x y := ⟨_, rfl⟩
  have HZ := hid hz
  rw [← hz] at hP2
  clear ho hP2 hC2 K1 K2 K3 K4 H1 HC HI HF HX HCp h4l n4 n1 n3 hz
  rw [← HZ.out]
  go_wp2_with ((with_reducible apply stR (tEnP z)); rfl; rfl; exact K4'.out; exact en_size _ _; exact en_one' _)
  generalize hw6 : World.setRow w2 _ _ = w6
  have R6 := hid (show Blk w6 g4 51 (enL z).toArray by rw [← hw6]; exact K4'.out.setRow_same _)
  have T6 := hid (show Turn (fun q => q = g4) w2 w6 by rw [← hw6]; exact Turn.setRow _ _ _ rfl)
  have P6 := hid (P2.out.turnK T6.out fun q e x => by rw [x] at e; exact e.elim n5.1 n5.2)
  have C6 := hid (show Come (fun _ => False) w F w6 F2 from C2.out.trans (Come.touch (X := fun q => q = g4) _ F2 T6.out fun q e => .inl e) fun q e => .inr (e ▸ h4w.out))
  clear hw6 P2 C2 K4' n5
  apply ret_row' (tEnP z) Try.results34
  · rfl
  · rfl
  · exact R6.out
  have h9 := C6.out.toQ P6.out
  exact ⟨by rw [HZ.out], h9⟩
end
end BuP
end Go.Proofs.Ytablkaofaedpeaa
set_option maxRecDepth 100000
namespace Go.Proofs.Ytablkaofaedpeaa
open Go.ChangeShapes Go.WideShapes Go.ChangeAt Go.RowKit
attribute [local go_sem] Gives GivesE
namespace BuP
open BuM MbM MbP MpV
section
variable {ops : Array Oper} {Q : Exit → Act → World → Prop} {a : Act} {w : World} {rest : List Oper} {dst : Option Tmp} {ty : TypeId} {pos : String} {after : Array Edge} {x y z : Operand} {m i : Int} {s : Nat → Nat}
theorem wbpRd (hx : a.eval x = .int .i64 m) (hy : a.eval y = .int .i64 i) (hk : wpList Try.prog ops Q rest (a.put dst (.agg (enL ⟨1, m, i, fun _ => 0, 0⟩).toArray)) w) : wpList Try.prog ops Q (⟨dst, .build 51 #[(0, .const (.int .i64 1)), (1, x), (2, y)], ty, pos, after, none⟩ :: rest) a w := by
  have hr : (Instr.build 51 #[(0, .int .i64 1), (1, .int .i64 m), (2, .int .i64 i)]).run Try.prog w = .ok (.agg (enL ⟨1, m, i, fun _ => 0, 0⟩).toArray) w := run_build w _ _ _ (by kernel_rfl)
  have hm : (#[(0, .const (.int .i64 1)), (1, x), (2, y)] : Array (Nat × Operand)).map (fun (i, x) => (i, a.eval x)) = #[(0, .int .i64 1), (1, .int .i64 m), (2, .int .i64 i)] := by
    simp only [List.map_toArray, List.map_cons, List.map_nil, hx, hy]; rfl
  refine wpList_plain rfl fun K hK => ?_
  unfold Oper.wp execOp
  simp only [Sem.run_bind, hm, hr, Result.andThen_ok, Sem.run_pure]
  exact hK _ _ hk
theorem wbpWr (hx : a.eval x = .int .i64 m) (hy : a.eval y = .int .i64 i) (hz : a.eval z = .agg (ar 64 s)) (hk : wpList Try.prog ops Q rest (a.put dst (.agg (enL ⟨2, m, i, s, 0⟩).toArray)) w) : wpList Try.prog ops Q (⟨dst, .build 51 #[(0, .const (.int .i64 2)), (1, x), (2, y), (3, z)], ty, pos, after, none⟩ :: rest) a w := by
  have hr : (Instr.build 51 #[(0, .int .i64 2), (1, .int .i64 m), (2, .int .i64 i), (3, .agg (ar 64 s))]).run Try.prog w = .ok (.agg (enL ⟨2, m, i, s, 0⟩).toArray) w := run_build w _ _ _ (by kernel_rfl)
  have hm : (#[(0, .const (.int .i64 2)), (1, x), (2, y), (3, z)] : Array (Nat × Operand)).map (fun (i, x) => (i, a.eval x)) = #[(0, .int .i64 2), (1, .int .i64 m), (2, .int .i64 i), (3, .agg (ar 64 s))] := by
    simp only [List.map_toArray, List.map_cons, List.map_nil, hx, hy, hz]; rfl
  refine wpList_plain rfl fun K hK => ?_
  unfold Oper.wp execOp
  simp only [Sem.run_bind, hm, hr, Result.andThen_ok, Sem.run_pure]
  exact hK _ _ hk
theorem wbpFl (hx : a.eval x = .int .i64 m) (hk : wpList Try.prog ops Q rest (a.put dst (.agg (enL ⟨3, m, 0, fun _ => 0, 0⟩).toArray)) w) : wpList Try.prog ops Q (⟨dst, .build 51 #[(0, .const (.int .i64 3)), (1, x)], ty, pos, after, none⟩ :: rest) a w := by
  have hr : (Instr.build 51 #[(0, .int .i64 3), (1, .int .i64 m)]).run Try.prog w = .ok (.agg (enL ⟨3, m, 0, fun _ => 0, 0⟩).toArray) w := run_build w _ _ _ (by kernel_rfl)
  have hm : (#[(0, .const (.int .i64 3)), (1, x)] : Array (Nat × Operand)).map (fun (i, x) => (i, a.eval x)) = #[(0, .int .i64 3), (1, .int .i64 m)] := by
    simp only [List.map_toArray, List.map_cons, List.map_nil, hx]; rfl
  refine wpList_plain rfl fun K hK => ?_
  unfold Oper.wp execOp
  simp only [Sem.run_bind, hm, hr, Result.andThen_ok, Sem.run_pure]
  exact hK _ _ hk
theorem wfldE {E : BuM.Ent} (hx : a.eval x = .agg (enL E).toArray) (hk : wpList Try.prog ops Q rest (a.put dst (.int .i64 E.e)) w) : wpList Try.prog ops Q (⟨dst, .field 51 x 4, ty, pos, after, none⟩ :: rest) a w := by
  have hr : (Instr.field 51 (.agg (enL E).toArray) 4).run Try.prog w = .ok (.int .i64 E.e) w := by kernel_rfl
  refine wpList_plain rfl fun K hK => ?_
  unfold Oper.wp execOp
  simp only [hx, hr, Sem.run_bind, Result.andThen_ok, Sem.run_pure]
  exact hK _ _ hk
end
section
variable {w w' : World} {d g k : Nat} {F : Fq} {b : Bs}
theorem hcf_rd (args : Array Value) (w : World) : (callFunc 35 args).run Try.prog w = .ok (.enter 35 args) w := by
  simp [callFunc, Try.func35, Try.f35]
theorem hcf_wr (args : Array Value) (w : World) : (callFunc 36 args).run Try.prog w = .ok (.enter 36 args) w := by
  simp [callFunc, Try.func36, Try.f36]
theorem hcf_fl (args : Array Value) (w : World) : (callFunc 44 args).run Try.prog w = .ok (.enter 44 args) w := by
  simp [callFunc, Try.func44, Try.f44]
/-- What a member's call leaves, and the entry told behind it. -/
theorem told_out {w2 w3 : World} {t mi gi : Nat} {st st' : St} {x y : BuM.Ent} (H : Pp (RepK d) w g F k b) (hgi : F.gs[mi]? = some gi) (hst : BuM.at' b.ms (mi : Int) = st) (hm : mi < b.ms.length) (nt : ¬ mutP F t ∧ ¬ rdP F t) (bt : Blk w t 51 (enL x).toArray) (ho : outP RepM w gi (F.Ms mi) (F.Is mi) (k + 1) st' w2) (hok : st'.ok)
    (ht : Turn (fun q => q = t) w2 w3) (hb : Blk w2 t 51 (enL x).toArray → Blk w3 t 51 (enL y).toArray) : Blk w3 t 51 (enL y).toArray ∧ outX (fun q => q = t) (RepK d) w g F (k + 1) { b with ms := b.ms.set mi st' } w3 := by
  obtain ⟨F2, hP, hC⟩ := Come.ofQ (Pp.put (repB := RepK d) (repK_fr d) H hgi ho (Nat.le_succ _) hok)
  have hl := bt.lt
  have n2 : ¬ mutP F2 t ∧ ¬ rdP F2 t := ⟨fun e => (hC.2.2.1 t e).elim nt.1 fun y => by omega, fun e => by
    rcases hC.2.2.2.1 t e with y | y | y
    · exact nt.1 y
    · exact nt.2 y
    · omega⟩
  refine ⟨hb (bt.turn hC.2.2.2.2 fun e => e.elim nt.1 id), ?_⟩
  exact (Come.trans (X := fun q => q = t) (Come.trans (X := fun q => q = t) (Come.refl _ F (Below.refl _ _)) hC fun _ e => e.elim) (Come.touch (X := fun q => q = t) _ F2 ht fun q e => .inl e) fun q e => .inl e).toX (hP.turnK ht fun q e x => by rw [x] at e; exact e.elim n2.1 n2.2)
end
end BuP
end Go.Proofs.Ytablkaofaedpeaa
set_option maxRecDepth 100000
namespace Go.Proofs.Ytablkaofaedpeaa
open Go.ChangeShapes Go.WideShapes Go.ChangeAt Go.RowKit
attribute [local go_sem] Gives GivesE
namespace BuP
open BuM MbM MbP MpV
section
variable {w w' : World} {d g k : Nat} {F : Fq} {b : Bs}
theorem ok_at (H : Pp (RepK d) w g F k b) (m : Int) : (BuM.at' b.ms m).ok := at_ok H.ok.1 m
set_option maxRecDepth 100000 in
theorem lb_rd1 {t mi gi gI : Nat} {m i : Int} {T1 : TypeId} (H : Pp (RepK d) w g F k b) (hk : k ≤ 9000) (hgi : F.gs[mi]? = some gi) (hm : mi < b.ms.length) (n1 : ¬ mutP F t) (n2 : ¬ rdP F t) (bt : Blk w t 51 (enL ⟨1, m, i, fun _ => 0, 0⟩).toArray) (bi : Blk w gI T1 #[.int .i64 i]) :
    Calls Try.prog 35 #[MbP.at' gi, MbP.at' t, .pointer (some ⟨gI, 0, none⟩)] w fun e w2 => e = .returned (.tuple #[]) ∧ Blk w2 t 51 (enL ⟨1, m, i, rdS (BuM.at' b.ms (mi : Int)) i, rdE (BuM.at' b.ms (mi : Int)) i⟩).toArray ∧
      outX (fun q => q = t) (RepK d) w g F (k + 1) { b with ms := b.ms.set mi (BuM.at' b.ms (mi : Int)) } w2 := by
  obtain ⟨gi', st, A, c, bA, oA, h1, h2, h3, h4, _, _, _, _⟩ := H.at hm
  rw [hgi] at h1
  cases h1
  rw [h4]
  have HH := hid H
  have R := hid h3
  have hok := hid (H.ok.1 st (List.mem_of_getElem? h2))
  have BT := hid bt
  have q1 : w.cell? ⟨gI, 0, none⟩ = some (.int .i64 i) := bi.cell 0
  have HG := hid hgi
  have HS := hid h4
  have N := hid (And.intro n1 n2)
  clear H h2 h3 h4 bt bi hgi n1 n2
  unfold MbP.at'
  go_enter Try.func35, Try.ntmps35
  go_wp2_with fail
  refine (MbP.memD_ok.read R.out hok.out hk i).mono ?_
  rintro e w2 ⟨rfl, hb⟩
  obtain ⟨sv, hsv⟩ : ∃ s, s = rdS st i := ⟨_, rfl⟩
  obtain ⟨ev, hev⟩ : ∃ s, s = rdE st i := ⟨_, rfl⟩
  have B2 := hid (BT.out.below hb BT.out.lt)
  have th := hid (show w2.there t 3 (ar 64 sv).size by rw [size_ar]; exact en_there (o := 3) (n := 64) B2.out (by omega))
  have B3 := hid (en_setS B2.out sv)
  have HF := hid (fun (w3 : World) (ht : Turn (fun q => q = t) w2 w3) (h5 : Blk w3 t 51 (enL ⟨1, m, i, sv, ev⟩).toArray) =>
    told_out (y := ⟨1, m, i, sv, ev⟩) HH.out HG.out HS.out hm N.out BT.out (st' := st) ⟨_, _, MbP.memD_ok.mono (MbP.memD_ok.frame R.out (T := fun _ => False) (Turn.of_new hb) fun _ _ e => e) (Nat.le_succ _), fun _ e => .inl e, fun _ e => .inr (.inl e), Turn.of_new hb⟩ hok.out ht fun _ => h5)
  have HSV := hid hsv
  have HEV := hid hev
  rw [← hsv, ← hev]
  clear q1 R BT hb HH hsv hev
  have q67 : (w2.setCells t 3 (ar 64 sv).toList).cell? ⟨t, 67, none⟩ = some (.int .i64 0) := en_qe B3.out
  have fz := B3.out.frozen 67
  have ts := turn_setCells (g := t) (ar 64 sv).toList 3 w2
  have tu := Turn.setCell (S := fun q => q = t) (w2.setCells t 3 (ar 64 sv).toList) ⟨t, 67, none⟩ (.int .i64 ev) rfl
  have E4 := hid (HF.out _ (ts.trans tu fun q e => .inl e) (en_setE B3.out ev))
  clear ts tu HF
  go_wp2_with ((with_reducible apply stRM (cs := ar 64 sv) tSeR); rfl; rfl; exact th.out; exact ar_one)
  refine bodyPost_end (results_none rfl _ _ _) rfl ?_
  exact ⟨rfl, by have h9 := E4.out; have h8 := HEV.out; have h7 := HSV.out; subst h8; subst h7; exact h9⟩
set_option maxRecDepth 100000 in
theorem lb_wr1 {t mi gi gI gX : Nat} {m i : Int} {x : Nat → Nat} {T1 T2 : TypeId} (H : Pp (RepK d) w g F k b) (hk : k ≤ 9000) (hx : ∀ j, x j < 256) (hgi : F.gs[mi]? = some gi) (hm : mi < b.ms.length) (n1 : ¬ mutP F t) (n2 : ¬ rdP F t) (bt : Blk w t 51 (enL ⟨2, m, i, x, 0⟩).toArray) (bi : Blk w gI T1 #[.int .i64 i]) (bx : Blk w gX T2 (ar 64 x)) :
    Calls Try.prog 36 #[MbP.at' gi, MbP.at' t, .pointer (some ⟨gI, 0, none⟩), .pointer (some ⟨gX, 0, none⟩)] w fun e w2 => e = .returned (.tuple #[]) ∧ Blk w2 t 51 (enL ⟨2, m, i, x, rdE (BuM.at' b.ms (mi : Int)) i⟩).toArray ∧
      outX (fun q => q = t) (RepK d) w g F (k + 1) { b with ms := b.ms.set mi (wrT (BuM.at' b.ms (mi : Int)) i x) } w2 := by
  obtain ⟨gi', st, A, c, bA, oA, h1, h2, h3, h4, _, _, _, _⟩ := H.at hm
  rw [hgi] at h1
  cases h1
  rw [h4]
  have HH := hid H
  have R := hid h3
  have hok := hid (H.ok.1 st (List.mem_of_getElem? h2))
  have BT := hid bt
  have BX := hid bx
  have q1 : w.cell? ⟨gI, 0, none⟩ = some (.int .i64 i) := bi.cell 0
  have HG := hid hgi
  have HS := hid h4
  have N := hid (And.intro n1 n2)
  have HX := hid hx
  clear H h2 h3 h4 bt bi bx hgi n1 n2 hx
  unfold MbP.at'
  go_enter Try.func36, Try.ntmps36
  go_wp2_with ((with_reducible apply ldA tSe); rfl; exact BX.out)
  refine (MbP.memD_ok.write R.out hok.out hk i x HX.out).mono ?_
  rintro e w2 ⟨rfl, ho⟩
  obtain ⟨ev, hev⟩ : ∃ s, s = rdE st i := ⟨_, rfl⟩
  have HO := hid ho
  have tn : Blk w2 t 51 (enL ⟨2, m, i, x, 0⟩).toArray := by
    obtain ⟨M', I', _, _, _, ht⟩ := ho
    exact BT.out.turn ht fun e => N.out.1 (.inr (.inr ⟨mi, (List.getElem?_eq_some_iff.1 HG.out).1, e⟩))
  have B2 := hid tn
  have HEV := hid hev
  rw [← hev]
  clear q1 R ho tn hev BX
  have q67 : w2.cell? ⟨t, 67, none⟩ = some (.int .i64 0) := en_qe B2.out
  have fz := B2.out.frozen 67
  have tu := Turn.setCell (S := fun q => q = t) w2 ⟨t, 67, none⟩ (.int .i64 ev) rfl
  have E4 := hid (told_out (y := ⟨2, m, i, x, ev⟩) HH.out HG.out HS.out hm N.out BT.out HO.out (wr_ok hok.out i HX.out) tu fun h => en_setE h ev)
  clear tu HO HH
  go_wp2_with fail
  refine bodyPost_end (results_none rfl _ _ _) rfl ?_
  exact ⟨rfl, by have h9 := E4.out; have h8 := HEV.out; subst h8; exact h9⟩
set_option maxRecDepth 100000 in
theorem lb_fl1 {t mi gi : Nat} {m : Int} (H : Pp (RepK d) w g F k b) (hk : k ≤ 9000) (hgi : F.gs[mi]? = some gi) (hm : mi < b.ms.length) (n1 : ¬ mutP F t) (n2 : ¬ rdP F t) (bt : Blk w t 51 (enL ⟨3, m, 0, fun _ => 0, 0⟩).toArray) :
    Calls Try.prog 44 #[MbP.at' gi, MbP.at' t] w fun e w2 => e = .returned (.tuple #[]) ∧ Blk w2 t 51 (enL ⟨3, m, 0, fun _ => 0, MbM.flE (BuM.at' b.ms (mi : Int))⟩).toArray ∧
      outX (fun q => q = t) (RepK d) w g F (k + 1) { b with ms := b.ms.set mi (MbM.flT (BuM.at' b.ms (mi : Int))) } w2 := by
  obtain ⟨gi', st, A, c, bA, oA, h1, h2, h3, h4, _, _, _, _⟩ := H.at hm
  rw [hgi] at h1
  cases h1
  rw [h4]
  have HH := hid H
  have R := hid h3
  have hok := hid (H.ok.1 st (List.mem_of_getElem? h2))
  have BT := hid bt
  have HG := hid hgi
  have HS := hid h4
  have N := hid (And.intro n1 n2)
  clear H h2 h3 h4 bt hgi n1 n2
  unfold MbP.at'
  go_enter Try.func44, Try.ntmps44
  go_wp2_with fail
  refine (MbP.memD_ok.flush R.out hok.out hk).mono ?_
  rintro e w2 ⟨rfl, ho⟩
  obtain ⟨ev, hev⟩ : ∃ s, s = MbM.flE st := ⟨_, rfl⟩
  have HO := hid ho
  have tn : Blk w2 t 51 (enL ⟨3, m, 0, fun _ => 0, 0⟩).toArray := by
    obtain ⟨M', I', _, _, _, ht⟩ := ho
    exact BT.out.turn ht fun e => N.out.1 (.inr (.inr ⟨mi, (List.getElem?_eq_some_iff.1 HG.out).1, e⟩))
  have B2 := hid tn
  have HEV := hid hev
  rw [← hev]
  clear R ho tn hev
  have q67 : w2.cell? ⟨t, 67, none⟩ = some (.int .i64 0) := en_qe B2.out
  have fz := B2.out.frozen 67
  have tu := Turn.setCell (S := fun q => q = t) w2 ⟨t, 67, none⟩ (.int .i64 ev) rfl
  have E4 := hid (told_out (y := ⟨3, m, 0, fun _ => 0, ev⟩) HH.out HG.out HS.out hm N.out BT.out HO.out (fl_ok hok.out) tu fun h => en_setE h ev)
  clear tu HO HH
  go_wp2_with fail
  refine bodyPost_end (results_none rfl _ _ _) rfl ?_
  exact ⟨rfl, by have h9 := E4.out; have h8 := HEV.out; subst h8; exact h9⟩
end
end BuP
end Go.Proofs.Ytablkaofaedpeaa
set_option maxRecDepth 100000
namespace Go.Proofs.Ytablkaofaedpeaa
open Go.ChangeShapes Go.WideShapes Go.ChangeAt Go.RowKit
attribute [local go_sem] Gives GivesE
namespace BuP
open BuM MbM MbP MpV
section
variable {w w' : World} {d g k : Nat} {F : Fq} {b : Bs}
theorem tell_rd (b : Bs) (m i : Int) : tellE b ⟨1, m, i, fun _ => 0, 0⟩ (fun st => ⟨1, m, i, rdS st i, rdE st i⟩) = rdB b m i := by
  unfold tellE rdB
  split <;> rfl
theorem tell_id (b : Bs) (x : BuM.Ent) : tellB b x (fun st => st) = b := by
  unfold tellB
  split
  · unfold BuM.upd
    rw [lb_setAt]
  · rfl
theorem tell_wr (b : Bs) (m i : Int) (x : Nat → Nat) : tellE b ⟨2, m, i, x, 0⟩ (fun st => ⟨2, m, i, x, rdE st i⟩) = wrB b m i x := by
  unfold tellE wrB
  show (if BuM.may b m = 0 then _ else _) = _
  split <;> rfl
theorem tell_fl (b : Bs) (m : Int) : tellE b ⟨3, m, 0, fun _ => 0, 0⟩ (fun st => ⟨3, m, 0, fun _ => 0, MbM.flE st⟩) = flB b m := by
  unfold tellE flB
  show (if BuM.may b m = 0 then _ else _) = _
  split <;> rfl
theorem lb_ofmRd {gI : Nat} (H : Pp (RepK 0) w g F k b) (hk : k + b.steps.length + 2 ≤ 8000) (m i : Int) (bi : Blk w gI 3 #[.int .i64 i]) (ni : ¬ mutP F gI) :
    Calls Try.prog 34 #[MbP.at' g, .agg (enL ⟨1, m, i, fun _ => 0, 0⟩).toArray, .func (.func 35) #[] #[.pointer (some ⟨gI, 0, none⟩)]] w fun e w' => e = .returned (.agg (enL (rdB (BuM.ahead b) m i)).toArray) ∧ outQ (RepK 0) w g F (k + b.steps.length + 2) (BuM.rdT b m i) w' := by
  have h := lb_ofm (Xc := fun q => q = gI) (Cp := fun w => Blk w gI 3 #[.int .i64 i]) (cap := #[.pointer (some ⟨gI, 0, none⟩)]) (x := ⟨1, m, i, fun _ => 0, 0⟩) (y := fun st => ⟨1, m, i, rdS st i, rdE st i⟩) (f := fun st => st) H hk hcf_rd bi (fun w w' T h1 h2 h3 => h1.turn h2 (h3 gI rfl)) (fun q e => by rw [e]; exact ⟨bi.lt, ni⟩)
    fun w1 t F1 mi gi hP hg hm hx n1 n2 bt bc => lb_rd1 hP (by have := hP.sz; omega) hg hm n1 n2 bt bc
  rw [tell_rd, tell_id] at h
  exact h
theorem lb_ofmWr {gI gX : Nat} (H : Pp (RepK 0) w g F k b) (hk : k + b.steps.length + 2 ≤ 8000) (m i : Int) (x : Nat → Nat) (hx : ∀ j, x j < 256) (bi : Blk w gI 3 #[.int .i64 i]) (bx : Blk w gX 30 (ar 64 x)) (ni : ¬ mutP F gI) (nx : ¬ mutP F gX) :
    Calls Try.prog 34 #[MbP.at' g, .agg (enL ⟨2, m, i, x, 0⟩).toArray, .func (.func 36) #[] #[.pointer (some ⟨gI, 0, none⟩), .pointer (some ⟨gX, 0, none⟩)]] w fun e w' => e = .returned (.agg (enL (wrB (BuM.ahead b) m i x)).toArray) ∧ outQ (RepK 0) w g F (k + b.steps.length + 2) (BuM.wrT b m i x) w' := by
  have h := lb_ofm (Xc := fun q => q = gI ∨ q = gX) (Cp := fun w => Blk w gI 3 #[.int .i64 i] ∧ Blk w gX 30 (ar 64 x)) (cap := #[.pointer (some ⟨gI, 0, none⟩), .pointer (some ⟨gX, 0, none⟩)]) (x := ⟨2, m, i, x, 0⟩) (y := fun st => ⟨2, m, i, x, rdE st i⟩) (f := fun st => MbM.wrT st i x) H hk hcf_wr ⟨bi, bx⟩ (fun w w' T h1 h2 h3 => ⟨h1.1.turn h2 (h3 gI (.inl rfl)), h1.2.turn h2 (h3 gX (.inr rfl))⟩) (fun q e => by rcases e with e | e <;> rw [e] <;> first | exact ⟨bi.lt, ni⟩ | exact ⟨bx.lt, nx⟩)
    fun w1 t F1 mi gi hP hg hm _ n1 n2 bt bc => lb_wr1 hP (by have := hP.sz; omega) hx hg hm n1 n2 bt bc.1 bc.2
  rw [tell_wr] at h
  exact h
theorem lb_ofmFl (H : Pp (RepK 0) w g F k b) (hk : k + b.steps.length + 2 ≤ 8000) (m : Int) :
    Calls Try.prog 34 #[MbP.at' g, .agg (enL ⟨3, m, 0, fun _ => 0, 0⟩).toArray, .func (.func 44) #[] #[]] w fun e w' => e = .returned (.agg (enL (flB (BuM.ahead b) m)).toArray) ∧ outQ (RepK 0) w g F (k + b.steps.length + 2) (BuM.flT b m) w' := by
  have h := lb_ofm (Xc := fun _ => False) (Cp := fun _ => True) (cap := #[]) (x := ⟨3, m, 0, fun _ => 0, 0⟩) (y := fun st => ⟨3, m, 0, fun _ => 0, MbM.flE st⟩) (f := fun st => MbM.flT st) H hk hcf_fl trivial (fun _ _ _ _ _ _ => trivial) (fun q e => e.elim)
    fun w1 t F1 mi gi hP hg hm _ n1 n2 bt _ => lb_fl1 hP (by have := hP.sz; omega) hg hm n1 n2 bt
  rw [tell_fl] at h
  exact h
set_option maxHeartbeats 600000 in
set_option maxRecDepth 100000 in
theorem lb_read (H : Pp (RepK 0) w g F k b) (hk : k + b.steps.length + 2 ≤ 8000) (m i : Int) : Calls Try.prog 11 #[MbP.at' g, .int .i64 m, .int .i64 i] w fun e w' => e = .returned (.tuple #[.agg (ar 64 (BuM.rdB (BuM.ahead b) m i).s), .int .i64 (BuM.rdB (BuM.ahead b) m i).e]) ∧ outQ (RepK 0) w g F (k + b.steps.length + 2) (BuM.rdT b m i) w' := by
  have HH := hid H
  clear H
  unfold MbP.at'
  go_enter Try.func11, Try.ntmps11
  go_upto_region 1 with (with_reducible apply alA tSe)
  try simp only [Act.put, List.setIfInBounds_toArray, List.set_cons_succ, List.set_cons_zero]
  generalize hw0 : World.alloc w _ = w0
  generalize hw1 : World.alloc w0 _ = w1
  obtain ⟨gI, hgI⟩ : ∃ n, n = w.heap.size := ⟨_, rfl⟩
  obtain ⟨gR, hgR⟩ : ∃ n, n = w.heap.size + 1 := ⟨_, rfl⟩
  have hs0 : w0.heap.size = w.heap.size + 1 := by rw [← hw0]; simp
  have bI := hid (show Blk w1 gI 3 #[.int .i64 i] by rw [← hw1, ← hw0, hgI]; exact (Blk.new _ _ _).alloc _)
  have bR := hid (show Blk w1 gR 30 (ar 64 fun _ => 0) by rw [← hw1, hgR, ← hs0]; exact Blk.new _ _ _)
  have BEL := hid (show Below w.heap.size w w1 by rw [← hw1, ← hw0]; exact ((Below.refl _ _).alloc (Nat.le_refl _) _).alloc (by simp) _)
  have nI : ¬ mutP F gI := fun e => by have := HH.out.mlt gI e; omega
  have nR : ¬ mutP F gR ∧ ¬ rdP F gR := ⟨fun e => by have := HH.out.mlt gR e; omega, fun e => by have := HH.out.ilt gR e; omega⟩
  have hRw := hid (show w.heap.size ≤ gR by omega)
  rw [← hgR, ← hgI]
  clear hw1 hw0 hs0 hgI hgR
  have H1 := hid (HH.out.belowK BEL.out)
  have qI : w1.cell? ⟨gI, 0, none⟩ = some (.int .i64 i) := bI.out.cell 0
  go_wp2_with ((with_reducible apply wbpRd); rfl; rfl)
  refine (lb_ofmRd H1.out hk m i bI.out nI).mono ?_
  rintro e w2 ⟨rfl, ho⟩
  obtain ⟨z, hz⟩ : ∃ z, z = rdB (BuM.ahead b) m i := ⟨_, rfl⟩
  have HZ := hid hz
  obtain ⟨F2, hP2, hC2⟩ := Come.ofQ ho
  have R2 := hid (bR.out.turn hC2.2.2.2.2 fun e => e.elim nR.1 id)
  have hrl := bR.out.lt
  have n2 : ¬ mutP F2 gR ∧ ¬ rdP F2 gR := ⟨fun e => (hC2.2.2.1 gR e).elim nR.1 fun y => by omega, fun e => by
    rcases hC2.2.2.2.1 gR e with y | y | y
    · exact nR.1 y
    · exact nR.2 y
    · omega⟩
  have P2 := hid hP2
  have C2 := hid ((Come.refl (fun _ => False) F BEL.out).trans hC2 fun _ e => e.elim)
  have hrl2 := R2.out.lt
  rw [← hz]
  clear qI ho hP2 hC2 bI bR H1 hrl nI nR hz
  go_upto_region 2 with (first | (with_reducible apply alZ' zEnP) | ((with_reducible apply stR (tEnP z)); rfl; rfl; exact Blk.new _ _ _; exact en_size _ _; exact en_one' _))
  generalize hw3 : World.setRow _ _ _ = w3
  obtain ⟨gE, hgE⟩ : ∃ n, n = w2.heap.size := ⟨_, rfl⟩
  have B3 := hid (show Below w2.heap.size w2 w3 by rw [← hw3]; exact below_setRow ((Below.refl _ _).alloc (Nat.le_refl _) _) (Nat.le_refl _) _)
  have E3 := hid (show Blk w3 gE 51 (enL z).toArray by rw [← hw3, hgE]; exact (Blk.new w2 _ _).setRow_same _)
  have hER : gR ≠ gE := by omega
  rw [← hgE]
  clear hw3 hgE
  have R3 := hid (R2.out.below B3.out hrl2)
  have P3 := hid (P2.out.belowK B3.out)
  have C3 := hid (C2.out.trans (Come.refl (fun _ => False) F2 B3.out) fun _ e => e.elim)
  clear R2 P2 C2 B3 hrl2
  refine wp_region_c (S := yS [some (.pointer (some ⟨gE, 3, none⟩)), some (.agg (ar 64 z.s)), some (.pointer (some ⟨gE, 67, none⟩)), some (.int .i64 z.e), some undef, some (.int .i64 z.e)] []) (C := fun d vs w' => ResC w3 gR z.s (d 4) w') 6 (by kernel_rfl) (by kernel_rfl) (by kernel_rfl) _
    (yS_ok _ fun y hy => by cases hy) ⟨Turn.drew _, R3.out.drew⟩ fun vs => ?_
  simp only [List.take_succ_cons, List.take_zero, List.drop_succ_cons, List.drop_zero]
  refine ⟨.inl ⟨rfl, fun dd w' hd hnx hw hC => ?_⟩, fun e => ?_⟩
  · go_simp
    first | exact ⟨rfl, hC⟩ | exact hC
  have e' : vs 0 = _ := e
  rw [e']
  clear e e'
  simp only [Act.put, List.setIfInBounds_toArray, List.set_cons_succ, List.set_cons_zero]
  refine ⟨.inl ⟨rfl, fun dd w' hd hnx hw hC => ?_⟩, fun e => ?_⟩
  · exact gE_ldA tSe rfl (en_qs (E3.out.turn hC.t fun e => hER e.symm)) ⟨rfl, hC⟩
  have e' : vs 1 = _ := e
  rw [e']
  clear e e'
  simp only [Act.put, List.setIfInBounds_toArray, List.set_cons_succ, List.set_cons_zero]
  refine ⟨.inl ⟨rfl, fun dd w' hd hnx hw hC => ?_⟩, fun e => ?_⟩
  · go_simp
    first | exact ⟨rfl, hC⟩ | exact hC
  have e' : vs 2 = _ := e
  rw [e']
  clear e e'
  simp only [Act.put, List.setIfInBounds_toArray, List.set_cons_succ, List.set_cons_zero]
  refine ⟨.inl ⟨rfl, fun dd w' hd hnx hw hC => ?_⟩, fun e => ?_⟩
  · have h1 : w'.cell? ⟨gE, 67, none⟩ = some (.int .i64 z.e) := en_qe (E3.out.turn hC.t fun e => hER e.symm)
    go_simp
    first | exact ⟨rfl, hC⟩ | exact hC
  have e' : vs 3 = _ := e
  rw [e']
  clear e e'
  simp only [Act.put, List.setIfInBounds_toArray, List.set_cons_succ, List.set_cons_zero]
  refine ⟨.inl ⟨rfl, fun dd w' hd hnx hw hC => ?_⟩, fun e => ?_⟩
  · with_reducible refine gE_stA (n := 64) (f0 := if dd 4 then z.s else fun _ => 0) (f := z.s) (g := gR) (t := 30) ?_ ?_ ?_ ?_ ?_
    · exact tSe
    · rfl
    · rfl
    · exact hC.b
    · exact ⟨rfl, hC.put⟩
  have e' : vs 4 = _ := e
  rw [e']
  clear e e'
  simp only [Act.put, List.setIfInBounds_toArray, List.set_cons_succ, List.set_cons_zero]
  refine ⟨.inl ⟨rfl, fun dd w' hd hnx hw hC => ?_⟩, fun e => ?_⟩
  · go_simp
    first | exact ⟨rfl, hC⟩ | exact hC
  have e' : vs 5 = _ := e
  rw [e']
  clear e e'
  simp only [Act.put, List.setIfInBounds_toArray, List.set_cons_succ, List.set_cons_zero]
  intro dd wz hall hC
  have h4 : dd 4 = true := hall 4 (by omega)
  have Z := hid (show Blk wz gR 30 (ar 64 z.s) by have := hC.b; rw [h4] at this; exact this)
  have P6 := hid (P3.out.turnK hC.t fun q e x => by rw [x] at e; exact e.elim n2.1 n2.2)
  have C6 := hid (show Come (fun _ => False) w F wz F2 from C3.out.trans (Come.touch (X := fun q => q = gR) _ F2 hC.t fun q e => .inl e) fun q e => .inr (e ▸ hRw.out))
  clear hC h4 hall E3 R3 P3 C3 n2
  go_wp2_with fail
  refine retA (t := 30) (f := z.s) (h := gR) (v := .int .i64 z.e) tSe Try.results11 rfl rfl rfl Z.out ?_
  have h9 := C6.out.toQ P6.out
  have h8 := HZ.out
  subst h8
  exact ⟨rfl, h9⟩
set_option maxRecDepth 100000 in
theorem lb_write (H : Pp (RepK 0) w g F k b) (hk : k + b.steps.length + 2 ≤ 8000) (m i : Int) (x : Nat → Nat) (hx : ∀ j, x j < 256) : Calls Try.prog 12 #[MbP.at' g, .int .i64 m, .int .i64 i, .agg (ar 64 x)] w fun e w' => e = .returned (.int .i64 (BuM.wrB (BuM.ahead b) m i x).e) ∧ outQ (RepK 0) w g F (k + b.steps.length + 2) (BuM.wrT b m i x) w' := by
  have HH := hid H
  have HX := hid hx
  clear H hx
  unfold MbP.at'
  go_enter Try.func12, Try.ntmps12
  go_upto_region 1 with fail
  generalize hw0 : World.alloc w _ = w0
  generalize hw1 : World.alloc w0 _ = w1
  obtain ⟨gI, hgI⟩ : ∃ n, n = w.heap.size := ⟨_, rfl⟩
  have hs0 : w0.heap.size = w.heap.size + 1 := by rw [← hw0]; simp
  obtain ⟨gX, hgX⟩ : ∃ n, n = w.heap.size + 1 := ⟨_, rfl⟩
  have bI := hid (show Blk w1 gI 3 #[.int .i64 i] by rw [← hw1, ← hw0, hgI]; exact (Blk.new _ _ _).alloc _)
  have bX := hid (show Blk w1 gX 30 (ar 64 x) by rw [← hw1, hgX, ← hs0]; exact Blk.new _ _ _)
  have BEL := hid (show Below w.heap.size w w1 by rw [← hw1, ← hw0]; exact ((Below.refl _ _).alloc (Nat.le_refl _) _).alloc (by simp) _)
  have nI : ¬ mutP F gI := fun e => by have := HH.out.mlt gI e; omega
  have nX : ¬ mutP F gX := fun e => by have := HH.out.mlt gX e; omega
  rw [← hgX, ← hgI]
  clear hw1 hw0 hs0 hgI hgX
  have H1 := hid (HH.out.belowK BEL.out)
  have qI : w1.cell? ⟨gI, 0, none⟩ = some (.int .i64 i) := bI.out.cell 0
  go_wp2_with (first | ((with_reducible apply ldA tSe); rfl; exact bX.out) | ((with_reducible apply wbpWr (s := x)); rfl; rfl; rfl))
  refine (lb_ofmWr H1.out hk m i x HX.out bI.out bX.out nI nX).mono ?_
  rintro e w2 ⟨rfl, ho⟩
  have HO := hid (outQ.behind BEL.out ho)
  clear ho H1 bI bX qI nI nX
  go_wp2_with ((with_reducible apply wfldE (E := wrB (BuM.ahead b) m i x)); rfl)
  go_ret
  exact ⟨rfl, HO.out⟩
set_option maxRecDepth 100000 in
theorem lb_flush (H : Pp (RepK 0) w g F k b) (hk : k + b.steps.length + 2 ≤ 8000) (m : Int) : Calls Try.prog 18 #[MbP.at' g, .int .i64 m] w fun e w' => e = .returned (.int .i64 (BuM.flB (BuM.ahead b) m).e) ∧ outQ (RepK 0) w g F (k + b.steps.length + 2) (BuM.flT b m) w' := by
  have HH := hid H
  clear H
  unfold MbP.at'
  go_enter Try.func18, Try.ntmps18
  go_wp2_with ((with_reducible apply wbpFl); rfl)
  refine (lb_ofmFl HH.out hk m).mono ?_
  rintro e w2 ⟨rfl, ho⟩
  have HO := hid ho
  clear ho
  go_wp2_with ((with_reducible apply wfldE (E := flB (BuM.ahead b) m)); rfl)
  go_ret
  exact ⟨rfl, HO.out⟩
end
end BuP
end Go.Proofs.Ytablkaofaedpeaa
set_option maxRecDepth 100000
namespace Go.Proofs.Ytablkaofaedpeaa
open Go.ChangeShapes Go.WideShapes Go.ChangeAt Go.RowKit
attribute [local go_sem] Gives GivesE
namespace BuP
open BuM MbM MbP MpV
section
variable {ops : Array Oper} {Q : Exit → Act → World → Prop} {a : Act} {w : World} {rest : List Oper} {dst : Option Tmp} {ty : TypeId} {pos : String} {after : Array Edge} {d s x y : Operand} {f h : Nat → Nat} {t : TypeId} {gd : Option (Nat × Bool)}
/-- copy of m bytes to the head of a row. -/
theorem wcopyH {g N m b p dLen dCap sLen sCap : Nat} {f' : Nat → Nat} (hd : a.eval d = .slice (some ⟨g, 0, none⟩) dLen dCap) (hs : a.eval s = .slice (some ⟨b, p, none⟩) sLen sCap) (hg : Blk w g t (ar N f)) (hr : w.rangeAt b p (ar m h).toList)
    (hm : m = Nat.min sLen dLen) (hfit : m ≤ N) (hf : ∀ j, f' j = if j < m then h j else f j) (hk : wpList Try.prog ops Q rest (a.put dst (goInt m)) (w.setRow g (ar N f'))) :
    wpList Try.prog ops Q (⟨dst, .call { callee := .builtin .copy, args := #[d, s], argTypes := #[65, 65] }, ty, pos, after, none⟩ :: rest) a w := by
  have hlen : (ar m h).toList.length = m := by rw [Array.length_toList, size_ar]
  refine wpList_copy_own rfl d s 65 65 rfl 5 Try.underlying65 (by kernel_rfl) g 0 dLen dCap ⟨b, p, none⟩ sLen sCap hd hs (ar N f) t hg (ar m h).toList (by rw [hlen]; exact hm) ?_ (by rw [hlen, size_ar]; omega) ?_ ?_
  · intro j v hj
    rw [Addr.add_mid]
    exact hr j v hj
  · intro v hv
    exact (Array.all_eq_true_iff_forall_mem.1 ar_one) v (by simpa using hv)
  · rw [hlen]
    have e : (List.take 0 (ar N f).toList ++ ((ar m h).toList ++ (ar N f).toList.drop (0 + m))).toArray = ar N f' := by
      apply Array.ext_getElem?
      intro k
      rw [List.take_zero, List.nil_append, Nat.zero_add, List.getElem?_toArray, List.getElem?_append, hlen]
      by_cases h2 : k < m
      · rw [if_pos h2, Array.getElem?_toList, get_ar h2, get_ar (by omega), hf, if_pos h2]
      · rw [if_neg h2, List.getElem?_drop, Array.getElem?_toList, show m + (k - m) = k by omega]
        by_cases h3 : k < N
        · rw [get_ar h3, get_ar h3, hf, if_neg h2]
        · rw [ar, ar, get_row, get_row, if_neg h3, if_neg h3]
    rw [e]
    exact hk
theorem gE_stI {T : TypeId} {g o : Nat} {k : IntKind} {n : Int} {u : Value} {R : Value → World → Prop} (hx : a.eval x = .pointer (some ⟨g, o, none⟩)) (hy : a.eval y = .int k n) (hT : (Try.prog.info? T).map (·.size) = some 1) (hc : w.cell? ⟨g, o, none⟩ = some u) (hz : w.frozen? ⟨g, o, none⟩ = false)
    (hR : R undef (w.setCell ⟨g, o, none⟩ (.int k n))) : GivesE Try.prog ⟨dst, .store T x y, ty, pos, after, gd⟩ a w R := by
  unfold GivesE
  have h1 : (Instr.storeAt T (.pointer (some ⟨g, o, none⟩)) (.int k n)).run Try.prog w = .ok () (w.setCell ⟨g, o, none⟩ (.int k n)) := by
    have hs : (sizeOf T).run Try.prog w = .ok 1 w := by
      cases hi : Try.prog.info? T with
      | none => rw [hi] at hT; cases hT
      | some i =>
        rw [hi] at hT
        simp only [Option.map_some, Option.some.injEq] at hT
        simp [sizeOf, typeInfo, hi, hT]
    simp [go_sem, hs, hc, hz, Result.andThen]
  simp [execOp, hx, hy, h1, Result.andThen]
  exact hR
end
set_option maxRecDepth 100000 in
theorem lb_sector (t : Nat → Nat) (w : World) : Calls Try.prog 39 #[.agg (ar 32 t)] w fun e w' => e = .returned (.agg (ar 64 (pad t))) ∧ Below w.heap.size w w' := by
  go_enter Try.func39, Try.ntmps39
  go_upto_region 1 with (with_reducible apply alA tSe)
  try simp only [Act.put, List.setIfInBounds_toArray, List.set_cons_succ, List.set_cons_zero]
  generalize hw0 : World.alloc w _ = w0
  generalize hw1 : World.alloc w0 _ = w1
  obtain ⟨gT, hgT⟩ : ∃ n, n = w.heap.size := ⟨_, rfl⟩
  obtain ⟨gR, hgR⟩ : ∃ n, n = w.heap.size + 1 := ⟨_, rfl⟩
  have hs0 : w0.heap.size = w.heap.size + 1 := by rw [← hw0]; simp
  have bT := hid (show Blk w1 gT 41 (ar 32 t) by rw [← hw1, ← hw0, hgT]; exact (Blk.new _ _ _).alloc _)
  have bR := hid (show Blk w1 gR 30 (ar 64 fun _ => 0) by rw [← hw1, hgR, ← hs0]; exact Blk.new _ _ _)
  have BEL := hid (show Below w.heap.size w w1 by rw [← hw1, ← hw0]; exact ((Below.refl _ _).alloc (Nat.le_refl _) _).alloc (by simp) _)
  have hRw := hid (show w.heap.size ≤ gR by omega)
  have hTR : gT ≠ gR := by omega
  rw [hs0, ← hgR, ← hgT]
  clear hw1 hw0 hs0 hgT hgR
  refine wp_region_tail (C := fun w' => Below w1.heap.size w1 w') 2 (by kernel_rfl) (by kernel_rfl) (by kernel_rfl) (Below.refl _ _).drew ?_
  simp only [List.take_succ_cons, List.take_zero, List.drop_succ_cons, List.drop_zero]
  apply wpK_val
  · rfl
  · intro w' hw'
    go_simp
    first | exact rfl | exact ⟨rfl, hw'⟩
  simp only [Act.put, List.setIfInBounds_toArray, List.set_cons_succ, List.set_cons_zero]
  apply wpK_val
  · rfl
  · intro w' hw'
    go_simp
    first | exact rfl | exact ⟨rfl, hw'⟩
  simp only [Act.put, List.setIfInBounds_toArray, List.set_cons_succ, List.set_cons_zero]
  intro w2 hC2
  have T2 := hid (bT.out.below hC2 bT.out.lt)
  have R2 := hid (bR.out.below hC2 bR.out.lt)
  have B2 := hid (BEL.out.trans (hC2.mono BEL.out.size))
  clear hC2 bT bR BEL
  go_upto_region 2 with ((with_reducible apply wcopyH (h := t) (f' := pad t)); rfl; rfl; exact R2.out; exact T2.out.whole; rfl; omega; exact fun j => rfl)
  generalize hw3 : World.setRow w2 _ _ = w3
  have R3 := hid (show Blk w3 gR 30 (ar 64 (pad t)) by rw [← hw3]; exact R2.out.setRow_same _)
  have B3 := hid (show Below w.heap.size w w3 by rw [← hw3]; exact below_setRow B2.out hRw.out _)
  clear hw3 R2 T2 B2
  have b4 := R3.out.setRow_same (ar 64 (pad t))
  have B4 := hid (below_setRow B3.out hRw.out (ar 64 (pad t)))
  go_wp2_with (first | ((with_reducible apply ldA tSe); rfl; exact R3.out) | ((with_reducible apply stA tSe); rfl; rfl; exact R3.out))
  apply ret_ar tSe Try.results39
  · rfl
  · rfl
  · exact b4
  exact ⟨rfl, B4.out⟩
end BuP
end Go.Proofs.Ytablkaofaedpeaa
set_option maxRecDepth 100000
namespace Go.Proofs.Ytablkaofaedpeaa
open Go.ChangeShapes Go.WideShapes Go.ChangeAt Go.RowKit
attribute [local go_sem] Gives GivesE
namespace BuP
open BuM MbM MbP MpV
/-- A row stored into the middle; the world behind it under a name of its own. -/
theorem stRMw {ops : Array Oper} {Q : Exit → Act → World → Prop} {a : Act} {w : World} {rest : List Oper} {dst : Option Tmp} {ty : TypeId} {pos : String} {after : Array Edge} {x y : Operand} {g o : Nat} {T : TypeId} {cs : Array Value} (hT : RowT T cs.size) (hx : a.eval x = .pointer (some ⟨g, o, none⟩)) (hy : a.eval y = .agg cs) (ht : w.there g o cs.size) (h1 : cs.all (·.oneCell') = true)
    (h : ∀ w', w' = w.setCells g o cs.toList → wpList Try.prog ops Q rest (a.put dst undef) w') : wpList Try.prog ops Q (⟨dst, .store T x y, ty, pos, after, none⟩ :: rest) a w :=
  stRM hT hx hy ht h1 (h _ rfl)
section
variable {w w' : World} {d g k : Nat} {F : Fq} {b : Bs}
theorem hcf_ce (args : Array Value) (w : World) : (callFunc 42 args).run Try.prog w = .ok (.enter 42 args) w := by
  simp [callFunc, Try.func42, Try.f42]
theorem pp_gcq (H : Pp (RepK d) w g F k b) : w.cell? ⟨g, 1, none⟩ = some (.pointer (some ⟨F.gc, 0, none⟩)) := by
  obtain ⟨A, c, r, vl, Fm, K, _⟩ := H.skel
  exact pb_gc K.blk
set_option maxHeartbeats 600000 in
set_option maxRecDepth 100000 in
theorem lb_ce1 {t gB gH : Nat} {T1 : TypeId} (H : Pp (RepK d) w g F k b) (n1 : ¬ mutP F t ∧ ¬ rdP F t) (n2 : ¬ mutP F gH ∧ ¬ rdP F gH) (htH : t ≠ gH) (hBH : gB ≠ gH) (bt : Blk w t 51 (enL ⟨4, 0, 0, fun _ => 0, 0⟩).toArray) (bB : Blk w gB T1 #[.pointer (some ⟨g, 0, none⟩)])
    (bH : Blk w gH 43 (ClP.ceL (0, ClP.zero)).toArray) :
    Calls Try.prog 42 #[MbP.at' t, .pointer (some ⟨gB, 0, none⟩), .pointer (some ⟨gH, 0, none⟩)] w fun e w2 => e = .returned (.tuple #[]) ∧ Blk w2 t 51 (enL ⟨4, 0, 0, pad b.c.2, 0⟩).toArray ∧
      outX (fun q => q = t ∨ q = gH) (RepK d) w g F (k + 1) b w2 ∧ Blk w2 gH 43 (ClP.ceL b.c).toArray := by
  have HH := hid H
  have q1 : w.cell? ⟨gB, 0, none⟩ = some (.pointer (some ⟨g, 0, none⟩)) := bB.cell 0
  have q2 := pp_gcq H
  have BT := hid bt
  have BH := hid bH
  have N1 := hid n1
  have N2 := hid n2
  clear H bt bB bH n1 n2
  unfold MbP.at'
  go_enter Try.func42, Try.ntmps42
  go_wp2_with fail
  refine (cb_read HH.out.cel).mono ?_
  rintro e w2 ⟨rfl, hb⟩
  obtain ⟨h, hh⟩ : ∃ h, h = b.c := ⟨_, rfl⟩
  have HE := hid hh
  have P2 := hid (HH.out.belowK hb)
  have T2 := hid (BT.out.below hb BT.out.lt)
  have H2 := hid (BH.out.below hb BH.out.lt)
  have B2 := hid hb
  rw [← hh]
  clear hb hh q1 q2 BT BH
  have tr := Turn.setRow (S := fun q => q = gH) w2 gH (ClP.ceL h).toArray rfl
  have T3 := hid (T2.out.turn tr htH)
  have H3 := hid (show Blk (w2.setRow gH (ClP.ceL h).toArray) gH 43 (ClP.ceL h).toArray from H2.out.setRow_same _)
  have q67 : (w2.setRow gH (ClP.ceL h).toArray).cell? ⟨t, 67, none⟩ = some (.int .i64 0) := en_qe T3.out
  have fz := T3.out.frozen 67
  have ts := Turn.setCell (S := fun q => q = t) (w2.setRow gH (ClP.ceL h).toArray) ⟨t, 67, none⟩ (.int .i64 0) rfl
  have T4 := hid (en_setE T3.out 0)
  have H4 := hid (H3.out.turn ts fun e => htH e.symm)
  have P4 := hid ((P2.out.turnK tr fun q e x => by rw [x] at e; exact e.elim N2.out.1 N2.out.2).turnK ts fun q e x => by rw [x] at e; exact e.elim N1.out.1 N1.out.2)
  have C4 := hid (show Come (fun q => q = t ∨ q = gH) w F ((w2.setRow gH (ClP.ceL h).toArray).setCell ⟨t, 67, none⟩ (.int .i64 0)) F from
    ((Come.refl _ F B2.out).trans (Come.touch (X := fun q => q = gH) _ F tr fun q e => .inl e) fun q e => .inl (.inr e)).trans (Come.touch (X := fun q => q = t) _ F ts fun q e => .inl e) fun q e => .inl (.inl e))
  clear tr ts
  go_upto_region 1 with ((with_reducible apply stR (ClP.tCe h)); rfl; rfl; exact H2.out; exact ClP.ce_size _ _; exact ClP.ce_one _)
  generalize World.setCell _ _ _ = w4 at T4 H4 P4 C4 ⊢
  clear q67 fz T3 H3 T2 H2 P2 B2
  go_upto_region 1 with fail
  have L4 := hid (ClP.ce_l (o := 0) (b := gH) (h := h) H4.out.whole)
  go_wp2_with ((with_reducible apply ldAm ClP.tTg); rfl; exact L4.out)
  refine (lb_sector h.2 w4).mono ?_
  rintro e w5 ⟨rfl, hb⟩
  obtain ⟨sv, hsv⟩ : ∃ s, s = pad h.2 := ⟨_, rfl⟩
  have HSV := hid hsv
  rw [← hsv]
  have T5 := hid (T4.out.below hb T4.out.lt)
  have H5 := hid (H4.out.below hb H4.out.lt)
  have P5 := hid (P4.out.belowK hb)
  have C5 := hid (show Come (fun q => q = t ∨ q = gH) w F w5 F from C4.out.trans (Come.refl (fun _ => False) F hb) fun _ e => e.elim)
  have th := hid (show w5.there t 3 (ar 64 sv).size by rw [size_ar]; exact en_there (o := 3) (n := 64) T5.out (by omega))
  have tu := turn_setCells (g := t) (ar 64 sv).toList 3 w5
  have T6 := hid (en_setS T5.out sv)
  have H6 := hid (H5.out.turn tu fun e => htH e.symm)
  have P6 := hid ((P5.out.turnK tu fun q e x => by rw [x] at e; exact e.elim N1.out.1 N1.out.2).mono (Nat.le_succ k))
  have C6 := hid (C5.out.trans (Come.touch (X := fun q => q = t) _ F tu fun q e => .inl e) fun q e => .inl (.inl e))
  clear hsv hb tu L4 T5 H5 P5 C5 T4 H4 P4 C4
  have FIN := hid (show ∀ w9, w9 = w5.setCells t 3 (ar 64 sv).toList → Blk w9 t 51 (enL ⟨4, 0, 0, pad b.c.2, 0⟩).toArray ∧ outX (fun q => q = t ∨ q = gH) (RepK d) w g F (k + 1) b w9 ∧ Blk w9 gH 43 (ClP.ceL b.c).toArray from fun w9 e9 => by
    rw [e9, ← HE.out, ← HSV.out]
    exact ⟨T6.out, C6.out.toX P6.out, H6.out⟩)
  clear HSV T6 H6 P6 C6
  go_wp2_with ((with_reducible apply stRMw (cs := ar 64 sv) tSeR); rfl; rfl; exact th.out; exact ar_one; intro w9 hw9; have HW := hid (FIN.out w9 hw9); clear hw9 FIN th)
  refine bodyPost_end (results_none rfl _ _ _) rfl ?_
  exact ⟨rfl, HW.out⟩
/-- An I/O that tells what the cell holds. -/
theorem lb_ceIo {gB gH : Nat} (H : Pp (RepK 0) w g F k b) (hk : k + b.steps.length + 2 ≤ 8000) (hBH : gB ≠ gH) (bB : Blk w gB 22 #[.pointer (some ⟨g, 0, none⟩)]) (bH : Blk w gH 43 (ClP.ceL (0, ClP.zero)).toArray) (nB : ¬ mutP F gB) (nH : ¬ mutP F gH ∧ ¬ rdP F gH) :
    Calls Try.prog 38 #[MbP.at' g, .agg (enL ⟨4, 0, 0, fun _ => 0, 0⟩).toArray, .func (.func 42) #[] #[.pointer (some ⟨gB, 0, none⟩), .pointer (some ⟨gH, 0, none⟩)]] w fun e w' =>
      e = .returned (.agg (enL (ceB (BuM.ahead b))).toArray) ∧ outX (fun q => q = gH) (RepK 0) w g F (k + b.steps.length + 2) (BuM.ceT b) w' ∧ Blk w' gH 43 (ClP.ceL (ceV (BuM.ahead b))).toArray := by
  have hlH := bH.lt
  refine (lb_io (X := fun q => q = gH) (D := fun w => Blk w gH 43 (ClP.ceL (BuM.ahead b).c).toArray) (y := ⟨4, 0, 0, pad (BuM.ahead b).c.2, 0⟩) (b2 := BuM.ahead b) (cap := #[.pointer (some ⟨gB, 0, none⟩), .pointer (some ⟨gH, 0, none⟩)]) H hk hcf_ce (fun q e => by rw [e]; exact ⟨hlH, nH.1, nH.2⟩) (fun w w' T h1 h2 h3 => h1.turn h2 (h3 gH rfl)) fun _ w1 t F1 hP hC ht n1 n2 bt => ?_).mono ?_
  · have tu := hC.2.2.2.2
    have hlt : gH < w1.heap.size := Nat.lt_of_lt_of_le hlH tu.size
    refine lb_ce1 (gB := gB) (gH := gH) hP ⟨n1, n2⟩ ⟨fun e => ?_, fun e => ?_⟩ (by omega) hBH bt (bB.turn tu fun e => e.elim nB id) (bH.turn tu fun e => e.elim nH.1 id)
    · rcases hC.2.2.1 gH e with y | y
      · exact nH.1 y
      · omega
    · rcases hC.2.2.2.1 gH e with y | y | y
      · exact nH.1 y
      · exact nH.2 y
      · omega
  · rintro e w' (⟨ho, he, h⟩ | ⟨ho, he, h, hD⟩)
    · have e1 : ceB (BuM.ahead b) = ⟨4, 0, 0, fun _ => 0, 13⟩ := by unfold ceB; rw [if_pos ho]; rfl
      have e2 : ceV (BuM.ahead b) = (0, ClP.zero) := by unfold ceV; rw [if_pos ho]
      obtain ⟨F3, h3, h4⟩ := Come.ofQ h
      rw [e1, e2]
      refine ⟨he, ?_, bH.turn h4.2.2.2.2 fun e => e.elim nH.1 id⟩
      unfold BuM.ceT
      rw [e1]
      exact (Come.trans (Come.refl (fun q => q = gH) F (Below.refl _ _)) h4 fun _ e => e.elim).toX h3
    · have e1 : ceB (BuM.ahead b) = ⟨4, 0, 0, pad (BuM.ahead b).c.2, 0⟩ := by unfold ceB; rw [ho]; rfl
      have e2 : ceV (BuM.ahead b) = (BuM.ahead b).c := by unfold ceV; rw [ho]; rfl
      rw [e1, e2]
      refine ⟨he, ?_, hD⟩
      unfold BuM.ceT
      rw [e1]
      exact h
end
end BuP
end Go.Proofs.Ytablkaofaedpeaa
set_option maxRecDepth 100000
namespace Go.Proofs.Ytablkaofaedpeaa
open Go.RowKit
section
variable {P : Program} {ops : Array Oper}
/-- The operations in the order of the text, the k-th first. -/
def wpD (P : Program) (ops : Array Oper) (S : Nat → Value → Prop) (C : (Nat → Bool) → (Nat → Value) → World → Prop) (Q : (Nat → Value) → Act → Prop) : Nat → (Nat → Value) → List Oper → Act → Prop
  | _, vs, [], a => Q vs a
  | k, vs, o :: rest, a => ((Region.wanted o (yielded ops a.tmps) = true ∧ ∀ d w, d k = false → (∀ p q, Region.waitsFor .any ops p q = true → d p = true → d q = true) → (∀ j, Region.waitsFor .any ops j k = true → d j = false) → (∀ j, Region.waitsFor .any ops k j = true → d j = true) → C d vs w →
      GivesE P o a w fun v w' => S k v ∧ C (upB d k) (updV vs k v) w') ∨
      (Region.wanted o (yielded ops a.tmps) = false ∧ S k undef ∧ (∀ d w, C d vs w → C (upB d k) (updV vs k undef) w))) ∧ (S k (vs k) → wpD P ops S C Q (k + 1) vs rest (a.put o.dst (vs k)))
theorem wpD_at {S : Nat → Value → Prop} {C : (Nat → Bool) → (Nat → Value) → World → Prop} {Qk : (Nat → Value) → Act → Prop} {vs : Nat → Value} (hS : ∀ j, S j (vs j)) : ∀ (l : List Oper) (k : Nat) (a : Act), wpD P ops S C Qk k vs l a →
    Qk vs (lexF l (fun i => vs (k + i)) l.length a) ∧ ∀ i o, l[i]? = some o →
      ((Region.wanted o (yielded ops (lexF l (fun i => vs (k + i)) i a).tmps) = true ∧ ∀ d w, d (k + i) = false → (∀ p q, Region.waitsFor .any ops p q = true → d p = true → d q = true) → (∀ j, Region.waitsFor .any ops j (k + i) = true → d j = false) → (∀ j, Region.waitsFor .any ops (k + i) j = true → d j = true) → C d vs w →
        GivesE P o (lexF l (fun i => vs (k + i)) i a) w fun v w' => S (k + i) v ∧ C (upB d (k + i)) (updV vs (k + i) v) w') ∨
      (Region.wanted o (yielded ops (lexF l (fun i => vs (k + i)) i a).tmps) = false ∧ S (k + i) undef ∧ (∀ d w, C d vs w → C (upB d (k + i)) (updV vs (k + i) undef) w)))
  | [], k, a, h => ⟨h, fun i o hi => by simp at hi⟩
  | o :: l, k, a, h => by
    obtain ⟨h1, h2⟩ := h
    obtain ⟨hq, hs⟩ := wpD_at hS l (k + 1) _ (h2 (hS k))
    have e : (fun i => vs (k + 1 + i)) = fun i => vs (k + (i + 1)) := funext fun i => by rw [show k + 1 + i = k + (i + 1) by omega]
    rw [e] at hq hs
    refine ⟨?_, fun i o' hi => ?_⟩
    · rw [List.length_cons, lexF_cons]; exact hq
    · cases i with
      | zero =>
        simp only [List.getElem?_cons_zero, Option.some.injEq] at hi
        subst hi
        exact h1
      | succ i =>
        rw [lexF_cons, show k + (i + 1) = k + 1 + i by omega]
        exact hs i o' (by simpa using hi)
theorem wp_region_d {id : Nat} {Q : Exit → Act → World → Prop} {C : (Nat → Bool) → (Nat → Value) → World → Prop} {S : Nat → Value → Prop} {a : Act} {w : World} {l : List Oper} (n : Nat)
    (hm : P.follows .mixedOrders = true) (ht : tidy l.toArray = true) (hB : tailB l.toArray n = true)
    (v0 : Nat → Value) (h0 : ∀ j, S j (v0 j)) (hC : C (fun _ => false) v0 w.drew)
    (h : ∀ vs : Nat → Value, wpD P l.toArray S C (fun vs a' => ∀ d w', (∀ k, k < n → d k = true) → C d vs w' → wpList P l.toArray Q (l.drop n) a' w') 0 vs (l.take n) a) : (Code.region id l.toArray true).wp P Q a w := by
  refine region_coreE (Γ := {vs : Nat → Value // ∀ j, S j (vs j)}) (C := fun γ L w' => C (fun j => L.getD j false) γ.1 w' ∧ Closed l.toArray L) n hm ht hB ⟨v0, h0⟩
    ⟨by rw [show (fun j => (Array.replicate l.length false).getD j false) = fun _ => false from funext fun j => getD_replicate_false _ j]; exact hC, (fun j o _ hl => by rw [getD_replicate_false] at hl; cases hl)⟩ (fun γ => γ.1) ?_ ?_
  · intro i o hi γ L w' hsz hr ⟨hC', hcl⟩
    have hun := getD_both (mem_ready.1 hr).1
    have hlt : i < L.size := by
      obtain ⟨o', ho', _⟩ := (mem_ready.1 hr).2
      have := (Array.getElem?_eq_some_iff.1 ho').1
      simp at this; omega
    have hup : (fun j => (L.setIfInBounds i true).getD j false) = upB (fun j => L.getD j false) i := funext fun j => by
      unfold upB
      by_cases e : j = i
      · subst e; rw [if_pos rfl]; simp [hlt]
      · rw [if_neg e, getD_set_ne false (Ne.symm e)]
    have hcl2 := closed_set hcl hr
    have key := (wpD_at γ.2 (l.take n) 0 a (h γ.1)).2 i o hi
    simp only [Nat.zero_add] at key
    have hwait : ∀ j, Region.waitsFor .any l.toArray i j = true → L.getD j false = true := fun j hj => waits_ready hr hj
    have hnext : ∀ j, Region.waitsFor .any l.toArray j i = true → L.getD j false = false := fun j hj => by
      cases hx : L.getD j false with
      | false => rfl
      | true =>
        have := waits_closed hcl hx hj
        rw [hun] at this
        cases this
    have upd : ∀ v, S i v → ∀ j, S j (updV γ.1 i v j) := fun v hv j => by
      by_cases e : j = i
      · subst e; rw [updV_self]; exact hv
      · rw [updV_ne _ _ e]; exact γ.2 j
    have keep : ∀ v j, L.getD j false = true → γ.1 j = updV γ.1 i v j := fun v j hj => by
      have : j ≠ i := fun e => by subst e; rw [hun] at hj; cases hj
      rw [updV_ne _ _ this]
    rcases key with ⟨k1, k2⟩ | ⟨k1, k2, k3⟩
    · refine .inl ⟨k1, givesE_mono (k2 _ w' hun (fun p q hpq hp => waits_closed hcl hp hpq) hnext hwait hC') fun v w2 ⟨h1, h2⟩ => ⟨⟨updV γ.1 i v, upd v h1⟩, keep v, updV_self _ _ _, ?_, hcl2⟩⟩
      rw [hup]; exact h2
    · refine .inr ⟨k1, ⟨updV γ.1 i undef, upd undef k2⟩, keep undef, updV_self _ _ _, ?_, hcl2⟩
      rw [hup]; exact k3 _ _ hC'
  · intro γ L w' hall ⟨hC', _⟩
    have key := (wpD_at γ.2 (l.take n) 0 a (h γ.1)).1
    have ez : (fun i => γ.1 (0 + i)) = γ.1 := funext fun i => by rw [Nat.zero_add]
    rw [ez] at key
    exact key _ w' hall hC'
end
end Go.Proofs.Ytablkaofaedpeaa
set_option maxRecDepth 100000
namespace Go.Proofs.Ytablkaofaedpeaa
open Go.ChangeShapes Go.WideShapes Go.ChangeAt Go.RowKit
attribute [local go_sem] Gives GivesE
namespace BuP
open BuM MbM MbP MpV
section
variable {w w' : World} {d g k : Nat} {F : Fq} {b : Bs}
theorem hcf_ad (args : Array Value) (w : World) : (callFunc 40 args).run Try.prog w = .ok (.enter 40 args) w := by
  simp [callFunc, Try.func40, Try.f40]
/-- What the cell's Advance answers. -/
def avN (c : ClP.Held) : Int := if full c then 0 else ((c.1 + 1 : Nat) : Int)
def avE (c : ClP.Held) : Int := if full c then 15 else 0
def avC (c : ClP.Held) (t : Nat → Nat) : ClP.Held := if full c then c else (c.1 + 1, t)
theorem lb_cAdv (H : Pp (RepK d) w g F k b) (hk : k ≤ 8000) (t : Nat → Nat) : Calls Try.prog 41 #[MbP.at' F.gc, .agg (ar 32 t)] w fun e w' => e = .returned (.tuple #[.int .u64 (avN b.c), .int .i64 (avE b.c)]) ∧ ∃ F', Pp (RepK d) w' g F' (k + 1) { b with c := avC b.c t } ∧ Come (fun _ => False) w F w' F' := by
  have hm := H.cmx
  by_cases hf : b.c.1 = ClP.most
  · have h1 : full b.c = true := by unfold full; simpa using hf
    refine (cb_full H.cel hf t).mono ?_
    rintro e w' ⟨he, hb⟩
    refine ⟨by rw [he]; unfold avN avE; rw [if_pos h1, if_pos h1], F, ?_, Come.refl _ F hb⟩
    unfold avC
    rw [if_pos h1]
    exact (H.belowK hb).mono (Nat.le_succ k)
  · have h1 : ¬ full b.c = true := by unfold full; simpa using hf
    refine (cb_adv H.cel (by omega) (by have := H.sz.2.2.1; omega) t).mono ?_
    rintro e w' ⟨he, M', hc, hM, ht⟩
    refine ⟨by rw [he]; unfold avN avE; rw [if_neg h1, if_neg h1], ?_⟩
    unfold avC
    rw [if_neg h1]
    exact Come.ofQ (Pp.celled (repB := RepK d) (repK_fr d) H hc hM ht (Nat.le_succ k) (by rw [List.length_append]; have := H.sz.2.2.1; show _ + 1 ≤ _; omega) (by show b.c.1 + 1 ≤ ClP.most; omega))
/-- What holds in the midst of Advance's closure. -/
structure AvC (d : Nat) (w0 : World) (g : Nat) (F : Fq) (k : Nat) (b2 : Bs) (t gN : Nat) (x : BuM.Ent) (N e : Int) (d6 d10 d13 : Bool) (w' : World) : Prop where
  pre : d6 = false → Below w0.heap.size w0 w'
  post : d6 = true → ∃ F', Pp (RepK d) w' g F' k b2 ∧ Come (fun q => q = t ∨ q = gN) w0 F w' F'
  n : Blk w' gN 37 #[.int .u64 (if d10 then N else 0)]
  t : Blk w' t 51 (enL { x with e := if d13 then e else x.e }).toArray
set_option maxHeartbeats 1000000 in
set_option maxRecDepth 100000 in
theorem lb_ad1 {t gB gL gN : Nat} {T1 : TypeId} {lb : Nat → Nat} (H : Pp (RepK d) w g F k b) (hk : k ≤ 8000) (n1 : ¬ mutP F t ∧ ¬ rdP F t) (n2 : ¬ mutP F gN ∧ ¬ rdP F gN) (htN : t ≠ gN) (bt : Blk w t 51 (enL ⟨5, 0, 0, pad lb, 0⟩).toArray) (bB : Blk w gB T1 #[.pointer (some ⟨g, 0, none⟩)])
    (bL : Blk w gL 41 (ar 32 lb)) (bN : Blk w gN 37 #[.int .u64 0]) :
    Calls Try.prog 40 #[MbP.at' t, .pointer (some ⟨gB, 0, none⟩), .pointer (some ⟨gL, 0, none⟩), .pointer (some ⟨gN, 0, none⟩)] w fun e w2 => e = .returned (.tuple #[]) ∧ Blk w2 t 51 (enL ⟨5, 0, 0, pad lb, avE b.c⟩).toArray ∧
      outX (fun q => q = t ∨ q = gN) (RepK d) w g F (k + 1) { b with c := avC b.c lb } w2 ∧ Blk w2 gN 37 #[.int .u64 (avN b.c)] := by
  have HH := hid H
  have q1 : w.cell? ⟨gB, 0, none⟩ = some (.pointer (some ⟨g, 0, none⟩)) := bB.cell 0
  have q2 := pp_gcq H
  obtain ⟨gc, hgc⟩ : ∃ x, x = F.gc := ⟨_, rfl⟩
  have HGC := hid hgc
  rw [← hgc] at q2
  have BT := hid bt
  have BL := hid bL
  have BN := hid bN
  have N1 := hid n1
  have N2 := hid n2
  obtain ⟨N, hN⟩ : ∃ x, x = avN b.c := ⟨_, rfl⟩
  obtain ⟨E, hE⟩ : ∃ x, x = avE b.c := ⟨_, rfl⟩
  have HN := hid hN
  have HE := hid hE
  rw [← hN, ← hE]
  clear H bt bB bL bN n1 n2 hgc hN hE
  unfold MbP.at'
  go_enter Try.func40, Try.ntmps40
  go_upto_region 0 with fail
  refine wp_region_d (S := yS [some (.pointer (some ⟨t, 0, none⟩)), some (.pointer (some ⟨g, 0, none⟩)), some (.pointer (some ⟨g, 0, none⟩)), some (.pointer (some ⟨g, 1, none⟩)), some (.pointer (some ⟨gc, 0, none⟩)), some (.agg (ar 32 lb)), some (.tuple #[.int .u64 N, .int .i64 E]), some (.tuple #[.int .u64 N, .int .i64 E]), some (.int .u64 N), some (.int .i64 E), some undef, some (.pointer (some ⟨t, 0, none⟩)), some (.pointer (some ⟨t, 67, none⟩)), some undef] [])
    (C := fun d' vs w' => AvC d w g F (k + 1) { b with c := avC b.c lb } t gN ⟨5, 0, 0, pad lb, 0⟩ N E (d' 6) (d' 10) (d' 13) w') 14 (by kernel_rfl) (by kernel_rfl) (by kernel_rfl) _
    (yS_ok _ fun y hy => by cases hy) ⟨fun _ => (Below.refl _ _).drew, (fun e => by cases e), BN.out.drew, BT.out.drew⟩ fun vs => ?_
  simp only [List.take_succ_cons, List.take_zero, List.drop_succ_cons, List.drop_zero]
  have nX := hid (show ∀ (q : Nat) (w' : World) (F' : Fq), q < w.heap.size → ¬ mutP F q ∧ ¬ rdP F q → Come (fun q => q = t ∨ q = gN) w F w' F' → ¬ mutP F' q ∧ ¬ rdP F' q from fun q w' F' hl n c => ⟨fun e => (c.2.2.1 q e).elim n.1 fun y => by omega, fun e => by
    rcases c.2.2.2.1 q e with y | y | y
    · exact n.1 y
    · exact n.2 y
    · omega⟩)
  have tl := hid BT.out.lt
  have nl := hid BN.out.lt
  refine ⟨.inl ⟨rfl, fun dd w' hd hcl hnx hw hC => ?_⟩, fun e => ?_⟩
  · go_simp
    first | exact ⟨rfl, hC⟩ | exact hC
  have e' : vs 0 = _ := e
  rw [e']
  clear e e'
  simp only [Act.put, List.setIfInBounds_toArray, List.set_cons_succ, List.set_cons_zero]
  refine ⟨.inl ⟨rfl, fun dd w' hd hcl hnx hw hC => ?_⟩, fun e => ?_⟩
  · have h6 : dd 6 = false := by
      cases h6 : dd 6 with
      | false => rfl
      | true =>
        have := hcl 2 1 (by kernel_rfl) (hcl 3 2 (by kernel_rfl) (hcl 4 3 (by kernel_rfl) (hcl 6 4 (by kernel_rfl) h6)))
        rw [show dd 1 = false from hd] at this; cases this
    have hcell := ((hC.pre h6).cell (p := ⟨gB, 0, none⟩) (World.block_lt_of_cell? w _ q1)).trans q1
    go_simp
    exact ⟨rfl, hC⟩
  have e' : vs 1 = _ := e
  rw [e']
  clear e e'
  simp only [Act.put, List.setIfInBounds_toArray, List.set_cons_succ, List.set_cons_zero]
  refine ⟨.inl ⟨rfl, fun dd w' hd hcl hnx hw hC => ?_⟩, fun e => ?_⟩
  · go_simp
    first | exact ⟨rfl, hC⟩ | exact hC
  have e' : vs 2 = _ := e
  rw [e']
  clear e e'
  simp only [Act.put, List.setIfInBounds_toArray, List.set_cons_succ, List.set_cons_zero]
  refine ⟨.inl ⟨rfl, fun dd w' hd hcl hnx hw hC => ?_⟩, fun e => ?_⟩
  · go_simp
    first | exact ⟨rfl, hC⟩ | exact hC
  have e' : vs 3 = _ := e
  rw [e']
  clear e e'
  simp only [Act.put, List.setIfInBounds_toArray, List.set_cons_succ, List.set_cons_zero]
  refine ⟨.inl ⟨rfl, fun dd w' hd hcl hnx hw hC => ?_⟩, fun e => ?_⟩
  · have h6 : dd 6 = false := hnx 6 (by kernel_rfl)
    have hcell := ((hC.pre h6).cell (p := ⟨g, 1, none⟩) (World.block_lt_of_cell? w _ q2)).trans q2
    go_simp
    exact ⟨rfl, hC⟩
  have e' : vs 4 = _ := e
  rw [e']
  clear e e'
  simp only [Act.put, List.setIfInBounds_toArray, List.set_cons_succ, List.set_cons_zero]
  refine ⟨.inl ⟨rfl, fun dd w' hd hcl hnx hw hC => ?_⟩, fun e => ?_⟩
  · have h6 : dd 6 = false := hnx 6 (by kernel_rfl)
    exact gE_ldA ClP.tTg rfl (BL.out.below (hC.pre h6) BL.out.lt).head ⟨rfl, hC⟩
  have e' : vs 5 = _ := e
  rw [e']
  clear e e'
  simp only [Act.put, List.setIfInBounds_toArray, List.set_cons_succ, List.set_cons_zero]
  refine ⟨.inl ⟨rfl, fun dd w' hd hcl hnx hw hC => ?_⟩, fun e => ?_⟩
  · have hb := hC.pre hd
    have h10 : dd 10 = false := by
      cases h10 : dd 10 with
      | false => rfl
      | true =>
        have := hcl 7 6 (by kernel_rfl) (hcl 8 7 (by kernel_rfl) (hcl 10 8 (by kernel_rfl) h10))
        rw [show dd 6 = false from hd] at this; cases this
    have h13 : dd 13 = false := by
      cases h13 : dd 13 with
      | false => rfl
      | true =>
        have := hcl 7 6 (by kernel_rfl) (hcl 9 7 (by kernel_rfl) (hcl 13 9 (by kernel_rfl) h13))
        rw [show dd 6 = false from hd] at this; cases this
    have hc := lb_cAdv (HH.out.belowK hb) hk lb
    rw [← HGC.out, ← HN.out, ← HE.out] at hc
    have hn := hC.n
    have ht := hC.t
    go_simp
    refine hc.mono ?_
    rintro e w5 ⟨rfl, F', hP, hCm⟩
    have tu := hCm.2.2.2.2
    refine ⟨_, rfl, rfl, ?_⟩
    exact ⟨(fun e => by cases e), fun _ => ⟨F', hP, (Come.refl _ F hb).trans hCm fun _ e => e.elim⟩, hn.turn tu fun e => e.elim N2.out.1 id, ht.turn tu fun e => e.elim N1.out.1 id⟩
  have e' : vs 6 = _ := e
  rw [e']
  clear e e'
  simp only [Act.put, List.setIfInBounds_toArray, List.set_cons_succ, List.set_cons_zero]
  refine ⟨.inl ⟨rfl, fun dd w' hd hcl hnx hw hC => ?_⟩, fun e => ?_⟩
  · go_simp
    first | exact ⟨rfl, hC⟩ | exact hC
  have e' : vs 7 = _ := e
  rw [e']
  clear e e'
  simp only [Act.put, List.setIfInBounds_toArray, List.set_cons_succ, List.set_cons_zero]
  refine ⟨.inl ⟨rfl, fun dd w' hd hcl hnx hw hC => ?_⟩, fun e => ?_⟩
  · go_simp
    first | exact ⟨rfl, hC⟩ | exact hC
  have e' : vs 8 = _ := e
  rw [e']
  clear e e'
  simp only [Act.put, List.setIfInBounds_toArray, List.set_cons_succ, List.set_cons_zero]
  refine ⟨.inl ⟨rfl, fun dd w' hd hcl hnx hw hC => ?_⟩, fun e => ?_⟩
  · go_simp
    first | exact ⟨rfl, hC⟩ | exact hC
  have e' : vs 9 = _ := e
  rw [e']
  clear e e'
  simp only [Act.put, List.setIfInBounds_toArray, List.set_cons_succ, List.set_cons_zero]
  refine ⟨.inl ⟨rfl, fun dd w' hd hcl hnx hw hC => ?_⟩, fun e => ?_⟩
  · have h6 : dd 6 = true := hcl 7 6 (by kernel_rfl) (hcl 8 7 (by kernel_rfl) (hw 8 (by kernel_rfl)))
    have hn : Blk w' gN 37 #[.int .u64 (if dd 10 then N else 0)] := hC.n
    obtain ⟨F', hP, hCm⟩ := hC.post h6
    have n3 := nX.out gN w' F' nl.out N2.out hCm
    have tu := Turn.setCell (S := fun q => q = gN) w' ⟨gN, 0, none⟩ (.int .u64 N) rfl
    refine gE_stI rfl rfl (by kernel_rfl) (hn.cell 0) (hn.frozen 0) ⟨rfl, ?_⟩
    exact ⟨(fun e => by have e' : dd 6 = false := e; rw [h6] at e'; cases e'), fun _ => ⟨F', hP.turnK tu fun q e x => by rw [x] at e; exact e.elim n3.1 n3.2, hCm.trans (Come.touch (X := fun q => q = gN) _ F' tu fun q e => .inl e) fun q e => .inl (.inr e)⟩, hn.setCell_same 0 _, Blk.turn hC.t tu htN⟩
  have e' : vs 10 = _ := e
  rw [e']
  clear e e'
  simp only [Act.put, List.setIfInBounds_toArray, List.set_cons_succ, List.set_cons_zero]
  refine ⟨.inl ⟨rfl, fun dd w' hd hcl hnx hw hC => ?_⟩, fun e => ?_⟩
  · go_simp
    first | exact ⟨rfl, hC⟩ | exact hC
  have e' : vs 11 = _ := e
  rw [e']
  clear e e'
  simp only [Act.put, List.setIfInBounds_toArray, List.set_cons_succ, List.set_cons_zero]
  refine ⟨.inl ⟨rfl, fun dd w' hd hcl hnx hw hC => ?_⟩, fun e => ?_⟩
  · go_simp
    first | exact ⟨rfl, hC⟩ | exact hC
  have e' : vs 12 = _ := e
  rw [e']
  clear e e'
  simp only [Act.put, List.setIfInBounds_toArray, List.set_cons_succ, List.set_cons_zero]
  refine ⟨.inl ⟨rfl, fun dd w' hd hcl hnx hw hC => ?_⟩, fun e => ?_⟩
  · have h6 : dd 6 = true := hcl 7 6 (by kernel_rfl) (hcl 9 7 (by kernel_rfl) (hw 9 (by kernel_rfl)))
    have ht : Blk w' t 51 (enL ⟨5, 0, 0, pad lb, if dd 13 then E else 0⟩).toArray := hC.t
    obtain ⟨F', hP, hCm⟩ := hC.post h6
    have n3 := nX.out t w' F' tl.out N1.out hCm
    have tu := Turn.setCell (S := fun q => q = t) w' ⟨t, 67, none⟩ (.int .i64 E) rfl
    refine gE_stI rfl rfl (by kernel_rfl) (en_qe ht) (ht.frozen 67) ⟨rfl, ?_⟩
    exact ⟨(fun e => by have e' : dd 6 = false := e; rw [h6] at e'; cases e'), fun _ => ⟨F', hP.turnK tu fun q e x => by rw [x] at e; exact e.elim n3.1 n3.2, hCm.trans (Come.touch (X := fun q => q = t) _ F' tu fun q e => .inl e) fun q e => .inl (.inl e)⟩, Blk.turn hC.n tu fun e => htN e.symm, en_setE ht E⟩
  have e' : vs 13 = _ := e
  rw [e']
  clear e e'
  simp only [Act.put, List.setIfInBounds_toArray, List.set_cons_succ, List.set_cons_zero]
  intro dd wz hall hC
  have h6 : dd 6 = true := hall 6 (by omega)
  have h10 : dd 10 = true := hall 10 (by omega)
  have h13 : dd 13 = true := hall 13 (by omega)
  have hn := hC.n
  have ht := hC.t
  have hp := hC.post h6
  rw [h10] at hn
  rw [h13] at ht
  have ZN := hid (show Blk wz gN 37 #[.int .u64 N] from hn)
  have ZT := hid (show Blk wz t 51 (enL ⟨5, 0, 0, pad lb, E⟩).toArray from ht)
  obtain ⟨F', hP, hCm⟩ := hp
  have ZP := hid (hCm.toX hP)
  clear hC hall h6 h10 h13 hn ht hP hCm nX q1 q2 BT BL BN HH
  go_wp2_with fail
  refine bodyPost_end (results_none rfl _ _ _) rfl ?_
  exact ⟨rfl, ZT.out, ZP.out, ZN.out⟩
end
end BuP
end Go.Proofs.Ytablkaofaedpeaa
set_option maxRecDepth 100000
namespace Go.Proofs.Ytablkaofaedpeaa
open Go.ChangeShapes Go.WideShapes Go.ChangeAt Go.RowKit
attribute [local go_sem] Gives GivesE
namespace BuP
open BuM MbM MbP MpV
section
variable {w w' : World} {d g k : Nat} {F : Fq} {b : Bs}
theorem lb_adIo {gB gL gN : Nat} {lb : Nat → Nat} (H : Pp (RepK 0) w g F k b) (hk : k + b.steps.length + 2 ≤ 8000) (bB : Blk w gB 22 #[.pointer (some ⟨g, 0, none⟩)]) (bL : Blk w gL 41 (ar 32 lb)) (bN : Blk w gN 37 #[.int .u64 0]) (nB : ¬ mutP F gB) (nL : ¬ mutP F gL) (nN : ¬ mutP F gN ∧ ¬ rdP F gN) :
    Calls Try.prog 38 #[MbP.at' g, .agg (enL ⟨5, 0, 0, pad lb, 0⟩).toArray, .func (.func 40) #[] #[.pointer (some ⟨gB, 0, none⟩), .pointer (some ⟨gL, 0, none⟩), .pointer (some ⟨gN, 0, none⟩)]] w fun e w' =>
      e = .returned (.agg (enL (adB (BuM.ahead b) lb)).toArray) ∧ outX (fun q => q = gN) (RepK 0) w g F (k + b.steps.length + 2) (BuM.adT b lb) w' ∧ Blk w' gN 37 #[.int .u64 (adN (BuM.ahead b))] := by
  have hlN := bN.lt
  refine (lb_io (X := fun q => q = gN) (D := fun w => Blk w gN 37 #[.int .u64 (avN (BuM.ahead b).c)]) (y := ⟨5, 0, 0, pad lb, avE (BuM.ahead b).c⟩) (b2 := { BuM.ahead b with c := avC (BuM.ahead b).c lb }) (cap := #[.pointer (some ⟨gB, 0, none⟩), .pointer (some ⟨gL, 0, none⟩), .pointer (some ⟨gN, 0, none⟩)]) H hk hcf_ad (fun q e => by rw [e]; exact ⟨hlN, nN.1, nN.2⟩) (fun w w' T h1 h2 h3 => h1.turn h2 (h3 gN rfl)) fun _ w1 t F1 hP hC ht n1 n2 bt => ?_).mono ?_
  · have tu := hC.2.2.2.2
    have hlt : gN < w1.heap.size := Nat.lt_of_lt_of_le hlN tu.size
    refine lb_ad1 (gB := gB) (gL := gL) (gN := gN) hP (by omega) ⟨n1, n2⟩ ⟨fun e => ?_, fun e => ?_⟩ (by omega) bt (bB.turn tu fun e => e.elim nB id) (bL.turn tu fun e => e.elim nL id) (bN.turn tu fun e => e.elim nN.1 id)
    · rcases hC.2.2.1 gN e with y | y
      · exact nN.1 y
      · omega
    · rcases hC.2.2.2.1 gN e with y | y | y
      · exact nN.1 y
      · exact nN.2 y
      · omega
  · rintro e w' (⟨ho, he, h⟩ | ⟨ho, he, h, hD⟩)
    · have e1 : adB (BuM.ahead b) lb = ⟨5, 0, 0, pad lb, 13⟩ := by unfold adB adE; rw [if_pos ho]
      have e2 : adN (BuM.ahead b) = 0 := by unfold adN; rw [if_pos ho]
      have e3 : adM (BuM.ahead b) lb = BuM.ahead b := by unfold adM; rw [if_pos ho]
      obtain ⟨F3, h3, h4⟩ := Come.ofQ h
      rw [e1, e2]
      refine ⟨he, ?_, bN.turn h4.2.2.2.2 fun e => e.elim nN.1 id⟩
      unfold BuM.adT
      rw [e1, e3]
      exact (Come.trans (Come.refl (fun q => q = gN) F (Below.refl _ _)) h4 fun _ e => e.elim).toX h3
    · have e1 : adB (BuM.ahead b) lb = ⟨5, 0, 0, pad lb, avE (BuM.ahead b).c⟩ := by unfold adB adE avE; rw [ho]; rfl
      have e2 : adN (BuM.ahead b) = avN (BuM.ahead b).c := by unfold adN avN; rw [ho]; rfl
      have e3 : adM (BuM.ahead b) lb = { BuM.ahead b with c := avC (BuM.ahead b).c lb } := by
        unfold adM avC
        rw [if_neg (by rw [ho]; decide)]
        by_cases hf : full (BuM.ahead b).c = true
        · rw [if_pos hf, if_pos hf]
        · rw [if_neg hf, if_neg hf]
      rw [e1, e2]
      refine ⟨he, ?_, hD⟩
      unfold BuM.adT
      rw [e1, e3]
      exact h
def kPt : Sp := ⟨fun v => ∃ q, v = .pointer (some ⟨q, 0, none⟩), fun _ _ => True, .pointer (some ⟨0, 0, none⟩)⟩
theorem kPt_ok : kPt.ok := ⟨⟨0, rfl⟩, fun _ _ _ _ _ => trivial⟩
section
variable {a : Act} {dst : Option Tmp} {ty T : TypeId} {pos : String} {after : Array Edge} {gd : Option (Nat × Bool)} {z : Array Value} {R : Value → World → Prop}
theorem gE_alZ (hz : ∀ w, (zeroValue T).run Try.prog w = .ok (.agg z) w) (hR : R (.pointer (some ⟨w.heap.size, 0, none⟩)) (w.alloc (.cells z T))) : GivesE Try.prog ⟨dst, .alloc T, ty, pos, after, gd⟩ a w R := by
  have hr : (Instr.alloc T true (.tuple #[])).run Try.prog w = .ok (.pointer (some ⟨w.heap.size, 0, none⟩)) (w.alloc (.cells z T)) := by
    simp [Instr.alloc, Sem.run_bind, hz w, newVar, newRow, Value.cells]
  unfold GivesE execOp
  simp only [Sem.run_bind, hr, Result.andThen_ok, Sem.run_pure]
  exact hR
theorem gE_bldE {s : Nat → Nat} {x : Operand} (hx : a.eval x = .agg (ar 64 s)) (hR : R (.agg (enL ⟨5, 0, 0, s, 0⟩).toArray) w) : GivesE Try.prog ⟨dst, .build 51 #[(0, .const (.int .i64 5)), (3, x)], ty, pos, after, gd⟩ a w R := by
  have hr : (Instr.build 51 #[(0, .int .i64 5), (3, .agg (ar 64 s))]).run Try.prog w = .ok (.agg (enL ⟨5, 0, 0, s, 0⟩).toArray) w := run_build w _ _ _ (by kernel_rfl)
  have hm : (#[(0, .const (.int .i64 5)), (3, x)] : Array (Nat × Operand)).map (fun (i, x) => (i, a.eval x)) = #[(0, .int .i64 5), (3, .agg (ar 64 s))] := by
    simp only [List.map_toArray, List.map_cons, List.map_nil, hx]; rfl
  unfold GivesE execOp
  simp only [Sem.run_bind, hm, hr, Result.andThen_ok, Sem.run_pure]
  exact hR
end
/-- What holds in the midst of Advance. -/
structure AvM (w0 : World) (g : Nat) (F : Fq) (K : Nat) (b2 : Bs) (gN : Nat) (N : Int) (z : BuM.Ent) (d5 d6 d7 : Bool) (v6 : Value) (w' : World) : Prop where
  pre : d5 = false → Below w0.heap.size w0 w'
  post : d5 = true → ∃ F', Pp (RepK 0) w' g F' K b2 ∧ Come (fun q => q = gN) w0 F w' F' ∧ Blk w' gN 37 #[.int .u64 N] ∧ (d6 = true → ∀ q, v6 = .pointer (some ⟨q, 0, none⟩) → ¬ mutP F' q ∧ ¬ rdP F' q)
  var : d6 = true → ∃ q, v6 = .pointer (some ⟨q, 0, none⟩) ∧ w0.heap.size ≤ q ∧ Blk w' q 51 (enL (if d7 then z else enP0)).toArray
set_option maxHeartbeats 1000000 in
set_option maxRecDepth 100000 in
theorem lb_adv (H : Pp (RepK 0) w g F k b) (hk : k + b.steps.length + 2 ≤ 8000) (lb : Nat → Nat) : Calls Try.prog 16 #[MbP.at' g, .agg (ar 32 lb)] w fun e w' => e = .returned (.tuple #[.int .u64 (BuM.adN (BuM.ahead b)), .int .i64 (BuM.adB (BuM.ahead b) lb).e]) ∧ outQ (RepK 0) w g F (k + b.steps.length + 2) (BuM.adT b lb) w' := by
  have HH := hid H
  clear H
  unfold MbP.at'
  go_enter Try.func16, Try.ntmps16
  go_upto_region 2 with fail
  generalize hw0 : World.alloc w _ = w0
  generalize hwa : World.alloc w0 _ = wa
  generalize hw1 : World.alloc wa _ = w1
  obtain ⟨gB, hgB⟩ : ∃ n, n = w.heap.size := ⟨_, rfl⟩
  have hs0 : w0.heap.size = w.heap.size + 1 := by rw [← hw0]; simp
  have hsa : wa.heap.size = w.heap.size + 1 + 1 := by rw [← hwa, ← hs0]; simp
  obtain ⟨gL, hgL⟩ : ∃ n, n = w.heap.size + 1 := ⟨_, rfl⟩
  obtain ⟨gN, hgN⟩ : ∃ n, n = w.heap.size + 1 + 1 := ⟨_, rfl⟩
  have ba : Below w.heap.size w w0 := by rw [← hw0]; exact (Below.refl _ _).alloc (Nat.le_refl _) _
  have bb : Below w0.heap.size w0 wa := by rw [← hwa]; exact (Below.refl _ _).alloc (Nat.le_refl _) _
  have bc : Below wa.heap.size wa w1 := by rw [← hw1]; exact (Below.refl _ _).alloc (Nat.le_refl _) _
  have k1 : Blk w0 gB 22 #[.pointer (some ⟨g, 0, none⟩)] := by rw [← hw0, hgB]; exact Blk.new _ _ _
  have k2 : Blk wa gL 41 (ar 32 lb) := by rw [← hwa, hgL, ← hs0]; exact Blk.new _ _ _
  have k3 : Blk w1 gN 37 #[.int .u64 0] := by rw [← hw1, hgN, ← hsa]; exact Blk.new _ _ _
  have K1 := hid ((k1.below bb k1.lt).below bc (Nat.lt_of_lt_of_le k1.lt bb.size))
  have K2 := hid (k2.below bc k2.lt)
  have K3 := hid k3
  have BEL := hid (show Below w.heap.size w w1 from (ba.trans (bb.mono ba.size)).trans (bc.mono (Nat.le_trans ba.size bb.size)))
  have nB : ¬ mutP F gB := fun e => by have := HH.out.mlt gB e; omega
  have nL : ¬ mutP F gL := fun e => by have := HH.out.mlt gL e; omega
  have nN : ¬ mutP F gN ∧ ¬ rdP F gN := ⟨fun e => by have := HH.out.mlt gN e; omega, fun e => by have := HH.out.ilt gN e; omega⟩
  have hNw := hid (show w.heap.size ≤ gN by omega)
  rw [← hgN, ← hgL, ← hgB]
  clear hw1 hw0 hwa hs0 hsa hgB hgL hgN ba bb bc k1 k2 k3
  have H1 := hid (HH.out.belowK BEL.out)
  have qB : w1.cell? ⟨gB, 0, none⟩ = some (.pointer (some ⟨g, 0, none⟩)) := K1.out.cell 0
  obtain ⟨z, hz⟩ : ∃ z, z = adB (BuM.ahead b) lb := ⟨_, rfl⟩
  obtain ⟨N, hN⟩ : ∃ z, z = adN (BuM.ahead b) := ⟨_, rfl⟩
  have HZ := hid hz
  have HN := hid hN
  have lN := hid K3.out.lt
  have mF := hid (show ∀ q, mutP F q → q < w.heap.size from fun q e => HH.out.mlt q e)
  have rF := hid (show ∀ q, rdP F q → q < w.heap.size from fun q e => HH.out.ilt q e)
  clear hz hN
  refine wp_region_d (S := yS [some (.pointer (some ⟨g, 0, none⟩)), some (.agg (ar 32 lb)), some (.agg (ar 64 (pad lb))), some (.agg (enL ⟨5, 0, 0, pad lb, 0⟩).toArray), some (.func (.func 40) #[] #[.pointer (some ⟨gB, 0, none⟩), .pointer (some ⟨gL, 0, none⟩), .pointer (some ⟨gN, 0, none⟩)]), some (.agg (enL z).toArray), none] [(6, kPt)])
    (C := fun d' vs w' => AvM w1 g F (k + b.steps.length + 2) (BuM.adT b lb) gN N z (d' 5) (d' 6) false (vs 6) w') 7 (by kernel_rfl) (by kernel_rfl) (by kernel_rfl) _
    (yS_ok _ fun y hy => by simp only [List.mem_cons, List.not_mem_nil, or_false] at hy; rcases hy with rfl; exact kPt_ok) ⟨fun _ => (Below.refl _ _).drew, (fun e => by cases e), (fun e => by cases e)⟩ fun vs => ?_
  simp only [List.take_succ_cons, List.take_zero, List.drop_succ_cons, List.drop_zero]
  refine ⟨.inl ⟨rfl, fun dd w' hd hcl hnx hw hC => ?_⟩, fun e => ?_⟩
  · have h5 : dd 5 = false := hnx 5 (by kernel_rfl)
    have hcell := ((hC.pre h5).cell (p := ⟨gB, 0, none⟩) (World.block_lt_of_cell? w1 _ qB)).trans qB
    go_simp
    exact ⟨rfl, hC⟩
  have e' : vs 0 = _ := e
  rw [e']
  clear e e'
  simp only [Act.put, List.setIfInBounds_toArray, List.set_cons_succ, List.set_cons_zero]
  refine ⟨.inl ⟨rfl, fun dd w' hd hcl hnx hw hC => ?_⟩, fun e => ?_⟩
  · have h5 : dd 5 = false := by
      cases h5 : dd 5 with
      | false => rfl
      | true =>
        have := hcl 2 1 (by kernel_rfl) (hcl 3 2 (by kernel_rfl) (hcl 5 3 (by kernel_rfl) h5))
        rw [show dd 1 = false from hd] at this; cases this
    exact gE_ldA ClP.tTg rfl (K2.out.below (hC.pre h5) K2.out.lt).head ⟨rfl, hC⟩
  have e' : vs 1 = _ := e
  rw [e']
  clear e e'
  simp only [Act.put, List.setIfInBounds_toArray, List.set_cons_succ, List.set_cons_zero]
  refine ⟨.inl ⟨rfl, fun dd w' hd hcl hnx hw hC => ?_⟩, fun e => ?_⟩
  · go_simp
    refine (lb_sector lb w').mono ?_
    rintro e w5 ⟨rfl, hb⟩
    refine ⟨_, rfl, rfl, ?_⟩
    refine ⟨fun e => (hC.pre e).trans (hb.mono (hC.pre e).size), fun e => ?_, fun e => ?_⟩
    · obtain ⟨F', hP, hCm, hB, hq⟩ := hC.post e
      exact ⟨F', hP.belowK hb, hCm.trans (Come.refl (fun _ => False) F' hb) (fun _ e => e.elim), hB.below hb hB.lt, hq⟩
    · obtain ⟨q, e1, e2, e3⟩ := hC.var e
      exact ⟨q, e1, e2, e3.below hb e3.lt⟩
  have e' : vs 2 = _ := e
  rw [e']
  clear e e'
  simp only [Act.put, List.setIfInBounds_toArray, List.set_cons_succ, List.set_cons_zero]
  refine ⟨.inl ⟨rfl, fun dd w' hd hcl hnx hw hC => ?_⟩, fun e => ?_⟩
  · exact gE_bldE rfl ⟨rfl, hC⟩
  have e' : vs 3 = _ := e
  rw [e']
  clear e e'
  simp only [Act.put, List.setIfInBounds_toArray, List.set_cons_succ, List.set_cons_zero]
  refine ⟨.inl ⟨rfl, fun dd w' hd hcl hnx hw hC => ?_⟩, fun e => ?_⟩
  · go_simp
    first | exact ⟨rfl, hC⟩ | exact hC
  have e' : vs 4 = _ := e
  rw [e']
  clear e e'
  simp only [Act.put, List.setIfInBounds_toArray, List.set_cons_succ, List.set_cons_zero]
  refine ⟨.inl ⟨rfl, fun dd w' hd hcl hnx hw hC => ?_⟩, fun e => ?_⟩
  · have hb := hC.pre hd
    have hc := lb_adIo (lb := lb) (H1.out.belowK hb) hk (K1.out.below hb K1.out.lt) (K2.out.below hb K2.out.lt) (K3.out.below hb K3.out.lt) nB nL nN
    rw [← HZ.out, ← HN.out] at hc
    have hv := hC.var
    go_simp
    refine hc.mono ?_
    rintro e w5 ⟨rfl, ho, hB⟩
    obtain ⟨F', hP, hCm⟩ := Come.ofX ho
    refine ⟨_, rfl, rfl, ?_⟩
    refine ⟨(fun e => by cases e), fun _ => ⟨F', hP, (Come.refl _ F hb).trans hCm (fun q e => .inl e), hB, fun e q eq => ?_⟩, fun e => ?_⟩
    · obtain ⟨q', e1, e2, e3⟩ := hv e
      have hq : q' = q := by
        have e1' : vs 6 = .pointer (some ⟨q', 0, none⟩) := e1
        have eq' : vs 6 = .pointer (some ⟨q, 0, none⟩) := eq
        rw [e1'] at eq'
        simpa using eq'
      subst hq
      have hl := e3.lt
      have hwl := hb.size
      have b1 := BEL.out.size
      refine ⟨fun y => ?_, fun y => ?_⟩
      · rcases hCm.2.2.1 q' y with x | x
        · have := mF.out q' x; omega
        · omega
      · rcases hCm.2.2.2.1 q' y with x | x | x
        · have := mF.out q' x; omega
        · have := rF.out q' x; omega
        · omega
    · obtain ⟨q', e1, e2, e3⟩ := hv e
      have b1 := BEL.out.size
      exact ⟨q', e1, e2, e3.turn hCm.2.2.2.2 fun y => by
        rcases y with y | y
        · have := mF.out q' y; omega
        · have := lN.out; omega⟩
  have e' : vs 5 = _ := e
  rw [e']
  clear e e'
  simp only [Act.put, List.setIfInBounds_toArray, List.set_cons_succ, List.set_cons_zero]
  refine ⟨.inl ⟨rfl, fun dd w' hd hcl hnx hw hC => ?_⟩, fun e => ?_⟩
  · have ha := (Below.refl w'.heap.size w').alloc (Nat.le_refl _) (.cells (enL enP0).toArray 51)
    have hsz : w1.heap.size ≤ w'.heap.size := by
      cases h5 : dd 5 with
      | false => exact (hC.pre h5).size
      | true => obtain ⟨F', _, hCm, _⟩ := hC.post h5; exact hCm.2.2.2.2.size
    refine gE_alZ zEnP ⟨⟨_, rfl⟩, ?_⟩
    refine ⟨fun e => (hC.pre e).trans (ha.mono (hC.pre e).size), fun e => ?_, fun _ => ⟨_, rfl, hsz, ?_⟩⟩
    · obtain ⟨F', hP, hCm, hB, hq⟩ := hC.post e
      refine ⟨F', hP.belowK ha, hCm.trans (Come.refl (fun _ => False) F' ha) (fun _ e => e.elim), hB.below ha hB.lt, fun _ q eq => ?_⟩
      have eq' : Value.pointer (some ⟨w'.heap.size, 0, none⟩) = .pointer (some ⟨q, 0, none⟩) := eq
      have hq : w'.heap.size = q := by simpa using eq'
      exact ⟨fun y => by have := hP.mlt q y; omega, fun y => by have := hP.ilt q y; omega⟩
    · exact Blk.new _ _ _
  obtain ⟨gE, e'⟩ : ∃ q, vs 6 = .pointer (some ⟨q, 0, none⟩) := e
  rw [e']
  have E6 := hid e'
  clear e'
  simp only [Act.put, List.setIfInBounds_toArray, List.set_cons_succ, List.set_cons_zero]
  intro dd wz hall hC
  have h5 : dd 5 = true := hall 5 (by omega)
  have h6 : dd 6 = true := hall 6 (by omega)
  obtain ⟨F', hP, hCm, hB, hq⟩ := hC.post h5
  obtain ⟨q, e1, e2, e3⟩ := hC.var h6
  have hqe : gE = q := by
    rw [E6.out] at e1
    simpa using e1
  subst hqe
  have nE := hq h6 gE E6.out
  have l1 := lN.out
  have ZN := hid hB
  have ZE := hid (show Blk wz gE 51 (enL enP0).toArray from e3)
  have ZP := hid hP
  have ZC := hid (show Come (fun _ => False) w F wz F' from (Come.refl _ F BEL.out).trans hCm fun q e => .inr (by rw [e]; exact hNw.out))
  have hEw := hid (show w.heap.size ≤ gE from Nat.le_trans BEL.out.size e2)
  have hEN : gE ≠ gN := by omega
  clear hC hall h5 h6 hP hCm hB hq e1 e2 e3 E6 qB K1 K2 K3 H1 HH nB nL nN mF rF lN hNw l1
  go_upto_region 3 with ((with_reducible apply stR (tEnP z)); rfl; rfl; exact ZE.out; exact en_size _ _; exact en_one' _)
  have tu := Turn.setRow (S := fun q => q = gE) wz gE (enL z).toArray rfl
  have YE := hid (show Blk (wz.setRow gE (enL z).toArray) gE 51 (enL z).toArray from ZE.out.setRow_same _)
  have YN := hid (ZN.out.turn tu fun e => hEN e.symm)
  have YP := hid (ZP.out.turnK tu fun q e x => by rw [x] at e; exact e.elim nE.1 nE.2)
  have YC := hid (show Come (fun _ => False) w F (wz.setRow gE (enL z).toArray) F' from ZC.out.trans (Come.touch (X := fun q => q = gE) _ F' tu fun q e => .inl e) fun q e => .inr (by rw [e]; exact hEw.out))
  clear tu ZE ZN ZP ZC nE hEN
  generalize World.setRow wz _ _ = wy at YE YN YP YC ⊢
  have qN : wy.cell? ⟨gN, 0, none⟩ = some (.int .u64 N) := YN.out.cell 0
  have qE : wy.cell? ⟨gE, 67, none⟩ = some (.int .i64 z.e) := en_qe YE.out
  refine wp_region_tail (C := fun w' => Below wy.heap.size wy w') 5 (by kernel_rfl) (by kernel_rfl) (by kernel_rfl) (Below.refl _ _).drew ?_
  simp only [List.take_succ_cons, List.take_zero, List.drop_succ_cons, List.drop_zero]
  apply wpK_val
  · rfl
  · intro w' hw'
    have hcell := (hw'.cell (p := ⟨gN, 0, none⟩) (World.block_lt_of_cell? wy _ qN)).trans qN
    go_simp
    first | exact rfl | exact ⟨rfl, hw'⟩
  simp only [Act.put, List.setIfInBounds_toArray, List.set_cons_succ, List.set_cons_zero]
  apply wpK_val
  · rfl
  · intro w' hw'
    go_simp
    first | exact rfl | exact ⟨rfl, hw'⟩
  simp only [Act.put, List.setIfInBounds_toArray, List.set_cons_succ, List.set_cons_zero]
  apply wpK_val
  · rfl
  · intro w' hw'
    have hcell := (hw'.cell (p := ⟨gE, 67, none⟩) (World.block_lt_of_cell? wy _ qE)).trans qE
    go_simp
    first | exact rfl | exact ⟨rfl, hw'⟩
  simp only [Act.put, List.setIfInBounds_toArray, List.set_cons_succ, List.set_cons_zero]
  apply wpK_val
  · rfl
  · intro w' hw'
    go_simp
    first | exact rfl | exact ⟨rfl, hw'⟩
  simp only [Act.put, List.setIfInBounds_toArray, List.set_cons_succ, List.set_cons_zero]
  apply wpK_val
  · rfl
  · intro w' hw'
    go_simp
    first | exact rfl | exact ⟨rfl, hw'⟩
  simp only [Act.put, List.setIfInBounds_toArray, List.set_cons_succ, List.set_cons_zero]
  intro w5 hC5
  have P5 := hid (YP.out.belowK hC5)
  have C5 := hid (show Come (fun _ => False) w F w5 F' from YC.out.trans (Come.refl (fun _ => False) F' hC5) fun _ e => e.elim)
  clear YN YE YP YC qN qE hC5
  go_wp2_with fail
  go_ret2
  exact ⟨by rw [HZ.out, HN.out]; rfl, C5.out.toQ P5.out⟩
end
end BuP
end Go.Proofs.Ytablkaofaedpeaa
set_option maxRecDepth 100000
namespace Go.Proofs.Ytablkaofaedpeaa
open Go.ChangeShapes Go.WideShapes Go.ChangeAt Go.RowKit
attribute [local go_sem] Gives GivesE
namespace BuP
open BuM MbM MbP MpV
theorem lb_eqNil (A : Option Addr) (l c : Nat) (w : World) : (binOp .eql 65 (.slice A l c) (.slice none 0 0)).run Try.prog w = .ok (.bool A.isNone) w := Go.Lib.run_eql_slice_nil (P := Try.prog) w 65 5 A l c 0 0 undBy
theorem lb_eqNilP (A : Option Addr) (l c : Nat) (w : World) : (binOp .eql 52 (.slice A l c) (.slice none 0 0)).run Try.prog w = .ok (.bool A.isNone) w := Go.Lib.run_eql_slice_nil (P := Try.prog) w 52 23 A l c 0 0 Try.underlying52
attribute [local go_sem] lb_eqNil
set_option maxHeartbeats 400000 in
theorem lb_cloneB (A : Option Addr) (l : List Nat) (n cap : Nat) (hn : n ≤ 140737488351232) (w : World) (hA : Arg w A l n cap) :
    Calls Try.prog 61 #[.slice A n cap] w fun e w' => ∃ A' c', e = .returned (.slice A' n c') ∧ Arg w' A' l n c' ∧ (∀ q o, 0 < l.length → A' = some ⟨q, o, none⟩ → w.heap.size ≤ q ∧ q < w'.heap.size) ∧ Below w.heap.size w w' := by
  have HA := hid hA
  have hln := hA.len
  have hfin : ∀ (v : Value) (w' : World), Own 5 .u8 w' w.heap.size v l → Below w.heap.size w w' → ∃ A' c', Ending.returned v = .returned (.slice A' n c') ∧ Arg w' A' l n c' ∧ (∀ q o, 0 < l.length → A' = some ⟨q, o, none⟩ → w.heap.size ≤ q ∧ q < w'.heap.size) ∧ Below w.heap.size w w' := fun v w' ho hb => by
    obtain ⟨A', c', rfl, ha⟩ := ho.arg hA.b256
    refine ⟨A', c', by rw [hln], by rw [← hln]; exact ha, fun q o hl e => ?_, hb⟩
    rcases ho.form with ⟨e2, e3⟩ | ⟨g, c2, e2, h1, h2, _⟩
    · rw [e3] at hl; cases hl
    · rw [e] at e2
      cases e2
      exact ⟨h1, h2⟩
  have HFI := hid hfin
  clear hA hfin
  cases A with
  | none =>
    obtain ⟨rfl, rfl⟩ := HA.out.none rfl
    have hl := List.eq_nil_of_length_eq_zero HA.out.len
    subst hl
    clear HA
    go_enter Try.func61, Try.ntmps61
    go_wp2_with fail
    go_ret
    exact HFI.out _ _ Own.nil (Below.refl _ _)
  | some ad =>
    go_enter Try.func61, Try.ntmps61
    have OE : Hid (Own 5 .u8 (w.alloc (.cells #[] 5)) w.heap.size (.slice (some ⟨w.heap.size, 0, none⟩) 0 0) []) := hid (Own.empty w (Nat.le_refl _))
    have BE := hid ((Below.refl w.heap.size w).alloc (Nat.le_refl _) (.cells #[] 5))
    have AE := hid (HA.out.on BE.out)
    go_wp2_with (at_builtin; (with_reducible apply wappB); rfl; rfl; (intro e; cases e); exact OE.out; exact AE.out.byt.nums; exact AE.out.len; (rw [List.length_nil]; omega); (simp); intro v4 w4 o4 g4)
    have B4 := hid (below_grown BE.out g4 OE.out (Nat.le_refl _) (Nat.le_refl _))
    have O4 := hid o4
    clear o4 g4
    go_wp2_with fail
    go_ret
    exact HFI.out _ _ O4.out B4.out
set_option maxRecDepth 100000 in
theorem lb_cloneP {w : World} {S : Nat → Prop} {A : Option Addr} {gs : List Nat} {n cap : Nat} (hS : Sli 1 ptL S w A gs n cap) (hlen : n ≤ 10000) :
    Calls Try.prog 47 #[.slice A n cap] w fun e w' => ∃ A' c', e = .returned (.slice A' n c') ∧ Sli 1 ptL (fun b => w.heap.size ≤ b) w' A' gs n c' ∧ Below w.heap.size w w' := by
  have SL := hid hS
  have hl := hS.len
  have hfin : ∀ (v : Value) (w' : World), OwnX 23 1 ptL w' w.heap.size v gs → Below w.heap.size w w' → ∃ A' c', Ending.returned v = .returned (.slice A' n c') ∧ Sli 1 ptL (fun b => w.heap.size ≤ b) w' A' gs n c' ∧ Below w.heap.size w w' := fun v w' ho hb => by
    obtain ⟨A', c', rfl, sl⟩ := ho.sli ptL_len
    exact ⟨A', c', by rw [hl], by rw [← hl]; exact sl, hb⟩
  have HFI := hid hfin
  clear hfin
  cases A with
  | none =>
    obtain ⟨rfl, rfl⟩ := hS.none rfl
    obtain rfl := List.eq_nil_of_length_eq_zero hl
    have hq := lb_eqNilP none 0 0
    clear hS SL hl
    go_enter Try.func47, Try.ntmps47
    go_wp2_with fail
    go_ret
    exact HFI.out _ _ (OwnX.nil _ _ _ _ _) (Below.refl _ _)
  | some ad =>
    have hq := lb_eqNilP (some ad) n cap
    clear hS
    go_enter Try.func47, Try.ntmps47
    go_wp2_with (at_builtin; (with_reducible apply wappX eltPtP Try.underlying52 (B := w.heap.size)); rfl; rfl; exact OwnX.empty (Nat.le_refl _); exact SL.out.turn (Turn.alloc (S := fun _ => False) w _) (fun _ _ _ e => e); (simp; omega); omega; (simp); intro v2 w2 o2 g2)
    rw [List.nil_append] at o2
    have b2 : Below w.heap.size w w2 := ((Below.refl _ _).alloc (Nat.le_refl _) _).trans ((Turn.of_grown (S := fun b => w.heap.size ≤ b) g2 fun b e => by cases e; simp).below (by simp) fun _ h => h)
    go_ret
    exact HFI.out _ _ o2 b2
theorem blk_list_set {w : World} {g i : Nat} {t : TypeId} {l : List Value} {v : Value} (h : Blk w g t l.toArray) : Blk (w.setCell ⟨g, i, none⟩ v) g t (l.set i v).toArray := by
  have := h.setCell_same i v
  rwa [List.setIfInBounds_toArray] at this
theorem list_set69 {a b c d e v u : Value} {l : List Value} (h : l.length = 64) : (a :: b :: c :: d :: e :: (l ++ [v])).set 69 u = a :: b :: c :: d :: e :: (l ++ [u]) := by
  rw [List.set_cons_succ, List.set_cons_succ, List.set_cons_succ, List.set_cons_succ, List.set_cons_succ, List.set_append_right _ _ (by omega), h, Nat.sub_self, List.set_cons_zero]
theorem st_setP {w : World} {g : Nat} {t : TypeId} {s : Stp} {x : SlB} (h : Blk w g t (stL (s, x)).toArray) (x' : SlB) : Blk (w.setCell ⟨g, 69, none⟩ (.slice x'.A s.picks.length x'.c)) g t (stL (s, x')).toArray := by
  have h1 := blk_list_set (i := 69) (v := .slice x'.A s.picks.length x'.c) h
  have e : (stL (s, x)).set 69 (.slice x'.A s.picks.length x'.c) = stL (s, x') := list_set69 (ar64_len s.s)
  rw [e] at h1
  exact h1
/-- A list of the call's own, from its block. -/
theorem own_sli {α : Type} {E : TypeId} {k : Nat} {en : α → List Value} {w : World} {v : Value} {l : List α} {S : Nat → Prop} (hE : ∀ x, (en x).length = k) (h : OwnX E k en w 0 v l) (hS : ∀ b, v.ownBlock = some b → S b) : ∃ A cap, v = .slice A l.length cap ∧ Sli k en S w A l l.length cap := by
  obtain ⟨A, cap, rfl, sl⟩ := h.sli hE
  refine ⟨A, cap, rfl, sl.len, sl.cap, sl.max, sl.none, fun hn => ?_⟩
  obtain ⟨b, o, rfl, _, hl, hr⟩ := sl.lst hn
  exact ⟨b, o, rfl, hS b rfl, hl, hr⟩
section
variable {ops : Array Oper} {Q : Exit → Act → World → Prop} {a : Act} {w : World} {rest : List Oper} {dst : Option Tmp} {ty : TypeId} {pos : String} {after : Array Edge} {m x y : Operand} {r : Nat} {i : Int} {F : MpV.Img} {v : Value}
theorem wputV (hm : a.eval m = .map (some r)) (hx : a.eval x = .int .i64 i) (hy : a.eval y = v) (h : MapV w r F) (hk : ∀ w', MapV w' r (MpV.upd F i v) → Turn (fun b => b = r) w w' → wpList Try.prog ops Q rest (a.put dst undef) w') :
    wpList Try.prog ops Q (⟨dst, .mapUpdate 54 m x y, ty, pos, after, none⟩ :: rest) a w := by
  obtain ⟨w', hr, h1, h2⟩ := MpV.run_put h i v
  refine wpList_plain rfl fun K hK => ?_
  unfold Oper.wp execOp
  simp [hm, hx, hy, hr, Result.andThen]
  exact hK _ _ (hk w' h1 h2)
theorem gE_lookV {R : Value → World → Prop} {gd : Option (Nat × Bool)} (hm : a.eval m = .map (some r)) (hx : a.eval x = .int .i64 i) (h : MapV w r F) (hR : R (F i) w) : GivesE Try.prog ⟨dst, .lookup 54 m x false, ty, pos, after, gd⟩ a w R := by
  unfold GivesE execOp
  simp only [Sem.run_bind, hm, hx, MpV.run_look h i, Result.andThen_ok, Sem.run_pure]
  exact hR
end
end BuP
end Go.Proofs.Ytablkaofaedpeaa
