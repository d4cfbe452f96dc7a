/-
  The landed bus: Advance's closure.
  The landed bus: Advance.
  The landed bus: copies of steps, by the numbers of their I/Os.
  The landed bus: byNumbers.
  The landed bus: New.
  The landed bus: Cell, Advance.
  The log of a bus, done again on other members, in plain words; members of the program's, alone.
  The law BusReplay: the writes and flushes of the log that are OK, done again on new members, make them the same.
  The landed bus: all of its contracts.
  BusPlays' made: members of both, steps, while they are put together.
  BusPlays' made: the document's bus beside it all, while it is put together.
  BusPlays' made: a bus of the program's beside one of the document's.
-/
import Derived.Test.YthogklchmhjjkaaGreatMrg9
set_option linter.unusedVariables false
set_option linter.unusedSimpArgs false
set_option maxRecDepth 100000
namespace Go.Proofs.YthogklchmhjjkaaGreat
open Go.ChangeShapes Go.WideShapes Go.ChangeAt Go.RowKit
attribute [local go_sem] Gives GivesE
namespace BuP
open BuM MbM MbP MpV
section
variable {w w' : World} {d g k : Nat} {F : Fq} {b : Bs}
theorem hcf_ad (args : Array Value) (w : World) : (callFunc 61 args).run Tryz.prog w = .ok (.enter 61 args) w := by
  simp [callFunc, Tryz.func61, Tryz.f61]
/-- What the cell's Advance answers. -/
def avN (c : ClP.Held) : Int := if full c then 0 else ((c.1 + 1 : Nat) : Int)
def avE (c : ClP.Held) : Int := if full c then 15 else 0
def avC (c : ClP.Held) (t : Nat → Nat) : ClP.Held := if full c then c else (c.1 + 1, t)
theorem lb_cAdv (H : Pp (RepK d) w g F k b) (hk : k ≤ 8000) (t : Nat → Nat) : Calls Tryz.prog 62 #[MbP.at' F.gc, .agg (ar 32 t)] w fun e w' => e = .returned (.tuple #[.int .u64 (avN b.c), .int .i64 (avE b.c)]) ∧ ∃ F', Pp (RepK d) w' g F' (k + 1) { b with c := avC b.c t } ∧ Come (fun _ => False) w F w' F' := by
  have hm := H.cmx
  by_cases hf : b.c.1 = ClP.most
  · have h1 : full b.c = true := by unfold full; simpa using hf
    refine (cb_full H.cel hf t).mono ?_
    rintro e w' ⟨he, hb⟩
    refine ⟨by rw [he]; unfold avN avE; rw [if_pos h1, if_pos h1], F, ?_, Come.refl _ F hb⟩
    unfold avC
    rw [if_pos h1]
    exact (H.belowK hb).mono (Nat.le_succ k)
  · have h1 : ¬ full b.c = true := by unfold full; simpa using hf
    refine (cb_adv H.cel (by omega) (by have := H.sz.2.2.1; omega) t).mono ?_
    rintro e w' ⟨he, M', hc, hM, ht⟩
    refine ⟨by rw [he]; unfold avN avE; rw [if_neg h1, if_neg h1], ?_⟩
    unfold avC
    rw [if_neg h1]
    exact Come.ofQ (Pp.celled (repB := RepK d) (repK_fr d) H hc hM ht (Nat.le_succ k) (by rw [List.length_append]; have := H.sz.2.2.1; show _ + 1 ≤ _; omega) (by show b.c.1 + 1 ≤ ClP.most; omega))
/-- What holds in the midst of Advance's closure. -/
structure AvC (d : Nat) (w0 : World) (g : Nat) (F : Fq) (k : Nat) (b2 : Bs) (t gN : Nat) (x : BuM.Ent) (N e : Int) (d6 d10 d13 : Bool) (w' : World) : Prop where
  pre : d6 = false → Below w0.heap.size w0 w'
  post : d6 = true → ∃ F', Pp (RepK d) w' g F' k b2 ∧ Come (fun q => q = t ∨ q = gN) w0 F w' F'
  n : Blk w' gN 23 #[.int .u64 (if d10 then N else 0)]
  t : Blk w' t 57 (enL { x with e := if d13 then e else x.e }).toArray
set_option maxHeartbeats 1000000 in
set_option maxRecDepth 100000 in
theorem lb_ad1 {t gB gL gN : Nat} {T1 : TypeId} {lb : Nat → Nat} (H : Pp (RepK d) w g F k b) (hk : k ≤ 8000) (n1 : ¬ mutP F t ∧ ¬ rdP F t) (n2 : ¬ mutP F gN ∧ ¬ rdP F gN) (htN : t ≠ gN) (bt : Blk w t 57 (enL ⟨5, 0, 0, pad lb, 0⟩).toArray) (bB : Blk w gB T1 #[.pointer (some ⟨g, 0, none⟩)])
    (bL : Blk w gL 25 (ar 32 lb)) (bN : Blk w gN 23 #[.int .u64 0]) :
    Calls Tryz.prog 61 #[MbP.at' t, .pointer (some ⟨gB, 0, none⟩), .pointer (some ⟨gL, 0, none⟩), .pointer (some ⟨gN, 0, none⟩)] w fun e w2 => e = .returned (.tuple #[]) ∧ Blk w2 t 57 (enL ⟨5, 0, 0, pad lb, avE b.c⟩).toArray ∧
      outX (fun q => q = t ∨ q = gN) (RepK d) w g F (k + 1) { b with c := avC b.c lb } w2 ∧ Blk w2 gN 23 #[.int .u64 (avN b.c)] := by
  have HH := hid H
  have q1 : w.cell? ⟨gB, 0, none⟩ = some (.pointer (some ⟨g, 0, none⟩)) := bB.cell 0
  have q2 := pp_gcq H
  obtain ⟨gc, hgc⟩ : ∃ x, x = F.gc := ⟨_, rfl⟩
  have HGC := hid hgc
  rw [← hgc] at q2
  have BT := hid bt
  have BL := hid bL
  have BN := hid bN
  have N1 := hid n1
  have N2 := hid n2
  obtain ⟨N, hN⟩ : ∃ x, x = avN b.c := ⟨_, rfl⟩
  obtain ⟨E, hE⟩ : ∃ x, x = avE b.c := ⟨_, rfl⟩
  have HN := hid hN
  have HE := hid hE
  rw [← hN, ← hE]
  clear H bt bB bL bN n1 n2 hgc hN hE
  unfold MbP.at'
  go_enter Tryz.func61, Tryz.ntmps61
  go_upto_region 0 with fail
  refine wp_region_d (S := yS [some (.pointer (some ⟨t, 0, none⟩)), some (.pointer (some ⟨g, 0, none⟩)), some (.pointer (some ⟨g, 0, none⟩)), some (.pointer (some ⟨g, 1, none⟩)), some (.pointer (some ⟨gc, 0, none⟩)), some (.agg (ar 32 lb)), some (.tuple #[.int .u64 N, .int .i64 E]), some (.tuple #[.int .u64 N, .int .i64 E]), some (.int .u64 N), some (.int .i64 E), some undef, some (.pointer (some ⟨t, 0, none⟩)), some (.pointer (some ⟨t, 67, none⟩)), some undef] [])
    (C := fun d' vs w' => AvC d w g F (k + 1) { b with c := avC b.c lb } t gN ⟨5, 0, 0, pad lb, 0⟩ N E (d' 6) (d' 10) (d' 13) w') 14 (by kernel_rfl) (by kernel_rfl) (by kernel_rfl) _
    (yS_ok _ fun y hy => by cases hy) ⟨fun _ => (Below.refl _ _).drew, (fun e => by cases e), BN.out.drew, BT.out.drew⟩ fun vs => ?_
  simp only [List.take_succ_cons, List.take_zero, List.drop_succ_cons, List.drop_zero]
  have nX := hid (show ∀ (q : Nat) (w' : World) (F' : Fq), q < w.heap.size → ¬ mutP F q ∧ ¬ rdP F q → Come (fun q => q = t ∨ q = gN) w F w' F' → ¬ mutP F' q ∧ ¬ rdP F' q from fun q w' F' hl n c => ⟨fun e => (c.2.2.1 q e).elim n.1 fun y => by omega, fun e => by
    rcases c.2.2.2.1 q e with y | y | y
    · exact n.1 y
    · exact n.2 y
    · omega⟩)
  have tl := hid BT.out.lt
  have nl := hid BN.out.lt
  refine ⟨.inl ⟨rfl, fun dd w' hd hcl hnx hw hC => ?_⟩, fun e => ?_⟩
  · go_simp
    first | exact ⟨rfl, hC⟩ | exact hC
  have e' : vs 0 = _ := e
  rw [e']
  clear e e'
  simp only [Act.put, List.setIfInBounds_toArray, List.set_cons_succ, List.set_cons_zero]
  refine ⟨.inl ⟨rfl, fun dd w' hd hcl hnx hw hC => ?_⟩, fun e => ?_⟩
  · have h6 : dd 6 = false := by
      cases h6 : dd 6 with
      | false => rfl
      | true =>
        have := hcl 2 1 (by kernel_rfl) (hcl 3 2 (by kernel_rfl) (hcl 4 3 (by kernel_rfl) (hcl 6 4 (by kernel_rfl) h6)))
        rw [show dd 1 = false from hd] at this; cases this
    have hcell := ((hC.pre h6).cell (p := ⟨gB, 0, none⟩) (World.block_lt_of_cell? w _ q1)).trans q1
    go_simp
    exact ⟨rfl, hC⟩
  have e' : vs 1 = _ := e
  rw [e']
  clear e e'
  simp only [Act.put, List.setIfInBounds_toArray, List.set_cons_succ, List.set_cons_zero]
  refine ⟨.inl ⟨rfl, fun dd w' hd hcl hnx hw hC => ?_⟩, fun e => ?_⟩
  · go_simp
    first | exact ⟨rfl, hC⟩ | exact hC
  have e' : vs 2 = _ := e
  rw [e']
  clear e e'
  simp only [Act.put, List.setIfInBounds_toArray, List.set_cons_succ, List.set_cons_zero]
  refine ⟨.inl ⟨rfl, fun dd w' hd hcl hnx hw hC => ?_⟩, fun e => ?_⟩
  · go_simp
    first | exact ⟨rfl, hC⟩ | exact hC
  have e' : vs 3 = _ := e
  rw [e']
  clear e e'
  simp only [Act.put, List.setIfInBounds_toArray, List.set_cons_succ, List.set_cons_zero]
  refine ⟨.inl ⟨rfl, fun dd w' hd hcl hnx hw hC => ?_⟩, fun e => ?_⟩
  · have h6 : dd 6 = false := hnx 6 (by kernel_rfl)
    have hcell := ((hC.pre h6).cell (p := ⟨g, 1, none⟩) (World.block_lt_of_cell? w _ q2)).trans q2
    go_simp
    exact ⟨rfl, hC⟩
  have e' : vs 4 = _ := e
  rw [e']
  clear e e'
  simp only [Act.put, List.setIfInBounds_toArray, List.set_cons_succ, List.set_cons_zero]
  refine ⟨.inl ⟨rfl, fun dd w' hd hcl hnx hw hC => ?_⟩, fun e => ?_⟩
  · have h6 : dd 6 = false := hnx 6 (by kernel_rfl)
    exact gE_ldA ClP.tTg rfl (BL.out.below (hC.pre h6) BL.out.lt).head ⟨rfl, hC⟩
  have e' : vs 5 = _ := e
  rw [e']
  clear e e'
  simp only [Act.put, List.setIfInBounds_toArray, List.set_cons_succ, List.set_cons_zero]
  refine ⟨.inl ⟨rfl, fun dd w' hd hcl hnx hw hC => ?_⟩, fun e => ?_⟩
  · have hb := hC.pre hd
    have h10 : dd 10 = false := by
      cases h10 : dd 10 with
      | false => rfl
      | true =>
        have := hcl 7 6 (by kernel_rfl) (hcl 8 7 (by kernel_rfl) (hcl 10 8 (by kernel_rfl) h10))
        rw [show dd 6 = false from hd] at this; cases this
    have h13 : dd 13 = false := by
      cases h13 : dd 13 with
      | false => rfl
      | true =>
        have := hcl 7 6 (by kernel_rfl) (hcl 9 7 (by kernel_rfl) (hcl 13 9 (by kernel_rfl) h13))
        rw [show dd 6 = false from hd] at this; cases this
    have hc := lb_cAdv (HH.out.belowK hb) hk lb
    rw [← HGC.out, ← HN.out, ← HE.out] at hc
    have hn := hC.n
    have ht := hC.t
    go_simp
    refine hc.mono ?_
    rintro e w5 ⟨rfl, F', hP, hCm⟩
    have tu := hCm.2.2.2.2
    refine ⟨_, rfl, rfl, ?_⟩
    exact ⟨(fun e => by cases e), fun _ => ⟨F', hP, (Come.refl _ F hb).trans hCm fun _ e => e.elim⟩, hn.turn tu fun e => e.elim N2.out.1 id, ht.turn tu fun e => e.elim N1.out.1 id⟩
  have e' : vs 6 = _ := e
  rw [e']
  clear e e'
  simp only [Act.put, List.setIfInBounds_toArray, List.set_cons_succ, List.set_cons_zero]
  refine ⟨.inl ⟨rfl, fun dd w' hd hcl hnx hw hC => ?_⟩, fun e => ?_⟩
  · go_simp
    first | exact ⟨rfl, hC⟩ | exact hC
  have e' : vs 7 = _ := e
  rw [e']
  clear e e'
  simp only [Act.put, List.setIfInBounds_toArray, List.set_cons_succ, List.set_cons_zero]
  refine ⟨.inl ⟨rfl, fun dd w' hd hcl hnx hw hC => ?_⟩, fun e => ?_⟩
  · go_simp
    first | exact ⟨rfl, hC⟩ | exact hC
  have e' : vs 8 = _ := e
  rw [e']
  clear e e'
  simp only [Act.put, List.setIfInBounds_toArray, List.set_cons_succ, List.set_cons_zero]
  refine ⟨.inl ⟨rfl, fun dd w' hd hcl hnx hw hC => ?_⟩, fun e => ?_⟩
  · go_simp
    first | exact ⟨rfl, hC⟩ | exact hC
  have e' : vs 9 = _ := e
  rw [e']
  clear e e'
  simp only [Act.put, List.setIfInBounds_toArray, List.set_cons_succ, List.set_cons_zero]
  refine ⟨.inl ⟨rfl, fun dd w' hd hcl hnx hw hC => ?_⟩, fun e => ?_⟩
  · have h6 : dd 6 = true := hcl 7 6 (by kernel_rfl) (hcl 8 7 (by kernel_rfl) (hw 8 (by kernel_rfl)))
    have hn : Blk w' gN 23 #[.int .u64 (if dd 10 then N else 0)] := hC.n
    obtain ⟨F', hP, hCm⟩ := hC.post h6
    have n3 := nX.out gN w' F' nl.out N2.out hCm
    have tu := Turn.setCell (S := fun q => q = gN) w' ⟨gN, 0, none⟩ (.int .u64 N) rfl
    refine gE_stI rfl rfl (by kernel_rfl) (hn.cell 0) (hn.frozen 0) ⟨rfl, ?_⟩
    exact ⟨(fun e => by have e' : dd 6 = false := e; rw [h6] at e'; cases e'), fun _ => ⟨F', hP.turnK tu fun q e x => by rw [x] at e; exact e.elim n3.1 n3.2, hCm.trans (Come.touch (X := fun q => q = gN) _ F' tu fun q e => .inl e) fun q e => .inl (.inr e)⟩, hn.setCell_same 0 _, Blk.turn hC.t tu htN⟩
  have e' : vs 10 = _ := e
  rw [e']
  clear e e'
  simp only [Act.put, List.setIfInBounds_toArray, List.set_cons_succ, List.set_cons_zero]
  refine ⟨.inl ⟨rfl, fun dd w' hd hcl hnx hw hC => ?_⟩, fun e => ?_⟩
  · go_simp
    first | exact ⟨rfl, hC⟩ | exact hC
  have e' : vs 11 = _ := e
  rw [e']
  clear e e'
  simp only [Act.put, List.setIfInBounds_toArray, List.set_cons_succ, List.set_cons_zero]
  refine ⟨.inl ⟨rfl, fun dd w' hd hcl hnx hw hC => ?_⟩, fun e => ?_⟩
  · go_simp
    first | exact ⟨rfl, hC⟩ | exact hC
  have e' : vs 12 = _ := e
  rw [e']
  clear e e'
  simp only [Act.put, List.setIfInBounds_toArray, List.set_cons_succ, List.set_cons_zero]
  refine ⟨.inl ⟨rfl, fun dd w' hd hcl hnx hw hC => ?_⟩, fun e => ?_⟩
  · have h6 : dd 6 = true := hcl 7 6 (by kernel_rfl) (hcl 9 7 (by kernel_rfl) (hw 9 (by kernel_rfl)))
    have ht : Blk w' t 57 (enL ⟨5, 0, 0, pad lb, if dd 13 then E else 0⟩).toArray := hC.t
    obtain ⟨F', hP, hCm⟩ := hC.post h6
    have n3 := nX.out t w' F' tl.out N1.out hCm
    have tu := Turn.setCell (S := fun q => q = t) w' ⟨t, 67, none⟩ (.int .i64 E) rfl
    refine gE_stI rfl rfl (by kernel_rfl) (en_qe ht) (ht.frozen 67) ⟨rfl, ?_⟩
    exact ⟨(fun e => by have e' : dd 6 = false := e; rw [h6] at e'; cases e'), fun _ => ⟨F', hP.turnK tu fun q e x => by rw [x] at e; exact e.elim n3.1 n3.2, hCm.trans (Come.touch (X := fun q => q = t) _ F' tu fun q e => .inl e) fun q e => .inl (.inl e)⟩, Blk.turn hC.n tu fun e => htN e.symm, en_setE ht E⟩
  have e' : vs 13 = _ := e
  rw [e']
  clear e e'
  simp only [Act.put, List.setIfInBounds_toArray, List.set_cons_succ, List.set_cons_zero]
  intro dd wz hall hC
  have h6 : dd 6 = true := hall 6 (by omega)
  have h10 : dd 10 = true := hall 10 (by omega)
  have h13 : dd 13 = true := hall 13 (by omega)
  have hn := hC.n
  have ht := hC.t
  have hp := hC.post h6
  rw [h10] at hn
  rw [h13] at ht
  have ZN := hid (show Blk wz gN 23 #[.int .u64 N] from hn)
  have ZT := hid (show Blk wz t 57 (enL ⟨5, 0, 0, pad lb, E⟩).toArray from ht)
  obtain ⟨F', hP, hCm⟩ := hp
  have ZP := hid (hCm.toX hP)
  clear hC hall h6 h10 h13 hn ht hP hCm nX q1 q2 BT BL BN HH
  go_wp2_with fail
  refine bodyPost_end (results_none rfl _ _ _) rfl ?_
  exact ⟨rfl, ZT.out, ZP.out, ZN.out⟩
end
end BuP
end Go.Proofs.YthogklchmhjjkaaGreat
set_option maxRecDepth 100000
namespace Go.Proofs.YthogklchmhjjkaaGreat
open Go.ChangeShapes Go.WideShapes Go.ChangeAt Go.RowKit
attribute [local go_sem] Gives GivesE
namespace BuP
open BuM MbM MbP MpV
section
variable {w w' : World} {d g k : Nat} {F : Fq} {b : Bs}
theorem lb_adIo {gB gL gN : Nat} {lb : Nat → Nat} (H : Pp (RepK 0) w g F k b) (hk : k + b.steps.length + 2 ≤ 8000) (bB : Blk w gB 34 #[.pointer (some ⟨g, 0, none⟩)]) (bL : Blk w gL 25 (ar 32 lb)) (bN : Blk w gN 23 #[.int .u64 0]) (nB : ¬ mutP F gB) (nL : ¬ mutP F gL) (nN : ¬ mutP F gN ∧ ¬ rdP F gN) :
    Calls Tryz.prog 57 #[MbP.at' g, .agg (enL ⟨5, 0, 0, pad lb, 0⟩).toArray, .func (.func 61) #[] #[.pointer (some ⟨gB, 0, none⟩), .pointer (some ⟨gL, 0, none⟩), .pointer (some ⟨gN, 0, none⟩)]] w fun e w' =>
      e = .returned (.agg (enL (adB (BuM.ahead b) lb)).toArray) ∧ outX (fun q => q = gN) (RepK 0) w g F (k + b.steps.length + 2) (BuM.adT b lb) w' ∧ Blk w' gN 23 #[.int .u64 (adN (BuM.ahead b))] := by
  have hlN := bN.lt
  refine (lb_io (X := fun q => q = gN) (D := fun w => Blk w gN 23 #[.int .u64 (avN (BuM.ahead b).c)]) (y := ⟨5, 0, 0, pad lb, avE (BuM.ahead b).c⟩) (b2 := { BuM.ahead b with c := avC (BuM.ahead b).c lb }) (cap := #[.pointer (some ⟨gB, 0, none⟩), .pointer (some ⟨gL, 0, none⟩), .pointer (some ⟨gN, 0, none⟩)]) H hk hcf_ad (fun q e => by rw [e]; exact ⟨hlN, nN.1, nN.2⟩) (fun w w' T h1 h2 h3 => h1.turn h2 (h3 gN rfl)) fun _ w1 t F1 hP hC ht n1 n2 bt => ?_).mono ?_
  · have tu := hC.2.2.2.2
    have hlt : gN < w1.heap.size := Nat.lt_of_lt_of_le hlN tu.size
    refine lb_ad1 (gB := gB) (gL := gL) (gN := gN) hP (by omega) ⟨n1, n2⟩ ⟨fun e => ?_, fun e => ?_⟩ (by omega) bt (bB.turn tu fun e => e.elim nB id) (bL.turn tu fun e => e.elim nL id) (bN.turn tu fun e => e.elim nN.1 id)
    · rcases hC.2.2.1 gN e with y | y
      · exact nN.1 y
      · omega
    · rcases hC.2.2.2.1 gN e with y | y | y
      · exact nN.1 y
      · exact nN.2 y
      · omega
  · rintro e w' (⟨ho, he, h⟩ | ⟨ho, he, h, hD⟩)
    · have e1 : adB (BuM.ahead b) lb = ⟨5, 0, 0, pad lb, 13⟩ := by unfold adB adE; rw [if_pos ho]
      have e2 : adN (BuM.ahead b) = 0 := by unfold adN; rw [if_pos ho]
      have e3 : adM (BuM.ahead b) lb = BuM.ahead b := by unfold adM; rw [if_pos ho]
      obtain ⟨F3, h3, h4⟩ := Come.ofQ h
      rw [e1, e2]
      refine ⟨he, ?_, bN.turn h4.2.2.2.2 fun e => e.elim nN.1 id⟩
      unfold BuM.adT
      rw [e1, e3]
      exact (Come.trans (Come.refl (fun q => q = gN) F (Below.refl _ _)) h4 fun _ e => e.elim).toX h3
    · have e1 : adB (BuM.ahead b) lb = ⟨5, 0, 0, pad lb, avE (BuM.ahead b).c⟩ := by unfold adB adE avE; rw [ho]; rfl
      have e2 : adN (BuM.ahead b) = avN (BuM.ahead b).c := by unfold adN avN; rw [ho]; rfl
      have e3 : adM (BuM.ahead b) lb = { BuM.ahead b with c := avC (BuM.ahead b).c lb } := by
        unfold adM avC
        rw [if_neg (by rw [ho]; decide)]
        by_cases hf : full (BuM.ahead b).c = true
        · rw [if_pos hf, if_pos hf]
        · rw [if_neg hf, if_neg hf]
      rw [e1, e2]
      refine ⟨he, ?_, hD⟩
      unfold BuM.adT
      rw [e1, e3]
      exact h
def kPt : Sp := ⟨fun v => ∃ q, v = .pointer (some ⟨q, 0, none⟩), fun _ _ => True, .pointer (some ⟨0, 0, none⟩)⟩
theorem kPt_ok : kPt.ok := ⟨⟨0, rfl⟩, fun _ _ _ _ _ => trivial⟩
section
variable {a : Act} {dst : Option Tmp} {ty T : TypeId} {pos : String} {after : Array Edge} {gd : Option (Nat × Bool)} {z : Array Value} {R : Value → World → Prop}
theorem gE_alZ (hz : ∀ w, (zeroValue T).run Tryz.prog w = .ok (.agg z) w) (hR : R (.pointer (some ⟨w.heap.size, 0, none⟩)) (w.alloc (.cells z T))) : GivesE Tryz.prog ⟨dst, .alloc T, ty, pos, after, gd⟩ a w R := by
  have hr : (Instr.alloc T true (.tuple #[])).run Tryz.prog w = .ok (.pointer (some ⟨w.heap.size, 0, none⟩)) (w.alloc (.cells z T)) := by
    simp [Instr.alloc, Sem.run_bind, hz w, newVar, newRow, Value.cells]
  unfold GivesE execOp
  simp only [Sem.run_bind, hr, Result.andThen_ok, Sem.run_pure]
  exact hR
theorem gE_bldE {s : Nat → Nat} {x : Operand} (hx : a.eval x = .agg (ar 64 s)) (hR : R (.agg (enL ⟨5, 0, 0, s, 0⟩).toArray) w) : GivesE Tryz.prog ⟨dst, .build 57 #[(0, .const (.int .i64 5)), (3, x)], ty, pos, after, gd⟩ a w R := by
  have hr : (Instr.build 57 #[(0, .int .i64 5), (3, .agg (ar 64 s))]).run Tryz.prog w = .ok (.agg (enL ⟨5, 0, 0, s, 0⟩).toArray) w := run_build w _ _ _ (by kernel_rfl)
  have hm : (#[(0, .const (.int .i64 5)), (3, x)] : Array (Nat × Operand)).map (fun (i, x) => (i, a.eval x)) = #[(0, .int .i64 5), (3, .agg (ar 64 s))] := by
    simp only [List.map_toArray, List.map_cons, List.map_nil, hx]; rfl
  unfold GivesE execOp
  simp only [Sem.run_bind, hm, hr, Result.andThen_ok, Sem.run_pure]
  exact hR
end
/-- What holds in the midst of Advance. -/
structure AvM (w0 : World) (g : Nat) (F : Fq) (K : Nat) (b2 : Bs) (gN : Nat) (N : Int) (z : BuM.Ent) (d5 d6 d7 : Bool) (v6 : Value) (w' : World) : Prop where
  pre : d5 = false → Below w0.heap.size w0 w'
  post : d5 = true → ∃ F', Pp (RepK 0) w' g F' K b2 ∧ Come (fun q => q = gN) w0 F w' F' ∧ Blk w' gN 23 #[.int .u64 N] ∧ (d6 = true → ∀ q, v6 = .pointer (some ⟨q, 0, none⟩) → ¬ mutP F' q ∧ ¬ rdP F' q)
  var : d6 = true → ∃ q, v6 = .pointer (some ⟨q, 0, none⟩) ∧ w0.heap.size ≤ q ∧ Blk w' q 57 (enL (if d7 then z else enP0)).toArray
set_option maxHeartbeats 1000000 in
set_option maxRecDepth 100000 in
theorem lb_adv (H : Pp (RepK 0) w g F k b) (hk : k + b.steps.length + 2 ≤ 8000) (lb : Nat → Nat) : Calls Tryz.prog 29 #[MbP.at' g, .agg (ar 32 lb)] w fun e w' => e = .returned (.tuple #[.int .u64 (BuM.adN (BuM.ahead b)), .int .i64 (BuM.adB (BuM.ahead b) lb).e]) ∧ outQ (RepK 0) w g F (k + b.steps.length + 2) (BuM.adT b lb) w' := by
  have HH := hid H
  clear H
  unfold MbP.at'
  go_enter Tryz.func29, Tryz.ntmps29
  go_upto_region 2 with fail
  generalize hw0 : World.alloc w _ = w0
  generalize hwa : World.alloc w0 _ = wa
  generalize hw1 : World.alloc wa _ = w1
  obtain ⟨gB, hgB⟩ : ∃ n, n = w.heap.size := ⟨_, rfl⟩
  have hs0 : w0.heap.size = w.heap.size + 1 := by rw [← hw0]; simp
  have hsa : wa.heap.size = w.heap.size + 1 + 1 := by rw [← hwa, ← hs0]; simp
  obtain ⟨gL, hgL⟩ : ∃ n, n = w.heap.size + 1 := ⟨_, rfl⟩
  obtain ⟨gN, hgN⟩ : ∃ n, n = w.heap.size + 1 + 1 := ⟨_, rfl⟩
  have ba : Below w.heap.size w w0 := by rw [← hw0]; exact (Below.refl _ _).alloc (Nat.le_refl _) _
  have bb : Below w0.heap.size w0 wa := by rw [← hwa]; exact (Below.refl _ _).alloc (Nat.le_refl _) _
  have bc : Below wa.heap.size wa w1 := by rw [← hw1]; exact (Below.refl _ _).alloc (Nat.le_refl _) _
  have k1 : Blk w0 gB 34 #[.pointer (some ⟨g, 0, none⟩)] := by rw [← hw0, hgB]; exact Blk.new _ _ _
  have k2 : Blk wa gL 25 (ar 32 lb) := by rw [← hwa, hgL, ← hs0]; exact Blk.new _ _ _
  have k3 : Blk w1 gN 23 #[.int .u64 0] := by rw [← hw1, hgN, ← hsa]; exact Blk.new _ _ _
  have K1 := hid ((k1.below bb k1.lt).below bc (Nat.lt_of_lt_of_le k1.lt bb.size))
  have K2 := hid (k2.below bc k2.lt)
  have K3 := hid k3
  have BEL := hid (show Below w.heap.size w w1 from (ba.trans (bb.mono ba.size)).trans (bc.mono (Nat.le_trans ba.size bb.size)))
  have nB : ¬ mutP F gB := fun e => by have := HH.out.mlt gB e; omega
  have nL : ¬ mutP F gL := fun e => by have := HH.out.mlt gL e; omega
  have nN : ¬ mutP F gN ∧ ¬ rdP F gN := ⟨fun e => by have := HH.out.mlt gN e; omega, fun e => by have := HH.out.ilt gN e; omega⟩
  have hNw := hid (show w.heap.size ≤ gN by omega)
  rw [← hgN, ← hgL, ← hgB]
  clear hw1 hw0 hwa hs0 hsa hgB hgL hgN ba bb bc k1 k2 k3
  have H1 := hid (HH.out.belowK BEL.out)
  have qB : w1.cell? ⟨gB, 0, none⟩ = some (.pointer (some ⟨g, 0, none⟩)) := K1.out.cell 0
  obtain ⟨z, hz⟩ : ∃ z, z = adB (BuM.ahead b) lb := ⟨_, rfl⟩
  obtain ⟨N, hN⟩ : ∃ z, z = adN (BuM.ahead b) := ⟨_, rfl⟩
  have HZ := hid hz
  have HN := hid hN
  have lN := hid K3.out.lt
  have mF := hid (show ∀ q, mutP F q → q < w.heap.size from fun q e => HH.out.mlt q e)
  have rF := hid (show ∀ q, rdP F q → q < w.heap.size from fun q e => HH.out.ilt q e)
  clear hz hN
  refine wp_region_d (S := yS [some (.pointer (some ⟨g, 0, none⟩)), some (.agg (ar 32 lb)), some (.agg (ar 64 (pad lb))), some (.agg (enL ⟨5, 0, 0, pad lb, 0⟩).toArray), some (.func (.func 61) #[] #[.pointer (some ⟨gB, 0, none⟩), .pointer (some ⟨gL, 0, none⟩), .pointer (some ⟨gN, 0, none⟩)]), some (.agg (enL z).toArray), none] [(6, kPt)])
    (C := fun d' vs w' => AvM w1 g F (k + b.steps.length + 2) (BuM.adT b lb) gN N z (d' 5) (d' 6) false (vs 6) w') 7 (by kernel_rfl) (by kernel_rfl) (by kernel_rfl) _
    (yS_ok _ fun y hy => by simp only [List.mem_cons, List.not_mem_nil, or_false] at hy; rcases hy with rfl; exact kPt_ok) ⟨fun _ => (Below.refl _ _).drew, (fun e => by cases e), (fun e => by cases e)⟩ fun vs => ?_
  simp only [List.take_succ_cons, List.take_zero, List.drop_succ_cons, List.drop_zero]
  refine ⟨.inl ⟨rfl, fun dd w' hd hcl hnx hw hC => ?_⟩, fun e => ?_⟩
  · have h5 : dd 5 = false := hnx 5 (by kernel_rfl)
    have hcell := ((hC.pre h5).cell (p := ⟨gB, 0, none⟩) (World.block_lt_of_cell? w1 _ qB)).trans qB
    go_simp
    exact ⟨rfl, hC⟩
  have e' : vs 0 = _ := e
  rw [e']
  clear e e'
  simp only [Act.put, List.setIfInBounds_toArray, List.set_cons_succ, List.set_cons_zero]
  refine ⟨.inl ⟨rfl, fun dd w' hd hcl hnx hw hC => ?_⟩, fun e => ?_⟩
  · have h5 : dd 5 = false := by
      cases h5 : dd 5 with
      | false => rfl
      | true =>
        have := hcl 2 1 (by kernel_rfl) (hcl 3 2 (by kernel_rfl) (hcl 5 3 (by kernel_rfl) h5))
        rw [show dd 1 = false from hd] at this; cases this
    exact gE_ldA ClP.tTg rfl (K2.out.below (hC.pre h5) K2.out.lt).head ⟨rfl, hC⟩
  have e' : vs 1 = _ := e
  rw [e']
  clear e e'
  simp only [Act.put, List.setIfInBounds_toArray, List.set_cons_succ, List.set_cons_zero]
  refine ⟨.inl ⟨rfl, fun dd w' hd hcl hnx hw hC => ?_⟩, fun e => ?_⟩
  · go_simp
    refine (lb_sector lb w').mono ?_
    rintro e w5 ⟨rfl, hb⟩
    refine ⟨_, rfl, rfl, ?_⟩
    refine ⟨fun e => (hC.pre e).trans (hb.mono (hC.pre e).size), fun e => ?_, fun e => ?_⟩
    · obtain ⟨F', hP, hCm, hB, hq⟩ := hC.post e
      exact ⟨F', hP.belowK hb, hCm.trans (Come.refl (fun _ => False) F' hb) (fun _ e => e.elim), hB.below hb hB.lt, hq⟩
    · obtain ⟨q, e1, e2, e3⟩ := hC.var e
      exact ⟨q, e1, e2, e3.below hb e3.lt⟩
  have e' : vs 2 = _ := e
  rw [e']
  clear e e'
  simp only [Act.put, List.setIfInBounds_toArray, List.set_cons_succ, List.set_cons_zero]
  refine ⟨.inl ⟨rfl, fun dd w' hd hcl hnx hw hC => ?_⟩, fun e => ?_⟩
  · exact gE_bldE rfl ⟨rfl, hC⟩
  have e' : vs 3 = _ := e
  rw [e']
  clear e e'
  simp only [Act.put, List.setIfInBounds_toArray, List.set_cons_succ, List.set_cons_zero]
  refine ⟨.inl ⟨rfl, fun dd w' hd hcl hnx hw hC => ?_⟩, fun e => ?_⟩
  · go_simp
    first | exact ⟨rfl, hC⟩ | exact hC
  have e' : vs 4 = _ := e
  rw [e']
  clear e e'
  simp only [Act.put, List.setIfInBounds_toArray, List.set_cons_succ, List.set_cons_zero]
  refine ⟨.inl ⟨rfl, fun dd w' hd hcl hnx hw hC => ?_⟩, fun e => ?_⟩
  · have hb := hC.pre hd
    have hc := lb_adIo (lb := lb) (H1.out.belowK hb) hk (K1.out.below hb K1.out.lt) (K2.out.below hb K2.out.lt) (K3.out.below hb K3.out.lt) nB nL nN
    rw [← HZ.out, ← HN.out] at hc
    have hv := hC.var
    go_simp
    refine hc.mono ?_
    rintro e w5 ⟨rfl, ho, hB⟩
    obtain ⟨F', hP, hCm⟩ := Come.ofX ho
    refine ⟨_, rfl, rfl, ?_⟩
    refine ⟨(fun e => by cases e), fun _ => ⟨F', hP, (Come.refl _ F hb).trans hCm (fun q e => .inl e), hB, fun e q eq => ?_⟩, fun e => ?_⟩
    · obtain ⟨q', e1, e2, e3⟩ := hv e
      have hq : q' = q := by
        have e1' : vs 6 = .pointer (some ⟨q', 0, none⟩) := e1
        have eq' : vs 6 = .pointer (some ⟨q, 0, none⟩) := eq
        rw [e1'] at eq'
        simpa using eq'
      subst hq
      have hl := e3.lt
      have hwl := hb.size
      have b1 := BEL.out.size
      refine ⟨fun y => ?_, fun y => ?_⟩
      · rcases hCm.2.2.1 q' y with x | x
        · have := mF.out q' x; omega
        · omega
      · rcases hCm.2.2.2.1 q' y with x | x | x
        · have := mF.out q' x; omega
        · have := rF.out q' x; omega
        · omega
    · obtain ⟨q', e1, e2, e3⟩ := hv e
      have b1 := BEL.out.size
      exact ⟨q', e1, e2, e3.turn hCm.2.2.2.2 fun y => by
        rcases y with y | y
        · have := mF.out q' y; omega
        · have := lN.out; omega⟩
  have e' : vs 5 = _ := e
  rw [e']
  clear e e'
  simp only [Act.put, List.setIfInBounds_toArray, List.set_cons_succ, List.set_cons_zero]
  refine ⟨.inl ⟨rfl, fun dd w' hd hcl hnx hw hC => ?_⟩, fun e => ?_⟩
  · have ha := (Below.refl w'.heap.size w').alloc (Nat.le_refl _) (.cells (enL enP0).toArray 57)
    have hsz : w1.heap.size ≤ w'.heap.size := by
      cases h5 : dd 5 with
      | false => exact (hC.pre h5).size
      | true => obtain ⟨F', _, hCm, _⟩ := hC.post h5; exact hCm.2.2.2.2.size
    refine gE_alZ zEnP ⟨⟨_, rfl⟩, ?_⟩
    refine ⟨fun e => (hC.pre e).trans (ha.mono (hC.pre e).size), fun e => ?_, fun _ => ⟨_, rfl, hsz, ?_⟩⟩
    · obtain ⟨F', hP, hCm, hB, hq⟩ := hC.post e
      refine ⟨F', hP.belowK ha, hCm.trans (Come.refl (fun _ => False) F' ha) (fun _ e => e.elim), hB.below ha hB.lt, fun _ q eq => ?_⟩
      have eq' : Value.pointer (some ⟨w'.heap.size, 0, none⟩) = .pointer (some ⟨q, 0, none⟩) := eq
      have hq : w'.heap.size = q := by simpa using eq'
      exact ⟨fun y => by have := hP.mlt q y; omega, fun y => by have := hP.ilt q y; omega⟩
    · exact Blk.new _ _ _
  obtain ⟨gE, e'⟩ : ∃ q, vs 6 = .pointer (some ⟨q, 0, none⟩) := e
  rw [e']
  have E6 := hid e'
  clear e'
  simp only [Act.put, List.setIfInBounds_toArray, List.set_cons_succ, List.set_cons_zero]
  intro dd wz hall hC
  have h5 : dd 5 = true := hall 5 (by omega)
  have h6 : dd 6 = true := hall 6 (by omega)
  obtain ⟨F', hP, hCm, hB, hq⟩ := hC.post h5
  obtain ⟨q, e1, e2, e3⟩ := hC.var h6
  have hqe : gE = q := by
    rw [E6.out] at e1
    simpa using e1
  subst hqe
  have nE := hq h6 gE E6.out
  have l1 := lN.out
  have ZN := hid hB
  have ZE := hid (show Blk wz gE 57 (enL enP0).toArray from e3)
  have ZP := hid hP
  have ZC := hid (show Come (fun _ => False) w F wz F' from (Come.refl _ F BEL.out).trans hCm fun q e => .inr (by rw [e]; exact hNw.out))
  have hEw := hid (show w.heap.size ≤ gE from Nat.le_trans BEL.out.size e2)
  have hEN : gE ≠ gN := by omega
  clear hC hall h5 h6 hP hCm hB hq e1 e2 e3 E6 qB K1 K2 K3 H1 HH nB nL nN mF rF lN hNw l1
  go_upto_region 3 with ((with_reducible apply stR (tEnP z)); rfl; rfl; exact ZE.out; exact en_size _ _; exact en_one' _)
  have tu := Turn.setRow (S := fun q => q = gE) wz gE (enL z).toArray rfl
  have YE := hid (show Blk (wz.setRow gE (enL z).toArray) gE 57 (enL z).toArray from ZE.out.setRow_same _)
  have YN := hid (ZN.out.turn tu fun e => hEN e.symm)
  have YP := hid (ZP.out.turnK tu fun q e x => by rw [x] at e; exact e.elim nE.1 nE.2)
  have YC := hid (show Come (fun _ => False) w F (wz.setRow gE (enL z).toArray) F' from ZC.out.trans (Come.touch (X := fun q => q = gE) _ F' tu fun q e => .inl e) fun q e => .inr (by rw [e]; exact hEw.out))
  clear tu ZE ZN ZP ZC nE hEN
  generalize World.setRow wz _ _ = wy at YE YN YP YC ⊢
  have qN : wy.cell? ⟨gN, 0, none⟩ = some (.int .u64 N) := YN.out.cell 0
  have qE : wy.cell? ⟨gE, 67, none⟩ = some (.int .i64 z.e) := en_qe YE.out
  refine wp_region_tail (C := fun w' => Below wy.heap.size wy w') 5 (by kernel_rfl) (by kernel_rfl) (by kernel_rfl) (Below.refl _ _).drew ?_
  simp only [List.take_succ_cons, List.take_zero, List.drop_succ_cons, List.drop_zero]
  apply wpK_val
  · rfl
  · intro w' hw'
    have hcell := (hw'.cell (p := ⟨gN, 0, none⟩) (World.block_lt_of_cell? wy _ qN)).trans qN
    go_simp
    first | exact rfl | exact ⟨rfl, hw'⟩
  simp only [Act.put, List.setIfInBounds_toArray, List.set_cons_succ, List.set_cons_zero]
  apply wpK_val
  · rfl
  · intro w' hw'
    go_simp
    first | exact rfl | exact ⟨rfl, hw'⟩
  simp only [Act.put, List.setIfInBounds_toArray, List.set_cons_succ, List.set_cons_zero]
  apply wpK_val
  · rfl
  · intro w' hw'
    have hcell := (hw'.cell (p := ⟨gE, 67, none⟩) (World.block_lt_of_cell? wy _ qE)).trans qE
    go_simp
    first | exact rfl | exact ⟨rfl, hw'⟩
  simp only [Act.put, List.setIfInBounds_toArray, List.set_cons_succ, List.set_cons_zero]
  apply wpK_val
  · rfl
  · intro w' hw'
    go_simp
    first | exact rfl | exact ⟨rfl, hw'⟩
  simp only [Act.put, List.setIfInBounds_toArray, List.set_cons_succ, List.set_cons_zero]
  apply wpK_val
  · rfl
  · intro w' hw'
    go_simp
    first | exact rfl | exact ⟨rfl, hw'⟩
  simp only [Act.put, List.setIfInBounds_toArray, List.set_cons_succ, List.set_cons_zero]
  intro w5 hC5
  have P5 := hid (YP.out.belowK hC5)
  have C5 := hid (show Come (fun _ => False) w F w5 F' from YC.out.trans (Come.refl (fun _ => False) F' hC5) fun _ e => e.elim)
  clear YN YE YP YC qN qE hC5
  go_wp2_with fail
  go_ret2
  exact ⟨by rw [HZ.out, HN.out]; rfl, C5.out.toQ P5.out⟩
end
end BuP
end Go.Proofs.YthogklchmhjjkaaGreat
set_option maxRecDepth 100000
namespace Go.Proofs.YthogklchmhjjkaaGreat
open Go.ChangeShapes Go.WideShapes Go.ChangeAt Go.RowKit
attribute [local go_sem] Gives GivesE
namespace BuP
open BuM MbM MbP MpV
theorem lb_eqNil (A : Option Addr) (l c : Nat) (w : World) : (binOp .eql 60 (.slice A l c) (.slice none 0 0)).run Tryz.prog w = .ok (.bool A.isNone) w := Go.Lib.run_eql_slice_nil (P := Tryz.prog) w 60 5 A l c 0 0 undBy
theorem lb_eqNilP (A : Option Addr) (l c : Nat) (w : World) : (binOp .eql 35 (.slice A l c) (.slice none 0 0)).run Tryz.prog w = .ok (.bool A.isNone) w := Go.Lib.run_eql_slice_nil (P := Tryz.prog) w 35 63 A l c 0 0 Tryz.underlying35
attribute [local go_sem] lb_eqNil
set_option maxHeartbeats 400000 in
theorem lb_cloneB (A : Option Addr) (l : List Nat) (n cap : Nat) (hn : n ≤ 140737488351232) (w : World) (hA : Arg w A l n cap) :
    Calls Tryz.prog 72 #[.slice A n cap] w fun e w' => ∃ A' c', e = .returned (.slice A' n c') ∧ Arg w' A' l n c' ∧ (∀ q o, 0 < l.length → A' = some ⟨q, o, none⟩ → w.heap.size ≤ q ∧ q < w'.heap.size) ∧ Below w.heap.size w w' := by
  have HA := hid hA
  have hln := hA.len
  have hfin : ∀ (v : Value) (w' : World), Own 5 .u8 w' w.heap.size v l → Below w.heap.size w w' → ∃ A' c', Ending.returned v = .returned (.slice A' n c') ∧ Arg w' A' l n c' ∧ (∀ q o, 0 < l.length → A' = some ⟨q, o, none⟩ → w.heap.size ≤ q ∧ q < w'.heap.size) ∧ Below w.heap.size w w' := fun v w' ho hb => by
    obtain ⟨A', c', rfl, ha⟩ := ho.arg hA.b256
    refine ⟨A', c', by rw [hln], by rw [← hln]; exact ha, fun q o hl e => ?_, hb⟩
    rcases ho.form with ⟨e2, e3⟩ | ⟨g, c2, e2, h1, h2, _⟩
    · rw [e3] at hl; cases hl
    · rw [e] at e2
      cases e2
      exact ⟨h1, h2⟩
  have HFI := hid hfin
  clear hA hfin
  cases A with
  | none =>
    obtain ⟨rfl, rfl⟩ := HA.out.none rfl
    have hl := List.eq_nil_of_length_eq_zero HA.out.len
    subst hl
    clear HA
    go_enter Tryz.func72, Tryz.ntmps72
    go_wp2_with fail
    go_ret
    exact HFI.out _ _ Own.nil (Below.refl _ _)
  | some ad =>
    go_enter Tryz.func72, Tryz.ntmps72
    have OE : Hid (Own 5 .u8 (w.alloc (.cells #[] 5)) w.heap.size (.slice (some ⟨w.heap.size, 0, none⟩) 0 0) []) := hid (Own.empty w (Nat.le_refl _))
    have BE := hid ((Below.refl w.heap.size w).alloc (Nat.le_refl _) (.cells #[] 5))
    have AE := hid (HA.out.on BE.out)
    go_wp2_with (at_builtin; (with_reducible apply wappB); rfl; rfl; (intro e; cases e); exact OE.out; exact AE.out.byt.nums; exact AE.out.len; (rw [List.length_nil]; omega); (simp); intro v4 w4 o4 g4)
    have B4 := hid (below_grown BE.out g4 OE.out (Nat.le_refl _) (Nat.le_refl _))
    have O4 := hid o4
    clear o4 g4
    go_wp2_with fail
    go_ret
    exact HFI.out _ _ O4.out B4.out
set_option maxRecDepth 100000 in
theorem lb_cloneP {w : World} {S : Nat → Prop} {A : Option Addr} {gs : List Nat} {n cap : Nat} (hS : Sli 1 ptL S w A gs n cap) (hlen : n ≤ 10000) :
    Calls Tryz.prog 49 #[.slice A n cap] w fun e w' => ∃ A' c', e = .returned (.slice A' n c') ∧ Sli 1 ptL (fun b => w.heap.size ≤ b) w' A' gs n c' ∧ Below w.heap.size w w' := by
  have SL := hid hS
  have hl := hS.len
  have hfin : ∀ (v : Value) (w' : World), OwnX 63 1 ptL w' w.heap.size v gs → Below w.heap.size w w' → ∃ A' c', Ending.returned v = .returned (.slice A' n c') ∧ Sli 1 ptL (fun b => w.heap.size ≤ b) w' A' gs n c' ∧ Below w.heap.size w w' := fun v w' ho hb => by
    obtain ⟨A', c', rfl, sl⟩ := ho.sli ptL_len
    exact ⟨A', c', by rw [hl], by rw [← hl]; exact sl, hb⟩
  have HFI := hid hfin
  clear hfin
  cases A with
  | none =>
    obtain ⟨rfl, rfl⟩ := hS.none rfl
    obtain rfl := List.eq_nil_of_length_eq_zero hl
    have hq := lb_eqNilP none 0 0
    clear hS SL hl
    go_enter Tryz.func49, Tryz.ntmps49
    go_wp2_with fail
    go_ret
    exact HFI.out _ _ (OwnX.nil _ _ _ _ _) (Below.refl _ _)
  | some ad =>
    have hq := lb_eqNilP (some ad) n cap
    clear hS
    go_enter Tryz.func49, Tryz.ntmps49
    go_wp2_with (at_builtin; (with_reducible apply wappX eltPtP Tryz.underlying35 (B := w.heap.size)); rfl; rfl; exact OwnX.empty (Nat.le_refl _); exact SL.out.turn (Turn.alloc (S := fun _ => False) w _) (fun _ _ _ e => e); (simp; omega); omega; (simp); intro v2 w2 o2 g2)
    rw [List.nil_append] at o2
    have b2 : Below w.heap.size w w2 := ((Below.refl _ _).alloc (Nat.le_refl _) _).trans ((Turn.of_grown (S := fun b => w.heap.size ≤ b) g2 fun b e => by cases e; simp).below (by simp) fun _ h => h)
    go_ret
    exact HFI.out _ _ o2 b2
theorem blk_list_set {w : World} {g i : Nat} {t : TypeId} {l : List Value} {v : Value} (h : Blk w g t l.toArray) : Blk (w.setCell ⟨g, i, none⟩ v) g t (l.set i v).toArray := by
  have := h.setCell_same i v
  rwa [List.setIfInBounds_toArray] at this
theorem list_set69 {a b c d e v u : Value} {l : List Value} (h : l.length = 64) : (a :: b :: c :: d :: e :: (l ++ [v])).set 69 u = a :: b :: c :: d :: e :: (l ++ [u]) := by
  rw [List.set_cons_succ, List.set_cons_succ, List.set_cons_succ, List.set_cons_succ, List.set_cons_succ, List.set_append_right _ _ (by omega), h, Nat.sub_self, List.set_cons_zero]
theorem st_setP {w : World} {g : Nat} {t : TypeId} {s : Stp} {x : SlB} (h : Blk w g t (stL (s, x)).toArray) (x' : SlB) : Blk (w.setCell ⟨g, 69, none⟩ (.slice x'.A s.picks.length x'.c)) g t (stL (s, x')).toArray := by
  have h1 := blk_list_set (i := 69) (v := .slice x'.A s.picks.length x'.c) h
  have e : (stL (s, x)).set 69 (.slice x'.A s.picks.length x'.c) = stL (s, x') := list_set69 (ar64_len s.s)
  rw [e] at h1
  exact h1
/-- A list of the call's own, from its block. -/
theorem own_sli {α : Type} {E : TypeId} {k : Nat} {en : α → List Value} {w : World} {v : Value} {l : List α} {S : Nat → Prop} (hE : ∀ x, (en x).length = k) (h : OwnX E k en w 0 v l) (hS : ∀ b, v.ownBlock = some b → S b) : ∃ A cap, v = .slice A l.length cap ∧ Sli k en S w A l l.length cap := by
  obtain ⟨A, cap, rfl, sl⟩ := h.sli hE
  refine ⟨A, cap, rfl, sl.len, sl.cap, sl.max, sl.none, fun hn => ?_⟩
  obtain ⟨b, o, rfl, _, hl, hr⟩ := sl.lst hn
  exact ⟨b, o, rfl, hS b rfl, hl, hr⟩
section
variable {ops : Array Oper} {Q : Exit → Act → World → Prop} {a : Act} {w : World} {rest : List Oper} {dst : Option Tmp} {ty : TypeId} {pos : String} {after : Array Edge} {m x y : Operand} {r : Nat} {i : Int} {F : MpV.Img} {v : Value}
theorem wputV (hm : a.eval m = .map (some r)) (hx : a.eval x = .int .i64 i) (hy : a.eval y = v) (h : MapV w r F) (hk : ∀ w', MapV w' r (MpV.upd F i v) → Turn (fun b => b = r) w w' → wpList Tryz.prog ops Q rest (a.put dst undef) w') :
    wpList Tryz.prog ops Q (⟨dst, .mapUpdate 104 m x y, ty, pos, after, none⟩ :: rest) a w := by
  obtain ⟨w', hr, h1, h2⟩ := MpV.run_put h i v
  refine wpList_plain rfl fun K hK => ?_
  unfold Oper.wp execOp
  simp [hm, hx, hy, hr, Result.andThen]
  exact hK _ _ (hk w' h1 h2)
theorem gE_lookV {R : Value → World → Prop} {gd : Option (Nat × Bool)} (hm : a.eval m = .map (some r)) (hx : a.eval x = .int .i64 i) (h : MapV w r F) (hR : R (F i) w) : GivesE Tryz.prog ⟨dst, .lookup 104 m x false, ty, pos, after, gd⟩ a w R := by
  unfold GivesE execOp
  simp only [Sem.run_bind, hm, hx, MpV.run_look h i, Result.andThen_ok, Sem.run_pure]
  exact hR
end
end BuP
end Go.Proofs.YthogklchmhjjkaaGreat
set_option maxRecDepth 100000
namespace Go.Proofs.YthogklchmhjjkaaGreat
open Go.ChangeShapes Go.WideShapes Go.ChangeAt Go.RowKit
attribute [local go_sem] Gives GivesE
namespace BuP
open BuM MbM MbP MpV
/-- The steps of a number, each with its picks. -/
def ofN (n : Int) (l : List (Stp × SlB)) : List (Stp × SlB) := l.filter fun x => decide (x.1.a = n)
/-- Behind the first steps: what lies by their numbers. -/
structure ByN (w0 : World) (r : Nat) (L : List (Stp × SlB)) (w : World) (Fm : MpV.Img) : Prop where
  map : MapV w r Fm
  own : ∀ n, OwnX 62 70 stL w 0 (Fm n) (ofN n L)
  low : ∀ n b, (Fm n).ownBlock = some b → w0.heap.size ≤ b ∧ b ≠ r
  nd : ∀ n m b, n ≠ m → (Fm n).ownBlock = some b → (Fm m).ownBlock ≠ some b
  pk : ∀ x ∈ L, Arg w x.2.A x.1.picks x.1.picks.length x.2.c ∧ ∀ q o, 0 < x.1.picks.length → x.2.A = some ⟨q, o, none⟩ → w0.heap.size ≤ q ∧ q < w.heap.size ∧ q ≠ r ∧ ∀ n, (Fm n).ownBlock ≠ some q
  bel : Below w0.heap.size w0 w
  rl : w0.heap.size ≤ r
section
variable {w0 w w' : World} {r : Nat} {L : List (Stp × SlB)} {Fm : MpV.Img}
theorem ByN.on (H : ByN w0 r L w Fm) (hb : Below w.heap.size w w') : ByN w0 r L w' Fm where
  map := H.map.turn (T := fun _ => False) (Turn.of_new hb) fun e => e
  own n := (H.own n).below hb (Nat.le_refl _)
  low := H.low
  nd := H.nd
  pk x hx := ⟨(H.pk x hx).1.on hb, fun q o h1 h2 => by
    obtain ⟨a, b, c, d⟩ := (H.pk x hx).2 q o h1 h2
    exact ⟨a, Nat.lt_of_lt_of_le b hb.size, c, d⟩⟩
  bel := H.bel.trans (hb.mono H.bel.size)
  rl := H.rl
theorem ofN_snoc (n : Int) (x : Stp × SlB) : ofN n (L ++ [x]) = ofN n L ++ (if x.1.a = n then [x] else []) := by
  unfold ofN
  rw [List.filter_append]
  congr 1
  by_cases e : x.1.a = n
  · rw [if_pos e, List.filter_cons, if_pos (by simpa using e)]; rfl
  · rw [if_neg e, List.filter_cons, if_neg (by simpa using e)]; rfl
/-- One step more. -/
theorem ByN.step (H : ByN w0 r L w Fm) {w4 w5 : World} {x : Stp × SlB} {v' : Value} (ha : Arg w x.2.A x.1.picks x.1.picks.length x.2.c) (hq : ∀ q o, 0 < x.1.picks.length → x.2.A = some ⟨q, o, none⟩ → w0.heap.size ≤ q ∧ q < w.heap.size ∧ q ≠ r ∧ ∀ n, (Fm n).ownBlock ≠ some q)
    (ht : Turn (fun b => (Fm x.1.a).ownBlock = some b) w w4) (ho : OwnX 62 70 stL w4 0 v' (ofN x.1.a L ++ [x])) (hv : ∀ b, v'.ownBlock = some b → (Fm x.1.a).ownBlock = some b ∨ w.heap.size ≤ b)
    (hm : MapV w5 r (MpV.upd Fm x.1.a v')) (hr : Turn (fun b => b = r) w4 w5) : ByN w0 r (L ++ [x]) w5 (MpV.upd Fm x.1.a v') := by
  have hrw : r < w.heap.size := H.map.lt
  have hTr : ∀ b, (b = r) → ¬ (v'.ownBlock = some b) := fun b e e2 => by
    rcases hv b e2 with y | y
    · exact (H.low _ b y).2 e
    · omega
  have hT : Turn (fun b => (Fm x.1.a).ownBlock = some b ∨ b = r) w w5 := (ht.mono fun b e => .inl e).trans hr fun b e => .inl (.inr e)
  have hs := ht.size
  have hs2 := hr.size
  refine ⟨hm, fun n => ?_, fun n b e => ?_, fun n m b hnm e1 e2 => ?_, fun y hy => ?_, ?_, H.rl⟩
  · rw [ofN_snoc]
    unfold MpV.upd
    by_cases e : n = x.1.a
    · subst e
      rw [if_pos rfl, if_pos rfl]
      exact ho.turn hr fun b e1 e2 => hTr b e2 e1
    · rw [if_neg e, if_neg fun h => e h.symm, List.append_nil]
      exact (H.own n).turn hT fun b e1 e2 => e2.elim (fun y => H.nd n x.1.a b e e1 y) fun y => (H.low n b e1).2 y
  · unfold MpV.upd at e
    by_cases h : n = x.1.a
    · rw [if_pos h] at e
      rcases hv b e with y | y
      · exact H.low _ b y
      · exact ⟨Nat.le_trans H.bel.size y, by omega⟩
    · rw [if_neg h] at e; exact H.low n b e
  · unfold MpV.upd at e1 e2
    by_cases h : n = x.1.a
    · rw [if_pos h] at e1
      rw [if_neg fun e => hnm (h.trans e.symm)] at e2
      rcases hv b e1 with y | y
      · exact H.nd m x.1.a b (fun e => hnm (h.trans e.symm)) e2 y
      · have := (H.own m).own b e2; omega
    · rw [if_neg h] at e1
      by_cases h2 : m = x.1.a
      · rw [if_pos h2] at e2
        rcases hv b e2 with y | y
        · exact H.nd n x.1.a b h e1 y
        · have := (H.own n).own b e1; omega
      · rw [if_neg h2] at e2
        exact H.nd n m b hnm e1 e2
  · have key : Arg w y.2.A y.1.picks y.1.picks.length y.2.c ∧ ∀ q o, 0 < y.1.picks.length → y.2.A = some ⟨q, o, none⟩ → w0.heap.size ≤ q ∧ q < w.heap.size ∧ q ≠ r ∧ ∀ n, (Fm n).ownBlock ≠ some q := by
      rcases List.mem_append.1 hy with h | h
      · exact H.pk y h
      · rw [List.mem_singleton] at h; subst h; exact ⟨ha, hq⟩
    refine ⟨key.1.turn hT fun q o h1 h2 e => ?_, fun q o h1 h2 => ?_⟩
    · obtain ⟨_, _, c, d⟩ := key.2 q o h1 h2
      exact e.elim (d _) c
    · obtain ⟨a, b, c, d⟩ := key.2 q o h1 h2
      refine ⟨a, by omega, c, fun n e => ?_⟩
      unfold MpV.upd at e
      by_cases h : n = x.1.a
      · rw [if_pos h] at e
        rcases hv q e with z | z
        · exact d _ z
        · omega
      · rw [if_neg h] at e; exact d n e
  · exact (H.bel.trans (Below.refl _ _)).trans (hT.below H.bel.size fun b e => by
      rcases e with y | y
      · exact (H.low _ b y).1
      · rw [y]; exact H.rl)
end
theorem zip_take {α β : Type} : ∀ (l : List α) (m : List β) (i : Nat) (a : α) (b : β), l[i]? = some a → m.length = i → (l.take (i + 1)).zip (m ++ [b]) = (l.take i).zip m ++ [(a, b)]
  | [], _, _, _, _, h, _ => by cases h
  | x :: l, [], i, a, b, h, hm => by
    obtain rfl : i = 0 := hm.symm
    simp only [List.getElem?_cons_zero, Option.some.injEq] at h
    subst h
    rfl
  | x :: l, y :: m, 0, a, b, h, hm => by cases hm
  | x :: l, y :: m, i + 1, a, b, h, hm => by
    rw [List.getElem?_cons_succ] at h
    rw [List.take_succ_cons, List.take_succ_cons, List.cons_append, List.zip_cons_cons, List.zip_cons_cons, zip_take l m i a b h (Nat.succ.inj hm), List.cons_append]
set_option maxHeartbeats 1000000 in
set_option maxRecDepth 100000 in
theorem lb_byN {w : World} {As : Option Addr} {ns cs : Nat} {steps : List Stp} {sl : List SlB} {S : Nat → Prop} (hS : Sli 70 stL S w As (steps.zip sl) ns cs) (hsl : sl.length = steps.length) (hn : ns ≤ 1000) (hp : ∀ s x, (s, x) ∈ steps.zip sl → Arg w x.A s.picks s.picks.length x.c ∧ s.picks.length ≤ 140737488351232) :
    Calls Tryz.prog 50 #[.slice As ns cs] w fun e w' => ∃ r Fm sl2, e = .returned (.map (some r)) ∧ sl2.length = steps.length ∧ ByN w r (steps.zip sl2) w' Fm := by
  have SL := hid hS
  have HP := hid hp
  have hzl : ns = steps.length := by rw [← hS.len, List.length_zip, hsl, Nat.min_self]
  have hZL := hid hzl
  have hSL := hid hsl
  clear hS hp hzl hsl
  go_enter Tryz.func50, Tryz.ntmps50
  go_wp2_with (with_reducible apply MbO.wmkM)
  generalize hw1 : World.alloc w _ = w1
  obtain ⟨r, hr⟩ : ∃ n, n = w.heap.size := ⟨_, rfl⟩
  have BEL := hid (show Below w.heap.size w w1 by rw [← hw1]; exact (Below.refl _ _).alloc (Nat.le_refl _) _)
  have B0 := hid (show ByN w r [] w1 fun _ => MpV.zero from ⟨by rw [← hw1, hr]; exact MapV.new w, fun n => OwnX.nil _ _ _ _ _, fun n b e => (by cases e), fun n m b _ e => (by cases e), fun x hx => (by cases hx), BEL.out, by omega⟩)
  rw [← hr]
  clear hw1 hr
  go_loopw [9] (fun u9 wr => ∃ (i : Nat) (Fm : MpV.Img) (sl2 : List SlB), u9 = .int .i64 i ∧ i ≤ ns ∧ sl2.length = i ∧ Hid (ByN w r ((steps.take i).zip sl2) wr Fm)) (fun u9 _ => ns - (intOf u9).toNat)
  case atStart => exact ⟨0, _, [], rfl, Nat.zero_le _, rfl, hid (by rw [List.take_zero]; exact B0.out)⟩
  case round =>
    clear B0
    obtain ⟨i, Fm, sl2, rfl, hi, hl2, HB⟩ := hrel
    obtain ⟨wo, hwo⟩ : ∃ x, x = wr := ⟨_, rfl⟩
    subst hwo
    by_cases hin : i < ns
    · have t1 : (i : Int) < (ns : Int) := by omega
      have hil : i < steps.length := by rw [← hZL.out]; exact hin
      obtain ⟨s, hs⟩ : ∃ s, steps[i]? = some s := ⟨_, List.getElem?_eq_getElem hil⟩
      obtain ⟨x, hx⟩ : ∃ x, sl[i]? = some x := ⟨_, List.getElem?_eq_getElem (by rw [hSL.out]; exact hil)⟩
      have hz : (steps.zip sl)[i]? = some (s, x) := by rw [List.getElem?_zip_eq_some]; exact ⟨hs, hx⟩
      have HSs := hid hs
      obtain ⟨bS, oS, rfl, hbS, hSl, hr⟩ := SL.out.some hz
      have hp := HP.out s x (List.mem_of_getElem? hz)
      have R1 := hid ((Turn.of_below HB.out.bel).range hr (by omega))
      have P1 := hid (show Arg wo x.A s.picks s.picks.length x.c from hp.1.turn (Turn.of_below HB.out.bel) fun q o h1 h2 => by
        obtain ⟨o2, v2, h4⟩ := arg_ne hp.1 h1 h2
        have := World.block_lt_of_cell? w _ h4
        have : q < w.heap.size := this
        omega)
      have hpl := hp.2
      clear hs hx hz hr hp
      go_upto_region 5 with (first | ((with_reducible apply ldR (cs := (stL (s, x)).toArray) (tStP (s, x))); rfl; exact R1.out) | (with_reducible apply alZ' zStP) | ((with_reducible apply stR (tStP (s, x))); rfl; rfl; exact Blk.new _ _ _; exact stP_size _ _; exact stP_one _))
      generalize hw2 : World.setRow _ _ _ = w2
      obtain ⟨gS, hgS⟩ : ∃ n, n = wo.heap.size := ⟨_, rfl⟩
      have B1 := hid (show Below wo.heap.size wo w2 by rw [← hw2]; exact below_setRow ((Below.refl _ _).alloc (Nat.le_refl _) _) (Nat.le_refl _) _)
      have b1 := hid (show Blk w2 gS 62 (stL (s, x)).toArray by rw [← hw2, hgS]; exact (Blk.new wo _ _).setRow_same _)
      have hgo := hid (show wo.heap.size ≤ gS by omega)
      rw [← hgS]
      clear hw2 hgS R1
      have P2 := hid (P1.out.on B1.out)
      have qp : w2.cell? ⟨gS, 69, none⟩ = some (.slice x.A s.picks.length x.c) := st_p (o := 0) (x := (s, x)) b1.out.whole
      go_wp2_with fail
      refine (lb_cloneB x.A s.picks s.picks.length x.c hpl w2 P2.out).mono ?_
      rintro e w3 ⟨A', c', rfl, ha, hq, hb⟩
      have b3 := hid (b1.out.below hb b1.out.lt)
      have B3 := hid (B1.out.trans (hb.mono B1.out.size))
      have A3 := hid ha
      have Q3 := hid (show ∀ q o, 0 < s.picks.length → A' = some ⟨q, o, none⟩ → w2.heap.size ≤ q ∧ q < w3.heap.size from hq)
      have bs2 := hid b1.out.lt
      have hb3s := hid hb.size
      have q69 : w3.cell? ⟨gS, 69, none⟩ = some (.slice x.A s.picks.length x.c) := st_p (o := 0) (x := (s, x)) b3.out.whole
      have fz := b3.out.frozen 69
      clear ha hq hb qp P1 P2 b1 B1
      go_upto_region 6 with fail
      have tu := Turn.setCell (S := fun q => q = gS) w3 ⟨gS, 69, none⟩ (.slice A' s.picks.length c') rfl
      have b4 := hid (st_setP b3.out ⟨A', c'⟩)
      have B4 := hid (show Below wo.heap.size wo (w3.setCell ⟨gS, 69, none⟩ (.slice A' s.picks.length c')) from B3.out.trans (tu.below B3.out.size fun q e => by rw [e]; exact hgo.out))
      have A4 := hid (A3.out.turn tu fun q o h1 h2 e => by have := (Q3.out q o h1 h2).1; have := bs2.out; omega)
      have hsz4 : (w3.setCell ⟨gS, 69, none⟩ (.slice A' s.picks.length c')).heap.size = w3.heap.size := by simp
      have Q4 := hid (show ∀ q o, 0 < s.picks.length → A' = some ⟨q, o, none⟩ → wo.heap.size ≤ q ∧ q < (w3.setCell ⟨gS, 69, none⟩ (.slice A' s.picks.length c')).heap.size from fun q o h1 h2 => by
        have h3 := Q3.out q o h1 h2
        have := hgo.out; have := bs2.out
        exact ⟨by omega, by rw [hsz4]; exact h3.2⟩)
      generalize World.setCell w3 _ _ = w4 at b4 B4 A4 Q4 ⊢
      clear tu q69 fz b3 B3 A3 Q3 bs2 hb3s hsz4
      have H4 := hid (HB.out.on B4.out)
      obtain ⟨y, hy⟩ : ∃ y : Stp × SlB, y = (s, ⟨A', c'⟩) := ⟨_, rfl⟩
      have HY := hid hy
      rw [← hy] at b4
      obtain ⟨Ao, co, hvo, _⟩ := (H4.out.own s.a).sli stL_len
      obtain ⟨lo, hlo⟩ : ∃ l, l = ofN s.a ((steps.take i).zip sl2) := ⟨_, rfl⟩
      have HLO := hid hlo
      rw [← hlo] at hvo
      have HVO := hid hvo
      have hll : lo.length ≤ 1000 := by
        rw [hlo]
        unfold ofN
        refine Nat.le_trans (List.length_filter_le _ _) ?_
        rw [List.length_zip, List.length_take]; omega
      have OO := hid (show OwnX 62 70 stL w4 0 (.slice Ao lo.length co) lo by rw [← hvo, hlo]; exact H4.out.own s.a)
      have LOW := hid (show ∀ b, (Value.slice Ao lo.length co).ownBlock = some b → b < w4.heap.size from fun b e => (OO.out.own b e).2)
      have q0 : w4.cell? ⟨gS, 0, none⟩ = some (.int .i64 s.a) := by have := st_a (o := 0) b4.out.whole; rw [HY.out] at this; exact this
      have gSo := hid (show (Value.slice Ao lo.length co).ownBlock ≠ some gS from fun e => by
        rw [← hvo] at e
        have h1 := ((HB.out.own s.a).own gS e).2
        have := hgo.out
        omega)
      have rSo := hid (show (Value.slice Ao lo.length co).ownBlock ≠ some r from fun e => by
        rw [← hvo] at e
        exact (H4.out.low s.a r e).2 rfl)
      clear hvo hlo hy
      refine wp_region_c (S := yS [some (.map (some r)), some (.pointer (some ⟨gS, 0, none⟩)), some (.int .i64 s.a), some (.map (some r)), some (.pointer (some ⟨gS, 0, none⟩)), some (.int .i64 s.a), some (.slice Ao lo.length co), some (.agg (stL y).toArray), none, none] [(8, kSl 1), (9, kSl (lo.length + 1))])
        (C := fun d vs w' => ApC 62 70 stL w4 (.slice Ao lo.length co) lo y (d 8) (d 9) (vs 8) (vs 9) w') 10 (by kernel_rfl) (by kernel_rfl) (by kernel_rfl) _
        (yS_ok _ fun y hy => by simp only [List.mem_cons, List.not_mem_nil, or_false] at hy; rcases hy with rfl | rfl <;> exact kSl_ok _) ⟨Turn.drew _, fun _ => (Below.refl _ _).drew, (fun e => by cases e), (fun e => by cases e)⟩ fun vs => ?_
      simp only [List.take_succ_cons, List.take_zero, List.drop_succ_cons, List.drop_zero]
      refine ⟨.inl ⟨rfl, fun dd w' hd hnx hw hC => ?_⟩, fun e => ?_⟩
      · go_simp
        first | exact ⟨rfl, hC⟩ | exact hC
      have e' : vs 0 = _ := e
      rw [e']
      clear e e'
      simp only [Act.put, List.setIfInBounds_toArray, List.set_cons_succ, List.set_cons_zero]
      refine ⟨.inl ⟨rfl, fun dd w' hd hnx hw hC => ?_⟩, fun e => ?_⟩
      · go_simp
        first | exact ⟨rfl, hC⟩ | exact hC
      have e' : vs 1 = _ := e
      rw [e']
      clear e e'
      simp only [Act.put, List.setIfInBounds_toArray, List.set_cons_succ, List.set_cons_zero]
      refine ⟨.inl ⟨rfl, fun dd w' hd hnx hw hC => ?_⟩, fun e => ?_⟩
      · have h1 : w'.cell? ⟨gS, 0, none⟩ = some (.int .i64 s.a) := hC.t.cell (p := ⟨gS, 0, none⟩) q0 gSo.out
        go_simp
        first | exact ⟨rfl, hC⟩ | exact hC
      have e' : vs 2 = _ := e
      rw [e']
      clear e e'
      simp only [Act.put, List.setIfInBounds_toArray, List.set_cons_succ, List.set_cons_zero]
      refine ⟨.inl ⟨rfl, fun dd w' hd hnx hw hC => ?_⟩, fun e => ?_⟩
      · go_simp
        first | exact ⟨rfl, hC⟩ | exact hC
      have e' : vs 3 = _ := e
      rw [e']
      clear e e'
      simp only [Act.put, List.setIfInBounds_toArray, List.set_cons_succ, List.set_cons_zero]
      refine ⟨.inl ⟨rfl, fun dd w' hd hnx hw hC => ?_⟩, fun e => ?_⟩
      · go_simp
        first | exact ⟨rfl, hC⟩ | exact hC
      have e' : vs 4 = _ := e
      rw [e']
      clear e e'
      simp only [Act.put, List.setIfInBounds_toArray, List.set_cons_succ, List.set_cons_zero]
      refine ⟨.inl ⟨rfl, fun dd w' hd hnx hw hC => ?_⟩, fun e => ?_⟩
      · have h1 : w'.cell? ⟨gS, 0, none⟩ = some (.int .i64 s.a) := hC.t.cell (p := ⟨gS, 0, none⟩) q0 gSo.out
        go_simp
        first | exact ⟨rfl, hC⟩ | exact hC
      have e' : vs 5 = _ := e
      rw [e']
      clear e e'
      simp only [Act.put, List.setIfInBounds_toArray, List.set_cons_succ, List.set_cons_zero]
      refine ⟨.inl ⟨rfl, fun dd w' hd hnx hw hC => ?_⟩, fun e => ?_⟩
      · refine gE_lookV rfl rfl (H4.out.map.turn hC.t rSo.out) ?_
        rw [HVO.out]
        exact ⟨rfl, hC⟩
      have e' : vs 6 = _ := e
      rw [e']
      clear e e'
      simp only [Act.put, List.setIfInBounds_toArray, List.set_cons_succ, List.set_cons_zero]
      refine ⟨.inl ⟨rfl, fun dd w' hd hnx hw hC => ?_⟩, fun e => ?_⟩
      · exact ClP.gE_ldR (cs := (stL y).toArray) (tStP y) rfl (b4.out.turn hC.t gSo.out).whole ⟨rfl, hC⟩
      have e' : vs 7 = _ := e
      rw [e']
      clear e e'
      simp only [Act.put, List.setIfInBounds_toArray, List.set_cons_succ, List.set_cons_zero]
      refine ⟨.inl ⟨rfl, fun dd w' hd hnx hw hC => ?_⟩, fun e => ?_⟩
      · have h8 : dd 9 = false := hnx 9 (by kernel_rfl)
        have ha := (Below.refl w'.heap.size w').alloc (Nat.le_refl _) (.cells (stL y).toArray 62)
        have hbl := hC.b h8
        exact gE_lit1 (x := y) eltStP undStP (by omega) rfl rfl ⟨⟨_, _, rfl⟩, hC.t.trans (Turn.of_new (S := fun _ => False) ha) (fun _ e => e.elim), (fun _ => hbl.trans (ha.mono hbl.size)), (fun _ _ => ⟨_, _, rfl, sli_lit1 eltStP y w' hbl.size⟩), fun e => by
          have e' : dd 9 = true := e
          rw [h8] at e'; cases e'⟩
      obtain ⟨A7, c7, e'⟩ : ∃ (A : Option Addr) (c : Nat), vs 8 = .slice A 1 c := e
      rw [e']
      have E7 := hid e'
      clear e'
      simp only [Act.put, List.setIfInBounds_toArray, List.set_cons_succ, List.set_cons_zero]
      refine ⟨.inl ⟨rfl, fun dd w' hd hnx hw hC => ?_⟩, fun e => ?_⟩
      · have h7 : dd 8 = true := hw 8 (by kernel_rfl)
        have hbl := hC.b hd
        obtain ⟨A', c', f, sl⟩ := hC.lit h7 hd
        rw [E7.out] at f
        cases f
        refine gE_appW eltStP undStP (B := 0) (v := .slice Ao lo.length co) (l := lo) (m := [y]) rfl rfl (OO.out.below hbl (Nat.le_refl _)) sl (by omega) (by omega) (Nat.zero_le _) fun v' w4 o4 g4 wh => ?_
        obtain ⟨A4, c4, rfl, _⟩ := o4.sli stL_len
        refine ⟨⟨A4, c4, by rw [List.length_append]; rfl⟩, ?_⟩
        exact ⟨(Turn.of_new (S := fun b => (Value.slice Ao lo.length co).ownBlock = some b) hbl).trans (Turn.of_grown (S := fun b => (Value.slice Ao lo.length co).ownBlock = some b) g4 fun b e => e) (fun b e => .inl e), (fun e => by cases e), (fun _ e => by cases e), fun _ => ⟨o4, fun b e => by
          have e3 : (Value.slice A4 (lo ++ [y]).length c4).ownBlock = some b := e
          rcases wh with x | x
          · exact .inl (x.symm.trans e3)
          · rw [x] at e3; cases e3; exact .inr hbl.size⟩⟩
      obtain ⟨A8, c8, e'⟩ : ∃ (A : Option Addr) (c : Nat), vs 9 = .slice A (lo.length + 1) c := e
      rw [e']
      have E8 := hid e'
      clear e'
      simp only [Act.put, List.setIfInBounds_toArray, List.set_cons_succ, List.set_cons_zero]
      intro dd wz hall hC
      obtain ⟨o4, wh⟩ := hC.own (hall 9 (by omega))
      rw [E8.out] at o4 wh
      have M9 := hid (H4.out.map.turn hC.t rSo.out)
      have ST := hid (show ∀ w9, MapV w9 r (MpV.upd Fm s.a (.slice A8 (lo.length + 1) c8)) → Turn (fun b => b = r) wz w9 → ByN w r ((steps.take i).zip sl2 ++ [y]) w9 (MpV.upd Fm s.a (.slice A8 (lo.length + 1) c8)) from fun w9 hM hT => by
        have e1 : y.1 = s := by rw [HY.out]
        have hfv := HVO.out
        rw [← e1] at hM hfv ⊢
        refine H4.out.step (x := y) ?_ ?_ (by rw [hfv]; exact hC.t) (by rw [e1, ← HLO.out]; exact o4) (by rw [hfv]; exact wh) hM hT
        · rw [HY.out]; exact A4.out
        · intro q o h1 h2
          rw [HY.out] at h1 h2
          obtain ⟨h3, h4⟩ := Q4.out q o h1 h2
          have hrw : r < wo.heap.size := HB.out.map.lt
          refine ⟨Nat.le_trans HB.out.bel.size h3, h4, by omega, fun n e => ?_⟩
          have := ((HB.out.own n).own q e).2
          omega)
      have HLz := hid (show (steps.take (i + 1)).zip (sl2 ++ [y.2]) = (steps.take i).zip sl2 ++ [y] from by
        have e1 : y = (s, y.2) := by rw [HY.out]
        rw [zip_take steps sl2 i s y.2 HSs.out hl2, ← e1])
      clear hC o4 wh hall E7 E8 H4 OO LOW b4 B4 A4 Q4 q0 gSo rSo HVO HLO HY hll
      go_wp2_with ((with_reducible apply wputV); rfl; rfl; rfl; exact M9.out; intro w9 hM9 hT9)
      have H9 := hid (show ByN w r ((steps.take (i + 1)).zip (sl2 ++ [y.2])) w9 (MpV.upd Fm s.a (.slice A8 (lo.length + 1) c8)) from by rw [HLz.out]; exact ST.out w9 hM9 hT9)
      clear ST M9 hM9 hT9 HLz
      go_roundw
      case rel => exact ⟨i + 1, _, sl2 ++ [y.2], by go_num, by omega, by rw [List.length_append, hl2]; rfl, H9⟩
      case measure => simp [intOf] <;> omega
    · have t1 : decide ((i : Int) < (ns : Int)) = false := by simp; omega
      obtain rfl : i = ns := by omega
      go_wp2_with fail
      go_ret
      refine ⟨r, Fm, sl2, rfl, by rw [hl2]; exact hZL.out, ?_⟩
      have h9 := HB.out
      rw [List.take_of_length_le (by have := hZL.out; omega)] at h9
      exact h9
end BuP
end Go.Proofs.YthogklchmhjjkaaGreat
set_option maxRecDepth 100000
namespace Go.Proofs.YthogklchmhjjkaaGreat
open Go.ChangeShapes Go.WideShapes Go.ChangeAt Go.RowKit
attribute [local go_sem] Gives GivesE
namespace BuP
open BuM MbM MbP MpV
theorem built_bus (A : Option Addr) (n c gc r : Nat) : Tryz.prog.built 106 [(0, .slice A n c), (1, .pointer (some ⟨gc, 0, none⟩)), (2, .map (some r))] = some (pbV A n c gc r (.slice none 0 0) false) := by kernel_rfl
section
variable {ops : Array Oper} {Q : Exit → Act → World → Prop} {a : Act} {w : World} {rest : List Oper} {dst : Option Tmp} {ty : TypeId} {pos : String} {after : Array Edge} {x y z : Operand} {A : Option Addr} {n c gc r : Nat}
theorem wblBus (hx : a.eval x = .slice A n c) (hy : a.eval y = .pointer (some ⟨gc, 0, none⟩)) (hz : a.eval z = .map (some r)) (hk : wpList Tryz.prog ops Q rest (a.put dst (.agg (pbV A n c gc r (.slice none 0 0) false))) w) : wpList Tryz.prog ops Q (⟨dst, .build 106 #[(0, x), (1, y), (2, z)], ty, pos, after, none⟩ :: rest) a w := by
  have hr : (Instr.build 106 #[(0, .slice A n c), (1, .pointer (some ⟨gc, 0, none⟩)), (2, .map (some r))]).run Tryz.prog w = .ok (.agg (pbV A n c gc r (.slice none 0 0) false)) w := run_build w _ _ _ (built_bus A n c gc r)
  have hm : (#[(0, x), (1, y), (2, z)] : Array (Nat × Operand)).map (fun (i, x) => (i, a.eval x)) = #[(0, .slice A n c), (1, .pointer (some ⟨gc, 0, none⟩)), (2, .map (some r))] := by
    simp only [List.map_toArray, List.map_cons, List.map_nil, hx, hy, hz]
  refine wpList_plain rfl fun K hK => ?_
  unfold Oper.wp execOp
  simp only [Sem.run_bind, hm, hr, Result.andThen_ok, Sem.run_pure]
  exact hK _ _ hk
end
theorem ofN_fst (n : Int) : ∀ (l : List Stp) (m : List SlB), m.length = l.length → (ofN n (l.zip m)).map (·.1) = l.filter fun s => decide (s.a = n)
  | [], [], _ => rfl
  | [], y :: m, h => by cases h
  | x :: l, [], h => by cases h
  | x :: l, y :: m, h => by
    have ih := ofN_fst n l m (Nat.succ.inj h)
    unfold ofN at ih ⊢
    rw [List.zip_cons_cons, List.filter_cons, List.filter_cons]
    by_cases e : x.a = n
    · rw [if_pos (by simpa using e), if_pos (by simpa using e), List.map_cons, ih]
    · rw [if_neg (by simpa using e), if_neg (by simpa using e), ih]
/-- What New lays. -/
theorem sk_new {w wc w9 : World} {g r gc c : Nat} {A : Option Addr} {gs : List Nat} {steps : List Stp} {sl2 : List SlB} {Fm : MpV.Img} (hb : Blk w9 g 106 (pbV A gs.length c gc r (.slice none 0 0) false)) (hp : 1 ≤ gs.length) (hA : Sli 1 ptL (fun b => w.heap.size ≤ b) wc A gs gs.length c) (hc : Below wc.heap.size wc w9) (hwc : w.heap.size ≤ wc.heap.size)
    (hB : ByN wc r (steps.zip sl2) w9 Fm) (hsl : sl2.length = steps.length) (hg : ∀ q, q < wc.heap.size → q ≠ g) (hgo : ∀ n, (Fm n).ownBlock ≠ some g) (hgp : ∀ x ∈ steps.zip sl2, ∀ o, 0 < x.1.picks.length → x.2.A ≠ some ⟨g, o, none⟩) :
    Sk 0 w9 g gs gc A c r (.slice none 0 0) Fm (fun q => w.heap.size ≤ q ∧ q < w9.heap.size ∧ q ≠ g ∧ q ≠ r) steps false [] where
  blk := hb
  pos := hp
  arr := by
    refine ⟨hA.len, hA.cap, hA.max, hA.none, fun hn => ?_⟩
    obtain ⟨b, o, e, h1, h2, h3⟩ := hA.lst hn
    have hs := hc.size
    exact ⟨b, o, e, ⟨h1, by omega, hg b h2, by have := hB.rl; omega⟩, by omega, fun i x hi => (Turn.of_new (S := fun _ => False) hc).range (h3 i x hi) fun e => e⟩
  map := hB.map
  due n _ := by
    obtain ⟨A', c', e, hs⟩ := own_sli (S := fun q => w.heap.size ≤ q ∧ q < w9.heap.size ∧ q ≠ g ∧ q ≠ r) stL_len (hB.own (n : Int)) fun b e => ⟨Nat.le_trans hwc (hB.low _ b e).1, ((hB.own (n : Int)).own b e).2, fun x => hgo _ (x ▸ e), (hB.low _ b e).2⟩
    have hf := ofN_fst (n : Int) steps sl2 hsl
    have hl : (steps.filter fun s => decide (s.a = (n : Int))).length = (ofN (n : Int) (steps.zip sl2)).length := by rw [← hf, List.length_map]
    refine ⟨ofN (n : Int) (steps.zip sl2), A', c', by rw [hl]; exact e, hf, by rw [hl]; exact hs, fun x hx => ?_⟩
    have hm : x ∈ steps.zip sl2 := by
      unfold ofN at hx
      exact (List.mem_filter.1 hx).1
    have h1 := hB.pk x hm
    exact ⟨h1.1, fun q o h2 h3 => by
      obtain ⟨a, b, c, _⟩ := h1.2 q o h2 h3
      exact ⟨Nat.le_trans hwc a, b, fun e => hgp x hm o h2 (by rw [h3, e]), c⟩⟩
  lg := OwnX.nil _ _ _ _ _
  slt q hq := hq.2.1
set_option maxHeartbeats 1000000 in
set_option maxRecDepth 100000 in
theorem lb_new {w : World} {A : Option Addr} {gs : List Nat} {n c gc : Nat} {As : Option Addr} {ns cs : Nat} {steps : List Stp} {sl : List SlB} {S Sp : Nat → Prop} {Ms Is : Nat → Nat → Prop} {Mc : Nat → Prop} {hist : List ClP.Held} {cv : ClP.Held} {k : Nat} {ms : List St}
    (hA : Sli 1 ptL S w A gs n c) (hgm : gs.length = ms.length) (hme : ∀ (i gi : Nat) (st : St), gs[i]? = some gi → ms[i]? = some st → RepM w gi (Ms i) (Is i) k st ∧ 1 ≤ st.n) (hn1 : 1 ≤ n) (hn2 : n ≤ 64) (hce : repCb w gc Mc hist cv)
    (hS : Sli 70 stL S w As (steps.zip sl) ns cs) (hsl : sl.length = steps.length) (hns : ns ≤ 1000) (hp : ∀ s x, (s, x) ∈ steps.zip sl → Arg w x.A s.picks s.picks.length x.c ∧ s.picks.length ≤ 140737488351232 ∧ okS s ∧ ∀ q o, 0 < s.picks.length → x.A = some ⟨q, o, none⟩ → Sp q) :
    Calls Tryz.prog 23 #[.slice A n c, MbP.at' gc, .slice As ns cs] w fun e w' => ∃ g Mo Io, e = .returned (.tuple #[MbP.at' g, .int .i64 0]) ∧ RepK 0 w' g gs gc Mo Io steps false [] ∧ (∀ q, Mo q → w.heap.size ≤ q) ∧ (∀ q, Io q → w.heap.size ≤ q ∧ q < w'.heap.size ∨ Sp q) ∧ (∀ q, Mo q → q < w'.heap.size ∧ ¬ Io q) ∧ Below w.heap.size w w' := by
  have HA := hid hA
  have HM := hid hme
  have HC := hid hce
  have HS := hid hS
  have HP := hid hp
  have HL := hid hsl
  have HG := hid hgm
  have hgn := hid hA.len
  have t0 : decide ((n : Int) = 0) = false := by simp; omega
  have t0b : ((n : Int) == 0) = false := by simp; omega
  have t64 : decide ((64 : Int) < (n : Int)) = false := by simp; omega
  have t64b : ¬ 64 < n := by omega
  have tn0 : ¬ n = 0 := by omega
  clear hA hme hce hS hp hsl hgm
  unfold MbP.at'
  go_enter Tryz.func23, Tryz.ntmps23
  go_wp2_with fail
  refine (cb_read HC.out).mono ?_
  rintro e w2 ⟨rfl, hb2⟩
  have B2 := hid hb2
  clear hb2
  go_upto_region 2 with (first | (with_reducible apply alZ' ClP.zCe) | ((with_reducible apply stR (ClP.tCe cv)); rfl; rfl; exact Blk.new _ _ _; exact ClP.ce_size _ _; exact ClP.ce_one _))
  generalize hw3 : World.setRow _ _ _ = w3
  have B3 := hid (show Below w.heap.size w w3 by rw [← hw3]; exact B2.out.trans (below_setRow ((Below.refl _ _).alloc (Nat.le_refl _) _) (Nat.le_refl _) _ |>.mono B2.out.size))
  clear hw3 B2
  go_wp2_with fail
  go_loopw [22] (fun u22 wr => ∃ i : Nat, u22 = .int .i64 i ∧ i ≤ n ∧ Hid (Below w.heap.size w wr)) (fun u22 _ => n - (intOf u22).toNat)
  case atStart => exact ⟨0, rfl, Nat.zero_le _, B3⟩
  case round =>
    clear B3
    obtain ⟨i, rfl, hi, HB⟩ := hrel
    obtain ⟨wo, hwo⟩ : ∃ x, x = wr := ⟨_, rfl⟩
    subst hwo
    by_cases hin : i < n
    · have t1 : (i : Int) < (n : Int) := by omega
      obtain ⟨gi, hgi⟩ : ∃ gi, gs[i]? = some gi := ⟨_, List.getElem?_eq_getElem (by rw [hgn.out]; exact hin)⟩
      obtain ⟨st, hst⟩ : ∃ st, ms[i]? = some st := ⟨_, List.getElem?_eq_getElem (by rw [← HG.out, hgn.out]; exact hin)⟩
      obtain ⟨bA, oA, rfl, hbS, hbl, hr⟩ := HA.out.some hgi
      rw [Nat.mul_one] at hr
      have q1 : wo.cell? ⟨bA, oA + i, none⟩ = some (.pointer (some ⟨gi, 0, none⟩)) := (HB.out.cell (p := ⟨bA, oA + i, none⟩) hbl).trans (pt_p hr)
      obtain ⟨hrm, hst1⟩ := HM.out i gi st hgi hst
      have RMi := hid (MbP.memB_ok.frame hrm (T := fun _ => False) (Turn.of_new HB.out) fun _ _ e => e)
      have t2 : decide (st.n = 0) = false := by simp; omega
      have t2b : (st.n == 0) = false := by simp; omega
      have t2c : ¬ st.n = 0 := by omega
      clear hgi hst hr hrm
      go_upto_region 7 with fail
      go_wp2_with fail
      refine (MbP.memB_ok.len RMi.out).mono ?_
      rintro e w4 ⟨rfl, hb⟩
      have B4 := hid (HB.out.trans (hb.mono HB.out.size))
      clear hb q1 RMi HB
      go_wp2_with fail
      go_roundw
      case rel => exact ⟨i + 1, by go_num, by omega, B4⟩
      case measure => simp [intOf] <;> omega
    · have t1 : decide ((i : Int) < (n : Int)) = false := by simp; omega
      obtain rfl : i = n := by omega
      have A3 := hid (HA.out.turn (T := fun _ => False) (Turn.of_new HB.out) fun _ _ _ e => e)
      go_upto_region 12 with fail
      go_wp2_with fail
      refine (lb_cloneP A3.out (by omega)).mono ?_
      rintro e wc ⟨A', c', rfl, hA', hbc⟩
      have BC := hid (HB.out.trans (hbc.mono HB.out.size))
      have AC := hid hA'
      have SC := hid (HS.out.turn (T := fun _ => False) (Turn.of_new BC.out) fun _ _ _ e => e)
      have PC := hid (show ∀ s x, (s, x) ∈ steps.zip sl → Arg wc x.A s.picks s.picks.length x.c ∧ s.picks.length ≤ 140737488351232 from fun s x h => ⟨(HP.out s x h).1.on BC.out, (HP.out s x h).2.1⟩)
      have hws := hid HB.out.size
      clear hA' hbc A3 HB
      go_wp2_with fail
      refine (lb_byN SC.out HL.out hns PC.out).mono ?_
      rintro e w5 ⟨r, Fm, sl2, rfl, hl2, hB⟩
      have BN := hid hB
      have L2 := hid hl2
      clear hB hl2 SC PC
      go_wp2_with ((with_reducible apply wblBus); rfl; rfl; rfl)
      go_ret2
      have hBN := BN.out
      have hal := (Below.refl w5.heap.size w5).alloc (Nat.le_refl _) (.cells (pbV A' i c' gc r (.slice none 0 0) false) 106)
      have hr5 : r < w5.heap.size := hBN.map.lt
      have hrc := hBN.rl
      have hcs := BC.out.size
      have hc5 := hBN.bel.size
      have hgl : gs.length = i := hgn.out
      have hwo := hws.out
      have hsz : (w5.alloc (.cells (pbV A' i c' gc r (.slice none 0 0) false) 106)).heap.size = w5.heap.size + 1 := by simp
      have hsk : Sk 0 (w5.alloc (.cells (pbV A' i c' gc r (.slice none 0 0) false) 106)) w5.heap.size gs gc A' c' r (.slice none 0 0) Fm (fun q => w.heap.size ≤ q ∧ q < (w5.alloc (.cells (pbV A' i c' gc r (.slice none 0 0) false) 106)).heap.size ∧ q ≠ w5.heap.size ∧ q ≠ r) steps false [] :=
        sk_new (by rw [hgl]; exact Blk.new _ _ _) (by omega) (by rw [hgl]; exact AC.out.mono fun b e => Nat.le_trans hwo e) (hBN.bel.trans (hal.mono hc5)) hcs (hBN.on hal) L2.out (fun q h => by omega) (fun n e => by have := ((hBN.own n).own _ e).2; omega) (fun x hx o h1 h2 => by have := (hBN.pk x hx).2 _ o h1 h2; omega)
      refine ⟨w5.heap.size, mutK w5.heap.size r (.slice none 0 0), _, by simp, ⟨A', c', r, _, Fm, hsk, rfl⟩, fun q e => ?_, fun q e => .inl ⟨e.1, e.2.1⟩, fun q e => ?_, BC.out.trans ((hBN.bel.trans (hal.mono hc5)).mono hcs)⟩
      · rcases e with e | e | e
        · omega
        · omega
        · cases e
      · rcases e with e | e | e
        · exact ⟨by rw [hsz]; omega, fun x => x.2.2.1 e⟩
        · exact ⟨by rw [hsz]; omega, fun x => x.2.2.2 e⟩
        · cases e
end BuP
end Go.Proofs.YthogklchmhjjkaaGreat
set_option maxRecDepth 100000
namespace Go.Proofs.YthogklchmhjjkaaGreat
open Go.ChangeShapes Go.WideShapes Go.ChangeAt Go.RowKit
attribute [local go_sem] Gives GivesE
namespace BuP
open BuM MbM MbP MpV
section
variable {w w' : World} {d g k : Nat} {F : Fq} {b : Bs}
theorem bp_en4 (w : World) : (Instr.build 57 #[(0, .int .i64 4)]).run Tryz.prog w = .ok (.agg (enL ⟨4, 0, 0, fun _ => 0, 0⟩).toArray) w := run_build w _ _ _ (by kernel_rfl)
theorem wbpCe {ops : Array Oper} {Q : Exit → Act → World → Prop} {a : Act} {w : World} {rest : List Oper} {dst : Option Tmp} {ty : TypeId} {pos : String} {after : Array Edge} (hk : wpList Tryz.prog ops Q rest (a.put dst (.agg (enL ⟨4, 0, 0, fun _ => 0, 0⟩).toArray)) w) : wpList Tryz.prog ops Q (⟨dst, .build 57 #[(0, .const (.int .i64 4))], ty, pos, after, none⟩ :: rest) a w := by
  have hm : (#[(0, .const (.int .i64 4))] : Array (Nat × Operand)).map (fun (i, x) => (i, a.eval x)) = #[(0, .int .i64 4)] := by
    simp only [List.map_toArray, List.map_cons, List.map_nil]; rfl
  refine wpList_plain rfl fun K hK => ?_
  unfold Oper.wp execOp
  simp only [Sem.run_bind, hm, bp_en4, Result.andThen_ok, Sem.run_pure]
  exact hK _ _ hk
set_option maxHeartbeats 600000 in
set_option maxRecDepth 100000 in
theorem lb_cell (H : Pp (RepK 0) w g F k b) (hk : k + b.steps.length + 2 ≤ 8000) : Calls Tryz.prog 27 #[MbP.at' g] w fun e w' => e = .returned (.tuple #[.agg (ClP.ceL (BuM.ceV (BuM.ahead b))).toArray, .int .i64 (BuM.ceB (BuM.ahead b)).e]) ∧ outQ (RepK 0) w g F (k + b.steps.length + 2) (BuM.ceT b) w' := by
  have HH := hid H
  clear H
  unfold MbP.at'
  go_enter Tryz.func27, Tryz.ntmps27
  go_upto_region 2 with (with_reducible apply alZ' ClP.zCe)
  try simp only [Act.put, List.setIfInBounds_toArray, List.set_cons_succ, List.set_cons_zero]
  generalize hw0 : World.alloc w _ = w0
  generalize hwa : World.alloc w0 _ = wa
  generalize hw1 : World.alloc wa _ = w1
  obtain ⟨gB, hgB⟩ : ∃ n, n = w.heap.size := ⟨_, rfl⟩
  have hs0 : w0.heap.size = w.heap.size + 1 := by rw [← hw0]; simp
  have hsa : wa.heap.size = w.heap.size + 1 + 1 := by rw [← hwa, ← hs0]; simp
  obtain ⟨gR, hgR⟩ : ∃ n, n = w.heap.size + 1 := ⟨_, rfl⟩
  obtain ⟨gH, hgH⟩ : ∃ n, n = w.heap.size + 1 + 1 := ⟨_, rfl⟩
  have ba : Below w.heap.size w w0 := by rw [← hw0]; exact (Below.refl _ _).alloc (Nat.le_refl _) _
  have bb : Below w0.heap.size w0 wa := by rw [← hwa]; exact (Below.refl _ _).alloc (Nat.le_refl _) _
  have bc : Below wa.heap.size wa w1 := by rw [← hw1]; exact (Below.refl _ _).alloc (Nat.le_refl _) _
  have k1 : Blk w0 gB 34 #[.pointer (some ⟨g, 0, none⟩)] := by rw [← hw0, hgB]; exact Blk.new _ _ _
  have k2 : Blk wa gR 27 (ClP.ceL (0, ClP.zero)).toArray := by rw [← hwa, hgR, ← hs0]; exact Blk.new _ _ _
  have k3 : Blk w1 gH 27 (ClP.ceL (0, ClP.zero)).toArray := by rw [← hw1, hgH, ← hsa]; exact Blk.new _ _ _
  have K1 := hid ((k1.below bb k1.lt).below bc (Nat.lt_of_lt_of_le k1.lt bb.size))
  have K2 := hid (k2.below bc k2.lt)
  have K3 := hid k3
  have BEL := hid (show Below w.heap.size w w1 from (ba.trans (bb.mono ba.size)).trans (bc.mono (Nat.le_trans ba.size bb.size)))
  have nB : ¬ mutP F gB := fun e => by have := HH.out.mlt gB e; omega
  have nR : ¬ mutP F gR ∧ ¬ rdP F gR := ⟨fun e => by have := HH.out.mlt gR e; omega, fun e => by have := HH.out.ilt gR e; omega⟩
  have nH : ¬ mutP F gH ∧ ¬ rdP F gH := ⟨fun e => by have := HH.out.mlt gH e; omega, fun e => by have := HH.out.ilt gH e; omega⟩
  have hRw := hid (show w.heap.size ≤ gR by omega)
  have hHw := hid (show w.heap.size ≤ gH by omega)
  have hBH : gB ≠ gH := by omega
  have hRH : gR ≠ gH := by omega
  try rw [hsa]
  try rw [hs0]
  rw [← hgH, ← hgR, ← hgB]
  clear hw1 hw0 hwa hs0 hsa hgB hgR hgH ba bb bc k1 k2 k3
  have H1 := hid (HH.out.belowK BEL.out)
  have qB : w1.cell? ⟨gB, 0, none⟩ = some (.pointer (some ⟨g, 0, none⟩)) := K1.out.cell 0
  go_wp2_with (with_reducible apply wbpCe)
  refine (lb_ceIo H1.out hk hBH K1.out K3.out nB nH).mono ?_
  rintro e w2 ⟨rfl, ho, hd⟩
  obtain ⟨z, hz⟩ : ∃ z, z = ceB (BuM.ahead b) := ⟨_, rfl⟩
  obtain ⟨h, hh⟩ : ∃ h, h = ceV (BuM.ahead b) := ⟨_, rfl⟩
  have HZ := hid hz
  have HV := hid hh
  obtain ⟨F2, hP2, hC2⟩ := Come.ofX ho
  have R2 := hid (K2.out.turn hC2.2.2.2.2 fun e => e.elim nR.1 hRH)
  have H2 := hid (show Blk w2 gH 27 (ClP.ceL h).toArray by rw [hh]; exact hd)
  have hrl := K2.out.lt
  have n2 : ¬ mutP F2 gR ∧ ¬ rdP F2 gR := ⟨fun e => (hC2.2.2.1 gR e).elim nR.1 fun y => by omega, fun e => by
    rcases hC2.2.2.2.1 gR e with y | y | y
    · exact nR.1 y
    · exact nR.2 y
    · omega⟩
  have P2 := hid hP2
  have C2 := hid ((Come.refl (fun _ => False) F BEL.out).trans hC2 fun q e => .inr (by rw [e]; exact hHw.out))
  have hrl2 := R2.out.lt
  have hhl2 := H2.out.lt
  rw [← hz]
  clear qB ho hd hP2 hC2 K1 K2 K3 H1 hrl nR nH nB hz hh hBH
  go_upto_region 3 with (first | (with_reducible apply alZ' zEnP) | ((with_reducible apply stR (tEnP z)); rfl; rfl; exact Blk.new _ _ _; exact en_size _ _; exact en_one' _))
  generalize hw3 : World.setRow _ _ _ = w3
  obtain ⟨gE, hgE⟩ : ∃ n, n = w2.heap.size := ⟨_, rfl⟩
  have B3 := hid (show Below w2.heap.size w2 w3 by rw [← hw3]; exact below_setRow ((Below.refl _ _).alloc (Nat.le_refl _) _) (Nat.le_refl _) _)
  have E3 := hid (show Blk w3 gE 57 (enL z).toArray by rw [← hw3, hgE]; exact (Blk.new w2 _ _).setRow_same _)
  have hER : gR ≠ gE := by omega
  rw [← hgE]
  clear hw3 hgE
  have R3 := hid (R2.out.below B3.out hrl2)
  have H3 := hid (H2.out.below B3.out hhl2)
  have P3 := hid (P2.out.belowK B3.out)
  have C3 := hid (C2.out.trans (Come.refl (fun _ => False) F2 B3.out) fun _ e => e.elim)
  clear R2 H2 P2 C2 B3 hrl2 hhl2
  refine wp_region_c (S := yS [some (.agg (ClP.ceL h).toArray), some (.pointer (some ⟨gE, 67, none⟩)), some (.int .i64 z.e), some undef, some (.int .i64 z.e)] []) (C := fun d vs w' => ResQ w3 gR h (d 3) w') 5 (by kernel_rfl) (by kernel_rfl) (by kernel_rfl) _
    (yS_ok _ fun y hy => by cases hy) ⟨Turn.drew _, R3.out.drew⟩ fun vs => ?_
  simp only [List.take_succ_cons, List.take_zero, List.drop_succ_cons, List.drop_zero]
  refine ⟨.inl ⟨rfl, fun dd w' hd hnx hw hC => ?_⟩, fun e => ?_⟩
  · exact ClP.gE_ldR (cs := (ClP.ceL h).toArray) (ClP.tCe h) rfl (H3.out.turn hC.t fun e => hRH e.symm).whole ⟨rfl, hC⟩
  have e' : vs 0 = _ := e
  rw [e']
  clear e e'
  simp only [Act.put, List.setIfInBounds_toArray, List.set_cons_succ, List.set_cons_zero]
  refine ⟨.inl ⟨rfl, fun dd w' hd hnx hw hC => ?_⟩, fun e => ?_⟩
  · go_simp
    first | exact ⟨rfl, hC⟩ | exact hC
  have e' : vs 1 = _ := e
  rw [e']
  clear e e'
  simp only [Act.put, List.setIfInBounds_toArray, List.set_cons_succ, List.set_cons_zero]
  refine ⟨.inl ⟨rfl, fun dd w' hd hnx hw hC => ?_⟩, fun e => ?_⟩
  · have h1 : w'.cell? ⟨gE, 67, none⟩ = some (.int .i64 z.e) := en_qe (E3.out.turn hC.t fun e => hER e.symm)
    go_simp
    first | exact ⟨rfl, hC⟩ | exact hC
  have e' : vs 2 = _ := e
  rw [e']
  clear e e'
  simp only [Act.put, List.setIfInBounds_toArray, List.set_cons_succ, List.set_cons_zero]
  refine ⟨.inl ⟨rfl, fun dd w' hd hnx hw hC => ?_⟩, fun e => ?_⟩
  · with_reducible refine gE_stR (cs := (ClP.ceL h).toArray) (old := (ClP.ceL (if dd 3 then h else (0, ClP.zero))).toArray) (g := gR) (t := 27) ?_ ?_ ?_ ?_ ?_ ?_ ?_
    · exact ClP.tCe h
    · rfl
    · rfl
    · exact hC.b
    · exact ClP.ce_size _ _
    · exact ClP.ce_one _
    · exact ⟨rfl, hC.put⟩
  have e' : vs 3 = _ := e
  rw [e']
  clear e e'
  simp only [Act.put, List.setIfInBounds_toArray, List.set_cons_succ, List.set_cons_zero]
  refine ⟨.inl ⟨rfl, fun dd w' hd hnx hw hC => ?_⟩, fun e => ?_⟩
  · go_simp
    first | exact ⟨rfl, hC⟩ | exact hC
  have e' : vs 4 = _ := e
  rw [e']
  clear e e'
  simp only [Act.put, List.setIfInBounds_toArray, List.set_cons_succ, List.set_cons_zero]
  intro dd wz hall hC
  have h4 : dd 3 = true := hall 3 (by omega)
  have Z := hid (show Blk wz gR 27 (ClP.ceL h).toArray by have := hC.b; rw [h4] at this; exact this)
  have P6 := hid (P3.out.turnK hC.t fun q e x => by rw [x] at e; exact e.elim n2.1 n2.2)
  have C6 := hid (show Come (fun _ => False) w F wz F2 from C3.out.trans (Come.touch (X := fun q => q = gR) _ F2 hC.t fun q e => .inl e) fun q e => .inr (e ▸ hRw.out))
  clear hC h4 hall E3 R3 H3 P3 C3 n2
  go_wp2_with fail
  refine ret_rowt2 (t := 27) (cs := (ClP.ceL h).toArray) (g := gR) (v := .int .i64 z.e) (ClP.tCe h) Tryz.results27 rfl rfl rfl Z.out ?_
  have e1 : Ending.returned (.tuple #[.agg (ClP.ceL h).toArray, .int .i64 z.e]) = .returned (.tuple #[.agg (ClP.ceL (BuM.ceV (BuM.ahead b))).toArray, .int .i64 (BuM.ceB (BuM.ahead b)).e]) := by rw [HV.out, HZ.out]
  exact ⟨e1, C6.out.toQ P6.out⟩
end
end BuP
end Go.Proofs.YthogklchmhjjkaaGreat
set_option maxRecDepth 100000
namespace Go.Proofs.YthogklchmhjjkaaGreat
open Go.ChangeShapes Go.WideShapes Go.ChangeAt Go.RowKit
attribute [local go_sem] Gives GivesE
namespace BuP
open BuM MbM MbP
/-- An entry done again. -/
def rep1 (ms : List St) (x : BuM.Ent) : List St :=
  if x.e = 0 then (if x.d = 2 then ms.set x.m.toNat (MbM.wrT (BuM.at' ms x.m) x.i x.s) else if x.d = 3 then ms.set x.m.toNat (MbM.flT (BuM.at' ms x.m)) else ms) else ms
def repl (ms : List St) (L : List BuM.Ent) : List St := L.foldl rep1 ms
/-- What is sure of an entry. -/
def okEnt (n : Nat) (x : BuM.Ent) : Prop := (x.d = 2 → ∀ j, x.s j < 256) ∧ (x.e = 0 → x.d = 2 ∨ x.d = 3 → ∃ mi : Nat, x.m = mi ∧ mi < n)
/-- Members of the program's that are told things, apart from all that lies in blocks of X. -/
structure Fr (B : Nat) (X : Nat → Prop) (w : World) (gs : List Nat) (Ms Is : Nat → Nat → Prop) (k : Nat) (ms : List St) : Prop where
  len : gs.length = ms.length
  mem : ∀ (i gi : Nat) (st : St), gs[i]? = some gi → ms[i]? = some st → RepM w gi (Ms i) (Is i) k st
  ok : okM ms
  ap : ∀ i j q, i < gs.length → j < gs.length → i ≠ j → Ms i q → ¬ (Ms j q ∨ Is j q)
  low : ∀ i q, i < gs.length → Ms i q → B ≤ q ∧ ¬ X q
  xlt : ∀ q, X q → q < w.heap.size
  base : B ≤ w.heap.size
section
variable {B : Nat} {X : Nat → Prop} {w w' : World} {gs : List Nat} {Ms Is : Nat → Nat → Prop} {k : Nat} {ms : List St}
theorem Fr.below (H : Fr B X w gs Ms Is k ms) (hb : Below w.heap.size w w') : Fr B X w' gs Ms Is k ms where
  len := H.len
  mem i gi st h1 h2 := MbP.memB_ok.frame (H.mem i gi st h1 h2) (Turn.of_new (S := fun _ => False) hb) fun _ _ e => e
  ok := H.ok
  ap := H.ap
  low := H.low
  xlt q e := Nat.lt_of_lt_of_le (H.xlt q e) hb.size
  base := Nat.le_trans H.base hb.size
theorem Fr.put (H : Fr B X w gs Ms Is k ms) {j gj k' : Nat} {st' : St} (hk : k ≤ k') (hj : gs[j]? = some gj) (hok : st'.ok) (ho : outP RepM w gj (Ms j) (Is j) k' st' w') :
    ∃ Ms' Is', Fr B X w' gs Ms' Is' k' (ms.set j st') ∧ Turn (fun q => B ≤ q ∧ ¬ X q) w w' := by
  obtain ⟨M', I', h1, h2, h3, h4⟩ := ho
  have hjl := (List.getElem?_eq_some_iff.1 hj).1
  have lt : ∀ i q, i < gs.length → Ms i q ∨ Is i q → q < w.heap.size := fun i q hi e =>
    MbP.memB_ok.lt (H.mem i _ _ (List.getElem?_eq_getElem hi) (List.getElem?_eq_getElem (by rw [← H.len]; exact hi))) q e
  refine ⟨fun i => if i = j then M' else Ms i, fun i => if i = j then I' else Is i, ?_, h4.mono fun q e => H.low j q hjl e⟩
  refine { len := by rw [List.length_set]; exact H.len, mem := fun i gi st e1 e2 => ?_, ok := set_ok H.ok j hok, ap := fun i l q hi hl hne e e2 => ?_, low := fun i q hi e => ?_, xlt := fun q e => Nat.lt_of_lt_of_le (H.xlt q e) h4.size, base := Nat.le_trans H.base h4.size }
  · by_cases e : i = j
    · subst e
      rw [hj] at e1
      cases e1
      rw [List.getElem?_set_self (by rw [← H.len]; exact hjl)] at e2
      cases e2
      rw [if_pos rfl, if_pos rfl]
      exact h1
    · rw [List.getElem?_set_ne (fun x => e x.symm)] at e2
      rw [if_neg e, if_neg e]
      exact MbP.memB_ok.mono (MbP.memB_ok.frame (H.mem i gi st e1 e2) h4 fun q x y => H.ap j i q hjl (List.getElem?_eq_some_iff.1 e1).1 (fun z => e z.symm) y x) hk
  · replace e : (if i = j then M' else Ms i) q := e
    replace e2 : (if l = j then M' else Ms l) q ∨ (if l = j then I' else Is l) q := e2
    by_cases c : i = j
    · rw [if_pos c] at e
      rw [if_neg (fun z => hne (c.trans z.symm)), if_neg (fun z => hne (c.trans z.symm))] at e2
      rcases h2 q e with x | x
      · exact H.ap j l q hjl hl (fun z => hne (c.trans z)) x e2
      · have := lt l q hl e2; omega
    · rw [if_neg c] at e
      by_cases d : l = j
      · rw [if_pos d, if_pos d] at e2
        have hq := lt i q hi (.inl e)
        rcases e2 with x | x
        · rcases h2 q x with y | y
          · exact H.ap i j q hi hjl c e (.inl y)
          · omega
        · rcases h3 q x with y | y | y
          · exact H.ap i j q hi hjl c e (.inl y)
          · exact H.ap i j q hi hjl c e (.inr y)
          · omega
      · rw [if_neg d, if_neg d] at e2
        exact H.ap i l q hi hl hne e e2
  · replace e : (if i = j then M' else Ms i) q := e
    by_cases c : i = j
    · rw [if_pos c] at e
      rcases h2 q e with x | x
      · exact H.low j q hjl x
      · exact ⟨Nat.le_trans H.base x, fun y => by have := H.xlt q y; omega⟩
    · rw [if_neg c] at e
      exact H.low i q hi e
end
end BuP
end Go.Proofs.YthogklchmhjjkaaGreat
set_option maxRecDepth 100000
namespace Go.Proofs.YthogklchmhjjkaaGreat
open Go.ChangeShapes Go.WideShapes Go.ChangeAt Go.RowKit
attribute [local go_sem] Gives GivesE
namespace BuP
open BuM MbM MbP
def ms0 : List St := [made 4, made 4]
end BuP
end Go.Proofs.YthogklchmhjjkaaGreat
set_option maxRecDepth 100000
namespace Go.Proofs.YthogklchmhjjkaaGreat
open Go.ChangeShapes Go.WideShapes Go.ChangeAt Go.RowKit
attribute [local go_sem] Gives GivesE
namespace BuP
open BuM MbM MbP MpV
set_option maxHeartbeats 1000000 in
set_option maxRecDepth 100000 in
theorem lb_bad {w : World} {A : Option Addr} {gs : List Nat} {n c gc : Nat} {As : Option Addr} {ns cs : Nat} {Ms Is : Nat → Nat → Prop} {S : Nat → Prop} {Mc : Nat → Prop} {hist : List ClP.Held} {cv : ClP.Held} {k : Nat} {ms : List St}
    (hA : Sli 1 ptL S w A gs n c) (hgm : gs.length = ms.length) (hme : ∀ (i gi : Nat) (st : St), gs[i]? = some gi → ms[i]? = some st → RepM w gi (Ms i) (Is i) k st ∧ 1 ≤ st.n) (hn : n = 0 ∨ 64 < n) (hn2 : n ≤ 1000) (hce : repCb w gc Mc hist cv) :
    Calls Tryz.prog 23 #[.slice A n c, MbP.at' gc, .slice As ns cs] w fun e w' => e = .returned (.tuple #[.pointer none, .int .i64 2]) ∧ Below w.heap.size w w' := by
  have HA := hid hA
  have HM := hid hme
  have HC := hid hce
  have HG := hid hgm
  have hgn := hid hA.len
  have HN := hid hn
  clear hA hme hce hgm hn
  unfold MbP.at'
  go_enter Tryz.func23, Tryz.ntmps23
  go_wp2_with fail
  refine (cb_read HC.out).mono ?_
  rintro e w2 ⟨rfl, hb2⟩
  have B2 := hid hb2
  clear hb2
  go_upto_region 2 with (first | (with_reducible apply alZ' ClP.zCe) | ((with_reducible apply stR (ClP.tCe cv)); rfl; rfl; exact Blk.new _ _ _; exact ClP.ce_size _ _; exact ClP.ce_one _))
  generalize hw3 : World.setRow _ _ _ = w3
  have B3 := hid (show Below w.heap.size w w3 by rw [← hw3]; exact B2.out.trans (below_setRow ((Below.refl _ _).alloc (Nat.le_refl _) _) (Nat.le_refl _) _ |>.mono B2.out.size))
  clear hw3 B2
  go_wp2_with fail
  go_loopw [22] (fun u22 wr => ∃ i : Nat, u22 = .int .i64 i ∧ i ≤ n ∧ Hid (Below w.heap.size w wr)) (fun u22 _ => n - (intOf u22).toNat)
  case atStart => exact ⟨0, rfl, Nat.zero_le _, B3⟩
  case round =>
    clear B3
    obtain ⟨i, rfl, hi, HB⟩ := hrel
    obtain ⟨wo, hwo⟩ : ∃ x, x = wr := ⟨_, rfl⟩
    subst hwo
    by_cases hin : i < n
    · have t1 : (i : Int) < (n : Int) := by omega
      obtain ⟨gi, hgi⟩ : ∃ gi, gs[i]? = some gi := ⟨_, List.getElem?_eq_getElem (by rw [hgn.out]; exact hin)⟩
      obtain ⟨st, hst⟩ : ∃ st, ms[i]? = some st := ⟨_, List.getElem?_eq_getElem (by rw [← HG.out, hgn.out]; exact hin)⟩
      obtain ⟨bA, oA, rfl, hbS, hbl, hr⟩ := HA.out.some hgi
      rw [Nat.mul_one] at hr
      have q1 : wo.cell? ⟨bA, oA + i, none⟩ = some (.pointer (some ⟨gi, 0, none⟩)) := (HB.out.cell (p := ⟨bA, oA + i, none⟩) hbl).trans (pt_p hr)
      obtain ⟨hrm, hst1⟩ := HM.out i gi st hgi hst
      have RMi := hid (MbP.memB_ok.frame hrm (T := fun _ => False) (Turn.of_new HB.out) fun _ _ e => e)
      have t2 : decide (st.n = 0) = false := by simp; omega
      have t2b : (st.n == 0) = false := by simp; omega
      have t2c : ¬ st.n = 0 := by omega
      clear hgi hst hr hrm
      go_upto_region 7 with fail
      go_wp2_with fail
      refine (MbP.memB_ok.len RMi.out).mono ?_
      rintro e w4 ⟨rfl, hb⟩
      have B4 := hid (HB.out.trans (hb.mono HB.out.size))
      clear hb q1 RMi HB
      go_wp2_with fail
      go_roundw
      case rel => exact ⟨i + 1, by go_num, by omega, B4⟩
      case measure => simp [intOf] <;> omega
    · have t1 : decide ((i : Int) < (n : Int)) = false := by simp; omega
      obtain rfl : i = n := by omega
      have hn := HN.out
      rcases hn with h0 | h64
      · subst h0
        have t0 : decide (((0 : Nat) : Int) = 0) = true := rfl
        clear HN
        go_wp2_with fail
        go_ret2
        exact ⟨rfl, HB.out⟩
      · have t0 : decide ((i : Int) = 0) = false := by simp; omega
        have t0b : ((i : Int) == 0) = false := by simp; omega
        have tn0 : ¬ i = 0 := by omega
        have t64 : decide ((64 : Int) < (i : Int)) = true := by simp; omega
        have t64b : 64 < i := h64
        clear HN
        go_wp2_with fail
        go_ret2
        exact ⟨rfl, HB.out⟩
/-- The landed bus keeps the contracts. -/
theorem bus_ok : BusC (RepK 0) where
  frame h ht hT := repK_frame h ht hT
  new hA hgm hme h1 h2 hce hS hsl hns hp := lb_new hA hgm hme h1 h2 hce hS hsl hns hp
  bad hA hgm hme hn h2 hce _ _ _ := lb_bad hA hgm hme hn h2 hce
  read H hk m i := lb_read H hk m i
  write H hk m i x hx := lb_write H hk m i x hx
  flush H hk m := lb_flush H hk m
  cell H hk := lb_cell H hk
  adv H hk t := lb_adv H hk t
  power H := lb_power H
  count H := lb_count H
  off H := lb_off H
  members H := lb_members H
  sectors H m := lb_sectors H m
  log H hk := lb_log H hk
end BuP
end Go.Proofs.YthogklchmhjjkaaGreat
set_option maxRecDepth 100000
namespace Go.Proofs.YthogklchmhjjkaaGreat
open Go.ChangeShapes Go.WideShapes Go.ChangeAt Go.RowKit
attribute [local go_sem] Gives GivesE
section
variable {α : Type} {k : Nat} {en : α → List Value} {E L : TypeId} {S : Nat → Prop} {P : Program} {ops : Array Oper} {Q : Exit → Act → World → Prop} {a : Act} {w : World} {rest : List Oper} {dst : Option Tmp} {ty : TypeId} {pos : String} {after : Array Edge} {s x : Operand} {v : Value} {l m : List α} {A : Option Addr} {n cap B : Nat}
/-- As wappX; where the result lies is told. -/
theorem wappXW (hE : EltX E k en) (hu : Tryz.prog.underlying L = some (.slice E)) (hs : a.eval s = v) (hx : a.eval x = .slice A n cap) (hown : OwnX E k en w B v l) (hm : Sli k en S w A m n cap) (hsz : l.length + n ≤ 1000000) (hk : k ≤ 1000) (hB : B ≤ w.heap.size)
    (h : ∀ v' w', OwnX E k en w' B v' (l ++ m) → w.grownBy w' v.ownBlock → (v'.ownBlock = v.ownBlock ∨ v'.ownBlock = some w.heap.size) → wpList Tryz.prog ops Q rest (a.put dst v') w') :
    wpList Tryz.prog ops Q (⟨dst, .call { callee := .builtin .append, args := #[s, x], argTypes := #[L, L] }, ty, pos, after, none⟩ :: rest) a w := by
  obtain ⟨v', w', hr, ho, hg⟩ := run_appX (ty := ty) hE hu hown hm hsz hk hB
  have hw := run_appX_where hE hu hown hm hsz hk hr
  refine wpList_plain rfl fun K hK => ?_
  unfold Oper.wp execOp
  simp only [resolve, invoke, builtin, Sem.run_bind, Sem.run_pure, Result.andThen_ok, List.map_toArray, List.map_cons, List.map_nil, hs, hx, hr]
  exact hK _ _ (h v' w' ho hg hw)
theorem own_blk {v : Value} {l : List α} {B b : Nat} (h : OwnX E k en w B v l) (hb : v.ownBlock = some b) : ∃ cs, Blk w b E cs := h.obj hb
theorem own_ne {β : Type} {F : TypeId} {k' B' : Nat} {en' : β → List Value} {v u : Value} {l : List α} {m : List β} {B q : Nat} (h : OwnX E k en w B v l) (h' : OwnX F k' en' w B' u m) (hne : E ≠ F) (e : v.ownBlock = some q) : u.ownBlock ≠ some q := fun e' => by
  obtain ⟨c, hc⟩ := own_blk h e
  obtain ⟨d, hd⟩ := own_blk h' e'
  exact hc.neT hd hne rfl
theorem own_not {v : Value} {l : List α} {B g : Nat} {t : TypeId} {cs : Array Value} (h : OwnX E k en w B v l) (hb : Blk w g t cs) (hne : E ≠ t) : v.ownBlock ≠ some g := fun e => by
  obtain ⟨c, hc⟩ := own_blk h e
  exact hc.neT hb hne rfl
end
namespace BuP
open MbP BuM MbM
/-- So many sectors a member gets. -/
def nOf (z : Int) : Int := bits .and .i64 z 63 + 1
theorem and63 (D : Int) : ∃ r : Nat, r ≤ 63 ∧ bits .and .i64 D 63 = (r : Int) := by
  have h1 : ((BitVec.ofInt 64 D) &&& (BitVec.ofInt 64 63)).toNat ≤ 63 := by
    rw [BitVec.toNat_and]
    exact Nat.le_trans Nat.and_le_right (by decide)
  refine ⟨((BitVec.ofInt 64 D) &&& (BitVec.ofInt 64 63)).toNat, h1, ?_⟩
  show IntKind.i64.wrap (((BitVec.ofInt 64 D) &&& (BitVec.ofInt 64 63)).toNat : Int) = _
  exact IntWalk.i64_in _ (by omega)
theorem nOf_bd (z : Int) : 1 ≤ nOf z ∧ nOf z ≤ 64 := by
  obtain ⟨r, h1, h2⟩ := and63 z
  unfold nOf
  omega
def mdOf (z : Int) : St := made (nOf z)
/-- The members of both, so far: kp of the program's, kd of the document's. -/
structure Kc (W : World) (ls : List Int) (ca : Array Value) (gC kp kd : Nat) (gs es : List Nat) (Ms Is : Nat → Nat → Prop) (w : World) : Prop where
  low : Below W.heap.size W w
  cas : Blk w gC 30 ca
  clo : W.heap.size ≤ gC
  len : gs.length = kp
  mem : ∀ (i gi : Nat) (z : Int), gs[i]? = some gi → ls[i]? = some z → RepM w gi (Ms i) (Is i) 0 (mdOf z)
  lo : ∀ i q, i < kp → Ms i q ∨ Is i q → W.heap.size ≤ q ∧ q < w.heap.size
  nd : ∀ i j q, i < kp → j < kp → Ms i q → Ms j q → i = j
  sep : ∀ i j q, i < kp → j < kp → Is i q → ¬ Ms j q
  ref : Mems w es (fun _ _ => False) (fun _ => 0) ((ls.take kd).map mdOf)
  elo : ∀ q ∈ es, W.heap.size ≤ q
section
variable {W : World} {ls : List Int} {ca : Array Value} {gC kp kd : Nat} {gs es : List Nat} {Ms Is : Nat → Nat → Prop} {w w' : World}
theorem Kc.es_obj (H : Kc W ls ca gC kp kd gs es Ms Is w) {q : Nat} (hq : q ∈ es) : ∃ cs, Blk w q 100 cs := by
  obtain ⟨i, hi⟩ := List.mem_iff_getElem?.1 hq
  obtain ⟨st, _, h⟩ := H.ref.at hi
  exact rs_obj h
theorem Kc.turn {T : Nat → Prop} (H : Kc W ls ca gC kp kd gs es Ms Is w) (ht : Turn T w w') (h0 : ∀ q, T q → W.heap.size ≤ q) (h1 : ¬ T gC) (h2 : ∀ q ∈ es, ¬ T q) (h3 : ∀ i q, i < kp → Ms i q ∨ Is i q → ¬ T q) : Kc W ls ca gC kp kd gs es Ms Is w' where
  low := H.low.trans (ht.below H.low.size h0)
  cas := H.cas.turn ht h1
  clo := H.clo
  len := H.len
  mem i gi z e1 e2 := MbP.memB_ok.frame (H.mem i gi z e1 e2) ht fun q e => h3 i q (by have := (List.getElem?_eq_some_iff.1 e1).1; have := H.len; omega) e
  lo i q hi e := ⟨(H.lo i q hi e).1, Nat.lt_of_lt_of_le (H.lo i q hi e).2 ht.size⟩
  nd := H.nd
  sep := H.sep
  ref := H.ref.turn ht h2 fun _ _ _ e => e.elim
  elo := H.elo
theorem Kc.below (H : Kc W ls ca gC kp kd gs es Ms Is w) (hb : Below w.heap.size w w') : Kc W ls ca gC kp kd gs es Ms Is w' :=
  H.turn (Turn.of_new (S := fun _ => False) hb) (fun _ e => e.elim) id (fun _ _ e => e) fun _ _ _ _ e => e
/-- One more of the program's. -/
theorem Kc.more (H : Kc W ls ca gC kp kd gs es Ms Is w) {z : Int} (hz : ls[kp]? = some z) (hb : Below w.heap.size w w') {gm : Nat} {M I : Nat → Prop} (hr : RepM w' gm M I 0 (mdOf z)) (hn : ∀ q, M q ∨ I q → w.heap.size ≤ q) :
    Kc W ls ca gC (kp + 1) kd (gs ++ [gm]) es (fun i => if i = kp then M else Ms i) (fun i => if i = kp then I else Is i) w' where
  low := (H.below hb).low
  cas := (H.below hb).cas
  clo := H.clo
  len := by rw [List.length_append, H.len]; rfl
  mem i gi z' e1 e2 := by
    by_cases e : i = kp
    · subst e
      rw [if_pos rfl, if_pos rfl]
      rw [List.getElem?_append_right (by rw [H.len]; exact Nat.le_refl _), H.len, Nat.sub_self] at e1
      cases e1
      rw [hz] at e2
      cases e2
      exact hr
    · rw [if_neg e, if_neg e]
      have hl := (List.getElem?_eq_some_iff.1 e1).1
      rw [List.length_append, H.len] at hl
      rw [List.getElem?_append_left (by rw [H.len]; have : i < kp + 1 := hl; omega)] at e1
      exact (H.below hb).mem i gi z' e1 e2
  lo i q hi e := by
    by_cases e0 : i = kp
    · rw [if_pos e0, if_pos e0] at e
      exact ⟨Nat.le_trans H.low.size (hn q e), MbP.memB_ok.lt hr q e⟩
    · rw [if_neg e0, if_neg e0] at e
      exact (H.below hb).lo i q (by omega) e
  nd i j q hi hj e1 e2 := by
    by_cases i0 : i = kp <;> by_cases j0 : j = kp
    · omega
    · rw [if_pos i0] at e1; rw [if_neg j0] at e2
      have := hn q (.inl e1); have := (H.lo j q (by omega) (.inl e2)).2; omega
    · rw [if_neg i0] at e1; rw [if_pos j0] at e2
      have := hn q (.inl e2); have := (H.lo i q (by omega) (.inl e1)).2; omega
    · rw [if_neg i0] at e1; rw [if_neg j0] at e2
      exact H.nd i j q (by omega) (by omega) e1 e2
  sep i j q hi hj e1 e2 := by
    by_cases i0 : i = kp <;> by_cases j0 : j = kp
    · rw [if_pos i0] at e1; rw [if_pos j0] at e2
      exact MbP.memB_ok.own hr q e2 e1
    · rw [if_pos i0] at e1; rw [if_neg j0] at e2
      have := hn q (.inr e1); have := (H.lo j q (by omega) (.inl e2)).2; omega
    · rw [if_neg i0] at e1; rw [if_pos j0] at e2
      have := hn q (.inl e2); have := (H.lo i q (by omega) (.inr e1)).2; omega
    · rw [if_neg i0] at e1; rw [if_neg j0] at e2
      exact H.sep i j q (by omega) (by omega) e1 e2
  ref := (H.below hb).ref
  elo := H.elo
/-- One more of the document's. -/
theorem Kc.moreR (H : Kc W ls ca gC kp kd gs es Ms Is w) {z : Int} (hz : ls[kd]? = some z) (he : es.length = kd) {T : Nat → Prop} (ht : Turn T w w') (h0 : ∀ q, T q → W.heap.size ≤ q) (h1 : ¬ T gC) (h2 : ∀ q ∈ es, ¬ T q) (h3 : ∀ i q, i < kp → Ms i q ∨ Is i q → ¬ T q)
    {ge : Nat} (hr : RS w' ge (fun _ => False) 0 (mdOf z)) (hn : w.heap.size ≤ ge) : Kc W ls ca gC kp (kd + 1) gs (es ++ [ge]) Ms Is w' :=
  have K := H.turn ht h0 h1 h2 h3
  { low := K.low
    cas := K.cas
    clo := K.clo
    len := K.len
    mem := K.mem
    lo := K.lo
    nd := K.nd
    sep := K.sep
    ref := by
      have hk : kd < ls.length := (List.getElem?_eq_some_iff.1 hz).1
      have ht' : (ls.take (kd + 1)).map mdOf = (ls.take kd).map mdOf ++ [mdOf z] := by
        rw [List.take_add_one, hz, List.map_append]; rfl
      have hl : ((ls.take kd).map mdOf).length = kd := by rw [List.length_map, List.length_take]; omega
      rw [ht']
      refine ⟨by rw [List.length_append, List.length_append, he, hl]; rfl, fun i gi st e1 e2 => ?_, fun i j gi e1 e2 => ?_, fun _ _ _ _ _ e => e⟩
      · by_cases e : i < kd
        · rw [List.getElem?_append_left (by omega)] at e1 e2
          exact K.ref.mem i gi st e1 e2
        · have hi := (List.getElem?_eq_some_iff.1 e1).1
          rw [List.length_append, he] at hi
          have ei : i = kd := by have : i < kd + 1 := hi; omega
          subst ei
          rw [List.getElem?_append_right (by omega), he, Nat.sub_self] at e1
          rw [List.getElem?_append_right (by omega), hl, Nat.sub_self] at e2
          cases e1; cases e2
          exact hr
      · have key : ∀ (i j : Nat), es[i]? = some gi → (es ++ [ge])[j]? = some gi → i = j := fun i j e1 e2 => by
          have hm : gi ∈ es := List.mem_iff_getElem?.2 ⟨i, e1⟩
          have hlt := H.ref.lt.1 gi hm
          by_cases ej : j < kd
          · rw [List.getElem?_append_left (by omega)] at e2
            exact H.ref.nd i j gi e1 e2
          · have hj := (List.getElem?_eq_some_iff.1 e2).1
            rw [List.length_append, he] at hj
            have ej : j = kd := by have : j < kd + 1 := hj; omega
            subst ej
            rw [List.getElem?_append_right (by omega), he, Nat.sub_self] at e2
            cases e2
            omega
        by_cases ei : i < kd
        · rw [List.getElem?_append_left (by omega)] at e1
          exact key i j e1 e2
        · by_cases ej : j < kd
          · rw [List.getElem?_append_left (by omega)] at e2
            exact (key j i e2 e1).symm
          · have hi := (List.getElem?_eq_some_iff.1 e1).1
            have hj := (List.getElem?_eq_some_iff.1 e2).1
            rw [List.length_append, he] at hi hj
            have hi' : i < kd + 1 := hi
            have hj' : j < kd + 1 := hj
            omega
    elo := fun q hq => by
      rcases List.mem_append.1 hq with e | e
      · exact H.elo q e
      · rw [List.mem_singleton] at e; rw [e]; exact Nat.le_trans H.low.size hn }
end
end BuP
end Go.Proofs.YthogklchmhjjkaaGreat
set_option maxRecDepth 100000
namespace Go.Proofs.YthogklchmhjjkaaGreat
open Go.ChangeShapes Go.WideShapes Go.ChangeAt Go.RowKit
attribute [local go_sem] Gives GivesE
namespace BuP
open MbP BuM MbM
/-- The document's bus as it is put together. -/
def buV (vm vs : Value) : Array Value := #[vm, .pointer none, vs, .bool false, .slice none 0 0]
structure Kd (W : World) (ls : List Int) (ca : Array Value) (gC gr kp kd ks : Nat) (gs es : List Nat) (Ms Is : Nat → Nat → Prop) (v vm vs : Value) (l : List (Stp × SlB)) (w : World) : Prop where
  c : Kc W ls ca gC kp kd gs es Ms Is w
  bus : Blk w gr 54 (buV vm vs)
  rlo : W.heap.size ≤ gr
  o1 : OwnX 63 1 ptL w W.heap.size v gs
  o2 : OwnX 74 1 ptL w W.heap.size vm es
  o3 : OwnX 76 70 stL w W.heap.size vs (l.take ks)
  elen : es.length = kd
  eap : ∀ i q, i < kp → Ms i q ∨ Is i q → q ∉ es ∧ q ≠ gr ∧ q ≠ gC ∧ v.ownBlock ≠ some q ∧ vm.ownBlock ≠ some q ∧ vs.ownBlock ≠ some q
section
variable {W : World} {ls : List Int} {ca : Array Value} {gC gr kp kd ks : Nat} {gs es : List Nat} {Ms Is : Nat → Nat → Prop} {v vm vs : Value} {l : List (Stp × SlB)} {w w' w3 : World}
theorem Kd.below (H : Kd W ls ca gC gr kp kd ks gs es Ms Is v vm vs l w) (hb : Below w.heap.size w w') : Kd W ls ca gC gr kp kd ks gs es Ms Is v vm vs l w' where
  c := H.c.below hb
  bus := H.bus.below hb H.bus.lt
  rlo := H.rlo
  o1 := H.o1.below hb (Nat.le_refl _)
  o2 := H.o2.below hb (Nat.le_refl _)
  o3 := H.o3.below hb (Nat.le_refl _)
  elen := H.elen
  eap := H.eap
theorem Kd.v_es (H : Kd W ls ca gC gr kp kd ks gs es Ms Is v vm vs l w) {q : Nat} (e : v.ownBlock = some q) : q ∉ es := fun hq => by
  obtain ⟨cs, hc⟩ := H.c.es_obj hq
  exact own_not H.o1 hc (by decide) e
theorem Kd.vm_es (H : Kd W ls ca gC gr kp kd ks gs es Ms Is v vm vs l w) {q : Nat} (e : vm.ownBlock = some q) : q ∉ es := fun hq => by
  obtain ⟨cs, hc⟩ := H.c.es_obj hq
  exact own_not H.o2 hc (by decide) e
theorem Kd.vs_es (H : Kd W ls ca gC gr kp kd ks gs es Ms Is v vm vs l w) {q : Nat} (e : vs.ownBlock = some q) : q ∉ es := fun hq => by
  obtain ⟨cs, hc⟩ := H.c.es_obj hq
  exact own_not H.o3 hc (by decide) e
theorem Kd.gr_es (H : Kd W ls ca gC gr kp kd ks gs es Ms Is v vm vs l w) : gr ∉ es := fun hq => by
  obtain ⟨cs, hc⟩ := H.c.es_obj hq
  exact H.bus.neT hc (by decide) rfl
/-- One more of the program's members. -/
theorem Kd.more (H : Kd W ls ca gC gr kp kd ks gs es Ms Is v vm vs l w) {z : Int} (hz : ls[kp]? = some z) (hb : Below w.heap.size w w') {gm : Nat} {M I : Nat → Prop} (hr : RepM w' gm M I 0 (mdOf z)) (hn : ∀ q, M q ∨ I q → w.heap.size ≤ q)
    (ht : Turn (fun b => v.ownBlock = some b) w' w3) {v' : Value} (ho : OwnX 63 1 ptL w3 W.heap.size v' (gs ++ [gm])) (wh : v'.ownBlock = v.ownBlock ∨ ∃ q, v'.ownBlock = some q ∧ w'.heap.size ≤ q) :
    Kd W ls ca gC gr (kp + 1) kd ks (gs ++ [gm]) es (fun i => if i = kp then M else Ms i) (fun i => if i = kp then I else Is i) v' vm vs l w3 where
  c := (H.c.more hz hb hr hn).turn ht (fun q e => (H.o1.own q e).1) (fun e => own_not H.o1 H.c.cas (by decide) e) (fun q hq e => H.v_es e hq) fun i q hi e e2 => by
    have hq := (H.o1.own q e2).2
    by_cases e0 : i = kp
    · rw [if_pos e0, if_pos e0] at e
      have := hn q e; omega
    · rw [if_neg e0, if_neg e0] at e
      exact (H.eap i q (by omega) e).2.2.2.1 e2
  bus := (H.bus.below hb H.bus.lt).turn ht fun e => own_not H.o1 H.bus (by decide) e
  rlo := H.rlo
  o1 := ho
  o2 := (H.o2.below hb (Nat.le_refl _)).turn ht fun q e e2 => own_ne H.o2 H.o1 (by decide) e e2
  o3 := (H.o3.below hb (Nat.le_refl _)).turn ht fun q e e2 => own_ne H.o3 H.o1 (by decide) e e2
  elen := H.elen
  eap i q hi e := by
    have new : ∀ q, v'.ownBlock = some q → v.ownBlock = some q ∨ w'.heap.size ≤ q := fun q e => by
      rcases wh with x | ⟨q', x, y⟩
      · exact .inl (x ▸ e)
      · rw [x] at e; cases e; exact .inr y
    by_cases e0 : i = kp
    · rw [if_pos e0, if_pos e0] at e
      have h1 := hn q e
      have h2 := MbP.memB_ok.lt hr q e
      refine ⟨fun e2 => ?_, fun e2 => ?_, fun e2 => ?_, fun e2 => ?_, fun e2 => ?_, fun e2 => ?_⟩
      · have := H.c.ref.lt.1 q e2; omega
      · have := H.bus.lt; omega
      · have := H.c.cas.lt; omega
      · rcases new q e2 with x | x
        · have := (H.o1.own q x).2; omega
        · omega
      · have := (H.o2.own q e2).2; omega
      · have := (H.o3.own q e2).2; omega
    · rw [if_neg e0, if_neg e0] at e
      obtain ⟨a1, a2, a3, a4, a5, a6⟩ := H.eap i q (by omega) e
      refine ⟨a1, a2, a3, fun e2 => ?_, a5, a6⟩
      rcases new q e2 with x | x
      · exact a4 x
      · have := (H.c.lo i q (by omega) e).2; have := hb.size; omega
/-- One more of the document's, and its row set into the bus. -/
theorem Kd.moreR (H : Kd W ls ca gC gr kp kd ks gs es Ms Is v vm vs l w) {z : Int} (hz : ls[kd]? = some z) (ht : Turn (fun b => vm.ownBlock = some b) w w') {ge : Nat} (hr : RS w' ge (fun _ => False) 0 (mdOf z)) (hn : w.heap.size ≤ ge)
    {vm' : Value} (ho : OwnX 74 1 ptL w' W.heap.size vm' (es ++ [ge])) (wh : ∀ q, vm'.ownBlock = some q → vm.ownBlock = some q ∨ w.heap.size ≤ q) :
    Kd W ls ca gC gr kp (kd + 1) ks gs (es ++ [ge]) Ms Is v vm' vs l (w'.setCell ⟨gr, 0, none⟩ vm') := by
  have hbus := H.bus.turn ht fun e => own_not H.o2 H.bus (by decide) e
  have t2 := Turn.setCell (S := fun q => q = gr) w' ⟨gr, 0, none⟩ vm' rfl
  have hge : ge ≠ gr := fun e => by have := H.bus.lt; omega
  have K1 : Kc W ls ca gC kp (kd + 1) gs (es ++ [ge]) Ms Is w' := H.c.moreR hz H.elen ht (fun q e => (H.o2.own q e).1) (fun e => own_not H.o2 H.c.cas (by decide) e) (fun q hq e => H.vm_es e hq) (fun i q hi e e2 => (H.eap i q hi e).2.2.2.2.1 e2) hr hn
  have hes : gr ∉ es ++ [ge] := fun e => by
    rcases List.mem_append.1 e with e | e
    · exact H.gr_es e
    · rw [List.mem_singleton] at e; exact hge e.symm
  exact {
    c := K1.turn t2 (fun q e => by rw [e]; exact H.rlo) (fun e => H.bus.neT H.c.cas (by decide) e.symm) (fun q hq e => hes (e ▸ hq)) fun i q hi e e2 => (H.eap i q hi e).2.1 e2
    bus := hbus.setCell_same 0 vm'
    rlo := H.rlo
    o1 := (H.o1.turn ht fun q e e2 => own_ne H.o1 H.o2 (by decide) e e2).turn t2 fun q e e2 => own_not H.o1 H.bus (by decide) (e2 ▸ e)
    o2 := ho.turn t2 fun q e e2 => own_not ho hbus (by decide) (e2 ▸ e)
    o3 := (H.o3.turn ht fun q e e2 => own_ne H.o3 H.o2 (by decide) e e2).turn t2 fun q e e2 => own_not H.o3 H.bus (by decide) (e2 ▸ e)
    elen := by rw [List.length_append, H.elen]; rfl
    eap := fun i q hi e => by
      obtain ⟨a1, a2, a3, a4, a5, a6⟩ := H.eap i q hi e
      have hq := (H.c.lo i q hi e).2
      refine ⟨fun e2 => ?_, a2, a3, a4, fun e2 => ?_, a6⟩
      · rcases List.mem_append.1 e2 with e2 | e2
        · exact a1 e2
        · rw [List.mem_singleton] at e2; omega
      · rcases wh q e2 with x | x
        · exact a5 x
        · omega }
/-- One more of the document's steps, and their row set into the bus. -/
theorem Kd.moreS (H : Kd W ls ca gC gr kp kd ks gs es Ms Is v vm vs l w) {y : Stp × SlB} (hy : l[ks]? = some y) (ht : Turn (fun b => vs.ownBlock = some b) w w') {vs' : Value} (ho : OwnX 76 70 stL w' W.heap.size vs' (l.take ks ++ [y]))
    (wh : ∀ q, vs'.ownBlock = some q → vs.ownBlock = some q ∨ w.heap.size ≤ q) :
    Kd W ls ca gC gr kp kd (ks + 1) gs es Ms Is v vm vs' l (w'.setCell ⟨gr, 2, none⟩ vs') := by
  have hbus := H.bus.turn ht fun e => own_not H.o3 H.bus (by decide) e
  have t2 := Turn.setCell (S := fun q => q = gr) w' ⟨gr, 2, none⟩ vs' rfl
  have K1 : Kc W ls ca gC kp kd gs es Ms Is w' := H.c.turn ht (fun q e => (H.o3.own q e).1) (fun e => own_not H.o3 H.c.cas (by decide) e) (fun q hq e => H.vs_es e hq) (fun i q hi e e2 => (H.eap i q hi e).2.2.2.2.2 e2)
  have htk : l.take (ks + 1) = l.take ks ++ [y] := by rw [List.take_add_one, hy]; rfl
  exact {
    c := K1.turn t2 (fun q e => by rw [e]; exact H.rlo) (fun e => H.bus.neT H.c.cas (by decide) e.symm) (fun q hq e => H.gr_es (e ▸ hq)) fun i q hi e e2 => (H.eap i q hi e).2.1 e2
    bus := hbus.setCell_same 2 vs'
    rlo := H.rlo
    o1 := (H.o1.turn ht fun q e e2 => own_ne H.o1 H.o3 (by decide) e e2).turn t2 fun q e e2 => own_not H.o1 H.bus (by decide) (e2 ▸ e)
    o2 := (H.o2.turn ht fun q e e2 => own_ne H.o2 H.o3 (by decide) e e2).turn t2 fun q e e2 => own_not H.o2 H.bus (by decide) (e2 ▸ e)
    o3 := by rw [htk]; exact ho.turn t2 fun q e e2 => own_not ho hbus (by decide) (e2 ▸ e)
    elen := H.elen
    eap := fun i q hi e => by
      obtain ⟨a1, a2, a3, a4, a5, a6⟩ := H.eap i q hi e
      have hq := (H.c.lo i q hi e).2
      refine ⟨a1, a2, a3, a4, a5, fun e2 => ?_⟩
      rcases wh q e2 with x | x
      · exact a6 x
      · omega }
end
/-- What holds in the midst of 'r.Members = append(r.Members, Made(n))'. -/
structure MkC (w0 : World) (vm : Value) (es : List Nat) (z : Int) (ge : Nat) (d6 d7 d8 : Bool) (v7 v8 : Value) (w' : World) : Prop where
  t : Turn (fun b => vm.ownBlock = some b) w0 w'
  pre : d6 = false → w'.heap.size = ge
  b : d8 = false → Below w0.heap.size w0 w'
  mem : d6 = true → RS w' ge (fun _ => False) 0 (mdOf z)
  lit : d7 = true → d8 = false → ∃ A c, v7 = .slice A 1 c ∧ Sli 1 ptL (fun b => w0.heap.size ≤ b) w' A [ge] 1 c
  own : d8 = true → OwnX 74 1 ptL w' 0 v8 (es ++ [ge]) ∧ ∀ b, v8.ownBlock = some b → vm.ownBlock = some b ∨ w0.heap.size ≤ b
end BuP
end Go.Proofs.YthogklchmhjjkaaGreat
set_option maxRecDepth 100000
namespace Go.Proofs.YthogklchmhjjkaaGreat
open Go.ChangeShapes Go.WideShapes Go.ChangeAt Go.RowKit
attribute [local go_sem] Gives GivesE
theorem sli_own {α : Type} {k : Nat} {en : α → List Value} {S : Nat → Prop} {w : World} {A : Option Addr} {l : List α} {n c : Nat} (h : Sli k en S w A l n c) : Sli k en (fun b => (Value.slice A n c).ownBlock = some b) w A l n c :=
  ⟨h.len, h.cap, h.max, h.none, fun hn => by obtain ⟨b, o, rfl, _, hl, hr⟩ := h.lst hn; exact ⟨b, o, rfl, rfl, hl, hr⟩⟩
theorem zip_maps' {α β : Type} : ∀ l : List (α × β), (l.map (·.1)).zip (l.map (·.2)) = l
  | [] => rfl
  | (a, b) :: l => by rw [List.map_cons, List.map_cons, List.zip_cons_cons, zip_maps' l]
namespace BuP
open MbP BuM MbM
/-- The plain bus that made makes. -/
def mdB (ls : List Int) (h : ClP.Held) (l : List (Stp × SlB)) : Bs := BuM.new (ls.map mdOf) h (l.map (·.1))
section
variable {W : World} {ls : List Int} {ca : Array Value} {gC gr n n2 cm cs a s2 s4 gk gq g : Nat} {gs es : List Nat} {Ms Is : Nat → Nat → Prop} {Am As : Option Addr} {vc vst : Value} {h : ClP.Held} {l : List (Stp × SlB)} {Mc Mo Io : Nat → Prop} {w5 w6 w7 : World}
def mdF (gs : List Nat) (Ms Is : Nat → Nat → Prop) (gk : Nat) (Mc : Nat → Prop) (h : ClP.Held) (Mo Io : Nat → Prop) : Fq := ⟨gs, Ms, Is, gk, Mc, [h], Mo, Io⟩
def mdE (W : World) (es : List Nat) (Am : Option Addr) (n cm gq : Nat) (As : Option Addr) (n2 cs : Nat) (l : List (Stp × SlB)) (vc : Value) (h : ClP.Held) : Fp :=
  ⟨es, fun _ _ => False, Am, cm, gq, As, cs, l.map (·.2), fun q => q < W.heap.size ∨ (Value.slice Am n cm).ownBlock = some q ∨ (Value.slice As n2 cs).ownBlock = some q, vc, [h], .slice none 0 0⟩
set_option maxHeartbeats 1000000 in
theorem made_both (K : Kc W ls ca gC n n gs es Ms Is w5) (hn : ls.length = n) (hn64 : n ≤ 64) (hl : l.length = n2) (hn2 : n2 ≤ 60) (hs : ∀ y ∈ l, StOk W y) (hp : ∀ y ∈ l, y.1.picks.length ≤ 200) (hc : h.1 ≤ ClP.most)
    (bb : Blk w5 gr 54 (buR Am n cm gq As n2 cs false (.slice none 0 0))) (o2 : OwnX 74 1 ptL w5 W.heap.size (.slice Am n cm) es) (o3 : OwnX 76 70 stL w5 W.heap.size (.slice As n2 cs) l)
    (eap : ∀ i q, i < n → Ms i q ∨ Is i q → q ∉ es ∧ q ≠ gr ∧ (Value.slice Am n cm).ownBlock ≠ some q ∧ (Value.slice As n2 cs).ownBlock ≠ some q)
    (z0 : W.heap.size ≤ a) (z1 : a ≤ s2) (z2 : s2 ≤ s4) (z3 : s4 ≤ w5.heap.size) (l1 : ∀ i q, i < n → Ms i q ∨ Is i q → q < a) (l2 : ∀ q ∈ es, q < a) (l6 : gC < a) (l3 : gr < a) (l3' : W.heap.size ≤ gr) (l4 : ∀ q, (Value.slice Am n cm).ownBlock = some q → q < a) (l5 : ∀ q, (Value.slice As n2 cs).ownBlock = some q → q < a)
    (rC : repCb w5 gk Mc [h] h) (c1 : ∀ q, Mc q → a ≤ q ∧ q < s2) (rq : ClP.Rc w5 gq vc [h] h) (q1 : s2 ≤ gq ∧ gq < s4) (q2 : ∀ q, vc.ownBlock = some q → s2 ≤ q ∧ q < s4)
    (ov : ∀ q, vst.ownBlock = some q → s4 ≤ q ∧ q < w5.heap.size)
    (sk : RepK 0 w6 g gs gk Mo Io (l.map (·.1)) false []) (m1 : ∀ q, Mo q → w5.heap.size ≤ q) (m2 : ∀ q, Io q → w5.heap.size ≤ q ∧ q < w6.heap.size ∨ q < W.heap.size) (m3 : ∀ q, Mo q → q < w6.heap.size ∧ ¬ Io q) (b6 : Below w5.heap.size w5 w6) (t7 : Turn (fun q => vst.ownBlock = some q) w6 w7) :
    Both (RepK 0) W.heap.size w7 g (mdF gs Ms Is gk Mc h Mo Io) 0 gr (mdE W es Am n cm gq As n2 cs l vc h) (mdB ls h l) := by
  have t57 : Turn (fun q => vst.ownBlock = some q) w5 w7 := (Turn.of_new (S := fun q => vst.ownBlock = some q) b6).trans t7 fun q e => .inl e
  have s6 := b6.size
  have s7 := t7.size
  have K7 := K.turn t57 (fun q e => by have := ov q e; omega) (fun e => by have := ov _ e; omega) (fun q hq e => by have := ov q e; have := l2 q hq; omega) fun i q hi e e2 => by have := ov q e2; have := l1 i q hi e; omega
  have hml : (ls.map mdOf).length = n := by rw [List.length_map, hn]
  have hsl : (l.map (·.1)).length = n2 := by rw [List.length_map, hl]
  have hgs : gs.length = n := K.len
  have smem : ∀ s ∈ l.map (·.1), ∃ y ∈ l, y.1 = s := fun s hs' => by
    obtain ⟨y, hy, e⟩ := List.mem_map.1 hs'
    exact ⟨y, hy, e⟩
  have hP : Pp (RepK 0) w7 g (mdF gs Ms Is gk Mc h Mo Io) 0 (mdB ls h l) := {
    skel := bus_ok.frame sk t7 fun q e e2 => by
      have := ov q e2
      rcases e with e | e
      · have := m1 q e; omega
      · rcases m2 q e with x | x <;> omega
    len := hgs.trans hml.symm
    mem := fun i gi st h1 h2 => by
      have h2' : (ls.map mdOf)[i]? = some st := h2
      rw [List.getElem?_map] at h2'
      cases hz : ls[i]? with
      | none => rw [hz] at h2'; cases h2'
      | some z =>
        rw [hz] at h2'
        cases h2'
        exact K7.mem i gi z h1 hz
    ok := ⟨fun st hst => by
      obtain ⟨z, _, rfl⟩ := List.mem_map.1 (show st ∈ ls.map mdOf from hst)
      exact made_ok _, fun s hs' => by
      obtain ⟨y, hy, rfl⟩ := smem s hs'
      exact (hs y hy).ok⟩
    cel := (cb_turn rC t57 fun q e e2 => by have := ov q e2; have := c1 q e; omega)
    olt := fun q e => by
      rcases e with e | e
      · have := (m3 q e).1; omega
      · rcases m2 q e with x | x <;> omega
    sep := fun q e e2 => by
      rcases e with e | ⟨i, hi, e⟩
      · replace e : Io q := e
        rcases e2 with e2 | e2 | ⟨j, hj, e2⟩
        · exact (m3 q e2).2 e
        · have := c1 q e2
          rcases m2 q e with x | x <;> omega
        · have := l1 j q (by rw [← hgs]; exact hj) (.inl e2)
          have := (K.lo j q (by rw [← hgs]; exact hj) (.inl e2)).1
          rcases m2 q e with x | x <;> omega
      · replace e : Is i q := e
        replace hi : i < n := by rw [← hgs]; exact hi
        have hq := l1 i q hi (.inr e)
        rcases e2 with e2 | e2 | ⟨j, hj, e2⟩
        · have := m1 q e2; omega
        · have := c1 q e2; omega
        · exact K.sep i j q hi (by rw [← hgs]; exact hj) e e2
    nd := fun i j q hi hj h1 h2 => K.nd i j q (by rw [← hgs]; exact hi) (by rw [← hgs]; exact hj) h1 h2
    mc := fun q e => by
      have := c1 q e
      exact ⟨fun e2 => by have := m1 q e2; omega, fun i hi e2 => by have := l1 i q (by rw [← hgs]; exact hi) (.inl e2); omega⟩
    mo := fun q e i hi e2 => by have := m1 q e; have := l1 i q (by rw [← hgs]; exact hi) (.inl e2); omega
    sz := ⟨by show (ls.map mdOf).length ≤ 64; omega, by show (l.map (·.1)).length ≤ 1000; omega, Nat.le_refl _, Nat.le_refl _, fun s hs' => by
      obtain ⟨y, hy, rfl⟩ := smem s hs'
      exact (hs y hy).few⟩
    cmx := hc }
  have hel : es.length = n := by have := K.ref.len; rw [List.length_map, List.length_take] at this; omega
  have S2 : Sli 1 ptL (fun b => (Value.slice Am n cm).ownBlock = some b) w5 Am es n cm := by
    obtain ⟨A, cap, e, s⟩ := o2.sli ptL_len
    rw [hel] at e s
    cases e
    exact sli_own s
  have S3 : Sli 70 stL (fun b => (Value.slice As n2 cs).ownBlock = some b) w5 As l n2 cs := by
    obtain ⟨A, cap, e, s⟩ := o3.sli stL_len
    rw [hl] at e s
    cases e
    exact sli_own s
  have hR : Rb w7 gr (mdE W es Am n cm gq As n2 cs l vc h) 0 (mdB ls h l) := {
    blk := by
      show Blk w7 gr _ (buR Am (ls.map mdOf).length cm gq As (l.map (·.1)).length cs false (.slice none 0 0))
      rw [hml, hsl]
      exact bb.turn t57 fun e => by have := ov gr e; omega
    arr := by
      show Sli 1 ptL _ w7 Am es (ls.map mdOf).length cm
      rw [hml]
      exact (S2.turn t57 fun q e _ e2 => by have := ov q e2; have := l4 q e; omega).mono fun q e => .inr (.inl e)
    mem := by
      have := K7.ref
      rw [List.take_of_length_le (by omega)] at this
      exact this
    cel := rq.turn t57 (fun e => by have := ov gq e; omega) fun q e e2 => by have := ov q e2; have := q2 q e; omega
    sll := by show (l.map (·.2)).length = (l.map (·.1)).length; rw [List.length_map, List.length_map]
    stp := by
      show Sli 70 stL _ w7 As ((l.map (·.1)).zip (l.map (·.2))) (l.map (·.1)).length cs
      rw [zip_maps', hsl]
      exact (S3.turn t57 fun q e _ e2 => by have := ov q e2; have := l5 q e; omega).mono fun q e => .inr (.inr e)
    pk := fun s x hx => by
      have hx' : (s, x) ∈ l := by rw [← zip_maps' l]; exact hx
      have k := hs _ hx'
      have k2 := hp _ hx'
      refine ⟨(k.arg.turn (Turn.of_below K.low) fun q o h1 h2 e => ?_).turn t57 fun q o h1 h2 e => ?_, Nat.le_trans k2 (by omega), fun q o h1 h2 => .inl (k.old q o h1 h2)⟩
      · have := k.old q o h1 h2; omega
      · have := k.old q o h1 h2; have := ov q e; omega
    log := OwnX.nil _ _ _ _ _
    rlt := fun q e => by
      rcases e with e | e | e
      · omega
      · have := l4 q e; omega
      · have := l5 q e; omega
    sep := fun q e e2 => by
      have e' : q < W.heap.size ∨ (Value.slice Am n cm).ownBlock = some q ∨ (Value.slice As n2 cs).ownBlock = some q := by
        rcases e with e | ⟨j, _, e⟩
        · exact e
        · exact e.elim
      rcases e2 with e2 | e2 | e2 | e2 | e2
      · subst e2
        rcases e' with x | x | x
        · omega
        · exact own_not o2 bb (by decide) x
        · exact own_not o3 bb (by decide) x
      · have := K.elo q e2
        obtain ⟨cs', hc'⟩ := K.es_obj e2
        rcases e' with x | x | x
        · omega
        · exact own_not o2 hc' (by decide) x
        · exact own_not o3 hc' (by decide) x
      · have e2 : q = gq := e2
        rcases e' with x | x | x
        · omega
        · have := l4 q x; omega
        · have := l5 q x; omega
      · have := q2 q e2
        rcases e' with x | x | x
        · omega
        · have := l4 q x; omega
        · have := l5 q x; omega
      · cases e2
    sz := ⟨by show (ls.map mdOf).length ≤ 100; omega, by show (l.map (·.1)).length ≤ 1000; omega, Nat.le_refl _, Nat.le_refl _⟩
    cmx := hc }
  have lowP : ∀ q, mutP (mdF gs Ms Is gk Mc h Mo Io) q → Mo q ∨ Mc q ∨ ∃ i, i < n ∧ Ms i q := fun q e => by
    rcases e with e | e | ⟨i, hi, e⟩
    · exact .inl e
    · exact .inr (.inl e)
    · exact .inr (.inr ⟨i, by rw [← hgs]; exact hi, e⟩)
  have mutR' : ∀ q, mutR gr (mdE W es Am n cm gq As n2 cs l vc h) q → q = gr ∨ q ∈ es ∨ q = gq ∨ vc.ownBlock = some q := fun q e => by
    rcases e with e | e | e | e | e
    · exact .inl e
    · exact .inr (.inl e)
    · exact .inr (.inr (.inl e))
    · exact .inr (.inr (.inr e))
    · cases e
  refine ⟨hP, hR, fun q e e2 => ?_, fun q e e2 => ?_, fun q e => ?_, by omega⟩
  · have e2' : (q = gr ∨ q ∈ es ∨ q = gq ∨ vc.ownBlock = some q) ∨ (q < W.heap.size ∨ (Value.slice Am n cm).ownBlock = some q ∨ (Value.slice As n2 cs).ownBlock = some q) := by
      rcases e2 with e2 | e2 | ⟨j, _, e2⟩
      · exact .inl (mutR' q e2)
      · exact .inr e2
      · exact e2.elim
    have hq : q < s4 := by
      rcases e2' with (x | x | x | x) | (x | x | x)
      · omega
      · have := l2 q x; omega
      · omega
      · have := q2 q x; omega
      · omega
      · have := l4 q x; omega
      · have := l5 q x; omega
    rcases lowP q e with e | e | ⟨i, hi, e⟩
    · have := m1 q e; omega
    · have := c1 q e
      rcases e2' with (x | x | x | x) | (x | x | x)
      · omega
      · have := l2 q x; omega
      · omega
      · have := q2 q x; omega
      · omega
      · have := l4 q x; omega
      · have := l5 q x; omega
    · have h1 := l1 i q hi (.inl e)
      have h2 := (K.lo i q hi (.inl e)).1
      obtain ⟨p1, p2, p3, p4⟩ := eap i q hi (.inl e)
      rcases e2' with (x | x | x | x) | (x | x | x)
      · exact p2 x
      · exact p1 x
      · omega
      · have := q2 q x; omega
      · omega
      · exact p3 x
      · exact p4 x
  · rcases e2 with e2 | ⟨i, hi, e2⟩
    · replace e2 : Io q := e2
      have h1 : W.heap.size ≤ q ∧ q < s4 := by
        rcases mutR' q e with x | x | x | x
        · omega
        · have := l2 q x; have := K.elo q x; omega
        · omega
        · have := q2 q x; omega
      rcases m2 q e2 with x | x <;> omega
    · replace e2 : Is i q := e2
      replace hi : i < n := by rw [← hgs]; exact hi
      have h1 := l1 i q hi (.inr e2)
      obtain ⟨p1, p2, p3, p4⟩ := eap i q hi (.inr e2)
      rcases mutR' q e with x | x | x | x
      · exact p2 x
      · exact p1 x
      · omega
      · have := q2 q x; omega
  · rcases e with e | e
    · rcases lowP q e with e | e | ⟨i, hi, e⟩
      · have := m1 q e; omega
      · have := c1 q e; omega
      · exact (K.lo i q hi (.inl e)).1
    · rcases mutR' q e with x | x | x | x
      · omega
      · exact K.elo q x
      · omega
      · have := q2 q x; omega
/-- What New tells of it all. -/
def NewP (W w5 : World) (gs : List Nat) (gk n : Nat) (l : List (Stp × SlB)) (v1 : Value) (er : Int) (w6 : World) : Prop :=
  ((n < 1 ∨ 64 < n) ∧ v1 = .pointer none ∧ er = 2) ∨
  ∃ g Mo Io, (1 ≤ n ∧ n ≤ 64) ∧ v1 = MbP.at' g ∧ er = 0 ∧ RepK 0 w6 g gs gk Mo Io (l.map (·.1)) false [] ∧ (∀ q, Mo q → w5.heap.size ≤ q) ∧ (∀ q, Io q → w5.heap.size ≤ q ∧ q < w6.heap.size ∨ q < W.heap.size) ∧ ∀ q, Mo q → q < w6.heap.size ∧ ¬ Io q
theorem new13 {Av Ast : Option Addr} {cv cst : Nat} {S S' : Nat → Prop} (K : Kc W ls ca gC n n gs es Ms Is w5) (hn : ls.length = n) (hn70 : n ≤ 70) (hl : l.length = n2) (hn2 : n2 ≤ 60) (hs : ∀ y ∈ l, StOk W y) (sv : Sli 1 ptL S w5 Av gs n cv) (rC : repCb w5 gk Mc [h] h) (sst : Sli 70 stL S' w5 Ast l n2 cst) :
    Calls Tryz.prog 23 #[.slice Av n cv, MbP.at' gk, .slice Ast n2 cst] w5 fun e w6 => ∃ v1 er, e = .returned (.tuple #[v1, .int .i64 er]) ∧ NewP W w5 gs gk n l v1 er w6 ∧ Below w5.heap.size w5 w6 := by
  have hml : (ls.map mdOf).length = n := by rw [List.length_map, hn]
  have hgs : gs.length = (ls.map mdOf).length := by rw [hml]; exact K.len
  have mem : ∀ (i gi : Nat) (st : St), gs[i]? = some gi → (ls.map mdOf)[i]? = some st → RepM w5 gi (Ms i) (Is i) 0 st ∧ 1 ≤ st.n := fun i gi st h1 h2 => by
    rw [List.getElem?_map] at h2
    cases hz : ls[i]? with
    | none => rw [hz] at h2; cases h2
    | some z =>
      rw [hz] at h2
      cases h2
      exact ⟨K.mem i gi z h1 hz, (nOf_bd z).1⟩
  have sst' : Sli 70 stL S' w5 Ast ((l.map (·.1)).zip (l.map (·.2))) n2 cst := by rw [zip_maps']; exact sst
  by_cases hr : 1 ≤ n ∧ n ≤ 64
  · refine (bus_ok.new (S := fun _ => True) (Sp := fun q => q < W.heap.size) (sv.mono fun _ _ => trivial) hgs mem hr.1 hr.2 rC (sst'.mono fun _ _ => trivial) (by rw [List.length_map, List.length_map]) (by omega) (fun s x hx => ?_)).mono ?_
    · rw [zip_maps'] at hx
      have k := hs _ hx
      exact ⟨k.arg.turn (Turn.of_below K.low) fun q o h1 h2 e => by have := k.old q o h1 h2; omega, k.few, k.ok, fun q o h1 h2 => k.old q o h1 h2⟩
    · rintro e w6 ⟨g, Mo, Io, rfl, h1, h2, h3, h4, h5⟩
      exact ⟨_, 0, rfl, .inr ⟨g, Mo, Io, hr, rfl, rfl, h1, h2, h3, h4⟩, h5⟩
  · refine (bus_ok.bad (S := fun _ => True) (sv.mono fun _ _ => trivial) hgs mem (by omega) (by omega) rC (sst'.mono fun _ _ => trivial) (by rw [List.length_map, List.length_map]) (by omega)).mono ?_
    rintro e w6 ⟨rfl, h5⟩
    exact ⟨_, 2, rfl, .inl ⟨by omega, rfl, rfl⟩, h5⟩
end
end BuP
end Go.Proofs.YthogklchmhjjkaaGreat
