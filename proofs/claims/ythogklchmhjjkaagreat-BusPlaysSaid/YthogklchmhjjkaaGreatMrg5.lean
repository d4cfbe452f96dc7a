/-
  The document's Advance of a bus.
  The document's Write and Flush of a bus.
  Maps of sectors by their places: a block that reads as a function of the place; looked up, written, struck out, cloned.
  Contracts of what the program's member is made of: a sector put into an image, an image's clone, whether a sector is there, the closures.
  The program's member in memory; the calls that turn nothing of it, or one cell.
-/
import Derived.Test.YthogklchmhjjkaaGreatMrg4
import Derived.MapKept
import Derived.Laws.Externs
set_option linter.unusedVariables false
set_option linter.unusedSimpArgs false
set_option maxRecDepth 100000
namespace Go.Proofs.YthogklchmhjjkaaGreat
open Go.ChangeShapes Go.WideShapes Go.ChangeAt Go.RowKit
attribute [local go_sem] Gives GivesE
namespace BuP
open BuM MbM MbP
set_option maxHeartbeats 2000000 in
set_option maxRecDepth 100000 in
theorem badv_any {w : World} {g k : Nat} {F : Fp} {b : Bs} (H : Rb w g F k b) (hk : k + b.steps.length + 2 ≤ 8000) (t : Nat → Nat) : Calls Tryz.prog 30 #[MbP.at' g, .agg (ar 32 t)] w fun e w' =>
    e = .returned (.tuple #[.int .u64 (BuM.adN (BuM.ahead b)), .int .i64 (BuM.adB (BuM.ahead b) t).e]) ∧ outB w g F (k + b.steps.length + 2) (BuM.adT b t) w' := by
  have I0 := hid (IoS.start H)
  clear H
  unfold MbP.at'
  go_enter Tryz.func30, Tryz.ntmps30
  go_upto_region 1 with fail
  generalize hw1 : World.alloc w _ = w1
  have i1 := I0.out.var (w' := w1) (by rw [← hw1]; exact (Below.refl _ _).alloc (Nat.le_refl _) _) (by rw [← hw1]; simp)
  have r1 : Blk w1 w.heap.size 25 (ar 32 t) := by rw [← hw1]; exact Blk.new _ _ _
  obtain ⟨gR, hgR⟩ : ∃ n, n = w.heap.size := ⟨_, rfl⟩
  rw [← hgR] at i1 r1 ⊢
  have I := hid i1
  have R := hid r1
  clear hw1 I0 hgR i1 r1
  go_wp2_with fail
  refine (rahead_any I.out.rb (by omega)).mono ?_
  rintro e w2 ⟨rfl, Ls', r2, l2, t2⟩
  obtain ⟨i2, u2⟩ := I.out.ahead r2 l2 t2
  replace R := hid (I.out.keep (.inl rfl) R.out u2)
  clear I r2 l2 t2 u2
  obtain ⟨F2, hF2⟩ : ∃ x, x = ({ F with Ls := Ls' } : Fp) := ⟨_, rfl⟩
  obtain ⟨b2, hb2⟩ : ∃ x, x = BuM.ahead b := ⟨_, rfl⟩
  obtain ⟨k2, hk2⟩ : ∃ x, x = k + b.steps.length := ⟨_, rfl⟩
  have HB := hid hb2
  have HK := hid hk2
  rw [← hF2, ← hb2, ← hk2] at i2
  rw [← hk2] at hk
  have I := hid i2
  clear i2 hF2 hb2 hk2
  go_wp2_with ((with_reducible apply ldA ClP.tTg); rfl; exact R.out)
  refine (sector_any t w2).mono ?_
  rintro e wb ⟨rfl, hb⟩
  replace R := hid (R.out.below hb R.out.lt)
  replace I := hid (I.out.below hb)
  clear hb
  go_upto_region 3 with (first | ((with_reducible apply wblAd (s := BuM.pad t)); rfl) | (with_reducible apply alZ' zEn) | ((with_reducible apply stR (tEn ⟨5, 0, 0, BuM.pad t, 0⟩)); rfl; rfl; exact Blk.new _ _ _; exact en_size _ _; exact en_one' _))
  generalize hw3 : World.setRow _ _ _ = w3
  have b3 : Below wb.heap.size wb w3 := by rw [← hw3]; exact below_setRow ((Below.refl _ _).alloc (Nat.le_refl _) _) (Nat.le_refl _) _
  have i3 := I.out.var b3 (by rw [← hw3]; simp)
  have e3 : Blk w3 wb.heap.size 59 (enL ⟨5, 0, 0, BuM.pad t, 0⟩).toArray := by rw [← hw3]; exact (Blk.new wb _ _).setRow_same _
  replace R := hid (R.out.below b3 R.out.lt)
  obtain ⟨gE, hgE⟩ : ∃ n, n = wb.heap.size := ⟨_, rfl⟩
  rw [← hgE] at i3 e3 ⊢
  clear I
  have I := hid i3
  have E := hid e3
  clear hw3 b3 i3 e3 hgE
  have hRE := hid (R.out.neT E.out (by decide))
  have q3 : w3.cell? ⟨g, 3, none⟩ = some (.bool b2.off) := bu_off I.out.rb.blk
  cases hoff : b2.off with
  | true =>
    rw [hoff] at q3
    have HX := hid (show BuM.adB b2 t = ⟨5, 0, 0, BuM.pad t, 13⟩ by unfold BuM.adB BuM.adE; rw [hoff, if_pos rfl])
    have HN := hid (show BuM.adN b2 = 0 by unfold BuM.adN; rw [hoff, if_pos rfl])
    have HM := hid (show BuM.adM b2 t = b2 by unfold BuM.adM; rw [hoff, if_pos rfl])
    have q67 : w3.cell? ⟨gE, 67, none⟩ = some (.int .i64 0) := en_qe E.out
    have fz := E.out.frozen 67
    clear hoff
    go_upto_region 7 with fail
    have tu := Turn.setCell (S := fun q => q = gE) w3 ⟨gE, 67, none⟩ (.int .i64 13) rfl
    replace E := hid (en_setE E.out 13)
    replace I := hid (I.out.set (.inl rfl) tu)
    clear tu q67 fz q3 R hRE
    generalize World.setCell w3 _ _ = w9 at I E ⊢
    obtain ⟨Al, cl, hvl, _⟩ := I.out.rb.log.sli enL_len
    have HVL := hid hvl
    obtain ⟨nl, hnl⟩ : ∃ n, n = (b2).log.length := ⟨_, rfl⟩
    have HNL := hid hnl
    have HV := hid (show (F2).vl = .slice Al nl cl by rw [hnl]; exact hvl)
    have hnl2 := hid (show nl ≤ 9000 by rw [hnl]; have := I.out.rb.sz.2.2.2; omega)
    have C3 := hid I.out.rb.blk
    have Q5 := hid (show w9.cell? ⟨g, 4, none⟩ = some (.slice Al nl cl) by rw [← HV.out]; exact bu_lg I.out.rb.blk)
    have gEne := hid (show gE ≠ g from fun e => (I.out.vr gE (.inl rfl)).2.2.1 (.inl e))
    have V3 := hid (show (Value.slice Al nl cl).ownBlock ≠ some gE by rw [← HV.out]; exact fun e => (I.out.vr gE (.inl rfl)).2.2.1 (.inr (.inr (.inr (.inr e)))))
    have G3 := hid (show (Value.slice Al nl cl).ownBlock ≠ some g by rw [← HV.out]; exact I.out.rb.g_vl)
    have O3 := hid (show OwnX 59 68 enL w9 0 (.slice Al nl cl) (b2).log by rw [← HV.out]; exact I.out.rb.log)
    clear hvl hnl
    refine wp_region_c (S := yS [some (.pointer (some ⟨g, 0, none⟩)), some (.pointer (some ⟨g, 0, none⟩)), some (.pointer (some ⟨g, 0, none⟩)), some (.pointer (some ⟨g, 4, none⟩)), some (.slice Al nl cl), some (.agg (enL ⟨5, 0, 0, BuM.pad t, 13⟩).toArray), none, none, some (.pointer (some ⟨g, 0, none⟩)), some (.pointer (some ⟨g, 4, none⟩))]
        [(6, kSl 1), (7, kSl (nl + 1))]) (C := fun d vs w' => ApC 59 68 enL w9 (.slice Al nl cl) (b2).log (⟨5, 0, 0, BuM.pad t, 13⟩) (d 6) (d 7) (vs 6) (vs 7) w') 10 (by kernel_rfl) (by kernel_rfl) (by kernel_rfl) _
      (yS_ok _ fun y hy => by simp only [List.mem_cons, List.not_mem_nil, or_false] at hy; rcases hy with rfl | rfl <;> exact kSl_ok _) ⟨Turn.drew _, fun _ => (Below.refl _ _).drew, (fun e => by cases e), (fun e => by cases e)⟩ fun vs => ?_
    simp only [List.take_succ_cons, List.take_zero, List.drop_succ_cons, List.drop_zero]
    refine ⟨.inl ⟨rfl, fun dd w' hd hnx hw hC => ?_⟩, fun e => ?_⟩
    · go_simp
      first | exact ⟨rfl, hC⟩ | exact hC
    have e' : vs 0 = _ := e
    rw [e']
    clear e e'
    simp only [Act.put, List.setIfInBounds_toArray, List.set_cons_succ, List.set_cons_zero]
    refine ⟨.inl ⟨rfl, fun dd w' hd hnx hw hC => ?_⟩, fun e => ?_⟩
    · go_simp
      first | exact ⟨rfl, hC⟩ | exact hC
    have e' : vs 1 = _ := e
    rw [e']
    clear e e'
    simp only [Act.put, List.setIfInBounds_toArray, List.set_cons_succ, List.set_cons_zero]
    refine ⟨.inl ⟨rfl, fun dd w' hd hnx hw hC => ?_⟩, fun e => ?_⟩
    · go_simp
      first | exact ⟨rfl, hC⟩ | exact hC
    have e' : vs 2 = _ := e
    rw [e']
    clear e e'
    simp only [Act.put, List.setIfInBounds_toArray, List.set_cons_succ, List.set_cons_zero]
    refine ⟨.inl ⟨rfl, fun dd w' hd hnx hw hC => ?_⟩, fun e => ?_⟩
    · go_simp
      first | exact ⟨rfl, hC⟩ | exact hC
    have e' : vs 3 = _ := e
    rw [e']
    clear e e'
    simp only [Act.put, List.setIfInBounds_toArray, List.set_cons_succ, List.set_cons_zero]
    refine ⟨.inl ⟨rfl, fun dd w' hd hnx hw hC => ?_⟩, fun e => ?_⟩
    · have h1 : w'.cell? ⟨g, 4, none⟩ = some (.slice Al nl cl) := hC.t.cell (p := ⟨g, 4, none⟩) Q5.out G3.out
      go_simp
      first | exact ⟨rfl, hC⟩ | exact hC
    have e' : vs 4 = _ := e
    rw [e']
    clear e e'
    simp only [Act.put, List.setIfInBounds_toArray, List.set_cons_succ, List.set_cons_zero]
    refine ⟨.inl ⟨rfl, fun dd w' hd hnx hw hC => ?_⟩, fun e => ?_⟩
    · exact ClP.gE_ldR (cs := (enL ⟨5, 0, 0, BuM.pad t, 13⟩).toArray) (tEn ⟨5, 0, 0, BuM.pad t, 13⟩) rfl (E.out.turn hC.t V3.out).whole ⟨rfl, hC⟩
    have e' : vs 5 = _ := e
    rw [e']
    clear e e'
    simp only [Act.put, List.setIfInBounds_toArray, List.set_cons_succ, List.set_cons_zero]
    refine ⟨.inl ⟨rfl, fun dd w' hd hnx hw hC => ?_⟩, fun e => ?_⟩
    · have h8 : dd 7 = false := hnx 7 (by kernel_rfl)
      have ha := (Below.refl w'.heap.size w').alloc (Nat.le_refl _) (.cells (enL ⟨5, 0, 0, BuM.pad t, 13⟩).toArray 59)
      have hbl := hC.b h8
      exact gE_lit1 (x := (⟨5, 0, 0, BuM.pad t, 13⟩ : Ent)) eltEnR undEnR (by omega) rfl rfl ⟨⟨_, _, rfl⟩, hC.t.trans (Turn.of_new (S := fun _ => False) ha) (fun _ e => e.elim), (fun _ => hbl.trans (ha.mono hbl.size)), (fun _ _ => ⟨_, _, rfl, sli_lit1 eltEnR (⟨5, 0, 0, BuM.pad t, 13⟩ : Ent) w' hbl.size⟩), fun e => by
        have e' : dd 7 = true := e
        rw [h8] at e'; cases e'⟩
    obtain ⟨A7, c7, e'⟩ : ∃ (A : Option Addr) (c : Nat), vs 6 = .slice A 1 c := e
    rw [e']
    have E7 := hid e'
    clear e'
    simp only [Act.put, List.setIfInBounds_toArray, List.set_cons_succ, List.set_cons_zero]
    refine ⟨.inl ⟨rfl, fun dd w' hd hnx hw hC => ?_⟩, fun e => ?_⟩
    · have h7 : dd 6 = true := hw 6 (by kernel_rfl)
      have hbl := hC.b hd
      obtain ⟨A', c', f, sl⟩ := hC.lit h7 hd
      rw [E7.out] at f
      cases f
      have hlen := hid (show (b2).log.length = nl from HNL.out.symm)
      refine gE_appW eltEnR undEnR (B := 0) (v := .slice Al nl cl) (l := (b2).log) (m := [(⟨5, 0, 0, BuM.pad t, 13⟩ : Ent)]) rfl rfl (O3.out.below hbl (Nat.le_refl _)) sl (by have := hlen.out; have := hnl2.out; omega) (by omega) (Nat.zero_le _) fun v' w4 o4 g4 wh => ?_
      obtain ⟨A4, c4, rfl, _⟩ := o4.sli enL_len
      refine ⟨⟨A4, c4, by rw [List.length_append, hlen.out]; rfl⟩, ?_⟩
      exact ⟨(Turn.of_new (S := fun b => (Value.slice Al nl cl).ownBlock = some b) hbl).trans (Turn.of_grown (S := fun b => (Value.slice Al nl cl).ownBlock = some b) g4 fun b e => e) (fun b e => .inl e), (fun e => by cases e), (fun _ e => by cases e), fun _ => ⟨o4, fun b e => by
        have e3 : (Value.slice A4 ((b2).log ++ [(⟨5, 0, 0, BuM.pad t, 13⟩ : Ent)]).length c4).ownBlock = some b := e
        rcases wh with x | x
        · exact .inl (x.symm.trans e3)
        · rw [x] at e3; cases e3; exact .inr hbl.size⟩⟩
    obtain ⟨A8, c8, e'⟩ : ∃ (A : Option Addr) (c : Nat), vs 7 = .slice A (nl + 1) c := e
    rw [e']
    have E8 := hid e'
    clear e'
    simp only [Act.put, List.setIfInBounds_toArray, List.set_cons_succ, List.set_cons_zero]
    refine ⟨.inl ⟨rfl, fun dd w' hd hnx hw hC => ?_⟩, fun e => ?_⟩
    · go_simp
      first | exact ⟨rfl, hC⟩ | exact hC
    have e' : vs 8 = _ := e
    rw [e']
    clear e e'
    simp only [Act.put, List.setIfInBounds_toArray, List.set_cons_succ, List.set_cons_zero]
    refine ⟨.inl ⟨rfl, fun dd w' hd hnx hw hC => ?_⟩, fun e => ?_⟩
    · go_simp
      first | exact ⟨rfl, hC⟩ | exact hC
    have e' : vs 9 = _ := e
    rw [e']
    clear e e'
    simp only [Act.put, List.setIfInBounds_toArray, List.set_cons_succ, List.set_cons_zero]
    intro dd w4 hall hC
    obtain ⟨o4, wh⟩ := hC.own (hall 7 (by omega))
    rw [E8.out] at o4 wh
    have bb := C3.out.turn hC.t G3.out
    have tu5 := Turn.setCell (S := fun b => b = g) w4 ⟨g, 4, none⟩ (.slice A8 (nl + 1) c8) rfl
    have hne4 : ∀ b, (Value.slice A8 (nl + 1) c8).ownBlock = some b → b ≠ g := fun b e e2 => by
      rcases wh b e with x | x
      · exact G3.out (by rw [x, e2])
      · have := C3.out.lt; omega
    have T5 := hid (show Turn (fun q => q = g ∨ (F2).vl.ownBlock = some q) w9 (w4.setCell ⟨g, 4, none⟩ (.slice A8 (nl + 1) c8)) from
      (hC.t.mono (T := fun q => q = g ∨ (F2).vl.ownBlock = some q) fun q e => .inr (by rw [HV.out]; exact e)).trans tu5 fun q e => .inl (.inl e))
    obtain ⟨i5, u5⟩ := I.out.logged (x := ⟨5, 0, 0, BuM.pad t, 13⟩) T5.out (bu_setLg bb _) (o4.turn tu5 hne4) (fun q e => (wh q e).imp (fun x => by rw [HV.out]; exact x) id)
    have E5 := hid ((E.out.turn hC.t V3.out).turn tu5 gEne.out)
    have I5 := hid i5
    have U := hid u5
    have p4 : w4.cell? ⟨g, 4, none⟩ = some (.slice Al nl cl) := by rw [← HV.out]; exact bu_lg bb
    have fz := bb.frozen 4
    clear I E hC o4 wh hall E7 E8 tu5 hne4 C3 Q5 V3 G3 O3 hnl2 HVL HNL HV bb i5 u5 gEne T5
    go_upto_region 8 with fail
    clear p4 fz
    have I := I5
    have E := E5
    clear I5 E5
    generalize World.setCell w4 _ _ = wa at I E U ⊢
    refine wp_region_tail (C := fun w' => Below wa.heap.size wa w') 5 (by kernel_rfl) (by kernel_rfl) (by kernel_rfl) (Below.refl _ _).drew ?_
    simp only [List.take_succ_cons, List.take_zero, List.drop_succ_cons, List.drop_zero]
    apply wpK_val
    · rfl
    · intro w' hw'
      go_simp
      first | exact rfl | exact ⟨rfl, hw'⟩
    simp only [Act.put, List.setIfInBounds_toArray, List.set_cons_succ, List.set_cons_zero]
    apply wpK_val
    · rfl
    · intro w' hw'
      go_simp
      first | exact rfl | exact ⟨rfl, hw'⟩
    simp only [Act.put, List.setIfInBounds_toArray, List.set_cons_succ, List.set_cons_zero]
    apply wpK_val
    · rfl
    · intro w' hw'
      have hcell := en_qe (E.out.below hw' E.out.lt)
      go_simp
      first | exact rfl | exact ⟨rfl, hw'⟩
    simp only [Act.put, List.setIfInBounds_toArray, List.set_cons_succ, List.set_cons_zero]
    apply wpK_val
    · rfl
    · intro w' hw'
      go_simp
      first | exact rfl | exact ⟨rfl, hw'⟩
    simp only [Act.put, List.setIfInBounds_toArray, List.set_cons_succ, List.set_cons_zero]
    apply wpK_val
    · rfl
    · intro w' hw'
      go_simp
      first | exact rfl | exact ⟨rfl, hw'⟩
    simp only [Act.put, List.setIfInBounds_toArray, List.set_cons_succ, List.set_cons_zero]
    intro wz hC2
    replace I := hid (I.out.below hC2)
    clear hC2 E U
    go_wp2_with fail
    go_ret2
    have h1 := HB.out
    have h2 := HX.out
    have h3 := HK.out
    have h4 := HM.out
    have h5 := HN.out
    unfold BuM.adT
    rw [← h1, h4, h2, h5]
    exact ⟨rfl, (I.out.mono (by omega)).out⟩
  | false =>
    rw [hoff] at q3
    have q1 : w3.cell? ⟨g, 1, none⟩ = some (.pointer (some ⟨F2.gc, 0, none⟩)) := bu_c I.out.rb.blk
    have RC := hid I.out.rb.cel
    have hh := hid I.out.rb.sz.2.2.1
    have hgg := hid (show ¬ ClP.rSet F2.gc F2.vc g from fun e => e.elim I.out.rb.g_gc I.out.rb.g_vc)
    have hRg := hid (show ¬ ClP.rSet F2.gc F2.vc gR from fun e => (I.out.vr gR (.inr (.inl rfl))).2.2.1 (.inr (.inr (e.imp id .inl))))
    go_upto_region 6 with fail
    by_cases hf : b2.c.1 = ClP.most
    · have HX := hid (show BuM.adB b2 t = ⟨5, 0, 0, BuM.pad t, 15⟩ by unfold BuM.adB BuM.adE BuM.full; rw [hoff, if_neg Bool.false_ne_true, if_pos (by simpa using hf)])
      have HN := hid (show BuM.adN b2 = 0 by unfold BuM.adN BuM.full; rw [hoff, if_neg Bool.false_ne_true, if_pos (by simpa using hf)])
      have HM := hid (show BuM.adM b2 t = b2 by unfold BuM.adM BuM.full; rw [hoff, if_neg Bool.false_ne_true, if_pos (by simpa using hf)])
      have HF := hid hf
      clear hoff hf
      refine wp_region_tail (C := fun w' => Below w3.heap.size w3 w') 11 (by kernel_rfl) (by kernel_rfl) (by kernel_rfl) (Below.refl _ _).drew ?_
      simp only [List.take_succ_cons, List.take_zero, List.drop_succ_cons, List.drop_zero]
      apply wpK_val
      · rfl
      · intro w' hw'
        go_simp
        first | exact rfl | exact ⟨rfl, hw'⟩
      simp only [Act.put, List.setIfInBounds_toArray, List.set_cons_succ, List.set_cons_zero]
      apply wpK_val
      · rfl
      · intro w' hw'
        go_simp
        first | exact rfl | exact ⟨rfl, hw'⟩
      simp only [Act.put, List.setIfInBounds_toArray, List.set_cons_succ, List.set_cons_zero]
      apply wpK_val
      · rfl
      · intro w' hw'
        go_simp
        first | exact rfl | exact ⟨rfl, hw'⟩
      simp only [Act.put, List.setIfInBounds_toArray, List.set_cons_succ, List.set_cons_zero]
      apply wpK_val
      · rfl
      · intro w' hw'
        have hcell := (hw'.cell (p := ⟨g, 1, none⟩) (World.block_lt_of_cell? w3 _ q1)).trans q1
        go_simp
        first | exact rfl | exact ⟨rfl, hw'⟩
      simp only [Act.put, List.setIfInBounds_toArray, List.set_cons_succ, List.set_cons_zero]
      apply kldA ClP.tTg
      · rfl
      · rfl
      · exact fun w' hw' => (R.out.below hw' R.out.lt).head
      simp only [Act.put, List.setIfInBounds_toArray, List.set_cons_succ, List.set_cons_zero]
      apply wpK_val
      · rfl
      · intro w' hw'
        go_simp
        refine (ClP.radv_full (RC.out.below hw') HF.out t).mono ?_
        rintro e w5 ⟨rfl, h5⟩
        exact ⟨rfl, hw'.trans (h5.mono hw'.size)⟩
      simp only [Act.put, List.setIfInBounds_toArray, List.set_cons_succ, List.set_cons_zero]
      apply wpK_val
      · rfl
      · intro w' hw'
        go_simp
        first | exact rfl | exact ⟨rfl, hw'⟩
      simp only [Act.put, List.setIfInBounds_toArray, List.set_cons_succ, List.set_cons_zero]
      apply wpK_val
      · rfl
      · intro w' hw'
        go_simp
        first | exact rfl | exact ⟨rfl, hw'⟩
      simp only [Act.put, List.setIfInBounds_toArray, List.set_cons_succ, List.set_cons_zero]
      apply wpK_val
      · rfl
      · intro w' hw'
        go_simp
        first | exact rfl | exact ⟨rfl, hw'⟩
      simp only [Act.put, List.setIfInBounds_toArray, List.set_cons_succ, List.set_cons_zero]
      apply wpK_val
      · rfl
      · intro w' hw'
        go_simp
        first | exact rfl | exact ⟨rfl, hw'⟩
      simp only [Act.put, List.setIfInBounds_toArray, List.set_cons_succ, List.set_cons_zero]
      apply wpK_val
      · rfl
      · intro w' hw'
        go_simp
        first | exact rfl | exact ⟨rfl, hw'⟩
      simp only [Act.put, List.setIfInBounds_toArray, List.set_cons_succ, List.set_cons_zero]
      intro w5 hC5
      replace E := hid (E.out.below hC5 E.out.lt)
      replace I := hid (I.out.below hC5)
      clear hC5 q1 q3 RC hh hgg hRg R hRE HF
      have q67 : w5.cell? ⟨gE, 67, none⟩ = some (.int .i64 0) := en_qe E.out
      have fz := E.out.frozen 67
      go_upto_region 7 with fail
      have tu := Turn.setCell (S := fun q => q = gE) w5 ⟨gE, 67, none⟩ (.int .i64 15) rfl
      replace E := hid (en_setE E.out 15)
      replace I := hid (I.out.set (.inl rfl) tu)
      clear tu q67 fz
      generalize World.setCell w5 _ _ = w9 at I E ⊢
      obtain ⟨Al, cl, hvl, _⟩ := I.out.rb.log.sli enL_len
      have HVL := hid hvl
      obtain ⟨nl, hnl⟩ : ∃ n, n = (b2).log.length := ⟨_, rfl⟩
      have HNL := hid hnl
      have HV := hid (show (F2).vl = .slice Al nl cl by rw [hnl]; exact hvl)
      have hnl2 := hid (show nl ≤ 9000 by rw [hnl]; have := I.out.rb.sz.2.2.2; omega)
      have C3 := hid I.out.rb.blk
      have Q5 := hid (show w9.cell? ⟨g, 4, none⟩ = some (.slice Al nl cl) by rw [← HV.out]; exact bu_lg I.out.rb.blk)
      have gEne := hid (show gE ≠ g from fun e => (I.out.vr gE (.inl rfl)).2.2.1 (.inl e))
      have V3 := hid (show (Value.slice Al nl cl).ownBlock ≠ some gE by rw [← HV.out]; exact fun e => (I.out.vr gE (.inl rfl)).2.2.1 (.inr (.inr (.inr (.inr e)))))
      have G3 := hid (show (Value.slice Al nl cl).ownBlock ≠ some g by rw [← HV.out]; exact I.out.rb.g_vl)
      have O3 := hid (show OwnX 59 68 enL w9 0 (.slice Al nl cl) (b2).log by rw [← HV.out]; exact I.out.rb.log)
      clear hvl hnl
      refine wp_region_c (S := yS [some (.pointer (some ⟨g, 0, none⟩)), some (.pointer (some ⟨g, 0, none⟩)), some (.pointer (some ⟨g, 0, none⟩)), some (.pointer (some ⟨g, 4, none⟩)), some (.slice Al nl cl), some (.agg (enL ⟨5, 0, 0, BuM.pad t, 15⟩).toArray), none, none, some (.pointer (some ⟨g, 0, none⟩)), some (.pointer (some ⟨g, 4, none⟩))]
          [(6, kSl 1), (7, kSl (nl + 1))]) (C := fun d vs w' => ApC 59 68 enL w9 (.slice Al nl cl) (b2).log (⟨5, 0, 0, BuM.pad t, 15⟩) (d 6) (d 7) (vs 6) (vs 7) w') 10 (by kernel_rfl) (by kernel_rfl) (by kernel_rfl) _
        (yS_ok _ fun y hy => by simp only [List.mem_cons, List.not_mem_nil, or_false] at hy; rcases hy with rfl | rfl <;> exact kSl_ok _) ⟨Turn.drew _, fun _ => (Below.refl _ _).drew, (fun e => by cases e), (fun e => by cases e)⟩ fun vs => ?_
      simp only [List.take_succ_cons, List.take_zero, List.drop_succ_cons, List.drop_zero]
      refine ⟨.inl ⟨rfl, fun dd w' hd hnx hw hC => ?_⟩, fun e => ?_⟩
      · go_simp
        first | exact ⟨rfl, hC⟩ | exact hC
      have e' : vs 0 = _ := e
      rw [e']
      clear e e'
      simp only [Act.put, List.setIfInBounds_toArray, List.set_cons_succ, List.set_cons_zero]
      refine ⟨.inl ⟨rfl, fun dd w' hd hnx hw hC => ?_⟩, fun e => ?_⟩
      · go_simp
        first | exact ⟨rfl, hC⟩ | exact hC
      have e' : vs 1 = _ := e
      rw [e']
      clear e e'
      simp only [Act.put, List.setIfInBounds_toArray, List.set_cons_succ, List.set_cons_zero]
      refine ⟨.inl ⟨rfl, fun dd w' hd hnx hw hC => ?_⟩, fun e => ?_⟩
      · go_simp
        first | exact ⟨rfl, hC⟩ | exact hC
      have e' : vs 2 = _ := e
      rw [e']
      clear e e'
      simp only [Act.put, List.setIfInBounds_toArray, List.set_cons_succ, List.set_cons_zero]
      refine ⟨.inl ⟨rfl, fun dd w' hd hnx hw hC => ?_⟩, fun e => ?_⟩
      · go_simp
        first | exact ⟨rfl, hC⟩ | exact hC
      have e' : vs 3 = _ := e
      rw [e']
      clear e e'
      simp only [Act.put, List.setIfInBounds_toArray, List.set_cons_succ, List.set_cons_zero]
      refine ⟨.inl ⟨rfl, fun dd w' hd hnx hw hC => ?_⟩, fun e => ?_⟩
      · have h1 : w'.cell? ⟨g, 4, none⟩ = some (.slice Al nl cl) := hC.t.cell (p := ⟨g, 4, none⟩) Q5.out G3.out
        go_simp
        first | exact ⟨rfl, hC⟩ | exact hC
      have e' : vs 4 = _ := e
      rw [e']
      clear e e'
      simp only [Act.put, List.setIfInBounds_toArray, List.set_cons_succ, List.set_cons_zero]
      refine ⟨.inl ⟨rfl, fun dd w' hd hnx hw hC => ?_⟩, fun e => ?_⟩
      · exact ClP.gE_ldR (cs := (enL ⟨5, 0, 0, BuM.pad t, 15⟩).toArray) (tEn ⟨5, 0, 0, BuM.pad t, 15⟩) rfl (E.out.turn hC.t V3.out).whole ⟨rfl, hC⟩
      have e' : vs 5 = _ := e
      rw [e']
      clear e e'
      simp only [Act.put, List.setIfInBounds_toArray, List.set_cons_succ, List.set_cons_zero]
      refine ⟨.inl ⟨rfl, fun dd w' hd hnx hw hC => ?_⟩, fun e => ?_⟩
      · have h8 : dd 7 = false := hnx 7 (by kernel_rfl)
        have ha := (Below.refl w'.heap.size w').alloc (Nat.le_refl _) (.cells (enL ⟨5, 0, 0, BuM.pad t, 15⟩).toArray 59)
        have hbl := hC.b h8
        exact gE_lit1 (x := (⟨5, 0, 0, BuM.pad t, 15⟩ : Ent)) eltEnR undEnR (by omega) rfl rfl ⟨⟨_, _, rfl⟩, hC.t.trans (Turn.of_new (S := fun _ => False) ha) (fun _ e => e.elim), (fun _ => hbl.trans (ha.mono hbl.size)), (fun _ _ => ⟨_, _, rfl, sli_lit1 eltEnR (⟨5, 0, 0, BuM.pad t, 15⟩ : Ent) w' hbl.size⟩), fun e => by
          have e' : dd 7 = true := e
          rw [h8] at e'; cases e'⟩
      obtain ⟨A7, c7, e'⟩ : ∃ (A : Option Addr) (c : Nat), vs 6 = .slice A 1 c := e
      rw [e']
      have E7 := hid e'
      clear e'
      simp only [Act.put, List.setIfInBounds_toArray, List.set_cons_succ, List.set_cons_zero]
      refine ⟨.inl ⟨rfl, fun dd w' hd hnx hw hC => ?_⟩, fun e => ?_⟩
      · have h7 : dd 6 = true := hw 6 (by kernel_rfl)
        have hbl := hC.b hd
        obtain ⟨A', c', f, sl⟩ := hC.lit h7 hd
        rw [E7.out] at f
        cases f
        have hlen := hid (show (b2).log.length = nl from HNL.out.symm)
        refine gE_appW eltEnR undEnR (B := 0) (v := .slice Al nl cl) (l := (b2).log) (m := [(⟨5, 0, 0, BuM.pad t, 15⟩ : Ent)]) rfl rfl (O3.out.below hbl (Nat.le_refl _)) sl (by have := hlen.out; have := hnl2.out; omega) (by omega) (Nat.zero_le _) fun v' w4 o4 g4 wh => ?_
        obtain ⟨A4, c4, rfl, _⟩ := o4.sli enL_len
        refine ⟨⟨A4, c4, by rw [List.length_append, hlen.out]; rfl⟩, ?_⟩
        exact ⟨(Turn.of_new (S := fun b => (Value.slice Al nl cl).ownBlock = some b) hbl).trans (Turn.of_grown (S := fun b => (Value.slice Al nl cl).ownBlock = some b) g4 fun b e => e) (fun b e => .inl e), (fun e => by cases e), (fun _ e => by cases e), fun _ => ⟨o4, fun b e => by
          have e3 : (Value.slice A4 ((b2).log ++ [(⟨5, 0, 0, BuM.pad t, 15⟩ : Ent)]).length c4).ownBlock = some b := e
          rcases wh with x | x
          · exact .inl (x.symm.trans e3)
          · rw [x] at e3; cases e3; exact .inr hbl.size⟩⟩
      obtain ⟨A8, c8, e'⟩ : ∃ (A : Option Addr) (c : Nat), vs 7 = .slice A (nl + 1) c := e
      rw [e']
      have E8 := hid e'
      clear e'
      simp only [Act.put, List.setIfInBounds_toArray, List.set_cons_succ, List.set_cons_zero]
      refine ⟨.inl ⟨rfl, fun dd w' hd hnx hw hC => ?_⟩, fun e => ?_⟩
      · go_simp
        first | exact ⟨rfl, hC⟩ | exact hC
      have e' : vs 8 = _ := e
      rw [e']
      clear e e'
      simp only [Act.put, List.setIfInBounds_toArray, List.set_cons_succ, List.set_cons_zero]
      refine ⟨.inl ⟨rfl, fun dd w' hd hnx hw hC => ?_⟩, fun e => ?_⟩
      · go_simp
        first | exact ⟨rfl, hC⟩ | exact hC
      have e' : vs 9 = _ := e
      rw [e']
      clear e e'
      simp only [Act.put, List.setIfInBounds_toArray, List.set_cons_succ, List.set_cons_zero]
      intro dd w4 hall hC
      obtain ⟨o4, wh⟩ := hC.own (hall 7 (by omega))
      rw [E8.out] at o4 wh
      have bb := C3.out.turn hC.t G3.out
      have tu5 := Turn.setCell (S := fun b => b = g) w4 ⟨g, 4, none⟩ (.slice A8 (nl + 1) c8) rfl
      have hne4 : ∀ b, (Value.slice A8 (nl + 1) c8).ownBlock = some b → b ≠ g := fun b e e2 => by
        rcases wh b e with x | x
        · exact G3.out (by rw [x, e2])
        · have := C3.out.lt; omega
      have T5 := hid (show Turn (fun q => q = g ∨ (F2).vl.ownBlock = some q) w9 (w4.setCell ⟨g, 4, none⟩ (.slice A8 (nl + 1) c8)) from
        (hC.t.mono (T := fun q => q = g ∨ (F2).vl.ownBlock = some q) fun q e => .inr (by rw [HV.out]; exact e)).trans tu5 fun q e => .inl (.inl e))
      obtain ⟨i5, u5⟩ := I.out.logged (x := ⟨5, 0, 0, BuM.pad t, 15⟩) T5.out (bu_setLg bb _) (o4.turn tu5 hne4) (fun q e => (wh q e).imp (fun x => by rw [HV.out]; exact x) id)
      have E5 := hid ((E.out.turn hC.t V3.out).turn tu5 gEne.out)
      have I5 := hid i5
      have U := hid u5
      have p4 : w4.cell? ⟨g, 4, none⟩ = some (.slice Al nl cl) := by rw [← HV.out]; exact bu_lg bb
      have fz := bb.frozen 4
      clear I E hC o4 wh hall E7 E8 tu5 hne4 C3 Q5 V3 G3 O3 hnl2 HVL HNL HV bb i5 u5 gEne T5
      go_upto_region 8 with fail
      clear p4 fz
      have I := I5
      have E := E5
      clear I5 E5
      generalize World.setCell w4 _ _ = wa at I E U ⊢
      refine wp_region_tail (C := fun w' => Below wa.heap.size wa w') 5 (by kernel_rfl) (by kernel_rfl) (by kernel_rfl) (Below.refl _ _).drew ?_
      simp only [List.take_succ_cons, List.take_zero, List.drop_succ_cons, List.drop_zero]
      apply wpK_val
      · rfl
      · intro w' hw'
        go_simp
        first | exact rfl | exact ⟨rfl, hw'⟩
      simp only [Act.put, List.setIfInBounds_toArray, List.set_cons_succ, List.set_cons_zero]
      apply wpK_val
      · rfl
      · intro w' hw'
        go_simp
        first | exact rfl | exact ⟨rfl, hw'⟩
      simp only [Act.put, List.setIfInBounds_toArray, List.set_cons_succ, List.set_cons_zero]
      apply wpK_val
      · rfl
      · intro w' hw'
        have hcell := en_qe (E.out.below hw' E.out.lt)
        go_simp
        first | exact rfl | exact ⟨rfl, hw'⟩
      simp only [Act.put, List.setIfInBounds_toArray, List.set_cons_succ, List.set_cons_zero]
      apply wpK_val
      · rfl
      · intro w' hw'
        go_simp
        first | exact rfl | exact ⟨rfl, hw'⟩
      simp only [Act.put, List.setIfInBounds_toArray, List.set_cons_succ, List.set_cons_zero]
      apply wpK_val
      · rfl
      · intro w' hw'
        go_simp
        first | exact rfl | exact ⟨rfl, hw'⟩
      simp only [Act.put, List.setIfInBounds_toArray, List.set_cons_succ, List.set_cons_zero]
      intro wz hC2
      replace I := hid (I.out.below hC2)
      clear hC2 E U
      go_wp2_with fail
      go_ret2
      have h1 := HB.out
      have h2 := HX.out
      have h3 := HK.out
      have h4 := HM.out
      have h5 := HN.out
      unfold BuM.adT
      rw [← h1, h4, h2, h5]
      exact ⟨rfl, (I.out.mono (by omega)).out⟩
    · have hlt : b2.c.1 < ClP.most := Nat.lt_of_le_of_ne I.out.rb.cmx hf
      have HX := hid (show BuM.adB b2 t = ⟨5, 0, 0, BuM.pad t, 0⟩ by unfold BuM.adB BuM.adE BuM.full; rw [hoff, if_neg Bool.false_ne_true, if_neg (by simpa using hf)])
      have HN := hid (show BuM.adN b2 = ((b2.c.1 + 1 : Nat) : Int) by unfold BuM.adN BuM.full; rw [hoff, if_neg Bool.false_ne_true, if_neg (by simpa using hf)])
      have HM0 := hid (show BuM.adM b2 t = { b2 with c := (b2.c.1 + 1, t) } by unfold BuM.adM BuM.full; rw [hoff, if_neg Bool.false_ne_true, if_neg (by simpa using hf)])
      have HL := hid hlt
      obtain ⟨nv, hnv⟩ : ∃ z : Nat, z = b2.c.1 + 1 := ⟨_, rfl⟩
      have HNV := hid hnv
      clear hoff hf hlt hnv
      refine wp_region_c (S := yS [some (.pointer (some ⟨g, 0, none⟩)), some (.pointer (some ⟨g, 0, none⟩)), some (.pointer (some ⟨g, 1, none⟩)), some (.pointer (some ⟨F2.gc, 0, none⟩)), some (.agg (ar 32 t)), some (.tuple #[.int .u64 (nv : Int), .int .i64 0]), some (.tuple #[.int .u64 (nv : Int), .int .i64 0]), some (.int .u64 (nv : Int)), some (.int .i64 0), some (.int .u64 (nv : Int)), some (.pointer (some ⟨gE, 67, none⟩))] [])
        (C := fun d vs w' => TcC w3 F2.gc F2.vc (F2.hist ++ [((nv, t) : ClP.Held)]) (nv, t) (d 5) w') 11 (by kernel_rfl) (by kernel_rfl) (by kernel_rfl) _
        (yS_ok _ fun y hy => by cases hy) ⟨Turn.drew _, fun _ => (Below.refl _ _).drew, (fun e => by cases e)⟩ fun vs => ?_
      simp only [List.take_succ_cons, List.take_zero, List.drop_succ_cons, List.drop_zero]
      refine ⟨.inl ⟨rfl, fun dd w' hd hnx hw hC => ?_⟩, fun e => ?_⟩
      · go_simp
        first | exact ⟨rfl, hC⟩ | exact hC
      have e' : vs 0 = _ := e
      rw [e']
      clear e e'
      simp only [Act.put, List.setIfInBounds_toArray, List.set_cons_succ, List.set_cons_zero]
      refine ⟨.inl ⟨rfl, fun dd w' hd hnx hw hC => ?_⟩, fun e => ?_⟩
      · go_simp
        first | exact ⟨rfl, hC⟩ | exact hC
      have e' : vs 1 = _ := e
      rw [e']
      clear e e'
      simp only [Act.put, List.setIfInBounds_toArray, List.set_cons_succ, List.set_cons_zero]
      refine ⟨.inl ⟨rfl, fun dd w' hd hnx hw hC => ?_⟩, fun e => ?_⟩
      · go_simp
        first | exact ⟨rfl, hC⟩ | exact hC
      have e' : vs 2 = _ := e
      rw [e']
      clear e e'
      simp only [Act.put, List.setIfInBounds_toArray, List.set_cons_succ, List.set_cons_zero]
      refine ⟨.inl ⟨rfl, fun dd w' hd hnx hw hC => ?_⟩, fun e => ?_⟩
      · have h1 : w'.cell? ⟨g, 1, none⟩ = some (.pointer (some ⟨F2.gc, 0, none⟩)) := hC.t.cell (p := ⟨g, 1, none⟩) q1 hgg.out
        go_simp
        first | exact ⟨rfl, hC⟩ | exact hC
      have e' : vs 3 = _ := e
      rw [e']
      clear e e'
      simp only [Act.put, List.setIfInBounds_toArray, List.set_cons_succ, List.set_cons_zero]
      refine ⟨.inl ⟨rfl, fun dd w' hd hnx hw hC => ?_⟩, fun e => ?_⟩
      · exact gE_ldA ClP.tTg rfl (R.out.turn hC.t hRg.out).head ⟨rfl, hC⟩
      have e' : vs 4 = _ := e
      rw [e']
      clear e e'
      simp only [Act.put, List.setIfInBounds_toArray, List.set_cons_succ, List.set_cons_zero]
      refine ⟨.inl ⟨rfl, fun dd w' hd hnx hw hC => ?_⟩, fun e => ?_⟩
      · have hb := hC.b hd
        go_simp
        refine (ClP.radv_any (RC.out.below hb) HL.out (by have := hh.out; omega) t).mono ?_
        rintro e w6 ⟨rfl, v', h1, h2, h3⟩
        rw [← HNV.out] at h1 ⊢
        exact ⟨_, rfl, rfl, hC.t.trans h3 fun _ e => .inl e, (fun e => by cases e), fun _ => ⟨v', h1, fun q e => (h2 q e).imp id fun x => Nat.le_trans hb.size x⟩⟩
      have e' : vs 5 = _ := e
      rw [e']
      clear e e'
      simp only [Act.put, List.setIfInBounds_toArray, List.set_cons_succ, List.set_cons_zero]
      refine ⟨.inl ⟨rfl, fun dd w' hd hnx hw hC => ?_⟩, fun e => ?_⟩
      · go_simp
        first | exact ⟨rfl, hC⟩ | exact hC
      have e' : vs 6 = _ := e
      rw [e']
      clear e e'
      simp only [Act.put, List.setIfInBounds_toArray, List.set_cons_succ, List.set_cons_zero]
      refine ⟨.inl ⟨rfl, fun dd w' hd hnx hw hC => ?_⟩, fun e => ?_⟩
      · go_simp
        first | exact ⟨rfl, hC⟩ | exact hC
      have e' : vs 7 = _ := e
      rw [e']
      clear e e'
      simp only [Act.put, List.setIfInBounds_toArray, List.set_cons_succ, List.set_cons_zero]
      refine ⟨.inl ⟨rfl, fun dd w' hd hnx hw hC => ?_⟩, fun e => ?_⟩
      · go_simp
        first | exact ⟨rfl, hC⟩ | exact hC
      have e' : vs 8 = _ := e
      rw [e']
      clear e e'
      simp only [Act.put, List.setIfInBounds_toArray, List.set_cons_succ, List.set_cons_zero]
      refine ⟨.inl ⟨rfl, fun dd w' hd hnx hw hC => ?_⟩, fun e => ?_⟩
      · go_simp
        first | exact ⟨rfl, hC⟩ | exact hC
      have e' : vs 9 = _ := e
      rw [e']
      clear e e'
      simp only [Act.put, List.setIfInBounds_toArray, List.set_cons_succ, List.set_cons_zero]
      refine ⟨.inl ⟨rfl, fun dd w' hd hnx hw hC => ?_⟩, fun e => ?_⟩
      · go_simp
        first | exact ⟨rfl, hC⟩ | exact hC
      have e' : vs 10 = _ := e
      rw [e']
      clear e e'
      simp only [Act.put, List.setIfInBounds_toArray, List.set_cons_succ, List.set_cons_zero]
      intro dd w6 hall hC
      obtain ⟨v', hc1, hc2⟩ := hC.o (hall 5 (by omega))
      obtain ⟨i6, u6⟩ := I.out.celled (by rw [List.length_append]; rfl) (by show nv ≤ _; rw [HNV.out]; exact HL.out) hc1 hc2 hC.t
      replace E := hid (I.out.keep (.inl rfl) E.out u6)
      obtain ⟨F3, hF3⟩ : ∃ z : Fp, z = { F2 with vc := v', hist := F2.hist ++ [((nv, t) : ClP.Held)] } := ⟨_, rfl⟩
      obtain ⟨b3, hb3⟩ : ∃ z : Bs, z = { b2 with c := (nv, t) } := ⟨_, rfl⟩
      obtain ⟨k3, hk3⟩ : ∃ z : Nat, z = k2 + 1 := ⟨_, rfl⟩
      rw [← hF3, ← hb3, ← hk3] at i6
      replace I := hid i6
      have HM := hid (show BuM.adM b2 t = b3 by rw [HM0.out, hb3, HNV.out])
      replace HN := hid (show BuM.adN b2 = (nv : Int) by rw [HN.out, ← HNV.out])
      have HK3 := hid hk3
      have hk3' : k3 + 1 ≤ 8000 := by omega
      clear i6 u6 hF3 hb3 hk3 hc1 hc2 hC hall q1 q3 RC hh hgg hRg R hRE HL HM0 HNV
      have q67 : w6.cell? ⟨gE, 67, none⟩ = some (.int .i64 0) := en_qe E.out
      have fz := E.out.frozen 67
      go_upto_region 7 with fail
      have tu := Turn.setCell (S := fun q => q = gE) w6 ⟨gE, 67, none⟩ (.int .i64 0) rfl
      replace E := hid (en_setE E.out 0)
      replace I := hid (I.out.set (.inl rfl) tu)
      clear tu q67 fz
      generalize World.setCell w6 _ _ = w9 at I E ⊢
      obtain ⟨Al, cl, hvl, _⟩ := I.out.rb.log.sli enL_len
      have HVL := hid hvl
      obtain ⟨nl, hnl⟩ : ∃ n, n = (b3).log.length := ⟨_, rfl⟩
      have HNL := hid hnl
      have HV := hid (show (F3).vl = .slice Al nl cl by rw [hnl]; exact hvl)
      have hnl2 := hid (show nl ≤ 9000 by rw [hnl]; have := I.out.rb.sz.2.2.2; omega)
      have C3 := hid I.out.rb.blk
      have Q5 := hid (show w9.cell? ⟨g, 4, none⟩ = some (.slice Al nl cl) by rw [← HV.out]; exact bu_lg I.out.rb.blk)
      have gEne := hid (show gE ≠ g from fun e => (I.out.vr gE (.inl rfl)).2.2.1 (.inl e))
      have V3 := hid (show (Value.slice Al nl cl).ownBlock ≠ some gE by rw [← HV.out]; exact fun e => (I.out.vr gE (.inl rfl)).2.2.1 (.inr (.inr (.inr (.inr e)))))
      have G3 := hid (show (Value.slice Al nl cl).ownBlock ≠ some g by rw [← HV.out]; exact I.out.rb.g_vl)
      have O3 := hid (show OwnX 59 68 enL w9 0 (.slice Al nl cl) (b3).log by rw [← HV.out]; exact I.out.rb.log)
      clear hvl hnl
      refine wp_region_c (S := yS [some (.pointer (some ⟨g, 0, none⟩)), some (.pointer (some ⟨g, 0, none⟩)), some (.pointer (some ⟨g, 0, none⟩)), some (.pointer (some ⟨g, 4, none⟩)), some (.slice Al nl cl), some (.agg (enL ⟨5, 0, 0, BuM.pad t, 0⟩).toArray), none, none, some (.pointer (some ⟨g, 0, none⟩)), some (.pointer (some ⟨g, 4, none⟩))]
          [(6, kSl 1), (7, kSl (nl + 1))]) (C := fun d vs w' => ApC 59 68 enL w9 (.slice Al nl cl) (b3).log (⟨5, 0, 0, BuM.pad t, 0⟩) (d 6) (d 7) (vs 6) (vs 7) w') 10 (by kernel_rfl) (by kernel_rfl) (by kernel_rfl) _
        (yS_ok _ fun y hy => by simp only [List.mem_cons, List.not_mem_nil, or_false] at hy; rcases hy with rfl | rfl <;> exact kSl_ok _) ⟨Turn.drew _, fun _ => (Below.refl _ _).drew, (fun e => by cases e), (fun e => by cases e)⟩ fun vs => ?_
      simp only [List.take_succ_cons, List.take_zero, List.drop_succ_cons, List.drop_zero]
      refine ⟨.inl ⟨rfl, fun dd w' hd hnx hw hC => ?_⟩, fun e => ?_⟩
      · go_simp
        first | exact ⟨rfl, hC⟩ | exact hC
      have e' : vs 0 = _ := e
      rw [e']
      clear e e'
      simp only [Act.put, List.setIfInBounds_toArray, List.set_cons_succ, List.set_cons_zero]
      refine ⟨.inl ⟨rfl, fun dd w' hd hnx hw hC => ?_⟩, fun e => ?_⟩
      · go_simp
        first | exact ⟨rfl, hC⟩ | exact hC
      have e' : vs 1 = _ := e
      rw [e']
      clear e e'
      simp only [Act.put, List.setIfInBounds_toArray, List.set_cons_succ, List.set_cons_zero]
      refine ⟨.inl ⟨rfl, fun dd w' hd hnx hw hC => ?_⟩, fun e => ?_⟩
      · go_simp
        first | exact ⟨rfl, hC⟩ | exact hC
      have e' : vs 2 = _ := e
      rw [e']
      clear e e'
      simp only [Act.put, List.setIfInBounds_toArray, List.set_cons_succ, List.set_cons_zero]
      refine ⟨.inl ⟨rfl, fun dd w' hd hnx hw hC => ?_⟩, fun e => ?_⟩
      · go_simp
        first | exact ⟨rfl, hC⟩ | exact hC
      have e' : vs 3 = _ := e
      rw [e']
      clear e e'
      simp only [Act.put, List.setIfInBounds_toArray, List.set_cons_succ, List.set_cons_zero]
      refine ⟨.inl ⟨rfl, fun dd w' hd hnx hw hC => ?_⟩, fun e => ?_⟩
      · have h1 : w'.cell? ⟨g, 4, none⟩ = some (.slice Al nl cl) := hC.t.cell (p := ⟨g, 4, none⟩) Q5.out G3.out
        go_simp
        first | exact ⟨rfl, hC⟩ | exact hC
      have e' : vs 4 = _ := e
      rw [e']
      clear e e'
      simp only [Act.put, List.setIfInBounds_toArray, List.set_cons_succ, List.set_cons_zero]
      refine ⟨.inl ⟨rfl, fun dd w' hd hnx hw hC => ?_⟩, fun e => ?_⟩
      · exact ClP.gE_ldR (cs := (enL ⟨5, 0, 0, BuM.pad t, 0⟩).toArray) (tEn ⟨5, 0, 0, BuM.pad t, 0⟩) rfl (E.out.turn hC.t V3.out).whole ⟨rfl, hC⟩
      have e' : vs 5 = _ := e
      rw [e']
      clear e e'
      simp only [Act.put, List.setIfInBounds_toArray, List.set_cons_succ, List.set_cons_zero]
      refine ⟨.inl ⟨rfl, fun dd w' hd hnx hw hC => ?_⟩, fun e => ?_⟩
      · have h8 : dd 7 = false := hnx 7 (by kernel_rfl)
        have ha := (Below.refl w'.heap.size w').alloc (Nat.le_refl _) (.cells (enL ⟨5, 0, 0, BuM.pad t, 0⟩).toArray 59)
        have hbl := hC.b h8
        exact gE_lit1 (x := (⟨5, 0, 0, BuM.pad t, 0⟩ : Ent)) eltEnR undEnR (by omega) rfl rfl ⟨⟨_, _, rfl⟩, hC.t.trans (Turn.of_new (S := fun _ => False) ha) (fun _ e => e.elim), (fun _ => hbl.trans (ha.mono hbl.size)), (fun _ _ => ⟨_, _, rfl, sli_lit1 eltEnR (⟨5, 0, 0, BuM.pad t, 0⟩ : Ent) w' hbl.size⟩), fun e => by
          have e' : dd 7 = true := e
          rw [h8] at e'; cases e'⟩
      obtain ⟨A7, c7, e'⟩ : ∃ (A : Option Addr) (c : Nat), vs 6 = .slice A 1 c := e
      rw [e']
      have E7 := hid e'
      clear e'
      simp only [Act.put, List.setIfInBounds_toArray, List.set_cons_succ, List.set_cons_zero]
      refine ⟨.inl ⟨rfl, fun dd w' hd hnx hw hC => ?_⟩, fun e => ?_⟩
      · have h7 : dd 6 = true := hw 6 (by kernel_rfl)
        have hbl := hC.b hd
        obtain ⟨A', c', f, sl⟩ := hC.lit h7 hd
        rw [E7.out] at f
        cases f
        have hlen := hid (show (b3).log.length = nl from HNL.out.symm)
        refine gE_appW eltEnR undEnR (B := 0) (v := .slice Al nl cl) (l := (b3).log) (m := [(⟨5, 0, 0, BuM.pad t, 0⟩ : Ent)]) rfl rfl (O3.out.below hbl (Nat.le_refl _)) sl (by have := hlen.out; have := hnl2.out; omega) (by omega) (Nat.zero_le _) fun v' w4 o4 g4 wh => ?_
        obtain ⟨A4, c4, rfl, _⟩ := o4.sli enL_len
        refine ⟨⟨A4, c4, by rw [List.length_append, hlen.out]; rfl⟩, ?_⟩
        exact ⟨(Turn.of_new (S := fun b => (Value.slice Al nl cl).ownBlock = some b) hbl).trans (Turn.of_grown (S := fun b => (Value.slice Al nl cl).ownBlock = some b) g4 fun b e => e) (fun b e => .inl e), (fun e => by cases e), (fun _ e => by cases e), fun _ => ⟨o4, fun b e => by
          have e3 : (Value.slice A4 ((b3).log ++ [(⟨5, 0, 0, BuM.pad t, 0⟩ : Ent)]).length c4).ownBlock = some b := e
          rcases wh with x | x
          · exact .inl (x.symm.trans e3)
          · rw [x] at e3; cases e3; exact .inr hbl.size⟩⟩
      obtain ⟨A8, c8, e'⟩ : ∃ (A : Option Addr) (c : Nat), vs 7 = .slice A (nl + 1) c := e
      rw [e']
      have E8 := hid e'
      clear e'
      simp only [Act.put, List.setIfInBounds_toArray, List.set_cons_succ, List.set_cons_zero]
      refine ⟨.inl ⟨rfl, fun dd w' hd hnx hw hC => ?_⟩, fun e => ?_⟩
      · go_simp
        first | exact ⟨rfl, hC⟩ | exact hC
      have e' : vs 8 = _ := e
      rw [e']
      clear e e'
      simp only [Act.put, List.setIfInBounds_toArray, List.set_cons_succ, List.set_cons_zero]
      refine ⟨.inl ⟨rfl, fun dd w' hd hnx hw hC => ?_⟩, fun e => ?_⟩
      · go_simp
        first | exact ⟨rfl, hC⟩ | exact hC
      have e' : vs 9 = _ := e
      rw [e']
      clear e e'
      simp only [Act.put, List.setIfInBounds_toArray, List.set_cons_succ, List.set_cons_zero]
      intro dd w4 hall hC
      obtain ⟨o4, wh⟩ := hC.own (hall 7 (by omega))
      rw [E8.out] at o4 wh
      have bb := C3.out.turn hC.t G3.out
      have tu5 := Turn.setCell (S := fun b => b = g) w4 ⟨g, 4, none⟩ (.slice A8 (nl + 1) c8) rfl
      have hne4 : ∀ b, (Value.slice A8 (nl + 1) c8).ownBlock = some b → b ≠ g := fun b e e2 => by
        rcases wh b e with x | x
        · exact G3.out (by rw [x, e2])
        · have := C3.out.lt; omega
      have T5 := hid (show Turn (fun q => q = g ∨ (F3).vl.ownBlock = some q) w9 (w4.setCell ⟨g, 4, none⟩ (.slice A8 (nl + 1) c8)) from
        (hC.t.mono (T := fun q => q = g ∨ (F3).vl.ownBlock = some q) fun q e => .inr (by rw [HV.out]; exact e)).trans tu5 fun q e => .inl (.inl e))
      obtain ⟨i5, u5⟩ := I.out.logged (x := ⟨5, 0, 0, BuM.pad t, 0⟩) T5.out (bu_setLg bb _) (o4.turn tu5 hne4) (fun q e => (wh q e).imp (fun x => by rw [HV.out]; exact x) id)
      have E5 := hid ((E.out.turn hC.t V3.out).turn tu5 gEne.out)
      have I5 := hid i5
      have U := hid u5
      have p4 : w4.cell? ⟨g, 4, none⟩ = some (.slice Al nl cl) := by rw [← HV.out]; exact bu_lg bb
      have fz := bb.frozen 4
      clear I E hC o4 wh hall E7 E8 tu5 hne4 C3 Q5 V3 G3 O3 hnl2 HVL HNL HV bb i5 u5 gEne T5
      go_upto_region 8 with fail
      clear p4 fz
      have I := I5
      have E := E5
      clear I5 E5
      generalize World.setCell w4 _ _ = wa at I E U ⊢
      refine wp_region_tail (C := fun w' => Below wa.heap.size wa w') 5 (by kernel_rfl) (by kernel_rfl) (by kernel_rfl) (Below.refl _ _).drew ?_
      simp only [List.take_succ_cons, List.take_zero, List.drop_succ_cons, List.drop_zero]
      apply wpK_val
      · rfl
      · intro w' hw'
        go_simp
        first | exact rfl | exact ⟨rfl, hw'⟩
      simp only [Act.put, List.setIfInBounds_toArray, List.set_cons_succ, List.set_cons_zero]
      apply wpK_val
      · rfl
      · intro w' hw'
        go_simp
        first | exact rfl | exact ⟨rfl, hw'⟩
      simp only [Act.put, List.setIfInBounds_toArray, List.set_cons_succ, List.set_cons_zero]
      apply wpK_val
      · rfl
      · intro w' hw'
        have hcell := en_qe (E.out.below hw' E.out.lt)
        go_simp
        first | exact rfl | exact ⟨rfl, hw'⟩
      simp only [Act.put, List.setIfInBounds_toArray, List.set_cons_succ, List.set_cons_zero]
      apply wpK_val
      · rfl
      · intro w' hw'
        go_simp
        first | exact rfl | exact ⟨rfl, hw'⟩
      simp only [Act.put, List.setIfInBounds_toArray, List.set_cons_succ, List.set_cons_zero]
      apply wpK_val
      · rfl
      · intro w' hw'
        go_simp
        first | exact rfl | exact ⟨rfl, hw'⟩
      simp only [Act.put, List.setIfInBounds_toArray, List.set_cons_succ, List.set_cons_zero]
      intro wz hC2
      replace I := hid (I.out.below hC2)
      clear hC2 E U
      go_wp2_with fail
      go_ret2
      have h1 := HB.out
      have h2 := HX.out
      have h3 := HK.out
      have h4 := HM.out
      have h5 := HN.out
      have h6 := HK3.out
      unfold BuM.adT
      rw [← h1, h4, h2, h5]
      exact ⟨rfl, (I.out.mono (by omega)).out⟩
end BuP
end Go.Proofs.YthogklchmhjjkaaGreat
set_option maxRecDepth 100000
namespace Go.Proofs.YthogklchmhjjkaaGreat
open Go.ChangeShapes Go.WideShapes Go.ChangeAt Go.RowKit
attribute [local go_sem] Gives GivesE
namespace BuP
open BuM MbM MbP
set_option maxHeartbeats 2000000 in
set_option maxRecDepth 100000 in
theorem bwrite_any {w : World} {g k : Nat} {F : Fp} {b : Bs} (H : Rb w g F k b) (hk : k + b.steps.length + 2 ≤ 8000) (m i : Int) (x : Nat → Nat) : Calls Tryz.prog 24 #[MbP.at' g, .int .i64 m, .int .i64 i, .agg (ar 64 x)] w fun e w' =>
    e = .returned (.int .i64 (BuM.wrB (BuM.ahead b) m i x).e) ∧ outB w g F (k + b.steps.length + 2) (BuM.wrT b m i x) w' := by
  have I0 := hid (IoS.start H)
  clear H
  unfold MbP.at'
  go_enter Tryz.func24, Tryz.ntmps24
  go_upto_region 1 with fail
  generalize hw1 : World.alloc w _ = w1
  have i1 := I0.out.var (w' := w1) (by rw [← hw1]; exact (Below.refl _ _).alloc (Nat.le_refl _) _) (by rw [← hw1]; simp)
  have r1 : Blk w1 w.heap.size 43 (ar 64 x) := by rw [← hw1]; exact Blk.new _ _ _
  obtain ⟨gR, hgR⟩ : ∃ n, n = w.heap.size := ⟨_, rfl⟩
  rw [← hgR] at i1 r1 ⊢
  have I := hid i1
  have R := hid r1
  clear hw1 I0 hgR i1 r1
  go_wp2_with fail
  refine (rahead_any I.out.rb (by omega)).mono ?_
  rintro e w2 ⟨rfl, Ls', r2, l2, t2⟩
  obtain ⟨i2, u2⟩ := I.out.ahead r2 l2 t2
  replace R := hid (I.out.keep (.inl rfl) R.out u2)
  clear I r2 l2 t2 u2
  obtain ⟨F2, hF2⟩ : ∃ x, x = ({ F with Ls := Ls' } : Fp) := ⟨_, rfl⟩
  obtain ⟨b2, hb2⟩ : ∃ x, x = BuM.ahead b := ⟨_, rfl⟩
  obtain ⟨k2, hk2⟩ : ∃ x, x = k + b.steps.length := ⟨_, rfl⟩
  have HB := hid hb2
  have HK := hid hk2
  rw [← hF2, ← hb2, ← hk2] at i2
  rw [← hk2] at hk
  have I := hid i2
  clear i2 hF2 hb2 hk2
  go_upto_region 3 with (first | ((with_reducible apply ldA tSe); rfl; exact R.out) | ((with_reducible apply wblWr (m := m) (i := i) (s := x)); rfl; rfl; rfl) | (with_reducible apply alZ' zEn) | ((with_reducible apply stR (tEn ⟨2, m, i, x, 0⟩)); rfl; rfl; exact Blk.new _ _ _; exact en_size _ _; exact en_one' _))
  generalize hw3 : World.setRow _ _ _ = w3
  have b3 : Below w2.heap.size w2 w3 := by rw [← hw3]; exact below_setRow ((Below.refl _ _).alloc (Nat.le_refl _) _) (Nat.le_refl _) _
  have i3 := I.out.var b3 (by rw [← hw3]; simp)
  have e3 : Blk w3 w2.heap.size 59 (enL ⟨2, m, i, x, 0⟩).toArray := by rw [← hw3]; exact (Blk.new w2 _ _).setRow_same _
  replace R := hid (R.out.below b3 R.out.lt)
  obtain ⟨gE, hgE⟩ : ∃ n, n = w2.heap.size := ⟨_, rfl⟩
  rw [← hgE] at i3 e3 ⊢
  clear I
  have I := hid i3
  have E := hid e3
  clear hw3 b3 i3 e3 hgE
  have hRE := hid (R.out.neT E.out (by decide))
  go_wp2_with fail
  refine (may_any m I.out.rb.blk).mono ?_
  rintro e w4 ⟨rfl, h4⟩
  obtain ⟨e0, he0⟩ : ∃ x, x = BuM.may b2 m := ⟨_, rfl⟩
  have HE := hid he0
  rw [show mayN b2.off b2.ms.length m = e0 from he0.symm]
  replace R := hid (R.out.below h4 R.out.lt)
  replace E := hid (E.out.below h4 E.out.lt)
  replace I := hid (I.out.below h4)
  clear he0 h4
  have q67 : w4.cell? ⟨gE, 67, none⟩ = some (.int .i64 0) := en_qe E.out
  have fz := E.out.frozen 67
  go_upto_region 4 with fail
  have tu := Turn.setCell (S := fun q => q = gE) w4 ⟨gE, 67, none⟩ (.int .i64 e0) rfl
  replace E := hid (en_setE E.out e0)
  replace R := hid (R.out.turn tu hRE.out)
  replace I := hid (I.out.set (.inl rfl) tu)
  clear tu q67 fz
  generalize World.setCell w4 _ _ = w5 at I E R ⊢
  have q67 : w5.cell? ⟨gE, 67, none⟩ = some (.int .i64 e0) := en_qe E.out
  by_cases h0 : e0 = 0
  · subst h0
    obtain ⟨hoff, mi, rfl, hmi⟩ := may_zero HE.out.symm
    have HO := hid hoff
    obtain ⟨gi, hgi⟩ : ∃ gi, F2.gs[mi]? = some gi := ⟨_, List.getElem?_eq_getElem (by rw [I.out.rb.mem.len]; exact hmi)⟩
    obtain ⟨bA, oA, hA, hbS, hbl, hr⟩ := I.out.rb.arr.some hgi
    rw [Nat.mul_one] at hr
    have q1 : w5.cell? ⟨bA, oA + mi, none⟩ = some (.pointer (some ⟨gi, 0, none⟩)) := pt_p hr
    have q0 : w5.cell? ⟨g, 0, none⟩ = some (.slice (some ⟨bA, oA, none⟩) b2.ms.length F2.cm) := by rw [← hA]; exact bu_ms I.out.rb.blk
    obtain ⟨st, hst, rs⟩ := I.out.rb.mem.at hgi
    have RS := hid rs
    have HAT := hid (at_of hst)
    have HGI := hid hgi
    have t9 : (mi : Int) < (b2.ms.length : Int) := by omega
    have t10 : ¬ (mi : Int) < 0 := by omega
    have hgg := hid (show gi ≠ g from fun e => I.out.rb.g_gs (e ▸ List.mem_of_getElem? hgi))
    have hbA := hid (show bA ≠ gi from fun e => I.out.rb.sep bA (.inl hbS) (.inr (.inl (e ▸ List.mem_of_getElem? hgi))))
    have hRg := hid (show gR ≠ gi from fun e => (I.out.vr gR (.inr (.inl rfl))).2.2.1 (.inr (.inl (e ▸ List.mem_of_getElem? hgi))))
    clear hr hA hst rs hgi hoff
    go_upto_region 5 with fail
    refine wp_region_c (S := yS [some (.pointer (some ⟨g, 0, none⟩)), some (.pointer (some ⟨g, 0, none⟩)), some (.pointer (some ⟨g, 0, none⟩)), some (.slice (some ⟨bA, oA, none⟩) b2.ms.length F2.cm), some (.int .i64 mi), some (.pointer (some ⟨bA, oA + mi, none⟩)), some (.pointer (some ⟨gi, 0, none⟩)), some (.int .i64 i), some (.agg (ar 64 x)), some (.int .i64 (rdE st i)), some (.pointer (some ⟨gE, 67, none⟩))] [])
      (C := fun d vs w' => TeC w5 gi (k2 + 1) (F2.Ls mi) (MbM.wrT st i x) (d 9) w') 11 (by kernel_rfl) (by kernel_rfl) (by kernel_rfl) _
      (yS_ok _ fun y hy => by cases hy) ⟨Turn.drew _, fun _ => (Below.refl _ _).drew, (fun e => by cases e)⟩ fun vs => ?_
    simp only [List.take_succ_cons, List.take_zero, List.drop_succ_cons, List.drop_zero]
    refine ⟨.inl ⟨rfl, fun dd w' hd hnx hw hC => ?_⟩, fun e => ?_⟩
    · go_simp
      first | exact ⟨rfl, hC⟩ | exact hC
    have e' : vs 0 = _ := e
    rw [e']
    clear e e'
    simp only [Act.put, List.setIfInBounds_toArray, List.set_cons_succ, List.set_cons_zero]
    refine ⟨.inl ⟨rfl, fun dd w' hd hnx hw hC => ?_⟩, fun e => ?_⟩
    · go_simp
      first | exact ⟨rfl, hC⟩ | exact hC
    have e' : vs 1 = _ := e
    rw [e']
    clear e e'
    simp only [Act.put, List.setIfInBounds_toArray, List.set_cons_succ, List.set_cons_zero]
    refine ⟨.inl ⟨rfl, fun dd w' hd hnx hw hC => ?_⟩, fun e => ?_⟩
    · go_simp
      first | exact ⟨rfl, hC⟩ | exact hC
    have e' : vs 2 = _ := e
    rw [e']
    clear e e'
    simp only [Act.put, List.setIfInBounds_toArray, List.set_cons_succ, List.set_cons_zero]
    refine ⟨.inl ⟨rfl, fun dd w' hd hnx hw hC => ?_⟩, fun e => ?_⟩
    · have h1 : w'.cell? ⟨g, 0, none⟩ = some (.slice (some ⟨bA, oA, none⟩) b2.ms.length F2.cm) := hC.t.cell (p := ⟨g, 0, none⟩) q0 fun e => hgg.out e.symm
      go_simp
      first | exact ⟨rfl, hC⟩ | exact hC
    have e' : vs 3 = _ := e
    rw [e']
    clear e e'
    simp only [Act.put, List.setIfInBounds_toArray, List.set_cons_succ, List.set_cons_zero]
    refine ⟨.inl ⟨rfl, fun dd w' hd hnx hw hC => ?_⟩, fun e => ?_⟩
    · go_simp
      first | exact ⟨rfl, hC⟩ | exact hC
    have e' : vs 4 = _ := e
    rw [e']
    clear e e'
    simp only [Act.put, List.setIfInBounds_toArray, List.set_cons_succ, List.set_cons_zero]
    refine ⟨.inl ⟨rfl, fun dd w' hd hnx hw hC => ?_⟩, fun e => ?_⟩
    · go_simp
      first | exact ⟨rfl, hC⟩ | exact hC
    have e' : vs 5 = _ := e
    rw [e']
    clear e e'
    simp only [Act.put, List.setIfInBounds_toArray, List.set_cons_succ, List.set_cons_zero]
    refine ⟨.inl ⟨rfl, fun dd w' hd hnx hw hC => ?_⟩, fun e => ?_⟩
    · have h1 : w'.cell? ⟨bA, oA + mi, none⟩ = some (.pointer (some ⟨gi, 0, none⟩)) := hC.t.cell (p := ⟨bA, oA + mi, none⟩) q1 hbA.out
      go_simp
      first | exact ⟨rfl, hC⟩ | exact hC
    have e' : vs 6 = _ := e
    rw [e']
    clear e e'
    simp only [Act.put, List.setIfInBounds_toArray, List.set_cons_succ, List.set_cons_zero]
    refine ⟨.inl ⟨rfl, fun dd w' hd hnx hw hC => ?_⟩, fun e => ?_⟩
    · go_simp
      first | exact ⟨rfl, hC⟩ | exact hC
    have e' : vs 7 = _ := e
    rw [e']
    clear e e'
    simp only [Act.put, List.setIfInBounds_toArray, List.set_cons_succ, List.set_cons_zero]
    refine ⟨.inl ⟨rfl, fun dd w' hd hnx hw hC => ?_⟩, fun e => ?_⟩
    · exact gE_ldA tSe rfl (R.out.turn hC.t hRg.out).head ⟨rfl, hC⟩
    have e' : vs 8 = _ := e
    rw [e']
    clear e e'
    simp only [Act.put, List.setIfInBounds_toArray, List.set_cons_succ, List.set_cons_zero]
    refine ⟨.inl ⟨rfl, fun dd w' hd hnx hw hC => ?_⟩, fun e => ?_⟩
    · have hb := hC.b hd
      go_simp
      refine (rs_write (RS.out.turn (Turn.of_new (S := fun _ => False) hb) (fun e => e) fun _ _ e => e) (by omega) i x).mono ?_
      rintro e w6 ⟨rfl, ho⟩
      exact ⟨_, rfl, rfl, hC.t.trans (rso_turn ho) fun _ e => .inl e, (fun e => by cases e), fun _ => rso_after hb ho⟩
    have e' : vs 9 = _ := e
    rw [e']
    clear e e'
    simp only [Act.put, List.setIfInBounds_toArray, List.set_cons_succ, List.set_cons_zero]
    refine ⟨.inl ⟨rfl, fun dd w' hd hnx hw hC => ?_⟩, fun e => ?_⟩
    · go_simp
      first | exact ⟨rfl, hC⟩ | exact hC
    have e' : vs 10 = _ := e
    rw [e']
    clear e e'
    simp only [Act.put, List.setIfInBounds_toArray, List.set_cons_succ, List.set_cons_zero]
    intro dd w6 hall hC
    have ho6 := hC.o (hall 9 (by omega))
    clear hC hall q67 q1 q0 RS t9 t10 hmi hbl hbS R hRE hgg hbA hRg
    obtain ⟨Ls2, i6, u6⟩ := I.out.tell (st := st) HGI.out ho6
    replace E := hid (I.out.keep (.inl rfl) E.out u6)
    obtain ⟨F3, hF3⟩ : ∃ x, x = ({ F2 with Ls := Ls2 } : Fp) := ⟨_, rfl⟩
    obtain ⟨b3, hb3⟩ : ∃ z : Bs, z = ({ b2 with ms := b2.ms.set mi (MbM.wrT st i x) } : Bs) := ⟨_, rfl⟩
    obtain ⟨k3, hk3⟩ : ∃ x, x = k2 + 1 := ⟨_, rfl⟩
    rw [← hF3, ← hb3, ← hk3] at i6
    replace I := hid i6
    have HB3 := hid hb3
    have HK3 := hid hk3
    obtain ⟨ev, hev⟩ : ∃ x, x = rdE st i := ⟨_, rfl⟩
    have HEV := hid hev
    rw [← hev]
    have hk3' : k3 + 1 ≤ 8000 := by omega
    clear i6 u6 hF3 hb3 hk3 hev ho6
    have q67 : w6.cell? ⟨gE, 67, none⟩ = some (.int .i64 0) := en_qe E.out
    have fz := E.out.frozen 67
    go_upto_region 6 with fail
    have tu := Turn.setCell (S := fun q => q = gE) w6 ⟨gE, 67, none⟩ (.int .i64 ev) rfl
    replace E := hid (en_setE E.out ev)
    replace I := hid (I.out.set (.inl rfl) tu)
    clear tu q67 fz
    generalize World.setCell w6 _ _ = w9 at I E ⊢
    have HX := hid (show BuM.wrB b2 mi i x = ⟨2, mi, i, x, ev⟩ by unfold BuM.wrB; rw [if_pos HE.out.symm, HAT.out, ← HEV.out])
    have HM := hid (show BuM.wrM b2 mi i x = b3 by unfold BuM.wrM BuM.upd; rw [if_pos HE.out.symm, HAT.out, HB3.out, Int.toNat_natCast])
    obtain ⟨Al, cl, hvl, _⟩ := I.out.rb.log.sli enL_len
    have HVL := hid hvl
    obtain ⟨nl, hnl⟩ : ∃ n, n = (b3).log.length := ⟨_, rfl⟩
    have HNL := hid hnl
    have HV := hid (show (F3).vl = .slice Al nl cl by rw [hnl]; exact hvl)
    have hnl2 := hid (show nl ≤ 9000 by rw [hnl]; have := I.out.rb.sz.2.2.2; omega)
    have C3 := hid I.out.rb.blk
    have Q5 := hid (show w9.cell? ⟨g, 4, none⟩ = some (.slice Al nl cl) by rw [← HV.out]; exact bu_lg I.out.rb.blk)
    have gEne := hid (show gE ≠ g from fun e => (I.out.vr gE (.inl rfl)).2.2.1 (.inl e))
    have V3 := hid (show (Value.slice Al nl cl).ownBlock ≠ some gE by rw [← HV.out]; exact fun e => (I.out.vr gE (.inl rfl)).2.2.1 (.inr (.inr (.inr (.inr e)))))
    have G3 := hid (show (Value.slice Al nl cl).ownBlock ≠ some g by rw [← HV.out]; exact I.out.rb.g_vl)
    have O3 := hid (show OwnX 59 68 enL w9 0 (.slice Al nl cl) (b3).log by rw [← HV.out]; exact I.out.rb.log)
    clear hvl hnl
    refine wp_region_c (S := yS [some (.pointer (some ⟨g, 0, none⟩)), some (.pointer (some ⟨g, 0, none⟩)), some (.pointer (some ⟨g, 0, none⟩)), some (.pointer (some ⟨g, 4, none⟩)), some (.slice Al nl cl), some (.agg (enL ⟨2, mi, i, x, ev⟩).toArray), none, none, some (.pointer (some ⟨g, 0, none⟩)), some (.pointer (some ⟨g, 4, none⟩))]
        [(6, kSl 1), (7, kSl (nl + 1))]) (C := fun d vs w' => ApC 59 68 enL w9 (.slice Al nl cl) (b3).log (⟨2, mi, i, x, ev⟩) (d 6) (d 7) (vs 6) (vs 7) w') 10 (by kernel_rfl) (by kernel_rfl) (by kernel_rfl) _
      (yS_ok _ fun y hy => by simp only [List.mem_cons, List.not_mem_nil, or_false] at hy; rcases hy with rfl | rfl <;> exact kSl_ok _) ⟨Turn.drew _, fun _ => (Below.refl _ _).drew, (fun e => by cases e), (fun e => by cases e)⟩ fun vs => ?_
    simp only [List.take_succ_cons, List.take_zero, List.drop_succ_cons, List.drop_zero]
    refine ⟨.inl ⟨rfl, fun dd w' hd hnx hw hC => ?_⟩, fun e => ?_⟩
    · go_simp
      first | exact ⟨rfl, hC⟩ | exact hC
    have e' : vs 0 = _ := e
    rw [e']
    clear e e'
    simp only [Act.put, List.setIfInBounds_toArray, List.set_cons_succ, List.set_cons_zero]
    refine ⟨.inl ⟨rfl, fun dd w' hd hnx hw hC => ?_⟩, fun e => ?_⟩
    · go_simp
      first | exact ⟨rfl, hC⟩ | exact hC
    have e' : vs 1 = _ := e
    rw [e']
    clear e e'
    simp only [Act.put, List.setIfInBounds_toArray, List.set_cons_succ, List.set_cons_zero]
    refine ⟨.inl ⟨rfl, fun dd w' hd hnx hw hC => ?_⟩, fun e => ?_⟩
    · go_simp
      first | exact ⟨rfl, hC⟩ | exact hC
    have e' : vs 2 = _ := e
    rw [e']
    clear e e'
    simp only [Act.put, List.setIfInBounds_toArray, List.set_cons_succ, List.set_cons_zero]
    refine ⟨.inl ⟨rfl, fun dd w' hd hnx hw hC => ?_⟩, fun e => ?_⟩
    · go_simp
      first | exact ⟨rfl, hC⟩ | exact hC
    have e' : vs 3 = _ := e
    rw [e']
    clear e e'
    simp only [Act.put, List.setIfInBounds_toArray, List.set_cons_succ, List.set_cons_zero]
    refine ⟨.inl ⟨rfl, fun dd w' hd hnx hw hC => ?_⟩, fun e => ?_⟩
    · have h1 : w'.cell? ⟨g, 4, none⟩ = some (.slice Al nl cl) := hC.t.cell (p := ⟨g, 4, none⟩) Q5.out G3.out
      go_simp
      first | exact ⟨rfl, hC⟩ | exact hC
    have e' : vs 4 = _ := e
    rw [e']
    clear e e'
    simp only [Act.put, List.setIfInBounds_toArray, List.set_cons_succ, List.set_cons_zero]
    refine ⟨.inl ⟨rfl, fun dd w' hd hnx hw hC => ?_⟩, fun e => ?_⟩
    · exact ClP.gE_ldR (cs := (enL ⟨2, mi, i, x, ev⟩).toArray) (tEn ⟨2, mi, i, x, ev⟩) rfl (E.out.turn hC.t V3.out).whole ⟨rfl, hC⟩
    have e' : vs 5 = _ := e
    rw [e']
    clear e e'
    simp only [Act.put, List.setIfInBounds_toArray, List.set_cons_succ, List.set_cons_zero]
    refine ⟨.inl ⟨rfl, fun dd w' hd hnx hw hC => ?_⟩, fun e => ?_⟩
    · have h8 : dd 7 = false := hnx 7 (by kernel_rfl)
      have ha := (Below.refl w'.heap.size w').alloc (Nat.le_refl _) (.cells (enL ⟨2, mi, i, x, ev⟩).toArray 59)
      have hbl := hC.b h8
      exact gE_lit1 (x := (⟨2, mi, i, x, ev⟩ : Ent)) eltEnR undEnR (by omega) rfl rfl ⟨⟨_, _, rfl⟩, hC.t.trans (Turn.of_new (S := fun _ => False) ha) (fun _ e => e.elim), (fun _ => hbl.trans (ha.mono hbl.size)), (fun _ _ => ⟨_, _, rfl, sli_lit1 eltEnR (⟨2, mi, i, x, ev⟩ : Ent) w' hbl.size⟩), fun e => by
        have e' : dd 7 = true := e
        rw [h8] at e'; cases e'⟩
    obtain ⟨A7, c7, e'⟩ : ∃ (A : Option Addr) (c : Nat), vs 6 = .slice A 1 c := e
    rw [e']
    have E7 := hid e'
    clear e'
    simp only [Act.put, List.setIfInBounds_toArray, List.set_cons_succ, List.set_cons_zero]
    refine ⟨.inl ⟨rfl, fun dd w' hd hnx hw hC => ?_⟩, fun e => ?_⟩
    · have h7 : dd 6 = true := hw 6 (by kernel_rfl)
      have hbl := hC.b hd
      obtain ⟨A', c', f, sl⟩ := hC.lit h7 hd
      rw [E7.out] at f
      cases f
      have hlen := hid (show (b3).log.length = nl from HNL.out.symm)
      refine gE_appW eltEnR undEnR (B := 0) (v := .slice Al nl cl) (l := (b3).log) (m := [(⟨2, mi, i, x, ev⟩ : Ent)]) rfl rfl (O3.out.below hbl (Nat.le_refl _)) sl (by have := hlen.out; have := hnl2.out; omega) (by omega) (Nat.zero_le _) fun v' w4 o4 g4 wh => ?_
      obtain ⟨A4, c4, rfl, _⟩ := o4.sli enL_len
      refine ⟨⟨A4, c4, by rw [List.length_append, hlen.out]; rfl⟩, ?_⟩
      exact ⟨(Turn.of_new (S := fun b => (Value.slice Al nl cl).ownBlock = some b) hbl).trans (Turn.of_grown (S := fun b => (Value.slice Al nl cl).ownBlock = some b) g4 fun b e => e) (fun b e => .inl e), (fun e => by cases e), (fun _ e => by cases e), fun _ => ⟨o4, fun b e => by
        have e3 : (Value.slice A4 ((b3).log ++ [(⟨2, mi, i, x, ev⟩ : Ent)]).length c4).ownBlock = some b := e
        rcases wh with x | x
        · exact .inl (x.symm.trans e3)
        · rw [x] at e3; cases e3; exact .inr hbl.size⟩⟩
    obtain ⟨A8, c8, e'⟩ : ∃ (A : Option Addr) (c : Nat), vs 7 = .slice A (nl + 1) c := e
    rw [e']
    have E8 := hid e'
    clear e'
    simp only [Act.put, List.setIfInBounds_toArray, List.set_cons_succ, List.set_cons_zero]
    refine ⟨.inl ⟨rfl, fun dd w' hd hnx hw hC => ?_⟩, fun e => ?_⟩
    · go_simp
      first | exact ⟨rfl, hC⟩ | exact hC
    have e' : vs 8 = _ := e
    rw [e']
    clear e e'
    simp only [Act.put, List.setIfInBounds_toArray, List.set_cons_succ, List.set_cons_zero]
    refine ⟨.inl ⟨rfl, fun dd w' hd hnx hw hC => ?_⟩, fun e => ?_⟩
    · go_simp
      first | exact ⟨rfl, hC⟩ | exact hC
    have e' : vs 9 = _ := e
    rw [e']
    clear e e'
    simp only [Act.put, List.setIfInBounds_toArray, List.set_cons_succ, List.set_cons_zero]
    intro dd w4 hall hC
    obtain ⟨o4, wh⟩ := hC.own (hall 7 (by omega))
    rw [E8.out] at o4 wh
    have bb := C3.out.turn hC.t G3.out
    have tu5 := Turn.setCell (S := fun b => b = g) w4 ⟨g, 4, none⟩ (.slice A8 (nl + 1) c8) rfl
    have hne4 : ∀ b, (Value.slice A8 (nl + 1) c8).ownBlock = some b → b ≠ g := fun b e e2 => by
      rcases wh b e with x | x
      · exact G3.out (by rw [x, e2])
      · have := C3.out.lt; omega
    have T5 := hid (show Turn (fun q => q = g ∨ (F3).vl.ownBlock = some q) w9 (w4.setCell ⟨g, 4, none⟩ (.slice A8 (nl + 1) c8)) from
      (hC.t.mono (T := fun q => q = g ∨ (F3).vl.ownBlock = some q) fun q e => .inr (by rw [HV.out]; exact e)).trans tu5 fun q e => .inl (.inl e))
    obtain ⟨i5, u5⟩ := I.out.logged (x := ⟨2, mi, i, x, ev⟩) T5.out (bu_setLg bb _) (o4.turn tu5 hne4) (fun q e => (wh q e).imp (fun x => by rw [HV.out]; exact x) id)
    have E5 := hid ((E.out.turn hC.t V3.out).turn tu5 gEne.out)
    have I5 := hid i5
    have U := hid u5
    have p4 : w4.cell? ⟨g, 4, none⟩ = some (.slice Al nl cl) := by rw [← HV.out]; exact bu_lg bb
    have fz := bb.frozen 4
    clear I E hC o4 wh hall E7 E8 tu5 hne4 C3 Q5 V3 G3 O3 hnl2 HVL HNL HV bb i5 u5 gEne T5
    go_upto_region 7 with fail
    clear p4 fz
    have I := I5
    have E := E5
    clear I5 E5
    generalize World.setCell w4 _ _ = wa at I E U ⊢
    have q67 : wa.cell? ⟨gE, 67, none⟩ = some (.int .i64 ev) := en_qe E.out
    clear E U
    go_wp2_with fail
    go_ret
    have h1 := HB.out
    have h2 := HX.out
    have h3 := HK.out
    have h4 := HM.out
    unfold BuM.wrT
    rw [← h1, h4, h2]
    have h5 := HK3.out
    exact ⟨rfl, (I.out.mono (by omega)).out⟩
  · have t0 : decide (e0 = 0) = false := by simp; omega
    have HX := hid (show BuM.wrB b2 m i x = ⟨2, m, i, x, e0⟩ by unfold BuM.wrB; rw [if_neg (by rw [← HE.out]; exact h0), ← HE.out])
    have HM := hid (show BuM.wrM b2 m i x = b2 by unfold BuM.wrM; rw [if_neg (by rw [← HE.out]; exact h0)])
    go_upto_region 6 with fail
    clear t0 h0 q67 R hRE
    obtain ⟨Al, cl, hvl, _⟩ := I.out.rb.log.sli enL_len
    have HVL := hid hvl
    obtain ⟨nl, hnl⟩ : ∃ n, n = (b2).log.length := ⟨_, rfl⟩
    have HNL := hid hnl
    have HV := hid (show (F2).vl = .slice Al nl cl by rw [hnl]; exact hvl)
    have hnl2 := hid (show nl ≤ 9000 by rw [hnl]; have := I.out.rb.sz.2.2.2; omega)
    have C3 := hid I.out.rb.blk
    have Q5 := hid (show w5.cell? ⟨g, 4, none⟩ = some (.slice Al nl cl) by rw [← HV.out]; exact bu_lg I.out.rb.blk)
    have gEne := hid (show gE ≠ g from fun e => (I.out.vr gE (.inl rfl)).2.2.1 (.inl e))
    have V3 := hid (show (Value.slice Al nl cl).ownBlock ≠ some gE by rw [← HV.out]; exact fun e => (I.out.vr gE (.inl rfl)).2.2.1 (.inr (.inr (.inr (.inr e)))))
    have G3 := hid (show (Value.slice Al nl cl).ownBlock ≠ some g by rw [← HV.out]; exact I.out.rb.g_vl)
    have O3 := hid (show OwnX 59 68 enL w5 0 (.slice Al nl cl) (b2).log by rw [← HV.out]; exact I.out.rb.log)
    clear hvl hnl
    refine wp_region_c (S := yS [some (.pointer (some ⟨g, 0, none⟩)), some (.pointer (some ⟨g, 0, none⟩)), some (.pointer (some ⟨g, 0, none⟩)), some (.pointer (some ⟨g, 4, none⟩)), some (.slice Al nl cl), some (.agg (enL ⟨2, m, i, x, e0⟩).toArray), none, none, some (.pointer (some ⟨g, 0, none⟩)), some (.pointer (some ⟨g, 4, none⟩))]
        [(6, kSl 1), (7, kSl (nl + 1))]) (C := fun d vs w' => ApC 59 68 enL w5 (.slice Al nl cl) (b2).log (⟨2, m, i, x, e0⟩) (d 6) (d 7) (vs 6) (vs 7) w') 10 (by kernel_rfl) (by kernel_rfl) (by kernel_rfl) _
      (yS_ok _ fun y hy => by simp only [List.mem_cons, List.not_mem_nil, or_false] at hy; rcases hy with rfl | rfl <;> exact kSl_ok _) ⟨Turn.drew _, fun _ => (Below.refl _ _).drew, (fun e => by cases e), (fun e => by cases e)⟩ fun vs => ?_
    simp only [List.take_succ_cons, List.take_zero, List.drop_succ_cons, List.drop_zero]
    refine ⟨.inl ⟨rfl, fun dd w' hd hnx hw hC => ?_⟩, fun e => ?_⟩
    · go_simp
      first | exact ⟨rfl, hC⟩ | exact hC
    have e' : vs 0 = _ := e
    rw [e']
    clear e e'
    simp only [Act.put, List.setIfInBounds_toArray, List.set_cons_succ, List.set_cons_zero]
    refine ⟨.inl ⟨rfl, fun dd w' hd hnx hw hC => ?_⟩, fun e => ?_⟩
    · go_simp
      first | exact ⟨rfl, hC⟩ | exact hC
    have e' : vs 1 = _ := e
    rw [e']
    clear e e'
    simp only [Act.put, List.setIfInBounds_toArray, List.set_cons_succ, List.set_cons_zero]
    refine ⟨.inl ⟨rfl, fun dd w' hd hnx hw hC => ?_⟩, fun e => ?_⟩
    · go_simp
      first | exact ⟨rfl, hC⟩ | exact hC
    have e' : vs 2 = _ := e
    rw [e']
    clear e e'
    simp only [Act.put, List.setIfInBounds_toArray, List.set_cons_succ, List.set_cons_zero]
    refine ⟨.inl ⟨rfl, fun dd w' hd hnx hw hC => ?_⟩, fun e => ?_⟩
    · go_simp
      first | exact ⟨rfl, hC⟩ | exact hC
    have e' : vs 3 = _ := e
    rw [e']
    clear e e'
    simp only [Act.put, List.setIfInBounds_toArray, List.set_cons_succ, List.set_cons_zero]
    refine ⟨.inl ⟨rfl, fun dd w' hd hnx hw hC => ?_⟩, fun e => ?_⟩
    · have h1 : w'.cell? ⟨g, 4, none⟩ = some (.slice Al nl cl) := hC.t.cell (p := ⟨g, 4, none⟩) Q5.out G3.out
      go_simp
      first | exact ⟨rfl, hC⟩ | exact hC
    have e' : vs 4 = _ := e
    rw [e']
    clear e e'
    simp only [Act.put, List.setIfInBounds_toArray, List.set_cons_succ, List.set_cons_zero]
    refine ⟨.inl ⟨rfl, fun dd w' hd hnx hw hC => ?_⟩, fun e => ?_⟩
    · exact ClP.gE_ldR (cs := (enL ⟨2, m, i, x, e0⟩).toArray) (tEn ⟨2, m, i, x, e0⟩) rfl (E.out.turn hC.t V3.out).whole ⟨rfl, hC⟩
    have e' : vs 5 = _ := e
    rw [e']
    clear e e'
    simp only [Act.put, List.setIfInBounds_toArray, List.set_cons_succ, List.set_cons_zero]
    refine ⟨.inl ⟨rfl, fun dd w' hd hnx hw hC => ?_⟩, fun e => ?_⟩
    · have h8 : dd 7 = false := hnx 7 (by kernel_rfl)
      have ha := (Below.refl w'.heap.size w').alloc (Nat.le_refl _) (.cells (enL ⟨2, m, i, x, e0⟩).toArray 59)
      have hbl := hC.b h8
      exact gE_lit1 (x := (⟨2, m, i, x, e0⟩ : Ent)) eltEnR undEnR (by omega) rfl rfl ⟨⟨_, _, rfl⟩, hC.t.trans (Turn.of_new (S := fun _ => False) ha) (fun _ e => e.elim), (fun _ => hbl.trans (ha.mono hbl.size)), (fun _ _ => ⟨_, _, rfl, sli_lit1 eltEnR (⟨2, m, i, x, e0⟩ : Ent) w' hbl.size⟩), fun e => by
        have e' : dd 7 = true := e
        rw [h8] at e'; cases e'⟩
    obtain ⟨A7, c7, e'⟩ : ∃ (A : Option Addr) (c : Nat), vs 6 = .slice A 1 c := e
    rw [e']
    have E7 := hid e'
    clear e'
    simp only [Act.put, List.setIfInBounds_toArray, List.set_cons_succ, List.set_cons_zero]
    refine ⟨.inl ⟨rfl, fun dd w' hd hnx hw hC => ?_⟩, fun e => ?_⟩
    · have h7 : dd 6 = true := hw 6 (by kernel_rfl)
      have hbl := hC.b hd
      obtain ⟨A', c', f, sl⟩ := hC.lit h7 hd
      rw [E7.out] at f
      cases f
      have hlen := hid (show (b2).log.length = nl from HNL.out.symm)
      refine gE_appW eltEnR undEnR (B := 0) (v := .slice Al nl cl) (l := (b2).log) (m := [(⟨2, m, i, x, e0⟩ : Ent)]) rfl rfl (O3.out.below hbl (Nat.le_refl _)) sl (by have := hlen.out; have := hnl2.out; omega) (by omega) (Nat.zero_le _) fun v' w4 o4 g4 wh => ?_
      obtain ⟨A4, c4, rfl, _⟩ := o4.sli enL_len
      refine ⟨⟨A4, c4, by rw [List.length_append, hlen.out]; rfl⟩, ?_⟩
      exact ⟨(Turn.of_new (S := fun b => (Value.slice Al nl cl).ownBlock = some b) hbl).trans (Turn.of_grown (S := fun b => (Value.slice Al nl cl).ownBlock = some b) g4 fun b e => e) (fun b e => .inl e), (fun e => by cases e), (fun _ e => by cases e), fun _ => ⟨o4, fun b e => by
        have e3 : (Value.slice A4 ((b2).log ++ [(⟨2, m, i, x, e0⟩ : Ent)]).length c4).ownBlock = some b := e
        rcases wh with x | x
        · exact .inl (x.symm.trans e3)
        · rw [x] at e3; cases e3; exact .inr hbl.size⟩⟩
    obtain ⟨A8, c8, e'⟩ : ∃ (A : Option Addr) (c : Nat), vs 7 = .slice A (nl + 1) c := e
    rw [e']
    have E8 := hid e'
    clear e'
    simp only [Act.put, List.setIfInBounds_toArray, List.set_cons_succ, List.set_cons_zero]
    refine ⟨.inl ⟨rfl, fun dd w' hd hnx hw hC => ?_⟩, fun e => ?_⟩
    · go_simp
      first | exact ⟨rfl, hC⟩ | exact hC
    have e' : vs 8 = _ := e
    rw [e']
    clear e e'
    simp only [Act.put, List.setIfInBounds_toArray, List.set_cons_succ, List.set_cons_zero]
    refine ⟨.inl ⟨rfl, fun dd w' hd hnx hw hC => ?_⟩, fun e => ?_⟩
    · go_simp
      first | exact ⟨rfl, hC⟩ | exact hC
    have e' : vs 9 = _ := e
    rw [e']
    clear e e'
    simp only [Act.put, List.setIfInBounds_toArray, List.set_cons_succ, List.set_cons_zero]
    intro dd w4 hall hC
    obtain ⟨o4, wh⟩ := hC.own (hall 7 (by omega))
    rw [E8.out] at o4 wh
    have bb := C3.out.turn hC.t G3.out
    have tu5 := Turn.setCell (S := fun b => b = g) w4 ⟨g, 4, none⟩ (.slice A8 (nl + 1) c8) rfl
    have hne4 : ∀ b, (Value.slice A8 (nl + 1) c8).ownBlock = some b → b ≠ g := fun b e e2 => by
      rcases wh b e with x | x
      · exact G3.out (by rw [x, e2])
      · have := C3.out.lt; omega
    have T5 := hid (show Turn (fun q => q = g ∨ (F2).vl.ownBlock = some q) w5 (w4.setCell ⟨g, 4, none⟩ (.slice A8 (nl + 1) c8)) from
      (hC.t.mono (T := fun q => q = g ∨ (F2).vl.ownBlock = some q) fun q e => .inr (by rw [HV.out]; exact e)).trans tu5 fun q e => .inl (.inl e))
    obtain ⟨i5, u5⟩ := I.out.logged (x := ⟨2, m, i, x, e0⟩) T5.out (bu_setLg bb _) (o4.turn tu5 hne4) (fun q e => (wh q e).imp (fun x => by rw [HV.out]; exact x) id)
    have E5 := hid ((E.out.turn hC.t V3.out).turn tu5 gEne.out)
    have I5 := hid i5
    have U := hid u5
    have p4 : w4.cell? ⟨g, 4, none⟩ = some (.slice Al nl cl) := by rw [← HV.out]; exact bu_lg bb
    have fz := bb.frozen 4
    clear I E hC o4 wh hall E7 E8 tu5 hne4 C3 Q5 V3 G3 O3 hnl2 HVL HNL HV bb i5 u5 gEne T5
    go_upto_region 7 with fail
    clear p4 fz
    have I := I5
    have E := E5
    clear I5 E5
    generalize World.setCell w4 _ _ = wa at I E U ⊢
    have q67 : wa.cell? ⟨gE, 67, none⟩ = some (.int .i64 e0) := en_qe E.out
    clear E U
    go_wp2_with fail
    go_ret
    have h1 := HB.out
    have h2 := HX.out
    have h3 := HK.out
    have h4 := HM.out
    unfold BuM.wrT
    rw [← h1, h4, h2]
    exact ⟨rfl, (I.out.mono (by omega)).out⟩
set_option maxHeartbeats 2000000 in
set_option maxRecDepth 100000 in
theorem bflush_any {w : World} {g k : Nat} {F : Fp} {b : Bs} (H : Rb w g F k b) (hk : k + b.steps.length + 2 ≤ 8000) (m : Int) : Calls Tryz.prog 26 #[MbP.at' g, .int .i64 m] w fun e w' =>
    e = .returned (.int .i64 (BuM.flB (BuM.ahead b) m).e) ∧ outB w g F (k + b.steps.length + 2) (BuM.flT b m) w' := by
  have I0 := hid (IoS.start H)
  clear H
  unfold MbP.at'
  go_enter Tryz.func26, Tryz.ntmps26
  have I := I0
  clear I0
  go_wp2_with fail
  refine (rahead_any I.out.rb (by omega)).mono ?_
  rintro e w2 ⟨rfl, Ls', r2, l2, t2⟩
  obtain ⟨i2, u2⟩ := I.out.ahead r2 l2 t2
  clear I r2 l2 t2 u2
  obtain ⟨F2, hF2⟩ : ∃ x, x = ({ F with Ls := Ls' } : Fp) := ⟨_, rfl⟩
  obtain ⟨b2, hb2⟩ : ∃ x, x = BuM.ahead b := ⟨_, rfl⟩
  obtain ⟨k2, hk2⟩ : ∃ x, x = k + b.steps.length := ⟨_, rfl⟩
  have HB := hid hb2
  have HK := hid hk2
  rw [← hF2, ← hb2, ← hk2] at i2
  rw [← hk2] at hk
  have I := hid i2
  clear i2 hF2 hb2 hk2
  go_upto_region 3 with (first | ((with_reducible apply wblFl (m := m)); rfl) | (with_reducible apply alZ' zEn) | ((with_reducible apply stR (tEn ⟨3, m, 0, fun _ => 0, 0⟩)); rfl; rfl; exact Blk.new _ _ _; exact en_size _ _; exact en_one' _))
  generalize hw3 : World.setRow _ _ _ = w3
  have b3 : Below w2.heap.size w2 w3 := by rw [← hw3]; exact below_setRow ((Below.refl _ _).alloc (Nat.le_refl _) _) (Nat.le_refl _) _
  have i3 := I.out.var b3 (by rw [← hw3]; simp)
  have e3 : Blk w3 w2.heap.size 59 (enL ⟨3, m, 0, fun _ => 0, 0⟩).toArray := by rw [← hw3]; exact (Blk.new w2 _ _).setRow_same _
  obtain ⟨gE, hgE⟩ : ∃ n, n = w2.heap.size := ⟨_, rfl⟩
  rw [← hgE] at i3 e3 ⊢
  clear I
  have I := hid i3
  have E := hid e3
  clear hw3 b3 i3 e3 hgE
  go_wp2_with fail
  refine (may_any m I.out.rb.blk).mono ?_
  rintro e w4 ⟨rfl, h4⟩
  obtain ⟨e0, he0⟩ : ∃ x, x = BuM.may b2 m := ⟨_, rfl⟩
  have HE := hid he0
  rw [show mayN b2.off b2.ms.length m = e0 from he0.symm]
  replace E := hid (E.out.below h4 E.out.lt)
  replace I := hid (I.out.below h4)
  clear he0 h4
  have q67 : w4.cell? ⟨gE, 67, none⟩ = some (.int .i64 0) := en_qe E.out
  have fz := E.out.frozen 67
  go_upto_region 4 with fail
  have tu := Turn.setCell (S := fun q => q = gE) w4 ⟨gE, 67, none⟩ (.int .i64 e0) rfl
  replace E := hid (en_setE E.out e0)
  replace I := hid (I.out.set (.inl rfl) tu)
  clear tu q67 fz
  generalize World.setCell w4 _ _ = w5 at I E ⊢
  have q67 : w5.cell? ⟨gE, 67, none⟩ = some (.int .i64 e0) := en_qe E.out
  by_cases h0 : e0 = 0
  · subst h0
    obtain ⟨hoff, mi, rfl, hmi⟩ := may_zero HE.out.symm
    have HO := hid hoff
    obtain ⟨gi, hgi⟩ : ∃ gi, F2.gs[mi]? = some gi := ⟨_, List.getElem?_eq_getElem (by rw [I.out.rb.mem.len]; exact hmi)⟩
    obtain ⟨bA, oA, hA, hbS, hbl, hr⟩ := I.out.rb.arr.some hgi
    rw [Nat.mul_one] at hr
    have q1 : w5.cell? ⟨bA, oA + mi, none⟩ = some (.pointer (some ⟨gi, 0, none⟩)) := pt_p hr
    have q0 : w5.cell? ⟨g, 0, none⟩ = some (.slice (some ⟨bA, oA, none⟩) b2.ms.length F2.cm) := by rw [← hA]; exact bu_ms I.out.rb.blk
    obtain ⟨st, hst, rs⟩ := I.out.rb.mem.at hgi
    have RS := hid rs
    have HAT := hid (at_of hst)
    have HGI := hid hgi
    have t9 : (mi : Int) < (b2.ms.length : Int) := by omega
    have t10 : ¬ (mi : Int) < 0 := by omega
    clear hr hA hst rs hgi hoff
    go_wp2_with fail
    refine (rs_flush RS.out (by omega)).mono ?_
    rintro e w6 ⟨rfl, ho6⟩
    clear q67 q1 q0 RS t9 t10 hmi hbl hbS
    obtain ⟨Ls2, i6, u6⟩ := I.out.tell (st := st) HGI.out ho6
    replace E := hid (I.out.keep (.inl rfl) E.out u6)
    obtain ⟨F3, hF3⟩ : ∃ x, x = ({ F2 with Ls := Ls2 } : Fp) := ⟨_, rfl⟩
    obtain ⟨b3, hb3⟩ : ∃ z : Bs, z = ({ b2 with ms := b2.ms.set mi (MbM.flT st) } : Bs) := ⟨_, rfl⟩
    obtain ⟨k3, hk3⟩ : ∃ x, x = k2 + 1 := ⟨_, rfl⟩
    rw [← hF3, ← hb3, ← hk3] at i6
    replace I := hid i6
    have HB3 := hid hb3
    have HK3 := hid hk3
    obtain ⟨ev, hev⟩ : ∃ x, x = MbM.flE st := ⟨_, rfl⟩
    have HEV := hid hev
    rw [← hev]
    have hk3' : k3 + 1 ≤ 8000 := by omega
    clear i6 u6 hF3 hb3 hk3 hev ho6
    have q67 : w6.cell? ⟨gE, 67, none⟩ = some (.int .i64 0) := en_qe E.out
    have fz := E.out.frozen 67
    go_upto_region 6 with fail
    have tu := Turn.setCell (S := fun q => q = gE) w6 ⟨gE, 67, none⟩ (.int .i64 ev) rfl
    replace E := hid (en_setE E.out ev)
    replace I := hid (I.out.set (.inl rfl) tu)
    clear tu q67 fz
    generalize World.setCell w6 _ _ = w9 at I E ⊢
    have HX := hid (show BuM.flB b2 mi = ⟨3, mi, 0, fun _ => 0, ev⟩ by unfold BuM.flB; rw [if_pos HE.out.symm, HAT.out, ← HEV.out]; rfl)
    have HM := hid (show BuM.flM b2 mi = b3 by unfold BuM.flM BuM.upd; rw [if_pos HE.out.symm, HAT.out, HB3.out, Int.toNat_natCast])
    obtain ⟨Al, cl, hvl, _⟩ := I.out.rb.log.sli enL_len
    have HVL := hid hvl
    obtain ⟨nl, hnl⟩ : ∃ n, n = (b3).log.length := ⟨_, rfl⟩
    have HNL := hid hnl
    have HV := hid (show (F3).vl = .slice Al nl cl by rw [hnl]; exact hvl)
    have hnl2 := hid (show nl ≤ 9000 by rw [hnl]; have := I.out.rb.sz.2.2.2; omega)
    have C3 := hid I.out.rb.blk
    have Q5 := hid (show w9.cell? ⟨g, 4, none⟩ = some (.slice Al nl cl) by rw [← HV.out]; exact bu_lg I.out.rb.blk)
    have gEne := hid (show gE ≠ g from fun e => (I.out.vr gE (.inl rfl)).2.2.1 (.inl e))
    have V3 := hid (show (Value.slice Al nl cl).ownBlock ≠ some gE by rw [← HV.out]; exact fun e => (I.out.vr gE (.inl rfl)).2.2.1 (.inr (.inr (.inr (.inr e)))))
    have G3 := hid (show (Value.slice Al nl cl).ownBlock ≠ some g by rw [← HV.out]; exact I.out.rb.g_vl)
    have O3 := hid (show OwnX 59 68 enL w9 0 (.slice Al nl cl) (b3).log by rw [← HV.out]; exact I.out.rb.log)
    clear hvl hnl
    refine wp_region_c (S := yS [some (.pointer (some ⟨g, 0, none⟩)), some (.pointer (some ⟨g, 0, none⟩)), some (.pointer (some ⟨g, 0, none⟩)), some (.pointer (some ⟨g, 4, none⟩)), some (.slice Al nl cl), some (.agg (enL ⟨3, mi, 0, fun _ => 0, ev⟩).toArray), none, none, some (.pointer (some ⟨g, 0, none⟩)), some (.pointer (some ⟨g, 4, none⟩))]
        [(6, kSl 1), (7, kSl (nl + 1))]) (C := fun d vs w' => ApC 59 68 enL w9 (.slice Al nl cl) (b3).log (⟨3, mi, 0, fun _ => 0, ev⟩) (d 6) (d 7) (vs 6) (vs 7) w') 10 (by kernel_rfl) (by kernel_rfl) (by kernel_rfl) _
      (yS_ok _ fun y hy => by simp only [List.mem_cons, List.not_mem_nil, or_false] at hy; rcases hy with rfl | rfl <;> exact kSl_ok _) ⟨Turn.drew _, fun _ => (Below.refl _ _).drew, (fun e => by cases e), (fun e => by cases e)⟩ fun vs => ?_
    simp only [List.take_succ_cons, List.take_zero, List.drop_succ_cons, List.drop_zero]
    refine ⟨.inl ⟨rfl, fun dd w' hd hnx hw hC => ?_⟩, fun e => ?_⟩
    · go_simp
      first | exact ⟨rfl, hC⟩ | exact hC
    have e' : vs 0 = _ := e
    rw [e']
    clear e e'
    simp only [Act.put, List.setIfInBounds_toArray, List.set_cons_succ, List.set_cons_zero]
    refine ⟨.inl ⟨rfl, fun dd w' hd hnx hw hC => ?_⟩, fun e => ?_⟩
    · go_simp
      first | exact ⟨rfl, hC⟩ | exact hC
    have e' : vs 1 = _ := e
    rw [e']
    clear e e'
    simp only [Act.put, List.setIfInBounds_toArray, List.set_cons_succ, List.set_cons_zero]
    refine ⟨.inl ⟨rfl, fun dd w' hd hnx hw hC => ?_⟩, fun e => ?_⟩
    · go_simp
      first | exact ⟨rfl, hC⟩ | exact hC
    have e' : vs 2 = _ := e
    rw [e']
    clear e e'
    simp only [Act.put, List.setIfInBounds_toArray, List.set_cons_succ, List.set_cons_zero]
    refine ⟨.inl ⟨rfl, fun dd w' hd hnx hw hC => ?_⟩, fun e => ?_⟩
    · go_simp
      first | exact ⟨rfl, hC⟩ | exact hC
    have e' : vs 3 = _ := e
    rw [e']
    clear e e'
    simp only [Act.put, List.setIfInBounds_toArray, List.set_cons_succ, List.set_cons_zero]
    refine ⟨.inl ⟨rfl, fun dd w' hd hnx hw hC => ?_⟩, fun e => ?_⟩
    · have h1 : w'.cell? ⟨g, 4, none⟩ = some (.slice Al nl cl) := hC.t.cell (p := ⟨g, 4, none⟩) Q5.out G3.out
      go_simp
      first | exact ⟨rfl, hC⟩ | exact hC
    have e' : vs 4 = _ := e
    rw [e']
    clear e e'
    simp only [Act.put, List.setIfInBounds_toArray, List.set_cons_succ, List.set_cons_zero]
    refine ⟨.inl ⟨rfl, fun dd w' hd hnx hw hC => ?_⟩, fun e => ?_⟩
    · exact ClP.gE_ldR (cs := (enL ⟨3, mi, 0, fun _ => 0, ev⟩).toArray) (tEn ⟨3, mi, 0, fun _ => 0, ev⟩) rfl (E.out.turn hC.t V3.out).whole ⟨rfl, hC⟩
    have e' : vs 5 = _ := e
    rw [e']
    clear e e'
    simp only [Act.put, List.setIfInBounds_toArray, List.set_cons_succ, List.set_cons_zero]
    refine ⟨.inl ⟨rfl, fun dd w' hd hnx hw hC => ?_⟩, fun e => ?_⟩
    · have h8 : dd 7 = false := hnx 7 (by kernel_rfl)
      have ha := (Below.refl w'.heap.size w').alloc (Nat.le_refl _) (.cells (enL ⟨3, mi, 0, fun _ => 0, ev⟩).toArray 59)
      have hbl := hC.b h8
      exact gE_lit1 (x := (⟨3, mi, 0, fun _ => 0, ev⟩ : Ent)) eltEnR undEnR (by omega) rfl rfl ⟨⟨_, _, rfl⟩, hC.t.trans (Turn.of_new (S := fun _ => False) ha) (fun _ e => e.elim), (fun _ => hbl.trans (ha.mono hbl.size)), (fun _ _ => ⟨_, _, rfl, sli_lit1 eltEnR (⟨3, mi, 0, fun _ => 0, ev⟩ : Ent) w' hbl.size⟩), fun e => by
        have e' : dd 7 = true := e
        rw [h8] at e'; cases e'⟩
    obtain ⟨A7, c7, e'⟩ : ∃ (A : Option Addr) (c : Nat), vs 6 = .slice A 1 c := e
    rw [e']
    have E7 := hid e'
    clear e'
    simp only [Act.put, List.setIfInBounds_toArray, List.set_cons_succ, List.set_cons_zero]
    refine ⟨.inl ⟨rfl, fun dd w' hd hnx hw hC => ?_⟩, fun e => ?_⟩
    · have h7 : dd 6 = true := hw 6 (by kernel_rfl)
      have hbl := hC.b hd
      obtain ⟨A', c', f, sl⟩ := hC.lit h7 hd
      rw [E7.out] at f
      cases f
      have hlen := hid (show (b3).log.length = nl from HNL.out.symm)
      refine gE_appW eltEnR undEnR (B := 0) (v := .slice Al nl cl) (l := (b3).log) (m := [(⟨3, mi, 0, fun _ => 0, ev⟩ : Ent)]) rfl rfl (O3.out.below hbl (Nat.le_refl _)) sl (by have := hlen.out; have := hnl2.out; omega) (by omega) (Nat.zero_le _) fun v' w4 o4 g4 wh => ?_
      obtain ⟨A4, c4, rfl, _⟩ := o4.sli enL_len
      refine ⟨⟨A4, c4, by rw [List.length_append, hlen.out]; rfl⟩, ?_⟩
      exact ⟨(Turn.of_new (S := fun b => (Value.slice Al nl cl).ownBlock = some b) hbl).trans (Turn.of_grown (S := fun b => (Value.slice Al nl cl).ownBlock = some b) g4 fun b e => e) (fun b e => .inl e), (fun e => by cases e), (fun _ e => by cases e), fun _ => ⟨o4, fun b e => by
        have e3 : (Value.slice A4 ((b3).log ++ [(⟨3, mi, 0, fun _ => 0, ev⟩ : Ent)]).length c4).ownBlock = some b := e
        rcases wh with x | x
        · exact .inl (x.symm.trans e3)
        · rw [x] at e3; cases e3; exact .inr hbl.size⟩⟩
    obtain ⟨A8, c8, e'⟩ : ∃ (A : Option Addr) (c : Nat), vs 7 = .slice A (nl + 1) c := e
    rw [e']
    have E8 := hid e'
    clear e'
    simp only [Act.put, List.setIfInBounds_toArray, List.set_cons_succ, List.set_cons_zero]
    refine ⟨.inl ⟨rfl, fun dd w' hd hnx hw hC => ?_⟩, fun e => ?_⟩
    · go_simp
      first | exact ⟨rfl, hC⟩ | exact hC
    have e' : vs 8 = _ := e
    rw [e']
    clear e e'
    simp only [Act.put, List.setIfInBounds_toArray, List.set_cons_succ, List.set_cons_zero]
    refine ⟨.inl ⟨rfl, fun dd w' hd hnx hw hC => ?_⟩, fun e => ?_⟩
    · go_simp
      first | exact ⟨rfl, hC⟩ | exact hC
    have e' : vs 9 = _ := e
    rw [e']
    clear e e'
    simp only [Act.put, List.setIfInBounds_toArray, List.set_cons_succ, List.set_cons_zero]
    intro dd w4 hall hC
    obtain ⟨o4, wh⟩ := hC.own (hall 7 (by omega))
    rw [E8.out] at o4 wh
    have bb := C3.out.turn hC.t G3.out
    have tu5 := Turn.setCell (S := fun b => b = g) w4 ⟨g, 4, none⟩ (.slice A8 (nl + 1) c8) rfl
    have hne4 : ∀ b, (Value.slice A8 (nl + 1) c8).ownBlock = some b → b ≠ g := fun b e e2 => by
      rcases wh b e with x | x
      · exact G3.out (by rw [x, e2])
      · have := C3.out.lt; omega
    have T5 := hid (show Turn (fun q => q = g ∨ (F3).vl.ownBlock = some q) w9 (w4.setCell ⟨g, 4, none⟩ (.slice A8 (nl + 1) c8)) from
      (hC.t.mono (T := fun q => q = g ∨ (F3).vl.ownBlock = some q) fun q e => .inr (by rw [HV.out]; exact e)).trans tu5 fun q e => .inl (.inl e))
    obtain ⟨i5, u5⟩ := I.out.logged (x := ⟨3, mi, 0, fun _ => 0, ev⟩) T5.out (bu_setLg bb _) (o4.turn tu5 hne4) (fun q e => (wh q e).imp (fun x => by rw [HV.out]; exact x) id)
    have E5 := hid ((E.out.turn hC.t V3.out).turn tu5 gEne.out)
    have I5 := hid i5
    have U := hid u5
    have p4 : w4.cell? ⟨g, 4, none⟩ = some (.slice Al nl cl) := by rw [← HV.out]; exact bu_lg bb
    have fz := bb.frozen 4
    clear I E hC o4 wh hall E7 E8 tu5 hne4 C3 Q5 V3 G3 O3 hnl2 HVL HNL HV bb i5 u5 gEne T5
    go_upto_region 7 with fail
    clear p4 fz
    have I := I5
    have E := E5
    clear I5 E5
    generalize World.setCell w4 _ _ = wa at I E U ⊢
    have q67 : wa.cell? ⟨gE, 67, none⟩ = some (.int .i64 ev) := en_qe E.out
    clear E U
    go_wp2_with fail
    go_ret
    have h1 := HB.out
    have h2 := HX.out
    have h3 := HK.out
    have h4 := HM.out
    unfold BuM.flT
    rw [← h1, h4, h2]
    have h5 := HK3.out
    exact ⟨rfl, (I.out.mono (by omega)).out⟩
  · have t0 : decide (e0 = 0) = false := by simp; omega
    have HX := hid (show BuM.flB b2 m = ⟨3, m, 0, fun _ => 0, e0⟩ by unfold BuM.flB; rw [if_neg (by rw [← HE.out]; exact h0), ← HE.out]; rfl)
    have HM := hid (show BuM.flM b2 m = b2 by unfold BuM.flM; rw [if_neg (by rw [← HE.out]; exact h0)])
    go_upto_region 6 with fail
    clear t0 h0 q67
    obtain ⟨Al, cl, hvl, _⟩ := I.out.rb.log.sli enL_len
    have HVL := hid hvl
    obtain ⟨nl, hnl⟩ : ∃ n, n = (b2).log.length := ⟨_, rfl⟩
    have HNL := hid hnl
    have HV := hid (show (F2).vl = .slice Al nl cl by rw [hnl]; exact hvl)
    have hnl2 := hid (show nl ≤ 9000 by rw [hnl]; have := I.out.rb.sz.2.2.2; omega)
    have C3 := hid I.out.rb.blk
    have Q5 := hid (show w5.cell? ⟨g, 4, none⟩ = some (.slice Al nl cl) by rw [← HV.out]; exact bu_lg I.out.rb.blk)
    have gEne := hid (show gE ≠ g from fun e => (I.out.vr gE (.inl rfl)).2.2.1 (.inl e))
    have V3 := hid (show (Value.slice Al nl cl).ownBlock ≠ some gE by rw [← HV.out]; exact fun e => (I.out.vr gE (.inl rfl)).2.2.1 (.inr (.inr (.inr (.inr e)))))
    have G3 := hid (show (Value.slice Al nl cl).ownBlock ≠ some g by rw [← HV.out]; exact I.out.rb.g_vl)
    have O3 := hid (show OwnX 59 68 enL w5 0 (.slice Al nl cl) (b2).log by rw [← HV.out]; exact I.out.rb.log)
    clear hvl hnl
    refine wp_region_c (S := yS [some (.pointer (some ⟨g, 0, none⟩)), some (.pointer (some ⟨g, 0, none⟩)), some (.pointer (some ⟨g, 0, none⟩)), some (.pointer (some ⟨g, 4, none⟩)), some (.slice Al nl cl), some (.agg (enL ⟨3, m, 0, fun _ => 0, e0⟩).toArray), none, none, some (.pointer (some ⟨g, 0, none⟩)), some (.pointer (some ⟨g, 4, none⟩))]
        [(6, kSl 1), (7, kSl (nl + 1))]) (C := fun d vs w' => ApC 59 68 enL w5 (.slice Al nl cl) (b2).log (⟨3, m, 0, fun _ => 0, e0⟩) (d 6) (d 7) (vs 6) (vs 7) w') 10 (by kernel_rfl) (by kernel_rfl) (by kernel_rfl) _
      (yS_ok _ fun y hy => by simp only [List.mem_cons, List.not_mem_nil, or_false] at hy; rcases hy with rfl | rfl <;> exact kSl_ok _) ⟨Turn.drew _, fun _ => (Below.refl _ _).drew, (fun e => by cases e), (fun e => by cases e)⟩ fun vs => ?_
    simp only [List.take_succ_cons, List.take_zero, List.drop_succ_cons, List.drop_zero]
    refine ⟨.inl ⟨rfl, fun dd w' hd hnx hw hC => ?_⟩, fun e => ?_⟩
    · go_simp
      first | exact ⟨rfl, hC⟩ | exact hC
    have e' : vs 0 = _ := e
    rw [e']
    clear e e'
    simp only [Act.put, List.setIfInBounds_toArray, List.set_cons_succ, List.set_cons_zero]
    refine ⟨.inl ⟨rfl, fun dd w' hd hnx hw hC => ?_⟩, fun e => ?_⟩
    · go_simp
      first | exact ⟨rfl, hC⟩ | exact hC
    have e' : vs 1 = _ := e
    rw [e']
    clear e e'
    simp only [Act.put, List.setIfInBounds_toArray, List.set_cons_succ, List.set_cons_zero]
    refine ⟨.inl ⟨rfl, fun dd w' hd hnx hw hC => ?_⟩, fun e => ?_⟩
    · go_simp
      first | exact ⟨rfl, hC⟩ | exact hC
    have e' : vs 2 = _ := e
    rw [e']
    clear e e'
    simp only [Act.put, List.setIfInBounds_toArray, List.set_cons_succ, List.set_cons_zero]
    refine ⟨.inl ⟨rfl, fun dd w' hd hnx hw hC => ?_⟩, fun e => ?_⟩
    · go_simp
      first | exact ⟨rfl, hC⟩ | exact hC
    have e' : vs 3 = _ := e
    rw [e']
    clear e e'
    simp only [Act.put, List.setIfInBounds_toArray, List.set_cons_succ, List.set_cons_zero]
    refine ⟨.inl ⟨rfl, fun dd w' hd hnx hw hC => ?_⟩, fun e => ?_⟩
    · have h1 : w'.cell? ⟨g, 4, none⟩ = some (.slice Al nl cl) := hC.t.cell (p := ⟨g, 4, none⟩) Q5.out G3.out
      go_simp
      first | exact ⟨rfl, hC⟩ | exact hC
    have e' : vs 4 = _ := e
    rw [e']
    clear e e'
    simp only [Act.put, List.setIfInBounds_toArray, List.set_cons_succ, List.set_cons_zero]
    refine ⟨.inl ⟨rfl, fun dd w' hd hnx hw hC => ?_⟩, fun e => ?_⟩
    · exact ClP.gE_ldR (cs := (enL ⟨3, m, 0, fun _ => 0, e0⟩).toArray) (tEn ⟨3, m, 0, fun _ => 0, e0⟩) rfl (E.out.turn hC.t V3.out).whole ⟨rfl, hC⟩
    have e' : vs 5 = _ := e
    rw [e']
    clear e e'
    simp only [Act.put, List.setIfInBounds_toArray, List.set_cons_succ, List.set_cons_zero]
    refine ⟨.inl ⟨rfl, fun dd w' hd hnx hw hC => ?_⟩, fun e => ?_⟩
    · have h8 : dd 7 = false := hnx 7 (by kernel_rfl)
      have ha := (Below.refl w'.heap.size w').alloc (Nat.le_refl _) (.cells (enL ⟨3, m, 0, fun _ => 0, e0⟩).toArray 59)
      have hbl := hC.b h8
      exact gE_lit1 (x := (⟨3, m, 0, fun _ => 0, e0⟩ : Ent)) eltEnR undEnR (by omega) rfl rfl ⟨⟨_, _, rfl⟩, hC.t.trans (Turn.of_new (S := fun _ => False) ha) (fun _ e => e.elim), (fun _ => hbl.trans (ha.mono hbl.size)), (fun _ _ => ⟨_, _, rfl, sli_lit1 eltEnR (⟨3, m, 0, fun _ => 0, e0⟩ : Ent) w' hbl.size⟩), fun e => by
        have e' : dd 7 = true := e
        rw [h8] at e'; cases e'⟩
    obtain ⟨A7, c7, e'⟩ : ∃ (A : Option Addr) (c : Nat), vs 6 = .slice A 1 c := e
    rw [e']
    have E7 := hid e'
    clear e'
    simp only [Act.put, List.setIfInBounds_toArray, List.set_cons_succ, List.set_cons_zero]
    refine ⟨.inl ⟨rfl, fun dd w' hd hnx hw hC => ?_⟩, fun e => ?_⟩
    · have h7 : dd 6 = true := hw 6 (by kernel_rfl)
      have hbl := hC.b hd
      obtain ⟨A', c', f, sl⟩ := hC.lit h7 hd
      rw [E7.out] at f
      cases f
      have hlen := hid (show (b2).log.length = nl from HNL.out.symm)
      refine gE_appW eltEnR undEnR (B := 0) (v := .slice Al nl cl) (l := (b2).log) (m := [(⟨3, m, 0, fun _ => 0, e0⟩ : Ent)]) rfl rfl (O3.out.below hbl (Nat.le_refl _)) sl (by have := hlen.out; have := hnl2.out; omega) (by omega) (Nat.zero_le _) fun v' w4 o4 g4 wh => ?_
      obtain ⟨A4, c4, rfl, _⟩ := o4.sli enL_len
      refine ⟨⟨A4, c4, by rw [List.length_append, hlen.out]; rfl⟩, ?_⟩
      exact ⟨(Turn.of_new (S := fun b => (Value.slice Al nl cl).ownBlock = some b) hbl).trans (Turn.of_grown (S := fun b => (Value.slice Al nl cl).ownBlock = some b) g4 fun b e => e) (fun b e => .inl e), (fun e => by cases e), (fun _ e => by cases e), fun _ => ⟨o4, fun b e => by
        have e3 : (Value.slice A4 ((b2).log ++ [(⟨3, m, 0, fun _ => 0, e0⟩ : Ent)]).length c4).ownBlock = some b := e
        rcases wh with x | x
        · exact .inl (x.symm.trans e3)
        · rw [x] at e3; cases e3; exact .inr hbl.size⟩⟩
    obtain ⟨A8, c8, e'⟩ : ∃ (A : Option Addr) (c : Nat), vs 7 = .slice A (nl + 1) c := e
    rw [e']
    have E8 := hid e'
    clear e'
    simp only [Act.put, List.setIfInBounds_toArray, List.set_cons_succ, List.set_cons_zero]
    refine ⟨.inl ⟨rfl, fun dd w' hd hnx hw hC => ?_⟩, fun e => ?_⟩
    · go_simp
      first | exact ⟨rfl, hC⟩ | exact hC
    have e' : vs 8 = _ := e
    rw [e']
    clear e e'
    simp only [Act.put, List.setIfInBounds_toArray, List.set_cons_succ, List.set_cons_zero]
    refine ⟨.inl ⟨rfl, fun dd w' hd hnx hw hC => ?_⟩, fun e => ?_⟩
    · go_simp
      first | exact ⟨rfl, hC⟩ | exact hC
    have e' : vs 9 = _ := e
    rw [e']
    clear e e'
    simp only [Act.put, List.setIfInBounds_toArray, List.set_cons_succ, List.set_cons_zero]
    intro dd w4 hall hC
    obtain ⟨o4, wh⟩ := hC.own (hall 7 (by omega))
    rw [E8.out] at o4 wh
    have bb := C3.out.turn hC.t G3.out
    have tu5 := Turn.setCell (S := fun b => b = g) w4 ⟨g, 4, none⟩ (.slice A8 (nl + 1) c8) rfl
    have hne4 : ∀ b, (Value.slice A8 (nl + 1) c8).ownBlock = some b → b ≠ g := fun b e e2 => by
      rcases wh b e with x | x
      · exact G3.out (by rw [x, e2])
      · have := C3.out.lt; omega
    have T5 := hid (show Turn (fun q => q = g ∨ (F2).vl.ownBlock = some q) w5 (w4.setCell ⟨g, 4, none⟩ (.slice A8 (nl + 1) c8)) from
      (hC.t.mono (T := fun q => q = g ∨ (F2).vl.ownBlock = some q) fun q e => .inr (by rw [HV.out]; exact e)).trans tu5 fun q e => .inl (.inl e))
    obtain ⟨i5, u5⟩ := I.out.logged (x := ⟨3, m, 0, fun _ => 0, e0⟩) T5.out (bu_setLg bb _) (o4.turn tu5 hne4) (fun q e => (wh q e).imp (fun x => by rw [HV.out]; exact x) id)
    have E5 := hid ((E.out.turn hC.t V3.out).turn tu5 gEne.out)
    have I5 := hid i5
    have U := hid u5
    have p4 : w4.cell? ⟨g, 4, none⟩ = some (.slice Al nl cl) := by rw [← HV.out]; exact bu_lg bb
    have fz := bb.frozen 4
    clear I E hC o4 wh hall E7 E8 tu5 hne4 C3 Q5 V3 G3 O3 hnl2 HVL HNL HV bb i5 u5 gEne T5
    go_upto_region 7 with fail
    clear p4 fz
    have I := I5
    have E := E5
    clear I5 E5
    generalize World.setCell w4 _ _ = wa at I E U ⊢
    have q67 : wa.cell? ⟨gE, 67, none⟩ = some (.int .i64 e0) := en_qe E.out
    clear E U
    go_wp2_with fail
    go_ret
    have h1 := HB.out
    have h2 := HX.out
    have h3 := HK.out
    have h4 := HM.out
    unfold BuM.flT
    rw [← h1, h4, h2]
    exact ⟨rfl, (I.out.mono (by omega)).out⟩
end BuP
end Go.Proofs.YthogklchmhjjkaaGreat
set_option maxRecDepth 100000
namespace Go.Proofs.YthogklchmhjjkaaGreat
open Go.ChangeShapes Go.WideShapes Go.ChangeAt Go.RowKit
attribute [local go_sem] Gives
namespace MbP
open MbM
abbrev Ent := Int × (Nat → Nat)
def look : List Ent → Int → Nat → Option (Nat × (Nat → Nat))
  | [], _, _ => none
  | p :: l, i, n => if p.1 = i then some (n, p.2) else look l i (n + 1)
def putE : List Ent → Int → (Nat → Nat) → List Ent
  | [], i, s => [(i, s)]
  | p :: l, i, s => if p.1 = i then (i, s) :: l else p :: putE l i s
def delE : List Ent → Int → List Ent
  | [], _ => []
  | p :: l, i => if p.1 = i then l else p :: delE l i
def getE : List Ent → Int → Nat → Nat
  | [], _ => zero
  | p :: l, i => if p.1 = i then p.2 else getE l i
theorem look_get (i : Int) : ∀ (l : List Ent) (n : Nat), ((look l i n).map (·.2)).getD zero = getE l i
  | [], n => rfl
  | p :: l, n => by
    unfold look getE
    split
    · rfl
    · exact look_get i l (n + 1)
theorem look_some {i : Int} : ∀ {l : List Ent} {n : Nat} {q : Nat × (Nat → Nat)}, look l i n = some q → ∃ d, q.1 = n + d ∧ l[d]? = some (i, q.2) ∧ (∀ s, l.set d (i, s) = putE l i s) ∧ l.eraseIdx d = delE l i
  | [], n, q, h => by cases h
  | p :: l, n, q, h => by
    unfold look at h
    by_cases e : p.1 = i
    · rw [if_pos e] at h
      cases h
      refine ⟨0, rfl, ?_, fun s => ?_, ?_⟩
      · show some p = _; rw [← e]
      · show _ :: _ = _; unfold putE; rw [if_pos e]
      · show l = _; unfold delE; rw [if_pos e]
    · rw [if_neg e] at h
      obtain ⟨d, h1, h2, h3, h4⟩ := look_some h
      refine ⟨d + 1, by omega, h2, fun s => ?_, ?_⟩
      · rw [List.set_cons_succ, h3, putE, if_neg e]
      · rw [List.eraseIdx_cons_succ, h4, delE, if_neg e]
theorem look_none {i : Int} : ∀ {l : List Ent} {n : Nat}, look l i n = none → (∀ s, putE l i s = l ++ [(i, s)]) ∧ delE l i = l
  | [], n, h => ⟨fun s => rfl, rfl⟩
  | p :: l, n, h => by
    unfold look at h
    by_cases e : p.1 = i
    · rw [if_pos e] at h; cases h
    · rw [if_neg e] at h
      obtain ⟨h1, h2⟩ := look_none h
      exact ⟨fun s => by rw [putE, if_neg e, h1]; rfl, by rw [delE, if_neg e, h2]⟩
theorem get_put (i : Int) (s : Nat → Nat) (j : Int) : ∀ l : List Ent, getE (putE l i s) j = if j = i then s else getE l j
  | [] => by
    unfold putE getE getE
    by_cases e : j = i
    · rw [if_pos e.symm, if_pos e]
    · rw [if_neg fun h => e h.symm, if_neg e]
  | p :: l => by
    unfold putE
    by_cases e : p.1 = i
    · rw [if_pos e]
      unfold getE
      by_cases h : j = i
      · rw [if_pos h.symm, if_pos h]
      · rw [if_neg fun x => h x.symm, if_neg h, if_neg fun x => h (x.symm.trans e)]
    · rw [if_neg e]
      unfold getE
      by_cases h : p.1 = j
      · rw [if_pos h, if_pos h, if_neg fun x => e (h.trans x)]
      · rw [if_neg h, if_neg h]; exact get_put i s j l
theorem get_out {i : Int} : ∀ {l : List Ent}, i ∉ l.map (·.1) → getE l i = zero
  | [], _ => rfl
  | p :: l, h => by
    rw [List.map_cons, List.mem_cons, not_or] at h
    unfold getE
    rw [if_neg fun e => h.1 e.symm]
    exact get_out h.2
theorem get_del (i j : Int) : ∀ l : List Ent, (l.map (·.1)).Nodup → getE (delE l i) j = if j = i then zero else getE l j
  | [], _ => by unfold delE getE; split <;> rfl
  | p :: l, h => by
    rw [List.map_cons, List.nodup_cons] at h
    unfold delE
    by_cases e : p.1 = i
    · rw [if_pos e]
      by_cases hj : j = i
      · rw [if_pos hj, hj]; exact get_out (e ▸ h.1)
      · rw [if_neg hj]
        conv => rhs; unfold getE
        rw [if_neg fun x => hj (x.symm.trans e)]
    · rw [if_neg e]
      unfold getE
      by_cases hp : p.1 = j
      · rw [if_pos hp, if_pos hp, if_neg fun x => e (hp.trans x)]
      · rw [if_neg hp, if_neg hp]; exact get_del i j l h.2
theorem del_sub (i : Int) : ∀ l : List Ent, (delE l i).Sublist l
  | [] => List.Sublist.refl _
  | p :: l => by
    unfold delE
    split
    · exact List.sublist_cons_self p l
    · exact (del_sub i l).cons_cons p
theorem nodup_del {i : Int} {l : List Ent} (h : (l.map (·.1)).Nodup) : ((delE l i).map (·.1)).Nodup := List.Nodup.sublist ((del_sub i l).map _) h
theorem mem_put {i k : Int} {s : Nat → Nat} : ∀ {l : List Ent}, k ∈ (putE l i s).map (·.1) → k = i ∨ k ∈ l.map (·.1)
  | [], h => by simpa [putE] using h
  | p :: l, h => by
    unfold putE at h
    by_cases e : p.1 = i
    · rw [if_pos e, List.map_cons, List.mem_cons] at h
      exact h.imp id fun x => List.mem_cons_of_mem _ x
    · rw [if_neg e, List.map_cons, List.mem_cons] at h
      rcases h with h | h
      · exact .inr (by rw [List.map_cons, h]; exact List.mem_cons_self)
      · exact (mem_put h).imp id fun x => List.mem_cons_of_mem _ x
theorem nodup_put {i : Int} {s : Nat → Nat} : ∀ {l : List Ent}, (l.map (·.1)).Nodup → ((putE l i s).map (·.1)).Nodup
  | [], _ => by simp [putE]
  | p :: l, h => by
    rw [List.map_cons, List.nodup_cons] at h
    unfold putE
    by_cases e : p.1 = i
    · rw [if_pos e, List.map_cons, List.nodup_cons]
      exact ⟨e ▸ h.1, h.2⟩
    · rw [if_neg e, List.map_cons, List.nodup_cons]
      exact ⟨fun x => (mem_put x).elim e h.1, nodup_put h.2⟩
/-- What is keyed, and by what. -/
def kvE (e : MapEntry) : Value × Value := (e.key, e.val)
def kvP (p : Ent) : Value × Value := (.int .i64 p.1, .agg (ar 64 p.2))
theorem find_now (i : Int) : ∀ (es : List MapEntry) (l : List Ent) (n : Nat), es.map kvE = l.map kvP → Instr.findNow (.int .i64) (.int .i64 i) es n = some ((look l i n).map fun q => (q.1, Value.agg (ar 64 q.2)))
  | [], [], n, _ => rfl
  | [], _ :: _, n, h => by simp at h
  | _ :: _, [], n, h => by simp at h
  | e :: es, p :: l, n, h => by
    simp only [List.map_cons, List.cons.injEq] at h
    obtain ⟨h1, h2⟩ := h
    have hk : e.key = .int .i64 p.1 := congrArg Prod.fst h1
    have hv : e.val = .agg (ar 64 p.2) := congrArg Prod.snd h1
    unfold Instr.findNow look
    rw [hk, hv]
    by_cases e' : p.1 = i
    · have : (i == p.1) = true := by simp [e']
      simp [Instr.sameNow, this, e']
    · have : (i == p.1) = false := by simp; exact fun h => e' h.symm
      simp only [Instr.sameNow, this, if_neg e', if_true]
      exact find_now i es l (n + 1) h2
/-- Block r is a map of sectors that reads as F. -/
def MapB (w : World) (r : Nat) (F : Img) : Prop := ∃ es clock l, w.heap[r]? = some (.map es clock) ∧ es.toList.map kvE = l.map kvP ∧ (l.map (·.1)).Nodup ∧ ∀ i k, k < 64 → getE l i k = F i k
section
variable {w w' : World} {r : Nat} {F G : Img} {T : Nat → Prop}
theorem MapB.lt (h : MapB w r F) : r < w.heap.size := by
  obtain ⟨es, c, l, h1, _⟩ := h
  exact (Array.getElem?_eq_some_iff.1 h1).1
theorem MapB.turn (h : MapB w r F) (ht : Turn T w w') (hr : ¬ T r) : MapB w' r F := by
  have hl := h.lt
  obtain ⟨es, c, l, h1, h2⟩ := h
  exact ⟨es, c, l, (ht.block r hl hr).trans h1, h2⟩
theorem MapB.below (h : MapB w r F) (hb : Below w.heap.size w w') : MapB w' r F := h.turn (Turn.of_below hb) (by have := h.lt; omega)
theorem MapB.congr (h : MapB w r F) (e : ∀ i k, k < 64 → F i k = G i k) : MapB w r G := by
  obtain ⟨es, c, l, h1, h2, h3, h4⟩ := h
  exact ⟨es, c, l, h1, h2, h3, fun i k hk => (h4 i k hk).trans (e i k hk)⟩
theorem MapB.new (w : World) : MapB (w.alloc (.map #[] 0)) w.heap.size fun _ => zero := ⟨#[], 0, [], heap_alloc_new w _, rfl, List.nodup_nil, fun _ _ _ => rfl⟩
theorem MapB.twin (h : MapB w r F) : ∃ es clock, w.heap[r]? = some (.map es clock) ∧ ∀ w' r', w'.heap[r']? = some (.map es clock) → MapB w' r' F := by
  obtain ⟨es, c, l, h1, h2⟩ := h
  exact ⟨es, c, h1, fun w' r' e => ⟨es, c, l, e, h2⟩⟩
theorem ar_get {l : List Ent} {F : Img} (h : ∀ i k, k < 64 → getE l i k = F i k) (i : Int) : ar 64 (getE l i) = ar 64 (F i) := ar_ext fun k hk => h i k hk
end
theorem undImg : Tryz.prog.underlying 112 = some (.map 3 43) := Tryz.underlying112
theorem undInt : Tryz.prog.underlying 3 = some (.int .i64) := Tryz.underlying3
section
variable {w : World} {r : Nat} {F : Img}
theorem run_chk' (b : Bool) (n : Nat) (i : Int) (w : World) : (Instr.checkKey b (n + 1) 3 (.int .i64 i)).run Tryz.prog w = .ok () w := by
  unfold Instr.checkKey
  simp [run_underlying undInt, Result.andThen]
theorem run_chk (b : Bool) (i : Int) (w : World) : (Instr.checkKey b 10000 3 (.int .i64 i)).run Tryz.prog w = .ok () w := run_chk' b 9999 i w
theorem map_mod {α β : Type} {f : α → β} {g : α → α} {v : β} (hg : ∀ x, f (g x) = v) : ∀ (l : List α) (d : Nat), (l.modify d g).map f = (l.map f).set d v
  | [], d => by simp
  | x :: l, 0 => by simp [hg]
  | x :: l, d + 1 => by simp [map_mod hg l d]
theorem map_era {α β : Type} (f : α → β) : ∀ (l : List α) (d : Nat), (l.eraseIdx d).map f = (l.map f).eraseIdx d
  | [], d => by simp
  | x :: l, 0 => by simp
  | x :: l, d + 1 => by simp [map_era f l d]
theorem run_find {es : Array MapEntry} {l : List Ent} (h : es.toList.map kvE = l.map kvP) (i : Int) (w : World) : (Instr.findKey 3 (.int .i64 i) es.toList).run Tryz.prog w = .ok ((look l i 0).map fun q => (q.1, Value.agg (ar 64 q.2))) w := by
  simp [Instr.findKey, run_underlying undInt, Result.andThen, find_now i es.toList l 0 h]
theorem run_look (h : MapB w r F) (i : Int) : (Instr.lookup 112 (.map (some r)) (.int .i64 i) false).run Tryz.prog w = .ok (.agg (ar 64 (F i))) w := by
  obtain ⟨es, c, l, h1, h2, h3, h4⟩ := h
  have e := look_get i l 0
  cases hl : look l i 0 with
  | none =>
    rw [hl] at e
    have e2 : zero = getE l i := e
    have e3 : ar 64 (fun _ => 0) = ar 64 (F i) := ((by rw [← e2]; rfl : ar 64 (fun _ => 0) = ar 64 (getE l i))).trans (ar_get h4 i)
    simp [Instr.lookup, run_underlying undImg, MapKept.run_getObj_map h1, run_chk, run_find h2, hl, Result.andThen, tSe.zero w, e3]
  | some q =>
    rw [hl] at e
    have e2 : q.2 = getE l i := e
    have e3 : ar 64 q.2 = ar 64 (F i) := by rw [e2]; exact ar_get h4 i
    simp [Instr.lookup, run_underlying undImg, MapKept.run_getObj_map h1, run_chk, run_find h2, hl, Result.andThen, e3]
theorem turn_set (w : World) (r : Nat) (o : Obj) : Turn (fun b => b = r) w { w with heap := w.heap.setIfInBounds r o } := ⟨rfl, rfl, rfl, by simp, fun k _ hk => by
  show (w.heap.setIfInBounds r o)[k]? = _
  rw [Array.getElem?_setIfInBounds_ne fun e => hk e.symm]⟩
theorem run_put (h : MapB w r F) (i : Int) (s : Nat → Nat) : ∃ w', (Instr.mapUpdate 112 (.map (some r)) (.int .i64 i) (.agg (ar 64 s))).run Tryz.prog w = .ok () w' ∧ MapB w' r (upd F ⟨i, s⟩) ∧ Turn (fun b => b = r) w w' := by
  have hlt := h.lt
  obtain ⟨es, c, l, h1, h2, h3, h4⟩ := h
  have hval : ∀ j k, k < 64 → getE (putE l i s) j k = upd F ⟨i, s⟩ j k := fun j k hk => by
    rw [get_put]
    unfold upd
    by_cases e : j = i
    · rw [if_pos e, if_pos e]
    · rw [if_neg e, if_neg e]; exact h4 j k hk
  cases hl : look l i 0 with
  | none =>
    obtain ⟨e1, e2⟩ := look_none hl
    refine ⟨_, by simp [Instr.mapUpdate, run_underlying undImg, MapKept.run_getObj_map h1, run_chk, run_find h2, hl, Result.andThen, MapKept.run_setObj_map _ h1]; rfl, ?_, turn_set _ _ _⟩
    refine ⟨_, _, putE l i s, by simp [hlt]; exact ⟨rfl, rfl⟩, ?_, nodup_put h3, hval⟩
    rw [e1, Array.toList_push, List.map_append, List.map_append, h2]
    rfl
  | some q =>
    obtain ⟨d, e1, e2, e3, e4⟩ := look_some hl
    rw [Nat.zero_add] at e1
    subst e1
    have hd : q.1 < l.length := (List.getElem?_eq_some_iff.1 e2).1
    have hlen : es.size = l.length := by have := congrArg List.length h2; simpa using this
    have hes : q.1 < es.size := by omega
    have hkey : es[q.1].key = .int .i64 i := by
      have := congrArg (fun x => x[q.1]?) h2
      simp only [List.getElem?_map, e2, Array.getElem?_toList, Array.getElem?_eq_getElem hes, Option.map_some, Option.some.injEq] at this
      exact congrArg Prod.fst this
    have hst : ∀ w, (Instr.keyThatStays (.int .i64 i) (.int .i64 i)).run Tryz.prog w = .ok (.int .i64 i) w := fun w => by
      simp [Instr.keyThatStays, Instr.sameBits]
    refine ⟨_, by simp [Instr.mapUpdate, run_underlying undImg, MapKept.run_getObj_map h1, run_chk, run_find h2, hl, Result.andThen, MapKept.run_setObj_map _ h1, Array.getElem?_eq_getElem hes, hkey, hst]; rfl, ?_, turn_set _ _ _⟩
    refine ⟨_, _, putE l i s, by simp [hlt]; exact ⟨rfl, rfl⟩, ?_, nodup_put h3, hval⟩
    rw [← e3, Array.toList_modify, List.map_set, ← h2]
    exact map_mod (f := kvE) (g := fun e => { key := Value.int IntKind.i64 i, val := Value.agg (ar 64 s), born := e.born }) (v := kvP (i, s)) (fun _ => rfl) _ _
theorem run_del {ty : TypeId} (h : MapB w r F) (i : Int) : ∃ w', (Builtin.delete_ #[112, 3] ty #[.map (some r), .int .i64 i]).run Tryz.prog w = .ok (.tuple #[]) w' ∧ MapB w' r (upd F ⟨i, zero⟩) ∧ Turn (fun b => b = r) w w' := by
  have hlt := h.lt
  obtain ⟨es, c, l, h1, h2, h3, h4⟩ := h
  have hval : ∀ j k, k < 64 → getE (delE l i) j k = upd F ⟨i, zero⟩ j k := fun j k hk => by
    rw [get_del i j l h3]
    unfold upd
    by_cases e : j = i
    · rw [if_pos e, if_pos e]
    · rw [if_neg e, if_neg e]; exact h4 j k hk
  cases hl : look l i 0 with
  | none =>
    obtain ⟨e1, e2⟩ := look_none hl
    refine ⟨_, by simp [Builtin.delete_, run_underlying undImg, MapKept.run_getObj_map h1, run_chk, run_find h2, hl, Result.andThen, MapKept.run_setObj_map _ h1]; rfl, ?_, turn_set _ _ _⟩
    exact ⟨_, _, delE l i, by simp [hlt]; exact ⟨rfl, rfl⟩, by rw [e2]; exact h2, nodup_del h3, hval⟩
  | some q =>
    obtain ⟨d, e1, e2, e3, e4⟩ := look_some hl
    rw [Nat.zero_add] at e1
    subst e1
    refine ⟨_, by simp [Builtin.delete_, run_underlying undImg, MapKept.run_getObj_map h1, run_chk, run_find h2, hl, Result.andThen, MapKept.run_setObj_map _ h1]; rfl, ?_, turn_set _ _ _⟩
    refine ⟨_, _, delE l i, by simp [hlt]; exact ⟨rfl, rfl⟩, ?_, nodup_del h3, hval⟩
    rw [← e4, map_era, ← h2, ← map_era]
    congr 1
    rw [Array.toList_eraseIdxIfInBounds]
end
end MbP
end Go.Proofs.YthogklchmhjjkaaGreat
set_option maxRecDepth 100000
namespace Go.Proofs.YthogklchmhjjkaaGreat
open Go.ChangeShapes Go.WideShapes Go.ChangeAt Go.RowKit
attribute [local go_sem] Gives
namespace MbO
open MbM MbP
section
variable {ops : Array Oper} {Q : Exit → Act → World → Prop} {a : Act} {w : World} {rest : List Oper} {dst : Option Tmp} {ty t2 : TypeId} {pos : String} {after : Array Edge} {m x y : Operand} {r : Nat} {i : Int} {F : Img} {s f g : Nat → Nat} {n : Nat} {T : TypeId}
theorem wlookM (hm : a.eval m = .map (some r)) (hx : a.eval x = .int .i64 i) (h : MapB w r F) (hk : wpList Tryz.prog ops Q rest (a.put dst (.agg (ar 64 (F i)))) w) :
    wpList Tryz.prog ops Q (⟨dst, .lookup 112 m x false, ty, pos, after, none⟩ :: rest) a w := by
  have hr := run_look h i
  refine wpList_plain rfl fun K hK => ?_
  unfold Oper.wp execOp
  simp [hm, hx, hr, Result.andThen]
  exact hK _ _ hk
theorem wputM (hm : a.eval m = .map (some r)) (hx : a.eval x = .int .i64 i) (hy : a.eval y = .agg (ar 64 s)) (h : MapB w r F) (hk : ∀ w', MapB w' r (upd F ⟨i, s⟩) → Turn (fun b => b = r) w w' → wpList Tryz.prog ops Q rest (a.put dst undef) w') :
    wpList Tryz.prog ops Q (⟨dst, .mapUpdate 112 m x y, ty, pos, after, none⟩ :: rest) a w := by
  obtain ⟨w', hr, h1, h2⟩ := run_put h i s
  refine wpList_plain rfl fun K hK => ?_
  unfold Oper.wp execOp
  simp [hm, hx, hy, hr, Result.andThen]
  exact hK _ _ (hk w' h1 h2)
theorem wdelM (hm : a.eval m = .map (some r)) (hx : a.eval x = .int .i64 i) (h : MapB w r F) (hk : ∀ w', MapB w' r (upd F ⟨i, zero⟩) → Turn (fun b => b = r) w w' → wpList Tryz.prog ops Q rest (a.put dst (.tuple #[])) w') :
    wpList Tryz.prog ops Q (⟨dst, .call { callee := .builtin .delete, args := #[m, x], argTypes := #[112, 3] }, ty, pos, after, none⟩ :: rest) a w := by
  obtain ⟨w', hr, h1, h2⟩ := run_del (ty := ty) h i
  refine wpList_plain rfl fun K hK => ?_
  unfold Oper.wp execOp
  simp only [resolve, invoke, builtin, Sem.run_bind, Sem.run_pure, Result.andThen_ok, List.map_toArray, List.map_cons, List.map_nil, hm, hx, hr]
  exact hK _ _ (hk w' h1 h2)
theorem weqU (b : Bool) (hT : Tryz.prog.underlying T = some (.array n 5)) (hg : Tryz.prog.eqGuardType Tryz.prog.depth T = false) (hx : a.eval x = .agg (ar n f)) (hy : a.eval y = .agg (ar n g)) (hb : eqA n f g = b) (h : wpList Tryz.prog ops Q rest (a.put dst (.bool b)) w) :
    wpList Tryz.prog ops Q (⟨dst, .binOp .eql T x y t2, ty, pos, after, none⟩ :: rest) a w := by
  have hr := exec_eqU (r := t2) (dst := dst) (ty := ty) (pos := pos) (after := after) (gd := none) (w := w) hT hg hx hy
  rw [hb] at hr
  refine wpList_plain rfl fun K hK => ?_
  unfold Oper.wp
  simp [hr, Result.andThen]
  exact hK _ _ h
end
theorem uSe : Tryz.prog.underlying 43 = some (.array 64 5) := Tryz.underlying43
theorem gSe : Tryz.prog.eqGuardType Tryz.prog.depth 43 = false := by kernel_rfl
set_option maxRecDepth 100000 in
theorem put_any (r : Nat) (F : Img) (i : Int) (x : Nat → Nat) (w : World) (h : MapB w r F) :
    Calls Tryz.prog 71 #[.map (some r), .int .i64 i, .agg (ar 64 x)] w fun e w' => e = .returned (.tuple #[]) ∧ MapB w' r (upd F ⟨i, x⟩) ∧ Turn (fun b => b = r) w w' := by
  have H := hid h
  clear h
  go_enter Tryz.func71, Tryz.ntmps71
  go_upto_region 1 with fail
  generalize hw1 : World.alloc w _ = w1
  have b1 := hid (show Blk w1 w.heap.size 43 (ar 64 x) by rw [← hw1]; exact Blk.new _ _ _)
  have BEL := hid (show Below w.heap.size w w1 by rw [← hw1]; exact (Below.refl _ _).alloc (Nat.le_refl _) _)
  have H1 := hid (H.out.below BEL.out)
  clear hw1 H
  by_cases hz : ∀ k, k < 64 → x k = 0
  · have he := hid (show eqA 64 x (fun _ => 0) = true from eqA_yes hz)
    have HZ := hid hz
    clear hz
    go_wp2_with (first | ((with_reducible apply ldA tSe); rfl; exact b1.out) | ((with_reducible apply bldZr (n := 64)); kernel_rfl) | ((with_reducible apply weqU true uSe gSe); rfl; rfl; exact he.out) | ((with_reducible apply wdelM); rfl; rfl; exact H1.out; intro w2 h2 ht2))
    simp only [Act.put]
    refine bodyPost_ret (results_none rfl _ _ _) rfl ?_
    refine ⟨rfl, h2.congr fun j k hk => ?_, (Turn.of_new BEL.out).trans ht2 fun _ e => .inl e⟩
    unfold upd
    split
    · exact (HZ.out k hk).symm
    · rfl
  · have he := hid (show eqA 64 x (fun _ => 0) = false from eqA_no hz)
    clear hz
    go_wp2_with (first | ((with_reducible apply ldA tSe); rfl; exact b1.out) | ((with_reducible apply bldZr (n := 64)); kernel_rfl) | ((with_reducible apply weqU false uSe gSe); rfl; rfl; exact he.out) | ((with_reducible apply wputM); rfl; rfl; rfl; exact H1.out; intro w2 h2 ht2))
    go_end0
    exact ⟨rfl, h2, (Turn.of_new BEL.out).trans ht2 fun _ e => .inl e⟩
theorem run_eqi_map (w : World) (d : Nat) (p : Option Nat) : (Op.equalIn (d + 1) 112 (.map p) (.map none)).run Tryz.prog w = .ok p.isNone w := by
  cases p <;> simp [Op.equalIn, run_underlying undImg]
theorem run_eq_map (w : World) (p : Option Nat) : (binOp .eql 112 (.map p) (.map none)).run Tryz.prog w = .ok (.bool p.isNone) w := by
  simp only [binOp]
  simp [show Op.equal 112 (.map p) (.map none) = Op.equalIn (9999 + 1) 112 (.map p) (.map none) from rfl, run_eqi_map w 9999 p]
theorem run_ta_map (w : World) (v : Value) (xT : TypeId) : (Instr.typeAssert (.iface 112 v) xT 112 false).run Tryz.prog w = .ok v w := by
  simp [Instr.typeAssert, run_underlying undImg, go_sem, Result.andThen]
theorem run_clone {w : World} {r : Nat} {es : Array MapEntry} {clock : Nat} (t : TypeId) (hb : w.heap[r]? = some (.map es clock)) :
    (Extern.MapsClone.clone #[.iface t (.map (some r))]).run Tryz.prog w = .ok (.iface t (.map (some w.heap.size))) (w.alloc (.map es clock)) := by
  have e : Extern.MapsClone.clone #[.iface t (.map (some r))] = (getObj r >>= fun o => match o with
      | .map entries clock => (newObj (.map entries clock) >>= fun n => pure (.iface t (.map (some n))))
      | _ => stuck "maps.clone: a map expected") := rfl
  rw [e]
  simp [MapKept.run_getObj_map hb, Result.andThen, go_sem]
set_option maxHeartbeats 800000 in
theorem clone_any (r : Nat) (F : Img) (w : World) (h : MapB w r F) :
    Calls Tryz.prog 98 #[.map (some r)] w fun e w' => e = .returned (.map (some w.heap.size)) ∧ MapB w' w.heap.size F ∧ Below w.heap.size w w' ∧ w'.heap.size = w.heap.size + 1 := by
  obtain ⟨es, clock, hb, htw⟩ := h.twin
  have HT := hid htw
  clear h htw
  have hq := fun w => run_eq_map w (some r)
  go_enter Tryz.func98, Tryz.ntmps98
  go_wp2
  rw [run_callFunc_extern Tryz.func101 (by kernel_rfl) (by kernel_rfl) (by kernel_rfl) (e := Extern.MapsClone.clone) (by kernel_rfl), run_clone 112 hb]
  simp only [Result.andThen]
  rw [Oper.upon_value]
  go_wp2
  rw [run_ta_map]
  simp only [Result.andThen]
  rw [Oper.upon_value]
  go_wp2
  go_ret
  exact ⟨rfl, HT.out _ _ (heap_alloc_new w _), (Below.refl _ _).alloc (Nat.le_refl _) _, by simp⟩
/-- Is it made: of a block with sectors. -/
theorem made_any (g : Nat) (n : Int) (hn : 0 < n) (w : World) (h : w.cell? ⟨g, 0, none⟩ = some (.int .i64 n)) :
    Calls Tryz.prog 46 #[.pointer (some ⟨g, 0, none⟩)] w fun e w' => e = .returned (.bool true) ∧ w = w' := by
  have t1 : decide ((0 : Int) < n) = true := by simp; omega
  clear hn
  go_enter Tryz.func46, Tryz.ntmps46
  go_wp2_with fail
  go_ret
  exact ⟨rfl, rfl⟩
theorem find2_any (g : Nat) (n : Int) (hn : 0 < n) (i : Int) (q : Bool) (hq : decide (0 ≤ i ∧ i < n) = q) (w : World) (h : w.cell? ⟨g, 0, none⟩ = some (.int .i64 n)) :
    Calls Tryz.prog 66 #[.pointer (some ⟨g, 0, none⟩), .int .i64 i] w fun e w' => e = .returned (.int .i64 (if q then 0 else 2)) ∧ w = w' := by
  by_cases h0 : 0 ≤ i
  · have t1 : decide (i < 0) = false := by simp; omega
    by_cases h1 : i < n
    · have t2 : decide (n ≤ i) = false := by simp; omega
      have t3 : q = true := by rw [← hq]; simp; omega
      subst t3
      clear hq h0 h1
      go_enter Tryz.func66, Tryz.ntmps66
      go_wp2_with fail
      refine (made_any g n hn w h).mono ?_
      rintro e w' ⟨rfl, rfl⟩
      go_wp2_with fail
      go_ret
      exact ⟨rfl, rfl⟩
    · have t2 : decide (n ≤ i) = true := by simp; omega
      have t3 : q = false := by rw [← hq]; simp; omega
      subst t3
      clear hq h0 h1
      go_enter Tryz.func66, Tryz.ntmps66
      go_wp2_with fail
      refine (made_any g n hn w h).mono ?_
      rintro e w' ⟨rfl, rfl⟩
      go_wp2_with fail
      go_ret
      exact ⟨rfl, rfl⟩
  · have t1 : decide (i < 0) = true := by simp; omega
    have t3 : q = false := by rw [← hq]; simp; omega
    subst t3
    clear hq h0
    go_enter Tryz.func66, Tryz.ntmps66
    go_wp2_with fail
    refine (made_any g n hn w h).mono ?_
    rintro e w' ⟨rfl, rfl⟩
    go_wp2_with fail
    go_ret
    exact ⟨rfl, rfl⟩
theorem reach_any (g : Nat) (n : Int) (hn : 0 < n) (i : Int) (q F : Bool) (hq : decide (0 ≤ i ∧ i < n) = q) (w : World) (h : w.cell? ⟨g, 0, none⟩ = some (.int .i64 n)) (h5 : w.cell? ⟨g, 5, none⟩ = some (.bool F)) :
    Calls Tryz.prog 70 #[.pointer (some ⟨g, 0, none⟩), .int .i64 i] w fun e w' => e = .returned (.int .i64 (if q then (if F then 10 else 0) else 2)) ∧ w = w' := by
  have HQ := hid hq
  clear hq
  go_enter Tryz.func70, Tryz.ntmps70
  go_wp2_with fail
  refine (find2_any g n hn i q HQ.out w h).mono ?_
  rintro e w' ⟨rfl, rfl⟩
  cases q with
  | false =>
    go_wp2_with fail
    go_ret
    exact ⟨rfl, rfl⟩
  | true =>
    cases F with
    | false =>
      go_wp2_with fail
      go_ret
      exact ⟨rfl, rfl⟩
    | true =>
      go_wp2_with fail
      go_ret
      exact ⟨rfl, rfl⟩
theorem yes_any (k : Int) (w : World) : Calls Tryz.prog 80 #[.int .i64 k] w fun e w' => e = .returned (.bool true) ∧ w = w' := by
  go_enter Tryz.func80, Tryz.ntmps80
  go_wp2_with fail
  go_ret
  exact ⟨rfl, rfl⟩
/-- The closure of Crash: is the k-th pick there, and not 0. -/
theorem picked_any (h : Nat) (P : Option Addr) (picks : List Nat) (pn pc : Nat) (k : Nat) (w : World) (hb : w.cell? ⟨h, 0, none⟩ = some (.slice P pn pc)) (ha : Arg w P picks pn pc) :
    Calls Tryz.prog 102 #[.int .i64 k, .pointer (some ⟨h, 0, none⟩)] w fun e w' => e = .returned (.bool (decide (picks.getD k 0 ≠ 0))) ∧ w = w' := by
  have hl := ha.len
  by_cases hk : k < pn
  · obtain ⟨b, o, rfl, hbl, hr⟩ := ha.byt (by omega)
    obtain ⟨x, hx⟩ : ∃ x, x = picks.getD k 0 := ⟨_, rfl⟩
    have q1 : w.cell? ⟨b, o + k, none⟩ = some (.int .u8 (x : Nat)) := by rw [hx]; exact hr k (by omega)
    rw [← hx]
    have t1 : (k : Int) < (pn : Int) := by omega
    clear hx hr ha hl
    by_cases e : x = 0
    · subst e
      go_enter Tryz.func102, Tryz.ntmps102
      go_wp2_with fail
      go_ret
      exact ⟨rfl, rfl⟩
    · have tx : ((x : Int) != 0) = true := by simp; omega
      rw [show decide (x ≠ 0) = true by simp [e]]
      go_enter Tryz.func102, Tryz.ntmps102
      go_wp2_with fail
      go_ret
      exact ⟨rfl, rfl⟩
  · have t1 : decide ((k : Int) < (pn : Int)) = false := by simp; omega
    have HF := hid (show decide (picks.getD k 0 ≠ 0) = false by rw [List.getD_eq_getElem?_getD, List.getElem?_eq_none (by omega)]; rfl)
    clear ha hl
    go_enter Tryz.func102, Tryz.ntmps102
    go_wp2_with fail
    go_ret
    exact ⟨by rw [HF.out]; rfl, rfl⟩
theorem tWr (p : Pt) : RowT 134 (atL p).toArray.size := by
  rw [List.size_toArray, atL_len]
  exact ⟨by kernel_rfl, _, Tryz.underlying134, rfl⟩
theorem at_one (p : Pt) : (atL p).toArray.all (·.oneCell') = true := by
  rw [Array.all_eq_true_iff_forall_mem]
  intro u hu
  exact atL_ones p u (by simpa using hu)
/-- The closure of Set: was it written there. -/
theorem there_any (h : Nat) (i : Int) (p : Pt) (w : World) (hb : w.cell? ⟨h, 0, none⟩ = some (.int .i64 i)) :
    Calls Tryz.prog 97 #[.agg (atL p).toArray, .pointer (some ⟨h, 0, none⟩)] w fun e w' => e = .returned (.bool (decide (p.i = i))) ∧ Below w.heap.size w w' := by
  have hl : h < w.heap.size := World.block_lt_of_cell? w ⟨h, 0, none⟩ hb
  have HB := hid hb
  clear hb
  go_enter Tryz.func97, Tryz.ntmps97
  go_upto_region 1 with fail
  generalize hw1 : World.alloc w _ = w1
  have b1 := hid (show Blk w1 w.heap.size 134 (atL p).toArray by rw [← hw1]; exact Blk.new _ _ _)
  have BEL := hid (show Below w.heap.size w w1 by rw [← hw1]; exact (Below.refl _ _).alloc (Nat.le_refl _) _)
  have q0 : w1.cell? ⟨h, 0, none⟩ = some (.int .i64 i) := (BEL.out.cell (p := ⟨h, 0, none⟩) hl).trans HB.out
  have q1 : w1.cell? ⟨w.heap.size, 0, none⟩ = some (.int .i64 p.i) := at_i b1.out.whole
  clear hw1 HB b1
  go_wp2_with fail
  go_ret
  exact ⟨rfl, BEL.out⟩
end MbO
end Go.Proofs.YthogklchmhjjkaaGreat
set_option maxRecDepth 100000
namespace Go.Proofs.YthogklchmhjjkaaGreat
open Go.ChangeShapes Go.WideShapes Go.ChangeAt Go.RowKit
attribute [local go_sem] Gives
namespace MbP
theorem MapB.obj {w : World} {r : Nat} {F : MbM.Img} (h : MapB w r F) : ∃ es c, w.heap[r]? = some (.map es c) := by
  obtain ⟨es, c, l, h1, _⟩ := h
  exact ⟨es, c, h1⟩
theorem map_ne {w : World} {r b : Nat} {F : MbM.Img} {cs : Array Value} {t : TypeId} {q : Nat × Nat} (h : MapB w r F) (hb : w.heap[b]? = some (.cells cs t q)) : b ≠ r := fun e => by
  obtain ⟨es, c, h1⟩ := h.obj
  rw [← e, hb] at h1
  cases h1
end MbP
namespace MbO
open MbM MbP
theorem eltWr : EltX 134 65 atL where
  pos := by omega
  len := atL_len
  one := atL_ones
  info := elt_info (by kernel_rfl) (by kernel_rfl) (by kernel_rfl)
theorem undWr : Tryz.prog.underlying 113 = some (.slice 134) := Tryz.underlying113
/-- Maps as elements. -/
def imE (r : Option Nat) : List Value := [.map r]
theorem eltIm : EltX 112 1 imE where
  pos := by omega
  len _ := rfl
  one x u hu := by
    unfold imE at hu
    rw [List.mem_singleton] at hu
    subst hu; rfl
  info := elt_info (by kernel_rfl) (by kernel_rfl) (by kernel_rfl)
theorem undIm : Tryz.prog.underlying 114 = some (.slice 112) := Tryz.underlying114
abbrev OwnL (w : World) (B : Nat) (v : Value) (l : List Pt) : Prop := OwnX 134 65 atL w B v l
abbrev OwnM (w : World) (B : Nat) (v : Value) (l : List (Option Nat)) : Prop := OwnX 112 1 imE w B v l
def mbC7 (n : Int) (rs rd : Nat) (vl vm : Value) (f h : Bool) : Array Value := #[.int .i64 n, .map (some rs), .map (some rd), vl, vm, .bool f, .bool h]
/-- Block g holds a member. -/
structure Mm (w : World) (g rs rd : Nat) (vl vm : Value) (ms : List Nat) (n : Int) (S D : Img) (log : List Pt) (marks : List Img) (f h : Bool) : Prop where
  blk : Blk w g 116 (mbC7 n rs rd vl vm f h)
  pos : 0 < n
  seen : MapB w rs S
  dur : MapB w rd D
  lg : OwnL w 0 vl log
  mr : OwnM w 0 vm (ms.map some)
  len : ms.length = marks.length
  im : ∀ (i m : Nat) (F : Img), ms[i]? = some m → marks[i]? = some F → MapB w m F
  ne : rs ≠ rd
  out : ∀ m, m ∈ ms → m ≠ rs ∧ m ≠ rd
/-- What it turns. -/
def mSet (g rs rd : Nat) (vl vm : Value) (b : Nat) : Prop := b = g ∨ b = rs ∨ b = rd ∨ vl.ownBlock = some b ∨ vm.ownBlock = some b
section
variable {w w' : World} {g rs rd : Nat} {vl vm : Value} {ms : List Nat} {n : Int} {S D : Img} {log : List Pt} {marks : List Img} {f h : Bool} {T : Nat → Prop}
theorem Mm.lt (H : Mm w g rs rd vl vm ms n S D log marks f h) {b : Nat} (hb : mSet g rs rd vl vm b ∨ b ∈ ms) : b < w.heap.size := by
  rcases hb with (rfl | rfl | rfl | e | e) | e
  · exact H.blk.lt
  · exact H.seen.lt
  · exact H.dur.lt
  · exact (H.lg.own b e).2
  · exact (H.mr.own b e).2
  · obtain ⟨i, hi⟩ := List.mem_iff_getElem?.1 e
    have hil : i < marks.length := by rw [← H.len]; exact (List.getElem?_eq_some_iff.1 hi).1
    exact (H.im i b _ hi (List.getElem?_eq_getElem hil)).lt
theorem Mm.turn (H : Mm w g rs rd vl vm ms n S D log marks f h) (ht : Turn T w w') (hT : ∀ b, mSet g rs rd vl vm b ∨ b ∈ ms → ¬ T b) : Mm w' g rs rd vl vm ms n S D log marks f h where
  blk := H.blk.turn ht (hT _ (.inl (.inl rfl)))
  pos := H.pos
  seen := H.seen.turn ht (hT _ (.inl (.inr (.inl rfl))))
  dur := H.dur.turn ht (hT _ (.inl (.inr (.inr (.inl rfl)))))
  lg := H.lg.turn ht fun b e => hT b (.inl (.inr (.inr (.inr (.inl e)))))
  mr := H.mr.turn ht fun b e => hT b (.inl (.inr (.inr (.inr (.inr e)))))
  len := H.len
  im i m F h1 h2 := (H.im i m F h1 h2).turn ht (hT m (.inr (List.mem_of_getElem? h1)))
  ne := H.ne
  out := H.out
theorem Mm.below (H : Mm w g rs rd vl vm ms n S D log marks f h) (hb : Below w.heap.size w w') : Mm w' g rs rd vl vm ms n S D log marks f h :=
  H.turn (Turn.of_below hb) fun b e => by have := H.lt e; omega
theorem Mm.g_rs (H : Mm w g rs rd vl vm ms n S D log marks f h) : g ≠ rs := map_ne H.seen H.blk
theorem Mm.g_rd (H : Mm w g rs rd vl vm ms n S D log marks f h) : g ≠ rd := map_ne H.dur H.blk
theorem Mm.l_rs (H : Mm w g rs rd vl vm ms n S D log marks f h) : vl.ownBlock ≠ some rs := fun e => by obtain ⟨c, hc⟩ := H.lg.obj e; exact map_ne H.seen hc rfl
theorem Mm.l_rd (H : Mm w g rs rd vl vm ms n S D log marks f h) : vl.ownBlock ≠ some rd := fun e => by obtain ⟨c, hc⟩ := H.lg.obj e; exact map_ne H.dur hc rfl
theorem Mm.m_rs (H : Mm w g rs rd vl vm ms n S D log marks f h) : vm.ownBlock ≠ some rs := fun e => by obtain ⟨c, hc⟩ := H.mr.obj e; exact map_ne H.seen hc rfl
theorem Mm.m_rd (H : Mm w g rs rd vl vm ms n S D log marks f h) : vm.ownBlock ≠ some rd := fun e => by obtain ⟨c, hc⟩ := H.mr.obj e; exact map_ne H.dur hc rfl
theorem Mm.l_g (H : Mm w g rs rd vl vm ms n S D log marks f h) : vl.ownBlock ≠ some g := fun e => by
  obtain ⟨c, hc⟩ := H.lg.obj e
  have h2 : w.heap[g]? = some (.cells _ 116 (0, 0)) := H.blk
  rw [hc] at h2
  simp at h2
theorem Mm.m_g (H : Mm w g rs rd vl vm ms n S D log marks f h) : vm.ownBlock ≠ some g := fun e => by
  obtain ⟨c, hc⟩ := H.mr.obj e
  have h2 : w.heap[g]? = some (.cells _ 116 (0, 0)) := H.blk
  rw [hc] at h2
  simp at h2
theorem Mm.l_m (H : Mm w g rs rd vl vm ms n S D log marks f h) {b : Nat} (e : vl.ownBlock = some b) : vm.ownBlock ≠ some b := fun e2 => by
  obtain ⟨c, hc⟩ := H.lg.obj e
  obtain ⟨c2, hc2⟩ := H.mr.obj e2
  rw [hc] at hc2
  simp at hc2
theorem Mm.im_lt (H : Mm w g rs rd vl vm ms n S D log marks f h) {m : Nat} (hm : m ∈ ms) : ∃ F, MapB w m F := by
  obtain ⟨i, hi⟩ := List.mem_iff_getElem?.1 hm
  have hil : i < marks.length := by rw [← H.len]; exact (List.getElem?_eq_some_iff.1 hi).1
  exact ⟨_, H.im i m _ hi (List.getElem?_eq_getElem hil)⟩
theorem Mm.own (H : Mm w g rs rd vl vm ms n S D log marks f h) {b : Nat} (hb : mSet g rs rd vl vm b) : ¬ b ∈ ms := fun hm => by
  obtain ⟨F, hF⟩ := H.im_lt hm
  rcases hb with rfl | rfl | rfl | e | e
  · exact map_ne hF H.blk rfl
  · exact (H.out _ hm).1 rfl
  · exact (H.out _ hm).2 rfl
  · obtain ⟨c, hc⟩ := H.lg.obj e; exact map_ne hF hc rfl
  · obtain ⟨c, hc⟩ := H.mr.obj e; exact map_ne hF hc rfl
/-- Cells of the member's own block alone are turned. -/
theorem Mm.flags (H : Mm w g rs rd vl vm ms n S D log marks f h) (f' h' : Bool) (ht : Turn (fun b => b = g) w w') (hb : Blk w' g 116 (mbC7 n rs rd vl vm f' h')) : Mm w' g rs rd vl vm ms n S D log marks f' h' where
  blk := hb
  pos := H.pos
  seen := H.seen.turn ht fun e => H.g_rs e.symm
  dur := H.dur.turn ht fun e => H.g_rd e.symm
  lg := H.lg.turn ht fun b e e2 => H.l_g (by rw [e, e2])
  mr := H.mr.turn ht fun b e e2 => H.m_g (by rw [e, e2])
  len := H.len
  im i m F h1 h2 := (H.im i m F h1 h2).turn ht fun e => map_ne (H.im i m F h1 h2) H.blk e.symm
  ne := H.ne
  out := H.out
end
def Rep (w : World) (g : Nat) (M I : Nat → Prop) (k : Nat) (st : St) : Prop := ∃ rs rd vl vm ms, Mm w g rs rd vl vm ms st.n (MbM.seen st) st.dur st.log st.marks st.fails st.hurt ∧
  (st.log.length ≤ k ∧ st.marks.length ≤ 64 ∧ st.n ≤ 65536) ∧ M = mSet g rs rd vl vm ∧ I = fun b => b ∈ ms
/-- What a call leaves of a member. -/
theorem Rep.out {w w' : World} {g rs rd : Nat} {vl vm : Value} {ms : List Nat} {rs' rd' : Nat} {vl' vm' : Value} {ms' : List Nat} {k : Nat} {st' : St}
    (H : Mm w' g rs' rd' vl' vm' ms' st'.n (MbM.seen st') st'.dur st'.log st'.marks st'.fails st'.hurt) (hk : st'.log.length ≤ k ∧ st'.marks.length ≤ 64 ∧ st'.n ≤ 65536)
    (hM : ∀ b, mSet g rs' rd' vl' vm' b → mSet g rs rd vl vm b ∨ w.heap.size ≤ b) (hI : ∀ b, b ∈ ms' → b ∈ ms ∨ w.heap.size ≤ b) (ht : Turn (mSet g rs rd vl vm) w w') :
    outP Rep w g (mSet g rs rd vl vm) (fun b => b ∈ ms) k st' w' :=
  ⟨_, _, ⟨rs', rd', vl', vm', ms', H, hk, rfl, rfl⟩, hM, fun b e => .inr (hI b e), ht⟩
theorem Rep.same {w w' : World} {g : Nat} {M I : Nat → Prop} {k : Nat} {st : St} (h : Rep w g M I k st) (hb : Below w.heap.size w w') : outP Rep w g M I k st w' := by
  obtain ⟨rs, rd, vl, vm, ms, H, hk, rfl, rfl⟩ := h
  exact Rep.out (H.below hb) hk (fun b e => .inl e) (fun b e => .inl e) (Turn.of_new hb)
section
variable {ops : Array Oper} {Q : Exit → Act → World → Prop} {a : Act} {w : World} {rest : List Oper} {dst : Option Tmp} {ty : TypeId} {pos : String} {after : Array Edge}
theorem wmkM {T : TypeId} (h : wpList Tryz.prog ops Q rest (a.put dst (.map (some w.heap.size))) (w.alloc (.map #[] 0))) :
    wpList Tryz.prog ops Q (⟨dst, .makeMap T none, ty, pos, after, none⟩ :: rest) a w := by
  have hr : (Instr.makeMap T none).run Tryz.prog w = .ok (.map (some w.heap.size)) (w.alloc (.map #[] 0)) := by
    simp [Instr.makeMap, go_sem, Result.andThen]
  refine wpList_plain rfl fun K hK => ?_
  unfold Oper.wp execOp
  simp only [Option.map_none, Sem.run_bind, hr, Result.andThen_ok, Sem.run_pure]
  exact hK _ _ h
end
theorem built_new (n : Int) (r1 r2 : Nat) : Tryz.prog.built 116 [(0, .int .i64 n), (1, .map (some r1)), (2, .map (some r2))] = some (mbC7 n r1 r2 (.slice none 0 0) (.slice none 0 0) false false) := by kernel_rfl
section
variable {ops : Array Oper} {Q : Exit → Act → World → Prop} {a : Act} {w : World} {rest : List Oper} {dst : Option Tmp} {ty : TypeId} {pos : String} {after : Array Edge} {x y z : Operand} {n : Int} {r1 r2 : Nat}
theorem bldMb (hx : a.eval x = .int .i64 n) (hy : a.eval y = .map (some r1)) (hz : a.eval z = .map (some r2)) (hk : wpList Tryz.prog ops Q rest (a.put dst (.agg (mbC7 n r1 r2 (.slice none 0 0) (.slice none 0 0) false false))) w) :
    wpList Tryz.prog ops Q (⟨dst, .build 116 #[(0, x), (1, y), (2, z)], ty, pos, after, none⟩ :: rest) a w := by
  have hr : (Instr.build 116 #[(0, .int .i64 n), (1, .map (some r1)), (2, .map (some r2))]).run Tryz.prog w = .ok (.agg (mbC7 n r1 r2 (.slice none 0 0) (.slice none 0 0) false false)) w := run_build w _ _ _ (built_new n r1 r2)
  refine wpList_plain rfl fun K hK => ?_
  unfold Oper.wp execOp
  simp [hx, hy, hz, hr, Result.andThen]
  exact hK _ _ hk
end
theorem new_any (n : Int) (h1 : 1 ≤ n) (h2 : n ≤ 65536) (w : World) : Calls Tryz.prog 19 #[.int .i64 n] w fun e w' => ∃ g M I, e = .returned (.tuple #[at' g, .int .i64 0]) ∧ Rep w' g M I 0 (made n) ∧ (∀ b, M b ∨ I b → w.heap.size ≤ b) ∧ Below w.heap.size w w' := by
  have t1 : decide (n < 1) = false := by simp; omega
  have t2 : decide ((65536 : Int) < n) = false := by simp; omega
  go_enter Tryz.func19, Tryz.ntmps19
  go_wp2_with (first | (with_reducible apply wmkM) | ((with_reducible apply bldMb); rfl; rfl; rfl))
  go_ret2
  refine ⟨w.heap.size + 2, mSet (w.heap.size + 2) w.heap.size (w.heap.size + 1) (.slice none 0 0) (.slice none 0 0), fun b => b ∈ [], by simp [at'], ?_, ?_, ?_⟩
  · refine ⟨w.heap.size, w.heap.size + 1, _, _, [], ?_, ⟨Nat.zero_le _, Nat.zero_le _, h2⟩, rfl, rfl⟩
    have m0 := MapB.new w
    have m1 : MapB ((w.alloc (.map #[] 0)).alloc (.map #[] 0)) (w.heap.size + 1) fun _ => zero := by
      have := MapB.new (w.alloc (.map #[] 0))
      rwa [show (w.alloc (.map #[] 0)).heap.size = w.heap.size + 1 by simp] at this
    have hb : ∀ (w : World) (o : Obj), Below w.heap.size w (w.alloc o) := fun w o => (Below.refl _ _).alloc (Nat.le_refl _) _
    exact ⟨Blk.top rfl (by simp), by show 0 < n; omega, (m0.below (hb _ _)).below (hb _ _), m1.below (hb _ _), OwnX.nil _ _ _ _ _, OwnX.nil _ _ _ _ _, rfl, fun i m F h => by simp at h, by omega, fun m h => by simp at h⟩
  · intro b hb
    rcases hb with (rfl | rfl | rfl | e | e) | e
    · omega
    · omega
    · omega
    · cases e
    · cases e
    · cases e
  · exact (((Below.refl _ _).alloc (Nat.le_refl _) _).alloc (by simp) _).alloc (by simp; omega) _
theorem bad_any (n : Int) (hn : ¬ (1 ≤ n ∧ n ≤ 65536)) (w : World) : Calls Tryz.prog 19 #[.int .i64 n] w fun e w' => e = .returned (.tuple #[.pointer none, .int .i64 2]) ∧ Below w.heap.size w w' := by
  by_cases h1 : n < 1
  · have t1 : decide (n < 1) = true := by simp; omega
    clear hn
    go_enter Tryz.func19, Tryz.ntmps19
    go_wp2_with fail
    go_ret2
    exact ⟨rfl, Below.refl _ _⟩
  · have t1 : decide (n < 1) = false := by simp; omega
    have t2 : decide ((65536 : Int) < n) = true := by simp; omega
    clear hn
    go_enter Tryz.func19, Tryz.ntmps19
    go_wp2_with fail
    go_ret2
    exact ⟨rfl, Below.refl _ _⟩
section
variable {w : World} {g rs rd : Nat} {vl vm : Value} {ms : List Nat} {n : Int} {S D : Img} {log : List Pt} {marks : List Img} {f h : Bool}
set_option maxRecDepth 100000 in
theorem read2_any (H : Mm w g rs rd vl vm ms n S D log marks f h) (i : Int) (q : Bool) (hq : decide (0 ≤ i ∧ i < n) = q) :
    Calls Tryz.prog 45 #[at' g, .int .i64 i] w fun e w' => e = .returned (.tuple #[.agg (ar 64 (if q then (if f then zero else S i) else zero)), .int .i64 (if q then (if f then 10 else 0) else 2)]) ∧ Below w.heap.size w w' := by
  have HH := hid H
  have HQ := hid hq
  unfold at'
  clear H hq
  go_enter Tryz.func45, Tryz.ntmps45
  go_upto_region 1 with (with_reducible apply alA tSe)
  generalize hw1 : World.alloc w _ = w1
  have b1 := hid (show Blk w1 w.heap.size 43 (ar 64 fun _ => 0) by rw [← hw1]; exact Blk.new _ _ _)
  have BEL := hid (show Below w.heap.size w w1 by rw [← hw1]; exact (Below.refl _ _).alloc (Nat.le_refl _) _)
  have H1 := hid (HH.out.below BEL.out)
  clear hw1 HH
  have p0 : w1.cell? ⟨g, 0, none⟩ = some (.int .i64 n) := H1.out.blk.cell 0
  have p5 : w1.cell? ⟨g, 5, none⟩ = some (.bool f) := H1.out.blk.cell 5
  have hn := hid H1.out.pos
  go_wp2_with fail
  refine (reach_any g n hn.out i q f HQ.out w1 p0 p5).mono ?_
  rintro e w' ⟨rfl, rfl⟩
  cases q with
  | false =>
    have bz := b1.out.setRow_same (ar 64 fun _ => 0)
    have bb := hid (below_setRow BEL.out (Nat.le_refl w.heap.size) (ar 64 fun _ => 0))
    go_wp2_with (first | ((with_reducible apply bldZr (n := 64)); kernel_rfl) | ((with_reducible apply stA tSe); rfl; rfl; exact b1.out))
    apply retA tSe Tryz.results45
    · rfl
    · rfl
    · rfl
    · exact bz
    · exact ⟨rfl, bb.out⟩
  | true =>
    cases f with
    | true =>
      have bz := b1.out.setRow_same (ar 64 fun _ => 0)
      have bb := hid (below_setRow BEL.out (Nat.le_refl w.heap.size) (ar 64 fun _ => 0))
      go_wp2_with (first | ((with_reducible apply bldZr (n := 64)); kernel_rfl) | ((with_reducible apply stA tSe); rfl; rfl; exact b1.out))
      apply retA tSe Tryz.results45
      · rfl
      · rfl
      · rfl
      · exact bz
      · exact ⟨rfl, bb.out⟩
    | false =>
      have p1 : w1.cell? ⟨g, 1, none⟩ = some (.map (some rs)) := H1.out.blk.cell 1
      have bz := b1.out.setRow_same (ar 64 (S i))
      have bb := hid (below_setRow BEL.out (Nat.le_refl w.heap.size) (ar 64 (S i)))
      go_wp2_with (first | ((with_reducible apply wlookM); rfl; rfl; exact H1.out.seen) | ((with_reducible apply stA tSe); rfl; rfl; exact b1.out))
      apply retA tSe Tryz.results45
      · rfl
      · rfl
      · rfl
      · exact bz
      · exact ⟨rfl, bb.out⟩
set_option maxRecDepth 100000 in
theorem look2_any (H : Mm w g rs rd vl vm ms n S D log marks f h) (i : Int) (q : Bool) (hq : decide (0 ≤ i ∧ i < n) = q) :
    Calls Tryz.prog 37 #[at' g, .int .i64 i] w fun e w' => e = .returned (.tuple #[.agg (ar 64 (if q then D i else zero)), .int .i64 (if q then 0 else 2)]) ∧ Below w.heap.size w w' := by
  have HH := hid H
  have HQ := hid hq
  unfold at'
  clear H hq
  go_enter Tryz.func37, Tryz.ntmps37
  go_upto_region 1 with (with_reducible apply alA tSe)
  generalize hw1 : World.alloc w _ = w1
  have b1 := hid (show Blk w1 w.heap.size 43 (ar 64 fun _ => 0) by rw [← hw1]; exact Blk.new _ _ _)
  have BEL := hid (show Below w.heap.size w w1 by rw [← hw1]; exact (Below.refl _ _).alloc (Nat.le_refl _) _)
  have H1 := hid (HH.out.below BEL.out)
  clear hw1 HH
  have p0 : w1.cell? ⟨g, 0, none⟩ = some (.int .i64 n) := H1.out.blk.cell 0
  have hn := hid H1.out.pos
  go_wp2_with fail
  refine (find2_any g n hn.out i q HQ.out w1 p0).mono ?_
  rintro e w' ⟨rfl, rfl⟩
  cases q with
  | false =>
    have bz := b1.out.setRow_same (ar 64 fun _ => 0)
    have bb := hid (below_setRow BEL.out (Nat.le_refl w.heap.size) (ar 64 fun _ => 0))
    go_wp2_with (first | ((with_reducible apply bldZr (n := 64)); kernel_rfl) | ((with_reducible apply stA tSe); rfl; rfl; exact b1.out))
    apply retA tSe Tryz.results37
    · rfl
    · rfl
    · rfl
    · exact bz
    · exact ⟨rfl, bb.out⟩
  | true =>
    have p1 : w1.cell? ⟨g, 2, none⟩ = some (.map (some rd)) := H1.out.blk.cell 2
    have bz := b1.out.setRow_same (ar 64 (D i))
    have bb := hid (below_setRow BEL.out (Nat.le_refl w.heap.size) (ar 64 (D i)))
    go_wp2_with (first | ((with_reducible apply wlookM); rfl; rfl; exact H1.out.dur) | ((with_reducible apply stA tSe); rfl; rfl; exact b1.out))
    apply retA tSe Tryz.results37
    · rfl
    · rfl
    · rfl
    · exact bz
    · exact ⟨rfl, bb.out⟩
theorem touched2_any (H : Mm w g rs rd vl vm ms n S D log marks f h) : Calls Tryz.prog 15 #[at' g] w fun e w' => e = .returned (.bool h) ∧ w = w' := by
  have p0 : w.cell? ⟨g, 0, none⟩ = some (.int .i64 n) := H.blk.cell 0
  have p6 : w.cell? ⟨g, 6, none⟩ = some (.bool h) := H.blk.cell 6
  have hn := hid H.pos
  unfold at'
  clear H
  go_enter Tryz.func15, Tryz.ntmps15
  go_wp2_with fail
  refine (made_any g n hn.out w p0).mono ?_
  rintro e w' ⟨rfl, rfl⟩
  go_wp2_with fail
  go_ret
  exact ⟨rfl, rfl⟩
theorem len2_any (H : Mm w g rs rd vl vm ms n S D log marks f h) : Calls Tryz.prog 42 #[at' g] w fun e w' => e = .returned (.int .i64 n) ∧ w = w' := by
  have p0 : w.cell? ⟨g, 0, none⟩ = some (.int .i64 n) := H.blk.cell 0
  have hn := hid H.pos
  unfold at'
  clear H
  go_enter Tryz.func42, Tryz.ntmps42
  go_wp2_with fail
  refine (made_any g n hn.out w p0).mono ?_
  rintro e w' ⟨rfl, rfl⟩
  go_wp2_with fail
  go_ret
  exact ⟨rfl, rfl⟩
theorem unflushed2_any (H : Mm w g rs rd vl vm ms n S D log marks f h) : Calls Tryz.prog 36 #[at' g] w fun e w' => e = .returned (.int .i64 (log.length : Nat)) ∧ w = w' := by
  have p0 : w.cell? ⟨g, 0, none⟩ = some (.int .i64 n) := H.blk.cell 0
  obtain ⟨A, c, e, _⟩ := H.lg.sli atL_len
  have p3 : w.cell? ⟨g, 3, none⟩ = some (.slice A log.length c) := by rw [← e]; exact H.blk.cell 3
  have hn := hid H.pos
  unfold at'
  clear H e
  go_enter Tryz.func36, Tryz.ntmps36
  go_wp2_with fail
  refine (made_any g n hn.out w p0).mono ?_
  rintro e w' ⟨rfl, rfl⟩
  go_wp2_with fail
  go_ret
  exact ⟨rfl, rfl⟩
theorem fail2_any (H : Mm w g rs rd vl vm ms n S D log marks f h) (q : Bool) : Calls Tryz.prog 92 #[at' g, .bool q] w fun e w' => e = .returned (.int .i64 0) ∧ Mm w' g rs rd vl vm ms n S D log marks q (h || q) ∧ Turn (fun b => b = g) w w' := by
  have p0 : w.cell? ⟨g, 0, none⟩ = some (.int .i64 n) := H.blk.cell 0
  have HH := hid H
  have hn := hid H.pos
  have fz := H.blk.frozen 5
  have p5 : w.cell? ⟨g, 5, none⟩ = some (.bool f) := H.blk.cell 5
  unfold at'
  clear H
  go_enter Tryz.func92, Tryz.ntmps92
  go_wp2_with fail
  refine (made_any g n hn.out w p0).mono ?_
  rintro e w' ⟨rfl, rfl⟩
  go_upto_region 4 with fail
  have b1 : Blk (w.setCell ⟨g, 5, none⟩ (.bool q)) g 116 (mbC7 n rs rd vl vm q h) := HH.out.blk.setCell_same 5 (.bool q)
  have tu := Turn.setCell (S := fun b => b = g) w ⟨g, 5, none⟩ (.bool q) rfl
  have H1 := hid (HH.out.flags q h tu b1)
  have TU := hid tu
  generalize World.setCell w _ _ = w1 at H1 TU ⊢
  have p6 : w1.cell? ⟨g, 6, none⟩ = some (.bool h) := H1.out.blk.cell 6
  have fz := H1.out.blk.frozen 6
  have b2 : Blk (w1.setCell ⟨g, 6, none⟩ (.bool (h || q))) g 116 (mbC7 n rs rd vl vm q (h || q)) := H1.out.blk.setCell_same 6 (.bool (h || q))
  have tu2 := Turn.setCell (S := fun b => b = g) w1 ⟨g, 6, none⟩ (.bool (h || q)) rfl
  have hfin := hid (And.intro (H1.out.flags q (h || q) tu2 b2) (TU.out.trans tu2 fun _ e => .inl e))
  clear HH b1 tu H1 TU b2 tu2
  cases h with
  | false =>
    go_wp2_with fail
    go_ret
    exact ⟨rfl, hfin.out⟩
  | true =>
    go_wp2_with fail
    go_ret
    exact ⟨rfl, hfin.out⟩
end
end MbO
end Go.Proofs.YthogklchmhjjkaaGreat
