/-
  The document's crash of all members.
  The document's bus in memory: members, cell, steps, log.
  The document's steps ahead of an I/O.
  An entry of the document's log as a row; what a bus is behind an entry, a member's, the cell's call.
  The document's bus in the midst of an I/O: what it is, what has been turned, and the call's own variables.
  The document's Copy and Same.
  The law CellPlays.
  The document's Read of a bus.
  The document's Cell and Advance of a bus.
-/
import Derived.Test.YthogklchmhjjkaaGreatMrg3
set_option linter.unusedVariables false
set_option linter.unusedSimpArgs false
set_option maxRecDepth 100000
namespace Go.Proofs.YthogklchmhjjkaaGreat
open Go.ChangeShapes Go.WideShapes Go.ChangeAt Go.RowKit
attribute [local go_sem] Gives GivesE
namespace BuP
open BuM MbM MbP
def byL (x : Nat) : List Value := [.int .u8 (x : Nat)]
theorem eltBy : EltX 5 1 byL where
  pos := by omega
  len _ := rfl
  one x u hu := by
    unfold byL at hu
    rw [List.mem_singleton] at hu
    subst hu; rfl
  info := elt_info (by kernel_rfl) (by kernel_rfl) (by kernel_rfl)
theorem undBy : Tryz.prog.underlying 60 = some (.slice 5) := Tryz.underlying60
theorem sli_arg {w : World} {S : Nat → Prop} {A : Option Addr} {l : List Nat} {n c : Nat} (h : Sli 1 byL S w A l n c) (hb : B256 l) : Arg w A l n c where
  len := h.len
  cap := h.cap
  max := h.max
  b256 := hb
  none := h.none
  byt hn := by
    obtain ⟨b, o, e, _, hl, hr⟩ := h.lst hn
    refine ⟨b, o, e, hl, fun i hi => ?_⟩
    have := hr i l[i] (List.getElem?_eq_getElem hi) 0 _ rfl
    rw [Nat.mul_one, Nat.add_zero] at this
    rw [this, List.getD_eq_getElem?_getD, List.getElem?_eq_getElem hi]; rfl
theorem rs_log {w : World} {g k : Nat} {L : Nat → Prop} {st : St} (h : RS w g L k st) : ∃ A c, w.cell? ⟨g, 2, none⟩ = some (.slice A st.log.length c) := by
  obtain ⟨s, ⟨A1, c1, A2, c2, A3, c3, hr⟩, rfl, _⟩ := h
  exact ⟨A2, c2, by rw [hr.blk.cell]; rfl⟩
theorem rs_loglen {w : World} {g k : Nat} {L : Nat → Prop} {st : St} (h : RS w g L k st) : st.log.length ≤ k := by
  obtain ⟨s, _, rfl, h3⟩ := h
  exact Nat.le_trans (Nat.le_add_left _ _) h3.1
theorem take_one {l : List Nat} {a j : Nat} (h : a + j < l.length) : (l.drop a).take (j + 1) = (l.drop a).take j ++ [l[a + j]] := by
  rw [List.take_add_one, List.getElem?_drop, List.getElem?_eq_getElem h]; rfl
set_option maxHeartbeats 1000000 in
set_option maxRecDepth 100000 in
theorem bcrash_any {g cm gc ns cs k : Nat} {Am As : Option Addr} {off : Bool} {vl : Value} {w : World} {gs : List Nat} {Ls : Nat → Nat → Prop} {ms : List St} {S : Nat → Prop}
    (HB : Blk w g 54 (buR Am ms.length cm gc As ns cs off vl)) (HM : Mems w gs Ls (fun _ => k) ms) (hA : Sli 1 ptL S w Am gs ms.length cm) (hS : ∀ b, S b → b ≠ g ∧ b ∉ gs) (hg : g ∉ gs) (hgL : ∀ j, j < gs.length → ¬ Ls j g) (hk : k ≤ 8000) (hl : ms.length ≤ 100)
    {P : Option Addr} {picks : List Nat} {pn pc : Nat} (HP : Arg w P picks pn pc) (hpn : pn ≤ 100000) (hPne : ∀ b o, 0 < picks.length → P = some ⟨b, o, none⟩ → b ≠ g ∧ b ∉ gs) :
    Calls Tryz.prog 73 #[MbP.at' g, .slice P pn pc] w fun e w' => e = .returned (.tuple #[]) ∧ ∃ Ls', Mems w' gs Ls' (fun _ => k + 1) (crashAll ms picks) ∧ Blk w' g 54 (buR Am ms.length cm gc As ns cs true vl) ∧
      (∀ j b, Ls' j b → Ls j b ∨ w.heap.size ≤ b) ∧ Turn (fun b => b = g ∨ b ∈ gs) w w' := by
  have hB := hid HB
  have hM := hid HM
  have hAA := hid hA
  have hp := hid HP
  have hSS := hid hS
  have hPN := hid hPne
  have hgl := HB.lt
  have hpl := HP.len
  clear HB HM hA HP hS hPne
  unfold MbP.at'
  go_enter Tryz.func73, Tryz.ntmps73
  go_wp2_with fail
  go_loopw [4, 5] (fun u4 u5 wr => ∃ (i kk : Nat) (Ls' : Nat → Nat → Prop) (ks : Nat → Nat) (dn : List St), u4 = .int .i64 kk ∧ u5 = .int .i64 i ∧ i ≤ ms.length ∧ kk ≤ pn ∧ dn.length = i ∧ Hid (dn ++ crashAll (ms.drop i) (picks.drop kk) = crashAll ms picks) ∧
    Hid (∀ j, ks j ≤ k + 1 ∧ (i ≤ j → ks j = k)) ∧ Hid (Mems wr gs Ls' ks (dn ++ ms.drop i)) ∧ Hid (∀ j b, Ls' j b → Ls j b ∨ w.heap.size ≤ b) ∧ Hid (Turn (fun b => b ∈ gs) w wr)) (fun _ u5 _ => ms.length - (intOf u5).toNat)
  case atStart => exact ⟨0, 0, Ls, fun _ => k, [], rfl, rfl, Nat.zero_le _, Nat.zero_le _, rfl, hid rfl, hid fun _ => ⟨Nat.le_succ _, fun _ => rfl⟩, hM, hid fun _ _ e => .inl e, hid (Turn.refl _ _)⟩
  case round =>
    clear hM
    obtain ⟨i, kk, Ls', ks, dn, rfl, rfl, hi, hkk, hdn, HE, HK, HM, HL, HT⟩ := hrel
    obtain ⟨wo, hwo⟩ : ∃ x, x = wr := ⟨_, rfl⟩
    subst hwo
    have B1 := hid (hB.out.turn HT.out hg)
    have q0 : wo.cell? ⟨g, 0, none⟩ = some (.slice Am ms.length cm) := bu_ms B1.out
    by_cases hin : i < ms.length
    · have t1 : (i : Int) < (ms.length : Int) := by omega
      obtain ⟨gi, hgi⟩ : ∃ gi, gs[i]? = some gi := ⟨_, List.getElem?_eq_getElem (by rw [HM.out.len, List.length_append, List.length_drop, hdn]; omega)⟩
      obtain ⟨bA, oA, rfl, hbS, hbl, hr⟩ := hAA.out.some hgi
      have hgm : gi ∈ gs := List.mem_of_getElem? hgi
      rw [Nat.mul_one] at hr
      have q1 : wo.cell? ⟨bA, oA + i, none⟩ = some (.pointer (some ⟨gi, 0, none⟩)) := HT.out.cell (p := ⟨bA, oA + i, none⟩) (pt_p hr) fun e => (hSS.out bA hbS).2 e
      obtain ⟨st, hst, RS1⟩ := HM.out.at hgi
      have hst' : ms[i]? = some st := by
        rw [List.getElem?_append_right (by omega), hdn, Nat.sub_self, List.getElem?_drop, Nat.add_zero] at hst
        exact hst
      rw [(HK.out i).2 (Nat.le_refl _)] at RS1
      obtain ⟨A2, c2, q2⟩ := rs_log RS1
      have hll := rs_loglen RS1
      have hgiw := RS1.lt.1
      have R1 := hid RS1
      clear RS1 hr
      go_upto_region 6 with fail
      go_wp2_with fail
      go_loopw [4, 6, 8] (fun u4 u6 u8 w2 => ∃ (j : Nat) (v : Value), u4 = .int .i64 (kk + j : Nat) ∧ u6 = v ∧ u8 = .int .i64 j ∧ j ≤ st.log.length ∧ kk + j ≤ pn ∧ Hid (OwnX 5 1 byL w2 wo.heap.size v ((picks.drop kk).take j)) ∧ Hid (Below wo.heap.size wo w2)) (fun _ _ u8 _ => st.log.length - (intOf u8).toNat)
      case atStart => exact ⟨0, _, rfl, rfl, rfl, Nat.zero_le _, by omega, hid (OwnX.nil _ _ _ _ _), hid (Below.refl _ _)⟩
      case round =>
        obtain ⟨j, v, rfl, rfl, rfl, hj, hkj, HO, HW⟩ := hrel
        have hlen : ((picks.drop kk).take j).length = j := by rw [List.length_take, List.length_drop, hpl]; omega
        by_cases hgo : j < st.log.length ∧ kk + j < pn
        · obtain ⟨hgo1, hgo2⟩ := hgo
          have t2 : (j : Int) < (st.log.length : Int) := by omega
          have t3 : ((kk + j : Nat) : Int) < (pn : Int) := by omega
          obtain ⟨bP, oP, rfl, hbP, hrP⟩ := hp.out.byt (by omega)
          have q5 := hrP (kk + j) (by omega)
          have q6 := HT.out.cell q5 (fun e => (hPN.out bP oP (by omega) rfl).2 e)
          have q7 : wr.cell? ⟨bP, oP + (kk + j), none⟩ = some (.int .u8 (picks.getD (kk + j) 0 : Nat)) := HW.out.cell (World.block_lt_of_cell? wo _ q6) |>.trans q6
          have hx := take_one (l := picks) (a := kk) (j := j) (by omega)
          have hgd : picks.getD (kk + j) 0 = picks[kk + j]'(by omega) := by rw [List.getD_eq_getElem?_getD, List.getElem?_eq_getElem]; rfl
          rw [hgd] at q7
          obtain ⟨x, hxx⟩ : ∃ x, x = picks[kk + j]'(by omega) := ⟨_, rfl⟩
          rw [← hxx] at q7 hx
          have HX := hid hx
          clear hgd hxx hx q5 q6 hrP
          obtain ⟨Av, cv, rfl, sv⟩ := HO.out.sli eltBy.len
          clear sv
          go_wp2_with (first
            | ((with_reducible apply wlit1 eltBy undBy (x := x)); omega; rfl; rfl)
            | (at_builtin; (with_reducible apply wappX eltBy undBy (B := wo.heap.size) (m := [x]) (S := fun _ => True)); rfl; rfl; exact HO.out.below ((Below.refl _ _).alloc (Nat.le_refl _) _) (Nat.le_refl _); exact sli_lit1 eltBy x wr trivial; (rw [hlen]; omega); omega; (have := HW.out.size; simp; omega); intro v2 w3 o2 g2))
          have h2 : Below wo.heap.size wo w3 := (HW.out.alloc HW.out.size _).trans ((Turn.of_grown (S := fun b => wo.heap.size ≤ b) g2 (fun b e => (HO.out.own b e).1)).below (by have := HW.out.size; simp; omega) fun _ h => h)
          go_roundw
          case rel => exact ⟨j + 1, v2, by go_num, rfl, by go_num, by omega, by omega, hid (by rw [HX.out]; exact o2), hid h2⟩
          case measure => simp [intOf] <;> omega
        by_cases hj2 : j < st.log.length
        · have t2 : (j : Int) < (st.log.length : Int) := by omega
          have t3 : decide (((kk + j : Nat) : Int) < (pn : Int)) = false := by simp; omega
          have hjp : kk + j = pn := by have : ¬ kk + j < pn := fun e => hgo ⟨hj2, e⟩; omega
          have HJ := hid hjp
          obtain ⟨own, hown⟩ : ∃ x, x = (picks.drop kk).take j := ⟨_, rfl⟩
          have hown2 : own = (picks.drop kk).take st.log.length := by rw [hown]; rw [List.take_of_length_le (by rw [List.length_drop]; omega), List.take_of_length_le (by rw [List.length_drop]; omega)]
          have HOW2 := hid hown2
          rw [← hown] at HO
          obtain ⟨Av, cv, rfl, sv⟩ := HO.out.sli eltBy.len
          have hbo : B256 own := fun x hx => hp.out.b256 x (by rw [hown] at hx; exact List.mem_of_mem_drop (List.mem_of_mem_take hx))
          have HAr := hid (sli_arg sv hbo)
          have hse := hid (fun b o (h : 0 < own.length) (e : Av = some ⟨b, o, none⟩) => show b ≠ gi by
            obtain ⟨b', o', e', hb', _⟩ := sv.lst h
            rw [e] at e'
            cases e'
            have : wo.heap.size ≤ b := hb'
            omega)
          have R2 := hid (R1.out.turn (Turn.of_new (S := fun _ => False) HW.out) (fun e => e) fun _ _ e => e)
          have M2 := hid (HM.out.below HW.out)
          have q0r : wr.cell? ⟨g, 0, none⟩ = some (.slice (some ⟨bA, oA, none⟩) ms.length cm) := (HW.out.cell (p := ⟨g, 0, none⟩) B1.out.lt).trans q0
          have q1r : wr.cell? ⟨bA, oA + i, none⟩ = some (.pointer (some ⟨gi, 0, none⟩)) := (HW.out.cell (p := ⟨bA, oA + i, none⟩) (Nat.lt_of_lt_of_le hbl HT.out.size)).trans q1
          clear sv hbo HO hown hown2 hlen hjp
          go_wp2_with fail
          refine (rs_crash R2.out (by omega) Av own own.length cv HAr.out hse.out).mono ?_
          rintro e w4 ⟨rfl, ho⟩
          obtain ⟨Ls2, m1, m2, m3⟩ := M2.out.put hgi ho
          have M3 := hid m1
          have HL2 := hid (show ∀ l b, Ls2 l b → Ls l b ∨ w.heap.size ≤ b from fun l b e => by
            rcases m2 l b e with x | x
            · exact HL.out l b x
            · exact .inr (Nat.le_trans HT.out.size (Nat.le_trans HW.out.size x)))
          have HT2 := hid (show Turn (fun b => b ∈ gs) w w4 from (HT.out.trans (Turn.of_new (S := fun _ => False) HW.out) fun _ e => e.elim).trans m3 fun b e => .inl (e ▸ hgm))
          have HE2 := hid (show (dn ++ [crash st own]) ++ crashAll (ms.drop (i + 1)) (picks.drop (kk + j)) = crashAll ms picks by
            rw [← HE.out, List.drop_eq_getElem_cons hin, crashAll, List.append_assoc, List.singleton_append]
            have e1 : ms[i] = st := by have := List.getElem?_eq_getElem hin; rw [hst'] at this; exact (Option.some.inj this).symm
            rw [e1, ← HOW2.out, List.drop_drop, show picks.drop (kk + j) = picks.drop (kk + st.log.length) from by have hjp := HJ.out; rw [List.drop_eq_nil_of_le (by omega), List.drop_eq_nil_of_le (by omega)]])
          have HM3 := hid (show Mems w4 gs Ls2 (fun l => if l = i then k + 1 else ks l) (dn ++ [crash st own] ++ ms.drop (i + 1)) from by
            have := M3.out
            rwa [List.set_append_right _ _ (by omega), hdn, Nat.sub_self, List.drop_eq_getElem_cons hin, List.set_cons_zero, ← List.singleton_append, ← List.append_assoc] at this)
          clear ho m1 m2 m3 M3 M2 R2 q0r q1r HAr hse
          go_wp2_with fail
          go_roundw
          case rel => exact ⟨i + 1, kk + j, Ls2, _, dn ++ [crash st own], by go_num, by go_num, by omega, by omega, by rw [List.length_append, hdn]; rfl, HE2, hid (fun l => by
            by_cases e : l = i
            · rw [if_pos e]; exact ⟨Nat.le_refl _, fun x => by omega⟩
            · rw [if_neg e]; exact ⟨(HK.out l).1, fun x => (HK.out l).2 (by omega)⟩), HM3, HL2, HT2⟩
          case measure => simp [intOf] <;> omega
        · have t2 : decide ((j : Int) < (st.log.length : Int)) = false := by simp; omega
          have hjn : j = st.log.length := by omega
          have HJ := hid hjn
          obtain ⟨own, hown⟩ : ∃ x, x = (picks.drop kk).take j := ⟨_, rfl⟩
          have hown2 : own = (picks.drop kk).take st.log.length := by rw [hown]; rw [hjn]
          have HOW2 := hid hown2
          rw [← hown] at HO
          obtain ⟨Av, cv, rfl, sv⟩ := HO.out.sli eltBy.len
          have hbo : B256 own := fun x hx => hp.out.b256 x (by rw [hown] at hx; exact List.mem_of_mem_drop (List.mem_of_mem_take hx))
          have HAr := hid (sli_arg sv hbo)
          have hse := hid (fun b o (h : 0 < own.length) (e : Av = some ⟨b, o, none⟩) => show b ≠ gi by
            obtain ⟨b', o', e', hb', _⟩ := sv.lst h
            rw [e] at e'
            cases e'
            have : wo.heap.size ≤ b := hb'
            omega)
          have R2 := hid (R1.out.turn (Turn.of_new (S := fun _ => False) HW.out) (fun e => e) fun _ _ e => e)
          have M2 := hid (HM.out.below HW.out)
          have q0r : wr.cell? ⟨g, 0, none⟩ = some (.slice (some ⟨bA, oA, none⟩) ms.length cm) := (HW.out.cell (p := ⟨g, 0, none⟩) B1.out.lt).trans q0
          have q1r : wr.cell? ⟨bA, oA + i, none⟩ = some (.pointer (some ⟨gi, 0, none⟩)) := (HW.out.cell (p := ⟨bA, oA + i, none⟩) (Nat.lt_of_lt_of_le hbl HT.out.size)).trans q1
          clear sv hbo HO hown hown2 hlen hjn
          go_wp2_with fail
          refine (rs_crash R2.out (by omega) Av own own.length cv HAr.out hse.out).mono ?_
          rintro e w4 ⟨rfl, ho⟩
          obtain ⟨Ls2, m1, m2, m3⟩ := M2.out.put hgi ho
          have M3 := hid m1
          have HL2 := hid (show ∀ l b, Ls2 l b → Ls l b ∨ w.heap.size ≤ b from fun l b e => by
            rcases m2 l b e with x | x
            · exact HL.out l b x
            · exact .inr (Nat.le_trans HT.out.size (Nat.le_trans HW.out.size x)))
          have HT2 := hid (show Turn (fun b => b ∈ gs) w w4 from (HT.out.trans (Turn.of_new (S := fun _ => False) HW.out) fun _ e => e.elim).trans m3 fun b e => .inl (e ▸ hgm))
          have HE2 := hid (show (dn ++ [crash st own]) ++ crashAll (ms.drop (i + 1)) (picks.drop (kk + j)) = crashAll ms picks by
            rw [← HE.out, List.drop_eq_getElem_cons hin, crashAll, List.append_assoc, List.singleton_append]
            have e1 : ms[i] = st := by have := List.getElem?_eq_getElem hin; rw [hst'] at this; exact (Option.some.inj this).symm
            rw [e1, ← HOW2.out, List.drop_drop, show picks.drop (kk + j) = picks.drop (kk + st.log.length) from by rw [HJ.out]])
          have HM3 := hid (show Mems w4 gs Ls2 (fun l => if l = i then k + 1 else ks l) (dn ++ [crash st own] ++ ms.drop (i + 1)) from by
            have := M3.out
            rwa [List.set_append_right _ _ (by omega), hdn, Nat.sub_self, List.drop_eq_getElem_cons hin, List.set_cons_zero, ← List.singleton_append, ← List.append_assoc] at this)
          clear ho m1 m2 m3 M3 M2 R2 q0r q1r HAr hse
          go_wp2_with fail
          go_roundw
          case rel => exact ⟨i + 1, kk + j, Ls2, _, dn ++ [crash st own], by go_num, by go_num, by omega, by omega, by rw [List.length_append, hdn]; rfl, HE2, hid (fun l => by
            by_cases e : l = i
            · rw [if_pos e]; exact ⟨Nat.le_refl _, fun x => by omega⟩
            · rw [if_neg e]; exact ⟨(HK.out l).1, fun x => (HK.out l).2 (by omega)⟩), HM3, HL2, HT2⟩
          case measure => simp [intOf] <;> omega
    · have t1 : decide ((i : Int) < (ms.length : Int)) = false := by simp; omega
      obtain rfl : i = ms.length := by omega
      have HF := hid (show Mems wo gs Ls' (fun _ => k + 1) (crashAll ms picks) from by
        have h1 := HE.out
        have h2 := HM.out
        rw [List.drop_length, crashAll, List.append_nil] at h1
        rw [List.drop_length, List.append_nil, h1] at h2
        exact h2.mono fun l _ => (HK.out l).1)
      have ts := Turn.setCell (S := fun b => b = g) wo ⟨g, 3, none⟩ (.bool true) rfl
      have HF2 := hid (HF.out.turn ts (fun gi hgi e => hg (e ▸ hgi)) fun j b hj hb e => by
        rcases HL.out j b hb with x | x
        · exact hgL j (by have := HF.out.len; rw [crashAll_len] at this; omega) (e ▸ x)
        · omega)
      have B2 := hid (bu_setOff B1.out true)
      have HT2 := hid (show Turn (fun b => b = g ∨ b ∈ gs) w (wo.setCell ⟨g, 3, none⟩ (.bool true)) from (HT.out.mono fun b e => .inr e).trans ts fun b e => .inl (.inl e))
      have q3 := bu_off B1.out
      have fz := B1.out.frozen 3
      clear HE HM HK HF ts
      go_wp2_with fail
      refine bodyPost_end (results_none rfl _ _ _) rfl ?_
      exact ⟨rfl, Ls', HF2.out, B2.out, HL.out, HT2.out⟩
end BuP
end Go.Proofs.YthogklchmhjjkaaGreat
set_option maxRecDepth 100000
namespace Go.Proofs.YthogklchmhjjkaaGreat
open Go.ChangeShapes Go.WideShapes Go.ChangeAt Go.RowKit
attribute [local go_sem] Gives GivesE
theorem Blk.neT {w : World} {g h : Nat} {t u : TypeId} {cs ds : Array Value} (H : Blk w g t cs) (K : Blk w h u ds) (e : t ≠ u) : g ≠ h := fun x => by
  subst x
  have h1 : w.heap[g]? = some (.cells cs t (0, 0)) := H
  have h2 : w.heap[g]? = some (.cells ds u (0, 0)) := K
  rw [h1] at h2
  simp only [Option.some.injEq, Obj.cells.injEq] at h2
  exact e h2.2.1
namespace BuP
open BuM MbM MbP
theorem rs_obj {w : World} {g k : Nat} {L : Nat → Prop} {st : St} (h : RS w g L k st) : ∃ cs, Blk w g 100 cs := by
  obtain ⟨s, ⟨A1, c1, A2, c2, A3, c3, hr⟩, _⟩ := h
  exact ⟨_, hr.blk⟩
/-- Where all of it lies. -/
structure Fp where
  gs : List Nat
  Ls : Nat → Nat → Prop
  Am : Option Addr
  cm : Nat
  gc : Nat
  As : Option Addr
  cs : Nat
  sl : List SlB
  rd : Nat → Prop
  vc : Value
  hist : List ClP.Held
  vl : Value
def mutR (g : Nat) (F : Fp) (q : Nat) : Prop := q = g ∨ q ∈ F.gs ∨ q = F.gc ∨ F.vc.ownBlock = some q ∨ F.vl.ownBlock = some q
def rdR (F : Fp) (q : Nat) : Prop := F.rd q ∨ ∃ j, j < F.gs.length ∧ F.Ls j q
/-- In w block g is the document's bus b; k calls have turned it at most. -/
structure Rb (w : World) (g : Nat) (F : Fp) (k : Nat) (b : Bs) : Prop where
  blk : Blk w g 54 (buR F.Am b.ms.length F.cm F.gc F.As b.steps.length F.cs b.off F.vl)
  arr : Sli 1 ptL F.rd w F.Am F.gs b.ms.length F.cm
  mem : Mems w F.gs F.Ls (fun _ => k) b.ms
  cel : ClP.Rc w F.gc F.vc F.hist b.c
  sll : F.sl.length = b.steps.length
  stp : Sli 70 stL F.rd w F.As (b.steps.zip F.sl) b.steps.length F.cs
  pk : ∀ s x, (s, x) ∈ b.steps.zip F.sl → Arg w x.A s.picks s.picks.length x.c ∧ s.picks.length ≤ 100000 ∧ ∀ q o, 0 < s.picks.length → x.A = some ⟨q, o, none⟩ → F.rd q
  log : OwnX 59 68 enL w 0 F.vl b.log
  rlt : ∀ q, F.rd q → q < w.heap.size
  sep : ∀ q, rdR F q → ¬ mutR g F q
  sz : b.ms.length ≤ 100 ∧ b.steps.length ≤ 1000 ∧ F.hist.length ≤ k + 1 ∧ b.log.length ≤ k
  cmx : b.c.1 ≤ ClP.most
section
variable {w w' : World} {g k : Nat} {F : Fp} {b : Bs}
theorem Rb.mlt (H : Rb w g F k b) : ∀ q, mutR g F q → q < w.heap.size := fun q e => by
  rcases e with e | e | e | e | e
  · rw [e]; exact H.blk.lt
  · exact H.mem.lt.1 q e
  · rw [e]; exact H.cel.blk.lt
  · exact (H.cel.lg.own q e).2
  · exact (H.log.own q e).2
theorem Rb.ilt (H : Rb w g F k b) : ∀ q, rdR F q → q < w.heap.size := fun q e => by
  rcases e with e | ⟨j, hj, e⟩
  · exact H.rlt q e
  · exact H.mem.lt.2 j q hj e
theorem Rb.turn {T : Nat → Prop} (H : Rb w g F k b) (ht : Turn T w w') (hT : ∀ q, mutR g F q ∨ rdR F q → ¬ T q) : Rb w' g F k b where
  blk := H.blk.turn ht (hT g (.inl (.inl rfl)))
  arr := H.arr.turn ht fun q hq _ => hT q (.inr (.inl hq))
  mem := H.mem.turn ht (fun q hq => hT q (.inl (.inr (.inl hq)))) fun j q hj hq => hT q (.inr (.inr ⟨j, hj, hq⟩))
  cel := H.cel.turn ht (hT _ (.inl (.inr (.inr (.inl rfl))))) fun q hq => hT q (.inl (.inr (.inr (.inr (.inl hq)))))
  sll := H.sll
  stp := H.stp.turn ht fun q hq _ => hT q (.inr (.inl hq))
  pk s x hx := ⟨(H.pk s x hx).1.turn ht fun q o h1 h2 => hT q (.inr (.inl ((H.pk s x hx).2.2 q o h1 h2))), (H.pk s x hx).2⟩
  log := H.log.turn ht fun q hq => hT q (.inl (.inr (.inr (.inr (.inr hq)))))
  rlt q hq := Nat.lt_of_lt_of_le (H.rlt q hq) ht.size
  sep := H.sep
  sz := H.sz
  cmx := H.cmx
theorem Rb.below (H : Rb w g F k b) (hb : Below w.heap.size w w') : Rb w' g F k b :=
  H.turn (Turn.of_new (S := fun _ => False) hb) fun _ _ e => e
theorem Rb.mono {k' : Nat} (H : Rb w g F k b) (hk : k ≤ k') : Rb w g F k' b where
  blk := H.blk
  arr := H.arr
  mem := H.mem.mono fun _ _ => hk
  cel := H.cel
  sll := H.sll
  stp := H.stp
  pk := H.pk
  log := H.log
  rlt := H.rlt
  sep := H.sep
  sz := ⟨H.sz.1, H.sz.2.1, Nat.le_trans H.sz.2.2.1 (Nat.succ_le_succ hk), Nat.le_trans H.sz.2.2.2 hk⟩
  cmx := H.cmx
/-! What is turned lies apart, by its kinds. -/
theorem Rb.g_gs (H : Rb w g F k b) : g ∉ F.gs := fun e => by
  obtain ⟨i, hi⟩ := List.mem_iff_getElem?.1 e
  obtain ⟨st, _, h⟩ := H.mem.at hi
  obtain ⟨cs, hc⟩ := rs_obj h
  exact H.blk.neT hc (by decide) rfl
theorem Rb.g_gc (H : Rb w g F k b) : g ≠ F.gc := H.blk.neT H.cel.blk (by decide)
theorem Rb.g_vc (H : Rb w g F k b) : F.vc.ownBlock ≠ some g := fun e => by
  obtain ⟨cs, hc⟩ := H.cel.lg.obj e
  exact H.blk.neT (show Blk w g 27 cs from hc) (by decide) rfl
theorem Rb.g_vl (H : Rb w g F k b) : F.vl.ownBlock ≠ some g := fun e => by
  obtain ⟨cs, hc⟩ := H.log.obj e
  exact H.blk.neT (show Blk w g 59 cs from hc) (by decide) rfl
theorem Rb.gc_gs (H : Rb w g F k b) : F.gc ∉ F.gs := fun e => by
  obtain ⟨i, hi⟩ := List.mem_iff_getElem?.1 e
  obtain ⟨st, _, h⟩ := H.mem.at hi
  obtain ⟨cs, hc⟩ := rs_obj h
  exact H.cel.blk.neT hc (by decide) rfl
theorem Rb.vc_gs (H : Rb w g F k b) : ∀ q, F.vc.ownBlock = some q → q ∉ F.gs := fun q e e2 => by
  obtain ⟨i, hi⟩ := List.mem_iff_getElem?.1 e2
  obtain ⟨st, _, h⟩ := H.mem.at hi
  obtain ⟨cs, hc⟩ := rs_obj h
  obtain ⟨ds, hd⟩ := H.cel.lg.obj e
  exact (show Blk w q 27 ds from hd).neT hc (by decide) rfl
theorem Rb.vl_gs (H : Rb w g F k b) : ∀ q, F.vl.ownBlock = some q → q ∉ F.gs := fun q e e2 => by
  obtain ⟨i, hi⟩ := List.mem_iff_getElem?.1 e2
  obtain ⟨st, _, h⟩ := H.mem.at hi
  obtain ⟨cs, hc⟩ := rs_obj h
  obtain ⟨ds, hd⟩ := H.log.obj e
  exact (show Blk w q 59 ds from hd).neT hc (by decide) rfl
theorem Rb.vl_gc (H : Rb w g F k b) : F.vl.ownBlock ≠ some F.gc := fun e => by
  obtain ⟨ds, hd⟩ := H.log.obj e
  exact (show Blk w F.gc 59 ds from hd).neT H.cel.blk (by decide) rfl
theorem Rb.vl_vc (H : Rb w g F k b) : ∀ q, F.vl.ownBlock = some q → F.vc.ownBlock ≠ some q := fun q e e2 => by
  obtain ⟨ds, hd⟩ := H.log.obj e
  obtain ⟨cs, hc⟩ := H.cel.lg.obj e2
  exact (show Blk w q 59 ds from hd).neT (show Blk w q 27 cs from hc) (by decide) rfl
/-- What a call of it leaves. -/
def outB (w : World) (g : Nat) (F : Fp) (k : Nat) (b : Bs) (w' : World) : Prop :=
  ∃ F', Rb w' g F' k b ∧ F'.gs = F.gs ∧ F'.gc = F.gc ∧ (∀ q, mutR g F' q → mutR g F q ∨ w.heap.size ≤ q) ∧ (∀ q, rdR F' q → rdR F q ∨ w.heap.size ≤ q) ∧ Turn (mutR g F) w w'
theorem outB.trans {w2 : World} {F' : Fp} {k2 : Nat} {b2 : Bs} (hg : F'.gs = F.gs) (hc : F'.gc = F.gc) (h1 : ∀ q, mutR g F' q → mutR g F q ∨ w.heap.size ≤ q) (h2 : ∀ q, rdR F' q → rdR F q ∨ w.heap.size ≤ q) (h3 : Turn (mutR g F) w w') (h : outB w' g F' k2 b2 w2) : outB w g F k2 b2 w2 := by
  obtain ⟨F2, r, e1, e2, m, i, t⟩ := h
  refine ⟨F2, r, e1.trans hg, e2.trans hc, fun q hq => ?_, fun q hq => ?_, h3.trans t h1⟩
  · rcases m q hq with e | e
    · exact h1 q e
    · exact .inr (Nat.le_trans h3.size e)
  · rcases i q hq with e | e
    · exact h2 q e
    · exact .inr (Nat.le_trans h3.size e)
theorem outB.below (h : outB w g F k b w') {B : Nat} (hB : B ≤ w.heap.size) (hm : ∀ q, mutR g F q → B ≤ q) : Below B w w' := by
  obtain ⟨F2, _, _, _, _, _, t⟩ := h
  exact t.below hB hm
/-- The members alone, and the power, are told something. -/
theorem Rb.put (H : Rb w g F k b) {Ls' : Nat → Nat → Prop} {ms' : List St} {off' : Bool} {T : Nat → Prop} (hm : Mems w' F.gs Ls' (fun _ => k + 1) ms') (hl : ms'.length = b.ms.length) (hL : ∀ j q, j < F.gs.length → Ls' j q → F.Ls j q ∨ w.heap.size ≤ q)
    (hb : Blk w' g 54 (buR F.Am b.ms.length F.cm F.gc F.As b.steps.length F.cs off' F.vl)) (ht : Turn T w w') (hT : ∀ q, T q → q = g ∨ q ∈ F.gs) : Rb w' g { F with Ls := Ls' } (k + 1) { b with ms := ms', off := off' } where
  blk := by show Blk w' g _ (buR F.Am ms'.length F.cm F.gc F.As b.steps.length F.cs off' F.vl); rw [hl]; exact hb
  arr := by
    show Sli 1 ptL F.rd w' F.Am F.gs ms'.length F.cm
    rw [hl]
    exact H.arr.turn ht fun q hq _ e => H.sep q (.inl hq) ((hT q e).imp id .inl)
  mem := hm
  cel := H.cel.turn ht (fun e => (hT _ e).elim (fun x => H.g_gc x.symm) H.gc_gs) fun q hq e => (hT q e).elim (fun x => H.g_vc (x ▸ hq)) (H.vc_gs q hq)
  sll := H.sll
  stp := H.stp.turn ht fun q hq _ e => H.sep q (.inl hq) ((hT q e).imp id .inl)
  pk s x hx := ⟨(H.pk s x hx).1.turn ht fun q o h1 h2 e => H.sep q (.inl ((H.pk s x hx).2.2 q o h1 h2)) ((hT q e).imp id .inl), (H.pk s x hx).2⟩
  log := H.log.turn ht fun q hq e => (hT q e).elim (fun x => H.g_vl (x ▸ hq)) (H.vl_gs q hq)
  rlt q hq := Nat.lt_of_lt_of_le (H.rlt q hq) ht.size
  sep q hq e := by
    rcases hq with hq | ⟨j, hj, hq⟩
    · exact H.sep q (.inl hq) e
    · rcases hL j q hj hq with x | x
      · exact H.sep q (.inr ⟨j, hj, x⟩) e
      · have := H.mlt q e; omega
  sz := ⟨by show ms'.length ≤ 100; rw [hl]; exact H.sz.1, H.sz.2.1, Nat.le_succ_of_le H.sz.2.2.1, Nat.le_succ_of_le H.sz.2.2.2⟩
  cmx := H.cmx
theorem Rb.step (H : Rb w g F k b) {i : Nat} (hi : i < b.steps.length) : ∃ s x, b.steps[i]? = some s ∧ (b.steps.zip F.sl)[i]? = some (s, x) := by
  have h2 : i < F.sl.length := by rw [H.sll]; exact hi
  refine ⟨b.steps[i], F.sl[i], List.getElem?_eq_getElem hi, ?_⟩
  rw [List.getElem?_zip_eq_some]
  exact ⟨List.getElem?_eq_getElem hi, List.getElem?_eq_getElem h2⟩
end
end BuP
end Go.Proofs.YthogklchmhjjkaaGreat
set_option maxRecDepth 100000
namespace Go.Proofs.YthogklchmhjjkaaGreat
open Go.ChangeShapes Go.WideShapes Go.ChangeAt Go.RowKit
attribute [local go_sem] Gives GivesE
namespace BuP
open BuM MbM MbP
def st0 : Stp × SlB := (⟨0, 0, 0, 0, 0, fun _ => 0, []⟩, ⟨none, 0⟩)
theorem zSt (w : World) : (zeroValue 76).run Tryz.prog w = .ok (.agg (stL st0).toArray) w := (zero_of_info (P := Tryz.prog) (t := 76) (v := .agg (stL st0).toArray) (n := 70) (by kernel_rfl)).1 w
theorem st_size (x y : Stp × SlB) : (stL x).toArray.size = (stL y).toArray.size := by rw [List.size_toArray, List.size_toArray, stL_len, stL_len]
theorem st_one' (x : Stp × SlB) : (stL x).toArray.all (·.oneCell') = true := by
  rw [Array.all_eq_true_iff_forall_mem]
  intro u hu
  exact stL_one x u (by simpa using hu)
/-- Behind the first i steps. -/
structure AhR (w0 : World) (g : Nat) (F : Fp) (k : Nat) (b : Bs) (i : Nat) (wr : World) (Ls' : Nat → Nat → Prop) (ms' : List St) (off' : Bool) : Prop where
  eq : hands b.log.length (b.steps.take i) (b.ms, b.off) = (ms', off')
  rb : Rb wr g { F with Ls := Ls' } (k + i) { b with ms := ms', off := off' }
  len : ms'.length = b.ms.length
  ls : ∀ j q, j < F.gs.length → Ls' j q → F.Ls j q ∨ w0.heap.size ≤ q
  tu : Turn (fun q => q = g ∨ q ∈ F.gs) w0 wr
section
variable {w0 wr w3 : World} {g k i : Nat} {F : Fp} {b : Bs} {Ls' Ls2 : Nat → Nat → Prop} {ms' ms2 : List St} {off' off2 : Bool} {s : Stp}
theorem AhR.on (H : AhR w0 g F k b i wr Ls' ms' off') (hb : Below wr.heap.size wr w3) : AhR w0 g F k b i w3 Ls' ms' off' where
  eq := H.eq
  rb := H.rb.below hb
  len := H.len
  ls := H.ls
  tu := H.tu.trans (Turn.of_new (S := fun _ => False) hb) fun _ e => e.elim
theorem AhR.none (H : AhR w0 g F k b i wr Ls' ms' off') (hs : b.steps[i]? = some s) (he : hand b.log.length s (ms', off') = (ms', off')) : AhR w0 g F k b (i + 1) wr Ls' ms' off' where
  eq := by rw [List.take_add_one, hs, Option.toList_some, hands_snoc, H.eq, he]
  rb := H.rb.mono (by omega)
  len := H.len
  ls := H.ls
  tu := H.tu
theorem AhR.next (H : AhR w0 g F k b i wr Ls' ms' off') (hs : b.steps[i]? = some s) (he : hand b.log.length s (ms', off') = (ms2, off2)) (hm : Mems w3 F.gs Ls2 (fun _ => k + i + 1) ms2) (hl : ms2.length = ms'.length) (hL : ∀ j q, j < F.gs.length → Ls2 j q → Ls' j q ∨ wr.heap.size ≤ q)
    (hb : Blk w3 g 54 (buR F.Am b.ms.length F.cm F.gc F.As b.steps.length F.cs off2 F.vl)) (ht : Turn (fun q => q = g ∨ q ∈ F.gs) wr w3) : AhR w0 g F k b (i + 1) w3 Ls2 ms2 off2 where
  eq := by rw [List.take_add_one, hs, Option.toList_some, hands_snoc, H.eq, he]
  rb := H.rb.put (Ls' := Ls2) hm hl hL (by rw [← H.len] at hb; exact hb) ht fun q e => e
  len := hl.trans H.len
  ls j q hj hq := by
    rcases hL j q hj hq with e | e
    · exact H.ls j q hj e
    · exact .inr (Nat.le_trans H.tu.size e)
  tu := H.tu.trans ht fun _ e => .inl e
/-- One member alone is told something. -/
theorem AhR.one (H : AhR w0 g F k b i wr Ls' ms' off') (hs : b.steps[i]? = some s) {mi gi : Nat} {st st' : St} (hgi : F.gs[mi]? = some gi) (hst : ms'[mi]? = some st) (he : hand b.log.length s (ms', off') = (ms'.set mi st', off')) (ho : RSo wr gi (Ls' mi) (k + i + 1) st' w3) :
    ∃ Ls2, AhR w0 g F k b (i + 1) w3 Ls2 (ms'.set mi st') off' := by
  obtain ⟨Ls2, m1, m2, m3⟩ := H.rb.mem.put hgi ho
  have hgm : gi ∈ F.gs := List.mem_of_getElem? hgi
  refine ⟨Ls2, H.next hs he (m1.mono fun j _ => ?_) (by rw [List.length_set]) (fun j q _ hq => m2 j q hq) ?_ (m3.mono fun q e => .inr (e ▸ hgm))⟩
  · show (if j = mi then k + i + 1 else k + i) ≤ k + i + 1
    split <;> omega
  · have := H.rb.blk.turn m3 fun e => H.rb.g_gs (by rw [e]; exact hgm)
    rw [← H.len]; exact this
end
set_option maxHeartbeats 2000000 in
set_option maxRecDepth 100000 in
theorem rahead_any {w : World} {g k : Nat} {F : Fp} {b : Bs} (H : Rb w g F k b) (hk : k + b.steps.length ≤ 8000) : Calls Tryz.prog 51 #[MbP.at' g] w fun e w' => e = .returned (.tuple #[]) ∧ ∃ Ls', Rb w' g { F with Ls := Ls' } (k + b.steps.length) (BuM.ahead b) ∧
      (∀ j q, j < F.gs.length → Ls' j q → F.Ls j q ∨ w.heap.size ≤ q) ∧ Turn (fun q => q = g ∨ q ∈ F.gs) w w' := by
  have H0 := hid H
  obtain ⟨Al, cl, hvl, _⟩ := H.log.sli enL_len
  have q4 : w.cell? ⟨g, 4, none⟩ = some (.slice Al b.log.length cl) := by rw [← hvl]; exact bu_lg H.blk
  obtain ⟨now, hnow⟩ : ∃ x, x = b.log.length := ⟨_, rfl⟩
  have HN := hid hnow
  have hns := H.sz.2.1
  rw [← hnow] at q4
  clear H hvl hnow
  unfold MbP.at'
  go_enter Tryz.func51, Tryz.ntmps51
  go_wp2_with fail
  clear q4
  go_loopw [3] (fun u wr => ∃ (i : Nat) (Ls' : Nat → Nat → Prop) (ms' : List St) (off' : Bool), u = .int .i64 i ∧ i ≤ b.steps.length ∧ Hid (AhR w g F k b i wr Ls' ms' off')) (fun u _ => b.steps.length - (intOf u).toNat)
  case atStart => exact ⟨0, F.Ls, b.ms, b.off, rfl, Nat.zero_le _, hid ⟨rfl, H0.out, rfl, fun _ _ _ e => .inl e, Turn.refl _ _⟩⟩
  case round =>
    obtain ⟨i, Ls', ms', off', rfl, hi, HR⟩ := hrel
    obtain ⟨wo, hwo⟩ : ∃ x, x = wr := ⟨_, rfl⟩
    subst hwo
    have q2 : wo.cell? ⟨g, 2, none⟩ = some (.slice F.As b.steps.length F.cs) := bu_st HR.out.rb.blk
    by_cases hin : i < b.steps.length
    · have t1 : (i : Int) < (b.steps.length : Int) := by omega
      obtain ⟨s, x, hs, hz⟩ := HR.out.rb.step hin
      have HS := hid hs
      obtain ⟨bS, oS, hA, hbS, hSl, hr⟩ := HR.out.rb.stp.some hz
      have hA' : F.As = some ⟨bS, oS, none⟩ := hA
      rw [hA'] at q2
      have R1 := hid hr
      have HZ := hid hz
      clear hr hs hz hA hA'
      go_upto_region 5 with (first | ((with_reducible apply ldR (cs := (stL (s, x)).toArray) (tSt (s, x))); rfl; exact R1.out) | (with_reducible apply alZ' zSt) | ((with_reducible apply stR (tSt (s, x))); rfl; rfl; exact Blk.new _ _ _; exact st_size _ _; exact st_one' _))
      generalize hw1 : World.setRow _ _ _ = w1
      obtain ⟨gS, hgS⟩ : ∃ n, n = wo.heap.size := ⟨_, rfl⟩
      have B1 : Below wo.heap.size wo w1 := by rw [← hw1]; exact below_setRow ((Below.refl _ _).alloc (Nat.le_refl _) _) (Nat.le_refl _) _
      have bb : Blk w1 gS 76 (stL (s, x)).toArray := by rw [← hw1, hgS]; exact (Blk.new wo _ _).setRow_same _
      have A1 := hid (HR.out.on B1)
      have hpk := hid (A1.out.rb.pk s x (List.mem_of_getElem? HZ.out))
      have HG := hid hgS
      rw [← hgS]
      obtain ⟨sa, kd, sm, si, sn, sd, pk⟩ := s
      have bw : w1.rangeAt gS 0 (stL (⟨sa, kd, sm, si, sn, sd, pk⟩, x)) := bb.whole
      have qa : w1.cell? ⟨gS, 0, none⟩ = some (.int .i64 sa) := st_a (o := 0) bw
      have qk : w1.cell? ⟨gS, 1, none⟩ = some (.int .i64 kd) := st_k (o := 0) bw
      have qm : w1.cell? ⟨gS, 2, none⟩ = some (.int .i64 sm) := st_m (o := 0) bw
      have qi : w1.cell? ⟨gS, 3, none⟩ = some (.int .i64 si) := st_i (o := 0) bw
      have qn : w1.cell? ⟨gS, 4, none⟩ = some (.int .i64 sn) := st_n (o := 0) bw
      have qp : w1.cell? ⟨gS, 69, none⟩ = some (.slice x.A pk.length x.c) := st_p (o := 0) bw
      have qd := hid (show w1.rangeAt gS 5 (ar 64 sd).toList from st_s (o := 0) (x := (⟨sa, kd, sm, si, sn, sd, pk⟩, x)) bw)
      clear hw1 hgS B1 bb bw R1 q2 HR HZ
      by_cases ha : sa = (now : Int)
      · subst ha
        have RBk := hid (show Blk w1 g 54 (buR F.Am ms'.length F.cm F.gc F.As b.steps.length F.cs off' F.vl) from A1.out.rb.blk)
        have RMs := hid (show Mems w1 F.gs Ls' (fun _ => k + i) ms' from A1.out.rb.mem)
        have RAr := hid (show Sli 1 ptL F.rd w1 F.Am F.gs ms'.length F.cm from A1.out.rb.arr)
        have hms := hid A1.out.len
        have hmx : ms'.length ≤ 100 := A1.out.rb.sz.1
        have hgl := RBk.out.lt
        by_cases h6 : kd = 6
        · subst h6
          have hN := HN.out
          have HH := hid (show hand b.log.length ⟨(now : Int), 6, sm, si, sn, sd, pk⟩ (ms', off') = (crashAll ms' pk, true) by unfold hand; rw [if_pos (by rw [hN]), if_pos rfl])
          clear hN
          go_wp2_with fail
          refine (bcrash_any (gs := F.gs) (Ls := Ls') (ms := ms') (k := k + i) (S := F.rd) (picks := pk) RBk.out RMs.out RAr.out (fun q e => ⟨fun x => A1.out.rb.sep q (.inl e) (.inl x), fun x => A1.out.rb.sep q (.inl e) (.inr (.inl x))⟩) A1.out.rb.g_gs
            (fun j hj e => A1.out.rb.sep g (.inr ⟨j, hj, e⟩) (.inl rfl)) (by omega) hmx hpk.out.1 hpk.out.2.1 (fun q o h1 h2 => ⟨fun x => A1.out.rb.sep q (.inl (hpk.out.2.2 q o h1 h2)) (.inl x), fun x => A1.out.rb.sep q (.inl (hpk.out.2.2 q o h1 h2)) (.inr (.inl x))⟩)).mono ?_
          rintro e w4 ⟨rfl, Ls2, m1, b1, l1, tu1⟩
          have F1 := hid (A1.out.next HS.out HH.out m1 (crashAll_len _ _) (fun j q _ hq => l1 j q hq) (by rw [← hms.out]; exact b1) tu1)
          clear m1 b1 l1 tu1
          go_wp2_with fail
          go_roundw
          case rel => exact ⟨i + 1, Ls2, _, _, by go_num, by omega, F1⟩
          case measure => simp [intOf] <;> omega
        · have t6 : decide (kd = 6) = false := by simp; omega
          have t6' : (kd == 6) = false := by simp; omega
          have hN := HN.out
          have HH := hid (show hand b.log.length ⟨(now : Int), kd, sm, si, sn, sd, pk⟩ (ms', off') = if mem ms' sm then (ms'.set sm.toNat (deed ⟨(now : Int), kd, sm, si, sn, sd, pk⟩ (BuM.at' ms' sm)), off') else (ms', off') by unfold hand; rw [if_pos (by rw [hN]), if_neg h6])
          clear hN
          go_upto_region 8 with fail
          by_cases h0 : sm < 0
          · have hm : mem ms' sm = false := by unfold mem; simp; omega
            have F0 := hid (A1.out.none HS.out (by rw [HH.out, hm]; rfl))
            have t7 : decide (sm < 0) = true := by simp; omega
            clear hm
            refine wp_region_tail (C := fun w' => Below w1.heap.size w1 w') 13 (by kernel_rfl) (by kernel_rfl) (by kernel_rfl) (Below.refl _ _).drew ?_
            simp only [List.take_succ_cons, List.take_zero, List.drop_succ_cons, List.drop_zero]
            apply wpK_val
            · rfl
            · intro w' hw'
              go_simp
              first | exact rfl | exact ⟨rfl, hw'⟩
            simp only [Act.put, List.setIfInBounds_toArray, List.set_cons_succ, List.set_cons_zero]
            apply wpK_val
            · rfl
            · intro w' hw'
              have hcell := (hw'.cell (p := ⟨gS, 2, none⟩) (World.block_lt_of_cell? w1 _ qm)).trans qm
              go_simp
              first | exact rfl | exact ⟨rfl, hw'⟩
            simp only [Act.put, List.setIfInBounds_toArray, List.set_cons_succ, List.set_cons_zero]
            apply wpK_val
            · rfl
            · intro w' hw'
              go_simp
              first | exact rfl | exact ⟨rfl, hw'⟩
            simp only [Act.put, List.setIfInBounds_toArray, List.set_cons_succ, List.set_cons_zero]
            apply wpK_val
            · rfl
            · intro w' hw'
              go_simp
              first | exact rfl | exact ⟨rfl, hw'⟩
            simp only [Act.put, List.setIfInBounds_toArray, List.set_cons_succ, List.set_cons_zero]
            apply wpK_not
            · rfl
            simp only [Act.put, List.setIfInBounds_toArray, List.set_cons_succ, List.set_cons_zero]
            apply wpK_not
            · rfl
            simp only [Act.put, List.setIfInBounds_toArray, List.set_cons_succ, List.set_cons_zero]
            apply wpK_not
            · rfl
            simp only [Act.put, List.setIfInBounds_toArray, List.set_cons_succ, List.set_cons_zero]
            apply wpK_not
            · rfl
            simp only [Act.put, List.setIfInBounds_toArray, List.set_cons_succ, List.set_cons_zero]
            apply wpK_not
            · rfl
            simp only [Act.put, List.setIfInBounds_toArray, List.set_cons_succ, List.set_cons_zero]
            apply wpK_not
            · rfl
            simp only [Act.put, List.setIfInBounds_toArray, List.set_cons_succ, List.set_cons_zero]
            apply wpK_not
            · rfl
            simp only [Act.put, List.setIfInBounds_toArray, List.set_cons_succ, List.set_cons_zero]
            apply wpK_not
            · rfl
            simp only [Act.put, List.setIfInBounds_toArray, List.set_cons_succ, List.set_cons_zero]
            apply wpK_val
            · rfl
            · intro w' hw'
              go_simp
              first | exact rfl | exact ⟨rfl, hw'⟩
            simp only [Act.put, List.setIfInBounds_toArray, List.set_cons_succ, List.set_cons_zero]
            intro w2 hC2
            have F1 := hid (F0.out.on hC2)
            clear F0 RBk RMs RAr A1 hC2 hpk
            go_wp2_with fail
            go_roundw
            case rel => exact ⟨i + 1, Ls', ms', off', by go_num, by omega, F1⟩
            case measure => simp [intOf] <;> omega
          · by_cases h1 : (ms'.length : Int) ≤ sm
            · have hm : mem ms' sm = false := by unfold mem; simp; omega
              have F0 := hid (A1.out.none HS.out (by rw [HH.out, hm]; rfl))
              have t7 : decide (sm < 0) = false := by simp; omega
              have t8 : decide ((ms'.length : Int) ≤ sm) = true := by simp; omega
              clear hm
              refine wp_region_tail (C := fun w' => Below w1.heap.size w1 w') 13 (by kernel_rfl) (by kernel_rfl) (by kernel_rfl) (Below.refl _ _).drew ?_
              simp only [List.take_succ_cons, List.take_zero, List.drop_succ_cons, List.drop_zero]
              apply wpK_val
              · rfl
              · intro w' hw'
                go_simp
                first | exact rfl | exact ⟨rfl, hw'⟩
              simp only [Act.put, List.setIfInBounds_toArray, List.set_cons_succ, List.set_cons_zero]
              apply wpK_val
              · rfl
              · intro w' hw'
                have hcell := (hw'.cell (p := ⟨gS, 2, none⟩) (World.block_lt_of_cell? w1 _ qm)).trans qm
                go_simp
                first | exact rfl | exact ⟨rfl, hw'⟩
              simp only [Act.put, List.setIfInBounds_toArray, List.set_cons_succ, List.set_cons_zero]
              apply wpK_val
              · rfl
              · intro w' hw'
                go_simp
                first | exact rfl | exact ⟨rfl, hw'⟩
              simp only [Act.put, List.setIfInBounds_toArray, List.set_cons_succ, List.set_cons_zero]
              apply wpK_val
              · rfl
              · intro w' hw'
                go_simp
                first | exact rfl | exact ⟨rfl, hw'⟩
              simp only [Act.put, List.setIfInBounds_toArray, List.set_cons_succ, List.set_cons_zero]
              apply wpK_val
              · rfl
              · intro w' hw'
                go_simp
                first | exact rfl | exact ⟨rfl, hw'⟩
              simp only [Act.put, List.setIfInBounds_toArray, List.set_cons_succ, List.set_cons_zero]
              apply wpK_val
              · rfl
              · intro w' hw'
                have hcell := (hw'.cell (p := ⟨gS, 2, none⟩) (World.block_lt_of_cell? w1 _ qm)).trans qm
                go_simp
                first | exact rfl | exact ⟨rfl, hw'⟩
              simp only [Act.put, List.setIfInBounds_toArray, List.set_cons_succ, List.set_cons_zero]
              apply wpK_val
              · rfl
              · intro w' hw'
                go_simp
                first | exact rfl | exact ⟨rfl, hw'⟩
              simp only [Act.put, List.setIfInBounds_toArray, List.set_cons_succ, List.set_cons_zero]
              apply wpK_val
              · rfl
              · intro w' hw'
                go_simp
                first | exact rfl | exact ⟨rfl, hw'⟩
              simp only [Act.put, List.setIfInBounds_toArray, List.set_cons_succ, List.set_cons_zero]
              apply wpK_val
              · rfl
              · intro w' hw'
                go_simp
                first | exact rfl | exact ⟨rfl, hw'⟩
              simp only [Act.put, List.setIfInBounds_toArray, List.set_cons_succ, List.set_cons_zero]
              apply wpK_val
              · rfl
              · intro w' hw'
                have hcell := (hw'.cell (p := ⟨g, 0, none⟩) hgl).trans (bu_ms RBk.out)
                go_simp
                first | exact rfl | exact ⟨rfl, hw'⟩
              simp only [Act.put, List.setIfInBounds_toArray, List.set_cons_succ, List.set_cons_zero]
              apply wpK_val
              · rfl
              · intro w' hw'
                go_simp
                first | exact rfl | exact ⟨rfl, hw'⟩
              simp only [Act.put, List.setIfInBounds_toArray, List.set_cons_succ, List.set_cons_zero]
              apply wpK_val
              · rfl
              · intro w' hw'
                go_simp
                first | exact rfl | exact ⟨rfl, hw'⟩
              simp only [Act.put, List.setIfInBounds_toArray, List.set_cons_succ, List.set_cons_zero]
              apply wpK_val
              · rfl
              · intro w' hw'
                go_simp
                first | exact rfl | exact ⟨rfl, hw'⟩
              simp only [Act.put, List.setIfInBounds_toArray, List.set_cons_succ, List.set_cons_zero]
              intro w2 hC2
              have F1 := hid (F0.out.on hC2)
              clear F0 RBk RMs RAr A1 hC2 hpk
              go_wp2_with fail
              go_roundw
              case rel => exact ⟨i + 1, Ls', ms', off', by go_num, by omega, F1⟩
              case measure => simp [intOf] <;> omega
            · obtain ⟨mi, rfl⟩ : ∃ mi : Nat, sm = mi := Int.eq_ofNat_of_zero_le (by omega)
              have hmi : mi < ms'.length := by omega
              have hm : mem ms' (mi : Int) = true := by unfold mem; simp; omega
              obtain ⟨gi, hgi⟩ : ∃ gi, F.gs[mi]? = some gi := ⟨_, List.getElem?_eq_getElem (by rw [RMs.out.len]; exact hmi)⟩
              obtain ⟨bA, oA, hA, hbS, hbl, hr⟩ := RAr.out.some hgi
              rw [Nat.mul_one] at hr
              have q1 : w1.cell? ⟨bA, oA + mi, none⟩ = some (.pointer (some ⟨gi, 0, none⟩)) := pt_p hr
              have q0 : w1.cell? ⟨g, 0, none⟩ = some (.slice (some ⟨bA, oA, none⟩) ms'.length F.cm) := by rw [← hA]; exact bu_ms RBk.out
              obtain ⟨st, hst, RS1⟩ := RMs.out.at hgi
              have hat : BuM.at' ms' (mi : Int) = st := by unfold BuM.at'; rw [Int.toNat_natCast, List.getD_eq_getElem?_getD, hst]; rfl
              have HO : ∀ st', deed ⟨(now : Int), kd, mi, si, sn, sd, pk⟩ st = st' → Hid (hand b.log.length ⟨(now : Int), kd, mi, si, sn, sd, pk⟩ (ms', off') = (ms'.set mi st', off')) := fun st' e => hid (by rw [HH.out, hm, hat, e, Int.toNat_natCast]; rfl)
              have HGI := hid hgi
              have HST := hid hst
              have RS2 := hid RS1
              have t7 : decide ((mi : Int) < 0) = false := by simp
              have t8 : decide ((ms'.length : Int) ≤ (mi : Int)) = false := by simp; omega
              have t9 : (mi : Int) < (ms'.length : Int) := by omega
              clear hm hr hA hat hst RS1 HH hgi
              refine wp_region_tail (C := fun w' => Below w1.heap.size w1 w') 13 (by kernel_rfl) (by kernel_rfl) (by kernel_rfl) (Below.refl _ _).drew ?_
              simp only [List.take_succ_cons, List.take_zero, List.drop_succ_cons, List.drop_zero]
              apply wpK_val
              · rfl
              · intro w' hw'
                go_simp
                first | exact rfl | exact ⟨rfl, hw'⟩
              simp only [Act.put, List.setIfInBounds_toArray, List.set_cons_succ, List.set_cons_zero]
              apply wpK_val
              · rfl
              · intro w' hw'
                have hcell := (hw'.cell (p := ⟨gS, 2, none⟩) (World.block_lt_of_cell? w1 _ qm)).trans qm
                go_simp
                first | exact rfl | exact ⟨rfl, hw'⟩
              simp only [Act.put, List.setIfInBounds_toArray, List.set_cons_succ, List.set_cons_zero]
              apply wpK_val
              · rfl
              · intro w' hw'
                go_simp
                first | exact rfl | exact ⟨rfl, hw'⟩
              simp only [Act.put, List.setIfInBounds_toArray, List.set_cons_succ, List.set_cons_zero]
              apply wpK_val
              · rfl
              · intro w' hw'
                go_simp
                first | exact rfl | exact ⟨rfl, hw'⟩
              simp only [Act.put, List.setIfInBounds_toArray, List.set_cons_succ, List.set_cons_zero]
              apply wpK_val
              · rfl
              · intro w' hw'
                go_simp
                first | exact rfl | exact ⟨rfl, hw'⟩
              simp only [Act.put, List.setIfInBounds_toArray, List.set_cons_succ, List.set_cons_zero]
              apply wpK_val
              · rfl
              · intro w' hw'
                have hcell := (hw'.cell (p := ⟨gS, 2, none⟩) (World.block_lt_of_cell? w1 _ qm)).trans qm
                go_simp
                first | exact rfl | exact ⟨rfl, hw'⟩
              simp only [Act.put, List.setIfInBounds_toArray, List.set_cons_succ, List.set_cons_zero]
              apply wpK_val
              · rfl
              · intro w' hw'
                go_simp
                first | exact rfl | exact ⟨rfl, hw'⟩
              simp only [Act.put, List.setIfInBounds_toArray, List.set_cons_succ, List.set_cons_zero]
              apply wpK_val
              · rfl
              · intro w' hw'
                go_simp
                first | exact rfl | exact ⟨rfl, hw'⟩
              simp only [Act.put, List.setIfInBounds_toArray, List.set_cons_succ, List.set_cons_zero]
              apply wpK_val
              · rfl
              · intro w' hw'
                go_simp
                first | exact rfl | exact ⟨rfl, hw'⟩
              simp only [Act.put, List.setIfInBounds_toArray, List.set_cons_succ, List.set_cons_zero]
              apply wpK_val
              · rfl
              · intro w' hw'
                have hcell := (hw'.cell (p := ⟨g, 0, none⟩) hgl).trans q0
                go_simp
                first | exact rfl | exact ⟨rfl, hw'⟩
              simp only [Act.put, List.setIfInBounds_toArray, List.set_cons_succ, List.set_cons_zero]
              apply wpK_val
              · rfl
              · intro w' hw'
                go_simp
                first | exact rfl | exact ⟨rfl, hw'⟩
              simp only [Act.put, List.setIfInBounds_toArray, List.set_cons_succ, List.set_cons_zero]
              apply wpK_val
              · rfl
              · intro w' hw'
                go_simp
                first | exact rfl | exact ⟨rfl, hw'⟩
              simp only [Act.put, List.setIfInBounds_toArray, List.set_cons_succ, List.set_cons_zero]
              apply wpK_val
              · rfl
              · intro w' hw'
                go_simp
                first | exact rfl | exact ⟨rfl, hw'⟩
              simp only [Act.put, List.setIfInBounds_toArray, List.set_cons_succ, List.set_cons_zero]
              intro w2 hC2
              go_upto_region 9 with fail
              refine wp_region_tail (C := fun w' => Below w1.heap.size w1 w') 9 (by kernel_rfl) (by kernel_rfl) (by kernel_rfl) hC2.drew ?_
              simp only [List.take_succ_cons, List.take_zero, List.drop_succ_cons, List.drop_zero]
              apply wpK_val
              · rfl
              · intro w' hw'
                go_simp
                first | exact rfl | exact ⟨rfl, hw'⟩
              simp only [Act.put, List.setIfInBounds_toArray, List.set_cons_succ, List.set_cons_zero]
              apply wpK_val
              · rfl
              · intro w' hw'
                go_simp
                first | exact rfl | exact ⟨rfl, hw'⟩
              simp only [Act.put, List.setIfInBounds_toArray, List.set_cons_succ, List.set_cons_zero]
              apply wpK_val
              · rfl
              · intro w' hw'
                go_simp
                first | exact rfl | exact ⟨rfl, hw'⟩
              simp only [Act.put, List.setIfInBounds_toArray, List.set_cons_succ, List.set_cons_zero]
              apply wpK_val
              · rfl
              · intro w' hw'
                have hcell := (hw'.cell (p := ⟨g, 0, none⟩) hgl).trans q0
                go_simp
                first | exact rfl | exact ⟨rfl, hw'⟩
              simp only [Act.put, List.setIfInBounds_toArray, List.set_cons_succ, List.set_cons_zero]
              apply wpK_val
              · rfl
              · intro w' hw'
                go_simp
                first | exact rfl | exact ⟨rfl, hw'⟩
              simp only [Act.put, List.setIfInBounds_toArray, List.set_cons_succ, List.set_cons_zero]
              apply wpK_val
              · rfl
              · intro w' hw'
                have hcell := (hw'.cell (p := ⟨gS, 2, none⟩) (World.block_lt_of_cell? w1 _ qm)).trans qm
                go_simp
                first | exact rfl | exact ⟨rfl, hw'⟩
              simp only [Act.put, List.setIfInBounds_toArray, List.set_cons_succ, List.set_cons_zero]
              apply wpK_val
              · rfl
              · intro w' hw'
                go_simp
                first | exact rfl | exact ⟨rfl, hw'⟩
              simp only [Act.put, List.setIfInBounds_toArray, List.set_cons_succ, List.set_cons_zero]
              apply wpK_val
              · rfl
              · intro w' hw'
                have hcell := (hw'.cell (p := ⟨bA, oA + mi, none⟩) hbl).trans q1
                go_simp
                first | exact rfl | exact ⟨rfl, hw'⟩
              simp only [Act.put, List.setIfInBounds_toArray, List.set_cons_succ, List.set_cons_zero]
              apply wpK_val
              · rfl
              · intro w' hw'
                go_simp
                first | exact rfl | exact ⟨rfl, hw'⟩
              simp only [Act.put, List.setIfInBounds_toArray, List.set_cons_succ, List.set_cons_zero]
              intro w3 hC3
              have A3 := hid (A1.out.on hC3)
              have R3 := hid (RS2.out.turn (Turn.of_new (S := fun _ => False) hC3) (fun e => e) fun _ _ e => e)
              have qk3 : w3.cell? ⟨gS, 1, none⟩ = some (.int .i64 kd) := (hC3.cell (p := ⟨gS, 1, none⟩) (World.block_lt_of_cell? w1 _ qk)).trans qk
              have qi3 : w3.cell? ⟨gS, 3, none⟩ = some (.int .i64 si) := (hC3.cell (p := ⟨gS, 3, none⟩) (World.block_lt_of_cell? w1 _ qi)).trans qi
              have qn3 : w3.cell? ⟨gS, 4, none⟩ = some (.int .i64 sn) := (hC3.cell (p := ⟨gS, 4, none⟩) (World.block_lt_of_cell? w1 _ qn)).trans qn
              have qd3 := hid (show w3.rangeAt gS 5 (ar 64 sd).toList from fun j v hj => (hC3.cell (p := ⟨gS, 5 + j, none⟩) (World.block_lt_of_cell? w1 _ (qd.out j v hj))).trans (qd.out j v hj))
              clear RBk RMs RAr A1 hC2 hC3 hpk qa qk qm qi qn qp qd q0 q1 RS2
              by_cases k1 : kd = 1
              · subst k1
                have HE := HO _ rfl
                go_wp2_with ((with_reducible apply ldAm tSe); rfl; exact qd3.out)
                refine (rs_set R3.out (by omega) si sd).mono ?_
                rintro e w4 ⟨rfl, ho⟩
                obtain ⟨Ls2, f1⟩ := A3.out.one HS.out HGI.out HST.out HE.out ho
                have F1 := hid f1
                clear ho f1
                go_wp2_with fail
                go_roundw
                case rel => exact ⟨i + 1, Ls2, _, _, by go_num, by omega, F1⟩
                case measure => simp [intOf] <;> omega
              by_cases k2 : kd = 2
              · subst k2
                have HE := HO _ rfl
                go_wp2_with fail
                refine (rs_mark R3.out (by omega)).mono ?_
                rintro e w4 ⟨rfl, ho⟩
                obtain ⟨Ls2, f1⟩ := A3.out.one HS.out HGI.out HST.out HE.out ho
                have F1 := hid f1
                clear ho f1
                go_wp2_with fail
                go_roundw
                case rel => exact ⟨i + 1, Ls2, _, _, by go_num, by omega, F1⟩
                case measure => simp [intOf] <;> omega
              by_cases k3 : kd = 3
              · subst k3
                have HE := HO _ rfl
                go_wp2_with fail
                refine (rs_back R3.out sn).mono ?_
                rintro e w4 ⟨rfl, ho⟩
                obtain ⟨Ls2, f1⟩ := A3.out.one HS.out HGI.out HST.out HE.out ho
                have F1 := hid f1
                clear ho f1
                go_wp2_with fail
                go_roundw
                case rel => exact ⟨i + 1, Ls2, _, _, by go_num, by omega, F1⟩
                case measure => simp [intOf] <;> omega
              by_cases k4 : kd = 4
              · subst k4
                have HE := HO _ rfl
                go_wp2_with fail
                refine (rs_fail R3.out true).mono ?_
                rintro e w4 ⟨rfl, ho⟩
                obtain ⟨Ls2, f1⟩ := A3.out.one HS.out HGI.out HST.out HE.out ho
                have F1 := hid f1
                clear ho f1
                go_wp2_with fail
                go_roundw
                case rel => exact ⟨i + 1, Ls2, _, _, by go_num, by omega, F1⟩
                case measure => simp [intOf] <;> omega
              by_cases k5 : kd = 5
              · subst k5
                have HE := HO _ rfl
                go_wp2_with fail
                refine (rs_fail R3.out false).mono ?_
                rintro e w4 ⟨rfl, ho⟩
                obtain ⟨Ls2, f1⟩ := A3.out.one HS.out HGI.out HST.out HE.out ho
                have F1 := hid f1
                clear ho f1
                go_wp2_with fail
                go_roundw
                case rel => exact ⟨i + 1, Ls2, _, _, by go_num, by omega, F1⟩
                case measure => simp [intOf] <;> omega
              have HE := HO st (by unfold deed; rw [if_neg k1, if_neg k2, if_neg k3, if_neg k4, if_neg k5])
              have F1 := hid (A3.out.none HS.out (by
                rw [HE.out]
                have h1 := HST.out
                rw [List.getElem?_eq_getElem hmi, Option.some.injEq] at h1
                rw [← h1, List.set_getElem_self]))
              have u1 : decide (kd = 1) = false := by simp; omega
              have u2 : decide (kd = 2) = false := by simp; omega
              have u3 : decide (kd = 3) = false := by simp; omega
              have u4 : decide (kd = 4) = false := by simp; omega
              have u5 : decide (kd = 5) = false := by simp; omega
              go_wp2_with fail
              go_roundw
              case rel => exact ⟨i + 1, Ls', ms', off', by go_num, by omega, F1⟩
              case measure => simp [intOf] <;> omega
      · have t2 : decide (sa = (now : Int)) = false := by simp; omega
        have t3 : (sa != (now : Int)) = true := by simp; omega
        have hN := HN.out
        have F1 := hid (A1.out.none HS.out (show hand b.log.length _ (ms', off') = (ms', off') by unfold hand; rw [if_neg (by rw [← hN]; exact ha)]))
        clear hN
        go_wp2_with fail
        go_roundw
        case rel => exact ⟨i + 1, Ls', ms', off', by go_num, by omega, F1⟩
        case measure => simp [intOf] <;> omega
    · have t1 : decide ((i : Int) < (b.steps.length : Int)) = false := by simp; omega
      obtain rfl : i = b.steps.length := by omega
      go_wp2_with fail
      refine bodyPost_end (results_none rfl _ _ _) rfl ?_
      refine ⟨rfl, Ls', ?_, HR.out.ls, HR.out.tu⟩
      have h1 := HR.out.rb
      have h2 := HR.out.eq
      rw [List.take_length] at h2
      unfold BuM.ahead
      rw [h2]
      exact h1
end BuP
end Go.Proofs.YthogklchmhjjkaaGreat
set_option maxRecDepth 100000
namespace Go.Proofs.YthogklchmhjjkaaGreat
open Go.ChangeShapes Go.WideShapes Go.ChangeAt Go.RowKit
attribute [local go_sem] Gives GivesE
namespace BuP
open BuM MbM MbP
def enF (x : Ent) (j : Nat) : Value := if j = 0 then .int .i64 x.d else if j = 1 then .int .i64 x.m else if j = 2 then .int .i64 x.i else if j = 67 then .int .i64 x.e else .int .u8 (x.s (j - 3) : Nat)
theorem en_row (x : Ent) : (enL x).toArray = row 68 (enF x) := by
  apply Array.ext'
  apply List.ext_getElem?
  intro j
  rw [Array.getElem?_toList, Array.getElem?_toList, List.getElem?_toArray]
  by_cases hj : j < 68
  · rw [get_row_lt hj]
    unfold enF enL
    rcases j with _ | _ | _ | j
    · rfl
    · rfl
    · rfl
    · rw [List.getElem?_cons_succ, List.getElem?_cons_succ, List.getElem?_cons_succ, if_neg (by omega), if_neg (by omega), if_neg (by omega)]
      by_cases e : j = 64
      · subst e
        rw [if_pos rfl, List.getElem?_append_right (by rw [ar64_len]; exact Nat.le_refl _), ar64_len]; rfl
      · rw [if_neg (by omega), List.getElem?_append_left (by rw [ar64_len]; omega), ar64, Array.getElem?_toList, ar, get_row_lt (by omega)]; rfl
  · rw [List.getElem?_eq_none (by rw [enL_len]; omega), Array.getElem?_eq_none (by rw [size_row]; omega)]
theorem en_setE {w : World} {g : Nat} {t : TypeId} {x : Ent} (h : Blk w g t (enL x).toArray) (e : Int) : Blk (w.setCell ⟨g, 67, none⟩ (.int .i64 e)) g t (enL { x with e := e }).toArray := by
  rw [en_row] at h ⊢
  have h1 := h.setCell_same 67 (.int .i64 e)
  rw [row_set, row_ext (g := enF { x with e := e }) fun j hj => by
    unfold enF
    by_cases e1 : j = 67
    · subst e1; rfl
    · rw [if_neg e1, if_neg e1, if_neg e1]] at h1
  exact h1
theorem en_setS {w : World} {g : Nat} {t : TypeId} {x : Ent} (h : Blk w g t (enL x).toArray) (s : Nat → Nat) : Blk (w.setCells g 3 (ar 64 s).toList) g t (enL { x with s := s }).toArray := by
  rw [en_row] at h ⊢
  have h1 := (blk_setCells (ar 64 s).toList 3 w (enF x) h (by rw [Array.length_toList, size_ar]; omega)).1
  rw [row_ext (g := enF { x with s := s }) fun j hj => by
    rw [Array.length_toList, size_ar]
    unfold enF
    by_cases e : 3 ≤ j ∧ j < 3 + 64
    · rw [if_pos e, if_neg (by omega), if_neg (by omega), if_neg (by omega), if_neg (by omega)]
      have : (ar 64 s).toList[j - 3]? = some (.int .u8 (s (j - 3) : Nat)) := by
        rw [Array.getElem?_toList, ar, get_row_lt (by omega)]
      rw [List.getD_eq_getElem?_getD, this]; rfl
    · rw [if_neg e]
      by_cases e0 : j = 0
      · rw [if_pos e0, if_pos e0]
      · by_cases e1 : j = 1
        · rw [if_neg e0, if_neg e0, if_pos e1, if_pos e1]
        · by_cases e2 : j = 2
          · rw [if_neg e0, if_neg e0, if_neg e1, if_neg e1, if_pos e2, if_pos e2]
          · rw [if_neg e0, if_neg e0, if_neg e1, if_neg e1, if_neg e2, if_neg e2, if_pos (by omega), if_pos (by omega)]] at h1
  exact h1
theorem en_there {w : World} {g : Nat} {t : TypeId} {x : Ent} (h : Blk w g t (enL x).toArray) {o n : Nat} (hm : o + n ≤ 68) : w.there g o n := there_of (t := t) (cur := (enL x).toArray) h (by rw [List.size_toArray, enL_len]; exact hm)
theorem en_qe {w : World} {g : Nat} {t : TypeId} {x : Ent} (h : Blk w g t (enL x).toArray) : w.cell? ⟨g, 67, none⟩ = some (.int .i64 x.e) := en_e (o := 0) (x := x) h.whole
theorem en_qs {w : World} {g : Nat} {t : TypeId} {x : Ent} (h : Blk w g t (enL x).toArray) : w.rangeAt g 3 (ar 64 x.s).toList := en_s (o := 0) (x := x) h.whole
def en0 : Ent := ⟨0, 0, 0, fun _ => 0, 0⟩
theorem zEn (w : World) : (zeroValue 59).run Tryz.prog w = .ok (.agg (enL en0).toArray) w := (zero_of_info (P := Tryz.prog) (t := 59) (v := .agg (enL en0).toArray) (n := 68) (by kernel_rfl)).1 w
theorem en_size (x y : Ent) : (enL x).toArray.size = (enL y).toArray.size := by rw [List.size_toArray, List.size_toArray, enL_len, enL_len]
theorem en_one' (x : Ent) : (enL x).toArray.all (·.oneCell') = true := by
  rw [Array.all_eq_true_iff_forall_mem]
  intro u hu
  exact enL_one x u (by simpa using hu)
section
variable {ops : Array Oper} {Q : Exit → Act → World → Prop} {a : Act} {w : World} {rest : List Oper} {dst : Option Tmp} {ty : TypeId} {pos : String} {after : Array Edge} {x y z : Operand} {m i : Int} {s : Nat → Nat}
theorem wblRd (hx : a.eval x = .int .i64 m) (hy : a.eval y = .int .i64 i) (hk : wpList Tryz.prog ops Q rest (a.put dst (.agg (enL ⟨1, m, i, fun _ => 0, 0⟩).toArray)) w) : wpList Tryz.prog ops Q (⟨dst, .build 59 #[(0, .const (.int .i64 1)), (1, x), (2, y)], ty, pos, after, none⟩ :: rest) a w := by
  have hr : (Instr.build 59 #[(0, .int .i64 1), (1, .int .i64 m), (2, .int .i64 i)]).run Tryz.prog w = .ok (.agg (enL ⟨1, m, i, fun _ => 0, 0⟩).toArray) w := run_build w _ _ _ (by kernel_rfl)
  have hm : (#[(0, .const (.int .i64 1)), (1, x), (2, y)] : Array (Nat × Operand)).map (fun (i, x) => (i, a.eval x)) = #[(0, .int .i64 1), (1, .int .i64 m), (2, .int .i64 i)] := by
    simp only [List.map_toArray, List.map_cons, List.map_nil, hx, hy]; rfl
  refine wpList_plain rfl fun K hK => ?_
  unfold Oper.wp execOp
  simp only [Sem.run_bind, hm, hr, Result.andThen_ok, Sem.run_pure]
  exact hK _ _ hk
theorem wblWr (hx : a.eval x = .int .i64 m) (hy : a.eval y = .int .i64 i) (hz : a.eval z = .agg (ar 64 s)) (hk : wpList Tryz.prog ops Q rest (a.put dst (.agg (enL ⟨2, m, i, s, 0⟩).toArray)) w) : wpList Tryz.prog ops Q (⟨dst, .build 59 #[(0, .const (.int .i64 2)), (1, x), (2, y), (3, z)], ty, pos, after, none⟩ :: rest) a w := by
  have hr : (Instr.build 59 #[(0, .int .i64 2), (1, .int .i64 m), (2, .int .i64 i), (3, .agg (ar 64 s))]).run Tryz.prog w = .ok (.agg (enL ⟨2, m, i, s, 0⟩).toArray) w := run_build w _ _ _ (by kernel_rfl)
  have hm : (#[(0, .const (.int .i64 2)), (1, x), (2, y), (3, z)] : Array (Nat × Operand)).map (fun (i, x) => (i, a.eval x)) = #[(0, .int .i64 2), (1, .int .i64 m), (2, .int .i64 i), (3, .agg (ar 64 s))] := by
    simp only [List.map_toArray, List.map_cons, List.map_nil, hx, hy, hz]; rfl
  refine wpList_plain rfl fun K hK => ?_
  unfold Oper.wp execOp
  simp only [Sem.run_bind, hm, hr, Result.andThen_ok, Sem.run_pure]
  exact hK _ _ hk
theorem wblFl (hx : a.eval x = .int .i64 m) (hk : wpList Tryz.prog ops Q rest (a.put dst (.agg (enL ⟨3, m, 0, fun _ => 0, 0⟩).toArray)) w) : wpList Tryz.prog ops Q (⟨dst, .build 59 #[(0, .const (.int .i64 3)), (1, x)], ty, pos, after, none⟩ :: rest) a w := by
  have hr : (Instr.build 59 #[(0, .int .i64 3), (1, .int .i64 m)]).run Tryz.prog w = .ok (.agg (enL ⟨3, m, 0, fun _ => 0, 0⟩).toArray) w := run_build w _ _ _ (by kernel_rfl)
  have hm : (#[(0, .const (.int .i64 3)), (1, x)] : Array (Nat × Operand)).map (fun (i, x) => (i, a.eval x)) = #[(0, .int .i64 3), (1, .int .i64 m)] := by
    simp only [List.map_toArray, List.map_cons, List.map_nil, hx]; rfl
  refine wpList_plain rfl fun K hK => ?_
  unfold Oper.wp execOp
  simp only [Sem.run_bind, hm, hr, Result.andThen_ok, Sem.run_pure]
  exact hK _ _ hk
theorem run_en4 (w : World) : (Instr.build 59 #[(0, .int .i64 4)]).run Tryz.prog w = .ok (.agg (enL ⟨4, 0, 0, fun _ => 0, 0⟩).toArray) w := run_build w _ _ _ (by kernel_rfl)
theorem wblAd (hx : a.eval x = .agg (ar 64 s)) (hk : wpList Tryz.prog ops Q rest (a.put dst (.agg (enL ⟨5, 0, 0, s, 0⟩).toArray)) w) : wpList Tryz.prog ops Q (⟨dst, .build 59 #[(0, .const (.int .i64 5)), (3, x)], ty, pos, after, none⟩ :: rest) a w := by
  have hr : (Instr.build 59 #[(0, .int .i64 5), (3, .agg (ar 64 s))]).run Tryz.prog w = .ok (.agg (enL ⟨5, 0, 0, s, 0⟩).toArray) w := run_build w _ _ _ (by kernel_rfl)
  have hm : (#[(0, .const (.int .i64 5)), (3, x)] : Array (Nat × Operand)).map (fun (i, x) => (i, a.eval x)) = #[(0, .int .i64 5), (3, .agg (ar 64 s))] := by
    simp only [List.map_toArray, List.map_cons, List.map_nil, hx]; rfl
  refine wpList_plain rfl fun K hK => ?_
  unfold Oper.wp execOp
  simp only [Sem.run_bind, hm, hr, Result.andThen_ok, Sem.run_pure]
  exact hK _ _ hk
end
section
variable {w w' : World} {g k : Nat} {F : Fp} {b : Bs}
/-- One more entry in the log. -/
theorem Rb.logged (H : Rb w g F k b) {v' : Value} {x : Ent} (ht : Turn (fun q => q = g ∨ F.vl.ownBlock = some q) w w') (hb : Blk w' g 54 (buR F.Am b.ms.length F.cm F.gc F.As b.steps.length F.cs b.off v'))
    (ho : OwnX 59 68 enL w' 0 v' (b.log ++ [x])) (hv : ∀ q, v'.ownBlock = some q → F.vl.ownBlock = some q ∨ w.heap.size ≤ q) : Rb w' g { F with vl := v' } (k + 1) (BuM.put b x) where
  blk := hb
  arr := H.arr.turn ht fun q hq _ e => H.sep q (.inl hq) (e.imp id fun x => .inr (.inr (.inr x)))
  mem := (H.mem.turn ht (fun q hq e => e.elim (fun x => H.g_gs (x ▸ hq)) fun x => H.vl_gs q x hq) fun j q hj hq e => H.sep q (.inr ⟨j, hj, hq⟩) (e.imp id fun x => .inr (.inr (.inr x)))).mono fun _ _ => Nat.le_succ _
  cel := H.cel.turn ht (fun e => e.elim (fun x => H.g_gc x.symm) H.vl_gc) fun q hq e => e.elim (fun x => H.g_vc (x ▸ hq)) fun x => H.vl_vc q x hq
  sll := H.sll
  stp := H.stp.turn ht fun q hq _ e => H.sep q (.inl hq) (e.imp id fun x => .inr (.inr (.inr x)))
  pk s x hx := ⟨(H.pk s x hx).1.turn ht fun q o h1 h2 e => H.sep q (.inl ((H.pk s x hx).2.2 q o h1 h2)) (e.imp id fun x => .inr (.inr (.inr x))), (H.pk s x hx).2⟩
  log := ho
  rlt q hq := Nat.lt_of_lt_of_le (H.rlt q hq) ht.size
  sep q hq e := by
    have hl := H.ilt q hq
    rcases e with e | e | e | e | e
    · exact H.sep q hq (.inl e)
    · exact H.sep q hq (.inr (.inl e))
    · exact H.sep q hq (.inr (.inr (.inl e)))
    · exact H.sep q hq (.inr (.inr (.inr (.inl e))))
    · rcases hv q e with x | x
      · exact H.sep q hq (.inr (.inr (.inr (.inr x))))
      · omega
  sz := ⟨H.sz.1, H.sz.2.1, Nat.le_succ_of_le H.sz.2.2.1, by show (b.log ++ [x]).length ≤ k + 1; rw [List.length_append, List.length_cons, List.length_nil]; have := H.sz.2.2.2; omega⟩
  cmx := H.cmx
/-- One member is told something. -/
theorem Rb.tell (H : Rb w g F k b) {mi gi : Nat} {st st' : St} (hgi : F.gs[mi]? = some gi) (ho : RSo w gi (F.Ls mi) (k + 1) st' w') :
    ∃ Ls', Rb w' g { F with Ls := Ls' } (k + 1) { b with ms := b.ms.set mi st' } ∧ (∀ j q, Ls' j q → F.Ls j q ∨ w.heap.size ≤ q) ∧ Turn (fun q => q = gi) w w' := by
  obtain ⟨Ls2, m1, m2, m3⟩ := H.mem.put hgi ho
  have hgm : gi ∈ F.gs := List.mem_of_getElem? hgi
  refine ⟨Ls2, H.put (off' := b.off) (m1.mono fun j _ => ?_) (by rw [List.length_set]) (fun j q _ hq => m2 j q hq) ?_ m3 (fun q e => .inr (e ▸ hgm)), m2, m3⟩
  · show (if j = mi then k + 1 else k) ≤ k + 1
    split <;> omega
  · exact H.blk.turn m3 fun e => H.g_gs (by rw [e]; exact hgm)
/-- The cell goes on. -/
theorem Rb.celled (H : Rb w g F k b) {v' : Value} {h' : ClP.Held} {L' : List ClP.Held} (hL : L'.length = F.hist.length + 1) (hx : h'.1 ≤ ClP.most) (hc : ClP.Rc w' F.gc v' L' h') (hv : ∀ q, v'.ownBlock = some q → F.vc.ownBlock = some q ∨ w.heap.size ≤ q) (ht : Turn (ClP.rSet F.gc F.vc) w w') :
    Rb w' g { F with vc := v', hist := L' } (k + 1) { b with c := h' } where
  blk := H.blk.turn ht fun e => e.elim H.g_gc H.g_vc
  arr := H.arr.turn ht fun q hq _ e => H.sep q (.inl hq) (.inr (.inr (e.imp id .inl)))
  mem := (H.mem.turn ht (fun q hq e => e.elim (fun x => H.gc_gs (x ▸ hq)) fun x => H.vc_gs q x hq) fun j q hj hq e => H.sep q (.inr ⟨j, hj, hq⟩) (.inr (.inr (e.imp id .inl)))).mono fun _ _ => Nat.le_succ _
  cel := hc
  sll := H.sll
  stp := H.stp.turn ht fun q hq _ e => H.sep q (.inl hq) (.inr (.inr (e.imp id .inl)))
  pk s x hx := ⟨(H.pk s x hx).1.turn ht fun q o h1 h2 e => H.sep q (.inl ((H.pk s x hx).2.2 q o h1 h2)) (.inr (.inr (e.imp id .inl))), (H.pk s x hx).2⟩
  log := H.log.turn ht fun q hq e => e.elim (fun x => H.vl_gc (x ▸ hq)) (H.vl_vc q hq)
  rlt q hq := Nat.lt_of_lt_of_le (H.rlt q hq) ht.size
  sep q hq e := by
    have hl := H.ilt q hq
    rcases e with e | e | e | e | e
    · exact H.sep q hq (.inl e)
    · exact H.sep q hq (.inr (.inl e))
    · exact H.sep q hq (.inr (.inr (.inl e)))
    · rcases hv q e with x | x
      · exact H.sep q hq (.inr (.inr (.inr (.inl x))))
      · omega
    · exact H.sep q hq (.inr (.inr (.inr (.inr e))))
  sz := ⟨H.sz.1, H.sz.2.1, by show L'.length ≤ k + 1 + 1; rw [hL]; have := H.sz.2.2.1; omega, Nat.le_succ_of_le H.sz.2.2.2⟩
  cmx := hx
end
theorem may_zero {b : Bs} {m : Int} (h : BuM.may b m = 0) : b.off = false ∧ ∃ mi : Nat, m = mi ∧ mi < b.ms.length := by
  unfold BuM.may at h
  cases ho : b.off with
  | true => rw [ho, if_pos rfl] at h; cases h
  | false =>
    rw [ho, if_neg Bool.false_ne_true] at h
    cases hm : mem b.ms m with
    | false => rw [hm, if_neg Bool.false_ne_true] at h; cases h
    | true =>
      unfold mem at hm
      simp only [decide_eq_true_eq] at hm
      obtain ⟨mi, rfl⟩ : ∃ mi : Nat, m = mi := Int.eq_ofNat_of_zero_le (by omega)
      exact ⟨rfl, mi, rfl, by omega⟩
theorem at_of {l : List St} {mi : Nat} {st : St} (h : l[mi]? = some st) : BuM.at' l (mi : Int) = st := by
  unfold BuM.at'; rw [Int.toNat_natCast, List.getD_eq_getElem?_getD, h]; rfl
end BuP
end Go.Proofs.YthogklchmhjjkaaGreat
set_option maxRecDepth 100000
namespace Go.Proofs.YthogklchmhjjkaaGreat
open Go.ChangeShapes Go.WideShapes Go.ChangeAt Go.RowKit
attribute [local go_sem] Gives GivesE
namespace BuP
open BuM MbM MbP
structure IoS (w0 : World) (g : Nat) (F0 : Fp) (w : World) (F : Fp) (k : Nat) (b : Bs) (V : Nat → Prop) : Prop where
  rb : Rb w g F k b
  gs : F.gs = F0.gs
  gc : F.gc = F0.gc
  mu : ∀ q, mutR g F q → mutR g F0 q ∨ w0.heap.size ≤ q
  ru : ∀ q, rdR F q → rdR F0 q ∨ w0.heap.size ≤ q
  tu : Turn (mutR g F0) w0 w
  vr : ∀ q, V q → w0.heap.size ≤ q ∧ q < w.heap.size ∧ ¬ mutR g F q ∧ ¬ rdR F q
section
variable {w0 w w' : World} {g k k' : Nat} {F0 F F' : Fp} {b b' : Bs} {V : Nat → Prop}
theorem IoS.start (H : Rb w g F k b) : IoS w g F w F k b (fun _ => False) := ⟨H, rfl, rfl, fun _ e => .inl e, fun _ e => .inl e, Turn.refl _ _, fun _ e => e.elim⟩
theorem IoS.out (H : IoS w0 g F0 w F k b V) : outB w0 g F0 k b w := ⟨F, H.rb, H.gs, H.gc, H.mu, H.ru, H.tu⟩
theorem IoS.below (H : IoS w0 g F0 w F k b V) (hb : Below w.heap.size w w') : IoS w0 g F0 w' F k b V where
  rb := H.rb.below hb
  gs := H.gs
  gc := H.gc
  mu := H.mu
  ru := H.ru
  tu := H.tu.trans (Turn.of_new (S := fun _ => False) hb) fun _ e => e.elim
  vr q hq := ⟨(H.vr q hq).1, Nat.lt_of_lt_of_le (H.vr q hq).2.1 hb.size, (H.vr q hq).2.2⟩
/-- A new variable of the call's. -/
theorem IoS.var (H : IoS w0 g F0 w F k b V) (hb : Below w.heap.size w w') (hl : w.heap.size < w'.heap.size) : IoS w0 g F0 w' F k b (fun q => q = w.heap.size ∨ V q) :=
  let H' := H.below hb
  { rb := H'.rb, gs := H.gs, gc := H.gc, mu := H.mu, ru := H.ru, tu := H'.tu
    vr := fun q hq => by
      rcases hq with rfl | hq
      · exact ⟨H.tu.size, hl, fun e => Nat.lt_irrefl _ (H.rb.mlt _ e), fun e => Nat.lt_irrefl _ (H.rb.ilt _ e)⟩
      · exact H'.vr q hq }
/-- A variable of the call's is set. -/
theorem IoS.set (H : IoS w0 g F0 w F k b V) {v : Nat} (hv : V v) (ht : Turn (fun q => q = v) w w') : IoS w0 g F0 w' F k b V where
  rb := H.rb.turn ht fun q hq e => hq.elim (fun x => (H.vr v hv).2.2.1 (e ▸ x)) fun x => (H.vr v hv).2.2.2 (e ▸ x)
  gs := H.gs
  gc := H.gc
  mu := H.mu
  ru := H.ru
  tu := H.tu.trans ht fun q e => .inr (by rw [e]; exact (H.vr v hv).1)
  vr q hq := ⟨(H.vr q hq).1, Nat.lt_of_lt_of_le (H.vr q hq).2.1 ht.size, (H.vr q hq).2.2⟩
/-- The bus itself is turned. -/
theorem IoS.go (H : IoS w0 g F0 w F k b V) (hr : Rb w' g F' k' b') (h1 : F'.gs = F.gs) (h2 : F'.gc = F.gc) (hm : ∀ q, mutR g F' q → mutR g F q ∨ w.heap.size ≤ q) (hi : ∀ q, rdR F' q → rdR F q ∨ w.heap.size ≤ q) (ht : Turn (mutR g F) w w') : IoS w0 g F0 w' F' k' b' V where
  rb := hr
  gs := h1.trans H.gs
  gc := h2.trans H.gc
  mu q hq := by
    rcases hm q hq with e | e
    · exact H.mu q e
    · exact .inr (Nat.le_trans H.tu.size e)
  ru q hq := by
    rcases hi q hq with e | e
    · exact H.ru q e
    · exact .inr (Nat.le_trans H.tu.size e)
  tu := H.tu.trans ht H.mu
  vr q hq := by
    obtain ⟨v1, v2, v3, v4⟩ := H.vr q hq
    refine ⟨v1, Nat.lt_of_lt_of_le v2 ht.size, fun e => ?_, fun e => ?_⟩
    · rcases hm q e with x | x
      · exact v3 x
      · omega
    · rcases hi q e with x | x
      · exact v4 x
      · omega
theorem IoS.mono (H : IoS w0 g F0 w F k b V) (hk : k ≤ k') : IoS w0 g F0 w F k' b V := ⟨H.rb.mono hk, H.gs, H.gc, H.mu, H.ru, H.tu, H.vr⟩
/-- The steps ahead. -/
theorem IoS.ahead (H : IoS w0 g F0 w F k b V) {Ls' : Nat → Nat → Prop} {b' : Bs} (hr : Rb w' g { F with Ls := Ls' } k' b') (hl : ∀ j q, j < F.gs.length → Ls' j q → F.Ls j q ∨ w.heap.size ≤ q) (ht : Turn (fun q => q = g ∨ q ∈ F.gs) w w') : IoS w0 g F0 w' { F with Ls := Ls' } k' b' V ∧ Turn (mutR g F) w w' := by
  have ht' : Turn (mutR g F) w w' := ht.mono fun q e => e.imp id .inl
  refine ⟨H.go hr rfl rfl (fun q e => .inl e) (fun q e => ?_) ht', ht'⟩
  rcases e with e | ⟨j, hj, e⟩
  · exact .inl (.inl e)
  · exact (hl j q hj e).imp (fun x => .inr ⟨j, hj, x⟩) id
theorem IoS.tell (H : IoS w0 g F0 w F k b V) {mi gi : Nat} {st st' : St} (hgi : F.gs[mi]? = some gi) (ho : RSo w gi (F.Ls mi) (k + 1) st' w') :
    ∃ Ls', IoS w0 g F0 w' { F with Ls := Ls' } (k + 1) { b with ms := b.ms.set mi st' } V ∧ Turn (mutR g F) w w' := by
  obtain ⟨Ls', h1, h2, h3⟩ := H.rb.tell (st := st) hgi ho
  have ht : Turn (mutR g F) w w' := h3.mono fun q e => .inr (.inl (e ▸ List.mem_of_getElem? hgi))
  refine ⟨Ls', H.go h1 rfl rfl (fun q e => .inl e) (fun q e => ?_) ht, ht⟩
  rcases e with e | ⟨j, hj, e⟩
  · exact .inl (.inl e)
  · exact (h2 j q e).imp (fun x => .inr ⟨j, hj, x⟩) id
theorem IoS.celled (H : IoS w0 g F0 w F k b V) {v' : Value} {h' : ClP.Held} {L' : List ClP.Held} (hL : L'.length = F.hist.length + 1) (hx : h'.1 ≤ ClP.most) (hc : ClP.Rc w' F.gc v' L' h') (hv : ∀ q, v'.ownBlock = some q → F.vc.ownBlock = some q ∨ w.heap.size ≤ q) (ht : Turn (ClP.rSet F.gc F.vc) w w') :
    IoS w0 g F0 w' { F with vc := v', hist := L' } (k + 1) { b with c := h' } V ∧ Turn (mutR g F) w w' := by
  have ht' : Turn (mutR g F) w w' := ht.mono fun q e => .inr (.inr (e.imp id .inl))
  refine ⟨H.go (H.rb.celled hL hx hc hv ht) rfl rfl (fun q e => ?_) (fun q e => .inl e) ht', ht'⟩
  rcases e with e | e | e | e | e
  · exact .inl (.inl e)
  · exact .inl (.inr (.inl e))
  · exact .inl (.inr (.inr (.inl e)))
  · exact (hv q e).imp (fun x => .inr (.inr (.inr (.inl x)))) id
  · exact .inl (.inr (.inr (.inr (.inr e))))
theorem IoS.logged (H : IoS w0 g F0 w F k b V) {v' : Value} {x : Ent} (ht : Turn (fun q => q = g ∨ F.vl.ownBlock = some q) w w') (hb : Blk w' g 54 (buR F.Am b.ms.length F.cm F.gc F.As b.steps.length F.cs b.off v'))
    (ho : OwnX 59 68 enL w' 0 v' (b.log ++ [x])) (hv : ∀ q, v'.ownBlock = some q → F.vl.ownBlock = some q ∨ w.heap.size ≤ q) : IoS w0 g F0 w' { F with vl := v' } (k + 1) (BuM.put b x) V ∧ Turn (mutR g F) w w' := by
  have ht' : Turn (mutR g F) w w' := ht.mono fun q e => e.imp id fun x => .inr (.inr (.inr x))
  refine ⟨H.go (H.rb.logged ht hb ho hv) rfl rfl (fun q e => ?_) (fun q e => .inl e) ht', ht'⟩
  rcases e with e | e | e | e | e
  · exact .inl (.inl e)
  · exact .inl (.inr (.inl e))
  · exact .inl (.inr (.inr (.inl e)))
  · exact .inl (.inr (.inr (.inr (.inl e))))
  · exact (hv q e).imp (fun x => .inr (.inr (.inr (.inr x)))) id
/-- A variable of the call's stands, whatever the bus does. -/
theorem IoS.keep (H : IoS w0 g F0 w F k b V) {v : Nat} {t : TypeId} {cs : Array Value} (hv : V v) (hb : Blk w v t cs) (ht : Turn (mutR g F) w w') : Blk w' v t cs := hb.turn ht (H.vr v hv).2.2.1
end
end BuP
end Go.Proofs.YthogklchmhjjkaaGreat
set_option maxRecDepth 100000
namespace Go.Proofs.YthogklchmhjjkaaGreat
open Go.ChangeShapes Go.WideShapes Go.ChangeAt Go.RowKit
attribute [local go_sem] Gives GivesE
namespace ClP
section
variable {w : World} {g : Nat} {v : Value} {L : List Held} {h : Held}
end
end ClP
end Go.Proofs.YthogklchmhjjkaaGreat
set_option maxRecDepth 100000
namespace Go.Proofs.YthogklchmhjjkaaGreat
open Go.ChangeShapes Go.WideShapes Go.ChangeAt Go.RowKit
attribute [local go_sem] Gives GivesE
namespace ClP
/-- A cell and another one, each beside the document's. -/
structure Pl (rep : RepC) (B : Nat) (w : World) (g : Nat) (M I : Cs) (gr : Nat) (v : Value) (L : List Held) (h : Held) (g0 : Nat) (M0 I0 : Cs) (gr0 : Nat) (v0 : Value) (L0 : List Held) (h0 : Held) : Prop where
  p : C1 rep B w g M I L h
  r : Rc w gr v L h
  p0 : C1 rep B w g0 M0 I0 L0 h0
  r0 : Rc w gr0 v0 L0 h0
  s1 : ∀ b, M b → ¬ (M0 b ∨ I0 b)
  s2 : ∀ b, M b ∨ I b → ¬ rSet gr v b.1
  s3 : ∀ b, M b → ¬ rSet gr0 v0 b.1
  s4 : ∀ b, rSet gr v b.1 → ¬ (M0 b ∨ I0 b)
  s5 : ∀ b, rSet gr v b → ¬ rSet gr0 v0 b
  low : ∀ b, rSet gr v b → B ≤ b
theorem Rc.lt {w : World} {g : Nat} {v : Value} {L : List Held} {h : Held} (H : Rc w g v L h) (b : Nat) (hb : rSet g v b) : b < w.heap.size := by
  rcases hb with rfl | e
  · exact H.blk.lt
  · exact (H.lg.own b e).2
section
variable {rep : RepC} {B g gr g0 gr0 : Nat} {w w' : World} {M I M0 I0 : Cs} {v v0 : Value} {L L0 L' : List Held} {h h0 h' : Held}
end
section
variable {a : Act} {w : World} {dst : Option Tmp} {ty r T : TypeId} {pos : String} {after : Array Edge} {x y : Operand} {gd : Option (Nat × Bool)} {p q : Held} {R : Value → World → Prop} {g o : Nat} {cs : Array Value}
theorem gE_ldR (hT : RowT T cs.size) (hx : a.eval x = .pointer (some ⟨g, o, none⟩)) (hb : w.rangeAt g o cs.toList) (hR : R (.agg cs) w) : GivesE Tryz.prog ⟨dst, .load T x, ty, pos, after, gd⟩ a w R := by
  unfold GivesE
  simp only [execOp, hx, Sem.run_bind, run_ldR hT hb, Result.andThen_ok, Sem.run_pure]
  exact hR
end
/-- What holds while a history is asked, and held against the document's. -/
structure HsC (w0 : World) (L : List Held) (d : Bool) (v : Value) (w' : World) : Prop where
  b : Below w0.heap.size w0 w'
  s : d = true → ∃ A c, v = .slice A L.length c ∧ Sli 33 ceL (fun _ => True) w' A L L.length c
theorem HsC.on {w0 w1 w2 : World} {L : List Held} {d : Bool} {v : Value} (h : HsC w0 L d v w1) (hb : Below w1.heap.size w1 w2) : HsC w0 L d v w2 :=
  ⟨h.b.trans (hb.mono h.b.size), fun e => by
    obtain ⟨A, c, h1, h2⟩ := h.s e
    exact ⟨A, c, h1, h2.turn (Turn.of_new (S := fun _ => False) hb) fun _ _ _ e => e⟩⟩
end ClP
end Go.Proofs.YthogklchmhjjkaaGreat
set_option maxRecDepth 100000
namespace Go.Proofs.YthogklchmhjjkaaGreat
open Go.ChangeShapes Go.WideShapes Go.ChangeAt Go.RowKit
attribute [local go_sem] Gives GivesE
namespace BuP
open BuM MbM MbP
section
variable {a : Act} {w : World} {dst : Option Tmp} {ty T : TypeId} {pos : String} {after : Array Edge} {gd : Option (Nat × Bool)} {R : Value → World → Prop} {x y : Operand} {g n : Nat} {t : TypeId} {f f0 : Nat → Nat} {cs old : Array Value}
theorem gE_stA (hT : ArT T n) (hx : a.eval x = .pointer (some ⟨g, 0, none⟩)) (hy : a.eval y = .agg (ar n f)) (hb : Blk w g t (ar n f0)) (hR : R undef (w.setRow g (ar n f))) : GivesE Tryz.prog ⟨dst, .store T x y, ty, pos, after, gd⟩ a w R := by
  have h1 := run_st_ar hT hb f
  unfold GivesE execOp
  simp only [Sem.run_bind, hx, hy, h1, Result.andThen_ok, Sem.run_pure]
  exact hR
theorem gE_stR (hT : RowT T cs.size) (hx : a.eval x = .pointer (some ⟨g, 0, none⟩)) (hy : a.eval y = .agg cs) (hb : Blk w g t old) (hs : old.size = cs.size) (h1 : cs.all (·.oneCell') = true) (hR : R undef (w.setRow g cs)) : GivesE Tryz.prog ⟨dst, .store T x y, ty, pos, after, gd⟩ a w R := by
  have h2 := run_storeVar_row (P := Tryz.prog) w g t T old cs hb hT.size hs h1
  unfold GivesE execOp
  simp only [Sem.run_bind, hx, hy, Instr.storeAt, Instr.sureAddr, h2, Result.andThen_ok, Sem.run_pure]
  exact hR
end
theorem rso_after {w w2 w3 : World} {g k : Nat} {L : Nat → Prop} {st : St} (hb : Below w.heap.size w w2) (h : RSo w2 g L k st w3) : RSo w g L k st w3 := by
  obtain ⟨J, h1, h2, h3⟩ := h
  exact ⟨J, h1, fun b e => (h2 b e).imp id fun x => Nat.le_trans hb.size x, (Turn.of_new (S := fun b => b = g) hb).trans h3 fun _ e => .inl e⟩
/-- What holds while a sector is told. -/
structure ResC (w0 : World) (gR : Nat) (s : Nat → Nat) (d : Bool) (w' : World) : Prop where
  t : Turn (fun q => q = gR) w0 w'
  b : Blk w' gR 43 (ar 64 (if d then s else fun _ => 0))
theorem ResC.put {w0 w' : World} {gR : Nat} {s : Nat → Nat} {d : Bool} (h : ResC w0 gR s d w') : ResC w0 gR s true (w'.setRow gR (ar 64 s)) :=
  ⟨h.t.trans (Turn.setRow (S := fun q => q = gR) _ _ _ rfl) fun q e => .inl e, by rw [if_pos rfl]; exact h.b.setRow_same _⟩
theorem rso_turn {w w' : World} {g k : Nat} {L : Nat → Prop} {st : St} (h : RSo w g L k st w') : Turn (fun b => b = g) w w' := by
  obtain ⟨J, _, _, h3⟩ := h
  exact h3
/-- What holds in the midst of a member's call. -/
structure TeC (w0 : World) (gi k : Nat) (L : Nat → Prop) (st : St) (d : Bool) (w' : World) : Prop where
  t : Turn (fun b => b = gi) w0 w'
  b : d = false → Below w0.heap.size w0 w'
  o : d = true → RSo w0 gi L k st w'
theorem tSeR {s : Nat → Nat} : RowT 43 (ar 64 s).size := by rw [size_ar]; exact ⟨by kernel_rfl, _, Tryz.underlying43, rfl⟩
set_option maxHeartbeats 2000000 in
set_option maxRecDepth 100000 in
theorem bread_any {w : World} {g k : Nat} {F : Fp} {b : Bs} (H : Rb w g F k b) (hk : k + b.steps.length + 2 ≤ 8000) (m i : Int) : Calls Tryz.prog 32 #[MbP.at' g, .int .i64 m, .int .i64 i] w fun e w' =>
    e = .returned (.tuple #[.agg (ar 64 (rdB (BuM.ahead b) m i).s), .int .i64 (rdB (BuM.ahead b) m i).e]) ∧ outB w g F (k + b.steps.length + 2) (BuM.rdT b m i) w' := by
  have I0 := hid (IoS.start H)
  clear H
  unfold MbP.at'
  go_enter Tryz.func32, Tryz.ntmps32
  go_upto_region 1 with (with_reducible apply alA tSe)
  generalize hw1 : World.alloc w _ = w1
  have i1 := I0.out.var (w' := w1) (by rw [← hw1]; exact (Below.refl _ _).alloc (Nat.le_refl _) _) (by rw [← hw1]; simp)
  have r1 : Blk w1 w.heap.size 43 (ar 64 fun _ => 0) := by rw [← hw1]; exact Blk.new _ _ _
  obtain ⟨gR, hgR⟩ : ∃ n, n = w.heap.size := ⟨_, rfl⟩
  rw [← hgR] at i1 r1 ⊢
  have I := hid i1
  have R := hid r1
  clear hw1 I0 hgR i1 r1
  go_wp2_with fail
  refine (rahead_any I.out.rb (by omega)).mono ?_
  rintro e w2 ⟨rfl, Ls', r2, l2, t2⟩
  obtain ⟨i2, u2⟩ := I.out.ahead r2 l2 t2
  replace R := hid (I.out.keep (.inl rfl) R.out u2)
  clear I r2 l2 t2 u2
  obtain ⟨F2, hF2⟩ : ∃ x, x = ({ F with Ls := Ls' } : Fp) := ⟨_, rfl⟩
  obtain ⟨b2, hb2⟩ : ∃ x, x = BuM.ahead b := ⟨_, rfl⟩
  obtain ⟨k2, hk2⟩ : ∃ x, x = k + b.steps.length := ⟨_, rfl⟩
  have HB := hid hb2
  have HK := hid hk2
  rw [← hF2, ← hb2, ← hk2] at i2
  rw [← hk2] at hk
  have I := hid i2
  clear i2 hF2 hb2 hk2
  go_upto_region 3 with (first | ((with_reducible apply wblRd (m := m) (i := i)); rfl; rfl) | (with_reducible apply alZ' zEn) | ((with_reducible apply stR (tEn ⟨1, m, i, fun _ => 0, 0⟩)); rfl; rfl; exact Blk.new _ _ _; exact en_size _ _; exact en_one' _))
  generalize hw3 : World.setRow _ _ _ = w3
  have b3 : Below w2.heap.size w2 w3 := by rw [← hw3]; exact below_setRow ((Below.refl _ _).alloc (Nat.le_refl _) _) (Nat.le_refl _) _
  have i3 := I.out.var b3 (by rw [← hw3]; simp)
  have e3 : Blk w3 w2.heap.size 59 (enL ⟨1, m, i, fun _ => 0, 0⟩).toArray := by rw [← hw3]; exact (Blk.new w2 _ _).setRow_same _
  replace R := hid (R.out.below b3 R.out.lt)
  obtain ⟨gE, hgE⟩ : ∃ n, n = w2.heap.size := ⟨_, rfl⟩
  rw [← hgE] at i3 e3 ⊢
  clear I
  have I := hid i3
  have E := hid e3
  clear hw3 b3 i3 e3 hgE
  have hRE := hid (R.out.neT E.out (by decide))
  go_wp2_with fail
  refine (may_any m I.out.rb.blk).mono ?_
  rintro e w4 ⟨rfl, h4⟩
  obtain ⟨e0, he0⟩ : ∃ x, x = BuM.may b2 m := ⟨_, rfl⟩
  have HE := hid he0
  rw [show mayN b2.off b2.ms.length m = e0 from he0.symm]
  replace R := hid (R.out.below h4 R.out.lt)
  replace E := hid (E.out.below h4 E.out.lt)
  replace I := hid (I.out.below h4)
  clear he0 h4
  have q67 : w4.cell? ⟨gE, 67, none⟩ = some (.int .i64 0) := en_qe E.out
  have fz := E.out.frozen 67
  go_upto_region 4 with fail
  have tu := Turn.setCell (S := fun q => q = gE) w4 ⟨gE, 67, none⟩ (.int .i64 e0) rfl
  replace E := hid (en_setE E.out e0)
  replace R := hid (R.out.turn tu hRE.out)
  replace I := hid (I.out.set (.inl rfl) tu)
  clear tu q67 fz
  generalize World.setCell w4 _ _ = w5 at I E R ⊢
  have q67 : w5.cell? ⟨gE, 67, none⟩ = some (.int .i64 e0) := en_qe E.out
  by_cases h0 : e0 = 0
  · subst h0
    obtain ⟨hoff, mi, rfl, hmi⟩ := may_zero HE.out.symm
    have HO := hid hoff
    obtain ⟨gi, hgi⟩ : ∃ gi, F2.gs[mi]? = some gi := ⟨_, List.getElem?_eq_getElem (by rw [I.out.rb.mem.len]; exact hmi)⟩
    obtain ⟨bA, oA, hA, hbS, hbl, hr⟩ := I.out.rb.arr.some hgi
    rw [Nat.mul_one] at hr
    have q1 : w5.cell? ⟨bA, oA + mi, none⟩ = some (.pointer (some ⟨gi, 0, none⟩)) := pt_p hr
    have q0 : w5.cell? ⟨g, 0, none⟩ = some (.slice (some ⟨bA, oA, none⟩) b2.ms.length F2.cm) := by rw [← hA]; exact bu_ms I.out.rb.blk
    obtain ⟨st, hst, rs⟩ := I.out.rb.mem.at hgi
    have RS := hid rs
    have HAT := hid (at_of hst)
    have t9 : (mi : Int) < (b2.ms.length : Int) := by omega
    have t10 : ¬ (mi : Int) < 0 := by omega
    clear hr hA hst rs hgi hoff
    go_wp2_with fail
    refine (rs_read RS.out i).mono ?_
    rintro e w6 ⟨rfl, h6⟩
    obtain ⟨sv, hsv⟩ : ∃ x, x = rdS st i := ⟨_, rfl⟩
    obtain ⟨ev, hev⟩ : ∃ x, x = rdE st i := ⟨_, rfl⟩
    have HS := hid hsv
    have HEV := hid hev
    rw [← hsv, ← hev]
    clear hsv hev q67 q1 q0 RS t9 t10 hmi hbl hbS
    replace R := hid (R.out.below h6 R.out.lt)
    replace E := hid (E.out.below h6 E.out.lt)
    replace I := hid (I.out.below h6)
    clear h6
    go_upto_region 6 with (first | (with_reducible apply alA tSe) | ((with_reducible apply stA tSe); rfl; rfl; exact Blk.new _ _ _))
    generalize hw7 : World.setRow _ _ _ = w7
    have b7 : Below w6.heap.size w6 w7 := by rw [← hw7]; exact below_setRow ((Below.refl _ _).alloc (Nat.le_refl _) _) (Nat.le_refl _) _
    have s7 : Blk w7 w6.heap.size 43 (ar 64 sv) := by rw [← hw7]; exact (Blk.new w6 _ _).setRow_same _
    obtain ⟨gT, hgT⟩ : ∃ n, n = w6.heap.size := ⟨_, rfl⟩
    rw [← hgT] at s7 ⊢
    have hTE := hid (show gT ≠ gE from by have := E.out.lt; omega)
    have S7 := hid s7
    replace R := hid (R.out.below b7 R.out.lt)
    replace E := hid (E.out.below b7 E.out.lt)
    replace I := hid (I.out.below b7)
    clear hw7 b7 s7 hgT
    have th := hid (en_there (o := 3) (n := (ar 64 sv).size) E.out (by rw [size_ar]; omega))
    go_upto_region 7 with (first | ((with_reducible apply ldA tSe); rfl; exact S7.out) | ((with_reducible apply stRM (cs := ar 64 sv) tSeR); rfl; rfl; exact th.out; exact ar_one))
    have tu := turn_setCells (g := gE) (ar 64 sv).toList 3 w7
    replace E := hid (en_setS E.out sv)
    replace R := hid (R.out.turn tu hRE.out)
    replace I := hid (I.out.set (.inl rfl) tu)
    clear tu th S7 hTE
    generalize World.setCells w7 _ _ _ = w8 at I E R ⊢
    have q67 : w8.cell? ⟨gE, 67, none⟩ = some (.int .i64 0) := en_qe E.out
    have fz := E.out.frozen 67
    go_upto_region 8 with fail
    have tu := Turn.setCell (S := fun q => q = gE) w8 ⟨gE, 67, none⟩ (.int .i64 ev) rfl
    replace E := hid (en_setE E.out ev)
    replace R := hid (R.out.turn tu hRE.out)
    replace I := hid (I.out.set (.inl rfl) tu)
    clear tu q67 fz
    generalize World.setCell w8 _ _ = w9 at I E R ⊢
    have HX := hid (show rdB b2 mi i = ⟨1, mi, i, sv, ev⟩ by unfold rdB; rw [if_pos HE.out.symm, HAT.out, ← HS.out, ← HEV.out])
    have VR := hid (show ¬ mutR g F2 gR from (I.out.vr gR (.inr (.inl rfl))).2.2.1)
    obtain ⟨Al, cl, hvl, _⟩ := I.out.rb.log.sli enL_len
    have HVL := hid hvl
    obtain ⟨nl, hnl⟩ : ∃ n, n = (b2).log.length := ⟨_, rfl⟩
    have HNL := hid hnl
    have HV := hid (show (F2).vl = .slice Al nl cl by rw [hnl]; exact hvl)
    have hnl2 := hid (show nl ≤ 9000 by rw [hnl]; have := I.out.rb.sz.2.2.2; omega)
    have C3 := hid I.out.rb.blk
    have Q5 := hid (show w9.cell? ⟨g, 4, none⟩ = some (.slice Al nl cl) by rw [← HV.out]; exact bu_lg I.out.rb.blk)
    have gEne := hid (show gE ≠ g from fun e => (I.out.vr gE (.inl rfl)).2.2.1 (.inl e))
    have V3 := hid (show (Value.slice Al nl cl).ownBlock ≠ some gE by rw [← HV.out]; exact fun e => (I.out.vr gE (.inl rfl)).2.2.1 (.inr (.inr (.inr (.inr e)))))
    have G3 := hid (show (Value.slice Al nl cl).ownBlock ≠ some g by rw [← HV.out]; exact I.out.rb.g_vl)
    have O3 := hid (show OwnX 59 68 enL w9 0 (.slice Al nl cl) (b2).log by rw [← HV.out]; exact I.out.rb.log)
    clear hvl hnl
    refine wp_region_c (S := yS [some (.pointer (some ⟨g, 0, none⟩)), some (.pointer (some ⟨g, 0, none⟩)), some (.pointer (some ⟨g, 0, none⟩)), some (.pointer (some ⟨g, 4, none⟩)), some (.slice Al nl cl), some (.agg (enL ⟨1, mi, i, sv, ev⟩).toArray), none, none, some (.pointer (some ⟨g, 0, none⟩)), some (.pointer (some ⟨g, 4, none⟩))]
        [(6, kSl 1), (7, kSl (nl + 1))]) (C := fun d vs w' => ApC 59 68 enL w9 (.slice Al nl cl) (b2).log (⟨1, mi, i, sv, ev⟩) (d 6) (d 7) (vs 6) (vs 7) w') 10 (by kernel_rfl) (by kernel_rfl) (by kernel_rfl) _
      (yS_ok _ fun y hy => by simp only [List.mem_cons, List.not_mem_nil, or_false] at hy; rcases hy with rfl | rfl <;> exact kSl_ok _) ⟨Turn.drew _, fun _ => (Below.refl _ _).drew, (fun e => by cases e), (fun e => by cases e)⟩ fun vs => ?_
    simp only [List.take_succ_cons, List.take_zero, List.drop_succ_cons, List.drop_zero]
    refine ⟨.inl ⟨rfl, fun dd w' hd hnx hw hC => ?_⟩, fun e => ?_⟩
    · go_simp
      first | exact ⟨rfl, hC⟩ | exact hC
    have e' : vs 0 = _ := e
    rw [e']
    clear e e'
    simp only [Act.put, List.setIfInBounds_toArray, List.set_cons_succ, List.set_cons_zero]
    refine ⟨.inl ⟨rfl, fun dd w' hd hnx hw hC => ?_⟩, fun e => ?_⟩
    · go_simp
      first | exact ⟨rfl, hC⟩ | exact hC
    have e' : vs 1 = _ := e
    rw [e']
    clear e e'
    simp only [Act.put, List.setIfInBounds_toArray, List.set_cons_succ, List.set_cons_zero]
    refine ⟨.inl ⟨rfl, fun dd w' hd hnx hw hC => ?_⟩, fun e => ?_⟩
    · go_simp
      first | exact ⟨rfl, hC⟩ | exact hC
    have e' : vs 2 = _ := e
    rw [e']
    clear e e'
    simp only [Act.put, List.setIfInBounds_toArray, List.set_cons_succ, List.set_cons_zero]
    refine ⟨.inl ⟨rfl, fun dd w' hd hnx hw hC => ?_⟩, fun e => ?_⟩
    · go_simp
      first | exact ⟨rfl, hC⟩ | exact hC
    have e' : vs 3 = _ := e
    rw [e']
    clear e e'
    simp only [Act.put, List.setIfInBounds_toArray, List.set_cons_succ, List.set_cons_zero]
    refine ⟨.inl ⟨rfl, fun dd w' hd hnx hw hC => ?_⟩, fun e => ?_⟩
    · have h1 : w'.cell? ⟨g, 4, none⟩ = some (.slice Al nl cl) := hC.t.cell (p := ⟨g, 4, none⟩) Q5.out G3.out
      go_simp
      first | exact ⟨rfl, hC⟩ | exact hC
    have e' : vs 4 = _ := e
    rw [e']
    clear e e'
    simp only [Act.put, List.setIfInBounds_toArray, List.set_cons_succ, List.set_cons_zero]
    refine ⟨.inl ⟨rfl, fun dd w' hd hnx hw hC => ?_⟩, fun e => ?_⟩
    · exact ClP.gE_ldR (cs := (enL ⟨1, mi, i, sv, ev⟩).toArray) (tEn ⟨1, mi, i, sv, ev⟩) rfl (E.out.turn hC.t V3.out).whole ⟨rfl, hC⟩
    have e' : vs 5 = _ := e
    rw [e']
    clear e e'
    simp only [Act.put, List.setIfInBounds_toArray, List.set_cons_succ, List.set_cons_zero]
    refine ⟨.inl ⟨rfl, fun dd w' hd hnx hw hC => ?_⟩, fun e => ?_⟩
    · have h8 : dd 7 = false := hnx 7 (by kernel_rfl)
      have ha := (Below.refl w'.heap.size w').alloc (Nat.le_refl _) (.cells (enL ⟨1, mi, i, sv, ev⟩).toArray 59)
      have hbl := hC.b h8
      exact gE_lit1 (x := (⟨1, mi, i, sv, ev⟩ : Ent)) eltEnR undEnR (by omega) rfl rfl ⟨⟨_, _, rfl⟩, hC.t.trans (Turn.of_new (S := fun _ => False) ha) (fun _ e => e.elim), (fun _ => hbl.trans (ha.mono hbl.size)), (fun _ _ => ⟨_, _, rfl, sli_lit1 eltEnR (⟨1, mi, i, sv, ev⟩ : Ent) w' hbl.size⟩), fun e => by
        have e' : dd 7 = true := e
        rw [h8] at e'; cases e'⟩
    obtain ⟨A7, c7, e'⟩ : ∃ (A : Option Addr) (c : Nat), vs 6 = .slice A 1 c := e
    rw [e']
    have E7 := hid e'
    clear e'
    simp only [Act.put, List.setIfInBounds_toArray, List.set_cons_succ, List.set_cons_zero]
    refine ⟨.inl ⟨rfl, fun dd w' hd hnx hw hC => ?_⟩, fun e => ?_⟩
    · have h7 : dd 6 = true := hw 6 (by kernel_rfl)
      have hbl := hC.b hd
      obtain ⟨A', c', f, sl⟩ := hC.lit h7 hd
      rw [E7.out] at f
      cases f
      have hlen := hid (show (b2).log.length = nl from HNL.out.symm)
      refine gE_appW eltEnR undEnR (B := 0) (v := .slice Al nl cl) (l := (b2).log) (m := [(⟨1, mi, i, sv, ev⟩ : Ent)]) rfl rfl (O3.out.below hbl (Nat.le_refl _)) sl (by have := hlen.out; have := hnl2.out; omega) (by omega) (Nat.zero_le _) fun v' w4 o4 g4 wh => ?_
      obtain ⟨A4, c4, rfl, _⟩ := o4.sli enL_len
      refine ⟨⟨A4, c4, by rw [List.length_append, hlen.out]; rfl⟩, ?_⟩
      exact ⟨(Turn.of_new (S := fun b => (Value.slice Al nl cl).ownBlock = some b) hbl).trans (Turn.of_grown (S := fun b => (Value.slice Al nl cl).ownBlock = some b) g4 fun b e => e) (fun b e => .inl e), (fun e => by cases e), (fun _ e => by cases e), fun _ => ⟨o4, fun b e => by
        have e3 : (Value.slice A4 ((b2).log ++ [(⟨1, mi, i, sv, ev⟩ : Ent)]).length c4).ownBlock = some b := e
        rcases wh with x | x
        · exact .inl (x.symm.trans e3)
        · rw [x] at e3; cases e3; exact .inr hbl.size⟩⟩
    obtain ⟨A8, c8, e'⟩ : ∃ (A : Option Addr) (c : Nat), vs 7 = .slice A (nl + 1) c := e
    rw [e']
    have E8 := hid e'
    clear e'
    simp only [Act.put, List.setIfInBounds_toArray, List.set_cons_succ, List.set_cons_zero]
    refine ⟨.inl ⟨rfl, fun dd w' hd hnx hw hC => ?_⟩, fun e => ?_⟩
    · go_simp
      first | exact ⟨rfl, hC⟩ | exact hC
    have e' : vs 8 = _ := e
    rw [e']
    clear e e'
    simp only [Act.put, List.setIfInBounds_toArray, List.set_cons_succ, List.set_cons_zero]
    refine ⟨.inl ⟨rfl, fun dd w' hd hnx hw hC => ?_⟩, fun e => ?_⟩
    · go_simp
      first | exact ⟨rfl, hC⟩ | exact hC
    have e' : vs 9 = _ := e
    rw [e']
    clear e e'
    simp only [Act.put, List.setIfInBounds_toArray, List.set_cons_succ, List.set_cons_zero]
    intro dd w4 hall hC
    obtain ⟨o4, wh⟩ := hC.own (hall 7 (by omega))
    rw [E8.out] at o4 wh
    have bb := C3.out.turn hC.t G3.out
    have tu5 := Turn.setCell (S := fun b => b = g) w4 ⟨g, 4, none⟩ (.slice A8 (nl + 1) c8) rfl
    have hne4 : ∀ b, (Value.slice A8 (nl + 1) c8).ownBlock = some b → b ≠ g := fun b e e2 => by
      rcases wh b e with x | x
      · exact G3.out (by rw [x, e2])
      · have := C3.out.lt; omega
    have T5 := hid (show Turn (fun q => q = g ∨ (F2).vl.ownBlock = some q) w9 (w4.setCell ⟨g, 4, none⟩ (.slice A8 (nl + 1) c8)) from
      (hC.t.mono (T := fun q => q = g ∨ (F2).vl.ownBlock = some q) fun q e => .inr (by rw [HV.out]; exact e)).trans tu5 fun q e => .inl (.inl e))
    obtain ⟨i5, u5⟩ := I.out.logged (x := ⟨1, mi, i, sv, ev⟩) T5.out (bu_setLg bb _) (o4.turn tu5 hne4) (fun q e => (wh q e).imp (fun x => by rw [HV.out]; exact x) id)
    have E5 := hid ((E.out.turn hC.t V3.out).turn tu5 gEne.out)
    have I5 := hid i5
    have U := hid u5
    have p4 : w4.cell? ⟨g, 4, none⟩ = some (.slice Al nl cl) := by rw [← HV.out]; exact bu_lg bb
    have fz := bb.frozen 4
    clear I E hC o4 wh hall E7 E8 tu5 hne4 C3 Q5 V3 G3 O3 hnl2 HVL HNL HV bb i5 u5 gEne T5
    go_upto_region 9 with fail
    clear p4 fz
    have I := I5
    have E := E5
    clear I5 E5
    generalize World.setCell w4 _ _ = wa at I E U ⊢
    replace R := hid (R.out.turn U.out VR.out)
    refine wp_region_c (S := yS [some (.pointer (some ⟨gE, 3, none⟩)), some (.agg (ar 64 sv)), some (.pointer (some ⟨gE, 67, none⟩)), some (.int .i64 ev), some undef, some (.int .i64 ev)] []) (C := fun d vs w' => ResC wa gR sv (d 4) w') 6 (by kernel_rfl) (by kernel_rfl) (by kernel_rfl) _
      (yS_ok _ fun y hy => by cases hy) ⟨Turn.drew _, R.out.drew⟩ fun vs => ?_
    simp only [List.take_succ_cons, List.take_zero, List.drop_succ_cons, List.drop_zero]
    refine ⟨.inl ⟨rfl, fun dd w' hd hnx hw hC => ?_⟩, fun e => ?_⟩
    · go_simp
      first | exact ⟨rfl, hC⟩ | exact hC
    have e' : vs 0 = _ := e
    rw [e']
    clear e e'
    simp only [Act.put, List.setIfInBounds_toArray, List.set_cons_succ, List.set_cons_zero]
    refine ⟨.inl ⟨rfl, fun dd w' hd hnx hw hC => ?_⟩, fun e => ?_⟩
    · exact gE_ldA tSe rfl (en_qs (E.out.turn hC.t fun e => hRE.out e.symm)) ⟨rfl, hC⟩
    have e' : vs 1 = _ := e
    rw [e']
    clear e e'
    simp only [Act.put, List.setIfInBounds_toArray, List.set_cons_succ, List.set_cons_zero]
    refine ⟨.inl ⟨rfl, fun dd w' hd hnx hw hC => ?_⟩, fun e => ?_⟩
    · go_simp
      first | exact ⟨rfl, hC⟩ | exact hC
    have e' : vs 2 = _ := e
    rw [e']
    clear e e'
    simp only [Act.put, List.setIfInBounds_toArray, List.set_cons_succ, List.set_cons_zero]
    refine ⟨.inl ⟨rfl, fun dd w' hd hnx hw hC => ?_⟩, fun e => ?_⟩
    · have h1 : w'.cell? ⟨gE, 67, none⟩ = some (.int .i64 ev) := en_qe (E.out.turn hC.t fun e => hRE.out e.symm)
      go_simp
      first | exact ⟨rfl, hC⟩ | exact hC
    have e' : vs 3 = _ := e
    rw [e']
    clear e e'
    simp only [Act.put, List.setIfInBounds_toArray, List.set_cons_succ, List.set_cons_zero]
    refine ⟨.inl ⟨rfl, fun dd w' hd hnx hw hC => ?_⟩, fun e => ?_⟩
    · with_reducible refine gE_stA (n := 64) (f0 := if dd 4 then sv else fun _ => 0) (f := sv) (g := gR) (t := 43) ?_ ?_ ?_ ?_ ?_
      · exact tSe
      · rfl
      · rfl
      · exact hC.b
      · exact ⟨rfl, hC.put⟩
    have e' : vs 4 = _ := e
    rw [e']
    clear e e'
    simp only [Act.put, List.setIfInBounds_toArray, List.set_cons_succ, List.set_cons_zero]
    refine ⟨.inl ⟨rfl, fun dd w' hd hnx hw hC => ?_⟩, fun e => ?_⟩
    · go_simp
      first | exact ⟨rfl, hC⟩ | exact hC
    have e' : vs 5 = _ := e
    rw [e']
    clear e e'
    simp only [Act.put, List.setIfInBounds_toArray, List.set_cons_succ, List.set_cons_zero]
    intro dd wz hall hC
    have h4 : dd 4 = true := hall 4 (by omega)
    have Z := hid (show Blk wz gR 43 (ar 64 sv) by have := hC.b; rw [h4] at this; exact this)
    replace I := hid (I.out.set (.inr (.inl rfl)) hC.t)
    clear hC h4 hall R E U VR hRE
    go_wp2_with fail
    refine retA (t := 43) (f := sv) (h := gR) (v := .int .i64 ev) tSe Tryz.results32 rfl rfl rfl Z.out ?_
    have h1 := HB.out
    have h2 := HX.out
    have h3 := HK.out
    unfold BuM.rdT
    rw [← h1, h2, ← h3]
    exact ⟨rfl, (I.out.mono (by omega)).out⟩
  · have t0 : decide (e0 = 0) = false := by simp; omega
    have HX := hid (show rdB b2 m i = ⟨1, m, i, fun _ => 0, e0⟩ by unfold rdB; rw [if_neg (by rw [← HE.out]; exact h0), ← HE.out]; rfl)
    go_upto_region 8 with fail
    clear t0 h0 q67
    have VR := hid (show ¬ mutR g F2 gR from (I.out.vr gR (.inr (.inl rfl))).2.2.1)
    obtain ⟨Al, cl, hvl, _⟩ := I.out.rb.log.sli enL_len
    have HVL := hid hvl
    obtain ⟨nl, hnl⟩ : ∃ n, n = (b2).log.length := ⟨_, rfl⟩
    have HNL := hid hnl
    have HV := hid (show (F2).vl = .slice Al nl cl by rw [hnl]; exact hvl)
    have hnl2 := hid (show nl ≤ 9000 by rw [hnl]; have := I.out.rb.sz.2.2.2; omega)
    have C3 := hid I.out.rb.blk
    have Q5 := hid (show w5.cell? ⟨g, 4, none⟩ = some (.slice Al nl cl) by rw [← HV.out]; exact bu_lg I.out.rb.blk)
    have gEne := hid (show gE ≠ g from fun e => (I.out.vr gE (.inl rfl)).2.2.1 (.inl e))
    have V3 := hid (show (Value.slice Al nl cl).ownBlock ≠ some gE by rw [← HV.out]; exact fun e => (I.out.vr gE (.inl rfl)).2.2.1 (.inr (.inr (.inr (.inr e)))))
    have G3 := hid (show (Value.slice Al nl cl).ownBlock ≠ some g by rw [← HV.out]; exact I.out.rb.g_vl)
    have O3 := hid (show OwnX 59 68 enL w5 0 (.slice Al nl cl) (b2).log by rw [← HV.out]; exact I.out.rb.log)
    clear hvl hnl
    refine wp_region_c (S := yS [some (.pointer (some ⟨g, 0, none⟩)), some (.pointer (some ⟨g, 0, none⟩)), some (.pointer (some ⟨g, 0, none⟩)), some (.pointer (some ⟨g, 4, none⟩)), some (.slice Al nl cl), some (.agg (enL ⟨1, m, i, fun _ => 0, e0⟩).toArray), none, none, some (.pointer (some ⟨g, 0, none⟩)), some (.pointer (some ⟨g, 4, none⟩))]
        [(6, kSl 1), (7, kSl (nl + 1))]) (C := fun d vs w' => ApC 59 68 enL w5 (.slice Al nl cl) (b2).log (⟨1, m, i, fun _ => 0, e0⟩) (d 6) (d 7) (vs 6) (vs 7) w') 10 (by kernel_rfl) (by kernel_rfl) (by kernel_rfl) _
      (yS_ok _ fun y hy => by simp only [List.mem_cons, List.not_mem_nil, or_false] at hy; rcases hy with rfl | rfl <;> exact kSl_ok _) ⟨Turn.drew _, fun _ => (Below.refl _ _).drew, (fun e => by cases e), (fun e => by cases e)⟩ fun vs => ?_
    simp only [List.take_succ_cons, List.take_zero, List.drop_succ_cons, List.drop_zero]
    refine ⟨.inl ⟨rfl, fun dd w' hd hnx hw hC => ?_⟩, fun e => ?_⟩
    · go_simp
      first | exact ⟨rfl, hC⟩ | exact hC
    have e' : vs 0 = _ := e
    rw [e']
    clear e e'
    simp only [Act.put, List.setIfInBounds_toArray, List.set_cons_succ, List.set_cons_zero]
    refine ⟨.inl ⟨rfl, fun dd w' hd hnx hw hC => ?_⟩, fun e => ?_⟩
    · go_simp
      first | exact ⟨rfl, hC⟩ | exact hC
    have e' : vs 1 = _ := e
    rw [e']
    clear e e'
    simp only [Act.put, List.setIfInBounds_toArray, List.set_cons_succ, List.set_cons_zero]
    refine ⟨.inl ⟨rfl, fun dd w' hd hnx hw hC => ?_⟩, fun e => ?_⟩
    · go_simp
      first | exact ⟨rfl, hC⟩ | exact hC
    have e' : vs 2 = _ := e
    rw [e']
    clear e e'
    simp only [Act.put, List.setIfInBounds_toArray, List.set_cons_succ, List.set_cons_zero]
    refine ⟨.inl ⟨rfl, fun dd w' hd hnx hw hC => ?_⟩, fun e => ?_⟩
    · go_simp
      first | exact ⟨rfl, hC⟩ | exact hC
    have e' : vs 3 = _ := e
    rw [e']
    clear e e'
    simp only [Act.put, List.setIfInBounds_toArray, List.set_cons_succ, List.set_cons_zero]
    refine ⟨.inl ⟨rfl, fun dd w' hd hnx hw hC => ?_⟩, fun e => ?_⟩
    · have h1 : w'.cell? ⟨g, 4, none⟩ = some (.slice Al nl cl) := hC.t.cell (p := ⟨g, 4, none⟩) Q5.out G3.out
      go_simp
      first | exact ⟨rfl, hC⟩ | exact hC
    have e' : vs 4 = _ := e
    rw [e']
    clear e e'
    simp only [Act.put, List.setIfInBounds_toArray, List.set_cons_succ, List.set_cons_zero]
    refine ⟨.inl ⟨rfl, fun dd w' hd hnx hw hC => ?_⟩, fun e => ?_⟩
    · exact ClP.gE_ldR (cs := (enL ⟨1, m, i, fun _ => 0, e0⟩).toArray) (tEn ⟨1, m, i, fun _ => 0, e0⟩) rfl (E.out.turn hC.t V3.out).whole ⟨rfl, hC⟩
    have e' : vs 5 = _ := e
    rw [e']
    clear e e'
    simp only [Act.put, List.setIfInBounds_toArray, List.set_cons_succ, List.set_cons_zero]
    refine ⟨.inl ⟨rfl, fun dd w' hd hnx hw hC => ?_⟩, fun e => ?_⟩
    · have h8 : dd 7 = false := hnx 7 (by kernel_rfl)
      have ha := (Below.refl w'.heap.size w').alloc (Nat.le_refl _) (.cells (enL ⟨1, m, i, fun _ => 0, e0⟩).toArray 59)
      have hbl := hC.b h8
      exact gE_lit1 (x := (⟨1, m, i, fun _ => 0, e0⟩ : Ent)) eltEnR undEnR (by omega) rfl rfl ⟨⟨_, _, rfl⟩, hC.t.trans (Turn.of_new (S := fun _ => False) ha) (fun _ e => e.elim), (fun _ => hbl.trans (ha.mono hbl.size)), (fun _ _ => ⟨_, _, rfl, sli_lit1 eltEnR (⟨1, m, i, fun _ => 0, e0⟩ : Ent) w' hbl.size⟩), fun e => by
        have e' : dd 7 = true := e
        rw [h8] at e'; cases e'⟩
    obtain ⟨A7, c7, e'⟩ : ∃ (A : Option Addr) (c : Nat), vs 6 = .slice A 1 c := e
    rw [e']
    have E7 := hid e'
    clear e'
    simp only [Act.put, List.setIfInBounds_toArray, List.set_cons_succ, List.set_cons_zero]
    refine ⟨.inl ⟨rfl, fun dd w' hd hnx hw hC => ?_⟩, fun e => ?_⟩
    · have h7 : dd 6 = true := hw 6 (by kernel_rfl)
      have hbl := hC.b hd
      obtain ⟨A', c', f, sl⟩ := hC.lit h7 hd
      rw [E7.out] at f
      cases f
      have hlen := hid (show (b2).log.length = nl from HNL.out.symm)
      refine gE_appW eltEnR undEnR (B := 0) (v := .slice Al nl cl) (l := (b2).log) (m := [(⟨1, m, i, fun _ => 0, e0⟩ : Ent)]) rfl rfl (O3.out.below hbl (Nat.le_refl _)) sl (by have := hlen.out; have := hnl2.out; omega) (by omega) (Nat.zero_le _) fun v' w4 o4 g4 wh => ?_
      obtain ⟨A4, c4, rfl, _⟩ := o4.sli enL_len
      refine ⟨⟨A4, c4, by rw [List.length_append, hlen.out]; rfl⟩, ?_⟩
      exact ⟨(Turn.of_new (S := fun b => (Value.slice Al nl cl).ownBlock = some b) hbl).trans (Turn.of_grown (S := fun b => (Value.slice Al nl cl).ownBlock = some b) g4 fun b e => e) (fun b e => .inl e), (fun e => by cases e), (fun _ e => by cases e), fun _ => ⟨o4, fun b e => by
        have e3 : (Value.slice A4 ((b2).log ++ [(⟨1, m, i, fun _ => 0, e0⟩ : Ent)]).length c4).ownBlock = some b := e
        rcases wh with x | x
        · exact .inl (x.symm.trans e3)
        · rw [x] at e3; cases e3; exact .inr hbl.size⟩⟩
    obtain ⟨A8, c8, e'⟩ : ∃ (A : Option Addr) (c : Nat), vs 7 = .slice A (nl + 1) c := e
    rw [e']
    have E8 := hid e'
    clear e'
    simp only [Act.put, List.setIfInBounds_toArray, List.set_cons_succ, List.set_cons_zero]
    refine ⟨.inl ⟨rfl, fun dd w' hd hnx hw hC => ?_⟩, fun e => ?_⟩
    · go_simp
      first | exact ⟨rfl, hC⟩ | exact hC
    have e' : vs 8 = _ := e
    rw [e']
    clear e e'
    simp only [Act.put, List.setIfInBounds_toArray, List.set_cons_succ, List.set_cons_zero]
    refine ⟨.inl ⟨rfl, fun dd w' hd hnx hw hC => ?_⟩, fun e => ?_⟩
    · go_simp
      first | exact ⟨rfl, hC⟩ | exact hC
    have e' : vs 9 = _ := e
    rw [e']
    clear e e'
    simp only [Act.put, List.setIfInBounds_toArray, List.set_cons_succ, List.set_cons_zero]
    intro dd w4 hall hC
    obtain ⟨o4, wh⟩ := hC.own (hall 7 (by omega))
    rw [E8.out] at o4 wh
    have bb := C3.out.turn hC.t G3.out
    have tu5 := Turn.setCell (S := fun b => b = g) w4 ⟨g, 4, none⟩ (.slice A8 (nl + 1) c8) rfl
    have hne4 : ∀ b, (Value.slice A8 (nl + 1) c8).ownBlock = some b → b ≠ g := fun b e e2 => by
      rcases wh b e with x | x
      · exact G3.out (by rw [x, e2])
      · have := C3.out.lt; omega
    have T5 := hid (show Turn (fun q => q = g ∨ (F2).vl.ownBlock = some q) w5 (w4.setCell ⟨g, 4, none⟩ (.slice A8 (nl + 1) c8)) from
      (hC.t.mono (T := fun q => q = g ∨ (F2).vl.ownBlock = some q) fun q e => .inr (by rw [HV.out]; exact e)).trans tu5 fun q e => .inl (.inl e))
    obtain ⟨i5, u5⟩ := I.out.logged (x := ⟨1, m, i, fun _ => 0, e0⟩) T5.out (bu_setLg bb _) (o4.turn tu5 hne4) (fun q e => (wh q e).imp (fun x => by rw [HV.out]; exact x) id)
    have E5 := hid ((E.out.turn hC.t V3.out).turn tu5 gEne.out)
    have I5 := hid i5
    have U := hid u5
    have p4 : w4.cell? ⟨g, 4, none⟩ = some (.slice Al nl cl) := by rw [← HV.out]; exact bu_lg bb
    have fz := bb.frozen 4
    clear I E hC o4 wh hall E7 E8 tu5 hne4 C3 Q5 V3 G3 O3 hnl2 HVL HNL HV bb i5 u5 gEne T5
    go_upto_region 9 with fail
    clear p4 fz
    have I := I5
    have E := E5
    clear I5 E5
    generalize World.setCell w4 _ _ = wa at I E U ⊢
    replace R := hid (R.out.turn U.out VR.out)
    refine wp_region_c (S := yS [some (.pointer (some ⟨gE, 3, none⟩)), some (.agg (ar 64 (fun _ => 0))), some (.pointer (some ⟨gE, 67, none⟩)), some (.int .i64 e0), some undef, some (.int .i64 e0)] []) (C := fun d vs w' => ResC wa gR (fun _ => 0) (d 4) w') 6 (by kernel_rfl) (by kernel_rfl) (by kernel_rfl) _
      (yS_ok _ fun y hy => by cases hy) ⟨Turn.drew _, R.out.drew⟩ fun vs => ?_
    simp only [List.take_succ_cons, List.take_zero, List.drop_succ_cons, List.drop_zero]
    refine ⟨.inl ⟨rfl, fun dd w' hd hnx hw hC => ?_⟩, fun e => ?_⟩
    · go_simp
      first | exact ⟨rfl, hC⟩ | exact hC
    have e' : vs 0 = _ := e
    rw [e']
    clear e e'
    simp only [Act.put, List.setIfInBounds_toArray, List.set_cons_succ, List.set_cons_zero]
    refine ⟨.inl ⟨rfl, fun dd w' hd hnx hw hC => ?_⟩, fun e => ?_⟩
    · exact gE_ldA tSe rfl (en_qs (E.out.turn hC.t fun e => hRE.out e.symm)) ⟨rfl, hC⟩
    have e' : vs 1 = _ := e
    rw [e']
    clear e e'
    simp only [Act.put, List.setIfInBounds_toArray, List.set_cons_succ, List.set_cons_zero]
    refine ⟨.inl ⟨rfl, fun dd w' hd hnx hw hC => ?_⟩, fun e => ?_⟩
    · go_simp
      first | exact ⟨rfl, hC⟩ | exact hC
    have e' : vs 2 = _ := e
    rw [e']
    clear e e'
    simp only [Act.put, List.setIfInBounds_toArray, List.set_cons_succ, List.set_cons_zero]
    refine ⟨.inl ⟨rfl, fun dd w' hd hnx hw hC => ?_⟩, fun e => ?_⟩
    · have h1 : w'.cell? ⟨gE, 67, none⟩ = some (.int .i64 e0) := en_qe (E.out.turn hC.t fun e => hRE.out e.symm)
      go_simp
      first | exact ⟨rfl, hC⟩ | exact hC
    have e' : vs 3 = _ := e
    rw [e']
    clear e e'
    simp only [Act.put, List.setIfInBounds_toArray, List.set_cons_succ, List.set_cons_zero]
    refine ⟨.inl ⟨rfl, fun dd w' hd hnx hw hC => ?_⟩, fun e => ?_⟩
    · with_reducible refine gE_stA (n := 64) (f0 := if dd 4 then (fun _ => 0) else fun _ => 0) (f := (fun _ => 0)) (g := gR) (t := 43) ?_ ?_ ?_ ?_ ?_
      · exact tSe
      · rfl
      · rfl
      · exact hC.b
      · exact ⟨rfl, hC.put⟩
    have e' : vs 4 = _ := e
    rw [e']
    clear e e'
    simp only [Act.put, List.setIfInBounds_toArray, List.set_cons_succ, List.set_cons_zero]
    refine ⟨.inl ⟨rfl, fun dd w' hd hnx hw hC => ?_⟩, fun e => ?_⟩
    · go_simp
      first | exact ⟨rfl, hC⟩ | exact hC
    have e' : vs 5 = _ := e
    rw [e']
    clear e e'
    simp only [Act.put, List.setIfInBounds_toArray, List.set_cons_succ, List.set_cons_zero]
    intro dd wz hall hC
    have h4 : dd 4 = true := hall 4 (by omega)
    have Z := hid (show Blk wz gR 43 (ar 64 (fun _ => 0)) by have := hC.b; rw [h4] at this; exact this)
    replace I := hid (I.out.set (.inr (.inl rfl)) hC.t)
    clear hC h4 hall R E U VR hRE
    go_wp2_with fail
    refine retA (t := 43) (f := (fun _ => 0)) (h := gR) (v := .int .i64 e0) tSe Tryz.results32 rfl rfl rfl Z.out ?_
    have h1 := HB.out
    have h2 := HX.out
    have h3 := HK.out
    unfold BuM.rdT
    rw [← h1, h2, ← h3]
    exact ⟨rfl, (I.out.mono (by omega)).out⟩
end BuP
end Go.Proofs.YthogklchmhjjkaaGreat
set_option maxRecDepth 100000
namespace Go.Proofs.YthogklchmhjjkaaGreat
open Go.ChangeShapes Go.WideShapes Go.ChangeAt Go.RowKit
attribute [local go_sem] Gives GivesE
namespace BuP
open BuM MbM MbP
theorem ret_rowt2 {a : Act} {w : World} {g : Nat} {t T : TypeId} {cs : Array Value} {fn : Func} {R : Ending → World → Prop} {p q : Tmp} {v : Value} (hT : RowT T cs.size) (hr : fn.results = #[.cell p T, .tmp q]) (hp : a.tmps.getD p undef = .pointer (some ⟨g, 0, none⟩))
    (hq : a.tmps.getD q undef = v) (hdf : a.defers = []) (hb : Blk w g t cs) (hR : R (.returned (.tuple #[.agg cs, v])) w) : bodyPost Tryz.prog fn R .ret a w := by
  obtain ⟨d, h1, h2⟩ := hT.desc
  refine bodyPost_ret ?_ hdf hR
  have hv : (loadVar T ⟨g, 0, none⟩).run Tryz.prog w = .ok (.agg cs) w := run_loadVar_row w g _ _ cs (0, 0) _ hb h1 (by cases d <;> first | rfl | exact h2) hT.size
  have hp' : a.tmps[p]?.getD undef = .pointer (some ⟨g, 0, none⟩) := by simpa using hp
  have hq' : a.tmps[q]?.getD undef = v := by simpa using hq
  simp [results, hr, hp', hq', asAddr, hv]
/-- What holds while a cell is told. -/
structure ResQ (w0 : World) (gR : Nat) (h : ClP.Held) (d : Bool) (w' : World) : Prop where
  t : Turn (fun q => q = gR) w0 w'
  b : Blk w' gR 27 (ClP.ceL (if d then h else (0, ClP.zero))).toArray
theorem ResQ.put {w0 w' : World} {gR : Nat} {h : ClP.Held} {d : Bool} (H : ResQ w0 gR h d w') : ResQ w0 gR h true (w'.setRow gR (ClP.ceL h).toArray) :=
  ⟨H.t.trans (Turn.setRow (S := fun q => q = gR) _ _ _ rfl) fun q e => .inl e, by rw [if_pos rfl]; exact H.b.setRow_same _⟩
/-- What holds in the midst of the cell's Advance. -/
structure TcC (w0 : World) (gc : Nat) (vc : Value) (L : List ClP.Held) (h : ClP.Held) (d : Bool) (w' : World) : Prop where
  t : Turn (ClP.rSet gc vc) w0 w'
  b : d = false → Below w0.heap.size w0 w'
  o : d = true → ∃ v', ClP.Rc w' gc v' L h ∧ ∀ q, v'.ownBlock = some q → vc.ownBlock = some q ∨ w0.heap.size ≤ q
set_option maxHeartbeats 2000000 in
set_option maxRecDepth 100000 in
theorem bcell_any {w : World} {g k : Nat} {F : Fp} {b : Bs} (H : Rb w g F k b) (hk : k + b.steps.length + 2 ≤ 8000) : Calls Tryz.prog 28 #[MbP.at' g] w fun e w' =>
    e = .returned (.tuple #[.agg (ClP.ceL (BuM.ceV (BuM.ahead b))).toArray, .int .i64 (BuM.ceB (BuM.ahead b)).e]) ∧ outB w g F (k + b.steps.length + 2) (BuM.ceT b) w' := by
  have I0 := hid (IoS.start H)
  clear H
  unfold MbP.at'
  go_enter Tryz.func28, Tryz.ntmps28
  go_upto_region 1 with (with_reducible apply alZ' ClP.zCe)
  generalize hw1 : World.alloc w _ = w1
  have i1 := I0.out.var (w' := w1) (by rw [← hw1]; exact (Below.refl _ _).alloc (Nat.le_refl _) _) (by rw [← hw1]; simp)
  have r1 : Blk w1 w.heap.size 27 ((ClP.ceL (0, ClP.zero)).toArray) := by rw [← hw1]; exact Blk.new _ _ _
  obtain ⟨gR, hgR⟩ : ∃ n, n = w.heap.size := ⟨_, rfl⟩
  rw [← hgR] at i1 r1 ⊢
  have I := hid i1
  have R := hid r1
  clear hw1 I0 hgR i1 r1
  go_wp2_with fail
  refine (rahead_any I.out.rb (by omega)).mono ?_
  rintro e w2 ⟨rfl, Ls', r2, l2, t2⟩
  obtain ⟨i2, u2⟩ := I.out.ahead r2 l2 t2
  replace R := hid (I.out.keep (.inl rfl) R.out u2)
  clear I r2 l2 t2 u2
  obtain ⟨F2, hF2⟩ : ∃ x, x = ({ F with Ls := Ls' } : Fp) := ⟨_, rfl⟩
  obtain ⟨b2, hb2⟩ : ∃ x, x = BuM.ahead b := ⟨_, rfl⟩
  obtain ⟨k2, hk2⟩ : ∃ x, x = k + b.steps.length := ⟨_, rfl⟩
  have HB := hid hb2
  have HK := hid hk2
  rw [← hF2, ← hb2, ← hk2] at i2
  rw [← hk2] at hk
  have I := hid i2
  clear i2 hF2 hb2 hk2
  go_upto_region 3 with (first | ((with_reducible apply bldOne (i := 0) (v := .int .i64 4) (cs := (enL ⟨4, 0, 0, fun _ => 0, 0⟩).toArray)); exact run_en4) | (with_reducible apply alZ' zEn) | ((with_reducible apply stR (tEn ⟨4, 0, 0, fun _ => 0, 0⟩)); rfl; rfl; exact Blk.new _ _ _; exact en_size _ _; exact en_one' _))
  generalize hw3 : World.setRow _ _ _ = w3
  have b3 : Below w2.heap.size w2 w3 := by rw [← hw3]; exact below_setRow ((Below.refl _ _).alloc (Nat.le_refl _) _) (Nat.le_refl _) _
  have i3 := I.out.var b3 (by rw [← hw3]; simp)
  have e3 : Blk w3 w2.heap.size 59 (enL ⟨4, 0, 0, fun _ => 0, 0⟩).toArray := by rw [← hw3]; exact (Blk.new w2 _ _).setRow_same _
  replace R := hid (R.out.below b3 R.out.lt)
  obtain ⟨gE, hgE⟩ : ∃ n, n = w2.heap.size := ⟨_, rfl⟩
  rw [← hgE] at i3 e3 ⊢
  clear I
  have I := hid i3
  have E := hid e3
  clear hw3 b3 i3 e3 hgE
  have hRE := hid (R.out.neT E.out (by decide))
  go_upto_region 4 with (with_reducible apply alZ' ClP.zCe)
  generalize hw4 : World.alloc w3 _ = w4
  have b4 : Below w3.heap.size w3 w4 := by rw [← hw4]; exact (Below.refl _ _).alloc (Nat.le_refl _) _
  have i4 := I.out.var b4 (by rw [← hw4]; simp)
  have c4 : Blk w4 w3.heap.size 27 (ClP.ceL (0, ClP.zero)).toArray := by rw [← hw4]; exact Blk.new _ _ _
  replace R := hid (R.out.below b4 R.out.lt)
  replace E := hid (E.out.below b4 E.out.lt)
  obtain ⟨gC, hgC⟩ : ∃ n, n = w3.heap.size := ⟨_, rfl⟩
  have hCR := hid (show gC ≠ gR from by have := (I.out.vr gR (.inr (.inl rfl))).2.1; omega)
  have hCE := hid (show gC ≠ gE from by have := (I.out.vr gE (.inl rfl)).2.1; omega)
  rw [← hgC] at i4 c4 ⊢
  clear I
  have I := hid i4
  have Cb := hid c4
  clear hw4 b4 i4 c4 hgC
  have q3 : w4.cell? ⟨g, 3, none⟩ = some (.bool b2.off) := bu_off I.out.rb.blk
  cases hoff : b2.off with
  | true =>
    rw [hoff] at q3
    have HX := hid (show BuM.ceB b2 = ⟨4, 0, 0, fun _ => 0, 13⟩ by unfold BuM.ceB; rw [hoff, if_pos rfl]; rfl)
    have HV2 := hid (show BuM.ceV b2 = (0, ClP.zero) by unfold BuM.ceV; rw [hoff, if_pos rfl])
    have q67 : w4.cell? ⟨gE, 67, none⟩ = some (.int .i64 0) := en_qe E.out
    have fz := E.out.frozen 67
    clear hoff
    go_upto_region 8 with fail
    have tu := Turn.setCell (S := fun q => q = gE) w4 ⟨gE, 67, none⟩ (.int .i64 13) rfl
    replace E := hid (en_setE E.out 13)
    replace R := hid (R.out.turn tu hRE.out)
    replace Cb := hid (Cb.out.turn tu hCE.out)
    replace I := hid (I.out.set (.inr (.inl rfl)) tu)
    clear tu q67 fz q3
    generalize World.setCell w4 _ _ = w9 at I E R Cb ⊢
    have VR := hid (show ¬ mutR g F2 gR from (I.out.vr gR (.inr (.inr (.inl rfl)))).2.2.1)
    have VC := hid (show ¬ mutR g F2 gC from (I.out.vr gC (.inl rfl)).2.2.1)
    obtain ⟨Al, cl, hvl, _⟩ := I.out.rb.log.sli enL_len
    have HVL := hid hvl
    obtain ⟨nl, hnl⟩ : ∃ n, n = (b2).log.length := ⟨_, rfl⟩
    have HNL := hid hnl
    have HV := hid (show (F2).vl = .slice Al nl cl by rw [hnl]; exact hvl)
    have hnl2 := hid (show nl ≤ 9000 by rw [hnl]; have := I.out.rb.sz.2.2.2; omega)
    have C3 := hid I.out.rb.blk
    have Q5 := hid (show w9.cell? ⟨g, 4, none⟩ = some (.slice Al nl cl) by rw [← HV.out]; exact bu_lg I.out.rb.blk)
    have gEne := hid (show gE ≠ g from fun e => (I.out.vr gE (.inr (.inl rfl))).2.2.1 (.inl e))
    have V3 := hid (show (Value.slice Al nl cl).ownBlock ≠ some gE by rw [← HV.out]; exact fun e => (I.out.vr gE (.inr (.inl rfl))).2.2.1 (.inr (.inr (.inr (.inr e)))))
    have G3 := hid (show (Value.slice Al nl cl).ownBlock ≠ some g by rw [← HV.out]; exact I.out.rb.g_vl)
    have O3 := hid (show OwnX 59 68 enL w9 0 (.slice Al nl cl) (b2).log by rw [← HV.out]; exact I.out.rb.log)
    clear hvl hnl
    refine wp_region_c (S := yS [some (.pointer (some ⟨g, 0, none⟩)), some (.pointer (some ⟨g, 0, none⟩)), some (.pointer (some ⟨g, 0, none⟩)), some (.pointer (some ⟨g, 4, none⟩)), some (.slice Al nl cl), some (.agg (enL ⟨4, 0, 0, fun _ => 0, 13⟩).toArray), none, none, some (.pointer (some ⟨g, 0, none⟩)), some (.pointer (some ⟨g, 4, none⟩))]
        [(6, kSl 1), (7, kSl (nl + 1))]) (C := fun d vs w' => ApC 59 68 enL w9 (.slice Al nl cl) (b2).log (⟨4, 0, 0, fun _ => 0, 13⟩) (d 6) (d 7) (vs 6) (vs 7) w') 10 (by kernel_rfl) (by kernel_rfl) (by kernel_rfl) _
      (yS_ok _ fun y hy => by simp only [List.mem_cons, List.not_mem_nil, or_false] at hy; rcases hy with rfl | rfl <;> exact kSl_ok _) ⟨Turn.drew _, fun _ => (Below.refl _ _).drew, (fun e => by cases e), (fun e => by cases e)⟩ fun vs => ?_
    simp only [List.take_succ_cons, List.take_zero, List.drop_succ_cons, List.drop_zero]
    refine ⟨.inl ⟨rfl, fun dd w' hd hnx hw hC => ?_⟩, fun e => ?_⟩
    · go_simp
      first | exact ⟨rfl, hC⟩ | exact hC
    have e' : vs 0 = _ := e
    rw [e']
    clear e e'
    simp only [Act.put, List.setIfInBounds_toArray, List.set_cons_succ, List.set_cons_zero]
    refine ⟨.inl ⟨rfl, fun dd w' hd hnx hw hC => ?_⟩, fun e => ?_⟩
    · go_simp
      first | exact ⟨rfl, hC⟩ | exact hC
    have e' : vs 1 = _ := e
    rw [e']
    clear e e'
    simp only [Act.put, List.setIfInBounds_toArray, List.set_cons_succ, List.set_cons_zero]
    refine ⟨.inl ⟨rfl, fun dd w' hd hnx hw hC => ?_⟩, fun e => ?_⟩
    · go_simp
      first | exact ⟨rfl, hC⟩ | exact hC
    have e' : vs 2 = _ := e
    rw [e']
    clear e e'
    simp only [Act.put, List.setIfInBounds_toArray, List.set_cons_succ, List.set_cons_zero]
    refine ⟨.inl ⟨rfl, fun dd w' hd hnx hw hC => ?_⟩, fun e => ?_⟩
    · go_simp
      first | exact ⟨rfl, hC⟩ | exact hC
    have e' : vs 3 = _ := e
    rw [e']
    clear e e'
    simp only [Act.put, List.setIfInBounds_toArray, List.set_cons_succ, List.set_cons_zero]
    refine ⟨.inl ⟨rfl, fun dd w' hd hnx hw hC => ?_⟩, fun e => ?_⟩
    · have h1 : w'.cell? ⟨g, 4, none⟩ = some (.slice Al nl cl) := hC.t.cell (p := ⟨g, 4, none⟩) Q5.out G3.out
      go_simp
      first | exact ⟨rfl, hC⟩ | exact hC
    have e' : vs 4 = _ := e
    rw [e']
    clear e e'
    simp only [Act.put, List.setIfInBounds_toArray, List.set_cons_succ, List.set_cons_zero]
    refine ⟨.inl ⟨rfl, fun dd w' hd hnx hw hC => ?_⟩, fun e => ?_⟩
    · exact ClP.gE_ldR (cs := (enL ⟨4, 0, 0, fun _ => 0, 13⟩).toArray) (tEn ⟨4, 0, 0, fun _ => 0, 13⟩) rfl (E.out.turn hC.t V3.out).whole ⟨rfl, hC⟩
    have e' : vs 5 = _ := e
    rw [e']
    clear e e'
    simp only [Act.put, List.setIfInBounds_toArray, List.set_cons_succ, List.set_cons_zero]
    refine ⟨.inl ⟨rfl, fun dd w' hd hnx hw hC => ?_⟩, fun e => ?_⟩
    · have h8 : dd 7 = false := hnx 7 (by kernel_rfl)
      have ha := (Below.refl w'.heap.size w').alloc (Nat.le_refl _) (.cells (enL ⟨4, 0, 0, fun _ => 0, 13⟩).toArray 59)
      have hbl := hC.b h8
      exact gE_lit1 (x := (⟨4, 0, 0, fun _ => 0, 13⟩ : Ent)) eltEnR undEnR (by omega) rfl rfl ⟨⟨_, _, rfl⟩, hC.t.trans (Turn.of_new (S := fun _ => False) ha) (fun _ e => e.elim), (fun _ => hbl.trans (ha.mono hbl.size)), (fun _ _ => ⟨_, _, rfl, sli_lit1 eltEnR (⟨4, 0, 0, fun _ => 0, 13⟩ : Ent) w' hbl.size⟩), fun e => by
        have e' : dd 7 = true := e
        rw [h8] at e'; cases e'⟩
    obtain ⟨A7, c7, e'⟩ : ∃ (A : Option Addr) (c : Nat), vs 6 = .slice A 1 c := e
    rw [e']
    have E7 := hid e'
    clear e'
    simp only [Act.put, List.setIfInBounds_toArray, List.set_cons_succ, List.set_cons_zero]
    refine ⟨.inl ⟨rfl, fun dd w' hd hnx hw hC => ?_⟩, fun e => ?_⟩
    · have h7 : dd 6 = true := hw 6 (by kernel_rfl)
      have hbl := hC.b hd
      obtain ⟨A', c', f, sl⟩ := hC.lit h7 hd
      rw [E7.out] at f
      cases f
      have hlen := hid (show (b2).log.length = nl from HNL.out.symm)
      refine gE_appW eltEnR undEnR (B := 0) (v := .slice Al nl cl) (l := (b2).log) (m := [(⟨4, 0, 0, fun _ => 0, 13⟩ : Ent)]) rfl rfl (O3.out.below hbl (Nat.le_refl _)) sl (by have := hlen.out; have := hnl2.out; omega) (by omega) (Nat.zero_le _) fun v' w4 o4 g4 wh => ?_
      obtain ⟨A4, c4, rfl, _⟩ := o4.sli enL_len
      refine ⟨⟨A4, c4, by rw [List.length_append, hlen.out]; rfl⟩, ?_⟩
      exact ⟨(Turn.of_new (S := fun b => (Value.slice Al nl cl).ownBlock = some b) hbl).trans (Turn.of_grown (S := fun b => (Value.slice Al nl cl).ownBlock = some b) g4 fun b e => e) (fun b e => .inl e), (fun e => by cases e), (fun _ e => by cases e), fun _ => ⟨o4, fun b e => by
        have e3 : (Value.slice A4 ((b2).log ++ [(⟨4, 0, 0, fun _ => 0, 13⟩ : Ent)]).length c4).ownBlock = some b := e
        rcases wh with x | x
        · exact .inl (x.symm.trans e3)
        · rw [x] at e3; cases e3; exact .inr hbl.size⟩⟩
    obtain ⟨A8, c8, e'⟩ : ∃ (A : Option Addr) (c : Nat), vs 7 = .slice A (nl + 1) c := e
    rw [e']
    have E8 := hid e'
    clear e'
    simp only [Act.put, List.setIfInBounds_toArray, List.set_cons_succ, List.set_cons_zero]
    refine ⟨.inl ⟨rfl, fun dd w' hd hnx hw hC => ?_⟩, fun e => ?_⟩
    · go_simp
      first | exact ⟨rfl, hC⟩ | exact hC
    have e' : vs 8 = _ := e
    rw [e']
    clear e e'
    simp only [Act.put, List.setIfInBounds_toArray, List.set_cons_succ, List.set_cons_zero]
    refine ⟨.inl ⟨rfl, fun dd w' hd hnx hw hC => ?_⟩, fun e => ?_⟩
    · go_simp
      first | exact ⟨rfl, hC⟩ | exact hC
    have e' : vs 9 = _ := e
    rw [e']
    clear e e'
    simp only [Act.put, List.setIfInBounds_toArray, List.set_cons_succ, List.set_cons_zero]
    intro dd w4 hall hC
    obtain ⟨o4, wh⟩ := hC.own (hall 7 (by omega))
    rw [E8.out] at o4 wh
    have bb := C3.out.turn hC.t G3.out
    have tu5 := Turn.setCell (S := fun b => b = g) w4 ⟨g, 4, none⟩ (.slice A8 (nl + 1) c8) rfl
    have hne4 : ∀ b, (Value.slice A8 (nl + 1) c8).ownBlock = some b → b ≠ g := fun b e e2 => by
      rcases wh b e with x | x
      · exact G3.out (by rw [x, e2])
      · have := C3.out.lt; omega
    have T5 := hid (show Turn (fun q => q = g ∨ (F2).vl.ownBlock = some q) w9 (w4.setCell ⟨g, 4, none⟩ (.slice A8 (nl + 1) c8)) from
      (hC.t.mono (T := fun q => q = g ∨ (F2).vl.ownBlock = some q) fun q e => .inr (by rw [HV.out]; exact e)).trans tu5 fun q e => .inl (.inl e))
    obtain ⟨i5, u5⟩ := I.out.logged (x := ⟨4, 0, 0, fun _ => 0, 13⟩) T5.out (bu_setLg bb _) (o4.turn tu5 hne4) (fun q e => (wh q e).imp (fun x => by rw [HV.out]; exact x) id)
    have E5 := hid ((E.out.turn hC.t V3.out).turn tu5 gEne.out)
    have I5 := hid i5
    have U := hid u5
    have p4 : w4.cell? ⟨g, 4, none⟩ = some (.slice Al nl cl) := by rw [← HV.out]; exact bu_lg bb
    have fz := bb.frozen 4
    clear I E hC o4 wh hall E7 E8 tu5 hne4 C3 Q5 V3 G3 O3 hnl2 HVL HNL HV bb i5 u5 gEne T5
    go_upto_region 9 with fail
    clear p4 fz
    have I := I5
    have E := E5
    clear I5 E5
    generalize World.setCell w4 _ _ = wa at I E U ⊢
    replace R := hid (R.out.turn U.out VR.out)
    replace Cb := hid (Cb.out.turn U.out VC.out)
    refine wp_region_c (S := yS [some (.agg (ClP.ceL (0, ClP.zero)).toArray), some (.pointer (some ⟨gE, 67, none⟩)), some (.int .i64 13), some undef, some (.int .i64 13)] []) (C := fun d vs w' => ResQ wa gR (0, ClP.zero) (d 3) w') 5 (by kernel_rfl) (by kernel_rfl) (by kernel_rfl) _
      (yS_ok _ fun y hy => by cases hy) ⟨Turn.drew _, R.out.drew⟩ fun vs => ?_
    simp only [List.take_succ_cons, List.take_zero, List.drop_succ_cons, List.drop_zero]
    refine ⟨.inl ⟨rfl, fun dd w' hd hnx hw hC => ?_⟩, fun e => ?_⟩
    · exact ClP.gE_ldR (cs := (ClP.ceL (0, ClP.zero)).toArray) (ClP.tCe (0, ClP.zero)) rfl (Cb.out.turn hC.t hCR.out).whole ⟨rfl, hC⟩
    have e' : vs 0 = _ := e
    rw [e']
    clear e e'
    simp only [Act.put, List.setIfInBounds_toArray, List.set_cons_succ, List.set_cons_zero]
    refine ⟨.inl ⟨rfl, fun dd w' hd hnx hw hC => ?_⟩, fun e => ?_⟩
    · go_simp
      first | exact ⟨rfl, hC⟩ | exact hC
    have e' : vs 1 = _ := e
    rw [e']
    clear e e'
    simp only [Act.put, List.setIfInBounds_toArray, List.set_cons_succ, List.set_cons_zero]
    refine ⟨.inl ⟨rfl, fun dd w' hd hnx hw hC => ?_⟩, fun e => ?_⟩
    · have h1 : w'.cell? ⟨gE, 67, none⟩ = some (.int .i64 13) := en_qe (E.out.turn hC.t fun e => hRE.out e.symm)
      go_simp
      first | exact ⟨rfl, hC⟩ | exact hC
    have e' : vs 2 = _ := e
    rw [e']
    clear e e'
    simp only [Act.put, List.setIfInBounds_toArray, List.set_cons_succ, List.set_cons_zero]
    refine ⟨.inl ⟨rfl, fun dd w' hd hnx hw hC => ?_⟩, fun e => ?_⟩
    · with_reducible refine gE_stR (cs := (ClP.ceL (0, ClP.zero)).toArray) (old := (ClP.ceL (if dd 3 then (0, ClP.zero) else (0, ClP.zero))).toArray) (g := gR) (t := 27) ?_ ?_ ?_ ?_ ?_ ?_ ?_
      · exact ClP.tCe (0, ClP.zero)
      · rfl
      · rfl
      · exact hC.b
      · exact ClP.ce_size _ _
      · exact ClP.ce_one _
      · exact ⟨rfl, hC.put⟩
    have e' : vs 3 = _ := e
    rw [e']
    clear e e'
    simp only [Act.put, List.setIfInBounds_toArray, List.set_cons_succ, List.set_cons_zero]
    refine ⟨.inl ⟨rfl, fun dd w' hd hnx hw hC => ?_⟩, fun e => ?_⟩
    · go_simp
      first | exact ⟨rfl, hC⟩ | exact hC
    have e' : vs 4 = _ := e
    rw [e']
    clear e e'
    simp only [Act.put, List.setIfInBounds_toArray, List.set_cons_succ, List.set_cons_zero]
    intro dd wz hall hC
    have h4 : dd 3 = true := hall 3 (by omega)
    have Z := hid (show Blk wz gR 27 (ClP.ceL (0, ClP.zero)).toArray by have := hC.b; rw [h4] at this; exact this)
    replace I := hid (I.out.set (.inr (.inr (.inl rfl))) hC.t)
    clear hC h4 hall R E U VR VC Cb hRE hCR
    go_wp2_with fail
    refine ret_rowt2 (t := 27) (cs := (ClP.ceL (0, ClP.zero)).toArray) (g := gR) (v := .int .i64 13) (ClP.tCe (0, ClP.zero)) Tryz.results28 rfl rfl rfl Z.out ?_
    have h1 := HB.out
    have h2 := HX.out
    have h3 := HK.out
    have h4 := HV2.out
    unfold BuM.ceT
    rw [← h1, h2, h4]
    exact ⟨rfl, (I.out.mono (by omega)).out⟩
  | false =>
    rw [hoff] at q3
    obtain ⟨cc, hcc⟩ : ∃ z : ClP.Held, z = b2.c := ⟨_, rfl⟩
    obtain ⟨cn, lb⟩ := cc
    have HX := hid (show BuM.ceB b2 = ⟨4, 0, 0, BuM.pad lb, 0⟩ by unfold BuM.ceB; rw [hoff, if_neg Bool.false_ne_true, ← hcc])
    have HV2 := hid (show BuM.ceV b2 = (cn, lb) by unfold BuM.ceV; rw [hoff, if_neg Bool.false_ne_true, ← hcc])
    have q1 : w4.cell? ⟨g, 1, none⟩ = some (.pointer (some ⟨F2.gc, 0, none⟩)) := bu_c I.out.rb.blk
    have hrc := hid (show Blk w4 F2.gc 122 (ClP.rcV cn lb F2.vc) by have := I.out.rb.cel.blk; rw [← hcc] at this; exact this)
    clear hoff hcc
    go_wp2_with fail
    refine (ClP.rread_any F2.gc cn lb F2.vc w4 hrc.out).mono ?_
    rintro e w5 ⟨rfl, h5⟩
    replace R := hid (R.out.below h5 R.out.lt)
    replace E := hid (E.out.below h5 E.out.lt)
    replace Cb := hid (Cb.out.below h5 Cb.out.lt)
    replace I := hid (I.out.below h5)
    clear h5 q1 q3 hrc
    go_upto_region 7 with ((with_reducible apply stR (ClP.tCe (cn, lb))); rfl; rfl; exact Cb.out; exact ClP.ce_size _ _; exact ClP.ce_one _)
    have tu := Turn.setRow (S := fun q => q = gC) w5 gC (ClP.ceL (cn, lb)).toArray rfl
    replace Cb := hid (Cb.out.setRow_same (ClP.ceL (cn, lb)).toArray)
    replace R := hid (R.out.turn tu fun e => hCR.out e.symm)
    replace E := hid (E.out.turn tu fun e => hCE.out e.symm)
    replace I := hid (I.out.set (.inl rfl) tu)
    clear tu
    generalize World.setRow w5 _ _ = w6 at I E R Cb ⊢
    have cl1 := hid (ClP.ce_l Cb.out.whole)
    go_wp2_with ((with_reducible apply ldAm ClP.tTg); rfl; exact cl1.out)
    refine (sector_any lb w6).mono ?_
    rintro e w7 ⟨rfl, h7⟩
    replace R := hid (R.out.below h7 R.out.lt)
    replace E := hid (E.out.below h7 E.out.lt)
    replace Cb := hid (Cb.out.below h7 Cb.out.lt)
    replace I := hid (I.out.below h7)
    clear h7 cl1
    have th := hid (en_there (o := 3) (n := (ar 64 (BuM.pad lb)).size) E.out (by rw [size_ar]; omega))
    go_upto_region 8 with ((with_reducible apply stRM (cs := ar 64 (BuM.pad lb)) tSeR); rfl; rfl; exact th.out; exact ar_one)
    have tu := turn_setCells (g := gE) (ar 64 (BuM.pad lb)).toList 3 w7
    replace E := hid (en_setS E.out (BuM.pad lb))
    replace R := hid (R.out.turn tu hRE.out)
    replace Cb := hid (Cb.out.turn tu hCE.out)
    replace I := hid (I.out.set (.inr (.inl rfl)) tu)
    clear tu th
    generalize World.setCells w7 _ _ _ = w9 at I E R Cb ⊢
    have VR := hid (show ¬ mutR g F2 gR from (I.out.vr gR (.inr (.inr (.inl rfl)))).2.2.1)
    have VC := hid (show ¬ mutR g F2 gC from (I.out.vr gC (.inl rfl)).2.2.1)
    obtain ⟨Al, cl, hvl, _⟩ := I.out.rb.log.sli enL_len
    have HVL := hid hvl
    obtain ⟨nl, hnl⟩ : ∃ n, n = (b2).log.length := ⟨_, rfl⟩
    have HNL := hid hnl
    have HV := hid (show (F2).vl = .slice Al nl cl by rw [hnl]; exact hvl)
    have hnl2 := hid (show nl ≤ 9000 by rw [hnl]; have := I.out.rb.sz.2.2.2; omega)
    have C3 := hid I.out.rb.blk
    have Q5 := hid (show w9.cell? ⟨g, 4, none⟩ = some (.slice Al nl cl) by rw [← HV.out]; exact bu_lg I.out.rb.blk)
    have gEne := hid (show gE ≠ g from fun e => (I.out.vr gE (.inr (.inl rfl))).2.2.1 (.inl e))
    have V3 := hid (show (Value.slice Al nl cl).ownBlock ≠ some gE by rw [← HV.out]; exact fun e => (I.out.vr gE (.inr (.inl rfl))).2.2.1 (.inr (.inr (.inr (.inr e)))))
    have G3 := hid (show (Value.slice Al nl cl).ownBlock ≠ some g by rw [← HV.out]; exact I.out.rb.g_vl)
    have O3 := hid (show OwnX 59 68 enL w9 0 (.slice Al nl cl) (b2).log by rw [← HV.out]; exact I.out.rb.log)
    clear hvl hnl
    refine wp_region_c (S := yS [some (.pointer (some ⟨g, 0, none⟩)), some (.pointer (some ⟨g, 0, none⟩)), some (.pointer (some ⟨g, 0, none⟩)), some (.pointer (some ⟨g, 4, none⟩)), some (.slice Al nl cl), some (.agg (enL ⟨4, 0, 0, BuM.pad lb, 0⟩).toArray), none, none, some (.pointer (some ⟨g, 0, none⟩)), some (.pointer (some ⟨g, 4, none⟩))]
        [(6, kSl 1), (7, kSl (nl + 1))]) (C := fun d vs w' => ApC 59 68 enL w9 (.slice Al nl cl) (b2).log (⟨4, 0, 0, BuM.pad lb, 0⟩) (d 6) (d 7) (vs 6) (vs 7) w') 10 (by kernel_rfl) (by kernel_rfl) (by kernel_rfl) _
      (yS_ok _ fun y hy => by simp only [List.mem_cons, List.not_mem_nil, or_false] at hy; rcases hy with rfl | rfl <;> exact kSl_ok _) ⟨Turn.drew _, fun _ => (Below.refl _ _).drew, (fun e => by cases e), (fun e => by cases e)⟩ fun vs => ?_
    simp only [List.take_succ_cons, List.take_zero, List.drop_succ_cons, List.drop_zero]
    refine ⟨.inl ⟨rfl, fun dd w' hd hnx hw hC => ?_⟩, fun e => ?_⟩
    · go_simp
      first | exact ⟨rfl, hC⟩ | exact hC
    have e' : vs 0 = _ := e
    rw [e']
    clear e e'
    simp only [Act.put, List.setIfInBounds_toArray, List.set_cons_succ, List.set_cons_zero]
    refine ⟨.inl ⟨rfl, fun dd w' hd hnx hw hC => ?_⟩, fun e => ?_⟩
    · go_simp
      first | exact ⟨rfl, hC⟩ | exact hC
    have e' : vs 1 = _ := e
    rw [e']
    clear e e'
    simp only [Act.put, List.setIfInBounds_toArray, List.set_cons_succ, List.set_cons_zero]
    refine ⟨.inl ⟨rfl, fun dd w' hd hnx hw hC => ?_⟩, fun e => ?_⟩
    · go_simp
      first | exact ⟨rfl, hC⟩ | exact hC
    have e' : vs 2 = _ := e
    rw [e']
    clear e e'
    simp only [Act.put, List.setIfInBounds_toArray, List.set_cons_succ, List.set_cons_zero]
    refine ⟨.inl ⟨rfl, fun dd w' hd hnx hw hC => ?_⟩, fun e => ?_⟩
    · go_simp
      first | exact ⟨rfl, hC⟩ | exact hC
    have e' : vs 3 = _ := e
    rw [e']
    clear e e'
    simp only [Act.put, List.setIfInBounds_toArray, List.set_cons_succ, List.set_cons_zero]
    refine ⟨.inl ⟨rfl, fun dd w' hd hnx hw hC => ?_⟩, fun e => ?_⟩
    · have h1 : w'.cell? ⟨g, 4, none⟩ = some (.slice Al nl cl) := hC.t.cell (p := ⟨g, 4, none⟩) Q5.out G3.out
      go_simp
      first | exact ⟨rfl, hC⟩ | exact hC
    have e' : vs 4 = _ := e
    rw [e']
    clear e e'
    simp only [Act.put, List.setIfInBounds_toArray, List.set_cons_succ, List.set_cons_zero]
    refine ⟨.inl ⟨rfl, fun dd w' hd hnx hw hC => ?_⟩, fun e => ?_⟩
    · exact ClP.gE_ldR (cs := (enL ⟨4, 0, 0, BuM.pad lb, 0⟩).toArray) (tEn ⟨4, 0, 0, BuM.pad lb, 0⟩) rfl (E.out.turn hC.t V3.out).whole ⟨rfl, hC⟩
    have e' : vs 5 = _ := e
    rw [e']
    clear e e'
    simp only [Act.put, List.setIfInBounds_toArray, List.set_cons_succ, List.set_cons_zero]
    refine ⟨.inl ⟨rfl, fun dd w' hd hnx hw hC => ?_⟩, fun e => ?_⟩
    · have h8 : dd 7 = false := hnx 7 (by kernel_rfl)
      have ha := (Below.refl w'.heap.size w').alloc (Nat.le_refl _) (.cells (enL ⟨4, 0, 0, BuM.pad lb, 0⟩).toArray 59)
      have hbl := hC.b h8
      exact gE_lit1 (x := (⟨4, 0, 0, BuM.pad lb, 0⟩ : Ent)) eltEnR undEnR (by omega) rfl rfl ⟨⟨_, _, rfl⟩, hC.t.trans (Turn.of_new (S := fun _ => False) ha) (fun _ e => e.elim), (fun _ => hbl.trans (ha.mono hbl.size)), (fun _ _ => ⟨_, _, rfl, sli_lit1 eltEnR (⟨4, 0, 0, BuM.pad lb, 0⟩ : Ent) w' hbl.size⟩), fun e => by
        have e' : dd 7 = true := e
        rw [h8] at e'; cases e'⟩
    obtain ⟨A7, c7, e'⟩ : ∃ (A : Option Addr) (c : Nat), vs 6 = .slice A 1 c := e
    rw [e']
    have E7 := hid e'
    clear e'
    simp only [Act.put, List.setIfInBounds_toArray, List.set_cons_succ, List.set_cons_zero]
    refine ⟨.inl ⟨rfl, fun dd w' hd hnx hw hC => ?_⟩, fun e => ?_⟩
    · have h7 : dd 6 = true := hw 6 (by kernel_rfl)
      have hbl := hC.b hd
      obtain ⟨A', c', f, sl⟩ := hC.lit h7 hd
      rw [E7.out] at f
      cases f
      have hlen := hid (show (b2).log.length = nl from HNL.out.symm)
      refine gE_appW eltEnR undEnR (B := 0) (v := .slice Al nl cl) (l := (b2).log) (m := [(⟨4, 0, 0, BuM.pad lb, 0⟩ : Ent)]) rfl rfl (O3.out.below hbl (Nat.le_refl _)) sl (by have := hlen.out; have := hnl2.out; omega) (by omega) (Nat.zero_le _) fun v' w4 o4 g4 wh => ?_
      obtain ⟨A4, c4, rfl, _⟩ := o4.sli enL_len
      refine ⟨⟨A4, c4, by rw [List.length_append, hlen.out]; rfl⟩, ?_⟩
      exact ⟨(Turn.of_new (S := fun b => (Value.slice Al nl cl).ownBlock = some b) hbl).trans (Turn.of_grown (S := fun b => (Value.slice Al nl cl).ownBlock = some b) g4 fun b e => e) (fun b e => .inl e), (fun e => by cases e), (fun _ e => by cases e), fun _ => ⟨o4, fun b e => by
        have e3 : (Value.slice A4 ((b2).log ++ [(⟨4, 0, 0, BuM.pad lb, 0⟩ : Ent)]).length c4).ownBlock = some b := e
        rcases wh with x | x
        · exact .inl (x.symm.trans e3)
        · rw [x] at e3; cases e3; exact .inr hbl.size⟩⟩
    obtain ⟨A8, c8, e'⟩ : ∃ (A : Option Addr) (c : Nat), vs 7 = .slice A (nl + 1) c := e
    rw [e']
    have E8 := hid e'
    clear e'
    simp only [Act.put, List.setIfInBounds_toArray, List.set_cons_succ, List.set_cons_zero]
    refine ⟨.inl ⟨rfl, fun dd w' hd hnx hw hC => ?_⟩, fun e => ?_⟩
    · go_simp
      first | exact ⟨rfl, hC⟩ | exact hC
    have e' : vs 8 = _ := e
    rw [e']
    clear e e'
    simp only [Act.put, List.setIfInBounds_toArray, List.set_cons_succ, List.set_cons_zero]
    refine ⟨.inl ⟨rfl, fun dd w' hd hnx hw hC => ?_⟩, fun e => ?_⟩
    · go_simp
      first | exact ⟨rfl, hC⟩ | exact hC
    have e' : vs 9 = _ := e
    rw [e']
    clear e e'
    simp only [Act.put, List.setIfInBounds_toArray, List.set_cons_succ, List.set_cons_zero]
    intro dd w4 hall hC
    obtain ⟨o4, wh⟩ := hC.own (hall 7 (by omega))
    rw [E8.out] at o4 wh
    have bb := C3.out.turn hC.t G3.out
    have tu5 := Turn.setCell (S := fun b => b = g) w4 ⟨g, 4, none⟩ (.slice A8 (nl + 1) c8) rfl
    have hne4 : ∀ b, (Value.slice A8 (nl + 1) c8).ownBlock = some b → b ≠ g := fun b e e2 => by
      rcases wh b e with x | x
      · exact G3.out (by rw [x, e2])
      · have := C3.out.lt; omega
    have T5 := hid (show Turn (fun q => q = g ∨ (F2).vl.ownBlock = some q) w9 (w4.setCell ⟨g, 4, none⟩ (.slice A8 (nl + 1) c8)) from
      (hC.t.mono (T := fun q => q = g ∨ (F2).vl.ownBlock = some q) fun q e => .inr (by rw [HV.out]; exact e)).trans tu5 fun q e => .inl (.inl e))
    obtain ⟨i5, u5⟩ := I.out.logged (x := ⟨4, 0, 0, BuM.pad lb, 0⟩) T5.out (bu_setLg bb _) (o4.turn tu5 hne4) (fun q e => (wh q e).imp (fun x => by rw [HV.out]; exact x) id)
    have E5 := hid ((E.out.turn hC.t V3.out).turn tu5 gEne.out)
    have I5 := hid i5
    have U := hid u5
    have p4 : w4.cell? ⟨g, 4, none⟩ = some (.slice Al nl cl) := by rw [← HV.out]; exact bu_lg bb
    have fz := bb.frozen 4
    clear I E hC o4 wh hall E7 E8 tu5 hne4 C3 Q5 V3 G3 O3 hnl2 HVL HNL HV bb i5 u5 gEne T5
    go_upto_region 9 with fail
    clear p4 fz
    have I := I5
    have E := E5
    clear I5 E5
    generalize World.setCell w4 _ _ = wa at I E U ⊢
    replace R := hid (R.out.turn U.out VR.out)
    replace Cb := hid (Cb.out.turn U.out VC.out)
    refine wp_region_c (S := yS [some (.agg (ClP.ceL (cn, lb)).toArray), some (.pointer (some ⟨gE, 67, none⟩)), some (.int .i64 0), some undef, some (.int .i64 0)] []) (C := fun d vs w' => ResQ wa gR (cn, lb) (d 3) w') 5 (by kernel_rfl) (by kernel_rfl) (by kernel_rfl) _
      (yS_ok _ fun y hy => by cases hy) ⟨Turn.drew _, R.out.drew⟩ fun vs => ?_
    simp only [List.take_succ_cons, List.take_zero, List.drop_succ_cons, List.drop_zero]
    refine ⟨.inl ⟨rfl, fun dd w' hd hnx hw hC => ?_⟩, fun e => ?_⟩
    · exact ClP.gE_ldR (cs := (ClP.ceL (cn, lb)).toArray) (ClP.tCe (cn, lb)) rfl (Cb.out.turn hC.t hCR.out).whole ⟨rfl, hC⟩
    have e' : vs 0 = _ := e
    rw [e']
    clear e e'
    simp only [Act.put, List.setIfInBounds_toArray, List.set_cons_succ, List.set_cons_zero]
    refine ⟨.inl ⟨rfl, fun dd w' hd hnx hw hC => ?_⟩, fun e => ?_⟩
    · go_simp
      first | exact ⟨rfl, hC⟩ | exact hC
    have e' : vs 1 = _ := e
    rw [e']
    clear e e'
    simp only [Act.put, List.setIfInBounds_toArray, List.set_cons_succ, List.set_cons_zero]
    refine ⟨.inl ⟨rfl, fun dd w' hd hnx hw hC => ?_⟩, fun e => ?_⟩
    · have h1 : w'.cell? ⟨gE, 67, none⟩ = some (.int .i64 0) := en_qe (E.out.turn hC.t fun e => hRE.out e.symm)
      go_simp
      first | exact ⟨rfl, hC⟩ | exact hC
    have e' : vs 2 = _ := e
    rw [e']
    clear e e'
    simp only [Act.put, List.setIfInBounds_toArray, List.set_cons_succ, List.set_cons_zero]
    refine ⟨.inl ⟨rfl, fun dd w' hd hnx hw hC => ?_⟩, fun e => ?_⟩
    · with_reducible refine gE_stR (cs := (ClP.ceL (cn, lb)).toArray) (old := (ClP.ceL (if dd 3 then (cn, lb) else (0, ClP.zero))).toArray) (g := gR) (t := 27) ?_ ?_ ?_ ?_ ?_ ?_ ?_
      · exact ClP.tCe (cn, lb)
      · rfl
      · rfl
      · exact hC.b
      · exact ClP.ce_size _ _
      · exact ClP.ce_one _
      · exact ⟨rfl, hC.put⟩
    have e' : vs 3 = _ := e
    rw [e']
    clear e e'
    simp only [Act.put, List.setIfInBounds_toArray, List.set_cons_succ, List.set_cons_zero]
    refine ⟨.inl ⟨rfl, fun dd w' hd hnx hw hC => ?_⟩, fun e => ?_⟩
    · go_simp
      first | exact ⟨rfl, hC⟩ | exact hC
    have e' : vs 4 = _ := e
    rw [e']
    clear e e'
    simp only [Act.put, List.setIfInBounds_toArray, List.set_cons_succ, List.set_cons_zero]
    intro dd wz hall hC
    have h4 : dd 3 = true := hall 3 (by omega)
    have Z := hid (show Blk wz gR 27 (ClP.ceL (cn, lb)).toArray by have := hC.b; rw [h4] at this; exact this)
    replace I := hid (I.out.set (.inr (.inr (.inl rfl))) hC.t)
    clear hC h4 hall R E U VR VC Cb hRE hCR
    go_wp2_with fail
    refine ret_rowt2 (t := 27) (cs := (ClP.ceL (cn, lb)).toArray) (g := gR) (v := .int .i64 0) (ClP.tCe (cn, lb)) Tryz.results28 rfl rfl rfl Z.out ?_
    have h1 := HB.out
    have h2 := HX.out
    have h3 := HK.out
    have h4 := HV2.out
    unfold BuM.ceT
    rw [← h1, h2, h4]
    exact ⟨rfl, (I.out.mono (by omega)).out⟩
end BuP
end Go.Proofs.YthogklchmhjjkaaGreat
