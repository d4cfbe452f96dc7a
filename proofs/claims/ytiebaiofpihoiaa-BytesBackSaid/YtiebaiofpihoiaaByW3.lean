/-
  The walk of BytesBack.
-/
import Derived.Test.YtiebaiofpihoiaaByLads
import Derived.Test.YtiebaiofpihoiaaByCut2
namespace Go.Proofs.Ytiebaiofpihoiaa
open Go.ChangeShapes Go.WideShapes Go.ChangeAt Go.RowKit
attribute [local go_sem] Gives
def ldA (u : Int) (n : Nat) (s : ByteArray) : Array Value := #[.int .i64 u, .int .u64 n, .string s]
section
variable {ops : Array Oper} {Q : Exit → Act → World → Prop} {a : Act} {w : World} {rest : List Oper} {dst : Option Tmp} {ty : TypeId} {pos : String} {after : Array Edge} {x y : Operand} {g n n' : Nat} {u u' : Int} {s s' : ByteArray}
theorem stLd (hx : a.eval x = .pointer (some ⟨g, 0, none⟩)) (hy : a.eval y = .agg (ldA u' n' s')) (hb : Blk w g 25 (ldA u n s)) (h : wpList Try.prog ops Q rest (a.put dst undef) (w.setRow g (ldA u' n' s'))) :
    wpList Try.prog ops Q (⟨dst, .store 25 x y, ty, pos, after, none⟩ :: rest) a w :=
  step_store_row hb (by kernel_rfl : (Try.prog.info? 25).map (·.size) = some (ldA u' n' s').size) (by rfl) (by simp [ldA, Value.oneCell']) hx hy h
end
theorem okN_le {w : Int} {n : Nat} (h : BytM.okN w n = true) : w.toNat ≤ 8 ∧ n < 256 ^ w.toNat ∧ BytM.isW w = true ∧ w = (w.toNat : Int) := by
  obtain ⟨h1, h2⟩ : BytM.isW w = true ∧ n < 256 ^ w.toNat := by simpa [BytM.okN] using h
  obtain ⟨k, rfl, _, h8, _⟩ := BytM.isW_nat h1
  exact ⟨by omega, h2, h1, by omega⟩
/-- What is kept of what was laid. -/
def Ld.good (x : Ld) : Prop := BytM.okN x.w x.n = true ∧ x.s.size ≤ 300 ∧ x.w.toNat ≤ 8
theorem OwnL.at {w : World} {B n cap : Nat} {A : Option Addr} {xs : List Ld} (h : OwnL w B (.slice A n cap) xs) {i : Nat} {x : Ld} (hi : xs[i]? = some x) :
    ∃ b, A = some ⟨b, 0, none⟩ ∧ b < w.heap.size ∧ w.cell? ⟨b, i * 3, none⟩ = some (.int .i64 x.w) ∧ w.cell? ⟨b, i * 3 + 1, none⟩ = some (.int .u64 x.n) ∧ w.cell? ⟨b, i * 3 + 2, none⟩ = some (.string x.s) := by
  obtain ⟨A', cap', e, hn, hf⟩ := h.form
  simp only [Value.slice.injEq] at e
  obtain ⟨rfl, rfl, rfl⟩ := e
  have hil := (List.getElem?_eq_some_iff.1 hi).1
  rcases h.2 with ⟨e', h0⟩ | ⟨g, cap2, cur, e', _⟩
  · omega
  · simp only [Value.slice.injEq] at e'
    obtain ⟨rfl, _, _⟩ := e'
    obtain ⟨_, h2, h3, _⟩ := hf g 0 rfl
    have h4 := h3 i x hi
    simp only [Nat.zero_add] at h4
    exact ⟨g, rfl, h2, h4 0 _ rfl, h4 1 _ rfl, h4 2 _ rfl⟩
theorem layAll_drop {ks : List Ld} {j : Nat} (h : j < ks.length) : layAll (ks.drop j) = BytM.dig ks[j].w.toNat ks[j].n ++ (BytM.txt (nats ks[j].s) ++ layAll (ks.drop (j + 1))) := by
  rw [List.drop_eq_getElem_cons h, layAll, List.append_assoc]
set_option maxHeartbeats 800000 in
set_option maxRecDepth 100000 in
theorem back_law (A : Option Addr) (xs : List (List Value)) (n cap : Nat) (hl : xs.length = n) (hn : n ≤ cap) (hc : cap ≤ maxLen) (hx : ∀ cs ∈ xs, ∃ y : Ld, y.ok ∧ cs = y.v) (w : World) (hA : Elems 3 w w.heap.size A xs) :
    Calls Try.prog 6 #[.slice A n cap] w fun e w' => e = .returned (.bool true) ∧ Below w.heap.size w w' := by
  unfold maxLen at hc
  have HL := hid hl
  have HX := hid hx
  have HA := hid hA
  have hn6 : n ≤ 9223372036854775807 := by omega
  clear hl hx hA hn hc
  go_enter Try.func6, Try.ntmps6
  go_wp2_with fail
  go_loopw [3, 4, 5] (fun bu ku i wr => ∃ (k : Nat) (bv kv : Value) (ks : List Ld), k ≤ n ∧ k ≤ 40 ∧ i = .int .i64 k ∧ bu = bv ∧ ku = kv ∧ ks.length ≤ k ∧ Hid (∀ x ∈ ks, x.good) ∧ Hid (Own 5 .u8 wr w.heap.size bv (layAll ks)) ∧ Hid (OwnL wr w.heap.size kv ks) ∧ Hid (Below w.heap.size w wr)) (fun _ _ i _ => n - (intOf i).toNat)
  case atStart => exact ⟨0, _, _, [], by omega, by omega, rfl, rfl, rfl, Nat.le_refl _, hid (fun x hx => by cases hx), hid Own.nil, hid (OwnL.nil _ _), hid (Below.refl _ _)⟩
  case round =>
    obtain ⟨k, bv, kv, ks, hk, hk2, rfl, rfl, rfl, hks, hgd, ho, hL, hb⟩ := hrel
    by_cases hgo : k < n ∧ k < 40
    · obtain ⟨hlt, h40⟩ := hgo
      have ti : (k : Int) < n := by omega
      have ti2 : (k : Int) < 40 := by omega
      obtain ⟨b, o, rfl, hbl, hr⟩ := HA.out (by rw [HL.out]; omega)
      have hkx : k < xs.length := by rw [HL.out]; exact hlt
      obtain ⟨y, hy, hcs⟩ := HX.out xs[k] (List.getElem_mem hkx)
      have hxk : xs[k]? = some y.v := by rw [List.getElem?_eq_getElem hkx, hcs]
      have q0 := (hb.out.cell (p := ⟨b, o + k * 3 + 0, none⟩) hbl).trans (hr k _ hxk 0 (.int .i64 y.w) rfl)
      have q1 := (hb.out.cell (p := ⟨b, o + k * 3 + 1, none⟩) hbl).trans (hr k _ hxk 1 (.int .u64 y.n) rfl)
      have q2 := (hb.out.cell (p := ⟨b, o + k * 3 + 2, none⟩) hbl).trans (hr k _ hxk 2 (.string y.s) rfl)
      rw [Nat.add_zero] at q0
      obtain ⟨⟨hw1, hw2⟩, hn2, hs2⟩ := hy
      unfold maxLen at hs2
      have hsz : (layAll ks).length ≤ 310 * ks.length := layAll_le ks fun x hx => ⟨(hgd.out x hx).2.2, (hgd.out x hx).2.1⟩
      obtain ⟨Ab, cb, eb, ab⟩ := ho.out.arg (layAll_256 ks)
      subst eb
      have AB := hid ab
      have hL1 : (layAll ks).length ≤ 12400 := by omega
      clear hr hcs hxk hkx ab hsz
      obtain ⟨u, m, s⟩ := y
      dsimp only at *
      go_upto_region 7 with ((with_reducible apply stLd); rfl; rfl; exact Blk.top rfl rfl)
      generalize hw1 : World.setRow _ _ _ = w1
      have b1 : Blk w1 wr.heap.size 25 (ldA u m s) := by rw [← hw1]; exact (Blk.top (cs := ldA 0 0 ⟨#[]⟩) rfl rfl).setRow_same _
      have B1 := hid (show Below wr.heap.size wr w1 by rw [← hw1]; exact below_setRow ((Below.refl _ _).alloc (Nat.le_refl _) _) (Nat.le_refl _) _)
      clear hw1 q0 q1 q2
      have p2 : w1.cell? ⟨wr.heap.size, 2, none⟩ = some (.string s) := b1.cell 2
      have fz := b1.frozen 2
      obtain ⟨z, hz⟩ : ∃ z, z = min s.size 300 := ⟨_, rfl⟩
      have e1 : (if (300 : Int) < (s.size : Int) then (300 : Int) else (s.size : Int)) = (z : Int) := by split <;> omega
      have hz2 : (z : Int) ≤ (s.size : Int) := by omega
      have hz3 : z ≤ 300 := by omega
      have BL1 := hid b1
      clear hz b1
      go_upto_region 8 with fail
      have hs3 : (s.extract 0 z).size ≤ 300 := by rw [ByteArray.size_extract]; omega
      generalize s.extract 0 z = t at *
      generalize hw2' : World.setCell w1 _ _ = w2
      have b2 : Blk w2 wr.heap.size 25 (ldA u m t) := by rw [← hw2']; exact BL1.out.setCell_same 2 _
      have B2 := hid (show Below wr.heap.size wr w2 by rw [← hw2']; exact B1.out.setCell (p := ⟨wr.heap.size, 2, none⟩) (Nat.le_refl _) _)
      clear hw2' p2 fz e1 hz2 hz3 hs2 B1 BL1
      have BL2 := hid b2
      have p0 : w2.cell? ⟨wr.heap.size, 0, none⟩ = some (.int .i64 u) := b2.cell 0
      have p1 : w2.cell? ⟨wr.heap.size, 1, none⟩ = some (.int .u64 m) := b2.cell 1
      have W2 := hid (hb.out.trans (B2.out.mono hb.out.size))
      have hz0 := hb.out.size
      clear b2
      cases hok : BytM.okN u m with
      | false =>
        have PB := hid fun v w => pnum_bad v u m hok w
        clear hok
        go_wp2_with fail
        refine (PB.out _ w2).mono ?_
        rintro e w' ⟨rfl, rfl⟩
        go_wp2_with fail
        go_roundw
        case rel => exact ⟨k + 1, _, u4, ks, by omega, by omega, by go_num, rfl, rfl, by omega, hgd, hid (ho.out.below B2.out), hid (hL.out.gr (grown_below B2.out none) fun k e => by cases e), W2⟩
        case measure => simp [intOf] <;> omega
      | true =>
        have PN := hid (pnum_any Ab (layAll ks) _ cb (by omega) u m hok w2 (AB.out.on B2.out))
        have HOK := hid hok
        clear hok
        go_wp2_with fail
        refine PN.out.mono ?_
        rintro e w3 ⟨v3, rfl, o3, b3⟩
        have h6 := (layAll_256 ks).append (BytM.dig_256 u.toNat m)
        have hML : (layAll ks ++ BytM.dig u.toNat m).length ≤ 12408 := by
          have := (okN_le HOK.out).1
          rw [List.length_append, BytM.dig_length]; omega
        have ME : Hid (layAll ks ++ (BytM.dig u.toNat m ++ BytM.txt (nats t)) = (layAll ks ++ BytM.dig u.toNat m) ++ BytM.txt (nats t)) := hid (List.append_assoc _ _ _).symm
        generalize layAll ks ++ BytM.dig u.toNat m = M at *
        obtain ⟨A3, c3, e3, a3⟩ := o3.arg h6
        subst e3
        have A3' := hid a3
        have BL3 := hid (BL2.out.below b3 BL2.out.lt)
        have W3 := hid (W2.out.trans (b3.mono W2.out.size))
        have hz3 := b3.size
        have PT := hid (ptext_any A3 M M.length c3 (by omega) t (by omega) w3 a3)
        have L3 := hid ((hL.out.gr (grown_below B2.out none) fun k e => by cases e).gr (grown_below b3 none) fun k e => by cases e)
        have hz2 := B2.out.size
        have p2 : w3.cell? ⟨wr.heap.size, 2, none⟩ = some (.string t) := BL3.out.cell 2
        clear PN o3 b3 a3 h6 p0 p1
        go_wp2_with fail
        refine PT.out.mono ?_
        rintro e w4 ⟨v4, rfl, o4, b4⟩
        rw [← ME.out] at o4
        have BL4 := BL3.out.below b4 BL3.out.lt
        have p0 : w4.cell? ⟨wr.heap.size, 0, none⟩ = some (.int .i64 u) := BL4.cell 0
        have p1 : w4.cell? ⟨wr.heap.size, 1, none⟩ = some (.int .u64 m) := BL4.cell 1
        have p2 : w4.cell? ⟨wr.heap.size, 2, none⟩ = some (.string t) := BL4.cell 2
        have O4 := hid o4
        have W4 := hid (W3.out.trans (b4.mono W3.out.size))
        have L4 := hid (L3.out.gr (grown_below b4 none) fun k e => by cases e)
        have hz4 := b4.size
        have HLT := hid fun k e => (hL.out.rowGe k e).2
        have hz40 := W4.out.size
        clear o4 b4 BL4 PT
        go_wp2_with (at_builtin; (with_reducible apply wappL (y := ⟨u, m, t⟩)); rfl; rfl; exact L4.out.alloc _; exact Blk.top rfl rfl; omega; (simp; omega); intro v5 w5 o5 g5)
        have hap : Apart v4 u4 := fun g hg e => by
          have h1 := (World.ownsRow.lt O4.out g hg).1
          have h2 := HLT.out g e
          omega
        have o6 := ((O4.out.alloc (.cells #[.int .i64 u, .int .u64 m, .string t] 25)).keep g5 hap).lower (B' := w.heap.size) (by omega)
        have g6 := grown_trans (grown_below ((Below.refl w4.heap.size w4).alloc (Nat.le_refl _) (.cells #[.int .i64 u, .int .u64 m, .string t] 25)) u4.ownBlock) g5
        have b6 := W4.out.grown g6 W4.out.size fun k e => (hL.out.rowGe k e).1
        go_roundw
        case rel =>
          refine ⟨k + 1, v4, v5, ks ++ [⟨u, m, t⟩], by omega, by omega, by go_num, rfl, rfl, by rw [List.length_append, List.length_singleton]; omega, hid (fun x hx => ?_), hid ?_, hid o5, hid b6⟩
          · rcases List.mem_append.1 hx with hx | hx
            · exact hgd.out x hx
            · rw [List.mem_singleton.1 hx]
              exact ⟨HOK.out, hs3, (okN_le HOK.out).1⟩
          · rw [layAll_append]
            show Own 5 .u8 w5 w.heap.size v4 (layAll ks ++ (BytM.dig u.toNat m ++ BytM.txt (nats t) ++ []))
            rw [List.append_nil]
            exact o6
        case measure => simp [intOf] <;> omega
    · obtain ⟨wo, hwo⟩ : ∃ x : World, x = wr := ⟨_, rfl⟩
      subst hwo
      have hfull : (layAll ks).length ≤ 12400 := by
        have := layAll_le ks fun x hx => ⟨(hgd.out x hx).2.2, (hgd.out x hx).2.1⟩
        omega
      obtain ⟨Ab, cb, eb, ab⟩ := ho.out.arg (layAll_256 ks)
      subst eb
      have AB := hid ab
      have HB := hid hb.out
      have tg : ((k : Int) < n) = False ∨ ((k : Int) < 40) = False := by
        by_cases h : k < n
        · right; simp; omega
        · left; simp; omega
      have OP := hid (open_any Ab (layAll ks) _ cb (by omega) wo ab)
      obtain ⟨AL, cL, eL, hnone, hform⟩ := hL.out.form
      have LROW := hid (show ∀ k, u4.ownBlock = some k → k < wo.heap.size from fun k e => (hL.out.rowGe k e).2)
      have LL := hid hL.out
      subst eL
      clear ab ho hL hb hnone hform
      by_cases h : k < n
      · have t1 : (k : Int) < n := by omega
        have t2 : decide ((k : Int) < 40) = false := by simp; omega
        clear tg hgo
        go_wp2_with fail
        refine OP.out.mono ?_
        rintro e w5 ⟨g, rfl, t5, b5⟩
        have T5 := hid (show Tap w5 g wo.heap.size (some (layAll (ks.drop 0))) from t5)
        have W5 := hid (HB.out.trans (b5.mono HB.out.size))
        have L5 := hid (LL.out.gr (grown_below b5 none) fun k e => by cases e)
        have hge : wo.heap.size ≤ g := t5.le
        clear t5 b5 OP LL
        go_wp2_with fail
        go_loopw [10] (fun i wr => ∃ (j : Nat), j ≤ ks.length ∧ i = .int .i64 j ∧ Hid (Tap wr g wo.heap.size (some (layAll (ks.drop j)))) ∧ Hid (OwnL wr w.heap.size (.slice AL ks.length cL) ks) ∧ Hid (Below w.heap.size w wr)) (fun i _ => ks.length - (intOf i).toNat)
        case atStart => exact ⟨0, by omega, rfl, T5, L5, W5⟩
        case round =>
          clear T5 L5 W5
          obtain ⟨j, hj, rfl, ht, hl5, hb5⟩ := hrel
          by_cases hlt : j < ks.length
          · have tj : (j : Int) < (ks.length : Int) := by omega
            obtain ⟨b, rfl, hbl, q0, q1, q2⟩ := hl5.out.at (List.getElem?_eq_getElem hlt)
            have hbg : b < wo.heap.size := LROW.out b rfl
            have hgd1 := hgd.out _ (List.getElem_mem hlt)
            have hdr := layAll_drop hlt
            obtain ⟨x, hx⟩ : ∃ x, x = ks[j] := ⟨_, rfl⟩
            rw [← hx] at q0 q1 q2 hgd1 hdr
            obtain ⟨u, m, s⟩ := x
            dsimp only at q0 q1 q2 hdr
            obtain ⟨hok, hs3, _⟩ := hgd1
            obtain ⟨_, hk2, hk3, hk4⟩ := okN_le hok
            have TN := tnum_any wr ht.out u
            rw [hdr] at TN
            have hna := BytM.num_app (w := u) (k := u.toNat) (n := m) hk4 hk3 hk2 (BytM.txt (nats s) ++ layAll (ks.drop (j + 1)))
            rw [hna.1, hna.2] at TN
            have hta := BytM.txt_app (s := nats s) (t := layAll (ks.drop (j + 1))) (m := 300) (by rw [nats_length]; dsimp only at hs3; omega) (by rw [nats_length]; dsimp only at hs3; omega)
            have HTA := hid hta
            have TN' := hid TN
            have Q := hid fun w' (h : wr.grownBy w' (some g)) => And.intro (h.cell q0 (fun e => by have := Option.some.inj e; dsimp only at this; omega)) (And.intro (h.cell q1 (fun e => by have := Option.some.inj e; dsimp only at this; omega)) (h.cell q2 (fun e => by have := Option.some.inj e; dsimp only at this; omega)))
            have HBG := hid hbg
            clear hta hna TN hdr hx hok hs3 hk2 hk3 hk4 q1 q2
            go_wp2_with fail
            refine TN'.out.mono ?_
            rintro e w7 ⟨rfl, t7, g7⟩
            have TT := ttext_any w7 t7 300
            rw [HTA.out.1, HTA.out.2, str_nats] at TT
            have TT' := hid TT
            have G7 := hid g7
            clear TT t7 g7 TN' q0 HTA
            go_wp2_with fail
            refine TT'.out.mono ?_
            rintro e w8 ⟨rfl, t8, g8⟩
            have G8 := hid (grown_trans G7.out g8)
            obtain ⟨q0, q1, q2⟩ := Q.out _ G8.out
            have TR := hid (torn_any w8 t8)
            have T8 := hid t8
            have L8 := hid (hl5.out.gr G8.out fun k e hk => by cases e; have := LROW.out _ hk; omega)
            have B8 := hid (below_by hb5.out G8.out (Nat.le_trans HB.out.size hge) (Nat.le_refl _))
            clear t8 g8 TT'
            have e7 : (s.toList == s.toList) = true := beq_self_eq_true _
            go_wp2_with fail
            refine (TR.out).mono ?_
            rintro e w' ⟨rfl, rfl⟩
            go_wp2_with fail
            go_roundw
            case rel => exact ⟨j + 1, by omega, by go_num, T8, L8, B8⟩
            case measure => simp [intOf] <;> omega
          · obtain rfl : j = ks.length := by omega
            have ht2 := ht.out
            rw [List.drop_of_length_le (Nat.le_refl _)] at ht2
            have EN := hid (end_any wr ht2)
            rw [show decide ((some (layAll []) : BytM.Tp) = some []) = true from rfl] at EN
            clear ht2 ht
            go_wp2_with fail
            refine (EN.out).mono ?_
            rintro e w' ⟨rfl, rfl⟩
            go_wp2_with fail
            refine (works_any wr).mono ?_
            rintro e w9 ⟨rfl, b9⟩
            have b10 := hb5.out.trans (b9.mono hb5.out.size)
            clear b9
            go_wp2_with fail
            go_ret
            exact ⟨rfl, b10⟩
      · have t1 : decide ((k : Int) < n) = false := by simp; omega
        clear tg hgo
        go_wp2_with fail
        refine OP.out.mono ?_
        rintro e w5 ⟨g, rfl, t5, b5⟩
        have T5 := hid (show Tap w5 g wo.heap.size (some (layAll (ks.drop 0))) from t5)
        have W5 := hid (HB.out.trans (b5.mono HB.out.size))
        have L5 := hid (LL.out.gr (grown_below b5 none) fun k e => by cases e)
        have hge : wo.heap.size ≤ g := t5.le
        clear t5 b5 OP LL
        go_wp2_with fail
        go_loopw [10] (fun i wr => ∃ (j : Nat), j ≤ ks.length ∧ i = .int .i64 j ∧ Hid (Tap wr g wo.heap.size (some (layAll (ks.drop j)))) ∧ Hid (OwnL wr w.heap.size (.slice AL ks.length cL) ks) ∧ Hid (Below w.heap.size w wr)) (fun i _ => ks.length - (intOf i).toNat)
        case atStart => exact ⟨0, by omega, rfl, T5, L5, W5⟩
        case round =>
          clear T5 L5 W5
          obtain ⟨j, hj, rfl, ht, hl5, hb5⟩ := hrel
          by_cases hlt : j < ks.length
          · have tj : (j : Int) < (ks.length : Int) := by omega
            obtain ⟨b, rfl, hbl, q0, q1, q2⟩ := hl5.out.at (List.getElem?_eq_getElem hlt)
            have hbg : b < wo.heap.size := LROW.out b rfl
            have hgd1 := hgd.out _ (List.getElem_mem hlt)
            have hdr := layAll_drop hlt
            obtain ⟨x, hx⟩ : ∃ x, x = ks[j] := ⟨_, rfl⟩
            rw [← hx] at q0 q1 q2 hgd1 hdr
            obtain ⟨u, m, s⟩ := x
            dsimp only at q0 q1 q2 hdr
            obtain ⟨hok, hs3, _⟩ := hgd1
            obtain ⟨_, hk2, hk3, hk4⟩ := okN_le hok
            have TN := tnum_any wr ht.out u
            rw [hdr] at TN
            have hna := BytM.num_app (w := u) (k := u.toNat) (n := m) hk4 hk3 hk2 (BytM.txt (nats s) ++ layAll (ks.drop (j + 1)))
            rw [hna.1, hna.2] at TN
            have hta := BytM.txt_app (s := nats s) (t := layAll (ks.drop (j + 1))) (m := 300) (by rw [nats_length]; dsimp only at hs3; omega) (by rw [nats_length]; dsimp only at hs3; omega)
            have HTA := hid hta
            have TN' := hid TN
            have Q := hid fun w' (h : wr.grownBy w' (some g)) => And.intro (h.cell q0 (fun e => by have := Option.some.inj e; dsimp only at this; omega)) (And.intro (h.cell q1 (fun e => by have := Option.some.inj e; dsimp only at this; omega)) (h.cell q2 (fun e => by have := Option.some.inj e; dsimp only at this; omega)))
            have HBG := hid hbg
            clear hta hna TN hdr hx hok hs3 hk2 hk3 hk4 q1 q2
            go_wp2_with fail
            refine TN'.out.mono ?_
            rintro e w7 ⟨rfl, t7, g7⟩
            have TT := ttext_any w7 t7 300
            rw [HTA.out.1, HTA.out.2, str_nats] at TT
            have TT' := hid TT
            have G7 := hid g7
            clear TT t7 g7 TN' q0 HTA
            go_wp2_with fail
            refine TT'.out.mono ?_
            rintro e w8 ⟨rfl, t8, g8⟩
            have G8 := hid (grown_trans G7.out g8)
            obtain ⟨q0, q1, q2⟩ := Q.out _ G8.out
            have TR := hid (torn_any w8 t8)
            have T8 := hid t8
            have L8 := hid (hl5.out.gr G8.out fun k e hk => by cases e; have := LROW.out _ hk; omega)
            have B8 := hid (below_by hb5.out G8.out (Nat.le_trans HB.out.size hge) (Nat.le_refl _))
            clear t8 g8 TT'
            have e7 : (s.toList == s.toList) = true := beq_self_eq_true _
            go_wp2_with fail
            refine (TR.out).mono ?_
            rintro e w' ⟨rfl, rfl⟩
            go_wp2_with fail
            go_roundw
            case rel => exact ⟨j + 1, by omega, by go_num, T8, L8, B8⟩
            case measure => simp [intOf] <;> omega
          · obtain rfl : j = ks.length := by omega
            have ht2 := ht.out
            rw [List.drop_of_length_le (Nat.le_refl _)] at ht2
            have EN := hid (end_any wr ht2)
            rw [show decide ((some (layAll []) : BytM.Tp) = some []) = true from rfl] at EN
            clear ht2 ht
            go_wp2_with fail
            refine (EN.out).mono ?_
            rintro e w' ⟨rfl, rfl⟩
            go_wp2_with fail
            refine (works_any wr).mono ?_
            rintro e w9 ⟨rfl, b9⟩
            have b10 := hb5.out.trans (b9.mono hb5.out.size)
            clear b9
            go_wp2_with fail
            go_ret
            exact ⟨rfl, b10⟩
end Go.Proofs.Ytiebaiofpihoiaa
