/-
  The law's put.
  MemberBack: behind the way back each sector that was seen then is seen, and durable.
  MemberFails: while a member fails, nothing changes.
  What a crash leaves, in plain words: what MemberLasts wants.
  MemberLasts: behind Flush no crash changes what is seen; what a crash leaves was durable, or is one of the writes.
-/
import Derived.Test.YteglhalninlapaaMrg3
set_option linter.unusedVariables false
set_option linter.unusedSimpArgs false
set_option maxRecDepth 100000
namespace Go.Proofs.Yteglhalninlapaa
open Go.ChangeShapes Go.WideShapes Go.ChangeAt Go.RowKit
attribute [local go_sem] Gives
namespace MbP
open MbM
/-- A place counted round. -/
def plc (i : Int) : Int := (i.tmod 6 + 6).tmod 6
theorem mod6 (i : Int) : -6 < i.tmod 6 ∧ i.tmod 6 < 6 := by
  have h1 := Int.tmod_lt_of_pos i (show (0 : Int) < 6 by omega)
  have h2 : -6 < i.tmod 6 := by
    have := Int.tmod_lt_of_pos (-i) (show (0 : Int) < 6 by omega)
    rw [Int.neg_tmod] at this; omega
  exact ⟨h2, h1⟩
theorem plc_in (i : Int) : 0 ≤ plc i ∧ plc i < 6 := by
  unfold plc
  have := mod6 i
  rw [Int.tmod_eq_emod_of_nonneg (by omega)]
  omega
def putT (st : St) (l : List ActV) : St := l.foldl (fun s a => wrT s (plc a.i) a.s) st
theorem putT_snoc (st : St) (l : List ActV) (a : ActV) : putT st (l ++ [a]) = wrT (putT st l) (plc a.i) a.s := by unfold putT; rw [List.foldl_append]; rfl
theorem putT_take {l : List ActV} {j : Nat} {a : ActV} (st : St) (h : l[j]? = some a) : putT st (l.take (j + 1)) = wrT (putT st (l.take j)) (plc a.i) a.s := by
  rw [List.take_add_one, h]; exact putT_snoc _ _ _
set_option maxHeartbeats 800000 in
set_option maxRecDepth 100000 in
theorem put_any {rep : RepT} (hC : MemC rep) (B m k : Nat) (M I : Nat → Prop) (st : St) (P : Option Addr) (l : List ActV) (n cap : Nat) (hk : k + n ≤ 1000) (w : World) (h : P1 rep B w m M I k st) (ha : Acts B w P l n cap) :
    Calls Try.prog 31 #[at' m, .slice P n cap] w fun e w' => e = .returned (.tuple #[]) ∧ outW rep B w m M I (k + n) (putT st l) w' := by
  have H := hid h
  have HA := hid ha
  have HK := hid hk
  have hn6 : n ≤ 1000 := by omega
  clear h ha hk
  unfold at'
  go_enter Try.func31, Try.ntmps31
  go_wp2_with fail
  go_loopw [4] (fun i wr => ∃ (j : Nat) (M' I' : Nat → Prop), j ≤ n ∧ i = .int .i64 j ∧ Hid (P1 rep B wr m M' I' (k + j) (putT st (l.take j))) ∧ Hid (Went w M I wr M' I')) (fun i _ => 1000 - (intOf i).toNat)
  case atStart => exact ⟨0, M, I, Nat.zero_le _, rfl, hid (by rw [List.take_zero]; exact H.out), hid (Went.refl _ _ _)⟩
  case round =>
    obtain ⟨j, M', I', hj, rfl, J, G⟩ := hrel
    by_cases hlt : j < n
    · have tj : (j : Int) < n := by omega
      have tw : IntKind.i64.wrap ((j : Int) + 1) = (j : Int) + 1 := IntWalk.i64_in _ (by omega)
      obtain ⟨a, b, o, _, e, hb, hr, hc, hok, hla⟩ := (HA.out.on (H.out.went G.out)).at' hlt
      have hbl : b < wr.heap.size := Nat.lt_of_lt_of_le hb J.out.base
      subst e
      have hs := hid (show wr.rangeAt b (o + j * 68 + 2) (ar 64 a.s).toList from fun x u hu => by
        have h1 := act_s a hu
        have h2 := hr (2 + x) u (by rw [Array.getElem?_toList]; exact h1)
        rw [show o + j * 68 + 2 + x = o + j * 68 + (2 + x) by omega]
        exact h2)
      have HO := hid hok
      have HL := hid hla
      clear hr hok hla
      go_wp2_with fail
      refine wp_region_tail (C := fun w' => Below wr.heap.size wr w') 14 (by kernel_rfl) (by kernel_rfl) (by kernel_rfl) (Below.refl _ _).drew ?_
      apply wpK_val
      · rfl
      · intro w' hw'
        go_simp
        first | exact rfl | exact ⟨rfl, hw'⟩
      simp only [Act.put, List.setIfInBounds_toArray, List.set_cons_succ, List.set_cons_zero]
      apply wpK_val
      · rfl
      · intro w' hw'
        go_simp
        first | exact rfl | exact ⟨rfl, hw'⟩
      simp only [Act.put, List.setIfInBounds_toArray, List.set_cons_succ, List.set_cons_zero]
      apply wpK_val
      · rfl
      · intro w' hw'
        go_simp
        first | exact rfl | exact ⟨rfl, hw'⟩
      simp only [Act.put, List.setIfInBounds_toArray, List.set_cons_succ, List.set_cons_zero]
      apply wpK_val
      · rfl
      · intro w' hw'
        go_simp
        first | exact rfl | exact ⟨rfl, hw'⟩
      simp only [Act.put, List.setIfInBounds_toArray, List.set_cons_succ, List.set_cons_zero]
      apply wpK_val
      · rfl
      · intro w' hw'
        go_simp
        first | exact rfl | exact ⟨rfl, hw'⟩
      simp only [Act.put, List.setIfInBounds_toArray, List.set_cons_succ, List.set_cons_zero]
      apply wpK_val
      · rfl
      · intro w' hw'
        have hcell := (hw'.cell (p := ⟨b, o + j * 68 + 1, none⟩) hbl).trans hc
        go_simp
        first | exact rfl | exact ⟨rfl, hw'⟩
      simp only [Act.put, List.setIfInBounds_toArray, List.set_cons_succ, List.set_cons_zero]
      apply wpK_val
      · rfl
      · intro w' hw'
        go_simp
        first | exact rfl | exact ⟨rfl, hw'⟩
      simp only [Act.put, List.setIfInBounds_toArray, List.set_cons_succ, List.set_cons_zero]
      apply wpK_val
      · rfl
      · intro w' hw'
        have tq : IntKind.i64.wrap (a.i.tmod 6 + 6) = a.i.tmod 6 + 6 := IntWalk.i64_in _ (by have := mod6 a.i; omega)
        go_simp
        first | exact rfl | exact ⟨rfl, hw'⟩
      simp only [Act.put, List.setIfInBounds_toArray, List.set_cons_succ, List.set_cons_zero]
      apply wpK_val
      · rfl
      · intro w' hw'
        go_simp
        first | exact rfl | exact ⟨rfl, hw'⟩
      simp only [Act.put, List.setIfInBounds_toArray, List.set_cons_succ, List.set_cons_zero]
      apply wpK_val
      · rfl
      · intro w' hw'
        go_simp
        first | exact rfl | exact ⟨rfl, hw'⟩
      simp only [Act.put, List.setIfInBounds_toArray, List.set_cons_succ, List.set_cons_zero]
      apply wpK_val
      · rfl
      · intro w' hw'
        go_simp
        first | exact rfl | exact ⟨rfl, hw'⟩
      simp only [Act.put, List.setIfInBounds_toArray, List.set_cons_succ, List.set_cons_zero]
      apply wpK_val
      · rfl
      · intro w' hw'
        go_simp
        first | exact rfl | exact ⟨rfl, hw'⟩
      simp only [Act.put, List.setIfInBounds_toArray, List.set_cons_succ, List.set_cons_zero]
      apply wpK_val
      · rfl
      · intro w' hw'
        go_simp
        first | exact rfl | exact ⟨rfl, hw'⟩
      simp only [Act.put, List.setIfInBounds_toArray, List.set_cons_succ, List.set_cons_zero]
      apply kldA tSe
      · rfl
      · rfl
      · exact fun w' hw' => fun x u hu => (hw'.cell (p := ⟨b, o + j * 68 + 2 + x, none⟩) hbl).trans (hs.out x u hu)
      simp only [Act.put, List.setIfInBounds_toArray, List.set_cons_succ, List.set_cons_zero]
      apply wpK_nil
      intro w4 h4
      have J4 := hid (J.out.below hC h4)
      have G4 := hid (G.out.trans (Went.below h4))
      have eP : (a.i.tmod 6 + 6).tmod 6 = plc a.i := rfl
      clear J G h4 hs
      go_wp2_with fail
      refine (hC.write J4.out.prog J4.out.ok (by have := HK.out; omega) (plc a.i) a.s HO.out.s).mono ?_
      rintro e w5 ⟨rfl, ho⟩
      obtain ⟨M5, I5, p5, g5⟩ := J4.out.out ho (wr_ok J4.out.ok (plc a.i) HO.out.s)
      have J5 := hid (show P1 rep B w5 m M5 I5 (k + (j + 1)) (putT st (l.take (j + 1))) by rw [putT_take st HL.out]; exact p5)
      have G5 := hid (G4.out.trans g5)
      clear J4 G4 ho p5 g5 HO HL
      go_wp2_with fail
      go_roundw
      case rel => exact ⟨j + 1, M5, I5, by omega, by go_num, J5, G5⟩
      case measure => simp [intOf]; omega
    · have tj : decide ((j : Int) < n) = false := by simp; omega
      have tk : ¬ j < n := hlt
      have td : decide (j < n) = false := by simp; omega
      obtain rfl : j = n := by omega
      have hf : outW rep B w m M I (k + j) (putT st l) wr := ⟨M', I', by have := J.out; rw [List.take_of_length_le (by rw [HA.out.sli.len]; exact Nat.le_refl _)] at this; exact this, G.out⟩
      have HF := hid hf
      clear J G hf
      go_wp2_with fail
      refine bodyPost_end (results_none rfl _ _ _) rfl ?_
      exact ⟨rfl, HF.out⟩
end MbP
end Go.Proofs.Yteglhalninlapaa
set_option maxRecDepth 100000
namespace Go.Proofs.Yteglhalninlapaa
open Go.ChangeShapes Go.WideShapes Go.ChangeAt Go.RowKit
attribute [local go_sem] Gives
namespace MbP
open MbM
/-- What no act of does changes. -/
def keeps (st st' : St) : Prop := st'.n = st.n ∧ st'.marks = st.marks ∧ st'.fails = st.fails
theorem wr_keeps (st : St) (i : Int) (x : Nat → Nat) : keeps st (wrT st i x) := by unfold wrT; split <;> (try split) <;> exact ⟨rfl, rfl, rfl⟩
theorem fl_keeps (st : St) : keeps st (flT st) := by unfold flT; split <;> exact ⟨rfl, rfl, rfl⟩
theorem se_keeps (st : St) (i : Int) (x : Nat → Nat) : keeps st (seT st i x) := by unfold seT; split <;> exact ⟨rfl, rfl, rfl⟩
theorem doesK_keeps (st : St) (a : ActV) : ∀ r, keeps st (doesK st a r) := fun r => by
  unfold doesK
  split
  · exact wr_keeps _ _ _
  · exact wr_keeps _ _ _
  · exact wr_keeps _ _ _
  · exact wr_keeps _ _ _
  · exact wr_keeps _ _ _
  · exact fl_keeps _
  · exact ⟨rfl, rfl, rfl⟩
  · exact se_keeps _ _ _
  · exact ⟨rfl, rfl, rfl⟩
  · exact ⟨rfl, rfl, rfl⟩
theorem does_keeps (st : St) (a : ActV) : keeps st (doesT st a) := doesK_keeps _ _ _
theorem keeps.trans {a b c : St} (h : keeps a b) (h2 : keeps b c) : keeps a c := ⟨h2.1.trans h.1, h2.2.1.trans h.2.1, h2.2.2.trans h.2.2⟩
theorem may6 {st : St} (h : st.n = 6) {i : Int} (h0 : 0 ≤ i) (h6 : i < 6) : st.may i = true := by unfold St.may; rw [h]; simp; omega
theorem rd6 {st : St} (h : st.n = 6) (hf : st.fails = false) {i : Int} (h0 : 0 ≤ i) (h6 : i < 6) : rdE st i = 0 ∧ rdS st i = MbM.seen st i := by
  unfold rdE rdS
  rw [may6 h h0 h6, hf]; exact ⟨rfl, rfl⟩
theorem lk6 {st : St} (h : st.n = 6) {i : Int} (h0 : 0 ≤ i) (h6 : i < 6) : lkE st i = 0 ∧ lkS st i = st.dur i := by
  unfold lkE lkS
  rw [may6 h h0 h6]; exact ⟨rfl, rfl⟩
theorem sees_of {st : St} {i : Int} {X : Nat → Nat} (h1 : rdE st i = 0) (h2 : rdS st i = X) : sees st i X = true := by
  unfold sees
  rw [h1, h2, Bool.and_eq_true]
  exact ⟨rfl, eqA_yes fun _ _ => rfl⟩
theorem sep_copy {rep : RepT} (hC : MemC rep) {w : World} {m k : Nat} {M I M2 I2 : Nat → Prop} {st : St} (h : rep w m M I k st) (h2 : ∀ b, M2 b → w.heap.size ≤ b) (h3 : ∀ b, I2 b → I b ∨ w.heap.size ≤ b) : Sep M I M2 I2 := by
  refine ⟨fun b hb e => ?_, fun b hb e => ?_⟩
  · have hlt := hC.lt h b (.inl hb)
    rcases e with e | e
    · have := h2 b e; omega
    · rcases h3 b e with e | e
      · exact hC.own h b hb e
      · omega
  · have := hC.lt h b e
    have := h2 b hb
    omega
theorem P1.copy {rep : RepT} {B : Nat} {w w' : World} {m c k : Nat} {M I M2 I2 : Nat → Prop} {st : St} (h : P1 rep B w m M I k st) (hr : rep w' c M2 I2 k st) (h2 : ∀ b, M2 b → w.heap.size ≤ b) (h3 : ∀ b, I2 b → I b ∨ w.heap.size ≤ b) (hb : Below w.heap.size w w') : P1 rep B w' c M2 I2 k st := by
  refine ⟨hr, h.ok, fun b hb => ?_, Nat.le_trans h.base hb.size⟩
  rcases hb with e | e
  · exact Nat.le_trans h.base (h2 b e)
  · rcases h3 b e with e | e
    · exact h.low b (.inr e)
    · exact Nat.le_trans h.base e
/-- Two members side by side, in a world that comes of W. -/
structure Two' (rep : RepT) (W : World) (w : World) (m : Nat) (M I : Nat → Prop) (k : Nat) (st : St) (c : Nat) (N J : Nat → Prop) (k2 : Nat) (sv : St) : Prop where
  a : P1 rep W.heap.size w m M I k st
  b : P1 rep W.heap.size w c N J k2 sv
  sep : Sep M I N J
  bel : Below W.heap.size W w
section
variable {rep : RepT} {W w w' : World} {m k c k2 : Nat} {M I N J : Nat → Prop} {st sv st' : St}
theorem Two'.below (hC : MemC rep) (h : Two' rep W w m M I k st c N J k2 sv) (hb : Below w.heap.size w w') : Two' rep W w' m M I k st c N J k2 sv :=
  ⟨h.a.below hC hb, h.b.below hC hb, h.sep, h.bel.trans (hb.mono h.bel.size)⟩
theorem Two'.out (hC : MemC rep) (h : Two' rep W w m M I k st c N J k2 sv) {k' : Nat} (ho : outW rep W.heap.size w m M I k' st' w') : ∃ M' I', Two' rep W w' m M' I' k' st' c N J k2 sv := by
  obtain ⟨M', I', h1, h2⟩ := ho
  have h3 := h.b.aside hC h2 h.sep
  exact ⟨M', I', h1, h3.1, h3.2, h.bel.trans (h.a.went h2)⟩
theorem P1.two (hC : MemC rep) (h : P1 rep W.heap.size w m M I k st) (hB : Below W.heap.size W w) (hr : rep w' c N J k st) (h2 : ∀ b, N b → w.heap.size ≤ b) (h3 : ∀ b, J b → I b ∨ w.heap.size ≤ b) (hb : Below w.heap.size w w') : Two' rep W w' m M I k st c N J k st :=
  ⟨h.below hC hb, h.copy hr h2 h3 hb, sep_copy hC h.prog h2 h3, hB.trans (hb.mono hB.size)⟩
end
set_option maxHeartbeats 1000000 in
set_option maxRecDepth 100000 in
theorem back_law {rep : RepT} (hC : MemC rep) (P : Option Addr) (l : List ActV) (ln cap : Nat) (P2 : Option Addr) (l2 : List ActV) (ln2 cap2 : Nat) (W : World) (h : Acts W.heap.size W P l ln cap) (h2 : Acts W.heap.size W P2 l2 ln2 cap2) :
    Calls Try.prog 7 #[.slice P ln cap, .slice P2 ln2 cap2] W fun e w' => e = .returned (.bool true) ∧ Below W.heap.size W w' := by
  have H := hid h
  have H2 := hid h2
  clear h h2
  go_enter Try.func7, Try.ntmps7
  by_cases hl : 30 < ln
  · have t1 : (30 : Int) < ln := by omega
    go_wp2_with fail
    refine (awake_any hC W).mono ?_
    rintro e w1 ⟨rfl, h1⟩
    go_wp2_with fail
    refine bodyPost_ret (results_tmp (t := 4) rfl _ _ _) rfl ?_
    exact ⟨rfl, h1⟩
  have t1 : decide ((30 : Int) < ln) = false := by simp; omega
  by_cases hl2 : 30 < ln2
  · have t2 : (30 : Int) < ln2 := by omega
    go_wp2_with fail
    refine (awake_any hC W).mono ?_
    rintro e w1 ⟨rfl, h1⟩
    go_wp2_with fail
    refine bodyPost_ret (results_tmp (t := 4) rfl _ _ _) rfl ?_
    exact ⟨rfl, h1⟩
  have t2 : decide ((30 : Int) < ln2) = false := by simp; omega
  have hl4 : ln ≤ 30 := by omega
  have hl5 : ln2 ≤ 30 := by omega
  clear hl hl2
  go_wp2_with fail
  refine (hC.new 6 (by omega) (by omega) W).mono ?_
  rintro e w1 ⟨m, M, I, rfl, hr, hMI, h1⟩
  have J := hid (show P1 rep W.heap.size w1 m M I 0 (made 6) from ⟨hr, made_ok 6, hMI, h1.size⟩)
  have B1 := hid h1
  have K1 := hid (show (made 6).n = 6 ∧ (made 6).marks = [] ∧ (made 6).fails = false from ⟨rfl, rfl, rfl⟩)
  clear hr hMI h1 t1 t2
  unfold at'
  generalize made 6 = s0 at J K1
  go_wp2_with fail
  go_loopw [7] (fun i wr => ∃ (j : Nat) (M I : Nat → Prop) (st : St), j ≤ ln ∧ i = .int .i64 j ∧ Hid (P1 rep W.heap.size wr m M I j st) ∧ Hid (Below W.heap.size W wr) ∧ Hid (st.n = 6 ∧ st.marks = [] ∧ st.fails = false)) (fun i _ => 60 - (intOf i).toNat)
  case atStart => exact ⟨0, M, I, s0, Nat.zero_le _, rfl, J, B1, K1⟩
  case round =>
    clear J B1 K1
    obtain ⟨j, M, I, st, hj, rfl, J, B, K⟩ := hrel
    by_cases hlt : j < ln
    · have tj : (j : Int) < ln := by omega
      have tw : IntKind.i64.wrap ((j : Int) + 1) = (j : Int) + 1 := IntWalk.i64_in _ (by omega)
      obtain ⟨a, b, o, _, e, hb, hr, hc, hok, _⟩ := (H.out.on B.out).at' hlt
      subst e
      have hr' := hid hr
      have HO := hid hok
      clear hr hok hc
      go_wp2_with ((with_reducible apply ldR (cs := actA a) (by rw [actA_size]; exact rowAct)); rfl; exact hr'.out)
      refine (does_any hC W.heap.size m j M I st a (by omega) wr J.out HO.out).mono ?_
      rintro e w3 ⟨rfl, M3, I3, j3, g3⟩
      have J3 := hid j3
      have B3 := hid (B.out.trans (J.out.went g3))
      have K3 := hid (show (doesT st a).n = 6 ∧ (doesT st a).marks = [] ∧ (doesT st a).fails = false from ⟨(does_keeps st a).1.trans K.out.1, (does_keeps st a).2.1.trans K.out.2.1, (does_keeps st a).2.2.trans K.out.2.2⟩)
      clear j3 g3 J B hr' HO K
      go_wp2_with fail
      go_roundw
      case rel => exact ⟨j + 1, M3, I3, _, by omega, by go_num, J3, B3, K3⟩
      case measure => simp [intOf]; omega
    · have tj : decide ((j : Int) < ln) = false := by simp; omega
      have tk : ¬ j < ln := hlt
      have td : decide (j < ln) = false := by simp; omega
      obtain rfl : j = ln := by omega
      clear hj
      generalize hwx : wr = wx at *
      clear hwx
      go_wp2_with fail
      refine (hC.copy J.out.prog J.out.ok (by omega)).mono ?_
      rintro e w3 ⟨c, M3, I3, rfl, hr3, hM3, hI3, h3⟩
      have T3 := hid (J.out.two hC B.out hr3 hM3 hI3 h3)
      clear hr3 hM3 hI3 h3 J B tj tk td
      unfold at'
      have e1 : mkN st = 0 ∧ mkE st = 0 := by unfold mkN mkE; rw [K.out.2.1]; exact ⟨rfl, rfl⟩
      have k1 := hid (show (mkT st).n = 6 ∧ (mkT st).marks = [MbM.seen st] ∧ (mkT st).fails = false by unfold mkT; rw [K.out.2.1, if_neg (by simp)]; exact ⟨K.out.1, by show st.marks ++ [MbM.seen st] = _; rw [K.out.2.1]; rfl, K.out.2.2⟩)
      go_wp2_with fail
      refine (hC.mark T3.out.a.prog T3.out.a.ok (by omega)).mono ?_
      rintro e w4 ⟨rfl, ho⟩
      rw [e1.1, e1.2]
      obtain ⟨M4, I4, t4⟩ := T3.out.out hC (T3.out.a.out ho (mk_ok T3.out.a.ok))
      have T4 := hid t4
      clear ho t4 T3 e1
      generalize mkT st = s1 at T4 k1
      go_wp2_with fail
      go_loopw [11] (fun i wr => ∃ (q : Nat) (N K : Nat → Prop) (sv : St), q ≤ ln2 ∧ i = .int .i64 q ∧ Hid (Two' rep W wr m N K (j + 1 + q) sv c M3 I3 j st) ∧ Hid (sv.n = 6 ∧ sv.marks = [MbM.seen st] ∧ sv.fails = false)) (fun i _ => 60 - (intOf i).toNat)
      case atStart => exact ⟨0, M4, I4, s1, Nat.zero_le _, rfl, T4, k1⟩
      case round =>
        clear T4 k1
        obtain ⟨q, N, E, sv, hq, rfl, TQ, KQ⟩ := hrel
        by_cases hlt2 : q < ln2
        · have tj : (q : Int) < ln2 := by omega
          have tw : IntKind.i64.wrap ((q : Int) + 1) = (q : Int) + 1 := IntWalk.i64_in _ (by omega)
          obtain ⟨a, b, o, _, e, hb, hr, hc, hok, _⟩ := (H2.out.on TQ.out.bel).at' hlt2
          subst e
          have hr' := hid hr
          have HO := hid hok
          clear hr hok hc
          go_wp2_with ((with_reducible apply ldR (cs := actA a) (by rw [actA_size]; exact rowAct)); rfl; exact hr'.out)
          refine (does_any hC W.heap.size m (j + 1 + q) N E sv a (by omega) wr TQ.out.a HO.out).mono ?_
          rintro e w5 ⟨rfl, ho⟩
          obtain ⟨M5, I5, t5⟩ := TQ.out.out hC ho
          have T5 := hid t5
          have K5 := hid (show (doesT sv a).n = 6 ∧ (doesT sv a).marks = [MbM.seen st] ∧ (doesT sv a).fails = false from ⟨(does_keeps sv a).1.trans KQ.out.1, (does_keeps sv a).2.1.trans KQ.out.2.1, (does_keeps sv a).2.2.trans KQ.out.2.2⟩)
          clear ho t5 TQ KQ hr' HO
          go_wp2_with fail
          go_roundw
          case rel => exact ⟨q + 1, M5, I5, _, by omega, by go_num, T5, K5⟩
          case measure => simp [intOf]; omega
        · have tj : decide ((q : Int) < ln2) = false := by simp; omega
          have tk : ¬ q < ln2 := hlt2
          have td : decide (q < ln2) = false := by simp; omega
          generalize hwy : wr = wy at *
          clear hwy
          have e2 : bkE sv 0 = 0 := by unfold bkE; rw [KQ.out.2.1]; rfl
          have e3 : bkT sv 0 = back sv 0 := by unfold bkT; rw [KQ.out.2.1]; rfl
          obtain ⟨s3, hs3⟩ : ∃ s3, s3 = back sv 0 := ⟨_, rfl⟩
          rw [← hs3] at e3
          have f3 := hid (show s3.n = 6 ∧ s3.log = [] ∧ s3.fails = false ∧ s3.dur = MbM.seen st ∧ s3.hurt = true by
            rw [hs3]; refine ⟨KQ.out.1, rfl, KQ.out.2.2, ?_, rfl⟩
            show sv.marks.getD 0 (fun _ => zero) = _
            rw [KQ.out.2.1]; rfl)
          have g3 := hid (show (s3.log.length : Nat) = 0 ∧ s3.hurt = true from ⟨by rw [f3.out.2.1]; rfl, f3.out.2.2.2.2⟩)
          clear hs3
          go_wp2_with fail
          refine (hC.back TQ.out.a.prog TQ.out.a.ok (by omega) 0).mono ?_
          rintro e w6 ⟨rfl, ho⟩
          rw [e2]
          rw [e3] at ho
          obtain ⟨M6, I6, t6⟩ := TQ.out.out hC (TQ.out.a.out ho (by rw [← e3]; exact bk_ok TQ.out.a.ok 0))
          have T6 := hid t6
          clear ho t6 TQ e2 e3
          go_wp2_with fail
          refine (hC.unflushed T6.out.a.prog).mono ?_
          rintro e w7 ⟨rfl, h7⟩
          rw [g3.out.1]
          have T7 := hid (T6.out.below hC h7)
          clear T6 h7
          go_wp2_with fail
          refine (hC.touched T7.out.a.prog).mono ?_
          rintro e w8 ⟨rfl, h8⟩
          rw [g3.out.2]
          have T8 := hid (T7.out.below hC h8)
          clear T7 h8 tj tk td g3
          go_wp2_with fail
          go_loopw [12] (fun i wr => ∃ (p : Nat), p ≤ 6 ∧ i = .int .i64 p ∧ Hid (Two' rep W wr m M6 I6 (j + 1 + q + 1) s3 c M3 I3 j st)) (fun i _ => 60 - (intOf i).toNat)
          case atStart => exact ⟨0, by omega, rfl, T8⟩
          case round =>
            clear T8
            obtain ⟨p, hp, rfl, T⟩ := hrel
            by_cases hlt3 : p < 6
            · have tw : IntKind.i64.wrap ((p : Int) + 1) = (p : Int) + 1 := IntWalk.i64_in _ (by omega)
              obtain ⟨X, hX⟩ : ∃ X, X = MbM.seen st p := ⟨_, rfl⟩
              have x1 := hid ((rd6 K.out.1 K.out.2.2 (i := p) (by omega) (by omega)).2.trans hX.symm)
              have x2 := hid (show lkS s3 p = X by rw [(lk6 f3.out.1 (i := p) (by omega) (by omega)).2, f3.out.2.2.2.1, hX])
              have x3 := hid ((lk6 f3.out.1 (i := p) (by omega) (by omega)).1)
              have x4 := hid (sees_of (st := s3) (i := p) (X := X) (rd6 f3.out.1 f3.out.2.2.1 (by omega) (by omega)).1 (by rw [(rd6 f3.out.1 f3.out.2.2.1 (by omega) (by omega)).2, hX]; unfold MbM.seen; rw [f3.out.2.1, f3.out.2.2.2.1]; rfl))
              clear hX
              go_wp2_with fail
              refine (hC.read T.out.b.prog T.out.b.ok (by omega) p).mono ?_
              rintro e w9 ⟨rfl, h9⟩
              rw [x1.out]
              have T9 := hid (T.out.below hC h9)
              clear T h9
              go_upto_region 22 with (first | (with_reducible apply alA tSe) | ((with_reducible apply stA tSe); rfl; rfl; exact Blk.new _ _ _))
              generalize hwA : World.setRow _ _ _ = wA
              obtain ⟨ga, hga⟩ : ∃ n, n = w9.heap.size := ⟨_, rfl⟩
              have hA : Below w9.heap.size w9 wA := by rw [← hwA]; exact below_setRow ((Below.refl _ _).alloc (Nat.le_refl _) _) (Nat.le_refl _) _
              have aA := hid (show Blk wA ga 32 (ar 64 X) by rw [← hwA, hga]; exact (Blk.new w9 _ _).setRow_same _)
              have TA := hid (T9.out.below hC hA)
              rw [← hga]
              clear hwA hga hA T9
              go_wp2_with fail
              refine (hC.look TA.out.a.prog TA.out.a.ok (by omega) p).mono ?_
              rintro e wB ⟨rfl, hB⟩
              rw [x2.out, x3.out]
              have TB := hid (TA.out.below hC hB)
              have aB := hid (aA.out.below hB aA.out.lt)
              clear TA aA hB
              go_upto_region 23 with (first | (with_reducible apply alA tSe) | ((with_reducible apply stA tSe); rfl; rfl; exact Blk.new _ _ _))
              generalize hwC : World.setRow _ _ _ = wC
              obtain ⟨gb, hgb⟩ : ∃ n, n = wB.heap.size := ⟨_, rfl⟩
              have hC' : Below wB.heap.size wB wC := by rw [← hwC]; exact below_setRow ((Below.refl _ _).alloc (Nat.le_refl _) _) (Nat.le_refl _) _
              have bC := hid (show Blk wC gb 32 (ar 64 X) by rw [← hwC, hgb]; exact (Blk.new wB _ _).setRow_same _)
              have TC := hid (TB.out.below hC hC')
              have aC := hid (aB.out.below hC' aB.out.lt)
              rw [← hgb]
              clear hwC hgb hC' TB aB
              refine wp_region_fixed (C := fun w' => Below wC.heap.size wC w') 14 (Below.refl _ _) ?_
              simp only [List.take_succ_cons, List.take_zero, List.drop_succ_cons, List.drop_zero]
              apply wpK_val
              · rfl
              · intro w' hw'
                go_simp
                first | exact rfl | exact ⟨rfl, hw'⟩
              simp only [Act.put, List.setIfInBounds_toArray, List.set_cons_succ, List.set_cons_zero]
              apply wpK_val
              · rfl
              · intro w' hw'
                go_simp
                first | exact rfl | exact ⟨rfl, hw'⟩
              simp only [Act.put, List.setIfInBounds_toArray, List.set_cons_succ, List.set_cons_zero]
              apply wpK_val
              · rfl
              · intro w' hw'
                go_simp
                first | exact rfl | exact ⟨rfl, hw'⟩
              simp only [Act.put, List.setIfInBounds_toArray, List.set_cons_succ, List.set_cons_zero]
              apply kldA tSe
              · rfl
              · rfl
              · exact fun w' hw' => (bC.out.below hw' bC.out.lt).head
              simp only [Act.put, List.setIfInBounds_toArray, List.set_cons_succ, List.set_cons_zero]
              apply kldA tSe
              · rfl
              · rfl
              · exact fun w' hw' => (aC.out.below hw' aC.out.lt).head
              simp only [Act.put, List.setIfInBounds_toArray, List.set_cons_succ, List.set_cons_zero]
              apply kneU false uSe eqg_se
              · rfl
              · rfl
              · rfl
              · exact by rw [eqA_yes fun _ _ => rfl]; rfl
              simp only [Act.put, List.setIfInBounds_toArray, List.set_cons_succ, List.set_cons_zero]
              apply wpK_val
              · rfl
              · intro w' hw'
                go_simp
                first | exact rfl | exact ⟨rfl, hw'⟩
              simp only [Act.put, List.setIfInBounds_toArray, List.set_cons_succ, List.set_cons_zero]
              apply wpK_val
              · rfl
              · intro w' hw'
                go_simp
                first | exact rfl | exact ⟨rfl, hw'⟩
              simp only [Act.put, List.setIfInBounds_toArray, List.set_cons_succ, List.set_cons_zero]
              apply wpK_val
              · rfl
              · intro w' hw'
                go_simp
                first | exact rfl | exact ⟨rfl, hw'⟩
              simp only [Act.put, List.setIfInBounds_toArray, List.set_cons_succ, List.set_cons_zero]
              apply wpK_val
              · rfl
              · intro w' hw'
                go_simp
                first | exact rfl | exact ⟨rfl, hw'⟩
              simp only [Act.put, List.setIfInBounds_toArray, List.set_cons_succ, List.set_cons_zero]
              apply kldA tSe
              · rfl
              · rfl
              · exact fun w' hw' => (aC.out.below hw' aC.out.lt).head
              simp only [Act.put, List.setIfInBounds_toArray, List.set_cons_succ, List.set_cons_zero]
              apply wpK_val
              · rfl
              · intro w' hw'
                go_simp
                exact (show Calls Try.prog _ _ w' fun e w2 => e = .returned (.bool true) ∧ Below wC.heap.size wC w2 from (reads_any hC m _ M6 I6 s3 p X (by omega) w' (TC.out.below hC hw').a.prog TC.out.a.ok).mono fun e w2 h => ⟨by rw [x4.out] at h; exact h.1, hw'.trans (h.2.mono hw'.size)⟩)
              simp only [Act.put, List.setIfInBounds_toArray, List.set_cons_succ, List.set_cons_zero]
              apply wpK_val
              · rfl
              · intro w' hw'
                go_simp
                first | exact rfl | exact ⟨rfl, hw'⟩
              simp only [Act.put, List.setIfInBounds_toArray, List.set_cons_succ, List.set_cons_zero]
              apply wpK_val
              · rfl
              · intro w' hw'
                go_simp
                first | exact rfl | exact ⟨rfl, hw'⟩
              simp only [Act.put, List.setIfInBounds_toArray, List.set_cons_succ, List.set_cons_zero]
              apply wpK_nil
              intro wD hD
              have TD := hid (TC.out.below hC hD)
              clear TC hD aC bC x1 x2 x3 x4
              go_wp2_with fail
              go_roundw
              case rel => exact ⟨p + 1, by omega, by go_num, TD⟩
              case measure => simp [intOf]; omega
            · go_wp2_with fail
              refine (awake_any hC wr).mono ?_
              rintro e w6 ⟨rfl, h6⟩
              have hb := T.out.bel.trans (h6.mono T.out.bel.size)
              go_wp2_with fail
              refine bodyPost_ret (results_tmp (t := 4) rfl _ _ _) rfl ?_
              exact ⟨rfl, hb⟩
end MbP
end Go.Proofs.Yteglhalninlapaa
set_option maxRecDepth 100000
namespace Go.Proofs.Yteglhalninlapaa
open Go.ChangeShapes Go.WideShapes Go.ChangeAt Go.RowKit
attribute [local go_sem] Gives
namespace MbP
open MbM
theorem rdF {st : St} (h : st.n = 6) (hf : st.fails = true) {i : Int} (h0 : 0 ≤ i) (h6 : i < 6) : rdE st i = 10 := by
  unfold rdE
  rw [may6 h h0 h6, hf]; rfl
/-- Two members side by side, whatever the one has laid. -/
def Tw (rep : RepT) (W : World) (m k : Nat) (st : St) (c : Nat) (N J : Nat → Prop) (k2 : Nat) (sv : St) (w : World) : Prop := ∃ M I, Two' rep W w m M I k st c N J k2 sv
section
variable {rep : RepT} {W w w' : World} {m k c k2 : Nat} {M I N J : Nat → Prop} {st sv st' : St}
theorem Tw.of (h : Two' rep W w m M I k st c N J k2 sv) : Tw rep W m k st c N J k2 sv w := ⟨M, I, h⟩
theorem Tw.of' (h : ∃ M' I', Two' rep W w m M' I' k st c N J k2 sv) : Tw rep W m k st c N J k2 sv w := h
theorem Tw.below (hC : MemC rep) (h : Tw rep W m k st c N J k2 sv w) (hb : Below w.heap.size w w') : Tw rep W m k st c N J k2 sv w' := by
  obtain ⟨M, I, h⟩ := h
  exact ⟨M, I, h.below hC hb⟩
theorem Tw.bel (h : Tw rep W m k st c N J k2 sv w) : Below W.heap.size W w := by
  obtain ⟨M, I, h⟩ := h
  exact h.bel
end
set_option maxHeartbeats 1000000 in
set_option maxRecDepth 100000 in
theorem fails_law {rep : RepT} (hC : MemC rep) (P : Option Addr) (l : List ActV) (ln cap : Nat) (P2 : Option Addr) (l2 : List ActV) (ln2 cap2 : Nat) (W : World) (h : Acts W.heap.size W P l ln cap) (h2 : Acts W.heap.size W P2 l2 ln2 cap2) :
    Calls Try.prog 8 #[.slice P ln cap, .slice P2 ln2 cap2] W fun e w' => e = .returned (.bool true) ∧ Below W.heap.size W w' := by
  have H := hid h
  have H2 := hid h2
  clear h h2
  go_enter Try.func8, Try.ntmps8
  by_cases hl : 30 < ln
  · have t1 : (30 : Int) < ln := by omega
    go_wp2_with fail
    refine (awake_any hC W).mono ?_
    rintro e w1 ⟨rfl, h1⟩
    go_wp2_with fail
    refine bodyPost_ret (results_tmp (t := 4) rfl _ _ _) rfl ?_
    exact ⟨rfl, h1⟩
  have t1 : decide ((30 : Int) < ln) = false := by simp; omega
  by_cases hl2 : 30 < ln2
  · have t2 : (30 : Int) < ln2 := by omega
    go_wp2_with fail
    refine (awake_any hC W).mono ?_
    rintro e w1 ⟨rfl, h1⟩
    go_wp2_with fail
    refine bodyPost_ret (results_tmp (t := 4) rfl _ _ _) rfl ?_
    exact ⟨rfl, h1⟩
  have t2 : decide ((30 : Int) < ln2) = false := by simp; omega
  have hl4 : ln ≤ 30 := by omega
  have hl5 : ln2 ≤ 30 := by omega
  clear hl hl2
  go_wp2_with fail
  refine (hC.new 6 (by omega) (by omega) W).mono ?_
  rintro e w1 ⟨m, M, I, rfl, hr, hMI, h1⟩
  have J := hid (show P1 rep W.heap.size w1 m M I 0 (made 6) from ⟨hr, made_ok 6, hMI, h1.size⟩)
  have B1 := hid h1
  have K1 := hid (show (made 6).n = 6 ∧ (made 6).marks = [] ∧ (made 6).fails = false from ⟨rfl, rfl, rfl⟩)
  clear hr hMI h1 t1 t2
  unfold at'
  generalize made 6 = s0 at J K1
  go_wp2_with fail
  go_loopw [7] (fun i wr => ∃ (j : Nat) (M I : Nat → Prop) (st : St), j ≤ ln ∧ i = .int .i64 j ∧ Hid (P1 rep W.heap.size wr m M I j st) ∧ Hid (Below W.heap.size W wr) ∧ Hid (st.n = 6 ∧ st.marks = [] ∧ st.fails = false)) (fun i _ => 60 - (intOf i).toNat)
  case atStart => exact ⟨0, M, I, s0, Nat.zero_le _, rfl, J, B1, K1⟩
  case round =>
    clear J B1 K1
    obtain ⟨j, M, I, st, hj, rfl, J, B, K⟩ := hrel
    by_cases hlt : j < ln
    · have tj : (j : Int) < ln := by omega
      have tw : IntKind.i64.wrap ((j : Int) + 1) = (j : Int) + 1 := IntWalk.i64_in _ (by omega)
      obtain ⟨a, b, o, _, e, hb, hr, hc, hok, _⟩ := (H.out.on B.out).at' hlt
      subst e
      have hr' := hid hr
      have HO := hid hok
      clear hr hok hc
      go_wp2_with ((with_reducible apply ldR (cs := actA a) (by rw [actA_size]; exact rowAct)); rfl; exact hr'.out)
      refine (does_any hC W.heap.size m j M I st a (by omega) wr J.out HO.out).mono ?_
      rintro e w3 ⟨rfl, M3, I3, j3, g3⟩
      have J3 := hid j3
      have B3 := hid (B.out.trans (J.out.went g3))
      have K3 := hid (show (doesT st a).n = 6 ∧ (doesT st a).marks = [] ∧ (doesT st a).fails = false from ⟨(does_keeps st a).1.trans K.out.1, (does_keeps st a).2.1.trans K.out.2.1, (does_keeps st a).2.2.trans K.out.2.2⟩)
      clear j3 g3 J B hr' HO K
      go_wp2_with fail
      go_roundw
      case rel => exact ⟨j + 1, M3, I3, _, by omega, by go_num, J3, B3, K3⟩
      case measure => simp [intOf]; omega
    · have tj : decide ((j : Int) < ln) = false := by simp; omega
      have tk : ¬ j < ln := hlt
      have td : decide (j < ln) = false := by simp; omega
      obtain rfl : j = ln := by omega
      clear hj
      generalize hwx : wr = wx at *
      clear hwx
      go_wp2_with fail
      refine (hC.copy J.out.prog J.out.ok (by omega)).mono ?_
      rintro e w3 ⟨c, M3, I3, rfl, hr3, hM3, hI3, h3⟩
      have T3 := hid (J.out.two hC B.out hr3 hM3 hI3 h3)
      clear hr3 hM3 hI3 h3 J B tj tk td
      unfold at'
      have f1 := hid (show (fail st true).n = 6 ∧ (fail st true).fails = true from ⟨K.out.1, rfl⟩)
      go_wp2_with fail
      refine (hC.fail T3.out.a.prog true).mono ?_
      rintro e w4 ⟨rfl, ho⟩
      obtain ⟨M4, I4, t4⟩ := T3.out.out hC (T3.out.a.out ho (fa_ok T3.out.a.ok true))
      have T4 := hid t4
      clear ho t4 T3
      obtain ⟨s1, hs1⟩ : ∃ s1, s1 = fail st true := ⟨_, rfl⟩
      rw [← hs1] at T4 f1
      have HS1 := hid hs1
      clear hs1
      go_wp2_with fail
      go_loopw [9] (fun i wr => ∃ (q : Nat) (N K : Nat → Prop), q ≤ ln2 ∧ i = .int .i64 q ∧ Hid (Two' rep W wr m N K (j + 1) s1 c M3 I3 j st)) (fun i _ => 60 - (intOf i).toNat)
      case atStart => exact ⟨0, M4, I4, Nat.zero_le _, rfl, T4⟩
      case round =>
        clear T4
        obtain ⟨q, N, E, hq, rfl, TQ⟩ := hrel
        by_cases hlt2 : q < ln2
        · have tj : (q : Int) < ln2 := by omega
          have tw : IntKind.i64.wrap ((q : Int) + 1) = (q : Int) + 1 := IntWalk.i64_in _ (by omega)
          obtain ⟨a, b, o, _, e, hb, hr, hc, hok, _⟩ := H2.out.at' hlt2
          subst e
          have hs := hid (show W.rangeAt b (o + q * 68 + 2) (ar 64 a.s).toList from fun x u hu => by
            have h1 := act_s a hu
            have h2 := hr (2 + x) u (by rw [Array.getElem?_toList]; exact h1)
            rw [show o + q * 68 + 2 + x = o + q * 68 + (2 + x) by omega]
            exact h2)
          have HO := hid hok
          have HCC := hid hc
          clear hr hok hc
          have r0 := hid (rdF f1.out.1 f1.out.2 (i := 0) (by omega) (by omega))
          go_wp2_with fail
          refine (hC.read TQ.out.a.prog TQ.out.a.ok (by omega) 0).mono ?_
          rintro e w5 ⟨rfl, h5⟩
          rw [r0.out]
          have T5 := hid (TQ.out.below hC h5)
          clear TQ h5 r0
          go_upto_region 16 with (first | (with_reducible apply alA tSe) | ((with_reducible apply stA tSe); rfl; rfl; exact Blk.new _ _ _))
          generalize hwA : World.setRow _ _ _ = wA
          have hA : Below w5.heap.size w5 wA := by rw [← hwA]; exact below_setRow ((Below.refl _ _).alloc (Nat.le_refl _) _) (Nat.le_refl _) _
          have TA := hid (Tw.of (T5.out.below hC hA))
          clear hwA hA T5
          refine wp_region_tail (C := Tw rep W m (j + 1) s1 c M3 I3 j st) 38 (by kernel_rfl) (by kernel_rfl) (by kernel_rfl) (TA.out.below hC (Below.refl _ _).drew) ?_
          by_cases h0 : 0 ≤ a.i
          · by_cases h6 : a.i < 6
            · skip
              apply wpK_val
              · rfl
              · intro w' hw'
                go_simp
                first | exact rfl | exact ⟨rfl, hw'⟩
              simp only [Act.put, List.setIfInBounds_toArray, List.set_cons_succ, List.set_cons_zero]
              apply wpK_val
              · rfl
              · intro w' hw'
                go_simp
                first | exact rfl | exact ⟨rfl, hw'⟩
              simp only [Act.put, List.setIfInBounds_toArray, List.set_cons_succ, List.set_cons_zero]
              apply wpK_val
              · rfl
              · intro w' hw'
                go_simp
                first | exact rfl | exact ⟨rfl, hw'⟩
              simp only [Act.put, List.setIfInBounds_toArray, List.set_cons_succ, List.set_cons_zero]
              apply wpK_val
              · rfl
              · intro w' hw'
                go_simp
                first | exact rfl | exact ⟨rfl, hw'⟩
              simp only [Act.put, List.setIfInBounds_toArray, List.set_cons_succ, List.set_cons_zero]
              apply wpK_val
              · rfl
              · intro w' hw'
                go_simp
                first | exact rfl | exact ⟨rfl, hw'⟩
              simp only [Act.put, List.setIfInBounds_toArray, List.set_cons_succ, List.set_cons_zero]
              apply wpK_val
              · rfl
              · intro w' hw'
                go_simp
                first | exact rfl | exact ⟨rfl, hw'⟩
              simp only [Act.put, List.setIfInBounds_toArray, List.set_cons_succ, List.set_cons_zero]
              apply wpK_val
              · rfl
              · intro w' hw'
                go_simp
                first | exact rfl | exact ⟨rfl, hw'⟩
              simp only [Act.put, List.setIfInBounds_toArray, List.set_cons_succ, List.set_cons_zero]
              apply wpK_val
              · rfl
              · intro w' hw'
                have hcell := (hw'.bel.cell (p := ⟨b, o + q * 68 + 1, none⟩) hb).trans HCC.out
                go_simp
                first | exact rfl | exact ⟨rfl, hw'⟩
              simp only [Act.put, List.setIfInBounds_toArray, List.set_cons_succ, List.set_cons_zero]
              apply wpK_val
              · rfl
              · intro w' hw'
                go_simp
                first | exact rfl | exact ⟨rfl, hw'⟩
              simp only [Act.put, List.setIfInBounds_toArray, List.set_cons_succ, List.set_cons_zero]
              apply wpK_val
              · rfl
              · intro w' hw'
                go_simp
                first | exact rfl | exact ⟨rfl, hw'⟩
              simp only [Act.put, List.setIfInBounds_toArray, List.set_cons_succ, List.set_cons_zero]
              apply wpK_val
              · rfl
              · intro w' hw'
                go_simp
                first | exact rfl | exact ⟨rfl, hw'⟩
              simp only [Act.put, List.setIfInBounds_toArray, List.set_cons_succ, List.set_cons_zero]
              apply wpK_val
              · rfl
              · intro w' hw'
                go_simp
                first | exact rfl | exact ⟨rfl, hw'⟩
              simp only [Act.put, List.setIfInBounds_toArray, List.set_cons_succ, List.set_cons_zero]
              apply wpK_val
              · rfl
              · intro w' hw'
                go_simp
                first | exact rfl | exact ⟨rfl, hw'⟩
              simp only [Act.put, List.setIfInBounds_toArray, List.set_cons_succ, List.set_cons_zero]
              apply wpK_val
              · rfl
              · intro w' hw'
                go_simp
                first | exact rfl | exact ⟨rfl, hw'⟩
              simp only [Act.put, List.setIfInBounds_toArray, List.set_cons_succ, List.set_cons_zero]
              apply wpK_val
              · rfl
              · intro w' hw'
                have hcell := (hw'.bel.cell (p := ⟨b, o + q * 68 + 1, none⟩) hb).trans HCC.out
                go_simp
                first | exact rfl | exact ⟨rfl, hw'⟩
              simp only [Act.put, List.setIfInBounds_toArray, List.set_cons_succ, List.set_cons_zero]
              apply wpK_val
              · rfl
              · intro w' hw'
                go_simp
                first | exact rfl | exact ⟨rfl, hw'⟩
              simp only [Act.put, List.setIfInBounds_toArray, List.set_cons_succ, List.set_cons_zero]
              apply wpK_val
              · rfl
              · intro w' hw'
                go_simp
                first | exact rfl | exact ⟨rfl, hw'⟩
              simp only [Act.put, List.setIfInBounds_toArray, List.set_cons_succ, List.set_cons_zero]
              apply wpK_val
              · rfl
              · intro w' hw'
                go_simp
                first | exact rfl | exact ⟨rfl, hw'⟩
              simp only [Act.put, List.setIfInBounds_toArray, List.set_cons_succ, List.set_cons_zero]
              apply wpK_val
              · rfl
              · intro w' hw'
                go_simp
                first | exact rfl | exact ⟨rfl, hw'⟩
              simp only [Act.put, List.setIfInBounds_toArray, List.set_cons_succ, List.set_cons_zero]
              apply wpK_val
              · rfl
              · intro w' hw'
                go_simp
                first | exact rfl | exact ⟨rfl, hw'⟩
              simp only [Act.put, List.setIfInBounds_toArray, List.set_cons_succ, List.set_cons_zero]
              apply wpK_val
              · rfl
              · intro w' hw'
                go_simp
                first | exact rfl | exact ⟨rfl, hw'⟩
              simp only [Act.put, List.setIfInBounds_toArray, List.set_cons_succ, List.set_cons_zero]
              apply wpK_val
              · rfl
              · intro w' hw'
                go_simp
                first | exact rfl | exact ⟨rfl, hw'⟩
              simp only [Act.put, List.setIfInBounds_toArray, List.set_cons_succ, List.set_cons_zero]
              apply wpK_val
              · rfl
              · intro w' hw'
                go_simp
                first | exact rfl | exact ⟨rfl, hw'⟩
              simp only [Act.put, List.setIfInBounds_toArray, List.set_cons_succ, List.set_cons_zero]
              apply wpK_val
              · rfl
              · intro w' hw'
                have hcell := (hw'.bel.cell (p := ⟨b, o + q * 68 + 1, none⟩) hb).trans HCC.out
                go_simp
                first | exact rfl | exact ⟨rfl, hw'⟩
              simp only [Act.put, List.setIfInBounds_toArray, List.set_cons_succ, List.set_cons_zero]
              apply wpK_val
              · rfl
              · intro w' hw'
                go_simp
                first | exact rfl | exact ⟨rfl, hw'⟩
              simp only [Act.put, List.setIfInBounds_toArray, List.set_cons_succ, List.set_cons_zero]
              apply wpK_val
              · rfl
              · intro w' hw'
                go_simp
                first | exact rfl | exact ⟨rfl, hw'⟩
              simp only [Act.put, List.setIfInBounds_toArray, List.set_cons_succ, List.set_cons_zero]
              apply wpK_val
              · rfl
              · intro w' hw'
                go_simp
                first | exact rfl | exact ⟨rfl, hw'⟩
              simp only [Act.put, List.setIfInBounds_toArray, List.set_cons_succ, List.set_cons_zero]
              apply wpK_val
              · rfl
              · intro w' hw'
                go_simp
                first | exact rfl | exact ⟨rfl, hw'⟩
              simp only [Act.put, List.setIfInBounds_toArray, List.set_cons_succ, List.set_cons_zero]
              apply kldA tSe
              · rfl
              · rfl
              · exact fun w' hw' => fun x u hu => (hw'.bel.cell (p := ⟨b, o + q * 68 + 2 + x, none⟩) hb).trans (hs.out x u hu)
              simp only [Act.put, List.setIfInBounds_toArray, List.set_cons_succ, List.set_cons_zero]
              apply wpK_val
              · rfl
              · intro w' hw'
                go_simp
                exact (show Calls Try.prog _ _ w' fun e w2 => e = .returned (.int .i64 10) ∧ Tw rep W m (j + 1) s1 c M3 I3 j st w2 from by obtain ⟨M', I', hT⟩ := hw'; exact (hC.writeF hT.a.prog hT.a.ok (by omega) f1.out.2 a.i a.s HO.out.s).mono fun e w2 h => ⟨by rw [rdF f1.out.1 f1.out.2 h0 h6] at h; exact h.1, Tw.of' (hT.out hC (hT.a.out h.2 hT.a.ok))⟩)
              simp only [Act.put, List.setIfInBounds_toArray, List.set_cons_succ, List.set_cons_zero]
              apply wpK_val
              · rfl
              · intro w' hw'
                go_simp
                first | exact rfl | exact ⟨rfl, hw'⟩
              simp only [Act.put, List.setIfInBounds_toArray, List.set_cons_succ, List.set_cons_zero]
              apply wpK_val
              · rfl
              · intro w' hw'
                go_simp
                first | exact rfl | exact ⟨rfl, hw'⟩
              simp only [Act.put, List.setIfInBounds_toArray, List.set_cons_succ, List.set_cons_zero]
              apply wpK_val
              · rfl
              · intro w' hw'
                go_simp
                first | exact rfl | exact ⟨rfl, hw'⟩
              simp only [Act.put, List.setIfInBounds_toArray, List.set_cons_succ, List.set_cons_zero]
              apply wpK_val
              · rfl
              · intro w' hw'
                go_simp
                first | exact rfl | exact ⟨rfl, hw'⟩
              simp only [Act.put, List.setIfInBounds_toArray, List.set_cons_succ, List.set_cons_zero]
              apply wpK_val
              · rfl
              · intro w' hw'
                go_simp
                first | exact rfl | exact ⟨rfl, hw'⟩
              simp only [Act.put, List.setIfInBounds_toArray, List.set_cons_succ, List.set_cons_zero]
              apply wpK_val
              · rfl
              · intro w' hw'
                go_simp
                exact (show Calls Try.prog _ _ w' fun e w2 => e = .returned (.int .i64 10) ∧ Tw rep W m (j + 1) s1 c M3 I3 j st w2 from by obtain ⟨M', I', hT⟩ := hw'; exact (hC.flushF hT.a.prog hT.a.ok (by omega) f1.out.2).mono fun e w2 h => ⟨h.1, Tw.of' (hT.out hC (hT.a.out h.2 hT.a.ok))⟩)
              simp only [Act.put, List.setIfInBounds_toArray, List.set_cons_succ, List.set_cons_zero]
              apply wpK_val
              · rfl
              · intro w' hw'
                go_simp
                first | exact rfl | exact ⟨rfl, hw'⟩
              simp only [Act.put, List.setIfInBounds_toArray, List.set_cons_succ, List.set_cons_zero]
              apply wpK_val
              · rfl
              · intro w' hw'
                go_simp
                first | exact rfl | exact ⟨rfl, hw'⟩
              simp only [Act.put, List.setIfInBounds_toArray, List.set_cons_succ, List.set_cons_zero]
              apply wpK_nil
              intro wD hD
              obtain ⟨M8, I8, t8⟩ := hD
              have T8 := hid t8
              clear TA t8 HO HCC hs
              change wpList _ _ _ [] _ _
              go_wp2_with fail
              go_roundw
              case rel => exact ⟨q + 1, M8, I8, by omega, by go_num, T8⟩
              case measure => simp [intOf]; omega
            · have t6 : decide (a.i < 6) = false := by simp; omega
              apply wpK_val
              · rfl
              · intro w' hw'
                go_simp
                first | exact rfl | exact ⟨rfl, hw'⟩
              simp only [Act.put, List.setIfInBounds_toArray, List.set_cons_succ, List.set_cons_zero]
              apply wpK_val
              · rfl
              · intro w' hw'
                go_simp
                first | exact rfl | exact ⟨rfl, hw'⟩
              simp only [Act.put, List.setIfInBounds_toArray, List.set_cons_succ, List.set_cons_zero]
              apply wpK_val
              · rfl
              · intro w' hw'
                go_simp
                first | exact rfl | exact ⟨rfl, hw'⟩
              simp only [Act.put, List.setIfInBounds_toArray, List.set_cons_succ, List.set_cons_zero]
              apply wpK_val
              · rfl
              · intro w' hw'
                go_simp
                first | exact rfl | exact ⟨rfl, hw'⟩
              simp only [Act.put, List.setIfInBounds_toArray, List.set_cons_succ, List.set_cons_zero]
              apply wpK_val
              · rfl
              · intro w' hw'
                go_simp
                first | exact rfl | exact ⟨rfl, hw'⟩
              simp only [Act.put, List.setIfInBounds_toArray, List.set_cons_succ, List.set_cons_zero]
              apply wpK_val
              · rfl
              · intro w' hw'
                go_simp
                first | exact rfl | exact ⟨rfl, hw'⟩
              simp only [Act.put, List.setIfInBounds_toArray, List.set_cons_succ, List.set_cons_zero]
              apply wpK_val
              · rfl
              · intro w' hw'
                go_simp
                first | exact rfl | exact ⟨rfl, hw'⟩
              simp only [Act.put, List.setIfInBounds_toArray, List.set_cons_succ, List.set_cons_zero]
              apply wpK_val
              · rfl
              · intro w' hw'
                have hcell := (hw'.bel.cell (p := ⟨b, o + q * 68 + 1, none⟩) hb).trans HCC.out
                go_simp
                first | exact rfl | exact ⟨rfl, hw'⟩
              simp only [Act.put, List.setIfInBounds_toArray, List.set_cons_succ, List.set_cons_zero]
              apply wpK_val
              · rfl
              · intro w' hw'
                go_simp
                first | exact rfl | exact ⟨rfl, hw'⟩
              simp only [Act.put, List.setIfInBounds_toArray, List.set_cons_succ, List.set_cons_zero]
              apply wpK_val
              · rfl
              · intro w' hw'
                go_simp
                first | exact rfl | exact ⟨rfl, hw'⟩
              simp only [Act.put, List.setIfInBounds_toArray, List.set_cons_succ, List.set_cons_zero]
              apply wpK_val
              · rfl
              · intro w' hw'
                go_simp
                first | exact rfl | exact ⟨rfl, hw'⟩
              simp only [Act.put, List.setIfInBounds_toArray, List.set_cons_succ, List.set_cons_zero]
              apply wpK_val
              · rfl
              · intro w' hw'
                go_simp
                first | exact rfl | exact ⟨rfl, hw'⟩
              simp only [Act.put, List.setIfInBounds_toArray, List.set_cons_succ, List.set_cons_zero]
              apply wpK_val
              · rfl
              · intro w' hw'
                go_simp
                first | exact rfl | exact ⟨rfl, hw'⟩
              simp only [Act.put, List.setIfInBounds_toArray, List.set_cons_succ, List.set_cons_zero]
              apply wpK_val
              · rfl
              · intro w' hw'
                go_simp
                first | exact rfl | exact ⟨rfl, hw'⟩
              simp only [Act.put, List.setIfInBounds_toArray, List.set_cons_succ, List.set_cons_zero]
              apply wpK_val
              · rfl
              · intro w' hw'
                have hcell := (hw'.bel.cell (p := ⟨b, o + q * 68 + 1, none⟩) hb).trans HCC.out
                go_simp
                first | exact rfl | exact ⟨rfl, hw'⟩
              simp only [Act.put, List.setIfInBounds_toArray, List.set_cons_succ, List.set_cons_zero]
              apply wpK_val
              · rfl
              · intro w' hw'
                go_simp
                first | exact rfl | exact ⟨rfl, hw'⟩
              simp only [Act.put, List.setIfInBounds_toArray, List.set_cons_succ, List.set_cons_zero]
              apply wpK_val
              · rfl
              · intro w' hw'
                go_simp
                first | exact rfl | exact ⟨rfl, hw'⟩
              simp only [Act.put, List.setIfInBounds_toArray, List.set_cons_succ, List.set_cons_zero]
              apply wpK_val
              · rfl
              · intro w' hw'
                go_simp
                first | exact rfl | exact ⟨rfl, hw'⟩
              simp only [Act.put, List.setIfInBounds_toArray, List.set_cons_succ, List.set_cons_zero]
              apply wpK_not
              · rfl
              simp only [Act.put, List.setIfInBounds_toArray, List.set_cons_succ, List.set_cons_zero]
              apply wpK_not
              · rfl
              simp only [Act.put, List.setIfInBounds_toArray, List.set_cons_succ, List.set_cons_zero]
              apply wpK_not
              · rfl
              simp only [Act.put, List.setIfInBounds_toArray, List.set_cons_succ, List.set_cons_zero]
              apply wpK_not
              · rfl
              simp only [Act.put, List.setIfInBounds_toArray, List.set_cons_succ, List.set_cons_zero]
              apply wpK_not
              · rfl
              simp only [Act.put, List.setIfInBounds_toArray, List.set_cons_succ, List.set_cons_zero]
              apply wpK_not
              · rfl
              simp only [Act.put, List.setIfInBounds_toArray, List.set_cons_succ, List.set_cons_zero]
              apply wpK_not
              · rfl
              simp only [Act.put, List.setIfInBounds_toArray, List.set_cons_succ, List.set_cons_zero]
              apply wpK_not
              · rfl
              simp only [Act.put, List.setIfInBounds_toArray, List.set_cons_succ, List.set_cons_zero]
              apply wpK_not
              · rfl
              simp only [Act.put, List.setIfInBounds_toArray, List.set_cons_succ, List.set_cons_zero]
              apply wpK_not
              · rfl
              simp only [Act.put, List.setIfInBounds_toArray, List.set_cons_succ, List.set_cons_zero]
              apply wpK_not
              · rfl
              simp only [Act.put, List.setIfInBounds_toArray, List.set_cons_succ, List.set_cons_zero]
              apply wpK_not
              · rfl
              simp only [Act.put, List.setIfInBounds_toArray, List.set_cons_succ, List.set_cons_zero]
              apply wpK_not
              · rfl
              simp only [Act.put, List.setIfInBounds_toArray, List.set_cons_succ, List.set_cons_zero]
              apply wpK_val
              · rfl
              · intro w' hw'
                go_simp
                first | exact rfl | exact ⟨rfl, hw'⟩
              simp only [Act.put, List.setIfInBounds_toArray, List.set_cons_succ, List.set_cons_zero]
              apply wpK_val
              · rfl
              · intro w' hw'
                go_simp
                first | exact rfl | exact ⟨rfl, hw'⟩
              simp only [Act.put, List.setIfInBounds_toArray, List.set_cons_succ, List.set_cons_zero]
              apply wpK_val
              · rfl
              · intro w' hw'
                go_simp
                first | exact rfl | exact ⟨rfl, hw'⟩
              simp only [Act.put, List.setIfInBounds_toArray, List.set_cons_succ, List.set_cons_zero]
              apply wpK_val
              · rfl
              · intro w' hw'
                go_simp
                first | exact rfl | exact ⟨rfl, hw'⟩
              simp only [Act.put, List.setIfInBounds_toArray, List.set_cons_succ, List.set_cons_zero]
              apply wpK_val
              · rfl
              · intro w' hw'
                go_simp
                exact (show Calls Try.prog _ _ w' fun e w2 => e = .returned (.int .i64 10) ∧ Tw rep W m (j + 1) s1 c M3 I3 j st w2 from by obtain ⟨M', I', hT⟩ := hw'; exact (hC.flushF hT.a.prog hT.a.ok (by omega) f1.out.2).mono fun e w2 h => ⟨h.1, Tw.of' (hT.out hC (hT.a.out h.2 hT.a.ok))⟩)
              simp only [Act.put, List.setIfInBounds_toArray, List.set_cons_succ, List.set_cons_zero]
              apply wpK_val
              · rfl
              · intro w' hw'
                go_simp
                first | exact rfl | exact ⟨rfl, hw'⟩
              simp only [Act.put, List.setIfInBounds_toArray, List.set_cons_succ, List.set_cons_zero]
              apply wpK_val
              · rfl
              · intro w' hw'
                go_simp
                first | exact rfl | exact ⟨rfl, hw'⟩
              simp only [Act.put, List.setIfInBounds_toArray, List.set_cons_succ, List.set_cons_zero]
              apply wpK_nil
              intro wD hD
              obtain ⟨M8, I8, t8⟩ := hD
              have T8 := hid t8
              clear TA t8 HO HCC hs
              change wpList _ _ _ [] _ _
              go_wp2_with fail
              go_roundw
              case rel => exact ⟨q + 1, M8, I8, by omega, by go_num, T8⟩
              case measure => simp [intOf]; omega
          · have t0 : decide (0 ≤ a.i) = false := by simp; omega
            apply wpK_val
            · rfl
            · intro w' hw'
              go_simp
              first | exact rfl | exact ⟨rfl, hw'⟩
            simp only [Act.put, List.setIfInBounds_toArray, List.set_cons_succ, List.set_cons_zero]
            apply wpK_val
            · rfl
            · intro w' hw'
              go_simp
              first | exact rfl | exact ⟨rfl, hw'⟩
            simp only [Act.put, List.setIfInBounds_toArray, List.set_cons_succ, List.set_cons_zero]
            apply wpK_val
            · rfl
            · intro w' hw'
              go_simp
              first | exact rfl | exact ⟨rfl, hw'⟩
            simp only [Act.put, List.setIfInBounds_toArray, List.set_cons_succ, List.set_cons_zero]
            apply wpK_val
            · rfl
            · intro w' hw'
              go_simp
              first | exact rfl | exact ⟨rfl, hw'⟩
            simp only [Act.put, List.setIfInBounds_toArray, List.set_cons_succ, List.set_cons_zero]
            apply wpK_val
            · rfl
            · intro w' hw'
              go_simp
              first | exact rfl | exact ⟨rfl, hw'⟩
            simp only [Act.put, List.setIfInBounds_toArray, List.set_cons_succ, List.set_cons_zero]
            apply wpK_val
            · rfl
            · intro w' hw'
              go_simp
              first | exact rfl | exact ⟨rfl, hw'⟩
            simp only [Act.put, List.setIfInBounds_toArray, List.set_cons_succ, List.set_cons_zero]
            apply wpK_val
            · rfl
            · intro w' hw'
              go_simp
              first | exact rfl | exact ⟨rfl, hw'⟩
            simp only [Act.put, List.setIfInBounds_toArray, List.set_cons_succ, List.set_cons_zero]
            apply wpK_val
            · rfl
            · intro w' hw'
              have hcell := (hw'.bel.cell (p := ⟨b, o + q * 68 + 1, none⟩) hb).trans HCC.out
              go_simp
              first | exact rfl | exact ⟨rfl, hw'⟩
            simp only [Act.put, List.setIfInBounds_toArray, List.set_cons_succ, List.set_cons_zero]
            apply wpK_val
            · rfl
            · intro w' hw'
              go_simp
              first | exact rfl | exact ⟨rfl, hw'⟩
            simp only [Act.put, List.setIfInBounds_toArray, List.set_cons_succ, List.set_cons_zero]
            apply wpK_val
            · rfl
            · intro w' hw'
              go_simp
              first | exact rfl | exact ⟨rfl, hw'⟩
            simp only [Act.put, List.setIfInBounds_toArray, List.set_cons_succ, List.set_cons_zero]
            apply wpK_not
            · rfl
            simp only [Act.put, List.setIfInBounds_toArray, List.set_cons_succ, List.set_cons_zero]
            apply wpK_not
            · rfl
            simp only [Act.put, List.setIfInBounds_toArray, List.set_cons_succ, List.set_cons_zero]
            apply wpK_not
            · rfl
            simp only [Act.put, List.setIfInBounds_toArray, List.set_cons_succ, List.set_cons_zero]
            apply wpK_not
            · rfl
            simp only [Act.put, List.setIfInBounds_toArray, List.set_cons_succ, List.set_cons_zero]
            apply wpK_not
            · rfl
            simp only [Act.put, List.setIfInBounds_toArray, List.set_cons_succ, List.set_cons_zero]
            apply wpK_not
            · rfl
            simp only [Act.put, List.setIfInBounds_toArray, List.set_cons_succ, List.set_cons_zero]
            apply wpK_val
            · rfl
            · intro w' hw'
              go_simp
              first | exact rfl | exact ⟨rfl, hw'⟩
            simp only [Act.put, List.setIfInBounds_toArray, List.set_cons_succ, List.set_cons_zero]
            apply wpK_val
            · rfl
            · intro w' hw'
              go_simp
              first | exact rfl | exact ⟨rfl, hw'⟩
            simp only [Act.put, List.setIfInBounds_toArray, List.set_cons_succ, List.set_cons_zero]
            apply wpK_not
            · rfl
            simp only [Act.put, List.setIfInBounds_toArray, List.set_cons_succ, List.set_cons_zero]
            apply wpK_not
            · rfl
            simp only [Act.put, List.setIfInBounds_toArray, List.set_cons_succ, List.set_cons_zero]
            apply wpK_not
            · rfl
            simp only [Act.put, List.setIfInBounds_toArray, List.set_cons_succ, List.set_cons_zero]
            apply wpK_not
            · rfl
            simp only [Act.put, List.setIfInBounds_toArray, List.set_cons_succ, List.set_cons_zero]
            apply wpK_not
            · rfl
            simp only [Act.put, List.setIfInBounds_toArray, List.set_cons_succ, List.set_cons_zero]
            apply wpK_not
            · rfl
            simp only [Act.put, List.setIfInBounds_toArray, List.set_cons_succ, List.set_cons_zero]
            apply wpK_not
            · rfl
            simp only [Act.put, List.setIfInBounds_toArray, List.set_cons_succ, List.set_cons_zero]
            apply wpK_not
            · rfl
            simp only [Act.put, List.setIfInBounds_toArray, List.set_cons_succ, List.set_cons_zero]
            apply wpK_not
            · rfl
            simp only [Act.put, List.setIfInBounds_toArray, List.set_cons_succ, List.set_cons_zero]
            apply wpK_not
            · rfl
            simp only [Act.put, List.setIfInBounds_toArray, List.set_cons_succ, List.set_cons_zero]
            apply wpK_not
            · rfl
            simp only [Act.put, List.setIfInBounds_toArray, List.set_cons_succ, List.set_cons_zero]
            apply wpK_not
            · rfl
            simp only [Act.put, List.setIfInBounds_toArray, List.set_cons_succ, List.set_cons_zero]
            apply wpK_not
            · rfl
            simp only [Act.put, List.setIfInBounds_toArray, List.set_cons_succ, List.set_cons_zero]
            apply wpK_val
            · rfl
            · intro w' hw'
              go_simp
              first | exact rfl | exact ⟨rfl, hw'⟩
            simp only [Act.put, List.setIfInBounds_toArray, List.set_cons_succ, List.set_cons_zero]
            apply wpK_val
            · rfl
            · intro w' hw'
              go_simp
              first | exact rfl | exact ⟨rfl, hw'⟩
            simp only [Act.put, List.setIfInBounds_toArray, List.set_cons_succ, List.set_cons_zero]
            apply wpK_val
            · rfl
            · intro w' hw'
              go_simp
              first | exact rfl | exact ⟨rfl, hw'⟩
            simp only [Act.put, List.setIfInBounds_toArray, List.set_cons_succ, List.set_cons_zero]
            apply wpK_val
            · rfl
            · intro w' hw'
              go_simp
              first | exact rfl | exact ⟨rfl, hw'⟩
            simp only [Act.put, List.setIfInBounds_toArray, List.set_cons_succ, List.set_cons_zero]
            apply wpK_val
            · rfl
            · intro w' hw'
              go_simp
              exact (show Calls Try.prog _ _ w' fun e w2 => e = .returned (.int .i64 10) ∧ Tw rep W m (j + 1) s1 c M3 I3 j st w2 from by obtain ⟨M', I', hT⟩ := hw'; exact (hC.flushF hT.a.prog hT.a.ok (by omega) f1.out.2).mono fun e w2 h => ⟨h.1, Tw.of' (hT.out hC (hT.a.out h.2 hT.a.ok))⟩)
            simp only [Act.put, List.setIfInBounds_toArray, List.set_cons_succ, List.set_cons_zero]
            apply wpK_val
            · rfl
            · intro w' hw'
              go_simp
              first | exact rfl | exact ⟨rfl, hw'⟩
            simp only [Act.put, List.setIfInBounds_toArray, List.set_cons_succ, List.set_cons_zero]
            apply wpK_val
            · rfl
            · intro w' hw'
              go_simp
              first | exact rfl | exact ⟨rfl, hw'⟩
            simp only [Act.put, List.setIfInBounds_toArray, List.set_cons_succ, List.set_cons_zero]
            apply wpK_nil
            intro wD hD
            obtain ⟨M8, I8, t8⟩ := hD
            have T8 := hid t8
            clear TA t8 HO HCC hs
            change wpList _ _ _ [] _ _
            go_wp2_with fail
            go_roundw
            case rel => exact ⟨q + 1, M8, I8, by omega, by go_num, T8⟩
            case measure => simp [intOf]; omega
        · have tj : decide ((q : Int) < ln2) = false := by simp; omega
          have tk : ¬ q < ln2 := hlt2
          have td : decide (q < ln2) = false := by simp; omega
          generalize hwy : wr = wy at *
          clear hwy
          go_wp2_with fail
          refine (hC.fail TQ.out.a.prog false).mono ?_
          rintro e w6 ⟨rfl, ho⟩
          obtain ⟨M6, I6, t6⟩ := TQ.out.out hC (TQ.out.a.out ho (fa_ok TQ.out.a.ok false))
          have T6 := hid t6
          clear ho t6 TQ
          obtain ⟨s3, hs3⟩ : ∃ s3, s3 = fail s1 false := ⟨_, rfl⟩
          rw [← hs3] at T6
          have f3 := hid (show s3.n = 6 ∧ s3.log = st.log ∧ s3.fails = false ∧ s3.dur = st.dur ∧ s3.hurt = true by
            rw [hs3, HS1.out]; exact ⟨K.out.1, rfl, rfl, rfl, by show ((st.hurt || true) || false) = true; simp⟩)
          clear hs3 tj tk td
          go_wp2_with fail
          go_loopw [12] (fun i wr => ∃ (p : Nat), p ≤ 6 ∧ i = .int .i64 p ∧ Hid (Two' rep W wr m M6 I6 (j + 1 + 1) s3 c M3 I3 j st)) (fun i _ => 60 - (intOf i).toNat)
          case atStart => exact ⟨0, by omega, rfl, T6⟩
          case round =>
            clear T6
            obtain ⟨p, hp, rfl, T⟩ := hrel
            by_cases hlt3 : p < 6
            · have tw : IntKind.i64.wrap ((p : Int) + 1) = (p : Int) + 1 := IntWalk.i64_in _ (by omega)
              obtain ⟨X, hX⟩ : ∃ X, X = MbM.seen st p := ⟨_, rfl⟩
              obtain ⟨Y, hY⟩ : ∃ Y, Y = st.dur p := ⟨_, rfl⟩
              have x1 := hid ((rd6 K.out.1 K.out.2.2 (i := p) (by omega) (by omega)).2.trans hX.symm)
              have x2 := hid ((lk6 K.out.1 (i := p) (by omega) (by omega)).2.trans hY.symm)
              have x3 := hid (show lkS s3 p = Y by rw [(lk6 f3.out.1 (i := p) (by omega) (by omega)).2, f3.out.2.2.2.1, hY])
              have x4 := hid (sees_of (st := s3) (i := p) (X := X) (rd6 f3.out.1 f3.out.2.2.1 (by omega) (by omega)).1 (by rw [(rd6 f3.out.1 f3.out.2.2.1 (by omega) (by omega)).2, hX]; unfold MbM.seen; rw [f3.out.2.1, f3.out.2.2.2.1]))
              clear hX hY
              go_wp2_with fail
              refine (hC.read T.out.b.prog T.out.b.ok (by omega) p).mono ?_
              rintro e w9 ⟨rfl, h9⟩
              rw [x1.out]
              have T9 := hid (T.out.below hC h9)
              clear T h9
              go_upto_region 23 with (first | (with_reducible apply alA tSe) | ((with_reducible apply stA tSe); rfl; rfl; exact Blk.new _ _ _))
              generalize hwA : World.setRow _ _ _ = wA
              obtain ⟨ga, hga⟩ : ∃ n, n = w9.heap.size := ⟨_, rfl⟩
              have hA : Below w9.heap.size w9 wA := by rw [← hwA]; exact below_setRow ((Below.refl _ _).alloc (Nat.le_refl _) _) (Nat.le_refl _) _
              have aA := hid (show Blk wA ga 32 (ar 64 X) by rw [← hwA, hga]; exact (Blk.new w9 _ _).setRow_same _)
              have TA := hid (T9.out.below hC hA)
              rw [← hga]
              clear hwA hga hA T9
              go_wp2_with fail
              refine (hC.look TA.out.b.prog TA.out.b.ok (by omega) p).mono ?_
              rintro e wB ⟨rfl, hB⟩
              rw [x2.out]
              have TB := hid (TA.out.below hC hB)
              have aB := hid (aA.out.below hB aA.out.lt)
              clear TA aA hB
              go_upto_region 24 with (first | (with_reducible apply alA tSe) | ((with_reducible apply stA tSe); rfl; rfl; exact Blk.new _ _ _))
              generalize hwC : World.setRow _ _ _ = wC
              obtain ⟨gb, hgb⟩ : ∃ n, n = wB.heap.size := ⟨_, rfl⟩
              have hC' : Below wB.heap.size wB wC := by rw [← hwC]; exact below_setRow ((Below.refl _ _).alloc (Nat.le_refl _) _) (Nat.le_refl _) _
              have bC := hid (show Blk wC gb 32 (ar 64 Y) by rw [← hwC, hgb]; exact (Blk.new wB _ _).setRow_same _)
              have TC := hid (TB.out.below hC hC')
              have aC := hid (aB.out.below hC' aB.out.lt)
              rw [← hgb]
              clear hwC hgb hC' TB aB
              go_wp2_with fail
              refine (hC.look TC.out.a.prog TC.out.a.ok (by omega) p).mono ?_
              rintro e wE ⟨rfl, hE⟩
              rw [x3.out]
              have TE := hid (TC.out.below hC hE)
              have aE := hid (aC.out.below hE aC.out.lt)
              have bE := hid (bC.out.below hE bC.out.lt)
              clear TC aC bC hE
              go_upto_region 25 with (first | (with_reducible apply alA tSe) | ((with_reducible apply stA tSe); rfl; rfl; exact Blk.new _ _ _))
              generalize hwF : World.setRow _ _ _ = wF
              obtain ⟨gf, hgf⟩ : ∃ n, n = wE.heap.size := ⟨_, rfl⟩
              have hF : Below wE.heap.size wE wF := by rw [← hwF]; exact below_setRow ((Below.refl _ _).alloc (Nat.le_refl _) _) (Nat.le_refl _) _
              have cF := hid (show Blk wF gf 32 (ar 64 Y) by rw [← hwF, hgf]; exact (Blk.new wE _ _).setRow_same _)
              have TF := hid (TE.out.below hC hF)
              have aF := hid (aE.out.below hF aE.out.lt)
              have bF := hid (bE.out.below hF bE.out.lt)
              rw [← hgf]
              clear hwF hgf hF TE aE bE
              refine wp_region_fixed (C := fun w' => Below wF.heap.size wF w') 10 (Below.refl _ _) ?_
              simp only [List.take_succ_cons, List.take_zero, List.drop_succ_cons, List.drop_zero]
              apply wpK_val
              · rfl
              · intro w' hw'
                go_simp
                first | exact rfl | exact ⟨rfl, hw'⟩
              simp only [Act.put, List.setIfInBounds_toArray, List.set_cons_succ, List.set_cons_zero]
              apply wpK_val
              · rfl
              · intro w' hw'
                go_simp
                first | exact rfl | exact ⟨rfl, hw'⟩
              simp only [Act.put, List.setIfInBounds_toArray, List.set_cons_succ, List.set_cons_zero]
              apply kldA tSe
              · rfl
              · rfl
              · exact fun w' hw' => (aF.out.below hw' aF.out.lt).head
              simp only [Act.put, List.setIfInBounds_toArray, List.set_cons_succ, List.set_cons_zero]
              apply wpK_val
              · rfl
              · intro w' hw'
                go_simp
                exact (show Calls Try.prog _ _ w' fun e w2 => e = .returned (.bool true) ∧ Below wF.heap.size wF w2 from (reads_any hC m _ M6 I6 s3 p X (by omega) w' (TF.out.below hC hw').a.prog TF.out.a.ok).mono fun e w2 h => ⟨by rw [x4.out] at h; exact h.1, hw'.trans (h.2.mono hw'.size)⟩)
              simp only [Act.put, List.setIfInBounds_toArray, List.set_cons_succ, List.set_cons_zero]
              apply wpK_val
              · rfl
              · intro w' hw'
                go_simp
                first | exact rfl | exact ⟨rfl, hw'⟩
              simp only [Act.put, List.setIfInBounds_toArray, List.set_cons_succ, List.set_cons_zero]
              apply wpK_val
              · rfl
              · intro w' hw'
                go_simp
                first | exact rfl | exact ⟨rfl, hw'⟩
              simp only [Act.put, List.setIfInBounds_toArray, List.set_cons_succ, List.set_cons_zero]
              apply kldA tSe
              · rfl
              · rfl
              · exact fun w' hw' => (cF.out.below hw' cF.out.lt).head
              simp only [Act.put, List.setIfInBounds_toArray, List.set_cons_succ, List.set_cons_zero]
              apply kldA tSe
              · rfl
              · rfl
              · exact fun w' hw' => (bF.out.below hw' bF.out.lt).head
              simp only [Act.put, List.setIfInBounds_toArray, List.set_cons_succ, List.set_cons_zero]
              apply kneU false uSe eqg_se
              · rfl
              · rfl
              · rfl
              · exact by rw [eqA_yes fun _ _ => rfl]; rfl
              simp only [Act.put, List.setIfInBounds_toArray, List.set_cons_succ, List.set_cons_zero]
              apply wpK_val
              · rfl
              · intro w' hw'
                go_simp
                first | exact rfl | exact ⟨rfl, hw'⟩
              simp only [Act.put, List.setIfInBounds_toArray, List.set_cons_succ, List.set_cons_zero]
              apply wpK_nil
              intro wD hD
              have TD := hid (TF.out.below hC hD)
              clear TF hD aF bF cF x1 x2 x3 x4
              go_wp2_with fail
              go_roundw
              case rel => exact ⟨p + 1, by omega, by go_num, TD⟩
              case measure => simp [intOf]; omega
            · have f4 := hid (show s3.hurt = true ∧ s3.log.length = st.log.length from ⟨f3.out.2.2.2.2, by rw [f3.out.2.1]⟩)
              go_wp2_with fail
              refine (hC.touched T.out.a.prog).mono ?_
              rintro e w9 ⟨rfl, h9⟩
              rw [f4.out.1]
              have T9 := hid (T.out.below hC h9)
              clear T h9
              go_wp2_with fail
              refine (hC.unflushed T9.out.a.prog).mono ?_
              rintro e wA ⟨rfl, hA⟩
              rw [f4.out.2]
              have TA := hid (T9.out.below hC hA)
              clear T9 hA
              go_wp2_with fail
              refine (hC.unflushed TA.out.b.prog).mono ?_
              rintro e wB ⟨rfl, hB⟩
              have TB := hid (TA.out.below hC hB)
              clear TA hB
              go_wp2_with fail
              refine (awake_any hC wB).mono ?_
              rintro e w6 ⟨rfl, h6⟩
              have hb := TB.out.bel.trans (h6.mono TB.out.bel.size)
              go_wp2_with fail
              refine bodyPost_ret (results_tmp (t := 4) rfl _ _ _) rfl ?_
              exact ⟨rfl, hb⟩
end MbP
end Go.Proofs.Yteglhalninlapaa
set_option maxRecDepth 100000
namespace Go.Proofs.Yteglhalninlapaa
namespace MbP
open MbM
theorem crash_empty {st : St} (h : st.log = []) (picks : List Nat) : crash st picks = st := by
  obtain ⟨n, d, l, m, f, u⟩ := st
  cases h
  rfl
theorem app_or (d : Img) (i : Int) : ∀ l : List Pt, app d l i = d i ∨ ∃ p ∈ l, p.i = i ∧ app d l i = p.s := fun l => by
  rw [app_find]
  have main : ∀ n (l : List Pt), l.length = n → find l i = none ∨ ∃ p ∈ l, p.i = i ∧ find l i = some p.s := by
    intro n
    induction n with
    | zero => intro l hl; rw [List.eq_nil_of_length_eq_zero hl]; exact .inl rfl
    | succ n ih =>
      intro l hl
      obtain ⟨p, hp⟩ : ∃ p, l[n]? = some p := ⟨_, List.getElem?_eq_getElem (by omega)⟩
      have e : l = l.take n ++ [p] := by
        have h1 := List.take_add_one (l := l) (i := n)
        rw [hp, List.take_of_length_le (by omega)] at h1
        exact h1
      have h2 : find l i = if p.i = i then some p.s else find (l.take n) i := by
        have h3 := find_take hp i
        rwa [List.take_of_length_le (by omega)] at h3
      rw [h2]
      by_cases h : p.i = i
      · rw [if_pos h]; exact .inr ⟨p, List.mem_of_getElem? hp, h, rfl⟩
      · rw [if_neg h]
        rcases ih (l.take n) (by rw [List.length_take]; omega) with e | ⟨q, hq, h4, h5⟩
        · exact .inl e
        · exact .inr ⟨q, List.mem_of_mem_take hq, h4, h5⟩
  rcases main _ l rfl with e | ⟨p, hp, h1, h2⟩
  · rw [e]; exact .inl rfl
  · rw [h2]; exact .inr ⟨p, hp, h1, rfl⟩
theorem kept_all {l : List Pt} {picks : List Nat} (h : ∀ k, k < l.length → picks.getD k 0 ≠ 0) : kept l picks = l := by
  have main : ∀ k, k ≤ l.length → keptN l picks k = l.take k := by
    intro k
    induction k with
    | zero => intro _; rw [kept_zero, List.take_zero]
    | succ k ih =>
      intro hk
      obtain ⟨p, hp⟩ : ∃ p, l[k]? = some p := ⟨_, List.getElem?_eq_getElem (by omega)⟩
      rw [kept_pick hp (h k (by omega)), ih (by omega), List.take_add_one, hp]
      rfl
  unfold kept
  rw [main _ (Nat.le_refl _), List.take_of_length_le (Nat.le_refl _)]
/-- What put leaves. -/
def ptOf (a : ActV) : Pt := ⟨plc a.i, a.s⟩
theorem put_is : ∀ (l : List ActV) (st : St), st.n = 6 → st.fails = false → putT st l = { st with log := st.log ++ l.map ptOf }
  | [], st, _, _ => by
    unfold putT
    rw [List.foldl_nil, List.map_nil, List.append_nil]
  | a :: l, st, h, hf => by
    have h1 : wrT st (plc a.i) a.s = { st with log := st.log ++ [ptOf a] } := by
      unfold wrT
      rw [may6 h (plc_in a.i).1 (plc_in a.i).2, if_pos rfl, if_neg (by rw [hf]; simp)]
      rfl
    have h2 : putT st (a :: l) = putT (wrT st (plc a.i) a.s) l := rfl
    rw [h2, h1, put_is l { st with log := st.log ++ [ptOf a] } h hf, List.map_cons]
    simp only [List.append_assoc, List.singleton_append]
/-- May this be left in sector i? -/
def mayL (t old : Nat → Nat) (i : Int) (l : List ActV) : Bool := eqA 64 t old || l.any fun a => decide (plc a.i = i) && eqA 64 a.s t
theorem may_nil (t old : Nat → Nat) (i : Int) : mayL t old i [] = eqA 64 t old := by unfold mayL; rw [List.any_nil, Bool.or_false]
theorem may_take {t old : Nat → Nat} {i : Int} {l : List ActV} {j : Nat} {a : ActV} (h : l[j]? = some a) : mayL t old i (l.take (j + 1)) = (mayL t old i (l.take j) || (decide (plc a.i = i) && eqA 64 a.s t)) := by
  unfold mayL
  rw [List.take_add_one, h, List.any_append, Bool.or_assoc]
  simp
theorem may_all {st : St} {l : List ActV} (i : Int) (picks : List Nat) (hl : st.log = l.map ptOf) : mayL ((crash st picks).dur i) (st.dur i) i l = true := by
  unfold mayL
  rw [Bool.or_eq_true]
  rcases app_or st.dur i (kept st.log picks) with e | ⟨p, hp, h1, h2⟩
  · left
    exact eqA_yes fun k _ => by show app st.dur (kept st.log picks) i k = _; rw [e]
  · right
    have hm := kept_mem hp
    rw [hl] at hm
    obtain ⟨a, ha, rfl⟩ := List.mem_map.1 hm
    refine List.any_eq_true.2 ⟨a, ha, ?_⟩
    rw [Bool.and_eq_true]
    refine ⟨decide_eq_true (show plc a.i = i from h1), eqA_yes fun k _ => ?_⟩
    show a.s k = app st.dur (kept st.log picks) i k
    rw [h2]; rfl
end MbP
end Go.Proofs.Yteglhalninlapaa
set_option maxRecDepth 100000
namespace Go.Proofs.Yteglhalninlapaa
open Go.ChangeShapes Go.WideShapes Go.ChangeAt Go.RowKit
attribute [local go_sem] Gives
namespace MbP
open MbM
theorem sep_copy2 {rep : RepT} (hC : MemC rep) {w : World} {c k : Nat} {M I N J M2 I2 : Nat → Prop} {sv : St} (h : rep w c N J k sv) (hs : Sep M I N J) (h2 : ∀ b, M2 b → w.heap.size ≤ b) (h3 : ∀ b, I2 b → I b ∨ w.heap.size ≤ b) : Sep N J M2 I2 := by
  refine ⟨fun b hb e => ?_, fun b hb e => ?_⟩
  · have hlt := hC.lt h b (.inl hb)
    rcases e with e | e
    · have := h2 b e; omega
    · rcases h3 b e with e | e
      · exact hs.2 b hb (.inr e)
      · omega
  · have := hC.lt h b e
    have := h2 b hb
    omega
/-- A member, its crash's picks in blocks of its own. -/
theorem P1.apart {rep : RepT} (hC : MemC rep) {B B' : Nat} {w : World} {m k : Nat} {M I : Nat → Prop} {st : St} (h : P1 rep B w m M I k st) {P : Option Addr} {n : Nat} (hP : ∀ b o, 0 < n → P = some ⟨b, o, none⟩ → b < B) : ∀ b o, 0 < n → P = some ⟨b, o, none⟩ → ¬ (M b ∨ I b) := fun b o hn e e2 => by
  have := hP b o hn e
  have := h.low b e2
  omega
def onesL (k : Nat) : List Nat := (List.range k).map fun i => 1 + i % 255
theorem ones_len (k : Nat) : (onesL k).length = k := by unfold onesL; rw [List.length_map, List.length_range]
theorem ones_snoc (k : Nat) : onesL (k + 1) = onesL k ++ [1 + k % 255] := by unfold onesL; rw [List.range_succ, List.map_append]; rfl
theorem ones_ne {k j : Nat} (h : j < k) : (onesL k).getD j 0 ≠ 0 := by
  unfold onesL
  rw [List.getD_eq_getElem?_getD, List.getElem?_map, List.getElem?_range h]
  show 1 + j % 255 ≠ 0
  omega
theorem ones_256 (k : Nat) : B256 (onesL k) := fun x hx => by
  unfold onesL at hx
  obtain ⟨i, _, rfl⟩ := List.mem_map.1 hx
  have := Nat.mod_lt i (show 0 < 255 by omega)
  omega
/-- A member and three others; all they have laid lies from W on. -/
structure Fr (rep : RepT) (W : World) (w : World) (m : Nat) (M I : Nat → Prop) (k : Nat) (st : St) (c : Nat) (N J : Nat → Prop) (k2 : Nat) (sv : St) (c2 : Nat) (N2 J2 : Nat → Prop) (k3 : Nat) (sv2 : St) : Prop where
  t : Two' rep W w m M I k st c N J k2 sv
  d : P1 rep W.heap.size w c2 N2 J2 k3 sv2
  s1 : Sep M I N2 J2
  s2 : Sep N J N2 J2
section
variable {rep : RepT} {W w w' : World} {m c c2 k k2 k3 : Nat} {M I N J N2 J2 : Nat → Prop} {st st' sv sv2 : St}
theorem Fr.below (hC : MemC rep) (h : Fr rep W w m M I k st c N J k2 sv c2 N2 J2 k3 sv2) (hb : Below w.heap.size w w') : Fr rep W w' m M I k st c N J k2 sv c2 N2 J2 k3 sv2 := ⟨h.t.below hC hb, h.d.below hC hb, h.s1, h.s2⟩
theorem Fr.out (hC : MemC rep) (h : Fr rep W w m M I k st c N J k2 sv c2 N2 J2 k3 sv2) {k' : Nat} (ho : outW rep W.heap.size w m M I k' st' w') : ∃ M' I', Fr rep W w' m M' I' k' st' c N J k2 sv c2 N2 J2 k3 sv2 := by
  obtain ⟨M', I', h1, h2⟩ := ho
  have h3 := h.t.b.aside hC h2 h.t.sep
  have h4 := h.d.aside hC h2 h.s1
  exact ⟨M', I', ⟨h1, h3.1, h3.2, h.t.bel.trans (h.t.a.went h2)⟩, h4.1, h4.2, h.s2⟩
theorem Fr.outD (hC : MemC rep) (h : Fr rep W w m M I k st c N J k2 sv c2 N2 J2 k3 sv2) {k' : Nat} (ho : outW rep W.heap.size w c2 N2 J2 k' st' w') : ∃ N2' J2', Fr rep W w' m M I k st c N J k2 sv c2 N2' J2' k' st' := by
  obtain ⟨M', I', h1, h2⟩ := ho
  have h3 := h.t.a.aside hC h2 h.s1.symm
  have h4 := h.t.b.aside hC h2 h.s2.symm
  exact ⟨M', I', ⟨h3.1, h4.1, h.t.sep, h.t.bel.trans (h.d.went h2)⟩, h1, h3.2.symm, h4.2.symm⟩
theorem Two'.copy (hC : MemC rep) (h : Two' rep W w m M I k st c N J k2 sv) (hr : rep w' c2 N2 J2 k st) (h2 : ∀ b, N2 b → w.heap.size ≤ b) (h3 : ∀ b, J2 b → I b ∨ w.heap.size ≤ b) (hb : Below w.heap.size w w') : Fr rep W w' m M I k st c N J k2 sv c2 N2 J2 k st :=
  ⟨h.below hC hb, h.a.copy hr h2 h3 hb, sep_copy hC h.a.prog h2 h3, sep_copy2 hC h.b.prog h.sep h2 h3⟩
end
theorem str6 {st : St} (h : st.log = []) (i : Int) : MbM.seen st i = st.dur i := by unfold MbM.seen; rw [h]; rfl
set_option maxHeartbeats 1000000 in
set_option maxRecDepth 100000 in
theorem lasts_law {rep : RepT} (hC : MemC rep) (P : Option Addr) (l : List ActV) (ln cap : Nat) (P2 : Option Addr) (l2 : List ActV) (ln2 cap2 : Nat) (P3 : Option Addr) (picks : List Nat) (pn pc : Nat) (W : World) (h : Acts W.heap.size W P l ln cap) (h2 : Acts W.heap.size W P2 l2 ln2 cap2) (h3 : Arg W P3 picks pn pc) :
    Calls Try.prog 6 #[.slice P ln cap, .slice P2 ln2 cap2, .slice P3 pn pc] W fun e w' => e = .returned (.bool true) ∧ Below W.heap.size W w' := by
  have H := hid h
  have H2 := hid h2
  have H3 := hid h3
  have HP := hid (show ∀ b o, 0 < picks.length → P3 = some ⟨b, o, none⟩ → b < W.heap.size from fun b o hn e => by
    obtain ⟨b', o', e', hl, _⟩ := h3.byt hn
    rw [e] at e'
    cases e'
    exact hl)
  clear h h2 h3
  go_enter Try.func6, Try.ntmps6
  by_cases hl : 20 < ln
  · have t1 : (20 : Int) < ln := by omega
    go_wp2_with fail
    refine (awake_any hC W).mono ?_
    rintro e w1 ⟨rfl, h1⟩
    go_wp2_with fail
    refine bodyPost_ret (results_tmp (t := 6) rfl _ _ _) rfl ?_
    exact ⟨rfl, h1⟩
  have t1 : decide ((20 : Int) < ln) = false := by simp; omega
  by_cases hl2 : 20 < ln2
  · have t2 : (20 : Int) < ln2 := by omega
    go_wp2_with fail
    refine (awake_any hC W).mono ?_
    rintro e w1 ⟨rfl, h1⟩
    go_wp2_with fail
    refine bodyPost_ret (results_tmp (t := 6) rfl _ _ _) rfl ?_
    exact ⟨rfl, h1⟩
  have t2 : decide ((20 : Int) < ln2) = false := by simp; omega
  have hl4 : ln ≤ 20 := by omega
  have hl5 : ln2 ≤ 20 := by omega
  clear hl hl2
  go_wp2_with fail
  refine (hC.new 6 (by omega) (by omega) W).mono ?_
  rintro e w1 ⟨m, M, I, rfl, hr, hMI, h1⟩
  have J := hid (show P1 rep W.heap.size w1 m M I 0 (made 6) from ⟨hr, made_ok 6, hMI, h1.size⟩)
  have B1 := hid h1
  clear hr hMI h1 t1 t2
  unfold at'
  go_wp2_with fail
  refine (put_any hC W.heap.size m 0 M I (made 6) P l ln cap (by omega) w1 J.out (H.out.on B1.out)).mono ?_
  rintro e w2 ⟨rfl, M2, I2, p2, g2⟩
  have J2' := hid p2
  have B2 := hid (B1.out.trans (J.out.went g2))
  obtain ⟨sA, hA⟩ : ∃ s, s = putT (made 6) l := ⟨_, rfl⟩
  have kA := hid (show sA.n = 6 ∧ sA.fails = false ∧ sA.hurt = false by rw [hA, put_is l (made 6) rfl rfl]; exact ⟨rfl, rfl, rfl⟩)
  rw [← hA] at J2'
  clear J B1 p2 g2 hA
  have e1 : MbM.flE sA = 0 := by unfold MbM.flE; rw [kA.out.2.1]; rfl
  obtain ⟨sF, hF⟩ : ∃ s, s = flT sA := ⟨_, rfl⟩
  have kF := hid (show sF.n = 6 ∧ sF.fails = false ∧ sF.hurt = false ∧ sF.log = [] by
    rw [hF]; unfold flT; rw [if_neg (by rw [kA.out.2.1]; simp)]; exact ⟨kA.out.1, kA.out.2.1, kA.out.2.2, rfl⟩)
  go_wp2_with fail
  refine (hC.flush J2'.out.prog J2'.out.ok (by omega)).mono ?_
  rintro e w3 ⟨rfl, ho⟩
  rw [e1]
  obtain ⟨M3, I3, p3, g3⟩ := J2'.out.out ho (fl_ok J2'.out.ok)
  rw [← hF] at p3
  have J3 := hid p3
  have B3 := hid (B2.out.trans (J2'.out.went g3))
  clear J2' B2 ho p3 g3 e1 hF kA
  have e2 : sF.log.length = 0 := by rw [kF.out.2.2.2]; rfl
  go_wp2_with fail
  refine (hC.unflushed J3.out.prog).mono ?_
  rintro e w4 ⟨rfl, h4⟩
  rw [e2]
  have J4 := hid (J3.out.below hC h4)
  have B4 := hid (B3.out.trans (h4.mono B3.out.size))
  clear J3 B3 h4 e2
  go_wp2_with fail
  refine (hC.copy J4.out.prog J4.out.ok (by omega)).mono ?_
  rintro e w5 ⟨c, N, K, rfl, hr5, hM5, hI5, h5⟩
  have T5 := hid (J4.out.two hC B4.out hr5 hM5 hI5 h5)
  clear J4 B4 hr5 hM5 hI5 h5
  unfold at'
  go_wp2_with fail
  refine (hC.crash T5.out.a.prog T5.out.a.ok (by omega) P3 picks pn pc (H3.out.on T5.out.bel) (T5.out.a.apart hC (B' := 0) HP.out)).mono ?_
  rintro e w6 ⟨rfl, ho⟩
  rw [crash_empty kF.out.2.2.2] at ho
  obtain ⟨M6, I6, t6⟩ := T5.out.out hC (T5.out.a.out ho T5.out.a.ok)
  have T6 := hid t6
  clear T5 ho t6
  go_wp2_with fail
  go_loopw [10] (fun i wr => ∃ (p : Nat), p ≤ 6 ∧ i = .int .i64 p ∧ Hid (Two' rep W wr m M6 I6 (0 + ln + 1 + 1) sF c N K (0 + ln + 1) sF)) (fun i _ => 60 - (intOf i).toNat)
  case atStart => exact ⟨0, by omega, rfl, T6⟩
  case round =>
    clear T6
    obtain ⟨p, hp, rfl, T⟩ := hrel
    by_cases hlt3 : p < 6
    · have tw : IntKind.i64.wrap ((p : Int) + 1) = (p : Int) + 1 := IntWalk.i64_in _ (by omega)
      obtain ⟨X, hX⟩ : ∃ X, X = rdS sF p := ⟨_, rfl⟩
      have x4 := hid (sees_of (st := sF) (i := p) (X := X) (rd6 kF.out.1 kF.out.2.1 (by omega) (by omega)).1 hX.symm)
      have x1 := hid hX
      clear hX
      go_wp2_with fail
      refine (hC.read T.out.b.prog T.out.b.ok (by omega) p).mono ?_
      rintro e w9 ⟨rfl, h9⟩
      rw [← x1.out]
      have T9 := hid (T.out.below hC h9)
      clear T h9
      go_upto_region 15 with (first | (with_reducible apply alA tSe) | ((with_reducible apply stA tSe); rfl; rfl; exact Blk.new _ _ _))
      generalize hwA : World.setRow _ _ _ = wA
      obtain ⟨ga, hga⟩ : ∃ n, n = w9.heap.size := ⟨_, rfl⟩
      have hA : Below w9.heap.size w9 wA := by rw [← hwA]; exact below_setRow ((Below.refl _ _).alloc (Nat.le_refl _) _) (Nat.le_refl _) _
      have aA := hid (show Blk wA ga 32 (ar 64 X) by rw [← hwA, hga]; exact (Blk.new w9 _ _).setRow_same _)
      have TA := hid (T9.out.below hC hA)
      rw [← hga]
      clear hwA hga hA T9
      go_wp2_with ((with_reducible apply ldA tSe); rfl; exact aA.out)
      refine (reads_any hC m _ M6 I6 sF p X (by omega) wA TA.out.a.prog TA.out.a.ok).mono ?_
      rintro e wB ⟨rfl, hB⟩
      rw [x4.out]
      have TB := hid (TA.out.below hC hB)
      clear TA aA hB x1 x4
      go_wp2_with fail
      go_roundw
      case rel => exact ⟨p + 1, by omega, by go_num, TB⟩
      case measure => simp [intOf]; omega
    · generalize hwx : wr = wx at *
      clear hwx
      obtain ⟨kx, hkx⟩ : ∃ kx, kx = 0 + ln + 1 + 1 := ⟨_, rfl⟩
      obtain ⟨k1, hk1⟩ : ∃ k1, k1 = 0 + ln + 1 := ⟨_, rfl⟩
      rw [← hkx, ← hk1] at T
      have hkx2 : kx ≤ 22 := by omega
      have hk12 : k1 ≤ 21 := by omega
      clear hkx hk1
      go_wp2_with fail
      refine (put_any hC W.heap.size m kx M6 I6 sF P2 l2 ln2 cap2 (by omega) wx T.out.a (H2.out.on T.out.bel)).mono ?_
      rintro e w7 ⟨rfl, ho⟩
      obtain ⟨M7, I7, t7⟩ := T.out.out hC ho
      obtain ⟨sB, hB⟩ : ∃ s, s = putT sF l2 := ⟨_, rfl⟩
      have kB := hid (show sB.n = 6 ∧ sB.fails = false ∧ sB.hurt = false ∧ sB.dur = sF.dur ∧ sB.log = l2.map ptOf by
        rw [hB, put_is l2 sF kF.out.1 kF.out.2.1]; exact ⟨kF.out.1, kF.out.2.1, kF.out.2.2.1, rfl, by show sF.log ++ _ = _; rw [kF.out.2.2.2]; rfl⟩)
      rw [← hB] at t7
      have T7 := hid t7
      have kq := hid (show sB.log.length = ln2 by rw [kB.out.2.2.2.2, List.length_map]; exact H2.out.sli.len)
      clear T ho t7 hB
      go_wp2_with fail
      refine (hC.copy T7.out.a.prog T7.out.a.ok (by omega)).mono ?_
      rintro e w8 ⟨c2, N2, K2, rfl, hr8, hM8, hI8, h8⟩
      have F8 := hid (T7.out.copy hC hr8 hM8 hI8 h8)
      clear T7 hr8 hM8 hI8 h8
      unfold at'
      go_wp2_with fail
      have ON := hid (show Own 5 .u8 w8 w8.heap.size (.slice none 0 0) (onesL 0) from Own.nil)
      go_loopw [14, 15] (fun v i wr => ∃ (j : Nat), j ≤ ln2 ∧ i = .int .i64 j ∧ Hid (Own 5 .u8 wr w8.heap.size v (onesL j)) ∧ Hid (Below w8.heap.size w8 wr)) (fun _ i _ => 60 - (intOf i).toNat)
      case atStart => exact ⟨0, by omega, rfl, ON, hid (Below.refl _ _)⟩
      case round =>
        clear ON
        rename_i v0 _
        obtain ⟨j, hj, rfl, ho, hb⟩ := hrel
        go_wp2_with fail
        refine (hC.unflushed (F8.out.below hC hb.out).t.a.prog).mono ?_
        rintro e w9 ⟨rfl, h9⟩
        rw [kq.out]
        have o9 := hid (ho.out.below h9)
        have b9 := hid (hb.out.trans (h9.mono hb.out.size))
        clear ho hb h9
        by_cases hlt : j < ln2
        · have tj : (j : Int) < ln2 := by omega
          have tw : IntKind.i64.wrap ((j : Int) + 1) = (j : Int) + 1 := IntWalk.i64_in _ (by omega)
          obtain ⟨y, hy⟩ : ∃ y, y = j % 255 := ⟨_, rfl⟩
          have hy2 : y < 255 := by omega
          have tq : (j : Int).tmod 255 = (y : Int) := by rw [hy]; rfl
          have tr : IntKind.i64.wrap (1 + (y : Int)) = 1 + (y : Int) := IntWalk.i64_in _ (by omega)
          have HX := hid (show (1 + (y : Int)) = ((1 + y : Nat) : Int) by omega)
          have HZ := hid hj
          have HY := hid hy
          have HS := hid b9.out.size
          clear hy
          go_wp2_with (at_builtin; (with_reducible apply wappN eltB); rfl; rfl; exact o9.out.alloc _; exact nums_one (x := 1 + y) (B := w9.heap.size + 1) (congrArg (Value.int .u8) HX.out) (Nat.lt_succ_self _); rfl; (rw [ones_len]; have := HZ.out; omega); (simp; have := HS.out; omega); intro v' wA oA gA)
          have bA := below_grown (b9.out.alloc HS.out (.cells #[.int .u8 (1 + (y : Int))] 5)) gA o9.out (Nat.le_refl _) (Nat.le_refl _)
          clear gA
          go_roundw
          case rel => exact ⟨j + 1, by omega, by go_num, hid (by rw [ones_snoc, ← HY.out]; exact oA), hid bA⟩
          case measure => simp [intOf]; omega
        · have tj : decide ((j : Int) < ln2) = false := by simp; omega
          have td : decide (j < ln2) = false := by simp; omega
          have tk : ¬ j < ln2 := hlt
          obtain rfl : j = ln2 := by omega
          obtain ⟨A, ca, ev, aA, hA⟩ := own_place o9.out (ones_256 _)
          rw [ones_len] at ev aA
          subst ev
          have F9 := hid (F8.out.below hC b9.out)
          have HA := hid aA
          have HN := hid (show ∀ b o, 0 < (onesL j).length → A = some ⟨b, o, none⟩ → ¬ (N2 b ∨ K2 b) from fun b o _ e e2 => by
            have := hC.lt F8.out.d.prog b e2
            have := hA b o e
            omega)
          clear F8 o9 b9 aA hA hj
          go_wp2_with fail
          refine (hC.crash F9.out.d.prog F9.out.d.ok (by omega) A (onesL j) j ca HA.out HN.out).mono ?_
          rintro e wA ⟨rfl, ho⟩
          obtain ⟨sX, hX⟩ : ∃ s, s = crash sB (onesL j) := ⟨_, rfl⟩
          have kX := hid (show sX.n = 6 ∧ sX.fails = false ∧ sX.log = [] ∧ sX.dur = MbM.seen sB by
            rw [hX]; refine ⟨kB.out.1, kB.out.2.1, rfl, ?_⟩
            show app sB.dur (kept sB.log (onesL j)) = _
            rw [kept_all fun k hk => ones_ne (by rw [kq.out] at hk; exact hk)]; rfl)
          obtain ⟨N3, K3, fA⟩ := F9.out.outD hC (F9.out.d.out ho (cr_ok F9.out.d.ok _))
          rw [← hX] at fA
          have FA := hid fA
          clear F9 HA HN ho fA hX tj td tk
          go_wp2_with fail
          refine (hC.copy FA.out.t.a.prog FA.out.t.a.ok (by omega)).mono ?_
          rintro e wB ⟨c3, N4, K4, rfl, hrB, hMB, hIB, hB'⟩
          have PB := hid (FA.out.t.a.copy hrB hMB hIB hB')
          have SB := hid (sep_copy hC FA.out.t.a.prog hMB hIB)
          have FB := hid (FA.out.below hC hB')
          clear FA hrB hMB hIB hB'
          unfold at'
          go_wp2_with fail
          refine (hC.crash FB.out.t.a.prog FB.out.t.a.ok (by omega) P3 picks pn pc (H3.out.on FB.out.t.bel) (FB.out.t.a.apart hC (B' := 0) HP.out)).mono ?_
          rintro e wC ⟨rfl, ho⟩
          obtain ⟨sD, hD⟩ : ∃ s, s = crash sB picks := ⟨_, rfl⟩
          have kD := hid (show sD.n = 6 ∧ sD.fails = false ∧ sD.hurt = false ∧ sD.log = [] by rw [hD]; exact ⟨kB.out.1, kB.out.2.1, kB.out.2.2.1, rfl⟩)
          have kM := hid (show ∀ i, mayL (sD.dur i) (sF.dur i) i l2 = true from fun i => by rw [hD, ← kB.out.2.2.2.1]; exact may_all i picks kB.out.2.2.2.2)
          obtain ⟨M8, I8, pC, gC⟩ := FB.out.t.a.out ho (cr_ok FB.out.t.a.ok picks)
          have PC := hid ((PB.out.aside hC gC SB.out).1)
          obtain ⟨M9, I9, fC⟩ := FB.out.out hC ⟨M8, I8, pC, gC⟩
          rw [← hD] at fC
          have FC := hid fC
          clear PB SB FB ho fC hD pC gC
          go_wp2_with fail
          go_loopw [17] (fun i wr => ∃ (p : Nat), p ≤ 6 ∧ i = .int .i64 p ∧ Hid (Fr rep W wr m M9 I9 (kx + j + 1) sD c N K k1 sF c2 N3 K3 (kx + j + 1) sX) ∧ Hid (P1 rep W.heap.size wr c3 N4 K4 (kx + j) sB)) (fun i _ => 60 - (intOf i).toNat)
          case atStart => exact ⟨0, by omega, rfl, FC, PC⟩
          case round =>
            clear FC PC
            obtain ⟨p, hp, rfl, F0, P0⟩ := hrel
            by_cases hlt4 : p < 6
            · have tw : IntKind.i64.wrap ((p : Int) + 1) = (p : Int) + 1 := IntWalk.i64_in _ (by omega)
              obtain ⟨X, hX⟩ : ∃ X, X = MbM.seen sB p := ⟨_, rfl⟩
              obtain ⟨Tt, hT⟩ : ∃ T, T = sD.dur p := ⟨_, rfl⟩
              obtain ⟨O, hO⟩ : ∃ O, O = sF.dur p := ⟨_, rfl⟩
              have x1 := hid ((rd6 kB.out.1 kB.out.2.1 (i := p) (by omega) (by omega)).2.trans hX.symm)
              have x2 := hid (((rd6 kD.out.1 kD.out.2.1 (i := p) (by omega) (by omega)).2.trans (str6 kD.out.2.2.2 p)).trans hT.symm)
              have x3 := hid (((rd6 kF.out.1 kF.out.2.1 (i := p) (by omega) (by omega)).2.trans (str6 kF.out.2.2.2 p)).trans hO.symm)
              have x5 := hid (sees_of (st := sX) (i := p) (X := X) (rd6 kX.out.1 kX.out.2.1 (by omega) (by omega)).1 (by rw [(rd6 kX.out.1 kX.out.2.1 (i := p) (by omega) (by omega)).2, str6 kX.out.2.2.1, kX.out.2.2.2, hX]))
              have x6 := hid (show mayL Tt O p l2 = true by rw [hT, hO]; exact kM.out p)
              clear hX hT hO
              go_wp2_with fail
              refine (hC.read P0.out.prog P0.out.ok (by omega) p).mono ?_
              rintro e wD ⟨rfl, hD⟩
              rw [x1.out]
              have FD := hid (F0.out.below hC hD)
              have PD := hid (P0.out.below hC hD)
              clear F0 P0 hD
              go_upto_region 31 with (first | (with_reducible apply alA tSe) | ((with_reducible apply stA tSe); rfl; rfl; exact Blk.new _ _ _))
              generalize hwA : World.setRow _ _ _ = wE
              obtain ⟨gx, hgx⟩ : ∃ n, n = wD.heap.size := ⟨_, rfl⟩
              have hA : Below wD.heap.size wD wE := by rw [← hwA]; exact below_setRow ((Below.refl _ _).alloc (Nat.le_refl _) _) (Nat.le_refl _) _
              have xE := hid (show Blk wE gx 32 (ar 64 X) by rw [← hwA, hgx]; exact (Blk.new wD _ _).setRow_same _)
              have FE := hid (FD.out.below hC hA)
              have PE := hid (PD.out.below hC hA)
              rw [← hgx]
              clear hwA hgx hA FD PD
              go_wp2_with fail
              refine (hC.read FE.out.t.a.prog FE.out.t.a.ok (by omega) p).mono ?_
              rintro e wH ⟨rfl, hD⟩
              rw [x2.out]
              have FH := hid (FE.out.below hC hD)
              have PH := hid (PE.out.below hC hD)
              have xH := hid (xE.out.below hD xE.out.lt)
              clear FE PE xE hD
              go_upto_region 32 with (first | (with_reducible apply alA tSe) | ((with_reducible apply stA tSe); rfl; rfl; exact Blk.new _ _ _))
              generalize hwA : World.setRow _ _ _ = wI
              obtain ⟨gt, hgt⟩ : ∃ n, n = wH.heap.size := ⟨_, rfl⟩
              have hA : Below wH.heap.size wH wI := by rw [← hwA]; exact below_setRow ((Below.refl _ _).alloc (Nat.le_refl _) _) (Nat.le_refl _) _
              have tI := hid (show Blk wI gt 32 (ar 64 Tt) by rw [← hwA, hgt]; exact (Blk.new wH _ _).setRow_same _)
              have FI := hid (FH.out.below hC hA)
              have PI := hid (PH.out.below hC hA)
              have xI := hid (xH.out.below hA xH.out.lt)
              rw [← hgt]
              clear hwA hgt hA FH PH xH
              go_wp2_with fail
              refine (hC.read FI.out.t.b.prog FI.out.t.b.ok (by omega) p).mono ?_
              rintro e wJ ⟨rfl, hD⟩
              rw [x3.out]
              have FJ := hid (FI.out.below hC hD)
              have PJ := hid (PI.out.below hC hD)
              have xJ := hid (xI.out.below hD xI.out.lt)
              have tJ := hid (tI.out.below hD tI.out.lt)
              clear FI PI xI tI hD
              go_upto_region 33 with (first | (with_reducible apply alA tSe) | ((with_reducible apply stA tSe); rfl; rfl; exact Blk.new _ _ _))
              generalize hwA : World.setRow _ _ _ = wK
              obtain ⟨go', hgo⟩ : ∃ n, n = wJ.heap.size := ⟨_, rfl⟩
              have hA : Below wJ.heap.size wJ wK := by rw [← hwA]; exact below_setRow ((Below.refl _ _).alloc (Nat.le_refl _) _) (Nat.le_refl _) _
              have oK := hid (show Blk wK go' 32 (ar 64 O) by rw [← hwA, hgo]; exact (Blk.new wJ _ _).setRow_same _)
              have FK := hid (FJ.out.below hC hA)
              have PK := hid (PJ.out.below hC hA)
              have xK := hid (xJ.out.below hA xJ.out.lt)
              have tK := hid (tJ.out.below hA tJ.out.lt)
              rw [← hgo]
              clear hwA hgo hA FJ PJ xJ tJ x1 x2 x3
              refine wp_region_fixed (C := fun w' => Below wK.heap.size wK w') 3 (Below.refl _ _) ?_
              simp only [List.take_succ_cons, List.take_zero, List.drop_succ_cons, List.drop_zero]
              apply kldA tSe
              · rfl
              · rfl
              · exact fun w' hw' => (tK.out.below hw' tK.out.lt).head
              simp only [Act.put, List.setIfInBounds_toArray, List.set_cons_succ, List.set_cons_zero]
              apply kldA tSe
              · rfl
              · rfl
              · exact fun w' hw' => (oK.out.below hw' oK.out.lt).head
              simp only [Act.put, List.setIfInBounds_toArray, List.set_cons_succ, List.set_cons_zero]
              apply keqU (eqA 64 Tt O) uSe eqg_se
              · rfl
              · rfl
              · rfl
              · exact rfl
              simp only [Act.put, List.setIfInBounds_toArray, List.set_cons_succ, List.set_cons_zero]
              apply wpK_nil
              intro wL hL
              have FL := hid (FK.out.below hC hL)
              have PL := hid (PK.out.below hC hL)
              have xL := hid (xK.out.below hL xK.out.lt)
              have tL := hid (tK.out.below hL tK.out.lt)
              have oL := hid (oK.out.below hL oK.out.lt)
              clear FK PK xK tK oK hL
              go_wp2_with fail
              go_loopw [24, 25] (fun v i wr => ∃ (q : Nat), q ≤ j ∧ i = .int .i64 q ∧ v = .bool (mayL Tt O p (l2.take q)) ∧ Hid (Fr rep W wr m M9 I9 (kx + j + 1) sD c N K k1 sF c2 N3 K3 (kx + j + 1) sX) ∧ Hid (P1 rep W.heap.size wr c3 N4 K4 (kx + j) sB) ∧ Hid (Blk wr gx 32 (ar 64 X)) ∧ Hid (Blk wr gt 32 (ar 64 Tt)) ∧ Hid (Blk wr go' 32 (ar 64 O))) (fun _ i _ => 60 - (intOf i).toNat)
              case atStart => exact ⟨0, by omega, rfl, by rw [List.take_zero, may_nil], FL, PL, xL, tL, oL⟩
              case round =>
                clear FL PL xL tL oL
                obtain ⟨q, hq, rfl, rfl, F4, P4, x4, t4, o4⟩ := hrel
                by_cases hlt5 : q < j
                · have tj : (q : Int) < j := by omega
                  have tw : IntKind.i64.wrap ((q : Int) + 1) = (q : Int) + 1 := IntWalk.i64_in _ (by omega)
                  obtain ⟨a, b, o, _, e, hb, hr, hc, _, hla⟩ := (H2.out.on F4.out.t.bel).at' hlt5
                  have hbl : b < wr.heap.size := Nat.lt_of_lt_of_le hb F4.out.t.a.base
                  subst e
                  have hs := hid (show wr.rangeAt b (o + q * 68 + 2) (ar 64 a.s).toList from fun x u hu => by
                    have h1 := act_s a hu
                    have h2 := hr (2 + x) u (by rw [Array.getElem?_toList]; exact h1)
                    rw [show o + q * 68 + 2 + x = o + q * 68 + (2 + x) by omega]
                    exact h2)
                  have HCC := hid hc
                  have hm := hid (may_take (t := Tt) (old := O) (i := (p : Int)) hla)
                  clear hr hc hla
                  generalize mayL Tt O p (l2.take q) = mv at *
                  go_wp2_with fail
                  refine wp_region_tail (C := fun w' => Below wr.heap.size wr w') 22 (by kernel_rfl) (by kernel_rfl) (by kernel_rfl) (Below.refl _ _).drew ?_
                  cases mv with
                  | true =>
                    apply wpK_val
                    · rfl
                    · intro w' hw'
                      go_simp
                      first | exact rfl | exact ⟨rfl, hw'⟩
                    simp only [Act.put, List.setIfInBounds_toArray, List.set_cons_succ, List.set_cons_zero]
                    apply wpK_val
                    · rfl
                    · intro w' hw'
                      go_simp
                      first | exact rfl | exact ⟨rfl, hw'⟩
                    simp only [Act.put, List.setIfInBounds_toArray, List.set_cons_succ, List.set_cons_zero]
                    apply wpK_not
                    · rfl
                    simp only [Act.put, List.setIfInBounds_toArray, List.set_cons_succ, List.set_cons_zero]
                    apply wpK_not
                    · rfl
                    simp only [Act.put, List.setIfInBounds_toArray, List.set_cons_succ, List.set_cons_zero]
                    apply wpK_not
                    · rfl
                    simp only [Act.put, List.setIfInBounds_toArray, List.set_cons_succ, List.set_cons_zero]
                    apply wpK_not
                    · rfl
                    simp only [Act.put, List.setIfInBounds_toArray, List.set_cons_succ, List.set_cons_zero]
                    apply wpK_not
                    · rfl
                    simp only [Act.put, List.setIfInBounds_toArray, List.set_cons_succ, List.set_cons_zero]
                    apply wpK_not
                    · rfl
                    simp only [Act.put, List.setIfInBounds_toArray, List.set_cons_succ, List.set_cons_zero]
                    apply wpK_not
                    · rfl
                    simp only [Act.put, List.setIfInBounds_toArray, List.set_cons_succ, List.set_cons_zero]
                    apply wpK_not
                    · rfl
                    simp only [Act.put, List.setIfInBounds_toArray, List.set_cons_succ, List.set_cons_zero]
                    apply wpK_not
                    · rfl
                    simp only [Act.put, List.setIfInBounds_toArray, List.set_cons_succ, List.set_cons_zero]
                    apply wpK_not
                    · rfl
                    simp only [Act.put, List.setIfInBounds_toArray, List.set_cons_succ, List.set_cons_zero]
                    apply wpK_not
                    · rfl
                    simp only [Act.put, List.setIfInBounds_toArray, List.set_cons_succ, List.set_cons_zero]
                    apply wpK_not
                    · rfl
                    simp only [Act.put, List.setIfInBounds_toArray, List.set_cons_succ, List.set_cons_zero]
                    apply wpK_not
                    · rfl
                    simp only [Act.put, List.setIfInBounds_toArray, List.set_cons_succ, List.set_cons_zero]
                    apply wpK_not
                    · rfl
                    simp only [Act.put, List.setIfInBounds_toArray, List.set_cons_succ, List.set_cons_zero]
                    apply wpK_not
                    · rfl
                    simp only [Act.put, List.setIfInBounds_toArray, List.set_cons_succ, List.set_cons_zero]
                    apply wpK_not
                    · rfl
                    simp only [Act.put, List.setIfInBounds_toArray, List.set_cons_succ, List.set_cons_zero]
                    apply wpK_not
                    · rfl
                    simp only [Act.put, List.setIfInBounds_toArray, List.set_cons_succ, List.set_cons_zero]
                    apply wpK_not
                    · rfl
                    simp only [Act.put, List.setIfInBounds_toArray, List.set_cons_succ, List.set_cons_zero]
                    apply wpK_not
                    · rfl
                    simp only [Act.put, List.setIfInBounds_toArray, List.set_cons_succ, List.set_cons_zero]
                    apply wpK_val
                    · rfl
                    · intro w' hw'
                      go_simp
                      first | exact rfl | exact ⟨rfl, hw'⟩
                    simp only [Act.put, List.setIfInBounds_toArray, List.set_cons_succ, List.set_cons_zero]
                    apply wpK_nil
                    intro wG hG
                    have FG := hid (F4.out.below hC hG)
                    have PG := hid (P4.out.below hC hG)
                    have xg := hid (x4.out.below hG x4.out.lt)
                    have tg := hid (t4.out.below hG t4.out.lt)
                    have og := hid (o4.out.below hG o4.out.lt)
                    clear F4 P4 x4 t4 o4 hG hs HCC
                    go_wp2_with fail
                    go_roundw
                    case rel => exact ⟨q + 1, by omega, by go_num, by rw [hm.out]; rfl, FG, PG, xg, tg, og⟩
                    case measure => simp [intOf]; omega
                  | false =>
                    by_cases hpl : plc a.i = p
                    · have te : (plc a.i == (p : Int)) = true := by simp [hpl]
                      have HPL := hid (show decide (plc a.i = (p : Int)) = true from decide_eq_true hpl)
                      clear hpl
                      apply wpK_val
                      · rfl
                      · intro w' hw'
                        go_simp
                        first | exact rfl | exact ⟨rfl, hw'⟩
                      simp only [Act.put, List.setIfInBounds_toArray, List.set_cons_succ, List.set_cons_zero]
                      apply wpK_val
                      · rfl
                      · intro w' hw'
                        go_simp
                        first | exact rfl | exact ⟨rfl, hw'⟩
                      simp only [Act.put, List.setIfInBounds_toArray, List.set_cons_succ, List.set_cons_zero]
                      apply wpK_val
                      · rfl
                      · intro w' hw'
                        go_simp
                        first | exact rfl | exact ⟨rfl, hw'⟩
                      simp only [Act.put, List.setIfInBounds_toArray, List.set_cons_succ, List.set_cons_zero]
                      apply wpK_val
                      · rfl
                      · intro w' hw'
                        go_simp
                        first | exact rfl | exact ⟨rfl, hw'⟩
                      simp only [Act.put, List.setIfInBounds_toArray, List.set_cons_succ, List.set_cons_zero]
                      apply wpK_val
                      · rfl
                      · intro w' hw'
                        go_simp
                        first | exact rfl | exact ⟨rfl, hw'⟩
                      simp only [Act.put, List.setIfInBounds_toArray, List.set_cons_succ, List.set_cons_zero]
                      apply wpK_val
                      · rfl
                      · intro w' hw'
                        go_simp
                        first | exact rfl | exact ⟨rfl, hw'⟩
                      simp only [Act.put, List.setIfInBounds_toArray, List.set_cons_succ, List.set_cons_zero]
                      apply wpK_val
                      · rfl
                      · intro w' hw'
                        have hcell := (hw'.cell (p := ⟨b, o + q * 68 + 1, none⟩) hbl).trans HCC.out
                        go_simp
                        first | exact rfl | exact ⟨rfl, hw'⟩
                      simp only [Act.put, List.setIfInBounds_toArray, List.set_cons_succ, List.set_cons_zero]
                      apply wpK_val
                      · rfl
                      · intro w' hw'
                        go_simp
                        first | exact rfl | exact ⟨rfl, hw'⟩
                      simp only [Act.put, List.setIfInBounds_toArray, List.set_cons_succ, List.set_cons_zero]
                      apply wpK_val
                      · rfl
                      · intro w' hw'
                        have tq : IntKind.i64.wrap (a.i.tmod 6 + 6) = a.i.tmod 6 + 6 := IntWalk.i64_in _ (by have := mod6 a.i; omega)
                        go_simp
                        first | exact rfl | exact ⟨rfl, hw'⟩
                      simp only [Act.put, List.setIfInBounds_toArray, List.set_cons_succ, List.set_cons_zero]
                      apply wpK_val
                      · rfl
                      · intro w' hw'
                        have eP : (a.i.tmod 6 + 6).tmod 6 = plc a.i := rfl
                        go_simp
                        first | exact rfl | exact ⟨rfl, hw'⟩
                      simp only [Act.put, List.setIfInBounds_toArray, List.set_cons_succ, List.set_cons_zero]
                      apply wpK_val
                      · rfl
                      · intro w' hw'
                        go_simp
                        first | exact rfl | exact ⟨rfl, hw'⟩
                      simp only [Act.put, List.setIfInBounds_toArray, List.set_cons_succ, List.set_cons_zero]
                      apply wpK_val
                      · rfl
                      · intro w' hw'
                        go_simp
                        first | exact rfl | exact ⟨rfl, hw'⟩
                      simp only [Act.put, List.setIfInBounds_toArray, List.set_cons_succ, List.set_cons_zero]
                      apply wpK_val
                      · rfl
                      · intro w' hw'
                        go_simp
                        first | exact rfl | exact ⟨rfl, hw'⟩
                      simp only [Act.put, List.setIfInBounds_toArray, List.set_cons_succ, List.set_cons_zero]
                      apply wpK_val
                      · rfl
                      · intro w' hw'
                        go_simp
                        first | exact rfl | exact ⟨rfl, hw'⟩
                      simp only [Act.put, List.setIfInBounds_toArray, List.set_cons_succ, List.set_cons_zero]
                      apply wpK_val
                      · rfl
                      · intro w' hw'
                        go_simp
                        first | exact rfl | exact ⟨rfl, hw'⟩
                      simp only [Act.put, List.setIfInBounds_toArray, List.set_cons_succ, List.set_cons_zero]
                      apply wpK_val
                      · rfl
                      · intro w' hw'
                        go_simp
                        first | exact rfl | exact ⟨rfl, hw'⟩
                      simp only [Act.put, List.setIfInBounds_toArray, List.set_cons_succ, List.set_cons_zero]
                      apply wpK_val
                      · rfl
                      · intro w' hw'
                        go_simp
                        first | exact rfl | exact ⟨rfl, hw'⟩
                      simp only [Act.put, List.setIfInBounds_toArray, List.set_cons_succ, List.set_cons_zero]
                      apply kldA tSe
                      · rfl
                      · rfl
                      · exact fun w' hw' => fun x u hu => (hw'.cell (p := ⟨b, o + q * 68 + 2 + x, none⟩) hbl).trans (hs.out x u hu)
                      simp only [Act.put, List.setIfInBounds_toArray, List.set_cons_succ, List.set_cons_zero]
                      apply kldA tSe
                      · rfl
                      · rfl
                      · exact fun w' hw' => (t4.out.below hw' t4.out.lt).head
                      simp only [Act.put, List.setIfInBounds_toArray, List.set_cons_succ, List.set_cons_zero]
                      apply keqU (eqA 64 a.s Tt) uSe eqg_se
                      · rfl
                      · rfl
                      · rfl
                      · exact rfl
                      simp only [Act.put, List.setIfInBounds_toArray, List.set_cons_succ, List.set_cons_zero]
                      apply wpK_val
                      · rfl
                      · intro w' hw'
                        go_simp
                        first | exact rfl | exact ⟨rfl, hw'⟩
                      simp only [Act.put, List.setIfInBounds_toArray, List.set_cons_succ, List.set_cons_zero]
                      apply wpK_val
                      · rfl
                      · intro w' hw'
                        go_simp
                        first | exact rfl | exact ⟨rfl, hw'⟩
                      simp only [Act.put, List.setIfInBounds_toArray, List.set_cons_succ, List.set_cons_zero]
                      apply wpK_nil
                      intro wG hG
                      have FG := hid (F4.out.below hC hG)
                      have PG := hid (P4.out.below hC hG)
                      have xg := hid (x4.out.below hG x4.out.lt)
                      have tg := hid (t4.out.below hG t4.out.lt)
                      have og := hid (o4.out.below hG o4.out.lt)
                      clear F4 P4 x4 t4 o4 hG hs HCC
                      go_wp2_with fail
                      go_roundw
                      case rel => exact ⟨q + 1, by omega, by go_num, by rw [hm.out, HPL.out]; rfl, FG, PG, xg, tg, og⟩
                      case measure => simp [intOf]; omega
                    · have te : (plc a.i == (p : Int)) = false := by simp [hpl]
                      have HPL := hid (show decide (plc a.i = (p : Int)) = false from decide_eq_false hpl)
                      clear hpl
                      apply wpK_val
                      · rfl
                      · intro w' hw'
                        go_simp
                        first | exact rfl | exact ⟨rfl, hw'⟩
                      simp only [Act.put, List.setIfInBounds_toArray, List.set_cons_succ, List.set_cons_zero]
                      apply wpK_val
                      · rfl
                      · intro w' hw'
                        go_simp
                        first | exact rfl | exact ⟨rfl, hw'⟩
                      simp only [Act.put, List.setIfInBounds_toArray, List.set_cons_succ, List.set_cons_zero]
                      apply wpK_val
                      · rfl
                      · intro w' hw'
                        go_simp
                        first | exact rfl | exact ⟨rfl, hw'⟩
                      simp only [Act.put, List.setIfInBounds_toArray, List.set_cons_succ, List.set_cons_zero]
                      apply wpK_val
                      · rfl
                      · intro w' hw'
                        go_simp
                        first | exact rfl | exact ⟨rfl, hw'⟩
                      simp only [Act.put, List.setIfInBounds_toArray, List.set_cons_succ, List.set_cons_zero]
                      apply wpK_val
                      · rfl
                      · intro w' hw'
                        go_simp
                        first | exact rfl | exact ⟨rfl, hw'⟩
                      simp only [Act.put, List.setIfInBounds_toArray, List.set_cons_succ, List.set_cons_zero]
                      apply wpK_val
                      · rfl
                      · intro w' hw'
                        go_simp
                        first | exact rfl | exact ⟨rfl, hw'⟩
                      simp only [Act.put, List.setIfInBounds_toArray, List.set_cons_succ, List.set_cons_zero]
                      apply wpK_val
                      · rfl
                      · intro w' hw'
                        have hcell := (hw'.cell (p := ⟨b, o + q * 68 + 1, none⟩) hbl).trans HCC.out
                        go_simp
                        first | exact rfl | exact ⟨rfl, hw'⟩
                      simp only [Act.put, List.setIfInBounds_toArray, List.set_cons_succ, List.set_cons_zero]
                      apply wpK_val
                      · rfl
                      · intro w' hw'
                        go_simp
                        first | exact rfl | exact ⟨rfl, hw'⟩
                      simp only [Act.put, List.setIfInBounds_toArray, List.set_cons_succ, List.set_cons_zero]
                      apply wpK_val
                      · rfl
                      · intro w' hw'
                        have tq : IntKind.i64.wrap (a.i.tmod 6 + 6) = a.i.tmod 6 + 6 := IntWalk.i64_in _ (by have := mod6 a.i; omega)
                        go_simp
                        first | exact rfl | exact ⟨rfl, hw'⟩
                      simp only [Act.put, List.setIfInBounds_toArray, List.set_cons_succ, List.set_cons_zero]
                      apply wpK_val
                      · rfl
                      · intro w' hw'
                        have eP : (a.i.tmod 6 + 6).tmod 6 = plc a.i := rfl
                        go_simp
                        first | exact rfl | exact ⟨rfl, hw'⟩
                      simp only [Act.put, List.setIfInBounds_toArray, List.set_cons_succ, List.set_cons_zero]
                      apply wpK_val
                      · rfl
                      · intro w' hw'
                        go_simp
                        first | exact rfl | exact ⟨rfl, hw'⟩
                      simp only [Act.put, List.setIfInBounds_toArray, List.set_cons_succ, List.set_cons_zero]
                      apply wpK_val
                      · rfl
                      · intro w' hw'
                        go_simp
                        first | exact rfl | exact ⟨rfl, hw'⟩
                      simp only [Act.put, List.setIfInBounds_toArray, List.set_cons_succ, List.set_cons_zero]
                      apply wpK_val
                      · rfl
                      · intro w' hw'
                        go_simp
                        first | exact rfl | exact ⟨rfl, hw'⟩
                      simp only [Act.put, List.setIfInBounds_toArray, List.set_cons_succ, List.set_cons_zero]
                      apply wpK_not
                      · rfl
                      simp only [Act.put, List.setIfInBounds_toArray, List.set_cons_succ, List.set_cons_zero]
                      apply wpK_not
                      · rfl
                      simp only [Act.put, List.setIfInBounds_toArray, List.set_cons_succ, List.set_cons_zero]
                      apply wpK_not
                      · rfl
                      simp only [Act.put, List.setIfInBounds_toArray, List.set_cons_succ, List.set_cons_zero]
                      apply wpK_not
                      · rfl
                      simp only [Act.put, List.setIfInBounds_toArray, List.set_cons_succ, List.set_cons_zero]
                      apply wpK_not
                      · rfl
                      simp only [Act.put, List.setIfInBounds_toArray, List.set_cons_succ, List.set_cons_zero]
                      apply wpK_not
                      · rfl
                      simp only [Act.put, List.setIfInBounds_toArray, List.set_cons_succ, List.set_cons_zero]
                      apply wpK_not
                      · rfl
                      simp only [Act.put, List.setIfInBounds_toArray, List.set_cons_succ, List.set_cons_zero]
                      apply wpK_val
                      · rfl
                      · intro w' hw'
                        go_simp
                        first | exact rfl | exact ⟨rfl, hw'⟩
                      simp only [Act.put, List.setIfInBounds_toArray, List.set_cons_succ, List.set_cons_zero]
                      apply wpK_val
                      · rfl
                      · intro w' hw'
                        go_simp
                        first | exact rfl | exact ⟨rfl, hw'⟩
                      simp only [Act.put, List.setIfInBounds_toArray, List.set_cons_succ, List.set_cons_zero]
                      apply wpK_nil
                      intro wG hG
                      have FG := hid (F4.out.below hC hG)
                      have PG := hid (P4.out.below hC hG)
                      have xg := hid (x4.out.below hG x4.out.lt)
                      have tg := hid (t4.out.below hG t4.out.lt)
                      have og := hid (o4.out.below hG o4.out.lt)
                      clear F4 P4 x4 t4 o4 hG hs HCC
                      go_wp2_with fail
                      go_roundw
                      case rel => exact ⟨q + 1, by omega, by go_num, by rw [hm.out, HPL.out]; rfl, FG, PG, xg, tg, og⟩
                      case measure => simp [intOf]; omega
                · have tj : decide ((q : Int) < j) = false := by simp; omega
                  have td : decide (q < j) = false := by simp; omega
                  have tk : ¬ q < j := hlt5
                  obtain rfl : q = j := by omega
                  have hm : mayL Tt O p (l2.take q) = true := by rw [List.take_of_length_le (by rw [H2.out.sli.len]; exact Nat.le_refl _)]; exact x6.out
                  rw [hm]
                  clear hm hq
                  go_wp2_with ((with_reducible apply ldA tSe); rfl; exact x4.out)
                  refine (reads_any hC c2 _ N3 K3 sX p X (by omega) wr F4.out.d.prog F4.out.d.ok).mono ?_
                  rintro e wG ⟨rfl, hG⟩
                  rw [x5.out]
                  have FG := hid (F4.out.below hC hG)
                  have PG := hid (P4.out.below hC hG)
                  clear F4 P4 x4 t4 o4 hG x5 x6 tj td tk
                  go_wp2_with fail
                  go_roundw
                  case rel => exact ⟨p + 1, by omega, by go_num, FG, PG⟩
                  case measure => simp [intOf]; omega
            · have f4 := hid (show sD.hurt = false ∧ sD.log.length = 0 from ⟨kD.out.2.2.1, by rw [kD.out.2.2.2]; rfl⟩)
              go_wp2_with fail
              refine (hC.unflushed F0.out.t.a.prog).mono ?_
              rintro e wE ⟨rfl, hE⟩
              rw [f4.out.2]
              have FE := hid (F0.out.below hC hE)
              clear F0 P0 hE
              go_wp2_with fail
              refine (hC.touched FE.out.t.a.prog).mono ?_
              rintro e wG ⟨rfl, hG⟩
              rw [f4.out.1]
              have FG := hid (FE.out.below hC hG)
              clear FE hG
              go_wp2_with fail
              refine (awake_any hC wG).mono ?_
              rintro e w6 ⟨rfl, h6⟩
              have hb := FG.out.t.bel.trans (h6.mono FG.out.t.bel.size)
              go_wp2_with fail
              refine bodyPost_ret (results_tmp (t := 6) rfl _ _ _) rfl ?_
              exact ⟨rfl, hb⟩
end MbP
end Go.Proofs.Yteglhalninlapaa
