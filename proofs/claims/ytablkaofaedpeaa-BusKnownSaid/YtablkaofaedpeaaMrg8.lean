/-
  A bus in plain words: what an act leaves of steps, log and power; without steps; while the power is gone.
  The law BusOff: from a crash on, till the power is there again, each I/O is ErrOff, and changes nothing.
  What comes in, number by number.
  What comes in: rows of n bytes by value.
  Slices of bytes that come in.
  Slices of slices of bytes that come in.
  Slices of structs of k cells that come in.
  What comes in to the laws of chapter 13: rows of acts; bytes.
  The log of a bus, done again on other members, in plain words; members of the program's, alone.
  The law BusReplay: the writes and flushes of the log that are OK, done again on new members, make them the same.
  The landed bus: all of its contracts.
  The landed bus: Cell and Advance of what New did not make; what New refuses.
-/
import Derived.Test.YtablkaofaedpeaaMrg7
import Derived.Deep.Slices
import Derived.OpenShut
import Derived.ChangeMaps5
import Derived.ChangeSlices
import Derived.Deep.Strs
set_option linter.unusedVariables false
set_option linter.unusedSimpArgs false
set_option maxRecDepth 100000
namespace Go.Proofs.Ytablkaofaedpeaa
namespace BuP
open BuM MbM
theorem hands_none (now : Nat) : ∀ (l : List Stp) (x : List St × Bool), (∀ s ∈ l, s.a ≠ (now : Int)) → hands now l x = x
  | [], _, _ => rfl
  | s :: l, x, h => by
    rw [hands_cons, show hand now s x = x from if_neg (h s (List.mem_cons_self ..))]
    exact hands_none now l x fun t ht => h t (List.mem_cons_of_mem _ ht)
theorem ahead_none {b : Bs} (h : ∀ s ∈ b.steps, s.a ≠ (b.log.length : Int)) : BuM.ahead b = b := by
  unfold BuM.ahead
  rw [hands_none _ _ _ h]
theorem wrM_same (b : Bs) (m i : Int) (x : Nat → Nat) : (BuM.wrM b m i x).steps = b.steps ∧ (BuM.wrM b m i x).log = b.log ∧ (BuM.wrM b m i x).off = b.off ∧ (BuM.wrM b m i x).ms.length = b.ms.length ∧ (BuM.wrM b m i x).c = b.c := by
  unfold BuM.wrM BuM.upd
  split
  · exact ⟨rfl, rfl, rfl, List.length_set, rfl⟩
  · exact ⟨rfl, rfl, rfl, rfl, rfl⟩
theorem flM_same (b : Bs) (m : Int) : (BuM.flM b m).steps = b.steps ∧ (BuM.flM b m).log = b.log ∧ (BuM.flM b m).off = b.off ∧ (BuM.flM b m).ms.length = b.ms.length ∧ (BuM.flM b m).c = b.c := by
  unfold BuM.flM BuM.upd
  split
  · exact ⟨rfl, rfl, rfl, List.length_set, rfl⟩
  · exact ⟨rfl, rfl, rfl, rfl, rfl⟩
theorem adM_same (b : Bs) (t : Nat → Nat) : (BuM.adM b t).steps = b.steps ∧ (BuM.adM b t).log = b.log ∧ (BuM.adM b t).off = b.off ∧ (BuM.adM b t).ms = b.ms := by
  unfold BuM.adM
  split
  · exact ⟨rfl, rfl, rfl, rfl⟩
  · split <;> exact ⟨rfl, rfl, rfl, rfl⟩
theorem put_same (b : Bs) (x : BuM.Ent) : (BuM.put b x).steps = b.steps ∧ (BuM.put b x).log.length = b.log.length + 1 ∧ (BuM.put b x).off = b.off ∧ (BuM.put b x).ms = b.ms := ⟨rfl, by show (b.log ++ [x]).length = _; rw [List.length_append]; rfl, rfl, rfl⟩
theorem ahead_same (b : Bs) : (BuM.ahead b).steps = b.steps ∧ (BuM.ahead b).log = b.log ∧ (BuM.ahead b).ms.length = b.ms.length ∧ (BuM.ahead b).c = b.c := ⟨rfl, rfl, hands_len _ _ _, rfl⟩
/-- What each I/O leaves. -/
structure Kept (b b' : Bs) : Prop where
  steps : b'.steps = b.steps
  log : b'.log.length = b.log.length + 1
  off : b'.off = (BuM.ahead b).off
  ms : b'.ms.length = b.ms.length
theorem rdT_kept (b : Bs) (m i : Int) : Kept b (BuM.rdT b m i) := ⟨rfl, (put_same _ _).2.1, rfl, (ahead_same b).2.2.1⟩
theorem wrT_kept (b : Bs) (m i : Int) (x : Nat → Nat) : Kept b (BuM.wrT b m i x) := by
  have h := wrM_same (BuM.ahead b) m i x
  exact ⟨h.1, by rw [show BuM.wrT b m i x = BuM.put (BuM.wrM (BuM.ahead b) m i x) (BuM.wrB (BuM.ahead b) m i x) from rfl, (put_same _ _).2.1, h.2.1]; rfl, h.2.2.1, h.2.2.2.1.trans (ahead_same b).2.2.1⟩
theorem flT_kept (b : Bs) (m : Int) : Kept b (BuM.flT b m) := by
  have h := flM_same (BuM.ahead b) m
  exact ⟨h.1, by rw [show BuM.flT b m = BuM.put (BuM.flM (BuM.ahead b) m) (BuM.flB (BuM.ahead b) m) from rfl, (put_same _ _).2.1, h.2.1]; rfl, h.2.2.1, h.2.2.2.1.trans (ahead_same b).2.2.1⟩
theorem ceT_kept (b : Bs) : Kept b (BuM.ceT b) := ⟨rfl, (put_same _ _).2.1, rfl, (ahead_same b).2.2.1⟩
theorem adT_kept (b : Bs) (t : Nat → Nat) : Kept b (BuM.adT b t) := by
  have h := adM_same (BuM.ahead b) t
  exact ⟨h.1, by rw [show BuM.adT b t = BuM.put (BuM.adM (BuM.ahead b) t) (BuM.adB (BuM.ahead b) t) from rfl, (put_same _ _).2.1, h.2.1]; rfl, h.2.2.1, (congrArg List.length h.2.2.2).trans (ahead_same b).2.2.1⟩
theorem ov_kept (b : Bs) (a : ActB) (K : Nat) (hK : K ≠ 6) : Kept b (ovB b a K) := by
  unfold ovB
  split
  · exact wrT_kept _ _ _ _
  · exact wrT_kept _ _ _ _
  · exact flT_kept _ _
  · exact ceT_kept _
  · exact adT_kept _ _
  · exact absurd rfl hK
  · exact rdT_kept _ _ _
/-- While the power is gone. -/
theorem ov_off {b : Bs} (ho : (BuM.ahead b).off = true) (a : ActB) (K : Nat) (hK : K ≠ 6) : ovE b a K = 13 ∧ (ovB b a K).ms = (BuM.ahead b).ms ∧ (ovB b a K).off = true := by
  have hm : ∀ m, BuM.may (BuM.ahead b) m = 13 := fun m => by unfold BuM.may; rw [ho, if_pos rfl]
  have hn : ∀ m, ¬ BuM.may (BuM.ahead b) m = 0 := fun m => by rw [hm]; omega
  unfold ovE ovB
  split
  · refine ⟨?_, ?_, ?_⟩
    · unfold BuM.wrB; rw [if_neg (hn _)]; exact hm _
    · show (BuM.wrM (BuM.ahead b) a.m a.i a.s).ms = _; unfold BuM.wrM; rw [if_neg (hn _)]
    · show (BuM.wrM (BuM.ahead b) a.m a.i a.s).off = _; unfold BuM.wrM; rw [if_neg (hn _)]; exact ho
  · refine ⟨?_, ?_, ?_⟩
    · unfold BuM.wrB; rw [if_neg (hn _)]; exact hm _
    · show (BuM.wrM (BuM.ahead b) a.m a.i a.s).ms = _; unfold BuM.wrM; rw [if_neg (hn _)]
    · show (BuM.wrM (BuM.ahead b) a.m a.i a.s).off = _; unfold BuM.wrM; rw [if_neg (hn _)]; exact ho
  · refine ⟨?_, ?_, ?_⟩
    · unfold BuM.flB; rw [if_neg (hn _)]; exact hm _
    · show (BuM.flM (BuM.ahead b) a.m).ms = _; unfold BuM.flM; rw [if_neg (hn _)]
    · show (BuM.flM (BuM.ahead b) a.m).off = _; unfold BuM.flM; rw [if_neg (hn _)]; exact ho
  · refine ⟨?_, rfl, ho⟩
    unfold BuM.ceB; rw [if_pos ho]
  · refine ⟨?_, ?_, ?_⟩
    · show BuM.adE (BuM.ahead b) = 13; unfold BuM.adE; rw [if_pos ho]
    · show (BuM.adM (BuM.ahead b) a.t).ms = _; unfold BuM.adM; rw [if_pos ho]
    · show (BuM.adM (BuM.ahead b) a.t).off = _; unfold BuM.adM; rw [if_pos ho]; exact ho
  · exact absurd rfl hK
  · refine ⟨?_, rfl, ho⟩
    unfold BuM.rdB; rw [if_neg (hn _)]; exact hm _
/-- The acts that count as I/Os. -/
def ios (l : List ActB) : Nat := l.countP fun a => decide (kind7 a.d ≠ 6)
theorem ios_step {l : List ActB} {j : Nat} {a : ActB} (h : l[j]? = some a) : ios (l.take (j + 1)) = ios (l.take j) + if kind7 a.d = 6 then 0 else 1 := by
  unfold ios
  rw [List.take_add_one, h, Option.toList_some, List.countP_append, List.countP_cons, List.countP_nil]
  by_cases e : kind7 a.d = 6
  · simp [e]
  · simp [e]
theorem ios_le (l : List ActB) (j : Nat) : ios (l.take j) ≤ ios l := (List.take_sublist j l).countP_le
theorem ios_len (l : List ActB) : ios l ≤ l.length := List.countP_le_length
theorem crash_len (p : List Nat) : ∀ (l : List St) (i : Nat) (st : St), l[i]? = some st → ∃ q, (crashAll l p)[i]? = some (crash st q)
  | [], _, _, h => by simp at h
  | x :: l, 0, st, h => by
    simp only [List.getElem?_cons_zero, Option.some.injEq] at h
    subst h
    exact ⟨_, rfl⟩
  | x :: l, i + 1, st, h => by
    rw [List.getElem?_cons_succ] at h
    rw [crashAll, List.getElem?_cons_succ]
    exact crash_len (p.drop x.log.length) l i st h
end BuP
end Go.Proofs.Ytablkaofaedpeaa
set_option maxRecDepth 100000
namespace Go.Proofs.Ytablkaofaedpeaa
open Go.ChangeShapes Go.WideShapes Go.ChangeAt Go.RowKit
attribute [local go_sem] Gives GivesE
namespace BuP
open BuM MbM MbP
theorem tAb (a : ActB) : RowT 70 (abL a).toArray.size := by
  rw [List.size_toArray, abL_len]
  exact ⟨by kernel_rfl, _, Try.underlying70, rfl⟩
section
variable {ops : Array Oper} {Q : Exit → Act → World → Prop} {a : Act} {w : World} {rest : List Oper} {dst : Option Tmp} {ty T : TypeId} {pos : String} {after : Array Edge} {x : Operand} {g o : Nat} {cs : Array Value} {gd : Option (Nat × Bool)}
/-- A row loaded, behind a guard. -/
theorem ldRg (hT : RowT T cs.size) (hw : Region.wanted ⟨dst, .load T x, ty, pos, after, gd⟩ (yielded ops a.tmps) = true) (hx : a.eval x = .pointer (some ⟨g, o, none⟩)) (hb : w.rangeAt g o cs.toList) (h : wpList Try.prog ops Q rest (a.put dst (.agg cs)) w) :
    wpList Try.prog ops Q (⟨dst, .load T x, ty, pos, after, gd⟩ :: rest) a w := by
  have hg : Gives Try.prog ⟨dst, .load T x, ty, pos, after, gd⟩ a w (.agg cs) fun w' => w' = w := gives_value (w' := w) (by simp only [execOp, hx, Sem.run_bind, run_ldR hT hb, Result.andThen_ok, Sem.run_pure]) rfl
  rw [wpList, if_pos hw]
  exact .inl (wp_of_gives hg fun w' e => by subst e; exact h)
end
/-- The crash. -/
def crSt (n : Nat) (picks : List Nat) : Stp := ⟨n, 6, 0, 0, 0, fun _ => 0, picks⟩
theorem built_cr (n : Int) (P : Option Addr) (picks : List Nat) (pc : Nat) : Try.prog.built 67 [(0, .int .i64 n), (1, .int .i64 6), (6, .slice P picks.length pc)] = some (stL (⟨n, 6, 0, 0, 0, fun _ => 0, picks⟩, ⟨P, pc⟩)).toArray := by kernel_rfl
section
variable {ops : Array Oper} {Q : Exit → Act → World → Prop} {a : Act} {w : World} {rest : List Oper} {dst : Option Tmp} {ty : TypeId} {pos : String} {after : Array Edge} {x y : Operand} {n : Int} {P : Option Addr} {picks : List Nat} {pc : Nat}
theorem wblCr (hx : a.eval x = .int .i64 n) (hy : a.eval y = .slice P picks.length pc) (hk : wpList Try.prog ops Q rest (a.put dst (.agg (stL (⟨n, 6, 0, 0, 0, fun _ => 0, picks⟩, ⟨P, pc⟩)).toArray)) w) : wpList Try.prog ops Q (⟨dst, .build 67 #[(0, x), (1, .const (.int .i64 6)), (6, y)], ty, pos, after, none⟩ :: rest) a w := by
  have hr : (Instr.build 67 #[(0, .int .i64 n), (1, .int .i64 6), (6, .slice P picks.length pc)]).run Try.prog w = .ok (.agg (stL (⟨n, 6, 0, 0, 0, fun _ => 0, picks⟩, ⟨P, pc⟩)).toArray) w := run_build w _ _ _ (built_cr n P picks pc)
  have hm : (#[(0, x), (1, .const (.int .i64 6)), (6, y)] : Array (Nat × Operand)).map (fun (i, x) => (i, a.eval x)) = #[(0, .int .i64 n), (1, .int .i64 6), (6, .slice P picks.length pc)] := by
    simp only [List.map_toArray, List.map_cons, List.map_nil, hx, hy]; rfl
  refine wpList_plain rfl fun K hK => ?_
  unfold Oper.wp execOp
  simp only [Sem.run_bind, hm, hr, Result.andThen_ok, Sem.run_pure]
  exact hK _ _ hk
end
theorem cr_ahead {b : Bs} {n : Nat} {picks : List Nat} (h1 : b.steps = [crSt n picks]) (h2 : b.log.length = n) : BuM.ahead b = { b with ms := crashAll b.ms picks, off := true } := by
  unfold BuM.ahead
  rw [h1, h2, hands_cons]
  have : hand n (crSt n picks) (b.ms, b.off) = (crashAll b.ms picks, true) := by
    unfold hand
    rw [if_pos (show (crSt n picks).a = (n : Int) from rfl), if_pos (show (crSt n picks).kind = 6 from rfl)]; rfl
  rw [this]
  rfl
/-- A bus of two members, behind some acts. -/
structure Alone (repB : RepB) (W w : World) (g m1 m2 : Nat) (F : Fq) (k : Nat) (b : Bs) : Prop where
  pp : Pp repB w g F k b
  gs : F.gs = [m1, m2]
  low : ∀ q, mutP F q → W.heap.size ≤ q
  bel : Below W.heap.size W w
section
variable {repB : RepB} {W w w' : World} {g m1 m2 k k' : Nat} {F : Fq} {b b' : Bs}
theorem Alone.below (hC : BusC repB) (H : Alone repB W w g m1 m2 F k b) (hb : Below w.heap.size w w') : Alone repB W w' g m1 m2 F k b :=
  ⟨H.pp.below hC hb, H.gs, H.low, H.bel.trans (hb.mono H.bel.size)⟩
theorem Alone.out (H : Alone repB W w g m1 m2 F k b) (ho : outS repB w g F k' b' w') : ∃ F', Alone repB W w' g m1 m2 F' k' b' ∧ (∀ q, mutP F' q → mutP F q ∨ w.heap.size ≤ q) ∧ (∀ q, rdP F' q → mutP F q ∨ rdP F q ∨ w.heap.size ≤ q) ∧ Turn (mutP F) w w' := by
  obtain ⟨F', h1, h2, h4, h5, h6⟩ := ho
  exact ⟨F', ⟨h1, h2.trans H.gs, fun q e => (h4 q e).elim (H.low q) fun x => Nat.le_trans H.bel.size x, H.bel.trans (h6.below H.bel.size H.low)⟩, h4, h5, h6⟩
theorem outS.ofQ (h : outQ repB w g F k b w') : outS repB w g F k b w' := outS.of (Below.refl _ _) h
end
set_option maxHeartbeats 8000000 in
set_option maxRecDepth 100000 in
theorem off_law {repB : RepB} (hC : BusC repB) {W : World} {A1 A2 P : Option Addr} {la1 la2 : List ActB} {n1 c1 n2 c2 pc : Nat} {picks : List Nat} (h1 : Sli 99 abL (fun b => b < W.heap.size) W A1 la1 n1 c1) (h2 : Sli 99 abL (fun b => b < W.heap.size) W A2 la2 n2 c2) (hp : Arg W P picks picks.length pc)
    (b1 : ∀ a ∈ la1, ∀ j, a.s j < 256) (b2 : ∀ a ∈ la2, ∀ j, a.s j < 256) : Calls Try.prog 5 #[.slice A1 n1 c1, .slice A2 n2 c2, .slice P picks.length pc] W fun e w' => e = .returned (.bool true) ∧ Below W.heap.size W w' := by
  have L1 := hid h1
  have L2 := hid h2
  have LP := hid hp
  have K1 := hid b1
  have K2 := hid b2
  have hl1 := h1.len
  have hl2 := h2.len
  obtain ⟨pn, hpn⟩ : ∃ z, z = picks.length := ⟨_, rfl⟩
  have HPN := hid hpn
  rw [← hpn]
  clear h1 h2 hp b1 b2 hpn
  go_enter Try.func5, Try.ntmps5
  by_cases hbig : 30 < n1 ∨ 30 < n2 ∨ 200 < pn
  · have END : ∀ w, Calls Try.prog 10 #[] w fun e w' => e = .returned (.bool true) ∧ Below w.heap.size w w' := awake_any hC
    by_cases x1 : 30 < n1
    · have t1 : decide (30 < n1) = true := by simp; omega
      clear hbig
      go_wp2_with fail
      refine (END W).mono ?_
      rintro e w2 ⟨rfl, h2⟩
      go_wp2_with fail
      go_ret
      exact ⟨rfl, h2⟩
    · have t1 : decide (30 < n1) = false := by simp; omega
      by_cases x2 : 30 < n2
      · have t2 : decide (30 < n2) = true := by simp; omega
        clear hbig
        go_wp2_with fail
        refine (END W).mono ?_
        rintro e w2 ⟨rfl, h2⟩
        go_wp2_with fail
        go_ret
        exact ⟨rfl, h2⟩
      · have t2 : decide (30 < n2) = false := by simp; omega
        have t3 : decide (200 < pn) = true := by simp; omega
        have t3' : 200 < pn := by omega
        clear hbig
        go_wp2_with fail
        refine (END W).mono ?_
        rintro e w2 ⟨rfl, h2⟩
        go_wp2_with fail
        go_ret
        exact ⟨rfl, h2⟩
  · have t1 : decide (30 < n1) = false := by simp; omega
    have t2 : decide (30 < n2) = false := by simp; omega
    have t3 : decide (200 < pn) = false := by simp; omega
    have u1 : n1 ≤ 30 := by omega
    have u2 : n2 ≤ 30 := by omega
    have u3 : pn ≤ 200 := by omega
    clear hbig
    go_wp2_with fail
    clear t1 t2 t3
    go_loopw [7, 8] (fun u7 u8 wr => ∃ i : Nat, u7 = .int .i64 (ios (la1.take i) : Nat) ∧ u8 = .int .i64 i ∧ i ≤ n1 ∧ Hid (Below W.heap.size W wr)) (fun _ u8 _ => n1 - (intOf u8).toNat)
    case atStart => exact ⟨0, rfl, rfl, Nat.zero_le _, hid (Below.refl _ _)⟩
    case round =>
      obtain ⟨i, rfl, rfl, hi, HW⟩ := hrel
      by_cases hin : i < n1
      · have t1 : (i : Int) < (n1 : Int) := by omega
        obtain ⟨a, ha⟩ : ∃ a, la1[i]? = some a := ⟨_, List.getElem?_eq_getElem (by omega)⟩
        obtain ⟨bA, oA, rfl, hbS, hbl, hr⟩ := L1.out.some ha
        have q0 : wr.cell? ⟨bA, oA + i * 99, none⟩ = some (.int .i64 a.d) := (HW.out.cell (p := ⟨bA, oA + i * 99, none⟩) hbl).trans (ab_d hr)
        have kb := kind7_bits a.d
        have kl := kind7_le a.d
        obtain ⟨kd, hkd⟩ : ∃ z, z = kind7 a.d := ⟨_, rfl⟩
        rw [← hkd] at kb kl
        have hst := ios_step ha
        rw [← hkd] at hst
        have hio : ios (la1.take i) ≤ 30 := by have h1 := ios_le la1 i; have h2 := ios_len la1; omega
        have HIO := hid hst
        clear hr hkd hst
        by_cases h6 : kd = 6
        · subst h6
          have hn := HIO.out
          rw [if_pos rfl, Nat.add_zero] at hn
          have HN := hid hn
          clear hn
          go_wp2_with fail
          go_roundw
          case rel => exact ⟨i + 1, by (rw [HN.out]; rfl), by go_num, by omega, HW⟩
          case measure => simp [intOf] <;> omega
        · have hn := HIO.out
          rw [if_neg h6] at hn
          have HN := hid hn
          have t6 : decide (kd = 6) = false := by simp; omega
          have t6' : ((kd : Int) == 6) = false := by simp; omega
          have t6'' : decide ((kd : Int) = 6) = false := by simp; omega
          clear hn
          go_wp2_with fail
          go_roundw
          case rel => exact ⟨i + 1, by rw [HN.out]; go_num, by go_num, by omega, HW⟩
          case measure => simp [intOf] <;> omega
      · have t1 : decide ((i : Int) < (n1 : Int)) = false := by simp; omega
        obtain rfl : n1 = i := by omega
        obtain ⟨nn, hnn⟩ : ∃ z, z = ios (la1.take n1) := ⟨_, rfl⟩
        rw [← hnn]
        have HNN := hid (show ios la1 = nn by rw [hnn, List.take_of_length_le (by omega)])
        have hnx : nn ≤ 30 := by have h1 := ios_len la1; rw [← HNN.out]; omega
        have HPN2 := hid (show Value.slice P pn pc = .slice P picks.length pc by rw [HPN.out])
        clear hnn
        rw [HPN2.out]
        go_wp2_with (first | ((with_reducible apply wblCr (n := (nn : Int)) (picks := picks)); rfl; rfl) | ((with_reducible apply wlit1 eltStP undStP (x := (crSt nn picks, (⟨P, pc⟩ : SlB)))); omega; rfl; rfl))
        have b2 : Below wr.heap.size wr (wr.alloc (.cells (stL (crSt nn picks, (⟨P, pc⟩ : SlB))).toArray 67)) := (Below.refl _ _).alloc (Nat.le_refl _) _
        have l2 := sli_lit1 (S := fun _ => True) eltStP (crSt nn picks, (⟨P, pc⟩ : SlB)) wr trivial
        generalize World.alloc wr _ = w2 at b2 l2 ⊢
        have HL2 := hid l2
        have B2 := hid (HW.out.trans (b2.mono HW.out.size))
        have sW := B2.out.size
        clear l2 b2 HW
        refine (two_any hC (steps := [crSt nn picks]) (sl := [⟨P, pc⟩]) (Sp := fun q => q < W.heap.size) HL2.out rfl (by omega) (fun s' y hy => ?_) (fun q e => Nat.lt_of_lt_of_le e sW)).mono ?_
        · have hy' : (s', y) = (crSt nn picks, (⟨P, pc⟩ : SlB)) := by simpa using hy
          cases hy'
          have hb := LP.out.b256
          refine ⟨LP.out.on B2.out, by show picks.length ≤ _; rw [← HPN.out]; omega, ⟨fun _ => by show 0 < 256; omega, fun p hp => hb p hp⟩, fun q o h0 he => ?_⟩
          obtain ⟨b, o', e', hl, _⟩ := LP.out.byt h0
          have he' : P = some ⟨q, o, none⟩ := he
          rw [he'] at e'
          cases e'
          exact hl
        rintro e w3 ⟨g, m1, m2, F, rfl, hP, hgs, hm, hr, h3⟩
        have AL := hid (show Alone repB W w3 g m1 m2 F 0 (two [crSt nn picks]) from ⟨hP, hgs, fun q e => Nat.le_trans sW (hm q e), B2.out.trans (h3.mono B2.out.size)⟩)
        clear hP hgs hm hr h3 HL2 B2 sW HPN2 t1
        unfold MbP.at'
        go_wp2_with fail
        go_loopw [12] (fun u wr => ∃ (i : Nat) (F' : Fq) (b : Bs), u = .int .i64 i ∧ i ≤ n1 ∧ Hid (Alone repB W wr g m1 m2 F' (3 * i) b) ∧ Hid (b.steps = [crSt nn picks] ∧ b.log.length = ios (la1.take i) ∧ b.off = false ∧ b.ms.length = 2)) (fun u _ => n1 - (intOf u).toNat)
        case atStart => exact ⟨0, F, _, rfl, Nat.zero_le _, AL, hid ⟨rfl, rfl, rfl, rfl⟩⟩
        case round =>
          clear AL
          obtain ⟨i, F', b, rfl, hi, HAL, HBB⟩ := hrel
          by_cases hin : i < n1
          · have t1 : (i : Int) < (n1 : Int) := by omega
            obtain ⟨a, ha⟩ : ∃ a, la1[i]? = some a := ⟨_, List.getElem?_eq_getElem (by omega)⟩
            obtain ⟨bA, oA, rfl, hbS, hbl, hr⟩ := L1.out.some ha
            have R1 := hid (show wr.rangeAt bA (oA + i * 99) (abL a).toArray.toList from fun j v hj => (HAL.out.bel.cell (p := ⟨bA, oA + i * 99 + j, none⟩) hbl).trans (hr j v (by simpa using hj)))
            have HST := hid (ios_step ha)
            have HIO := hid (ios_le la1 (i + 1))
            have HKA := hid (K1.out a (List.mem_of_getElem? ha))
            clear hr ha
            go_wp2_with ((with_reducible apply ldR (cs := (abL a).toArray) (tAb a)); rfl; exact R1.out)
            refine (over_any hC HAL.out.pp (by have := HBB.out.1; rw [this]; show 3 * i + 1 + 2 ≤ _; omega) a HKA.out).mono ?_
            rintro e w4 ⟨rfl, ho⟩
            have ho' : outS repB wr g F' (3 * (i + 1)) (ovB b a (kind7 a.d)) w4 := by
              have := ho
              rw [HBB.out.1] at this
              exact this
            obtain ⟨F2, al2, _, _, _⟩ := HAL.out.out ho'
            have AL2 := hid al2
            have BB2 := hid (show (ovB b a (kind7 a.d)).steps = [crSt nn picks] ∧ (ovB b a (kind7 a.d)).log.length = ios (la1.take (i + 1)) ∧ (ovB b a (kind7 a.d)).off = false ∧ (ovB b a (kind7 a.d)).ms.length = 2 by
              obtain ⟨e1, e2, e3, e4⟩ := HBB.out
              have hs := HST.out
              by_cases h6 : kind7 a.d = 6
              · rw [h6]
                rw [if_pos h6] at hs
                exact ⟨e1, by rw [hs]; exact e2, e3, e4⟩
              · rw [if_neg h6] at hs
                have hk := ov_kept b a _ h6
                have hn : BuM.ahead b = b := ahead_none fun s hs' => by
                  rw [e1] at hs'
                  have : s = crSt nn picks := by simpa using hs'
                  rw [this]
                  show (nn : Int) ≠ _
                  have h1 := HIO.out
                  have h2 := HNN.out
                  omega
                exact ⟨hk.steps.trans e1, by rw [hk.log, e2, hs], by rw [hk.off, hn]; exact e3, hk.ms.trans e4⟩)
            obtain ⟨b', hb'⟩ : ∃ z, z = ovB b a (kind7 a.d) := ⟨_, rfl⟩
            rw [← hb'] at AL2 BB2
            obtain ⟨ev, hev⟩ : ∃ z, z = ovE b a (kind7 a.d) := ⟨_, rfl⟩
            rw [← hev]
            clear ho ho' al2 hb' hev HAL HBB R1 HST HIO HKA
            go_wp2_with fail
            go_roundw
            case rel => exact ⟨i + 1, F2, b', by go_num, by omega, AL2, BB2⟩
            case measure => simp [intOf] <;> omega
          · have t1 : decide ((i : Int) < (n1 : Int)) = false := by simp; omega
            obtain rfl : n1 = i := by omega
            obtain ⟨e1, e2, e3, e4⟩ := HBB.out
            have hlg : b.log.length = nn := by rw [e2, List.take_of_length_le (by omega)]; exact HNN.out
            have hah := cr_ahead e1 hlg
            have HCE := hid (show (BuM.ceB (BuM.ahead b)).e = 13 by unfold BuM.ceB; rw [hah, if_pos rfl])
            have HCV := hid (show BuM.ceV (BuM.ahead b) = (0, ClP.zero) by unfold BuM.ceV; rw [hah, if_pos rfl])
            have hk := ceT_kept b
            have hms : (BuM.ceT b).ms = crashAll b.ms picks := by show (BuM.ahead b).ms = _; rw [hah]
            have hoff : (BuM.ceT b).off = true := by rw [hk.off, hah]
            obtain ⟨x1, hx1⟩ : ∃ x, b.ms[0]? = some x := ⟨_, List.getElem?_eq_getElem (by omega)⟩
            obtain ⟨x2, hx2⟩ : ∃ x, b.ms[1]? = some x := ⟨_, List.getElem?_eq_getElem (by omega)⟩
            obtain ⟨p1, hp1⟩ := crash_len picks b.ms 0 x1 hx1
            obtain ⟨p2, hp2⟩ := crash_len picks b.ms 1 x2 hx2
            obtain ⟨s1, hs1⟩ : ∃ z, z = crash x1 p1 := ⟨_, rfl⟩
            obtain ⟨s2, hs2⟩ : ∃ z, z = crash x2 p2 := ⟨_, rfl⟩
            have l1 : s1.log.length = 0 := by rw [hs1]; rfl
            have l2 : s2.log.length = 0 := by rw [hs2]; rfl
            rw [← hms, ← hs1] at hp1
            rw [← hms, ← hs2] at hp2
            obtain ⟨b1, hb1⟩ : ∃ z, z = BuM.ceT b := ⟨_, rfl⟩
            have HB1 := hid (show b1.steps = [crSt nn picks] ∧ b1.log.length = nn + 1 ∧ b1.off = true ∧ b1.ms[0]? = some s1 ∧ b1.ms[1]? = some s2 from by rw [hb1]; exact ⟨hk.steps.trans e1, by rw [hk.log, hlg], hoff, hp1, hp2⟩)
            have HE1 := hid hb1
            have HL12 := hid (And.intro l1 l2)
            have HS1 := hid e1
            clear e1 e2 e3 e4 hlg hah hk hms hoff hx1 hx2 hp1 hp2 hs1 hs2 l1 l2 hb1 HBB
            go_wp2_with fail
            refine (hC.cell HAL.out.pp (by rw [HS1.out]; show 3 * n1 + 1 + 2 ≤ _; omega)).mono ?_
            rintro e w4 ⟨rfl, ho⟩
            rw [HCE.out, HCV.out]
            have ho' : outS repB wr g F' (3 * n1 + 3) b1 w4 := by
              have := ho
              rw [HS1.out, ← HE1.out] at this
              exact outS.ofQ this
            obtain ⟨F2, al2, _, _, _⟩ := HAL.out.out ho'
            have AL2 := hid al2
            clear ho ho' al2 HAL HCE HCV HE1 HS1
            go_upto_region 17 with (first | (with_reducible apply alZ' ClP.zCe) | ((with_reducible apply stR (ClP.tCe (0, ClP.zero))); rfl; rfl; exact Blk.new _ _ _; exact ClP.ce_size _ _; exact ClP.ce_one _))
            generalize hw5 : World.setRow _ _ _ = w5
            have b5 : Below w4.heap.size w4 w5 := by rw [← hw5]; exact below_setRow ((Below.refl _ _).alloc (Nat.le_refl _) _) (Nat.le_refl _) _
            have C5 := hid (show Blk w5 w4.heap.size 43 (ClP.ceL (0, ClP.zero)).toArray by rw [← hw5]; exact (Blk.new w4 _ _).setRow_same _)
            have AL5 := hid (AL2.out.below hC b5)
            clear hw5 b5 AL2
            have RM1 := hid (AL5.out.pp.mem 0 m1 s1 (by rw [AL5.out.gs]; rfl) HB1.out.2.2.2.1)
            have RM2 := hid (AL5.out.pp.mem 1 m2 s2 (by rw [AL5.out.gs]; rfl) HB1.out.2.2.2.2)
            refine wp_region_fixed (C := fun w' => Below w5.heap.size w5 w') 20 (Below.refl _ _) ?_
            simp only [List.take_succ_cons, List.take_zero, List.drop_succ_cons, List.drop_zero]
            apply wpK_val
            · rfl
            · intro w' hw'
              go_simp
              first | exact rfl | exact ⟨rfl, hw'⟩
            simp only [Act.put, List.setIfInBounds_toArray, List.set_cons_succ, List.set_cons_zero]
            apply wpK_val
            · rfl
            · intro w' hw'
              go_simp
              first | exact rfl | exact ⟨rfl, hw'⟩
            simp only [Act.put, List.setIfInBounds_toArray, List.set_cons_succ, List.set_cons_zero]
            apply wpK_val
            · rfl
            · intro w' hw'
              go_simp
              first | exact rfl | exact ⟨rfl, hw'⟩
            simp only [Act.put, List.setIfInBounds_toArray, List.set_cons_succ, List.set_cons_zero]
            apply kldR (cs := (ClP.ceL (0, ClP.zero)).toArray) (ClP.tCe (0, ClP.zero))
            · rfl
            · rfl
            · exact fun w' hw' => (C5.out.below hw' C5.out.lt).whole
            simp only [Act.put, List.setIfInBounds_toArray, List.set_cons_succ, List.set_cons_zero]
            apply kbldZ (hb := ClP.run_ce0)
            · rfl
            simp only [Act.put, List.setIfInBounds_toArray, List.set_cons_succ, List.set_cons_zero]
            apply ClP.kneC (p := (0, ClP.zero)) (q := (0, ClP.zero)) false
            · rfl
            · rfl
            · rfl
            · rw [ClP.ceq_refl]; rfl
            simp only [Act.put, List.setIfInBounds_toArray, List.set_cons_succ, List.set_cons_zero]
            apply wpK_val
            · rfl
            · intro w' hw'
              go_simp
              first | exact rfl | exact ⟨rfl, hw'⟩
            simp only [Act.put, List.setIfInBounds_toArray, List.set_cons_succ, List.set_cons_zero]
            apply wpK_val
            · rfl
            · intro w' hw'
              go_simp
              first | exact rfl | exact ⟨rfl, hw'⟩
            simp only [Act.put, List.setIfInBounds_toArray, List.set_cons_succ, List.set_cons_zero]
            apply wpK_val
            · rfl
            · intro w' hw'
              go_simp
              first | exact rfl | exact ⟨rfl, hw'⟩
            simp only [Act.put, List.setIfInBounds_toArray, List.set_cons_succ, List.set_cons_zero]
            apply wpK_val
            · rfl
            · intro w' hw'
              go_simp
              exact ((hC.off (AL5.out.below hC hw').pp).mono fun e w6 ⟨h1, h5⟩ => ⟨by rw [HB1.out.2.2.1] at h1; exact h1, hw'.trans (h5.mono hw'.size)⟩)
            simp only [Act.put, List.setIfInBounds_toArray, List.set_cons_succ, List.set_cons_zero]
            apply wpK_val
            · rfl
            · intro w' hw'
              go_simp
              first | exact rfl | exact ⟨rfl, hw'⟩
            simp only [Act.put, List.setIfInBounds_toArray, List.set_cons_succ, List.set_cons_zero]
            apply wpK_val
            · rfl
            · intro w' hw'
              go_simp
              first | exact rfl | exact ⟨rfl, hw'⟩
            simp only [Act.put, List.setIfInBounds_toArray, List.set_cons_succ, List.set_cons_zero]
            apply wpK_val
            · rfl
            · intro w' hw'
              go_simp
              first | exact rfl | exact ⟨rfl, hw'⟩
            simp only [Act.put, List.setIfInBounds_toArray, List.set_cons_succ, List.set_cons_zero]
            apply wpK_val
            · rfl
            · intro w' hw'
              go_simp
              first | exact rfl | exact ⟨rfl, hw'⟩
            simp only [Act.put, List.setIfInBounds_toArray, List.set_cons_succ, List.set_cons_zero]
            apply wpK_val
            · rfl
            · intro w' hw'
              go_simp
              exact ((MbP.memD_ok.unflushed (MbP.memD_ok.frame RM1.out (Turn.of_new (S := fun _ => False) hw') fun _ _ e => e)).mono fun e w6 ⟨h1, h5⟩ => ⟨by rw [HL12.out.1] at h1; exact h1, hw'.trans (h5.mono hw'.size)⟩)
            simp only [Act.put, List.setIfInBounds_toArray, List.set_cons_succ, List.set_cons_zero]
            apply wpK_val
            · rfl
            · intro w' hw'
              go_simp
              first | exact rfl | exact ⟨rfl, hw'⟩
            simp only [Act.put, List.setIfInBounds_toArray, List.set_cons_succ, List.set_cons_zero]
            apply wpK_val
            · rfl
            · intro w' hw'
              go_simp
              exact ((MbP.memD_ok.unflushed (MbP.memD_ok.frame RM2.out (Turn.of_new (S := fun _ => False) hw') fun _ _ e => e)).mono fun e w6 ⟨h1, h5⟩ => ⟨by rw [HL12.out.2] at h1; exact h1, hw'.trans (h5.mono hw'.size)⟩)
            simp only [Act.put, List.setIfInBounds_toArray, List.set_cons_succ, List.set_cons_zero]
            apply wpK_val
            · rfl
            · intro w' hw'
              go_simp
              first | exact rfl | exact ⟨rfl, hw'⟩
            simp only [Act.put, List.setIfInBounds_toArray, List.set_cons_succ, List.set_cons_zero]
            apply wpK_val
            · rfl
            · intro w' hw'
              go_simp
              first | exact rfl | exact ⟨rfl, hw'⟩
            simp only [Act.put, List.setIfInBounds_toArray, List.set_cons_succ, List.set_cons_zero]
            apply wpK_val
            · rfl
            · intro w' hw'
              go_simp
              first | exact rfl | exact ⟨rfl, hw'⟩
            simp only [Act.put, List.setIfInBounds_toArray, List.set_cons_succ, List.set_cons_zero]
            intro w6 hC6
            rw [show IntKind.i64.wrap 0 = 0 from rfl]
            have AL6 := hid (AL5.out.below hC hC6)
            clear AL5 RM1 RM2 C5 hC6 HL12
            have RN1 := hid (AL6.out.pp.mem 0 m1 s1 (by rw [AL6.out.gs]; rfl) HB1.out.2.2.2.1)
            have OK1 := hid (AL6.out.pp.ok.1 s1 (List.mem_of_getElem? HB1.out.2.2.2.1))
            go_wp2_with fail
            refine (MbP.memD_ok.copy RN1.out OK1.out (by omega)).mono ?_
            rintro e w7 ⟨ga, Ma, Ia, rfl, ra, hma, hia, h7⟩
            have AL7 := hid (AL6.out.below hC h7)
            have RA := hid ra
            have NA := hid (show ∀ q, Ma q ∨ Ia q → ¬ mutP F2 q from fun q e e2 => by
              have hl := AL6.out.pp.mlt q e2
              rcases e with e | e
              · have := hma q e; omega
              · rcases hia q e with x | x
                · exact AL6.out.pp.sep q (.inr ⟨0, by rw [AL6.out.gs]; show 0 < 2; omega, x⟩) e2
                · omega)
            clear ra hma hia h7 AL6 RN1
            have RN2 := hid (AL7.out.pp.mem 1 m2 s2 (by rw [AL7.out.gs]; rfl) HB1.out.2.2.2.2)
            have OK2 := hid (AL7.out.pp.ok.1 s2 (List.mem_of_getElem? HB1.out.2.2.2.2))
            unfold MbP.at'
            go_wp2_with fail
            refine (MbP.memD_ok.copy RN2.out OK2.out (by omega)).mono ?_
            rintro e w8 ⟨gb, Mb, Ib, rfl, rb, hmb, hib, h8⟩
            have AL8 := hid (AL7.out.below hC h8)
            have RA8 := hid (MbP.memD_ok.frame RA.out (Turn.of_new (S := fun _ => False) h8) fun _ _ e => e)
            have RB := hid rb
            have NB := hid (show ∀ q, Mb q ∨ Ib q → ¬ mutP F2 q from fun q e e2 => by
              have hl := AL7.out.pp.mlt q e2
              rcases e with e | e
              · have := hmb q e; omega
              · rcases hib q e with x | x
                · exact AL7.out.pp.sep q (.inr ⟨1, by rw [AL7.out.gs]; show 1 < 2; omega, x⟩) e2
                · omega)
            clear rb hmb hib h8 AL7 RN2 RA
            unfold MbP.at'
            go_wp2_with fail
            have NAB := hid (show ∀ q, Ma q ∨ Ia q ∨ Mb q ∨ Ib q → ¬ mutP F2 q from fun q e => by
              rcases e with e | e | e | e
              · exact NA.out q (.inl e)
              · exact NA.out q (.inr e)
              · exact NB.out q (.inl e)
              · exact NB.out q (.inr e))
            have RAB := hid (And.intro RA8.out RB.out)
            have B10 := hid (show b1.steps = [crSt nn picks] ∧ nn < b1.log.length ∧ b1.off = true ∧ b1.ms[0]? = some s1 ∧ b1.ms[1]? = some s2 from ⟨HB1.out.1, by have := HB1.out.2.1; omega, HB1.out.2.2.1, HB1.out.2.2.2.1, HB1.out.2.2.2.2⟩)
            clear NA NB RA8 RB t1
            go_loopw [17] (fun u wr => ∃ (i : Nat) (F' : Fq) (b' : Bs), u = .int .i64 i ∧ i ≤ n2 ∧ Hid (Alone repB W wr g m1 m2 F' (3 * n1 + 3 + 3 * i) b') ∧ Hid (b'.steps = [crSt nn picks] ∧ nn < b'.log.length ∧ b'.off = true ∧ b'.ms[0]? = some s1 ∧ b'.ms[1]? = some s2) ∧
              Hid (RepM wr ga Ma Ia (3 * n1 + 3) s1 ∧ RepM wr gb Mb Ib (3 * n1 + 3) s2) ∧ Hid (∀ q, Ma q ∨ Ia q ∨ Mb q ∨ Ib q → ¬ mutP F' q)) (fun u _ => n2 - (intOf u).toNat)
            case atStart => exact ⟨0, F2, b1, rfl, Nat.zero_le _, AL8, B10, RAB, NAB⟩
            case round =>
              clear AL8 RAB NAB HB1
              obtain ⟨i, F3, b3, rfl, hi, HAL, HBB, HRR, HNN2⟩ := hrel
              by_cases hin : i < n2
              · have t1 : (i : Int) < (n2 : Int) := by omega
                obtain ⟨a, ha⟩ : ∃ a, la2[i]? = some a := ⟨_, List.getElem?_eq_getElem (by omega)⟩
                obtain ⟨bA, oA, rfl, hbS, hbl, hr⟩ := L2.out.some ha
                have R1 := hid (show wr.rangeAt bA (oA + i * 99) (abL a).toArray.toList from fun j v hj => (HAL.out.bel.cell (p := ⟨bA, oA + i * 99 + j, none⟩) hbl).trans (hr j v (by simpa using hj)))
                have q0 : wr.cell? ⟨bA, oA + i * 99, none⟩ = some (.int .i64 a.d) := (HAL.out.bel.cell (p := ⟨bA, oA + i * 99, none⟩) hbl).trans (ab_d hr)
                have HKA := hid (K2.out a (List.mem_of_getElem? ha))
                have kb := kind7_bits a.d
                have kl := kind7_le a.d
                obtain ⟨kd, hkd⟩ : ∃ z, z = kind7 a.d := ⟨_, rfl⟩
                have HKD := hid hkd
                rw [← hkd] at kb kl
                clear hr ha hkd
                by_cases h6 : kd = 6
                · subst h6
                  go_wp2_with fail
                  go_roundw
                  case rel => exact ⟨i + 1, F3, b3, by go_num, by omega, hid ⟨HAL.out.pp.mono (by omega), HAL.out.gs, HAL.out.low, HAL.out.bel⟩, HBB, HRR, HNN2⟩
                  case measure => simp [intOf] <;> omega
                · have t6 : decide (kd = 6) = false := by simp; omega
                  have t6' : ((kd : Int) == 6) = false := by simp; omega
                  have t6'' : decide ((kd : Int) = 6) = false := by simp; omega
                  have t7 : ((kd : Int) != 6) = true := by simp; omega
                  have hah : BuM.ahead b3 = b3 := ahead_none fun s hs' => by
                    rw [HBB.out.1] at hs'
                    have : s = crSt nn picks := by simpa using hs'
                    rw [this]
                    show (nn : Int) ≠ _
                    have := HBB.out.2.1
                    omega
                  have hof := ov_off (b := b3) (by rw [hah]; exact HBB.out.2.2.1) a kd h6
                  rw [hah] at hof
                  have HOF := hid hof
                  have HKP := hid (ov_kept b3 a kd h6)
                  clear hah hof
                  go_wp2_with ((with_reducible apply ldRg (cs := (abL a).toArray) (tAb a)); (first | rfl | (rw [t7]; rfl)); rfl; exact R1.out)
                  refine (over_any hC HAL.out.pp (by have := HBB.out.1; rw [this]; show 3 * n1 + 3 + 3 * i + 1 + 2 ≤ _; omega) a HKA.out).mono ?_
                  rintro e w9 ⟨rfl, ho⟩
                  rw [← HKD.out] at ho ⊢
                  rw [HOF.out.1]
                  have ho' : outS repB wr g F3 (3 * n1 + 3 + 3 * (i + 1)) (ovB b3 a kd) w9 := by
                    have := ho
                    rw [HBB.out.1] at this
                    exact this
                  obtain ⟨F4, al4, mm4, _, t4⟩ := HAL.out.out ho'
                  have AL4 := hid al4
                  have BB4 := hid (show (ovB b3 a kd).steps = [crSt nn picks] ∧ nn < (ovB b3 a kd).log.length ∧ (ovB b3 a kd).off = true ∧ (ovB b3 a kd).ms[0]? = some s1 ∧ (ovB b3 a kd).ms[1]? = some s2 from
                    ⟨HKP.out.steps.trans HBB.out.1, by rw [HKP.out.log]; have := HBB.out.2.1; omega, HOF.out.2.2, by rw [HOF.out.2.1]; exact HBB.out.2.2.2.1, by rw [HOF.out.2.1]; exact HBB.out.2.2.2.2⟩)
                  have RR4 := hid (And.intro (MbP.memD_ok.frame HRR.out.1 t4 fun q e => HNN2.out q (e.elim .inl fun x => .inr (.inl x))) (MbP.memD_ok.frame HRR.out.2 t4 fun q e => HNN2.out q (e.elim (fun x => .inr (.inr (.inl x))) fun x => .inr (.inr (.inr x)))))
                  have NN4 := hid (show ∀ q, Ma q ∨ Ia q ∨ Mb q ∨ Ib q → ¬ mutP F4 q from fun q e e2 => by
                    rcases mm4 q e2 with x | x
                    · exact HNN2.out q e x
                    · have l1 := MbP.memD_ok.lt HRR.out.1 q
                      have l2 := MbP.memD_ok.lt HRR.out.2 q
                      rcases e with e | e | e | e
                      · have := l1 (.inl e); omega
                      · have := l1 (.inr e); omega
                      · have := l2 (.inl e); omega
                      · have := l2 (.inr e); omega)
                  obtain ⟨b4, hb4⟩ : ∃ z, z = ovB b3 a kd := ⟨_, rfl⟩
                  rw [← hb4] at AL4 BB4
                  clear ho ho' al4 mm4 t4 hb4 HOF HKP HAL HBB HRR HNN2 R1 HKA q0
                  go_wp2_with fail
                  go_roundw
                  case rel => exact ⟨i + 1, F4, b4, by go_num, by omega, AL4, BB4, RR4, NN4⟩
                  case measure => simp [intOf] <;> omega
              · have t1 : decide ((i : Int) < (n2 : Int)) = false := by simp; omega
                have hi2 : n2 = i := by omega
                have AL9 := hid (show Alone repB W wr g m1 m2 F3 200 b3 from ⟨HAL.out.pp.mono (by omega), HAL.out.gs, HAL.out.low, HAL.out.bel⟩)
                have RR9 := hid (And.intro (MbP.memD_ok.mono HRR.out.1 (show 3 * n1 + 3 ≤ 200 by omega)) (MbP.memD_ok.mono HRR.out.2 (show 3 * n1 + 3 ≤ 200 by omega)))
                have RM1 := hid (AL9.out.pp.mem 0 m1 s1 (by rw [AL9.out.gs]; rfl) HBB.out.2.2.2.1)
                have RM2 := hid (AL9.out.pp.mem 1 m2 s2 (by rw [AL9.out.gs]; rfl) HBB.out.2.2.2.2)
                clear hi2 HAL HRR HNN2
                obtain ⟨w9, hw9⟩ : ∃ z, z = wr := ⟨_, rfl⟩
                subst hw9
                go_wp2_with fail
                go_loopw [18] (fun u wr => ∃ j : Nat, u = .int .i64 j ∧ j ≤ 4 ∧ Hid (Below w9.heap.size w9 wr)) (fun u _ => 4 - (intOf u).toNat)
                case atStart => exact ⟨0, rfl, by omega, hid (Below.refl _ _)⟩
                case round =>
                  obtain ⟨j, rfl, hj, HV⟩ := hrel
                  by_cases hj4 : j < 4
                  · have t3 : (j : Int) < 4 := by omega
                    have fr : ∀ {gg : Nat} {M I : Nat → Prop} {st : St} {w' : World}, RepM w9 gg M I 200 st → Below w9.heap.size w9 w' → RepM w' gg M I 200 st := fun h hb => MbP.memD_ok.frame h (Turn.of_new (S := fun _ => False) hb) fun _ _ e => e
                    obtain ⟨v1, hv1⟩ : ∃ z, z = rdS s1 (j : Int) := ⟨_, rfl⟩
                    obtain ⟨v2, hv2⟩ : ∃ z, z = rdS s2 (j : Int) := ⟨_, rfl⟩
                    have HV1 := hid hv1
                    have HV2 := hid hv2
                    clear hv1 hv2
                    go_wp2_with fail
                    refine (MbP.memD_ok.read (fr RM1.out HV.out) OK1.out (by omega) (j : Int)).mono ?_
                    rintro e uX ⟨rfl, h5⟩
                    rw [← HV1.out]
                    go_upto_region 29 with (first | (with_reducible apply alA tSe) | ((with_reducible apply stA tSe); rfl; rfl; exact Blk.new _ _ _))
                    generalize hwX : World.setRow _ _ _ = wX
                    have b6 : Below uX.heap.size uX wX := by rw [← hwX]; exact below_setRow ((Below.refl _ _).alloc (Nat.le_refl _) _) (Nat.le_refl _) _
                    have SX := hid (show Blk wX uX.heap.size 30 (ar 64 v1) by rw [← hwX]; exact (Blk.new uX _ _).setRow_same _)
                    replace HV := hid (HV.out.trans ((h5.trans (b6.mono h5.size)).mono HV.out.size))
                    obtain ⟨gX, hgX⟩ : ∃ n, n = uX.heap.size := ⟨_, rfl⟩
                    rw [← hgX] at SX ⊢
                    clear hwX b6 h5 hgX
                    go_wp2_with fail
                    refine (MbP.memD_ok.read (fr RR9.out.1 HV.out) OK1.out (by omega) (j : Int)).mono ?_
                    rintro e uY ⟨rfl, h5⟩
                    rw [← HV1.out]
                    go_upto_region 30 with (first | (with_reducible apply alA tSe) | ((with_reducible apply stA tSe); rfl; rfl; exact Blk.new _ _ _))
                    generalize hwY : World.setRow _ _ _ = wY
                    have b6 : Below uY.heap.size uY wY := by rw [← hwY]; exact below_setRow ((Below.refl _ _).alloc (Nat.le_refl _) _) (Nat.le_refl _) _
                    have SY := hid (show Blk wY uY.heap.size 30 (ar 64 v1) by rw [← hwY]; exact (Blk.new uY _ _).setRow_same _)
                    replace SX := hid (SX.out.below (h5.trans (b6.mono h5.size)) SX.out.lt)
                    replace HV := hid (HV.out.trans ((h5.trans (b6.mono h5.size)).mono HV.out.size))
                    obtain ⟨gY, hgY⟩ : ∃ n, n = uY.heap.size := ⟨_, rfl⟩
                    rw [← hgY] at SY ⊢
                    clear hwY b6 h5 hgY
                    go_wp2_with fail
                    refine (MbP.memD_ok.read (fr RM2.out HV.out) OK2.out (by omega) (j : Int)).mono ?_
                    rintro e uZ ⟨rfl, h5⟩
                    rw [← HV2.out]
                    go_upto_region 31 with (first | (with_reducible apply alA tSe) | ((with_reducible apply stA tSe); rfl; rfl; exact Blk.new _ _ _))
                    generalize hwZ : World.setRow _ _ _ = wZ
                    have b6 : Below uZ.heap.size uZ wZ := by rw [← hwZ]; exact below_setRow ((Below.refl _ _).alloc (Nat.le_refl _) _) (Nat.le_refl _) _
                    have SZ := hid (show Blk wZ uZ.heap.size 30 (ar 64 v2) by rw [← hwZ]; exact (Blk.new uZ _ _).setRow_same _)
                    replace SX := hid (SX.out.below (h5.trans (b6.mono h5.size)) SX.out.lt)
                    replace SY := hid (SY.out.below (h5.trans (b6.mono h5.size)) SY.out.lt)
                    replace HV := hid (HV.out.trans ((h5.trans (b6.mono h5.size)).mono HV.out.size))
                    obtain ⟨gZ, hgZ⟩ : ∃ n, n = uZ.heap.size := ⟨_, rfl⟩
                    rw [← hgZ] at SZ ⊢
                    clear hwZ b6 h5 hgZ
                    go_wp2_with fail
                    refine (MbP.memD_ok.read (fr RR9.out.2 HV.out) OK2.out (by omega) (j : Int)).mono ?_
                    rintro e uT ⟨rfl, h5⟩
                    rw [← HV2.out]
                    go_upto_region 32 with (first | (with_reducible apply alA tSe) | ((with_reducible apply stA tSe); rfl; rfl; exact Blk.new _ _ _))
                    generalize hwT : World.setRow _ _ _ = wT
                    have b6 : Below uT.heap.size uT wT := by rw [← hwT]; exact below_setRow ((Below.refl _ _).alloc (Nat.le_refl _) _) (Nat.le_refl _) _
                    have ST := hid (show Blk wT uT.heap.size 30 (ar 64 v2) by rw [← hwT]; exact (Blk.new uT _ _).setRow_same _)
                    replace SX := hid (SX.out.below (h5.trans (b6.mono h5.size)) SX.out.lt)
                    replace SY := hid (SY.out.below (h5.trans (b6.mono h5.size)) SY.out.lt)
                    replace SZ := hid (SZ.out.below (h5.trans (b6.mono h5.size)) SZ.out.lt)
                    replace HV := hid (HV.out.trans ((h5.trans (b6.mono h5.size)).mono HV.out.size))
                    obtain ⟨gT, hgT⟩ : ∃ n, n = uT.heap.size := ⟨_, rfl⟩
                    rw [← hgT] at ST ⊢
                    clear hwT b6 h5 hgT
                    obtain ⟨wz, hwz⟩ : ∃ z, z = wT := ⟨_, rfl⟩
                    refine wp_region_fixed (C := fun w' => Below wT.heap.size wT w') 8 (Below.refl _ _) ?_
                    simp only [List.take_succ_cons, List.take_zero, List.drop_succ_cons, List.drop_zero]
                    apply kldA tSe
                    · rfl
                    · rfl
                    · exact fun w' hw' => (SX.out.below hw' SX.out.lt).head
                    simp only [Act.put, List.setIfInBounds_toArray, List.set_cons_succ, List.set_cons_zero]
                    apply kldA tSe
                    · rfl
                    · rfl
                    · exact fun w' hw' => (SY.out.below hw' SY.out.lt).head
                    simp only [Act.put, List.setIfInBounds_toArray, List.set_cons_succ, List.set_cons_zero]
                    apply kneU false uSe' gSe'
                    · rfl
                    · rfl
                    · rfl
                    · exact (by rw [eqA_yes fun _ _ => rfl]; rfl)
                    simp only [Act.put, List.setIfInBounds_toArray, List.set_cons_succ, List.set_cons_zero]
                    apply wpK_val
                    · rfl
                    · intro w' hw'
                      go_simp
                      first | exact rfl | exact ⟨rfl, hw'⟩
                    simp only [Act.put, List.setIfInBounds_toArray, List.set_cons_succ, List.set_cons_zero]
                    apply kldA tSe
                    · rfl
                    · rfl
                    · exact fun w' hw' => (SZ.out.below hw' SZ.out.lt).head
                    simp only [Act.put, List.setIfInBounds_toArray, List.set_cons_succ, List.set_cons_zero]
                    apply kldA tSe
                    · rfl
                    · rfl
                    · exact fun w' hw' => (ST.out.below hw' ST.out.lt).head
                    simp only [Act.put, List.setIfInBounds_toArray, List.set_cons_succ, List.set_cons_zero]
                    apply kneU false uSe' gSe'
                    · rfl
                    · rfl
                    · rfl
                    · exact (by rw [eqA_yes fun _ _ => rfl]; rfl)
                    simp only [Act.put, List.setIfInBounds_toArray, List.set_cons_succ, List.set_cons_zero]
                    apply wpK_val
                    · rfl
                    · intro w' hw'
                      go_simp
                      first | exact rfl | exact ⟨rfl, hw'⟩
                    simp only [Act.put, List.setIfInBounds_toArray, List.set_cons_succ, List.set_cons_zero]
                    intro wq hCq
                    have HVq := hid (HV.out.trans (hCq.mono HV.out.size))
                    clear hCq hwz SX SY SZ ST HV HV1 HV2 fr
                    go_wp2_with fail
                    go_roundw
                    case rel => exact ⟨j + 1, by go_num, by omega, HVq⟩
                    case measure => simp [intOf] <;> omega
                  · have t3 : decide ((j : Int) < 4) = false := by simp; omega
                    have ALj := hid (AL9.out.below hC HV.out)
                    clear AL9 RR9 RM1 RM2 OK1 OK2
                    go_wp2_with fail
                    refine (hC.power ALj.out.pp).mono ?_
                    rintro e wp ⟨rfl, ho⟩
                    obtain ⟨F5, al5, _, _, _⟩ := ALj.out.out (outS.ofQ ho)
                    have AL5 := hid al5
                    have HP5 := hid (show BuM.ahead (BuM.power b3) = BuM.power b3 from ahead_none fun s hs' => by
                      have hs2 : s ∈ b3.steps := hs'
                      rw [HBB.out.1] at hs2
                      have : s = crSt nn picks := by simpa using hs2
                      rw [this]
                      show (nn : Int) ≠ (b3.log.length : Int)
                      have := HBB.out.2.1
                      omega)
                    clear ho al5 ALj HV
                    go_wp2_with fail
                    refine (hC.cell AL5.out.pp (by show 200 + b3.steps.length + 2 ≤ _; rw [HBB.out.1]; show 200 + 1 + 2 ≤ _; omega)).mono ?_
                    rintro e wc ⟨rfl, ho⟩
                    rw [HP5.out]
                    have hce : (BuM.ceB (BuM.power b3)).e = 0 := rfl
                    rw [hce]
                    obtain ⟨cv, hcv⟩ : ∃ z, z = BuM.ceV (BuM.power b3) := ⟨_, rfl⟩
                    rw [← hcv]
                    obtain ⟨F6, al6, _, _, _⟩ := AL5.out.out (outS.ofQ ho)
                    have AL6 := hid al6
                    have HOF := hid (show (BuM.ceT (BuM.power b3)).off = false from by rw [(ceT_kept _).off, HP5.out]; rfl)
                    clear ho al6 hce hcv AL5 HP5
                    go_wp2_with fail
                    refine (hC.off AL6.out.pp).mono ?_
                    rintro e wo ⟨rfl, h6⟩
                    rw [HOF.out]
                    have B6 := hid (AL6.out.bel.trans (h6.mono AL6.out.bel.size))
                    clear h6 AL6
                    go_wp2_with fail
                    refine (awake_any hC wo).mono ?_
                    rintro e wx ⟨rfl, h7⟩
                    have B7 := hid (B6.out.trans (h7.mono B6.out.size))
                    clear h7 B6
                    go_wp2_with fail
                    go_ret
                    exact ⟨rfl, B7.out⟩
end BuP
end Go.Proofs.Ytablkaofaedpeaa
set_option maxRecDepth 100000
namespace Go.Proofs.Ytablkaofaedpeaa
open Go.ChangeShapes Go.WideShapes Go.ChangeAt Go.RowKit Go.Deep
theorem choose_lt {α : Type} [Inhabited α] {n : Nat} {P : Nat → α → Prop} (h : ∀ k, k < n → ∃ a, P k a) : ∃ f : Nat → α, ∀ k, k < n → P k (f k) :=
  ⟨fun k => if hk : k < n then (h k hk).choose else default, fun k hk => by simp only [hk, dif_pos]; exact (h k hk).choose_spec⟩
theorem u8_wf {a : Int} (h : (Lit.int .u8 a).wf = true) : ∃ n : Nat, a = n ∧ n < 256 := by
  simp [Lit.wf, IntKind.min, IntKind.max, IntKind.bits, IntKind.signed] at h
  exact ⟨a.toNat, by omega, by omega⟩
theorem cells_u8 : Try.prog.cellsOf 5 = 1 := by kernel_rfl
end Go.Proofs.Ytablkaofaedpeaa
set_option maxRecDepth 100000
namespace Go.Proofs.Ytablkaofaedpeaa
open Go.ChangeShapes Go.WideShapes Go.ChangeAt Go.RowKit Go.Deep
section
variable {H : Type} {enc : TypeId × Value → H} {w : World} {base : Nat} {spare : Nat → Bool} {held : Bool}
theorem trod_ar {T : TypeId} {n : Nat} (hT : Try.prog.underlying T = some (.array n 5)) (hc : Try.prog.cellsOf T = n) {fuel : Nat} {cs : List Value} {x : DataW H × List MemPlace} (h : DataW.trod enc Try.prog w base spare held fuel T cs = some x) : ∃ f : Nat → Nat, (∀ k, f k < 256) ∧ cs = (ar n f).toList := by
  obtain ⟨xs, m, rfl, rfl, hlen, hxl, hx⟩ := DataW.trod_array hT h
  rw [hc] at hlen
  have hk : ∀ k, k < n → ∃ n : Nat, n < 256 ∧ cs[k]? = some (.int .u8 n) := fun k hk => by
    have h1 := hx k hk
    rw [cells_u8, Nat.mul_one, List.getElem?_eq_getElem (by omega)] at h1
    obtain ⟨n, e1, e2, wf⟩ := DataW.trod_int Try.underlying5 h1
    obtain ⟨n, rfl, hn⟩ := u8_wf wf
    refine ⟨n, hn, ?_⟩
    have : ((cs.drop k).take 1)[0]? = some (.int .u8 n) := by rw [e1]; rfl
    rw [List.getElem?_take_of_lt (by omega), List.getElem?_drop] at this
    exact this
  obtain ⟨f, hf⟩ := choose_lt hk
  refine ⟨fun k => if k < n then f k else 0, fun k => ?_, ?_⟩
  · by_cases h : k < n
    · simp only [h, if_true]; exact (hf k h).1
    · simp [h]
  · apply List.ext_getElem?
    intro k
    have e : (ar n fun k => if k < n then f k else 0).toList[k]? = if k < n then some (.int .u8 ((if k < n then f k else 0 : Nat) : Int)) else none := by
      rw [Array.getElem?_toList]
      exact get_row k
    rw [e]
    by_cases h : k < n
    · rw [if_pos h, if_pos h]; exact (hf k h).2
    · rw [if_neg h, List.getElem?_eq_none (by omega)]
set_option maxRecDepth 100000 in
theorem open_ar {T : TypeId} {n : Nat} (hT : Try.prog.underlying T = some (.array n 5)) (hc : Try.prog.cellsOf T = n) {r : Reach} {b0 : Nat} {v : Value} {d : DataW H} {p : List MemPlace} (hv : Value.okWide Try.prog w r b0 T v) (h : DataW.Trod enc Try.prog w base spare held T v d p) :
    ∃ f : Nat → Nat, (∀ k, f k < 256) ∧ v = .agg (ar n f) := by
  have hv' : ∃ cs, v = .agg cs := by
    simp only [Value.okWide, hT] at hv
    obtain ⟨cs, h1, _⟩ := hv
    exact ⟨cs, h1⟩
  obtain ⟨cs, rfl⟩ := hv'
  obtain ⟨fuel, hf⟩ := h
  obtain ⟨f, h1, h2⟩ := trod_ar hT hc hf
  refine ⟨f, h1, ?_⟩
  have : cs = ar n f := by
    apply Array.ext'
    exact h2
  rw [this]
end
end Go.Proofs.Ytablkaofaedpeaa
set_option maxRecDepth 100000
namespace Go.Proofs.Ytablkaofaedpeaa
open Go.ChangeShapes Go.WideShapes Go.ChangeAt Go.RowKit Go.Deep
section
variable {H : Type} {enc : TypeId × Value → H} {w : World} {base : Nat} {spare : Nat → Bool} {held : Bool}
set_option maxRecDepth 100000 in
theorem open_byts {r : Reach} {b0 : Nat} {v : Value} {d : DataW H} {p : List MemPlace} (hv : Value.okWide Try.prog w r b0 65 v) (h : DataW.Trod enc Try.prog w base spare held 65 v d p) :
    ∃ (A : Option Addr) (l : List Nat) (n cap : Nat), v = .slice A n cap ∧ l.length = n ∧ n ≤ cap ∧ cap ≤ maxLen ∧ B256 l ∧ Byt w w.heap.size A l ∧ (A = none → n = 0 ∧ cap = 0) := by
  obtain ⟨A, n, cap, rfl⟩ := okWide_slice Try.underlying65 hv
  obtain ⟨fuel, hf⟩ := h
  rcases open_ints Try.underlying65 Try.underlying5 cells_u8 hf with ⟨hcs, _⟩ | ⟨a, len, cap', zs, hcs, _, hl, hm, hz, _, hcell, hwz⟩
  · simp [Value.cells] at hcs
    obtain ⟨rfl, rfl, rfl⟩ := hcs
    exact ⟨none, [], 0, 0, rfl, rfl, Nat.le_refl _, Nat.zero_le _, (fun x hx => by cases hx), Byt.none rfl, fun _ => ⟨rfl, rfl⟩⟩
  · simp [Value.cells] at hcs
    obtain ⟨rfl, rfl, rfl⟩ := hcs
    have hnz : n ≤ zs.length := by rw [hz]; split <;> omega
    have hlen : ((zs.take n).map Int.toNat).length = n := by rw [List.length_map, List.length_take]; omega
    have hat : ∀ i, i < n → ∃ k : Nat, zs.getD i 0 = k ∧ k < 256 ∧ ((zs.take n).map Int.toNat).getD i 0 = k := fun i hi => by
      have hi' : i < zs.length := by omega
      have hg : zs.getD i 0 = zs[i] := by rw [List.getD_eq_getElem?_getD, List.getElem?_eq_getElem hi']; rfl
      obtain ⟨k, hk, hk2⟩ := u8_wf (hwz zs[i] (List.getElem_mem hi'))
      refine ⟨k, hg.trans hk, hk2, ?_⟩
      rw [List.getD_eq_getElem?_getD, List.getElem?_map, List.getElem?_take_of_lt hi, List.getElem?_eq_getElem hi', hk]
      rfl
    refine ⟨some a, (zs.take n).map Int.toNat, n, cap, rfl, hlen, hl, hm, fun x hx => ?_, fun hn => ?_, fun h => by cases h⟩
    · obtain ⟨i, hi⟩ := List.getElem?_of_mem hx
      have hin : i < n := by have := (List.getElem?_eq_some_iff.1 hi).1; omega
      obtain ⟨k, _, hk, he⟩ := hat i hin
      rw [List.getD_eq_getElem?_getD, hi] at he
      have : x = k := he
      omega
    · rw [hlen] at hn
      have h0 := hcell 0 (by omega)
      have hsp : a.spot = none := by
        simp only [Addr.add, if_true] at h0
        unfold World.cell? at h0
        split at h0
        · cases hs : a.spot with
          | none => rfl
          | some s => simp [hs] at h0
        · cases h0
      have hblk : a.block < w.heap.size := by
        have := World.block_lt_of_cell? w _ h0
        simpa [Addr.add] using this
      obtain ⟨b, o, sp⟩ := a
      subst hsp
      refine ⟨b, o, rfl, hblk, fun i hi => ?_⟩
      rw [hlen] at hi
      obtain ⟨k, h1, _, h2⟩ := hat i hi
      have h3 := hcell i (by omega)
      rw [Addr.add_mid, h1] at h3
      rw [h3, h2]
end
end Go.Proofs.Ytablkaofaedpeaa
set_option maxRecDepth 100000
namespace Go.Proofs.Ytablkaofaedpeaa
open Go.ChangeShapes Go.WideShapes Go.ChangeAt Go.RowKit Go.Deep
/-- A slice of slices of bytes that came in; a part that is nil has no bytes and no room. -/
def PrtsN (w : World) (B : Nat) (A : Option Addr) (ls : List (List Nat)) : Prop :=
  0 < ls.length → ∃ b o, A = some ⟨b, o, none⟩ ∧ b < B ∧ ∀ i, i < ls.length → ∃ A' c, w.cell? ⟨b, o + i, none⟩ = some (.slice A' (ls.getD i []).length c) ∧ (ls.getD i []).length ≤ c ∧ c ≤ maxLen ∧ Byt w B A' (ls.getD i []) ∧ (A' = none → (ls.getD i []).length = 0 ∧ c = 0)
theorem PrtsN.below {B B' : Nat} {w w' : World} {A : Option Addr} {ls : List (List Nat)} (h : PrtsN w B A ls) (hb : Below B' w w') (hB : B ≤ B') : PrtsN w' B A ls := fun hn => by
  obtain ⟨b, o, rfl, hl, hr⟩ := h hn
  refine ⟨b, o, rfl, hl, fun i hi => ?_⟩
  obtain ⟨A', c, h1, h2, h3, h4, h5⟩ := hr i hi
  exact ⟨A', c, (hb.cell (p := ⟨b, o + i, none⟩) (by show b < B'; omega)).trans h1, h2, h3, h4.below hb hB, h5⟩
theorem PrtsN.more {w : World} {B B' : Nat} {A : Option Addr} {ls : List (List Nat)} (h : PrtsN w B A ls) (hB : B ≤ B') : PrtsN w B' A ls := fun hn => by
  obtain ⟨b, o, rfl, hl, hr⟩ := h hn
  refine ⟨b, o, rfl, by omega, fun i hi => ?_⟩
  obtain ⟨A', c, h1, h2, h3, h4, h5⟩ := hr i hi
  exact ⟨A', c, h1, h2, h3, h4.more hB, h5⟩
theorem cells_sl : Try.prog.cellsOf 65 = 1 := by kernel_rfl
section
variable {H : Type} {enc : TypeId × Value → H} {w : World} {base : Nat} {spare : Nat → Bool} {held : Bool}
theorem trod_byts {fuel : Nat} {cs : List Value} {x : DataW H × List MemPlace} (h : DataW.trod enc Try.prog w base spare held fuel 65 cs = some x) :
    ∃ (A : Option Addr) (l : List Nat) (cap : Nat), cs = [.slice A l.length cap] ∧ l.length ≤ cap ∧ cap ≤ maxLen ∧ B256 l ∧ Byt w w.heap.size A l ∧ (A = none → l.length = 0 ∧ cap = 0) := by
  rcases open_ints Try.underlying65 Try.underlying5 cells_u8 h with ⟨hcs, _⟩ | ⟨a, n, cap, zs, hcs, _, hl, hm, hz, _, hcell, hwz⟩
  · subst hcs
    exact ⟨none, [], 0, rfl, Nat.le_refl _, Nat.zero_le _, (fun x hx => by cases hx), Byt.none rfl, fun _ => ⟨rfl, rfl⟩⟩
  · subst hcs
    have hnz : n ≤ zs.length := by rw [hz]; split <;> omega
    have hlen : ((zs.take n).map Int.toNat).length = n := by rw [List.length_map, List.length_take]; omega
    have hat : ∀ i, i < n → ∃ k : Nat, zs.getD i 0 = k ∧ k < 256 ∧ ((zs.take n).map Int.toNat).getD i 0 = k := fun i hi => by
      have hi' : i < zs.length := by omega
      have hg : zs.getD i 0 = zs[i] := by rw [List.getD_eq_getElem?_getD, List.getElem?_eq_getElem hi']; rfl
      obtain ⟨k, hk, hk2⟩ := u8_wf (hwz zs[i] (List.getElem_mem hi'))
      refine ⟨k, hg.trans hk, hk2, ?_⟩
      rw [List.getD_eq_getElem?_getD, List.getElem?_map, List.getElem?_take_of_lt hi, List.getElem?_eq_getElem hi', hk]
      rfl
    refine ⟨some a, (zs.take n).map Int.toNat, cap, by rw [hlen], by rw [hlen]; exact hl, hm, fun x hx => ?_, fun hn => ?_, fun h => by cases h⟩
    · obtain ⟨i, hi⟩ := List.getElem?_of_mem hx
      have hin : i < n := by have := (List.getElem?_eq_some_iff.1 hi).1; omega
      obtain ⟨k, _, hk, he⟩ := hat i hin
      rw [List.getD_eq_getElem?_getD, hi] at he
      have : x = k := he
      omega
    · rw [hlen] at hn
      have h0 := hcell 0 (by omega)
      have hsp : a.spot = none := by
        simp only [Addr.add, if_true] at h0
        unfold World.cell? at h0
        split at h0
        · cases hs : a.spot with
          | none => rfl
          | some s => simp [hs] at h0
        · cases h0
      have hblk : a.block < w.heap.size := by
        have := World.block_lt_of_cell? w _ h0
        simpa [Addr.add] using this
      obtain ⟨b, o, sp⟩ := a
      subst hsp
      refine ⟨b, o, rfl, hblk, fun i hi => ?_⟩
      rw [hlen] at hi
      obtain ⟨k, h1, _, h2⟩ := hat i hi
      have h3 := hcell i (by omega)
      rw [Addr.add_mid, h1] at h3
      rw [h3, h2]
end
end Go.Proofs.Ytablkaofaedpeaa
set_option maxRecDepth 100000
namespace Go.Proofs.Ytablkaofaedpeaa
open Go.ChangeShapes Go.WideShapes Go.ChangeAt Go.RowKit Go.Deep
/-- A slice of structs of k cells, in one row below block B. -/
def Elems (k : Nat) (w : World) (B : Nat) (A : Option Addr) (xs : List (List Value)) : Prop :=
  0 < xs.length → ∃ b o, A = some ⟨b, o, none⟩ ∧ b < B ∧ ∀ (i : Nat) (cs : List Value), xs[i]? = some cs → ∀ (j : Nat) (v : Value), cs[j]? = some v → w.cell? ⟨b, o + i * k + j, none⟩ = some v
theorem Elems.below {k B B' : Nat} {w w' : World} {A : Option Addr} {xs : List (List Value)} (h : Elems k w B A xs) (hb : Below B' w w') (hB : B ≤ B') : Elems k w' B A xs := fun hn => by
  obtain ⟨b, o, rfl, hl, hr⟩ := h hn
  exact ⟨b, o, rfl, hl, fun i cs hi j v hj => (hb.cell (p := ⟨b, o + i * k + j, none⟩) (by show b < B'; omega)).trans (hr i cs hi j v hj)⟩
section
variable {H : Type} {enc : TypeId × Value → H} {w : World} {base : Nat} {spare : Nat → Bool} {held : Bool}
theorem open_elems {S E : TypeId} {k : Nat} {R : List Value → Prop} {r : Reach} {b0 : Nat} {v : Value} {d : DataW H} {p : List MemPlace} (hS : Try.prog.underlying S = some (.slice E)) (hk : Try.prog.cellsOf E = k) (hk0 : 0 < k)
    (hR : ∀ (fuel : Nat) (cs : List Value) (x : DataW H × List MemPlace), DataW.trod enc Try.prog w base spare held fuel E cs = some x → cs.length = k → R cs)
    (hv : Value.okWide Try.prog w r b0 S v) (h : DataW.Trod enc Try.prog w base spare held S v d p) :
    ∃ (A : Option Addr) (xs : List (List Value)) (n cap : Nat), v = .slice A n cap ∧ xs.length = n ∧ n ≤ cap ∧ cap ≤ maxLen ∧ (∀ cs ∈ xs, R cs ∧ cs.length = k) ∧ Elems k w w.heap.size A xs ∧ (A = none → n = 0 ∧ cap = 0) := by
  obtain ⟨A, n, cap, rfl⟩ := okWide_slice hS hv
  obtain ⟨fuel, hf⟩ := h
  rcases open_slice hS hf with ⟨hcs, _⟩ | ⟨a, len, cap', m, fu, D, Pl, hcs, hb, hl, hm, hmm, hx, hi⟩
  · simp [Value.cells] at hcs
    obtain ⟨rfl, rfl, rfl⟩ := hcs
    exact ⟨none, [], 0, 0, rfl, rfl, Nat.le_refl _, Nat.zero_le _, (fun x hx => by cases hx), (fun h => absurd h (by simp)), fun _ => ⟨rfl, rfl⟩⟩
  · simp [Value.cells] at hcs
    obtain ⟨rfl, rfl, rfl⟩ := hcs
    have hnm : n ≤ m := by rw [hmm]; split <;> omega
    have one : ∀ i, i < n → ∃ cs : List Value, R cs ∧ cs.length = k ∧ ∀ j, j < k → w.cell? (a.add (i * k + j)) = cs[j]? := fun i hin => by
      obtain ⟨cs', hc, ht⟩ := hi i (by omega)
      have h3 := World.cells?_some hc
      rw [hk] at h3
      refine ⟨cs', hR fu cs' _ ht h3.2.1, h3.2.1, fun j hj => ?_⟩
      have h6 := h3.2.2 j hj
      rw [Go.Deep.add_add] at h6
      exact h6
    obtain ⟨F, hF⟩ := choose_lt one
    have hg : ∀ i, ((List.range n).map F)[i]? = if i < n then some (F i) else none := fun i => by
      by_cases hi : i < n
      · rw [if_pos hi, List.getElem?_map, List.getElem?_range hi]; rfl
      · rw [if_neg hi, List.getElem?_eq_none (by simp; omega)]
    refine ⟨some a, (List.range n).map F, n, cap, rfl, by simp, hl, hm, fun l hl2 => ?_, fun hn => ?_, fun h => by cases h⟩
    · obtain ⟨i, hi2, rfl⟩ := List.mem_map.1 hl2
      exact ⟨(hF i (List.mem_range.1 hi2)).1, (hF i (List.mem_range.1 hi2)).2.1⟩
    · have hn' : 0 < n := by simpa using hn
      obtain ⟨_, h1, h0⟩ := hF 0 hn'
      have h00 := h0 0 hk0
      rw [List.getElem?_eq_getElem (by omega)] at h00
      have hsp : a.spot = none := by
        simp only [Nat.zero_mul, Nat.zero_add, Addr.add, if_true] at h00
        unfold World.cell? at h00
        split at h00
        · cases hs : a.spot with
          | none => rfl
          | some s => simp [hs] at h00
        · cases h00
      have hblk : a.block < w.heap.size := by
        have := World.block_lt_of_cell? w _ h00
        simpa [Addr.add] using this
      obtain ⟨b, o, sp⟩ := a
      subst hsp
      refine ⟨b, o, rfl, hblk, fun i cs hi2 j v hj => ?_⟩
      rw [hg] at hi2
      split at hi2
      · rename_i hin
        obtain rfl := Option.some.inj hi2
        obtain ⟨_, h1, h2⟩ := hF i hin
        have hjk : j < k := by have := (List.getElem?_eq_some_iff.1 hj).1; omega
        have h3 := h2 j hjk
        rw [Addr.add_mid, hj, ← Nat.add_assoc] at h3
        exact h3
      · cases hi2
end
end Go.Proofs.Ytablkaofaedpeaa
set_option maxRecDepth 100000
namespace Go.Proofs.Ytablkaofaedpeaa
open Go.ChangeShapes Go.WideShapes Go.ChangeAt Go.RowKit Go.Deep
namespace BuP
open MbP
theorem cells_ab : Try.prog.cellsOf 70 = 99 := by kernel_rfl
theorem cells_se13 : Try.prog.cellsOf 30 = 64 := by kernel_rfl
theorem cells_tg13 : Try.prog.cellsOf 41 = 32 := by kernel_rfl
theorem cells_i13 : Try.prog.cellsOf 3 = 1 := by kernel_rfl
theorem at_one13 {l : List Value} {o : Nat} {v : Value} (h : (l.drop o).take 1 = [v]) : l[o]? = some v := by
  have h1 : ((l.drop o).take 1)[0]? = some v := by rw [h]; rfl
  rwa [List.getElem?_take_of_lt (by omega), List.getElem?_drop] at h1
theorem at_ar13 {l : List Value} {o m j : Nat} {f : Nat → Nat} (h : (l.drop o).take m = (ar m f).toList) (hj : j < m) : l[o + j]? = some (.int .u8 (f j : Nat)) := by
  have h1 : ((l.drop o).take m)[j]? = some (.int .u8 (f j : Nat)) := by rw [h, Array.getElem?_toList, get_ar hj]
  rwa [List.getElem?_take_of_lt hj, List.getElem?_drop] at h1
theorem ab_get (a : ActB) (j : Nat) (hj : j < 99) : (abL a)[j]? = some (if j = 0 then .int .i64 a.d else if j = 1 then .int .i64 a.m else if j = 2 then .int .i64 a.i else if j < 67 then .int .u8 (a.s (j - 3) : Nat) else .int .u8 (a.t (j - 67) : Nat)) := by
  unfold abL
  rcases j with _ | _ | _ | j
  · rfl
  · rfl
  · rfl
  · rw [List.getElem?_cons_succ, List.getElem?_cons_succ, List.getElem?_cons_succ, if_neg (by omega), if_neg (by omega), if_neg (by omega)]
    by_cases h : j < 64
    · rw [if_pos (by omega), List.getElem?_append_left (by rw [ar64_len]; exact h), ar64, Array.getElem?_toList, get_ar h]; rfl
    · rw [if_neg (by omega), List.getElem?_append_right (by rw [ar64_len]; omega), ar64_len, Array.getElem?_toList, get_ar (by omega), show j + 1 + 1 + 1 - 67 = j - 64 by omega]
section
variable {H : Type} {enc : TypeId × Value → H} {w : World} {base : Nat} {spare : Nat → Bool} {held : Bool}
set_option maxRecDepth 100000 in
theorem trod_ab {fuel : Nat} {cs : List Value} {x : DataW H × List MemPlace} (h : DataW.trod enc Try.prog w base spare held fuel 70 cs = some x) : ∃ y : ActB, (∀ j, y.s j < 256) ∧ cs = abL y := by
  obtain ⟨xs, n, _, rfl, hl, hlen, hf⟩ := DataW.trod_struct Try.underlying70 h
  rw [cells_ab] at hl
  match xs, hlen with
  | [y0, y1, y2, y3, y4], _ =>
    have h0 : DataW.trod enc Try.prog w base spare held n 3 ((cs.drop 0).take (Try.prog.cellsOf 3)) = some y0 := hf 0 _ rfl
    have h1 : DataW.trod enc Try.prog w base spare held n 3 ((cs.drop 1).take (Try.prog.cellsOf 3)) = some y1 := hf 1 _ rfl
    have h2 : DataW.trod enc Try.prog w base spare held n 3 ((cs.drop 2).take (Try.prog.cellsOf 3)) = some y2 := hf 2 _ rfl
    have h3 : DataW.trod enc Try.prog w base spare held n 30 ((cs.drop 3).take (Try.prog.cellsOf 30)) = some y3 := hf 3 _ rfl
    have h4 : DataW.trod enc Try.prog w base spare held n 41 ((cs.drop 67).take (Try.prog.cellsOf 41)) = some y4 := hf 4 _ rfl
    rw [cells_i13] at h0 h1 h2
    rw [cells_se13] at h3
    rw [cells_tg13] at h4
    obtain ⟨d, e0, _, _⟩ := DataW.trod_int Try.underlying3 h0
    obtain ⟨m, e1, _, _⟩ := DataW.trod_int Try.underlying3 h1
    obtain ⟨i, e2, _, _⟩ := DataW.trod_int Try.underlying3 h2
    obtain ⟨f, hf3, e3⟩ := trod_ar uSe' cells_se13 h3
    obtain ⟨t, _, e4⟩ := trod_ar ClP.uTg cells_tg13 h4
    refine ⟨⟨d, m, i, f, t⟩, hf3, ?_⟩
    apply List.ext_getElem?
    intro j
    have r0 := at_one13 e0
    have r1 := at_one13 e1
    have r2 := at_one13 e2
    by_cases hj : j < 99
    · rw [ab_get _ j hj]
      by_cases c0 : j = 0
      · rw [if_pos c0, c0]; exact r0
      · rw [if_neg c0]
        by_cases c1 : j = 1
        · rw [if_pos c1, c1]; exact r1
        · rw [if_neg c1]
          by_cases c2 : j = 2
          · rw [if_pos c2, c2]; exact r2
          · rw [if_neg c2]
            by_cases c3 : j < 67
            · rw [if_pos c3]
              have := at_ar13 e3 (show j - 3 < 64 by omega)
              rwa [show 3 + (j - 3) = j by omega] at this
            · rw [if_neg c3]
              have := at_ar13 e4 (show j - 67 < 32 by omega)
              rwa [show 67 + (j - 67) = j by omega] at this
    · rw [List.getElem?_eq_none (by omega), List.getElem?_eq_none (by rw [abL_len]; omega)]
theorem sli_of_elemsP {α : Type} {P : α → Prop} {k n cap : Nat} {en : α → List Value} {A : Option Addr} {xs : List (List Value)} (hn : xs.length = n) (hc : n ≤ cap) (hm : cap ≤ maxLen) (hx : ∀ cs ∈ xs, ∃ x, P x ∧ cs = en x) (he : Elems k w w.heap.size A xs) (h0 : A = none → n = 0 ∧ cap = 0) :
    ∃ l : List α, (∀ x ∈ l, P x) ∧ Sli k en (fun b => b < w.heap.size) w A l n cap := by
  have key : ∀ ys : List (List Value), (∀ cs ∈ ys, ∃ x, P x ∧ cs = en x) → ∃ l : List α, (∀ x ∈ l, P x) ∧ ys = l.map en := fun ys => by
    induction ys with
    | nil => exact fun _ => ⟨[], fun _ h => (by cases h), rfl⟩
    | cons y ys ih =>
      intro h
      obtain ⟨x, hp, hx⟩ := h y List.mem_cons_self
      obtain ⟨l, hl1, hl⟩ := ih fun cs hcs => h cs (List.mem_cons_of_mem _ hcs)
      refine ⟨x :: l, fun z hz => ?_, by rw [List.map_cons, ← hx, ← hl]⟩
      rcases List.mem_cons.1 hz with e | e
      · rw [e]; exact hp
      · exact hl1 z e
  obtain ⟨l, hp, rfl⟩ := key xs hx
  rw [List.length_map] at hn
  refine ⟨l, hp, hn, hc, hm, h0, fun hp => ?_⟩
  obtain ⟨b, o, e, hb, hr⟩ := he (by rw [List.length_map]; exact hp)
  exact ⟨b, o, e, hb, hb, fun i x hi j v hj => hr i (en x) (by rw [List.getElem?_map, hi]; rfl) j v hj⟩
theorem open_b13 {r : Reach} {b0 : Nat} {v : Value} {d : DataW H} {p : List MemPlace} (hv : Value.okWide Try.prog w r b0 5 v) (h : DataW.Trod enc Try.prog w base spare held 5 v d p) : ∃ x : Nat, v = .int .u8 x ∧ x < 256 := by
  obtain ⟨a, rfl, _, _, wf⟩ := Go.ChangeShapes.open_int Try.underlying5 hv h
  obtain ⟨n, rfl, hn⟩ := u8_wf wf
  exact ⟨n, rfl, hn⟩
theorem open_acts13 {r : Reach} {b0 : Nat} {v : Value} {d : DataW H} {p : List MemPlace} (hv : Value.okWide Try.prog w r b0 64 v) (h : DataW.Trod enc Try.prog w base spare held 64 v d p) :
    ∃ (A : Option Addr) (la : List ActB) (n cap : Nat), v = .slice A n cap ∧ (∀ a ∈ la, ∀ j, a.s j < 256) ∧ Sli 99 abL (fun b => b < w.heap.size) w A la n cap := by
  obtain ⟨A, xs, n, cap, rfl, hlen, hc, hm, hR, he, h0⟩ := open_elems (k := 99) (R := fun cs => ∃ y : ActB, (∀ j, y.s j < 256) ∧ cs = abL y) Try.underlying64 cells_ab (by omega) (fun fuel cs x h _ => trod_ab h) hv h
  obtain ⟨l, hp, hl⟩ := sli_of_elemsP (P := fun a : ActB => ∀ j, a.s j < 256) hlen hc hm (fun cs hcs => (hR cs hcs).1) he h0
  exact ⟨A, l, n, cap, rfl, hp, hl⟩
end
end BuP
end Go.Proofs.Ytablkaofaedpeaa
set_option maxRecDepth 100000
namespace Go.Proofs.Ytablkaofaedpeaa
open Go.ChangeShapes Go.WideShapes Go.ChangeAt Go.RowKit
attribute [local go_sem] Gives GivesE
namespace BuP
open BuM MbM MbP
/-- An entry done again. -/
def rep1 (ms : List St) (x : BuM.Ent) : List St :=
  if x.e = 0 then (if x.d = 2 then ms.set x.m.toNat (MbM.wrT (BuM.at' ms x.m) x.i x.s) else if x.d = 3 then ms.set x.m.toNat (MbM.flT (BuM.at' ms x.m)) else ms) else ms
def repl (ms : List St) (L : List BuM.Ent) : List St := L.foldl rep1 ms
theorem repl_snoc (ms : List St) (L : List BuM.Ent) (x : BuM.Ent) : repl ms (L ++ [x]) = rep1 (repl ms L) x := by unfold repl; rw [List.foldl_append]; rfl
theorem set_at {ms : List St} {mi : Nat} (h : mi < ms.length) : ms.set ((mi : Int).toNat) (BuM.at' ms (mi : Int)) = ms := by
  rw [at_of (List.getElem?_eq_getElem h), Int.toNat_natCast, List.set_getElem_self]
theorem wrT_bad {st : St} {i : Int} {x : Nat → Nat} (h : rdE st i ≠ 0) : MbM.wrT st i x = st := by
  unfold MbM.wrT
  unfold rdE at h
  split
  · rename_i h1
    rw [if_pos h1] at h
    split
    · rfl
    · rename_i h2; rw [if_neg h2] at h; exact absurd rfl h
  · rfl
theorem flT_bad {st : St} (h : MbM.flE st ≠ 0) : MbM.flT st = st := by
  unfold MbM.flT
  unfold MbM.flE at h
  split
  · rfl
  · rename_i h2; rw [if_neg h2] at h; exact absurd rfl h
/-- Without steps the members are what the log says. -/
theorem ov_rep {b : Bs} (hs : b.steps = []) (a : ActB) (K : Nat) {ms0 : List St} (h : b.ms = repl ms0 b.log) : (ovB b a K).ms = repl ms0 (ovB b a K).log := by
  have hn : BuM.ahead b = b := ahead_none fun s hs' => by rw [hs] at hs'; cases hs'
  unfold ovB
  have wr : (BuM.wrT b a.m a.i a.s).ms = repl ms0 (BuM.wrT b a.m a.i a.s).log := by
    unfold BuM.wrT
    rw [hn]
    show (BuM.wrM b a.m a.i a.s).ms = repl ms0 ((BuM.wrM b a.m a.i a.s).log ++ [BuM.wrB b a.m a.i a.s])
    rw [(wrM_same b a.m a.i a.s).2.1, repl_snoc, ← h]
    unfold BuM.wrM BuM.wrB rep1 BuM.upd
    by_cases hm : BuM.may b a.m = 0
    · obtain ⟨_, mi, hmi, hlt⟩ := may_zero hm
      simp only [if_pos hm]
      by_cases he : rdE (BuM.at' b.ms a.m) a.i = 0
      · rw [if_pos he, if_pos trivial]
      · rw [if_neg he, wrT_bad he, hmi, set_at hlt]
    · simp only [if_neg hm]
  have fl : (BuM.flT b a.m).ms = repl ms0 (BuM.flT b a.m).log := by
    unfold BuM.flT
    rw [hn]
    show (BuM.flM b a.m).ms = repl ms0 ((BuM.flM b a.m).log ++ [BuM.flB b a.m])
    rw [(flM_same b a.m).2.1, repl_snoc, ← h]
    unfold BuM.flM BuM.flB rep1 BuM.upd
    by_cases hm : BuM.may b a.m = 0
    · obtain ⟨_, mi, hmi, hlt⟩ := may_zero hm
      simp only [if_pos hm]
      by_cases he : MbM.flE (BuM.at' b.ms a.m) = 0
      · rw [if_pos he, if_neg (by omega), if_pos trivial]
      · rw [if_neg he, flT_bad he, hmi, set_at hlt]
    · simp only [if_neg hm]
  split
  · exact wr
  · exact wr
  · exact fl
  · unfold BuM.ceT; rw [hn]
    show b.ms = repl ms0 (b.log ++ [BuM.ceB b])
    rw [repl_snoc, ← h]; unfold rep1
    have : (BuM.ceB b).d = 4 := by unfold BuM.ceB; split <;> rfl
    rw [this]; split <;> rfl
  · unfold BuM.adT; rw [hn]
    show (BuM.adM b a.t).ms = repl ms0 ((BuM.adM b a.t).log ++ [BuM.adB b a.t])
    rw [(adM_same b a.t).2.1, (adM_same b a.t).2.2.2, repl_snoc, ← h]; unfold rep1
    have : (BuM.adB b a.t).d = 5 := rfl
    rw [this]; split <;> rfl
  · exact h
  · unfold BuM.rdT; rw [hn]
    show b.ms = repl ms0 (b.log ++ [BuM.rdB b a.m a.i])
    rw [repl_snoc, ← h]; unfold rep1
    have : (BuM.rdB b a.m a.i).d = 1 := by unfold BuM.rdB; split <;> rfl
    rw [this]; split <;> rfl
/-- What is sure of an entry. -/
def okEnt (n : Nat) (x : BuM.Ent) : Prop := (x.d = 2 → ∀ j, x.s j < 256) ∧ (x.e = 0 → x.d = 2 ∨ x.d = 3 → ∃ mi : Nat, x.m = mi ∧ mi < n)
theorem ov_okE {b : Bs} (hs : b.steps = []) (a : ActB) (ha : ∀ j, a.s j < 256) (K : Nat) (h : ∀ x ∈ b.log, okEnt b.ms.length x) : ∀ x ∈ (ovB b a K).log, okEnt b.ms.length x := by
  have hn : BuM.ahead b = b := ahead_none fun s hs' => by rw [hs] at hs'; cases hs'
  have app : ∀ (L : List BuM.Ent) (y : BuM.Ent), L = b.log → okEnt b.ms.length y → ∀ x ∈ L ++ [y], okEnt b.ms.length x := fun L y e hy x hx => by
    rw [List.mem_append, List.mem_singleton] at hx
    rcases hx with hx | hx
    · exact h x (e ▸ hx)
    · rw [hx]; exact hy
  have wr : ∀ x ∈ (BuM.wrT b a.m a.i a.s).log, okEnt b.ms.length x := by
    unfold BuM.wrT
    rw [hn]
    refine app _ _ (wrM_same b a.m a.i a.s).2.1 ⟨fun _ => ha, fun he _ => ?_⟩
    have hm : BuM.may b a.m = 0 := by
      have he' : (if BuM.may b a.m = 0 then rdE (BuM.at' b.ms a.m) a.i else BuM.may b a.m) = 0 := he
      by_cases e : BuM.may b a.m = 0
      · exact e
      · rw [if_neg e] at he'; exact absurd he' e
    exact (may_zero hm).2
  have oth : ∀ y : BuM.Ent, y.d ≠ 2 → y.d ≠ 3 → okEnt b.ms.length y := fun y h2 h3 => ⟨fun e => absurd e h2, fun _ e => e.elim (fun e => absurd e h2) fun e => absurd e h3⟩
  unfold ovB
  split
  · exact wr
  · exact wr
  · unfold BuM.flT
    rw [hn]
    refine app _ _ (flM_same b a.m).2.1 ⟨fun e => absurd (show (3 : Int) = 2 from e) (by omega), fun he _ => ?_⟩
    have hm : BuM.may b a.m = 0 := by
      have he' : (if BuM.may b a.m = 0 then MbM.flE (BuM.at' b.ms a.m) else BuM.may b a.m) = 0 := he
      by_cases e : BuM.may b a.m = 0
      · exact e
      · rw [if_neg e] at he'; exact absurd he' e
    exact (may_zero hm).2
  · unfold BuM.ceT; rw [hn]
    have : (BuM.ceB b).d = 4 := by unfold BuM.ceB; split <;> rfl
    exact app _ _ rfl (oth _ (by rw [this]; omega) (by rw [this]; omega))
  · unfold BuM.adT; rw [hn]
    exact app _ _ (adM_same b a.t).2.1 (oth _ (show (5 : Int) ≠ 2 by omega) (show (5 : Int) ≠ 3 by omega))
  · exact h
  · unfold BuM.rdT; rw [hn]
    have : (BuM.rdB b a.m a.i).d = 1 := by unfold BuM.rdB; split <;> rfl
    exact app _ _ rfl (oth _ (by rw [this]; omega) (by rw [this]; omega))
/-- Members of the program's that are told things, apart from all that lies in blocks of X. -/
structure Fr (B : Nat) (X : Nat → Prop) (w : World) (gs : List Nat) (Ms Is : Nat → Nat → Prop) (k : Nat) (ms : List St) : Prop where
  len : gs.length = ms.length
  mem : ∀ (i gi : Nat) (st : St), gs[i]? = some gi → ms[i]? = some st → RepM w gi (Ms i) (Is i) k st
  ok : okM ms
  ap : ∀ i j q, i < gs.length → j < gs.length → i ≠ j → Ms i q → ¬ (Ms j q ∨ Is j q)
  low : ∀ i q, i < gs.length → Ms i q → B ≤ q ∧ ¬ X q
  xlt : ∀ q, X q → q < w.heap.size
  base : B ≤ w.heap.size
section
variable {B : Nat} {X : Nat → Prop} {w w' : World} {gs : List Nat} {Ms Is : Nat → Nat → Prop} {k : Nat} {ms : List St}
theorem Fr.below (H : Fr B X w gs Ms Is k ms) (hb : Below w.heap.size w w') : Fr B X w' gs Ms Is k ms where
  len := H.len
  mem i gi st h1 h2 := MbP.memD_ok.frame (H.mem i gi st h1 h2) (Turn.of_new (S := fun _ => False) hb) fun _ _ e => e
  ok := H.ok
  ap := H.ap
  low := H.low
  xlt q e := Nat.lt_of_lt_of_le (H.xlt q e) hb.size
  base := Nat.le_trans H.base hb.size
theorem Fr.put (H : Fr B X w gs Ms Is k ms) {j gj k' : Nat} {st' : St} (hk : k ≤ k') (hj : gs[j]? = some gj) (hok : st'.ok) (ho : outP RepM w gj (Ms j) (Is j) k' st' w') :
    ∃ Ms' Is', Fr B X w' gs Ms' Is' k' (ms.set j st') ∧ Turn (fun q => B ≤ q ∧ ¬ X q) w w' := by
  obtain ⟨M', I', h1, h2, h3, h4⟩ := ho
  have hjl := (List.getElem?_eq_some_iff.1 hj).1
  have lt : ∀ i q, i < gs.length → Ms i q ∨ Is i q → q < w.heap.size := fun i q hi e =>
    MbP.memD_ok.lt (H.mem i _ _ (List.getElem?_eq_getElem hi) (List.getElem?_eq_getElem (by rw [← H.len]; exact hi))) q e
  refine ⟨fun i => if i = j then M' else Ms i, fun i => if i = j then I' else Is i, ?_, h4.mono fun q e => H.low j q hjl e⟩
  refine { len := by rw [List.length_set]; exact H.len, mem := fun i gi st e1 e2 => ?_, ok := set_ok H.ok j hok, ap := fun i l q hi hl hne e e2 => ?_, low := fun i q hi e => ?_, xlt := fun q e => Nat.lt_of_lt_of_le (H.xlt q e) h4.size, base := Nat.le_trans H.base h4.size }
  · by_cases e : i = j
    · subst e
      rw [hj] at e1
      cases e1
      rw [List.getElem?_set_self (by rw [← H.len]; exact hjl)] at e2
      cases e2
      rw [if_pos rfl, if_pos rfl]
      exact h1
    · rw [List.getElem?_set_ne (fun x => e x.symm)] at e2
      rw [if_neg e, if_neg e]
      exact MbP.memD_ok.mono (MbP.memD_ok.frame (H.mem i gi st e1 e2) h4 fun q x y => H.ap j i q hjl (List.getElem?_eq_some_iff.1 e1).1 (fun z => e z.symm) y x) hk
  · replace e : (if i = j then M' else Ms i) q := e
    replace e2 : (if l = j then M' else Ms l) q ∨ (if l = j then I' else Is l) q := e2
    by_cases c : i = j
    · rw [if_pos c] at e
      rw [if_neg (fun z => hne (c.trans z.symm)), if_neg (fun z => hne (c.trans z.symm))] at e2
      rcases h2 q e with x | x
      · exact H.ap j l q hjl hl (fun z => hne (c.trans z)) x e2
      · have := lt l q hl e2; omega
    · rw [if_neg c] at e
      by_cases d : l = j
      · rw [if_pos d, if_pos d] at e2
        have hq := lt i q hi (.inl e)
        rcases e2 with x | x
        · rcases h2 q x with y | y
          · exact H.ap i j q hi hjl c e (.inl y)
          · omega
        · rcases h3 q x with y | y | y
          · exact H.ap i j q hi hjl c e (.inl y)
          · exact H.ap i j q hi hjl c e (.inr y)
          · omega
      · rw [if_neg d, if_neg d] at e2
        exact H.ap i l q hi hl hne e e2
  · replace e : (if i = j then M' else Ms i) q := e
    by_cases c : i = j
    · rw [if_pos c] at e
      rcases h2 q e with x | x
      · exact H.low j q hjl x
      · exact ⟨Nat.le_trans H.base x, fun y => by have := H.xlt q y; omega⟩
    · rw [if_neg c] at e
      exact H.low i q hi e
end
end BuP
end Go.Proofs.Ytablkaofaedpeaa
set_option maxRecDepth 100000
namespace Go.Proofs.Ytablkaofaedpeaa
open Go.ChangeShapes Go.WideShapes Go.ChangeAt Go.RowKit
attribute [local go_sem] Gives GivesE
namespace BuP
open BuM MbM MbP
def ms0 : List St := [made 4, made 4]
set_option maxHeartbeats 8000000 in
set_option maxRecDepth 100000 in
theorem replay_law {repB : RepB} (hC : BusC repB) {W : World} {A1 : Option Addr} {la1 : List ActB} {n1 c1 : Nat} (h1 : Sli 99 abL (fun b => b < W.heap.size) W A1 la1 n1 c1) (b1 : ∀ a ∈ la1, ∀ j, a.s j < 256) :
    Calls Try.prog 6 #[.slice A1 n1 c1] W fun e w' => e = .returned (.bool true) ∧ Below W.heap.size W w' := by
  have L1 := hid h1
  have K1 := hid b1
  have hl1 := h1.len
  clear h1 b1
  go_enter Try.func6, Try.ntmps6
  by_cases x1 : 60 < n1
  · have t1 : decide (60 < n1) = true := by simp; omega
    go_wp2_with fail
    refine (awake_any hC W).mono ?_
    rintro e w2 ⟨rfl, h2⟩
    go_wp2_with fail
    go_ret
    exact ⟨rfl, h2⟩
  · have t1 : decide (60 < n1) = false := by simp; omega
    have u1 : n1 ≤ 60 := by omega
    clear x1
    go_wp2_with fail
    clear t1
    refine (two_any hC (w := W) (steps := []) (sl := []) (S := fun _ => True) (Sp := fun _ => False) (Sli.nil _ _ _ _) rfl (by omega) (fun s' y hy => by cases hy) (fun q e => e.elim)).mono ?_
    rintro e w3 ⟨g, m1, m2, F, rfl, hP, hgs, hm, hr, h3⟩
    have AL := hid (show Alone repB W w3 g m1 m2 F 0 (two []) from ⟨hP, hgs, hm, h3⟩)
    clear hP hgs hm hr h3
    unfold MbP.at'
    go_wp2_with fail
    go_loopw [6] (fun u wr => ∃ (i : Nat) (F' : Fq) (b : Bs), u = .int .i64 i ∧ i ≤ n1 ∧ Hid (Alone repB W wr g m1 m2 F' (2 * i) b) ∧ Hid (b.steps = [] ∧ b.ms = repl ms0 b.log ∧ b.ms.length = 2 ∧ (∀ x ∈ b.log, okEnt b.ms.length x))) (fun u _ => n1 - (intOf u).toNat)
    case atStart => exact ⟨0, F, _, rfl, Nat.zero_le _, AL, hid ⟨rfl, rfl, rfl, fun x hx => by cases hx⟩⟩
    case round =>
      clear AL
      obtain ⟨i, F', b, rfl, hi, HAL, HBB⟩ := hrel
      by_cases hin : i < n1
      · have t1 : (i : Int) < (n1 : Int) := by omega
        obtain ⟨a, ha⟩ : ∃ a, la1[i]? = some a := ⟨_, List.getElem?_eq_getElem (by omega)⟩
        obtain ⟨bA, oA, rfl, hbS, hbl, hr⟩ := L1.out.some ha
        have R1 := hid (show wr.rangeAt bA (oA + i * 99) (abL a).toArray.toList from fun j v hj => (HAL.out.bel.cell (p := ⟨bA, oA + i * 99 + j, none⟩) hbl).trans (hr j v (by simpa using hj)))
        have HKA := hid (K1.out a (List.mem_of_getElem? ha))
        clear hr ha
        go_wp2_with ((with_reducible apply ldR (cs := (abL a).toArray) (tAb a)); rfl; exact R1.out)
        refine (over_any hC HAL.out.pp (by have := HBB.out.1; rw [this]; show 2 * i + 0 + 2 ≤ _; omega) a HKA.out).mono ?_
        rintro e w4 ⟨rfl, ho⟩
        have ho' : outS repB wr g F' (2 * (i + 1)) (ovB b a (kind7 a.d)) w4 := by
          have := ho
          rw [HBB.out.1] at this
          exact this
        obtain ⟨F2, al2, _, _, _⟩ := HAL.out.out ho'
        have AL2 := hid al2
        have BB2 := hid (show (ovB b a (kind7 a.d)).steps = [] ∧ (ovB b a (kind7 a.d)).ms = repl ms0 (ovB b a (kind7 a.d)).log ∧ (ovB b a (kind7 a.d)).ms.length = 2 ∧ (∀ x ∈ (ovB b a (kind7 a.d)).log, okEnt (ovB b a (kind7 a.d)).ms.length x) by
          obtain ⟨e1, e2, e3, e4⟩ := HBB.out
          have e5 := ov_rep e1 a (kind7 a.d) e2
          have e6 := ov_okE e1 a HKA.out (kind7 a.d) e4
          have e7 : (ovB b a (kind7 a.d)).steps = [] ∧ (ovB b a (kind7 a.d)).ms.length = b.ms.length := by
            by_cases h6 : kind7 a.d = 6
            · rw [h6]; exact ⟨e1, rfl⟩
            · have hk := ov_kept b a _ h6
              exact ⟨hk.steps.trans e1, hk.ms⟩
          exact ⟨e7.1, e5, e7.2.trans e3, by rw [e7.2]; exact e6⟩)
        obtain ⟨b', hb'⟩ : ∃ z, z = ovB b a (kind7 a.d) := ⟨_, rfl⟩
        rw [← hb'] at AL2 BB2
        obtain ⟨ev, hev⟩ : ∃ z, z = ovE b a (kind7 a.d) := ⟨_, rfl⟩
        rw [← hev]
        clear ho ho' al2 hb' hev HAL HBB R1 HKA
        go_wp2_with fail
        go_roundw
        case rel => exact ⟨i + 1, F2, b', by go_num, by omega, AL2, BB2⟩
        case measure => simp [intOf] <;> omega
      · have t1 : decide ((i : Int) < (n1 : Int)) = false := by simp; omega
        obtain rfl : n1 = i := by omega
        obtain ⟨wB, hwB⟩ : ∃ z, z = wr := ⟨_, rfl⟩
        subst hwB
        have hll := hid (show b.log.length ≤ 200 by have := HAL.out.pp.sz.2.2.2.1; omega)
        obtain ⟨s1, hs1⟩ : ∃ x, b.ms[0]? = some x := ⟨_, List.getElem?_eq_getElem (by have := HBB.out.2.2.1; omega)⟩
        obtain ⟨s2, hs2⟩ : ∃ x, b.ms[1]? = some x := ⟨_, List.getElem?_eq_getElem (by have := HBB.out.2.2.1; omega)⟩
        have HS1 := hid hs1
        have HS2 := hid hs2
        have RM1 := hid (MbP.memD_ok.mono (HAL.out.pp.mem 0 m1 s1 (by rw [HAL.out.gs]; rfl) hs1) (show 2 * n1 ≤ 200 by omega))
        have RM2 := hid (MbP.memD_ok.mono (HAL.out.pp.mem 1 m2 s2 (by rw [HAL.out.gs]; rfl) hs2) (show 2 * n1 ≤ 200 by omega))
        have OK1 := hid (HAL.out.pp.ok.1 s1 (List.mem_of_getElem? hs1))
        have OK2 := hid (HAL.out.pp.ok.1 s2 (List.mem_of_getElem? hs2))
        clear hs1 hs2
        go_wp2_with fail
        refine (two_any hC (w := wB) (steps := []) (sl := []) (S := fun _ => True) (Sp := fun _ => False) (Sli.nil _ _ _ _) rfl (by omega) (fun s' y hy => by cases hy) (fun q e => e.elim)).mono ?_
        rintro e w4 ⟨g2, m3, m4, G, rfl, hP, hgs, hm, hr, h4⟩
        have PG := hid hP
        have GG := hid hgs
        have HM := hid hm
        have B4 := hid h4
        have AL4 := hid (HAL.out.below hC h4)
        have s4 := h4.size
        have BWB := hid HAL.out.bel
        clear hP hgs hm hr h4 HAL t1
        unfold MbP.at'
        go_upto_region 12 with ((with_reducible apply wlit2 eltPtP undPtP (x := m3) (y := m4)); omega; rfl; rfl; rfl; rfl)
        have a5 : Below w4.heap.size w4 (w4.alloc (.cells (ptL m3 ++ ptL m4).toArray 23)) := (Below.refl _ _).alloc (Nat.le_refl _) _
        have hl5 := sli_lit2 (S := fun q => q = w4.heap.size) eltPtP m3 m4 w4 rfl
        have z5 : (w4.alloc (.cells (ptL m3 ++ ptL m4).toArray 23)).heap.size = w4.heap.size + 1 := by simp
        generalize World.alloc w4 _ = w5 at a5 hl5 z5 ⊢
        have HL5 := hid hl5
        have B5 := hid (B4.out.trans (a5.mono B4.out.size))
        have AL5 := hid (AL4.out.below hC a5)
        have PG5 := hid (PG.out.below hC a5)
        have PG4 := hid PG.out
        clear a5 hl5 PG AL4
        go_wp2_with fail
        refine (hC.log AL5.out.pp (by omega)).mono ?_
        rintro e w6 ⟨v, rfl, ow, h6⟩
        obtain ⟨AV, cv, rfl, sl⟩ := ow.sli enL_len
        have SV := hid sl
        have B6 := hid (B5.out.trans (h6.mono B5.out.size))
        have s6 := h6.size
        obtain ⟨X, hX⟩ : ∃ X : Nat → Prop, X = fun q => w4.heap.size ≤ q ∧ q < w6.heap.size := ⟨_, rfl⟩
        have HX := hid (show ∀ q, X q ↔ w4.heap.size ≤ q ∧ q < w6.heap.size from fun q => by rw [hX])
        have FR := hid (show Fr wB.heap.size X w6 [m3, m4] G.Ms G.Is 0 (repl ms0 (b.log.take 0)) from by
          have P6 := PG5.out.below hC h6
          have hg2 : G.gs = [m3, m4] := GG.out
          refine { len := rfl, mem := fun i gi st e1 e2 => P6.mem i gi st (by rw [hg2]; exact e1) e2, ok := P6.ok.1, ap := fun i j q hi hj hne e e2 => ?_, low := fun i q hi e => ?_, xlt := fun q e => ((HX.out q).1 e).2, base := B6.out.size }
          · have hi' : i < G.gs.length := by rw [hg2]; exact hi
            have hj' : j < G.gs.length := by rw [hg2]; exact hj
            rcases e2 with e2 | e2
            · exact hne (P6.nd i j q hi' hj' e e2)
            · exact P6.sep q (.inr ⟨j, hj', e2⟩) (.inr (.inr ⟨i, hi', e⟩))
          · have hi' : i < G.gs.length := by rw [hg2]; exact hi
            have hmq : mutP G q := .inr (.inr ⟨i, hi', e⟩)
            refine ⟨HM.out q hmq, fun x => ?_⟩
            have h1 := ((HX.out q).1 x).1
            have h2 := B4.out
            have h3 := PG4.out.mlt q hmq
            omega)
        have SF := hid (show ∀ w', Turn (fun q => wB.heap.size ≤ q ∧ ¬ X q) w6 w' → ∀ mi gi, [m3, m4][mi]? = some gi → w'.cell? ⟨w4.heap.size, mi, none⟩ = some (.pointer (some ⟨gi, 0, none⟩)) from fun w' ht mi gi hgi => by
          obtain ⟨b5, o5, e5, hb5, hlt5, hr5⟩ := HL5.out.some hgi
          cases e5
          rw [Nat.mul_one, Nat.zero_add] at hr5
          have hc := (h6.cell (p := ⟨w4.heap.size, mi, none⟩) hlt5).trans (pt_p hr5)
          exact ht.cell (p := ⟨w4.heap.size, mi, none⟩) hc fun e => e.2 ((HX.out _).2 ⟨Nat.le_refl _, Nat.lt_of_lt_of_le hlt5 s6⟩))
        have SE := hid (show ∀ w', Turn (fun q => wB.heap.size ≤ q ∧ ¬ X q) w6 w' → ∀ (i : Nat) (x : BuM.Ent), b.log[i]? = some x → ∃ bL oL, AV = some ⟨bL, oL, none⟩ ∧ w'.rangeAt bL (oL + i * 68) (enL x) ∧ bL < w'.heap.size from fun w' ht i x hx => by
          obtain ⟨bL, oL, e5, hbL, hlt5, hr5⟩ := SV.out.some hx
          have hbL' : w5.heap.size ≤ bL := hbL
          exact ⟨bL, oL, e5, fun j u hj => ht.cell (p := ⟨bL, oL + i * 68 + j, none⟩) (hr5 j u hj) fun e => e.2 ((HX.out _).2 ⟨by show w4.heap.size ≤ bL; omega, hlt5⟩), Nat.lt_of_lt_of_le hlt5 ht.size⟩)
        have HEN := hid (show ∀ x ∈ b.log, okEnt 2 x from by have := HBB.out.2.2.2; rw [HBB.out.2.2.1] at this; exact this)
        clear ow sl h6 hX HL5 SV AL5 PG5 HM
        obtain ⟨nl, hnl⟩ : ∃ z, z = b.log.length := ⟨_, rfl⟩
        have HNL := hid hnl
        rw [← hnl]
        have hnl2 : nl ≤ 200 := by rw [hnl]; exact hll.out
        clear hnl
        go_wp2_with fail
        go_loopw [12] (fun u wr => ∃ (i : Nat) (Ms Is : Nat → Nat → Prop), u = .int .i64 i ∧ i ≤ nl ∧ Hid (Fr wB.heap.size X wr [m3, m4] Ms Is i (repl ms0 (b.log.take i))) ∧ Hid (Turn (fun q => wB.heap.size ≤ q ∧ ¬ X q) w6 wr)) (fun u _ => nl - (intOf u).toNat)
        case atStart => exact ⟨0, G.Ms, G.Is, rfl, Nat.zero_le _, FR, hid (Turn.refl _ _)⟩
        case round =>
          clear FR
          obtain ⟨i, Ms, Is, rfl, hi, HF, HT⟩ := hrel
          by_cases hin : i < nl
          · have t1 : (i : Int) < (nl : Int) := by omega
            obtain ⟨x, hx⟩ : ∃ x, b.log[i]? = some x := ⟨_, List.getElem?_eq_getElem (by rw [← HNL.out]; exact hin)⟩
            have OKX := hid (HEN.out x (List.mem_of_getElem? hx))
            have HXX := hid hx
            obtain ⟨bL, oL, rfl, hr, hbl⟩ := SE.out wr HT.out i x hx
            have q67 : wr.cell? ⟨bL, oL + i * 68 + 67, none⟩ = some (.int .i64 x.e) := en_e hr
            have qd : wr.cell? ⟨bL, oL + i * 68, none⟩ = some (.int .i64 x.d) := en_d hr
            have qm : wr.cell? ⟨bL, oL + i * 68 + 1, none⟩ = some (.int .i64 x.m) := en_m hr
            have qi : wr.cell? ⟨bL, oL + i * 68 + 2, none⟩ = some (.int .i64 x.i) := en_i hr
            have qs := hid (en_s hr)
            have HSN := hid (show repl ms0 (b.log.take (i + 1)) = rep1 (repl ms0 (b.log.take i)) x by rw [List.take_add_one, hx, Option.toList_some, repl_snoc])
            clear hr hx
            by_cases he : x.e = 0
            · rw [he] at q67
              by_cases hd2 : x.d = 2
              · rw [hd2] at qd
                obtain ⟨mi, hmi, hml⟩ := OKX.out.2 he (.inl hd2)
                rw [hmi] at qm
                obtain ⟨gi, hgi⟩ : ∃ gi, [m3, m4][mi]? = some gi := ⟨_, List.getElem?_eq_getElem (by simpa using hml)⟩
                have qf := SF.out wr HT.out mi gi hgi
                obtain ⟨st, hst⟩ : ∃ st, (repl ms0 (b.log.take i))[mi]? = some st := ⟨_, List.getElem?_eq_getElem (by rw [← HF.out.len]; simpa using hml)⟩
                have RX := hid (HF.out.mem mi gi st hgi hst)
                have HGI := hid hgi
                have HOK := hid (HF.out.ok st (List.mem_of_getElem? hst))
                have HNX := hid (show rep1 (repl ms0 (b.log.take i)) x = (repl ms0 (b.log.take i)).set mi (MbM.wrT st x.i x.s) by unfold rep1; rw [if_pos he, if_pos hd2, hmi, at_of hst, Int.toNat_natCast])
                have t9 : (mi : Int) < 2 := by omega
                have t9' : mi < 2 := hml
                have HBY := hid (OKX.out.1 hd2)
                clear hgi hst he hd2 hmi OKX
                go_upto_region 19 with fail
                refine wp_region_tail (C := fun w' => Below wr.heap.size wr w') 18 (by kernel_rfl) (by kernel_rfl) (by kernel_rfl) (Below.refl _ _).drew ?_
                simp only [List.take_succ_cons, List.take_zero, List.drop_succ_cons, List.drop_zero]
                apply wpK_val
                · rfl
                · intro w' hw'
                  go_simp
                  first | exact rfl | exact ⟨rfl, hw'⟩
                simp only [Act.put, List.setIfInBounds_toArray, List.set_cons_succ, List.set_cons_zero]
                apply wpK_val
                · rfl
                · intro w' hw'
                  go_simp
                  first | exact rfl | exact ⟨rfl, hw'⟩
                simp only [Act.put, List.setIfInBounds_toArray, List.set_cons_succ, List.set_cons_zero]
                apply wpK_val
                · rfl
                · intro w' hw'
                  go_simp
                  first | exact rfl | exact ⟨rfl, hw'⟩
                simp only [Act.put, List.setIfInBounds_toArray, List.set_cons_succ, List.set_cons_zero]
                apply wpK_val
                · rfl
                · intro w' hw'
                  go_simp
                  first | exact rfl | exact ⟨rfl, hw'⟩
                simp only [Act.put, List.setIfInBounds_toArray, List.set_cons_succ, List.set_cons_zero]
                apply wpK_val
                · rfl
                · intro w' hw'
                  go_simp
                  first | exact rfl | exact ⟨rfl, hw'⟩
                simp only [Act.put, List.setIfInBounds_toArray, List.set_cons_succ, List.set_cons_zero]
                apply wpK_val
                · rfl
                · intro w' hw'
                  have hcell := (hw'.cell (p := ⟨bL, oL + i * 68 + 1, none⟩) hbl).trans qm
                  go_simp
                  first | exact rfl | exact ⟨rfl, hw'⟩
                simp only [Act.put, List.setIfInBounds_toArray, List.set_cons_succ, List.set_cons_zero]
                apply wpK_val
                · rfl
                · intro w' hw'
                  go_simp
                  first | exact rfl | exact ⟨rfl, hw'⟩
                simp only [Act.put, List.setIfInBounds_toArray, List.set_cons_succ, List.set_cons_zero]
                apply wpK_val
                · rfl
                · intro w' hw'
                  have hcell := (hw'.cell (p := ⟨w4.heap.size, mi, none⟩) (World.block_lt_of_cell? wr _ qf)).trans qf
                  go_simp
                  first | exact rfl | exact ⟨rfl, hw'⟩
                simp only [Act.put, List.setIfInBounds_toArray, List.set_cons_succ, List.set_cons_zero]
                apply wpK_val
                · rfl
                · intro w' hw'
                  go_simp
                  first | exact rfl | exact ⟨rfl, hw'⟩
                simp only [Act.put, List.setIfInBounds_toArray, List.set_cons_succ, List.set_cons_zero]
                apply wpK_val
                · rfl
                · intro w' hw'
                  go_simp
                  first | exact rfl | exact ⟨rfl, hw'⟩
                simp only [Act.put, List.setIfInBounds_toArray, List.set_cons_succ, List.set_cons_zero]
                apply wpK_val
                · rfl
                · intro w' hw'
                  go_simp
                  first | exact rfl | exact ⟨rfl, hw'⟩
                simp only [Act.put, List.setIfInBounds_toArray, List.set_cons_succ, List.set_cons_zero]
                apply wpK_val
                · rfl
                · intro w' hw'
                  go_simp
                  first | exact rfl | exact ⟨rfl, hw'⟩
                simp only [Act.put, List.setIfInBounds_toArray, List.set_cons_succ, List.set_cons_zero]
                apply wpK_val
                · rfl
                · intro w' hw'
                  have hcell := (hw'.cell (p := ⟨bL, oL + i * 68 + 2, none⟩) hbl).trans qi
                  go_simp
                  first | exact rfl | exact ⟨rfl, hw'⟩
                simp only [Act.put, List.setIfInBounds_toArray, List.set_cons_succ, List.set_cons_zero]
                apply wpK_val
                · rfl
                · intro w' hw'
                  go_simp
                  first | exact rfl | exact ⟨rfl, hw'⟩
                simp only [Act.put, List.setIfInBounds_toArray, List.set_cons_succ, List.set_cons_zero]
                apply wpK_val
                · rfl
                · intro w' hw'
                  go_simp
                  first | exact rfl | exact ⟨rfl, hw'⟩
                simp only [Act.put, List.setIfInBounds_toArray, List.set_cons_succ, List.set_cons_zero]
                apply wpK_val
                · rfl
                · intro w' hw'
                  go_simp
                  first | exact rfl | exact ⟨rfl, hw'⟩
                simp only [Act.put, List.setIfInBounds_toArray, List.set_cons_succ, List.set_cons_zero]
                apply wpK_val
                · rfl
                · intro w' hw'
                  go_simp
                  first | exact rfl | exact ⟨rfl, hw'⟩
                simp only [Act.put, List.setIfInBounds_toArray, List.set_cons_succ, List.set_cons_zero]
                apply kldA tSe
                · rfl
                · rfl
                · exact fun w' hw' => (fun j v hj => (hw'.cell (p := ⟨bL, oL + i * 68 + 3 + j, none⟩) hbl).trans (qs.out j v hj))
                simp only [Act.put, List.setIfInBounds_toArray, List.set_cons_succ, List.set_cons_zero]
                intro w7 hC7
                have F7 := hid (HF.out.below hC7)
                have R7 := hid (MbP.memD_ok.frame RX.out (Turn.of_new (S := fun _ => False) hC7) fun _ _ e => e)
                have T7 := hid (HT.out.trans (Turn.of_new (S := fun _ => False) hC7) fun _ e => e.elim)
                clear hC7 HF RX HT qd qm qi qs q67 qf
                go_wp2_with fail
                refine (MbP.memD_ok.write R7.out HOK.out (by omega) x.i x.s HBY.out).mono ?_
                rintro e w8 ⟨rfl, ho⟩
                obtain ⟨Ms8, Is8, f8, t8⟩ := F7.out.put (Nat.le_succ i) HGI.out (wr_ok HOK.out x.i HBY.out) ho
                have F8 := hid (show Fr wB.heap.size X w8 [m3, m4] Ms8 Is8 (i + 1) (repl ms0 (b.log.take (i + 1))) by rw [HSN.out, HNX.out]; exact f8)
                have T8 := hid (T7.out.trans t8 fun q e => .inl e)
                obtain ⟨ev, hev⟩ : ∃ z, z = rdE st x.i := ⟨_, rfl⟩
                rw [← hev]
                clear ho f8 t8 hev F7 T7 R7
                go_wp2_with fail
                go_roundw
                case rel => exact ⟨i + 1, Ms8, Is8, by go_num, by omega, F8, T8⟩
                case measure => simp [intOf] <;> omega
              · have v2 : decide (x.d = 2) = false := by simp; omega
                have v2' : (x.d == 2) = false := by simp; omega
                by_cases hd3 : x.d = 3
                · rw [hd3] at qd
                  obtain ⟨mi, hmi, hml⟩ := OKX.out.2 he (.inr hd3)
                  rw [hmi] at qm
                  obtain ⟨gi, hgi⟩ : ∃ gi, [m3, m4][mi]? = some gi := ⟨_, List.getElem?_eq_getElem (by simpa using hml)⟩
                  have qf := SF.out wr HT.out mi gi hgi
                  obtain ⟨st, hst⟩ : ∃ st, (repl ms0 (b.log.take i))[mi]? = some st := ⟨_, List.getElem?_eq_getElem (by rw [← HF.out.len]; simpa using hml)⟩
                  have RX := hid (HF.out.mem mi gi st hgi hst)
                  have HGI := hid hgi
                  have HOK := hid (HF.out.ok st (List.mem_of_getElem? hst))
                  have HNX := hid (show rep1 (repl ms0 (b.log.take i)) x = (repl ms0 (b.log.take i)).set mi (MbM.flT st) by unfold rep1; rw [if_pos he, if_neg hd2, if_pos hd3, hmi, at_of hst, Int.toNat_natCast])
                  have t9 : (mi : Int) < 2 := by omega
                  have t9' : mi < 2 := hml
                  clear hgi hst he hd2 hd3 hmi OKX v2 v2'
                  go_wp2_with fail
                  refine (MbP.memD_ok.flush RX.out HOK.out (by omega)).mono ?_
                  rintro e w8 ⟨rfl, ho⟩
                  obtain ⟨Ms8, Is8, f8, t8⟩ := HF.out.put (Nat.le_succ i) HGI.out (fl_ok HOK.out) ho
                  have F8 := hid (show Fr wB.heap.size X w8 [m3, m4] Ms8 Is8 (i + 1) (repl ms0 (b.log.take (i + 1))) by rw [HSN.out, HNX.out]; exact f8)
                  have T8 := hid (HT.out.trans t8 fun q e => .inl e)
                  obtain ⟨ev, hev⟩ : ∃ z, z = MbM.flE st := ⟨_, rfl⟩
                  rw [← hev]
                  clear ho f8 t8 hev HF HT RX qd qm qi qs q67 qf
                  go_wp2_with fail
                  go_roundw
                  case rel => exact ⟨i + 1, Ms8, Is8, by go_num, by omega, F8, T8⟩
                  case measure => simp [intOf] <;> omega
                · have v3 : decide (x.d = 3) = false := by simp; omega
                  have v3' : (x.d == 3) = false := by simp; omega
                  have F8 := hid (show Fr wB.heap.size X wr [m3, m4] Ms Is (i + 1) (repl ms0 (b.log.take (i + 1))) by
                    rw [HSN.out, show rep1 (repl ms0 (b.log.take i)) x = repl ms0 (b.log.take i) from by unfold rep1; rw [if_pos he, if_neg hd2, if_neg hd3]]
                    exact ⟨HF.out.len, fun j gj st e1 e2 => MbP.memD_ok.mono (HF.out.mem j gj st e1 e2) (Nat.le_succ i), HF.out.ok, HF.out.ap, HF.out.low, HF.out.xlt, HF.out.base⟩)
                  clear HF he hd2 hd3
                  go_wp2_with fail
                  go_roundw
                  case rel => exact ⟨i + 1, Ms, Is, by go_num, by omega, F8, HT⟩
                  case measure => simp [intOf] <;> omega
            · have v0 : decide (x.e = 0) = false := by simp; omega
              have v0' : (x.e == 0) = false := by simp; omega
              have v0'' : (x.e != 0) = true := by simp; omega
              have F8 := hid (show Fr wB.heap.size X wr [m3, m4] Ms Is (i + 1) (repl ms0 (b.log.take (i + 1))) by
                rw [HSN.out, show rep1 (repl ms0 (b.log.take i)) x = repl ms0 (b.log.take i) from by unfold rep1; rw [if_neg he]]
                exact ⟨HF.out.len, fun j gj st e1 e2 => MbP.memD_ok.mono (HF.out.mem j gj st e1 e2) (Nat.le_succ i), HF.out.ok, HF.out.ap, HF.out.low, HF.out.xlt, HF.out.base⟩)
              clear HF
              go_wp2_with fail
              go_roundw
              case rel => exact ⟨i + 1, Ms, Is, by go_num, by omega, F8, HT⟩
              case measure => simp [intOf] <;> omega
          · have t1 : decide ((i : Int) < (nl : Int)) = false := by simp; omega
            have hi2 : i = nl := by omega
            have hms : repl ms0 (b.log.take i) = b.ms := by rw [hi2, HNL.out, List.take_length]; exact HBB.out.2.1.symm
            have F9 := hid (show Fr wB.heap.size X wr [m3, m4] Ms Is 200 b.ms by
              rw [← hms]
              exact ⟨HF.out.len, fun j gj st e1 e2 => MbP.memD_ok.mono (HF.out.mem j gj st e1 e2) (by omega), HF.out.ok, HF.out.ap, HF.out.low, HF.out.xlt, HF.out.base⟩)
            have B9 := hid (B6.out.trans ((HT.out.below (B := wB.heap.size) B6.out.size fun q e => e.1)))
            have BW := hid (BWB.out.trans (B9.out.mono BWB.out.size))
            have fr1 : ∀ {gg : Nat} {M I : Nat → Prop} {st : St} {w' : World}, RepM wB gg M I 200 st → Below wB.heap.size wB w' → RepM w' gg M I 200 st := fun h hb => MbP.memD_ok.frame h (Turn.of_new (S := fun _ => False) hb) fun _ _ e => e
            obtain ⟨w9, hw9⟩ : ∃ z, z = wr := ⟨_, rfl⟩
            subst hw9
            have Q1 := hid (fr1 RM1.out B9.out)
            have Q2 := hid (fr1 RM2.out B9.out)
            have Q3 := hid (F9.out.mem 0 m3 s1 rfl HS1.out)
            have Q4 := hid (F9.out.mem 1 m4 s2 rfl HS2.out)
            clear fr1 HF HT hms hi2 F9 B9 RM1 RM2 SF SE HEN
            go_wp2_with fail
            go_loopw [13] (fun u wr => ∃ j : Nat, u = .int .i64 j ∧ j ≤ 4 ∧ Hid (Below w9.heap.size w9 wr)) (fun u _ => 4 - (intOf u).toNat)
            case atStart => exact ⟨0, rfl, by omega, hid (Below.refl _ _)⟩
            case round =>
              obtain ⟨j, rfl, hj, HV⟩ := hrel
              have fr : ∀ {gg : Nat} {M I : Nat → Prop} {st : St} {w' : World}, RepM w9 gg M I 200 st → Below w9.heap.size w9 w' → RepM w' gg M I 200 st := fun h hb => MbP.memD_ok.frame h (Turn.of_new (S := fun _ => False) hb) fun _ _ e => e
              by_cases hj4 : j < 4
              · have t3 : (j : Int) < 4 := by omega
                obtain ⟨v1, hv1⟩ : ∃ z, z = lkS s1 (j : Int) := ⟨_, rfl⟩
                obtain ⟨v2, hv2⟩ : ∃ z, z = rdS s2 (j : Int) := ⟨_, rfl⟩
                have HV1 := hid hv1
                have HV2 := hid hv2
                clear hv1 hv2
                go_wp2_with fail
                refine (MbP.memD_ok.look (fr Q1.out HV.out) OK1.out (by omega) (j : Int)).mono ?_
                rintro e uX ⟨rfl, h5⟩
                rw [← HV1.out]
                go_upto_region 26 with (first | (with_reducible apply alA tSe) | ((with_reducible apply stA tSe); rfl; rfl; exact Blk.new _ _ _))
                generalize hwX : World.setRow _ _ _ = wX
                have b6 : Below uX.heap.size uX wX := by rw [← hwX]; exact below_setRow ((Below.refl _ _).alloc (Nat.le_refl _) _) (Nat.le_refl _) _
                have SX := hid (show Blk wX uX.heap.size 30 (ar 64 v1) by rw [← hwX]; exact (Blk.new uX _ _).setRow_same _)
                replace HV := hid (HV.out.trans ((h5.trans (b6.mono h5.size)).mono HV.out.size))
                obtain ⟨gX, hgX⟩ : ∃ n, n = uX.heap.size := ⟨_, rfl⟩
                rw [← hgX] at SX ⊢
                clear hwX b6 h5 hgX
                go_wp2_with fail
                refine (MbP.memD_ok.look (fr Q3.out HV.out) OK1.out (by omega) (j : Int)).mono ?_
                rintro e uY ⟨rfl, h5⟩
                rw [← HV1.out]
                go_upto_region 27 with (first | (with_reducible apply alA tSe) | ((with_reducible apply stA tSe); rfl; rfl; exact Blk.new _ _ _))
                generalize hwY : World.setRow _ _ _ = wY
                have b6 : Below uY.heap.size uY wY := by rw [← hwY]; exact below_setRow ((Below.refl _ _).alloc (Nat.le_refl _) _) (Nat.le_refl _) _
                have SY := hid (show Blk wY uY.heap.size 30 (ar 64 v1) by rw [← hwY]; exact (Blk.new uY _ _).setRow_same _)
                replace SX := hid (SX.out.below (h5.trans (b6.mono h5.size)) SX.out.lt)
                replace HV := hid (HV.out.trans ((h5.trans (b6.mono h5.size)).mono HV.out.size))
                obtain ⟨gY, hgY⟩ : ∃ n, n = uY.heap.size := ⟨_, rfl⟩
                rw [← hgY] at SY ⊢
                clear hwY b6 h5 hgY
                go_wp2_with fail
                refine (MbP.memD_ok.read (fr Q2.out HV.out) OK2.out (by omega) (j : Int)).mono ?_
                rintro e uZ ⟨rfl, h5⟩
                rw [← HV2.out]
                go_upto_region 28 with (first | (with_reducible apply alA tSe) | ((with_reducible apply stA tSe); rfl; rfl; exact Blk.new _ _ _))
                generalize hwZ : World.setRow _ _ _ = wZ
                have b6 : Below uZ.heap.size uZ wZ := by rw [← hwZ]; exact below_setRow ((Below.refl _ _).alloc (Nat.le_refl _) _) (Nat.le_refl _) _
                have SZ := hid (show Blk wZ uZ.heap.size 30 (ar 64 v2) by rw [← hwZ]; exact (Blk.new uZ _ _).setRow_same _)
                replace SX := hid (SX.out.below (h5.trans (b6.mono h5.size)) SX.out.lt)
                replace SY := hid (SY.out.below (h5.trans (b6.mono h5.size)) SY.out.lt)
                replace HV := hid (HV.out.trans ((h5.trans (b6.mono h5.size)).mono HV.out.size))
                obtain ⟨gZ, hgZ⟩ : ∃ n, n = uZ.heap.size := ⟨_, rfl⟩
                rw [← hgZ] at SZ ⊢
                clear hwZ b6 h5 hgZ
                go_wp2_with fail
                refine (MbP.memD_ok.read (fr Q4.out HV.out) OK2.out (by omega) (j : Int)).mono ?_
                rintro e uT ⟨rfl, h5⟩
                rw [← HV2.out]
                go_upto_region 29 with (first | (with_reducible apply alA tSe) | ((with_reducible apply stA tSe); rfl; rfl; exact Blk.new _ _ _))
                generalize hwT : World.setRow _ _ _ = wT
                have b6 : Below uT.heap.size uT wT := by rw [← hwT]; exact below_setRow ((Below.refl _ _).alloc (Nat.le_refl _) _) (Nat.le_refl _) _
                have ST := hid (show Blk wT uT.heap.size 30 (ar 64 v2) by rw [← hwT]; exact (Blk.new uT _ _).setRow_same _)
                replace SX := hid (SX.out.below (h5.trans (b6.mono h5.size)) SX.out.lt)
                replace SY := hid (SY.out.below (h5.trans (b6.mono h5.size)) SY.out.lt)
                replace SZ := hid (SZ.out.below (h5.trans (b6.mono h5.size)) SZ.out.lt)
                replace HV := hid (HV.out.trans ((h5.trans (b6.mono h5.size)).mono HV.out.size))
                obtain ⟨gT, hgT⟩ : ∃ n, n = uT.heap.size := ⟨_, rfl⟩
                rw [← hgT] at ST ⊢
                clear hwT b6 h5 hgT
                refine wp_region_fixed (C := fun w' => Below wT.heap.size wT w') 8 (Below.refl _ _) ?_
                simp only [List.take_succ_cons, List.take_zero, List.drop_succ_cons, List.drop_zero]
                apply kldA tSe
                · rfl
                · rfl
                · exact fun w' hw' => (SX.out.below hw' SX.out.lt).head
                simp only [Act.put, List.setIfInBounds_toArray, List.set_cons_succ, List.set_cons_zero]
                apply kldA tSe
                · rfl
                · rfl
                · exact fun w' hw' => (SY.out.below hw' SY.out.lt).head
                simp only [Act.put, List.setIfInBounds_toArray, List.set_cons_succ, List.set_cons_zero]
                apply kneU false uSe' gSe'
                · rfl
                · rfl
                · rfl
                · exact (by rw [eqA_yes fun _ _ => rfl]; rfl)
                simp only [Act.put, List.setIfInBounds_toArray, List.set_cons_succ, List.set_cons_zero]
                apply wpK_val
                · rfl
                · intro w' hw'
                  go_simp
                  first | exact rfl | exact ⟨rfl, hw'⟩
                simp only [Act.put, List.setIfInBounds_toArray, List.set_cons_succ, List.set_cons_zero]
                apply kldA tSe
                · rfl
                · rfl
                · exact fun w' hw' => (SZ.out.below hw' SZ.out.lt).head
                simp only [Act.put, List.setIfInBounds_toArray, List.set_cons_succ, List.set_cons_zero]
                apply kldA tSe
                · rfl
                · rfl
                · exact fun w' hw' => (ST.out.below hw' ST.out.lt).head
                simp only [Act.put, List.setIfInBounds_toArray, List.set_cons_succ, List.set_cons_zero]
                apply kneU false uSe' gSe'
                · rfl
                · rfl
                · rfl
                · exact (by rw [eqA_yes fun _ _ => rfl]; rfl)
                simp only [Act.put, List.setIfInBounds_toArray, List.set_cons_succ, List.set_cons_zero]
                apply wpK_val
                · rfl
                · intro w' hw'
                  go_simp
                  first | exact rfl | exact ⟨rfl, hw'⟩
                simp only [Act.put, List.setIfInBounds_toArray, List.set_cons_succ, List.set_cons_zero]
                intro wq hCq
                have HVq := hid (HV.out.trans (hCq.mono HV.out.size))
                clear hCq SX SY SZ ST HV HV1 HV2 fr
                go_wp2_with fail
                go_roundw
                case rel => exact ⟨j + 1, by go_num, by omega, HVq⟩
                case measure => simp [intOf] <;> omega
              · have t3 : decide ((j : Int) < 4) = false := by simp; omega
                obtain ⟨c1, hc1⟩ : ∃ z, z = s1.log.length := ⟨_, rfl⟩
                obtain ⟨c2, hc2⟩ : ∃ z, z = s2.log.length := ⟨_, rfl⟩
                have U1 := hid (show ∀ w', Below w9.heap.size w9 w' → Calls Try.prog 33 #[.pointer (some ⟨m1, 0, none⟩)] w' fun e w2 => e = .returned (.int .i64 (c1 : Nat)) ∧ Below w'.heap.size w' w2 from fun w' hb => by rw [hc1]; exact MbP.memD_ok.unflushed (fr Q1.out hb))
                have U2 := hid (show ∀ w', Below w9.heap.size w9 w' → Calls Try.prog 33 #[.pointer (some ⟨m2, 0, none⟩)] w' fun e w2 => e = .returned (.int .i64 (c2 : Nat)) ∧ Below w'.heap.size w' w2 from fun w' hb => by rw [hc2]; exact MbP.memD_ok.unflushed (fr Q2.out hb))
                have U3 := hid (show ∀ w', Below w9.heap.size w9 w' → Calls Try.prog 33 #[.pointer (some ⟨m3, 0, none⟩)] w' fun e w2 => e = .returned (.int .i64 (c1 : Nat)) ∧ Below w'.heap.size w' w2 from fun w' hb => by rw [hc1]; exact MbP.memD_ok.unflushed (fr Q3.out hb))
                have U4 := hid (show ∀ w', Below w9.heap.size w9 w' → Calls Try.prog 33 #[.pointer (some ⟨m4, 0, none⟩)] w' fun e w2 => e = .returned (.int .i64 (c2 : Nat)) ∧ Below w'.heap.size w' w2 from fun w' hb => by rw [hc2]; exact MbP.memD_ok.unflushed (fr Q4.out hb))
                clear hc1 hc2 Q1 Q2 Q3 Q4 OK1 OK2 fr
                go_wp2_with fail
                refine (U1.out wr HV.out).mono ?_
                rintro e wa ⟨rfl, ha⟩
                have VA := hid (HV.out.trans (ha.mono HV.out.size))
                clear ha
                go_wp2_with fail
                refine (U3.out wa VA.out).mono ?_
                rintro e wb ⟨rfl, hb⟩
                have VB := hid (VA.out.trans (hb.mono VA.out.size))
                clear hb
                go_wp2_with fail
                refine (U2.out wb VB.out).mono ?_
                rintro e wc ⟨rfl, hc⟩
                have VC := hid (VB.out.trans (hc.mono VB.out.size))
                clear hc
                go_wp2_with fail
                refine (U4.out wc VC.out).mono ?_
                rintro e wd ⟨rfl, hd⟩
                have VD := hid (VC.out.trans (hd.mono VC.out.size))
                clear hd VA VB VC HV U1 U2 U3 U4
                go_wp2_with fail
                refine (awake_any hC wd).mono ?_
                rintro e wx ⟨rfl, h7⟩
                have B7 := hid ((BW.out.trans (VD.out.mono BW.out.size)).trans (h7.mono (Nat.le_trans BW.out.size VD.out.size)))
                clear h7 VD BW
                go_wp2_with fail
                go_ret
                exact ⟨rfl, B7.out⟩
end BuP
end Go.Proofs.Ytablkaofaedpeaa
set_option maxRecDepth 100000
namespace Go.Proofs.Ytablkaofaedpeaa
open Go.ChangeShapes Go.WideShapes Go.ChangeAt Go.RowKit
attribute [local go_sem] Gives GivesE
namespace BuP
open BuM MbM MbP MpV
set_option maxHeartbeats 1000000 in
set_option maxRecDepth 100000 in
theorem lb_bad {w : World} {A : Option Addr} {gs : List Nat} {n c gc : Nat} {As : Option Addr} {ns cs : Nat} {Ms Is : Nat → Nat → Prop} {S : Nat → Prop} {Mc : Nat → Prop} {hist : List ClP.Held} {cv : ClP.Held} {k : Nat} {ms : List St}
    (hA : Sli 1 ptL S w A gs n c) (hgm : gs.length = ms.length) (hme : ∀ (i gi : Nat) (st : St), gs[i]? = some gi → ms[i]? = some st → RepM w gi (Ms i) (Is i) k st ∧ 1 ≤ st.n) (hn : n = 0 ∨ 64 < n) (hn2 : n ≤ 1000) (hce : repCb w gc Mc hist cv) :
    Calls Try.prog 23 #[.slice A n c, MbP.at' gc, .slice As ns cs] w fun e w' => e = .returned (.tuple #[.pointer none, .int .i64 2]) ∧ Below w.heap.size w w' := by
  have HA := hid hA
  have HM := hid hme
  have HC := hid hce
  have HG := hid hgm
  have hgn := hid hA.len
  have HN := hid hn
  clear hA hme hce hgm hn
  unfold MbP.at'
  go_enter Try.func23, Try.ntmps23
  go_wp2_with fail
  refine (cb_read HC.out).mono ?_
  rintro e w2 ⟨rfl, hb2⟩
  have B2 := hid hb2
  clear hb2
  go_upto_region 2 with (first | (with_reducible apply alZ' ClP.zCe) | ((with_reducible apply stR (ClP.tCe cv)); rfl; rfl; exact Blk.new _ _ _; exact ClP.ce_size _ _; exact ClP.ce_one _))
  generalize hw3 : World.setRow _ _ _ = w3
  have B3 := hid (show Below w.heap.size w w3 by rw [← hw3]; exact B2.out.trans (below_setRow ((Below.refl _ _).alloc (Nat.le_refl _) _) (Nat.le_refl _) _ |>.mono B2.out.size))
  clear hw3 B2
  go_wp2_with fail
  go_loopw [22] (fun u22 wr => ∃ i : Nat, u22 = .int .i64 i ∧ i ≤ n ∧ Hid (Below w.heap.size w wr)) (fun u22 _ => n - (intOf u22).toNat)
  case atStart => exact ⟨0, rfl, Nat.zero_le _, B3⟩
  case round =>
    clear B3
    obtain ⟨i, rfl, hi, HB⟩ := hrel
    obtain ⟨wo, hwo⟩ : ∃ x, x = wr := ⟨_, rfl⟩
    subst hwo
    by_cases hin : i < n
    · have t1 : (i : Int) < (n : Int) := by omega
      obtain ⟨gi, hgi⟩ : ∃ gi, gs[i]? = some gi := ⟨_, List.getElem?_eq_getElem (by rw [hgn.out]; exact hin)⟩
      obtain ⟨st, hst⟩ : ∃ st, ms[i]? = some st := ⟨_, List.getElem?_eq_getElem (by rw [← HG.out, hgn.out]; exact hin)⟩
      obtain ⟨bA, oA, rfl, hbS, hbl, hr⟩ := HA.out.some hgi
      rw [Nat.mul_one] at hr
      have q1 : wo.cell? ⟨bA, oA + i, none⟩ = some (.pointer (some ⟨gi, 0, none⟩)) := (HB.out.cell (p := ⟨bA, oA + i, none⟩) hbl).trans (pt_p hr)
      obtain ⟨hrm, hst1⟩ := HM.out i gi st hgi hst
      have RMi := hid (MbP.memD_ok.frame hrm (T := fun _ => False) (Turn.of_new HB.out) fun _ _ e => e)
      have t2 : decide (st.n = 0) = false := by simp; omega
      have t2b : (st.n == 0) = false := by simp; omega
      have t2c : ¬ st.n = 0 := by omega
      clear hgi hst hr hrm
      go_upto_region 7 with fail
      go_wp2_with fail
      refine (MbP.memD_ok.len RMi.out).mono ?_
      rintro e w4 ⟨rfl, hb⟩
      have B4 := hid (HB.out.trans (hb.mono HB.out.size))
      clear hb q1 RMi HB
      go_wp2_with fail
      go_roundw
      case rel => exact ⟨i + 1, by go_num, by omega, B4⟩
      case measure => simp [intOf] <;> omega
    · have t1 : decide ((i : Int) < (n : Int)) = false := by simp; omega
      obtain rfl : i = n := by omega
      have hn := HN.out
      rcases hn with h0 | h64
      · subst h0
        have t0 : decide (((0 : Nat) : Int) = 0) = true := rfl
        clear HN
        go_wp2_with fail
        go_ret2
        exact ⟨rfl, HB.out⟩
      · have t0 : decide ((i : Int) = 0) = false := by simp; omega
        have t0b : ((i : Int) == 0) = false := by simp; omega
        have tn0 : ¬ i = 0 := by omega
        have t64 : decide ((64 : Int) < (i : Int)) = true := by simp; omega
        have t64b : 64 < i := h64
        clear HN
        go_wp2_with fail
        go_ret2
        exact ⟨rfl, HB.out⟩
/-- The landed bus keeps the contracts. -/
theorem bus_ok : BusC (RepK 0) where
  frame h ht hT := repK_frame h ht hT
  new hA hgm hme h1 h2 hce hS hsl hns hp := lb_new hA hgm hme h1 h2 hce hS hsl hns hp
  bad hA hgm hme hn h2 hce _ _ _ := lb_bad hA hgm hme hn h2 hce
  read H hk m i := lb_read H hk m i
  write H hk m i x hx := lb_write H hk m i x hx
  flush H hk m := lb_flush H hk m
  cell H hk := lb_cell H hk
  adv H hk t := lb_adv H hk t
  power H := lb_power H
  count H := lb_count H
  off H := lb_off H
  members H := lb_members H
  sectors H m := lb_sectors H m
  log H hk := lb_log H hk
end BuP
end Go.Proofs.Ytablkaofaedpeaa
set_option maxRecDepth 100000
namespace Go.Proofs.Ytablkaofaedpeaa
open Go.ChangeShapes Go.WideShapes Go.ChangeAt Go.RowKit
attribute [local go_sem] Gives GivesE
namespace BuP
open BuM MbM MbP MpV
theorem nc_made (w : World) : Calls Try.prog 60 #[.pointer none] w fun e w' => e = .returned (.bool false) ∧ w = w' := by
  go_enter Try.func60, Try.ntmps60
  go_wp2_with fail
  go_ret
  exact ⟨rfl, rfl⟩
theorem run_ce0 (w : World) : (Instr.build 43 #[]).run Try.prog w = .ok (.agg (ClP.ceL (0, ClP.zero)).toArray) w := run_build w _ _ _ (by kernel_rfl)
theorem wblCe0 {ops : Array Oper} {Q : Exit → Act → World → Prop} {a : Act} {w : World} {rest : List Oper} {dst : Option Tmp} {ty : TypeId} {pos : String} {after : Array Edge} (hk : wpList Try.prog ops Q rest (a.put dst (.agg (ClP.ceL (0, ClP.zero)).toArray)) w) : wpList Try.prog ops Q (⟨dst, .build 43 #[], ty, pos, after, none⟩ :: rest) a w := by
  have hm : (#[] : Array (Nat × Operand)).map (fun (i, x) => (i, a.eval x)) = #[] := by simp
  refine wpList_plain rfl fun K hK => ?_
  unfold Oper.wp execOp
  simp only [Sem.run_bind, hm, run_ce0, Result.andThen_ok, Sem.run_pure]
  exact hK _ _ hk
set_option maxRecDepth 100000 in
theorem nc_read (w : World) : Calls Try.prog 43 #[.pointer none] w fun e w' => e = .returned (.tuple #[.agg (ClP.ceL (0, ClP.zero)).toArray, .int .i64 1]) ∧ Below w.heap.size w w' := by
  go_enter Try.func43, Try.ntmps43
  go_upto_region 1 with (with_reducible apply alZ' ClP.zCe)
  generalize hw1 : World.alloc w _ = w1
  have b1 := hid (show Blk w1 w.heap.size 43 (ClP.ceL (0, ClP.zero)).toArray by rw [← hw1]; exact Blk.new _ _ _)
  have BEL := hid (show Below w.heap.size w w1 by rw [← hw1]; exact (Below.refl _ _).alloc (Nat.le_refl _) _)
  clear hw1
  have b3 := b1.out.setRow_same (ClP.ceL (0, ClP.zero)).toArray
  have B3 := hid (below_setRow BEL.out (Nat.le_refl w.heap.size) (ClP.ceL (0, ClP.zero)).toArray)
  go_wp2_with fail
  refine (nc_made w1).mono ?_
  rintro e w' ⟨rfl, rfl⟩
  go_wp2_with (first | (with_reducible apply wblCe0) | ((with_reducible apply stR (ClP.tCe (0, ClP.zero))); rfl; rfl; exact b1.out; exact ClP.ce_size _ _; exact ClP.ce_one _))
  apply ret_rowt' (ClP.tCe (0, ClP.zero)) Try.results43
  · rfl
  · rfl
  · rfl
  · exact b3
  exact ⟨rfl, B3.out⟩
set_option maxRecDepth 100000 in
/-- New of no cell. -/
theorem xb_newC {v u : Value} (w : World) : Calls Try.prog 23 #[v, .pointer none, u] w fun e w' => e = .returned (.tuple #[.pointer none, .int .i64 1]) ∧ Below w.heap.size w w' := by
  go_enter Try.func23, Try.ntmps23
  go_wp2_with fail
  refine (nc_read w).mono ?_
  rintro e w2 ⟨rfl, hb2⟩
  have B2 := hid hb2
  clear hb2
  go_upto_region 2 with (first | (with_reducible apply alZ' ClP.zCe) | ((with_reducible apply stR (ClP.tCe (0, ClP.zero))); rfl; rfl; exact Blk.new _ _ _; exact ClP.ce_size _ _; exact ClP.ce_one _))
  generalize hw3 : World.setRow _ _ _ = w3
  have B3 := hid (show Below w.heap.size w w3 by rw [← hw3]; exact B2.out.trans (below_setRow ((Below.refl _ _).alloc (Nat.le_refl _) _) (Nat.le_refl _) _ |>.mono B2.out.size))
  clear hw3 B2
  go_wp2_with fail
  go_ret2
  exact ⟨rfl, B3.out⟩
set_option maxHeartbeats 600000 in
set_option maxRecDepth 100000 in
/-- New of a member, and of one that is none. -/
theorem xb_newM {w : World} {b m1 gc c : Nat} {u : Value} {M I Mc : Nat → Prop} {k : Nat} {st : St} {hist : List ClP.Held} {cv : ClP.Held} (hm : RepM w m1 M I k st) (h1 : 1 ≤ st.n) (hce : repCb w gc Mc hist cv) (p0 : w.cell? ⟨b, 0, none⟩ = some (.pointer (some ⟨m1, 0, none⟩))) (p1 : w.cell? ⟨b, 1, none⟩ = some (.pointer none)) :
    Calls Try.prog 23 #[.slice (some ⟨b, 0, none⟩) 2 c, MbP.at' gc, u] w fun e w' => e = .returned (.tuple #[.pointer none, .int .i64 1]) ∧ Below w.heap.size w w' := by
  have HM := hid hm
  have HC := hid hce
  have P0 := hid p0
  have P1 := hid p1
  have t2 : decide (st.n = 0) = false := by simp; omega
  have t2b : (st.n == 0) = false := by simp; omega
  have t2c : ¬ st.n = 0 := by omega
  clear hm hce p0 p1
  unfold MbP.at'
  go_enter Try.func23, Try.ntmps23
  go_wp2_with fail
  refine (cb_read HC.out).mono ?_
  rintro e w2 ⟨rfl, hb2⟩
  have B2 := hid hb2
  clear hb2
  go_upto_region 2 with (first | (with_reducible apply alZ' ClP.zCe) | ((with_reducible apply stR (ClP.tCe cv)); rfl; rfl; exact Blk.new _ _ _; exact ClP.ce_size _ _; exact ClP.ce_one _))
  generalize hw3 : World.setRow _ _ _ = w3
  have B3 := hid (show Below w.heap.size w w3 by rw [← hw3]; exact B2.out.trans (below_setRow ((Below.refl _ _).alloc (Nat.le_refl _) _) (Nat.le_refl _) _ |>.mono B2.out.size))
  clear hw3 B2
  go_wp2_with fail
  go_loopw [22] (fun u22 wr => ∃ i : Nat, u22 = .int .i64 i ∧ i ≤ 1 ∧ Hid (Below w.heap.size w wr)) (fun u22 _ => 2 - (intOf u22).toNat)
  case atStart => exact ⟨0, rfl, by omega, B3⟩
  case round =>
    clear B3
    obtain ⟨i, rfl, hi, HB⟩ := hrel
    obtain ⟨wo, hwo⟩ : ∃ x, x = wr := ⟨_, rfl⟩
    subst hwo
    have q0 : wo.cell? ⟨b, 0, none⟩ = some (.pointer (some ⟨m1, 0, none⟩)) := (HB.out.cell (p := ⟨b, 0, none⟩) (World.block_lt_of_cell? w _ P0.out)).trans P0.out
    have q1 : wo.cell? ⟨b, 1, none⟩ = some (.pointer none) := (HB.out.cell (p := ⟨b, 1, none⟩) (World.block_lt_of_cell? w _ P1.out)).trans P1.out
    obtain rfl | rfl : i = 0 ∨ i = 1 := by omega
    · have RMi := hid (MbP.memD_ok.frame HM.out (T := fun _ => False) (Turn.of_new HB.out) fun _ _ e => e)
      go_upto_region 7 with fail
      go_wp2_with fail
      refine (MbP.memD_ok.len RMi.out).mono ?_
      rintro e w4 ⟨rfl, hb⟩
      have B4 := hid (HB.out.trans (hb.mono HB.out.size))
      clear hb q0 q1 RMi HB
      go_wp2_with fail
      go_roundw
      case rel => exact ⟨1, by go_num, by omega, B4⟩
      case measure => simp [intOf]
    · go_upto_region 7 with fail
      go_wp2_with fail
      refine (MbO.lenN _).mono ?_
      rintro e w4 ⟨rfl, hb⟩
      have B4 := hid (HB.out.trans (hb.mono HB.out.size))
      clear hb q0 q1 HB
      go_wp2_with fail
      go_ret2
      exact ⟨rfl, B4.out⟩
set_option maxHeartbeats 600000 in
set_option maxRecDepth 100000 in
theorem xb_cell {p : Option Addr} {w : World} (hm : NoBus w p) : Calls Try.prog 17 #[.pointer p] w fun e w' => e = .returned (.tuple #[.agg (ClP.ceL (0, ClP.zero)).toArray, .int .i64 1]) ∧ Below w.heap.size w w' := by
  have HM := hid hm
  clear hm
  go_enter Try.func17, Try.ntmps17
  go_upto_region 2 with (with_reducible apply alZ' ClP.zCe)
  try simp only [Act.put, List.setIfInBounds_toArray, List.set_cons_succ, List.set_cons_zero]
  generalize hw0 : World.alloc w _ = w0
  generalize hwa : World.alloc w0 _ = wa
  generalize hw1 : World.alloc wa _ = w1
  obtain ⟨gB, hgB⟩ : ∃ n, n = w.heap.size := ⟨_, rfl⟩
  have hs0 : w0.heap.size = w.heap.size + 1 := by rw [← hw0]; simp
  have hsa : wa.heap.size = w.heap.size + 1 + 1 := by rw [← hwa, ← hs0]; simp
  obtain ⟨gR, hgR⟩ : ∃ n, n = w.heap.size + 1 := ⟨_, rfl⟩
  obtain ⟨gH, hgH⟩ : ∃ n, n = w.heap.size + 1 + 1 := ⟨_, rfl⟩
  have ba : Below w.heap.size w w0 := by rw [← hw0]; exact (Below.refl _ _).alloc (Nat.le_refl _) _
  have bb : Below w0.heap.size w0 wa := by rw [← hwa]; exact (Below.refl _ _).alloc (Nat.le_refl _) _
  have bc : Below wa.heap.size wa w1 := by rw [← hw1]; exact (Below.refl _ _).alloc (Nat.le_refl _) _
  have k1 : Blk w0 gB 22 #[.pointer p] := by rw [← hw0, hgB]; exact Blk.new _ _ _
  have k2 : Blk wa gR 43 (ClP.ceL (0, ClP.zero)).toArray := by rw [← hwa, hgR, ← hs0]; exact Blk.new _ _ _
  have k3 : Blk w1 gH 43 (ClP.ceL (0, ClP.zero)).toArray := by rw [← hw1, hgH, ← hsa]; exact Blk.new _ _ _
  have K1 := hid ((k1.below bb k1.lt).below bc (Nat.lt_of_lt_of_le k1.lt bb.size))
  have K2 := hid (k2.below bc k2.lt)
  have K3 := hid k3
  have BEL := hid (show Below w.heap.size w w1 from (ba.trans (bb.mono ba.size)).trans (bc.mono (Nat.le_trans ba.size bb.size)))
  have hRw := hid (show w.heap.size ≤ gR by omega)
  have hHw := hid (show w.heap.size ≤ gH by omega)
  have hRH : gR ≠ gH := by omega
  try rw [hsa]
  try rw [hs0]
  rw [← hgH, ← hgR, ← hgB]
  clear hw1 hw0 hwa hs0 hsa hgB hgR hgH ba bb bc k1 k2 k3
  have qB : w1.cell? ⟨gB, 0, none⟩ = some (.pointer p) := K1.out.cell 0
  obtain ⟨z, hz⟩ : ∃ z, z = en1 := ⟨_, rfl⟩
  obtain ⟨h, hh⟩ : ∃ h : ClP.Held, h = (0, ClP.zero) := ⟨_, rfl⟩
  have HZ := hid hz
  have HV := hid hh
  go_wp2_with (with_reducible apply wbpCe)
  refine (xb_io (HM.out.on BEL.out)).mono ?_
  rintro e w2 ⟨rfl, hb⟩
  have R2 := hid (show Blk w2 gR 43 (ClP.ceL (0, ClP.zero)).toArray from K2.out.below hb K2.out.lt)
  have H2 := hid (show Blk w2 gH 43 (ClP.ceL h).toArray by rw [hh]; exact K3.out.below hb K3.out.lt)
  have B2 := hid (BEL.out.trans (hb.mono BEL.out.size))
  have hrl2 := R2.out.lt
  have hhl2 := H2.out.lt
  rw [← hz]
  clear qB hb K1 K2 K3 hz hh
  go_upto_region 3 with (first | (with_reducible apply alZ' zEnP) | ((with_reducible apply stR (tEnP z)); rfl; rfl; exact Blk.new _ _ _; exact en_size _ _; exact en_one' _))
  generalize hw3 : World.setRow _ _ _ = w3
  obtain ⟨gE, hgE⟩ : ∃ n, n = w2.heap.size := ⟨_, rfl⟩
  have B3 := hid (show Below w2.heap.size w2 w3 by rw [← hw3]; exact below_setRow ((Below.refl _ _).alloc (Nat.le_refl _) _) (Nat.le_refl _) _)
  have E3 := hid (show Blk w3 gE 51 (enL z).toArray by rw [← hw3, hgE]; exact (Blk.new w2 _ _).setRow_same _)
  have hER : gR ≠ gE := by omega
  rw [← hgE]
  clear hw3 hgE
  have R3 := hid (R2.out.below B3.out hrl2)
  have H3 := hid (H2.out.below B3.out hhl2)
  have C3 := hid (B2.out.trans (B3.out.mono B2.out.size))
  clear R2 H2 B2 B3 hrl2 hhl2
  refine wp_region_c (S := yS [some (.agg (ClP.ceL h).toArray), some (.pointer (some ⟨gE, 67, none⟩)), some (.int .i64 z.e), some undef, some (.int .i64 z.e)] []) (C := fun d vs w' => ResQ w3 gR h (d 3) w') 5 (by kernel_rfl) (by kernel_rfl) (by kernel_rfl) _
    (yS_ok _ fun y hy => by cases hy) ⟨Turn.drew _, R3.out.drew⟩ fun vs => ?_
  simp only [List.take_succ_cons, List.take_zero, List.drop_succ_cons, List.drop_zero]
  refine ⟨.inl ⟨rfl, fun dd w' hd hnx hw hC => ?_⟩, fun e => ?_⟩
  · exact ClP.gE_ldR (cs := (ClP.ceL h).toArray) (ClP.tCe h) rfl (H3.out.turn hC.t fun e => hRH e.symm).whole ⟨rfl, hC⟩
  have e' : vs 0 = _ := e
  rw [e']
  clear e e'
  simp only [Act.put, List.setIfInBounds_toArray, List.set_cons_succ, List.set_cons_zero]
  refine ⟨.inl ⟨rfl, fun dd w' hd hnx hw hC => ?_⟩, fun e => ?_⟩
  · go_simp
    first | exact ⟨rfl, hC⟩ | exact hC
  have e' : vs 1 = _ := e
  rw [e']
  clear e e'
  simp only [Act.put, List.setIfInBounds_toArray, List.set_cons_succ, List.set_cons_zero]
  refine ⟨.inl ⟨rfl, fun dd w' hd hnx hw hC => ?_⟩, fun e => ?_⟩
  · have h1 : w'.cell? ⟨gE, 67, none⟩ = some (.int .i64 z.e) := en_qe (E3.out.turn hC.t fun e => hER e.symm)
    go_simp
    first | exact ⟨rfl, hC⟩ | exact hC
  have e' : vs 2 = _ := e
  rw [e']
  clear e e'
  simp only [Act.put, List.setIfInBounds_toArray, List.set_cons_succ, List.set_cons_zero]
  refine ⟨.inl ⟨rfl, fun dd w' hd hnx hw hC => ?_⟩, fun e => ?_⟩
  · with_reducible refine gE_stR (cs := (ClP.ceL h).toArray) (old := (ClP.ceL (if dd 3 then h else (0, ClP.zero))).toArray) (g := gR) (t := 43) ?_ ?_ ?_ ?_ ?_ ?_ ?_
    · exact ClP.tCe h
    · rfl
    · rfl
    · exact hC.b
    · exact ClP.ce_size _ _
    · exact ClP.ce_one _
    · exact ⟨rfl, hC.put⟩
  have e' : vs 3 = _ := e
  rw [e']
  clear e e'
  simp only [Act.put, List.setIfInBounds_toArray, List.set_cons_succ, List.set_cons_zero]
  refine ⟨.inl ⟨rfl, fun dd w' hd hnx hw hC => ?_⟩, fun e => ?_⟩
  · go_simp
    first | exact ⟨rfl, hC⟩ | exact hC
  have e' : vs 4 = _ := e
  rw [e']
  clear e e'
  simp only [Act.put, List.setIfInBounds_toArray, List.set_cons_succ, List.set_cons_zero]
  intro dd wz hall hC
  have h4 : dd 3 = true := hall 3 (by omega)
  have Z := hid (show Blk wz gR 43 (ClP.ceL h).toArray by have := hC.b; rw [h4] at this; exact this)
  have C6 := hid (C3.out.trans (hC.t.below C3.out.size fun q e => by rw [e]; exact hRw.out))
  clear hC h4 hall E3 R3 H3 C3
  go_wp2_with fail
  refine ret_rowt2 (t := 43) (cs := (ClP.ceL h).toArray) (g := gR) (v := .int .i64 z.e) (ClP.tCe h) Try.results17 rfl rfl rfl Z.out ?_
  have e1 : Ending.returned (.tuple #[.agg (ClP.ceL h).toArray, .int .i64 z.e]) = .returned (.tuple #[.agg (ClP.ceL (0, ClP.zero)).toArray, .int .i64 1]) := by rw [HV.out, HZ.out]; rfl
  exact ⟨e1, C6.out⟩
/-- What holds in the midst of Advance of no bus. -/
structure AvX (w0 : World) (d6 : Bool) (v6 : Value) (w' : World) : Prop where
  pre : Below w0.heap.size w0 w'
  var : d6 = true → ∃ q, v6 = .pointer (some ⟨q, 0, none⟩) ∧ w0.heap.size ≤ q ∧ Blk w' q 51 (enL enP0).toArray
theorem AvX.on {w0 w w' : World} {d6 : Bool} {v6 : Value} (h : AvX w0 d6 v6 w) (hb : Below w.heap.size w w') : AvX w0 d6 v6 w' :=
  ⟨h.pre.trans (hb.mono h.pre.size), fun e => by obtain ⟨q, e1, e2, e3⟩ := h.var e; exact ⟨q, e1, e2, e3.below hb e3.lt⟩⟩
set_option maxHeartbeats 1000000 in
set_option maxRecDepth 100000 in
theorem xb_adv {p : Option Addr} {w : World} (hm : NoBus w p) (lb : Nat → Nat) : Calls Try.prog 16 #[.pointer p, .agg (ar 32 lb)] w fun e w' => e = .returned (.tuple #[.int .u64 0, .int .i64 1]) ∧ Below w.heap.size w w' := by
  have HM := hid hm
  clear hm
  go_enter Try.func16, Try.ntmps16
  go_upto_region 2 with fail
  generalize hw0 : World.alloc w _ = w0
  generalize hwa : World.alloc w0 _ = wa
  generalize hw1 : World.alloc wa _ = w1
  obtain ⟨gB, hgB⟩ : ∃ n, n = w.heap.size := ⟨_, rfl⟩
  have hs0 : w0.heap.size = w.heap.size + 1 := by rw [← hw0]; simp
  have hsa : wa.heap.size = w.heap.size + 1 + 1 := by rw [← hwa, ← hs0]; simp
  obtain ⟨gL, hgL⟩ : ∃ n, n = w.heap.size + 1 := ⟨_, rfl⟩
  obtain ⟨gN, hgN⟩ : ∃ n, n = w.heap.size + 1 + 1 := ⟨_, rfl⟩
  have ba : Below w.heap.size w w0 := by rw [← hw0]; exact (Below.refl _ _).alloc (Nat.le_refl _) _
  have bb : Below w0.heap.size w0 wa := by rw [← hwa]; exact (Below.refl _ _).alloc (Nat.le_refl _) _
  have bc : Below wa.heap.size wa w1 := by rw [← hw1]; exact (Below.refl _ _).alloc (Nat.le_refl _) _
  have k1 : Blk w0 gB 22 #[.pointer p] := by rw [← hw0, hgB]; exact Blk.new _ _ _
  have k2 : Blk wa gL 41 (ar 32 lb) := by rw [← hwa, hgL, ← hs0]; exact Blk.new _ _ _
  have k3 : Blk w1 gN 37 #[.int .u64 0] := by rw [← hw1, hgN, ← hsa]; exact Blk.new _ _ _
  have K1 := hid ((k1.below bb k1.lt).below bc (Nat.lt_of_lt_of_le k1.lt bb.size))
  have K2 := hid (k2.below bc k2.lt)
  have K3 := hid k3
  have BEL := hid (show Below w.heap.size w w1 from (ba.trans (bb.mono ba.size)).trans (bc.mono (Nat.le_trans ba.size bb.size)))
  have hNw := hid (show w.heap.size ≤ gN by omega)
  rw [← hgN, ← hgL, ← hgB]
  clear hw1 hw0 hwa hs0 hsa hgB hgL hgN ba bb bc k1 k2 k3
  have qB : w1.cell? ⟨gB, 0, none⟩ = some (.pointer p) := K1.out.cell 0
  obtain ⟨z, hz⟩ : ∃ z, z = en1 := ⟨_, rfl⟩
  have HZ := hid hz
  have lN := hid K3.out.lt
  clear hz
  refine wp_region_d (S := yS [some (.pointer p), some (.agg (ar 32 lb)), some (.agg (ar 64 (pad lb))), some (.agg (enL ⟨5, 0, 0, pad lb, 0⟩).toArray), some (.func (.func 40) #[] #[.pointer (some ⟨gB, 0, none⟩), .pointer (some ⟨gL, 0, none⟩), .pointer (some ⟨gN, 0, none⟩)]), some (.agg (enL z).toArray), none] [(6, kPt)])
    (C := fun d' vs w' => AvX w1 (d' 6) (vs 6) w') 7 (by kernel_rfl) (by kernel_rfl) (by kernel_rfl) _
    (yS_ok _ fun y hy => by simp only [List.mem_cons, List.not_mem_nil, or_false] at hy; rcases hy with rfl; exact kPt_ok) ⟨(Below.refl _ _).drew, (fun e => by cases e)⟩ fun vs => ?_
  simp only [List.take_succ_cons, List.take_zero, List.drop_succ_cons, List.drop_zero]
  refine ⟨.inl ⟨rfl, fun dd w' hd hcl hnx hw hC => ?_⟩, fun e => ?_⟩
  · have hcell := (hC.pre.cell (p := ⟨gB, 0, none⟩) (World.block_lt_of_cell? w1 _ qB)).trans qB
    go_simp
    exact ⟨rfl, hC⟩
  have e' : vs 0 = _ := e
  rw [e']
  clear e e'
  simp only [Act.put, List.setIfInBounds_toArray, List.set_cons_succ, List.set_cons_zero]
  refine ⟨.inl ⟨rfl, fun dd w' hd hcl hnx hw hC => ?_⟩, fun e => ?_⟩
  · exact gE_ldA ClP.tTg rfl (K2.out.below hC.pre K2.out.lt).head ⟨rfl, hC⟩
  have e' : vs 1 = _ := e
  rw [e']
  clear e e'
  simp only [Act.put, List.setIfInBounds_toArray, List.set_cons_succ, List.set_cons_zero]
  refine ⟨.inl ⟨rfl, fun dd w' hd hcl hnx hw hC => ?_⟩, fun e => ?_⟩
  · go_simp
    refine (lb_sector lb w').mono ?_
    rintro e w5 ⟨rfl, hb⟩
    exact ⟨_, rfl, rfl, hC.on hb⟩
  have e' : vs 2 = _ := e
  rw [e']
  clear e e'
  simp only [Act.put, List.setIfInBounds_toArray, List.set_cons_succ, List.set_cons_zero]
  refine ⟨.inl ⟨rfl, fun dd w' hd hcl hnx hw hC => ?_⟩, fun e => ?_⟩
  · exact gE_bldE rfl ⟨rfl, hC⟩
  have e' : vs 3 = _ := e
  rw [e']
  clear e e'
  simp only [Act.put, List.setIfInBounds_toArray, List.set_cons_succ, List.set_cons_zero]
  refine ⟨.inl ⟨rfl, fun dd w' hd hcl hnx hw hC => ?_⟩, fun e => ?_⟩
  · go_simp
    first | exact ⟨rfl, hC⟩ | exact hC
  have e' : vs 4 = _ := e
  rw [e']
  clear e e'
  simp only [Act.put, List.setIfInBounds_toArray, List.set_cons_succ, List.set_cons_zero]
  refine ⟨.inl ⟨rfl, fun dd w' hd hcl hnx hw hC => ?_⟩, fun e => ?_⟩
  · go_simp
    refine (xb_io (HM.out.on (BEL.out.trans (hC.pre.mono BEL.out.size)))).mono ?_
    rintro e w5 ⟨rfl, hb⟩
    rw [← HZ.out]
    exact ⟨_, rfl, rfl, hC.on hb⟩
  have e' : vs 5 = _ := e
  rw [e']
  clear e e'
  simp only [Act.put, List.setIfInBounds_toArray, List.set_cons_succ, List.set_cons_zero]
  refine ⟨.inl ⟨rfl, fun dd w' hd hcl hnx hw hC => ?_⟩, fun e => ?_⟩
  · have ha := (Below.refl w'.heap.size w').alloc (Nat.le_refl _) (.cells (enL enP0).toArray 51)
    exact gE_alZ zEnP ⟨⟨_, rfl⟩, hC.pre.trans (ha.mono hC.pre.size), fun _ => ⟨_, rfl, hC.pre.size, Blk.new _ _ _⟩⟩
  obtain ⟨gE, e'⟩ : ∃ q, vs 6 = .pointer (some ⟨q, 0, none⟩) := e
  rw [e']
  have E6 := hid e'
  clear e'
  simp only [Act.put, List.setIfInBounds_toArray, List.set_cons_succ, List.set_cons_zero]
  intro dd wz hall hC
  have h6 : dd 6 = true := hall 6 (by omega)
  obtain ⟨q, e1, e2, e3⟩ := hC.var h6
  have hqe : gE = q := by
    rw [E6.out] at e1
    simpa using e1
  subst hqe
  have l1 := lN.out
  have ZN := hid (K3.out.below hC.pre K3.out.lt)
  have ZE := hid (show Blk wz gE 51 (enL enP0).toArray from e3)
  have ZC := hid (BEL.out.trans (hC.pre.mono BEL.out.size))
  have hEw := hid (show w.heap.size ≤ gE from Nat.le_trans BEL.out.size e2)
  have hEN : gE ≠ gN := by omega
  clear hC hall h6 e1 e2 e3 E6 qB K1 K2 K3 lN hNw l1
  go_upto_region 3 with ((with_reducible apply stR (tEnP z)); rfl; rfl; exact ZE.out; exact en_size _ _; exact en_one' _)
  have tu := Turn.setRow (S := fun q => q = gE) wz gE (enL z).toArray rfl
  have YE := hid (show Blk (wz.setRow gE (enL z).toArray) gE 51 (enL z).toArray from ZE.out.setRow_same _)
  have YN := hid (ZN.out.turn tu fun e => hEN e.symm)
  have YC := hid (ZC.out.trans (tu.below ZC.out.size fun q e => by rw [e]; exact hEw.out))
  clear tu ZE ZN ZC hEN
  generalize World.setRow wz _ _ = wy at YE YN YC ⊢
  have qN : wy.cell? ⟨gN, 0, none⟩ = some (.int .u64 0) := YN.out.cell 0
  have qE : wy.cell? ⟨gE, 67, none⟩ = some (.int .i64 z.e) := en_qe YE.out
  refine wp_region_tail (C := fun w' => Below wy.heap.size wy w') 5 (by kernel_rfl) (by kernel_rfl) (by kernel_rfl) (Below.refl _ _).drew ?_
  simp only [List.take_succ_cons, List.take_zero, List.drop_succ_cons, List.drop_zero]
  apply wpK_val
  · rfl
  · intro w' hw'
    have hcell := (hw'.cell (p := ⟨gN, 0, none⟩) (World.block_lt_of_cell? wy _ qN)).trans qN
    go_simp
    first | exact rfl | exact ⟨rfl, hw'⟩
  simp only [Act.put, List.setIfInBounds_toArray, List.set_cons_succ, List.set_cons_zero]
  apply wpK_val
  · rfl
  · intro w' hw'
    go_simp
    first | exact rfl | exact ⟨rfl, hw'⟩
  simp only [Act.put, List.setIfInBounds_toArray, List.set_cons_succ, List.set_cons_zero]
  apply wpK_val
  · rfl
  · intro w' hw'
    have hcell := (hw'.cell (p := ⟨gE, 67, none⟩) (World.block_lt_of_cell? wy _ qE)).trans qE
    go_simp
    first | exact rfl | exact ⟨rfl, hw'⟩
  simp only [Act.put, List.setIfInBounds_toArray, List.set_cons_succ, List.set_cons_zero]
  apply wpK_val
  · rfl
  · intro w' hw'
    go_simp
    first | exact rfl | exact ⟨rfl, hw'⟩
  simp only [Act.put, List.setIfInBounds_toArray, List.set_cons_succ, List.set_cons_zero]
  apply wpK_val
  · rfl
  · intro w' hw'
    go_simp
    first | exact rfl | exact ⟨rfl, hw'⟩
  simp only [Act.put, List.setIfInBounds_toArray, List.set_cons_succ, List.set_cons_zero]
  intro w5 hC5
  have C5 := hid (YC.out.trans (hC5.mono YC.out.size))
  clear YN YE YC qN qE hC5
  go_wp2_with fail
  go_ret2
  exact ⟨by rw [HZ.out]; rfl, C5.out⟩
end BuP
end Go.Proofs.Ytablkaofaedpeaa
