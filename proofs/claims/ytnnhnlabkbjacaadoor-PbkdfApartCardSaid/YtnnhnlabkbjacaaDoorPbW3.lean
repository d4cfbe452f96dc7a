/-
  The walk of PbkdfApart.
-/
import Derived.Test.YtnnhnlabkbjacaaDoorPbW1
namespace Go.Proofs.YtnnhnlabkbjacaaDoor
open Go.ChangeShapes Go.WideShapes Go.ChangeAt Go.RowKit
attribute [local go_sem] Gives
/-- The first i bytes, and bytes 0 behind them. -/
def zpad (l : List Nat) (i : Nat) : Nat → Nat := fun k => if k < i then l.getD k 0 else 0
theorem zpad_zero (l : List Nat) : zpad l 0 = fun _ => 0 := funext fun k => by unfold zpad; rw [if_neg (by omega)]
theorem zpad_set (l : List Nat) (i : Nat) : (bts 64 (zpad l i)).setIfInBounds i (.int .u8 (l.getD i 0 : Nat)) = bts 64 (zpad l (i + 1)) := by
  rw [bts_set]
  refine bts_ext fun k _ => ?_
  unfold zpad
  by_cases e : k = i
  · subst e; rw [if_pos rfl, if_pos (by omega)]
  · rw [if_neg e]
    by_cases h : k < i
    · rw [if_pos h, if_pos (by omega)]
    · rw [if_neg h, if_neg (by omega)]
theorem zpad_full {l : List Nat} {i : Nat} (h : l.length ≤ i) : zpad l i = fun k => l.getD k 0 := funext fun k => by
  unfold zpad
  by_cases e : k < i
  · rw [if_pos e]
  · rw [if_neg e, List.getD_eq_getElem?_getD, List.getElem?_eq_none (by omega)]; rfl
set_option maxHeartbeats 400000 in
set_option maxRecDepth 100000 in
theorem lpadded_any (A : Option Addr) (l : List Nat) (n cap : Nat) (hn : n ≤ 63) (w : World) (hA : Arg w A l n cap) :
    Calls Tryd.prog 19 #[.slice A n cap] w fun e w' => e = .returned (.agg (bts 64 fun k => l.getD k 0)) ∧ Below w.heap.size w w' := by
  have HA := hid hA
  clear hA
  go_enter Tryd.func19, Tryd.ntmps19
  go_upto_region 2 with fail
  generalize hw1 : World.alloc (World.alloc w _) _ = w1
  have b0 : Blk w1 w.heap.size 39 (bts 64 fun _ => 0) := by rw [← hw1]; exact (Blk.top zlit_b64 rfl).alloc _
  have b1 : Blk w1 (w.heap.size + 1) 39 (bts 64 (zpad l 0)) := by rw [← hw1, zpad_zero]; exact Blk.top zlit_b64 (by simp)
  have bb : Below w.heap.size w w1 := by rw [← hw1]; exact ((Below.refl _ _).alloc (Nat.le_refl _) _).alloc (by simp) _
  have B0 := hid b0
  have B1 := hid b1
  have BB := hid bb
  clear hw1 b0 b1 bb
  go_wp2_with fail
  go_loopw [4] (fun v wr => ∃ i : Nat, i ≤ n ∧ v = .int .i64 i ∧ Hid (Blk wr w.heap.size 39 (bts 64 fun _ => 0)) ∧ Hid (Blk wr (w.heap.size + 1) 39 (bts 64 (zpad l i))) ∧ Hid (Below w.heap.size w wr)) (fun v _ => n - (intOf v).toNat)
  case atStart => exact ⟨0, by omega, rfl, B0, B1, BB⟩
  case round =>
    clear B0 B1 BB
    obtain ⟨i, hi, rfl, b0, b1, hb⟩ := hrel
    by_cases hlt : i < n
    · have ti : (i : Int) < (n : Int) := by omega
      have ti2 : (i : Int) < 64 := by omega
      obtain ⟨gx, ox, rfl, hgx, hr⟩ := HA.out.byt (by rw [HA.out.len]; omega)
      have q1 := (hb.out.cell (p := ⟨gx, ox + i, none⟩) hgx).trans (hr i (by rw [HA.out.len]; exact hlt))
      have q2 := (b1.out.cell i).trans (get_bts (by omega))
      have q3 := b1.out.frozen i
      have ST := hid (zpad_set l i)
      generalize l.getD i 0 = x at *
      clear hr
      go_wp2_with fail
      go_roundw
      case rel => exact ⟨i + 1, by omega, by go_num, hid (b0.out.setCell_other (by simp) _), hid (by rw [← ST.out]; exact b1.out.setCell_same _ _), hid (hb.out.setCell (by simp) _)⟩
      case measure => simp [intOf]; omega
    · have ti : decide ((i : Int) < (n : Int)) = false := by simp; omega
      obtain rfl : i = n := by omega
      have c1 := b1.out
      rw [zpad_full (by rw [HA.out.len]; exact Nat.le_refl _)] at c1
      have c0 := b0.out
      clear b0 b1
      go_wp2_with (first | ((with_reducible apply ldb); rfl; exact c1) | ((with_reducible apply stb); rfl; rfl; exact c0))
      apply ret_row Tryd.results19
      · exact c0.setRow_same _
      · exact Tryd.underlying39
      · rfl
      · exact (info_b64.trans (by rw [size_bts]))
      · rfl
      · rfl
      exact ⟨rfl, below_setRow hb.out (Nat.le_refl _) _⟩
theorem eqg_b64 : Tryd.prog.eqGuardType Tryd.prog.depth 39 = false := by kernel_rfl
def eqB (f g : Nat → Nat) : Bool := eqN 64 (fun k => f k) fun k => g k
theorem eq_b64 (f g : Nat → Nat) (w : World) : (Op.equalIn 10000 39 (.agg (bts 64 f)) (.agg (bts 64 g))).run Tryd.prog w = .ok (eqB f g) w :=
  run_equalIn_row (d := 9998) Tryd.underlying39 Tryd.underlying5 (by kernel_rfl) w
theorem eqB_pass {s t : ByteArray} (hs : s.size ≤ 48) (ht : t.size ≤ 48) : eqB (fun k => (s.size :: nats s).getD k 0) (fun k => (t.size :: nats t).getD k 0) = decide (s = t) := by
  by_cases h : s = t
  · subst h
    rw [decide_eq_true rfl]
    unfold eqB eqN
    rw [List.all_eq_true]
    exact fun k _ => beq_iff_eq.2 rfl
  · rw [decide_eq_false h]
    cases e : eqB (fun k => (s.size :: nats s).getD k 0) (fun k => (t.size :: nats t).getD k 0) with
    | false => rfl
    | true =>
      exfalso
      unfold eqB eqN at e
      rw [List.all_eq_true] at e
      have hk : ∀ k, k < 64 → (s.size :: nats s).getD k 0 = (t.size :: nats t).getD k 0 := fun k hk => Int.ofNat_inj.1 (beq_iff_eq.1 (e k (List.mem_range.2 hk)))
      have h0 : s.size = t.size := hk 0 (by omega)
      refine h (nats_inj (List.ext_getElem? fun j => ?_))
      by_cases hj : j < s.size
      · have := hk (j + 1) (by omega)
        rw [List.getD_cons_succ, List.getD_cons_succ] at this
        have h1 : j < (nats s).length := by rw [nats_length]; exact hj
        have h2 : j < (nats t).length := by rw [nats_length]; omega
        rw [List.getD_eq_getElem?_getD, List.getD_eq_getElem?_getD, List.getElem?_eq_getElem h1, List.getElem?_eq_getElem h2] at this
        rw [List.getElem?_eq_getElem h1, List.getElem?_eq_getElem h2]
        exact congrArg some this
      · rw [List.getElem?_eq_none (by rw [nats_length]; omega), List.getElem?_eq_none (by rw [nats_length]; omega)]
theorem toList_ne {a b : ByteArray} (h : a ≠ b) : (a.toList == b.toList) = false := by
  rw [beq_eq_false_iff_ne]
  intro e
  rw [ByteArray.toList_eq, ByteArray.toList_eq] at e
  exact h (by cases a; cases b; simp at e; rw [e])
set_option maxHeartbeats 400000 in
set_option maxRecDepth 100000 in
theorem apart_law (s t : ByteArray) (w : World) (hS : Salts w) :
    Calls Tryd.prog 7 #[.string s, .string t] w fun e w' => e = .returned (.bool true) ∧ Below w.heap.size w w' := by
  have SA := hid hS
  clear hS
  by_cases hs : s.size < 1 ∨ 48 < s.size
  · have PT : ∃ e2 : Int, Hid (∀ w, Calls Tryd.prog 13 #[.string t] w fun e w' => ∃ v, e = .returned (.tuple #[v, .int .i64 e2]) ∧ Below w.heap.size w w') := by
      by_cases ht : t.size < 1 ∨ 48 < t.size
      · exact ⟨2, hid fun w => (ppass_bad t ht w).mono fun e w' ⟨h1, h2⟩ => ⟨_, h1, h2 ▸ Below.refl _ _⟩⟩
      · exact ⟨0, hid fun w => (ppass_any t (by omega) (by omega) w).mono fun e w' ⟨v, h1, _, h2⟩ => ⟨v, h1, h2⟩⟩
    obtain ⟨e2, PT⟩ := PT
    go_enter Tryd.func7, Tryd.ntmps7
    go_wp2_with fail
    refine (ppass_bad s hs w).mono ?_
    rintro e w' ⟨rfl, rfl⟩
    clear hs
    go_wp2_with fail
    refine (PT.out w).mono ?_
    rintro e w1 ⟨v1, rfl, h1⟩
    have B1 := hid h1
    clear h1
    go_wp2_with fail
    refine (awake_any w1 (SA.out.on B1.out)).mono ?_
    rintro e w2 ⟨rfl, h2⟩
    have b2 := B1.out.trans (h2.mono B1.out.size)
    clear h2
    go_wp2_with fail
    go_ret
    exact ⟨rfl, b2⟩
  · have P1 := hid fun w => ppass_any s (by omega) (by omega) w
    have hs48 : s.size ≤ 48 := by omega
    clear hs
    by_cases ht : t.size < 1 ∨ 48 < t.size
    · go_enter Tryd.func7, Tryd.ntmps7
      go_wp2_with fail
      refine (P1.out w).mono ?_
      rintro e w1 ⟨v1, rfl, o1, h1⟩
      have B1 := hid h1
      clear h1 o1
      go_wp2_with fail
      refine (ppass_bad t ht w1).mono ?_
      rintro e w' ⟨rfl, rfl⟩
      clear ht
      go_wp2_with fail
      refine (awake_any w1 (SA.out.on B1.out)).mono ?_
      rintro e w2 ⟨rfl, h2⟩
      have b2 := B1.out.trans (h2.mono B1.out.size)
      clear h2
      go_wp2_with fail
      go_ret
      exact ⟨rfl, b2⟩
    · have P2 := hid fun w => ppass_any t (by omega) (by omega) w
      have ht48 : t.size ≤ 48 := by omega
      clear ht
      have HEQ := hid (eqB_pass hs48 ht48)
      have hls : (s.size :: nats s).length = s.size + 1 := by rw [List.length_cons, nats_length]
      have hlt : (t.size :: nats t).length = t.size + 1 := by rw [List.length_cons, nats_length]
      have B256s := hid (pass_256 hs48)
      have B256t := hid (pass_256 ht48)
      generalize (s.size :: nats s) = ls at *
      generalize (t.size :: nats t) = lt at *
      have HLS := hid hls
      have HLT := hid hlt
      obtain ⟨n, hn⟩ : ∃ n, n = s.size + 1 := ⟨_, rfl⟩
      obtain ⟨m, hm⟩ : ∃ m, m = t.size + 1 := ⟨_, rfl⟩
      rw [← hn] at HLS
      rw [← hm] at HLT
      have hn63 : n ≤ 63 := by omega
      have hm63 : m ≤ 63 := by omega
      obtain ⟨f, hf⟩ : ∃ f : Nat → Nat, f = fun k => ls.getD k 0 := ⟨_, rfl⟩
      obtain ⟨g, hg⟩ : ∃ g : Nat → Nat, g = fun k => lt.getD k 0 := ⟨_, rfl⟩
      rw [← hf, ← hg] at HEQ
      have HF := hid hf
      have HG := hid hg
      clear hn hm hls hlt hs48 ht48 hf hg
      go_enter Tryd.func7, Tryd.ntmps7
      go_wp2_with fail
      refine (P1.out w).mono ?_
      rintro e w1 ⟨v1, rfl, o1, h1⟩
      obtain ⟨A1, c1, e1, a1⟩ := o1.arg B256s.out
      rw [HLS.out] at e1 a1
      subst e1
      have A1' := hid a1
      have B1 := hid h1
      clear o1 a1 h1 P1
      go_wp2_with fail
      refine (P2.out w1).mono ?_
      rintro e w2 ⟨v2, rfl, o2, h2⟩
      obtain ⟨A2, c2, e2, a2⟩ := o2.arg B256t.out
      rw [HLT.out] at e2 a2
      subst e2
      have A12 := hid (A1'.out.on h2)
      have A22 := hid a2
      have B2 := hid (B1.out.trans (h2.mono B1.out.size))
      have t1 : (n : Int) < 64 := by omega
      have t2 : (m : Int) < 64 := by omega
      clear o2 a2 h2 P2 A1' B1
      go_wp2_with fail
      refine (lpadded_any A1 ls n c1 hn63 w2 A12.out).mono ?_
      rintro e w3 ⟨rfl, h3⟩
      rw [← HF.out]
      have A23 := hid (A22.out.on h3)
      have B3 := hid (B2.out.trans (h3.mono B2.out.size))
      clear h3 A12 A22 B2
      go_wp2_with fail
      refine (lpadded_any A2 lt m c2 hm63 w3 A23.out).mono ?_
      rintro e w4 ⟨rfl, h4⟩
      have B4 := hid (B3.out.trans (h4.mono B3.out.size))
      clear h4 A23 B3
      rw [← HG.out]
      have he1 := fun w => eq_b64 f g w
      rw [HEQ.out] at he1
      have he2 := eqg_b64
      by_cases hst : s = t
      · subst hst
        rw [decide_eq_true rfl] at he1
        go_wp2_with fail
        refine (awake_any w4 (SA.out.on B4.out)).mono ?_
        rintro e w5 ⟨rfl, h5⟩
        have b5 := B4.out.trans (h5.mono B4.out.size)
        clear h5 he1 he2
        go_wp2_with fail
        go_ret
        exact ⟨rfl, b5⟩
      · rw [decide_eq_false hst] at he1
        have te := toList_ne hst
        clear hst
        go_wp2_with fail
        refine (awake_any w4 (SA.out.on B4.out)).mono ?_
        rintro e w5 ⟨rfl, h5⟩
        have b5 := B4.out.trans (h5.mono B4.out.size)
        clear h5 he1 he2 te
        go_wp2_with fail
        go_ret
        exact ⟨rfl, b5⟩
end Go.Proofs.YtnnhnlabkbjacaaDoor
