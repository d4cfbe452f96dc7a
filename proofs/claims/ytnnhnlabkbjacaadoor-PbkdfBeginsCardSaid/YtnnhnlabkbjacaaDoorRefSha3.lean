/-
  Contracts of the document's primes and their roots (casemateref03.Primes, Roots) over this translation.
-/
import Derived.Test.YtnnhnlabkbjacaaDoorRefSha2
import Derived.Test.YtnnhnlabkbjacaaDoorOwn
import Derived.Laws.OwnMore
namespace Go.Proofs.YtnnhnlabkbjacaaDoor
open Go.ChangeShapes Go.WideShapes Go.ChangeAt Go.RowKit
attribute [local go_sem] Gives
theorem elt64 : Elt 79 78 .u64 := elt_of Tryd.underlying79 (by kernel_rfl) (by kernel_rfl) (by kernel_rfl)
theorem elt32 : Elt 73 50 .u32 := elt_of Tryd.underlying73 (by kernel_rfl) (by kernel_rfl) (by kernel_rfl)
theorem elt8 : Elt 22 5 .u8 := elt_of Tryd.underlying22 (by kernel_rfl) (by kernel_rfl) (by kernel_rfl)
theorem info_bool : ∃ i : TypeInfo, Tryd.prog.info? 4 = some i ∧ i.zero = some (.bool false) ∧ i.size = 1 ∧ i.bytes = 1 := by
  have h1 : (Tryd.prog.info? 4).map (·.size) = some 1 := by kernel_rfl
  have h2 : (Tryd.prog.info? 4).map (·.bytes) = some 1 := by kernel_rfl
  have h3 : (Tryd.prog.info? 4).bind (·.zero) = some (.bool false) := by kernel_rfl
  cases hi : Tryd.prog.info? 4 with
  | none => rw [hi] at h1; cases h1
  | some i =>
    rw [hi] at h1 h2 h3
    simp only [Option.map_some, Option.some.injEq, Option.bind_some] at h1 h2 h3
    exact ⟨i, rfl, h3, h1, h2⟩
def bls (n : Nat) (f : Nat → Bool) : Array Value := row n fun j => .bool (f j)
theorem bls_ext {n : Nat} {f g : Nat → Bool} (h : ∀ k, k < n → f k = g k) : bls n f = bls n g := row_ext fun k hk => by rw [h k hk]
theorem get_bls {n : Nat} {f : Nat → Bool} {k : Nat} (h : k < n) : (bls n f)[k]? = some (.bool (f k)) := get_row_lt h
theorem bls_set {n : Nat} {f : Nat → Bool} {k : Nat} {v : Bool} : (bls n f).setIfInBounds k (.bool v) = bls n fun j => if j = k then v else f j := by
  unfold bls
  rw [row_set]
  exact row_ext fun j _ => by by_cases e : j = k <;> simp [e]
theorem run_mkb (w : World) : ∃ w', (Instr.makeSlice 89 (.int .i64 400) (.int .i64 400)).run Tryd.prog w = .ok (.slice (some ⟨w.heap.size, 0, none⟩) 400 400) w' ∧
    Blk w' w.heap.size 4 (bls 400 fun _ => false) ∧ Below w.heap.size w w' := by
  obtain ⟨i, hi, hz, h1, h2⟩ := info_bool
  obtain ⟨w', hr, ho, hg⟩ := run_makeSlice_full (P := Tryd.prog) w w.heap.size 89 4 i (.bool false) 1 Tryd.underlying89 hi hz h1 .i64 .i64 400 (by omega) (by rw [h2]; omega) (by unfold maxLen; omega) (Nat.le_refl _)
  refine ⟨w', hr, ?_, (Below.refl _ _).grown hg (Nat.le_refl _) (fun k e => by cases e)⟩
  rcases ho.2 with ⟨e, _⟩ | ⟨g, cap, cur, hv, _, hgc, _, _, hcs, ht⟩
  · cases e
  · simp only [Value.slice.injEq, Option.some.injEq, Addr.mk.injEq, and_true, true_and] at hv
    obtain ⟨rfl, rfl⟩ := hv
    have hcur : cur = bls 400 fun _ => false := by
      apply Array.ext_getElem?
      intro j
      rw [Nat.mul_one] at hcs ht
      unfold bls
      rw [get_row]
      by_cases hj : j < 400
      · rw [if_pos hj]
        have h3 : (madeCells (Value.cells (.bool false)) 400).toList[j]? = some (.bool false) := by
          rw [Array.getElem?_toList]
          unfold madeCells
          rw [Array.getElem?_map, Array.getElem?_range, if_pos hj]
          simp [Value.cells, Nat.mod_one]
        rw [← ht, List.getElem?_take_of_lt hj, Array.getElem?_toList] at h3
        exact h3
      · rw [if_neg hj, Array.getElem?_eq_none (by omega)]
    rw [← hcur]
    exact hgc
theorem mkb {ops : Array Oper} {Q : Exit → Act → World → Prop} {a : Act} {w : World} {rest : List Oper} {dst : Option Tmp} {ty : TypeId} {pos : String} {after : Array Edge} {x y : Operand}
    (hx : a.eval x = .int .i64 400) (hy : a.eval y = .int .i64 400) (h : ∀ w', Blk w' w.heap.size 4 (bls 400 fun _ => false) → Below w.heap.size w w' → wpList Tryd.prog ops Q rest (a.put dst (.slice (some ⟨w.heap.size, 0, none⟩) 400 400)) w') :
    wpList Tryd.prog ops Q (⟨dst, .makeSlice 89 x y, ty, pos, after, none⟩ :: rest) a w := by
  obtain ⟨w', hr, h1, h2⟩ := run_mkb w
  refine wpList_plain rfl fun K hK => ?_
  unfold Oper.wp execOp
  simp only [Sem.run_bind, hx, hy, hr, Result.andThen_ok]
  exact hK _ _ (h w' h1 h2)
/-- What is marked when the multiples of n below k are. -/
def markTo (out : List Nat) (n k j : Nat) : Bool := ShaM.mark out j || (decide (n ≤ j) && j % n == 0 && decide (j < k))
theorem markTo_zero (out : List Nat) (n j : Nat) : markTo out n n j = ShaM.mark out j := by
  unfold markTo
  have : (decide (n ≤ j) && j % n == 0 && decide (j < n)) = false := by
    rw [Bool.and_eq_false_iff, Bool.and_eq_false_iff]
    by_cases h : n ≤ j
    · right; simp; omega
    · left; left; simp; omega
  rw [this, Bool.or_false]
theorem markTo_full (out : List Nat) (n k j : Nat) (h : j < k) : markTo out n k j = ShaM.mark (out ++ [n]) j := by
  unfold markTo ShaM.mark
  rw [List.any_append, decide_eq_true h, Bool.and_true]
  simp
theorem markTo_step (out : List Nat) {n c : Nat} (hn : 0 < n) (hc : 1 ≤ c) (j : Nat) : (if j = n * c then true else markTo out n (n * c) j) = markTo out n (n * c + n) j := by
  unfold markTo
  by_cases e : j = n * c
  · subst e
    have h1 : n ≤ n * c := Nat.le_mul_of_pos_right n hc
    rw [if_pos rfl, decide_eq_true h1, Nat.mul_mod_right, decide_eq_true (show n * c < n * c + n by omega)]
    simp
  · rw [if_neg e]
    congr 1
    by_cases h : j < n * c
    · rw [decide_eq_true h, decide_eq_true (show j < n * c + n by omega)]
    · by_cases h2 : j < n * c + n
      · have h3 : ¬ j % n = 0 := by
          obtain ⟨r, hr⟩ : ∃ r, j = n * c + r := ⟨j - n * c, by omega⟩
          rw [hr, Nat.mul_add_mod, Nat.mod_eq_of_lt (by omega)]
          omega
        rw [decide_eq_false h, decide_eq_true h2]
        simp [h3]
      · rw [decide_eq_false h, decide_eq_false h2]
theorem sieve_len {many : Nat} : ∀ (fuel n : Nat) (out : List Nat), out.length ≤ (ShaM.sieve many fuel n out).length
  | 0, n, out => Nat.le_refl _
  | fuel + 1, n, out => by
    rw [ShaM.sieve]
    split
    · split
      · exact sieve_len fuel _ _
      · refine Nat.le_trans ?_ (sieve_len fuel _ _)
        simp
    · exact Nat.le_refl _
set_option maxHeartbeats 1000000 in
set_option maxRecDepth 100000 in
theorem primes_any (many : Nat) (hm : many ≤ 1000) (w : World) :
    Calls Tryd.prog 46 #[.int .i64 many] w fun e w' => ∃ A cap, e = .returned (.slice A (ShaM.primesN many).length cap) ∧ (ShaM.primesN many).length ≤ cap ∧ cap ≤ maxLen ∧ Nums .u64 w' w'.heap.size A (ShaM.primesN many) ∧ Below w.heap.size w w' := by
  obtain ⟨R, hR⟩ : ∃ R, R = ShaM.primesN many := ⟨_, rfl⟩
  rw [← hR]
  have HR := hid hR
  clear hR
  go_enter Tryd.func46, Tryd.ntmps46
  go_wp2_with ((with_reducible apply mkb); rfl; rfl; intro w3 b3 h3)
  go_loopw [4, 5] (fun u v wr => ∃ (n f : Nat) (out : List Nat) (A : Option Addr) (cap : Nat), 2 ≤ n ∧ n ≤ 400 ∧ n + f = 402 ∧ v = .int .i64 n ∧ u = .slice A out.length cap ∧ out.length ≤ n ∧ Hid (Own 78 .u64 wr (w.heap.size + 1) u out) ∧ Blk wr w.heap.size 4 (bls 400 (ShaM.mark out)) ∧ Hid (Below w.heap.size w wr) ∧ Hid (ShaM.sieve many f n out = R)) (fun _ v _ => 400 - (intOf v).toNat)
  case atStart => exact ⟨2, 400, [], none, 0, by omega, by omega, by omega, rfl, rfl, by simp, hid Own.nil, b3, hid h3, hid HR.out.symm⟩
  case round =>
    clear b3 h3
    obtain ⟨n, f, out, A, cap, hn2, hn, hf, rfl, rfl, hol, hown, hbl, hbel, hsv⟩ := hrel
    have hexit : out = R → ∃ A' cap', Ending.returned (.slice A out.length cap) = .returned (.slice A' R.length cap') ∧ R.length ≤ cap' ∧ cap' ≤ maxLen ∧ Nums .u64 wr wr.heap.size A' R ∧ Below w.heap.size w wr := fun e => by
      subst e
      obtain ⟨A', cap', e1, e2, e3, e4⟩ := hown.out.any
      simp only [Value.slice.injEq, true_and] at e1
      obtain ⟨rfl, rfl⟩ := e1
      exact ⟨A, cap, rfl, e2, e3, e4, hbel.out⟩
    have HX := hid hexit
    clear hexit
    obtain ⟨f, rfl⟩ : ∃ f', f = f' + 1 := ⟨f - 1, by omega⟩
    have hst := hsv.out
    rw [ShaM.sieve] at hst
    by_cases h4 : n < 400
    · have t4 : (n : Int) < 400 := by omega
      by_cases hlm : out.length < many
      · have t5 : decide (out.length < many) = true := decide_eq_true hlm
        rw [if_pos ⟨h4, hlm⟩] at hst
        have HST := hid hst
        clear hst hsv HX
        have q1 : wr.cell? ⟨w.heap.size, n, none⟩ = some (.bool (ShaM.mark out n)) := by rw [hbl.cell, get_bls h4]
        cases hmk : ShaM.mark out n with
        | true =>
          rw [hmk] at q1
          have hq := HST.out
          rw [if_pos hmk] at hq
          have HQ := hid hq
          clear hq hmk HST
          have HBL := hid hbl
          clear hbl
          go_wp2_with fail
          go_roundw
          case rel => exact ⟨n + 1, f, out, A, cap, by omega, by omega, by omega, by go_num, rfl, by omega, hown, HBL.out, hbel, HQ⟩
          case measure => simp [intOf] <;> omega
        | false =>
          rw [hmk] at q1
          have hq := HST.out
          rw [if_neg (by rw [hmk]; decide)] at hq
          have HQ := hid hq
          clear hq hmk HST
          have hwz := hbel.out.size
          have HBL := hid hbl
          clear hbl
          go_wp2_with (at_builtin; (with_reducible apply wappN elt64); rfl; rfl; exact hown.out.alloc _; exact nums_one (x := n) (B := wr.heap.size + 1) rfl (Nat.lt_succ_self _); rfl; omega; (simp; omega); intro v' w4 hown4 hgr4)
          have b4 := (HBL.out.alloc (.cells #[.int .u64 (n : Nat)] 78)).grown hgr4 hown.out (Nat.lt_succ_self _)
          have bel4 := below_grown (hbel.out.alloc hwz (.cells #[.int .u64 (n : Nat)] 78)) hgr4 hown.out (Nat.le_succ _) (Nat.le_refl _)
          have ho1 : (out ++ [n]).length ≤ n + 1 := by rw [List.length_append, List.length_singleton]; omega
          rw [bls_ext (g := markTo out n (n * 1)) fun k _ => by rw [Nat.mul_one, markTo_zero]] at b4
          have O4 := hid hown4
          have BEL4 := hid bel4
          have B4 := hid b4
          clear hown4 bel4 b4 hgr4 HBL q1
          go_loopw [6] (fun v w5 => ∃ c m : Nat, 1 ≤ c ∧ m = n * c ∧ m < 800 ∧ v = .int .i64 m ∧ Hid (Own 78 .u64 w5 (w.heap.size + 1) v' (out ++ [n])) ∧ Blk w5 w.heap.size 4 (bls 400 (markTo out n m)) ∧ Hid (Below w.heap.size w w5)) (fun v _ => 800 - (intOf v).toNat)
          case atStart => exact ⟨1, n, by omega, by rw [Nat.mul_one], by omega, rfl, O4, by have := B4.out; rwa [Nat.mul_one] at this, BEL4⟩
          case round =>
            clear O4 BEL4 B4
            obtain ⟨c, m, hc, hm2, hm8, rfl, O5, b5, BEL5⟩ := hrel
            have HM2 := hid hm2
            clear hm2
            by_cases h5 : m < 400
            · have t6 : (m : Int) < 400 := by omega
              have q2 := b5.frozen m
              have q3 : wr.cell? ⟨w.heap.size, m, none⟩ = some (.bool (markTo out n m m)) := by rw [b5.cell, get_bls h5]
              have B5 := hid b5
              clear b5
              go_wp2_with fail
              go_roundw
              case rel =>
                refine ⟨c + 1, m + n, by omega, by rw [HM2.out, Nat.mul_succ], by omega, by go_num, hid ?_, ?_, hid (BEL5.out.setCell (Nat.le_refl _) _)⟩
                · refine ⟨O5.out.1, ?_⟩
                  rcases O5.out.2 with h' | ⟨g, cap', cur, hv, hB, hg, hr⟩
                  · exact .inl h'
                  · exact .inr ⟨g, cap', cur, hv, hB, Blk.setCell_other (t := 78) (cs := cur) hg (by show w.heap.size ≠ g; omega) _, hr⟩
                · have h := B5.out.setCell_same m (.bool true)
                  rw [bls_set, bls_ext (g := markTo out n (m + n)) fun k _ => by rw [HM2.out]; exact markTo_step out (by omega) hc k] at h
                  exact h
              case measure => simp [intOf] <;> omega
            · have t6 : decide ((m : Int) < 400) = false := by simp; omega
              rw [bls_ext (g := ShaM.mark (out ++ [n])) fun k hk => markTo_full out n m k (by omega)] at b5
              have B5 := hid b5
              clear b5
              obtain ⟨A2, c2, e1, _, _, _⟩ := O5.out.any
              subst e1
              go_wp2_with fail
              go_roundw
              case rel => exact ⟨n + 1, f, out ++ [n], A2, c2, by omega, by omega, by omega, by go_num, rfl, ho1, O5, B5.out, BEL5, HQ⟩
              case measure => simp [intOf] <;> omega
      · have t5 : decide (out.length < many) = false := decide_eq_false hlm
        rw [if_neg (by omega)] at hst
        have HE := hid (HX.out hst)
        clear hst HX hsv hbl
        go_wp2_with fail
        go_ret
        exact HE.out
    · have t4 : decide ((n : Int) < 400) = false := by simp; omega
      rw [if_neg (by omega)] at hst
      have HE := hid (HX.out hst)
      clear hst HX hsv hbl
      go_wp2_with fail
      go_ret
      exact HE.out
theorem nums_at {l : List Nat} {i : Nat} (h : i < l.length) : l.getD i 0 = l[i] := by
  rw [List.getD_eq_getElem?_getD, List.getElem?_eq_getElem h]; rfl
/-- A slice of the numbers l that was made anew. -/
def Fresh (k : IntKind) (w w' : World) (e : Ending) (l : List Nat) : Prop := ∃ A cap, e = .returned (.slice A l.length cap) ∧ l.length ≤ cap ∧ cap ≤ maxLen ∧ Nums k w' w'.heap.size A l ∧ Below w.heap.size w w'
theorem Own.fresh {e : TypeId} {k : IntKind} {w0 w : World} {B : Nat} {v : Value} {l : List Nat} (h : Own e k w B v l) (hb : Below w0.heap.size w0 w) : Fresh k w0 w (.returned v) l := by
  obtain ⟨A, cap, rfl, h1, h2, h3⟩ := h.any
  exact ⟨A, cap, rfl, h1, h2, h3, hb⟩
set_option maxHeartbeats 400000 in
set_option maxRecDepth 100000 in
theorem roots_any (many : Nat) (cube : Bool) (hm : many ≤ 1000) (hp : ∀ p ∈ ShaM.primesN many, p < 400) (hn : (ShaM.primesN many).length ≤ 1000) (w : World) :
    Calls Tryd.prog 41 #[.int .i64 many, .bool cube] w fun e w' => Fresh .u32 w w' e (ShaM.rootsN many cube) := by
  unfold ShaM.rootsN
  have M := primes_any many hm w
  generalize ShaM.primesN many = P at *
  have HP := hid hp
  clear hp
  obtain ⟨m, hmP⟩ : ∃ m, m = P.length := ⟨_, rfl⟩
  rw [← hmP] at M hn
  go_enter Tryd.func41, Tryd.ntmps41
  have HM0 := hid hmP
  clear hmP
  go_wp2_with fail
  refine M.mono ?_
  rintro e w1 ⟨A, cap, rfl, h1, h2, h3, h4⟩
  have hmP := HM0.out
  clear M
  have H3 := hid h3
  have H4 := hid h4
  have HM := hid hmP
  clear h3 h4 hmP
  go_wp2_with fail
  go_loopw [6, 7] (fun u v wr => ∃ (i : Nat) (vo : Value), i ≤ m ∧ v = .int .i64 i ∧ u = vo ∧ Hid (Own 50 .u32 wr w1.heap.size vo ((P.take i).map fun p => ShaM.rootN p cube 38 0 % 4294967296)) ∧ Hid (Below w1.heap.size w1 wr)) (fun _ v _ => m - (intOf v).toNat)
  case atStart => exact ⟨0, _, Nat.zero_le _, rfl, rfl, hid Own.nil, hid (Below.refl _ _)⟩
  case round =>
    obtain ⟨i, vo, hi, rfl, rfl, ho, hb⟩ := hrel
    by_cases hlt : i < m
    · have ti : (i : Int) < (m : Int) := by omega
      have hiP : i < P.length := by rw [← HM.out]; exact hlt
      obtain ⟨b, o, rfl, hB, hr⟩ := H3.out (by omega)
      have q1 : wr.cell? ⟨b, o + i, none⟩ = some (.int .u64 (P.getD i 0 : Nat)) := (hb.out.cell (p := ⟨b, o + i, none⟩) hB).trans (hr i hiP)
      have hpl : P.getD i 0 < 400 := by rw [nums_at hiP]; exact HP.out _ (List.getElem_mem hiP)
      obtain ⟨p, hpp⟩ : ∃ p, p = P.getD i 0 := ⟨_, rfl⟩
      rw [← hpp] at q1 hpl
      have HPP := hid hpp
      have hsz := hb.out.size
      have hlen : ((P.take i).map fun p => ShaM.rootN p cube 38 0 % 4294967296).length = i := by rw [List.length_map, List.length_take]; omega
      have HLEN := hid hlen
      clear hpp hr hlen
      go_wp2_with fail
      refine (root_any p cube (by omega) wr).mono ?_
      rintro e w' ⟨rfl, rfl⟩
      generalize hR : ShaM.rootN p cube 38 0 % 4294967296 = R
      have HR := hid hR
      clear hR q1
      go_wp2_with (at_builtin; (with_reducible apply wappN elt32); rfl; rfl; exact ho.out.alloc _; exact nums_one (x := R) (B := wr.heap.size + 1) rfl (Nat.lt_succ_self _); rfl; (rw [HLEN.out]; omega); (simp; omega); intro v' w4 hown4 hgr4)
      have bel4 := below_grown (hb.out.alloc hsz (.cells #[.int .u32 (R : Nat)] 50)) hgr4 ho.out (Nat.le_refl _) (Nat.le_refl _)
      go_roundw
      case rel =>
        refine ⟨i + 1, v', by omega, by go_num, rfl, hid ?_, hid bel4⟩
        rw [List.take_succ_eq_append_getElem hiP, List.map_append, List.map_singleton, ← nums_at hiP, ← HPP.out, HR.out]
        exact hown4
      case measure => simp [intOf] <;> omega
    · obtain rfl : i = m := by omega
      have hfin := ho.out.fresh (H4.out.trans (hb.out.mono H4.out.size))
      rw [HM.out, List.take_length] at hfin
      have HF := hid hfin
      clear hfin ho
      go_wp2_with fail
      go_ret
      exact HF.out
theorem salts_any (w : World) : Calls Tryd.prog 41 #[.int .i64 64, .bool true] w fun e w' => Fresh .u32 w w' e ShaM.salts := by
  have h := roots_any 64 true (by omega) (by rw [ShaM.primes_64]; decide) (by rw [ShaM.primes_64]; decide) w
  rw [ShaM.roots_64] at h
  exact h
theorem seeds_any (w : World) : Calls Tryd.prog 41 #[.int .i64 8, .bool false] w fun e w' => Fresh .u32 w w' e [ShaM.seeds.a, ShaM.seeds.b, ShaM.seeds.c, ShaM.seeds.d, ShaM.seeds.e, ShaM.seeds.f, ShaM.seeds.g, ShaM.seeds.h] := by
  have h := roots_any 8 false (by omega) (by rw [ShaM.primes_8]; decide) (by rw [ShaM.primes_8]; decide) w
  rw [ShaM.roots_8] at h
  exact h
end Go.Proofs.YtnnhnlabkbjacaaDoor
